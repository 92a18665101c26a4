/- What may stand for what is an order, as plain values. -/
import Derived.Test.YtjhiflhmefhogaaJKsI

namespace Go.Proofs.Ytjhiflhmefhogaa
open Go.RowKit
set_option linter.unusedVariables false

/-- The name above. -/
def nxt (l : List Nc) (nm : List UInt8) : Option (List UInt8) := match fstN l nm with
  | none => none
  | some p => if supAt l p = [] then none else some (supAt l p)
def itr (l : List Nc) : Nat → List UInt8 → Option (List UInt8)
  | 0, nm => some nm
  | k + 1, nm => (nxt l nm).bind (itr l k)
theorem itr_add (l : List Nc) : ∀ (j k : Nat) (nm : List UInt8), itr l (j + k) nm = (itr l j nm).bind (itr l k)
  | 0, k, nm => by simp [itr]
  | j + 1, k, nm => by
    rw [show j + 1 + k = (j + k) + 1 by omega]
    unfold itr
    cases h : nxt l nm with
    | none => rfl
    | some s => simp only [Option.bind_some]; exact itr_add l j k s
theorem upF_itr (l : List Nc) : ∀ (f : Nat) (met : List Nat) (nm : List UInt8) (j : Nat) (s : List UInt8), (upF l f met (fstN l nm))[j]? = some s → itr l (j + 1) nm = some s
  | 0, met, nm, j, s, h => by simp [upF] at h
  | f + 1, met, nm, j, s, h => by
    cases hp : fstN l nm with
    | none => rw [hp] at h; simp [upF] at h
    | some p =>
      rw [hp] at h
      unfold upF at h
      by_cases hs : supAt l p = []
      · rw [if_pos hs] at h; simp at h
      rw [if_neg hs] at h
      have hn : nxt l nm = some (supAt l p) := by unfold nxt; rw [hp]; simp only; rw [if_neg hs]
      unfold itr
      rw [hn]
      simp only [Option.bind_some]
      cases hq : fstN l (supAt l p) with
      | none =>
        rw [hq] at h
        simp only at h
        cases j with
        | zero => simpa [itr] using h
        | succ j => simp at h
      | some q =>
        rw [hq] at h
        simp only at h
        by_cases hm : q ∈ p :: met
        · rw [if_pos hm] at h; simp at h
        rw [if_neg hm] at h
        cases j with
        | zero => simpa [itr] using h
        | succ j =>
          rw [List.getElem?_cons_succ, ← hq] at h
          exact upF_itr l f (p :: met) (supAt l p) j s h
theorem upL_itr {l : List Nc} {nm : List UInt8} {j : Nat} {s : List UInt8} (h : (upL l nm)[j]? = some s) : itr l (j + 1) nm = some s := upF_itr l _ _ nm j s h
def lastUp (l : List Nc) (nm : List UInt8) : List UInt8 := (upL l nm).getLast?.getD nm
theorem itr_last (l : List Nc) (nm : List UInt8) : itr l (upL l nm).length nm = some (lastUp l nm) := by
  unfold lastUp
  cases h : (upL l nm).length with
  | zero =>
    have := List.eq_nil_of_length_eq_zero h
    rw [this]
    rfl
  | succ k =>
    have h1 : (upL l nm)[k]? = (upL l nm).getLast? := by rw [List.getLast?_eq_getElem?, h]; rfl
    obtain ⟨s, hs⟩ : ∃ s, (upL l nm)[k]? = some s := ⟨_, List.getElem?_eq_getElem (by omega)⟩
    rw [← h1, hs]
    exact upL_itr hs
theorem itr_end {l : List Nc} {nm : List UInt8} (h : nxt l (lastUp l nm) = none) (k : Nat) (hk : (upL l nm).length < k) : itr l k nm = none := by
  obtain ⟨m, rfl⟩ : ∃ m, k = (upL l nm).length + (m + 1) := ⟨k - (upL l nm).length - 1, by omega⟩
  rw [itr_add, itr_last]
  simp only [Option.bind_some]
  unfold itr
  rw [h]
  rfl
/-- Where going up ends from each class. -/
def EndsAll (l : List Nc) : Prop := ∀ c ∈ l, nxt l (lastUp l c.name) = none
theorem up_class {l : List Nc} {x y : List UInt8} (h : y ∈ upL l x) : ∃ c ∈ l, c.name = x := by
  cases hp : fstN l x with
  | none =>
    unfold upL at h
    rw [hp] at h
    simp [upF] at h
  | some p =>
    obtain ⟨c, hc, hn, _⟩ := fstN_some hp
    exact ⟨c, List.mem_of_getElem? hc, hn⟩
theorem up_trans {l : List Nc} (hE : EndsAll l) {x y z : List UInt8} (h1 : y ∈ upL l x) (h2 : z ∈ upL l y) : z ∈ upL l x := by
  obtain ⟨c, hc, rfl⟩ := up_class h1
  obtain ⟨i, hi⟩ := List.getElem?_of_mem h1
  obtain ⟨j, hj⟩ := List.getElem?_of_mem h2
  have e : itr l ((i + 1) + (j + 1)) c.name = some z := by
    rw [itr_add, upL_itr hi]
    exact upL_itr hj
  have hle : (i + 1) + (j + 1) ≤ (upL l c.name).length := by
    apply Classical.byContradiction
    intro hn
    rw [itr_end (hE c hc) _ (by omega)] at e
    cases e
  obtain ⟨s, hs⟩ : ∃ s, (upL l c.name)[i + 1 + j]? = some s := ⟨_, List.getElem?_eq_getElem (by omega)⟩
  have e2 := upL_itr hs
  rw [show i + 1 + j + 1 = (i + 1) + (j + 1) by omega, e] at e2
  injection e2 with e2
  rw [e2]
  exact List.mem_of_getElem? hs
def Desc (t : Ty) : Prop := (prnP t).2 = 0
theorem spel_kind {t : Ty} (h : spelP t ≠ []) : t.kind = 1 ∨ t.kind = 2 ∨ t.kind = 4 := by
  unfold spelP at h
  by_cases h1 : t.kind = 1
  · exact .inl h1
  by_cases h2 : t.kind = 2
  · exact .inr (.inl h2)
  by_cases h4 : t.kind = 4
  · exact .inr (.inr h4)
  rw [if_neg h1, if_neg h2, if_neg h4] at h
  exact absurd rfl h
theorem desc_kind {t : Ty} (h : Desc t) : t.kind = 1 ∨ t.kind = 2 ∨ t.kind = 4 := by
  apply spel_kind
  intro e
  unfold Desc prnP at h
  rw [e] at h
  have : parP [] = (ty0, 100) := rfl
  rw [this] at h
  simp at h
theorem desc_elem {t : Ty} (h4 : (elemP t).1.kind = 4) : Desc (elemP t).1 := by
  unfold elemP at h4 ⊢
  split
  · rename_i hc
    rw [if_pos hc] at h4
    split
    · rename_i hb
      rw [if_pos hb] at h4
      simp at h4
    · rename_i hb
      obtain ⟨s, hs⟩ := arr_cons hc.2.1
      rw [hs] at hc hb ⊢
      simp only [List.drop_succ_cons, List.drop_zero] at hb ⊢
      obtain ⟨g1, g2⟩ := arr_inner s hc.2.2 hb
      have hp := parP_ok g1 g2
      have := prn_par (s := s) (by rw [hp])
      rw [hp] at this
      unfold Desc
      rw [this]
  · rename_i hc
    rw [if_neg hc] at h4
    simp [ty0] at h4
theorem obj_arr : arrB objN = false := rfl
theorem up_obj {l : List Nc} (h : ∀ c ∈ l, c.name = objN → c.sup = []) : upL l objN = [] := by
  unfold upL
  cases hp : fstN l objN with
  | none => simp [upF]
  | some p =>
    obtain ⟨c, hc, hn, _⟩ := fstN_some hp
    have hs : supAt l p = [] := by rw [supAt_is hc]; exact h c (List.mem_of_getElem? hc) hn
    simp [upF, hs]
theorem mayP_ref {l : List Nc} {f : Nat} {x y : Ty} (hx : Desc x) (hy : Desc y) (hne : x ≠ y) (h : mayP l f x y = true) : x.kind = 4 ∧ y.kind = 4 ∧ refP l f x y = true := by
  rw [mayP_is] at h
  have hx' := desc_kind hx
  have hy' := desc_kind hy
  rw [if_neg (by rintro (h | h); omega; exact hne h)] at h
  by_cases h4 : y.kind = 4
  case neg => rw [if_pos h4] at h; cases h
  rw [if_neg (by simpa using h4)] at h
  by_cases hx4 : x.kind = 4
  case neg =>
    rw [if_pos hx4] at h
    have : x.kind = 3 := by simpa using h
    omega
  rw [if_neg (by simpa using hx4)] at h
  exact ⟨hx4, h4, h⟩
theorem mayP_of {l : List Nc} {f : Nat} {x y : Ty} (hx : x.kind = 4) (hy : y.kind = 4) (h : x ≠ y → refP l f x y = true) : mayP l f x y = true := by
  rw [mayP_is]
  by_cases he : x = y
  · rw [if_pos (.inr he)]
  rw [if_neg (by rintro (h | h); omega; exact he h), if_neg (by simpa using hy), if_neg (by simpa using hx)]
  exact h he
theorem may_trans {l : List Nc} (hE : EndsAll l) (hO : ∀ c ∈ l, c.name = objN → c.sup = []) : ∀ (f : Nat) (x y z : Ty), Desc x → Desc y → Desc z → mayP l f x y = true → mayP l f y z = true → mayP l f x z = true := by
  intro f
  induction f with
  | zero => exact fun x y z hx hy hz h1 h2 => may_go hE hO 0 (fun g hg => by omega) x y z hx hy hz h1 h2
  | succ f ih => exact fun x y z hx hy hz h1 h2 => may_go hE hO (f + 1) (fun g hg => by rw [show g = f by omega]; exact ih) x y z hx hy hz h1 h2
where
  may_go {l : List Nc} (hE : EndsAll l) (hO : ∀ c ∈ l, c.name = objN → c.sup = []) (f : Nat) (ih : ∀ g, g + 1 = f → ∀ (x y z : Ty), Desc x → Desc y → Desc z → mayP l g x y = true → mayP l g y z = true → mayP l g x z = true) (x y z : Ty) (hx : Desc x) (hy : Desc y) (hz : Desc z) (h1 : mayP l f x y = true) (h2 : mayP l f y z = true) : mayP l f x z = true := by
    by_cases exy : x = y
    · rw [exy]; exact h2
    by_cases eyz : y = z
    · rw [← eyz]; exact h1
    obtain ⟨x4, y4, r1⟩ := mayP_ref hx hy exy h1
    obtain ⟨_, z4, r2⟩ := mayP_ref hy hz eyz h2
    refine mayP_of x4 z4 fun _ => ?_
    by_cases zo : z.name = objN
    · exact refP_yes zo
    by_cases yo : y.name = objN
    · exfalso
      by_cases ha : arrB y.name ≠ arrB z.name
      · rw [refP_no zo ha] at r2; cases r2
      · have ha' : arrB y.name = arrB z.name := Classical.byContradiction ha
        have hay : arrB y.name = false := by rw [yo]; rfl
        rw [refP_cls zo hay (by rw [← ha', hay]), yo, up_obj hO] at r2
        simp at r2
    by_cases ha1 : arrB x.name ≠ arrB y.name
    · rw [refP_no yo ha1] at r1; cases r1
    by_cases ha2 : arrB y.name ≠ arrB z.name
    · rw [refP_no zo ha2] at r2; cases r2
    have a1 : arrB x.name = arrB y.name := Classical.byContradiction ha1
    have a2 : arrB y.name = arrB z.name := Classical.byContradiction ha2
    cases hax : arrB x.name
    · have hay : arrB y.name = false := by rw [← a1, hax]
      have haz : arrB z.name = false := by rw [← a2, hay]
      rw [refP_cls yo hax hay] at r1
      rw [refP_cls zo hay haz] at r2
      rw [refP_cls zo hax haz]
      exact decide_eq_true (up_trans hE (of_decide_eq_true r1) (of_decide_eq_true r2))
    · have hay : arrB y.name = true := by rw [← a1, hax]
      have haz : arrB z.name = true := by rw [← a2, hay]
      rw [refP_arr yo hax hay] at r1
      rw [refP_arr zo hay haz] at r2
      rw [refP_arr zo hax haz]
      unfold arrP at r1 r2 ⊢
      cases f with
      | zero => simp at r1
      | succ g =>
        simp only [Bool.and_eq_true, decide_eq_true_eq] at r1 r2 ⊢
        exact ⟨⟨r1.1.1, r2.1.2⟩, ih g rfl _ _ _ (desc_elem r1.1.1) (desc_elem r1.1.2) (desc_elem r2.1.2) r1.2 r2.2⟩
theorem may_self (l : List Nc) (f : Nat) (x : Ty) : mayP l f x x = true := by rw [mayP_is, if_pos (.inr rfl)]
end Go.Proofs.Ytjhiflhmefhogaa
