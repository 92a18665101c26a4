/- Joined: Sh6 Sh7 Sh8 Sh9 SiA. -/
import Derived.Test.YteooppjbpekepaaGreatDoorJShW
import Derived.Test.YteooppjbpekepaaGreatDoorJSA
import Derived.Test.YteooppjbpekepaaGreatDoorJK3
import Derived.Test.YteooppjbpekepaaGreatDoorJK7
import Derived.Test.YteooppjbpekepaaGreatDoorJSD
import Derived.Deep.RegionHeld3

/- Layer 11: what may stand for what, of any types; deeds done to frames of which one may stand for the other, as plain values. -/
namespace Go.Proofs.YteooppjbpekepaaGreatDoor
open Go.RowKit
set_option linter.unusedVariables false
set_option maxRecDepth 100000

theorem refP_arr_is {l : List Nc} {f : Nat} {x y : Ty} (hx : arrB x.name = true) (hn : y.name ≠ objN) (h : refP l f x y = true) : arrB y.name = true ∧ ∃ g, f = g + 1 ∧ (elemP x).1.kind = 4 ∧ (elemP y).1.kind = 4 ∧ mayP l g (elemP x).1 (elemP y).1 = true := by
  by_cases ha : arrB x.name ≠ arrB y.name
  · rw [refP_no hn ha] at h; cases h
  have ha' : arrB x.name = arrB y.name := Classical.byContradiction ha
  have hy : arrB y.name = true := by rw [← ha', hx]
  rw [refP_arr hn hx hy] at h
  refine ⟨hy, ?_⟩
  unfold arrP at h
  cases f with
  | zero => cases h
  | succ g =>
    simp only [Bool.and_eq_true, decide_eq_true_eq] at h
    exact ⟨g, rfl, h.1.1, h.1.2, h.2⟩
theorem refP_arr_of {l : List Nc} {g : Nat} {x y : Ty} (hx : arrB x.name = true) (hy : arrB y.name = true) (hn : y.name ≠ objN) (h1 : (elemP x).1.kind = 4) (h2 : (elemP y).1.kind = 4) (h : mayP l g (elemP x).1 (elemP y).1 = true) : refP l (g + 1) x y = true := by
  rw [refP_arr hn hx hy]
  unfold arrP
  simp only [Bool.and_eq_true, decide_eq_true_eq]
  exact ⟨⟨h1, h2⟩, h⟩
theorem mayP_parts {l : List Nc} {f : Nat} {x y : Ty} (h : mayP l f x y = true) : y.kind = 0 ∨ x = y ∨ y.kind = 4 ∧ (x.kind = 3 ∨ x.kind = 4 ∧ refP l f x y = true) := by
  rw [mayP_is] at h
  by_cases h0 : y.kind = 0 ∨ x = y
  · exact h0.elim .inl fun e => .inr (.inl e)
  rw [if_neg h0] at h
  by_cases h4 : y.kind = 4
  case neg => rw [if_pos h4] at h; cases h
  rw [if_neg (by simpa using h4)] at h
  by_cases hx4 : x.kind = 4
  case neg =>
    rw [if_pos hx4] at h
    exact .inr (.inr ⟨h4, .inl (by simpa using h)⟩)
  rw [if_neg (by simpa using hx4)] at h
  exact .inr (.inr ⟨h4, .inr ⟨hx4, h⟩⟩)
theorem mayP_mk {l : List Nc} {f : Nat} {x y : Ty} (h : y.kind = 0 ∨ x = y ∨ y.kind = 4 ∧ (x.kind = 3 ∨ x.kind = 4 ∧ refP l f x y = true)) : mayP l f x y = true := by
  rw [mayP_is]
  by_cases h0 : y.kind = 0 ∨ x = y
  · rw [if_pos h0]
  rw [if_neg h0]
  rcases h with h | h | ⟨h4, h⟩
  · exact absurd (.inl h) h0
  · exact absurd (.inr h) h0
  rw [if_neg (by simpa using h4)]
  rcases h with h | ⟨hx, h⟩
  · rw [if_pos (by omega)]
    exact decide_eq_true h
  · rw [if_neg (by simpa using hx)]; exact h
theorem mayP_more {l : List Nc} : ∀ (f : Nat) (x y : Ty), mayP l f x y = true → mayP l (f + 1) x y = true := by
  intro f
  induction f with
  | zero =>
    intro x y h
    rcases mayP_parts h with h | h | ⟨h4, h | ⟨hx, h⟩⟩
    · exact mayP_mk (.inl h)
    · exact mayP_mk (.inr (.inl h))
    · exact mayP_mk (.inr (.inr ⟨h4, .inl h⟩))
    · refine mayP_mk (.inr (.inr ⟨h4, .inr ⟨hx, ?_⟩⟩))
      by_cases hn : y.name = objN
      · exact refP_yes hn
      cases hax : arrB x.name with
      | true => obtain ⟨_, g, e, _⟩ := refP_arr_is hax hn h; omega
      | false =>
        by_cases hay : arrB y.name = true
        · rw [refP_no hn (by rw [hax, hay]; simp)] at h; cases h
        · have hay' : arrB y.name = false := by simpa using hay
          rw [refP_cls hn hax hay'] at h ⊢; exact h
  | succ f ih =>
    intro x y h
    rcases mayP_parts h with h | h | ⟨h4, h | ⟨hx, h⟩⟩
    · exact mayP_mk (.inl h)
    · exact mayP_mk (.inr (.inl h))
    · exact mayP_mk (.inr (.inr ⟨h4, .inl h⟩))
    · refine mayP_mk (.inr (.inr ⟨h4, .inr ⟨hx, ?_⟩⟩))
      by_cases hn : y.name = objN
      · exact refP_yes hn
      cases hax : arrB x.name with
      | true =>
        obtain ⟨hay, g, e, h1, h2, h3⟩ := refP_arr_is hax hn h
        injection e with e
        subst e
        exact refP_arr_of hax hay hn h1 h2 (ih _ _ h3)
      | false =>
        by_cases hay : arrB y.name = true
        · rw [refP_no hn (by rw [hax, hay]; simp)] at h; cases h
        · have hay' : arrB y.name = false := by simpa using hay
          rw [refP_cls hn hax hay'] at h ⊢; exact h
theorem mayP_less {l : List Nc} : ∀ (f : Nat) (x y : Ty), x.name.length ≤ f → mayP l (f + 1) x y = true → mayP l f x y = true := by
  intro f
  induction f with
  | zero =>
    intro x y hl h
    rcases mayP_parts h with h | h | ⟨h4, h | ⟨hx, h⟩⟩
    · exact mayP_mk (.inl h)
    · exact mayP_mk (.inr (.inl h))
    · exact mayP_mk (.inr (.inr ⟨h4, .inl h⟩))
    · refine mayP_mk (.inr (.inr ⟨h4, .inr ⟨hx, ?_⟩⟩))
      by_cases hn : y.name = objN
      · exact refP_yes hn
      cases hax : arrB x.name with
      | true =>
        have : x.name = [] := List.eq_nil_of_length_eq_zero (by omega)
        rw [this] at hax; simp [arrB] at hax
      | false =>
        by_cases hay : arrB y.name = true
        · rw [refP_no hn (by rw [hax, hay]; simp)] at h; cases h
        · have hay' : arrB y.name = false := by simpa using hay
          rw [refP_cls hn hax hay'] at h ⊢; exact h
  | succ f ih =>
    intro x y hl h
    rcases mayP_parts h with h | h | ⟨h4, h | ⟨hx, h⟩⟩
    · exact mayP_mk (.inl h)
    · exact mayP_mk (.inr (.inl h))
    · exact mayP_mk (.inr (.inr ⟨h4, .inl h⟩))
    · refine mayP_mk (.inr (.inr ⟨h4, .inr ⟨hx, ?_⟩⟩))
      by_cases hn : y.name = objN
      · exact refP_yes hn
      cases hax : arrB x.name with
      | true =>
        obtain ⟨hay, g, e, h1, h2, h3⟩ := refP_arr_is hax hn h
        injection e with e
        subst e
        exact refP_arr_of hax hay hn h1 h2 (ih _ _ (by have := elem_shorter x h1; omega) h3)
      | false =>
        by_cases hay : arrB y.name = true
        · rw [refP_no hn (by rw [hax, hay]; simp)] at h; cases h
        · have hay' : arrB y.name = false := by simpa using hay
          rw [refP_cls hn hax hay'] at h ⊢; exact h
/-- The reckoning's depth counts for nothing. -/
theorem mayT_at {l : List Nc} {x y : Ty} : ∀ k, mayP l (x.name.length + k) x y = true ↔ mayT l x y = true
  | 0 => Iff.rfl
  | k + 1 => ⟨fun h => (mayT_at k).1 (mayP_less _ _ _ (by omega) h), fun h => mayP_more _ _ _ ((mayT_at k).2 h)⟩
theorem mayT_of {l : List Nc} {f : Nat} {x y : Ty} (hf : x.name.length ≤ f) : mayP l f x y = true ↔ mayT l x y = true := by
  have := mayT_at (l := l) (x := x) (y := y) (f - x.name.length)
  rw [show x.name.length + (f - x.name.length) = f by omega] at this
  exact this
theorem mayP_trans {l : List Nc} (hE : EndsAll l) (hO : ∀ c ∈ l, c.name = objN → c.sup = []) : ∀ (f : Nat) (x y z : Ty), mayP l f x y = true → mayP l f y z = true → mayP l f x z = true := by
  intro f
  induction f using Nat.strongRecOn with
  | _ f ih =>
    intro x y z h1 h2
    rcases mayP_parts h1 with hy0 | rfl | ⟨hy4, hx⟩
    · rcases mayP_parts h2 with h | h | ⟨h4, h | ⟨h, _⟩⟩
      · exact mayP_mk (.inl h)
      · exact mayP_mk (.inl (by rw [← h]; exact hy0))
      · omega
      · omega
    · exact h2
    rcases mayP_parts h2 with h | rfl | ⟨hz4, h | ⟨_, r2⟩⟩
    · exact mayP_mk (.inl h)
    · exact h1
    · omega
    rcases hx with hx3 | ⟨hx4, r1⟩
    · exact mayP_mk (.inr (.inr ⟨hz4, .inl hx3⟩))
    refine mayP_mk (.inr (.inr ⟨hz4, .inr ⟨hx4, ?_⟩⟩))
    by_cases zo : z.name = objN
    · exact refP_yes zo
    by_cases yo : y.name = objN
    · exfalso
      have hay : arrB y.name = false := by rw [yo]; rfl
      by_cases ha : arrB y.name ≠ arrB z.name
      · rw [refP_no zo ha] at r2; cases r2
      · have ha' : arrB y.name = arrB z.name := Classical.byContradiction ha
        rw [refP_cls zo hay (by rw [← ha', hay]), yo, up_obj hO] at r2
        simp at r2
    cases hax : arrB x.name with
    | true =>
      obtain ⟨hay, g, e, a1, a2, a3⟩ := refP_arr_is hax yo r1
      obtain ⟨haz, g', e', b1, b2, b3⟩ := refP_arr_is hay zo r2
      subst e
      injection e' with e'
      subst e'
      exact refP_arr_of hax haz zo a1 b2 (ih g (by omega) _ _ _ a3 b3)
    | false =>
      by_cases ha1 : arrB x.name ≠ arrB y.name
      · rw [refP_no yo ha1] at r1; cases r1
      have hay : arrB y.name = false := by rw [← Classical.byContradiction ha1, hax]
      by_cases ha2 : arrB y.name ≠ arrB z.name
      · rw [refP_no zo ha2] at r2; cases r2
      have haz : arrB z.name = false := by rw [← Classical.byContradiction ha2, hay]
      rw [refP_cls yo hax hay] at r1
      rw [refP_cls zo hay haz] at r2
      rw [refP_cls zo hax haz]
      exact decide_eq_true (up_trans hE (of_decide_eq_true r1) (of_decide_eq_true r2))
theorem mayT_trans {l : List Nc} (hE : EndsAll l) (hO : ∀ c ∈ l, c.name = objN → c.sup = []) {x y z : Ty} (h1 : mayT l x y = true) (h2 : mayT l y z = true) : mayT l x z = true := by
  have e1 := (mayT_of (l := l) (y := y) (show x.name.length ≤ x.name.length + y.name.length by omega)).2 h1
  have e2 := (mayT_of (l := l) (y := z) (show y.name.length ≤ x.name.length + y.name.length by omega)).2 h2
  exact (mayT_of (by omega)).1 (mayP_trans hE hO _ _ _ _ e1 e2)
/-- t may stand for s, and no long for what is none. -/
structure Rl (l : List Nc) (t s : Ty) : Prop where
  may : mayT l t s = true
  lng : t.kind = 2 → s.kind = 2
theorem Rl.same (l : List Nc) (t : Ty) : Rl l t t := ⟨may_self l _ t, id⟩
theorem Rl.parts {l : List Nc} {t s : Ty} (h : Rl l t s) : s.kind = 0 ∨ t = s ∨ s.kind = 4 ∧ (t.kind = 3 ∨ t.kind = 4 ∧ refP l t.name.length t s = true) := mayP_parts h.may
theorem Rl.long {l : List Nc} {t s : Ty} (h : Rl l t s) : t.kind = 2 ↔ s.kind = 2 := by
  refine ⟨h.lng, fun e => ?_⟩
  rcases h.parts with h | rfl | ⟨h, _⟩
  · omega
  · exact e
  · omega
theorem fit_int {l : List Nc} {t s : Ty} (h : Rl l t s) (f : isIntB s = true) : isIntB t = true := by
  unfold isIntB at *
  have f := of_decide_eq_true f
  rcases h.parts with h | rfl | ⟨h, _⟩
  · omega
  · exact decide_eq_true f
  · omega
theorem fit_long {l : List Nc} {t s : Ty} (h : Rl l t s) (f : isLongB s = true) : isLongB t = true := by
  unfold isLongB at *
  exact decide_eq_true (h.long.2 (of_decide_eq_true f))
theorem fit_nolong {l : List Nc} {t s : Ty} (h : Rl l t s) (f : isLongB s = false) : isLongB t = false := by
  unfold isLongB at *
  exact decide_eq_false fun e => of_decide_eq_false f (h.lng e)
theorem fit_single {l : List Nc} {t s : Ty} (h : Rl l t s) (f : singleB s = true) : singleB t = true := by
  unfold singleB at *
  rw [fit_nolong h (by simpa using f)]; rfl
theorem fit_ref {l : List Nc} {t s : Ty} (h : Rl l t s) (f : isRefB s = true) : isRefB t = true := by
  unfold isRefB at *
  rw [Bool.or_eq_true, decide_eq_true_eq, decide_eq_true_eq] at f ⊢
  rcases h.parts with h | rfl | ⟨h, h | ⟨h, _⟩⟩
  · omega
  · exact f
  · exact .inl h
  · exact .inr h
theorem fit_may {l : List Nc} (hE : EndsAll l) (hO : ∀ c ∈ l, c.name = objN → c.sup = []) (y : Ty) {t s : Ty} (h : Rl l t s) (f : mayT l s y = true) : mayT l t y = true := mayT_trans hE hO h.may f
theorem elem_arr {s : Ty} (h : (elemP s).2 = 0) : s.kind = 4 ∧ arrB s.name = true := by
  unfold elemP at h
  split at h
  · rename_i c; exact ⟨c.1, c.2.1⟩
  · cases h
theorem elem_kind {s : Ty} (h : (elemP s).1.kind = 4) : (elemP s).2 = 0 := by
  unfold elemP at h ⊢
  split
  · split <;> rfl
  · rename_i c
    rw [if_neg c] at h
    exact absurd h (by decide)
theorem arr_noobj {s : List UInt8} (h : arrB s = true) : s ≠ objN := fun e => by rw [e] at h; exact absurd h (by decide)
/-- Of arrays. -/
theorem elem_rl {l : List Nc} {t s : Ty} (h : Rl l t s) (hs : (elemP s).2 = 0) : t = s ∨ t.kind = 3 ∨ (elemP t).1.kind = 4 ∧ (elemP s).1.kind = 4 ∧ mayT l (elemP t).1 (elemP s).1 = true := by
  obtain ⟨h4, ha⟩ := elem_arr hs
  rcases h.parts with h0 | rfl | ⟨_, h3 | ⟨ht4, r⟩⟩
  · omega
  · exact .inl rfl
  · exact .inr (.inl h3)
  · right; right
    have hn := arr_noobj ha
    have hat : arrB t.name = true := by
      by_cases e : arrB t.name ≠ arrB s.name
      · rw [refP_no hn e] at r; cases r
      · rw [Classical.byContradiction e, ha]
    obtain ⟨_, g, e, e1, e2, e3⟩ := refP_arr_is hat hn r
    refine ⟨e1, e2, (mayT_of ?_).1 e3⟩
    have := elem_shorter t e1
    omega
theorem fit_arr {l : List Nc} {t s : Ty} (h : Rl l t s) (f : arrM s = true) : arrM t = true := by
  unfold arrM at *
  rw [Bool.or_eq_true, decide_eq_true_eq, decide_eq_true_eq] at f ⊢
  rcases f with f | f
  · rcases elem_rl h f with rfl | h | ⟨h, _⟩
    · exact .inl f
    · exact .inr h
    · exact .inl (elem_kind h)
  · rcases h.parts with h | rfl | ⟨h, _⟩
    · omega
    · exact .inr f
    · omega
theorem fit_refs {l : List Nc} {t s : Ty} (h : Rl l t s) (f : refsM s = true) : refsM t = true := by
  unfold refsM at *
  rw [Bool.or_eq_true, decide_eq_true_eq, decide_eq_true_eq] at f ⊢
  rcases f with f | f
  · rcases elem_rl h (elem_kind f) with rfl | h | ⟨h, _⟩
    · exact .inl f
    · exact .inr h
    · exact .inl h
  · rcases h.parts with h | rfl | ⟨h, _⟩
    · omega
    · exact .inr f
    · omega
theorem elem_no {t : Ty} (h : t.kind ≠ 4) : elemP t = (ty0, 100) := by
  unfold elemP
  rw [if_neg fun c => h c.1]
/-- What comes of an array's member. -/
theorem elem_stand {l : List Nc} {t s : Ty} (h : Rl l t s) (f : refsM s = true) : Rl l (elemOf t) (elemOf s) := by
  unfold refsM at f
  rw [Bool.or_eq_true, decide_eq_true_eq, decide_eq_true_eq] at f
  rcases f with f | f
  · have hz := elem_kind f
    rcases elem_rl h hz with rfl | h3 | ⟨e1, e2, e3⟩
    · exact Rl.same _ _
    · unfold elemOf
      rw [if_pos hz, elem_no (by omega)]
      rw [if_neg (by decide)]
      exact ⟨mayP_mk (.inr (.inr ⟨f, .inl rfl⟩)), fun e => absurd e (by decide)⟩
    · unfold elemOf
      rw [if_pos hz, if_pos (elem_kind e1)]
      exact ⟨e3, fun e => by omega⟩
  · rcases h.parts with h | rfl | ⟨h, _⟩
    · omega
    · exact Rl.same _ _
    · omega
end Go.Proofs.YteooppjbpekepaaGreatDoor

/- Layer 11: deeds done to two frames of which one may stand for the other, as plain values (written by mk/mksh7.py). -/
namespace Go.Proofs.YteooppjbpekepaaGreatDoor
open Go.RowKit
set_option linter.unusedVariables false
set_option maxRecDepth 100000

/-- Lists, one by one. -/
def LR (l : List Nc) (a b : List Ty) : Prop := a.length = b.length ∧ ∀ (j : Nat) t s, a[j]? = some t → b[j]? = some s → Rl l t s
theorem LR.same (l : List Nc) (a : List Ty) : LR l a a := ⟨rfl, fun j t s h1 h2 => by rw [h1] at h2; injection h2 with h2; subst h2; exact Rl.same l t⟩
theorem LR.get {l : List Nc} {a b : List Ty} (h : LR l a b) {j : Nat} {s : Ty} (hs : b[j]? = some s) : ∃ t, a[j]? = some t ∧ Rl l t s := by
  have hj : j < a.length := by have := (List.getElem?_eq_some_iff.1 hs).1; rw [h.1]; exact this
  exact ⟨a[j], List.getElem?_eq_getElem hj, h.2 j _ _ (List.getElem?_eq_getElem hj) hs⟩
theorem LR.no {l : List Nc} {a b : List Ty} (h : LR l a b) {j : Nat} (hs : b[j]? = none) : a[j]? = none := by
  rw [List.getElem?_eq_none_iff] at hs ⊢
  rw [h.1]; exact hs
theorem LR.append {l : List Nc} {a b c d : List Ty} (h : LR l a b) (g : LR l c d) : LR l (a ++ c) (b ++ d) := by
  refine ⟨by rw [List.length_append, List.length_append, h.1, g.1], fun j t s h1 h2 => ?_⟩
  by_cases hj : j < a.length
  · rw [List.getElem?_append_left hj] at h1
    rw [List.getElem?_append_left (by rw [← h.1]; exact hj)] at h2
    exact h.2 j t s h1 h2
  · rw [List.getElem?_append_right (by omega)] at h1
    rw [List.getElem?_append_right (by rw [← h.1]; omega), ← h.1] at h2
    exact g.2 _ t s h1 h2
theorem LR.one {l : List Nc} {t s : Ty} (h : Rl l t s) : LR l [t] [s] := ⟨rfl, fun j x y h1 h2 => by
  cases j with
  | zero => simp at h1 h2; subst h1 h2; exact h
  | succ j => simp at h1⟩
theorem LR.take {l : List Nc} {a b : List Ty} (h : LR l a b) (n : Nat) : LR l (a.take n) (b.take n) := ⟨by rw [List.length_take, List.length_take, h.1], fun j t s h1 h2 => by
  rw [List.getElem?_take] at h1 h2
  split at h1
  · rename_i hj
    rw [if_pos hj] at h2
    exact h.2 j t s h1 h2
  · cases h1⟩
theorem LR.drop1 {l : List Nc} {a b : List Ty} (h : LR l a b) : LR l a.dropLast b.dropLast := by
  rw [List.dropLast_eq_take, List.dropLast_eq_take, h.1]
  exact h.take _
theorem LR.set {l : List Nc} {a b : List Ty} (h : LR l a b) (k : Nat) {t s : Ty} (g : Rl l t s) : LR l (a.set k t) (b.set k s) := ⟨by rw [List.length_set, List.length_set, h.1], fun j x y h1 h2 => by
  rw [List.getElem?_set] at h1 h2
  by_cases hk : k = j
  · rw [if_pos hk] at h1 h2
    split at h1
    · split at h2
      · injection h1 with h1; injection h2 with h2; subst h1 h2; exact g
      · cases h2
    · cases h1
  · rw [if_neg hk] at h1 h2
    exact h.2 j x y h1 h2⟩
theorem LR.rev {l : List Nc} {a b : List Ty} (h : LR l a b) : LR l a.reverse b.reverse := ⟨by rw [List.length_reverse, List.length_reverse, h.1], fun j t s h1 h2 => by
  have hj : j < a.length := by have := (List.getElem?_eq_some_iff.1 h1).1; simpa using this
  rw [List.getElem?_reverse hj] at h1
  rw [List.getElem?_reverse (by rw [← h.1]; exact hj), ← h.1] at h2
  exact h.2 _ t s h1 h2⟩
theorem LR.last {l : List Nc} {a b : List Ty} (h : LR l a b) {s : Ty} (hs : b.getLast? = some s) : ∃ t, a.getLast? = some t ∧ Rl l t s := by
  rw [List.getLast?_eq_getElem?] at hs ⊢
  rw [h.1]
  exact h.get hs
theorem LR.nolast {l : List Nc} {a b : List Ty} (h : LR l a b) (hs : b.getLast? = none) : a.getLast? = none := by
  rw [List.getLast?_eq_getElem?] at hs ⊢
  rw [h.1]
  exact h.no hs
theorem LR.head {l : List Nc} {a b : List Ty} (h : LR l a b) {s : Ty} (hs : b.head? = some s) : ∃ t, a.head? = some t ∧ Rl l t s := by
  rw [List.head?_eq_getElem?] at hs ⊢
  exact h.get hs
theorem LR.count {l : List Nc} : ∀ {a b : List Ty}, LR l a b → a.countP (fun t => decide (t.kind = 2)) = b.countP (fun t => decide (t.kind = 2))
  | [], [], _ => rfl
  | [], _ :: _, h => by simp [LR] at h
  | _ :: _, [], h => by simp [LR] at h
  | t :: a, s :: b, h => by
    have h0 := h.2 0 t s rfl rfl
    have ht : LR l a b := ⟨by have := h.1; simpa using this, fun j x y h1 h2 => h.2 (j + 1) x y (by simpa using h1) (by simpa using h2)⟩
    rw [List.countP_cons, List.countP_cons, ht.count]
    congr 1
    by_cases e : t.kind = 2
    · rw [if_pos (by simpa using e), if_pos (by simpa using h0.long.1 e)]
    · rw [if_neg (by simpa using e), if_neg (by simpa using fun e2 => e (h0.long.2 e2))]
theorem LR.wide {l : List Nc} {a b : List Ty} (h : LR l a b) : wideN a = wideN b := by unfold wideN; rw [h.count, h.1]
theorem LR.kind {l : List Nc} {a b : List Ty} (h : LR l a b) (k : Nat) : (a[k]?.map Ty.kind = some 2) ↔ (b[k]?.map Ty.kind = some 2) := by
  cases hb : b[k]? with
  | none => rw [h.no hb]
  | some s =>
    obtain ⟨t, ht, g⟩ := h.get hb
    rw [ht]
    simp only [Option.map_some, Option.some.injEq]
    exact g.long
theorem LR.all {l : List Nc} {a b : List Ty} (h : LR l a b) : allM l a b = true := allM_true h.1 fun j x y h1 h2 => (h.2 j x y h1 h2).may
theorem LR.of {l : List Nc} {a b : List Ty} (h : allM l a b = true) (g : ∀ (j : Nat) t s, a[j]? = some t → b[j]? = some s → t.kind = 2 → s.kind = 2) : LR l a b := by
  have hl : a.length = b.length := Classical.byContradiction fun hn => by rw [allM_len hn] at h; cases h
  refine ⟨hl, fun j t s h1 h2 => ⟨?_, g j t s h1 h2⟩⟩
  cases hm : mayT l t s with
  | true => rfl
  | false => rw [allM_no h1 h2 hm] at h; cases h
/-- Two works. -/
structure Sm (l : List Nc) (x y : Wst) : Prop where
  st : LR l x.st y.st
  lo : LR l x.lo y.lo
  ha : LR l x.ha y.ha
  ow : x.ow = y.ow
  ar : x.ar = y.ar
  to_ : x.to_ = y.to_
def Mn (l : List Nc) (d : Deed) : Prop := ∀ x y y', Sm l x y → d y = some y' → ∃ x', d x = some x' ∧ Sm l x' y'
theorem mn_take {l : List Nc} {fit : Ty → Bool} (hf : ∀ t s, Rl l t s → fit s = true → fit t = true) : Mn l (takeD fit) := fun x y y' h e => by
  obtain ⟨s, h1, h2, h3⟩ := takeD_some e
  obtain ⟨t, g1, g2⟩ := h.st.last h1
  refine ⟨{ x with st := x.st.dropLast, ha := x.ha ++ [t] }, ?_, ?_⟩
  · unfold takeD; rw [g1]; simp only; rw [if_pos (hf t s g2 h2)]
  · rw [h3]
    exact ⟨h.st.drop1, h.lo, h.ha.append (LR.one g2), h.ow, h.ar, h.to_⟩
theorem mn_push (l : List Nc) (ys : List Ty) : Mn l (pushD ys) := fun x y y' h e => by
  unfold pushD at e ⊢
  injection e with e
  subst e
  exact ⟨_, rfl, h.st.append (LR.same l ys), h.lo, h.ha, h.ow, h.ar, h.to_⟩
theorem push_sm {l : List Nc} {x y : Wst} (h : Sm l x y) {a b : List Ty} (g : LR l a b) : Sm l { x with st := x.st ++ a } { y with st := y.st ++ b } := ⟨h.st.append g, h.lo, h.ha, h.ow, h.ar, h.to_⟩
theorem mn_told (l : List Nc) : Mn l pushToldD := fun x y y' h e => by
  unfold pushToldD at e ⊢
  rw [h.to_]
  exact mn_push l _ x y y' h e
theorem mn_first (l : List Nc) : Mn l pushFirstD := fun x y y' h e => by
  unfold pushFirstD at e ⊢
  cases hy : y.ha.head? with
  | none => rw [hy] at e; cases e
  | some s =>
    obtain ⟨t, g1, g2⟩ := h.ha.head hy
    rw [hy] at e
    rw [g1]
    unfold pushD at e ⊢
    injection e with e
    subst e
    exact ⟨_, rfl, push_sm h (LR.one g2)⟩
theorem mn_last (l : List Nc) : Mn l pushLastD := fun x y y' h e => by
  unfold pushLastD at e ⊢
  cases hy : y.ha.getLast? with
  | none => rw [hy] at e; cases e
  | some s =>
    obtain ⟨t, g1, g2⟩ := h.ha.last hy
    rw [hy] at e
    rw [g1]
    unfold pushD at e ⊢
    injection e with e
    subst e
    exact ⟨_, rfl, push_sm h (LR.one g2)⟩
theorem mn_back (l : List Nc) : Mn l pushBackD := fun x y y' h e => by
  unfold pushBackD pushD at e ⊢
  injection e with e
  subst e
  exact ⟨_, rfl, push_sm h h.ha.rev⟩
theorem mn_answer (l : List Nc) : Mn l pushAnswerD := fun x y y' h e => by
  unfold pushAnswerD at e ⊢
  rw [h.to_]
  split at e
  · rename_i hk
    rw [if_pos hk]
    injection e with e
    subst e
    exact ⟨x, rfl, h⟩
  · rename_i hk
    rw [if_neg hk]
    exact mn_told l x y y' h e
theorem mn_numbers (l : List Nc) (A : Int) : Mn l (pushNumbersD A) := fun x y y' h e => by
  unfold pushNumbersD at e ⊢
  by_cases h8 : A = 8
  · rw [if_pos h8] at e ⊢; exact mn_push l _ x y y' h e
  rw [if_neg h8] at e ⊢
  by_cases h10 : A = 10
  · rw [if_pos h10] at e ⊢; exact mn_push l _ x y y' h e
  rw [if_neg h10] at e ⊢
  by_cases h11 : A = 11
  · rw [if_pos h11] at e ⊢; exact mn_push l _ x y y' h e
  rw [if_neg h11] at e; cases e
theorem mn_array (l : List Nc) : Mn l pushArrayD := fun x y y' h e => by
  unfold pushArrayD at e ⊢
  rw [h.to_]
  split at e
  · rename_i hk
    rw [if_pos hk]
    exact mn_push l _ x y y' h e
  · cases e
theorem mn_pair (l : List Nc) : Mn l popPairD := fun x y y' h e => by
  have m1 : Mn l (takeD isLongB) := mn_take fun t s => fit_long
  have m2 : Mn l (takeD singleB) := mn_take fun t s => fit_single
  unfold popPairD at e ⊢
  cases hy : takeD isLongB y with
  | some z =>
    rw [hy] at e
    injection e with e
    subst e
    obtain ⟨x', h1, h2⟩ := m1 x y _ h hy
    rw [h1]
    exact ⟨x', rfl, h2⟩
  | none =>
    rw [hy] at e
    have hx : takeD isLongB x = none := by
      unfold takeD at hy ⊢
      cases hs : y.st.getLast? with
      | none => rw [h.st.nolast hs]
      | some s =>
        obtain ⟨t, g1, g2⟩ := h.st.last hs
        rw [hs] at hy
        rw [g1]
        simp only at hy ⊢
        cases hf : isLongB s with
        | true => rw [hf] at hy; cases hy
        | false => rw [fit_nolong g2 hf]; rfl
    rw [hx]
    simp only at e ⊢
    cases h1 : takeD singleB y with
    | none => rw [h1] at e; cases e
    | some z =>
      rw [h1] at e
      obtain ⟨x1, g1, g2⟩ := m2 x y z h h1
      rw [g1]
      exact m2 x1 z y' g2 e
theorem mn_popL {l : List Nc} (hE : EndsAll l) (hO : ∀ c ∈ l, c.name = objN → c.sup = []) : ∀ ys : List Ty, Mn l (popL l ys)
  | [] => fun x y y' h e => by unfold popL at e ⊢; injection e with e; subst e; exact ⟨x, rfl, h⟩
  | t :: ys => fun x y y' h e => by
    unfold popL at e ⊢
    cases h1 : popD l t y with
    | none => rw [h1] at e; cases e
    | some z =>
      rw [h1] at e
      obtain ⟨x1, g1, g2⟩ := mn_take (fun _ _ => fit_may hE hO t) x y z h h1
      rw [show popD l t x = some x1 from g1]
      exact mn_popL hE hO ys x1 z y' g2 e
theorem mn_get {l : List Nc} {fit : Ty → Bool} (hf : ∀ t s, Rl l t s → fit s = true → fit t = true) (A : Int) : Mn l (getD_ fit A) := fun x y y' h e => by
  unfold getD_ at e ⊢
  split at e
  · cases e
  · rename_i hA
    rw [if_neg hA]
    cases hs : y.lo[A.toNat]? with
    | none => rw [hs] at e; cases e
    | some s =>
      obtain ⟨t, g1, g2⟩ := h.lo.get hs
      rw [hs] at e
      rw [g1]
      simp only at e ⊢
      split at e
      · rename_i hfs
        rw [if_pos (hf t s g2 hfs)]
        injection e with e
        subst e
        exact ⟨_, rfl, h.st, h.lo, h.ha.append (LR.one g2), h.ow, h.ar, h.to_⟩
      · cases e
theorem LR.set1 {l : List Nc} {a b : List Ty} (h : LR l a b) (k : Nat) {t s : Ty} (g : Rl l t s) : LR l (setL1 a k t) (setL1 b k s) := by
  unfold setL1
  by_cases e : s.kind = 2
  · rw [if_pos e, if_pos (g.long.2 e)]
    exact (h.set k g).set (k + 1) (Rl.same l _)
  · rw [if_neg e, if_neg fun e2 => e (g.long.1 e2)]
    exact h.set k g
theorem LR.setL {l : List Nc} {a b : List Ty} (h : LR l a b) (k : Nat) {t s : Ty} (g : Rl l t s) : LR l (setL a k t) (setL b k s) := by
  have h1 := h.set1 k g
  unfold Go.Proofs.YteooppjbpekepaaGreatDoor.setL
  by_cases e : 0 < k ∧ ((setL1 b k s)[k - 1]?.map Ty.kind) = some 2
  · rw [if_pos e, if_pos ⟨e.1, (h1.kind _).2 e.2⟩]
    exact h1.set (k - 1) (Rl.same l _)
  · rw [if_neg e, if_neg fun e2 => e ⟨e2.1, (h1.kind _).1 e2.2⟩]
    exact h1
theorem mn_local (l : List Nc) (A : Int) : Mn l (setLocalD A) := fun x y y' h e => by
  unfold setLocalD at e ⊢
  cases hs : y.ha.head? with
  | none => rw [hs] at e; cases e
  | some s =>
    obtain ⟨t, g1, g2⟩ := h.ha.head hs
    rw [hs] at e
    rw [g1]
    simp only at e ⊢
    have hw : wide1 t = wide1 s := by
      unfold wide1
      by_cases e : s.kind = 2
      · rw [if_pos e, if_pos (g2.long.2 e)]
      · rw [if_neg e, if_neg fun e2 => e (g2.long.1 e2)]
    rw [hw, h.lo.1]
    split at e
    · cases e
    · rename_i hc
      rw [if_neg hc]
      injection e with e
      subst e
      exact ⟨_, rfl, h.st, h.lo.setL _ g2, h.ha, h.ow, h.ar, h.to_⟩
theorem mn_answers (l : List Nc) (b : Bool) : Mn l (answersD b) := fun x y y' h e => by
  unfold answersD at e ⊢
  split at e
  · rename_i hb
    rw [if_pos hb]
    injection e with e
    subst e
    exact ⟨x, rfl, h⟩
  · cases e
theorem mn_noarray (l : List Nc) : Mn l isNoArrayD := fun x y y' h e => by
  unfold isNoArrayD at e ⊢
  rw [h.to_]
  split at e
  · rename_i hb
    rw [if_pos hb]
    injection e with e
    subst e
    exact ⟨x, rfl, h⟩
  · cases e
theorem mn_find {l : List Nc} (e : List Ent) (A tag : Int) (f : Cst → Wst → Option Wst) (hf : ∀ c, Mn l (f c)) : Mn l (findD e A tag f) := fun x y y' h e' => by
  unfold findD at e' ⊢
  split at e'
  · rename_i hc
    rw [if_pos hc]
    exact hf _ { x with ow := refT (constP e A).1.cls } { y with ow := refT (constP e A).1.cls } y' ⟨h.st, h.lo, h.ha, rfl, h.ar, h.to_⟩ e'
  · cases e'
theorem mn_int {l : List Nc} (e : List Ent) (A : Int) : Mn l (findIntD e A) := mn_find e A 3 _ fun c x y y' h e => by injection e with e; subst e; exact ⟨x, rfl, h⟩
theorem mn_long {l : List Nc} (e : List Ent) (A : Int) : Mn l (findLongD e A) := mn_find e A 5 _ fun c x y y' h e => by injection e with e; subst e; exact ⟨x, rfl, h⟩
theorem mn_field {l : List Nc} (e : List Ent) (A : Int) : Mn l (findFieldD e A) := mn_find e A 9 _ fun c x y y' h e => by
  split at e
  · rename_i hc
    rw [if_pos hc]
    injection e with e
    subst e
    exact ⟨_, rfl, h.st, h.lo, h.ha, h.ow, h.ar, rfl⟩
  · cases e
theorem mn_class {l : List Nc} (e : List Ent) (A : Int) : Mn l (findClassD e A) := mn_find e A 7 _ fun c x y y' h e => by
  split at e
  · rename_i hc
    rw [if_pos hc]
    injection e with e
    subst e
    exact ⟨_, rfl, h.st, h.lo, h.ha, h.ow, h.ar, rfl⟩
  · cases e
theorem mn_method {l : List Nc} (e : List Ent) (A : Int) : Mn l (findMethodD e A) := mn_find e A 10 _ fun c x y y' h e => by
  split at e
  · rename_i hc
    rw [if_pos hc]
    injection e with e
    subst e
    exact ⟨_, rfl, h.st, h.lo, h.ha, h.ow, rfl, rfl⟩
  · cases e
theorem mn_args {l : List Nc} (hE : EndsAll l) (hO : ∀ c ∈ l, c.name = objN → c.sup = []) : Mn l (popArgsD l) := fun x y y' h e => by
  unfold popArgsD at e ⊢
  rw [h.ar]
  exact mn_popL hE hO _ x y y' h e
theorem mn_owner {l : List Nc} (hE : EndsAll l) (hO : ∀ c ∈ l, c.name = objN → c.sup = []) : Mn l (popOwnerD l) := fun x y y' h e => by
  unfold popOwnerD at e ⊢
  rw [h.ow]
  exact mn_take (fun _ _ => fit_may hE hO _) x y y' h e
theorem mn_popTold {l : List Nc} (hE : EndsAll l) (hO : ∀ c ∈ l, c.name = objN → c.sup = []) : Mn l (popToldD l) := fun x y y' h e => by
  unfold popToldD at e ⊢
  rw [h.to_]
  exact mn_take (fun _ _ => fit_may hE hO _) x y y' h e
theorem mn_nil (l : List Nc) : Mn l (doD []) := fun x y y' h e => by unfold doD at e ⊢; injection e with e; subst e; exact ⟨x, rfl, h⟩
theorem mn_cons {l : List Nc} {d : Deed} {ds : List Deed} (h : Mn l d) (hs : Mn l (doD ds)) : Mn l (doD (d :: ds)) := fun x y y' hh e => by
  obtain ⟨z, h1, h2⟩ := bind_some e
  obtain ⟨x1, g1, g2⟩ := h x y z hh h1
  obtain ⟨x2, g3, g4⟩ := hs x1 z y' g2 h2
  refine ⟨x2, ?_, g4⟩
  unfold doD
  rw [g1]
  exact g3
/-- aaload: an array, then its member. -/
theorem mn_member {l : List Nc} {ds : List Deed} (hs : Mn l (doD ds)) : Mn l (doD (takeD refsM :: pushElementD :: ds)) := fun x y y' h e => by
  obtain ⟨z, h1, h2⟩ := bind_some e
  obtain ⟨z2, h3, h4⟩ := bind_some h2
  obtain ⟨s, a1, a2, a3⟩ := takeD_some h1
  obtain ⟨t, g1, g2⟩ := h.st.last a1
  have hz : Sm l { x with st := x.st.dropLast, ha := x.ha ++ [t] } z := by rw [a3]; exact ⟨h.st.drop1, h.lo, h.ha.append (LR.one g2), h.ow, h.ar, h.to_⟩
  have hx1 : takeD refsM x = some { x with st := x.st.dropLast, ha := x.ha ++ [t] } := by unfold takeD; rw [g1]; simp only; rw [if_pos (fit_refs g2 a2)]
  unfold pushElementD at h3
  rw [a3] at h3
  simp only [List.getLast?_append, List.getLast?_singleton, Option.some_or] at h3
  unfold pushD at h3
  injection h3 with h3
  have hx2 : pushElementD { x with st := x.st.dropLast, ha := x.ha ++ [t] } = some { x with st := x.st.dropLast ++ [elemOf t], ha := x.ha ++ [t] } := by
    unfold pushElementD
    simp only [List.getLast?_append, List.getLast?_singleton, Option.some_or]
    rfl
  have hz2 : Sm l { x with st := x.st.dropLast ++ [elemOf t], ha := x.ha ++ [t] } z2 := by
    rw [← h3]
    exact ⟨h.st.drop1.append (LR.one (elem_stand g2 a2)), h.lo, h.ha.append (LR.one g2), h.ow, h.ar, h.to_⟩
  obtain ⟨x3, g3, g4⟩ := hs _ z2 y' hz2 h4
  refine ⟨x3, ?_, g4⟩
  unfold doD
  rw [hx1]
  simp only [Option.bind_some]
  unfold doD
  rw [hx2]
  exact g3
theorem tab_weaker (p : Wpl) (hE : EndsAll p.cl) (hO : ∀ c ∈ p.cl, c.name = objN → c.sup = []) : Mn p.cl (doD ((tabP 0 p).map Prod.snd)) := by
  intro x y y' h e
  unfold tabP at e ⊢
  by_cases h0 : p.op = 0
  · rw [if_pos h0] at e ⊢
    exact (mn_nil _) x y y' h e
  rw [if_neg h0] at e ⊢; clear h0
  by_cases h1 : p.op = 1
  · rw [if_pos h1] at e ⊢
    exact (mn_cons (mn_push _ _) (mn_nil _)) x y y' h e
  rw [if_neg h1] at e ⊢; clear h1
  by_cases h17 : p.op = 17
  · rw [if_pos h17] at e ⊢
    exact (mn_cons (mn_push _ _) (mn_nil _)) x y y' h e
  rw [if_neg h17] at e ⊢; clear h17
  by_cases h9 : p.op = 9
  · rw [if_pos h9] at e ⊢
    exact (mn_cons (mn_push _ _) (mn_nil _)) x y y' h e
  rw [if_neg h9] at e ⊢; clear h9
  by_cases h18 : p.op = 18
  · rw [if_pos h18] at e ⊢
    exact (mn_cons (mn_int _ _) (mn_cons (mn_push _ _) (mn_nil _))) x y y' h e
  rw [if_neg h18] at e ⊢; clear h18
  by_cases h20 : p.op = 20
  · rw [if_pos h20] at e ⊢
    exact (mn_cons (mn_long _ _) (mn_cons (mn_push _ _) (mn_nil _))) x y y' h e
  rw [if_neg h20] at e ⊢; clear h20
  by_cases h21 : p.op = 21
  · rw [if_pos h21] at e ⊢
    exact (mn_cons (mn_get (fun _ _ => fit_int) _) (mn_cons (mn_first _) (mn_nil _))) x y y' h e
  rw [if_neg h21] at e ⊢; clear h21
  by_cases h22 : p.op = 22
  · rw [if_pos h22] at e ⊢
    exact (mn_cons (mn_get (fun _ _ => fit_long) _) (mn_cons (mn_first _) (mn_nil _))) x y y' h e
  rw [if_neg h22] at e ⊢; clear h22
  by_cases h25 : p.op = 25
  · rw [if_pos h25] at e ⊢
    exact (mn_cons (mn_get (fun _ _ => fit_ref) _) (mn_cons (mn_first _) (mn_nil _))) x y y' h e
  rw [if_neg h25] at e ⊢; clear h25
  by_cases h54 : p.op = 54
  · rw [if_pos h54] at e ⊢
    exact (mn_cons (mn_take fun _ _ => fit_may hE hO _) (mn_cons (mn_local _ _) (mn_nil _))) x y y' h e
  rw [if_neg h54] at e ⊢; clear h54
  by_cases h55 : p.op = 55
  · rw [if_pos h55] at e ⊢
    exact (mn_cons (mn_take fun _ _ => fit_may hE hO _) (mn_cons (mn_local _ _) (mn_nil _))) x y y' h e
  rw [if_neg h55] at e ⊢; clear h55
  by_cases h58 : p.op = 58
  · rw [if_pos h58] at e ⊢
    exact (mn_cons (mn_take fun _ _ => fit_ref) (mn_cons (mn_local _ _) (mn_nil _))) x y y' h e
  rw [if_neg h58] at e ⊢; clear h58
  by_cases h46 : p.op = 46
  · rw [if_pos h46] at e ⊢
    exact (mn_cons (mn_take fun _ _ => fit_may hE hO _) (mn_cons (mn_take fun _ _ => fit_may hE hO _) (mn_cons (mn_push _ _) (mn_nil _)))) x y y' h e
  rw [if_neg h46] at e ⊢; clear h46
  by_cases h47 : p.op = 47
  · rw [if_pos h47] at e ⊢
    exact (mn_cons (mn_take fun _ _ => fit_may hE hO _) (mn_cons (mn_take fun _ _ => fit_may hE hO _) (mn_cons (mn_push _ _) (mn_nil _)))) x y y' h e
  rw [if_neg h47] at e ⊢; clear h47
  by_cases h51 : p.op = 51
  · rw [if_pos h51] at e ⊢
    exact (mn_cons (mn_take fun _ _ => fit_may hE hO _) (mn_cons (mn_take fun _ _ => fit_may hE hO _) (mn_cons (mn_push _ _) (mn_nil _)))) x y y' h e
  rw [if_neg h51] at e ⊢; clear h51
  by_cases h50 : p.op = 50
  · rw [if_pos h50] at e ⊢
    exact (mn_cons (mn_take fun _ _ => fit_may hE hO _) (mn_member (mn_nil _))) x y y' h e
  rw [if_neg h50] at e ⊢; clear h50
  by_cases h79 : p.op = 79
  · rw [if_pos h79] at e ⊢
    exact (mn_cons (mn_take fun _ _ => fit_may hE hO _) (mn_cons (mn_take fun _ _ => fit_may hE hO _) (mn_cons (mn_take fun _ _ => fit_may hE hO _) (mn_nil _)))) x y y' h e
  rw [if_neg h79] at e ⊢; clear h79
  by_cases h80 : p.op = 80
  · rw [if_pos h80] at e ⊢
    exact (mn_cons (mn_take fun _ _ => fit_may hE hO _) (mn_cons (mn_take fun _ _ => fit_may hE hO _) (mn_cons (mn_take fun _ _ => fit_may hE hO _) (mn_nil _)))) x y y' h e
  rw [if_neg h80] at e ⊢; clear h80
  by_cases h84 : p.op = 84
  · rw [if_pos h84] at e ⊢
    exact (mn_cons (mn_take fun _ _ => fit_may hE hO _) (mn_cons (mn_take fun _ _ => fit_may hE hO _) (mn_cons (mn_take fun _ _ => fit_may hE hO _) (mn_nil _)))) x y y' h e
  rw [if_neg h84] at e ⊢; clear h84
  by_cases h83 : p.op = 83
  · rw [if_pos h83] at e ⊢
    exact (mn_cons (mn_take fun _ _ => fit_ref) (mn_cons (mn_take fun _ _ => fit_may hE hO _) (mn_cons (mn_take fun _ _ => fit_refs) (mn_nil _)))) x y y' h e
  rw [if_neg h83] at e ⊢; clear h83
  by_cases h87 : p.op = 87
  · rw [if_pos h87] at e ⊢
    exact (mn_cons (mn_take fun _ _ => fit_single) (mn_nil _)) x y y' h e
  rw [if_neg h87] at e ⊢; clear h87
  by_cases h88 : p.op = 88
  · rw [if_pos h88] at e ⊢
    exact (mn_cons (mn_pair _) (mn_nil _)) x y y' h e
  rw [if_neg h88] at e ⊢; clear h88
  by_cases h89 : p.op = 89
  · rw [if_pos h89] at e ⊢
    exact (mn_cons (mn_take fun _ _ => fit_single) (mn_cons (mn_first _) (mn_cons (mn_first _) (mn_nil _)))) x y y' h e
  rw [if_neg h89] at e ⊢; clear h89
  by_cases h90 : p.op = 90
  · rw [if_pos h90] at e ⊢
    exact (mn_cons (mn_take fun _ _ => fit_single) (mn_cons (mn_take fun _ _ => fit_single) (mn_cons (mn_first _) (mn_cons (mn_last _) (mn_cons (mn_first _) (mn_nil _)))))) x y y' h e
  rw [if_neg h90] at e ⊢; clear h90
  by_cases h92 : p.op = 92
  · rw [if_pos h92] at e ⊢
    exact (mn_cons (mn_pair _) (mn_cons (mn_back _) (mn_cons (mn_back _) (mn_nil _)))) x y y' h e
  rw [if_neg h92] at e ⊢; clear h92
  by_cases h95 : p.op = 95
  · rw [if_pos h95] at e ⊢
    exact (mn_cons (mn_take fun _ _ => fit_single) (mn_cons (mn_take fun _ _ => fit_single) (mn_cons (mn_first _) (mn_cons (mn_last _) (mn_nil _))))) x y y' h e
  rw [if_neg h95] at e ⊢; clear h95
  by_cases h96 : p.op = 96 ∨ p.op = 100 ∨ p.op = 104 ∨ p.op = 108 ∨ p.op = 112 ∨ p.op = 120 ∨ p.op = 122 ∨ p.op = 124 ∨ p.op = 126 ∨ p.op = 128 ∨ p.op = 130
  · rw [if_pos h96] at e ⊢
    exact (mn_cons (mn_take fun _ _ => fit_may hE hO _) (mn_cons (mn_take fun _ _ => fit_may hE hO _) (mn_cons (mn_push _ _) (mn_nil _)))) x y y' h e
  rw [if_neg h96] at e ⊢; clear h96
  by_cases h97 : p.op = 97 ∨ p.op = 101 ∨ p.op = 105 ∨ p.op = 109 ∨ p.op = 113 ∨ p.op = 127 ∨ p.op = 129 ∨ p.op = 131
  · rw [if_pos h97] at e ⊢
    exact (mn_cons (mn_take fun _ _ => fit_may hE hO _) (mn_cons (mn_take fun _ _ => fit_may hE hO _) (mn_cons (mn_push _ _) (mn_nil _)))) x y y' h e
  rw [if_neg h97] at e ⊢; clear h97
  by_cases h121 : p.op = 121 ∨ p.op = 123 ∨ p.op = 125
  · rw [if_pos h121] at e ⊢
    exact (mn_cons (mn_take fun _ _ => fit_may hE hO _) (mn_cons (mn_take fun _ _ => fit_may hE hO _) (mn_cons (mn_push _ _) (mn_nil _)))) x y y' h e
  rw [if_neg h121] at e ⊢; clear h121
  by_cases h116 : p.op = 116 ∨ p.op = 145 ∨ p.op = 146 ∨ p.op = 147
  · rw [if_pos h116] at e ⊢
    exact (mn_cons (mn_take fun _ _ => fit_may hE hO _) (mn_cons (mn_push _ _) (mn_nil _))) x y y' h e
  rw [if_neg h116] at e ⊢; clear h116
  by_cases h117 : p.op = 117
  · rw [if_pos h117] at e ⊢
    exact (mn_cons (mn_take fun _ _ => fit_may hE hO _) (mn_cons (mn_push _ _) (mn_nil _))) x y y' h e
  rw [if_neg h117] at e ⊢; clear h117
  by_cases h133 : p.op = 133
  · rw [if_pos h133] at e ⊢
    exact (mn_cons (mn_take fun _ _ => fit_may hE hO _) (mn_cons (mn_push _ _) (mn_nil _))) x y y' h e
  rw [if_neg h133] at e ⊢; clear h133
  by_cases h136 : p.op = 136
  · rw [if_pos h136] at e ⊢
    exact (mn_cons (mn_take fun _ _ => fit_may hE hO _) (mn_cons (mn_push _ _) (mn_nil _))) x y y' h e
  rw [if_neg h136] at e ⊢; clear h136
  by_cases h148 : p.op = 148
  · rw [if_pos h148] at e ⊢
    exact (mn_cons (mn_take fun _ _ => fit_may hE hO _) (mn_cons (mn_take fun _ _ => fit_may hE hO _) (mn_cons (mn_push _ _) (mn_nil _)))) x y y' h e
  rw [if_neg h148] at e ⊢; clear h148
  by_cases h132 : p.op = 132
  · rw [if_pos h132] at e ⊢
    exact (mn_cons (mn_get (fun _ _ => fit_int) _) (mn_nil _)) x y y' h e
  rw [if_neg h132] at e ⊢; clear h132
  by_cases h167 : p.op = 167
  · rw [if_pos h167] at e ⊢
    exact (mn_nil _) x y y' h e
  rw [if_neg h167] at e ⊢; clear h167
  by_cases h153 : p.op = 153 ∨ p.op = 154 ∨ p.op = 155 ∨ p.op = 156 ∨ p.op = 157 ∨ p.op = 158 ∨ p.op = 170 ∨ p.op = 171
  · rw [if_pos h153] at e ⊢
    exact (mn_cons (mn_take fun _ _ => fit_may hE hO _) (mn_nil _)) x y y' h e
  rw [if_neg h153] at e ⊢; clear h153
  by_cases h159 : p.op = 159 ∨ p.op = 160 ∨ p.op = 161 ∨ p.op = 162 ∨ p.op = 163 ∨ p.op = 164
  · rw [if_pos h159] at e ⊢
    exact (mn_cons (mn_take fun _ _ => fit_may hE hO _) (mn_cons (mn_take fun _ _ => fit_may hE hO _) (mn_nil _))) x y y' h e
  rw [if_neg h159] at e ⊢; clear h159
  by_cases h165 : p.op = 165 ∨ p.op = 166
  · rw [if_pos h165] at e ⊢
    exact (mn_cons (mn_take fun _ _ => fit_ref) (mn_cons (mn_take fun _ _ => fit_ref) (mn_nil _))) x y y' h e
  rw [if_neg h165] at e ⊢; clear h165
  by_cases h172 : p.op = 172
  · rw [if_pos h172] at e ⊢
    exact (mn_cons (mn_answers _ _) (mn_cons (mn_take fun _ _ => fit_may hE hO _) (mn_nil _))) x y y' h e
  rw [if_neg h172] at e ⊢; clear h172
  by_cases h173 : p.op = 173
  · rw [if_pos h173] at e ⊢
    exact (mn_cons (mn_answers _ _) (mn_cons (mn_take fun _ _ => fit_may hE hO _) (mn_nil _))) x y y' h e
  rw [if_neg h173] at e ⊢; clear h173
  by_cases h176 : p.op = 176
  · rw [if_pos h176] at e ⊢
    exact (mn_cons (mn_answers _ _) (mn_cons (mn_take fun _ _ => fit_may hE hO _) (mn_nil _))) x y y' h e
  rw [if_neg h176] at e ⊢; clear h176
  by_cases h177 : p.op = 177
  · rw [if_pos h177] at e ⊢
    exact (mn_cons (mn_answers _ _) (mn_nil _)) x y y' h e
  rw [if_neg h177] at e ⊢; clear h177
  by_cases h178 : p.op = 178
  · rw [if_pos h178] at e ⊢
    exact (mn_cons (mn_field _ _) (mn_cons (mn_told _) (mn_nil _))) x y y' h e
  rw [if_neg h178] at e ⊢; clear h178
  by_cases h179 : p.op = 179
  · rw [if_pos h179] at e ⊢
    exact (mn_cons (mn_field _ _) (mn_cons (mn_popTold hE hO) (mn_nil _))) x y y' h e
  rw [if_neg h179] at e ⊢; clear h179
  by_cases h180 : p.op = 180
  · rw [if_pos h180] at e ⊢
    exact (mn_cons (mn_field _ _) (mn_cons (mn_owner hE hO) (mn_cons (mn_told _) (mn_nil _)))) x y y' h e
  rw [if_neg h180] at e ⊢; clear h180
  by_cases h181 : p.op = 181
  · rw [if_pos h181] at e ⊢
    exact (mn_cons (mn_field _ _) (mn_cons (mn_popTold hE hO) (mn_cons (mn_owner hE hO) (mn_nil _)))) x y y' h e
  rw [if_neg h181] at e ⊢; clear h181
  by_cases h182 : p.op = 182 ∨ p.op = 183
  · rw [if_pos h182] at e ⊢
    exact (mn_cons (mn_method _ _) (mn_cons (mn_args hE hO) (mn_cons (mn_owner hE hO) (mn_cons (mn_answer _) (mn_nil _))))) x y y' h e
  rw [if_neg h182] at e ⊢; clear h182
  by_cases h184 : p.op = 184
  · rw [if_pos h184] at e ⊢
    exact (mn_cons (mn_method _ _) (mn_cons (mn_args hE hO) (mn_cons (mn_answer _) (mn_nil _)))) x y y' h e
  rw [if_neg h184] at e ⊢; clear h184
  by_cases h187 : p.op = 187
  · rw [if_pos h187] at e ⊢
    exact (mn_cons (mn_class _ _) (mn_cons (mn_noarray _) (mn_cons (mn_told _) (mn_nil _)))) x y y' h e
  rw [if_neg h187] at e ⊢; clear h187
  by_cases h188 : p.op = 188
  · rw [if_pos h188] at e ⊢
    exact (mn_cons (mn_take fun _ _ => fit_may hE hO _) (mn_cons (mn_numbers _ _) (mn_nil _))) x y y' h e
  rw [if_neg h188] at e ⊢; clear h188
  by_cases h189 : p.op = 189
  · rw [if_pos h189] at e ⊢
    exact (mn_cons (mn_class _ _) (mn_cons (mn_take fun _ _ => fit_may hE hO _) (mn_cons (mn_array _) (mn_nil _)))) x y y' h e
  rw [if_neg h189] at e ⊢; clear h189
  by_cases h190 : p.op = 190
  · rw [if_pos h190] at e ⊢
    exact (mn_cons (mn_take fun _ _ => fit_arr) (mn_cons (mn_push _ _) (mn_nil _))) x y y' h e
  rw [if_neg h190] at e ⊢; clear h190
  by_cases h191 : p.op = 191
  · rw [if_pos h191] at e ⊢
    exact (mn_cons (mn_take fun _ _ => fit_may hE hO _) (mn_nil _)) x y y' h e
  rw [if_neg h191] at e ⊢; clear h191
  by_cases h192 : p.op = 192
  · rw [if_pos h192] at e ⊢
    exact (mn_cons (mn_class _ _) (mn_cons (mn_take fun _ _ => fit_ref) (mn_cons (mn_told _) (mn_nil _)))) x y y' h e
  rw [if_neg h192] at e ⊢; clear h192
  by_cases h193 : p.op = 193
  · rw [if_pos h193] at e ⊢
    exact (mn_cons (mn_class _ _) (mn_cons (mn_take fun _ _ => fit_ref) (mn_cons (mn_push _ _) (mn_nil _)))) x y y' h e
  rw [if_neg h193] at e ⊢; clear h193
  by_cases h194 : p.op = 194 ∨ p.op = 195 ∨ p.op = 198 ∨ p.op = 199
  · rw [if_pos h194] at e ⊢
    exact (mn_cons (mn_take fun _ _ => fit_ref) (mn_nil _)) x y y' h e
  rw [if_neg h194] at e ⊢; clear h194
  cases e
theorem step_weaker {p : Wpl} (hE : EndsAll p.cl) (hO : ∀ c ∈ p.cl, c.name = objN → c.sup = []) {most : Int} {lo st lo2 st2 : List Ty} (h1 : LR p.cl lo lo2) (h2 : LR p.cl st st2) {y : List Ty × List Ty} (h : stepT p most lo2 st2 = some y) : ∃ x, stepT p most lo st = some x ∧ allM p.cl x.1 y.1 = true ∧ allM p.cl x.2 y.2 = true := by
  unfold stepT at h ⊢
  cases e1 : doD ((tabP 0 p).map Prod.snd) ⟨st2, lo2, [], ty0, [], ty0⟩ with
  | none => rw [e1] at h; cases h
  | some z =>
    rw [e1] at h
    simp only [Option.bind_some] at h
    obtain ⟨x, g1, g2⟩ := tab_weaker p hE hO ⟨st, lo, [], ty0, [], ty0⟩ ⟨st2, lo2, [], ty0, [], ty0⟩ z ⟨h2, h1, LR.same _ _, rfl, rfl, rfl⟩ e1
    rw [g1]
    simp only [Option.bind_some]
    rw [g2.st.wide]
    split at h
    · cases h
    · rename_i hm
      rw [if_neg hm]
      injection h with h
      subst h
      exact ⟨_, rfl, g2.lo.all, g2.st.all⟩
end Go.Proofs.YteooppjbpekepaaGreatDoor

/- Layer 11: does a long stand where the other frame has something else; are all types there (written by mk/mksh8.py). -/
namespace Go.Proofs.YteooppjbpekepaaGreatDoor
open Go.RowKit
set_option linter.unusedVariables false
set_option maxRecDepth 100000

theorem two_blocks8 (w : World) (A B : Array Value) (tA tB : TypeId) : ∃ w2, w2 = (w.alloc (.cells A tA)).alloc (.cells B tB) ∧ Below w.heap.size w w2 ∧ w2.heap.size = w.heap.size + 2 ∧ w2.heap[w.heap.size]? = some (.cells A tA (0, 0)) ∧ w2.heap[w.heap.size + 1]? = some (.cells B tB (0, 0)) := by
  have z1 : (w.alloc (.cells A tA)).heap.size = w.heap.size + 1 := by simp
  refine ⟨_, rfl, bA (bA (Below.refl _ _) _) _, by simp, ?_, ?_⟩
  · exact (heap_alloc_old _ _ (by simp)).trans (heap_alloc_last _ _)
  · have t := heap_alloc_last (w.alloc (.cells A tA)) (.cells B tB); rw [z1] at t; exact t
def NoLong (a b : List Ty) : Prop := ∀ (j : Nat) t s, a[j]? = some t → b[j]? = some s → t.kind = 2 → s.kind = 2
set_option maxHeartbeats 1600000 in
theorem l11long_any (w : World) (la : Option Addr) (ln lc : Nat) (ta : Option Addr) (tn tc : Nat) (la2 : Option Addr) (ln2 lc2 : Nat) (ta2 : Option Addr) (tn2 tc2 : Nat) (u1 v1 u2 v2 : List Ty) (h1 : FrIn w ⟨la, ln, lc⟩ ⟨ta, tn, tc⟩ u1 v1) (h2 : FrIn w ⟨la2, ln2, lc2⟩ ⟨ta2, tn2, tc2⟩ u2 v2) (hu : ln = ln2) (hv : tn = tn2) :
    Calls Tryz.prog 21 #[.agg #[.slice la ln lc, .slice ta tn tc], .agg #[.slice la2 ln2 lc2, .slice ta2 tn2 tc2]] w fun e w' => ∃ b, e = .returned (.bool b) ∧ (b = false → NoLong u1 u2 ∧ NoLong v1 v2) ∧ Below w.heap.size w w' := by
  subst hu hv
  obtain ⟨w2, hw2, f2, hz2, hb0, hb1⟩ := two_blocks8 w #[.slice la ln lc, .slice ta tn tc] #[.slice la2 ln lc2, .slice ta2 tn tc2] 32 32
  have e10 := bx_cell hb0 0 _ rfl
  have e11 := bx_cell hb0 1 _ rfl
  have e20 := bx_cell hb1 0 _ rfl
  have e21 := bx_cell hb1 1 _ rfl
  have g1 := h1.below f2
  have g2 := h2.below f2
  have hn1 := h1.lon
  have hn2 := h1.stn
  simp only at hn1 hn2
  have hl1 : u1.length = ln := h1.ll.1
  have hl2 : u2.length = ln := h2.ll.1
  have hl3 : v1.length = tn := h1.sl.1
  have hl4 : v2.length = tn := h2.sl.1
  have HL := hide (And.intro hl1 (And.intro hl2 (And.intro hl3 hl4)))
  have G1 := hide g1
  have G2 := hide g2
  have HW2 := hide hw2
  have F2 := hide f2
  clear h1 h2 g1 g2 hl1 hl2 hl3 hl4 hw2 f2 hz2 hb0 hb1
  go_enter Tryz.func21, Tryz.ntmps21
  go_wp2_with fail
  rw [← unhide HW2]
  go_wp2
  go_loopw [5] (fun i wr => ∃ k : Nat, k ≤ ln ∧ i = .int .i64 k ∧ wr = w2 ∧ Hid (∀ (j : Nat) t s, j < k → u1[j]? = some t → u2[j]? = some s → t.kind = 2 → s.kind = 2)) (fun i _ => ln - (intOf i).toNat)
  case atStart => exact ⟨0, by omega, rfl, rfl, fun j t s h => by omega⟩
  case round =>
    obtain ⟨k, hk, rfl, rfl, HR⟩ := hrel
    by_cases hlt : k < ln
    case neg =>
      obtain rfl : k = ln := by omega
      have H5 : Hid (NoLong u1 u2) := fun j t s h1 h2 => unhide HR j t s (by have := (List.getElem?_eq_some_iff.1 h1).1; have := unhide HL; omega) h1 h2
      clear HR
      go_wp2
      go_loopw [6] (fun i wx => ∃ k : Nat, k ≤ tn ∧ i = .int .i64 k ∧ wx = wr ∧ Hid (∀ (j : Nat) t s, j < k → v1[j]? = some t → v2[j]? = some s → t.kind = 2 → s.kind = 2)) (fun i _ => tn - (intOf i).toNat)
      case atStart => exact ⟨0, by omega, rfl, rfl, fun j t s h => by omega⟩
      case round =>
        obtain ⟨k, hk, rfl, rfl, HR⟩ := hrel
        by_cases hlt : k < tn
        case neg =>
          obtain rfl : k = tn := by omega
          have H6 : Hid (NoLong v1 v2) := fun j t s h1 h2 => unhide HR j t s (by have := (List.getElem?_eq_some_iff.1 h1).1; have := unhide HL; omega) h1 h2
          clear HR
          go_wp2
          go_ret
          exact ⟨false, rfl, fun _ => ⟨unhide H5, unhide H6⟩, unhide F2⟩
        have hlt1 : (k : Int) < (tn : Int) := by omega
        obtain ⟨b1, o1, h1a, r1⟩ := Ls.row ((unhide G1).sl) (w' := wr) (by simp only; omega)
        obtain ⟨b2, o2, h2a, r2⟩ := Ls.row ((unhide G2).sl) (w' := wr) (by simp only; omega)
        simp only at h1a h2a
        subst h1a h2a
        obtain ⟨t, ht⟩ : ∃ t, v1[k]? = some t := ⟨_, List.getElem?_eq_getElem (by have := unhide HL; omega)⟩
        obtain ⟨s, hs⟩ : ∃ s, v2[k]? = some s := ⟨_, List.getElem?_eq_getElem (by have := unhide HL; omega)⟩
        have q1 := (r1 (Below.refl _ _) k t ht).zero
        have q2 := (r2 (Below.refl _ _) k s hs).zero
        have HT := hide (And.intro ht hs)
        clear r1 r2 ht hs
        by_cases e1 : t.kind = 2
        · by_cases e2 : s.kind = 2
          · have HR2 : Hid (∀ (j : Nat) t s, j < k + 1 → v1[j]? = some t → v2[j]? = some s → t.kind = 2 → s.kind = 2) := fun j x y hj hx hy he => by
              by_cases hjk : j = k
              · subst hjk
                rw [(unhide HT).2] at hy
                injection hy with hy
                rw [← hy]; exact e2
              · exact unhide HR j x y (by omega) hx hy he
            rw [e1] at q1
            rw [e2] at q2
            clear HR
            go_wp2
            go_roundw
            case rel => exact ⟨k + 1, by omega, by go_num, by first | rfl | trivial, HR2⟩
            case measure => simp [intOf]; omega
          · have e3 : (s.kind != 2) = true := by simpa using e2
            rw [e1] at q1
            clear HR
            go_wp2
            go_ret
            exact ⟨true, rfl, fun h => (Bool.noConfusion h), unhide F2⟩
        · have e3 : (t.kind == 2) = false := by simpa using e1
          have HR2 : Hid (∀ (j : Nat) t s, j < k + 1 → v1[j]? = some t → v2[j]? = some s → t.kind = 2 → s.kind = 2) := fun j x y hj hx hy he => by
            by_cases hjk : j = k
            · subst hjk
              rw [(unhide HT).1] at hx
              injection hx with hx
              rw [← hx] at he; exact absurd he e1
            · exact unhide HR j x y (by omega) hx hy he
          clear HR
          go_wp2
          go_roundw
          case rel => exact ⟨k + 1, by omega, by go_num, by first | rfl | trivial, HR2⟩
          case measure => simp [intOf]; omega
    have hlt1 : (k : Int) < (ln : Int) := by omega
    obtain ⟨b1, o1, h1a, r1⟩ := Ls.row ((unhide G1).ll) (w' := wr) (by simp only; omega)
    obtain ⟨b2, o2, h2a, r2⟩ := Ls.row ((unhide G2).ll) (w' := wr) (by simp only; omega)
    simp only at h1a h2a
    subst h1a h2a
    obtain ⟨t, ht⟩ : ∃ t, u1[k]? = some t := ⟨_, List.getElem?_eq_getElem (by have := unhide HL; omega)⟩
    obtain ⟨s, hs⟩ : ∃ s, u2[k]? = some s := ⟨_, List.getElem?_eq_getElem (by have := unhide HL; omega)⟩
    have q1 := (r1 (Below.refl _ _) k t ht).zero
    have q2 := (r2 (Below.refl _ _) k s hs).zero
    have HT := hide (And.intro ht hs)
    clear r1 r2 ht hs
    by_cases e1 : t.kind = 2
    · by_cases e2 : s.kind = 2
      · have HR2 : Hid (∀ (j : Nat) t s, j < k + 1 → u1[j]? = some t → u2[j]? = some s → t.kind = 2 → s.kind = 2) := fun j x y hj hx hy he => by
          by_cases hjk : j = k
          · subst hjk
            rw [(unhide HT).2] at hy
            injection hy with hy
            rw [← hy]; exact e2
          · exact unhide HR j x y (by omega) hx hy he
        rw [e1] at q1
        rw [e2] at q2
        clear HR
        go_wp2
        go_roundw
        case rel => exact ⟨k + 1, by omega, by go_num, by first | rfl | trivial, HR2⟩
        case measure => simp [intOf]; omega
      · have e3 : (s.kind != 2) = true := by simpa using e2
        rw [e1] at q1
        clear HR
        go_wp2
        go_ret
        exact ⟨true, rfl, fun h => (Bool.noConfusion h), unhide F2⟩
    · have e3 : (t.kind == 2) = false := by simpa using e1
      have HR2 : Hid (∀ (j : Nat) t s, j < k + 1 → u1[j]? = some t → u2[j]? = some s → t.kind = 2 → s.kind = 2) := fun j x y hj hx hy he => by
        by_cases hjk : j = k
        · subst hjk
          rw [(unhide HT).1] at hx
          injection hx with hx
          rw [← hx] at he; exact absurd he e1
        · exact unhide HR j x y (by omega) hx hy he
      clear HR
      go_wp2
      go_roundw
      case rel => exact ⟨k + 1, by omega, by go_num, by first | rfl | trivial, HR2⟩
      case measure => simp [intOf]; omega
set_option maxHeartbeats 1600000 in
theorem l11there_any (w : World) (a : Option Addr) (n c : Nat) (u : List Ty) (h : Ls 2 tyc w a n u) (hu : ∀ t ∈ u, nmOk t) (hn : n ≤ 1000) :
    Calls Tryz.prog 19 #[.slice a n c] w fun e w' => ∃ b, e = .returned (.bool b) ∧ Below w.heap.size w w' := by
  have hul : u.length = n := h.1
  have HL := hide h
  have HU := hide (And.intro hu hul)
  clear h hu hul
  go_enter Tryz.func19, Tryz.ntmps19
  go_wp2
  go_loopw [3] (fun i wr => ∃ k : Nat, k ≤ n ∧ i = .int .i64 k ∧ Hid (Below w.heap.size w wr)) (fun i _ => n - (intOf i).toNat)
  case atStart => exact ⟨0, by omega, rfl, Below.refl _ _⟩
  case round =>
    obtain ⟨k, hk, rfl, HF⟩ := hrel
    by_cases hlt : k < n
    case neg =>
      obtain rfl : k = n := by omega
      go_wp2
      go_ret
      exact ⟨true, rfl, unhide HF⟩
    have hlt1 : (k : Int) < (n : Int) := by omega
    obtain ⟨b1, o1, h1a, r1⟩ := Ls.row (unhide HL) (w' := wr) (by omega)
    subst h1a
    obtain ⟨t, ht⟩ : ∃ t, u[k]? = some t := ⟨_, List.getElem?_eq_getElem (by have := unhide HU; omega)⟩
    have q1 := (r1 (unhide HF) k t ht).zero
    have q2 := (r1 (unhide HF) k t ht) 1 _ rfl
    have hnm : t.name.length ≤ 140737488351232 := (unhide HU).1 t (List.mem_of_getElem? ht)
    obtain ⟨S, hS⟩ : ∃ S : ByteArray, S = ⟨t.name.toArray⟩ := ⟨_, rfl⟩
    rw [← hS] at q2
    obtain ⟨w1, hw1⟩ : ∃ w1, w1 = wr.alloc (.cells #[.int .i64 t.kind, .string S] 52) := ⟨_, rfl⟩
    have f1 : Below w.heap.size w w1 := by rw [hw1]; exact bA (unhide HF) _
    have hb1 : w1.heap[wr.heap.size]? = some (.cells #[.int .i64 t.kind, .string S] 52 (0, 0)) := by rw [hw1]; exact heap_alloc_last _ _
    have HP := hide (x10Print_any w1 t.kind S t.name ⟨hS⟩ hnm)
    have HB1 := hide hb1
    have HW1 := hide hw1
    have F1 := hide f1
    clear r1 ht hnm hS hw1 f1 hb1
    generalize (prnP ⟨t.kind, t.name⟩).1 = R1 at *
    generalize (prnP ⟨t.kind, t.name⟩).2 = R2 at *
    go_wp2_with fail
    rw [← unhide HW1]
    refine (unhide HP).mono ?_
    rintro e w2 ⟨rfl, f2⟩
    have e1 := (f2.block _ (lt_of_heap (unhide HB1))).trans (unhide HB1)
    have p0 := bx_cell e1 0 _ rfl
    have p1 := bx_cell e1 1 _ rfl
    have F2 := hide ((unhide F1).trans (f2.mono (unhide F1).size))
    clear e1 f2 HP q1 q2
    obtain ⟨d1, hd1⟩ : ∃ d1, ∀ W, (binOp .neq 52 (.agg #[.int .i64 t.kind, .string S]) (.agg #[.int .i64 0, .string ⟨#[]⟩])).run Tryz.prog W = .ok (.bool d1) W := ⟨_, fun W => ty_cmpN W _ _ _ _⟩
    obtain ⟨d2, hd2⟩ : ∃ d2, ∀ W, (binOp .neq 52 (.agg #[.int .i64 t.kind, .string S]) (.agg #[.int .i64 3, .string ⟨#[]⟩])).run Tryz.prog W = .ok (.bool d2) W := ⟨_, fun W => ty_cmpN W _ _ _ _⟩
    by_cases hr : R2 = 0
    · subst hr
      go_wp2
      go_roundw
      case rel => exact ⟨k + 1, by omega, by go_num, F2⟩
      case measure => simp [intOf]; omega
    · have hr2 : (R2 != 0) = true := by simpa using hr
      cases d1
      · go_wp2
        go_roundw
        case rel => exact ⟨k + 1, by omega, by go_num, F2⟩
        case measure => simp [intOf]; omega
      · cases d2
        · go_wp2
          go_roundw
          case rel => exact ⟨k + 1, by omega, by go_num, F2⟩
          case measure => simp [intOf]; omega
        · go_wp2
          go_ret
          exact ⟨false, rfl, unhide F2⟩
end Go.Proofs.YteooppjbpekepaaGreatDoor

/- Layer 11: are all classes' ways up without rings, each class there once, and Object above none (written by mk/mksh9.py). -/
namespace Go.Proofs.YteooppjbpekepaaGreatDoor
open Go.RowKit
set_option linter.unusedVariables false
set_option maxRecDepth 100000

def RightPost (l : List Nc) (e : Ending) : Prop := ∃ b, e = .returned (.bool b) ∧ (b = true → EndsAll l ∧ ∀ c ∈ l, c.name = objN → c.sup = [])
set_option maxHeartbeats 6400000 in
theorem l11right_any (w : World) (a : Option Addr) (n cap : Nat) (l : List Nc) (hL : Ls 5 ncc w a n l) (hn : n ≤ 40) :
    Calls Tryz.prog 18 #[.slice a n cap] w fun e w' => RightPost l e ∧ Below w.heap.size w w' := by
  have hln := hL.1
  have HL := hide hL
  clear hL
  go_enter Tryz.func18, Tryz.ntmps18
  go_wp2
  go_loopw [3] (fun i wr => ∃ k : Nat, k ≤ n ∧ i = .int .i64 k ∧ Hid (Below w.heap.size w wr) ∧ Hid (∀ (j : Nat) c, j < k → l[j]? = some c → nxt l (lastUp l c.name) = none ∧ (c.name = objN → c.sup = []))) (fun i _ => n - (intOf i).toNat)
  case atStart => exact ⟨0, by omega, rfl, Below.refl _ _, fun j c h => by omega⟩
  case round =>
    obtain ⟨k, hk, rfl, HF, HR⟩ := hrel
    by_cases hlt : k < n
    case neg =>
      obtain rfl : k = n := by omega
      have HE : Hid (EndsAll l ∧ ∀ c ∈ l, c.name = objN → c.sup = []) := ⟨fun c hc => by
        obtain ⟨j, hj⟩ := List.getElem?_of_mem hc
        exact (unhide HR j c (by have := (List.getElem?_eq_some_iff.1 hj).1; omega) hj).1, fun c hc => by
        obtain ⟨j, hj⟩ := List.getElem?_of_mem hc
        exact (unhide HR j c (by have := (List.getElem?_eq_some_iff.1 hj).1; omega) hj).2⟩
      clear HR
      go_wp2
      go_ret
      exact ⟨⟨true, rfl, fun _ => unhide HE⟩, unhide HF⟩
    have hlt1 : (k : Int) < (n : Int) := by omega
    obtain ⟨b1, o1, h1a, h1⟩ := Ls.row (unhide HL) (w' := w) (by omega)
    subst h1a
    have HCEL : Hid (∀ wx, Below w.heap.size w wx → ∀ (j : Nat) c, l[j]? = some c → wx.cell? ⟨b1, o1 + j * 5 + 1, none⟩ = some (.string ⟨c.name.toArray⟩) ∧ wx.cell? ⟨b1, o1 + j * 5 + 2, none⟩ = some (.string ⟨c.sup.toArray⟩)) := fun wx f j c hc => ⟨(h1 f j c hc) 1 _ rfl, (h1 f j c hc) 2 _ rfl⟩
    obtain ⟨c, hc⟩ : ∃ c, l[k]? = some c := ⟨_, List.getElem?_eq_getElem (by omega)⟩
    have HHC := hide hc
    clear h1 hc
    obtain ⟨CN, hCN⟩ : ∃ CN : ByteArray, ⟨c.name.toArray⟩ = CN := ⟨_, rfl⟩
    have HCN : Hid (Str CN c.name) := ⟨hCN.symm⟩
    have HKC : Hid (∀ wx, Below w.heap.size w wx → wx.cell? ⟨b1, o1 + k * 5 + 1, none⟩ = some (.string CN)) := fun wx f => by have := (unhide HCEL wx f k c (unhide HHC)).1; rw [hCN] at this; exact this
    clear hCN
    go_wp2
    go_loopw [4] (fun i wx_ => ∃ k1 : Nat, k1 ≤ k ∧ i = .int .i64 k1 ∧ Hid (Below w.heap.size w wx_)) (fun i _ => k - (intOf i).toNat)
    case atStart => exact ⟨0, by omega, rfl, HF⟩
    case round =>
      obtain ⟨k1, hk1, rfl, HX⟩ := hrel
      by_cases hlk : k1 < k
      case pos =>
        have hlk1 : (k1 : Int) < (k : Int) := by omega
        have hlk2 : (k1 : Int) < (n : Int) := by omega
        obtain ⟨c1, hc1⟩ : ∃ c1, l[k1]? = some c1 := ⟨_, List.getElem?_eq_getElem (by omega)⟩
        have s0 := unhide HKC wr (unhide HX)
        have s1 := (unhide HCEL wr (unhide HX) k1 c1 hc1).1
        clear hc1
        by_cases hnm : c1.name = c.name
        · have e1 : (⟨c1.name.toArray⟩ : ByteArray) = CN := by rw [hnm, (unhide HCN).eq]
          rw [e1] at s1
          clear e1 hnm
          go_wp2
          go_region
          all_goals
            go_wp2
            go_ret
            exact ⟨⟨false, rfl, fun h => by cases h⟩, by first | exact unhide HX | exact (unhide HX).drew⟩
        · obtain ⟨x1, x2, x3⟩ := str_ne (A := CN) (B := ⟨c1.name.toArray⟩) (unhide HCN) ⟨rfl⟩ (fun e => hnm e.symm)
          generalize (⟨c1.name.toArray⟩ : ByteArray) = N1 at *
          clear hnm
          go_wp2
          go_region
          all_goals
            go_wp2
            go_roundw
            case rel => exact ⟨k1 + 1, by omega, by go_num, by first | exact HX | exact (unhide HX).drew⟩
            case measure => simp [intOf]; omega
      have hkk : k = k1 := by omega
      subst hkk
      have r1 := unhide HKC wr (unhide HX)
      have HA := hide (x10Above_any wr (some ⟨b1, o1, none⟩) n cap l ((unhide HL).below (unhide HX)) hn CN c.name (unhide HCN))
      go_wp2_with fail
      refine (unhide HA).mono ?_
      rintro e w1 ⟨v, rfl, ov, f1⟩
      have HF1 := hide ((unhide HX).trans (f1.mono (unhide HX).size))
      obtain ⟨va, vc, rfl, hv1, hv2, hv3⟩ := ov.form
      have hvl := ov.ls rkS
      have hup : (upL l c.name).length ≤ 1000000 := by have := up_few l c.name; omega
      have HLU : Hid (lastUp l c.name = (upL l c.name).getLast?.getD c.name) := rfl
      clear HA r1 ov f1 HX
      by_cases hem : upL l c.name = []
      · rw [hem] at hvl HLU ⊢
        have HLS : Hid (Str CN (lastUp l c.name)) := ⟨by rw [unhide HLU]; exact (unhide HCN).eq⟩
        generalize hLU : lastUp l c.name = LU at *
        have HLUE := hide hLU
        clear HLU hem hvl hup hv1 hv2 hv3 hLU
        go_wp2
        go_loopw [6] (fun i wx => ∃ k2 : Nat, k2 ≤ n ∧ i = .int .i64 k2 ∧ wx = w1 ∧ Hid (∀ (j : Nat) c', j < k2 → l[j]? = some c' → c'.name = LU → c'.sup = [])) (fun i _ => n - (intOf i).toNat)
        case atStart => exact ⟨0, by omega, rfl, rfl, fun j c' h => by omega⟩
        case round =>
          obtain ⟨k2, hk2, rfl, rfl, HQ⟩ := hrel
          have r0 := unhide HKC wr (unhide HF1)
          by_cases hlt2 : k2 < n
          case neg =>
            obtain rfl : k2 = n := by omega
            have HNX : Hid (nxt l LU = none) := by
              show nxt l LU = none
              unfold nxt
              cases hp : fstN l LU with
              | none => rfl
              | some p =>
                obtain ⟨c', hc', hn', hpl⟩ := fstN_some hp
                simp only
                rw [if_pos (by rw [supAt_is hc']; exact unhide HQ p c' (by omega) hc' hn')]
            have r2 := (unhide HCEL wr (unhide HF1) k c (unhide HHC)).2
            have hkn2 : (k : Int) < (k2 : Int) := by omega
            clear HQ
            by_cases ho : c.name = objN
            case neg =>
              have y1 : ¬ CN.toList = [79, 98, 106, 101, 99, 116] := by rw [(unhide HCN).list]; exact ho
              have y2 : (CN.toList == [79, 98, 106, 101, 99, 116]) = false := by simpa using y1
              have HR' : Hid (∀ (j : Nat) c', j < k + 1 → l[j]? = some c' → nxt l (lastUp l c'.name) = none ∧ (c'.name = objN → c'.sup = [])) := fun j c' hj hc' => by
                by_cases hjk : j = k
                · subst hjk
                  rw [unhide HHC] at hc'
                  injection hc' with hc'
                  rw [← hc', unhide HLUE]
                  exact ⟨unhide HNX, fun e => absurd e ho⟩
                · exact unhide HR j c' (by omega) hc'
              generalize (⟨c.sup.toArray⟩ : ByteArray) = SP at *
              clear HNX HR ho
              go_wp2
              go_roundw
              case rel => exact ⟨k + 1, by omega, by go_num, HF1, HR'⟩
              case measure => simp [intOf]; omega
            have e9 : CN = ⟨#[79, 98, 106, 101, 99, 116]⟩ := by rw [(unhide HCN).eq, ho]; rfl
            rw [e9] at r0
            by_cases hsp : c.sup = []
            case pos =>
              have e2 : (⟨c.sup.toArray⟩ : ByteArray) = ⟨#[]⟩ := by rw [hsp]
              rw [e2] at r2
              have HR' : Hid (∀ (j : Nat) c', j < k + 1 → l[j]? = some c' → nxt l (lastUp l c'.name) = none ∧ (c'.name = objN → c'.sup = [])) := fun j c' hj hc' => by
                by_cases hjk : j = k
                · subst hjk
                  rw [unhide HHC] at hc'
                  injection hc' with hc'
                  rw [← hc', unhide HLUE]
                  exact ⟨unhide HNX, fun _ => hsp⟩
                · exact unhide HR j c' (by omega) hc'
              clear HNX HR e9 e2 hsp ho
              go_wp2
              go_roundw
              case rel => exact ⟨k + 1, by omega, by go_num, HF1, HR'⟩
              case measure => simp [intOf]; omega
            obtain ⟨S2, hS2⟩ := Str.of c.sup
            rw [← hS2.eq] at r2
            have z1 : ¬ S2.toList = [] := by rw [hS2.list]; exact hsp
            have z2 : S2.toList.isEmpty = false := by rw [hS2.list]; cases hcs : c.sup with | nil => exact absurd hcs hsp | cons _ _ => rfl
            have z3 : (S2.toList == []) = false := by simpa using z1
            have z4 : (S2.toList != []) = true := by simpa using z1
            clear hS2 e9 HNX HR
            go_wp2
            go_ret
            exact ⟨⟨false, rfl, fun h => by cases h⟩, unhide HF1⟩
          have hlt2' : (k2 : Int) < (n : Int) := by omega
          obtain ⟨c2, hc2⟩ : ∃ c2, l[k2]? = some c2 := ⟨_, List.getElem?_eq_getElem (by omega)⟩
          have s1 := (unhide HCEL wr (unhide HF1) k2 c2 hc2).1
          have s2 := (unhide HCEL wr (unhide HF1) k2 c2 hc2).2
          have HC2 := hide hc2
          clear hc2
          by_cases hnm : c2.name = LU
          case neg =>
            obtain ⟨x1, x2, x3⟩ := str_ne (A := ⟨c2.name.toArray⟩) (B := CN) ⟨rfl⟩ (unhide HLS) hnm
            have HQ' : Hid (∀ (j : Nat) c', j < k2 + 1 → l[j]? = some c' → c'.name = LU → c'.sup = []) := fun j c' hj hc' hf => by
              by_cases hjk : j = k2
              · subst hjk
                rw [unhide HC2] at hc'
                injection hc' with hc'
                rw [← hc'] at hf
                exact absurd hf hnm
              · exact unhide HQ j c' (by omega) hc' hf
            generalize (⟨c2.name.toArray⟩ : ByteArray) = N2 at *
            clear HQ HC2 hnm
            go_wp2
            go_roundw
            case rel => exact ⟨k2 + 1, by omega, by go_num, (by first | rfl | trivial), HQ'⟩
            case measure => simp [intOf]; omega
          have e1 : (⟨c2.name.toArray⟩ : ByteArray) = CN := by rw [hnm, (unhide HLS).eq]
          rw [e1] at s1
          by_cases hsp : c2.sup = []
          case pos =>
            have e2 : (⟨c2.sup.toArray⟩ : ByteArray) = ⟨#[]⟩ := by rw [hsp]
            rw [e2] at s2
            have HQ' : Hid (∀ (j : Nat) c', j < k2 + 1 → l[j]? = some c' → c'.name = LU → c'.sup = []) := fun j c' hj hc' hf => by
              by_cases hjk : j = k2
              · subst hjk
                rw [unhide HC2] at hc'
                injection hc' with hc'
                rw [← hc']
                exact hsp
              · exact unhide HQ j c' (by omega) hc' hf
            clear HQ HC2 e1 e2
            go_wp2
            go_roundw
            case rel => exact ⟨k2 + 1, by omega, by go_num, (by first | rfl | trivial), HQ'⟩
            case measure => simp [intOf]; omega
          obtain ⟨S2, hS2⟩ := Str.of c2.sup
          rw [← hS2.eq] at s2
          have z1 : ¬ S2.toList = [] := by rw [hS2.list]; exact hsp
          have z2 : S2.toList.isEmpty = false := by rw [hS2.list]; cases hcs : c2.sup with | nil => exact absurd hcs hsp | cons _ _ => rfl
          have z3 : (S2.toList == []) = false := by simpa using z1
          have z4 : (S2.toList != []) = true := by simpa using z1
          clear hS2 e1 HQ
          go_wp2
          go_ret
          exact ⟨⟨false, rfl, fun h => by cases h⟩, unhide HF1⟩
      · have hpos : 0 < (upL l c.name).length := List.length_pos_iff.2 hem
        obtain ⟨s, hs⟩ : ∃ s, (upL l c.name)[(upL l c.name).length - 1]? = some s := ⟨_, List.getElem?_eq_getElem (by omega)⟩
        have hlu : lastUp l c.name = s := by
          rw [unhide HLU, List.getLast?_eq_getElem?, hs]
          rfl
        obtain ⟨b2, o2, h2a, h2⟩ := Ls.row hvl (w' := w1) (by omega)
        subst h2a
        have q1 := (h2 (Below.refl _ _) _ s hs).zero
        obtain ⟨LS, hLS⟩ : ∃ LS : ByteArray, ⟨s.toArray⟩ = LS := ⟨_, rfl⟩
        rw [hLS] at q1
        have HLS : Hid (Str LS (lastUp l c.name)) := ⟨by rw [hlu, hLS]⟩
        obtain ⟨m, hm⟩ : ∃ m, (upL l c.name).length = m + 1 := ⟨(upL l c.name).length - 1, by omega⟩
        rw [hm] at hvl q1 hup ⊢
        simp only [Nat.add_sub_cancel, Nat.mul_one] at q1
        obtain ⟨M, hM⟩ : ∃ M, m + 1 = M := ⟨_, rfl⟩
        rw [hM] at hvl hup ⊢
        have hM1 : (M : Int) - 1 = m := by omega
        have hM2 : (0 : Int) < (M : Int) := by omega
        have hM3 : (m : Int) < (M : Int) := by omega
        have hM4 : m < M := by omega
        have hM5 : (0 : Int) ≤ (m : Int) := by omega
        generalize hLU : lastUp l c.name = LU at *
        have HLUE := hide hLU
        clear HLU hem hvl hLS hv1 hv2 hv3 hLU h2 hs hlu hm hM hpos
        go_wp2
        go_loopw [6] (fun i wx => ∃ k2 : Nat, k2 ≤ n ∧ i = .int .i64 k2 ∧ wx = w1 ∧ Hid (∀ (j : Nat) c', j < k2 → l[j]? = some c' → c'.name = LU → c'.sup = [])) (fun i _ => n - (intOf i).toNat)
        case atStart => exact ⟨0, by omega, rfl, rfl, fun j c' h => by omega⟩
        case round =>
          obtain ⟨k2, hk2, rfl, rfl, HQ⟩ := hrel
          have r0 := unhide HKC wr (unhide HF1)
          by_cases hlt2 : k2 < n
          case neg =>
            obtain rfl : k2 = n := by omega
            have HNX : Hid (nxt l LU = none) := by
              show nxt l LU = none
              unfold nxt
              cases hp : fstN l LU with
              | none => rfl
              | some p =>
                obtain ⟨c', hc', hn', hpl⟩ := fstN_some hp
                simp only
                rw [if_pos (by rw [supAt_is hc']; exact unhide HQ p c' (by omega) hc' hn')]
            have r2 := (unhide HCEL wr (unhide HF1) k c (unhide HHC)).2
            have hkn2 : (k : Int) < (k2 : Int) := by omega
            clear HQ
            by_cases ho : c.name = objN
            case neg =>
              have y1 : ¬ CN.toList = [79, 98, 106, 101, 99, 116] := by rw [(unhide HCN).list]; exact ho
              have y2 : (CN.toList == [79, 98, 106, 101, 99, 116]) = false := by simpa using y1
              have HR' : Hid (∀ (j : Nat) c', j < k + 1 → l[j]? = some c' → nxt l (lastUp l c'.name) = none ∧ (c'.name = objN → c'.sup = [])) := fun j c' hj hc' => by
                by_cases hjk : j = k
                · subst hjk
                  rw [unhide HHC] at hc'
                  injection hc' with hc'
                  rw [← hc', unhide HLUE]
                  exact ⟨unhide HNX, fun e => absurd e ho⟩
                · exact unhide HR j c' (by omega) hc'
              generalize (⟨c.sup.toArray⟩ : ByteArray) = SP at *
              clear HNX HR ho
              go_wp2
              go_roundw
              case rel => exact ⟨k + 1, by omega, by go_num, HF1, HR'⟩
              case measure => simp [intOf]; omega
            have e9 : CN = ⟨#[79, 98, 106, 101, 99, 116]⟩ := by rw [(unhide HCN).eq, ho]; rfl
            rw [e9] at r0
            by_cases hsp : c.sup = []
            case pos =>
              have e2 : (⟨c.sup.toArray⟩ : ByteArray) = ⟨#[]⟩ := by rw [hsp]
              rw [e2] at r2
              have HR' : Hid (∀ (j : Nat) c', j < k + 1 → l[j]? = some c' → nxt l (lastUp l c'.name) = none ∧ (c'.name = objN → c'.sup = [])) := fun j c' hj hc' => by
                by_cases hjk : j = k
                · subst hjk
                  rw [unhide HHC] at hc'
                  injection hc' with hc'
                  rw [← hc', unhide HLUE]
                  exact ⟨unhide HNX, fun _ => hsp⟩
                · exact unhide HR j c' (by omega) hc'
              clear HNX HR e9 e2 hsp ho
              go_wp2
              go_roundw
              case rel => exact ⟨k + 1, by omega, by go_num, HF1, HR'⟩
              case measure => simp [intOf]; omega
            obtain ⟨S2, hS2⟩ := Str.of c.sup
            rw [← hS2.eq] at r2
            have z1 : ¬ S2.toList = [] := by rw [hS2.list]; exact hsp
            have z2 : S2.toList.isEmpty = false := by rw [hS2.list]; cases hcs : c.sup with | nil => exact absurd hcs hsp | cons _ _ => rfl
            have z3 : (S2.toList == []) = false := by simpa using z1
            have z4 : (S2.toList != []) = true := by simpa using z1
            clear hS2 e9 HNX HR
            go_wp2
            go_ret
            exact ⟨⟨false, rfl, fun h => by cases h⟩, unhide HF1⟩
          have hlt2' : (k2 : Int) < (n : Int) := by omega
          obtain ⟨c2, hc2⟩ : ∃ c2, l[k2]? = some c2 := ⟨_, List.getElem?_eq_getElem (by omega)⟩
          have s1 := (unhide HCEL wr (unhide HF1) k2 c2 hc2).1
          have s2 := (unhide HCEL wr (unhide HF1) k2 c2 hc2).2
          have HC2 := hide hc2
          clear hc2
          by_cases hnm : c2.name = LU
          case neg =>
            obtain ⟨x1, x2, x3⟩ := str_ne (A := ⟨c2.name.toArray⟩) (B := LS) ⟨rfl⟩ (unhide HLS) hnm
            have HQ' : Hid (∀ (j : Nat) c', j < k2 + 1 → l[j]? = some c' → c'.name = LU → c'.sup = []) := fun j c' hj hc' hf => by
              by_cases hjk : j = k2
              · subst hjk
                rw [unhide HC2] at hc'
                injection hc' with hc'
                rw [← hc'] at hf
                exact absurd hf hnm
              · exact unhide HQ j c' (by omega) hc' hf
            generalize (⟨c2.name.toArray⟩ : ByteArray) = N2 at *
            clear HQ HC2 hnm
            go_wp2
            go_roundw
            case rel => exact ⟨k2 + 1, by omega, by go_num, (by first | rfl | trivial), HQ'⟩
            case measure => simp [intOf]; omega
          have e1 : (⟨c2.name.toArray⟩ : ByteArray) = LS := by rw [hnm, (unhide HLS).eq]
          rw [e1] at s1
          by_cases hsp : c2.sup = []
          case pos =>
            have e2 : (⟨c2.sup.toArray⟩ : ByteArray) = ⟨#[]⟩ := by rw [hsp]
            rw [e2] at s2
            have HQ' : Hid (∀ (j : Nat) c', j < k2 + 1 → l[j]? = some c' → c'.name = LU → c'.sup = []) := fun j c' hj hc' hf => by
              by_cases hjk : j = k2
              · subst hjk
                rw [unhide HC2] at hc'
                injection hc' with hc'
                rw [← hc']
                exact hsp
              · exact unhide HQ j c' (by omega) hc' hf
            clear HQ HC2 e1 e2
            go_wp2
            go_roundw
            case rel => exact ⟨k2 + 1, by omega, by go_num, (by first | rfl | trivial), HQ'⟩
            case measure => simp [intOf]; omega
          obtain ⟨S2, hS2⟩ := Str.of c2.sup
          rw [← hS2.eq] at s2
          have z1 : ¬ S2.toList = [] := by rw [hS2.list]; exact hsp
          have z2 : S2.toList.isEmpty = false := by rw [hS2.list]; cases hcs : c2.sup with | nil => exact absurd hcs hsp | cons _ _ => rfl
          have z3 : (S2.toList == []) = false := by simpa using z1
          have z4 : (S2.toList != []) = true := by simpa using z1
          clear hS2 e1 HQ
          go_wp2
          go_ret
          exact ⟨⟨false, rfl, fun h => by cases h⟩, unhide HF1⟩
end Go.Proofs.YteooppjbpekepaaGreatDoor

/- Layer 11: the walk of ShapeWeaker (written by mk/mksia.py). -/
namespace Go.Proofs.YteooppjbpekepaaGreatDoor
open Go.RowKit
set_option linter.unusedVariables false
set_option maxRecDepth 100000

theorem frin_of2 {w : World} {l s : Sl} {u v : List Ty} (hl : TysIn w l u) (hs : TysIn w s v) (hu : ∀ t ∈ u, nmOk t) (hv : ∀ t ∈ v, nmOk t) (h1 : l.n ≤ 1000) (h2 : s.n ≤ 1000) : FrIn w l s u v := ⟨hl.ls, hs.ls, hu, hv, by omega, by omega⟩
theorem four_blocks (w : World) (A B C D : Array Value) (tA tB tC tD : TypeId) : ∃ w4, w4 = (((w.alloc (.cells A tA)).alloc (.cells B tB)).alloc (.cells C tC)).alloc (.cells D tD) ∧ Below w.heap.size w w4 ∧ w4.heap[w.heap.size]? = some (.cells A tA (0, 0)) ∧ w4.heap[w.heap.size + 1]? = some (.cells B tB (0, 0)) ∧ w4.heap[w.heap.size + 1 + 1]? = some (.cells C tC (0, 0)) ∧ w4.heap[w.heap.size + 1 + 1 + 1]? = some (.cells D tD (0, 0)) := by
  obtain ⟨w3, h3, f3, z3, a, b, c⟩ := three_blocks w A B C tA tB tC
  refine ⟨w3.alloc (.cells D tD), by rw [h3], bA f3 _, ?_, ?_, ?_, ?_⟩
  · exact (heap_alloc_old _ _ (lt_of_heap a)).trans a
  · exact (heap_alloc_old _ _ (lt_of_heap b)).trans b
  · exact (heap_alloc_old _ _ (lt_of_heap c)).trans c
  · have t := heap_alloc_last w3 (.cells D tD)
    rw [z3] at t
    exact t
theorem set_five {W : World} {A : Nat} {T : TypeId} {a0 a1 a2 a3 a4 : Value} (c0 c1 c2 c3 c4 : Value) (h : W.heap[A]? = some (.cells #[a0, a1, a2, a3, a4] T (0, 0))) :
    (((((W.setCell ⟨A, 0, none⟩ c0).setCell ⟨A, 1, none⟩ c1).setCell ⟨A, 2, none⟩ c2).setCell ⟨A, 3, none⟩ c3).setCell ⟨A, 4, none⟩ c4).heap[A]? = some (.cells #[c0, c1, c2, c3, c4] T (0, 0)) :=
  heap_setCell_same _ A 4 _ _ c4 (heap_setCell_same _ A 3 _ _ c3 (heap_setCell_same _ A 2 _ _ c2 (heap_setCell_same _ A 1 _ _ c1 (heap_setCell_same W A 0 _ _ c0 h))))
theorem keep_five {W : World} {A k : Nat} (c0 c1 c2 c3 c4 : Value) (h : k ≠ A) : (((((W.setCell ⟨A, 0, none⟩ c0).setCell ⟨A, 1, none⟩ c1).setCell ⟨A, 2, none⟩ c2).setCell ⟨A, 3, none⟩ c3).setCell ⟨A, 4, none⟩ c4).heap[k]? = W.heap[k]? :=
  (heap_setCell_other _ _ _ _ h).trans ((heap_setCell_other _ _ _ _ h).trans ((heap_setCell_other _ _ _ _ h).trans ((heap_setCell_other _ _ _ _ h).trans (heap_setCell_other _ _ _ _ h))))
theorem bel_five {B A : Nat} {w W : World} (c0 c1 c2 c3 c4 : Value) (h : Below B w W) (hA : B ≤ A) : Below B w (((((W.setCell ⟨A, 0, none⟩ c0).setCell ⟨A, 1, none⟩ c1).setCell ⟨A, 2, none⟩ c2).setCell ⟨A, 3, none⟩ c3).setCell ⟨A, 4, none⟩ c4) :=
  ((((h.setCell (p := ⟨A, 0, none⟩) hA _).setCell (p := ⟨A, 1, none⟩) hA _).setCell (p := ⟨A, 2, none⟩) hA _).setCell (p := ⟨A, 3, none⟩) hA _).setCell (p := ⟨A, 4, none⟩) hA _
/-- What comes of a step, with the names' lengths. -/
def SV (base : Nat) (r : Option (List Ty × List Ty)) (W : World) (l s : Sl) : Prop := match r with
  | none => True
  | some y => Orw tyc 52 2 W base l.v y.1 ∧ Orw tyc 52 2 W base s.v y.2 ∧ (∀ t ∈ y.1, nmOk t) ∧ ∀ t ∈ y.2, nmOk t
theorem SV.below {base : Nat} {r : Option (List Ty × List Ty)} {W W' : World} {l s : Sl} (h : SV base r W l s) (f : Below W.heap.size W W') : SV base r W' l s := by
  cases r with
  | none => trivial
  | some y => exact ⟨h.1.below fun k hk => f.block _ (h.1.lt k hk).2, h.2.1.below fun k hk => f.block _ (h.2.1.lt k hk).2, h.2.2⟩
theorem step_sv {w : World} {r : Option (List Ty × List Ty)} {e : Ending} {w' : World} (h : step_post w r e w') : ∃ l s : Sl, e = .returned (.tuple #[.agg #[.slice l.a l.n l.c, .slice s.a s.n s.c], .int .i64 (erV r)]) ∧ SV w.heap.size r w' l s ∧ Below w.heap.size w w' := by
  obtain ⟨f, h⟩ := h
  cases r with
  | none => exact ⟨⟨none, 0, 0⟩, ⟨none, 0, 0⟩, h, trivial, f⟩
  | some y =>
    obtain ⟨l, s, h1, h2, h3, h4⟩ := h
    exact ⟨l, s, h1, ⟨h2, h3, h4⟩, f⟩
theorem sv_frin {base : Nat} {y : List Ty × List Ty} {W : World} {l s : Sl} (h : SV base (some y) W l s) (h1 : y.1.length ≤ 1000) (h2 : y.2.length ≤ 1000) : FrIn W l s y.1 y.2 := by
  obtain ⟨la, ln, lc⟩ := l
  obtain ⟨sa, sn, sc⟩ := s
  have a := h.1.ls rkT
  have b := h.2.1.ls rkT
  have e1 : y.1.length = ln := a.1
  have e2 : y.2.length = sn := b.1
  exact ⟨a, b, h.2.2.1, h.2.2.2, by simp only; omega, by simp only; omega⟩
theorem dec_and {a b : Prop} [Decidable a] [Decidable b] (h : ¬ (a ∧ b)) : (decide a && decide b) = false := by
  cases hh : (decide a && decide b) with
  | false => rfl
  | true => rw [Bool.and_eq_true, decide_eq_true_eq, decide_eq_true_eq] at hh; exact absurd hh h
theorem dec_yes {a b : Prop} [Decidable a] [Decidable b] (h : a ∧ b) : (decide a && decide b) = true := by rw [decide_eq_true h.1, decide_eq_true h.2]; rfl
theorem wideN_ge (l : List Ty) : l.length ≤ wideN l := by unfold wideN; omega
set_option maxHeartbeats 6400000 in
theorem weaker_walk (w : World) (hT : Tab9s w) (ca : Option Addr) (cn cc : Nat) (l : List Nc) (hl : Ls 2 nc2 w ca cn l) (hcn : cn ≤ 140737488351232) (pa : Option Addr) (pn pc : Nat) (en : List Ent) (hE : EIn w pa pn pc en) (bk : Ty) (hbk : nmOk bk) (most : Int) (at0 op a b : Int) (hA : -9223372036854775808 ≤ a ∧ a ≤ 9223372036854775807) (s : Sl) (cs : List Cas) (hL : Ls 2 cac w s.a s.n cs) (hnil : s.a = none → s.n = 0 ∧ s.c = 0) (hsm : s.n * 16 ≤ 140737488351232) (lo st lo2 st2 : Sl) (u1 v1 u2 v2 : List Ty) (hlo : TysIn w lo u1) (hst : TysIn w st v1) (hu : ∀ t ∈ u1, nmOk t) (hv : ∀ t ∈ v1, nmOk t) (hlo2 : TysIn w lo2 u2) (hst2 : TysIn w st2 v2) (hu2 : ∀ t ∈ u2, nmOk t) (hv2 : ∀ t ∈ v2, nmOk t) :
    Calls Tryz.prog 4 #[.agg #[.slice ca cn cc, .slice pa pn pc, .int .i64 bk.kind, .string ⟨bk.name.toArray⟩, .int .i64 most], .agg #[.int .i64 at0, .int .i64 op, .int .i64 a, .int .i64 b, s.v], .agg #[lo.v, st.v], .agg #[lo2.v, st2.v]] w fun e w' => e = .returned (.bool true) ∧ Below w.heap.size w w' := by
  obtain ⟨sa, sn, sc⟩ := s
  obtain ⟨la, ln, lc⟩ := lo
  obtain ⟨ta, tn, tc⟩ := st
  obtain ⟨la2, ln2, lc2⟩ := lo2
  obtain ⟨ta2, tn2, tc2⟩ := st2
  unfold Sl.v
  simp only at hL hnil hsm ⊢
  obtain ⟨w4, hw4, f4, hb0, hb1, hb2, hb3⟩ := four_blocks w #[.slice ca cn cc, .slice pa pn pc, .int .i64 bk.kind, .string ⟨bk.name.toArray⟩, .int .i64 most] #[.int .i64 at0, .int .i64 op, .int .i64 a, .int .i64 b, .slice sa sn sc] #[.slice la ln lc, .slice ta tn tc] #[.slice la2 ln2 lc2, .slice ta2 tn2 tc2] 54 57 32 32
  have HWo := hide (works11_any w4 (hT.below f4))
  have HW4 := hide hw4
  have HI := hide (And.intro hT (And.intro hl (And.intro hE hL)))
  have HN := hide (And.intro hnil (And.intro hsm (And.intro hbk hA)))
  have HNl := hide (And.intro hlo.nil (And.intro hst.nil (And.intro hlo2.nil hst2.nil)))
  have HFA := hide (And.intro hlo (And.intro hst (And.intro hu hv)))
  have HFB := hide (And.intro hlo2 (And.intro hst2 (And.intro hu2 hv2)))
  have KB : Hid (∀ W, Below w4.heap.size w4 W → (W.cell? ⟨w.heap.size, 0, none⟩ = some (.slice ca cn cc) ∧ W.cell? ⟨w.heap.size, 1, none⟩ = some (.slice pa pn pc) ∧ W.cell? ⟨w.heap.size, 2, none⟩ = some (.int .i64 bk.kind) ∧ W.cell? ⟨w.heap.size, 3, none⟩ = some (.string ⟨bk.name.toArray⟩)) ∧ (W.cell? ⟨w.heap.size + 1, 0, none⟩ = some (.int .i64 at0) ∧ W.cell? ⟨w.heap.size + 1, 1, none⟩ = some (.int .i64 op) ∧ W.cell? ⟨w.heap.size + 1, 2, none⟩ = some (.int .i64 a) ∧ W.cell? ⟨w.heap.size + 1, 3, none⟩ = some (.int .i64 b) ∧ W.cell? ⟨w.heap.size + 1, 4, none⟩ = some (.slice sa sn sc)) ∧ (W.cell? ⟨w.heap.size + 1 + 1, 0, none⟩ = some (.slice la ln lc) ∧ W.cell? ⟨w.heap.size + 1 + 1, 1, none⟩ = some (.slice ta tn tc)) ∧ W.cell? ⟨w.heap.size + 1 + 1 + 1, 0, none⟩ = some (.slice la2 ln2 lc2) ∧ W.cell? ⟨w.heap.size + 1 + 1 + 1, 1, none⟩ = some (.slice ta2 tn2 tc2)) := fun W f => by
    have e0 := (f.block _ (lt_of_heap hb0)).trans hb0
    have e1 := (f.block _ (lt_of_heap hb1)).trans hb1
    have e2 := (f.block _ (lt_of_heap hb2)).trans hb2
    have e3 := (f.block _ (lt_of_heap hb3)).trans hb3
    exact ⟨⟨bx_cell e0 0 _ rfl, bx_cell e0 1 _ rfl, bx_cell e0 2 _ rfl, bx_cell e0 3 _ rfl⟩, ⟨bx_cell e1 0 _ rfl, bx_cell e1 1 _ rfl, bx_cell e1 2 _ rfl, bx_cell e1 3 _ rfl, bx_cell e1 4 _ rfl⟩, ⟨bx_cell e2 0 _ rfl, bx_cell e2 1 _ rfl⟩, bx_cell e3 0 _ rfl, bx_cell e3 1 _ rfl⟩
  have F4 := hide f4
  clear hT hl hE hL hlo hst hu hv hlo2 hst2 hu2 hv2 hnil hsm hbk hA f4 hb0 hb1 hb2 hb3 hw4
  go_enter Tryz.func4, Tryz.ntmps4
  go_wp2_with fail
  rw [← unhide HW4]
  refine (unhide HWo).mono ?_
  rintro e w5 ⟨rfl, f5⟩
  have F5 := hide f5
  have KC : Hid (∀ W, Below w5.heap.size w5 W → Below w4.heap.size w4 W ∧ Below w.heap.size w W) := fun W f => by
    have g := (unhide F5).trans (f.mono (unhide F5).size)
    exact ⟨g, (unhide F4).trans (g.mono (unhide F4).size)⟩
  clear f5 HWo
  go_wp2_with fail
  have HCl : Hid (∀ W, Below w5.heap.size w5 W → Calls Tryz.prog 10 #[.slice ca cn cc] W fun e w' => ∃ (ka : Option Addr) (kn kc : Nat), e = .returned (.slice ka kn kc) ∧ Orw ncc 38 5 w' W.heap.size (.slice ka kn kc) (l.take 30) ∧ kn ≤ 40 ∧ Below W.heap.size W w') := fun W f => by
    refine (l11classes_any W ca cn cc l ((unhide HI).2.1.below (unhide KC W f).2) hcn).mono fun e w' h => ?_
    obtain ⟨vv, h1, h2, h3⟩ := h
    obtain ⟨ka, kc, hk, _⟩ := h2.form
    subst hk
    exact ⟨ka, (l.take 30).length, kc, h1, h2, by rw [List.length_take]; omega, h3⟩
  have KS : Hid (∀ W, Below w5.heap.size w5 W → W.cell? ⟨w.heap.size, 0, none⟩ = some (.slice ca cn cc) ∧ W.cell? ⟨w.heap.size, 1, none⟩ = some (.slice pa pn pc)) := fun W f => by
    obtain ⟨⟨p0, p1, _⟩, _⟩ := unhide KB W (unhide KC W f).1
    exact ⟨p0, p1⟩
  obtain ⟨p0, p1⟩ := unhide KS w5 (Below.refl _ _)
  have HClB : Hid (∀ W, Below w5.heap.size w5 W → W.heap[w5.heap.size]? = some (.cells #[.slice none 0 0, .string ⟨#[]⟩, .string ⟨#[]⟩, .slice none 0 0, .slice none 0 0] 38 (0, 0)) → Calls Tryz.prog 10 #[.slice ca cn cc] W fun e w' => ∃ (ka : Option Addr) (kn kc : Nat), e = .returned (.slice ka kn kc) ∧ Orw ncc 38 5 w' W.heap.size (.slice ka kn kc) (l.take 30) ∧ kn ≤ 40 ∧ Below W.heap.size W w' ∧ w'.heap[w5.heap.size]? = some (.cells #[.slice none 0 0, .string ⟨#[]⟩, .string ⟨#[]⟩, .slice none 0 0, .slice none 0 0] 38 (0, 0)) ∧ w5.heap.size < W.heap.size) := fun W f hb => by
    refine (unhide HCl W f).mono fun e w' h => ?_
    obtain ⟨ka, kn, kc, h1, h2, h3, h4⟩ := h
    exact ⟨ka, kn, kc, h1, h2, h3, h4, (h4.block _ (lt_of_heap hb)).trans hb, lt_of_heap hb⟩
  go_cut [9, 10] from 17 (fun v9 v10 wr => ∃ (k : Sl) (q : Nat), v9 = .slice k.a k.n k.c ∧ v10 = .pointer (some ⟨q, 0, none⟩) ∧ Hid (Ls 5 ncc wr k.a k.n (l.take 30)) ∧ k.n ≤ 40 ∧ Hid (wr.heap[q]? = some (.cells #[.slice pa pn pc, .string ⟨#[]⟩, .string ⟨#[]⟩, .slice none 0 0, .slice none 0 0] 38 (0, 0))) ∧ Hid (Below w5.heap.size w5 wr))
  case first =>
    go_region_held3 (fun W => W.cell? ⟨w.heap.size, 0, none⟩ = some (.slice ca cn cc) ∧ W.cell? ⟨w.heap.size, 1, none⟩ = some (.slice pa pn pc))
      (exact unhide KS _ (by repeat (first | with_reducible assumption | with_reducible exact Below.refl _ _ | with_reducible refine Below.drew ?_ | with_reducible refine bA ?_ _ | with_reducible refine bel_five _ _ _ _ _ ?_ (Nat.le_refl _))))
      (first
        | (go_at_call 10; refine Calls.mono (unhide HClB _ (by repeat (first | with_reducible assumption | with_reducible exact Below.refl _ _ | with_reducible refine Below.drew ?_ | with_reducible refine bA ?_ _)) (by exact heap_alloc_last _ _)) ?_; rintro e w6 ⟨ka, kn, kc, rfl, ok, hkn, f6, hq6, hlt6⟩; have B6 : Below w5.heap.size w5 w6 := bT f6 (by repeat (first | with_reducible exact Below.refl _ _ | with_reducible refine Below.drew ?_ | with_reducible refine bA ?_ _)); have z0 : w6.cell? ⟨w5.heap.size, 0, none⟩ = _ := bx_cell hq6 0 _ rfl; have z1 : w6.cell? ⟨w5.heap.size, 1, none⟩ = _ := bx_cell hq6 1 _ rfl; have z2 : w6.cell? ⟨w5.heap.size, 2, none⟩ = _ := bx_cell hq6 2 _ rfl; have z3 : w6.cell? ⟨w5.heap.size, 3, none⟩ = _ := bx_cell hq6 3 _ rfl; have z4 : w6.cell? ⟨w5.heap.size, 4, none⟩ = _ := bx_cell hq6 4 _ rfl; have zt : ∀ q, w6.frozen? ⟨w5.heap.size, q, none⟩ = false := fun q => bx_thaw hq6 q; have OK6 := hide ok; have HQ6 := hide (And.intro hq6 hlt6); clear ok f6 hq6 hlt6)
        | (go_at_call 10; refine Calls.mono (unhide HCl _ (by repeat (first | with_reducible assumption | with_reducible exact Below.refl _ _ | with_reducible refine Below.drew ?_ | with_reducible refine bA ?_ _))) ?_; rintro e w6 ⟨ka, kn, kc, rfl, ok, hkn, f6⟩; have B6 : Below w5.heap.size w5 w6 := bT f6 (by repeat (first | with_reducible exact Below.refl _ _ | with_reducible refine Below.drew ?_ | with_reducible refine bA ?_ _)); have OK6 := hide ok; clear ok f6))
    · go_wp2
      go_meet
      case rel =>
        exact ⟨⟨ka, kn, kc⟩, w6.heap.size, rfl, rfl, (orw_alloc (unhide OK6) _).ls rkN, hkn, heap_alloc_last _ _, bA B6 _⟩
    · go_wp2
      go_meet
      case rel =>
        refine ⟨⟨ka, kn, kc⟩, w5.heap.size, rfl, rfl, ?_, hkn, set_five _ _ _ _ _ (unhide HQ6).1, bel_five _ _ _ _ _ B6 (Nat.le_refl _)⟩
        refine Orw.ls rkN (c := kc) ((unhide OK6).below fun k hk => keep_five _ _ _ _ _ ?_)
        have h1 := ((unhide OK6).lt k hk).1
        have h2 := (unhide HQ6).2
        omega
  case rest =>
    obtain ⟨⟨ka, kn, kc⟩, q6, rfl, rfl, HK4, h7b, HR, HB⟩ := hcut
    simp only at HK4 h7b ⊢
    have F0 := hide (unhide KC wc (unhide HB)).2
    have KD : Hid (∀ W, Below wc.heap.size wc W → (W.cell? ⟨q6, 0, none⟩ = some (.slice pa pn pc) ∧ W.cell? ⟨q6, 1, none⟩ = some (.string ⟨#[]⟩) ∧ W.cell? ⟨q6, 2, none⟩ = some (.string ⟨#[]⟩) ∧ W.cell? ⟨q6, 3, none⟩ = some (.slice none 0 0) ∧ W.cell? ⟨q6, 4, none⟩ = some (.slice none 0 0)) ∧ (W.cell? ⟨w.heap.size, 2, none⟩ = some (.int .i64 bk.kind) ∧ W.cell? ⟨w.heap.size, 3, none⟩ = some (.string ⟨bk.name.toArray⟩) ∧ W.cell? ⟨w.heap.size, 0, none⟩ = some (.slice ca cn cc) ∧ W.cell? ⟨w.heap.size, 1, none⟩ = some (.slice pa pn pc)) ∧ (W.cell? ⟨w.heap.size + 1, 0, none⟩ = some (.int .i64 at0) ∧ W.cell? ⟨w.heap.size + 1, 1, none⟩ = some (.int .i64 op) ∧ W.cell? ⟨w.heap.size + 1, 2, none⟩ = some (.int .i64 a) ∧ W.cell? ⟨w.heap.size + 1, 3, none⟩ = some (.int .i64 b) ∧ W.cell? ⟨w.heap.size + 1, 4, none⟩ = some (.slice sa sn sc)) ∧ (W.cell? ⟨w.heap.size + 1 + 1, 0, none⟩ = some (.slice la ln lc) ∧ W.cell? ⟨w.heap.size + 1 + 1, 1, none⟩ = some (.slice ta tn tc)) ∧ W.cell? ⟨w.heap.size + 1 + 1 + 1, 0, none⟩ = some (.slice la2 ln2 lc2) ∧ W.cell? ⟨w.heap.size + 1 + 1 + 1, 1, none⟩ = some (.slice ta2 tn2 tc2)) := fun W f => by
      have fb := (unhide HB).trans (f.mono (unhide HB).size)
      obtain ⟨⟨p0, p1, p2, p3⟩, i, x, y⟩ := unhide KB W (unhide KC W fb).1
      have er := (f.block _ (lt_of_heap (unhide HR))).trans (unhide HR)
      exact ⟨⟨bx_cell er 0 _ rfl, bx_cell er 1 _ rfl, bx_cell er 2 _ rfl, bx_cell er 3 _ rfl, bx_cell er 4 _ rfl⟩, ⟨p2, p3, p0, p1⟩, i, x, y⟩
    have HFr : Hid (∀ W, Below wc.heap.size wc W → (ln ≤ 1000 ∧ tn ≤ 1000 → FrIn W ⟨la, ln, lc⟩ ⟨ta, tn, tc⟩ u1 v1) ∧ (ln2 ≤ 1000 ∧ tn2 ≤ 1000 → FrIn W ⟨la2, ln2, lc2⟩ ⟨ta2, tn2, tc2⟩ u2 v2) ∧ Ls 5 ncc W ka kn (l.take 30)) := fun W f => by
      have fw := (unhide F0).trans (f.mono (unhide F0).size)
      obtain ⟨h1, h2, h3, h4⟩ := unhide HFA
      obtain ⟨g1, g2, g3, g4⟩ := unhide HFB
      exact ⟨fun h => (frin_of2 h1 h2 h3 h4 h.1 h.2).below fw, fun h => (frin_of2 g1 g2 g3 g4 h.1 h.2).below fw, (unhide HK4).below f⟩
    have F6 : Hid (Below wc.heap.size wc wc) := Below.refl _ _
    obtain ⟨⟨c0, c1, c2, c3, c4⟩, ⟨p0, p1, p2, p3⟩, ⟨i0, i1, i2, i3, i4⟩, ⟨x0, x1⟩, y0, y1⟩ := unhide KD wc (unhide F6)
    clear HR HB KC KB HK4 HFA HFB HCl HClB KS
    have HLa := hide (l11light_any wc la ta ln lc tn tc)
    go_wp2_with fail
    refine (unhide HLa).mono ?_
    rintro e w7 ⟨rfl, f7⟩
    have F7 := hide ((unhide F6).trans (f7.mono (unhide F6).size))
    clear f7 HLa
    obtain ⟨⟨c0, c1, c2, c3, c4⟩, ⟨p0, p1, p2, p3⟩, ⟨i0, i1, i2, i3, i4⟩, ⟨x0, x1⟩, y0, y1⟩ := unhide KD w7 (unhide F7)
    by_cases hA1 : ln ≤ 100 ∧ tn ≤ 100
    case neg =>
      rw [dec_and hA1]
      go_wp2
      go_ret
      exact ⟨rfl, (unhide F0).trans ((unhide F7).mono (unhide F0).size)⟩
    rw [dec_yes hA1]
    obtain ⟨hA1, hA2⟩ := hA1
    have HLb := hide (l11light_any w7 la2 ta2 ln2 lc2 tn2 tc2)
    go_wp2_with fail
    refine (unhide HLb).mono ?_
    rintro e w8 ⟨rfl, f8⟩
    have F8 := hide ((unhide F7).trans (f8.mono (unhide F7).size))
    clear f8 HLb
    obtain ⟨⟨c0, c1, c2, c3, c4⟩, ⟨p0, p1, p2, p3⟩, ⟨i0, i1, i2, i3, i4⟩, ⟨x0, x1⟩, y0, y1⟩ := unhide KD w8 (unhide F8)
    by_cases hB1 : ln2 ≤ 100 ∧ tn2 ≤ 100
    case neg =>
      rw [dec_and hB1]
      go_wp2
      go_ret
      exact ⟨rfl, (unhide F0).trans ((unhide F8).mono (unhide F0).size)⟩
    rw [dec_yes hB1]
    obtain ⟨hB1, hB2⟩ := hB1
    have HRi := hide (l11right_any w8 ka kn kc (l.take 30) (unhide HFr w8 (unhide F8)).2.2 h7b)
    go_wp2_with fail
    refine (unhide HRi).mono ?_
    rintro e w9 ⟨⟨rr, rfl, hrr⟩, f9⟩
    have F9 := hide ((unhide F8).trans (f9.mono (unhide F8).size))
    clear f9 HRi
    obtain ⟨⟨c0, c1, c2, c3, c4⟩, ⟨p0, p1, p2, p3⟩, ⟨i0, i1, i2, i3, i4⟩, ⟨x0, x1⟩, y0, y1⟩ := unhide KD w9 (unhide F9)
    cases rr
    case false =>
      go_wp2
      go_ret
      exact ⟨rfl, (unhide F0).trans ((unhide F9).mono (unhide F0).size)⟩
    have HEO := hide (hrr rfl)
    clear hrr
    have HT1 := hide (l11there_any w9 la ln lc u1 ((unhide HFr w9 (unhide F9)).1 ⟨by omega, by omega⟩).ll ((unhide HFr w9 (unhide F9)).1 ⟨by omega, by omega⟩).lok (by omega))
    go_wp2_with fail
    refine (unhide HT1).mono ?_
    rintro e w10 ⟨bb10, rfl, f10⟩
    have F10 := hide ((unhide F9).trans (f10.mono (unhide F9).size))
    clear f10 HT1
    obtain ⟨⟨c0, c1, c2, c3, c4⟩, ⟨p0, p1, p2, p3⟩, ⟨i0, i1, i2, i3, i4⟩, ⟨x0, x1⟩, y0, y1⟩ := unhide KD w10 (unhide F10)
    cases bb10
    case false =>
      go_wp2
      go_ret
      exact ⟨rfl, (unhide F0).trans ((unhide F10).mono (unhide F0).size)⟩
    have HT2 := hide (l11there_any w10 ta tn tc v1 ((unhide HFr w10 (unhide F10)).1 ⟨by omega, by omega⟩).sl ((unhide HFr w10 (unhide F10)).1 ⟨by omega, by omega⟩).sok (by omega))
    go_wp2_with fail
    refine (unhide HT2).mono ?_
    rintro e w11 ⟨bb11, rfl, f11⟩
    have F11 := hide ((unhide F10).trans (f11.mono (unhide F10).size))
    clear f11 HT2
    obtain ⟨⟨c0, c1, c2, c3, c4⟩, ⟨p0, p1, p2, p3⟩, ⟨i0, i1, i2, i3, i4⟩, ⟨x0, x1⟩, y0, y1⟩ := unhide KD w11 (unhide F11)
    cases bb11
    case false =>
      go_wp2
      go_ret
      exact ⟨rfl, (unhide F0).trans ((unhide F11).mono (unhide F0).size)⟩
    have HT3 := hide (l11there_any w11 la2 ln2 lc2 u2 ((unhide HFr w11 (unhide F11)).2.1 ⟨by omega, by omega⟩).ll ((unhide HFr w11 (unhide F11)).2.1 ⟨by omega, by omega⟩).lok (by omega))
    go_wp2_with fail
    refine (unhide HT3).mono ?_
    rintro e w12 ⟨bb12, rfl, f12⟩
    have F12 := hide ((unhide F11).trans (f12.mono (unhide F11).size))
    clear f12 HT3
    obtain ⟨⟨c0, c1, c2, c3, c4⟩, ⟨p0, p1, p2, p3⟩, ⟨i0, i1, i2, i3, i4⟩, ⟨x0, x1⟩, y0, y1⟩ := unhide KD w12 (unhide F12)
    cases bb12
    case false =>
      go_wp2
      go_ret
      exact ⟨rfl, (unhide F0).trans ((unhide F12).mono (unhide F0).size)⟩
    have HT4 := hide (l11there_any w12 ta2 tn2 tc2 v2 ((unhide HFr w12 (unhide F12)).2.1 ⟨by omega, by omega⟩).sl ((unhide HFr w12 (unhide F12)).2.1 ⟨by omega, by omega⟩).sok (by omega))
    go_wp2_with fail
    refine (unhide HT4).mono ?_
    rintro e w13 ⟨bb13, rfl, f13⟩
    have F13 := hide ((unhide F12).trans (f13.mono (unhide F12).size))
    clear f13 HT4
    obtain ⟨⟨c0, c1, c2, c3, c4⟩, ⟨p0, p1, p2, p3⟩, ⟨i0, i1, i2, i3, i4⟩, ⟨x0, x1⟩, y0, y1⟩ := unhide KD w13 (unhide F13)
    cases bb13
    case false =>
      go_wp2
      go_ret
      exact ⟨rfl, (unhide F0).trans ((unhide F13).mono (unhide F0).size)⟩
    have HMa := hide (p11May_any w13 ka kn kc (l.take 30) (unhide HFr w13 (unhide F13)).2.2 h7b _ _ _ _ _ _ _ _ ((unhide HFr w13 (unhide F13)).1 ⟨by omega, by omega⟩) ((unhide HFr w13 (unhide F13)).2.1 ⟨by omega, by omega⟩))
    unfold Sl.v at HMa
    simp only at HMa
    go_wp2_with fail
    refine (unhide HMa).mono ?_
    rintro e w14 ⟨rfl, f14⟩
    have F14 := hide ((unhide F13).trans (f14.mono (unhide F13).size))
    clear f14 HMa
    obtain ⟨⟨c0, c1, c2, c3, c4⟩, ⟨p0, p1, p2, p3⟩, ⟨i0, i1, i2, i3, i4⟩, ⟨x0, x1⟩, y0, y1⟩ := unhide KD w14 (unhide F14)
    obtain ⟨mm, hmm⟩ : ∃ mm, (allM (l.take 30) u1 u2 && allM (l.take 30) v1 v2) = mm := ⟨_, rfl⟩
    rw [hmm]
    cases mm
    case false =>
      go_wp2
      go_ret
      exact ⟨rfl, (unhide F0).trans ((unhide F14).mono (unhide F0).size)⟩
    have HMM : Hid (allM (l.take 30) u1 u2 = true ∧ allM (l.take 30) v1 v2 = true) := by rw [Bool.and_eq_true] at hmm; exact hmm
    clear hmm
    obtain ⟨r1, hr1⟩ : ∃ r1, stepT ⟨l.take 30, en, bk, (plainOA op a).1, (plainOA op a).2⟩ 1000 u1 v1 = r1 := ⟨_, rfl⟩
    obtain ⟨r2, hr2⟩ : ∃ r2, stepT ⟨l.take 30, en, bk, (plainOA op a).1, (plainOA op a).2⟩ 1000 u2 v2 = r2 := ⟨_, rfl⟩
    have HStA : Hid (∀ W, Below wc.heap.size wc W → Calls Tryz.prog 20 #[.slice ka kn kc, .agg #[.slice pa pn pc, .string ⟨#[]⟩, .string ⟨#[]⟩, .slice none 0 0, .slice none 0 0], .agg #[.int .i64 bk.kind, .string ⟨bk.name.toArray⟩], .agg #[.int .i64 at0, .int .i64 op, .int .i64 a, .int .i64 b, .slice sa sn sc], .agg #[.slice la ln lc, .slice ta tn tc], .int .i64 1000] W fun e w' => ∃ l s : Sl, e = .returned (.tuple #[.agg #[.slice l.a l.n l.c, .slice s.a s.n s.c], .int .i64 (erV r1)]) ∧ SV W.heap.size r1 w' l s ∧ Below W.heap.size W w') := fun W f => by
      obtain ⟨hT, hl, hE, hL⟩ := unhide HI
      obtain ⟨hnil, hsm, hbk, hA⟩ := unhide HN
      have fw := (unhide F0).trans (f.mono (unhide F0).size)
      have hEE := hE.below fw
      have fr := (unhide HFr W f).1 ⟨by omega, by omega⟩
      have hlo := (unhide HNl).1
      refine (p11Step_any W ka kn kc pa pn pc ⟨sa, sn, sc⟩ ⟨la, ln, lc⟩ ⟨ta, tn, tc⟩ (l.take 30) en bk at0 op a b cs u1 v1 _ _ _ _ 1000 ⟨(unhide HFr W f).2.2, h7b, hEE.arg.es, by have := hEE.small; omega, hEE.fit, hbk, hA, hL.below fw, hnil, hsm, hT.below fw, fr, (unhide HNl).1, (unhide HNl).2.1, by simp only; omega, by simp only; omega⟩).mono fun e w' h => ?_
      rw [hr1] at h
      exact step_sv h
    have HStB : Hid (∀ W, Below wc.heap.size wc W → Calls Tryz.prog 20 #[.slice ka kn kc, .agg #[.slice pa pn pc, .string ⟨#[]⟩, .string ⟨#[]⟩, .slice none 0 0, .slice none 0 0], .agg #[.int .i64 bk.kind, .string ⟨bk.name.toArray⟩], .agg #[.int .i64 at0, .int .i64 op, .int .i64 a, .int .i64 b, .slice sa sn sc], .agg #[.slice la2 ln2 lc2, .slice ta2 tn2 tc2], .int .i64 1000] W fun e w' => ∃ l s : Sl, e = .returned (.tuple #[.agg #[.slice l.a l.n l.c, .slice s.a s.n s.c], .int .i64 (erV r2)]) ∧ SV W.heap.size r2 w' l s ∧ Below W.heap.size W w') := fun W f => by
      obtain ⟨hT, hl, hE, hL⟩ := unhide HI
      obtain ⟨hnil, hsm, hbk, hA⟩ := unhide HN
      have fw := (unhide F0).trans (f.mono (unhide F0).size)
      have hEE := hE.below fw
      have fr := (unhide HFr W f).2.1 ⟨by omega, by omega⟩
      refine (p11Step_any W ka kn kc pa pn pc ⟨sa, sn, sc⟩ ⟨la2, ln2, lc2⟩ ⟨ta2, tn2, tc2⟩ (l.take 30) en bk at0 op a b cs u2 v2 _ _ _ _ 1000 ⟨(unhide HFr W f).2.2, h7b, hEE.arg.es, by have := hEE.small; omega, hEE.fit, hbk, hA, hL.below fw, hnil, hsm, hT.below fw, fr, (unhide HNl).2.2.1, (unhide HNl).2.2.2, by simp only; omega, by simp only; omega⟩).mono fun e w' h => ?_
      rw [hr2] at h
      exact step_sv h
    have HR1 := hide hr1
    have HR2 := hide hr2
    clear hr1 hr2
    have HS1 := hide (unhide HStA w14 (unhide F14))
    go_wp2_with fail
    refine (unhide HS1).mono ?_
    rintro e w15 ⟨⟨a1, b1, d1⟩, ⟨a2, b2, d2⟩, rfl, sv1, f15⟩
    simp only at sv1 ⊢
    obtain ⟨w16, hw16⟩ : ∃ w16, w16 = w15.alloc (.cells #[.slice a1 b1 d1, .slice a2 b2 d2] 32) := ⟨_, rfl⟩
    have hr16 : w16.heap[w15.heap.size]? = some (.cells #[.slice a1 b1 d1, .slice a2 b2 d2] 32 (0, 0)) := by rw [hw16]; exact heap_alloc_last _ _
    have f16 : Below w15.heap.size w15 w16 := by rw [hw16]; exact bA (Below.refl _ _) _
    have F16 := hide (((unhide F14).trans (f15.mono (unhide F14).size)).trans (f16.mono ((unhide F14).trans (f15.mono (unhide F14).size)).size))
    have SV1 := hide (sv1.below f16)
    have HW16 := hide hw16
    have HR16 := hide hr16
    obtain ⟨⟨c0, c1, c2, c3, c4⟩, ⟨p0, p1, p2, p3⟩, ⟨i0, i1, i2, i3, i4⟩, ⟨x0, x1⟩, y0, y1⟩ := unhide KD w16 (unhide F16)
    rw [hw16] at c0 c1 c2 c3 c4 p0 p1 i0 i1 i2 i3 i4 y0 y1
    have HS2 := hide (unhide HStB w16 (unhide F16))
    clear sv1 f15 f16 hw16 hr16 HS1 HStA HStB p2 p3 x0 x1
    go_wp2_with fail
    rw [← unhide HW16]
    refine (unhide HS2).mono ?_
    rintro e w17 ⟨⟨a3, b3, d3⟩, ⟨a4, b4, d4⟩, rfl, sv2, f17⟩
    simp only at sv2 ⊢
    obtain ⟨w18, hw18⟩ : ∃ w18, w18 = w17.alloc (.cells #[.slice a3 b3 d3, .slice a4 b4 d4] 32) := ⟨_, rfl⟩
    have hr18 : w18.heap[w17.heap.size]? = some (.cells #[.slice a3 b3 d3, .slice a4 b4 d4] 32 (0, 0)) := by rw [hw18]; exact heap_alloc_last _ _
    have f18 : Below w17.heap.size w17 w18 := by rw [hw18]; exact bA (Below.refl _ _) _
    have g18 : Below w16.heap.size w16 w18 := f17.trans (f18.mono f17.size)
    have F18 := hide ((unhide F16).trans (g18.mono (unhide F16).size))
    have SV2 := hide (sv2.below f18)
    have SV1' := hide ((unhide SV1).below g18)
    have e16 := (g18.block _ (lt_of_heap (unhide HR16))).trans (unhide HR16)
    have HW18 := hide hw18
    have HRR := hide (And.intro e16 hr18)
    obtain ⟨_, _, _, ⟨x0, x1⟩, y0, y1⟩ := unhide KD w18 (unhide F18)
    rw [hw18] at x0 x1 y0 y1
    clear sv2 f17 f18 g18 hw18 hr18 e16 HS2 SV1 HR16 HW16 c0 c1 c2 c3 c4 p0 p1 i0 i1 i2 i3 i4
    cases r2 with
    | none =>
      rw [show erV none = 110 from rfl]
      clear x0 x1 y0 y1
      go_wp2
      go_ret
      rw [← unhide HW18]
      exact ⟨rfl, (unhide F0).trans ((unhide F18).mono (unhide F0).size)⟩
    | some z2 =>
      have hlens : ln = ln2 ∧ tn = tn2 := by
        obtain ⟨m1, m2⟩ := unhide HMM
        have e1 := ((unhide HFr w18 (unhide F18)).1 ⟨by omega, by omega⟩).ll.1
        have e2 := ((unhide HFr w18 (unhide F18)).1 ⟨by omega, by omega⟩).sl.1
        have e3 := ((unhide HFr w18 (unhide F18)).2.1 ⟨by omega, by omega⟩).ll.1
        have e4 := ((unhide HFr w18 (unhide F18)).2.1 ⟨by omega, by omega⟩).sl.1
        have e5 : u1.length = u2.length := Classical.byContradiction fun h => by rw [allM_len h] at m1; cases m1
        have e6 : v1.length = v2.length := Classical.byContradiction fun h => by rw [allM_len h] at m2; cases m2
        simp only at e1 e2 e3 e4
        omega
      have HLg := hide (l11long_any w18 la ln lc ta tn tc la2 ln2 lc2 ta2 tn2 tc2 u1 v1 u2 v2 ((unhide HFr w18 (unhide F18)).1 ⟨by omega, by omega⟩) ((unhide HFr w18 (unhide F18)).2.1 ⟨by omega, by omega⟩) hlens.1 hlens.2)
      clear hlens
      rw [show erV (some z2) = 0 from rfl]
      go_wp2_with fail
      rw [← unhide HW18]
      refine (unhide HLg).mono ?_
      rintro e w19 ⟨bl, rfl, hbl, f19⟩
      have F19 := hide ((unhide F18).trans (f19.mono (unhide F18).size))
      cases bl
      case true =>
        clear f19 hbl HLg x0 x1 y0 y1
        go_wp2
        go_ret
        exact ⟨rfl, (unhide F0).trans ((unhide F19).mono (unhide F0).size)⟩
      obtain ⟨nl1, nl2⟩ := hbl rfl
      obtain ⟨z1, hz1, hm1, hm2⟩ := step_weaker (p := ⟨l.take 30, en, bk, (plainOA op a).1, (plainOA op a).2⟩) (unhide HEO).1 (unhide HEO).2 (LR.of (unhide HMM).1 nl1) (LR.of (unhide HMM).2 nl2) (unhide HR2)
      have hrz : r1 = some z1 := (unhide HR1).symm.trans hz1
      subst hrz
      obtain ⟨s1, s2, s3⟩ := step_sizes (unhide HR1)
      obtain ⟨s4, s5, s6⟩ := step_sizes (unhide HR2)
      have e16 := (f19.block _ (lt_of_heap (unhide HRR).1)).trans (unhide HRR).1
      have e18 := (f19.block _ (lt_of_heap (unhide HRR).2)).trans (unhide HRR).2
      have k0 := bx_cell e16 0 _ rfl
      have k1 := bx_cell e16 1 _ rfl
      have k2 := bx_cell e18 0 _ rfl
      have k3 := bx_cell e18 1 _ rfl
      have hlu : u1.length = ln := ((unhide HFr w18 (unhide F18)).1 ⟨by omega, by omega⟩).ll.1
      have hlu2 : u2.length = ln2 := ((unhide HFr w18 (unhide F18)).2.1 ⟨by omega, by omega⟩).ll.1
      have w1 := wideN_ge z1.2
      have w2 := wideN_ge z2.2
      have HMf := hide (p11May_any w19 ka kn kc (l.take 30) (unhide HFr w19 (unhide F19)).2.2 h7b _ _ _ _ _ _ _ _ (sv_frin ((unhide SV1').below f19) (by omega) (by omega)) (sv_frin ((unhide SV2).below f19) (by omega) (by omega)))
      rw [show allM (l.take 30) z1.1 z2.1 = true from hm1, show allM (l.take 30) z1.2 z2.2 = true from hm2] at HMf
      unfold Sl.v at HMf
      simp only at HMf
      clear f19 hbl HLg x0 x1 y0 y1 nl1 nl2 hz1 hm1 hm2 s1 s2 s3 s4 s5 s6 e16 e18 hlu hlu2 w1 w2
      rw [show erV (some z1) = 0 from rfl]
      go_wp2_with fail
      refine (unhide HMf).mono ?_
      rintro e w20 ⟨rfl, f20⟩
      have F20 := hide ((unhide F19).trans (f20.mono (unhide F19).size))
      clear f20 HMf k0 k1 k2 k3
      go_wp2
      go_ret
      exact ⟨rfl, (unhide F0).trans ((unhide F20).mono (unhide F0).size)⟩
end Go.Proofs.YteooppjbpekepaaGreatDoor
