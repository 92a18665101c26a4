/- Regions that draw their order and end with one operation that waits for all others: these in any order, as in TxB, then that one. -/
import Derived.Test.YtgiohebbmjgefaaJTxB

namespace Go.Proofs.Ytgiohebbmjgefaa
open Go.RowKit
set_option linter.unusedVariables false

section
variable {P : Program} {ops : Array Oper} {Q : Exit → Act → World → Prop} {G : World → World → Prop} {R : Nat → Value → World → Prop}

/-- Each operation but the last is waited for by one behind it. -/
def lastOk (ops : Array Oper) (n : Nat) : Bool := (List.range n).all fun j => (List.range (n + 1)).any fun i => decide (j < i) && (match ops[i]? with | some o => waitsFor o j | none => false)
theorem lastOk_spec {n : Nat} (h : lastOk ops n = true) {j : Nat} (hj : j < n) : ∃ i o, j < i ∧ i ≤ n ∧ ops[i]? = some o ∧ waitsFor o j = true := by
  have h1 := List.all_eq_true.1 h j (List.mem_range.2 hj)
  obtain ⟨i, hi, h2⟩ := List.any_eq_true.1 h1
  rw [Bool.and_eq_true, decide_eq_true_eq] at h2
  cases ho : ops[i]? with
  | none => simp [ho] at h2
  | some o => exact ⟨i, o, h2.1, by have := List.mem_range.1 hi; omega, ho, by simpa [ho] using h2.2⟩
theorem wpAny_full {fuel : Nat} {listed : Array Bool} {a : Act} {w : World} (hr : Region.ready .any ops listed = []) (h : Q .normal a w) : wpAny P .any ops Q fuel listed a w := by
  cases fuel with
  | zero => exact ⟨hr, h⟩
  | succ f => exact ⟨fun _ => h, fun i hi => by rw [hr] at hi; cases hi⟩
theorem last_any {m n : Nat} {ds : List (List (Nat × Option Tmp))} {fin : List (Nat × Option Tmp)} (hok : telOk ops m ds fin = true) (hn : ops.size = n + 1) (hlo : lastOk ops n = true) {a0 : Act} {w0 : World} (hm : a0.tmps.size = m)
    (hrefl : ∀ w, G w w) (htrans : ∀ u v w, G u v → G v w → G u w) (hst : ∀ j v w w', R j v w → G w w' → R j v w')
    (hdo : ∀ i o, ops[i]? = some o → i ≠ n → ∀ w, G w0 w → ForDeps R w (fun a => Tells P ops G (R i) o a w) (ds.getD i []) a0)
    (hfin : ∀ o, ops[n]? = some o → ∀ w, G w0 w → ForDeps R w (fun a => Tells P ops (fun _ _ => True) (fun v w' => Q .normal (a.put o.dst v) w') o a w) fin a0) (hfn : ∀ x ∈ fin, x.1 ≠ n) (hnd : dstAt ops n = none) :
    ∀ (fuel : Nat) (listed : Array Bool) (a : Act) (w : World), listed.size = ops.size → ((List.range ops.size).filter fun j => listed.getD j true == false).length ≤ fuel →
      G w0 w → listed.getD n false = false → Held9 ops R a0 listed a w → wpAny P .any ops Q fuel listed a w := by
  have hdstAt : ∀ j o, ops[j]? = some o → dstAt ops j = o.dst := fun j o ho => by unfold dstAt; rw [ho]; rfl
  have hunl : ∀ (listed : Array Bool), listed.size = ops.size → listed.getD n false = false → n ∈ ((List.range ops.size).filter fun j => listed.getD j true == false) := fun listed hsz hl => by
    rw [List.mem_filter, List.mem_range]
    refine ⟨by omega, ?_⟩
    have : n < listed.size := by omega
    simp [this] at hl ⊢
    exact hl
  have hf2 : ∀ x ∈ fin, x.1 < ops.size ∧ dstAt ops x.1 = x.2 := fun x hx => by
    have h := hok
    unfold telOk at h
    rw [Bool.and_eq_true] at h
    have := List.all_eq_true.1 h.2 x hx
    simpa using this
  intro fuel
  induction fuel with
  | zero =>
    intro listed a w hsz hlen hg hnl hH
    have := hunl listed hsz hnl
    rw [List.eq_nil_of_length_eq_zero (Nat.le_zero.1 hlen)] at this
    cases this
  | succ fuel ih =>
    intro listed a w hsz hlen hg hnl hH
    refine ⟨fun hr => ?_, fun i hi => ?_⟩
    · exfalso
      have hall : ∀ i, i < ops.size → listed.getD i false = true := by
        intro i
        induction i using Nat.strongRecOn with
        | _ i ih2 =>
          intro hi
          cases hl : listed.getD i false with
          | true => rfl
          | false =>
            exfalso
            have ho : ops[i]? = some ops[i] := Array.getElem?_eq_getElem hi
            have hready : i ∈ Region.ready .any ops listed := by
              refine mem_ready.2 ⟨?_, _, ho, fun e he hb => ?_⟩
              · have his : i < listed.size := by omega
                simp [his] at hl ⊢
                exact hl
              · have hlt := (telOk_spec hok ho).back e he hb
                exact ih2 _ hlt (by omega)
            rw [hr] at hready
            cases hready
      have := hall n (by omega)
      rw [hnl] at this
      cases this
    obtain ⟨h0, o, ho, hall⟩ := mem_ready.1 hi
    have hin : i < ops.size := (Array.getElem?_eq_some_iff.1 ho).1
    have hT := telOk_spec hok ho
    have hil : listed.getD i false = false := by
      have : i < listed.size := by omega
      simp [this] at h0 ⊢
      exact h0
    by_cases hil2 : i = n
    · subst hil2
      have hlist : ∀ d j, i - j = d → j < i → listed.getD j false = true := by
        intro d
        induction d using Nat.strongRecOn with
        | _ d ih2 =>
          intro j hd hj
          obtain ⟨k, ok, hjk, hki, hok', hwf⟩ := lastOk_spec hlo hj
          obtain ⟨e, he, hb, hon⟩ := waitsFor_spec hwf
          by_cases hk : k = i
          · subst hk
            rw [ho] at hok'
            injection hok' with hok'
            subst hok'
            have := hall e he hb
            rw [hon] at this
            exact this
          · have hl := ih2 (i - k) (by omega) k rfl (by omega)
            have := hH.shut k ok hok' hl e he hb
            rw [hon] at this
            exact this
      have hlt : ∀ j, j < ops.size → j ≠ i → listed.getD j false = true := fun j hj hne => hlist (i - j) j rfl (by omega)
      obtain ⟨b, g1, g2, g3, g4⟩ := ForDeps.at a fin a0 hH.size.symm (fun x hx => by
        obtain ⟨h1, h2⟩ := hf2 x hx
        have hox : ops[x.1]? = some ops[x.1] := Array.getElem?_eq_getElem h1
        obtain ⟨v, h3, h4⟩ := hH.on x.1 _ hox (hlt _ h1 (hfn x hx))
        exact ⟨v, h3, fun d hd => h4 d (by rw [← hdstAt _ _ hox, h2, hd])⟩) (hfin o ho w hg)
      have hab : b = a := by
        obtain ⟨bt, bd⟩ := b
        obtain ⟨at_, ad⟩ := a
        have e1 : bt = at_ := by
          refine Array.ext_getElem? fun t => ?_
          rcases g4 t with ⟨_, e⟩ | ⟨h1, e⟩
          · exact e
          · have := hH.off t (fun j hj hd => by
              have hjs : j < ops.size := by
                by_cases hlt : j < ops.size
                · exact hlt
                · have : ¬ j < listed.size := by omega
                  simp [this] at hj
              have hoj : ops[j]? = some ops[j] := Array.getElem?_eq_getElem hjs
              rw [hdstAt _ _ hoj] at hd
              exact h1 _ ((telOk_spec hok hoj).dst t hd).2 rfl)
            exact e.trans this.symm
        have e2 : bd = ad := g3.trans hH.defers.symm
        rw [e1, e2]
      subst hab
      refine g1.op ho rfl rfl rfl trivial (fun v w' _ hr => ?_)
      refine wpAny_full ?_ hr
      cases hc : Region.ready .any ops (listed.setIfInBounds i true) with
      | nil => rfl
      | cons k rest =>
        exfalso
        have hk : k ∈ Region.ready .any ops (listed.setIfInBounds i true) := by rw [hc]; exact List.mem_cons_self ..
        obtain ⟨h1, ok, hok', _⟩ := mem_ready.1 hk
        have hks : k < ops.size := (Array.getElem?_eq_some_iff.1 hok').1
        by_cases hki : k = i
        · subst hki
          have : k < listed.size := by omega
          simp [this] at h1
        · rw [getD_set_ne true (fun h => hki h.symm)] at h1
          have h2 := hlt k hks hki
          have : k < listed.size := by omega
          simp [this] at h1 h2
          rw [h1] at h2
          cases h2
    obtain ⟨b, g1, g2, g3, g4⟩ := ForDeps.at a (ds.getD i []) a0 hH.size.symm (fun x hx => by
      obtain ⟨h1, h2⟩ := hT.deps x hx
      obtain ⟨e, he, hb, hon⟩ := waitsFor_spec h1
      have hl := hall e he hb
      rw [hon] at hl
      have hxs : x.1 < ops.size := by have := hT.back e he hb; omega
      have hox : ops[x.1]? = some ops[x.1] := Array.getElem?_eq_getElem hxs
      obtain ⟨v, h3, h4⟩ := hH.on x.1 _ hox hl
      exact ⟨v, h3, fun d hd => h4 d (by rw [← hdstAt _ _ hox, h2, hd])⟩) (hdo i o ho hil2 w hg)
    have hlook : ∀ t, t ∈ o.looksAt ops → a.tmps[t]? = b.tmps[t]? := fun t ht => by
      rcases g4 t with ⟨_, e⟩ | ⟨h1, e⟩
      · exact e.symm
      · rw [e]
        refine hH.off t (fun j hj hd => ?_)
        have hjs : j < ops.size := by
          by_cases hlt : j < ops.size
          · exact hlt
          · have : ¬ j < listed.size := by omega
            simp [this] at hj
        have hoj : ops[j]? = some ops[j] := Array.getElem?_eq_getElem hjs
        rw [hdstAt _ _ hoj] at hd
        rcases hT.looks j _ t hoj hd ht with h2 | h2 | h2
        · exact h1 _ h2 rfl
        · obtain ⟨e, he, hb, hon⟩ := waitsFor_spec h2
          have h3 := hH.shut j _ hoj hj e he hb
          rw [hon, hil] at h3
          cases h3
        · rw [h2, hil] at hj
          cases hj
    obtain ⟨he, hw⟩ := same_looks hT.sel hlook
    refine g1.op ho he hw (by rw [hH.size, g2]) (hrefl w) (fun v w' hgw hr => ?_)
    have hun : i ∈ ((List.range ops.size).filter fun j => listed.getD j true == false) := by
      rw [List.mem_filter, List.mem_range]
      exact ⟨hin, by rw [h0]; rfl⟩
    have hset : ∀ j, (listed.setIfInBounds i true).getD j false = true → j = i ∨ listed.getD j false = true := fun j hj => by
      by_cases e : j = i
      · exact .inl e
      · rw [getD_set_ne false (fun h => e h.symm)] at hj
        exact .inr hj
    refine ih (listed.setIfInBounds i true) _ w' (by simpa using hsz) ?_ (htrans _ _ _ hg hgw) (by rw [getD_set_ne false hil2]; exact hnl) ⟨by rw [put_defers, hH.defers], by rw [put_size, hH.size], fun t ht => ?_, fun j oj hoj hj => ?_, fun j oj hoj hj e he hb => ?_⟩
    · rw [un_set (by omega)]
      have : (((List.range ops.size).filter fun j => listed.getD j true == false).filter (fun j => decide (j ≠ i))).length < ((List.range ops.size).filter fun j => listed.getD j true == false).length :=
        List.length_filter_lt_length_iff_exists.2 ⟨i, hun, by simp⟩
      omega
    · have hi1 : o.dst ≠ some t := by
        rw [← hdstAt i o ho]
        exact ht i (by have : i < listed.size := by omega
                       simp [this])
      rw [put_off _ _ _ hi1]
      exact hH.off t (fun j hj => ht j (by
        by_cases e : j = i
        · rw [e, hil] at hj; cases hj
        · rw [getD_set_ne false (fun h => e h.symm)]; exact hj))
    · rcases hset j hj with rfl | hl
      · rw [ho] at hoj
        injection hoj with hoj
        subst hoj
        exact ⟨v, hr, fun d hd => by rw [hd]; exact put_at _ _ _ (by rw [hH.size, hm]; exact (hT.dst d hd).1)⟩
      · obtain ⟨u, h1, h2⟩ := hH.on j oj hoj hl
        refine ⟨u, hst _ _ _ _ h1 hgw, fun d hd => ?_⟩
        rw [put_off _ _ _ (hT.apart j oj d hoj hd (fun e => by rw [e, hil] at hl; cases hl))]
        exact h2 d hd
    · have hup : ∀ k, listed.getD k false = true → (listed.setIfInBounds i true).getD k false = true := fun k hk => by
        by_cases ek : k = i
        · rw [ek, hil] at hk; cases hk
        · rw [getD_set_ne false (fun h => ek h.symm)]; exact hk
      rcases hset j hj with rfl | hl
      · rw [ho] at hoj
        injection hoj with hoj
        subst hoj
        exact hup _ (hall e he hb)
      · exact hup _ (hH.shut j oj hoj hl e he hb)
/-- What is to be shown of the operations but the last. -/
def OblsL (P : Program) (ops : Array Oper) (G : World → World → Prop) (R : Nat → Value → World → Prop) (Q : Exit → Act → World → Prop) (fin : List (Nat × Option Tmp)) (w0 : World) (a0 : Act) : List Oper → List (List (Nat × Option Tmp)) → Nat → Prop
  | [o], [_], _ => ∀ w, G w0 w → ForDeps R w (fun a => Tells P ops (fun _ _ => True) (fun v w' => Q .normal (a.put o.dst v) w') o a w) fin a0
  | o :: l, d :: ds, i => (∀ w, G w0 w → ForDeps R w (fun a => Tells P ops G (R i) o a w) d a0) ∧ OblsL P ops G R Q fin w0 a0 l ds (i + 1)
  | _, _, _ => False
theorem OblsL.at {fin : List (Nat × Option Tmp)} {w0 : World} {a0 : Act} : ∀ (l : List Oper) (ds : List (List (Nat × Option Tmp))) (k : Nat), OblsL P ops G R Q fin w0 a0 l ds k → ∀ i o, l[i]? = some o →
    (i + 1 ≠ l.length → ∀ w, G w0 w → ForDeps R w (fun a => Tells P ops G (R (k + i)) o a w) (ds.getD i []) a0) ∧ (i + 1 = l.length → ∀ w, G w0 w → ForDeps R w (fun a => Tells P ops (fun _ _ => True) (fun v w' => Q .normal (a.put o.dst v) w') o a w) fin a0)
  | [], _, _, h, i, o, hx => by simp at hx
  | [o], [], _, h, _, _, _ => h.elim
  | [o], [d], k, h, i, x, hx => by
    cases i with
    | zero => simp at hx; subst hx; exact ⟨fun e => absurd rfl e, fun _ => h⟩
    | succ i => simp at hx
  | [o], d :: d2 :: ds, k, h, _, _, _ => h.2.elim
  | o :: o2 :: l, [], k, h, _, _, _ => h.elim
  | o :: o2 :: l, d :: ds, k, h, i, x, hx => by
    cases i with
    | zero => simp at hx; subst hx; exact ⟨fun _ => h.1, fun e => by simp at e⟩
    | succ i =>
      have := OblsL.at (o2 :: l) ds (k + 1) h.2 i x (by simpa using hx)
      rw [show k + 1 + i = k + (i + 1) by omega] at this
      exact ⟨fun e => by simpa using this.1 (by simp at e ⊢; exact e), fun e => this.2 (by simp at e ⊢; exact e)⟩
/-- The law. -/
theorem wp_region_last {id : Nat} {l : List Oper} {a : Act} {w : World} (G : World → World → Prop) (Rs : List (Value → World → Prop)) (m n : Nat) (ds : List (List (Nat × Option Tmp))) (fin : List (Nat × Option Tmp))
    (hm : P.follows .mixedOrders = true) (hok : (telOk l.toArray m ds fin && (decide (l.length = n + 1) && (lastOk l.toArray n && (decide (dstAt l.toArray n = none) && fin.all fun x => decide (x.1 ≠ n))))) = true) (hsz : a.tmps.size = m) (hrefl : ∀ w, G w w) (htrans : ∀ u v w, G u v → G v w → G u w) (hst : ∀ r ∈ Rs, ∀ v w w', r v w → G w w' → r v w')
    (hdo : OblsL P l.toArray G (rAt Rs) Q fin w.drew a l ds 0) : (Code.region id l.toArray true).wp P Q a w := by
  simp only [Bool.and_eq_true, decide_eq_true_eq] at hok
  obtain ⟨h1, h2, h3, h4, h5⟩ := hok
  refine wp_region_any hm ?_
  refine last_any (R := rAt Rs) (w0 := w.drew) (n := n) h1 (by simpa using h2) h3 hsz hrefl htrans (rAt_stays hst) (fun i o ho hne w' hg => ?_) (fun o ho w' hg => ?_) (fun x hx => by simpa using List.all_eq_true.1 h5 x hx) h4 _ _ a _ (by simp) ?_ (hrefl _) (by simp [h2]) ⟨rfl, rfl, fun t _ => rfl, fun j o ho hj => ?_, fun j o ho hj => ?_⟩
  · have := (OblsL.at l ds 0 hdo i o (by simpa using ho)).1 (by omega) w' hg
    rwa [Nat.zero_add] at this
  · exact (OblsL.at l ds 0 hdo n o (by simpa using ho)).2 h2.symm w' hg
  · exact Nat.le_trans (List.length_filter_le ..) (by simp)
  · have hlt := (Array.getElem?_eq_some_iff.1 ho).1
    simp at hlt
    simp [hlt] at hj
  · have hlt := (Array.getElem?_eq_some_iff.1 ho).1
    simp at hlt
    simp [hlt] at hj
end
end Go.Proofs.Ytgiohebbmjgefaa
