/- TxB's law, with a predicate of two operations' values beside (rows that two calls make lie apart). -/
import Derived.Test.YthenefjoidckkaaGreatDoorJW1

namespace Go.Proofs.YthenefjoidckkaaGreatDoor
open Go.RowKit
set_option linter.unusedVariables false

section
variable {P : Program} {ops : Array Oper} {Q : Exit → Act → World → Prop} {G : World → World → Prop} {R : Nat → Value → World → Prop} {p q r : Nat} {dp dq : Tmp} {T : Value → Value → World → Prop}
theorem ForDeps.mono {R : Nat → Value → World → Prop} {w : World} {K K' : Act → Prop} (h : ∀ a, K a → K' a) : ∀ {l : List (Nat × Option Tmp)} {a : Act}, ForDeps R w K l a → ForDeps R w K' l a
  | [], a, g => h a g
  | (j, d) :: l, a, g => fun v hv => ForDeps.mono h (g v hv)
theorem Tells.mono {r r' : Value → World → Prop} {o : Oper} {a : Act} {w : World} (h : Tells P ops G r o a w) (g : ∀ v w', r v w' → r' v w') : Tells P ops G r' o a w := by
  rcases h with ⟨h1, h2⟩ | ⟨h1, h2⟩
  · exact .inl ⟨h1, fun K hK => h2 K fun v w' h3 h4 => hK v w' h3 (g v w' h4)⟩
  · exact .inr ⟨h1, g _ _ h2⟩
structure HeldP (ops : Array Oper) (R : Nat → Value → World → Prop) (p q : Nat) (dp dq : Tmp) (T : Value → Value → World → Prop) (a0 : Act) (listed : Array Bool) (a : Act) (w : World) : Prop where
  defers : a.defers = a0.defers
  size : a.tmps.size = a0.tmps.size
  off : ∀ t, (∀ j, listed.getD j false = true → dstAt ops j ≠ some t) → a.tmps[t]? = a0.tmps[t]?
  on : ∀ j o, ops[j]? = some o → listed.getD j false = true → ∃ v, R j v w ∧ ∀ d, o.dst = some d → a.tmps[d]? = some v
  shut : ∀ j o, ops[j]? = some o → listed.getD j false = true → ∀ e ∈ o.after, Region.binds .any e = true → listed.getD e.on false = true
  pr : listed.getD p false = true → listed.getD q false = true → ∃ vp vq, a.tmps[dp]? = some vp ∧ a.tmps[dq]? = some vq ∧ T vp vq w

theorem tellsP_any {m : Nat} {ds : List (List (Nat × Option Tmp))} {fin : List (Nat × Option Tmp)} (hok : telOk ops m ds fin = true) {a0 : Act} {w0 : World} (hm : a0.tmps.size = m)
    (hrefl : ∀ w, G w w) (htrans : ∀ u v w, G u v → G v w → G u w) (hst : ∀ j v w w', R j v w → G w w' → R j v w')
    (hdo : ∀ i o, ops[i]? = some o → ∀ w, G w0 w → ForDeps R w (fun a => (i = r → ∃ vp vq, a.tmps[dp]? = some vp ∧ a.tmps[dq]? = some vq ∧ T vp vq w) → Tells P ops G (R i) o a w) (ds.getD i []) a0) (hfin : ∀ w, G w0 w → ForDeps R w (fun a => Q .normal a w) fin a0)
    (hrp : (p, some dp) ∈ ds.getD r []) (hrq : (q, some dq) ∈ ds.getD r []) (hpr : p ≠ r) (hqr : q ≠ r)
    (hne : p ≠ q) (hpd : dstAt ops p = some dp) (hqd : dstAt ops q = some dq) (hT : ∀ u v w w', T u v w → G w w' → T u v w')
    (hp : ∀ o, ops[p]? = some o → ∀ w, G w0 w → ForDeps R w (fun a => Tells P ops G (fun v w' => R p v w' ∧ ∀ u, R q u w → T v u w') o a w) (ds.getD p []) a0)
    (hq : ∀ o, ops[q]? = some o → ∀ w, G w0 w → ForDeps R w (fun a => Tells P ops G (fun v w' => R q v w' ∧ ∀ u, R p u w → T u v w') o a w) (ds.getD q []) a0) :
    ∀ (fuel : Nat) (listed : Array Bool) (a : Act) (w : World), listed.size = ops.size → ((List.range ops.size).filter fun j => listed.getD j true == false).length ≤ fuel →
      G w0 w → HeldP ops R p q dp dq T a0 listed a w → wpAny P .any ops Q fuel listed a w := by
  have hdstAt : ∀ j o, ops[j]? = some o → dstAt ops j = o.dst := fun j o ho => by unfold dstAt; rw [ho]; rfl
  have key : ∀ (listed : Array Bool) (a : Act) (w : World), listed.size = ops.size → G w0 w → HeldP ops R p q dp dq T a0 listed a w → Region.ready .any ops listed = [] → Q .normal a w := fun listed a w hsz hg hH hr => by
    have hall : ∀ i, i < ops.size → listed.getD i false = true := by
      intro i
      induction i using Nat.strongRecOn with
      | _ i ih =>
        intro hi
        cases hl : listed.getD i false with
        | true => rfl
        | false =>
          exfalso
          have ho : ops[i]? = some ops[i] := Array.getElem?_eq_getElem hi
          have hready : i ∈ Region.ready .any ops listed := by
            refine mem_ready.2 ⟨?_, _, ho, fun e he hb => ?_⟩
            · have his : i < listed.size := by omega
              simp [his] at hl ⊢
              exact hl
            · have hlt := (telOk_spec hok ho).back e he hb
              exact ih _ hlt (by omega)
          rw [hr] at hready
          cases hready
    have hf2 : ∀ x ∈ fin, x.1 < ops.size ∧ dstAt ops x.1 = x.2 := fun x hx => by
      have h := hok
      unfold telOk at h
      rw [Bool.and_eq_true] at h
      have := List.all_eq_true.1 h.2 x hx
      simpa using this
    obtain ⟨b', g1, g2, g3, g4⟩ := ForDeps.at a fin a0 hH.size.symm (fun x hx => by
      obtain ⟨h1, h2⟩ := hf2 x hx
      have ho : ops[x.1]? = some ops[x.1] := Array.getElem?_eq_getElem h1
      obtain ⟨v, h3, h4⟩ := hH.on x.1 _ ho (hall _ h1)
      exact ⟨v, h3, fun d hd => h4 d (by rw [← hdstAt _ _ ho, h2, hd])⟩) (hfin w hg)
    have hab : b' = a := by
      obtain ⟨bt, bd⟩ := b'
      obtain ⟨at_, ad⟩ := a
      have e1 : bt = at_ := by
        refine Array.ext_getElem? fun t => ?_
        rcases g4 t with ⟨_, e⟩ | ⟨h1, e⟩
        · exact e
        · have := hH.off t (fun j hj hd => by
            have hjs : j < ops.size := by
              by_cases hlt : j < ops.size
              · exact hlt
              · have : ¬ j < listed.size := by omega
                simp [this] at hj
            have ho : ops[j]? = some ops[j] := Array.getElem?_eq_getElem hjs
            rw [hdstAt _ _ ho] at hd
            exact h1 _ ((telOk_spec hok ho).dst t hd).2 rfl)
          exact e.trans this.symm
      have e2 : bd = ad := g3.trans hH.defers.symm
      rw [e1, e2]
    rw [hab] at g1
    exact g1
  have hdo2 : ∀ i o, ops[i]? = some o → ∀ w, G w0 w → ForDeps R w (fun a => (i = r → ∃ vp vq, a.tmps[dp]? = some vp ∧ a.tmps[dq]? = some vq ∧ T vp vq w) → Tells P ops G (fun v w' => R i v w' ∧ (i = p → ∀ u, R q u w → T v u w') ∧ (i = q → ∀ u, R p u w → T u v w')) o a w) (ds.getD i []) a0 := fun i o ho w hg => by
    by_cases e1 : i = p
    · subst e1
      exact (hp o ho w hg).mono fun a h _ => h.mono fun v w' h => ⟨h.1, fun _ => h.2, fun e => absurd e hne⟩
    · by_cases e2 : i = q
      · subst e2
        exact (hq o ho w hg).mono fun a h _ => h.mono fun v w' h => ⟨h.1, fun e => absurd e e1, fun _ => h.2⟩
      · exact (hdo i o ho w hg).mono fun a h hx => (h hx).mono fun v w' h => ⟨h, fun e => absurd e e1, fun e => absurd e e2⟩
  intro fuel
  induction fuel with
  | zero =>
    intro listed a w hsz hlen hg hH
    have hr : Region.ready .any ops listed = [] := by
      cases hc : Region.ready .any ops listed with
      | nil => rfl
      | cons i rest =>
        exfalso
        have hi : i ∈ Region.ready .any ops listed := by rw [hc]; exact List.mem_cons_self ..
        obtain ⟨h0, o, ho, _⟩ := mem_ready.1 hi
        have : i ∈ ((List.range ops.size).filter fun j => listed.getD j true == false) := by
          rw [List.mem_filter, List.mem_range]
          exact ⟨(Array.getElem?_eq_some_iff.1 ho).1, by rw [h0]; rfl⟩
        rw [List.eq_nil_of_length_eq_zero (Nat.le_zero.1 hlen)] at this
        cases this
    exact ⟨hr, key listed a w hsz hg hH hr⟩
  | succ fuel ih =>
    intro listed a w hsz hlen hg hH
    refine ⟨key listed a w hsz hg hH, fun i hi => ?_⟩
    obtain ⟨h0, o, ho, hall⟩ := mem_ready.1 hi
    have hin : i < ops.size := (Array.getElem?_eq_some_iff.1 ho).1
    have hT0 := telOk_spec hok ho
    have hil : listed.getD i false = false := by
      have : i < listed.size := by omega
      simp [this] at h0 ⊢
      exact h0
    obtain ⟨b, g1, g2, g3, g4⟩ := ForDeps.at a (ds.getD i []) a0 hH.size.symm (fun x hx => by
      obtain ⟨h1, h2⟩ := hT0.deps x hx
      obtain ⟨e, he, hb, hon⟩ := waitsFor_spec h1
      have hl := hall e he hb
      rw [hon] at hl
      have hxs : x.1 < ops.size := by have := hT0.back e he hb; omega
      have hox : ops[x.1]? = some ops[x.1] := Array.getElem?_eq_getElem hxs
      obtain ⟨v, h3, h4⟩ := hH.on x.1 _ hox hl
      exact ⟨v, h3, fun d hd => h4 d (by rw [← hdstAt _ _ hox, h2, hd])⟩) (hdo2 i o ho w hg)
    have hlook : ∀ t, t ∈ o.looksAt ops → a.tmps[t]? = b.tmps[t]? := fun t ht => by
      rcases g4 t with ⟨_, e⟩ | ⟨h1, e⟩
      · exact e.symm
      · rw [e]
        refine hH.off t (fun j hj hd => ?_)
        have hjs : j < ops.size := by
          by_cases hlt : j < ops.size
          · exact hlt
          · have : ¬ j < listed.size := by omega
            simp [this] at hj
        have hoj : ops[j]? = some ops[j] := Array.getElem?_eq_getElem hjs
        rw [hdstAt _ _ hoj] at hd
        rcases hT0.looks j _ t hoj hd ht with h2 | h2 | h2
        · exact h1 _ h2 rfl
        · obtain ⟨e, he, hb, hon⟩ := waitsFor_spec h2
          have h3 := hH.shut j _ hoj hj e he hb
          rw [hon, hil] at h3
          cases h3
        · rw [h2, hil] at hj
          cases hj
    obtain ⟨he, hw⟩ := same_looks hT0.sel hlook
    have g1' := g1 (fun er => by
      subst er
      have hli : ∀ {k : Nat} {d : Tmp}, (k, some d) ∈ ds.getD i [] → listed.getD k false = true := fun {k d} hk => by
        obtain ⟨h1, _⟩ := hT0.deps _ hk
        obtain ⟨e, he, hb, hon⟩ := waitsFor_spec h1
        have hl := hall e he hb
        rw [hon] at hl
        exact hl
      obtain ⟨vp, vq, h1, h2, h3⟩ := hH.pr (hli hrp) (hli hrq)
      have hsame : ∀ {k : Nat} {d : Tmp}, (k, some d) ∈ ds.getD i [] → b.tmps[d]? = a.tmps[d]? := fun {k d} hk => by
        rcases g4 d with ⟨_, e⟩ | ⟨h4, _⟩
        · exact e
        · exact absurd rfl (h4 _ hk)
      exact ⟨vp, vq, by rw [hsame hrp]; exact h1, by rw [hsame hrq]; exact h2, h3⟩)
    refine g1'.op ho he hw (by rw [hH.size, g2]) (hrefl w) (fun v w' hgw hr3 => ?_)
    obtain ⟨hr, hr1, hr2⟩ := hr3
    have hun : i ∈ ((List.range ops.size).filter fun j => listed.getD j true == false) := by
      rw [List.mem_filter, List.mem_range]
      exact ⟨hin, by rw [h0]; rfl⟩
    have hset : ∀ j, (listed.setIfInBounds i true).getD j false = true → j = i ∨ listed.getD j false = true := fun j hj => by
      by_cases e : j = i
      · exact .inl e
      · rw [getD_set_ne false (fun h => e h.symm)] at hj
        exact .inr hj
    refine ih (listed.setIfInBounds i true) _ w' (by simpa using hsz) ?_ (htrans _ _ _ hg hgw) ⟨by rw [put_defers, hH.defers], by rw [put_size, hH.size], fun t ht => ?_, fun j oj hoj hj => ?_, fun j oj hoj hj e he hb => ?_, fun hlp hlq => ?_⟩
    · rw [un_set (by omega)]
      have : (((List.range ops.size).filter fun j => listed.getD j true == false).filter (fun j => decide (j ≠ i))).length < ((List.range ops.size).filter fun j => listed.getD j true == false).length :=
        List.length_filter_lt_length_iff_exists.2 ⟨i, hun, by simp⟩
      omega
    · have hi1 : o.dst ≠ some t := by
        rw [← hdstAt i o ho]
        exact ht i (by have : i < listed.size := by omega
                       simp [this])
      rw [put_off _ _ _ hi1]
      exact hH.off t (fun j hj => ht j (by
        by_cases e : j = i
        · rw [e, hil] at hj; cases hj
        · rw [getD_set_ne false (fun h => e h.symm)]; exact hj))
    · rcases hset j hj with rfl | hl
      · rw [ho] at hoj
        injection hoj with hoj
        subst hoj
        exact ⟨v, hr, fun d hd => by rw [hd]; exact put_at _ _ _ (by rw [hH.size, hm]; exact (hT0.dst d hd).1)⟩
      · obtain ⟨u, h1, h2⟩ := hH.on j oj hoj hl
        refine ⟨u, hst _ _ _ _ h1 hgw, fun d hd => ?_⟩
        rw [put_off _ _ _ (hT0.apart j oj d hoj hd (fun e => by rw [e, hil] at hl; cases hl))]
        exact h2 d hd
    · have hup : ∀ k, listed.getD k false = true → (listed.setIfInBounds i true).getD k false = true := fun k hk => by
        by_cases ek : k = i
        · rw [ek, hil] at hk; cases hk
        · rw [getD_set_ne false (fun h => ek h.symm)]; exact hk
      rcases hset j hj with rfl | hl
      · rw [ho] at hoj
        injection hoj with hoj
        subst hoj
        exact hup _ (hall e he hb)
      · exact hup _ (hH.shut j oj hoj hl e he hb)
    · have hwas : ∀ {k : Nat} {d : Tmp}, dstAt ops k = some d → listed.getD k false = true → ∃ u, R k u w ∧ (a.put o.dst v).tmps[d]? = some u := fun {k d} hk hl => by
        have hks : k < ops.size := by
          by_cases hlt : k < ops.size
          · exact hlt
          · have : ¬ k < listed.size := by omega
            simp [this] at hl
        have hok' : ops[k]? = some ops[k] := Array.getElem?_eq_getElem hks
        obtain ⟨u, h1, h2⟩ := hH.on k _ hok' hl
        have hd : ops[k].dst = some d := by rw [← hdstAt _ _ hok']; exact hk
        refine ⟨u, h1, ?_⟩
        rw [put_off _ _ _ (hT0.apart k _ d hok' hd (fun e => by rw [e, hil] at hl; cases hl))]
        exact h2 d hd
      have hnow : ∀ {d : Tmp}, dstAt ops i = some d → (a.put o.dst v).tmps[d]? = some v := fun {d} hk => by
        have hd : o.dst = some d := by rw [← hdstAt _ _ ho]; exact hk
        rw [hd]
        exact put_at _ _ _ (by rw [hH.size, hm]; exact (hT0.dst d hd).1)
      rcases hset p hlp with ep | ep
      · rcases hset q hlq with eq_ | eq_
        · exact absurd (ep.trans eq_.symm) hne
        · obtain ⟨u, h1, h2⟩ := hwas hqd eq_
          subst ep
          exact ⟨v, u, hnow hpd, h2, hr1 rfl u h1⟩
      · rcases hset q hlq with eq_ | eq_
        · obtain ⟨u, h1, h2⟩ := hwas hpd ep
          subst eq_
          exact ⟨u, v, h2, hnow hqd, hr2 rfl u h1⟩
        · obtain ⟨vp, vq, h1, h2, h3⟩ := hH.pr ep eq_
          obtain ⟨_, _, h4⟩ := hwas hpd ep
          obtain ⟨_, _, h5⟩ := hwas hqd eq_
          have hkeep : ∀ {k : Nat} {d : Tmp}, dstAt ops k = some d → listed.getD k false = true → (a.put o.dst v).tmps[d]? = a.tmps[d]? := fun {k d} hk hl => by
            have hks : k < ops.size := by
              by_cases hlt : k < ops.size
              · exact hlt
              · have : ¬ k < listed.size := by omega
                simp [this] at hl
            have hok' : ops[k]? = some ops[k] := Array.getElem?_eq_getElem hks
            have hd : ops[k].dst = some d := by rw [← hdstAt _ _ hok']; exact hk
            exact put_off _ _ _ (hT0.apart k _ d hok' hd (fun e => by rw [e, hil] at hl; cases hl))
          exact ⟨vp, vq, by rw [hkeep hpd ep]; exact h1, by rw [hkeep hqd eq_]; exact h2, hT _ _ _ _ h3 hgw⟩

/-- What is to be shown of each operation: at r what holds of the two is known. -/
def OblsP (P : Program) (ops : Array Oper) (G : World → World → Prop) (R : Nat → Value → World → Prop) (r : Nat) (dp dq : Tmp) (T : Value → Value → World → Prop) (w0 : World) (a0 : Act) : List Oper → List (List (Nat × Option Tmp)) → Nat → Prop
  | o :: l, d :: ds, i => (∀ w, G w0 w → ForDeps R w (fun a => (i = r → ∃ vp vq, a.tmps[dp]? = some vp ∧ a.tmps[dq]? = some vq ∧ T vp vq w) → Tells P ops G (R i) o a w) d a0) ∧ OblsP P ops G R r dp dq T w0 a0 l ds (i + 1)
  | [], [], _ => True
  | _, _, _ => False
theorem OblsP.at {w0 : World} {a0 : Act} : ∀ (l : List Oper) (ds : List (List (Nat × Option Tmp))) (k : Nat), OblsP P ops G R r dp dq T w0 a0 l ds k → ∀ i o, l[i]? = some o → ∀ w, G w0 w → ForDeps R w (fun a => (k + i = r → ∃ vp vq, a.tmps[dp]? = some vp ∧ a.tmps[dq]? = some vq ∧ T vp vq w) → Tells P ops G (R (k + i)) o a w) (ds.getD i []) a0
  | [], _, _, _, i, o, h => by simp at h
  | o :: l, [], k, h, _, _, _ => h.elim
  | o :: l, d :: ds, k, h, i, x, hx => by
    cases i with
    | zero =>
      simp at hx
      subst hx
      exact h.1
    | succ i =>
      have := OblsP.at l ds (k + 1) h.2 i x (by simpa using hx)
      rw [show k + 1 + i = k + (i + 1) by omega] at this
      simpa using this
/-- The law, with what holds of two operations' values. -/
theorem wp_region_tellsP {id : Nat} {l : List Oper} {a : Act} {w : World} (G : World → World → Prop) (Rs : List (Value → World → Prop)) (m : Nat) (ds : List (List (Nat × Option Tmp))) (fin : List (Nat × Option Tmp)) (p q r : Nat) (dp dq : Tmp) (T : Value → Value → World → Prop)
    (hm : P.follows .mixedOrders = true) (hok : (telOk l.toArray m ds fin && (decide (p ≠ q ∧ p ≠ r ∧ q ≠ r) && (decide (dstAt l.toArray p = some dp) && (decide (dstAt l.toArray q = some dq) && ((ds.getD r []).contains (p, some dp) && (ds.getD r []).contains (q, some dq)))))) = true) (hsz : a.tmps.size = m) (hrefl : ∀ w, G w w) (htrans : ∀ u v w, G u v → G v w → G u w) (hst : ∀ r ∈ Rs, ∀ v w w', r v w → G w w' → r v w')
    (hT : ∀ u v w w', T u v w → G w w' → T u v w')
    (hdo : OblsP P l.toArray G (rAt Rs) r dp dq T w.drew a l ds 0)
    (hp : ∀ o, l[p]? = some o → ∀ w', G w.drew w' → ForDeps (rAt Rs) w' (fun a => Tells P l.toArray G (fun v w'' => rAt Rs p v w'' ∧ ∀ u, rAt Rs q u w' → T v u w'') o a w') (ds.getD p []) a)
    (hq : ∀ o, l[q]? = some o → ∀ w', G w.drew w' → ForDeps (rAt Rs) w' (fun a => Tells P l.toArray G (fun v w'' => rAt Rs q v w'' ∧ ∀ u, rAt Rs p u w' → T u v w'') o a w') (ds.getD q []) a)
    (hfin : ∀ w', G w.drew w' → ForDeps (rAt Rs) w' (fun a => Q .normal a w') fin a) : (Code.region id l.toArray true).wp P Q a w := by
  rw [Bool.and_eq_true, Bool.and_eq_true, Bool.and_eq_true, Bool.and_eq_true, Bool.and_eq_true, decide_eq_true_eq, decide_eq_true_eq, decide_eq_true_eq] at hok
  obtain ⟨hok, ⟨hne, hpr, hqr⟩, hpd, hqd, hc1, hc2⟩ := hok
  refine wp_region_any hm ?_
  refine tellsP_any (R := rAt Rs) (w0 := w.drew) (p := p) (q := q) (r := r) (dp := dp) (dq := dq) (T := T) hok hsz hrefl htrans (rAt_stays hst) (fun i o ho w' hg => ?_) hfin (by simpa using hc1) (by simpa using hc2) hpr hqr hne hpd hqd hT (fun o ho => hp o (by simpa using ho)) (fun o ho => hq o (by simpa using ho)) _ _ a _ (by simp) ?_ (hrefl _) ⟨rfl, rfl, fun t _ => rfl, fun j o ho hj => ?_, fun j o ho hj => ?_, fun hj => ?_⟩
  · have := OblsP.at l ds 0 hdo i o (by simpa using ho) w' hg
    rw [Nat.zero_add] at this
    exact this
  · exact Nat.le_trans (List.length_filter_le ..) (by simp)
  · have hlt := (Array.getElem?_eq_some_iff.1 ho).1
    simp at hlt
    simp [hlt] at hj
  · have hlt := (Array.getElem?_eq_some_iff.1 ho).1
    simp at hlt
    simp [hlt] at hj
  · exfalso
    by_cases hlt : p < l.length
    · simp [hlt] at hj
    · simp [hlt] at hj
end
end Go.Proofs.YthenefjoidckkaaGreatDoor
