/- Joined: TxH TxI Sh3 Sh5. -/
import Derived.Test.YthenefjoidckkaaGreatDoorJL2
import Derived.Test.YthenefjoidckkaaGreatDoorJS2
import Derived.Test.YthenefjoidckkaaGreatDoorJS9
import Derived.Test.YthenefjoidckkaaGreatDoorJSA
import Derived.ArgAppend

/- An append to a new, empty slice: nothing that was there changes. -/
namespace Go.Proofs.YthenefjoidckkaaGreatDoor
open Go.RowKit
set_option linter.unusedVariables false
set_option maxRecDepth 100000

theorem wpR_append0 {α : Type} {cs : α → List Value} {e t : TypeId} {sz by_ : Nat} {z : Value} (R : Rk cs e t sz by_ z) {w : World} {o : Oper} {a : Act} {K : Act → World → Prop} {Q : Exit → Act → World → Prop} (s x : Operand) (ho : o.op = .call { callee := .builtin .append, args := #[s, x], argTypes := #[t, t] })
    (base g : Nat) (hs : a.eval s = .slice (some ⟨g, 0, none⟩) 0 0) (hg : w.heap[g]? = some (.cells #[] e (0, 0))) (hbg : base ≤ g) (src : Option Addr) (m c : Nat) (ys : List α) (hx : a.eval x = .slice src m c) (hb : Ls sz cs w src m ys) (hnil : src = none → m = 0 ∧ c = 0)
    (hsm : m * by_ ≤ 140737488355328) (hmx : m ≤ 140737488355328) (h : ∀ v' w', Orw cs e sz w' base v' ys → Below w.heap.size w w' → ((∃ A, v' = .slice A 0 0) ∨ ∀ k, v'.ownBlock = some k → w.heap.size ≤ k) → K (a.put o.dst v') w') : o.wp Tryz.prog a w K Q := by
  obtain ⟨i0, hi, hz0, hz1, hz2⟩ := info_parts R.info
  have hown : Orw cs e sz w base (.slice (some ⟨g, 0, none⟩) 0 0) ([] : List α) := ⟨by simp, .inr ⟨g, 0, #[], rfl, hbg, hg, by simp, by simp [maxLen], by simp, by simp⟩⟩
  have hgl : g < w.heap.size := lt_of_heap hg
  cases src with
  | none =>
    obtain ⟨rfl, rfl⟩ := hnil rfl
    have h0 : ys = [] := List.eq_nil_of_length_eq_zero hb.1
    subst h0
    have hrun := run_append_owned_none (P := Tryz.prog) (w := w) base t o.type e i0 sz R.sl hi _ 0 _ hown
    unfold Oper.wp
    simp [execOp, ho, resolve, invoke, builtin, hs, hx, hrun, Result.andThen]
    exact h _ w hown (Below.refl _ _) (.inl ⟨_, rfl⟩)
  | some ad =>
    have hsrc : ∀ j u, (ys.flatMap cs)[j]? = some u → w.cell? (ad.add j) = some u := by
      rcases hb.2 with h0 | ⟨b, q, e1, _, hE⟩
      · have : ys = [] := List.eq_nil_of_length_eq_zero (by rw [hb.1]; exact h0)
        subst this
        intro j u hu
        simp at hu
      · intro j u hu
        injection e1 with e1
        subst e1
        obtain ⟨k, y, q, h1, h2, rfl⟩ := flatR_of R.len R.pos ys j u hu
        have := hE k y h1 q u h2
        rw [Addr.add_mid, ← Nat.add_assoc]
        exact this
    by_cases hm : m = 0
    · subst hm
      have h0 : ys = [] := List.eq_nil_of_length_eq_zero hb.1
      subst h0
      have hrun := run_append_room_cells (P := Tryz.prog) (w := w) t o.type e i0 R.sl hi g 0 0 0 ad 0 c [] (by simp) (fun j u hu => by simp at hu) (fun u hu => by cases hu) (by omega) (fun j hj => by simp at hj) (fun j hj => by simp at hj)
      have hsame : w.setCells g (0 + 0 * i0.size) [] = w := by simp [World.setCells]
      rw [hsame] at hrun
      unfold Oper.wp
      simp [execOp, ho, resolve, invoke, builtin, hs, hx, hrun, Result.andThen]
      exact h _ w hown (Below.refl _ _) (.inl ⟨_, rfl⟩)
    · obtain ⟨v', w', hrun, h1, h2⟩ := run_append_arg_grows (P := Tryz.prog) (w := w) t o.type e i0 z sz by_ R.sl hi hz0 hz1 hz2 R.zero R.pos ⟨g, 0, none⟩ 0 0 [] (by simp) (fun j u hu => by simp at hu) ad m c (ys.flatMap cs) (by rw [flatR_len R.len, hb.1]) hsrc (by omega) (by unfold maxLen; omega) (by simpa using hsm)
      unfold Oper.wp
      simp [execOp, ho, resolve, invoke, builtin, hs, hx, hrun, Result.andThen]
      have hl : ys.length = m := hb.1
      have h3 : Orw cs e sz w' w.heap.size v' ys := by
        unfold Orw
        rw [hl]
        simpa using h1
      exact h v' w' (h3.base (Nat.le_trans hbg (Nat.le_of_lt hgl))) ((Below.refl _ _).grown h2 (Nat.le_refl _) (fun k hk => by cases hk)) (.inr fun k hk => (h3.lt k hk).1)
/-- Two rows lie apart, or one of them has no room. -/
def Ap (a b : Value) : Prop := (∃ A, a = .slice A 0 0) ∨ (∃ B, b = .slice B 0 0) ∨ ∀ i j, a.ownBlock = some i → b.ownBlock = some j → i ≠ j
end Go.Proofs.YthenefjoidckkaaGreatDoor

/- TxC's law (drawn regions that end with one operation that waits for all), with a predicate of two operations' values beside, as TxF has it. -/
namespace Go.Proofs.YthenefjoidckkaaGreatDoor
open Go.RowKit
set_option linter.unusedVariables false

section
variable {P : Program} {ops : Array Oper} {Q : Exit → Act → World → Prop} {G : World → World → Prop} {R : Nat → Value → World → Prop} {p q r : Nat} {dp dq : Tmp} {T : Value → Value → World → Prop}
theorem lastP_any {m n : Nat} {ds : List (List (Nat × Option Tmp))} {fin : List (Nat × Option Tmp)} (hok : telOk ops m ds fin = true) (hn : ops.size = n + 1) (hlo : lastOk ops n = true) {a0 : Act} {w0 : World} (hm : a0.tmps.size = m)
    (hrefl : ∀ w, G w w) (htrans : ∀ u v w, G u v → G v w → G u w) (hst : ∀ j v w w', R j v w → G w w' → R j v w')
    (hdo : ∀ i o, ops[i]? = some o → i ≠ n → ∀ w, G w0 w → ForDeps R w (fun a => (i = r → ∃ vp vq, a.tmps[dp]? = some vp ∧ a.tmps[dq]? = some vq ∧ T vp vq w) → Tells P ops G (R i) o a w) (ds.getD i []) a0)
    (hrp : (p, some dp) ∈ ds.getD r []) (hrq : (q, some dq) ∈ ds.getD r []) (hpr : p ≠ r) (hqr : q ≠ r)
    (hne : p ≠ q) (hpd : dstAt ops p = some dp) (hqd : dstAt ops q = some dq) (hT : ∀ u v w w', T u v w → G w w' → T u v w')
    (hp : ∀ o, ops[p]? = some o → ∀ w, G w0 w → ForDeps R w (fun a => Tells P ops G (fun v w' => R p v w' ∧ ∀ u, R q u w → T v u w') o a w) (ds.getD p []) a0)
    (hq : ∀ o, ops[q]? = some o → ∀ w, G w0 w → ForDeps R w (fun a => Tells P ops G (fun v w' => R q v w' ∧ ∀ u, R p u w → T u v w') o a w) (ds.getD q []) a0)
    (hfin : ∀ o, ops[n]? = some o → ∀ w, G w0 w → ForDeps R w (fun a => (∃ vp vq, a.tmps[dp]? = some vp ∧ a.tmps[dq]? = some vq ∧ T vp vq w) → Tells P ops (fun _ _ => True) (fun v w' => Q .normal (a.put o.dst v) w') o a w) fin a0) (hfn : ∀ x ∈ fin, x.1 ≠ n) (hnd : dstAt ops n = none) :
    ∀ (fuel : Nat) (listed : Array Bool) (a : Act) (w : World), listed.size = ops.size → ((List.range ops.size).filter fun j => listed.getD j true == false).length ≤ fuel →
      G w0 w → listed.getD n false = false → HeldP ops R p q dp dq T a0 listed a w → wpAny P .any ops Q fuel listed a w := by
  have hdstAt : ∀ j o, ops[j]? = some o → dstAt ops j = o.dst := fun j o ho => by unfold dstAt; rw [ho]; rfl
  have hunl : ∀ (listed : Array Bool), listed.size = ops.size → listed.getD n false = false → n ∈ ((List.range ops.size).filter fun j => listed.getD j true == false) := fun listed hsz hl => by
    rw [List.mem_filter, List.mem_range]
    refine ⟨by omega, ?_⟩
    have : n < listed.size := by omega
    simp [this] at hl ⊢
    exact hl
  have hf2 : ∀ x ∈ fin, x.1 < ops.size ∧ dstAt ops x.1 = x.2 := fun x hx => by
    have h := hok
    unfold telOk at h
    rw [Bool.and_eq_true] at h
    have := List.all_eq_true.1 h.2 x hx
    simpa using this
  have hdo2 : ∀ i o, ops[i]? = some o → i ≠ n → ∀ w, G w0 w → ForDeps R w (fun a => (i = r → ∃ vp vq, a.tmps[dp]? = some vp ∧ a.tmps[dq]? = some vq ∧ T vp vq w) → Tells P ops G (fun v w' => R i v w' ∧ (i = p → ∀ u, R q u w → T v u w') ∧ (i = q → ∀ u, R p u w → T u v w')) o a w) (ds.getD i []) a0 := fun i o ho hin w hg => by
    by_cases e1 : i = p
    · subst e1
      exact (hp o ho w hg).mono fun a h _ => h.mono fun v w' h => ⟨h.1, fun _ => h.2, fun e => absurd e hne⟩
    · by_cases e2 : i = q
      · subst e2
        exact (hq o ho w hg).mono fun a h _ => h.mono fun v w' h => ⟨h.1, fun e => absurd e e1, fun _ => h.2⟩
      · exact (hdo i o ho hin w hg).mono fun a h hx => (h hx).mono fun v w' h => ⟨h, fun e => absurd e e1, fun e => absurd e e2⟩
  intro fuel
  induction fuel with
  | zero =>
    intro listed a w hsz hlen hg hnl hH
    have := hunl listed hsz hnl
    rw [List.eq_nil_of_length_eq_zero (Nat.le_zero.1 hlen)] at this
    cases this
  | succ fuel ih =>
    intro listed a w hsz hlen hg hnl hH
    refine ⟨fun hr => ?_, fun i hi => ?_⟩
    · exfalso
      have hall : ∀ i, i < ops.size → listed.getD i false = true := by
        intro i
        induction i using Nat.strongRecOn with
        | _ i ih2 =>
          intro hi
          cases hl : listed.getD i false with
          | true => rfl
          | false =>
            exfalso
            have ho : ops[i]? = some ops[i] := Array.getElem?_eq_getElem hi
            have hready : i ∈ Region.ready .any ops listed := by
              refine mem_ready.2 ⟨?_, _, ho, fun e he hb => ?_⟩
              · have his : i < listed.size := by omega
                simp [his] at hl ⊢
                exact hl
              · have hlt := (telOk_spec hok ho).back e he hb
                exact ih2 _ hlt (by omega)
            rw [hr] at hready
            cases hready
      have := hall n (by omega)
      rw [hnl] at this
      cases this
    obtain ⟨h0, o, ho, hall⟩ := mem_ready.1 hi
    have hin : i < ops.size := (Array.getElem?_eq_some_iff.1 ho).1
    have hT0 := telOk_spec hok ho
    have hil : listed.getD i false = false := by
      have : i < listed.size := by omega
      simp [this] at h0 ⊢
      exact h0
    by_cases hil2 : i = n
    · subst hil2
      have hlist : ∀ d j, i - j = d → j < i → listed.getD j false = true := by
        intro d
        induction d using Nat.strongRecOn with
        | _ d ih2 =>
          intro j hd hj
          obtain ⟨k, ok, hjk, hki, hok', hwf⟩ := lastOk_spec hlo hj
          obtain ⟨e, he, hb, hon⟩ := waitsFor_spec hwf
          by_cases hk : k = i
          · subst hk
            rw [ho] at hok'
            injection hok' with hok'
            subst hok'
            have := hall e he hb
            rw [hon] at this
            exact this
          · have hl := ih2 (i - k) (by omega) k rfl (by omega)
            have := hH.shut k ok hok' hl e he hb
            rw [hon] at this
            exact this
      have hlt : ∀ j, j < ops.size → j ≠ i → listed.getD j false = true := fun j hj hne => hlist (i - j) j rfl (by omega)
      obtain ⟨b, g1, g2, g3, g4⟩ := ForDeps.at a fin a0 hH.size.symm (fun x hx => by
        obtain ⟨h1, h2⟩ := hf2 x hx
        have hox : ops[x.1]? = some ops[x.1] := Array.getElem?_eq_getElem h1
        obtain ⟨v, h3, h4⟩ := hH.on x.1 _ hox (hlt _ h1 (hfn x hx))
        exact ⟨v, h3, fun d hd => h4 d (by rw [← hdstAt _ _ hox, h2, hd])⟩) (hfin o ho w hg)
      have hab : b = a := by
        obtain ⟨bt, bd⟩ := b
        obtain ⟨at_, ad⟩ := a
        have e1 : bt = at_ := by
          refine Array.ext_getElem? fun t => ?_
          rcases g4 t with ⟨_, e⟩ | ⟨h1, e⟩
          · exact e
          · have := hH.off t (fun j hj hd => by
              have hjs : j < ops.size := by
                by_cases hlt : j < ops.size
                · exact hlt
                · have : ¬ j < listed.size := by omega
                  simp [this] at hj
              have hoj : ops[j]? = some ops[j] := Array.getElem?_eq_getElem hjs
              rw [hdstAt _ _ hoj] at hd
              exact h1 _ ((telOk_spec hok hoj).dst t hd).2 rfl)
            exact e.trans this.symm
        have e2 : bd = ad := g3.trans hH.defers.symm
        rw [e1, e2]
      subst hab
      have hin2 : ∀ {k : Nat} {d : Tmp}, dstAt ops k = some d → k < ops.size ∧ k ≠ i := fun {k d} hk => by
        refine ⟨?_, fun e => by rw [e, hnd] at hk; cases hk⟩
        by_cases hlt : k < ops.size
        · exact hlt
        · unfold dstAt at hk
          rw [Array.getElem?_eq_none (by omega)] at hk
          cases hk
      have g1' := g1 (hH.pr (hlt p (hin2 hpd).1 (hin2 hpd).2) (hlt q (hin2 hqd).1 (hin2 hqd).2))
      refine g1'.op ho rfl rfl rfl trivial (fun v w' _ hr => ?_)
      refine wpAny_full ?_ hr
      cases hc : Region.ready .any ops (listed.setIfInBounds i true) with
      | nil => rfl
      | cons k rest =>
        exfalso
        have hk : k ∈ Region.ready .any ops (listed.setIfInBounds i true) := by rw [hc]; exact List.mem_cons_self ..
        obtain ⟨h1, ok, hok', _⟩ := mem_ready.1 hk
        have hks : k < ops.size := (Array.getElem?_eq_some_iff.1 hok').1
        by_cases hki : k = i
        · subst hki
          have : k < listed.size := by omega
          simp [this] at h1
        · rw [getD_set_ne true (fun h => hki h.symm)] at h1
          have h2 := hlt k hks hki
          have : k < listed.size := by omega
          simp [this] at h1 h2
          rw [h1] at h2
          cases h2
    obtain ⟨b, g1, g2, g3, g4⟩ := ForDeps.at a (ds.getD i []) a0 hH.size.symm (fun x hx => by
      obtain ⟨h1, h2⟩ := hT0.deps x hx
      obtain ⟨e, he, hb, hon⟩ := waitsFor_spec h1
      have hl := hall e he hb
      rw [hon] at hl
      have hxs : x.1 < ops.size := by have := hT0.back e he hb; omega
      have hox : ops[x.1]? = some ops[x.1] := Array.getElem?_eq_getElem hxs
      obtain ⟨v, h3, h4⟩ := hH.on x.1 _ hox hl
      exact ⟨v, h3, fun d hd => h4 d (by rw [← hdstAt _ _ hox, h2, hd])⟩) (hdo2 i o ho hil2 w hg)
    have hlook : ∀ t, t ∈ o.looksAt ops → a.tmps[t]? = b.tmps[t]? := fun t ht => by
      rcases g4 t with ⟨_, e⟩ | ⟨h1, e⟩
      · exact e.symm
      · rw [e]
        refine hH.off t (fun j hj hd => ?_)
        have hjs : j < ops.size := by
          by_cases hlt : j < ops.size
          · exact hlt
          · have : ¬ j < listed.size := by omega
            simp [this] at hj
        have hoj : ops[j]? = some ops[j] := Array.getElem?_eq_getElem hjs
        rw [hdstAt _ _ hoj] at hd
        rcases hT0.looks j _ t hoj hd ht with h2 | h2 | h2
        · exact h1 _ h2 rfl
        · obtain ⟨e, he, hb, hon⟩ := waitsFor_spec h2
          have h3 := hH.shut j _ hoj hj e he hb
          rw [hon, hil] at h3
          cases h3
        · rw [h2, hil] at hj
          cases hj
    obtain ⟨he, hw⟩ := same_looks hT0.sel hlook
    have g1' := g1 (fun er => by
      subst er
      have hli : ∀ {k : Nat} {d : Tmp}, (k, some d) ∈ ds.getD i [] → listed.getD k false = true := fun {k d} hk => by
        obtain ⟨h1, _⟩ := hT0.deps _ hk
        obtain ⟨e, he, hb, hon⟩ := waitsFor_spec h1
        have hl := hall e he hb
        rw [hon] at hl
        exact hl
      obtain ⟨vp, vq, h1, h2, h3⟩ := hH.pr (hli hrp) (hli hrq)
      have hsame : ∀ {k : Nat} {d : Tmp}, (k, some d) ∈ ds.getD i [] → b.tmps[d]? = a.tmps[d]? := fun {k d} hk => by
        rcases g4 d with ⟨_, e⟩ | ⟨h4, _⟩
        · exact e
        · exact absurd rfl (h4 _ hk)
      exact ⟨vp, vq, by rw [hsame hrp]; exact h1, by rw [hsame hrq]; exact h2, h3⟩)
    refine g1'.op ho he hw (by rw [hH.size, g2]) (hrefl w) (fun v w' hgw hr3 => ?_)
    obtain ⟨hr, hr1, hr2⟩ := hr3
    have hun : i ∈ ((List.range ops.size).filter fun j => listed.getD j true == false) := by
      rw [List.mem_filter, List.mem_range]
      exact ⟨hin, by rw [h0]; rfl⟩
    have hset : ∀ j, (listed.setIfInBounds i true).getD j false = true → j = i ∨ listed.getD j false = true := fun j hj => by
      by_cases e : j = i
      · exact .inl e
      · rw [getD_set_ne false (fun h => e h.symm)] at hj
        exact .inr hj
    refine ih (listed.setIfInBounds i true) _ w' (by simpa using hsz) ?_ (htrans _ _ _ hg hgw) (by rw [getD_set_ne false hil2]; exact hnl) ⟨by rw [put_defers, hH.defers], by rw [put_size, hH.size], fun t ht => ?_, fun j oj hoj hj => ?_, fun j oj hoj hj e he hb => ?_, fun hlp hlq => ?_⟩
    · rw [un_set (by omega)]
      have : (((List.range ops.size).filter fun j => listed.getD j true == false).filter (fun j => decide (j ≠ i))).length < ((List.range ops.size).filter fun j => listed.getD j true == false).length :=
        List.length_filter_lt_length_iff_exists.2 ⟨i, hun, by simp⟩
      omega
    · have hi1 : o.dst ≠ some t := by
        rw [← hdstAt i o ho]
        exact ht i (by have : i < listed.size := by omega
                       simp [this])
      rw [put_off _ _ _ hi1]
      exact hH.off t (fun j hj => ht j (by
        by_cases e : j = i
        · rw [e, hil] at hj; cases hj
        · rw [getD_set_ne false (fun h => e h.symm)]; exact hj))
    · rcases hset j hj with rfl | hl
      · rw [ho] at hoj
        injection hoj with hoj
        subst hoj
        exact ⟨v, hr, fun d hd => by rw [hd]; exact put_at _ _ _ (by rw [hH.size, hm]; exact (hT0.dst d hd).1)⟩
      · obtain ⟨u, h1, h2⟩ := hH.on j oj hoj hl
        refine ⟨u, hst _ _ _ _ h1 hgw, fun d hd => ?_⟩
        rw [put_off _ _ _ (hT0.apart j oj d hoj hd (fun e => by rw [e, hil] at hl; cases hl))]
        exact h2 d hd
    · have hup : ∀ k, listed.getD k false = true → (listed.setIfInBounds i true).getD k false = true := fun k hk => by
        by_cases ek : k = i
        · rw [ek, hil] at hk; cases hk
        · rw [getD_set_ne false (fun h => ek h.symm)]; exact hk
      rcases hset j hj with rfl | hl
      · rw [ho] at hoj
        injection hoj with hoj
        subst hoj
        exact hup _ (hall e he hb)
      · exact hup _ (hH.shut j oj hoj hl e he hb)
    · have hwas : ∀ {k : Nat} {d : Tmp}, dstAt ops k = some d → listed.getD k false = true → ∃ u, R k u w ∧ (a.put o.dst v).tmps[d]? = some u := fun {k d} hk hl => by
        have hks : k < ops.size := by
          by_cases hlt : k < ops.size
          · exact hlt
          · have : ¬ k < listed.size := by omega
            simp [this] at hl
        have hok' : ops[k]? = some ops[k] := Array.getElem?_eq_getElem hks
        obtain ⟨u, h1, h2⟩ := hH.on k _ hok' hl
        have hd : ops[k].dst = some d := by rw [← hdstAt _ _ hok']; exact hk
        refine ⟨u, h1, ?_⟩
        rw [put_off _ _ _ (hT0.apart k _ d hok' hd (fun e => by rw [e, hil] at hl; cases hl))]
        exact h2 d hd
      have hnow : ∀ {d : Tmp}, dstAt ops i = some d → (a.put o.dst v).tmps[d]? = some v := fun {d} hk => by
        have hd : o.dst = some d := by rw [← hdstAt _ _ ho]; exact hk
        rw [hd]
        exact put_at _ _ _ (by rw [hH.size, hm]; exact (hT0.dst d hd).1)
      rcases hset p hlp with ep | ep
      · rcases hset q hlq with eq_ | eq_
        · exact absurd (ep.trans eq_.symm) hne
        · obtain ⟨u, h1, h2⟩ := hwas hqd eq_
          subst ep
          exact ⟨v, u, hnow hpd, h2, hr1 rfl u h1⟩
      · rcases hset q hlq with eq_ | eq_
        · obtain ⟨u, h1, h2⟩ := hwas hpd ep
          subst eq_
          exact ⟨u, v, h2, hnow hqd, hr2 rfl u h1⟩
        · obtain ⟨vp, vq, h1, h2, h3⟩ := hH.pr ep eq_
          obtain ⟨_, _, h4⟩ := hwas hpd ep
          obtain ⟨_, _, h5⟩ := hwas hqd eq_
          have hkeep : ∀ {k : Nat} {d : Tmp}, dstAt ops k = some d → listed.getD k false = true → (a.put o.dst v).tmps[d]? = a.tmps[d]? := fun {k d} hk hl => by
            have hks : k < ops.size := by
              by_cases hlt : k < ops.size
              · exact hlt
              · have : ¬ k < listed.size := by omega
                simp [this] at hl
            have hok' : ops[k]? = some ops[k] := Array.getElem?_eq_getElem hks
            have hd : ops[k].dst = some d := by rw [← hdstAt _ _ hok']; exact hk
            exact put_off _ _ _ (hT0.apart k _ d hok' hd (fun e => by rw [e, hil] at hl; cases hl))
          exact ⟨vp, vq, by rw [hkeep hpd ep]; exact h1, by rw [hkeep hqd eq_]; exact h2, hT _ _ _ _ h3 hgw⟩

/-- What is to be shown of the operations but the last: at r what holds of the two is known. -/
def OblsLP (P : Program) (ops : Array Oper) (G : World → World → Prop) (R : Nat → Value → World → Prop) (Q : Exit → Act → World → Prop) (fin : List (Nat × Option Tmp)) (r : Nat) (dp dq : Tmp) (T : Value → Value → World → Prop) (w0 : World) (a0 : Act) : List Oper → List (List (Nat × Option Tmp)) → Nat → Prop
  | [o], [_], _ => ∀ w, G w0 w → ForDeps R w (fun a => (∃ vp vq, a.tmps[dp]? = some vp ∧ a.tmps[dq]? = some vq ∧ T vp vq w) → Tells P ops (fun _ _ => True) (fun v w' => Q .normal (a.put o.dst v) w') o a w) fin a0
  | o :: l, d :: ds, i => (∀ w, G w0 w → ForDeps R w (fun a => (i = r → ∃ vp vq, a.tmps[dp]? = some vp ∧ a.tmps[dq]? = some vq ∧ T vp vq w) → Tells P ops G (R i) o a w) d a0) ∧ OblsLP P ops G R Q fin r dp dq T w0 a0 l ds (i + 1)
  | _, _, _ => False
theorem OblsLP.at {fin : List (Nat × Option Tmp)} {w0 : World} {a0 : Act} : ∀ (l : List Oper) (ds : List (List (Nat × Option Tmp))) (k : Nat), OblsLP P ops G R Q fin r dp dq T w0 a0 l ds k → ∀ i o, l[i]? = some o →
    (i + 1 ≠ l.length → ∀ w, G w0 w → ForDeps R w (fun a => (k + i = r → ∃ vp vq, a.tmps[dp]? = some vp ∧ a.tmps[dq]? = some vq ∧ T vp vq w) → Tells P ops G (R (k + i)) o a w) (ds.getD i []) a0) ∧ (i + 1 = l.length → ∀ w, G w0 w → ForDeps R w (fun a => (∃ vp vq, a.tmps[dp]? = some vp ∧ a.tmps[dq]? = some vq ∧ T vp vq w) → Tells P ops (fun _ _ => True) (fun v w' => Q .normal (a.put o.dst v) w') o a w) fin a0)
  | [], _, _, h, i, o, hx => by simp at hx
  | [o], [], _, h, _, _, _ => h.elim
  | [o], [d], k, h, i, x, hx => by
    cases i with
    | zero => simp at hx; subst hx; exact ⟨fun e => absurd rfl e, fun _ => h⟩
    | succ i => simp at hx
  | [o], d :: d2 :: ds, k, h, _, _, _ => h.2.elim
  | o :: o2 :: l, [], k, h, _, _, _ => h.elim
  | o :: o2 :: l, d :: ds, k, h, i, x, hx => by
    cases i with
    | zero => simp at hx; subst hx; exact ⟨fun _ => h.1, fun e => by simp at e⟩
    | succ i =>
      have := OblsLP.at (o2 :: l) ds (k + 1) h.2 i x (by simpa using hx)
      rw [show k + 1 + i = k + (i + 1) by omega] at this
      exact ⟨fun e => by simpa using this.1 (by simp at e ⊢; exact e), fun e => this.2 (by simp at e ⊢; exact e)⟩
/-- The law. -/
theorem wp_region_lastP {id : Nat} {l : List Oper} {a : Act} {w : World} (G : World → World → Prop) (Rs : List (Value → World → Prop)) (m n : Nat) (ds : List (List (Nat × Option Tmp))) (fin : List (Nat × Option Tmp)) (p q r : Nat) (dp dq : Tmp) (T : Value → Value → World → Prop)
    (hm : P.follows .mixedOrders = true) (hok : (telOk l.toArray m ds fin && (decide (l.length = n + 1) && (lastOk l.toArray n && (decide (dstAt l.toArray n = none) && (fin.all (fun x => decide (x.1 ≠ n)) && (decide (p ≠ q ∧ p ≠ r ∧ q ≠ r) && (decide (dstAt l.toArray p = some dp) && (decide (dstAt l.toArray q = some dq) && ((ds.getD r []).contains (p, some dp) && (ds.getD r []).contains (q, some dq)))))))))) = true)
    (hsz : a.tmps.size = m) (hrefl : ∀ w, G w w) (htrans : ∀ u v w, G u v → G v w → G u w) (hst : ∀ r ∈ Rs, ∀ v w w', r v w → G w w' → r v w') (hT : ∀ u v w w', T u v w → G w w' → T u v w')
    (hdo : OblsLP P l.toArray G (rAt Rs) Q fin r dp dq T w.drew a l ds 0)
    (hp : ∀ o, l[p]? = some o → ∀ w', G w.drew w' → ForDeps (rAt Rs) w' (fun a => Tells P l.toArray G (fun v w'' => rAt Rs p v w'' ∧ ∀ u, rAt Rs q u w' → T v u w'') o a w') (ds.getD p []) a)
    (hq : ∀ o, l[q]? = some o → ∀ w', G w.drew w' → ForDeps (rAt Rs) w' (fun a => Tells P l.toArray G (fun v w'' => rAt Rs q v w'' ∧ ∀ u, rAt Rs p u w' → T u v w'') o a w') (ds.getD q []) a) : (Code.region id l.toArray true).wp P Q a w := by
  simp only [Bool.and_eq_true, decide_eq_true_eq] at hok
  obtain ⟨h1, h2, h3, h4, h5, ⟨hne, hpr, hqr⟩, hpd, hqd, hc1, hc2⟩ := hok
  refine wp_region_any hm ?_
  refine lastP_any (R := rAt Rs) (w0 := w.drew) (n := n) (p := p) (q := q) (r := r) (dp := dp) (dq := dq) (T := T) h1 (by simpa using h2) h3 hsz hrefl htrans (rAt_stays hst) (fun i o ho hne2 w' hg => ?_) (by simpa using hc1) (by simpa using hc2) hpr hqr hne hpd hqd hT (fun o ho => hp o (by simpa using ho)) (fun o ho => hq o (by simpa using ho)) (fun o ho w' hg => ?_) (fun x hx => by simpa using List.all_eq_true.1 h5 x hx) h4 _ _ a _ (by simp) ?_ (hrefl _) (by simp [h2]) ⟨rfl, rfl, fun t _ => rfl, fun j o ho hj => ?_, fun j o ho hj => ?_, fun hj => ?_⟩
  · have := (OblsLP.at l ds 0 hdo i o (by simpa using ho)).1 (by omega) w' hg
    rwa [Nat.zero_add] at this
  · exact (OblsLP.at l ds 0 hdo n o (by simpa using ho)).2 h2.symm w' hg
  · exact Nat.le_trans (List.length_filter_le ..) (by simp)
  · have hlt := (Array.getElem?_eq_some_iff.1 ho).1
    simp at hlt
    simp [hlt] at hj
  · have hlt := (Array.getElem?_eq_some_iff.1 ho).1
    simp at hlt
    simp [hlt] at hj
  · exfalso
    by_cases hlt : p < l.length
    · simp [hlt] at hj
    · simp [hlt] at hj
end
end Go.Proofs.YthenefjoidckkaaGreatDoor

/- Layer 11: a frame of one's own (written by mk/mksh3.py). -/
namespace Go.Proofs.YthenefjoidckkaaGreatDoor
open Go.RowKit
set_option linter.unusedVariables false
set_option maxRecDepth 100000

theorem fr_ret1 {fn : Func} {p : Tmp} (h : fn.results = #[.cell p 32]) (W : World) (r : Nat) (x y : Value) (hb : W.heap[r]? = some (.cells #[x, y] 32 (0, 0))) (tmps : Array Value) (hp : tmps.getD p undef = .pointer (some ⟨r, 0, none⟩)) :
    (results fn tmps).run Tryz.prog W = .ok (.agg #[x, y]) W := results_cell_row h _ _ r 32 _ (0, 0) _ hp hb Tryz.underlying32 rfl sizeFr
theorem two_blocks (w : World) (A B : Array Value) (tA tB : TypeId) : ∃ w2, w2 = (w.alloc (.cells A tA)).alloc (.cells B tB) ∧ Below w.heap.size w w2 ∧ w2.heap.size = w.heap.size + 2 ∧ w2.heap[w.heap.size]? = some (.cells A tA (0, 0)) ∧ w2.heap[w.heap.size + 1]? = some (.cells B tB (0, 0)) := by
  have z1 : (w.alloc (.cells A tA)).heap.size = w.heap.size + 1 := by simp
  refine ⟨_, rfl, bA (bA (Below.refl _ _) _) _, by simp, ?_, ?_⟩
  · exact (heap_alloc_old _ _ (by simp)).trans (heap_alloc_last _ _)
  · have t := heap_alloc_last (w.alloc (.cells A tA)) (.cells B tB); rw [z1] at t; exact t
/-- Lists of types that came in. -/
structure TsIn (w : World) (s : Sl) (u : List Ty) : Prop where
  ls : Ls 2 tyc w s.a s.n u
  nil : s.a = none → s.n = 0 ∧ s.c = 0
  few : s.n ≤ 1000000
theorem TsIn.below {w w' : World} {s : Sl} {u : List Ty} (h : TsIn w s u) (f : Below w.heap.size w w') : TsIn w' s u := ⟨h.ls.below f, h.nil, h.few⟩
set_option maxHeartbeats 1600000 in
theorem l11own_any (w : World) (la : Option Addr) (ln lc : Nat) (ta : Option Addr) (tn tc : Nat) (u vv : List Ty) (hu : TsIn w ⟨la, ln, lc⟩ u) (hv : TsIn w ⟨ta, tn, tc⟩ vv) :
    Calls Tryz.prog 13 #[.agg #[.slice la ln lc, .slice ta tn tc]] w fun e w' => ∃ l s : Sl, e = .returned (.agg #[l.v, s.v]) ∧ Orw tyc 52 2 w' w.heap.size l.v u ∧ Orw tyc 52 2 w' w.heap.size s.v vv ∧ Below w.heap.size w w' ∧ Ap l.v s.v := by
  obtain ⟨w2, hw2, f2, hz2, hb0, hb1⟩ := two_blocks w #[.slice la ln lc, .slice ta tn tc] #[.slice none 0 0, .slice none 0 0] 32 32
  have HU := hide hu
  have HV := hide hv
  have HW2 := hide hw2
  have F2 := hide f2
  have KB : Hid (∀ W, Below w2.heap.size w2 W → W.cell? ⟨w.heap.size, 0, none⟩ = some (.slice la ln lc) ∧ W.cell? ⟨w.heap.size, 1, none⟩ = some (.slice ta tn tc)) := fun W f => by
    have e1 := (f.block _ (lt_of_heap hb0)).trans hb0
    exact ⟨bx_cell e1 0 _ rfl, bx_cell e1 1 _ rfl⟩
  have KR : Hid (∀ W, Below w2.heap.size w2 W → W.heap[w.heap.size + 1]? = some (.cells #[.slice none 0 0, .slice none 0 0] 32 (0, 0))) := fun W f => (f.block _ (lt_of_heap hb1)).trans hb1
  have HZ := hide hz2
  clear hu hv hw2 f2 hz2 hb0 hb1
  go_enter Tryz.func13, Tryz.ntmps13
  go_wp2_with fail
  rw [← unhide HW2]
  refine wp_region_lastP (fun u v => Below u.heap.size u v) [
    (fun v W => ∃ g : Nat, v = .slice (some ⟨g, 0, none⟩) 0 0 ∧ w2.heap.size ≤ g ∧ W.heap[g]? = some (.cells #[] 52 (0, 0))),
    (fun v W => v = .pointer (some ⟨w.heap.size, 0, none⟩)),
    (fun v W => v = .slice la ln lc),
    (fun v W => ∃ l : Sl, v = l.v ∧ Orw tyc 52 2 W w2.heap.size l.v u),
    (fun v W => ∃ g : Nat, v = .slice (some ⟨g, 0, none⟩) 0 0 ∧ w2.heap.size ≤ g ∧ W.heap[g]? = some (.cells #[] 52 (0, 0))),
    (fun v W => v = .pointer (some ⟨w.heap.size, 1, none⟩)),
    (fun v W => v = .slice ta tn tc),
    (fun v W => ∃ l : Sl, v = l.v ∧ Orw tyc 52 2 W w2.heap.size l.v vv),
    (fun v W => ∃ l s : Sl, v = .agg #[l.v, s.v] ∧ Orw tyc 52 2 W w2.heap.size l.v u ∧ Orw tyc 52 2 W w2.heap.size s.v vv ∧ Ap l.v s.v)] 12 9
    [[], [], [(1, some 4)], [(0, some 3), (2, some 5)], [], [], [(5, some 8)], [(4, some 7), (6, some 9)], [(3, some 6), (7, some 10)], [(8, some 11)]]
    [(0, some 3), (1, some 4), (2, some 5), (3, some 6), (4, some 7), (5, some 8), (6, some 9), (7, some 10), (8, some 11)] 3 7 8 6 10 (fun a b _ => Ap a b)
    (by kernel_rfl) (by kernel_rfl) rfl (fun _ => Below.refl _ _) (fun _ _ _ h1 h2 => h1.trans (h2.mono h1.size)) ?_ (fun _ _ _ _ h _ => h) ?_ ?_ ?_
  · intro r hr
    simp only [List.mem_cons, List.not_mem_nil, or_false] at hr
    rcases hr with rfl | rfl | rfl | rfl | rfl | rfl | rfl | rfl | rfl
    · intro v W W2 h f
      obtain ⟨g, rfl, h1, h2⟩ := h
      exact ⟨g, rfl, h1, (f.block _ (lt_of_heap h2)).trans h2⟩
    · intro v W W2 h f
      exact h
    · intro v W W2 h f
      exact h
    · intro v W W2 h f
      obtain ⟨l, rfl, h1⟩ := h
      exact ⟨l, rfl, h1.below fun k hk => f.block _ (h1.lt k hk).2⟩
    · intro v W W2 h f
      obtain ⟨g, rfl, h1, h2⟩ := h
      exact ⟨g, rfl, h1, (f.block _ (lt_of_heap h2)).trans h2⟩
    · intro v W W2 h f
      exact h
    · intro v W W2 h f
      exact h
    · intro v W W2 h f
      obtain ⟨l, rfl, h1⟩ := h
      exact ⟨l, rfl, h1.below fun k hk => f.block _ (h1.lt k hk).2⟩
    · intro v W W2 h f
      obtain ⟨l, s, rfl, h1, h2, h3⟩ := h
      exact ⟨l, s, rfl, h1.below fun k hk => f.block _ (h1.lt k hk).2, h2.below fun k hk => f.block _ (h2.lt k hk).2, h3⟩
  · refine ⟨?_, ?_, ?_, ?_, ?_, ?_, ?_, ?_, ?_, ?_⟩
    · intro W hG
      have HG : Below w2.heap.size w2 W := (Below.refl _ _).drew.trans hG
      simp only [ForDeps, rAt]
      intro _
      refine Tells.does (by rfl) (fun K hK => ?_)
      go_simp
      exact hK.out _ _ (bA (Below.refl _ _) _) ⟨_, rfl, HG.size, heap_alloc_last _ _⟩
    · intro W hG
      have HG : Below w2.heap.size w2 W := (Below.refl _ _).drew.trans hG
      simp only [ForDeps, rAt]
      intro _
      obtain ⟨p0, p1⟩ := unhide KB W HG
      refine Tells.yields (v := ?_) (by rfl) (Below.refl _ _) ?_ ?_
      rotate_left
      focus ((go_simp) <;> with_reducible rfl)
      exact rfl
    · intro W hG
      have HG : Below w2.heap.size w2 W := (Below.refl _ _).drew.trans hG
      simp only [ForDeps, rAt]
      rintro _ rfl
      simp only [Act.put, List.setIfInBounds_toArray, List.set_cons_zero, List.set_cons_succ]
      intro _
      obtain ⟨p0, p1⟩ := unhide KB W HG
      refine Tells.yields (v := ?_) (by rfl) (Below.refl _ _) ?_ ?_
      rotate_left
      focus ((go_simp) <;> with_reducible rfl)
      exact rfl
    · intro W hG
      have HG : Below w2.heap.size w2 W := (Below.refl _ _).drew.trans hG
      simp only [ForDeps, rAt]
      rintro x0 ⟨g0, rfl, i0, j0⟩ _ rfl
      simp only [Act.put, List.setIfInBounds_toArray, List.set_cons_zero, List.set_cons_succ]
      intro _
      refine Tells.does (by rfl) (fun K hK => ?_)
      have hI := (unhide HU).below ((unhide F2).trans (HG.mono (unhide F2).size))
      have hfew := hI.few
      simp only at hfew
      refine wpR_append0 rkT (.tmp 3) (.tmp 5) rfl w2.heap.size g0 (by rfl) j0 i0 la ln lc u (by rfl) hI.ls hI.nil (by omega) (by omega) (fun v' w' h1 h2 _ => ?_)
      obtain ⟨va, vc, hv', _⟩ := h1.form
      subst hv'
      exact hK.out _ _ h2 ⟨⟨va, u.length, vc⟩, rfl, h1⟩
    · intro W hG
      have HG : Below w2.heap.size w2 W := (Below.refl _ _).drew.trans hG
      simp only [ForDeps, rAt]
      intro _
      refine Tells.does (by rfl) (fun K hK => ?_)
      go_simp
      exact hK.out _ _ (bA (Below.refl _ _) _) ⟨_, rfl, HG.size, heap_alloc_last _ _⟩
    · intro W hG
      have HG : Below w2.heap.size w2 W := (Below.refl _ _).drew.trans hG
      simp only [ForDeps, rAt]
      intro _
      obtain ⟨p0, p1⟩ := unhide KB W HG
      refine Tells.yields (v := ?_) (by rfl) (Below.refl _ _) ?_ ?_
      rotate_left
      focus ((go_simp) <;> with_reducible rfl)
      exact rfl
    · intro W hG
      have HG : Below w2.heap.size w2 W := (Below.refl _ _).drew.trans hG
      simp only [ForDeps, rAt]
      rintro _ rfl
      simp only [Act.put, List.setIfInBounds_toArray, List.set_cons_zero, List.set_cons_succ]
      intro _
      obtain ⟨p0, p1⟩ := unhide KB W HG
      refine Tells.yields (v := ?_) (by rfl) (Below.refl _ _) ?_ ?_
      rotate_left
      focus ((go_simp) <;> with_reducible rfl)
      exact rfl
    · intro W hG
      have HG : Below w2.heap.size w2 W := (Below.refl _ _).drew.trans hG
      simp only [ForDeps, rAt]
      rintro x4 ⟨g4, rfl, i4, j4⟩ _ rfl
      simp only [Act.put, List.setIfInBounds_toArray, List.set_cons_zero, List.set_cons_succ]
      intro _
      refine Tells.does (by rfl) (fun K hK => ?_)
      have hI := (unhide HV).below ((unhide F2).trans (HG.mono (unhide F2).size))
      have hfew := hI.few
      simp only at hfew
      refine wpR_append0 rkT (.tmp 7) (.tmp 9) rfl w2.heap.size g4 (by rfl) j4 i4 ta tn tc vv (by rfl) hI.ls hI.nil (by omega) (by omega) (fun v' w' h1 h2 _ => ?_)
      obtain ⟨va, vc, hv', _⟩ := h1.form
      subst hv'
      exact hK.out _ _ h2 ⟨⟨va, vv.length, vc⟩, rfl, h1⟩
    · intro W hG
      have HG : Below w2.heap.size w2 W := (Below.refl _ _).drew.trans hG
      simp only [ForDeps, rAt]
      rintro x3 ⟨l3, rfl, o3⟩ x7 ⟨l7, rfl, o7⟩
      simp only [Act.put, List.setIfInBounds_toArray, List.set_cons_zero, List.set_cons_succ]
      intro hpr0
      obtain ⟨vp, vq, hvp, hvq, hpr⟩ := hpr0 (by first | rfl | trivial)
      refine Tells.does (by rfl) (fun K hK => ?_)
      have e3 : vp = l3.v := by simpa using hvp.symm
      have e7 : vq = l7.v := by simpa using hvq.symm
      subst e3 e7
      have hap := hide hpr
      clear hpr hvp hvq hpr0
      unfold Sl.v
      go_simp
      exact hK.out _ _ (Below.refl _ _) ⟨l3, l7, rfl, o3, o7, unhide hap⟩
    · intro W hG
      have HG : Below w2.heap.size w2 W := (Below.refl _ _).drew.trans hG
      simp only [ForDeps, rAt]
      rintro x0 ⟨g0, rfl, i0, j0⟩ _ rfl _ rfl x3 ⟨l3, rfl, o3⟩ x4 ⟨g4, rfl, i4, j4⟩ _ rfl _ rfl x7 ⟨l7, rfl, o7⟩ x8 ⟨l8, s8, rfl, o8, q8, ap8⟩
      simp only [Act.put, List.setIfInBounds_toArray, List.set_cons_zero, List.set_cons_succ]
      intro hprL
      refine Tells.does (by rfl) (fun K hK => ?_)
      have hr := unhide KR W HG
      have y0 := bx_cell hr 0 _ rfl
      have y1 := bx_cell hr 1 _ rfl
      have yt := fun q => bx_thaw hr q
      unfold Sl.v
      go_simp
      refine hK.out undef _ trivial ?_
      have HR2 := hide (ty_set (.slice l8.a l8.n l8.c) (.slice s8.a s8.n s8.c) hr)
      have HB2 := hide (ty_bel (.slice l8.a l8.n l8.c) (.slice s8.a s8.n s8.c) ((unhide F2).trans (HG.mono (unhide F2).size)) (Nat.le_succ w.heap.size))
      have rowk : ∀ {vx : Value} {lx : List Ty}, Orw tyc 52 2 W w2.heap.size vx lx → Orw tyc 52 2 ((W.setCell ⟨w.heap.size + 1, 0, none⟩ (.slice l8.a l8.n l8.c)).setCell ⟨w.heap.size + 1, 1, none⟩ (.slice s8.a s8.n s8.c)) w.heap.size vx lx := fun {vx lx} o => (o.below fun k hk => (heap_setCell_other _ _ _ _ (row_ne o hr (by decide) hk)).trans (heap_setCell_other _ _ _ _ (row_ne o hr (by decide) hk))).base (unhide F2).size
      have HO := hide (And.intro (rowk o8) (And.intro (rowk q8) ap8))
      clear rowk hr y0 y1 yt hK hG HG hprL o3 o7 o8 q8
      generalize (W.setCell ⟨w.heap.size + 1, 0, none⟩ (.slice l8.a l8.n l8.c)).setCell ⟨w.heap.size + 1, 1, none⟩ (.slice s8.a s8.n s8.c) = W9 at *
      go_wp2
      refine bodyPost_ret (fr_ret1 Tryz.results13 _ (w.heap.size + 1) _ _ (unhide HR2) _ rfl) rfl ?_
      exact ⟨l8, s8, rfl, (unhide HO).1, (unhide HO).2.1, unhide HB2, (unhide HO).2.2⟩
  · intro o ho W hG
    injection ho with ho
    subst ho
    have HG : Below w2.heap.size w2 W := (Below.refl _ _).drew.trans hG
    simp only [ForDeps, rAt, List.getD_cons_succ, List.getD_cons_zero]
    rintro x0 ⟨g0, rfl, i0, j0⟩ _ rfl
    simp only [Act.put, List.setIfInBounds_toArray, List.set_cons_zero, List.set_cons_succ]
    refine Tells.does (by rfl) (fun K hK => ?_)
    have hI := (unhide HU).below ((unhide F2).trans (HG.mono (unhide F2).size))
    have hfew := hI.few
    simp only at hfew
    refine wpR_append0 rkT (.tmp 3) (.tmp 5) rfl w2.heap.size g0 (by rfl) j0 i0 la ln lc u (by rfl) hI.ls hI.nil (by omega) (by omega) (fun v' w' h1 h2 h3 => ?_)
    obtain ⟨va, vc, hv', _⟩ := h1.form
    subst hv'
    refine hK.out _ _ h2 ⟨⟨⟨va, u.length, vc⟩, rfl, h1⟩, ?_⟩
    rintro u0 ⟨lx, rfl, ox⟩
    rcases h3 with h3 | h3
    · exact .inl h3
    · refine .inr (.inr fun i j hi hj => ?_)
      have := h3 i hi
      have := (ox.lt j hj).2
      omega
  · intro o ho W hG
    injection ho with ho
    subst ho
    have HG : Below w2.heap.size w2 W := (Below.refl _ _).drew.trans hG
    simp only [ForDeps, rAt, List.getD_cons_succ, List.getD_cons_zero]
    rintro x4 ⟨g4, rfl, i4, j4⟩ _ rfl
    simp only [Act.put, List.setIfInBounds_toArray, List.set_cons_zero, List.set_cons_succ]
    refine Tells.does (by rfl) (fun K hK => ?_)
    have hI := (unhide HV).below ((unhide F2).trans (HG.mono (unhide F2).size))
    have hfew := hI.few
    simp only at hfew
    refine wpR_append0 rkT (.tmp 7) (.tmp 9) rfl w2.heap.size g4 (by rfl) j4 i4 ta tn tc vv (by rfl) hI.ls hI.nil (by omega) (by omega) (fun v' w' h1 h2 h3 => ?_)
    obtain ⟨va, vc, hv', _⟩ := h1.form
    subst hv'
    refine hK.out _ _ h2 ⟨⟨⟨va, vv.length, vc⟩, rfl, h1⟩, ?_⟩
    rintro u0 ⟨lx, rfl, ox⟩
    rcases h3 with h3 | h3
    · exact .inr (.inl h3)
    · refine .inr (.inr fun i j hi hj => ?_)
      have := h3 j hj
      have := (ox.lt i hi).2
      omega
end Go.Proofs.YthenefjoidckkaaGreatDoor

/- Layer 11: lists of classes that came in. -/
namespace Go.Proofs.YthenefjoidckkaaGreatDoor
open Go.ChangeShapes Go.WideShapes Go.ChangeAt Go.RowKit
set_option linter.unusedVariables false
set_option maxRecDepth 100000

theorem ncs_arg11 {H : Type} {enc : TypeId × Value → H} {W : World} {base : Nat} {a : Option Addr} {n c : Nat} {d : DataW H} {p : List MemPlace}
    (h : DataW.Trod enc Tryz.prog W base (fun _ => true) true 22 (.slice a n c) d p) (hw : ∀ m ∈ d.weights Tryz.prog 22, m ≤ reachBytes) : ∃ l : List Nc, Ls 2 nc2 W a n l ∧ n ≤ 140737488351232 := by
  obtain ⟨l, h1⟩ := lin_open (s := ⟨a, n, c⟩) (size := 2) (by_ := 32) (ok := fun _ : Nc => True) (val := nc2) Tryz.underlying22 (by kernel_rfl) (by kernel_rfl) (by decide) (fun _ => rfl) (fun _ => ⟨_, rfl⟩) (fun n cs x h hw => nc_cells11 n cs x h hw) h hw
  exact ⟨l, h1.ls, by have := h1.small; simp only at this; omega⟩
end Go.Proofs.YthenefjoidckkaaGreatDoor
