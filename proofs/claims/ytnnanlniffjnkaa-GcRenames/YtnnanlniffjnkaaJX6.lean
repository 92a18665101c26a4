/- Joined: TxB TxC TxD TxE RgA RgB RgC. -/
import Derived.Test.YtnnanlniffjnkaaJX3
import Derived.Test.YtnnanlniffjnkaaJX0
import Derived.RangeFuncNested
import Derived.RangeFuncBound
import Derived.RangeFuncCalls
import Derived.RangeFuncLeaves
import Derived.RangeFuncBox
import Derived.OrdersIn

/- Regions that draw their order, walked once, whatever the order: each operation yields a value of which a predicate of value and world holds that stays while the world goes on (allocs may float beside calls; a slot may be looked at by an operation ahead of the one that writes it). -/
namespace Go.Proofs.Ytnnanlniffjnkaa
open Go.RowKit
set_option linter.unusedVariables false

section
variable {P : Program} {ops : Array Oper} {Q : Exit → Act → World → Prop} {G : World → World → Prop} {R : Nat → Value → World → Prop}

/-- In act a and world w, o leaves a value of which r holds. -/
def Tells (P : Program) (ops : Array Oper) (G : World → World → Prop) (r : Value → World → Prop) (o : Oper) (a : Act) (w : World) : Prop :=
  (Region.wanted o (yielded ops a.tmps) = true ∧ ∀ K : Act → World → Prop, Shut (∀ v w', G w w' → r v w' → K (a.put o.dst v) w') → Oper.wp P o a w K (fun _ _ _ => False)) ∨
  (Region.wanted o (yielded ops a.tmps) = false ∧ r undef w)
/-- For all values of these operations. -/
def ForDeps (R : Nat → Value → World → Prop) (w : World) (K : Act → Prop) : List (Nat × Option Tmp) → Act → Prop
  | [], a => K a
  | (j, d) :: l, a => ∀ v, R j v w → ForDeps R w K l (a.put d v)
/-- What is to be shown of each operation. -/
def Obls (P : Program) (ops : Array Oper) (G : World → World → Prop) (R : Nat → Value → World → Prop) (w0 : World) (a0 : Act) : List Oper → List (List (Nat × Option Tmp)) → Nat → Prop
  | o :: l, d :: ds, i => (∀ w, G w0 w → ForDeps R w (fun a => Tells P ops G (R i) o a w) d a0) ∧ Obls P ops G R w0 a0 l ds (i + 1)
  | [], [], _ => True
  | _, _, _ => False
theorem Obls.at {w0 : World} {a0 : Act} : ∀ (l : List Oper) (ds : List (List (Nat × Option Tmp))) (k : Nat), Obls P ops G R w0 a0 l ds k → ∀ i o, l[i]? = some o → ∀ w, G w0 w → ForDeps R w (fun a => Tells P ops G (R (k + i)) o a w) (ds.getD i []) a0
  | [], _, _, _, i, o, h => by simp at h
  | o :: l, [], k, h, _, _, _ => h.elim
  | o :: l, d :: ds, k, h, i, x, hx => by
    cases i with
    | zero =>
      simp at hx
      subst hx
      exact h.1
    | succ i =>
      have := Obls.at l ds (k + 1) h.2 i x (by simpa using hx)
      rw [show k + 1 + i = k + (i + 1) by omega] at this
      simpa using this

theorem put_defers (a : Act) (d : Option Tmp) (v : Value) : (a.put d v).defers = a.defers := by cases d <;> rfl
theorem put_at (a : Act) (d : Tmp) (v : Value) (h : d < a.tmps.size) : (a.put (some d) v).tmps[d]? = some v := by simp [Act.put, h]
theorem put_off (a : Act) (d : Option Tmp) (v : Value) {t : Tmp} (h : d ≠ some t) : (a.put d v).tmps[t]? = a.tmps[t]? := by
  cases d with
  | none => rfl
  | some d =>
    show (a.tmps.setIfInBounds d _)[t]? = _
    rw [Array.getElem?_setIfInBounds_ne (fun e => h (by rw [e]))]
theorem ForDeps.at {K : Act → Prop} {w : World} (a : Act) : ∀ (l : List (Nat × Option Tmp)) (b : Act), b.tmps.size = a.tmps.size → (∀ x ∈ l, ∃ v, R x.1 v w ∧ ∀ d, x.2 = some d → a.tmps[d]? = some v) → ForDeps R w K l b →
    ∃ b', K b' ∧ b'.tmps.size = b.tmps.size ∧ b'.defers = b.defers ∧ ∀ t, ((∃ x ∈ l, x.2 = some t) ∧ b'.tmps[t]? = a.tmps[t]?) ∨ ((∀ x ∈ l, x.2 ≠ some t) ∧ b'.tmps[t]? = b.tmps[t]?)
  | [], b, _, _, h => ⟨b, h, rfl, rfl, fun t => .inr ⟨fun x hx => (by cases hx), rfl⟩⟩
  | (j, d) :: l, b, hs, hv, h => by
    obtain ⟨v, h1, h2⟩ := hv (j, d) (List.mem_cons_self ..)
    obtain ⟨b', g1, g2, g3, g4⟩ := ForDeps.at a l (b.put d v) (by rw [put_size, hs]) (fun x hx => hv x (List.mem_cons_of_mem _ hx)) (h v h1)
    refine ⟨b', g1, by rw [g2, put_size], by rw [g3, put_defers], fun t => ?_⟩
    rcases g4 t with ⟨⟨x, hx, e⟩, g5⟩ | ⟨g5, g6⟩
    · exact .inl ⟨⟨x, List.mem_cons_of_mem _ hx, e⟩, g5⟩
    · by_cases e : d = some t
      · subst e
        have h3 := h2 t rfl
        have h4 : t < a.tmps.size := (Array.getElem?_eq_some_iff.1 h3).1
        refine .inl ⟨⟨_, List.mem_cons_self .., rfl⟩, ?_⟩
        rw [g6, put_at _ _ _ (by rw [hs]; exact h4), h3]
      · refine .inr ⟨fun x hx => ?_, by rw [g6, put_off _ _ _ e]⟩
        rcases List.mem_cons.1 hx with rfl | hx
        · exact e
        · exact g5 x hx

theorem Tells.op {i : Nat} {o : Oper} {r : Value → World → Prop} {a b : Act} {w : World} (hi : ops[i]? = some o) (hd : Tells P ops G r o b w) (he : execOp a.eval o = execOp b.eval o)
    (hw : Region.wanted o (yielded ops a.tmps) = Region.wanted o (yielded ops b.tmps)) (hsz : a.tmps.size = b.tmps.size) {K : Act → World → Prop} (hg : G w w)
    (h : ∀ v w', G w w' → r v w' → K (a.put o.dst v) w') : wpOp P ops Q i K a w := by
  unfold wpOp
  simp only [hi]
  rw [hw]
  rcases hd with ⟨h1, h2⟩ | ⟨h1, h2⟩
  · rw [if_pos h1]
    refine .inl ?_
    have h3 := h2 (fun a2 w2 => ∃ v, a2 = b.put o.dst v ∧ G w w2 ∧ r v w2) (fun v w' g1 g2 => ⟨v, rfl, g1, g2⟩)
    clear h2
    unfold Oper.wp at h3 ⊢
    rw [he]
    generalize (execOp b.eval o).run P w = x at *
    cases x with
    | ok n w' =>
      cases n <;> simp only [Oper.upon] at h3 ⊢
      case value u => obtain ⟨v, e, g1, g2⟩ := h3; rw [put_same hsz e]; exact h _ _ g1 g2
      case skip => obtain ⟨v, e, g1, g2⟩ := h3; rw [put_same hsz e]; exact h _ _ g1 g2
      case defer d =>
        exfalso
        obtain ⟨v, e0, _⟩ := h3
        have e := congrArg Act.defers e0
        rw [put_defers, put_defers] at e
        have := congrArg List.length e
        simp at this
      case enter f args =>
        refine Calls.mono h3 fun e w'' he => ?_
        cases e with
        | returned u =>
          obtain ⟨v, e, g1, g2⟩ := he
          have h5 : K (a.put o.dst u) w'' := by rw [put_same hsz e]; exact h _ _ g1 g2
          exact h5
        | panicked c => exact he.elim
        | outgrown =>
          obtain ⟨_, _, hf⟩ := he
          exact hf.elim
      case row row args => exact Rows.mono h3 fun u w'' he => by obtain ⟨v, e, g1, g2⟩ := he; rw [put_same hsz e]; exact h _ _ g1 g2
    | halt x w' => cases x <;> simp only [Oper.upon] at h3
  · rw [if_neg (by rw [h1]; simp)]
    exact h _ _ hg h2

def waitsFor (o : Oper) (j : Nat) : Bool := o.after.any fun e => Region.binds .any e && e.on == j
theorem waitsFor_spec {o : Oper} {j : Nat} (h : waitsFor o j = true) : ∃ e ∈ o.after, Region.binds .any e = true ∧ e.on = j := by
  obtain ⟨q, hq, h8⟩ := Array.any_eq_true.1 h
  simp only [Bool.and_eq_true, beq_iff_eq] at h8
  exact ⟨_, Array.getElem_mem hq, h8.1, h8.2⟩
/-- What the law asks of a region's text and of the two tables. -/
def telOk (ops : Array Oper) (m : Nat) (ds : List (List (Nat × Option Tmp))) (fin : List (Nat × Option Tmp)) : Bool :=
  ((List.range ops.size).all fun i => match ops[i]? with
    | none => true
    | some o => (match o.op with | .select .. => false | _ => true) && o.after.all (fun e => !Region.binds .any e || decide (e.on < i)) && (match o.dst with | some d => decide (d < m) && fin.contains (i, some d) | none => true) &&
      ((ds.getD i []).all fun x => waitsFor o x.1 && dstAt ops x.1 == x.2) &&
      ((List.range ops.size).all fun j => match ops[j]? with
        | none => true
        | some oj => match oj.dst with
          | none => true
          | some d => (!(o.looksAt ops).contains d || (ds.getD i []).contains (j, some d) || waitsFor oj i || j == i) && (j == i || o.dst != some d))) &&
  fin.all fun x => decide (x.1 < ops.size) && dstAt ops x.1 == x.2
structure TelOp (ops : Array Oper) (m : Nat) (ds : List (List (Nat × Option Tmp))) (fin : List (Nat × Option Tmp)) (i : Nat) (o : Oper) : Prop where
  sel : ∀ cs b, o.op ≠ .select cs b
  back : ∀ e ∈ o.after, Region.binds .any e = true → e.on < i
  dst : ∀ d, o.dst = some d → d < m ∧ (i, some d) ∈ fin
  deps : ∀ x ∈ ds.getD i [], waitsFor o x.1 = true ∧ dstAt ops x.1 = x.2
  looks : ∀ j oj d, ops[j]? = some oj → oj.dst = some d → d ∈ o.looksAt ops → (j, some d) ∈ ds.getD i [] ∨ waitsFor oj i = true ∨ j = i
  apart : ∀ j oj d, ops[j]? = some oj → oj.dst = some d → j ≠ i → o.dst ≠ some d
theorem telOk_spec {m : Nat} {ds : List (List (Nat × Option Tmp))} {fin : List (Nat × Option Tmp)} (h : telOk ops m ds fin = true) {i : Nat} {o : Oper} (ho : ops[i]? = some o) : TelOp ops m ds fin i o := by
  have hi : i < ops.size := (Array.getElem?_eq_some_iff.1 ho).1
  unfold telOk at h
  rw [Bool.and_eq_true] at h
  have h1 := List.all_eq_true.1 h.1 i (List.mem_range.2 hi)
  simp only [ho, Bool.and_eq_true] at h1
  obtain ⟨⟨⟨⟨h2, h3⟩, h4⟩, h5⟩, h6⟩ := h1
  have hj : ∀ j oj d, ops[j]? = some oj → oj.dst = some d → ((!(o.looksAt ops).contains d || (ds.getD i []).contains (j, some d) || waitsFor oj i || j == i) && (j == i || o.dst != some d)) = true := fun j oj d hoj hd => by
    have hjs : j < ops.size := (Array.getElem?_eq_some_iff.1 hoj).1
    have := List.all_eq_true.1 h6 j (List.mem_range.2 hjs)
    simp only [hoj, hd] at this
    exact this
  refine ⟨fun cs b e => ?_, fun e he hb => ?_, fun d hd => ?_, fun x hx => ?_, fun j oj d hoj hd hl => ?_, fun j oj d hoj hd hne => ?_⟩
  · rw [e] at h2
    cases h2
  · have := (Array.all_eq_true_iff_forall_mem.1 h3) e he
    simpa [hb] using this
  · rw [hd] at h4
    simp only [Bool.and_eq_true, decide_eq_true_eq] at h4
    exact ⟨h4.1, List.contains_iff_mem.1 h4.2⟩
  · have := List.all_eq_true.1 h5 x hx
    simpa using this
  · have h7 := hj j oj d hoj hd
    rw [Bool.and_eq_true, List.contains_iff_mem.2 hl] at h7
    have h8 := h7.1
    simp only [Bool.not_true, Bool.false_or, Bool.or_eq_true, beq_iff_eq] at h8
    rcases h8 with (h8 | h8) | h8
    · exact .inl (List.contains_iff_mem.1 h8)
    · exact .inr (.inl h8)
    · exact .inr (.inr h8)
  · have h7 := hj j oj d hoj hd
    rw [Bool.and_eq_true] at h7
    have h8 := h7.2
    simp only [Bool.or_eq_true, beq_iff_eq, bne_iff_ne] at h8
    exact h8.resolve_left hne

structure Held9 (ops : Array Oper) (R : Nat → Value → World → Prop) (a0 : Act) (listed : Array Bool) (a : Act) (w : World) : Prop where
  defers : a.defers = a0.defers
  size : a.tmps.size = a0.tmps.size
  off : ∀ t, (∀ j, listed.getD j false = true → dstAt ops j ≠ some t) → a.tmps[t]? = a0.tmps[t]?
  on : ∀ j o, ops[j]? = some o → listed.getD j false = true → ∃ v, R j v w ∧ ∀ d, o.dst = some d → a.tmps[d]? = some v
  shut : ∀ j o, ops[j]? = some o → listed.getD j false = true → ∀ e ∈ o.after, Region.binds .any e = true → listed.getD e.on false = true

theorem tells_any {m : Nat} {ds : List (List (Nat × Option Tmp))} {fin : List (Nat × Option Tmp)} (hok : telOk ops m ds fin = true) {a0 : Act} {w0 : World} (hm : a0.tmps.size = m)
    (hrefl : ∀ w, G w w) (htrans : ∀ u v w, G u v → G v w → G u w) (hst : ∀ j v w w', R j v w → G w w' → R j v w')
    (hdo : ∀ i o, ops[i]? = some o → ∀ w, G w0 w → ForDeps R w (fun a => Tells P ops G (R i) o a w) (ds.getD i []) a0) (hfin : ∀ w, G w0 w → ForDeps R w (fun a => Q .normal a w) fin a0) :
    ∀ (fuel : Nat) (listed : Array Bool) (a : Act) (w : World), listed.size = ops.size → ((List.range ops.size).filter fun j => listed.getD j true == false).length ≤ fuel →
      G w0 w → Held9 ops R a0 listed a w → wpAny P .any ops Q fuel listed a w := by
  have hdstAt : ∀ j o, ops[j]? = some o → dstAt ops j = o.dst := fun j o ho => by unfold dstAt; rw [ho]; rfl
  have key : ∀ (listed : Array Bool) (a : Act) (w : World), listed.size = ops.size → G w0 w → Held9 ops R a0 listed a w → Region.ready .any ops listed = [] → Q .normal a w := fun listed a w hsz hg hH hr => by
    have hall : ∀ i, i < ops.size → listed.getD i false = true := by
      intro i
      induction i using Nat.strongRecOn with
      | _ i ih =>
        intro hi
        cases hl : listed.getD i false with
        | true => rfl
        | false =>
          exfalso
          have ho : ops[i]? = some ops[i] := Array.getElem?_eq_getElem hi
          have hready : i ∈ Region.ready .any ops listed := by
            refine mem_ready.2 ⟨?_, _, ho, fun e he hb => ?_⟩
            · have his : i < listed.size := by omega
              simp [his] at hl ⊢
              exact hl
            · have hlt := (telOk_spec hok ho).back e he hb
              exact ih _ hlt (by omega)
          rw [hr] at hready
          cases hready
    have hf2 : ∀ x ∈ fin, x.1 < ops.size ∧ dstAt ops x.1 = x.2 := fun x hx => by
      have h := hok
      unfold telOk at h
      rw [Bool.and_eq_true] at h
      have := List.all_eq_true.1 h.2 x hx
      simpa using this
    obtain ⟨b', g1, g2, g3, g4⟩ := ForDeps.at a fin a0 hH.size.symm (fun x hx => by
      obtain ⟨h1, h2⟩ := hf2 x hx
      have ho : ops[x.1]? = some ops[x.1] := Array.getElem?_eq_getElem h1
      obtain ⟨v, h3, h4⟩ := hH.on x.1 _ ho (hall _ h1)
      exact ⟨v, h3, fun d hd => h4 d (by rw [← hdstAt _ _ ho, h2, hd])⟩) (hfin w hg)
    have hab : b' = a := by
      obtain ⟨bt, bd⟩ := b'
      obtain ⟨at_, ad⟩ := a
      have e1 : bt = at_ := by
        refine Array.ext_getElem? fun t => ?_
        rcases g4 t with ⟨_, e⟩ | ⟨h1, e⟩
        · exact e
        · have := hH.off t (fun j hj hd => by
            have hjs : j < ops.size := by
              by_cases hlt : j < ops.size
              · exact hlt
              · have : ¬ j < listed.size := by omega
                simp [this] at hj
            have ho : ops[j]? = some ops[j] := Array.getElem?_eq_getElem hjs
            rw [hdstAt _ _ ho] at hd
            exact h1 _ ((telOk_spec hok ho).dst t hd).2 rfl)
          exact e.trans this.symm
      have e2 : bd = ad := g3.trans hH.defers.symm
      rw [e1, e2]
    rw [hab] at g1
    exact g1
  intro fuel
  induction fuel with
  | zero =>
    intro listed a w hsz hlen hg hH
    have hr : Region.ready .any ops listed = [] := by
      cases hc : Region.ready .any ops listed with
      | nil => rfl
      | cons i rest =>
        exfalso
        have hi : i ∈ Region.ready .any ops listed := by rw [hc]; exact List.mem_cons_self ..
        obtain ⟨h0, o, ho, _⟩ := mem_ready.1 hi
        have : i ∈ ((List.range ops.size).filter fun j => listed.getD j true == false) := by
          rw [List.mem_filter, List.mem_range]
          exact ⟨(Array.getElem?_eq_some_iff.1 ho).1, by rw [h0]; rfl⟩
        rw [List.eq_nil_of_length_eq_zero (Nat.le_zero.1 hlen)] at this
        cases this
    exact ⟨hr, key listed a w hsz hg hH hr⟩
  | succ fuel ih =>
    intro listed a w hsz hlen hg hH
    refine ⟨key listed a w hsz hg hH, fun i hi => ?_⟩
    obtain ⟨h0, o, ho, hall⟩ := mem_ready.1 hi
    have hin : i < ops.size := (Array.getElem?_eq_some_iff.1 ho).1
    have hT := telOk_spec hok ho
    have hil : listed.getD i false = false := by
      have : i < listed.size := by omega
      simp [this] at h0 ⊢
      exact h0
    obtain ⟨b, g1, g2, g3, g4⟩ := ForDeps.at a (ds.getD i []) a0 hH.size.symm (fun x hx => by
      obtain ⟨h1, h2⟩ := hT.deps x hx
      obtain ⟨e, he, hb, hon⟩ := waitsFor_spec h1
      have hl := hall e he hb
      rw [hon] at hl
      have hxs : x.1 < ops.size := by have := hT.back e he hb; omega
      have hox : ops[x.1]? = some ops[x.1] := Array.getElem?_eq_getElem hxs
      obtain ⟨v, h3, h4⟩ := hH.on x.1 _ hox hl
      exact ⟨v, h3, fun d hd => h4 d (by rw [← hdstAt _ _ hox, h2, hd])⟩) (hdo i o ho w hg)
    have hlook : ∀ t, t ∈ o.looksAt ops → a.tmps[t]? = b.tmps[t]? := fun t ht => by
      rcases g4 t with ⟨_, e⟩ | ⟨h1, e⟩
      · exact e.symm
      · rw [e]
        refine hH.off t (fun j hj hd => ?_)
        have hjs : j < ops.size := by
          by_cases hlt : j < ops.size
          · exact hlt
          · have : ¬ j < listed.size := by omega
            simp [this] at hj
        have hoj : ops[j]? = some ops[j] := Array.getElem?_eq_getElem hjs
        rw [hdstAt _ _ hoj] at hd
        rcases hT.looks j _ t hoj hd ht with h2 | h2 | h2
        · exact h1 _ h2 rfl
        · obtain ⟨e, he, hb, hon⟩ := waitsFor_spec h2
          have h3 := hH.shut j _ hoj hj e he hb
          rw [hon, hil] at h3
          cases h3
        · rw [h2, hil] at hj
          cases hj
    obtain ⟨he, hw⟩ := same_looks hT.sel hlook
    refine g1.op ho he hw (by rw [hH.size, g2]) (hrefl w) (fun v w' hgw hr => ?_)
    have hun : i ∈ ((List.range ops.size).filter fun j => listed.getD j true == false) := by
      rw [List.mem_filter, List.mem_range]
      exact ⟨hin, by rw [h0]; rfl⟩
    have hset : ∀ j, (listed.setIfInBounds i true).getD j false = true → j = i ∨ listed.getD j false = true := fun j hj => by
      by_cases e : j = i
      · exact .inl e
      · rw [getD_set_ne false (fun h => e h.symm)] at hj
        exact .inr hj
    refine ih (listed.setIfInBounds i true) _ w' (by simpa using hsz) ?_ (htrans _ _ _ hg hgw) ⟨by rw [put_defers, hH.defers], by rw [put_size, hH.size], fun t ht => ?_, fun j oj hoj hj => ?_, fun j oj hoj hj e he hb => ?_⟩
    · rw [un_set (by omega)]
      have : (((List.range ops.size).filter fun j => listed.getD j true == false).filter (fun j => decide (j ≠ i))).length < ((List.range ops.size).filter fun j => listed.getD j true == false).length :=
        List.length_filter_lt_length_iff_exists.2 ⟨i, hun, by simp⟩
      omega
    · have hi1 : o.dst ≠ some t := by
        rw [← hdstAt i o ho]
        exact ht i (by have : i < listed.size := by omega
                       simp [this])
      rw [put_off _ _ _ hi1]
      exact hH.off t (fun j hj => ht j (by
        by_cases e : j = i
        · rw [e, hil] at hj; cases hj
        · rw [getD_set_ne false (fun h => e h.symm)]; exact hj))
    · rcases hset j hj with rfl | hl
      · rw [ho] at hoj
        injection hoj with hoj
        subst hoj
        exact ⟨v, hr, fun d hd => by rw [hd]; exact put_at _ _ _ (by rw [hH.size, hm]; exact (hT.dst d hd).1)⟩
      · obtain ⟨u, h1, h2⟩ := hH.on j oj hoj hl
        refine ⟨u, hst _ _ _ _ h1 hgw, fun d hd => ?_⟩
        rw [put_off _ _ _ (hT.apart j oj d hoj hd (fun e => by rw [e, hil] at hl; cases hl))]
        exact h2 d hd
    · have hup : ∀ k, listed.getD k false = true → (listed.setIfInBounds i true).getD k false = true := fun k hk => by
        by_cases ek : k = i
        · rw [ek, hil] at hk; cases hk
        · rw [getD_set_ne false (fun h => ek h.symm)]; exact hk
      rcases hset j hj with rfl | hl
      · rw [ho] at hoj
        injection hoj with hoj
        subst hoj
        exact hup _ (hall e he hb)
      · exact hup _ (hH.shut j oj hoj hl e he hb)

/-- The predicate of operation j. -/
def rAt : List (Value → World → Prop) → Nat → Value → World → Prop
  | [], _ => fun _ _ => True
  | r :: _, 0 => r
  | _ :: l, j + 1 => rAt l j
theorem rAt_stays {l : List (Value → World → Prop)} (h : ∀ r ∈ l, ∀ v w w', r v w → G w w' → r v w') : ∀ j v w w', rAt l j v w → G w w' → rAt l j v w' := by
  induction l with
  | nil => intro j v w w' _ _; trivial
  | cons r l ih =>
    intro j v w w' h1 h2
    cases j with
    | zero => exact h r (List.mem_cons_self ..) v w w' h1 h2
    | succ j => exact ih (fun x hx => h x (List.mem_cons_of_mem _ hx)) j v w w' h1 h2

/-- The law. Rs: what is told of each operation's value; ds: for each operation those whose values it looks at, with their slots; fin: all slots. -/
theorem wp_region_tells {id : Nat} {l : List Oper} {a : Act} {w : World} (G : World → World → Prop) (Rs : List (Value → World → Prop)) (m : Nat) (ds : List (List (Nat × Option Tmp))) (fin : List (Nat × Option Tmp))
    (hm : P.follows .mixedOrders = true) (hok : telOk l.toArray m ds fin = true) (hsz : a.tmps.size = m) (hrefl : ∀ w, G w w) (htrans : ∀ u v w, G u v → G v w → G u w) (hst : ∀ r ∈ Rs, ∀ v w w', r v w → G w w' → r v w')
    (hdo : Obls P l.toArray G (rAt Rs) w.drew a l ds 0) (hfin : ∀ w', G w.drew w' → ForDeps (rAt Rs) w' (fun a => Q .normal a w') fin a) : (Code.region id l.toArray true).wp P Q a w := by
  refine wp_region_any hm ?_
  refine tells_any (R := rAt Rs) (w0 := w.drew) hok hsz hrefl htrans (rAt_stays hst) (fun i o ho w' hg => ?_) hfin _ _ a _ (by simp) ?_ (hrefl _) ⟨rfl, rfl, fun t _ => rfl, fun j o ho hj => ?_, fun j o ho hj => ?_⟩
  · have := Obls.at l ds 0 hdo i o (by simpa using ho) w' hg
    rwa [Nat.zero_add] at this
  · exact Nat.le_trans (List.length_filter_le ..) (by simp)
  · have hlt := (Array.getElem?_eq_some_iff.1 ho).1
    simp at hlt
    simp [hlt] at hj
  · have hlt := (Array.getElem?_eq_some_iff.1 ho).1
    simp at hlt
    simp [hlt] at hj

/-- One step: the operation is wanted, and acts. -/
theorem Tells.does {r : Value → World → Prop} {o : Oper} {a : Act} {w : World} (hw : Region.wanted o (yielded ops a.tmps) = true)
    (h : ∀ K : Act → World → Prop, Shut (∀ v w', G w w' → r v w' → K (a.put o.dst v) w') → Oper.wp P o a w K (fun _ _ _ => False)) : Tells P ops G r o a w := .inl ⟨hw, h⟩
/-- .. and only reads. -/
theorem Tells.yields {r : Value → World → Prop} {o : Oper} {a : Act} {w : World} {v : Value} (hw : Region.wanted o (yielded ops a.tmps) = true) (hg : G w w)
    (h : (execOp a.eval o).run P w = .ok (.value v) w) (hr : r v w) : Tells P ops G r o a w := .inl ⟨hw, fun K hK => by
    unfold Oper.wp
    rw [h]
    exact hK.out _ _ hg hr⟩
/-- .. its guard skips it. -/
theorem Tells.skips {r : Value → World → Prop} {o : Oper} {a : Act} {w : World} (hw : Region.wanted o (yielded ops a.tmps) = false) (hr : r undef w) : Tells P ops G r o a w := .inr ⟨hw, hr⟩

end
end Go.Proofs.Ytnnanlniffjnkaa

/- Regions that draw their order and end with one operation that waits for all others: these in any order, as in TxB, then that one. -/
namespace Go.Proofs.Ytnnanlniffjnkaa
open Go.RowKit
set_option linter.unusedVariables false

section
variable {P : Program} {ops : Array Oper} {Q : Exit → Act → World → Prop} {G : World → World → Prop} {R : Nat → Value → World → Prop}

/-- Each operation but the last is waited for by one behind it. -/
def lastOk (ops : Array Oper) (n : Nat) : Bool := (List.range n).all fun j => (List.range (n + 1)).any fun i => decide (j < i) && (match ops[i]? with | some o => waitsFor o j | none => false)
theorem lastOk_spec {n : Nat} (h : lastOk ops n = true) {j : Nat} (hj : j < n) : ∃ i o, j < i ∧ i ≤ n ∧ ops[i]? = some o ∧ waitsFor o j = true := by
  have h1 := List.all_eq_true.1 h j (List.mem_range.2 hj)
  obtain ⟨i, hi, h2⟩ := List.any_eq_true.1 h1
  rw [Bool.and_eq_true, decide_eq_true_eq] at h2
  cases ho : ops[i]? with
  | none => simp [ho] at h2
  | some o => exact ⟨i, o, h2.1, by have := List.mem_range.1 hi; omega, ho, by simpa [ho] using h2.2⟩
theorem wpAny_full {fuel : Nat} {listed : Array Bool} {a : Act} {w : World} (hr : Region.ready .any ops listed = []) (h : Q .normal a w) : wpAny P .any ops Q fuel listed a w := by
  cases fuel with
  | zero => exact ⟨hr, h⟩
  | succ f => exact ⟨fun _ => h, fun i hi => by rw [hr] at hi; cases hi⟩
theorem last_any {m n : Nat} {ds : List (List (Nat × Option Tmp))} {fin : List (Nat × Option Tmp)} (hok : telOk ops m ds fin = true) (hn : ops.size = n + 1) (hlo : lastOk ops n = true) {a0 : Act} {w0 : World} (hm : a0.tmps.size = m)
    (hrefl : ∀ w, G w w) (htrans : ∀ u v w, G u v → G v w → G u w) (hst : ∀ j v w w', R j v w → G w w' → R j v w')
    (hdo : ∀ i o, ops[i]? = some o → i ≠ n → ∀ w, G w0 w → ForDeps R w (fun a => Tells P ops G (R i) o a w) (ds.getD i []) a0)
    (hfin : ∀ o, ops[n]? = some o → ∀ w, G w0 w → ForDeps R w (fun a => Tells P ops (fun _ _ => True) (fun v w' => Q .normal (a.put o.dst v) w') o a w) fin a0) (hfn : ∀ x ∈ fin, x.1 ≠ n) (hnd : dstAt ops n = none) :
    ∀ (fuel : Nat) (listed : Array Bool) (a : Act) (w : World), listed.size = ops.size → ((List.range ops.size).filter fun j => listed.getD j true == false).length ≤ fuel →
      G w0 w → listed.getD n false = false → Held9 ops R a0 listed a w → wpAny P .any ops Q fuel listed a w := by
  have hdstAt : ∀ j o, ops[j]? = some o → dstAt ops j = o.dst := fun j o ho => by unfold dstAt; rw [ho]; rfl
  have hunl : ∀ (listed : Array Bool), listed.size = ops.size → listed.getD n false = false → n ∈ ((List.range ops.size).filter fun j => listed.getD j true == false) := fun listed hsz hl => by
    rw [List.mem_filter, List.mem_range]
    refine ⟨by omega, ?_⟩
    have : n < listed.size := by omega
    simp [this] at hl ⊢
    exact hl
  have hf2 : ∀ x ∈ fin, x.1 < ops.size ∧ dstAt ops x.1 = x.2 := fun x hx => by
    have h := hok
    unfold telOk at h
    rw [Bool.and_eq_true] at h
    have := List.all_eq_true.1 h.2 x hx
    simpa using this
  intro fuel
  induction fuel with
  | zero =>
    intro listed a w hsz hlen hg hnl hH
    have := hunl listed hsz hnl
    rw [List.eq_nil_of_length_eq_zero (Nat.le_zero.1 hlen)] at this
    cases this
  | succ fuel ih =>
    intro listed a w hsz hlen hg hnl hH
    refine ⟨fun hr => ?_, fun i hi => ?_⟩
    · exfalso
      have hall : ∀ i, i < ops.size → listed.getD i false = true := by
        intro i
        induction i using Nat.strongRecOn with
        | _ i ih2 =>
          intro hi
          cases hl : listed.getD i false with
          | true => rfl
          | false =>
            exfalso
            have ho : ops[i]? = some ops[i] := Array.getElem?_eq_getElem hi
            have hready : i ∈ Region.ready .any ops listed := by
              refine mem_ready.2 ⟨?_, _, ho, fun e he hb => ?_⟩
              · have his : i < listed.size := by omega
                simp [his] at hl ⊢
                exact hl
              · have hlt := (telOk_spec hok ho).back e he hb
                exact ih2 _ hlt (by omega)
            rw [hr] at hready
            cases hready
      have := hall n (by omega)
      rw [hnl] at this
      cases this
    obtain ⟨h0, o, ho, hall⟩ := mem_ready.1 hi
    have hin : i < ops.size := (Array.getElem?_eq_some_iff.1 ho).1
    have hT := telOk_spec hok ho
    have hil : listed.getD i false = false := by
      have : i < listed.size := by omega
      simp [this] at h0 ⊢
      exact h0
    by_cases hil2 : i = n
    · subst hil2
      have hlist : ∀ d j, i - j = d → j < i → listed.getD j false = true := by
        intro d
        induction d using Nat.strongRecOn with
        | _ d ih2 =>
          intro j hd hj
          obtain ⟨k, ok, hjk, hki, hok', hwf⟩ := lastOk_spec hlo hj
          obtain ⟨e, he, hb, hon⟩ := waitsFor_spec hwf
          by_cases hk : k = i
          · subst hk
            rw [ho] at hok'
            injection hok' with hok'
            subst hok'
            have := hall e he hb
            rw [hon] at this
            exact this
          · have hl := ih2 (i - k) (by omega) k rfl (by omega)
            have := hH.shut k ok hok' hl e he hb
            rw [hon] at this
            exact this
      have hlt : ∀ j, j < ops.size → j ≠ i → listed.getD j false = true := fun j hj hne => hlist (i - j) j rfl (by omega)
      obtain ⟨b, g1, g2, g3, g4⟩ := ForDeps.at a fin a0 hH.size.symm (fun x hx => by
        obtain ⟨h1, h2⟩ := hf2 x hx
        have hox : ops[x.1]? = some ops[x.1] := Array.getElem?_eq_getElem h1
        obtain ⟨v, h3, h4⟩ := hH.on x.1 _ hox (hlt _ h1 (hfn x hx))
        exact ⟨v, h3, fun d hd => h4 d (by rw [← hdstAt _ _ hox, h2, hd])⟩) (hfin o ho w hg)
      have hab : b = a := by
        obtain ⟨bt, bd⟩ := b
        obtain ⟨at_, ad⟩ := a
        have e1 : bt = at_ := by
          refine Array.ext_getElem? fun t => ?_
          rcases g4 t with ⟨_, e⟩ | ⟨h1, e⟩
          · exact e
          · have := hH.off t (fun j hj hd => by
              have hjs : j < ops.size := by
                by_cases hlt : j < ops.size
                · exact hlt
                · have : ¬ j < listed.size := by omega
                  simp [this] at hj
              have hoj : ops[j]? = some ops[j] := Array.getElem?_eq_getElem hjs
              rw [hdstAt _ _ hoj] at hd
              exact h1 _ ((telOk_spec hok hoj).dst t hd).2 rfl)
            exact e.trans this.symm
        have e2 : bd = ad := g3.trans hH.defers.symm
        rw [e1, e2]
      subst hab
      refine g1.op ho rfl rfl rfl trivial (fun v w' _ hr => ?_)
      refine wpAny_full ?_ hr
      cases hc : Region.ready .any ops (listed.setIfInBounds i true) with
      | nil => rfl
      | cons k rest =>
        exfalso
        have hk : k ∈ Region.ready .any ops (listed.setIfInBounds i true) := by rw [hc]; exact List.mem_cons_self ..
        obtain ⟨h1, ok, hok', _⟩ := mem_ready.1 hk
        have hks : k < ops.size := (Array.getElem?_eq_some_iff.1 hok').1
        by_cases hki : k = i
        · subst hki
          have : k < listed.size := by omega
          simp [this] at h1
        · rw [getD_set_ne true (fun h => hki h.symm)] at h1
          have h2 := hlt k hks hki
          have : k < listed.size := by omega
          simp [this] at h1 h2
          rw [h1] at h2
          cases h2
    obtain ⟨b, g1, g2, g3, g4⟩ := ForDeps.at a (ds.getD i []) a0 hH.size.symm (fun x hx => by
      obtain ⟨h1, h2⟩ := hT.deps x hx
      obtain ⟨e, he, hb, hon⟩ := waitsFor_spec h1
      have hl := hall e he hb
      rw [hon] at hl
      have hxs : x.1 < ops.size := by have := hT.back e he hb; omega
      have hox : ops[x.1]? = some ops[x.1] := Array.getElem?_eq_getElem hxs
      obtain ⟨v, h3, h4⟩ := hH.on x.1 _ hox hl
      exact ⟨v, h3, fun d hd => h4 d (by rw [← hdstAt _ _ hox, h2, hd])⟩) (hdo i o ho hil2 w hg)
    have hlook : ∀ t, t ∈ o.looksAt ops → a.tmps[t]? = b.tmps[t]? := fun t ht => by
      rcases g4 t with ⟨_, e⟩ | ⟨h1, e⟩
      · exact e.symm
      · rw [e]
        refine hH.off t (fun j hj hd => ?_)
        have hjs : j < ops.size := by
          by_cases hlt : j < ops.size
          · exact hlt
          · have : ¬ j < listed.size := by omega
            simp [this] at hj
        have hoj : ops[j]? = some ops[j] := Array.getElem?_eq_getElem hjs
        rw [hdstAt _ _ hoj] at hd
        rcases hT.looks j _ t hoj hd ht with h2 | h2 | h2
        · exact h1 _ h2 rfl
        · obtain ⟨e, he, hb, hon⟩ := waitsFor_spec h2
          have h3 := hH.shut j _ hoj hj e he hb
          rw [hon, hil] at h3
          cases h3
        · rw [h2, hil] at hj
          cases hj
    obtain ⟨he, hw⟩ := same_looks hT.sel hlook
    refine g1.op ho he hw (by rw [hH.size, g2]) (hrefl w) (fun v w' hgw hr => ?_)
    have hun : i ∈ ((List.range ops.size).filter fun j => listed.getD j true == false) := by
      rw [List.mem_filter, List.mem_range]
      exact ⟨hin, by rw [h0]; rfl⟩
    have hset : ∀ j, (listed.setIfInBounds i true).getD j false = true → j = i ∨ listed.getD j false = true := fun j hj => by
      by_cases e : j = i
      · exact .inl e
      · rw [getD_set_ne false (fun h => e h.symm)] at hj
        exact .inr hj
    refine ih (listed.setIfInBounds i true) _ w' (by simpa using hsz) ?_ (htrans _ _ _ hg hgw) (by rw [getD_set_ne false hil2]; exact hnl) ⟨by rw [put_defers, hH.defers], by rw [put_size, hH.size], fun t ht => ?_, fun j oj hoj hj => ?_, fun j oj hoj hj e he hb => ?_⟩
    · rw [un_set (by omega)]
      have : (((List.range ops.size).filter fun j => listed.getD j true == false).filter (fun j => decide (j ≠ i))).length < ((List.range ops.size).filter fun j => listed.getD j true == false).length :=
        List.length_filter_lt_length_iff_exists.2 ⟨i, hun, by simp⟩
      omega
    · have hi1 : o.dst ≠ some t := by
        rw [← hdstAt i o ho]
        exact ht i (by have : i < listed.size := by omega
                       simp [this])
      rw [put_off _ _ _ hi1]
      exact hH.off t (fun j hj => ht j (by
        by_cases e : j = i
        · rw [e, hil] at hj; cases hj
        · rw [getD_set_ne false (fun h => e h.symm)]; exact hj))
    · rcases hset j hj with rfl | hl
      · rw [ho] at hoj
        injection hoj with hoj
        subst hoj
        exact ⟨v, hr, fun d hd => by rw [hd]; exact put_at _ _ _ (by rw [hH.size, hm]; exact (hT.dst d hd).1)⟩
      · obtain ⟨u, h1, h2⟩ := hH.on j oj hoj hl
        refine ⟨u, hst _ _ _ _ h1 hgw, fun d hd => ?_⟩
        rw [put_off _ _ _ (hT.apart j oj d hoj hd (fun e => by rw [e, hil] at hl; cases hl))]
        exact h2 d hd
    · have hup : ∀ k, listed.getD k false = true → (listed.setIfInBounds i true).getD k false = true := fun k hk => by
        by_cases ek : k = i
        · rw [ek, hil] at hk; cases hk
        · rw [getD_set_ne false (fun h => ek h.symm)]; exact hk
      rcases hset j hj with rfl | hl
      · rw [ho] at hoj
        injection hoj with hoj
        subst hoj
        exact hup _ (hall e he hb)
      · exact hup _ (hH.shut j oj hoj hl e he hb)
/-- What is to be shown of the operations but the last. -/
def OblsL (P : Program) (ops : Array Oper) (G : World → World → Prop) (R : Nat → Value → World → Prop) (Q : Exit → Act → World → Prop) (fin : List (Nat × Option Tmp)) (w0 : World) (a0 : Act) : List Oper → List (List (Nat × Option Tmp)) → Nat → Prop
  | [o], [_], _ => ∀ w, G w0 w → ForDeps R w (fun a => Tells P ops (fun _ _ => True) (fun v w' => Q .normal (a.put o.dst v) w') o a w) fin a0
  | o :: l, d :: ds, i => (∀ w, G w0 w → ForDeps R w (fun a => Tells P ops G (R i) o a w) d a0) ∧ OblsL P ops G R Q fin w0 a0 l ds (i + 1)
  | _, _, _ => False
theorem OblsL.at {fin : List (Nat × Option Tmp)} {w0 : World} {a0 : Act} : ∀ (l : List Oper) (ds : List (List (Nat × Option Tmp))) (k : Nat), OblsL P ops G R Q fin w0 a0 l ds k → ∀ i o, l[i]? = some o →
    (i + 1 ≠ l.length → ∀ w, G w0 w → ForDeps R w (fun a => Tells P ops G (R (k + i)) o a w) (ds.getD i []) a0) ∧ (i + 1 = l.length → ∀ w, G w0 w → ForDeps R w (fun a => Tells P ops (fun _ _ => True) (fun v w' => Q .normal (a.put o.dst v) w') o a w) fin a0)
  | [], _, _, h, i, o, hx => by simp at hx
  | [o], [], _, h, _, _, _ => h.elim
  | [o], [d], k, h, i, x, hx => by
    cases i with
    | zero => simp at hx; subst hx; exact ⟨fun e => absurd rfl e, fun _ => h⟩
    | succ i => simp at hx
  | [o], d :: d2 :: ds, k, h, _, _, _ => h.2.elim
  | o :: o2 :: l, [], k, h, _, _, _ => h.elim
  | o :: o2 :: l, d :: ds, k, h, i, x, hx => by
    cases i with
    | zero => simp at hx; subst hx; exact ⟨fun _ => h.1, fun e => by simp at e⟩
    | succ i =>
      have := OblsL.at (o2 :: l) ds (k + 1) h.2 i x (by simpa using hx)
      rw [show k + 1 + i = k + (i + 1) by omega] at this
      exact ⟨fun e => by simpa using this.1 (by simp at e ⊢; exact e), fun e => this.2 (by simp at e ⊢; exact e)⟩
/-- The law. -/
theorem wp_region_last {id : Nat} {l : List Oper} {a : Act} {w : World} (G : World → World → Prop) (Rs : List (Value → World → Prop)) (m n : Nat) (ds : List (List (Nat × Option Tmp))) (fin : List (Nat × Option Tmp))
    (hm : P.follows .mixedOrders = true) (hok : (telOk l.toArray m ds fin && (decide (l.length = n + 1) && (lastOk l.toArray n && (decide (dstAt l.toArray n = none) && fin.all fun x => decide (x.1 ≠ n))))) = true) (hsz : a.tmps.size = m) (hrefl : ∀ w, G w w) (htrans : ∀ u v w, G u v → G v w → G u w) (hst : ∀ r ∈ Rs, ∀ v w w', r v w → G w w' → r v w')
    (hdo : OblsL P l.toArray G (rAt Rs) Q fin w.drew a l ds 0) : (Code.region id l.toArray true).wp P Q a w := by
  simp only [Bool.and_eq_true, decide_eq_true_eq] at hok
  obtain ⟨h1, h2, h3, h4, h5⟩ := hok
  refine wp_region_any hm ?_
  refine last_any (R := rAt Rs) (w0 := w.drew) (n := n) h1 (by simpa using h2) h3 hsz hrefl htrans (rAt_stays hst) (fun i o ho hne w' hg => ?_) (fun o ho w' hg => ?_) (fun x hx => by simpa using List.all_eq_true.1 h5 x hx) h4 _ _ a _ (by simp) ?_ (hrefl _) (by simp [h2]) ⟨rfl, rfl, fun t _ => rfl, fun j o ho hj => ?_, fun j o ho hj => ?_⟩
  · have := (OblsL.at l ds 0 hdo i o (by simpa using ho)).1 (by omega) w' hg
    rwa [Nat.zero_add] at this
  · exact (OblsL.at l ds 0 hdo n o (by simpa using ho)).2 h2.symm w' hg
  · exact Nat.le_trans (List.length_filter_le ..) (by simp)
  · have hlt := (Array.getElem?_eq_some_iff.1 ho).1
    simp at hlt
    simp [hlt] at hj
  · have hlt := (Array.getElem?_eq_some_iff.1 ho).1
    simp at hlt
    simp [hlt] at hj
end
end Go.Proofs.Ytnnanlniffjnkaa

/- Regions that draw their order and end with one operation that waits for all others: what holds of these alone, in any order, and then of that one. -/
namespace Go.Proofs.Ytnnanlniffjnkaa
open Go.RowKit
set_option linter.unusedVariables false

section
variable {P : Program} {Q : Exit → Act → World → Prop}

/-- What is asked of the text. -/
def splitOk (ops : Array Oper) (n : Nat) : Bool := decide (ops.size = n + 1) && lastOk ops n && (List.range (n + 1)).all fun i => match ops[i]? with
  | none => true
  | some o => o.after.all (fun e => !Region.binds .any e || decide (e.on < i)) && (match o.guard with | none => true | some g => decide (g.1 < n))
structure SplitOp (n i : Nat) (o : Oper) : Prop where
  back : ∀ e ∈ o.after, Region.binds .any e = true → e.on < i
  guard : ∀ g, o.guard = some g → g.1 < n
theorem splitOk_spec {ops : Array Oper} {n : Nat} (h : splitOk ops n = true) : ops.size = n + 1 ∧ lastOk ops n = true ∧ ∀ i o, ops[i]? = some o → SplitOp n i o := by
  unfold splitOk at h
  simp only [Bool.and_eq_true, decide_eq_true_eq] at h
  obtain ⟨⟨h1, h2⟩, h3⟩ := h
  refine ⟨h1, h2, fun i o ho => ?_⟩
  have hi := (Array.getElem?_eq_some_iff.1 ho).1
  have h4 := List.all_eq_true.1 h3 i (List.mem_range.2 (by omega))
  simp only [ho, Bool.and_eq_true] at h4
  refine ⟨fun e he hb => ?_, fun g hg => ?_⟩
  · have := (Array.all_eq_true_iff_forall_mem.1 h4.1) e he
    simpa [hb] using this
  · have := h4.2
    rw [hg] at this
    simpa using this
/-- The last operation, and then Q. -/
def thenLast (P : Program) (ops : Array Oper) (n : Nat) (Q : Exit → Act → World → Prop) : Exit → Act → World → Prop
  | .normal, a, w => wpOp P ops Q n (fun a' w' => Q .normal a' w') a w
  | ex, a, w => Q ex a w
theorem letsOut_thenLast {ops : Array Oper} {n : Nat} (h : LetsOut (thenLast P ops n Q)) : LetsOut Q := h
theorem wp_thenLast {ops : Array Oper} {n : Nat} {o : Oper} {a : Act} {w : World} {K : Act → World → Prop} (hh : o.wp P a w K (thenLast P ops n Q)) : o.wp P a w K Q := by
  unfold Oper.wp at *
  generalize (execOp a.eval o).run P w = r at *
  cases r with
  | ok n w' =>
    cases n <;> simp only [Oper.upon] at hh ⊢ <;>
      first
        | exact hh
        | exact Calls.mono hh (fun e w'' he => by cases e <;> exact he)
  | halt x w' => cases x <;> simp only [Oper.upon] at hh ⊢ <;> exact hh
theorem ready_pre {pre : List Oper} {o : Oper} {listed : Array Bool} (hs : listed.size = pre.length) {i : Nat} (hi : i < pre.length) (hb : ∀ i o', (pre ++ [o]).toArray[i]? = some o' → SplitOp pre.length i o') :
    i ∈ Region.ready .any (pre ++ [o]).toArray (listed.push false) ↔ i ∈ Region.ready .any pre.toArray listed := by
  rw [mem_ready, mem_ready]
  have e1 : (pre ++ [o]).toArray[i]? = pre.toArray[i]? := by simp [List.getElem?_append_left hi]
  have e2 : ∀ j, j < pre.length → (listed.push false).getD j true = listed.getD j true := fun j hj => by
    have h1 : j < listed.size := by omega
    simp [Array.getElem?_push, Nat.ne_of_lt h1]
  have e3 : ∀ j, j < pre.length → (listed.push false).getD j false = listed.getD j false := fun j hj => by
    have h1 : j < listed.size := by omega
    simp [Array.getElem?_push, Nat.ne_of_lt h1]
  rw [e1, e2 i hi]
  refine ⟨fun ⟨h1, o', h2, h3⟩ => ⟨h1, o', h2, fun e he hbb => ?_⟩, fun ⟨h1, o', h2, h3⟩ => ⟨h1, o', h2, fun e he hbb => ?_⟩⟩
  · have hlt := (hb i o' (by rw [e1]; exact h2)).back e he hbb
    rw [← e3 _ (by omega)]
    exact h3 e he hbb
  · have hlt := (hb i o' (by rw [e1]; exact h2)).back e he hbb
    rw [e3 _ (by omega)]
    exact h3 e he hbb
theorem wanted_pre {pre : List Oper} {o : Oper} {tmps : Array Value} {o' : Oper} (hg : ∀ g, o'.guard = some g → g.1 < pre.length) : Region.wanted o' (yielded (pre ++ [o]).toArray tmps) = Region.wanted o' (yielded pre.toArray tmps) := by
  unfold Region.wanted
  cases h : o'.guard with
  | none => rfl
  | some g =>
    obtain ⟨j, b⟩ := g
    have hj := hg _ h
    simp only at hj ⊢
    unfold yielded
    rw [show (pre ++ [o]).toArray[j]? = pre.toArray[j]? by simp [List.getElem?_append_left hj]]
/-- All that is listed has what it waits for listed. -/
def Shut9 (ops : Array Oper) (listed : Array Bool) : Prop := ∀ j o, ops[j]? = some o → listed.getD j false = true → ∀ e ∈ o.after, Region.binds .any e = true → listed.getD e.on false = true
theorem all_listed {ops : Array Oper} {n : Nat} (hk : ops.size = n + 1) (hlo : lastOk ops n = true) {listed : Array Bool} (hs : Shut9 ops listed) {o : Oper} (ho : ops[n]? = some o) (hall : ∀ e ∈ o.after, Region.binds .any e = true → listed.getD e.on false = true) : ∀ j, j < n → listed.getD j false = true := by
  have : ∀ d j, n - j = d → j < n → listed.getD j false = true := by
    intro d
    induction d using Nat.strongRecOn with
    | _ d ih2 =>
      intro j hd hj
      obtain ⟨k, ok, hjk, hki, hok', hwf⟩ := lastOk_spec hlo hj
      obtain ⟨e, he, hb, hon⟩ := waitsFor_spec hwf
      by_cases hk : k = n
      · subst hk
        rw [ho] at hok'
        injection hok' with hok'
        subst hok'
        have := hall e he hb
        rw [hon] at this
        exact this
      · have hl := ih2 (n - k) (by omega) k rfl (by omega)
        have := hs k ok hok' hl e he hb
        rw [hon] at this
        exact this
  exact fun j hj => this _ j rfl hj
theorem split_any {pre : List Oper} {o : Oper} (hok : splitOk (pre ++ [o]).toArray pre.length = true) : ∀ (fuel : Nat) (listed : Array Bool) (a : Act) (w : World), listed.size = pre.length → Shut9 (pre ++ [o]).toArray (listed.push false) →
    wpAny P .any pre.toArray (thenLast P (pre ++ [o]).toArray pre.length Q) fuel listed a w → wpAny P .any (pre ++ [o]).toArray Q (fuel + 1) (listed.push false) a w := by
  obtain ⟨hsz, hlo, hb⟩ := splitOk_spec hok
  have hon : (pre ++ [o]).toArray[pre.length]? = some o := by simp
  have key : ∀ (fuel : Nat) (listed : Array Bool) (a : Act) (w : World), listed.size = pre.length → Shut9 (pre ++ [o]).toArray (listed.push false) → (Region.ready .any pre.toArray listed = [] → thenLast P (pre ++ [o]).toArray pre.length Q .normal a w) →
      (∀ i ∈ Region.ready .any pre.toArray listed, wpOp P (pre ++ [o]).toArray Q i (wpAny P .any (pre ++ [o]).toArray Q fuel ((listed.setIfInBounds i true).push false)) a w) → wpAny P .any (pre ++ [o]).toArray Q (fuel + 1) (listed.push false) a w := by
    intro fuel listed a w hs hsh h1 h2
    refine ⟨fun hr => ?_, fun i hi => ?_⟩
    · exfalso
      have hall : ∀ i, i < pre.length + 1 → (listed.push false).getD i false = true := by
        intro i
        induction i using Nat.strongRecOn with
        | _ i ih2 =>
          intro hi
          cases hl : (listed.push false).getD i false with
          | true => rfl
          | false =>
            exfalso
            have ho : (pre ++ [o]).toArray[i]? = some ((pre ++ [o]).toArray[i]'(by rw [hsz]; omega)) := Array.getElem?_eq_getElem (by rw [hsz]; omega)
            have hready : i ∈ Region.ready .any (pre ++ [o]).toArray (listed.push false) := by
              refine mem_ready.2 ⟨?_, _, ho, fun e he hbb => ?_⟩
              · have his : i < (listed.push false).size := by simp; omega
                simp only [Array.getD, his, dite_true] at hl ⊢
                exact hl
              · have hlt := (hb i _ ho).back e he hbb
                exact ih2 _ hlt (by omega)
            rw [hr] at hready
            cases hready
      have := hall pre.length (by omega)
      rw [← hs] at this
      simp at this
    · obtain ⟨h0, o', ho', hall⟩ := mem_ready.1 hi
      have hil : i < pre.length + 1 := by have := (Array.getElem?_eq_some_iff.1 ho').1; rw [hsz] at this; exact this
      by_cases hin : i = pre.length
      · subst hin
        rw [hon] at ho'
        injection ho' with ho'
        subst ho'
        have hl := all_listed hsz hlo hsh hon hall
        have hr : Region.ready .any pre.toArray listed = [] := by
          cases hc : Region.ready .any pre.toArray listed with
          | nil => rfl
          | cons k rest =>
            exfalso
            have hk : k ∈ Region.ready .any pre.toArray listed := by rw [hc]; exact List.mem_cons_self ..
            obtain ⟨g1, ok, hok', _⟩ := mem_ready.1 hk
            have hkl : k < pre.length := by have := (Array.getElem?_eq_some_iff.1 hok').1; simpa using this
            have g2 := hl k hkl
            have hks : k < listed.size := by omega
            simp [Array.getElem?_push, Nat.ne_of_lt hks, hks] at g1 g2
            rw [g1] at g2
            cases g2
        have h3 := h1 hr
        unfold thenLast at h3
        refine wpOp_mono (fun a' w' hq => ?_) h3
        refine wpAny_full ?_ hq
        cases hc : Region.ready .any (pre ++ [o]).toArray ((listed.push false).setIfInBounds pre.length true) with
        | nil => rfl
        | cons k rest =>
          exfalso
          have hk : k ∈ Region.ready .any (pre ++ [o]).toArray ((listed.push false).setIfInBounds pre.length true) := by rw [hc]; exact List.mem_cons_self ..
          obtain ⟨g1, ok, hok', _⟩ := mem_ready.1 hk
          have hkl : k < pre.length + 1 := by have := (Array.getElem?_eq_some_iff.1 hok').1; rw [hsz] at this; exact this
          by_cases hkn : k = pre.length
          · subst hkn
            have : pre.length < (listed.push false).size := by simp; omega
            simp at g1
          · rw [getD_set_ne true (fun h => hkn h.symm)] at g1
            have g2 := hl k (by omega)
            have hks : k < listed.size := by omega
            simp [Array.getElem?_push, Nat.ne_of_lt hks, hks] at g1 g2
            rw [g1] at g2
            cases g2
      · have hip : i < pre.length := by omega
        have := h2 i ((ready_pre hs hip hb).1 hi)
        have e : (listed.push false).setIfInBounds i true = (listed.setIfInBounds i true).push false := by
          apply Array.ext_getElem?
          intro k
          simp only [Array.getElem?_setIfInBounds, Array.getElem?_push, Array.size_push, Array.size_setIfInBounds]
          by_cases e1 : i = k
          · subst e1
            have h1 : i < listed.size := by omega
            simp [h1, Nat.ne_of_lt h1, Nat.lt_succ_of_lt h1]
          · by_cases e2 : k = listed.size
            · have h1 : ¬ i = listed.size := by omega
              simp [e2, h1]
            · simp [e1, e2]
        rw [e]
        exact this
  intro fuel
  induction fuel with
  | zero =>
    intro listed a w hs hsh h
    refine key 0 listed a w hs hsh (fun _ => h.2) (fun i hi => ?_)
    rw [h.1] at hi
    cases hi
  | succ fuel ih =>
    intro listed a w hs hsh h
    refine key (fuel + 1) listed a w hs hsh h.1 (fun i hi => ?_)
    have h2 := h.2 i hi
    obtain ⟨g1, o', ho', hall⟩ := mem_ready.1 hi
    have hip : i < pre.length := by have := (Array.getElem?_eq_some_iff.1 ho').1; simpa using this
    have ho2 : (pre ++ [o]).toArray[i]? = some o' := by simp [List.getElem?_append_left hip]; simpa using ho'
    have hsh2 : Shut9 (pre ++ [o]).toArray ((listed.setIfInBounds i true).push false) := by
      intro j oj hoj hj e he hbb
      have hup : ∀ k, k < pre.length → (listed.push false).getD k false = true → ((listed.setIfInBounds i true).push false).getD k false = true := fun k hk hl => by
        have h1 : k < listed.size := by omega
        simp [Array.getElem?_push, Nat.ne_of_lt h1] at hl ⊢
        rw [Array.getElem?_setIfInBounds]
        by_cases e1 : i = k
        · simp [e1, h1]
        · simp [e1, hl]
      have hjl : j < pre.length := by
        by_cases h1 : j < pre.length
        · exact h1
        · exfalso
          have h2 := (Array.getElem?_eq_some_iff.1 hoj).1
          rw [hsz] at h2
          have h3 : j = listed.size := by omega
          have h4 : ((listed.setIfInBounds i true).push false)[j]? = some false := by rw [Array.getElem?_push, if_pos (by simp; exact h3)]
          rw [Array.getD_eq_getD_getElem?, h4] at hj
          cases hj
      have hlt := (hb j oj hoj).back e he hbb
      by_cases hji : j = i
      · subst hji
        rw [ho2] at hoj
        injection hoj with hoj
        subst hoj
        refine hup _ (by omega) ?_
        have := hall e he hbb
        have h1 : e.on < listed.size := by omega
        simp [Array.getElem?_push, Nat.ne_of_lt h1] at this ⊢
        exact this
      · refine hup _ (by omega) (hsh j oj hoj ?_ e he hbb)
        have h1 : j < listed.size := by omega
        simp [Array.getElem?_push, Nat.ne_of_lt h1, Array.getElem?_setIfInBounds] at hj ⊢
        rw [if_neg (fun h : i = j => hji h.symm)] at hj
        exact hj
    have h3 : wpOp P (pre ++ [o]).toArray Q i (wpAny P .any pre.toArray (thenLast P (pre ++ [o]).toArray pre.length Q) fuel (listed.setIfInBounds i true)) a w := by
      unfold wpOp at h2 ⊢
      rw [ho'] at h2
      rw [ho2]
      simp only at h2 ⊢
      rw [wanted_pre (hb i o' ho2).guard]
      split
      · rename_i hw
        rw [if_pos hw] at h2
        exact h2.imp wp_thenLast (fun g => ⟨g.1, letsOut_thenLast g.2⟩)
      · rename_i hw
        rw [if_neg hw] at h2
        exact h2
    exact wpOp_mono (fun a' w' hq => ih _ a' w' (by simpa using hs) hsh2 hq) h3
/-- The law: what is shown of the operations but the last (as a region of their own, by any law that comes to wpAny), and of the last one behind them. -/
theorem wp_region_split {id : Nat} {pre : List Oper} {o : Oper} {a : Act} {w : World} (hm : P.follows .mixedOrders = true) (hok : splitOk (pre ++ [o]).toArray pre.length = true)
    (h : wpAny P .any pre.toArray (thenLast P (pre ++ [o]).toArray pre.length Q) pre.length (Array.replicate pre.length false) a w.drew) : (Code.region id (pre ++ [o]).toArray true).wp P Q a w := by
  refine wp_region_any hm ?_
  have h1 := split_any hok pre.length (Array.replicate pre.length false) a w.drew (by simp) (fun j oj hoj hj => by
    exfalso
    rw [Array.getD_eq_getD_getElem?, Array.getElem?_push] at hj
    split at hj
    · cases hj
    · rw [Array.getElem?_replicate] at hj
      split at hj <;> cases hj) h
  have e : (Array.replicate pre.length false).push false = Array.replicate (pre ++ [o]).toArray.size false := by
    apply Array.ext_getElem?
    intro k
    simp only [Array.getElem?_push, Array.getElem?_replicate, Array.size_replicate, List.size_toArray, List.length_append, List.length_singleton]
    by_cases e1 : k = pre.length
    · simp [e1]
    · by_cases e2 : k < pre.length
      · simp [e1, e2, Nat.lt_succ_of_lt e2]
      · simp [e1, e2, show ¬ k < pre.length + 1 by omega]
  rw [e] at h1
  simpa using h1
/-- .. and the operations but the last by TxA's law. -/
theorem wp_region_txtl {id : Nat} {pre : List Oper} {o : Oper} {a : Act} {w : World} (I : World → Prop) (acts π : List Nat) (hm : P.follows .mixedOrders = true) (hok : (splitOk (pre ++ [o]).toArray pre.length && txtOk pre.toArray (fun i => acts.contains i) π) = true) (hI : I w.drew)
    (h : Txt P pre.toArray (thenLast P (pre ++ [o]).toArray pre.length Q) I (fun i => acts.contains i) π a w.drew) : (Code.region id (pre ++ [o]).toArray true).wp P Q a w := by
  rw [Bool.and_eq_true] at hok
  refine wp_region_split hm hok.1 ?_
  have hok := hok.2
  have hall : remT π (Array.replicate pre.length false) = π := by
    have hok' := hok
    unfold txtOk at hok'
    simp only [Bool.and_eq_true, decide_eq_true_eq] at hok'
    obtain ⟨⟨⟨⟨_, hltb⟩, _⟩, _⟩, _⟩ := hok'
    refine List.filter_eq_self.2 (fun j hj => ?_)
    have : j < pre.toArray.size := by simpa using List.all_eq_true.1 hltb j hj
    simp at this
    simp [this]
  refine txt_any hok _ _ a _ (by simp) ?_ (fun i o ho hi => ?_) (by rw [hall]; exact h) hI
  · rw [hall]
    unfold txtOk at hok
    simp only [Bool.and_eq_true, decide_eq_true_eq] at hok
    have := Nat.le_of_eq hok.1.1.1.1.1
    simpa using this
  · exfalso
    have hlt := (Array.getElem?_eq_some_iff.1 ho).1
    simp at hlt
    simp [hlt] at hi
/-- The last one, its values known. -/
theorem thenLast_does {pre : List Oper} {o : Oper} {a : Act} {w : World} (hw : Region.wanted o (yielded (pre ++ [o]).toArray a.tmps) = true)
    (h : ∀ K : Act → World → Prop, Shut (∀ a' w', Q .normal a' w' → K a' w') → Oper.wp P o a w K Q) : thenLast P (pre ++ [o]).toArray pre.length Q .normal a w := by
  unfold thenLast wpOp
  have : (pre ++ [o]).toArray[pre.length]? = some o := by simp
  rw [this]
  simp only
  rw [if_pos hw]
  exact .inl (h _ (fun a' w' g => g))
end
end Go.Proofs.Ytnnanlniffjnkaa

/- TxD's law, for a list of operations whose last one is told by its number. -/
namespace Go.Proofs.Ytnnanlniffjnkaa
open Go.RowKit
set_option linter.unusedVariables false

section
variable {P : Program} {Q : Exit → Act → World → Prop}
theorem take_snoc {l : List Oper} {n : Nat} {o : Oper} (hn : l.length = n + 1) (ho : l[n]? = some o) : l.take n ++ [o] = l := by
  have h1 : n < l.length := by omega
  have h2 : l[n] = o := by rw [List.getElem?_eq_getElem h1] at ho; injection ho
  rw [← h2, List.take_append_getElem h1, List.take_of_length_le (by omega)]
theorem wp_region_txtn {id : Nat} {l : List Oper} {a : Act} {w : World} (I : World → Prop) (acts π : List Nat) (n : Nat) (hn : l.length = n + 1) (hm : P.follows .mixedOrders = true) (hok : (splitOk l.toArray n && txtOk (l.take n).toArray (fun i => acts.contains i) π) = true) (hI : I w.drew)
    (h : Txt P (l.take n).toArray (thenLast P l.toArray n Q) I (fun i => acts.contains i) π a w.drew) : (Code.region id l.toArray true).wp P Q a w := by
  have h1 : n < l.length := by omega
  have e := take_snoc hn (List.getElem?_eq_getElem h1)
  have e2 : (l.take n).length = n := by rw [List.length_take]; omega
  have := wp_region_txtl (P := P) (Q := Q) (id := id) (pre := l.take n) (o := l[n]) (a := a) (w := w) I acts π hm (by rw [e, e2]; exact hok) hI (by rw [e, e2]; exact h)
  rwa [e] at this
theorem thenLast_n {l : List Oper} {n : Nat} {o : Oper} {a : Act} {w : World} (hn : l.length = n + 1) (ho : l[n]? = some o) (hw : Region.wanted o (yielded l.toArray a.tmps) = true)
    (h : ∀ K : Act → World → Prop, Shut (∀ a' w', Q .normal a' w' → K a' w') → Oper.wp P o a w K Q) : thenLast P l.toArray n Q .normal a w := by
  have e := take_snoc hn ho
  have e2 : (l.take n).length = n := by rw [List.length_take]; omega
  have := thenLast_does (P := P) (Q := Q) (pre := l.take n) (o := o) (a := a) (w := w) (by rw [e]; exact hw) h
  rwa [e, e2] at this
end
end Go.Proofs.Ytnnanlniffjnkaa

/- A loop over an iterator that writes cells of its own between the rounds: G says what it does there. -/
namespace Go.Proofs.Ytnnanlniffjnkaa
open Go.RowKit
set_option linter.unusedVariables false

section
variable {F : Fence} {n : Nat} {P : Program} {α : Type}

/-- An iterator whose caller's facts stay through G. -/
def Iter (F : Fence) (n : Nat) (P : Program) (g : Nat) (lb : Array Value) (encs : α → Array Value) (G Kp : World → World → Prop) (S Sp : List α → Prop) (N : Nat) (w : World) : Prop :=
  ∀ (l : Nat) (J Jx : List α → World → Prop) (W : World), Below w.heap.size w W → (∀ s A B, J s A → G A B → J s B) → (∀ s A B, Jx s A → G A B → Jx s B) →
    (∀ pre x W1, J pre W1 → pre.length < N → YieldAt F (n - 1) P l (encs x) W1 fun e W' => (e = .returned (.bool true) ∧ J (pre ++ [x]) W' ∧ Kp W1 W') ∨ (e = .returned (.bool false) ∧ Jx (pre ++ [x]) W')) →
    J [] W → CallsIn F n P g (#[.func (.yield l) #[] #[]] ++ lb) W fun e W' => (∃ v, e = .returned v) ∧ ((∃ xs, S xs ∧ J xs W') ∨ (∃ pre, Sp pre ∧ Jx pre W'))

/-- The caller's facts: they stay through G, through new blocks, and through writes to what is no cells. -/
structure Stays (B : Nat) (G : World → World → Prop) (I : List α → World → Prop) : Prop where
  through : ∀ s A C, I s A → G A C → I s C
  put : ∀ s (A : World) (l : Nat) (o o' : Obj), I s A → B ≤ l → A.heap[l]? = some o → o.isCells = false → I s (A.putObj l o')
  more : ∀ s A o, I s A → I s (A.alloc o)

/-- The loop's own record, and the block of what its rounds put off. -/
def Rec (W : World) (l D : Nat) (r : Loop) : Prop := W.heap[l]? = some (.loop r) ∧ W.heap[D]? = some (.deferred (some []))

theorem range_over {g : Operand} {ps : Array Tmp} {assign body : Code} {Q : Exit → Act → World → Prop} {a : Act} {w : World} (hro : F.round = none) (h1 : 1 ≤ n)
    {gf : Nat} {lb : Array Value} (hg : a.eval g = .func (.func gf) #[] lb) (hFg : F.fn gf) (eg : ∀ args w, (callFunc gf args).run P w = .ok (.enter gf args) w)
    {encs : α → Array Value} (hps : ∀ x, (encs x).size = ps.size) {G Kp : World → World → Prop} {S Sp : List α → Prop} {N : Nat}
    (hG : ∀ (A C : World) (k : Nat) (o : Obj), G A C → A.heap[k]? = some o → o.isCells = false → C.heap[k]? = some o)
    (hKt : ∀ {A B C : World}, Kp A B → Kp B C → Kp A C) (hKb : ∀ (W : World) (l : Nat) (o o' : Obj), w.heap.size ≤ l → W.heap[l]? = some o → o.isCells = false → Kp W (W.putObj l o'))
    (hseq : Iter F (n - 1) P gf lb encs G Kp S Sp N w) (I : List α → World → Prop) (Ix : Code → List α → World → Prop) (hI : Stays w.heap.size G I) (hX : ∀ c, Stays w.heap.size G (Ix c)) (h0 : I [] w)
    (a1 : α → Act)
    (hassign : ∀ (l : Nat) (x : α) (W : World) (K : Act → World → Prop), K (a1 x) W → assign.wpIn (F.inRound l) (n - 1 - 1) P (Exit.then K (fun _ _ _ => False)) { tmps := (ps.zip (encs x)).foldl (fun t (p, v) => t.setIfInBounds p v) a.tmps, defers := [] } W)
    (hbody : ∀ (l : Nat) (pre : List α) (x : α) (W : World), I pre W → pre.length < N → body.wpIn (F.inRound l) (n - 1 - 1) P (ownPostG w.heap.size Kp I Ix (pre ++ [x]) W) (a1 x) W)
    (hdone : ∀ (D : Nat) (xs : List α) (W : World), w.heap.size ≤ D → S xs → I xs W → W.heap[D]? = some (.deferred (some [])) → Q .normal { a with defers := { target := .collected D, args := #[] } :: a.defers } W)
    (hstop : ∀ (D : Nat) (c : Code) (pre : List α) (W : World), w.heap.size ≤ D → Sp pre → Ix c pre W → W.heap[D]? = some (.deferred (some [])) → c.wpIn F n P Q { a with defers := { target := .collected D, args := #[] } :: a.defers } W) :
    (Code.rangeFunc g ps assign body).wpIn F n P Q a w := by
  refine wpIn_rangeFunc fun fn hfn => ?_
  obtain ⟨D, hD⟩ : ∃ D, D = w.heap.size := ⟨_, rfl⟩
  obtain ⟨l, hl⟩ : ∃ l, l = w.heap.size + 1 := ⟨_, rfl⟩
  let rd (st : LoopState) (pe : Option Code) : Loop := { state := st, pending := pe, fn, tmps := a.tmps, params := ps, assign, body, defers := D }
  obtain ⟨W1, hW1⟩ : ∃ W1, W1 = (w.alloc (.deferred (some []))).alloc (.loop (rd .ready none)) := ⟨_, rfl⟩
  have r1 : Rec W1 l D (rd .ready none) := by
    rw [hW1]
    refine ⟨?_, ?_⟩
    · have t := heap_alloc_last (w.alloc (.deferred (some []))) (.loop (rd .ready none))
      rw [show (w.alloc (.deferred (some []))).heap.size = l by rw [hl]; simp] at t
      exact t
    · rw [hD]
      exact (heap_alloc_old _ _ (by simp)).trans (heap_alloc_last w _)
  have i1 : I [] W1 := by rw [hW1]; exact hI.more _ _ _ (hI.more _ _ _ h0)
  have b1 : Below w.heap.size w W1 := by rw [hW1]; exact ((Below.refl _ _).alloc (Nat.le_refl _) _).alloc (by simp) _
  have recG : ∀ {A C : World} {r : Loop}, Rec A l D r → G A C → Rec C l D r := fun h g => ⟨hG _ _ _ _ g h.1 rfl, hG _ _ _ _ g h.2 rfl⟩
  have hlD : ¬ D = l := by omega
  have recP : ∀ {A : World} {r r' : Loop}, Rec A l D r → Rec (A.putObj l (.loop r')) l D r' := fun h => ⟨World.putObj_heap_same (Array.getElem?_eq_some_iff.1 h.1).1, (World.putObj_heap_other hlD).trans h.2⟩
  refine ⟨l, [{ target := .collected D, args := #[] }], W1, { target := .fn (.func gf) lb, args := #[.func (.yield l) #[] #[]] }, W1, gf, #[.func (.yield l) #[] #[]] ++ lb, W1, ?_, ?_, ?_, ?_, fun _ => h1, ?_⟩
  · rw [hro, hW1]
    have t := run_enterLoop_outer (P := P) (w := w) fn a.tmps ps assign body
    rw [← hl, ← hD] at t
    exact t
  · simp only [resolve, hg]
    simp [go_sem]
  · intro f' hf'
    simp [Target.leads] at hf'
    rw [← hf']
    exact hFg
  · simp [invoke, go_sem, eg]
  refine (hseq l (fun pre W => I pre W ∧ Rec W l D (rd .ready none)) (fun pre W => ∃ c, Ix c pre W ∧ Rec W l D (rd .done (some c))) W1 b1 (fun s A C h g => ⟨hI.through s A C h.1 g, recG h.2 g⟩) (fun s A C h g => h.elim fun c hc => ⟨c, (hX c).through s A C hc.1 g, recG hc.2 g⟩) ?_ ⟨i1, r1⟩).mono ?_
  · rintro pre x W ⟨hi, hr⟩ hlen
    refine ⟨fn, _, assign, body, run_yield hr.1 (hps x), roundIn_of_wpIn hfn (hassign l x W _ ⟨_, run_beginRound hr.1 rfl, ?_⟩)⟩
    have hr2 : Rec (W.putObj l (.loop { rd .ready none with state := .busy })) l D (rd .busy none) := recP hr
    have hk2 : Kp W (W.putObj l (.loop { rd .ready none with state := .busy })) := hKb _ _ _ _ (by omega) hr.1 rfl
    refine wpIn_mono (hbody l pre x _ (hI.put _ _ _ _ _ hi (by omega) hr.1 rfl) hlen) ?_
    generalize W.putObj l (.loop { rd .ready none with state := .busy }) = W2 at *
    intro e a3 W3 hp
    have out : ∀ (j : Option Code), KeepsFrom w.heap.size W2 W3 → Rec W3 l D (rd .busy none) ∧ (Instr.endRound l j).run P W3 = .ok (.bool j.isNone) (W3.putObj l (.loop (rd (if j.isNone then .ready else .done) j))) := fun j hk => by
      have hr3 : Rec W3 l D (rd .busy none) := ⟨hk.same _ _ (by omega) hr2.1 rfl, hk.same _ _ (by omega) hr2.2 rfl⟩
      exact ⟨hr3, run_endRound j hr3.1⟩
    cases e with
    | normal =>
      obtain ⟨hr3, he⟩ := out none hp.1
      exact ⟨_, _, he, .inl ⟨rfl, ⟨hI.put _ _ _ _ _ hp.2.2 (by omega) hr3.1 rfl, recP hr3⟩, hKt hk2 (hKt hp.2.1 (hKb _ _ _ _ (by omega) hr3.1 rfl))⟩⟩
    | ret =>
      obtain ⟨hr3, he⟩ := out (some .ret) hp.1
      exact ⟨_, _, he, .inr ⟨rfl, .ret, (hX _).put _ _ _ _ _ hp.2 (by omega) hr3.1 rfl, recP hr3⟩⟩
    | exit id =>
      obtain ⟨hr3, he⟩ := out (some (.exit id)) hp.1
      exact ⟨_, _, he, .inr ⟨rfl, .exit id, (hX _).put _ _ _ _ _ hp.2 (by omega) hr3.1 rfl, recP hr3⟩⟩
    | goto t =>
      obtain ⟨hr3, he⟩ := out (some (.goto t)) hp.1
      exact ⟨_, _, he, .inr ⟨rfl, .goto t, (hX _).put _ _ _ _ _ hp.2 (by omega) hr3.1 rfl, recP hr3⟩⟩
    | panic ch => exact hp.elim
    | outgrown => exact hp.elim
  · rintro e W2 ⟨⟨v, rfl⟩, (⟨xs, hS, hi, hr⟩ | ⟨pre, hSp, c, hi, hr⟩)⟩
    · exact ⟨none, _, run_endLoop hr.1 (by simp [rd]), hdone D xs _ (by omega) hS (hI.put _ _ _ _ _ hi (by omega) hr.1 rfl) ((World.putObj_heap_other hlD).trans hr.2)⟩
    · exact ⟨some c, _, run_endLoop hr.1 (by simp [rd]), hstop D c pre _ (by omega) hSp ((hX c).put _ _ _ _ _ hi (by omega) hr.1 rfl) ((World.putObj_heap_other hlD).trans hr.2)⟩
end
end Go.Proofs.Ytnnanlniffjnkaa

/- A loop over an iterator that tells of memory what it hands out (E), and where it ends (S): RgA's law, with both of them of the world too; the iterator may be a bound method (fb). -/
namespace Go.Proofs.Ytnnanlniffjnkaa
open Go.RowKit
set_option linter.unusedVariables false

section
variable {F : Fence} {n : Nat} {P : Program} {α : Type}

/-- An iterator whose caller's facts stay through G. -/
def IterW (F : Fence) (n : Nat) (P : Program) (g : Nat) (lb : Array Value) (encs : α → Array Value) (G Kp : World → World → Prop) (E : List α → α → World → Prop) (S Sp : List α → World → Prop) (fb : Array Value) (w : World) : Prop :=
  ∀ (l : Nat) (J Jx : List α → World → Prop) (W : World), Below w.heap.size w W → (∀ s A B, J s A → G A B → J s B) → (∀ s A B, Jx s A → G A B → Jx s B) →
    (∀ pre x W1, J pre W1 → E pre x W1 → YieldAt F (n - 1) P l (encs x) W1 fun e W' => (e = .returned (.bool true) ∧ J (pre ++ [x]) W' ∧ Kp W1 W') ∨ (e = .returned (.bool false) ∧ Jx (pre ++ [x]) W')) →
    J [] W → CallsIn F n P g (fb ++ #[.func (.yield l) #[] #[]] ++ lb) W fun e W' => (∃ v, e = .returned v) ∧ ((∃ xs, S xs W' ∧ J xs W') ∨ (∃ pre, Sp pre W' ∧ Jx pre W'))

/-- What stays when the loop's own record is written. -/
def Put0 (B : Nat) (I : World → Prop) : Prop := ∀ (A : World) (l : Nat) (o o' : Obj), I A → B ≤ l → A.heap[l]? = some o → o.isCells = false → I (A.putObj l o')
theorem range_overW {g : Operand} {ps : Array Tmp} {assign body : Code} {Q : Exit → Act → World → Prop} {a : Act} {w : World} (hro : F.round = none) (h1 : 1 ≤ n)
    {gf : Nat} {fb lb : Array Value} (hg : a.eval g = .func (.func gf) fb lb) (hFg : F.fn gf) (eg : ∀ args w, (callFunc gf args).run P w = .ok (.enter gf args) w)
    {encs : α → Array Value} (hps : ∀ x, (encs x).size = ps.size) {G Kp : World → World → Prop} {E : List α → α → World → Prop} {S Sp : List α → World → Prop}
    (hE : ∀ pre x, Put0 w.heap.size (E pre x)) (hS : ∀ xs, Put0 w.heap.size (S xs)) (hSp : ∀ xs, Put0 w.heap.size (Sp xs))
    (hG : ∀ (A C : World) (k : Nat) (o : Obj), G A C → A.heap[k]? = some o → o.isCells = false → C.heap[k]? = some o)
    (hKt : ∀ {A B C : World}, Kp A B → Kp B C → Kp A C) (hKb : ∀ (W : World) (l : Nat) (o o' : Obj), w.heap.size ≤ l → W.heap[l]? = some o → o.isCells = false → Kp W (W.putObj l o'))
    (hseq : IterW F (n - 1) P gf lb encs G Kp E S Sp fb w) (I : List α → World → Prop) (Ix : Code → List α → World → Prop) (hI : Stays w.heap.size G I) (hX : ∀ c, Stays w.heap.size G (Ix c)) (h0 : I [] w)
    (C : α → Nat → Act → World → Prop) (hC : ∀ x k a1, Put0 w.heap.size (C x k a1)) (hIb : ∀ pre W W1, I pre W → Below W.heap.size W W1 → I pre W1) (hEb : ∀ pre x W W1, E pre x W → Below W.heap.size W W1 → E pre x W1) (hKa : ∀ W W1, Below W.heap.size W W1 → Kp W W1)
    (hassign : ∀ (l : Nat) (x : α) (W : World) (K : Act → World → Prop), (∀ a1 W1, Below W.heap.size W W1 → C x W.heap.size a1 W1 → K a1 W1) → assign.wpIn (F.inRound l) (n - 1 - 1) P (Exit.then K (fun _ _ _ => False)) { tmps := (ps.zip (encs x)).foldl (fun t (p, v) => t.setIfInBounds p v) a.tmps, defers := [] } W)
    (hbody : ∀ (l : Nat) (pre : List α) (x : α) (W0 W : World) (a1 : Act), I pre W0 → (∀ (i : Nat) (o : Obj), W0.heap[i]? = some o → o.isCells = true → W.heap[i]? = some o) → I pre W → E pre x W → C x W0.heap.size a1 W → body.wpIn (F.inRound l) (n - 1 - 1) P (ownPostG w.heap.size Kp I Ix (pre ++ [x]) W) a1 W)
    (hdone : ∀ (D : Nat) (xs : List α) (W : World), w.heap.size ≤ D → S xs W → I xs W → W.heap[D]? = some (.deferred (some [])) → Q .normal { a with defers := { target := .collected D, args := #[] } :: a.defers } W)
    (hstop : ∀ (D : Nat) (c : Code) (pre : List α) (W : World), w.heap.size ≤ D → Sp pre W → Ix c pre W → W.heap[D]? = some (.deferred (some [])) → c.wpIn F n P Q { a with defers := { target := .collected D, args := #[] } :: a.defers } W) :
    (Code.rangeFunc g ps assign body).wpIn F n P Q a w := by
  refine wpIn_rangeFunc fun fn hfn => ?_
  obtain ⟨D, hD⟩ : ∃ D, D = w.heap.size := ⟨_, rfl⟩
  obtain ⟨l, hl⟩ : ∃ l, l = w.heap.size + 1 := ⟨_, rfl⟩
  let rd (st : LoopState) (pe : Option Code) : Loop := { state := st, pending := pe, fn, tmps := a.tmps, params := ps, assign, body, defers := D }
  obtain ⟨W1, hW1⟩ : ∃ W1, W1 = (w.alloc (.deferred (some []))).alloc (.loop (rd .ready none)) := ⟨_, rfl⟩
  have r1 : Rec W1 l D (rd .ready none) := by
    rw [hW1]
    refine ⟨?_, ?_⟩
    · have t := heap_alloc_last (w.alloc (.deferred (some []))) (.loop (rd .ready none))
      rw [show (w.alloc (.deferred (some []))).heap.size = l by rw [hl]; simp] at t
      exact t
    · rw [hD]
      exact (heap_alloc_old _ _ (by simp)).trans (heap_alloc_last w _)
  have i1 : I [] W1 := by rw [hW1]; exact hI.more _ _ _ (hI.more _ _ _ h0)
  have b1 : Below w.heap.size w W1 := by rw [hW1]; exact ((Below.refl _ _).alloc (Nat.le_refl _) _).alloc (by simp) _
  have recG : ∀ {A C : World} {r : Loop}, Rec A l D r → G A C → Rec C l D r := fun h g => ⟨hG _ _ _ _ g h.1 rfl, hG _ _ _ _ g h.2 rfl⟩
  have hlD : ¬ D = l := by omega
  have recP : ∀ {A : World} {r r' : Loop}, Rec A l D r → Rec (A.putObj l (.loop r')) l D r' := fun h => ⟨World.putObj_heap_same (Array.getElem?_eq_some_iff.1 h.1).1, (World.putObj_heap_other hlD).trans h.2⟩
  refine ⟨l, [{ target := .collected D, args := #[] }], W1, { target := .fn (.func gf) lb, args := fb ++ #[.func (.yield l) #[] #[]] }, W1, gf, fb ++ #[.func (.yield l) #[] #[]] ++ lb, W1, ?_, ?_, ?_, ?_, fun _ => h1, ?_⟩
  · rw [hro, hW1]
    have t := run_enterLoop_outer (P := P) (w := w) fn a.tmps ps assign body
    rw [← hl, ← hD] at t
    exact t
  · simp only [resolve, hg]
    simp [go_sem]
  · intro f' hf'
    simp [Target.leads] at hf'
    rw [← hf']
    exact hFg
  · simp [invoke, go_sem, eg]
  refine (hseq l (fun pre W => I pre W ∧ Rec W l D (rd .ready none)) (fun pre W => ∃ c, Ix c pre W ∧ Rec W l D (rd .done (some c))) W1 b1 (fun s A C h g => ⟨hI.through s A C h.1 g, recG h.2 g⟩) (fun s A C h g => h.elim fun c hc => ⟨c, (hX c).through s A C hc.1 g, recG hc.2 g⟩) ?_ ⟨i1, r1⟩).mono ?_
  · rintro pre x W ⟨hi, hr⟩ hlen
    have keepR : ∀ W1, Below W.heap.size W W1 → Rec W1 l D (rd .ready none) := fun W1 hb => ⟨(hb.block l (lt_of_heap hr.1)).trans hr.1, (hb.block D (lt_of_heap hr.2)).trans hr.2⟩
    refine ⟨fn, _, assign, body, run_yield hr.1 (hps x), roundIn_of_wpIn hfn (hassign l x W _ fun a1 W1 hb1 hc1 => ⟨_, run_beginRound (keepR W1 hb1).1 rfl, ?_⟩)⟩
    have hr1 := keepR W1 hb1
    have hr2 : Rec (W1.putObj l (.loop { rd .ready none with state := .busy })) l D (rd .busy none) := recP hr1
    have hk2 : Kp W (W1.putObj l (.loop { rd .ready none with state := .busy })) := hKt (hKa _ _ hb1) (hKb _ _ _ _ (by omega) hr1.1 rfl)
    refine wpIn_mono (hbody l pre x W _ a1 hi (fun i o hio hc => (World.putObj_heap_other (fun e => by rw [e, hr.1] at hio; injection hio with hio; rw [← hio] at hc; cases hc)).trans ((hb1.block i (lt_of_heap hio)).trans hio)) (hI.put _ _ _ _ _ (hIb _ _ _ hi hb1) (by omega) hr1.1 rfl) (hE _ _ _ _ _ _ (hEb _ _ _ _ hlen hb1) (by omega) hr1.1 rfl) (hC _ _ _ _ _ _ _ hc1 (by omega) hr1.1 rfl)) ?_
    generalize W1.putObj l (.loop { rd .ready none with state := .busy }) = W2 at *
    intro e a3 W3 hp
    have out : ∀ (j : Option Code), KeepsFrom w.heap.size W2 W3 → Rec W3 l D (rd .busy none) ∧ (Instr.endRound l j).run P W3 = .ok (.bool j.isNone) (W3.putObj l (.loop (rd (if j.isNone then .ready else .done) j))) := fun j hk => by
      have hr3 : Rec W3 l D (rd .busy none) := ⟨hk.same _ _ (by omega) hr2.1 rfl, hk.same _ _ (by omega) hr2.2 rfl⟩
      exact ⟨hr3, run_endRound j hr3.1⟩
    cases e with
    | normal =>
      obtain ⟨hr3, he⟩ := out none hp.1
      exact ⟨_, _, he, .inl ⟨rfl, ⟨hI.put _ _ _ _ _ hp.2.2 (by omega) hr3.1 rfl, recP hr3⟩, hKt hk2 (hKt hp.2.1 (hKb _ _ _ _ (by omega) hr3.1 rfl))⟩⟩
    | ret =>
      obtain ⟨hr3, he⟩ := out (some .ret) hp.1
      exact ⟨_, _, he, .inr ⟨rfl, .ret, (hX _).put _ _ _ _ _ hp.2 (by omega) hr3.1 rfl, recP hr3⟩⟩
    | exit id =>
      obtain ⟨hr3, he⟩ := out (some (.exit id)) hp.1
      exact ⟨_, _, he, .inr ⟨rfl, .exit id, (hX _).put _ _ _ _ _ hp.2 (by omega) hr3.1 rfl, recP hr3⟩⟩
    | goto t =>
      obtain ⟨hr3, he⟩ := out (some (.goto t)) hp.1
      exact ⟨_, _, he, .inr ⟨rfl, .goto t, (hX _).put _ _ _ _ _ hp.2 (by omega) hr3.1 rfl, recP hr3⟩⟩
    | panic ch => exact hp.elim
    | outgrown => exact hp.elim
  · rintro e W2 ⟨⟨v, rfl⟩, (⟨xs, hS1, hi, hr⟩ | ⟨pre, hSp1, c, hi, hr⟩)⟩
    · exact ⟨none, _, run_endLoop hr.1 (by simp [rd]), hdone D xs _ (by omega) (hS _ _ _ _ _ hS1 (by omega) hr.1 rfl) (hI.put _ _ _ _ _ hi (by omega) hr.1 rfl) ((World.putObj_heap_other hlD).trans hr.2)⟩
    · exact ⟨some c, _, run_endLoop hr.1 (by simp [rd]), hstop D c pre _ (by omega) (hSp _ _ _ _ _ hSp1 (by omega) hr.1 rfl) ((hX c).put _ _ _ _ _ hi (by omega) hr.1 rfl) ((World.putObj_heap_other hlD).trans hr.2)⟩
end
end Go.Proofs.Ytnnanlniffjnkaa

/- TxE's law in a round of a loop over an iterator. -/
namespace Go.Proofs.Ytnnanlniffjnkaa
open Go.RowKit
set_option linter.unusedVariables false

def noDefers (ops : Array Oper) : Bool := ops.all fun o => match o.op with | .defer _ => false | _ => true
theorem rowsIn_round {l n : Nat} {P : Program} {row : String} {args : Array Value} {w : World} {R : Value → World → Prop} (h : Rows P row args w R) : RowsIn (Fence.wide.inRound l) n P row args w R :=
  fun c cs _ => let ⟨v, w', r, s⟩ := h c cs; ⟨v, w', r, stepsIn_wide.2 s⟩
theorem any_round {l n : Nat} {P : Program} {ops : Array Oper} {Q : Exit → Act → World → Prop} (hnd : noDefers ops = true) (hQ : ¬ LetsOut Q) : ∀ (fuel : Nat) (listed : Array Bool) (a : Act) (w : World), wpAny P .any ops Q fuel listed a w → wpAnyIn (Fence.wide.inRound l) n P .any ops Q fuel listed a w
  | 0, listed, a, w, h => h
  | fuel + 1, listed, a, w, h => by
    refine ⟨h.1, fun i hi => ?_⟩
    have h1 := h.2 i hi
    unfold wpOp at h1
    unfold wpOpIn
    cases ho : ops[i]? with
    | none =>
      rw [ho] at h1
      exact any_round hnd hQ fuel _ _ _ h1
    | some o =>
      rw [ho] at h1
      simp only at h1 ⊢
      have hd : ∀ c, o.op ≠ .defer c := fun c e => by
        unfold noDefers at hnd
        rw [Array.all_eq_true] at hnd
        obtain ⟨hlt, he⟩ := Array.getElem?_eq_some_iff.1 ho
        have := hnd i hlt
        rw [he, e] at this
        cases this
      split
      · rename_i hw
        rw [if_pos hw] at h1
        rcases h1 with h2 | h2
        · refine ⟨fun _ _ => trivial, ?_⟩
          rw [Oper.semAt_eq _ _ _ hd]
          unfold Oper.wp at h2
          generalize (execOp a.eval o).run P w = r at *
          cases r with
          | ok nx w' =>
            cases nx <;> simp only [Oper.upon, Oper.uponIn] at h2 ⊢
            case value x => exact any_round hnd hQ fuel _ _ _ h2
            case skip => exact any_round hnd hQ fuel _ _ _ h2
            case defer x => exact any_round hnd hQ fuel _ _ _ h2
            case enter f args =>
              refine ⟨fun h => (by cases h), CallsIn.inRound l (callsIn_wide.2 (Calls.mono h2 fun e w'' he => ?_))⟩
              cases e with
              | returned x => exact any_round hnd hQ fuel _ _ _ he
              | panicked c => exact he
              | outgrown => exact he
            case row row args => exact ⟨fun h => (by cases h), rowsIn_round (Rows.mono h2 fun x w'' he => any_round hnd hQ fuel _ _ _ he)⟩
          | halt x w' => cases x <;> first | exact h2 | exact h2.elim
        · exact absurd h2.2 hQ
      · rename_i hw
        rw [if_neg hw] at h1
        exact ⟨fun _ _ => trivial, any_round hnd hQ fuel _ _ _ h1⟩
section
variable {P : Program} {Q : Exit → Act → World → Prop}
theorem any_split {pre : List Oper} {o : Oper} {a : Act} {w : World} (hok : splitOk (pre ++ [o]).toArray pre.length = true)
    (h : wpAny P .any pre.toArray (thenLast P (pre ++ [o]).toArray pre.length Q) pre.length (Array.replicate pre.length false) a w) : wpAny P .any (pre ++ [o]).toArray Q (pre ++ [o]).toArray.size (Array.replicate (pre ++ [o]).toArray.size false) a w := by
  have h1 := split_any hok pre.length (Array.replicate pre.length false) a w (by simp) (fun j oj hoj hj => by
    exfalso
    rw [Array.getD_eq_getD_getElem?, Array.getElem?_push] at hj
    split at hj
    · cases hj
    · rw [Array.getElem?_replicate] at hj
      split at hj <;> cases hj) h
  have e : (Array.replicate pre.length false).push false = Array.replicate (pre ++ [o]).toArray.size false := by
    apply Array.ext_getElem?
    intro k
    simp only [Array.getElem?_push, Array.getElem?_replicate, Array.size_replicate, List.size_toArray, List.length_append, List.length_singleton]
    by_cases e1 : k = pre.length
    · simp [e1]
    · by_cases e2 : k < pre.length
      · simp [e1, e2, Nat.lt_succ_of_lt e2]
      · simp [e1, e2, show ¬ k < pre.length + 1 by omega]
  rw [e] at h1
  simpa using h1
theorem any_txtl {pre : List Oper} {o : Oper} {a : Act} {w : World} (I : World → Prop) (acts π : List Nat) (hok : (splitOk (pre ++ [o]).toArray pre.length && txtOk pre.toArray (fun i => acts.contains i) π) = true) (hI : I w)
    (h : Txt P pre.toArray (thenLast P (pre ++ [o]).toArray pre.length Q) I (fun i => acts.contains i) π a w) : wpAny P .any (pre ++ [o]).toArray Q (pre ++ [o]).toArray.size (Array.replicate (pre ++ [o]).toArray.size false) a w := by
  rw [Bool.and_eq_true] at hok
  refine any_split hok.1 ?_
  have hok := hok.2
  have hall : remT π (Array.replicate pre.length false) = π := by
    have hok' := hok
    unfold txtOk at hok'
    simp only [Bool.and_eq_true, decide_eq_true_eq] at hok'
    obtain ⟨⟨⟨⟨_, hltb⟩, _⟩, _⟩, _⟩ := hok'
    refine List.filter_eq_self.2 (fun j hj => ?_)
    have : j < pre.toArray.size := by simpa using List.all_eq_true.1 hltb j hj
    simp at this
    simp [this]
  refine txt_any hok _ _ a _ (by simp) ?_ (fun i o ho hi => ?_) (by rw [hall]; exact h) hI
  · rw [hall]
    unfold txtOk at hok
    simp only [Bool.and_eq_true, decide_eq_true_eq] at hok
    have := Nat.le_of_eq hok.1.1.1.1.1
    simpa using this
  · exfalso
    have hlt := (Array.getElem?_eq_some_iff.1 ho).1
    simp at hlt
    simp [hlt] at hi
theorem wpIn_region_txtn {lp m id : Nat} {l : List Oper} {a : Act} {w : World} (I : World → Prop) (acts π : List Nat) (n : Nat) (hn : l.length = n + 1) (hm : P.follows .mixedOrders = true) (hQ : ¬ LetsOut Q) (hok : (noDefers l.toArray && (splitOk l.toArray n && txtOk (l.take n).toArray (fun i => acts.contains i) π)) = true) (hI : I w.drew)
    (h : Txt P (l.take n).toArray (thenLast P l.toArray n Q) I (fun i => acts.contains i) π a w.drew) : (Code.region id l.toArray true).wpIn (Fence.wide.inRound lp) m P Q a w := by
  rw [Bool.and_eq_true] at hok
  refine wpIn_region_any hm (any_round hok.1 hQ _ _ _ _ ?_)
  have h1 : n < l.length := by omega
  have e := take_snoc hn (List.getElem?_eq_getElem h1)
  have e2 : (l.take n).length = n := by rw [List.length_take]; omega
  have := any_txtl (P := P) (Q := Q) (pre := l.take n) (o := l[n]) (a := a) (w := w.drew) I acts π (by rw [e, e2]; exact hok.2) hI (by rw [e, e2]; exact h)
  rwa [e] at this
end
end Go.Proofs.Ytnnanlniffjnkaa
