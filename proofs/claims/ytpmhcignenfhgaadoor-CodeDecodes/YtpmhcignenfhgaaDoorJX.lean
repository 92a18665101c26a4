/- Joined: TxB CgQ CgS CgR CgT. -/
import Derived.Test.YtpmhcignenfhgaaDoorJB
import Derived.Test.YtpmhcignenfhgaaDoorJW
import Derived.Test.YtpmhcignenfhgaaDoorJCeF
import Derived.Test.YtpmhcignenfhgaaDoorJCeE

/- Regions that draw their order, walked once, whatever the order: each operation yields a value of which a predicate of value and world holds that stays while the world goes on (allocs may float beside calls; a slot may be looked at by an operation ahead of the one that writes it). -/
namespace Go.Proofs.YtpmhcignenfhgaaDoor
open Go.RowKit
set_option linter.unusedVariables false

section
variable {P : Program} {ops : Array Oper} {Q : Exit → Act → World → Prop} {G : World → World → Prop} {R : Nat → Value → World → Prop}

/-- In act a and world w, o leaves a value of which r holds. -/
def Tells (P : Program) (ops : Array Oper) (G : World → World → Prop) (r : Value → World → Prop) (o : Oper) (a : Act) (w : World) : Prop :=
  (Region.wanted o (yielded ops a.tmps) = true ∧ ∀ K : Act → World → Prop, Shut (∀ v w', G w w' → r v w' → K (a.put o.dst v) w') → Oper.wp P o a w K (fun _ _ _ => False)) ∨
  (Region.wanted o (yielded ops a.tmps) = false ∧ r undef w)
/-- For all values of these operations. -/
def ForDeps (R : Nat → Value → World → Prop) (w : World) (K : Act → Prop) : List (Nat × Option Tmp) → Act → Prop
  | [], a => K a
  | (j, d) :: l, a => ∀ v, R j v w → ForDeps R w K l (a.put d v)
/-- What is to be shown of each operation. -/
def Obls (P : Program) (ops : Array Oper) (G : World → World → Prop) (R : Nat → Value → World → Prop) (w0 : World) (a0 : Act) : List Oper → List (List (Nat × Option Tmp)) → Nat → Prop
  | o :: l, d :: ds, i => (∀ w, G w0 w → ForDeps R w (fun a => Tells P ops G (R i) o a w) d a0) ∧ Obls P ops G R w0 a0 l ds (i + 1)
  | [], [], _ => True
  | _, _, _ => False
theorem Obls.at {w0 : World} {a0 : Act} : ∀ (l : List Oper) (ds : List (List (Nat × Option Tmp))) (k : Nat), Obls P ops G R w0 a0 l ds k → ∀ i o, l[i]? = some o → ∀ w, G w0 w → ForDeps R w (fun a => Tells P ops G (R (k + i)) o a w) (ds.getD i []) a0
  | [], _, _, _, i, o, h => by simp at h
  | o :: l, [], k, h, _, _, _ => h.elim
  | o :: l, d :: ds, k, h, i, x, hx => by
    cases i with
    | zero =>
      simp at hx
      subst hx
      exact h.1
    | succ i =>
      have := Obls.at l ds (k + 1) h.2 i x (by simpa using hx)
      rw [show k + 1 + i = k + (i + 1) by omega] at this
      simpa using this

theorem put_defers (a : Act) (d : Option Tmp) (v : Value) : (a.put d v).defers = a.defers := by cases d <;> rfl
theorem put_at (a : Act) (d : Tmp) (v : Value) (h : d < a.tmps.size) : (a.put (some d) v).tmps[d]? = some v := by simp [Act.put, h]
theorem put_off (a : Act) (d : Option Tmp) (v : Value) {t : Tmp} (h : d ≠ some t) : (a.put d v).tmps[t]? = a.tmps[t]? := by
  cases d with
  | none => rfl
  | some d =>
    show (a.tmps.setIfInBounds d _)[t]? = _
    rw [Array.getElem?_setIfInBounds_ne (fun e => h (by rw [e]))]
theorem ForDeps.at {K : Act → Prop} {w : World} (a : Act) : ∀ (l : List (Nat × Option Tmp)) (b : Act), b.tmps.size = a.tmps.size → (∀ x ∈ l, ∃ v, R x.1 v w ∧ ∀ d, x.2 = some d → a.tmps[d]? = some v) → ForDeps R w K l b →
    ∃ b', K b' ∧ b'.tmps.size = b.tmps.size ∧ b'.defers = b.defers ∧ ∀ t, ((∃ x ∈ l, x.2 = some t) ∧ b'.tmps[t]? = a.tmps[t]?) ∨ ((∀ x ∈ l, x.2 ≠ some t) ∧ b'.tmps[t]? = b.tmps[t]?)
  | [], b, _, _, h => ⟨b, h, rfl, rfl, fun t => .inr ⟨fun x hx => (by cases hx), rfl⟩⟩
  | (j, d) :: l, b, hs, hv, h => by
    obtain ⟨v, h1, h2⟩ := hv (j, d) (List.mem_cons_self ..)
    obtain ⟨b', g1, g2, g3, g4⟩ := ForDeps.at a l (b.put d v) (by rw [put_size, hs]) (fun x hx => hv x (List.mem_cons_of_mem _ hx)) (h v h1)
    refine ⟨b', g1, by rw [g2, put_size], by rw [g3, put_defers], fun t => ?_⟩
    rcases g4 t with ⟨⟨x, hx, e⟩, g5⟩ | ⟨g5, g6⟩
    · exact .inl ⟨⟨x, List.mem_cons_of_mem _ hx, e⟩, g5⟩
    · by_cases e : d = some t
      · subst e
        have h3 := h2 t rfl
        have h4 : t < a.tmps.size := (Array.getElem?_eq_some_iff.1 h3).1
        refine .inl ⟨⟨_, List.mem_cons_self .., rfl⟩, ?_⟩
        rw [g6, put_at _ _ _ (by rw [hs]; exact h4), h3]
      · refine .inr ⟨fun x hx => ?_, by rw [g6, put_off _ _ _ e]⟩
        rcases List.mem_cons.1 hx with rfl | hx
        · exact e
        · exact g5 x hx

theorem Tells.op {i : Nat} {o : Oper} {r : Value → World → Prop} {a b : Act} {w : World} (hi : ops[i]? = some o) (hd : Tells P ops G r o b w) (he : execOp a.eval o = execOp b.eval o)
    (hw : Region.wanted o (yielded ops a.tmps) = Region.wanted o (yielded ops b.tmps)) (hsz : a.tmps.size = b.tmps.size) {K : Act → World → Prop} (hg : G w w)
    (h : ∀ v w', G w w' → r v w' → K (a.put o.dst v) w') : wpOp P ops Q i K a w := by
  unfold wpOp
  simp only [hi]
  rw [hw]
  rcases hd with ⟨h1, h2⟩ | ⟨h1, h2⟩
  · rw [if_pos h1]
    refine .inl ?_
    have h3 := h2 (fun a2 w2 => ∃ v, a2 = b.put o.dst v ∧ G w w2 ∧ r v w2) (fun v w' g1 g2 => ⟨v, rfl, g1, g2⟩)
    clear h2
    unfold Oper.wp at h3 ⊢
    rw [he]
    generalize (execOp b.eval o).run P w = x at *
    cases x with
    | ok n w' =>
      cases n <;> simp only [Oper.upon] at h3 ⊢
      case value u => obtain ⟨v, e, g1, g2⟩ := h3; rw [put_same hsz e]; exact h _ _ g1 g2
      case skip => obtain ⟨v, e, g1, g2⟩ := h3; rw [put_same hsz e]; exact h _ _ g1 g2
      case defer d =>
        exfalso
        obtain ⟨v, e0, _⟩ := h3
        have e := congrArg Act.defers e0
        rw [put_defers, put_defers] at e
        have := congrArg List.length e
        simp at this
      case enter f args =>
        refine Calls.mono h3 fun e w'' he => ?_
        cases e with
        | returned u =>
          obtain ⟨v, e, g1, g2⟩ := he
          have h5 : K (a.put o.dst u) w'' := by rw [put_same hsz e]; exact h _ _ g1 g2
          exact h5
        | panicked c => exact he.elim
        | outgrown =>
          obtain ⟨_, _, hf⟩ := he
          exact hf.elim
      case row row args => exact Rows.mono h3 fun u w'' he => by obtain ⟨v, e, g1, g2⟩ := he; rw [put_same hsz e]; exact h _ _ g1 g2
    | halt x w' => cases x <;> simp only [Oper.upon] at h3
  · rw [if_neg (by rw [h1]; simp)]
    exact h _ _ hg h2

def waitsFor (o : Oper) (j : Nat) : Bool := o.after.any fun e => Region.binds .any e && e.on == j
theorem waitsFor_spec {o : Oper} {j : Nat} (h : waitsFor o j = true) : ∃ e ∈ o.after, Region.binds .any e = true ∧ e.on = j := by
  obtain ⟨q, hq, h8⟩ := Array.any_eq_true.1 h
  simp only [Bool.and_eq_true, beq_iff_eq] at h8
  exact ⟨_, Array.getElem_mem hq, h8.1, h8.2⟩
/-- What the law asks of a region's text and of the two tables. -/
def telOk (ops : Array Oper) (m : Nat) (ds : List (List (Nat × Option Tmp))) (fin : List (Nat × Option Tmp)) : Bool :=
  ((List.range ops.size).all fun i => match ops[i]? with
    | none => true
    | some o => (match o.op with | .select .. => false | _ => true) && o.after.all (fun e => !Region.binds .any e || decide (e.on < i)) && (match o.dst with | some d => decide (d < m) && fin.contains (i, some d) | none => true) &&
      ((ds.getD i []).all fun x => waitsFor o x.1 && dstAt ops x.1 == x.2) &&
      ((List.range ops.size).all fun j => match ops[j]? with
        | none => true
        | some oj => match oj.dst with
          | none => true
          | some d => (!(o.looksAt ops).contains d || (ds.getD i []).contains (j, some d) || waitsFor oj i || j == i) && (j == i || o.dst != some d))) &&
  fin.all fun x => decide (x.1 < ops.size) && dstAt ops x.1 == x.2
structure TelOp (ops : Array Oper) (m : Nat) (ds : List (List (Nat × Option Tmp))) (fin : List (Nat × Option Tmp)) (i : Nat) (o : Oper) : Prop where
  sel : ∀ cs b, o.op ≠ .select cs b
  back : ∀ e ∈ o.after, Region.binds .any e = true → e.on < i
  dst : ∀ d, o.dst = some d → d < m ∧ (i, some d) ∈ fin
  deps : ∀ x ∈ ds.getD i [], waitsFor o x.1 = true ∧ dstAt ops x.1 = x.2
  looks : ∀ j oj d, ops[j]? = some oj → oj.dst = some d → d ∈ o.looksAt ops → (j, some d) ∈ ds.getD i [] ∨ waitsFor oj i = true ∨ j = i
  apart : ∀ j oj d, ops[j]? = some oj → oj.dst = some d → j ≠ i → o.dst ≠ some d
theorem telOk_spec {m : Nat} {ds : List (List (Nat × Option Tmp))} {fin : List (Nat × Option Tmp)} (h : telOk ops m ds fin = true) {i : Nat} {o : Oper} (ho : ops[i]? = some o) : TelOp ops m ds fin i o := by
  have hi : i < ops.size := (Array.getElem?_eq_some_iff.1 ho).1
  unfold telOk at h
  rw [Bool.and_eq_true] at h
  have h1 := List.all_eq_true.1 h.1 i (List.mem_range.2 hi)
  simp only [ho, Bool.and_eq_true] at h1
  obtain ⟨⟨⟨⟨h2, h3⟩, h4⟩, h5⟩, h6⟩ := h1
  have hj : ∀ j oj d, ops[j]? = some oj → oj.dst = some d → ((!(o.looksAt ops).contains d || (ds.getD i []).contains (j, some d) || waitsFor oj i || j == i) && (j == i || o.dst != some d)) = true := fun j oj d hoj hd => by
    have hjs : j < ops.size := (Array.getElem?_eq_some_iff.1 hoj).1
    have := List.all_eq_true.1 h6 j (List.mem_range.2 hjs)
    simp only [hoj, hd] at this
    exact this
  refine ⟨fun cs b e => ?_, fun e he hb => ?_, fun d hd => ?_, fun x hx => ?_, fun j oj d hoj hd hl => ?_, fun j oj d hoj hd hne => ?_⟩
  · rw [e] at h2
    cases h2
  · have := (Array.all_eq_true_iff_forall_mem.1 h3) e he
    simpa [hb] using this
  · rw [hd] at h4
    simp only [Bool.and_eq_true, decide_eq_true_eq] at h4
    exact ⟨h4.1, List.contains_iff_mem.1 h4.2⟩
  · have := List.all_eq_true.1 h5 x hx
    simpa using this
  · have h7 := hj j oj d hoj hd
    rw [Bool.and_eq_true, List.contains_iff_mem.2 hl] at h7
    have h8 := h7.1
    simp only [Bool.not_true, Bool.false_or, Bool.or_eq_true, beq_iff_eq] at h8
    rcases h8 with (h8 | h8) | h8
    · exact .inl (List.contains_iff_mem.1 h8)
    · exact .inr (.inl h8)
    · exact .inr (.inr h8)
  · have h7 := hj j oj d hoj hd
    rw [Bool.and_eq_true] at h7
    have h8 := h7.2
    simp only [Bool.or_eq_true, beq_iff_eq, bne_iff_ne] at h8
    exact h8.resolve_left hne

structure Held9 (ops : Array Oper) (R : Nat → Value → World → Prop) (a0 : Act) (listed : Array Bool) (a : Act) (w : World) : Prop where
  defers : a.defers = a0.defers
  size : a.tmps.size = a0.tmps.size
  off : ∀ t, (∀ j, listed.getD j false = true → dstAt ops j ≠ some t) → a.tmps[t]? = a0.tmps[t]?
  on : ∀ j o, ops[j]? = some o → listed.getD j false = true → ∃ v, R j v w ∧ ∀ d, o.dst = some d → a.tmps[d]? = some v
  shut : ∀ j o, ops[j]? = some o → listed.getD j false = true → ∀ e ∈ o.after, Region.binds .any e = true → listed.getD e.on false = true

theorem tells_any {m : Nat} {ds : List (List (Nat × Option Tmp))} {fin : List (Nat × Option Tmp)} (hok : telOk ops m ds fin = true) {a0 : Act} {w0 : World} (hm : a0.tmps.size = m)
    (hrefl : ∀ w, G w w) (htrans : ∀ u v w, G u v → G v w → G u w) (hst : ∀ j v w w', R j v w → G w w' → R j v w')
    (hdo : ∀ i o, ops[i]? = some o → ∀ w, G w0 w → ForDeps R w (fun a => Tells P ops G (R i) o a w) (ds.getD i []) a0) (hfin : ∀ w, G w0 w → ForDeps R w (fun a => Q .normal a w) fin a0) :
    ∀ (fuel : Nat) (listed : Array Bool) (a : Act) (w : World), listed.size = ops.size → ((List.range ops.size).filter fun j => listed.getD j true == false).length ≤ fuel →
      G w0 w → Held9 ops R a0 listed a w → wpAny P .any ops Q fuel listed a w := by
  have hdstAt : ∀ j o, ops[j]? = some o → dstAt ops j = o.dst := fun j o ho => by unfold dstAt; rw [ho]; rfl
  have key : ∀ (listed : Array Bool) (a : Act) (w : World), listed.size = ops.size → G w0 w → Held9 ops R a0 listed a w → Region.ready .any ops listed = [] → Q .normal a w := fun listed a w hsz hg hH hr => by
    have hall : ∀ i, i < ops.size → listed.getD i false = true := by
      intro i
      induction i using Nat.strongRecOn with
      | _ i ih =>
        intro hi
        cases hl : listed.getD i false with
        | true => rfl
        | false =>
          exfalso
          have ho : ops[i]? = some ops[i] := Array.getElem?_eq_getElem hi
          have hready : i ∈ Region.ready .any ops listed := by
            refine mem_ready.2 ⟨?_, _, ho, fun e he hb => ?_⟩
            · have his : i < listed.size := by omega
              simp [his] at hl ⊢
              exact hl
            · have hlt := (telOk_spec hok ho).back e he hb
              exact ih _ hlt (by omega)
          rw [hr] at hready
          cases hready
    have hf2 : ∀ x ∈ fin, x.1 < ops.size ∧ dstAt ops x.1 = x.2 := fun x hx => by
      have h := hok
      unfold telOk at h
      rw [Bool.and_eq_true] at h
      have := List.all_eq_true.1 h.2 x hx
      simpa using this
    obtain ⟨b', g1, g2, g3, g4⟩ := ForDeps.at a fin a0 hH.size.symm (fun x hx => by
      obtain ⟨h1, h2⟩ := hf2 x hx
      have ho : ops[x.1]? = some ops[x.1] := Array.getElem?_eq_getElem h1
      obtain ⟨v, h3, h4⟩ := hH.on x.1 _ ho (hall _ h1)
      exact ⟨v, h3, fun d hd => h4 d (by rw [← hdstAt _ _ ho, h2, hd])⟩) (hfin w hg)
    have hab : b' = a := by
      obtain ⟨bt, bd⟩ := b'
      obtain ⟨at_, ad⟩ := a
      have e1 : bt = at_ := by
        refine Array.ext_getElem? fun t => ?_
        rcases g4 t with ⟨_, e⟩ | ⟨h1, e⟩
        · exact e
        · have := hH.off t (fun j hj hd => by
            have hjs : j < ops.size := by
              by_cases hlt : j < ops.size
              · exact hlt
              · have : ¬ j < listed.size := by omega
                simp [this] at hj
            have ho : ops[j]? = some ops[j] := Array.getElem?_eq_getElem hjs
            rw [hdstAt _ _ ho] at hd
            exact h1 _ ((telOk_spec hok ho).dst t hd).2 rfl)
          exact e.trans this.symm
      have e2 : bd = ad := g3.trans hH.defers.symm
      rw [e1, e2]
    rw [hab] at g1
    exact g1
  intro fuel
  induction fuel with
  | zero =>
    intro listed a w hsz hlen hg hH
    have hr : Region.ready .any ops listed = [] := by
      cases hc : Region.ready .any ops listed with
      | nil => rfl
      | cons i rest =>
        exfalso
        have hi : i ∈ Region.ready .any ops listed := by rw [hc]; exact List.mem_cons_self ..
        obtain ⟨h0, o, ho, _⟩ := mem_ready.1 hi
        have : i ∈ ((List.range ops.size).filter fun j => listed.getD j true == false) := by
          rw [List.mem_filter, List.mem_range]
          exact ⟨(Array.getElem?_eq_some_iff.1 ho).1, by rw [h0]; rfl⟩
        rw [List.eq_nil_of_length_eq_zero (Nat.le_zero.1 hlen)] at this
        cases this
    exact ⟨hr, key listed a w hsz hg hH hr⟩
  | succ fuel ih =>
    intro listed a w hsz hlen hg hH
    refine ⟨key listed a w hsz hg hH, fun i hi => ?_⟩
    obtain ⟨h0, o, ho, hall⟩ := mem_ready.1 hi
    have hin : i < ops.size := (Array.getElem?_eq_some_iff.1 ho).1
    have hT := telOk_spec hok ho
    have hil : listed.getD i false = false := by
      have : i < listed.size := by omega
      simp [this] at h0 ⊢
      exact h0
    obtain ⟨b, g1, g2, g3, g4⟩ := ForDeps.at a (ds.getD i []) a0 hH.size.symm (fun x hx => by
      obtain ⟨h1, h2⟩ := hT.deps x hx
      obtain ⟨e, he, hb, hon⟩ := waitsFor_spec h1
      have hl := hall e he hb
      rw [hon] at hl
      have hxs : x.1 < ops.size := by have := hT.back e he hb; omega
      have hox : ops[x.1]? = some ops[x.1] := Array.getElem?_eq_getElem hxs
      obtain ⟨v, h3, h4⟩ := hH.on x.1 _ hox hl
      exact ⟨v, h3, fun d hd => h4 d (by rw [← hdstAt _ _ hox, h2, hd])⟩) (hdo i o ho w hg)
    have hlook : ∀ t, t ∈ o.looksAt ops → a.tmps[t]? = b.tmps[t]? := fun t ht => by
      rcases g4 t with ⟨_, e⟩ | ⟨h1, e⟩
      · exact e.symm
      · rw [e]
        refine hH.off t (fun j hj hd => ?_)
        have hjs : j < ops.size := by
          by_cases hlt : j < ops.size
          · exact hlt
          · have : ¬ j < listed.size := by omega
            simp [this] at hj
        have hoj : ops[j]? = some ops[j] := Array.getElem?_eq_getElem hjs
        rw [hdstAt _ _ hoj] at hd
        rcases hT.looks j _ t hoj hd ht with h2 | h2 | h2
        · exact h1 _ h2 rfl
        · obtain ⟨e, he, hb, hon⟩ := waitsFor_spec h2
          have h3 := hH.shut j _ hoj hj e he hb
          rw [hon, hil] at h3
          cases h3
        · rw [h2, hil] at hj
          cases hj
    obtain ⟨he, hw⟩ := same_looks hT.sel hlook
    refine g1.op ho he hw (by rw [hH.size, g2]) (hrefl w) (fun v w' hgw hr => ?_)
    have hun : i ∈ ((List.range ops.size).filter fun j => listed.getD j true == false) := by
      rw [List.mem_filter, List.mem_range]
      exact ⟨hin, by rw [h0]; rfl⟩
    have hset : ∀ j, (listed.setIfInBounds i true).getD j false = true → j = i ∨ listed.getD j false = true := fun j hj => by
      by_cases e : j = i
      · exact .inl e
      · rw [getD_set_ne false (fun h => e h.symm)] at hj
        exact .inr hj
    refine ih (listed.setIfInBounds i true) _ w' (by simpa using hsz) ?_ (htrans _ _ _ hg hgw) ⟨by rw [put_defers, hH.defers], by rw [put_size, hH.size], fun t ht => ?_, fun j oj hoj hj => ?_, fun j oj hoj hj e he hb => ?_⟩
    · rw [un_set (by omega)]
      have : (((List.range ops.size).filter fun j => listed.getD j true == false).filter (fun j => decide (j ≠ i))).length < ((List.range ops.size).filter fun j => listed.getD j true == false).length :=
        List.length_filter_lt_length_iff_exists.2 ⟨i, hun, by simp⟩
      omega
    · have hi1 : o.dst ≠ some t := by
        rw [← hdstAt i o ho]
        exact ht i (by have : i < listed.size := by omega
                       simp [this])
      rw [put_off _ _ _ hi1]
      exact hH.off t (fun j hj => ht j (by
        by_cases e : j = i
        · rw [e, hil] at hj; cases hj
        · rw [getD_set_ne false (fun h => e h.symm)]; exact hj))
    · rcases hset j hj with rfl | hl
      · rw [ho] at hoj
        injection hoj with hoj
        subst hoj
        exact ⟨v, hr, fun d hd => by rw [hd]; exact put_at _ _ _ (by rw [hH.size, hm]; exact (hT.dst d hd).1)⟩
      · obtain ⟨u, h1, h2⟩ := hH.on j oj hoj hl
        refine ⟨u, hst _ _ _ _ h1 hgw, fun d hd => ?_⟩
        rw [put_off _ _ _ (hT.apart j oj d hoj hd (fun e => by rw [e, hil] at hl; cases hl))]
        exact h2 d hd
    · have hup : ∀ k, listed.getD k false = true → (listed.setIfInBounds i true).getD k false = true := fun k hk => by
        by_cases ek : k = i
        · rw [ek, hil] at hk; cases hk
        · rw [getD_set_ne false (fun h => ek h.symm)]; exact hk
      rcases hset j hj with rfl | hl
      · rw [ho] at hoj
        injection hoj with hoj
        subst hoj
        exact hup _ (hall e he hb)
      · exact hup _ (hH.shut j oj hoj hl e he hb)

/-- The predicate of operation j. -/
def rAt : List (Value → World → Prop) → Nat → Value → World → Prop
  | [], _ => fun _ _ => True
  | r :: _, 0 => r
  | _ :: l, j + 1 => rAt l j
theorem rAt_stays {l : List (Value → World → Prop)} (h : ∀ r ∈ l, ∀ v w w', r v w → G w w' → r v w') : ∀ j v w w', rAt l j v w → G w w' → rAt l j v w' := by
  induction l with
  | nil => intro j v w w' _ _; trivial
  | cons r l ih =>
    intro j v w w' h1 h2
    cases j with
    | zero => exact h r (List.mem_cons_self ..) v w w' h1 h2
    | succ j => exact ih (fun x hx => h x (List.mem_cons_of_mem _ hx)) j v w w' h1 h2

/-- The law. Rs: what is told of each operation's value; ds: for each operation those whose values it looks at, with their slots; fin: all slots. -/
theorem wp_region_tells {id : Nat} {l : List Oper} {a : Act} {w : World} (G : World → World → Prop) (Rs : List (Value → World → Prop)) (m : Nat) (ds : List (List (Nat × Option Tmp))) (fin : List (Nat × Option Tmp))
    (hm : P.follows .mixedOrders = true) (hok : telOk l.toArray m ds fin = true) (hsz : a.tmps.size = m) (hrefl : ∀ w, G w w) (htrans : ∀ u v w, G u v → G v w → G u w) (hst : ∀ r ∈ Rs, ∀ v w w', r v w → G w w' → r v w')
    (hdo : Obls P l.toArray G (rAt Rs) w.drew a l ds 0) (hfin : ∀ w', G w.drew w' → ForDeps (rAt Rs) w' (fun a => Q .normal a w') fin a) : (Code.region id l.toArray true).wp P Q a w := by
  refine wp_region_any hm ?_
  refine tells_any (R := rAt Rs) (w0 := w.drew) hok hsz hrefl htrans (rAt_stays hst) (fun i o ho w' hg => ?_) hfin _ _ a _ (by simp) ?_ (hrefl _) ⟨rfl, rfl, fun t _ => rfl, fun j o ho hj => ?_, fun j o ho hj => ?_⟩
  · have := Obls.at l ds 0 hdo i o (by simpa using ho) w' hg
    rwa [Nat.zero_add] at this
  · exact Nat.le_trans (List.length_filter_le ..) (by simp)
  · have hlt := (Array.getElem?_eq_some_iff.1 ho).1
    simp at hlt
    simp [hlt] at hj
  · have hlt := (Array.getElem?_eq_some_iff.1 ho).1
    simp at hlt
    simp [hlt] at hj

/-- One step: the operation is wanted, and acts. -/
theorem Tells.does {r : Value → World → Prop} {o : Oper} {a : Act} {w : World} (hw : Region.wanted o (yielded ops a.tmps) = true)
    (h : ∀ K : Act → World → Prop, Shut (∀ v w', G w w' → r v w' → K (a.put o.dst v) w') → Oper.wp P o a w K (fun _ _ _ => False)) : Tells P ops G r o a w := .inl ⟨hw, h⟩
/-- .. and only reads. -/
theorem Tells.yields {r : Value → World → Prop} {o : Oper} {a : Act} {w : World} {v : Value} (hw : Region.wanted o (yielded ops a.tmps) = true) (hg : G w w)
    (h : (execOp a.eval o).run P w = .ok (.value v) w) (hr : r v w) : Tells P ops G r o a w := .inl ⟨hw, fun K hK => by
    unfold Oper.wp
    rw [h]
    exact hK.out _ _ hg hr⟩
/-- .. its guard skips it. -/
theorem Tells.skips {r : Value → World → Prop} {o : Oper} {a : Act} {w : World} (hw : Region.wanted o (yielded ops a.tmps) = false) (hr : r undef w) : Tells P ops G r o a w := .inr ⟨hw, hr⟩

end
end Go.Proofs.YtpmhcignenfhgaaDoor

/- The walk of CodePlain. -/
namespace Go.Proofs.YtpmhcignenfhgaaDoor
open Go.RowKit
set_option linter.unusedVariables false
set_option maxRecDepth 100000

theorem ins_lit (w : World) (x : Ins) (s : Sl) : Ls 5 inc (w.alloc (.cells #[.int .i64 x.at_, .int .i64 x.op, .int .i64 x.a, .int .i64 x.b, s.v] 38)) (some ⟨w.heap.size, 0, none⟩) 1 [⟨x, s⟩] := by
  have hrow := heap_alloc_last w (.cells #[.int .i64 x.at_, .int .i64 x.op, .int .i64 x.a, .int .i64 x.b, s.v] 38)
  have ho : Orw inc 38 5 (w.alloc (.cells #[.int .i64 x.at_, .int .i64 x.op, .int .i64 x.a, .int .i64 x.b, s.v] 38)) w.heap.size (.slice (some ⟨w.heap.size, 0, none⟩) 1 1) [⟨x, s⟩] := ⟨rfl, .inr ⟨_, 1, _, rfl, Nat.le_refl _, hrow, by simp, by unfold maxLen; simp, rfl, rfl⟩⟩
  exact ho.ls rkN9
theorem plain_again (at0 op a b : Int) (cs : List Cas) : plainOA (plainOA op a).1 (plainOA op a).2 = ((plainOA op a).1, (plainOA op a).2) ∧ targP ⟨at0, (plainOA op a).1, (plainOA op a).2, b, cs⟩ = targP ⟨at0, op, a, b, cs⟩ ∧ fallsK (plainOA op a).1 = fallsK op := by
  have e := plainOA_is ⟨at0, op, a, b, cs⟩
  have h2 := plainP_twice ⟨at0, op, a, b, cs⟩
  have h3 := plainP_leads ⟨at0, op, a, b, cs⟩
  rw [e] at h2 h3
  simp only at h2 h3
  rw [plainOA_is] at h2
  simp only [Ins.mk.injEq, true_and, and_true] at h2
  refine ⟨Prod.ext h2.1 h2.2, h3.1, ?_⟩
  have := h3.2.1
  rw [← fallsK_is, ← fallsK_is] at this
  exact this
theorem targ_few (x : Ins) : (targP x).length ≤ x.cs.length + 1 := by
  unfold targP
  split
  · simp
  · split <;> simp
set_option maxHeartbeats 8000000 in
theorem cplain_walk (w : World) (hT : Tab9 w) (hS : Tab9s w) (at0 op a b : Int) (sa : Option Addr) (sn sc : Nat) (cs : List Cas) (hI : Ls 2 cac w sa sn cs) (hnil : sa = none → sn = 0 ∧ sc = 0) (hsm : sn * 16 ≤ 140737488351232) :
    Calls Tryd.prog 8 #[.agg #[.int .i64 at0, .int .i64 op, .int .i64 a, .int .i64 b, .slice sa sn sc]] w fun e w' => e = .returned (.bool true) ∧ Below w.heap.size w w' := by
  have hcl : cs.length = sn := hI.1
  obtain ⟨w0, hw0, hb0, f0⟩ : ∃ w0, w0 = w.alloc (.cells #[.int .i64 at0, .int .i64 op, .int .i64 a, .int .i64 b, .slice sa sn sc] 38) ∧ w0.heap[w.heap.size]? = some (.cells #[.int .i64 at0, .int .i64 op, .int .i64 a, .int .i64 b, .slice sa sn sc] 38 (0, 0)) ∧ Below w.heap.size w w0 := ⟨_, rfl, heap_alloc_last _ _, bA (Below.refl _ _) _⟩
  have HW := hide (works9_any w0 (hT.below f0) (hS.below f0))
  have HT := hide (And.intro hT hS)
  have HI0 := hide hI
  have HW0 := hide hw0
  have F0 := hide f0
  have HB0 := hide hb0
  have HN := hide hnil
  clear hT hS hI hw0 f0 hb0 hnil
  go_enter Tryd.func8, Tryd.ntmps8
  go_wp2_with fail
  rw [← unhide HW0]
  refine (unhide HW).mono ?_
  rintro e w1 ⟨rfl, f1⟩
  have F1 := hide ((unhide F0).trans (f1.mono (unhide F0).size))
  have hb1 : w1.heap[w.heap.size]? = some (.cells #[.int .i64 at0, .int .i64 op, .int .i64 a, .int .i64 b, .slice sa sn sc] 38 (0, 0)) := (f1.block _ (lt_of_heap (unhide HB0))).trans (unhide HB0)
  have c0 := bx_cell hb1 0 _ rfl
  have c1 := bx_cell hb1 1 _ rfl
  have c2 := bx_cell hb1 2 _ rfl
  have c3 := bx_cell hb1 3 _ rfl
  have c4 := bx_cell hb1 4 _ rfl
  have HPL := hide (hPlain_any w1 at0 op a b ⟨sa, sn, sc⟩ cs ((unhide HI0).below (unhide F1)) (unhide HN) (by simp only; omega) ((unhide HT).2.below (unhide F1)))
  unfold Sl.v at HPL
  simp only at HPL
  have HB1 := hide hb1
  clear hb1 f1 HW
  go_wp2_with fail
  refine (unhide HPL).mono ?_
  rintro e w2 ⟨⟨xa, xn, xc⟩, rfl, o2, f2⟩
  obtain ⟨ep, et, ef⟩ := plain_again at0 op a b cs
  have hxn : cs.length = xn := (o2.ls rkC).1
  generalize (plainOA op a).1 = op1 at *
  generalize (plainOA op a).2 = a1 at *
  have htl := targ_few ⟨at0, op, a, b, cs⟩
  simp only at htl
  have et0 : targP ⟨at0, op, a, b, cs⟩ = targP ⟨at0, op, a, b, cs⟩ := rfl
  have ef0 : fallsK op = fallsK op := rfl
  generalize hTT : targP ⟨at0, op, a, b, cs⟩ = T at et et0 htl
  generalize hFF : fallsK op = F at ef ef0
  have hTL : T.length ≤ 9000000000000 := by omega
  have EP := hide ep
  have ET1 := hide et
  have EF1 := hide ef
  have ET0 := hide hTT
  have EF0 := hide hFF
  have HTL := hide hTL
  clear ep et ef et0 ef0 hTT hFF hTL htl HPL
  have F2 := (unhide F1).trans (f2.mono (unhide F1).size)
  obtain ⟨w3, hw3, hb3, f3⟩ : ∃ w3, w3 = w2.alloc (.cells #[.int .i64 at0, .int .i64 op1, .int .i64 a1, .int .i64 b, .slice xa xn xc] 38) ∧ w3.heap[w2.heap.size]? = some (.cells #[.int .i64 at0, .int .i64 op1, .int .i64 a1, .int .i64 b, .slice xa xn xc] 38 (0, 0)) ∧ Below w2.heap.size w2 w3 := ⟨_, rfl, heap_alloc_last _ _, bA (Below.refl _ _) _⟩
  have F3 := hide (F2.trans (f3.mono F2.size))
  have hb31 : w3.heap[w.heap.size]? = some (.cells #[.int .i64 at0, .int .i64 op, .int .i64 a, .int .i64 b, .slice sa sn sc] 38 (0, 0)) := (f3.block _ (Nat.lt_of_lt_of_le (lt_of_heap (unhide HB1)) f2.size)).trans ((f2.block _ (lt_of_heap (unhide HB1))).trans (unhide HB1))
  have KB : Hid (∀ W, Below w3.heap.size w3 W → (W.cell? ⟨w2.heap.size, 0, none⟩ = some (.int .i64 at0) ∧ W.cell? ⟨w2.heap.size, 1, none⟩ = some (.int .i64 op1) ∧ W.cell? ⟨w2.heap.size, 2, none⟩ = some (.int .i64 a1) ∧ W.cell? ⟨w2.heap.size, 3, none⟩ = some (.int .i64 b) ∧ W.cell? ⟨w2.heap.size, 4, none⟩ = some (.slice xa xn xc)) ∧ W.cell? ⟨w.heap.size, 0, none⟩ = some (.int .i64 at0) ∧ W.cell? ⟨w.heap.size, 1, none⟩ = some (.int .i64 op) ∧ W.cell? ⟨w.heap.size, 2, none⟩ = some (.int .i64 a) ∧ W.cell? ⟨w.heap.size, 3, none⟩ = some (.int .i64 b) ∧ W.cell? ⟨w.heap.size, 4, none⟩ = some (.slice sa sn sc)) := fun W f => by
    have h1 := (f.block _ (lt_of_heap hb3)).trans hb3
    have h2 := (f.block _ (lt_of_heap hb31)).trans hb31
    exact ⟨⟨bx_cell h1 0 _ rfl, bx_cell h1 1 _ rfl, bx_cell h1 2 _ rfl, bx_cell h1 3 _ rfl, bx_cell h1 4 _ rfl⟩, bx_cell h2 0 _ rfl, bx_cell h2 1 _ rfl, bx_cell h2 2 _ rfl, bx_cell h2 3 _ rfl, bx_cell h2 4 _ rfl⟩
  have HX : Hid (Ls 2 cac w3 xa xn cs ∧ (xa = none → xn = 0 ∧ xc = 0)) := ⟨(o2.ls rkC).below f3, fun e => by obtain ⟨a', c', e', h, _⟩ := o2.form; injection e' with e1 e2 e3; have e1 : xa = a' := e1; have e2 : xn = cs.length := e2; have e3 : xc = c' := e3; rw [e2, e3]; exact h (e1 ▸ e)⟩
  have HI := hide ((unhide HI0).below (unhide F3))
  have HW3 := hide hw3
  clear hw3 hb3 f3 hb31 F2 f2 o2 c0 c1 c2 c3 c4
  unfold Sl.v
  simp only
  go_wp2_with fail
  rw [← unhide HW3]
  refine wp_region_tells (fun u v => Below u.heap.size u v) [
    (fun v W => v = .agg #[.int .i64 at0, .int .i64 op1, .int .i64 a1, .int .i64 b, .slice xa xn xc]),
    (fun v W => ∃ s : Sl, v = .agg #[.int .i64 at0, .int .i64 op1, .int .i64 a1, .int .i64 b, s.v] ∧ Ls 2 cac W s.a s.n cs),
    (fun v W => ∃ (p : Nat) (s : Sl), v = .slice (some ⟨p, 0, none⟩) 1 1 ∧ Ls 5 inc W (some ⟨p, 0, none⟩) 1 [⟨⟨at0, op1, a1, b, cs⟩, s⟩] ∧ Ls 2 cac W s.a s.n cs),
    (fun v W => v = .agg #[.int .i64 at0, .int .i64 op1, .int .i64 a1, .int .i64 b, .slice xa xn xc]),
    (fun v W => ∃ (p : Nat) (s : Sl), v = .slice (some ⟨p, 0, none⟩) 1 1 ∧ Ls 5 inc W (some ⟨p, 0, none⟩) 1 [⟨⟨at0, op1, a1, b, cs⟩, s⟩] ∧ Ls 2 cac W s.a s.n cs),
    (fun v W => v = .bool true),
    (fun v W => v = .bool true),
    (fun v W => v = .agg #[.int .i64 at0, .int .i64 op1, .int .i64 a1, .int .i64 b, .slice xa xn xc]),
    (fun v W => ∃ (ad : Option Addr) (c : Nat), v = .slice ad T.length c ∧ Ls 1 ic W ad T.length T),
    (fun v W => v = .agg #[.int .i64 at0, .int .i64 op, .int .i64 a, .int .i64 b, .slice sa sn sc]),
    (fun v W => ∃ (ad : Option Addr) (c : Nat), v = .slice ad T.length c ∧ Ls 1 ic W ad T.length T),
    (fun v W => v = .bool true),
    (fun v W => v = .bool true),
    (fun v W => v = .bool true),
    (fun v W => v = .agg #[.int .i64 at0, .int .i64 op1, .int .i64 a1, .int .i64 b, .slice xa xn xc]),
    (fun v W => v = .bool F),
    (fun v W => v = .agg #[.int .i64 at0, .int .i64 op, .int .i64 a, .int .i64 b, .slice sa sn sc]),
    (fun v W => v = .bool F),
    (fun v W => v = .bool true),
    (fun v W => v = .bool true),
    (fun v W => v = .bool true),
    (fun v W => v = .pointer (some ⟨w2.heap.size, 0, none⟩)),
    (fun v W => v = .int .i64 at0),
    (fun v W => v = .pointer (some ⟨w.heap.size, 0, none⟩)),
    (fun v W => v = .int .i64 at0),
    (fun v W => v = .bool true),
    (fun v W => v = .bool true),
    (fun v W => v = .bool true),
    (fun v W => v = .pointer (some ⟨w2.heap.size, 3, none⟩)),
    (fun v W => v = .int .i64 b),
    (fun v W => v = .pointer (some ⟨w.heap.size, 3, none⟩)),
    (fun v W => v = .int .i64 b),
    (fun v W => v = .bool true),
    (fun v W => v = .bool true),
    (fun v W => v = .bool true)] 42
    [[], [(0, some 8)], [(1, some 9)], [], [(3, some 11)], [(2, some 10), (4, some 12)], [(5, some 13)], [(6, some 14)], [(6, some 14), (7, some 15)], [(6, some 14)], [(6, some 14), (9, some 17)], [(6, some 14), (8, some 16), (10, some 18)], [(6, some 14), (11, some 19)], [(12, some 20)], [(13, some 21)], [(13, some 21), (14, some 22)], [(13, some 21)], [(13, some 21), (16, some 24)], [(13, some 21), (15, some 23), (17, some 25)], [(13, some 21), (18, some 26)], [(19, some 27)], [(20, some 28)], [(20, some 28), (21, some 29)], [(20, some 28)], [(20, some 28), (23, some 31)], [(20, some 28), (22, some 30), (24, some 32)], [(20, some 28), (25, some 33)], [(26, some 34)], [(27, some 35)], [(27, some 35), (28, some 36)], [(27, some 35)], [(27, some 35), (30, some 38)], [(27, some 35), (29, some 37), (31, some 39)], [(27, some 35), (32, some 40)], [(33, some 41)]]
    [(0, some 8), (1, some 9), (2, some 10), (3, some 11), (4, some 12), (5, some 13), (6, some 14), (7, some 15), (8, some 16), (9, some 17), (10, some 18), (11, some 19), (12, some 20), (13, some 21), (14, some 22), (15, some 23), (16, some 24), (17, some 25), (18, some 26), (19, some 27), (20, some 28), (21, some 29), (22, some 30), (23, some 31), (24, some 32), (25, some 33), (26, some 34), (27, some 35), (28, some 36), (29, some 37), (30, some 38), (31, some 39), (32, some 40), (33, some 41), (34, some 2)]
    (by kernel_rfl) (by kernel_rfl) rfl (fun _ => Below.refl _ _) (fun _ _ _ h1 h2 => h1.trans (h2.mono h1.size)) ?_ ?_ ?_
  · intro r hr
    simp only [List.mem_cons, List.not_mem_nil, or_false] at hr
    rcases hr with rfl | rfl | rfl | rfl | rfl | rfl | rfl | rfl | rfl | rfl | rfl | rfl | rfl | rfl | rfl | rfl | rfl | rfl | rfl | rfl | rfl | rfl | rfl | rfl | rfl | rfl | rfl | rfl | rfl | rfl | rfl | rfl | rfl | rfl | rfl
    · intro v W W2 h f
      exact h
    · intro v W W2 h f
      obtain ⟨s, rfl, h1⟩ := h
      exact ⟨s, rfl, h1.below f⟩
    · intro v W W2 h f
      obtain ⟨p, s, rfl, h1, h2⟩ := h
      exact ⟨p, s, rfl, h1.below f, h2.below f⟩
    · intro v W W2 h f
      exact h
    · intro v W W2 h f
      obtain ⟨p, s, rfl, h1, h2⟩ := h
      exact ⟨p, s, rfl, h1.below f, h2.below f⟩
    · intro v W W2 h f
      exact h
    · intro v W W2 h f
      exact h
    · intro v W W2 h f
      exact h
    · intro v W W2 h f
      obtain ⟨ad, c, rfl, h1⟩ := h
      exact ⟨ad, c, rfl, h1.below f⟩
    · intro v W W2 h f
      exact h
    · intro v W W2 h f
      obtain ⟨ad, c, rfl, h1⟩ := h
      exact ⟨ad, c, rfl, h1.below f⟩
    · intro v W W2 h f
      exact h
    · intro v W W2 h f
      exact h
    · intro v W W2 h f
      exact h
    · intro v W W2 h f
      exact h
    · intro v W W2 h f
      exact h
    · intro v W W2 h f
      exact h
    · intro v W W2 h f
      exact h
    · intro v W W2 h f
      exact h
    · intro v W W2 h f
      exact h
    · intro v W W2 h f
      exact h
    · intro v W W2 h f
      exact h
    · intro v W W2 h f
      exact h
    · intro v W W2 h f
      exact h
    · intro v W W2 h f
      exact h
    · intro v W W2 h f
      exact h
    · intro v W W2 h f
      exact h
    · intro v W W2 h f
      exact h
    · intro v W W2 h f
      exact h
    · intro v W W2 h f
      exact h
    · intro v W W2 h f
      exact h
    · intro v W W2 h f
      exact h
    · intro v W W2 h f
      exact h
    · intro v W W2 h f
      exact h
    · intro v W W2 h f
      exact h
  · refine ⟨?_, ?_, ?_, ?_, ?_, ?_, ?_, ?_, ?_, ?_, ?_, ?_, ?_, ?_, ?_, ?_, ?_, ?_, ?_, ?_, ?_, ?_, ?_, ?_, ?_, ?_, ?_, ?_, ?_, ?_, ?_, ?_, ?_, ?_, ?_, trivial⟩
    · intro W hG
      have HG : Below w3.heap.size w3 W := (Below.refl _ _).drew.trans hG
      simp only [ForDeps, rAt]
      obtain ⟨⟨p0, p1, p2, p3, p4⟩, q0, q1, q2, q3, q4⟩ := unhide KB W HG
      refine Tells.yields (v := ?_) (by rfl) (Below.refl _ _) ?_ ?_
      rotate_left
      focus ((go_simp) <;> with_reducible rfl)
      exact rfl
    · intro W hG
      have HG : Below w3.heap.size w3 W := (Below.refl _ _).drew.trans hG
      simp only [ForDeps, rAt]
      rintro _ rfl
      simp only [Act.put, List.setIfInBounds_toArray, List.set_cons_zero, List.set_cons_succ]
      refine Tells.does (by rfl) (fun K hK => ?_)
      have HC := hPlain_any W at0 op1 a1 b ⟨xa, xn, xc⟩ cs ((unhide HX).1.below HG) (unhide HX).2 (by simp only; omega) ((unhide HT).2.below ((unhide F3).trans (HG.mono (unhide F3).size)))
      unfold plain_post at HC
      rw [unhide EP] at HC
      unfold Sl.v at HC
      simp only at HC
      go_simp
      go_wp2_with (go_at_call 19; refine HC.mono ?_; rintro e W' ⟨s, rfl, o, f⟩)
      exact hK.out _ _ f ⟨s, rfl, o.ls rkC⟩
    · intro W hG
      have HG : Below w3.heap.size w3 W := (Below.refl _ _).drew.trans hG
      simp only [ForDeps, rAt]
      rintro x1 ⟨⟨ya, yn, yc⟩, rfl, hy⟩
      simp only [Act.put, List.setIfInBounds_toArray, List.set_cons_zero, List.set_cons_succ]
      refine Tells.does (by rfl) (fun K hK => ?_)
      go_simp
      exact hK.out _ _ (bA (Below.refl _ _) _) ⟨_, ⟨ya, yn, yc⟩, rfl, ins_lit W ⟨at0, op1, a1, b, cs⟩ ⟨ya, yn, yc⟩, hy.below (bA (Below.refl _ _) _)⟩
    · intro W hG
      have HG : Below w3.heap.size w3 W := (Below.refl _ _).drew.trans hG
      simp only [ForDeps, rAt]
      obtain ⟨⟨p0, p1, p2, p3, p4⟩, q0, q1, q2, q3, q4⟩ := unhide KB W HG
      refine Tells.yields (v := ?_) (by rfl) (Below.refl _ _) ?_ ?_
      rotate_left
      focus ((go_simp) <;> with_reducible rfl)
      exact rfl
    · intro W hG
      have HG : Below w3.heap.size w3 W := (Below.refl _ _).drew.trans hG
      simp only [ForDeps, rAt]
      rintro _ rfl
      simp only [Act.put, List.setIfInBounds_toArray, List.set_cons_zero, List.set_cons_succ]
      refine Tells.does (by rfl) (fun K hK => ?_)
      go_simp
      exact hK.out _ _ (bA (Below.refl _ _) _) ⟨_, ⟨xa, xn, xc⟩, rfl, ins_lit W ⟨at0, op1, a1, b, cs⟩ ⟨xa, xn, xc⟩, ((unhide HX).1.below HG).below (bA (Below.refl _ _) _)⟩
    · intro W hG
      have HG : Below w3.heap.size w3 W := (Below.refl _ _).drew.trans hG
      simp only [ForDeps, rAt]
      rintro x2 ⟨p2, ⟨s2, m2, k2⟩, rfl, l2, c2⟩ x4 ⟨p4, ⟨s4, m4, k4⟩, rfl, l4, c4⟩
      simp only [Act.put, List.setIfInBounds_toArray, List.set_cons_zero, List.set_cons_succ]
      refine Tells.does (by rfl) (fun K hK => ?_)
      have HC := SameInstrs_same W (some ⟨p2, 0, none⟩) (some ⟨p4, 0, none⟩) 1 1 1 _ _ l2 l4 rfl (fun r hr => by rw [List.mem_singleton.1 hr]; exact c2) (fun r hr => by rw [List.mem_singleton.1 hr]; exact c4) (by omega) (fun r hr => by rw [List.mem_singleton.1 hr]; have := c2.1; simp only at this ⊢; omega)
      go_simp
      go_wp2_with (go_at_call 12; refine HC.mono ?_; rintro e W' ⟨rfl, f⟩)
      exact hK.out _ _ f rfl
    · intro W hG
      have HG : Below w3.heap.size w3 W := (Below.refl _ _).drew.trans hG
      simp only [ForDeps, rAt]
      rintro _ rfl
      simp only [Act.put, List.setIfInBounds_toArray, List.set_cons_zero, List.set_cons_succ]
      refine Tells.yields (v := ?_) (by rfl) (Below.refl _ _) ?_ ?_
      rotate_left
      focus ((go_simp) <;> with_reducible rfl)
      exact rfl
    · intro W hG
      have HG : Below w3.heap.size w3 W := (Below.refl _ _).drew.trans hG
      simp only [ForDeps, rAt]
      rintro _ rfl
      simp only [Act.put, List.setIfInBounds_toArray, List.set_cons_zero, List.set_cons_succ]
      obtain ⟨⟨p0, p1, p2, p3, p4⟩, q0, q1, q2, q3, q4⟩ := unhide KB W HG
      refine Tells.yields (v := ?_) (by rfl) (Below.refl _ _) ?_ ?_
      rotate_left
      focus ((go_simp) <;> with_reducible rfl)
      exact rfl
    · intro W hG
      have HG : Below w3.heap.size w3 W := (Below.refl _ _).drew.trans hG
      simp only [ForDeps, rAt]
      rintro _ rfl _ rfl
      simp only [Act.put, List.setIfInBounds_toArray, List.set_cons_zero, List.set_cons_succ]
      refine Tells.does (by rfl) (fun K hK => ?_)
      have HC := hTargets_any W at0 op1 a1 b ⟨xa, xn, xc⟩ cs ((unhide HX).1.below HG) (by simp only; omega) ((unhide HT).1.below ((unhide F3).trans (HG.mono (unhide F3).size)))
      rw [unhide ET1] at HC
      unfold Sl.v at HC
      simp only at HC
      go_simp
      go_wp2_with (go_at_call 22; refine HC.mono ?_; rintro e W' ⟨v, rfl, o, f⟩)
      obtain ⟨ta, tc, hv, _⟩ := o.form
      subst hv
      exact hK.out _ _ f ⟨ta, tc, rfl, o.ls rkI⟩
    · intro W hG
      have HG : Below w3.heap.size w3 W := (Below.refl _ _).drew.trans hG
      simp only [ForDeps, rAt]
      rintro _ rfl
      simp only [Act.put, List.setIfInBounds_toArray, List.set_cons_zero, List.set_cons_succ]
      obtain ⟨⟨p0, p1, p2, p3, p4⟩, q0, q1, q2, q3, q4⟩ := unhide KB W HG
      refine Tells.yields (v := ?_) (by rfl) (Below.refl _ _) ?_ ?_
      rotate_left
      focus ((go_simp) <;> with_reducible rfl)
      exact rfl
    · intro W hG
      have HG : Below w3.heap.size w3 W := (Below.refl _ _).drew.trans hG
      simp only [ForDeps, rAt]
      rintro _ rfl _ rfl
      simp only [Act.put, List.setIfInBounds_toArray, List.set_cons_zero, List.set_cons_succ]
      refine Tells.does (by rfl) (fun K hK => ?_)
      have HC := hTargets_any W at0 op a b ⟨sa, sn, sc⟩ cs ((unhide HI).below HG) (by simp only; omega) ((unhide HT).1.below ((unhide F3).trans (HG.mono (unhide F3).size)))
      rw [unhide ET0] at HC
      unfold Sl.v at HC
      simp only at HC
      go_simp
      go_wp2_with (go_at_call 22; refine HC.mono ?_; rintro e W' ⟨v, rfl, o, f⟩)
      obtain ⟨ta, tc, hv, _⟩ := o.form
      subst hv
      exact hK.out _ _ f ⟨ta, tc, rfl, o.ls rkI⟩
    · intro W hG
      have HG : Below w3.heap.size w3 W := (Below.refl _ _).drew.trans hG
      simp only [ForDeps, rAt]
      rintro _ rfl x8 ⟨a8, c8, rfl, l8⟩ x10 ⟨a10, c10, rfl, l10⟩
      simp only [Act.put, List.setIfInBounds_toArray, List.set_cons_zero, List.set_cons_succ]
      refine Tells.does (by rfl) (fun K hK => ?_)
      have HC := SameInts_ic W a8 a10 T.length c8 c10 T l8 l10 (unhide HTL)
      go_simp
      go_wp2_with (go_at_call 21; refine HC.mono ?_; rintro e W' ⟨rfl, f⟩)
      exact hK.out _ _ f rfl
    · intro W hG
      have HG : Below w3.heap.size w3 W := (Below.refl _ _).drew.trans hG
      simp only [ForDeps, rAt]
      rintro _ rfl _ rfl
      simp only [Act.put, List.setIfInBounds_toArray, List.set_cons_zero, List.set_cons_succ]
      refine Tells.yields (v := ?_) (by rfl) (Below.refl _ _) ?_ ?_
      rotate_left
      focus ((go_simp) <;> with_reducible rfl)
      exact rfl
    · intro W hG
      have HG : Below w3.heap.size w3 W := (Below.refl _ _).drew.trans hG
      simp only [ForDeps, rAt]
      rintro _ rfl
      simp only [Act.put, List.setIfInBounds_toArray, List.set_cons_zero, List.set_cons_succ]
      refine Tells.yields (v := ?_) (by rfl) (Below.refl _ _) ?_ ?_
      rotate_left
      focus ((go_simp) <;> with_reducible rfl)
      exact rfl
    · intro W hG
      have HG : Below w3.heap.size w3 W := (Below.refl _ _).drew.trans hG
      simp only [ForDeps, rAt]
      rintro _ rfl
      simp only [Act.put, List.setIfInBounds_toArray, List.set_cons_zero, List.set_cons_succ]
      obtain ⟨⟨p0, p1, p2, p3, p4⟩, q0, q1, q2, q3, q4⟩ := unhide KB W HG
      refine Tells.yields (v := ?_) (by rfl) (Below.refl _ _) ?_ ?_
      rotate_left
      focus ((go_simp) <;> with_reducible rfl)
      exact rfl
    · intro W hG
      have HG : Below w3.heap.size w3 W := (Below.refl _ _).drew.trans hG
      simp only [ForDeps, rAt]
      rintro _ rfl _ rfl
      simp only [Act.put, List.setIfInBounds_toArray, List.set_cons_zero, List.set_cons_succ]
      refine Tells.does (by rfl) (fun K hK => ?_)
      have HC := hFalls_any W at0 op1 a1 b (.slice xa xn xc)
      rw [unhide EF1] at HC
      go_simp
      go_wp2_with (go_at_call 24; refine HC.mono ?_; rintro e W' ⟨rfl, f⟩)
      exact hK.out _ _ f rfl
    · intro W hG
      have HG : Below w3.heap.size w3 W := (Below.refl _ _).drew.trans hG
      simp only [ForDeps, rAt]
      rintro _ rfl
      simp only [Act.put, List.setIfInBounds_toArray, List.set_cons_zero, List.set_cons_succ]
      obtain ⟨⟨p0, p1, p2, p3, p4⟩, q0, q1, q2, q3, q4⟩ := unhide KB W HG
      refine Tells.yields (v := ?_) (by rfl) (Below.refl _ _) ?_ ?_
      rotate_left
      focus ((go_simp) <;> with_reducible rfl)
      exact rfl
    · intro W hG
      have HG : Below w3.heap.size w3 W := (Below.refl _ _).drew.trans hG
      simp only [ForDeps, rAt]
      rintro _ rfl _ rfl
      simp only [Act.put, List.setIfInBounds_toArray, List.set_cons_zero, List.set_cons_succ]
      refine Tells.does (by rfl) (fun K hK => ?_)
      have HC := hFalls_any W at0 op a b (.slice sa sn sc)
      rw [unhide EF0] at HC
      go_simp
      go_wp2_with (go_at_call 24; refine HC.mono ?_; rintro e W' ⟨rfl, f⟩)
      exact hK.out _ _ f rfl
    · intro W hG
      have HG : Below w3.heap.size w3 W := (Below.refl _ _).drew.trans hG
      simp only [ForDeps, rAt]
      rintro _ rfl _ rfl _ rfl
      simp only [Act.put, List.setIfInBounds_toArray, List.set_cons_zero, List.set_cons_succ]
      obtain ⟨⟨p0, p1, p2, p3, p4⟩, q0, q1, q2, q3, q4⟩ := unhide KB W HG
      refine Tells.yields (v := ?_) (by rfl) (Below.refl _ _) ?_ ?_
      rotate_left
      focus ((go_simp) <;> with_reducible rfl)
      exact rfl
    · intro W hG
      have HG : Below w3.heap.size w3 W := (Below.refl _ _).drew.trans hG
      simp only [ForDeps, rAt]
      rintro _ rfl _ rfl
      simp only [Act.put, List.setIfInBounds_toArray, List.set_cons_zero, List.set_cons_succ]
      refine Tells.yields (v := ?_) (by rfl) (Below.refl _ _) ?_ ?_
      rotate_left
      focus ((go_simp) <;> with_reducible rfl)
      exact rfl
    · intro W hG
      have HG : Below w3.heap.size w3 W := (Below.refl _ _).drew.trans hG
      simp only [ForDeps, rAt]
      rintro _ rfl
      simp only [Act.put, List.setIfInBounds_toArray, List.set_cons_zero, List.set_cons_succ]
      refine Tells.yields (v := ?_) (by rfl) (Below.refl _ _) ?_ ?_
      rotate_left
      focus ((go_simp) <;> with_reducible rfl)
      exact rfl
    · intro W hG
      have HG : Below w3.heap.size w3 W := (Below.refl _ _).drew.trans hG
      simp only [ForDeps, rAt]
      rintro _ rfl
      simp only [Act.put, List.setIfInBounds_toArray, List.set_cons_zero, List.set_cons_succ]
      obtain ⟨⟨p0, p1, p2, p3, p4⟩, q0, q1, q2, q3, q4⟩ := unhide KB W HG
      refine Tells.yields (v := ?_) (by rfl) (Below.refl _ _) ?_ ?_
      rotate_left
      focus ((go_simp) <;> with_reducible rfl)
      exact rfl
    · intro W hG
      have HG : Below w3.heap.size w3 W := (Below.refl _ _).drew.trans hG
      simp only [ForDeps, rAt]
      rintro _ rfl _ rfl
      simp only [Act.put, List.setIfInBounds_toArray, List.set_cons_zero, List.set_cons_succ]
      obtain ⟨⟨p0, p1, p2, p3, p4⟩, q0, q1, q2, q3, q4⟩ := unhide KB W HG
      refine Tells.yields (v := ?_) (by rfl) (Below.refl _ _) ?_ ?_
      rotate_left
      focus ((go_simp) <;> with_reducible rfl)
      exact rfl
    · intro W hG
      have HG : Below w3.heap.size w3 W := (Below.refl _ _).drew.trans hG
      simp only [ForDeps, rAt]
      rintro _ rfl
      simp only [Act.put, List.setIfInBounds_toArray, List.set_cons_zero, List.set_cons_succ]
      obtain ⟨⟨p0, p1, p2, p3, p4⟩, q0, q1, q2, q3, q4⟩ := unhide KB W HG
      refine Tells.yields (v := ?_) (by rfl) (Below.refl _ _) ?_ ?_
      rotate_left
      focus ((go_simp) <;> with_reducible rfl)
      exact rfl
    · intro W hG
      have HG : Below w3.heap.size w3 W := (Below.refl _ _).drew.trans hG
      simp only [ForDeps, rAt]
      rintro _ rfl _ rfl
      simp only [Act.put, List.setIfInBounds_toArray, List.set_cons_zero, List.set_cons_succ]
      obtain ⟨⟨p0, p1, p2, p3, p4⟩, q0, q1, q2, q3, q4⟩ := unhide KB W HG
      refine Tells.yields (v := ?_) (by rfl) (Below.refl _ _) ?_ ?_
      rotate_left
      focus ((go_simp) <;> with_reducible rfl)
      exact rfl
    · intro W hG
      have HG : Below w3.heap.size w3 W := (Below.refl _ _).drew.trans hG
      simp only [ForDeps, rAt]
      rintro _ rfl _ rfl _ rfl
      simp only [Act.put, List.setIfInBounds_toArray, List.set_cons_zero, List.set_cons_succ]
      obtain ⟨⟨p0, p1, p2, p3, p4⟩, q0, q1, q2, q3, q4⟩ := unhide KB W HG
      refine Tells.yields (v := ?_) (by rfl) (Below.refl _ _) ?_ ?_
      rotate_left
      focus ((go_simp) <;> with_reducible rfl)
      exact rfl
    · intro W hG
      have HG : Below w3.heap.size w3 W := (Below.refl _ _).drew.trans hG
      simp only [ForDeps, rAt]
      rintro _ rfl _ rfl
      simp only [Act.put, List.setIfInBounds_toArray, List.set_cons_zero, List.set_cons_succ]
      refine Tells.yields (v := ?_) (by rfl) (Below.refl _ _) ?_ ?_
      rotate_left
      focus ((go_simp) <;> with_reducible rfl)
      exact rfl
    · intro W hG
      have HG : Below w3.heap.size w3 W := (Below.refl _ _).drew.trans hG
      simp only [ForDeps, rAt]
      rintro _ rfl
      simp only [Act.put, List.setIfInBounds_toArray, List.set_cons_zero, List.set_cons_succ]
      refine Tells.yields (v := ?_) (by rfl) (Below.refl _ _) ?_ ?_
      rotate_left
      focus ((go_simp) <;> with_reducible rfl)
      exact rfl
    · intro W hG
      have HG : Below w3.heap.size w3 W := (Below.refl _ _).drew.trans hG
      simp only [ForDeps, rAt]
      rintro _ rfl
      simp only [Act.put, List.setIfInBounds_toArray, List.set_cons_zero, List.set_cons_succ]
      obtain ⟨⟨p0, p1, p2, p3, p4⟩, q0, q1, q2, q3, q4⟩ := unhide KB W HG
      refine Tells.yields (v := ?_) (by rfl) (Below.refl _ _) ?_ ?_
      rotate_left
      focus ((go_simp) <;> with_reducible rfl)
      exact rfl
    · intro W hG
      have HG : Below w3.heap.size w3 W := (Below.refl _ _).drew.trans hG
      simp only [ForDeps, rAt]
      rintro _ rfl _ rfl
      simp only [Act.put, List.setIfInBounds_toArray, List.set_cons_zero, List.set_cons_succ]
      obtain ⟨⟨p0, p1, p2, p3, p4⟩, q0, q1, q2, q3, q4⟩ := unhide KB W HG
      refine Tells.yields (v := ?_) (by rfl) (Below.refl _ _) ?_ ?_
      rotate_left
      focus ((go_simp) <;> with_reducible rfl)
      exact rfl
    · intro W hG
      have HG : Below w3.heap.size w3 W := (Below.refl _ _).drew.trans hG
      simp only [ForDeps, rAt]
      rintro _ rfl
      simp only [Act.put, List.setIfInBounds_toArray, List.set_cons_zero, List.set_cons_succ]
      obtain ⟨⟨p0, p1, p2, p3, p4⟩, q0, q1, q2, q3, q4⟩ := unhide KB W HG
      refine Tells.yields (v := ?_) (by rfl) (Below.refl _ _) ?_ ?_
      rotate_left
      focus ((go_simp) <;> with_reducible rfl)
      exact rfl
    · intro W hG
      have HG : Below w3.heap.size w3 W := (Below.refl _ _).drew.trans hG
      simp only [ForDeps, rAt]
      rintro _ rfl _ rfl
      simp only [Act.put, List.setIfInBounds_toArray, List.set_cons_zero, List.set_cons_succ]
      obtain ⟨⟨p0, p1, p2, p3, p4⟩, q0, q1, q2, q3, q4⟩ := unhide KB W HG
      refine Tells.yields (v := ?_) (by rfl) (Below.refl _ _) ?_ ?_
      rotate_left
      focus ((go_simp) <;> with_reducible rfl)
      exact rfl
    · intro W hG
      have HG : Below w3.heap.size w3 W := (Below.refl _ _).drew.trans hG
      simp only [ForDeps, rAt]
      rintro _ rfl _ rfl _ rfl
      simp only [Act.put, List.setIfInBounds_toArray, List.set_cons_zero, List.set_cons_succ]
      obtain ⟨⟨p0, p1, p2, p3, p4⟩, q0, q1, q2, q3, q4⟩ := unhide KB W HG
      refine Tells.yields (v := ?_) (by rfl) (Below.refl _ _) ?_ ?_
      rotate_left
      focus ((go_simp) <;> with_reducible rfl)
      exact rfl
    · intro W hG
      have HG : Below w3.heap.size w3 W := (Below.refl _ _).drew.trans hG
      simp only [ForDeps, rAt]
      rintro _ rfl _ rfl
      simp only [Act.put, List.setIfInBounds_toArray, List.set_cons_zero, List.set_cons_succ]
      refine Tells.yields (v := ?_) (by rfl) (Below.refl _ _) ?_ ?_
      rotate_left
      focus ((go_simp) <;> with_reducible rfl)
      exact rfl
    · intro W hG
      have HG : Below w3.heap.size w3 W := (Below.refl _ _).drew.trans hG
      simp only [ForDeps, rAt]
      rintro _ rfl
      simp only [Act.put, List.setIfInBounds_toArray, List.set_cons_zero, List.set_cons_succ]
      refine Tells.yields (v := ?_) (by rfl) (Below.refl _ _) ?_ ?_
      rotate_left
      focus ((go_simp) <;> with_reducible rfl)
      exact rfl
  · intro W hG
    have HG : Below w3.heap.size w3 W := (Below.refl _ _).drew.trans hG
    simp only [ForDeps, rAt]
    intro x0 h0 x1 h1 x2 h2 x3 h3 x4 h4 x5 h5 x6 h6 x7 h7 x8 h8 x9 h9 x10 h10 x11 h11 x12 h12 x13 h13 x14 h14 x15 h15 x16 h16 x17 h17 x18 h18 x19 h19 x20 h20 x21 h21 x22 h22 x23 h23 x24 h24 x25 h25 x26 h26 x27 h27 x28 h28 x29 h29 x30 h30 x31 h31 x32 h32 x33 h33 x34 h34
    simp only [Act.put, List.setIfInBounds_toArray, List.set_cons_zero, List.set_cons_succ]
    subst h34
    have F4 := hide ((unhide F3).trans (HG.mono (unhide F3).size))
    clear hG HG
    go_wp2
    go_ret
    exact ⟨rfl, unhide F4⟩
end Go.Proofs.YtpmhcignenfhgaaDoor

/- An instruction that came in, opened. -/
namespace Go.Proofs.YtpmhcignenfhgaaDoor
open Go.ChangeShapes Go.WideShapes Go.ChangeAt Go.RowKit
set_option linter.unusedVariables false
set_option maxRecDepth 100000

theorem instr_arg {H : Type} {enc : TypeId × Value → H} {W : World} {base b2 : Nat} {v : Value} {d : DataW H} {p : List MemPlace} (hv : Value.okWide Tryd.prog W .any b2 38 v)
    (h0 : DataW.Trod enc Tryd.prog W base (fun _ => true) true 38 v d p) (hw : ∀ m ∈ d.weights Tryd.prog 38, m ≤ reachBytes) :
    ∃ (at0 op a b : Int) (sa : Option Addr) (sn sc : Nat) (cs : List Cas), v = .agg #[.int .i64 at0, .int .i64 op, .int .i64 a, .int .i64 b, .slice sa sn sc] ∧ Ls 2 cac W sa sn cs ∧ (sa = none → sn = 0 ∧ sc = 0) ∧ sn * 16 ≤ 140737488351232 := by
  obtain ⟨fuel, h⟩ := h0
  simp only [Value.okWide, Tryd.underlying38] at hv
  obtain ⟨cs0, rfl, _⟩ := hv
  have hl : (Value.agg cs0).cells.toList.length = 5 := st_len9 Tryd.underlying38 (by kernel_rfl) h
  obtain ⟨_, y0, g0, w0⟩ := st_field Tryd.underlying38 h hw (i := 0) rfl
  obtain ⟨v0, c0, f0⟩ := int_leaf (o := 0) g0
  obtain ⟨_, y1, g1, w1⟩ := st_field Tryd.underlying38 h hw (i := 1) rfl
  obtain ⟨v1, c1, f1⟩ := int_leaf (o := 1) g1
  obtain ⟨_, y2, g2, w2⟩ := st_field Tryd.underlying38 h hw (i := 2) rfl
  obtain ⟨v2, c2, f2⟩ := int_leaf (o := 2) g2
  obtain ⟨_, y3, g3, w3⟩ := st_field Tryd.underlying38 h hw (i := 3) rfl
  obtain ⟨v3, c3, f3⟩ := int_leaf (o := 3) g3
  obtain ⟨_, y4, g4, w4⟩ := st_field Tryd.underlying38 h hw (i := 4) rfl
  obtain ⟨v4, c4, t4⟩ := sl_leaf (o := 4) Tryd.underlying36 (by kernel_rfl) g4
  obtain ⟨l, h4⟩ := lin_open (size := 2) (by_ := 16) (ok := fun c : Cas => Rg c.key ∧ Rg c.to_) (val := cac) Tryd.underlying36 (by kernel_rfl) (by kernel_rfl) (by decide) (fun _ => rfl) (fun _ => ⟨_, rfl⟩) (fun n cs x h hw => ca_cells n cs x h hw) t4 w4
  refine ⟨v0, v1, v2, v3, v4.a, v4.n, v4.c, l, ?_, h4.ls, h4.nil, h4.small⟩
  congr 1
  apply Array.toList_inj.1
  have hcs : (Value.agg cs0).cells.toList = cs0.toList := by simp [Value.cells]
  rw [hcs] at c0 c1 c2 c3 c4 hl
  apply List.ext_getElem?
  intro i
  match i with
  | 0 => rw [c0]; rfl
  | 1 => rw [c1]; rfl
  | 2 => rw [c2]; rfl
  | 3 => rw [c3]; rfl
  | 4 => rw [c4]; rfl
  | k + 5 => rw [List.getElem?_eq_none (by omega)]; rfl
end Go.Proofs.YtpmhcignenfhgaaDoor

/- The document's Targets; instructions of a law's own. -/
namespace Go.Proofs.YtpmhcignenfhgaaDoor
open Go.RowKit
set_option linter.unusedVariables false
set_option maxRecDepth 100000

theorem targ_parts (at0 op a b : Int) (cs : List Cas) : targP ⟨at0, op, a, b, cs⟩ = (if 7 ≤ formP op then [a] else []) ++ (if 8 ≤ formP op then cs.map Cas.to_ else []) := by
  have h9 : formP op ≤ 9 := by
    unfold formP
    repeat' split
    all_goals omega
  show (if formP op = 7 then [a] else if formP op = 8 ∨ formP op = 9 then a :: cs.map Cas.to_ else []) = _
  generalize formP op = f at *
  by_cases h7 : f = 7
  · rw [if_pos h7, if_pos (by omega), if_neg (by omega)]; simp
  · rw [if_neg h7]
    by_cases h8 : f = 8 ∨ f = 9
    · rw [if_pos h8, if_pos (by omega), if_pos (by omega)]; simp
    · rw [if_neg h8, if_neg (by omega), if_neg (by omega)]; simp
set_option maxHeartbeats 1600000 in
theorem o9Targets_any (w : World) (at0 op a b : Int) (s : Sl) (cs : List Cas) (hL : Ls 2 cac w s.a s.n cs) (hn : s.n ≤ 8796093022208) :
    Calls Tryd.prog 23 #[.agg #[.int .i64 at0, .int .i64 op, .int .i64 a, .int .i64 b, s.v]] w fun e w' => ∃ v, e = .returned v ∧ Orw ic 3 1 w' w.heap.size v (targP ⟨at0, op, a, b, cs⟩) ∧ Below w.heap.size w w' := by
  obtain ⟨sa, sn, sc⟩ := s
  unfold Sl.v
  simp only at hL hn
  have HL := hide hL
  have hcl : cs.length = sn := hL.1
  obtain ⟨wb, hwb, hbb, fb⟩ : ∃ wb, wb = w.alloc (.cells #[.int .i64 at0, .int .i64 op, .int .i64 a, .int .i64 b, .slice sa sn sc] 38) ∧ wb.heap[w.heap.size]? = some (.cells #[.int .i64 at0, .int .i64 op, .int .i64 a, .int .i64 b, .slice sa sn sc] 38 (0, 0)) ∧ Below w.heap.size w wb := ⟨_, rfl, heap_alloc_last _ _, bA (Below.refl _ _) _⟩
  have hsz : wb.heap.size = w.heap.size + 1 := by rw [hwb]; simp
  have O0 : Orw ic 3 1 (wb.alloc (.cells #[] 3)) wb.heap.size (.slice (some ⟨w.heap.size + 1, 0, none⟩) 0 0) ([] : List Int) := by
    have := Orw.made ic 3 1 wb wb.heap.size (Nat.le_refl _)
    rw [hsz] at this ⊢
    exact this
  have f0 : Below wb.heap.size wb (wb.alloc (.cells #[] 3)) := bA (Below.refl _ _) _
  obtain ⟨w0, hw0⟩ : ∃ w0, w0 = wb.alloc (.cells #[] 3) := ⟨_, rfl⟩
  rw [← hw0] at O0 f0
  have HW0 : Hid (w0 = (w.alloc (.cells #[.int .i64 at0, .int .i64 op, .int .i64 a, .int .i64 b, .slice sa sn sc] 38)).alloc (.cells #[] 3)) := by rw [hwb] at hw0; exact hw0
  have HF := hide (o9Form_any w0 op)
  have F0 := hide f0
  have FB := hide fb
  have KB : Hid (∀ W, Below wb.heap.size wb W → W.cell? ⟨w.heap.size, 2, none⟩ = some (.int .i64 a) ∧ W.cell? ⟨w.heap.size, 4, none⟩ = some (.slice sa sn sc)) := fun W f => by
    have := (f.block _ (lt_of_heap hbb)).trans hbb
    exact ⟨bx_cell this 2 _ rfl, bx_cell this 4 _ rfl⟩
  have HO0 := hide O0
  have HLB := hide (hL.below fb)
  have HTP := hide (targ_parts at0 op a b cs)
  generalize targP ⟨at0, op, a, b, cs⟩ = T at *
  generalize formP op = f at *
  have HS : Hid (∀ W : World, Ls 1 ic (W.alloc (.cells #[.int .i64 a] 3)) (some ⟨W.heap.size, 0, none⟩) 1 [a]) := fun W => ls_one W _ _ a rfl
  have HSZ := hide hsz
  clear hw0 f0 hbb hL O0 hwb fb hsz
  go_enter Tryd.func23, Tryd.ntmps23
  go_wp2_with fail
  rw [← unhide HW0]
  refine (unhide HF).mono ?_
  rintro e w1 ⟨rfl, f1⟩
  have F1 := hide ((unhide F0).trans (f1.mono (unhide F0).size))
  obtain ⟨c2, c4⟩ := unhide KB w1 (unhide F1)
  have HO1 : Hid (Orw ic 3 1 w1 wb.heap.size (.slice (some ⟨w.heap.size + 1, 0, none⟩) 0 0) ([] : List Int)) := (unhide HO0).below fun k hk => f1.block k ((unhide HO0).lt k hk).2
  clear f1 HF
  obtain ⟨P, hP⟩ : ∃ P : List Int, P = if 7 ≤ f then [a] else [] := ⟨_, rfl⟩
  have hPl : P.length ≤ 1 := by rw [hP]; split <;> simp
  have HTP2 := hide (unhide HTP)
  rw [← hP] at HTP2
  have HP := hide hP
  clear hP HTP
  go_upto_if 11 with fail
  go_cut [3] from 11 (fun vo wr => Orw ic 3 1 wr wb.heap.size vo P ∧ Below wb.heap.size wb wr)
  case first =>
    by_cases h7 : 7 ≤ f
    · have h71 : (7 : Int) ≤ (f : Int) := by omega
      have HO2 : Hid (Orw ic 3 1 (w1.alloc (.cells #[.int .i64 a] 3)) wb.heap.size (.slice (some ⟨w.heap.size + 1, 0, none⟩) 0 0) ([] : List Int)) := orw_al9 (unhide HO1) _
      have HF2 : Hid (Below wb.heap.size wb (w1.alloc (.cells #[.int .i64 a] 3))) := bA (unhide F1) _
      go_wp2_with (at_builtin; refine listR_append rkI rfl _ _ rfl wb.heap.size _ _ rfl (unhide HO2) _ 1 1 [a] rfl (unhide HS _) (fun e => by cases e) (by simp) (by simp) (unhide HF2).size ?_)
      intro v3 w3 o3 g3
      have HF3 := hide (grown_below (unhide HF2) (unhide HO2) g3)
      have HO3 : Hid (Orw ic 3 1 w3 wb.heap.size v3 P) := by have h := unhide HP; rw [if_pos h7] at h; rw [h]; exact o3
      clear o3 g3
      go_wp2
      go_meet
      exact ⟨unhide HO3, unhide HF3⟩
    · have h71 : ¬ (7 : Int) ≤ (f : Int) := by omega
      have HO3 : Hid (Orw ic 3 1 w1 wb.heap.size (.slice (some ⟨w.heap.size + 1, 0, none⟩) 0 0) P) := by have h := unhide HP; rw [if_neg h7] at h; rw [h]; exact unhide HO1
      go_wp2
      go_meet
      exact ⟨unhide HO3, unhide F1⟩
  case rest =>
    obtain ⟨hO1, hF1⟩ := hcut
    have HO3 := hide hO1
    have HF3 := hide hF1
    clear hO1 hF1 c2 c4
    go_wp2
    go_loopw [3, 5] (fun v k W => ∃ q : Nat, q ≤ sn ∧ k = .int .i64 q ∧ (8 ≤ f ∨ q = 0) ∧ Orw ic 3 1 W wb.heap.size v (P ++ (cs.take q).map Cas.to_) ∧ Below wb.heap.size wb W) (fun _ k _ => sn - (intOf k).toNat)
    case atStart => exact ⟨0, by omega, rfl, .inr rfl, by simpa using unhide HO3, unhide HF3⟩
    case round =>
      obtain ⟨q, hq, rfl, h8q, hO, hF⟩ := hrel
      obtain ⟨va, vc, rfl, _, _, _⟩ := hO.form
      obtain ⟨L, hLL⟩ : ∃ L, L = (P ++ (cs.take q).map Cas.to_).length := ⟨_, rfl⟩
      have hL1 : L ≤ q + 1 := by rw [hLL]; simp; omega
      rw [← hLL] at hO ⊢
      have HLL := hide hLL
      clear hLL
      have HO := hide hO
      have HF := hide hF
      obtain ⟨c2, c4⟩ := unhide KB wr hF
      by_cases hlt : q < sn
      · have hlt1 : (q : Int) < (sn : Int) := by omega
        by_cases h8 : 8 ≤ f
        · have h81 : (8 : Int) ≤ (f : Int) := by omega
          obtain ⟨b1, o1, h1a, h1⟩ := Ls.row (unhide HLB) (w' := wr) (by omega)
          subst h1a
          obtain ⟨x, hx⟩ : ∃ x, cs[q]? = some x := ⟨_, List.getElem?_eq_getElem (by omega)⟩
          have c1 := (h1 hF q x hx) 1 _ rfl
          have hst : (cs.take (q + 1)).map Cas.to_ = (cs.take q).map Cas.to_ ++ [x.to_] := by
            obtain ⟨hk, e⟩ := List.getElem?_eq_some_iff.1 hx
            rw [List.take_succ_eq_append_getElem hk, e]
            simp
          have HST := hide hst
          have HL1 : Hid ((P ++ (cs.take q).map Cas.to_).length + 1 ≤ 17592186044416) := by show _ ≤ _; rw [← unhide HLL]; omega
          have HO2 : Hid (Orw ic 3 1 (wr.alloc (.cells #[.int .i64 x.to_] 3)) wb.heap.size (.slice va L vc) (P ++ (cs.take q).map Cas.to_)) := orw_al9 hO _
          have HF2 : Hid (Below wb.heap.size wb (wr.alloc (.cells #[.int .i64 x.to_] 3))) := bA hF _
          have HS : Hid (Ls 1 ic (wr.alloc (.cells #[.int .i64 x.to_] 3)) (some ⟨wr.heap.size, 0, none⟩) 1 [x.to_]) := ls_one (cs := ic) (sz := 1) wr #[.int .i64 x.to_] 3 x.to_ rfl
          clear h1 hx hst hO hF h8q
          go_wp2_with (at_builtin; refine listR_append rkI rfl _ _ rfl wb.heap.size _ _ rfl (unhide HO2) _ 1 1 [x.to_] rfl (unhide HS) (fun e => by cases e) (by have := unhide HL1; omega) (by have := unhide HL1; omega) (unhide HF2).size ?_)
          intro v3 w3 o3 g3
          have HF3 := hide (grown_below (unhide HF2) (unhide HO2) g3)
          have HO3 : Hid (Orw ic 3 1 w3 wb.heap.size v3 (P ++ (cs.take (q + 1)).map Cas.to_)) := by
            show Orw ic 3 1 w3 wb.heap.size v3 _
            rw [unhide HST, List.map_take]
            exact o3
          clear o3 g3
          go_wp2
          go_roundw
          case rel => exact ⟨q + 1, by omega, by go_num, .inl h8, unhide HO3, unhide HF3⟩
          case measure => simp [intOf]; omega
        · have h81 : ¬ (8 : Int) ≤ (f : Int) := by omega
          have HO4 : Hid (Orw ic 3 1 wr w.heap.size (.slice va L vc) T) := by
            obtain rfl : q = 0 := h8q.resolve_left h8
            have h := hO.base (base' := w.heap.size) (by have := unhide HSZ; omega)
            show Orw _ _ _ _ _ _ _
            rw [unhide HTP2, if_neg h8]
            simpa using h
          have HF4 := hide ((unhide FB).trans (hF.mono (unhide FB).size))
          clear hO hF h8q
          go_wp2
          go_ret
          exact ⟨_, rfl, unhide HO4, unhide HF4⟩
      · have hlt1 : ¬ (q : Int) < (sn : Int) := by omega
        have HO4 : Hid (Orw ic 3 1 wr w.heap.size (.slice va L vc) T) := by
          have h := hO.base (base' := w.heap.size) (by have := unhide HSZ; omega)
          show Orw _ _ _ _ _ _ _
          rw [unhide HTP2]
          by_cases h8 : 8 ≤ f
          · rw [if_pos h8]
            rw [List.take_of_length_le (by omega)] at h
            exact h
          · obtain rfl : q = 0 := h8q.resolve_left h8
            rw [if_neg h8]
            simpa using h
        have HF4 := hide ((unhide FB).trans (hF.mono (unhide FB).size))
        clear hO hF h8q
        go_wp2
        go_ret
        exact ⟨_, rfl, unhide HO4, unhide HF4⟩
end Go.Proofs.YtpmhcignenfhgaaDoor

/- The walk of CodeTells. -/
namespace Go.Proofs.YtpmhcignenfhgaaDoor
open Go.RowKit
set_option linter.unusedVariables false
set_option maxRecDepth 100000

/-- A row of one instruction at g, its cases in a row of their own. -/
structure One9 (x : Ins) (g : Nat) (w W : World) : Prop where
  mk' ::
  cells : ∃ s : Sl, W.heap[g]?.isSome ∧ (W.cell? ⟨g, 0, none⟩ = some (.int .i64 x.at_) ∧ W.cell? ⟨g, 1, none⟩ = some (.int .i64 x.op) ∧ W.cell? ⟨g, 2, none⟩ = some (.int .i64 x.a) ∧ W.cell? ⟨g, 3, none⟩ = some (.int .i64 x.b) ∧ W.cell? ⟨g, 4, none⟩ = some s.v) ∧ Ls 2 cac W s.a s.n x.cs ∧ (s.a = none → s.n = 0 ∧ s.c = 0)
  bel : Below w.heap.size w W
set_option maxHeartbeats 1600000 in
theorem own9_one (w : World) (p c : Nat) (x : Ins) (s : Sl) (hL : Ls 5 inc w (some ⟨p, 0, none⟩) 1 [⟨x, s⟩]) (hC : Ls 2 cac w s.a s.n x.cs) (hnil : s.a = none → s.n = 0 ∧ s.c = 0) (hsm : s.n * 16 ≤ 140737488351232) :
    Calls Tryd.prog 16 #[.slice (some ⟨p, 0, none⟩) 1 c] w fun e w' => ∃ g k, e = .returned (.slice (some ⟨g, 0, none⟩) 1 k) ∧ w.heap.size ≤ g ∧ One9 x g w w' := by
  have f0 : Below w.heap.size w (w.alloc (.cells #[] 38)) := bA (Below.refl _ _) _
  have HO := hide (Orw.made inc 38 5 w w.heap.size (Nat.le_refl _))
  have HL := hide (hL.below f0)
  have HC := hide hC
  have HN := hide hnil
  have F0 := hide f0
  clear hL hC hnil f0
  go_enter Tryd.func16, Tryd.ntmps16
  go_wp2_with (at_builtin; refine listR_append rkN9 rfl _ _ rfl w.heap.size _ _ rfl (unhide HO) _ 1 c [⟨x, s⟩] rfl (unhide HL) (fun e => by cases e) (by simp) (by simp) (unhide F0).size ?_)
  intro v1 w1 o1 g1
  have f1 := grown_below (unhide F0) (unhide HO) g1
  obtain ⟨g, cap, hv1, hg, hcap, hlt1, ⟨cur, hcur⟩, k0, k1, k2, k3, k4⟩ : ∃ g cap, v1 = .slice (some ⟨g, 0, none⟩) 1 cap ∧ w.heap.size ≤ g ∧ 1 ≤ cap ∧ g < w1.heap.size ∧ (∃ cur, w1.heap[g]? = some (.cells cur 38 (0, 0))) ∧ w1.cell? ⟨g, 0, none⟩ = some (.int .i64 x.at_) ∧ w1.cell? ⟨g, 1, none⟩ = some (.int .i64 x.op) ∧ w1.cell? ⟨g, 2, none⟩ = some (.int .i64 x.a) ∧ w1.cell? ⟨g, 3, none⟩ = some (.int .i64 x.b) ∧ w1.cell? ⟨g, 4, none⟩ = some s.v := by
    rcases o1.2 with ⟨_, h⟩ | ⟨g, cap, cur, hv, hb, hh, hc1, hc2, hsz, htk⟩
    · simp at h
    · have hq : ∀ q v, (inc ⟨x, s⟩)[q]? = some v → w1.cell? ⟨g, q, none⟩ = some v := fun q v hqv => by
        refine bx_cell hh q v ?_
        have hq5 : q < 5 := by have := (List.getElem?_eq_some_iff.1 hqv).1; simpa [inc] using this
        have h2 : (cur.toList.take (([⟨x, s⟩] : List InR).length * 5))[q]? = some v := by rw [htk]; simpa using hqv
        rw [List.getElem?_take] at h2
        split at h2
        · simpa using h2
        · cases h2
      exact ⟨g, cap, hv, hb, by simpa using hc1, lt_of_heap hh, ⟨cur, hh⟩, hq 0 _ rfl, hq 1 _ rfl, hq 2 _ rfl, hq 3 _ rfl, hq 4 _ rfl⟩
  subst hv1
  obtain ⟨sa, sn, sc⟩ := s
  unfold Sl.v at k4
  simp only at k4
  have f2 : Below w1.heap.size w1 (w1.alloc (.cells #[] 51)) := bA (Below.refl _ _) _
  have HOC := hide (Orw.made cac 51 2 w1 w1.heap.size (Nat.le_refl _))
  have HLC := hide (((unhide HC).below f1).below f2)
  have F1 := hide f1
  have F2 := hide f2
  have HK := hide (And.intro k0 (And.intro k1 (And.intro k2 (And.intro k3 k4))))
  have HG := hide hlt1
  have HCUR := hide hcur
  clear hcur
  have HS := hide hsm
  simp only at HLC HS
  clear o1 g1 f1 f2 HO HL F0 k0 k1 k2 k3 hlt1 hsm
  go_wp2
  go_loopw [4] (fun vi W => (vi = .int .i64 0 ∧ W = w1) ∨ (vi = .int .i64 1 ∧ One9 x g w W)) (fun vi _ => 1 - (intOf vi).toNat)
  case atStart => exact .inl ⟨rfl, rfl⟩
  case round =>
    rcases hrel with ⟨rfl, hw⟩ | ⟨rfl, hO⟩
    · have hw' := hw.symm
      clear hw
      subst hw'
      have k4a : (w1.alloc (.cells #[] 51)).cell? ⟨g, 4, none⟩ = some (.slice sa sn sc) := ((unhide F2).cell (World.block_lt_of_cell? _ _ k4)).trans k4
      go_wp2_with (at_builtin; refine listR_append rkC rfl _ _ rfl w1.heap.size _ _ rfl (unhide HOC) _ sn sc x.cs rfl (unhide HLC) (unhide HN) (by have := unhide HS; simp; omega) (by have := unhide HS; simp; omega) (unhide F2).size ?_)
      intro v2 w2 o2 g2
      have f2 := grown_below (unhide F2) (unhide HOC) g2
      obtain ⟨k0, k1, k2, k3, k4⟩ := unhide HK
      have e4 := (f2.cell (World.block_lt_of_cell? _ _ k4)).trans k4
      obtain ⟨ta, tc, hv2, hn2, _⟩ := o2.form
      subst hv2
      have hone : One9 x g w (w2.setCell ⟨g, 4, none⟩ (.slice ta x.cs.length tc)) := by
        have hkk : ∀ q v, w1.cell? ⟨g, q, none⟩ = some v → q ≠ 4 → (w2.setCell ⟨g, 4, none⟩ (.slice ta x.cs.length tc)).cell? ⟨g, q, none⟩ = some v := fun q v hq hne => by
          have hn : (⟨g, 4, none⟩ : Addr) ≠ ⟨g, q, none⟩ := by intro e; injection e with _ e; exact hne e.symm
          refine (by first | exact World.cell?_setCell_other _ _ _ _ hn | exact World.cell?_setCell_other _ _ _ hn : _ = w2.cell? ⟨g, q, none⟩).trans ?_
          exact (f2.cell (World.block_lt_of_cell? _ _ hq)).trans hq
        have o3 : Orw cac 51 2 (w2.setCell ⟨g, 4, none⟩ (.slice ta x.cs.length tc)) w1.heap.size (.slice ta x.cs.length tc) x.cs := o2.below fun k hk => heap_setCell_other _ _ _ _ (by have := (o2.lt k hk).1; have := unhide HG; simp only; omega)
        refine ⟨⟨⟨ta, x.cs.length, tc⟩, ?_, ⟨hkk 0 _ k0 (by decide), hkk 1 _ k1 (by decide), hkk 2 _ k2 (by decide), hkk 3 _ k3 (by decide), (by first | exact World.cell?_setCell_same _ _ _ e4 | exact World.cell?_setCell_same _ _ e4 | exact World.cell?_setCell_same _ e4)⟩, o3.ls rkC, hn2⟩, ((unhide F1).trans (f2.mono (unhide F1).size)).setCell hg _⟩
        have := hkk 0 _ k0 (by decide)
        unfold World.cell? at this
        cases h : (w2.setCell ⟨g, 4, none⟩ (.slice ta x.cs.length tc)).heap[g]? with
        | none => simp [h] at this
        | some _ => rfl
      have HONE := hide hone
      have th := bx_thaw ((f2.block _ (unhide HG)).trans (unhide HCUR)) 4
      clear o2 g2 f2 hone k0 k1 k2 k3
      go_wp2
      go_roundw
      case rel => exact .inr ⟨rfl, unhide HONE⟩
      case measure => simp [intOf]
    · have HONE := hide hO
      clear hO
      go_wp2
      go_ret
      exact ⟨g, cap, rfl, hg, unhide HONE⟩
set_option maxHeartbeats 8000000 in
theorem ctells_walk (w : World) (hT : Tab9 w) (hS : Tab9s w) (at0 op a b : Int) (sa : Option Addr) (sn sc : Nat) (cs : List Cas) (hI : Ls 2 cac w sa sn cs) (hnil : sa = none → sn = 0 ∧ sc = 0) (hsm : sn * 16 ≤ 140737488351232) :
    Calls Tryd.prog 5 #[.agg #[.int .i64 at0, .int .i64 op, .int .i64 a, .int .i64 b, .slice sa sn sc]] w fun e w' => e = .returned (.bool true) ∧ Below w.heap.size w w' := by
  have hcl : cs.length = sn := hI.1
  obtain ⟨w0, hw0, hb0, f0⟩ : ∃ w0, w0 = w.alloc (.cells #[.int .i64 at0, .int .i64 op, .int .i64 a, .int .i64 b, .slice sa sn sc] 38) ∧ w0.heap[w.heap.size]? = some (.cells #[.int .i64 at0, .int .i64 op, .int .i64 a, .int .i64 b, .slice sa sn sc] 38 (0, 0)) ∧ Below w.heap.size w w0 := ⟨_, rfl, heap_alloc_last _ _, bA (Below.refl _ _) _⟩
  have hsz0 : w0.heap.size = w.heap.size + 1 := by rw [hw0]; simp
  obtain ⟨w1, hw1, hl1, f1⟩ : ∃ w1, w1 = w0.alloc (.cells #[.int .i64 at0, .int .i64 op, .int .i64 a, .int .i64 b, .slice sa sn sc] 38) ∧ Ls 5 inc w1 (some ⟨w.heap.size + 1, 0, none⟩) 1 [⟨⟨at0, op, a, b, cs⟩, ⟨sa, sn, sc⟩⟩] ∧ Below w0.heap.size w0 w1 := ⟨_, rfl, by have := ins_lit w0 ⟨at0, op, a, b, cs⟩ ⟨sa, sn, sc⟩; rw [hsz0] at this; exact this, bA (Below.refl _ _) _⟩
  have F1 := f0.trans (f1.mono f0.size)
  have HOWN := hide (own9_one w1 (w.heap.size + 1) 1 ⟨at0, op, a, b, cs⟩ ⟨sa, sn, sc⟩ hl1 (hI.below F1) hnil hsm)
  have HW1 : Hid (w1 = (w.alloc (.cells #[.int .i64 at0, .int .i64 op, .int .i64 a, .int .i64 b, .slice sa sn sc] 38)).alloc (.cells #[.int .i64 at0, .int .i64 op, .int .i64 a, .int .i64 b, .slice sa sn sc] 38)) := by rw [hw0] at hw1; exact hw1
  have HT := hide (And.intro hT hS)
  have HI0 := hide hI
  have HB0 : Hid (w1.heap[w.heap.size]? = some (.cells #[.int .i64 at0, .int .i64 op, .int .i64 a, .int .i64 b, .slice sa sn sc] 38 (0, 0))) := (f1.block _ (lt_of_heap hb0)).trans hb0
  have HF1 := hide F1
  clear hT hS hI hw0 f0 hb0 hnil hsz0 hw1 hl1 f1 F1
  go_enter Tryd.func5, Tryd.ntmps5
  go_wp2_with fail
  rw [← unhide HW1]
  refine (unhide HOWN).mono ?_
  rintro e w2 ⟨g, gk, rfl, hg, ⟨⟨xa, xn, xc⟩, _, ⟨c0, c1, c2, c3, c4⟩, hl2, hn2⟩, f2⟩
  unfold Sl.v at c4
  simp only at c0 c1 c2 c3 c4 hl2 hn2
  have hxn : cs.length = xn := hl2.1
  have ep : plainOA op a = ((plainOA op a).1, (plainOA op a).2) := rfl
  generalize (plainOA op a).1 = op1 at ep
  generalize (plainOA op a).2 = a1 at ep
  have htl := targ_few ⟨at0, op, a, b, cs⟩
  simp only at htl
  generalize hTT : targP ⟨at0, op, a, b, cs⟩ = T at htl
  generalize hFF : fallsK op = F
  have hTL : T.length ≤ 9000000000000 := by omega
  have EP := hide ep
  have ET0 := hide hTT
  have EF0 := hide hFF
  have HTL := hide hTL
  clear ep hTT hFF hTL htl HOWN
  have F2 := (unhide HF1).trans (f2.mono (unhide HF1).size)
  obtain ⟨w3, hw3, hb3, f3⟩ : ∃ w3, w3 = w2.alloc (.cells #[.int .i64 at0, .int .i64 op, .int .i64 a, .int .i64 b, .slice xa xn xc] 38) ∧ w3.heap[w2.heap.size]? = some (.cells #[.int .i64 at0, .int .i64 op, .int .i64 a, .int .i64 b, .slice xa xn xc] 38 (0, 0)) ∧ Below w2.heap.size w2 w3 := ⟨_, rfl, heap_alloc_last _ _, bA (Below.refl _ _) _⟩
  have F3 := hide (F2.trans (f3.mono F2.size))
  have hb31 : w3.heap[w.heap.size]? = some (.cells #[.int .i64 at0, .int .i64 op, .int .i64 a, .int .i64 b, .slice sa sn sc] 38 (0, 0)) := (f3.block _ (Nat.lt_of_lt_of_le (lt_of_heap (unhide HB0)) f2.size)).trans ((f2.block _ (lt_of_heap (unhide HB0))).trans (unhide HB0))
  have KB : Hid (∀ W, Below w3.heap.size w3 W → (W.cell? ⟨w2.heap.size, 0, none⟩ = some (.int .i64 at0) ∧ W.cell? ⟨w2.heap.size, 1, none⟩ = some (.int .i64 op) ∧ W.cell? ⟨w2.heap.size, 2, none⟩ = some (.int .i64 a) ∧ W.cell? ⟨w2.heap.size, 3, none⟩ = some (.int .i64 b) ∧ W.cell? ⟨w2.heap.size, 4, none⟩ = some (.slice xa xn xc)) ∧ W.cell? ⟨w.heap.size, 0, none⟩ = some (.int .i64 at0) ∧ W.cell? ⟨w.heap.size, 1, none⟩ = some (.int .i64 op) ∧ W.cell? ⟨w.heap.size, 2, none⟩ = some (.int .i64 a) ∧ W.cell? ⟨w.heap.size, 3, none⟩ = some (.int .i64 b) ∧ W.cell? ⟨w.heap.size, 4, none⟩ = some (.slice sa sn sc)) := fun W f => by
    have h1 := (f.block _ (lt_of_heap hb3)).trans hb3
    have h2 := (f.block _ (lt_of_heap hb31)).trans hb31
    exact ⟨⟨bx_cell h1 0 _ rfl, bx_cell h1 1 _ rfl, bx_cell h1 2 _ rfl, bx_cell h1 3 _ rfl, bx_cell h1 4 _ rfl⟩, bx_cell h2 0 _ rfl, bx_cell h2 1 _ rfl, bx_cell h2 2 _ rfl, bx_cell h2 3 _ rfl, bx_cell h2 4 _ rfl⟩
  have HX : Hid (Ls 2 cac w3 xa xn cs ∧ (xa = none → xn = 0 ∧ xc = 0)) := ⟨hl2.below f3, hn2⟩
  have HI := hide ((unhide HI0).below (unhide F3))
  have HW3 := hide hw3
  clear hw3 hb3 f3 hb31 F2 f2 hl2 hn2
  go_wp2_with fail
  clear c0 c1 c2 c3 c4
  rw [← unhide HW3]
  refine wp_region_tells (fun u v => Below u.heap.size u v) [
    (fun v W => v = .agg #[.int .i64 at0, .int .i64 op, .int .i64 a, .int .i64 b, .slice xa xn xc]),
    (fun v W => ∃ s : Sl, v = .agg #[.int .i64 at0, .int .i64 op1, .int .i64 a1, .int .i64 b, s.v] ∧ Ls 2 cac W s.a s.n cs),
    (fun v W => ∃ (p : Nat) (s : Sl), v = .slice (some ⟨p, 0, none⟩) 1 1 ∧ Ls 5 inc W (some ⟨p, 0, none⟩) 1 [⟨⟨at0, op1, a1, b, cs⟩, s⟩] ∧ Ls 2 cac W s.a s.n cs),
    (fun v W => v = .agg #[.int .i64 at0, .int .i64 op, .int .i64 a, .int .i64 b, .slice sa sn sc]),
    (fun v W => v = .agg #[.int .i64 at0, .int .i64 op1, .int .i64 a1, .int .i64 b, .slice sa sn sc]),
    (fun v W => ∃ (p : Nat) (s : Sl), v = .slice (some ⟨p, 0, none⟩) 1 1 ∧ Ls 5 inc W (some ⟨p, 0, none⟩) 1 [⟨⟨at0, op1, a1, b, cs⟩, s⟩] ∧ Ls 2 cac W s.a s.n cs),
    (fun v W => v = .bool true),
    (fun v W => v = .bool true),
    (fun v W => v = .agg #[.int .i64 at0, .int .i64 op, .int .i64 a, .int .i64 b, .slice xa xn xc]),
    (fun v W => ∃ (ad : Option Addr) (c : Nat), v = .slice ad T.length c ∧ Ls 1 ic W ad T.length T),
    (fun v W => v = .agg #[.int .i64 at0, .int .i64 op, .int .i64 a, .int .i64 b, .slice sa sn sc]),
    (fun v W => ∃ (ad : Option Addr) (c : Nat), v = .slice ad T.length c ∧ Ls 1 ic W ad T.length T),
    (fun v W => v = .bool true),
    (fun v W => v = .bool true),
    (fun v W => v = .bool true),
    (fun v W => v = .agg #[.int .i64 at0, .int .i64 op, .int .i64 a, .int .i64 b, .slice xa xn xc]),
    (fun v W => v = .bool F),
    (fun v W => v = .agg #[.int .i64 at0, .int .i64 op, .int .i64 a, .int .i64 b, .slice sa sn sc]),
    (fun v W => v = .bool F),
    (fun v W => v = .bool true),
    (fun v W => v = .bool true),
    (fun v W => v = .bool true),
    (fun v W => v = .bool true),
    (fun v W => v = .bool true),
    (fun v W => v = .bool true)] 33
    [[], [(0, some 9)], [(1, some 10)], [], [(3, some 12)], [(4, some 13)], [(2, some 11), (5, some 14)], [(6, some 15)], [(7, some 16)], [(7, some 16), (8, some 17)], [(7, some 16)], [(7, some 16), (10, some 19)], [(7, some 16), (9, some 18), (11, some 20)], [(7, some 16), (12, some 21)], [(13, some 22)], [(14, some 23)], [(14, some 23), (15, some 24)], [(14, some 23)], [(14, some 23), (17, some 26)], [(14, some 23), (16, some 25), (18, some 27)], [(14, some 23), (19, some 28)], [(20, some 29)], [(21, some 30)], [(21, some 30), (22, some 31)], [(23, some 32)]]
    [(0, some 9), (1, some 10), (2, some 11), (3, some 12), (4, some 13), (5, some 14), (6, some 15), (7, some 16), (8, some 17), (9, some 18), (10, some 19), (11, some 20), (12, some 21), (13, some 22), (14, some 23), (15, some 24), (16, some 25), (17, some 26), (18, some 27), (19, some 28), (20, some 29), (21, some 30), (22, some 31), (23, some 32), (24, some 2)]
    (by kernel_rfl) (by kernel_rfl) rfl (fun _ => Below.refl _ _) (fun _ _ _ h1 h2 => h1.trans (h2.mono h1.size)) ?_ ?_ ?_
  · intro r hr
    simp only [List.mem_cons, List.not_mem_nil, or_false] at hr
    rcases hr with rfl | rfl | rfl | rfl | rfl | rfl | rfl | rfl | rfl | rfl | rfl | rfl | rfl | rfl | rfl | rfl | rfl | rfl | rfl | rfl | rfl | rfl | rfl | rfl | rfl
    · intro v W W2 h f
      exact h
    · intro v W W2 h f
      obtain ⟨s, rfl, h1⟩ := h
      exact ⟨s, rfl, h1.below f⟩
    · intro v W W2 h f
      obtain ⟨p, s, rfl, h1, h2⟩ := h
      exact ⟨p, s, rfl, h1.below f, h2.below f⟩
    · intro v W W2 h f
      exact h
    · intro v W W2 h f
      exact h
    · intro v W W2 h f
      obtain ⟨p, s, rfl, h1, h2⟩ := h
      exact ⟨p, s, rfl, h1.below f, h2.below f⟩
    · intro v W W2 h f
      exact h
    · intro v W W2 h f
      exact h
    · intro v W W2 h f
      exact h
    · intro v W W2 h f
      obtain ⟨ad, c, rfl, h1⟩ := h
      exact ⟨ad, c, rfl, h1.below f⟩
    · intro v W W2 h f
      exact h
    · intro v W W2 h f
      obtain ⟨ad, c, rfl, h1⟩ := h
      exact ⟨ad, c, rfl, h1.below f⟩
    · intro v W W2 h f
      exact h
    · intro v W W2 h f
      exact h
    · intro v W W2 h f
      exact h
    · intro v W W2 h f
      exact h
    · intro v W W2 h f
      exact h
    · intro v W W2 h f
      exact h
    · intro v W W2 h f
      exact h
    · intro v W W2 h f
      exact h
    · intro v W W2 h f
      exact h
    · intro v W W2 h f
      exact h
    · intro v W W2 h f
      exact h
    · intro v W W2 h f
      exact h
    · intro v W W2 h f
      exact h
  · refine ⟨?_, ?_, ?_, ?_, ?_, ?_, ?_, ?_, ?_, ?_, ?_, ?_, ?_, ?_, ?_, ?_, ?_, ?_, ?_, ?_, ?_, ?_, ?_, ?_, ?_, trivial⟩
    · intro W hG
      have HG : Below w3.heap.size w3 W := (Below.refl _ _).drew.trans hG
      simp only [ForDeps, rAt]
      obtain ⟨⟨p0, p1, p2, p3, p4⟩, q0, q1, q2, q3, q4⟩ := unhide KB W HG
      refine Tells.yields (v := ?_) (by rfl) (Below.refl _ _) ?_ ?_
      rotate_left
      focus ((go_simp) <;> with_reducible rfl)
      exact rfl
    · intro W hG
      have HG : Below w3.heap.size w3 W := (Below.refl _ _).drew.trans hG
      simp only [ForDeps, rAt]
      rintro _ rfl
      simp only [Act.put, List.setIfInBounds_toArray, List.set_cons_zero, List.set_cons_succ]
      refine Tells.does (by rfl) (fun K hK => ?_)
      have HC := hPlain_any W at0 op a b ⟨xa, xn, xc⟩ cs ((unhide HX).1.below HG) (unhide HX).2 (by simp only; omega) ((unhide HT).2.below ((unhide F3).trans (HG.mono (unhide F3).size)))
      unfold plain_post at HC
      rw [unhide EP] at HC
      unfold Sl.v at HC
      simp only at HC
      go_simp
      go_wp2_with (go_at_call 19; refine HC.mono ?_; rintro e W' ⟨s, rfl, o, f⟩)
      exact hK.out _ _ f ⟨s, rfl, o.ls rkC⟩
    · intro W hG
      have HG : Below w3.heap.size w3 W := (Below.refl _ _).drew.trans hG
      simp only [ForDeps, rAt]
      rintro x1 ⟨⟨ya, yn, yc⟩, rfl, hy⟩
      simp only [Act.put, List.setIfInBounds_toArray, List.set_cons_zero, List.set_cons_succ]
      refine Tells.does (by rfl) (fun K hK => ?_)
      go_simp
      exact hK.out _ _ (bA (Below.refl _ _) _) ⟨_, ⟨ya, yn, yc⟩, rfl, ins_lit W ⟨at0, op1, a1, b, cs⟩ ⟨ya, yn, yc⟩, hy.below (bA (Below.refl _ _) _)⟩
    · intro W hG
      have HG : Below w3.heap.size w3 W := (Below.refl _ _).drew.trans hG
      simp only [ForDeps, rAt]
      obtain ⟨⟨p0, p1, p2, p3, p4⟩, q0, q1, q2, q3, q4⟩ := unhide KB W HG
      refine Tells.yields (v := ?_) (by rfl) (Below.refl _ _) ?_ ?_
      rotate_left
      focus ((go_simp) <;> with_reducible rfl)
      exact rfl
    · intro W hG
      have HG : Below w3.heap.size w3 W := (Below.refl _ _).drew.trans hG
      simp only [ForDeps, rAt]
      rintro _ rfl
      simp only [Act.put, List.setIfInBounds_toArray, List.set_cons_zero, List.set_cons_succ]
      refine Tells.does (by rfl) (fun K hK => ?_)
      have HC := o9Plain_any W at0 op a b sa sn sc
      rw [unhide EP] at HC
      simp only at HC
      go_simp
      go_wp2_with (go_at_call 20; refine HC.mono ?_; rintro e W' ⟨rfl, f⟩)
      exact hK.out _ _ f rfl
    · intro W hG
      have HG : Below w3.heap.size w3 W := (Below.refl _ _).drew.trans hG
      simp only [ForDeps, rAt]
      rintro _ rfl
      simp only [Act.put, List.setIfInBounds_toArray, List.set_cons_zero, List.set_cons_succ]
      refine Tells.does (by rfl) (fun K hK => ?_)
      go_simp
      exact hK.out _ _ (bA (Below.refl _ _) _) ⟨_, ⟨sa, sn, sc⟩, rfl, ins_lit W ⟨at0, op1, a1, b, cs⟩ ⟨sa, sn, sc⟩, ((unhide HI).below HG).below (bA (Below.refl _ _) _)⟩
    · intro W hG
      have HG : Below w3.heap.size w3 W := (Below.refl _ _).drew.trans hG
      simp only [ForDeps, rAt]
      rintro x2 ⟨p2, ⟨s2, m2, k2⟩, rfl, l2, c2⟩ x5 ⟨p5, ⟨s5, m5, k5⟩, rfl, l5, c5⟩
      simp only [Act.put, List.setIfInBounds_toArray, List.set_cons_zero, List.set_cons_succ]
      refine Tells.does (by rfl) (fun K hK => ?_)
      have HC := SameInstrs_same W (some ⟨p2, 0, none⟩) (some ⟨p5, 0, none⟩) 1 1 1 _ _ l2 l5 rfl (fun r hr => by rw [List.mem_singleton.1 hr]; exact c2) (fun r hr => by rw [List.mem_singleton.1 hr]; exact c5) (by omega) (fun r hr => by rw [List.mem_singleton.1 hr]; have := c2.1; simp only at this ⊢; omega)
      go_simp
      go_wp2_with (go_at_call 12; refine HC.mono ?_; rintro e W' ⟨rfl, f⟩)
      exact hK.out _ _ f rfl
    · intro W hG
      have HG : Below w3.heap.size w3 W := (Below.refl _ _).drew.trans hG
      simp only [ForDeps, rAt]
      rintro _ rfl
      simp only [Act.put, List.setIfInBounds_toArray, List.set_cons_zero, List.set_cons_succ]
      refine Tells.yields (v := ?_) (by rfl) (Below.refl _ _) ?_ ?_
      rotate_left
      focus ((go_simp) <;> with_reducible rfl)
      exact rfl
    · intro W hG
      have HG : Below w3.heap.size w3 W := (Below.refl _ _).drew.trans hG
      simp only [ForDeps, rAt]
      rintro _ rfl
      simp only [Act.put, List.setIfInBounds_toArray, List.set_cons_zero, List.set_cons_succ]
      obtain ⟨⟨p0, p1, p2, p3, p4⟩, q0, q1, q2, q3, q4⟩ := unhide KB W HG
      refine Tells.yields (v := ?_) (by rfl) (Below.refl _ _) ?_ ?_
      rotate_left
      focus ((go_simp) <;> with_reducible rfl)
      exact rfl
    · intro W hG
      have HG : Below w3.heap.size w3 W := (Below.refl _ _).drew.trans hG
      simp only [ForDeps, rAt]
      rintro _ rfl _ rfl
      simp only [Act.put, List.setIfInBounds_toArray, List.set_cons_zero, List.set_cons_succ]
      refine Tells.does (by rfl) (fun K hK => ?_)
      have HC := hTargets_any W at0 op a b ⟨xa, xn, xc⟩ cs ((unhide HX).1.below HG) (by simp only; omega) ((unhide HT).1.below ((unhide F3).trans (HG.mono (unhide F3).size)))
      rw [unhide ET0] at HC
      unfold Sl.v at HC
      simp only at HC
      go_simp
      go_wp2_with (go_at_call 22; refine HC.mono ?_; rintro e W' ⟨v, rfl, o, f⟩)
      obtain ⟨ta, tc, hv, _⟩ := o.form
      subst hv
      exact hK.out _ _ f ⟨ta, tc, rfl, o.ls rkI⟩
    · intro W hG
      have HG : Below w3.heap.size w3 W := (Below.refl _ _).drew.trans hG
      simp only [ForDeps, rAt]
      rintro _ rfl
      simp only [Act.put, List.setIfInBounds_toArray, List.set_cons_zero, List.set_cons_succ]
      obtain ⟨⟨p0, p1, p2, p3, p4⟩, q0, q1, q2, q3, q4⟩ := unhide KB W HG
      refine Tells.yields (v := ?_) (by rfl) (Below.refl _ _) ?_ ?_
      rotate_left
      focus ((go_simp) <;> with_reducible rfl)
      exact rfl
    · intro W hG
      have HG : Below w3.heap.size w3 W := (Below.refl _ _).drew.trans hG
      simp only [ForDeps, rAt]
      rintro _ rfl _ rfl
      simp only [Act.put, List.setIfInBounds_toArray, List.set_cons_zero, List.set_cons_succ]
      refine Tells.does (by rfl) (fun K hK => ?_)
      have HC := o9Targets_any W at0 op a b ⟨sa, sn, sc⟩ cs ((unhide HI).below HG) (by simp only; omega)
      rw [unhide ET0] at HC
      unfold Sl.v at HC
      simp only at HC
      go_simp
      go_wp2_with (go_at_call 23; refine HC.mono ?_; rintro e W' ⟨v, rfl, o, f⟩)
      obtain ⟨ta, tc, hv, _⟩ := o.form
      subst hv
      exact hK.out _ _ f ⟨ta, tc, rfl, o.ls rkI⟩
    · intro W hG
      have HG : Below w3.heap.size w3 W := (Below.refl _ _).drew.trans hG
      simp only [ForDeps, rAt]
      rintro _ rfl x9 ⟨a9, c9, rfl, l9⟩ x11 ⟨a11, c11, rfl, l11⟩
      simp only [Act.put, List.setIfInBounds_toArray, List.set_cons_zero, List.set_cons_succ]
      refine Tells.does (by rfl) (fun K hK => ?_)
      have HC := SameInts_ic W a9 a11 T.length c9 c11 T l9 l11 (unhide HTL)
      go_simp
      go_wp2_with (go_at_call 21; refine HC.mono ?_; rintro e W' ⟨rfl, f⟩)
      exact hK.out _ _ f rfl
    · intro W hG
      have HG : Below w3.heap.size w3 W := (Below.refl _ _).drew.trans hG
      simp only [ForDeps, rAt]
      rintro _ rfl _ rfl
      simp only [Act.put, List.setIfInBounds_toArray, List.set_cons_zero, List.set_cons_succ]
      refine Tells.yields (v := ?_) (by rfl) (Below.refl _ _) ?_ ?_
      rotate_left
      focus ((go_simp) <;> with_reducible rfl)
      exact rfl
    · intro W hG
      have HG : Below w3.heap.size w3 W := (Below.refl _ _).drew.trans hG
      simp only [ForDeps, rAt]
      rintro _ rfl
      simp only [Act.put, List.setIfInBounds_toArray, List.set_cons_zero, List.set_cons_succ]
      refine Tells.yields (v := ?_) (by rfl) (Below.refl _ _) ?_ ?_
      rotate_left
      focus ((go_simp) <;> with_reducible rfl)
      exact rfl
    · intro W hG
      have HG : Below w3.heap.size w3 W := (Below.refl _ _).drew.trans hG
      simp only [ForDeps, rAt]
      rintro _ rfl
      simp only [Act.put, List.setIfInBounds_toArray, List.set_cons_zero, List.set_cons_succ]
      obtain ⟨⟨p0, p1, p2, p3, p4⟩, q0, q1, q2, q3, q4⟩ := unhide KB W HG
      refine Tells.yields (v := ?_) (by rfl) (Below.refl _ _) ?_ ?_
      rotate_left
      focus ((go_simp) <;> with_reducible rfl)
      exact rfl
    · intro W hG
      have HG : Below w3.heap.size w3 W := (Below.refl _ _).drew.trans hG
      simp only [ForDeps, rAt]
      rintro _ rfl _ rfl
      simp only [Act.put, List.setIfInBounds_toArray, List.set_cons_zero, List.set_cons_succ]
      refine Tells.does (by rfl) (fun K hK => ?_)
      have HC := hFalls_any W at0 op a b (.slice xa xn xc)
      rw [unhide EF0] at HC
      go_simp
      go_wp2_with (go_at_call 24; refine HC.mono ?_; rintro e W' ⟨rfl, f⟩)
      exact hK.out _ _ f rfl
    · intro W hG
      have HG : Below w3.heap.size w3 W := (Below.refl _ _).drew.trans hG
      simp only [ForDeps, rAt]
      rintro _ rfl
      simp only [Act.put, List.setIfInBounds_toArray, List.set_cons_zero, List.set_cons_succ]
      obtain ⟨⟨p0, p1, p2, p3, p4⟩, q0, q1, q2, q3, q4⟩ := unhide KB W HG
      refine Tells.yields (v := ?_) (by rfl) (Below.refl _ _) ?_ ?_
      rotate_left
      focus ((go_simp) <;> with_reducible rfl)
      exact rfl
    · intro W hG
      have HG : Below w3.heap.size w3 W := (Below.refl _ _).drew.trans hG
      simp only [ForDeps, rAt]
      rintro _ rfl _ rfl
      simp only [Act.put, List.setIfInBounds_toArray, List.set_cons_zero, List.set_cons_succ]
      refine Tells.does (by rfl) (fun K hK => ?_)
      have HC := o9Falls_any W at0 op a b (.slice sa sn sc)
      rw [unhide EF0] at HC
      go_simp
      go_wp2_with (go_at_call 25; refine HC.mono ?_; rintro e W' ⟨rfl, f⟩)
      exact hK.out _ _ f rfl
    · intro W hG
      have HG : Below w3.heap.size w3 W := (Below.refl _ _).drew.trans hG
      simp only [ForDeps, rAt]
      rintro _ rfl _ rfl _ rfl
      simp only [Act.put, List.setIfInBounds_toArray, List.set_cons_zero, List.set_cons_succ]
      obtain ⟨⟨p0, p1, p2, p3, p4⟩, q0, q1, q2, q3, q4⟩ := unhide KB W HG
      refine Tells.yields (v := ?_) (by rfl) (Below.refl _ _) ?_ ?_
      rotate_left
      focus ((go_simp) <;> with_reducible rfl)
      exact rfl
    · intro W hG
      have HG : Below w3.heap.size w3 W := (Below.refl _ _).drew.trans hG
      simp only [ForDeps, rAt]
      rintro _ rfl _ rfl
      simp only [Act.put, List.setIfInBounds_toArray, List.set_cons_zero, List.set_cons_succ]
      refine Tells.yields (v := ?_) (by rfl) (Below.refl _ _) ?_ ?_
      rotate_left
      focus ((go_simp) <;> with_reducible rfl)
      exact rfl
    · intro W hG
      have HG : Below w3.heap.size w3 W := (Below.refl _ _).drew.trans hG
      simp only [ForDeps, rAt]
      rintro _ rfl
      simp only [Act.put, List.setIfInBounds_toArray, List.set_cons_zero, List.set_cons_succ]
      refine Tells.yields (v := ?_) (by rfl) (Below.refl _ _) ?_ ?_
      rotate_left
      focus ((go_simp) <;> with_reducible rfl)
      exact rfl
    · intro W hG
      have HG : Below w3.heap.size w3 W := (Below.refl _ _).drew.trans hG
      simp only [ForDeps, rAt]
      rintro _ rfl
      simp only [Act.put, List.setIfInBounds_toArray, List.set_cons_zero, List.set_cons_succ]
      refine Tells.does (by rfl) (fun K hK => ?_)
      have HC := works9_any W ((unhide HT).1.below ((unhide F3).trans (HG.mono (unhide F3).size))) ((unhide HT).2.below ((unhide F3).trans (HG.mono (unhide F3).size)))
      go_simp
      go_wp2_with (go_at_call 14; refine HC.mono ?_; rintro e W' ⟨rfl, f⟩)
      exact hK.out _ _ f rfl
    · intro W hG
      have HG : Below w3.heap.size w3 W := (Below.refl _ _).drew.trans hG
      simp only [ForDeps, rAt]
      rintro _ rfl _ rfl
      simp only [Act.put, List.setIfInBounds_toArray, List.set_cons_zero, List.set_cons_succ]
      refine Tells.yields (v := ?_) (by rfl) (Below.refl _ _) ?_ ?_
      rotate_left
      focus ((go_simp) <;> with_reducible rfl)
      exact rfl
    · intro W hG
      have HG : Below w3.heap.size w3 W := (Below.refl _ _).drew.trans hG
      simp only [ForDeps, rAt]
      rintro _ rfl
      simp only [Act.put, List.setIfInBounds_toArray, List.set_cons_zero, List.set_cons_succ]
      refine Tells.yields (v := ?_) (by rfl) (Below.refl _ _) ?_ ?_
      rotate_left
      focus ((go_simp) <;> with_reducible rfl)
      exact rfl
  · intro W hG
    have HG : Below w3.heap.size w3 W := (Below.refl _ _).drew.trans hG
    simp only [ForDeps, rAt]
    intro x0 h0 x1 h1 x2 h2 x3 h3 x4 h4 x5 h5 x6 h6 x7 h7 x8 h8 x9 h9 x10 h10 x11 h11 x12 h12 x13 h13 x14 h14 x15 h15 x16 h16 x17 h17 x18 h18 x19 h19 x20 h20 x21 h21 x22 h22 x23 h23 x24 h24
    simp only [Act.put, List.setIfInBounds_toArray, List.set_cons_zero, List.set_cons_succ]
    subst h24
    have F4 := hide ((unhide F3).trans (HG.mono (unhide F3).size))
    clear hG HG
    go_wp2
    go_ret
    exact ⟨rfl, unhide F4⟩
end Go.Proofs.YtpmhcignenfhgaaDoor
