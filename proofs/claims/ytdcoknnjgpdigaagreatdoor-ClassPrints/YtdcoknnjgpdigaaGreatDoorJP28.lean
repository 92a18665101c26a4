/- Joined: TxC TxD TxE. -/
import Derived.Test.YtdcoknnjgpdigaaGreatDoorJP25
import Derived.Test.YtdcoknnjgpdigaaGreatDoorJP8

/- Regions that draw their order and end with one operation that waits for all others: these in any order, as in TxB, then that one. -/
namespace Go.Proofs.YtdcoknnjgpdigaaGreatDoor
open Go.RowKit
set_option linter.unusedVariables false

section
variable {P : Program} {ops : Array Oper} {Q : Exit → Act → World → Prop} {G : World → World → Prop} {R : Nat → Value → World → Prop}

/-- Each operation but the last is waited for by one behind it. -/
def lastOk (ops : Array Oper) (n : Nat) : Bool := (List.range n).all fun j => (List.range (n + 1)).any fun i => decide (j < i) && (match ops[i]? with | some o => waitsFor o j | none => false)
theorem lastOk_spec {n : Nat} (h : lastOk ops n = true) {j : Nat} (hj : j < n) : ∃ i o, j < i ∧ i ≤ n ∧ ops[i]? = some o ∧ waitsFor o j = true := by
  have h1 := List.all_eq_true.1 h j (List.mem_range.2 hj)
  obtain ⟨i, hi, h2⟩ := List.any_eq_true.1 h1
  rw [Bool.and_eq_true, decide_eq_true_eq] at h2
  cases ho : ops[i]? with
  | none => simp [ho] at h2
  | some o => exact ⟨i, o, h2.1, by have := List.mem_range.1 hi; omega, ho, by simpa [ho] using h2.2⟩
theorem wpAny_full {fuel : Nat} {listed : Array Bool} {a : Act} {w : World} (hr : Region.ready .any ops listed = []) (h : Q .normal a w) : wpAny P .any ops Q fuel listed a w := by
  cases fuel with
  | zero => exact ⟨hr, h⟩
  | succ f => exact ⟨fun _ => h, fun i hi => by rw [hr] at hi; cases hi⟩
/-- What is to be shown of the operations but the last. -/
def OblsL (P : Program) (ops : Array Oper) (G : World → World → Prop) (R : Nat → Value → World → Prop) (Q : Exit → Act → World → Prop) (fin : List (Nat × Option Tmp)) (w0 : World) (a0 : Act) : List Oper → List (List (Nat × Option Tmp)) → Nat → Prop
  | [o], [_], _ => ∀ w, G w0 w → ForDeps R w (fun a => Tells P ops (fun _ _ => True) (fun v w' => Q .normal (a.put o.dst v) w') o a w) fin a0
  | o :: l, d :: ds, i => (∀ w, G w0 w → ForDeps R w (fun a => Tells P ops G (R i) o a w) d a0) ∧ OblsL P ops G R Q fin w0 a0 l ds (i + 1)
  | _, _, _ => False
theorem OblsL.at {fin : List (Nat × Option Tmp)} {w0 : World} {a0 : Act} : ∀ (l : List Oper) (ds : List (List (Nat × Option Tmp))) (k : Nat), OblsL P ops G R Q fin w0 a0 l ds k → ∀ i o, l[i]? = some o →
    (i + 1 ≠ l.length → ∀ w, G w0 w → ForDeps R w (fun a => Tells P ops G (R (k + i)) o a w) (ds.getD i []) a0) ∧ (i + 1 = l.length → ∀ w, G w0 w → ForDeps R w (fun a => Tells P ops (fun _ _ => True) (fun v w' => Q .normal (a.put o.dst v) w') o a w) fin a0)
  | [], _, _, h, i, o, hx => by simp at hx
  | [o], [], _, h, _, _, _ => h.elim
  | [o], [d], k, h, i, x, hx => by
    cases i with
    | zero => simp at hx; subst hx; exact ⟨fun e => absurd rfl e, fun _ => h⟩
    | succ i => simp at hx
  | [o], d :: d2 :: ds, k, h, _, _, _ => h.2.elim
  | o :: o2 :: l, [], k, h, _, _, _ => h.elim
  | o :: o2 :: l, d :: ds, k, h, i, x, hx => by
    cases i with
    | zero => simp at hx; subst hx; exact ⟨fun _ => h.1, fun e => by simp at e⟩
    | succ i =>
      have := OblsL.at (o2 :: l) ds (k + 1) h.2 i x (by simpa using hx)
      rw [show k + 1 + i = k + (i + 1) by omega] at this
      exact ⟨fun e => by simpa using this.1 (by simp at e ⊢; exact e), fun e => this.2 (by simp at e ⊢; exact e)⟩
end
end Go.Proofs.YtdcoknnjgpdigaaGreatDoor

/- Regions that draw their order and end with one operation that waits for all others: what holds of these alone, in any order, and then of that one. -/
namespace Go.Proofs.YtdcoknnjgpdigaaGreatDoor
open Go.RowKit
set_option linter.unusedVariables false

section
variable {P : Program} {Q : Exit → Act → World → Prop}

/-- What is asked of the text. -/
def splitOk (ops : Array Oper) (n : Nat) : Bool := decide (ops.size = n + 1) && lastOk ops n && (List.range (n + 1)).all fun i => match ops[i]? with
  | none => true
  | some o => o.after.all (fun e => !Region.binds .any e || decide (e.on < i)) && (match o.guard with | none => true | some g => decide (g.1 < n))
structure SplitOp (n i : Nat) (o : Oper) : Prop where
  back : ∀ e ∈ o.after, Region.binds .any e = true → e.on < i
  guard : ∀ g, o.guard = some g → g.1 < n
theorem splitOk_spec {ops : Array Oper} {n : Nat} (h : splitOk ops n = true) : ops.size = n + 1 ∧ lastOk ops n = true ∧ ∀ i o, ops[i]? = some o → SplitOp n i o := by
  unfold splitOk at h
  simp only [Bool.and_eq_true, decide_eq_true_eq] at h
  obtain ⟨⟨h1, h2⟩, h3⟩ := h
  refine ⟨h1, h2, fun i o ho => ?_⟩
  have hi := (Array.getElem?_eq_some_iff.1 ho).1
  have h4 := List.all_eq_true.1 h3 i (List.mem_range.2 (by omega))
  simp only [ho, Bool.and_eq_true] at h4
  refine ⟨fun e he hb => ?_, fun g hg => ?_⟩
  · have := (Array.all_eq_true_iff_forall_mem.1 h4.1) e he
    simpa [hb] using this
  · have := h4.2
    rw [hg] at this
    simpa using this
/-- The last operation, and then Q. -/
def thenLast (P : Program) (ops : Array Oper) (n : Nat) (Q : Exit → Act → World → Prop) : Exit → Act → World → Prop
  | .normal, a, w => wpOp P ops Q n (fun a' w' => Q .normal a' w') a w
  | ex, a, w => Q ex a w
theorem letsOut_thenLast {ops : Array Oper} {n : Nat} (h : LetsOut (thenLast P ops n Q)) : LetsOut Q := h
theorem wp_thenLast {ops : Array Oper} {n : Nat} {o : Oper} {a : Act} {w : World} {K : Act → World → Prop} (hh : o.wp P a w K (thenLast P ops n Q)) : o.wp P a w K Q := by
  unfold Oper.wp at *
  generalize (execOp a.eval o).run P w = r at *
  cases r with
  | ok n w' =>
    cases n <;> simp only [Oper.upon] at hh ⊢ <;>
      first
        | exact hh
        | exact Calls.mono hh (fun e w'' he => by cases e <;> exact he)
  | halt x w' => cases x <;> simp only [Oper.upon] at hh ⊢ <;> exact hh
theorem ready_pre {pre : List Oper} {o : Oper} {listed : Array Bool} (hs : listed.size = pre.length) {i : Nat} (hi : i < pre.length) (hb : ∀ i o', (pre ++ [o]).toArray[i]? = some o' → SplitOp pre.length i o') :
    i ∈ Region.ready .any (pre ++ [o]).toArray (listed.push false) ↔ i ∈ Region.ready .any pre.toArray listed := by
  rw [mem_ready, mem_ready]
  have e1 : (pre ++ [o]).toArray[i]? = pre.toArray[i]? := by simp [List.getElem?_append_left hi]
  have e2 : ∀ j, j < pre.length → (listed.push false).getD j true = listed.getD j true := fun j hj => by
    have h1 : j < listed.size := by omega
    simp [Array.getElem?_push, Nat.ne_of_lt h1]
  have e3 : ∀ j, j < pre.length → (listed.push false).getD j false = listed.getD j false := fun j hj => by
    have h1 : j < listed.size := by omega
    simp [Array.getElem?_push, Nat.ne_of_lt h1]
  rw [e1, e2 i hi]
  refine ⟨fun ⟨h1, o', h2, h3⟩ => ⟨h1, o', h2, fun e he hbb => ?_⟩, fun ⟨h1, o', h2, h3⟩ => ⟨h1, o', h2, fun e he hbb => ?_⟩⟩
  · have hlt := (hb i o' (by rw [e1]; exact h2)).back e he hbb
    rw [← e3 _ (by omega)]
    exact h3 e he hbb
  · have hlt := (hb i o' (by rw [e1]; exact h2)).back e he hbb
    rw [e3 _ (by omega)]
    exact h3 e he hbb
theorem wanted_pre {pre : List Oper} {o : Oper} {tmps : Array Value} {o' : Oper} (hg : ∀ g, o'.guard = some g → g.1 < pre.length) : Region.wanted o' (yielded (pre ++ [o]).toArray tmps) = Region.wanted o' (yielded pre.toArray tmps) := by
  unfold Region.wanted
  cases h : o'.guard with
  | none => rfl
  | some g =>
    obtain ⟨j, b⟩ := g
    have hj := hg _ h
    simp only at hj ⊢
    unfold yielded
    rw [show (pre ++ [o]).toArray[j]? = pre.toArray[j]? by simp [List.getElem?_append_left hj]]
/-- All that is listed has what it waits for listed. -/
def Shut9 (ops : Array Oper) (listed : Array Bool) : Prop := ∀ j o, ops[j]? = some o → listed.getD j false = true → ∀ e ∈ o.after, Region.binds .any e = true → listed.getD e.on false = true
theorem all_listed {ops : Array Oper} {n : Nat} (hk : ops.size = n + 1) (hlo : lastOk ops n = true) {listed : Array Bool} (hs : Shut9 ops listed) {o : Oper} (ho : ops[n]? = some o) (hall : ∀ e ∈ o.after, Region.binds .any e = true → listed.getD e.on false = true) : ∀ j, j < n → listed.getD j false = true := by
  have : ∀ d j, n - j = d → j < n → listed.getD j false = true := by
    intro d
    induction d using Nat.strongRecOn with
    | _ d ih2 =>
      intro j hd hj
      obtain ⟨k, ok, hjk, hki, hok', hwf⟩ := lastOk_spec hlo hj
      obtain ⟨e, he, hb, hon⟩ := waitsFor_spec hwf
      by_cases hk : k = n
      · subst hk
        rw [ho] at hok'
        injection hok' with hok'
        subst hok'
        have := hall e he hb
        rw [hon] at this
        exact this
      · have hl := ih2 (n - k) (by omega) k rfl (by omega)
        have := hs k ok hok' hl e he hb
        rw [hon] at this
        exact this
  exact fun j hj => this _ j rfl hj
theorem split_any {pre : List Oper} {o : Oper} (hok : splitOk (pre ++ [o]).toArray pre.length = true) : ∀ (fuel : Nat) (listed : Array Bool) (a : Act) (w : World), listed.size = pre.length → Shut9 (pre ++ [o]).toArray (listed.push false) →
    wpAny P .any pre.toArray (thenLast P (pre ++ [o]).toArray pre.length Q) fuel listed a w → wpAny P .any (pre ++ [o]).toArray Q (fuel + 1) (listed.push false) a w := by
  obtain ⟨hsz, hlo, hb⟩ := splitOk_spec hok
  have hon : (pre ++ [o]).toArray[pre.length]? = some o := by simp
  have key : ∀ (fuel : Nat) (listed : Array Bool) (a : Act) (w : World), listed.size = pre.length → Shut9 (pre ++ [o]).toArray (listed.push false) → (Region.ready .any pre.toArray listed = [] → thenLast P (pre ++ [o]).toArray pre.length Q .normal a w) →
      (∀ i ∈ Region.ready .any pre.toArray listed, wpOp P (pre ++ [o]).toArray Q i (wpAny P .any (pre ++ [o]).toArray Q fuel ((listed.setIfInBounds i true).push false)) a w) → wpAny P .any (pre ++ [o]).toArray Q (fuel + 1) (listed.push false) a w := by
    intro fuel listed a w hs hsh h1 h2
    refine ⟨fun hr => ?_, fun i hi => ?_⟩
    · exfalso
      have hall : ∀ i, i < pre.length + 1 → (listed.push false).getD i false = true := by
        intro i
        induction i using Nat.strongRecOn with
        | _ i ih2 =>
          intro hi
          cases hl : (listed.push false).getD i false with
          | true => rfl
          | false =>
            exfalso
            have ho : (pre ++ [o]).toArray[i]? = some ((pre ++ [o]).toArray[i]'(by rw [hsz]; omega)) := Array.getElem?_eq_getElem (by rw [hsz]; omega)
            have hready : i ∈ Region.ready .any (pre ++ [o]).toArray (listed.push false) := by
              refine mem_ready.2 ⟨?_, _, ho, fun e he hbb => ?_⟩
              · have his : i < (listed.push false).size := by simp; omega
                simp only [Array.getD, his, dite_true] at hl ⊢
                exact hl
              · have hlt := (hb i _ ho).back e he hbb
                exact ih2 _ hlt (by omega)
            rw [hr] at hready
            cases hready
      have := hall pre.length (by omega)
      rw [← hs] at this
      simp at this
    · obtain ⟨h0, o', ho', hall⟩ := mem_ready.1 hi
      have hil : i < pre.length + 1 := by have := (Array.getElem?_eq_some_iff.1 ho').1; rw [hsz] at this; exact this
      by_cases hin : i = pre.length
      · subst hin
        rw [hon] at ho'
        injection ho' with ho'
        subst ho'
        have hl := all_listed hsz hlo hsh hon hall
        have hr : Region.ready .any pre.toArray listed = [] := by
          cases hc : Region.ready .any pre.toArray listed with
          | nil => rfl
          | cons k rest =>
            exfalso
            have hk : k ∈ Region.ready .any pre.toArray listed := by rw [hc]; exact List.mem_cons_self ..
            obtain ⟨g1, ok, hok', _⟩ := mem_ready.1 hk
            have hkl : k < pre.length := by have := (Array.getElem?_eq_some_iff.1 hok').1; simpa using this
            have g2 := hl k hkl
            have hks : k < listed.size := by omega
            simp [Array.getElem?_push, Nat.ne_of_lt hks, hks] at g1 g2
            rw [g1] at g2
            cases g2
        have h3 := h1 hr
        unfold thenLast at h3
        refine wpOp_mono (fun a' w' hq => ?_) h3
        refine wpAny_full ?_ hq
        cases hc : Region.ready .any (pre ++ [o]).toArray ((listed.push false).setIfInBounds pre.length true) with
        | nil => rfl
        | cons k rest =>
          exfalso
          have hk : k ∈ Region.ready .any (pre ++ [o]).toArray ((listed.push false).setIfInBounds pre.length true) := by rw [hc]; exact List.mem_cons_self ..
          obtain ⟨g1, ok, hok', _⟩ := mem_ready.1 hk
          have hkl : k < pre.length + 1 := by have := (Array.getElem?_eq_some_iff.1 hok').1; rw [hsz] at this; exact this
          by_cases hkn : k = pre.length
          · subst hkn
            have : pre.length < (listed.push false).size := by simp; omega
            simp at g1
          · rw [getD_set_ne true (fun h => hkn h.symm)] at g1
            have g2 := hl k (by omega)
            have hks : k < listed.size := by omega
            simp [Array.getElem?_push, Nat.ne_of_lt hks, hks] at g1 g2
            rw [g1] at g2
            cases g2
      · have hip : i < pre.length := by omega
        have := h2 i ((ready_pre hs hip hb).1 hi)
        have e : (listed.push false).setIfInBounds i true = (listed.setIfInBounds i true).push false := by
          apply Array.ext_getElem?
          intro k
          simp only [Array.getElem?_setIfInBounds, Array.getElem?_push, Array.size_push, Array.size_setIfInBounds]
          by_cases e1 : i = k
          · subst e1
            have h1 : i < listed.size := by omega
            simp [h1, Nat.ne_of_lt h1, Nat.lt_succ_of_lt h1]
          · by_cases e2 : k = listed.size
            · have h1 : ¬ i = listed.size := by omega
              simp [e2, h1]
            · simp [e1, e2]
        rw [e]
        exact this
  intro fuel
  induction fuel with
  | zero =>
    intro listed a w hs hsh h
    refine key 0 listed a w hs hsh (fun _ => h.2) (fun i hi => ?_)
    rw [h.1] at hi
    cases hi
  | succ fuel ih =>
    intro listed a w hs hsh h
    refine key (fuel + 1) listed a w hs hsh h.1 (fun i hi => ?_)
    have h2 := h.2 i hi
    obtain ⟨g1, o', ho', hall⟩ := mem_ready.1 hi
    have hip : i < pre.length := by have := (Array.getElem?_eq_some_iff.1 ho').1; simpa using this
    have ho2 : (pre ++ [o]).toArray[i]? = some o' := by simp [List.getElem?_append_left hip]; simpa using ho'
    have hsh2 : Shut9 (pre ++ [o]).toArray ((listed.setIfInBounds i true).push false) := by
      intro j oj hoj hj e he hbb
      have hup : ∀ k, k < pre.length → (listed.push false).getD k false = true → ((listed.setIfInBounds i true).push false).getD k false = true := fun k hk hl => by
        have h1 : k < listed.size := by omega
        simp [Array.getElem?_push, Nat.ne_of_lt h1] at hl ⊢
        rw [Array.getElem?_setIfInBounds]
        by_cases e1 : i = k
        · simp [e1, h1]
        · simp [e1, hl]
      have hjl : j < pre.length := by
        by_cases h1 : j < pre.length
        · exact h1
        · exfalso
          have h2 := (Array.getElem?_eq_some_iff.1 hoj).1
          rw [hsz] at h2
          have h3 : j = listed.size := by omega
          have h4 : ((listed.setIfInBounds i true).push false)[j]? = some false := by rw [Array.getElem?_push, if_pos (by simp; exact h3)]
          rw [Array.getD_eq_getD_getElem?, h4] at hj
          cases hj
      have hlt := (hb j oj hoj).back e he hbb
      by_cases hji : j = i
      · subst hji
        rw [ho2] at hoj
        injection hoj with hoj
        subst hoj
        refine hup _ (by omega) ?_
        have := hall e he hbb
        have h1 : e.on < listed.size := by omega
        simp [Array.getElem?_push, Nat.ne_of_lt h1] at this ⊢
        exact this
      · refine hup _ (by omega) (hsh j oj hoj ?_ e he hbb)
        have h1 : j < listed.size := by omega
        simp [Array.getElem?_push, Nat.ne_of_lt h1, Array.getElem?_setIfInBounds] at hj ⊢
        rw [if_neg (fun h : i = j => hji h.symm)] at hj
        exact hj
    have h3 : wpOp P (pre ++ [o]).toArray Q i (wpAny P .any pre.toArray (thenLast P (pre ++ [o]).toArray pre.length Q) fuel (listed.setIfInBounds i true)) a w := by
      unfold wpOp at h2 ⊢
      rw [ho'] at h2
      rw [ho2]
      simp only at h2 ⊢
      rw [wanted_pre (hb i o' ho2).guard]
      split
      · rename_i hw
        rw [if_pos hw] at h2
        exact h2.imp wp_thenLast (fun g => ⟨g.1, letsOut_thenLast g.2⟩)
      · rename_i hw
        rw [if_neg hw] at h2
        exact h2
    exact wpOp_mono (fun a' w' hq => ih _ a' w' (by simpa using hs) hsh2 hq) h3
/-- The law: what is shown of the operations but the last (as a region of their own, by any law that comes to wpAny), and of the last one behind them. -/
theorem wp_region_split {id : Nat} {pre : List Oper} {o : Oper} {a : Act} {w : World} (hm : P.follows .mixedOrders = true) (hok : splitOk (pre ++ [o]).toArray pre.length = true)
    (h : wpAny P .any pre.toArray (thenLast P (pre ++ [o]).toArray pre.length Q) pre.length (Array.replicate pre.length false) a w.drew) : (Code.region id (pre ++ [o]).toArray true).wp P Q a w := by
  refine wp_region_any hm ?_
  have h1 := split_any hok pre.length (Array.replicate pre.length false) a w.drew (by simp) (fun j oj hoj hj => by
    exfalso
    rw [Array.getD_eq_getD_getElem?, Array.getElem?_push] at hj
    split at hj
    · cases hj
    · rw [Array.getElem?_replicate] at hj
      split at hj <;> cases hj) h
  have e : (Array.replicate pre.length false).push false = Array.replicate (pre ++ [o]).toArray.size false := by
    apply Array.ext_getElem?
    intro k
    simp only [Array.getElem?_push, Array.getElem?_replicate, Array.size_replicate, List.size_toArray, List.length_append, List.length_singleton]
    by_cases e1 : k = pre.length
    · simp [e1]
    · by_cases e2 : k < pre.length
      · simp [e1, e2, Nat.lt_succ_of_lt e2]
      · simp [e1, e2, show ¬ k < pre.length + 1 by omega]
  rw [e] at h1
  simpa using h1
/-- .. and the operations but the last by TxA's law. -/
theorem wp_region_txtl {id : Nat} {pre : List Oper} {o : Oper} {a : Act} {w : World} (I : World → Prop) (acts π : List Nat) (hm : P.follows .mixedOrders = true) (hok : (splitOk (pre ++ [o]).toArray pre.length && txtOk pre.toArray (fun i => acts.contains i) π) = true) (hI : I w.drew)
    (h : Txt P pre.toArray (thenLast P (pre ++ [o]).toArray pre.length Q) I (fun i => acts.contains i) π a w.drew) : (Code.region id (pre ++ [o]).toArray true).wp P Q a w := by
  rw [Bool.and_eq_true] at hok
  refine wp_region_split hm hok.1 ?_
  have hok := hok.2
  have hall : remT π (Array.replicate pre.length false) = π := by
    have hok' := hok
    unfold txtOk at hok'
    simp only [Bool.and_eq_true, decide_eq_true_eq] at hok'
    obtain ⟨⟨⟨⟨_, hltb⟩, _⟩, _⟩, _⟩ := hok'
    refine List.filter_eq_self.2 (fun j hj => ?_)
    have : j < pre.toArray.size := by simpa using List.all_eq_true.1 hltb j hj
    simp at this
    simp [this]
  refine txt_any hok _ _ a _ (by simp) ?_ (fun i o ho hi => ?_) (by rw [hall]; exact h) hI
  · rw [hall]
    unfold txtOk at hok
    simp only [Bool.and_eq_true, decide_eq_true_eq] at hok
    have := Nat.le_of_eq hok.1.1.1.1.1
    simpa using this
  · exfalso
    have hlt := (Array.getElem?_eq_some_iff.1 ho).1
    simp at hlt
    simp [hlt] at hi
/-- The last one, its values known. -/
theorem thenLast_does {pre : List Oper} {o : Oper} {a : Act} {w : World} (hw : Region.wanted o (yielded (pre ++ [o]).toArray a.tmps) = true)
    (h : ∀ K : Act → World → Prop, Shut (∀ a' w', Q .normal a' w' → K a' w') → Oper.wp P o a w K Q) : thenLast P (pre ++ [o]).toArray pre.length Q .normal a w := by
  unfold thenLast wpOp
  have : (pre ++ [o]).toArray[pre.length]? = some o := by simp
  rw [this]
  simp only
  rw [if_pos hw]
  exact .inl (h _ (fun a' w' g => g))
end
end Go.Proofs.YtdcoknnjgpdigaaGreatDoor

/- TxD's law, for a list of operations whose last one is told by its number. -/
namespace Go.Proofs.YtdcoknnjgpdigaaGreatDoor
open Go.RowKit
set_option linter.unusedVariables false

section
variable {P : Program} {Q : Exit → Act → World → Prop}
theorem take_snoc {l : List Oper} {n : Nat} {o : Oper} (hn : l.length = n + 1) (ho : l[n]? = some o) : l.take n ++ [o] = l := by
  have h1 : n < l.length := by omega
  have h2 : l[n] = o := by rw [List.getElem?_eq_getElem h1] at ho; injection ho
  rw [← h2, List.take_append_getElem h1, List.take_of_length_le (by omega)]
theorem wp_region_txtn {id : Nat} {l : List Oper} {a : Act} {w : World} (I : World → Prop) (acts π : List Nat) (n : Nat) (hn : l.length = n + 1) (hm : P.follows .mixedOrders = true) (hok : (splitOk l.toArray n && txtOk (l.take n).toArray (fun i => acts.contains i) π) = true) (hI : I w.drew)
    (h : Txt P (l.take n).toArray (thenLast P l.toArray n Q) I (fun i => acts.contains i) π a w.drew) : (Code.region id l.toArray true).wp P Q a w := by
  have h1 : n < l.length := by omega
  have e := take_snoc hn (List.getElem?_eq_getElem h1)
  have e2 : (l.take n).length = n := by rw [List.length_take]; omega
  have := wp_region_txtl (P := P) (Q := Q) (id := id) (pre := l.take n) (o := l[n]) (a := a) (w := w) I acts π hm (by rw [e, e2]; exact hok) hI (by rw [e, e2]; exact h)
  rwa [e] at this
theorem thenLast_n {l : List Oper} {n : Nat} {o : Oper} {a : Act} {w : World} (hn : l.length = n + 1) (ho : l[n]? = some o) (hw : Region.wanted o (yielded l.toArray a.tmps) = true)
    (h : ∀ K : Act → World → Prop, Shut (∀ a' w', Q .normal a' w' → K a' w') → Oper.wp P o a w K Q) : thenLast P l.toArray n Q .normal a w := by
  have e := take_snoc hn ho
  have e2 : (l.take n).length = n := by rw [List.length_take]; omega
  have := thenLast_does (P := P) (Q := Q) (pre := l.take n) (o := o) (a := a) (w := w) (by rw [e]; exact hw) h
  rwa [e, e2] at this
end
end Go.Proofs.YtdcoknnjgpdigaaGreatDoor
