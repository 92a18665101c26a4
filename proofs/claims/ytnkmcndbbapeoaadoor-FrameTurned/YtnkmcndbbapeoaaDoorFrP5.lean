/- The program's own iterator over records (a range function). -/
import Derived.Test.YtnkmcndbbapeoaaDoorFrP4
import Derived.RangeFuncNested
import Derived.RangeFuncBound
import Derived.RangeFuncCalls
import Derived.RangeFuncLeaves
import Derived.RangeFuncBox
import Derived.Shelf.Abstract
import Derived.Shelf.RegionOpen
import Derived.WalkKit
import Derived.OwnWalkIn
import Derived.TacticsInMore
import Derived.LoopNIn
import Derived.LoopIn
import Derived.Maps.AppendAt
namespace Go.Proofs.YtnkmcndbbapeoaaDoor
open Go.RowKit Go.Shelf
set_option linter.unusedVariables false
attribute [local go_sem] Oper.semAt_some

/-- A record, and the place where its bytes end. -/
abbrev Item := Rec × Nat
abbrev encI (x : Item) : Array Value := #[recV x.1, .int .i64 (x.2 : Int)]
def lastEnd (xs : List Item) : Nat := (xs.getLast?.map (·.2)).getD 0
theorem lastEnd_snoc (xs : List Item) (x : Item) : lastEnd (xs ++ [x]) = x.2 := by simp [lastEnd]

/-- What has come, and where it stands. -/
structure IR (l : List UInt8) (n k : Nat) (last : Int) (pre : List Item) : Prop where
  le : k ≤ n
  lo : 0 ≤ last
  hi : last ≤ 4294967295
  eq : scanL l 0 = (pre.map (·.1) ++ (scanL (l.drop k) last).1, k + (scanL (l.drop k) last).2)
  len : pre.length * 12 ≤ k
  stand : lastEnd pre = k
theorem IR.next {l m : List UInt8} {n k M : Nat} {last ep : Int} {pre : List Item} (h : IR l n k last pre) (hm : l.drop k = m) (hc : firstE m = 0 ∧ last ≤ (firstR m).epoch) (hM : num m + 12 = M) (hep : (firstR m).epoch = ep) (hkM : k + M ≤ n) (h1 : ep ≤ 4294967295) :
    IR l n (k + M) ep (pre ++ [(firstR m, k + M)]) := by
  refine ⟨hkM, by have := hc.2; have := h.lo; omega, h1, ?_, by have := h.len; simp; omega, lastEnd_snoc _ _⟩
  have hd := h.eq
  rw [hm] at hd
  rw [hd, scan_yes hc, hM, hep]
  have e5 : m.drop M = l.drop (k + M) := by rw [← hm, List.drop_drop]
  rw [e5]
  refine Prod.ext (by simp) ?_
  simp
  omega
theorem IR.done {l m : List UInt8} {n k : Nat} {last : Int} {pre : List Item} (h : IR l n k last pre) (hm : l.drop k = m) (hc : ¬ (firstE m = 0 ∧ last ≤ (firstR m).epoch)) : scanL l 0 = (pre.map (·.1), lastEnd pre) := by
  have := h.eq
  rw [hm, scan_no hc] at this
  rw [this, h.stand]
  simp

theorem grown_of_below {w w' : World} (f : Below w.heap.size w w') : w.grownBy w' none := ⟨f.os, f.tape, f.output, f.size, fun k hk _ => f.block k hk⟩

/-- What a round keeps: what lay below n₀, and one box more. -/
def KpB (n₀ B : Nat) (W W' : World) : Prop := Below n₀ W W' ∧ W'.cell? ⟨B, 0, none⟩ = W.cell? ⟨B, 0, none⟩

set_option maxRecDepth 100000 in
set_option maxHeartbeats 2000000 in
theorem records1_in (N lp Bn : Nat) (hN : 1 ≤ N) (w W : World) (a : Option Addr) (n cap : Nat) (l : List UInt8) (hT : Tab w) (hA : Arg w a n cap l) (hn : n ≤ 20000) (J Jx : List Item → World → Prop)
    (hY : ∀ pre x W1, J pre W1 → pre.length < n + 1 → YieldAt Fence.wide (N - 1) Tryd.prog lp (encI x) W1 fun e W' =>
      (e = .returned (.bool true) ∧ J (pre ++ [x]) W' ∧ KpB w.heap.size Bn W1 W') ∨ (e = .returned (.bool false) ∧ Jx (pre ++ [x]) W'))
    (hJ : ∀ s A B, J s A → Below A.heap.size A B → J s B) (hW : Below w.heap.size w W) (hB : W.cell? ⟨Bn, 0, none⟩ = some (.slice a n cap)) (h0 : J [] W) :
    CallsIn Fence.wide N Tryd.prog 39 #[.func (.yield lp) #[] #[], .pointer (some ⟨Bn, 0, none⟩)] W fun e W' => (∃ v, e = .returned v) ∧
      ((∃ xs, scanL l 0 = (xs.map (·.1), lastEnd xs) ∧ J xs W') ∨ (∃ pre, True ∧ Jx pre W')) := by
  have hln := hA.bs.1
  have hroom := hA.room
  have hmost := hA.most
  have HA := hide hA
  have HT := hide hT
  have HY := hide hY
  have HJ := hide hJ
  have HI0 : Hid (IR l n 0 0 []) := ⟨by omega, by omega, by omega, by simp, by simp, rfl⟩
  clear hA hT hY hJ
  refine callsIn_of_wp Tryd.func39 rfl trivial ?_ rfl
  simp only [Tryd.ntmps39, List.size_toArray, List.length_cons, List.length_nil, Nat.reduceAdd, Nat.reduceSub, Array.replicate_succ, Array.replicate_zero, List.push_toArray, List.append_toArray, List.nil_append, List.cons_append]
  gi_wp2
  gi_loopw [3, 4] (fun i m wr => ∃ (k : Nat) (last : Int) (pre : List Item), i = .int .i64 k ∧ m = .int .i64 last ∧ IR l n k last pre ∧ Below w.heap.size w wr ∧ wr.cell? ⟨Bn, 0, none⟩ = some (.slice a n cap) ∧ J pre wr) (fun i _ _ => n - (intOf i).toNat)
  case atStart => exact ⟨0, 0, [], rfl, rfl, unhide HI0, hW, hB, h0⟩
  case round =>
    clear HI0 hW hB h0
    obtain ⟨k, last, pre, rfl, rfl, hR, hW, hB, hJ0⟩ := hrel
    have hk := hR.le
    have hk1 : (k : Int) ≤ (n : Int) := by omega
    have hk2 : (n : Int) ≤ (cap : Int) := by omega
    have hbs := (arg_from (unhide HA) k hk).below hW
    obtain ⟨A, hAd⟩ : ∃ A, (if cap = k then a else Option.map (fun x => x.add k) a) = A := ⟨_, rfl⟩
    rw [hAd] at hbs
    have H1 := hide (fFirst_any wr A (n - k) (cap - k) (l.drop k) ((unhide HT).below hW) (by omega) (by omega) (by omega) hbs)
    have hml : (l.drop k).length = n - k := by rw [List.length_drop]; omega
    have HR := hide hR
    have HW := hide hW
    have HJ0 := hide hJ0
    generalize hm : l.drop k = m at *
    have HM := hide hm
    clear hbs hR hW hJ0 hm
    by_cases hc : firstE m = 0 ∧ last ≤ (firstR m).epoch
    · obtain ⟨e2, e3, hpos, hlo, hhi⟩ := first_yes hc (unhide HR).lo
      have hck : ¬ cap = k := by omega
      rw [if_neg hck] at hAd
      have hle := hc.2
      rw [hc.1, e2, e3] at H1
      have HNX := hide (IR.next (unhide HR) (unhide HM) hc rfl rfl (by omega) hhi)
      have hlen : pre.length < n + 1 := by have := (unhide HR).len; omega
      have HYX : Hid (∀ W1, J pre W1 → _) := fun W1 hj => unhide HY pre (firstR m, k + (num m + 12)) W1 hj hlen
      unfold encI recV at HYX
      dsimp only at HYX
      unfold recV at H1
      generalize hM : num m + 12 = M at *
      generalize hep : (firstR m).epoch = ep at *
      have g1 : decide (ep < last) = false := by simp; omega
      obtain ⟨K, hK⟩ : ∃ K, k + M = K := ⟨_, rfl⟩
      have hkM : (k : Int) + (M : Int) = (K : Int) := by omega
      rw [hK] at HNX HYX
      clear e2 e3 hc hle hep
      generalize hst : (⟨(firstR m).data.toArray⟩ : ByteArray) = st at *
      clear hst
      have HKK : Hid (k < K) := by show k < K; omega
      have hKn : K ≤ n := by omega
      clear hK HM hlo hhi hpos hM
      gi_wp2_with fail
      refine ⟨trivial, (callsIn_wide.2 (unhide H1)).mono ?_⟩
      rintro e w1 ⟨rfl, f1⟩
      have F1 := hide f1
      clear f1 H1
      gi_wp2
      gi_region
      have f2 : Below wr.heap.size wr (w1.alloc (.cells #[.int .i64 ep, .string st] 24)).drew := (bA (unhide F1) _).drew
      have hB2 : (w1.alloc (.cells #[.int .i64 ep, .string st] 24)).drew.cell? ⟨Bn, 0, none⟩ = some (.slice a n cap) := (f2.cell (p := ⟨Bn, 0, none⟩) (World.block_lt_of_cell? wr _ hB)).trans hB
      obtain ⟨fn, tmps, assign, body, hy, hRR⟩ := unhide HYX _ (unhide HJ pre wr _ (unhide HJ0) f2)
      have HB2 := hide hB2
      have F2 := hide (bT f2 (unhide HW))
      clear hB2 f2 F1
      have HRR := hide hRR
      clear hRR
      gi_wp2
      refine (unhide HRR).mono ?_
      rintro e W3 (⟨rfl, hJ3, hk3⟩ | ⟨rfl, hJx3⟩)
      · have hB3 : W3.cell? ⟨Bn, 0, none⟩ = some (.slice a n cap) := hk3.2.trans (unhide HB2)
        have F3 := hide ((unhide F2).trans hk3.1)
        have HB3 := hide hB3
        have HJ3 := hide hJ3
        clear hB3 hJ3 hk3 HRR hy HB2 F2
        gi_wp2
        go_roundw
        case rel => exact ⟨K, ep, _, rfl, rfl, unhide HNX, unhide F3, unhide HB3, unhide HJ3⟩
        case measure => have := unhide HKK; simp [intOf]; omega
      · have HJX := hide hJx3
        clear hJx3 HRR hy HB2 F2
        gi_wp2
        refine bodyPost_ret (results_none rfl _ _ _) rfl ?_
        exact ⟨⟨_, rfl⟩, .inr ⟨_, trivial, unhide HJX⟩⟩
    · have HD := hide ((unhide HR).done (unhide HM) hc)
      have hE : firstE m ≠ 0 → ∃ x : Int, firstE m = x ∧ ¬ x = 0 := fun h => ⟨_, rfl, h⟩
      by_cases h0 : firstE m = 0
      · have hlt : (firstR m).epoch < last := by
          have : ¬ last ≤ (firstR m).epoch := fun h => hc ⟨h0, h⟩
          omega
        have hpos := first_pos h0
        have hck : ¬ cap = k := by omega
        rw [if_neg hck] at hAd
        have e2 : firstQ m = firstR m := by unfold firstQ; rw [if_pos h0]
        have g1 : decide ((firstR m).epoch < last) = true := by simpa using hlt
        rw [h0, e2] at H1
        unfold recV at H1
        generalize (firstR m).epoch = ep at *
        generalize (⟨(firstR m).data.toArray⟩ : ByteArray) = st at *
        generalize firstN m = q at *
        clear HM HR hE hc h0 e2 hpos
        gi_wp2_with fail
        refine ⟨trivial, (callsIn_wide.2 (unhide H1)).mono ?_⟩
        rintro e w1 ⟨rfl, f1⟩
        have HJ1 := hide (unhide HJ pre wr _ (unhide HJ0) (bA f1 (.cells #[.int .i64 ep, .string st] 24)))
        clear f1 H1
        gi_wp2
        refine bodyPost_ret (results_none rfl _ _ _) rfl ?_
        exact ⟨⟨_, rfl⟩, .inl ⟨pre, unhide HD, unhide HJ1⟩⟩
      · obtain ⟨x, hx, hx0⟩ := hE h0
        rw [hx] at H1
        unfold recV at H1
        generalize (firstQ m).epoch = ep at *
        generalize (⟨(firstQ m).data.toArray⟩ : ByteArray) = st at *
        generalize firstN m = q at *
        clear HM HR hE hc h0 hx
        by_cases hck : cap = k
        · rw [if_pos hck] at hAd
          subst hAd
          obtain rfl : k = n := by omega
          subst hck
          rw [show cap - cap = 0 by omega] at H1
          gi_wp2_with fail
          refine ⟨trivial, (callsIn_wide.2 (unhide H1)).mono ?_⟩
          rintro e w1 ⟨rfl, f1⟩
          have HJ1 := hide (unhide HJ pre wr _ (unhide HJ0) (bA f1 (.cells #[.int .i64 ep, .string st] 24)))
          clear f1 H1
          gi_wp2
          refine bodyPost_ret (results_none rfl _ _ _) rfl ?_
          exact ⟨⟨_, rfl⟩, .inl ⟨pre, unhide HD, unhide HJ1⟩⟩
        · rw [if_neg hck] at hAd
          gi_wp2_with fail
          refine ⟨trivial, (callsIn_wide.2 (unhide H1)).mono ?_⟩
          rintro e w1 ⟨rfl, f1⟩
          have HJ1 := hide (unhide HJ pre wr _ (unhide HJ0) (bA f1 (.cells #[.int .i64 ep, .string st] 24)))
          clear f1 H1
          gi_wp2
          refine bodyPost_ret (results_none rfl _ _ _) rfl ?_
          exact ⟨⟨_, rfl⟩, .inl ⟨pre, unhide HD, unhide HJ1⟩⟩

end Go.Proofs.YtnkmcndbbapeoaaDoor
