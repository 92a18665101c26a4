/- The contract of the document's own Turned. -/
import Derived.Test.YtpliipeoijclbaaDoorSmS
import Derived.Deep.WholeRow
namespace Go.Proofs.YtpliipeoijclbaaDoor
open Go.RowKit
set_option linter.unusedVariables false

theorem made_bytes (m : Nat) : madeCells (Value.int .u8 0).cells (m * 1) = (bv (List.replicate m 0)).toArray := by
  apply Array.toList_inj.1
  rw [Nat.mul_one]
  show (madeCells #[Value.int .u8 0] m).toList = _
  rw [toList_madeCells_one]
  simp [bv]
theorem makeZ (m : Nat) (hm : m ≤ 1000000) (w : World) : (Instr.makeSlice 23 (.int .i64 m) (.int .i64 m)).run Tryd.prog w = .ok (.slice (some ⟨w.heap.size, 0, none⟩) m m) (w.alloc (.cells (bv (List.replicate m 0)).toArray 5)) := by
  obtain ⟨i0, hi, hz0, hz1, hz2⟩ := info_parts infoB
  have := run_make (P := Tryd.prog) w 23 5 i0 (.int .u8 0) Tryd.underlying23 hi hz0 .i64 .i64 m m (by omega) (by omega) (by rw [hz2]; omega) (by omega)
  rw [this, hz1, Int.toNat_natCast, made_bytes]

theorem first0 (q : Nat) (hq : 1 ≤ q) : (bv (List.replicate q 0)).toArray[0]? = some (Value.int .u8 0) := by
  cases q with
  | zero => omega
  | succ m => simp [bv, List.replicate_succ]
theorem set0 (q z : Nat) (hq : 1 ≤ q) (hz : z ≤ 128) : (bv (List.replicate q 0)).toArray.setIfInBounds 0 (Value.int .u8 (z : Int)) = (bv (UInt8.ofNat z :: List.replicate (q - 1) 0)).toArray := by
  cases q with
  | zero => omega
  | succ m =>
    have e : ((UInt8.ofNat z).toNat : Int) = z := by simp; omega
    simp [bv, List.replicate_succ]
    omega
/-- Noughts, and noughts with a bit. -/
theorem turn_world (w : World) (q z : Nat) (hq : 1 ≤ q) (hz : z ≤ 128) :
    let W := ((w.alloc (.cells (bv (List.replicate q 0)).toArray 5)).alloc (.cells (bv (List.replicate q 0)).toArray 5)).setCell ⟨w.heap.size + 1, 0, none⟩ (.int .u8 (z : Int))
    Bs W (some ⟨w.heap.size, 0, none⟩) q (List.replicate q 0) ∧ Bs W (some ⟨w.heap.size + 1, 0, none⟩) q (UInt8.ofNat z :: List.replicate (q - 1) 0) ∧ Below w.heap.size w W := by
  intro W
  have h1 := heap_alloc_last w (.cells (bv (List.replicate q 0)).toArray 5)
  have h2 := heap_alloc_last (w.alloc (.cells (bv (List.replicate q 0)).toArray 5)) (.cells (bv (List.replicate q 0)).toArray 5)
  rw [World.size_alloc] at h2
  have h3 := heap_setCell_same _ _ 0 _ _ (.int .u8 (z : Int)) h2
  rw [set0 q z hq hz] at h3
  have b1 : Below w.heap.size w (w.alloc (.cells (bv (List.replicate q 0)).toArray 5)) := (Below.refl _ _).alloc (Nat.le_refl _) _
  have b2 := b1.alloc b1.size (.cells (bv (List.replicate q 0)).toArray 5)
  have b3 : Below w.heap.size w W := b2.setCell (p := ⟨w.heap.size + 1, 0, none⟩) (by simp) _
  refine ⟨⟨by simp, .inr ⟨_, 0, rfl, bytes_of_block (e := 5) (f := (0, 0)) ?_⟩⟩, ⟨by simp; omega, .inr ⟨_, 0, rfl, bytes_of_block h3⟩⟩, b3⟩
  show W.heap[w.heap.size]? = _
  rw [Below.heap_setCell _ _ _ _ (by show w.heap.size ≠ w.heap.size + 1; omega), Below.heap_alloc _ _ _ (by simp)]
  exact h1

/-- May a bit be turned there? -/
def turnOk (size at_ bit : Int) : Prop := 1 ≤ size ∧ size ≤ 65536 ∧ 0 ≤ at_ ∧ at_ < size ∧ 0 ≤ bit ∧ bit ≤ 7
instance (size at_ bit : Int) : Decidable (turnOk size at_ bit) := by unfold turnOk; infer_instance
/-- The sum of a bit of worth 2 to k alone, m noughts behind it. -/
def turnV (m k : Nat) : Nat := crc (S8 (2 ^ k)) (List.replicate m 0)

set_option maxHeartbeats 1600000 in
theorem qTurned_bad (w : World) (c : Nat) (size at_ bit : Int) (h : ¬ turnOk size at_ bit) :
    Calls Tryd.prog 17 #[.int .u32 (c : Int), .int .i64 size, .int .i64 at_, .int .i64 bit] w fun e w' => e = .returned (.tuple #[.int .u32 0, .int .i64 2]) ∧ w' = w := by
  unfold turnOk at h
  by_cases h1 : size < 1
  · have g1 : decide (size < 1) = true := by simpa using h1
    go_enter Tryd.func17, Tryd.ntmps17
    go_wp2
    go_ret2
    exact ⟨rfl, rfl⟩
  · have g1 : decide (size < 1) = false := by simpa using h1
    by_cases h2 : 65536 < size
    · have g2 : decide (65536 < size) = true := by simpa using h2
      go_enter Tryd.func17, Tryd.ntmps17
      go_wp2
      go_ret2
      exact ⟨rfl, rfl⟩
    · have g2 : decide (65536 < size) = false := by simpa using h2
      by_cases h3 : at_ < 0
      · have g3 : decide (at_ < 0) = true := by simpa using h3
        go_enter Tryd.func17, Tryd.ntmps17
        go_wp2
        go_ret2
        exact ⟨rfl, rfl⟩
      · have g3 : decide (at_ < 0) = false := by simpa using h3
        by_cases h4 : size ≤ at_
        · have g4 : decide (size ≤ at_) = true := by simpa using h4
          go_enter Tryd.func17, Tryd.ntmps17
          go_wp2
          go_ret2
          exact ⟨rfl, rfl⟩
        · have g4 : decide (size ≤ at_) = false := by simpa using h4
          by_cases h5 : bit < 0
          · have g5 : decide (bit < 0) = true := by simpa using h5
            go_enter Tryd.func17, Tryd.ntmps17
            go_wp2
            go_ret2
            exact ⟨rfl, rfl⟩
          · have g5 : decide (bit < 0) = false := by simpa using h5
            have g6 : decide (7 < bit) = true := by simp; omega
            go_enter Tryd.func17, Tryd.ntmps17
            go_wp2
            go_ret2
            exact ⟨rfl, rfl⟩

set_option maxHeartbeats 1600000 in
theorem qTurned_ok (w : World) (c : Nat) (hc : c < W32) (s t q k : Nat) (hs : s ≤ 65536) (hm : s = t + q) (hq : 1 ≤ q) (hk : k ≤ 7) :
    Calls Tryd.prog 17 #[.int .u32 (c : Int), .int .i64 (s : Int), .int .i64 (t : Int), .int .i64 (k : Int)] w fun e w' => e = .returned (.tuple #[.int .u32 ((c ^^^ turnV (q - 1) k : Nat) : Int), .int .i64 0]) ∧ Below w.heap.size w w' := by
  have g1 : decide ((s : Int) < 1) = false := by simp; omega
  have g2 : decide ((65536 : Int) < s) = false := by simp; omega
  have g3 : decide ((t : Int) < 0) = false := by simp
  have g4 : decide ((s : Int) ≤ t) = false := by simp; omega
  have g5 : decide ((k : Int) < 0) = false := by simp
  have g6 : decide ((7 : Int) < k) = false := by simp; omega
  have hst : (s : Int) - t = ((q : Nat) : Int) := by omega
  have hwr : IntKind.i64.wrap ((q : Nat) : Int) = ((q : Nat) : Int) := by rw [IntKind.wrap_i64]; omega
  have hql : q ≤ 65536 := by omega
  clear hm
  go_enter Tryd.func17, Tryd.ntmps17
  go_wp2
  go_loopw [10, 11] (fun o i wr => ∃ j : Nat, j ≤ k ∧ i = .int .i64 j ∧ o = .int .i64 ((2 ^ j : Nat) : Int) ∧ wr = w) (fun _ i _ => k - (intOf i).toNat)
  case atStart => exact ⟨0, by omega, rfl, rfl, rfl⟩
  case round =>
    obtain ⟨j, hj, rfl, rfl, rfl⟩ := hrel
    by_cases hjk : j < k
    · have hp : 2 ^ j ≤ 128 := Nat.pow_le_pow_right (by omega) (show j ≤ 7 by omega)
      have hp2 : 2 ^ (j + 1) = 2 * 2 ^ j := by rw [Nat.pow_succ]; omega
      have HP := hide hp2
      clear hp2
      generalize 2 ^ j = z at *
      go_wp2
      go_roundw
      case rel => exact ⟨j + 1, by omega, by go_num, by rw [unhide HP]; simp, trivial⟩
      case measure => simp [intOf]; omega
    · obtain rfl : j = k := by omega
      have hp : 2 ^ j ≤ 128 := Nat.pow_le_pow_right (by omega) (show j ≤ 7 by omega)
      have mk1 := makeZ (q) (by omega) wr
      have mk2 := makeZ (q) (by omega) (wr.alloc (.cells (bv (List.replicate (q) 0)).toArray 5))
      have hq0 : ((wr.alloc (.cells (bv (List.replicate (q) 0)).toArray 5)).alloc (.cells (bv (List.replicate (q) 0)).toArray 5)).cell? ⟨wr.heap.size + 1, 0, none⟩ = some (.int .u8 0) := by
        have h := heap_alloc_last (wr.alloc (.cells (bv (List.replicate (q) 0)).toArray 5)) (.cells (bv (List.replicate (q) 0)).toArray 5)
        rw [World.size_alloc] at h
        rw [cell_of_row _ _ _ _ _ _ h]
        exact first0 q hq
      have hq1 : ((wr.alloc (.cells (bv (List.replicate (q) 0)).toArray 5)).alloc (.cells (bv (List.replicate (q) 0)).toArray 5)).frozen? ⟨wr.heap.size + 1, 0, none⟩ = false := by
        have h := heap_alloc_last (wr.alloc (.cells (bv (List.replicate (q) 0)).toArray 5)) (.cells (bv (List.replicate (q) 0)).toArray 5)
        rw [World.size_alloc] at h
        exact frozen_of_row _ _ _ _ _ h
      generalize hz : 2 ^ j = z at *
      obtain ⟨t1, t2, t3⟩ := turn_world wr q z hq hp
      have HA := hide (qOf_any _ _ q q _ (by omega) t1)
      have HB := hide (qOf_any _ _ q q _ (by omega) t2)
      have hv : onS 0 (List.replicate q 0) ^^^ onS 0 (UInt8.ofNat z :: List.replicate (q - 1) 0) = turnV (q - 1) j := by
        have e := onS_alone (UInt8.ofNat z) (q - 1)
        rw [show q - 1 + 1 = q by omega] at e
        rw [e]
        unfold turnV
        have : (UInt8.ofNat z).toNat = 2 ^ j := by rw [hz]; simp; omega
        rw [this]
      have x1 := x32 c (onS 0 (List.replicate q 0)) hc (onS_lt _ zero_lt32)
      have x2 := x32 (c ^^^ onS 0 (List.replicate q 0)) (onS 0 (UInt8.ofNat z :: List.replicate (q - 1) 0)) (xor_lt hc (onS_lt _ zero_lt32)) (onS_lt _ zero_lt32)
      rw [Nat.xor_assoc, hv] at x2
      have T3 := hide t3
      clear t1 t2 t3 hv
      generalize onS 0 (List.replicate q 0) = A at *
      generalize onS 0 (UInt8.ofNat z :: List.replicate (q - 1) 0) = C at *
      generalize (Obj.cells (bv (List.replicate q 0)).toArray 5 (0, 0)) = Z at *
      go_wp2_with fail
      refine (unhide HA).mono ?_
      rintro e w4 ⟨rfl, rfl⟩
      go_wp2_with fail
      refine (unhide HB).mono ?_
      rintro e w5 ⟨rfl, rfl⟩
      go_wp2
      go_ret2
      exact ⟨rfl, unhide T3⟩

end Go.Proofs.YtpliipeoijclbaaDoor
