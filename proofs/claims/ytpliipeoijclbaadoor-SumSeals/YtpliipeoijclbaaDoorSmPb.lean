/- The program's own sums, the second part: Turned, Seal, Right. -/
import Derived.Test.YtpliipeoijclbaaDoorSmP
namespace Go.Proofs.YtpliipeoijclbaaDoor
open Go.RowKit
set_option linter.unusedVariables false

theorem crc_zeros (c k : Nat) : crc c (List.replicate (k + 1) 0) = S8 (crc c (List.replicate k 0)) := by
  rw [List.replicate_succ', crc_snoc, show (0 : UInt8).toNat = 0 from rfl, Nat.xor_zero]
theorem pushed_zero (w : World) (v : Nat) (hv : v < W32) (hT : Tab w) :
    Calls Tryd.prog 23 #[.int .u32 (v : Int), .int .u8 0] w fun e w' => e = .returned (.int .u32 (S8 v : Int)) ∧ w' = w := by
  have h := pushed_any w v 0 hv hT
  rw [show (0 : UInt8).toNat = 0 from rfl, Nat.xor_zero] at h
  exact h

set_option maxHeartbeats 800000 in
theorem change_any (w : World) (t s q : Nat) (x : UInt8) (hs : s ≤ 65536) (hm : s = t + q) (hq : 1 ≤ q) (hT : Tab w) :
    Calls Tryd.prog 24 #[.int .i64 (t : Int), .int .i64 (s : Int), .int .u8 (x.toNat : Int)] w fun e w' => e = .returned (.int .u32 (crc (S8 x.toNat) (List.replicate (q - 1) 0) : Int)) ∧ w' = w := by
  have h0 := pushed_any w 0 x zero_lt32 hT
  rw [Nat.zero_xor] at h0
  have HT := hide (fun (v : Nat) (hv : v < W32) => pushed_zero w v hv hT)
  have H0 := hide h0
  have hlt := S8_lt (byte_lt x)
  generalize S8 x.toNat = z at *
  obtain ⟨m, hqm⟩ : ∃ m, q - 1 = m := ⟨_, rfl⟩
  have hst1 : (s : Int) - t = (q : Int) := by omega
  have hst2 : (q : Int) - 1 = (m : Int) := by omega
  have hmq : m ≤ 65536 := by omega
  rw [hqm]
  have HLT := hide hlt
  clear hT h0 hm hqm hlt
  go_enter Tryd.func24, Tryd.ntmps24
  go_wp2_with fail
  refine (unhide H0).mono ?_
  rintro e w1 ⟨rfl, rfl⟩
  clear H0
  go_wp2
  go_loopw [7, 14] (fun s i wr => ∃ k : Nat, k ≤ m ∧ i = .int .i64 k ∧ s = .int .u32 (crc z (List.replicate k 0) : Int) ∧ wr = w1) (fun _ i _ => m - (intOf i).toNat)
  case atStart => exact ⟨0, by omega, rfl, rfl, rfl⟩
  case round =>
    obtain ⟨k, hk, rfl, rfl, rfl⟩ := hrel
    have hlt0 := crc_lt (List.replicate k 0) (unhide HLT)
    have HN := hide (crc_zeros z k)
    have HY := hide (unhide HT _ hlt0)
    generalize hv : crc z (List.replicate k 0) = v at *
    by_cases hlt : k < m
    · clear hv
      go_wp2_with fail
      refine (unhide HY).mono ?_
      rintro e w4 ⟨rfl, rfl⟩
      go_wp2
      go_roundw
      case rel => exact ⟨k + 1, by omega, by go_num, by rw [unhide HN], trivial⟩
      case measure => simp [intOf]; omega
    · obtain rfl : k = m := by omega
      have HV := hide hv
      clear hv
      go_wp2
      go_ret
      exact ⟨by rw [unhide HV]; rfl, rfl⟩

set_option maxHeartbeats 1600000 in
theorem sTurned_ok (w : World) (c : Nat) (hc : c < W32) (s t q k : Nat) (hs : s ≤ 65536) (hm : s = t + q) (hq : 1 ≤ q) (hk : k ≤ 7) (hT : Tab w) :
    Calls Tryd.prog 16 #[.int .u32 (c : Int), .int .i64 (s : Int), .int .i64 (t : Int), .int .i64 (k : Int)] w fun e w' => e = .returned (.tuple #[.int .u32 ((c ^^^ turnV (q - 1) k : Nat) : Int), .int .i64 0]) ∧ Below w.heap.size w w' := by
  have g1 : decide ((s : Int) < 1) = false := by simp; omega
  have g2 : decide ((65536 : Int) < s) = false := by simp; omega
  have g3 : decide ((t : Int) < 0) = false := by simp
  have g4 : decide ((s : Int) ≤ t) = false := by simp; omega
  have g5 : decide ((k : Int) < 0) = false := by simp
  have g6 : decide ((7 : Int) < k) = false := by simp; omega
  have hp : 2 ^ k ≤ 128 := Nat.pow_le_pow_right (by omega) hk
  have e2 : (UInt8.ofNat (2 ^ k)).toNat = 2 ^ k := by simp; omega
  have HC := change_any w t s q (UInt8.ofNat (2 ^ k)) hs hm hq hT
  have hlt : turnV (q - 1) k < W32 := crc_lt _ (S8_lt (by show 2 ^ k < 4294967296; omega))
  rw [e2] at HC
  change Calls _ _ _ w fun e w' => e = .returned (.int .u32 (turnV (q - 1) k : Int)) ∧ w' = w at HC
  have e3 : ((2 ^ k : Nat) : Int) = (2 : Int) ^ k % 256 := by
    rw [show (2 : Int) ^ k = ((2 ^ k : Nat) : Int) by simp]
    omega
  rw [e3] at HC
  have g7 : t < s := by omega
  have hx := x32 c (turnV (q - 1) k) hc hlt
  have HC := hide HC
  generalize turnV (q - 1) k = tv at *
  clear hm hT hs e3 e2 hp
  go_enter Tryd.func16, Tryd.ntmps16
  go_wp2_with fail
  refine (unhide HC).mono ?_
  rintro e w1 ⟨rfl, rfl⟩
  go_wp2
  go_ret2
  exact ⟨rfl, Below.refl _ _⟩

end Go.Proofs.YtpliipeoijclbaaDoor
