/- Layer 14, the landed code: its operations one by one (written by mk/mkaic.py). -/
import Derived.Test.YtfjkclolnnoklaaAiB
namespace Go.Proofs.Ytfjkclolnnoklaa
open Go.RowKit
set_option linter.unusedVariables false
set_option maxRecDepth 100000

theorem i32_rnd (x : Int) : IntKind.i32.wrap x = rnd x := rfl
theorem w32_rnd (x : Int) : wrap32 x = rnd x := by unfold wrap32; rw [rnd_eq]
theorem i64_r64 (x : Int) : IntKind.i64.wrap x = r64 x := rfl
theorem w64_r64 (x : Int) : wrap64 x = r64 x := by unfold wrap64; rw [r64_eq]
theorem bits_and32 (a b : Int) : bits .and .i32 a b = rnd (bitZ 0 32 a b) := by rw [← bitZ_and]; rfl
theorem bits_or32 (a b : Int) : bits .or .i32 a b = rnd (bitZ 1 32 a b) := by rw [← bitZ_or]; rfl
theorem bits_xor32 (a b : Int) : bits .xor .i32 a b = rnd (bitZ 2 32 a b) := by rw [← bitZ_xor]; rfl
theorem bits_and64 (a b : Int) : bits .and .i64 a b = r64 (bitZ 0 64 a b) := by rw [← bitZ_and]; rfl
theorem bits_or64 (a b : Int) : bits .or .i64 a b = r64 (bitZ 1 64 a b) := by rw [← bitZ_or]; rfl
theorem bits_xor64 (a b : Int) : bits .xor .i64 a b = r64 (bitZ 2 64 a b) := by rw [← bitZ_xor]; rfl
theorem bits_31 (b : Int) : bits .and .i32 b 31 = b % 32 := by rw [bits_and32, and31]; exact rnd_id (by unfold intA; omega)
theorem bits_63 (b : Int) : bits .and .i64 b 63 = b % 64 := by rw [bits_and64, and63]; exact r64_id (by unfold lonA; omega)
theorem u32_wrap (x : Int) : IntKind.u32.wrap x = u32 x := IntKind.wrap_u32 x
theorem u64_wrap (x : Int) : IntKind.u64.wrap x = u64 x := IntKind.wrap_u64 x
theorem ret_i32 {a b : Int} (h : a = b) : Ending.returned (.int .i32 a) = .returned (.int .i32 b) := by rw [h]
theorem ret_i64 {a b : Int} (h : a = b) : Ending.returned (.int .i64 a) = .returned (.int .i64 b) := by rw [h]
theorem ret_boolA {a b : Bool} (h : a = b) : Ending.returned (.bool a) = .returned (.bool b) := by rw [h]
theorem n14plus_any (w : World) (a b : Int) : Calls Try.prog 41 #[.int .i32 a, .int .i32 b] w fun e w' => e = .returned (.int .i32 (rnd (a + b))) ∧ w' = w := by
  go_enter Try.func41, Try.ntmps41
  go_wp2
  go_ret
  exact ⟨by first | rfl | (exact ret_i32 (by first | rfl | exact w32_rnd _ | exact w64_r64 _ | (rw [w32_rnd, u32_wrap]; rfl) | (rw [w64_r64, u64_wrap]; rfl) | (rw [u32_wrap]; exact w32_rnd _) | (rw [u64_wrap]; exact w64_r64 _) | (rw [Int.zero_sub]; exact w32_rnd _) | (rw [Int.zero_sub]; exact w64_r64 _))), rfl⟩
theorem n14minus_any (w : World) (a b : Int) : Calls Try.prog 42 #[.int .i32 a, .int .i32 b] w fun e w' => e = .returned (.int .i32 (rnd (a - b))) ∧ w' = w := by
  go_enter Try.func42, Try.ntmps42
  go_wp2
  go_ret
  exact ⟨by first | rfl | (exact ret_i32 (by first | rfl | exact w32_rnd _ | exact w64_r64 _ | (rw [w32_rnd, u32_wrap]; rfl) | (rw [w64_r64, u64_wrap]; rfl) | (rw [u32_wrap]; exact w32_rnd _) | (rw [u64_wrap]; exact w64_r64 _) | (rw [Int.zero_sub]; exact w32_rnd _) | (rw [Int.zero_sub]; exact w64_r64 _))), rfl⟩
theorem n14times_any (w : World) (a b : Int) : Calls Try.prog 43 #[.int .i32 a, .int .i32 b] w fun e w' => e = .returned (.int .i32 (rnd (a * b))) ∧ w' = w := by
  go_enter Try.func43, Try.ntmps43
  go_wp2
  go_ret
  exact ⟨by first | rfl | (exact ret_i32 (by first | rfl | exact w32_rnd _ | exact w64_r64 _ | (rw [w32_rnd, u32_wrap]; rfl) | (rw [w64_r64, u64_wrap]; rfl) | (rw [u32_wrap]; exact w32_rnd _) | (rw [u64_wrap]; exact w64_r64 _) | (rw [Int.zero_sub]; exact w32_rnd _) | (rw [Int.zero_sub]; exact w64_r64 _))), rfl⟩
theorem n14by_any (w : World) (a b : Int) (hb : b ≠ 0) : Calls Try.prog 44 #[.int .i32 a, .int .i32 b] w fun e w' => e = .returned (.int .i32 (rnd (a.tdiv b))) ∧ w' = w := by
  go_enter Try.func44, Try.ntmps44
  go_wp2
  go_ret
  exact ⟨by first | rfl | (exact ret_i32 (by first | rfl | exact w32_rnd _ | exact w64_r64 _ | (rw [w32_rnd, u32_wrap]; rfl) | (rw [w64_r64, u64_wrap]; rfl) | (rw [u32_wrap]; exact w32_rnd _) | (rw [u64_wrap]; exact w64_r64 _) | (rw [Int.zero_sub]; exact w32_rnd _) | (rw [Int.zero_sub]; exact w64_r64 _))), rfl⟩
theorem n14left_any (w : World) (a b : Int) (hb : b ≠ 0) : Calls Try.prog 45 #[.int .i32 a, .int .i32 b] w fun e w' => e = .returned (.int .i32 (a.tmod b)) ∧ w' = w := by
  go_enter Try.func45, Try.ntmps45
  go_wp2
  go_ret
  exact ⟨by first | rfl | (exact ret_i32 (by first | rfl | exact w32_rnd _ | exact w64_r64 _ | (rw [w32_rnd, u32_wrap]; rfl) | (rw [w64_r64, u64_wrap]; rfl) | (rw [u32_wrap]; exact w32_rnd _) | (rw [u64_wrap]; exact w64_r64 _) | (rw [Int.zero_sub]; exact w32_rnd _) | (rw [Int.zero_sub]; exact w64_r64 _))), rfl⟩
theorem n14up_any (w : World) (a b : Int) : Calls Try.prog 46 #[.int .i32 a, .int .i32 b] w fun e w' => e = .returned (.int .i32 (rnd (shl a (b % 32).toNat))) ∧ w' = w := by
  have e0 := bits_31 b
  obtain ⟨y, hy⟩ : ∃ y, y = b % 32 := ⟨_, rfl⟩
  rw [← hy] at e0 ⊢
  have y0 : 0 ≤ y := by omega
  have y1 : y ≤ 31 := by omega
  have y2 : y ≤ 32 := by omega
  have y3 : ¬ y < 0 := by omega
  clear hy
  go_enter Try.func46, Try.ntmps46
  go_wp2
  go_ret
  exact ⟨by first | rfl | (exact ret_i32 (by first | rfl | exact w32_rnd _ | exact w64_r64 _ | (rw [w32_rnd, u32_wrap]; rfl) | (rw [w64_r64, u64_wrap]; rfl) | (rw [u32_wrap]; exact w32_rnd _) | (rw [u64_wrap]; exact w64_r64 _) | (rw [Int.zero_sub]; exact w32_rnd _) | (rw [Int.zero_sub]; exact w64_r64 _))), rfl⟩
theorem n14down_any (w : World) (a b : Int) : Calls Try.prog 47 #[.int .i32 a, .int .i32 b] w fun e w' => e = .returned (.int .i32 (shr a (b % 32).toNat)) ∧ w' = w := by
  have e0 := bits_31 b
  obtain ⟨y, hy⟩ : ∃ y, y = b % 32 := ⟨_, rfl⟩
  rw [← hy] at e0 ⊢
  have y0 : 0 ≤ y := by omega
  have y1 : y ≤ 31 := by omega
  have y2 : y ≤ 32 := by omega
  have y3 : ¬ y < 0 := by omega
  clear hy
  go_enter Try.func47, Try.ntmps47
  go_wp2
  go_ret
  exact ⟨by first | rfl | (exact ret_i32 (by first | rfl | exact w32_rnd _ | exact w64_r64 _ | (rw [w32_rnd, u32_wrap]; rfl) | (rw [w64_r64, u64_wrap]; rfl) | (rw [u32_wrap]; exact w32_rnd _) | (rw [u64_wrap]; exact w64_r64 _) | (rw [Int.zero_sub]; exact w32_rnd _) | (rw [Int.zero_sub]; exact w64_r64 _))), rfl⟩
theorem n14downBare_any (w : World) (a b : Int) : Calls Try.prog 48 #[.int .i32 a, .int .i32 b] w fun e w' => e = .returned (.int .i32 (rnd (shr (u32 a) (b % 32).toNat))) ∧ w' = w := by
  have e0 := bits_31 b
  obtain ⟨y, hy⟩ : ∃ y, y = b % 32 := ⟨_, rfl⟩
  rw [← hy] at e0 ⊢
  have y0 : 0 ≤ y := by omega
  have y1 : y ≤ 31 := by omega
  have y2 : y ≤ 32 := by omega
  have y3 : ¬ y < 0 := by omega
  clear hy
  go_enter Try.func48, Try.ntmps48
  go_wp2
  go_ret
  exact ⟨by first | rfl | (exact ret_i32 (by first | rfl | exact w32_rnd _ | exact w64_r64 _ | (rw [w32_rnd, u32_wrap]; rfl) | (rw [w64_r64, u64_wrap]; rfl) | (rw [u32_wrap]; exact w32_rnd _) | (rw [u64_wrap]; exact w64_r64 _) | (rw [Int.zero_sub]; exact w32_rnd _) | (rw [Int.zero_sub]; exact w64_r64 _))), rfl⟩
theorem n14and_any (w : World) (a b : Int) : Calls Try.prog 49 #[.int .i32 a, .int .i32 b] w fun e w' => e = .returned (.int .i32 (rnd (bitZ 0 32 a b))) ∧ w' = w := by
  go_enter Try.func49, Try.ntmps49
  go_wp2
  go_ret
  exact ⟨by first | rfl | exact ret_i32 (bits_and32 a b), rfl⟩
theorem n14or_any (w : World) (a b : Int) : Calls Try.prog 50 #[.int .i32 a, .int .i32 b] w fun e w' => e = .returned (.int .i32 (rnd (bitZ 1 32 a b))) ∧ w' = w := by
  go_enter Try.func50, Try.ntmps50
  go_wp2
  go_ret
  exact ⟨by first | rfl | exact ret_i32 (bits_or32 a b), rfl⟩
theorem n14xor_any (w : World) (a b : Int) : Calls Try.prog 51 #[.int .i32 a, .int .i32 b] w fun e w' => e = .returned (.int .i32 (rnd (bitZ 2 32 a b))) ∧ w' = w := by
  go_enter Try.func51, Try.ntmps51
  go_wp2
  go_ret
  exact ⟨by first | rfl | exact ret_i32 (bits_xor32 a b), rfl⟩
theorem n14negated_any (w : World) (a : Int) : Calls Try.prog 67 #[.int .i32 a] w fun e w' => e = .returned (.int .i32 (rnd (0 - a))) ∧ w' = w := by
  go_enter Try.func67, Try.ntmps67
  go_wp2
  go_ret
  exact ⟨by first | rfl | (exact ret_i32 (by first | rfl | exact w32_rnd _ | exact w64_r64 _ | (rw [w32_rnd, u32_wrap]; rfl) | (rw [w64_r64, u64_wrap]; rfl) | (rw [u32_wrap]; exact w32_rnd _) | (rw [u64_wrap]; exact w64_r64 _) | (rw [Int.zero_sub]; exact w32_rnd _) | (rw [Int.zero_sub]; exact w64_r64 _))), rfl⟩
theorem w14plus_any (w : World) (a b : Int) : Calls Try.prog 53 #[.int .i64 a, .int .i64 b] w fun e w' => e = .returned (.int .i64 (r64 (a + b))) ∧ w' = w := by
  go_enter Try.func53, Try.ntmps53
  go_wp2
  go_ret
  exact ⟨by first | rfl | (exact ret_i64 (by first | rfl | exact w32_rnd _ | exact w64_r64 _ | (rw [w32_rnd, u32_wrap]; rfl) | (rw [w64_r64, u64_wrap]; rfl) | (rw [u32_wrap]; exact w32_rnd _) | (rw [u64_wrap]; exact w64_r64 _) | (rw [Int.zero_sub]; exact w32_rnd _) | (rw [Int.zero_sub]; exact w64_r64 _))), rfl⟩
theorem w14minus_any (w : World) (a b : Int) : Calls Try.prog 54 #[.int .i64 a, .int .i64 b] w fun e w' => e = .returned (.int .i64 (r64 (a - b))) ∧ w' = w := by
  go_enter Try.func54, Try.ntmps54
  go_wp2
  go_ret
  exact ⟨by first | rfl | (exact ret_i64 (by first | rfl | exact w32_rnd _ | exact w64_r64 _ | (rw [w32_rnd, u32_wrap]; rfl) | (rw [w64_r64, u64_wrap]; rfl) | (rw [u32_wrap]; exact w32_rnd _) | (rw [u64_wrap]; exact w64_r64 _) | (rw [Int.zero_sub]; exact w32_rnd _) | (rw [Int.zero_sub]; exact w64_r64 _))), rfl⟩
theorem w14times_any (w : World) (a b : Int) : Calls Try.prog 55 #[.int .i64 a, .int .i64 b] w fun e w' => e = .returned (.int .i64 (r64 (a * b))) ∧ w' = w := by
  go_enter Try.func55, Try.ntmps55
  go_wp2
  go_ret
  exact ⟨by first | rfl | (exact ret_i64 (by first | rfl | exact w32_rnd _ | exact w64_r64 _ | (rw [w32_rnd, u32_wrap]; rfl) | (rw [w64_r64, u64_wrap]; rfl) | (rw [u32_wrap]; exact w32_rnd _) | (rw [u64_wrap]; exact w64_r64 _) | (rw [Int.zero_sub]; exact w32_rnd _) | (rw [Int.zero_sub]; exact w64_r64 _))), rfl⟩
theorem w14by_any (w : World) (a b : Int) (hb : b ≠ 0) : Calls Try.prog 56 #[.int .i64 a, .int .i64 b] w fun e w' => e = .returned (.int .i64 (r64 (a.tdiv b))) ∧ w' = w := by
  go_enter Try.func56, Try.ntmps56
  go_wp2
  go_ret
  exact ⟨by first | rfl | (exact ret_i64 (by first | rfl | exact w32_rnd _ | exact w64_r64 _ | (rw [w32_rnd, u32_wrap]; rfl) | (rw [w64_r64, u64_wrap]; rfl) | (rw [u32_wrap]; exact w32_rnd _) | (rw [u64_wrap]; exact w64_r64 _) | (rw [Int.zero_sub]; exact w32_rnd _) | (rw [Int.zero_sub]; exact w64_r64 _))), rfl⟩
theorem w14left_any (w : World) (a b : Int) (hb : b ≠ 0) : Calls Try.prog 57 #[.int .i64 a, .int .i64 b] w fun e w' => e = .returned (.int .i64 (a.tmod b)) ∧ w' = w := by
  go_enter Try.func57, Try.ntmps57
  go_wp2
  go_ret
  exact ⟨by first | rfl | (exact ret_i64 (by first | rfl | exact w32_rnd _ | exact w64_r64 _ | (rw [w32_rnd, u32_wrap]; rfl) | (rw [w64_r64, u64_wrap]; rfl) | (rw [u32_wrap]; exact w32_rnd _) | (rw [u64_wrap]; exact w64_r64 _) | (rw [Int.zero_sub]; exact w32_rnd _) | (rw [Int.zero_sub]; exact w64_r64 _))), rfl⟩
theorem w14up_any (w : World) (a b : Int) : Calls Try.prog 58 #[.int .i64 a, .int .i64 b] w fun e w' => e = .returned (.int .i64 (r64 (shl a (b % 64).toNat))) ∧ w' = w := by
  have e0 := bits_63 b
  obtain ⟨y, hy⟩ : ∃ y, y = b % 64 := ⟨_, rfl⟩
  rw [← hy] at e0 ⊢
  have y0 : 0 ≤ y := by omega
  have y1 : y ≤ 63 := by omega
  have y2 : y ≤ 64 := by omega
  have y3 : ¬ y < 0 := by omega
  clear hy
  go_enter Try.func58, Try.ntmps58
  go_wp2
  go_ret
  exact ⟨by first | rfl | (exact ret_i64 (by first | rfl | exact w32_rnd _ | exact w64_r64 _ | (rw [w32_rnd, u32_wrap]; rfl) | (rw [w64_r64, u64_wrap]; rfl) | (rw [u32_wrap]; exact w32_rnd _) | (rw [u64_wrap]; exact w64_r64 _) | (rw [Int.zero_sub]; exact w32_rnd _) | (rw [Int.zero_sub]; exact w64_r64 _))), rfl⟩
theorem w14down_any (w : World) (a b : Int) : Calls Try.prog 59 #[.int .i64 a, .int .i64 b] w fun e w' => e = .returned (.int .i64 (shr a (b % 64).toNat)) ∧ w' = w := by
  have e0 := bits_63 b
  obtain ⟨y, hy⟩ : ∃ y, y = b % 64 := ⟨_, rfl⟩
  rw [← hy] at e0 ⊢
  have y0 : 0 ≤ y := by omega
  have y1 : y ≤ 63 := by omega
  have y2 : y ≤ 64 := by omega
  have y3 : ¬ y < 0 := by omega
  clear hy
  go_enter Try.func59, Try.ntmps59
  go_wp2
  go_ret
  exact ⟨by first | rfl | (exact ret_i64 (by first | rfl | exact w32_rnd _ | exact w64_r64 _ | (rw [w32_rnd, u32_wrap]; rfl) | (rw [w64_r64, u64_wrap]; rfl) | (rw [u32_wrap]; exact w32_rnd _) | (rw [u64_wrap]; exact w64_r64 _) | (rw [Int.zero_sub]; exact w32_rnd _) | (rw [Int.zero_sub]; exact w64_r64 _))), rfl⟩
theorem w14downBare_any (w : World) (a b : Int) : Calls Try.prog 60 #[.int .i64 a, .int .i64 b] w fun e w' => e = .returned (.int .i64 (r64 (shr (u64 a) (b % 64).toNat))) ∧ w' = w := by
  have e0 := bits_63 b
  obtain ⟨y, hy⟩ : ∃ y, y = b % 64 := ⟨_, rfl⟩
  rw [← hy] at e0 ⊢
  have y0 : 0 ≤ y := by omega
  have y1 : y ≤ 63 := by omega
  have y2 : y ≤ 64 := by omega
  have y3 : ¬ y < 0 := by omega
  clear hy
  go_enter Try.func60, Try.ntmps60
  go_wp2
  go_ret
  exact ⟨by first | rfl | (exact ret_i64 (by first | rfl | exact w32_rnd _ | exact w64_r64 _ | (rw [w32_rnd, u32_wrap]; rfl) | (rw [w64_r64, u64_wrap]; rfl) | (rw [u32_wrap]; exact w32_rnd _) | (rw [u64_wrap]; exact w64_r64 _) | (rw [Int.zero_sub]; exact w32_rnd _) | (rw [Int.zero_sub]; exact w64_r64 _))), rfl⟩
theorem w14and_any (w : World) (a b : Int) : Calls Try.prog 61 #[.int .i64 a, .int .i64 b] w fun e w' => e = .returned (.int .i64 (r64 (bitZ 0 64 a b))) ∧ w' = w := by
  go_enter Try.func61, Try.ntmps61
  go_wp2
  go_ret
  exact ⟨by first | rfl | exact ret_i64 (bits_and64 a b), rfl⟩
theorem w14or_any (w : World) (a b : Int) : Calls Try.prog 62 #[.int .i64 a, .int .i64 b] w fun e w' => e = .returned (.int .i64 (r64 (bitZ 1 64 a b))) ∧ w' = w := by
  go_enter Try.func62, Try.ntmps62
  go_wp2
  go_ret
  exact ⟨by first | rfl | exact ret_i64 (bits_or64 a b), rfl⟩
theorem w14xor_any (w : World) (a b : Int) : Calls Try.prog 63 #[.int .i64 a, .int .i64 b] w fun e w' => e = .returned (.int .i64 (r64 (bitZ 2 64 a b))) ∧ w' = w := by
  go_enter Try.func63, Try.ntmps63
  go_wp2
  go_ret
  exact ⟨by first | rfl | exact ret_i64 (bits_xor64 a b), rfl⟩
theorem w14negated_any (w : World) (a : Int) : Calls Try.prog 65 #[.int .i64 a] w fun e w' => e = .returned (.int .i64 (r64 (0 - a))) ∧ w' = w := by
  go_enter Try.func65, Try.ntmps65
  go_wp2
  go_ret
  exact ⟨by first | rfl | (exact ret_i64 (by first | rfl | exact w32_rnd _ | exact w64_r64 _ | (rw [w32_rnd, u32_wrap]; rfl) | (rw [w64_r64, u64_wrap]; rfl) | (rw [u32_wrap]; exact w32_rnd _) | (rw [u64_wrap]; exact w64_r64 _) | (rw [Int.zero_sub]; exact w32_rnd _) | (rw [Int.zero_sub]; exact w64_r64 _))), rfl⟩
theorem n14itself_any (w : World) (a : Int) : Calls Try.prog 68 #[.int .i32 a] w fun e w' => e = .returned (.int .i32 (a)) ∧ w' = w := by
  go_enter Try.func68, Try.ntmps68
  go_wp2
  go_ret
  exact ⟨by first | rfl | (exact ret_i32 (by first | rfl | exact w32_rnd _ | exact w64_r64 _ | (rw [w32_rnd, u32_wrap]; rfl) | (rw [w64_r64, u64_wrap]; rfl) | (rw [u32_wrap]; exact w32_rnd _) | (rw [u64_wrap]; exact w64_r64 _) | (rw [Int.zero_sub]; exact w32_rnd _) | (rw [Int.zero_sub]; exact w64_r64 _))), rfl⟩
theorem n14lowByte_any (w : World) (a : Int) : Calls Try.prog 69 #[.int .i32 a] w fun e w' => e = .returned (.int .i32 (IntKind.i8.wrap a)) ∧ w' = w := by
  go_enter Try.func69, Try.ntmps69
  go_wp2
  go_ret
  exact ⟨ret_i32 (by rw [w32_rnd]; exact rnd_id (i8_int a)), rfl⟩
theorem n14lowShort_any (w : World) (a : Int) : Calls Try.prog 71 #[.int .i32 a] w fun e w' => e = .returned (.int .i32 (IntKind.i16.wrap a)) ∧ w' = w := by
  go_enter Try.func71, Try.ntmps71
  go_wp2
  go_ret
  exact ⟨ret_i32 (by rw [w32_rnd]; exact rnd_id (i16_int a)), rfl⟩
theorem n14bareShort_any (w : World) (a : Int) : Calls Try.prog 70 #[.int .i32 a] w fun e w' => e = .returned (.int .i32 (a % 65536)) ∧ w' = w := by
  go_enter Try.func70, Try.ntmps70
  go_wp2
  go_ret
  exact ⟨ret_i32 (by rw [w32_rnd, IntKind.wrap_u16]; exact rnd_id (by unfold intA; omega)), rfl⟩
theorem n14isLike_any (w : World) (a b : Int) : Calls Try.prog 72 #[.int .i32 a, .int .i32 b] w fun e w' => e = .returned (.bool (decide (a = b))) ∧ w' = w := by
  go_enter Try.func72, Try.ntmps72
  go_wp2
  go_ret
  exact ⟨by first | rfl | (exact ret_boolA (by first | rfl | (simp; done) | (by_cases h : a = b <;> simp [h]))), rfl⟩
theorem n14isNotLike_any (w : World) (a b : Int) : Calls Try.prog 73 #[.int .i32 a, .int .i32 b] w fun e w' => e = .returned (.bool (decide (a ≠ b))) ∧ w' = w := by
  go_enter Try.func73, Try.ntmps73
  go_wp2
  go_ret
  exact ⟨by first | rfl | (exact ret_boolA (by first | rfl | (simp; done) | (by_cases h : a = b <;> simp [h]))), rfl⟩
theorem n14isLess_any (w : World) (a b : Int) : Calls Try.prog 74 #[.int .i32 a, .int .i32 b] w fun e w' => e = .returned (.bool (decide (a < b))) ∧ w' = w := by
  go_enter Try.func74, Try.ntmps74
  go_wp2
  go_ret
  exact ⟨by first | rfl | (exact ret_boolA (by first | rfl | (simp; done) | (by_cases h : a = b <;> simp [h]))), rfl⟩
theorem n14isNotLess_any (w : World) (a b : Int) : Calls Try.prog 75 #[.int .i32 a, .int .i32 b] w fun e w' => e = .returned (.bool (decide (b ≤ a))) ∧ w' = w := by
  go_enter Try.func75, Try.ntmps75
  go_wp2
  go_ret
  exact ⟨by first | rfl | (exact ret_boolA (by first | rfl | (simp; done) | (by_cases h : a = b <;> simp [h]))), rfl⟩
theorem n14isGreater_any (w : World) (a b : Int) : Calls Try.prog 76 #[.int .i32 a, .int .i32 b] w fun e w' => e = .returned (.bool (decide (b < a))) ∧ w' = w := by
  go_enter Try.func76, Try.ntmps76
  go_wp2
  go_ret
  exact ⟨by first | rfl | (exact ret_boolA (by first | rfl | (simp; done) | (by_cases h : a = b <;> simp [h]))), rfl⟩
theorem n14isNotGreater_any (w : World) (a b : Int) : Calls Try.prog 77 #[.int .i32 a, .int .i32 b] w fun e w' => e = .returned (.bool (decide (a ≤ b))) ∧ w' = w := by
  go_enter Try.func77, Try.ntmps77
  go_wp2
  go_ret
  exact ⟨by first | rfl | (exact ret_boolA (by first | rfl | (simp; done) | (by_cases h : a = b <;> simp [h]))), rfl⟩
theorem w14rounded_any (w : World) (a : Int) : Calls Try.prog 66 #[.int .i64 a] w fun e w' => e = .returned (.int .i64 (rnd a)) ∧ w' = w := by
  go_enter Try.func66, Try.ntmps66
  go_wp2
  go_ret
  exact ⟨ret_i64 (by first | rfl | (rw [w32_rnd, w64_r64]; exact r64_id (rnd_lon a))), rfl⟩
end Go.Proofs.Ytfjkclolnnoklaa
