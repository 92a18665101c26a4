/- Layer 14, the landed code: its operations one by one (written by mk/mkaic.py). -/
import Derived.Test.YtfjkclolnnoklabAiB
namespace Go.Proofs.Ytfjkclolnnoklab
open Go.RowKit
set_option linter.unusedVariables false
set_option maxRecDepth 100000

theorem i32_rnd (x : Int) : IntKind.i32.wrap x = rnd x := rfl
theorem w32_rnd (x : Int) : wrap32 x = rnd x := by unfold wrap32; rw [rnd_eq]
theorem i64_r64 (x : Int) : IntKind.i64.wrap x = r64 x := rfl
theorem w64_r64 (x : Int) : wrap64 x = r64 x := by unfold wrap64; rw [r64_eq]
theorem bits_and32 (a b : Int) : bits .and .i32 a b = rnd (bitZ 0 32 a b) := by rw [← bitZ_and]; rfl
theorem bits_or32 (a b : Int) : bits .or .i32 a b = rnd (bitZ 1 32 a b) := by rw [← bitZ_or]; rfl
theorem bits_xor32 (a b : Int) : bits .xor .i32 a b = rnd (bitZ 2 32 a b) := by rw [← bitZ_xor]; rfl
theorem bits_and64 (a b : Int) : bits .and .i64 a b = r64 (bitZ 0 64 a b) := by rw [← bitZ_and]; rfl
theorem bits_or64 (a b : Int) : bits .or .i64 a b = r64 (bitZ 1 64 a b) := by rw [← bitZ_or]; rfl
theorem bits_xor64 (a b : Int) : bits .xor .i64 a b = r64 (bitZ 2 64 a b) := by rw [← bitZ_xor]; rfl
theorem bits_31 (b : Int) : bits .and .i32 b 31 = b % 32 := by rw [bits_and32, and31]; exact rnd_id (by unfold intA; omega)
theorem bits_63 (b : Int) : bits .and .i64 b 63 = b % 64 := by rw [bits_and64, and63]; exact r64_id (by unfold lonA; omega)
theorem u32_wrap (x : Int) : IntKind.u32.wrap x = u32 x := IntKind.wrap_u32 x
theorem u64_wrap (x : Int) : IntKind.u64.wrap x = u64 x := IntKind.wrap_u64 x
theorem ret_i32 {a b : Int} (h : a = b) : Ending.returned (.int .i32 a) = .returned (.int .i32 b) := by rw [h]
theorem ret_i64 {a b : Int} (h : a = b) : Ending.returned (.int .i64 a) = .returned (.int .i64 b) := by rw [h]
theorem ret_boolA {a b : Bool} (h : a = b) : Ending.returned (.bool a) = .returned (.bool b) := by rw [h]
theorem n14plus_any (w : World) (a b : Int) : Calls Try.prog 37 #[.int .i32 a, .int .i32 b] w fun e w' => e = .returned (.int .i32 (rnd (a + b))) ∧ w' = w := by
  go_enter Try.func37, Try.ntmps37
  go_wp2
  go_ret
  exact ⟨by first | rfl | (exact ret_i32 (by first | rfl | exact w32_rnd _ | exact w64_r64 _ | (rw [w32_rnd, u32_wrap]; rfl) | (rw [w64_r64, u64_wrap]; rfl) | (rw [u32_wrap]; exact w32_rnd _) | (rw [u64_wrap]; exact w64_r64 _) | (rw [Int.zero_sub]; exact w32_rnd _) | (rw [Int.zero_sub]; exact w64_r64 _))), rfl⟩
theorem n14minus_any (w : World) (a b : Int) : Calls Try.prog 38 #[.int .i32 a, .int .i32 b] w fun e w' => e = .returned (.int .i32 (rnd (a - b))) ∧ w' = w := by
  go_enter Try.func38, Try.ntmps38
  go_wp2
  go_ret
  exact ⟨by first | rfl | (exact ret_i32 (by first | rfl | exact w32_rnd _ | exact w64_r64 _ | (rw [w32_rnd, u32_wrap]; rfl) | (rw [w64_r64, u64_wrap]; rfl) | (rw [u32_wrap]; exact w32_rnd _) | (rw [u64_wrap]; exact w64_r64 _) | (rw [Int.zero_sub]; exact w32_rnd _) | (rw [Int.zero_sub]; exact w64_r64 _))), rfl⟩
theorem n14times_any (w : World) (a b : Int) : Calls Try.prog 39 #[.int .i32 a, .int .i32 b] w fun e w' => e = .returned (.int .i32 (rnd (a * b))) ∧ w' = w := by
  go_enter Try.func39, Try.ntmps39
  go_wp2
  go_ret
  exact ⟨by first | rfl | (exact ret_i32 (by first | rfl | exact w32_rnd _ | exact w64_r64 _ | (rw [w32_rnd, u32_wrap]; rfl) | (rw [w64_r64, u64_wrap]; rfl) | (rw [u32_wrap]; exact w32_rnd _) | (rw [u64_wrap]; exact w64_r64 _) | (rw [Int.zero_sub]; exact w32_rnd _) | (rw [Int.zero_sub]; exact w64_r64 _))), rfl⟩
theorem n14by_any (w : World) (a b : Int) (hb : b ≠ 0) : Calls Try.prog 40 #[.int .i32 a, .int .i32 b] w fun e w' => e = .returned (.int .i32 (rnd (a.tdiv b))) ∧ w' = w := by
  go_enter Try.func40, Try.ntmps40
  go_wp2
  go_ret
  exact ⟨by first | rfl | (exact ret_i32 (by first | rfl | exact w32_rnd _ | exact w64_r64 _ | (rw [w32_rnd, u32_wrap]; rfl) | (rw [w64_r64, u64_wrap]; rfl) | (rw [u32_wrap]; exact w32_rnd _) | (rw [u64_wrap]; exact w64_r64 _) | (rw [Int.zero_sub]; exact w32_rnd _) | (rw [Int.zero_sub]; exact w64_r64 _))), rfl⟩
theorem n14left_any (w : World) (a b : Int) (hb : b ≠ 0) : Calls Try.prog 41 #[.int .i32 a, .int .i32 b] w fun e w' => e = .returned (.int .i32 (a.tmod b)) ∧ w' = w := by
  go_enter Try.func41, Try.ntmps41
  go_wp2
  go_ret
  exact ⟨by first | rfl | (exact ret_i32 (by first | rfl | exact w32_rnd _ | exact w64_r64 _ | (rw [w32_rnd, u32_wrap]; rfl) | (rw [w64_r64, u64_wrap]; rfl) | (rw [u32_wrap]; exact w32_rnd _) | (rw [u64_wrap]; exact w64_r64 _) | (rw [Int.zero_sub]; exact w32_rnd _) | (rw [Int.zero_sub]; exact w64_r64 _))), rfl⟩
theorem n14up_any (w : World) (a b : Int) : Calls Try.prog 42 #[.int .i32 a, .int .i32 b] w fun e w' => e = .returned (.int .i32 (rnd (shl a (b % 32).toNat))) ∧ w' = w := by
  have e0 := bits_31 b
  obtain ⟨y, hy⟩ : ∃ y, y = b % 32 := ⟨_, rfl⟩
  rw [← hy] at e0 ⊢
  have y0 : 0 ≤ y := by omega
  have y1 : y ≤ 31 := by omega
  have y2 : y ≤ 32 := by omega
  have y3 : ¬ y < 0 := by omega
  clear hy
  go_enter Try.func42, Try.ntmps42
  go_wp2
  go_ret
  exact ⟨by first | rfl | (exact ret_i32 (by first | rfl | exact w32_rnd _ | exact w64_r64 _ | (rw [w32_rnd, u32_wrap]; rfl) | (rw [w64_r64, u64_wrap]; rfl) | (rw [u32_wrap]; exact w32_rnd _) | (rw [u64_wrap]; exact w64_r64 _) | (rw [Int.zero_sub]; exact w32_rnd _) | (rw [Int.zero_sub]; exact w64_r64 _))), rfl⟩
theorem n14down_any (w : World) (a b : Int) : Calls Try.prog 43 #[.int .i32 a, .int .i32 b] w fun e w' => e = .returned (.int .i32 (shr a (b % 32).toNat)) ∧ w' = w := by
  have e0 := bits_31 b
  obtain ⟨y, hy⟩ : ∃ y, y = b % 32 := ⟨_, rfl⟩
  rw [← hy] at e0 ⊢
  have y0 : 0 ≤ y := by omega
  have y1 : y ≤ 31 := by omega
  have y2 : y ≤ 32 := by omega
  have y3 : ¬ y < 0 := by omega
  clear hy
  go_enter Try.func43, Try.ntmps43
  go_wp2
  go_ret
  exact ⟨by first | rfl | (exact ret_i32 (by first | rfl | exact w32_rnd _ | exact w64_r64 _ | (rw [w32_rnd, u32_wrap]; rfl) | (rw [w64_r64, u64_wrap]; rfl) | (rw [u32_wrap]; exact w32_rnd _) | (rw [u64_wrap]; exact w64_r64 _) | (rw [Int.zero_sub]; exact w32_rnd _) | (rw [Int.zero_sub]; exact w64_r64 _))), rfl⟩
theorem n14downBare_any (w : World) (a b : Int) : Calls Try.prog 44 #[.int .i32 a, .int .i32 b] w fun e w' => e = .returned (.int .i32 (rnd (shr (u32 a) (b % 32).toNat))) ∧ w' = w := by
  have e0 := bits_31 b
  obtain ⟨y, hy⟩ : ∃ y, y = b % 32 := ⟨_, rfl⟩
  rw [← hy] at e0 ⊢
  have y0 : 0 ≤ y := by omega
  have y1 : y ≤ 31 := by omega
  have y2 : y ≤ 32 := by omega
  have y3 : ¬ y < 0 := by omega
  clear hy
  go_enter Try.func44, Try.ntmps44
  go_wp2
  go_ret
  exact ⟨by first | rfl | (exact ret_i32 (by first | rfl | exact w32_rnd _ | exact w64_r64 _ | (rw [w32_rnd, u32_wrap]; rfl) | (rw [w64_r64, u64_wrap]; rfl) | (rw [u32_wrap]; exact w32_rnd _) | (rw [u64_wrap]; exact w64_r64 _) | (rw [Int.zero_sub]; exact w32_rnd _) | (rw [Int.zero_sub]; exact w64_r64 _))), rfl⟩
theorem n14and_any (w : World) (a b : Int) : Calls Try.prog 45 #[.int .i32 a, .int .i32 b] w fun e w' => e = .returned (.int .i32 (rnd (bitZ 0 32 a b))) ∧ w' = w := by
  go_enter Try.func45, Try.ntmps45
  go_wp2
  go_ret
  exact ⟨by first | rfl | exact ret_i32 (bits_and32 a b), rfl⟩
theorem n14or_any (w : World) (a b : Int) : Calls Try.prog 46 #[.int .i32 a, .int .i32 b] w fun e w' => e = .returned (.int .i32 (rnd (bitZ 1 32 a b))) ∧ w' = w := by
  go_enter Try.func46, Try.ntmps46
  go_wp2
  go_ret
  exact ⟨by first | rfl | exact ret_i32 (bits_or32 a b), rfl⟩
theorem n14xor_any (w : World) (a b : Int) : Calls Try.prog 47 #[.int .i32 a, .int .i32 b] w fun e w' => e = .returned (.int .i32 (rnd (bitZ 2 32 a b))) ∧ w' = w := by
  go_enter Try.func47, Try.ntmps47
  go_wp2
  go_ret
  exact ⟨by first | rfl | exact ret_i32 (bits_xor32 a b), rfl⟩
theorem w14plus_any (w : World) (a b : Int) : Calls Try.prog 24 #[.int .i64 a, .int .i64 b] w fun e w' => e = .returned (.int .i64 (r64 (a + b))) ∧ w' = w := by
  go_enter Try.func24, Try.ntmps24
  go_wp2
  go_ret
  exact ⟨by first | rfl | (exact ret_i64 (by first | rfl | exact w32_rnd _ | exact w64_r64 _ | (rw [w32_rnd, u32_wrap]; rfl) | (rw [w64_r64, u64_wrap]; rfl) | (rw [u32_wrap]; exact w32_rnd _) | (rw [u64_wrap]; exact w64_r64 _) | (rw [Int.zero_sub]; exact w32_rnd _) | (rw [Int.zero_sub]; exact w64_r64 _))), rfl⟩
theorem w14minus_any (w : World) (a b : Int) : Calls Try.prog 25 #[.int .i64 a, .int .i64 b] w fun e w' => e = .returned (.int .i64 (r64 (a - b))) ∧ w' = w := by
  go_enter Try.func25, Try.ntmps25
  go_wp2
  go_ret
  exact ⟨by first | rfl | (exact ret_i64 (by first | rfl | exact w32_rnd _ | exact w64_r64 _ | (rw [w32_rnd, u32_wrap]; rfl) | (rw [w64_r64, u64_wrap]; rfl) | (rw [u32_wrap]; exact w32_rnd _) | (rw [u64_wrap]; exact w64_r64 _) | (rw [Int.zero_sub]; exact w32_rnd _) | (rw [Int.zero_sub]; exact w64_r64 _))), rfl⟩
theorem w14times_any (w : World) (a b : Int) : Calls Try.prog 26 #[.int .i64 a, .int .i64 b] w fun e w' => e = .returned (.int .i64 (r64 (a * b))) ∧ w' = w := by
  go_enter Try.func26, Try.ntmps26
  go_wp2
  go_ret
  exact ⟨by first | rfl | (exact ret_i64 (by first | rfl | exact w32_rnd _ | exact w64_r64 _ | (rw [w32_rnd, u32_wrap]; rfl) | (rw [w64_r64, u64_wrap]; rfl) | (rw [u32_wrap]; exact w32_rnd _) | (rw [u64_wrap]; exact w64_r64 _) | (rw [Int.zero_sub]; exact w32_rnd _) | (rw [Int.zero_sub]; exact w64_r64 _))), rfl⟩
theorem w14by_any (w : World) (a b : Int) (hb : b ≠ 0) : Calls Try.prog 27 #[.int .i64 a, .int .i64 b] w fun e w' => e = .returned (.int .i64 (r64 (a.tdiv b))) ∧ w' = w := by
  go_enter Try.func27, Try.ntmps27
  go_wp2
  go_ret
  exact ⟨by first | rfl | (exact ret_i64 (by first | rfl | exact w32_rnd _ | exact w64_r64 _ | (rw [w32_rnd, u32_wrap]; rfl) | (rw [w64_r64, u64_wrap]; rfl) | (rw [u32_wrap]; exact w32_rnd _) | (rw [u64_wrap]; exact w64_r64 _) | (rw [Int.zero_sub]; exact w32_rnd _) | (rw [Int.zero_sub]; exact w64_r64 _))), rfl⟩
theorem w14left_any (w : World) (a b : Int) (hb : b ≠ 0) : Calls Try.prog 28 #[.int .i64 a, .int .i64 b] w fun e w' => e = .returned (.int .i64 (a.tmod b)) ∧ w' = w := by
  go_enter Try.func28, Try.ntmps28
  go_wp2
  go_ret
  exact ⟨by first | rfl | (exact ret_i64 (by first | rfl | exact w32_rnd _ | exact w64_r64 _ | (rw [w32_rnd, u32_wrap]; rfl) | (rw [w64_r64, u64_wrap]; rfl) | (rw [u32_wrap]; exact w32_rnd _) | (rw [u64_wrap]; exact w64_r64 _) | (rw [Int.zero_sub]; exact w32_rnd _) | (rw [Int.zero_sub]; exact w64_r64 _))), rfl⟩
theorem w14up_any (w : World) (a b : Int) : Calls Try.prog 29 #[.int .i64 a, .int .i64 b] w fun e w' => e = .returned (.int .i64 (r64 (shl a (b % 64).toNat))) ∧ w' = w := by
  have e0 := bits_63 b
  obtain ⟨y, hy⟩ : ∃ y, y = b % 64 := ⟨_, rfl⟩
  rw [← hy] at e0 ⊢
  have y0 : 0 ≤ y := by omega
  have y1 : y ≤ 63 := by omega
  have y2 : y ≤ 64 := by omega
  have y3 : ¬ y < 0 := by omega
  clear hy
  go_enter Try.func29, Try.ntmps29
  go_wp2
  go_ret
  exact ⟨by first | rfl | (exact ret_i64 (by first | rfl | exact w32_rnd _ | exact w64_r64 _ | (rw [w32_rnd, u32_wrap]; rfl) | (rw [w64_r64, u64_wrap]; rfl) | (rw [u32_wrap]; exact w32_rnd _) | (rw [u64_wrap]; exact w64_r64 _) | (rw [Int.zero_sub]; exact w32_rnd _) | (rw [Int.zero_sub]; exact w64_r64 _))), rfl⟩
theorem w14down_any (w : World) (a b : Int) : Calls Try.prog 30 #[.int .i64 a, .int .i64 b] w fun e w' => e = .returned (.int .i64 (shr a (b % 64).toNat)) ∧ w' = w := by
  have e0 := bits_63 b
  obtain ⟨y, hy⟩ : ∃ y, y = b % 64 := ⟨_, rfl⟩
  rw [← hy] at e0 ⊢
  have y0 : 0 ≤ y := by omega
  have y1 : y ≤ 63 := by omega
  have y2 : y ≤ 64 := by omega
  have y3 : ¬ y < 0 := by omega
  clear hy
  go_enter Try.func30, Try.ntmps30
  go_wp2
  go_ret
  exact ⟨by first | rfl | (exact ret_i64 (by first | rfl | exact w32_rnd _ | exact w64_r64 _ | (rw [w32_rnd, u32_wrap]; rfl) | (rw [w64_r64, u64_wrap]; rfl) | (rw [u32_wrap]; exact w32_rnd _) | (rw [u64_wrap]; exact w64_r64 _) | (rw [Int.zero_sub]; exact w32_rnd _) | (rw [Int.zero_sub]; exact w64_r64 _))), rfl⟩
theorem w14downBare_any (w : World) (a b : Int) : Calls Try.prog 31 #[.int .i64 a, .int .i64 b] w fun e w' => e = .returned (.int .i64 (r64 (shr (u64 a) (b % 64).toNat))) ∧ w' = w := by
  have e0 := bits_63 b
  obtain ⟨y, hy⟩ : ∃ y, y = b % 64 := ⟨_, rfl⟩
  rw [← hy] at e0 ⊢
  have y0 : 0 ≤ y := by omega
  have y1 : y ≤ 63 := by omega
  have y2 : y ≤ 64 := by omega
  have y3 : ¬ y < 0 := by omega
  clear hy
  go_enter Try.func31, Try.ntmps31
  go_wp2
  go_ret
  exact ⟨by first | rfl | (exact ret_i64 (by first | rfl | exact w32_rnd _ | exact w64_r64 _ | (rw [w32_rnd, u32_wrap]; rfl) | (rw [w64_r64, u64_wrap]; rfl) | (rw [u32_wrap]; exact w32_rnd _) | (rw [u64_wrap]; exact w64_r64 _) | (rw [Int.zero_sub]; exact w32_rnd _) | (rw [Int.zero_sub]; exact w64_r64 _))), rfl⟩
theorem w14and_any (w : World) (a b : Int) : Calls Try.prog 32 #[.int .i64 a, .int .i64 b] w fun e w' => e = .returned (.int .i64 (r64 (bitZ 0 64 a b))) ∧ w' = w := by
  go_enter Try.func32, Try.ntmps32
  go_wp2
  go_ret
  exact ⟨by first | rfl | exact ret_i64 (bits_and64 a b), rfl⟩
theorem w14or_any (w : World) (a b : Int) : Calls Try.prog 33 #[.int .i64 a, .int .i64 b] w fun e w' => e = .returned (.int .i64 (r64 (bitZ 1 64 a b))) ∧ w' = w := by
  go_enter Try.func33, Try.ntmps33
  go_wp2
  go_ret
  exact ⟨by first | rfl | exact ret_i64 (bits_or64 a b), rfl⟩
theorem w14xor_any (w : World) (a b : Int) : Calls Try.prog 34 #[.int .i64 a, .int .i64 b] w fun e w' => e = .returned (.int .i64 (r64 (bitZ 2 64 a b))) ∧ w' = w := by
  go_enter Try.func34, Try.ntmps34
  go_wp2
  go_ret
  exact ⟨by first | rfl | exact ret_i64 (bits_xor64 a b), rfl⟩
theorem n14isLike_any (w : World) (a b : Int) : Calls Try.prog 17 #[.int .i32 a, .int .i32 b] w fun e w' => e = .returned (.bool (decide (a = b))) ∧ w' = w := by
  go_enter Try.func17, Try.ntmps17
  go_wp2
  go_ret
  exact ⟨by first | rfl | (exact ret_boolA (by first | rfl | (simp; done) | (by_cases h : a = b <;> simp [h]))), rfl⟩
theorem n14isNotLike_any (w : World) (a b : Int) : Calls Try.prog 18 #[.int .i32 a, .int .i32 b] w fun e w' => e = .returned (.bool (decide (a ≠ b))) ∧ w' = w := by
  go_enter Try.func18, Try.ntmps18
  go_wp2
  go_ret
  exact ⟨by first | rfl | (exact ret_boolA (by first | rfl | (simp; done) | (by_cases h : a = b <;> simp [h]))), rfl⟩
theorem n14isLess_any (w : World) (a b : Int) : Calls Try.prog 19 #[.int .i32 a, .int .i32 b] w fun e w' => e = .returned (.bool (decide (a < b))) ∧ w' = w := by
  go_enter Try.func19, Try.ntmps19
  go_wp2
  go_ret
  exact ⟨by first | rfl | (exact ret_boolA (by first | rfl | (simp; done) | (by_cases h : a = b <;> simp [h]))), rfl⟩
theorem n14isNotLess_any (w : World) (a b : Int) : Calls Try.prog 20 #[.int .i32 a, .int .i32 b] w fun e w' => e = .returned (.bool (decide (b ≤ a))) ∧ w' = w := by
  go_enter Try.func20, Try.ntmps20
  go_wp2
  go_ret
  exact ⟨by first | rfl | (exact ret_boolA (by first | rfl | (simp; done) | (by_cases h : a = b <;> simp [h]))), rfl⟩
theorem n14isGreater_any (w : World) (a b : Int) : Calls Try.prog 21 #[.int .i32 a, .int .i32 b] w fun e w' => e = .returned (.bool (decide (b < a))) ∧ w' = w := by
  go_enter Try.func21, Try.ntmps21
  go_wp2
  go_ret
  exact ⟨by first | rfl | (exact ret_boolA (by first | rfl | (simp; done) | (by_cases h : a = b <;> simp [h]))), rfl⟩
theorem n14isNotGreater_any (w : World) (a b : Int) : Calls Try.prog 22 #[.int .i32 a, .int .i32 b] w fun e w' => e = .returned (.bool (decide (a ≤ b))) ∧ w' = w := by
  go_enter Try.func22, Try.ntmps22
  go_wp2
  go_ret
  exact ⟨by first | rfl | (exact ret_boolA (by first | rfl | (simp; done) | (by_cases h : a = b <;> simp [h]))), rfl⟩
end Go.Proofs.Ytfjkclolnnoklab
