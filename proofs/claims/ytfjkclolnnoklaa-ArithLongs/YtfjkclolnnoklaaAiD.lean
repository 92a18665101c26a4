/- Layer 14: the document's own arithmetic (written by mk/mkaid.py). -/
import Derived.Test.YtfjkclolnnoklaaAiC
namespace Go.Proofs.Ytfjkclolnnoklaa
open Go.RowKit
set_option linter.unusedVariables false
set_option maxRecDepth 100000

theorem rnd_r64 (x : Int) : rnd (r64 x) = rnd x := by rw [rnd_eq, rnd_eq, r64_eq]; omega
theorem r14Round_any (w : World) (a : Int) : Calls Try.prog 12 #[.int .i64 a] w fun e w' => e = .returned (.int .i64 (rnd a)) ∧ w' = w := by
  have hr := rnd_ref a
  have h2 := Int.tmod_lt_of_pos a (by omega : (0 : Int) < 4294967296)
  have h3 : -4294967296 < a.tmod 4294967296 := by have := Int.lt_tmod_of_pos a (by omega : (0 : Int) < 4294967296); omega
  obtain ⟨t, ht⟩ : ∃ t, a.tmod 4294967296 = t := ⟨_, rfl⟩
  rw [ht] at hr h2 h3
  by_cases c : t < 0
  · rw [if_pos c] at hr
    by_cases d : 2147483648 ≤ t + 4294967296
    · rw [if_pos d] at hr
      have e : rnd a = t := by omega
      rw [e]
      clear hr e
      go_enter Try.func12, Try.ntmps12
      go_wp2
      go_ret
      exact ⟨by first | rfl | exact ret_i64 (by omega), rfl⟩
    · rw [if_neg d] at hr
      rw [hr]
      clear hr
      go_enter Try.func12, Try.ntmps12
      go_wp2
      go_ret
      exact ⟨by first | rfl | exact ret_i64 (by omega), rfl⟩
  · rw [if_neg c] at hr
    by_cases d : 2147483648 ≤ t
    · rw [if_pos d] at hr
      rw [hr]
      clear hr
      go_enter Try.func12, Try.ntmps12
      go_wp2
      go_ret
      exact ⟨by first | rfl | exact ret_i64 (by omega), rfl⟩
    · rw [if_neg d] at hr
      rw [hr]
      clear hr
      go_enter Try.func12, Try.ntmps12
      go_wp2
      go_ret
      exact ⟨by first | rfl | exact ret_i64 (by omega), rfl⟩
theorem intA_dec (a : Int) : (decide (-2147483648 ≤ a) && decide (a ≤ 2147483647)) = decide (intA a) := by
  by_cases h : intA a
  · rw [decide_eq_true h, decide_eq_true h.1, decide_eq_true h.2]; rfl
  · rw [decide_eq_false h]
    cases hh : (decide (-2147483648 ≤ a) && decide (a ≤ 2147483647)) with
    | false => rfl
    | true => rw [Bool.and_eq_true, decide_eq_true_eq, decide_eq_true_eq] at hh; exact absurd hh h
theorem r14is_any (w : World) (a : Int) : Calls Try.prog 26 #[.int .i64 a] w fun e w' => e = .returned (.bool (decide (intA a))) ∧ w' = w := by
  by_cases h1 : -2147483648 ≤ a
  · by_cases h2 : a ≤ 2147483647
    · rw [decide_eq_true (show intA a from ⟨h1, h2⟩)]
      go_enter Try.func26, Try.ntmps26
      go_wp2
      go_ret
      exact ⟨by first | rfl | exact ret_boolA (by simp [h1, h2]), rfl⟩
    · rw [decide_eq_false (show ¬ intA a from fun h => h2 h.2)]
      go_enter Try.func26, Try.ntmps26
      go_wp2
      go_ret
      exact ⟨by first | rfl | exact ret_boolA (by simp [h1, h2]), rfl⟩
  · rw [decide_eq_false (show ¬ intA a from fun h => h1 h.1)]
    go_enter Try.func26, Try.ntmps26
    go_wp2
    go_ret
    exact ⟨by first | rfl | exact ret_boolA (by simp [h1]), rfl⟩
theorem pow2_small {k n : Nat} (h : k ≤ n) (hn : n ≤ 62) : (2 : Int) ^ k ≤ 4611686018427387904 ∧ 1 ≤ (2 : Int) ^ k := by
  have h1 : 2 ^ k ≤ 2 ^ 62 := Nat.pow_le_pow_right (by omega) (by omega)
  have h2 : 1 ≤ 2 ^ k := Nat.one_le_two_pow
  have h3 : ((2 ^ k : Nat) : Int) = (2 : Int) ^ k := by norm_cast
  have h4 : (2 : Nat) ^ 62 = 4611686018427387904 := by decide
  omega
set_option maxHeartbeats 800000 in
theorem r14power_any (w : World) (m : Nat) (hm : m ≤ 62) :
    Calls Try.prog 27 #[.int .i64 (m : Int)] w fun e w' => e = .returned (.int .i64 (2 ^ m)) ∧ w' = w := by
  go_enter Try.func27, Try.ntmps27
  go_wp2
  go_loopw [3, 4] (fun n i wr => ∃ k : Nat, k ≤ m ∧ i = .int .i64 k ∧ n = .int .i64 (2 ^ k) ∧ wr = w) (fun _ i _ => m - (intOf i).toNat)
  case atStart => exact ⟨0, by omega, rfl, rfl, rfl⟩
  case round =>
    obtain ⟨k, hk, rfl, rfl, rfl⟩ := hrel
    by_cases hlt : k < m
    · have hlt1 : (k : Int) < (m : Int) := by omega
      have hp := pow2_small (Nat.le_refl (k + 1)) (by omega)
      have hs : (2 : Int) ^ (k + 1) = 2 * 2 ^ k := by rw [Int.pow_succ]; omega
      have HS := hide hs
      rw [hs] at hp
      obtain ⟨P, hP⟩ : ∃ P : Int, P = 2 ^ k := ⟨_, rfl⟩
      rw [← hP] at hp HS ⊢
      clear hs hP
      obtain ⟨hp1, hp2⟩ := hp
      go_wp2
      go_roundw
      case rel => exact ⟨k + 1, by omega, by go_num, by rw [unhide HS], by first | rfl | trivial⟩
      case measure => simp [intOf]; omega
    · obtain rfl : k = m := by omega
      go_wp2
      go_ret
      exact ⟨rfl, rfl⟩
theorem half_neg (X : Int) (h : X < 0) : (X.tmod 2 = 0 → X.tdiv 2 = X / 2) ∧ (X.tmod 2 ≠ 0 → X.tdiv 2 = X / 2 + 1) := by
  have h1 := Int.tmod_add_mul_tdiv X 2
  have h2 := Int.tmod_nonneg 2 (by omega : 0 ≤ -X)
  have h3 := Int.tmod_lt_of_pos (-X) (by omega : (0 : Int) < 2)
  rw [Int.neg_tmod] at h2 h3
  omega
set_option maxHeartbeats 1600000 in
theorem r14under_any (w : World) (a : Int) (ha : lonA a) (m : Nat) (hm : m ≤ 64) :
    Calls Try.prog 28 #[.int .i64 a, .int .i64 (m : Int)] w fun e w' => e = .returned (.int .i64 (shr a m)) ∧ w' = w := by
  have HA := hide ha
  have h0 := shr_zero a
  have H0 := hide h0
  clear ha h0
  go_enter Try.func28, Try.ntmps28
  go_wp2
  go_loopw [0, 5] (fun x i wr => ∃ k : Nat, k ≤ m ∧ i = .int .i64 k ∧ x = .int .i64 (shr a k) ∧ wr = w) (fun _ i _ => m - (intOf i).toNat)
  case atStart => exact ⟨0, by omega, rfl, by rw [unhide H0], rfl⟩
  case round =>
    obtain ⟨k, hk, rfl, rfl, rfl⟩ := hrel
    by_cases hlt : k < m
    · have hlt1 : (k : Int) < (m : Int) := by omega
      have HX := hide (shr_lon (unhide HA) k)
      have HS := hide (shr_succ a k)
      generalize shr a k = X at *
      obtain ⟨x1, x2⟩ := unhide HX
      by_cases hn : X < 0
      · obtain ⟨e1, e2⟩ := half_neg X hn
        by_cases hm2 : X.tmod 2 = 0
        · have e3 := e1 hm2
          obtain ⟨Q, hQ⟩ : ∃ Q, Q = X / 2 := ⟨_, rfl⟩
          have hq : -9223372036854775808 ≤ Q ∧ Q ≤ 9223372036854775807 := by omega
          obtain ⟨q1, q2⟩ := hq
          have e4 : X.tdiv 2 = Q := by rw [e3, hQ]
          have HQ := hide hQ
          clear e1 e2 e3 hQ
          go_wp2
          go_roundw
          case rel => exact ⟨k + 1, by omega, by go_num, by rw [← unhide HS, ← unhide HQ], by first | rfl | trivial⟩
          case measure => simp [intOf]; omega
        · have e3 := e2 hm2
          obtain ⟨Q, hQ⟩ : ∃ Q, Q = X / 2 := ⟨_, rfl⟩
          have hq : -9223372036854775808 ≤ Q ∧ Q + 1 ≤ 9223372036854775807 := by omega
          obtain ⟨q1, q2⟩ := hq
          have e4 : X.tdiv 2 = Q + 1 := by rw [e3, hQ]
          have e5 : Q + 1 - 1 = Q := by omega
          have HQ := hide hQ
          have hne : (X.tmod 2 != 0) = true := by simpa using hm2
          clear e1 e2 e3 hQ
          go_wp2
          go_roundw
          case rel => exact ⟨k + 1, by omega, by go_num, by rw [← unhide HS, ← unhide HQ], by first | rfl | trivial⟩
          case measure => simp [intOf]; omega
      · have hX0 : 0 ≤ X := by omega
        go_wp2
        go_roundw
        case rel => exact ⟨k + 1, by omega, by go_num, by rw [← unhide HS], by first | rfl | trivial⟩
        case measure => simp [intOf]; omega
    · obtain rfl : k = m := by omega
      go_wp2
      go_ret
      exact ⟨rfl, rfl⟩
theorem bit_at (x i : Nat) : (((x / 2 ^ i : Nat) : Int) % 2 == 1) = decide (x / 2 ^ i % 2 = 1) := by
  by_cases h : x / 2 ^ i % 2 = 1
  · have : ((x / 2 ^ i : Nat) : Int) % 2 = 1 := by omega
    rw [this, decide_eq_true h]; rfl
  · have h0 : ((x / 2 ^ i : Nat) : Int) % 2 = 0 := by omega
    rw [h0, decide_eq_false h]; rfl
theorem pow_step {i : Nat} (h : i ≤ 63) : ((2 ^ i % 2 ^ 64 : Nat) : Int) * 2 % 18446744073709551616 = ((2 ^ (i + 1) % 2 ^ 64 : Nat) : Int) := by
  have e : (2 : Nat) ^ 64 = 18446744073709551616 := by decide
  rw [e, Nat.pow_succ]; omega
theorem pow63 {i : Nat} (h : i ≤ 63) : 2 ^ i ≤ 9223372036854775808 := by
  have h1 := Nat.pow_le_pow_right (n := 2) (by omega) h
  have e : (2 : Nat) ^ 63 = 9223372036854775808 := by decide
  omega
theorem div_step (x i : Nat) : ((x / 2 ^ i : Nat) : Int) / 2 = ((x / 2 ^ (i + 1) : Nat) : Int) := by
  rw [Nat.pow_succ, ← Nat.div_div_eq_div_mul]; omega
set_option maxHeartbeats 3200000 in
theorem r14bits0_any (w : World) (a b : Int) (size : Nat) (hs : size ≤ 64) :
    Calls Try.prog 29 #[.int .i64 0, .int .i64 a, .int .i64 b, .int .i64 (size : Int)] w fun e w' => e = .returned (.int .i64 (r64 ((bitZ 0 64 a b % 2 ^ size : Nat) : Int))) ∧ w' = w := by
  obtain ⟨x, hx⟩ : ∃ x, x = (a % 2 ^ 64).toNat := ⟨_, rfl⟩
  obtain ⟨y, hy⟩ : ∃ y, y = (b % 2 ^ 64).toNat := ⟨_, rfl⟩
  have hZ : bitZ 0 64 a b = bitN 0 x y := by unfold bitZ; rw [hx, hy]
  have e64 : (2 : Int) ^ 64 = 18446744073709551616 := by decide
  have ea : IntKind.u64.wrap a = (x : Int) := by rw [IntKind.wrap_u64]; rw [e64] at hx; omega
  have eb : IntKind.u64.wrap b = (y : Int) := by rw [IntKind.wrap_u64]; rw [e64] at hy; omega
  have hx2 : x < 18446744073709551616 := by rw [e64] at hx; omega
  have hy2 : y < 18446744073709551616 := by rw [e64] at hy; omega
  rw [hZ]
  have HX := hide hx2
  have HY := hide hy2
  clear hx hy hZ e64 hx2 hy2
  go_enter Try.func29, Try.ntmps29
  go_wp2
  go_loopw [9, 10, 11, 12, 13] (fun vx vy vo v1 vi wr => ∃ i : Nat, i ≤ size ∧ vi = .int .i64 i ∧ vx = .int .u64 ((x / 2 ^ i : Nat) : Int) ∧ vy = .int .u64 ((y / 2 ^ i : Nat) : Int) ∧ vo = .int .u64 ((bitN 0 x y % 2 ^ i : Nat) : Int) ∧ v1 = .int .u64 ((2 ^ i % 2 ^ 64 : Nat) : Int) ∧ wr = w) (fun _ _ _ _ i _ => size - (intOf i).toNat)
  case atStart => exact ⟨0, by omega, rfl, by simp, by simp, by simp [Nat.mod_one], by simp, rfl⟩
  case round =>
    obtain ⟨i, hi, rfl, rfl, rfl, rfl, rfl, rfl⟩ := hrel
    by_cases hlt : i < size
    case neg =>
      obtain rfl : i = size := by omega
      go_wp2
      go_ret
      exact ⟨by first | rfl | exact ret_i64 (by simp [w64_r64]), rfl⟩
    have hlt1 : (i : Int) < (size : Int) := by omega
    have HN := hide (bitN_succ 0 x y i)
    have hp := bit_at x i
    have hq := bit_at y i
    have hd1 := div_step x i
    have hd2 := div_step y i
    have h1 := pow_step (i := i) (by omega)
    have HD := hide (And.intro hd1 (And.intro hd2 h1))
    have hXi : x / 2 ^ i < 18446744073709551616 := Nat.lt_of_le_of_lt (Nat.div_le_self _ _) (unhide HX)
    have hYi : y / 2 ^ i < 18446744073709551616 := Nat.lt_of_le_of_lt (Nat.div_le_self _ _) (unhide HY)
    have hone : 2 ^ i % 2 ^ 64 = 2 ^ i := Nat.mod_eq_of_lt (Nat.pow_lt_pow_right (by omega) (by omega))
    have hO : bitN 0 x y % 2 ^ i < 2 ^ i := Nat.mod_lt _ (Nat.two_pow_pos i)
    have hI : 2 ^ i ≤ 9223372036854775808 := pow63 (by omega)
    rw [hone] at HD ⊢
    generalize decide (x / 2 ^ i % 2 = 1) = P at *
    generalize decide (y / 2 ^ i % 2 = 1) = Q at *
    rw [hone] at h1
    clear hone hd1 hd2 h1
    generalize hx' : x / 2 ^ i = xi at *
    generalize hy' : y / 2 ^ i = yi at *
    generalize ho' : bitN 0 x y % 2 ^ i = oi at *
    generalize hp' : 2 ^ i = pi at *
    clear hx' hy' ho' hp'
    have hb1 : 0 ≤ (xi : Int) ∧ (xi : Int) ≤ 18446744073709551615 := by omega
    have hb2 : 0 ≤ (yi : Int) ∧ (yi : Int) ≤ 18446744073709551615 := by omega
    have hb3 : (oi : Int) + pi ≤ 18446744073709551615 := by omega
    have HC : Hid (((oi + pi : Nat) : Int) = (oi : Int) + pi) := by show _ = _; omega
    clear hXi hYi hO hI
    cases P <;> cases Q
    · have HN2 : Hid (bitN 0 x y % 2 ^ (i + 1) = oi) := (unhide HN).trans (by rfl)
      clear HN
      go_wp2
      go_roundw
      case rel => exact ⟨i + 1, by omega, by go_num, by first | (rw [← (unhide HD).1]; done) | (rw [← (unhide HD).1]; rfl), by first | (rw [← (unhide HD).2.1]; done) | (rw [← (unhide HD).2.1]; rfl), by rw [unhide HN2], by first | (rw [← (unhide HD).2.2]; done) | (rw [← (unhide HD).2.2]; simp [IntKind.wrap_u64]; done), by first | rfl | trivial⟩
      case measure => simp [intOf]; omega
    · have HN2 : Hid (bitN 0 x y % 2 ^ (i + 1) = oi) := (unhide HN).trans (by rfl)
      clear HN
      go_wp2
      go_roundw
      case rel => exact ⟨i + 1, by omega, by go_num, by first | (rw [← (unhide HD).1]; done) | (rw [← (unhide HD).1]; rfl), by first | (rw [← (unhide HD).2.1]; done) | (rw [← (unhide HD).2.1]; rfl), by rw [unhide HN2], by first | (rw [← (unhide HD).2.2]; done) | (rw [← (unhide HD).2.2]; simp [IntKind.wrap_u64]; done), by first | rfl | trivial⟩
      case measure => simp [intOf]; omega
    · have HN2 : Hid (bitN 0 x y % 2 ^ (i + 1) = oi) := (unhide HN).trans (by rfl)
      clear HN
      go_wp2
      go_roundw
      case rel => exact ⟨i + 1, by omega, by go_num, by first | (rw [← (unhide HD).1]; done) | (rw [← (unhide HD).1]; rfl), by first | (rw [← (unhide HD).2.1]; done) | (rw [← (unhide HD).2.1]; rfl), by rw [unhide HN2], by first | (rw [← (unhide HD).2.2]; done) | (rw [← (unhide HD).2.2]; simp [IntKind.wrap_u64]; done), by first | rfl | trivial⟩
      case measure => simp [intOf]; omega
    · have HN2 : Hid (bitN 0 x y % 2 ^ (i + 1) = oi + pi) := (unhide HN).trans (by rfl)
      clear HN
      go_wp2
      go_roundw
      case rel => exact ⟨i + 1, by omega, by go_num, by first | (rw [← (unhide HD).1]; done) | (rw [← (unhide HD).1]; rfl), by first | (rw [← (unhide HD).2.1]; done) | (rw [← (unhide HD).2.1]; rfl), by rw [unhide HN2]; try rw [unhide HC], by first | (rw [← (unhide HD).2.2]; done) | (rw [← (unhide HD).2.2]; simp [IntKind.wrap_u64]; done), by first | rfl | trivial⟩
      case measure => simp [intOf]; omega
set_option maxHeartbeats 3200000 in
theorem r14bits1_any (w : World) (a b : Int) (size : Nat) (hs : size ≤ 64) :
    Calls Try.prog 29 #[.int .i64 1, .int .i64 a, .int .i64 b, .int .i64 (size : Int)] w fun e w' => e = .returned (.int .i64 (r64 ((bitZ 1 64 a b % 2 ^ size : Nat) : Int))) ∧ w' = w := by
  obtain ⟨x, hx⟩ : ∃ x, x = (a % 2 ^ 64).toNat := ⟨_, rfl⟩
  obtain ⟨y, hy⟩ : ∃ y, y = (b % 2 ^ 64).toNat := ⟨_, rfl⟩
  have hZ : bitZ 1 64 a b = bitN 1 x y := by unfold bitZ; rw [hx, hy]
  have e64 : (2 : Int) ^ 64 = 18446744073709551616 := by decide
  have ea : IntKind.u64.wrap a = (x : Int) := by rw [IntKind.wrap_u64]; rw [e64] at hx; omega
  have eb : IntKind.u64.wrap b = (y : Int) := by rw [IntKind.wrap_u64]; rw [e64] at hy; omega
  have hx2 : x < 18446744073709551616 := by rw [e64] at hx; omega
  have hy2 : y < 18446744073709551616 := by rw [e64] at hy; omega
  rw [hZ]
  have HX := hide hx2
  have HY := hide hy2
  clear hx hy hZ e64 hx2 hy2
  go_enter Try.func29, Try.ntmps29
  go_wp2
  go_loopw [9, 10, 11, 12, 13] (fun vx vy vo v1 vi wr => ∃ i : Nat, i ≤ size ∧ vi = .int .i64 i ∧ vx = .int .u64 ((x / 2 ^ i : Nat) : Int) ∧ vy = .int .u64 ((y / 2 ^ i : Nat) : Int) ∧ vo = .int .u64 ((bitN 1 x y % 2 ^ i : Nat) : Int) ∧ v1 = .int .u64 ((2 ^ i % 2 ^ 64 : Nat) : Int) ∧ wr = w) (fun _ _ _ _ i _ => size - (intOf i).toNat)
  case atStart => exact ⟨0, by omega, rfl, by simp, by simp, by simp [Nat.mod_one], by simp, rfl⟩
  case round =>
    obtain ⟨i, hi, rfl, rfl, rfl, rfl, rfl, rfl⟩ := hrel
    by_cases hlt : i < size
    case neg =>
      obtain rfl : i = size := by omega
      go_wp2
      go_ret
      exact ⟨by first | rfl | exact ret_i64 (by simp [w64_r64]), rfl⟩
    have hlt1 : (i : Int) < (size : Int) := by omega
    have HN := hide (bitN_succ 1 x y i)
    have hp := bit_at x i
    have hq := bit_at y i
    have hd1 := div_step x i
    have hd2 := div_step y i
    have h1 := pow_step (i := i) (by omega)
    have HD := hide (And.intro hd1 (And.intro hd2 h1))
    have hXi : x / 2 ^ i < 18446744073709551616 := Nat.lt_of_le_of_lt (Nat.div_le_self _ _) (unhide HX)
    have hYi : y / 2 ^ i < 18446744073709551616 := Nat.lt_of_le_of_lt (Nat.div_le_self _ _) (unhide HY)
    have hone : 2 ^ i % 2 ^ 64 = 2 ^ i := Nat.mod_eq_of_lt (Nat.pow_lt_pow_right (by omega) (by omega))
    have hO : bitN 1 x y % 2 ^ i < 2 ^ i := Nat.mod_lt _ (Nat.two_pow_pos i)
    have hI : 2 ^ i ≤ 9223372036854775808 := pow63 (by omega)
    rw [hone] at HD ⊢
    generalize decide (x / 2 ^ i % 2 = 1) = P at *
    generalize decide (y / 2 ^ i % 2 = 1) = Q at *
    rw [hone] at h1
    clear hone hd1 hd2 h1
    generalize hx' : x / 2 ^ i = xi at *
    generalize hy' : y / 2 ^ i = yi at *
    generalize ho' : bitN 1 x y % 2 ^ i = oi at *
    generalize hp' : 2 ^ i = pi at *
    clear hx' hy' ho' hp'
    have hb1 : 0 ≤ (xi : Int) ∧ (xi : Int) ≤ 18446744073709551615 := by omega
    have hb2 : 0 ≤ (yi : Int) ∧ (yi : Int) ≤ 18446744073709551615 := by omega
    have hb3 : (oi : Int) + pi ≤ 18446744073709551615 := by omega
    have HC : Hid (((oi + pi : Nat) : Int) = (oi : Int) + pi) := by show _ = _; omega
    clear hXi hYi hO hI
    cases P <;> cases Q
    · have HN2 : Hid (bitN 1 x y % 2 ^ (i + 1) = oi) := (unhide HN).trans (by rfl)
      clear HN
      go_wp2
      go_roundw
      case rel => exact ⟨i + 1, by omega, by go_num, by first | (rw [← (unhide HD).1]; done) | (rw [← (unhide HD).1]; rfl), by first | (rw [← (unhide HD).2.1]; done) | (rw [← (unhide HD).2.1]; rfl), by rw [unhide HN2], by first | (rw [← (unhide HD).2.2]; done) | (rw [← (unhide HD).2.2]; simp [IntKind.wrap_u64]; done), by first | rfl | trivial⟩
      case measure => simp [intOf]; omega
    · have HN2 : Hid (bitN 1 x y % 2 ^ (i + 1) = oi + pi) := (unhide HN).trans (by rfl)
      clear HN
      go_wp2
      go_roundw
      case rel => exact ⟨i + 1, by omega, by go_num, by first | (rw [← (unhide HD).1]; done) | (rw [← (unhide HD).1]; rfl), by first | (rw [← (unhide HD).2.1]; done) | (rw [← (unhide HD).2.1]; rfl), by rw [unhide HN2]; try rw [unhide HC], by first | (rw [← (unhide HD).2.2]; done) | (rw [← (unhide HD).2.2]; simp [IntKind.wrap_u64]; done), by first | rfl | trivial⟩
      case measure => simp [intOf]; omega
    · have HN2 : Hid (bitN 1 x y % 2 ^ (i + 1) = oi + pi) := (unhide HN).trans (by rfl)
      clear HN
      go_wp2
      go_roundw
      case rel => exact ⟨i + 1, by omega, by go_num, by first | (rw [← (unhide HD).1]; done) | (rw [← (unhide HD).1]; rfl), by first | (rw [← (unhide HD).2.1]; done) | (rw [← (unhide HD).2.1]; rfl), by rw [unhide HN2]; try rw [unhide HC], by first | (rw [← (unhide HD).2.2]; done) | (rw [← (unhide HD).2.2]; simp [IntKind.wrap_u64]; done), by first | rfl | trivial⟩
      case measure => simp [intOf]; omega
    · have HN2 : Hid (bitN 1 x y % 2 ^ (i + 1) = oi + pi) := (unhide HN).trans (by rfl)
      clear HN
      go_wp2
      go_roundw
      case rel => exact ⟨i + 1, by omega, by go_num, by first | (rw [← (unhide HD).1]; done) | (rw [← (unhide HD).1]; rfl), by first | (rw [← (unhide HD).2.1]; done) | (rw [← (unhide HD).2.1]; rfl), by rw [unhide HN2]; try rw [unhide HC], by first | (rw [← (unhide HD).2.2]; done) | (rw [← (unhide HD).2.2]; simp [IntKind.wrap_u64]; done), by first | rfl | trivial⟩
      case measure => simp [intOf]; omega
set_option maxHeartbeats 3200000 in
theorem r14bits2_any (w : World) (a b : Int) (size : Nat) (hs : size ≤ 64) :
    Calls Try.prog 29 #[.int .i64 2, .int .i64 a, .int .i64 b, .int .i64 (size : Int)] w fun e w' => e = .returned (.int .i64 (r64 ((bitZ 2 64 a b % 2 ^ size : Nat) : Int))) ∧ w' = w := by
  obtain ⟨x, hx⟩ : ∃ x, x = (a % 2 ^ 64).toNat := ⟨_, rfl⟩
  obtain ⟨y, hy⟩ : ∃ y, y = (b % 2 ^ 64).toNat := ⟨_, rfl⟩
  have hZ : bitZ 2 64 a b = bitN 2 x y := by unfold bitZ; rw [hx, hy]
  have e64 : (2 : Int) ^ 64 = 18446744073709551616 := by decide
  have ea : IntKind.u64.wrap a = (x : Int) := by rw [IntKind.wrap_u64]; rw [e64] at hx; omega
  have eb : IntKind.u64.wrap b = (y : Int) := by rw [IntKind.wrap_u64]; rw [e64] at hy; omega
  have hx2 : x < 18446744073709551616 := by rw [e64] at hx; omega
  have hy2 : y < 18446744073709551616 := by rw [e64] at hy; omega
  rw [hZ]
  have HX := hide hx2
  have HY := hide hy2
  clear hx hy hZ e64 hx2 hy2
  go_enter Try.func29, Try.ntmps29
  go_wp2
  go_loopw [9, 10, 11, 12, 13] (fun vx vy vo v1 vi wr => ∃ i : Nat, i ≤ size ∧ vi = .int .i64 i ∧ vx = .int .u64 ((x / 2 ^ i : Nat) : Int) ∧ vy = .int .u64 ((y / 2 ^ i : Nat) : Int) ∧ vo = .int .u64 ((bitN 2 x y % 2 ^ i : Nat) : Int) ∧ v1 = .int .u64 ((2 ^ i % 2 ^ 64 : Nat) : Int) ∧ wr = w) (fun _ _ _ _ i _ => size - (intOf i).toNat)
  case atStart => exact ⟨0, by omega, rfl, by simp, by simp, by simp [Nat.mod_one], by simp, rfl⟩
  case round =>
    obtain ⟨i, hi, rfl, rfl, rfl, rfl, rfl, rfl⟩ := hrel
    by_cases hlt : i < size
    case neg =>
      obtain rfl : i = size := by omega
      go_wp2
      go_ret
      exact ⟨by first | rfl | exact ret_i64 (by simp [w64_r64]), rfl⟩
    have hlt1 : (i : Int) < (size : Int) := by omega
    have HN := hide (bitN_succ 2 x y i)
    have hp := bit_at x i
    have hq := bit_at y i
    have hd1 := div_step x i
    have hd2 := div_step y i
    have h1 := pow_step (i := i) (by omega)
    have HD := hide (And.intro hd1 (And.intro hd2 h1))
    have hXi : x / 2 ^ i < 18446744073709551616 := Nat.lt_of_le_of_lt (Nat.div_le_self _ _) (unhide HX)
    have hYi : y / 2 ^ i < 18446744073709551616 := Nat.lt_of_le_of_lt (Nat.div_le_self _ _) (unhide HY)
    have hone : 2 ^ i % 2 ^ 64 = 2 ^ i := Nat.mod_eq_of_lt (Nat.pow_lt_pow_right (by omega) (by omega))
    have hO : bitN 2 x y % 2 ^ i < 2 ^ i := Nat.mod_lt _ (Nat.two_pow_pos i)
    have hI : 2 ^ i ≤ 9223372036854775808 := pow63 (by omega)
    rw [hone] at HD ⊢
    generalize decide (x / 2 ^ i % 2 = 1) = P at *
    generalize decide (y / 2 ^ i % 2 = 1) = Q at *
    rw [hone] at h1
    clear hone hd1 hd2 h1
    generalize hx' : x / 2 ^ i = xi at *
    generalize hy' : y / 2 ^ i = yi at *
    generalize ho' : bitN 2 x y % 2 ^ i = oi at *
    generalize hp' : 2 ^ i = pi at *
    clear hx' hy' ho' hp'
    have hb1 : 0 ≤ (xi : Int) ∧ (xi : Int) ≤ 18446744073709551615 := by omega
    have hb2 : 0 ≤ (yi : Int) ∧ (yi : Int) ≤ 18446744073709551615 := by omega
    have hb3 : (oi : Int) + pi ≤ 18446744073709551615 := by omega
    have HC : Hid (((oi + pi : Nat) : Int) = (oi : Int) + pi) := by show _ = _; omega
    clear hXi hYi hO hI
    cases P <;> cases Q
    · have HN2 : Hid (bitN 2 x y % 2 ^ (i + 1) = oi) := (unhide HN).trans (by rfl)
      clear HN
      go_wp2
      go_roundw
      case rel => exact ⟨i + 1, by omega, by go_num, by first | (rw [← (unhide HD).1]; done) | (rw [← (unhide HD).1]; rfl), by first | (rw [← (unhide HD).2.1]; done) | (rw [← (unhide HD).2.1]; rfl), by rw [unhide HN2], by first | (rw [← (unhide HD).2.2]; done) | (rw [← (unhide HD).2.2]; simp [IntKind.wrap_u64]; done), by first | rfl | trivial⟩
      case measure => simp [intOf]; omega
    · have HN2 : Hid (bitN 2 x y % 2 ^ (i + 1) = oi + pi) := (unhide HN).trans (by rfl)
      clear HN
      go_wp2
      go_roundw
      case rel => exact ⟨i + 1, by omega, by go_num, by first | (rw [← (unhide HD).1]; done) | (rw [← (unhide HD).1]; rfl), by first | (rw [← (unhide HD).2.1]; done) | (rw [← (unhide HD).2.1]; rfl), by rw [unhide HN2]; try rw [unhide HC], by first | (rw [← (unhide HD).2.2]; done) | (rw [← (unhide HD).2.2]; simp [IntKind.wrap_u64]; done), by first | rfl | trivial⟩
      case measure => simp [intOf]; omega
    · have HN2 : Hid (bitN 2 x y % 2 ^ (i + 1) = oi + pi) := (unhide HN).trans (by rfl)
      clear HN
      go_wp2
      go_roundw
      case rel => exact ⟨i + 1, by omega, by go_num, by first | (rw [← (unhide HD).1]; done) | (rw [← (unhide HD).1]; rfl), by first | (rw [← (unhide HD).2.1]; done) | (rw [← (unhide HD).2.1]; rfl), by rw [unhide HN2]; try rw [unhide HC], by first | (rw [← (unhide HD).2.2]; done) | (rw [← (unhide HD).2.2]; simp [IntKind.wrap_u64]; done), by first | rfl | trivial⟩
      case measure => simp [intOf]; omega
    · have HN2 : Hid (bitN 2 x y % 2 ^ (i + 1) = oi) := (unhide HN).trans (by rfl)
      clear HN
      go_wp2
      go_roundw
      case rel => exact ⟨i + 1, by omega, by go_num, by first | (rw [← (unhide HD).1]; done) | (rw [← (unhide HD).1]; rfl), by first | (rw [← (unhide HD).2.1]; done) | (rw [← (unhide HD).2.1]; rfl), by rw [unhide HN2], by first | (rw [← (unhide HD).2.2]; done) | (rw [← (unhide HD).2.2]; simp [IntKind.wrap_u64]; done), by first | rfl | trivial⟩
      case measure => simp [intOf]; omega
end Go.Proofs.Ytfjkclolnnoklaa
