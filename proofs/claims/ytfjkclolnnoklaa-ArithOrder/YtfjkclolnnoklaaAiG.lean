/- Layer 14: the document's Long, One, If (written by mk/mkaig.py). -/
import Derived.Test.YtfjkclolnnoklaaAiF
namespace Go.Proofs.Ytfjkclolnnoklaa
open Go.RowKit
set_option linter.unusedVariables false
set_option maxRecDepth 100000

theorem tdiv_m1 (a : Int) : a.tdiv (-1) = 0 - a := by rw [Int.tdiv_neg, Int.tdiv_one]; omega
theorem tmod_m1 (a : Int) : a.tmod (-1) = 0 := by have := Int.tmod_add_mul_tdiv a (-1); rw [tdiv_m1] at this; omega
set_option maxHeartbeats 3200000 in
theorem r14Long_any (w : World) (op a b : Int) (ha : lonA a) (hb : lonA b) : Calls Try.prog 15 #[.int .i64 op, .int .i64 a, .int .i64 b] w fun e w' => e = .returned (.tuple #[.int .i64 (lonR op a b).1, .int .i64 (lonR op a b).2]) ∧ w' = w := by
  unfold lonR
  obtain ⟨y, hy, hy1, hyc⟩ := tmod_parts b 64 (by omega)
  have HU : Hid (∀ W, Calls Try.prog 28 #[.int .i64 a, .int .i64 (y : Int)] W fun e w' => e = .returned (.int .i64 (shr a y)) ∧ w' = W) := fun W => r14under_any W a ha y (by omega)
  have Hha := hide ha
  obtain ⟨a1, a2⟩ := ha
  obtain ⟨b1, b2⟩ := hb
  have HB0 : Hid (∀ W, Calls Try.prog 29 #[.int .i64 0, .int .i64 a, .int .i64 b, .int .i64 64] W fun e w' => e = .returned (.int .i64 (r64 ((bitZ 0 64 a b : Nat) : Int))) ∧ w' = W) := fun W => (r14bits0_any W a b 64 (by omega)).mono fun e w' h => by
    rw [Nat.mod_eq_of_lt (bitZ_lt 0 64 a b)] at h
    exact h
  have HB1 : Hid (∀ W, Calls Try.prog 29 #[.int .i64 1, .int .i64 a, .int .i64 b, .int .i64 64] W fun e w' => e = .returned (.int .i64 (r64 ((bitZ 1 64 a b : Nat) : Int))) ∧ w' = W) := fun W => (r14bits1_any W a b 64 (by omega)).mono fun e w' h => by
    rw [Nat.mod_eq_of_lt (bitZ_lt 1 64 a b)] at h
    exact h
  have HB2 : Hid (∀ W, Calls Try.prog 29 #[.int .i64 2, .int .i64 a, .int .i64 b, .int .i64 64] W fun e w' => e = .returned (.int .i64 (r64 ((bitZ 2 64 a b : Nat) : Int))) ∧ w' = W) := fun W => (r14bits2_any W a b 64 (by omega)).mono fun e w' h => by
    rw [Nat.mod_eq_of_lt (bitZ_lt 2 64 a b)] at h
    exact h
  rcases hyc with hyc | hyc
  ·
    have hyneg : ¬ (y : Int) < 0 := by omega
    by_cases h97 : op = 97
    · subst h97
      have hv : of2 (op64 97 a b) ((97 : Int) = 109 ∨ (97 : Int) = 113) b = (r64 (a + b), 0) := of2_ok (by rfl) (fun h => by omega)
      rw [hv]
      simp only
      clear hv hy HU Hha HB0 HB1 HB2
      go_enter Try.func15, Try.ntmps15
      go_wp2
      go_ret2
      exact ⟨by first | rfl | exact ret2A (by first | rfl | exact w64_r64 _ | exact rnd_r64 _ | (rw [w64_r64, rnd_r64]) | (rw [w64_r64, rnd_r64]; rfl) | (rw [Int.zero_sub]; exact w64_r64 _) | (rw [Int.zero_sub, w64_r64, rnd_r64]) | (rw [Int.zero_sub])) rfl, rfl⟩
    by_cases h101 : op = 101
    · subst h101
      have hv : of2 (op64 101 a b) ((101 : Int) = 109 ∨ (101 : Int) = 113) b = (r64 (a - b), 0) := of2_ok (by rfl) (fun h => by omega)
      rw [hv]
      simp only
      clear hv hy HU Hha HB0 HB1 HB2
      go_enter Try.func15, Try.ntmps15
      go_wp2
      go_ret2
      exact ⟨by first | rfl | exact ret2A (by first | rfl | exact w64_r64 _ | exact rnd_r64 _ | (rw [w64_r64, rnd_r64]) | (rw [w64_r64, rnd_r64]; rfl) | (rw [Int.zero_sub]; exact w64_r64 _) | (rw [Int.zero_sub, w64_r64, rnd_r64]) | (rw [Int.zero_sub])) rfl, rfl⟩
    by_cases h105 : op = 105
    · subst h105
      have hv : of2 (op64 105 a b) ((105 : Int) = 109 ∨ (105 : Int) = 113) b = (r64 (a * b), 0) := of2_ok (by rfl) (fun h => by omega)
      rw [hv]
      simp only
      clear hv hy HU Hha HB0 HB1 HB2
      go_enter Try.func15, Try.ntmps15
      go_wp2
      go_ret2
      exact ⟨by first | rfl | exact ret2A (by first | rfl | exact w64_r64 _ | exact rnd_r64 _ | (rw [w64_r64, rnd_r64]) | (rw [w64_r64, rnd_r64]; rfl) | (rw [Int.zero_sub]; exact w64_r64 _) | (rw [Int.zero_sub, w64_r64, rnd_r64]) | (rw [Int.zero_sub])) rfl, rfl⟩
    by_cases h109 : op = 109
    · subst h109
      by_cases hb0 : b = 0
      · subst hb0
        have hv : of2 (op64 109 a 0) ((109 : Int) = 109 ∨ (109 : Int) = 113) 0 = (0, 5) := of2_zero rfl ⟨by first | exact .inl rfl | exact .inr rfl, rfl⟩
        rw [hv]
        simp only
        clear hv hy HU Hha HB0 HB1 HB2
        go_enter Try.func15, Try.ntmps15
        go_wp2
        go_ret2
        exact ⟨by first | rfl | exact ret2A (by first | rfl | exact w64_r64 _ | exact rnd_r64 _ | (rw [w64_r64, rnd_r64]) | (rw [w64_r64, rnd_r64]; rfl) | (rw [Int.zero_sub]; exact w64_r64 _) | (rw [Int.zero_sub, w64_r64, rnd_r64]) | (rw [Int.zero_sub])) rfl, rfl⟩
      have hbn := beq_ne hb0
      by_cases hbm : b = -1
      · subst hbm
        have hv : of2 (op64 109 a (-1)) ((109 : Int) = 109 ∨ (109 : Int) = 113) (-1) = (r64 (0 - a), 0) := of2_ok (by show some _ = _; rw [tdiv_m1]) (fun h => hb0 h.2)
        rw [hv]
        simp only
        clear hv hy HU Hha HB0 HB1 HB2
        go_enter Try.func15, Try.ntmps15
        go_wp2
        go_ret2
        exact ⟨by first | rfl | exact ret2A (by first | rfl | exact w64_r64 _ | exact rnd_r64 _ | (rw [w64_r64, rnd_r64]) | (rw [w64_r64, rnd_r64]; rfl) | (rw [Int.zero_sub]; exact w64_r64 _) | (rw [Int.zero_sub, w64_r64, rnd_r64]) | (rw [Int.zero_sub])) rfl, rfl⟩
      · have hbn2 := beq_ne hbm
        have hv : of2 (op64 109 a b) ((109 : Int) = 109 ∨ (109 : Int) = 113) b = (r64 (a.tdiv b), 0) := of2_ok (by rfl) (fun h => hb0 h.2)
        rw [hv]
        simp only
        clear hv hy HU Hha HB0 HB1 HB2
        go_enter Try.func15, Try.ntmps15
        go_wp2
        go_ret2
        exact ⟨by first | rfl | exact ret2A (by first | rfl | exact w64_r64 _ | exact rnd_r64 _ | (rw [w64_r64, rnd_r64]) | (rw [w64_r64, rnd_r64]; rfl) | (rw [Int.zero_sub]; exact w64_r64 _) | (rw [Int.zero_sub, w64_r64, rnd_r64]) | (rw [Int.zero_sub])) rfl, rfl⟩
    by_cases h113 : op = 113
    · subst h113
      by_cases hb0 : b = 0
      · subst hb0
        have hv : of2 (op64 113 a 0) ((113 : Int) = 109 ∨ (113 : Int) = 113) 0 = (0, 5) := of2_zero rfl ⟨by first | exact .inl rfl | exact .inr rfl, rfl⟩
        rw [hv]
        simp only
        clear hv hy HU Hha HB0 HB1 HB2
        go_enter Try.func15, Try.ntmps15
        go_wp2
        go_ret2
        exact ⟨by first | rfl | exact ret2A (by first | rfl | exact w64_r64 _ | exact rnd_r64 _ | (rw [w64_r64, rnd_r64]) | (rw [w64_r64, rnd_r64]; rfl) | (rw [Int.zero_sub]; exact w64_r64 _) | (rw [Int.zero_sub, w64_r64, rnd_r64]) | (rw [Int.zero_sub])) rfl, rfl⟩
      have hbn := beq_ne hb0
      by_cases hbm : b = -1
      · subst hbm
        have hv : of2 (op64 113 a (-1)) ((113 : Int) = 109 ∨ (113 : Int) = 113) (-1) = (0, 0) := of2_ok (by show some _ = _; rw [tmod_m1]) (fun h => hb0 h.2)
        rw [hv]
        simp only
        clear hv hy HU Hha HB0 HB1 HB2
        go_enter Try.func15, Try.ntmps15
        go_wp2
        go_ret2
        exact ⟨by first | rfl | exact ret2A (by first | rfl | exact w64_r64 _ | exact rnd_r64 _ | (rw [w64_r64, rnd_r64]) | (rw [w64_r64, rnd_r64]; rfl) | (rw [Int.zero_sub]; exact w64_r64 _) | (rw [Int.zero_sub, w64_r64, rnd_r64]) | (rw [Int.zero_sub])) rfl, rfl⟩
      · have hbn2 := beq_ne hbm
        have hv : of2 (op64 113 a b) ((113 : Int) = 109 ∨ (113 : Int) = 113) b = (a.tmod b, 0) := of2_ok (by rfl) (fun h => hb0 h.2)
        rw [hv]
        simp only
        clear hv hy HU Hha HB0 HB1 HB2
        go_enter Try.func15, Try.ntmps15
        go_wp2
        go_ret2
        exact ⟨by first | rfl | exact ret2A (by first | rfl | exact w64_r64 _ | exact rnd_r64 _ | (rw [w64_r64, rnd_r64]) | (rw [w64_r64, rnd_r64]; rfl) | (rw [Int.zero_sub]; exact w64_r64 _) | (rw [Int.zero_sub, w64_r64, rnd_r64]) | (rw [Int.zero_sub])) rfl, rfl⟩
    by_cases h121 : op = 121
    · subst h121
      have hv : of2 (op64 121 a b) ((121 : Int) = 109 ∨ (121 : Int) = 113) b = (r64 (shl a y), 0) := of2_ok (by rw [hy]; rfl) (fun h => by omega)
      rw [hv]
      simp only
      have HL : Hid (∀ k, r64 (r64 (shl a k) + r64 (shl a k)) = r64 (shl a (k + 1))) := fun k => shl_step a k
      have H0 : Hid (r64 (shl a 0) = a) := by show _ = _; unfold shl; rw [Int.pow_zero, Int.mul_one]; exact r64_id (unhide Hha)
      clear hv hy HU HB0 HB1 HB2
      go_enter Try.func15, Try.ntmps15
      go_wp2
      go_loopw [1, 9] (fun vx vi wr => ∃ i : Nat, i ≤ y ∧ vi = .int .i64 i ∧ vx = .int .i64 (r64 (shl a i)) ∧ wr = w) (fun _ i _ => y - (intOf i).toNat)
      case atStart => exact ⟨0, by omega, rfl, by rw [unhide H0], rfl⟩
      case round =>
        obtain ⟨i, hi, rfl, rfl, rfl⟩ := hrel
        by_cases hlt : i < y
        · have hlt1 : (i : Int) < (y : Int) := by omega
          have HS := hide (unhide HL i)
          generalize r64 (shl a i) = Z at *
          go_wp2
          go_roundw
          case rel => exact ⟨i + 1, by omega, by go_num, by rw [← unhide HS]; first | rfl | (rw [w64_r64]), by first | rfl | trivial⟩
          case measure => simp [intOf]; omega
        · obtain rfl : i = y := by omega
          go_wp2
          go_ret2
          exact ⟨rfl, rfl⟩
    by_cases h123 : op = 123
    · subst h123
      have hv : of2 (op64 123 a b) ((123 : Int) = 109 ∨ (123 : Int) = 113) b = (shr a y, 0) := of2_ok (by rw [hy]; rfl) (fun h => by omega)
      rw [hv]
      simp only
      clear hv hy HB0 HB1 HB2
      generalize shr a y = S at *
      go_enter Try.func15, Try.ntmps15
      go_wp2_with fail
      refine (unhide HU _).mono ?_
      rintro e w1 ⟨rfl, rfl⟩
      go_wp2
      go_ret2
      exact ⟨by first | rfl | exact ret2A (by first | rfl | exact w64_r64 _ | exact rnd_r64 _ | (rw [w64_r64, rnd_r64]) | (rw [w64_r64, rnd_r64]; rfl) | (rw [Int.zero_sub]; exact w64_r64 _) | (rw [Int.zero_sub, w64_r64, rnd_r64]) | (rw [Int.zero_sub])) rfl, rfl⟩
    by_cases h125 : op = 125
    · subst h125
      have hv : of2 (op64 125 a b) ((125 : Int) = 109 ∨ (125 : Int) = 113) b = (r64 (shr (u64 a) y), 0) := of2_ok (by rw [hy]; rfl) (fun h => by omega)
      rw [hv]
      simp only
      have HL : Hid (∀ k, shr (u64 a) k / 2 = shr (u64 a) (k + 1)) := fun k => shr_succ _ k
      have HQ : Hid (∀ k, 0 ≤ shr (u64 a) k ∧ shr (u64 a) k ≤ 18446744073709551615) := fun k => by
        have h1 := (shr_between (u64 a) k).1
        have h2 : 0 ≤ u64 a ∧ u64 a ≤ 18446744073709551615 := by unfold u64; omega
        have h3 := h1 h2.1
        omega
      have h0 : IntKind.u64.wrap a = shr (u64 a) 0 := by rw [shr_zero]; exact u64_wrap a
      clear hv hy HU HB0 HB1 HB2
      obtain ⟨X0, hX0⟩ : ∃ X0, X0 = shr (u64 a) 0 := ⟨_, rfl⟩
      rw [← hX0] at h0
      have HX0 := hide hX0
      clear hX0
      go_enter Try.func15, Try.ntmps15
      go_wp2
      go_loopw [10, 11] (fun vx vi wr => ∃ i : Nat, i ≤ y ∧ vi = .int .i64 i ∧ vx = .int .u64 (shr (u64 a) i) ∧ wr = w) (fun _ i _ => y - (intOf i).toNat)
      case atStart => exact ⟨0, by omega, rfl, by rw [unhide HX0], rfl⟩
      case round =>
        obtain ⟨i, hi, rfl, rfl, rfl⟩ := hrel
        by_cases hlt : i < y
        · have hlt1 : (i : Int) < (y : Int) := by omega
          have HS := hide (unhide HL i)
          obtain ⟨q1, q2⟩ := unhide HQ i
          generalize shr (u64 a) i = Z at *
          go_wp2
          go_roundw
          case rel => exact ⟨i + 1, by omega, by go_num, by rw [← unhide HS], by first | rfl | trivial⟩
          case measure => simp [intOf]; omega
        · obtain rfl : i = y := by omega
          go_wp2
          go_ret2
          exact ⟨by first | rfl | exact ret2A (by first | rfl | exact w64_r64 _) rfl, rfl⟩
    by_cases h127 : op = 127
    · subst h127
      have hv : of2 (op64 127 a b) ((127 : Int) = 109 ∨ (127 : Int) = 113) b = (r64 (bitZ 0 64 a b), 0) := of2_ok (by rfl) (fun h => by omega)
      rw [hv]
      simp only
      clear hv hy Hha HU
      have HX := hide (unhide HB0)
      clear HB0 HB1 HB2
      generalize r64 ((bitZ 0 64 a b : Nat) : Int) = Z at *
      go_enter Try.func15, Try.ntmps15
      go_wp2_with fail
      refine (unhide HX _).mono ?_
      rintro e w1 ⟨rfl, rfl⟩
      go_wp2
      go_ret2
      exact ⟨by first | rfl | exact ret2A (by first | rfl | exact w64_r64 _ | exact rnd_r64 _ | (rw [w64_r64, rnd_r64]) | (rw [w64_r64, rnd_r64]; rfl) | (rw [Int.zero_sub]; exact w64_r64 _) | (rw [Int.zero_sub, w64_r64, rnd_r64]) | (rw [Int.zero_sub])) rfl, rfl⟩
    by_cases h129 : op = 129
    · subst h129
      have hv : of2 (op64 129 a b) ((129 : Int) = 109 ∨ (129 : Int) = 113) b = (r64 (bitZ 1 64 a b), 0) := of2_ok (by rfl) (fun h => by omega)
      rw [hv]
      simp only
      clear hv hy Hha HU
      have HX := hide (unhide HB1)
      clear HB0 HB1 HB2
      generalize r64 ((bitZ 1 64 a b : Nat) : Int) = Z at *
      go_enter Try.func15, Try.ntmps15
      go_wp2_with fail
      refine (unhide HX _).mono ?_
      rintro e w1 ⟨rfl, rfl⟩
      go_wp2
      go_ret2
      exact ⟨by first | rfl | exact ret2A (by first | rfl | exact w64_r64 _ | exact rnd_r64 _ | (rw [w64_r64, rnd_r64]) | (rw [w64_r64, rnd_r64]; rfl) | (rw [Int.zero_sub]; exact w64_r64 _) | (rw [Int.zero_sub, w64_r64, rnd_r64]) | (rw [Int.zero_sub])) rfl, rfl⟩
    by_cases h131 : op = 131
    · subst h131
      have hv : of2 (op64 131 a b) ((131 : Int) = 109 ∨ (131 : Int) = 113) b = (r64 (bitZ 2 64 a b), 0) := of2_ok (by rfl) (fun h => by omega)
      rw [hv]
      simp only
      clear hv hy Hha HU
      have HX := hide (unhide HB2)
      clear HB0 HB1 HB2
      generalize r64 ((bitZ 2 64 a b : Nat) : Int) = Z at *
      go_enter Try.func15, Try.ntmps15
      go_wp2_with fail
      refine (unhide HX _).mono ?_
      rintro e w1 ⟨rfl, rfl⟩
      go_wp2
      go_ret2
      exact ⟨by first | rfl | exact ret2A (by first | rfl | exact w64_r64 _ | exact rnd_r64 _ | (rw [w64_r64, rnd_r64]) | (rw [w64_r64, rnd_r64]; rfl) | (rw [Int.zero_sub]; exact w64_r64 _) | (rw [Int.zero_sub, w64_r64, rnd_r64]) | (rw [Int.zero_sub])) rfl, rfl⟩
    by_cases h148 : op = 148
    · subst h148
      by_cases hlt : a < b
      · have hv : of2 (op64 148 a b) ((148 : Int) = 109 ∨ (148 : Int) = 113) b = (-1, 0) := of2_ok (by show some (cmpL a b) = _; unfold cmpL; rw [if_pos hlt]) (fun h => by omega)
        rw [hv]
        simp only
        clear hv hy HU Hha HB0 HB1 HB2
        go_enter Try.func15, Try.ntmps15
        go_wp2
        go_ret2
        exact ⟨by first | rfl | exact ret2A (by first | rfl | exact w64_r64 _ | exact rnd_r64 _ | (rw [w64_r64, rnd_r64]) | (rw [w64_r64, rnd_r64]; rfl) | (rw [Int.zero_sub]; exact w64_r64 _) | (rw [Int.zero_sub, w64_r64, rnd_r64]) | (rw [Int.zero_sub])) rfl, rfl⟩
      · by_cases hgt : b < a
        · have hv : of2 (op64 148 a b) ((148 : Int) = 109 ∨ (148 : Int) = 113) b = (1, 0) := of2_ok (by show some (cmpL a b) = _; unfold cmpL; rw [if_neg hlt, if_pos hgt]) (fun h => by omega)
          rw [hv]
          simp only
          clear hv hy HU Hha HB0 HB1 HB2
          go_enter Try.func15, Try.ntmps15
          go_wp2
          go_ret2
          exact ⟨by first | rfl | exact ret2A (by first | rfl | exact w64_r64 _ | exact rnd_r64 _ | (rw [w64_r64, rnd_r64]) | (rw [w64_r64, rnd_r64]; rfl) | (rw [Int.zero_sub]; exact w64_r64 _) | (rw [Int.zero_sub, w64_r64, rnd_r64]) | (rw [Int.zero_sub])) rfl, rfl⟩
        · have hv : of2 (op64 148 a b) ((148 : Int) = 109 ∨ (148 : Int) = 113) b = (0, 0) := of2_ok (by show some (cmpL a b) = _; unfold cmpL; rw [if_neg hlt, if_neg hgt]) (fun h => by omega)
          rw [hv]
          simp only
          clear hv hy HU Hha HB0 HB1 HB2
          go_enter Try.func15, Try.ntmps15
          go_wp2
          go_ret2
          exact ⟨by first | rfl | exact ret2A (by first | rfl | exact w64_r64 _ | exact rnd_r64 _ | (rw [w64_r64, rnd_r64]) | (rw [w64_r64, rnd_r64]; rfl) | (rw [Int.zero_sub]; exact w64_r64 _) | (rw [Int.zero_sub, w64_r64, rnd_r64]) | (rw [Int.zero_sub])) rfl, rfl⟩
    have c97 := beq_ne h97
    have c101 := beq_ne h101
    have c105 := beq_ne h105
    have c109 := beq_ne h109
    have c113 := beq_ne h113
    have c121 := beq_ne h121
    have c123 := beq_ne h123
    have c125 := beq_ne h125
    have c127 := beq_ne h127
    have c129 := beq_ne h129
    have c131 := beq_ne h131
    have c148 := beq_ne h148
    have hv : of2 (op64 op a b) (op = 109 ∨ op = 113) b = (0, 2) := by unfold op64; simp only [h97, h101, h105, h109, h113, h121, h123, h125, h127, h129, h131, h148, if_false]; rfl
    rw [hv]
    simp only
    clear hv hy HU Hha HB0 HB1 HB2 h97 h101 h105 h109 h113 h121 h123 h125 h127 h129 h131 h148
    go_enter Try.func15, Try.ntmps15
    go_wp2
    go_ret2
    exact ⟨by first | rfl | exact ret2A (by first | rfl | exact w64_r64 _ | exact rnd_r64 _ | (rw [w64_r64, rnd_r64]) | (rw [w64_r64, rnd_r64]; rfl) | (rw [Int.zero_sub]; exact w64_r64 _) | (rw [Int.zero_sub, w64_r64, rnd_r64]) | (rw [Int.zero_sub])) rfl, rfl⟩
  ·
    have hyneg : (y : Int) - 64 < 0 := by omega
    have hyback : (y : Int) - 64 + 64 = y := by omega
    by_cases h97 : op = 97
    · subst h97
      have hv : of2 (op64 97 a b) ((97 : Int) = 109 ∨ (97 : Int) = 113) b = (r64 (a + b), 0) := of2_ok (by rfl) (fun h => by omega)
      rw [hv]
      simp only
      clear hv hy HU Hha HB0 HB1 HB2
      go_enter Try.func15, Try.ntmps15
      go_wp2
      go_ret2
      exact ⟨by first | rfl | exact ret2A (by first | rfl | exact w64_r64 _ | exact rnd_r64 _ | (rw [w64_r64, rnd_r64]) | (rw [w64_r64, rnd_r64]; rfl) | (rw [Int.zero_sub]; exact w64_r64 _) | (rw [Int.zero_sub, w64_r64, rnd_r64]) | (rw [Int.zero_sub])) rfl, rfl⟩
    by_cases h101 : op = 101
    · subst h101
      have hv : of2 (op64 101 a b) ((101 : Int) = 109 ∨ (101 : Int) = 113) b = (r64 (a - b), 0) := of2_ok (by rfl) (fun h => by omega)
      rw [hv]
      simp only
      clear hv hy HU Hha HB0 HB1 HB2
      go_enter Try.func15, Try.ntmps15
      go_wp2
      go_ret2
      exact ⟨by first | rfl | exact ret2A (by first | rfl | exact w64_r64 _ | exact rnd_r64 _ | (rw [w64_r64, rnd_r64]) | (rw [w64_r64, rnd_r64]; rfl) | (rw [Int.zero_sub]; exact w64_r64 _) | (rw [Int.zero_sub, w64_r64, rnd_r64]) | (rw [Int.zero_sub])) rfl, rfl⟩
    by_cases h105 : op = 105
    · subst h105
      have hv : of2 (op64 105 a b) ((105 : Int) = 109 ∨ (105 : Int) = 113) b = (r64 (a * b), 0) := of2_ok (by rfl) (fun h => by omega)
      rw [hv]
      simp only
      clear hv hy HU Hha HB0 HB1 HB2
      go_enter Try.func15, Try.ntmps15
      go_wp2
      go_ret2
      exact ⟨by first | rfl | exact ret2A (by first | rfl | exact w64_r64 _ | exact rnd_r64 _ | (rw [w64_r64, rnd_r64]) | (rw [w64_r64, rnd_r64]; rfl) | (rw [Int.zero_sub]; exact w64_r64 _) | (rw [Int.zero_sub, w64_r64, rnd_r64]) | (rw [Int.zero_sub])) rfl, rfl⟩
    by_cases h109 : op = 109
    · subst h109
      by_cases hb0 : b = 0
      · subst hb0
        have hv : of2 (op64 109 a 0) ((109 : Int) = 109 ∨ (109 : Int) = 113) 0 = (0, 5) := of2_zero rfl ⟨by first | exact .inl rfl | exact .inr rfl, rfl⟩
        rw [hv]
        simp only
        clear hv hy HU Hha HB0 HB1 HB2
        go_enter Try.func15, Try.ntmps15
        go_wp2
        go_ret2
        exact ⟨by first | rfl | exact ret2A (by first | rfl | exact w64_r64 _ | exact rnd_r64 _ | (rw [w64_r64, rnd_r64]) | (rw [w64_r64, rnd_r64]; rfl) | (rw [Int.zero_sub]; exact w64_r64 _) | (rw [Int.zero_sub, w64_r64, rnd_r64]) | (rw [Int.zero_sub])) rfl, rfl⟩
      have hbn := beq_ne hb0
      by_cases hbm : b = -1
      · subst hbm
        have hv : of2 (op64 109 a (-1)) ((109 : Int) = 109 ∨ (109 : Int) = 113) (-1) = (r64 (0 - a), 0) := of2_ok (by show some _ = _; rw [tdiv_m1]) (fun h => hb0 h.2)
        rw [hv]
        simp only
        clear hv hy HU Hha HB0 HB1 HB2
        go_enter Try.func15, Try.ntmps15
        go_wp2
        go_ret2
        exact ⟨by first | rfl | exact ret2A (by first | rfl | exact w64_r64 _ | exact rnd_r64 _ | (rw [w64_r64, rnd_r64]) | (rw [w64_r64, rnd_r64]; rfl) | (rw [Int.zero_sub]; exact w64_r64 _) | (rw [Int.zero_sub, w64_r64, rnd_r64]) | (rw [Int.zero_sub])) rfl, rfl⟩
      · have hbn2 := beq_ne hbm
        have hv : of2 (op64 109 a b) ((109 : Int) = 109 ∨ (109 : Int) = 113) b = (r64 (a.tdiv b), 0) := of2_ok (by rfl) (fun h => hb0 h.2)
        rw [hv]
        simp only
        clear hv hy HU Hha HB0 HB1 HB2
        go_enter Try.func15, Try.ntmps15
        go_wp2
        go_ret2
        exact ⟨by first | rfl | exact ret2A (by first | rfl | exact w64_r64 _ | exact rnd_r64 _ | (rw [w64_r64, rnd_r64]) | (rw [w64_r64, rnd_r64]; rfl) | (rw [Int.zero_sub]; exact w64_r64 _) | (rw [Int.zero_sub, w64_r64, rnd_r64]) | (rw [Int.zero_sub])) rfl, rfl⟩
    by_cases h113 : op = 113
    · subst h113
      by_cases hb0 : b = 0
      · subst hb0
        have hv : of2 (op64 113 a 0) ((113 : Int) = 109 ∨ (113 : Int) = 113) 0 = (0, 5) := of2_zero rfl ⟨by first | exact .inl rfl | exact .inr rfl, rfl⟩
        rw [hv]
        simp only
        clear hv hy HU Hha HB0 HB1 HB2
        go_enter Try.func15, Try.ntmps15
        go_wp2
        go_ret2
        exact ⟨by first | rfl | exact ret2A (by first | rfl | exact w64_r64 _ | exact rnd_r64 _ | (rw [w64_r64, rnd_r64]) | (rw [w64_r64, rnd_r64]; rfl) | (rw [Int.zero_sub]; exact w64_r64 _) | (rw [Int.zero_sub, w64_r64, rnd_r64]) | (rw [Int.zero_sub])) rfl, rfl⟩
      have hbn := beq_ne hb0
      by_cases hbm : b = -1
      · subst hbm
        have hv : of2 (op64 113 a (-1)) ((113 : Int) = 109 ∨ (113 : Int) = 113) (-1) = (0, 0) := of2_ok (by show some _ = _; rw [tmod_m1]) (fun h => hb0 h.2)
        rw [hv]
        simp only
        clear hv hy HU Hha HB0 HB1 HB2
        go_enter Try.func15, Try.ntmps15
        go_wp2
        go_ret2
        exact ⟨by first | rfl | exact ret2A (by first | rfl | exact w64_r64 _ | exact rnd_r64 _ | (rw [w64_r64, rnd_r64]) | (rw [w64_r64, rnd_r64]; rfl) | (rw [Int.zero_sub]; exact w64_r64 _) | (rw [Int.zero_sub, w64_r64, rnd_r64]) | (rw [Int.zero_sub])) rfl, rfl⟩
      · have hbn2 := beq_ne hbm
        have hv : of2 (op64 113 a b) ((113 : Int) = 109 ∨ (113 : Int) = 113) b = (a.tmod b, 0) := of2_ok (by rfl) (fun h => hb0 h.2)
        rw [hv]
        simp only
        clear hv hy HU Hha HB0 HB1 HB2
        go_enter Try.func15, Try.ntmps15
        go_wp2
        go_ret2
        exact ⟨by first | rfl | exact ret2A (by first | rfl | exact w64_r64 _ | exact rnd_r64 _ | (rw [w64_r64, rnd_r64]) | (rw [w64_r64, rnd_r64]; rfl) | (rw [Int.zero_sub]; exact w64_r64 _) | (rw [Int.zero_sub, w64_r64, rnd_r64]) | (rw [Int.zero_sub])) rfl, rfl⟩
    by_cases h121 : op = 121
    · subst h121
      have hv : of2 (op64 121 a b) ((121 : Int) = 109 ∨ (121 : Int) = 113) b = (r64 (shl a y), 0) := of2_ok (by rw [hy]; rfl) (fun h => by omega)
      rw [hv]
      simp only
      have HL : Hid (∀ k, r64 (r64 (shl a k) + r64 (shl a k)) = r64 (shl a (k + 1))) := fun k => shl_step a k
      have H0 : Hid (r64 (shl a 0) = a) := by show _ = _; unfold shl; rw [Int.pow_zero, Int.mul_one]; exact r64_id (unhide Hha)
      clear hv hy HU HB0 HB1 HB2
      go_enter Try.func15, Try.ntmps15
      go_wp2
      go_loopw [1, 9] (fun vx vi wr => ∃ i : Nat, i ≤ y ∧ vi = .int .i64 i ∧ vx = .int .i64 (r64 (shl a i)) ∧ wr = w) (fun _ i _ => y - (intOf i).toNat)
      case atStart => exact ⟨0, by omega, rfl, by rw [unhide H0], rfl⟩
      case round =>
        obtain ⟨i, hi, rfl, rfl, rfl⟩ := hrel
        by_cases hlt : i < y
        · have hlt1 : (i : Int) < (y : Int) := by omega
          have HS := hide (unhide HL i)
          generalize r64 (shl a i) = Z at *
          go_wp2
          go_roundw
          case rel => exact ⟨i + 1, by omega, by go_num, by rw [← unhide HS]; first | rfl | (rw [w64_r64]), by first | rfl | trivial⟩
          case measure => simp [intOf]; omega
        · obtain rfl : i = y := by omega
          go_wp2
          go_ret2
          exact ⟨rfl, rfl⟩
    by_cases h123 : op = 123
    · subst h123
      have hv : of2 (op64 123 a b) ((123 : Int) = 109 ∨ (123 : Int) = 113) b = (shr a y, 0) := of2_ok (by rw [hy]; rfl) (fun h => by omega)
      rw [hv]
      simp only
      clear hv hy HB0 HB1 HB2
      generalize shr a y = S at *
      go_enter Try.func15, Try.ntmps15
      go_wp2_with fail
      refine (unhide HU _).mono ?_
      rintro e w1 ⟨rfl, rfl⟩
      go_wp2
      go_ret2
      exact ⟨by first | rfl | exact ret2A (by first | rfl | exact w64_r64 _ | exact rnd_r64 _ | (rw [w64_r64, rnd_r64]) | (rw [w64_r64, rnd_r64]; rfl) | (rw [Int.zero_sub]; exact w64_r64 _) | (rw [Int.zero_sub, w64_r64, rnd_r64]) | (rw [Int.zero_sub])) rfl, rfl⟩
    by_cases h125 : op = 125
    · subst h125
      have hv : of2 (op64 125 a b) ((125 : Int) = 109 ∨ (125 : Int) = 113) b = (r64 (shr (u64 a) y), 0) := of2_ok (by rw [hy]; rfl) (fun h => by omega)
      rw [hv]
      simp only
      have HL : Hid (∀ k, shr (u64 a) k / 2 = shr (u64 a) (k + 1)) := fun k => shr_succ _ k
      have HQ : Hid (∀ k, 0 ≤ shr (u64 a) k ∧ shr (u64 a) k ≤ 18446744073709551615) := fun k => by
        have h1 := (shr_between (u64 a) k).1
        have h2 : 0 ≤ u64 a ∧ u64 a ≤ 18446744073709551615 := by unfold u64; omega
        have h3 := h1 h2.1
        omega
      have h0 : IntKind.u64.wrap a = shr (u64 a) 0 := by rw [shr_zero]; exact u64_wrap a
      clear hv hy HU HB0 HB1 HB2
      obtain ⟨X0, hX0⟩ : ∃ X0, X0 = shr (u64 a) 0 := ⟨_, rfl⟩
      rw [← hX0] at h0
      have HX0 := hide hX0
      clear hX0
      go_enter Try.func15, Try.ntmps15
      go_wp2
      go_loopw [10, 11] (fun vx vi wr => ∃ i : Nat, i ≤ y ∧ vi = .int .i64 i ∧ vx = .int .u64 (shr (u64 a) i) ∧ wr = w) (fun _ i _ => y - (intOf i).toNat)
      case atStart => exact ⟨0, by omega, rfl, by rw [unhide HX0], rfl⟩
      case round =>
        obtain ⟨i, hi, rfl, rfl, rfl⟩ := hrel
        by_cases hlt : i < y
        · have hlt1 : (i : Int) < (y : Int) := by omega
          have HS := hide (unhide HL i)
          obtain ⟨q1, q2⟩ := unhide HQ i
          generalize shr (u64 a) i = Z at *
          go_wp2
          go_roundw
          case rel => exact ⟨i + 1, by omega, by go_num, by rw [← unhide HS], by first | rfl | trivial⟩
          case measure => simp [intOf]; omega
        · obtain rfl : i = y := by omega
          go_wp2
          go_ret2
          exact ⟨by first | rfl | exact ret2A (by first | rfl | exact w64_r64 _) rfl, rfl⟩
    by_cases h127 : op = 127
    · subst h127
      have hv : of2 (op64 127 a b) ((127 : Int) = 109 ∨ (127 : Int) = 113) b = (r64 (bitZ 0 64 a b), 0) := of2_ok (by rfl) (fun h => by omega)
      rw [hv]
      simp only
      clear hv hy Hha HU
      have HX := hide (unhide HB0)
      clear HB0 HB1 HB2
      generalize r64 ((bitZ 0 64 a b : Nat) : Int) = Z at *
      go_enter Try.func15, Try.ntmps15
      go_wp2_with fail
      refine (unhide HX _).mono ?_
      rintro e w1 ⟨rfl, rfl⟩
      go_wp2
      go_ret2
      exact ⟨by first | rfl | exact ret2A (by first | rfl | exact w64_r64 _ | exact rnd_r64 _ | (rw [w64_r64, rnd_r64]) | (rw [w64_r64, rnd_r64]; rfl) | (rw [Int.zero_sub]; exact w64_r64 _) | (rw [Int.zero_sub, w64_r64, rnd_r64]) | (rw [Int.zero_sub])) rfl, rfl⟩
    by_cases h129 : op = 129
    · subst h129
      have hv : of2 (op64 129 a b) ((129 : Int) = 109 ∨ (129 : Int) = 113) b = (r64 (bitZ 1 64 a b), 0) := of2_ok (by rfl) (fun h => by omega)
      rw [hv]
      simp only
      clear hv hy Hha HU
      have HX := hide (unhide HB1)
      clear HB0 HB1 HB2
      generalize r64 ((bitZ 1 64 a b : Nat) : Int) = Z at *
      go_enter Try.func15, Try.ntmps15
      go_wp2_with fail
      refine (unhide HX _).mono ?_
      rintro e w1 ⟨rfl, rfl⟩
      go_wp2
      go_ret2
      exact ⟨by first | rfl | exact ret2A (by first | rfl | exact w64_r64 _ | exact rnd_r64 _ | (rw [w64_r64, rnd_r64]) | (rw [w64_r64, rnd_r64]; rfl) | (rw [Int.zero_sub]; exact w64_r64 _) | (rw [Int.zero_sub, w64_r64, rnd_r64]) | (rw [Int.zero_sub])) rfl, rfl⟩
    by_cases h131 : op = 131
    · subst h131
      have hv : of2 (op64 131 a b) ((131 : Int) = 109 ∨ (131 : Int) = 113) b = (r64 (bitZ 2 64 a b), 0) := of2_ok (by rfl) (fun h => by omega)
      rw [hv]
      simp only
      clear hv hy Hha HU
      have HX := hide (unhide HB2)
      clear HB0 HB1 HB2
      generalize r64 ((bitZ 2 64 a b : Nat) : Int) = Z at *
      go_enter Try.func15, Try.ntmps15
      go_wp2_with fail
      refine (unhide HX _).mono ?_
      rintro e w1 ⟨rfl, rfl⟩
      go_wp2
      go_ret2
      exact ⟨by first | rfl | exact ret2A (by first | rfl | exact w64_r64 _ | exact rnd_r64 _ | (rw [w64_r64, rnd_r64]) | (rw [w64_r64, rnd_r64]; rfl) | (rw [Int.zero_sub]; exact w64_r64 _) | (rw [Int.zero_sub, w64_r64, rnd_r64]) | (rw [Int.zero_sub])) rfl, rfl⟩
    by_cases h148 : op = 148
    · subst h148
      by_cases hlt : a < b
      · have hv : of2 (op64 148 a b) ((148 : Int) = 109 ∨ (148 : Int) = 113) b = (-1, 0) := of2_ok (by show some (cmpL a b) = _; unfold cmpL; rw [if_pos hlt]) (fun h => by omega)
        rw [hv]
        simp only
        clear hv hy HU Hha HB0 HB1 HB2
        go_enter Try.func15, Try.ntmps15
        go_wp2
        go_ret2
        exact ⟨by first | rfl | exact ret2A (by first | rfl | exact w64_r64 _ | exact rnd_r64 _ | (rw [w64_r64, rnd_r64]) | (rw [w64_r64, rnd_r64]; rfl) | (rw [Int.zero_sub]; exact w64_r64 _) | (rw [Int.zero_sub, w64_r64, rnd_r64]) | (rw [Int.zero_sub])) rfl, rfl⟩
      · by_cases hgt : b < a
        · have hv : of2 (op64 148 a b) ((148 : Int) = 109 ∨ (148 : Int) = 113) b = (1, 0) := of2_ok (by show some (cmpL a b) = _; unfold cmpL; rw [if_neg hlt, if_pos hgt]) (fun h => by omega)
          rw [hv]
          simp only
          clear hv hy HU Hha HB0 HB1 HB2
          go_enter Try.func15, Try.ntmps15
          go_wp2
          go_ret2
          exact ⟨by first | rfl | exact ret2A (by first | rfl | exact w64_r64 _ | exact rnd_r64 _ | (rw [w64_r64, rnd_r64]) | (rw [w64_r64, rnd_r64]; rfl) | (rw [Int.zero_sub]; exact w64_r64 _) | (rw [Int.zero_sub, w64_r64, rnd_r64]) | (rw [Int.zero_sub])) rfl, rfl⟩
        · have hv : of2 (op64 148 a b) ((148 : Int) = 109 ∨ (148 : Int) = 113) b = (0, 0) := of2_ok (by show some (cmpL a b) = _; unfold cmpL; rw [if_neg hlt, if_neg hgt]) (fun h => by omega)
          rw [hv]
          simp only
          clear hv hy HU Hha HB0 HB1 HB2
          go_enter Try.func15, Try.ntmps15
          go_wp2
          go_ret2
          exact ⟨by first | rfl | exact ret2A (by first | rfl | exact w64_r64 _ | exact rnd_r64 _ | (rw [w64_r64, rnd_r64]) | (rw [w64_r64, rnd_r64]; rfl) | (rw [Int.zero_sub]; exact w64_r64 _) | (rw [Int.zero_sub, w64_r64, rnd_r64]) | (rw [Int.zero_sub])) rfl, rfl⟩
    have c97 := beq_ne h97
    have c101 := beq_ne h101
    have c105 := beq_ne h105
    have c109 := beq_ne h109
    have c113 := beq_ne h113
    have c121 := beq_ne h121
    have c123 := beq_ne h123
    have c125 := beq_ne h125
    have c127 := beq_ne h127
    have c129 := beq_ne h129
    have c131 := beq_ne h131
    have c148 := beq_ne h148
    have hv : of2 (op64 op a b) (op = 109 ∨ op = 113) b = (0, 2) := by unfold op64; simp only [h97, h101, h105, h109, h113, h121, h123, h125, h127, h129, h131, h148, if_false]; rfl
    rw [hv]
    simp only
    clear hv hy HU Hha HB0 HB1 HB2 h97 h101 h105 h109 h113 h121 h123 h125 h127 h129 h131 h148
    go_enter Try.func15, Try.ntmps15
    go_wp2
    go_ret2
    exact ⟨by first | rfl | exact ret2A (by first | rfl | exact w64_r64 _ | exact rnd_r64 _ | (rw [w64_r64, rnd_r64]) | (rw [w64_r64, rnd_r64]; rfl) | (rw [Int.zero_sub]; exact w64_r64 _) | (rw [Int.zero_sub, w64_r64, rnd_r64]) | (rw [Int.zero_sub])) rfl, rfl⟩
theorem r14low8_any (w : World) (a : Int) (ha : intA a) : Calls Try.prog 37 #[.int .i64 a, .int .i64 8] w fun e w' => e = .returned (.int .i64 (a % 256)) ∧ w' = w := by
  have HP : Hid (∀ W, Calls Try.prog 27 #[.int .i64 8] W fun e w' => e = .returned (.int .i64 256) ∧ w' = W) := fun W => r14power_any W 8 (by omega)
  obtain ⟨y, hy, hy1, hyc⟩ := tmod_parts a 256 (by omega)
  have hz : a % 256 = (y : Int) := by omega
  rw [hz]
  obtain ⟨M, hM⟩ : ∃ M : Int, M = 256 := ⟨_, rfl⟩
  rw [← hM] at HP hyc hy1
  have hM0 : ¬ M = 0 := by omega
  have hM1 : M ≤ 65536 := by omega
  have hM2 : 0 ≤ M := by omega
  clear hz hy ha hM
  rcases hyc with hyc | hyc
  · have hyneg : ¬ (y : Int) < 0 := by omega
    go_enter Try.func37, Try.ntmps37
    go_wp2_with fail
    refine (unhide HP _).mono ?_
    rintro e w1 ⟨rfl, rfl⟩
    go_wp2
    go_ret
    exact ⟨rfl, rfl⟩
  · have hyneg : (y : Int) - M < 0 := by omega
    have hyback : (y : Int) - M + M = y := by omega
    go_enter Try.func37, Try.ntmps37
    go_wp2_with fail
    refine (unhide HP _).mono ?_
    rintro e w1 ⟨rfl, rfl⟩
    go_wp2_with fail
    refine (unhide HP _).mono ?_
    rintro e w1 ⟨rfl, rfl⟩
    go_wp2
    go_ret
    exact ⟨rfl, rfl⟩
theorem i8_is (a : Int) : IntKind.i8.wrap a = if 128 ≤ a % 256 then a % 256 - 256 else a % 256 := by
  simp only [IntKind.wrap, IntKind.bits, IntKind.signed]; simp
theorem r14signed8_any (w : World) (a : Int) : Calls Try.prog 36 #[.int .i64 (a % 256), .int .i64 8] w fun e w' => e = .returned (.int .i64 (IntKind.i8.wrap a)) ∧ w' = w := by
  have HP : Hid (∀ W, Calls Try.prog 27 #[.int .i64 8] W fun e w' => e = .returned (.int .i64 256) ∧ w' = W) := fun W => r14power_any W 8 (by omega)
  have HQ : Hid (∀ W, Calls Try.prog 27 #[.int .i64 7] W fun e w' => e = .returned (.int .i64 128) ∧ w' = W) := fun W => r14power_any W 7 (by omega)
  rw [i8_is]
  have h1 : 0 ≤ a % 256 ∧ a % 256 < 256 := by omega
  generalize a % 256 = n at *
  obtain ⟨h1, h2⟩ := h1
  by_cases h : 128 ≤ n
  · rw [if_pos h]
    go_enter Try.func36, Try.ntmps36
    go_wp2_with fail
    refine (unhide HQ _).mono ?_
    rintro e w1 ⟨rfl, rfl⟩
    go_wp2_with fail
    refine (unhide HP _).mono ?_
    rintro e w1 ⟨rfl, rfl⟩
    go_wp2
    go_ret
    exact ⟨rfl, rfl⟩
  · rw [if_neg h]
    go_enter Try.func36, Try.ntmps36
    go_wp2_with fail
    refine (unhide HQ _).mono ?_
    rintro e w1 ⟨rfl, rfl⟩
    go_wp2
    go_ret
    exact ⟨rfl, rfl⟩
theorem r14low16_any (w : World) (a : Int) (ha : intA a) : Calls Try.prog 37 #[.int .i64 a, .int .i64 16] w fun e w' => e = .returned (.int .i64 (a % 65536)) ∧ w' = w := by
  have HP : Hid (∀ W, Calls Try.prog 27 #[.int .i64 16] W fun e w' => e = .returned (.int .i64 65536) ∧ w' = W) := fun W => r14power_any W 16 (by omega)
  obtain ⟨y, hy, hy1, hyc⟩ := tmod_parts a 65536 (by omega)
  have hz : a % 65536 = (y : Int) := by omega
  rw [hz]
  obtain ⟨M, hM⟩ : ∃ M : Int, M = 65536 := ⟨_, rfl⟩
  rw [← hM] at HP hyc hy1
  have hM0 : ¬ M = 0 := by omega
  have hM1 : M ≤ 65536 := by omega
  have hM2 : 0 ≤ M := by omega
  clear hz hy ha hM
  rcases hyc with hyc | hyc
  · have hyneg : ¬ (y : Int) < 0 := by omega
    go_enter Try.func37, Try.ntmps37
    go_wp2_with fail
    refine (unhide HP _).mono ?_
    rintro e w1 ⟨rfl, rfl⟩
    go_wp2
    go_ret
    exact ⟨rfl, rfl⟩
  · have hyneg : (y : Int) - M < 0 := by omega
    have hyback : (y : Int) - M + M = y := by omega
    go_enter Try.func37, Try.ntmps37
    go_wp2_with fail
    refine (unhide HP _).mono ?_
    rintro e w1 ⟨rfl, rfl⟩
    go_wp2_with fail
    refine (unhide HP _).mono ?_
    rintro e w1 ⟨rfl, rfl⟩
    go_wp2
    go_ret
    exact ⟨rfl, rfl⟩
theorem i16_is (a : Int) : IntKind.i16.wrap a = if 32768 ≤ a % 65536 then a % 65536 - 65536 else a % 65536 := by
  simp only [IntKind.wrap, IntKind.bits, IntKind.signed]; simp
theorem r14signed16_any (w : World) (a : Int) : Calls Try.prog 36 #[.int .i64 (a % 65536), .int .i64 16] w fun e w' => e = .returned (.int .i64 (IntKind.i16.wrap a)) ∧ w' = w := by
  have HP : Hid (∀ W, Calls Try.prog 27 #[.int .i64 16] W fun e w' => e = .returned (.int .i64 65536) ∧ w' = W) := fun W => r14power_any W 16 (by omega)
  have HQ : Hid (∀ W, Calls Try.prog 27 #[.int .i64 15] W fun e w' => e = .returned (.int .i64 32768) ∧ w' = W) := fun W => r14power_any W 15 (by omega)
  rw [i16_is]
  have h1 : 0 ≤ a % 65536 ∧ a % 65536 < 65536 := by omega
  generalize a % 65536 = n at *
  obtain ⟨h1, h2⟩ := h1
  by_cases h : 32768 ≤ n
  · rw [if_pos h]
    go_enter Try.func36, Try.ntmps36
    go_wp2_with fail
    refine (unhide HQ _).mono ?_
    rintro e w1 ⟨rfl, rfl⟩
    go_wp2_with fail
    refine (unhide HP _).mono ?_
    rintro e w1 ⟨rfl, rfl⟩
    go_wp2
    go_ret
    exact ⟨rfl, rfl⟩
  · rw [if_neg h]
    go_enter Try.func36, Try.ntmps36
    go_wp2_with fail
    refine (unhide HQ _).mono ?_
    rintro e w1 ⟨rfl, rfl⟩
    go_wp2
    go_ret
    exact ⟨rfl, rfl⟩
set_option maxHeartbeats 1600000 in
theorem r14One_any (w : World) (op a : Int) (hl : lonA a) : Calls Try.prog 17 #[.int .i64 op, .int .i64 a] w fun e w' => e = .returned (.tuple #[.int .i64 (oneR op a).1, .int .i64 (oneR op a).2]) ∧ w' = w := by
  have HI : Hid (∀ W x, Calls Try.prog 26 #[.int .i64 x] W fun e w' => e = .returned (.bool (decide (intA x))) ∧ w' = W) := fun W x => r14is_any W x
  have HR : Hid (∀ W x, Calls Try.prog 12 #[.int .i64 x] W fun e w' => e = .returned (.int .i64 (rnd x)) ∧ w' = W) := fun W x => r14Round_any W x
  by_cases h117 : op = 117
  · subst h117
    show Calls _ _ _ _ fun e w' => e = .returned (.tuple #[.int .i64 (r64 (0 - a)), .int .i64 0]) ∧ w' = w
    go_enter Try.func17, Try.ntmps17
    go_wp2
    go_ret2
    exact ⟨by first | rfl | exact ret2A (by first | rfl | exact w64_r64 _ | exact rnd_r64 _ | (rw [w64_r64, rnd_r64]) | (rw [w64_r64, rnd_r64]; rfl) | (rw [Int.zero_sub]; exact w64_r64 _) | (rw [Int.zero_sub, w64_r64, rnd_r64]) | (rw [Int.zero_sub])) rfl, rfl⟩
  by_cases h136 : op = 136
  · subst h136
    show Calls _ _ _ _ fun e w' => e = .returned (.tuple #[.int .i64 (rnd a), .int .i64 0]) ∧ w' = w
    go_enter Try.func17, Try.ntmps17
    go_wp2_with fail
    refine (unhide HR _ _).mono ?_
    rintro e w1 ⟨rfl, rfl⟩
    go_wp2
    go_ret2
    exact ⟨by first | rfl | exact ret2A (by first | rfl | exact w64_r64 _ | exact rnd_r64 _ | (rw [w64_r64, rnd_r64]) | (rw [w64_r64, rnd_r64]; rfl) | (rw [Int.zero_sub]; exact w64_r64 _) | (rw [Int.zero_sub, w64_r64, rnd_r64]) | (rw [Int.zero_sub])) rfl, rfl⟩
  have c117 := beq_ne h117
  have c136 := beq_ne h136
  have hne : ¬ (op = 117 ∨ op = 136) := by omega
  by_cases ha : intA a
  case neg =>
    have hr : oneR op a = (0, 2) := by unfold oneR; rw [if_neg hne, if_neg ha]
    rw [hr]
    simp only
    have HA := hide (unhide HI w a)
    rw [decide_eq_false ha] at HA
    clear ha hr HI HR hne h117 h136
    have d117 : (op != 117) = true := by rw [bne, c117]; rfl
    have d136 : (op != 136) = true := by rw [bne, c136]; rfl
    clear c117 c136
    go_enter Try.func17, Try.ntmps17
    go_wp2_with fail
    refine (unhide HA).mono ?_
    rintro e w1 ⟨rfl, rfl⟩
    go_wp2
    go_ret2
    exact ⟨by first | rfl | exact ret2A (by first | rfl | exact w64_r64 _ | exact rnd_r64 _ | (rw [w64_r64, rnd_r64]) | (rw [w64_r64, rnd_r64]; rfl) | (rw [Int.zero_sub]; exact w64_r64 _) | (rw [Int.zero_sub, w64_r64, rnd_r64]) | (rw [Int.zero_sub])) rfl, rfl⟩
  have HA : Hid (∀ W, Calls Try.prog 26 #[.int .i64 a] W fun e w' => e = .returned (.bool true) ∧ w' = W) := fun W => by have := unhide HI W a; rw [decide_eq_true ha] at this; exact this
  have hr : oneR op a = of1 (one32 op a) := by unfold oneR; rw [if_neg hne, if_pos ha]
  rw [hr]
  have HL8 : Hid (∀ W, _) := fun W => r14low8_any W a ha
  have HL16 : Hid (∀ W, _) := fun W => r14low16_any W a ha
  have HS8 : Hid (∀ W, _) := fun W => r14signed8_any W a
  have HS16 : Hid (∀ W, _) := fun W => r14signed16_any W a
  obtain ⟨a1, a2⟩ := ha
  clear hr HI hne hl
  by_cases h116 : op = 116
  · subst h116
    show Calls _ _ _ _ fun e w' => e = .returned (.tuple #[.int .i64 (rnd (0 - a)), .int .i64 0]) ∧ w' = w
    clear c117 c136 h117 h136
    go_enter Try.func17, Try.ntmps17
    go_wp2_with fail
    refine (unhide HA _).mono ?_
    rintro e w1 ⟨rfl, rfl⟩
    go_wp2_with fail
    refine (unhide HR _ _).mono ?_
    rintro e w1 ⟨rfl, rfl⟩
    go_wp2
    go_ret2
    exact ⟨by first | rfl | exact ret2A (by first | rfl | exact w64_r64 _ | exact rnd_r64 _ | (rw [w64_r64, rnd_r64]) | (rw [w64_r64, rnd_r64]; rfl) | (rw [Int.zero_sub]; exact w64_r64 _) | (rw [Int.zero_sub, w64_r64, rnd_r64]) | (rw [Int.zero_sub]) | (congr 1; omega)) rfl, rfl⟩
  by_cases h133 : op = 133
  · subst h133
    show Calls _ _ _ _ fun e w' => e = .returned (.tuple #[.int .i64 (a), .int .i64 0]) ∧ w' = w
    clear c117 c136 h117 h136
    go_enter Try.func17, Try.ntmps17
    go_wp2_with fail
    refine (unhide HA _).mono ?_
    rintro e w1 ⟨rfl, rfl⟩
    go_wp2
    go_ret2
    exact ⟨by first | rfl | exact ret2A (by first | rfl | exact w64_r64 _ | exact rnd_r64 _ | (rw [w64_r64, rnd_r64]) | (rw [w64_r64, rnd_r64]; rfl) | (rw [Int.zero_sub]; exact w64_r64 _) | (rw [Int.zero_sub, w64_r64, rnd_r64]) | (rw [Int.zero_sub]) | (congr 1; omega)) rfl, rfl⟩
  by_cases h145 : op = 145
  · subst h145
    show Calls _ _ _ _ fun e w' => e = .returned (.tuple #[.int .i64 (IntKind.i8.wrap a), .int .i64 0]) ∧ w' = w
    clear c117 c136 h117 h136
    go_enter Try.func17, Try.ntmps17
    go_wp2_with fail
    refine (unhide HA _).mono ?_
    rintro e w1 ⟨rfl, rfl⟩
    go_wp2_with fail
    refine (unhide HL8 _).mono ?_
    rintro e w1 ⟨rfl, rfl⟩
    go_wp2_with fail
    refine (unhide HS8 _).mono ?_
    rintro e w1 ⟨rfl, rfl⟩
    go_wp2
    go_ret2
    exact ⟨by first | rfl | exact ret2A (by first | rfl | exact w64_r64 _ | exact rnd_r64 _ | (rw [w64_r64, rnd_r64]) | (rw [w64_r64, rnd_r64]; rfl) | (rw [Int.zero_sub]; exact w64_r64 _) | (rw [Int.zero_sub, w64_r64, rnd_r64]) | (rw [Int.zero_sub]) | (congr 1; omega)) rfl, rfl⟩
  by_cases h146 : op = 146
  · subst h146
    show Calls _ _ _ _ fun e w' => e = .returned (.tuple #[.int .i64 (a % 65536), .int .i64 0]) ∧ w' = w
    clear c117 c136 h117 h136
    go_enter Try.func17, Try.ntmps17
    go_wp2_with fail
    refine (unhide HA _).mono ?_
    rintro e w1 ⟨rfl, rfl⟩
    go_wp2_with fail
    refine (unhide HL16 _).mono ?_
    rintro e w1 ⟨rfl, rfl⟩
    go_wp2
    go_ret2
    exact ⟨by first | rfl | exact ret2A (by first | rfl | exact w64_r64 _ | exact rnd_r64 _ | (rw [w64_r64, rnd_r64]) | (rw [w64_r64, rnd_r64]; rfl) | (rw [Int.zero_sub]; exact w64_r64 _) | (rw [Int.zero_sub, w64_r64, rnd_r64]) | (rw [Int.zero_sub]) | (congr 1; omega)) rfl, rfl⟩
  by_cases h147 : op = 147
  · subst h147
    show Calls _ _ _ _ fun e w' => e = .returned (.tuple #[.int .i64 (IntKind.i16.wrap a), .int .i64 0]) ∧ w' = w
    clear c117 c136 h117 h136
    go_enter Try.func17, Try.ntmps17
    go_wp2_with fail
    refine (unhide HA _).mono ?_
    rintro e w1 ⟨rfl, rfl⟩
    go_wp2_with fail
    refine (unhide HL16 _).mono ?_
    rintro e w1 ⟨rfl, rfl⟩
    go_wp2_with fail
    refine (unhide HS16 _).mono ?_
    rintro e w1 ⟨rfl, rfl⟩
    go_wp2
    go_ret2
    exact ⟨by first | rfl | exact ret2A (by first | rfl | exact w64_r64 _ | exact rnd_r64 _ | (rw [w64_r64, rnd_r64]) | (rw [w64_r64, rnd_r64]; rfl) | (rw [Int.zero_sub]; exact w64_r64 _) | (rw [Int.zero_sub, w64_r64, rnd_r64]) | (rw [Int.zero_sub]) | (congr 1; omega)) rfl, rfl⟩
  have d117 : (op != 117) = true := by rw [bne, c117]; rfl
  have d136 : (op != 136) = true := by rw [bne, c136]; rfl
  have hv : of1 (one32 op a) = (0, 2) := by unfold one32; simp only [h116, h133, h145, h146, h147, if_false]; rfl
  rw [hv]
  simp only
  have c116 := beq_ne h116
  have c133 := beq_ne h133
  have c145 := beq_ne h145
  have c146 := beq_ne h146
  have c147 := beq_ne h147
  clear HR HL8 HL16 HS8 HS16 h116 h133 h145 h146 h147 h117 h136 hv
  go_enter Try.func17, Try.ntmps17
  go_wp2_with fail
  refine (unhide HA _).mono ?_
  rintro e w1 ⟨rfl, rfl⟩
  go_wp2
  go_ret2
  exact ⟨by first | rfl | exact ret2A (by first | rfl | exact w64_r64 _ | exact rnd_r64 _ | (rw [w64_r64, rnd_r64]) | (rw [w64_r64, rnd_r64]; rfl) | (rw [Int.zero_sub]; exact w64_r64 _) | (rw [Int.zero_sub, w64_r64, rnd_r64]) | (rw [Int.zero_sub])) rfl, rfl⟩
end Go.Proofs.Ytfjkclolnnoklaa
