/- Layer 14: the document's Int, Long, One, If (written by mk/mkaif.py). -/
import Derived.Test.YtfjkclolnnoklaaAiD
namespace Go.Proofs.Ytfjkclolnnoklaa
open Go.RowKit
set_option linter.unusedVariables false
set_option maxRecDepth 100000

theorem ret2A {a b c d : Int} (h : a = b) (h2 : c = d) : Ending.returned (.tuple #[.int .i64 a, .int .i64 c]) = .returned (.tuple #[.int .i64 b, .int .i64 d]) := by rw [h, h2]
theorem beq_ne {a b : Int} (h : ¬ a = b) : (a == b) = false := by simpa using h
theorem tmod_parts (b m : Int) (hm : 0 < m) : ∃ y : Nat, y = (b % m).toNat ∧ (y : Int) < m ∧ (b.tmod m = y ∨ b.tmod m = (y : Int) - m) := by
  refine ⟨(b % m).toNat, rfl, ?_, ?_⟩
  · have := Int.emod_lt_of_pos b hm; have := Int.emod_nonneg b (by omega : m ≠ 0); omega
  · have h1 := Int.emod_nonneg b (by omega : m ≠ 0)
    have h2 := Int.emod_lt_of_pos b hm
    have e : ((b % m).toNat : Int) = b % m := by omega
    rw [e]
    by_cases hb : 0 ≤ b
    · exact .inl (Int.tmod_eq_emod_of_nonneg hb)
    · have h3 := Int.tmod_eq_emod (a := b) (b := m)
      have h4 : ¬ (0 ≤ b ∨ m ∣ b) ∨ (0 ≤ b ∨ m ∣ b) := (Classical.em _).symm
      rcases h4 with h4 | h4
      · rw [if_neg h4] at h3; right; rw [h3]; omega
      · rw [if_pos h4] at h3; left; rw [h3]; omega
theorem of2_ok {o : Option Int} {v b : Int} {dv : Prop} [Decidable dv] (h : o = some v) (hn : ¬ (dv ∧ b = 0)) : of2 o dv b = (v, 0) := by rw [h]; unfold of2; simp only; rw [if_neg hn]
theorem of2_zero {o : Option Int} {v b : Int} {dv : Prop} [Decidable dv] (h : o = some v) (hn : dv ∧ b = 0) : of2 o dv b = (0, 5) := by rw [h]; unfold of2; simp only; rw [if_pos hn]
theorem shl_step (a : Int) (k : Nat) : r64 (r64 (shl a k) + r64 (shl a k)) = r64 (shl a (k + 1)) := by
  rw [r64_add_l, r64_add_r]
  unfold shl
  rw [Int.pow_succ]
  congr 1
  generalize (2 : Int) ^ k = P
  rw [← Int.mul_assoc]; omega
theorem mul_small {a : Int} (ha : intA a) {k : Nat} (hk : k ≤ 31) : lonA (a * 2 ^ k) := by
  have h := pow2_small (Nat.le_refl k) (by omega)
  have h2 : (2 : Int) ^ k ≤ 2147483648 := by
    have h1 : 2 ^ k ≤ 2 ^ 31 := Nat.pow_le_pow_right (by omega) hk
    have h3 : ((2 ^ k : Nat) : Int) = (2 : Int) ^ k := by norm_cast
    have h4 : (2 : Nat) ^ 31 = 2147483648 := by decide
    omega
  generalize (2 : Int) ^ k = P at *
  obtain ⟨a1, a2⟩ := ha
  have m1 : a * P ≤ 2147483647 * P := Int.mul_le_mul_of_nonneg_right a2 (by omega)
  have m2 : -2147483648 * P ≤ a * P := Int.mul_le_mul_of_nonneg_right a1 (by omega)
  unfold lonA; omega
set_option maxHeartbeats 3200000 in
theorem r14Int_any (w : World) (op a b : Int) : Calls Try.prog 10 #[.int .i64 op, .int .i64 a, .int .i64 b] w fun e w' => e = .returned (.tuple #[.int .i64 (intR op a b).1, .int .i64 (intR op a b).2]) ∧ w' = w := by
  have HI : Hid (∀ W x, Calls Try.prog 26 #[.int .i64 x] W fun e w' => e = .returned (.bool (decide (intA x))) ∧ w' = W) := fun W x => r14is_any W x
  by_cases ha : intA a
  case neg =>
    have da : decide (intA a) = false := decide_eq_false ha
    have hr : intR op a b = (0, 2) := by unfold intR; rw [if_neg (fun h => ha h.1)]
    rw [hr]
    simp only
    clear ha hr
    have HA := hide (unhide HI w a)
    rw [da] at HA
    go_enter Try.func10, Try.ntmps10
    go_wp2_with fail
    refine (unhide HA).mono ?_
    rintro e w1 ⟨rfl, rfl⟩
    go_wp2
    go_ret2
    exact ⟨rfl, rfl⟩
  have HA : Hid (∀ W, Calls Try.prog 26 #[.int .i64 a] W fun e w' => e = .returned (.bool true) ∧ w' = W) := fun W => by have := unhide HI W a; rw [decide_eq_true ha] at this; exact this
  by_cases hb : intA b
  case neg =>
    have hr : intR op a b = (0, 2) := by unfold intR; rw [if_neg (fun h => hb h.2)]
    rw [hr]
    simp only
    have HB := hide (unhide HI w b)
    rw [decide_eq_false hb] at HB
    clear hb hr ha
    go_enter Try.func10, Try.ntmps10
    go_wp2_with fail
    refine (unhide HA w).mono ?_
    rintro e w1 ⟨rfl, rfl⟩
    go_wp2_with fail
    refine (unhide HB).mono ?_
    rintro e w1 ⟨rfl, rfl⟩
    go_wp2
    go_ret2
    exact ⟨rfl, rfl⟩
  have HB : Hid (∀ W, Calls Try.prog 26 #[.int .i64 b] W fun e w' => e = .returned (.bool true) ∧ w' = W) := fun W => by have := unhide HI W b; rw [decide_eq_true hb] at this; exact this
  have hR : intR op a b = of2 (op32 op a b) (op = 108 ∨ op = 112) b := by unfold intR; rw [if_pos ⟨ha, hb⟩]
  rw [hR]
  clear HI hR
  have HR : Hid (∀ W x, Calls Try.prog 12 #[.int .i64 x] W fun e w' => e = .returned (.int .i64 (rnd x)) ∧ w' = W) := fun W x => r14Round_any W x
  obtain ⟨y, hy, hy1, hyc⟩ := tmod_parts b 32 (by omega)
  have HP : Hid (∀ W, Calls Try.prog 27 #[.int .i64 (y : Int)] W fun e w' => e = .returned (.int .i64 (2 ^ y)) ∧ w' = W) := fun W => r14power_any W y (by omega)
  have HU : Hid (∀ W x, lonA x → Calls Try.prog 28 #[.int .i64 x, .int .i64 (y : Int)] W fun e w' => e = .returned (.int .i64 (shr x y)) ∧ w' = W) := fun W x hx => r14under_any W x hx y (by omega)
  have HV : Hid (rnd (r64 (a * 2 ^ y)) = rnd (a * 2 ^ y)) := rnd_r64 _
  have HMU := hide (mul_small ha (k := y) (by omega))
  have Hha := hide ha
  have Hhb := hide hb
  obtain ⟨a1, a2⟩ := ha
  obtain ⟨b1, b2⟩ := hb
  have HB0 : Hid (∀ W, Calls Try.prog 29 #[.int .i64 0, .int .i64 a, .int .i64 b, .int .i64 32] W fun e w' => e = .returned (.int .i64 ((bitZ 0 32 a b : Nat) : Int)) ∧ w' = W) := fun W => (r14bits0_any W a b 32 (by omega)).mono fun e w' h => by
    rw [bitZ_64_32] at h
    have hl := bitZ_lt 0 32 a b
    have e32 : (2 : Nat) ^ 32 = 4294967296 := by decide
    rw [r64_id (by unfold lonA; omega)] at h
    exact h
  have HB1 : Hid (∀ W, Calls Try.prog 29 #[.int .i64 1, .int .i64 a, .int .i64 b, .int .i64 32] W fun e w' => e = .returned (.int .i64 ((bitZ 1 32 a b : Nat) : Int)) ∧ w' = W) := fun W => (r14bits1_any W a b 32 (by omega)).mono fun e w' h => by
    rw [bitZ_64_32] at h
    have hl := bitZ_lt 1 32 a b
    have e32 : (2 : Nat) ^ 32 = 4294967296 := by decide
    rw [r64_id (by unfold lonA; omega)] at h
    exact h
  have HB2 : Hid (∀ W, Calls Try.prog 29 #[.int .i64 2, .int .i64 a, .int .i64 b, .int .i64 32] W fun e w' => e = .returned (.int .i64 ((bitZ 2 32 a b : Nat) : Int)) ∧ w' = W) := fun W => (r14bits2_any W a b 32 (by omega)).mono fun e w' h => by
    rw [bitZ_64_32] at h
    have hl := bitZ_lt 2 32 a b
    have e32 : (2 : Nat) ^ 32 = 4294967296 := by decide
    rw [r64_id (by unfold lonA; omega)] at h
    exact h
  rcases hyc with hyc | hyc
  ·
    have hyneg : ¬ (y : Int) < 0 := by omega
    by_cases h96 : op = 96
    · subst h96
      have hv : of2 (op32 96 a b) ((96 : Int) = 108 ∨ (96 : Int) = 112) b = (rnd (a + b), 0) := of2_ok (by rfl) (fun h => by omega)
      rw [hv]
      simp only
      clear hv hy HP HU HV HMU Hha Hhb HB0 HB1 HB2
      go_enter Try.func10, Try.ntmps10
      go_wp2_with fail
      refine (unhide HA _).mono ?_
      rintro e w1 ⟨rfl, rfl⟩
      go_wp2_with fail
      refine (unhide HB _).mono ?_
      rintro e w1 ⟨rfl, rfl⟩
      go_wp2_with fail
      refine (unhide HR _ _).mono ?_
      rintro e w1 ⟨rfl, rfl⟩
      go_wp2
      go_ret2
      exact ⟨by first | rfl | exact ret2A (by first | rfl | exact w64_r64 _ | exact rnd_r64 _ | (rw [w64_r64, rnd_r64]) | (rw [w64_r64, rnd_r64]; rfl) | (rw [Int.zero_sub]; exact w64_r64 _) | (rw [Int.zero_sub, w64_r64, rnd_r64]) | (rw [Int.zero_sub])) rfl, rfl⟩
    by_cases h100 : op = 100
    · subst h100
      have hv : of2 (op32 100 a b) ((100 : Int) = 108 ∨ (100 : Int) = 112) b = (rnd (a - b), 0) := of2_ok (by rfl) (fun h => by omega)
      rw [hv]
      simp only
      clear hv hy HP HU HV HMU Hha Hhb HB0 HB1 HB2
      go_enter Try.func10, Try.ntmps10
      go_wp2_with fail
      refine (unhide HA _).mono ?_
      rintro e w1 ⟨rfl, rfl⟩
      go_wp2_with fail
      refine (unhide HB _).mono ?_
      rintro e w1 ⟨rfl, rfl⟩
      go_wp2_with fail
      refine (unhide HR _ _).mono ?_
      rintro e w1 ⟨rfl, rfl⟩
      go_wp2
      go_ret2
      exact ⟨by first | rfl | exact ret2A (by first | rfl | exact w64_r64 _ | exact rnd_r64 _ | (rw [w64_r64, rnd_r64]) | (rw [w64_r64, rnd_r64]; rfl) | (rw [Int.zero_sub]; exact w64_r64 _) | (rw [Int.zero_sub, w64_r64, rnd_r64]) | (rw [Int.zero_sub])) rfl, rfl⟩
    by_cases h104 : op = 104
    · subst h104
      have hv : of2 (op32 104 a b) ((104 : Int) = 108 ∨ (104 : Int) = 112) b = (rnd (a * b), 0) := of2_ok (by rfl) (fun h => by omega)
      rw [hv]
      simp only
      clear hv hy HP HU HV HMU Hha Hhb HB0 HB1 HB2
      go_enter Try.func10, Try.ntmps10
      go_wp2_with fail
      refine (unhide HA _).mono ?_
      rintro e w1 ⟨rfl, rfl⟩
      go_wp2_with fail
      refine (unhide HB _).mono ?_
      rintro e w1 ⟨rfl, rfl⟩
      go_wp2_with fail
      refine (unhide HR _ _).mono ?_
      rintro e w1 ⟨rfl, rfl⟩
      go_wp2
      go_ret2
      exact ⟨by first | rfl | exact ret2A (by first | rfl | exact w64_r64 _ | exact rnd_r64 _ | (rw [w64_r64, rnd_r64]) | (rw [w64_r64, rnd_r64]; rfl) | (rw [Int.zero_sub]; exact w64_r64 _) | (rw [Int.zero_sub, w64_r64, rnd_r64]) | (rw [Int.zero_sub])) rfl, rfl⟩
    by_cases h108 : op = 108
    · subst h108
      by_cases hb0 : b = 0
      · subst hb0
        have hv : of2 (op32 108 a 0) ((108 : Int) = 108 ∨ (108 : Int) = 112) 0 = (0, 5) := of2_zero rfl ⟨by first | exact .inl rfl | exact .inr rfl, rfl⟩
        rw [hv]
        simp only
        clear hv hy HR HP HU HV HMU Hha Hhb HB0 HB1 HB2
        go_enter Try.func10, Try.ntmps10
        go_wp2_with fail
        refine (unhide HA _).mono ?_
        rintro e w1 ⟨rfl, rfl⟩
        go_wp2_with fail
        refine (unhide HB _).mono ?_
        rintro e w1 ⟨rfl, rfl⟩
        go_wp2
        go_ret2
        exact ⟨by first | rfl | exact ret2A (by first | rfl | exact w64_r64 _ | exact rnd_r64 _ | (rw [w64_r64, rnd_r64]) | (rw [w64_r64, rnd_r64]; rfl) | (rw [Int.zero_sub]; exact w64_r64 _) | (rw [Int.zero_sub, w64_r64, rnd_r64]) | (rw [Int.zero_sub])) rfl, rfl⟩
      · have hv : of2 (op32 108 a b) ((108 : Int) = 108 ∨ (108 : Int) = 112) b = (rnd (a.tdiv b), 0) := of2_ok rfl (fun h => hb0 h.2)
        rw [hv]
        simp only
        have hbn := beq_ne hb0
        clear hv hy HP HU HV HMU Hha Hhb HB0 HB1 HB2
        go_enter Try.func10, Try.ntmps10
        go_wp2_with fail
        refine (unhide HA _).mono ?_
        rintro e w1 ⟨rfl, rfl⟩
        go_wp2_with fail
        refine (unhide HB _).mono ?_
        rintro e w1 ⟨rfl, rfl⟩
        go_wp2_with fail
        refine (unhide HR _ _).mono ?_
        rintro e w1 ⟨rfl, rfl⟩
        go_wp2
        go_ret2
        exact ⟨by first | rfl | exact ret2A (by first | rfl | exact w64_r64 _ | exact rnd_r64 _ | (rw [w64_r64, rnd_r64]) | (rw [w64_r64, rnd_r64]; rfl) | (rw [Int.zero_sub]; exact w64_r64 _) | (rw [Int.zero_sub, w64_r64, rnd_r64]) | (rw [Int.zero_sub])) rfl, rfl⟩
    by_cases h112 : op = 112
    · subst h112
      by_cases hb0 : b = 0
      · subst hb0
        have hv : of2 (op32 112 a 0) ((112 : Int) = 108 ∨ (112 : Int) = 112) 0 = (0, 5) := of2_zero rfl ⟨by first | exact .inl rfl | exact .inr rfl, rfl⟩
        rw [hv]
        simp only
        clear hv hy HR HP HU HV HMU Hha Hhb HB0 HB1 HB2
        go_enter Try.func10, Try.ntmps10
        go_wp2_with fail
        refine (unhide HA _).mono ?_
        rintro e w1 ⟨rfl, rfl⟩
        go_wp2_with fail
        refine (unhide HB _).mono ?_
        rintro e w1 ⟨rfl, rfl⟩
        go_wp2
        go_ret2
        exact ⟨by first | rfl | exact ret2A (by first | rfl | exact w64_r64 _ | exact rnd_r64 _ | (rw [w64_r64, rnd_r64]) | (rw [w64_r64, rnd_r64]; rfl) | (rw [Int.zero_sub]; exact w64_r64 _) | (rw [Int.zero_sub, w64_r64, rnd_r64]) | (rw [Int.zero_sub])) rfl, rfl⟩
      · have hv : of2 (op32 112 a b) ((112 : Int) = 108 ∨ (112 : Int) = 112) b = (a.tmod b, 0) := of2_ok rfl (fun h => hb0 h.2)
        rw [hv]
        simp only
        have hbn := beq_ne hb0
        clear hv hy HP HU HV HMU Hha Hhb HB0 HB1 HB2
        go_enter Try.func10, Try.ntmps10
        go_wp2_with fail
        refine (unhide HA _).mono ?_
        rintro e w1 ⟨rfl, rfl⟩
        go_wp2_with fail
        refine (unhide HB _).mono ?_
        rintro e w1 ⟨rfl, rfl⟩
        go_wp2
        go_ret2
        exact ⟨by first | rfl | exact ret2A (by first | rfl | exact w64_r64 _ | exact rnd_r64 _ | (rw [w64_r64, rnd_r64]) | (rw [w64_r64, rnd_r64]; rfl) | (rw [Int.zero_sub]; exact w64_r64 _) | (rw [Int.zero_sub, w64_r64, rnd_r64]) | (rw [Int.zero_sub])) rfl, rfl⟩
    by_cases h120 : op = 120
    · subst h120
      have hv : of2 (op32 120 a b) ((120 : Int) = 108 ∨ (120 : Int) = 112) b = (rnd (shl a y), 0) := of2_ok (by rw [hy]; rfl) (fun h => by omega)
      rw [hv]
      simp only
      unfold shl
      obtain ⟨m1, m2⟩ := unhide HMU
      clear hv hy HU HV HMU Hha Hhb HB0 HB1 HB2
      generalize (2 : Int) ^ y = P at *
      go_enter Try.func10, Try.ntmps10
      go_wp2_with fail
      refine (unhide HA _).mono ?_
      rintro e w1 ⟨rfl, rfl⟩
      go_wp2_with fail
      refine (unhide HB _).mono ?_
      rintro e w1 ⟨rfl, rfl⟩
      go_wp2_with fail
      refine (unhide HP _).mono ?_
      rintro e w1 ⟨rfl, rfl⟩
      go_wp2_with fail
      refine (unhide HR _ _).mono ?_
      rintro e w1 ⟨rfl, rfl⟩
      go_wp2
      go_ret2
      exact ⟨by first | rfl | exact ret2A (by first | rfl | exact w64_r64 _ | exact rnd_r64 _ | (rw [w64_r64, rnd_r64]) | (rw [w64_r64, rnd_r64]; rfl) | (rw [Int.zero_sub]; exact w64_r64 _) | (rw [Int.zero_sub, w64_r64, rnd_r64]) | (rw [Int.zero_sub])) rfl, rfl⟩
    by_cases h122 : op = 122
    · subst h122
      have hv : of2 (op32 122 a b) ((122 : Int) = 108 ∨ (122 : Int) = 112) b = (shr a y, 0) := of2_ok (by rw [hy]; rfl) (fun h => by omega)
      rw [hv]
      simp only
      have HX := hide (unhide HU · a (int_lon (unhide Hha)))
      obtain ⟨s1, s2⟩ := shr_lon (int_lon (unhide Hha)) y
      clear hv hy HP HV HMU Hha Hhb HB0 HB1 HB2 HU
      generalize shr a y = S at *
      go_enter Try.func10, Try.ntmps10
      go_wp2_with fail
      refine (unhide HA _).mono ?_
      rintro e w1 ⟨rfl, rfl⟩
      go_wp2_with fail
      refine (unhide HB _).mono ?_
      rintro e w1 ⟨rfl, rfl⟩
      go_wp2_with fail
      refine (unhide HX _).mono ?_
      rintro e w1 ⟨rfl, rfl⟩
      go_wp2
      go_ret2
      exact ⟨by first | rfl | exact ret2A (by first | rfl | exact w64_r64 _ | exact rnd_r64 _ | (rw [w64_r64, rnd_r64]) | (rw [w64_r64, rnd_r64]; rfl) | (rw [Int.zero_sub]; exact w64_r64 _) | (rw [Int.zero_sub, w64_r64, rnd_r64]) | (rw [Int.zero_sub])) rfl, rfl⟩
    by_cases h124 : op = 124
    · subst h124
      have hv : of2 (op32 124 a b) ((124 : Int) = 108 ∨ (124 : Int) = 112) b = (rnd (shr (u32 a) y), 0) := of2_ok (by rw [hy]; rfl) (fun h => by omega)
      rw [hv]
      simp only
      by_cases hneg : a < 0
      · have hu : u32 a = a + 4294967296 := by unfold u32; omega
        rw [hu]
        have hul : lonA (a + 4294967296) := by unfold lonA; omega
        have HX := hide (unhide HU · (a + 4294967296) hul)
        clear hv hy HP HV HMU Hha Hhb HB0 HB1 HB2 HU hu hul
        go_enter Try.func10, Try.ntmps10
        go_wp2_with fail
        refine (unhide HA _).mono ?_
        rintro e w1 ⟨rfl, rfl⟩
        go_wp2_with fail
        refine (unhide HB _).mono ?_
        rintro e w1 ⟨rfl, rfl⟩
        go_wp2_with fail
        refine (unhide HX _).mono ?_
        rintro e w1 ⟨rfl, rfl⟩
        go_wp2_with fail
        refine (unhide HR _ _).mono ?_
        rintro e w1 ⟨rfl, rfl⟩
        go_wp2
        go_ret2
        exact ⟨by first | rfl | exact ret2A (by first | rfl | exact w64_r64 _ | exact rnd_r64 _ | (rw [w64_r64, rnd_r64]) | (rw [w64_r64, rnd_r64]; rfl) | (rw [Int.zero_sub]; exact w64_r64 _) | (rw [Int.zero_sub, w64_r64, rnd_r64]) | (rw [Int.zero_sub])) rfl, rfl⟩
      · have hu : u32 a = a := by unfold u32; omega
        rw [hu]
        have HX := hide (unhide HU · a (int_lon (unhide Hha)))
        clear hv hy HP HV HMU Hha Hhb HB0 HB1 HB2 HU hu
        go_enter Try.func10, Try.ntmps10
        go_wp2_with fail
        refine (unhide HA _).mono ?_
        rintro e w1 ⟨rfl, rfl⟩
        go_wp2_with fail
        refine (unhide HB _).mono ?_
        rintro e w1 ⟨rfl, rfl⟩
        go_wp2_with fail
        refine (unhide HX _).mono ?_
        rintro e w1 ⟨rfl, rfl⟩
        go_wp2_with fail
        refine (unhide HR _ _).mono ?_
        rintro e w1 ⟨rfl, rfl⟩
        go_wp2
        go_ret2
        exact ⟨by first | rfl | exact ret2A (by first | rfl | exact w64_r64 _ | exact rnd_r64 _ | (rw [w64_r64, rnd_r64]) | (rw [w64_r64, rnd_r64]; rfl) | (rw [Int.zero_sub]; exact w64_r64 _) | (rw [Int.zero_sub, w64_r64, rnd_r64]) | (rw [Int.zero_sub])) rfl, rfl⟩
    by_cases h126 : op = 126
    · subst h126
      have hv : of2 (op32 126 a b) ((126 : Int) = 108 ∨ (126 : Int) = 112) b = (rnd (bitZ 0 32 a b), 0) := of2_ok (by rfl) (fun h => by omega)
      rw [hv]
      simp only
      clear hv hy HP HV HMU Hha Hhb HU
      have HX := hide (unhide HB0)
      clear HB0 HB1 HB2
      generalize ((bitZ 0 32 a b : Nat) : Int) = Z at *
      go_enter Try.func10, Try.ntmps10
      go_wp2_with fail
      refine (unhide HA _).mono ?_
      rintro e w1 ⟨rfl, rfl⟩
      go_wp2_with fail
      refine (unhide HB _).mono ?_
      rintro e w1 ⟨rfl, rfl⟩
      go_wp2_with fail
      refine (unhide HX _).mono ?_
      rintro e w1 ⟨rfl, rfl⟩
      go_wp2_with fail
      refine (unhide HR _ _).mono ?_
      rintro e w1 ⟨rfl, rfl⟩
      go_wp2
      go_ret2
      exact ⟨by first | rfl | exact ret2A (by first | rfl | exact w64_r64 _ | exact rnd_r64 _ | (rw [w64_r64, rnd_r64]) | (rw [w64_r64, rnd_r64]; rfl) | (rw [Int.zero_sub]; exact w64_r64 _) | (rw [Int.zero_sub, w64_r64, rnd_r64]) | (rw [Int.zero_sub])) rfl, rfl⟩
    by_cases h128 : op = 128
    · subst h128
      have hv : of2 (op32 128 a b) ((128 : Int) = 108 ∨ (128 : Int) = 112) b = (rnd (bitZ 1 32 a b), 0) := of2_ok (by rfl) (fun h => by omega)
      rw [hv]
      simp only
      clear hv hy HP HV HMU Hha Hhb HU
      have HX := hide (unhide HB1)
      clear HB0 HB1 HB2
      generalize ((bitZ 1 32 a b : Nat) : Int) = Z at *
      go_enter Try.func10, Try.ntmps10
      go_wp2_with fail
      refine (unhide HA _).mono ?_
      rintro e w1 ⟨rfl, rfl⟩
      go_wp2_with fail
      refine (unhide HB _).mono ?_
      rintro e w1 ⟨rfl, rfl⟩
      go_wp2_with fail
      refine (unhide HX _).mono ?_
      rintro e w1 ⟨rfl, rfl⟩
      go_wp2_with fail
      refine (unhide HR _ _).mono ?_
      rintro e w1 ⟨rfl, rfl⟩
      go_wp2
      go_ret2
      exact ⟨by first | rfl | exact ret2A (by first | rfl | exact w64_r64 _ | exact rnd_r64 _ | (rw [w64_r64, rnd_r64]) | (rw [w64_r64, rnd_r64]; rfl) | (rw [Int.zero_sub]; exact w64_r64 _) | (rw [Int.zero_sub, w64_r64, rnd_r64]) | (rw [Int.zero_sub])) rfl, rfl⟩
    by_cases h130 : op = 130
    · subst h130
      have hv : of2 (op32 130 a b) ((130 : Int) = 108 ∨ (130 : Int) = 112) b = (rnd (bitZ 2 32 a b), 0) := of2_ok (by rfl) (fun h => by omega)
      rw [hv]
      simp only
      clear hv hy HP HV HMU Hha Hhb HU
      have HX := hide (unhide HB2)
      clear HB0 HB1 HB2
      generalize ((bitZ 2 32 a b : Nat) : Int) = Z at *
      go_enter Try.func10, Try.ntmps10
      go_wp2_with fail
      refine (unhide HA _).mono ?_
      rintro e w1 ⟨rfl, rfl⟩
      go_wp2_with fail
      refine (unhide HB _).mono ?_
      rintro e w1 ⟨rfl, rfl⟩
      go_wp2_with fail
      refine (unhide HX _).mono ?_
      rintro e w1 ⟨rfl, rfl⟩
      go_wp2_with fail
      refine (unhide HR _ _).mono ?_
      rintro e w1 ⟨rfl, rfl⟩
      go_wp2
      go_ret2
      exact ⟨by first | rfl | exact ret2A (by first | rfl | exact w64_r64 _ | exact rnd_r64 _ | (rw [w64_r64, rnd_r64]) | (rw [w64_r64, rnd_r64]; rfl) | (rw [Int.zero_sub]; exact w64_r64 _) | (rw [Int.zero_sub, w64_r64, rnd_r64]) | (rw [Int.zero_sub])) rfl, rfl⟩
    have c96 := beq_ne h96
    have c100 := beq_ne h100
    have c104 := beq_ne h104
    have c108 := beq_ne h108
    have c112 := beq_ne h112
    have c120 := beq_ne h120
    have c122 := beq_ne h122
    have c124 := beq_ne h124
    have c126 := beq_ne h126
    have c128 := beq_ne h128
    have c130 := beq_ne h130
    have hv : of2 (op32 op a b) (op = 108 ∨ op = 112) b = (0, 2) := by unfold op32; simp only [h96, h100, h104, h108, h112, h120, h122, h124, h126, h128, h130, if_false]; rfl
    rw [hv]
    simp only
    clear hv hy HP HV HMU Hha Hhb HU HR HB0 HB1 HB2 h96 h100 h104 h108 h112 h120 h122 h124 h126 h128 h130
    go_enter Try.func10, Try.ntmps10
    go_wp2_with fail
    refine (unhide HA _).mono ?_
    rintro e w1 ⟨rfl, rfl⟩
    go_wp2_with fail
    refine (unhide HB _).mono ?_
    rintro e w1 ⟨rfl, rfl⟩
    go_wp2
    go_ret2
    exact ⟨by first | rfl | exact ret2A (by first | rfl | exact w64_r64 _ | exact rnd_r64 _ | (rw [w64_r64, rnd_r64]) | (rw [w64_r64, rnd_r64]; rfl) | (rw [Int.zero_sub]; exact w64_r64 _) | (rw [Int.zero_sub, w64_r64, rnd_r64]) | (rw [Int.zero_sub])) rfl, rfl⟩
  ·
    have hyneg : (y : Int) - 32 < 0 := by omega
    have hyback : (y : Int) - 32 + 32 = y := by omega
    by_cases h96 : op = 96
    · subst h96
      have hv : of2 (op32 96 a b) ((96 : Int) = 108 ∨ (96 : Int) = 112) b = (rnd (a + b), 0) := of2_ok (by rfl) (fun h => by omega)
      rw [hv]
      simp only
      clear hv hy HP HU HV HMU Hha Hhb HB0 HB1 HB2
      go_enter Try.func10, Try.ntmps10
      go_wp2_with fail
      refine (unhide HA _).mono ?_
      rintro e w1 ⟨rfl, rfl⟩
      go_wp2_with fail
      refine (unhide HB _).mono ?_
      rintro e w1 ⟨rfl, rfl⟩
      go_wp2_with fail
      refine (unhide HR _ _).mono ?_
      rintro e w1 ⟨rfl, rfl⟩
      go_wp2
      go_ret2
      exact ⟨by first | rfl | exact ret2A (by first | rfl | exact w64_r64 _ | exact rnd_r64 _ | (rw [w64_r64, rnd_r64]) | (rw [w64_r64, rnd_r64]; rfl) | (rw [Int.zero_sub]; exact w64_r64 _) | (rw [Int.zero_sub, w64_r64, rnd_r64]) | (rw [Int.zero_sub])) rfl, rfl⟩
    by_cases h100 : op = 100
    · subst h100
      have hv : of2 (op32 100 a b) ((100 : Int) = 108 ∨ (100 : Int) = 112) b = (rnd (a - b), 0) := of2_ok (by rfl) (fun h => by omega)
      rw [hv]
      simp only
      clear hv hy HP HU HV HMU Hha Hhb HB0 HB1 HB2
      go_enter Try.func10, Try.ntmps10
      go_wp2_with fail
      refine (unhide HA _).mono ?_
      rintro e w1 ⟨rfl, rfl⟩
      go_wp2_with fail
      refine (unhide HB _).mono ?_
      rintro e w1 ⟨rfl, rfl⟩
      go_wp2_with fail
      refine (unhide HR _ _).mono ?_
      rintro e w1 ⟨rfl, rfl⟩
      go_wp2
      go_ret2
      exact ⟨by first | rfl | exact ret2A (by first | rfl | exact w64_r64 _ | exact rnd_r64 _ | (rw [w64_r64, rnd_r64]) | (rw [w64_r64, rnd_r64]; rfl) | (rw [Int.zero_sub]; exact w64_r64 _) | (rw [Int.zero_sub, w64_r64, rnd_r64]) | (rw [Int.zero_sub])) rfl, rfl⟩
    by_cases h104 : op = 104
    · subst h104
      have hv : of2 (op32 104 a b) ((104 : Int) = 108 ∨ (104 : Int) = 112) b = (rnd (a * b), 0) := of2_ok (by rfl) (fun h => by omega)
      rw [hv]
      simp only
      clear hv hy HP HU HV HMU Hha Hhb HB0 HB1 HB2
      go_enter Try.func10, Try.ntmps10
      go_wp2_with fail
      refine (unhide HA _).mono ?_
      rintro e w1 ⟨rfl, rfl⟩
      go_wp2_with fail
      refine (unhide HB _).mono ?_
      rintro e w1 ⟨rfl, rfl⟩
      go_wp2_with fail
      refine (unhide HR _ _).mono ?_
      rintro e w1 ⟨rfl, rfl⟩
      go_wp2
      go_ret2
      exact ⟨by first | rfl | exact ret2A (by first | rfl | exact w64_r64 _ | exact rnd_r64 _ | (rw [w64_r64, rnd_r64]) | (rw [w64_r64, rnd_r64]; rfl) | (rw [Int.zero_sub]; exact w64_r64 _) | (rw [Int.zero_sub, w64_r64, rnd_r64]) | (rw [Int.zero_sub])) rfl, rfl⟩
    by_cases h108 : op = 108
    · subst h108
      by_cases hb0 : b = 0
      · subst hb0
        have hv : of2 (op32 108 a 0) ((108 : Int) = 108 ∨ (108 : Int) = 112) 0 = (0, 5) := of2_zero rfl ⟨by first | exact .inl rfl | exact .inr rfl, rfl⟩
        rw [hv]
        simp only
        clear hv hy HR HP HU HV HMU Hha Hhb HB0 HB1 HB2
        go_enter Try.func10, Try.ntmps10
        go_wp2_with fail
        refine (unhide HA _).mono ?_
        rintro e w1 ⟨rfl, rfl⟩
        go_wp2_with fail
        refine (unhide HB _).mono ?_
        rintro e w1 ⟨rfl, rfl⟩
        go_wp2
        go_ret2
        exact ⟨by first | rfl | exact ret2A (by first | rfl | exact w64_r64 _ | exact rnd_r64 _ | (rw [w64_r64, rnd_r64]) | (rw [w64_r64, rnd_r64]; rfl) | (rw [Int.zero_sub]; exact w64_r64 _) | (rw [Int.zero_sub, w64_r64, rnd_r64]) | (rw [Int.zero_sub])) rfl, rfl⟩
      · have hv : of2 (op32 108 a b) ((108 : Int) = 108 ∨ (108 : Int) = 112) b = (rnd (a.tdiv b), 0) := of2_ok rfl (fun h => hb0 h.2)
        rw [hv]
        simp only
        have hbn := beq_ne hb0
        clear hv hy HP HU HV HMU Hha Hhb HB0 HB1 HB2
        go_enter Try.func10, Try.ntmps10
        go_wp2_with fail
        refine (unhide HA _).mono ?_
        rintro e w1 ⟨rfl, rfl⟩
        go_wp2_with fail
        refine (unhide HB _).mono ?_
        rintro e w1 ⟨rfl, rfl⟩
        go_wp2_with fail
        refine (unhide HR _ _).mono ?_
        rintro e w1 ⟨rfl, rfl⟩
        go_wp2
        go_ret2
        exact ⟨by first | rfl | exact ret2A (by first | rfl | exact w64_r64 _ | exact rnd_r64 _ | (rw [w64_r64, rnd_r64]) | (rw [w64_r64, rnd_r64]; rfl) | (rw [Int.zero_sub]; exact w64_r64 _) | (rw [Int.zero_sub, w64_r64, rnd_r64]) | (rw [Int.zero_sub])) rfl, rfl⟩
    by_cases h112 : op = 112
    · subst h112
      by_cases hb0 : b = 0
      · subst hb0
        have hv : of2 (op32 112 a 0) ((112 : Int) = 108 ∨ (112 : Int) = 112) 0 = (0, 5) := of2_zero rfl ⟨by first | exact .inl rfl | exact .inr rfl, rfl⟩
        rw [hv]
        simp only
        clear hv hy HR HP HU HV HMU Hha Hhb HB0 HB1 HB2
        go_enter Try.func10, Try.ntmps10
        go_wp2_with fail
        refine (unhide HA _).mono ?_
        rintro e w1 ⟨rfl, rfl⟩
        go_wp2_with fail
        refine (unhide HB _).mono ?_
        rintro e w1 ⟨rfl, rfl⟩
        go_wp2
        go_ret2
        exact ⟨by first | rfl | exact ret2A (by first | rfl | exact w64_r64 _ | exact rnd_r64 _ | (rw [w64_r64, rnd_r64]) | (rw [w64_r64, rnd_r64]; rfl) | (rw [Int.zero_sub]; exact w64_r64 _) | (rw [Int.zero_sub, w64_r64, rnd_r64]) | (rw [Int.zero_sub])) rfl, rfl⟩
      · have hv : of2 (op32 112 a b) ((112 : Int) = 108 ∨ (112 : Int) = 112) b = (a.tmod b, 0) := of2_ok rfl (fun h => hb0 h.2)
        rw [hv]
        simp only
        have hbn := beq_ne hb0
        clear hv hy HP HU HV HMU Hha Hhb HB0 HB1 HB2
        go_enter Try.func10, Try.ntmps10
        go_wp2_with fail
        refine (unhide HA _).mono ?_
        rintro e w1 ⟨rfl, rfl⟩
        go_wp2_with fail
        refine (unhide HB _).mono ?_
        rintro e w1 ⟨rfl, rfl⟩
        go_wp2
        go_ret2
        exact ⟨by first | rfl | exact ret2A (by first | rfl | exact w64_r64 _ | exact rnd_r64 _ | (rw [w64_r64, rnd_r64]) | (rw [w64_r64, rnd_r64]; rfl) | (rw [Int.zero_sub]; exact w64_r64 _) | (rw [Int.zero_sub, w64_r64, rnd_r64]) | (rw [Int.zero_sub])) rfl, rfl⟩
    by_cases h120 : op = 120
    · subst h120
      have hv : of2 (op32 120 a b) ((120 : Int) = 108 ∨ (120 : Int) = 112) b = (rnd (shl a y), 0) := of2_ok (by rw [hy]; rfl) (fun h => by omega)
      rw [hv]
      simp only
      unfold shl
      obtain ⟨m1, m2⟩ := unhide HMU
      clear hv hy HU HV HMU Hha Hhb HB0 HB1 HB2
      generalize (2 : Int) ^ y = P at *
      go_enter Try.func10, Try.ntmps10
      go_wp2_with fail
      refine (unhide HA _).mono ?_
      rintro e w1 ⟨rfl, rfl⟩
      go_wp2_with fail
      refine (unhide HB _).mono ?_
      rintro e w1 ⟨rfl, rfl⟩
      go_wp2_with fail
      refine (unhide HP _).mono ?_
      rintro e w1 ⟨rfl, rfl⟩
      go_wp2_with fail
      refine (unhide HR _ _).mono ?_
      rintro e w1 ⟨rfl, rfl⟩
      go_wp2
      go_ret2
      exact ⟨by first | rfl | exact ret2A (by first | rfl | exact w64_r64 _ | exact rnd_r64 _ | (rw [w64_r64, rnd_r64]) | (rw [w64_r64, rnd_r64]; rfl) | (rw [Int.zero_sub]; exact w64_r64 _) | (rw [Int.zero_sub, w64_r64, rnd_r64]) | (rw [Int.zero_sub])) rfl, rfl⟩
    by_cases h122 : op = 122
    · subst h122
      have hv : of2 (op32 122 a b) ((122 : Int) = 108 ∨ (122 : Int) = 112) b = (shr a y, 0) := of2_ok (by rw [hy]; rfl) (fun h => by omega)
      rw [hv]
      simp only
      have HX := hide (unhide HU · a (int_lon (unhide Hha)))
      obtain ⟨s1, s2⟩ := shr_lon (int_lon (unhide Hha)) y
      clear hv hy HP HV HMU Hha Hhb HB0 HB1 HB2 HU
      generalize shr a y = S at *
      go_enter Try.func10, Try.ntmps10
      go_wp2_with fail
      refine (unhide HA _).mono ?_
      rintro e w1 ⟨rfl, rfl⟩
      go_wp2_with fail
      refine (unhide HB _).mono ?_
      rintro e w1 ⟨rfl, rfl⟩
      go_wp2_with fail
      refine (unhide HX _).mono ?_
      rintro e w1 ⟨rfl, rfl⟩
      go_wp2
      go_ret2
      exact ⟨by first | rfl | exact ret2A (by first | rfl | exact w64_r64 _ | exact rnd_r64 _ | (rw [w64_r64, rnd_r64]) | (rw [w64_r64, rnd_r64]; rfl) | (rw [Int.zero_sub]; exact w64_r64 _) | (rw [Int.zero_sub, w64_r64, rnd_r64]) | (rw [Int.zero_sub])) rfl, rfl⟩
    by_cases h124 : op = 124
    · subst h124
      have hv : of2 (op32 124 a b) ((124 : Int) = 108 ∨ (124 : Int) = 112) b = (rnd (shr (u32 a) y), 0) := of2_ok (by rw [hy]; rfl) (fun h => by omega)
      rw [hv]
      simp only
      by_cases hneg : a < 0
      · have hu : u32 a = a + 4294967296 := by unfold u32; omega
        rw [hu]
        have hul : lonA (a + 4294967296) := by unfold lonA; omega
        have HX := hide (unhide HU · (a + 4294967296) hul)
        clear hv hy HP HV HMU Hha Hhb HB0 HB1 HB2 HU hu hul
        go_enter Try.func10, Try.ntmps10
        go_wp2_with fail
        refine (unhide HA _).mono ?_
        rintro e w1 ⟨rfl, rfl⟩
        go_wp2_with fail
        refine (unhide HB _).mono ?_
        rintro e w1 ⟨rfl, rfl⟩
        go_wp2_with fail
        refine (unhide HX _).mono ?_
        rintro e w1 ⟨rfl, rfl⟩
        go_wp2_with fail
        refine (unhide HR _ _).mono ?_
        rintro e w1 ⟨rfl, rfl⟩
        go_wp2
        go_ret2
        exact ⟨by first | rfl | exact ret2A (by first | rfl | exact w64_r64 _ | exact rnd_r64 _ | (rw [w64_r64, rnd_r64]) | (rw [w64_r64, rnd_r64]; rfl) | (rw [Int.zero_sub]; exact w64_r64 _) | (rw [Int.zero_sub, w64_r64, rnd_r64]) | (rw [Int.zero_sub])) rfl, rfl⟩
      · have hu : u32 a = a := by unfold u32; omega
        rw [hu]
        have HX := hide (unhide HU · a (int_lon (unhide Hha)))
        clear hv hy HP HV HMU Hha Hhb HB0 HB1 HB2 HU hu
        go_enter Try.func10, Try.ntmps10
        go_wp2_with fail
        refine (unhide HA _).mono ?_
        rintro e w1 ⟨rfl, rfl⟩
        go_wp2_with fail
        refine (unhide HB _).mono ?_
        rintro e w1 ⟨rfl, rfl⟩
        go_wp2_with fail
        refine (unhide HX _).mono ?_
        rintro e w1 ⟨rfl, rfl⟩
        go_wp2_with fail
        refine (unhide HR _ _).mono ?_
        rintro e w1 ⟨rfl, rfl⟩
        go_wp2
        go_ret2
        exact ⟨by first | rfl | exact ret2A (by first | rfl | exact w64_r64 _ | exact rnd_r64 _ | (rw [w64_r64, rnd_r64]) | (rw [w64_r64, rnd_r64]; rfl) | (rw [Int.zero_sub]; exact w64_r64 _) | (rw [Int.zero_sub, w64_r64, rnd_r64]) | (rw [Int.zero_sub])) rfl, rfl⟩
    by_cases h126 : op = 126
    · subst h126
      have hv : of2 (op32 126 a b) ((126 : Int) = 108 ∨ (126 : Int) = 112) b = (rnd (bitZ 0 32 a b), 0) := of2_ok (by rfl) (fun h => by omega)
      rw [hv]
      simp only
      clear hv hy HP HV HMU Hha Hhb HU
      have HX := hide (unhide HB0)
      clear HB0 HB1 HB2
      generalize ((bitZ 0 32 a b : Nat) : Int) = Z at *
      go_enter Try.func10, Try.ntmps10
      go_wp2_with fail
      refine (unhide HA _).mono ?_
      rintro e w1 ⟨rfl, rfl⟩
      go_wp2_with fail
      refine (unhide HB _).mono ?_
      rintro e w1 ⟨rfl, rfl⟩
      go_wp2_with fail
      refine (unhide HX _).mono ?_
      rintro e w1 ⟨rfl, rfl⟩
      go_wp2_with fail
      refine (unhide HR _ _).mono ?_
      rintro e w1 ⟨rfl, rfl⟩
      go_wp2
      go_ret2
      exact ⟨by first | rfl | exact ret2A (by first | rfl | exact w64_r64 _ | exact rnd_r64 _ | (rw [w64_r64, rnd_r64]) | (rw [w64_r64, rnd_r64]; rfl) | (rw [Int.zero_sub]; exact w64_r64 _) | (rw [Int.zero_sub, w64_r64, rnd_r64]) | (rw [Int.zero_sub])) rfl, rfl⟩
    by_cases h128 : op = 128
    · subst h128
      have hv : of2 (op32 128 a b) ((128 : Int) = 108 ∨ (128 : Int) = 112) b = (rnd (bitZ 1 32 a b), 0) := of2_ok (by rfl) (fun h => by omega)
      rw [hv]
      simp only
      clear hv hy HP HV HMU Hha Hhb HU
      have HX := hide (unhide HB1)
      clear HB0 HB1 HB2
      generalize ((bitZ 1 32 a b : Nat) : Int) = Z at *
      go_enter Try.func10, Try.ntmps10
      go_wp2_with fail
      refine (unhide HA _).mono ?_
      rintro e w1 ⟨rfl, rfl⟩
      go_wp2_with fail
      refine (unhide HB _).mono ?_
      rintro e w1 ⟨rfl, rfl⟩
      go_wp2_with fail
      refine (unhide HX _).mono ?_
      rintro e w1 ⟨rfl, rfl⟩
      go_wp2_with fail
      refine (unhide HR _ _).mono ?_
      rintro e w1 ⟨rfl, rfl⟩
      go_wp2
      go_ret2
      exact ⟨by first | rfl | exact ret2A (by first | rfl | exact w64_r64 _ | exact rnd_r64 _ | (rw [w64_r64, rnd_r64]) | (rw [w64_r64, rnd_r64]; rfl) | (rw [Int.zero_sub]; exact w64_r64 _) | (rw [Int.zero_sub, w64_r64, rnd_r64]) | (rw [Int.zero_sub])) rfl, rfl⟩
    by_cases h130 : op = 130
    · subst h130
      have hv : of2 (op32 130 a b) ((130 : Int) = 108 ∨ (130 : Int) = 112) b = (rnd (bitZ 2 32 a b), 0) := of2_ok (by rfl) (fun h => by omega)
      rw [hv]
      simp only
      clear hv hy HP HV HMU Hha Hhb HU
      have HX := hide (unhide HB2)
      clear HB0 HB1 HB2
      generalize ((bitZ 2 32 a b : Nat) : Int) = Z at *
      go_enter Try.func10, Try.ntmps10
      go_wp2_with fail
      refine (unhide HA _).mono ?_
      rintro e w1 ⟨rfl, rfl⟩
      go_wp2_with fail
      refine (unhide HB _).mono ?_
      rintro e w1 ⟨rfl, rfl⟩
      go_wp2_with fail
      refine (unhide HX _).mono ?_
      rintro e w1 ⟨rfl, rfl⟩
      go_wp2_with fail
      refine (unhide HR _ _).mono ?_
      rintro e w1 ⟨rfl, rfl⟩
      go_wp2
      go_ret2
      exact ⟨by first | rfl | exact ret2A (by first | rfl | exact w64_r64 _ | exact rnd_r64 _ | (rw [w64_r64, rnd_r64]) | (rw [w64_r64, rnd_r64]; rfl) | (rw [Int.zero_sub]; exact w64_r64 _) | (rw [Int.zero_sub, w64_r64, rnd_r64]) | (rw [Int.zero_sub])) rfl, rfl⟩
    have c96 := beq_ne h96
    have c100 := beq_ne h100
    have c104 := beq_ne h104
    have c108 := beq_ne h108
    have c112 := beq_ne h112
    have c120 := beq_ne h120
    have c122 := beq_ne h122
    have c124 := beq_ne h124
    have c126 := beq_ne h126
    have c128 := beq_ne h128
    have c130 := beq_ne h130
    have hv : of2 (op32 op a b) (op = 108 ∨ op = 112) b = (0, 2) := by unfold op32; simp only [h96, h100, h104, h108, h112, h120, h122, h124, h126, h128, h130, if_false]; rfl
    rw [hv]
    simp only
    clear hv hy HP HV HMU Hha Hhb HU HR HB0 HB1 HB2 h96 h100 h104 h108 h112 h120 h122 h124 h126 h128 h130
    go_enter Try.func10, Try.ntmps10
    go_wp2_with fail
    refine (unhide HA _).mono ?_
    rintro e w1 ⟨rfl, rfl⟩
    go_wp2_with fail
    refine (unhide HB _).mono ?_
    rintro e w1 ⟨rfl, rfl⟩
    go_wp2
    go_ret2
    exact ⟨by first | rfl | exact ret2A (by first | rfl | exact w64_r64 _ | exact rnd_r64 _ | (rw [w64_r64, rnd_r64]) | (rw [w64_r64, rnd_r64]; rfl) | (rw [Int.zero_sub]; exact w64_r64 _) | (rw [Int.zero_sub, w64_r64, rnd_r64]) | (rw [Int.zero_sub])) rfl, rfl⟩
end Go.Proofs.Ytfjkclolnnoklaa
