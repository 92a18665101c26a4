/- Layer 14: the document's Int, Long, One, If (written by mk/mkaif.py). -/
import Derived.Test.YtfjkclolnnoklabAiD
namespace Go.Proofs.Ytfjkclolnnoklab
open Go.RowKit
set_option linter.unusedVariables false
set_option maxRecDepth 100000

theorem ret2A {a b c d : Int} (h : a = b) (h2 : c = d) : Ending.returned (.tuple #[.int .i64 a, .int .i64 c]) = .returned (.tuple #[.int .i64 b, .int .i64 d]) := by rw [h, h2]
theorem beq_ne {a b : Int} (h : ¬ a = b) : (a == b) = false := by simpa using h
theorem tmod_parts (b m : Int) (hm : 0 < m) : ∃ y : Nat, y = (b % m).toNat ∧ (y : Int) < m ∧ (b.tmod m = y ∨ b.tmod m = (y : Int) - m) := by
  refine ⟨(b % m).toNat, rfl, ?_, ?_⟩
  · have := Int.emod_lt_of_pos b hm; have := Int.emod_nonneg b (by omega : m ≠ 0); omega
  · have h1 := Int.emod_nonneg b (by omega : m ≠ 0)
    have h2 := Int.emod_lt_of_pos b hm
    have e : ((b % m).toNat : Int) = b % m := by omega
    rw [e]
    by_cases hb : 0 ≤ b
    · exact .inl (Int.tmod_eq_emod_of_nonneg hb)
    · have h3 := Int.tmod_eq_emod (a := b) (b := m)
      have h4 : ¬ (0 ≤ b ∨ m ∣ b) ∨ (0 ≤ b ∨ m ∣ b) := (Classical.em _).symm
      rcases h4 with h4 | h4
      · rw [if_neg h4] at h3; right; rw [h3]; omega
      · rw [if_pos h4] at h3; left; rw [h3]; omega
theorem of2_ok {o : Option Int} {v b : Int} {dv : Prop} [Decidable dv] (h : o = some v) (hn : ¬ (dv ∧ b = 0)) : of2 o dv b = (v, 0) := by rw [h]; unfold of2; simp only; rw [if_neg hn]
theorem of2_zero {o : Option Int} {v b : Int} {dv : Prop} [Decidable dv] (h : o = some v) (hn : dv ∧ b = 0) : of2 o dv b = (0, 5) := by rw [h]; unfold of2; simp only; rw [if_pos hn]
theorem shl_step (a : Int) (k : Nat) : r64 (r64 (shl a k) + r64 (shl a k)) = r64 (shl a (k + 1)) := by
  rw [r64_add_l, r64_add_r]
  unfold shl
  rw [Int.pow_succ]
  congr 1
  generalize (2 : Int) ^ k = P
  rw [← Int.mul_assoc]; omega
theorem mul_small {a : Int} (ha : intA a) {k : Nat} (hk : k ≤ 31) : lonA (a * 2 ^ k) := by
  have h := pow2_small (Nat.le_refl k) (by omega)
  have h2 : (2 : Int) ^ k ≤ 2147483648 := by
    have h1 : 2 ^ k ≤ 2 ^ 31 := Nat.pow_le_pow_right (by omega) hk
    have h3 : ((2 ^ k : Nat) : Int) = (2 : Int) ^ k := by norm_cast
    have h4 : (2 : Nat) ^ 31 = 2147483648 := by decide
    omega
  generalize (2 : Int) ^ k = P at *
  obtain ⟨a1, a2⟩ := ha
  have m1 : a * P ≤ 2147483647 * P := Int.mul_le_mul_of_nonneg_right a2 (by omega)
  have m2 : -2147483648 * P ≤ a * P := Int.mul_le_mul_of_nonneg_right a1 (by omega)
  unfold lonA; omega
end Go.Proofs.Ytfjkclolnnoklab
