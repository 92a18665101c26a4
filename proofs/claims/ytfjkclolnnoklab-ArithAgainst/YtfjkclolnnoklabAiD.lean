/- Layer 14: the document's own arithmetic (written by mk/mkaid.py). -/
import Derived.Test.YtfjkclolnnoklabAiC
namespace Go.Proofs.Ytfjkclolnnoklab
open Go.RowKit
set_option linter.unusedVariables false
set_option maxRecDepth 100000

theorem rnd_r64 (x : Int) : rnd (r64 x) = rnd x := by rw [rnd_eq, rnd_eq, r64_eq]; omega
theorem intA_dec (a : Int) : (decide (-2147483648 ≤ a) && decide (a ≤ 2147483647)) = decide (intA a) := by
  by_cases h : intA a
  · rw [decide_eq_true h, decide_eq_true h.1, decide_eq_true h.2]; rfl
  · rw [decide_eq_false h]
    cases hh : (decide (-2147483648 ≤ a) && decide (a ≤ 2147483647)) with
    | false => rfl
    | true => rw [Bool.and_eq_true, decide_eq_true_eq, decide_eq_true_eq] at hh; exact absurd hh h
theorem pow2_small {k n : Nat} (h : k ≤ n) (hn : n ≤ 62) : (2 : Int) ^ k ≤ 4611686018427387904 ∧ 1 ≤ (2 : Int) ^ k := by
  have h1 : 2 ^ k ≤ 2 ^ 62 := Nat.pow_le_pow_right (by omega) (by omega)
  have h2 : 1 ≤ 2 ^ k := Nat.one_le_two_pow
  have h3 : ((2 ^ k : Nat) : Int) = (2 : Int) ^ k := by norm_cast
  have h4 : (2 : Nat) ^ 62 = 4611686018427387904 := by decide
  omega
theorem half_neg (X : Int) (h : X < 0) : (X.tmod 2 = 0 → X.tdiv 2 = X / 2) ∧ (X.tmod 2 ≠ 0 → X.tdiv 2 = X / 2 + 1) := by
  have h1 := Int.tmod_add_mul_tdiv X 2
  have h2 := Int.tmod_nonneg 2 (by omega : 0 ≤ -X)
  have h3 := Int.tmod_lt_of_pos (-X) (by omega : (0 : Int) < 2)
  rw [Int.neg_tmod] at h2 h3
  omega
theorem bit_at (x i : Nat) : (((x / 2 ^ i : Nat) : Int) % 2 == 1) = decide (x / 2 ^ i % 2 = 1) := by
  by_cases h : x / 2 ^ i % 2 = 1
  · have : ((x / 2 ^ i : Nat) : Int) % 2 = 1 := by omega
    rw [this, decide_eq_true h]; rfl
  · have h0 : ((x / 2 ^ i : Nat) : Int) % 2 = 0 := by omega
    rw [h0, decide_eq_false h]; rfl
theorem pow_step {i : Nat} (h : i ≤ 63) : ((2 ^ i % 2 ^ 64 : Nat) : Int) * 2 % 18446744073709551616 = ((2 ^ (i + 1) % 2 ^ 64 : Nat) : Int) := by
  have e : (2 : Nat) ^ 64 = 18446744073709551616 := by decide
  rw [e, Nat.pow_succ]; omega
theorem pow63 {i : Nat} (h : i ≤ 63) : 2 ^ i ≤ 9223372036854775808 := by
  have h1 := Nat.pow_le_pow_right (n := 2) (by omega) h
  have e : (2 : Nat) ^ 63 = 9223372036854775808 := by decide
  omega
theorem div_step (x i : Nat) : ((x / 2 ^ i : Nat) : Int) / 2 = ((x / 2 ^ (i + 1) : Nat) : Int) := by
  rw [Nat.pow_succ, ← Nat.div_div_eq_div_mul]; omega
end Go.Proofs.Ytfjkclolnnoklab
