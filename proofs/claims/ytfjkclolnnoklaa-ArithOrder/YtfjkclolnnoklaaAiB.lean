/- Layer 14: what follows of sums, products and divisions that go round, as plain values. -/
import Derived.Test.YtfjkclolnnoklaaAiA
namespace Go.Proofs.Ytfjkclolnnoklaa
open Go.RowKit
set_option linter.unusedVariables false
set_option maxRecDepth 100000

theorem r64_ex (x : Int) : ∃ k, r64 x = x + 18446744073709551616 * k := ⟨-((x + 9223372036854775808) / 18446744073709551616), by rw [r64_eq]; omega⟩
theorem r64_of {x y : Int} (k : Int) (h : x = y + 18446744073709551616 * k) : r64 x = r64 y := by rw [r64_eq, r64_eq]; omega
theorem r64_add_l (x y : Int) : r64 (r64 x + y) = r64 (x + y) := by
  obtain ⟨k, e⟩ := r64_ex x
  rw [e]; exact r64_of k (by omega)
theorem r64_add_r (x y : Int) : r64 (x + r64 y) = r64 (x + y) := by rw [Int.add_comm, r64_add_l, Int.add_comm]
theorem r64_sub_l (x y : Int) : r64 (r64 x - y) = r64 (x - y) := by
  obtain ⟨k, e⟩ := r64_ex x
  rw [e]; exact r64_of k (by omega)
theorem r64_mul_l (x y : Int) : r64 (r64 x * y) = r64 (x * y) := by
  obtain ⟨k, e⟩ := r64_ex x
  rw [e]; exact r64_of (k * y) (by rw [Int.add_mul, Int.mul_assoc])
theorem r64_mul_r (x y : Int) : r64 (x * r64 y) = r64 (x * y) := by rw [Int.mul_comm, r64_mul_l, Int.mul_comm]
theorem r64_div (a b : Int) (ha : lonA a) : r64 (r64 (r64 (a.tdiv b) * b) + a.tmod b) = a := by
  rw [r64_mul_l, r64_add_l]
  have h : a.tdiv b * b + a.tmod b = a := by have := Int.tmod_add_mul_tdiv a b; rw [Int.mul_comm]; omega
  rw [h]; exact r64_id ha
theorem r64_comm (a b : Int) : r64 (a + b) = r64 (b + a) ∧ r64 (a * b) = r64 (b * a) := ⟨by rw [Int.add_comm], by rw [Int.mul_comm]⟩
theorem r64_assoc (a b c : Int) : r64 (r64 (a + b) + c) = r64 (a + r64 (b + c)) := by rw [r64_add_l, r64_add_r, Int.add_assoc]
theorem r64_massoc (a b c : Int) : r64 (r64 (a * b) * c) = r64 (a * r64 (b * c)) := by rw [r64_mul_l, r64_mul_r, Int.mul_assoc]
theorem r64_over (a b c : Int) : r64 (a * r64 (b + c)) = r64 (r64 (a * b) + r64 (a * c)) := by rw [r64_mul_r, r64_add_l, r64_add_r, Int.mul_add]
theorem r64_back (a b : Int) (ha : lonA a) : r64 (r64 (a + b) - b) = a := by rw [r64_sub_l, Int.add_sub_cancel]; exact r64_id ha
theorem rnd_ex (x : Int) : ∃ k, rnd x = x + 4294967296 * k := ⟨-((x + 2147483648) / 4294967296), by rw [rnd_eq]; omega⟩
theorem rnd_of {x y : Int} (k : Int) (h : x = y + 4294967296 * k) : rnd x = rnd y := by rw [rnd_eq, rnd_eq]; omega
theorem rnd_add_l (x y : Int) : rnd (rnd x + y) = rnd (x + y) := by
  obtain ⟨k, e⟩ := rnd_ex x
  rw [e]; exact rnd_of k (by omega)
theorem rnd_add_r (x y : Int) : rnd (x + rnd y) = rnd (x + y) := by rw [Int.add_comm, rnd_add_l, Int.add_comm]
theorem rnd_sub_l (x y : Int) : rnd (rnd x - y) = rnd (x - y) := by
  obtain ⟨k, e⟩ := rnd_ex x
  rw [e]; exact rnd_of k (by omega)
theorem rnd_mul_l (x y : Int) : rnd (rnd x * y) = rnd (x * y) := by
  obtain ⟨k, e⟩ := rnd_ex x
  rw [e]; exact rnd_of (k * y) (by rw [Int.add_mul, Int.mul_assoc])
theorem rnd_mul_r (x y : Int) : rnd (x * rnd y) = rnd (x * y) := by rw [Int.mul_comm, rnd_mul_l, Int.mul_comm]
theorem rnd_div (a b : Int) (ha : intA a) : rnd (rnd (rnd (a.tdiv b) * b) + a.tmod b) = a := by
  rw [rnd_mul_l, rnd_add_l]
  have h : a.tdiv b * b + a.tmod b = a := by have := Int.tmod_add_mul_tdiv a b; rw [Int.mul_comm]; omega
  rw [h]; exact rnd_id ha
theorem rnd_comm (a b : Int) : rnd (a + b) = rnd (b + a) ∧ rnd (a * b) = rnd (b * a) := ⟨by rw [Int.add_comm], by rw [Int.mul_comm]⟩
theorem rnd_assoc (a b c : Int) : rnd (rnd (a + b) + c) = rnd (a + rnd (b + c)) := by rw [rnd_add_l, rnd_add_r, Int.add_assoc]
theorem rnd_massoc (a b c : Int) : rnd (rnd (a * b) * c) = rnd (a * rnd (b * c)) := by rw [rnd_mul_l, rnd_mul_r, Int.mul_assoc]
theorem rnd_over (a b c : Int) : rnd (a * rnd (b + c)) = rnd (rnd (a * b) + rnd (a * c)) := by rw [rnd_mul_r, rnd_add_l, rnd_add_r, Int.mul_add]
theorem rnd_back (a b : Int) (ha : intA a) : rnd (rnd (a + b) - b) = a := by rw [rnd_sub_l, Int.add_sub_cancel]; exact rnd_id ha

theorem tmod_facts (a b : Int) (hb : b ≠ 0) : (a.tmod b = 0 ∨ (a.tmod b < 0 ↔ a < 0)) ∧ (-(b.natAbs : Int) < a.tmod b ∧ a.tmod b < b.natAbs) := by
  have h1 : (a.tmod b).natAbs = a.natAbs % b.natAbs := Int.natAbs_tmod a b
  have h2 : a.natAbs % b.natAbs < b.natAbs := Nat.mod_lt _ (by omega)
  refine ⟨?_, by omega⟩
  by_cases ha : 0 ≤ a
  · have := Int.tmod_nonneg b ha
    right; omega
  · have := Int.tmod_nonneg b (by omega : 0 ≤ -a)
    rw [Int.neg_tmod] at this
    by_cases hz : a.tmod b = 0
    · exact .inl hz
    · right; omega
theorem tmod_int {a b : Int} (ha : intA a) : intA (a.tmod b) := by
  by_cases hb : b = 0
  · subst hb; rw [Int.tmod_zero]; exact ha
  have h1 : (a.tmod b).natAbs = a.natAbs % b.natAbs := Int.natAbs_tmod a b
  have h2 := Nat.mod_le a.natAbs b.natAbs
  have h3 := (tmod_facts a b hb).1
  unfold intA at *; omega
theorem tmod_lon {a b : Int} (ha : lonA a) : lonA (a.tmod b) := by
  by_cases hb : b = 0
  · subst hb; rw [Int.tmod_zero]; exact ha
  have h1 : (a.tmod b).natAbs = a.natAbs % b.natAbs := Int.natAbs_tmod a b
  have h2 := Nat.mod_le a.natAbs b.natAbs
  have h3 := (tmod_facts a b hb).1
  unfold lonA at *; omega
theorem shr_succ (a : Int) (n : Nat) : shr a n / 2 = shr a (n + 1) := by
  unfold shr
  rw [Int.ediv_ediv_of_nonneg (by exact Int.le_of_lt (Int.pow_pos (by omega))), Int.pow_succ]
theorem shr_zero (a : Int) : shr a 0 = a := by unfold shr; simp
theorem shr_between (a : Int) (n : Nat) : (0 ≤ a → 0 ≤ shr a n ∧ shr a n ≤ a) ∧ (a < 0 → a ≤ shr a n ∧ shr a n < 0) := by
  induction n with
  | zero => rw [shr_zero]; omega
  | succ n ih => rw [← shr_succ]; omega
theorem shr_int {a : Int} (ha : intA a) (n : Nat) : intA (shr a n) := by have := shr_between a n; unfold intA at *; omega
theorem shr_lon {a : Int} (ha : lonA a) (n : Nat) : lonA (shr a n) := by have := shr_between a n; unfold lonA at *; omega
theorem ite_some {c : Prop} [Decidable c] {x y : Option Int} {v : Int} {P : Prop} (h : (if c then x else y) = some v) (h1 : x = some v → P) (h2 : y = some v → P) : P := by
  by_cases hc : c
  · rw [if_pos hc] at h; exact h1 h
  · rw [if_neg hc] at h; exact h2 h
theorem op32_int {op a b v : Int} (ha : intA a) (h : op32 op a b = some v) : intA v := by
  unfold op32 at h
  repeat' (refine ite_some h (fun h => ?_) fun h => ?_)
  all_goals first | (cases h; first | exact rnd_in _ | exact tmod_int ha | exact shr_int ha _) | cases h
theorem op64_lon {op a b v : Int} (ha : lonA a) (h : op64 op a b = some v) : lonA v := by
  unfold op64 at h
  repeat' (refine ite_some h (fun h => ?_) fun h => ?_)
  all_goals first | (cases h; first | exact r64_in _ | exact tmod_lon ha | exact shr_lon ha _ | exact cmpL_lon _ _) | cases h
theorem i8_int (a : Int) : intA (IntKind.i8.wrap a) := by unfold intA; simp only [IntKind.wrap, IntKind.bits, IntKind.signed]; simp; split <;> omega
theorem i16_int (a : Int) : intA (IntKind.i16.wrap a) := by unfold intA; simp only [IntKind.wrap, IntKind.bits, IntKind.signed]; simp; split <;> omega
theorem one32_int {op a v : Int} (ha : intA a) (h : one32 op a = some v) : intA v := by
  unfold one32 at h
  repeat' (refine ite_some h (fun h => ?_) fun h => ?_)
  all_goals first | (cases h; first | exact rnd_in _ | exact ha | exact i8_int _ | exact i16_int _ | (unfold intA; omega)) | cases h
theorem intR_lon (op a b : Int) : lonA (intR op a b).1 := by
  unfold intR
  by_cases h : intA a ∧ intA b
  · rw [if_pos h]
    cases e : op32 op a b with
    | none => exact (show lonA 0 by decide)
    | some v => unfold of2; dsimp only; split
                · exact (show lonA 0 by decide)
                · exact int_lon (op32_int h.1 e)
  · rw [if_neg h]; exact (by decide)
theorem lonR_lon (op a b : Int) (ha : lonA a) : lonA (lonR op a b).1 := by
  unfold lonR
  cases e : op64 op a b with
  | none => exact (show lonA 0 by decide)
  | some v => unfold of2; dsimp only; split
              · exact (show lonA 0 by decide)
              · exact op64_lon ha e
theorem intR_int {op a b : Int} (h : (intR op a b).2 = 0) : intA (intR op a b).1 := by
  unfold intR at *
  by_cases hi : intA a ∧ intA b
  · rw [if_pos hi] at *
    cases e : op32 op a b with
    | none => rw [e] at h; exact absurd h (show ¬ (2 : Int) = 0 by decide)
    | some v =>
      rw [e] at h; unfold of2 at *; dsimp only at *; split
      · exact (by decide)
      · exact op32_int hi.1 e
  · rw [if_neg hi] at h; exact absurd h (by decide)
theorem oneR_int {op a : Int} (h : (oneR op a).2 = 0) (h7 : op ≠ 117) : intA (oneR op a).1 := by
  unfold oneR at *
  by_cases h1 : op = 117 ∨ op = 136
  · obtain rfl : op = 136 := by omega
    exact rnd_in _
  · rw [if_neg h1] at *
    by_cases hi : intA a
    · rw [if_pos hi] at *
      cases e : one32 op a with
      | none => rw [e] at h; exact absurd h (show ¬ (2 : Int) = 0 by decide)
      | some v => exact one32_int hi e
    · rw [if_neg hi] at h; exact absurd h (by decide)
end Go.Proofs.Ytfjkclolnnoklaa
