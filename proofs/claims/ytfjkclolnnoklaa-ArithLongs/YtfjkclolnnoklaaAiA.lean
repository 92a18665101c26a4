/- Layer 14: numbers of 32 and 64 bits as plain values. -/
import Derived.Test.YtfjkclolnnoklaaBsA
import Derived.Laws.Bits64
import Derived.Laws.BitsAllLaws
namespace Go.Proofs.Ytfjkclolnnoklaa
open Go.RowKit
set_option linter.unusedVariables false
set_option maxRecDepth 100000

def intA (n : Int) : Prop := -2147483648 ≤ n ∧ n ≤ 2147483647
def lonA (n : Int) : Prop := -9223372036854775808 ≤ n ∧ n ≤ 9223372036854775807
instance (n : Int) : Decidable (intA n) := by unfold intA; infer_instance
instance (n : Int) : Decidable (lonA n) := by unfold lonA; infer_instance
def rnd (a : Int) : Int := IntKind.i32.wrap a
def r64 (a : Int) : Int := IntKind.i64.wrap a
theorem rnd_eq (a : Int) : rnd a = (a + 2147483648) % 4294967296 - 2147483648 := IntKind.wrap_i32 a
theorem r64_eq (a : Int) : r64 a = (a + 9223372036854775808) % 18446744073709551616 - 9223372036854775808 := IntKind.wrap_i64 a
theorem rnd_in (a : Int) : intA (rnd a) := by rw [rnd_eq]; unfold intA; omega
theorem r64_in (a : Int) : lonA (r64 a) := by rw [r64_eq]; unfold lonA; omega
theorem rnd_id {a : Int} (h : intA a) : rnd a = a := by rw [rnd_eq]; unfold intA at h; omega
theorem r64_id {a : Int} (h : lonA a) : r64 a = a := by rw [r64_eq]; unfold lonA at h; omega
theorem int_lon {a : Int} (h : intA a) : lonA a := by unfold intA at h; unfold lonA; omega
theorem rnd_lon (a : Int) : lonA (rnd a) := int_lon (rnd_in a)
theorem rnd_ref (a : Int) : rnd a = (if a.tmod 4294967296 < 0 then (if 2147483648 ≤ a.tmod 4294967296 + 4294967296 then a.tmod 4294967296 + 4294967296 - 4294967296 else a.tmod 4294967296 + 4294967296) else (if 2147483648 ≤ a.tmod 4294967296 then a.tmod 4294967296 - 4294967296 else a.tmod 4294967296)) := by
  rw [rnd_eq]
  have h : a.tmod 4294967296 = a - 4294967296 * a.tdiv 4294967296 := by have := Int.tmod_add_mul_tdiv a 4294967296; omega
  have h2 := Int.tmod_lt_of_pos a (by omega : (0 : Int) < 4294967296)
  have h3 : -4294967296 < a.tmod 4294967296 := by have := Int.lt_tmod_of_pos a (by omega : (0 : Int) < 4294967296); omega
  generalize a.tdiv 4294967296 = q at *
  generalize a.tmod 4294967296 = r at *
  subst h
  by_cases c : a - 4294967296 * q < 0
  · rw [if_pos c]; by_cases d : 2147483648 ≤ a - 4294967296 * q + 4294967296
    · rw [if_pos d]; omega
    · rw [if_neg d]; omega
  · rw [if_neg c]; by_cases d : 2147483648 ≤ a - 4294967296 * q
    · rw [if_pos d]; omega
    · rw [if_neg d]; omega

/-- By a number of places, to the left and to the right. -/
def shl (a : Int) (n : Nat) : Int := a * 2 ^ n
def shr (a : Int) (n : Nat) : Int := a / 2 ^ n
def u32 (a : Int) : Int := a % 4294967296
def u64 (a : Int) : Int := a % 18446744073709551616
/-- And, or, xor of naturals. -/
def bitN (k : Nat) (x y : Nat) : Nat := if k = 0 then x &&& y else if k = 1 then x ||| y else x ^^^ y
def bit1 (k : Nat) (p q : Bool) : Bool := if k = 0 then p && q else if k = 1 then p || q else p != q
theorem bitN_test (k x y i : Nat) : (bitN k x y).testBit i = bit1 k (x.testBit i) (y.testBit i) := by
  unfold bitN bit1
  by_cases h : k = 0
  · rw [if_pos h, if_pos h, Nat.testBit_and]
  · rw [if_neg h, if_neg h]
    by_cases h1 : k = 1
    · rw [if_pos h1, if_pos h1, Nat.testBit_or]
    · rw [if_neg h1, if_neg h1, Nat.testBit_xor, Bool.xor]
      
theorem bitN_succ (k x y i : Nat) : bitN k x y % 2 ^ (i + 1) = bitN k x y % 2 ^ i + (if bit1 k (decide (x / 2 ^ i % 2 = 1)) (decide (y / 2 ^ i % 2 = 1)) = true then 2 ^ i else 0) := by
  have h := bitN_test k x y i
  rw [Nat.testBit_eq_decide_div_mod_eq, Nat.testBit_eq_decide_div_mod_eq, Nat.testBit_eq_decide_div_mod_eq] at h
  rw [← h, Nat.pow_succ, Nat.mod_mul]
  rcases Nat.mod_two_eq_zero_or_one (bitN k x y / 2 ^ i) with e | e <;> simp [e]
theorem bitN_mod (k x y n : Nat) : bitN k x y % 2 ^ n = bitN k (x % 2 ^ n) (y % 2 ^ n) := by
  unfold bitN
  by_cases h : k = 0
  · rw [if_pos h, if_pos h, Nat.and_mod_two_pow]
  · rw [if_neg h, if_neg h]
    by_cases h1 : k = 1
    · rw [if_pos h1, if_pos h1, Nat.or_mod_two_pow]
    · rw [if_neg h1, if_neg h1, Nat.xor_mod_two_pow]
/-- The bits of two numbers of n bits. -/
def bitZ (k n : Nat) (a b : Int) : Nat := bitN k (a % 2 ^ n).toNat (b % 2 ^ n).toNat
theorem bitZ_and (n : Nat) (a b : Int) : (BitVec.ofInt n a &&& BitVec.ofInt n b).toNat = bitZ 0 n a b := by
  rw [BitVec.toNat_and, BitVec.toNat_ofInt, BitVec.toNat_ofInt]; simp [bitZ, bitN]
theorem bitZ_or (n : Nat) (a b : Int) : (BitVec.ofInt n a ||| BitVec.ofInt n b).toNat = bitZ 1 n a b := by
  rw [BitVec.toNat_or, BitVec.toNat_ofInt, BitVec.toNat_ofInt]; simp [bitZ, bitN]
theorem bitZ_xor (n : Nat) (a b : Int) : (BitVec.ofInt n a ^^^ BitVec.ofInt n b).toNat = bitZ 2 n a b := by
  rw [BitVec.toNat_xor, BitVec.toNat_ofInt, BitVec.toNat_ofInt]; simp [bitZ, bitN]
theorem bitN_lt (k n x y : Nat) (hx : x < 2 ^ n) (hy : y < 2 ^ n) : bitN k x y < 2 ^ n := by
  unfold bitN
  by_cases h : k = 0
  · rw [if_pos h]; exact Nat.lt_of_le_of_lt Nat.and_le_left hx
  · rw [if_neg h]
    by_cases h1 : k = 1
    · rw [if_pos h1]; exact Nat.or_lt_two_pow hx hy
    · rw [if_neg h1]; exact Nat.xor_lt_two_pow hx hy
theorem emod_lt (a : Int) (n : Nat) : (a % 2 ^ n).toNat < 2 ^ n := by
  have h0 : (0 : Int) < 2 ^ n := Int.pow_pos (by omega)
  have h1 := Int.emod_nonneg a (by omega : (2 : Int) ^ n ≠ 0)
  have h2 := Int.emod_lt_of_pos a h0
  have h3 : ((2 ^ n : Nat) : Int) = (2 : Int) ^ n := by norm_cast
  omega
theorem bitZ_lt (k n : Nat) (a b : Int) : bitZ k n a b < 2 ^ n := bitN_lt _ _ _ _ (emod_lt a n) (emod_lt b n)
/-- What the reference reckons, of numbers of 64 bits, the first 32 of them. -/
theorem bitZ_64_32 (k : Nat) (a b : Int) : bitZ k 64 a b % 2 ^ 32 = bitZ k 32 a b := by
  have h : ∀ a : Int, (a % 2 ^ 64).toNat % 2 ^ 32 = (a % 2 ^ 32).toNat := fun a => by
    have e1 : (2 : Int) ^ 64 = 18446744073709551616 := by decide
    have e2 : (2 : Int) ^ 32 = 4294967296 := by decide
    have e3 : (2 : Nat) ^ 32 = 4294967296 := by decide
    rw [e1, e2, e3]; omega
  unfold bitZ
  rw [bitN_mod, h, h]
/-- The lowest bits of a number, and with 31, with 63. -/
theorem and31 (b : Int) : (bitZ 0 32 b 31 : Int) = b % 32 := by
  have e : ((31 : Int) % 2 ^ 32).toNat = 2 ^ 5 - 1 := by decide
  unfold bitZ bitN
  rw [if_pos rfl, e, Nat.and_two_pow_sub_one_eq_mod]
  have e2 : (2 : Int) ^ 32 = 4294967296 := by decide
  rw [e2]; omega
theorem and63 (b : Int) : (bitZ 0 64 b 63 : Int) = b % 64 := by
  have e : ((63 : Int) % 2 ^ 64).toNat = 2 ^ 6 - 1 := by decide
  unfold bitZ bitN
  rw [if_pos rfl, e, Nat.and_two_pow_sub_one_eq_mod]
  have e2 : (2 : Int) ^ 64 = 18446744073709551616 := by decide
  rw [e2]; omega

/-- What an operation of two ints, of two longs comes to; none where there is none. -/
def op32 (op a b : Int) : Option Int :=
  if op = 96 then some (rnd (a + b)) else if op = 100 then some (rnd (a - b)) else if op = 104 then some (rnd (a * b)) else if op = 108 then some (rnd (a.tdiv b)) else if op = 112 then some (a.tmod b)
  else if op = 120 then some (rnd (shl a (b % 32).toNat)) else if op = 122 then some (shr a (b % 32).toNat) else if op = 124 then some (rnd (shr (u32 a) (b % 32).toNat))
  else if op = 126 then some (rnd (bitZ 0 32 a b)) else if op = 128 then some (rnd (bitZ 1 32 a b)) else if op = 130 then some (rnd (bitZ 2 32 a b)) else none
def cmpL (a b : Int) : Int := if a < b then -1 else if b < a then 1 else 0
theorem cmpL_lon (a b : Int) : lonA (cmpL a b) := by
  unfold cmpL
  by_cases h : a < b
  · rw [if_pos h]; decide
  · rw [if_neg h]
    by_cases h2 : b < a
    · rw [if_pos h2]; decide
    · rw [if_neg h2]; decide
def op64 (op a b : Int) : Option Int :=
  if op = 97 then some (r64 (a + b)) else if op = 101 then some (r64 (a - b)) else if op = 105 then some (r64 (a * b)) else if op = 109 then some (r64 (a.tdiv b)) else if op = 113 then some (a.tmod b)
  else if op = 121 then some (r64 (shl a (b % 64).toNat)) else if op = 123 then some (shr a (b % 64).toNat) else if op = 125 then some (r64 (shr (u64 a) (b % 64).toNat))
  else if op = 127 then some (r64 (bitZ 0 64 a b)) else if op = 129 then some (r64 (bitZ 1 64 a b)) else if op = 131 then some (r64 (bitZ 2 64 a b))
  else if op = 148 then some (cmpL a b) else none
def of2 (o : Option Int) (dv : Prop) [Decidable dv] (b : Int) : Int × Int := match o with | none => (0, 2) | some v => if dv ∧ b = 0 then (0, 5) else (v, 0)
def intR (op a b : Int) : Int × Int := if intA a ∧ intA b then of2 (op32 op a b) (op = 108 ∨ op = 112) b else (0, 2)
def lonR (op a b : Int) : Int × Int := of2 (op64 op a b) (op = 109 ∨ op = 113) b
def one32 (op a : Int) : Option Int := if op = 116 then some (rnd (0 - a)) else if op = 133 then some a else if op = 145 then some (IntKind.i8.wrap a) else if op = 146 then some (a % 65536) else if op = 147 then some (IntKind.i16.wrap a) else none
def one64 (op a : Int) : Option Int := if op = 117 then some (r64 (0 - a)) else if op = 136 then some (rnd a) else none
def of1 (o : Option Int) : Int × Int := match o with | none => (0, 2) | some v => (v, 0)
def oneR (op a : Int) : Int × Int := if op = 117 ∨ op = 136 then of1 (one64 op a) else if intA a then of1 (one32 op a) else (0, 2)
def cond32 (op a b : Int) : Option Bool :=
  if op = 153 ∨ op = 159 then some (decide (a = b)) else if op = 154 ∨ op = 160 then some (decide (a ≠ b)) else if op = 155 ∨ op = 161 then some (decide (a < b)) else if op = 156 ∨ op = 162 then some (decide (b ≤ a)) else if op = 157 ∨ op = 163 then some (decide (b < a)) else if op = 158 ∨ op = 164 then some (decide (a ≤ b)) else none
def ifV : Option Bool → Bool × Int
  | none => (false, 2)
  | some v => (v, 0)
def ifR (op a b : Int) : Bool × Int := if intA a ∧ intA b then ifV (cond32 op a (if op < 159 then 0 else b)) else (false, 2)
end Go.Proofs.Ytfjkclolnnoklaa
