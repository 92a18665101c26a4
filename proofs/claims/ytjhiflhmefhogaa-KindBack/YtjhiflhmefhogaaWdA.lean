/- Numbers in bytes, as plain values. -/
import Derived.Test.YtjhiflhmefhogaaBsA
namespace Go.Proofs.Ytjhiflhmefhogaa
open Go.RowKit
set_option linter.unusedVariables false

/-- The number that bytes are, the highest first. -/
def numB (l : List UInt8) : Nat := l.foldl (fun a x => a * 256 + x.toNat) 0
theorem numB_from (l : List UInt8) : ∀ a, l.foldl (fun a x => a * 256 + x.toNat) a = a * 256 ^ l.length + numB l := by
  unfold numB
  induction l with
  | nil => intro a; simp
  | cons x l ih =>
    intro a
    rw [List.foldl_cons, List.foldl_cons, ih, ih (0 * 256 + x.toNat)]
    simp only [List.length_cons, Nat.pow_succ]
    rw [Nat.add_mul, Nat.mul_assoc, Nat.mul_comm 256 (256 ^ l.length), Nat.zero_mul, Nat.zero_add]
    omega
theorem numB_snoc (l : List UInt8) (x : UInt8) : numB (l ++ [x]) = numB l * 256 + x.toNat := by
  unfold numB
  rw [List.foldl_append]
  rfl
theorem snoc_ind {P : List UInt8 → Prop} (h0 : P []) (h1 : ∀ l x, P l → P (l ++ [x])) (l : List UInt8) : P l := by
  have h : ∀ l : List UInt8, P l.reverse := fun l => by
    induction l with
    | nil => exact h0
    | cons x l ih => rw [List.reverse_cons]; exact h1 _ _ ih
  have := h l.reverse
  rwa [List.reverse_reverse] at this
theorem numB_lt (l : List UInt8) : numB l < 256 ^ l.length := by
  refine snoc_ind (P := fun l => numB l < 256 ^ l.length) (by simp [numB]) (fun l x ih => ?_) l
  · rw [numB_snoc, List.length_append, List.length_singleton, Nat.pow_succ]
    have := x.toNat_lt
    omega
/-- A number's bytes, so many. -/
def beK : Nat → Nat → List UInt8
  | 0, _ => []
  | k + 1, x => beK k (x / 256) ++ [UInt8.ofNat x]
theorem beK_len (k : Nat) : ∀ x, (beK k x).length = k := by
  induction k with
  | zero => intro x; rfl
  | succ k ih => intro x; rw [beK, List.length_append, ih, List.length_singleton]
theorem numB_beK (k : Nat) : ∀ x, numB (beK k x) = x % 256 ^ k := by
  induction k with
  | zero => intro x; rw [beK, Nat.pow_zero, Nat.mod_one]; rfl
  | succ k ih =>
    intro x
    rw [beK, numB_snoc, ih, Nat.pow_succ, Nat.mul_comm (256 ^ k) 256, Nat.mod_mul]
    have : (UInt8.ofNat x).toNat = x % 256 := by simp
    omega
/-- Bytes are those of their number. -/
theorem beK_numB (l : List UInt8) : beK l.length (numB l) = l := by
  refine snoc_ind (P := fun l => beK l.length (numB l) = l) rfl (fun l x ih => ?_) l
  · rw [List.length_append, List.length_singleton, beK, numB_snoc]
    have hx := x.toNat_lt
    have h1 : (numB l * 256 + x.toNat) / 256 = numB l := by omega
    have h2 : UInt8.ofNat (numB l * 256 + x.toNat) = x := by
      apply UInt8.toNat_inj.1
      simp
    rw [h1, h2, ih]

def wide (k : Int) : Prop := k = 1 ∨ k = 2 ∨ k = 4 ∨ k = 8
instance (k : Int) : Decidable (wide k) := by unfold wide; infer_instance
/-- Does a number fit so many bytes? -/
def fitsW (k n : Int) (sg : Bool) : Prop := wide k ∧ (if k = 8 then sg = true ∨ 0 ≤ n else if sg = true then -((256 ^ k.toNat : Nat) : Int) ≤ 2 * n ∧ 2 * n < ((256 ^ k.toNat : Nat) : Int) else 0 ≤ n ∧ n < ((256 ^ k.toNat : Nat) : Int))
instance (k n : Int) (sg : Bool) : Decidable (fitsW k n sg) := by unfold fitsW; infer_instance
def bytesW (k n : Int) : List UInt8 := beK k.toNat (n % 18446744073709551616).toNat
theorem bytesW_len (k n : Int) : (bytesW k n).length = k.toNat := beK_len _ _
/-- What bytes tell; none: it is too great. -/
def valW (l : List UInt8) (sg : Bool) : Option Int :=
  if l.length = 8 then
    if sg = true then some (if numB l < 9223372036854775808 then (numB l : Int) else (numB l : Int) - 18446744073709551616)
    else if numB l < 9223372036854775808 then some (numB l : Int) else none
  else if sg = true ∧ 256 ^ l.length ≤ 2 * numB l then some ((numB l : Int) - ((256 ^ l.length : Nat) : Int)) else some (numB l : Int)
theorem wide_nat {k : Int} (h : wide k) : ∃ m : Nat, k = m ∧ (m = 1 ∨ m = 2 ∨ m = 4 ∨ m = 8) := by
  rcases h with rfl | rfl | rfl | rfl
  · exact ⟨1, rfl, by simp⟩
  · exact ⟨2, rfl, by simp⟩
  · exact ⟨4, rfl, by simp⟩
  · exact ⟨8, rfl, by simp⟩
/-- What is written is read. -/
theorem val_bytes {k n : Int} {sg : Bool} (h : fitsW k n sg) (hn : -9223372036854775808 ≤ n ∧ n ≤ 9223372036854775807) : valW (bytesW k n) sg = some n := by
  obtain ⟨hw, hf⟩ := h
  unfold valW
  rw [bytesW_len]
  unfold bytesW
  rw [numB_beK]
  rcases hw with rfl | rfl | rfl | rfl
  · rw [if_neg (by decide)] at hf
    cases sg with
    | false =>
      simp at hf ⊢
      omega
    | true =>
      simp at hf ⊢
      split
      · congr 1; omega
      · congr 1; omega
  · rw [if_neg (by decide)] at hf
    cases sg with
    | false =>
      simp at hf ⊢
      omega
    | true =>
      simp at hf ⊢
      split
      · congr 1; omega
      · congr 1; omega
  · rw [if_neg (by decide)] at hf
    cases sg with
    | false =>
      simp at hf ⊢
      omega
    | true =>
      simp at hf ⊢
      split
      · congr 1; omega
      · congr 1; omega
  · rw [if_pos rfl] at hf
    cases sg with
    | false =>
      simp at hf ⊢
      omega
    | true =>
      simp at hf ⊢
      split
      · omega
      · omega

/-- Read: the value, the error, where the reader stands then. -/
def getW (bs : List UInt8) (i : Nat) (k : Int) (sg : Bool) : Int × Int × Nat :=
  if wide k then
    if (bs.length : Int) - i < k then (0, 7, i)
    else match valW ((bs.drop i).take k.toNat) sg with
      | none => (0, 3, i)
      | some n => (n, 0, i + k.toNat)
  else (0, 2, i)
def takeW (bs : List UInt8) (i : Nat) (n : Int) : List UInt8 × Int × Nat :=
  if n < 0 then ([], 2, i) else if (bs.length : Int) - i < n then ([], 7, i) else ((bs.drop i).take n.toNat, 0, i + n.toNat)
def putW (bs : List UInt8) (k : Int) (sg : Bool) (l : List Int) : List UInt8 × Int :=
  if wide k ∧ ∀ n ∈ l, fitsW k n sg then (bs ++ l.flatMap (bytesW k), 0) else (bs, 2)
def patchW (bs : List UInt8) (at_ k n : Int) : List UInt8 × Int :=
  if fitsW k n false ∧ 0 ≤ at_ ∧ at_ ≤ (bs.length : Int) - k then (bs.take at_.toNat ++ bytesW k n ++ bs.drop (at_.toNat + k.toNat), 0) else (bs, 2)
theorem getW_le {bs : List UInt8} {i : Nat} {k : Int} {sg : Bool} (h : i ≤ bs.length) : (getW bs i k sg).2.2 ≤ bs.length := by
  unfold getW
  split
  · rename_i hw
    obtain ⟨m, rfl, _⟩ := wide_nat hw
    split
    · exact h
    · split
      · exact h
      · show i + (m : Int).toNat ≤ bs.length
        omega
  · exact h
theorem takeW_le {bs : List UInt8} {i : Nat} {n : Int} (h : i ≤ bs.length) : (takeW bs i n).2.2 ≤ bs.length := by
  unfold takeW
  split
  · exact h
  · split
    · exact h
    · show i + n.toNat ≤ bs.length
      omega

end Go.Proofs.Ytjhiflhmefhogaa
