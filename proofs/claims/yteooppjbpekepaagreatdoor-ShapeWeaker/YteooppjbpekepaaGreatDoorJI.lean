/- The landed pool: a reader while a pool is read; readText, readTwo. -/
import Derived.Test.YteooppjbpekepaaGreatDoorJC
import Derived.Test.YteooppjbpekepaaGreatDoorJG

namespace Go.Proofs.YteooppjbpekepaaGreatDoor
open Go.RowKit
set_option linter.unusedVariables false

theorem kfr2_trans {F F1 : Nat → Prop} {B : Nat} {w w1 w2 : World} (f1 : Fr6 F B w w1) (f2 : Fr6 F1 B w1 w2) (hF : ∀ k, F1 k → F k ∨ w.heap.size ≤ k) : Fr6 F B w w2 :=
  ⟨f1.below.trans f2.below, fun k hk hn => (f2.other k (Nat.lt_of_lt_of_le hk f1.below.size) (fun h => (hF k h).elim hn (fun h => by omega))).trans (f1.other k hk hn)⟩
/-- The text that comes, behind its length. -/
def textR (bs : List UInt8) (i : Nat) : List UInt8 × Int × Nat :=
  if (getW bs i 2 false).2.1 ≠ 0 then ([], (getW bs i 2 false).2) else takeW bs (getW bs i 2 false).2.2 (getW bs i 2 false).1
/-- Two numbers that come. -/
def twoR (bs : List UInt8) (i : Nat) : Int × Int × Int × Nat :=
  if (getW bs i 2 false).2.1 ≠ 0 then (0, 0, (getW bs i 2 false).2) else ((getW bs i 2 false).1, (getW bs (getW bs i 2 false).2.2 2 false).1, (getW bs (getW bs i 2 false).2.2 2 false).2)
theorem kgetW_rng {b : List UInt8} {i : Nat} {k : Int} {sg : Bool} : -9223372036854775808 ≤ (getW b i k sg).1 ∧ (getW b i k sg).1 ≤ 9223372036854775807 := by
  unfold getW
  split
  · rename_i hw
    split
    · show (-9223372036854775808 : Int) ≤ 0 ∧ (0 : Int) ≤ _
      omega
    · cases hv : valW ((b.drop i).take k.toNat) sg with
      | none =>
        show (-9223372036854775808 : Int) ≤ 0 ∧ (0 : Int) ≤ _
        omega
      | some n =>
        show (-9223372036854775808 : Int) ≤ n ∧ n ≤ _
        have hlt := numB_lt ((b.drop i).take k.toNat)
        have hl : ((b.drop i).take k.toNat).length ≤ k.toNat := by rw [List.length_take]; omega
        unfold valW at hv
        split at hv
        · rename_i h8
          rw [h8] at hlt
          split at hv
          · injection hv with hv
            split at hv <;> omega
          · split at hv
            · injection hv with hv
              omega
            · cases hv
        · rename_i h8
          have h7 : ((b.drop i).take k.toNat).length ≤ 7 := by
            obtain ⟨m, rfl, hm⟩ := wide_nat hw
            omega
          have hp := Nat.pow_le_pow_right (n := 256) (by omega) h7
          split at hv
          · injection hv with hv
            omega
          · injection hv with hv
            omega
  · show (-9223372036854775808 : Int) ≤ 0 ∧ (0 : Int) ≤ _
    omega

end Go.Proofs.YteooppjbpekepaaGreatDoor
