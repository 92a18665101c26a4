/- Layer 14: the document's Long, One, If (written by mk/mkaig.py). -/
import Derived.Test.YtfjkclolnnoklabAiF
namespace Go.Proofs.Ytfjkclolnnoklab
open Go.RowKit
set_option linter.unusedVariables false
set_option maxRecDepth 100000

theorem tdiv_m1 (a : Int) : a.tdiv (-1) = 0 - a := by rw [Int.tdiv_neg, Int.tdiv_one]; omega
theorem tmod_m1 (a : Int) : a.tmod (-1) = 0 := by have := Int.tmod_add_mul_tdiv a (-1); rw [tdiv_m1] at this; omega
theorem i8_is (a : Int) : IntKind.i8.wrap a = if 128 ≤ a % 256 then a % 256 - 256 else a % 256 := by
  simp only [IntKind.wrap, IntKind.bits, IntKind.signed]; simp
theorem i16_is (a : Int) : IntKind.i16.wrap a = if 32768 ≤ a % 65536 then a % 65536 - 65536 else a % 65536 := by
  simp only [IntKind.wrap, IntKind.bits, IntKind.signed]; simp
end Go.Proofs.Ytfjkclolnnoklab
