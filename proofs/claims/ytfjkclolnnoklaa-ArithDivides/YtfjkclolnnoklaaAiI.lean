/- Layer 14: the chapter's examples work. -/
import Derived.Test.YtfjkclolnnoklaaAiH
import Derived.Test.YtfjkclolnnoklaaSqA
namespace Go.Proofs.Ytfjkclolnnoklaa
open Go.RowKit
set_option linter.unusedVariables false
set_option maxRecDepth 100000

set_option maxHeartbeats 800000 in
theorem works14_any (w : World) : Calls Try.prog 13 #[] w fun e w' => e = .returned (.bool true) ∧ Below w.heap.size w w' := by
  have H1 : Hid (∀ W, Calls Try.prog 9 #[.int .i64 96, .int .i64 2147483647, .int .i64 1] W fun e w' => e = .returned (.tuple #[.int .i64 (-2147483648), .int .i64 0]) ∧ w' = W) := fun W => i14Int_any W 96 2147483647 1
  have H2 : Hid (∀ W, Calls Try.prog 9 #[.int .i64 124, .int .i64 (-1), .int .i64 28] W fun e w' => e = .returned (.tuple #[.int .i64 15, .int .i64 0]) ∧ w' = W) := fun W => i14Int_any W 124 (-1) 28
  have H3 : Hid (∀ W, Calls Try.prog 9 #[.int .i64 108, .int .i64 (-7), .int .i64 2] W fun e w' => e = .returned (.tuple #[.int .i64 (-3), .int .i64 0]) ∧ w' = W) := fun W => i14Int_any W 108 (-7) 2
  have H4 : Hid (∀ W, Calls Try.prog 9 #[.int .i64 108, .int .i64 1, .int .i64 0] W fun e w' => e = .returned (.tuple #[.int .i64 0, .int .i64 5]) ∧ w' = W) := fun W => i14Int_any W 108 1 0
  have H5 : Hid (∀ W, Calls Try.prog 11 #[.int .i64 4294967297] W fun e w' => e = .returned (.int .i64 1) ∧ w' = W) := fun W => i14Round_any W 4294967297
  go_enter Try.func13, Try.ntmps13
  go_wp2_with fail
  refine (unhide H1 _).mono ?_
  rintro e w1 ⟨rfl, rfl⟩
  go_wp2_with fail
  refine (unhide H2 _).mono ?_
  rintro e w1 ⟨rfl, rfl⟩
  go_wp2_with fail
  refine (unhide H3 _).mono ?_
  rintro e w1 ⟨rfl, rfl⟩
  go_wp2_with fail
  refine (unhide H4 _).mono ?_
  rintro e w1 ⟨rfl, rfl⟩
  go_wp2_with fail
  refine (unhide H5 _).mono ?_
  rintro e w1 ⟨rfl, rfl⟩
  go_wp2
  go_ret
  exact ⟨rfl, by first | exact Below.refl _ _ | exact Below.drew (Below.refl _ _)⟩
end Go.Proofs.Ytfjkclolnnoklaa
