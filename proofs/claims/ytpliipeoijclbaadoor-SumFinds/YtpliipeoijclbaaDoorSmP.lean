/- The program's own sums: Turned refuses. -/
import Derived.Test.YtpliipeoijclbaaDoorSmQ
import Derived.Test.YtpliipeoijclbaaDoorSmP1
namespace Go.Proofs.YtpliipeoijclbaaDoor
open Go.RowKit
set_option linter.unusedVariables false

set_option maxHeartbeats 1600000 in
theorem sTurned_bad (w : World) (c : Nat) (size at_ bit : Int) (h : ¬ turnOk size at_ bit) :
    Calls Tryd.prog 16 #[.int .u32 (c : Int), .int .i64 size, .int .i64 at_, .int .i64 bit] w fun e w' => e = .returned (.tuple #[.int .u32 0, .int .i64 2]) ∧ Below w.heap.size w w' := by
  unfold turnOk at h
  by_cases h1 : size < 1
  · have g1 : decide (size < 1) = true := by simpa using h1
    go_enter Tryd.func16, Tryd.ntmps16
    go_wp2
    go_ret2
    exact ⟨rfl, Below.refl _ _⟩
  · have g1 : decide (size < 1) = false := by simpa using h1
    by_cases h2 : 65536 < size
    · have g2 : decide (65536 < size) = true := by simpa using h2
      go_enter Tryd.func16, Tryd.ntmps16
      go_wp2
      go_ret2
      exact ⟨rfl, Below.refl _ _⟩
    · have g2 : decide (65536 < size) = false := by simpa using h2
      by_cases h3 : at_ < 0
      · have g3 : decide (at_ < 0) = true := by simpa using h3
        go_enter Tryd.func16, Tryd.ntmps16
        go_wp2
        go_ret2
        exact ⟨rfl, Below.refl _ _⟩
      · have g3 : decide (at_ < 0) = false := by simpa using h3
        by_cases h4 : size ≤ at_
        · have g4 : decide (size ≤ at_) = true := by simpa using h4
          go_enter Tryd.func16, Tryd.ntmps16
          go_wp2
          go_ret2
          exact ⟨rfl, Below.refl _ _⟩
        · have g4 : decide (size ≤ at_) = false := by simpa using h4
          by_cases h5 : bit < 0
          · have g5 : decide (bit < 0) = true := by simpa using h5
            go_enter Tryd.func16, Tryd.ntmps16
            go_wp2
            go_ret2
            exact ⟨rfl, Below.refl _ _⟩
          · have g5 : decide (bit < 0) = false := by simpa using h5
            have g6 : decide (7 < bit) = true := by simp; omega
            go_enter Tryd.func16, Tryd.ntmps16
            go_wp2
            go_ret2
            exact ⟨rfl, Below.refl _ _⟩

end Go.Proofs.YtpliipeoijclbaaDoor
