/- The landed pool: a reader while a pool is read; readText, readTwo. -/
import Derived.Test.YthenefjoidckkaaGreatDoorJC
import Derived.Test.YthenefjoidckkaaGreatDoorJG

namespace Go.Proofs.YthenefjoidckkaaGreatDoor
open Go.RowKit
set_option linter.unusedVariables false

theorem kfr2_trans {F F1 : Nat → Prop} {B : Nat} {w w1 w2 : World} (f1 : Fr6 F B w w1) (f2 : Fr6 F1 B w1 w2) (hF : ∀ k, F1 k → F k ∨ w.heap.size ≤ k) : Fr6 F B w w2 :=
  ⟨f1.below.trans f2.below, fun k hk hn => (f2.other k (Nat.lt_of_lt_of_le hk f1.below.size) (fun h => (hF k h).elim hn (fun h => by omega))).trans (f1.other k hk hn)⟩
end Go.Proofs.YthenefjoidckkaaGreatDoor
