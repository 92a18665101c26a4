/- The landed class: names in memory; hasClass, hasTexts, tagAt, isUpTo. -/
import Derived.Test.YthenefjoidckkaaGreatDoorJL4
import Derived.Test.YthenefjoidckkaaGreatDoorJTxA
import Derived.Test.YthenefjoidckkaaGreatDoorJC
import Derived.Maps.OwnSet

namespace Go.Proofs.YthenefjoidckkaaGreatDoor
open Go.RowKit Go.Maps
set_option linter.unusedVariables false
set_option maxRecDepth 100000

/-- A map of numbers of texts at block m: f tells them. -/
def MapIs (w : World) (m : Nat) (f : List UInt8 → Nat) : Prop := ∃ N D, w.ownsMap Tryz.prog 9 (plainElem (H := Unit) Tryz.prog 3) m N D ∧ ∀ s, D.atKey (.string s) (.lit (.int .i64 0)) = .lit (.int .i64 (f s : Int))
theorem MapIs.keep {w w' : World} {m : Nat} {f : List UInt8 → Nat} (h : MapIs w m f) (e : w'.heap[m]? = w.heap[m]?) : MapIs w' m f := by
  obtain ⟨N, D, ⟨es, clock, h1, h2⟩, h3⟩ := h
  exact ⟨N, D, ⟨es, clock, e.trans h1, h2⟩, h3⟩
theorem MapIs.lt {w : World} {m : Nat} {f : List UInt8 → Nat} (h : MapIs w m f) : m < w.heap.size := by
  obtain ⟨N, D, h1, _⟩ := h
  exact h1.lt
end Go.Proofs.YthenefjoidckkaaGreatDoor
