/- Layer 15: the walk of HeapChanges. -/
import Derived.Test.YtnnanlniffjnkaaJHqC0
import Derived.Test.YtnnanlniffjnkaaJHqC1
import Derived.Test.YtnnanlniffjnkaaJY4

namespace Go.Proofs.Ytnnanlniffjnkaa
open Go.RowKit
set_option linter.unusedVariables false
set_option maxRecDepth 100000

/-- What is told: nothing, where there is an answer. -/
def errO {α : Type} : Option α → Int
  | none => 150
  | some _ => 0
theorem setPost.both {w : World} {l : List Ob} {n k : Int} {v : Vl} {e : Ending} {w' : World} (h : setPost w l n k v e w') : Below w.heap.size w w' ∧ ∃ s rs, HIn w' s rs ∧ rs.map ObR.o = (setH l n k v).getD [] ∧ e = .returned (.tuple #[s.v, .int .i64 (errO (setH l n k v))]) := by
  obtain ⟨f, ⟨h1, h2⟩ | ⟨l', s, rs, h1, h2, h3, h4⟩⟩ := h
  · exact ⟨f, ⟨none, 0, 0⟩, [], hIn_nil _, by rw [h1]; rfl, by rw [h1]; exact h2⟩
  · exact ⟨f, s, rs, h2, by rw [h1, h3]; rfl, by rw [h1]; exact h4⟩
theorem freePost.both {w : World} {l : List Ob} {n : Int} {e : Ending} {w' : World} (h : freePost w l n e w') : Below w.heap.size w w' ∧ ∃ s rs, HIn w' s rs ∧ rs.map ObR.o = (freeH l n).getD [] ∧ e = .returned (.tuple #[s.v, .int .i64 (errO (freeH l n))]) := by
  obtain ⟨f, ⟨h1, h2⟩ | ⟨l', s, rs, h1, h2, h3, h4⟩⟩ := h
  · exact ⟨f, ⟨none, 0, 0⟩, [], hIn_nil _, by rw [h1]; rfl, by rw [h1]; exact h2⟩
  · exact ⟨f, s, rs, h2, by rw [h1, h3]; rfl, by rw [h1]; exact h4⟩
theorem light_in {l : List Ob} (h : lightB l = true) : l.length ≤ 5000 ∧ wordsH l ≤ 70000 := by
  unfold lightB at h
  simpa using h
end Go.Proofs.Ytnnanlniffjnkaa
