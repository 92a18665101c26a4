/- Layer 15: the walk of HeapSets. -/
import Derived.Test.YtnnanlniffjnkaaJY4
import Derived.Test.YtnnanlniffjnkaaJHpP

namespace Go.Proofs.Ytnnanlniffjnkaa
open Go.RowKit
set_option linter.unusedVariables false
set_option maxRecDepth 100000

theorem wordPost.none {w : World} {l : List Ob} {n k : Int} {e : Ending} {w' : World} (h : wordPost w l n k e w') (h0 : wordH l n k = none) : Below w.heap.size w w' ∧ e = .returned (.tuple #[.agg #[.int .i64 0, .int .i64 0], .int .i64 150]) := by
  obtain ⟨f, ⟨_, h1⟩ | ⟨v2, h1, h2⟩⟩ := h
  · exact ⟨f, h1⟩
  · rw [h0] at h1; cases h1
theorem setPost.none {w : World} {l : List Ob} {n k : Int} {v : Vl} {e : Ending} {w' : World} (h : setPost w l n k v e w') (h0 : setH l n k v = none) : Below w.heap.size w w' ∧ e = .returned (.tuple #[.slice none 0 0, .int .i64 150]) := by
  obtain ⟨f, ⟨_, h1⟩ | ⟨l2, s, rs, h1, _⟩⟩ := h
  · exact ⟨f, h1⟩
  · rw [h0] at h1; cases h1
theorem setPost.ok {w : World} {l l' : List Ob} {n k : Int} {v : Vl} {e : Ending} {w' : World} (h : setPost w l n k v e w') (h0 : setH l n k v = some l') : Below w.heap.size w w' ∧ ∃ s rs, HIn w' s rs ∧ rs.map ObR.o = l' ∧ e = .returned (.tuple #[s.v, .int .i64 0]) := by
  obtain ⟨f, ⟨h1, _⟩ | ⟨l2, s, rs, h1, h2, h3, h4⟩⟩ := h
  · rw [h0] at h1; cases h1
  · rw [h0] at h1
    injection h1 with h1
    subst h1
    exact ⟨f, s, rs, h2, h3, h4⟩
end Go.Proofs.Ytnnanlniffjnkaa
