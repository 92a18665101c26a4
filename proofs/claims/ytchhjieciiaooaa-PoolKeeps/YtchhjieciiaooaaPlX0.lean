/- Entries that fit. -/
import Derived.Test.YtchhjieciiaooaaPlE
namespace Go.Proofs.Ytchhjieciiaooaa
open Go.RowKit
set_option linter.unusedVariables false

def EntsFit7 (l : List Ent) : Prop := (∀ x ∈ l, x.text.length ≤ 140737488355328) ∧ ∀ x ∈ l, EntFit x
theorem fit0 : EntFit ent0 := by
  refine ⟨?_, ?_, ?_, ?_⟩ <;> decide
theorem EntsFit7.more {l : List Ent} {x : Ent} (h : EntsFit7 l) (hx : EntFit x ∧ x.text.length ≤ 1000000) : EntsFit7 (withE l x) := by
  rw [withE_eq]
  refine ⟨fun y hy => ?_, fun y hy => ?_⟩
  · rcases List.mem_append.1 hy with hy | hy
    · exact h.1 y hy
    · split at hy
      · simp at hy
        rcases hy with rfl | rfl
        · omega
        · decide
      · simp at hy
        subst hy
        omega
  · rcases List.mem_append.1 hy with hy | hy
    · exact h.2 y hy
    · split at hy
      · simp at hy
        rcases hy with rfl | rfl
        · exact hx.1
        · exact fit0
      · simp at hy
        subst hy
        exact hx.1

end Go.Proofs.Ytchhjieciiaooaa
