/- The document's own pool: utf, right. -/
import Derived.Test.YtjhiflhmefhogaaPlO
namespace Go.Proofs.Ytjhiflhmefhogaa
open Go.RowKit
set_option linter.unusedVariables false

def cstV (c : Cst) : Value := .agg #[.int .i64 c.tag, .int .i64 c.n, .string ⟨c.cls.toArray⟩, .string ⟨c.name.toArray⟩, .string ⟨c.type.toArray⟩]
theorem cstC {w : World} {q : Nat} {x : Cst} {T : TypeId} {f : Nat × Nat} (h : w.heap[q]? = some (.cells #[.int .i64 x.tag, .int .i64 x.n, .string ⟨x.cls.toArray⟩, .string ⟨x.name.toArray⟩, .string ⟨x.type.toArray⟩] T f)) :
    w.cell? ⟨q, 0, none⟩ = some (.int .i64 x.tag) ∧ w.cell? ⟨q, 1, none⟩ = some (.int .i64 x.n) ∧ w.cell? ⟨q, 2, none⟩ = some (.string ⟨x.cls.toArray⟩) ∧ w.cell? ⟨q, 3, none⟩ = some (.string ⟨x.name.toArray⟩) ∧ w.cell? ⟨q, 4, none⟩ = some (.string ⟨x.type.toArray⟩) :=
  ⟨by rw [cell_of_row _ _ _ _ _ _ h]; rfl, by rw [cell_of_row _ _ _ _ _ _ h]; rfl, by rw [cell_of_row _ _ _ _ _ _ h]; rfl, by rw [cell_of_row _ _ _ _ _ _ h]; rfl, by rw [cell_of_row _ _ _ _ _ _ h]; rfl⟩
def CstFit (c : Cst) : Prop := (-9223372036854775808 ≤ c.tag ∧ c.tag ≤ 9223372036854775807) ∧ (-9223372036854775808 ≤ c.n ∧ c.n ≤ 9223372036854775807) ∧ c.cls.length ≤ 140737488355328 ∧ c.name.length ≤ 140737488355328 ∧ c.type.length ≤ 140737488355328

end Go.Proofs.Ytjhiflhmefhogaa
