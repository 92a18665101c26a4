/- What Put answers. -/
import Derived.Test.YtjhiflhmefhogaaPlM
import Derived.Test.YtjhiflhmefhogaaPlE
namespace Go.Proofs.Ytjhiflhmefhogaa
open Go.RowKit
set_option linter.unusedVariables false

theorem addE_len (l : List Ent) (x : Ent) : (addE l x).1.length ≤ l.length + 2 := by
  unfold addE
  split
  · show (withE l x).length ≤ _
    rw [withE_eq, List.length_append]
    split <;> simp
  · simp
/-- What Put answers. -/
structure PutE (w : World) (R : List Ent × Int × Int) (e : Ending) (W : World) : Prop where
  ex : ∃ a c, e = .returned (.tuple #[.slice a R.1.length c, .int .i64 R.2.1, .int .i64 R.2.2]) ∧ EArg W a R.1.length c R.1
  bel : Below w.heap.size w W
theorem earg_nil (W : World) : EArg W none 0 0 [] := ⟨⟨rfl, .inl rfl⟩, by omega, by omega, fun _ => ⟨rfl, rfl⟩⟩


end Go.Proofs.Ytjhiflhmefhogaa
