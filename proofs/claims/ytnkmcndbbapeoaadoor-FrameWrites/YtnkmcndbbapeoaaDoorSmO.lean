/- Parts of bytes: a row of slices. -/
import Derived.Test.YtnkmcndbbapeoaaDoorSmR
namespace Go.Proofs.YtnkmcndbbapeoaaDoor
open Go.RowKit
set_option linter.unusedVariables false

/-- Parts: a row of slices of bytes. -/
def PartsAt (w : World) (b o : Nat) (ls : List (List UInt8)) : Prop := ∀ (j : Nat) (l : List UInt8), ls[j]? = some l → l.length ≤ 140737488351232 ∧ ∃ a cap, w.cell? ⟨b, o + j, none⟩ = some (.slice a l.length cap) ∧ Bs w a l.length l
theorem onS_parts (ls : List (List UInt8)) {k : Nat} (hk : k < ls.length) : onS 0 (ls.take (k + 1)).flatten = onS (onS 0 (ls.take k).flatten) ls[k] := by
  rw [List.take_succ_eq_append_getElem hk, List.flatten_append, onS_append]
  simp

end Go.Proofs.YtnkmcndbbapeoaaDoor
