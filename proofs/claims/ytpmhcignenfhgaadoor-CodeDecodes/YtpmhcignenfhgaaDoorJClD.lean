/- Classes held against one another: SameFields, SameHandlers, SameTypes, SameMaps. -/
import Derived.Test.YtpmhcignenfhgaaDoorJClC
import Derived.Test.YtpmhcignenfhgaaDoorJPlT

namespace Go.Proofs.YtpmhcignenfhgaaDoor
open Go.RowKit
set_option linter.unusedVariables false

/-- The cells of record k. -/
def RowAt (w : World) (b o : Nat) (vs : List Value) : Prop := ∀ (q : Nat) (u : Value), vs[q]? = some u → w.cell? ⟨b, o + q, none⟩ = some u
theorem RowAt.zero {w : World} {b o : Nat} {v : Value} {vs : List Value} (h : RowAt w b o (v :: vs)) : w.cell? ⟨b, o, none⟩ = some v := h 0 v rfl
theorem Ls.row {α : Type} {sz : Nat} {cs : α → List Value} {w w' : World} {a : Option Addr} {n : Nat} {l : List α} (h : Ls sz cs w a n l) (hn : n ≠ 0) : ∃ b o, a = some ⟨b, o, none⟩ ∧ ∀ {w' : World}, Below w.heap.size w w' → ∀ (k : Nat) (x : α), l[k]? = some x → RowAt w' b (o + k * sz) (cs x) := by
  rcases h.2 with h0 | ⟨b, o, e, hb, hc⟩
  · exact absurd h0 hn
  · exact ⟨b, o, e, fun f k x hx q u hu => (f.cell hb).trans (hc k x hx q u hu)⟩

end Go.Proofs.YtpmhcignenfhgaaDoor
