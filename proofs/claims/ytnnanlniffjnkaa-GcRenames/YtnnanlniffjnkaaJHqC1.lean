/- Layer 15, the document's side: Free (written by mk/mkhqc.py). -/
import Derived.Test.YtnnanlniffjnkaaJHqD
import Derived.Test.YtnnanlniffjnkaaJHpS

namespace Go.Proofs.Ytnnanlniffjnkaa
open Go.RowKit
set_option linter.unusedVariables false
set_option maxRecDepth 100000

/-- Between two rounds of Free. -/
structure Fq15 (w : World) (g m c : Nat) (L : List ObR) (k : Nat) (W : World) : Prop where
  few : k ≤ m
  own : HOwn W w.heap.size (.slice (some ⟨g, 0, none⟩) k c) (L.take k)
  same : trimH ((L.take k).map ObR.o) = trimH (L.map ObR.o)
  bel : Below w.heap.size w W
theorem Fq15.on {w W W2 : World} {g m c k : Nat} {L : List ObR} (h : Fq15 w g m c L k W) (f : Below W.heap.size W W2) : Fq15 w g m c L k W2 := ⟨h.few, h.own.below f, h.same, h.bel.trans (f.mono h.bel.size)⟩
theorem Fq15.next {w W : World} {g m c j : Nat} {L : List ObR} (h : Fq15 w g m c L (j + 1) W) (hL : L.length = m) (he : endsH ((L.take (j + 1)).map ObR.o) = true) : Fq15 w g m c L j W := by
  have hf := h.few
  refine ⟨by omega, ?_, ?_, h.bel⟩
  · have := h.own.cut (Nat.le_succ j)
    rw [List.take_take, Nat.min_eq_left (Nat.le_succ _)] at this
    exact this
  · rw [← h.same]
    have e := (trimH_take he).1
    rw [← List.map_take, List.length_map, take_less L (by omega)] at e
    exact e.symm
end Go.Proofs.Ytnnanlniffjnkaa
