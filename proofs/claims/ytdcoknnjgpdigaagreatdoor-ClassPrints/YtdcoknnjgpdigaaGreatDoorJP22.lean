/- Joined: CrD CrE CrF CrG. -/
import Derived.Test.YtdcoknnjgpdigaaGreatDoorJP20
import Derived.Test.YtdcoknnjgpdigaaGreatDoorJP21
import Derived.Test.YtdcoknnjgpdigaaGreatDoorJP8
import Derived.Test.YtdcoknnjgpdigaaGreatDoorJP12
import Derived.LoopN

/- The landed class: its reader: handler, field, kind, bytes. -/
namespace Go.Proofs.YtdcoknnjgpdigaaGreatDoor
open Go.RowKit
set_option linter.unusedVariables false
set_option maxRecDepth 100000

theorem FX.tab {C : Cr} {w w' : World} (f : FX C w w') (h1 : 1 ≤ C.B) (h : Tab8 w) : Tab8 w' := fun i hi => by
  have := h i hi
  rw [World.cell?_of_block (w := w) (w' := w')]
  · exact this
  · exact f.below.block 0 (by omega)
theorem Rd8.cells {C : Cr} {i : Nat} {en : Bool} {W : World} (h : Rd8 C i en W) {R : Nat} {Z : Array Value} {T : TypeId} (hR : W.heap[R]? = some (.cells Z T (0, 0))) (hT : ¬ (T = 127 ∨ T = 159 ∨ T = 5 ∨ T = 55)) (o : Nat) (vs : List Value) : Rd8 C i en (W.setCells R o vs) :=
  h.keep fun k Z' T' hk hT' => heap_cells_other R vs o W k fun e => by
    subst e
    rw [hR] at hk
    injection hk with hk
    injection hk with _ hk
    subst hk
    exact hT hT'
theorem FX.cells {C : Cr} {w W : World} (f : FX C w W) {R : Nat} (hR : w.heap.size ≤ R) (hB : C.B ≤ w.heap.size) (o : Nat) (vs : List Value) : FX C w (W.setCells R o vs) :=
  ⟨below_cells vs o f.below (Nat.le_trans hB hR), fun k hk hn => (heap_cells_other R vs o W k (by omega)).trans (f.other k hk hn)⟩
end Go.Proofs.YtdcoknnjgpdigaaGreatDoor

/- The landed class: its reader: field. -/
namespace Go.Proofs.YtdcoknnjgpdigaaGreatDoor
open Go.RowKit
set_option linter.unusedVariables false
set_option maxRecDepth 100000

theorem got_bind {α γ : Type} {o : List UInt8 → Option (α × List UInt8)} {bs : List UInt8} {i i1 : Nat} {en e1 : Bool} {v : α} (g : Got o bs i en v i1 e1) (e : en = false) {k : α × List UInt8 → Option γ} {z : γ} (hr : (o (bs.drop i)).bind k = some z) : e1 = false ∧ k (v, bs.drop i1) = some z := by
  obtain ⟨⟨m, s⟩, ha, hr⟩ := Option.bind_eq_some_iff.1 hr
  obtain ⟨rfl, k1, d1⟩ := g.2 e _ _ ha
  exact ⟨k1, by rw [d1]; exact hr⟩
theorem got_end {α : Type} {v v0 : α} {s r : List UInt8} (h : some (v, s) = some (v0, r)) : v = v0 ∧ s = r := by
  injection h with h
  injection h with h1 h2
  exact ⟨h1, h2⟩
end Go.Proofs.YtdcoknnjgpdigaaGreatDoor

/- The landed class: its reader: kindOf, kind, bytes. -/
namespace Go.Proofs.YtdcoknnjgpdigaaGreatDoor
open Go.RowKit
set_option linter.unusedVariables false
set_option maxRecDepth 100000

end Go.Proofs.YtdcoknnjgpdigaaGreatDoor

/- The landed class: its reader: bytes; wide. -/
namespace Go.Proofs.YtdcoknnjgpdigaaGreatDoor
open Go.RowKit
set_option linter.unusedVariables false
set_option maxRecDepth 100000

end Go.Proofs.YtdcoknnjgpdigaaGreatDoor
