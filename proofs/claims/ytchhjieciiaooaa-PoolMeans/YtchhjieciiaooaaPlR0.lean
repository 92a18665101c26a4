/- Five cells written; blocks that are new. -/
import Derived.Test.YtchhjieciiaooaaPlO
namespace Go.Proofs.Ytchhjieciiaooaa
open Go.RowKit
set_option linter.unusedVariables false

theorem sizeCst : (Try.prog.info? 50).map (·.size) = some 5 := by kernel_rfl
theorem five_set {W : World} {A : Nat} {T : TypeId} {a0 a1 a2 a3 a4 : Value} (c0 c1 c2 c3 c4 : Value) (h : W.heap[A]? = some (.cells #[a0, a1, a2, a3, a4] T (0, 0))) :
    (((((W.setCell ⟨A, 0, none⟩ c0).setCell ⟨A, 1, none⟩ c1).setCell ⟨A, 2, none⟩ c2).setCell ⟨A, 3, none⟩ c3).setCell ⟨A, 4, none⟩ c4).heap[A]? = some (.cells #[c0, c1, c2, c3, c4] T (0, 0)) := by
  have h0 := heap_setCell_same W A 0 _ _ c0 h
  have h1 := heap_setCell_same _ A 1 _ _ c1 h0
  have h2 := heap_setCell_same _ A 2 _ _ c2 h1
  have h3 := heap_setCell_same _ A 3 _ _ c3 h2
  exact heap_setCell_same _ A 4 _ _ c4 h3
theorem five_bel {B A : Nat} {w W : World} (c0 c1 c2 c3 c4 : Value) (h : Below B w W) (hA : B ≤ A) : Below B w (((((W.setCell ⟨A, 0, none⟩ c0).setCell ⟨A, 1, none⟩ c1).setCell ⟨A, 2, none⟩ c2).setCell ⟨A, 3, none⟩ c3).setCell ⟨A, 4, none⟩ c4) :=
  ((((h.setCell (p := ⟨A, 0, none⟩) hA _).setCell (p := ⟨A, 1, none⟩) hA _).setCell (p := ⟨A, 2, none⟩) hA _).setCell (p := ⟨A, 3, none⟩) hA _).setCell (p := ⟨A, 4, none⟩) hA _
theorem five_far {W : World} {A : Nat} {p : Addr} (c0 c1 c2 c3 c4 : Value) (h : ¬ p.block = A) : (((((W.setCell ⟨A, 0, none⟩ c0).setCell ⟨A, 1, none⟩ c1).setCell ⟨A, 2, none⟩ c2).setCell ⟨A, 3, none⟩ c3).setCell ⟨A, 4, none⟩ c4).cell? p = W.cell? p :=
  World.cell?_of_block (by rw [Below.heap_setCell _ _ _ _ h, Below.heap_setCell _ _ _ _ h, Below.heap_setCell _ _ _ _ h, Below.heap_setCell _ _ _ _ h, Below.heap_setCell _ _ _ _ h])
theorem drew_cell (X : World) (p : Addr) : X.drew.cell? p = X.cell? p := rfl
theorem five_farD {W : World} {A : Nat} {p : Addr} (c0 c1 c2 c3 c4 : Value) (h : ¬ p.block = A) : (((((W.setCell ⟨A, 0, none⟩ c0).setCell ⟨A, 1, none⟩ c1).setCell ⟨A, 2, none⟩ c2).setCell ⟨A, 3, none⟩ c3).setCell ⟨A, 4, none⟩ c4).drew.cell? p = W.cell? p := (drew_cell _ _).trans (five_far c0 c1 c2 c3 c4 h)
theorem two_heap (w : World) (X Y : Obj) : ((w.alloc X).alloc Y).heap[w.heap.size]? = some X := (heap_alloc_old _ _ (by simp)).trans (heap_alloc_last w X)
theorem two_bel (w : World) (X Y : Obj) : Below w.heap.size w ((w.alloc X).alloc Y) := ((Below.refl _ _).alloc (Nat.le_refl _) _).alloc (by simp) _

end Go.Proofs.Ytchhjieciiaooaa
