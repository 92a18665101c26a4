/- Joined: ClE ClF. -/
import Derived.Test.YteooppjbpekepaaGreatDoorJL3
import Derived.Test.YteooppjbpekepaaGreatDoorJB
import Derived.Deep.RegionHeld3

/- Classes held against one another: SameMaps, SameClass. -/
namespace Go.Proofs.YteooppjbpekepaaGreatDoor
open Go.RowKit
set_option linter.unusedVariables false
set_option maxRecDepth 100000

theorem SameTypes_far {w : World} {s t : Sl} {l : List Ty} (hA : TysIn w s l) (hB : TysIn w t l) (W : World) (f : Below w.heap.size w W) :
    Calls Tryz.prog 29 #[s.v, t.v] W fun e w' => e = .returned (.bool true) ∧ Below w.heap.size w w' :=
  (SameTypes_same W s t l (hA.mono f (fun _ h => h)) (hB.mono f (fun _ h => h))).mono (by
    rintro e w' ⟨rfl, f'⟩
    exact ⟨rfl, f.trans (f'.mono f.size)⟩)

end Go.Proofs.YteooppjbpekepaaGreatDoor

/- Classes held against one another: SameClass. -/
namespace Go.Proofs.YteooppjbpekepaaGreatDoor
open Go.RowKit
set_option linter.unusedVariables false
set_option maxRecDepth 100000

/-- A call that answers true in every world behind w. -/
def TrueCall (w : World) (f : FuncId) (v1 v2 : Value) : Prop := ∀ W, Below w.heap.size w W → Calls Tryz.prog f #[v1, v2] W fun e w' => e = .returned (.bool true) ∧ Below w.heap.size w w'
theorem trueCall_mk {w : World} {f : FuncId} {v1 v2 : Value} (h : ∀ W, Below w.heap.size w W → Calls Tryz.prog f #[v1, v2] W fun e w' => e = .returned (.bool true) ∧ Below W.heap.size W w') : TrueCall w f v1 v2 := fun W f =>
  (h W f).mono (by
    rintro e w' ⟨rfl, f'⟩
    exact ⟨rfl, f.trans (f'.mono f.size)⟩)

/-- Two structs that stand in memory as locals. -/
theorem two_locals (w : World) (X Y : Array Value) (t : TypeId) : ∃ w0, (w.alloc (.cells X t)).alloc (.cells Y t) = w0 ∧ Below w.heap.size w w0 ∧ ∀ W, Below w0.heap.size w0 W → (∀ q v, X[q]? = some v → W.cell? ⟨w.heap.size, q, none⟩ = some v) ∧ (∀ q v, Y[q]? = some v → W.cell? ⟨w.heap.size + 1, q, none⟩ = some v) := by
  refine ⟨_, rfl, ((Below.refl _ _).alloc (Nat.le_refl _) _).alloc (by simp) _, fun W f => ?_⟩
  have s0 : (w.alloc (.cells X t)).heap.size = w.heap.size + 1 := by simp
  have s1 : ((w.alloc (.cells X t)).alloc (.cells Y t)).heap.size = w.heap.size + 2 := by simp
  have b0 : ((w.alloc (.cells X t)).alloc (.cells Y t)).heap[w.heap.size]? = some (.cells X t) := by
    rw [Below.heap_alloc _ _ _ (by omega)]
    exact heap_alloc_new w _
  have b1 : ((w.alloc (.cells X t)).alloc (.cells Y t)).heap[w.heap.size + 1]? = some (.cells Y t) := by
    have := heap_alloc_new (w.alloc (.cells X t)) (.cells Y t)
    rwa [s0] at this
  have c0 := (f.block w.heap.size (by omega)).trans b0
  have c1 := (f.block (w.heap.size + 1) (by omega)).trans b1
  exact ⟨fun q v h => by unfold World.cell?; simp [c0, h], fun q v h => by unfold World.cell?; simp [c1, h]⟩

theorem cell_up1 {w : World} {p : Addr} {v : Value} (h : w.cell? p = some v) (X : Obj) : (w.alloc X).cell? p = some v :=
  (((Below.refl w.heap.size w).alloc (Nat.le_refl _) X).cell (World.block_lt_of_cell? w _ h)).trans h
theorem cell_up2 {w : World} {p : Addr} {v : Value} (h : w.cell? p = some v) (X Y : Obj) : ((w.alloc X).alloc Y).cell? p = some v := cell_up1 (cell_up1 h X) Y

theorem two_locals_drew (w : World) (X Y : Array Value) (t : TypeId) : ∃ w0, ((w.alloc (.cells X t)).alloc (.cells Y t)).drew = w0 ∧ Below w.heap.size w w0 ∧ ∀ W, Below w0.heap.size w0 W → (∀ q v, X[q]? = some v → W.cell? ⟨w.heap.size, q, none⟩ = some v) ∧ (∀ q v, Y[q]? = some v → W.cell? ⟨w.heap.size + 1, q, none⟩ = some v) := by
  obtain ⟨w1, e1, f1, K1⟩ := two_locals w X Y t
  exact ⟨_, rfl, by rw [e1]; exact f1.drew, fun W f => K1 W (by rw [e1] at f; exact (Below.drew (Below.refl _ _)).trans f)⟩

end Go.Proofs.YteooppjbpekepaaGreatDoor
