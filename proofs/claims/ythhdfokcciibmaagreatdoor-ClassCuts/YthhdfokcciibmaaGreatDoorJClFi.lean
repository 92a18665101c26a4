/- The walk of ClassFinds. -/
import Derived.Test.YthhdfokcciibmaaGreatDoorJClK
import Derived.Test.YthhdfokcciibmaaGreatDoorJClD
import Derived.Test.YthhdfokcciibmaaGreatDoorJB

namespace Go.Proofs.YthhdfokcciibmaaGreatDoor
open Go.RowKit
set_option linter.unusedVariables false
set_option maxRecDepth 100000

theorem one_local (w : World) (X : Array Value) (t : TypeId) : ∃ w0, w.alloc (.cells X t) = w0 ∧ Below w.heap.size w w0 ∧ ∀ W, Below w0.heap.size w0 W → ∀ q v, X[q]? = some v → W.cell? ⟨w.heap.size, q, none⟩ = some v := by
  refine ⟨_, rfl, (Below.refl _ _).alloc (Nat.le_refl _) _, fun W f q v h => ?_⟩
  have c0 := (f.block w.heap.size (by simp)).trans (heap_alloc_new w (.cells X t))
  unfold World.cell?
  simp [c0, h]
theorem findK_at {ms : List Md} {s t : List UInt8} {k : Nat} {m : Md} (h : ∀ (j : Nat) (m : Md), j < k → ms[j]? = some m → ¬ (m.name = s ∧ m.type = t)) (hm : ms[k]? = some m) (hy : m.name = s ∧ m.type = t) : findK ms s t = ((k : Int), 0) := by
  have hk := (List.getElem?_eq_some_iff.1 hm)
  have : ms.findIdx? (fun m => decide (m.name = s ∧ m.type = t)) = some k := by
    rw [List.findIdx?_eq_some_iff_getElem]
    refine ⟨hk.1, by rw [hk.2]; simpa using hy, fun j hj => ?_⟩
    have := h j _ hj (List.getElem?_eq_getElem (Nat.lt_trans hj hk.1))
    simpa using this
  unfold findK
  rw [this]
theorem findK_none {ms : List Md} {s t : List UInt8} (h : ∀ (j : Nat) (m : Md), ms[j]? = some m → ¬ (m.name = s ∧ m.type = t)) : findK ms s t = (0, 5) := by
  have : ms.findIdx? (fun m => decide (m.name = s ∧ m.type = t)) = none := by
    rw [List.findIdx?_eq_none_iff]
    intro m hm
    obtain ⟨j, hj⟩ := List.mem_iff_getElem?.1 hm
    simpa using h j m hj
  unfold findK
  rw [this]

end Go.Proofs.YthhdfokcciibmaaGreatDoor
