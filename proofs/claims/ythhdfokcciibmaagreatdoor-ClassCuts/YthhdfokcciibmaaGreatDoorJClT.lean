/- The program's table of types' first bytes as its text lays it, and a world that begins so. -/
import Derived.Test.YthhdfokcciibmaaGreatDoorJCkG
import Derived.Test.YthhdfokcciibmaaGreatDoorJClC
import Derived.Test.YthhdfokcciibmaaGreatDoorRows
import Derived.ProofKit
import Derived.OpenShut
import Derived.LaidMore
import Derived.Stop.Joined

namespace Go.Proofs.YthhdfokcciibmaaGreatDoor
open Go.ChangeShapes Go.WideShapes Go.ChangeAt Go.RowKit
set_option linter.unusedVariables false

theorem gTab8 : Tryz.prog.globalNamed "larch/class.kindBytes" = some 0 := by kernel_rfl
theorem tTab8 : (Tryz.prog.globals[0]?).map (·.type) = some 197 := by kernel_rfl
theorem cells8I : Tryz.prog.cellsOf 3 = 1 := by kernel_rfl
theorem tab8_said : (Rows.laid_larch_class_kindBytes : DataW Unit) = .agg ((List.range 5).map fun (n : Nat) => .lit (.int .i64 (kindB n))) := rfl
abbrev laid8 : List (String × DataW Unit) := [("larch/class.kindBytes", Rows.laid_larch_class_kindBytes)]

theorem tab8_of_laid {W : World} (h : laidMetH Tryz.prog laid8 W) : Tab8 W := by
  have h' : laidMet Tryz.prog laid8 W := h
  obtain ⟨ps, ⟨g, t, cs, fuel, p, q, hg, ht, hvar, hd, _, _⟩, _⟩ := h'
  obtain rfl := Option.some.inj (gTab8.symm.trans hg)
  obtain rfl := Option.some.inj (tTab8.symm.trans ht)
  rw [tab8_said] at hd
  obtain ⟨xs, m, _, hx, _, hl, hel⟩ := DataW.trod_array Tryz.underlying197 hd
  injection hx with hx _
  injection hx with hx
  intro i hi
  have hi2 := hel i hi
  rw [cells8I, Nat.mul_one, List.getElem?_eq_getElem (by omega)] at hi2
  obtain ⟨n, e, hd2, _⟩ := DataW.trod_int Tryz.underlying3 hi2
  have hn : n = kindB i := by
    have h1 : (xs.map (·.1))[i]? = some (.lit (.int .i64 n)) := by
      rw [List.getElem?_map, List.getElem?_eq_getElem (by omega), hd2]; rfl
    rw [← hx] at h1
    simp [hi] at h1
    exact h1.symm
  have hc : cs[i]? = some (.int .i64 n) := by
    have : ((cs.toList.drop i).take 1)[0]? = some (.int .i64 n) := by rw [e]; rfl
    simpa [List.getElem?_take] using this
  have := World.var?_cell gTab8 hvar i
  rw [this, hc, hn]
/-- The door's own heap meets the condition. -/
theorem door_met8 (os : Os) (args : Array Value) : laidMetH Tryz.prog laid8 ((World.doorLaid Tryz.prog 600 os).forCall (fun _ _ => 0) ⟨#[], args, []⟩).memory :=
  laidMetH_of_parts3 (fuel := 8) (laidMet_of_run' 8 (by kernel_rfl) (by kernel_rfl)) (by kernel_rfl) (by kernel_rfl)
end Go.Proofs.YthhdfokcciibmaaGreatDoor
