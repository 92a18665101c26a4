/- The landed class: names in memory; hasClass, hasTexts, tagAt, isUpTo. -/
import Derived.Test.YteooppjbpekepaaGreatDoorJL4
import Derived.Test.YteooppjbpekepaaGreatDoorJTxA
import Derived.Test.YteooppjbpekepaaGreatDoorJC
import Derived.Maps.OwnSet

namespace Go.Proofs.YteooppjbpekepaaGreatDoor
open Go.RowKit Go.Maps
set_option linter.unusedVariables false
set_option maxRecDepth 100000

theorem nlaw : Keyed Tryz.prog 9 := string_keyed Tryz.underlying9
theorem nzero (w : World) : (zeroValue 3).run Tryz.prog w = .ok (.int .i64 0) w := by kernel_rfl
theorem nkey {s : List UInt8} (h : fitS s) : keyOf Tryz.prog 9 (.string ⟨s.toArray⟩) = some (.string s) := by
  unfold fitS at h
  have := WideMaps.keyOf_string_mk (P := Tryz.prog) (s := ⟨s.toArray⟩) Tryz.underlying9 (by unfold maxLen; simp [ByteArray.size]; omega)
  simpa using this
/-- A map of numbers of texts at block m: f tells them. -/
def MapIs (w : World) (m : Nat) (f : List UInt8 → Nat) : Prop := ∃ N D, w.ownsMap Tryz.prog 9 (plainElem (H := Unit) Tryz.prog 3) m N D ∧ ∀ s, D.atKey (.string s) (.lit (.int .i64 0)) = .lit (.int .i64 (f s : Int))
theorem MapIs.keep {w w' : World} {m : Nat} {f : List UInt8 → Nat} (h : MapIs w m f) (e : w'.heap[m]? = w.heap[m]?) : MapIs w' m f := by
  obtain ⟨N, D, ⟨es, clock, h1, h2⟩, h3⟩ := h
  exact ⟨N, D, ⟨es, clock, e.trans h1, h2⟩, h3⟩
theorem MapIs.lt {w : World} {m : Nat} {f : List UInt8 → Nat} (h : MapIs w m f) : m < w.heap.size := by
  obtain ⟨N, D, h1, _⟩ := h
  exact h1.lt
theorem MapIs.look {w : World} {m : Nat} {f : List UInt8 → Nat} (h : MapIs w m f) {s : List UInt8} (hs : fitS s) : (Instr.lookup 127 (.map (some m)) (.string ⟨s.toArray⟩) false).run Tryz.prog w = .ok (.int .i64 (f s : Int)) w := by
  obtain ⟨N, D, h1, h2⟩ := h
  obtain ⟨c, hrun, hat, _⟩ := h1.lookup_int nlaw Tryz.underlying127 Tryz.underlying3 (nzero _) (nkey hs)
  rw [h2 s] at hat
  injection hat with hat
  injection hat with _ hat
  rw [hrun, hat]
/-- Texts in memory. -/
def StrsAt (w : World) (b : Nat) (ss : List (List UInt8)) : Prop := ∀ (k : Nat) (s : List UInt8), ss[k]? = some s → w.cell? ⟨b, k, none⟩ = some (.string ⟨s.toArray⟩)
end Go.Proofs.YteooppjbpekepaaGreatDoor
