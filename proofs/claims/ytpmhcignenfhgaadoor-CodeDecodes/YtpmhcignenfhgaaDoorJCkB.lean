/- The landed class: names in memory; hasClass, hasTexts, tagAt, isUpTo. -/
import Derived.Test.YtpmhcignenfhgaaDoorJCkA
import Derived.Test.YtpmhcignenfhgaaDoorJClK
import Derived.Test.YtpmhcignenfhgaaDoorJClG
import Derived.Test.YtpmhcignenfhgaaDoorJTxA
import Derived.Test.YtpmhcignenfhgaaDoorJC
import Derived.Maps.OwnSet

namespace Go.Proofs.YtpmhcignenfhgaaDoor
open Go.RowKit Go.Maps
set_option linter.unusedVariables false
set_option maxRecDepth 100000

theorem nlaw : Keyed Tryd.prog 9 := string_keyed Tryd.underlying9
theorem nzero (w : World) : (zeroValue 3).run Tryd.prog w = .ok (.int .i64 0) w := by kernel_rfl
theorem nkey {s : List UInt8} (h : fitS s) : keyOf Tryd.prog 9 (.string ⟨s.toArray⟩) = some (.string s) := by
  unfold fitS at h
  have := WideMaps.keyOf_string_mk (P := Tryd.prog) (s := ⟨s.toArray⟩) Tryd.underlying9 (by unfold maxLen; simp [ByteArray.size]; omega)
  simpa using this
/-- A map of numbers of texts at block m: f tells them. -/
def MapIs (w : World) (m : Nat) (f : List UInt8 → Nat) : Prop := ∃ N D, w.ownsMap Tryd.prog 9 (plainElem (H := Unit) Tryd.prog 3) m N D ∧ ∀ s, D.atKey (.string s) (.lit (.int .i64 0)) = .lit (.int .i64 (f s : Int))
theorem MapIs.keep {w w' : World} {m : Nat} {f : List UInt8 → Nat} (h : MapIs w m f) (e : w'.heap[m]? = w.heap[m]?) : MapIs w' m f := by
  obtain ⟨N, D, ⟨es, clock, h1, h2⟩, h3⟩ := h
  exact ⟨N, D, ⟨es, clock, e.trans h1, h2⟩, h3⟩
theorem MapIs.lt {w : World} {m : Nat} {f : List UInt8 → Nat} (h : MapIs w m f) : m < w.heap.size := by
  obtain ⟨N, D, h1, _⟩ := h
  exact h1.lt
/-- Texts in memory. -/
def StrsAt (w : World) (b : Nat) (ss : List (List UInt8)) : Prop := ∀ (k : Nat) (s : List UInt8), ss[k]? = some s → w.cell? ⟨b, k, none⟩ = some (.string ⟨s.toArray⟩)
end Go.Proofs.YtpmhcignenfhgaaDoor
