/- The records of a class that came in, opened. -/
import Derived.Test.YtpmhcignenfhgaaDoorJClB
import Derived.ChangeMaps5

namespace Go.Proofs.YtpmhcignenfhgaaDoor
open Go.ChangeShapes Go.WideShapes Go.ChangeAt Go.RowKit
set_option linter.unusedVariables false
set_option maxRecDepth 100000

theorem st_len {H : Type} {enc : TypeId × Value → H} {w : World} {base n k : Nat} {T : TypeId} {fs : Array Field} {cs : List Value} {x : DataW H × List MemPlace} (hT : Tryd.prog.underlying T = some (.struct fs)) (hk : Tryd.prog.cellsOf T = k)
    (h : DataW.trod enc Tryd.prog w base (fun _ => true) true n T cs = some x) : cs.length = k := by
  obtain ⟨xs, m, _, rfl, hl, hlen, hg⟩ := DataW.trod_struct hT h
  rw [hl, hk]
/-- A text that came in. -/
theorem str_arg {H : Type} {enc : TypeId × Value → H} {W : World} {base b2 : Nat} {v : Value} {d : DataW H} {p : List MemPlace} (hv : Value.okWide Tryd.prog W .any b2 9 v)
    (h : DataW.Trod enc Tryd.prog W base (fun _ => true) true 9 v d p) (hw : ∀ m ∈ d.weights Tryd.prog 9, m ≤ reachBytes) : ∃ s : List UInt8, v = .string ⟨s.toArray⟩ ∧ fitS s := by
  obtain ⟨s, rfl, rfl, _, _⟩ := Go.ChangeMaps.open_string Tryd.underlying9 hv h
  have hm := hw s.data.toList.length (by simp [DataW.weights])
  exact ⟨s.data.toList, rfl, str_len (H := H) hm⟩

end Go.Proofs.YtpmhcignenfhgaaDoor
