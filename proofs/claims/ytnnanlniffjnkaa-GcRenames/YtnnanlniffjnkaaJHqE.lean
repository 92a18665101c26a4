/- Layer 15: the walk of HeapChecks. -/
import Derived.Test.YtnnanlniffjnkaaJHqC
import Derived.Test.YtnnanlniffjnkaaJY3
import Derived.Test.YtnnanlniffjnkaaJHpT

namespace Go.Proofs.Ytnnanlniffjnkaa
open Go.RowKit
set_option linter.unusedVariables false
set_option maxRecDepth 100000

theorem getPost.both {w : World} {l : List Ob} {n : Int} {e : Ending} {w' : World} (h : getPost w l n e w') : Below w.heap.size w w' ∧ ∃ s, WsIn w' s ((getH l n).getD zeroO).ws ∧ e = .returned (.tuple #[.agg #[.string ⟨((getH l n).getD zeroO).ty.toArray⟩, s.v], .int .i64 (errO (getH l n))]) := by
  obtain ⟨f, ⟨h1, h2⟩ | ⟨o, s, h1, h2, h3⟩⟩ := h
  · rw [h1]
    exact ⟨f, ⟨Option.none, 0, 0⟩, wsIn_nil _, h2⟩
  · rw [h1]
    exact ⟨f, s, h2, h3⟩
theorem wordPost.both {w : World} {l : List Ob} {n k : Int} {e : Ending} {w' : World} (h : wordPost w l n k e w') : Below w.heap.size w w' ∧ e = .returned (.tuple #[.agg #[.int .i64 ((wordH l n k).getD vl0).kind, .int .i64 ((wordH l n k).getD vl0).n], .int .i64 (errO (wordH l n k))]) := by
  obtain ⟨f, ⟨h1, h2⟩ | ⟨v, h1, h2⟩⟩ := h
  · rw [h1]
    exact ⟨f, h2⟩
  · rw [h1]
    exact ⟨f, h2⟩
theorem light_no {l : List Ob} (h : lightB l = false) : ¬ checkH l = true := fun hc => by
  obtain ⟨h1, h2⟩ := check_len hc
  unfold lightB at h
  rw [decide_eq_true (by omega : l.length ≤ 5000), decide_eq_true (by omega : wordsH l ≤ 70000)] at h
  cases h
end Go.Proofs.Ytnnanlniffjnkaa
