/- The document's class: the number of a text, of a class. -/
import Derived.Test.YtpmhcignenfhgaaDoorJClA
import Derived.Test.YtpmhcignenfhgaaDoorJB
import Derived.Test.YtpmhcignenfhgaaDoorJA

namespace Go.Proofs.YtpmhcignenfhgaaDoor
open Go.RowKit
set_option linter.unusedVariables false

/-- A class of a right pool leads to a text. -/
theorem class_leads {l : List Ent} (hc : checkP l = true) {k : Nat} {y : Ent} (hy : l[k]? = some y) (h7 : y.tag = 7) : ∃ ka : Nat, y.a = ka ∧ ∃ z, l[ka]? = some z := by
  have hk := (List.getElem?_eq_some_iff.1 hy).1
  have h := ((checkP_all l).1 hc).2 k hk
  have ha : atE l (k : Int) = y := by rw [atE_nat, hy]; rfl
  have ho : okE l y = true := by
    unfold rightAt at h
    rw [ha] at h
    split at h
    · have h0 := of_decide_eq_true h
      rw [h0] at h7
      exact absurd h7 (by decide)
    · rw [Bool.and_eq_true] at h
      exact h.1
  unfold okE at ho
  simp only [h7] at ho
  simp at ho
  have hin := tagE_in (l := l) (i := y.a) (by rw [ho.1]; decide)
  exact ⟨y.a.toNat, by omega, _, List.getElem?_eq_getElem (by omega)⟩

end Go.Proofs.YtpmhcignenfhgaaDoor
