/- The landed code: the table of short forms. -/
import Derived.Test.YtpmhcignenfhgaaDoorJCeF
import Derived.Laws.Rows

namespace Go.Proofs.YtpmhcignenfhgaaDoor
open Go.RowKit
set_option linter.unusedVariables false
set_option maxRecDepth 100000

def shortL : List (Int × Int × Int × Int) := [(2, 8, 17, -1), (10, 10, 9, 1), (26, 29, 21, 0), (30, 33, 22, 0), (42, 45, 25, 0), (59, 62, 54, 0), (63, 66, 55, 0), (75, 78, 58, 0)]
def shortCells : Array Value := (shortL.flatMap fun r => [.int .i64 r.1, .int .i64 r.2.1, .int .i64 r.2.2.1, .int .i64 r.2.2.2]).toArray
def shortOf (op a : Int) : List (Int × Int × Int × Int) → Int × Int
  | [] => (op, a)
  | r :: l => if r.1 ≤ op ∧ op ≤ r.2.1 then (r.2.2.1, r.2.2.2 + op - r.1) else shortOf op a l
/-- The op that the program's switch leaves. -/
def wideOp (op : Int) : Int := if op = 16 then 17 else if op = 19 then 18 else op
def Tab9s (w : World) : Prop := ∃ t fr, w.heap[0]? = some (.cells shortCells t fr)
theorem Tab9s.below {w w' : World} (h : Tab9s w) (f : Below w.heap.size w w') : Tab9s w' := by
  obtain ⟨t, fr, h⟩ := h
  exact ⟨t, fr, (f.block 0 (lt_of_heap h)).trans h⟩
theorem shortCells_size : shortCells.size = 32 := by rfl
theorem short_index0 : ∀ k, k < 8 → ∀ w : World, (Instr.index 61 (.agg shortCells) (.int .i64 (k : Nat))).run Tryd.prog w = .ok (.agg #[.int .i64 (shortL.getD k (0, 0, 0, 0)).1, .int .i64 (shortL.getD k (0, 0, 0, 0)).2.1, .int .i64 (shortL.getD k (0, 0, 0, 0)).2.2.1, .int .i64 (shortL.getD k (0, 0, 0, 0)).2.2.2]) w := by
  intro k hk w
  iterate 8 (rcases k with _ | k; · kernel_rfl)
  omega
theorem shortOf_drop (op a : Int) (k : Nat) (hk : k < 8) : shortOf op a (shortL.drop k) = if (shortL.getD k (0, 0, 0, 0)).1 ≤ op ∧ op ≤ (shortL.getD k (0, 0, 0, 0)).2.1 then ((shortL.getD k (0, 0, 0, 0)).2.2.1, (shortL.getD k (0, 0, 0, 0)).2.2.2 + op - (shortL.getD k (0, 0, 0, 0)).1) else shortOf op a (shortL.drop (k + 1)) := by
  have h1 : k < shortL.length := hk
  rw [List.drop_eq_getElem_cons h1]
  simp only [shortOf, List.getD, List.getElem?_eq_getElem h1, Option.getD_some]
theorem short_is (op a : Int) : shortOf (wideOp op) a shortL = plainOA op a := by
  unfold wideOp
  by_cases h1 : op = 16
  · subst h1; rfl
  · by_cases h2 : op = 19
    · subst h2; rfl
    · rw [if_neg h1, if_neg h2]
      unfold plainOA plainP shortL
      simp only [shortOf, h1, h2, if_false]
      repeat' split
      all_goals first | rfl | (exfalso; omega) | (refine Prod.ext ?_ ?_ <;> simp <;> omega) | (simp; omega) | (simp; done)
end Go.Proofs.YtpmhcignenfhgaaDoor
