/- Joined: CeA CeB CeC CeD. -/
import Derived.Test.YteooppjbpekepaaGreatDoorJG1
import Derived.Test.YteooppjbpekepaaGreatDoorJB
import Derived.Laws.Rows

/- The landed code: Falls, and the document's. -/
namespace Go.Proofs.YteooppjbpekepaaGreatDoor
open Go.RowKit
set_option linter.unusedVariables false
set_option maxRecDepth 100000

def fallsK (op : Int) : Bool := !(op == 167 || op == 170 || op == 171 || op == 172 || op == 173 || op == 176 || op == 177 || op == 191)

end Go.Proofs.YteooppjbpekepaaGreatDoor

/- The landed code: the form of an Op. -/
namespace Go.Proofs.YteooppjbpekepaaGreatDoor
open Go.RowKit
set_option linter.unusedVariables false
set_option maxRecDepth 100000

def formL : List (Int × Int × Int) := [(0, 10, 1), (26, 33, 1), (42, 47, 1), (50, 51, 1), (59, 66, 1), (75, 80, 1), (83, 84, 1), (87, 90, 1), (92, 92, 1), (95, 97, 1), (100, 101, 1), (104, 105, 1), (108, 109, 1), (112, 113, 1), (116, 117, 1), (120, 131, 1), (133, 133, 1), (136, 136, 1), (145, 148, 1), (172, 173, 1), (176, 177, 1), (190, 191, 1), (194, 195, 1), (16, 16, 2), (17, 17, 3), (18, 18, 4), (21, 22, 4), (25, 25, 4), (54, 55, 4), (58, 58, 4), (188, 188, 4), (19, 20, 5), (178, 184, 5), (187, 187, 5), (189, 189, 5), (192, 193, 5), (132, 132, 6), (153, 167, 7), (198, 199, 7), (170, 170, 8), (171, 171, 9)]
def formCells : Array Value := (formL.flatMap fun r => [.int .i64 r.1, .int .i64 r.2.1, .int .i64 r.2.2]).toArray
def inRow (op : Int) (r : Int × Int × Int) : Bool := decide (r.1 ≤ op) && decide (op ≤ r.2.1)
def formOfL (op : Int) : List (Int × Int × Int) → Int
  | [] => 0
  | r :: l => if inRow op r then r.2.2 else formOfL op l
def formK (op : Int) : Int := formOfL op formL
/-- The program's table of forms as it is laid. -/
def Tab9 (w : World) : Prop := ∃ t fr, w.heap[1]? = some (.cells formCells t fr)
theorem Tab9.below {w w' : World} (h : Tab9 w) (f : Below w.heap.size w w') : Tab9 w' := by
  obtain ⟨t, fr, h⟩ := h
  exact ⟨t, fr, (f.block 1 (lt_of_heap h)).trans h⟩
theorem formCells_size : formCells.size = 123 := by rfl
theorem formOfL_drop (op : Int) (k : Nat) (hk : k < 41) : formOfL op (formL.drop k) = if inRow op (formL.getD k (0, 0, 0)) then (formL.getD k (0, 0, 0)).2.2 else formOfL op (formL.drop (k + 1)) := by
  have h1 : k < formL.length := hk
  rw [List.drop_eq_getElem_cons h1]
  simp only [formOfL, List.getD, List.getElem?_eq_getElem h1, Option.getD_some]
end Go.Proofs.YteooppjbpekepaaGreatDoor

/- The landed code: the form of an Op is the document's. -/
namespace Go.Proofs.YteooppjbpekepaaGreatDoor
open Go.RowKit
set_option linter.unusedVariables false
set_option maxRecDepth 100000

theorem formOfL_out (op : Int) (h : op < 0 ∨ 255 < op) : ∀ l : List (Int × Int × Int), (∀ r ∈ l, 0 ≤ r.1 ∧ r.2.1 ≤ 255) → formOfL op l = 0
  | [], _ => rfl
  | r :: l, hl => by
    have h1 := hl r (by simp)
    have h2 : inRow op r = false := by
      unfold inRow
      rcases h with h | h
      · simp; omega
      · simp; omega
    rw [formOfL, h2]
    exact formOfL_out op h l fun r hr => hl r (by simp [hr])
theorem inS_out (op : Int) (h : op < 0 ∨ 255 < op) (l : List (Int × Int)) (hl : ∀ r ∈ l, 0 ≤ r.1 ∧ r.2 ≤ 255) : inS l op = false := by
  unfold inS
  rw [List.any_eq_false]
  intro r hr
  have := hl r hr
  simp
  omega
theorem formP_out (op : Int) (h : op < 0 ∨ 255 < op) : formP op = 0 := by
  unfold formP
  rw [inS_out op h spans1 (by decide)]
  simp only [Bool.false_eq_true, if_false]
  repeat' split
  all_goals first | rfl | omega
theorem form_all : ∀ n : Nat, n < 256 → formK (n : Int) = (formP (n : Int) : Int) := by
  intro n hn
  have h : (List.range 256).all (fun n => formK (n : Int) == (formP (n : Int) : Int)) = true := by decide +kernel
  rw [List.all_eq_true] at h
  simpa using h n (by simpa using hn)
theorem formK_is (op : Int) : formK op = (formP op : Int) := by
  by_cases h : op < 0 ∨ 255 < op
  · rw [formP_out op h]
    exact formOfL_out op h formL (by decide)
  · obtain ⟨n, rfl⟩ : ∃ n : Nat, op = n := ⟨op.toNat, by omega⟩
    exact form_all n (by omega)
end Go.Proofs.YteooppjbpekepaaGreatDoor

/- The landed code: formOf. -/
namespace Go.Proofs.YteooppjbpekepaaGreatDoor
open Go.RowKit
set_option linter.unusedVariables false
set_option maxRecDepth 100000

end Go.Proofs.YteooppjbpekepaaGreatDoor
