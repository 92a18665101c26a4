/- Joined: CeA CeB CeC CeD. -/
import Derived.Test.YthenefjoidckkaaGreatDoorJG1
import Derived.Test.YthenefjoidckkaaGreatDoorJB
import Derived.Laws.Rows

/- The landed code: Falls, and the document's. -/
namespace Go.Proofs.YthenefjoidckkaaGreatDoor
open Go.RowKit
set_option linter.unusedVariables false
set_option maxRecDepth 100000

end Go.Proofs.YthenefjoidckkaaGreatDoor

/- The landed code: the form of an Op. -/
namespace Go.Proofs.YthenefjoidckkaaGreatDoor
open Go.RowKit
set_option linter.unusedVariables false
set_option maxRecDepth 100000

def formL : List (Int × Int × Int) := [(0, 10, 1), (26, 33, 1), (42, 47, 1), (50, 51, 1), (59, 66, 1), (75, 80, 1), (83, 84, 1), (87, 90, 1), (92, 92, 1), (95, 97, 1), (100, 101, 1), (104, 105, 1), (108, 109, 1), (112, 113, 1), (116, 117, 1), (120, 131, 1), (133, 133, 1), (136, 136, 1), (145, 148, 1), (172, 173, 1), (176, 177, 1), (190, 191, 1), (194, 195, 1), (16, 16, 2), (17, 17, 3), (18, 18, 4), (21, 22, 4), (25, 25, 4), (54, 55, 4), (58, 58, 4), (188, 188, 4), (19, 20, 5), (178, 184, 5), (187, 187, 5), (189, 189, 5), (192, 193, 5), (132, 132, 6), (153, 167, 7), (198, 199, 7), (170, 170, 8), (171, 171, 9)]
def formCells : Array Value := (formL.flatMap fun r => [.int .i64 r.1, .int .i64 r.2.1, .int .i64 r.2.2]).toArray
/-- The program's table of forms as it is laid. -/
def Tab9 (w : World) : Prop := ∃ t fr, w.heap[1]? = some (.cells formCells t fr)
theorem Tab9.below {w w' : World} (h : Tab9 w) (f : Below w.heap.size w w') : Tab9 w' := by
  obtain ⟨t, fr, h⟩ := h
  exact ⟨t, fr, (f.block 1 (lt_of_heap h)).trans h⟩
end Go.Proofs.YthenefjoidckkaaGreatDoor

/- The landed code: the form of an Op is the document's. -/
namespace Go.Proofs.YthenefjoidckkaaGreatDoor
open Go.RowKit
set_option linter.unusedVariables false
set_option maxRecDepth 100000

end Go.Proofs.YthenefjoidckkaaGreatDoor

/- The landed code: formOf. -/
namespace Go.Proofs.YthenefjoidckkaaGreatDoor
open Go.RowKit
set_option linter.unusedVariables false
set_option maxRecDepth 100000

end Go.Proofs.YthenefjoidckkaaGreatDoor
