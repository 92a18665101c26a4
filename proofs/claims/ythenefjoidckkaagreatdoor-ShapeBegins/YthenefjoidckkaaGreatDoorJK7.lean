/- Joined: KsK KsL. -/
import Derived.Test.YthenefjoidckkaaGreatDoorJK6

/- Does going up end from each class: the law's own ends. -/
namespace Go.Proofs.YthenefjoidckkaaGreatDoor
open Go.RowKit
set_option linter.unusedVariables false
set_option maxRecDepth 100000

end Go.Proofs.YthenefjoidckkaaGreatDoor

/- The walk of KindOrder. -/
namespace Go.Proofs.YthenefjoidckkaaGreatDoor
open Go.RowKit
set_option linter.unusedVariables false
set_option maxRecDepth 100000

structure Bx3 (W : World) (B : Nat) (x y z : Ty) (X Y Z : ByteArray) : Prop where
  bx : Bx2c W B (.int .i64 x.kind) (.string X)
  by_ : Bx2c W (B + 1) (.int .i64 y.kind) (.string Y)
  bz : Bx2c W (B + 1 + 1) (.int .i64 z.kind) (.string Z)
theorem Bx3.keep {W W' : World} {B : Nat} {x y z : Ty} {X Y Z : ByteArray} (h : Bx3 W B x y z X Y Z) (f : Below W.heap.size W W') : Bx3 W' B x y z X Y Z := ⟨h.bx.keep f, h.by_.keep f, h.bz.keep f⟩
theorem Bx3.cells {W : World} {B : Nat} {x y z : Ty} {X Y Z : ByteArray} (h : Bx3 W B x y z X Y Z) : (W.cell? ⟨B, 0, none⟩ = some (.int .i64 x.kind) ∧ W.cell? ⟨B, 1, none⟩ = some (.string X)) ∧ (W.cell? ⟨B + 1, 0, none⟩ = some (.int .i64 y.kind) ∧ W.cell? ⟨B + 1, 1, none⟩ = some (.string Y)) ∧ (W.cell? ⟨B + 1 + 1, 0, none⟩ = some (.int .i64 z.kind) ∧ W.cell? ⟨B + 1 + 1, 1, none⟩ = some (.string Z)) :=
  ⟨⟨h.bx.cells.1, h.bx.cells.2.1⟩, ⟨h.by_.cells.1, h.by_.cells.2.1⟩, ⟨h.bz.cells.1, h.bz.cells.2.1⟩⟩
end Go.Proofs.YthenefjoidckkaaGreatDoor
