/- Joined: CgA CgB CgC CgD CgE CgF CgG. -/
import Derived.Test.YthenefjoidckkaaGreatDoorJT
import Derived.Test.YthenefjoidckkaaGreatDoorJG

/- The landed code: its writer while instructions are written; numbers, wayTo, noughts. -/
namespace Go.Proofs.YthenefjoidckkaaGreatDoor
open Go.RowKit
set_option linter.unusedVariables false
set_option maxRecDepth 100000

structure Cw9 where
  X : Nat
  x : Nat
  B : Nat
def Rg (z : Int) : Prop := -9223372036854775808 ≤ z ∧ z ≤ 9223372036854775807
end Go.Proofs.YthenefjoidckkaaGreatDoor

/- The landed code: a table and a search written. -/
namespace Go.Proofs.YthenefjoidckkaaGreatDoor
open Go.RowKit
set_option linter.unusedVariables false
set_option maxRecDepth 100000

end Go.Proofs.YthenefjoidckkaaGreatDoor

/- The landed code: an instruction written. -/
namespace Go.Proofs.YthenefjoidckkaaGreatDoor
open Go.RowKit
set_option linter.unusedVariables false
set_option maxRecDepth 100000

end Go.Proofs.YthenefjoidckkaaGreatDoor

/- The landed code: bytesOf. -/
namespace Go.Proofs.YthenefjoidckkaaGreatDoor
open Go.RowKit
set_option linter.unusedVariables false
set_option maxRecDepth 100000

def sizesR (rs : List InR) : Nat := (rs.map fun r => 16 + 8 * r.s.n).sum
/-- An instruction that may be handed in. -/
structure InArg (w : World) (r : InR) : Prop where
  ls : Ls 2 cac w r.s.a r.s.n r.x.cs
  cs : ∀ c ∈ r.x.cs, Rg c.key ∧ Rg c.to_
  op : Rg r.x.op
  a : Rg r.x.a
  b : Rg r.x.b
end Go.Proofs.YthenefjoidckkaaGreatDoor

/- The landed code: same. -/
namespace Go.Proofs.YthenefjoidckkaaGreatDoor
open Go.RowKit
set_option linter.unusedVariables false
set_option maxRecDepth 100000

end Go.Proofs.YthenefjoidckkaaGreatDoor

/- The landed code: same, two lists of instructions held against one another. -/
namespace Go.Proofs.YthenefjoidckkaaGreatDoor
open Go.RowKit
set_option linter.unusedVariables false
set_option maxRecDepth 100000

end Go.Proofs.YthenefjoidckkaaGreatDoor

/- The landed code: Encode. -/
namespace Go.Proofs.YthenefjoidckkaaGreatDoor
open Go.RowKit
set_option linter.unusedVariables false
set_option maxRecDepth 100000

end Go.Proofs.YthenefjoidckkaaGreatDoor
