/- Joined: CfI CfJ CfK CfGp. -/
import Derived.Test.YthenefjoidckkaaGreatDoorJP
import Derived.Test.YthenefjoidckkaaGreatDoorJQ

/- The landed code: Targets. -/
namespace Go.Proofs.YthenefjoidckkaaGreatDoor
open Go.RowKit
set_option linter.unusedVariables false
set_option maxRecDepth 100000

end Go.Proofs.YthenefjoidckkaaGreatDoor

/- The landed code: a search in instructions that stand in order. -/
namespace Go.Proofs.YthenefjoidckkaaGreatDoor
open Go.RowKit
set_option linter.unusedVariables false
set_option maxRecDepth 100000

/-- An instruction, and where its cases lie. -/
structure InR where
  x : Ins
  s : Sl
end Go.Proofs.YthenefjoidckkaaGreatDoor

/- The landed code: staysWithin. -/
namespace Go.Proofs.YthenefjoidckkaaGreatDoor
open Go.RowKit
set_option linter.unusedVariables false
set_option maxRecDepth 100000

end Go.Proofs.YthenefjoidckkaaGreatDoor

/- The landed code: an instruction read, as plain values by its form. -/
namespace Go.Proofs.YthenefjoidckkaaGreatDoor
open Go.RowKit
set_option linter.unusedVariables false
set_option maxRecDepth 100000

def InsFit (x : Ins) : Prop := (-9000000000000000000 ≤ x.at_ ∧ x.at_ ≤ 9000000000000000000) ∧ (-9000000000000000000 ≤ x.op ∧ x.op ≤ 9000000000000000000) ∧ (-9000000000000000000 ≤ x.a ∧ x.a ≤ 9000000000000000000) ∧ (-9000000000000000000 ≤ x.b ∧ x.b ≤ 9000000000000000000) ∧ (∀ c ∈ x.cs, CasFit c) ∧ x.cs.length ≤ 256
end Go.Proofs.YthenefjoidckkaaGreatDoor
