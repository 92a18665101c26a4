/- What the walks of stage 8's laws ask of the program's class; works8. -/
import Derived.Test.YtpmhcignenfhgaaDoorJClC
import Derived.Test.YtpmhcignenfhgaaDoorJB

namespace Go.Proofs.YtpmhcignenfhgaaDoor
open Go.RowKit
set_option linter.unusedVariables false
set_option maxRecDepth 100000

/-- The error of a class; its bytes, where there is none. -/
def errK (c : Cl) : Int := if rightK c = false then 80 else if 32768 < (bytesK c).length then 3 else 0
def printK (c : Cl) : List UInt8 := if errK c = 0 then bytesK c else []
def cl0 : Cl := ⟨[], [], [], [], []⟩
def parseK (bs : List UInt8) : Cl × Int := if 32768 < bs.length then (cl0, 3) else match readK bs with
  | none => (cl0, 80)
  | some c => if rightK c = true ∧ bytesK c = bs then (c, 0) else (cl0, 80)
/-- The place of the first method with that name and that type. -/
def findK (ms : List Md) (s t : List UInt8) : Int × Int := match ms.findIdx? (fun m => decide (m.name = s ∧ m.type = t)) with
  | some i => ((i : Int), 0)
  | none => (0, 5)
def plEx : List Ent := [ent0, eUtf [97], ⟨7, [], 0, 1, 0⟩]
def clEx : Cl := ⟨plEx, [97], [], [], []⟩
def bytesEx : List UInt8 := [202, 254, 186, 190, 0, 0, 0, 52, 0, 3, 1, 0, 1, 97, 7, 0, 1, 0, 33, 0, 2, 0, 0, 0, 0, 0, 0, 0, 0, 0, 0]
theorem errEx : errK clEx = 0 := by decide +kernel
theorem printEx : printK clEx = bytesEx := by decide +kernel

/-- The chapter's class in memory. -/
def exR (z : Nat) : ClR := ⟨clEx, ⟨some ⟨z, 0, none⟩, 3, 3⟩, ⟨none, 0, 0⟩, ⟨none, 0, 0⟩, []⟩
theorem lin_none {α : Type} {sz by_ : Nat} {cs : α → List Value} {ok : α → Prop} {w : World} : LIn sz by_ cs ok w ⟨none, 0, 0⟩ [] :=
  ⟨⟨rfl, .inl rfl⟩, Nat.le_refl _, by decide, fun _ => ⟨rfl, rfl⟩, by simp, fun x hx => by cases hx⟩
end Go.Proofs.YtpmhcignenfhgaaDoor
