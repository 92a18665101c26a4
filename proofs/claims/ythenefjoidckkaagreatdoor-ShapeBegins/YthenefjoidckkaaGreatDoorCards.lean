/-
  DERIVED. GIVEN WITH THE SEED: THE CARDS: each row of YthenefjoidckkaaGreatDoorRows.lean that lists a variable, with what it lists TIED to the program's text (the seventh form; the later family's looks); each row that meets fmt, with fmt's text TOLD by the authors' own Lean function (tested against real Go, not proved from fmt's source: count such statements apart). THE CARD IS WHAT COUNTS. Prove the row's statement (the work); the ties are given (YthenefjoidckkaaGreatDoorTie.lean); close each card by the builder's one call (the guide's Derived/Test/ToyasCard.lean, 'card_holds'). Laid BY PROGRAM, IN A SANDBOX (cutbox-door.mjs). By AI agents, Wed Nov 11 2026. No macro, syntax, notation, axiom, sorry.
-/
import Derived.Test.YthenefjoidckkaaGreatDoorRows
import GoSem.ClaimSeven
namespace Go.Proofs.YthenefjoidckkaaGreatDoor
namespace Rows

/-- THE TIED CARD OF 'larchlaw11.ShapeBegins'. -/
def shapeBeginsCard : Claim7 := { stood := { row := shapeBeginsRow, standIns := [], harness := (true, "d20ef36b7eb581c665edafe5d5f9fd8241d75d7415787de5ff41f3a12074c536"), looks := false }, kinds := [], alts := [], laidByText := true, laidKinds := [.data], laidTests := true, laidLooks := .later }
def ShapeBeginsCardSaid : Prop := Claim7.holds Tryz.pinned (.plain (OpenSpec.ofChange shapeBeginsSpec)) shapeBeginsCard

/-- THE TIED CARD OF 'larchlaw11.ShapeWeaker'. -/
def shapeWeakerCard : Claim7 := { stood := { row := shapeWeakerRow, standIns := [], harness := (true, "d20ef36b7eb581c665edafe5d5f9fd8241d75d7415787de5ff41f3a12074c536"), looks := false }, kinds := [], alts := [], laidByText := true, laidKinds := [.data], laidTests := true, laidLooks := .later }
def ShapeWeakerCardSaid : Prop := Claim7.holds Tryz.pinned (.plain (OpenSpec.ofChange shapeWeakerSpec)) shapeWeakerCard

/-- THE TIED CARD OF 'larchlaw11.ShapeSizes'. -/
def shapeSizesCard : Claim7 := { stood := { row := shapeSizesRow, standIns := [], harness := (true, "d20ef36b7eb581c665edafe5d5f9fd8241d75d7415787de5ff41f3a12074c536"), looks := false }, kinds := [], alts := [], laidByText := true, laidKinds := [.data], laidTests := true, laidLooks := .later }
def ShapeSizesCardSaid : Prop := Claim7.holds Tryz.pinned (.plain (OpenSpec.ofChange shapeSizesSpec)) shapeSizesCard

/-- THE TIED CARD OF 'larchlaw11.ShapeSelf'. -/
def shapeSelfCard : Claim7 := { stood := { row := shapeSelfRow, standIns := [], harness := (true, "d20ef36b7eb581c665edafe5d5f9fd8241d75d7415787de5ff41f3a12074c536"), looks := false }, kinds := [], alts := [], laidByText := true, laidKinds := [.data], laidTests := true, laidLooks := .later }
def ShapeSelfCardSaid : Prop := Claim7.holds Tryz.pinned (.plain (OpenSpec.ofChange shapeSelfSpec)) shapeSelfCard

/-- THE SECOND FORM's CARD OF 'larchlaw11.ShapeBegins'. -/
def shapeBeginsUptoCard : Claim7 := { stood := { row := shapeBeginsUptoRow, standIns := [], harness := (true, "d20ef36b7eb581c665edafe5d5f9fd8241d75d7415787de5ff41f3a12074c536"), looks := false }, kinds := [], alts := [], laidByText := true, laidKinds := [.data], laidTests := true, laidLooks := .later }
def ShapeBeginsUptoCardSaid : Prop := Claim7.holds Tryz.pinned (.plain (OpenSpec.upto shapeBeginsSpec)) shapeBeginsUptoCard

/-- THE SECOND FORM's CARD OF 'larchlaw11.ShapeWeaker'. -/
def shapeWeakerUptoCard : Claim7 := { stood := { row := shapeWeakerUptoRow, standIns := [], harness := (true, "d20ef36b7eb581c665edafe5d5f9fd8241d75d7415787de5ff41f3a12074c536"), looks := false }, kinds := [], alts := [], laidByText := true, laidKinds := [.data], laidTests := true, laidLooks := .later }
def ShapeWeakerUptoCardSaid : Prop := Claim7.holds Tryz.pinned (.plain (OpenSpec.upto shapeWeakerSpec)) shapeWeakerUptoCard

/-- THE SECOND FORM's CARD OF 'larchlaw11.ShapeSizes'. -/
def shapeSizesUptoCard : Claim7 := { stood := { row := shapeSizesUptoRow, standIns := [], harness := (true, "d20ef36b7eb581c665edafe5d5f9fd8241d75d7415787de5ff41f3a12074c536"), looks := false }, kinds := [], alts := [], laidByText := true, laidKinds := [.data], laidTests := true, laidLooks := .later }
def ShapeSizesUptoCardSaid : Prop := Claim7.holds Tryz.pinned (.plain (OpenSpec.upto shapeSizesSpec)) shapeSizesUptoCard

/-- THE SECOND FORM's CARD OF 'larchlaw11.ShapeSelf'. -/
def shapeSelfUptoCard : Claim7 := { stood := { row := shapeSelfUptoRow, standIns := [], harness := (true, "d20ef36b7eb581c665edafe5d5f9fd8241d75d7415787de5ff41f3a12074c536"), looks := false }, kinds := [], alts := [], laidByText := true, laidKinds := [.data], laidTests := true, laidLooks := .later }
def ShapeSelfUptoCardSaid : Prop := Claim7.holds Tryz.pinned (.plain (OpenSpec.upto shapeSelfSpec)) shapeSelfUptoCard
end Rows
end Go.Proofs.YthenefjoidckkaaGreatDoor
