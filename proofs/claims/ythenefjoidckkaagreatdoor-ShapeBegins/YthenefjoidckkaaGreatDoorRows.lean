/-
  NARROWER THAN 'FOR EVERY INPUT', by the rows' own cells (each row's printed sentence says how): ShapeBegins: laid · ShapeWeaker: laid · ShapeSizes: laid · ShapeSelf: laid.
  DERIVED. THE GIVEN ROWS OF THIS SEAT. 4 by the template 'for every input the law returns true; each argument reads behind the call as it read before'; 0 by the template 'total and deterministic' (their statements: YthenefjoidckkaaGreatDoorTotals.lean).
  GIVEN WITH THE SEED: the statements are not yours to turn. If you find one false, say at which input.
  Laid BY PROGRAM, IN A SANDBOX (cutbox-rows.mjs): the forced cells as the released guide's own fill.sh prints them over the translation 475521fb711aad3c… (all of the seat's roots in one cut). By AI agents, Wed Nov 11 2026. No macro, syntax, notation, axiom, sorry.
-/
import Derived.Test.YthenefjoidckkaaGreatDoorChecked
import GoSem.Claim
import GoSem.ClaimJoined
import GoSem.ClaimMapViews
import Derived.JoinedTies
import Derived.KernelRfl
namespace Go.Proofs.YthenefjoidckkaaGreatDoor
/- THE CELL 'sum', in the pinned program and in every row, IS THE sha256 OF THE DUMP (.gsa) THAT YthenefjoidckkaaGreatDoorProg.lean LOADS. Nothing in Lean hashes anything: it is a label: what it is worth is what the hold of that sum in a sandbox is worth. -/
noncomputable def Tryz.pinned : Pinned := { name := "ythenefjoidckkaagreatdoor", sum := "475521fb711aad3cb14ed615c4d7e7abece208e90358cf47a1fcd2e3d40fc848", checked := Tryz.checked }
namespace Rows
def none {H : Type} : Left H := { results := [], args := [] }

/- WHAT THE LISTED PACKAGE-LEVEL VARIABLES READ AS WHEN THE CALL BEGINS. Each datum BY PROGRAM (the guide's laid-datum.mjs) off the statement by which the dump's own 'gosem.cut.vars' lays the variable. In a bare row this is a premise. The card (YthenefjoidckkaaGreatDoorCards.lean) ties it to the program's text. -/
def laid_larch_code_shortForms {H : Type} : DataW H := .agg [.agg [.lit (.int .i64 2), .lit (.int .i64 8), .lit (.int .i64 17), .lit (.int .i64 (-1))], .agg [.lit (.int .i64 10), .lit (.int .i64 10), .lit (.int .i64 9), .lit (.int .i64 1)], .agg [.lit (.int .i64 26), .lit (.int .i64 29), .lit (.int .i64 21), .lit (.int .i64 0)], .agg [.lit (.int .i64 30), .lit (.int .i64 33), .lit (.int .i64 22), .lit (.int .i64 0)], .agg [.lit (.int .i64 42), .lit (.int .i64 45), .lit (.int .i64 25), .lit (.int .i64 0)], .agg [.lit (.int .i64 59), .lit (.int .i64 62), .lit (.int .i64 54), .lit (.int .i64 0)], .agg [.lit (.int .i64 63), .lit (.int .i64 66), .lit (.int .i64 55), .lit (.int .i64 0)], .agg [.lit (.int .i64 75), .lit (.int .i64 78), .lit (.int .i64 58), .lit (.int .i64 0)]]

/-- 'larchlaw11.ShapeBegins': WHATEVER THE INPUT: true; the input reads as it did. -/
def shapeBeginsSpec : ChangeSpec := { name := "shapeBegins", fn := fun _ => fun
  | [d1, d2, d3, d4, d5] => { results := [.lit (.bool true)], args := [d1, d2, d3, d4, d5] }
  | _ => none }
def shapeBeginsRow : OpenClaim := { program := "ythenefjoidckkaagreatdoor", sum := "475521fb711aad3cb14ed615c4d7e7abece208e90358cf47a1fcd2e3d40fc848", func := "larch/larchlaw11.ShapeBegins", spec := "shapeBegins", inPlace := ["internal/bytealg.IndexByteString", "slices.overlaps[larch/api.Type]"], unfollowed := true, recurses := true, named := ["larch/code.shortForms"], apart := false, laid := [("larch/code.shortForms", laid_larch_code_shortForms)] }
def ShapeBeginsSaid : Prop := shapeBeginsRow.holds Tryz.pinned (OpenSpec.ofChange shapeBeginsSpec)

/-- ITS FALSE NEIGHBOUR: 'it returns false'. Refute it at one input. -/
def shapeBeginsWrong : ChangeSpec := { name := "shapeBegins", fn := fun _ => fun
  | [d1, d2, d3, d4, d5] => { results := [.lit (.bool false)], args := [d1, d2, d3, d4, d5] }
  | _ => none }
def ShapeBeginsWrongFalsely : Prop := shapeBeginsRow.holds Tryz.pinned (OpenSpec.ofChange shapeBeginsWrong)

/-- 'larchlaw11.ShapeWeaker': WHATEVER THE INPUT: true; the input reads as it did. -/
def shapeWeakerSpec : ChangeSpec := { name := "shapeWeaker", fn := fun _ => fun
  | [d1, d2, d3, d4] => { results := [.lit (.bool true)], args := [d1, d2, d3, d4] }
  | _ => none }
def shapeWeakerRow : OpenClaim := { program := "ythenefjoidckkaagreatdoor", sum := "475521fb711aad3cb14ed615c4d7e7abece208e90358cf47a1fcd2e3d40fc848", func := "larch/larchlaw11.ShapeWeaker", spec := "shapeWeaker", inPlace := ["internal/bytealg.IndexByteString"], unfollowed := true, recurses := true, named := ["larch/code.shortForms"], apart := false, laid := [("larch/code.shortForms", laid_larch_code_shortForms)] }
def ShapeWeakerSaid : Prop := shapeWeakerRow.holds Tryz.pinned (OpenSpec.ofChange shapeWeakerSpec)

/-- ITS FALSE NEIGHBOUR: 'it returns false'. Refute it at one input. -/
def shapeWeakerWrong : ChangeSpec := { name := "shapeWeaker", fn := fun _ => fun
  | [d1, d2, d3, d4] => { results := [.lit (.bool false)], args := [d1, d2, d3, d4] }
  | _ => none }
def ShapeWeakerWrongFalsely : Prop := shapeWeakerRow.holds Tryz.pinned (OpenSpec.ofChange shapeWeakerWrong)

/-- 'larchlaw11.ShapeSizes': WHATEVER THE INPUT: true; the input reads as it did. -/
def shapeSizesSpec : ChangeSpec := { name := "shapeSizes", fn := fun _ => fun
  | [d1, d2, d3] => { results := [.lit (.bool true)], args := [d1, d2, d3] }
  | _ => none }
def shapeSizesRow : OpenClaim := { program := "ythenefjoidckkaagreatdoor", sum := "475521fb711aad3cb14ed615c4d7e7abece208e90358cf47a1fcd2e3d40fc848", func := "larch/larchlaw11.ShapeSizes", spec := "shapeSizes", inPlace := ["internal/bytealg.IndexByteString"], unfollowed := true, recurses := true, named := ["larch/code.shortForms"], apart := false, laid := [("larch/code.shortForms", laid_larch_code_shortForms)] }
def ShapeSizesSaid : Prop := shapeSizesRow.holds Tryz.pinned (OpenSpec.ofChange shapeSizesSpec)

/-- ITS FALSE NEIGHBOUR: 'it returns false'. Refute it at one input. -/
def shapeSizesWrong : ChangeSpec := { name := "shapeSizes", fn := fun _ => fun
  | [d1, d2, d3] => { results := [.lit (.bool false)], args := [d1, d2, d3] }
  | _ => none }
def ShapeSizesWrongFalsely : Prop := shapeSizesRow.holds Tryz.pinned (OpenSpec.ofChange shapeSizesWrong)

/-- 'larchlaw11.ShapeSelf': WHATEVER THE INPUT: true; the input reads as it did. -/
def shapeSelfSpec : ChangeSpec := { name := "shapeSelf", fn := fun _ => fun
  | [d1, d2] => { results := [.lit (.bool true)], args := [d1, d2] }
  | _ => none }
def shapeSelfRow : OpenClaim := { program := "ythenefjoidckkaagreatdoor", sum := "475521fb711aad3cb14ed615c4d7e7abece208e90358cf47a1fcd2e3d40fc848", func := "larch/larchlaw11.ShapeSelf", spec := "shapeSelf", inPlace := ["internal/bytealg.IndexByteString"], unfollowed := true, recurses := true, named := ["larch/code.shortForms"], apart := false, laid := [("larch/code.shortForms", laid_larch_code_shortForms)] }
def ShapeSelfSaid : Prop := shapeSelfRow.holds Tryz.pinned (OpenSpec.ofChange shapeSelfSpec)

/-- ITS FALSE NEIGHBOUR: 'it returns false'. Refute it at one input. -/
def shapeSelfWrong : ChangeSpec := { name := "shapeSelf", fn := fun _ => fun
  | [d1, d2] => { results := [.lit (.bool false)], args := [d1, d2] }
  | _ => none }
def ShapeSelfWrongFalsely : Prop := shapeSelfRow.holds Tryz.pinned (OpenSpec.ofChange shapeSelfWrong)

/- THE SECOND FORM. 'bulk': how many values and letters a reading holds, each counted each time it is reached (what is shared counts as often as it is met; a slice's spare places count too). A statement '..UptoSaid' is the law's where the arguments, and the package variables that the reading takes, are together of bulk at most 1048576: NARROWER than '..Said'. Prove '..Said' where nothing that the law and all that it calls make is longer than what came in: it says more and counts as full. Else prove '..UptoSaid'. A law counts once. -/
mutual
def uptoBulk {H : Type} : DataW H → Nat
  | .lit (.string bytes) => bytes.length + 1
  | .lit _ => 1
  | .nil => 1
  | .ptr d => uptoBulk d + 1
  | .slice elems spare => uptoBulkAll elems + uptoBulkAll spare + 1
  | .agg parts => uptoBulkAll parts + 1
  | .iface _ d => uptoBulk d + 1
  | .map entries => uptoBulkEntries entries + 1
  | .held _ => 1
def uptoBulkAll {H : Type} : List (DataW H) → Nat
  | [] => 0
  | d :: r => uptoBulk d + uptoBulkAll r
def uptoBulkEntries {H : Type} : List (Lit × DataW H) → Nat
  | [] => 0
  | x :: r => uptoBulkEntry x + uptoBulkEntries r
def uptoBulkEntry {H : Type} : Lit × DataW H → Nat
  | (.string bytes, d) => bytes.length + uptoBulk d + 1
  | (_, d) => uptoBulk d + 1
 end
def uptoSmall : (H : Type) → List (DataW H) → Bool := fun _ ds => decide (uptoBulkAll ds ≤ 1048576)
def OpenSpec.upto (s : _root_.Go.ChangeSpec) : _root_.Go.OpenSpec := { _root_.Go.OpenSpec.ofChange s with cond := some uptoSmall }

/-- 'larchlaw11.ShapeBegins', WHERE WHAT IT READS IS OF BULK AT MOST 1048576: true; the input reads as it did. -/
def shapeBeginsUptoRow : OpenClaim := { program := "ythenefjoidckkaagreatdoor", sum := "475521fb711aad3cb14ed615c4d7e7abece208e90358cf47a1fcd2e3d40fc848", func := "larch/larchlaw11.ShapeBegins", spec := "shapeBegins", inPlace := ["internal/bytealg.IndexByteString", "slices.overlaps[larch/api.Type]"], unfollowed := true, recurses := true, named := ["larch/code.shortForms"], apart := false, laid := [("larch/code.shortForms", laid_larch_code_shortForms)], narrowed := true }
def ShapeBeginsUptoSaid : Prop := shapeBeginsUptoRow.holds Tryz.pinned (OpenSpec.upto shapeBeginsSpec)

/-- 'larchlaw11.ShapeWeaker', WHERE WHAT IT READS IS OF BULK AT MOST 1048576: true; the input reads as it did. -/
def shapeWeakerUptoRow : OpenClaim := { program := "ythenefjoidckkaagreatdoor", sum := "475521fb711aad3cb14ed615c4d7e7abece208e90358cf47a1fcd2e3d40fc848", func := "larch/larchlaw11.ShapeWeaker", spec := "shapeWeaker", inPlace := ["internal/bytealg.IndexByteString"], unfollowed := true, recurses := true, named := ["larch/code.shortForms"], apart := false, laid := [("larch/code.shortForms", laid_larch_code_shortForms)], narrowed := true }
def ShapeWeakerUptoSaid : Prop := shapeWeakerUptoRow.holds Tryz.pinned (OpenSpec.upto shapeWeakerSpec)

/-- 'larchlaw11.ShapeSizes', WHERE WHAT IT READS IS OF BULK AT MOST 1048576: true; the input reads as it did. -/
def shapeSizesUptoRow : OpenClaim := { program := "ythenefjoidckkaagreatdoor", sum := "475521fb711aad3cb14ed615c4d7e7abece208e90358cf47a1fcd2e3d40fc848", func := "larch/larchlaw11.ShapeSizes", spec := "shapeSizes", inPlace := ["internal/bytealg.IndexByteString"], unfollowed := true, recurses := true, named := ["larch/code.shortForms"], apart := false, laid := [("larch/code.shortForms", laid_larch_code_shortForms)], narrowed := true }
def ShapeSizesUptoSaid : Prop := shapeSizesUptoRow.holds Tryz.pinned (OpenSpec.upto shapeSizesSpec)

/-- 'larchlaw11.ShapeSelf', WHERE WHAT IT READS IS OF BULK AT MOST 1048576: true; the input reads as it did. -/
def shapeSelfUptoRow : OpenClaim := { program := "ythenefjoidckkaagreatdoor", sum := "475521fb711aad3cb14ed615c4d7e7abece208e90358cf47a1fcd2e3d40fc848", func := "larch/larchlaw11.ShapeSelf", spec := "shapeSelf", inPlace := ["internal/bytealg.IndexByteString"], unfollowed := true, recurses := true, named := ["larch/code.shortForms"], apart := false, laid := [("larch/code.shortForms", laid_larch_code_shortForms)], narrowed := true }
def ShapeSelfUptoSaid : Prop := shapeSelfUptoRow.holds Tryz.pinned (OpenSpec.upto shapeSelfSpec)

end Rows
end Go.Proofs.YthenefjoidckkaaGreatDoor
