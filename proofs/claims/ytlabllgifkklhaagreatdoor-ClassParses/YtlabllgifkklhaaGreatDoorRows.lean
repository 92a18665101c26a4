/-
  NARROWER THAN 'FOR EVERY INPUT', by the rows' own cells (each row's printed sentence says how): ClassPrints: laid · ClassParses: laid · ClassBack: laid · ClassCuts: laid.
  DERIVED. THE GIVEN ROWS OF THIS SEAT. 4 by the template 'for every input the law returns true; each argument reads behind the call as it read before'; 0 by the template 'total and deterministic' (their statements: YtlabllgifkklhaaGreatDoorTotals.lean).
  GIVEN WITH THE SEED: the statements are not yours to turn. If you find one false, say at which input.
  Laid BY PROGRAM, IN A SANDBOX (cutbox-rows.mjs): the forced cells as the released guide's own fill.sh prints them over the translation 59512842dc717ecb… (all of the seat's roots in one cut). By AI agents, Wed Nov 11 2026. No macro, syntax, notation, axiom, sorry.
-/
import Derived.Test.YtlabllgifkklhaaGreatDoorChecked
import GoSem.Claim
import GoSem.ClaimJoined
import GoSem.ClaimMapViews
import Derived.JoinedTies
import Derived.KernelRfl
namespace Go.Proofs.YtlabllgifkklhaaGreatDoor
/- THE CELL 'sum', in the pinned program and in every row, IS THE sha256 OF THE DUMP (.gsa) THAT YtlabllgifkklhaaGreatDoorProg.lean LOADS. Nothing in Lean hashes anything: it is a label: what it is worth is what the hold of that sum in a sandbox is worth. -/
noncomputable def Tryz.pinned : Pinned := { name := "ytlabllgifkklhaagreatdoor", sum := "59512842dc717ecbd320e38f40e0edc5008640ec4ed040e0dfe807cd26903ce0", checked := Tryz.checked }
namespace Rows
def none {H : Type} : Left H := { results := [], args := [] }

/- WHAT THE LISTED PACKAGE-LEVEL VARIABLES READ AS WHEN THE CALL BEGINS. Each datum BY PROGRAM (the guide's laid-datum.mjs) off the statement by which the dump's own 'gosem.cut.vars' lays the variable. In a bare row this is a premise. The card (YtlabllgifkklhaaGreatDoorCards.lean) ties it to the program's text. -/
def laid_larch_class_kindBytes {H : Type} : DataW H := .agg [.lit (.int .i64 0), .lit (.int .i64 1), .lit (.int .i64 4), .lit (.int .i64 5), .lit (.int .i64 7)]

/-- 'larchlaw08.ClassPrints': WHATEVER THE INPUT: true; the input reads as it did. -/
def classPrintsSpec : ChangeSpec := { name := "classPrints", fn := fun _ => fun
  | [d] => { results := [.lit (.bool true)], args := [d] }
  | _ => none }
def classPrintsRow : OpenClaim := { program := "ytlabllgifkklhaagreatdoor", sum := "59512842dc717ecbd320e38f40e0edc5008640ec4ed040e0dfe807cd26903ce0", func := "larch/larchlaw08.ClassPrints", spec := "classPrints", unfollowed := true, recurses := true, named := ["larch/class.kindBytes"], apart := false, laid := [("larch/class.kindBytes", laid_larch_class_kindBytes)] }
def ClassPrintsSaid : Prop := classPrintsRow.holds Tryz.pinned (OpenSpec.ofChange classPrintsSpec)

/-- ITS FALSE NEIGHBOUR: 'it returns false'. Refute it at one input. -/
def classPrintsWrong : ChangeSpec := { name := "classPrints", fn := fun _ => fun
  | [d] => { results := [.lit (.bool false)], args := [d] }
  | _ => none }
def ClassPrintsWrongFalsely : Prop := classPrintsRow.holds Tryz.pinned (OpenSpec.ofChange classPrintsWrong)

/-- 'larchlaw08.ClassParses': WHATEVER THE INPUT: true; the input reads as it did. -/
def classParsesSpec : ChangeSpec := { name := "classParses", fn := fun _ => fun
  | [d] => { results := [.lit (.bool true)], args := [d] }
  | _ => none }
def classParsesRow : OpenClaim := { program := "ytlabllgifkklhaagreatdoor", sum := "59512842dc717ecbd320e38f40e0edc5008640ec4ed040e0dfe807cd26903ce0", func := "larch/larchlaw08.ClassParses", spec := "classParses", unfollowed := true, recurses := true, named := ["larch/class.kindBytes"], apart := false, laid := [("larch/class.kindBytes", laid_larch_class_kindBytes)] }
def ClassParsesSaid : Prop := classParsesRow.holds Tryz.pinned (OpenSpec.ofChange classParsesSpec)

/-- ITS FALSE NEIGHBOUR: 'it returns false'. Refute it at one input. -/
def classParsesWrong : ChangeSpec := { name := "classParses", fn := fun _ => fun
  | [d] => { results := [.lit (.bool false)], args := [d] }
  | _ => none }
def ClassParsesWrongFalsely : Prop := classParsesRow.holds Tryz.pinned (OpenSpec.ofChange classParsesWrong)

/-- 'larchlaw08.ClassBack': WHATEVER THE INPUT: true; the input reads as it did. -/
def classBackSpec : ChangeSpec := { name := "classBack", fn := fun _ => fun
  | [d1, d2] => { results := [.lit (.bool true)], args := [d1, d2] }
  | _ => none }
def classBackRow : OpenClaim := { program := "ytlabllgifkklhaagreatdoor", sum := "59512842dc717ecbd320e38f40e0edc5008640ec4ed040e0dfe807cd26903ce0", func := "larch/larchlaw08.ClassBack", spec := "classBack", unfollowed := true, recurses := true, named := ["larch/class.kindBytes"], apart := false, laid := [("larch/class.kindBytes", laid_larch_class_kindBytes)] }
def ClassBackSaid : Prop := classBackRow.holds Tryz.pinned (OpenSpec.ofChange classBackSpec)

/-- ITS FALSE NEIGHBOUR: 'it returns false'. Refute it at one input. -/
def classBackWrong : ChangeSpec := { name := "classBack", fn := fun _ => fun
  | [d1, d2] => { results := [.lit (.bool false)], args := [d1, d2] }
  | _ => none }
def ClassBackWrongFalsely : Prop := classBackRow.holds Tryz.pinned (OpenSpec.ofChange classBackWrong)

/-- 'larchlaw08.ClassCuts': WHATEVER THE INPUT: true; the input reads as it did. -/
def classCutsSpec : ChangeSpec := { name := "classCuts", fn := fun _ => fun
  | [d1, d2, d3] => { results := [.lit (.bool true)], args := [d1, d2, d3] }
  | _ => none }
def classCutsRow : OpenClaim := { program := "ytlabllgifkklhaagreatdoor", sum := "59512842dc717ecbd320e38f40e0edc5008640ec4ed040e0dfe807cd26903ce0", func := "larch/larchlaw08.ClassCuts", spec := "classCuts", unfollowed := true, recurses := true, named := ["larch/class.kindBytes"], apart := false, laid := [("larch/class.kindBytes", laid_larch_class_kindBytes)] }
def ClassCutsSaid : Prop := classCutsRow.holds Tryz.pinned (OpenSpec.ofChange classCutsSpec)

/-- ITS FALSE NEIGHBOUR: 'it returns false'. Refute it at one input. -/
def classCutsWrong : ChangeSpec := { name := "classCuts", fn := fun _ => fun
  | [d1, d2, d3] => { results := [.lit (.bool false)], args := [d1, d2, d3] }
  | _ => none }
def ClassCutsWrongFalsely : Prop := classCutsRow.holds Tryz.pinned (OpenSpec.ofChange classCutsWrong)

/- THE SECOND FORM. 'bulk': how many values and letters a reading holds, each counted each time it is reached (what is shared counts as often as it is met; a slice's spare places count too). A statement '..UptoSaid' is the law's where the arguments, and the package variables that the reading takes, are together of bulk at most 1048576: NARROWER than '..Said'. Prove '..Said' where nothing that the law and all that it calls make is longer than what came in: it says more and counts as full. Else prove '..UptoSaid'. A law counts once. -/
mutual
def uptoBulk {H : Type} : DataW H → Nat
  | .lit (.string bytes) => bytes.length + 1
  | .lit _ => 1
  | .nil => 1
  | .ptr d => uptoBulk d + 1
  | .slice elems spare => uptoBulkAll elems + uptoBulkAll spare + 1
  | .agg parts => uptoBulkAll parts + 1
  | .iface _ d => uptoBulk d + 1
  | .map entries => uptoBulkEntries entries + 1
  | .held _ => 1
def uptoBulkAll {H : Type} : List (DataW H) → Nat
  | [] => 0
  | d :: r => uptoBulk d + uptoBulkAll r
def uptoBulkEntries {H : Type} : List (Lit × DataW H) → Nat
  | [] => 0
  | x :: r => uptoBulkEntry x + uptoBulkEntries r
def uptoBulkEntry {H : Type} : Lit × DataW H → Nat
  | (.string bytes, d) => bytes.length + uptoBulk d + 1
  | (_, d) => uptoBulk d + 1
 end
def uptoSmall : (H : Type) → List (DataW H) → Bool := fun _ ds => decide (uptoBulkAll ds ≤ 1048576)
def OpenSpec.upto (s : _root_.Go.ChangeSpec) : _root_.Go.OpenSpec := { _root_.Go.OpenSpec.ofChange s with cond := some uptoSmall }

/-- 'larchlaw08.ClassPrints', WHERE WHAT IT READS IS OF BULK AT MOST 1048576: true; the input reads as it did. -/
def classPrintsUptoRow : OpenClaim := { program := "ytlabllgifkklhaagreatdoor", sum := "59512842dc717ecbd320e38f40e0edc5008640ec4ed040e0dfe807cd26903ce0", func := "larch/larchlaw08.ClassPrints", spec := "classPrints", unfollowed := true, recurses := true, named := ["larch/class.kindBytes"], apart := false, laid := [("larch/class.kindBytes", laid_larch_class_kindBytes)], narrowed := true }
def ClassPrintsUptoSaid : Prop := classPrintsUptoRow.holds Tryz.pinned (OpenSpec.upto classPrintsSpec)

/-- 'larchlaw08.ClassParses', WHERE WHAT IT READS IS OF BULK AT MOST 1048576: true; the input reads as it did. -/
def classParsesUptoRow : OpenClaim := { program := "ytlabllgifkklhaagreatdoor", sum := "59512842dc717ecbd320e38f40e0edc5008640ec4ed040e0dfe807cd26903ce0", func := "larch/larchlaw08.ClassParses", spec := "classParses", unfollowed := true, recurses := true, named := ["larch/class.kindBytes"], apart := false, laid := [("larch/class.kindBytes", laid_larch_class_kindBytes)], narrowed := true }
def ClassParsesUptoSaid : Prop := classParsesUptoRow.holds Tryz.pinned (OpenSpec.upto classParsesSpec)

/-- 'larchlaw08.ClassBack', WHERE WHAT IT READS IS OF BULK AT MOST 1048576: true; the input reads as it did. -/
def classBackUptoRow : OpenClaim := { program := "ytlabllgifkklhaagreatdoor", sum := "59512842dc717ecbd320e38f40e0edc5008640ec4ed040e0dfe807cd26903ce0", func := "larch/larchlaw08.ClassBack", spec := "classBack", unfollowed := true, recurses := true, named := ["larch/class.kindBytes"], apart := false, laid := [("larch/class.kindBytes", laid_larch_class_kindBytes)], narrowed := true }
def ClassBackUptoSaid : Prop := classBackUptoRow.holds Tryz.pinned (OpenSpec.upto classBackSpec)

/-- 'larchlaw08.ClassCuts', WHERE WHAT IT READS IS OF BULK AT MOST 1048576: true; the input reads as it did. -/
def classCutsUptoRow : OpenClaim := { program := "ytlabllgifkklhaagreatdoor", sum := "59512842dc717ecbd320e38f40e0edc5008640ec4ed040e0dfe807cd26903ce0", func := "larch/larchlaw08.ClassCuts", spec := "classCuts", unfollowed := true, recurses := true, named := ["larch/class.kindBytes"], apart := false, laid := [("larch/class.kindBytes", laid_larch_class_kindBytes)], narrowed := true }
def ClassCutsUptoSaid : Prop := classCutsUptoRow.holds Tryz.pinned (OpenSpec.upto classCutsSpec)

end Rows
end Go.Proofs.YtlabllgifkklhaaGreatDoor
