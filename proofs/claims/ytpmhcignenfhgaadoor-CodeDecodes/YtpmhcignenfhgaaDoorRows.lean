/-
  NARROWER THAN 'FOR EVERY INPUT', by the rows' own cells (each row's printed sentence says how): CodeDecodes: laid · CodeEncodes: laid · CodeTells: laid · CodeBack: laid · CodeFronts: laid · CodePlain: laid.
  DERIVED. THE GIVEN ROWS OF THIS SEAT. 6 by the template 'for every input the law returns true; each argument reads behind the call as it read before'; 0 by the template 'total and deterministic' (their statements: YtpmhcignenfhgaaDoorTotals.lean).
  GIVEN WITH THE SEED: the statements are not yours to turn. If you find one false, say at which input.
  Laid BY PROGRAM, IN A SANDBOX (cutbox-rows.mjs): the forced cells as the released guide's own fill.sh prints them over the translation 5c9e6a38c27b296a… (all of the seat's roots in one cut). By AI agents, Wed Nov 11 2026. No macro, syntax, notation, axiom, sorry.
-/
import Derived.Test.YtpmhcignenfhgaaDoorChecked
import GoSem.Claim
import GoSem.ClaimJoined
import GoSem.ClaimMapViews
import Derived.JoinedTies
import Derived.KernelRfl
namespace Go.Proofs.YtpmhcignenfhgaaDoor
/- THE CELL 'sum', in the pinned program and in every row, IS THE sha256 OF THE DUMP (.gsa) THAT YtpmhcignenfhgaaDoorProg.lean LOADS. Nothing in Lean hashes anything: it is a label: what it is worth is what the hold of that sum in a sandbox is worth. -/
noncomputable def Tryd.pinned : Pinned := { name := "ytpmhcignenfhgaadoor", sum := "5c9e6a38c27b296a07a1123085c73843e3203a70e7ac7546826b5bb76aa206ec", checked := Tryd.checked }
namespace Rows
def none {H : Type} : Left H := { results := [], args := [] }

/- WHAT THE LISTED PACKAGE-LEVEL VARIABLES READ AS WHEN THE CALL BEGINS. Each datum BY PROGRAM (the guide's laid-datum.mjs) off the statement by which the dump's own 'gosem.cut.vars' lays the variable. In a bare row this is a premise. The card (YtpmhcignenfhgaaDoorCards.lean) ties it to the program's text. -/
def laid_larch_code_formRows {H : Type} : DataW H := .agg [.agg [.lit (.int .i64 0), .lit (.int .i64 10), .lit (.int .i64 1)], .agg [.lit (.int .i64 26), .lit (.int .i64 33), .lit (.int .i64 1)], .agg [.lit (.int .i64 42), .lit (.int .i64 47), .lit (.int .i64 1)], .agg [.lit (.int .i64 50), .lit (.int .i64 51), .lit (.int .i64 1)], .agg [.lit (.int .i64 59), .lit (.int .i64 66), .lit (.int .i64 1)], .agg [.lit (.int .i64 75), .lit (.int .i64 80), .lit (.int .i64 1)], .agg [.lit (.int .i64 83), .lit (.int .i64 84), .lit (.int .i64 1)], .agg [.lit (.int .i64 87), .lit (.int .i64 90), .lit (.int .i64 1)], .agg [.lit (.int .i64 92), .lit (.int .i64 92), .lit (.int .i64 1)], .agg [.lit (.int .i64 95), .lit (.int .i64 97), .lit (.int .i64 1)], .agg [.lit (.int .i64 100), .lit (.int .i64 101), .lit (.int .i64 1)], .agg [.lit (.int .i64 104), .lit (.int .i64 105), .lit (.int .i64 1)], .agg [.lit (.int .i64 108), .lit (.int .i64 109), .lit (.int .i64 1)], .agg [.lit (.int .i64 112), .lit (.int .i64 113), .lit (.int .i64 1)], .agg [.lit (.int .i64 116), .lit (.int .i64 117), .lit (.int .i64 1)], .agg [.lit (.int .i64 120), .lit (.int .i64 131), .lit (.int .i64 1)], .agg [.lit (.int .i64 133), .lit (.int .i64 133), .lit (.int .i64 1)], .agg [.lit (.int .i64 136), .lit (.int .i64 136), .lit (.int .i64 1)], .agg [.lit (.int .i64 145), .lit (.int .i64 148), .lit (.int .i64 1)], .agg [.lit (.int .i64 172), .lit (.int .i64 173), .lit (.int .i64 1)], .agg [.lit (.int .i64 176), .lit (.int .i64 177), .lit (.int .i64 1)], .agg [.lit (.int .i64 190), .lit (.int .i64 191), .lit (.int .i64 1)], .agg [.lit (.int .i64 194), .lit (.int .i64 195), .lit (.int .i64 1)], .agg [.lit (.int .i64 16), .lit (.int .i64 16), .lit (.int .i64 2)], .agg [.lit (.int .i64 17), .lit (.int .i64 17), .lit (.int .i64 3)], .agg [.lit (.int .i64 18), .lit (.int .i64 18), .lit (.int .i64 4)], .agg [.lit (.int .i64 21), .lit (.int .i64 22), .lit (.int .i64 4)], .agg [.lit (.int .i64 25), .lit (.int .i64 25), .lit (.int .i64 4)], .agg [.lit (.int .i64 54), .lit (.int .i64 55), .lit (.int .i64 4)], .agg [.lit (.int .i64 58), .lit (.int .i64 58), .lit (.int .i64 4)], .agg [.lit (.int .i64 188), .lit (.int .i64 188), .lit (.int .i64 4)], .agg [.lit (.int .i64 19), .lit (.int .i64 20), .lit (.int .i64 5)], .agg [.lit (.int .i64 178), .lit (.int .i64 184), .lit (.int .i64 5)], .agg [.lit (.int .i64 187), .lit (.int .i64 187), .lit (.int .i64 5)], .agg [.lit (.int .i64 189), .lit (.int .i64 189), .lit (.int .i64 5)], .agg [.lit (.int .i64 192), .lit (.int .i64 193), .lit (.int .i64 5)], .agg [.lit (.int .i64 132), .lit (.int .i64 132), .lit (.int .i64 6)], .agg [.lit (.int .i64 153), .lit (.int .i64 167), .lit (.int .i64 7)], .agg [.lit (.int .i64 198), .lit (.int .i64 199), .lit (.int .i64 7)], .agg [.lit (.int .i64 170), .lit (.int .i64 170), .lit (.int .i64 8)], .agg [.lit (.int .i64 171), .lit (.int .i64 171), .lit (.int .i64 9)]]
def laid_larch_code_shortForms {H : Type} : DataW H := .agg [.agg [.lit (.int .i64 2), .lit (.int .i64 8), .lit (.int .i64 17), .lit (.int .i64 (-1))], .agg [.lit (.int .i64 10), .lit (.int .i64 10), .lit (.int .i64 9), .lit (.int .i64 1)], .agg [.lit (.int .i64 26), .lit (.int .i64 29), .lit (.int .i64 21), .lit (.int .i64 0)], .agg [.lit (.int .i64 30), .lit (.int .i64 33), .lit (.int .i64 22), .lit (.int .i64 0)], .agg [.lit (.int .i64 42), .lit (.int .i64 45), .lit (.int .i64 25), .lit (.int .i64 0)], .agg [.lit (.int .i64 59), .lit (.int .i64 62), .lit (.int .i64 54), .lit (.int .i64 0)], .agg [.lit (.int .i64 63), .lit (.int .i64 66), .lit (.int .i64 55), .lit (.int .i64 0)], .agg [.lit (.int .i64 75), .lit (.int .i64 78), .lit (.int .i64 58), .lit (.int .i64 0)]]

/-- 'larchlaw09.CodeDecodes': WHATEVER THE INPUT: true; the input reads as it did. -/
def codeDecodesSpec : ChangeSpec := { name := "codeDecodes", fn := fun _ => fun
  | [d] => { results := [.lit (.bool true)], args := [d] }
  | _ => none }
def codeDecodesRow : OpenClaim := { program := "ytpmhcignenfhgaadoor", sum := "5c9e6a38c27b296a07a1123085c73843e3203a70e7ac7546826b5bb76aa206ec", func := "larch/larchlaw09.CodeDecodes", spec := "codeDecodes", unfollowed := true, recurses := true, named := ["larch/code.formRows", "larch/code.shortForms"], apart := false, laid := [("larch/code.formRows", laid_larch_code_formRows), ("larch/code.shortForms", laid_larch_code_shortForms)] }
def CodeDecodesSaid : Prop := codeDecodesRow.holds Tryd.pinned (OpenSpec.ofChange codeDecodesSpec)

/-- ITS FALSE NEIGHBOUR: 'it returns false'. Refute it at one input. -/
def codeDecodesWrong : ChangeSpec := { name := "codeDecodes", fn := fun _ => fun
  | [d] => { results := [.lit (.bool false)], args := [d] }
  | _ => none }
def CodeDecodesWrongFalsely : Prop := codeDecodesRow.holds Tryd.pinned (OpenSpec.ofChange codeDecodesWrong)

/-- 'larchlaw09.CodeEncodes': WHATEVER THE INPUT: true; the input reads as it did. -/
def codeEncodesSpec : ChangeSpec := { name := "codeEncodes", fn := fun _ => fun
  | [d] => { results := [.lit (.bool true)], args := [d] }
  | _ => none }
def codeEncodesRow : OpenClaim := { program := "ytpmhcignenfhgaadoor", sum := "5c9e6a38c27b296a07a1123085c73843e3203a70e7ac7546826b5bb76aa206ec", func := "larch/larchlaw09.CodeEncodes", spec := "codeEncodes", unfollowed := true, recurses := true, named := ["larch/code.formRows", "larch/code.shortForms"], apart := false, laid := [("larch/code.formRows", laid_larch_code_formRows), ("larch/code.shortForms", laid_larch_code_shortForms)] }
def CodeEncodesSaid : Prop := codeEncodesRow.holds Tryd.pinned (OpenSpec.ofChange codeEncodesSpec)

/-- ITS FALSE NEIGHBOUR: 'it returns false'. Refute it at one input. -/
def codeEncodesWrong : ChangeSpec := { name := "codeEncodes", fn := fun _ => fun
  | [d] => { results := [.lit (.bool false)], args := [d] }
  | _ => none }
def CodeEncodesWrongFalsely : Prop := codeEncodesRow.holds Tryd.pinned (OpenSpec.ofChange codeEncodesWrong)

/-- 'larchlaw09.CodeTells': WHATEVER THE INPUT: true; the input reads as it did. -/
def codeTellsSpec : ChangeSpec := { name := "codeTells", fn := fun _ => fun
  | [d] => { results := [.lit (.bool true)], args := [d] }
  | _ => none }
def codeTellsRow : OpenClaim := { program := "ytpmhcignenfhgaadoor", sum := "5c9e6a38c27b296a07a1123085c73843e3203a70e7ac7546826b5bb76aa206ec", func := "larch/larchlaw09.CodeTells", spec := "codeTells", unfollowed := true, recurses := true, named := ["larch/code.shortForms", "larch/code.formRows"], apart := false, laid := [("larch/code.formRows", laid_larch_code_formRows), ("larch/code.shortForms", laid_larch_code_shortForms)] }
def CodeTellsSaid : Prop := codeTellsRow.holds Tryd.pinned (OpenSpec.ofChange codeTellsSpec)

/-- ITS FALSE NEIGHBOUR: 'it returns false'. Refute it at one input. -/
def codeTellsWrong : ChangeSpec := { name := "codeTells", fn := fun _ => fun
  | [d] => { results := [.lit (.bool false)], args := [d] }
  | _ => none }
def CodeTellsWrongFalsely : Prop := codeTellsRow.holds Tryd.pinned (OpenSpec.ofChange codeTellsWrong)

/-- 'larchlaw09.CodeBack': WHATEVER THE INPUT: true; the input reads as it did. -/
def codeBackSpec : ChangeSpec := { name := "codeBack", fn := fun _ => fun
  | [d1, d2] => { results := [.lit (.bool true)], args := [d1, d2] }
  | _ => none }
def codeBackRow : OpenClaim := { program := "ytpmhcignenfhgaadoor", sum := "5c9e6a38c27b296a07a1123085c73843e3203a70e7ac7546826b5bb76aa206ec", func := "larch/larchlaw09.CodeBack", spec := "codeBack", unfollowed := true, recurses := true, named := ["larch/code.formRows", "larch/code.shortForms"], apart := false, laid := [("larch/code.formRows", laid_larch_code_formRows), ("larch/code.shortForms", laid_larch_code_shortForms)] }
def CodeBackSaid : Prop := codeBackRow.holds Tryd.pinned (OpenSpec.ofChange codeBackSpec)

/-- ITS FALSE NEIGHBOUR: 'it returns false'. Refute it at one input. -/
def codeBackWrong : ChangeSpec := { name := "codeBack", fn := fun _ => fun
  | [d1, d2] => { results := [.lit (.bool false)], args := [d1, d2] }
  | _ => none }
def CodeBackWrongFalsely : Prop := codeBackRow.holds Tryd.pinned (OpenSpec.ofChange codeBackWrong)

/-- 'larchlaw09.CodeFronts': WHATEVER THE INPUT: true; the input reads as it did. -/
def codeFrontsSpec : ChangeSpec := { name := "codeFronts", fn := fun _ => fun
  | [d1, d2] => { results := [.lit (.bool true)], args := [d1, d2] }
  | _ => none }
def codeFrontsRow : OpenClaim := { program := "ytpmhcignenfhgaadoor", sum := "5c9e6a38c27b296a07a1123085c73843e3203a70e7ac7546826b5bb76aa206ec", func := "larch/larchlaw09.CodeFronts", spec := "codeFronts", unfollowed := true, recurses := true, named := ["larch/code.formRows", "larch/code.shortForms"], apart := false, laid := [("larch/code.formRows", laid_larch_code_formRows), ("larch/code.shortForms", laid_larch_code_shortForms)] }
def CodeFrontsSaid : Prop := codeFrontsRow.holds Tryd.pinned (OpenSpec.ofChange codeFrontsSpec)

/-- ITS FALSE NEIGHBOUR: 'it returns false'. Refute it at one input. -/
def codeFrontsWrong : ChangeSpec := { name := "codeFronts", fn := fun _ => fun
  | [d1, d2] => { results := [.lit (.bool false)], args := [d1, d2] }
  | _ => none }
def CodeFrontsWrongFalsely : Prop := codeFrontsRow.holds Tryd.pinned (OpenSpec.ofChange codeFrontsWrong)

/-- 'larchlaw09.CodePlain': WHATEVER THE INPUT: true; the input reads as it did. -/
def codePlainSpec : ChangeSpec := { name := "codePlain", fn := fun _ => fun
  | [d] => { results := [.lit (.bool true)], args := [d] }
  | _ => none }
def codePlainRow : OpenClaim := { program := "ytpmhcignenfhgaadoor", sum := "5c9e6a38c27b296a07a1123085c73843e3203a70e7ac7546826b5bb76aa206ec", func := "larch/larchlaw09.CodePlain", spec := "codePlain", unfollowed := true, recurses := true, named := ["larch/code.formRows", "larch/code.shortForms"], apart := false, laid := [("larch/code.formRows", laid_larch_code_formRows), ("larch/code.shortForms", laid_larch_code_shortForms)] }
def CodePlainSaid : Prop := codePlainRow.holds Tryd.pinned (OpenSpec.ofChange codePlainSpec)

/-- ITS FALSE NEIGHBOUR: 'it returns false'. Refute it at one input. -/
def codePlainWrong : ChangeSpec := { name := "codePlain", fn := fun _ => fun
  | [d] => { results := [.lit (.bool false)], args := [d] }
  | _ => none }
def CodePlainWrongFalsely : Prop := codePlainRow.holds Tryd.pinned (OpenSpec.ofChange codePlainWrong)

/- THE SECOND FORM. 'bulk': how many values and letters a reading holds, each counted each time it is reached (what is shared counts as often as it is met; a slice's spare places count too). A statement '..UptoSaid' is the law's where the arguments, and the package variables that the reading takes, are together of bulk at most 1048576: NARROWER than '..Said'. Prove '..Said' where nothing that the law and all that it calls make is longer than what came in: it says more and counts as full. Else prove '..UptoSaid'. A law counts once. -/
mutual
def uptoBulk {H : Type} : DataW H → Nat
  | .lit (.string bytes) => bytes.length + 1
  | .lit _ => 1
  | .nil => 1
  | .ptr d => uptoBulk d + 1
  | .slice elems spare => uptoBulkAll elems + uptoBulkAll spare + 1
  | .agg parts => uptoBulkAll parts + 1
  | .iface _ d => uptoBulk d + 1
  | .map entries => uptoBulkEntries entries + 1
  | .held _ => 1
def uptoBulkAll {H : Type} : List (DataW H) → Nat
  | [] => 0
  | d :: r => uptoBulk d + uptoBulkAll r
def uptoBulkEntries {H : Type} : List (Lit × DataW H) → Nat
  | [] => 0
  | x :: r => uptoBulkEntry x + uptoBulkEntries r
def uptoBulkEntry {H : Type} : Lit × DataW H → Nat
  | (.string bytes, d) => bytes.length + uptoBulk d + 1
  | (_, d) => uptoBulk d + 1
 end
def uptoSmall : (H : Type) → List (DataW H) → Bool := fun _ ds => decide (uptoBulkAll ds ≤ 1048576)
def OpenSpec.upto (s : _root_.Go.ChangeSpec) : _root_.Go.OpenSpec := { _root_.Go.OpenSpec.ofChange s with cond := some uptoSmall }

/-- 'larchlaw09.CodeDecodes', WHERE WHAT IT READS IS OF BULK AT MOST 1048576: true; the input reads as it did. -/
def codeDecodesUptoRow : OpenClaim := { program := "ytpmhcignenfhgaadoor", sum := "5c9e6a38c27b296a07a1123085c73843e3203a70e7ac7546826b5bb76aa206ec", func := "larch/larchlaw09.CodeDecodes", spec := "codeDecodes", unfollowed := true, recurses := true, named := ["larch/code.formRows", "larch/code.shortForms"], apart := false, laid := [("larch/code.formRows", laid_larch_code_formRows), ("larch/code.shortForms", laid_larch_code_shortForms)], narrowed := true }
def CodeDecodesUptoSaid : Prop := codeDecodesUptoRow.holds Tryd.pinned (OpenSpec.upto codeDecodesSpec)

/-- 'larchlaw09.CodeEncodes', WHERE WHAT IT READS IS OF BULK AT MOST 1048576: true; the input reads as it did. -/
def codeEncodesUptoRow : OpenClaim := { program := "ytpmhcignenfhgaadoor", sum := "5c9e6a38c27b296a07a1123085c73843e3203a70e7ac7546826b5bb76aa206ec", func := "larch/larchlaw09.CodeEncodes", spec := "codeEncodes", unfollowed := true, recurses := true, named := ["larch/code.formRows", "larch/code.shortForms"], apart := false, laid := [("larch/code.formRows", laid_larch_code_formRows), ("larch/code.shortForms", laid_larch_code_shortForms)], narrowed := true }
def CodeEncodesUptoSaid : Prop := codeEncodesUptoRow.holds Tryd.pinned (OpenSpec.upto codeEncodesSpec)

/-- 'larchlaw09.CodeTells', WHERE WHAT IT READS IS OF BULK AT MOST 1048576: true; the input reads as it did. -/
def codeTellsUptoRow : OpenClaim := { program := "ytpmhcignenfhgaadoor", sum := "5c9e6a38c27b296a07a1123085c73843e3203a70e7ac7546826b5bb76aa206ec", func := "larch/larchlaw09.CodeTells", spec := "codeTells", unfollowed := true, recurses := true, named := ["larch/code.shortForms", "larch/code.formRows"], apart := false, laid := [("larch/code.formRows", laid_larch_code_formRows), ("larch/code.shortForms", laid_larch_code_shortForms)], narrowed := true }
def CodeTellsUptoSaid : Prop := codeTellsUptoRow.holds Tryd.pinned (OpenSpec.upto codeTellsSpec)

/-- 'larchlaw09.CodeBack', WHERE WHAT IT READS IS OF BULK AT MOST 1048576: true; the input reads as it did. -/
def codeBackUptoRow : OpenClaim := { program := "ytpmhcignenfhgaadoor", sum := "5c9e6a38c27b296a07a1123085c73843e3203a70e7ac7546826b5bb76aa206ec", func := "larch/larchlaw09.CodeBack", spec := "codeBack", unfollowed := true, recurses := true, named := ["larch/code.formRows", "larch/code.shortForms"], apart := false, laid := [("larch/code.formRows", laid_larch_code_formRows), ("larch/code.shortForms", laid_larch_code_shortForms)], narrowed := true }
def CodeBackUptoSaid : Prop := codeBackUptoRow.holds Tryd.pinned (OpenSpec.upto codeBackSpec)

/-- 'larchlaw09.CodeFronts', WHERE WHAT IT READS IS OF BULK AT MOST 1048576: true; the input reads as it did. -/
def codeFrontsUptoRow : OpenClaim := { program := "ytpmhcignenfhgaadoor", sum := "5c9e6a38c27b296a07a1123085c73843e3203a70e7ac7546826b5bb76aa206ec", func := "larch/larchlaw09.CodeFronts", spec := "codeFronts", unfollowed := true, recurses := true, named := ["larch/code.formRows", "larch/code.shortForms"], apart := false, laid := [("larch/code.formRows", laid_larch_code_formRows), ("larch/code.shortForms", laid_larch_code_shortForms)], narrowed := true }
def CodeFrontsUptoSaid : Prop := codeFrontsUptoRow.holds Tryd.pinned (OpenSpec.upto codeFrontsSpec)

/-- 'larchlaw09.CodePlain', WHERE WHAT IT READS IS OF BULK AT MOST 1048576: true; the input reads as it did. -/
def codePlainUptoRow : OpenClaim := { program := "ytpmhcignenfhgaadoor", sum := "5c9e6a38c27b296a07a1123085c73843e3203a70e7ac7546826b5bb76aa206ec", func := "larch/larchlaw09.CodePlain", spec := "codePlain", unfollowed := true, recurses := true, named := ["larch/code.formRows", "larch/code.shortForms"], apart := false, laid := [("larch/code.formRows", laid_larch_code_formRows), ("larch/code.shortForms", laid_larch_code_shortForms)], narrowed := true }
def CodePlainUptoSaid : Prop := codePlainUptoRow.holds Tryd.pinned (OpenSpec.upto codePlainSpec)

end Rows
end Go.Proofs.YtpmhcignenfhgaaDoor
