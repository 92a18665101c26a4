/-
  No cell of these rows narrows 'for every input' (looked for: loops, veiled, ifaces, maps, wideKeys, modest, calm, conditions, laid).
  DERIVED. THE GIVEN ROWS OF THIS SEAT. 6 by the template 'for every input the law returns true; each argument reads behind the call as it read before'; 0 by the template 'total and deterministic' (their statements: YtjpimcglojneaaaTotals.lean).
  GIVEN WITH THE SEED: the statements are not yours to turn. If you find one false, say at which input.
  Laid BY PROGRAM, IN A SANDBOX (cutbox-rows.mjs): the forced cells as the released guide's own fill.sh prints them over the translation 83b372e31c745ca5… (all of the seat's roots in one cut). By AI agents, Wed Nov 11 2026. No macro, syntax, notation, axiom, sorry.
-/
import Derived.Test.YtjpimcglojneaaaChecked
import GoSem.Claim
import GoSem.ClaimJoined
import GoSem.ClaimMapViews
import Derived.JoinedTies
import Derived.KernelRfl
namespace Go.Proofs.Ytjpimcglojneaaa
/- THE CELL 'sum', in the pinned program and in every row, IS THE sha256 OF THE DUMP (.gsa) THAT YtjpimcglojneaaaProg.lean LOADS. Nothing in Lean hashes anything: it is a label: what it is worth is what the hold of that sum in a sandbox is worth. -/
noncomputable def Try.pinned : Pinned := { name := "ytjpimcglojneaaa", sum := "83b372e31c745ca5565c7216bb93aebb16334375fca2a2d7de85ad78a385df70", checked := Try.checked }
namespace Rows
def none {H : Type} : Left H := { results := [], args := [] }

/-- 'larchlaw07.PoolReads': WHATEVER THE INPUT: true; the input reads as it did. -/
def poolReadsSpec : ChangeSpec := { name := "poolReads", fn := fun _ => fun
  | [d] => { results := [.lit (.bool true)], args := [d] }
  | _ => none }
def poolReadsRow : OpenClaim := { program := "ytjpimcglojneaaa", sum := "83b372e31c745ca5565c7216bb93aebb16334375fca2a2d7de85ad78a385df70", func := "larch/larchlaw07.PoolReads", spec := "poolReads", recurses := true, apart := false }
def PoolReadsSaid : Prop := poolReadsRow.holds Try.pinned (OpenSpec.ofChange poolReadsSpec)

/-- ITS FALSE NEIGHBOUR: 'it returns false'. Refute it at one input. -/
def poolReadsWrong : ChangeSpec := { name := "poolReads", fn := fun _ => fun
  | [d] => { results := [.lit (.bool false)], args := [d] }
  | _ => none }
def PoolReadsWrongFalsely : Prop := poolReadsRow.holds Try.pinned (OpenSpec.ofChange poolReadsWrong)

/-- 'larchlaw07.PoolWrites': WHATEVER THE INPUT: true; the input reads as it did. -/
def poolWritesSpec : ChangeSpec := { name := "poolWrites", fn := fun _ => fun
  | [d] => { results := [.lit (.bool true)], args := [d] }
  | _ => none }
def poolWritesRow : OpenClaim := { program := "ytjpimcglojneaaa", sum := "83b372e31c745ca5565c7216bb93aebb16334375fca2a2d7de85ad78a385df70", func := "larch/larchlaw07.PoolWrites", spec := "poolWrites", unfollowed := true, recurses := true, apart := false }
def PoolWritesSaid : Prop := poolWritesRow.holds Try.pinned (OpenSpec.ofChange poolWritesSpec)

/-- ITS FALSE NEIGHBOUR: 'it returns false'. Refute it at one input. -/
def poolWritesWrong : ChangeSpec := { name := "poolWrites", fn := fun _ => fun
  | [d] => { results := [.lit (.bool false)], args := [d] }
  | _ => none }
def PoolWritesWrongFalsely : Prop := poolWritesRow.holds Try.pinned (OpenSpec.ofChange poolWritesWrong)

/-- 'larchlaw07.PoolMeans': WHATEVER THE INPUT: true; the input reads as it did. -/
def poolMeansSpec : ChangeSpec := { name := "poolMeans", fn := fun _ => fun
  | [d1, d2] => { results := [.lit (.bool true)], args := [d1, d2] }
  | _ => none }
def poolMeansRow : OpenClaim := { program := "ytjpimcglojneaaa", sum := "83b372e31c745ca5565c7216bb93aebb16334375fca2a2d7de85ad78a385df70", func := "larch/larchlaw07.PoolMeans", spec := "poolMeans", recurses := true, apart := false }
def PoolMeansSaid : Prop := poolMeansRow.holds Try.pinned (OpenSpec.ofChange poolMeansSpec)

/-- ITS FALSE NEIGHBOUR: 'it returns false'. Refute it at one input. -/
def poolMeansWrong : ChangeSpec := { name := "poolMeans", fn := fun _ => fun
  | [d1, d2] => { results := [.lit (.bool false)], args := [d1, d2] }
  | _ => none }
def PoolMeansWrongFalsely : Prop := poolMeansRow.holds Try.pinned (OpenSpec.ofChange poolMeansWrong)

/-- 'larchlaw07.PoolPuts': WHATEVER THE INPUT: true; the input reads as it did. -/
def poolPutsSpec : ChangeSpec := { name := "poolPuts", fn := fun _ => fun
  | [d1, d2] => { results := [.lit (.bool true)], args := [d1, d2] }
  | _ => none }
def poolPutsRow : OpenClaim := { program := "ytjpimcglojneaaa", sum := "83b372e31c745ca5565c7216bb93aebb16334375fca2a2d7de85ad78a385df70", func := "larch/larchlaw07.PoolPuts", spec := "poolPuts", recurses := true, apart := false }
def PoolPutsSaid : Prop := poolPutsRow.holds Try.pinned (OpenSpec.ofChange poolPutsSpec)

/-- ITS FALSE NEIGHBOUR: 'it returns false'. Refute it at one input. -/
def poolPutsWrong : ChangeSpec := { name := "poolPuts", fn := fun _ => fun
  | [d1, d2] => { results := [.lit (.bool false)], args := [d1, d2] }
  | _ => none }
def PoolPutsWrongFalsely : Prop := poolPutsRow.holds Try.pinned (OpenSpec.ofChange poolPutsWrong)

/-- 'larchlaw07.PoolBack': WHATEVER THE INPUT: true; the input reads as it did. -/
def poolBackSpec : ChangeSpec := { name := "poolBack", fn := fun _ => fun
  | [d1, d2] => { results := [.lit (.bool true)], args := [d1, d2] }
  | _ => none }
def poolBackRow : OpenClaim := { program := "ytjpimcglojneaaa", sum := "83b372e31c745ca5565c7216bb93aebb16334375fca2a2d7de85ad78a385df70", func := "larch/larchlaw07.PoolBack", spec := "poolBack", unfollowed := true, recurses := true, apart := false }
def PoolBackSaid : Prop := poolBackRow.holds Try.pinned (OpenSpec.ofChange poolBackSpec)

/-- ITS FALSE NEIGHBOUR: 'it returns false'. Refute it at one input. -/
def poolBackWrong : ChangeSpec := { name := "poolBack", fn := fun _ => fun
  | [d1, d2] => { results := [.lit (.bool false)], args := [d1, d2] }
  | _ => none }
def PoolBackWrongFalsely : Prop := poolBackRow.holds Try.pinned (OpenSpec.ofChange poolBackWrong)

/-- 'larchlaw07.PoolKeeps': WHATEVER THE INPUT: true; the input reads as it did. -/
def poolKeepsSpec : ChangeSpec := { name := "poolKeeps", fn := fun _ => fun
  | [d1, d2, d3] => { results := [.lit (.bool true)], args := [d1, d2, d3] }
  | _ => none }
def poolKeepsRow : OpenClaim := { program := "ytjpimcglojneaaa", sum := "83b372e31c745ca5565c7216bb93aebb16334375fca2a2d7de85ad78a385df70", func := "larch/larchlaw07.PoolKeeps", spec := "poolKeeps", recurses := true, apart := false }
def PoolKeepsSaid : Prop := poolKeepsRow.holds Try.pinned (OpenSpec.ofChange poolKeepsSpec)

/-- ITS FALSE NEIGHBOUR: 'it returns false'. Refute it at one input. -/
def poolKeepsWrong : ChangeSpec := { name := "poolKeeps", fn := fun _ => fun
  | [d1, d2, d3] => { results := [.lit (.bool false)], args := [d1, d2, d3] }
  | _ => none }
def PoolKeepsWrongFalsely : Prop := poolKeepsRow.holds Try.pinned (OpenSpec.ofChange poolKeepsWrong)

/- THE SECOND FORM. 'bulk': how many values and letters a reading holds, each counted each time it is reached (what is shared counts as often as it is met; a slice's spare places count too). A statement '..UptoSaid' is the law's where the arguments, and the package variables that the reading takes, are together of bulk at most 1048576: NARROWER than '..Said'. Prove '..Said' where nothing that the law and all that it calls make is longer than what came in: it says more and counts as full. Else prove '..UptoSaid'. A law counts once. -/
mutual
def uptoBulk {H : Type} : DataW H → Nat
  | .lit (.string bytes) => bytes.length + 1
  | .lit _ => 1
  | .nil => 1
  | .ptr d => uptoBulk d + 1
  | .slice elems spare => uptoBulkAll elems + uptoBulkAll spare + 1
  | .agg parts => uptoBulkAll parts + 1
  | .iface _ d => uptoBulk d + 1
  | .map entries => uptoBulkEntries entries + 1
  | .held _ => 1
def uptoBulkAll {H : Type} : List (DataW H) → Nat
  | [] => 0
  | d :: r => uptoBulk d + uptoBulkAll r
def uptoBulkEntries {H : Type} : List (Lit × DataW H) → Nat
  | [] => 0
  | x :: r => uptoBulkEntry x + uptoBulkEntries r
def uptoBulkEntry {H : Type} : Lit × DataW H → Nat
  | (.string bytes, d) => bytes.length + uptoBulk d + 1
  | (_, d) => uptoBulk d + 1
 end
def uptoSmall : (H : Type) → List (DataW H) → Bool := fun _ ds => decide (uptoBulkAll ds ≤ 1048576)
def OpenSpec.upto (s : _root_.Go.ChangeSpec) : _root_.Go.OpenSpec := { _root_.Go.OpenSpec.ofChange s with cond := some uptoSmall }

/-- 'larchlaw07.PoolReads', WHERE WHAT IT READS IS OF BULK AT MOST 1048576: true; the input reads as it did. -/
def poolReadsUptoRow : OpenClaim := { program := "ytjpimcglojneaaa", sum := "83b372e31c745ca5565c7216bb93aebb16334375fca2a2d7de85ad78a385df70", func := "larch/larchlaw07.PoolReads", spec := "poolReads", recurses := true, apart := false, narrowed := true }
def PoolReadsUptoSaid : Prop := poolReadsUptoRow.holds Try.pinned (OpenSpec.upto poolReadsSpec)

/-- 'larchlaw07.PoolWrites', WHERE WHAT IT READS IS OF BULK AT MOST 1048576: true; the input reads as it did. -/
def poolWritesUptoRow : OpenClaim := { program := "ytjpimcglojneaaa", sum := "83b372e31c745ca5565c7216bb93aebb16334375fca2a2d7de85ad78a385df70", func := "larch/larchlaw07.PoolWrites", spec := "poolWrites", unfollowed := true, recurses := true, apart := false, narrowed := true }
def PoolWritesUptoSaid : Prop := poolWritesUptoRow.holds Try.pinned (OpenSpec.upto poolWritesSpec)

/-- 'larchlaw07.PoolMeans', WHERE WHAT IT READS IS OF BULK AT MOST 1048576: true; the input reads as it did. -/
def poolMeansUptoRow : OpenClaim := { program := "ytjpimcglojneaaa", sum := "83b372e31c745ca5565c7216bb93aebb16334375fca2a2d7de85ad78a385df70", func := "larch/larchlaw07.PoolMeans", spec := "poolMeans", recurses := true, apart := false, narrowed := true }
def PoolMeansUptoSaid : Prop := poolMeansUptoRow.holds Try.pinned (OpenSpec.upto poolMeansSpec)

/-- 'larchlaw07.PoolPuts', WHERE WHAT IT READS IS OF BULK AT MOST 1048576: true; the input reads as it did. -/
def poolPutsUptoRow : OpenClaim := { program := "ytjpimcglojneaaa", sum := "83b372e31c745ca5565c7216bb93aebb16334375fca2a2d7de85ad78a385df70", func := "larch/larchlaw07.PoolPuts", spec := "poolPuts", recurses := true, apart := false, narrowed := true }
def PoolPutsUptoSaid : Prop := poolPutsUptoRow.holds Try.pinned (OpenSpec.upto poolPutsSpec)

/-- 'larchlaw07.PoolBack', WHERE WHAT IT READS IS OF BULK AT MOST 1048576: true; the input reads as it did. -/
def poolBackUptoRow : OpenClaim := { program := "ytjpimcglojneaaa", sum := "83b372e31c745ca5565c7216bb93aebb16334375fca2a2d7de85ad78a385df70", func := "larch/larchlaw07.PoolBack", spec := "poolBack", unfollowed := true, recurses := true, apart := false, narrowed := true }
def PoolBackUptoSaid : Prop := poolBackUptoRow.holds Try.pinned (OpenSpec.upto poolBackSpec)

/-- 'larchlaw07.PoolKeeps', WHERE WHAT IT READS IS OF BULK AT MOST 1048576: true; the input reads as it did. -/
def poolKeepsUptoRow : OpenClaim := { program := "ytjpimcglojneaaa", sum := "83b372e31c745ca5565c7216bb93aebb16334375fca2a2d7de85ad78a385df70", func := "larch/larchlaw07.PoolKeeps", spec := "poolKeeps", recurses := true, apart := false, narrowed := true }
def PoolKeepsUptoSaid : Prop := poolKeepsUptoRow.holds Try.pinned (OpenSpec.upto poolKeepsSpec)

end Rows
end Go.Proofs.Ytjpimcglojneaaa
