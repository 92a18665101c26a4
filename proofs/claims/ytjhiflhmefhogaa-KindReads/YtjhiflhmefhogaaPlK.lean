/- What the walks of stage 7's laws ask of the program's pool; works7. -/
import Derived.Test.YtjhiflhmefhogaaPlZ0
import Derived.Test.YtjhiflhmefhogaaPlX0
import Derived.Test.YtjhiflhmefhogaaPkA2
import Derived.Test.YtjhiflhmefhogaaPlP
namespace Go.Proofs.Ytjhiflhmefhogaa
open Go.RowKit
set_option linter.unusedVariables false

/-- Entries as they may come in. -/
structure EIn (w : World) (a : Option Addr) (n c : Nat) (l : List Ent) : Prop where
  arg : EArg w a n c l
  small : n * 48 ≤ 140737488351232
  fit : EntsFit7 l
theorem EIn.below {w w' : World} {a : Option Addr} {n c : Nat} {l : List Ent} (h : EIn w a n c l) (f : Below w.heap.size w w') : EIn w' a n c l := ⟨h.arg.below f, h.small, h.fit⟩
theorem EIn.own {w : World} {base n c : Nat} {a : Option Addr} {l : List Ent} (h : w.ownsRow base 98 5 (.slice a n c) n (ev l)) (hs : n * 48 ≤ 140737488351232) (hf : EntsFit7 l) : EIn w a n c l := ⟨earg_of_own h, hs, hf⟩

def cEx : Cst := ⟨10, 0, [97], [98], [40, 41, 86]⟩
theorem cEx_fit : CstFit cEx := by
  refine ⟨?_, ?_, ?_, ?_, ?_⟩ <;> decide
theorem putEx : putK [ent0] cEx = ([ent0, eUtf [97], ⟨7, [], 0, 1, 0⟩, eUtf [98], eUtf [40, 41, 86], ⟨12, [], 0, 3, 4⟩, ⟨10, [], 0, 2, 5⟩], 6, 0) := by decide +kernel
theorem constEx : constP [ent0, eUtf [97], ⟨7, [], 0, 1, 0⟩, eUtf [98], eUtf [40, 41, 86], ⟨12, [], 0, 3, 4⟩, ⟨10, [], 0, 2, 5⟩] 6 = (cEx, 0) := by decide +kernel

end Go.Proofs.Ytjhiflhmefhogaa
