/- What the walks of stage 7's laws ask of the program's pool; works7. -/
import Derived.Test.YtchhjieciiaooaaPlZ0
import Derived.Test.YtchhjieciiaooaaPlX0
import Derived.Test.YtchhjieciiaooaaPkA2
import Derived.Test.YtchhjieciiaooaaPlP
namespace Go.Proofs.Ytchhjieciiaooaa
open Go.RowKit
set_option linter.unusedVariables false

/-- Entries as they may come in. -/
structure EIn (w : World) (a : Option Addr) (n c : Nat) (l : List Ent) : Prop where
  arg : EArg w a n c l
  small : n * 48 ≤ 140737488351232
  fit : EntsFit7 l
theorem EIn.below {w w' : World} {a : Option Addr} {n c : Nat} {l : List Ent} (h : EIn w a n c l) (f : Below w.heap.size w w') : EIn w' a n c l := ⟨h.arg.below f, h.small, h.fit⟩
theorem EIn.own {w : World} {base n c : Nat} {a : Option Addr} {l : List Ent} (h : w.ownsRow base 67 5 (.slice a n c) n (ev l)) (hs : n * 48 ≤ 140737488351232) (hf : EntsFit7 l) : EIn w a n c l := ⟨earg_of_own h, hs, hf⟩

/-- The contracts of the program's pool. -/
structure Pools : Prop where
  check : ∀ (w : World) (a : Option Addr) (n c : Nat) (l : List Ent), EIn w a n c l →
    Calls Try.prog 19 #[.slice a n c] w fun e w' => e = .returned (.int .i64 (if checkP l = true then 0 else 70)) ∧ Below w.heap.size w w'
  text : ∀ (w : World) (a : Option Addr) (n c : Nat) (l : List Ent) (i : Int), EIn w a n c l → (-9223372036854775808 ≤ i ∧ i ≤ 9223372036854775807) →
    Calls Try.prog 25 #[.slice a n c, .int .i64 i] w fun e w' => e = .returned (.tuple #[.string ⟨(textP l i).1.toArray⟩, .int .i64 (textP l i).2]) ∧ Below w.heap.size w w'
  const : ∀ (w : World) (a : Option Addr) (n c : Nat) (l : List Ent) (i : Int), EIn w a n c l → (-9223372036854775808 ≤ i ∧ i ≤ 9223372036854775807) →
    Calls Try.prog 27 #[.slice a n c, .int .i64 i] w fun e w' => e = .returned (.tuple #[cstV (constP l i).1, .int .i64 (constP l i).2]) ∧ Below w.heap.size w w'
  put : ∀ (w : World) (a : Option Addr) (n c : Nat) (l : List Ent) (k : Cst), EIn w a n c l → CstFit k → Calls Try.prog 29 #[.slice a n c, cstV k] w (PutE w (putK l k))
def cEx : Cst := ⟨10, 0, [97], [98], [40, 41, 86]⟩
theorem cEx_fit : CstFit cEx := by
  refine ⟨?_, ?_, ?_, ?_, ?_⟩ <;> decide
theorem putEx : putK [ent0] cEx = ([ent0, eUtf [97], ⟨7, [], 0, 1, 0⟩, eUtf [98], eUtf [40, 41, 86], ⟨12, [], 0, 3, 4⟩, ⟨10, [], 0, 2, 5⟩], 6, 0) := by decide +kernel
theorem constEx : constP [ent0, eUtf [97], ⟨7, [], 0, 1, 0⟩, eUtf [98], eUtf [40, 41, 86], ⟨12, [], 0, 3, 4⟩, ⟨10, [], 0, 2, 5⟩] 6 = (cEx, 0) := by decide +kernel

set_option maxHeartbeats 3200000 in
set_option maxRecDepth 100000 in
theorem works7_any (P : Pools) (w : World) :
    Calls Try.prog 15 #[] w fun e w' => e = .returned (.bool true) ∧ Below w.heap.size w w' := by
  have b0 : Below w.heap.size w (w.alloc (.cells (ev [ent0]).toArray 67)) := (Below.refl _ _).alloc (Nat.le_refl _) _
  have hin : EIn (w.alloc (.cells (ev [ent0]).toArray 67)) (some ⟨w.heap.size, 0, none⟩) 1 1 [ent0] :=
    ⟨⟨⟨rfl, .inr ⟨_, _, rfl, es_of_block (heap_alloc_last _ _)⟩⟩, by omega, by omega, fun e => by cases e⟩, by omega, ⟨fun y hy => by simp at hy; subst hy; decide, fun y hy => by simp at hy; subst hy; exact fit0⟩⟩
  have HP := P.put _ _ _ _ _ cEx hin cEx_fit
  rw [putEx] at HP
  have HP1 := hide HP
  have B0 := hide b0
  have HC : Hid (∀ W a c, EArg W a 7 c [ent0, eUtf [97], ⟨7, [], 0, 1, 0⟩, eUtf [98], eUtf [40, 41, 86], ⟨12, [], 0, 3, 4⟩, ⟨10, [], 0, 2, 5⟩] → Calls Try.prog 27 #[.slice a 7 c, .int .i64 6] W fun e w' => e = .returned (.tuple #[.agg #[.int .i64 10, .int .i64 0, .string ⟨#[97]⟩, .string ⟨#[98]⟩, .string ⟨#[40, 41, 86]⟩], .int .i64 0]) ∧ Below W.heap.size W w') := fun W a c h => by
    have := P.const W a 7 c _ 6 ⟨h, by omega, ⟨fun y hy => by
      simp at hy
      rcases hy with rfl | rfl | rfl | rfl | rfl | rfl | rfl <;> decide, fun y hy => by
      simp at hy
      rcases hy with rfl | rfl | rfl | rfl | rfl | rfl | rfl <;> (refine ⟨?_, ?_, ?_, ?_⟩ <;> decide)⟩⟩ (by decide)
    rw [constEx] at this
    exact this
  clear HP b0 hin
  go_enter Try.func15, Try.ntmps15
  go_wp2_with fail
  refine (unhide HP1).mono ?_
  rintro e w1 ⟨⟨a1, c1, rfl, e1⟩, f1⟩
  have HC1 := hide (unhide HC w1 a1 c1 e1)
  have F1 := hide ((unhide B0).trans (f1.mono (unhide B0).size))
  clear HC HP1 B0 e1 f1
  go_wp2_with fail
  refine (unhide HC1).mono ?_
  rintro e w2 ⟨rfl, f2⟩
  have F2 := hide ((unhide F1).trans (f2.mono (unhide F1).size))
  have F3 := hide ((unhide F2).alloc (unhide F2).size (.cells #[.int .i64 10, .int .i64 0, .string ⟨#[97]⟩, .string ⟨#[98]⟩, .string ⟨#[40, 41, 86]⟩] 50))
  clear HC1 F1 f2
  go_wp2
  go_ret
  exact ⟨rfl, unhide F3⟩

end Go.Proofs.Ytchhjieciiaooaa
