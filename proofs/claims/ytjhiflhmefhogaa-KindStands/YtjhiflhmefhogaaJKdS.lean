/- The chapter's example. -/
import Derived.Test.YtjhiflhmefhogaaJKdR

namespace Go.Proofs.Ytjhiflhmefhogaa
open Go.RowKit
set_option linter.unusedVariables false
set_option maxRecDepth 100000

def ex0 : List UInt8 := [40, 73, 74, 76, 97, 59, 91, 91, 73, 41, 86]
def exL : List Ty := [⟨1, []⟩, ⟨2, []⟩, ⟨4, [97]⟩, ⟨4, [91, 91, 73]⟩]
theorem ex_args : ArgsOf ex0 exL [41, 86] := by
  refine ⟨fun _ => ?_, fun h => absurd rfl h⟩
  show Args [73, 74, 76, 97, 59, 91, 91, 73, 41, 86] exL [41, 86]
  exact .step _ _ _ (by decide) (.step _ _ _ (by decide) (.step _ _ _ (by decide) (.step _ _ _ (by decide) (.done _ (by decide)))))
theorem ex_met : metP exL [41, 86] = (exL, ty0, 0) := by decide
/-- A list that lies in a block of its own. -/
theorem ls_block {α : Type} {cs : α → List Value} {e t : TypeId} {sz by_ : Nat} {z : Value} (R : Rk cs e t sz by_ z) (w : World) (X : Array Value) (T : TypeId) (l : List α) (hX : X.toList = l.flatMap cs) : Ls sz cs (w.alloc (.cells X T)) (some ⟨w.heap.size, 0, none⟩) l.length l := by
  refine ⟨rfl, .inr ⟨_, _, rfl, by simp, fun k x hx q u hu => ?_⟩⟩
  have h := flatR_at R.len l k x hx q u hu
  rw [← hX] at h
  rw [cell_of_row _ _ _ _ _ _ (heap_alloc_last w (.cells X T)), Nat.zero_add]
  simpa using h
theorem exL_fit : ∀ x ∈ exL, TyFit x := by
  intro x hx
  simp [exL] at hx
  rcases hx with rfl | rfl | rfl | rfl <;> simp [TyFit, fitI, fitS]
def cls0 : List UInt8 := [97, 47, 66, 95, 36, 49]
set_option maxHeartbeats 1600000 in
theorem works10_any (w : World) : Calls Try.prog 16 #[] w fun e w' => e = .returned (.bool true) ∧ Below w.heap.size w w' := by
  have HM : Hid (∀ W, Calls Try.prog 11 #[.string ⟨ex0.toArray⟩] W fun e w' => ∃ v, e = .returned (.tuple #[v, .agg #[.int .i64 0, .string ⟨#[]⟩], .int .i64 0]) ∧ Orw tyc 23 2 w' W.heap.size v exL ∧ Below W.heap.size W w') := fun W => by
    have := yMethod_any W ⟨ex0.toArray⟩ ex0 ⟨rfl⟩ (by decide) exL [41, 86] ex_args
    rw [ex_met] at this
    exact this
  have HK : Hid (∀ W, Calls Try.prog 14 #[.string ⟨cls0.toArray⟩] W fun e w' => e = .returned (.bool true) ∧ w' = W) := fun W => yClass_any W ⟨cls0.toArray⟩ cls0 ⟨rfl⟩ (by decide)
  go_enter Try.func16, Try.ntmps16
  go_wp2_with fail
  refine (unhide HM w).mono ?_
  rintro e w1 ⟨v, rfl, o1, f1⟩
  obtain ⟨va, vc, rfl, hv1, hv2, hv3⟩ := o1.form
  have L1 := o1.ls rkT
  have g1 : Below w1.heap.size w1 (w1.alloc (.cells #[.int .i64 0, .string ⟨#[]⟩] 23)) := bA (Below.refl _ _) _
  have g2 : Below w1.heap.size w1 ((w1.alloc (.cells #[.int .i64 0, .string ⟨#[]⟩] 23)).alloc (.cells #[.int .i64 1, .string ⟨#[]⟩, .int .i64 2, .string ⟨#[]⟩, .int .i64 4, .string ⟨#[97]⟩, .int .i64 4, .string ⟨#[91, 91, 73]⟩] 23)) := bA g1 _
  have L2 := ls_block rkT (w1.alloc (.cells #[.int .i64 0, .string ⟨#[]⟩] 23)) #[.int .i64 1, .string ⟨#[]⟩, .int .i64 2, .string ⟨#[]⟩, .int .i64 4, .string ⟨#[97]⟩, .int .i64 4, .string ⟨#[91, 91, 73]⟩] 23 exL rfl
  rw [show (w1.alloc (.cells #[.int .i64 0, .string ⟨#[]⟩] 23)).heap.size = w1.heap.size + 1 by simp] at L2
  have HS := hide (SameTypes_same _ ⟨va, 4, vc⟩ ⟨some ⟨w1.heap.size + 1, 0, none⟩, 4, 4⟩ exL ⟨L1.below g2, hv2, hv3, hv1, (by show 4 * 24 ≤ 140737488351232; decide), exL_fit⟩ ⟨L2, Nat.le_refl 4, (by show 4 ≤ 9223372036854775807; decide), by simp, (by show 4 * 24 ≤ 140737488351232; decide), exL_fit⟩)
  have F2 := hide (f1.trans (g2.mono f1.size))
  have HL3 := hide (L1.below g2)
  have HSL : Hid (∀ W, Below ((w1.alloc (.cells #[.int .i64 0, .string ⟨#[]⟩] 23)).alloc (.cells #[.int .i64 1, .string ⟨#[]⟩, .int .i64 2, .string ⟨#[]⟩, .int .i64 4, .string ⟨#[97]⟩, .int .i64 4, .string ⟨#[91, 91, 73]⟩] 23)).heap.size ((w1.alloc (.cells #[.int .i64 0, .string ⟨#[]⟩] 23)).alloc (.cells #[.int .i64 1, .string ⟨#[]⟩, .int .i64 2, .string ⟨#[]⟩, .int .i64 4, .string ⟨#[97]⟩, .int .i64 4, .string ⟨#[91, 91, 73]⟩] 23)) W → Calls Try.prog 21 #[.slice va 4 vc] W fun e w' => e = .returned (.int .i64 5) ∧ Below W.heap.size W w') := fun W f => yWide_any W va 4 vc exL ((unhide HL3).below f) (by decide)
  have JE := fun W => ty_cmp W 0 0 ⟨#[]⟩ ⟨#[]⟩
  clear L1 L2 g1 g2 f1 o1 hv1 hv2 hv3
  go_wp2_with fail
  refine (unhide HS).mono ?_
  rintro e w3 ⟨rfl, f3⟩
  have F3 := hide ((unhide F2).trans (f3.mono (unhide F2).size))
  have HW3 := hide (unhide HSL w3 f3)
  clear HS HSL f3
  go_wp2_with fail
  refine (unhide HW3).mono ?_
  rintro e w4 ⟨rfl, f4⟩
  have F4 := hide ((unhide F3).trans (f4.mono (unhide F3).size))
  clear HW3 f4
  go_wp2_with (go_at_call 14; refine (unhide HK w4).mono ?_; rintro e w' ⟨rfl, hw⟩; rw [hw]; clear hw)
  go_ret
  exact ⟨rfl, unhide F4⟩
end Go.Proofs.Ytjhiflhmefhogaa
