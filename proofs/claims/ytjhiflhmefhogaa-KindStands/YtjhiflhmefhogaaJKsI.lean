/- The landed May, whole. -/
import Derived.Test.YtjhiflhmefhogaaJKsH

namespace Go.Proofs.Ytjhiflhmefhogaa
open Go.RowKit Go.Shelf
set_option linter.unusedVariables false
set_option maxRecDepth 100000

set_option maxHeartbeats 1600000 in
theorem may_step (f : Nat) (hM : ∀ g, g < f → MayOk g) : MayOk f := by
  intro w a n cap l hL hn X Y x y hX hY hf hx hy
  rw [mayP_is]
  have HR : Hid (∀ W, Below w.heap.size w W → Calls Try.prog 44 #[.slice a n cap, .agg #[.int .i64 x.kind, .string X], .agg #[.int .i64 y.kind, .string Y]] W fun e w' => e = .returned (.bool (refP l f x y)) ∧ Below W.heap.size W w') := fun W fW => mayRef_any f hM W a n cap l (hL.below fW) hn X Y x y hX hY hf hx hy
  have hEq : x = y ↔ x.kind = y.kind ∧ X = Y := by
    rw [hX.eq, hY.eq]
    obtain ⟨xk, xn⟩ := x
    obtain ⟨yk, yn⟩ := y
    simp
  generalize refP l f x y = rv at *
  have JE : ∀ W, (binOp .eql 23 (.agg #[.int .i64 x.kind, .string X]) (.agg #[.int .i64 y.kind, .string Y])).run Try.prog W = .ok (.bool (decide (x = y))) W := fun W => by
    rw [ty_cmp]
    congr 2
    rw [decide_eq_decide]
    exact hEq.symm
  clear hM hL hX hY hEq
  have f0 : Below w.heap.size w ((w.alloc (.cells #[.int .i64 x.kind, .string X] 23)).alloc (.cells #[.int .i64 y.kind, .string Y] 23)) := bA (bA (Below.refl _ _) _) _
  have F0 := hide f0
  have HR0 := hide (unhide HR _ f0)
  clear f0 HR
  generalize hde : decide (x = y) = de at *
  have hd : x = y ↔ de = true := by rw [← hde]; simp
  obtain ⟨xk, xn⟩ := x
  obtain ⟨yk, yn⟩ := y
  simp only at *
  by_cases y0 : yk = 0
  · subst y0
    rw [if_pos (.inl rfl)]
    go_enter Try.func27, Try.ntmps27
    go_wp2
    go_ret
    exact ⟨rfl, unhide F0⟩
  have y0' : (yk == 0) = false := by simpa using y0
  cases de
  case true =>
    rw [if_pos (.inr (hd.2 rfl))]
    clear hd hde
    go_enter Try.func27, Try.ntmps27
    go_wp2
    go_ret
    exact ⟨rfl, unhide F0⟩
  rw [if_neg (fun h => h.elim y0 (fun h => by have := hd.1 h; cases this))]
  clear hd hde
  by_cases y4 : yk = 4
  case neg =>
    have y4' : (yk == 4) = false := by simpa using y4
    have y4'' : (yk != 4) = true := by simpa using y4
    rw [if_pos y4]
    go_enter Try.func27, Try.ntmps27
    go_wp2
    go_ret
    exact ⟨rfl, unhide F0⟩
  subst y4
  rw [if_neg (by simp)]
  by_cases x4 : xk = 4
  case pos =>
    subst x4
    rw [if_neg (by simp)]
    go_enter Try.func27, Try.ntmps27
    go_wp2_with fail
    refine (unhide HR0).mono ?_
    rintro e w1 ⟨rfl, f1⟩
    have F1 := hide ((unhide F0).trans (f1.mono (unhide F0).size))
    clear f1
    go_wp2
    go_ret
    exact ⟨rfl, unhide F1⟩
  case neg =>
    have x4' : (xk == 4) = false := by simpa using x4
    rw [if_pos x4]
    go_enter Try.func27, Try.ntmps27
    go_wp2
    go_ret
    exact ⟨ret_iff (by simp), unhide F0⟩
theorem yMay_any (f : Nat) : MayOk f := Nat.strongRecOn f may_step
end Go.Proofs.Ytjhiflhmefhogaa
