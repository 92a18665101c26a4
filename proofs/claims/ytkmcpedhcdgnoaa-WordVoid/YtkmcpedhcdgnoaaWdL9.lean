/- The landed word: a reader and a writer that no call made (written by mk/mkvoids.py); voids. -/
import Derived.Test.YtkmcpedhcdgnoaaWdL8
import Derived.Test.YtkmcpedhcdgnoaaWdVoid
namespace Go.Proofs.Ytkmcpedhcdgnoaa
open Go.RowKit
set_option linter.unusedVariables false

set_option maxHeartbeats 800000 in
theorem vl_n (w : World) :
    Calls Try.prog 31 #[.pointer none, .int .i64 1] w fun e w' => e = .returned (.tuple #[.int .u64 0, .int .i64 1]) ∧ w' = w := by
  have H := hide (dmade_nil w)
  go_enter Try.func31, Try.ntmps31
  go_wp2_with fail
  refine (unhide H).mono ?_
  rintro e w1 ⟨rfl, e0⟩
  have e0' := e0.symm
  clear e0
  subst e0'
  go_wp2
  go_ret2
  exact ⟨rfl, rfl⟩

set_option maxHeartbeats 800000 in
theorem vl_z (w : World) (x : Nat) (h : Rz w x) :
    Calls Try.prog 31 #[.pointer (some ⟨x, 0, none⟩), .int .i64 1] w fun e w' => e = .returned (.tuple #[.int .u64 0, .int .i64 1]) ∧ w' = w := by
  have H := hide (dmade_void w x h)
  clear h
  go_enter Try.func31, Try.ntmps31
  go_wp2_with fail
  refine (unhide H).mono ?_
  rintro e w1 ⟨rfl, e0⟩
  have e0' := e0.symm
  clear e0
  subst e0'
  go_wp2
  go_ret2
  exact ⟨rfl, rfl⟩

set_option maxHeartbeats 800000 in
theorem vu_n (w : World) :
    Calls Try.prog 11 #[.pointer none, .int .i64 1] w fun e w' => e = .returned (.tuple #[.int .i64 0, .int .i64 1]) ∧ w' = w := by
  have H := hide (vl_n w)
  go_enter Try.func11, Try.ntmps11
  go_wp2_with fail
  refine (unhide H).mono ?_
  rintro e w1 ⟨rfl, e0⟩
  have e0' := e0.symm
  clear e0
  subst e0'
  go_wp2
  go_ret2
  exact ⟨rfl, rfl⟩

set_option maxHeartbeats 800000 in
theorem vs_z (w : World) (x : Nat) (h : Rz w x) :
    Calls Try.prog 13 #[.pointer (some ⟨x, 0, none⟩), .int .i64 1] w fun e w' => e = .returned (.tuple #[.int .i64 0, .int .i64 1]) ∧ w' = w := by
  have H := hide (vl_z w x h)
  clear h
  go_enter Try.func13, Try.ntmps13
  go_wp2_with fail
  refine (unhide H).mono ?_
  rintro e w1 ⟨rfl, e0⟩
  have e0' := e0.symm
  clear e0
  subst e0'
  go_wp2
  go_ret2
  exact ⟨rfl, rfl⟩

set_option maxHeartbeats 800000 in
theorem vb_n (w : World) :
    Calls Try.prog 14 #[.pointer none, .int .i64 0] w fun e w' => e = .returned (.tuple #[.slice none 0 0, .int .i64 1]) ∧ w' = w := by
  have H := hide (dmade_nil w)
  go_enter Try.func14, Try.ntmps14
  go_wp2_with fail
  refine (unhide H).mono ?_
  rintro e w1 ⟨rfl, e0⟩
  have e0' := e0.symm
  clear e0
  subst e0'
  go_wp2
  go_ret2
  exact ⟨rfl, rfl⟩

set_option maxHeartbeats 800000 in
theorem vwu_w (w : World) (a : Option Addr) (n c : Nat) :
    Calls Try.prog 39 #[.pointer none, .func (.func 40) #[] #[], .int .i64 1, .slice a n c] w fun e w' => e = .returned (.int .i64 1) ∧ w' = w := by
  have H := hide (emade_nil w)
  go_enter Try.func39, Try.ntmps39
  go_wp2_with fail
  refine (unhide H).mono ?_
  rintro e w1 ⟨rfl, e0⟩
  have e0' := e0.symm
  clear e0
  subst e0'
  go_wp2
  go_ret
  exact ⟨rfl, rfl⟩

set_option maxHeartbeats 800000 in
theorem vwu_n (w : World) (a : Option Addr) (n c : Nat) :
    Calls Try.prog 21 #[.pointer none, .int .i64 1, .slice a n c] w fun e w' => e = .returned (.int .i64 1) ∧ w' = w := by
  have H := hide (vwu_w w a n c)
  go_enter Try.func21, Try.ntmps21
  go_wp2_with fail
  refine (unhide H).mono ?_
  rintro e w1 ⟨rfl, e0⟩
  have e0' := e0.symm
  clear e0
  subst e0'
  go_wp2
  go_ret
  exact ⟨rfl, rfl⟩

set_option maxHeartbeats 800000 in
theorem vws_w (w : World) (x : Nat) (a : Option Addr) (n c : Nat) (h : Wz w x) :
    Calls Try.prog 39 #[.pointer (some ⟨x, 0, none⟩), .func (.func 41) #[] #[], .int .i64 1, .slice a n c] w fun e w' => e = .returned (.int .i64 1) ∧ w' = w := by
  have H := hide (emade_void w x h)
  clear h
  go_enter Try.func39, Try.ntmps39
  go_wp2_with fail
  refine (unhide H).mono ?_
  rintro e w1 ⟨rfl, e0⟩
  have e0' := e0.symm
  clear e0
  subst e0'
  go_wp2
  go_ret
  exact ⟨rfl, rfl⟩

set_option maxHeartbeats 800000 in
theorem vws_z (w : World) (x : Nat) (a : Option Addr) (n c : Nat) (h : Wz w x) :
    Calls Try.prog 24 #[.pointer (some ⟨x, 0, none⟩), .int .i64 1, .slice a n c] w fun e w' => e = .returned (.int .i64 1) ∧ w' = w := by
  have H := hide (vws_w w x a n c h)
  clear h
  go_enter Try.func24, Try.ntmps24
  go_wp2_with fail
  refine (unhide H).mono ?_
  rintro e w1 ⟨rfl, e0⟩
  have e0' := e0.symm
  clear e0
  subst e0'
  go_wp2
  go_ret
  exact ⟨rfl, rfl⟩

set_option maxHeartbeats 800000 in
theorem vwb_n (w : World) (a : Option Addr) (n c : Nat) :
    Calls Try.prog 25 #[.pointer none, .slice a n c] w fun e w' => e = .returned (.int .i64 1) ∧ w' = w := by
  have H := hide (emade_nil w)
  go_enter Try.func25, Try.ntmps25
  go_wp2_with fail
  refine (unhide H).mono ?_
  rintro e w1 ⟨rfl, e0⟩
  have e0' := e0.symm
  clear e0
  subst e0'
  go_wp2
  go_ret
  exact ⟨rfl, rfl⟩

set_option maxHeartbeats 800000 in
theorem vwp_n (w : World) :
    Calls Try.prog 26 #[.pointer none, .int .i64 0, .int .i64 1, .int .i64 1] w fun e w' => e = .returned (.int .i64 1) ∧ w' = w := by
  have H := hide (emade_nil w)
  go_enter Try.func26, Try.ntmps26
  go_wp2_with fail
  refine (unhide H).mono ?_
  rintro e w1 ⟨rfl, e0⟩
  have e0' := e0.symm
  clear e0
  subst e0'
  go_wp2
  go_ret
  exact ⟨rfl, rfl⟩

set_option maxHeartbeats 800000 in
theorem vln_n (w : World) :
    Calls Try.prog 28 #[.pointer none] w fun e w' => e = .returned (.int .i64 0) ∧ w' = w := by
  have H := hide (emade_nil w)
  go_enter Try.func28, Try.ntmps28
  go_wp2_with fail
  refine (unhide H).mono ?_
  rintro e w1 ⟨rfl, e0⟩
  have e0' := e0.symm
  clear e0
  subst e0'
  go_wp2
  go_ret
  exact ⟨rfl, rfl⟩

set_option maxHeartbeats 800000 in
theorem val_n (w : World) :
    Calls Try.prog 29 #[.pointer none] w fun e w' => (∃ a c, e = .returned (.slice a 0 c)) ∧ w' = w := by
  have H := hide (emade_nil w)
  go_enter Try.func29, Try.ntmps29
  go_wp2_with fail
  refine (unhide H).mono ?_
  rintro e w1 ⟨rfl, e0⟩
  have e0' := e0.symm
  clear e0
  subst e0'
  go_wp2
  go_ret
  exact ⟨⟨_, _, rfl⟩, rfl⟩

set_option maxHeartbeats 800000 in
theorem vwb_z (w : World) (x : Nat) (a : Option Addr) (n c : Nat) (h : Wz w x) :
    Calls Try.prog 25 #[.pointer (some ⟨x, 0, none⟩), .slice a n c] w fun e w' => e = .returned (.int .i64 1) ∧ w' = w := by
  have H := hide (emade_void w x h)
  clear h
  go_enter Try.func25, Try.ntmps25
  go_wp2_with fail
  refine (unhide H).mono ?_
  rintro e w1 ⟨rfl, e0⟩
  have e0' := e0.symm
  clear e0
  subst e0'
  go_wp2
  go_ret
  exact ⟨rfl, rfl⟩

set_option maxHeartbeats 800000 in
theorem vwp_z (w : World) (x : Nat) (h : Wz w x) :
    Calls Try.prog 26 #[.pointer (some ⟨x, 0, none⟩), .int .i64 0, .int .i64 1, .int .i64 1] w fun e w' => e = .returned (.int .i64 1) ∧ w' = w := by
  have H := hide (emade_void w x h)
  clear h
  go_enter Try.func26, Try.ntmps26
  go_wp2_with fail
  refine (unhide H).mono ?_
  rintro e w1 ⟨rfl, e0⟩
  have e0' := e0.symm
  clear e0
  subst e0'
  go_wp2
  go_ret
  exact ⟨rfl, rfl⟩

set_option maxHeartbeats 800000 in
theorem vln_z (w : World) (x : Nat) (h : Wz w x) :
    Calls Try.prog 28 #[.pointer (some ⟨x, 0, none⟩)] w fun e w' => e = .returned (.int .i64 0) ∧ w' = w := by
  have H := hide (emade_void w x h)
  clear h
  go_enter Try.func28, Try.ntmps28
  go_wp2_with fail
  refine (unhide H).mono ?_
  rintro e w1 ⟨rfl, e0⟩
  have e0' := e0.symm
  clear e0
  subst e0'
  go_wp2
  go_ret
  exact ⟨rfl, rfl⟩

set_option maxHeartbeats 800000 in
theorem val_z (w : World) (x : Nat) (h : Wz w x) :
    Calls Try.prog 29 #[.pointer (some ⟨x, 0, none⟩)] w fun e w' => (∃ a c, e = .returned (.slice a 0 c)) ∧ w' = w := by
  have H := hide (emade_void w x h)
  clear h
  go_enter Try.func29, Try.ntmps29
  go_wp2_with fail
  refine (unhide H).mono ?_
  rintro e w1 ⟨rfl, e0⟩
  have e0' := e0.symm
  clear e0
  subst e0'
  go_wp2
  go_ret
  exact ⟨⟨_, _, rfl⟩, rfl⟩

set_option maxHeartbeats 800000 in
theorem vat_n (w : World) :
    Calls Try.prog 17 #[.pointer none] w fun e w' => e = .returned (.int .i64 0) ∧ w' = w := by
  have H := hide (dmade_nil w)
  go_enter Try.func17, Try.ntmps17
  go_wp2_with fail
  refine (unhide H).mono ?_
  rintro e w1 ⟨rfl, e0⟩
  have e0' := e0.symm
  clear e0
  subst e0'
  go_wp2
  go_ret
  exact ⟨rfl, rfl⟩

set_option maxHeartbeats 800000 in
theorem vle_n (w : World) :
    Calls Try.prog 18 #[.pointer none] w fun e w' => e = .returned (.int .i64 0) ∧ w' = w := by
  have H := hide (dmade_nil w)
  go_enter Try.func18, Try.ntmps18
  go_wp2_with fail
  refine (unhide H).mono ?_
  rintro e w1 ⟨rfl, e0⟩
  have e0' := e0.symm
  clear e0
  subst e0'
  go_wp2
  go_ret
  exact ⟨rfl, rfl⟩

set_option maxHeartbeats 800000 in
theorem vat_z (w : World) (x : Nat) (h : Rz w x) :
    Calls Try.prog 17 #[.pointer (some ⟨x, 0, none⟩)] w fun e w' => e = .returned (.int .i64 0) ∧ w' = w := by
  have H := hide (dmade_void w x h)
  clear h
  go_enter Try.func17, Try.ntmps17
  go_wp2_with fail
  refine (unhide H).mono ?_
  rintro e w1 ⟨rfl, e0⟩
  have e0' := e0.symm
  clear e0
  subst e0'
  go_wp2
  go_ret
  exact ⟨rfl, rfl⟩

set_option maxHeartbeats 800000 in
theorem vle_z (w : World) (x : Nat) (h : Rz w x) :
    Calls Try.prog 18 #[.pointer (some ⟨x, 0, none⟩)] w fun e w' => e = .returned (.int .i64 0) ∧ w' = w := by
  have H := hide (dmade_void w x h)
  clear h
  go_enter Try.func18, Try.ntmps18
  go_wp2_with fail
  refine (unhide H).mono ?_
  rintro e w1 ⟨rfl, e0⟩
  have e0' := e0.symm
  clear e0
  subst e0'
  go_wp2
  go_ret
  exact ⟨rfl, rfl⟩

theorem same_below {f : Nat} {vs : Array Value} {w : World} {p : Ending → Prop} (h : Calls Try.prog f vs w fun e w' => p e ∧ w' = w) : Calls Try.prog f vs w fun e w' => p e ∧ Below w.heap.size w w' :=
  h.mono (by
    rintro e w' ⟨h1, rfl⟩
    exact ⟨h1, Below.refl _ _⟩)
theorem voids : Voids6 where
  nu := fun w => same_below (vu_n w)
  zs := fun w x h => same_below (vs_z w x h)
  nb := fun w => same_below (vb_n w)
  nwu := fun w a n c => same_below (vwu_n w a n c)
  zws := fun w x a n c h => same_below (vws_z w x a n c h)
  nwb := fun w a n c => same_below (vwb_n w a n c)
  zwb := fun w x a n c h => same_below (vwb_z w x a n c h)
  nwp := fun w => same_below (vwp_n w)
  zwp := fun w x h => same_below (vwp_z w x h)
  nat := fun w => same_below (vat_n w)
  zat := fun w x h => same_below (vat_z w x h)
  nle := fun w => same_below (vle_n w)
  zle := fun w x h => same_below (vle_z w x h)
  nln := fun w => same_below (vln_n w)
  zln := fun w x h => same_below (vln_z w x h)
  nal := fun w => same_below (val_n w)
  zal := fun w x h => same_below (val_z w x h)

end Go.Proofs.Ytkmcpedhcdgnoaa
