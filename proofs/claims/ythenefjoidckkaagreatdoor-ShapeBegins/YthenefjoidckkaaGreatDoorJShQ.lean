/- Layer 11: lists of deeds in memory (written by mk/mkshq.py). -/
import Derived.Test.YthenefjoidckkaaGreatDoorJS4

namespace Go.Proofs.YthenefjoidckkaaGreatDoor
open Go.RowKit
set_option linter.unusedVariables false
set_option maxRecDepth 100000

def vf (v : Value) : List Value := [v]
/-- A deed as a method value. -/
def fv (X f : Nat) : Value := .func (.func f) #[.pointer (some ⟨X, 0, none⟩)] #[]
def fabs : Value := .func (.func 77) #[] #[]
theorem flat_vf : ∀ vs : List Value, vs.flatMap vf = vs
  | [] => rfl
  | v :: vs => by rw [List.flatMap_cons, flat_vf vs]; rfl
theorem orw_lit (W : World) (T : TypeId) (X : Array Value) (vs : List Value) (hX : X.toList = vs) (n : Nat) (hn : n = vs.length) (hs : n ≤ 1000) : Orw vf T 1 (W.alloc (.cells X T)) W.heap.size (.slice (some ⟨W.heap.size, 0, none⟩) n n) vs := by
  have hrow := heap_alloc_last W (.cells X T)
  have hf : vs.flatMap vf = vs := flat_vf vs
  have hl : X.size = n := by rw [hn, ← hX]; simp
  unfold Orw
  rw [hf]
  subst hn
  refine ⟨by simp, .inr ⟨W.heap.size, vs.length, X, rfl, Nat.le_refl _, hrow, Nat.le_refl _, by unfold maxLen; omega, by omega, ?_⟩⟩
  rw [hX, List.take_of_length_le (by omega)]
/-- A list of functions is answered. -/
def Fn (W : World) (vs : List Value) (e : Ending) (w' : World) : Prop := ∃ v, e = .returned v ∧ Orw vf 103 1 w' W.heap.size v vs ∧ Below W.heap.size W w'
set_option maxHeartbeats 400000 in
theorem p11list_any (W : World) (v : Value) : Calls Tryz.prog 67 #[v] W fun e w' => e = .returned v ∧ w' = W := by
  go_enter Tryz.func67, Tryz.ntmps67
  go_wp2
  go_ret
  exact ⟨rfl, rfl⟩
set_option maxHeartbeats 400000 in
theorem dv0 (C : Wcx) (x : Wst) (W : World) (k : WK C x W) (hop : C.p.op = 0) : Calls Tryz.prog 50 #[.pointer (some ⟨C.X, 0, none⟩)] W fun e w' => Fn W [] e w' := by
  have c5 := k.c56.1
  rw [hop] at c5
  clear k hop
  go_enter Tryz.func50, Tryz.ntmps50
  go_wp2_with (go_at_call 67; refine (p11list_any _ _).mono ?_; rintro e w' ⟨rfl, rfl⟩)
  go_ret
  exact ⟨_, rfl, Orw.nil _ _ _ _ _, Below.refl _ _⟩
set_option maxHeartbeats 400000 in
theorem dv1 (C : Wcx) (x : Wst) (W : World) (k : WK C x W) (hop : C.p.op = 1) : Calls Tryz.prog 50 #[.pointer (some ⟨C.X, 0, none⟩)] W fun e w' => Fn W [fv C.X 68] e w' := by
  have c5 := k.c56.1
  rw [hop] at c5
  clear k hop
  go_enter Tryz.func50, Tryz.ntmps50
  go_wp2_with (go_at_call 67; refine (p11list_any _ _).mono ?_; rintro e w' ⟨rfl, rfl⟩)
  go_ret
  exact ⟨_, rfl, orw_lit W 103 _ _ rfl _ rfl (by simp), bA (Below.refl _ _) _⟩
set_option maxHeartbeats 400000 in
theorem dv17 (C : Wcx) (x : Wst) (W : World) (k : WK C x W) (hop : C.p.op = 17) : Calls Tryz.prog 50 #[.pointer (some ⟨C.X, 0, none⟩)] W fun e w' => Fn W [fv C.X 69] e w' := by
  have c5 := k.c56.1
  rw [hop] at c5
  clear k hop
  go_enter Tryz.func50, Tryz.ntmps50
  go_wp2_with (go_at_call 67; refine (p11list_any _ _).mono ?_; rintro e w' ⟨rfl, rfl⟩)
  go_ret
  exact ⟨_, rfl, orw_lit W 103 _ _ rfl _ rfl (by simp), bA (Below.refl _ _) _⟩
set_option maxHeartbeats 400000 in
theorem dv9 (C : Wcx) (x : Wst) (W : World) (k : WK C x W) (hop : C.p.op = 9) : Calls Tryz.prog 50 #[.pointer (some ⟨C.X, 0, none⟩)] W fun e w' => Fn W [fv C.X 70] e w' := by
  have c5 := k.c56.1
  rw [hop] at c5
  clear k hop
  go_enter Tryz.func50, Tryz.ntmps50
  go_wp2_with (go_at_call 67; refine (p11list_any _ _).mono ?_; rintro e w' ⟨rfl, rfl⟩)
  go_ret
  exact ⟨_, rfl, orw_lit W 103 _ _ rfl _ rfl (by simp), bA (Below.refl _ _) _⟩
set_option maxHeartbeats 400000 in
theorem dv18 (C : Wcx) (x : Wst) (W : World) (k : WK C x W) (hop : C.p.op = 18) : Calls Tryz.prog 50 #[.pointer (some ⟨C.X, 0, none⟩)] W fun e w' => Fn W [fv C.X 71, fv C.X 69] e w' := by
  have c5 := k.c56.1
  rw [hop] at c5
  clear k hop
  go_enter Tryz.func50, Tryz.ntmps50
  go_wp2_with (go_at_call 67; refine (p11list_any _ _).mono ?_; rintro e w' ⟨rfl, rfl⟩)
  go_ret
  exact ⟨_, rfl, orw_lit W 103 _ _ rfl _ rfl (by simp), bA (Below.refl _ _) _⟩
set_option maxHeartbeats 400000 in
theorem dv20 (C : Wcx) (x : Wst) (W : World) (k : WK C x W) (hop : C.p.op = 20) : Calls Tryz.prog 50 #[.pointer (some ⟨C.X, 0, none⟩)] W fun e w' => Fn W [fv C.X 72, fv C.X 70] e w' := by
  have c5 := k.c56.1
  rw [hop] at c5
  clear k hop
  go_enter Tryz.func50, Tryz.ntmps50
  go_wp2_with (go_at_call 67; refine (p11list_any _ _).mono ?_; rintro e w' ⟨rfl, rfl⟩)
  go_ret
  exact ⟨_, rfl, orw_lit W 103 _ _ rfl _ rfl (by simp), bA (Below.refl _ _) _⟩
set_option maxHeartbeats 400000 in
theorem dv21 (C : Wcx) (x : Wst) (W : World) (k : WK C x W) (hop : C.p.op = 21) : Calls Tryz.prog 50 #[.pointer (some ⟨C.X, 0, none⟩)] W fun e w' => Fn W [fv C.X 73, fv C.X 74] e w' := by
  have c5 := k.c56.1
  rw [hop] at c5
  clear k hop
  go_enter Tryz.func50, Tryz.ntmps50
  go_wp2_with (go_at_call 67; refine (p11list_any _ _).mono ?_; rintro e w' ⟨rfl, rfl⟩)
  go_ret
  exact ⟨_, rfl, orw_lit W 103 _ _ rfl _ rfl (by simp), bA (Below.refl _ _) _⟩
set_option maxHeartbeats 400000 in
theorem dv22 (C : Wcx) (x : Wst) (W : World) (k : WK C x W) (hop : C.p.op = 22) : Calls Tryz.prog 50 #[.pointer (some ⟨C.X, 0, none⟩)] W fun e w' => Fn W [fv C.X 75, fv C.X 74] e w' := by
  have c5 := k.c56.1
  rw [hop] at c5
  clear k hop
  go_enter Tryz.func50, Tryz.ntmps50
  go_wp2_with (go_at_call 67; refine (p11list_any _ _).mono ?_; rintro e w' ⟨rfl, rfl⟩)
  go_ret
  exact ⟨_, rfl, orw_lit W 103 _ _ rfl _ rfl (by simp), bA (Below.refl _ _) _⟩
set_option maxHeartbeats 400000 in
theorem dv25 (C : Wcx) (x : Wst) (W : World) (k : WK C x W) (hop : C.p.op = 25) : Calls Tryz.prog 50 #[.pointer (some ⟨C.X, 0, none⟩)] W fun e w' => Fn W [fv C.X 76, fv C.X 74] e w' := by
  have c5 := k.c56.1
  rw [hop] at c5
  clear k hop
  go_enter Tryz.func50, Tryz.ntmps50
  go_wp2_with (go_at_call 67; refine (p11list_any _ _).mono ?_; rintro e w' ⟨rfl, rfl⟩)
  go_ret
  exact ⟨_, rfl, orw_lit W 103 _ _ rfl _ rfl (by simp), bA (Below.refl _ _) _⟩
set_option maxHeartbeats 1000000 in
theorem dv_pushes_no (C : Wcx) (x : Wst) (W : World) (k : WK C x W) (hop : C.p.op ≠ 0 ∧ C.p.op ≠ 1 ∧ C.p.op ≠ 17 ∧ C.p.op ≠ 9 ∧ C.p.op ≠ 18 ∧ C.p.op ≠ 20 ∧ C.p.op ≠ 21 ∧ C.p.op ≠ 22 ∧ C.p.op ≠ 25) : Calls Tryz.prog 50 #[.pointer (some ⟨C.X, 0, none⟩)] W fun e w' => Fn W [fabs] e w' := by
  have c5 := k.c56.1
  clear k
  generalize C.p.op = op at *
  have b0 : (op == 0) = false := by rw [beq_eq_false_iff_ne]; omega
  have b1 : (op == 1) = false := by rw [beq_eq_false_iff_ne]; omega
  have b17 : (op == 17) = false := by rw [beq_eq_false_iff_ne]; omega
  have b9 : (op == 9) = false := by rw [beq_eq_false_iff_ne]; omega
  have b18 : (op == 18) = false := by rw [beq_eq_false_iff_ne]; omega
  have b20 : (op == 20) = false := by rw [beq_eq_false_iff_ne]; omega
  have b21 : (op == 21) = false := by rw [beq_eq_false_iff_ne]; omega
  have b22 : (op == 22) = false := by rw [beq_eq_false_iff_ne]; omega
  have b25 : (op == 25) = false := by rw [beq_eq_false_iff_ne]; omega
  clear hop
  go_enter Tryz.func50, Tryz.ntmps50
  go_wp2_with (go_at_call 67; refine (p11list_any _ _).mono ?_; rintro e w' ⟨rfl, rfl⟩)
  go_ret
  exact ⟨_, rfl, orw_lit W 103 _ _ rfl _ rfl (by simp), bA (Below.refl _ _) _⟩
set_option maxHeartbeats 400000 in
theorem dv54 (C : Wcx) (x : Wst) (W : World) (k : WK C x W) (hop : C.p.op = 54) : Calls Tryz.prog 51 #[.pointer (some ⟨C.X, 0, none⟩)] W fun e w' => Fn W [fv C.X 78, fv C.X 79] e w' := by
  have c5 := k.c56.1
  rw [hop] at c5
  clear k hop
  go_enter Tryz.func51, Tryz.ntmps51
  go_wp2_with (go_at_call 67; refine (p11list_any _ _).mono ?_; rintro e w' ⟨rfl, rfl⟩)
  go_ret
  exact ⟨_, rfl, orw_lit W 103 _ _ rfl _ rfl (by simp), bA (Below.refl _ _) _⟩
set_option maxHeartbeats 400000 in
theorem dv55 (C : Wcx) (x : Wst) (W : World) (k : WK C x W) (hop : C.p.op = 55) : Calls Tryz.prog 51 #[.pointer (some ⟨C.X, 0, none⟩)] W fun e w' => Fn W [fv C.X 80, fv C.X 79] e w' := by
  have c5 := k.c56.1
  rw [hop] at c5
  clear k hop
  go_enter Tryz.func51, Tryz.ntmps51
  go_wp2_with (go_at_call 67; refine (p11list_any _ _).mono ?_; rintro e w' ⟨rfl, rfl⟩)
  go_ret
  exact ⟨_, rfl, orw_lit W 103 _ _ rfl _ rfl (by simp), bA (Below.refl _ _) _⟩
set_option maxHeartbeats 400000 in
theorem dv58 (C : Wcx) (x : Wst) (W : World) (k : WK C x W) (hop : C.p.op = 58) : Calls Tryz.prog 51 #[.pointer (some ⟨C.X, 0, none⟩)] W fun e w' => Fn W [fv C.X 81, fv C.X 79] e w' := by
  have c5 := k.c56.1
  rw [hop] at c5
  clear k hop
  go_enter Tryz.func51, Tryz.ntmps51
  go_wp2_with (go_at_call 67; refine (p11list_any _ _).mono ?_; rintro e w' ⟨rfl, rfl⟩)
  go_ret
  exact ⟨_, rfl, orw_lit W 103 _ _ rfl _ rfl (by simp), bA (Below.refl _ _) _⟩
set_option maxHeartbeats 400000 in
theorem dv46 (C : Wcx) (x : Wst) (W : World) (k : WK C x W) (hop : C.p.op = 46) : Calls Tryz.prog 51 #[.pointer (some ⟨C.X, 0, none⟩)] W fun e w' => Fn W [fv C.X 78, fv C.X 82, fv C.X 69] e w' := by
  have c5 := k.c56.1
  rw [hop] at c5
  clear k hop
  go_enter Tryz.func51, Tryz.ntmps51
  go_wp2_with (go_at_call 67; refine (p11list_any _ _).mono ?_; rintro e w' ⟨rfl, rfl⟩)
  go_ret
  exact ⟨_, rfl, orw_lit W 103 _ _ rfl _ rfl (by simp), bA (Below.refl _ _) _⟩
set_option maxHeartbeats 400000 in
theorem dv47 (C : Wcx) (x : Wst) (W : World) (k : WK C x W) (hop : C.p.op = 47) : Calls Tryz.prog 51 #[.pointer (some ⟨C.X, 0, none⟩)] W fun e w' => Fn W [fv C.X 78, fv C.X 83, fv C.X 70] e w' := by
  have c5 := k.c56.1
  rw [hop] at c5
  clear k hop
  go_enter Tryz.func51, Tryz.ntmps51
  go_wp2_with (go_at_call 67; refine (p11list_any _ _).mono ?_; rintro e w' ⟨rfl, rfl⟩)
  go_ret
  exact ⟨_, rfl, orw_lit W 103 _ _ rfl _ rfl (by simp), bA (Below.refl _ _) _⟩
set_option maxHeartbeats 400000 in
theorem dv51 (C : Wcx) (x : Wst) (W : World) (k : WK C x W) (hop : C.p.op = 51) : Calls Tryz.prog 51 #[.pointer (some ⟨C.X, 0, none⟩)] W fun e w' => Fn W [fv C.X 78, fv C.X 84, fv C.X 69] e w' := by
  have c5 := k.c56.1
  rw [hop] at c5
  clear k hop
  go_enter Tryz.func51, Tryz.ntmps51
  go_wp2_with (go_at_call 67; refine (p11list_any _ _).mono ?_; rintro e w' ⟨rfl, rfl⟩)
  go_ret
  exact ⟨_, rfl, orw_lit W 103 _ _ rfl _ rfl (by simp), bA (Below.refl _ _) _⟩
set_option maxHeartbeats 400000 in
theorem dv50 (C : Wcx) (x : Wst) (W : World) (k : WK C x W) (hop : C.p.op = 50) : Calls Tryz.prog 51 #[.pointer (some ⟨C.X, 0, none⟩)] W fun e w' => Fn W [fv C.X 78, fv C.X 85, fv C.X 86] e w' := by
  have c5 := k.c56.1
  rw [hop] at c5
  clear k hop
  go_enter Tryz.func51, Tryz.ntmps51
  go_wp2_with (go_at_call 67; refine (p11list_any _ _).mono ?_; rintro e w' ⟨rfl, rfl⟩)
  go_ret
  exact ⟨_, rfl, orw_lit W 103 _ _ rfl _ rfl (by simp), bA (Below.refl _ _) _⟩
set_option maxHeartbeats 400000 in
theorem dv79 (C : Wcx) (x : Wst) (W : World) (k : WK C x W) (hop : C.p.op = 79) : Calls Tryz.prog 51 #[.pointer (some ⟨C.X, 0, none⟩)] W fun e w' => Fn W [fv C.X 78, fv C.X 78, fv C.X 82] e w' := by
  have c5 := k.c56.1
  rw [hop] at c5
  clear k hop
  go_enter Tryz.func51, Tryz.ntmps51
  go_wp2_with (go_at_call 67; refine (p11list_any _ _).mono ?_; rintro e w' ⟨rfl, rfl⟩)
  go_ret
  exact ⟨_, rfl, orw_lit W 103 _ _ rfl _ rfl (by simp), bA (Below.refl _ _) _⟩
set_option maxHeartbeats 400000 in
theorem dv80 (C : Wcx) (x : Wst) (W : World) (k : WK C x W) (hop : C.p.op = 80) : Calls Tryz.prog 51 #[.pointer (some ⟨C.X, 0, none⟩)] W fun e w' => Fn W [fv C.X 80, fv C.X 78, fv C.X 83] e w' := by
  have c5 := k.c56.1
  rw [hop] at c5
  clear k hop
  go_enter Tryz.func51, Tryz.ntmps51
  go_wp2_with (go_at_call 67; refine (p11list_any _ _).mono ?_; rintro e w' ⟨rfl, rfl⟩)
  go_ret
  exact ⟨_, rfl, orw_lit W 103 _ _ rfl _ rfl (by simp), bA (Below.refl _ _) _⟩
set_option maxHeartbeats 400000 in
theorem dv84 (C : Wcx) (x : Wst) (W : World) (k : WK C x W) (hop : C.p.op = 84) : Calls Tryz.prog 51 #[.pointer (some ⟨C.X, 0, none⟩)] W fun e w' => Fn W [fv C.X 78, fv C.X 78, fv C.X 84] e w' := by
  have c5 := k.c56.1
  rw [hop] at c5
  clear k hop
  go_enter Tryz.func51, Tryz.ntmps51
  go_wp2_with (go_at_call 67; refine (p11list_any _ _).mono ?_; rintro e w' ⟨rfl, rfl⟩)
  go_ret
  exact ⟨_, rfl, orw_lit W 103 _ _ rfl _ rfl (by simp), bA (Below.refl _ _) _⟩
set_option maxHeartbeats 400000 in
theorem dv83 (C : Wcx) (x : Wst) (W : World) (k : WK C x W) (hop : C.p.op = 83) : Calls Tryz.prog 51 #[.pointer (some ⟨C.X, 0, none⟩)] W fun e w' => Fn W [fv C.X 81, fv C.X 78, fv C.X 85] e w' := by
  have c5 := k.c56.1
  rw [hop] at c5
  clear k hop
  go_enter Tryz.func51, Tryz.ntmps51
  go_wp2_with (go_at_call 67; refine (p11list_any _ _).mono ?_; rintro e w' ⟨rfl, rfl⟩)
  go_ret
  exact ⟨_, rfl, orw_lit W 103 _ _ rfl _ rfl (by simp), bA (Below.refl _ _) _⟩
set_option maxHeartbeats 1000000 in
theorem dv_stores_no (C : Wcx) (x : Wst) (W : World) (k : WK C x W) (hop : C.p.op ≠ 54 ∧ C.p.op ≠ 55 ∧ C.p.op ≠ 58 ∧ C.p.op ≠ 46 ∧ C.p.op ≠ 47 ∧ C.p.op ≠ 51 ∧ C.p.op ≠ 50 ∧ C.p.op ≠ 79 ∧ C.p.op ≠ 80 ∧ C.p.op ≠ 84 ∧ C.p.op ≠ 83) : Calls Tryz.prog 51 #[.pointer (some ⟨C.X, 0, none⟩)] W fun e w' => Fn W [fabs] e w' := by
  have c5 := k.c56.1
  clear k
  generalize C.p.op = op at *
  have b54 : (op == 54) = false := by rw [beq_eq_false_iff_ne]; omega
  have b55 : (op == 55) = false := by rw [beq_eq_false_iff_ne]; omega
  have b58 : (op == 58) = false := by rw [beq_eq_false_iff_ne]; omega
  have b46 : (op == 46) = false := by rw [beq_eq_false_iff_ne]; omega
  have b47 : (op == 47) = false := by rw [beq_eq_false_iff_ne]; omega
  have b51 : (op == 51) = false := by rw [beq_eq_false_iff_ne]; omega
  have b50 : (op == 50) = false := by rw [beq_eq_false_iff_ne]; omega
  have b79 : (op == 79) = false := by rw [beq_eq_false_iff_ne]; omega
  have b80 : (op == 80) = false := by rw [beq_eq_false_iff_ne]; omega
  have b84 : (op == 84) = false := by rw [beq_eq_false_iff_ne]; omega
  have b83 : (op == 83) = false := by rw [beq_eq_false_iff_ne]; omega
  clear hop
  go_enter Tryz.func51, Tryz.ntmps51
  go_wp2_with (go_at_call 67; refine (p11list_any _ _).mono ?_; rintro e w' ⟨rfl, rfl⟩)
  go_ret
  exact ⟨_, rfl, orw_lit W 103 _ _ rfl _ rfl (by simp), bA (Below.refl _ _) _⟩
set_option maxHeartbeats 400000 in
theorem dv87 (C : Wcx) (x : Wst) (W : World) (k : WK C x W) (hop : C.p.op = 87) : Calls Tryz.prog 52 #[.pointer (some ⟨C.X, 0, none⟩)] W fun e w' => Fn W [fv C.X 87] e w' := by
  have c5 := k.c56.1
  rw [hop] at c5
  clear k hop
  go_enter Tryz.func52, Tryz.ntmps52
  go_wp2_with (go_at_call 67; refine (p11list_any _ _).mono ?_; rintro e w' ⟨rfl, rfl⟩)
  go_ret
  exact ⟨_, rfl, orw_lit W 103 _ _ rfl _ rfl (by simp), bA (Below.refl _ _) _⟩
set_option maxHeartbeats 400000 in
theorem dv88 (C : Wcx) (x : Wst) (W : World) (k : WK C x W) (hop : C.p.op = 88) : Calls Tryz.prog 52 #[.pointer (some ⟨C.X, 0, none⟩)] W fun e w' => Fn W [fv C.X 88] e w' := by
  have c5 := k.c56.1
  rw [hop] at c5
  clear k hop
  go_enter Tryz.func52, Tryz.ntmps52
  go_wp2_with (go_at_call 67; refine (p11list_any _ _).mono ?_; rintro e w' ⟨rfl, rfl⟩)
  go_ret
  exact ⟨_, rfl, orw_lit W 103 _ _ rfl _ rfl (by simp), bA (Below.refl _ _) _⟩
set_option maxHeartbeats 400000 in
theorem dv89 (C : Wcx) (x : Wst) (W : World) (k : WK C x W) (hop : C.p.op = 89) : Calls Tryz.prog 52 #[.pointer (some ⟨C.X, 0, none⟩)] W fun e w' => Fn W [fv C.X 87, fv C.X 74, fv C.X 74] e w' := by
  have c5 := k.c56.1
  rw [hop] at c5
  clear k hop
  go_enter Tryz.func52, Tryz.ntmps52
  go_wp2_with (go_at_call 67; refine (p11list_any _ _).mono ?_; rintro e w' ⟨rfl, rfl⟩)
  go_ret
  exact ⟨_, rfl, orw_lit W 103 _ _ rfl _ rfl (by simp), bA (Below.refl _ _) _⟩
set_option maxHeartbeats 400000 in
theorem dv90 (C : Wcx) (x : Wst) (W : World) (k : WK C x W) (hop : C.p.op = 90) : Calls Tryz.prog 52 #[.pointer (some ⟨C.X, 0, none⟩)] W fun e w' => Fn W [fv C.X 87, fv C.X 87, fv C.X 74, fv C.X 89, fv C.X 74] e w' := by
  have c5 := k.c56.1
  rw [hop] at c5
  clear k hop
  go_enter Tryz.func52, Tryz.ntmps52
  go_wp2_with (go_at_call 67; refine (p11list_any _ _).mono ?_; rintro e w' ⟨rfl, rfl⟩)
  go_ret
  exact ⟨_, rfl, orw_lit W 103 _ _ rfl _ rfl (by simp), bA (Below.refl _ _) _⟩
set_option maxHeartbeats 400000 in
theorem dv92 (C : Wcx) (x : Wst) (W : World) (k : WK C x W) (hop : C.p.op = 92) : Calls Tryz.prog 52 #[.pointer (some ⟨C.X, 0, none⟩)] W fun e w' => Fn W [fv C.X 88, fv C.X 90, fv C.X 90] e w' := by
  have c5 := k.c56.1
  rw [hop] at c5
  clear k hop
  go_enter Tryz.func52, Tryz.ntmps52
  go_wp2_with (go_at_call 67; refine (p11list_any _ _).mono ?_; rintro e w' ⟨rfl, rfl⟩)
  go_ret
  exact ⟨_, rfl, orw_lit W 103 _ _ rfl _ rfl (by simp), bA (Below.refl _ _) _⟩
set_option maxHeartbeats 400000 in
theorem dv95 (C : Wcx) (x : Wst) (W : World) (k : WK C x W) (hop : C.p.op = 95) : Calls Tryz.prog 52 #[.pointer (some ⟨C.X, 0, none⟩)] W fun e w' => Fn W [fv C.X 87, fv C.X 87, fv C.X 74, fv C.X 89] e w' := by
  have c5 := k.c56.1
  rw [hop] at c5
  clear k hop
  go_enter Tryz.func52, Tryz.ntmps52
  go_wp2_with (go_at_call 67; refine (p11list_any _ _).mono ?_; rintro e w' ⟨rfl, rfl⟩)
  go_ret
  exact ⟨_, rfl, orw_lit W 103 _ _ rfl _ rfl (by simp), bA (Below.refl _ _) _⟩
set_option maxHeartbeats 1000000 in
theorem dv_shuffles_no (C : Wcx) (x : Wst) (W : World) (k : WK C x W) (hop : C.p.op ≠ 87 ∧ C.p.op ≠ 88 ∧ C.p.op ≠ 89 ∧ C.p.op ≠ 90 ∧ C.p.op ≠ 92 ∧ C.p.op ≠ 95) : Calls Tryz.prog 52 #[.pointer (some ⟨C.X, 0, none⟩)] W fun e w' => Fn W [fabs] e w' := by
  have c5 := k.c56.1
  clear k
  generalize C.p.op = op at *
  have b87 : (op == 87) = false := by rw [beq_eq_false_iff_ne]; omega
  have b88 : (op == 88) = false := by rw [beq_eq_false_iff_ne]; omega
  have b89 : (op == 89) = false := by rw [beq_eq_false_iff_ne]; omega
  have b90 : (op == 90) = false := by rw [beq_eq_false_iff_ne]; omega
  have b92 : (op == 92) = false := by rw [beq_eq_false_iff_ne]; omega
  have b95 : (op == 95) = false := by rw [beq_eq_false_iff_ne]; omega
  clear hop
  go_enter Tryz.func52, Tryz.ntmps52
  go_wp2_with (go_at_call 67; refine (p11list_any _ _).mono ?_; rintro e w' ⟨rfl, rfl⟩)
  go_ret
  exact ⟨_, rfl, orw_lit W 103 _ _ rfl _ rfl (by simp), bA (Below.refl _ _) _⟩
set_option maxHeartbeats 400000 in
theorem dv96 (C : Wcx) (x : Wst) (W : World) (k : WK C x W) (hop : C.p.op = 96) : Calls Tryz.prog 53 #[.pointer (some ⟨C.X, 0, none⟩)] W fun e w' => Fn W [fv C.X 78, fv C.X 78, fv C.X 69] e w' := by
  have c5 := k.c56.1
  rw [hop] at c5
  clear k hop
  go_enter Tryz.func53, Tryz.ntmps53
  go_wp2_with (go_at_call 67; refine (p11list_any _ _).mono ?_; rintro e w' ⟨rfl, rfl⟩)
  go_ret
  exact ⟨_, rfl, orw_lit W 103 _ _ rfl _ rfl (by simp), bA (Below.refl _ _) _⟩
set_option maxHeartbeats 400000 in
theorem dv100 (C : Wcx) (x : Wst) (W : World) (k : WK C x W) (hop : C.p.op = 100) : Calls Tryz.prog 53 #[.pointer (some ⟨C.X, 0, none⟩)] W fun e w' => Fn W [fv C.X 78, fv C.X 78, fv C.X 69] e w' := by
  have c5 := k.c56.1
  rw [hop] at c5
  clear k hop
  go_enter Tryz.func53, Tryz.ntmps53
  go_wp2_with (go_at_call 67; refine (p11list_any _ _).mono ?_; rintro e w' ⟨rfl, rfl⟩)
  go_ret
  exact ⟨_, rfl, orw_lit W 103 _ _ rfl _ rfl (by simp), bA (Below.refl _ _) _⟩
set_option maxHeartbeats 400000 in
theorem dv104 (C : Wcx) (x : Wst) (W : World) (k : WK C x W) (hop : C.p.op = 104) : Calls Tryz.prog 53 #[.pointer (some ⟨C.X, 0, none⟩)] W fun e w' => Fn W [fv C.X 78, fv C.X 78, fv C.X 69] e w' := by
  have c5 := k.c56.1
  rw [hop] at c5
  clear k hop
  go_enter Tryz.func53, Tryz.ntmps53
  go_wp2_with (go_at_call 67; refine (p11list_any _ _).mono ?_; rintro e w' ⟨rfl, rfl⟩)
  go_ret
  exact ⟨_, rfl, orw_lit W 103 _ _ rfl _ rfl (by simp), bA (Below.refl _ _) _⟩
set_option maxHeartbeats 400000 in
theorem dv108 (C : Wcx) (x : Wst) (W : World) (k : WK C x W) (hop : C.p.op = 108) : Calls Tryz.prog 53 #[.pointer (some ⟨C.X, 0, none⟩)] W fun e w' => Fn W [fv C.X 78, fv C.X 78, fv C.X 69] e w' := by
  have c5 := k.c56.1
  rw [hop] at c5
  clear k hop
  go_enter Tryz.func53, Tryz.ntmps53
  go_wp2_with (go_at_call 67; refine (p11list_any _ _).mono ?_; rintro e w' ⟨rfl, rfl⟩)
  go_ret
  exact ⟨_, rfl, orw_lit W 103 _ _ rfl _ rfl (by simp), bA (Below.refl _ _) _⟩
set_option maxHeartbeats 400000 in
theorem dv112 (C : Wcx) (x : Wst) (W : World) (k : WK C x W) (hop : C.p.op = 112) : Calls Tryz.prog 53 #[.pointer (some ⟨C.X, 0, none⟩)] W fun e w' => Fn W [fv C.X 78, fv C.X 78, fv C.X 69] e w' := by
  have c5 := k.c56.1
  rw [hop] at c5
  clear k hop
  go_enter Tryz.func53, Tryz.ntmps53
  go_wp2_with (go_at_call 67; refine (p11list_any _ _).mono ?_; rintro e w' ⟨rfl, rfl⟩)
  go_ret
  exact ⟨_, rfl, orw_lit W 103 _ _ rfl _ rfl (by simp), bA (Below.refl _ _) _⟩
set_option maxHeartbeats 400000 in
theorem dv120 (C : Wcx) (x : Wst) (W : World) (k : WK C x W) (hop : C.p.op = 120) : Calls Tryz.prog 53 #[.pointer (some ⟨C.X, 0, none⟩)] W fun e w' => Fn W [fv C.X 78, fv C.X 78, fv C.X 69] e w' := by
  have c5 := k.c56.1
  rw [hop] at c5
  clear k hop
  go_enter Tryz.func53, Tryz.ntmps53
  go_wp2_with (go_at_call 67; refine (p11list_any _ _).mono ?_; rintro e w' ⟨rfl, rfl⟩)
  go_ret
  exact ⟨_, rfl, orw_lit W 103 _ _ rfl _ rfl (by simp), bA (Below.refl _ _) _⟩
set_option maxHeartbeats 400000 in
theorem dv122 (C : Wcx) (x : Wst) (W : World) (k : WK C x W) (hop : C.p.op = 122) : Calls Tryz.prog 53 #[.pointer (some ⟨C.X, 0, none⟩)] W fun e w' => Fn W [fv C.X 78, fv C.X 78, fv C.X 69] e w' := by
  have c5 := k.c56.1
  rw [hop] at c5
  clear k hop
  go_enter Tryz.func53, Tryz.ntmps53
  go_wp2_with (go_at_call 67; refine (p11list_any _ _).mono ?_; rintro e w' ⟨rfl, rfl⟩)
  go_ret
  exact ⟨_, rfl, orw_lit W 103 _ _ rfl _ rfl (by simp), bA (Below.refl _ _) _⟩
set_option maxHeartbeats 400000 in
theorem dv124 (C : Wcx) (x : Wst) (W : World) (k : WK C x W) (hop : C.p.op = 124) : Calls Tryz.prog 53 #[.pointer (some ⟨C.X, 0, none⟩)] W fun e w' => Fn W [fv C.X 78, fv C.X 78, fv C.X 69] e w' := by
  have c5 := k.c56.1
  rw [hop] at c5
  clear k hop
  go_enter Tryz.func53, Tryz.ntmps53
  go_wp2_with (go_at_call 67; refine (p11list_any _ _).mono ?_; rintro e w' ⟨rfl, rfl⟩)
  go_ret
  exact ⟨_, rfl, orw_lit W 103 _ _ rfl _ rfl (by simp), bA (Below.refl _ _) _⟩
set_option maxHeartbeats 400000 in
theorem dv126 (C : Wcx) (x : Wst) (W : World) (k : WK C x W) (hop : C.p.op = 126) : Calls Tryz.prog 53 #[.pointer (some ⟨C.X, 0, none⟩)] W fun e w' => Fn W [fv C.X 78, fv C.X 78, fv C.X 69] e w' := by
  have c5 := k.c56.1
  rw [hop] at c5
  clear k hop
  go_enter Tryz.func53, Tryz.ntmps53
  go_wp2_with (go_at_call 67; refine (p11list_any _ _).mono ?_; rintro e w' ⟨rfl, rfl⟩)
  go_ret
  exact ⟨_, rfl, orw_lit W 103 _ _ rfl _ rfl (by simp), bA (Below.refl _ _) _⟩
set_option maxHeartbeats 400000 in
theorem dv128 (C : Wcx) (x : Wst) (W : World) (k : WK C x W) (hop : C.p.op = 128) : Calls Tryz.prog 53 #[.pointer (some ⟨C.X, 0, none⟩)] W fun e w' => Fn W [fv C.X 78, fv C.X 78, fv C.X 69] e w' := by
  have c5 := k.c56.1
  rw [hop] at c5
  clear k hop
  go_enter Tryz.func53, Tryz.ntmps53
  go_wp2_with (go_at_call 67; refine (p11list_any _ _).mono ?_; rintro e w' ⟨rfl, rfl⟩)
  go_ret
  exact ⟨_, rfl, orw_lit W 103 _ _ rfl _ rfl (by simp), bA (Below.refl _ _) _⟩
set_option maxHeartbeats 400000 in
theorem dv130 (C : Wcx) (x : Wst) (W : World) (k : WK C x W) (hop : C.p.op = 130) : Calls Tryz.prog 53 #[.pointer (some ⟨C.X, 0, none⟩)] W fun e w' => Fn W [fv C.X 78, fv C.X 78, fv C.X 69] e w' := by
  have c5 := k.c56.1
  rw [hop] at c5
  clear k hop
  go_enter Tryz.func53, Tryz.ntmps53
  go_wp2_with (go_at_call 67; refine (p11list_any _ _).mono ?_; rintro e w' ⟨rfl, rfl⟩)
  go_ret
  exact ⟨_, rfl, orw_lit W 103 _ _ rfl _ rfl (by simp), bA (Below.refl _ _) _⟩
set_option maxHeartbeats 400000 in
theorem dv97 (C : Wcx) (x : Wst) (W : World) (k : WK C x W) (hop : C.p.op = 97) : Calls Tryz.prog 53 #[.pointer (some ⟨C.X, 0, none⟩)] W fun e w' => Fn W [fv C.X 80, fv C.X 80, fv C.X 70] e w' := by
  have c5 := k.c56.1
  rw [hop] at c5
  clear k hop
  go_enter Tryz.func53, Tryz.ntmps53
  go_wp2_with (go_at_call 67; refine (p11list_any _ _).mono ?_; rintro e w' ⟨rfl, rfl⟩)
  go_ret
  exact ⟨_, rfl, orw_lit W 103 _ _ rfl _ rfl (by simp), bA (Below.refl _ _) _⟩
set_option maxHeartbeats 400000 in
theorem dv101 (C : Wcx) (x : Wst) (W : World) (k : WK C x W) (hop : C.p.op = 101) : Calls Tryz.prog 53 #[.pointer (some ⟨C.X, 0, none⟩)] W fun e w' => Fn W [fv C.X 80, fv C.X 80, fv C.X 70] e w' := by
  have c5 := k.c56.1
  rw [hop] at c5
  clear k hop
  go_enter Tryz.func53, Tryz.ntmps53
  go_wp2_with (go_at_call 67; refine (p11list_any _ _).mono ?_; rintro e w' ⟨rfl, rfl⟩)
  go_ret
  exact ⟨_, rfl, orw_lit W 103 _ _ rfl _ rfl (by simp), bA (Below.refl _ _) _⟩
set_option maxHeartbeats 400000 in
theorem dv105 (C : Wcx) (x : Wst) (W : World) (k : WK C x W) (hop : C.p.op = 105) : Calls Tryz.prog 53 #[.pointer (some ⟨C.X, 0, none⟩)] W fun e w' => Fn W [fv C.X 80, fv C.X 80, fv C.X 70] e w' := by
  have c5 := k.c56.1
  rw [hop] at c5
  clear k hop
  go_enter Tryz.func53, Tryz.ntmps53
  go_wp2_with (go_at_call 67; refine (p11list_any _ _).mono ?_; rintro e w' ⟨rfl, rfl⟩)
  go_ret
  exact ⟨_, rfl, orw_lit W 103 _ _ rfl _ rfl (by simp), bA (Below.refl _ _) _⟩
set_option maxHeartbeats 400000 in
theorem dv109 (C : Wcx) (x : Wst) (W : World) (k : WK C x W) (hop : C.p.op = 109) : Calls Tryz.prog 53 #[.pointer (some ⟨C.X, 0, none⟩)] W fun e w' => Fn W [fv C.X 80, fv C.X 80, fv C.X 70] e w' := by
  have c5 := k.c56.1
  rw [hop] at c5
  clear k hop
  go_enter Tryz.func53, Tryz.ntmps53
  go_wp2_with (go_at_call 67; refine (p11list_any _ _).mono ?_; rintro e w' ⟨rfl, rfl⟩)
  go_ret
  exact ⟨_, rfl, orw_lit W 103 _ _ rfl _ rfl (by simp), bA (Below.refl _ _) _⟩
set_option maxHeartbeats 400000 in
theorem dv113 (C : Wcx) (x : Wst) (W : World) (k : WK C x W) (hop : C.p.op = 113) : Calls Tryz.prog 53 #[.pointer (some ⟨C.X, 0, none⟩)] W fun e w' => Fn W [fv C.X 80, fv C.X 80, fv C.X 70] e w' := by
  have c5 := k.c56.1
  rw [hop] at c5
  clear k hop
  go_enter Tryz.func53, Tryz.ntmps53
  go_wp2_with (go_at_call 67; refine (p11list_any _ _).mono ?_; rintro e w' ⟨rfl, rfl⟩)
  go_ret
  exact ⟨_, rfl, orw_lit W 103 _ _ rfl _ rfl (by simp), bA (Below.refl _ _) _⟩
set_option maxHeartbeats 400000 in
theorem dv127 (C : Wcx) (x : Wst) (W : World) (k : WK C x W) (hop : C.p.op = 127) : Calls Tryz.prog 53 #[.pointer (some ⟨C.X, 0, none⟩)] W fun e w' => Fn W [fv C.X 80, fv C.X 80, fv C.X 70] e w' := by
  have c5 := k.c56.1
  rw [hop] at c5
  clear k hop
  go_enter Tryz.func53, Tryz.ntmps53
  go_wp2_with (go_at_call 67; refine (p11list_any _ _).mono ?_; rintro e w' ⟨rfl, rfl⟩)
  go_ret
  exact ⟨_, rfl, orw_lit W 103 _ _ rfl _ rfl (by simp), bA (Below.refl _ _) _⟩
set_option maxHeartbeats 400000 in
theorem dv129 (C : Wcx) (x : Wst) (W : World) (k : WK C x W) (hop : C.p.op = 129) : Calls Tryz.prog 53 #[.pointer (some ⟨C.X, 0, none⟩)] W fun e w' => Fn W [fv C.X 80, fv C.X 80, fv C.X 70] e w' := by
  have c5 := k.c56.1
  rw [hop] at c5
  clear k hop
  go_enter Tryz.func53, Tryz.ntmps53
  go_wp2_with (go_at_call 67; refine (p11list_any _ _).mono ?_; rintro e w' ⟨rfl, rfl⟩)
  go_ret
  exact ⟨_, rfl, orw_lit W 103 _ _ rfl _ rfl (by simp), bA (Below.refl _ _) _⟩
set_option maxHeartbeats 400000 in
theorem dv131 (C : Wcx) (x : Wst) (W : World) (k : WK C x W) (hop : C.p.op = 131) : Calls Tryz.prog 53 #[.pointer (some ⟨C.X, 0, none⟩)] W fun e w' => Fn W [fv C.X 80, fv C.X 80, fv C.X 70] e w' := by
  have c5 := k.c56.1
  rw [hop] at c5
  clear k hop
  go_enter Tryz.func53, Tryz.ntmps53
  go_wp2_with (go_at_call 67; refine (p11list_any _ _).mono ?_; rintro e w' ⟨rfl, rfl⟩)
  go_ret
  exact ⟨_, rfl, orw_lit W 103 _ _ rfl _ rfl (by simp), bA (Below.refl _ _) _⟩
set_option maxHeartbeats 400000 in
theorem dv121 (C : Wcx) (x : Wst) (W : World) (k : WK C x W) (hop : C.p.op = 121) : Calls Tryz.prog 53 #[.pointer (some ⟨C.X, 0, none⟩)] W fun e w' => Fn W [fv C.X 78, fv C.X 80, fv C.X 70] e w' := by
  have c5 := k.c56.1
  rw [hop] at c5
  clear k hop
  go_enter Tryz.func53, Tryz.ntmps53
  go_wp2_with (go_at_call 67; refine (p11list_any _ _).mono ?_; rintro e w' ⟨rfl, rfl⟩)
  go_ret
  exact ⟨_, rfl, orw_lit W 103 _ _ rfl _ rfl (by simp), bA (Below.refl _ _) _⟩
set_option maxHeartbeats 400000 in
theorem dv123 (C : Wcx) (x : Wst) (W : World) (k : WK C x W) (hop : C.p.op = 123) : Calls Tryz.prog 53 #[.pointer (some ⟨C.X, 0, none⟩)] W fun e w' => Fn W [fv C.X 78, fv C.X 80, fv C.X 70] e w' := by
  have c5 := k.c56.1
  rw [hop] at c5
  clear k hop
  go_enter Tryz.func53, Tryz.ntmps53
  go_wp2_with (go_at_call 67; refine (p11list_any _ _).mono ?_; rintro e w' ⟨rfl, rfl⟩)
  go_ret
  exact ⟨_, rfl, orw_lit W 103 _ _ rfl _ rfl (by simp), bA (Below.refl _ _) _⟩
set_option maxHeartbeats 400000 in
theorem dv125 (C : Wcx) (x : Wst) (W : World) (k : WK C x W) (hop : C.p.op = 125) : Calls Tryz.prog 53 #[.pointer (some ⟨C.X, 0, none⟩)] W fun e w' => Fn W [fv C.X 78, fv C.X 80, fv C.X 70] e w' := by
  have c5 := k.c56.1
  rw [hop] at c5
  clear k hop
  go_enter Tryz.func53, Tryz.ntmps53
  go_wp2_with (go_at_call 67; refine (p11list_any _ _).mono ?_; rintro e w' ⟨rfl, rfl⟩)
  go_ret
  exact ⟨_, rfl, orw_lit W 103 _ _ rfl _ rfl (by simp), bA (Below.refl _ _) _⟩
set_option maxHeartbeats 400000 in
theorem dv116 (C : Wcx) (x : Wst) (W : World) (k : WK C x W) (hop : C.p.op = 116) : Calls Tryz.prog 53 #[.pointer (some ⟨C.X, 0, none⟩)] W fun e w' => Fn W [fv C.X 78, fv C.X 69] e w' := by
  have c5 := k.c56.1
  rw [hop] at c5
  clear k hop
  go_enter Tryz.func53, Tryz.ntmps53
  go_wp2_with (go_at_call 67; refine (p11list_any _ _).mono ?_; rintro e w' ⟨rfl, rfl⟩)
  go_ret
  exact ⟨_, rfl, orw_lit W 103 _ _ rfl _ rfl (by simp), bA (Below.refl _ _) _⟩
set_option maxHeartbeats 400000 in
theorem dv145 (C : Wcx) (x : Wst) (W : World) (k : WK C x W) (hop : C.p.op = 145) : Calls Tryz.prog 53 #[.pointer (some ⟨C.X, 0, none⟩)] W fun e w' => Fn W [fv C.X 78, fv C.X 69] e w' := by
  have c5 := k.c56.1
  rw [hop] at c5
  clear k hop
  go_enter Tryz.func53, Tryz.ntmps53
  go_wp2_with (go_at_call 67; refine (p11list_any _ _).mono ?_; rintro e w' ⟨rfl, rfl⟩)
  go_ret
  exact ⟨_, rfl, orw_lit W 103 _ _ rfl _ rfl (by simp), bA (Below.refl _ _) _⟩
set_option maxHeartbeats 400000 in
theorem dv146 (C : Wcx) (x : Wst) (W : World) (k : WK C x W) (hop : C.p.op = 146) : Calls Tryz.prog 53 #[.pointer (some ⟨C.X, 0, none⟩)] W fun e w' => Fn W [fv C.X 78, fv C.X 69] e w' := by
  have c5 := k.c56.1
  rw [hop] at c5
  clear k hop
  go_enter Tryz.func53, Tryz.ntmps53
  go_wp2_with (go_at_call 67; refine (p11list_any _ _).mono ?_; rintro e w' ⟨rfl, rfl⟩)
  go_ret
  exact ⟨_, rfl, orw_lit W 103 _ _ rfl _ rfl (by simp), bA (Below.refl _ _) _⟩
set_option maxHeartbeats 400000 in
theorem dv147 (C : Wcx) (x : Wst) (W : World) (k : WK C x W) (hop : C.p.op = 147) : Calls Tryz.prog 53 #[.pointer (some ⟨C.X, 0, none⟩)] W fun e w' => Fn W [fv C.X 78, fv C.X 69] e w' := by
  have c5 := k.c56.1
  rw [hop] at c5
  clear k hop
  go_enter Tryz.func53, Tryz.ntmps53
  go_wp2_with (go_at_call 67; refine (p11list_any _ _).mono ?_; rintro e w' ⟨rfl, rfl⟩)
  go_ret
  exact ⟨_, rfl, orw_lit W 103 _ _ rfl _ rfl (by simp), bA (Below.refl _ _) _⟩
set_option maxHeartbeats 400000 in
theorem dv117 (C : Wcx) (x : Wst) (W : World) (k : WK C x W) (hop : C.p.op = 117) : Calls Tryz.prog 53 #[.pointer (some ⟨C.X, 0, none⟩)] W fun e w' => Fn W [fv C.X 80, fv C.X 70] e w' := by
  have c5 := k.c56.1
  rw [hop] at c5
  clear k hop
  go_enter Tryz.func53, Tryz.ntmps53
  go_wp2_with (go_at_call 67; refine (p11list_any _ _).mono ?_; rintro e w' ⟨rfl, rfl⟩)
  go_ret
  exact ⟨_, rfl, orw_lit W 103 _ _ rfl _ rfl (by simp), bA (Below.refl _ _) _⟩
set_option maxHeartbeats 400000 in
theorem dv133 (C : Wcx) (x : Wst) (W : World) (k : WK C x W) (hop : C.p.op = 133) : Calls Tryz.prog 53 #[.pointer (some ⟨C.X, 0, none⟩)] W fun e w' => Fn W [fv C.X 78, fv C.X 70] e w' := by
  have c5 := k.c56.1
  rw [hop] at c5
  clear k hop
  go_enter Tryz.func53, Tryz.ntmps53
  go_wp2_with (go_at_call 67; refine (p11list_any _ _).mono ?_; rintro e w' ⟨rfl, rfl⟩)
  go_ret
  exact ⟨_, rfl, orw_lit W 103 _ _ rfl _ rfl (by simp), bA (Below.refl _ _) _⟩
set_option maxHeartbeats 400000 in
theorem dv136 (C : Wcx) (x : Wst) (W : World) (k : WK C x W) (hop : C.p.op = 136) : Calls Tryz.prog 53 #[.pointer (some ⟨C.X, 0, none⟩)] W fun e w' => Fn W [fv C.X 80, fv C.X 69] e w' := by
  have c5 := k.c56.1
  rw [hop] at c5
  clear k hop
  go_enter Tryz.func53, Tryz.ntmps53
  go_wp2_with (go_at_call 67; refine (p11list_any _ _).mono ?_; rintro e w' ⟨rfl, rfl⟩)
  go_ret
  exact ⟨_, rfl, orw_lit W 103 _ _ rfl _ rfl (by simp), bA (Below.refl _ _) _⟩
set_option maxHeartbeats 400000 in
theorem dv148 (C : Wcx) (x : Wst) (W : World) (k : WK C x W) (hop : C.p.op = 148) : Calls Tryz.prog 53 #[.pointer (some ⟨C.X, 0, none⟩)] W fun e w' => Fn W [fv C.X 80, fv C.X 80, fv C.X 69] e w' := by
  have c5 := k.c56.1
  rw [hop] at c5
  clear k hop
  go_enter Tryz.func53, Tryz.ntmps53
  go_wp2_with (go_at_call 67; refine (p11list_any _ _).mono ?_; rintro e w' ⟨rfl, rfl⟩)
  go_ret
  exact ⟨_, rfl, orw_lit W 103 _ _ rfl _ rfl (by simp), bA (Below.refl _ _) _⟩
set_option maxHeartbeats 400000 in
theorem dv132 (C : Wcx) (x : Wst) (W : World) (k : WK C x W) (hop : C.p.op = 132) : Calls Tryz.prog 53 #[.pointer (some ⟨C.X, 0, none⟩)] W fun e w' => Fn W [fv C.X 73] e w' := by
  have c5 := k.c56.1
  rw [hop] at c5
  clear k hop
  go_enter Tryz.func53, Tryz.ntmps53
  go_wp2_with (go_at_call 67; refine (p11list_any _ _).mono ?_; rintro e w' ⟨rfl, rfl⟩)
  go_ret
  exact ⟨_, rfl, orw_lit W 103 _ _ rfl _ rfl (by simp), bA (Below.refl _ _) _⟩
set_option maxHeartbeats 1000000 in
theorem dv_sums_no (C : Wcx) (x : Wst) (W : World) (k : WK C x W) (hop : C.p.op ≠ 96 ∧ C.p.op ≠ 100 ∧ C.p.op ≠ 104 ∧ C.p.op ≠ 108 ∧ C.p.op ≠ 112 ∧ C.p.op ≠ 120 ∧ C.p.op ≠ 122 ∧ C.p.op ≠ 124 ∧ C.p.op ≠ 126 ∧ C.p.op ≠ 128 ∧ C.p.op ≠ 130 ∧ C.p.op ≠ 97 ∧ C.p.op ≠ 101 ∧ C.p.op ≠ 105 ∧ C.p.op ≠ 109 ∧ C.p.op ≠ 113 ∧ C.p.op ≠ 127 ∧ C.p.op ≠ 129 ∧ C.p.op ≠ 131 ∧ C.p.op ≠ 121 ∧ C.p.op ≠ 123 ∧ C.p.op ≠ 125 ∧ C.p.op ≠ 116 ∧ C.p.op ≠ 145 ∧ C.p.op ≠ 146 ∧ C.p.op ≠ 147 ∧ C.p.op ≠ 117 ∧ C.p.op ≠ 133 ∧ C.p.op ≠ 136 ∧ C.p.op ≠ 148 ∧ C.p.op ≠ 132) : Calls Tryz.prog 53 #[.pointer (some ⟨C.X, 0, none⟩)] W fun e w' => Fn W [fabs] e w' := by
  have c5 := k.c56.1
  clear k
  generalize C.p.op = op at *
  have b96 : (op == 96) = false := by rw [beq_eq_false_iff_ne]; omega
  have b100 : (op == 100) = false := by rw [beq_eq_false_iff_ne]; omega
  have b104 : (op == 104) = false := by rw [beq_eq_false_iff_ne]; omega
  have b108 : (op == 108) = false := by rw [beq_eq_false_iff_ne]; omega
  have b112 : (op == 112) = false := by rw [beq_eq_false_iff_ne]; omega
  have b120 : (op == 120) = false := by rw [beq_eq_false_iff_ne]; omega
  have b122 : (op == 122) = false := by rw [beq_eq_false_iff_ne]; omega
  have b124 : (op == 124) = false := by rw [beq_eq_false_iff_ne]; omega
  have b126 : (op == 126) = false := by rw [beq_eq_false_iff_ne]; omega
  have b128 : (op == 128) = false := by rw [beq_eq_false_iff_ne]; omega
  have b130 : (op == 130) = false := by rw [beq_eq_false_iff_ne]; omega
  have b97 : (op == 97) = false := by rw [beq_eq_false_iff_ne]; omega
  have b101 : (op == 101) = false := by rw [beq_eq_false_iff_ne]; omega
  have b105 : (op == 105) = false := by rw [beq_eq_false_iff_ne]; omega
  have b109 : (op == 109) = false := by rw [beq_eq_false_iff_ne]; omega
  have b113 : (op == 113) = false := by rw [beq_eq_false_iff_ne]; omega
  have b127 : (op == 127) = false := by rw [beq_eq_false_iff_ne]; omega
  have b129 : (op == 129) = false := by rw [beq_eq_false_iff_ne]; omega
  have b131 : (op == 131) = false := by rw [beq_eq_false_iff_ne]; omega
  have b121 : (op == 121) = false := by rw [beq_eq_false_iff_ne]; omega
  have b123 : (op == 123) = false := by rw [beq_eq_false_iff_ne]; omega
  have b125 : (op == 125) = false := by rw [beq_eq_false_iff_ne]; omega
  have b116 : (op == 116) = false := by rw [beq_eq_false_iff_ne]; omega
  have b145 : (op == 145) = false := by rw [beq_eq_false_iff_ne]; omega
  have b146 : (op == 146) = false := by rw [beq_eq_false_iff_ne]; omega
  have b147 : (op == 147) = false := by rw [beq_eq_false_iff_ne]; omega
  have b117 : (op == 117) = false := by rw [beq_eq_false_iff_ne]; omega
  have b133 : (op == 133) = false := by rw [beq_eq_false_iff_ne]; omega
  have b136 : (op == 136) = false := by rw [beq_eq_false_iff_ne]; omega
  have b148 : (op == 148) = false := by rw [beq_eq_false_iff_ne]; omega
  have b132 : (op == 132) = false := by rw [beq_eq_false_iff_ne]; omega
  clear hop
  go_enter Tryz.func53, Tryz.ntmps53
  go_wp2_with (go_at_call 67; refine (p11list_any _ _).mono ?_; rintro e w' ⟨rfl, rfl⟩)
  go_ret
  exact ⟨_, rfl, orw_lit W 103 _ _ rfl _ rfl (by simp), bA (Below.refl _ _) _⟩
set_option maxHeartbeats 400000 in
theorem dv167 (C : Wcx) (x : Wst) (W : World) (k : WK C x W) (hop : C.p.op = 167) : Calls Tryz.prog 54 #[.pointer (some ⟨C.X, 0, none⟩)] W fun e w' => Fn W [] e w' := by
  have c5 := k.c56.1
  rw [hop] at c5
  clear k hop
  go_enter Tryz.func54, Tryz.ntmps54
  go_wp2_with (go_at_call 67; refine (p11list_any _ _).mono ?_; rintro e w' ⟨rfl, rfl⟩)
  go_ret
  exact ⟨_, rfl, Orw.nil _ _ _ _ _, Below.refl _ _⟩
set_option maxHeartbeats 400000 in
theorem dv153 (C : Wcx) (x : Wst) (W : World) (k : WK C x W) (hop : C.p.op = 153) : Calls Tryz.prog 54 #[.pointer (some ⟨C.X, 0, none⟩)] W fun e w' => Fn W [fv C.X 78] e w' := by
  have c5 := k.c56.1
  rw [hop] at c5
  clear k hop
  go_enter Tryz.func54, Tryz.ntmps54
  go_wp2_with (go_at_call 67; refine (p11list_any _ _).mono ?_; rintro e w' ⟨rfl, rfl⟩)
  go_ret
  exact ⟨_, rfl, orw_lit W 103 _ _ rfl _ rfl (by simp), bA (Below.refl _ _) _⟩
set_option maxHeartbeats 400000 in
theorem dv154 (C : Wcx) (x : Wst) (W : World) (k : WK C x W) (hop : C.p.op = 154) : Calls Tryz.prog 54 #[.pointer (some ⟨C.X, 0, none⟩)] W fun e w' => Fn W [fv C.X 78] e w' := by
  have c5 := k.c56.1
  rw [hop] at c5
  clear k hop
  go_enter Tryz.func54, Tryz.ntmps54
  go_wp2_with (go_at_call 67; refine (p11list_any _ _).mono ?_; rintro e w' ⟨rfl, rfl⟩)
  go_ret
  exact ⟨_, rfl, orw_lit W 103 _ _ rfl _ rfl (by simp), bA (Below.refl _ _) _⟩
set_option maxHeartbeats 400000 in
theorem dv155 (C : Wcx) (x : Wst) (W : World) (k : WK C x W) (hop : C.p.op = 155) : Calls Tryz.prog 54 #[.pointer (some ⟨C.X, 0, none⟩)] W fun e w' => Fn W [fv C.X 78] e w' := by
  have c5 := k.c56.1
  rw [hop] at c5
  clear k hop
  go_enter Tryz.func54, Tryz.ntmps54
  go_wp2_with (go_at_call 67; refine (p11list_any _ _).mono ?_; rintro e w' ⟨rfl, rfl⟩)
  go_ret
  exact ⟨_, rfl, orw_lit W 103 _ _ rfl _ rfl (by simp), bA (Below.refl _ _) _⟩
set_option maxHeartbeats 400000 in
theorem dv156 (C : Wcx) (x : Wst) (W : World) (k : WK C x W) (hop : C.p.op = 156) : Calls Tryz.prog 54 #[.pointer (some ⟨C.X, 0, none⟩)] W fun e w' => Fn W [fv C.X 78] e w' := by
  have c5 := k.c56.1
  rw [hop] at c5
  clear k hop
  go_enter Tryz.func54, Tryz.ntmps54
  go_wp2_with (go_at_call 67; refine (p11list_any _ _).mono ?_; rintro e w' ⟨rfl, rfl⟩)
  go_ret
  exact ⟨_, rfl, orw_lit W 103 _ _ rfl _ rfl (by simp), bA (Below.refl _ _) _⟩
set_option maxHeartbeats 400000 in
theorem dv157 (C : Wcx) (x : Wst) (W : World) (k : WK C x W) (hop : C.p.op = 157) : Calls Tryz.prog 54 #[.pointer (some ⟨C.X, 0, none⟩)] W fun e w' => Fn W [fv C.X 78] e w' := by
  have c5 := k.c56.1
  rw [hop] at c5
  clear k hop
  go_enter Tryz.func54, Tryz.ntmps54
  go_wp2_with (go_at_call 67; refine (p11list_any _ _).mono ?_; rintro e w' ⟨rfl, rfl⟩)
  go_ret
  exact ⟨_, rfl, orw_lit W 103 _ _ rfl _ rfl (by simp), bA (Below.refl _ _) _⟩
set_option maxHeartbeats 400000 in
theorem dv158 (C : Wcx) (x : Wst) (W : World) (k : WK C x W) (hop : C.p.op = 158) : Calls Tryz.prog 54 #[.pointer (some ⟨C.X, 0, none⟩)] W fun e w' => Fn W [fv C.X 78] e w' := by
  have c5 := k.c56.1
  rw [hop] at c5
  clear k hop
  go_enter Tryz.func54, Tryz.ntmps54
  go_wp2_with (go_at_call 67; refine (p11list_any _ _).mono ?_; rintro e w' ⟨rfl, rfl⟩)
  go_ret
  exact ⟨_, rfl, orw_lit W 103 _ _ rfl _ rfl (by simp), bA (Below.refl _ _) _⟩
set_option maxHeartbeats 400000 in
theorem dv170 (C : Wcx) (x : Wst) (W : World) (k : WK C x W) (hop : C.p.op = 170) : Calls Tryz.prog 54 #[.pointer (some ⟨C.X, 0, none⟩)] W fun e w' => Fn W [fv C.X 78] e w' := by
  have c5 := k.c56.1
  rw [hop] at c5
  clear k hop
  go_enter Tryz.func54, Tryz.ntmps54
  go_wp2_with (go_at_call 67; refine (p11list_any _ _).mono ?_; rintro e w' ⟨rfl, rfl⟩)
  go_ret
  exact ⟨_, rfl, orw_lit W 103 _ _ rfl _ rfl (by simp), bA (Below.refl _ _) _⟩
set_option maxHeartbeats 400000 in
theorem dv171 (C : Wcx) (x : Wst) (W : World) (k : WK C x W) (hop : C.p.op = 171) : Calls Tryz.prog 54 #[.pointer (some ⟨C.X, 0, none⟩)] W fun e w' => Fn W [fv C.X 78] e w' := by
  have c5 := k.c56.1
  rw [hop] at c5
  clear k hop
  go_enter Tryz.func54, Tryz.ntmps54
  go_wp2_with (go_at_call 67; refine (p11list_any _ _).mono ?_; rintro e w' ⟨rfl, rfl⟩)
  go_ret
  exact ⟨_, rfl, orw_lit W 103 _ _ rfl _ rfl (by simp), bA (Below.refl _ _) _⟩
set_option maxHeartbeats 400000 in
theorem dv159 (C : Wcx) (x : Wst) (W : World) (k : WK C x W) (hop : C.p.op = 159) : Calls Tryz.prog 54 #[.pointer (some ⟨C.X, 0, none⟩)] W fun e w' => Fn W [fv C.X 78, fv C.X 78] e w' := by
  have c5 := k.c56.1
  rw [hop] at c5
  clear k hop
  go_enter Tryz.func54, Tryz.ntmps54
  go_wp2_with (go_at_call 67; refine (p11list_any _ _).mono ?_; rintro e w' ⟨rfl, rfl⟩)
  go_ret
  exact ⟨_, rfl, orw_lit W 103 _ _ rfl _ rfl (by simp), bA (Below.refl _ _) _⟩
set_option maxHeartbeats 400000 in
theorem dv160 (C : Wcx) (x : Wst) (W : World) (k : WK C x W) (hop : C.p.op = 160) : Calls Tryz.prog 54 #[.pointer (some ⟨C.X, 0, none⟩)] W fun e w' => Fn W [fv C.X 78, fv C.X 78] e w' := by
  have c5 := k.c56.1
  rw [hop] at c5
  clear k hop
  go_enter Tryz.func54, Tryz.ntmps54
  go_wp2_with (go_at_call 67; refine (p11list_any _ _).mono ?_; rintro e w' ⟨rfl, rfl⟩)
  go_ret
  exact ⟨_, rfl, orw_lit W 103 _ _ rfl _ rfl (by simp), bA (Below.refl _ _) _⟩
set_option maxHeartbeats 400000 in
theorem dv161 (C : Wcx) (x : Wst) (W : World) (k : WK C x W) (hop : C.p.op = 161) : Calls Tryz.prog 54 #[.pointer (some ⟨C.X, 0, none⟩)] W fun e w' => Fn W [fv C.X 78, fv C.X 78] e w' := by
  have c5 := k.c56.1
  rw [hop] at c5
  clear k hop
  go_enter Tryz.func54, Tryz.ntmps54
  go_wp2_with (go_at_call 67; refine (p11list_any _ _).mono ?_; rintro e w' ⟨rfl, rfl⟩)
  go_ret
  exact ⟨_, rfl, orw_lit W 103 _ _ rfl _ rfl (by simp), bA (Below.refl _ _) _⟩
set_option maxHeartbeats 400000 in
theorem dv162 (C : Wcx) (x : Wst) (W : World) (k : WK C x W) (hop : C.p.op = 162) : Calls Tryz.prog 54 #[.pointer (some ⟨C.X, 0, none⟩)] W fun e w' => Fn W [fv C.X 78, fv C.X 78] e w' := by
  have c5 := k.c56.1
  rw [hop] at c5
  clear k hop
  go_enter Tryz.func54, Tryz.ntmps54
  go_wp2_with (go_at_call 67; refine (p11list_any _ _).mono ?_; rintro e w' ⟨rfl, rfl⟩)
  go_ret
  exact ⟨_, rfl, orw_lit W 103 _ _ rfl _ rfl (by simp), bA (Below.refl _ _) _⟩
set_option maxHeartbeats 400000 in
theorem dv163 (C : Wcx) (x : Wst) (W : World) (k : WK C x W) (hop : C.p.op = 163) : Calls Tryz.prog 54 #[.pointer (some ⟨C.X, 0, none⟩)] W fun e w' => Fn W [fv C.X 78, fv C.X 78] e w' := by
  have c5 := k.c56.1
  rw [hop] at c5
  clear k hop
  go_enter Tryz.func54, Tryz.ntmps54
  go_wp2_with (go_at_call 67; refine (p11list_any _ _).mono ?_; rintro e w' ⟨rfl, rfl⟩)
  go_ret
  exact ⟨_, rfl, orw_lit W 103 _ _ rfl _ rfl (by simp), bA (Below.refl _ _) _⟩
set_option maxHeartbeats 400000 in
theorem dv164 (C : Wcx) (x : Wst) (W : World) (k : WK C x W) (hop : C.p.op = 164) : Calls Tryz.prog 54 #[.pointer (some ⟨C.X, 0, none⟩)] W fun e w' => Fn W [fv C.X 78, fv C.X 78] e w' := by
  have c5 := k.c56.1
  rw [hop] at c5
  clear k hop
  go_enter Tryz.func54, Tryz.ntmps54
  go_wp2_with (go_at_call 67; refine (p11list_any _ _).mono ?_; rintro e w' ⟨rfl, rfl⟩)
  go_ret
  exact ⟨_, rfl, orw_lit W 103 _ _ rfl _ rfl (by simp), bA (Below.refl _ _) _⟩
set_option maxHeartbeats 400000 in
theorem dv165 (C : Wcx) (x : Wst) (W : World) (k : WK C x W) (hop : C.p.op = 165) : Calls Tryz.prog 54 #[.pointer (some ⟨C.X, 0, none⟩)] W fun e w' => Fn W [fv C.X 81, fv C.X 81] e w' := by
  have c5 := k.c56.1
  rw [hop] at c5
  clear k hop
  go_enter Tryz.func54, Tryz.ntmps54
  go_wp2_with (go_at_call 67; refine (p11list_any _ _).mono ?_; rintro e w' ⟨rfl, rfl⟩)
  go_ret
  exact ⟨_, rfl, orw_lit W 103 _ _ rfl _ rfl (by simp), bA (Below.refl _ _) _⟩
set_option maxHeartbeats 400000 in
theorem dv166 (C : Wcx) (x : Wst) (W : World) (k : WK C x W) (hop : C.p.op = 166) : Calls Tryz.prog 54 #[.pointer (some ⟨C.X, 0, none⟩)] W fun e w' => Fn W [fv C.X 81, fv C.X 81] e w' := by
  have c5 := k.c56.1
  rw [hop] at c5
  clear k hop
  go_enter Tryz.func54, Tryz.ntmps54
  go_wp2_with (go_at_call 67; refine (p11list_any _ _).mono ?_; rintro e w' ⟨rfl, rfl⟩)
  go_ret
  exact ⟨_, rfl, orw_lit W 103 _ _ rfl _ rfl (by simp), bA (Below.refl _ _) _⟩
set_option maxHeartbeats 400000 in
theorem dv172 (C : Wcx) (x : Wst) (W : World) (k : WK C x W) (hop : C.p.op = 172) : Calls Tryz.prog 54 #[.pointer (some ⟨C.X, 0, none⟩)] W fun e w' => Fn W [fv C.X 91, fv C.X 92] e w' := by
  have c5 := k.c56.1
  rw [hop] at c5
  clear k hop
  go_enter Tryz.func54, Tryz.ntmps54
  go_wp2_with (go_at_call 67; refine (p11list_any _ _).mono ?_; rintro e w' ⟨rfl, rfl⟩)
  go_ret
  exact ⟨_, rfl, orw_lit W 103 _ _ rfl _ rfl (by simp), bA (Below.refl _ _) _⟩
set_option maxHeartbeats 400000 in
theorem dv173 (C : Wcx) (x : Wst) (W : World) (k : WK C x W) (hop : C.p.op = 173) : Calls Tryz.prog 54 #[.pointer (some ⟨C.X, 0, none⟩)] W fun e w' => Fn W [fv C.X 93, fv C.X 92] e w' := by
  have c5 := k.c56.1
  rw [hop] at c5
  clear k hop
  go_enter Tryz.func54, Tryz.ntmps54
  go_wp2_with (go_at_call 67; refine (p11list_any _ _).mono ?_; rintro e w' ⟨rfl, rfl⟩)
  go_ret
  exact ⟨_, rfl, orw_lit W 103 _ _ rfl _ rfl (by simp), bA (Below.refl _ _) _⟩
set_option maxHeartbeats 400000 in
theorem dv176 (C : Wcx) (x : Wst) (W : World) (k : WK C x W) (hop : C.p.op = 176) : Calls Tryz.prog 54 #[.pointer (some ⟨C.X, 0, none⟩)] W fun e w' => Fn W [fv C.X 94, fv C.X 92] e w' := by
  have c5 := k.c56.1
  rw [hop] at c5
  clear k hop
  go_enter Tryz.func54, Tryz.ntmps54
  go_wp2_with (go_at_call 67; refine (p11list_any _ _).mono ?_; rintro e w' ⟨rfl, rfl⟩)
  go_ret
  exact ⟨_, rfl, orw_lit W 103 _ _ rfl _ rfl (by simp), bA (Below.refl _ _) _⟩
set_option maxHeartbeats 400000 in
theorem dv177 (C : Wcx) (x : Wst) (W : World) (k : WK C x W) (hop : C.p.op = 177) : Calls Tryz.prog 54 #[.pointer (some ⟨C.X, 0, none⟩)] W fun e w' => Fn W [fv C.X 95] e w' := by
  have c5 := k.c56.1
  rw [hop] at c5
  clear k hop
  go_enter Tryz.func54, Tryz.ntmps54
  go_wp2_with (go_at_call 67; refine (p11list_any _ _).mono ?_; rintro e w' ⟨rfl, rfl⟩)
  go_ret
  exact ⟨_, rfl, orw_lit W 103 _ _ rfl _ rfl (by simp), bA (Below.refl _ _) _⟩
set_option maxHeartbeats 1000000 in
theorem dv_branches_no (C : Wcx) (x : Wst) (W : World) (k : WK C x W) (hop : C.p.op ≠ 167 ∧ C.p.op ≠ 153 ∧ C.p.op ≠ 154 ∧ C.p.op ≠ 155 ∧ C.p.op ≠ 156 ∧ C.p.op ≠ 157 ∧ C.p.op ≠ 158 ∧ C.p.op ≠ 170 ∧ C.p.op ≠ 171 ∧ C.p.op ≠ 159 ∧ C.p.op ≠ 160 ∧ C.p.op ≠ 161 ∧ C.p.op ≠ 162 ∧ C.p.op ≠ 163 ∧ C.p.op ≠ 164 ∧ C.p.op ≠ 165 ∧ C.p.op ≠ 166 ∧ C.p.op ≠ 172 ∧ C.p.op ≠ 173 ∧ C.p.op ≠ 176 ∧ C.p.op ≠ 177) : Calls Tryz.prog 54 #[.pointer (some ⟨C.X, 0, none⟩)] W fun e w' => Fn W [fabs] e w' := by
  have c5 := k.c56.1
  clear k
  generalize C.p.op = op at *
  have b167 : (op == 167) = false := by rw [beq_eq_false_iff_ne]; omega
  have b153 : (op == 153) = false := by rw [beq_eq_false_iff_ne]; omega
  have b154 : (op == 154) = false := by rw [beq_eq_false_iff_ne]; omega
  have b155 : (op == 155) = false := by rw [beq_eq_false_iff_ne]; omega
  have b156 : (op == 156) = false := by rw [beq_eq_false_iff_ne]; omega
  have b157 : (op == 157) = false := by rw [beq_eq_false_iff_ne]; omega
  have b158 : (op == 158) = false := by rw [beq_eq_false_iff_ne]; omega
  have b170 : (op == 170) = false := by rw [beq_eq_false_iff_ne]; omega
  have b171 : (op == 171) = false := by rw [beq_eq_false_iff_ne]; omega
  have b159 : (op == 159) = false := by rw [beq_eq_false_iff_ne]; omega
  have b160 : (op == 160) = false := by rw [beq_eq_false_iff_ne]; omega
  have b161 : (op == 161) = false := by rw [beq_eq_false_iff_ne]; omega
  have b162 : (op == 162) = false := by rw [beq_eq_false_iff_ne]; omega
  have b163 : (op == 163) = false := by rw [beq_eq_false_iff_ne]; omega
  have b164 : (op == 164) = false := by rw [beq_eq_false_iff_ne]; omega
  have b165 : (op == 165) = false := by rw [beq_eq_false_iff_ne]; omega
  have b166 : (op == 166) = false := by rw [beq_eq_false_iff_ne]; omega
  have b172 : (op == 172) = false := by rw [beq_eq_false_iff_ne]; omega
  have b173 : (op == 173) = false := by rw [beq_eq_false_iff_ne]; omega
  have b176 : (op == 176) = false := by rw [beq_eq_false_iff_ne]; omega
  have b177 : (op == 177) = false := by rw [beq_eq_false_iff_ne]; omega
  clear hop
  go_enter Tryz.func54, Tryz.ntmps54
  go_wp2_with (go_at_call 67; refine (p11list_any _ _).mono ?_; rintro e w' ⟨rfl, rfl⟩)
  go_ret
  exact ⟨_, rfl, orw_lit W 103 _ _ rfl _ rfl (by simp), bA (Below.refl _ _) _⟩
set_option maxHeartbeats 400000 in
theorem dv178 (C : Wcx) (x : Wst) (W : World) (k : WK C x W) (hop : C.p.op = 178) : Calls Tryz.prog 55 #[.pointer (some ⟨C.X, 0, none⟩)] W fun e w' => Fn W [fv C.X 96, fv C.X 97] e w' := by
  have c5 := k.c56.1
  rw [hop] at c5
  clear k hop
  go_enter Tryz.func55, Tryz.ntmps55
  go_wp2_with (go_at_call 67; refine (p11list_any _ _).mono ?_; rintro e w' ⟨rfl, rfl⟩)
  go_ret
  exact ⟨_, rfl, orw_lit W 103 _ _ rfl _ rfl (by simp), bA (Below.refl _ _) _⟩
set_option maxHeartbeats 400000 in
theorem dv179 (C : Wcx) (x : Wst) (W : World) (k : WK C x W) (hop : C.p.op = 179) : Calls Tryz.prog 55 #[.pointer (some ⟨C.X, 0, none⟩)] W fun e w' => Fn W [fv C.X 96, fv C.X 98] e w' := by
  have c5 := k.c56.1
  rw [hop] at c5
  clear k hop
  go_enter Tryz.func55, Tryz.ntmps55
  go_wp2_with (go_at_call 67; refine (p11list_any _ _).mono ?_; rintro e w' ⟨rfl, rfl⟩)
  go_ret
  exact ⟨_, rfl, orw_lit W 103 _ _ rfl _ rfl (by simp), bA (Below.refl _ _) _⟩
set_option maxHeartbeats 400000 in
theorem dv180 (C : Wcx) (x : Wst) (W : World) (k : WK C x W) (hop : C.p.op = 180) : Calls Tryz.prog 55 #[.pointer (some ⟨C.X, 0, none⟩)] W fun e w' => Fn W [fv C.X 96, fv C.X 99, fv C.X 97] e w' := by
  have c5 := k.c56.1
  rw [hop] at c5
  clear k hop
  go_enter Tryz.func55, Tryz.ntmps55
  go_wp2_with (go_at_call 67; refine (p11list_any _ _).mono ?_; rintro e w' ⟨rfl, rfl⟩)
  go_ret
  exact ⟨_, rfl, orw_lit W 103 _ _ rfl _ rfl (by simp), bA (Below.refl _ _) _⟩
set_option maxHeartbeats 400000 in
theorem dv181 (C : Wcx) (x : Wst) (W : World) (k : WK C x W) (hop : C.p.op = 181) : Calls Tryz.prog 55 #[.pointer (some ⟨C.X, 0, none⟩)] W fun e w' => Fn W [fv C.X 96, fv C.X 98, fv C.X 99] e w' := by
  have c5 := k.c56.1
  rw [hop] at c5
  clear k hop
  go_enter Tryz.func55, Tryz.ntmps55
  go_wp2_with (go_at_call 67; refine (p11list_any _ _).mono ?_; rintro e w' ⟨rfl, rfl⟩)
  go_ret
  exact ⟨_, rfl, orw_lit W 103 _ _ rfl _ rfl (by simp), bA (Below.refl _ _) _⟩
set_option maxHeartbeats 400000 in
theorem dv182 (C : Wcx) (x : Wst) (W : World) (k : WK C x W) (hop : C.p.op = 182) : Calls Tryz.prog 55 #[.pointer (some ⟨C.X, 0, none⟩)] W fun e w' => Fn W [fv C.X 100, fv C.X 101, fv C.X 99, fv C.X 102] e w' := by
  have c5 := k.c56.1
  rw [hop] at c5
  clear k hop
  go_enter Tryz.func55, Tryz.ntmps55
  go_wp2_with (go_at_call 67; refine (p11list_any _ _).mono ?_; rintro e w' ⟨rfl, rfl⟩)
  go_ret
  exact ⟨_, rfl, orw_lit W 103 _ _ rfl _ rfl (by simp), bA (Below.refl _ _) _⟩
set_option maxHeartbeats 400000 in
theorem dv183 (C : Wcx) (x : Wst) (W : World) (k : WK C x W) (hop : C.p.op = 183) : Calls Tryz.prog 55 #[.pointer (some ⟨C.X, 0, none⟩)] W fun e w' => Fn W [fv C.X 100, fv C.X 101, fv C.X 99, fv C.X 102] e w' := by
  have c5 := k.c56.1
  rw [hop] at c5
  clear k hop
  go_enter Tryz.func55, Tryz.ntmps55
  go_wp2_with (go_at_call 67; refine (p11list_any _ _).mono ?_; rintro e w' ⟨rfl, rfl⟩)
  go_ret
  exact ⟨_, rfl, orw_lit W 103 _ _ rfl _ rfl (by simp), bA (Below.refl _ _) _⟩
set_option maxHeartbeats 400000 in
theorem dv184 (C : Wcx) (x : Wst) (W : World) (k : WK C x W) (hop : C.p.op = 184) : Calls Tryz.prog 55 #[.pointer (some ⟨C.X, 0, none⟩)] W fun e w' => Fn W [fv C.X 100, fv C.X 101, fv C.X 102] e w' := by
  have c5 := k.c56.1
  rw [hop] at c5
  clear k hop
  go_enter Tryz.func55, Tryz.ntmps55
  go_wp2_with (go_at_call 67; refine (p11list_any _ _).mono ?_; rintro e w' ⟨rfl, rfl⟩)
  go_ret
  exact ⟨_, rfl, orw_lit W 103 _ _ rfl _ rfl (by simp), bA (Below.refl _ _) _⟩
set_option maxHeartbeats 1000000 in
theorem dv_members_no (C : Wcx) (x : Wst) (W : World) (k : WK C x W) (hop : C.p.op ≠ 178 ∧ C.p.op ≠ 179 ∧ C.p.op ≠ 180 ∧ C.p.op ≠ 181 ∧ C.p.op ≠ 182 ∧ C.p.op ≠ 183 ∧ C.p.op ≠ 184) : Calls Tryz.prog 55 #[.pointer (some ⟨C.X, 0, none⟩)] W fun e w' => Fn W [fabs] e w' := by
  have c5 := k.c56.1
  clear k
  generalize C.p.op = op at *
  have b178 : (op == 178) = false := by rw [beq_eq_false_iff_ne]; omega
  have b179 : (op == 179) = false := by rw [beq_eq_false_iff_ne]; omega
  have b180 : (op == 180) = false := by rw [beq_eq_false_iff_ne]; omega
  have b181 : (op == 181) = false := by rw [beq_eq_false_iff_ne]; omega
  have b182 : (op == 182) = false := by rw [beq_eq_false_iff_ne]; omega
  have b183 : (op == 183) = false := by rw [beq_eq_false_iff_ne]; omega
  have b184 : (op == 184) = false := by rw [beq_eq_false_iff_ne]; omega
  clear hop
  go_enter Tryz.func55, Tryz.ntmps55
  go_wp2_with (go_at_call 67; refine (p11list_any _ _).mono ?_; rintro e w' ⟨rfl, rfl⟩)
  go_ret
  exact ⟨_, rfl, orw_lit W 103 _ _ rfl _ rfl (by simp), bA (Below.refl _ _) _⟩
set_option maxHeartbeats 400000 in
theorem dv187 (C : Wcx) (x : Wst) (W : World) (k : WK C x W) (hop : C.p.op = 187) : Calls Tryz.prog 56 #[.pointer (some ⟨C.X, 0, none⟩)] W fun e w' => Fn W [fv C.X 103, fv C.X 104, fv C.X 97] e w' := by
  have c5 := k.c56.1
  rw [hop] at c5
  clear k hop
  go_enter Tryz.func56, Tryz.ntmps56
  go_wp2_with (go_at_call 67; refine (p11list_any _ _).mono ?_; rintro e w' ⟨rfl, rfl⟩)
  go_ret
  exact ⟨_, rfl, orw_lit W 103 _ _ rfl _ rfl (by simp), bA (Below.refl _ _) _⟩
set_option maxHeartbeats 400000 in
theorem dv188 (C : Wcx) (x : Wst) (W : World) (k : WK C x W) (hop : C.p.op = 188) : Calls Tryz.prog 56 #[.pointer (some ⟨C.X, 0, none⟩)] W fun e w' => Fn W [fv C.X 78, fv C.X 105] e w' := by
  have c5 := k.c56.1
  rw [hop] at c5
  clear k hop
  go_enter Tryz.func56, Tryz.ntmps56
  go_wp2_with (go_at_call 67; refine (p11list_any _ _).mono ?_; rintro e w' ⟨rfl, rfl⟩)
  go_ret
  exact ⟨_, rfl, orw_lit W 103 _ _ rfl _ rfl (by simp), bA (Below.refl _ _) _⟩
set_option maxHeartbeats 400000 in
theorem dv189 (C : Wcx) (x : Wst) (W : World) (k : WK C x W) (hop : C.p.op = 189) : Calls Tryz.prog 56 #[.pointer (some ⟨C.X, 0, none⟩)] W fun e w' => Fn W [fv C.X 103, fv C.X 78, fv C.X 106] e w' := by
  have c5 := k.c56.1
  rw [hop] at c5
  clear k hop
  go_enter Tryz.func56, Tryz.ntmps56
  go_wp2_with (go_at_call 67; refine (p11list_any _ _).mono ?_; rintro e w' ⟨rfl, rfl⟩)
  go_ret
  exact ⟨_, rfl, orw_lit W 103 _ _ rfl _ rfl (by simp), bA (Below.refl _ _) _⟩
set_option maxHeartbeats 400000 in
theorem dv190 (C : Wcx) (x : Wst) (W : World) (k : WK C x W) (hop : C.p.op = 190) : Calls Tryz.prog 56 #[.pointer (some ⟨C.X, 0, none⟩)] W fun e w' => Fn W [fv C.X 107, fv C.X 69] e w' := by
  have c5 := k.c56.1
  rw [hop] at c5
  clear k hop
  go_enter Tryz.func56, Tryz.ntmps56
  go_wp2_with (go_at_call 67; refine (p11list_any _ _).mono ?_; rintro e w' ⟨rfl, rfl⟩)
  go_ret
  exact ⟨_, rfl, orw_lit W 103 _ _ rfl _ rfl (by simp), bA (Below.refl _ _) _⟩
set_option maxHeartbeats 400000 in
theorem dv191 (C : Wcx) (x : Wst) (W : World) (k : WK C x W) (hop : C.p.op = 191) : Calls Tryz.prog 56 #[.pointer (some ⟨C.X, 0, none⟩)] W fun e w' => Fn W [fv C.X 108] e w' := by
  have c5 := k.c56.1
  rw [hop] at c5
  clear k hop
  go_enter Tryz.func56, Tryz.ntmps56
  go_wp2_with (go_at_call 67; refine (p11list_any _ _).mono ?_; rintro e w' ⟨rfl, rfl⟩)
  go_ret
  exact ⟨_, rfl, orw_lit W 103 _ _ rfl _ rfl (by simp), bA (Below.refl _ _) _⟩
set_option maxHeartbeats 400000 in
theorem dv192 (C : Wcx) (x : Wst) (W : World) (k : WK C x W) (hop : C.p.op = 192) : Calls Tryz.prog 56 #[.pointer (some ⟨C.X, 0, none⟩)] W fun e w' => Fn W [fv C.X 103, fv C.X 81, fv C.X 97] e w' := by
  have c5 := k.c56.1
  rw [hop] at c5
  clear k hop
  go_enter Tryz.func56, Tryz.ntmps56
  go_wp2_with (go_at_call 67; refine (p11list_any _ _).mono ?_; rintro e w' ⟨rfl, rfl⟩)
  go_ret
  exact ⟨_, rfl, orw_lit W 103 _ _ rfl _ rfl (by simp), bA (Below.refl _ _) _⟩
set_option maxHeartbeats 400000 in
theorem dv193 (C : Wcx) (x : Wst) (W : World) (k : WK C x W) (hop : C.p.op = 193) : Calls Tryz.prog 56 #[.pointer (some ⟨C.X, 0, none⟩)] W fun e w' => Fn W [fv C.X 103, fv C.X 81, fv C.X 69] e w' := by
  have c5 := k.c56.1
  rw [hop] at c5
  clear k hop
  go_enter Tryz.func56, Tryz.ntmps56
  go_wp2_with (go_at_call 67; refine (p11list_any _ _).mono ?_; rintro e w' ⟨rfl, rfl⟩)
  go_ret
  exact ⟨_, rfl, orw_lit W 103 _ _ rfl _ rfl (by simp), bA (Below.refl _ _) _⟩
set_option maxHeartbeats 400000 in
theorem dv194 (C : Wcx) (x : Wst) (W : World) (k : WK C x W) (hop : C.p.op = 194) : Calls Tryz.prog 56 #[.pointer (some ⟨C.X, 0, none⟩)] W fun e w' => Fn W [fv C.X 81] e w' := by
  have c5 := k.c56.1
  rw [hop] at c5
  clear k hop
  go_enter Tryz.func56, Tryz.ntmps56
  go_wp2_with (go_at_call 67; refine (p11list_any _ _).mono ?_; rintro e w' ⟨rfl, rfl⟩)
  go_ret
  exact ⟨_, rfl, orw_lit W 103 _ _ rfl _ rfl (by simp), bA (Below.refl _ _) _⟩
set_option maxHeartbeats 400000 in
theorem dv195 (C : Wcx) (x : Wst) (W : World) (k : WK C x W) (hop : C.p.op = 195) : Calls Tryz.prog 56 #[.pointer (some ⟨C.X, 0, none⟩)] W fun e w' => Fn W [fv C.X 81] e w' := by
  have c5 := k.c56.1
  rw [hop] at c5
  clear k hop
  go_enter Tryz.func56, Tryz.ntmps56
  go_wp2_with (go_at_call 67; refine (p11list_any _ _).mono ?_; rintro e w' ⟨rfl, rfl⟩)
  go_ret
  exact ⟨_, rfl, orw_lit W 103 _ _ rfl _ rfl (by simp), bA (Below.refl _ _) _⟩
set_option maxHeartbeats 400000 in
theorem dv198 (C : Wcx) (x : Wst) (W : World) (k : WK C x W) (hop : C.p.op = 198) : Calls Tryz.prog 56 #[.pointer (some ⟨C.X, 0, none⟩)] W fun e w' => Fn W [fv C.X 81] e w' := by
  have c5 := k.c56.1
  rw [hop] at c5
  clear k hop
  go_enter Tryz.func56, Tryz.ntmps56
  go_wp2_with (go_at_call 67; refine (p11list_any _ _).mono ?_; rintro e w' ⟨rfl, rfl⟩)
  go_ret
  exact ⟨_, rfl, orw_lit W 103 _ _ rfl _ rfl (by simp), bA (Below.refl _ _) _⟩
set_option maxHeartbeats 400000 in
theorem dv199 (C : Wcx) (x : Wst) (W : World) (k : WK C x W) (hop : C.p.op = 199) : Calls Tryz.prog 56 #[.pointer (some ⟨C.X, 0, none⟩)] W fun e w' => Fn W [fv C.X 81] e w' := by
  have c5 := k.c56.1
  rw [hop] at c5
  clear k hop
  go_enter Tryz.func56, Tryz.ntmps56
  go_wp2_with (go_at_call 67; refine (p11list_any _ _).mono ?_; rintro e w' ⟨rfl, rfl⟩)
  go_ret
  exact ⟨_, rfl, orw_lit W 103 _ _ rfl _ rfl (by simp), bA (Below.refl _ _) _⟩
set_option maxHeartbeats 1000000 in
theorem dv_objects_no (C : Wcx) (x : Wst) (W : World) (k : WK C x W) (hop : C.p.op ≠ 187 ∧ C.p.op ≠ 188 ∧ C.p.op ≠ 189 ∧ C.p.op ≠ 190 ∧ C.p.op ≠ 191 ∧ C.p.op ≠ 192 ∧ C.p.op ≠ 193 ∧ C.p.op ≠ 194 ∧ C.p.op ≠ 195 ∧ C.p.op ≠ 198 ∧ C.p.op ≠ 199) : Calls Tryz.prog 56 #[.pointer (some ⟨C.X, 0, none⟩)] W fun e w' => Fn W [fabs] e w' := by
  have c5 := k.c56.1
  clear k
  generalize C.p.op = op at *
  have b187 : (op == 187) = false := by rw [beq_eq_false_iff_ne]; omega
  have b188 : (op == 188) = false := by rw [beq_eq_false_iff_ne]; omega
  have b189 : (op == 189) = false := by rw [beq_eq_false_iff_ne]; omega
  have b190 : (op == 190) = false := by rw [beq_eq_false_iff_ne]; omega
  have b191 : (op == 191) = false := by rw [beq_eq_false_iff_ne]; omega
  have b192 : (op == 192) = false := by rw [beq_eq_false_iff_ne]; omega
  have b193 : (op == 193) = false := by rw [beq_eq_false_iff_ne]; omega
  have b194 : (op == 194) = false := by rw [beq_eq_false_iff_ne]; omega
  have b195 : (op == 195) = false := by rw [beq_eq_false_iff_ne]; omega
  have b198 : (op == 198) = false := by rw [beq_eq_false_iff_ne]; omega
  have b199 : (op == 199) = false := by rw [beq_eq_false_iff_ne]; omega
  clear hop
  go_enter Tryz.func56, Tryz.ntmps56
  go_wp2_with (go_at_call 67; refine (p11list_any _ _).mono ?_; rintro e w' ⟨rfl, rfl⟩)
  go_ret
  exact ⟨_, rfl, orw_lit W 103 _ _ rfl _ rfl (by simp), bA (Below.refl _ _) _⟩
end Go.Proofs.YthenefjoidckkaaGreatDoor
