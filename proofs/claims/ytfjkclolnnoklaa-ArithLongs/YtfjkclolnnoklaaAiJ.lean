/- Layer 14: the walks of the laws (written by mk/mkaij.py). -/
import Derived.Test.YtfjkclolnnoklaaAiI
namespace Go.Proofs.Ytfjkclolnnoklaa
open Go.RowKit
set_option linter.unusedVariables false
set_option maxRecDepth 100000

set_option maxHeartbeats 800000 in
theorem arithInts_walk (w : World) (op a b : Int) : Calls Try.prog 3 #[.int .i64 op, .int .i64 a, .int .i64 b] w fun e w' => e = .returned (.bool true) ∧ Below w.heap.size w w' := by
  have H1 := hide (i14Int_any w op a b)
  have H2 := hide (r14Int_any w op a b)
  have H3 := hide (i14Round_any w a)
  have H4 := hide (r14Round_any w a)
  have HW : Hid (∀ W, Calls Try.prog 13 #[] W fun e w' => e = .returned (.bool true) ∧ Below W.heap.size W w') := fun W => works14_any W
  generalize (intR op a b).1 = X at *
  generalize (intR op a b).2 = Y at *
  generalize rnd a = Z at *
  go_enter Try.func3, Try.ntmps3
  go_wp2_with fail
  refine (unhide H1).mono ?_
  rintro e w1 ⟨rfl, rfl⟩
  go_wp2_with fail
  refine (unhide H2).mono ?_
  rintro e w2 ⟨rfl, rfl⟩
  go_wp2_with fail
  refine (unhide H3).mono ?_
  rintro e w3 ⟨rfl, rfl⟩
  go_wp2_with fail
  refine (unhide H4).mono ?_
  rintro e w4 ⟨rfl, rfl⟩
  go_wp2_with fail
  refine (unhide HW _).mono ?_
  rintro e w9 ⟨rfl, f9⟩
  have F9 := hide f9
  clear f9 HW
  go_wp2
  go_ret
  exact ⟨rfl, unhide F9⟩
set_option maxHeartbeats 800000 in
theorem arithLongs_walk (w : World) (op a b : Int) (ha : lonA a) (hb : lonA b) : Calls Try.prog 4 #[.int .i64 op, .int .i64 a, .int .i64 b] w fun e w' => e = .returned (.bool true) ∧ Below w.heap.size w w' := by
  have H1 := hide (i14Long_any w op a b ha hb)
  have H2 := hide (r14Long_any w op a b ha hb)
  have HW : Hid (∀ W, Calls Try.prog 13 #[] W fun e w' => e = .returned (.bool true) ∧ Below W.heap.size W w') := fun W => works14_any W
  generalize (lonR op a b).1 = X at *
  generalize (lonR op a b).2 = Y at *
  go_enter Try.func4, Try.ntmps4
  go_wp2_with fail
  refine (unhide H1).mono ?_
  rintro e w1 ⟨rfl, rfl⟩
  go_wp2_with fail
  refine (unhide H2).mono ?_
  rintro e w2 ⟨rfl, rfl⟩
  go_wp2_with fail
  refine (unhide HW _).mono ?_
  rintro e w9 ⟨rfl, f9⟩
  have F9 := hide f9
  clear f9 HW
  go_wp2
  go_ret
  exact ⟨rfl, unhide F9⟩
set_option maxHeartbeats 800000 in
theorem arithOnes_walk (w : World) (op a b : Int) (ha : lonA a) : Calls Try.prog 5 #[.int .i64 op, .int .i64 a, .int .i64 b] w fun e w' => e = .returned (.bool true) ∧ Below w.heap.size w w' := by
  have H1 := hide (i14One_any w op a ha)
  have H2 := hide (r14One_any w op a ha)
  have H3 := hide (i14If_any w op a b)
  have H4 := hide (r14If_any w op a b)
  have HW : Hid (∀ W, Calls Try.prog 13 #[] W fun e w' => e = .returned (.bool true) ∧ Below W.heap.size W w') := fun W => works14_any W
  generalize (oneR op a).1 = X at *
  generalize (oneR op a).2 = Y at *
  generalize (ifR op a b).1 = U at *
  generalize (ifR op a b).2 = V at *
  have hu : ∀ W, (binOp .eql 4 (.bool U) (.bool U)).run Try.prog W = .ok (.bool true) W := fun W => by cases U <;> rfl
  go_enter Try.func5, Try.ntmps5
  go_wp2_with fail
  refine (unhide H1).mono ?_
  rintro e w1 ⟨rfl, rfl⟩
  go_wp2_with fail
  refine (unhide H2).mono ?_
  rintro e w2 ⟨rfl, rfl⟩
  go_wp2_with fail
  refine (unhide H3).mono ?_
  rintro e w3 ⟨rfl, rfl⟩
  go_wp2_with fail
  refine (unhide H4).mono ?_
  rintro e w4 ⟨rfl, rfl⟩
  go_wp2_with fail
  refine (unhide HW _).mono ?_
  rintro e w9 ⟨rfl, f9⟩
  have F9 := hide f9
  clear f9 HW
  go_wp2
  go_ret
  exact ⟨rfl, unhide F9⟩
theorem l14small_any (w : World) (a : Int) : Calls Try.prog 20 #[.int .i64 a] w fun e w' => e = .returned (.bool (decide (intA a))) ∧ w' = w := by
  by_cases h1 : -2147483648 ≤ a
  · by_cases h2 : a ≤ 2147483647
    · rw [decide_eq_true (show intA a from ⟨h1, h2⟩)]
      go_enter Try.func20, Try.ntmps20
      go_wp2
      go_ret
      exact ⟨by first | rfl | exact ret_boolA (by simp [h1, h2]), rfl⟩
    · rw [decide_eq_false (show ¬ intA a from fun h => h2 h.2)]
      go_enter Try.func20, Try.ntmps20
      go_wp2
      go_ret
      exact ⟨by first | rfl | exact ret_boolA (by simp [h1, h2]), rfl⟩
  · rw [decide_eq_false (show ¬ intA a from fun h => h1 h.1)]
    go_enter Try.func20, Try.ntmps20
    go_wp2
    go_ret
    exact ⟨by first | rfl | exact ret_boolA (by simp [h1]), rfl⟩
theorem u64_shift (a : Int) : IntKind.u64.wrap (IntKind.u64.wrap a * 4294967296) = IntKind.u64.wrap (IntKind.u64.wrap (rnd a) * 4294967296) := by
  rw [IntKind.wrap_u64, IntKind.wrap_u64, IntKind.wrap_u64, IntKind.wrap_u64, rnd_eq]; omega
set_option maxHeartbeats 1600000 in
theorem arithStays_walk (w : World) (op a b : Int) (ha : lonA a) : Calls Try.prog 6 #[.int .i64 op, .int .i64 a, .int .i64 b] w fun e w' => e = .returned (.bool true) ∧ Below w.heap.size w w' := by
  have H1 : Hid (∀ W, Calls Try.prog 9 #[.int .i64 op, .int .i64 a, .int .i64 b] W fun e w' => e = .returned (.tuple #[.int .i64 (intR op a b).1, .int .i64 (intR op a b).2]) ∧ w' = W) := fun W => i14Int_any W op a b
  have H2 : Hid (∀ W, Calls Try.prog 16 #[.int .i64 op, .int .i64 a] W fun e w' => e = .returned (.tuple #[.int .i64 (oneR op a).1, .int .i64 (oneR op a).2]) ∧ w' = W) := fun W => i14One_any W op a ha
  have H3 : Hid (∀ W, Calls Try.prog 11 #[.int .i64 a] W fun e w' => e = .returned (.int .i64 (rnd a)) ∧ w' = W) := fun W => i14Round_any W a
  have q1 : (intR op a b).2 = 0 → intA (intR op a b).1 := intR_int
  have q2 : (oneR op a).2 = 0 → op ≠ 117 → intA (oneR op a).1 := oneR_int
  have q3 := rnd_in a
  have q4 := u64_shift a
  have HW : Hid (∀ W, Calls Try.prog 13 #[] W fun e w' => e = .returned (.bool true) ∧ Below W.heap.size W w') := fun W => works14_any W
  generalize (intR op a b).1 = X at *
  generalize (intR op a b).2 = Y at *
  generalize (oneR op a).1 = U at *
  generalize (oneR op a).2 = V at *
  have HS : Hid (∀ W x, intA x → Calls Try.prog 20 #[.int .i64 x] W fun e w' => e = .returned (.bool true) ∧ w' = W) := fun W x hx => by have := l14small_any W x; rw [decide_eq_true hx] at this; exact this
  have Q3 := hide q3
  have HQ : Hid ((IntKind.u64.wrap (IntKind.u64.wrap a * 4294967296) == IntKind.u64.wrap (IntKind.u64.wrap (rnd a) * 4294967296)) = true) := by show _ = _; rw [q4]; simp
  generalize rnd a = R at *
  generalize hR64 : IntKind.u64.wrap R = R64 at *
  have c1 : (Y = 0 ∧ Hid (intA X)) ∨ (Y == 0) = false := by
    by_cases h : Y = 0
    · exact .inl ⟨h, q1 h⟩
    · exact .inr (beq_ne h)
  have c2 : (V = 0 ∧ (op == 117) = false ∧ Hid (intA U)) ∨ (V = 0 ∧ op = 117) ∨ (V == 0) = false := by
    by_cases h : V = 0
    · by_cases h2 : op = 117
      · exact .inr (.inl ⟨h, h2⟩)
      · exact .inl ⟨h, beq_ne h2, q2 h h2⟩
    · exact .inr (.inr (beq_ne h))
  clear q1 q2 q3 q4
  rcases c1 with c1 | c1
  · rcases c2 with c2 | c2 | c2
    · obtain ⟨rfl, hx⟩ := c1
      obtain ⟨rfl, o1, hu⟩ := c2
      go_enter Try.func6, Try.ntmps6
      go_wp2_with fail
      refine (unhide HW _).mono ?_
      rintro e w0 ⟨rfl, f0⟩
      have F0 := hide f0
      clear f0 HW
      go_wp2_with fail
      refine (unhide H1 _).mono ?_
      rintro e w1 ⟨rfl, rfl⟩
      go_wp2_with fail
      refine (unhide H2 _).mono ?_
      rintro e w2 ⟨rfl, rfl⟩
      go_wp2_with fail
      refine (unhide H3 _).mono ?_
      rintro e w3 ⟨rfl, rfl⟩
      go_wp2_with fail
      refine (unhide HS _ _ (unhide hx)).mono ?_
      rintro e w4 ⟨rfl, rfl⟩
      go_wp2_with fail
      refine (unhide HS _ _ (unhide hu)).mono ?_
      rintro e w5 ⟨rfl, rfl⟩
      go_wp2_with fail
      refine (unhide HS _ _ (unhide Q3)).mono ?_
      rintro e w6 ⟨rfl, rfl⟩
      go_wp2
      go_ret
      exact ⟨by first | rfl | exact ret_boolA (unhide HQ), by first | exact unhide F0 | exact (unhide F0).drew⟩
    · obtain ⟨rfl, hx⟩ := c1
      obtain ⟨rfl, rfl⟩ := c2
      go_enter Try.func6, Try.ntmps6
      go_wp2_with fail
      refine (unhide HW _).mono ?_
      rintro e w0 ⟨rfl, f0⟩
      have F0 := hide f0
      clear f0 HW
      go_wp2_with fail
      refine (unhide H1 _).mono ?_
      rintro e w1 ⟨rfl, rfl⟩
      go_wp2_with fail
      refine (unhide H2 _).mono ?_
      rintro e w2 ⟨rfl, rfl⟩
      go_wp2_with fail
      refine (unhide H3 _).mono ?_
      rintro e w3 ⟨rfl, rfl⟩
      go_wp2_with fail
      refine (unhide HS _ _ (unhide hx)).mono ?_
      rintro e w4 ⟨rfl, rfl⟩
      go_wp2_with fail
      refine (unhide HS _ _ (unhide Q3)).mono ?_
      rintro e w6 ⟨rfl, rfl⟩
      go_wp2
      go_ret
      exact ⟨by first | rfl | exact ret_boolA (unhide HQ), by first | exact unhide F0 | exact (unhide F0).drew⟩
    · obtain ⟨rfl, hx⟩ := c1
      have v0 : (V != 0) = true := by rw [bne, c2]; rfl
      go_enter Try.func6, Try.ntmps6
      go_wp2_with fail
      refine (unhide HW _).mono ?_
      rintro e w0 ⟨rfl, f0⟩
      have F0 := hide f0
      clear f0 HW
      go_wp2_with fail
      refine (unhide H1 _).mono ?_
      rintro e w1 ⟨rfl, rfl⟩
      go_wp2_with fail
      refine (unhide H2 _).mono ?_
      rintro e w2 ⟨rfl, rfl⟩
      go_wp2_with fail
      refine (unhide H3 _).mono ?_
      rintro e w3 ⟨rfl, rfl⟩
      go_wp2_with fail
      refine (unhide HS _ _ (unhide hx)).mono ?_
      rintro e w4 ⟨rfl, rfl⟩
      go_wp2_with fail
      refine (unhide HS _ _ (unhide Q3)).mono ?_
      rintro e w6 ⟨rfl, rfl⟩
      go_wp2
      go_ret
      exact ⟨by first | rfl | exact ret_boolA (unhide HQ), by first | exact unhide F0 | exact (unhide F0).drew⟩
  · rcases c2 with c2 | c2 | c2
    · have y0 : (Y != 0) = true := by rw [bne, c1]; rfl
      obtain ⟨rfl, o1, hu⟩ := c2
      go_enter Try.func6, Try.ntmps6
      go_wp2_with fail
      refine (unhide HW _).mono ?_
      rintro e w0 ⟨rfl, f0⟩
      have F0 := hide f0
      clear f0 HW
      go_wp2_with fail
      refine (unhide H1 _).mono ?_
      rintro e w1 ⟨rfl, rfl⟩
      go_wp2_with fail
      refine (unhide H2 _).mono ?_
      rintro e w2 ⟨rfl, rfl⟩
      go_wp2_with fail
      refine (unhide H3 _).mono ?_
      rintro e w3 ⟨rfl, rfl⟩
      go_wp2_with fail
      refine (unhide HS _ _ (unhide hu)).mono ?_
      rintro e w5 ⟨rfl, rfl⟩
      go_wp2_with fail
      refine (unhide HS _ _ (unhide Q3)).mono ?_
      rintro e w6 ⟨rfl, rfl⟩
      go_wp2
      go_ret
      exact ⟨by first | rfl | exact ret_boolA (unhide HQ), by first | exact unhide F0 | exact (unhide F0).drew⟩
    · have y0 : (Y != 0) = true := by rw [bne, c1]; rfl
      obtain ⟨rfl, rfl⟩ := c2
      go_enter Try.func6, Try.ntmps6
      go_wp2_with fail
      refine (unhide HW _).mono ?_
      rintro e w0 ⟨rfl, f0⟩
      have F0 := hide f0
      clear f0 HW
      go_wp2_with fail
      refine (unhide H1 _).mono ?_
      rintro e w1 ⟨rfl, rfl⟩
      go_wp2_with fail
      refine (unhide H2 _).mono ?_
      rintro e w2 ⟨rfl, rfl⟩
      go_wp2_with fail
      refine (unhide H3 _).mono ?_
      rintro e w3 ⟨rfl, rfl⟩
      go_wp2_with fail
      refine (unhide HS _ _ (unhide Q3)).mono ?_
      rintro e w6 ⟨rfl, rfl⟩
      go_wp2
      go_ret
      exact ⟨by first | rfl | exact ret_boolA (unhide HQ), by first | exact unhide F0 | exact (unhide F0).drew⟩
    · have y0 : (Y != 0) = true := by rw [bne, c1]; rfl
      have v0 : (V != 0) = true := by rw [bne, c2]; rfl
      go_enter Try.func6, Try.ntmps6
      go_wp2_with fail
      refine (unhide HW _).mono ?_
      rintro e w0 ⟨rfl, f0⟩
      have F0 := hide f0
      clear f0 HW
      go_wp2_with fail
      refine (unhide H1 _).mono ?_
      rintro e w1 ⟨rfl, rfl⟩
      go_wp2_with fail
      refine (unhide H2 _).mono ?_
      rintro e w2 ⟨rfl, rfl⟩
      go_wp2_with fail
      refine (unhide H3 _).mono ?_
      rintro e w3 ⟨rfl, rfl⟩
      go_wp2_with fail
      refine (unhide HS _ _ (unhide Q3)).mono ?_
      rintro e w6 ⟨rfl, rfl⟩
      go_wp2
      go_ret
      exact ⟨by first | rfl | exact ret_boolA (unhide HQ), by first | exact unhide F0 | exact (unhide F0).drew⟩
end Go.Proofs.Ytfjkclolnnoklaa
