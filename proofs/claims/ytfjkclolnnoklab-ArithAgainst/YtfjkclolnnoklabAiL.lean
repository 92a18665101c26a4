/- Layer 14: the walk of ArithAgainst. -/
import Derived.Test.YtfjkclolnnoklabAiI
namespace Go.Proofs.Ytfjkclolnnoklab
open Go.RowKit
set_option linter.unusedVariables false
set_option maxRecDepth 100000

theorem ifR_is {op a b : Int} (ha : intA a) (hb : intA b) : ifR op a b = ifV (cond32 op a (if op < 159 then 0 else b)) := by unfold ifR; rw [if_pos ⟨ha, hb⟩]
theorem neighbours (d : Nat) (hd : d < 6) (a b : Int) (ha : intA a) (hb : intA b) : ∃ X : Bool, ifR (153 + 2 * d) a b = (X, 0) ∧ ifR (153 + 2 * d + 1) a b = (!X, 0) := by
  rw [ifR_is ha hb, ifR_is ha hb]
  have h0 : ∀ p q : Int, decide (q ≤ p) = !decide (p < q) := fun p q => by by_cases h : p < q <;> simp [h] <;> omega
  have h1 : ∀ p q : Int, decide (p ≠ q) = !decide (p = q) := fun p q => by by_cases h : p = q <;> simp [h]
  match d, hd with
  | 0, _ => exact ⟨decide (a = 0), rfl, by show (decide (a ≠ 0), (0 : Int)) = _; rw [h1]⟩
  | 1, _ => exact ⟨decide (a < 0), rfl, by show (decide (0 ≤ a), (0 : Int)) = _; rw [h0]⟩
  | 2, _ => exact ⟨decide (0 < a), rfl, by show (decide (a ≤ 0), (0 : Int)) = _; rw [h0]⟩
  | 3, _ => exact ⟨decide (a = b), rfl, by show (decide (a ≠ b), (0 : Int)) = _; rw [h1]⟩
  | 4, _ => exact ⟨decide (a < b), rfl, by show (decide (b ≤ a), (0 : Int)) = _; rw [h0]⟩
  | 5, _ => exact ⟨decide (b < a), rfl, by show (decide (a ≤ b), (0 : Int)) = _; rw [h0]⟩
set_option maxHeartbeats 1600000 in
theorem arithAgainst_walk (w : World) (op a b : Int) : Calls Try.prog 3 #[.int .i64 op, .int .i64 a, .int .i64 b] w fun e w' => e = .returned (.bool true) ∧ Below w.heap.size w w' := by
  have HW := hide (works14_any w)
  obtain ⟨m, hm⟩ : ∃ m, m = rnd a := ⟨_, rfl⟩
  obtain ⟨n, hn⟩ : ∃ n, n = rnd b := ⟨_, rfl⟩
  have im : intA m := by rw [hm]; exact rnd_in a
  have iN : intA n := by rw [hn]; exact rnd_in b
  have HM : Hid (∀ W, Calls Try.prog 5 #[.int .i64 a] W fun e w' => e = .returned (.int .i64 m) ∧ w' = W) := fun W => by rw [hm]; exact i14Round_any W a
  have HN : Hid (∀ W, Calls Try.prog 5 #[.int .i64 b] W fun e w' => e = .returned (.int .i64 n) ∧ w' = W) := fun W => by rw [hn]; exact i14Round_any W b
  have HA : Hid (∀ W, Calls Try.prog 6 #[.int .i64 op, .int .i64 6] W fun e w' => e = .returned (.int .i64 (among op 6)) ∧ w' = W) := fun W => Among_any W op 6 (by omega) (by omega)
  have hd := among_lt op 6 (by omega)
  generalize among op 6 = d at *
  obtain ⟨X, hx1, hx2⟩ := neighbours d hd m n im iN
  have H1 : Hid (∀ W, Calls Try.prog 7 #[.int .i64 (153 + 2 * (d : Int)), .int .i64 m, .int .i64 n] W fun e w' => e = .returned (.tuple #[.bool X, .int .i64 0]) ∧ w' = W) := fun W => by
    have h := i14If_any W (153 + 2 * (d : Int)) m n
    rw [hx1] at h
    exact h
  have H2 : Hid (∀ W, Calls Try.prog 7 #[.int .i64 (153 + 2 * (d : Int) + 1), .int .i64 m, .int .i64 n] W fun e w' => e = .returned (.tuple #[.bool (!X), .int .i64 0]) ∧ w' = W) := fun W => by
    have h := i14If_any W (153 + 2 * (d : Int) + 1) m n
    rw [hx2] at h
    exact h
  have H3 : Hid (∀ W, Calls Try.prog 8 #[.int .i64 148, .int .i64 m, .int .i64 n] W fun e w' => e = .returned (.tuple #[.int .i64 (cmpL m n), .int .i64 0]) ∧ w' = W) := fun W => i14Long_any W 148 m n (int_lon im) (int_lon iN)
  have H4 : Hid (∀ W, Calls Try.prog 7 #[.int .i64 161, .int .i64 m, .int .i64 n] W fun e w' => e = .returned (.tuple #[.bool (decide (m < n)), .int .i64 0]) ∧ w' = W) := fun W => by
    have h := i14If_any W 161 m n
    rw [ifR_is im iN] at h
    exact h
  have hc : cmpL m n < 0 ↔ m < n := by
    unfold cmpL
    by_cases h : m < n
    · rw [if_pos h]; omega
    · rw [if_neg h]
      by_cases h2 : n < m
      · rw [if_pos h2]; omega
      · rw [if_neg h2]; omega
  have hz : (decide (m < n) = true ∧ cmpL m n < 0) ∨ (decide (m < n) = false ∧ ¬ cmpL m n < 0) := by
    by_cases h : m < n
    · exact .inl ⟨decide_eq_true h, hc.2 h⟩
    · exact .inr ⟨decide_eq_false h, fun e => h (hc.1 e)⟩
  clear hm hn im iN hx1 hx2 hc
  generalize cmpL m n = c at *
  generalize decide (m < n) = Z at *
  have hd2 : (d : Int) < 6 := by omega
  have j0 : ∀ W, (binOp .neq 4 (.bool X) (.bool (!X))).run Try.prog W = .ok (.bool true) W := fun W => by cases X <;> rfl
  have HZ : Hid (Z = decide (c < 0)) := by
    show _ = _
    rcases hz with ⟨h1, h2⟩ | ⟨h1, h2⟩
    · rw [h1, decide_eq_true h2]
    · rw [h1, decide_eq_false h2]
  rcases hz with ⟨rfl, hz⟩ | ⟨rfl, hz⟩
  · cases X
    · go_enter Try.func3, Try.ntmps3
      go_wp2_with fail
      refine (unhide HW).mono ?_
      rintro e w1 ⟨rfl, f1⟩
      have F1 := hide f1
      clear f1 HW
      go_wp2_with fail
      refine (unhide HM _).mono ?_
      rintro e w2 ⟨rfl, rfl⟩
      go_wp2_with fail
      refine (unhide HN _).mono ?_
      rintro e w2 ⟨rfl, rfl⟩
      go_wp2_with fail
      refine (unhide HA _).mono ?_
      rintro e w2 ⟨rfl, rfl⟩
      go_wp2_with fail
      refine (unhide H1 _).mono ?_
      rintro e w2 ⟨rfl, rfl⟩
      go_wp2_with fail
      refine (unhide H2 _).mono ?_
      rintro e w2 ⟨rfl, rfl⟩
      go_wp2_with fail
      refine (unhide H3 _).mono ?_
      rintro e w2 ⟨rfl, rfl⟩
      go_wp2_with fail
      refine (unhide H4 _).mono ?_
      rintro e w2 ⟨rfl, rfl⟩
      go_wp2
      go_ret
      exact ⟨by first | rfl | exact ret_boolA (by rw [← unhide HZ]; rfl), by first | exact unhide F1 | exact (unhide F1).drew⟩
    · go_enter Try.func3, Try.ntmps3
      go_wp2_with fail
      refine (unhide HW).mono ?_
      rintro e w1 ⟨rfl, f1⟩
      have F1 := hide f1
      clear f1 HW
      go_wp2_with fail
      refine (unhide HM _).mono ?_
      rintro e w2 ⟨rfl, rfl⟩
      go_wp2_with fail
      refine (unhide HN _).mono ?_
      rintro e w2 ⟨rfl, rfl⟩
      go_wp2_with fail
      refine (unhide HA _).mono ?_
      rintro e w2 ⟨rfl, rfl⟩
      go_wp2_with fail
      refine (unhide H1 _).mono ?_
      rintro e w2 ⟨rfl, rfl⟩
      go_wp2_with fail
      refine (unhide H2 _).mono ?_
      rintro e w2 ⟨rfl, rfl⟩
      go_wp2_with fail
      refine (unhide H3 _).mono ?_
      rintro e w2 ⟨rfl, rfl⟩
      go_wp2_with fail
      refine (unhide H4 _).mono ?_
      rintro e w2 ⟨rfl, rfl⟩
      go_wp2
      go_ret
      exact ⟨by first | rfl | exact ret_boolA (by rw [← unhide HZ]; rfl), by first | exact unhide F1 | exact (unhide F1).drew⟩
  · cases X
    · go_enter Try.func3, Try.ntmps3
      go_wp2_with fail
      refine (unhide HW).mono ?_
      rintro e w1 ⟨rfl, f1⟩
      have F1 := hide f1
      clear f1 HW
      go_wp2_with fail
      refine (unhide HM _).mono ?_
      rintro e w2 ⟨rfl, rfl⟩
      go_wp2_with fail
      refine (unhide HN _).mono ?_
      rintro e w2 ⟨rfl, rfl⟩
      go_wp2_with fail
      refine (unhide HA _).mono ?_
      rintro e w2 ⟨rfl, rfl⟩
      go_wp2_with fail
      refine (unhide H1 _).mono ?_
      rintro e w2 ⟨rfl, rfl⟩
      go_wp2_with fail
      refine (unhide H2 _).mono ?_
      rintro e w2 ⟨rfl, rfl⟩
      go_wp2_with fail
      refine (unhide H3 _).mono ?_
      rintro e w2 ⟨rfl, rfl⟩
      go_wp2_with fail
      refine (unhide H4 _).mono ?_
      rintro e w2 ⟨rfl, rfl⟩
      go_wp2
      go_ret
      exact ⟨by first | rfl | exact ret_boolA (by rw [← unhide HZ]; rfl), by first | exact unhide F1 | exact (unhide F1).drew⟩
    · go_enter Try.func3, Try.ntmps3
      go_wp2_with fail
      refine (unhide HW).mono ?_
      rintro e w1 ⟨rfl, f1⟩
      have F1 := hide f1
      clear f1 HW
      go_wp2_with fail
      refine (unhide HM _).mono ?_
      rintro e w2 ⟨rfl, rfl⟩
      go_wp2_with fail
      refine (unhide HN _).mono ?_
      rintro e w2 ⟨rfl, rfl⟩
      go_wp2_with fail
      refine (unhide HA _).mono ?_
      rintro e w2 ⟨rfl, rfl⟩
      go_wp2_with fail
      refine (unhide H1 _).mono ?_
      rintro e w2 ⟨rfl, rfl⟩
      go_wp2_with fail
      refine (unhide H2 _).mono ?_
      rintro e w2 ⟨rfl, rfl⟩
      go_wp2_with fail
      refine (unhide H3 _).mono ?_
      rintro e w2 ⟨rfl, rfl⟩
      go_wp2_with fail
      refine (unhide H4 _).mono ?_
      rintro e w2 ⟨rfl, rfl⟩
      go_wp2
      go_ret
      exact ⟨by first | rfl | exact ret_boolA (by rw [← unhide HZ]; rfl), by first | exact unhide F1 | exact (unhide F1).drew⟩
end Go.Proofs.Ytfjkclolnnoklab
