/- The document's kind: One of an array's descriptor; One; Parse. -/
import Derived.Test.YtjhiflhmefhogaaJKdG

namespace Go.Proofs.Ytjhiflhmefhogaa
open Go.RowKit
set_option linter.unusedVariables false
set_option maxRecDepth 100000

theorem oneP_A (t : List UInt8) (a : Nat) (ha : a ≤ 8) : oneP (91 :: t) a = if t[0]? = some 66 ∧ a < 8 then (⟨4, [91, 66]⟩, 2) else if 0 < (oneP t (a + 1)).2 then (⟨4, (91 :: t).take ((oneP t (a + 1)).2 + 1)⟩, (oneP t (a + 1)).2 + 1) else (ty0, 0) := by
  conv => lhs; unfold oneP
  rw [if_neg (show ¬ 8 < a by omega), if_neg (by decide), if_neg (by decide), if_neg (by decide), if_pos rfl]
  rfl
set_option maxHeartbeats 1600000 in
theorem one_B (t : List UInt8) (w : World) (S : ByteArray) (a : Nat) (hS : Str S (91 :: t)) (hs : (91 :: t).length ≤ 140737488355328) (ha : a < 8) (hB : t[0]? = some 66) : Calls Try.prog 33 #[.string S, .int .i64 a] w fun e w' => e = .returned (.tuple #[tyV (oneP (91 :: t) a).1, .int .i64 (oneP (91 :: t) a).2]) ∧ Below w.heap.size w w' := by
  rw [oneP_A t a (by omega), if_pos ⟨hB, ha⟩]
  show Calls _ _ _ _ fun e w' => e = .returned (.tuple #[.agg #[.int .i64 4, .string ⟨#[91, 66]⟩], .int .i64 (2 : Nat)]) ∧ Below w.heap.size w w'
  obtain ⟨n1, n2, n3, n4⟩ := hS.txt
  obtain ⟨hk, q0⟩ := hS.at 0 91 rfl
  obtain ⟨hk1, q1⟩ := hS.at 1 66 (by simpa using hB)
  have hz := hS.size
  have h8 : ¬ (8 : Int) < a := by omega
  have h8' : (a : Int) ≤ 8 := by omega
  have h9 : (a : Int) < 8 := by omega
  have hl : (1 : Int) < (91 :: t).length := by rw [← hz]; omega
  clear hS hB
  generalize (91 :: t).length = n at *
  go_enter Try.func33, Try.ntmps33
  go_wp2
  exact bodyPost_ret (ty_ret2 Try.results33 _ w.heap.size _ _ (heap_alloc_last _ _) _ rfl) rfl ⟨rfl, bA (Below.refl _ _) _⟩
set_option maxHeartbeats 3200000 in
theorem one_A (t : List UInt8) (ih : OneOk t) (w : World) (S : ByteArray) (a : Nat) (hS : Str S (91 :: t)) (hs : (91 :: t).length ≤ 140737488355328) (ha : a ≤ 8) (hB : ¬ (t[0]? = some 66 ∧ a < 8)) : Calls Try.prog 33 #[.string S, .int .i64 a] w fun e w' => e = .returned (.tuple #[tyV (oneP (91 :: t) a).1, .int .i64 (oneP (91 :: t) a).2]) ∧ Below w.heap.size w w' := by
  rw [oneP_A t a ha, if_neg hB]
  obtain ⟨n1, n2, n3, n4⟩ := hS.txt
  obtain ⟨hk, q0⟩ := hS.at 0 91 rfl
  have hz := hS.size
  have h8 : ¬ (8 : Int) < a := by omega
  have h8' : (a : Int) ≤ 8 := by omega
  have hone := one_le t (a + 1)
  have HV : Hid (∀ k : Nat, (S.extract 0 k) = ⟨((91 :: t).take k).toArray⟩) := fun k => by
    have := (hS.sub 0 k).eq
    simpa using this
  have HS1 : Hid (Str (S.extract 1 (91 :: t).length) t) := by
    have := hS.sub 1 (91 :: t).length
    rw [show ((91 :: t).drop 1).take ((91 :: t).length - 1) = t by simp] at this
    exact this
  obtain ⟨w0, hw0⟩ : ∃ w0, w0 = w.alloc (.cells #[.int .i64 0, .string ⟨#[]⟩] 23) := ⟨_, rfl⟩
  have HB : Hid (Bx2c w0 w.heap.size (.int .i64 0) (.string ⟨#[]⟩)) := by rw [hw0]; exact Bx2c.made _ _ _
  have F0 : Hid (Below w.heap.size w w0) := by rw [hw0]; exact bA (Below.refl _ _) _
  have HW0 := hide hw0
  clear hw0
  obtain ⟨A1, hA1⟩ : ∃ A1, A1 = a + 1 := ⟨_, rfl⟩
  have ha1 : (a : Int) + 1 = (A1 : Int) := by omega
  have HI := hide (ih w0 _ (a + 1) (unhide HS1) (by simp at hs; omega) (by omega))
  have HG : Hid (∀ (k : Nat) c, (91 :: t)[k]? = some c → ∃ hk : k < S.size, S[k] = c) := fun k c h => hS.at k c h
  have hN : t.length + 1 = (91 :: t).length := rfl
  have HB2 : Hid (¬ (1 : Int) < ((91 :: t).length : Int) ∨ ((1 : Int) < ((91 :: t).length : Int) ∧ ∃ d, (∃ hk : 1 < S.size, S[1] = d) ∧ (¬ (d.toNat : Int) = 66 ∨ d = 66 ∧ ¬ (a : Int) < 8))) := by
    cases t with
    | nil => exact .inl (by simp)
    | cons d t =>
      refine .inr ⟨by simp; omega, d, hS.at 1 d rfl, ?_⟩
      by_cases hd : d = 66
      · exact .inr ⟨hd, fun h => hB ⟨by simp [hd], by omega⟩⟩
      · exact .inl (un73 (n := 66) hd (by decide))
  generalize oneP t (a + 1) = op at *
  obtain ⟨⟨tk, tn⟩, m⟩ := op
  rw [← hA1] at HI
  clear hA1
  unfold tyV at *
  simp only at HI hone ⊢
  clear hS hB HG HS1
  generalize (91 :: t).length = n at *
  have hn1 : 1 ≤ n := by omega
  have hn2 : (1 : Int) ≤ n := by omega
  obtain ⟨M, hM⟩ : ∃ M, M = m + 1 := ⟨_, rfl⟩
  rw [← hM]
  have HM := hide hM
  clear hM
  rcases unhide HB2 with hb | ⟨hb, d, ⟨hd1, q1⟩, hd2 | ⟨rfl, hd3⟩⟩
  · clear HB2
    go_enter Try.func33, Try.ntmps33
    go_wp2_with fail
    rw [← unhide HW0]
    refine (unhide HI).mono ?_
    rintro e w1 ⟨rfl, f1⟩
    have HB1 : Hid (Bx2c (w1.alloc (.cells #[.int .i64 tk, .string ⟨tn.toArray⟩] 23)) w.heap.size _ _) := ((unhide HB).keep f1).keep (bA (Below.refl _ _) _)
    have F1 : Hid (Below w.heap.size w (w1.alloc (.cells #[.int .i64 tk, .string ⟨tn.toArray⟩] 23))) := bA ((unhide F0).trans (f1.mono (unhide F0).size)) _
    obtain ⟨k0, k1, k2⟩ := (unhide HB1).cells
    clear f1
    rcases Nat.eq_zero_or_pos m with hm0 | hm0
    · subst hm0
      go_wp2
      exact bodyPost_ret (ty_ret2 Try.results33 _ w.heap.size _ _ (ty_set _ _ (unhide HB1).row) _ rfl) rfl ⟨rfl, ty_bel _ _ (unhide F1) (Nat.le_refl _)⟩
    · exfalso; omega
  · clear HB2
    have hd4 : ((d.toNat : Int) == 66) = false := by simpa using hd2
    go_enter Try.func33, Try.ntmps33
    go_wp2_with fail
    rw [← unhide HW0]
    refine (unhide HI).mono ?_
    rintro e w1 ⟨rfl, f1⟩
    have HB1 : Hid (Bx2c (w1.alloc (.cells #[.int .i64 tk, .string ⟨tn.toArray⟩] 23)) w.heap.size _ _) := ((unhide HB).keep f1).keep (bA (Below.refl _ _) _)
    have F1 : Hid (Below w.heap.size w (w1.alloc (.cells #[.int .i64 tk, .string ⟨tn.toArray⟩] 23))) := bA ((unhide F0).trans (f1.mono (unhide F0).size)) _
    obtain ⟨k0, k1, k2⟩ := (unhide HB1).cells
    clear f1
    rcases Nat.eq_zero_or_pos m with hm0 | hm0
    · subst hm0
      go_wp2
      exact bodyPost_ret (ty_ret2 Try.results33 _ w.heap.size _ _ (ty_set _ _ (unhide HB1).row) _ rfl) rfl ⟨rfl, ty_bel _ _ (unhide F1) (Nat.le_refl _)⟩
    · have hm1 : (0 : Int) < m := by omega
      have hm2 : (m : Int) + 1 = M := by have := unhide HM; omega
      have hm3 : (M : Int) ≤ n := by have := unhide HM; omega
      have hm4 : M ≤ n := by omega
      have hm5 : (0 : Int) ≤ M := by omega
      have e3 : (if 0 < m then ((⟨4, (91 :: t).take M⟩ : Ty), M) else (ty0, 0)) = (⟨4, (91 :: t).take M⟩, M) := if_pos hm0
      have E3 := hide e3
      clear e3
      go_wp2
      refine bodyPost_ret (ty_ret2 Try.results33 _ w.heap.size _ _ (ty_set _ _ (unhide HB1).row) _ rfl) rfl ⟨?_, ty_bel _ _ (unhide F1) (Nat.le_refl _)⟩
      try rw [unhide E3]
      show Ending.returned (.tuple #[.agg #[.int .i64 4, .string (S.extract 0 M)], .int .i64 (M : Int)]) = _
      rw [unhide HV]
  · clear HB2
    have hd4 : (8 : Int) ≤ a := by omega
    go_enter Try.func33, Try.ntmps33
    go_wp2_with fail
    rw [← unhide HW0]
    refine (unhide HI).mono ?_
    rintro e w1 ⟨rfl, f1⟩
    have HB1 : Hid (Bx2c (w1.alloc (.cells #[.int .i64 tk, .string ⟨tn.toArray⟩] 23)) w.heap.size _ _) := ((unhide HB).keep f1).keep (bA (Below.refl _ _) _)
    have F1 : Hid (Below w.heap.size w (w1.alloc (.cells #[.int .i64 tk, .string ⟨tn.toArray⟩] 23))) := bA ((unhide F0).trans (f1.mono (unhide F0).size)) _
    obtain ⟨k0, k1, k2⟩ := (unhide HB1).cells
    clear f1
    rcases Nat.eq_zero_or_pos m with hm0 | hm0
    · subst hm0
      go_wp2
      exact bodyPost_ret (ty_ret2 Try.results33 _ w.heap.size _ _ (ty_set _ _ (unhide HB1).row) _ rfl) rfl ⟨rfl, ty_bel _ _ (unhide F1) (Nat.le_refl _)⟩
    · have hm1 : (0 : Int) < m := by omega
      have hm2 : (m : Int) + 1 = M := by have := unhide HM; omega
      have hm3 : (M : Int) ≤ n := by have := unhide HM; omega
      have hm4 : M ≤ n := by omega
      have hm5 : (0 : Int) ≤ M := by omega
      have e3 : (if 0 < m then ((⟨4, (91 :: t).take M⟩ : Ty), M) else (ty0, 0)) = (⟨4, (91 :: t).take M⟩, M) := if_pos hm0
      have E3 := hide e3
      clear e3
      go_wp2
      refine bodyPost_ret (ty_ret2 Try.results33 _ w.heap.size _ _ (ty_set _ _ (unhide HB1).row) _ rfl) rfl ⟨?_, ty_bel _ _ (unhide F1) (Nat.le_refl _)⟩
      try rw [unhide E3]
      show Ending.returned (.tuple #[.agg #[.int .i64 4, .string (S.extract 0 M)], .int .i64 (M : Int)]) = _
      rw [unhide HV]
theorem x10One_any : ∀ s : List UInt8, OneOk s
  | [] => one_nil
  | c :: t => by
    have ih := x10One_any t
    intro w S a hS hs ha
    by_cases h9 : 8 < a
    · exact one_deep c t w S a hS h9 ha
    by_cases hL : c = 76
    · subst hL; exact one_L t w S a hS hs (by omega)
    by_cases hA : c = 91
    · subst hA
      by_cases hB : t[0]? = some 66 ∧ a < 8
      · exact one_B t w S a hS hs hB.2 hB.1
      · exact one_A t ih w S a hS hs (by omega) hB
    · exact one_plain c t w S a hS (by omega) hL hA
end Go.Proofs.Ytjhiflhmefhogaa
