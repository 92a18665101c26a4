/- The document's Parse; the landed spelt. -/
import Derived.Test.YtjhiflhmefhogaaKdH
namespace Go.Proofs.Ytjhiflhmefhogaa
open Go.RowKit
set_option linter.unusedVariables false
set_option maxRecDepth 100000

set_option maxHeartbeats 1600000 in
theorem x10Parse_any (w : World) (S : ByteArray) (s : List UInt8) (hS : Str S s) (hs : s.length ≤ 140737488355328) : Calls Try.prog 10 #[.string S] w fun e w' => e = .returned (.tuple #[tyV (parP s).1, .int .i64 (parP s).2]) ∧ Below w.heap.size w w' := by
  have hz := hS.size
  obtain ⟨w0, hw0⟩ : ∃ w0, w0 = w.alloc (.cells #[.int .i64 0, .string ⟨#[]⟩] 23) := ⟨_, rfl⟩
  have HB : Hid (Bx2c w0 w.heap.size (.int .i64 0) (.string ⟨#[]⟩)) := by rw [hw0]; exact Bx2c.made _ _ _
  have F0 : Hid (Below w.heap.size w w0) := by rw [hw0]; exact bA (Below.refl _ _) _
  have HW0 := hide hw0
  clear hw0
  have HO := hide (x10One_any s w0 S 0 hS hs (by omega))
  rw [parP_is]
  clear hS
  generalize oneP s 0 = op at *
  obtain ⟨⟨tk, tn⟩, m⟩ := op
  generalize s.length = n at *
  unfold tyV at *
  simp only at HO ⊢
  generalize hT : (⟨tn.toArray⟩ : ByteArray) = T at *
  by_cases h : m = 0 ∨ m ≠ n
  · rw [if_pos h]
    show Calls _ _ _ _ fun e w' => e = .returned (.tuple #[.agg #[.int .i64 0, .string ⟨#[]⟩], .int .i64 100]) ∧ Below w.heap.size w w'
    rcases Classical.em (m = 0) with h0 | h0
    · subst h0
      clear h
      go_enter Try.func10, Try.ntmps10
      go_wp2_with fail
      rw [← unhide HW0]
      refine (unhide HO).mono ?_
      rintro e w1 ⟨rfl, f1⟩
      have HB1 : Hid (Bx2c (w1.alloc (.cells #[.int .i64 tk, .string T] 23)) w.heap.size _ _) := ((unhide HB).keep f1).keep (bA (Below.refl _ _) _)
      have F1 : Hid (Below w.heap.size w (w1.alloc (.cells #[.int .i64 tk, .string T] 23))) := bA ((unhide F0).trans (f1.mono (unhide F0).size)) _
      obtain ⟨k0, k1, k2⟩ := (unhide HB1).cells
      clear f1
      go_wp2
      exact bodyPost_ret (ty_ret2 Try.results10 _ w.heap.size _ _ (ty_set _ _ (unhide HB1).row) _ rfl) rfl ⟨rfl, ty_bel _ _ (unhide F1) (Nat.le_refl _)⟩
    · have h1 : ((m : Int) == 0) = false := by simp; omega
      have h2 : ¬ (m : Int) = n := by rcases h with h | h <;> omega
      have h3 : ((m : Int) != (n : Int)) = true := by simp; omega
      have h4 : ((m : Int) == (n : Int)) = false := by simp; omega
      have h5 : ¬ (m : Int) = 0 := by omega
      clear h
      go_enter Try.func10, Try.ntmps10
      go_wp2_with fail
      rw [← unhide HW0]
      refine (unhide HO).mono ?_
      rintro e w1 ⟨rfl, f1⟩
      have HB1 : Hid (Bx2c (w1.alloc (.cells #[.int .i64 tk, .string T] 23)) w.heap.size _ _) := ((unhide HB).keep f1).keep (bA (Below.refl _ _) _)
      have F1 : Hid (Below w.heap.size w (w1.alloc (.cells #[.int .i64 tk, .string T] 23))) := bA ((unhide F0).trans (f1.mono (unhide F0).size)) _
      obtain ⟨k0, k1, k2⟩ := (unhide HB1).cells
      clear f1
      go_wp2
      exact bodyPost_ret (ty_ret2 Try.results10 _ w.heap.size _ _ (ty_set _ _ (unhide HB1).row) _ rfl) rfl ⟨rfl, ty_bel _ _ (unhide F1) (Nat.le_refl _)⟩
  · rw [if_neg h]
    obtain rfl : m = n := Classical.byContradiction fun e => h (.inr e)
    have h1 : m ≠ 0 := fun e => h (.inl e)
    have h3 : ((m : Int) == 0) = false := by simp; omega
    have h4 : ¬ (m : Int) = 0 := by omega
    clear h
    simp only
    rw [hT]
    go_enter Try.func10, Try.ntmps10
    go_wp2_with fail
    rw [← unhide HW0]
    refine (unhide HO).mono ?_
    rintro e w1 ⟨rfl, f1⟩
    have HB1 : Hid (Bx2c (w1.alloc (.cells #[.int .i64 tk, .string T] 23)) w.heap.size _ _) := ((unhide HB).keep f1).keep (bA (Below.refl _ _) _)
    have F1 : Hid (Below w.heap.size w (w1.alloc (.cells #[.int .i64 tk, .string T] 23))) := bA ((unhide F0).trans (f1.mono (unhide F0).size)) _
    obtain ⟨k0, k1, k2⟩ := (unhide HB1).cells
    clear f1
    go_wp2
    exact bodyPost_ret (ty_ret2 Try.results10 _ w.heap.size _ _ (ty_set _ _ (unhide HB1).row) _ rfl) rfl ⟨rfl, ty_bel _ _ (unhide F1) (Nat.le_refl _)⟩
def spelP (t : Ty) : List UInt8 := if t.kind = 1 then [73] else if t.kind = 2 then [74] else if t.kind = 4 then (if arrB t.name = true then t.name else 76 :: (t.name ++ [59])) else []
set_option maxHeartbeats 1600000 in
theorem yspelt_any (w : World) (k : Int) (S : ByteArray) (s : List UInt8) (hS : Str S s) (hs : s.length ≤ 140737488351232) : Calls Try.prog 39 #[.agg #[.int .i64 k, .string S]] w fun e w' => e = .returned (.string ⟨(spelP ⟨k, s⟩).toArray⟩) ∧ Below w.heap.size w w' := by
  have hz := hS.size
  unfold spelP
  simp only
  by_cases k1 : k = 1
  · subst k1
    rw [if_pos rfl]
    go_enter Try.func39, Try.ntmps39
    go_wp2
    go_ret
    exact ⟨rfl, bA (Below.refl _ _) _⟩
  rw [if_neg k1]
  have k1' : (k == 1) = false := by simpa using k1
  by_cases k2 : k = 2
  · subst k2
    rw [if_pos rfl]
    go_enter Try.func39, Try.ntmps39
    go_wp2
    go_ret
    exact ⟨rfl, bA (Below.refl _ _) _⟩
  rw [if_neg k2]
  have k2' : (k == 2) = false := by simpa using k2
  by_cases k4 : k = 4
  · subst k4
    rw [if_pos rfl]
    have HA := hide (yarray_any (w.alloc (.cells #[.int .i64 4, .string S] 23)) S s hS)
    have HE := hide hS.eq
    cases hb : arrB s
    · rw [hb] at HA
      rw [if_neg (by decide)]
      go_enter Try.func39, Try.ntmps39
      go_wp2_with (go_at_call 41; refine (unhide HA).mono ?_; rintro e w' ⟨rfl, hw⟩; rw [hw]; clear hw)
      go_ret
      refine ⟨?_, bA (Below.refl _ _) _⟩
      have e : (⟨#[76]⟩ : ByteArray) ++ S ++ ⟨#[59]⟩ = ⟨(76 :: (s ++ [59])).toArray⟩ := by
        rw [unhide HE]
        apply ByteArray.ext
        simp
      show Ending.returned (.string ((⟨#[76]⟩ : ByteArray) ++ S ++ ⟨#[59]⟩)) = _
      rw [e]
    · rw [hb] at HA
      rw [if_pos rfl, ← unhide HE]
      go_enter Try.func39, Try.ntmps39
      go_wp2_with (go_at_call 41; refine (unhide HA).mono ?_; rintro e w' ⟨rfl, hw⟩; rw [hw]; clear hw)
      go_ret
      exact ⟨rfl, bA (Below.refl _ _) _⟩
  · rw [if_neg k4]
    have k4' : (k == 4) = false := by simpa using k4
    go_enter Try.func39, Try.ntmps39
    go_wp2
    go_ret
    exact ⟨rfl, bA (Below.refl _ _) _⟩
end Go.Proofs.Ytjhiflhmefhogaa
