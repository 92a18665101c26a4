/- The document's Elem. -/
import Derived.Test.YtjhiflhmefhogaaJKdM

namespace Go.Proofs.Ytjhiflhmefhogaa
open Go.RowKit
set_option linter.unusedVariables false
set_option maxRecDepth 100000

set_option maxHeartbeats 1600000 in
theorem x10Elem_any (w : World) (k : Int) (S : ByteArray) (s : List UInt8) (hS : Str S s) (hs : s.length ≤ 140737488351232) : Calls Try.prog 20 #[.agg #[.int .i64 k, .string S]] w fun e w' => e = .returned (.tuple #[tyV (elemP ⟨k, s⟩).1, .int .i64 (elemP ⟨k, s⟩).2]) ∧ Below w.heap.size w w' := by
  rw [elem_ref]
  obtain ⟨w0, hw0, hB1, hB2, f0⟩ := two_boxes w (.int .i64 k) (.string S)
  have HW0 := hide hw0
  clear hw0
  have HP := hide (x10Print_any w0 k S s hS hs)
  have hz := hS.size
  have hpe := prn_err ⟨k, s⟩
  have HB1 := hide hB1
  have HB2 := hide hB2
  have F0 := hide f0
  have HS := hide hS
  have HA : Hid (∀ W, Calls Try.prog 40 #[.string S] W fun e w' => e = .returned (.bool (arrB s)) ∧ w' = W) := fun W => x10array_any W S s hS
  clear hB1 hB2 f0 hS
  by_cases hc : (prnP ⟨k, s⟩).2 = 0 ∧ k = 4 ∧ arrB s = true
  case neg =>
    rw [if_neg hc]
    show Calls _ _ _ _ fun e w' => e = .returned (.tuple #[.agg #[.int .i64 0, .string ⟨#[]⟩], .int .i64 100]) ∧ Below w.heap.size w w'
    rcases hpe with hp | hp
    · rw [hp] at HP
      generalize (⟨(prnP ⟨k, s⟩).1.toArray⟩ : ByteArray) = P at *
      by_cases h4 : k = 4
      · subst h4
        have ha : arrB s = false := by
          cases h : arrB s
          · rfl
          · exact absurd ⟨hp, rfl, h⟩ hc
        rw [ha] at HA
        clear hc hp ha
        go_enter Try.func20, Try.ntmps20
        go_wp2_with fail
        rw [← unhide HW0]
        refine (unhide HP).mono ?_
        rintro e w1 ⟨rfl, f1⟩
        have HBP := hide ((unhide HB1).keep f1)
        have HBR := hide ((unhide HB2).keep f1)
        have F1 := hide ((unhide F0).trans (f1.mono (unhide F0).size))
        obtain ⟨k0, k1, k2⟩ := (unhide HBR).cells
        obtain ⟨p0, p1, p2⟩ := (unhide HBP).cells
        clear f1
        go_wp2_with (go_at_call 40; refine (unhide HA w1).mono ?_; rintro e w' ⟨rfl, hw⟩; rw [hw]; clear hw)
        exact bodyPost_ret (ty_ret2 Try.results20 _ (w.heap.size + 1) _ _ (ty_set _ _ (unhide HBR).row) _ rfl) rfl ⟨rfl, ty_bel _ _ (unhide F1) (by omega)⟩
      · have h4' : (k == 4) = false := by simpa using h4
        have h4'' : (k != 4) = true := by simpa using h4
        clear hc hp
        go_enter Try.func20, Try.ntmps20
        go_wp2_with fail
        rw [← unhide HW0]
        refine (unhide HP).mono ?_
        rintro e w1 ⟨rfl, f1⟩
        have HBP := hide ((unhide HB1).keep f1)
        have HBR := hide ((unhide HB2).keep f1)
        have F1 := hide ((unhide F0).trans (f1.mono (unhide F0).size))
        obtain ⟨k0, k1, k2⟩ := (unhide HBR).cells
        obtain ⟨p0, p1, p2⟩ := (unhide HBP).cells
        clear f1
        go_wp2
        exact bodyPost_ret (ty_ret2 Try.results20 _ (w.heap.size + 1) _ _ (ty_set _ _ (unhide HBR).row) _ rfl) rfl ⟨rfl, ty_bel _ _ (unhide F1) (by omega)⟩
    · rw [hp] at HP
      simp only at HP
      clear hc hp
      go_enter Try.func20, Try.ntmps20
      go_wp2_with fail
      rw [← unhide HW0]
      refine (unhide HP).mono ?_
      rintro e w1 ⟨rfl, f1⟩
      have HBP := hide ((unhide HB1).keep f1)
      have HBR := hide ((unhide HB2).keep f1)
      have F1 := hide ((unhide F0).trans (f1.mono (unhide F0).size))
      obtain ⟨k0, k1, k2⟩ := (unhide HBR).cells
      obtain ⟨p0, p1, p2⟩ := (unhide HBP).cells
      clear f1
      go_wp2
      exact bodyPost_ret (ty_ret2 Try.results20 _ (w.heap.size + 1) _ _ (ty_set _ _ (unhide HBR).row) _ rfl) rfl ⟨rfl, ty_bel _ _ (unhide F1) (by omega)⟩
  case pos =>
    rw [if_pos hc]
    obtain ⟨hp, rfl, ha⟩ := hc
    rw [hp] at HP
    rw [ha] at HA
    generalize (⟨(prnP ⟨4, s⟩).1.toArray⟩ : ByteArray) = P at *
    clear hpe hp
    by_cases hB : s = [91, 66]
    · rw [if_pos hB]
      show Calls _ _ _ _ fun e w' => e = .returned (.tuple #[.agg #[.int .i64 1, .string ⟨#[]⟩], .int .i64 0]) ∧ Below w.heap.size w w'
      obtain rfl : S = ⟨#[91, 66]⟩ := by rw [(unhide HS).eq, hB]
      clear hB HS ha hs
      go_enter Try.func20, Try.ntmps20
      go_wp2_with fail
      rw [← unhide HW0]
      refine (unhide HP).mono ?_
      rintro e w1 ⟨rfl, f1⟩
      have HBP := hide ((unhide HB1).keep f1)
      have HBR := hide ((unhide HB2).keep f1)
      have F1 := hide ((unhide F0).trans (f1.mono (unhide F0).size))
      obtain ⟨k0, k1, k2⟩ := (unhide HBR).cells
      obtain ⟨p0, p1, p2⟩ := (unhide HBP).cells
      clear f1
      go_wp2_with (go_at_call 40; refine (unhide HA w1).mono ?_; rintro e w' ⟨rfl, hw⟩; rw [hw]; clear hw)
      exact bodyPost_ret (ty_ret2 Try.results20 _ (w.heap.size + 1) _ _ (ty_set _ _ (unhide HBR).row) _ rfl) rfl ⟨rfl, ty_bel _ _ (unhide F1) (by omega)⟩
    · rw [if_neg hB]
      obtain ⟨t, rfl⟩ := arr_cons ha
      simp only [List.drop_succ_cons, List.drop_zero]
      obtain ⟨I, hI⟩ : ∃ I, S.extract 1 (91 :: t).length = I := ⟨_, rfl⟩
      have HI : Hid (Str I t) := by
        have := (unhide HS).sub 1 (91 :: t).length
        rw [show ((91 :: t).drop 1).take ((91 :: t).length - 1) = t by simp, hI] at this
        exact this
      have HT : Hid (∀ W, Calls Try.prog 10 #[.string I] W fun e w' => e = .returned (.tuple #[tyV (parP t).1, .int .i64 (parP t).2]) ∧ Below W.heap.size W w') := fun W => x10Parse_any W I t (unhide HI) (by simp at hs; omega)
      have i1 : ¬ S.toList = [91, 66] := by rw [(unhide HS).list]; exact hB
      have i2 : (S.toList == [91, 66]) = false := by simpa using i1
      generalize parP t = pp at *
      obtain ⟨⟨tk, tn⟩, te⟩ := pp
      unfold tyV at *
      simp only at HT ⊢
      generalize (⟨tn.toArray⟩ : ByteArray) = T at *
      have hl1 : 1 ≤ (91 :: t).length := by simp
      generalize (91 :: t).length = n at *
      have hl2 : (1 : Int) ≤ n := by omega
      clear hB HI HS ha
      go_enter Try.func20, Try.ntmps20
      go_wp2_with fail
      rw [← unhide HW0]
      refine (unhide HP).mono ?_
      rintro e w1 ⟨rfl, f1⟩
      have HBP := hide ((unhide HB1).keep f1)
      have HBR := hide ((unhide HB2).keep f1)
      have F1 := hide ((unhide F0).trans (f1.mono (unhide F0).size))
      obtain ⟨k0, k1, k2⟩ := (unhide HBR).cells
      obtain ⟨p0, p1, p2⟩ := (unhide HBP).cells
      clear f1
      go_wp2_with (first | (go_at_call 40; refine (unhide HA w1).mono ?_; rintro e w' ⟨rfl, hw⟩; rw [hw]; clear hw) | fail)
      refine (unhide HT w1).mono ?_
      rintro e w2 ⟨rfl, f2⟩
      have HBR2 := hide ((unhide HBR).keep f2)
      have F2 := hide ((unhide F1).trans (f2.mono (unhide F1).size))
      clear k0 k1 k2 p0 p1 p2
      obtain ⟨k0, k1, k2⟩ := (unhide HBR2).cells
      clear f2
      go_wp2
      exact bodyPost_ret (ty_ret2 Try.results20 _ (w.heap.size + 1) _ _ (ty_set _ _ (unhide HBR2).row) _ rfl) rfl ⟨rfl, ty_bel _ _ (unhide F2) (by omega)⟩
end Go.Proofs.Ytjhiflhmefhogaa
