/- The landed answer, Method. -/
import Derived.Test.YtjhiflhmefhogaaJKdP

namespace Go.Proofs.Ytjhiflhmefhogaa
open Go.RowKit
set_option linter.unusedVariables false
set_option maxRecDepth 100000

set_option maxHeartbeats 800000 in
theorem yargs_no (w : World) (S : ByteArray) (s : List UInt8) (hS : Str S s) (h : s[0]? ≠ some 40) : Calls Try.prog 34 #[.string S] w fun e w' => e = .returned (.tuple #[.slice none 0 0, .string ⟨#[]⟩]) ∧ w' = w := by
  have HC := hide (strCutP_any w S ⟨#[40]⟩)
  rw [hS.data] at HC
  have hp : Lib.hasPrefix s (⟨#[40]⟩ : ByteArray).data.toList = false := by
    have := pre_one s 40
    show Lib.hasPrefix s [40] = false
    rw [this]
    exact decide_eq_false h
  rw [hp, if_neg (by decide)] at HC
  clear hp hS
  go_enter Try.func34, Try.ntmps34
  go_wp2_with (go_at_call 46; refine (unhide HC).mono ?_; rintro e w' ⟨rfl, hw⟩; rw [hw]; clear hw)
  go_ret2
  exact ⟨rfl, rfl⟩
/-- What a method answers, told by what stands behind its arguments. -/
def ansP (r : List UInt8) : Ty × Int := if r[0]? = some 41 then (if r.drop 1 = [86] then (ty0, 0) else parP (r.drop 1)) else (ty0, 100)
set_option maxHeartbeats 1600000 in
theorem yans_any (w : World) (S : ByteArray) (s : List UInt8) (hS : Str S s) (hs : s.length ≤ 140737488351232) : Calls Try.prog 35 #[.string S] w fun e w' => e = .returned (.tuple #[tyV (ansP s).1, .int .i64 (ansP s).2]) ∧ Below w.heap.size w w' := by
  obtain ⟨w0, hw0⟩ : ∃ w0, w0 = w.alloc (.cells #[.int .i64 0, .string ⟨#[]⟩] 23) := ⟨_, rfl⟩
  have HB : Hid (Bx2c w0 w.heap.size (.int .i64 0) (.string ⟨#[]⟩)) := by rw [hw0]; exact Bx2c.made _ _ _
  have F0 : Hid (Below w.heap.size w w0) := by rw [hw0]; exact bA (Below.refl _ _) _
  have HW0 := hide hw0
  clear hw0
  have HC := hide (strCutP_any w0 S ⟨#[41]⟩)
  rw [hS.data] at HC
  have hpre := pre_one s 41
  unfold ansP
  by_cases h : s[0]? = some 41
  case neg =>
    have hp : Lib.hasPrefix s (⟨#[41]⟩ : ByteArray).data.toList = false := by
      show Lib.hasPrefix s [41] = false
      rw [hpre]
      exact decide_eq_false h
    rw [hp, if_neg (by decide)] at HC
    rw [if_neg h]
    show Calls _ _ _ _ fun e w' => e = .returned (.tuple #[.agg #[.int .i64 0, .string ⟨#[]⟩], .int .i64 100]) ∧ Below w.heap.size w w'
    obtain ⟨k0, k1, k2⟩ := (unhide HB).cells
    clear hp hS hpre h
    go_enter Try.func35, Try.ntmps35
    go_wp2_with fail
    rw [← unhide HW0]
    refine (unhide HC).mono ?_
    rintro e w' ⟨rfl, hw⟩
    rw [hw]
    clear hw
    go_wp2
    exact bodyPost_ret (ty_ret2 Try.results35 _ w.heap.size _ _ (ty_set _ _ (unhide HB).row) _ rfl) rfl ⟨rfl, ty_bel _ _ (unhide F0) (Nat.le_refl _)⟩
  case pos =>
    rw [if_pos h]
    have hp : Lib.hasPrefix s (⟨#[41]⟩ : ByteArray).data.toList = true := by
      show Lib.hasPrefix s [41] = true
      rw [hpre]
      exact decide_eq_true h
    rw [hp, if_pos rfl] at HC
    obtain ⟨t, rfl⟩ : ∃ t, s = 41 :: t := by
      cases s with
      | nil => simp at h
      | cons c t => simp at h; exact ⟨t, by rw [h]⟩
    have hR0 : Str (S.extract (⟨#[41]⟩ : ByteArray).size S.size) t := by
      have := hS.sub 1 S.size
      rw [hS.size, show ((41 :: t).drop 1).take ((41 :: t).length - 1) = t by simp] at this
      rw [hS.size]
      exact this
    simp only [List.drop_succ_cons, List.drop_zero]
    generalize S.extract (⟨#[41]⟩ : ByteArray).size S.size = R at *
    have HR := hide hR0
    clear hp hS hpre h hR0
    by_cases hV : t = [86]
    · rw [if_pos hV]
      show Calls _ _ _ _ fun e w' => e = .returned (.tuple #[.agg #[.int .i64 0, .string ⟨#[]⟩], .int .i64 0]) ∧ Below w.heap.size w w'
      obtain rfl : R = ⟨#[86]⟩ := by rw [(unhide HR).eq, hV]
      obtain ⟨k0, k1, k2⟩ := (unhide HB).cells
      clear HR hV
      go_enter Try.func35, Try.ntmps35
      go_wp2_with fail
      rw [← unhide HW0]
      refine (unhide HC).mono ?_
      rintro e w' ⟨rfl, hw⟩
      rw [hw]
      clear hw
      go_wp2
      exact bodyPost_ret (ty_ret2 Try.results35 _ w.heap.size _ _ (ty_set _ _ (unhide HB).row) _ rfl) rfl ⟨rfl, ty_bel _ _ (unhide F0) (Nat.le_refl _)⟩
    · rw [if_neg hV]
      have HP := hide (yParse_any w0 R t (unhide HR) (by simp at hs; omega))
      have i1 : ¬ R.toList = [86] := by rw [(unhide HR).list]; exact hV
      have i2 : (R.toList == [86]) = false := by simpa using i1
      generalize parP t = pp at *
      obtain ⟨⟨tk, tn⟩, te⟩ := pp
      unfold tyV at *
      simp only at HP ⊢
      generalize (⟨tn.toArray⟩ : ByteArray) = T at *
      clear hV HR
      go_enter Try.func35, Try.ntmps35
      go_wp2_with fail
      rw [← unhide HW0]
      refine (unhide HC).mono ?_
      rintro e w' ⟨rfl, hw⟩
      rw [hw]
      clear hw
      go_wp2_with fail
      refine (unhide HP).mono ?_
      rintro e w1 ⟨rfl, f1⟩
      have HB1 := hide ((unhide HB).keep f1)
      have F1 := hide ((unhide F0).trans (f1.mono (unhide F0).size))
      obtain ⟨k0, k1, k2⟩ := (unhide HB1).cells
      clear f1
      go_wp2
      exact bodyPost_ret (ty_ret2 Try.results35 _ w.heap.size _ _ (ty_set _ _ (unhide HB1).row) _ rfl) rfl ⟨rfl, ty_bel _ _ (unhide F1) (Nat.le_refl _)⟩
def metP (L : List Ty) (rest : List UInt8) : List Ty × Ty × Int := if (ansP rest).2 = 0 then (if 32 < wideN L then ([], ty0, 3) else (L, (ansP rest).1, 0)) else ([], ty0, 100)
theorem ansP_err (r : List UInt8) : (ansP r).2 = 0 ∨ (ansP r).2 = 100 := by
  unfold ansP
  repeat' split
  · exact .inl rfl
  · exact parP_err _
  · exact .inr rfl
end Go.Proofs.Ytjhiflhmefhogaa
