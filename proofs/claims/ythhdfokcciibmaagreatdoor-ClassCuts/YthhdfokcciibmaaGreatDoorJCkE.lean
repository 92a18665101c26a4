/- The landed class: isCode, isMethod, isField, isRight. -/
import Derived.Test.YthhdfokcciibmaaGreatDoorJCkD

namespace Go.Proofs.YthhdfokcciibmaaGreatDoor
open Go.RowKit
set_option linter.unusedVariables false
set_option maxRecDepth 100000

def cdv (c : Cd) (bs hs maps : Sl) : Value := .agg #[.int .i64 c.stack, .int .i64 c.locals, bs.v, hs.v, maps.v]
set_option maxHeartbeats 12800000 in
theorem nCode_any (w : World) (g mt mc : Nat) (p : Sl) (l : List Ent) (h : Nm w g mt mc p l) (r : MdR) (hr : MdIn w r) :
    Calls Tryz.prog 84 #[.pointer (some ⟨g, 0, none⟩), cdv r.m.code r.bs r.hs r.maps] w fun e w' => e = .returned (.bool (codeOk l r.m.code)) ∧ Below w.heap.size w w' := by
  obtain ⟨⟨acc, nm, ty, ⟨st, lo, by_, hh, mm⟩⟩, ⟨ba, bn, bc⟩, ⟨ha, hn, hc⟩, ⟨ma, mn, mcc⟩, mr⟩ := r
  obtain ⟨r1, r2, r3, r4, r5, r6, r7, r8, r9, r10⟩ := hr
  simp only at r4 r5 r6 r7 r8 r9 r10
  have hbn := r6.bs.1
  have hmn := r9.ls.1
  have hms := r9.small
  simp only at hbn hmn hms
  unfold cdv Sl.v
  simp only
  obtain ⟨w0, e0, f0, K0⟩ := one_local w #[.int .i64 st, .int .i64 lo, .slice ba bn bc, .slice ha hn hc, .slice ma mn mcc] 47
  have KC : Hid (∀ W, Below w0.heap.size w0 W → W.cell? ⟨w.heap.size, 2, none⟩ = some (.slice ba bn bc) ∧ W.cell? ⟨w.heap.size, 3, none⟩ = some (.slice ha hn hc) ∧ W.cell? ⟨w.heap.size, 4, none⟩ = some (.slice ma mn mcc)) := fun W f => ⟨K0 W f 2 _ rfl, K0 W f 3 _ rfl, K0 W f 4 _ rfl⟩
  have q0 := K0 w0 (Below.refl _ _) 0 _ rfl
  have q1 := K0 w0 (Below.refl _ _) 1 _ rfl
  have E0 := hide e0
  have F0 := hide f0
  have HN := hide (h.below f0)
  have b1 : Below w0.heap.size w0 (w0.alloc (.cells #[.int .i64 st, .int .i64 lo] 3)) := (Below.refl _ _).alloc (Nat.le_refl _) _
  obtain ⟨T, hT⟩ : ∃ T, T = codeOk l ⟨st, lo, by_, hh, mm⟩ := ⟨_, rfl⟩
  rw [← hT]
  unfold codeOk at hT
  simp only at hT
  have hml : mm.length = mn := by rw [r10, List.length_map]; exact hmn
  rw [hbn, hml] at hT
  have HU := isUpTo_any (w0.alloc (.cells #[.int .i64 st, .int .i64 lo] 3)) w0.heap.size 2 2 64 [st, lo] (by omega) rfl (by omega) (ints_at w0 [st, lo] _ rfl)
  have HH : ∀ W, Below w0.heap.size w0 W → Calls Tryz.prog 113 #[.slice ha hn hc, .int .i64 256, .func (.func 114) #[.pointer (some ⟨g, 0, none⟩)] #[]] W fun e w' => e = .returned (.bool (areB (rightH l) 256 hh)) ∧ Below W.heap.size W w' := fun W f => arH_any W g mt mc p l ((unhide HN).below f) ⟨ha, hn, hc⟩ hh (r8.mono (f0.trans (f.mono f0.size)) (fun _ h => h)) 256 (by omega)
  have HX : ∀ W, Below w0.heap.size w0 W → Calls Tryz.prog 83 #[.pointer (some ⟨g, 0, none⟩), .slice (some ⟨W.heap.size, 0, none⟩) 1 1] (W.alloc (.cells #[.string ⟨#[83, 116, 97, 99, 107, 77, 97, 112, 84, 97, 98, 108, 101]⟩] 9)) fun e w' => e = .returned (.bool (decide (utfN l sMaps ≠ 0))) ∧ w' = W.alloc (.cells #[.string ⟨#[83, 116, 97, 99, 107, 77, 97, 112, 84, 97, 98, 108, 101]⟩] 9) := fun W f => by
    have h1 := nHasTexts_any (W.alloc (.cells #[.string ⟨#[83, 116, 97, 99, 107, 77, 97, 112, 84, 97, 98, 108, 101]⟩] 9)) g mt mc p l (((unhide HN).below f).below ((Below.refl _ _).alloc (Nat.le_refl _) _)) W.heap.size 1 1 [sMaps] rfl (by omega) (strs_at W [sMaps] _ rfl) (fun s hs => by simp at hs; subst hs; unfold fitS; decide)
    have e : textsB l [sMaps] = decide (utfN l sMaps ≠ 0) := by simp [textsB]
    rw [e] at h1
    exact h1
  have HP : ∀ W, Below w0.heap.size w0 W → Calls Tryz.prog 115 #[.slice ma mn mcc, .int .i64 256, .func (.func 116) #[.pointer (some ⟨g, 0, none⟩)] #[]] W fun e w' => e = .returned (.bool (areB (mapOk l) 256 mm)) ∧ Below W.heap.size W w' := fun W f => by
    have h1 := arP_any W g mt mc p l ((unhide HN).below f) ⟨ma, mn, mcc⟩ mr (r9.mono (f0.trans (f.mono f0.size)) (fun _ h => h.below (f0.trans (f.mono f0.size)))) 256 (by omega)
    rw [← r10] at h1
    exact h1
  have HR : ∀ W, Below w0.heap.size w0 W → Calls Tryz.prog 117 #[.slice ma mn mcc] W fun e w' => e = .returned (.bool (riseB (-1) mm)) ∧ Below W.heap.size W w' := fun W f => by
    have h1 := doRise_any W ⟨ma, mn, mcc⟩ mr (r9.mono (f0.trans (f.mono f0.size)) (fun _ h => h.below (f0.trans (f.mono f0.size))))
    rw [← r10] at h1
    exact h1
  generalize upB 64 [st, lo] = b_u at *
  generalize areB (rightH l) 256 hh = b_h at *
  generalize decide (utfN l sMaps ≠ 0) = b_s at *
  generalize areB (mapOk l) 256 mm = b_m at *
  generalize riseB (-1) mm = b_r at *
  have B1 := hide b1
  have HU1 := hide HU
  have HH1 := hide HH
  have HX1 := hide HX
  have HP1 := hide HP
  have HR1 := hide HR
  have HTT := hide hT
  clear h e0 f0 K0 b1 hT HU HH HX HP HR r1 r2 r3 r4 r5 r6 r8 r9 r10 hml hmn
  have e0 := unhide E0
  go_enter Tryz.func84, Tryz.ntmps84
  go_wp2_with fail
  refine (unhide HU1).mono ?_
  rintro e w1 ⟨rfl, e1⟩
  have F1 : Hid (Below w0.heap.size w0 w1) := by rw [e1]; exact unhide B1
  clear e0 e1 HU1 q0 q1 B1
  obtain ⟨c2, c3, c4⟩ := unhide KC _ (unhide F1)
  have FF1 := hide ((unhide F0).trans ((unhide F1).mono (unhide F0).size))
  cases b_u
  · obtain rfl : T = false := by rw [unhide HTT]; rfl
    go_wp2
    go_ret
    exact ⟨rfl, unhide FF1⟩
  by_cases hb0 : 0 < bn
  case neg =>
    obtain rfl : bn = 0 := by omega
    obtain rfl : T = false := by rw [unhide HTT]; rfl
    go_wp2
    go_ret
    exact ⟨rfl, unhide FF1⟩
  have hb1 : (0 : Int) < (bn : Int) := by omega
  have hb1b : decide ((0 : Int) < (bn : Int)) = true := by simpa using hb0
  by_cases hb2 : bn ≤ 4096
  case neg =>
    obtain rfl : T = false := by rw [unhide HTT]; simp [hb2]
    have hb3 : ¬ (bn : Int) ≤ 4096 := by omega
    have hb3b : decide ((bn : Int) ≤ 4096) = false := by simpa using hb3
    go_wp2
    go_ret
    exact ⟨rfl, unhide FF1⟩
  have hb3 : (bn : Int) ≤ 4096 := by omega
  have HT2 : Hid (T = (b_h && ((decide (mn = 0) || b_s) && (b_m && b_r)))) := by show T = _; rw [unhide HTT]; simp [hb0, hb2]
  have HHc := hide (unhide HH1 _ (unhide F1))
  clear HTT HH1
  go_wp2_with fail
  refine (unhide HHc).mono ?_
  rintro e w2 ⟨rfl, f2⟩
  have F2 := hide ((unhide F1).trans (f2.mono (unhide F1).size))
  have FF2 := hide ((unhide F0).trans ((unhide F2).mono (unhide F0).size))
  obtain ⟨d2, d3, d4⟩ := unhide KC _ (unhide F2)
  clear f2 HHc c2 c3 c4
  cases b_h
  · obtain rfl : T = false := by rw [unhide HT2]; rfl
    go_wp2
    go_ret
    exact ⟨rfl, unhide FF2⟩
  by_cases hm0 : mn = 0
  · subst hm0
    have HT3 : Hid (T = (b_m && b_r)) := by show T = _; rw [unhide HT2]; rfl
    have HPc := hide (unhide HP1 _ (unhide F2))
    clear HT2 HX1
    go_wp2_with fail
    refine (unhide HPc).mono ?_
    rintro e w3 ⟨rfl, f3⟩
    have F3 := hide ((unhide F2).trans (f3.mono (unhide F2).size))
    have FF3 := hide ((unhide F0).trans ((unhide F3).mono (unhide F0).size))
    obtain ⟨g2, g3, g4⟩ := unhide KC _ (unhide F3)
    have HRc := hide (unhide HR1 _ (unhide F3))
    clear f3 HPc d2 d3 d4
    cases b_m
    · obtain rfl : T = false := by rw [unhide HT3]; rfl
      go_wp2
      go_ret
      exact ⟨rfl, unhide FF3⟩
    obtain rfl : T = b_r := by rw [unhide HT3]; rfl
    go_wp2_with fail
    refine (unhide HRc).mono ?_
    rintro e w4 ⟨rfl, f4⟩
    have FF4 := hide ((unhide F0).trans (((unhide F3).trans (f4.mono (unhide F3).size)).mono (unhide F0).size))
    clear f4
    go_wp2
    go_ret
    exact ⟨rfl, unhide FF4⟩
  have hm1 : ((mn : Int) == 0) = false := by simpa using hm0
  have HXc := hide (unhide HX1 _ (unhide F2))
  have HT3 : Hid (T = (b_s && (b_m && b_r))) := by show T = _; rw [unhide HT2]; simp [hm0]
  clear HT2 HX1
  go_wp2_with fail
  refine (unhide HXc).mono ?_
  rintro e w3 ⟨rfl, e3⟩
  have F3 : Hid (Below w0.heap.size w0 w3) := by rw [e3]; exact (unhide F2).trans (((Below.refl _ _).alloc (Nat.le_refl _) _).mono (unhide F2).size)
  have FF3 := hide ((unhide F0).trans ((unhide F3).mono (unhide F0).size))
  obtain ⟨g2, g3, g4⟩ := unhide KC _ (unhide F3)
  have HPc := hide (unhide HP1 _ (unhide F3))
  clear e3 HXc d2 d3 d4
  cases b_s
  · obtain rfl : T = false := by rw [unhide HT3]; rfl
    go_wp2
    go_ret
    exact ⟨rfl, unhide FF3⟩
  go_wp2_with fail
  refine (unhide HPc).mono ?_
  rintro e w4 ⟨rfl, f4⟩
  have F4 := hide ((unhide F3).trans (f4.mono (unhide F3).size))
  have FF4 := hide ((unhide F0).trans ((unhide F4).mono (unhide F0).size))
  obtain ⟨i2, i3, i4⟩ := unhide KC _ (unhide F4)
  have HRc := hide (unhide HR1 _ (unhide F4))
  clear f4 HPc g2 g3 g4
  cases b_m
  · obtain rfl : T = false := by rw [unhide HT3]; rfl
    go_wp2
    go_ret
    exact ⟨rfl, unhide FF4⟩
  obtain rfl : T = b_r := by rw [unhide HT3]; rfl
  go_wp2_with fail
  refine (unhide HRc).mono ?_
  rintro e w5 ⟨rfl, f5⟩
  have FF5 := hide ((unhide F0).trans (((unhide F4).trans (f5.mono (unhide F4).size)).mono (unhide F0).size))
  clear f5
  go_wp2
  go_ret
  exact ⟨rfl, unhide FF5⟩
end Go.Proofs.YthhdfokcciibmaaGreatDoor
