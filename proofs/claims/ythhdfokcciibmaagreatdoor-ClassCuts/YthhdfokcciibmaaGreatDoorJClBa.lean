/- The walk of ClassBack. -/
import Derived.Test.YthhdfokcciibmaaGreatDoorJM
import Derived.Test.YthhdfokcciibmaaGreatDoorJClL
import Derived.Test.YthhdfokcciibmaaGreatDoorJClF

namespace Go.Proofs.YthhdfokcciibmaaGreatDoor
open Go.RowKit
set_option linter.unusedVariables false
set_option maxRecDepth 100000

theorem parseK_ok {bs : List UInt8} (h : (parseK bs).2 = 0) : errK (parseK bs).1 = 0 ∧ printK (parseK bs).1 = bs := by
  unfold parseK at h ⊢
  split
  · rename_i h1
    rw [if_pos h1] at h
    cases h
  · rename_i h1
    rw [if_neg h1] at h
    cases hr : readK bs with
    | none =>
      rw [hr] at h
      cases h
    | some c =>
      rw [hr] at h
      simp only at h ⊢
      split
      · rename_i h2
        have he : errK c = 0 := by
          unfold errK
          rw [if_neg (by simp [h2.1]), if_neg (by rw [h2.2]; omega)]
        exact ⟨he, by simp only; unfold printK; rw [if_pos he]; exact h2.2⟩
      · rename_i h2
        rw [if_neg h2] at h
        cases h
theorem parseK_bad {bs : List UInt8} (h : (parseK bs).2 ≠ 0) : (parseK bs).1 = cl0 := by
  unfold parseK at h ⊢
  split
  · rfl
  · rename_i h1
    rw [if_neg h1] at h
    cases hr : readK bs with
    | none => rfl
    | some c =>
      rw [hr] at h
      simp only at h ⊢
      split
      · rename_i h2
        rw [if_pos h2] at h
        exact absurd rfl h
      · rfl
theorem printK_parse {c : Cl} (h : errK c = 0) (hf : ∀ x ∈ c.pool, EntFit x) : parseK (printK c) = (c, 0) := by
  have : printK c = bytesK c := by unfold printK; rw [if_pos h]
  rw [this]
  exact parse_yes h rfl hf
theorem printK_len (c : Cl) : (printK c).length ≤ 32768 := by
  unfold printK
  split
  · rename_i h
    exact (errK_zero h).2
  · simp

set_option maxHeartbeats 3200000 in
theorem back_tab (P : PrintOk) (Q : ParseOk) (w : World) (hT : Tab8 w) (r : ClR) (a : Option Addr) (n c : Nat) (bs : List UInt8) (hC : CIn w r) (hA : Arg w a n c bs) (hn : n ≤ 140737488351232) :
    Calls Tryz.prog 5 #[r.v, .slice a n c] w fun e w' => e = .returned (.bool true) ∧ Below w.heap.size w w' := by
  obtain ⟨cc, p1, f1, m1, mr⟩ := r
  obtain ⟨pl, nm, sp, fl, ml⟩ := cc
  obtain ⟨p1a, p1n, p1c⟩ := p1
  obtain ⟨f1a, f1n, f1c⟩ := f1
  obtain ⟨m1a, m1n, m1c⟩ := m1
  obtain ⟨w0, e0, f0, K0⟩ := one_local w #[.slice p1a p1n p1c, .string ⟨nm.toArray⟩, .string ⟨sp.toArray⟩, .slice f1a f1n f1c, .slice m1a m1n m1c] 26
  have hC0 := hC.below f0
  have hA0 := hA.below f0
  have hT0 := hT.below f0
  have hbl : bs.length = n := hA.bs.1
  have HW0 : Hid (Calls Tryz.prog 14 #[] w0 fun e w' => e = .returned (.bool true) ∧ Below w0.heap.size w0 w') := works8_tab P w0 hT0
  have HL0 : Hid (∀ W, Below w0.heap.size w0 W → Calls Tryz.prog 7 #[(⟨⟨pl, nm, sp, fl, ml⟩, ⟨p1a, p1n, p1c⟩, ⟨f1a, f1n, f1c⟩, ⟨m1a, m1n, m1c⟩, mr⟩ : ClR).v] W fun e w' => ∃ b, e = .returned (.bool b) ∧ Below w0.heap.size w0 w') := fun W f => (light8_any W _ (hC0.below f)).mono (by
    rintro e w' ⟨rfl, f'⟩
    exact ⟨_, rfl, f.trans (f'.mono f.size)⟩)
  have HPR : Hid (∀ W, Below w0.heap.size w0 W → Calls Tryz.prog 9 #[(⟨⟨pl, nm, sp, fl, ml⟩, ⟨p1a, p1n, p1c⟩, ⟨f1a, f1n, f1c⟩, ⟨m1a, m1n, m1c⟩, mr⟩ : ClR).v] W fun e w' => (∃ va vc, e = .returned (.tuple #[.slice va (printK ⟨pl, nm, sp, fl, ml⟩).length vc, .int .i64 (errK ⟨pl, nm, sp, fl, ml⟩)]) ∧ Arg w' va (printK ⟨pl, nm, sp, fl, ml⟩).length vc (printK ⟨pl, nm, sp, fl, ml⟩)) ∧ Below w0.heap.size w0 w') := fun W f => (P W _ (hT0.below f) (hC0.below f)).mono (by
    rintro e w' ⟨⟨v, rfl, o⟩, f'⟩
    obtain ⟨va, vc, rfl, _⟩ := own_form o
    exact ⟨⟨va, vc, rfl, arg_of_own rfl o⟩, f.trans (f'.mono f.size)⟩)
  have HPA : Hid (∀ W a n c bs, Below w0.heap.size w0 W → Arg W a n c bs → n ≤ 140737488351232 → Calls Tryz.prog 16 #[.slice a n c] W fun e w' => (∃ (pl : List Ent) (nm sp : List UInt8) (fl : List Fd) (ml : List Md) (pa fa ma : Option Addr) (pn pc fn fc mn mc : Nat) (mr : List MdR), e = .returned (.tuple #[.agg #[.slice pa pn pc, .string ⟨nm.toArray⟩, .string ⟨sp.toArray⟩, .slice fa fn fc, .slice ma mn mc], .int .i64 (parseK bs).2]) ∧ (⟨pl, nm, sp, fl, ml⟩ : Cl) = (parseK bs).1 ∧ CIn w' ⟨⟨pl, nm, sp, fl, ml⟩, ⟨pa, pn, pc⟩, ⟨fa, fn, fc⟩, ⟨ma, mn, mc⟩, mr⟩) ∧ Below W.heap.size W w') := fun W a n c bs f hA hn => (Q W a n c bs (hT0.below f) hA hn).mono (by
    rintro e w' ⟨⟨⟨⟨pl, nm, sp, fl, ml⟩, ⟨pa, pn, pc⟩, ⟨fa, fn, fc⟩, ⟨ma, mn, mc⟩, mr⟩, rfl, hc, hi⟩, f'⟩
    exact ⟨⟨pl, nm, sp, fl, ml, pa, fa, ma, pn, pc, fn, fc, mn, mc, mr, rfl, hc, hi⟩, f'⟩)
  have HEA : Hid (CIn w0 ⟨⟨pl, nm, sp, fl, ml⟩, ⟨p1a, p1n, p1c⟩, ⟨f1a, f1n, f1c⟩, ⟨m1a, m1n, m1c⟩, mr⟩) := hC0
  have HAR := hide hA0
  have HTB := hide hT0
  have HPP := hide P
  unfold ClR.v Sl.v at HL0 HPR ⊢
  simp only at HL0 HPR ⊢
  have KC : Hid (∀ W, Below w0.heap.size w0 W → W.cell? ⟨w.heap.size, 0, none⟩ = some (.slice p1a p1n p1c) ∧ W.cell? ⟨w.heap.size, 1, none⟩ = some (.string ⟨nm.toArray⟩) ∧ W.cell? ⟨w.heap.size, 2, none⟩ = some (.string ⟨sp.toArray⟩) ∧ W.cell? ⟨w.heap.size, 3, none⟩ = some (.slice f1a f1n f1c) ∧ W.cell? ⟨w.heap.size, 4, none⟩ = some (.slice m1a m1n m1c)) := fun W f => ⟨K0 W f 0 _ rfl, K0 W f 1 _ rfl, K0 W f 2 _ rfl, K0 W f 3 _ rfl, K0 W f 4 _ rfl⟩
  have F0 := hide f0
  clear hC hC0 hT hA hA0 hT0 P Q
  clear K0 f0
  go_enter Tryz.func5, Tryz.ntmps5
  go_wp2_with fail
  refine (unhide HW0).mono ?_
  rintro e w1 ⟨rfl, B1⟩
  obtain ⟨q0, q1, q2, q3, q4⟩ := unhide KC _ B1
  have HB1 := hide B1
  clear B1 e0
  go_wp2_with fail
  refine (unhide HL0 _ (unhide HB1)).mono ?_
  rintro e w2 ⟨b, rfl, B2⟩
  clear q0 q1 q2 q3 q4 HB1
  have HB2 := hide B2
  clear B2
  cases b with
  | false =>
    go_wp2
    go_ret
    exact ⟨rfl, (unhide F0).trans ((unhide HB2).mono (unhide F0).size)⟩
  | true =>
    by_cases hlong : 6000 < n
    · have hlong' : (6000 : Int) < (n : Int) := by omega
      go_wp2
      go_ret
      exact ⟨rfl, (unhide F0).trans ((unhide HB2).mono (unhide F0).size)⟩
    · have hlong' : ¬ (6000 : Int) < (n : Int) := by omega
      obtain ⟨q0, q1, q2, q3, q4⟩ := unhide KC _ (unhide HB2)
      go_wp2_with fail
      refine (unhide HPR _ (unhide HB2)).mono ?_
      rintro e w3 ⟨⟨va, vc, rfl, A3⟩, B3⟩
      clear q0 q1 q2 q3 q4 HB2
      have HB3 := hide B3
      have HA3 := hide A3
      clear B3 A3
      by_cases he : errK ⟨pl, nm, sp, fl, ml⟩ = 0
      · have hpp := printK_parse he (unhide HEA).pool.fit.2
        have hpl := printK_len ⟨pl, nm, sp, fl, ml⟩
        rw [he]
        have HQ := hide (unhide HPA w3 va _ vc _ (unhide HB3) (unhide HA3) (by omega))
        rw [hpp] at HQ
        clear hpp he hpl
        go_wp2_with fail
        refine (unhide HQ).mono ?_
        rintro e w4 ⟨⟨pl', nm', sp', fl', ml', pa, fa, ma, pn, pc, fn, fc, mn, mc, mr', rfl, hc4, hi4⟩, f4⟩
        try simp only at hc4
        have B4 := (unhide HB3).trans (f4.mono (unhide HB3).size)
        obtain ⟨w5, e5, f5, l5⟩ : ∃ w5, w4.alloc (.cells #[.slice pa pn pc, .string ⟨nm'.toArray⟩, .string ⟨sp'.toArray⟩, .slice fa fn fc, .slice ma mn mc] 26) = w5 ∧ Below w4.heap.size w4 w5 ∧ w5.heap[w4.heap.size]? = some (.cells #[.slice pa pn pc, .string ⟨nm'.toArray⟩, .string ⟨sp'.toArray⟩, .slice fa fn fc, .slice ma mn mc] 26 (0, 0)) := ⟨_, rfl, (Below.refl _ _).alloc (Nat.le_refl _) _, heap_alloc_new w4 _⟩
        have B5 := B4.trans (f5.mono B4.size)
        obtain ⟨q0, q1, q2, q3, q4⟩ := unhide KC _ B5
        have d0 : w5.cell? ⟨w4.heap.size, 0, none⟩ = some (.slice pa pn pc) := bx_cell l5 0 _ rfl
        have d1 : w5.cell? ⟨w4.heap.size, 1, none⟩ = some (.string ⟨nm'.toArray⟩) := bx_cell l5 1 _ rfl
        have d2 : w5.cell? ⟨w4.heap.size, 2, none⟩ = some (.string ⟨sp'.toArray⟩) := bx_cell l5 2 _ rfl
        have d3 : w5.cell? ⟨w4.heap.size, 3, none⟩ = some (.slice fa fn fc) := bx_cell l5 3 _ rfl
        have d4 : w5.cell? ⟨w4.heap.size, 4, none⟩ = some (.slice ma mn mc) := bx_cell l5 4 _ rfl
        have HS := hide (SameClass_same w5 _ _ ((unhide HEA).below B5) (hi4.below f5) hc4.symm)
        unfold ClR.v Sl.v at HS
        simp only at HS
        have HB5 := hide B5
        clear hc4 hi4 f4 B4 f5 l5 B5 HQ
        go_wp2_with fail
        refine (unhide HS).mono ?_
        rintro e w6 ⟨rfl, f6⟩
        have HB6 := hide ((unhide HB5).trans (f6.mono (unhide HB5).size))
        clear f6 HS HB5 q0 q1 q2 q3 q4 d0 d1 d2 d3 d4 e5
        clear HB3 HA3
        have HQ := hide (unhide HPA w6 a n c bs (unhide HB6) ((unhide HAR).below (unhide HB6)) hn)
        go_wp2_with fail
        refine (unhide HQ).mono ?_
        rintro e w7 ⟨⟨pl7, nm7, sp7, fl7, ml7, pa7, fa7, ma7, pn7, pc7, fn7, fc7, mn7, mc7, mr7, rfl, hc7, hi7⟩, f7⟩
        have B7 := (unhide HB6).trans (f7.mono (unhide HB6).size)
        obtain ⟨w8, e8, f8, l8⟩ : ∃ w8, w7.alloc (.cells #[.slice pa7 pn7 pc7, .string ⟨nm7.toArray⟩, .string ⟨sp7.toArray⟩, .slice fa7 fn7 fc7, .slice ma7 mn7 mc7] 26) = w8 ∧ Below w7.heap.size w7 w8 ∧ w8.heap[w7.heap.size]? = some (.cells #[.slice pa7 pn7 pc7, .string ⟨nm7.toArray⟩, .string ⟨sp7.toArray⟩, .slice fa7 fn7 fc7, .slice ma7 mn7 mc7] 26 (0, 0)) := ⟨_, rfl, (Below.refl _ _).alloc (Nat.le_refl _) _, heap_alloc_new w7 _⟩
        have B8 := B7.trans (f8.mono B7.size)
        have x0 : w8.cell? ⟨w7.heap.size, 0, none⟩ = some (.slice pa7 pn7 pc7) := bx_cell l8 0 _ rfl
        have x1 : w8.cell? ⟨w7.heap.size, 1, none⟩ = some (.string ⟨nm7.toArray⟩) := bx_cell l8 1 _ rfl
        have x2 : w8.cell? ⟨w7.heap.size, 2, none⟩ = some (.string ⟨sp7.toArray⟩) := bx_cell l8 2 _ rfl
        have x3 : w8.cell? ⟨w7.heap.size, 3, none⟩ = some (.slice fa7 fn7 fc7) := bx_cell l8 3 _ rfl
        have x4 : w8.cell? ⟨w7.heap.size, 4, none⟩ = some (.slice ma7 mn7 mc7) := bx_cell l8 4 _ rfl
        have hi8 := hi7.below f8
        by_cases hz : (parseK bs).2 = 0
        · obtain ⟨k1, k2⟩ := parseK_ok hz
          rw [← hc7] at k1 k2
          have HS := hide (unhide HPP w8 _ ((unhide HTB).below B8) hi8)
          unfold ClR.v Sl.v at HS
          simp only at HS
          rw [k1, k2] at HS
          rw [hz]
          have HB8 := hide B8
          clear hz k1 k2 hc7 hi7 hi8 f7 B7 f8 l8 B8 HQ HB6
          go_wp2_with fail
          refine (unhide HS).mono ?_
          rintro e w9 ⟨⟨v9, rfl, o9⟩, f9⟩
          obtain ⟨a9, c9, rfl, _⟩ := own_form o9
          have B9 := (unhide HB8).trans (f9.mono (unhide HB8).size)
          have HX := hide (SameBytes_n w9 a9 a bs bs n n c9 c (own_bytes o9) (bs_at8 ((unhide HAR).below B9).bs) hbl hbl)
          rw [decide_eq_true rfl] at HX
          have HB9 := hide B9
          clear o9 f9 B9 HS HB8 x0 x1 x2 x3 x4 e8
          go_wp2_with fail
          refine (unhide HX).mono ?_
          rintro e wz ⟨rfl, ez⟩
          have ez' := ez.symm
          clear ez
          subst ez'
          go_wp2
          go_ret
          exact ⟨rfl, (unhide F0).trans ((unhide HB9).mono (unhide F0).size)⟩
        · have k1 := parseK_bad hz
          rw [← hc7] at k1
          have HS := hide (SameClass_same w8 _ clr0 hi8 (cin0 w8) k1)
          unfold clr0 ClR.v Sl.v cl0 at HS
          simp only at HS
          have hz' : ((parseK bs).2 != 0) = true := by simpa using hz
          have HB8 := hide B8
          clear hz k1 hc7 hi7 hi8 f7 B7 f8 l8 B8 HQ HB6
          generalize (parseK bs).2 = E9 at *
          go_wp2_with fail
          refine (unhide HS).mono ?_
          rintro e w9 ⟨rfl, f9⟩
          have HB9 := hide ((unhide HB8).trans (f9.mono (unhide HB8).size))
          clear f9
          go_wp2
          go_ret
          exact ⟨rfl, (unhide F0).trans ((unhide HB9).mono (unhide F0).size)⟩
      · have he' : (errK ⟨pl, nm, sp, fl, ml⟩ == 0) = false := by simpa using he
        clear he
        generalize errK ⟨pl, nm, sp, fl, ml⟩ = E at *
        have HB6 := HB3
        clear HB3 HA3
        have HQ := hide (unhide HPA w3 a n c bs (unhide HB6) ((unhide HAR).below (unhide HB6)) hn)
        go_wp2_with fail
        refine (unhide HQ).mono ?_
        rintro e w7 ⟨⟨pl7, nm7, sp7, fl7, ml7, pa7, fa7, ma7, pn7, pc7, fn7, fc7, mn7, mc7, mr7, rfl, hc7, hi7⟩, f7⟩
        have B7 := (unhide HB6).trans (f7.mono (unhide HB6).size)
        obtain ⟨w8, e8, f8, l8⟩ : ∃ w8, w7.alloc (.cells #[.slice pa7 pn7 pc7, .string ⟨nm7.toArray⟩, .string ⟨sp7.toArray⟩, .slice fa7 fn7 fc7, .slice ma7 mn7 mc7] 26) = w8 ∧ Below w7.heap.size w7 w8 ∧ w8.heap[w7.heap.size]? = some (.cells #[.slice pa7 pn7 pc7, .string ⟨nm7.toArray⟩, .string ⟨sp7.toArray⟩, .slice fa7 fn7 fc7, .slice ma7 mn7 mc7] 26 (0, 0)) := ⟨_, rfl, (Below.refl _ _).alloc (Nat.le_refl _) _, heap_alloc_new w7 _⟩
        have B8 := B7.trans (f8.mono B7.size)
        have x0 : w8.cell? ⟨w7.heap.size, 0, none⟩ = some (.slice pa7 pn7 pc7) := bx_cell l8 0 _ rfl
        have x1 : w8.cell? ⟨w7.heap.size, 1, none⟩ = some (.string ⟨nm7.toArray⟩) := bx_cell l8 1 _ rfl
        have x2 : w8.cell? ⟨w7.heap.size, 2, none⟩ = some (.string ⟨sp7.toArray⟩) := bx_cell l8 2 _ rfl
        have x3 : w8.cell? ⟨w7.heap.size, 3, none⟩ = some (.slice fa7 fn7 fc7) := bx_cell l8 3 _ rfl
        have x4 : w8.cell? ⟨w7.heap.size, 4, none⟩ = some (.slice ma7 mn7 mc7) := bx_cell l8 4 _ rfl
        have hi8 := hi7.below f8
        by_cases hz : (parseK bs).2 = 0
        · obtain ⟨k1, k2⟩ := parseK_ok hz
          rw [← hc7] at k1 k2
          have HS := hide (unhide HPP w8 _ ((unhide HTB).below B8) hi8)
          unfold ClR.v Sl.v at HS
          simp only at HS
          rw [k1, k2] at HS
          rw [hz]
          have HB8 := hide B8
          clear hz k1 k2 hc7 hi7 hi8 f7 B7 f8 l8 B8 HQ HB6
          go_wp2_with fail
          refine (unhide HS).mono ?_
          rintro e w9 ⟨⟨v9, rfl, o9⟩, f9⟩
          obtain ⟨a9, c9, rfl, _⟩ := own_form o9
          have B9 := (unhide HB8).trans (f9.mono (unhide HB8).size)
          have HX := hide (SameBytes_n w9 a9 a bs bs n n c9 c (own_bytes o9) (bs_at8 ((unhide HAR).below B9).bs) hbl hbl)
          rw [decide_eq_true rfl] at HX
          have HB9 := hide B9
          clear o9 f9 B9 HS HB8 x0 x1 x2 x3 x4 e8
          go_wp2_with fail
          refine (unhide HX).mono ?_
          rintro e wz ⟨rfl, ez⟩
          have ez' := ez.symm
          clear ez
          subst ez'
          go_wp2
          go_ret
          exact ⟨rfl, (unhide F0).trans ((unhide HB9).mono (unhide F0).size)⟩
        · have k1 := parseK_bad hz
          rw [← hc7] at k1
          have HS := hide (SameClass_same w8 _ clr0 hi8 (cin0 w8) k1)
          unfold clr0 ClR.v Sl.v cl0 at HS
          simp only at HS
          have hz' : ((parseK bs).2 != 0) = true := by simpa using hz
          have HB8 := hide B8
          clear hz k1 hc7 hi7 hi8 f7 B7 f8 l8 B8 HQ HB6
          generalize (parseK bs).2 = E9 at *
          go_wp2_with fail
          refine (unhide HS).mono ?_
          rintro e w9 ⟨rfl, f9⟩
          have HB9 := hide ((unhide HB8).trans (f9.mono (unhide HB8).size))
          clear f9
          go_wp2
          go_ret
          exact ⟨rfl, (unhide F0).trans ((unhide HB9).mono (unhide F0).size)⟩
end Go.Proofs.YthhdfokcciibmaaGreatDoor
