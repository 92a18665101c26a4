/- Joined: ShM ShO. -/
import Derived.Test.YthenefjoidckkaaGreatDoorJShL
import Derived.BigRegion

/- Layer 11: constants are found. -/
namespace Go.Proofs.YthenefjoidckkaaGreatDoor
open Go.RowKit
set_option linter.unusedVariables false
set_option maxRecDepth 100000

set_option maxHeartbeats 800000 in
theorem w11findInt_any (C : Wcx) (x : Wst) (W : World) (k : WK C x W) (hP : Pok C) :
    Calls Tryz.prog 71 #[.pointer (some ⟨C.X, 0, none⟩)] W fun e w' => Dp C W (findIntD C.p.en C.p.A x) e w' := by
  have HC := hide (w11constant_any C x W k hP 3)
  have HD : Hid (findIntD C.p.en C.p.A x = if (constP C.p.en C.p.A).2 = 0 ∧ (constP C.p.en C.p.A).1.tag = 3 then some { x with ow := refT (constP C.p.en C.p.A).1.cls } else none) := rfl
  unfold con_post at HC
  generalize constP C.p.en C.p.A = E at *
  obtain ⟨⟨ct, cn, cc, cm, cy⟩, ee⟩ := E
  unfold cstV at HC
  simp only at HC HD
  have HBt : Hid (ee = 0 ∧ ct = 3 → (decide (ee = 0) && decide (ct = 3)) = true) := fun h => by rw [decide_eq_true h.1, decide_eq_true h.2]; rfl
  have HBf : Hid (¬ (ee = 0 ∧ ct = 3) → (decide (ee = 0) && decide (ct = 3)) = false) := fun h => by
    cases hh : (decide (ee = 0) && decide (ct = 3)) with
    | false => rfl
    | true => rw [Bool.and_eq_true, decide_eq_true_eq, decide_eq_true_eq] at hh; exact absurd hh h
  generalize (decide (ee = 0) && decide (ct = 3)) = B at *
  clear k
  go_enter Tryz.func71, Tryz.ntmps71
  go_wp2_with fail
  refine (unhide HC).mono ?_
  rintro e w1 ⟨rfl, k1, kp1⟩
  have f1 : Below w1.heap.size w1 (w1.alloc (.cells #[.int .i64 ct, .int .i64 cn, .string ⟨cc.toArray⟩, .string ⟨cm.toArray⟩, .string ⟨cy.toArray⟩] 120)) := bA (Below.refl _ _) _
  have H1 := hide (And.intro (k1.below f1) (kp1.trans (KeepsW.below f1)))
  clear k1 kp1 f1 HC
  go_wp2
  go_ret
  rw [unhide HD]
  by_cases h : ee = 0 ∧ ct = 3
  · rw [if_pos h]
    have e := unhide HBt h
    subst e
    exact ⟨rfl, (unhide H1).1, (unhide H1).2⟩
  · rw [if_neg h]
    have e := unhide HBf h
    subst e
    exact ⟨rfl, ⟨_, (unhide H1).1⟩, (unhide H1).2⟩
set_option maxHeartbeats 800000 in
theorem w11findLong_any (C : Wcx) (x : Wst) (W : World) (k : WK C x W) (hP : Pok C) :
    Calls Tryz.prog 72 #[.pointer (some ⟨C.X, 0, none⟩)] W fun e w' => Dp C W (findLongD C.p.en C.p.A x) e w' := by
  have HC := hide (w11constant_any C x W k hP 5)
  have HD : Hid (findLongD C.p.en C.p.A x = if (constP C.p.en C.p.A).2 = 0 ∧ (constP C.p.en C.p.A).1.tag = 5 then some { x with ow := refT (constP C.p.en C.p.A).1.cls } else none) := rfl
  unfold con_post at HC
  generalize constP C.p.en C.p.A = E at *
  obtain ⟨⟨ct, cn, cc, cm, cy⟩, ee⟩ := E
  unfold cstV at HC
  simp only at HC HD
  have HBt : Hid (ee = 0 ∧ ct = 5 → (decide (ee = 0) && decide (ct = 5)) = true) := fun h => by rw [decide_eq_true h.1, decide_eq_true h.2]; rfl
  have HBf : Hid (¬ (ee = 0 ∧ ct = 5) → (decide (ee = 0) && decide (ct = 5)) = false) := fun h => by
    cases hh : (decide (ee = 0) && decide (ct = 5)) with
    | false => rfl
    | true => rw [Bool.and_eq_true, decide_eq_true_eq, decide_eq_true_eq] at hh; exact absurd hh h
  generalize (decide (ee = 0) && decide (ct = 5)) = B at *
  clear k
  go_enter Tryz.func72, Tryz.ntmps72
  go_wp2_with fail
  refine (unhide HC).mono ?_
  rintro e w1 ⟨rfl, k1, kp1⟩
  have f1 : Below w1.heap.size w1 (w1.alloc (.cells #[.int .i64 ct, .int .i64 cn, .string ⟨cc.toArray⟩, .string ⟨cm.toArray⟩, .string ⟨cy.toArray⟩] 120)) := bA (Below.refl _ _) _
  have H1 := hide (And.intro (k1.below f1) (kp1.trans (KeepsW.below f1)))
  clear k1 kp1 f1 HC
  go_wp2
  go_ret
  rw [unhide HD]
  by_cases h : ee = 0 ∧ ct = 5
  · rw [if_pos h]
    have e := unhide HBt h
    subst e
    exact ⟨rfl, (unhide H1).1, (unhide H1).2⟩
  · rw [if_neg h]
    have e := unhide HBf h
    subst e
    exact ⟨rfl, ⟨_, (unhide H1).1⟩, (unhide H1).2⟩
set_option maxHeartbeats 1600000 in
theorem w11findField_any (C : Wcx) (x : Wst) (W : World) (k : WK C x W) (hP : Pok C) :
    Calls Tryz.prog 96 #[.pointer (some ⟨C.X, 0, none⟩)] W fun e w' => Dp C W (findFieldD C.p.en C.p.A x) e w' := by
  have HC := hide (w11constant_any C x W k hP 9)
  have HD : Hid (findFieldD C.p.en C.p.A x = if (constP C.p.en C.p.A).2 = 0 ∧ (constP C.p.en C.p.A).1.tag = 9 then (if (parP (constP C.p.en C.p.A).1.type).2 = 0 then some { x with ow := refT (constP C.p.en C.p.A).1.cls, to_ := (parP (constP C.p.en C.p.A).1.type).1 } else none) else none) := rfl
  obtain ⟨hcl, hty⟩ := const_len C.p.en C.p.A
  unfold con_post at HC
  generalize constP C.p.en C.p.A = E at *
  obtain ⟨⟨ct, cn, cc, cm, cy⟩, ee⟩ := E
  unfold cstV at HC
  simp only at HC HD hcl hty
  have HBt : Hid (ee = 0 ∧ ct = 9 → (decide (ee = 0) && decide (ct = 9)) = true) := fun h => by rw [decide_eq_true h.1, decide_eq_true h.2]; rfl
  have HBf : Hid (¬ (ee = 0 ∧ ct = 9) → (decide (ee = 0) && decide (ct = 9)) = false) := fun h => by
    cases hh : (decide (ee = 0) && decide (ct = 9)) with
    | false => rfl
    | true => rw [Bool.and_eq_true, decide_eq_true_eq, decide_eq_true_eq] at hh; exact absurd hh h
  generalize (decide (ee = 0) && decide (ct = 9)) = B at *
  have HPa : Hid (∀ W', Calls Tryz.prog 60 #[.string ⟨cy.toArray⟩] W' fun e w' => e = .returned (.tuple #[tyV (parP cy).1, .int .i64 (parP cy).2]) ∧ Below W'.heap.size W' w') := fun W' => yParse_any W' _ cy ⟨rfl⟩ (by omega)
  have hpl := par_len cy
  generalize parP cy = Pa at *
  obtain ⟨T, ep⟩ := Pa
  unfold tyV at HPa
  simp only at hpl HPa HD
  clear k
  go_enter Tryz.func96, Tryz.ntmps96
  go_wp2_with fail
  refine (unhide HC).mono ?_
  rintro e w1 ⟨rfl, k1, kp1⟩
  have f1 : Below w1.heap.size w1 (w1.alloc (.cells #[.int .i64 ct, .int .i64 cn, .string ⟨cc.toArray⟩, .string ⟨cm.toArray⟩, .string ⟨cy.toArray⟩] 120)) := bA (Below.refl _ _) _
  have H1 := hide (And.intro (k1.below f1) (kp1.trans (KeepsW.below f1)))
  have HPa1 := hide (unhide HPa (w1.alloc (.cells #[.int .i64 ct, .int .i64 cn, .string ⟨cc.toArray⟩, .string ⟨cm.toArray⟩, .string ⟨cy.toArray⟩] 120)))
  clear k1 kp1 f1 HC HPa
  go_wp2_with fail
  refine (unhide HPa1).mono ?_
  rintro e w2 ⟨rfl, f2⟩
  have f3 := f2.trans ((bA (Below.refl _ w2) (.cells #[.int .i64 T.kind, .string ⟨T.name.toArray⟩] 52)).mono f2.size)
  obtain ⟨k1, kp1⟩ := unhide H1
  have k2 := k1.below f3
  obtain ⟨_, _, _, _, d0, d1⟩ := k2.cel
  obtain ⟨tX, _⟩ := k2.thaw
  have nX : ¬ C.X = w2.heap.size := by have := k1.bel.2.2; have := f2.size; omega
  have H3 := hide (And.intro (k2.told T (by unfold nmOk; omega)) (((kp1.trans (KeepsW.below f3)).trans (KeepsW.setX C _ 15 (.int .i64 T.kind))).trans (KeepsW.setX C _ 16 (.string ⟨T.name.toArray⟩))))
  clear k1 kp1 k2 f2 f3 H1 HPa1
  by_cases h : ee = 0 ∧ ct = 9
  · have e := unhide HBt h
    subst e
    rw [if_pos h] at HD
    clear HBt HBf
    by_cases h0 : ep = 0
    · subst h0
      rw [if_pos rfl] at HD
      go_wp2
      go_ret
      rw [unhide HD]
      exact ⟨rfl, (unhide H3).1, (unhide H3).2⟩
    · have b0 : (ep == 0) = false := by simpa using h0
      rw [if_neg h0] at HD
      go_wp2
      go_ret
      rw [unhide HD]
      exact ⟨rfl, ⟨_, (unhide H3).1⟩, (unhide H3).2⟩
  · have e := unhide HBf h
    subst e
    rw [if_neg h] at HD
    clear HBt HBf
    go_wp2
    go_ret
    rw [unhide HD]
    exact ⟨rfl, ⟨_, (unhide H3).1⟩, (unhide H3).2⟩
set_option maxHeartbeats 1600000 in
theorem w11findClass_any (C : Wcx) (x : Wst) (W : World) (k : WK C x W) (hP : Pok C) :
    Calls Tryz.prog 103 #[.pointer (some ⟨C.X, 0, none⟩)] W fun e w' => Dp C W (findClassD C.p.en C.p.A x) e w' := by
  have HC := hide (w11constant_any C x W k hP 7)
  have HD : Hid (findClassD C.p.en C.p.A x = if (constP C.p.en C.p.A).2 = 0 ∧ (constP C.p.en C.p.A).1.tag = 7 then (if (prnP (refT (constP C.p.en C.p.A).1.cls)).2 = 0 then some { x with ow := refT (constP C.p.en C.p.A).1.cls, to_ := refT (constP C.p.en C.p.A).1.cls } else none) else none) := rfl
  obtain ⟨hcl, hty⟩ := const_len C.p.en C.p.A
  unfold con_post at HC
  generalize constP C.p.en C.p.A = E at *
  obtain ⟨⟨ct, cn, cc, cm, cy⟩, ee⟩ := E
  unfold cstV at HC
  simp only at HC HD hcl hty
  have HBt : Hid (ee = 0 ∧ ct = 7 → (decide (ee = 0) && decide (ct = 7)) = true) := fun h => by rw [decide_eq_true h.1, decide_eq_true h.2]; rfl
  have HBf : Hid (¬ (ee = 0 ∧ ct = 7) → (decide (ee = 0) && decide (ct = 7)) = false) := fun h => by
    cases hh : (decide (ee = 0) && decide (ct = 7)) with
    | false => rfl
    | true => rw [Bool.and_eq_true, decide_eq_true_eq, decide_eq_true_eq] at hh; exact absurd hh h
  generalize (decide (ee = 0) && decide (ct = 7)) = B at *
  have HPa : Hid (∀ W', Calls Tryz.prog 127 #[.agg #[.int .i64 4, .string ⟨cc.toArray⟩]] W' fun e w' => e = .returned (.tuple #[.string ⟨(prnP (refT cc)).1.toArray⟩, .int .i64 (prnP (refT cc)).2]) ∧ Below W'.heap.size W' w') := fun W' => yPrint_any W' 4 _ cc ⟨rfl⟩ (by omega)
  generalize prnP (refT cc) = Pa at *
  obtain ⟨ps, ep⟩ := Pa
  simp only at HPa HD
  clear k
  go_enter Tryz.func103, Tryz.ntmps103
  go_wp2_with fail
  refine (unhide HC).mono ?_
  rintro e w1 ⟨rfl, k1, kp1⟩
  have f1 : Below w1.heap.size w1 (w1.alloc (.cells #[.int .i64 ct, .int .i64 cn, .string ⟨cc.toArray⟩, .string ⟨cm.toArray⟩, .string ⟨cy.toArray⟩] 120)) := bA (Below.refl _ _) _
  have k1' := k1.below f1
  obtain ⟨_, _, o0, o1, _, _⟩ := k1'.cel
  unfold refT at o0 o1
  simp only at o0 o1
  have H1 := hide (And.intro k1' (kp1.trans (KeepsW.below f1)))
  have HPa1 := hide (unhide HPa (w1.alloc (.cells #[.int .i64 ct, .int .i64 cn, .string ⟨cc.toArray⟩, .string ⟨cm.toArray⟩, .string ⟨cy.toArray⟩] 120)))
  have nX1 : ¬ C.X = w1.heap.size := by have := k1.bel.2.2; omega
  clear k1 kp1 f1 HC HPa k1'
  go_wp2_with fail
  refine (unhide HPa1).mono ?_
  rintro e w2 ⟨rfl, f2⟩
  obtain ⟨k1, kp1⟩ := unhide H1
  have k2 := k1.below f2
  obtain ⟨_, _, o0', o1', d0, d1⟩ := k2.cel
  obtain ⟨tX, _⟩ := k2.thaw
  have H3 := hide (And.intro (k2.told (refT cc) (by unfold nmOk refT; simp only; omega)) (((kp1.trans (KeepsW.below f2)).trans (KeepsW.setX C _ 15 (.int .i64 4))).trans (KeepsW.setX C _ 16 (.string ⟨cc.toArray⟩))))
  unfold refT at o0' o1'
  simp only at o0' o1'
  clear k1 kp1 k2 f2 H1 HPa1
  by_cases h : ee = 0 ∧ ct = 7
  · have e := unhide HBt h
    subst e
    rw [if_pos h] at HD
    clear HBt HBf
    by_cases h0 : ep = 0
    · subst h0
      rw [if_pos rfl] at HD
      go_wp2
      go_ret
      rw [unhide HD]
      exact ⟨rfl, (unhide H3).1, (unhide H3).2⟩
    · have b0 : (ep == 0) = false := by simpa using h0
      rw [if_neg h0] at HD
      go_wp2
      go_ret
      rw [unhide HD]
      exact ⟨rfl, ⟨_, (unhide H3).1⟩, (unhide H3).2⟩
  · have e := unhide HBf h
    subst e
    rw [if_neg h] at HD
    clear HBt HBf
    go_wp2
    go_ret
    rw [unhide HD]
    exact ⟨rfl, ⟨_, (unhide H3).1⟩, (unhide H3).2⟩
end Go.Proofs.YthenefjoidckkaaGreatDoor

/- Layer 11: a method's constant is found. -/
namespace Go.Proofs.YthenefjoidckkaaGreatDoor
open Go.RowKit
set_option linter.unusedVariables false
set_option maxRecDepth 100000

theorem WK.args {C : Wcx} {x : Wst} {W : World} (k : WK C x W) {V : World} (kV : WK C x V) (f : Below V.heap.size V W) (a' : Sl) (u : List Ty) (o : Orw tyc 52 2 W V.heap.size a'.v u) (hu : ∀ t ∈ u, nmOk t) (t : Ty) (ht : nmOk t) :
    WK C { x with ar := u, to_ := t } (((W.setCell ⟨C.X, 14, none⟩ a'.v).setCell ⟨C.X, 15, none⟩ (.int .i64 t.kind)).setCell ⟨C.X, 16, none⟩ (.string ⟨t.name.toArray⟩)) := by
  obtain ⟨ok, l, s, h, a, k⟩ := kV
  have k2 := k.below f
  have dd : ∀ {v : Sl} {l : List Ty}, Orw tyc 52 2 V C.w0.heap.size v.v l → Dis v a' := fun {v l} o1 j h1 h2 => by
    have e1 := (o1.lt j h1).2
    have e2 := (o.lt j h2).1
    omega
  have k3 := k2.args a' u (o.base k.bel.size) ⟨dd k.os, dd k.ol, dd k.oh⟩
  exact ⟨⟨ok.st, ok.lo, ok.ha, ok.ow, hu, ht⟩, l, s, h, a', k3.told t⟩
set_option maxHeartbeats 2000000 in
theorem w11findMethod_any (C : Wcx) (x : Wst) (W : World) (k : WK C x W) (hP : Pok C) :
    Calls Tryz.prog 100 #[.pointer (some ⟨C.X, 0, none⟩)] W fun e w' => Dp C W (findMethodD C.p.en C.p.A x) e w' := by
  have HC := hide (w11constant_any C x W k hP 10)
  have HD : Hid (findMethodD C.p.en C.p.A x = if (constP C.p.en C.p.A).2 = 0 ∧ (constP C.p.en C.p.A).1.tag = 10 then (if (metD (constP C.p.en C.p.A).1.type).2.2 = 0 then some { x with ow := refT (constP C.p.en C.p.A).1.cls, ar := (metD (constP C.p.en C.p.A).1.type).1, to_ := (metD (constP C.p.en C.p.A).1.type).2.1 } else none) else none) := rfl
  obtain ⟨hcl, hty⟩ := const_len C.p.en C.p.A
  unfold con_post at HC
  generalize constP C.p.en C.p.A = E at *
  obtain ⟨⟨ct, cn, cc, cm, cy⟩, ee⟩ := E
  unfold cstV at HC
  simp only at HC HD hcl hty
  have HBt : Hid (ee = 0 ∧ ct = 10 → (decide (ee = 0) && decide (ct = 10)) = true) := fun h => by rw [decide_eq_true h.1, decide_eq_true h.2]; rfl
  have HBf : Hid (¬ (ee = 0 ∧ ct = 10) → (decide (ee = 0) && decide (ct = 10)) = false) := fun h => by
    cases hh : (decide (ee = 0) && decide (ct = 10)) with
    | false => rfl
    | true => rw [Bool.and_eq_true, decide_eq_true_eq, decide_eq_true_eq] at hh; exact absurd hh h
  generalize (decide (ee = 0) && decide (ct = 10)) = B at *
  have HPa : Hid (∀ W', Calls Tryz.prog 22 #[.string ⟨cy.toArray⟩] W' fun e w' => ∃ v, e = .returned (.tuple #[v, tyV (metD cy).2.1, .int .i64 (metD cy).2.2]) ∧ Orw tyc 52 2 w' W'.heap.size v (metD cy).1 ∧ Below W'.heap.size W' w') := fun W' => yMethod_any W' _ cy ⟨rfl⟩ (by omega) _ _ (args_of cy)
  have hml := met_len cy
  generalize metD cy = Pa at *
  obtain ⟨L, T, ep⟩ := Pa
  unfold tyV at HPa
  simp only at hml HPa HD
  clear k
  go_enter Tryz.func100, Tryz.ntmps100
  go_wp2_with fail
  refine (unhide HC).mono ?_
  rintro e w1 ⟨rfl, k1, kp1⟩
  have f1 : Below w1.heap.size w1 (w1.alloc (.cells #[.int .i64 ct, .int .i64 cn, .string ⟨cc.toArray⟩, .string ⟨cm.toArray⟩, .string ⟨cy.toArray⟩] 120)) := bA (Below.refl _ _) _
  have H1 := hide (And.intro (k1.below f1) (kp1.trans (KeepsW.below f1)))
  have HPa1 := hide (unhide HPa (w1.alloc (.cells #[.int .i64 ct, .int .i64 cn, .string ⟨cc.toArray⟩, .string ⟨cm.toArray⟩, .string ⟨cy.toArray⟩] 120)))
  clear k1 kp1 f1 HC HPa
  go_wp2_with fail
  refine (unhide HPa1).mono ?_
  rintro e w2 ⟨v, rfl, o2, f2⟩
  obtain ⟨va, vc, hv, _⟩ := o2.form
  subst hv
  have f23 : Below w2.heap.size w2 (w2.alloc (.cells #[.int .i64 T.kind, .string ⟨T.name.toArray⟩] 52)) := bA (Below.refl _ w2) _
  have f3 := f2.trans (f23.mono f2.size)
  obtain ⟨k1, kp1⟩ := unhide H1
  have k2 := k1.below f3
  have o3 := o2.below (w' := w2.alloc (.cells #[.int .i64 T.kind, .string ⟨T.name.toArray⟩] 52)) fun j hj => f23.block j (o2.lt j hj).2
  obtain ⟨_, _, _, _, d0, d1⟩ := k2.cel
  obtain ⟨tX, vX, d2⟩ := k2.thaw
  have nX : ¬ C.X = w2.heap.size := by have := k1.bel.2.2; have := f2.size; omega
  have nX' : ¬ w2.heap.size = C.X := fun e => nX e.symm
  have H3 := hide (And.intro (k2.args k1 f3 ⟨va, L.length, vc⟩ L o3 (fun t ht => by have := hml.1 t ht; unfold nmOk; omega) T (by have := hml.2.1; unfold nmOk; omega)) ((((kp1.trans (KeepsW.below f3)).trans (KeepsW.setX C _ 14 (.slice va L.length vc))).trans (KeepsW.setX C _ 15 (.int .i64 T.kind))).trans (KeepsW.setX C _ 16 (.string ⟨T.name.toArray⟩))))
  unfold Sl.v at H3
  simp only at H3
  clear k1 kp1 k2 f2 f3 f23 o2 o3 H1 HPa1
  go_wp2
  go_region
  have H4 := hide (And.intro ((unhide H3).1.below (Below.refl _ _).drew) ((unhide H3).2.trans (KeepsW.below (Below.refl _ _).drew)))
  clear H3
  generalize ((((w2.alloc (.cells #[.int .i64 T.kind, .string ⟨T.name.toArray⟩] 52)).setCell ⟨C.X, 14, none⟩ (.slice va L.length vc)).setCell ⟨C.X, 15, none⟩ (.int .i64 T.kind)).setCell ⟨C.X, 16, none⟩ (.string ⟨T.name.toArray⟩)).drew = w5 at *
  have H3 := H4
  clear d0 d1 d2 tX H4
  by_cases h : ee = 0 ∧ ct = 10
  · have e := unhide HBt h
    subst e
    rw [if_pos h] at HD
    clear HBt HBf
    by_cases h0 : ep = 0
    · subst h0
      rw [if_pos rfl] at HD
      go_wp2
      go_ret
      rw [unhide HD]
      exact ⟨rfl, (unhide H3).1, (unhide H3).2⟩
    · have b0 : (ep == 0) = false := by simpa using h0
      rw [if_neg h0] at HD
      go_wp2
      go_ret
      rw [unhide HD]
      exact ⟨rfl, ⟨_, (unhide H3).1⟩, (unhide H3).2⟩
  · have e := unhide HBf h
    subst e
    rw [if_neg h] at HD
    clear HBt HBf
    go_wp2
    go_ret
    rw [unhide HD]
    exact ⟨rfl, ⟨_, (unhide H3).1⟩, (unhide H3).2⟩
end Go.Proofs.YthenefjoidckkaaGreatDoor
