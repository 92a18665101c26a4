/- The landed class: isMethod, isField, isRight. -/
import Derived.Test.YthhdfokcciibmaaGreatDoorJCkE

namespace Go.Proofs.YthhdfokcciibmaaGreatDoor
open Go.RowKit
set_option linter.unusedVariables false
set_option maxRecDepth 100000

theorem acc_small : ∀ n : Fin 41, bits .andNot .i64 ((n.val : Nat) : Int) 40 = 0 → accB ((n.val : Nat) : Int) = true := by decide +kernel
theorem acc_bits {n : Int} (h : fitI n) : (bits .andNot .i64 n 40 == 0) = accB n := by
  unfold fitI at h
  rw [Bool.eq_iff_iff, beq_iff_eq]
  constructor
  · intro hb
    have hz : BitVec.ofInt 64 n &&& ~~~ BitVec.ofInt 64 40 = 0#64 := by
      have h1 : IntKind.i64.wrap ((BitVec.ofInt 64 n &&& ~~~ BitVec.ofInt 64 40).toNat : Int) = 0 := hb
      rw [IntKind.wrap_i64] at h1
      have h2 := (BitVec.ofInt 64 n &&& ~~~ BitVec.ofInt 64 40).isLt
      apply BitVec.eq_of_toNat_eq
      simp only [BitVec.toNat_ofNat]
      omega
    have hle : BitVec.ofInt 64 n = BitVec.ofInt 64 n &&& BitVec.ofInt 64 40 := by
      apply BitVec.eq_of_getLsbD_eq
      intro i hi
      have h3 := congrArg (fun b => b.getLsbD i) hz
      simp only [BitVec.getLsbD_and, BitVec.getLsbD_not, BitVec.getLsbD_zero, hi, decide_true, Bool.true_and] at h3 ⊢
      cases h4 : (BitVec.ofInt 64 n).getLsbD i <;> cases h5 : (BitVec.ofInt 64 40).getLsbD i <;> simp_all
    have h40 : (BitVec.ofInt 64 n).toNat ≤ 40 := by
      rw [hle, BitVec.toNat_and]
      exact Nat.le_trans Nat.and_le_right (by decide)
    rw [BitVec.toNat_ofInt] at h40
    obtain ⟨m, rfl⟩ : ∃ m : Nat, n = m := ⟨n.toNat, by omega⟩
    exact acc_small ⟨m, by omega⟩ hb
  · intro ha
    unfold accB at ha
    simp only [decide_eq_true_eq] at ha
    rcases ha with rfl | rfl | rfl | rfl <;> decide +kernel
set_option maxHeartbeats 3200000 in
theorem nField_any (w : World) (g mt mc : Nat) (p : Sl) (l : List Ent) (h : Nm w g mt mc p l) (x : Fd) (hx : FdFit x) :
    Calls Tryz.prog 53 #[.pointer (some ⟨g, 0, none⟩), .agg #[.int .i64 x.acc, .string ⟨x.name.toArray⟩, .string ⟨x.type.toArray⟩]] w fun e w' => e = .returned (.bool (rightF l x)) ∧ Below w.heap.size w w' := by
  obtain ⟨acc, nm, ty⟩ := x
  obtain ⟨h1, h2, h3⟩ := hx
  simp only at h1 h2 h3 ⊢
  obtain ⟨w0, e0, f0, K0⟩ := one_local w #[.int .i64 acc, .string ⟨nm.toArray⟩, .string ⟨ty.toArray⟩] 58
  have q0 := K0 w0 (Below.refl _ _) 0 _ rfl
  have q1 := K0 w0 (Below.refl _ _) 1 _ rfl
  have q2 := K0 w0 (Below.refl _ _) 2 _ rfl
  have b1 : Below w0.heap.size w0 (w0.alloc (.cells #[.string ⟨nm.toArray⟩, .string ⟨ty.toArray⟩] 9)) := (Below.refl _ _).alloc (Nat.le_refl _) _
  have HX := nHasTexts_any (w0.alloc (.cells #[.string ⟨nm.toArray⟩, .string ⟨ty.toArray⟩] 9)) g mt mc p l ((h.below f0).below b1) w0.heap.size 2 2 [nm, ty] rfl (by omega) (strs_at w0 [nm, ty] _ rfl) (fun s hs => by simp at hs; rcases hs with rfl | rfl <;> assumption)
  obtain ⟨T, hT⟩ : ∃ T, T = rightF l ⟨acc, nm, ty⟩ := ⟨_, rfl⟩
  rw [← hT]
  rw [rightF_is] at hT
  simp only at hT
  generalize textsB l [nm, ty] = b_x at *
  have E0 := hide e0
  have F0 := hide f0
  have FB := hide (f0.trans (b1.mono f0.size))
  have HX1 := hide HX
  have HTT := hide hT
  unfold fitI at h1
  clear h h2 h3 K0 e0 f0 b1 HX hT
  generalize (⟨nm.toArray⟩ : ByteArray) = s1 at *
  generalize (⟨ty.toArray⟩ : ByteArray) = s2 at *
  have e0 := unhide E0
  by_cases ha : acc = 0
  · subst ha
    obtain rfl : T = b_x := by rw [unhide HTT]; rfl
    go_enter Tryz.func53, Tryz.ntmps53
    go_wp2_with fail
    refine (unhide HX1).mono ?_
    rintro e w1 ⟨rfl, e1⟩
    have F1 : Hid (Below w.heap.size w w1) := by rw [e1]; exact unhide FB
    clear e0 e1
    go_wp2
    go_ret
    exact ⟨rfl, unhide F1⟩
  · have hab : (acc == 0) = false := by simpa using ha
    by_cases ha8 : acc = 8
    · subst ha8
      obtain rfl : T = b_x := by rw [unhide HTT]; rfl
      go_enter Tryz.func53, Tryz.ntmps53
      go_wp2_with fail
      refine (unhide HX1).mono ?_
      rintro e w1 ⟨rfl, e1⟩
      have F1 : Hid (Below w.heap.size w w1) := by rw [e1]; exact unhide FB
      clear e0 e1
      go_wp2
      go_ret
      exact ⟨rfl, unhide F1⟩
    · have ha8b : (acc == 8) = false := by simpa using ha8
      obtain rfl : T = false := by rw [unhide HTT]; simp [ha, ha8]
      go_enter Tryz.func53, Tryz.ntmps53
      go_wp2
      go_ret
      exact ⟨rfl, unhide F0⟩
set_option maxHeartbeats 3200000 in
theorem nMethod_any (w : World) (g mt mc : Nat) (p : Sl) (l : List Ent) (h : Nm w g mt mc p l) (r : MdR) (hr : MdIn w r) :
    Calls Tryz.prog 55 #[.pointer (some ⟨g, 0, none⟩), .agg #[.int .i64 r.m.acc, .string ⟨r.m.name.toArray⟩, .string ⟨r.m.type.toArray⟩, .int .i64 r.m.code.stack, .int .i64 r.m.code.locals, r.bs.v, r.hs.v, r.maps.v]] w fun e w' => e = .returned (.bool (rightMd l r.m)) ∧ Below w.heap.size w w' := by
  have hCd := fun (W : World) (f : Below w.heap.size w W) => nCode_any W g mt mc p l (h.below f) r (hr.below f)
  obtain ⟨⟨acc, nm, ty, cd⟩, ⟨ba, bn, bc⟩, ⟨ha, hn, hc⟩, ⟨ma, mn, mcc⟩, mr⟩ := r
  have h1 := hr.acc
  have h2 := hr.name
  have h3 := hr.type
  unfold cdv Sl.v at *
  simp only at h1 h2 h3 hCd ⊢
  obtain ⟨w0, e0, f0, K0⟩ := one_local w #[.int .i64 acc, .string ⟨nm.toArray⟩, .string ⟨ty.toArray⟩, .int .i64 cd.stack, .int .i64 cd.locals, .slice ba bn bc, .slice ha hn hc, .slice ma mn mcc] 49
  have q0 := K0 w0 (Below.refl _ _) 0 _ rfl
  have q1 := K0 w0 (Below.refl _ _) 1 _ rfl
  have q2 := K0 w0 (Below.refl _ _) 2 _ rfl
  have b1 : Below w0.heap.size w0 (w0.alloc (.cells #[.string ⟨nm.toArray⟩, .string ⟨ty.toArray⟩, .string ⟨#[67, 111, 100, 101]⟩] 9)) := (Below.refl _ _).alloc (Nat.le_refl _) _
  have r3 := K0 _ b1 3 _ rfl
  have r4 := K0 _ b1 4 _ rfl
  have r5 := K0 _ b1 5 _ rfl
  have r6 := K0 _ b1 6 _ rfl
  have r7 := K0 _ b1 7 _ rfl
  have HX := nHasTexts_any (w0.alloc (.cells #[.string ⟨nm.toArray⟩, .string ⟨ty.toArray⟩, .string ⟨#[67, 111, 100, 101]⟩] 9)) g mt mc p l ((h.below f0).below b1) w0.heap.size 3 3 [nm, ty, sCode] rfl (by omega) (strs_at w0 [nm, ty, sCode] _ rfl) (fun s hs => by
    simp at hs
    rcases hs with rfl | rfl | rfl
    · exact h2
    · exact h3
    · unfold fitS; decide)
  obtain ⟨T, hT⟩ : ∃ T, T = rightMd l ⟨acc, nm, ty, cd⟩ := ⟨_, rfl⟩
  rw [← hT]
  rw [rightMd_is] at hT
  simp only at hT
  generalize textsB l [nm, ty, sCode] = b_x at *
  have FB := f0.trans (b1.mono f0.size)
  have HCc := hide (hCd _ FB)
  generalize codeOk l cd = b_c at *
  have E0 := hide e0
  have F0 := hide f0
  have FB1 := hide FB
  have HX1 := hide HX
  have HTT := hide hT
  unfold fitI at h1
  clear h hr h2 h3 K0 e0 f0 b1 HX hT hCd FB
  generalize (⟨nm.toArray⟩ : ByteArray) = s1 at *
  generalize (⟨ty.toArray⟩ : ByteArray) = s2 at *
  generalize cd.stack = k1 at *
  generalize cd.locals = k2 at *
  have e0 := unhide E0
  have hab := acc_bits h1
  cases hb : accB acc
  · obtain rfl : T = false := by rw [unhide HTT, hb]; rfl
    rw [hb] at hab
    have hne : ¬ bits .andNot .i64 acc 40 = 0 := by simpa using hab
    clear hb HTT
    go_enter Tryz.func55, Tryz.ntmps55
    go_wp2
    go_ret
    exact ⟨rfl, unhide F0⟩
  · have HT2 : Hid (T = (b_x && b_c)) := by show T = _; rw [unhide HTT, hb]; rfl
    rw [hb] at hab
    have heq : bits .andNot .i64 acc 40 = 0 := by simpa using hab
    clear hb HTT hab
    go_enter Tryz.func55, Tryz.ntmps55
    go_wp2_with fail
    refine (unhide HX1).mono ?_
    rintro e w1 ⟨rfl, e1⟩
    clear e0
    rw [← e1] at r3 r4 r5 r6 r7 HCc FB1
    clear e1 HX1
    cases b_x
    · obtain rfl : T = false := by rw [unhide HT2]; rfl
      go_wp2
      go_ret
      exact ⟨rfl, unhide FB1⟩
    · obtain rfl : T = b_c := by rw [unhide HT2]; rfl
      go_wp2_with fail
      refine (unhide HCc).mono ?_
      rintro e w2 ⟨rfl, f2⟩
      have F2 := hide ((unhide FB1).trans (f2.mono (unhide FB1).size))
      clear f2 HCc
      go_wp2
      go_ret
      exact ⟨rfl, unhide F2⟩
set_option maxHeartbeats 3200000 in
theorem arF_any (w : World) (g mt mc : Nat) (p : Sl) (l : List Ent) (h : Nm w g mt mc p l) (s : Sl) (xs : List Fd) (hA : LIn 3 40 fdc FdFit w s xs) (most : Nat) (hm : most ≤ 1000) :
    Calls Tryz.prog 52 #[s.v, .int .i64 (most : Int), .func (.func 53) #[.pointer (some ⟨g, 0, none⟩)] #[]] w fun e w' => e = .returned (.bool (areB (rightF l) most xs)) ∧ Below w.heap.size w w' := by
  obtain ⟨a, n, c⟩ := s
  have hs := hA.small
  have hln := hA.ls.1
  simp only at hln hs
  unfold Sl.v
  simp only
  have HA := hide hA.ls
  have HF := hide hA.each
  have HN := hide h
  obtain ⟨T, hT⟩ : ∃ T, T = areB (rightF l) most xs := ⟨_, rfl⟩
  rw [← hT]
  have HTT : Hid (T = (decide (n ≤ most) && xs.all (fun x => rightF l x))) := hT.trans (by unfold areB; rw [hln])
  clear hA hT h
  by_cases hmo : n ≤ most
  case neg =>
    have hT : T = false := by rw [unhide HTT]; simp [hmo]
    subst hT
    clear HTT
    have hmo1 : (most : Int) < (n : Int) := by omega
    go_enter Tryz.func52, Tryz.ntmps52
    go_wp2
    go_ret
    exact ⟨rfl, Below.refl _ _⟩
  have hmo1 : ¬ (most : Int) < (n : Int) := by omega
  go_enter Tryz.func52, Tryz.ntmps52
  go_wp2
  go_loopw [15] (fun i wr => ∃ k : Nat, k ≤ n ∧ i = .int .i64 k ∧ Below w.heap.size w wr ∧ (xs.take k).all (fun x => rightF l x) = true) (fun i _ => n - (intOf i).toNat)
  case atStart => exact ⟨0, by omega, rfl, Below.refl _ _, rfl⟩
  case round =>
    obtain ⟨k, hk, rfl, hR, hgo⟩ := hrel
    by_cases hlt : k < n
    · have hlt1 : (k : Int) < (n : Int) := by omega
      have hk0 : (0 : Int) ≤ (k : Int) := by omega
      obtain ⟨b1, o1, h1a, h1⟩ := Ls.row (unhide HA) (w' := w) (by show n ≠ 0; omega)
      subst h1a
      obtain ⟨x, hx1⟩ : ∃ x, xs[k]? = some x := ⟨_, List.getElem?_eq_getElem (by omega)⟩
      have q := h1 hR k x hx1
      have hx := unhide HF x (List.mem_of_getElem? hx1)
      have hstep : (xs.take (k + 1)).all (fun x => rightF l x) = (rightF l x) := by
        rw [List.take_add_one, hx1, List.all_append, hgo]
        simp
      have hbad : (rightF l x) = false → T = false := fun e => by
        rw [unhide HTT]
        have : xs.all (fun x => rightF l x) = false := List.all_eq_false.2 ⟨x, List.mem_of_getElem? hx1, by simp [e]⟩
        rw [this, Bool.and_false]
      have c0 := q.zero
      have c1 := q 1 _ rfl
      have c2 := q 2 _ rfl
      have f0 := (Below.refl wr.heap.size wr).alloc (Nat.le_refl _) (.cells #[.int .i64 x.acc, .string ⟨x.name.toArray⟩, .string ⟨x.type.toArray⟩] 58)
      have FB := hR.trans (f0.mono hR.size)
      have HP := hide (nField_any (wr.alloc (.cells #[.int .i64 x.acc, .string ⟨x.name.toArray⟩, .string ⟨x.type.toArray⟩] 58)) g mt mc p l ((unhide HN).below FB) _ hx)
      have HB := hide FB
      have HST := hide hstep
      have HBD := hide hbad
      clear q h1 hx1 hR f0 FB hx hstep hbad hgo
      try simp only [Sl.v] at HP HST HBD
      generalize rightF l x = bb at *
      generalize (⟨x.name.toArray⟩ : ByteArray) = s1 at *
      generalize (⟨x.type.toArray⟩ : ByteArray) = s2 at *
      go_wp2_with fail
      refine (unhide HP).mono ?_
      rintro e w4 ⟨rfl, f4⟩
      have F4 := hide ((unhide HB).trans (f4.mono (unhide HB).size))
      clear HP f4 HB
      cases bb
      · have hT : T = false := unhide HBD (by first | rfl | trivial)
        subst hT
        go_wp2
        go_ret
        exact ⟨rfl, unhide F4⟩
      · go_wp2
        go_roundw
        case rel => exact ⟨k + 1, by omega, by go_num, unhide F4, unhide HST⟩
        case measure => simp [intOf]; omega
    · obtain rfl : k = n := by omega
      have hT : T = true := by
        rw [unhide HTT, decide_eq_true hmo, Bool.true_and, ← hgo, List.take_of_length_le (by omega)]
      subst hT
      have HR := hide hR
      clear hR HTT hgo
      go_wp2
      go_ret
      exact ⟨rfl, unhide HR⟩

set_option maxHeartbeats 3200000 in
theorem arM_any (w : World) (g mt mc : Nat) (p : Sl) (l : List Ent) (h : Nm w g mt mc p l) (s : Sl) (xs : List MdR) (hA : LIn 8 128 mdc (MdIn w) w s xs) (most : Nat) (hm : most ≤ 1000) :
    Calls Tryz.prog 54 #[s.v, .int .i64 (most : Int), .func (.func 55) #[.pointer (some ⟨g, 0, none⟩)] #[]] w fun e w' => e = .returned (.bool (areB (rightMd l) most (xs.map MdR.m))) ∧ Below w.heap.size w w' := by
  obtain ⟨a, n, c⟩ := s
  have hs := hA.small
  have hln := hA.ls.1
  simp only at hln hs
  unfold Sl.v
  simp only
  have HA := hide hA.ls
  have HF := hide hA.each
  have HN := hide h
  obtain ⟨T, hT⟩ : ∃ T, T = areB (rightMd l) most (xs.map MdR.m) := ⟨_, rfl⟩
  rw [← hT]
  have HTT : Hid (T = (decide (n ≤ most) && xs.all (fun x => rightMd l x.m))) := hT.trans (by unfold areB; simp only [List.length_map, List.all_map, Function.comp_def]; rw [hln])
  clear hA hT h
  by_cases hmo : n ≤ most
  case neg =>
    have hT : T = false := by rw [unhide HTT]; simp [hmo]
    subst hT
    clear HTT
    have hmo1 : (most : Int) < (n : Int) := by omega
    go_enter Tryz.func54, Tryz.ntmps54
    go_wp2
    go_ret
    exact ⟨rfl, Below.refl _ _⟩
  have hmo1 : ¬ (most : Int) < (n : Int) := by omega
  go_enter Tryz.func54, Tryz.ntmps54
  go_wp2
  go_loopw [15] (fun i wr => ∃ k : Nat, k ≤ n ∧ i = .int .i64 k ∧ Below w.heap.size w wr ∧ (xs.take k).all (fun x => rightMd l x.m) = true) (fun i _ => n - (intOf i).toNat)
  case atStart => exact ⟨0, by omega, rfl, Below.refl _ _, rfl⟩
  case round =>
    obtain ⟨k, hk, rfl, hR, hgo⟩ := hrel
    by_cases hlt : k < n
    · have hlt1 : (k : Int) < (n : Int) := by omega
      have hk0 : (0 : Int) ≤ (k : Int) := by omega
      obtain ⟨b1, o1, h1a, h1⟩ := Ls.row (unhide HA) (w' := w) (by show n ≠ 0; omega)
      subst h1a
      obtain ⟨x, hx1⟩ : ∃ x, xs[k]? = some x := ⟨_, List.getElem?_eq_getElem (by omega)⟩
      have q := h1 hR k x hx1
      have hx := unhide HF x (List.mem_of_getElem? hx1)
      have hstep : (xs.take (k + 1)).all (fun x => rightMd l x.m) = (rightMd l x.m) := by
        rw [List.take_add_one, hx1, List.all_append, hgo]
        simp
      have hbad : (rightMd l x.m) = false → T = false := fun e => by
        rw [unhide HTT]
        have : xs.all (fun x => rightMd l x.m) = false := List.all_eq_false.2 ⟨x, List.mem_of_getElem? hx1, by simp [e]⟩
        rw [this, Bool.and_false]
      obtain ⟨xm, ⟨ba, bn, bc⟩, ⟨ha, hn, hc⟩, ⟨ma, mn, mcc⟩, xr⟩ := x
      have c0 := q.zero
      have c1 := q 1 _ rfl
      have c2 := q 2 _ rfl
      have c3 := q 3 _ rfl
      have c4 := q 4 _ rfl
      have c5 := q 5 _ rfl
      have c6 := q 6 _ rfl
      have c7 := q 7 _ rfl
      simp only [Sl.v] at c0 c1 c2 c3 c4 c5 c6 c7
      have f0 := (Below.refl wr.heap.size wr).alloc (Nat.le_refl _) (.cells #[.int .i64 xm.acc, .string ⟨xm.name.toArray⟩, .string ⟨xm.type.toArray⟩, .int .i64 xm.code.stack, .int .i64 xm.code.locals, .slice ba bn bc, .slice ha hn hc, .slice ma mn mcc] 49)
      have FB := hR.trans (f0.mono hR.size)
      have HP := hide (nMethod_any (wr.alloc (.cells #[.int .i64 xm.acc, .string ⟨xm.name.toArray⟩, .string ⟨xm.type.toArray⟩, .int .i64 xm.code.stack, .int .i64 xm.code.locals, .slice ba bn bc, .slice ha hn hc, .slice ma mn mcc] 49)) g mt mc p l ((unhide HN).below FB) _ (hx.below FB))
      have HB := hide FB
      have HST := hide hstep
      have HBD := hide hbad
      clear q h1 hx1 hR f0 FB hx hstep hbad hgo
      try simp only [Sl.v] at HP HST HBD
      generalize rightMd l xm = bb at *
      generalize (⟨xm.name.toArray⟩ : ByteArray) = s1 at *
      generalize (⟨xm.type.toArray⟩ : ByteArray) = s2 at *
      go_wp2_with fail
      refine (unhide HP).mono ?_
      rintro e w4 ⟨rfl, f4⟩
      have F4 := hide ((unhide HB).trans (f4.mono (unhide HB).size))
      clear HP f4 HB
      cases bb
      · have hT : T = false := unhide HBD (by first | rfl | trivial)
        subst hT
        go_wp2
        go_ret
        exact ⟨rfl, unhide F4⟩
      · go_wp2
        go_roundw
        case rel => exact ⟨k + 1, by omega, by go_num, unhide F4, unhide HST⟩
        case measure => simp [intOf]; omega
    · obtain rfl : k = n := by omega
      have hT : T = true := by
        rw [unhide HTT, decide_eq_true hmo, Bool.true_and, ← hgo, List.take_of_length_le (by omega)]
      subst hT
      have HR := hide hR
      clear hR HTT hgo
      go_wp2
      go_ret
      exact ⟨rfl, unhide HR⟩

set_option maxHeartbeats 6400000 in
theorem cisRight_any (w : World) (r : ClR) (hC : CIn w r) :
    Calls Tryz.prog 23 #[r.v] w fun e w' => e = .returned (.bool (rightK r.c)) ∧ Below w.heap.size w w' := by
  obtain ⟨⟨pl, nm, sp, fl, ml⟩, ⟨pa, pn, pc⟩, ⟨fa, fn, fc⟩, ⟨ma, mn, mcc⟩, mr⟩ := r
  obtain ⟨h1, h2, h3, h4, h5, h6⟩ := hC
  simp only at h1 h2 h3 h4 h5 h6
  unfold ClR.v Sl.v
  simp only
  obtain ⟨w0, e0, f0, K0⟩ := one_local w #[.slice pa pn pc, .string ⟨nm.toArray⟩, .string ⟨sp.toArray⟩, .slice fa fn fc, .slice ma mn mcc] 26
  have KC : Hid (∀ W, Below w0.heap.size w0 W → W.cell? ⟨w.heap.size, 0, none⟩ = some (.slice pa pn pc) ∧ W.cell? ⟨w.heap.size, 1, none⟩ = some (.string ⟨nm.toArray⟩) ∧ W.cell? ⟨w.heap.size, 2, none⟩ = some (.string ⟨sp.toArray⟩) ∧ W.cell? ⟨w.heap.size, 3, none⟩ = some (.slice fa fn fc) ∧ W.cell? ⟨w.heap.size, 4, none⟩ = some (.slice ma mn mcc)) := fun W f => ⟨K0 W f 0 _ rfl, K0 W f 1 _ rfl, K0 W f 2 _ rfl, K0 W f 3 _ rfl, K0 W f 4 _ rfl⟩
  obtain ⟨T, hT⟩ : ∃ T, T = rightK ⟨pl, nm, sp, fl, ml⟩ := ⟨_, rfl⟩
  rw [← hT]
  rw [rightK_is] at hT
  simp only at hT
  have HCk := kCheck_any w0 pa pn pc pl (h1.arg.es.below f0) (by have := h1.small; omega) h1.fit
  obtain ⟨q0, q1, q2, q3, q4⟩ := unhide KC w0 (Below.refl _ _)
  cases hck : checkP pl
  · obtain rfl : T = false := by rw [hT, hck]; rfl
    rw [hck] at HCk
    simp only [Bool.false_eq_true, if_false] at HCk
    have HCk1 := hide HCk
    have F0 := hide f0
    have E0 := hide e0
    clear h1 h2 h3 h4 h5 h6 hT f0 K0 HCk hck e0
    generalize (⟨nm.toArray⟩ : ByteArray) = s1 at *
    generalize (⟨sp.toArray⟩ : ByteArray) = s2 at *
    have e0 := unhide E0
    go_enter Tryz.func23, Tryz.ntmps23
    go_wp2_with fail
    refine (unhide HCk1).mono ?_
    rintro e w1 ⟨rfl, f1⟩
    have F1 := hide ((unhide F0).trans (f1.mono (unhide F0).size))
    clear f1 e0
    go_wp2
    go_ret
    exact ⟨rfl, unhide F1⟩
  rw [hck] at HCk hT
  simp only [if_true] at HCk
  have HNm : ∀ W, Below w0.heap.size w0 W → Calls Tryz.prog 50 #[.slice pa pn pc] W fun e w' => ∃ g mt mc, e = .returned (.pointer (some ⟨g, 0, none⟩)) ∧ Nm w' g mt mc ⟨pa, pn, pc⟩ pl ∧ (W.heap.size ≤ g ∧ W.heap.size ≤ mt ∧ W.heap.size ≤ mc) ∧ Below W.heap.size W w' := fun W f => nOf_any W ⟨pa, pn, pc⟩ pl (h1.below (f0.trans (f.mono f0.size))) hck
  have HFl : ∀ W g mt mc, Below w0.heap.size w0 W → Nm W g mt mc ⟨pa, pn, pc⟩ pl → Calls Tryz.prog 52 #[.slice fa fn fc, .int .i64 256, .func (.func 53) #[.pointer (some ⟨g, 0, none⟩)] #[]] W fun e w' => e = .returned (.bool (areB (rightF pl) 256 fl)) ∧ Below W.heap.size W w' := fun W g mt mc f hn => arF_any W g mt mc _ pl hn ⟨fa, fn, fc⟩ fl (h4.mono (f0.trans (f.mono f0.size)) (fun _ h => h)) 256 (by omega)
  have HMl : ∀ W g mt mc, Below w0.heap.size w0 W → Nm W g mt mc ⟨pa, pn, pc⟩ pl → Calls Tryz.prog 54 #[.slice ma mn mcc, .int .i64 256, .func (.func 55) #[.pointer (some ⟨g, 0, none⟩)] #[]] W fun e w' => e = .returned (.bool (areB (rightMd pl) 256 ml)) ∧ Below W.heap.size W w' := fun W g mt mc f hn => by
    have h7 := arM_any W g mt mc _ pl hn ⟨ma, mn, mcc⟩ mr (h5.mono (f0.trans (f.mono f0.size)) (fun _ h => h.below (f0.trans (f.mono f0.size)))) 256 (by omega)
    rw [← h6] at h7
    exact h7
  have HHn : ∀ W g mt mc, Nm W g mt mc ⟨pa, pn, pc⟩ pl → Calls Tryz.prog 51 #[.pointer (some ⟨g, 0, none⟩), .string ⟨nm.toArray⟩] W fun e w' => e = .returned (.bool (decide (clsN pl nm ≠ 0))) ∧ w' = W := fun W g mt mc hn => nHasClass_any W g mt mc _ pl hn nm h2
  have HHs : ∀ W g mt mc, Nm W g mt mc ⟨pa, pn, pc⟩ pl → Calls Tryz.prog 51 #[.pointer (some ⟨g, 0, none⟩), .string ⟨sp.toArray⟩] W fun e w' => e = .returned (.bool (decide (clsN pl sp ≠ 0))) ∧ w' = W := fun W g mt mc hn => nHasClass_any W g mt mc _ pl hn sp h3
  obtain ⟨zs, hzs⟩ : ∃ zs : ByteArray, zs = ⟨sp.toArray⟩ := ⟨_, rfl⟩
  have i1 : zs = ⟨#[]⟩ ↔ sp = [] := by rw [hzs]; simp
  have i2 : zs.toList = [] ↔ sp = [] := by rw [hzs]; simp
  rw [← hzs] at KC HHs q2 e0 ⊢
  generalize (⟨nm.toArray⟩ : ByteArray) = s1 at *
  generalize decide (clsN pl nm ≠ 0) = b_n at *
  generalize decide (clsN pl sp ≠ 0) = b_s at *
  generalize areB (rightF pl) 256 fl = b_f at *
  generalize areB (rightMd pl) 256 ml = b_m at *
  have HCk1 := hide HCk
  have HN1 := hide HNm
  have HF1 := hide HFl
  have HM1 := hide HMl
  have HHn1 := hide HHn
  have HHs1 := hide HHs
  have HTT := hide hT
  have F0 := hide f0
  have E0 := hide e0
  have I1 := hide i1
  have I2 := hide i2
  clear h1 h2 h3 h4 h5 h6 hT f0 K0 HCk hck e0 HNm HFl HMl HHn HHs hzs i1 i2
  have e0 := unhide E0
  go_enter Tryz.func23, Tryz.ntmps23
  go_wp2_with fail
  refine (unhide HCk1).mono ?_
  rintro e w1 ⟨rfl, f1⟩
  have F1 := hide f1
  obtain ⟨c0, c1, c2, c3, c4⟩ := unhide KC _ f1
  have HNc := hide (unhide HN1 _ f1)
  clear f1 e0 HCk1 q0 q1 q2 q3 q4 HN1
  go_wp2_with fail
  refine (unhide HNc).mono ?_
  rintro e w2 ⟨g, mt, mc, rfl, hn, _, f2⟩
  have F2 := hide ((unhide F1).trans (f2.mono (unhide F1).size))
  have FF2 := hide ((unhide F0).trans ((unhide F2).mono (unhide F0).size))
  obtain ⟨d0, d1, d2, d3, d4⟩ := unhide KC _ (unhide F2)
  have HHnc := hide (unhide HHn1 _ _ _ _ hn)
  have HHsc := hide (unhide HHs1 _ _ _ _ hn)
  have HN2 := hide hn
  clear f2 HNc c0 c1 c2 c3 c4 hn HHn1 HHs1
  go_wp2_with fail
  refine (unhide HHnc).mono ?_
  rintro e w3 ⟨rfl, e3⟩
  have e3' := e3.symm
  clear e3 HHnc
  subst e3'
  cases b_n
  · obtain rfl : T = false := by rw [unhide HTT]; rfl
    go_wp2
    go_ret
    exact ⟨rfl, unhide FF2⟩
  have key : Hid (∀ sb, (sb = true → T = (b_f && b_m)) → True) := fun _ _ => trivial
  clear key
  by_cases hsp : sp = []
  · have hz1 := (unhide I1).2 hsp
    have HT2 : Hid (T = (b_f && b_m)) := by show T = _; rw [unhide HTT, decide_eq_true hsp]; rfl
    subst hz1
    clear I1 I2 HTT hsp
    have HFc := hide (unhide HF1 _ _ _ _ (unhide F2) (unhide HN2))
    go_wp2_with fail
    refine (unhide HFc).mono ?_
    rintro e w4 ⟨rfl, f4⟩
    have F4 := hide ((unhide F2).trans (f4.mono (unhide F2).size))
    have FF4 := hide ((unhide F0).trans ((unhide F4).mono (unhide F0).size))
    obtain ⟨g0, g1, g2, g3, g4⟩ := unhide KC _ (unhide F4)
    have HMc := hide (unhide HM1 _ _ _ _ (unhide F4) ((unhide HN2).below f4))
    clear f4 HFc d0 d1 d2 d3 d4
    cases b_f
    · obtain rfl : T = false := by rw [unhide HT2]; rfl
      go_wp2
      go_ret
      exact ⟨rfl, unhide FF4⟩
    obtain rfl : T = b_m := by rw [unhide HT2]; rfl
    go_wp2_with fail
    refine (unhide HMc).mono ?_
    rintro e w5 ⟨rfl, f5⟩
    have FF5 := hide ((unhide F0).trans (((unhide F4).trans (f5.mono (unhide F4).size)).mono (unhide F0).size))
    clear f5
    go_wp2
    go_ret
    exact ⟨rfl, unhide FF5⟩
  · have hz2 : ¬ zs.toList = [] := fun h => hsp ((unhide I2).1 h)
    have hz3 : (zs.toList == []) = false := by simpa using hz2
    have HT1 : Hid (T = (b_s && (b_f && b_m))) := by show T = _; rw [unhide HTT, decide_eq_false hsp]; rfl
    clear I1 I2 HTT hsp
    go_wp2_with fail
    refine (unhide HHsc).mono ?_
    rintro e w3 ⟨rfl, e3⟩
    have e3' := e3.symm
    clear e3 HHsc
    subst e3'
    cases b_s
    · obtain rfl : T = false := by rw [unhide HT1]; rfl
      go_wp2
      go_ret
      exact ⟨rfl, unhide FF2⟩
    have HT2 : Hid (T = (b_f && b_m)) := by show T = _; rw [unhide HT1]; rfl
    have HFc := hide (unhide HF1 _ _ _ _ (unhide F2) (unhide HN2))
    go_wp2_with fail
    refine (unhide HFc).mono ?_
    rintro e w4 ⟨rfl, f4⟩
    have F4 := hide ((unhide F2).trans (f4.mono (unhide F2).size))
    have FF4 := hide ((unhide F0).trans ((unhide F4).mono (unhide F0).size))
    obtain ⟨g0, g1, g2, g3, g4⟩ := unhide KC _ (unhide F4)
    have HMc := hide (unhide HM1 _ _ _ _ (unhide F4) ((unhide HN2).below f4))
    clear f4 HFc d0 d1 d2 d3 d4
    cases b_f
    · obtain rfl : T = false := by rw [unhide HT2]; rfl
      go_wp2
      go_ret
      exact ⟨rfl, unhide FF4⟩
    obtain rfl : T = b_m := by rw [unhide HT2]; rfl
    go_wp2_with fail
    refine (unhide HMc).mono ?_
    rintro e w5 ⟨rfl, f5⟩
    have FF5 := hide ((unhide F0).trans (((unhide F4).trans (f5.mono (unhide F4).size)).mono (unhide F0).size))
    clear f5
    go_wp2
    go_ret
    exact ⟨rfl, unhide FF5⟩
end Go.Proofs.YthhdfokcciibmaaGreatDoor
