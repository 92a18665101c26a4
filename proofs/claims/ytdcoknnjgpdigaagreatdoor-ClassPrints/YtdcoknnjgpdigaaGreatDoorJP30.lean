/- Joined: ClV CkP GrK GrL. -/
import Derived.Test.YtdcoknnjgpdigaaGreatDoorJP29
import Derived.Test.YtdcoknnjgpdigaaGreatDoorJP24
import Derived.Test.YtdcoknnjgpdigaaGreatDoorJCkO
import Derived.Test.YtdcoknnjgpdigaaGreatDoorJP25
import Derived.Test.YtdcoknnjgpdigaaGreatDoorJGrJ
import Derived.Deep.RegionHeld3
import Derived.Deep.Cut

/- The walk of ClassCopies. -/
namespace Go.Proofs.YtdcoknnjgpdigaaGreatDoor
open Go.RowKit
set_option linter.unusedVariables false
set_option maxRecDepth 100000

end Go.Proofs.YtdcoknnjgpdigaaGreatDoor

/- The landed class: Print. -/
namespace Go.Proofs.YtdcoknnjgpdigaaGreatDoor
open Go.RowKit
set_option linter.unusedVariables false
set_option maxRecDepth 100000

set_option maxHeartbeats 3200000 in
theorem printOk : PrintOk := fun w r hT hC => by
  have hR := fun (W : World) (f : Below w.heap.size w W) => cisRight_any W r (hC.below f)
  have hB := fun (W : World) (f : Below w.heap.size w W) (hok : rightK r.c = true) => wOf_any W r (hC.below f) (hT.below f) hok
  obtain ⟨cc, ⟨pa, pn, pc⟩, ⟨fa, fn, fc⟩, ⟨ma, mn, mcc⟩, mr⟩ := r
  unfold ClR.v Sl.v at hR hB ⊢
  simp only at hR hB ⊢
  obtain ⟨w0, e0, f0, K0⟩ := one_local w #[.slice pa pn pc, .string ⟨cc.name.toArray⟩, .string ⟨cc.super.toArray⟩, .slice fa fn fc, .slice ma mn mcc] 26
  have KC : Hid (∀ W, Below w0.heap.size w0 W → W.cell? ⟨w.heap.size, 0, none⟩ = some (.slice pa pn pc) ∧ W.cell? ⟨w.heap.size, 1, none⟩ = some (.string ⟨cc.name.toArray⟩) ∧ W.cell? ⟨w.heap.size, 2, none⟩ = some (.string ⟨cc.super.toArray⟩) ∧ W.cell? ⟨w.heap.size, 3, none⟩ = some (.slice fa fn fc) ∧ W.cell? ⟨w.heap.size, 4, none⟩ = some (.slice ma mn mcc)) := fun W f => ⟨K0 W f 0 _ rfl, K0 W f 1 _ rfl, K0 W f 2 _ rfl, K0 W f 3 _ rfl, K0 W f 4 _ rfl⟩
  have HR := hide (hR w0 f0)
  have HB : Hid (∀ W, Below w0.heap.size w0 W → rightK cc = true → Calls Tryz.prog 24 #[.agg #[.slice pa pn pc, .string ⟨cc.name.toArray⟩, .string ⟨cc.super.toArray⟩, .slice fa fn fc, .slice ma mn mcc]] W fun e w' => ∃ v, e = .returned v ∧ w'.ownsRow w.heap.size 5 1 v (bytesK cc).length (bv (bytesK cc)) ∧ Below w.heap.size w w') := fun W f hok => by
    have fb := f0.trans (f.mono f0.size)
    refine (hB W fb hok).mono ?_
    rintro e w' ⟨v, rfl, o, g⟩
    exact ⟨v, rfl, own_base o fb.size, fb.trans (g.mono fb.size)⟩
  obtain ⟨q0, q1, q2, q3, q4⟩ := unhide KC w0 (Below.refl _ _)
  obtain ⟨EE, hEE⟩ : ∃ EE, EE = errK cc := ⟨_, rfl⟩
  obtain ⟨PP, hPP⟩ : ∃ PP, PP = printK cc := ⟨_, rfl⟩
  rw [← hEE, ← hPP]
  have HE := hide hEE
  have HP := hide hPP
  have E0 := hide e0
  have F0 := hide f0
  obtain ⟨BK, hBK⟩ : ∃ BK, BK = bytesK cc := ⟨_, rfl⟩
  rw [← hBK] at HB
  have HBK := hide hBK
  clear hC hT hR hB e0 f0 K0 hEE hPP hBK
  cases hok : rightK cc
  · rw [hok] at HR
    obtain rfl : EE = 80 := by rw [unhide HE]; unfold errK; rw [if_pos hok]
    obtain rfl : PP = [] := by rw [unhide HP]; unfold printK; rw [if_neg (by rw [← unhide HE]; decide)]
    generalize (⟨cc.name.toArray⟩ : ByteArray) = s1 at *
    generalize (⟨cc.super.toArray⟩ : ByteArray) = s2 at *
    clear hok HB HE HP HBK
    have e0 := unhide E0
    go_enter Tryz.func9, Tryz.ntmps9
    go_wp2_with fail
    refine (unhide HR).mono ?_
    rintro e w1 ⟨rfl, f1⟩
    have F1 := hide ((unhide F0).trans (f1.mono (unhide F0).size))
    clear f1 e0
    go_wp2
    go_ret2
    exact ⟨⟨_, rfl, World.ownsRow_nil _ _ _ _⟩, unhide F1⟩
  · rw [hok] at HR
    have HB1 : Hid (∀ W, Below w0.heap.size w0 W → Calls Tryz.prog 24 #[.agg #[.slice pa pn pc, .string ⟨cc.name.toArray⟩, .string ⟨cc.super.toArray⟩, .slice fa fn fc, .slice ma mn mcc]] W fun e w' => ∃ v, e = .returned v ∧ w'.ownsRow w.heap.size 5 1 v BK.length (bv BK) ∧ Below w.heap.size w w') := fun W f => unhide HB W f hok
    have HE2 : Hid (EE = if 32768 < BK.length then 3 else 0) := by
      show EE = _
      rw [unhide HE, unhide HBK]
      unfold errK
      rw [if_neg (by rw [hok]; simp)]
    have HP2 : Hid (PP = if 32768 < BK.length then [] else BK) := by
      show PP = _
      rw [unhide HP]
      unfold printK
      rw [← unhide HE, unhide HE2, ← unhide HBK]
      by_cases h : 32768 < BK.length
      · rw [if_pos h, if_pos h, if_neg (by decide)]
      · rw [if_neg h, if_neg h, if_pos rfl]
    generalize (⟨cc.name.toArray⟩ : ByteArray) = s1 at *
    generalize (⟨cc.super.toArray⟩ : ByteArray) = s2 at *
    clear hok HB HE HP HBK
    have e0 := unhide E0
    go_enter Tryz.func9, Tryz.ntmps9
    go_wp2_with fail
    refine (unhide HR).mono ?_
    rintro e w1 ⟨rfl, f1⟩
    obtain ⟨c0, c1, c2, c3, c4⟩ := unhide KC w1 f1
    have HBc := hide (unhide HB1 w1 f1)
    clear f1 e0 q0 q1 q2 q3 q4
    go_wp2_with fail
    refine (unhide HBc).mono ?_
    rintro e w2 ⟨v, rfl, o2, f2⟩
    obtain ⟨a2, d2, rfl, _⟩ := own_form o2
    have O2 := hide o2
    have F2 := hide f2
    clear o2 f2 HBc c0 c1 c2 c3 c4
    by_cases hl : 32768 < BK.length
    · have hl1 : (32768 : Int) < (BK.length : Int) := by omega
      obtain rfl : EE = 3 := by rw [unhide HE2, if_pos hl]
      obtain rfl : PP = [] := by rw [unhide HP2, if_pos hl]
      go_wp2
      go_ret2
      exact ⟨⟨_, rfl, World.ownsRow_nil _ _ _ _⟩, unhide F2⟩
    · have hl1 : ¬ (32768 : Int) < (BK.length : Int) := by omega
      obtain rfl : EE = 0 := by rw [unhide HE2, if_neg hl]
      obtain rfl : PP = BK := by rw [unhide HP2, if_neg hl]
      clear HP2 HE2 HB1
      go_wp2
      go_ret2
      exact ⟨⟨_, rfl, unhide O2⟩, unhide F2⟩
end Go.Proofs.YtdcoknnjgpdigaaGreatDoor

/- Check; the walk of ClassPrints, from what the document's Print does. -/
namespace Go.Proofs.YtdcoknnjgpdigaaGreatDoor
open Go.RowKit
set_option linter.unusedVariables false
set_option maxRecDepth 100000

def GPrintOk : Prop := ∀ (w : World) (r : ClR), CIn w r → sizeK r.c < 5000 → Calls Tryz.prog 10 #[r.v] w (gprint_post w r.c)
set_option maxHeartbeats 1600000 in
theorem checkOk : CheckOk := fun w r hT hC => by
  obtain ⟨cc, ⟨pa, pn, pc⟩, ⟨fa, fn, fc⟩, ⟨ma, mn, mcc⟩, mr⟩ := r
  obtain ⟨w0, e0, f0, K0⟩ := one_local w #[.slice pa pn pc, .string ⟨cc.name.toArray⟩, .string ⟨cc.super.toArray⟩, .slice fa fn fc, .slice ma mn mcc] 26
  have HP := hide (printOk w0 _ (hT.below f0) (hC.below f0))
  unfold ClR.v Sl.v at HP ⊢
  simp only at HP ⊢
  have q0 := K0 w0 (Below.refl _ _) 0 _ rfl
  have q1 := K0 w0 (Below.refl _ _) 1 _ rfl
  have q2 := K0 w0 (Below.refl _ _) 2 _ rfl
  have q3 := K0 w0 (Below.refl _ _) 3 _ rfl
  have q4 := K0 w0 (Below.refl _ _) 4 _ rfl
  have F0 := hide f0
  clear hC hT K0 f0
  generalize (⟨cc.name.toArray⟩ : ByteArray) = s1 at *
  generalize (⟨cc.super.toArray⟩ : ByteArray) = s2 at *
  generalize errK cc = E at *
  generalize printK cc = PP at *
  go_enter Tryz.func12, Tryz.ntmps12
  go_wp2_with fail
  refine (unhide HP).mono ?_
  rintro e w1 ⟨⟨v, rfl, o⟩, f1⟩
  have F1 := hide ((unhide F0).trans (f1.mono (unhide F0).size))
  clear o f1 HP q0 q1 q2 q3 q4 e0
  go_wp2
  go_ret
  exact ⟨rfl, unhide F1⟩
set_option maxHeartbeats 3200000 in
theorem prints_tab (GP : GPrintOk) (w : World) (hT : Tab8 w) (r : ClR) (hC : CIn w r) :
    Calls Tryz.prog 3 #[r.v] w fun e w' => e = .returned (.bool true) ∧ Below w.heap.size w w' := by
  obtain ⟨cc, ⟨pa, pn, pc⟩, ⟨fa, fn, fc⟩, ⟨ma, mn, mcc⟩, mr⟩ := r
  obtain ⟨w0, e0, f0, K0⟩ := one_local w #[.slice pa pn pc, .string ⟨cc.name.toArray⟩, .string ⟨cc.super.toArray⟩, .slice fa fn fc, .slice ma mn mcc] 26
  have hC0 := hC.below f0
  have hT0 := hT.below f0
  have KC : Hid (∀ W, Below w0.heap.size w0 W → W.cell? ⟨w.heap.size, 0, none⟩ = some (.slice pa pn pc) ∧ W.cell? ⟨w.heap.size, 1, none⟩ = some (.string ⟨cc.name.toArray⟩) ∧ W.cell? ⟨w.heap.size, 2, none⟩ = some (.string ⟨cc.super.toArray⟩) ∧ W.cell? ⟨w.heap.size, 3, none⟩ = some (.slice fa fn fc) ∧ W.cell? ⟨w.heap.size, 4, none⟩ = some (.slice ma mn mcc)) := fun W f => ⟨K0 W f 0 _ rfl, K0 W f 1 _ rfl, K0 W f 2 _ rfl, K0 W f 3 _ rfl, K0 W f 4 _ rfl⟩
  have HL := hide (light8_any w0 _ hC0)
  have HCP : Hid (∀ W, Below w0.heap.size w0 W → Calls Tryz.prog 8 #[(⟨cc, ⟨pa, pn, pc⟩, ⟨fa, fn, fc⟩, ⟨ma, mn, mcc⟩, mr⟩ : ClR).v] W fun e w' => ∃ r' : ClR, r'.c = cc ∧ e = .returned r'.v ∧ CIn w' r' ∧ Below W.heap.size W w') := hide fun W f => (cCopy_any W _ (hC0.below f)).mono (by
    rintro e w' ⟨r', h1, rfl, o, f'⟩
    exact ⟨r', h1, rfl, ClOwn.cin hC0 h1 o, f'⟩)
  have HPR : Hid (∀ W (q : ClR), Below w0.heap.size w0 W → q.c = cc → CIn W q → Calls Tryz.prog 9 #[q.v] W fun e w' => ∃ a c, e = .returned (.tuple #[.slice a (printK cc).length c, .int .i64 (errK cc)]) ∧ BytesAt w' a (printK cc) ∧ Below W.heap.size W w') := hide fun W q f h i => (printOk W q (hT0.below f) i).mono (by
    rintro e w' ⟨⟨v, rfl, o⟩, f'⟩
    rw [h] at o ⊢
    obtain ⟨a, c, rfl, _⟩ := own_form o
    exact ⟨a, c, rfl, own_bytes o, f'⟩)
  have HGP : Hid (∀ W, Below w0.heap.size w0 W → sizeK cc < 5000 → Calls Tryz.prog 10 #[(⟨cc, ⟨pa, pn, pc⟩, ⟨fa, fn, fc⟩, ⟨ma, mn, mcc⟩, mr⟩ : ClR).v] W fun e w' => ∃ a c, e = .returned (.tuple #[.slice a (printK cc).length c, .int .i64 (errK cc)]) ∧ BytesAt w' a (printK cc) ∧ Below W.heap.size W w') := hide fun W f hl => (GP W _ (hC0.below f) hl).mono (by
    rintro e w' ⟨v, rfl, o, f'⟩
    have o2 : w'.ownsRow W.heap.size 5 1 v (printK cc).length (bv (printK cc)) := by
      rw [← byc_bv]
      exact o
    obtain ⟨a, c, rfl, _⟩ := own_form o2
    exact ⟨a, c, rfl, own_bytes o2, f'⟩)
  have HCK : Hid (∀ W (q : ClR), Below w0.heap.size w0 W → q.c = cc → CIn W q → Calls Tryz.prog 12 #[q.v] W fun e w' => e = .returned (.int .i64 (errK cc)) ∧ Below W.heap.size W w') := hide fun W q f h i => (checkOk W q (hT0.below f) i).mono (by
    rintro e w' ⟨rfl, f'⟩
    rw [h]
    exact ⟨rfl, f'⟩)
  have HSC : Hid (∀ W (q : ClR), Below w0.heap.size w0 W → q.c = cc → CIn W q → Calls Tryz.prog 13 #[q.v, (⟨cc, ⟨pa, pn, pc⟩, ⟨fa, fn, fc⟩, ⟨ma, mn, mcc⟩, mr⟩ : ClR).v] W fun e w' => e = .returned (.bool true) ∧ Below W.heap.size W w') := hide fun W q f h i => SameClass_same W q _ i (hC0.below f) h
  have HW : Hid (∀ W, Below w0.heap.size w0 W → Calls Tryz.prog 14 #[] W fun e w' => e = .returned (.bool true) ∧ Below W.heap.size W w') := hide fun W f => works8_tab printOk W (hT0.below f)
  unfold ClR.v Sl.v at HL HCP HGP HSC ⊢
  simp only at HL HCP HGP HSC ⊢
  have F0 := hide f0
  obtain ⟨q0, q1, q2, q3, q4⟩ := unhide KC _ (Below.refl _ _)
  clear hC hC0 hT hT0 K0 f0
  go_enter Tryz.func3, Tryz.ntmps3
  go_wp2_with fail
  refine (unhide HL).mono ?_
  rintro e w1 ⟨rfl, B1⟩
  clear q0 q1 q2 q3 q4 HL e0
  have HB1 := hide B1
  by_cases hl : sizeK cc < 5000
  · rw [decide_eq_true hl]
    have HGP2 : Hid (∀ W, Below w0.heap.size w0 W → _) := hide fun W f => unhide HGP W f hl
    obtain ⟨q0, q1, q2, q3, q4⟩ := unhide KC _ B1
    have HC := hide (unhide HCP w1 B1)
    clear B1 hl HGP HCP
    go_upto_region 3 with fail
    go_cut [3] from 8 (fun v3 wr => ∃ (p : Nat) (q : ClR), v3 = .pointer (some ⟨p, 0, none⟩) ∧ q.c = cc ∧ wr.heap[p]? = some (.cells #[q.pool.v, .string ⟨cc.name.toArray⟩, .string ⟨cc.super.toArray⟩, q.fields.v, q.methods.v] 26 (0, 0)) ∧ CIn wr q ∧ Below w0.heap.size w0 wr)
    case first =>
      go_wp2_with fail
      refine (unhide HC).mono ?_
      rintro e w2 ⟨⟨rc, ⟨xa, xn, xc⟩, ⟨ya, yn, yc⟩, ⟨za, zn, zc⟩, rr⟩, hr, rfl, i2, f2⟩
      simp only at hr
      have HB2 := hide ((unhide HB1).trans (f2.mono (unhide HB1).size))
      have HI2 := hide (And.intro hr i2)
      clear i2 f2 q0 q1 q2 q3 q4 HC
      simp only
      rw [hr]
      clear hr
      go_wp2
      go_meet
      obtain ⟨hr, i2⟩ := unhide HI2
      have B2 := unhide HB2
      refine ⟨w2.heap.size, ⟨rc, ⟨xa, xn, xc⟩, ⟨ya, yn, yc⟩, ⟨za, zn, zc⟩, rr⟩, rfl, hr, ?_, ?_, ?_⟩
      · exact heap_alloc_new w2 _
      · exact i2.below ((Below.refl _ _).alloc (Nat.le_refl _) _)
      · exact B2.trans (((Below.refl w2.heap.size w2).alloc (Nat.le_refl _) _).mono B2.size)
    case rest =>
      obtain ⟨p, ⟨rc, ⟨xa, xn, xc⟩, ⟨ya, yn, yc⟩, ⟨za, zn, zc⟩, rr⟩, rfl, hr, x3, i3, B3⟩ := hcut
      simp only at hr
      subst hr
      unfold Sl.v at x3
      simp only at x3
      have KX : Hid (∀ W, Below wc.heap.size wc W → W.cell? ⟨p, 0, none⟩ = some (.slice xa xn xc) ∧ W.cell? ⟨p, 1, none⟩ = some (.string ⟨rc.name.toArray⟩) ∧ W.cell? ⟨p, 2, none⟩ = some (.string ⟨rc.super.toArray⟩) ∧ W.cell? ⟨p, 3, none⟩ = some (.slice ya yn yc) ∧ W.cell? ⟨p, 4, none⟩ = some (.slice za zn zc)) := hide fun W f => by
        have := (f.block _ (lt_of_heap x3)).trans x3
        exact ⟨bx_cell this 0 _ rfl, bx_cell this 1 _ rfl, bx_cell this 2 _ rfl, bx_cell this 3 _ rfl, bx_cell this 4 _ rfl⟩
      have HB3 := hide B3
      have HI3 := hide i3
      have HC := hide (unhide HPR wc _ B3 rfl i3)
      unfold ClR.v Sl.v at HC
      simp only at HC
      obtain ⟨k0, k1, k2, k3, k4⟩ := unhide KX wc (Below.refl _ _)
      clear x3 B3 i3 q0 q1 q2 q3 q4
      go_wp2_with fail
      refine (unhide HC).mono ?_
      rintro e w4 ⟨a4, c4, rfl, y4, f4⟩
      clear k0 k1 k2 k3 k4 HC
      have B4 := (unhide HB3).trans (f4.mono (unhide HB3).size)
      obtain ⟨q0, q1, q2, q3, q4⟩ := unhide KC _ B4
      have HC := hide (unhide HGP2 w4 B4)
      have HY4 := hide y4
      have HF4 := hide f4
      clear y4 f4 B4
      go_wp2_with fail
      refine (unhide HC).mono ?_
      rintro e w5 ⟨a5, c5, rfl, y5, f5⟩
      clear q0 q1 q2 q3 q4 HC
      have f35 := (unhide HF4).trans (f5.mono (unhide HF4).size)
      have y45 : BytesAt w5 a4 (printK rc) := (unhide HY4).below f5
      have HC := hide (SameBytes_n w5 a4 a5 (printK rc) (printK rc) _ _ c4 c5 y45 y5 rfl rfl)
      rw [decide_eq_true rfl] at HC
      have HF5 := hide f35
      clear f35 y45 y5 f5 HY4 HF4
      go_wp2_with fail
      refine (unhide HC).mono ?_
      rintro e wz ⟨rfl, ez⟩
      have ez' := ez.symm
      clear ez
      subst ez'
      have B5 := (unhide HB3).trans ((unhide HF5).mono (unhide HB3).size)
      obtain ⟨k0, k1, k2, k3, k4⟩ := unhide KX w5 (unhide HF5)
      have HC := hide (unhide HCK w5 _ B5 rfl ((unhide HI3).below (unhide HF5)))
      unfold ClR.v Sl.v at HC
      simp only at HC
      clear B5
      go_wp2_with fail
      refine (unhide HC).mono ?_
      rintro e w6 ⟨rfl, f6⟩
      have f36 := (unhide HF5).trans (f6.mono (unhide HF5).size)
      have B6 := (unhide HB3).trans (f36.mono (unhide HB3).size)
      clear k0 k1 k2 k3 k4 HC
      obtain ⟨k0, k1, k2, k3, k4⟩ := unhide KX w6 f36
      obtain ⟨q0, q1, q2, q3, q4⟩ := unhide KC _ B6
      have HC := hide (unhide HSC w6 ⟨rc, ⟨xa, xn, xc⟩, ⟨ya, yn, yc⟩, ⟨za, zn, zc⟩, rr⟩ B6 rfl ((unhide HI3).below f36))
      simp only at HC
      have HB6 := hide B6
      clear f6 f36 B6
      go_wp2_with fail
      refine (unhide HC).mono ?_
      rintro e w7 ⟨rfl, f7⟩
      have B7 := (unhide HB6).trans (f7.mono (unhide HB6).size)
      have HC := hide (unhide HW w7 B7)
      have HB7 := hide B7
      clear f7 B7 k0 k1 k2 k3 k4 q0 q1 q2 q3 q4
      go_wp2_with fail
      refine (unhide HC).mono ?_
      rintro e w8 ⟨rfl, f8⟩
      have HB8 := hide ((unhide F0).trans (((unhide HB7).trans (f8.mono (unhide HB7).size)).mono (unhide F0).size))
      clear f8
      go_wp2
      go_ret
      exact ⟨rfl, unhide HB8⟩
  · rw [decide_eq_false hl]
    clear hl
    go_wp2
    go_ret
    exact ⟨rfl, (unhide F0).trans ((unhide HB1).mono (unhide F0).size)⟩
end Go.Proofs.YtdcoknnjgpdigaaGreatDoor

/- The document's Print, whole. -/
namespace Go.Proofs.YtdcoknnjgpdigaaGreatDoor
open Go.RowKit
set_option linter.unusedVariables false

theorem gPrintOk : GPrintOk := fun w r hC hl => by
  by_cases h : checkP r.c.pool = true ∧ r.c.fields.length ≤ 256 ∧ r.c.methods.length ≤ 256
  · exact gPrint_yes w r r.c rfl _ (hide rfl) hC hl h.1 h.2.1 h.2.2
  · exact gPrint_no w r hC h
end Go.Proofs.YtdcoknnjgpdigaaGreatDoor
