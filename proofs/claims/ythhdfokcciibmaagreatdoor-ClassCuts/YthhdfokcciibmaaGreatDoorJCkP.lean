/- The landed class: Print. -/
import Derived.Test.YthhdfokcciibmaaGreatDoorJCkO
import Derived.Test.YthhdfokcciibmaaGreatDoorJClW

namespace Go.Proofs.YthhdfokcciibmaaGreatDoor
open Go.RowKit
set_option linter.unusedVariables false
set_option maxRecDepth 100000

set_option maxHeartbeats 3200000 in
theorem printOk : PrintOk := fun w r hT hC => by
  have hR := fun (W : World) (f : Below w.heap.size w W) => cisRight_any W r (hC.below f)
  have hB := fun (W : World) (f : Below w.heap.size w W) (hok : rightK r.c = true) => wOf_any W r (hC.below f) (hT.below f) hok
  obtain ⟨cc, ⟨pa, pn, pc⟩, ⟨fa, fn, fc⟩, ⟨ma, mn, mcc⟩, mr⟩ := r
  unfold ClR.v Sl.v at hR hB ⊢
  simp only at hR hB ⊢
  obtain ⟨w0, e0, f0, K0⟩ := one_local w #[.slice pa pn pc, .string ⟨cc.name.toArray⟩, .string ⟨cc.super.toArray⟩, .slice fa fn fc, .slice ma mn mcc] 26
  have KC : Hid (∀ W, Below w0.heap.size w0 W → W.cell? ⟨w.heap.size, 0, none⟩ = some (.slice pa pn pc) ∧ W.cell? ⟨w.heap.size, 1, none⟩ = some (.string ⟨cc.name.toArray⟩) ∧ W.cell? ⟨w.heap.size, 2, none⟩ = some (.string ⟨cc.super.toArray⟩) ∧ W.cell? ⟨w.heap.size, 3, none⟩ = some (.slice fa fn fc) ∧ W.cell? ⟨w.heap.size, 4, none⟩ = some (.slice ma mn mcc)) := fun W f => ⟨K0 W f 0 _ rfl, K0 W f 1 _ rfl, K0 W f 2 _ rfl, K0 W f 3 _ rfl, K0 W f 4 _ rfl⟩
  have HR := hide (hR w0 f0)
  have HB : Hid (∀ W, Below w0.heap.size w0 W → rightK cc = true → Calls Tryz.prog 24 #[.agg #[.slice pa pn pc, .string ⟨cc.name.toArray⟩, .string ⟨cc.super.toArray⟩, .slice fa fn fc, .slice ma mn mcc]] W fun e w' => ∃ v, e = .returned v ∧ w'.ownsRow w.heap.size 5 1 v (bytesK cc).length (bv (bytesK cc)) ∧ Below w.heap.size w w') := fun W f hok => by
    have fb := f0.trans (f.mono f0.size)
    refine (hB W fb hok).mono ?_
    rintro e w' ⟨v, rfl, o, g⟩
    exact ⟨v, rfl, own_base o fb.size, fb.trans (g.mono fb.size)⟩
  obtain ⟨q0, q1, q2, q3, q4⟩ := unhide KC w0 (Below.refl _ _)
  obtain ⟨EE, hEE⟩ : ∃ EE, EE = errK cc := ⟨_, rfl⟩
  obtain ⟨PP, hPP⟩ : ∃ PP, PP = printK cc := ⟨_, rfl⟩
  rw [← hEE, ← hPP]
  have HE := hide hEE
  have HP := hide hPP
  have E0 := hide e0
  have F0 := hide f0
  obtain ⟨BK, hBK⟩ : ∃ BK, BK = bytesK cc := ⟨_, rfl⟩
  rw [← hBK] at HB
  have HBK := hide hBK
  clear hC hT hR hB e0 f0 K0 hEE hPP hBK
  cases hok : rightK cc
  · rw [hok] at HR
    obtain rfl : EE = 80 := by rw [unhide HE]; unfold errK; rw [if_pos hok]
    obtain rfl : PP = [] := by rw [unhide HP]; unfold printK; rw [if_neg (by rw [← unhide HE]; decide)]
    generalize (⟨cc.name.toArray⟩ : ByteArray) = s1 at *
    generalize (⟨cc.super.toArray⟩ : ByteArray) = s2 at *
    clear hok HB HE HP HBK
    have e0 := unhide E0
    go_enter Tryz.func9, Tryz.ntmps9
    go_wp2_with fail
    refine (unhide HR).mono ?_
    rintro e w1 ⟨rfl, f1⟩
    have F1 := hide ((unhide F0).trans (f1.mono (unhide F0).size))
    clear f1 e0
    go_wp2
    go_ret2
    exact ⟨⟨_, rfl, World.ownsRow_nil _ _ _ _⟩, unhide F1⟩
  · rw [hok] at HR
    have HB1 : Hid (∀ W, Below w0.heap.size w0 W → Calls Tryz.prog 24 #[.agg #[.slice pa pn pc, .string ⟨cc.name.toArray⟩, .string ⟨cc.super.toArray⟩, .slice fa fn fc, .slice ma mn mcc]] W fun e w' => ∃ v, e = .returned v ∧ w'.ownsRow w.heap.size 5 1 v BK.length (bv BK) ∧ Below w.heap.size w w') := fun W f => unhide HB W f hok
    have HE2 : Hid (EE = if 32768 < BK.length then 3 else 0) := by
      show EE = _
      rw [unhide HE, unhide HBK]
      unfold errK
      rw [if_neg (by rw [hok]; simp)]
    have HP2 : Hid (PP = if 32768 < BK.length then [] else BK) := by
      show PP = _
      rw [unhide HP]
      unfold printK
      rw [← unhide HE, unhide HE2, ← unhide HBK]
      by_cases h : 32768 < BK.length
      · rw [if_pos h, if_pos h, if_neg (by decide)]
      · rw [if_neg h, if_neg h, if_pos rfl]
    generalize (⟨cc.name.toArray⟩ : ByteArray) = s1 at *
    generalize (⟨cc.super.toArray⟩ : ByteArray) = s2 at *
    clear hok HB HE HP HBK
    have e0 := unhide E0
    go_enter Tryz.func9, Tryz.ntmps9
    go_wp2_with fail
    refine (unhide HR).mono ?_
    rintro e w1 ⟨rfl, f1⟩
    obtain ⟨c0, c1, c2, c3, c4⟩ := unhide KC w1 f1
    have HBc := hide (unhide HB1 w1 f1)
    clear f1 e0 q0 q1 q2 q3 q4
    go_wp2_with fail
    refine (unhide HBc).mono ?_
    rintro e w2 ⟨v, rfl, o2, f2⟩
    obtain ⟨a2, d2, rfl, _⟩ := own_form o2
    have O2 := hide o2
    have F2 := hide f2
    clear o2 f2 HBc c0 c1 c2 c3 c4
    by_cases hl : 32768 < BK.length
    · have hl1 : (32768 : Int) < (BK.length : Int) := by omega
      obtain rfl : EE = 3 := by rw [unhide HE2, if_pos hl]
      obtain rfl : PP = [] := by rw [unhide HP2, if_pos hl]
      go_wp2
      go_ret2
      exact ⟨⟨_, rfl, World.ownsRow_nil _ _ _ _⟩, unhide F2⟩
    · have hl1 : ¬ (32768 : Int) < (BK.length : Int) := by omega
      obtain rfl : EE = 0 := by rw [unhide HE2, if_neg hl]
      obtain rfl : PP = BK := by rw [unhide HP2, if_neg hl]
      clear HP2 HE2 HB1
      go_wp2
      go_ret2
      exact ⟨⟨_, rfl, unhide O2⟩, unhide F2⟩
end Go.Proofs.YthhdfokcciibmaaGreatDoor
