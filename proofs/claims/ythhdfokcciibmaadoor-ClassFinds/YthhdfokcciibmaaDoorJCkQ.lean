/- The landed class: Find. -/
import Derived.Test.YthhdfokcciibmaaDoorJCkP

namespace Go.Proofs.YthhdfokcciibmaaDoor
open Go.RowKit
set_option linter.unusedVariables false
set_option maxRecDepth 100000

def hitB (m : Md) (s t : List UInt8) : Bool := decide (m.name = s ∧ m.type = t)
set_option maxHeartbeats 400000 in
theorem cFind1_any (w : World) (r : MdR) (s t : List UInt8) (b1 b2 : Nat) (h1 : w.cell? ⟨b1, 0, none⟩ = some (.string ⟨s.toArray⟩)) (h2 : w.cell? ⟨b2, 0, none⟩ = some (.string ⟨t.toArray⟩)) :
    Calls Tryd.prog 11 #[.agg #[.int .i64 r.m.acc, .string ⟨r.m.name.toArray⟩, .string ⟨r.m.type.toArray⟩, .int .i64 r.m.code.stack, .int .i64 r.m.code.locals, r.bs.v, r.hs.v, r.maps.v], .pointer (some ⟨b1, 0, none⟩), .pointer (some ⟨b2, 0, none⟩)] w fun e w' => e = .returned (.bool (hitB r.m s t)) ∧ Below w.heap.size w w' := by
  obtain ⟨⟨acc, nm, ty, cd⟩, ⟨ba, bn, bc⟩, ⟨ha, hn, hc⟩, ⟨ma, mn, mcc⟩, mr⟩ := r
  unfold Sl.v
  simp only
  obtain ⟨w0, e0, f0, K0⟩ := one_local w #[.int .i64 acc, .string ⟨nm.toArray⟩, .string ⟨ty.toArray⟩, .int .i64 cd.stack, .int .i64 cd.locals, .slice ba bn bc, .slice ha hn hc, .slice ma mn mcc] 36
  have q1 := K0 w0 (Below.refl _ _) 1 _ rfl
  have q2 := K0 w0 (Below.refl _ _) 2 _ rfl
  have c1 := (f0.cell (World.block_lt_of_cell? _ _ h1)).trans h1
  have c2 := (f0.cell (World.block_lt_of_cell? _ _ h2)).trans h2
  obtain ⟨zn, hzn⟩ : ∃ z : ByteArray, z = ⟨nm.toArray⟩ := ⟨_, rfl⟩
  obtain ⟨zt, hzt⟩ : ∃ z : ByteArray, z = ⟨ty.toArray⟩ := ⟨_, rfl⟩
  obtain ⟨zs, hzs⟩ : ∃ z : ByteArray, z = ⟨s.toArray⟩ := ⟨_, rfl⟩
  obtain ⟨zu, hzu⟩ : ∃ z : ByteArray, z = ⟨t.toArray⟩ := ⟨_, rfl⟩
  have i1 : zn.toList = zs.toList ↔ nm = s := by rw [hzn, hzs]; simp
  have i2 : zt.toList = zu.toList ↔ ty = t := by rw [hzt, hzu]; simp
  have j1 : zn = zs ↔ nm = s := by rw [hzn, hzs]; simp
  have j2 : zt = zu ↔ ty = t := by rw [hzt, hzu]; simp
  rw [← hzn] at q1 e0 ⊢
  rw [← hzt] at q2 e0 ⊢
  rw [← hzs] at c1
  rw [← hzu] at c2
  obtain ⟨T, hT⟩ : ∃ T, T = hitB ⟨acc, nm, ty, cd⟩ s t := ⟨_, rfl⟩
  rw [← hT]
  unfold hitB at hT
  simp only at hT
  generalize cd.stack = k1 at *
  generalize cd.locals = k2 at *
  have E0 := hide e0
  have F0 := hide f0
  clear e0 f0 K0 hzn hzt hzs hzu h1 h2
  have e0 := unhide E0
  by_cases y1 : nm = s
  · have a1 := j1.2 y1
    by_cases y2 : ty = t
    · have a2 := j2.2 y2
      obtain rfl : T = true := by rw [hT]; simp [y1, y2]
      subst a1 a2
      clear i1 i2 j1 j2 hT y1 y2
      go_enter Tryd.func11, Tryd.ntmps11
      go_wp2
      go_ret
      exact ⟨rfl, unhide F0⟩
    · have a2 : ¬ zt.toList = zu.toList := fun h => y2 (i2.1 h)
      have a3 : (zt.toList == zu.toList) = false := by simpa using a2
      obtain rfl : T = false := by rw [hT]; simp [y2]
      subst a1
      clear i1 i2 j1 j2 hT y1 y2
      go_enter Tryd.func11, Tryd.ntmps11
      go_wp2
      go_ret
      exact ⟨by first | rfl | (rw [a3]; rfl) | simp [a2, a3], unhide F0⟩
  · have a1 : ¬ zn.toList = zs.toList := fun h => y1 (i1.1 h)
    have a3 : (zn.toList == zs.toList) = false := by simpa using a1
    obtain rfl : T = false := by rw [hT]; simp [y1]
    clear i1 i2 j1 j2 hT y1
    go_enter Tryd.func11, Tryd.ntmps11
    go_wp2
    go_ret
    exact ⟨by first | rfl | (rw [a3]; rfl) | simp [a1, a3], unhide F0⟩

set_option maxHeartbeats 400000 in
theorem slIndexM_any (w : World) (a : Option Addr) (n c : Nat) (mr : List MdR) (hA : LIn 8 128 mdc (MdIn w) w ⟨a, n, c⟩ mr) (s t : List UInt8) (b1 b2 : Nat) (h1 : w.cell? ⟨b1, 0, none⟩ = some (.string ⟨s.toArray⟩)) (h2 : w.cell? ⟨b2, 0, none⟩ = some (.string ⟨t.toArray⟩)) :
    Calls Tryd.prog 10 #[.slice a n c, .func (.func 11) #[] #[.pointer (some ⟨b1, 0, none⟩), .pointer (some ⟨b2, 0, none⟩)]] w fun e w' => (∃ z : Int, e = .returned (.int .i64 z) ∧ ((z = -1 ∧ findK (mr.map MdR.m) s t = (0, 5)) ∨ (0 ≤ z ∧ z < n ∧ findK (mr.map MdR.m) s t = (z, 0)))) ∧ Below w.heap.size w w' := by
  have hs := hA.small
  have hln := hA.ls.1
  simp only at hln hs
  have HA := hide hA.ls
  have HB : Hid (∀ (W : World) (x : MdR), Below w.heap.size w W → Calls Tryd.prog 11 #[.agg #[.int .i64 x.m.acc, .string ⟨x.m.name.toArray⟩, .string ⟨x.m.type.toArray⟩, .int .i64 x.m.code.stack, .int .i64 x.m.code.locals, x.bs.v, x.hs.v, x.maps.v], .pointer (some ⟨b1, 0, none⟩), .pointer (some ⟨b2, 0, none⟩)] W fun e w' => e = .returned (.bool (hitB x.m s t)) ∧ Below W.heap.size W w') := fun W x f => cFind1_any W x s t b1 b2 ((f.cell (World.block_lt_of_cell? _ _ h1)).trans h1) ((f.cell (World.block_lt_of_cell? _ _ h2)).trans h2)
  clear hA h1 h2
  go_enter Tryd.func10, Tryd.ntmps10
  go_wp2
  go_loopw [8] (fun i wr => ∃ k : Nat, k ≤ n ∧ i = .int .i64 k ∧ Below w.heap.size w wr ∧ ∀ (j : Nat) (m : Md), j < k → (mr.map MdR.m)[j]? = some m → ¬ (m.name = s ∧ m.type = t)) (fun i _ => n - (intOf i).toNat)
  case atStart => exact ⟨0, by omega, rfl, Below.refl _ _, fun j m hj => absurd hj (Nat.not_lt_zero _)⟩
  case round =>
    obtain ⟨k, hk, rfl, hR, hno⟩ := hrel
    have HNO := hide hno
    clear hno
    by_cases hlt : k < n
    · have hlt1 : (k : Int) < (n : Int) := by omega
      have hk0 : (0 : Int) ≤ (k : Int) := by omega
      obtain ⟨b3, o3, h3a, h3⟩ := Ls.row (unhide HA) (w' := w) (by show n ≠ 0; omega)
      subst h3a
      obtain ⟨x, hx1⟩ : ∃ x, mr[k]? = some x := ⟨_, List.getElem?_eq_getElem (by omega)⟩
      have hmx : (mr.map MdR.m)[k]? = some x.m := by rw [List.getElem?_map, hx1]; rfl
      have q := h3 hR k x hx1
      have HP := hide (unhide HB wr x hR)
      have HMX := hide hmx
      have hhit : hitB x.m s t = true ↔ x.m.name = s ∧ x.m.type = t := by unfold hitB; simp
      have HH := hide hhit
      obtain ⟨xm, ⟨ba, bn, bc⟩, ⟨ha, hn, hc⟩, ⟨ma, mn, mcc⟩, xr⟩ := x
      have c0 := q.zero
      have c1 := q 1 _ rfl
      have c2 := q 2 _ rfl
      have c3 := q 3 _ rfl
      have c4 := q 4 _ rfl
      have c5 := q 5 _ rfl
      have c6 := q 6 _ rfl
      have c7 := q 7 _ rfl
      simp only [Sl.v] at c0 c1 c2 c3 c4 c5 c6 c7 HP HH HMX
      have HR := hide hR
      generalize hitB xm s t = bb at *
      clear q h3 hx1 hmx hhit hR
      generalize (⟨xm.name.toArray⟩ : ByteArray) = s1 at *
      generalize (⟨xm.type.toArray⟩ : ByteArray) = s2 at *
      go_wp2_with fail
      refine (unhide HP).mono ?_
      rintro e w4 ⟨rfl, f4⟩
      have F4 := hide ((unhide HR).trans (f4.mono (unhide HR).size))
      clear HP f4 c0 c1 c2 c3 c4 c5 c6 c7
      cases bb
      · have hno2 : Hid (∀ (j : Nat) (m : Md), j < k + 1 → (mr.map MdR.m)[j]? = some m → ¬ (m.name = s ∧ m.type = t)) := fun j m hj hm => by
          by_cases e : j < k
          · exact unhide HNO j m e hm
          · obtain rfl : j = k := by omega
            rw [unhide HMX] at hm
            injection hm with hm
            subst hm
            exact fun h => by have := (unhide HH).2 h; cases this
        go_wp2
        go_roundw
        case rel => exact ⟨k + 1, by omega, by go_num, unhide F4, unhide hno2⟩
        case measure => simp [intOf]; omega
      · have hK := hide (findK_at (unhide HNO) (unhide HMX) ((unhide HH).1 (by first | rfl | trivial)))
        go_wp2
        go_ret
        exact ⟨⟨(k : Int), rfl, .inr ⟨by omega, by omega, unhide hK⟩⟩, unhide F4⟩
    · obtain rfl : k = n := by omega
      have hK : Hid (findK (mr.map MdR.m) s t = (0, 5)) := findK_none fun j m hm => unhide HNO j m (by have := (List.getElem?_eq_some_iff.1 hm).1; simp at this; omega) hm
      have HR := hide hR
      clear hR
      go_wp2
      go_ret
      exact ⟨⟨-1, rfl, .inl ⟨rfl, unhide hK⟩⟩, unhide HR⟩

set_option maxHeartbeats 400000 in
theorem findOk : FindOk := fun w r s t hC hs ht => by
  obtain ⟨cc, ⟨pa, pn, pc⟩, ⟨fa, fn, fc⟩, ⟨ma, mn, mcc⟩, mr⟩ := r
  have hsame := hC.same
  have hM := hC.methods
  have hsm := hM.small
  unfold ClR.v Sl.v
  simp only at hsame hM hsm ⊢
  have b0 : Below w.heap.size w (((w.alloc (.cells #[.slice pa pn pc, .string ⟨cc.name.toArray⟩, .string ⟨cc.super.toArray⟩, .slice fa fn fc, .slice ma mn mcc] 26)).alloc (.cells #[.string ⟨s.toArray⟩] 9)).alloc (.cells #[.string ⟨t.toArray⟩] 9)) := (((Below.refl _ _).alloc (Nat.le_refl _) _).alloc (by simp) _).alloc (by simp; omega) _
  obtain ⟨w0, e0⟩ : ∃ w0, ((w.alloc (.cells #[.slice pa pn pc, .string ⟨cc.name.toArray⟩, .string ⟨cc.super.toArray⟩, .slice fa fn fc, .slice ma mn mcc] 26)).alloc (.cells #[.string ⟨s.toArray⟩] 9)).alloc (.cells #[.string ⟨t.toArray⟩] 9) = w0 := ⟨_, rfl⟩
  have B1 : w0.heap[w.heap.size]? = some (.cells #[.slice pa pn pc, .string ⟨cc.name.toArray⟩, .string ⟨cc.super.toArray⟩, .slice fa fn fc, .slice ma mn mcc] 26 (0, 0)) := by
    rw [← e0]
    exact (heap_alloc_old _ _ (by simp; omega)).trans ((heap_alloc_old _ _ (by simp)).trans (heap_alloc_last w _))
  have B2 : w0.heap[w.heap.size + 1]? = some (.cells #[.string ⟨s.toArray⟩] 9 (0, 0)) := by
    rw [← e0]
    have := heap_alloc_last (w.alloc (.cells #[.slice pa pn pc, .string ⟨cc.name.toArray⟩, .string ⟨cc.super.toArray⟩, .slice fa fn fc, .slice ma mn mcc] 26)) (.cells #[.string ⟨s.toArray⟩] 9)
    have e : (w.alloc (.cells #[.slice pa pn pc, .string ⟨cc.name.toArray⟩, .string ⟨cc.super.toArray⟩, .slice fa fn fc, .slice ma mn mcc] 26)).heap.size = w.heap.size + 1 := by simp
    rw [e] at this
    exact (heap_alloc_old _ _ (by simp)).trans this
  have B3 : w0.heap[w.heap.size + 2]? = some (.cells #[.string ⟨t.toArray⟩] 9 (0, 0)) := by
    rw [← e0]
    have := heap_alloc_last ((w.alloc (.cells #[.slice pa pn pc, .string ⟨cc.name.toArray⟩, .string ⟨cc.super.toArray⟩, .slice fa fn fc, .slice ma mn mcc] 26)).alloc (.cells #[.string ⟨s.toArray⟩] 9)) (.cells #[.string ⟨t.toArray⟩] 9)
    have e : ((w.alloc (.cells #[.slice pa pn pc, .string ⟨cc.name.toArray⟩, .string ⟨cc.super.toArray⟩, .slice fa fn fc, .slice ma mn mcc] 26)).alloc (.cells #[.string ⟨s.toArray⟩] 9)).heap.size = w.heap.size + 2 := by simp
    rw [e] at this
    exact this
  rw [e0] at b0
  have q4 : w0.cell? ⟨w.heap.size, 4, none⟩ = some (.slice ma mn mcc) := by rw [cell_of_row _ _ _ _ _ _ B1]; rfl
  have r1 : w0.cell? ⟨w.heap.size + 1, 0, none⟩ = some (.string ⟨s.toArray⟩) := by rw [cell_of_row _ _ _ _ _ _ B2]; rfl
  have r2 : w0.cell? ⟨w.heap.size + 2, 0, none⟩ = some (.string ⟨t.toArray⟩) := by rw [cell_of_row _ _ _ _ _ _ B3]; rfl
  have HI := slIndexM_any w0 ma mn mcc mr (hM.mono b0 (fun _ h => h.below b0)) s t (w.heap.size + 1) (w.heap.size + 2) r1 r2
  rw [← hsame] at HI
  obtain ⟨FK, hFK⟩ : ∃ FK, FK = findK cc.methods s t := ⟨_, rfl⟩
  rw [← hFK] at HI ⊢
  have HI1 := hide HI
  have E0 := hide e0
  have F0 := hide b0
  clear HI e0 b0 B1 B2 B3 hC hM hFK hsame r1 r2
  generalize (⟨cc.name.toArray⟩ : ByteArray) = s1 at *
  generalize (⟨cc.super.toArray⟩ : ByteArray) = s2 at *
  generalize (⟨s.toArray⟩ : ByteArray) = s3 at *
  generalize (⟨t.toArray⟩ : ByteArray) = s4 at *
  have e0 := unhide E0
  go_enter Tryd.func5, Tryd.ntmps5
  go_wp2_with fail
  refine (unhide HI1).mono ?_
  rintro e w1 ⟨⟨z, rfl, hz⟩, f1⟩
  have F1 := hide ((unhide F0).trans (f1.mono (unhide F0).size))
  clear f1 e0 HI1 q4
  rcases hz with ⟨rfl, hz⟩ | ⟨hz0, hz1, hz⟩
  · subst hz
    go_wp2
    go_ret2
    exact ⟨rfl, unhide F1⟩
  · subst hz
    have hz2 : ¬ z < 0 := by omega
    go_wp2
    go_ret2
    exact ⟨rfl, unhide F1⟩
end Go.Proofs.YthhdfokcciibmaaDoor
