/- Layer 11: a local is set. -/
import Derived.Test.YthenefjoidckkaaGreatDoorJS5
import Derived.Test.YthenefjoidckkaaGreatDoorJN
import Derived.BigRegion

namespace Go.Proofs.YthenefjoidckkaaGreatDoor
open Go.RowKit
set_option linter.unusedVariables false
set_option maxRecDepth 100000

theorem Orw.put2 {e : TypeId} {W : World} {base g n c : Nat} {l : List Ty} (h : Orw tyc e 2 W base (.slice (some ⟨g, 0, none⟩) n c) l) {k : Nat} (hk : k < n) (T : Ty) : Orw tyc e 2 ((W.setCell ⟨g, k * 2, none⟩ (.int .i64 T.kind)).setCell ⟨g, k * 2 + 1, none⟩ (.string ⟨T.name.toArray⟩)) base (.slice (some ⟨g, 0, none⟩) n c) (l.set k T) := by
  show Orw tyc e 2 (W.setCells g (k * 2) (tyc T)) base (.slice (some ⟨g, 0, none⟩) n c) (l.set k T)
  have hln : l.length = n := by obtain ⟨_, _, e', _⟩ := h.form; injection e' with _ e2 _; exact e2.symm
  have hkl : k < l.length := by omega
  have hsp : l = l.take k ++ (l[k] :: l.drop (k + 1)) := by rw [← List.drop_eq_getElem_cons hkl, List.take_append_drop]
  have h' := h
  unfold Orw at h'
  rw [hln] at h'
  obtain ⟨ys, q1, q2⟩ := stored_all (tyc T) (k * 2) W _ h'
  have hys := q2 ((l.take k).flatMap tyc) (tyc l[k]) ((l.drop (k + 1)).flatMap tyc) (by
    conv => lhs; rw [hsp]
    rw [List.flatMap_append, List.flatMap_cons]) (by rw [flatR_len (cs := tyc) (sz := 2) (fun _ => rfl), List.length_take, Nat.min_eq_left (by omega)]) rfl
  have el : l.set k T = l.take k ++ T :: l.drop (k + 1) := List.set_eq_take_append_cons_drop.trans (if_pos hkl)
  unfold Orw
  rw [List.length_set, hln]
  have : (l.set k T).flatMap tyc = ys := by rw [hys, el, List.flatMap_append, List.flatMap_cons]
  rw [this]
  exact q1
theorem orw_zero {e : TypeId} {W : World} {base : Nat} {a : Option Addr} {n c : Nat} {l : List Ty} (h : Orw tyc e 2 W base (.slice a n c) l) (hn : n ≠ 0) : ∃ g, a = some ⟨g, 0, none⟩ ∧ base ≤ g ∧ (∀ q, W.frozen? ⟨g, q, none⟩ = false) ∧ ∀ (k : Nat) T, l[k]? = some T → W.cell? ⟨g, k * 2, none⟩ = some (.int .i64 T.kind) ∧ W.cell? ⟨g, k * 2 + 1, none⟩ = some (.string ⟨T.name.toArray⟩) := by
  have hln : l.length = n := by obtain ⟨_, _, e', _⟩ := h.form; injection e' with _ e2 _; exact e2.symm
  rcases h.2 with ⟨hv, h0⟩ | ⟨g, cap, cur, hv, hb, hh, hc1, hc2, hsz, htk⟩
  · omega
  · injection hv with ea en ec
    refine ⟨g, ea, hb, fun q => bx_thaw hh q, fun k T hT => ?_⟩
    have h2 := fun (q : Nat) (u : Value) (hu : (tyc T)[q]? = some u) => flatR_at (cs := tyc) (sz := 2) (fun _ => rfl) l k T hT q u hu
    rw [← htk] at h2
    have h3 : ∀ (q : Nat) (u : Value), (tyc T)[q]? = some u → W.cell? ⟨g, k * 2 + q, none⟩ = some u := fun q u hu => by
      rw [cell_of_row _ _ _ _ _ _ hh]
      have h4 := h2 q u hu
      rw [List.getElem?_take] at h4
      split at h4
      · simpa using h4
      · cases h4
    exact ⟨h3 0 _ rfl, h3 1 _ rfl⟩
section
variable {C : Wcx} {x : Wst} {s h a : Sl} {W : World} {g n c : Nat}
/-- A local is written. -/
theorem Wk.putL (k : Wk C x ⟨some ⟨g, 0, none⟩, n, c⟩ s h a W) {i : Nat} (hi : i < n) (T : Ty) : Wk C { x with lo := x.lo.set i T } ⟨some ⟨g, 0, none⟩, n, c⟩ s h a ((W.setCell ⟨g, i * 2, none⟩ (.int .i64 T.kind)).setCell ⟨g, i * 2 + 1, none⟩ (.string ⟨T.name.toArray⟩)) := by
  have gX : C.X ≠ g := fun e => row_ne k.ol k.blk (by decide) rfl e.symm
  have hB : C.w0.heap.size ≤ g := (k.ol.lt g rfl).1
  have oth : ∀ {v : Sl} {u : List Ty}, Orw tyc 52 2 W C.w0.heap.size v.v u → Dis v ⟨some ⟨g, 0, none⟩, n, c⟩ → Orw tyc 52 2 ((W.setCell ⟨g, i * 2, none⟩ (.int .i64 T.kind)).setCell ⟨g, i * 2 + 1, none⟩ (.string ⟨T.name.toArray⟩)) C.w0.heap.size v.v u := fun {v u} o d => o.below fun j hj => by
    have hne : j ≠ g := fun e => d j hj (by rw [e]; rfl)
    exact (heap_setCell_other _ _ _ _ hne).trans (heap_setCell_other _ _ _ _ hne)
  exact ⟨((heap_setCell_other _ _ _ _ gX).trans (heap_setCell_other _ _ _ _ gX)).trans k.blk, k.ol.put2 hi T, oth k.os k.sl, oth k.oh k.lh.symm, oth k.oa k.la.symm, k.sl, k.sh, k.sa, k.lh, k.la, k.ha, (k.bel.setCell (p := ⟨g, i * 2, none⟩) hB _).setCell (p := ⟨g, i * 2 + 1, none⟩) hB _, k.hX⟩
theorem KeepsW.putL (k : Wk C x ⟨some ⟨g, 0, none⟩, n, c⟩ s h a W) (i : Nat) (u v : Value) : KeepsW C W ((W.setCell ⟨g, i * 2, none⟩ u).setCell ⟨g, i * 2 + 1, none⟩ v) := ⟨by simp, fun j Z t fr hj _ ht => by
  have hne : j ≠ g := fun e => by
    obtain ⟨Y, fr', hY, _⟩ := orw_blk0 k.ol (k := g) rfl
    rw [e, hY] at hj
    injection hj with hj
    injection hj with _ hj
    exact ht hj.symm
  exact ((heap_setCell_other _ _ _ _ hne).trans (heap_setCell_other _ _ _ _ hne)).trans hj⟩
end
theorem wide1_is (T : Ty) : (wideN [T] : Int) = wide1 T := by
  unfold wideN wide1
  by_cases h : T.kind = 2
  · simp [h]
  · simp [h]
theorem WsOk.putL {x : Wst} (ok : WsOk x) (i : Nat) {T : Ty} (hT : nmOk T) : WsOk { x with lo := x.lo.set i T } := ⟨ok.st, fun t ht => by
  rcases List.mem_or_eq_of_mem_set ht with h | h
  · exact ok.lo t h
  · rw [h]; exact hT, ok.ha, ok.ow, ok.ar, ok.to_⟩
set_option maxHeartbeats 2000000 in
theorem w11setLocal_any (C : Wcx) (x : Wst) (W : World) (k : WK C x W) (hC : Cok C) (h0 : x.ha ≠ []) (hs : x.st.length + x.ha.length ≤ 100000000) (hlo : x.lo.length ≤ 1000000000) :
    Calls Tryz.prog 79 #[.pointer (some ⟨C.X, 0, none⟩)] W fun e w' => Dp C W (setLocalD C.p.A x) e w' := by
  obtain ⟨T, hT⟩ : ∃ T, x.ha.head? = some T := by cases hx : x.ha with
    | nil => exact absurd hx h0
    | cons t u => exact ⟨t, rfl⟩
  have hT0 : x.ha[0]? = some T := by rw [← List.head?_eq_getElem?]; exact hT
  have HD : Hid (setLocalD C.p.A x = if C.p.A < 0 ∨ (x.lo.length : Int) - wide1 T < C.p.A then none else some { x with lo := setL x.lo C.p.A.toNat T }) := by show _ = _; unfold setLocalD; rw [hT]
  obtain ⟨ok, ⟨la, ln, lc⟩, s, ⟨ha, hn, hc⟩, a, k⟩ := k
  have hTn := ok.ha T (List.mem_of_getElem? hT0)
  obtain ⟨b, o, hta, q0, q1, hlt⟩ := k.handAt hT0
  simp only at hta hlt
  subst hta
  obtain ⟨_, _, c6, c9, _, c11, _⟩ := k.cells
  simp only at c9 c11
  have hlt1 : (0 : Int) < (hn : Int) := by omega
  rw [Nat.zero_mul, Nat.add_zero] at q0 q1
  have hln := (WK.len k).1
  simp only at hln
  have al : ∀ {p : Addr} {v : Value} (Z : Obj), W.cell? p = some v → (W.alloc Z).cell? p = some v := fun {p v} Z h => ((bA (Below.refl _ _) Z : Below W.heap.size W _).cell (World.block_lt_of_cell? W _ h)).trans h
  have q0' := fun Z => al Z q0
  have q1' := fun Z => al Z q1
  have c6' := fun Z => al Z c6
  have c9' := fun Z => al Z c9
  have c11' := fun Z => al Z c11
  have HLT : Hid (∀ j, (⟨la, ln, lc⟩ : Sl).v.ownBlock = some j → j < W.heap.size) := fun j hj => (k.ol.lt j hj).2
  have HK := hide (And.intro ok k)
  have HLN := hide hln
  have HLO := hide hlo
  have HTN := hide hTn
  clear al
  clear k ok hT hT0 h0 hs hln hlo hTn
  generalize C.p.A = A at HD c6 c6' ⊢
  go_enter Tryz.func79, Tryz.ntmps79
  go_wp2
  go_region
  obtain ⟨w1, hw1⟩ : ∃ w1, w1 = (W.alloc (.cells #[.int .i64 T.kind, .string ⟨T.name.toArray⟩] 52)).drew := ⟨_, rfl⟩
  have f1 : Below W.heap.size W w1 := by rw [hw1]; exact (bA (Below.refl _ _) _).drew
  have hb1 : Bx2c w1 W.heap.size (.int .i64 T.kind) (.string ⟨T.name.toArray⟩) := by rw [hw1]; exact (Bx2c.made _ _ _).keep (Below.refl _ _).drew
  rw [← hw1]
  have k1 := (unhide HK).2.below f1
  have HK1 := hide k1
  have HB1 := hide hb1
  have HOK := hide (unhide HK).1
  have F1 := hide f1
  have HW := hide (yWide_any (w1.alloc (.cells #[.int .i64 T.kind, .string ⟨T.name.toArray⟩] 52)) (some ⟨w1.heap.size, 0, none⟩) 1 1 [T] (ls_one (cs := tyc) (sz := 2) w1 _ _ T rfl) (by omega))
  rw [wide1_is] at HW
  obtain ⟨e0, e1, _⟩ := hb1.cells
  have hwd : wide1 T = 1 ∨ wide1 T = 2 := by unfold wide1; split <;> simp
  clear hb1 k1 f1 q0' q1' c6' c9' c11' q0 q1 c6 c9 c11 hw1 HK
  by_cases hA : A < 0
  · rw [if_pos (.inl hA)] at HD
    go_wp2
    go_ret
    rw [unhide HD]
    exact ⟨rfl, ⟨x, unhide HOK, _, _, _, _, unhide HK1⟩, KeepsW.below (unhide F1)⟩
  obtain ⟨i, rfl⟩ : ∃ i : Nat, A = i := ⟨A.toNat, by omega⟩
  have hlnb : ln ≤ 1000000000 := by have := unhide HLN; have := unhide HLO; omega
  have hwl : IntKind.i64.wrap ((ln : Int) - (wide1 T : Int)) = (ln : Int) - (wide1 T : Int) := by rw [IntKind.wrap_i64]; omega
  rw [Int.toNat_natCast, ← unhide HLN] at HD
  by_cases hle : (ln : Int) - (wide1 T : Int) < (i : Int)
  · rw [if_pos (.inr hle)] at HD
    generalize (wide1 T : Int) = D at *
    go_wp2_with fail
    refine (unhide HW).mono ?_
    rintro e w2 ⟨rfl, f2⟩
    have F2 := hide ((bA (Below.refl _ w1) _).trans (f2.mono (by simp)))
    clear f2 HW
    go_wp2
    go_ret
    rw [unhide HD]
    exact ⟨rfl, ⟨x, unhide HOK, _, _, _, _, (unhide HK1).below (unhide F2)⟩, (KeepsW.below (unhide F1)).trans (KeepsW.below (unhide F2))⟩
  rw [if_neg (fun h => h.elim hA hle)] at HD
  have hin : i < ln := by omega
  go_wp2_with fail
  refine (unhide HW).mono ?_
  rintro e w2 ⟨rfl, f2⟩
  have f12 := (bA (Below.refl _ w1) (.cells #[.int .i64 T.kind, .string ⟨T.name.toArray⟩] 52)).trans (f2.mono (by simp))
  have k2 := (unhide HK1).below f12
  have hb2 := (unhide HB1).keep f12
  obtain ⟨g, hg, hgB, tz, rows⟩ := orw_zero k2.ol (by show ln ≠ 0; omega)
  simp only at hg
  subst hg
  have F2 := hide ((KeepsW.below (C := C) (unhide F1)).trans (KeepsW.below f12))
  obtain ⟨U, hU⟩ : ∃ U, x.lo[i]? = some U := ⟨_, List.getElem?_eq_getElem (by have := unhide HLN; omega)⟩
  obtain ⟨u0, u1⟩ := rows i U hU
  have gr : W.heap.size ≠ g := by have := unhide HLT g rfl; omega
  obtain ⟨v0, v1, _⟩ := hb2.cells
  have HK2 := hide k2
  have HB2 := hide hb2
  clear f2 f12 k2 hb2 HW HK1 HB1 F1 rows
  have HK3 := hide ((unhide HK2).putL hin T)
  have HP3 := hide ((unhide F2).trans (KeepsW.putL (unhide HK2) i (.int .i64 T.kind) (.string ⟨T.name.toArray⟩)))
  have HL3 := hide (p11isLong_any ((w2.setCell ⟨g, i * 2, none⟩ (.int .i64 T.kind)).setCell ⟨g, i * 2 + 1, none⟩ (.string ⟨T.name.toArray⟩)) T)
  have HOK3 := hide ((unhide HOK).putL i (unhide HTN))
  unfold tyV isLongB at HL3
  clear F2 HK2
  by_cases hT2 : T.kind = 2
  · have hw2 : wide1 T = 2 := if_pos hT2
    rw [decide_eq_true hT2] at HL3
    have HT2 := hide hT2
    clear hT2
    go_wp2_with fail
    generalize (w2.setCell ⟨g, i * 2, none⟩ (.int .i64 T.kind)).setCell ⟨g, i * 2 + 1, none⟩ (.string ⟨T.name.toArray⟩) = w3 at *
    refine (unhide HL3).mono ?_
    rintro e w4 ⟨rfl, f4⟩
    have k4 := (unhide HK3).below f4
    obtain ⟨_, hg4, _, tz4, rows4⟩ := orw_zero k4.ol (by show ln ≠ 0; omega)
    simp only at hg4
    injection hg4 with hg4
    injection hg4 with hg4
    subst hg4
    have hi1 : i + 1 < ln := by omega
    obtain ⟨_, hV'⟩ : ∃ V, (x.lo.set i T)[i + 1]? = some V := ⟨_, List.getElem?_eq_getElem (by rw [List.length_set]; have := unhide HLN; omega)⟩
    obtain ⟨r0, r1⟩ := rows4 (i + 1) _ hV'
    have hz6 : ((i + 1 : Nat) : Int) = (i : Int) + 1 := by omega
    have hz7 : IntKind.i64.wrap ((i : Int) + 1) = (i : Int) + 1 := by rw [IntKind.wrap_i64]; omega
    have hz8 : (i : Int) + 1 < (ln : Int) := by omega
    have hz9 : ((i : Int) + 1).toNat = i + 1 := by omega
    have k5 := k4.putL (i := i + 1) hi1 ty0
    have kp5 := ((unhide HP3).trans (KeepsW.below f4)).trans (KeepsW.putL k4 (i + 1) (.int .i64 0) (.string ⟨#[]⟩))
    have ok5 := (unhide HOK3).putL (i + 1) (T := ty0) (by unfold nmOk ty0; simp)
    have hy5' : (x.lo.set i T).set (i + 1) ty0 = setL1 x.lo i T := by unfold setL1; rw [if_pos (unhide HT2)]
    simp only at k5 ok5
    have X5 := hide (And.intro k5 (And.intro kp5 (And.intro ok5 hy5')))
    clear rows4 f4 k4 HL3 hV' k5 kp5 ok5 hy5' HK3 HP3 HOK3
    go_upto_region 7 with fail
    obtain ⟨k5, kp5, ok5, hy5'⟩ := unhide X5
    obtain ⟨ll, hll⟩ : ∃ ll, ll = (x.lo.set i T).set (i + 1) ty0 := ⟨_, rfl⟩
    rw [← hll] at k5 ok5 hy5'
    have k5' : Wk C { x with lo := ll } ⟨some ⟨g, 0, none⟩, ln, lc⟩ s ⟨some ⟨b, o, none⟩, hn, hc⟩ a ((w4.setCell ⟨g, (i + 1) * 2, none⟩ (.int .i64 0)).setCell ⟨g, (i + 1) * 2 + 1, none⟩ (.string ⟨#[]⟩)) := k5
    have hy5 : ll = setL1 x.lo i T := hy5'
    clear X5 k5 hy5' hll r0 r1 hz6 hz7 hz8 hz9 tz4
    generalize (w4.setCell ⟨g, (i + 1) * 2, none⟩ (.int .i64 0)).setCell ⟨g, (i + 1) * 2 + 1, none⟩ (.string ⟨#[]⟩) = w5 at *
    have k5 := k5'
    clear k5'
    have HS5 : Hid (ll = setL1 x.lo i T) := hy5
    have HK5 := hide k5
    have HOK5 := hide ok5
    have HKP5 := hide kp5
    clear hy5 k5 ok5 kp5
    rcases Nat.eq_zero_or_pos i with hi0 | hi0
    · subst hi0
      have hset : setL x.lo 0 T = ll := by unfold setL; rw [if_neg (fun h => absurd h.1 (by omega)), ← unhide HS5]
      go_wp2
      go_ret
      rw [unhide HD, hset]
      exact ⟨rfl, ⟨unhide HOK5, _, _, _, _, unhide HK5⟩, unhide HKP5⟩
    · obtain ⟨j, rfl⟩ : ∃ j, i = j + 1 := ⟨i - 1, by omega⟩
      have hjl : j < ll.length := by have := (WK.len (unhide HK5)).1; simp only at this; omega
      obtain ⟨V, hV⟩ : ∃ V, ll[j]? = some V := ⟨_, List.getElem?_eq_getElem hjl⟩
      obtain ⟨_, hg5, _, tz5, rows5⟩ := orw_zero (unhide HK5).ol (by show ln ≠ 0; omega)
      simp only at hg5
      injection hg5 with hg5
      injection hg5 with hg5
      subst hg5
      obtain ⟨p0, p1⟩ := rows5 j V hV
      have HV := hide (p11isLong_any w5 V)
      have hz1 : ((j + 1 : Nat) : Int) - 1 = (j : Int) := by omega
      have hz2 : (j : Int) + 1 - 1 = (j : Int) := by omega
      have hz3 : IntKind.i64.wrap (j : Int) = (j : Int) := by rw [IntKind.wrap_i64]; omega
      have hz4 : (0 : Int) < (j : Int) + 1 := by omega
      have hz5 : (j : Int) < (ln : Int) := by omega
      unfold tyV isLongB at HV
      clear rows5
      by_cases hV2 : V.kind = 2
      · have hset : setL x.lo (j + 1) T = ll.set j ty0 := by
          unfold setL
          rw [← unhide HS5, Nat.add_sub_cancel, hV, if_pos ⟨by omega, by simp [hV2]⟩]
        rw [decide_eq_true hV2] at HV
        clear hV hV2
        go_wp2_with fail
        refine (unhide HV).mono ?_
        rintro e w6 ⟨rfl, f6⟩
        have k6 := (unhide HK5).below f6
        obtain ⟨_, hg6, _, tz6, rows6⟩ := orw_zero k6.ol (by show ln ≠ 0; omega)
        simp only at hg6
        injection hg6 with hg6
        injection hg6 with hg6
        subst hg6
        obtain ⟨_, hV'⟩ : ∃ V, ll[j]? = some V := ⟨_, List.getElem?_eq_getElem hjl⟩
        obtain ⟨r0, r1⟩ := rows6 j _ hV'
        have HK7 := hide (k6.putL (i := j) (by omega) ty0)
        have HKP7 := hide (((unhide HKP5).trans (KeepsW.below f6)).trans (KeepsW.putL k6 j (.int .i64 0) (.string ⟨#[]⟩)))
        clear rows6 f6 k6 HV p0 p1 tz5 hV'
        go_wp2
        go_ret
        rw [unhide HD, hset]
        exact ⟨rfl, ⟨(unhide HOK5).putL j (by unfold nmOk ty0; simp), _, _, _, _, unhide HK7⟩, unhide HKP7⟩
      · have hset : setL x.lo (j + 1) T = ll := by
          unfold setL
          rw [← unhide HS5, Nat.add_sub_cancel, hV, if_neg (fun h => hV2 (by simpa using h.2))]
        rw [decide_eq_false hV2] at HV
        clear hV
        go_wp2_with fail
        refine (unhide HV).mono ?_
        rintro e w6 ⟨rfl, f6⟩
        have HK7 := hide ((unhide HK5).below f6)
        have HKP7 := hide ((unhide HKP5).trans (KeepsW.below f6))
        clear f6 HV p0 p1 tz5
        go_wp2
        go_ret
        rw [unhide HD, hset]
        exact ⟨rfl, ⟨unhide HOK5, _, _, _, _, unhide HK7⟩, unhide HKP7⟩
  · rw [decide_eq_false hT2] at HL3
    go_wp2_with fail
    generalize (w2.setCell ⟨g, i * 2, none⟩ (.int .i64 T.kind)).setCell ⟨g, i * 2 + 1, none⟩ (.string ⟨T.name.toArray⟩) = w3 at *
    refine (unhide HL3).mono ?_
    rintro e w5 ⟨rfl, f5⟩
    have k5 := (unhide HK3).below f5
    obtain ⟨ll, hy⟩ : ∃ ll, ll = x.lo.set i T := ⟨_, rfl⟩
    have kp5 := (unhide HP3).trans (KeepsW.below f5)
    have ok5 := unhide HOK3
    have hy5 : ll = setL1 x.lo i T := by rw [hy]; unfold setL1; rw [if_neg hT2]
    clear f5 HL3 HK3 HP3 HOK3
    rw [← hy] at k5 ok5
    clear hy
    have HS5 : Hid (ll = setL1 x.lo i T) := hy5
    have HK5 := hide k5
    have HOK5 := hide ok5
    have HKP5 := hide kp5
    clear hy5 k5 ok5 kp5
    rcases Nat.eq_zero_or_pos i with hi0 | hi0
    · subst hi0
      have hset : setL x.lo 0 T = ll := by unfold setL; rw [if_neg (fun h => absurd h.1 (by omega)), ← unhide HS5]
      go_wp2
      go_ret
      rw [unhide HD, hset]
      exact ⟨rfl, ⟨unhide HOK5, _, _, _, _, unhide HK5⟩, unhide HKP5⟩
    · obtain ⟨j, rfl⟩ : ∃ j, i = j + 1 := ⟨i - 1, by omega⟩
      have hjl : j < ll.length := by have := (WK.len (unhide HK5)).1; simp only at this; omega
      obtain ⟨V, hV⟩ : ∃ V, ll[j]? = some V := ⟨_, List.getElem?_eq_getElem hjl⟩
      obtain ⟨_, hg5, _, tz5, rows5⟩ := orw_zero (unhide HK5).ol (by show ln ≠ 0; omega)
      simp only at hg5
      injection hg5 with hg5
      injection hg5 with hg5
      subst hg5
      obtain ⟨p0, p1⟩ := rows5 j V hV
      have HV := hide (p11isLong_any w5 V)
      have hz1 : ((j + 1 : Nat) : Int) - 1 = (j : Int) := by omega
      have hz2 : (j : Int) + 1 - 1 = (j : Int) := by omega
      have hz3 : IntKind.i64.wrap (j : Int) = (j : Int) := by rw [IntKind.wrap_i64]; omega
      have hz4 : (0 : Int) < (j : Int) + 1 := by omega
      have hz5 : (j : Int) < (ln : Int) := by omega
      unfold tyV isLongB at HV
      clear rows5
      by_cases hV2 : V.kind = 2
      · have hset : setL x.lo (j + 1) T = ll.set j ty0 := by
          unfold setL
          rw [← unhide HS5, Nat.add_sub_cancel, hV, if_pos ⟨by omega, by simp [hV2]⟩]
        rw [decide_eq_true hV2] at HV
        clear hV hV2
        go_wp2_with fail
        refine (unhide HV).mono ?_
        rintro e w6 ⟨rfl, f6⟩
        have k6 := (unhide HK5).below f6
        obtain ⟨_, hg6, _, tz6, rows6⟩ := orw_zero k6.ol (by show ln ≠ 0; omega)
        simp only at hg6
        injection hg6 with hg6
        injection hg6 with hg6
        subst hg6
        obtain ⟨_, hV'⟩ : ∃ V, ll[j]? = some V := ⟨_, List.getElem?_eq_getElem hjl⟩
        obtain ⟨r0, r1⟩ := rows6 j _ hV'
        have HK7 := hide (k6.putL (i := j) (by omega) ty0)
        have HKP7 := hide (((unhide HKP5).trans (KeepsW.below f6)).trans (KeepsW.putL k6 j (.int .i64 0) (.string ⟨#[]⟩)))
        clear rows6 f6 k6 HV p0 p1 tz5 hV'
        go_wp2
        go_ret
        rw [unhide HD, hset]
        exact ⟨rfl, ⟨(unhide HOK5).putL j (by unfold nmOk ty0; simp), _, _, _, _, unhide HK7⟩, unhide HKP7⟩
      · have hset : setL x.lo (j + 1) T = ll := by
          unfold setL
          rw [← unhide HS5, Nat.add_sub_cancel, hV, if_neg (fun h => hV2 (by simpa using h.2))]
        rw [decide_eq_false hV2] at HV
        clear hV
        go_wp2_with fail
        refine (unhide HV).mono ?_
        rintro e w6 ⟨rfl, f6⟩
        have HK7 := hide ((unhide HK5).below f6)
        have HKP7 := hide ((unhide HKP5).trans (KeepsW.below f6))
        clear f6 HV p0 p1 tz5
        go_wp2
        go_ret
        rw [unhide HD, hset]
        exact ⟨rfl, ⟨unhide HOK5, _, _, _, _, unhide HK7⟩, unhide HKP7⟩

end Go.Proofs.YthenefjoidckkaaGreatDoor
