/- Joined: ShN ShL. -/
import Derived.Test.YthenefjoidckkaaGreatDoorJS5
import Derived.Test.YthenefjoidckkaaGreatDoorJN
import Derived.Test.YthenefjoidckkaaGreatDoorJC
import Derived.BigRegion

/- Layer 11: a local is set. -/
namespace Go.Proofs.YthenefjoidckkaaGreatDoor
open Go.RowKit
set_option linter.unusedVariables false
set_option maxRecDepth 100000

theorem Orw.put2 {e : TypeId} {W : World} {base g n c : Nat} {l : List Ty} (h : Orw tyc e 2 W base (.slice (some ⟨g, 0, none⟩) n c) l) {k : Nat} (hk : k < n) (T : Ty) : Orw tyc e 2 ((W.setCell ⟨g, k * 2, none⟩ (.int .i64 T.kind)).setCell ⟨g, k * 2 + 1, none⟩ (.string ⟨T.name.toArray⟩)) base (.slice (some ⟨g, 0, none⟩) n c) (l.set k T) := by
  show Orw tyc e 2 (W.setCells g (k * 2) (tyc T)) base (.slice (some ⟨g, 0, none⟩) n c) (l.set k T)
  have hln : l.length = n := by obtain ⟨_, _, e', _⟩ := h.form; injection e' with _ e2 _; exact e2.symm
  have hkl : k < l.length := by omega
  have hsp : l = l.take k ++ (l[k] :: l.drop (k + 1)) := by rw [← List.drop_eq_getElem_cons hkl, List.take_append_drop]
  have h' := h
  unfold Orw at h'
  rw [hln] at h'
  obtain ⟨ys, q1, q2⟩ := stored_all (tyc T) (k * 2) W _ h'
  have hys := q2 ((l.take k).flatMap tyc) (tyc l[k]) ((l.drop (k + 1)).flatMap tyc) (by
    conv => lhs; rw [hsp]
    rw [List.flatMap_append, List.flatMap_cons]) (by rw [flatR_len (cs := tyc) (sz := 2) (fun _ => rfl), List.length_take, Nat.min_eq_left (by omega)]) rfl
  have el : l.set k T = l.take k ++ T :: l.drop (k + 1) := List.set_eq_take_append_cons_drop.trans (if_pos hkl)
  unfold Orw
  rw [List.length_set, hln]
  have : (l.set k T).flatMap tyc = ys := by rw [hys, el, List.flatMap_append, List.flatMap_cons]
  rw [this]
  exact q1
theorem orw_zero {e : TypeId} {W : World} {base : Nat} {a : Option Addr} {n c : Nat} {l : List Ty} (h : Orw tyc e 2 W base (.slice a n c) l) (hn : n ≠ 0) : ∃ g, a = some ⟨g, 0, none⟩ ∧ base ≤ g ∧ (∀ q, W.frozen? ⟨g, q, none⟩ = false) ∧ ∀ (k : Nat) T, l[k]? = some T → W.cell? ⟨g, k * 2, none⟩ = some (.int .i64 T.kind) ∧ W.cell? ⟨g, k * 2 + 1, none⟩ = some (.string ⟨T.name.toArray⟩) := by
  have hln : l.length = n := by obtain ⟨_, _, e', _⟩ := h.form; injection e' with _ e2 _; exact e2.symm
  rcases h.2 with ⟨hv, h0⟩ | ⟨g, cap, cur, hv, hb, hh, hc1, hc2, hsz, htk⟩
  · omega
  · injection hv with ea en ec
    refine ⟨g, ea, hb, fun q => bx_thaw hh q, fun k T hT => ?_⟩
    have h2 := fun (q : Nat) (u : Value) (hu : (tyc T)[q]? = some u) => flatR_at (cs := tyc) (sz := 2) (fun _ => rfl) l k T hT q u hu
    rw [← htk] at h2
    have h3 : ∀ (q : Nat) (u : Value), (tyc T)[q]? = some u → W.cell? ⟨g, k * 2 + q, none⟩ = some u := fun q u hu => by
      rw [cell_of_row _ _ _ _ _ _ hh]
      have h4 := h2 q u hu
      rw [List.getElem?_take] at h4
      split at h4
      · simpa using h4
      · cases h4
    exact ⟨h3 0 _ rfl, h3 1 _ rfl⟩
section
variable {C : Wcx} {x : Wst} {s h a : Sl} {W : World} {g n c : Nat}
/-- A local is written. -/
theorem Wk.putL (k : Wk C x ⟨some ⟨g, 0, none⟩, n, c⟩ s h a W) {i : Nat} (hi : i < n) (T : Ty) : Wk C { x with lo := x.lo.set i T } ⟨some ⟨g, 0, none⟩, n, c⟩ s h a ((W.setCell ⟨g, i * 2, none⟩ (.int .i64 T.kind)).setCell ⟨g, i * 2 + 1, none⟩ (.string ⟨T.name.toArray⟩)) := by
  have gX : C.X ≠ g := fun e => row_ne k.ol k.blk (by decide) rfl e.symm
  have hB : C.w0.heap.size ≤ g := (k.ol.lt g rfl).1
  have oth : ∀ {v : Sl} {u : List Ty}, Orw tyc 52 2 W C.w0.heap.size v.v u → Dis v ⟨some ⟨g, 0, none⟩, n, c⟩ → Orw tyc 52 2 ((W.setCell ⟨g, i * 2, none⟩ (.int .i64 T.kind)).setCell ⟨g, i * 2 + 1, none⟩ (.string ⟨T.name.toArray⟩)) C.w0.heap.size v.v u := fun {v u} o d => o.below fun j hj => by
    have hne : j ≠ g := fun e => d j hj (by rw [e]; rfl)
    exact (heap_setCell_other _ _ _ _ hne).trans (heap_setCell_other _ _ _ _ hne)
  exact ⟨((heap_setCell_other _ _ _ _ gX).trans (heap_setCell_other _ _ _ _ gX)).trans k.blk, k.ol.put2 hi T, oth k.os k.sl, oth k.oh k.lh.symm, oth k.oa k.la.symm, k.sl, k.sh, k.sa, k.lh, k.la, k.ha, (k.bel.setCell (p := ⟨g, i * 2, none⟩) hB _).setCell (p := ⟨g, i * 2 + 1, none⟩) hB _, k.hX⟩
theorem KeepsW.putL (k : Wk C x ⟨some ⟨g, 0, none⟩, n, c⟩ s h a W) (i : Nat) (u v : Value) : KeepsW C W ((W.setCell ⟨g, i * 2, none⟩ u).setCell ⟨g, i * 2 + 1, none⟩ v) := ⟨by simp, fun j Z t fr hj _ ht => by
  have hne : j ≠ g := fun e => by
    obtain ⟨Y, fr', hY, _⟩ := orw_blk0 k.ol (k := g) rfl
    rw [e, hY] at hj
    injection hj with hj
    injection hj with _ hj
    exact ht hj.symm
  exact ((heap_setCell_other _ _ _ _ hne).trans (heap_setCell_other _ _ _ _ hne)).trans hj⟩
end
theorem wide1_is (T : Ty) : (wideN [T] : Int) = wide1 T := by
  unfold wideN wide1
  by_cases h : T.kind = 2
  · simp [h]
  · simp [h]
theorem WsOk.putL {x : Wst} (ok : WsOk x) (i : Nat) {T : Ty} (hT : nmOk T) : WsOk { x with lo := x.lo.set i T } := ⟨ok.st, fun t ht => by
  rcases List.mem_or_eq_of_mem_set ht with h | h
  · exact ok.lo t h
  · rw [h]; exact hT, ok.ha, ok.ow, ok.ar, ok.to_⟩
set_option maxHeartbeats 2000000 in
theorem w11setLocal_any (C : Wcx) (x : Wst) (W : World) (k : WK C x W) (hC : Cok C) (h0 : x.ha ≠ []) (hs : x.st.length + x.ha.length ≤ 100000000) (hlo : x.lo.length ≤ 1000000000) :
    Calls Tryz.prog 79 #[.pointer (some ⟨C.X, 0, none⟩)] W fun e w' => Dp C W (setLocalD C.p.A x) e w' := by
  obtain ⟨T, hT⟩ : ∃ T, x.ha.head? = some T := by cases hx : x.ha with
    | nil => exact absurd hx h0
    | cons t u => exact ⟨t, rfl⟩
  have hT0 : x.ha[0]? = some T := by rw [← List.head?_eq_getElem?]; exact hT
  have HD : Hid (setLocalD C.p.A x = if C.p.A < 0 ∨ (x.lo.length : Int) - wide1 T < C.p.A then none else some { x with lo := setL x.lo C.p.A.toNat T }) := by show _ = _; unfold setLocalD; rw [hT]
  obtain ⟨ok, ⟨la, ln, lc⟩, s, ⟨ha, hn, hc⟩, a, k⟩ := k
  have hTn := ok.ha T (List.mem_of_getElem? hT0)
  obtain ⟨b, o, hta, q0, q1, hlt⟩ := k.handAt hT0
  simp only at hta hlt
  subst hta
  obtain ⟨_, _, c6, c9, _, c11, _⟩ := k.cells
  simp only at c9 c11
  have hlt1 : (0 : Int) < (hn : Int) := by omega
  rw [Nat.zero_mul, Nat.add_zero] at q0 q1
  have hln := (WK.len k).1
  simp only at hln
  have al : ∀ {p : Addr} {v : Value} (Z : Obj), W.cell? p = some v → (W.alloc Z).cell? p = some v := fun {p v} Z h => ((bA (Below.refl _ _) Z : Below W.heap.size W _).cell (World.block_lt_of_cell? W _ h)).trans h
  have q0' := fun Z => al Z q0
  have q1' := fun Z => al Z q1
  have c6' := fun Z => al Z c6
  have c9' := fun Z => al Z c9
  have c11' := fun Z => al Z c11
  have HLT : Hid (∀ j, (⟨la, ln, lc⟩ : Sl).v.ownBlock = some j → j < W.heap.size) := fun j hj => (k.ol.lt j hj).2
  have HK := hide (And.intro ok k)
  have HLN := hide hln
  have HLO := hide hlo
  have HTN := hide hTn
  clear al
  clear k ok hT hT0 h0 hs hln hlo hTn
  generalize C.p.A = A at HD c6 c6' ⊢
  go_enter Tryz.func79, Tryz.ntmps79
  go_wp2
  go_region
  obtain ⟨w1, hw1⟩ : ∃ w1, w1 = (W.alloc (.cells #[.int .i64 T.kind, .string ⟨T.name.toArray⟩] 52)).drew := ⟨_, rfl⟩
  have f1 : Below W.heap.size W w1 := by rw [hw1]; exact (bA (Below.refl _ _) _).drew
  have hb1 : Bx2c w1 W.heap.size (.int .i64 T.kind) (.string ⟨T.name.toArray⟩) := by rw [hw1]; exact (Bx2c.made _ _ _).keep (Below.refl _ _).drew
  rw [← hw1]
  have k1 := (unhide HK).2.below f1
  have HK1 := hide k1
  have HB1 := hide hb1
  have HOK := hide (unhide HK).1
  have F1 := hide f1
  have HW := hide (yWide_any (w1.alloc (.cells #[.int .i64 T.kind, .string ⟨T.name.toArray⟩] 52)) (some ⟨w1.heap.size, 0, none⟩) 1 1 [T] (ls_one (cs := tyc) (sz := 2) w1 _ _ T rfl) (by omega))
  rw [wide1_is] at HW
  obtain ⟨e0, e1, _⟩ := hb1.cells
  have hwd : wide1 T = 1 ∨ wide1 T = 2 := by unfold wide1; split <;> simp
  clear hb1 k1 f1 q0' q1' c6' c9' c11' q0 q1 c6 c9 c11 hw1 HK
  by_cases hA : A < 0
  · rw [if_pos (.inl hA)] at HD
    go_wp2
    go_ret
    rw [unhide HD]
    exact ⟨rfl, ⟨x, unhide HOK, _, _, _, _, unhide HK1⟩, KeepsW.below (unhide F1)⟩
  obtain ⟨i, rfl⟩ : ∃ i : Nat, A = i := ⟨A.toNat, by omega⟩
  have hlnb : ln ≤ 1000000000 := by have := unhide HLN; have := unhide HLO; omega
  have hwl : IntKind.i64.wrap ((ln : Int) - (wide1 T : Int)) = (ln : Int) - (wide1 T : Int) := by rw [IntKind.wrap_i64]; omega
  rw [Int.toNat_natCast, ← unhide HLN] at HD
  by_cases hle : (ln : Int) - (wide1 T : Int) < (i : Int)
  · rw [if_pos (.inr hle)] at HD
    generalize (wide1 T : Int) = D at *
    go_wp2_with fail
    refine (unhide HW).mono ?_
    rintro e w2 ⟨rfl, f2⟩
    have F2 := hide ((bA (Below.refl _ w1) _).trans (f2.mono (by simp)))
    clear f2 HW
    go_wp2
    go_ret
    rw [unhide HD]
    exact ⟨rfl, ⟨x, unhide HOK, _, _, _, _, (unhide HK1).below (unhide F2)⟩, (KeepsW.below (unhide F1)).trans (KeepsW.below (unhide F2))⟩
  rw [if_neg (fun h => h.elim hA hle)] at HD
  have hin : i < ln := by omega
  go_wp2_with fail
  refine (unhide HW).mono ?_
  rintro e w2 ⟨rfl, f2⟩
  have f12 := (bA (Below.refl _ w1) (.cells #[.int .i64 T.kind, .string ⟨T.name.toArray⟩] 52)).trans (f2.mono (by simp))
  have k2 := (unhide HK1).below f12
  have hb2 := (unhide HB1).keep f12
  obtain ⟨g, hg, hgB, tz, rows⟩ := orw_zero k2.ol (by show ln ≠ 0; omega)
  simp only at hg
  subst hg
  have F2 := hide ((KeepsW.below (C := C) (unhide F1)).trans (KeepsW.below f12))
  obtain ⟨U, hU⟩ : ∃ U, x.lo[i]? = some U := ⟨_, List.getElem?_eq_getElem (by have := unhide HLN; omega)⟩
  obtain ⟨u0, u1⟩ := rows i U hU
  have gr : W.heap.size ≠ g := by have := unhide HLT g rfl; omega
  obtain ⟨v0, v1, _⟩ := hb2.cells
  have HK2 := hide k2
  have HB2 := hide hb2
  clear f2 f12 k2 hb2 HW HK1 HB1 F1 rows
  have HK3 := hide ((unhide HK2).putL hin T)
  have HP3 := hide ((unhide F2).trans (KeepsW.putL (unhide HK2) i (.int .i64 T.kind) (.string ⟨T.name.toArray⟩)))
  have HL3 := hide (p11isLong_any ((w2.setCell ⟨g, i * 2, none⟩ (.int .i64 T.kind)).setCell ⟨g, i * 2 + 1, none⟩ (.string ⟨T.name.toArray⟩)) T)
  have HOK3 := hide ((unhide HOK).putL i (unhide HTN))
  unfold tyV isLongB at HL3
  clear F2 HK2
  by_cases hT2 : T.kind = 2
  · have hw2 : wide1 T = 2 := if_pos hT2
    rw [decide_eq_true hT2] at HL3
    have HT2 := hide hT2
    clear hT2
    go_wp2_with fail
    generalize (w2.setCell ⟨g, i * 2, none⟩ (.int .i64 T.kind)).setCell ⟨g, i * 2 + 1, none⟩ (.string ⟨T.name.toArray⟩) = w3 at *
    refine (unhide HL3).mono ?_
    rintro e w4 ⟨rfl, f4⟩
    have k4 := (unhide HK3).below f4
    obtain ⟨_, hg4, _, tz4, rows4⟩ := orw_zero k4.ol (by show ln ≠ 0; omega)
    simp only at hg4
    injection hg4 with hg4
    injection hg4 with hg4
    subst hg4
    have hi1 : i + 1 < ln := by omega
    obtain ⟨_, hV'⟩ : ∃ V, (x.lo.set i T)[i + 1]? = some V := ⟨_, List.getElem?_eq_getElem (by rw [List.length_set]; have := unhide HLN; omega)⟩
    obtain ⟨r0, r1⟩ := rows4 (i + 1) _ hV'
    have hz6 : ((i + 1 : Nat) : Int) = (i : Int) + 1 := by omega
    have hz7 : IntKind.i64.wrap ((i : Int) + 1) = (i : Int) + 1 := by rw [IntKind.wrap_i64]; omega
    have hz8 : (i : Int) + 1 < (ln : Int) := by omega
    have hz9 : ((i : Int) + 1).toNat = i + 1 := by omega
    have k5 := k4.putL (i := i + 1) hi1 ty0
    have kp5 := ((unhide HP3).trans (KeepsW.below f4)).trans (KeepsW.putL k4 (i + 1) (.int .i64 0) (.string ⟨#[]⟩))
    have ok5 := (unhide HOK3).putL (i + 1) (T := ty0) (by unfold nmOk ty0; simp)
    have hy5' : (x.lo.set i T).set (i + 1) ty0 = setL1 x.lo i T := by unfold setL1; rw [if_pos (unhide HT2)]
    simp only at k5 ok5
    have X5 := hide (And.intro k5 (And.intro kp5 (And.intro ok5 hy5')))
    clear rows4 f4 k4 HL3 hV' k5 kp5 ok5 hy5' HK3 HP3 HOK3
    go_upto_region 7 with fail
    obtain ⟨k5, kp5, ok5, hy5'⟩ := unhide X5
    obtain ⟨ll, hll⟩ : ∃ ll, ll = (x.lo.set i T).set (i + 1) ty0 := ⟨_, rfl⟩
    rw [← hll] at k5 ok5 hy5'
    have k5' : Wk C { x with lo := ll } ⟨some ⟨g, 0, none⟩, ln, lc⟩ s ⟨some ⟨b, o, none⟩, hn, hc⟩ a ((w4.setCell ⟨g, (i + 1) * 2, none⟩ (.int .i64 0)).setCell ⟨g, (i + 1) * 2 + 1, none⟩ (.string ⟨#[]⟩)) := k5
    have hy5 : ll = setL1 x.lo i T := hy5'
    clear X5 k5 hy5' hll r0 r1 hz6 hz7 hz8 hz9 tz4
    generalize (w4.setCell ⟨g, (i + 1) * 2, none⟩ (.int .i64 0)).setCell ⟨g, (i + 1) * 2 + 1, none⟩ (.string ⟨#[]⟩) = w5 at *
    have k5 := k5'
    clear k5'
    have HS5 : Hid (ll = setL1 x.lo i T) := hy5
    have HK5 := hide k5
    have HOK5 := hide ok5
    have HKP5 := hide kp5
    clear hy5 k5 ok5 kp5
    rcases Nat.eq_zero_or_pos i with hi0 | hi0
    · subst hi0
      have hset : setL x.lo 0 T = ll := by unfold setL; rw [if_neg (fun h => absurd h.1 (by omega)), ← unhide HS5]
      go_wp2
      go_ret
      rw [unhide HD, hset]
      exact ⟨rfl, ⟨unhide HOK5, _, _, _, _, unhide HK5⟩, unhide HKP5⟩
    · obtain ⟨j, rfl⟩ : ∃ j, i = j + 1 := ⟨i - 1, by omega⟩
      have hjl : j < ll.length := by have := (WK.len (unhide HK5)).1; simp only at this; omega
      obtain ⟨V, hV⟩ : ∃ V, ll[j]? = some V := ⟨_, List.getElem?_eq_getElem hjl⟩
      obtain ⟨_, hg5, _, tz5, rows5⟩ := orw_zero (unhide HK5).ol (by show ln ≠ 0; omega)
      simp only at hg5
      injection hg5 with hg5
      injection hg5 with hg5
      subst hg5
      obtain ⟨p0, p1⟩ := rows5 j V hV
      have HV := hide (p11isLong_any w5 V)
      have hz1 : ((j + 1 : Nat) : Int) - 1 = (j : Int) := by omega
      have hz2 : (j : Int) + 1 - 1 = (j : Int) := by omega
      have hz3 : IntKind.i64.wrap (j : Int) = (j : Int) := by rw [IntKind.wrap_i64]; omega
      have hz4 : (0 : Int) < (j : Int) + 1 := by omega
      have hz5 : (j : Int) < (ln : Int) := by omega
      unfold tyV isLongB at HV
      clear rows5
      by_cases hV2 : V.kind = 2
      · have hset : setL x.lo (j + 1) T = ll.set j ty0 := by
          unfold setL
          rw [← unhide HS5, Nat.add_sub_cancel, hV, if_pos ⟨by omega, by simp [hV2]⟩]
        rw [decide_eq_true hV2] at HV
        clear hV hV2
        go_wp2_with fail
        refine (unhide HV).mono ?_
        rintro e w6 ⟨rfl, f6⟩
        have k6 := (unhide HK5).below f6
        obtain ⟨_, hg6, _, tz6, rows6⟩ := orw_zero k6.ol (by show ln ≠ 0; omega)
        simp only at hg6
        injection hg6 with hg6
        injection hg6 with hg6
        subst hg6
        obtain ⟨_, hV'⟩ : ∃ V, ll[j]? = some V := ⟨_, List.getElem?_eq_getElem hjl⟩
        obtain ⟨r0, r1⟩ := rows6 j _ hV'
        have HK7 := hide (k6.putL (i := j) (by omega) ty0)
        have HKP7 := hide (((unhide HKP5).trans (KeepsW.below f6)).trans (KeepsW.putL k6 j (.int .i64 0) (.string ⟨#[]⟩)))
        clear rows6 f6 k6 HV p0 p1 tz5 hV'
        go_wp2
        go_ret
        rw [unhide HD, hset]
        exact ⟨rfl, ⟨(unhide HOK5).putL j (by unfold nmOk ty0; simp), _, _, _, _, unhide HK7⟩, unhide HKP7⟩
      · have hset : setL x.lo (j + 1) T = ll := by
          unfold setL
          rw [← unhide HS5, Nat.add_sub_cancel, hV, if_neg (fun h => hV2 (by simpa using h.2))]
        rw [decide_eq_false hV2] at HV
        clear hV
        go_wp2_with fail
        refine (unhide HV).mono ?_
        rintro e w6 ⟨rfl, f6⟩
        have HK7 := hide ((unhide HK5).below f6)
        have HKP7 := hide ((unhide HKP5).trans (KeepsW.below f6))
        clear f6 HV p0 p1 tz5
        go_wp2
        go_ret
        rw [unhide HD, hset]
        exact ⟨rfl, ⟨unhide HOK5, _, _, _, _, unhide HK7⟩, unhide HKP7⟩
  · rw [decide_eq_false hT2] at HL3
    go_wp2_with fail
    generalize (w2.setCell ⟨g, i * 2, none⟩ (.int .i64 T.kind)).setCell ⟨g, i * 2 + 1, none⟩ (.string ⟨T.name.toArray⟩) = w3 at *
    refine (unhide HL3).mono ?_
    rintro e w5 ⟨rfl, f5⟩
    have k5 := (unhide HK3).below f5
    obtain ⟨ll, hy⟩ : ∃ ll, ll = x.lo.set i T := ⟨_, rfl⟩
    have kp5 := (unhide HP3).trans (KeepsW.below f5)
    have ok5 := unhide HOK3
    have hy5 : ll = setL1 x.lo i T := by rw [hy]; unfold setL1; rw [if_neg hT2]
    clear f5 HL3 HK3 HP3 HOK3
    rw [← hy] at k5 ok5
    clear hy
    have HS5 : Hid (ll = setL1 x.lo i T) := hy5
    have HK5 := hide k5
    have HOK5 := hide ok5
    have HKP5 := hide kp5
    clear hy5 k5 ok5 kp5
    rcases Nat.eq_zero_or_pos i with hi0 | hi0
    · subst hi0
      have hset : setL x.lo 0 T = ll := by unfold setL; rw [if_neg (fun h => absurd h.1 (by omega)), ← unhide HS5]
      go_wp2
      go_ret
      rw [unhide HD, hset]
      exact ⟨rfl, ⟨unhide HOK5, _, _, _, _, unhide HK5⟩, unhide HKP5⟩
    · obtain ⟨j, rfl⟩ : ∃ j, i = j + 1 := ⟨i - 1, by omega⟩
      have hjl : j < ll.length := by have := (WK.len (unhide HK5)).1; simp only at this; omega
      obtain ⟨V, hV⟩ : ∃ V, ll[j]? = some V := ⟨_, List.getElem?_eq_getElem hjl⟩
      obtain ⟨_, hg5, _, tz5, rows5⟩ := orw_zero (unhide HK5).ol (by show ln ≠ 0; omega)
      simp only at hg5
      injection hg5 with hg5
      injection hg5 with hg5
      subst hg5
      obtain ⟨p0, p1⟩ := rows5 j V hV
      have HV := hide (p11isLong_any w5 V)
      have hz1 : ((j + 1 : Nat) : Int) - 1 = (j : Int) := by omega
      have hz2 : (j : Int) + 1 - 1 = (j : Int) := by omega
      have hz3 : IntKind.i64.wrap (j : Int) = (j : Int) := by rw [IntKind.wrap_i64]; omega
      have hz4 : (0 : Int) < (j : Int) + 1 := by omega
      have hz5 : (j : Int) < (ln : Int) := by omega
      unfold tyV isLongB at HV
      clear rows5
      by_cases hV2 : V.kind = 2
      · have hset : setL x.lo (j + 1) T = ll.set j ty0 := by
          unfold setL
          rw [← unhide HS5, Nat.add_sub_cancel, hV, if_pos ⟨by omega, by simp [hV2]⟩]
        rw [decide_eq_true hV2] at HV
        clear hV hV2
        go_wp2_with fail
        refine (unhide HV).mono ?_
        rintro e w6 ⟨rfl, f6⟩
        have k6 := (unhide HK5).below f6
        obtain ⟨_, hg6, _, tz6, rows6⟩ := orw_zero k6.ol (by show ln ≠ 0; omega)
        simp only at hg6
        injection hg6 with hg6
        injection hg6 with hg6
        subst hg6
        obtain ⟨_, hV'⟩ : ∃ V, ll[j]? = some V := ⟨_, List.getElem?_eq_getElem hjl⟩
        obtain ⟨r0, r1⟩ := rows6 j _ hV'
        have HK7 := hide (k6.putL (i := j) (by omega) ty0)
        have HKP7 := hide (((unhide HKP5).trans (KeepsW.below f6)).trans (KeepsW.putL k6 j (.int .i64 0) (.string ⟨#[]⟩)))
        clear rows6 f6 k6 HV p0 p1 tz5 hV'
        go_wp2
        go_ret
        rw [unhide HD, hset]
        exact ⟨rfl, ⟨(unhide HOK5).putL j (by unfold nmOk ty0; simp), _, _, _, _, unhide HK7⟩, unhide HKP7⟩
      · have hset : setL x.lo (j + 1) T = ll := by
          unfold setL
          rw [← unhide HS5, Nat.add_sub_cancel, hV, if_neg (fun h => hV2 (by simpa using h.2))]
        rw [decide_eq_false hV2] at HV
        clear hV
        go_wp2_with fail
        refine (unhide HV).mono ?_
        rintro e w6 ⟨rfl, f6⟩
        have HK7 := hide ((unhide HK5).below f6)
        have HKP7 := hide ((unhide HKP5).trans (KeepsW.below f6))
        clear f6 HV p0 p1 tz5
        go_wp2
        go_ret
        rw [unhide HD, hset]
        exact ⟨rfl, ⟨unhide HOK5, _, _, _, _, unhide HK7⟩, unhide HKP7⟩

end Go.Proofs.YthenefjoidckkaaGreatDoor

/- Layer 11: what the constant tells. -/
namespace Go.Proofs.YthenefjoidckkaaGreatDoor
open Go.RowKit
set_option linter.unusedVariables false
set_option maxRecDepth 100000

/-- The pool of a work. -/
structure Pok (C : Wcx) : Prop where
  es : Es C.w0 C.pl.a C.pl.n C.p.en
  pn : C.pl.n ≤ 140737488351232
  fit : (∀ x ∈ C.p.en, x.text.length ≤ 140737488355328) ∧ ∀ x ∈ C.p.en, EntFit x
  A : -9223372036854775808 ≤ C.p.A ∧ C.p.A ≤ 9223372036854775807
theorem Wk.owner {C : Wcx} {x : Wst} {l s h a : Sl} {W : World} (k : Wk C x l s h a W) (t : Ty) : Wk C { x with ow := t } l s h a ((W.setCell ⟨C.X, 12, none⟩ (.int .i64 t.kind)).setCell ⟨C.X, 13, none⟩ (.string ⟨t.name.toArray⟩)) := by
  have b1 := heap_setCell_same W C.X 12 _ _ (.int .i64 t.kind) k.blk
  have b2 := heap_setCell_same _ C.X 13 _ _ (.string ⟨t.name.toArray⟩) b1
  have rr : ∀ {v : Value} {u : List Ty}, Orw tyc 52 2 W C.w0.heap.size v u → Orw tyc 52 2 ((W.setCell ⟨C.X, 12, none⟩ (.int .i64 t.kind)).setCell ⟨C.X, 13, none⟩ (.string ⟨t.name.toArray⟩)) C.w0.heap.size v u := fun {v u} o => o.below fun j hj => (heap_setCell_other _ _ _ _ (row_ne o k.blk (by decide) hj)).trans (heap_setCell_other _ _ _ _ (row_ne o k.blk (by decide) hj))
  exact ⟨b2, rr k.ol, rr k.os, rr k.oh, rr k.oa, k.sl, k.sh, k.sa, k.lh, k.la, k.ha, (k.bel.setCell (p := ⟨C.X, 12, none⟩) k.hX _).setCell (p := ⟨C.X, 13, none⟩) k.hX _, k.hX⟩
theorem Wk.told {C : Wcx} {x : Wst} {l s h a : Sl} {W : World} (k : Wk C x l s h a W) (t : Ty) : Wk C { x with to_ := t } l s h a ((W.setCell ⟨C.X, 15, none⟩ (.int .i64 t.kind)).setCell ⟨C.X, 16, none⟩ (.string ⟨t.name.toArray⟩)) := by
  have b1 := heap_setCell_same W C.X 15 _ _ (.int .i64 t.kind) k.blk
  have b2 := heap_setCell_same _ C.X 16 _ _ (.string ⟨t.name.toArray⟩) b1
  have rr : ∀ {v : Value} {u : List Ty}, Orw tyc 52 2 W C.w0.heap.size v u → Orw tyc 52 2 ((W.setCell ⟨C.X, 15, none⟩ (.int .i64 t.kind)).setCell ⟨C.X, 16, none⟩ (.string ⟨t.name.toArray⟩)) C.w0.heap.size v u := fun {v u} o => o.below fun j hj => (heap_setCell_other _ _ _ _ (row_ne o k.blk (by decide) hj)).trans (heap_setCell_other _ _ _ _ (row_ne o k.blk (by decide) hj))
  exact ⟨b2, rr k.ol, rr k.os, rr k.oh, rr k.oa, k.sl, k.sh, k.sa, k.lh, k.la, k.ha, (k.bel.setCell (p := ⟨C.X, 15, none⟩) k.hX _).setCell (p := ⟨C.X, 16, none⟩) k.hX _, k.hX⟩
theorem WK.owner {C : Wcx} {x : Wst} {W : World} (k : WK C x W) (t : Ty) (ht : nmOk t) : WK C { x with ow := t } ((W.setCell ⟨C.X, 12, none⟩ (.int .i64 t.kind)).setCell ⟨C.X, 13, none⟩ (.string ⟨t.name.toArray⟩)) := by
  obtain ⟨ok, l, s, h, a, k⟩ := k
  exact ⟨⟨ok.st, ok.lo, ok.ha, ht, ok.ar, ok.to_⟩, l, s, h, a, k.owner t⟩
theorem WK.told {C : Wcx} {x : Wst} {W : World} (k : WK C x W) (t : Ty) (ht : nmOk t) : WK C { x with to_ := t } ((W.setCell ⟨C.X, 15, none⟩ (.int .i64 t.kind)).setCell ⟨C.X, 16, none⟩ (.string ⟨t.name.toArray⟩)) := by
  obtain ⟨ok, l, s, h, a, k⟩ := k
  exact ⟨⟨ok.st, ok.lo, ok.ha, ok.ow, ok.ar, ht⟩, l, s, h, a, k.told t⟩
/-- The arguments are another row. -/
theorem Wk.args {C : Wcx} {x : Wst} {l s h a : Sl} {W : World} (k : Wk C x l s h a W) (a' : Sl) (u : List Ty) (o : Orw tyc 52 2 W C.w0.heap.size a'.v u) (d : Dis s a' ∧ Dis l a' ∧ Dis h a') : Wk C { x with ar := u } l s h a' (W.setCell ⟨C.X, 14, none⟩ a'.v) := by
  have b1 := heap_setCell_same W C.X 14 _ _ a'.v k.blk
  exact ⟨b1, k.rowX k.ol 14 _, k.rowX k.os 14 _, k.rowX k.oh 14 _, k.rowX o 14 _, k.sl, k.sh, d.1, k.lh, d.2.1, d.2.2, k.bel.setCell (p := ⟨C.X, 14, none⟩) k.hX _, k.hX⟩
theorem WK.thaw {C : Wcx} {x : Wst} {W : World} (k : WK C x W) : (∀ q, W.frozen? ⟨C.X, q, none⟩ = false) ∧ ∃ v, W.cell? ⟨C.X, 14, none⟩ = some v := by
  obtain ⟨_, _, _, _, _, k⟩ := k
  exact ⟨k.cells.2.2.2.2.2.2, _, bx_cell k.blk 14 _ rfl⟩
theorem WK.pool {C : Wcx} {x : Wst} {W : World} (k : WK C x W) (hP : Pok C) : W.cell? ⟨C.X, 1, none⟩ = some (.slice C.pl.a C.pl.n C.pl.c) ∧ Es W C.pl.a C.pl.n C.p.en := by
  obtain ⟨_, _, _, _, _, k⟩ := k
  exact ⟨bx_cell k.blk 1 _ rfl, hP.es.below k.bel⟩
/-- A block that is none of its own. -/
theorem WK.off {C : Wcx} {x : Wst} {W W' : World} (k : WK C x W) {r : Nat} (hr : ∀ j, j ≠ r → W'.heap[j]? = W.heap[j]?) {Z : Array Value} {T : TypeId} (hb : W.heap[r]? = some (.cells Z T (0, 0))) (hT : T ≠ 52) (hX : r ≠ C.X) (hbel : Below C.w0.heap.size C.w0 W') : WK C x W' := by
  obtain ⟨ok, l, s, h, a, k⟩ := k
  have rr : ∀ {v : Value} {u : List Ty}, Orw tyc 52 2 W C.w0.heap.size v u → Orw tyc 52 2 W' C.w0.heap.size v u := fun {v u} o => o.below fun j hj => hr j (row_ne o hb (Ne.symm hT) hj)
  exact ⟨ok, l, s, h, a, ⟨(hr _ (Ne.symm hX)).trans k.blk, rr k.ol, rr k.os, rr k.oh, rr k.oa, k.sl, k.sh, k.sa, k.lh, k.la, k.ha, hbel, k.hX⟩⟩
theorem KeepsW.off {C : Wcx} {V W W' : World} (h : KeepsW C V W) {r : Nat} (hr : ∀ j, j ≠ r → W'.heap[j]? = W.heap[j]?) (hV : V.heap.size ≤ r) (hz : W.heap.size ≤ W'.heap.size) : KeepsW C V W' := ⟨Nat.le_trans h.1 hz, fun k Z t fr hk h1 h2 => (hr k (fun e => by have := lt_of_heap hk; omega)).trans (h.2 k Z t fr hk h1 h2)⟩
theorem five_other {W : World} {A j : Nat} (c0 c1 c2 c3 c4 : Value) (h : j ≠ A) : (((((W.setCell ⟨A, 0, none⟩ c0).setCell ⟨A, 1, none⟩ c1).setCell ⟨A, 2, none⟩ c2).setCell ⟨A, 3, none⟩ c3).setCell ⟨A, 4, none⟩ c4).heap[j]? = W.heap[j]? := by
  rw [heap_setCell_other _ _ _ _ h, heap_setCell_other _ _ _ _ h, heap_setCell_other _ _ _ _ h, heap_setCell_other _ _ _ _ h, heap_setCell_other _ _ _ _ h]
theorem WK.bel {C : Wcx} {x : Wst} {W : World} (k : WK C x W) : Below C.w0.heap.size C.w0 W ∧ C.w0.heap.size ≤ C.X ∧ C.X < W.heap.size := by
  obtain ⟨_, _, _, _, _, k⟩ := k
  exact ⟨k.bel, k.hX, lt_of_heap k.blk⟩
def con_post (C : Wcx) (x : Wst) (W : World) (tag : Int) (e : Ending) (w' : World) : Prop := e = .returned (.tuple #[cstV (constP C.p.en C.p.A).1, .bool (decide ((constP C.p.en C.p.A).2 = 0) && decide ((constP C.p.en C.p.A).1.tag = tag))]) ∧ WK C { x with ow := refT (constP C.p.en C.p.A).1.cls } w' ∧ KeepsW C W w'
set_option maxHeartbeats 4000000 in
theorem w11constant_any (C : Wcx) (x : Wst) (W : World) (k : WK C x W) (hP : Pok C) (tag : Int) :
    Calls Tryz.prog 118 #[.pointer (some ⟨C.X, 0, none⟩), .int .i64 tag] W fun e w' => con_post C x W tag e w' := by
  obtain ⟨w0, hw0⟩ : ∃ w0, w0 = W.alloc (.cells #[.int .i64 0, .int .i64 0, .string ⟨#[]⟩, .string ⟨#[]⟩, .string ⟨#[]⟩] 120) := ⟨_, rfl⟩
  have f0 : Below W.heap.size W w0 := by rw [hw0]; exact bA (Below.refl _ _) _
  have hz0 : w0.heap.size = W.heap.size + 1 := by rw [hw0]; simp
  have hb0 : w0.heap[W.heap.size]? = some (.cells #[.int .i64 0, .int .i64 0, .string ⟨#[]⟩, .string ⟨#[]⟩, .string ⟨#[]⟩] 120 (0, 0)) := by rw [hw0]; exact heap_alloc_last _ _
  have k0 := k.below f0
  obtain ⟨c1, hes⟩ := k0.pool hP
  have c6 := k0.c56.2
  obtain ⟨hcl, _⟩ := const_len C.p.en C.p.A
  have HPe : Hid (∀ W', Below w0.heap.size w0 W' → Calls Tryz.prog 135 #[.slice C.pl.a C.pl.n C.pl.c, .int .i64 C.p.A] W' fun e w' => e = .returned (.tuple #[cstV (constP C.p.en C.p.A).1, .int .i64 (constP C.p.en C.p.A).2]) ∧ Below W'.heap.size W' w') := fun W' f => kConst_any W' C.pl.a C.pl.n C.pl.c C.p.en (hes.below f) C.p.A hP.A hP.pn hP.fit
  unfold con_post
  generalize constP C.p.en C.p.A = E at *
  obtain ⟨⟨ct, cn, cc, cm, cy⟩, ee⟩ := E
  unfold cstV at *
  simp only at HPe hcl ⊢
  have HA : Hid (∀ W', Below w0.heap.size w0 W' → Calls Tryz.prog 135 #[.slice C.pl.a C.pl.n C.pl.c, .int .i64 C.p.A] W' fun e w' => e = .returned (.tuple #[.agg #[.int .i64 ct, .int .i64 cn, .string ⟨cc.toArray⟩, .string ⟨cm.toArray⟩, .string ⟨cy.toArray⟩], .int .i64 ee]) ∧ Below w0.heap.size w0 w') := fun W' f => (unhide HPe W' f).mono fun e w' h => ⟨h.1, f.trans (h.2.mono f.size)⟩
  have HB : Hid (∀ W', Below w0.heap.size w0 W' → W'.heap[w0.heap.size]? = some (.cells #[.int .i64 0, .int .i64 0, .string ⟨#[]⟩, .string ⟨#[]⟩, .string ⟨#[]⟩] 120 (0, 0)) → Calls Tryz.prog 135 #[.slice C.pl.a C.pl.n C.pl.c, .int .i64 C.p.A] W' fun e w' => e = .returned (.tuple #[.agg #[.int .i64 ct, .int .i64 cn, .string ⟨cc.toArray⟩, .string ⟨cm.toArray⟩, .string ⟨cy.toArray⟩], .int .i64 ee]) ∧ Below w0.heap.size w0 w' ∧ w'.heap[w0.heap.size]? = some (.cells #[.int .i64 0, .int .i64 0, .string ⟨#[]⟩, .string ⟨#[]⟩, .string ⟨#[]⟩] 120 (0, 0))) := fun W' f hb => (unhide HPe W' f).mono fun e w' h => ⟨h.1, f.trans (h.2.mono f.size), (h.2.block _ (lt_of_heap hb)).trans hb⟩
  have al : ∀ {p : Addr} {v : Value} (Z : Obj), w0.cell? p = some v → (w0.alloc Z).cell? p = some v := fun {p v} Z h => ((bA (Below.refl _ _) Z : Below w0.heap.size w0 _).cell (World.block_lt_of_cell? w0 _ h)).trans h
  have c1' := fun Z => al Z c1
  have c6' := fun Z => al Z c6
  have nX : ¬ C.X = w0.heap.size := by have := World.block_lt_of_cell? w0 _ c1; simp only at this; omega
  have HW0 := hide hw0
  have HK0 := hide k0
  have X0 := hide (And.intro f0 (And.intro hz0 hb0))
  have HKW := hide k
  clear HPe k k0 hes hw0 f0 hz0 hb0
  clear al
  go_enter Tryz.func118, Tryz.ntmps118
  go_wp2_with fail
  rw [← unhide HW0]
  go_cut [6, 7] from 8 (fun v6 v7 wr => ∃ r, v6 = .pointer (some ⟨r, 0, none⟩) ∧ v7 = .int .i64 ee ∧ Below w0.heap.size w0 wr ∧ w0.heap.size ≤ r ∧ wr.heap[r]? = some (.cells #[.int .i64 ct, .int .i64 cn, .string ⟨cc.toArray⟩, .string ⟨cm.toArray⟩, .string ⟨cy.toArray⟩] 120 (0, 0)))
  case first =>
    go_region_with
      (first
      | (go_at_call 135; refine Calls.mono (unhide HB _ (by repeat (first | exact Below.refl _ _ | refine Below.drew ?_ | refine bA ?_ _)) (by exact heap_alloc_last _ _)) ?_; rintro e w2 ⟨rfl, f2, b2⟩; have z2 : ∀ q, w2.frozen? ⟨w0.heap.size, q, none⟩ = false := fun q => bx_thaw b2 q; obtain ⟨z10, z11, z12, z13, z14⟩ := cstC (x := cst0) b2; have HB2 := hide b2; have F2 := hide f2; clear b2 f2)
      | (go_at_call 135; refine Calls.mono (unhide HA _ (by repeat (first | exact Below.refl _ _ | refine Below.drew ?_ | refine bA ?_ _))) ?_; rintro e w2 ⟨rfl, f2⟩; have F2 := hide f2; clear f2))
    all_goals
      go_wp2
      go_meet
      case rel =>
        first
        | exact ⟨w2.heap.size, rfl, rfl, bA (unhide F2) _, (unhide F2).size, heap_alloc_last _ _⟩
        | exact ⟨w0.heap.size, rfl, rfl, five_bel _ _ _ _ _ (unhide F2) (Nat.le_refl _), Nat.le_refl _, five_set _ _ _ _ _ (unhide HB2)⟩
  case rest =>
    obtain ⟨r, rfl, rfl, fc, hr0, bc⟩ := hcut
    obtain ⟨f0, hz0, hb0⟩ := unhide X0
    have kc := (unhide HK0).below fc
    have bz := (fc.block _ (lt_of_heap hb0)).trans hb0
    obtain ⟨q0, q1, q2, q3, q4⟩ := cstC (x := ⟨ct, cn, cc, cm, cy⟩) bc
    have HR := hide (p11ref_any wc ⟨cc.toArray⟩)
    have rX : r ≠ C.X := by have := (unhide HK0).bel; omega
    have RX : W.heap.size ≠ C.X := by have := (unhide HKW).bel; omega
    have rR : r ≠ W.heap.size := by omega
    have fWc : Below W.heap.size W wc := f0.trans (fc.mono (by omega))
    have H1 := hide (And.intro kc (And.intro bz (And.intro bc fWc)))
    simp only at q0 q1 q2 q3 q4
    clear fc kc bz bc fWc f0 hz0 hb0 X0 HA HB HK0 c1 c6 c1' c6'
    go_wp2_with fail
    refine (unhide HR).mono ?_
    rintro e w2 ⟨rfl, f2⟩
    obtain ⟨kc, bz, bc, fWc⟩ := unhide H1
    have k2 := kc.below f2
    have bz2 := (f2.block _ (lt_of_heap bz)).trans bz
    have bc2 := (f2.block _ (lt_of_heap bc)).trans bc
    have fW2 := fWc.trans (f2.mono fWc.size)
    obtain ⟨_, _, d0, d1, _, _⟩ := k2.cel
    obtain ⟨tX, _⟩ := k2.thaw
    have k3 := k2.owner (refT cc) (by unfold nmOk refT; simp only; omega)
    unfold refT at k3
    simp only at k3
    have bz3 : ((w2.setCell ⟨C.X, 12, none⟩ (.int .i64 4)).setCell ⟨C.X, 13, none⟩ (.string ⟨cc.toArray⟩)).heap[W.heap.size]? = _ := ((heap_setCell_other _ _ _ _ RX).trans (heap_setCell_other _ _ _ _ RX)).trans bz2
    have bc3 : ((w2.setCell ⟨C.X, 12, none⟩ (.int .i64 4)).setCell ⟨C.X, 13, none⟩ (.string ⟨cc.toArray⟩)).heap[r]? = _ := ((heap_setCell_other _ _ _ _ rX).trans (heap_setCell_other _ _ _ _ rX)).trans bc2
    have kp3 : KeepsW C W ((w2.setCell ⟨C.X, 12, none⟩ (.int .i64 4)).setCell ⟨C.X, 13, none⟩ (.string ⟨cc.toArray⟩)) := ((KeepsW.below fW2).trans (KeepsW.setX C _ _ _)).trans (KeepsW.setX C _ _ _)
    have H3 := hide (And.intro k3 (And.intro bz3 (And.intro bc3 kp3)))
    clear f2 HR H1 kc bz bc fWc k2 bz2 bc2 fW2 k3 bz3 bc3 kp3 q0 q1 q2 q3 q4
    go_wp2
    generalize (w2.setCell ⟨C.X, 12, none⟩ (.int .i64 4)).setCell ⟨C.X, 13, none⟩ (.string ⟨cc.toArray⟩) = w3 at *
    clear d0 d1 tX
    obtain ⟨k3, bz3, bc3, kp3⟩ := unhide H3
    obtain ⟨q0, q1, q2, q3, q4⟩ := cstC (x := ⟨ct, cn, cc, cm, cy⟩) bc3
    obtain ⟨y0, y1, y2, y3, y4⟩ := cstC (x := cst0) bz3
    have ty : ∀ q, w3.frozen? ⟨W.heap.size, q, none⟩ = false := fun q => bx_thaw bz3 q
    simp only at q0 q1 q2 q3 q4
    clear k3 bz3 bc3 kp3
    have rR' : ¬ W.heap.size = r := fun e => rR e.symm
    by_cases h0 : ee = 0
    · subst h0
      go_region
      go_wp2
      obtain ⟨k3, bz3, bc3, kp3⟩ := unhide H3
      have hb := (unhide HKW).bel
      refine bodyPost_ret (kcst_results Tryz.results118 _ W.heap.size _ rfl (by exact five_set _ _ _ _ _ bz3) _ rfl) rfl ⟨?_, ?_, ?_⟩
      · rfl
      · exact (k3.off (r := W.heap.size) (fun j hj => five_other _ _ _ _ _ hj) bz3 (by decide) RX (five_bel _ _ _ _ _ k3.bel.1 hb.1.size)).below (Below.refl _ _).drew
      · exact (kp3.off (r := W.heap.size) (fun j hj => five_other (.int .i64 ct) (.int .i64 cn) (.string ⟨cc.toArray⟩) (.string ⟨cm.toArray⟩) (.string ⟨cy.toArray⟩) hj) (Nat.le_refl _) (by simp)).trans (KeepsW.below (Below.refl _ _).drew)
    · have b0 : (ee == 0) = false := by simpa using h0
      go_region
      go_wp2
      obtain ⟨k3, bz3, bc3, kp3⟩ := unhide H3
      have hb := (unhide HKW).bel
      refine bodyPost_ret (kcst_results Tryz.results118 _ W.heap.size _ rfl (by exact five_set _ _ _ _ _ bz3) _ rfl) rfl ⟨?_, ?_, ?_⟩
      · rw [decide_eq_false h0]; rfl
      · exact (k3.off (r := W.heap.size) (fun j hj => five_other _ _ _ _ _ hj) bz3 (by decide) RX (five_bel _ _ _ _ _ k3.bel.1 hb.1.size)).below (Below.refl _ _).drew
      · exact (kp3.off (r := W.heap.size) (fun j hj => five_other (.int .i64 ct) (.int .i64 cn) (.string ⟨cc.toArray⟩) (.string ⟨cm.toArray⟩) (.string ⟨cy.toArray⟩) hj) (Nat.le_refl _) (by simp)).trans (KeepsW.below (Below.refl _ _).drew)
end Go.Proofs.YthenefjoidckkaaGreatDoor
