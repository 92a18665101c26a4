/- Layer 15, the landed code: Put. -/
import Derived.Test.YtgiohebbmjgefaaJHpI
import Derived.Test.YtgiohebbmjgefaaJH3

namespace Go.Proofs.Ytgiohebbmjgefaa
open Go.RowKit
set_option linter.unusedVariables false
set_option maxRecDepth 100000

set_option maxHeartbeats 3200000 in
theorem put_any (w : World) (s : Sl) (rs : List ObR) (h : HIn w s rs) (ty : List UInt8) (sx : Sl) (ws : List Vl) (hx : WsIn w sx ws) :
    Calls Try.prog 24 #[s.v, .agg #[.string ⟨ty.toArray⟩, sx.v]] w (putPost w (rs.map ObR.o) ⟨ty, ws⟩) := by
  have hln := h.ls.1
  have hsm := h.small
  have hwl := hx.ls.1
  have hws := hx.small
  obtain ⟨a, n, c⟩ := s
  obtain ⟨xa, xn, xc⟩ := sx
  simp only at hln hsm hwl hws
  obtain ⟨w0, e0, f0, r0⟩ : ∃ w0, w.alloc (.cells #[.string ⟨ty.toArray⟩, .slice xa xn xc] 29) = w0 ∧ Below w.heap.size w w0 ∧ w0.heap[w.heap.size]? = some (.cells #[.string ⟨ty.toArray⟩, .slice xa xn xc] 29 (0, 0)) := ⟨_, rfl, (Below.refl _ _).alloc (Nat.le_refl _) _, heap_alloc_last _ _⟩
  have KX : Hid (∀ W, Below w0.heap.size w0 W → W.cell? ⟨w.heap.size, 0, none⟩ = some (.string ⟨ty.toArray⟩) ∧ W.cell? ⟨w.heap.size, 1, none⟩ = some (.slice xa xn xc)) := fun W f => by
    have r1 := (f.block _ (lt_of_heap r0)).trans r0
    exact ⟨bx_cell r1 0 _ rfl, bx_cell r1 1 _ rfl⟩
  have KH : Hid (∀ W, Below w0.heap.size w0 W → HIn W ⟨a, n, c⟩ rs ∧ WsIn W ⟨xa, xn, xc⟩ ws ∧ Below w.heap.size w W) := fun W f => ⟨h.below (f0.trans (f.mono f0.size)), hx.below (f0.trans (f.mono f0.size)), f0.trans (f.mono f0.size)⟩
  have KP : Hid (∀ W, Below w0.heap.size w0 W → Calls Try.prog 10 #[.slice a n c] W fun e w' => e = .returned (.int .i64 (checkE (rs.map ObR.o))) ∧ Below W.heap.size W w') := fun W f => check_any W ⟨a, n, c⟩ rs (unhide KH W f).1
  have KF : Hid (∀ W, Below w0.heap.size w0 W → Calls Try.prog 34 #[.slice a n c, .func (.func 39) #[] #[]] W fun e w' => e = .returned (.int .i64 (firstH freeO (rs.map ObR.o) : Nat)) ∧ Below W.heap.size W w') := fun W f => firstF_any W ⟨a, n, c⟩ rs (unhide KH W f).1
  have KI : Hid (∀ W, Calls Try.prog 39 #[.agg #[.string ⟨ty.toArray⟩, .slice xa xn xc]] W fun e w' => e = .returned (.bool ty.isEmpty) ∧ Below W.heap.size W w') := fun W => isFree_any W ty ⟨xa, xn, xc⟩
  have KO : Hid (∀ W, Below w0.heap.size w0 W → Calls Try.prog 37 #[.agg #[.string ⟨ty.toArray⟩, .slice xa xn xc]] W fun e w' => ∃ g, e = .returned (.agg #[.string ⟨ty.toArray⟩, .slice (some ⟨g, 0, none⟩) ws.length ws.length]) ∧ Orw vlc 33 2 w' W.heap.size (.slice (some ⟨g, 0, none⟩) ws.length ws.length) ws ∧ Below W.heap.size W w') := fun W f => ownObject_any W ty ⟨xa, xn, xc⟩ ws (unhide KH W f).2.1
  have KB : Hid (∀ {W W2}, Below w0.heap.size w0 W → Below W.heap.size W W2 → Below w0.heap.size w0 W2) := fun f g => f.trans (g.mono f.size)
  have HF0 := hide (firstH_le freeO (rs.map ObR.o))
  have hlm : (rs.map ObR.o).length = n := by rw [List.length_map]; exact hln
  have H0 := hide (Below.refl w0.heap.size w0)
  clear f0 r0 h hx
  unfold Sl.v
  simp only
  generalize hPO : putPost w (rs.map ObR.o) ⟨ty, ws⟩ = PO
  have HPO := hide hPO
  clear hPO
  generalize hst : (⟨ty.toArray⟩ : ByteArray) = st at *
  go_enter Try.func24, Try.ntmps24
  go_wp2_with fail
  refine (unhide KP _ (unhide H0)).mono ?_
  rintro e w1 ⟨rfl, f1⟩
  have H1 := hide (unhide KB (unhide H0) f1)
  clear f1 KP H0 e0
  by_cases hc : checkH (rs.map ObR.o) = true
  case neg =>
    have HE := hide (putEH_bad (x := ⟨ty, ws⟩) hc)
    rw [checkE_no hc]
    clear hc
    go_wp2
    rw [← unhide HPO]
    go_ret3
    exact ⟨(unhide KH _ (unhide H1)).2.2, .inl ⟨by rw [unhide HE]; decide, by rw [unhide HE]; rfl⟩⟩
  rw [checkE_yes hc]
  have HCK := hide hc
  have hcl := check_len hc
  rw [hlm] at hcl
  obtain ⟨p0, p1⟩ := unhide KX _ (unhide H1)
  clear hc
  go_wp2_with fail
  refine (unhide KI _).mono ?_
  rintro e w2 ⟨rfl, f2⟩
  have H2 := hide (unhide KB (unhide H1) f2)
  clear f2 KI H1 p0 p1
  cases hf : ty.isEmpty
  case true =>
    have HE := hide (putEH_arg (x := ⟨ty, ws⟩) (unhide HCK) hf)
    go_wp2
    rw [← unhide HPO]
    go_ret3
    exact ⟨(unhide KH _ (unhide H2)).2.2, .inl ⟨by rw [unhide HE]; decide, by rw [unhide HE]; rfl⟩⟩
  have HNF : Hid (¬ freeO ⟨ty, ws⟩ = true) := fun e => by
    have : ty.isEmpty = true := e
    rw [hf] at this
    cases this
  go_wp2_with fail
  refine (unhide KF _ (unhide H2)).mono ?_
  rintro e w3 ⟨rfl, f3⟩
  have H3 := hide (unhide KB (unhide H2) f3)
  have hF := unhide HF0
  rw [hlm] at hF
  have HW := hide (fun W (f : Below w0.heap.size w0 W) => words_any W ⟨a, n, c⟩ rs (unhide KH W f).1 (by omega))
  simp only [Sl.v] at HW
  obtain ⟨F, hFe⟩ : ∃ F, F = firstH freeO (rs.map ObR.o) := ⟨_, rfl⟩
  obtain ⟨S, hSe⟩ : ∃ S, S = wordsH (rs.map ObR.o) := ⟨_, rfl⟩
  have HFE := hide hFe
  have HSE := hide hSe
  rw [← hFe] at hF ⊢
  rw [← hSe] at HW hcl
  clear f3 KF H2 hFe hSe HF0
  have hwr : IntKind.i64.wrap (65536 - (S : Int)) = 65536 - (S : Int) := by rw [IntKind.wrap_i64]; omega
  by_cases hk : F = 4096
  · have HE := hide (putEH_full (x := ⟨ty, ws⟩) (unhide HCK) (unhide HNF) (.inl (by rw [← unhide HFE]; exact hk)))
    subst hk
    go_wp2
    refine wp_region_seq (fun W => Below w0.heap.size w0 W) (by kernel_rfl) (by kernel_rfl) ((unhide H3).drew) ?_
    repeat (first
      | (refine SeqDo.skips (by rfl) ?_; simp only [Act.put, List.setIfInBounds_toArray, List.set_cons_zero, List.set_cons_succ])
      | (refine SeqDo.yields (v := ?_) (by rfl) ?_ ?_; rotate_left; (focus ((intro W hSW; obtain ⟨p0, p1⟩ := unhide KX W hSW; go_simp) <;> with_reducible rfl)); simp only [Act.put, List.setIfInBounds_toArray, List.set_cons_zero, List.set_cons_succ]))
    intro W hSW
    have HW2 := hide hSW
    clear hSW
    go_wp2
    rw [← unhide HPO]
    go_ret3
    exact ⟨(unhide KH _ (unhide HW2)).2.2, .inl ⟨by rw [unhide HE]; decide, by rw [unhide HE]; rfl⟩⟩
  · have hk1 : ((F : Int) == 4096) = false := by
      simp
      omega
    have hk2 : ¬ (F : Int) = 4096 := by omega
    by_cases hs : 65536 < S + xn
    · have HE := hide (putEH_full (x := ⟨ty, ws⟩) (unhide HCK) (unhide HNF) (.inr (by rw [← unhide HSE]; simp only; omega)))
      have hs1 : 65536 - (S : Int) < (xn : Int) := by omega
      go_wp2
      refine wp_region_seq (fun W => Below w0.heap.size w0 W) (by kernel_rfl) (by kernel_rfl) ((unhide H3).drew) ?_
      repeat (first
        | (refine SeqDo.skips (by rfl) ?_; simp only [Act.put, List.setIfInBounds_toArray, List.set_cons_zero, List.set_cons_succ])
        | (refine SeqDo.yields (v := ?_) (by rfl) ?_ ?_; rotate_left; (focus ((intro W hSW; obtain ⟨p0, p1⟩ := unhide KX W hSW; go_simp) <;> with_reducible rfl)); simp only [Act.put, List.setIfInBounds_toArray, List.set_cons_zero, List.set_cons_succ])
        | (refine SeqDo.does (v := .int .i64 (S : Nat)) (by rfl) (fun W hSW KK hKK => ?_) ?_; (focus (go_simp; go_wp2_with (go_at_call 17; refine (unhide HW _ hSW).mono ?_; rintro e W' ⟨rfl, fJ⟩); exact hKK.out _ (unhide KB hSW fJ))); simp only [Act.put, List.setIfInBounds_toArray, List.set_cons_zero, List.set_cons_succ]))
      intro W hSW
      have HW2 := hide hSW
      clear hSW
      go_wp2
      rw [← unhide HPO]
      go_ret3
      exact ⟨(unhide KH _ (unhide HW2)).2.2, .inl ⟨by rw [unhide HE]; decide, by rw [unhide HE]; rfl⟩⟩
    · have HE := hide (putEH_ok (x := ⟨ty, ws⟩) (unhide HCK) (unhide HNF) (by rw [← unhide HSE, ← unhide HFE]; simp only; omega))
      have hs1 : ¬ 65536 - (S : Int) < (xn : Int) := by omega
      go_wp2
      refine wp_region_seq (fun W => Below w0.heap.size w0 W) (by kernel_rfl) (by kernel_rfl) ((unhide H3).drew) ?_
      repeat (first
        | (refine SeqDo.skips (by rfl) ?_; simp only [Act.put, List.setIfInBounds_toArray, List.set_cons_zero, List.set_cons_succ])
        | (refine SeqDo.yields (v := ?_) (by rfl) ?_ ?_; rotate_left; (focus ((intro W hSW; obtain ⟨p0, p1⟩ := unhide KX W hSW; go_simp) <;> with_reducible rfl)); simp only [Act.put, List.setIfInBounds_toArray, List.set_cons_zero, List.set_cons_succ])
        | (refine SeqDo.does (v := .int .i64 (S : Nat)) (by rfl) (fun W hSW KK hKK => ?_) ?_; (focus (go_simp; go_wp2_with (go_at_call 17; refine (unhide HW _ hSW).mono ?_; rintro e W' ⟨rfl, fJ⟩); exact hKK.out _ (unhide KB hSW fJ))); simp only [Act.put, List.setIfInBounds_toArray, List.set_cons_zero, List.set_cons_succ]))
      intro W hSW
      have HW2 := hide hSW
      rcases Nat.lt_or_ge F n with hFn | hFn
      · have q1 : (F : Int) + 1 ≤ (n : Int) := by omega
        have hmax : max (n : Int) ((F : Int) + 1) = (n : Int) := by omega
        have hw1 : IntKind.i64.wrap ((F : Int) + 1) = (F : Int) + 1 := by rw [IntKind.wrap_i64]; omega
        have HOH := hide (ownHeap_any W ⟨a, n, c⟩ rs (unhide KH _ hSW).1 n (Nat.le_refl _) (by omega))
        simp only [Sl.v] at HOH
        clear hSW
        go_wp2_with fail
        refine (unhide HOH).mono ?_
        rintro e w4 ⟨g, dn, rfl, ho, hd, f4⟩
        have H4 := hide (unhide KB (unhide HW2) f4)
        have HO := hide ho
        have HB4 := hide ((unhide KH _ (unhide HW2)).2.2)
        have HD := hide hd
        obtain ⟨p0, p1⟩ := unhide KX _ (unhide H4)
        have KO4 := hide (unhide KO _ (unhide H4))
        clear ho hd f4 HOH hmax
        go_wp2_with fail
        refine (unhide KO4).mono ?_
        rintro e w5 ⟨g2, rfl, o5, f5⟩
        have r5 := orw_on (unhide HO).row f5
        have hdl : dn.length = n := by obtain ⟨_, _, e', _⟩ := r5.form; injection e' with _ e2 _; exact e2.symm
        obtain ⟨y, hy⟩ : ∃ y, dn[F]? = some y := ⟨_, List.getElem?_eq_getElem (by omega)⟩
        obtain ⟨g', cur, eg, hBg, hh, hz, q⟩ := r5.blkR rkO.len (by omega)
        injection eg with eg
        injection eg with eg
        subst eg
        have d0 := q F y hy 0 _ rfl
        have d1 := q F y hy 1 _ rfl
        rw [Nat.add_zero] at d0
        have z0 := bx_thaw hh (F * 2)
        have z1 := bx_thaw hh (F * 2 + 1)
        have HSET := hide ((unhide HO).set (k := F) (y := ⟨ty, ⟨some ⟨g2, 0, none⟩, ws.length, ws.length⟩, ws⟩) f5 (by have := (unhide HO).row.lt g rfl; omega) hFn o5)
        have hFM : (F : Int) < (n : Int) := by omega
        have F5 := hide (((unhide KH _ (unhide H4)).2.2).trans (f5.mono (unhide KH _ (unhide H4)).2.2.size))
        have HBG := hide (Nat.le_trans (unhide KH _ (unhide HW2)).2.2.size hBg)
        simp only [obc, Sl.v, hst, World.setCells, hwl] at HSET
        simp only [Sl.v] at d0 d1
        clear hy hBg hh hz q r5 o5 f5 p0 p1 KO KO4
        go_wp2
        rw [← unhide HPO]
        go_ret3
        have hmap : (dn.set F ⟨ty, ⟨some ⟨g2, 0, none⟩, xn, xn⟩, ws⟩).map ObR.o = putLH (rs.map ObR.o) ⟨ty, ws⟩ := by
          have h1 := put_set rs ⟨ty, ws⟩ n (by rw [← unhide HFE, hln, if_pos hFn])
          rw [← unhide HFE, hln] at h1
          rw [List.map_set, unhide HD]
          exact h1
        refine ⟨((unhide F5).setCell (p := ⟨g, F * 2, none⟩) (unhide HBG) _).setCell (p := ⟨g, F * 2 + 1, none⟩) (unhide HBG) _, .inr ⟨unhide HE, ⟨some ⟨g, 0, none⟩, n, n⟩, _, (unhide HSET).hin ?_ ?_, hmap, ?_⟩⟩
        · rw [List.length_set]
          omega
        · rw [hmap]
          have h1 := wordsH_put (rs.map ObR.o) ⟨ty, ws⟩
          rw [← unhide HSE] at h1
          simp only at h1
          omega
        · rw [← unhide HFE]
          rfl
      · obtain ⟨M, hM⟩ : ∃ M, M = F + 1 := ⟨_, rfl⟩
        have hFN : n = F := by omega
        have hmax : max (n : Int) (M : Int) = (M : Int) := by omega
        have hw1 : IntKind.i64.wrap ((F : Int) + 1) = (M : Int) := by rw [IntKind.wrap_i64]; omega
        have HM := hide hM
        have HFN := hide hFN
        have HOH := hide (ownHeap_any W ⟨a, n, c⟩ rs (unhide KH _ hSW).1 M (by show n ≤ M; omega) (by omega))
        simp only [Sl.v] at HOH
        clear hSW hM hFN
        go_wp2_with fail
        refine (unhide HOH).mono ?_
        rintro e w4 ⟨g, dn, rfl, ho, hd, f4⟩
        have H4 := hide (unhide KB (unhide HW2) f4)
        have HO := hide ho
        have HB4 := hide ((unhide KH _ (unhide HW2)).2.2)
        have HD := hide hd
        obtain ⟨p0, p1⟩ := unhide KX _ (unhide H4)
        have KO4 := hide (unhide KO _ (unhide H4))
        clear ho hd f4 HOH hmax
        go_wp2_with fail
        refine (unhide KO4).mono ?_
        rintro e w5 ⟨g2, rfl, o5, f5⟩
        have hM := unhide HM
        have hFN := unhide HFN
        have r5 := orw_on (unhide HO).row f5
        have hdl : dn.length = M := by obtain ⟨_, _, e', _⟩ := r5.form; injection e' with _ e2 _; exact e2.symm
        obtain ⟨y, hy⟩ : ∃ y, dn[F]? = some y := ⟨_, List.getElem?_eq_getElem (by omega)⟩
        obtain ⟨g', cur, eg, hBg, hh, hz, q⟩ := r5.blkR rkO.len (by omega)
        injection eg with eg
        injection eg with eg
        subst eg
        have d0 := q F y hy 0 _ rfl
        have d1 := q F y hy 1 _ rfl
        rw [Nat.add_zero] at d0
        have z0 := bx_thaw hh (F * 2)
        have z1 := bx_thaw hh (F * 2 + 1)
        have HSET := hide ((unhide HO).set (k := F) (y := ⟨ty, ⟨some ⟨g2, 0, none⟩, ws.length, ws.length⟩, ws⟩) f5 (by have := (unhide HO).row.lt g rfl; omega) (by omega) o5)
        have hFM : (F : Int) < (M : Int) := by omega
        have F5 := hide (((unhide KH _ (unhide H4)).2.2).trans (f5.mono (unhide KH _ (unhide H4)).2.2.size))
        have HBG := hide (Nat.le_trans (unhide KH _ (unhide HW2)).2.2.size hBg)
        simp only [obc, Sl.v, hst, World.setCells, hwl] at HSET
        simp only [Sl.v] at d0 d1
        clear hy hBg hh hz q r5 o5 f5 p0 p1 KO KO4 hM hFN
        go_wp2
        rw [← unhide HPO]
        go_ret3
        have hmap : (dn.set F ⟨ty, ⟨some ⟨g2, 0, none⟩, xn, xn⟩, ws⟩).map ObR.o = putLH (rs.map ObR.o) ⟨ty, ws⟩ := by
          have h1 := put_set rs ⟨ty, ws⟩ M (by have hM := unhide HM; have hFN := unhide HFN; rw [← unhide HFE, hln, if_neg (by omega)]; omega)
          rw [← unhide HFE, hln] at h1
          rw [List.map_set, unhide HD]
          exact h1
        refine ⟨((unhide F5).setCell (p := ⟨g, F * 2, none⟩) (unhide HBG) _).setCell (p := ⟨g, F * 2 + 1, none⟩) (unhide HBG) _, .inr ⟨unhide HE, ⟨some ⟨g, 0, none⟩, M, M⟩, _, (unhide HSET).hin ?_ ?_, hmap, ?_⟩⟩
        · have hM := unhide HM
          rw [List.length_set]
          omega
        · rw [hmap]
          have h1 := wordsH_put (rs.map ObR.o) ⟨ty, ws⟩
          rw [← unhide HSE] at h1
          simp only at h1
          omega
        · have hM := unhide HM
          rw [← unhide HFE, show ((F : Int) + 1) = (M : Int) by omega]
          rfl
end Go.Proofs.Ytgiohebbmjgefaa
