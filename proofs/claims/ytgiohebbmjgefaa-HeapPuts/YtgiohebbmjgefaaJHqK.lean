/- Layer 15, the document's side: Put. -/
import Derived.Test.YtgiohebbmjgefaaJHqA
import Derived.Test.YtgiohebbmjgefaaJHqB
import Derived.Test.YtgiohebbmjgefaaJH3

namespace Go.Proofs.Ytgiohebbmjgefaa
open Go.RowKit
set_option linter.unusedVariables false
set_option maxRecDepth 100000

theorem firstH_eq {f : Ob → Bool} {rs : List ObR} {k : Nat} {r : ObR} (hr : rs[k]? = some r) (hp : f r.o = true) (hf : ∀ (j : Nat) (r' : ObR), j < k → rs[j]? = some r' → f r'.o = false) : firstH f (rs.map ObR.o) = k := by
  have hk := (List.getElem?_eq_some_iff.1 hr).1
  unfold firstH
  rw [List.findIdx_eq (by rw [List.length_map]; exact hk)]
  refine ⟨by rw [List.getElem_map, (List.getElem?_eq_some_iff.1 hr).2]; exact hp, fun j hj => ?_⟩
  rw [List.getElem_map]
  exact hf j _ hj (List.getElem?_eq_getElem (by omega))
theorem firstH_none {f : Ob → Bool} {rs : List ObR} (hf : ∀ (j : Nat) (r' : ObR), j < rs.length → rs[j]? = some r' → f r'.o = false) : firstH f (rs.map ObR.o) = rs.length := by
  unfold firstH
  rw [← List.length_map (f := ObR.o), List.findIdx_eq_length]
  intro x hx
  obtain ⟨r, hr, rfl⟩ := List.mem_map.1 hx
  obtain ⟨j, hj⟩ := List.mem_iff_getElem?.1 hr
  exact hf j r ((List.getElem?_eq_some_iff.1 hj).1) hj
theorem hIn_one15 {w : World} {ty : List UInt8} {s : Sl} {ws : List Vl} (h : WsIn w s ws) : HIn (w.alloc (.cells #[.string ⟨ty.toArray⟩, s.v] 29)) ⟨some ⟨w.heap.size, 0, none⟩, 1, 1⟩ [⟨ty, s, ws⟩] :=
  ⟨ls_one (cs := obc) (sz := 2) w _ _ (ObR.mk ty s ws) rfl, Nat.le_refl _, by simp, (fun e => by cases e), by simp, fun x hx => by
    simp at hx
    subst hx
    exact h.below ((Below.refl _ _).alloc (Nat.le_refl _) _)⟩
set_option maxHeartbeats 6400000 in
theorem rput_any (w : World) (s : Sl) (rs : List ObR) (h : HIn w s rs) (ty : List UInt8) (sx : Sl) (ws : List Vl) (hx : WsIn w sx ws) :
    Calls Try.prog 25 #[s.v, .agg #[.string ⟨ty.toArray⟩, sx.v]] w (putPost w (rs.map ObR.o) ⟨ty, ws⟩) := by
  have hln := h.ls.1
  have hsm := h.small
  have hwl := hx.ls.1
  have hws := hx.small
  obtain ⟨a, n, c⟩ := s
  obtain ⟨xa, xn, xc⟩ := sx
  simp only at hln hsm hwl hws
  obtain ⟨w0, e0, f0, r0⟩ : ∃ w0, w.alloc (.cells #[.string ⟨ty.toArray⟩, .slice xa xn xc] 29) = w0 ∧ Below w.heap.size w w0 ∧ w0.heap[w.heap.size]? = some (.cells #[.string ⟨ty.toArray⟩, .slice xa xn xc] 29 (0, 0)) := ⟨_, rfl, (Below.refl _ _).alloc (Nat.le_refl _) _, heap_alloc_last _ _⟩
  have KX : Hid (∀ W, Below w0.heap.size w0 W → W.cell? ⟨w.heap.size, 0, none⟩ = some (.string ⟨ty.toArray⟩) ∧ W.cell? ⟨w.heap.size, 1, none⟩ = some (.slice xa xn xc)) := fun W f => by
    have r1 := (f.block _ (lt_of_heap r0)).trans r0
    exact ⟨bx_cell r1 0 _ rfl, bx_cell r1 1 _ rfl⟩
  have KH : Hid (∀ W, Below w0.heap.size w0 W → HIn W ⟨a, n, c⟩ rs ∧ WsIn W ⟨xa, xn, xc⟩ ws ∧ Below w.heap.size w W) := fun W f => ⟨h.below (f0.trans (f.mono f0.size)), hx.below (f0.trans (f.mono f0.size)), f0.trans (f.mono f0.size)⟩
  have KP : Hid (∀ W, Below w0.heap.size w0 W → Calls Try.prog 16 #[.slice a n c] W fun e w' => e = .returned (.int .i64 (checkE (rs.map ObR.o))) ∧ Below W.heap.size W w') := fun W f => rcheck_any W ⟨a, n, c⟩ rs (unhide KH W f).1
  have KB : Hid (∀ {W W2}, Below w0.heap.size w0 W → Below W.heap.size W W2 → Below w0.heap.size w0 W2) := fun f g => f.trans (g.mono f.size)
  have HF0 := hide (firstH_le freeO (rs.map ObR.o))
  have hlm : (rs.map ObR.o).length = n := by rw [List.length_map]; exact hln
  have H0 := hide (Below.refl w0.heap.size w0)
  have hty := ty_nil ty
  clear f0 r0 h hx
  unfold Sl.v
  simp only
  generalize hPO : putPost w (rs.map ObR.o) ⟨ty, ws⟩ = PO
  have HPO := hide hPO
  clear hPO
  generalize hst : (⟨ty.toArray⟩ : ByteArray) = st at *
  go_enter Try.func25, Try.ntmps25
  go_wp2_with fail
  refine (unhide KP _ (unhide H0)).mono ?_
  rintro e w1 ⟨rfl, f1⟩
  have H1 := hide (unhide KB (unhide H0) f1)
  clear f1 KP H0 e0
  by_cases hc : checkH (rs.map ObR.o) = true
  case neg =>
    have HE := hide (putEH_bad (x := ⟨ty, ws⟩) hc)
    rw [checkE_no hc]
    clear hc
    go_wp2
    rw [← unhide HPO]
    go_ret3
    exact ⟨(unhide KH _ (unhide H1)).2.2, .inl ⟨by rw [unhide HE]; decide, by rw [unhide HE]; rfl⟩⟩
  rw [checkE_yes hc]
  have HCK := hide hc
  have hcl := check_len hc
  rw [hlm] at hcl
  obtain ⟨p0, p1⟩ := unhide KX _ (unhide H1)
  clear hc
  cases hf : ty.isEmpty
  case true =>
    have HE := hide (putEH_arg (x := ⟨ty, ws⟩) (unhide HCK) hf)
    rw [hf] at hty
    have hty2 : st.toList = [] := by simpa using hty
    go_wp2
    rw [← unhide HPO]
    go_ret3
    exact ⟨(unhide KH _ (unhide H1)).2.2, .inl ⟨by rw [unhide HE]; decide, by rw [unhide HE]; rfl⟩⟩
  have HNF : Hid (¬ freeO ⟨ty, ws⟩ = true) := fun e => by
    have : ty.isEmpty = true := e
    rw [hf] at this
    cases this
  rw [hf] at hty
  have hty2 : ¬ st.toList = [] := by simpa using hty
  have HW := hide (fun W (f : Below w0.heap.size w0 W) => rwords_any W ⟨a, n, c⟩ rs (unhide KH W f).1 (by omega))
  simp only [Sl.v] at HW
  obtain ⟨S, hSe⟩ : ∃ S, S = wordsH (rs.map ObR.o) := ⟨_, rfl⟩
  have HSE := hide hSe
  rw [← hSe] at HW hcl
  clear hSe
  have hwr : IntKind.i64.wrap ((S : Int) + (xn : Int)) = (S : Int) + (xn : Int) := by rw [IntKind.wrap_i64]; omega
  by_cases hs : 65536 < S + xn
  · have HE := hide (putEH_full (x := ⟨ty, ws⟩) (unhide HCK) (unhide HNF) (.inr (by rw [← unhide HSE]; simp only; omega)))
    have hs1 : (65536 : Int) < (S : Int) + (xn : Int) := by omega
    go_wp2
    refine wp_region_seq (fun W => Below w0.heap.size w0 W) (by kernel_rfl) (by kernel_rfl) ((unhide H1).drew) ?_
    repeat (first
      | (refine SeqDo.yields (v := ?_) (by rfl) ?_ ?_; rotate_left; (focus ((intro W hSW; obtain ⟨p0, p1⟩ := unhide KX W hSW; go_simp) <;> with_reducible rfl)); simp only [Act.put, List.setIfInBounds_toArray, List.set_cons_zero, List.set_cons_succ])
      | (refine SeqDo.does (v := .int .i64 (S : Nat)) (by rfl) (fun W hSW KK hKK => ?_) ?_; (focus (go_simp; go_wp2_with (go_at_call 18; refine (unhide HW _ hSW).mono ?_; rintro e W' ⟨rfl, fJ⟩); exact hKK.out _ (unhide KB hSW fJ))); simp only [Act.put, List.setIfInBounds_toArray, List.set_cons_zero, List.set_cons_succ]))
    intro W hSW
    have HW2 := hide hSW
    clear hSW
    go_wp2
    rw [← unhide HPO]
    go_ret3
    exact ⟨(unhide KH _ (unhide HW2)).2.2, .inl ⟨by rw [unhide HE]; decide, by rw [unhide HE]; rfl⟩⟩
  have hs1 : ¬ (65536 : Int) < (S : Int) + (xn : Int) := by omega
  go_wp2
  refine wp_region_seq (fun W => Below w0.heap.size w0 W) (by kernel_rfl) (by kernel_rfl) ((unhide H1).drew) ?_
  repeat (first
    | (refine SeqDo.yields (v := ?_) (by rfl) ?_ ?_; rotate_left; (focus ((intro W hSW; obtain ⟨p0, p1⟩ := unhide KX W hSW; go_simp) <;> with_reducible rfl)); simp only [Act.put, List.setIfInBounds_toArray, List.set_cons_zero, List.set_cons_succ])
    | (refine SeqDo.does (v := .int .i64 (S : Nat)) (by rfl) (fun W hSW KK hKK => ?_) ?_; (focus (go_simp; go_wp2_with (go_at_call 18; refine (unhide HW _ hSW).mono ?_; rintro e W' ⟨rfl, fJ⟩); exact hKK.out _ (unhide KB hSW fJ))); simp only [Act.put, List.setIfInBounds_toArray, List.set_cons_zero, List.set_cons_succ]))
  intro w2 hSW
  have H2 := hide hSW
  have HC1 := hide (copy_any w2 ⟨a, n, c⟩ rs (unhide KH _ hSW).1)
  simp only [Sl.v] at HC1
  clear hSW p0 p1 HW H1
  go_wp2_with fail
  refine (unhide HC1).mono ?_
  rintro e w3 ⟨g, c3, dn, rfl, hown, hd, f3⟩
  have H3 := hide (unhide KB (unhide H2) f3)
  have HO3 := hide (hown.base (unhide KH _ (unhide H2)).2.2.size)
  have HD := hide hd
  have hdl : dn.length = n := by have := congrArg List.length hd; simpa [hln] using this
  obtain ⟨p0, p1⟩ := unhide KX _ (unhide H3)
  have HC2 := hide (copy_any (w3.alloc (.cells #[.string ⟨ty.toArray⟩, .slice xa xn xc] 29)) _ [⟨ty, ⟨xa, xn, xc⟩, ws⟩] (hIn_one15 (s := ⟨xa, xn, xc⟩) (unhide KH _ (unhide H3)).2.1))
  simp only [Sl.v, hst] at HC2
  clear f3 hown hd HC1
  go_wp2_with fail
  clear p0 p1
  refine (unhide HC2).mono ?_
  rintro e w4 ⟨g4, c4, dn4, rfl, hown4, hd4, f4⟩
  obtain ⟨y, rfl, hyt, hyw⟩ : ∃ y, dn4 = [y] ∧ y.ty = ty ∧ y.ws = ws := by
    match dn4, hd4 with
    | [y], hd =>
      simp only [List.map_cons, List.map_nil, List.cons.injEq, and_true, ObR.o, Ob.mk.injEq] at hd
      exact ⟨y, rfl, hd.1, hd.2⟩
    | [], hd => simp at hd
    | _ :: _ :: _, hd => simp at hd
  obtain ⟨yty, ⟨ya, yn, yc⟩, yws⟩ := y
  simp only at hyt hyw
  subst hyt hyw
  have f4' : Below w3.heap.size w3 w4 := ((Below.refl w3.heap.size w3).alloc (Nat.le_refl _) _).trans (f4.mono (by simp))
  obtain ⟨g', cur, eg, _, _, _, q⟩ := hown4.row.blkR rkO.len (by decide)
  injection eg with eg
  injection eg with eg
  subst eg
  have d0 := q 0 _ rfl 0 _ rfl
  have d1 := q 0 _ rfl 1 _ rfl
  simp only [Sl.v, hst, Nat.zero_mul, Nat.zero_add] at d0 d1
  have oy := (hown4.each _ (List.mem_singleton.2 rfl)).base (base' := w3.heap.size) (by simp)
  obtain ⟨w5, hw5⟩ : ∃ w5, w5 = w4.alloc (.cells #[.string st, .slice ya yn yc] 29) := ⟨_, rfl⟩
  have f5 : Below w4.heap.size w4 w5 := by rw [hw5]; exact (Below.refl _ _).alloc (Nat.le_refl _) _
  have KY : Hid (∀ W, Below w5.heap.size w5 W → W.cell? ⟨w4.heap.size, 0, none⟩ = some (.string st) ∧ W.cell? ⟨w4.heap.size, 1, none⟩ = some (.slice ya yn yc)) := by rw [hw5]; exact stands2 w4 _ _
  have F35 := hide (f4'.trans (f5.mono f4'.size))
  have OY := hide (orw_on oy f5)
  have H5 := hide (unhide KB (unhide H3) (unhide F35))
  have HWE := hide hw5
  have HDL := hide hdl
  have HRS : Hid (∀ (k : Nat) (r : ObR), rs[k]? = some r → ∃ y, dn[k]? = some y ∧ y.ty = r.ty) := hide fun k r hr => by
    have h1 := map_get (f := ObR.o) hr
    rw [← unhide HD, List.getElem?_map] at h1
    cases hy : dn[k]? with
    | none => rw [hy] at h1; cases h1
    | some y =>
      rw [hy] at h1
      injection h1 with h1
      exact ⟨y, rfl, congrArg Ob.ty h1⟩
  simp only [Sl.v] at OY
  clear hown4 hd4 f4 f4' f5 q oy hw5 hdl HC2
  go_wp2
  rw [← unhide HWE]
  clear d0 d1
  go_loopw [10] (fun i wr => ∃ k : Nat, k ≤ n ∧ i = .int .i64 (k : Int) ∧ Below w5.heap.size w5 wr ∧ ∀ (j : Nat) (r' : ObR), j < k → rs[j]? = some r' → freeO r'.o = false) (fun i _ => n - (intOf i).toNat)
  case atStart => exact ⟨0, by omega, rfl, Below.refl _ _, fun j r' hj => absurd hj (by omega)⟩
  case round =>
    obtain ⟨k, hk, rfl, hR, hF⟩ := hrel
    have HR := hide hR
    have HFR := hide hF
    have F3R := hide ((unhide F35).trans (hR.mono (unhide F35).size))
    have HHR := hide (unhide KB (unhide H5) hR)
    have HOR := hide ((unhide HO3).below (unhide F3R))
    obtain ⟨q0, q1⟩ := unhide KY _ hR
    clear hR hF
    by_cases hlt : k < n
    · have hlt1 : (k : Int) < (n : Int) := by omega
      have hk0 : (0 : Int) ≤ (k : Int) := by omega
      obtain ⟨r, hr⟩ : ∃ r, rs[k]? = some r := ⟨_, List.getElem?_eq_getElem (by omega)⟩
      obtain ⟨y2, hy2, hy2t⟩ := unhide HRS k r hr
      obtain ⟨g', cur, eg, hBg, hh, hz, q⟩ := (unhide HOR).row.blkR rkO.len (by omega)
      injection eg with eg
      injection eg with eg
      subst eg
      have d0 := q k y2 hy2 0 _ rfl
      have d1 := q k y2 hy2 1 _ rfl
      rw [Nat.add_zero, hy2t] at d0
      have z0 := hz (k * 2)
      have z1 := hz (k * 2 + 1)
      have hrt := ty_nil r.ty
      have HX := hide hr
      clear hy2 hh hz q hy2t
      simp only [Sl.v] at d1
      have hfree : freeO r.o = r.ty.isEmpty := rfl
      generalize r.ty = rty at *
      generalize hrs : (⟨rty.toArray⟩ : ByteArray) = rst at *
      cases ht : rty.isEmpty with
      | true =>
        rw [ht] at hrt hfree
        have hrt2 : rst.toList = [] := by simpa using hrt
        have HFK := hide (firstH_eq (f := freeO) (unhide HX) hfree (unhide HFR))
        have HSET := hide ((unhide HO3).set (k := k) (y := ⟨yty, ⟨ya, yn, yc⟩, yws⟩) (unhide F3R) (by have := (unhide HO3).row.lt g rfl; omega) hlt (orw_on (unhide OY) (unhide HR)))
        have hw1 : IntKind.i64.wrap ((k : Int) + 1) = (k : Int) + 1 := by rw [IntKind.wrap_i64]; omega
        simp only [obc, Sl.v, hst, World.setCells] at HSET
        clear hfree
        go_wp2
        rw [← unhide HPO]
        go_ret3
        have hFK := unhide HFK
        have hmap : (dn.set k ⟨yty, ⟨ya, yn, yc⟩, yws⟩).map ObR.o = putLH (rs.map ObR.o) ⟨yty, yws⟩ := by
          have h1 := put_set rs ⟨yty, yws⟩ n (by rw [hFK, hln, if_pos hlt])
          rw [hFK, hln, Nat.sub_self, List.replicate_zero, List.append_nil] at h1
          rw [List.map_set, unhide HD]
          exact h1
        have bR := (unhide KH _ (unhide HHR)).2.2
        refine ⟨(bR.setCell (p := ⟨g, k * 2, none⟩) hBg _).setCell (p := ⟨g, k * 2 + 1, none⟩) hBg _, .inr ⟨putEH_ok (unhide HCK) (unhide HNF) (by rw [← unhide HSE, hFK]; simp only; omega), ⟨some ⟨g, 0, none⟩, n, c3⟩, _, (unhide HSET).hin ?_ ?_, hmap, ?_⟩⟩
        · rw [List.length_set, unhide HDL]
          omega
        · rw [hmap]
          have h1 := wordsH_put (rs.map ObR.o) ⟨yty, yws⟩
          rw [← unhide HSE] at h1
          simp only at h1
          omega
        · rw [hFK]
          rfl
      | false =>
        rw [ht] at hrt hfree
        have hrt2 : ¬ rst.toList = [] := by simpa using hrt
        have HNX : Hid (∀ (j : Nat) (r' : ObR), j < k + 1 → rs[j]? = some r' → freeO r'.o = false) := hide fun j r' hj hr' => by
          by_cases hjk : j < k
          · exact unhide HFR j r' hjk hr'
          · obtain rfl : j = k := by omega
            rw [unhide HX] at hr'
            injection hr' with hr'
            subst hr'
            exact hfree
        clear hfree
        go_wp2
        go_roundw
        case rel => exact ⟨k + 1, by omega, by go_num, unhide HR, unhide HNX⟩
        case measure => simp [intOf]; omega
    · obtain rfl : k = n := by omega
      have HFK := hide (firstH_none (f := freeO) (rs := rs) (fun j r' hj hr' => unhide HFR j r' (by omega) hr'))
      by_cases h4 : k = 4096
      · have HE := hide (putEH_full (x := ⟨yty, yws⟩) (unhide HCK) (unhide HNF) (.inl (by rw [unhide HFK, hln]; exact h4)))
        have h41 : (k : Int) = 4096 := by omega
        have h42 : ((k : Int) == 4096) = true := by simpa using h41
        go_wp2
        rw [← unhide HPO]
        go_ret3
        exact ⟨(unhide KH _ (unhide HHR)).2.2, .inl ⟨by rw [unhide HE]; decide, by rw [unhide HE]; rfl⟩⟩
      · have h41 : ¬ (k : Int) = 4096 := by omega
        have h42 : ((k : Int) == 4096) = false := by simpa using h41
        obtain ⟨w7, hw7⟩ : ∃ w7, w7 = wr.alloc (.cells #[.string st, .slice ya yn yc] 29) := ⟨_, rfl⟩
        have f7 : Below wr.heap.size wr w7 := by rw [hw7]; exact (Below.refl _ _).alloc (Nat.le_refl _) _
        have l7 : Ls 2 obc w7 (some ⟨wr.heap.size, 0, none⟩) 1 [⟨yty, ⟨ya, yn, yc⟩, yws⟩] := by rw [hw7, ← hst]; exact ls_one (cs := obc) (sz := 2) wr _ _ (ObR.mk yty ⟨ya, yn, yc⟩ yws) rfl
        have hrow := orw_on (unhide HOR).row f7
        have HROW := hide hrow
        have HL7 := hide l7
        have F37 := hide ((unhide F3R).trans (f7.mono (unhide F3R).size))
        have hb7 := (unhide KH _ (unhide HHR)).2.2.trans (f7.mono (unhide KH _ (unhide HHR)).2.2.size)
        have HB7 := hide hb7
        have OY7 := hide (orw_on (orw_on (unhide OY) (unhide HR)) f7)
        have hln1 : (dn.length + 1) * 40 ≤ 140737488355328 := by rw [unhide HDL]; omega
        have hln2 : dn.length + 1 ≤ 140737488355328 := by rw [unhide HDL]; omega
        have HLN1 := hide hln1
        have HLN2 := hide hln2
        have hw1 : IntKind.i64.wrap ((k : Int) + 1) = (k : Int) + 1 := by rw [IntKind.wrap_i64]; omega
        rw [hw7] at HROW HL7 HB7
        have HW7 := hide hw7
        clear f7 l7 hrow hb7 hln1 hln2 hw7
        go_wp2_with (at_builtin; refine listR_append rkO rfl _ _ rfl w.heap.size _ dn rfl (unhide HROW) _ 1 1 [_] rfl (unhide HL7) (fun e => by cases e) (unhide HLN1) (unhide HLN2) (unhide HB7).size ?_)
        intro v' w8 o8 g8
        have HG8 := hide g8
        have HO8 := hide o8
        have B8 := hide ((unhide HB7).grown g8 (unhide HB7).size (fun q hq => ((unhide HROW).lt q hq).1))
        obtain ⟨a8, c8, rfl, _⟩ := o8.form
        clear o8 g8 q0 q1
        go_wp2
        rw [← unhide HPO]
        go_ret3
        have hFK := unhide HFK
        rw [hln] at hFK
        have hmap : (dn ++ [(⟨yty, ⟨ya, yn, yc⟩, yws⟩ : ObR)]).map ObR.o = putLH (rs.map ObR.o) ⟨yty, yws⟩ := by
          unfold putLH
          rw [hFK, hlm, if_neg (by omega), List.map_append, unhide HD]
          rfl
        have hpush := (unhide HO3).push (y := ⟨yty, ⟨ya, yn, yc⟩, yws⟩) (unhide F37) (by have := (unhide HO3).row.lt g rfl; omega) (unhide OY7) (unhide HO8) (by rw [unhide HW7]; exact unhide HG8)
        refine ⟨unhide B8, .inr ⟨putEH_ok (unhide HCK) (unhide HNF) (by rw [← unhide HSE, hFK]; simp only; omega), ⟨a8, (dn ++ [(⟨yty, ⟨ya, yn, yc⟩, yws⟩ : ObR)]).length, c8⟩, _, hpush.hin ?_ ?_, hmap, ?_⟩⟩
        · rw [List.length_append, unhide HDL]
          simp only [List.length_singleton]
          omega
        · rw [hmap]
          have h1 := wordsH_put (rs.map ObR.o) ⟨yty, yws⟩
          rw [← unhide HSE] at h1
          simp only at h1
          omega
        · rw [hFK]
          rfl
end Go.Proofs.Ytgiohebbmjgefaa
