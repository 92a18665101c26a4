/- Layer 16, the document's side: Canon. -/
import Derived.Test.YtnnanlniffjnkaaJUrF
import Derived.Test.YtnnanlniffjnkaaJUtA

namespace Go.Proofs.Ytnnanlniffjnkaa
open Go.RowKit
set_option linter.unusedVariables false
set_option maxRecDepth 100000

/-- Between two rounds of Canon. -/
structure Cr16 (w : World) (l : List Ob) (q : List Nat) (vr : Value) (k : Nat) (v : Value) (W : World) (dn : List ObR) : Prop where
  own : HOwn W w.heap.size v dn
  same : dn.map ObR.o = (q.take k).map (anewO l q)
  row : Orw i15 3 1 W w.heap.size vr (qi q)
  bel : Below w.heap.size w W
theorem Cr16.on {w W W' : World} {l : List Ob} {q : List Nat} {vr : Value} {k : Nat} {v : Value} {dn : List ObR} (h : Cr16 w l q vr k v W dn) (f : Below W.heap.size W W') : Cr16 w l q vr k v W' dn := ⟨h.own.below f, h.same, orw_on h.row f, h.bel.trans (f.mono h.bel.size)⟩
theorem Cr16.next {w W W1 W2 : World} {rs : List ObR} {q : List Nat} {vr : Value} {k j : Nat} {v v' : Value} {dn : List ObR} {r : ObR} {s' : Sl} (h : Cr16 w (rs.map ObR.o) q vr k v W dn) (hq : q[k]? = some (j + 1)) (hr : rs[j]? = some r) (f : Below W.heap.size W W1) (ho : Orw vlc 47 2 W1 W.heap.size s'.v (r.ws.map (anewV (rs.map ObR.o) q))) (hrow : Orw obc 43 2 W2 w.heap.size v' (dn ++ [⟨r.ty, s', r.ws.map (anewV (rs.map ObR.o) q)⟩])) (g : W1.grownBy W2 v.ownBlock) :
    Cr16 w (rs.map ObR.o) q vr (k + 1) v' W2 (dn ++ [⟨r.ty, s', r.ws.map (anewV (rs.map ObR.o) q)⟩]) := by
  have hb := h.bel.size
  have h1 := h.own.push (y := ⟨r.ty, s', r.ws.map (anewV (rs.map ObR.o) q)⟩) f hb ho hrow g
  have hr1 := orw_on h.row f
  refine ⟨h1, ?_, hr1.below (fun i hi => g.block i (hr1.lt i hi).2 (fun e => ?_)), (h.bel.trans (f.mono hb)).grown g (Nat.le_trans hb f.size) (fun i hi => (h.own.row.lt i hi).1)⟩
  · rw [List.map_append, h.same, List.take_add_one, hq, List.map_append]
    congr 1
    have e1 : (rs.map ObR.o)[j + 1 - 1]? = some r.o := by simpa using congrArg (Option.map ObR.o) hr
    simp only [Option.toList_some, List.map_cons, List.map_nil]
    unfold anewO tyOf wordsOf
    rw [e1]
    rfl
  · obtain ⟨X, hX⟩ := own_type hr1 hi
    obtain ⟨Y, hY⟩ := own_type (h.own.below f).row e.symm
    rw [hX] at hY
    injection hY with hY
    injection hY with _ hY
    cases hY
set_option maxHeartbeats 3200000 in
theorem rCanon_any (w : World) (s : Sl) (rs : List ObR) (h : HIn w s rs) (t : Sl) (vs : List Vl) (hv : WsIn w t vs) :
    Calls Try.prog 19 #[s.v, t.v] w fun e w' => Below w.heap.size w w' ∧ ((checkE (rs.map ObR.o) ≠ 0 ∧ e = .returned (.tuple #[.slice none 0 0, .slice none 0 0, .int .i64 (checkE (rs.map ObR.o))])) ∨
      (checkE (rs.map ObR.o) = 0 ∧ ∃ v u dn, e = .returned (.tuple #[v, u, .int .i64 0]) ∧ HOwn w' w.heap.size v dn ∧ dn.map ObR.o = canonO (rs.map ObR.o) vs ∧ Orw vlc 47 2 w' w.heap.size u (canonV (rs.map ObR.o) vs))) := by
  have HC := hide (rReach_any w s rs h t vs hv)
  have HI := hide h
  have HV := hide hv
  have hln := h.ls.1
  have hsm := h.small
  obtain ⟨sa, sn, sc⟩ := s
  obtain ⟨ta, tn, tc⟩ := t
  simp only [Sl.v] at HC hln hsm ⊢
  clear h hv
  obtain ⟨ce, hce⟩ : ∃ ce, ce = checkE (rs.map ObR.o) := ⟨_, rfl⟩
  have HCE := hide hce
  rw [← hce] at HC ⊢
  clear hce
  go_enter Try.func19, Try.ntmps19
  go_wp2_with fail
  refine (unhide HC).mono ?_
  rintro e w1 ⟨vr, rfl, o1, f1⟩
  have F1 := hide f1
  by_cases h0 : ce = 0
  case neg =>
    clear f1 HC o1
    go_wp2
    go_ret3
    exact ⟨unhide F1, .inl ⟨h0, rfl⟩⟩
  subst h0
  have hck := check_fit (unhide HCE).symm
  rw [List.length_map] at hck
  have hrv : reachV (rs.map ObR.o) vs = reachH (rs.map ObR.o) vs := by
    unfold reachV
    rw [← unhide HCE, if_pos rfl]
  obtain ⟨q, hqe⟩ : ∃ q, q = reachH (rs.map ObR.o) vs := ⟨_, rfl⟩
  have HQE := hide hqe
  rw [hrv, ← hqe] at o1
  have hqi : InQ (rs.map ObR.o) q := by rw [hqe]; exact reach_in _ _
  have hql := hqi.le
  rw [List.length_map] at hql
  have HQI := hide hqi
  obtain ⟨ra, rc, hov, _⟩ := o1.form
  rw [qi_len] at hov
  subst hov
  have hal := (Below.refl w1.heap.size w1).alloc (Nat.le_refl _) (.cells #[] 43)
  have H0 : Hid (Cr16 w (rs.map ObR.o) q (.slice ra q.length rc) 0 (.slice (some ⟨w1.heap.size, 0, none⟩) 0 0) (w1.alloc (.cells #[] 43)) []) := ⟨⟨Orw.made _ _ _ w1 _ f1.size, (fun r hr => by simp at hr), List.Pairwise.nil⟩, rfl, orw_on o1 hal, f1.trans (hal.mono f1.size)⟩
  clear hqe hrv o1 f1 HC hqi hal F1
  go_wp2
  go_loopw [9, 10] (fun o i wr => ∃ k : Nat, k ≤ q.length ∧ i = .int .i64 k ∧ ∃ dn, Cr16 w (rs.map ObR.o) q (.slice ra q.length rc) k o wr dn) (fun _ i _ => q.length - (intOf i).toNat)
  case atStart => exact ⟨0, by omega, rfl, [], unhide H0⟩
  case round =>
    obtain ⟨k, hk, rfl, dn, hT⟩ := hrel
    have hdl : dn.length = k := by have := congrArg List.length hT.same; rw [List.length_map, List.length_map, List.length_take] at this; omega
    obtain ⟨va, vc, hvf, _⟩ := hT.own.row.form
    rw [hdl] at hvf
    subst hvf
    by_cases hlt : k < q.length
    · have hlt1 : (k : Int) < (q.length : Int) := by omega
      have hk0 : (0 : Int) ≤ (k : Int) := by omega
      obtain ⟨n, hn⟩ : ∃ n, q[k]? = some n := ⟨_, List.getElem?_eq_getElem hlt⟩
      have hlv := liveN_le ((unhide HQI).2 n (List.mem_of_getElem? hn))
      rw [List.length_map] at hlv
      obtain ⟨j, rfl⟩ : ∃ j, n = j + 1 := ⟨n - 1, by omega⟩
      obtain ⟨r, hr⟩ : ∃ r, rs[j]? = some r := ⟨_, List.getElem?_eq_getElem (by omega)⟩
      obtain ⟨b, o, ea, qq⟩ := memb_row (unhide HI) hr
      simp only at ea
      subst ea
      have hwr := (unhide HI).each _ (List.mem_of_getElem? hr)
      obtain ⟨b2, o2, ea2, q2⟩ := Ls.row (Orw.ls rkI15 hT.row) (w' := wr) (by omega)
      subst ea2
      have d0 : wr.cell? ⟨b2, o2 + k, none⟩ = some (.int .i64 (((j + 1 : Nat)) : Int)) := by
        have hqk : (qi q)[k]? = some (((j + 1 : Nat)) : Int) := by simp [qi, hn]
        simpa using (q2 (Below.refl _ _) k _ hqk).zero
      rw [show (((j + 1 : Nat)) : Int) = (j : Int) + 1 by omega] at d0
      have c0 := (qq hT.bel).zero
      have c1 := (qq hT.bel) 1 _ rfl
      obtain ⟨ty, ⟨xa, xn, xc⟩, ws⟩ := r
      simp only [Sl.v] at c0 c1
      have hw1 : IntKind.i64.wrap (j : Int) = (j : Int) := by rw [IntKind.wrap_i64]; omega
      have hj2 : (0 : Int) ≤ (j : Int) := by omega
      have hj3 : (j : Int) < (sn : Int) := by omega
      obtain ⟨w2, hw2⟩ : ∃ w2, w2 = wr.alloc (.cells #[.string ⟨ty.toArray⟩, .slice xa xn xc] 43) := ⟨_, rfl⟩
      have f2 : Below wr.heap.size wr w2 := by rw [hw2]; exact (Below.refl _ _).alloc (Nat.le_refl _) _
      have bx : w2.heap[wr.heap.size]? = some (.cells #[.string ⟨ty.toArray⟩, .slice xa xn xc] 43 (0, 0)) := by rw [hw2]; exact heap_alloc_last _ _
      have hvk : (Value.slice va k vc).ownBlock ≠ some wr.heap.size := fun e => by
        have := (hT.own.row.lt _ e).2
        omega
      have hT2 := hT.on f2
      obtain ⟨wn, hwn⟩ : ∃ wn, wn = ws.map (anewV (rs.map ObR.o) q) := ⟨_, rfl⟩
      have HAN : Hid (∀ W, Below w2.heap.size w2 W → Calls Try.prog 37 #[.slice (some ⟨b, o, none⟩) sn sc, .slice (some ⟨b2, o2, none⟩) q.length rc, .slice xa xn xc] W fun e w' => ∃ v, e = .returned v ∧ Orw vlc 47 2 w' W.heap.size v wn ∧ Below W.heap.size W w') := fun W f => by
        rw [hwn]
        have hb := hT2.bel
        have hbf := hb.trans (f.mono hb.size)
        have hls := Orw.ls rkI15 (orw_on hT2.row f)
        exact ranew_any W ⟨some ⟨b, o, none⟩, sn, sc⟩ rs ((unhide HI).below hbf) q (unhide HQI) (by omega) (some ⟨b2, o2, none⟩) rc hls ⟨xa, xn, xc⟩ ws (hwr.below hbf)
      have HNX : Hid (∀ W1 W2 a6 c6 v', Below w2.heap.size w2 W1 → Orw vlc 47 2 W1 w2.heap.size (.slice a6 wn.length c6) wn → Orw obc 43 2 W2 w.heap.size v' (dn ++ [⟨ty, ⟨a6, wn.length, c6⟩, wn⟩]) → W1.grownBy W2 (Value.slice va k vc).ownBlock → (W2.cell? ⟨wr.heap.size, 0, none⟩ = some (.string ⟨ty.toArray⟩) ∧ W2.cell? ⟨wr.heap.size, 1, none⟩ = some (.slice xa xn xc)) ∧ Cr16 w (rs.map ObR.o) q (.slice (some ⟨b2, o2, none⟩) q.length rc) (k + 1) v' W2 (dn ++ [⟨ty, ⟨a6, wn.length, c6⟩, wn⟩])) := fun W1 W2 a6 c6 v' f o1 o2' g => by
        rw [hwn] at o1 o2'
        have hb2 := (g.block _ (Nat.lt_of_lt_of_le (lt_of_heap bx) f.size) (fun e => hvk e.symm)).trans ((f.block _ (lt_of_heap bx)).trans bx)
        rw [hwn]
        exact ⟨⟨bx_cell hb2 0 _ rfl, bx_cell hb2 1 _ rfl⟩, hT2.next (r := ⟨ty, ⟨xa, xn, xc⟩, ws⟩) (s' := ⟨a6, (ws.map (anewV (rs.map ObR.o) q)).length, c6⟩) hn hr f o1 o2' g⟩
      have HC2 : Hid (∀ W, Below w2.heap.size w2 W → W.cell? ⟨wr.heap.size, 0, none⟩ = some (.string ⟨ty.toArray⟩) ∧ W.cell? ⟨wr.heap.size, 1, none⟩ = some (.slice xa xn xc)) := fun W f => by
        have hb2 := (f.block _ (lt_of_heap bx)).trans bx
        exact ⟨bx_cell hb2 0 _ rfl, bx_cell hb2 1 _ rfl⟩
      have HRW := hide hT2.own.row
      have HWS := hide hT2.bel.size
      clear hn hr qq q2 hT hT2 hwr hlv bx hwn f2 hvk
      obtain ⟨st, hst⟩ : ∃ st : ByteArray, st = ⟨ty.toArray⟩ := ⟨_, rfl⟩
      have HST := hide hst
      rw [← hst] at c0 hw2 HNX HC2
      clear hst
      obtain ⟨S2, hS2⟩ : ∃ S2 : World → Prop, S2 = fun W => W.cell? ⟨wr.heap.size, 0, none⟩ = some (.string st) ∧ W.cell? ⟨wr.heap.size, 1, none⟩ = some (.slice xa xn xc) := ⟨_, rfl⟩
      have HS2 : Hid (∀ W, S2 W ↔ (W.cell? ⟨wr.heap.size, 0, none⟩ = some (.string st) ∧ W.cell? ⟨wr.heap.size, 1, none⟩ = some (.slice xa xn xc))) := fun W => by rw [hS2]
      clear hS2
      go_wp2_with (rw [← hw2])
      clear hw2 c0 c1 d0
      refine wp_region_txtn S2 [7, 9, 10] [0, 1, 2, 3, 4, 5, 6, 7, 8, 9, 10] 11 (by rfl) (by kernel_rfl) (by kernel_rfl) ((unhide HS2 _).2 (unhide HC2 _ (Below.refl _ _).drew)) ?_
      simp only [List.take_succ_cons, List.take_zero]
      repeat (first
        | (refine Txt.reads (v := ?_) (by rfl) (by rfl) (by rfl) ?_ ?_; rotate_left; (focus ((intro W hSW; obtain ⟨c0, c1⟩ := (unhide HS2 W).1 hSW; go_simp) <;> with_reducible rfl)); simp only [Act.put, List.setIfInBounds_toArray, List.set_cons_zero, List.set_cons_succ]))
      refine Txt.acts (by rfl) (by rfl) (by rfl) (fun K hK => ?_)
      go_simp
      go_wp2_with (go_at_call 37; refine (unhide HAN _ (Below.refl _ _).drew).mono ?_; rintro e W1 ⟨v6, rfl, o1, f1⟩)
      have f5 : Below w2.heap.size w2 W1 := (Below.refl _ _).drew.trans f1
      obtain ⟨a6, c6, rfl, _⟩ := o1.form
      have O1 := hide o1
      have F5 := hide f5
      clear f1 o1 HAN
      refine hK.out _ _ ((unhide HS2 _).2 (unhide HC2 _ f5)) ?_
      clear hK f5
      repeat (first
        | (refine Txt.reads (v := ?_) (by rfl) (by rfl) (by rfl) ?_ ?_; rotate_left; (focus ((intro W hSW; obtain ⟨c0, c1⟩ := (unhide HS2 W).1 hSW; go_simp) <;> with_reducible rfl)); simp only [Act.put, List.setIfInBounds_toArray, List.set_cons_zero, List.set_cons_succ]))
      refine Txt.acts (by rfl) (by rfl) (by rfl) (fun K hK => ?_)
      go_simp
      obtain ⟨w7, hw7⟩ : ∃ w7, w7 = W1.alloc (.cells #[.string st, .slice a6 wn.length c6] 43) := ⟨_, rfl⟩
      have f7 : Below W1.heap.size W1 w7 := by rw [hw7]; exact (Below.refl _ _).alloc (Nat.le_refl _) _
      have l7 : Ls 2 obc w7 (some ⟨W1.heap.size, 0, none⟩) 1 [⟨ty, ⟨a6, wn.length, c6⟩, wn⟩] := by rw [hw7, unhide HST]; exact ls_one (cs := obc) (sz := 2) W1 _ _ (ObR.mk ty ⟨a6, wn.length, c6⟩ wn) rfl
      rw [← hw7]
      clear hw7
      have f17 : Below w2.heap.size w2 w7 := (unhide F5).trans (f7.mono (unhide F5).size)
      refine hK.out _ _ ((unhide HS2 _).2 (unhide HC2 _ f17)) ?_
      clear hK
      refine Txt.acts (by rfl) (by rfl) (by rfl) (fun K hK => ?_)
      have hrow := orw_on (unhide HRW) f17
      have hsz7 : w.heap.size ≤ w7.heap.size := Nat.le_trans (unhide HWS) f17.size
      refine wpR_append rkO (.tmp 36) (.tmp 45) rfl w.heap.size _ dn (by rfl) hrow (some ⟨W1.heap.size, 0, none⟩) 1 1 [⟨ty, ⟨a6, wn.length, c6⟩, wn⟩] (by rfl) l7 (fun e => by cases e) (by omega) (by omega) hsz7 ?_
      intro v8 w8 o8 g8
      obtain ⟨s8, hn8⟩ := unhide HNX w7 w8 a6 c6 v8 f17 (orw_on (unhide O1) f7) o8 g8
      obtain ⟨a8, c8', rfl, _⟩ := o8.form
      have hl8 : (dn ++ [(⟨ty, ⟨a6, wn.length, c6⟩, wn⟩ : ObR)]).length = k + 1 := by rw [List.length_append, hdl]; rfl
      rw [hl8] at hn8 ⊢
      have HN8 := hide hn8
      refine hK.out _ _ ((unhide HS2 _).2 s8) ?_
      clear hK hn8 o8 g8 hrow l7 s8 HNX HC2 HS2 HRW
      refine Txt.done (thenLast_n (by rfl) (by rfl) (by rfl) (fun KK hKK => ?_))
      go_simp
      refine hKK.out _ _ ?_
      clear hKK
      go_wp2
      go_roundw
      case rel => exact ⟨k + 1, by omega, by go_num, _, unhide HN8⟩
      case measure => simp [intOf]; omega
    · obtain rfl : k = q.length := by omega
      have hlt1 : ¬ (q.length : Int) < (q.length : Int) := by omega
      have hsame := hT.same
      rw [List.take_of_length_le (Nat.le_refl _)] at hsame
      have hb := hT.bel
      have HAN := hide (ranew_any wr ⟨sa, sn, sc⟩ rs ((unhide HI).below hb) q (unhide HQI) (by omega) ra rc (by have := Orw.ls rkI15 hT.row; exact this) ⟨ta, tn, tc⟩ vs ((unhide HV).below hb))
      have HB := hide hb
      have HOW := hide (And.intro hT.own hsame)
      simp only [Sl.v] at HAN
      clear hT hsame hb
      go_wp2_with fail
      refine (unhide HAN).mono ?_
      rintro e w9 ⟨v9, rfl, o9, f9⟩
      have HB9 := hide ((unhide HB).trans (f9.mono (unhide HB).size))
      have HO9 := hide (And.intro ((unhide HOW).1.below f9) (And.intro (unhide HOW).2 (o9.base (unhide HB).size)))
      clear o9 f9 HAN HB HOW
      go_wp2
      go_ret3
      obtain ⟨g1, g2, g3⟩ := unhide HO9
      exact ⟨unhide HB9, _, _, rfl, _, g1, by rw [g2, unhide HQE]; rfl, by rw [unhide HQE] at g3; exact g3⟩
theorem rCanon_in (w : World) (s t : Sl) (rs : List ObR) (h : HIn w s rs) (vs : List Vl) (hv : WsIn w t vs) : Calls Try.prog 19 #[s.v, t.v] w (canonPost w (rs.map ObR.o) vs) :=
  (rCanon_any w s rs h t vs hv).mono fun e w' ⟨f, hh⟩ => canon_post (by have := hv.ls.1; have := hv.small; omega) f hh
end Go.Proofs.Ytnnanlniffjnkaa
