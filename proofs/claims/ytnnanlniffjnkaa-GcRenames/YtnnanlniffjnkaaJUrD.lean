/- Layer 16, the document's side: Sweep. -/
import Derived.Test.YtnnanlniffjnkaaJUrB
import Derived.Test.YtnnanlniffjnkaaJUrC
import Derived.Test.YtnnanlniffjnkaaJY3

namespace Go.Proofs.Ytnnanlniffjnkaa
open Go.RowKit
set_option linter.unusedVariables false
set_option maxRecDepth 100000

/-- Between two rounds of Sweep's first loop. -/
structure SwR (w : World) (l : List Ob) (q : List Nat) (vr : Value) (g n c k : Nat) (W : World) : Prop where
  own : ∃ dn, HOwn W w.heap.size (.slice (some ⟨g, 0, none⟩) n c) dn ∧ dn.map ObR.o = swK l q k
  row : Orw i15 3 1 W w.heap.size vr (qi q)
  bel : Below w.heap.size w W
theorem SwR.on {w W W' : World} {l : List Ob} {q : List Nat} {vr : Value} {g n c k : Nat} (h : SwR w l q vr g n c k W) (f : Below W.heap.size W W') : SwR w l q vr g n c k W' := by
  obtain ⟨dn, h1, h2⟩ := h.own
  exact ⟨⟨dn, h1.below f, h2⟩, orw_on h.row f, h.bel.trans (f.mono h.bel.size)⟩
theorem SwR.stay {w W : World} {l : List Ob} {q : List Nat} {vr : Value} {g n c k : Nat} (h : SwR w l q vr g n c k W) (hd : deadB l q k = false) : SwR w l q vr g n c (k + 1) W := by
  obtain ⟨dn, h1, h2⟩ := h.own
  exact ⟨⟨dn, h1, by rw [h2, swK_same hd]⟩, h.row, h.bel⟩
theorem SwR.gone {w W : World} {l : List Ob} {q : List Nat} {vr : Value} {g n c k : Nat} (h : SwR w l q vr g n c k W) (hd : deadB l q k = true) (hk : k < n) : SwR w l q vr g n c (k + 1) (W.setCells g (k * 2) (obc ob0)) := by
  obtain ⟨dn, h1, h2⟩ := h.own
  have hs := h1.set (k := k) (y := ob0) (Below.refl _ _) h.bel.size hk (Orw.nil _ _ _ _ _)
  obtain ⟨X, hX⟩ := own_type h1.row (k := g) rfl
  refine ⟨⟨_, hs, ?_⟩, h.row.below (fun i hi => heap_cells_other g _ _ _ _ (fun e => ?_)), below_cells _ _ h.bel (h1.row.lt g rfl).1⟩
  · rw [List.map_set, h2, swK_set hd]
    rfl
  · obtain ⟨Y, hY⟩ := own_type h.row hi
    rw [e, hX] at hY
    injection hY with hY
    injection hY with _ hY
    cases hY
/-- Between two rounds of its second one. -/
structure Tr16 (w : World) (g m c : Nat) (L : List ObR) (k : Nat) (W : World) : Prop where
  few : k ≤ m
  own : HOwn W w.heap.size (.slice (some ⟨g, 0, none⟩) k c) (L.take k)
  same : trimH ((L.take k).map ObR.o) = trimH (L.map ObR.o)
  bel : Below w.heap.size w W
theorem Tr16.next {w W : World} {g m c j : Nat} {L : List ObR} (h : Tr16 w g m c L (j + 1) W) (hL : L.length = m) (he : endsH ((L.take (j + 1)).map ObR.o) = true) : Tr16 w g m c L j W := by
  have hf := h.few
  refine ⟨by omega, ?_, ?_, h.bel⟩
  · have := h.own.cut (Nat.le_succ j)
    rw [List.take_take, Nat.min_eq_left (Nat.le_succ _)] at this
    exact this
  · rw [← h.same]
    have e := (trimH_take he).1
    rw [← List.map_take, List.length_map, take_less L (by omega)] at e
    exact e.symm
theorem ends_at16 {L : List ObR} {j : Nat} {x : ObR} (hx : L[j]? = some x) : endsH ((L.take (j + 1)).map ObR.o) = freeO x.o := by
  unfold endsH
  rw [List.take_add_one, hx, List.map_append, List.getLast?_append]
  rfl
theorem dead_at {l : List Ob} {q : List Nat} {k : Nat} {o : Ob} (h : l[k]? = some o) : deadB l q k = (!freeO o && decide (k + 1 ∉ q)) := by
  unfold deadB liveN
  have e1 : l[k + 1 - 1]? = some o := by simpa using h
  rw [e1]
  simp
set_option maxHeartbeats 2000000 in
theorem rSweep_any (w : World) (s : Sl) (rs : List ObR) (h : HIn w s rs) (t : Sl) (vs : List Vl) (hv : WsIn w t vs) :
    Calls Try.prog 14 #[s.v, t.v] w fun e w' => Below w.heap.size w w' ∧ ((checkE (rs.map ObR.o) ≠ 0 ∧ e = .returned (.tuple #[.slice none 0 0, .int .i64 0, .int .i64 (checkE (rs.map ObR.o))])) ∨
      (checkE (rs.map ObR.o) = 0 ∧ ∃ g k c dn, e = .returned (.tuple #[.slice (some ⟨g, 0, none⟩) k c, .int .i64 (goneN (rs.map ObR.o) vs), .int .i64 0]) ∧ HOwn w' w.heap.size (.slice (some ⟨g, 0, none⟩) k c) dn ∧ dn.map ObR.o = sweepL (rs.map ObR.o) vs)) := by
  have HC := hide (rReach_any w s rs h t vs hv)
  have HCP : Hid (∀ W, Below w.heap.size w W → Calls Try.prog 10 #[s.v] W fun e w' => ∃ (g c : Nat) (dn : List ObR), e = .returned (.slice (some ⟨g, 0, none⟩) s.n c) ∧ HOwn w' W.heap.size (.slice (some ⟨g, 0, none⟩) s.n c) dn ∧ dn.map ObR.o = rs.map ObR.o ∧ Below W.heap.size W w') := fun W f => copy_any W s rs (h.below f)
  obtain ⟨sa, sn, sc⟩ := s
  obtain ⟨ta, tn, tc⟩ := t
  have hln : rs.length = sn := h.ls.1
  simp only [Sl.v] at HC HCP ⊢
  clear h hv
  obtain ⟨ce, hce⟩ : ∃ ce, ce = checkE (rs.map ObR.o) := ⟨_, rfl⟩
  have HCE := hide hce
  rw [← hce] at HC ⊢
  clear hce
  go_enter Try.func14, Try.ntmps14
  go_wp2_with fail
  refine (unhide HC).mono ?_
  rintro e w1 ⟨vr, rfl, o1, f1⟩
  have F1 := hide f1
  by_cases h0 : ce = 0
  case neg =>
    clear f1 HC o1 HCP
    go_wp2
    go_ret3
    exact ⟨unhide F1, .inl ⟨h0, rfl⟩⟩
  subst h0
  have hck := check_fit (unhide HCE).symm
  rw [List.length_map] at hck
  have HKH : Hid (checkH (rs.map ObR.o) = true) := by
    have h1 := unhide HCE
    unfold checkE at h1
    unfold Hid
    by_cases hh : checkH (rs.map ObR.o) = true
    · exact hh
    · simp [hh] at h1
  have hrv : reachV (rs.map ObR.o) vs = reachH (rs.map ObR.o) vs := by
    unfold reachV
    rw [← unhide HCE, if_pos rfl]
  obtain ⟨q, hqe⟩ : ∃ q, q = reachH (rs.map ObR.o) vs := ⟨_, rfl⟩
  have HQE := hide hqe
  rw [hrv, ← hqe] at o1
  have hqi : InQ (rs.map ObR.o) q := by rw [hqe]; exact reach_in _ _
  have hql := hqi.le
  rw [List.length_map] at hql
  obtain ⟨ra, rc, hov, _⟩ := o1.form
  rw [qi_len] at hov
  subst hov
  have O1 := hide o1
  have HCP1 := hide (unhide HCP w1 f1)
  clear hqe hrv o1 f1 HCP HC
  go_wp2_with fail
  refine (unhide HCP1).mono ?_
  rintro e w2 ⟨g, c, dn, rfl, hown, hsame, f2⟩
  have H0 : Hid (SwR w (rs.map ObR.o) q (.slice ra q.length rc) g sn c 0 w2) := ⟨⟨dn, hown.base (unhide F1).size, by rw [hsame, swK_zero]⟩, orw_on (unhide O1) f2, (unhide F1).trans (f2.mono (unhide F1).size)⟩
  clear hown hsame f2 O1 F1 HCP1
  go_wp2
  go_loopw [10, 11] (fun gn i wr => ∃ k : Nat, k ≤ sn ∧ i = .int .i64 k ∧ gn = .int .i64 (goK (rs.map ObR.o) q k : Int) ∧ SwR w (rs.map ObR.o) q (.slice ra q.length rc) g sn c k wr) (fun _ i _ => sn - (intOf i).toNat)
  case atStart => exact ⟨0, by omega, rfl, rfl, unhide H0⟩
  case round =>
    obtain ⟨k, hk, rfl, rfl, hT⟩ := hrel
    by_cases hlt : k < sn
    · have hlt1 : (k : Int) < (sn : Int) := by omega
      have hk0 : (0 : Int) ≤ (k : Int) := by omega
      obtain ⟨r, hr⟩ : ∃ r, rs[k]? = some r := ⟨_, List.getElem?_eq_getElem (by omega)⟩
      obtain ⟨dn2, hd1, hd2⟩ := hT.own
      have hdl : dn2.length = sn := by have := congrArg List.length hd2; rw [List.length_map, swK_len, List.length_map] at this; omega
      obtain ⟨y, hy⟩ : ∃ y, dn2[k]? = some y := ⟨_, List.getElem?_eq_getElem (by omega)⟩
      have hyo : y.o = r.o := by
        have h1 := map_get (f := ObR.o) hy
        rw [hd2, swK_at, if_pos (by rw [List.length_map]; omega), if_neg (fun c => by omega), map_get (f := ObR.o) hr] at h1
        injection h1 with h1
        exact h1.symm
      have hyt : y.ty = r.ty := congrArg Ob.ty hyo
      obtain ⟨g', cur, eg, hgB, hh, hz, qq⟩ := hd1.row.blkR rkO.len (by omega)
      injection eg with eg
      injection eg with eg
      subst eg
      have d0 := qq k y hy 0 _ rfl
      have d1 := qq k y hy 1 _ rfl
      simp only [Nat.add_zero] at d0
      rw [hyt] at d0
      have z0 := hz (k * 2)
      have z1 := hz (k * 2 + 1)
      have hda := dead_at (q := q) (map_get (f := ObR.o) hr)
      have HDA := hide hda
      have HT := hide hT
      have HHS := hide (v16has_any wr ra q.length rc (qi q) (Orw.ls rkI15 hT.row) (by omega) ((k : Int) + 1))
      have hme : decide (((k : Int) + 1) ∈ qi q) = decide (k + 1 ∈ q) := by
        have := mem_qi (q := q) (n := k + 1)
        rw [show ((k + 1 : Nat) : Int) = (k : Int) + 1 by omega] at this
        simp only [this]
      rw [hme] at HHS
      have hgk := goK_le (rs.map ObR.o) q k
      have HTN := ty_nil r.ty
      have HFO : Hid (freeO r.o = r.ty.isEmpty) := rfl
      have hw1 : IntKind.i64.wrap ((k : Int) + 1) = (k : Int) + 1 := by rw [IntKind.wrap_i64]; omega
      generalize (⟨r.ty.toArray⟩ : ByteArray) = st at *
      clear hr hd1 hd2 hy hyo hyt hh hz qq hda hT hme
      cases hf : r.ty.isEmpty with
      | true =>
        rw [hf] at HTN
        have hst : st.toList = [] := by simpa using HTN
        have HD : Hid (deadB (rs.map ObR.o) q k = false) := by
          have := unhide HDA
          rw [unhide HFO, hf] at this
          unfold Hid
          simpa using this
        clear HDA HFO hf HHS
        go_wp2
        go_roundw
        case rel => exact ⟨k + 1, by omega, by go_num, by rw [goK_same (unhide HD)], (unhide HT).stay (unhide HD)⟩
        case measure => simp [intOf]; omega
      | false =>
        rw [hf] at HTN
        have hst : ¬ st.toList = [] := by simpa using HTN
        by_cases hm : k + 1 ∈ q
        · rw [decide_eq_true hm] at HHS
          have HD : Hid (deadB (rs.map ObR.o) q k = false) := by
            have := unhide HDA
            unfold Hid
            simpa [hm] using this
          clear HDA HFO hf hm
          go_wp2_with fail
          refine (unhide HHS).mono ?_
          rintro e w' ⟨rfl, rfl⟩
          go_wp2
          go_roundw
          case rel => exact ⟨k + 1, by omega, by go_num, by rw [goK_same (unhide HD)], (unhide HT).stay (unhide HD)⟩
          case measure => simp [intOf]; omega
        · rw [decide_eq_false hm] at HHS
          have HD : Hid (deadB (rs.map ObR.o) q k = true) := by
            have := unhide HDA
            rw [unhide HFO, hf] at this
            unfold Hid
            simpa [hm] using this
          clear HDA HFO hf hm
          have HGM : Hid (goK (rs.map ObR.o) q (k + 1) = goK (rs.map ObR.o) q k + 1) := goK_more (unhide HD)
          generalize goK (rs.map ObR.o) q k = gk at *
          have hw2 : IntKind.i64.wrap ((gk : Int) + 1) = (gk : Int) + 1 := by rw [IntKind.wrap_i64]; omega
          go_wp2_with fail
          refine (unhide HHS).mono ?_
          rintro e w' ⟨rfl, rfl⟩
          have HN := hide ((unhide HT).gone (unhide HD) hlt)
          go_wp2
          go_roundw
          case rel => exact ⟨k + 1, by omega, by go_num, by rw [unhide HGM]; go_num, unhide HN⟩
          case measure => simp [intOf]; omega
    · obtain rfl : k = sn := by omega
      obtain ⟨L, hL1, hL2⟩ := hT.own
      have hLl : L.length = k := by have := congrArg List.length hL2; rw [List.length_map, swK_len, List.length_map] at this; omega
      have hlk : (rs.map ObR.o).length = k := by rw [List.length_map]; omega
      have hkc : k ≤ c := by
        obtain ⟨a', c', e1, e2, _⟩ := hL1.row.form
        injection e1 with _ en ec
        subst ec
        omega
      have HTR : Hid (Tr16 w g k c L k wr) := ⟨Nat.le_refl _, by rw [List.take_of_length_le (by omega)]; exact hL1, by rw [List.take_of_length_le (by omega)], hT.bel⟩
      have HGO : Hid ((goK (rs.map ObR.o) q k : Int) = goneN (rs.map ObR.o) vs) := by
        have := gone_is (l := rs.map ObR.o) (roots := vs)
        rw [← unhide HQE, hlk] at this
        exact this
      have HSW : Hid (trimH (L.map ObR.o) = sweepL (rs.map ObR.o) vs) := by
        have := trim_swept (roots := vs) (unhide HKH)
        rw [← unhide HQE, hlk] at this
        unfold Hid
        rw [hL2]
        exact this
      clear hL1 hL2 hT
      generalize goK (rs.map ObR.o) q k = gk at *
      have hlt1 : ¬ (k : Int) < (k : Int) := by omega
      go_wp2
      clear hlt1
      go_loopw [9] (fun v wr => ∃ j : Nat, v = .slice (some ⟨g, 0, none⟩) j c ∧ Tr16 w g k c L j wr) (fun v _ => lenS v)
      case atStart => exact ⟨k, rfl, unhide HTR⟩
      case round =>
        obtain ⟨j, rfl, hT⟩ := hrel
        have hjk := hT.few
        have KEY : ∀ W : World, Tr16 w g k c L j W → trimH ((L.take j).map ObR.o) = (L.take j).map ObR.o → (Below w.heap.size w W ∧ HOwn W w.heap.size (.slice (some ⟨g, 0, none⟩) j c) (L.take j) ∧ (L.take j).map ObR.o = sweepL (rs.map ObR.o) vs) := fun W h e => ⟨h.bel, h.own, by rw [← e, h.same, unhide HSW]⟩
        by_cases hj : j = 0
        · subst hj
          have HR := hide (KEY _ hT rfl)
          clear hT KEY
          go_wp2
          go_ret3
          obtain ⟨h1, h2, h3⟩ := unhide HR
          exact ⟨h1, g, 0, c, by rw [← unhide HGO]; rfl, _, h2, h3⟩
        · obtain ⟨j, rfl⟩ : ∃ j2, j = j2 + 1 := ⟨j - 1, by omega⟩
          obtain ⟨x, hx⟩ : ∃ x, L[j]? = some x := ⟨_, List.getElem?_eq_getElem (by omega)⟩
          have hea := ends_at16 hx
          obtain ⟨g', cur, eg, hgB, hh, hz, qq⟩ := hT.own.row.blkR rkO.len (by omega)
          injection eg with eg
          injection eg with eg
          subst eg
          have d0 := qq j x (by rw [List.getElem?_take, if_pos (by omega)]; exact hx) 0 _ rfl
          simp only [Nat.add_zero] at d0
          have HTN := ty_nil x.ty
          have HFO : Hid (freeO x.o = x.ty.isEmpty) := rfl
          have HEA := hide hea
          have HTT := hide hT
          have HKEY := hide (KEY _ hT)
          have hw1 : IntKind.i64.wrap (((j + 1 : Nat) : Int) - 1) = (j : Int) := by rw [IntKind.wrap_i64]; omega
          have hw2 : IntKind.i64.wrap ((j : Int) + 1 - 1) = (j : Int) := by rw [IntKind.wrap_i64]; omega
          have hw3 : IntKind.i64.wrap (j : Int) = (j : Int) := by rw [IntKind.wrap_i64]; omega
          have hj0 : (0 : Int) ≤ (j : Int) := by omega
          have hj1 : (0 : Int) < (j : Int) + 1 := by omega
          have hjm2 : (j : Int) ≤ (c : Int) := by omega
          generalize (⟨x.ty.toArray⟩ : ByteArray) = st at *
          clear hx hea hh hz qq hT KEY
          cases hf : x.ty.isEmpty with
          | true =>
            rw [hf] at HTN
            have hst : st.toList = [] := by simpa using HTN
            have HN := hide ((unhide HTT).next hLl (by rw [unhide HEA, unhide HFO, hf]))
            clear HEA HFO hf HTT HKEY
            go_wp2
            go_roundw
            case rel => exact ⟨j, rfl, unhide HN⟩
            case measure => simp [lenS]
          | false =>
            rw [hf] at HTN
            have hst : ¬ st.toList = [] := by simpa using HTN
            have HR := hide (unhide HKEY (trimH_keep (by rw [unhide HEA, unhide HFO, hf])))
            clear HEA HFO hf HTT HKEY
            go_wp2
            go_ret3
            obtain ⟨h1, h2, h3⟩ := unhide HR
            exact ⟨h1, g, j + 1, c, by rw [← unhide HGO]; rfl, _, h2, h3⟩
end Go.Proofs.Ytnnanlniffjnkaa
