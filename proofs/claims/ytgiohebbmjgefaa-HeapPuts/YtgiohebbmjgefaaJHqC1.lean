/- Layer 15, the document's side: Free (written by mk/mkhqc.py). -/
import Derived.Test.YtgiohebbmjgefaaJHqD
import Derived.Test.YtgiohebbmjgefaaJHpS

namespace Go.Proofs.Ytgiohebbmjgefaa
open Go.RowKit
set_option linter.unusedVariables false
set_option maxRecDepth 100000

/-- Between two rounds of Free. -/
structure Fq15 (w : World) (g m c : Nat) (L : List ObR) (k : Nat) (W : World) : Prop where
  few : k ≤ m
  own : HOwn W w.heap.size (.slice (some ⟨g, 0, none⟩) k c) (L.take k)
  same : trimH ((L.take k).map ObR.o) = trimH (L.map ObR.o)
  bel : Below w.heap.size w W
theorem Fq15.on {w W W2 : World} {g m c k : Nat} {L : List ObR} (h : Fq15 w g m c L k W) (f : Below W.heap.size W W2) : Fq15 w g m c L k W2 := ⟨h.few, h.own.below f, h.same, h.bel.trans (f.mono h.bel.size)⟩
theorem Fq15.next {w W : World} {g m c j : Nat} {L : List ObR} (h : Fq15 w g m c L (j + 1) W) (hL : L.length = m) (he : endsH ((L.take (j + 1)).map ObR.o) = true) : Fq15 w g m c L j W := by
  have hf := h.few
  refine ⟨by omega, ?_, ?_, h.bel⟩
  · have := h.own.cut (Nat.le_succ j)
    rw [List.take_take, Nat.min_eq_left (Nat.le_succ _)] at this
    exact this
  · rw [← h.same]
    have e := (trimH_take he).1
    rw [← List.map_take, List.length_map, take_less L (by omega)] at e
    exact e.symm
set_option maxHeartbeats 1600000 in
theorem rfree_any (w : World) (s : Sl) (rs : List ObR) (h : HIn w s rs) (n : Int) (hn : fitI n) :
    Calls Try.prog 31 #[s.v, .int .i64 n] w (freePost w (rs.map ObR.o) n) := by
  have hln := h.ls.1
  have hsm := h.small
  have HC := hide (rget_any w s rs h n hn)
  have KH : Hid (∀ W, Below w.heap.size w W → HIn W s rs) := fun W f => h.below f
  obtain ⟨a, m, c⟩ := s
  simp only at hln hsm
  have HFN := hide hn
  clear h hn
  unfold Sl.v at *
  simp only at HC ⊢
  generalize hPO : freePost w (rs.map ObR.o) n = PO
  have HPO := hide hPO
  clear hPO
  go_enter Try.func31, Try.ntmps31
  go_wp2_with fail
  refine (unhide HC).mono ?_
  rintro e w1 ⟨f1, ⟨hg, rfl⟩ | ⟨r, s1, hg, hws, rfl⟩⟩
  · have HE := hide (freeH_none hg)
    have F1 := hide f1
    clear f1 hg HC
    go_wp2
    rw [← unhide HPO]
    exact ⟨(unhide F1).trans (((Below.refl _ _).alloc (Nat.le_refl _) _).mono (unhide F1).size), .inl ⟨unhide HE, rfl⟩⟩
  have HE := hide (freeH_some hg)
  obtain ⟨hck, hn1, hn2, hr, _⟩ := getH_inL hg
  rw [List.length_map] at hn2
  have hcl := check_len hck
  rw [List.length_map, hln] at hcl
  obtain ⟨j, hj⟩ : ∃ j : Nat, n = (j : Int) + 1 := ⟨(n - 1).toNat, by omega⟩
  subst hj
  have hjn : ((j : Int) + 1 - 1).toNat = j := by omega
  have hwr : IntKind.i64.wrap ((j : Int) + 1 - 1) = (j : Int) := by rw [IntKind.wrap_i64]; omega
  have hwr2 : IntKind.i64.wrap (j : Int) = (j : Int) := by rw [IntKind.wrap_i64]; omega
  have hjm : j < m := by omega
  have f2 : Below w.heap.size w (w1.alloc (.cells #[.string ⟨r.ty.toArray⟩, s1.v] 29)) := f1.trans (((Below.refl _ _).alloc (Nat.le_refl _) _).mono f1.size)
  have F2 := hide f2
  have HOH := hide (copy_any _ ⟨a, m, c⟩ rs (unhide KH _ f2))
  have HJ := hide hjn
  obtain ⟨ty, ws⟩ := r
  obtain ⟨sa, sn, sc⟩ := s1
  simp only [Sl.v] at HOH F2
  clear f1 f2 hg hr hck hn1 hn2 HC KH hjn hws
  unfold Sl.v
  simp only
  go_wp2_with fail
  refine (unhide HOH).mono ?_
  rintro e w4 ⟨g, c4, dn, rfl, hown, hd, f4⟩
  have hdl : dn.length = m := by
    have := congrArg List.length hd
    simpa [hln] using this
  obtain ⟨y, hy⟩ : ∃ y, dn[j]? = some y := ⟨_, List.getElem?_eq_getElem (by omega)⟩
  obtain ⟨g', cur, eg, hB, hh, hz, q1⟩ := hown.row.blkR rkO.len (by omega)
  injection eg with eg
  injection eg with eg
  subst eg
  have d0 := q1 j _ hy 0 _ rfl
  have d1 := q1 j _ hy 1 _ rfl
  rw [Nat.add_zero] at d0
  have z0 := hz (j * 2)
  have z1 := hz (j * 2 + 1)
  have hjm1 : (j : Int) < (m : Int) := by omega
  have hset := hown.set (k := j) (y := ob0) (Below.refl _ _) (by have := hown.row.lt g rfl; omega) hjm (Orw.nil _ _ _ _ _)
  have hgw : w.heap.size ≤ g := Nat.le_trans (unhide F2).size hB
  have hB4 : Below w.heap.size w w4 := (unhide F2).trans (f4.mono (unhide F2).size)
  have hfr : Fq15 w g m c4 (dn.set j ob0) m ((w4.setCell ⟨g, j * 2, none⟩ (.string ⟨#[]⟩)).setCell ⟨g, j * 2 + 1, none⟩ (.slice none 0 0)) := by
    refine ⟨Nat.le_refl _, ?_, ?_, (hB4.setCell (p := ⟨g, j * 2, none⟩) hgw _).setCell (p := ⟨g, j * 2 + 1, none⟩) hgw _⟩
    · rw [List.take_of_length_le (by rw [List.length_set]; omega)]
      exact hset.base (unhide F2).size
    · rw [List.take_of_length_le (by rw [List.length_set]; omega)]
  have hmap : (dn.set j ob0).map ObR.o = (rs.map ObR.o).set j zeroO := by
    rw [List.map_set, hd]
    rfl
  obtain ⟨L, hL⟩ : ∃ L, L = dn.set j ob0 := ⟨_, rfl⟩
  have hLl : L.length = m := by rw [hL, List.length_set, hdl]
  rw [← hL] at hfr hmap
  have hLw : wordsH (L.map ObR.o) ≤ 65536 := by
    rw [hmap]
    have := wordsH_set (rs.map ObR.o) j zeroO
    have h2 : zeroO.ws.length = 0 := rfl
    omega
  have HFR := hide hfr
  have HMAP := hide hmap
  have KL : Hid (∀ k, (L.take k).length ≤ 100000 ∧ wordsH ((L.take k).map ObR.o) ≤ 1000000) := fun k => by
    refine ⟨by rw [List.length_take]; omega, ?_⟩
    rw [List.map_take]
    exact Nat.le_trans (wordsH_take _ _) (by omega)
  clear hfr hmap hL hset hown hd hdl hy hh hz q1 f4 hB HOH hB4 hgw hLw
  go_wp2
  clear d0 d1 z0 z1
  go_loopw [8] (fun v wr => ∃ k : Nat, v = .slice (some ⟨g, 0, none⟩) k c4 ∧ Fq15 w g m c4 L k wr) (fun v _ => lenS v)
  case atStart => exact ⟨m, rfl, unhide HFR⟩
  case round =>
    obtain ⟨k, rfl, hT⟩ := hrel
    have hk := hT.few
    have hlk : (L.take k).length = k := by rw [List.length_take]; omega
    have ENDF : Hid (endsH ((L.take k).map ObR.o) = false → PO (.returned (.tuple #[.slice (some ⟨g, 0, none⟩) k c4, .int .i64 0])) wr) := hide fun he => by
      rw [← unhide HPO]
      have hE := unhide HE
      have hs := hT.same
      rw [trimH_keep he, unhide HMAP] at hs
      rw [unhide HJ] at hE
      exact ⟨hT.bel, .inr ⟨_, ⟨some ⟨g, 0, none⟩, k, c4⟩, L.take k, hE, hT.own.hin (unhide KL k).1 (unhide KL k).2, hs, rfl⟩⟩
    by_cases hk0 : k = 0
    · subst hk0
      have HEND := hide (unhide ENDF rfl)
      clear hT ENDF
      go_wp2
      exact unhide HEND
    obtain ⟨j2, rfl⟩ : ∃ j2, k = j2 + 1 := ⟨k - 1, by omega⟩
    obtain ⟨y, hy⟩ : ∃ y, (L.take (j2 + 1))[j2]? = some y := ⟨_, List.getElem?_eq_getElem (by omega)⟩
    have hen : endsH ((L.take (j2 + 1)).map ObR.o) = y.ty.isEmpty := ends_at (by rw [hlk]; exact hy)
    obtain ⟨g', cur, eg, _, _, _, q⟩ := hT.own.row.blkR rkO.len (by omega)
    injection eg with eg
    injection eg with eg
    subst eg
    have d0 := q j2 y hy 0 _ rfl
    rw [Nat.add_zero] at d0
    have hty := ty_nil y.ty
    have HT := hide hT
    have hw1 : IntKind.i64.wrap (((j2 + 1 : Nat) : Int) - 1) = (j2 : Int) := by rw [IntKind.wrap_i64]; omega
    have hw2 : IntKind.i64.wrap ((j2 : Int) + 1 - 1) = (j2 : Int) := by rw [IntKind.wrap_i64]; omega
    have hw3 : IntKind.i64.wrap (j2 : Int) = (j2 : Int) := by rw [IntKind.wrap_i64]; omega
    have hj0 : (0 : Int) ≤ (j2 : Int) := by omega
    have hjl : (j2 : Int) < (j2 : Int) + 1 := by omega
    have hgt : (0 : Int) < (j2 : Int) + 1 := by omega
    have hjm2 : (j2 : Int) ≤ (c4 : Int) := by
      obtain ⟨_, _, e', _, h1, _⟩ := hT.own.row.form
      injection e' with _ e2 e3
      omega
    clear hy q hT
    generalize y.ty = yt at *
    generalize hst : (⟨yt.toArray⟩ : ByteArray) = st at *
    cases ht : yt.isEmpty with
    | false =>
      have HEND := hide (unhide ENDF (by rw [hen, ht]))
      rw [ht] at hty
      have hty2 : ¬ st.toList = [] := by simpa using hty
      clear ENDF hen
      go_wp2
      exact unhide HEND
    | true =>
      have H7 := hide ((unhide HT).next hLl (by rw [hen, ht]))
      rw [ht] at hty
      have hty2 : st.toList = [] := by simpa using hty
      clear ENDF hen
      go_wp2
      go_roundw
      case rel => exact ⟨j2, rfl, unhide H7⟩
      case measure => simp [lenS]
end Go.Proofs.Ytgiohebbmjgefaa
