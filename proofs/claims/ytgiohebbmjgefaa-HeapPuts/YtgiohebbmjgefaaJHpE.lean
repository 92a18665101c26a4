/- Layer 15, the landed code: ownObject, ownHeap. -/
import Derived.Test.YtgiohebbmjgefaaJHpD

namespace Go.Proofs.Ytgiohebbmjgefaa
open Go.RowKit
set_option linter.unusedVariables false
set_option maxRecDepth 100000

theorem bx_set2 {W : World} {A : Nat} {T : TypeId} {a0 a1 : Value} (c0 c1 : Value) (h : W.heap[A]? = some (.cells #[a0, a1] T)) : ((W.setCell ⟨A, 0, none⟩ c0).setCell ⟨A, 1, none⟩ c1).heap[A]? = some (.cells #[c0, c1] T) := by
  have h0 := heap_setCell_same W A 0 _ _ c0 h
  exact heap_setCell_same _ A 1 _ _ c1 h0
set_option maxHeartbeats 800000 in
theorem ownObject_any (w : World) (ty : List UInt8) (s : Sl) (ws : List Vl) (h : WsIn w s ws) :
    Calls Try.prog 37 #[.agg #[.string ⟨ty.toArray⟩, s.v]] w fun e w' => ∃ g, e = .returned (.agg #[.string ⟨ty.toArray⟩, .slice (some ⟨g, 0, none⟩) ws.length ws.length]) ∧ Orw vlc 33 2 w' w.heap.size (.slice (some ⟨g, 0, none⟩) ws.length ws.length) ws ∧ Below w.heap.size w w' := by
  obtain ⟨a, n, c⟩ := s
  have hln := h.ls.1
  have hsm := h.small
  simp only at hln hsm
  generalize (⟨ty.toArray⟩ : ByteArray) = st at *
  obtain ⟨w0, e0⟩ : ∃ w0, (w.alloc (.cells #[.string st, .slice a n c] 29)).alloc (.cells #[.string ⟨#[]⟩, .slice none 0 0] 29) = w0 := ⟨_, rfl⟩
  have B0 : Bx2 w 29 #[.string st, .slice a n c] _ w0 := e0 ▸ Bx2.start _ _ _ _
  have h0 := h.below B0.bel
  have HC := hide (ownV_any w0 ⟨a, n, c⟩ ws n h0.ls h0.nil (Nat.le_refl _) (by omega))
  have HB := hide B0
  have k1 := bx_cell B0.x 1 _ rfl
  simp at k1
  clear h h0 B0
  unfold Sl.v at *
  simp only at HC ⊢
  go_enter Try.func37, Try.ntmps37
  go_wp2_with fail
  clear k1
  refine (unhide HC).mono ?_
  rintro e w1 ⟨g, rfl, o1, f1⟩
  rw [Nat.sub_self, List.replicate_zero, List.append_nil] at o1
  have B1 := (unhide HB).on f1
  have O1 : Orw vlc 33 2 w1 (w.heap.size + 2) (.slice (some ⟨g, 0, none⟩) n n) ws := o1.base (unhide HB).size
  have k0 := bx_cell B1.x 0 _ rfl
  have k1 := bx_cell B1.x 1 _ rfl
  have z1 := bx_thaw B1.x 1
  have j0 := bx_cell B1.y 0 _ rfl
  have j1 := bx_cell B1.y 1 _ rfl
  have y0 := bx_thaw B1.y 0
  have y1 := bx_thaw B1.y 1
  have HB1 := hide B1
  have HO1 := hide O1
  simp at k0 k1 j0 j1
  clear o1 f1 HC HB e0 w0 B1 O1
  go_wp2
  have b1 := unhide HB1
  refine bodyPost_ret (res_o Try.results37 _ (w.heap.size + 1) (.string st) (.slice (some ⟨g, 0, none⟩) n n) ?_ _ rfl) rfl ⟨g, ?_, ?_, ?_⟩
  · exact bx_set2 _ _ ((Below.heap_setCell _ _ _ _ (by simp)).trans b1.y)
  · rw [hln]
  · rw [hln]
    refine ((unhide HO1).below fun k hk => ?_).base (by omega)
    have hlt := ((unhide HO1).lt k hk).1
    rw [Below.heap_setCell _ _ _ _ (by simp only; omega), Below.heap_setCell _ _ _ _ (by simp only; omega), Below.heap_setCell _ _ _ _ (by simp only; omega)]
  · exact ((b1.bel.setCell (Nat.le_refl _) _).setCell (Nat.le_succ _) _).setCell (Nat.le_succ _) _
/-- Of a list in a row of one's own the first k have words of their own, the rest is as it came. -/
structure Hm (w : World) (g m : Nat) (L : List ObR) (k : Nat) (W : World) (dn : List ObR) : Prop where
  len : dn.length = k
  same : dn.map ObR.o = (L.take k).map ObR.o
  row : Orw obc 29 2 W w.heap.size (.slice (some ⟨g, 0, none⟩) m m) (dn ++ L.drop k)
  each : ∀ r ∈ dn, Orw vlc 33 2 W w.heap.size r.s.v r.ws
  apart : dn.Pairwise (fun a b => ∀ i, a.s.v.ownBlock = some i → b.s.v.ownBlock ≠ some i)
  bel : Below w.heap.size w W
theorem keep_other {W : World} {B g : Nat} {v : Value} {ws : List Vl} {cur : Array Value} (h : Orw vlc 33 2 W B v ws) (hg : W.heap[g]? = some (.cells cur 29 (0, 0))) (o : Nat) (vs : List Value) : Orw vlc 33 2 (W.setCells g o vs) B v ws := h.keep fun k X _ hX => heap_cells_other g _ _ _ _ (fun e => by
  rw [e, hg] at hX
  injection hX with hX
  injection hX with _ hX
  cases hX)
theorem Hm.next {w W W4 : World} {g m k : Nat} {L dn : List ObR} {x : ObR} (h : Hm w g m L k W dn) (hx : L[k]? = some x) (f : Below W.heap.size W W4) {s : Sl} (ho : Orw vlc 33 2 W4 W.heap.size s.v x.ws) : Hm w g m L (k + 1) (W4.setCells g (k * 2) (obc ⟨x.ty, s, x.ws⟩)) (dn ++ [⟨x.ty, s, x.ws⟩]) := by
  have hk := (List.getElem?_eq_some_iff.1 hx).1
  have hdrop : L.drop k = x :: L.drop (k + 1) := by
    rw [List.drop_eq_getElem_cons hk, (List.getElem?_eq_some_iff.1 hx).2]
  have hln : (dn ++ L.drop k).length = m := by obtain ⟨_, _, e', _⟩ := h.row.form; injection e' with _ e2 _; exact e2.symm
  have hkm : k < m := by
    have := h.len
    rw [← hln, List.length_append, List.length_drop]
    omega
  have r4 := orw_on h.row f
  obtain ⟨g', cur, eg, hB, hh, _, _⟩ := r4.blkR rkO.len (by omega)
  injection eg with eg
  injection eg with eg
  subst eg
  refine ⟨by rw [List.length_append, h.len]; rfl, ?_, ?_, fun r hr => ?_, ?_, below_cells _ _ (h.bel.trans (f.mono h.bel.size)) hB⟩
  · rw [List.map_append, h.same, List.take_add_one, hx, List.map_append]
    rfl
  · have := r4.setR rkO.len hkm ⟨x.ty, s, x.ws⟩
    have e : (dn ++ L.drop k).set k ⟨x.ty, s, x.ws⟩ = dn ++ [⟨x.ty, s, x.ws⟩] ++ L.drop (k + 1) := by
      rw [List.set_append_right _ _ (by rw [h.len]; exact Nat.le_refl _), h.len, Nat.sub_self, hdrop]
      simp
    rw [e] at this
    exact this
  · rcases List.mem_append.1 hr with h1 | h1
    · exact keep_other (orw_on (h.each r h1) f) hh _ _
    · simp at h1
      subst h1
      exact keep_other (ho.base h.bel.size) hh _ _
  · rw [List.pairwise_append]
    refine ⟨h.apart, by simp, fun a ha b hb i hi hj => ?_⟩
    simp at hb
    subst hb
    have q1 := ((h.each a ha).lt i hi).2
    have q2 := (ho.lt i hj).1
    omega
set_option maxHeartbeats 1600000 in
theorem ownHeap_any (w : World) (s : Sl) (rs : List ObR) (h : HIn w s rs) (m : Nat) (hnm : s.n ≤ m) (hm : 40 * m ≤ 281474976710656) :
    Calls Try.prog 41 #[s.v, .int .i64 (m : Int)] w fun e w' => ∃ g dn, e = .returned (.slice (some ⟨g, 0, none⟩) m m) ∧ HOwn w' w.heap.size (.slice (some ⟨g, 0, none⟩) m m) dn ∧ dn.map ObR.o = (rs ++ List.replicate (m - s.n) ob0).map ObR.o ∧ Below w.heap.size w w' := by
  obtain ⟨a, n, c⟩ := s
  have hln := h.ls.1
  simp only at hln hnm
  have HC := hide (ownO_any w ⟨a, n, c⟩ rs m h.ls h.nil hnm hm)
  obtain ⟨L, hL⟩ : ∃ L, L = rs ++ List.replicate (m - n) ob0 := ⟨_, rfl⟩
  have HE : Hid (∀ x ∈ L, WsIn w x.s x.ws) := hide fun x hx => by
    rw [hL] at hx
    rcases List.mem_append.1 hx with h1 | h1
    · exact h.each x h1
    · rw [(List.mem_replicate.1 h1).2]
      exact wsIn_nil w
  have hLl : L.length = m := by rw [hL, List.length_append, List.length_replicate]; omega
  simp only at HC ⊢
  rw [← hL] at HC ⊢
  clear h hL
  unfold Sl.v at *
  simp only at HC ⊢
  go_enter Try.func41, Try.ntmps41
  go_wp2_with fail
  refine (unhide HC).mono ?_
  rintro e w1 ⟨g, rfl, o1, f1⟩
  have HCI := hide (Hm.mk (dn := []) (k := 0) rfl rfl (by simpa using o1) (fun r hr => by cases hr) List.Pairwise.nil f1)
  clear o1 f1 HC
  go_wp2
  go_loopw [13] (fun i wr => ∃ k : Nat, k ≤ m ∧ i = .int .i64 k ∧ ∃ dn, Hm w g m L k wr dn) (fun i _ => m - (intOf i).toNat)
  case atStart => exact ⟨0, by omega, rfl, _, unhide HCI⟩
  case round =>
    obtain ⟨k, hk, rfl, dn, hT⟩ := hrel
    by_cases hlt : k < m
    · have hlt1 : (k : Int) < (m : Int) := by omega
      have hk0 : (0 : Int) ≤ (k : Int) := by omega
      obtain ⟨x, hx⟩ : ∃ x, L[k]? = some x := ⟨_, List.getElem?_eq_getElem (by omega)⟩
      obtain ⟨g', cur, eg, hB, hh, hz, q⟩ := hT.row.blkR rkO.len (by omega)
      injection eg with eg
      injection eg with eg
      subst eg
      have hxk : (dn ++ L.drop k)[k]? = some x := by
        rw [List.getElem?_append_right (by rw [hT.len]; exact Nat.le_refl _), hT.len, Nat.sub_self, List.getElem?_drop, Nat.add_zero]
        exact hx
      have d0 := q k x hxk 0 _ rfl
      have d1 := q k x hxk 1 _ rfl
      rw [Nat.add_zero] at d0
      have HP := hide (ownObject_any (wr.alloc (.cells #[.string ⟨x.ty.toArray⟩, x.s.v] 29)) x.ty x.s x.ws (((unhide HE _ (List.mem_of_getElem? hx)).below hT.bel).below ((Below.refl _ _).alloc (Nat.le_refl _) _)))
      have HT := hide hT
      have HH := hide hh
      have HX := hide hx
      obtain ⟨ty, ⟨sa, sn, sc⟩, ws⟩ := x
      simp only [Sl.v] at HP d0 d1
      generalize hst : (⟨ty.toArray⟩ : ByteArray) = st at *
      clear q hz hT hh hx hxk
      go_wp2_with fail
      clear d0 d1
      refine (unhide HP).mono ?_
      rintro e w4 ⟨g2, rfl, own4, f4⟩
      have f4' : Below wr.heap.size wr w4 := ((Below.refl _ _).alloc (Nat.le_refl _) _).trans (f4.mono (by simp))
      have hh4 := (f4'.block g (lt_of_heap (unhide HH))).trans (unhide HH)
      have HPUT := hide ((unhide HT).next (unhide HX) f4' (s := ⟨some ⟨g2, 0, none⟩, ws.length, ws.length⟩) (own4.base (by simp)))
      have hxk2 : (dn ++ L.drop k)[k]? = some ⟨ty, ⟨sa, sn, sc⟩, ws⟩ := by
        rw [List.getElem?_append_right (by rw [(unhide HT).len]; exact Nat.le_refl _), (unhide HT).len, Nat.sub_self, List.getElem?_drop, Nat.add_zero]
        exact unhide HX
      obtain ⟨g', cur2, eg, _, _, _, q⟩ := (unhide HT).row.blkR rkO.len (by omega)
      injection eg with eg
      injection eg with eg
      subst eg
      have d0 := (f4'.cell (p := ⟨g, k * 2 + 0, none⟩) (lt_of_heap (unhide HH))).trans (q k _ hxk2 0 _ rfl)
      have d1 := (f4'.cell (p := ⟨g, k * 2 + 1, none⟩) (lt_of_heap (unhide HH))).trans (q k _ hxk2 1 _ rfl)
      rw [Nat.add_zero] at d0
      have z0 := bx_thaw hh4 (k * 2)
      have z1 := bx_thaw hh4 (k * 2 + 1)
      simp only [Sl.v, hst] at d0 d1
      simp only [obc, Sl.v, hst, World.setCells] at HPUT
      clear q hxk2 f4 f4' own4 hh4 HP HT HH HX
      go_wp2
      go_roundw
      case rel => exact ⟨k + 1, by omega, by go_num, _, unhide HPUT⟩
      case measure => simp [intOf]; omega
    · obtain rfl : k = m := by omega
      have HT := hide hT
      clear hT
      go_wp2
      go_ret
      have t := unhide HT
      have e1 : L.take k = L := List.take_of_length_le (by omega)
      have e2 : L.drop k = [] := List.drop_eq_nil_of_le (by omega)
      have r := t.row
      have sm := t.same
      rw [e1] at sm
      rw [e2, List.append_nil] at r
      exact ⟨g, dn, rfl, ⟨r, t.each, t.apart⟩, sm, t.bel⟩
end Go.Proofs.Ytgiohebbmjgefaa
