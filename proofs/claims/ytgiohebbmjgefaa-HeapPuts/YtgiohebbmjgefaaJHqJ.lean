/- Layer 15, the document's side: Array (written by mk/mkhqj.py). -/
import Derived.Test.YtgiohebbmjgefaaJHqI

namespace Go.Proofs.Ytgiohebbmjgefaa
open Go.RowKit
set_option linter.unusedVariables false
set_option maxRecDepth 100000

/-- Between two rounds of the document's Array. -/
structure Aj15 (w : World) (s0 : Value) (z : Vl) (k : Nat) (v : Value) (W : World) : Prop where
  row : Orw vlc 33 2 W (w.heap.size + 3) v (List.replicate k z)
  x : W.heap[w.heap.size + 2]? = some (.cells #[s0, v] 29 (0, 0))
  vv : W.heap[w.heap.size + 1]? = some (.cells #[.int .i64 z.kind, .int .i64 z.n] 33 (0, 0))
  r : W.heap[w.heap.size]? = some (.cells #[.string ⟨#[]⟩, .slice none 0 0] 29 (0, 0))
  bel : Below w.heap.size w W
  size : w.heap.size + 3 ≤ W.heap.size
theorem Aj15.next {w W W2 : World} {s0 : Value} {z : Vl} {k : Nat} {v v' : Value} (h : Aj15 w s0 z k v W) {o : Obj} (ho : Orw vlc 33 2 W2 (w.heap.size + 3) v' (List.replicate k z ++ [z])) (g : (W.alloc o).grownBy W2 v.ownBlock) : Aj15 w s0 z (k + 1) v' (W2.setCell ⟨w.heap.size + 2, 1, none⟩ v') := by
  have f : Below W.heap.size W (W.alloc o) := (Below.refl _ _).alloc (Nat.le_refl _) _
  have hs := h.size
  have blk : ∀ q X, q < w.heap.size + 3 → W.heap[q]? = some X → W2.heap[q]? = some X := fun q X hq hX => by
    have hlt := lt_of_heap hX
    rw [g.block q (by simp; omega) (fun e => by have := (h.row.lt q e.symm).1; omega), f.block q hlt, hX]
  have x2 := blk _ _ (by omega) h.x
  refine ⟨?_, heap_setCell_same W2 _ 1 _ _ _ x2, ?_, ?_, ?_, ?_⟩
  · rw [List.replicate_succ']
    exact ho.below fun q hq => Below.heap_setCell _ _ _ _ (by have := (ho.lt q hq).1; simp only; omega)
  · rw [Below.heap_setCell _ _ _ _ (by simp only; omega)]
    exact blk _ _ (by omega) h.vv
  · rw [Below.heap_setCell _ _ _ _ (by simp only; omega)]
    exact blk _ _ (by omega) h.r
  · refine Below.setCell (p := ⟨w.heap.size + 2, 1, none⟩) ?_ (by simp only; omega) _
    refine (h.bel.trans (f.mono h.bel.size)).grown g (by simp; omega) (fun q hq => by have := (h.row.lt q hq).1; omega)
  · have h1 := g.size
    have : W.heap.size + 1 ≤ W2.heap.size := by simpa using h1
    simp [World.setCell]
    omega
set_option maxHeartbeats 6400000 in
theorem rarray_any (w : World) (t : List UInt8) (n : Int) (hn : fitI n) :
    Calls Try.prog 27 #[.string ⟨t.toArray⟩, .int .i64 n] w (arrPost w t n) := by
  have hl := ty_nil t
  obtain ⟨w0, e0, f0, r0⟩ : ∃ w0, w.alloc (.cells #[.string ⟨#[]⟩, .slice none 0 0] 29) = w0 ∧ Below w.heap.size w w0 ∧ w0.heap[w.heap.size]? = some (.cells #[.string ⟨#[]⟩, .slice none 0 0] 29 (0, 0)) := ⟨_, rfl, (Below.refl _ _).alloc (Nat.le_refl _) _, heap_alloc_last _ _⟩
  have z0 := bx_thaw r0 0
  have z1 := bx_thaw r0 1
  have k0 := bx_cell r0 0 _ rfl
  have k1 := bx_cell r0 1 _ rfl
  have hs0 : w0.heap.size = w.heap.size + 1 := by rw [← e0]; simp
  have HS0 := hide (And.intro f0 (And.intro r0 hs0))
  have END : Hid (∀ x y : Value, ((w0.setCell ⟨w.heap.size, 0, none⟩ x).setCell ⟨w.heap.size, 1, none⟩ y).heap[w.heap.size]? = some (.cells #[x, y] 29 (0, 0)) ∧ Below w.heap.size w ((w0.setCell ⟨w.heap.size, 0, none⟩ x).setCell ⟨w.heap.size, 1, none⟩ y)) := hide fun x y =>
    ⟨bx_set2 _ _ r0, (f0.setCell (p := ⟨w.heap.size, 0, none⟩) (Nat.le_refl _) _).setCell (p := ⟨w.heap.size, 1, none⟩) (Nat.le_refl _) _⟩
  generalize hPO : arrPost w t n = PO
  have HPO := hide hPO
  clear hPO f0 r0 hs0
  by_cases h1 : t = [] ∨ n < 0
  · have HE := hide (arrEH_arg h1)
    rcases h1 with h1 | h1
    · subst h1
      go_enter Try.func27, Try.ntmps27
      go_wp2
      rw [← unhide HPO]
      exact bodyPost_ret (res_ot Try.results27 _ w.heap.size _ _ (unhide END _ _).1 _ rfl) rfl ⟨(unhide END _ _).2, .inl ⟨by rw [unhide HE]; decide, by rw [unhide HE]; rfl⟩⟩
    · generalize (⟨t.toArray⟩ : ByteArray) = st at *
      cases ht : t.isEmpty with
      | true =>
        rw [ht] at hl
        have hty2 : st.toList = [] := by simpa using hl
        go_enter Try.func27, Try.ntmps27
        go_wp2
        rw [← unhide HPO]
        exact bodyPost_ret (res_ot Try.results27 _ w.heap.size _ _ (unhide END _ _).1 _ rfl) rfl ⟨(unhide END _ _).2, .inl ⟨by rw [unhide HE]; decide, by rw [unhide HE]; rfl⟩⟩
      | false =>
        rw [ht] at hl
        have hty2 : ¬ st.toList = [] := by simpa using hl
        go_enter Try.func27, Try.ntmps27
        go_wp2
        rw [← unhide HPO]
        exact bodyPost_ret (res_ot Try.results27 _ w.heap.size _ _ (unhide END _ _).1 _ rfl) rfl ⟨(unhide END _ _).2, .inl ⟨by rw [unhide HE]; decide, by rw [unhide HE]; rfl⟩⟩
  have ht : t.isEmpty = false := by
    cases t with
    | nil => exact absurd (.inl rfl) h1
    | cons _ _ => rfl
  have hn0 : ¬ n < 0 := fun e => h1 (.inr e)
  rw [ht] at hl
  have hty2 : ¬ (⟨t.toArray⟩ : ByteArray).toList = [] := by simpa using hl
  by_cases h2 : 65536 < n
  · have HE := hide (arrEH_full h1 h2)
    clear h1
    generalize (⟨t.toArray⟩ : ByteArray) = st at *
    go_enter Try.func27, Try.ntmps27
    go_wp2
    rw [← unhide HPO]
    exact bodyPost_ret (res_ot Try.results27 _ w.heap.size _ _ (unhide END _ _).1 _ rfl) rfl ⟨(unhide END _ _).2, .inl ⟨by rw [unhide HE]; decide, by rw [unhide HE]; rfl⟩⟩
  have HE := hide (arrEH_ok h1 h2)
  obtain ⟨N, rfl⟩ : ∃ N : Nat, n = (N : Int) := ⟨n.toNat, by omega⟩
  have hN : N ≤ 65536 := by omega
  have HNT : Hid ((N : Int).toNat = N) := hide (by omega)
  have hlt := ty_list t
  have HA : Hid (∀ Z : Int, Aj15 w (.string ⟨t.toArray⟩) ⟨Z, 0⟩ 0 (.slice none 0 0) ((w0.alloc (.cells #[.int .i64 Z, .int .i64 0] 33)).alloc (.cells #[.string ⟨t.toArray⟩, .slice none 0 0] 29))) := fun Z => by
    obtain ⟨f0, r0, hs0⟩ := unhide HS0
    have hs1 : (w0.alloc (.cells #[.int .i64 Z, .int .i64 0] 33)).heap.size = w.heap.size + 2 := by simp [hs0]
    refine ⟨Orw.nil _ _ _ _ _, ?_, ?_, ?_, (f0.alloc f0.size _).alloc (by rw [hs1]; omega) _, by simp [hs0]⟩
    · have := heap_alloc_last (w0.alloc (.cells #[.int .i64 Z, .int .i64 0] 33)) (.cells #[.string ⟨t.toArray⟩, .slice none 0 0] 29)
      rw [hs1] at this
      exact this
    · refine (heap_alloc_old _ _ (by rw [hs1]; omega)).trans ?_
      have := heap_alloc_last w0 (.cells #[.int .i64 Z, .int .i64 0] 33)
      rw [hs0] at this
      exact this
    · exact (heap_alloc_old _ _ (by rw [hs1]; omega)).trans ((heap_alloc_old _ _ (by rw [hs0]; omega)).trans r0)
  have hs0 := (unhide HS0).2.2
  clear h1 END k0 k1 z0 z1
  generalize hst : (⟨t.toArray⟩ : ByteArray) = st at *
  have HLT := hide hlt
  by_cases q1 : t = [91, 73]
  · have e1 : st.toList = [91, 73] := by rw [hlt, q1]
    have e1b : (st.toList == [91, 73]) = true := by simpa using e1
    have e3 : ¬ st.toList = [91, 74] := by rw [e1]; decide
    have e3b : (st.toList == [91, 74]) = false := by simpa using e3
    have HZ : Hid (wordKindH t = 1) := hide (by unfold wordKindH; rw [if_pos (.inl q1)])
    have HAZ := hide (unhide HA 1)
    clear HA q1 hlt
    go_enter Try.func27, Try.ntmps27
    go_wp2
    go_loopw [8] (fun i wr => ∃ (k : Nat) (v : Value), k ≤ N ∧ i = .int .i64 (k : Int) ∧ Aj15 w (.string st) ⟨1, 0⟩ k v wr) (fun i _ => N - (intOf i).toNat)
    case atStart => exact ⟨0, _, by omega, rfl, by simpa [hs0] using unhide HAZ⟩
    case round =>
      obtain ⟨k, v, hk, rfl, hT⟩ := hrel
      have hX := hT.x
      have k0 := bx_cell hX 0 _ rfl
      have k1 := bx_cell hX 1 _ rfl
      have hsz := hT.size
      by_cases hlt : k < N
      · have hlt1 : (k : Int) < (N : Int) := by omega
        have hV := hT.vv
        have c0 := bx_cell hV 0 _ rfl
        have c1 := bx_cell hV 1 _ rfl
        simp only at c0 c1
        have HL : Hid (Ls 2 vlc (wr.alloc (.cells #[.int .i64 1, .int .i64 0] 33)) (some ⟨wr.heap.size, 0, none⟩) 1 [⟨1, 0⟩]) := ls_one (cs := vlc) (sz := 2) wr _ _ (Vl.mk 1 0) rfl
        have HO : Hid (Orw vlc 33 2 (wr.alloc (.cells #[.int .i64 1, .int .i64 0] 33)) (w.heap.size + 3) v (List.replicate k ⟨1, 0⟩)) := orw_on hT.row ((Below.refl _ _).alloc (Nat.le_refl _) _)
        have HLN1 := hide (show ((List.replicate k (⟨1, 0⟩ : Vl)).length + 1) * 16 ≤ 140737488355328 by simp; omega)
        have HLN2 := hide (show (List.replicate k (⟨1, 0⟩ : Vl)).length + 1 ≤ 140737488355328 by simp; omega)
        have HSZ := hide (show w.heap.size + 3 ≤ (wr.alloc (.cells #[.int .i64 1, .int .i64 0] 33)).heap.size by simp; omega)
        have HT := hide hT
        clear hX hV hsz hT
        go_wp2_with (at_builtin; refine listR_append rkV rfl _ _ rfl (w.heap.size + 3) _ _ rfl (unhide HO) _ 1 1 [_] rfl (unhide HL) (fun e => by cases e) (unhide HLN1) (unhide HLN2) (unhide HSZ) ?_)
        intro v' w5 o4 g4
        obtain ⟨va, vc, rfl, _⟩ := o4.form
        have HN := hide ((unhide HT).next o4 g4)
        have hb : w5.heap[w.heap.size + 2]? = some (.cells #[.string st, v] 29 (0, 0)) := (g4.block _ (by have := (unhide HT).size; simp; omega) (fun e => by have := ((unhide HT).row.lt _ e.symm).1; omega)).trans ((heap_alloc_old _ _ (by have := (unhide HT).size; omega)).trans (unhide HT).x)
        have hbt := bx_thaw hb 1
        have hb0 := bx_cell hb 1 _ rfl
        clear k0 k1 c0 c1 o4 g4 hb HT HO HL HLN1 HLN2 HSZ
        go_wp2
        go_roundw
        case rel => exact ⟨k + 1, _, by omega, by go_num, by simpa using unhide HN⟩
        case measure => simp [intOf]; omega
      · obtain rfl : k = N := by omega
        have r1 := hT.r
        have j0 := bx_cell r1 0 _ rfl
        have j1 := bx_cell r1 1 _ rfl
        have y0 := bx_thaw r1 0
        have y1 := bx_thaw r1 1
        obtain ⟨va, vc, rfl, _⟩ := hT.row.form
        have HT := hide hT
        have HR := hide r1
        clear hT r1 hX hsz
        go_wp2
        rw [← unhide HPO]
        have o := (unhide HT).row
        rw [List.length_replicate] at o
        refine bodyPost_ret (res_ot Try.results27 _ w.heap.size (.string st) (.slice va k vc) (bx_set2 _ _ (unhide HR)) _ rfl) rfl ⟨(((unhide HT).bel.setCell (p := ⟨w.heap.size, 0, none⟩) (Nat.le_refl _) _).setCell (p := ⟨w.heap.size, 1, none⟩) (Nat.le_refl _) _), .inr ⟨unhide HE, ⟨va, k, vc⟩, ?_, ?_⟩⟩
        · have o2 := o.below (w' := (wr.setCell ⟨w.heap.size, 0, none⟩ (.string st)).setCell ⟨w.heap.size, 1, none⟩ (.slice va k vc)) (fun q hq => by
            have hlt := (o.lt q hq).1
            rw [Below.heap_setCell _ _ _ _ (by simp only; omega), Below.heap_setCell _ _ _ _ (by simp only; omega)])
          rw [unhide HNT, unhide HZ]
          exact Orw.linR (s := ⟨va, k, vc⟩) rkV o2 (by simp; omega) (fun _ _ => trivial)
        · simp only [hst]
          rfl
  have e1 : ¬ st.toList = [91, 73] := by rw [hlt]; exact q1
  have e1b : (st.toList == [91, 73]) = false := by simpa using e1
  by_cases q2 : t = [91, 66]
  · have e2 : st.toList = [91, 66] := by rw [hlt, q2]
    have e2b : (st.toList == [91, 66]) = true := by simpa using e2
    have e3 : ¬ st.toList = [91, 74] := by rw [e2]; decide
    have e3b : (st.toList == [91, 74]) = false := by simpa using e3
    have HZ : Hid (wordKindH t = 1) := hide (by unfold wordKindH; rw [if_pos (.inr q2)])
    have HAZ := hide (unhide HA 1)
    clear HA q1 q2 hlt
    go_enter Try.func27, Try.ntmps27
    go_wp2
    go_loopw [8] (fun i wr => ∃ (k : Nat) (v : Value), k ≤ N ∧ i = .int .i64 (k : Int) ∧ Aj15 w (.string st) ⟨1, 0⟩ k v wr) (fun i _ => N - (intOf i).toNat)
    case atStart => exact ⟨0, _, by omega, rfl, by simpa [hs0] using unhide HAZ⟩
    case round =>
      obtain ⟨k, v, hk, rfl, hT⟩ := hrel
      have hX := hT.x
      have k0 := bx_cell hX 0 _ rfl
      have k1 := bx_cell hX 1 _ rfl
      have hsz := hT.size
      by_cases hlt : k < N
      · have hlt1 : (k : Int) < (N : Int) := by omega
        have hV := hT.vv
        have c0 := bx_cell hV 0 _ rfl
        have c1 := bx_cell hV 1 _ rfl
        simp only at c0 c1
        have HL : Hid (Ls 2 vlc (wr.alloc (.cells #[.int .i64 1, .int .i64 0] 33)) (some ⟨wr.heap.size, 0, none⟩) 1 [⟨1, 0⟩]) := ls_one (cs := vlc) (sz := 2) wr _ _ (Vl.mk 1 0) rfl
        have HO : Hid (Orw vlc 33 2 (wr.alloc (.cells #[.int .i64 1, .int .i64 0] 33)) (w.heap.size + 3) v (List.replicate k ⟨1, 0⟩)) := orw_on hT.row ((Below.refl _ _).alloc (Nat.le_refl _) _)
        have HLN1 := hide (show ((List.replicate k (⟨1, 0⟩ : Vl)).length + 1) * 16 ≤ 140737488355328 by simp; omega)
        have HLN2 := hide (show (List.replicate k (⟨1, 0⟩ : Vl)).length + 1 ≤ 140737488355328 by simp; omega)
        have HSZ := hide (show w.heap.size + 3 ≤ (wr.alloc (.cells #[.int .i64 1, .int .i64 0] 33)).heap.size by simp; omega)
        have HT := hide hT
        clear hX hV hsz hT
        go_wp2_with (at_builtin; refine listR_append rkV rfl _ _ rfl (w.heap.size + 3) _ _ rfl (unhide HO) _ 1 1 [_] rfl (unhide HL) (fun e => by cases e) (unhide HLN1) (unhide HLN2) (unhide HSZ) ?_)
        intro v' w5 o4 g4
        obtain ⟨va, vc, rfl, _⟩ := o4.form
        have HN := hide ((unhide HT).next o4 g4)
        have hb : w5.heap[w.heap.size + 2]? = some (.cells #[.string st, v] 29 (0, 0)) := (g4.block _ (by have := (unhide HT).size; simp; omega) (fun e => by have := ((unhide HT).row.lt _ e.symm).1; omega)).trans ((heap_alloc_old _ _ (by have := (unhide HT).size; omega)).trans (unhide HT).x)
        have hbt := bx_thaw hb 1
        have hb0 := bx_cell hb 1 _ rfl
        clear k0 k1 c0 c1 o4 g4 hb HT HO HL HLN1 HLN2 HSZ
        go_wp2
        go_roundw
        case rel => exact ⟨k + 1, _, by omega, by go_num, by simpa using unhide HN⟩
        case measure => simp [intOf]; omega
      · obtain rfl : k = N := by omega
        have r1 := hT.r
        have j0 := bx_cell r1 0 _ rfl
        have j1 := bx_cell r1 1 _ rfl
        have y0 := bx_thaw r1 0
        have y1 := bx_thaw r1 1
        obtain ⟨va, vc, rfl, _⟩ := hT.row.form
        have HT := hide hT
        have HR := hide r1
        clear hT r1 hX hsz
        go_wp2
        rw [← unhide HPO]
        have o := (unhide HT).row
        rw [List.length_replicate] at o
        refine bodyPost_ret (res_ot Try.results27 _ w.heap.size (.string st) (.slice va k vc) (bx_set2 _ _ (unhide HR)) _ rfl) rfl ⟨(((unhide HT).bel.setCell (p := ⟨w.heap.size, 0, none⟩) (Nat.le_refl _) _).setCell (p := ⟨w.heap.size, 1, none⟩) (Nat.le_refl _) _), .inr ⟨unhide HE, ⟨va, k, vc⟩, ?_, ?_⟩⟩
        · have o2 := o.below (w' := (wr.setCell ⟨w.heap.size, 0, none⟩ (.string st)).setCell ⟨w.heap.size, 1, none⟩ (.slice va k vc)) (fun q hq => by
            have hlt := (o.lt q hq).1
            rw [Below.heap_setCell _ _ _ _ (by simp only; omega), Below.heap_setCell _ _ _ _ (by simp only; omega)])
          rw [unhide HNT, unhide HZ]
          exact Orw.linR (s := ⟨va, k, vc⟩) rkV o2 (by simp; omega) (fun _ _ => trivial)
        · simp only [hst]
          rfl
  have e2 : ¬ st.toList = [91, 66] := by rw [hlt]; exact q2
  have e2b : (st.toList == [91, 66]) = false := by simpa using e2
  by_cases q3 : t = [91, 74]
  · have e3 : st.toList = [91, 74] := by rw [hlt, q3]
    have e3b : (st.toList == [91, 74]) = true := by simpa using e3
    have HZ : Hid (wordKindH t = 2) := hide (by unfold wordKindH; rw [if_neg (by rintro (h | h); exact q1 h; exact q2 h), if_pos q3])
    have HAZ := hide (unhide HA 2)
    clear HA q1 q2 q3 hlt
    go_enter Try.func27, Try.ntmps27
    go_wp2
    go_loopw [8] (fun i wr => ∃ (k : Nat) (v : Value), k ≤ N ∧ i = .int .i64 (k : Int) ∧ Aj15 w (.string st) ⟨2, 0⟩ k v wr) (fun i _ => N - (intOf i).toNat)
    case atStart => exact ⟨0, _, by omega, rfl, by simpa [hs0] using unhide HAZ⟩
    case round =>
      obtain ⟨k, v, hk, rfl, hT⟩ := hrel
      have hX := hT.x
      have k0 := bx_cell hX 0 _ rfl
      have k1 := bx_cell hX 1 _ rfl
      have hsz := hT.size
      by_cases hlt : k < N
      · have hlt1 : (k : Int) < (N : Int) := by omega
        have hV := hT.vv
        have c0 := bx_cell hV 0 _ rfl
        have c1 := bx_cell hV 1 _ rfl
        simp only at c0 c1
        have HL : Hid (Ls 2 vlc (wr.alloc (.cells #[.int .i64 2, .int .i64 0] 33)) (some ⟨wr.heap.size, 0, none⟩) 1 [⟨2, 0⟩]) := ls_one (cs := vlc) (sz := 2) wr _ _ (Vl.mk 2 0) rfl
        have HO : Hid (Orw vlc 33 2 (wr.alloc (.cells #[.int .i64 2, .int .i64 0] 33)) (w.heap.size + 3) v (List.replicate k ⟨2, 0⟩)) := orw_on hT.row ((Below.refl _ _).alloc (Nat.le_refl _) _)
        have HLN1 := hide (show ((List.replicate k (⟨2, 0⟩ : Vl)).length + 1) * 16 ≤ 140737488355328 by simp; omega)
        have HLN2 := hide (show (List.replicate k (⟨2, 0⟩ : Vl)).length + 1 ≤ 140737488355328 by simp; omega)
        have HSZ := hide (show w.heap.size + 3 ≤ (wr.alloc (.cells #[.int .i64 2, .int .i64 0] 33)).heap.size by simp; omega)
        have HT := hide hT
        clear hX hV hsz hT
        go_wp2_with (at_builtin; refine listR_append rkV rfl _ _ rfl (w.heap.size + 3) _ _ rfl (unhide HO) _ 1 1 [_] rfl (unhide HL) (fun e => by cases e) (unhide HLN1) (unhide HLN2) (unhide HSZ) ?_)
        intro v' w5 o4 g4
        obtain ⟨va, vc, rfl, _⟩ := o4.form
        have HN := hide ((unhide HT).next o4 g4)
        have hb : w5.heap[w.heap.size + 2]? = some (.cells #[.string st, v] 29 (0, 0)) := (g4.block _ (by have := (unhide HT).size; simp; omega) (fun e => by have := ((unhide HT).row.lt _ e.symm).1; omega)).trans ((heap_alloc_old _ _ (by have := (unhide HT).size; omega)).trans (unhide HT).x)
        have hbt := bx_thaw hb 1
        have hb0 := bx_cell hb 1 _ rfl
        clear k0 k1 c0 c1 o4 g4 hb HT HO HL HLN1 HLN2 HSZ
        go_wp2
        go_roundw
        case rel => exact ⟨k + 1, _, by omega, by go_num, by simpa using unhide HN⟩
        case measure => simp [intOf]; omega
      · obtain rfl : k = N := by omega
        have r1 := hT.r
        have j0 := bx_cell r1 0 _ rfl
        have j1 := bx_cell r1 1 _ rfl
        have y0 := bx_thaw r1 0
        have y1 := bx_thaw r1 1
        obtain ⟨va, vc, rfl, _⟩ := hT.row.form
        have HT := hide hT
        have HR := hide r1
        clear hT r1 hX hsz
        go_wp2
        rw [← unhide HPO]
        have o := (unhide HT).row
        rw [List.length_replicate] at o
        refine bodyPost_ret (res_ot Try.results27 _ w.heap.size (.string st) (.slice va k vc) (bx_set2 _ _ (unhide HR)) _ rfl) rfl ⟨(((unhide HT).bel.setCell (p := ⟨w.heap.size, 0, none⟩) (Nat.le_refl _) _).setCell (p := ⟨w.heap.size, 1, none⟩) (Nat.le_refl _) _), .inr ⟨unhide HE, ⟨va, k, vc⟩, ?_, ?_⟩⟩
        · have o2 := o.below (w' := (wr.setCell ⟨w.heap.size, 0, none⟩ (.string st)).setCell ⟨w.heap.size, 1, none⟩ (.slice va k vc)) (fun q hq => by
            have hlt := (o.lt q hq).1
            rw [Below.heap_setCell _ _ _ _ (by simp only; omega), Below.heap_setCell _ _ _ _ (by simp only; omega)])
          rw [unhide HNT, unhide HZ]
          exact Orw.linR (s := ⟨va, k, vc⟩) rkV o2 (by simp; omega) (fun _ _ => trivial)
        · simp only [hst]
          rfl
  have e3 : ¬ st.toList = [91, 74] := by rw [hlt]; exact q3
  have e3b : (st.toList == [91, 74]) = false := by simpa using e3
  have HZ : Hid (wordKindH t = 4) := hide (by unfold wordKindH; rw [if_neg (by rintro (h | h); exact q1 h; exact q2 h), if_neg q3])
  have HAZ := hide (unhide HA 4)
  clear HA q1 q2 q3 hlt
  go_enter Try.func27, Try.ntmps27
  go_wp2
  go_loopw [8] (fun i wr => ∃ (k : Nat) (v : Value), k ≤ N ∧ i = .int .i64 (k : Int) ∧ Aj15 w (.string st) ⟨4, 0⟩ k v wr) (fun i _ => N - (intOf i).toNat)
  case atStart => exact ⟨0, _, by omega, rfl, by simpa [hs0] using unhide HAZ⟩
  case round =>
    obtain ⟨k, v, hk, rfl, hT⟩ := hrel
    have hX := hT.x
    have k0 := bx_cell hX 0 _ rfl
    have k1 := bx_cell hX 1 _ rfl
    have hsz := hT.size
    by_cases hlt : k < N
    · have hlt1 : (k : Int) < (N : Int) := by omega
      have hV := hT.vv
      have c0 := bx_cell hV 0 _ rfl
      have c1 := bx_cell hV 1 _ rfl
      simp only at c0 c1
      have HL : Hid (Ls 2 vlc (wr.alloc (.cells #[.int .i64 4, .int .i64 0] 33)) (some ⟨wr.heap.size, 0, none⟩) 1 [⟨4, 0⟩]) := ls_one (cs := vlc) (sz := 2) wr _ _ (Vl.mk 4 0) rfl
      have HO : Hid (Orw vlc 33 2 (wr.alloc (.cells #[.int .i64 4, .int .i64 0] 33)) (w.heap.size + 3) v (List.replicate k ⟨4, 0⟩)) := orw_on hT.row ((Below.refl _ _).alloc (Nat.le_refl _) _)
      have HLN1 := hide (show ((List.replicate k (⟨4, 0⟩ : Vl)).length + 1) * 16 ≤ 140737488355328 by simp; omega)
      have HLN2 := hide (show (List.replicate k (⟨4, 0⟩ : Vl)).length + 1 ≤ 140737488355328 by simp; omega)
      have HSZ := hide (show w.heap.size + 3 ≤ (wr.alloc (.cells #[.int .i64 4, .int .i64 0] 33)).heap.size by simp; omega)
      have HT := hide hT
      clear hX hV hsz hT
      go_wp2_with (at_builtin; refine listR_append rkV rfl _ _ rfl (w.heap.size + 3) _ _ rfl (unhide HO) _ 1 1 [_] rfl (unhide HL) (fun e => by cases e) (unhide HLN1) (unhide HLN2) (unhide HSZ) ?_)
      intro v' w5 o4 g4
      obtain ⟨va, vc, rfl, _⟩ := o4.form
      have HN := hide ((unhide HT).next o4 g4)
      have hb : w5.heap[w.heap.size + 2]? = some (.cells #[.string st, v] 29 (0, 0)) := (g4.block _ (by have := (unhide HT).size; simp; omega) (fun e => by have := ((unhide HT).row.lt _ e.symm).1; omega)).trans ((heap_alloc_old _ _ (by have := (unhide HT).size; omega)).trans (unhide HT).x)
      have hbt := bx_thaw hb 1
      have hb0 := bx_cell hb 1 _ rfl
      clear k0 k1 c0 c1 o4 g4 hb HT HO HL HLN1 HLN2 HSZ
      go_wp2
      go_roundw
      case rel => exact ⟨k + 1, _, by omega, by go_num, by simpa using unhide HN⟩
      case measure => simp [intOf]; omega
    · obtain rfl : k = N := by omega
      have r1 := hT.r
      have j0 := bx_cell r1 0 _ rfl
      have j1 := bx_cell r1 1 _ rfl
      have y0 := bx_thaw r1 0
      have y1 := bx_thaw r1 1
      obtain ⟨va, vc, rfl, _⟩ := hT.row.form
      have HT := hide hT
      have HR := hide r1
      clear hT r1 hX hsz
      go_wp2
      rw [← unhide HPO]
      have o := (unhide HT).row
      rw [List.length_replicate] at o
      refine bodyPost_ret (res_ot Try.results27 _ w.heap.size (.string st) (.slice va k vc) (bx_set2 _ _ (unhide HR)) _ rfl) rfl ⟨(((unhide HT).bel.setCell (p := ⟨w.heap.size, 0, none⟩) (Nat.le_refl _) _).setCell (p := ⟨w.heap.size, 1, none⟩) (Nat.le_refl _) _), .inr ⟨unhide HE, ⟨va, k, vc⟩, ?_, ?_⟩⟩
      · have o2 := o.below (w' := (wr.setCell ⟨w.heap.size, 0, none⟩ (.string st)).setCell ⟨w.heap.size, 1, none⟩ (.slice va k vc)) (fun q hq => by
          have hlt := (o.lt q hq).1
          rw [Below.heap_setCell _ _ _ _ (by simp only; omega), Below.heap_setCell _ _ _ _ (by simp only; omega)])
        rw [unhide HNT, unhide HZ]
        exact Orw.linR (s := ⟨va, k, vc⟩) rkV o2 (by simp; omega) (fun _ _ => trivial)
      · simp only [hst]
        rfl
end Go.Proofs.Ytgiohebbmjgefaa
