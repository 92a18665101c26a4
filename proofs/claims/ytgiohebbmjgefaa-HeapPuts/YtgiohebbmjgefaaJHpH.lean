/- Layer 15, the landed code: Get, Word. -/
import Derived.Test.YtgiohebbmjgefaaJHpG

namespace Go.Proofs.Ytgiohebbmjgefaa
open Go.RowKit
set_option linter.unusedVariables false
set_option maxRecDepth 100000

/-- What Get answers; what Word answers. -/
def getPost (w : World) (l : List Ob) (n : Int) (e : Ending) (w' : World) : Prop :=
  Below w.heap.size w w' ∧ ((getH l n = none ∧ e = .returned (.tuple #[.agg #[.string ⟨#[]⟩, .slice none 0 0], .int .i64 150])) ∨ ∃ o s, getH l n = some o ∧ WsIn w' s o.ws ∧ e = .returned (.tuple #[.agg #[.string ⟨o.ty.toArray⟩, s.v], .int .i64 0]))
def wordPost (w : World) (l : List Ob) (n k : Int) (e : Ending) (w' : World) : Prop :=
  Below w.heap.size w w' ∧ ((wordH l n k = none ∧ e = .returned (.tuple #[.agg #[.int .i64 0, .int .i64 0], .int .i64 150])) ∨ ∃ v, wordH l n k = some v ∧ e = .returned (.tuple #[.agg #[.int .i64 v.kind, .int .i64 v.n], .int .i64 0]))
set_option maxHeartbeats 1600000 in
theorem get_any (w : World) (s : Sl) (rs : List ObR) (h : HIn w s rs) (n : Int) (hn : fitI n) :
    Calls Try.prog 12 #[s.v, .int .i64 n] w (getPost w (rs.map ObR.o) n) := by
  obtain ⟨w0, e0, f0, r0⟩ : ∃ w0, w.alloc (.cells #[.string ⟨#[]⟩, .slice none 0 0] 29) = w0 ∧ Below w.heap.size w w0 ∧ w0.heap[w.heap.size]? = some (.cells #[.string ⟨#[]⟩, .slice none 0 0] 29 (0, 0)) := ⟨_, rfl, (Below.refl _ _).alloc (Nat.le_refl _) _, heap_alloc_last _ _⟩
  have HC := hide (find_any w0 s rs (h.below f0) n hn)
  have HH := hide h
  obtain ⟨a, m, c⟩ := s
  have HS0 := hide (And.intro f0 r0)
  clear h hn f0 r0
  unfold Sl.v at *
  simp only at HC ⊢
  generalize hPO : getPost w (rs.map ObR.o) n = PO
  have HPO := hide hPO
  clear hPO
  go_enter Try.func12, Try.ntmps12
  go_wp2_with fail
  refine (unhide HC).mono ?_
  rintro e w1 ⟨f1, ⟨hg, rfl⟩ | ⟨r, hg, hn1, hn2, hr, hck, rfl⟩⟩
  · obtain ⟨f0, r0⟩ := unhide HS0
    have r1 := (f1.block _ (lt_of_heap r0)).trans r0
    have F1 := hide (f0.trans (f1.mono f0.size))
    have r3 := (heap_alloc_old w1 (.cells #[.string ⟨#[]⟩, .slice none 0 0] 29) (lt_of_heap r1)).trans r1
    have z0 := bx_thaw r3 0
    have z1 := bx_thaw r3 1
    have k0 := bx_cell r3 0 _ rfl
    have k1 := bx_cell r3 1 _ rfl
    have R3 := hide r3
    have HG := hide hg
    clear f0 r0 f1 r1 r3 hg HC HS0 e0
    go_wp2
    rw [← unhide HPO]
    refine bodyPost_ret (res_ot Try.results12 _ w.heap.size (.string ⟨#[]⟩) (.slice none 0 0) (bx_set2 _ _ (unhide R3)) _ rfl) rfl ⟨?_, .inl ⟨unhide HG, rfl⟩⟩
    exact (((unhide F1).trans (((Below.refl _ _).alloc (Nat.le_refl _) _).mono (unhide F1).size)).setCell (p := ⟨w.heap.size, 0, none⟩) (Nat.le_refl _) _).setCell (p := ⟨w.heap.size, 1, none⟩) (Nat.le_refl _) _
  · obtain ⟨f0, r0⟩ := unhide HS0
    have r1 := (f1.block _ (lt_of_heap r0)).trans r0
    have F1 := hide (f0.trans (f1.mono f0.size))
    have wi := (unhide HH).each _ (List.mem_of_getElem? hr)
    have hwl : r.ws.length * 16 ≤ 140737488351232 := by
      have h1 := wi.ls.1
      have h2 := wi.small
      omega
    have R1 := hide r1
    have HO := hide (fun (W : World) (f : Below w1.heap.size w1 W) => ownObject_any W r.ty r.s r.ws (wi.below ((unhide F1).trans (f.mono (unhide F1).size))))
    have HG := hide (And.intro hg hwl)
    obtain ⟨ty, ⟨sa, sn, sc⟩, ws⟩ := r
    simp only [Sl.v] at HO HG
    clear f0 r0 f1 r1 hg hn1 hn2 hr hck wi hwl HH HC HS0 e0
    unfold Sl.v
    simp only
    generalize hst : (⟨ty.toArray⟩ : ByteArray) = st at *
    have HO1 := hide (unhide HO _ ((Below.refl w1.heap.size w1).alloc (Nat.le_refl _) (.cells #[.string st, .slice sa sn sc] 29)))
    clear HO
    go_wp2_with fail
    refine (unhide HO1).mono ?_
    rintro e w2 ⟨g, rfl, o2, f2⟩
    have r3 : w2.heap[w.heap.size]? = some (.cells #[.string ⟨#[]⟩, .slice none 0 0] 29 (0, 0)) := (f2.block _ (by have := lt_of_heap (unhide R1); simp; omega)).trans ((heap_alloc_old _ _ (lt_of_heap (unhide R1))).trans (unhide R1))
    have F3 := hide ((unhide F1).trans (((((Below.refl _ _).alloc (Nat.le_refl _) _).trans (f2.mono (by simp)))).mono (unhide F1).size))
    have O2 := hide (o2.base (base' := w.heap.size + 1) (by have := lt_of_heap (unhide R1); simp; omega))
    have z0 := bx_thaw r3 0
    have z1 := bx_thaw r3 1
    have k0 := bx_cell r3 0 _ rfl
    have k1 := bx_cell r3 1 _ rfl
    have R3 := hide r3
    clear f2 r3 o2 HO1 R1
    go_wp2
    obtain ⟨hg, hwl⟩ := unhide HG
    rw [← unhide HPO]
    refine bodyPost_ret (res_ot Try.results12 _ w.heap.size (.string st) (.slice (some ⟨g, 0, none⟩) ws.length ws.length) (bx_set2 _ _ (unhide R3)) _ rfl) rfl ⟨?_, .inr ⟨_, ⟨some ⟨g, 0, none⟩, ws.length, ws.length⟩, hg, ?_, ?_⟩⟩
    · exact ((unhide F3).setCell (p := ⟨w.heap.size, 0, none⟩) (Nat.le_refl _) _).setCell (p := ⟨w.heap.size, 1, none⟩) (Nat.le_refl _) _
    · have o3 := (unhide O2).below (w' := (w2.setCell ⟨w.heap.size, 0, none⟩ (.string st)).setCell ⟨w.heap.size, 1, none⟩ (.slice (some ⟨g, 0, none⟩) ws.length ws.length)) (fun k hk => by
        have hlt := ((unhide O2).lt k hk).1
        rw [Below.heap_setCell _ _ _ _ (by simp only; omega), Below.heap_setCell _ _ _ _ (by simp only; omega)])
      exact Orw.linR (s := ⟨some ⟨g, 0, none⟩, ws.length, ws.length⟩) rkV o3 hwl (fun _ _ => trivial)
    · simp only [ObR.o, hst]
      rfl
theorem wordH_none {l : List Ob} {n k : Int} (h : getH l n = none) : wordH l n k = none := by
  unfold wordH
  rw [h]
  rfl
theorem wordH_some {l : List Ob} {n k : Int} {o : Ob} (h : getH l n = some o) : wordH l n k = if 0 ≤ k then o.ws[k.toNat]? else none := by
  unfold wordH
  rw [h]
  rfl
set_option maxHeartbeats 1600000 in
theorem word_any (w : World) (s : Sl) (rs : List ObR) (h : HIn w s rs) (n k : Int) (hn : fitI n) (hk : fitI k) :
    Calls Try.prog 14 #[s.v, .int .i64 n, .int .i64 k] w (wordPost w (rs.map ObR.o) n k) := by
  obtain ⟨w0, e0, f0, r0⟩ : ∃ w0, w.alloc (.cells #[.int .i64 0, .int .i64 0] 33) = w0 ∧ Below w.heap.size w w0 ∧ w0.heap[w.heap.size]? = some (.cells #[.int .i64 0, .int .i64 0] 33 (0, 0)) := ⟨_, rfl, (Below.refl _ _).alloc (Nat.le_refl _) _, heap_alloc_last _ _⟩
  have HC := hide (find_any w0 s rs (h.below f0) n hn)
  have HH := hide h
  have HK := hide hk
  obtain ⟨a, m, c⟩ := s
  have HS0 := hide (And.intro f0 r0)
  clear h hn hk f0 r0
  unfold Sl.v at *
  simp only at HC ⊢
  generalize hPO : wordPost w (rs.map ObR.o) n k = PO
  have HPO := hide hPO
  clear hPO
  go_enter Try.func14, Try.ntmps14
  go_wp2_with fail
  refine (unhide HC).mono ?_
  rintro e w1 ⟨f1, ⟨hg, rfl⟩ | ⟨r, hg, hn1, hn2, hr, hck, rfl⟩⟩
  · obtain ⟨f0, r0⟩ := unhide HS0
    have r1 := (f1.block _ (lt_of_heap r0)).trans r0
    have F1 := hide (f0.trans (f1.mono f0.size))
    have r3 := (heap_alloc_old w1 (.cells #[.string ⟨#[]⟩, .slice none 0 0] 29) (lt_of_heap r1)).trans r1
    have z0 := bx_thaw r3 0
    have z1 := bx_thaw r3 1
    have k0 := bx_cell r3 0 _ rfl
    have k1 := bx_cell r3 1 _ rfl
    have R3 := hide r3
    have HG := hide (wordH_none (k := k) hg)
    clear f0 r0 f1 r1 r3 hg HC HS0 e0
    go_wp2
    rw [← unhide HPO]
    refine bodyPost_ret (res_vt Try.results14 _ w.heap.size (.int .i64 0) (.int .i64 0) (bx_set2 _ _ (unhide R3)) _ rfl) rfl ⟨?_, .inl ⟨unhide HG, rfl⟩⟩
    exact (((unhide F1).trans (((Below.refl _ _).alloc (Nat.le_refl _) _).mono (unhide F1).size)).setCell (p := ⟨w.heap.size, 0, none⟩) (Nat.le_refl _) _).setCell (p := ⟨w.heap.size, 1, none⟩) (Nat.le_refl _) _
  · obtain ⟨f0, r0⟩ := unhide HS0
    have r1 := (f1.block _ (lt_of_heap r0)).trans r0
    have F1 := hide (f0.trans (f1.mono f0.size))
    have wi := (unhide HH).each _ (List.mem_of_getElem? hr)
    have hwl := wi.ls.1
    have HM := hide (memberV_any (w1.alloc (.cells #[.string ⟨r.ty.toArray⟩, r.s.v] 29)) r.s r.ws (wi.below ((unhide F1).trans (((Below.refl w1.heap.size w1).alloc (Nat.le_refl _) _).mono (unhide F1).size))) k (unhide HK))
    have R1 := hide r1
    have HG := hide (And.intro (wordH_some (k := k) hg) hwl)
    obtain ⟨ty, ⟨sa, sn, sc⟩, ws⟩ := r
    simp only [Sl.v] at HM HG
    clear f0 r0 f1 r1 hg hn1 hn2 hr hck wi hwl HH HC HS0 e0
    unfold Sl.v
    simp only
    generalize hst : (⟨ty.toArray⟩ : ByteArray) = st at *
    go_wp2_with fail
    refine (unhide HM).mono ?_
    rintro e w2 ⟨f2, hor⟩
    have r3 : w2.heap[w.heap.size]? = some (.cells #[.int .i64 0, .int .i64 0] 33 (0, 0)) := (f2.block _ (by have := lt_of_heap (unhide R1); simp; omega)).trans ((heap_alloc_old _ _ (lt_of_heap (unhide R1))).trans (unhide R1))
    have F3 := hide ((unhide F1).trans (((((Below.refl _ _).alloc (Nat.le_refl _) _).trans (f2.mono (by simp)))).mono (unhide F1).size))
    have z0 := bx_thaw r3 0
    have z1 := bx_thaw r3 1
    have k0 := bx_cell r3 0 _ rfl
    have k1 := bx_cell r3 1 _ rfl
    have R3 := hide r3
    clear f2 r3 HM R1
    obtain ⟨hk0, hk1, v, hv, rfl⟩ | ⟨hno, rfl⟩ := hor
    · have HX := hide (And.intro hk0 hv)
      clear hk0 hk1 hv
      go_wp2
      obtain ⟨hg, hwl⟩ := unhide HG
      obtain ⟨hk0, hv⟩ := unhide HX
      rw [← unhide HPO]
      refine bodyPost_ret (res_vt Try.results14 _ w.heap.size (.int .i64 v.kind) (.int .i64 v.n) (bx_set2 _ _ (unhide R3)) _ rfl) rfl ⟨?_, .inr ⟨v, ?_, rfl⟩⟩
      · exact ((unhide F3).setCell (p := ⟨w.heap.size, 0, none⟩) (Nat.le_refl _) _).setCell (p := ⟨w.heap.size, 1, none⟩) (Nat.le_refl _) _
      · rw [hg, if_pos hk0]
        exact hv
    · have HX := hide hno
      clear hno
      go_wp2
      obtain ⟨hg, hwl⟩ := unhide HG
      have hno := unhide HX
      rw [← unhide HPO]
      refine bodyPost_ret (res_vt Try.results14 _ w.heap.size (.int .i64 0) (.int .i64 0) (bx_set2 _ _ (unhide R3)) _ rfl) rfl ⟨?_, .inl ⟨?_, rfl⟩⟩
      · exact ((unhide F3).setCell (p := ⟨w.heap.size, 0, none⟩) (Nat.le_refl _) _).setCell (p := ⟨w.heap.size, 1, none⟩) (Nat.le_refl _) _
      · rw [hg]
        by_cases hk0 : 0 ≤ k
        · rw [if_pos hk0]
          exact List.getElem?_eq_none (by simp only [ObR.o]; omega)
        · rw [if_neg hk0]
end Go.Proofs.Ytgiohebbmjgefaa
