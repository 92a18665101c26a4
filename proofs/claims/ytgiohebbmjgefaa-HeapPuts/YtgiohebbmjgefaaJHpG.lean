/- Layer 15, the landed code: find, Get, Word. -/
import Derived.Test.YtgiohebbmjgefaaJHpF

namespace Go.Proofs.Ytgiohebbmjgefaa
open Go.RowKit
set_option linter.unusedVariables false
set_option maxRecDepth 100000

theorem checkE_yes {l : List Ob} (h : checkH l = true) : checkE l = 0 := by simp [checkE, h]
theorem checkE_no {l : List Ob} (h : ¬ checkH l = true) : checkE l = 150 := by simp [checkE, h]
theorem check_len {l : List Ob} (h : checkH l = true) : l.length ≤ 4096 ∧ wordsH l ≤ 65536 := by
  simp only [checkH, Bool.and_eq_true, decide_eq_true_eq] at h
  exact h.1.1
/-- What find answers. -/
def findPost (w : World) (rs : List ObR) (n : Int) (e : Ending) (w' : World) : Prop :=
  Below w.heap.size w w' ∧ ((getH (rs.map ObR.o) n = none ∧ e = .returned (.tuple #[.agg #[.string ⟨#[]⟩, .slice none 0 0], .int .i64 150])) ∨ ∃ r, getH (rs.map ObR.o) n = some r.o ∧ 1 ≤ n ∧ n ≤ (rs.length : Int) ∧ rs[(n - 1).toNat]? = some r ∧ checkH (rs.map ObR.o) = true ∧ e = .returned (.tuple #[.agg #[.string ⟨r.ty.toArray⟩, r.s.v], .int .i64 0]))
theorem getH_bad {l : List Ob} {n : Int} (h : ¬ checkH l = true) : getH l n = none := by
  unfold getH
  rw [if_neg (fun e => h e.1)]
theorem getH_out {l : List Ob} {n : Int} (h : ¬ (1 ≤ n ∧ n ≤ (l.length : Int))) : getH l n = none := by
  unfold getH
  rw [if_neg (fun e => h e.2)]
theorem getH_at {rs : List ObR} {n : Int} {r : ObR} (hc : checkH (rs.map ObR.o) = true) (h : 1 ≤ n ∧ n ≤ (rs.length : Int)) (hr : rs[(n - 1).toNat]? = some r) : getH (rs.map ObR.o) n = if r.ty.isEmpty = true then none else some r.o := by
  unfold getH
  rw [if_pos ⟨hc, by simpa using h⟩, map_get hr]
  rfl
set_option maxHeartbeats 1600000 in
theorem find_any (w : World) (s : Sl) (rs : List ObR) (h : HIn w s rs) (n : Int) (hn : fitI n) :
    Calls Try.prog 36 #[s.v, .int .i64 n] w (findPost w rs n) := by
  have hln := h.ls.1
  have hsm := h.small
  obtain ⟨w0, e0, f0, r0⟩ : ∃ w0, w.alloc (.cells #[.string ⟨#[]⟩, .slice none 0 0] 29) = w0 ∧ Below w.heap.size w w0 ∧ w0.heap[w.heap.size]? = some (.cells #[.string ⟨#[]⟩, .slice none 0 0] 29 (0, 0)) := ⟨_, rfl, (Below.refl _ _).alloc (Nat.le_refl _) _, heap_alloc_last _ _⟩
  have HC := hide (check_any w0 s rs (h.below f0))
  obtain ⟨j, hj⟩ : ∃ j, IntKind.i64.wrap (n - 1) = j := ⟨_, rfl⟩
  have hfn : -9223372036854775808 ≤ n ∧ n ≤ 9223372036854775807 := hn
  have hjn : (n = -9223372036854775808 ∧ j = 9223372036854775807) ∨ (n ≠ -9223372036854775808 ∧ j = n - 1) := by
    rw [IntKind.wrap_i64] at hj
    omega
  have hfj : fitI j := by unfold fitI; omega
  have HM := hide (fun (W : World) (f : Below w.heap.size w W) => memberO_any W s rs (h.below f) j hfj)
  have HF := hide (fun W t s => isFree_any W t s)
  obtain ⟨a, m, c⟩ := s
  simp only at hln hsm
  have HS0 := hide (And.intro f0 r0)
  have HJ := hide hjn
  clear h hn hfn hjn hfj f0 r0
  unfold Sl.v at *
  simp only at HC HM ⊢
  generalize hPO : findPost w rs n = PO
  have HPO := hide hPO
  clear hPO
  go_enter Try.func36, Try.ntmps36
  go_wp2_with fail
  refine (unhide HC).mono ?_
  rintro e w1 ⟨rfl, f1⟩
  obtain ⟨f0, r0⟩ := unhide HS0
  have r1 := (f1.block _ (lt_of_heap r0)).trans r0
  have F1 := hide (f0.trans (f1.mono f0.size))
  have z0 := bx_thaw r1 0
  have z1 := bx_thaw r1 1
  have k0 := bx_cell r1 0 _ rfl
  have k1 := bx_cell r1 1 _ rfl
  have R1 := hide r1
  clear f0 r0 f1 r1 HC HS0 e0
  by_cases hc : checkH (rs.map ObR.o) = true
  · rw [checkE_yes hc]
    have HCK := hide hc
    have FM := hide (unhide HM w1 (unhide F1))
    clear hc
    go_wp2_with fail
    refine (unhide FM).mono ?_
    rintro e w2 ⟨f2, ⟨h0, h1, r, hr, rfl⟩ | ⟨hno, rfl⟩⟩
    · have hjn := unhide HJ
      have hjm : j = n - 1 := by omega
      have hin : 1 ≤ n ∧ n ≤ (rs.length : Int) := by omega
      rw [hjm] at hr
      have hg := getH_at (unhide HCK) hin hr
      obtain ⟨ty, ⟨sa, sn, sc⟩, ws⟩ := r
      have HX := hide (And.intro hin (And.intro hr hg))
      have r2 := (f2.block _ (lt_of_heap (unhide R1))).trans (unhide R1)
      have F2 := hide ((unhide F1).trans (f2.mono (unhide F1).size))
      have z0 := bx_thaw r2 0
      have z1 := bx_thaw r2 1
      have k0 := bx_cell r2 0 _ rfl
      have k1 := bx_cell r2 1 _ rfl
      have R2 := hide r2
      have FF := hide (fun W => unhide HF W ty ⟨sa, sn, sc⟩)
      simp only at FF
      clear f2 hr hg r2 hjn hin h0 h1 hjm HM FM HF R1
      unfold Sl.v
      simp only
      generalize hst : (⟨ty.toArray⟩ : ByteArray) = st at *
      go_wp2_with fail
      refine (unhide FF _).mono ?_
      rintro e w3 ⟨rfl, f3⟩
      have r3 : w3.heap[w.heap.size]? = some (.cells #[.string ⟨#[]⟩, .slice none 0 0] 29 (0, 0)) := (f3.block _ (by have := lt_of_heap (unhide R2); simp; omega)).trans ((heap_alloc_old _ _ (lt_of_heap (unhide R2))).trans (unhide R2))
      have x3 : w3.heap[w2.heap.size]? = some (.cells #[.string st, .slice sa sn sc] 29 (0, 0)) := (f3.block _ (by simp)).trans (heap_alloc_last _ _)
      have F3 := hide ((unhide F2).trans (((((Below.refl _ _).alloc (Nat.le_refl _) _).trans (f3.mono (by simp)))).mono (unhide F2).size))
      have z0 := bx_thaw r3 0
      have z1 := bx_thaw r3 1
      have k0 := bx_cell r3 0 _ rfl
      have k1 := bx_cell r3 1 _ rfl
      have x0 := bx_cell x3 0 _ rfl
      have x1 := bx_cell x3 1 _ rfl
      have R3 := hide r3
      clear f3 r3 x3 FF R2
      cases hf : ty.isEmpty
      · go_wp2
        obtain ⟨hin, hr, hg⟩ := unhide HX
        simp only [hf, Bool.false_eq_true, if_false] at hg
        rw [← unhide HPO]
        refine bodyPost_ret (res_ot Try.results36 _ w.heap.size (.string st) (.slice sa sn sc) (bx_set2 _ _ (unhide R3)) _ rfl) rfl ⟨?_, .inr ⟨_, hg, hin.1, hin.2, hr, unhide HCK, ?_⟩⟩
        · exact ((unhide F3).setCell (p := ⟨w.heap.size, 0, none⟩) (Nat.le_refl _) _).setCell (p := ⟨w.heap.size, 1, none⟩) (Nat.le_refl _) _
        · simp only [hst]
          rfl
      · go_wp2
        obtain ⟨hin, hr, hg⟩ := unhide HX
        simp only [hf, if_true] at hg
        rw [← unhide HPO]
        refine bodyPost_ret (res_ot Try.results36 _ w.heap.size (.string ⟨#[]⟩) (.slice none 0 0) (bx_set2 _ _ (unhide R3)) _ rfl) rfl ⟨?_, .inl ⟨hg, rfl⟩⟩
        exact ((unhide F3).setCell (p := ⟨w.heap.size, 0, none⟩) (Nat.le_refl _) _).setCell (p := ⟨w.heap.size, 1, none⟩) (Nat.le_refl _) _
    · have hjn := unhide HJ
      have hout : ¬ (1 ≤ n ∧ n ≤ ((rs.map ObR.o).length : Int)) := by rw [List.length_map]; omega
      have HG := hide (getH_out hout)
      have r2 := (f2.block _ (lt_of_heap (unhide R1))).trans (unhide R1)
      have F2 := hide ((unhide F1).trans (f2.mono (unhide F1).size))
      have r3 : (w2.alloc (.cells #[.string ⟨#[]⟩, .slice none 0 0] 29)).heap[w.heap.size]? = _ := (heap_alloc_old w2 (.cells #[.string ⟨#[]⟩, .slice none 0 0] 29) (lt_of_heap r2)).trans r2
      have z0 := bx_thaw r3 0
      have z1 := bx_thaw r3 1
      have k0 := bx_cell r3 0 _ rfl
      have k1 := bx_cell r3 1 _ rfl
      have R3 := hide r3
      clear f2 r2 r3 hjn hout HM FM HF R1 hno
      go_wp2
      rw [← unhide HPO]
      refine bodyPost_ret (res_ot Try.results36 _ w.heap.size (.string ⟨#[]⟩) (.slice none 0 0) (bx_set2 _ _ (unhide R3)) _ rfl) rfl ⟨?_, .inl ⟨unhide HG, rfl⟩⟩
      exact (((unhide F2).trans (((Below.refl _ _).alloc (Nat.le_refl _) _).mono (unhide F2).size)).setCell (p := ⟨w.heap.size, 0, none⟩) (Nat.le_refl _) _).setCell (p := ⟨w.heap.size, 1, none⟩) (Nat.le_refl _) _
  · rw [checkE_no hc]
    have HG := hide (getH_bad (n := n) hc)
    clear hc HM HF
    go_wp2
    rw [← unhide HPO]
    refine bodyPost_ret (res_ot Try.results36 _ w.heap.size (.string ⟨#[]⟩) (.slice none 0 0) (bx_set2 _ _ (unhide R1)) _ rfl) rfl ⟨?_, .inl ⟨unhide HG, rfl⟩⟩
    exact ((unhide F1).setCell (p := ⟨w.heap.size, 0, none⟩) (Nat.le_refl _) _).setCell (p := ⟨w.heap.size, 1, none⟩) (Nat.le_refl _) _
end Go.Proofs.Ytgiohebbmjgefaa
