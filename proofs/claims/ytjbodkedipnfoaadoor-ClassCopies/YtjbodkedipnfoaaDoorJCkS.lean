/- The landed class: copyOfMap. -/
import Derived.Test.YtjbodkedipnfoaaDoorJCkR
import Derived.Test.YtjbodkedipnfoaaDoorJClF

namespace Go.Proofs.YtjbodkedipnfoaaDoor
open Go.RowKit
set_option linter.unusedVariables false
set_option maxRecDepth 100000

/-- A map whose lists are rows of one's own. -/
structure MpOwn (w : World) (base : Nat) (r : MpR) : Prop where
  loc : Orw tyc 51 2 w base r.loc.v r.m.loc
  stk : Orw tyc 51 2 w base r.stk.v r.m.stk

theorem bx_cell {W : World} {p : Nat} {X : Array Value} {t : TypeId} (h : W.heap[p]? = some (.cells X t)) : ∀ (q : Nat) (v : Value), X[q]? = some v → W.cell? ⟨p, q, none⟩ = some v := fun q v hv => by unfold World.cell?; simp [h, hv]
theorem bx_set3 {W : World} {A : Nat} {T : TypeId} {a0 a1 a2 : Value} (c0 c1 c2 : Value) (h : W.heap[A]? = some (.cells #[a0, a1, a2] T)) : (((W.setCell ⟨A, 0, none⟩ c0).setCell ⟨A, 1, none⟩ c1).setCell ⟨A, 2, none⟩ c2).heap[A]? = some (.cells #[c0, c1, c2] T) := by
  have h0 := heap_setCell_same W A 0 _ _ c0 h
  have h1 := heap_setCell_same _ A 1 _ _ c1 h0
  exact heap_setCell_same _ A 2 _ _ c2 h1
theorem sizeMap8 : (Tryd.prog.info? 49).map (·.size) = some 3 := by kernel_rfl
theorem bx_thaw {W : World} {p : Nat} {X : Array Value} {t : TypeId} (h : W.heap[p]? = some (.cells X t)) (q : Nat) : W.frozen? ⟨p, q, none⟩ = false := frozen_of_row _ _ _ _ _ h
set_option maxHeartbeats 400000 in
theorem copyP_any (w : World) (r : MpR) (h : MpIn w r) :
    Calls Tryd.prog 29 #[.agg #[.int .i64 r.m.at_, r.loc.v, r.stk.v]] w fun e w' => ∃ r' : MpR, r'.m = r.m ∧ e = .returned (.agg #[.int .i64 r.m.at_, r'.loc.v, r'.stk.v]) ∧ MpOwn w' w.heap.size r' ∧ Below w.heap.size w w' := by
  obtain ⟨m, ⟨la, ln, lc⟩, ⟨sa, sn, sc⟩⟩ := r
  have hl := h.loc
  have hs := h.stk
  unfold TysIn at hl hs
  simp only at hl hs
  obtain ⟨w0, e0, f0, b0, s0, r0⟩ : ∃ w0, (w.alloc (.cells #[.int .i64 m.at_, .slice la ln lc, .slice sa sn sc] 49)).alloc (.cells #[.int .i64 0, .slice none 0 0, .slice none 0 0] 49) = w0 ∧ Below w.heap.size w w0 ∧ w0.heap[w.heap.size]? = some (.cells #[.int .i64 m.at_, .slice la ln lc, .slice sa sn sc] 49) ∧ w0.heap.size = w.heap.size + 2 ∧ w0.heap[w.heap.size + 1]? = some (.cells #[.int .i64 0, .slice none 0 0, .slice none 0 0] 49) := by
    refine ⟨_, rfl, ((Below.refl _ _).alloc (Nat.le_refl _) _).alloc (by simp) _, ?_, by simp, ?_⟩
    · rw [Below.heap_alloc _ _ _ (by simp)]
      exact heap_alloc_new w _
    · have := heap_alloc_new (w.alloc (.cells #[.int .i64 m.at_, .slice la ln lc, .slice sa sn sc] 49)) (.cells #[.int .i64 0, .slice none 0 0, .slice none 0 0] 49)
      simpa using this
  have HC1 := hide (slCloneT_any w0 ⟨la, ln, lc⟩ m.loc (hl.ls.below f0) hl.nil hl.small)
  have HS := hide hs
  have HF0 := hide f0
  have HB0 := hide b0
  have HR0 := hide r0
  have k0 := bx_cell b0 0 _ rfl
  have k1 := bx_cell b0 1 _ rfl
  have k2 := bx_cell b0 2 _ rfl
  clear h hl hs f0 b0 r0
  unfold Sl.v
  simp only
  go_enter Tryd.func29, Tryd.ntmps29
  go_wp2_with fail
  clear k0 k1 k2
  refine (unhide HC1).mono ?_
  rintro e w1 ⟨v1, rfl, o1, f1⟩
  obtain ⟨a1, c1, rfl, g1⟩ := o1.form
  have hb1 : w1.heap[w.heap.size]? = some (.cells #[.int .i64 m.at_, .slice la ln lc, .slice sa sn sc] 49) := (f1.block _ (by omega)).trans (unhide HB0)
  have k0 := bx_cell hb1 0 _ rfl
  have k1 := bx_cell hb1 1 _ rfl
  have k2 := bx_cell hb1 2 _ rfl
  have z1 := bx_thaw hb1 1
  have HO1 := hide o1
  have HF1 := hide f1
  have HB1 := hide hb1
  clear o1 f1 hb1 HC1 g1
  go_wp2_with fail
  obtain ⟨w2, e2, f2, b2, s2, k2'⟩ : ∃ w2, w1.setCell ⟨w.heap.size, 1, none⟩ (.slice a1 m.loc.length c1) = w2 ∧ Below w.heap.size w w2 ∧ w2.heap[w.heap.size]? = some (.cells #[.int .i64 m.at_, .slice a1 m.loc.length c1, .slice sa sn sc] 49) ∧ w.heap.size + 2 ≤ w2.heap.size ∧ ∀ k, w.heap.size < k → w2.heap[k]? = w1.heap[k]? := by
    have hf1 := unhide HF1
    refine ⟨_, rfl, ((unhide HF0).trans (hf1.mono (by omega))).setCell (Nat.le_refl _) _, heap_setCell_same w1 _ 1 _ _ _ (unhide HB1), ?_, fun k hk => Below.heap_setCell _ _ _ _ (by simp only; omega)⟩
    have := hf1.size
    simp [World.setCell]
    omega
  rw [e2]
  clear e2 k0 k1 k2 z1
  have o2 := (unhide HO1).below (w' := w2) (fun k hk => k2' k (by have := (unhide HO1).lt k hk; omega))
  have hs := unhide HS
  refine Calls.mono (slCloneT_any w2 ⟨sa, sn, sc⟩ m.stk (hs.ls.below f2) hs.nil hs.small) ?_
  rintro e w3 ⟨v3, rfl, o3, f3⟩
  obtain ⟨a3, c3, rfl, g3⟩ := o3.form
  have hb3 : w3.heap[w.heap.size]? = some (.cells #[.int .i64 m.at_, .slice a1 m.loc.length c1, .slice sa sn sc] 49) := (f3.block _ (by omega)).trans b2
  have hr3 : w3.heap[w.heap.size + 1]? = some (.cells #[.int .i64 0, .slice none 0 0, .slice none 0 0] 49) := (f3.block _ (by omega)).trans ((k2' _ (by omega)).trans (((unhide HF1).block _ (by omega)).trans (unhide HR0)))
  have HN : Hid (Orw tyc 51 2 w3 (w.heap.size + 2) (.slice a1 m.loc.length c1) m.loc ∧ Orw tyc 51 2 w3 (w.heap.size + 2) (.slice a3 m.stk.length c3) m.stk ∧ Below w.heap.size w w3) := by
    refine hide ⟨(o2.below fun k hk => f3.block k (o2.lt k hk).2).base (by omega), o3.base (by omega), f2.trans (f3.mono (by omega))⟩
  have k0 := bx_cell hb3 0 _ rfl
  have k1 := bx_cell hb3 1 _ rfl
  have k2 := bx_cell hb3 2 _ rfl
  have z2 := bx_thaw hb3 2
  have j0 := bx_cell hr3 0 _ rfl
  have j1 := bx_cell hr3 1 _ rfl
  have j2 := bx_cell hr3 2 _ rfl
  have y0 := bx_thaw hr3 0
  have y1 := bx_thaw hr3 1
  have y2 := bx_thaw hr3 2
  have HR3 := hide hr3
  clear hr3 HR0 hb3 o3 f3 g3 o2 hs f2 b2 s2 k2' HS HF0 HB0 HO1 HF1 HB1
  go_wp2_with fail
  obtain ⟨w4, e4, f4, r4, k4⟩ : ∃ w4, (((w3.setCell ⟨w.heap.size, 2, none⟩ (.slice a3 m.stk.length c3)).setCell ⟨w.heap.size + 1, 0, none⟩ (.int .i64 m.at_)).setCell ⟨w.heap.size + 1, 1, none⟩ (.slice a1 m.loc.length c1)).setCell ⟨w.heap.size + 1, 2, none⟩ (.slice a3 m.stk.length c3) = w4 ∧ Below w.heap.size w w4 ∧ w4.heap[w.heap.size + 1]? = some (.cells #[.int .i64 m.at_, .slice a1 m.loc.length c1, .slice a3 m.stk.length c3] 49) ∧ ∀ k, w.heap.size + 2 ≤ k → w4.heap[k]? = w3.heap[k]? := by
    refine ⟨_, rfl, ((((unhide HN).2.2.setCell (Nat.le_refl _) _).setCell (Nat.le_succ _) _).setCell (Nat.le_succ _) _).setCell (Nat.le_succ _) _, bx_set3 _ _ _ ((Below.heap_setCell _ _ _ _ (by simp)).trans (unhide HR3)), fun k hk => ?_⟩
    rw [Below.heap_setCell _ _ _ _ (by simp only; omega), Below.heap_setCell _ _ _ _ (by simp only; omega), Below.heap_setCell _ _ _ _ (by simp only; omega), Below.heap_setCell _ _ _ _ (by simp only; omega)]
  rw [e4]
  clear e4
  obtain ⟨o1, o3, _⟩ := unhide HN
  refine bodyPost_ret (v := .agg #[.int .i64 m.at_, .slice a1 m.loc.length c1, .slice a3 m.stk.length c3]) ?_ rfl ⟨⟨m, ⟨a1, m.loc.length, c1⟩, ⟨a3, m.stk.length, c3⟩⟩, rfl, rfl, ?_, f4⟩
  · exact results_cell_row Tryd.results29 _ _ (w.heap.size + 1) 49 _ (0, 0) _ rfl r4 Tryd.underlying49 rfl sizeMap8
  · exact ⟨(o1.below fun k hk => k4 k (o1.lt k hk).1).base (by omega), (o3.below fun k hk => k4 k (o3.lt k hk).1).base (by omega)⟩
end Go.Proofs.YtjbodkedipnfoaaDoor
