/- The landed class: Copy. -/
import Derived.Test.YtjbodkedipnfoaaDoorJCkY

namespace Go.Proofs.YtjbodkedipnfoaaDoor
open Go.RowKit
set_option linter.unusedVariables false
set_option maxRecDepth 100000

/-- A class whose lists are rows of one's own. -/
structure ClOwn (w : World) (base : Nat) (r : ClR) : Prop where
  pool : Orw ec 42 5 w base r.pool.v r.c.pool
  fields : Orw fdc 44 3 w base r.fields.v r.c.fields
  methods : Orw mdc 36 8 w base r.methods.v r.mr
  each : ∀ x ∈ r.mr, MdOwn w base x
  same : r.c.methods = r.mr.map MdR.m
theorem ClOwn.keepAll {w w' : World} {base : Nat} {r : ClR} (h : ClOwn w base r) (f : ∀ k X t, base ≤ k → w.heap[k]? = some (.cells X t) → w'.heap[k]? = w.heap[k]?) : ClOwn w' base r :=
  ⟨h.pool.keep fun k X hk hX => f k X _ hk hX, h.fields.keep fun k X hk hX => f k X _ hk hX, h.methods.keep fun k X hk hX => f k X _ hk hX, fun x hx => (h.each x hx).keepAll fun k X t hk _ hX => f k X t hk hX, h.same⟩
theorem ClOwn.base {w : World} {base base' : Nat} {r : ClR} (h : ClOwn w base r) (hb : base' ≤ base) : ClOwn w base' r := ⟨h.pool.base hb, h.fields.base hb, h.methods.base hb, fun x hx => (h.each x hx).base hb, h.same⟩
theorem Orw.lin {α : Type} {cs : α → List Value} {e t : TypeId} {sz by_ : Nat} {z : Value} (R : Rk cs e t sz by_ z) {ok : α → Prop} {w : World} {base : Nat} {s : Sl} {l : List α} (h : Orw cs e sz w base s.v l) (hs : l.length * by_ ≤ 140737488351232) (he : ∀ x ∈ l, ok x) : LIn sz by_ cs ok w s l := by
  obtain ⟨a, n, c⟩ := s
  obtain ⟨a', c', e1, h1, h2, h3⟩ := h.form
  injection e1 with ea en ec
  subst ea en ec
  exact ⟨Orw.ls R h, h2, h3, h1, hs, he⟩
theorem MpOwn.mpIn {w W : World} {base : Nat} {r r' : MpR} (h : MpIn w r) (e : r'.m = r.m) (o : MpOwn W base r') : MpIn W r' := by
  have ll := h.loc.ls.1
  have ls := h.stk.ls.1
  refine ⟨by rw [e]; exact h.fit, o.loc.lin rkT (by rw [e, ll]; exact h.loc.small) (by rw [e]; exact h.loc.each), o.stk.lin rkT (by rw [e, ls]; exact h.stk.small) (by rw [e]; exact h.stk.each)⟩
theorem map_find {α β : Type} {m : α → β} {l l' : List α} (h : l'.map m = l.map m) {x : α} (hx : x ∈ l') : ∃ y ∈ l, m x = m y := by
  have : m x ∈ l.map m := by rw [← h]; exact List.mem_map_of_mem hx
  obtain ⟨y, hy, e⟩ := List.mem_map.1 this
  exact ⟨y, hy, e.symm⟩
theorem orw_arg {w : World} {base : Nat} {s : Sl} {l : List UInt8} (h : Orw byc 5 1 w base s.v l) : Arg w s.a s.n s.c l ∧ l.length = s.n := by
  obtain ⟨a, n, c⟩ := s
  have h0 := h
  obtain ⟨a', c', e1, h1, h2, h3⟩ := h.form
  injection e1 with ea en ec
  subst ea en ec
  unfold Orw at h0
  rw [byc_bv] at h0
  exact ⟨arg_of_own rfl h0, rfl⟩
theorem MdOwn.mdIn {w W : World} {base : Nat} {r r' : MdR} (h : MdIn w r) (e : r'.m = r.m) (o : MdOwn W base r') : MdIn W r' := by
  have hb := h.bs.bs.1
  have hl := h.hs.ls.1
  have hm := h.maps.ls.1
  have hsm : r'.mr.map MpR.m = r.mr.map MpR.m := by rw [← o.same, ← h.same, e]
  have hln : r'.mr.length = r.mr.length := by simpa using congrArg List.length hsm
  obtain ⟨q1, q2⟩ := orw_arg o.bs
  refine ⟨by rw [e]; exact h.acc, by rw [e]; exact h.name, by rw [e]; exact h.type, by rw [e]; exact h.stack, by rw [e]; exact h.locals, q1, ?_, o.hs.lin rkH (by rw [e, hl]; exact h.hs.small) (by rw [e]; exact h.hs.each), o.maps.lin rkP (by rw [hln, hm]; exact h.maps.small) (fun x hx => ?_), o.same⟩
  · rw [← q2, e, hb]
    exact h.few
  · obtain ⟨y, hy, e1⟩ := map_find hsm hx
    exact (o.each x hx).mpIn (h.maps.each y hy) e1
theorem ClOwn.cin {w W : World} {base : Nat} {r r' : ClR} (h : CIn w r) (e : r'.c = r.c) (o : ClOwn W base r') : CIn W r' := by
  have hp := h.pool.arg.es.1
  have hf := h.fields.ls.1
  have hm := h.methods.ls.1
  have hsm : r'.mr.map MdR.m = r.mr.map MdR.m := by rw [← o.same, ← h.same, e]
  have hln : r'.mr.length = r.mr.length := by simpa using congrArg List.length hsm
  refine ⟨?_, by rw [e]; exact h.name, by rw [e]; exact h.super, o.fields.lin rkF (by rw [e, hf]; exact h.fields.small) (by rw [e]; exact h.fields.each), o.methods.lin rkM (by rw [hln, hm]; exact h.methods.small) (fun x hx => ?_), o.same⟩
  · obtain ⟨c', ⟨a, n, c⟩, fs, ms, mr⟩ := r'
    simp only at e
    subst e
    have o1 : Orw ec 42 5 W base (.slice a n c) r.c.pool := o.pool
    clear hsm hln o
    obtain ⟨a', c', e1, h1, h2, h3⟩ := o1.form
    injection e1 with ea en ec
    subst ea en ec
    exact EIn.own o1 (by rw [hp]; exact h.pool.small) h.pool.fit
  · obtain ⟨y, hy, e1⟩ := map_find hsm hx
    exact (o.each x hx).mdIn (h.methods.each y hy) e1
theorem sizeClass8 : (Tryd.prog.info? 26).map (·.size) = some 5 := by kernel_rfl

set_option maxHeartbeats 800000 in
theorem cCopy_any (w : World) (r : ClR) (h : CIn w r) :
    Calls Tryd.prog 8 #[r.v] w fun e w' => ∃ r' : ClR, r'.c = r.c ∧ e = .returned r'.v ∧ ClOwn w' w.heap.size r' ∧ Below w.heap.size w w' := by
  obtain ⟨⟨pl, name, sup, fds, mds⟩, ⟨pa, pn, pc⟩, ⟨fa, fn, fc⟩, ⟨ma, mn, mc⟩, rr⟩ := r
  have hpl := h.pool
  have hfd := h.fields
  have hmd := h.methods
  have hsame := h.same
  simp only at hpl hfd hmd hsame
  subst hsame
  obtain ⟨w0, e0⟩ : ∃ w0, (w.alloc (.cells #[.slice pa pn pc, .string ⟨name.toArray⟩, .string ⟨sup.toArray⟩, .slice fa fn fc, .slice ma mn mc] 26)).alloc (.cells #[.slice none 0 0, .string ⟨#[]⟩, .string ⟨#[]⟩, .slice none 0 0, .slice none 0 0] 26) = w0 := ⟨_, rfl⟩
  have B0 : Bx2 w 26 #[.slice pa pn pc, .string ⟨name.toArray⟩, .string ⟨sup.toArray⟩, .slice fa fn fc, .slice ma mn mc] _ w0 := e0 ▸ Bx2.start _ _ _ _
  unfold ClR.v Sl.v
  simp only
  generalize es1 : (⟨name.toArray⟩ : ByteArray) = s1 at *
  generalize es2 : (⟨sup.toArray⟩ : ByteArray) = s2 at *
  have HC1 := hide (slCloneE_any w0 ⟨pa, pn, pc⟩ pl ((ls_of_es hpl.arg.es).below B0.bel) hpl.arg.nil hpl.small)
  have HBX := hide B0
  have HF := hide hfd
  have HM := hide hmd
  have k0 := bx_cell B0.x 0 _ rfl
  simp at k0
  unfold Sl.v at HC1
  simp only at HC1
  clear h hpl hfd hmd B0
  go_enter Tryd.func8, Tryd.ntmps8
  go_wp2_with fail
  clear k0
  refine (unhide HC1).mono ?_
  rintro e w1 ⟨v1, rfl, o1, f1⟩
  obtain ⟨a1, c1, rfl, _⟩ := o1.form
  have B1 := (unhide HBX).on f1
  have O1 := o1.base (unhide HBX).size
  have k0 := bx_cell B1.x 0 _ rfl
  have k3 := bx_cell B1.x 3 _ rfl
  have z0 := bx_thaw B1.x 0
  have HB1 := hide B1
  have HO1 := hide O1
  simp at k0 k3
  clear o1 f1 HC1 HBX e0 w0 B1 O1
  go_wp2_with fail
  have B2 := (unhide HB1).set 0 (.slice a1 pl.length c1)
  have O2 : Orw ec 42 5 (w1.setCell ⟨w.heap.size, 0, none⟩ (.slice a1 pl.length c1)) (w.heap.size + 2) (.slice a1 pl.length c1) pl := (unhide HO1).below fun j hj => bx2_far (W := w1) 0 _ j ((unhide HO1).lt j hj).1
  clear k0 k3 z0 HB1 HO1
  generalize w1.setCell ⟨w.heap.size, 0, none⟩ (.slice a1 pl.length c1) = w2 at *
  simp only [List.setIfInBounds_toArray, List.set_cons_zero] at B2
  have hf := unhide HF
  refine Calls.mono (slCloneF_any w2 ⟨fa, fn, fc⟩ fds (hf.ls.below B2.bel) hf.nil hf.small) ?_
  rintro e w3 ⟨v3, rfl, o3, f3⟩
  obtain ⟨a3, c3, rfl, _⟩ := o3.form
  have B3 := B2.on f3
  have O3 : Orw ec 42 5 w3 (w.heap.size + 2) (.slice a1 pl.length c1) pl ∧ Orw fdc 44 3 w3 (w.heap.size + 2) (.slice a3 fds.length c3) fds := ⟨O2.below fun j hj => f3.block j (O2.lt j hj).2, o3.base B2.size⟩
  have k3 := bx_cell B3.x 3 _ rfl
  have k4 := bx_cell B3.x 4 _ rfl
  have z3 := bx_thaw B3.x 3
  have HB3 := hide B3
  have HO3 := hide O3
  simp at k3 k4
  clear o3 f3 B2 O2 B3 O3 HF hf
  go_wp2_with fail
  have B4 := (unhide HB3).set 3 (.slice a3 fds.length c3)
  have O4 : Orw ec 42 5 (w3.setCell ⟨w.heap.size, 3, none⟩ (.slice a3 fds.length c3)) (w.heap.size + 2) (.slice a1 pl.length c1) pl ∧ Orw fdc 44 3 (w3.setCell ⟨w.heap.size, 3, none⟩ (.slice a3 fds.length c3)) (w.heap.size + 2) (.slice a3 fds.length c3) fds := ⟨(unhide HO3).1.below fun j hj => bx2_far (W := w3) 3 _ j ((unhide HO3).1.lt j hj).1, (unhide HO3).2.below fun j hj => bx2_far (W := w3) 3 _ j ((unhide HO3).2.lt j hj).1⟩
  clear k3 k4 z3 HB3 HO3
  generalize w3.setCell ⟨w.heap.size, 3, none⟩ (.slice a3 fds.length c3) = w4 at *
  simp only [List.setIfInBounds_toArray, List.set_cons_succ, List.set_cons_zero] at B4
  have hm := unhide HM
  refine Calls.mono (copiedM_any w4 ⟨ma, mn, mc⟩ rr (hm.mono B4.bel fun _ h => h.below B4.bel)) ?_
  rintro e w5 ⟨v5, rs', rfl, o5, hsm, own5, f5⟩
  obtain ⟨a5, c5, rfl, _⟩ := o5.form
  have B5 := B4.on f5
  have O5 : ClOwn w5 (w.heap.size + 2) ⟨⟨pl, name, sup, fds, rr.map MdR.m⟩, ⟨a1, pl.length, c1⟩, ⟨a3, fds.length, c3⟩, ⟨a5, rs'.length, c5⟩, rs'⟩ := ⟨O4.1.below fun j hj => f5.block j (O4.1.lt j hj).2, O4.2.below fun j hj => f5.block j (O4.2.lt j hj).2, o5.base B4.size, fun x hx => (own5 x hx).base B4.size, hsm.symm⟩
  have z4 := bx_thaw B5.x 4
  have k0 := bx_cell B5.x 0 _ rfl
  have k1 := bx_cell B5.x 1 _ rfl
  have k2 := bx_cell B5.x 2 _ rfl
  have k3 := bx_cell B5.x 3 _ rfl
  have k4 := bx_cell B5.x 4 _ rfl
  have j0 := bx_cell B5.y 0 _ rfl
  have j1 := bx_cell B5.y 1 _ rfl
  have j2 := bx_cell B5.y 2 _ rfl
  have j3 := bx_cell B5.y 3 _ rfl
  have j4 := bx_cell B5.y 4 _ rfl
  have y0 := bx_thaw B5.y 0
  have y1 := bx_thaw B5.y 1
  have y2 := bx_thaw B5.y 2
  have y3 := bx_thaw B5.y 3
  have y4 := bx_thaw B5.y 4
  have HFIN := hide ((B5.set 4 (.slice a5 rs'.length c5)).ret [.slice a1 pl.length c1, .string s1, .string s2, .slice a3 fds.length c3, .slice a5 rs'.length c5] (by simp))
  have HO5 := hide O5
  have HFAR : Hid (∀ k, w.heap.size + 2 ≤ k → (w5.setCell ⟨w.heap.size, 4, none⟩ (.slice a5 rs'.length c5)).heap[k]? = w5.heap[k]?) := fun k hk => bx2_far (W := w5) 4 _ k hk
  simp at k0 k1 k2 k3 k4 j0 j1 j2 j3 j4
  clear o5 f5 hsm own5 B4 O4 B5 O5 HM hm
  go_wp2
  obtain ⟨r6, f6, k6'⟩ := unhide HFIN
  refine bodyPost_ret (v := .agg #[.slice a1 pl.length c1, .string s1, .string s2, .slice a3 fds.length c3, .slice a5 rs'.length c5]) ?_ rfl ⟨⟨⟨pl, name, sup, fds, rr.map MdR.m⟩, ⟨a1, pl.length, c1⟩, ⟨a3, fds.length, c3⟩, ⟨a5, rs'.length, c5⟩, rs'⟩, rfl, ?_, ?_, f6⟩
  · exact results_cell_row Tryd.results8 _ _ (w.heap.size + 1) 26 _ (0, 0) _ rfl r6 Tryd.underlying26 rfl sizeClass8
  · rw [← es1, ← es2]
  · exact ((unhide HO5).keepAll fun k X t hk _ => (k6' k hk).trans (unhide HFAR k hk)).base (by omega)
end Go.Proofs.YtjbodkedipnfoaaDoor
