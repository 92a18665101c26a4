/- The landed class: copyOfMethod. -/
import Derived.Test.YtjbodkedipnfoaaDoorJCkU

namespace Go.Proofs.YtjbodkedipnfoaaDoor
open Go.RowKit
set_option linter.unusedVariables false
set_option maxRecDepth 100000

def byc (b : UInt8) : List Value := [.int .u8 (b.toNat : Int)]
theorem byc_bv : ∀ l : List UInt8, l.flatMap byc = bv l
  | [] => rfl
  | b :: l => by rw [List.flatMap_cons, byc_bv l]; rfl
theorem orw_bv {w : World} {B n : Nat} {v : Value} {l : List UInt8} (h : w.ownsRow B 5 1 v n (bv l)) (hn : l.length = n) : Orw byc 5 1 w B v l := by
  unfold Orw
  rw [byc_bv, hn]
  exact h
/-- A method whose lists are rows of one's own. -/
structure MdOwn (w : World) (base : Nat) (r : MdR) : Prop where
  bs : Orw byc 5 1 w base r.bs.v r.m.code.bytes
  hs : Orw hdc 46 4 w base r.hs.v r.m.code.hs
  maps : Orw mpc 49 3 w base r.maps.v r.mr
  each : ∀ x ∈ r.mr, MpOwn w base x
  same : r.m.code.maps = r.mr.map MpR.m
theorem MdOwn.base {w : World} {base base' : Nat} {r : MdR} (h : MdOwn w base r) (hb : base' ≤ base) : MdOwn w base' r := ⟨h.bs.base hb, h.hs.base hb, h.maps.base hb, fun x hx => (h.each x hx).base hb, h.same⟩
theorem MdOwn.keepAll {w w' : World} {base : Nat} {r : MdR} (h : MdOwn w base r) (f : ∀ k X t, base ≤ k → t = 5 ∨ t = 46 ∨ t = 49 ∨ t = 51 → w.heap[k]? = some (.cells X t) → w'.heap[k]? = w.heap[k]?) : MdOwn w' base r :=
  ⟨h.bs.keep fun k X hk hX => f k X _ hk (.inl rfl) hX, h.hs.keep fun k X hk hX => f k X _ hk (.inr (.inl rfl)) hX, h.maps.keep fun k X hk hX => f k X _ hk (.inr (.inr (.inl rfl))) hX, fun x hx => (h.each x hx).keep fun k X hk hX => f k X _ hk (.inr (.inr (.inr rfl))) hX, h.same⟩
theorem mdOwn_keeps : Keeps MdOwn 36 := fun W W' B r h f => h.keepAll fun k X t hk ht hX => f k _ hk hX (fun Y e => by
  injection e with _ e
  rcases ht with rfl | rfl | rfl | rfl <;> cases e)
/-- A struct that stands in memory as a local, and the answer's place behind it. -/
structure Bx2 (w : World) (t : TypeId) (X Y : Array Value) (W : World) : Prop where
  x : W.heap[w.heap.size]? = some (.cells X t)
  y : W.heap[w.heap.size + 1]? = some (.cells Y t)
  bel : Below w.heap.size w W
  size : w.heap.size + 2 ≤ W.heap.size
theorem Bx2.start (w : World) (t : TypeId) (X Y : Array Value) : Bx2 w t X Y ((w.alloc (.cells X t)).alloc (.cells Y t)) := by
  refine ⟨?_, ?_, ((Below.refl _ _).alloc (Nat.le_refl _) _).alloc (by simp) _, by simp⟩
  · rw [Below.heap_alloc _ _ _ (by simp)]
    exact heap_alloc_new w _
  · have := heap_alloc_new (w.alloc (.cells X t)) (.cells Y t)
    simpa using this
theorem Bx2.on {w : World} {t : TypeId} {X Y : Array Value} {W W' : World} (h : Bx2 w t X Y W) (f : Below W.heap.size W W') : Bx2 w t X Y W' :=
  ⟨(f.block _ (by have := h.size; omega)).trans h.x, (f.block _ (by have := h.size; omega)).trans h.y, h.bel.trans (f.mono (by have := h.size; omega)), Nat.le_trans h.size f.size⟩
theorem Bx2.set {w : World} {t : TypeId} {X Y : Array Value} {W : World} (h : Bx2 w t X Y W) (k : Nat) (v : Value) : Bx2 w t (X.setIfInBounds k v) Y (W.setCell ⟨w.heap.size, k, none⟩ v) :=
  ⟨heap_setCell_same W _ k _ _ _ h.x, (Below.heap_setCell _ _ _ _ (by simp)).trans h.y, h.bel.setCell (Nat.le_refl _) _, by have := h.size; simpa [World.setCell] using this⟩
theorem bx2_far {w W : World} (k : Nat) (v : Value) (j : Nat) (hj : w.heap.size + 2 ≤ j) : (W.setCell ⟨w.heap.size, k, none⟩ v).heap[j]? = W.heap[j]? := Below.heap_setCell _ _ _ _ (by simp only; omega)
theorem heap_cells_same (g : Nat) (t : TypeId) : ∀ (vs : List Value) (W : World) (A P : List Value), P.length = vs.length → W.heap[g]? = some (.cells (A ++ P).toArray t) → (W.setCells g A.length vs).heap[g]? = some (.cells (A ++ vs).toArray t)
  | [], W, A, P, hp, h => by
    rw [List.eq_nil_of_length_eq_zero hp] at h
    exact h
  | u :: us, W, A, [], hp, h => by simp at hp
  | u :: us, W, A, p :: P, hp, h => by
    have h1 := heap_setCell_same W g A.length _ _ u h
    have := heap_cells_same g t us (W.setCell ⟨g, A.length, none⟩ u) (A ++ [u]) P (by simpa using hp) (by rw [h1]; simp)
    simpa [World.setCells] using this
theorem Bx2.ret {w : World} {t : TypeId} {X Y : Array Value} {W : World} (h : Bx2 w t X Y W) (vs : List Value) (hv : Y.size = vs.length) : (W.setCells (w.heap.size + 1) 0 vs).heap[w.heap.size + 1]? = some (.cells vs.toArray t) ∧ Below w.heap.size w (W.setCells (w.heap.size + 1) 0 vs) ∧ ∀ k, w.heap.size + 2 ≤ k → (W.setCells (w.heap.size + 1) 0 vs).heap[k]? = W.heap[k]? :=
  ⟨heap_cells_same _ t vs W [] Y.toList (by simpa using hv) (by simpa using h.y), below_cells _ _ h.bel (by omega), fun k hk => heap_cells_other _ _ _ _ _ (by omega)⟩
theorem sizeMethod8 : (Tryd.prog.info? 36).map (·.size) = some 8 := by kernel_rfl

set_option maxHeartbeats 800000 in
theorem copyM_any (w : World) (r : MdR) (h : MdIn w r) :
    Calls Tryd.prog 17 #[.agg #[.int .i64 r.m.acc, .string ⟨r.m.name.toArray⟩, .string ⟨r.m.type.toArray⟩, .int .i64 r.m.code.stack, .int .i64 r.m.code.locals, r.bs.v, r.hs.v, r.maps.v]] w fun e w' => ∃ r' : MdR, r'.m = r.m ∧ e = .returned (.agg #[.int .i64 r.m.acc, .string ⟨r.m.name.toArray⟩, .string ⟨r.m.type.toArray⟩, .int .i64 r.m.code.stack, .int .i64 r.m.code.locals, r'.bs.v, r'.hs.v, r'.maps.v]) ∧ MdOwn w' w.heap.size r' ∧ Below w.heap.size w w' := by
  obtain ⟨⟨acc, name, type, ⟨st, lo, by_, hds, mps⟩⟩, ⟨ba, bn, bc⟩, ⟨ha, hn, hc⟩, ⟨ma, mn, mc⟩, rr⟩ := r
  have hbs := h.bs
  have hfew := h.few
  have hhs := h.hs
  have hmp := h.maps
  have hsame := h.same
  simp only at hbs hfew hhs hmp hsame
  subst hsame
  have hbl := hbs.bs.1
  obtain ⟨w0, e0⟩ : ∃ w0, (w.alloc (.cells #[.int .i64 acc, .string ⟨name.toArray⟩, .string ⟨type.toArray⟩, .int .i64 st, .int .i64 lo, .slice ba bn bc, .slice ha hn hc, .slice ma mn mc] 36)).alloc (.cells #[.int .i64 0, .string ⟨#[]⟩, .string ⟨#[]⟩, .int .i64 0, .int .i64 0, .slice none 0 0, .slice none 0 0, .slice none 0 0] 36) = w0 := ⟨_, rfl⟩
  have B0 : Bx2 w 36 #[.int .i64 acc, .string ⟨name.toArray⟩, .string ⟨type.toArray⟩, .int .i64 st, .int .i64 lo, .slice ba bn bc, .slice ha hn hc, .slice ma mn mc] _ w0 := e0 ▸ Bx2.start _ _ _ _
  generalize (⟨name.toArray⟩ : ByteArray) = s1 at *
  generalize (⟨type.toArray⟩ : ByteArray) = s2 at *
  have HC1 := hide (slCloneB_any w0 ba bn bc by_ (hbs.below B0.bel) hfew)
  have HBX := hide B0
  have HH := hide hhs
  have HM := hide hmp
  have k5 := bx_cell B0.x 5 _ rfl
  simp at k5
  clear h hbs hfew hhs hmp B0
  unfold Sl.v
  simp only
  go_enter Tryd.func17, Tryd.ntmps17
  go_wp2_with fail
  clear k5
  refine (unhide HC1).mono ?_
  rintro e w1 ⟨v1, rfl, o1, f1⟩
  obtain ⟨a1, c1, rfl, _⟩ := own_form o1
  have B1 := (unhide HBX).on f1
  have O1 : Orw byc 5 1 w1 (w.heap.size + 2) (.slice a1 bn c1) by_ := (orw_bv o1 hbl).base (unhide HBX).size
  have k5 := bx_cell B1.x 5 _ rfl
  have k6 := bx_cell B1.x 6 _ rfl
  have z5 := bx_thaw B1.x 5
  have HB1 := hide B1
  have HO1 := hide O1
  simp at k5 k6
  clear o1 f1 HC1 HBX e0 w0 B1 O1
  go_wp2_with fail
  have B2 := (unhide HB1).set 5 (.slice a1 bn c1)
  have O2 : Orw byc 5 1 _ (w.heap.size + 2) (.slice a1 bn c1) by_ := (unhide HO1).below fun j hj => bx2_far (W := w1) 5 (.slice a1 bn c1) j ((unhide HO1).lt j hj).1
  clear k5 k6 z5 HB1 HO1
  generalize w1.setCell ⟨w.heap.size, 5, none⟩ (.slice a1 bn c1) = w2 at *
  simp only [List.setIfInBounds_toArray, List.set_cons_succ, List.set_cons_zero] at B2
  have hh := unhide HH
  refine Calls.mono (slCloneH_any w2 ⟨ha, hn, hc⟩ hds (hh.ls.below B2.bel) hh.nil hh.small) ?_
  rintro e w3 ⟨v3, rfl, o3, f3⟩
  obtain ⟨a3, c3, rfl, _⟩ := o3.form
  have B3 := B2.on f3
  have O3 : Orw byc 5 1 w3 (w.heap.size + 2) (.slice a1 bn c1) by_ ∧ Orw hdc 46 4 w3 (w.heap.size + 2) (.slice a3 hds.length c3) hds := ⟨O2.below fun j hj => f3.block j (O2.lt j hj).2, o3.base B2.size⟩
  have k6 := bx_cell B3.x 6 _ rfl
  have k7 := bx_cell B3.x 7 _ rfl
  have z6 := bx_thaw B3.x 6
  have HB3 := hide B3
  have HO3 := hide O3
  simp at k6 k7
  clear o3 f3 B2 O2 B3 O3 HH hh
  go_wp2_with fail
  have B4 := (unhide HB3).set 6 (.slice a3 hds.length c3)
  have O4 : Orw byc 5 1 (w3.setCell ⟨w.heap.size, 6, none⟩ (.slice a3 hds.length c3)) (w.heap.size + 2) (.slice a1 bn c1) by_ ∧ Orw hdc 46 4 (w3.setCell ⟨w.heap.size, 6, none⟩ (.slice a3 hds.length c3)) (w.heap.size + 2) (.slice a3 hds.length c3) hds := ⟨(unhide HO3).1.below fun j hj => bx2_far (W := w3) 6 _ j ((unhide HO3).1.lt j hj).1, (unhide HO3).2.below fun j hj => bx2_far (W := w3) 6 _ j ((unhide HO3).2.lt j hj).1⟩
  clear k6 k7 z6 HB3 HO3
  generalize w3.setCell ⟨w.heap.size, 6, none⟩ (.slice a3 hds.length c3) = w4 at *
  simp only [List.setIfInBounds_toArray, List.set_cons_succ, List.set_cons_zero] at B4
  have hm := unhide HM
  refine Calls.mono (copiedP_any w4 ⟨ma, mn, mc⟩ rr (hm.mono B4.bel fun _ h => h.below B4.bel)) ?_
  rintro e w5 ⟨v5, rs', rfl, o5, hsm, own5, f5⟩
  obtain ⟨a5, c5, rfl, _⟩ := o5.form
  have B5 := B4.on f5
  have O5 : MdOwn w5 (w.heap.size + 2) ⟨⟨acc, name, type, ⟨st, lo, by_, hds, rr.map MpR.m⟩⟩, ⟨a1, bn, c1⟩, ⟨a3, hds.length, c3⟩, ⟨a5, rs'.length, c5⟩, rs'⟩ := ⟨O4.1.below fun j hj => f5.block j (O4.1.lt j hj).2, O4.2.below fun j hj => f5.block j (O4.2.lt j hj).2, o5.base B4.size, fun x hx => (own5 x hx).base B4.size, hsm.symm⟩
  have z7 := bx_thaw B5.x 7
  have k0 := bx_cell B5.x 0 _ rfl
  have k1 := bx_cell B5.x 1 _ rfl
  have k2 := bx_cell B5.x 2 _ rfl
  have k3 := bx_cell B5.x 3 _ rfl
  have k4 := bx_cell B5.x 4 _ rfl
  have k5 := bx_cell B5.x 5 _ rfl
  have k6 := bx_cell B5.x 6 _ rfl
  have k7 := bx_cell B5.x 7 _ rfl
  have j0 := bx_cell B5.y 0 _ rfl
  have j1 := bx_cell B5.y 1 _ rfl
  have j2 := bx_cell B5.y 2 _ rfl
  have j3 := bx_cell B5.y 3 _ rfl
  have j4 := bx_cell B5.y 4 _ rfl
  have j5 := bx_cell B5.y 5 _ rfl
  have j6 := bx_cell B5.y 6 _ rfl
  have j7 := bx_cell B5.y 7 _ rfl
  have y0 := bx_thaw B5.y 0
  have y1 := bx_thaw B5.y 1
  have y2 := bx_thaw B5.y 2
  have y3 := bx_thaw B5.y 3
  have y4 := bx_thaw B5.y 4
  have y5 := bx_thaw B5.y 5
  have y6 := bx_thaw B5.y 6
  have y7 := bx_thaw B5.y 7
  have HFIN := hide ((B5.set 7 (.slice a5 rs'.length c5)).ret [.int .i64 acc, .string s1, .string s2, .int .i64 st, .int .i64 lo, .slice a1 bn c1, .slice a3 hds.length c3, .slice a5 rs'.length c5] (by simp))
  have HO5 := hide O5
  simp at k0 k1 k2 k3 k4 k5 k6 k7 j0 j1 j2 j3 j4 j5 j6 j7
  clear o5 f5 hsm own5 B4 O4 B5 O5 HM hm
  have HFAR : Hid (∀ k, w.heap.size + 2 ≤ k → (w5.setCell ⟨w.heap.size, 7, none⟩ (.slice a5 rs'.length c5)).heap[k]? = w5.heap[k]?) := fun k hk => bx2_far (W := w5) 7 _ k hk
  go_wp2
  obtain ⟨r6, f6, k6'⟩ := unhide HFIN
  refine bodyPost_ret (v := .agg #[.int .i64 acc, .string s1, .string s2, .int .i64 st, .int .i64 lo, .slice a1 bn c1, .slice a3 hds.length c3, .slice a5 rs'.length c5]) ?_ rfl ⟨⟨⟨acc, name, type, ⟨st, lo, by_, hds, rr.map MpR.m⟩⟩, ⟨a1, bn, c1⟩, ⟨a3, hds.length, c3⟩, ⟨a5, rs'.length, c5⟩, rs'⟩, rfl, rfl, ?_, f6⟩
  · exact results_cell_row Tryd.results17 _ _ (w.heap.size + 1) 36 _ (0, 0) _ rfl r6 Tryd.underlying36 rfl sizeMethod8
  · exact ((unhide HO5).keepAll fun k X t hk _ _ => (k6' k hk).trans (unhide HFAR k hk)).base (by omega)
end Go.Proofs.YtjbodkedipnfoaaDoor
