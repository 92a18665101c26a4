/- Joined: CkS CkU CkX WdL1. -/
import Derived.Test.YtdcoknnjgpdigaaGreatDoorJP11
import Derived.Test.YtdcoknnjgpdigaaGreatDoorJClF
import Derived.Laws.CopyOwn

/- The landed class: copyOfMap. -/
namespace Go.Proofs.YtdcoknnjgpdigaaGreatDoor
open Go.RowKit
set_option linter.unusedVariables false
set_option maxRecDepth 100000

/-- A map whose lists are rows of one's own. -/
structure MpOwn (w : World) (base : Nat) (r : MpR) : Prop where
  loc : Orw tyc 143 2 w base r.loc.v r.m.loc
  stk : Orw tyc 143 2 w base r.stk.v r.m.stk

theorem bx_cell {W : World} {p : Nat} {X : Array Value} {t : TypeId} (h : W.heap[p]? = some (.cells X t)) : ∀ (q : Nat) (v : Value), X[q]? = some v → W.cell? ⟨p, q, none⟩ = some v := fun q v hv => by unfold World.cell?; simp [h, hv]
theorem bx_set3 {W : World} {A : Nat} {T : TypeId} {a0 a1 a2 : Value} (c0 c1 c2 : Value) (h : W.heap[A]? = some (.cells #[a0, a1, a2] T)) : (((W.setCell ⟨A, 0, none⟩ c0).setCell ⟨A, 1, none⟩ c1).setCell ⟨A, 2, none⟩ c2).heap[A]? = some (.cells #[c0, c1, c2] T) := by
  have h0 := heap_setCell_same W A 0 _ _ c0 h
  have h1 := heap_setCell_same _ A 1 _ _ c1 h0
  exact heap_setCell_same _ A 2 _ _ c2 h1
theorem sizeMap8 : (Tryz.prog.info? 52).map (·.size) = some 3 := by kernel_rfl
theorem bx_thaw {W : World} {p : Nat} {X : Array Value} {t : TypeId} (h : W.heap[p]? = some (.cells X t)) (q : Nat) : W.frozen? ⟨p, q, none⟩ = false := frozen_of_row _ _ _ _ _ h
set_option maxHeartbeats 400000 in
theorem copyP_any (w : World) (r : MpR) (h : MpIn w r) :
    Calls Tryz.prog 48 #[.agg #[.int .i64 r.m.at_, r.loc.v, r.stk.v]] w fun e w' => ∃ r' : MpR, r'.m = r.m ∧ e = .returned (.agg #[.int .i64 r.m.at_, r'.loc.v, r'.stk.v]) ∧ MpOwn w' w.heap.size r' ∧ Below w.heap.size w w' := by
  obtain ⟨m, ⟨la, ln, lc⟩, ⟨sa, sn, sc⟩⟩ := r
  have hl := h.loc
  have hs := h.stk
  unfold TysIn at hl hs
  simp only at hl hs
  obtain ⟨w0, e0, f0, b0, s0, r0⟩ : ∃ w0, (w.alloc (.cells #[.int .i64 m.at_, .slice la ln lc, .slice sa sn sc] 52)).alloc (.cells #[.int .i64 0, .slice none 0 0, .slice none 0 0] 52) = w0 ∧ Below w.heap.size w w0 ∧ w0.heap[w.heap.size]? = some (.cells #[.int .i64 m.at_, .slice la ln lc, .slice sa sn sc] 52) ∧ w0.heap.size = w.heap.size + 2 ∧ w0.heap[w.heap.size + 1]? = some (.cells #[.int .i64 0, .slice none 0 0, .slice none 0 0] 52) := by
    refine ⟨_, rfl, ((Below.refl _ _).alloc (Nat.le_refl _) _).alloc (by simp) _, ?_, by simp, ?_⟩
    · rw [Below.heap_alloc _ _ _ (by simp)]
      exact heap_alloc_new w _
    · have := heap_alloc_new (w.alloc (.cells #[.int .i64 m.at_, .slice la ln lc, .slice sa sn sc] 52)) (.cells #[.int .i64 0, .slice none 0 0, .slice none 0 0] 52)
      simpa using this
  have HC1 := hide (slCloneT_any w0 ⟨la, ln, lc⟩ m.loc (hl.ls.below f0) hl.nil hl.small)
  have HS := hide hs
  have HF0 := hide f0
  have HB0 := hide b0
  have HR0 := hide r0
  have k0 := bx_cell b0 0 _ rfl
  have k1 := bx_cell b0 1 _ rfl
  have k2 := bx_cell b0 2 _ rfl
  clear h hl hs f0 b0 r0
  unfold Sl.v
  simp only
  go_enter Tryz.func48, Tryz.ntmps48
  go_wp2_with fail
  clear k0 k1 k2
  refine (unhide HC1).mono ?_
  rintro e w1 ⟨v1, rfl, o1, f1⟩
  obtain ⟨a1, c1, rfl, g1⟩ := o1.form
  have hb1 : w1.heap[w.heap.size]? = some (.cells #[.int .i64 m.at_, .slice la ln lc, .slice sa sn sc] 52) := (f1.block _ (by omega)).trans (unhide HB0)
  have k0 := bx_cell hb1 0 _ rfl
  have k1 := bx_cell hb1 1 _ rfl
  have k2 := bx_cell hb1 2 _ rfl
  have z1 := bx_thaw hb1 1
  have HO1 := hide o1
  have HF1 := hide f1
  have HB1 := hide hb1
  clear o1 f1 hb1 HC1 g1
  go_wp2_with fail
  obtain ⟨w2, e2, f2, b2, s2, k2'⟩ : ∃ w2, w1.setCell ⟨w.heap.size, 1, none⟩ (.slice a1 m.loc.length c1) = w2 ∧ Below w.heap.size w w2 ∧ w2.heap[w.heap.size]? = some (.cells #[.int .i64 m.at_, .slice a1 m.loc.length c1, .slice sa sn sc] 52) ∧ w.heap.size + 2 ≤ w2.heap.size ∧ ∀ k, w.heap.size < k → w2.heap[k]? = w1.heap[k]? := by
    have hf1 := unhide HF1
    refine ⟨_, rfl, ((unhide HF0).trans (hf1.mono (by omega))).setCell (Nat.le_refl _) _, heap_setCell_same w1 _ 1 _ _ _ (unhide HB1), ?_, fun k hk => Below.heap_setCell _ _ _ _ (by simp only; omega)⟩
    have := hf1.size
    simp [World.setCell]
    omega
  rw [e2]
  clear e2 k0 k1 k2 z1
  have o2 := (unhide HO1).below (w' := w2) (fun k hk => k2' k (by have := (unhide HO1).lt k hk; omega))
  have hs := unhide HS
  refine Calls.mono (slCloneT_any w2 ⟨sa, sn, sc⟩ m.stk (hs.ls.below f2) hs.nil hs.small) ?_
  rintro e w3 ⟨v3, rfl, o3, f3⟩
  obtain ⟨a3, c3, rfl, g3⟩ := o3.form
  have hb3 : w3.heap[w.heap.size]? = some (.cells #[.int .i64 m.at_, .slice a1 m.loc.length c1, .slice sa sn sc] 52) := (f3.block _ (by omega)).trans b2
  have hr3 : w3.heap[w.heap.size + 1]? = some (.cells #[.int .i64 0, .slice none 0 0, .slice none 0 0] 52) := (f3.block _ (by omega)).trans ((k2' _ (by omega)).trans (((unhide HF1).block _ (by omega)).trans (unhide HR0)))
  have HN : Hid (Orw tyc 143 2 w3 (w.heap.size + 2) (.slice a1 m.loc.length c1) m.loc ∧ Orw tyc 143 2 w3 (w.heap.size + 2) (.slice a3 m.stk.length c3) m.stk ∧ Below w.heap.size w w3) := by
    refine hide ⟨(o2.below fun k hk => f3.block k (o2.lt k hk).2).base (by omega), o3.base (by omega), f2.trans (f3.mono (by omega))⟩
  have k0 := bx_cell hb3 0 _ rfl
  have k1 := bx_cell hb3 1 _ rfl
  have k2 := bx_cell hb3 2 _ rfl
  have z2 := bx_thaw hb3 2
  have j0 := bx_cell hr3 0 _ rfl
  have j1 := bx_cell hr3 1 _ rfl
  have j2 := bx_cell hr3 2 _ rfl
  have y0 := bx_thaw hr3 0
  have y1 := bx_thaw hr3 1
  have y2 := bx_thaw hr3 2
  have HR3 := hide hr3
  clear hr3 HR0 hb3 o3 f3 g3 o2 hs f2 b2 s2 k2' HS HF0 HB0 HO1 HF1 HB1
  go_wp2_with fail
  obtain ⟨w4, e4, f4, r4, k4⟩ : ∃ w4, (((w3.setCell ⟨w.heap.size, 2, none⟩ (.slice a3 m.stk.length c3)).setCell ⟨w.heap.size + 1, 0, none⟩ (.int .i64 m.at_)).setCell ⟨w.heap.size + 1, 1, none⟩ (.slice a1 m.loc.length c1)).setCell ⟨w.heap.size + 1, 2, none⟩ (.slice a3 m.stk.length c3) = w4 ∧ Below w.heap.size w w4 ∧ w4.heap[w.heap.size + 1]? = some (.cells #[.int .i64 m.at_, .slice a1 m.loc.length c1, .slice a3 m.stk.length c3] 52) ∧ ∀ k, w.heap.size + 2 ≤ k → w4.heap[k]? = w3.heap[k]? := by
    refine ⟨_, rfl, ((((unhide HN).2.2.setCell (Nat.le_refl _) _).setCell (Nat.le_succ _) _).setCell (Nat.le_succ _) _).setCell (Nat.le_succ _) _, bx_set3 _ _ _ ((Below.heap_setCell _ _ _ _ (by simp)).trans (unhide HR3)), fun k hk => ?_⟩
    rw [Below.heap_setCell _ _ _ _ (by simp only; omega), Below.heap_setCell _ _ _ _ (by simp only; omega), Below.heap_setCell _ _ _ _ (by simp only; omega), Below.heap_setCell _ _ _ _ (by simp only; omega)]
  rw [e4]
  clear e4
  obtain ⟨o1, o3, _⟩ := unhide HN
  refine bodyPost_ret (v := .agg #[.int .i64 m.at_, .slice a1 m.loc.length c1, .slice a3 m.stk.length c3]) ?_ rfl ⟨⟨m, ⟨a1, m.loc.length, c1⟩, ⟨a3, m.stk.length, c3⟩⟩, rfl, rfl, ?_, f4⟩
  · exact results_cell_row Tryz.results48 _ _ (w.heap.size + 1) 52 _ (0, 0) _ rfl r4 Tryz.underlying52 rfl sizeMap8
  · exact ⟨(o1.below fun k hk => k4 k (o1.lt k hk).1).base (by omega), (o3.below fun k hk => k4 k (o3.lt k hk).1).base (by omega)⟩
end Go.Proofs.YtdcoknnjgpdigaaGreatDoor

/- The landed class: copied. -/
namespace Go.Proofs.YtdcoknnjgpdigaaGreatDoor
open Go.RowKit
set_option linter.unusedVariables false
set_option maxRecDepth 100000

theorem Orw.keep {α : Type} {cs : α → List Value} {e : TypeId} {sz : Nat} {w w' : World} {base : Nat} {v : Value} {l : List α} (h : Orw cs e sz w base v l) (f : ∀ k X, base ≤ k → w.heap[k]? = some (.cells X e) → w'.heap[k]? = w.heap[k]?) : Orw cs e sz w' base v l := by
  refine ⟨h.1, ?_⟩
  rcases h.2 with hv | ⟨g, cap, cur, hv, hb, hh, r⟩
  · exact .inl hv
  · exact .inr ⟨g, cap, cur, hv, hb, (f g cur hb hh).trans hh, r⟩
theorem MpOwn.keep {w w' : World} {base : Nat} {r : MpR} (h : MpOwn w base r) (f : ∀ k X, base ≤ k → w.heap[k]? = some (.cells X 143) → w'.heap[k]? = w.heap[k]?) : MpOwn w' base r := ⟨h.loc.keep f, h.stk.keep f⟩
theorem MpOwn.base {w : World} {base base' : Nat} {r : MpR} (h : MpOwn w base r) (hb : base' ≤ base) : MpOwn w base' r := ⟨h.loc.base hb, h.stk.base hb⟩
/-- Of a list in a row of one's own the first k are copied, the rest is as it came. -/
def Cop {α β : Type} (cs : α → List Value) (e : TypeId) (sz : Nat) (m : α → β) (own : World → Nat → α → Prop) (w : World) (v : Value) (rs : List α) (k : Nat) (W : World) : Prop :=
  ∃ dn : List α, dn.length = k ∧ dn.map m = (rs.take k).map m ∧ (∀ r ∈ dn, own W w.heap.size r) ∧ Orw cs e sz W w.heap.size v (dn ++ rs.drop k) ∧ Below w.heap.size w W
theorem Cop.start {α β : Type} {cs : α → List Value} {e : TypeId} {sz : Nat} {m : α → β} {own : World → Nat → α → Prop} {w W : World} {v : Value} {rs : List α} (f : Below w.heap.size w W) (h : Orw cs e sz W w.heap.size v rs) : Cop cs e sz m own w v rs 0 W := ⟨[], rfl, by simp, by simp, by simpa using h, f⟩

theorem stored_all {base g n cap sz : Nat} {e : TypeId} : ∀ (vs : List Value) (o : Nat) (W : World) (xs : List Value), W.ownsRow base e sz (.slice (some ⟨g, 0, none⟩) n cap) n xs → ∃ ys, (W.setCells g o vs).ownsRow base e sz (.slice (some ⟨g, 0, none⟩) n cap) n ys ∧ (∀ A P B, xs = A ++ (P ++ B) → A.length = o → P.length = vs.length → ys = A ++ (vs ++ B))
  | [], o, W, xs, h => ⟨xs, h, fun A P B e _ hp => by rw [e, List.eq_nil_of_length_eq_zero hp]⟩
  | u :: us, o, W, xs, h => by
    obtain ⟨ys, h1, h2⟩ := stored_all us (o + 1) (W.setCell ⟨g, o, none⟩ u) (xs.set o u) (h.stored o u).1
    refine ⟨ys, h1, fun A P B e ha hp => ?_⟩
    cases P with
    | nil => simp at hp
    | cons p P =>
      have := h2 (A ++ [u]) P B (by rw [e, ← ha]; simp) (by simp [ha]) (by simpa using hp)
      rw [this]
      simp
theorem heap_cells_other (g : Nat) : ∀ (vs : List Value) (o : Nat) (w : World) (k : Nat), k ≠ g → (w.setCells g o vs).heap[k]? = w.heap[k]?
  | [], _, _, _, _ => rfl
  | u :: us, o, w, k, h => (heap_cells_other g us (o + 1) _ k h).trans (Below.heap_setCell _ _ _ _ h)
theorem below_cells {B b : Nat} : ∀ (vs : List Value) (o : Nat) {w0 w : World}, Below B w0 w → B ≤ b → Below B w0 (w.setCells b o vs)
  | [], _, _, _, h, _ => h
  | v :: r, o, _, _, h, hb => below_cells r (o + 1) (h.setCell (p := ⟨b, o, none⟩) hb v) hb
/-- What holds of a copied record stays while rows of type e alone are written. -/
def Keeps {α : Type} (own : World → Nat → α → Prop) (e : TypeId) : Prop := ∀ W W' B r, own W B r → (∀ k X, B ≤ k → W.heap[k]? = some X → (∀ Y, X ≠ .cells Y e) → W'.heap[k]? = W.heap[k]?) → own W' B r
theorem mpOwn_keeps : Keeps MpOwn 52 := fun W W' B r h f => h.keep fun k X hk hX => f k _ hk hX (fun Y e => by injection e with _ e; cases e)
theorem Cop.row {α β : Type} {cs : α → List Value} {e t : TypeId} {sz by_ : Nat} {z : Value} (R : Rk cs e t sz by_ z) {m : α → β} {own : World → Nat → α → Prop} {w W : World} {a : Option Addr} {n c : Nat} {rs : List α} {k : Nat} {x : α} (h : Cop cs e sz m own w (.slice a n c) rs k W) (hx : rs[k]? = some x) :
    ∃ g cur, a = some ⟨g, 0, none⟩ ∧ w.heap.size ≤ g ∧ W.heap[g]? = some (.cells cur e) ∧ RowAt W g (k * sz) (cs x) := by
  obtain ⟨dn, hd, hm, ho, hr, hb⟩ := h
  have hk := (List.getElem?_eq_some_iff.1 hx).1
  have hxk : (dn ++ rs.drop k)[k]? = some x := by
    rw [List.getElem?_append_right (by omega), hd, Nat.sub_self, List.getElem?_drop, Nat.add_zero]
    exact hx
  have hL := hr.ls R
  rcases hr.2 with ⟨hv, hn⟩ | ⟨g, cap, cur, hv, hg, hh, _⟩
  · rw [List.length_append, List.length_drop] at hn
    omega
  · injection hv with ea en ec
    subst ea
    refine ⟨g, cur, rfl, hg, hh, fun q u hu => ?_⟩
    rcases hL.2 with h0 | ⟨b, o, e1, _, h1⟩
    · have := hL.1
      rw [List.length_append, List.length_drop] at this
      omega
    · injection e1 with e1
      injection e1 with e1 e2
      subst e1 e2
      have := h1 k x hxk q u hu
      rwa [Nat.zero_add] at this
theorem Cop.put {α β : Type} {cs : α → List Value} {e t : TypeId} {sz by_ : Nat} {z : Value} (R : Rk cs e t sz by_ z) {m : α → β} {own : World → Nat → α → Prop} (K : Keeps own e) (hbase : ∀ W B B' r, own W B r → B' ≤ B → own W B' r) {w W W4 : World} {g n c : Nat} {rs : List α} {k : Nat} {x y : α} (h : Cop cs e sz m own w (.slice (some ⟨g, 0, none⟩) n c) rs k W) (hx : rs[k]? = some x) (f : Below W.heap.size W W4) (ho : own W4 W.heap.size y) (hy : m y = m x) :
    Cop cs e sz m own w (.slice (some ⟨g, 0, none⟩) n c) rs (k + 1) (W4.setCells g (k * sz) (cs y)) := by
  have hrow := h.row R hx
  obtain ⟨dn, hd, hm, hown, hr, hb⟩ := h
  obtain ⟨g', cur, e1, hg, hh, _⟩ := hrow
  injection e1 with e1
  injection e1 with e1
  subst e1
  have hk := (List.getElem?_eq_some_iff.1 hx).1
  have hlt : g < W.heap.size := lt_of_heap hh
  have hh4 : W4.heap[g]? = some (.cells cur e) := (f.block g hlt).trans hh
  have hdrop : rs.drop k = x :: rs.drop (k + 1) := by
    rw [List.drop_eq_getElem_cons hk, (List.getElem?_eq_some_iff.1 hx).2]
  have hr4 : Orw cs e sz W4 w.heap.size (.slice (some ⟨g, 0, none⟩) n c) (dn ++ rs.drop k) := hr.below fun j hj => f.block j (hr.lt j hj).2
  have hln : (dn ++ rs.drop k).length = n := (hr4.ls R).1
  unfold Orw at hr4
  rw [hln] at hr4
  obtain ⟨ys, q1, q2⟩ := stored_all (cs y) (k * sz) W4 _ hr4
  have hys := q2 (dn.flatMap cs) (cs x) ((rs.drop (k + 1)).flatMap cs) (by rw [hdrop]; simp) (by rw [flatR_len R.len, hd]) (by rw [R.len, R.len])
  have hkeep : ∀ r B, own W4 B r → own (W4.setCells g (k * sz) (cs y)) B r := fun r B hw => K W4 _ B r hw fun j X hj hX hne => heap_cells_other g _ _ _ _ (fun e => hne cur (by rw [e, hh4] at hX; injection hX with hX; exact hX.symm))
  refine ⟨dn ++ [y], by simp [hd], ?_, fun r hrm => ?_, ?_, ?_⟩
  · rw [List.take_add_one, hx, List.map_append, List.map_append, hm]
    simp [hy]
  · rcases List.mem_append.1 hrm with h1 | h1
    · exact hkeep r _ (K W W4 _ r (hown r h1) fun j X hj hX _ => f.block j (lt_of_heap hX))
    · simp at h1
      subst h1
      exact hkeep _ _ (hbase _ _ _ _ ho hb.size)
  · have el : dn ++ [y] ++ rs.drop (k + 1) = dn ++ y :: rs.drop (k + 1) := by simp
    have en : (dn ++ y :: rs.drop (k + 1)).length = n := by rw [← hln, hdrop]; simp
    unfold Orw
    rw [el, en]
    have : (dn ++ y :: rs.drop (k + 1)).flatMap cs = ys := by rw [hys]; simp
    rw [this]
    exact q1
  · exact below_cells _ _ (hb.trans (f.mono hb.size)) hg
set_option maxHeartbeats 400000 in
theorem copiedP_any (w : World) (s : Sl) (rs : List MpR) (h : LIn 3 56 mpc (MpIn w) w s rs) :
    Calls Tryz.prog 47 #[s.v, .func (.func 48) #[] #[]] w fun e w' => ∃ v rs', e = .returned v ∧ Orw mpc 52 3 w' w.heap.size v rs' ∧ rs'.map MpR.m = rs.map MpR.m ∧ (∀ r ∈ rs', MpOwn w' w.heap.size r) ∧ Below w.heap.size w w' := by
  obtain ⟨a, n, c⟩ := s
  have hln := h.ls.1
  have hl0 : n ≤ 140737488355328 := by have := h.small; simp only at this; omega
  have HC := hide (slCloneP_any w ⟨a, n, c⟩ rs h.ls h.nil h.small)
  have HE : Hid (∀ x ∈ rs, MpIn w x) := hide h.each
  clear h
  unfold Sl.v at *
  simp only at HC hln ⊢
  go_enter Tryz.func47, Tryz.ntmps47
  go_wp2_with fail
  refine (unhide HC).mono ?_
  rintro e w1 ⟨v1, rfl, o1, f1⟩
  have CI := Cop.start (m := MpR.m) (own := MpOwn) f1 o1
  obtain ⟨a1, c1, rfl, g1⟩ := o1.form
  have HCI := hide CI
  have HG := hide g1
  clear CI o1 f1 HC g1
  go_wp2
  go_loopw [11] (fun i wr => ∃ k : Nat, k ≤ n ∧ i = .int .i64 k ∧ Cop mpc 52 3 MpR.m MpOwn w (.slice a1 rs.length c1) rs k wr) (fun i _ => n - (intOf i).toNat)
  case atStart => exact ⟨0, by omega, rfl, unhide HCI⟩
  case round =>
    obtain ⟨k, hk, rfl, hT⟩ := hrel
    by_cases hlt : k < n
    · have hlt1 : (k : Int) < (n : Int) := by omega
      have hk0 : (0 : Int) ≤ (k : Int) := by omega
      obtain ⟨x, hx1⟩ : ∃ x, rs[k]? = some x := ⟨_, List.getElem?_eq_getElem (by omega)⟩
      obtain ⟨g, cur, rfl, hg, hh, q⟩ := hT.row rkP hx1
      have hbel : Below w.heap.size w wr := by obtain ⟨_, _, _, _, _, hb⟩ := hT; exact hb
      obtain ⟨xm, ⟨la, ln, lc⟩, ⟨sa, sn, sc⟩⟩ := x
      have d0 := q.zero
      have d1 := q 1 _ rfl
      have d2 := q 2 _ rfl
      simp only [Sl.v] at d0 d1 d2
      have HP := hide (copyP_any (wr.alloc (.cells #[.int .i64 xm.at_, .slice la ln lc, .slice sa sn sc] 52)) _ (((unhide HE _ (List.mem_of_getElem? hx1)).below hbel).below ((Below.refl _ _).alloc (Nat.le_refl _) _)))
      have HT := hide hT
      have HH := hide hh
      have HX := hide hx1
      simp only [Sl.v] at HP
      clear q hT hh hx1 hbel hg
      go_wp2_with fail
      clear d0 d1 d2
      refine (unhide HP).mono ?_
      rintro e w4 ⟨y, hym, rfl, own4, f4⟩
      have f4' : Below wr.heap.size wr w4 := ((Below.refl _ _).alloc (Nat.le_refl _) _).trans (f4.mono (by simp))
      have hh4 := (f4'.block g (lt_of_heap (unhide HH))).trans (unhide HH)
      obtain ⟨_, _, e9, _, _, q⟩ := (unhide HT).row rkP (unhide HX)
      injection e9 with e9
      injection e9 with e9
      subst e9
      have q4 : RowAt w4 g (k * 3) (mpc _) := fun j u hu => (f4'.cell (p := ⟨g, k * 3 + j, none⟩) (lt_of_heap (unhide HH))).trans (q j u hu)
      have d0 := q4.zero
      have z0 := bx_thaw hh4 (k * 3)
      have d1 := q4 1 _ rfl
      have z1 := bx_thaw hh4 (k * 3 + 1)
      have d2 := q4 2 _ rfl
      have z2 := bx_thaw hh4 (k * 3 + 2)
      simp only [Sl.v] at d0 d1 d2
      have HPUT := hide ((unhide HT).put rkP mpOwn_keeps (fun _ _ _ _ h hb => h.base hb) (unhide HX) f4' (own4.base (by simp)) hym)
      obtain ⟨ym, ⟨la2, ln2, lc2⟩, ⟨sa2, sn2, sc2⟩⟩ := y
      simp only at hym
      subst hym
      clear q q4 hh4 f4 f4' own4 HP HT HH HX
      simp only [Sl.v, mpc] at HPUT
      go_wp2
      go_roundw
      case rel => exact ⟨k + 1, by omega, by go_num, unhide HPUT⟩
      case measure => simp [intOf]; omega
    · obtain rfl : k = n := by omega
      have HT := hide hT
      clear hT
      go_wp2
      go_ret
      obtain ⟨dn, hd, hm, hown, hr, hb⟩ := unhide HT
      rw [List.take_of_length_le (by omega)] at hm
      rw [List.drop_eq_nil_of_le (by omega), List.append_nil, hln] at hr
      exact ⟨_, dn, rfl, hr, hm, hown, hb⟩

end Go.Proofs.YtdcoknnjgpdigaaGreatDoor

/- The landed class: copyOfMethod. -/
namespace Go.Proofs.YtdcoknnjgpdigaaGreatDoor
open Go.RowKit
set_option linter.unusedVariables false
set_option maxRecDepth 100000

def byc (b : UInt8) : List Value := [.int .u8 (b.toNat : Int)]
theorem byc_bv : ∀ l : List UInt8, l.flatMap byc = bv l
  | [] => rfl
  | b :: l => by rw [List.flatMap_cons, byc_bv l]; rfl
theorem orw_bv {w : World} {B n : Nat} {v : Value} {l : List UInt8} (h : w.ownsRow B 5 1 v n (bv l)) (hn : l.length = n) : Orw byc 5 1 w B v l := by
  unfold Orw
  rw [byc_bv, hn]
  exact h
/-- A method whose lists are rows of one's own. -/
structure MdOwn (w : World) (base : Nat) (r : MdR) : Prop where
  bs : Orw byc 5 1 w base r.bs.v r.m.code.bytes
  hs : Orw hdc 93 4 w base r.hs.v r.m.code.hs
  maps : Orw mpc 52 3 w base r.maps.v r.mr
  each : ∀ x ∈ r.mr, MpOwn w base x
  same : r.m.code.maps = r.mr.map MpR.m
theorem MdOwn.base {w : World} {base base' : Nat} {r : MdR} (h : MdOwn w base r) (hb : base' ≤ base) : MdOwn w base' r := ⟨h.bs.base hb, h.hs.base hb, h.maps.base hb, fun x hx => (h.each x hx).base hb, h.same⟩
theorem MdOwn.keepAll {w w' : World} {base : Nat} {r : MdR} (h : MdOwn w base r) (f : ∀ k X t, base ≤ k → t = 5 ∨ t = 93 ∨ t = 52 ∨ t = 143 → w.heap[k]? = some (.cells X t) → w'.heap[k]? = w.heap[k]?) : MdOwn w' base r :=
  ⟨h.bs.keep fun k X hk hX => f k X _ hk (.inl rfl) hX, h.hs.keep fun k X hk hX => f k X _ hk (.inr (.inl rfl)) hX, h.maps.keep fun k X hk hX => f k X _ hk (.inr (.inr (.inl rfl))) hX, fun x hx => (h.each x hx).keep fun k X hk hX => f k X _ hk (.inr (.inr (.inr rfl))) hX, h.same⟩
theorem mdOwn_keeps : Keeps MdOwn 49 := fun W W' B r h f => h.keepAll fun k X t hk ht hX => f k _ hk hX (fun Y e => by
  injection e with _ e
  rcases ht with rfl | rfl | rfl | rfl <;> cases e)
/-- A struct that stands in memory as a local, and the answer's place behind it. -/
structure Bx2 (w : World) (t : TypeId) (X Y : Array Value) (W : World) : Prop where
  x : W.heap[w.heap.size]? = some (.cells X t)
  y : W.heap[w.heap.size + 1]? = some (.cells Y t)
  bel : Below w.heap.size w W
  size : w.heap.size + 2 ≤ W.heap.size
theorem Bx2.start (w : World) (t : TypeId) (X Y : Array Value) : Bx2 w t X Y ((w.alloc (.cells X t)).alloc (.cells Y t)) := by
  refine ⟨?_, ?_, ((Below.refl _ _).alloc (Nat.le_refl _) _).alloc (by simp) _, by simp⟩
  · rw [Below.heap_alloc _ _ _ (by simp)]
    exact heap_alloc_new w _
  · have := heap_alloc_new (w.alloc (.cells X t)) (.cells Y t)
    simpa using this
theorem Bx2.on {w : World} {t : TypeId} {X Y : Array Value} {W W' : World} (h : Bx2 w t X Y W) (f : Below W.heap.size W W') : Bx2 w t X Y W' :=
  ⟨(f.block _ (by have := h.size; omega)).trans h.x, (f.block _ (by have := h.size; omega)).trans h.y, h.bel.trans (f.mono (by have := h.size; omega)), Nat.le_trans h.size f.size⟩
theorem Bx2.set {w : World} {t : TypeId} {X Y : Array Value} {W : World} (h : Bx2 w t X Y W) (k : Nat) (v : Value) : Bx2 w t (X.setIfInBounds k v) Y (W.setCell ⟨w.heap.size, k, none⟩ v) :=
  ⟨heap_setCell_same W _ k _ _ _ h.x, (Below.heap_setCell _ _ _ _ (by simp)).trans h.y, h.bel.setCell (Nat.le_refl _) _, by have := h.size; simpa [World.setCell] using this⟩
theorem bx2_far {w W : World} (k : Nat) (v : Value) (j : Nat) (hj : w.heap.size + 2 ≤ j) : (W.setCell ⟨w.heap.size, k, none⟩ v).heap[j]? = W.heap[j]? := Below.heap_setCell _ _ _ _ (by simp only; omega)
theorem heap_cells_same (g : Nat) (t : TypeId) : ∀ (vs : List Value) (W : World) (A P : List Value), P.length = vs.length → W.heap[g]? = some (.cells (A ++ P).toArray t) → (W.setCells g A.length vs).heap[g]? = some (.cells (A ++ vs).toArray t)
  | [], W, A, P, hp, h => by
    rw [List.eq_nil_of_length_eq_zero hp] at h
    exact h
  | u :: us, W, A, [], hp, h => by simp at hp
  | u :: us, W, A, p :: P, hp, h => by
    have h1 := heap_setCell_same W g A.length _ _ u h
    have := heap_cells_same g t us (W.setCell ⟨g, A.length, none⟩ u) (A ++ [u]) P (by simpa using hp) (by rw [h1]; simp)
    simpa [World.setCells] using this
theorem Bx2.ret {w : World} {t : TypeId} {X Y : Array Value} {W : World} (h : Bx2 w t X Y W) (vs : List Value) (hv : Y.size = vs.length) : (W.setCells (w.heap.size + 1) 0 vs).heap[w.heap.size + 1]? = some (.cells vs.toArray t) ∧ Below w.heap.size w (W.setCells (w.heap.size + 1) 0 vs) ∧ ∀ k, w.heap.size + 2 ≤ k → (W.setCells (w.heap.size + 1) 0 vs).heap[k]? = W.heap[k]? :=
  ⟨heap_cells_same _ t vs W [] Y.toList (by simpa using hv) (by simpa using h.y), below_cells _ _ h.bel (by omega), fun k hk => heap_cells_other _ _ _ _ _ (by omega)⟩
theorem sizeMethod8 : (Tryz.prog.info? 49).map (·.size) = some 8 := by kernel_rfl

set_option maxHeartbeats 800000 in
theorem copyM_any (w : World) (r : MdR) (h : MdIn w r) :
    Calls Tryz.prog 22 #[.agg #[.int .i64 r.m.acc, .string ⟨r.m.name.toArray⟩, .string ⟨r.m.type.toArray⟩, .int .i64 r.m.code.stack, .int .i64 r.m.code.locals, r.bs.v, r.hs.v, r.maps.v]] w fun e w' => ∃ r' : MdR, r'.m = r.m ∧ e = .returned (.agg #[.int .i64 r.m.acc, .string ⟨r.m.name.toArray⟩, .string ⟨r.m.type.toArray⟩, .int .i64 r.m.code.stack, .int .i64 r.m.code.locals, r'.bs.v, r'.hs.v, r'.maps.v]) ∧ MdOwn w' w.heap.size r' ∧ Below w.heap.size w w' := by
  obtain ⟨⟨acc, name, type, ⟨st, lo, by_, hds, mps⟩⟩, ⟨ba, bn, bc⟩, ⟨ha, hn, hc⟩, ⟨ma, mn, mc⟩, rr⟩ := r
  have hbs := h.bs
  have hfew := h.few
  have hhs := h.hs
  have hmp := h.maps
  have hsame := h.same
  simp only at hbs hfew hhs hmp hsame
  subst hsame
  have hbl := hbs.bs.1
  obtain ⟨w0, e0⟩ : ∃ w0, (w.alloc (.cells #[.int .i64 acc, .string ⟨name.toArray⟩, .string ⟨type.toArray⟩, .int .i64 st, .int .i64 lo, .slice ba bn bc, .slice ha hn hc, .slice ma mn mc] 49)).alloc (.cells #[.int .i64 0, .string ⟨#[]⟩, .string ⟨#[]⟩, .int .i64 0, .int .i64 0, .slice none 0 0, .slice none 0 0, .slice none 0 0] 49) = w0 := ⟨_, rfl⟩
  have B0 : Bx2 w 49 #[.int .i64 acc, .string ⟨name.toArray⟩, .string ⟨type.toArray⟩, .int .i64 st, .int .i64 lo, .slice ba bn bc, .slice ha hn hc, .slice ma mn mc] _ w0 := e0 ▸ Bx2.start _ _ _ _
  generalize (⟨name.toArray⟩ : ByteArray) = s1 at *
  generalize (⟨type.toArray⟩ : ByteArray) = s2 at *
  have HC1 := hide (slCloneB_any w0 ba bn bc by_ (hbs.below B0.bel) hfew)
  have HBX := hide B0
  have HH := hide hhs
  have HM := hide hmp
  have k5 := bx_cell B0.x 5 _ rfl
  simp at k5
  clear h hbs hfew hhs hmp B0
  unfold Sl.v
  simp only
  go_enter Tryz.func22, Tryz.ntmps22
  go_wp2_with fail
  clear k5
  refine (unhide HC1).mono ?_
  rintro e w1 ⟨v1, rfl, o1, f1⟩
  obtain ⟨a1, c1, rfl, _⟩ := own_form o1
  have B1 := (unhide HBX).on f1
  have O1 : Orw byc 5 1 w1 (w.heap.size + 2) (.slice a1 bn c1) by_ := (orw_bv o1 hbl).base (unhide HBX).size
  have k5 := bx_cell B1.x 5 _ rfl
  have k6 := bx_cell B1.x 6 _ rfl
  have z5 := bx_thaw B1.x 5
  have HB1 := hide B1
  have HO1 := hide O1
  simp at k5 k6
  clear o1 f1 HC1 HBX e0 w0 B1 O1
  go_wp2_with fail
  have B2 := (unhide HB1).set 5 (.slice a1 bn c1)
  have O2 : Orw byc 5 1 _ (w.heap.size + 2) (.slice a1 bn c1) by_ := (unhide HO1).below fun j hj => bx2_far (W := w1) 5 (.slice a1 bn c1) j ((unhide HO1).lt j hj).1
  clear k5 k6 z5 HB1 HO1
  generalize w1.setCell ⟨w.heap.size, 5, none⟩ (.slice a1 bn c1) = w2 at *
  simp only [List.setIfInBounds_toArray, List.set_cons_succ, List.set_cons_zero] at B2
  have hh := unhide HH
  refine Calls.mono (slCloneH_any w2 ⟨ha, hn, hc⟩ hds (hh.ls.below B2.bel) hh.nil hh.small) ?_
  rintro e w3 ⟨v3, rfl, o3, f3⟩
  obtain ⟨a3, c3, rfl, _⟩ := o3.form
  have B3 := B2.on f3
  have O3 : Orw byc 5 1 w3 (w.heap.size + 2) (.slice a1 bn c1) by_ ∧ Orw hdc 93 4 w3 (w.heap.size + 2) (.slice a3 hds.length c3) hds := ⟨O2.below fun j hj => f3.block j (O2.lt j hj).2, o3.base B2.size⟩
  have k6 := bx_cell B3.x 6 _ rfl
  have k7 := bx_cell B3.x 7 _ rfl
  have z6 := bx_thaw B3.x 6
  have HB3 := hide B3
  have HO3 := hide O3
  simp at k6 k7
  clear o3 f3 B2 O2 B3 O3 HH hh
  go_wp2_with fail
  have B4 := (unhide HB3).set 6 (.slice a3 hds.length c3)
  have O4 : Orw byc 5 1 (w3.setCell ⟨w.heap.size, 6, none⟩ (.slice a3 hds.length c3)) (w.heap.size + 2) (.slice a1 bn c1) by_ ∧ Orw hdc 93 4 (w3.setCell ⟨w.heap.size, 6, none⟩ (.slice a3 hds.length c3)) (w.heap.size + 2) (.slice a3 hds.length c3) hds := ⟨(unhide HO3).1.below fun j hj => bx2_far (W := w3) 6 _ j ((unhide HO3).1.lt j hj).1, (unhide HO3).2.below fun j hj => bx2_far (W := w3) 6 _ j ((unhide HO3).2.lt j hj).1⟩
  clear k6 k7 z6 HB3 HO3
  generalize w3.setCell ⟨w.heap.size, 6, none⟩ (.slice a3 hds.length c3) = w4 at *
  simp only [List.setIfInBounds_toArray, List.set_cons_succ, List.set_cons_zero] at B4
  have hm := unhide HM
  refine Calls.mono (copiedP_any w4 ⟨ma, mn, mc⟩ rr (hm.mono B4.bel fun _ h => h.below B4.bel)) ?_
  rintro e w5 ⟨v5, rs', rfl, o5, hsm, own5, f5⟩
  obtain ⟨a5, c5, rfl, _⟩ := o5.form
  have B5 := B4.on f5
  have O5 : MdOwn w5 (w.heap.size + 2) ⟨⟨acc, name, type, ⟨st, lo, by_, hds, rr.map MpR.m⟩⟩, ⟨a1, bn, c1⟩, ⟨a3, hds.length, c3⟩, ⟨a5, rs'.length, c5⟩, rs'⟩ := ⟨O4.1.below fun j hj => f5.block j (O4.1.lt j hj).2, O4.2.below fun j hj => f5.block j (O4.2.lt j hj).2, o5.base B4.size, fun x hx => (own5 x hx).base B4.size, hsm.symm⟩
  have z7 := bx_thaw B5.x 7
  have k0 := bx_cell B5.x 0 _ rfl
  have k1 := bx_cell B5.x 1 _ rfl
  have k2 := bx_cell B5.x 2 _ rfl
  have k3 := bx_cell B5.x 3 _ rfl
  have k4 := bx_cell B5.x 4 _ rfl
  have k5 := bx_cell B5.x 5 _ rfl
  have k6 := bx_cell B5.x 6 _ rfl
  have k7 := bx_cell B5.x 7 _ rfl
  have j0 := bx_cell B5.y 0 _ rfl
  have j1 := bx_cell B5.y 1 _ rfl
  have j2 := bx_cell B5.y 2 _ rfl
  have j3 := bx_cell B5.y 3 _ rfl
  have j4 := bx_cell B5.y 4 _ rfl
  have j5 := bx_cell B5.y 5 _ rfl
  have j6 := bx_cell B5.y 6 _ rfl
  have j7 := bx_cell B5.y 7 _ rfl
  have y0 := bx_thaw B5.y 0
  have y1 := bx_thaw B5.y 1
  have y2 := bx_thaw B5.y 2
  have y3 := bx_thaw B5.y 3
  have y4 := bx_thaw B5.y 4
  have y5 := bx_thaw B5.y 5
  have y6 := bx_thaw B5.y 6
  have y7 := bx_thaw B5.y 7
  have HFIN := hide ((B5.set 7 (.slice a5 rs'.length c5)).ret [.int .i64 acc, .string s1, .string s2, .int .i64 st, .int .i64 lo, .slice a1 bn c1, .slice a3 hds.length c3, .slice a5 rs'.length c5] (by simp))
  have HO5 := hide O5
  simp at k0 k1 k2 k3 k4 k5 k6 k7 j0 j1 j2 j3 j4 j5 j6 j7
  clear o5 f5 hsm own5 B4 O4 B5 O5 HM hm
  have HFAR : Hid (∀ k, w.heap.size + 2 ≤ k → (w5.setCell ⟨w.heap.size, 7, none⟩ (.slice a5 rs'.length c5)).heap[k]? = w5.heap[k]?) := fun k hk => bx2_far (W := w5) 7 _ k hk
  go_wp2
  obtain ⟨r6, f6, k6'⟩ := unhide HFIN
  refine bodyPost_ret (v := .agg #[.int .i64 acc, .string s1, .string s2, .int .i64 st, .int .i64 lo, .slice a1 bn c1, .slice a3 hds.length c3, .slice a5 rs'.length c5]) ?_ rfl ⟨⟨⟨acc, name, type, ⟨st, lo, by_, hds, rr.map MpR.m⟩⟩, ⟨a1, bn, c1⟩, ⟨a3, hds.length, c3⟩, ⟨a5, rs'.length, c5⟩, rs'⟩, rfl, rfl, ?_, f6⟩
  · exact results_cell_row Tryz.results22 _ _ (w.heap.size + 1) 49 _ (0, 0) _ rfl r6 Tryz.underlying49 rfl sizeMethod8
  · exact ((unhide HO5).keepAll fun k X t hk _ _ => (k6' k hk).trans (unhide HFAR k hk)).base (by omega)
end Go.Proofs.YtdcoknnjgpdigaaGreatDoor

/- The landed word: spans in memory; made, isSize, fitsU, fitsS, left, next. -/
namespace Go.Proofs.YtdcoknnjgpdigaaGreatDoor
open Go.RowKit
set_option linter.unusedVariables false

/-- A span at block x, its bytes in block y. -/
structure Sp (T : TypeId) (w : World) (B x y c : Nat) (bs : List UInt8) (i : Nat) : Prop where
  hx : B ≤ x
  ne : x ≠ y
  blk : w.heap[x]? = some (.cells #[.slice (some ⟨y, 0, none⟩) bs.length c, .int .i64 (i : Int)] T (0, 0))
  row : w.ownsRow B 5 1 (.slice (some ⟨y, 0, none⟩) bs.length c) bs.length (bv bs)
theorem Sp.c0 {T : TypeId} {w : World} {B x y c : Nat} {bs : List UInt8} {i : Nat} (h : Sp T w B x y c bs i) : w.cell? ⟨x, 0, none⟩ = some (.slice (some ⟨y, 0, none⟩) bs.length c) := by rw [cell_of_row _ _ _ _ _ _ h.blk]; rfl
theorem Sp.c1 {T : TypeId} {w : World} {B x y c : Nat} {bs : List UInt8} {i : Nat} (h : Sp T w B x y c bs i) : w.cell? ⟨x, 1, none⟩ = some (.int .i64 (i : Int)) := by rw [cell_of_row _ _ _ _ _ _ h.blk]; rfl
theorem Sp.fz {T : TypeId} {w : World} {B x y c : Nat} {bs : List UInt8} {i : Nat} (h : Sp T w B x y c bs i) (j : Nat) : w.frozen? ⟨x, j, none⟩ = false := frozen_of_row _ _ _ _ _ h.blk
theorem Sp.xlt {T : TypeId} {w : World} {B x y c : Nat} {bs : List UInt8} {i : Nat} (h : Sp T w B x y c bs i) : x < w.heap.size := lt_of_heap h.blk
theorem Sp.y {T : TypeId} {w : World} {B x y c : Nat} {bs : List UInt8} {i : Nat} (h : Sp T w B x y c bs i) : B ≤ y ∧ y < w.heap.size := h.row.lt y rfl
theorem Sp.keep {T : TypeId} {w w' : World} {B x y c : Nat} {bs : List UInt8} {i : Nat} (h : Sp T w B x y c bs i) (hx : w'.heap[x]? = w.heap[x]?) (hy : w'.heap[y]? = w.heap[y]?) : Sp T w' B x y c bs i :=
  ⟨h.hx, h.ne, hx.trans h.blk, own_of_block h.row (fun k hk => by
    simp [Value.ownBlock] at hk
    subst hk
    exact hy)⟩
theorem Sp.below {T : TypeId} {w w' : World} {B x y c : Nat} {bs : List UInt8} {i : Nat} (h : Sp T w B x y c bs i) (f : Below w.heap.size w w') : Sp T w' B x y c bs i := h.keep (f.block x h.xlt) (f.block y h.y.2)
theorem Sp.base {T : TypeId} {w : World} {B B' x y c : Nat} {bs : List UInt8} {i : Nat} (h : Sp T w B x y c bs i) (hB : B' ≤ B) : Sp T w B' x y c bs i := ⟨Nat.le_trans hB h.hx, h.ne, h.blk, own_base h.row hB⟩
def RD (F : Nat → Prop) (w : World) (B x : Nat) (bs : List UInt8) (i : Nat) : Prop := ∃ y c, F = (fun k => k = x ∨ k = y) ∧ Sp 159 w B x y c bs i
def WR (F : Nat → Prop) (w : World) (B x : Nat) (bs : List UInt8) : Prop := ∃ y c, F = (fun k => k = x ∨ k = y) ∧ Sp 151 w B x y c bs bs.length

theorem emade_any (w : World) (B x y c : Nat) (bs : List UInt8) (i : Nat) (h : Sp 151 w B x y c bs i) :
    Calls Tryz.prog 93 #[.pointer (some ⟨x, 0, none⟩)] w fun e w' => e = .returned (.bool true) ∧ w' = w := by
  have c0 := h.c0
  have q : ∀ (w : World) (a : Option Addr) (n c : Nat), (binOp .neq 29 (.slice a n c) (.slice none 0 0)).run Tryz.prog w = .ok (.bool (!a.isNone)) w := fun w a n c => run_neq_slice_nil_any w _ _ a n c 0 0 Tryz.underlying29
  clear h
  go_enter Tryz.func93, Tryz.ntmps93
  go_wp2
  go_ret
  exact ⟨rfl, rfl⟩
set_option maxHeartbeats 1600000 in
theorem disSize_any (w : World) (k : Int) :
    Calls Tryz.prog 118 #[.int .i64 k] w fun e w' => e = .returned (.bool (decide (wide k))) ∧ w' = w := by
  by_cases h1 : k = 1
  · subst h1
    go_enter Tryz.func118, Tryz.ntmps118
    go_wp2
    go_ret
    exact ⟨rfl, rfl⟩
  by_cases h2 : k = 2
  · subst h2
    go_enter Tryz.func118, Tryz.ntmps118
    go_wp2
    go_ret
    exact ⟨rfl, rfl⟩
  by_cases h4 : k = 4
  · subst h4
    go_enter Tryz.func118, Tryz.ntmps118
    go_wp2
    go_ret
    exact ⟨rfl, rfl⟩
  by_cases h8 : k = 8
  · subst h8
    go_enter Tryz.func118, Tryz.ntmps118
    go_wp2
    go_ret
    exact ⟨rfl, rfl⟩
  · have b1 : (k == 1) = false := by simpa using h1
    have b2 : (k == 2) = false := by simpa using h2
    have b4 : (k == 4) = false := by simpa using h4
    have b8 : (k == 8) = false := by simpa using h8
    have hd : decide (wide k) = false := decide_eq_false (fun h => by rcases h with h | h | h | h <;> omega)
    rw [hd]
    clear hd
    go_enter Tryz.func118, Tryz.ntmps118
    go_wp2
    go_ret
    exact ⟨rfl, rfl⟩

set_option maxHeartbeats 1600000 in
theorem dfitsU_any (w : World) (k n : Int) (hw : wide k) (hn : -9223372036854775808 ≤ n ∧ n ≤ 9223372036854775807) :
    Calls Tryz.prog 87 #[.int .i64 k, .int .i64 n] w fun e w' => e = .returned (.bool (decide (fitsW k n false))) ∧ w' = w := by
  have key : ∀ D : Int, (fitsW k n false ↔ n / D = 0) → decide (fitsW k n false) = (n / D == 0) := fun D h => by
    rw [Bool.eq_iff_iff]; simpa using h
  rcases hw with rfl | rfl | rfl | rfl
  · rw [key 256 (by unfold fitsW; rw [if_neg (by decide), if_neg (by decide)]; constructor
                    · rintro ⟨_, h1, h2⟩; simp at h2; omega
                    · intro h; refine ⟨by unfold wide; omega, ?_⟩; simp; omega)]
    go_enter Tryz.func87, Tryz.ntmps87
    go_wp2
    go_ret
    exact ⟨rfl, rfl⟩
  · rw [key 65536 (by unfold fitsW; rw [if_neg (by decide), if_neg (by decide)]; constructor
                      · rintro ⟨_, h1, h2⟩; simp at h2; omega
                      · intro h; refine ⟨by unfold wide; omega, ?_⟩; simp; omega)]
    go_enter Tryz.func87, Tryz.ntmps87
    go_wp2
    go_ret
    exact ⟨rfl, rfl⟩
  · rw [key 4294967296 (by unfold fitsW; rw [if_neg (by decide), if_neg (by decide)]; constructor
                           · rintro ⟨_, h1, h2⟩; simp at h2; omega
                           · intro h; refine ⟨by unfold wide; omega, ?_⟩; simp; omega)]
    go_enter Tryz.func87, Tryz.ntmps87
    go_wp2
    go_ret
    exact ⟨rfl, rfl⟩
  · rw [key 18446744073709551616 (by unfold fitsW; rw [if_pos rfl]; constructor
                                     · rintro ⟨_, h⟩; simp at h; omega
                                     · intro h; refine ⟨by unfold wide; omega, ?_⟩; simp; omega)]
    go_enter Tryz.func87, Tryz.ntmps87
    go_wp2
    go_ret
    exact ⟨rfl, rfl⟩

theorem fitsS_key {n D : Int} {p : Prop} [Decidable p] (h : p ↔ (n / D = 0 ∨ n / D = -1)) : decide p = (n / D == 0 || n / D == -1) := by
  rw [Bool.eq_iff_iff]; simpa using h

end Go.Proofs.YtdcoknnjgpdigaaGreatDoor
