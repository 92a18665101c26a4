/- The landed class: copied. -/
import Derived.Test.YtjbodkedipnfoaaDoorJCkS

namespace Go.Proofs.YtjbodkedipnfoaaDoor
open Go.RowKit
set_option linter.unusedVariables false
set_option maxRecDepth 100000

theorem Orw.keep {α : Type} {cs : α → List Value} {e : TypeId} {sz : Nat} {w w' : World} {base : Nat} {v : Value} {l : List α} (h : Orw cs e sz w base v l) (f : ∀ k X, base ≤ k → w.heap[k]? = some (.cells X e) → w'.heap[k]? = w.heap[k]?) : Orw cs e sz w' base v l := by
  refine ⟨h.1, ?_⟩
  rcases h.2 with hv | ⟨g, cap, cur, hv, hb, hh, r⟩
  · exact .inl hv
  · exact .inr ⟨g, cap, cur, hv, hb, (f g cur hb hh).trans hh, r⟩
theorem MpOwn.keep {w w' : World} {base : Nat} {r : MpR} (h : MpOwn w base r) (f : ∀ k X, base ≤ k → w.heap[k]? = some (.cells X 51) → w'.heap[k]? = w.heap[k]?) : MpOwn w' base r := ⟨h.loc.keep f, h.stk.keep f⟩
theorem MpOwn.base {w : World} {base base' : Nat} {r : MpR} (h : MpOwn w base r) (hb : base' ≤ base) : MpOwn w base' r := ⟨h.loc.base hb, h.stk.base hb⟩
/-- Of a list in a row of one's own the first k are copied, the rest is as it came. -/
def Cop {α β : Type} (cs : α → List Value) (e : TypeId) (sz : Nat) (m : α → β) (own : World → Nat → α → Prop) (w : World) (v : Value) (rs : List α) (k : Nat) (W : World) : Prop :=
  ∃ dn : List α, dn.length = k ∧ dn.map m = (rs.take k).map m ∧ (∀ r ∈ dn, own W w.heap.size r) ∧ Orw cs e sz W w.heap.size v (dn ++ rs.drop k) ∧ Below w.heap.size w W
theorem Cop.start {α β : Type} {cs : α → List Value} {e : TypeId} {sz : Nat} {m : α → β} {own : World → Nat → α → Prop} {w W : World} {v : Value} {rs : List α} (f : Below w.heap.size w W) (h : Orw cs e sz W w.heap.size v rs) : Cop cs e sz m own w v rs 0 W := ⟨[], rfl, by simp, by simp, by simpa using h, f⟩

theorem stored_all {base g n cap sz : Nat} {e : TypeId} : ∀ (vs : List Value) (o : Nat) (W : World) (xs : List Value), W.ownsRow base e sz (.slice (some ⟨g, 0, none⟩) n cap) n xs → ∃ ys, (W.setCells g o vs).ownsRow base e sz (.slice (some ⟨g, 0, none⟩) n cap) n ys ∧ (∀ A P B, xs = A ++ (P ++ B) → A.length = o → P.length = vs.length → ys = A ++ (vs ++ B))
  | [], o, W, xs, h => ⟨xs, h, fun A P B e _ hp => by rw [e, List.eq_nil_of_length_eq_zero hp]⟩
  | u :: us, o, W, xs, h => by
    obtain ⟨ys, h1, h2⟩ := stored_all us (o + 1) (W.setCell ⟨g, o, none⟩ u) (xs.set o u) (h.stored o u).1
    refine ⟨ys, h1, fun A P B e ha hp => ?_⟩
    cases P with
    | nil => simp at hp
    | cons p P =>
      have := h2 (A ++ [u]) P B (by rw [e, ← ha]; simp) (by simp [ha]) (by simpa using hp)
      rw [this]
      simp
theorem heap_cells_other (g : Nat) : ∀ (vs : List Value) (o : Nat) (w : World) (k : Nat), k ≠ g → (w.setCells g o vs).heap[k]? = w.heap[k]?
  | [], _, _, _, _ => rfl
  | u :: us, o, w, k, h => (heap_cells_other g us (o + 1) _ k h).trans (Below.heap_setCell _ _ _ _ h)
theorem below_cells {B b : Nat} : ∀ (vs : List Value) (o : Nat) {w0 w : World}, Below B w0 w → B ≤ b → Below B w0 (w.setCells b o vs)
  | [], _, _, _, h, _ => h
  | v :: r, o, _, _, h, hb => below_cells r (o + 1) (h.setCell (p := ⟨b, o, none⟩) hb v) hb
/-- What holds of a copied record stays while rows of type e alone are written. -/
def Keeps {α : Type} (own : World → Nat → α → Prop) (e : TypeId) : Prop := ∀ W W' B r, own W B r → (∀ k X, B ≤ k → W.heap[k]? = some X → (∀ Y, X ≠ .cells Y e) → W'.heap[k]? = W.heap[k]?) → own W' B r
theorem mpOwn_keeps : Keeps MpOwn 49 := fun W W' B r h f => h.keep fun k X hk hX => f k _ hk hX (fun Y e => by injection e with _ e; cases e)
theorem Cop.row {α β : Type} {cs : α → List Value} {e t : TypeId} {sz by_ : Nat} {z : Value} (R : Rk cs e t sz by_ z) {m : α → β} {own : World → Nat → α → Prop} {w W : World} {a : Option Addr} {n c : Nat} {rs : List α} {k : Nat} {x : α} (h : Cop cs e sz m own w (.slice a n c) rs k W) (hx : rs[k]? = some x) :
    ∃ g cur, a = some ⟨g, 0, none⟩ ∧ w.heap.size ≤ g ∧ W.heap[g]? = some (.cells cur e) ∧ RowAt W g (k * sz) (cs x) := by
  obtain ⟨dn, hd, hm, ho, hr, hb⟩ := h
  have hk := (List.getElem?_eq_some_iff.1 hx).1
  have hxk : (dn ++ rs.drop k)[k]? = some x := by
    rw [List.getElem?_append_right (by omega), hd, Nat.sub_self, List.getElem?_drop, Nat.add_zero]
    exact hx
  have hL := hr.ls R
  rcases hr.2 with ⟨hv, hn⟩ | ⟨g, cap, cur, hv, hg, hh, _⟩
  · rw [List.length_append, List.length_drop] at hn
    omega
  · injection hv with ea en ec
    subst ea
    refine ⟨g, cur, rfl, hg, hh, fun q u hu => ?_⟩
    rcases hL.2 with h0 | ⟨b, o, e1, _, h1⟩
    · have := hL.1
      rw [List.length_append, List.length_drop] at this
      omega
    · injection e1 with e1
      injection e1 with e1 e2
      subst e1 e2
      have := h1 k x hxk q u hu
      rwa [Nat.zero_add] at this
theorem Cop.put {α β : Type} {cs : α → List Value} {e t : TypeId} {sz by_ : Nat} {z : Value} (R : Rk cs e t sz by_ z) {m : α → β} {own : World → Nat → α → Prop} (K : Keeps own e) (hbase : ∀ W B B' r, own W B r → B' ≤ B → own W B' r) {w W W4 : World} {g n c : Nat} {rs : List α} {k : Nat} {x y : α} (h : Cop cs e sz m own w (.slice (some ⟨g, 0, none⟩) n c) rs k W) (hx : rs[k]? = some x) (f : Below W.heap.size W W4) (ho : own W4 W.heap.size y) (hy : m y = m x) :
    Cop cs e sz m own w (.slice (some ⟨g, 0, none⟩) n c) rs (k + 1) (W4.setCells g (k * sz) (cs y)) := by
  have hrow := h.row R hx
  obtain ⟨dn, hd, hm, hown, hr, hb⟩ := h
  obtain ⟨g', cur, e1, hg, hh, _⟩ := hrow
  injection e1 with e1
  injection e1 with e1
  subst e1
  have hk := (List.getElem?_eq_some_iff.1 hx).1
  have hlt : g < W.heap.size := lt_of_heap hh
  have hh4 : W4.heap[g]? = some (.cells cur e) := (f.block g hlt).trans hh
  have hdrop : rs.drop k = x :: rs.drop (k + 1) := by
    rw [List.drop_eq_getElem_cons hk, (List.getElem?_eq_some_iff.1 hx).2]
  have hr4 : Orw cs e sz W4 w.heap.size (.slice (some ⟨g, 0, none⟩) n c) (dn ++ rs.drop k) := hr.below fun j hj => f.block j (hr.lt j hj).2
  have hln : (dn ++ rs.drop k).length = n := (hr4.ls R).1
  unfold Orw at hr4
  rw [hln] at hr4
  obtain ⟨ys, q1, q2⟩ := stored_all (cs y) (k * sz) W4 _ hr4
  have hys := q2 (dn.flatMap cs) (cs x) ((rs.drop (k + 1)).flatMap cs) (by rw [hdrop]; simp) (by rw [flatR_len R.len, hd]) (by rw [R.len, R.len])
  have hkeep : ∀ r B, own W4 B r → own (W4.setCells g (k * sz) (cs y)) B r := fun r B hw => K W4 _ B r hw fun j X hj hX hne => heap_cells_other g _ _ _ _ (fun e => hne cur (by rw [e, hh4] at hX; injection hX with hX; exact hX.symm))
  refine ⟨dn ++ [y], by simp [hd], ?_, fun r hrm => ?_, ?_, ?_⟩
  · rw [List.take_add_one, hx, List.map_append, List.map_append, hm]
    simp [hy]
  · rcases List.mem_append.1 hrm with h1 | h1
    · exact hkeep r _ (K W W4 _ r (hown r h1) fun j X hj hX _ => f.block j (lt_of_heap hX))
    · simp at h1
      subst h1
      exact hkeep _ _ (hbase _ _ _ _ ho hb.size)
  · have el : dn ++ [y] ++ rs.drop (k + 1) = dn ++ y :: rs.drop (k + 1) := by simp
    have en : (dn ++ y :: rs.drop (k + 1)).length = n := by rw [← hln, hdrop]; simp
    unfold Orw
    rw [el, en]
    have : (dn ++ y :: rs.drop (k + 1)).flatMap cs = ys := by rw [hys]; simp
    rw [this]
    exact q1
  · exact below_cells _ _ (hb.trans (f.mono hb.size)) hg
set_option maxHeartbeats 400000 in
theorem copiedP_any (w : World) (s : Sl) (rs : List MpR) (h : LIn 3 56 mpc (MpIn w) w s rs) :
    Calls Tryd.prog 28 #[s.v, .func (.func 29) #[] #[]] w fun e w' => ∃ v rs', e = .returned v ∧ Orw mpc 49 3 w' w.heap.size v rs' ∧ rs'.map MpR.m = rs.map MpR.m ∧ (∀ r ∈ rs', MpOwn w' w.heap.size r) ∧ Below w.heap.size w w' := by
  obtain ⟨a, n, c⟩ := s
  have hln := h.ls.1
  have hl0 : n ≤ 140737488355328 := by have := h.small; simp only at this; omega
  have HC := hide (slCloneP_any w ⟨a, n, c⟩ rs h.ls h.nil h.small)
  have HE : Hid (∀ x ∈ rs, MpIn w x) := hide h.each
  clear h
  unfold Sl.v at *
  simp only at HC hln ⊢
  go_enter Tryd.func28, Tryd.ntmps28
  go_wp2_with fail
  refine (unhide HC).mono ?_
  rintro e w1 ⟨v1, rfl, o1, f1⟩
  have CI := Cop.start (m := MpR.m) (own := MpOwn) f1 o1
  obtain ⟨a1, c1, rfl, g1⟩ := o1.form
  have HCI := hide CI
  have HG := hide g1
  clear CI o1 f1 HC g1
  go_wp2
  go_loopw [11] (fun i wr => ∃ k : Nat, k ≤ n ∧ i = .int .i64 k ∧ Cop mpc 49 3 MpR.m MpOwn w (.slice a1 rs.length c1) rs k wr) (fun i _ => n - (intOf i).toNat)
  case atStart => exact ⟨0, by omega, rfl, unhide HCI⟩
  case round =>
    obtain ⟨k, hk, rfl, hT⟩ := hrel
    by_cases hlt : k < n
    · have hlt1 : (k : Int) < (n : Int) := by omega
      have hk0 : (0 : Int) ≤ (k : Int) := by omega
      obtain ⟨x, hx1⟩ : ∃ x, rs[k]? = some x := ⟨_, List.getElem?_eq_getElem (by omega)⟩
      obtain ⟨g, cur, rfl, hg, hh, q⟩ := hT.row rkP hx1
      have hbel : Below w.heap.size w wr := by obtain ⟨_, _, _, _, _, hb⟩ := hT; exact hb
      obtain ⟨xm, ⟨la, ln, lc⟩, ⟨sa, sn, sc⟩⟩ := x
      have d0 := q.zero
      have d1 := q 1 _ rfl
      have d2 := q 2 _ rfl
      simp only [Sl.v] at d0 d1 d2
      have HP := hide (copyP_any (wr.alloc (.cells #[.int .i64 xm.at_, .slice la ln lc, .slice sa sn sc] 49)) _ (((unhide HE _ (List.mem_of_getElem? hx1)).below hbel).below ((Below.refl _ _).alloc (Nat.le_refl _) _)))
      have HT := hide hT
      have HH := hide hh
      have HX := hide hx1
      simp only [Sl.v] at HP
      clear q hT hh hx1 hbel hg
      go_wp2_with fail
      clear d0 d1 d2
      refine (unhide HP).mono ?_
      rintro e w4 ⟨y, hym, rfl, own4, f4⟩
      have f4' : Below wr.heap.size wr w4 := ((Below.refl _ _).alloc (Nat.le_refl _) _).trans (f4.mono (by simp))
      have hh4 := (f4'.block g (lt_of_heap (unhide HH))).trans (unhide HH)
      obtain ⟨_, _, e9, _, _, q⟩ := (unhide HT).row rkP (unhide HX)
      injection e9 with e9
      injection e9 with e9
      subst e9
      have q4 : RowAt w4 g (k * 3) (mpc _) := fun j u hu => (f4'.cell (p := ⟨g, k * 3 + j, none⟩) (lt_of_heap (unhide HH))).trans (q j u hu)
      have d0 := q4.zero
      have z0 := bx_thaw hh4 (k * 3)
      have d1 := q4 1 _ rfl
      have z1 := bx_thaw hh4 (k * 3 + 1)
      have d2 := q4 2 _ rfl
      have z2 := bx_thaw hh4 (k * 3 + 2)
      simp only [Sl.v] at d0 d1 d2
      have HPUT := hide ((unhide HT).put rkP mpOwn_keeps (fun _ _ _ _ h hb => h.base hb) (unhide HX) f4' (own4.base (by simp)) hym)
      obtain ⟨ym, ⟨la2, ln2, lc2⟩, ⟨sa2, sn2, sc2⟩⟩ := y
      simp only at hym
      subst hym
      clear q q4 hh4 f4 f4' own4 HP HT HH HX
      simp only [Sl.v, mpc] at HPUT
      go_wp2
      go_roundw
      case rel => exact ⟨k + 1, by omega, by go_num, unhide HPUT⟩
      case measure => simp [intOf]; omega
    · obtain rfl : k = n := by omega
      have HT := hide hT
      clear hT
      go_wp2
      go_ret
      obtain ⟨dn, hd, hm, hown, hr, hb⟩ := unhide HT
      rw [List.take_of_length_le (by omega)] at hm
      rw [List.drop_eq_nil_of_le (by omega), List.append_nil, hln] at hr
      exact ⟨_, dn, rfl, hr, hm, hown, hb⟩

end Go.Proofs.YtjbodkedipnfoaaDoor
