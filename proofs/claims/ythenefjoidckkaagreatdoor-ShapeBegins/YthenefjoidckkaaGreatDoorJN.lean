/- Joined: CkR CkS CkU. -/
import Derived.Test.YthenefjoidckkaaGreatDoorJL2
import Derived.Test.YthenefjoidckkaaGreatDoorJCkB
import Derived.Test.YthenefjoidckkaaGreatDoorJD
import Derived.Test.YthenefjoidckkaaGreatDoorJL6

/- The landed class: its lists cloned. -/
namespace Go.Proofs.YthenefjoidckkaaGreatDoor
open Go.RowKit
set_option linter.unusedVariables false
set_option maxRecDepth 100000

set_option maxHeartbeats 800000 in
theorem slCloneT_any (w : World) (s : Sl) (l : List Ty) (hL : Ls 2 tyc w s.a s.n l) (hnil : s.a = none → s.n = 0 ∧ s.c = 0) (hsm : s.n * 24 ≤ 140737488351232) :
    Calls Tryz.prog 37 #[s.v] w fun e w' => ∃ v, e = .returned v ∧ Orw tyc 52 2 w' w.heap.size v l ∧ Below w.heap.size w w' := by
  obtain ⟨a, n, c⟩ := s
  have q : ∀ (w : World) (a : Option Addr) (n c n' c' : Nat), (binOp .eql 30 (.slice a n c) (.slice none n' c')).run Tryz.prog w = .ok (.bool a.isNone) w := fun w a n c n' c' => Lib.run_eql_slice_nil w _ _ a n c n' c' Tryz.underlying30
  unfold Sl.v
  simp only at hL hnil hsm ⊢
  cases a with
  | none =>
    obtain ⟨rfl, rfl⟩ := hnil rfl
    have hl0 : l = [] := List.eq_nil_of_length_eq_zero hL.1
    subst hl0
    clear hL hnil
    go_enter Tryz.func37, Tryz.ntmps37
    go_wp2
    go_ret
    exact ⟨_, rfl, Orw.nil _ _ _ _ _, Below.refl _ _⟩
  | some ad =>
    have hown : Orw tyc 52 2 (w.alloc (.cells #[] 52)) w.heap.size (.slice (some ⟨w.heap.size, 0, none⟩) 0 0) [] := Orw.made _ _ _ w _ (Nat.le_refl _)
    have HB := hide (hL.below ((Below.refl _ _).alloc (Nat.le_refl _) (.cells #[] 52)))
    have HO0 := hide hown
    have hsm1 : ([] : List Ty).length + n ≤ 140737488355328 := by simp; omega
    have hsm2 : (([] : List Ty).length + n) * 24 ≤ 140737488355328 := by simp; omega
    have HS1 := hide hsm1
    have HS2 := hide hsm2
    clear hL hown hsm1 hsm2 hnil
    go_enter Tryz.func37, Tryz.ntmps37
    go_wp2_with (at_builtin; refine listR_append rkT rfl _ _ rfl w.heap.size _ [] rfl (unhide HO0) (some ad) n c l rfl (unhide HB) (fun e => by cases e) (unhide HS2) (unhide HS1) (by simp) ?_)
    intro v' w1 o1 g1
    try rw [List.nil_append] at o1
    have hb1 : Below w.heap.size w w1 := grown_below ((Below.refl _ _).alloc (Nat.le_refl _) _) (unhide HO0) g1
    obtain ⟨a1, c1, rfl, _⟩ := o1.form
    have HO := hide o1
    have HB1 := hide hb1
    clear o1 g1 hb1
    go_wp2
    go_ret
    exact ⟨_, rfl, unhide HO, unhide HB1⟩

end Go.Proofs.YthenefjoidckkaaGreatDoor

/- The landed class: copyOfMap. -/
namespace Go.Proofs.YthenefjoidckkaaGreatDoor
open Go.RowKit
set_option linter.unusedVariables false
set_option maxRecDepth 100000

/-- A map whose lists are rows of one's own. -/
structure MpOwn (w : World) (base : Nat) (r : MpR) : Prop where
  loc : Orw tyc 52 2 w base r.loc.v r.m.loc
  stk : Orw tyc 52 2 w base r.stk.v r.m.stk

theorem bx_cell {W : World} {p : Nat} {X : Array Value} {t : TypeId} (h : W.heap[p]? = some (.cells X t)) : ∀ (q : Nat) (v : Value), X[q]? = some v → W.cell? ⟨p, q, none⟩ = some v := fun q v hv => by unfold World.cell?; simp [h, hv]
theorem bx_thaw {W : World} {p : Nat} {X : Array Value} {t : TypeId} (h : W.heap[p]? = some (.cells X t)) (q : Nat) : W.frozen? ⟨p, q, none⟩ = false := frozen_of_row _ _ _ _ _ h
end Go.Proofs.YthenefjoidckkaaGreatDoor

/- The landed class: copied. -/
namespace Go.Proofs.YthenefjoidckkaaGreatDoor
open Go.RowKit
set_option linter.unusedVariables false
set_option maxRecDepth 100000

theorem Orw.keep {α : Type} {cs : α → List Value} {e : TypeId} {sz : Nat} {w w' : World} {base : Nat} {v : Value} {l : List α} (h : Orw cs e sz w base v l) (f : ∀ k X, base ≤ k → w.heap[k]? = some (.cells X e) → w'.heap[k]? = w.heap[k]?) : Orw cs e sz w' base v l := by
  refine ⟨h.1, ?_⟩
  rcases h.2 with hv | ⟨g, cap, cur, hv, hb, hh, r⟩
  · exact .inl hv
  · exact .inr ⟨g, cap, cur, hv, hb, (f g cur hb hh).trans hh, r⟩
theorem MpOwn.keep {w w' : World} {base : Nat} {r : MpR} (h : MpOwn w base r) (f : ∀ k X, base ≤ k → w.heap[k]? = some (.cells X 52) → w'.heap[k]? = w.heap[k]?) : MpOwn w' base r := ⟨h.loc.keep f, h.stk.keep f⟩
theorem MpOwn.base {w : World} {base base' : Nat} {r : MpR} (h : MpOwn w base r) (hb : base' ≤ base) : MpOwn w base' r := ⟨h.loc.base hb, h.stk.base hb⟩
/-- Of a list in a row of one's own the first k are copied, the rest is as it came. -/
def Cop {α β : Type} (cs : α → List Value) (e : TypeId) (sz : Nat) (m : α → β) (own : World → Nat → α → Prop) (w : World) (v : Value) (rs : List α) (k : Nat) (W : World) : Prop :=
  ∃ dn : List α, dn.length = k ∧ dn.map m = (rs.take k).map m ∧ (∀ r ∈ dn, own W w.heap.size r) ∧ Orw cs e sz W w.heap.size v (dn ++ rs.drop k) ∧ Below w.heap.size w W
theorem Cop.start {α β : Type} {cs : α → List Value} {e : TypeId} {sz : Nat} {m : α → β} {own : World → Nat → α → Prop} {w W : World} {v : Value} {rs : List α} (f : Below w.heap.size w W) (h : Orw cs e sz W w.heap.size v rs) : Cop cs e sz m own w v rs 0 W := ⟨[], rfl, by simp, by simp, by simpa using h, f⟩

theorem stored_all {base g n cap sz : Nat} {e : TypeId} : ∀ (vs : List Value) (o : Nat) (W : World) (xs : List Value), W.ownsRow base e sz (.slice (some ⟨g, 0, none⟩) n cap) n xs → ∃ ys, (W.setCells g o vs).ownsRow base e sz (.slice (some ⟨g, 0, none⟩) n cap) n ys ∧ (∀ A P B, xs = A ++ (P ++ B) → A.length = o → P.length = vs.length → ys = A ++ (vs ++ B))
  | [], o, W, xs, h => ⟨xs, h, fun A P B e _ hp => by rw [e, List.eq_nil_of_length_eq_zero hp]⟩
  | u :: us, o, W, xs, h => by
    obtain ⟨ys, h1, h2⟩ := stored_all us (o + 1) (W.setCell ⟨g, o, none⟩ u) (xs.set o u) (h.stored o u).1
    refine ⟨ys, h1, fun A P B e ha hp => ?_⟩
    cases P with
    | nil => simp at hp
    | cons p P =>
      have := h2 (A ++ [u]) P B (by rw [e, ← ha]; simp) (by simp [ha]) (by simpa using hp)
      rw [this]
      simp
theorem heap_cells_other (g : Nat) : ∀ (vs : List Value) (o : Nat) (w : World) (k : Nat), k ≠ g → (w.setCells g o vs).heap[k]? = w.heap[k]?
  | [], _, _, _, _ => rfl
  | u :: us, o, w, k, h => (heap_cells_other g us (o + 1) _ k h).trans (Below.heap_setCell _ _ _ _ h)
theorem below_cells {B b : Nat} : ∀ (vs : List Value) (o : Nat) {w0 w : World}, Below B w0 w → B ≤ b → Below B w0 (w.setCells b o vs)
  | [], _, _, _, h, _ => h
  | v :: r, o, _, _, h, hb => below_cells r (o + 1) (h.setCell (p := ⟨b, o, none⟩) hb v) hb
/-- What holds of a copied record stays while rows of type e alone are written. -/
def Keeps {α : Type} (own : World → Nat → α → Prop) (e : TypeId) : Prop := ∀ W W' B r, own W B r → (∀ k X, B ≤ k → W.heap[k]? = some X → (∀ Y, X ≠ .cells Y e) → W'.heap[k]? = W.heap[k]?) → own W' B r
theorem Cop.row {α β : Type} {cs : α → List Value} {e t : TypeId} {sz by_ : Nat} {z : Value} (R : Rk cs e t sz by_ z) {m : α → β} {own : World → Nat → α → Prop} {w W : World} {a : Option Addr} {n c : Nat} {rs : List α} {k : Nat} {x : α} (h : Cop cs e sz m own w (.slice a n c) rs k W) (hx : rs[k]? = some x) :
    ∃ g cur, a = some ⟨g, 0, none⟩ ∧ w.heap.size ≤ g ∧ W.heap[g]? = some (.cells cur e) ∧ RowAt W g (k * sz) (cs x) := by
  obtain ⟨dn, hd, hm, ho, hr, hb⟩ := h
  have hk := (List.getElem?_eq_some_iff.1 hx).1
  have hxk : (dn ++ rs.drop k)[k]? = some x := by
    rw [List.getElem?_append_right (by omega), hd, Nat.sub_self, List.getElem?_drop, Nat.add_zero]
    exact hx
  have hL := hr.ls R
  rcases hr.2 with ⟨hv, hn⟩ | ⟨g, cap, cur, hv, hg, hh, _⟩
  · rw [List.length_append, List.length_drop] at hn
    omega
  · injection hv with ea en ec
    subst ea
    refine ⟨g, cur, rfl, hg, hh, fun q u hu => ?_⟩
    rcases hL.2 with h0 | ⟨b, o, e1, _, h1⟩
    · have := hL.1
      rw [List.length_append, List.length_drop] at this
      omega
    · injection e1 with e1
      injection e1 with e1 e2
      subst e1 e2
      have := h1 k x hxk q u hu
      rwa [Nat.zero_add] at this
theorem Cop.put {α β : Type} {cs : α → List Value} {e t : TypeId} {sz by_ : Nat} {z : Value} (R : Rk cs e t sz by_ z) {m : α → β} {own : World → Nat → α → Prop} (K : Keeps own e) (hbase : ∀ W B B' r, own W B r → B' ≤ B → own W B' r) {w W W4 : World} {g n c : Nat} {rs : List α} {k : Nat} {x y : α} (h : Cop cs e sz m own w (.slice (some ⟨g, 0, none⟩) n c) rs k W) (hx : rs[k]? = some x) (f : Below W.heap.size W W4) (ho : own W4 W.heap.size y) (hy : m y = m x) :
    Cop cs e sz m own w (.slice (some ⟨g, 0, none⟩) n c) rs (k + 1) (W4.setCells g (k * sz) (cs y)) := by
  have hrow := h.row R hx
  obtain ⟨dn, hd, hm, hown, hr, hb⟩ := h
  obtain ⟨g', cur, e1, hg, hh, _⟩ := hrow
  injection e1 with e1
  injection e1 with e1
  subst e1
  have hk := (List.getElem?_eq_some_iff.1 hx).1
  have hlt : g < W.heap.size := lt_of_heap hh
  have hh4 : W4.heap[g]? = some (.cells cur e) := (f.block g hlt).trans hh
  have hdrop : rs.drop k = x :: rs.drop (k + 1) := by
    rw [List.drop_eq_getElem_cons hk, (List.getElem?_eq_some_iff.1 hx).2]
  have hr4 : Orw cs e sz W4 w.heap.size (.slice (some ⟨g, 0, none⟩) n c) (dn ++ rs.drop k) := hr.below fun j hj => f.block j (hr.lt j hj).2
  have hln : (dn ++ rs.drop k).length = n := (hr4.ls R).1
  unfold Orw at hr4
  rw [hln] at hr4
  obtain ⟨ys, q1, q2⟩ := stored_all (cs y) (k * sz) W4 _ hr4
  have hys := q2 (dn.flatMap cs) (cs x) ((rs.drop (k + 1)).flatMap cs) (by rw [hdrop]; simp) (by rw [flatR_len R.len, hd]) (by rw [R.len, R.len])
  have hkeep : ∀ r B, own W4 B r → own (W4.setCells g (k * sz) (cs y)) B r := fun r B hw => K W4 _ B r hw fun j X hj hX hne => heap_cells_other g _ _ _ _ (fun e => hne cur (by rw [e, hh4] at hX; injection hX with hX; exact hX.symm))
  refine ⟨dn ++ [y], by simp [hd], ?_, fun r hrm => ?_, ?_, ?_⟩
  · rw [List.take_add_one, hx, List.map_append, List.map_append, hm]
    simp [hy]
  · rcases List.mem_append.1 hrm with h1 | h1
    · exact hkeep r _ (K W W4 _ r (hown r h1) fun j X hj hX _ => f.block j (lt_of_heap hX))
    · simp at h1
      subst h1
      exact hkeep _ _ (hbase _ _ _ _ ho hb.size)
  · have el : dn ++ [y] ++ rs.drop (k + 1) = dn ++ y :: rs.drop (k + 1) := by simp
    have en : (dn ++ y :: rs.drop (k + 1)).length = n := by rw [← hln, hdrop]; simp
    unfold Orw
    rw [el, en]
    have : (dn ++ y :: rs.drop (k + 1)).flatMap cs = ys := by rw [hys]; simp
    rw [this]
    exact q1
  · exact below_cells _ _ (hb.trans (f.mono hb.size)) hg
end Go.Proofs.YthenefjoidckkaaGreatDoor
