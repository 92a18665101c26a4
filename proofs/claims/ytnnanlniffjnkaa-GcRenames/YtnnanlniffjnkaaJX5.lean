/- Joined: WdU CkR ClE ClF CkS CkU CkX TxH CpK. -/
import Derived.Test.YtnnanlniffjnkaaJX4
import Derived.Test.YtnnanlniffjnkaaJX3
import Derived.Deep.RegionHeld3
import Derived.ArgAppend
import Derived.Laws.IdiomCopy

/- The document's own writing of numbers: Put. -/
namespace Go.Proofs.Ytnnanlniffjnkaa
open Go.RowKit
set_option linter.unusedVariables false

theorem flat_len (k : Int) (zs : List Int) : (zs.flatMap (bytesW k)).length = zs.length * k.toNat := by
  induction zs with
  | nil => simp
  | cons z zs ih => rw [List.flatMap_cons, List.length_append, ih, bytesW_len, List.length_cons, Nat.add_mul]; omega
theorem putW_ok {bs : List UInt8} {k : Int} {sg : Bool} {zs : List Int} (hw : wide k) (h : ∀ z ∈ zs, fitsW k z sg) : putW bs k sg zs = (bs ++ zs.flatMap (bytesW k), 0) := if_pos ⟨hw, h⟩
theorem putW_no {bs : List UInt8} {k : Int} {sg : Bool} {zs : List Int} (h : ¬ (wide k ∧ ∀ z ∈ zs, fitsW k z sg)) : putW bs k sg zs = (bs, 2) := if_neg h
/-- What Put leaves. -/
def PutR (w : World) (a : Option Addr) (n c : Nat) (R : List UInt8 × Int) (e : Ending) (w' : World) : Prop :=
  ∃ a' n' c', e = .returned (.tuple #[.slice a' n' c', .int .i64 R.2]) ∧ (R.2 = 0 → w'.ownsRow w.heap.size 5 1 (.slice a' n' c') n' (bv R.1)) ∧ (R.2 ≠ 0 → a' = a ∧ n' = n ∧ c' = c) ∧ Below w.heap.size w w'
/-- Between the rounds of Put. -/
structure PU (w : World) (bs : List UInt8) (k : Int) (sg : Bool) (zs : List Int) (i : Nat) (u : Value) (wr : World) : Prop where
  own : wr.ownsRow w.heap.size 5 1 u (bs.length + i * k.toNat) (bv (bs ++ (zs.take i).flatMap (bytesW k)))
  fit : ∀ z ∈ zs.take i, fitsW k z sg
  bel : Below w.heap.size w wr
theorem PU.next {w wr w1 w2 : World} {bs : List UInt8} {k : Int} {sg : Bool} {zs : List Int} {i : Nat} {u u' : Value} {z : Int} (h : PU w bs k sg zs i u wr) (hz : zs[i]? = some z) (hf : fitsW k z sg) (f1 : Below wr.heap.size wr w1) (m : Nat) (hm : m = k.toNat) (ho : w2.ownsRow w.heap.size 5 1 u' (bs.length + i * k.toNat + m) (bv (bs ++ (zs.take i).flatMap (bytesW k) ++ bytesW k z))) (hg : w1.grownBy w2 u.ownBlock) : PU w bs k sg zs (i + 1) u' w2 := by
  have ht : zs.take (i + 1) = zs.take i ++ [z] := by rw [List.take_add_one, hz]; rfl
  refine ⟨?_, ?_, ?_⟩
  · rw [ht, List.flatMap_append, ← List.append_assoc, List.flatMap_singleton, Nat.add_mul, Nat.one_mul, ← Nat.add_assoc, ← hm]
    rw [← hm] at ho
    exact ho
  · intro y hy
    rw [ht, List.mem_append] at hy
    rcases hy with hy | hy
    · exact h.fit y hy
    · simp at hy
      subst hy
      exact hf
  · exact (h.bel.trans (f1.mono h.bel.size)).grown hg (Nat.le_trans h.bel.size f1.size) (fun x hx => (h.own.lt x hx).1)

end Go.Proofs.Ytnnanlniffjnkaa

/- The landed class: its lists cloned. -/
namespace Go.Proofs.Ytnnanlniffjnkaa
open Go.RowKit
set_option linter.unusedVariables false
set_option maxRecDepth 100000

theorem ls_of_es {w : World} {a : Option Addr} {n : Nat} {l : List Ent} (h : Es w a n l) : Ls 5 ec w a n l := by
  refine ⟨h.1, ?_⟩
  rcases h.2 with h0 | ⟨b, o, e, hE⟩
  · exact .inl h0
  · by_cases hn : n = 0
    · exact .inl hn
    · have key : ∀ (k : Nat) (x : Ent), l[k]? = some x → ∀ (q : Nat) (u : Value), (ec x)[q]? = some u → w.cell? ⟨b, o + k * 5 + q, none⟩ = some u := fun k x hx q u hu => by
        have := hE ⟨b, o, none⟩ rfl (k * 5 + q) u (flatR_at (cs := ec) (fun _ => rfl) l k x hx q u hu)
        rw [Addr.add_mid, ← Nat.add_assoc] at this
        exact this
      obtain ⟨x, hx⟩ : ∃ x, l[0]? = some x := ⟨_, List.getElem?_eq_getElem (by have := h.1; omega)⟩
      have hlt := World.block_lt_of_cell? _ _ (key 0 x hx 0 _ rfl)
      exact .inr ⟨b, o, e, hlt, key⟩
theorem es_of_ls {w : World} {a : Option Addr} {n : Nat} {l : List Ent} (h : Ls 5 ec w a n l) : Es w a n l := by
  refine ⟨h.1, ?_⟩
  rcases h.2 with h0 | ⟨b, o, e, _, hE⟩
  · exact .inl h0
  · refine .inr ⟨b, o, e, fun ad ead j u hu => ?_⟩
    injection ead with ead
    subst ead
    obtain ⟨k, x, q, h1, h2, rfl⟩ := flatR_of (cs := ec) (sz := 5) (fun _ => rfl) (by decide) l j u hu
    rw [Addr.add_mid, ← Nat.add_assoc]
    exact hE k x h1 q u h2

end Go.Proofs.Ytnnanlniffjnkaa

/- Classes held against one another: SameMaps, SameClass. -/
namespace Go.Proofs.Ytnnanlniffjnkaa
open Go.RowKit
set_option linter.unusedVariables false
set_option maxRecDepth 100000

end Go.Proofs.Ytnnanlniffjnkaa

/- Classes held against one another: SameClass. -/
namespace Go.Proofs.Ytnnanlniffjnkaa
open Go.RowKit
set_option linter.unusedVariables false
set_option maxRecDepth 100000

/-- A call that answers true in every world behind w. -/
def TrueCall (w : World) (f : FuncId) (v1 v2 : Value) : Prop := ∀ W, Below w.heap.size w W → Calls Try.prog f #[v1, v2] W fun e w' => e = .returned (.bool true) ∧ Below w.heap.size w w'
theorem trueCall_mk {w : World} {f : FuncId} {v1 v2 : Value} (h : ∀ W, Below w.heap.size w W → Calls Try.prog f #[v1, v2] W fun e w' => e = .returned (.bool true) ∧ Below W.heap.size W w') : TrueCall w f v1 v2 := fun W f =>
  (h W f).mono (by
    rintro e w' ⟨rfl, f'⟩
    exact ⟨rfl, f.trans (f'.mono f.size)⟩)

/-- Two structs that stand in memory as locals. -/
theorem two_locals (w : World) (X Y : Array Value) (t : TypeId) : ∃ w0, (w.alloc (.cells X t)).alloc (.cells Y t) = w0 ∧ Below w.heap.size w w0 ∧ ∀ W, Below w0.heap.size w0 W → (∀ q v, X[q]? = some v → W.cell? ⟨w.heap.size, q, none⟩ = some v) ∧ (∀ q v, Y[q]? = some v → W.cell? ⟨w.heap.size + 1, q, none⟩ = some v) := by
  refine ⟨_, rfl, ((Below.refl _ _).alloc (Nat.le_refl _) _).alloc (by simp) _, fun W f => ?_⟩
  have s0 : (w.alloc (.cells X t)).heap.size = w.heap.size + 1 := by simp
  have s1 : ((w.alloc (.cells X t)).alloc (.cells Y t)).heap.size = w.heap.size + 2 := by simp
  have b0 : ((w.alloc (.cells X t)).alloc (.cells Y t)).heap[w.heap.size]? = some (.cells X t) := by
    rw [Below.heap_alloc _ _ _ (by omega)]
    exact heap_alloc_new w _
  have b1 : ((w.alloc (.cells X t)).alloc (.cells Y t)).heap[w.heap.size + 1]? = some (.cells Y t) := by
    have := heap_alloc_new (w.alloc (.cells X t)) (.cells Y t)
    rwa [s0] at this
  have c0 := (f.block w.heap.size (by omega)).trans b0
  have c1 := (f.block (w.heap.size + 1) (by omega)).trans b1
  exact ⟨fun q v h => by unfold World.cell?; simp [c0, h], fun q v h => by unfold World.cell?; simp [c1, h]⟩

theorem cell_up1 {w : World} {p : Addr} {v : Value} (h : w.cell? p = some v) (X : Obj) : (w.alloc X).cell? p = some v :=
  (((Below.refl w.heap.size w).alloc (Nat.le_refl _) X).cell (World.block_lt_of_cell? w _ h)).trans h
theorem cell_up2 {w : World} {p : Addr} {v : Value} (h : w.cell? p = some v) (X Y : Obj) : ((w.alloc X).alloc Y).cell? p = some v := cell_up1 (cell_up1 h X) Y

theorem two_locals_drew (w : World) (X Y : Array Value) (t : TypeId) : ∃ w0, ((w.alloc (.cells X t)).alloc (.cells Y t)).drew = w0 ∧ Below w.heap.size w w0 ∧ ∀ W, Below w0.heap.size w0 W → (∀ q v, X[q]? = some v → W.cell? ⟨w.heap.size, q, none⟩ = some v) ∧ (∀ q v, Y[q]? = some v → W.cell? ⟨w.heap.size + 1, q, none⟩ = some v) := by
  obtain ⟨w1, e1, f1, K1⟩ := two_locals w X Y t
  exact ⟨_, rfl, by rw [e1]; exact f1.drew, fun W f => K1 W (by rw [e1] at f; exact (Below.drew (Below.refl _ _)).trans f)⟩

end Go.Proofs.Ytnnanlniffjnkaa

/- The landed class: copyOfMap. -/
namespace Go.Proofs.Ytnnanlniffjnkaa
open Go.RowKit
set_option linter.unusedVariables false
set_option maxRecDepth 100000

theorem bx_cell {W : World} {p : Nat} {X : Array Value} {t : TypeId} (h : W.heap[p]? = some (.cells X t)) : ∀ (q : Nat) (v : Value), X[q]? = some v → W.cell? ⟨p, q, none⟩ = some v := fun q v hv => by unfold World.cell?; simp [h, hv]
theorem bx_set3 {W : World} {A : Nat} {T : TypeId} {a0 a1 a2 : Value} (c0 c1 c2 : Value) (h : W.heap[A]? = some (.cells #[a0, a1, a2] T)) : (((W.setCell ⟨A, 0, none⟩ c0).setCell ⟨A, 1, none⟩ c1).setCell ⟨A, 2, none⟩ c2).heap[A]? = some (.cells #[c0, c1, c2] T) := by
  have h0 := heap_setCell_same W A 0 _ _ c0 h
  have h1 := heap_setCell_same _ A 1 _ _ c1 h0
  exact heap_setCell_same _ A 2 _ _ c2 h1
theorem bx_thaw {W : World} {p : Nat} {X : Array Value} {t : TypeId} (h : W.heap[p]? = some (.cells X t)) (q : Nat) : W.frozen? ⟨p, q, none⟩ = false := frozen_of_row _ _ _ _ _ h
end Go.Proofs.Ytnnanlniffjnkaa

/- The landed class: copied. -/
namespace Go.Proofs.Ytnnanlniffjnkaa
open Go.RowKit
set_option linter.unusedVariables false
set_option maxRecDepth 100000

theorem Orw.keep {α : Type} {cs : α → List Value} {e : TypeId} {sz : Nat} {w w' : World} {base : Nat} {v : Value} {l : List α} (h : Orw cs e sz w base v l) (f : ∀ k X, base ≤ k → w.heap[k]? = some (.cells X e) → w'.heap[k]? = w.heap[k]?) : Orw cs e sz w' base v l := by
  refine ⟨h.1, ?_⟩
  rcases h.2 with hv | ⟨g, cap, cur, hv, hb, hh, r⟩
  · exact .inl hv
  · exact .inr ⟨g, cap, cur, hv, hb, (f g cur hb hh).trans hh, r⟩
/-- Of a list in a row of one's own the first k are copied, the rest is as it came. -/
def Cop {α β : Type} (cs : α → List Value) (e : TypeId) (sz : Nat) (m : α → β) (own : World → Nat → α → Prop) (w : World) (v : Value) (rs : List α) (k : Nat) (W : World) : Prop :=
  ∃ dn : List α, dn.length = k ∧ dn.map m = (rs.take k).map m ∧ (∀ r ∈ dn, own W w.heap.size r) ∧ Orw cs e sz W w.heap.size v (dn ++ rs.drop k) ∧ Below w.heap.size w W
theorem Cop.start {α β : Type} {cs : α → List Value} {e : TypeId} {sz : Nat} {m : α → β} {own : World → Nat → α → Prop} {w W : World} {v : Value} {rs : List α} (f : Below w.heap.size w W) (h : Orw cs e sz W w.heap.size v rs) : Cop cs e sz m own w v rs 0 W := ⟨[], rfl, by simp, by simp, by simpa using h, f⟩

theorem stored_all {base g n cap sz : Nat} {e : TypeId} : ∀ (vs : List Value) (o : Nat) (W : World) (xs : List Value), W.ownsRow base e sz (.slice (some ⟨g, 0, none⟩) n cap) n xs → ∃ ys, (W.setCells g o vs).ownsRow base e sz (.slice (some ⟨g, 0, none⟩) n cap) n ys ∧ (∀ A P B, xs = A ++ (P ++ B) → A.length = o → P.length = vs.length → ys = A ++ (vs ++ B))
  | [], o, W, xs, h => ⟨xs, h, fun A P B e _ hp => by rw [e, List.eq_nil_of_length_eq_zero hp]⟩
  | u :: us, o, W, xs, h => by
    obtain ⟨ys, h1, h2⟩ := stored_all us (o + 1) (W.setCell ⟨g, o, none⟩ u) (xs.set o u) (h.stored o u).1
    refine ⟨ys, h1, fun A P B e ha hp => ?_⟩
    cases P with
    | nil => simp at hp
    | cons p P =>
      have := h2 (A ++ [u]) P B (by rw [e, ← ha]; simp) (by simp [ha]) (by simpa using hp)
      rw [this]
      simp
theorem heap_cells_other (g : Nat) : ∀ (vs : List Value) (o : Nat) (w : World) (k : Nat), k ≠ g → (w.setCells g o vs).heap[k]? = w.heap[k]?
  | [], _, _, _, _ => rfl
  | u :: us, o, w, k, h => (heap_cells_other g us (o + 1) _ k h).trans (Below.heap_setCell _ _ _ _ h)
theorem below_cells {B b : Nat} : ∀ (vs : List Value) (o : Nat) {w0 w : World}, Below B w0 w → B ≤ b → Below B w0 (w.setCells b o vs)
  | [], _, _, _, h, _ => h
  | v :: r, o, _, _, h, hb => below_cells r (o + 1) (h.setCell (p := ⟨b, o, none⟩) hb v) hb
/-- What holds of a copied record stays while rows of type e alone are written. -/
def Keeps {α : Type} (own : World → Nat → α → Prop) (e : TypeId) : Prop := ∀ W W' B r, own W B r → (∀ k X, B ≤ k → W.heap[k]? = some X → (∀ Y, X ≠ .cells Y e) → W'.heap[k]? = W.heap[k]?) → own W' B r
theorem Cop.row {α β : Type} {cs : α → List Value} {e t : TypeId} {sz by_ : Nat} {z : Value} (R : Rk cs e t sz by_ z) {m : α → β} {own : World → Nat → α → Prop} {w W : World} {a : Option Addr} {n c : Nat} {rs : List α} {k : Nat} {x : α} (h : Cop cs e sz m own w (.slice a n c) rs k W) (hx : rs[k]? = some x) :
    ∃ g cur, a = some ⟨g, 0, none⟩ ∧ w.heap.size ≤ g ∧ W.heap[g]? = some (.cells cur e) ∧ RowAt W g (k * sz) (cs x) := by
  obtain ⟨dn, hd, hm, ho, hr, hb⟩ := h
  have hk := (List.getElem?_eq_some_iff.1 hx).1
  have hxk : (dn ++ rs.drop k)[k]? = some x := by
    rw [List.getElem?_append_right (by omega), hd, Nat.sub_self, List.getElem?_drop, Nat.add_zero]
    exact hx
  have hL := hr.ls R
  rcases hr.2 with ⟨hv, hn⟩ | ⟨g, cap, cur, hv, hg, hh, _⟩
  · rw [List.length_append, List.length_drop] at hn
    omega
  · injection hv with ea en ec
    subst ea
    refine ⟨g, cur, rfl, hg, hh, fun q u hu => ?_⟩
    rcases hL.2 with h0 | ⟨b, o, e1, _, h1⟩
    · have := hL.1
      rw [List.length_append, List.length_drop] at this
      omega
    · injection e1 with e1
      injection e1 with e1 e2
      subst e1 e2
      have := h1 k x hxk q u hu
      rwa [Nat.zero_add] at this
theorem Cop.put {α β : Type} {cs : α → List Value} {e t : TypeId} {sz by_ : Nat} {z : Value} (R : Rk cs e t sz by_ z) {m : α → β} {own : World → Nat → α → Prop} (K : Keeps own e) (hbase : ∀ W B B' r, own W B r → B' ≤ B → own W B' r) {w W W4 : World} {g n c : Nat} {rs : List α} {k : Nat} {x y : α} (h : Cop cs e sz m own w (.slice (some ⟨g, 0, none⟩) n c) rs k W) (hx : rs[k]? = some x) (f : Below W.heap.size W W4) (ho : own W4 W.heap.size y) (hy : m y = m x) :
    Cop cs e sz m own w (.slice (some ⟨g, 0, none⟩) n c) rs (k + 1) (W4.setCells g (k * sz) (cs y)) := by
  have hrow := h.row R hx
  obtain ⟨dn, hd, hm, hown, hr, hb⟩ := h
  obtain ⟨g', cur, e1, hg, hh, _⟩ := hrow
  injection e1 with e1
  injection e1 with e1
  subst e1
  have hk := (List.getElem?_eq_some_iff.1 hx).1
  have hlt : g < W.heap.size := lt_of_heap hh
  have hh4 : W4.heap[g]? = some (.cells cur e) := (f.block g hlt).trans hh
  have hdrop : rs.drop k = x :: rs.drop (k + 1) := by
    rw [List.drop_eq_getElem_cons hk, (List.getElem?_eq_some_iff.1 hx).2]
  have hr4 : Orw cs e sz W4 w.heap.size (.slice (some ⟨g, 0, none⟩) n c) (dn ++ rs.drop k) := hr.below fun j hj => f.block j (hr.lt j hj).2
  have hln : (dn ++ rs.drop k).length = n := (hr4.ls R).1
  unfold Orw at hr4
  rw [hln] at hr4
  obtain ⟨ys, q1, q2⟩ := stored_all (cs y) (k * sz) W4 _ hr4
  have hys := q2 (dn.flatMap cs) (cs x) ((rs.drop (k + 1)).flatMap cs) (by rw [hdrop]; simp) (by rw [flatR_len R.len, hd]) (by rw [R.len, R.len])
  have hkeep : ∀ r B, own W4 B r → own (W4.setCells g (k * sz) (cs y)) B r := fun r B hw => K W4 _ B r hw fun j X hj hX hne => heap_cells_other g _ _ _ _ (fun e => hne cur (by rw [e, hh4] at hX; injection hX with hX; exact hX.symm))
  refine ⟨dn ++ [y], by simp [hd], ?_, fun r hrm => ?_, ?_, ?_⟩
  · rw [List.take_add_one, hx, List.map_append, List.map_append, hm]
    simp [hy]
  · rcases List.mem_append.1 hrm with h1 | h1
    · exact hkeep r _ (K W W4 _ r (hown r h1) fun j X hj hX _ => f.block j (lt_of_heap hX))
    · simp at h1
      subst h1
      exact hkeep _ _ (hbase _ _ _ _ ho hb.size)
  · have el : dn ++ [y] ++ rs.drop (k + 1) = dn ++ y :: rs.drop (k + 1) := by simp
    have en : (dn ++ y :: rs.drop (k + 1)).length = n := by rw [← hln, hdrop]; simp
    unfold Orw
    rw [el, en]
    have : (dn ++ y :: rs.drop (k + 1)).flatMap cs = ys := by rw [hys]; simp
    rw [this]
    exact q1
  · exact below_cells _ _ (hb.trans (f.mono hb.size)) hg
end Go.Proofs.Ytnnanlniffjnkaa

/- The landed class: copyOfMethod. -/
namespace Go.Proofs.Ytnnanlniffjnkaa
open Go.RowKit
set_option linter.unusedVariables false
set_option maxRecDepth 100000

def byc (b : UInt8) : List Value := [.int .u8 (b.toNat : Int)]
theorem byc_bv : ∀ l : List UInt8, l.flatMap byc = bv l
  | [] => rfl
  | b :: l => by rw [List.flatMap_cons, byc_bv l]; rfl
theorem orw_bv {w : World} {B n : Nat} {v : Value} {l : List UInt8} (h : w.ownsRow B 5 1 v n (bv l)) (hn : l.length = n) : Orw byc 5 1 w B v l := by
  unfold Orw
  rw [byc_bv, hn]
  exact h
/-- A struct that stands in memory as a local, and the answer's place behind it. -/
structure Bx2 (w : World) (t : TypeId) (X Y : Array Value) (W : World) : Prop where
  x : W.heap[w.heap.size]? = some (.cells X t)
  y : W.heap[w.heap.size + 1]? = some (.cells Y t)
  bel : Below w.heap.size w W
  size : w.heap.size + 2 ≤ W.heap.size
theorem Bx2.start (w : World) (t : TypeId) (X Y : Array Value) : Bx2 w t X Y ((w.alloc (.cells X t)).alloc (.cells Y t)) := by
  refine ⟨?_, ?_, ((Below.refl _ _).alloc (Nat.le_refl _) _).alloc (by simp) _, by simp⟩
  · rw [Below.heap_alloc _ _ _ (by simp)]
    exact heap_alloc_new w _
  · have := heap_alloc_new (w.alloc (.cells X t)) (.cells Y t)
    simpa using this
theorem Bx2.on {w : World} {t : TypeId} {X Y : Array Value} {W W' : World} (h : Bx2 w t X Y W) (f : Below W.heap.size W W') : Bx2 w t X Y W' :=
  ⟨(f.block _ (by have := h.size; omega)).trans h.x, (f.block _ (by have := h.size; omega)).trans h.y, h.bel.trans (f.mono (by have := h.size; omega)), Nat.le_trans h.size f.size⟩
theorem Bx2.set {w : World} {t : TypeId} {X Y : Array Value} {W : World} (h : Bx2 w t X Y W) (k : Nat) (v : Value) : Bx2 w t (X.setIfInBounds k v) Y (W.setCell ⟨w.heap.size, k, none⟩ v) :=
  ⟨heap_setCell_same W _ k _ _ _ h.x, (Below.heap_setCell _ _ _ _ (by simp)).trans h.y, h.bel.setCell (Nat.le_refl _) _, by have := h.size; simpa [World.setCell] using this⟩
theorem bx2_far {w W : World} (k : Nat) (v : Value) (j : Nat) (hj : w.heap.size + 2 ≤ j) : (W.setCell ⟨w.heap.size, k, none⟩ v).heap[j]? = W.heap[j]? := Below.heap_setCell _ _ _ _ (by simp only; omega)
theorem heap_cells_same (g : Nat) (t : TypeId) : ∀ (vs : List Value) (W : World) (A P : List Value), P.length = vs.length → W.heap[g]? = some (.cells (A ++ P).toArray t) → (W.setCells g A.length vs).heap[g]? = some (.cells (A ++ vs).toArray t)
  | [], W, A, P, hp, h => by
    rw [List.eq_nil_of_length_eq_zero hp] at h
    exact h
  | u :: us, W, A, [], hp, h => by simp at hp
  | u :: us, W, A, p :: P, hp, h => by
    have h1 := heap_setCell_same W g A.length _ _ u h
    have := heap_cells_same g t us (W.setCell ⟨g, A.length, none⟩ u) (A ++ [u]) P (by simpa using hp) (by rw [h1]; simp)
    simpa [World.setCells] using this
theorem Bx2.ret {w : World} {t : TypeId} {X Y : Array Value} {W : World} (h : Bx2 w t X Y W) (vs : List Value) (hv : Y.size = vs.length) : (W.setCells (w.heap.size + 1) 0 vs).heap[w.heap.size + 1]? = some (.cells vs.toArray t) ∧ Below w.heap.size w (W.setCells (w.heap.size + 1) 0 vs) ∧ ∀ k, w.heap.size + 2 ≤ k → (W.setCells (w.heap.size + 1) 0 vs).heap[k]? = W.heap[k]? :=
  ⟨heap_cells_same _ t vs W [] Y.toList (by simpa using hv) (by simpa using h.y), below_cells _ _ h.bel (by omega), fun k hk => heap_cells_other _ _ _ _ _ (by omega)⟩
end Go.Proofs.Ytnnanlniffjnkaa

/- An append to a new, empty slice: nothing that was there changes. -/
namespace Go.Proofs.Ytnnanlniffjnkaa
open Go.RowKit
set_option linter.unusedVariables false
set_option maxRecDepth 100000

theorem wpR_append0 {α : Type} {cs : α → List Value} {e t : TypeId} {sz by_ : Nat} {z : Value} (R : Rk cs e t sz by_ z) {w : World} {o : Oper} {a : Act} {K : Act → World → Prop} {Q : Exit → Act → World → Prop} (s x : Operand) (ho : o.op = .call { callee := .builtin .append, args := #[s, x], argTypes := #[t, t] })
    (base g : Nat) (hs : a.eval s = .slice (some ⟨g, 0, none⟩) 0 0) (hg : w.heap[g]? = some (.cells #[] e (0, 0))) (hbg : base ≤ g) (src : Option Addr) (m c : Nat) (ys : List α) (hx : a.eval x = .slice src m c) (hb : Ls sz cs w src m ys) (hnil : src = none → m = 0 ∧ c = 0)
    (hsm : m * by_ ≤ 140737488355328) (hmx : m ≤ 140737488355328) (h : ∀ v' w', Orw cs e sz w' base v' ys → Below w.heap.size w w' → ((∃ A, v' = .slice A 0 0) ∨ ∀ k, v'.ownBlock = some k → w.heap.size ≤ k) → K (a.put o.dst v') w') : o.wp Try.prog a w K Q := by
  obtain ⟨i0, hi, hz0, hz1, hz2⟩ := info_parts R.info
  have hown : Orw cs e sz w base (.slice (some ⟨g, 0, none⟩) 0 0) ([] : List α) := ⟨by simp, .inr ⟨g, 0, #[], rfl, hbg, hg, by simp, by simp [maxLen], by simp, by simp⟩⟩
  have hgl : g < w.heap.size := lt_of_heap hg
  cases src with
  | none =>
    obtain ⟨rfl, rfl⟩ := hnil rfl
    have h0 : ys = [] := List.eq_nil_of_length_eq_zero hb.1
    subst h0
    have hrun := run_append_owned_none (P := Try.prog) (w := w) base t o.type e i0 sz R.sl hi _ 0 _ hown
    unfold Oper.wp
    simp [execOp, ho, resolve, invoke, builtin, hs, hx, hrun, Result.andThen]
    exact h _ w hown (Below.refl _ _) (.inl ⟨_, rfl⟩)
  | some ad =>
    have hsrc : ∀ j u, (ys.flatMap cs)[j]? = some u → w.cell? (ad.add j) = some u := by
      rcases hb.2 with h0 | ⟨b, q, e1, _, hE⟩
      · have : ys = [] := List.eq_nil_of_length_eq_zero (by rw [hb.1]; exact h0)
        subst this
        intro j u hu
        simp at hu
      · intro j u hu
        injection e1 with e1
        subst e1
        obtain ⟨k, y, q, h1, h2, rfl⟩ := flatR_of R.len R.pos ys j u hu
        have := hE k y h1 q u h2
        rw [Addr.add_mid, ← Nat.add_assoc]
        exact this
    by_cases hm : m = 0
    · subst hm
      have h0 : ys = [] := List.eq_nil_of_length_eq_zero hb.1
      subst h0
      have hrun := run_append_room_cells (P := Try.prog) (w := w) t o.type e i0 R.sl hi g 0 0 0 ad 0 c [] (by simp) (fun j u hu => by simp at hu) (fun u hu => by cases hu) (by omega) (fun j hj => by simp at hj) (fun j hj => by simp at hj)
      have hsame : w.setCells g (0 + 0 * i0.size) [] = w := by simp [World.setCells]
      rw [hsame] at hrun
      unfold Oper.wp
      simp [execOp, ho, resolve, invoke, builtin, hs, hx, hrun, Result.andThen]
      exact h _ w hown (Below.refl _ _) (.inl ⟨_, rfl⟩)
    · obtain ⟨v', w', hrun, h1, h2⟩ := run_append_arg_grows (P := Try.prog) (w := w) t o.type e i0 z sz by_ R.sl hi hz0 hz1 hz2 R.zero R.pos ⟨g, 0, none⟩ 0 0 [] (by simp) (fun j u hu => by simp at hu) ad m c (ys.flatMap cs) (by rw [flatR_len R.len, hb.1]) hsrc (by omega) (by unfold maxLen; omega) (by simpa using hsm)
      unfold Oper.wp
      simp [execOp, ho, resolve, invoke, builtin, hs, hx, hrun, Result.andThen]
      have hl : ys.length = m := hb.1
      have h3 : Orw cs e sz w' w.heap.size v' ys := by
        unfold Orw
        rw [hl]
        simpa using h1
      exact h v' w' (h3.base (Nat.le_trans hbg (Nat.le_of_lt hgl))) ((Below.refl _ _).grown h2 (Nat.le_refl _) (fun k hk => by cases hk)) (.inr fun k hk => (h3.lt k hk).1)
/-- Two rows lie apart, or one of them has no room. -/
def Ap (a b : Value) : Prop := (∃ A, a = .slice A 0 0) ∨ (∃ B, b = .slice B 0 0) ∨ ∀ i j, a.ownBlock = some i → b.ownBlock = some j → i ≠ j
end Go.Proofs.Ytnnanlniffjnkaa

/- Builtin copy for elements of several cells; rows cut, and a record of a row written. -/
namespace Go.Proofs.Ytnnanlniffjnkaa
open Go.RowKit
set_option linter.unusedVariables false

theorem run_copy_k (w : World) (dT sT ty elem : TypeId) (b o dLen dCap : Nat) (a : Addr) (sLen sCap : Nat) (cs : List Value) (sz : Nat)
    (hu : Try.prog.underlying dT = some (.slice elem)) (hs : (Try.prog.info? elem).map (·.size) = some sz) (hn : cs.length = Nat.min sLen dLen * sz)
    (hsrc : ∀ j v, cs[j]? = some v → w.cell? (a.add j) = some v) (hc : ∀ j, j < cs.length → (w.cell? ⟨b, o + j, none⟩).isSome = true) (hf : ∀ j, j < cs.length → w.frozen? ⟨b, o + j, none⟩ = false) (h1 : ∀ v ∈ cs, v.oneCell' = true) :
    (Builtin.copy_ #[dT, sT] ty #[.slice (some ⟨b, o, none⟩) dLen dCap, .slice (some a) sLen sCap]).run Try.prog w = .ok (goInt (Nat.min sLen dLen : Nat)) (w.setCells b o cs) := by
  have hl := run_loadCells_list (P := Try.prog) w a cs hsrc
  have hst := run_storeCells_cells (P := Try.prog) b o cs 0 w (by simpa using hc) (by simpa using hf) h1
  cases hq : Try.prog.info? elem with
  | none => simp [hq] at hs
  | some i =>
    have hi : i.size = sz := by simpa [hq] using hs
    simp [Builtin.copy_, run_underlying hu, Builtin.lenOf, Builtin.firstCells, sizeOf, typeInfo, hq, hi, ← hn, hl, hst]
/-- A row, cut. -/
theorem Orw.cutR {α : Type} {cs : α → List Value} {e : TypeId} {sz : Nat} (hl : ∀ x, (cs x).length = sz) {w : World} {base : Nat} {a : Option Addr} {n c : Nat} {l : List α} (h : Orw cs e sz w base (.slice a n c) l) {k : Nat} (hk : k ≤ n) (h0 : a ≠ none) : Orw cs e sz w base (.slice a k c) (l.take k) := by
  have hln : l.length = n := by obtain ⟨a', c', e', _⟩ := h.form; injection e' with _ e2 _; exact e2.symm
  rcases h.2 with ⟨h1, _⟩ | ⟨g, cap, cur, h1, h2, h3, h4, h5, h6, h7⟩
  · injection h1 with h1 _ _
    exact absurd h1 h0
  · injection h1 with h1 _ h8
    have hf : ((l.take k).flatMap cs) = (l.flatMap cs).take (k * sz) := by
      have h9 : l.flatMap cs = (l.take k).flatMap cs ++ (l.drop k).flatMap cs := by rw [← List.flatMap_append, List.take_append_drop]
      have h10 : ((l.take k).flatMap cs).length = k * sz := by rw [flatR_len hl, List.length_take, Nat.min_eq_left (by omega)]
      rw [h9, ← h10, List.take_left']
      rfl
    have hkl : (l.take k).length = k := by rw [List.length_take]; omega
    refine ⟨?_, .inr ⟨g, cap, cur, by rw [hkl, h1, h8], h2, h3, by rw [hkl]; omega, h5, h6, ?_⟩⟩
    · rw [flatR_len hl]
    · rw [hkl, hf, ← h7, List.take_take, Nat.min_eq_left]
      rw [hln]
      exact Nat.mul_le_mul_right _ hk
/-- A record of a row is written. -/
theorem Orw.setR {α : Type} {cs : α → List Value} {e : TypeId} {sz : Nat} (hl : ∀ x, (cs x).length = sz) {W : World} {base g n c : Nat} {l : List α} (h : Orw cs e sz W base (.slice (some ⟨g, 0, none⟩) n c) l) {k : Nat} (hk : k < n) (x : α) : Orw cs e sz (W.setCells g (k * sz) (cs x)) base (.slice (some ⟨g, 0, none⟩) n c) (l.set k x) := by
  have hln : l.length = n := by obtain ⟨_, _, e', _⟩ := h.form; injection e' with _ e2 _; exact e2.symm
  have hkl : k < l.length := by omega
  have hsp : l = l.take k ++ (l[k] :: l.drop (k + 1)) := by rw [← List.drop_eq_getElem_cons hkl, List.take_append_drop]
  have h' := h
  unfold Orw at h'
  rw [hln] at h'
  obtain ⟨ys, q1, q2⟩ := stored_all (cs x) (k * sz) W _ h'
  have hys := q2 ((l.take k).flatMap cs) (cs l[k]) ((l.drop (k + 1)).flatMap cs) (by
    conv => lhs; rw [hsp]
    rw [List.flatMap_append, List.flatMap_cons]) (by rw [flatR_len hl, List.length_take, Nat.min_eq_left (by omega)]) (by rw [hl, hl])
  have el : l.set k x = l.take k ++ x :: l.drop (k + 1) := List.set_eq_take_append_cons_drop.trans (if_pos hkl)
  unfold Orw
  rw [List.length_set, hln]
  have : (l.set k x).flatMap cs = ys := by rw [hys, el, List.flatMap_append, List.flatMap_cons]
  rw [this]
  exact q1
/-- The block of a row that has records. -/
theorem Orw.blkR {α : Type} {cs : α → List Value} {e : TypeId} {sz : Nat} (hl : ∀ x, (cs x).length = sz) {W : World} {base : Nat} {a : Option Addr} {n c : Nat} {l : List α} (h : Orw cs e sz W base (.slice a n c) l) (hn : n ≠ 0) : ∃ g cur, a = some ⟨g, 0, none⟩ ∧ base ≤ g ∧ W.heap[g]? = some (.cells cur e (0, 0)) ∧ (∀ q, W.frozen? ⟨g, q, none⟩ = false) ∧ ∀ (k : Nat) x, l[k]? = some x → ∀ (q : Nat) (u : Value), (cs x)[q]? = some u → W.cell? ⟨g, k * sz + q, none⟩ = some u := by
  have hln : l.length = n := by obtain ⟨_, _, e', _⟩ := h.form; injection e' with _ e2 _; exact e2.symm
  rcases h.2 with ⟨hv, h0⟩ | ⟨g, cap, cur, hv, hb, hh, hc1, hc2, hsz, htk⟩
  · omega
  · injection hv with ea en ec
    refine ⟨g, cur, ea, hb, hh, fun q => bx_thaw hh q, fun k x hx q u hu => ?_⟩
    have h2 := flatR_at hl l k x hx q u hu
    rw [← htk] at h2
    rw [cell_of_row _ _ _ _ _ _ hh]
    rw [List.getElem?_take] at h2
    split at h2
    · simpa using h2
    · cases h2
end Go.Proofs.Ytnnanlniffjnkaa
