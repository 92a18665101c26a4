/- A copied class that is written over: what else lies in memory stays. -/
import Derived.Test.YthhdfokcciibmaaDoorJN

namespace Go.Proofs.YthhdfokcciibmaaDoor
open Go.RowKit
set_option linter.unusedVariables false
set_option maxRecDepth 100000

/-- From w3 on only blocks from S1 to below S2 were written; what is told of them stays: their type, their size, maps as they were, methods but for their names. -/
structure Mut (S1 S2 : Nat) (w3 W : World) : Prop where
  low : Below S1 w3 W
  high : ∀ k, S2 ≤ k → k < w3.heap.size → W.heap[k]? = w3.heap[k]?
  mid : ∀ k X t, S1 ≤ k → k < S2 → w3.heap[k]? = some (.cells X t) → ∃ X', W.heap[k]? = some (.cells X' t) ∧ X'.size = X.size ∧ (t = 49 → X' = X) ∧ (t = 36 → ∀ j, j % 8 ≠ 1 → X'[j]? = X[j]?)
theorem Mut.refl (S1 S2 : Nat) (w : World) : Mut S1 S2 w w := ⟨Below.refl _ _, fun _ _ _ => rfl, fun k X t _ _ h => ⟨X, h, rfl, fun _ => rfl, fun _ _ _ => rfl⟩⟩
theorem Mut.on {S1 S2 : Nat} {w3 W W' : World} (h : Mut S1 S2 w3 W) (h12 : S1 ≤ w3.heap.size) (f : Below W.heap.size W W') : Mut S1 S2 w3 W' := by
  have hs := h.low.size
  refine ⟨h.low.trans (f.mono (by omega)), fun k h1 h2 => (f.block k (by omega)).trans (h.high k h1 h2), fun k X t h1 h2 h3 => ?_⟩
  obtain ⟨X', q1, q2⟩ := h.mid k X t h1 h2 h3
  exact ⟨X', (f.block k (lt_of_heap q1)).trans q1, q2⟩
theorem Mut.set {S1 S2 : Nat} {w3 W : World} (h : Mut S1 S2 w3 W) {g o : Nat} {X : Array Value} {t : TypeId} (h1 : S1 ≤ g) (h2 : g < S2) (h3 : w3.heap[g]? = some (.cells X t)) (ht : (t ≠ 49 ∧ t ≠ 36) ∨ (t = 36 ∧ o % 8 = 1)) (v : Value) : Mut S1 S2 w3 (W.setCell ⟨g, o, none⟩ v) := by
  refine ⟨h.low.setCell (p := ⟨g, o, none⟩) h1 v, fun k k1 k2 => (Below.heap_setCell _ _ _ _ (by simp only; omega)).trans (h.high k k1 k2), fun k Y s k1 k2 k3 => ?_⟩
  obtain ⟨Y', q1, q2, q3, q4⟩ := h.mid k Y s k1 k2 k3
  by_cases hk : k = g
  · subst hk
    rw [h3] at k3
    injection k3 with k3
    injection k3 with k3 k4
    subst k3 k4
    refine ⟨Y'.setIfInBounds o v, heap_setCell_same W k o _ _ v q1, by simpa using q2, fun e => ?_, fun e j hj => ?_⟩
    · rcases ht with ⟨a, _⟩ | ⟨a, _⟩
      · exact absurd e a
      · rw [a] at e
        cases e
    · rcases ht with ⟨_, a⟩ | ⟨_, a⟩
      · exact absurd e a
      · rw [Array.getElem?_setIfInBounds_ne (by intro e; subst e; exact hj a)]
        exact q4 e j hj
  · exact ⟨Y', (Below.heap_setCell _ _ _ _ hk).trans q1, q2, q3, q4⟩
theorem Mut.cell {S1 S2 : Nat} {w3 W : World} (h : Mut S1 S2 w3 W) {g : Nat} {X : Array Value} {t : TypeId} (h1 : S1 ≤ g) (h2 : g < S2) (h3 : w3.heap[g]? = some (.cells X t)) {o : Nat} (ho : o < X.size) : (∃ u, W.cell? ⟨g, o, none⟩ = some u) ∧ W.frozen? ⟨g, o, none⟩ = false := by
  obtain ⟨X', q1, q2, _⟩ := h.mid g X t h1 h2 h3
  exact ⟨⟨X'[o]'(by omega), bx_cell q1 o _ (Array.getElem?_eq_getElem (by omega))⟩, bx_thaw q1 o⟩
theorem Mut.map {S1 S2 : Nat} {w3 W : World} (h : Mut S1 S2 w3 W) {g : Nat} {X : Array Value} (h1 : S1 ≤ g) (h2 : g < S2) (h3 : w3.heap[g]? = some (.cells X 49)) (o : Nat) : W.cell? ⟨g, o, none⟩ = w3.cell? ⟨g, o, none⟩ := by
  obtain ⟨X', q1, q2, q3, _⟩ := h.mid g X _ h1 h2 h3
  rw [q3 rfl] at q1
  rw [cell_of_row _ _ _ _ _ _ q1, cell_of_row _ _ _ _ _ _ h3]
theorem Mut.method {S1 S2 : Nat} {w3 W : World} (h : Mut S1 S2 w3 W) {g : Nat} {X : Array Value} (h1 : S1 ≤ g) (h2 : g < S2) (h3 : w3.heap[g]? = some (.cells X 36)) (o : Nat) (ho : o % 8 ≠ 1) : W.cell? ⟨g, o, none⟩ = w3.cell? ⟨g, o, none⟩ := by
  obtain ⟨X', q1, q2, _, q4⟩ := h.mid g X _ h1 h2 h3
  rw [cell_of_row _ _ _ _ _ _ q1, cell_of_row _ _ _ _ _ _ h3, q4 rfl o ho]
/-- A row of the copied class. -/
structure RowD (S1 S2 : Nat) (w3 : World) (e : TypeId) (sz : Nat) (a : Option Addr) (n : Nat) (g : Nat) (cur : Array Value) : Prop where
  at_ : a = some ⟨g, 0, none⟩
  lo : S1 ≤ g
  hi : g < S2
  blk : w3.heap[g]? = some (.cells cur e)
  room : n * sz ≤ cur.size
theorem Orw.rowD {α : Type} {cs : α → List Value} {e t : TypeId} {sz by_ : Nat} {z : Value} (R : Rk cs e t sz by_ z) {w1 w3 : World} {S1 : Nat} {a : Option Addr} {n c : Nat} {l : List α} (h : Orw cs e sz w1 S1 (.slice a n c) l) (hk : ∀ k, S1 ≤ k → k < w1.heap.size → w3.heap[k]? = w1.heap[k]?) (hn : 0 < n) : ∃ g cur, RowD S1 w1.heap.size w3 e sz a n g cur ∧ l.length = n := by
  obtain ⟨a', c', e1, _⟩ := h.form
  injection e1 with ea en ec
  subst ea en ec
  rcases h.2 with ⟨_, hn0⟩ | ⟨g, cap, cur, hv, hg, hh, _, _, _, htk⟩
  · omega
  · injection hv with ea en ec
    have hl := lt_of_heap hh
    refine ⟨g, cur, ⟨ea, hg, hl, (hk g hg hl).trans hh, ?_⟩, rfl⟩
    have h5 := congrArg List.length htk
    rw [flatR_len R.len, List.length_take] at h5
    have : cur.toList.length = cur.size := rfl
    omega
theorem Orw.len {α : Type} {cs : α → List Value} {e : TypeId} {sz : Nat} {w : World} {base : Nat} {a : Option Addr} {n c : Nat} {l : List α} (h : Orw cs e sz w base (.slice a n c) l) : l.length = n := by
  obtain ⟨a', c', e1, _⟩ := h.form
  injection e1 with ea en ec
  exact en.symm
theorem Orw.most {α : Type} {cs : α → List Value} {e : TypeId} {sz : Nat} {w : World} {base : Nat} {a : Option Addr} {n c : Nat} {l : List α} (h : Orw cs e sz w base (.slice a n c) l) : n ≤ 9223372036854775807 := by
  obtain ⟨a', c', e1, _, h2, h3⟩ := h.form
  injection e1 with ea en ec
  omega
theorem Orw.rowCells {α : Type} {cs : α → List Value} {e t : TypeId} {sz by_ : Nat} {z : Value} (R : Rk cs e t sz by_ z) {w1 w3 : World} {S1 S2 : Nat} {a : Option Addr} {n c : Nat} {l : List α} (h : Orw cs e sz w1 S1 (.slice a n c) l) (hs : w1.heap.size = S2) (hk : ∀ k, S1 ≤ k → k < S2 → w3.heap[k]? = w1.heap[k]?) (hn : 0 < n) : ∃ g cur, RowD S1 S2 w3 e sz a n g cur ∧ ∀ k x, l[k]? = some x → RowAt w3 g (k * sz) (cs x) := by
  subst hs
  obtain ⟨g, cur, hr, hl⟩ := h.rowD R hk hn
  refine ⟨g, cur, hr, fun k x hx q u hu => ?_⟩
  have hL := h.ls R
  rcases hL.2 with h0 | ⟨b, o, e1, hb, h1⟩
  · omega
  · rw [hr.at_] at e1
    injection e1 with e1
    injection e1 with e1 e2
    subst e1 e2
    have := h1 k x hx q u hu
    rw [Nat.zero_add] at this
    rw [World.cell?_of_block (w := w1) (hk g hr.lo hr.hi)]
    exact this
theorem rkB : Rk byc 5 30 1 1 (.int .u8 0) := ⟨fun _ => rfl, fun x u hu => by simp [byc] at hu; subst hu; rfl, by decide, by kernel_rfl, rfl, Tryd.underlying30⟩
/-- Two copies of a class, each in its place. -/
structure Cpd (w0 : World) (c : Cl) (p3 p4 S1 S2 : Nat) (w1 : World) (d x : ClR) (w3 : World) : Prop where
  dc : d.c = c
  xc : x.c = c
  bel : Below w0.heap.size w0 w3
  s1 : w0.heap.size ≤ S1
  s12 : S1 ≤ S2
  s2 : S2 ≤ w3.heap.size
  od : ClOwn w1 S1 d
  sz : w1.heap.size = S2
  same : ∀ k, S1 ≤ k → k < S2 → w3.heap[k]? = w1.heap[k]?
  ox : ClOwn w3 S2 x
  b3 : w3.heap[p3]? = some (.cells #[d.pool.v, .string ⟨c.name.toArray⟩, .string ⟨c.super.toArray⟩, d.fields.v, d.methods.v] 26)
  b4 : w3.heap[p4]? = some (.cells #[x.pool.v, .string ⟨c.name.toArray⟩, .string ⟨c.super.toArray⟩, x.fields.v, x.methods.v] 26)
  o3 : p3 < S1 ∨ S2 ≤ p3
  o4 : p4 < S1 ∨ S2 ≤ p4
theorem cpd_of {w0 W1 w3 W2 w4 wf : World} {c : Cl} {p3 p4 : Nat} {d x : ClR} (hd : d.c = c) (hx : x.c = c) (h1 : Below w0.heap.size w0 W1) (HD : ClOwn w3 W1.heap.size d ∧ Below W1.heap.size W1 w3) (h2 : Below w3.heap.size w3 W2) (HX : ClOwn w4 W2.heap.size x ∧ Below W2.heap.size W2 w4)
    (hf : ∀ k, k ≠ p3 → k ≠ p4 → k < w4.heap.size → wf.heap[k]? = w4.heap[k]?) (hbf : Below w0.heap.size w0 wf) (hs : w4.heap.size ≤ wf.heap.size)
    (b3 : wf.heap[p3]? = some (.cells #[d.pool.v, .string ⟨c.name.toArray⟩, .string ⟨c.super.toArray⟩, d.fields.v, d.methods.v] 26)) (b4 : wf.heap[p4]? = some (.cells #[x.pool.v, .string ⟨c.name.toArray⟩, .string ⟨c.super.toArray⟩, x.fields.v, x.methods.v] 26))
    (o3 : p3 < W1.heap.size ∨ w3.heap.size ≤ p3) (o4 : p4 < W1.heap.size ∨ w3.heap.size ≤ p4) (u3 : p3 < W2.heap.size ∨ w4.heap.size ≤ p3) (u4 : p4 < W2.heap.size ∨ w4.heap.size ≤ p4) : Cpd w0 c p3 p4 W1.heap.size w3.heap.size w3 d x wf := by
  have s1 := h1.size
  have s2 := HD.2.size
  have s3 := h2.size
  have s4 := HX.2.size
  refine ⟨hd, hx, hbf, h1.size, HD.2.size, by omega, HD.1, rfl, fun k k1 k2 => ?_, ?_, b3, b4, o3, o4⟩
  · rw [hf k (by omega) (by omega) (by omega), HX.2.block k (by omega)]
    exact h2.block k k2
  · exact (HX.1.keepAll fun k X t hk hX => by
      have := lt_of_heap hX
      exact hf k (by omega) (by omega) this).base (by omega)
theorem bx_set5 {W : World} {A : Nat} {T : TypeId} {a0 a1 a2 a3 a4 : Value} (c0 c1 c2 c3 c4 : Value) (h : W.heap[A]? = some (.cells #[a0, a1, a2, a3, a4] T)) :
    (((((W.setCell ⟨A, 0, none⟩ c0).setCell ⟨A, 1, none⟩ c1).setCell ⟨A, 2, none⟩ c2).setCell ⟨A, 3, none⟩ c3).setCell ⟨A, 4, none⟩ c4).heap[A]? = some (.cells #[c0, c1, c2, c3, c4] T) := by
  have h0 := heap_setCell_same W A 0 _ _ c0 h
  have h1 := heap_setCell_same _ A 1 _ _ c1 h0
  have h2 := heap_setCell_same _ A 2 _ _ c2 h1
  have h3 := heap_setCell_same _ A 3 _ _ c3 h2
  exact heap_setCell_same _ A 4 _ _ c4 h3
theorem Mut.out {S1 S2 : Nat} {w3 W : World} (h : Mut S1 S2 w3 W) {p : Nat} {o : Obj} (hp : w3.heap[p]? = some o) (ho : p < S1 ∨ S2 ≤ p) : W.heap[p]? = some o := by
  rcases ho with ho | ho
  · exact (h.low.block p ho).trans hp
  · exact (h.high p ho (lt_of_heap hp)).trans hp
theorem Cpd.end_ {w0 : World} {c : Cl} {p3 p4 S1 S2 : Nat} {w1 : World} {d x : ClR} {w3 W : World} (h : Cpd w0 c p3 p4 S1 S2 w1 d x w3) (m : Mut S1 S2 w3 W) : Below w0.heap.size w0 W ∧ ClOwn W S2 x :=
  ⟨h.bel.trans (m.low.mono h.s1), h.ox.keepAll fun k X t hk hX => m.high k hk (lt_of_heap hX)⟩
end Go.Proofs.YthhdfokcciibmaaDoor
