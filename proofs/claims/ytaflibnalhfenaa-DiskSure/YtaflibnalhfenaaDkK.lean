/- What a settle does to a disk, and what a loop of them comes to. -/
import Derived.Test.YtaflibnalhfenaaDkJ
namespace Go.Proofs.Ytaflibnalhfenaa
open Go.RowKit
set_option linter.unusedVariables false

theorem heap_setCells (b : Nat) (e : TypeId) : ∀ (vs : List Value) (o : Nat) (w : World) (cur : Array Value), w.heap[b]? = some (.cells cur e (0, 0)) → ∃ cur', (w.setCells b o vs).heap[b]? = some (.cells cur' e (0, 0)) ∧ cur'.size = cur.size
  | [], _, _, cur, h => ⟨cur, h, rfl⟩
  | v :: r, o, w, cur, h => by
    obtain ⟨cur', h1, h2⟩ := heap_setCells b e r (o + 1) (w.setCell ⟨b, o, none⟩ v) _ (heap_setCell_same w b o cur e v h)
    exact ⟨cur', h1, by simpa using h2⟩
theorem heap_setCells_other (b : Nat) : ∀ (vs : List Value) (o : Nat) (w : World) (k : Nat), k ≠ b → (w.setCells b o vs).heap[k]? = w.heap[k]?
  | [], _, _, _, _ => rfl
  | v :: r, o, w, k, h => (heap_setCells_other b r (o + 1) (w.setCell ⟨b, o, none⟩ v) k h).trans (Below.heap_setCell _ _ _ _ h)
theorem size_setCells (b : Nat) : ∀ (vs : List Value) (o : Nat) (w : World), (w.setCells b o vs).heap.size = w.heap.size
  | [], _, _ => rfl
  | v :: r, o, w => (size_setCells b r (o + 1) (w.setCell ⟨b, o, none⟩ v)).trans (by simp [World.setCell])

def settled (w : World) (g i : Nat) (x : List UInt8) : World :=
  ((w.alloc (.cells (bv x).toArray 75)).setCells g (i * 257 + 1) (bv x)).setCell ⟨g, i * 257, none⟩ (.slice none 0 0)

theorem cell_setCells_out (b o : Nat) (vs : List Value) (W : World) (x : Nat) (h : x < o ∨ o + vs.length ≤ x) : (W.setCells b o vs).cell? ⟨b, x, none⟩ = W.cell? ⟨b, x, none⟩ :=
  World.cell?_setCells_out b vs o W ⟨b, x, none⟩ (fun _ _ => h)

set_option maxRecDepth 100000 in
theorem side_of {i o L : Nat} (hL : L = 256) (ho : o < i * 257 ∨ (i + 1) * 257 ≤ o) : o < i * 257 + 1 ∨ i * 257 + 1 + L ≤ o := by omega
theorem off_of {i o : Nat} (ho : o < i * 257 ∨ (i + 1) * 257 ≤ o) : i * 257 ≠ o := by omega
theorem addr_ne {g a b : Nat} (h : a ≠ b) : (⟨g, a, none⟩ : Addr) ≠ ⟨g, b, none⟩ := by rw [ne_eq, Addr.mk.injEq]; exact fun e => h e.2.1

theorem setCells_os (g : Nat) : ∀ (vs : List Value) (o : Nat) (W : World), (W.setCells g o vs).os = W.os ∧ (W.setCells g o vs).tape = W.tape ∧ (W.setCells g o vs).output = W.output
  | [], _, _ => ⟨rfl, rfl, rfl⟩
  | _ :: r, o, _ => setCells_os g r (o + 1) _

theorem IsDisk.settled {w : World} {B p g : Nat} {vs : Nat → Value} {D : Dk} (h : IsDisk w B p g vs D) (i : Nat) (s : Sec) (hi : D.secs[i]? = some s) (k : Nat) (hk : k ≤ s.wait.length) :
    IsDisk (settled w g i (s.pick k)) B p g (upd vs i (.slice none 0 0)) (D.put i (s.settle k)) ∧ Fr B w (settled w g i (s.pick k)) ∧ (∀ j, j < w.heap.size → j ≠ g → (settled w g i (s.pick k)).heap[j]? = w.heap[j]?) ∧
      w.heap.size ≤ (settled w g i (s.pick k)).heap.size := by
  have hil := (List.getElem?_eq_some_iff.1 hi).1
  obtain ⟨lp, lg, lk⟩ := h.lt
  obtain ⟨k1, k2⟩ := h.kinds
  have hs := h.sec i s hi
  obtain ⟨cur, hcur, hcs⟩ := h.row
  have hl : (bv (s.pick k)).length = 256 := by rw [bv_length]; exact Sec.pick_len hs.ok k hk
  have hcur0 : (w.alloc (.cells (bv (s.pick k)).toArray 75)).heap[g]? = some (.cells cur 77 (0, 0)) := (Below.heap_alloc _ _ _ lg).trans hcur
  obtain ⟨cur1, hc1, hz1⟩ := heap_setCells g 77 (bv (s.pick k)) (i * 257 + 1) _ cur hcur0
  have hc2 := heap_setCell_same _ g (i * 257) cur1 _ (.slice none 0 0) hc1
  have hother : ∀ j, j < w.heap.size → j ≠ g → (Go.Proofs.Ytaflibnalhfenaa.settled w g i (s.pick k)).heap[j]? = w.heap[j]? := fun j hj hjg =>
    (Below.heap_setCell _ _ _ _ hjg).trans ((heap_setCells_other _ _ _ _ _ hjg).trans (Below.heap_alloc _ _ _ hj))
  have hsize : w.heap.size ≤ (Go.Proofs.Ytaflibnalhfenaa.settled w g i (s.pick k)).heap.size := by
    unfold Go.Proofs.Ytaflibnalhfenaa.settled
    have e : ∀ (W : World) a v, (W.setCell a v).heap.size = W.heap.size := fun W a v => by simp [World.setCell]
    rw [e, size_setCells]; simp
  have ht : (w.alloc (.cells (bv (s.pick k)).toArray 75)).there g (i * 257 + 1) (bv (s.pick k)).length := there_of_block hcur0 _ _ (by omega)
  have hin : ∀ j u, (bv (s.pick k))[j]? = some u → (Go.Proofs.Ytaflibnalhfenaa.settled w g i (s.pick k)).cell? ⟨g, i * 257 + 1 + j, none⟩ = some u := by
    intro j u hu
    unfold Go.Proofs.Ytaflibnalhfenaa.settled
    rw [World.cell?_setCell_other _ _ _ _ (by rw [ne_eq, Addr.mk.injEq]; omega)]
    exact World.rangeAt_setCells_same _ _ _ _ ht j u hu
  have hout : ∀ o, o < i * 257 ∨ (i + 1) * 257 ≤ o → (Go.Proofs.Ytaflibnalhfenaa.settled w g i (s.pick k)).cell? ⟨g, o, none⟩ = w.cell? ⟨g, o, none⟩ := by
    intro o ho
    have hside : o < i * 257 + 1 ∨ i * 257 + 1 + (bv (s.pick k)).length ≤ o := side_of hl ho
    unfold Go.Proofs.Ytaflibnalhfenaa.settled
    rw [World.cell?_setCell_other _ _ _ _ (addr_ne (off_of ho)), cell_setCells_out _ _ _ _ _ hside]
    exact World.cell?_of_block (w := w) (Below.heap_alloc _ _ _ lg)
  refine ⟨h.sector i hil _ _ (hother p lp k1) hsize ⟨_, hc2, by simpa [hz1] using hcs⟩ hout ?_ ?_ ?_, ⟨⟨(setCells_os g _ _ _).1, (setCells_os g _ _ _).2.1, (setCells_os g _ _ _).2.2, hsize, ?_⟩, ?_⟩, hother, hsize⟩
  · intro j q hj hji hq
    exact hother q (lk j q hj hq) (k2 j q hj hq).2
  · intro j q hj hji hq e; cases e
  · refine ⟨Sec.ok_settle hs.ok k hk, ?_, ?_, World.ownsRow_nil _ _ _ _⟩
    · unfold Go.Proofs.Ytaflibnalhfenaa.settled
      rw [cell_of_row _ _ _ _ _ _ hc2, Array.getElem?_setIfInBounds, if_pos rfl, if_pos (by omega)]
    · intro j u hu
      exact hin j u hu
  · intro j hj
    have := h.bg
    exact hother j (by omega) (by omega)
  · intro j c e f hj h1 h2 h3
    refine hother j (lt_of_heap hj) (fun e0 => ?_)
    subst e0
    have := hcur.symm.trans hj
    simp at this
    exact h3 this.2.1.symm

/-! The cached sectors, by their places. -/
theorem cachedTo_at (D : Dk) : ∀ (n k i : Nat), (cachedTo D n)[k]? = some i → i < n ∧ waits D i = true ∧ (cachedTo D i).length = k
  | 0, k, i, h => by simp [cachedTo] at h
  | n + 1, k, i, h => by
    cases hw : waits D n with
    | false =>
      rw [cachedTo_no D n hw] at h
      obtain ⟨a, b, c⟩ := cachedTo_at D n k i h
      exact ⟨by omega, b, c⟩
    | true =>
      rw [cachedTo_yes D n hw] at h
      by_cases hk : k < (cachedTo D n).length
      · rw [List.getElem?_append_left hk] at h
        obtain ⟨a, b, c⟩ := cachedTo_at D n k i h
        exact ⟨by omega, b, c⟩
      · rw [List.getElem?_append_right (by omega)] at h
        have hk0 : k - (cachedTo D n).length = 0 := by
          have := (List.getElem?_eq_some_iff.1 h).1
          simp at this; omega
        rw [hk0] at h
        simp at h
        subst h
        exact ⟨by omega, hw, by omega⟩
theorem cachedTo_mono (D : Dk) (i : Nat) (hw : waits D i = true) : ∀ n, i < n → (cachedTo D n)[(cachedTo D i).length]? = some i
  | 0, h => by omega
  | n + 1, h => by
    by_cases e : i = n
    · subst e
      rw [cachedTo_yes D i hw, List.getElem?_append_right (Nat.le_refl _)]
      simp
    · have ih := cachedTo_mono D i hw n (by omega)
      cases hn : waits D n with
      | false => rw [cachedTo_no D n hn]; exact ih
      | true => rw [cachedTo_yes D n hn, List.getElem?_append_left (List.getElem?_eq_some_iff.1 ih).1]; exact ih

/-- Behind k settles: of each cached sector among the first k a value was written; the others are as they were. -/
structure Part (D : Dk) (G : Nat → Sec → Nat → Prop) (k : Nat) (D' : Dk) : Prop where
  len : D'.secs.length = D.secs.length
  moves : D'.moves = D.moves
  trip : D'.trip = D.trip
  dark : D'.dark = D.dark
  did : ∀ i s, D.secs[i]? = some s → waits D i = true → (cachedTo D i).length < k → ∃ r, r ≤ s.wait.length ∧ G (cachedTo D i).length s r ∧ D'.secs[i]? = some (s.settle r)
  rest : ∀ i s, D.secs[i]? = some s → ¬ (waits D i = true ∧ (cachedTo D i).length < k) → D'.secs[i]? = some s

theorem Part.start (D : Dk) (G : Nat → Sec → Nat → Prop) : Part D G 0 D := ⟨rfl, rfl, rfl, rfl, fun _ _ _ _ h => by omega, fun _ _ h _ => h⟩

theorem Part.at {D D' : Dk} {G : Nat → Sec → Nat → Prop} {k i : Nat} (h : Part D G k D') (hi : D.cached[k]? = some i) : ∃ s, D.secs[i]? = some s ∧ D'.secs[i]? = some s ∧ waits D i = true ∧ (cachedTo D i).length = k := by
  obtain ⟨a, b, c⟩ := cachedTo_at D _ k i hi
  have hs := List.getElem?_eq_getElem a
  exact ⟨_, hs, h.rest i _ hs (fun x => by omega), b, c⟩

theorem Part.next {D D' : Dk} {G : Nat → Sec → Nat → Prop} {k i : Nat} (h : Part D G k D') (hi : D.cached[k]? = some i) (s : Sec) (hs : D.secs[i]? = some s) (r : Nat) (hr : r ≤ s.wait.length) (hG : G k s r) : Part D G (k + 1) (D'.put i (s.settle r)) := by
  obtain ⟨a, b, c⟩ := cachedTo_at D _ k i hi
  have hl : i < D'.secs.length := by rw [h.len]; exact a
  refine ⟨by simp [Dk.put, h.len], h.moves, h.trip, h.dark, ?_, ?_⟩
  · intro j t hj hw hk
    by_cases e : j = i
    · subst e
      have : t = s := by rw [hs] at hj; exact (Option.some.inj hj).symm
      subst this
      exact ⟨r, hr, by rw [c]; exact hG, by simp [Dk.put, hl]⟩
    · have hne : (cachedTo D j).length ≠ k := by
        intro e'
        have h1 := cachedTo_mono D j hw D.secs.length (List.getElem?_eq_some_iff.1 hj).1
        rw [e'] at h1
        have h2 : D.cached[k]? = some j := h1
        rw [hi] at h2
        exact e (Option.some.inj h2).symm
      obtain ⟨r', h1, h2, h3⟩ := h.did j t hj hw (by omega)
      exact ⟨r', h1, h2, by simpa [Dk.put, List.getElem?_set, Ne.symm e] using h3⟩
  · intro j t hj hn
    have e : j ≠ i := by
      intro e; subst e
      exact hn ⟨b, by omega⟩
    have := h.rest j t hj (fun x => hn ⟨x.1, by omega⟩)
    simpa [Dk.put, List.getElem?_set, Ne.symm e] using this

/-- Behind all of them. -/
theorem Part.all {D D' : Dk} {G : Nat → Sec → Nat → Prop} (h : Part D G D.cached.length D') (i : Nat) (s : Sec) (hi : D.secs[i]? = some s) :
    ∃ r, r ≤ s.wait.length ∧ (waits D i = true → G (cachedTo D i).length s r) ∧ D'.secs[i]? = some (s.settle r) := by
  cases hw : waits D i with
  | true =>
    have h1 := cachedTo_mono D i hw D.secs.length (List.getElem?_eq_some_iff.1 hi).1
    obtain ⟨r, a, b, c⟩ := h.did i s hi hw (List.getElem?_eq_some_iff.1 h1).1
    exact ⟨r, a, fun _ => b, c⟩
  | false =>
    have h0 : s.wait = [] := by
      unfold waits at hw
      rw [hi] at hw
      simpa using hw
    refine ⟨0, by omega, (fun x => by cases x), ?_⟩
    rw [h.rest i s hi (fun x => by rw [hw] at x; cases x.1)]
    cases s
    simp at h0
    subst h0
    rfl

end Go.Proofs.Ytaflibnalhfenaa
