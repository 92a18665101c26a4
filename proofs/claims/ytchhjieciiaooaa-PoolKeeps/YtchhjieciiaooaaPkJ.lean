/- The landed pool: a pool that grows: what stands between the steps of number. -/
import Derived.Test.YtchhjieciiaooaaPkI
namespace Go.Proofs.Ytchhjieciiaooaa
open Go.RowKit Go.Maps
set_option linter.unusedVariables false

theorem put_to {w w' : World} {B g m N : Nat} {v : Value} {D : DataW Unit} {l : List Ent} {x : Ent} (h : Put1 w B g m v N D l x w') (tx : TX l l.length D) (hx : x.tag ≠ 1) : GrTo w B g m v (withE l x) w' := by
  obtain ⟨v', h1, h2, h3⟩ := h
  refine ⟨v', N, D, h1, ?_, h2, h3⟩
  have hu : ∀ s, eUtf s ≠ x := fun s e => hx (by rw [← e]; rfl)
  have h0 : ∀ s, eUtf s ≠ ent0 := fun s e => by
    have := congrArg Ent.tag e
    simp [eUtf, ent0] at this
  have := tx.more (e := if x.tag = 5 then [x, ent0] else [x]) (fun s hs => by
    split at hs
    · simp at hs
      rcases hs with e | e
      · exact hu s e
      · exact h0 s e
    · simp at hs
      exact hu s hs)
  rw [← withE_eq] at this
  exact this

/-- What lies beside a growing pool while number runs. -/
structure Beside (w : World) (h4 B g m : Nat) (v : Value) (C X : Nat) : Prop where
  hB : B ≤ w.heap.size
  g : g < w.heap.size
  m : m < w.heap.size
  v : ∀ k, v.ownBlock = some k → k < w.heap.size
  c1 : w.heap.size ≤ C
  c2 : C < h4
  x1 : w.heap.size ≤ X
  x2 : X < h4
  ne : X ≠ C
structure NS (w : World) (h4 B g m : Nat) (v : Value) (C X : Nat) (cs xs : Array Value) (v1 : Value) (N1 : Nat) (D1 : DataW Unit) (L : List Ent) (W : World) : Prop where
  gr : GrR W B g m v1 N1 D1 L
  tx : TX L L.length D1
  own : v1.ownBlock = v.ownBlock ∨ ∀ k, v1.ownBlock = some k → h4 ≤ k
  fr : Fr6 (fun k => k = g ∨ k = m ∨ v.ownBlock = some k) B w W
  cb : W.heap[C]? = some (.cells cs 50 (0, 0))
  xb : W.heap[X]? = some (.cells xs 67 (0, 0))
  h4 : h4 ≤ W.heap.size
theorem NS.out {w W : World} {h4 B g m C X N1 : Nat} {v v1 : Value} {cs xs : Array Value} {D1 : DataW Unit} {L : List Ent} (b : Beside w h4 B g m v C X) (h : NS w h4 B g m v C X cs xs v1 N1 D1 L W) {k : Nat} (hk : k = C ∨ k = X) : ¬ (k = g ∨ k = m ∨ v1.ownBlock = some k) := by
  have hkw : w.heap.size ≤ k := by
    rcases hk with rfl | rfl
    · exact b.c1
    · exact b.x1
  have hk4 : k < h4 := by
    rcases hk with rfl | rfl
    · exact b.c2
    · exact b.x2
  have b1 := b.g
  have b2 := b.m
  rintro (e | e | e)
  · omega
  · omega
  · rcases h.own with e1 | e1
    · rw [e1] at e
      have := b.v k e
      omega
    · have := e1 k e
      omega
theorem NS.call {w W W2 : World} {h4 B g m C X N1 : Nat} {v v1 : Value} {cs xs : Array Value} {D1 : DataW Unit} {L L2 : List Ent} (b : Beside w h4 B g m v C X) (h : NS w h4 B g m v C X cs xs v1 N1 D1 L W) (c : GrTo W B g m v1 L2 W2) :
    ∃ v2 N2 D2, NS w h4 B g m v C X cs xs v2 N2 D2 L2 W2 := by
  obtain ⟨v2, N2, D2, g2, t2, o2, f2⟩ := c
  refine ⟨v2, N2, D2, g2, t2, ?_, fr6_trans h.fr f2 (fun k hk => ?_), ?_, ?_, Nat.le_trans h.h4 f2.below.size⟩
  · rcases o2 with e | e
    · rw [e]
      exact h.own
    · exact .inr (fun k hk => Nat.le_trans h.h4 (e k hk))
  · rcases hk with e | e | e
    · exact .inl (.inl e)
    · exact .inl (.inr (.inl e))
    · rcases h.own with e1 | e1
      · rw [e1] at e
        exact .inl (.inr (.inr e))
      · have := e1 k e
        have := b.c1
        have := b.c2
        exact .inr (by omega)
  · exact (f2.other C (Nat.lt_of_lt_of_le b.c2 h.h4) (h.out b (.inl rfl))).trans h.cb
  · exact (f2.other X (Nat.lt_of_lt_of_le b.x2 h.h4) (h.out b (.inr rfl))).trans h.xb
theorem NS.below {w W W2 : World} {h4 B g m C X N1 : Nat} {v v1 : Value} {cs xs : Array Value} {D1 : DataW Unit} {L : List Ent} (b : Beside w h4 B g m v C X) (h : NS w h4 B g m v C X cs xs v1 N1 D1 L W) (f : Below W.heap.size W W2) : NS w h4 B g m v C X cs xs v1 N1 D1 L W2 :=
  ⟨h.gr.below f, h.tx, h.own, fr6_trans (F1 := fun _ => False) h.fr (Fr6.of_below f (Nat.le_trans b.hB h.fr.below.size)) (fun k hk => hk.elim), (f.block C (Nat.lt_of_lt_of_le b.c2 h.h4)).trans h.cb, (f.block X (Nat.lt_of_lt_of_le b.x2 h.h4)).trans h.xb, Nat.le_trans h.h4 f.size⟩
theorem NS.set {w W : World} {h4 B g m C X N1 : Nat} {v v1 : Value} {cs xs : Array Value} {D1 : DataW Unit} {L : List Ent} (b : Beside w h4 B g m v C X) (h : NS w h4 B g m v C X cs xs v1 N1 D1 L W) (j : Nat) (u : Value) (ys : Array Value) (hy : xs.setIfInBounds j u = ys) :
    NS w h4 B g m v C X cs ys v1 N1 D1 L (W.setCell ⟨X, j, none⟩ u) := by
  have hset : ∀ k, k ≠ X → (W.setCell ⟨X, j, none⟩ u).heap[k]? = W.heap[k]? := fun k hk => Below.heap_setCell _ _ _ _ hk
  have ho := h.out b (k := X) (.inr rfl)
  refine ⟨h.gr.keep (fun k hk => hset k (fun e => ho (e ▸ hk))), h.tx, h.own, ⟨h.fr.below.setCell (p := ⟨X, j, none⟩) (Nat.le_trans b.hB b.x1) _, fun k hk hF => (hset k (by have := b.x1; omega)).trans (h.fr.other k hk hF)⟩, (hset C b.ne.symm).trans h.cb, ?_, by simpa using h.h4⟩
  rw [← hy]
  exact heap_setCell_same W X j _ _ u h.xb
theorem NS.done {w W : World} {h4 B g m C X N1 : Nat} {v v1 : Value} {cs xs : Array Value} {D1 : DataW Unit} {L : List Ent} (b : Beside w h4 B g m v C X) (h : NS w h4 B g m v C X cs xs v1 N1 D1 L W) : GrTo w B g m v L W :=
  ⟨v1, N1, D1, h.gr, h.tx, h.own.imp id (fun e k hk => by have := e k hk; have := b.c1; have := b.c2; omega), h.fr⟩

end Go.Proofs.Ytchhjieciiaooaa
