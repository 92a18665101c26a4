/- The document's answer in memory: what it is, and what keeps it; nought. -/
import Derived.Test.YtaflibnalhfenaaDkT
namespace Go.Proofs.Ytaflibnalhfenaa
open Go.RowKit
set_option linter.unusedVariables false

structure RDk where
  V : List (List (List UInt8))
  done : Int
  left : Int
  gone : Bool

abbrev str (x : List UInt8) : Value := .string ⟨x.toArray⟩
/-- A slice of texts, never written again. -/
def StrsAt (w : World) (sv : Value) (l : List (List UInt8)) : Prop :=
  ∃ (q c : Nat) (cur : Array Value), sv = .slice (some ⟨q, 0, none⟩) l.length c ∧ w.heap[q]? = some (.cells cur 9 (0, 0)) ∧ l.length ≤ c ∧ c ≤ 9223372036854775807 ∧ ∀ (j : Nat) (x : List UInt8), l[j]? = some x → cur[j]? = some (str x)

structure RIs (w : World) (B p : Nat) (v : Value) (vals : List Value) (R : RDk) : Prop where
  blk : w.heap[p]? = some (.cells #[v, .int .i64 R.done, .int .i64 R.left, .bool R.gone] 52 (0, 0))
  own : w.ownsRow B 68 1 v R.V.length vals
  bp : B ≤ p
  bw : B ≤ w.heap.size
  each : ∀ (i : Nat) (l : List (List UInt8)), R.V[i]? = some l → ∃ sv, vals[i]? = some sv ∧ StrsAt w sv l
  lo : -1 ≤ R.left
  hi : R.left ≤ 9223372036854775807

structure Fr2 (B : Nat) (w w' : World) : Prop where
  below : Below B w w'
  other : ∀ (k : Nat) (c : Array Value) (e : TypeId) (f : Nat × Nat), w.heap[k]? = some (.cells c e f) → e ≠ 52 → e ≠ 68 → w'.heap[k]? = w.heap[k]?
theorem Fr2.refl (B : Nat) (w : World) : Fr2 B w w := ⟨Below.refl _ _, fun _ _ _ _ _ _ _ => rfl⟩
theorem Fr2.trans {B : Nat} {a b c : World} (h : Fr2 B a b) (k : Fr2 B b c) : Fr2 B a c :=
  ⟨h.below.trans k.below, fun i cs e f hi h1 h2 => by
    have e1 := h.other i cs e f hi h1 h2
    rw [← e1]
    exact k.other i cs e f (e1.trans hi) h1 h2⟩
theorem Fr2.of_below {B : Nat} {w w' : World} (h : Below w.heap.size w w') (hB : B ≤ w.heap.size) : Fr2 B w w' :=
  ⟨h.mono hB, fun k _ _ _ hk _ _ => h.block k (lt_of_heap hk)⟩

theorem StrsAt.keep {w w' : World} {sv : Value} {l : List (List UInt8)} (h : StrsAt w sv l) (hk : ∀ (k : Nat) (c : Array Value) (f : Nat × Nat), w.heap[k]? = some (.cells c 9 f) → w'.heap[k]? = w.heap[k]?) : StrsAt w' sv l := by
  obtain ⟨q, c, cur, h1, h2, h3⟩ := h
  exact ⟨q, c, cur, h1, (hk q cur (0, 0) h2).trans h2, h3⟩
theorem StrsAt.fr2 {w w' : World} {B : Nat} {sv : Value} {l : List (List UInt8)} (h : StrsAt w sv l) (f : Fr2 B w w') : StrsAt w' sv l :=
  h.keep (fun k c fz hk => f.other k c _ fz hk (by decide) (by decide))
theorem StrsAt.below {w w' : World} {sv : Value} {l : List (List UInt8)} (h : StrsAt w sv l) (f : Below w.heap.size w w') : StrsAt w' sv l :=
  h.keep (fun k c fz hk => f.block k (lt_of_heap hk))

/-- Lists that are as they were, or new. -/
def NewOr (w : World) (vals vals' : List Value) : Prop := ∀ sv ∈ vals', sv ∈ vals ∨ ∀ k, sv.ownBlock = some k → w.heap.size ≤ k
theorem NewOr.refl (w : World) (vals : List Value) : NewOr w vals vals := fun _ h => .inl h
theorem NewOr.put {w : World} {vals vals' : List Value} (h : NewOr w vals vals') (i : Nat) {sv : Value} (hs : ∀ k, sv.ownBlock = some k → w.heap.size ≤ k) : NewOr w vals (vals'.set i sv) := fun u hu => by
  rcases List.mem_or_eq_of_mem_set hu with h1 | h1
  · exact h u h1
  · subst h1
    exact .inr hs
theorem NewOr.later {w w' : World} {vals vals' : List Value} (h : NewOr w' vals vals') (hs : w.heap.size ≤ w'.heap.size) : NewOr w vals vals' := fun u hu => (h u hu).elim .inl (fun h1 => .inr (fun k hk => Nat.le_trans hs (h1 k hk)))

theorem RIs.kinds {w : World} {B p : Nat} {v : Value} {vals : List Value} {R : RDk} (h : RIs w B p v vals R) : some p ≠ v.ownBlock ∧ (∀ k, v.ownBlock = some k → ∃ cur, w.heap[k]? = some (.cells cur 68 (0, 0))) := by
  have hk : ∀ k, v.ownBlock = some k → ∃ cur, w.heap[k]? = some (.cells cur 68 (0, 0)) := by
    intro k hk
    rcases h.own.2 with ⟨rfl, _⟩ | ⟨q, cap, cur, rfl, _, hq, _⟩
    · simp [Value.ownBlock] at hk
    · simp [Value.ownBlock] at hk; subst hk; exact ⟨cur, hq⟩
  refine ⟨fun e => ?_, hk⟩
  obtain ⟨cur, hc⟩ := hk p e.symm
  have := h.blk.symm.trans hc
  simp at this

theorem RIs.below {w w' : World} {B p : Nat} {v : Value} {vals : List Value} {R : RDk} (h : RIs w B p v vals R) (hb : Below w.heap.size w w') : RIs w' B p v vals R :=
  ⟨(hb.block _ (lt_of_heap h.blk)).trans h.blk, own_below h.own hb, h.bp, Nat.le_trans h.bw hb.size, fun i l hi => by obtain ⟨sv, a, b⟩ := h.each i l hi; exact ⟨sv, a, b.below hb⟩, h.lo, h.hi⟩

theorem RIs.cells {w : World} {B p : Nat} {v : Value} {vals : List Value} {R : RDk} (h : RIs w B p v vals R) :
    w.cell? ⟨p, 0, none⟩ = some v ∧ w.cell? ⟨p, 1, none⟩ = some (.int .i64 R.done) ∧ w.cell? ⟨p, 2, none⟩ = some (.int .i64 R.left) ∧ w.cell? ⟨p, 3, none⟩ = some (.bool R.gone) ∧ ∀ j, w.frozen? ⟨p, j, none⟩ = false :=
  ⟨by rw [cell_of_row _ _ _ _ _ _ h.blk]; rfl, by rw [cell_of_row _ _ _ _ _ _ h.blk]; rfl, by rw [cell_of_row _ _ _ _ _ _ h.blk]; rfl, by rw [cell_of_row _ _ _ _ _ _ h.blk]; rfl, fun j => frozen_of_row _ _ _ _ _ h.blk⟩

/-- A member behind the others. -/
theorem RIs.push {w W w1 : World} {B p : Nat} {v v' : Value} {vals : List Value} {R : RDk} (h : RIs w B p v vals R) (hW : Below w.heap.size w W) (sv : Value) (l : List (List UInt8)) (hs : StrsAt W sv l)
    (hown : w1.ownsRow B 68 1 v' (R.V.length + 1) (vals ++ [sv])) (hg : W.grownBy w1 v.ownBlock) :
    RIs (w1.setCell ⟨p, 0, none⟩ v') B p v' (vals ++ [sv]) { R with V := R.V ++ [l] } ∧ Fr2 B w (w1.setCell ⟨p, 0, none⟩ v') := by
  have hW' := h.below hW
  obtain ⟨k1, k2⟩ := hW'.kinds
  have hp1 : w1.heap[p]? = W.heap[p]? := hg.block p (lt_of_heap hW'.blk) k1
  have hset : ∀ k, k ≠ p → (w1.setCell ⟨p, 0, none⟩ v').heap[k]? = w1.heap[k]? := fun k hk => Below.heap_setCell _ _ _ _ hk
  have hkeep : ∀ (k : Nat) (c : Array Value) (e : TypeId) (f : Nat × Nat), W.heap[k]? = some (.cells c e f) → e ≠ 52 → e ≠ 68 → (w1.setCell ⟨p, 0, none⟩ v').heap[k]? = W.heap[k]? := by
    intro k c e f hk h1 h2
    rw [hset k (fun e0 => by subst e0; have := hW'.blk.symm.trans hk; simp at this; exact h1 this.2.1.symm)]
    refine hg.block k (lt_of_heap hk) (fun e0 => ?_)
    obtain ⟨cur, hc⟩ := k2 k e0.symm
    have := hc.symm.trans hk
    simp at this
    exact h2 this.2.1.symm
  have hsz : w.heap.size ≤ w1.heap.size := Nat.le_trans hW.size hg.size
  refine ⟨⟨?_, ?_, h.bp, ?_, ?_, h.lo, h.hi⟩, ⟨⟨?_, ?_, ?_, ?_, ?_⟩, ?_⟩⟩
  · rw [heap_setCell_same w1 p 0 _ _ v' (hp1.trans hW'.blk)]; rfl
  · have e : ({ R with V := R.V ++ [l] } : RDk).V.length = R.V.length + 1 := by simp
    rw [e]
    refine own_of_block hown (fun k hk => hset k (fun e0 => ?_))
    subst e0
    rcases hown.2 with ⟨e1, _⟩ | ⟨q, cap, cur, e1, _, hq, _⟩
    · rw [e1] at hk; simp [Value.ownBlock] at hk
    · rw [e1] at hk; simp [Value.ownBlock] at hk; subst hk
      have := (hp1.trans hW'.blk).symm.trans hq
      simp at this
  · have := h.bw; simpa [World.setCell] using Nat.le_trans this hsz
  · intro i l' hi
    have hvl : vals.length = R.V.length := by have := h.own.1; simpa using this
    by_cases hlt : i < R.V.length
    · have hi' : R.V[i]? = some l' := by simpa [List.getElem?_append_left hlt] using hi
      obtain ⟨sv', a, b⟩ := hW'.each i l' hi'
      exact ⟨sv', by rw [List.getElem?_append_left (by omega)]; exact a, b.keep (fun k c f hk => hkeep k c _ f hk (by decide) (by decide))⟩
    · have hie : i = R.V.length := by
        have := (List.getElem?_eq_some_iff.1 hi).1
        simp at this; omega
      subst hie
      simp at hi
      subst hi
      exact ⟨sv, by rw [← hvl]; simp, hs.keep (fun k c f hk => hkeep k c _ f hk (by decide) (by decide))⟩
  · exact hg.os.trans hW.os
  · exact hg.tape.trans hW.tape
  · exact hg.output.trans hW.output
  · simpa [World.setCell] using hsz
  · intro k hk
    have hbp := h.bp
    have hbw := h.bw
    rw [hset k (by omega)]
    refine (hg.block k (by have := hW.size; omega) (fun e0 => ?_)).trans (hW.block k (by omega))
    have := (h.own.lt k e0.symm).1
    omega
  · intro k c e f hk h1 h2
    have hkl := lt_of_heap hk
    have hk' : W.heap[k]? = some (.cells c e f) := (hW.block k hkl).trans hk
    exact (hkeep k c e f hk' h1 h2).trans (hW.block k hkl)

theorem nought_eq : nought = allOf 0 := rfl
set_option maxHeartbeats 400000 in
set_option maxRecDepth 100000 in
theorem nought_any (w : World) :
    Calls Try.prog 38 #[] w fun e w' => e = .returned (str nought) ∧ w' = w.alloc (.cells (bv nought).toArray 5) := by
  have hmk := makeB w 0
  have e0 : orow 0 0 = (bv nought).toArray := by
    unfold orow bv nought
    rw [List.map_replicate, List.replicate_zero, List.nil_append]
    rfl
  rw [e0] at hmk
  have hcv := conv_bytes (w.alloc (.cells (bv nought).toArray 5)) (some ⟨w.heap.size, 0, none⟩) nought 256 (bytes_of_block (heap_alloc_last w _))
  rw [nought_len] at hcv
  clear e0
  have hstr : str nought = .string ⟨nought.toArray⟩ := rfl
  rw [hstr]
  clear hstr
  generalize nought = N0 at *
  go_enter Try.func38, Try.ntmps38
  go_wp2
  go_ret
  exact ⟨rfl, rfl⟩

end Go.Proofs.Ytaflibnalhfenaa
