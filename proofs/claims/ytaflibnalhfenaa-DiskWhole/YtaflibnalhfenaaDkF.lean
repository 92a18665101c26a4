/- Contracts of move and Store over a disk as a plain value. -/
import Derived.Test.YtaflibnalhfenaaDkE
namespace Go.Proofs.Ytaflibnalhfenaa
open Go.RowKit
set_option linter.unusedVariables false

def Dk.can (D : Dk) : Bool := !(D.trip == 0) && !D.dark
def Dk.moved (D : Dk) : Dk :=
  if D.trip = 0 then { D with dark := true }
  else if D.dark = true then D
  else { D with moves := wrap64 (D.moves + 1), trip := if 0 < D.trip then D.trip - 1 else D.trip }
theorem Dk.moved_secs (D : Dk) : D.moved.secs = D.secs := by unfold Dk.moved; split; · rfl
                                                             split <;> rfl

theorem made_any (w : World) (B p g : Nat) (vs : Nat → Value) (D : Dk) (h : IsDisk w B p g vs D) :
    Calls Try.prog 39 #[.pointer (some ⟨p, 0, none⟩)] w fun e w' => e = .returned (.bool true) ∧ w' = w := by
  refine (made_at p w _ _ _ h.cells.1).mono ?_
  rintro e w' ⟨rfl, rfl⟩
  have := h.one
  exact ⟨by simp; omega, rfl⟩

theorem move_any (w : World) (B p g : Nat) (vs : Nat → Value) (D : Dk) (h : IsDisk w B p g vs D) :
    Calls Try.prog 41 #[.pointer (some ⟨p, 0, none⟩)] w fun e w' => e = .returned (.bool D.can) ∧ IsDisk w' B p g vs D.moved ∧ Fr B w w' ∧ ∀ k, k ≠ p → w'.heap[k]? = w.heap[k]? := by
  obtain ⟨c0, c1, c2, c3, cf⟩ := h.cells
  have lo := h.lo
  have hi := h.hi
  by_cases ht : D.trip = 0
  · rw [ht] at c2
    refine (move_trip p w D.dark c2 c3 (cf 3)).mono ?_
    rintro e w' ⟨rfl, rfl⟩
    refine ⟨by simp [Dk.can, ht], ?_, fr_setCell h.bp h.blk (.inl rfl), fun k hk => Below.heap_setCell _ _ _ _ hk⟩
    have e : D.moved = { D with dark := true } := by simp [Dk.moved, ht]
    rw [e]
    exact h.set 3 (.bool true) rfl lo hi rfl
  · have hb : (D.trip == 0) = false := by simpa using ht
    by_cases hd : D.dark = true
    · rw [hd] at c3
      refine (move_dark p w D.trip hb c2 c3).mono ?_
      rintro e w' ⟨rfl, rfl⟩
      have e : D.moved = D := by simp [Dk.moved, ht, hd]
      rw [e]
      exact ⟨by simp [Dk.can, hd], h, Fr.refl _ _, fun _ _ => rfl⟩
    · have hd' : D.dark = false := by simpa using hd
      rw [hd'] at c3
      have hcan : D.can = true := by simp [Dk.can, hb, hd']
      by_cases hp : 0 < D.trip
      · refine (move_down p w D.moves D.trip hp hi c1 c2 c3 (cf 1) (cf 2)).mono ?_
        rintro e w' ⟨rfl, rfl⟩
        have e : D.moved = { D with moves := wrap64 (D.moves + 1), trip := D.trip - 1 } := by simp [Dk.moved, ht, hd', hp]
        have h1 : IsDisk (w.setCell ⟨p, 2, none⟩ (.int .i64 (D.trip - 1))) B p g vs { D with trip := D.trip - 1 } := h.set 2 _ rfl (by show -1 ≤ D.trip - 1; omega) (by show D.trip - 1 ≤ _; omega) rfl
        have h2 := h1.set (D' := { D with moves := wrap64 (D.moves + 1), trip := D.trip - 1 }) 1 (.int .i64 (wrap64 (D.moves + 1))) rfl h1.lo h1.hi rfl
        rw [e, hcan]
        exact ⟨rfl, h2, (fr_setCell h.bp h.blk (.inl rfl)).trans (fr_setCell h1.bp h1.blk (.inl rfl)), fun k hk => (Below.heap_setCell _ _ _ _ hk).trans (Below.heap_setCell _ _ _ _ hk)⟩
      · refine (move_free p w D.moves D.trip (by omega) c1 c2 c3 (cf 1)).mono ?_
        rintro e w' ⟨rfl, rfl⟩
        have e : D.moved = { D with moves := wrap64 (D.moves + 1) } := by simp [Dk.moved, ht, hd', hp]
        have h2 := h.set (D' := { D with moves := wrap64 (D.moves + 1) }) 1 (.int .i64 (wrap64 (D.moves + 1))) rfl lo hi rfl
        rw [e, hcan]
        exact ⟨rfl, h2, fr_setCell h.bp h.blk (.inl rfl), fun k hk => Below.heap_setCell _ _ _ _ hk⟩

/-- A value behind the others of a sector's cache. -/
theorem IsDisk.added {w w1 : World} {B p g : Nat} {vs : Nat → Value} {D : Dk} (h : IsDisk w B p g vs D) (i : Nat) (s : Sec) (hi : D.secs[i]? = some s) (x : List UInt8) (hx : x.length = 256) (q cap : Nat)
    (hown : w1.ownsRow B 75 256 (.slice (some ⟨q, 0, none⟩) (s.wait.length + 1) cap) (s.wait.length + 1) (s.wait.flatMap bv ++ bv x)) (hg : w.grownBy w1 (vs i).ownBlock) (hat : (vs i).ownBlock = some q ∨ w.heap.size ≤ q) :
    IsDisk (w1.setCell ⟨g, i * 257, none⟩ (.slice (some ⟨q, 0, none⟩) (s.wait.length + 1) cap)) B p g (upd vs i (.slice (some ⟨q, 0, none⟩) (s.wait.length + 1) cap)) (D.put i (s.add x)) ∧
      Fr B w (w1.setCell ⟨g, i * 257, none⟩ (.slice (some ⟨q, 0, none⟩) (s.wait.length + 1) cap)) := by
  have hil := (List.getElem?_eq_some_iff.1 hi).1
  obtain ⟨lp, lg, lk⟩ := h.lt
  obtain ⟨k1, k2⟩ := h.kinds
  have hs := h.sec i s hi
  obtain ⟨cur, hcur, hcs⟩ := h.row
  have np : some p ≠ (vs i).ownBlock := fun e => (k2 i p hil e.symm).1 rfl
  have ng : some g ≠ (vs i).ownBlock := fun e => (k2 i g hil e.symm).2 rfl
  have hp1 := hg.block p lp np
  have hg1 := hg.block g lg ng
  have hcur1 := hg1.trans hcur
  have hqg : q ≠ g := by
    intro e; subst e
    rcases hown.2 with ⟨hv, _⟩ | ⟨q', cap', cur', hv, _, hq, _⟩
    · simp at hv
    · simp at hv; obtain ⟨rfl, _⟩ := hv
      have := hcur1.symm.trans hq; simp at this
  have hj : ∀ j k, j < D.secs.length → j ≠ i → (vs j).ownBlock = some k → some k ≠ (vs i).ownBlock := by
    intro j k hj hji hk e
    rcases h.apart j i hj hil hji with h0 | h0
    · rw [h0] at hk; cases hk
    · exact h0 (by rw [hk, e])
  have hset : ∀ k, k ≠ g → (w1.setCell ⟨g, i * 257, none⟩ (.slice (some ⟨q, 0, none⟩) (s.wait.length + 1) cap)).heap[k]? = w1.heap[k]? := fun k hk => Below.heap_setCell _ _ _ _ hk
  have hrow := heap_setCell_same w1 g (i * 257) cur _ (.slice (some ⟨q, 0, none⟩) (s.wait.length + 1) cap) hcur1
  have hcell : ∀ o, o ≠ i * 257 → (w1.setCell ⟨g, i * 257, none⟩ (.slice (some ⟨q, 0, none⟩) (s.wait.length + 1) cap)).cell? ⟨g, o, none⟩ = w.cell? ⟨g, o, none⟩ := by
    intro o ho
    rw [cell_of_row _ _ _ _ _ _ hrow, cell_of_row _ _ _ _ _ _ hcur, Array.getElem?_setIfInBounds, if_neg (Ne.symm ho)]
  refine ⟨h.sector i hil _ _ ?_ ?_ ?_ ?_ ?_ ?_ ?_, ⟨⟨?_, ?_, ?_, ?_, ?_⟩, ?_⟩⟩
  · rw [hset p k1]; exact hp1
  · simpa [World.setCell] using hg.size
  · exact ⟨_, hrow, by simpa using hcs⟩
  · intro o ho
    exact hcell o (by omega)
  · intro j k hjl hji hk
    rw [hset k (k2 j k hjl hk).2]
    exact hg.block k (lk j k hjl hk) (hj j k hjl hji hk)
  · intro j k hjl hji hk e
    have e : q = k := by simpa [Value.ownBlock] using e
    subst e
    rcases hat with hat | hat
    · exact hj j q hjl hji hk hat.symm
    · have := lk j q hjl hk; omega
  · refine ⟨Sec.ok_add hs.ok hx, ?_, ?_, ?_⟩
    · rw [cell_of_row _ _ _ _ _ _ hrow, Array.getElem?_setIfInBounds, if_pos rfl, if_pos (by omega)]
    · intro j u hu
      rw [hcell _ (by omega)]
      exact hs.sure j u hu
    · have e1 : (s.add x).wait.flatMap bv = s.wait.flatMap bv ++ bv x := by simp [Sec.add]
      have e2 : (s.add x).wait.length = s.wait.length + 1 := by simp [Sec.add]
      rw [e1, e2]
      refine own_of_block hown (fun k hk => hset k ?_)
      have : q = k := by simpa [Value.ownBlock] using hk
      omega
  · exact hg.os
  · exact hg.tape
  · exact hg.output
  · simpa [World.setCell] using hg.size
  · intro k hk
    have := h.bg
    rw [hset k (by omega)]
    have := h.bw
    refine hg.block k (by omega) (fun e => ?_)
    have := (hs.own.lt k e.symm).1
    omega
  · intro k c e f hk h1 h2 h3
    rw [hset k (fun e0 => by subst e0; have := hcur.symm.trans hk; simp at this; exact h3 this.2.1.symm)]
    refine hg.block k (lt_of_heap hk) (fun e0 => ?_)
    obtain ⟨c', hc'⟩ := hs.blk e0.symm
    have := hc'.symm.trans hk
    simp at this
    exact h2 this.2.1.symm

end Go.Proofs.Ytaflibnalhfenaa
