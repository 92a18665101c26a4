/- What DiskTrips asks, of plain disks. -/
import Derived.Test.YtaflibnalhfenaaDkSureW
namespace Go.Proofs.Ytaflibnalhfenaa
open Go.RowKit
set_option linter.unusedVariables false

theorem good_run (l : List LAct) : ∀ k, k ≤ l.length → Good (runA (l.take k) (Dk.fresh 4)) k
  | 0, _ => Good.fresh
  | k + 1, h => by
    have hx := List.getElem?_eq_getElem (show k < l.length by omega)
    rw [runA_snoc l _ k _ hx]
    exact (good_run l k (by omega)).step _
theorem moves_step {D : Dk} {k : Nat} (h : Good D k) (a : LAct) : (dstep D a).moves = wrap64 (D.moves + 1) := by
  unfold dstep; split
  · simp [Dk.bar, h.moved]
  · simp [Dk.sto, Dk.put, h.moved]
theorem run_moves (l : List LAct) : ∀ k, k ≤ l.length → k ≤ 1000 → (runA (l.take k) (Dk.fresh 4)).moves = (k : Int)
  | 0, _, _ => rfl
  | k + 1, h, h2 => by
    have hx := List.getElem?_eq_getElem (show k < l.length by omega)
    rw [runA_snoc l _ k _ hx, moves_step (good_run l k (by omega)), run_moves l k (by omega) (by omega)]
    unfold wrap64
    omega

/-- A disk with the trip N, behind k acts. -/
structure XS (l : List LAct) (N k : Nat) (D : Dk) : Prop where
  secs : D.secs = (runA (l.take (min k N)) (Dk.fresh 4)).secs
  moves : D.moves = (runA (l.take (min k N)) (Dk.fresh 4)).moves
  trip : D.trip = (N : Int) - (min k N : Nat)
  dark : D.dark = decide (N < k)

theorem XS.start (l : List LAct) (N : Nat) : XS l N 0 { Dk.fresh 4 with trip := max (N : Int) (-1) } := by
  refine ⟨?_, ?_, ?_, ?_⟩
  · simp [runA]
  · simp [runA]
  · show max (N : Int) (-1) = _; omega
  · simp [Dk.fresh]
theorem XS.can {l : List LAct} {N k : Nat} {D : Dk} (h : XS l N k D) (hk : k < N) : D.can = true := by
  have h1 : (D.trip == 0) = false := by rw [beq_eq_false_iff_ne, h.trip]; omega
  have h2 : D.dark = false := by rw [h.dark]; simp; omega
  simp [Dk.can, h1, h2]
theorem XS.cannot {l : List LAct} {N k : Nat} {D : Dk} (h : XS l N k D) (hk : N ≤ k) : D.can = false := by
  have h1 : D.trip = 0 := by rw [h.trip]; omega
  simp [Dk.can, h1]
theorem XS.moved_dark {l : List LAct} {N k : Nat} {D : Dk} (h : XS l N k D) (hk : N ≤ k) : XS l N (k + 1) D.moved := by
  have h1 : D.trip = 0 := by rw [h.trip]; omega
  have e : D.moved = { D with dark := true } := by simp [Dk.moved, h1]
  have em : min (k + 1) N = min k N := by omega
  rw [e]
  refine ⟨?_, ?_, ?_, ?_⟩
  · rw [em]; exact h.secs
  · rw [em]; exact h.moves
  · rw [em]; exact h.trip
  · simp; omega
theorem XS.moved_on {l : List LAct} {N k : Nat} {D : Dk} (h : XS l N k D) (hk : k < N) : D.moved = { D with moves := wrap64 (D.moves + 1), trip := D.trip - 1 } := by
  have h0 : D.trip = (N : Int) - k := by rw [h.trip]; omega
  have h1 : ¬ D.trip = 0 := by rw [h0]; omega
  have h2 : D.dark = false := by rw [h.dark]; simp; omega
  have h3 : 0 < D.trip := by rw [h0]; omega
  simp [Dk.moved, h1, h2, h3]
theorem XS.bar {l : List LAct} {N k : Nat} {D : Dk} {a : LAct} (h : XS l N k D) (hk : k < N) (ha : l[k]? = some a) (h3 : among a.kind 4 = 3) : XS l N (k + 1) D.bar := by
  have hl := (List.getElem?_eq_some_iff.1 ha).1
  have e1 : min k N = k := by omega
  have e2 : min (k + 1) N = k + 1 := by omega
  have hG := good_run l k (by omega)
  have hs := runA_snoc l (Dk.fresh 4) k a ha
  have hst : dstep (runA (l.take k) (Dk.fresh 4)) a = (runA (l.take k) (Dk.fresh 4)).bar := by unfold dstep; rw [if_pos h3]
  have q1 := h.secs
  have q2 := h.moves
  have q3 := h.trip
  have q4 := h.dark
  rw [e1] at q1 q2 q3
  refine ⟨?_, ?_, ?_, ?_⟩
  · rw [e2, hs, hst]; simp [Dk.bar, q1]
  · rw [e2, hs, hst]; simp [Dk.bar, h.moved_on hk, hG.moved, q2]
  · rw [e2]; simp [Dk.bar, h.moved_on hk, q3]; omega
  · simp [Dk.bar, h.moved_on hk, q4]; omega
theorem XS.sto {l : List LAct} {N k : Nat} {D : Dk} {a : LAct} (h : XS l N k D) (hk : k < N) (ha : l[k]? = some a) (h3 : ¬ among a.kind 4 = 3) : XS l N (k + 1) (D.sto (among a.at_ 4) (allOf a.byte)) := by
  have hl := (List.getElem?_eq_some_iff.1 ha).1
  have e1 : min k N = k := by omega
  have e2 : min (k + 1) N = k + 1 := by omega
  have hG := good_run l k (by omega)
  have hs := runA_snoc l (Dk.fresh 4) k a ha
  have hst : dstep (runA (l.take k) (Dk.fresh 4)) a = (runA (l.take k) (Dk.fresh 4)).sto (among a.at_ 4) (allOf a.byte) := by unfold dstep; rw [if_neg h3]
  have q1 := h.secs
  have q2 := h.moves
  have q3 := h.trip
  have q4 := h.dark
  rw [e1] at q1 q2 q3
  refine ⟨?_, ?_, ?_, ?_⟩
  · rw [e2, hs, hst]; simp [Dk.sto, Dk.put, Dk.moved_secs, q1]
  · rw [e2, hs, hst]; simp [Dk.sto, Dk.put, h.moved_on hk, hG.moved, q2]
  · rw [e2]; simp [Dk.sto, Dk.put, h.moved_on hk, q3]; omega
  · simp [Dk.sto, Dk.put, h.moved_on hk, q4]; omega
theorem XS.few {l : List LAct} {N k : Nat} {D : Dk} (h : XS l N k D) (hk : k ≤ l.length) : D.secs.length = 4 ∧ ∀ (i : Nat) (s : Sec), D.secs[i]? = some s → s.wait.length ≤ k := by
  have hG := good_run l (min k N) (by omega)
  rw [h.secs]
  exact ⟨hG.four, fun i s hi => Nat.le_trans (hG.few i s hi) (by omega)⟩

theorem Store_can (w : World) (B p g : Nat) (vs : Nat → Value) (D : Dk) (hD : IsDisk w B p g vs D) (hc : D.can = true) (h4 : D.secs.length = 4) (hW : ∀ (i : Nat) (s : Sec), D.secs[i]? = some s → s.wait.length ≤ 1000000) (i : Nat) (hi : i < 4) (q c : Nat) (b : UInt8)
    (hq : w.heap[q]? = some (.cells (bv (allOf b)).toArray 5 (0, 0))) :
    Calls Try.prog 16 #[.pointer (some ⟨p, 0, none⟩), .int .i64 i, .slice (some ⟨q, 0, none⟩) 256 c] w fun e w' => e = .returned (.int .i64 0) ∧ (∃ vs', IsDisk w' B p g vs' (D.sto i (allOf b))) ∧ Fr B w w' := by
  have hil : i < D.secs.length := by rw [h4]; exact hi
  have hs := List.getElem?_eq_getElem hil
  have hne : q ≠ p := by intro e; subst e; have := hq.symm.trans hD.blk; simp at this
  refine (Store_ok w B p g vs D hD i _ hs ⟨q, 0, none⟩ c hc (hW i _ hs) (allOf b) (allOf_len b) (World.news_of_block hq) hne).mono ?_
  rintro e w' ⟨rfl, h1, h2⟩
  have e2 : D.sto i (allOf b) = D.moved.put i (D.secs[i].add (allOf b)) := by
    unfold Dk.sto; rw [List.getD_eq_getElem?_getD, hs]; rfl
  rw [e2]
  exact ⟨rfl, h1, h2⟩

structure XRel (w : World) (B p g : Nat) (l : List LAct) (N k : Nat) (wr : World) : Prop where
  ex : ∃ vs D, IsDisk wr B p g vs D ∧ XS l N k D
  fr : Below w.heap.size w wr

end Go.Proofs.Ytaflibnalhfenaa
