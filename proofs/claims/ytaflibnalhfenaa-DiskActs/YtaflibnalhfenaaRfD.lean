/- The document's answer beside a disk: move, Trip, last. -/
import Derived.Test.YtaflibnalhfenaaRfC
namespace Go.Proofs.Ytaflibnalhfenaa
open Go.RowKit
set_option linter.unusedVariables false

def Sec.vals (s : Sec) : List (List UInt8) := s.sure :: s.wait
def rof (D : Dk) : RDk := ⟨D.secs.map Sec.vals, D.moves, D.trip, D.dark⟩
theorem rof_fresh (n : Nat) : RDk.fresh n = rof (Dk.fresh n) := by simp [RDk.fresh, rof, Dk.fresh, Sec.vals]
theorem Sec.vals_get (s : Sec) (k : Nat) (hk : k ≤ s.wait.length) : s.vals[k]? = some (s.pick k) := by
  cases k with
  | zero => rfl
  | succ k => simp [Sec.vals, Sec.pick, List.getD_eq_getElem?_getD, List.getElem?_eq_getElem (show k < s.wait.length by omega)]
theorem Sec.vals_len (s : Sec) : s.vals.length = s.wait.length + 1 := rfl
theorem rof_get {D : Dk} {i : Nat} {s : Sec} (h : D.secs[i]? = some s) : (rof D).V[i]? = some s.vals := by simp [rof, h]
theorem rof_len (D : Dk) : (rof D).V.length = D.secs.length := by simp [rof]

theorem RIs.set {w : World} {B p : Nat} {v : Value} {vals : List Value} {R R' : RDk} (h : RIs w B p v vals R) (j : Nat) (u : Value) (hV : R'.V = R.V) (lo : -1 ≤ R'.left) (hi : R'.left ≤ 9223372036854775807)
    (hv : (#[v, .int .i64 R.done, .int .i64 R.left, .bool R.gone]).setIfInBounds j u = #[v, .int .i64 R'.done, .int .i64 R'.left, .bool R'.gone]) : RIs (w.setCell ⟨p, j, none⟩ u) B p v vals R' := by
  obtain ⟨k1, k2⟩ := h.kinds
  refine ⟨?_, ?_, h.bp, by simpa [World.setCell] using h.bw, ?_, lo, hi⟩
  · rw [heap_setCell_same w p j _ _ u h.blk, hv]
  · rw [hV]
    refine own_of_block h.own (fun k hk => Below.heap_setCell _ _ _ _ (fun e => ?_))
    subst e
    exact k1 hk.symm
  · intro i l hl
    rw [hV] at hl
    obtain ⟨sv, a, b⟩ := h.each i l hl
    refine ⟨sv, a, b.keep (fun k c f hk => Below.heap_setCell _ _ _ _ (fun e => ?_))⟩
    subst e
    have := h.blk.symm.trans hk
    simp at this
theorem fr2_setCell {B : Nat} {w : World} {a : Addr} {v : Value} {c : Array Value} {e : TypeId} {f : Nat × Nat} (hb : B ≤ a.block) (ha : w.heap[a.block]? = some (.cells c e f)) (he : e = 52 ∨ e = 68) : Fr2 B w (w.setCell a v) :=
  ⟨(Below.refl _ _).setCell hb v, fun k c' e' f' hk h1 h2 => by
    refine Below.heap_setCell w a v k ?_
    intro e0; subst e0
    have := ha.symm.trans hk
    simp at this
    obtain ⟨_, rfl, _⟩ := this
    rcases he with he | he
    · exact h1 he
    · exact h2 he⟩

set_option maxRecDepth 100000 in
set_option maxHeartbeats 400000 in
theorem rmove_gone (p : Nat) (w : World) (h3 : w.cell? ⟨p, 3, none⟩ = some (.bool true)) (hf : w.frozen? ⟨p, 3, none⟩ = false) :
    Calls Try.prog 43 #[.pointer (some ⟨p, 0, none⟩)] w fun e w' => e = .returned (.bool false) ∧ w' = w.setCell ⟨p, 3, none⟩ (.bool true) := by
  go_enter Try.func43, Try.ntmps43
  go_wp2
  go_ret
  exact ⟨rfl, rfl⟩
set_option maxRecDepth 100000 in
set_option maxHeartbeats 400000 in
theorem rmove_trip (p : Nat) (w : World) (h2 : w.cell? ⟨p, 2, none⟩ = some (.int .i64 0)) (h3 : w.cell? ⟨p, 3, none⟩ = some (.bool false)) (hf : w.frozen? ⟨p, 3, none⟩ = false) :
    Calls Try.prog 43 #[.pointer (some ⟨p, 0, none⟩)] w fun e w' => e = .returned (.bool false) ∧ w' = w.setCell ⟨p, 3, none⟩ (.bool true) := by
  go_enter Try.func43, Try.ntmps43
  go_wp2
  go_ret
  exact ⟨rfl, rfl⟩
set_option maxRecDepth 100000 in
set_option maxHeartbeats 400000 in
theorem rmove_free (p : Nat) (w : World) (m t : Int) (ht : t < 0) (h1 : w.cell? ⟨p, 1, none⟩ = some (.int .i64 m)) (h2 : w.cell? ⟨p, 2, none⟩ = some (.int .i64 t)) (h3 : w.cell? ⟨p, 3, none⟩ = some (.bool false)) (hf1 : w.frozen? ⟨p, 1, none⟩ = false) :
    Calls Try.prog 43 #[.pointer (some ⟨p, 0, none⟩)] w fun e w' => e = .returned (.bool true) ∧ w' = w.setCell ⟨p, 1, none⟩ (.int .i64 (wrap64 (m + 1))) := by
  have hb : (t == 0) = false := by simp; omega
  go_enter Try.func43, Try.ntmps43
  go_wp2
  go_ret
  exact ⟨rfl, rfl⟩
set_option maxRecDepth 100000 in
set_option maxHeartbeats 400000 in
theorem rmove_down (p : Nat) (w : World) (m t : Int) (ht : 0 < t) (ht' : t ≤ 9223372036854775807) (h1 : w.cell? ⟨p, 1, none⟩ = some (.int .i64 m)) (h2 : w.cell? ⟨p, 2, none⟩ = some (.int .i64 t)) (h3 : w.cell? ⟨p, 3, none⟩ = some (.bool false)) (hf1 : w.frozen? ⟨p, 1, none⟩ = false) (hf2 : w.frozen? ⟨p, 2, none⟩ = false) :
    Calls Try.prog 43 #[.pointer (some ⟨p, 0, none⟩)] w fun e w' => e = .returned (.bool true) ∧ w' = (w.setCell ⟨p, 2, none⟩ (.int .i64 (t - 1))).setCell ⟨p, 1, none⟩ (.int .i64 (wrap64 (m + 1))) := by
  have hb : (t == 0) = false := by simp; omega
  go_enter Try.func43, Try.ntmps43
  go_wp2
  go_ret
  exact ⟨rfl, rfl⟩

theorem rmove_any (w : World) (B p : Nat) (v : Value) (vals : List Value) (D : Dk) (h : RIs w B p v vals (rof D)) :
    Calls Try.prog 43 #[.pointer (some ⟨p, 0, none⟩)] w fun e w' => e = .returned (.bool D.can) ∧ RIs w' B p v vals (rof D.moved) ∧ Fr2 B w w' := by
  obtain ⟨c0, c1, c2, c3, cf⟩ := h.cells
  have c1 : w.cell? ⟨p, 1, none⟩ = some (.int .i64 D.moves) := c1
  have c2 : w.cell? ⟨p, 2, none⟩ = some (.int .i64 D.trip) := c2
  have c3 : w.cell? ⟨p, 3, none⟩ = some (.bool D.dark) := c3
  have lo : -1 ≤ D.trip := h.lo
  have hi : D.trip ≤ 9223372036854775807 := h.hi
  have hV : (rof D.moved).V = (rof D).V := by simp [rof, Dk.moved_secs]
  by_cases hd : D.dark = true
  · rw [hd] at c3
    refine (rmove_gone p w c3 (cf 3)).mono ?_
    rintro e w' ⟨rfl, rfl⟩
    refine ⟨by simp [Dk.can, hd], h.set 3 _ hV ?_ ?_ ?_, fr2_setCell h.bp h.blk (.inl rfl)⟩
    · by_cases ht : D.trip = 0 <;> simp [rof, Dk.moved, ht, hd, lo]
    · by_cases ht : D.trip = 0 <;> simp [rof, Dk.moved, ht, hd, hi]
    · by_cases ht : D.trip = 0 <;> simp [rof, Dk.moved, ht, hd]
  · have hd' : D.dark = false := by simpa using hd
    rw [hd'] at c3
    by_cases ht : D.trip = 0
    · rw [ht] at c2
      refine (rmove_trip p w c2 c3 (cf 3)).mono ?_
      rintro e w' ⟨rfl, rfl⟩
      refine ⟨by simp [Dk.can, ht], h.set 3 _ hV ?_ ?_ ?_, fr2_setCell h.bp h.blk (.inl rfl)⟩ <;> simp [rof, Dk.moved, ht]
    · have hcan : D.can = true := by simp [Dk.can, ht, hd']
      by_cases hp : 0 < D.trip
      · refine (rmove_down p w D.moves D.trip hp hi c1 c2 c3 (cf 1) (cf 2)).mono ?_
        rintro e w' ⟨rfl, rfl⟩
        have e : D.moved = { D with moves := wrap64 (D.moves + 1), trip := D.trip - 1 } := by simp [Dk.moved, ht, hd', hp]
        have h1 : RIs (w.setCell ⟨p, 2, none⟩ (.int .i64 (D.trip - 1))) B p v vals (rof { D with trip := D.trip - 1 }) := h.set 2 _ rfl (by show -1 ≤ D.trip - 1; omega) (by show D.trip - 1 ≤ _; omega) rfl
        have h2 := h1.set (R' := rof { D with moves := wrap64 (D.moves + 1), trip := D.trip - 1 }) 1 (.int .i64 (wrap64 (D.moves + 1))) rfl h1.lo h1.hi rfl
        rw [e, hcan]
        exact ⟨rfl, h2, (fr2_setCell h.bp h.blk (.inl rfl)).trans (fr2_setCell h1.bp h1.blk (.inl rfl))⟩
      · refine (rmove_free p w D.moves D.trip (by omega) c1 c2 c3 (cf 1)).mono ?_
        rintro e w' ⟨rfl, rfl⟩
        have e : D.moved = { D with moves := wrap64 (D.moves + 1) } := by simp [Dk.moved, ht, hd', hp]
        have h2 := h.set (R' := rof { D with moves := wrap64 (D.moves + 1) }) 1 (.int .i64 (wrap64 (D.moves + 1))) rfl lo hi rfl
        rw [e, hcan]
        exact ⟨rfl, h2, fr2_setCell h.bp h.blk (.inl rfl)⟩

set_option maxRecDepth 100000 in
set_option maxHeartbeats 400000 in
theorem rTrip_any (w : World) (B p : Nat) (v : Value) (vals : List Value) (D : Dk) (hD : RIs w B p v vals (rof D)) (n : Int) (hn : n ≤ 9223372036854775807) :
    Calls Try.prog 25 #[.pointer (some ⟨p, 0, none⟩), .int .i64 n] w fun e w' => e = .returned (.tuple #[]) ∧ RIs w' B p v vals (rof { D with trip := max n (-1) }) ∧ Fr2 B w w' := by
  obtain ⟨_, _, c2, _, cf⟩ := hD.cells
  have cf2 := cf 2
  clear cf
  go_enter Try.func25, Try.ntmps25
  go_wp2
  · have hlt : n < -1 := by assumption
    have hm : max n (-1) = -1 := by omega
    go_end0
    refine ⟨rfl, ?_, fr2_setCell hD.bp hD.blk (.inl rfl)⟩
    rw [hm]
    exact hD.set 2 _ rfl (by show (-1 : Int) ≤ -1; omega) (by show (-1 : Int) ≤ _; omega) rfl
  · have hle : -1 ≤ n := by assumption
    have hm : max n (-1) = n := by omega
    go_end0
    refine ⟨rfl, ?_, fr2_setCell hD.bp hD.blk (.inl rfl)⟩
    rw [hm]
    exact hD.set 2 _ rfl hle hn rfl

/-- A member of the reference's, with its cells. -/
theorem RIs.mem {w : World} {B p : Nat} {v : Value} {vals : List Value} {D : Dk} (h : RIs w B p v vals (rof D)) (i : Nat) (s : Sec) (hi : D.secs[i]? = some s) :
    ∃ g gc q c, v = .slice (some ⟨g, 0, none⟩) D.secs.length gc ∧ w.cell? ⟨g, i, none⟩ = some (.slice (some ⟨q, 0, none⟩) (s.wait.length + 1) c) ∧ w.frozen? ⟨g, i, none⟩ = false ∧ s.wait.length + 1 ≤ c ∧ c ≤ 9223372036854775807 ∧ ∀ k, k ≤ s.wait.length → w.cell? ⟨q, k, none⟩ = some (str (s.pick k)) := by
  obtain ⟨sv, a, q, c, cur, rfl, h2, h3, h4, h5⟩ := h.each i _ (rof_get hi)
  have hil := (List.getElem?_eq_some_iff.1 hi).1
  have hown := h.own
  rw [rof_len] at hown
  rcases hown.2 with ⟨_, e2⟩ | ⟨g, gc, gcur, e1, _, hq, hc1, hc2, hc3, hc4⟩
  · omega
  · refine ⟨g, gc, q, c, e1, ?_, frozen_of_row _ _ _ _ _ hq, h3, h4, fun k hk => ?_⟩
    · rw [cell_of_row _ _ _ _ _ _ hq]
      rw [← hc4, List.getElem?_take] at a
      split at a
      · rw [Array.getElem?_toList] at a; exact a
      · cases a
    · rw [cell_of_row _ _ _ _ _ _ h2]
      exact h5 k _ (s.vals_get k hk)

set_option maxRecDepth 100000 in
set_option maxHeartbeats 400000 in
theorem rlast_any (w : World) (B p : Nat) (v : Value) (vals : List Value) (D : Dk) (h : RIs w B p v vals (rof D)) (i : Nat) (s : Sec) (hi : D.secs[i]? = some s) :
    Calls Try.prog 46 #[.pointer (some ⟨p, 0, none⟩), .int .i64 i] w fun e w' => e = .returned (str s.last) ∧ w' = w.drew := by
  obtain ⟨g, gc, q, c, rfl, h1, _, h2, h3, h4⟩ := h.mem i s hi
  have h5 := h4 _ (Nat.le_refl _)
  have c0 := h.cells.1
  have hil := (List.getElem?_eq_some_iff.1 hi).1
  have hl : str (s.pick s.wait.length) = str s.last := rfl
  rw [hl] at h5
  generalize str s.last = S at *
  generalize s.wait.length = k at *
  have hw : IntKind.i64.wrap (k : Int) = k := by rw [IntKind.wrap_i64]; omega
  have hk1 : (k : Int) < (k : Int) + 1 := by omega
  clear h4 h hi
  go_enter Try.func46, Try.ntmps46
  go_wp2
  go_region_law (fail)
  all_goals
    go_wp2
    go_ret
    exact ⟨rfl, rfl⟩

end Go.Proofs.Ytaflibnalhfenaa
