/- The contracts of Fetch, Moves, Count, Trip. -/
import Derived.Test.YtaflibnalhfenaaDkH
namespace Go.Proofs.Ytaflibnalhfenaa
open Go.RowKit
set_option linter.unusedVariables false

theorem IsDisk.get {w : World} {B p g : Nat} {vs : Nat → Value} {D : Dk} (h : IsDisk w B p g vs D) (i : Nat) (hi : i < D.secs.length) : SecAt w B g (i * 257) (vs i) D.secs[i] := h.sec i _ (List.getElem?_eq_getElem hi)

set_option maxHeartbeats 400000 in
set_option maxRecDepth 100000 in
theorem Fetch_ok (w : World) (B p g : Nat) (vs : Nat → Value) (D : Dk) (h : IsDisk w B p g vs D) (i : Nat) (s : Sec) (hi : D.secs[i]? = some s) (hd : D.dark = false) :
    Calls Try.prog 21 #[.pointer (some ⟨p, 0, none⟩), .int .i64 i] w fun e w' => ∃ q, e = .returned (.tuple #[.slice (some ⟨q, 0, none⟩) 256 256, .int .i64 0]) ∧ w.heap.size ≤ q ∧
      w'.heap[q]? = some (.cells (bv s.last).toArray 75 (0, 0)) ∧ Below w.heap.size w w' := by
  have hil := (List.getElem?_eq_some_iff.1 hi).1
  have hdd : decide (0 ≤ (i : Int) ∧ (i : Int) < (D.secs.length : Int)) = true := by simp; omega
  have hmost := h.most
  have hz := zeroV
  have hs := h.sec i s hi
  have hl : (bv s.last).length = 256 := by rw [bv_length]; exact Sec.pick_len hs.ok _ (Nat.le_refl _)
  obtain ⟨c0, _, _, c3, _⟩ := h.cells
  rw [hd] at c3
  have HH := hide (made_any w B p g vs D h)
  have H2 := hide (has_at p w _ _ _ i h.cells.1)
  have H3 := hide (latest_any B g (i * 257) w (vs i) s hs)
  clear hs hi
  go_enter Try.func21, Try.ntmps21
  go_wp2_with fail
  refine (unhide HH).mono ?_
  rintro e w' ⟨rfl, rfl⟩
  go_wp2_with fail
  refine (unhide H2).mono ?_
  rintro e w' ⟨rfl, rfl⟩
  go_wp2_with fail
  refine (unhide H3).mono ?_
  rintro e w1 ⟨rfl, hb⟩
  have hst := storeV w1 (bv s.last) hl (bv_one _)
  go_wp2
  go_ret2
  exact ⟨w1.heap.size, rfl, hb.size, heap_alloc_last _ _, hb.alloc hb.size _⟩

set_option maxRecDepth 100000 in
set_option maxHeartbeats 400000 in
theorem Fetch_out (w : World) (B p g : Nat) (vs : Nat → Value) (D : Dk) (h : IsDisk w B p g vs D) (at_ : Int) (hat : ¬ (0 ≤ at_ ∧ at_ < D.secs.length)) :
    Calls Try.prog 21 #[.pointer (some ⟨p, 0, none⟩), .int .i64 at_] w fun e w' => e = .returned (.tuple #[.slice none 0 0, .int .i64 2]) ∧ w' = w := by
  have hd : decide (0 ≤ at_ ∧ at_ < (D.secs.length : Int)) = false := by simpa using hat
  go_enter Try.func21, Try.ntmps21
  go_wp2_with fail
  refine (made_any w B p g vs D h).mono ?_
  rintro e w' ⟨rfl, rfl⟩
  go_wp2_with fail
  refine (has_at p _ _ _ _ at_ h.cells.1).mono ?_
  rintro e w' ⟨rfl, rfl⟩
  go_wp2
  go_ret2
  exact ⟨rfl, rfl⟩

set_option maxRecDepth 100000 in
set_option maxHeartbeats 400000 in
theorem Fetch_dark (w : World) (B p g : Nat) (vs : Nat → Value) (D : Dk) (h : IsDisk w B p g vs D) (at_ : Int) (hat : 0 ≤ at_ ∧ at_ < D.secs.length) (hdk : D.dark = true) :
    Calls Try.prog 21 #[.pointer (some ⟨p, 0, none⟩), .int .i64 at_] w fun e w' => e = .returned (.tuple #[.slice none 0 0, .int .i64 10]) ∧ w' = w := by
  have hd : decide (0 ≤ at_ ∧ at_ < (D.secs.length : Int)) = true := by simpa using hat
  obtain ⟨c0, _, _, c3, _⟩ := h.cells
  rw [hdk] at c3
  go_enter Try.func21, Try.ntmps21
  go_wp2_with fail
  refine (made_any w B p g vs D h).mono ?_
  rintro e w' ⟨rfl, rfl⟩
  go_wp2_with fail
  refine (has_at p _ _ _ _ at_ h.cells.1).mono ?_
  rintro e w' ⟨rfl, rfl⟩
  go_wp2
  go_ret2
  exact ⟨rfl, rfl⟩

set_option maxRecDepth 100000 in
set_option maxHeartbeats 400000 in
theorem Moves_any (w : World) (B p g : Nat) (vs : Nat → Value) (D : Dk) (h : IsDisk w B p g vs D) :
    Calls Try.prog 29 #[.pointer (some ⟨p, 0, none⟩)] w fun e w' => e = .returned (.int .i64 D.moves) ∧ w' = w := by
  have c1 := h.cells.2.1
  go_enter Try.func29, Try.ntmps29
  go_wp2_with fail
  refine (made_any w B p g vs D h).mono ?_
  rintro e w' ⟨rfl, rfl⟩
  go_wp2
  go_ret
  exact ⟨rfl, rfl⟩

set_option maxRecDepth 100000 in
set_option maxHeartbeats 400000 in
theorem Count_any (w : World) (B p g : Nat) (vs : Nat → Value) (D : Dk) (h : IsDisk w B p g vs D) :
    Calls Try.prog 11 #[.pointer (some ⟨p, 0, none⟩)] w fun e w' => e = .returned (.int .i64 D.secs.length) ∧ w' = w := by
  have c0 := h.cells.1
  go_enter Try.func11, Try.ntmps11
  go_wp2_with fail
  refine (made_any w B p g vs D h).mono ?_
  rintro e w' ⟨rfl, rfl⟩
  go_wp2
  go_ret
  exact ⟨rfl, rfl⟩

set_option maxRecDepth 100000 in
set_option maxHeartbeats 400000 in
theorem Trip_any (w : World) (B p g : Nat) (vs : Nat → Value) (D : Dk) (hD : IsDisk w B p g vs D) (n : Int) (hn : n ≤ 9223372036854775807) :
    Calls Try.prog 24 #[.pointer (some ⟨p, 0, none⟩), .int .i64 n] w fun e w' => e = .returned (.int .i64 0) ∧ IsDisk w' B p g vs { D with trip := max n (-1) } ∧ Fr B w w' := by
  obtain ⟨_, _, c2, _, cf⟩ := hD.cells
  have cf2 := cf 2
  clear cf
  go_enter Try.func24, Try.ntmps24
  go_wp2_with fail
  refine (made_any w B p g vs D hD).mono ?_
  rintro e w' ⟨rfl, rfl⟩
  go_wp2
  · have hlt : n < -1 := by assumption
    have hm : max n (-1) = -1 := by omega
    go_ret
    refine ⟨rfl, ?_, fr_setCell hD.bp hD.blk (.inl rfl)⟩
    rw [hm]
    exact hD.set 2 _ rfl (by show (-1 : Int) ≤ -1; omega) (by show (-1 : Int) ≤ _; omega) rfl
  · have hle : -1 ≤ n := by assumption
    have hm : max n (-1) = n := by omega
    go_ret
    refine ⟨rfl, ?_, fr_setCell hD.bp hD.blk (.inl rfl)⟩
    rw [hm]
    exact hD.set 2 _ rfl hle hn rfl

end Go.Proofs.Ytaflibnalhfenaa
