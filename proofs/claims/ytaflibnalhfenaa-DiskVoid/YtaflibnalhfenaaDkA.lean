/- Contracts of the small methods of a disk: made, has, move, size, within. -/
import Derived.Test.YtaflibnalhfenaaBsB
import Derived.WalkKit
import Derived.WalkSpells
import Derived.WalkLawsBesides
import Derived.BigQuiet
import Derived.Deep.MidRow
namespace Go.Proofs.Ytaflibnalhfenaa
open Go.RowKit
set_option linter.unusedVariables false

set_option maxRecDepth 100000 in
set_option maxHeartbeats 400000 in
theorem made_nil (w : World) :
    Calls Try.prog 39 #[.pointer none] w fun e w' => e = .returned (.bool false) ∧ w' = w := by
  go_enter Try.func39, Try.ntmps39
  go_wp2
  go_ret
  exact ⟨rfl, rfl⟩

set_option maxRecDepth 100000 in
set_option maxHeartbeats 400000 in
theorem made_at (p : Nat) (w : World) (a : Option Addr) (n c : Nat) (h : w.cell? ⟨p, 0, none⟩ = some (.slice a n c)) :
    Calls Try.prog 39 #[.pointer (some ⟨p, 0, none⟩)] w fun e w' => e = .returned (.bool (decide (0 < n))) ∧ w' = w := by
  go_enter Try.func39, Try.ntmps39
  go_wp2
  go_ret
  exact ⟨by simp, rfl⟩

set_option maxRecDepth 100000 in
set_option maxHeartbeats 400000 in
theorem size_at (g o : Nat) (w : World) (a : Option Addr) (n c : Nat) (h : w.cell? ⟨g, o, none⟩ = some (.slice a n c)) :
    Calls Try.prog 45 #[.pointer (some ⟨g, o, none⟩)] w fun e w' => e = .returned (.int .i64 n) ∧ w' = w := by
  go_enter Try.func45, Try.ntmps45
  go_wp2
  go_ret
  exact ⟨rfl, rfl⟩

set_option maxRecDepth 100000 in
set_option maxHeartbeats 400000 in
theorem has_at (p : Nat) (w : World) (a : Option Addr) (n c : Nat) (at_ : Int) (h : w.cell? ⟨p, 0, none⟩ = some (.slice a n c)) :
    Calls Try.prog 40 #[.pointer (some ⟨p, 0, none⟩), .int .i64 at_] w fun e w' => e = .returned (.bool (decide (0 ≤ at_ ∧ at_ < n))) ∧ w' = w := by
  by_cases h0 : 0 ≤ at_
  · go_enter Try.func40, Try.ntmps40
    go_wp2
    go_ret
    exact ⟨by simp [h0], rfl⟩
  · have hd : decide (0 ≤ at_) = false := by simpa using h0
    go_enter Try.func40, Try.ntmps40
    go_wp2
    go_ret
    exact ⟨by simp, rfl⟩

set_option maxRecDepth 100000 in
set_option maxHeartbeats 400000 in
theorem move_dark (p : Nat) (w : World) (t : Int) (ht : (t == 0) = false) (h2 : w.cell? ⟨p, 2, none⟩ = some (.int .i64 t)) (h3 : w.cell? ⟨p, 3, none⟩ = some (.bool true)) :
    Calls Try.prog 41 #[.pointer (some ⟨p, 0, none⟩)] w fun e w' => e = .returned (.bool false) ∧ w' = w := by
  go_enter Try.func41, Try.ntmps41
  go_wp2
  go_ret
  exact ⟨rfl, rfl⟩

set_option maxRecDepth 100000 in
set_option maxHeartbeats 400000 in
theorem move_trip (p : Nat) (w : World) (d : Bool) (h2 : w.cell? ⟨p, 2, none⟩ = some (.int .i64 0)) (h3 : w.cell? ⟨p, 3, none⟩ = some (.bool d)) (hf : w.frozen? ⟨p, 3, none⟩ = false) :
    Calls Try.prog 41 #[.pointer (some ⟨p, 0, none⟩)] w fun e w' => e = .returned (.bool false) ∧ w' = w.setCell ⟨p, 3, none⟩ (.bool true) := by
  go_enter Try.func41, Try.ntmps41
  go_wp2
  go_ret
  exact ⟨rfl, rfl⟩

set_option maxRecDepth 100000 in
set_option maxHeartbeats 400000 in
theorem move_free (p : Nat) (w : World) (m t : Int) (ht : t < 0) (h1 : w.cell? ⟨p, 1, none⟩ = some (.int .i64 m)) (h2 : w.cell? ⟨p, 2, none⟩ = some (.int .i64 t)) (h3 : w.cell? ⟨p, 3, none⟩ = some (.bool false))
    (hf1 : w.frozen? ⟨p, 1, none⟩ = false) :
    Calls Try.prog 41 #[.pointer (some ⟨p, 0, none⟩)] w fun e w' => e = .returned (.bool true) ∧ w' = w.setCell ⟨p, 1, none⟩ (.int .i64 (wrap64 (m + 1))) := by
  go_enter Try.func41, Try.ntmps41
  go_wp2
  go_ret
  exact ⟨rfl, rfl⟩

set_option maxRecDepth 100000 in
set_option maxHeartbeats 400000 in
theorem move_down (p : Nat) (w : World) (m t : Int) (ht : 0 < t) (ht' : t ≤ 9223372036854775807) (h1 : w.cell? ⟨p, 1, none⟩ = some (.int .i64 m)) (h2 : w.cell? ⟨p, 2, none⟩ = some (.int .i64 t)) (h3 : w.cell? ⟨p, 3, none⟩ = some (.bool false))
    (hf1 : w.frozen? ⟨p, 1, none⟩ = false) (hf2 : w.frozen? ⟨p, 2, none⟩ = false) :
    Calls Try.prog 41 #[.pointer (some ⟨p, 0, none⟩)] w fun e w' => e = .returned (.bool true) ∧ w' = (w.setCell ⟨p, 2, none⟩ (.int .i64 (t - 1))).setCell ⟨p, 1, none⟩ (.int .i64 (wrap64 (m + 1))) := by
  go_enter Try.func41, Try.ntmps41
  go_wp2
  go_ret
  exact ⟨rfl, rfl⟩

set_option maxRecDepth 100000 in
set_option maxHeartbeats 400000 in
theorem within_at (k n : Int) (w : World) (hn : 0 < n) (hn' : n ≤ 9223372036854775807) (hk : -9223372036854775808 ≤ k) (hk' : k ≤ 9223372036854775807) :
    Calls Try.prog 48 #[.int .i64 k, .int .i64 n] w fun e w' => ∃ r : Nat, e = .returned (.int .i64 r) ∧ (r : Int) < n ∧ r = among k n.toNat ∧ w' = w := by
  obtain ⟨m, rfl⟩ : ∃ m : Nat, n = m := ⟨n.toNat, by omega⟩
  have h := among_eq k m (by omega) hn'
  have hl := among_lt k m (by omega)
  have hu : IntKind.u64.wrap (m : Int) = m := by rw [IntKind.wrap_u64]; omega
  have H := hide h
  have U := hide hu
  have HL := hide hl
  clear h hl hu
  go_enter Try.func48, Try.ntmps48
  go_wp2
  go_ret
  exact ⟨among k m, ret_int (unhide H), by have := unhide HL; omega, by simp, rfl⟩

end Go.Proofs.Ytaflibnalhfenaa
