/- The contracts of SameBytes, SameInts, Among, Bytes, Ints. -/
import Derived.Test.YtaflibnalhfenaaDkL
namespace Go.Proofs.Ytaflibnalhfenaa
open Go.RowKit
set_option linter.unusedVariables false

/-- Two lists of ints that are read. -/
theorem SameInts_len (w : World) (a b : Option Addr) (n m c d : Nat) (h : n ≠ m) :
    Calls Try.prog 30 #[.slice a n c, .slice b m d] w fun e w' => e = .returned (.bool false) ∧ w' = w := by
  have hb : ((n : Int) != m) = true := by rw [bne_iff_ne]; omega
  go_enter Try.func30, Try.ntmps30
  go_wp2
  go_ret
  exact ⟨rfl, rfl⟩

theorem SameInts_nil (w : World) (a b : Option Addr) (c d : Nat) :
    Calls Try.prog 30 #[.slice a 0 c, .slice b 0 d] w fun e w' => e = .returned (.bool true) ∧ w' = w := by
  go_enter Try.func30, Try.ntmps30
  go_wp2
  refine wp_loop_rounds 1 ?_
  rw [rounds_succ]
  go_wp2
  go_ret
  exact ⟨rfl, rfl⟩

theorem take_snoc_eq {x y : List Int} {k : Nat} (hx : k < x.length) (hy : k < y.length) (h : x.take k = y.take k) (e : x.getD k 0 = y.getD k 0) : x.take (k + 1) = y.take (k + 1) := by
  rw [List.take_succ_eq_append_getElem hx, List.take_succ_eq_append_getElem hy, h]
  have : x[k] = y[k] := by simpa [List.getD_eq_getElem?_getD, List.getElem?_eq_getElem hx, List.getElem?_eq_getElem hy] using e
  rw [this]
theorem ne_of_at {x y : List Int} {k : Nat} (e : x.getD k 0 ≠ y.getD k 0) : x ≠ y := fun h => e (by rw [h])

set_option maxRecDepth 100000 in
set_option maxHeartbeats 400000 in
theorem SameInts_at (w : World) (b o b' o' n c d : Nat) (x y : List Int) (hx : x.length = n) (hy : y.length = n) (hn : n ≤ 1000000) (hcx : ∀ j, j < n → w.cell? ⟨b, o + j, none⟩ = some (.int .i64 (x.getD j 0))) (hcy : ∀ j, j < n → w.cell? ⟨b', o' + j, none⟩ = some (.int .i64 (y.getD j 0))) :
    Calls Try.prog 30 #[.slice (some ⟨b, o, none⟩) n c, .slice (some ⟨b', o', none⟩) n d] w fun e w' => e = .returned (.bool (decide (x = y))) ∧ ∃ m, w' = w.drewN m := by
  have HX := hide hcx
  have HY := hide hcy
  have LX := hide hx
  have LY := hide hy
  clear hcx hcy hx hy
  have hb : ((n : Int) != n) = false := by simp
  go_enter Try.func30, Try.ntmps30
  go_wp2
  go_loopw [5] (fun i wr => ∃ k : Nat, k ≤ n ∧ i = .int .i64 k ∧ Hid (x.take k = y.take k) ∧ ∃ m, wr = w.drewN m) (fun i _ => n - (intOf i).toNat)
  case atStart => exact ⟨0, Nat.zero_le _, rfl, hide (by simp), 0, rfl⟩
  case round =>
    obtain ⟨k, hk, rfl, hR, m, rfl⟩ := hrel
    by_cases hlt : k < n
    · have c1 := unhide HX k hlt
      have c2 := unhide HY k hlt
      have hki : (k : Int) < n := by omega
      by_cases he : x.getD k 0 = y.getD k 0
      · have R := hide (take_snoc_eq (by rw [unhide LX]; exact hlt) (by rw [unhide LY]; exact hlt) (unhide hR) he)
        have hne : (x.getD k 0 != y.getD k 0) = false := by rw [bne_eq_false_iff_eq]; exact he
        clear he
        generalize x.getD k 0 = xk at *
        generalize y.getD k 0 = yk at *
        go_wp2_with fail
        go_quiet (fail)
        go_wp2
        go_roundw
        case rel => exact ⟨k + 1, by omega, by go_num, R, _, rfl⟩
        case measure => simp [intOf]; omega
      · have R := hide (ne_of_at he)
        have hne : (x.getD k 0 != y.getD k 0) = true := by rw [bne_iff_ne]; exact he
        clear he
        generalize x.getD k 0 = xk at *
        generalize y.getD k 0 = yk at *
        go_wp2_with fail
        go_quiet (fail)
        go_wp2
        go_ret
        exact ⟨by rw [decide_eq_false (unhide R)]; rfl, _, World.drewN_drewN _ _ _⟩
    · have hk' : k = n := by omega
      subst hk'
      have e : x = y := by
        have := unhide hR
        rwa [List.take_of_length_le (by rw [unhide LX]; omega), List.take_of_length_le (by rw [unhide LY]; omega)] at this
      have E := hide e
      clear e
      go_wp2
      go_ret
      exact ⟨by rw [decide_eq_true (unhide E)]; rfl, _, rfl⟩

end Go.Proofs.Ytaflibnalhfenaa
