/- The walk of DiskActs where there are no acts, and with sectors outside 1 to 6. -/
import Derived.Test.YtaflibnalhfenaaDkVa
namespace Go.Proofs.Ytaflibnalhfenaa
open Go.RowKit
set_option linter.unusedVariables false

set_option maxHeartbeats 4000000 in
set_option maxRecDepth 100000 in
theorem acts_nil (w : World) (L : Nat) (h1 : 1 ≤ L) (h6 : L ≤ 6) (a : Option Addr) (c : Nat) :
    Calls Try.prog 3 #[.int .i64 (L : Int), .slice a 0 c] w fun e w' => e = .returned (.bool true) ∧ Below w.heap.size w w' := by
  go_enter Try.func3, Try.ntmps3
  go_wp2_with fail
  refine (Make_ok L _ h1 (by omega)).mono ?_
  rintro e w1 ⟨rfl, d1, b1⟩
  have g1 : decide ((L : Int) < 1) = false := by simp; omega
  have g2 : decide ((6 : Int) < L) = false := by simp; omega
  have D1 := hide d1
  have B1 := hide b1
  clear d1 b1
  go_wp2_with fail
  refine (rMake_ok L _ h1 (by omega)).mono ?_
  rintro e w2 ⟨rfl, d2, b2⟩
  have HC : Hid (Calls Try.prog 11 #[.pointer (some ⟨w.heap.size + 1, 0, none⟩)] w2 fun e w' => e = .returned (.int .i64 (L : Int)) ∧ w' = w2) := by
    have := Count_any w2 w.heap.size (w.heap.size + 1) _ _ _ ((unhide D1).below b2)
    rw [show (Dk.fresh L).secs.length = L by simp [Dk.fresh]] at this
    exact this
  have HF : Hid (Below w.heap.size w w2) := (unhide B1).trans (b2.mono (unhide B1).size)
  clear d2 b2 D1 B1
  generalize hpd : w.heap.size + 1 = p at *
  generalize hyd : w1.heap.size = y at *
  go_wp2
  refine wp_loop_rounds 1 ?_
  rw [rounds_succ]
  go_wp2_with fail
  refine (unhide HC).mono ?_
  rintro e w5 ⟨rfl, rfl⟩
  go_wp2_with fail
  refine (works_any _).mono ?_
  rintro e w6 ⟨rfl, b6⟩
  have B6 := hide ((unhide HF).trans (b6.mono (unhide HF).size))
  clear b6
  go_wp2
  go_ret
  exact ⟨rfl, unhide B6⟩

set_option maxHeartbeats 4000000 in
set_option maxRecDepth 100000 in
theorem acts_many (w : World) (L : Nat) (h7 : 7 ≤ L) (hL : L ≤ 4096) (v : Value) :
    Calls Try.prog 3 #[.int .i64 (L : Int), v] w fun e w' => e = .returned (.bool true) ∧ Below w.heap.size w w' := by
  have hm : min (L : Int) 4097 = (L : Int) := by omega
  have hm2 : min (L : Int) 4096 = (L : Int) := by omega
  have hm3 : max (0 : Int) (L : Int) = (L : Int) := by omega
  have g1 : decide ((L : Int) < 1) = false := by simp; omega
  have g2 : decide ((6 : Int) < L) = true := by simp; omega
  go_enter Try.func3, Try.ntmps3
  go_wp2_with fail
  refine (Make_ok L _ (by omega) hL).mono ?_
  rintro e w1 ⟨rfl, d1, b1⟩
  have D1 := hide d1
  have B1 := hide b1
  clear d1 b1
  go_wp2_with fail
  refine (rMake_ok L _ (by omega) hL).mono ?_
  rintro e w2 ⟨rfl, d2, b2⟩
  have HC : Hid (Calls Try.prog 11 #[.pointer (some ⟨w.heap.size + 1, 0, none⟩)] w2 fun e w' => e = .returned (.int .i64 (L : Int)) ∧ w' = w2) := by
    have := Count_any w2 w.heap.size (w.heap.size + 1) _ _ _ ((unhide D1).below b2)
    rw [show (Dk.fresh L).secs.length = L by simp [Dk.fresh]] at this
    exact this
  have HF : Hid (Below w.heap.size w w2) := (unhide B1).trans (b2.mono (unhide B1).size)
  clear d2 b2 D1 B1
  go_wp2_with fail
  refine (unhide HC).mono ?_
  rintro e w3 ⟨rfl, rfl⟩
  go_wp2_with fail
  refine (yes_any _ true).mono ?_
  rintro e w4 ⟨rfl, rfl⟩
  go_wp2_with fail
  refine (works_any _).mono ?_
  rintro e w6 ⟨rfl, b6⟩
  have B6 := hide ((unhide HF).trans (b6.mono (unhide HF).size))
  clear b6
  go_wp2
  go_ret
  exact ⟨rfl, unhide B6⟩

set_option maxHeartbeats 1000000 in
set_option maxRecDepth 100000 in
theorem acts_low (w : World) (s : Int) (h : s < 1) (v : Value) :
    Calls Try.prog 3 #[.int .i64 s, v] w fun e w' => e = .returned (.bool true) ∧ Below w.heap.size w w' := by
  have hm : min s 4097 = s := by omega
  have hm2 : min s 4096 = s := by omega
  have g1 : decide (s < 1) = true := by simpa using h
  have HC := hide (Count_void w (.pointer none) (.inl rfl))
  have HM := hide (Make_bad s w (by omega))
  have HR := hide (rMake_bad s w (by omega))
  have HY := hide (yes_any w false)
  go_enter Try.func3, Try.ntmps3
  go_wp2_with fail
  refine (unhide HM).mono ?_
  rintro e w1 ⟨rfl, rfl⟩
  go_wp2_with fail
  refine (unhide HR).mono ?_
  rintro e w2 ⟨rfl, rfl⟩
  go_wp2_with fail
  refine (unhide HC).mono ?_
  rintro e w3 ⟨rfl, rfl⟩
  go_wp2_with fail
  refine (unhide HY).mono ?_
  rintro e w4 ⟨rfl, rfl⟩
  go_wp2_with fail
  refine (works_any _).mono ?_
  rintro e w6 ⟨rfl, b6⟩
  have B6 := hide b6
  clear b6
  go_wp2
  go_ret
  exact ⟨rfl, unhide B6⟩

set_option maxHeartbeats 1000000 in
set_option maxRecDepth 100000 in
theorem acts_high (w : World) (s : Int) (h : 4097 < s) (v : Value) :
    Calls Try.prog 3 #[.int .i64 s, v] w fun e w' => e = .returned (.bool true) ∧ Below w.heap.size w w' := by
  have hm : ¬ s ≤ 4097 := by omega
  have hm2 : ¬ s ≤ 4096 := by omega
  have g1 : decide (s < 1) = false := by simp; omega
  have g2 : decide ((6 : Int) < s) = true := by simp; omega
  have HC := hide (Count_void w (.pointer none) (.inl rfl))
  have HM := hide (Make_bad s w (by omega))
  have HR := hide (rMake_bad 4097 w (by omega))
  have HY := hide (yes_any w false)
  go_enter Try.func3, Try.ntmps3
  go_wp2_with fail
  refine (unhide HM).mono ?_
  rintro e w1 ⟨rfl, rfl⟩
  go_wp2_with fail
  refine (unhide HR).mono ?_
  rintro e w2 ⟨rfl, rfl⟩
  go_wp2_with fail
  refine (unhide HC).mono ?_
  rintro e w3 ⟨rfl, rfl⟩
  go_wp2_with fail
  refine (unhide HY).mono ?_
  rintro e w4 ⟨rfl, rfl⟩
  go_wp2_with fail
  refine (works_any _).mono ?_
  rintro e w6 ⟨rfl, b6⟩
  have B6 := hide b6
  clear b6
  go_wp2
  go_ret
  exact ⟨rfl, unhide B6⟩

set_option maxHeartbeats 1000000 in
set_option maxRecDepth 100000 in
theorem acts_edge (w : World) (v : Value) :
    Calls Try.prog 3 #[.int .i64 4097, v] w fun e w' => e = .returned (.bool true) ∧ Below w.heap.size w w' := by
  have HC := hide (Count_void w (.pointer none) (.inl rfl))
  have HM := hide (Make_bad 4097 w (by omega))
  have HR := hide (rMake_bad 4097 w (by omega))
  have HY := hide (yes_any w false)
  go_enter Try.func3, Try.ntmps3
  go_wp2_with fail
  refine (unhide HM).mono ?_
  rintro e w1 ⟨rfl, rfl⟩
  go_wp2_with fail
  refine (unhide HR).mono ?_
  rintro e w2 ⟨rfl, rfl⟩
  go_wp2_with fail
  refine (unhide HC).mono ?_
  rintro e w3 ⟨rfl, rfl⟩
  go_wp2_with fail
  refine (unhide HY).mono ?_
  rintro e w4 ⟨rfl, rfl⟩
  go_wp2_with fail
  refine (works_any _).mono ?_
  rintro e w6 ⟨rfl, b6⟩
  have B6 := hide b6
  clear b6
  go_wp2
  go_ret
  exact ⟨rfl, unhide B6⟩

theorem acts_beyond (w : World) (s : Int) (h : s < 1 ∨ 6 < s) (v : Value) :
    Calls Try.prog 3 #[.int .i64 s, v] w fun e w' => e = .returned (.bool true) ∧ Below w.heap.size w w' := by
  by_cases h1 : s < 1
  · exact acts_low w s h1 v
  · by_cases h2 : s ≤ 4096
    · obtain ⟨L, rfl⟩ : ∃ L : Nat, s = L := ⟨s.toNat, by omega⟩
      exact acts_many w L (by omega) (by omega) v
    · by_cases h3 : s = 4097
      · subst h3
        exact acts_edge w v
      · exact acts_high w s (by omega) v

end Go.Proofs.Ytaflibnalhfenaa
