/- The contracts of the document's own Right and Turned. -/
import Derived.Test.YtpliipeoijclbaaDoorSmR
import Derived.Deep.RegionLawGrows
import Derived.Deep.RegionHeld3
namespace Go.Proofs.YtpliipeoijclbaaDoor
open Go.RowKit
set_option linter.unusedVariables false


set_option maxHeartbeats 800000 in
theorem qRight_lt (w : World) (a : Option Addr) (n cap : Nat) (h : n < 4) :
    Calls Tryd.prog 22 #[.slice a n cap] w fun e w' => e = .returned (.bool false) ∧ Below w.heap.size w w' := by
  have h1 : decide ((4 : Int) ≤ (n : Int)) = false := by simp; omega
  go_enter Tryd.func22, Tryd.ntmps22
  go_wp2
  go_quiet (fail)
  go_wp2
  go_ret
  exact ⟨rfl, below_drewN (Below.refl _ _) _⟩

set_option maxHeartbeats 800000 in
theorem qRight_ge (w : World) (b o n cap : Nat) (l : List UInt8) (h4 : 4 ≤ n) (hn : l.length = n) (hc : n ≤ cap) (hcap : cap ≤ 9223372036854775807) (hs : n ≤ 1000000) (h : BytesAt w (some ⟨b, o, none⟩) l) :
    Calls Tryd.prog 22 #[.slice (some ⟨b, o, none⟩) n cap] w fun e w' => e = .returned (.bool (decide (sealL (l.take (n - 4)) = l))) ∧ Below w.heap.size w w' := by
  have h1 : decide ((4 : Int) ≤ (n : Int)) = true := by simp; omega
  have hn4 : (n : Int) - 4 = ((n - 4 : Nat) : Int) := by omega
  have k1 := conv_bytes w (some ⟨b, o, none⟩) l cap h
  have k2 := conv_bytes w.drew (some ⟨b, o, none⟩) l cap (bytes_drew h)
  rw [hn] at k1 k2
  have hS : Hid (∀ W, Below w.heap.size w W → Calls Tryd.prog 20 #[.slice (some ⟨b, o, none⟩) (n - 4) cap] W fun e w' => ∃ a1 c1, e = .returned (.slice a1 n c1) ∧ ((convert 23 9 (.slice a1 n c1)).run Tryd.prog w' = .ok (.string ⟨(sealL (l.take (n - 4))).toArray⟩) w') ∧ ((convert 23 9 (.slice a1 n c1)).run Tryd.prog w'.drew = .ok (.string ⟨(sealL (l.take (n - 4))).toArray⟩) w'.drew) ∧ ((convert 23 9 (.slice (some ⟨b, o, none⟩) n cap)).run Tryd.prog w' = .ok (.string ⟨l.toArray⟩) w') ∧ ((convert 23 9 (.slice (some ⟨b, o, none⟩) n cap)).run Tryd.prog w'.drew = .ok (.string ⟨l.toArray⟩) w'.drew) ∧ Below w.heap.size w w') := fun W f => by
    refine (qSeal_some W ⟨b, o, none⟩ (n - 4) cap (l.take (n - 4)) (by omega) ⟨by simp; omega, .inr ⟨b, o, rfl, bytes_take (h.below f) _⟩⟩).mono ?_
    rintro e w' ⟨v, rfl, ho, f'⟩
    rw [show n - 4 + 4 = n by omega] at ho
    obtain ⟨a1, c1, rfl, _⟩ := own_form ho
    have hl : (sealL (l.take (n - 4))).length = n := by simp [sealL, be4]; omega
    have t1 := fun (V : World) (hv : BytesAt V a1 (sealL (l.take (n - 4)))) => conv_bytes V a1 (sealL (l.take (n - 4))) c1 hv
    have t2 := fun (V : World) (hv : BytesAt V (some ⟨b, o, none⟩) l) => conv_bytes V (some ⟨b, o, none⟩) l cap hv
    rw [hl] at t1
    rw [hn] at t2
    have hb := (h.below f).below f'
    exact ⟨a1, c1, rfl, t1 _ (own_bytes ho), t1 _ (own_bytes ho), t2 _ hb, t2 _ hb, f.trans (f'.mono f.size)⟩
  have f2 : ((n - 4 : Nat) : Int) ≤ (cap : Int) := by omega
  have f7 : ¬ cap = 0 := by omega
  have f8 : IntKind.i64.wrap ((n - 4 : Nat) : Int) = ((n - 4 : Nat) : Int) := by rw [IntKind.wrap_i64]; omega
  clear h
  go_enter Tryd.func22, Tryd.ntmps22
  go_wp2
  go_region_held (fun _ => True) (trivial) (first | (go_at_call 20; refine (unhide hS _ (by repeat (first | exact Below.refl _ _ | refine Below.drew ?_))).mono ?_; rintro e w3 ⟨a1, c1, rfl, k30, k31, k40, k41, f3⟩))
  all_goals
    have F3 := hide f3
    clear k30 k31 k40 k41 f3 k1 k2 hS
    go_wp2
    go_ret
    exact ⟨ret_bool (Bool.beq_eq_decide_eq _ _), by repeat (first | exact unhide F3 | refine Below.drew ?_)⟩

theorem qRight_any (w : World) (a : Option Addr) (n cap : Nat) (l : List UInt8) (hc : n ≤ cap) (hcap : cap ≤ 9223372036854775807) (hs : n ≤ 1000000) (h : Bs w a n l) :
    Calls Tryd.prog 22 #[.slice a n cap] w fun e w' => e = .returned (.bool (rightL l)) ∧ Below w.heap.size w w' := by
  have hn := h.1
  by_cases h4 : n < 4
  · refine (qRight_lt w a n cap h4).mono ?_
    rintro e w' ⟨rfl, f⟩
    exact ⟨by simp [rightL]; omega, f⟩
  · rcases h with ⟨_, h0 | ⟨b, o, rfl, h⟩⟩
    · omega
    · refine (qRight_ge w b o n cap l (by omega) hn hc hcap hs h).mono ?_
      rintro e w' ⟨rfl, f⟩
      refine ⟨?_, f⟩
      unfold rightL
      subst hn
      simp [show 4 ≤ l.length by omega]

end Go.Proofs.YtpliipeoijclbaaDoor
