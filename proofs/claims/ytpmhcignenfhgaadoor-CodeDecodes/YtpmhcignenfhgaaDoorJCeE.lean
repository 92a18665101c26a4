/- The document's code: Form. -/
import Derived.Test.YtpmhcignenfhgaaDoorJQ
import Derived.Test.YtpmhcignenfhgaaDoorJB

namespace Go.Proofs.YtpmhcignenfhgaaDoor
open Go.RowKit
set_option linter.unusedVariables false
set_option maxRecDepth 100000

def spanI : List Int := spans1.flatMap fun r => [r.1, r.2]
theorem span_at : ∀ k, k < 23 → spans1[k]? = some (spanI.getD (2 * k) 0, spanI.getD (2 * k + 1) 0) := by decide
theorem span_cell {W : World} {g : Nat} {t : TypeId} {fr : Nat × Nat} (h : W.heap[g]? = some (.cells (spanI.map (Value.int .i64)).toArray t fr)) (k : Nat) (hk : k < 46) : W.cell? ⟨g, k, none⟩ = some (.int .i64 (spanI.getD k 0)) := by
  rw [cell_of_row W g k _ t fr h]
  have h1 : k < spanI.length := hk
  simp [List.getElem?_eq_getElem h1]
theorem inS_step (op : Int) (k : Nat) (hk : k < 23) (h : inS (spans1.take k) op = false) : inS (spans1.take (k + 1)) op = decide (spanI.getD (2 * k) 0 ≤ op ∧ op ≤ spanI.getD (2 * k + 1) 0) := by
  unfold inS at h ⊢
  rw [List.take_add_one, span_at k hk, List.any_append, h]
  simp
theorem inS_hit (op : Int) (k : Nat) (hk : k < 23) (h : spanI.getD (2 * k) 0 ≤ op ∧ op ≤ spanI.getD (2 * k + 1) 0) : inS spans1 op = true := by
  unfold inS
  rw [List.any_eq_true]
  exact ⟨_, List.mem_of_getElem? (span_at k hk), by simpa using h⟩
set_option maxHeartbeats 1600000 in
theorem o9Form_any (w : World) (op : Int) :
    Calls Tryd.prog 32 #[.int .i64 op] w fun e w' => e = .returned (.int .i64 (formP op)) ∧ Below w.heap.size w w' := by
  obtain ⟨T, hT⟩ : ∃ T : Int, T = (formP op : Int) := ⟨_, rfl⟩
  rw [← hT]
  have HT := hide hT
  clear hT
  go_enter Tryd.func32, Tryd.ntmps32
  go_wp2
  generalize hWe : w.alloc _ = W
  have hbw : Below w.heap.size w W := by rw [← hWe]; exact (Below.refl _ _).alloc (Nat.le_refl _) _
  have hheap : W.heap[w.heap.size]? = some (.cells (spanI.map (Value.int .i64)).toArray 3 (0, 0)) := by rw [← hWe]; exact heap_alloc_last w _
  have hcell := span_cell hheap
  have HB := hide hbw
  have HC := hide hcell
  clear hWe hbw hheap hcell
  go_loop [4] (fun i => ∃ m k : Nat, m = 2 * k ∧ k ≤ 23 ∧ i = .int .i64 (m : Int) ∧ inS (spans1.take k) op = false) (fun i => 46 - (intOf i).toNat)
  case atStart => exact ⟨0, 0, rfl, by omega, rfl, rfl⟩
  case round =>
    obtain ⟨m, k, hm, hk, rfl, ht⟩ := hrel
    by_cases hlt : k < 23
    · have c0 := unhide HC (2 * k) (by omega)
      have c1 := unhide HC (2 * k + 1) (by omega)
      have hst := inS_step op k hlt ht
      have hit := inS_hit op k hlt
      generalize spanI.getD (2 * k) 0 = x at *
      generalize spanI.getD (2 * k + 1) 0 = y at *
      have HST := hide hst
      have HIT := hide hit
      clear ht hst hit
      rw [← hm] at c0 c1
      have hlt1 : (m : Int) < 46 := by omega
      have hlt2 : (m : Int) + 1 < 46 := by omega
      have HM := hide (And.intro hm (And.intro hk hlt))
      clear hm hk hlt
      by_cases h1 : x ≤ op
      · by_cases h2 : op ≤ y
        · go_wp2
          go_ret
          refine ⟨?_, unhide HB⟩
          rw [unhide HT]
          unfold formP
          rw [unhide HIT ⟨h1, h2⟩]
          rfl
        · have h2b : decide (op ≤ y) = false := by simpa using h2
          go_wp2
          go_round
          case rel => exact ⟨m + 2, k + 1, by have := (unhide HM).1; omega, by have := (unhide HM).2.2; omega, by go_num, by rw [unhide HST]; simp [h2]⟩
          case measure => simp [intOf]; omega
      · have h1b : decide (x ≤ op) = false := by simpa using h1
        go_wp2
        go_round
        case rel => exact ⟨m + 2, k + 1, by have := (unhide HM).1; omega, by have := (unhide HM).2.2; omega, by go_num, by rw [unhide HST]; simp [h1]⟩
        case measure => simp [intOf]; omega
    · obtain rfl : k = 23 := by omega
      have hge : ¬ (m : Int) < 46 := by omega
      have hgb : decide ((m : Int) < 46) = false := by simpa using hge
      have h9 : inS spans1 op = false := ht
      have hF := unhide HT
      unfold formP at hF
      rw [h9] at hF
      simp only [Bool.false_eq_true, if_false] at hF
      have HF := hide hF
      clear hF h9 ht HT HC hm hk hlt
      go_wp2
      all_goals
        go_ret
        refine ⟨?_, unhide HB⟩
        rw [unhide HF]
        clear HF HB
        first
          | (simp_all; done)
          | (simp_all
             repeat' split
             all_goals first | rfl | omega)
end Go.Proofs.YtpmhcignenfhgaaDoor
