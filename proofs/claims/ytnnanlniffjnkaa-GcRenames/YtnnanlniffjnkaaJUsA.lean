/- Layer 16: light, the chapter's heap. -/
import Derived.Test.YtnnanlniffjnkaaJUaM
import Derived.Test.YtnnanlniffjnkaaJUrD
import Derived.Test.YtnnanlniffjnkaaJY3
import Derived.Test.YtnnanlniffjnkaaJY4

namespace Go.Proofs.Ytnnanlniffjnkaa
open Go.RowKit
set_option linter.unusedVariables false
set_option maxRecDepth 100000

def IsB (e : Ending) : Prop := ∃ b, e = .returned (.bool b)
set_option maxHeartbeats 800000 in
theorem light16_any (w : World) (s : Sl) (rs : List ObR) (h : HIn w s rs) : Calls Try.prog 9 #[s.v] w fun e w' => IsB e ∧ w' = w := by
  obtain ⟨a, n, c⟩ := s
  have hln := h.ls.1
  have hsm := h.small
  simp only at hln hsm
  have HI := hide h
  clear h
  simp only [Sl.v]
  go_enter Try.func9, Try.ntmps9
  go_wp2
  go_loopw [3, 4] (fun m i wr => ∃ (k : Nat) (z : Int), k ≤ n ∧ i = .int .i64 k ∧ m = .int .i64 z ∧ wr = w) (fun _ i _ => n - (intOf i).toNat)
  case atStart => exact ⟨0, 0, by omega, rfl, rfl, rfl⟩
  case round =>
    obtain ⟨k, z, hk, rfl, rfl, rfl⟩ := hrel
    by_cases hlt : k < n
    · have hlt1 : (k : Int) < (n : Int) := by omega
      have hk0 : (0 : Int) ≤ (k : Int) := by omega
      by_cases hz : z < 1000
      · obtain ⟨x, hx⟩ : ∃ x, rs[k]? = some x := ⟨_, List.getElem?_eq_getElem (by omega)⟩
        obtain ⟨b, o, ea, q⟩ := memb_row (unhide HI) hx
        simp only at ea
        subst ea
        have c1 := (q (Below.refl _ _)) 1 _ rfl
        obtain ⟨ty, ⟨xa, xn, xc⟩, ws⟩ := x
        simp only [Sl.v] at c1
        clear q hx
        go_wp2
        go_roundw
        case rel => exact ⟨k + 1, _, by omega, by go_num, rfl, trivial⟩
        case measure => simp [intOf]; omega
      · go_wp2
        go_ret
        exact ⟨⟨_, rfl⟩, rfl⟩
    · obtain rfl : k = n := by omega
      go_wp2
      all_goals (go_ret; exact ⟨⟨_, rfl⟩, rfl⟩)
def ob3 : List Ob := [⟨[97], [⟨4, 3⟩]⟩, ⟨[98], []⟩, ⟨[99], []⟩]
theorem ls_block {α : Type} {cs : α → List Value} {sz : Nat} (hl : ∀ x, (cs x).length = sz) {w : World} {b : Nat} {X : Array Value} {T : TypeId} (h : w.heap[b]? = some (.cells X T (0, 0))) {l : List α} (hX : X.toList = l.flatMap cs) : Ls sz cs w (some ⟨b, 0, none⟩) l.length l := by
  refine ⟨rfl, ?_⟩
  by_cases h0 : l.length = 0
  · exact .inl h0
  · refine .inr ⟨b, 0, rfl, lt_of_heap h, fun k x hx q u hu => ?_⟩
    have h2 := flatR_at hl l k x hx q u hu
    rw [← hX] at h2
    rw [cell_of_row _ _ _ _ _ _ h]
    simpa using h2
theorem three_any (w : World) : Calls Try.prog 35 #[] w fun e w' => ∃ (s : Sl) (rs : List ObR), e = .returned s.v ∧ HIn w' s rs ∧ rs.map ObR.o = ob3 ∧ Below w.heap.size w w' := by
  go_enter Try.func35, Try.ntmps35
  go_wp2
  go_ret
  have f1 := (Below.refl w.heap.size w).alloc (Nat.le_refl _) (.cells #[.int .i64 4, .int .i64 3] 47)
  obtain ⟨w1, hw1⟩ : ∃ w1, w1 = w.alloc (.cells #[.int .i64 4, .int .i64 3] 47) := ⟨_, rfl⟩
  have hs1 : w1.heap.size = w.heap.size + 1 := by rw [hw1]; simp
  have k1 : WsIn w1 ⟨some ⟨w.heap.size, 0, none⟩, 1, 1⟩ [⟨4, 3⟩] := by rw [hw1]; exact wsIn_one w ⟨4, 3⟩
  rw [← hw1] at f1 ⊢
  clear hw1
  have f2 := (Below.refl w1.heap.size w1).alloc (Nat.le_refl _) (.cells #[.string ⟨#[97]⟩, .slice (some ⟨w.heap.size, 0, none⟩) 1 1, .string ⟨#[98]⟩, .slice none 0 0, .string ⟨#[99]⟩, .slice none 0 0] 43)
  have hb := heap_alloc_last w1 (.cells #[.string ⟨#[97]⟩, .slice (some ⟨w.heap.size, 0, none⟩) 1 1, .string ⟨#[98]⟩, .slice none 0 0, .string ⟨#[99]⟩, .slice none 0 0] 43)
  have hl : Ls 2 obc _ _ _ [(⟨[97], ⟨some ⟨w.heap.size, 0, none⟩, 1, 1⟩, [⟨4, 3⟩]⟩ : ObR), ⟨[98], ⟨none, 0, 0⟩, []⟩, ⟨[99], ⟨none, 0, 0⟩, []⟩] := ls_block (cs := obc) (sz := 2) (fun _ => rfl) hb rfl
  refine ⟨⟨some ⟨w.heap.size + 1, 0, none⟩, 3, 3⟩, [⟨[97], ⟨some ⟨w.heap.size, 0, none⟩, 1, 1⟩, [⟨4, 3⟩]⟩, ⟨[98], ⟨none, 0, 0⟩, []⟩, ⟨[99], ⟨none, 0, 0⟩, []⟩], rfl, ⟨by rw [← hs1]; exact hl, Nat.le_refl _, by simp, (fun e => by cases e), by simp, fun r hr => ?_⟩, rfl, f1.trans (f2.mono f1.size)⟩
  simp only [List.mem_cons, List.not_mem_nil, or_false] at hr
  rcases hr with rfl | rfl | rfl
  · exact k1.below f2
  · exact wsIn_nil _
  · exact wsIn_nil _
end Go.Proofs.Ytnnanlniffjnkaa
