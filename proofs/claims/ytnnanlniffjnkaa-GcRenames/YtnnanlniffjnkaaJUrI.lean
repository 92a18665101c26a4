/- Layer 16: the law's closure that turns a number round. -/
import Derived.Test.YtnnanlniffjnkaaJUrH

namespace Go.Proofs.Ytnnanlniffjnkaa
open Go.RowKit
set_option linter.unusedVariables false
set_option maxRecDepth 100000

set_option maxHeartbeats 1600000 in
theorem num_any (w : World) (b3 b7 : Nat) (a : Option Addr) (n c k : Nat) (hk : k < n) (hn : n ≤ 100000) (h3 : w.cell? ⟨b3, 0, none⟩ = some (.slice a n c)) (h7 : w.cell? ⟨b7, 0, none⟩ = some (.int .i64 (k : Int))) (v : Vl) :
    Calls Try.prog 27 #[.agg #[.int .i64 v.kind, .int .i64 v.n], .pointer (some ⟨b3, 0, none⟩), .pointer (some ⟨b7, 0, none⟩)] w fun e w' => e = .returned (.agg #[.int .i64 (numV n k v).kind, .int .i64 (numV n k v).n]) ∧ Below w.heap.size w w' := by
  obtain ⟨xk, xn⟩ := v
  obtain ⟨w2, hw2⟩ : ∃ w2, w2 = (w.alloc (.cells #[.int .i64 xk, .int .i64 xn] 47)).alloc (.cells #[.int .i64 0, .int .i64 0] 47) := ⟨_, rfl⟩
  have f2 : Below w.heap.size w w2 := by rw [hw2]; exact ((Below.refl _ _).alloc (Nat.le_refl _) _).alloc (by simp) _
  have bx : w2.heap[w.heap.size]? = some (.cells #[.int .i64 xk, .int .i64 xn] 47 (0, 0)) := by rw [hw2]; exact (heap_alloc_old _ _ (by simp)).trans (heap_alloc_last _ _)
  have br : w2.heap[w.heap.size + 1]? = some (.cells #[.int .i64 0, .int .i64 0] 47 (0, 0)) := by
    rw [hw2]
    have := heap_alloc_last (w.alloc (.cells #[.int .i64 xk, .int .i64 xn] 47)) (.cells #[.int .i64 0, .int .i64 0] 47)
    rw [show (w.alloc (.cells #[.int .i64 xk, .int .i64 xn] 47)).heap.size = w.heap.size + 1 by simp] at this
    exact this
  have k3 := (f2.cell (World.block_lt_of_cell? w _ h3)).trans h3
  have k7 := (f2.cell (World.block_lt_of_cell? w _ h7)).trans h7
  have x0 := bx_cell bx 0 _ rfl
  have x1 := bx_cell bx 1 _ rfl
  have z0 := bx_thaw bx 0
  have z1 := bx_thaw bx 1
  have r0 := bx_cell br 0 _ rfl
  have r1 := bx_cell br 1 _ rfl
  have y0 := bx_thaw br 0
  have y1 := bx_thaw br 1
  simp at x0 x1 r0 r1
  have HB : Hid (∀ p q r s : Int, ((w.alloc (.cells #[.int .i64 p, .int .i64 q] 47)).alloc (.cells #[.int .i64 r, .int .i64 s] 47)).heap[w.heap.size + 1]? = some (.cells #[.int .i64 r, .int .i64 s] 47 (0, 0)) ∧ Below w.heap.size w ((w.alloc (.cells #[.int .i64 p, .int .i64 q] 47)).alloc (.cells #[.int .i64 r, .int .i64 s] 47))) := fun p q r s => by
    have := heap_alloc_last (w.alloc (.cells #[.int .i64 p, .int .i64 q] 47)) (.cells #[.int .i64 r, .int .i64 s] 47)
    rw [show (w.alloc (.cells #[.int .i64 p, .int .i64 q] 47)).heap.size = w.heap.size + 1 by simp] at this
    exact ⟨this, ((Below.refl _ _).alloc (Nat.le_refl _) _).alloc (by simp) _⟩
  by_cases hg : xk = 4 ∧ 1 ≤ xn ∧ xn ≤ (n : Int)
  case neg =>
    have e : numV n k ⟨xk, xn⟩ = ⟨xk, xn⟩ := by unfold numV; rw [if_neg hg]
    have HE := hide e
    clear e f2 bx br h3 h7
    subst hw2
    by_cases hk4 : xk = 4
    · subst hk4
      by_cases h1 : 1 ≤ xn
      · have h2 : ¬ xn ≤ (n : Int) := fun c => hg ⟨rfl, h1, c⟩
        clear hg
        go_enter Try.func27, Try.ntmps27
        go_wp2
        exact bodyPost_ret (res_v Try.results27 _ (w.heap.size + 1) _ _ (unhide HB _ _ _ _).1 _ rfl) rfl ⟨by rw [unhide HE], (unhide HB _ _ _ _).2⟩
      · clear hg
        go_enter Try.func27, Try.ntmps27
        go_wp2
        exact bodyPost_ret (res_v Try.results27 _ (w.heap.size + 1) _ _ (unhide HB _ _ _ _).1 _ rfl) rfl ⟨by rw [unhide HE], (unhide HB _ _ _ _).2⟩
    · have hk5 : (xk == 4) = false := by simpa using hk4
      clear hg
      go_enter Try.func27, Try.ntmps27
      go_wp2
      exact bodyPost_ret (res_v Try.results27 _ (w.heap.size + 1) _ _ (unhide HB _ _ _ _).1 _ rfl) rfl ⟨by rw [unhide HE], (unhide HB _ _ _ _).2⟩
  obtain ⟨rfl, h1, h2⟩ := hg
  obtain ⟨j, rfl⟩ : ∃ j : Nat, xn = (j : Int) + 1 := ⟨(xn - 1).toNat, by omega⟩
  have e : numV n k ⟨4, (j : Int) + 1⟩ = ⟨4, (goTo n k j : Int) + 1⟩ := by
    unfold numV
    rw [if_pos ⟨rfl, h1, h2⟩, show ((j : Int) + 1).toNat - 1 = j by omega]
  have HE := hide e
  have hw1 : IntKind.i64.wrap (j : Int) = (j : Int) := by rw [IntKind.wrap_i64]; omega
  have hw3 : IntKind.i64.wrap ((j : Int) + (k : Int)) = (j : Int) + (k : Int) := by rw [IntKind.wrap_i64]; omega
  have htm : ((j : Int) + (k : Int)).tmod (n : Int) = (goTo n k j : Int) := by
    unfold goTo
    rw [Int.tmod_eq_emod_of_nonneg (by omega)]
    push_cast
    rfl
  have hgl := goTo_lt (n := n) (k := k) (i := j) (by omega)
  have hw4 : IntKind.i64.wrap (goTo n k j : Int) = (goTo n k j : Int) := by rw [IntKind.wrap_i64]; omega
  have hw5 : IntKind.i64.wrap ((goTo n k j : Int) + 1) = (goTo n k j : Int) + 1 := by rw [IntKind.wrap_i64]; omega
  have hn0 : ¬ (n : Int) = 0 := by omega
  have hb1 := heap_setCell_same w2 w.heap.size 1 _ _ (.int .i64 ((goTo n k j : Int) + 1)) bx
  have hr1 : (w2.setCell ⟨w.heap.size, 1, none⟩ (.int .i64 ((goTo n k j : Int) + 1))).heap[w.heap.size + 1]? = some (.cells #[.int .i64 0, .int .i64 0] 47 (0, 0)) := (Below.heap_setCell _ _ _ _ (by simp)).trans br
  have c0 := bx_cell hb1 0 _ rfl
  have c1 := bx_cell hb1 1 _ rfl
  have q0 := bx_thaw hr1 0
  have q1 := bx_thaw hr1 1
  have p0 := bx_cell hr1 0 _ rfl
  have p1 := bx_cell hr1 1 _ rfl
  simp at c0 c1 p0 p1
  generalize goTo n k j = gj at *
  clear e f2 bx br h3 h7 hb1 hr1
  subst hw2
  go_enter Try.func27, Try.ntmps27
  go_wp2
  exact bodyPost_ret (res_v Try.results27 _ (w.heap.size + 1) _ _ (unhide HB _ _ _ _).1 _ rfl) rfl ⟨by rw [unhide HE], (unhide HB _ _ _ _).2⟩
end Go.Proofs.Ytnnanlniffjnkaa
