/- Layer 15: the walk of HeapSets. -/
import Derived.Test.YtgiohebbmjgefaaJHpO
import Derived.Test.YtgiohebbmjgefaaJHpP

namespace Go.Proofs.Ytgiohebbmjgefaa
open Go.RowKit
set_option linter.unusedVariables false
set_option maxRecDepth 100000

theorem wordPost.none {w : World} {l : List Ob} {n k : Int} {e : Ending} {w' : World} (h : wordPost w l n k e w') (h0 : wordH l n k = none) : Below w.heap.size w w' ∧ e = .returned (.tuple #[.agg #[.int .i64 0, .int .i64 0], .int .i64 150]) := by
  obtain ⟨f, ⟨_, h1⟩ | ⟨v2, h1, h2⟩⟩ := h
  · exact ⟨f, h1⟩
  · rw [h0] at h1; cases h1
theorem setPost.none {w : World} {l : List Ob} {n k : Int} {v : Vl} {e : Ending} {w' : World} (h : setPost w l n k v e w') (h0 : setH l n k v = none) : Below w.heap.size w w' ∧ e = .returned (.tuple #[.slice none 0 0, .int .i64 150]) := by
  obtain ⟨f, ⟨_, h1⟩ | ⟨l2, s, rs, h1, _⟩⟩ := h
  · exact ⟨f, h1⟩
  · rw [h0] at h1; cases h1
theorem setPost.ok {w : World} {l l' : List Ob} {n k : Int} {v : Vl} {e : Ending} {w' : World} (h : setPost w l n k v e w') (h0 : setH l n k v = some l') : Below w.heap.size w w' ∧ ∃ s rs, HIn w' s rs ∧ rs.map ObR.o = l' ∧ e = .returned (.tuple #[s.v, .int .i64 0]) := by
  obtain ⟨f, ⟨h1, _⟩ | ⟨l2, s, rs, h1, h2, h3, h4⟩⟩ := h
  · rw [h0] at h1; cases h1
  · rw [h0] at h1
    injection h1 with h1
    subst h1
    exact ⟨f, s, rs, h2, h3, h4⟩
set_option maxHeartbeats 3200000 in
theorem sets_walk15 (w : World) (a : Option Addr) (m c : Nat) (rs : List ObR) (h : HIn w ⟨a, m, c⟩ rs) (n k v : Int) (hn : fitI n) (hk : fitI k) :
    Calls Try.prog 8 #[.slice a m c, .int .i64 n, .int .i64 k, .int .i64 v] w fun e w' => e = .returned (.bool true) ∧ Below w.heap.size w w' := by
  have hln := h.ls.1
  simp only at hln
  have KH : Hid (∀ W, Below w.heap.size w W → HIn W ⟨a, m, c⟩ rs) := fun W f => h.below f
  have HWK := hide (works15_any w)
  have KB : Hid (∀ {W W2}, Below w.heap.size w W → Below W.heap.size W W2 → Below w.heap.size w W2) := fun f g => f.trans (g.mono f.size)
  have HF := hide (And.intro hn hk)
  clear h hn hk
  go_enter Try.func8, Try.ntmps8
  go_wp2_with fail
  refine (unhide HWK).mono ?_
  rintro e w1 ⟨rfl, f1⟩
  have H1 := hide f1
  have HL := hide (light_any w1 ⟨a, m, c⟩ rs (unhide KH _ f1))
  clear f1 HWK
  simp only [Sl.v] at HL
  go_wp2_with fail
  refine (unhide HL).mono ?_
  rintro e w2 ⟨rfl, f2⟩
  have H2 := hide (unhide KB (unhide H1) f2)
  clear f2 HL H1
  cases hlb : lightB (rs.map ObR.o) with
  | false =>
    go_wp2
    go_ret
    exact ⟨rfl, unhide H2⟩
  | true =>
    by_cases h3 : 300 < m
    · have h31 : (300 : Int) < (m : Int) := by omega
      go_wp2
      go_ret
      exact ⟨rfl, unhide H2⟩
    · have h31 : ¬ (300 : Int) < (m : Int) := by omega
      have HW := hide (word_any w2 ⟨a, m, c⟩ rs (unhide KH _ (unhide H2)) n k (unhide HF).1 (unhide HF).2)
      simp only [Sl.v] at HW
      go_wp2_with fail
      refine (unhide HW).mono ?_
      rintro e w3 hp
      cases hu : wordH (rs.map ObR.o) n k with
      | none =>
        obtain ⟨f3, rfl⟩ := hp.none hu
        have H3 := hide (unhide KB (unhide H2) (f3.trans (((Below.refl w3.heap.size w3).alloc (Nat.le_refl _) (.cells #[.int .i64 0, .int .i64 0] 33)).mono f3.size)))
        have HS := hide (set_any _ ⟨a, m, c⟩ rs (unhide KH _ (unhide H3)) n k (unhide HF).1 (unhide HF).2 ⟨0, v⟩)
        simp only [Sl.v] at HS
        have HU := hide (setH_none (v := ⟨0, v⟩) hu)
        clear hp f3 HW hu
        go_wp2_with fail
        refine (unhide HS).mono ?_
        rintro e w4 hp
        obtain ⟨f4, rfl⟩ := hp.none (unhide HU)
        have H4 := hide (unhide KB (unhide H3) f4)
        clear hp f4 HS
        go_wp2
        go_ret
        exact ⟨rfl, unhide H4⟩
      | some u =>
        obtain ⟨f3, rfl⟩ := hp.ok hu
        have H3 := hide (unhide KB (unhide H2) (f3.trans (((Below.refl w3.heap.size w3).alloc (Nat.le_refl _) (.cells #[.int .i64 u.kind, .int .i64 u.n] 33)).mono f3.size)))
        have HS := hide (set_any _ ⟨a, m, c⟩ rs (unhide KH _ (unhide H3)) n k (unhide HF).1 (unhide HF).2 ⟨u.kind, v⟩)
        simp only [Sl.v] at HS
        obtain ⟨l', e1, e2, e3⟩ := sets_pure (v := ⟨u.kind, v⟩) hu rfl
        have HE := hide (And.intro e1 (And.intro e2 e3))
        have KV := hide (fun (W : World) (f : Below (w3.alloc (.cells #[.int .i64 u.kind, .int .i64 u.n] 33)).heap.size (w3.alloc (.cells #[.int .i64 u.kind, .int .i64 u.n] 33)) W) => (f.block w3.heap.size (by simp)).trans (heap_alloc_last w3 (.cells #[.int .i64 u.kind, .int .i64 u.n] 33)))
        obtain ⟨uk, un⟩ := u
        simp only at HS KV
        clear hp f3 HW hu e1 e2 e3
        go_wp2_with fail
        refine (unhide HS).mono ?_
        rintro e w4 hp
        obtain ⟨f4, s4, rs4, hi4, hm4, rfl⟩ := hp.ok (unhide HE).1
        have H4 := hide (unhide KB (unhide H3) f4)
        have hv4 := unhide KV _ f4
        have F4 := hide f4
        obtain ⟨a4, n4, c4⟩ := s4
        have HI4 := hide (And.intro hi4 hm4)
        have HW := hide (word_any w4 ⟨a4, n4, c4⟩ rs4 hi4 n k (unhide HF).1 (unhide HF).2)
        simp only [Sl.v] at HW
        have k0 := bx_cell hv4 0 _ rfl
        have k1 := bx_cell hv4 1 _ rfl
        clear hp f4 hi4 hm4 HS hv4
        unfold Sl.v
        simp only
        go_wp2_with fail
        clear k0 k1
        refine (unhide HW).mono ?_
        rintro e w5 hp
        obtain ⟨hi4, hm4⟩ := unhide HI4
        rw [hm4] at hp
        obtain ⟨f5, rfl⟩ := hp.ok (unhide HE).2.1
        have f5' : Below w4.heap.size w4 (w5.alloc (.cells #[.int .i64 uk, .int .i64 v] 33)) := f5.trans (((Below.refl w5.heap.size w5).alloc (Nat.le_refl _) _).mono f5.size)
        have H5 := hide (unhide KB (unhide H4) f5')
        have hv5 := unhide KV _ ((unhide F4).trans (f5'.mono (unhide F4).size))
        have HS := hide (set_any _ ⟨a4, n4, c4⟩ rs4 (hi4.below f5') n k (unhide HF).1 (unhide HF).2 ⟨uk, un⟩)
        simp only [Sl.v] at HS
        have F5 := hide ((unhide F4).trans (f5'.mono (unhide F4).size))
        have KV5 := hide (fun (W : World) (f : Below (w5.alloc (.cells #[.int .i64 uk, .int .i64 v] 33)).heap.size (w5.alloc (.cells #[.int .i64 uk, .int .i64 v] 33)) W) => (f.block w5.heap.size (by simp)).trans (heap_alloc_last w5 (.cells #[.int .i64 uk, .int .i64 v] 33)))
        have k0 := bx_cell hv5 0 _ rfl
        have k1 := bx_cell hv5 1 _ rfl
        clear hp f5 f5' hv5 HW hi4 hm4
        go_wp2_with fail
        clear k0 k1
        refine (unhide HS).mono ?_
        rintro e w6 hp
        obtain ⟨hi4, hm4⟩ := unhide HI4
        rw [hm4] at hp
        obtain ⟨f6, s6, rs6, hi6, hm6, rfl⟩ := hp.ok (unhide HE).2.2
        have H6 := hide (unhide KB (unhide H5) f6)
        have hv6 := unhide KV _ ((unhide F5).trans (f6.mono (unhide F5).size))
        have hx6 := unhide KV5 _ f6
        obtain ⟨a6, n6, c6⟩ := s6
        have HSO := hide (SameObjects_same w6 ⟨a6, n6, c6⟩ ⟨a, m, c⟩ rs6 rs hi6 (unhide KH _ (unhide H6)) hm6)
        simp only [Sl.v] at HSO
        have k0 := bx_cell hv6 0 _ rfl
        have k1 := bx_cell hv6 1 _ rfl
        have j0 := bx_cell hx6 0 _ rfl
        have j1 := bx_cell hx6 1 _ rfl
        have JE : ∀ W, (binOp .eql 33 (.agg #[.int .i64 uk, .int .i64 v]) (.agg #[.int .i64 uk, .int .i64 v])).run Try.prog W = .ok (.bool true) W := fun W => by have := val_cmp W ⟨uk, v⟩ ⟨uk, v⟩; rw [decide_eq_true rfl] at this; exact this
        clear hp f6 hi6 hm6 hv6 hx6 HS hi4 hm4
        unfold Sl.v
        simp only
        go_wp2_with fail
        refine (unhide HSO).mono ?_
        rintro e w7 ⟨rfl, f7⟩
        have H7 := hide (unhide KB (unhide H6) f7)
        clear f7
        go_wp2
        go_ret
        exact ⟨rfl, unhide H7⟩
end Go.Proofs.Ytgiohebbmjgefaa
