/- The document's own reader. -/
import Derived.Test.YtkmcpedhcdgnoaaWdR
import Derived.Deep.CutBlock
import Derived.Deep.LoopGhost
import Derived.Deep.RegionHeld3
import Derived.Deep.RegionHeldLaw
namespace Go.Proofs.Ytkmcpedhcdgnoaa
open Go.RowKit
set_option linter.unusedVariables false

/-- W is w, the reader's block at z written anew. -/
structure Rw (z : Nat) (w W : World) (cs : Array Value) : Prop where
  blk : W.heap[z]? = some (.cells cs 29 (0, 0))
  oth : ∀ k, k ≠ z → W.heap[k]? = w.heap[k]?
  bel : Below z w W
theorem Rw.drew {z : Nat} {w W : World} {cs : Array Value} (h : Rw z w W cs) : Rw z w W.drew cs := ⟨h.blk, h.oth, h.bel.drew⟩
theorem Rw.drewN {z : Nat} {w W : World} {cs : Array Value} (h : Rw z w W cs) (n : Nat) : Rw z w (W.drewN n) cs := by
  induction n with
  | zero => exact h
  | succ n ih => exact ih.drew
theorem Rw.set {z : Nat} {w W : World} {cs : Array Value} (h : Rw z w W cs) (j : Nat) (u : Value) : Rw z w (W.setCell ⟨z, j, none⟩ u) (cs.setIfInBounds j u) :=
  ⟨heap_setCell_same W z j cs _ u h.blk, fun k hk => (Below.heap_setCell _ _ _ _ hk).trans (h.oth k hk), h.bel.setCell (Nat.le_refl _) u⟩

set_option maxHeartbeats 3200000 in
set_option maxRecDepth 100000 in
theorem hGet_any (w : World) (z : Nat) (a : Option Addr) (n c i : Nat) (bs : List UInt8) (hb : Arg w a n c bs) (hn : n ≤ 4611686018427387904) (hi : i ≤ n) (hz : w.heap[z]? = some (.cells #[.slice a n c, .int .i64 (i : Int)] 29 (0, 0))) (k : Int) (hk : -9223372036854775808 ≤ k ∧ k ≤ 9223372036854775807) (sg : Bool) :
    Calls Try.prog 12 #[.pointer (some ⟨z, 0, none⟩), .int .i64 k, .bool sg] w fun e w' => e = .returned (.tuple #[.int .i64 (getW bs i k sg).1, .int .i64 (getW bs i k sg).2.1]) ∧ Rw z w w' #[.slice a n c, .int .i64 ((getW bs i k sg).2.2 : Int)] := by
  have c0 : w.cell? ⟨z, 0, none⟩ = some (.slice a n c) := by rw [cell_of_row _ _ _ _ _ _ hz]; rfl
  have c1 : w.cell? ⟨z, 1, none⟩ = some (.int .i64 (i : Int)) := by rw [cell_of_row _ _ _ _ _ _ hz]; rfl
  have hf : w.frozen? ⟨z, 1, none⟩ = false := frozen_of_row _ _ _ _ _ hz
  have hlen := hb.bs.1
  have R0 : Hid (Rw z w w #[.slice a n c, .int .i64 (i : Int)]) := ⟨hz, fun _ _ => rfl, Below.refl _ _⟩
  have HW := hide (hwide_any w k)
  clear hz
  by_cases hw : wide k
  · rw [decide_eq_true hw] at HW
    by_cases hs : (n : Int) - i < k
    · have e1 : Hid (getW bs i k sg = (0, 7, i)) := by
        show getW bs i k sg = (0, 7, i)
        unfold getW
        rw [if_pos hw, hlen, if_pos hs]
      have y1 : IntKind.i64.wrap ((n : Int) - i) = (n : Int) - i := by rw [IntKind.wrap_i64]; omega
      clear hb hw hlen
      go_enter Try.func12, Try.ntmps12
      go_wp2_with fail
      refine (unhide HW).mono ?_
      rintro e w1 ⟨rfl, rfl⟩
      clear HW
      go_wp2_with fail
      go_quiet (fail)
      go_wp2
      go_ret2
      exact ⟨by rw [unhide e1]; rfl, by rw [unhide e1]; exact (unhide R0).drewN _⟩
    · obtain ⟨m, rfl, hm⟩ := wide_nat hw
      have hmn : i + m ≤ n := by omega
      obtain ⟨b, o, rfl, hbb⟩ := hb.bs.2.resolve_left (by omega)
      have hcap := hb.room
      have hmost := hb.most
      obtain ⟨K, hK⟩ : ∃ K, K = i + m := ⟨_, rfl⟩
      have k1 : (i : Int) + (m : Int) = (K : Int) := by omega
      have k2 : (K : Int) ≤ (n : Int) := by omega
      have k3 : (K : Int) ≤ (c : Int) := by omega
      have k4 : (i : Int) ≤ (K : Int) := by omega
      have k5 : K - i = m := by omega
      have k6 : ¬ c = i := by omega
      have k7 : (c : Int) ≤ 9223372036854775807 := by omega
      have y1 : IntKind.i64.wrap ((n : Int) - i) = (n : Int) - i := by rw [IntKind.wrap_i64]; omega
      have y2 : IntKind.i64.wrap (K : Int) = (K : Int) := by rw [IntKind.wrap_i64]; omega
      have hll : ((bs.drop i).take m).length = m := by rw [List.length_take, List.length_drop]; omega
      have hbl : BytesAt w (some ⟨b, o + i, none⟩) ((bs.drop i).take m) := by
        refine bytes_take ⟨(fun e => by cases e), fun ad e j u hu => ?_⟩ m
        injection e with e
        subst e
        have hu' : (bv bs)[i + j]? = some u := by
          simp only [bv, List.map_drop, List.getElem?_drop] at hu ⊢
          exact hu
        have := hbb.2 ⟨b, o, none⟩ rfl (i + j) u hu'
        rw [Addr.add_mid] at this ⊢
        rw [show o + i + j = o + (i + j) by omega]
        exact this
      have HN : Hid (∀ j, Calls Try.prog 33 #[.slice (some ⟨b, o + i, none⟩) m (c - i), .bool sg] (w.drewN j) fun e w' => e = .returned (.tuple #[.int .i64 (valR ((bs.drop i).take m) sg).1, .int .i64 (valR ((bs.drop i).take m) sg).2]) ∧ w' = w.drewN j) := fun j => hNumber_any (w.drewN j) b (o + i) (c - i) _ m hll hm sg (by
        refine ⟨(fun e => by cases e), fun ad e j' u hu => ?_⟩
        exact hbl.2 ad e j' u hu)
      have e1 : Hid (getW bs i (m : Int) sg = ((valR ((bs.drop i).take m) sg).1, (valR ((bs.drop i).take m) sg).2, if (valR ((bs.drop i).take m) sg).2 = 0 then K else i)) := by
        show getW bs i (m : Int) sg = _
        unfold getW valR
        rw [if_pos hw, hlen, if_neg hs, Int.toNat_natCast]
        cases valW ((bs.drop i).take m) sg with
        | none => rfl
        | some v => rw [hK]; rfl
      have hv : (valR ((bs.drop i).take m) sg).2 = 0 ∨ ((valR ((bs.drop i).take m) sg).2 = 3 ∧ (valR ((bs.drop i).take m) sg).1 = 0) := by
        unfold valR
        cases valW ((bs.drop i).take m) sg with
        | none => exact .inr ⟨rfl, rfl⟩
        | some v => exact .inl rfl
      generalize (valR ((bs.drop i).take m) sg).1 = V at *
      generalize (valR ((bs.drop i).take m) sg).2 = E at *
      clear hb hw hlen hbb hbl hll hm hK
      go_enter Try.func12, Try.ntmps12
      go_wp2_with fail
      refine (unhide HW).mono ?_
      rintro e w1 ⟨rfl, e0⟩
      have e0' := e0.symm
      clear e0
      subst e0'
      clear HW
      go_wp2_with fail
      go_quiet (fail)
      go_upto_region 5 with fail
      go_region_held_law (fun W => W.cell? ⟨z, 0, none⟩ = some (.slice (some ⟨b, o, none⟩) n c) ∧ W.cell? ⟨z, 1, none⟩ = some (.int .i64 (i : Int))) (go_keep)
        (first | (go_at_call 33; refine (unhide HN _).mono ?_; rintro e w2 ⟨rfl, rfl⟩))
      rcases hv with rfl | ⟨rfl, rfl⟩
      · have R1 := hide ((unhide R0).drewN)
        clear R0 HN
        go_wp2
        go_ret2
        refine ⟨by rw [unhide e1]; rfl, ?_⟩
        rw [unhide e1]
        first
          | exact (unhide R1 _).set 1 (.int .i64 (K : Int))
          | exact (unhide R1 _).drew.set 1 (.int .i64 (K : Int))
          | exact (unhide R1 _).drew.drew.set 1 (.int .i64 (K : Int))
      · have R1 := hide ((unhide R0).drewN)
        clear R0 HN
        go_wp2
        go_ret2
        refine ⟨by rw [unhide e1]; rfl, ?_⟩
        rw [unhide e1]
        first
          | exact unhide R1 _
          | exact (unhide R1 _).drew
          | exact (unhide R1 _).drew.drew
  · rw [decide_eq_false hw] at HW
    have e1 : Hid (getW bs i k sg = (0, 2, i)) := by
      show getW bs i k sg = (0, 2, i)
      unfold getW
      rw [if_neg hw]
    clear hb hw
    go_enter Try.func12, Try.ntmps12
    go_wp2_with fail
    refine (unhide HW).mono ?_
    rintro e w1 ⟨rfl, rfl⟩
    go_wp2
    go_ret2
    exact ⟨by rw [unhide e1]; rfl, by rw [unhide e1]; exact unhide R0⟩

end Go.Proofs.Ytkmcpedhcdgnoaa
