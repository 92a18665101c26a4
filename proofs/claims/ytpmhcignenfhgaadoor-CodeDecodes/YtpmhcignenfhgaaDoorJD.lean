/- Joined: WdR WdG WdB WdQ WdP WdU. -/
import Derived.Test.YtpmhcignenfhgaaDoorJA
import Derived.Test.YtpmhcignenfhgaaDoorJB
import Derived.Deep.CutBlock
import Derived.Deep.LoopGhost
import Derived.Deep.RegionHeld3
import Derived.Deep.RegionHeldLaw
import Derived.Laws.AppendOwnNone
import Derived.Deep.AppendLies

/- The document's own reading of numbers: wide, full, Number. -/
namespace Go.Proofs.YtpmhcignenfhgaaDoor
open Go.RowKit
set_option linter.unusedVariables false

set_option maxHeartbeats 1600000 in
theorem hwide_any (w : World) (k : Int) :
    Calls Tryd.prog 73 #[.int .i64 k] w fun e w' => e = .returned (.bool (decide (wide k))) ∧ w' = w := by
  by_cases h1 : k = 1
  · subst h1
    go_enter Tryd.func73, Tryd.ntmps73
    go_wp2
    go_ret
    exact ⟨rfl, rfl⟩
  by_cases h2 : k = 2
  · subst h2
    go_enter Tryd.func73, Tryd.ntmps73
    go_wp2
    go_ret
    exact ⟨rfl, rfl⟩
  by_cases h4 : k = 4
  · subst h4
    go_enter Tryd.func73, Tryd.ntmps73
    go_wp2
    go_ret
    exact ⟨rfl, rfl⟩
  by_cases h8 : k = 8
  · subst h8
    go_enter Tryd.func73, Tryd.ntmps73
    go_wp2
    go_ret
    exact ⟨rfl, rfl⟩
  · have b1 : (k == 1) = false := by simpa using h1
    have b2 : (k == 2) = false := by simpa using h2
    have b4 : (k == 4) = false := by simpa using h4
    have b8 : (k == 8) = false := by simpa using h8
    have hd : decide (wide k) = false := decide_eq_false (fun h => by rcases h with h | h | h | h <;> omega)
    rw [hd]
    clear hd
    go_enter Tryd.func73, Tryd.ntmps73
    go_wp2
    go_ret
    exact ⟨rfl, rfl⟩

theorem pow_small {i : Nat} (h : i ≤ 4) : 256 ^ i ≤ 4294967296 := by
  have := Nat.pow_le_pow_right (n := 256) (by omega) h
  omega
set_option maxHeartbeats 1600000 in
theorem hfull_any (w : World) (m : Nat) (hm : m ≤ 4) :
    Calls Tryd.prog 91 #[.int .i64 (m : Int)] w fun e w' => e = .returned (.int .i64 ((256 ^ m : Nat) : Int)) ∧ w' = w := by
  go_enter Tryd.func91, Tryd.ntmps91
  go_wp2
  go_loopw [3, 4] (fun n i wr => ∃ k : Nat, k ≤ m ∧ i = .int .i64 k ∧ n = .int .i64 ((256 ^ k : Nat) : Int) ∧ wr = w) (fun _ i _ => m - (intOf i).toNat)
  case atStart => exact ⟨0, by omega, rfl, rfl, rfl⟩
  case round =>
    obtain ⟨k, hk, rfl, rfl, rfl⟩ := hrel
    by_cases hlt : k < m
    · have hlt1 : (k : Int) < (m : Int) := by omega
      have hp := pow_small (i := k) (by omega)
      have hs : ((256 ^ (k + 1) : Nat) : Int) = ((256 ^ k : Nat) : Int) * 256 := by rw [Nat.pow_succ]; exact Int.natCast_mul _ _
      obtain ⟨P, hP⟩ : ∃ P, P = 256 ^ k := ⟨_, rfl⟩
      rw [← hP] at hp hs ⊢
      have hP1 : (P : Int) ≤ 4294967296 := by omega
      clear hP
      go_wp2
      go_roundw
      case rel => exact ⟨k + 1, by omega, by go_num, by (rw [hs]; try rfl; try go_num), by first | rfl | trivial⟩
      case measure => simp [intOf]; omega
    · obtain rfl : k = m := by omega
      go_wp2
      go_ret
      exact ⟨rfl, rfl⟩

theorem numB_take {l : List UInt8} {k : Nat} (hk : k < l.length) : numB (l.take (k + 1)) = numB (l.take k) * 256 + (l[k]).toNat := by
  rw [List.take_add_one, List.getElem?_eq_getElem hk]
  exact numB_snoc _ _
theorem numB_small {l : List UInt8} {k m : Nat} (hk : l.length ≤ k) : numB l < 256 ^ k := by
  have h1 := numB_lt l
  have h2 := Nat.pow_le_pow_right (n := 256) (by omega) hk
  omega
def valR (l : List UInt8) (sg : Bool) : Int × Int := match valW l sg with
  | none => (0, 3)
  | some n => (n, 0)
theorem half_pow {m : Nat} (h : m = 1 ∨ m = 2 ∨ m = 4) : ∃ H : Nat, 256 ^ m = 2 * H ∧ H ≤ 2147483648 := by
  rcases h with rfl | rfl | rfl
  · exact ⟨128, by decide, by omega⟩
  · exact ⟨32768, by decide, by omega⟩
  · exact ⟨2147483648, by decide, by omega⟩

set_option maxHeartbeats 3200000 in
set_option maxRecDepth 100000 in
theorem hNumber_any (w : World) (b o c : Nat) (l : List UInt8) (m : Nat) (hl : l.length = m) (hm : m = 1 ∨ m = 2 ∨ m = 4 ∨ m = 8) (sg : Bool) (h : BytesAt w (some ⟨b, o, none⟩) l) :
    Calls Tryd.prog 86 #[.slice (some ⟨b, o, none⟩) m c, .bool sg] w fun e w' => e = .returned (.tuple #[.int .i64 (valR l sg).1, .int .i64 (valR l sg).2]) ∧ w' = w := by
  have HB := hide h
  have hm8 : m ≤ 8 := by omega
  clear h
  go_enter Tryd.func86, Tryd.ntmps86
  go_wp2
  go_loopw [6, 7] (fun x i wr => ∃ k : Nat, k ≤ m ∧ i = .int .i64 k ∧ x = .int .u64 (numB (l.take k) : Int) ∧ wr = w) (fun _ i _ => m - (intOf i).toNat)
  case atStart => exact ⟨0, by omega, rfl, rfl, rfl⟩
  case round =>
    obtain ⟨k, hk, rfl, rfl, rfl⟩ := hrel
    by_cases hlt : k < m
    · have hlt1 : (k : Int) < (m : Int) := by omega
      have hkl : k < l.length := by omega
      have c0 := bytes_get (unhide HB) hkl
      have hs := numB_take hkl
      have hb := (l[k]).toNat_lt
      have h7 := numB_small (l := l.take (k + 1)) (k := 8) (m := 0) (by rw [List.length_take]; omega)
      obtain ⟨Q, hQQ⟩ : ∃ Q, Q = numB (l.take (k + 1)) := ⟨_, rfl⟩
      rw [← hQQ] at hs h7
      generalize numB (l.take k) = P at *
      generalize (l[k]).toNat = x at *
      have hQ : (Q : Int) = (P : Int) * 256 + (x : Int) := by omega
      have hQ2 : (Q : Int) ≤ 18446744073709551615 := by omega
      have hP2 : (P : Int) * 256 ≤ 18446744073709551615 := by omega
      have hx2 : (x : Int) ≤ 255 := by omega
      clear h7
      go_wp2
      go_roundw
      case rel => exact ⟨k + 1, by omega, by go_num, by (rw [← hQQ, hQ]; try rfl; try go_num), by first | rfl | trivial⟩
      case measure => simp [intOf]; omega
    · obtain rfl : k = m := by omega
      have ht : l.take k = l := List.take_of_length_le (by omega)
      rw [ht]
      have h7 := numB_small (l := l) (k := 8) (m := 0) (by omega)
      have hk4 := numB_lt l
      have hv : valR l sg = valR l sg := rfl
      have hle : l.length = k := by omega
      by_cases h8 : k = 8
      · have hk8 : ((k : Int) == 8) = true := by rw [h8]; rfl
        obtain ⟨N, hN⟩ : ∃ N : Int, N = if numB l < 9223372036854775808 then (numB l : Int) else (numB l : Int) - 18446744073709551616 := ⟨_, rfl⟩
        have hwr : IntKind.i64.wrap (numB l : Int) = N := by rw [IntKind.wrap_i64, hN]; split <;> omega
        have hlo : N < 0 ↔ ¬ numB l < 9223372036854775808 := by rw [hN]; split <;> omega
        cases sg with
        | true =>
          have e1 : valR l true = (N, 0) := by
            unfold valR valW
            rw [if_pos (by omega), if_pos rfl, ← hN]
          have E1 := hide e1
          clear e1 hlo hN hv h7 hk4 ht
          generalize numB l = X at *
          go_wp2
          go_ret2
          exact ⟨by rw [unhide E1]; rfl, rfl⟩
        | false =>
          by_cases hbig : numB l < 9223372036854775808
          · have e1 : valR l false = (N, 0) := by
              unfold valR valW
              rw [if_pos (by omega), if_neg (by decide), if_pos hbig]
              rw [if_pos hbig] at hN
              rw [hN]
            have hn : ¬ N < 0 := fun h => (hlo.1 h) hbig
            have E1 := hide e1
            clear e1 hlo hN hv h7 hk4 ht
            generalize numB l = X at *
            go_wp2
            go_ret2
            exact ⟨by rw [unhide E1]; rfl, rfl⟩
          · have e1 : valR l false = (0, 3) := by
              unfold valR valW
              rw [if_pos (by omega), if_neg (by decide), if_neg hbig]
            have hn : N < 0 := hlo.2 hbig
            have E1 := hide e1
            clear e1 hlo hN hv h7 hk4 ht
            generalize numB l = X at *
            go_wp2
            go_ret2
            exact ⟨by rw [unhide E1]; rfl, rfl⟩
      · have hk8 : ((k : Int) == 8) = false := by simp; omega
        obtain ⟨H, hH, hH2⟩ := half_pow (m := k) (by omega)
        rw [hle, hH] at hk4
        have hwr : IntKind.i64.wrap (numB l : Int) = (numB l : Int) := by rw [IntKind.wrap_i64]; omega
        have HF := hide (hfull_any wr k (by omega))
        rw [hH] at HF
        cases sg with
        | false =>
          have e1 : valR l false = ((numB l : Int), 0) := by
            unfold valR valW
            rw [if_neg (by omega), if_neg (by simp)]
          have E1 := hide e1
          clear e1 hv h7 ht HF
          generalize numB l = X at *
          go_wp2
          go_ret2
          exact ⟨by rw [unhide E1]; rfl, rfl⟩
        | true =>
          have q1 : (((2 * H : Nat) : Int)).tdiv 2 = (H : Int) := by
            have h2 : ((2 * H : Nat) : Int) = 2 * (H : Int) := by omega
            rw [h2, Int.mul_tdiv_cancel_left _ (by decide)]
          by_cases hbig : H ≤ numB l
          · have e1 : valR l true = ((numB l : Int) - ((2 * H : Nat) : Int), 0) := by
              unfold valR valW
              rw [if_neg (by omega), if_pos ⟨rfl, by rw [hle, hH]; omega⟩, hle, hH]
            have hb2 : (H : Int) ≤ (numB l : Int) := by omega
            have E1 := hide e1
            clear e1 hv h7 ht
            generalize numB l = X at *
            generalize hF2 : 2 * H = F2 at *
            go_wp2_with fail
            refine (unhide HF).mono ?_
            rintro e w1 ⟨rfl, rfl⟩
            go_wp2_with fail
            refine (unhide HF).mono ?_
            rintro e w2 ⟨rfl, rfl⟩
            go_wp2
            go_ret2
            exact ⟨by rw [unhide E1]; rfl, rfl⟩
          · have e1 : valR l true = ((numB l : Int), 0) := by
              unfold valR valW
              rw [if_neg (by omega), if_neg (by rw [hle, hH]; intro h; omega)]
            have hb2 : ¬ (H : Int) ≤ (numB l : Int) := by omega
            have E1 := hide e1
            clear e1 hv h7 ht
            generalize numB l = X at *
            generalize hF2 : 2 * H = F2 at *
            go_wp2_with fail
            refine (unhide HF).mono ?_
            rintro e w1 ⟨rfl, rfl⟩
            go_wp2
            go_ret2
            exact ⟨by rw [unhide E1]; rfl, rfl⟩

end Go.Proofs.YtpmhcignenfhgaaDoor

/- The document's own reader. -/
namespace Go.Proofs.YtpmhcignenfhgaaDoor
open Go.RowKit
set_option linter.unusedVariables false

/-- W is w, the reader's block at z written anew. -/
structure Rw (z : Nat) (w W : World) (cs : Array Value) : Prop where
  blk : W.heap[z]? = some (.cells cs 100 (0, 0))
  oth : ∀ k, k ≠ z → W.heap[k]? = w.heap[k]?
  bel : Below z w W
theorem Rw.drew {z : Nat} {w W : World} {cs : Array Value} (h : Rw z w W cs) : Rw z w W.drew cs := ⟨h.blk, h.oth, h.bel.drew⟩
theorem Rw.drewN {z : Nat} {w W : World} {cs : Array Value} (h : Rw z w W cs) (n : Nat) : Rw z w (W.drewN n) cs := by
  induction n with
  | zero => exact h
  | succ n ih => exact ih.drew
theorem Rw.set {z : Nat} {w W : World} {cs : Array Value} (h : Rw z w W cs) (j : Nat) (u : Value) : Rw z w (W.setCell ⟨z, j, none⟩ u) (cs.setIfInBounds j u) :=
  ⟨heap_setCell_same W z j cs _ u h.blk, fun k hk => (Below.heap_setCell _ _ _ _ hk).trans (h.oth k hk), h.bel.setCell (Nat.le_refl _) u⟩

set_option maxHeartbeats 3200000 in
set_option maxRecDepth 100000 in
theorem hGet_any (w : World) (z : Nat) (a : Option Addr) (n c i : Nat) (bs : List UInt8) (hb : Arg w a n c bs) (hn : n ≤ 4611686018427387904) (hi : i ≤ n) (hz : w.heap[z]? = some (.cells #[.slice a n c, .int .i64 (i : Int)] 100 (0, 0))) (k : Int) (hk : -9223372036854775808 ≤ k ∧ k ≤ 9223372036854775807) (sg : Bool) :
    Calls Tryd.prog 63 #[.pointer (some ⟨z, 0, none⟩), .int .i64 k, .bool sg] w fun e w' => e = .returned (.tuple #[.int .i64 (getW bs i k sg).1, .int .i64 (getW bs i k sg).2.1]) ∧ Rw z w w' #[.slice a n c, .int .i64 ((getW bs i k sg).2.2 : Int)] := by
  have c0 : w.cell? ⟨z, 0, none⟩ = some (.slice a n c) := by rw [cell_of_row _ _ _ _ _ _ hz]; rfl
  have c1 : w.cell? ⟨z, 1, none⟩ = some (.int .i64 (i : Int)) := by rw [cell_of_row _ _ _ _ _ _ hz]; rfl
  have hf : w.frozen? ⟨z, 1, none⟩ = false := frozen_of_row _ _ _ _ _ hz
  have hlen := hb.bs.1
  have R0 : Hid (Rw z w w #[.slice a n c, .int .i64 (i : Int)]) := ⟨hz, fun _ _ => rfl, Below.refl _ _⟩
  have HW := hide (hwide_any w k)
  clear hz
  by_cases hw : wide k
  · rw [decide_eq_true hw] at HW
    by_cases hs : (n : Int) - i < k
    · have e1 : Hid (getW bs i k sg = (0, 7, i)) := by
        show getW bs i k sg = (0, 7, i)
        unfold getW
        rw [if_pos hw, hlen, if_pos hs]
      have y1 : IntKind.i64.wrap ((n : Int) - i) = (n : Int) - i := by rw [IntKind.wrap_i64]; omega
      clear hb hw hlen
      go_enter Tryd.func63, Tryd.ntmps63
      go_wp2_with fail
      refine (unhide HW).mono ?_
      rintro e w1 ⟨rfl, rfl⟩
      clear HW
      go_wp2_with fail
      go_quiet (fail)
      go_wp2
      go_ret2
      exact ⟨by rw [unhide e1]; rfl, by rw [unhide e1]; exact (unhide R0).drewN _⟩
    · obtain ⟨m, rfl, hm⟩ := wide_nat hw
      have hmn : i + m ≤ n := by omega
      obtain ⟨b, o, rfl, hbb⟩ := hb.bs.2.resolve_left (by omega)
      have hcap := hb.room
      have hmost := hb.most
      obtain ⟨K, hK⟩ : ∃ K, K = i + m := ⟨_, rfl⟩
      have k1 : (i : Int) + (m : Int) = (K : Int) := by omega
      have k2 : (K : Int) ≤ (n : Int) := by omega
      have k3 : (K : Int) ≤ (c : Int) := by omega
      have k4 : (i : Int) ≤ (K : Int) := by omega
      have k5 : K - i = m := by omega
      have k6 : ¬ c = i := by omega
      have k7 : (c : Int) ≤ 9223372036854775807 := by omega
      have y1 : IntKind.i64.wrap ((n : Int) - i) = (n : Int) - i := by rw [IntKind.wrap_i64]; omega
      have y2 : IntKind.i64.wrap (K : Int) = (K : Int) := by rw [IntKind.wrap_i64]; omega
      have hll : ((bs.drop i).take m).length = m := by rw [List.length_take, List.length_drop]; omega
      have hbl : BytesAt w (some ⟨b, o + i, none⟩) ((bs.drop i).take m) := by
        refine bytes_take ⟨(fun e => by cases e), fun ad e j u hu => ?_⟩ m
        injection e with e
        subst e
        have hu' : (bv bs)[i + j]? = some u := by
          simp only [bv, List.map_drop, List.getElem?_drop] at hu ⊢
          exact hu
        have := hbb.2 ⟨b, o, none⟩ rfl (i + j) u hu'
        rw [Addr.add_mid] at this ⊢
        rw [show o + i + j = o + (i + j) by omega]
        exact this
      have HN : Hid (∀ j, Calls Tryd.prog 86 #[.slice (some ⟨b, o + i, none⟩) m (c - i), .bool sg] (w.drewN j) fun e w' => e = .returned (.tuple #[.int .i64 (valR ((bs.drop i).take m) sg).1, .int .i64 (valR ((bs.drop i).take m) sg).2]) ∧ w' = w.drewN j) := fun j => hNumber_any (w.drewN j) b (o + i) (c - i) _ m hll hm sg (by
        refine ⟨(fun e => by cases e), fun ad e j' u hu => ?_⟩
        exact hbl.2 ad e j' u hu)
      have e1 : Hid (getW bs i (m : Int) sg = ((valR ((bs.drop i).take m) sg).1, (valR ((bs.drop i).take m) sg).2, if (valR ((bs.drop i).take m) sg).2 = 0 then K else i)) := by
        show getW bs i (m : Int) sg = _
        unfold getW valR
        rw [if_pos hw, hlen, if_neg hs, Int.toNat_natCast]
        cases valW ((bs.drop i).take m) sg with
        | none => rfl
        | some v => rw [hK]; rfl
      have hv : (valR ((bs.drop i).take m) sg).2 = 0 ∨ ((valR ((bs.drop i).take m) sg).2 = 3 ∧ (valR ((bs.drop i).take m) sg).1 = 0) := by
        unfold valR
        cases valW ((bs.drop i).take m) sg with
        | none => exact .inr ⟨rfl, rfl⟩
        | some v => exact .inl rfl
      generalize (valR ((bs.drop i).take m) sg).1 = V at *
      generalize (valR ((bs.drop i).take m) sg).2 = E at *
      clear hb hw hlen hbb hbl hll hm hK
      go_enter Tryd.func63, Tryd.ntmps63
      go_wp2_with fail
      refine (unhide HW).mono ?_
      rintro e w1 ⟨rfl, e0⟩
      have e0' := e0.symm
      clear e0
      subst e0'
      clear HW
      go_wp2_with fail
      go_quiet (fail)
      go_upto_region 5 with fail
      go_region_held_law (fun W => W.cell? ⟨z, 0, none⟩ = some (.slice (some ⟨b, o, none⟩) n c) ∧ W.cell? ⟨z, 1, none⟩ = some (.int .i64 (i : Int))) (go_keep)
        (first | (go_at_call 86; refine (unhide HN _).mono ?_; rintro e w2 ⟨rfl, rfl⟩))
      rcases hv with rfl | ⟨rfl, rfl⟩
      · have R1 := hide ((unhide R0).drewN)
        clear R0 HN
        go_wp2
        go_ret2
        refine ⟨by rw [unhide e1]; rfl, ?_⟩
        rw [unhide e1]
        first
          | exact (unhide R1 _).set 1 (.int .i64 (K : Int))
          | exact (unhide R1 _).drew.set 1 (.int .i64 (K : Int))
          | exact (unhide R1 _).drew.drew.set 1 (.int .i64 (K : Int))
      · have R1 := hide ((unhide R0).drewN)
        clear R0 HN
        go_wp2
        go_ret2
        refine ⟨by rw [unhide e1]; rfl, ?_⟩
        rw [unhide e1]
        first
          | exact unhide R1 _
          | exact (unhide R1 _).drew
          | exact (unhide R1 _).drew.drew
  · rw [decide_eq_false hw] at HW
    have e1 : Hid (getW bs i k sg = (0, 2, i)) := by
      show getW bs i k sg = (0, 2, i)
      unfold getW
      rw [if_neg hw]
    clear hb hw
    go_enter Tryd.func63, Tryd.ntmps63
    go_wp2_with fail
    refine (unhide HW).mono ?_
    rintro e w1 ⟨rfl, rfl⟩
    go_wp2
    go_ret2
    exact ⟨by rw [unhide e1]; rfl, by rw [unhide e1]; exact unhide R0⟩

end Go.Proofs.YtpmhcignenfhgaaDoor

/- An append of bytes within a region that draws; the document's reader: Bytes. -/
namespace Go.Proofs.YtpmhcignenfhgaaDoor
open Go.RowKit
set_option linter.unusedVariables false

theorem wpB_append {w : World} {o : Oper} {a : Act} {K : Act → World → Prop} {Q : Exit → Act → World → Prop} (s x : Operand) (ho : o.op = .call { callee := .builtin .append, args := #[s, x], argTypes := #[22, 22] })
    (base : Nat) (v : Value) (n : Nat) (xs : List UInt8) (hs : a.eval s = v) (hown : w.ownsRow base 5 1 v n (bv xs)) (src : Option Addr) (m c : Nat) (ys : List UInt8) (hx : a.eval x = .slice src m c) (hb : Bs w src m ys) (hnil : src = none → m = 0 ∧ c = 0)
    (hsm : n + m ≤ 140737488355328) (hbase : base ≤ w.heap.size) (h : ∀ v' w', w'.ownsRow base 5 1 v' (n + m) (bv (xs ++ ys)) → w.grownBy w' v.ownBlock → K (a.put o.dst v') w') : o.wp Tryd.prog a w K Q := by
  obtain ⟨i0, hi, hz0, hz1, hz2⟩ := info_parts infoB
  cases src with
  | none =>
    obtain ⟨rfl, rfl⟩ := hnil rfl
    have h0 : ys = [] := List.eq_nil_of_length_eq_zero hb.1
    subst h0
    have hrun := run_append_owned_none (P := Tryd.prog) (w := w) base 22 o.type 5 i0 1 Tryd.underlying22 hi v n (bv xs) hown
    unfold Oper.wp
    simp [execOp, ho, resolve, invoke, builtin, hs, hx, hrun, Result.andThen]
    exact h v w (by rw [List.append_nil]; exact hown) ⟨rfl, rfl, rfl, Nat.le_refl _, fun _ _ _ => rfl⟩
  | some ad =>
    refine wp_append_own w s x 22 ho base 5 i0 (.int .u8 0) 1 1 Tryd.underlying22 hi hz0 hz1 hz2 rfl (by decide) v n (bv xs) hs hown ad m c (bv ys) hx (by rw [bv_length, hb.1]; omega) (hb.at.2 ad rfl) (bv_one _) (by unfold maxLen; omega) (by omega) hbase ?_
    intro v' w' h1 h2 _
    exact h v' w' (by rw [bv_append]; exact h1) h2
theorem stepB_append {w : World} {ops : Array Oper} {o : Oper} {a : Act} {K : Act → World → Prop} {Q : Exit → Act → World → Prop} {E : Prop} (hgd : o.guard = none) (s x : Operand) (ho : o.op = .call { callee := .builtin .append, args := #[s, x], argTypes := #[22, 22] })
    (base : Nat) (v : Value) (n : Nat) (xs : List UInt8) (hs : a.eval s = v) (hown : w.ownsRow base 5 1 v n (bv xs)) (src : Option Addr) (m c : Nat) (ys : List UInt8) (hx : a.eval x = .slice src m c) (hb : Bs w src m ys) (hnil : src = none → m = 0 ∧ c = 0)
    (hsm : n + m ≤ 140737488355328) (hbase : base ≤ w.heap.size) (h : ∀ v' w', w'.ownsRow base 5 1 v' (n + m) (bv (xs ++ ys)) → w.grownBy w' v.ownBlock → K (a.put o.dst v') w') :
    if Region.wanted o (yielded ops a.tmps) = true then Oper.wp Tryd.prog o a w K Q else E := by
  rw [if_pos (by simp [Region.wanted, hgd])]
  exact wpB_append s x ho base v n xs hs hown src m c ys hx hb hnil hsm hbase h

/-- W is w, the reader's block at z written anew, and perhaps new blocks. -/
structure Rv (z : Nat) (w W : World) (cs : Array Value) : Prop where
  blk : W.heap[z]? = some (.cells cs 100 (0, 0))
  oth : ∀ k, k < w.heap.size → k ≠ z → W.heap[k]? = w.heap[k]?
  bel : Below z w W
theorem Rw.v {z : Nat} {w W : World} {cs : Array Value} (h : Rw z w W cs) : Rv z w W cs := ⟨h.blk, fun k _ hk => h.oth k hk, h.bel⟩
theorem Rv.below {z : Nat} {w W W' : World} {cs : Array Value} (h : Rv z w W cs) (f : Below W.heap.size W W') : Rv z w W' cs :=
  ⟨(f.block z (lt_of_heap h.blk)).trans h.blk, fun k hk hz => (f.block k (Nat.lt_of_lt_of_le hk h.bel.size)).trans (h.oth k hk hz), h.bel.trans (f.mono (Nat.le_of_lt (lt_of_heap h.blk)))⟩

end Go.Proofs.YtpmhcignenfhgaaDoor

/- What the walks of stage 6's laws ask of the program's reader and writer, whatever their inner functions and their memory are. -/
namespace Go.Proofs.YtpmhcignenfhgaaDoor
open Go.RowKit
set_option linter.unusedVariables false

/-- Numbers in memory. -/
def Nums (w : World) (a : Option Addr) (n : Nat) (zs : List Int) : Prop := zs.length = n ∧ (n = 0 ∨ ∃ b o, a = some ⟨b, o, none⟩ ∧ ∀ (j : Nat) (z : Int), zs[j]? = some z → w.cell? ⟨b, o + j, none⟩ = some (.int .i64 z))
theorem Nums.below {w w' : World} {a : Option Addr} {n : Nat} {zs : List Int} (h : Nums w a n zs) (f : Below w.heap.size w w') : Nums w' a n zs := by
  rcases h with ⟨h1, h2 | ⟨b, o, e, h2⟩⟩
  · exact ⟨h1, .inl h2⟩
  · exact ⟨h1, .inr ⟨b, o, e, fun j z hz => by
      have h3 := h2 j z hz
      exact (f.cell (World.block_lt_of_cell? w _ h3)).trans h3⟩⟩
theorem Nums.lt {w : World} {a : Option Addr} {n : Nat} {zs : List Int} (h : Nums w a n zs) {b o : Nat} (e : a = some ⟨b, o, none⟩) (hn : 0 < n) : b < w.heap.size := by
  obtain ⟨b', o', e', hc⟩ := h.2.resolve_left (by omega)
  have hl := h.1
  rw [e] at e'
  injection e' with e'
  injection e' with e1 e2
  subst e1
  exact World.block_lt_of_cell? w _ (hc 0 _ (List.getElem?_eq_getElem (by omega)))
theorem nums_one (w : World) (z : Int) : Nums (w.alloc (.cells #[.int .i64 z] 3)) (some ⟨w.heap.size, 0, none⟩) 1 [z] := by
  refine ⟨rfl, .inr ⟨_, _, rfl, fun j y hy => ?_⟩⟩
  have h := heap_alloc_last w (.cells #[.int .i64 z] 3)
  match j with
  | 0 =>
    simp at hy
    subst hy
    rw [cell_of_row _ _ _ _ _ _ h]
    rfl
  | j + 1 => simp at hy
/-- What a step on a reader or a writer (its blocks: F) may turn. -/
structure Fr6 (F : Nat → Prop) (B : Nat) (w w' : World) : Prop where
  below : Below B w w'
  other : ∀ k, k < w.heap.size → ¬ F k → w'.heap[k]? = w.heap[k]?
theorem Fr6.of_below {F : Nat → Prop} {B : Nat} {w w' : World} (f : Below w.heap.size w w') (hB : B ≤ w.heap.size) : Fr6 F B w w' := ⟨f.mono hB, fun k hk _ => f.block k hk⟩

section
variable {RD : (Nat → Prop) → World → Nat → Nat → List UInt8 → Nat → Prop} {WR : (Nat → Prop) → World → Nat → Nat → List UInt8 → Prop}
theorem Arg.len {w : World} {a : Option Addr} {n c : Nat} {bs : List UInt8} (h : Arg w a n c bs) : bs.length = n := h.bs.1

end

end Go.Proofs.YtpmhcignenfhgaaDoor

/- The document's own writing of numbers: Bytes. -/
namespace Go.Proofs.YtpmhcignenfhgaaDoor
open Go.RowKit
set_option linter.unusedVariables false

theorem beK_cons (j : Nat) : ∀ x, beK (j + 1) x = UInt8.ofNat (x / 256 ^ j) :: beK j x := by
  induction j with
  | zero => intro x; simp [beK]
  | succ j ih =>
    intro x
    rw [beK, ih, beK, List.cons_append, Nat.div_div_eq_div_mul, Nat.pow_succ, Nat.mul_comm]
def zer (n : Nat) : List UInt8 := List.replicate n 0
/-- So many noughts, in a place of their own. -/
theorem makeZ6 (w : World) (n : Nat) (hn : n ≤ 100000) : (Instr.makeSlice 22 (.int .i64 (n : Int)) (.int .i64 (n : Int))).run Tryd.prog w = .ok (.slice (some ⟨w.heap.size, 0, none⟩) n n) (w.alloc (.cells (bv (zer n)).toArray 5)) := by
  obtain ⟨i0, hi, hz0, hz1, hz2⟩ := info_parts infoB
  have := run_make (P := Tryd.prog) w 22 5 i0 (.int .u8 0) Tryd.underlying22 hi hz0 .i64 .i64 (n : Int) (n : Int) (by omega) (by omega) (by rw [hz2]; omega) (by omega)
  rw [this, hz1]
  have e : madeCells (Value.int .u8 0).cells (Int.toNat (n : Int) * 1) = (bv (zer n)).toArray := by
    apply Array.toList_inj.1
    rw [Int.toNat_natCast, Nat.mul_one]
    show (madeCells #[Value.int .u8 0] n).toList = _
    rw [toList_madeCells_one]
    simp [bv, zer]
  rw [e, Int.toNat_natCast]
/-- Between the rounds: j bytes are laid. -/
structure Bp (w : World) (m X j : Nat) (wr : World) : Prop where
  blk : wr.heap[w.heap.size]? = some (.cells (bv (zer (m - j) ++ beK j X)).toArray 5 (0, 0))
  bel : Below w.heap.size w wr
theorem Bp.next {w wr : World} {m X j : Nat} (h : Bp w m X j wr) (hj : j < m) (u : Int) (hu : u = ((X / 256 ^ j % 256 : Nat) : Int)) : Bp w m X (j + 1) (wr.setCell ⟨w.heap.size, m - j - 1, none⟩ (.int .u8 u)) := by
  refine ⟨?_, h.bel.setCell (Nat.le_refl _) _⟩
  rw [heap_setCell_same wr _ (m - j - 1) _ _ _ h.blk]
  congr 2
  apply Array.toList_inj.1
  rw [Array.toList_setIfInBounds]
  have hz : zer (m - j) = zer (m - (j + 1)) ++ [0] := by
    unfold zer
    rw [show m - j = m - (j + 1) + 1 by omega, List.replicate_succ']
  have hlz : (bv (zer (m - (j + 1)))).length = m - j - 1 := by rw [bv_length]; unfold zer; rw [List.length_replicate]; omega
  rw [beK_cons, hz, List.append_assoc, bv_append, bv_append, List.set_append_right _ _ (by omega), hlz, Nat.sub_self]
  have hb : (Value.int .u8 u) = Value.int .u8 ((UInt8.ofNat (X / 256 ^ j)).toNat : Int) := by
    rw [hu]
    simp
  rw [hb]
  simp [bv]
theorem Bp.cell {w wr : World} {m X j : Nat} (h : Bp w m X j wr) (hj : j < m) : (∃ u, wr.cell? ⟨w.heap.size, m - j - 1, none⟩ = some u) ∧ wr.frozen? ⟨w.heap.size, m - j - 1, none⟩ = false := by
  refine ⟨?_, frozen_of_row _ _ _ _ _ h.blk⟩
  have hl : (bv (zer (m - j) ++ beK j X)).length = m := by rw [bv_length, List.length_append, beK_len]; unfold zer; rw [List.length_replicate]; omega
  exact ⟨_, by rw [cell_of_row _ _ _ _ _ _ h.blk, List.getElem?_toArray, List.getElem?_eq_getElem (by omega)]⟩
theorem Bp.own {w wr : World} {m X : Nat} (h : Bp w m X m wr) (hm : m ≤ 100000) : wr.ownsRow w.heap.size 5 1 (.slice (some ⟨w.heap.size, 0, none⟩) m m) m (bv (beK m X)) := by
  have hb := h.blk
  rw [Nat.sub_self] at hb
  have hz : zer 0 ++ beK m X = beK m X := rfl
  rw [hz] at hb
  refine ⟨by rw [bv_length, beK_len]; omega, .inr ⟨_, m, _, rfl, Nat.le_refl _, hb, Nat.le_refl _, by unfold maxLen; omega, by rw [List.size_toArray, bv_length, beK_len]; omega, ?_⟩⟩
  rw [List.toList_toArray]
  exact List.take_of_length_le (by rw [bv_length, beK_len]; omega)

set_option maxHeartbeats 6400000 in
set_option maxRecDepth 100000 in
theorem hBytes_ok (w : World) (m : Nat) (hm : m = 1 ∨ m = 2 ∨ m = 4 ∨ m = 8) (n : Int) (hn : -9223372036854775808 ≤ n ∧ n ≤ 9223372036854775807) (sg : Bool) (hf : fitsW (m : Int) n sg) :
    Calls Tryd.prog 74 #[.int .i64 (m : Int), .int .i64 n, .bool sg] w fun e w' => e = .returned (.tuple #[.slice (some ⟨w.heap.size, 0, none⟩) m m, .bool true]) ∧ w'.ownsRow w.heap.size 5 1 (.slice (some ⟨w.heap.size, 0, none⟩) m m) m (bv (bytesW (m : Int) n)) ∧ Below w.heap.size w w' := by
  obtain ⟨X, hX⟩ : ∃ X : Nat, X = (n % 18446744073709551616).toNat := ⟨_, rfl⟩
  have hX1 : (X : Int) = n % 18446744073709551616 := by omega
  have hwr : IntKind.u64.wrap n = (X : Int) := by rw [hX1]; rfl
  have hbw : bytesW (m : Int) n = beK m X := by unfold bytesW; rw [Int.toNat_natCast, hX]
  have HBW := hide hbw
  have HW := hide (hwide_any w (m : Int))
  rw [decide_eq_true hf.1] at HW
  have hmk := makeZ6 w m (by omega)
  have B0 : Hid (Bp w m X 0 (w.alloc (.cells (bv (zer m)).toArray 5))) := ⟨by rw [Nat.sub_zero, beK, List.append_nil]; exact heap_alloc_last w _, (Below.refl _ _).alloc (Nat.le_refl _) _⟩
  obtain ⟨_, hf2⟩ := hf
  have HB0 := hide (unhide B0)
  have HX := hide hX
  clear B0 hX hX1 hbw
  go_enter Tryd.func74, Tryd.ntmps74
  go_upto_if 15 with (go_at_call 73; refine (unhide HW).mono ?_; rintro e w1 ⟨rfl, e1⟩; have e1' := e1.symm; clear e1; subst e1')
  clear HW
  go_cut [6] from 14 (fun t wx => t = .slice none 0 0 ∧ wx = w)
  case first =>
    clear HB0 HBW hmk hwr
    by_cases h8 : m = 8
    · have hk8 : ((m : Int) == 8) = true := by rw [h8]; rfl
      rw [if_pos (by rw [h8]; rfl)] at hf2
      clear h8
      cases sg with
      | true =>
        clear hf2
        go_wp2
        go_meet
        exact ⟨rfl, rfl⟩
      | false =>
        have hn0 : ¬ n < 0 := by
          rcases hf2 with h | h
          · cases h
          · omega
        clear hf2
        go_wp2
        go_meet
        exact ⟨rfl, rfl⟩
    · have hk8 : ((m : Int) == 8) = false := by simp; omega
      have hk8' : ¬ (m : Int) = 8 := by omega
      rw [if_neg hk8', Int.toNat_natCast] at hf2
      obtain ⟨H, hH, hH2⟩ := half_pow (m := m) (by omega)
      have HF := hide (hfull_any w m (by omega))
      rw [hH] at HF hf2
      have q1 : (((2 * H : Nat) : Int)).tdiv 2 = (H : Int) := by
        have h2 : ((2 * H : Nat) : Int) = 2 * (H : Int) := by omega
        rw [h2, Int.mul_tdiv_cancel_left _ (by decide)]
      have q2 : (-((2 * H : Nat) : Int)).tdiv 2 = -(H : Int) := by rw [Int.neg_tdiv, q1]
      clear hH
      generalize hF2 : 2 * H = F2 at *
      have hF3 : (F2 : Int) ≤ 4294967296 := by omega
      cases sg with
      | true =>
        rw [if_pos rfl] at hf2
        have p1 : ¬ n < -(H : Int) := by omega
        have p2 : ¬ (H : Int) ≤ n := by omega
        clear hf2 hF2
        go_wp2_with fail
        refine (unhide HF).mono ?_
        rintro e w1 ⟨rfl, e1⟩
        have e1' := e1.symm
        clear e1
        subst e1'
        go_wp2_with fail
        refine (unhide HF).mono ?_
        rintro e w1 ⟨rfl, e1⟩
        have e1' := e1.symm
        clear e1
        subst e1'
        go_wp2
        go_meet
        exact ⟨rfl, rfl⟩
      | false =>
        rw [if_neg (by decide)] at hf2
        have p1 : ¬ n < 0 := by omega
        have p2 : ¬ (F2 : Int) ≤ n := by omega
        clear hf2 hF2
        go_wp2_with fail
        refine (unhide HF).mono ?_
        rintro e w1 ⟨rfl, e1⟩
        have e1' := e1.symm
        clear e1
        subst e1'
        go_wp2
        go_meet
        exact ⟨rfl, rfl⟩
  case rest =>
    obtain ⟨rfl, rfl⟩ := hcut
    have hm8 : (m : Int) ≤ 8 := by omega
    clear hf2
    go_wp2
    generalize wc.alloc (.cells (bv (zer m)).toArray 5) = w0 at *
    go_loopw [8, 10] (fun x i wr => ∃ (j : Nat) (t : Int), j ≤ m ∧ x = .int .u64 ((X / 256 ^ j : Nat) : Int) ∧ i = .int .i64 t ∧ t = (m : Int) - 1 - j ∧ Bp wc m X j wr) (fun _ i _ => (intOf i + 1).toNat)
    case atStart => exact ⟨0, (m : Int) - 1, by omega, by simp, rfl, by omega, unhide HB0⟩
    case round =>
      obtain ⟨j, t, hj, rfl, rfl, ht, hB⟩ := hrel
      clear HB0
      by_cases hjm : j < m
      · obtain ⟨I, rfl⟩ : ∃ I : Nat, t = I := ⟨t.toNat, by omega⟩
        have hI : m - j - 1 = I := by omega
        obtain ⟨⟨u, hu⟩, hfz⟩ := hB.cell hjm
        rw [hI] at hu hfz
        obtain ⟨Q, hQ⟩ : ∃ Q, Q = X / 256 ^ j := ⟨_, rfl⟩
        obtain ⟨R, hR⟩ : ∃ R, R = Q % 256 := ⟨_, rfl⟩
        obtain ⟨Q2, hQ2⟩ : ∃ Q2, Q2 = Q / 256 := ⟨_, rfl⟩
        have hnx := hB.next hjm (R : Int) (by rw [hR, hQ])
        rw [hI] at hnx
        have HN := hide hnx
        have hq2 : X / 256 ^ (j + 1) = Q2 := by rw [Nat.pow_succ, ← Nat.div_div_eq_div_mul, ← hQ, hQ2]
        rw [← hQ]
        have r1 : ((Q : Int)).tmod 256 = (R : Int) := by rw [hR]; rfl
        have r2 : ((Q : Int)).tdiv 256 = (Q2 : Int) := by rw [hQ2]; rfl
        have r3 : (R : Int) ≤ 255 := by omega
        have hXl : X ≤ 18446744073709551615 := by have := unhide HX; omega
        have r6 : IntKind.u64.wrap (Q2 : Int) = (Q2 : Int) := by
          have h1 : Q ≤ X := by rw [hQ]; exact Nat.div_le_self _ _
          have h2 : IntKind.u64.wrap (Q2 : Int) = (Q2 : Int) % 18446744073709551616 := rfl
          rw [h2]
          omega
        have r7 : IntKind.u64.wrap (R : Int) = (R : Int) := by
          have h2 : IntKind.u64.wrap (R : Int) = (R : Int) % 18446744073709551616 := rfl
          rw [h2]
          omega
        clear hXl
        have r4 : (I : Int) < (m : Int) := by omega
        have r5 : (0 : Int) ≤ (I : Int) := by omega
        have HT := hide ht
        have HQ2 := hide hq2
        clear hnx hB hR hQ2 ht hq2 hQ hI
        go_wp2
        go_roundw
        case rel => exact ⟨j + 1, (I : Int) - 1, by omega, by (rw [unhide HQ2]; try rfl), by first | rfl | go_num, by have := unhide HT; omega, unhide HN⟩
        case measure => simp [intOf] <;> omega
      · obtain rfl : j = m := by omega
        obtain rfl : t = -1 := by omega
        have ho := hB.own (by omega)
        rw [← unhide HBW] at ho
        have HO := hide ho
        have HL := hide hB.bel
        clear hB ho HBW
        go_wp2
        go_ret2
        exact ⟨rfl, unhide HO, unhide HL⟩

set_option maxHeartbeats 6400000 in
set_option maxRecDepth 100000 in
theorem hBytes_no (w : World) (k n : Int) (hk : -9223372036854775808 ≤ k ∧ k ≤ 9223372036854775807) (hn : -9223372036854775808 ≤ n ∧ n ≤ 9223372036854775807) (sg : Bool) (hf : ¬ fitsW k n sg) :
    Calls Tryd.prog 74 #[.int .i64 k, .int .i64 n, .bool sg] w fun e w' => e = .returned (.tuple #[.slice none 0 0, .bool false]) ∧ w' = w := by
  have HW := hide (hwide_any w k)
  by_cases hw : wide k
  · rw [decide_eq_true hw] at HW
    obtain ⟨m, rfl, hm⟩ := wide_nat hw
    have hf2 : ¬ (if (m : Int) = 8 then sg = true ∨ 0 ≤ n else if sg = true then -((256 ^ (m : Int).toNat : Nat) : Int) ≤ 2 * n ∧ 2 * n < ((256 ^ (m : Int).toNat : Nat) : Int) else 0 ≤ n ∧ n < ((256 ^ (m : Int).toNat : Nat) : Int)) := fun h => hf ⟨hw, h⟩
    clear hf hw
    by_cases h8 : m = 8
    · have hk8 : ((m : Int) == 8) = true := by rw [h8]; rfl
      rw [if_pos (by rw [h8]; rfl)] at hf2
      have hsg : sg = false := by cases sg with
        | false => rfl
        | true => exact absurd (.inl rfl) hf2
      subst hsg
      have hn0 : n < 0 := by
        by_cases h : n < 0
        · exact h
        · exact absurd (.inr (by omega)) hf2
      clear hf2 h8
      go_enter Tryd.func74, Tryd.ntmps74
      go_wp2_with fail
      refine (unhide HW).mono ?_
      rintro e w1 ⟨rfl, e1⟩
      have e1' := e1.symm
      clear e1
      subst e1'
      go_wp2
      go_ret2
      exact ⟨rfl, rfl⟩
    · have hk8 : ((m : Int) == 8) = false := by simp; omega
      have hk8' : ¬ (m : Int) = 8 := by omega
      rw [if_neg hk8', Int.toNat_natCast] at hf2
      obtain ⟨H, hH, hH2⟩ := half_pow (m := m) (by omega)
      have HF := hide (hfull_any w m (by omega))
      rw [hH] at HF hf2
      have q1 : (((2 * H : Nat) : Int)).tdiv 2 = (H : Int) := by
        have h2 : ((2 * H : Nat) : Int) = 2 * (H : Int) := by omega
        rw [h2, Int.mul_tdiv_cancel_left _ (by decide)]
      have q2 : (-((2 * H : Nat) : Int)).tdiv 2 = -(H : Int) := by rw [Int.neg_tdiv, q1]
      clear hH
      generalize hF2 : 2 * H = F2 at *
      have hF3 : (F2 : Int) ≤ 4294967296 := by omega
      cases sg with
      | true =>
        rw [if_pos rfl] at hf2
        by_cases p1 : n < -(H : Int)
        · clear hf2 hF2
          go_enter Tryd.func74, Tryd.ntmps74
          go_wp2_with fail
          refine (unhide HW).mono ?_
          rintro e w1 ⟨rfl, e1⟩
          have e1' := e1.symm
          clear e1
          subst e1'
          go_wp2_with fail
          refine (unhide HF).mono ?_
          rintro e w1 ⟨rfl, e1⟩
          have e1' := e1.symm
          clear e1
          subst e1'
          go_wp2
          go_ret2
          exact ⟨rfl, rfl⟩
        · have p2 : (H : Int) ≤ n := by omega
          clear hf2 hF2
          go_enter Tryd.func74, Tryd.ntmps74
          go_wp2_with fail
          refine (unhide HW).mono ?_
          rintro e w1 ⟨rfl, e1⟩
          have e1' := e1.symm
          clear e1
          subst e1'
          go_wp2_with fail
          refine (unhide HF).mono ?_
          rintro e w1 ⟨rfl, e1⟩
          have e1' := e1.symm
          clear e1
          subst e1'
          go_wp2_with fail
          refine (unhide HF).mono ?_
          rintro e w1 ⟨rfl, e1⟩
          have e1' := e1.symm
          clear e1
          subst e1'
          go_wp2
          go_ret2
          exact ⟨rfl, rfl⟩
      | false =>
        rw [if_neg (by decide)] at hf2
        by_cases p1 : n < 0
        · clear hf2 hF2
          go_enter Tryd.func74, Tryd.ntmps74
          go_wp2_with fail
          refine (unhide HW).mono ?_
          rintro e w1 ⟨rfl, e1⟩
          have e1' := e1.symm
          clear e1
          subst e1'
          go_wp2
          go_ret2
          exact ⟨rfl, rfl⟩
        · have p2 : (F2 : Int) ≤ n := by omega
          clear hf2 hF2
          go_enter Tryd.func74, Tryd.ntmps74
          go_wp2_with fail
          refine (unhide HW).mono ?_
          rintro e w1 ⟨rfl, e1⟩
          have e1' := e1.symm
          clear e1
          subst e1'
          go_wp2_with fail
          refine (unhide HF).mono ?_
          rintro e w1 ⟨rfl, e1⟩
          have e1' := e1.symm
          clear e1
          subst e1'
          go_wp2
          go_ret2
          exact ⟨rfl, rfl⟩
  · rw [decide_eq_false hw] at HW
    clear hf hw
    go_enter Tryd.func74, Tryd.ntmps74
    go_wp2_with fail
    refine (unhide HW).mono ?_
    rintro e w1 ⟨rfl, e1⟩
    have e1' := e1.symm
    clear e1
    subst e1'
    go_wp2
    go_ret2
    exact ⟨rfl, rfl⟩

/-- Whatever the number is. -/
theorem hBytes_any (w : World) (k n : Int) (hk : -9223372036854775808 ≤ k ∧ k ≤ 9223372036854775807) (hn : -9223372036854775808 ≤ n ∧ n ≤ 9223372036854775807) (sg : Bool) :
    Calls Tryd.prog 74 #[.int .i64 k, .int .i64 n, .bool sg] w fun e w' => ∃ a m c, e = .returned (.tuple #[.slice a m c, .bool (decide (fitsW k n sg))]) ∧ (fitsW k n sg → m = k.toNat ∧ w'.ownsRow w.heap.size 5 1 (.slice a m c) m (bv (bytesW k n))) ∧ Below w.heap.size w w' := by
  by_cases hf : fitsW k n sg
  · obtain ⟨m, rfl, hm⟩ := wide_nat hf.1
    refine (hBytes_ok w m hm n hn sg hf).mono ?_
    rintro e w' ⟨rfl, ho, f⟩
    exact ⟨_, _, _, by rw [decide_eq_true hf], fun _ => ⟨by simp, ho⟩, f⟩
  · refine (hBytes_no w k n hk hn sg hf).mono ?_
    rintro e w' ⟨rfl, rfl⟩
    exact ⟨_, _, _, by rw [decide_eq_false hf], fun h => absurd h hf, Below.refl _ _⟩

end Go.Proofs.YtpmhcignenfhgaaDoor

/- The document's own writing of numbers: Put. -/
namespace Go.Proofs.YtpmhcignenfhgaaDoor
open Go.RowKit
set_option linter.unusedVariables false

theorem listB_append {w : World} {ops : Array Oper} {rest : List Oper} {o : Oper} {a : Act} {Q : Exit → Act → World → Prop} (hgd : o.guard = none) (s x : Operand) (ho : o.op = .call { callee := .builtin .append, args := #[s, x], argTypes := #[22, 22] })
    (base : Nat) (v : Value) (n : Nat) (xs : List UInt8) (hs : a.eval s = v) (hown : w.ownsRow base 5 1 v n (bv xs)) (src : Option Addr) (m c : Nat) (ys : List UInt8) (hx : a.eval x = .slice src m c) (hb : Bs w src m ys) (hnil : src = none → m = 0 ∧ c = 0)
    (hsm : n + m ≤ 140737488355328) (hbase : base ≤ w.heap.size) (h : ∀ v' w', w'.ownsRow base 5 1 v' (n + m) (bv (xs ++ ys)) → w.grownBy w' v.ownBlock → wpList Tryd.prog ops Q rest (a.put o.dst v') w') : wpList Tryd.prog ops Q (o :: rest) a w :=
  wpList_plain hgd fun K hK => wpB_append s x ho base v n xs hs hown src m c ys hx hb hnil hsm hbase (fun v' w' h1 h2 => hK _ _ (h v' w' h1 h2))
theorem flat_len (k : Int) (zs : List Int) : (zs.flatMap (bytesW k)).length = zs.length * k.toNat := by
  induction zs with
  | nil => simp
  | cons z zs ih => rw [List.flatMap_cons, List.length_append, ih, bytesW_len, List.length_cons, Nat.add_mul]; omega
theorem putW_ok {bs : List UInt8} {k : Int} {sg : Bool} {zs : List Int} (hw : wide k) (h : ∀ z ∈ zs, fitsW k z sg) : putW bs k sg zs = (bs ++ zs.flatMap (bytesW k), 0) := if_pos ⟨hw, h⟩
theorem putW_no {bs : List UInt8} {k : Int} {sg : Bool} {zs : List Int} (h : ¬ (wide k ∧ ∀ z ∈ zs, fitsW k z sg)) : putW bs k sg zs = (bs, 2) := if_neg h
/-- What Put leaves. -/
def PutR (w : World) (a : Option Addr) (n c : Nat) (R : List UInt8 × Int) (e : Ending) (w' : World) : Prop :=
  ∃ a' n' c', e = .returned (.tuple #[.slice a' n' c', .int .i64 R.2]) ∧ (R.2 = 0 → w'.ownsRow w.heap.size 5 1 (.slice a' n' c') n' (bv R.1)) ∧ (R.2 ≠ 0 → a' = a ∧ n' = n ∧ c' = c) ∧ Below w.heap.size w w'
/-- Between the rounds of Put. -/
structure PU (w : World) (bs : List UInt8) (k : Int) (sg : Bool) (zs : List Int) (i : Nat) (u : Value) (wr : World) : Prop where
  own : wr.ownsRow w.heap.size 5 1 u (bs.length + i * k.toNat) (bv (bs ++ (zs.take i).flatMap (bytesW k)))
  fit : ∀ z ∈ zs.take i, fitsW k z sg
  bel : Below w.heap.size w wr
theorem PU.next {w wr w1 w2 : World} {bs : List UInt8} {k : Int} {sg : Bool} {zs : List Int} {i : Nat} {u u' : Value} {z : Int} (h : PU w bs k sg zs i u wr) (hz : zs[i]? = some z) (hf : fitsW k z sg) (f1 : Below wr.heap.size wr w1) (m : Nat) (hm : m = k.toNat) (ho : w2.ownsRow w.heap.size 5 1 u' (bs.length + i * k.toNat + m) (bv (bs ++ (zs.take i).flatMap (bytesW k) ++ bytesW k z))) (hg : w1.grownBy w2 u.ownBlock) : PU w bs k sg zs (i + 1) u' w2 := by
  have ht : zs.take (i + 1) = zs.take i ++ [z] := by rw [List.take_add_one, hz]; rfl
  refine ⟨?_, ?_, ?_⟩
  · rw [ht, List.flatMap_append, ← List.append_assoc, List.flatMap_singleton, Nat.add_mul, Nat.one_mul, ← Nat.add_assoc, ← hm]
    rw [← hm] at ho
    exact ho
  · intro y hy
    rw [ht, List.mem_append] at hy
    rcases hy with hy | hy
    · exact h.fit y hy
    · simp at hy
      subst hy
      exact hf
  · exact (h.bel.trans (f1.mono h.bel.size)).grown hg (Nat.le_trans h.bel.size f1.size) (fun x hx => (h.own.lt x hx).1)

set_option maxHeartbeats 6400000 in
set_option maxRecDepth 100000 in
theorem hPut_any (w : World) (a : Option Addr) (n c : Nat) (bs : List UInt8) (hb : Arg w a n c bs) (k : Int) (hk : -9223372036854775808 ≤ k ∧ k ≤ 9223372036854775807) (sg : Bool) (la : Option Addr) (ln lc : Nat) (zs : List Int) (hl : Nums w la ln zs) (hz : ∀ z ∈ zs, -9223372036854775808 ≤ z ∧ z ≤ 9223372036854775807) (hs : n + 8 * ln ≤ 140737488351232) :
    Calls Tryd.prog 45 #[.slice a n c, .int .i64 k, .bool sg, .slice la ln lc] w (PutR w a n c (putW bs k sg zs)) := by
  have hbl := hb.len
  have HW := hide (fun W => hwide_any W k)
  have hown : (w.alloc (.cells #[] 5)).ownsRow w.heap.size 5 1 (.slice (some ⟨w.heap.size, 0, none⟩) 0 0) 0 (bv []) := World.ownsRow_made w #[] 0 (Nat.le_refl _) (by simp) rfl
  have b0 : Below w.heap.size w (w.alloc (.cells #[] 5)) := (Below.refl _ _).alloc (Nat.le_refl _) _
  have hb0 := (hb.below b0).bs
  have hnl := hb.nil
  have HL := hide hl
  have HZ := hide hz
  have hzl := hl.1
  clear hb hl hz
  generalize hPO : PutR w a n c (putW bs k sg zs) = PO
  have HPO := hide hPO
  clear hPO
  go_enter Tryd.func45, Tryd.ntmps45
  go_wp2_with (at_builtin; refine listB_append rfl (.tmp 14) (.tmp 15) rfl w.heap.size _ 0 [] rfl hown a n c bs rfl hb0 hnl (by omega) (by simp) ?_)
  intro v1 w1 o1 g1
  have f1 : Below w.heap.size w w1 := b0.grown g1 (by simp) (fun x hx => by simp [Value.ownBlock] at hx; omega)
  have P0 : Hid (PU w bs k sg zs 0 v1 w1) := ⟨by
    rw [Nat.zero_mul, Nat.add_zero, hbl]
    simpa using o1, by simp, f1⟩
  have F1 := hide f1
  clear o1 g1 f1 hown b0 hb0
  by_cases hw : wide k
  · have hdw : decide (wide k) = true := decide_eq_true hw
    rw [hdw] at HW
    have hk8 : k.toNat ≤ 8 := by rcases hw with h | h | h | h <;> omega
    have HWD := hide hw
    have HBL := hide hbl
    have HZL := hide hzl
    clear hw hbl hzl
    go_wp2_with fail
    refine (unhide HW w1).mono ?_
    rintro e w2 ⟨rfl, rfl⟩
    clear HW F1
    go_wp2
    go_loopw [10, 11] (fun u i wr => ∃ j : Nat, j ≤ ln ∧ i = .int .i64 j ∧ PU w bs k sg zs j u wr) (fun _ i _ => ln - (intOf i).toNat)
    case atStart => exact ⟨0, by omega, rfl, unhide P0⟩
    case round =>
      obtain ⟨j, hj, rfl, hP⟩ := hrel
      clear P0
      by_cases hjl : j < ln
      · have hjl' : (j : Int) < (ln : Int) := by omega
        obtain ⟨b, o, rfl, hcz⟩ := (unhide HL).2.resolve_left (by omega)
        obtain ⟨zv, hzv⟩ : ∃ zv, zs[j]? = some zv := ⟨_, List.getElem?_eq_getElem (by have := unhide HZL; omega)⟩
        have hc0 := hcz j zv hzv
        have hcell : wr.cell? ⟨b, o + j, none⟩ = some (.int .i64 zv) := (hP.bel.cell (p := ⟨b, o + j, none⟩) (World.block_lt_of_cell? w _ hc0)).trans hc0
        have hzb := unhide HZ zv (List.mem_of_getElem? hzv)
        have HZV := hide hzv
        have HB := hide (hBytes_any wr k zv hk hzb sg)
        clear hcz hc0 hzv
        by_cases hf : fitsW k zv sg
        · rw [decide_eq_true hf] at HB
          have HP := hide hP
          have hsz : bs.length + j * k.toNat + k.toNat ≤ 140737488355328 := by
            have h1 : k.toNat ≤ 8 := hk8
            have hbl := unhide HBL
            have h2 : (j + 1) * k.toNat ≤ ln * 8 := Nat.mul_le_mul (by omega) h1
            rw [Nat.add_mul] at h2
            omega
          clear hP
          go_wp2_with fail
          refine (unhide HB).mono ?_
          rintro e w3 ⟨xa, xm, xc, rfl, hx, f3⟩
          obtain ⟨hxm, ox⟩ := hx hf
          have hxa := arg_of_own (by rw [bytesW_len, hxm]) ox
          have hou := own_below (unhide HP).own f3
          have hbx := hxa.bs
          have hnx := hxa.nil
          have hbs3 : w.heap.size ≤ w3.heap.size := Nat.le_trans (unhide HP).bel.size f3.size
          have F3 := hide f3
          clear ox hxa hx f3 HB
          generalize hNN : bs.length + j * k.toNat = NN at *
          generalize hLL : bs ++ (zs.take j).flatMap (bytesW k) = LL at *
          have HNN := hide hNN
          have HLL := hide hLL
          have hxs : NN + xm ≤ 140737488355328 := by omega
          have HXM := hide hxm
          clear hNN hLL hxm hsz
          go_wp2_with (at_builtin; refine listB_append rfl (.tmp 40) (.tmp 41) rfl w.heap.size _ _ _ rfl hou xa xm xc (bytesW k zv) rfl hbx hnx hxs hbs3 ?_)
          intro v4 w4 o4 g4
          rw [← unhide HNN, ← unhide HLL] at o4
          have P4 := hide ((unhide HP).next (unhide HZV) hf (unhide F3) xm (unhide HXM) o4 g4)
          clear o4 g4 hou hbx hnx F3 HP
          go_wp2
          go_roundw
          case rel => exact ⟨j + 1, by omega, by go_num, unhide P4⟩
          case measure => simp [intOf]; omega
        · rw [decide_eq_false hf] at HB
          have hno : Hid (putW bs k sg zs = (bs, 2)) := putW_no (fun h => hf (h.2 zv (List.mem_of_getElem? (unhide HZV))))
          have HP := hide hP.bel
          clear hP
          go_wp2_with fail
          refine (unhide HB).mono ?_
          rintro e w3 ⟨xa, xm, xc, rfl, _, f3⟩
          have F3 := hide ((unhide HP).trans (f3.mono (unhide HP).size))
          clear f3 HB HP
          go_wp2
          rw [← unhide HPO, unhide hno]
          exact ⟨a, n, c, rfl, (fun h => by cases h), fun _ => ⟨rfl, rfl, rfl⟩, unhide F3⟩
      · obtain rfl : j = ln := by omega
        have ht : zs.take j = zs := List.take_of_length_le (by have := unhide HZL; omega)
        have hok : Hid (putW bs k sg zs = (bs ++ zs.flatMap (bytesW k), 0)) := putW_ok (unhide HWD) (by have := hP.fit; rw [ht] at this; exact this)
        have ho := hP.own
        rw [ht] at ho
        clear ht
        obtain ⟨ua, uc, rfl, _⟩ := own_form ho
        have HO := hide ho
        have HP := hide hP.bel
        clear hP ho
        go_wp2
        rw [← unhide HPO, unhide hok]
        exact ⟨_, _, _, rfl, fun _ => unhide HO, fun h => absurd rfl h, unhide HP⟩
  · have hdw : decide (wide k) = false := decide_eq_false hw
    rw [hdw] at HW
    have hno : Hid (putW bs k sg zs = (bs, 2)) := putW_no (fun h => hw h.1)
    clear P0
    go_wp2_with fail
    refine (unhide HW w1).mono ?_
    rintro e w2 ⟨rfl, rfl⟩
    clear HW
    go_wp2
    rw [← unhide HPO, unhide hno]
    exact ⟨a, n, c, rfl, (fun h => by cases h), fun _ => ⟨rfl, rfl, rfl⟩, unhide F1⟩

end Go.Proofs.YtpmhcignenfhgaaDoor
