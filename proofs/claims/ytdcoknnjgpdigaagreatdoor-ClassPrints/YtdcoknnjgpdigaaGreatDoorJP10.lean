/- Joined: WdR WdG WdB WdP. -/
import Derived.Test.YtdcoknnjgpdigaaGreatDoorJP0
import Derived.Deep.CutBlock
import Derived.Deep.LoopGhost
import Derived.Deep.RegionHeld3
import Derived.Deep.RegionHeldLaw
import Derived.Laws.AppendOwnNone
import Derived.Deep.AppendLies

/- The document's own reading of numbers: wide, full, Number. -/
namespace Go.Proofs.YtdcoknnjgpdigaaGreatDoor
open Go.RowKit
set_option linter.unusedVariables false

set_option maxHeartbeats 1600000 in
theorem hwide_any (w : World) (k : Int) :
    Calls Tryz.prog 95 #[.int .i64 k] w fun e w' => e = .returned (.bool (decide (wide k))) ∧ w' = w := by
  by_cases h1 : k = 1
  · subst h1
    go_enter Tryz.func95, Tryz.ntmps95
    go_wp2
    go_ret
    exact ⟨rfl, rfl⟩
  by_cases h2 : k = 2
  · subst h2
    go_enter Tryz.func95, Tryz.ntmps95
    go_wp2
    go_ret
    exact ⟨rfl, rfl⟩
  by_cases h4 : k = 4
  · subst h4
    go_enter Tryz.func95, Tryz.ntmps95
    go_wp2
    go_ret
    exact ⟨rfl, rfl⟩
  by_cases h8 : k = 8
  · subst h8
    go_enter Tryz.func95, Tryz.ntmps95
    go_wp2
    go_ret
    exact ⟨rfl, rfl⟩
  · have b1 : (k == 1) = false := by simpa using h1
    have b2 : (k == 2) = false := by simpa using h2
    have b4 : (k == 4) = false := by simpa using h4
    have b8 : (k == 8) = false := by simpa using h8
    have hd : decide (wide k) = false := decide_eq_false (fun h => by rcases h with h | h | h | h <;> omega)
    rw [hd]
    clear hd
    go_enter Tryz.func95, Tryz.ntmps95
    go_wp2
    go_ret
    exact ⟨rfl, rfl⟩

theorem pow_small {i : Nat} (h : i ≤ 4) : 256 ^ i ≤ 4294967296 := by
  have := Nat.pow_le_pow_right (n := 256) (by omega) h
  omega
set_option maxHeartbeats 1600000 in
theorem hfull_any (w : World) (m : Nat) (hm : m ≤ 4) :
    Calls Tryz.prog 128 #[.int .i64 (m : Int)] w fun e w' => e = .returned (.int .i64 ((256 ^ m : Nat) : Int)) ∧ w' = w := by
  go_enter Tryz.func128, Tryz.ntmps128
  go_wp2
  go_loopw [3, 4] (fun n i wr => ∃ k : Nat, k ≤ m ∧ i = .int .i64 k ∧ n = .int .i64 ((256 ^ k : Nat) : Int) ∧ wr = w) (fun _ i _ => m - (intOf i).toNat)
  case atStart => exact ⟨0, by omega, rfl, rfl, rfl⟩
  case round =>
    obtain ⟨k, hk, rfl, rfl, rfl⟩ := hrel
    by_cases hlt : k < m
    · have hlt1 : (k : Int) < (m : Int) := by omega
      have hp := pow_small (i := k) (by omega)
      have hs : ((256 ^ (k + 1) : Nat) : Int) = ((256 ^ k : Nat) : Int) * 256 := by rw [Nat.pow_succ]; exact Int.natCast_mul _ _
      obtain ⟨P, hP⟩ : ∃ P, P = 256 ^ k := ⟨_, rfl⟩
      rw [← hP] at hp hs ⊢
      have hP1 : (P : Int) ≤ 4294967296 := by omega
      clear hP
      go_wp2
      go_roundw
      case rel => exact ⟨k + 1, by omega, by go_num, by (rw [hs]; try rfl; try go_num), by first | rfl | trivial⟩
      case measure => simp [intOf]; omega
    · obtain rfl : k = m := by omega
      go_wp2
      go_ret
      exact ⟨rfl, rfl⟩

theorem half_pow {m : Nat} (h : m = 1 ∨ m = 2 ∨ m = 4) : ∃ H : Nat, 256 ^ m = 2 * H ∧ H ≤ 2147483648 := by
  rcases h with rfl | rfl | rfl
  · exact ⟨128, by decide, by omega⟩
  · exact ⟨32768, by decide, by omega⟩
  · exact ⟨2147483648, by decide, by omega⟩

end Go.Proofs.YtdcoknnjgpdigaaGreatDoor

/- The document's own reader. -/
namespace Go.Proofs.YtdcoknnjgpdigaaGreatDoor
open Go.RowKit
set_option linter.unusedVariables false

/-- W is w, the reader's block at z written anew. -/
structure Rw (z : Nat) (w W : World) (cs : Array Value) : Prop where
  blk : W.heap[z]? = some (.cells cs 79 (0, 0))
  oth : ∀ k, k ≠ z → W.heap[k]? = w.heap[k]?
  bel : Below z w W
theorem Rw.drew {z : Nat} {w W : World} {cs : Array Value} (h : Rw z w W cs) : Rw z w W.drew cs := ⟨h.blk, h.oth, h.bel.drew⟩
theorem Rw.drewN {z : Nat} {w W : World} {cs : Array Value} (h : Rw z w W cs) (n : Nat) : Rw z w (W.drewN n) cs := by
  induction n with
  | zero => exact h
  | succ n ih => exact ih.drew
theorem Rw.set {z : Nat} {w W : World} {cs : Array Value} (h : Rw z w W cs) (j : Nat) (u : Value) : Rw z w (W.setCell ⟨z, j, none⟩ u) (cs.setIfInBounds j u) :=
  ⟨heap_setCell_same W z j cs _ u h.blk, fun k hk => (Below.heap_setCell _ _ _ _ hk).trans (h.oth k hk), h.bel.setCell (Nat.le_refl _) u⟩

end Go.Proofs.YtdcoknnjgpdigaaGreatDoor

/- An append of bytes within a region that draws; the document's reader: Bytes. -/
namespace Go.Proofs.YtdcoknnjgpdigaaGreatDoor
open Go.RowKit
set_option linter.unusedVariables false

theorem wpB_append {w : World} {o : Oper} {a : Act} {K : Act → World → Prop} {Q : Exit → Act → World → Prop} (s x : Operand) (ho : o.op = .call { callee := .builtin .append, args := #[s, x], argTypes := #[29, 29] })
    (base : Nat) (v : Value) (n : Nat) (xs : List UInt8) (hs : a.eval s = v) (hown : w.ownsRow base 5 1 v n (bv xs)) (src : Option Addr) (m c : Nat) (ys : List UInt8) (hx : a.eval x = .slice src m c) (hb : Bs w src m ys) (hnil : src = none → m = 0 ∧ c = 0)
    (hsm : n + m ≤ 140737488355328) (hbase : base ≤ w.heap.size) (h : ∀ v' w', w'.ownsRow base 5 1 v' (n + m) (bv (xs ++ ys)) → w.grownBy w' v.ownBlock → K (a.put o.dst v') w') : o.wp Tryz.prog a w K Q := by
  obtain ⟨i0, hi, hz0, hz1, hz2⟩ := info_parts infoB
  cases src with
  | none =>
    obtain ⟨rfl, rfl⟩ := hnil rfl
    have h0 : ys = [] := List.eq_nil_of_length_eq_zero hb.1
    subst h0
    have hrun := run_append_owned_none (P := Tryz.prog) (w := w) base 29 o.type 5 i0 1 Tryz.underlying29 hi v n (bv xs) hown
    unfold Oper.wp
    simp [execOp, ho, resolve, invoke, builtin, hs, hx, hrun, Result.andThen]
    exact h v w (by rw [List.append_nil]; exact hown) ⟨rfl, rfl, rfl, Nat.le_refl _, fun _ _ _ => rfl⟩
  | some ad =>
    refine wp_append_own w s x 29 ho base 5 i0 (.int .u8 0) 1 1 Tryz.underlying29 hi hz0 hz1 hz2 rfl (by decide) v n (bv xs) hs hown ad m c (bv ys) hx (by rw [bv_length, hb.1]; omega) (hb.at.2 ad rfl) (bv_one _) (by unfold maxLen; omega) (by omega) hbase ?_
    intro v' w' h1 h2 _
    exact h v' w' (by rw [bv_append]; exact h1) h2
/-- W is w, the reader's block at z written anew, and perhaps new blocks. -/
structure Rv (z : Nat) (w W : World) (cs : Array Value) : Prop where
  blk : W.heap[z]? = some (.cells cs 79 (0, 0))
  oth : ∀ k, k < w.heap.size → k ≠ z → W.heap[k]? = w.heap[k]?
  bel : Below z w W
theorem Rw.v {z : Nat} {w W : World} {cs : Array Value} (h : Rw z w W cs) : Rv z w W cs := ⟨h.blk, fun k _ hk => h.oth k hk, h.bel⟩
theorem Rv.below {z : Nat} {w W W' : World} {cs : Array Value} (h : Rv z w W cs) (f : Below W.heap.size W W') : Rv z w W' cs :=
  ⟨(f.block z (lt_of_heap h.blk)).trans h.blk, fun k hk hz => (f.block k (Nat.lt_of_lt_of_le hk h.bel.size)).trans (h.oth k hk hz), h.bel.trans (f.mono (Nat.le_of_lt (lt_of_heap h.blk)))⟩

end Go.Proofs.YtdcoknnjgpdigaaGreatDoor

/- The document's own writing of numbers: Bytes. -/
namespace Go.Proofs.YtdcoknnjgpdigaaGreatDoor
open Go.RowKit
set_option linter.unusedVariables false

theorem beK_cons (j : Nat) : ∀ x, beK (j + 1) x = UInt8.ofNat (x / 256 ^ j) :: beK j x := by
  induction j with
  | zero => intro x; simp [beK]
  | succ j ih =>
    intro x
    rw [beK, ih, beK, List.cons_append, Nat.div_div_eq_div_mul, Nat.pow_succ, Nat.mul_comm]
def zer (n : Nat) : List UInt8 := List.replicate n 0
/-- So many noughts, in a place of their own. -/
theorem makeZ6 (w : World) (n : Nat) (hn : n ≤ 100000) : (Instr.makeSlice 29 (.int .i64 (n : Int)) (.int .i64 (n : Int))).run Tryz.prog w = .ok (.slice (some ⟨w.heap.size, 0, none⟩) n n) (w.alloc (.cells (bv (zer n)).toArray 5)) := by
  obtain ⟨i0, hi, hz0, hz1, hz2⟩ := info_parts infoB
  have := run_make (P := Tryz.prog) w 29 5 i0 (.int .u8 0) Tryz.underlying29 hi hz0 .i64 .i64 (n : Int) (n : Int) (by omega) (by omega) (by rw [hz2]; omega) (by omega)
  rw [this, hz1]
  have e : madeCells (Value.int .u8 0).cells (Int.toNat (n : Int) * 1) = (bv (zer n)).toArray := by
    apply Array.toList_inj.1
    rw [Int.toNat_natCast, Nat.mul_one]
    show (madeCells #[Value.int .u8 0] n).toList = _
    rw [toList_madeCells_one]
    simp [bv, zer]
  rw [e, Int.toNat_natCast]
/-- Between the rounds: j bytes are laid. -/
structure Bp (w : World) (m X j : Nat) (wr : World) : Prop where
  blk : wr.heap[w.heap.size]? = some (.cells (bv (zer (m - j) ++ beK j X)).toArray 5 (0, 0))
  bel : Below w.heap.size w wr
theorem Bp.next {w wr : World} {m X j : Nat} (h : Bp w m X j wr) (hj : j < m) (u : Int) (hu : u = ((X / 256 ^ j % 256 : Nat) : Int)) : Bp w m X (j + 1) (wr.setCell ⟨w.heap.size, m - j - 1, none⟩ (.int .u8 u)) := by
  refine ⟨?_, h.bel.setCell (Nat.le_refl _) _⟩
  rw [heap_setCell_same wr _ (m - j - 1) _ _ _ h.blk]
  congr 2
  apply Array.toList_inj.1
  rw [Array.toList_setIfInBounds]
  have hz : zer (m - j) = zer (m - (j + 1)) ++ [0] := by
    unfold zer
    rw [show m - j = m - (j + 1) + 1 by omega, List.replicate_succ']
  have hlz : (bv (zer (m - (j + 1)))).length = m - j - 1 := by rw [bv_length]; unfold zer; rw [List.length_replicate]; omega
  rw [beK_cons, hz, List.append_assoc, bv_append, bv_append, List.set_append_right _ _ (by omega), hlz, Nat.sub_self]
  have hb : (Value.int .u8 u) = Value.int .u8 ((UInt8.ofNat (X / 256 ^ j)).toNat : Int) := by
    rw [hu]
    simp
  rw [hb]
  simp [bv]
theorem Bp.cell {w wr : World} {m X j : Nat} (h : Bp w m X j wr) (hj : j < m) : (∃ u, wr.cell? ⟨w.heap.size, m - j - 1, none⟩ = some u) ∧ wr.frozen? ⟨w.heap.size, m - j - 1, none⟩ = false := by
  refine ⟨?_, frozen_of_row _ _ _ _ _ h.blk⟩
  have hl : (bv (zer (m - j) ++ beK j X)).length = m := by rw [bv_length, List.length_append, beK_len]; unfold zer; rw [List.length_replicate]; omega
  exact ⟨_, by rw [cell_of_row _ _ _ _ _ _ h.blk, List.getElem?_toArray, List.getElem?_eq_getElem (by omega)]⟩
theorem Bp.own {w wr : World} {m X : Nat} (h : Bp w m X m wr) (hm : m ≤ 100000) : wr.ownsRow w.heap.size 5 1 (.slice (some ⟨w.heap.size, 0, none⟩) m m) m (bv (beK m X)) := by
  have hb := h.blk
  rw [Nat.sub_self] at hb
  have hz : zer 0 ++ beK m X = beK m X := rfl
  rw [hz] at hb
  refine ⟨by rw [bv_length, beK_len]; omega, .inr ⟨_, m, _, rfl, Nat.le_refl _, hb, Nat.le_refl _, by unfold maxLen; omega, by rw [List.size_toArray, bv_length, beK_len]; omega, ?_⟩⟩
  rw [List.toList_toArray]
  exact List.take_of_length_le (by rw [bv_length, beK_len]; omega)

set_option maxHeartbeats 6400000 in
set_option maxRecDepth 100000 in
theorem hBytes_ok (w : World) (m : Nat) (hm : m = 1 ∨ m = 2 ∨ m = 4 ∨ m = 8) (n : Int) (hn : -9223372036854775808 ≤ n ∧ n ≤ 9223372036854775807) (sg : Bool) (hf : fitsW (m : Int) n sg) :
    Calls Tryz.prog 96 #[.int .i64 (m : Int), .int .i64 n, .bool sg] w fun e w' => e = .returned (.tuple #[.slice (some ⟨w.heap.size, 0, none⟩) m m, .bool true]) ∧ w'.ownsRow w.heap.size 5 1 (.slice (some ⟨w.heap.size, 0, none⟩) m m) m (bv (bytesW (m : Int) n)) ∧ Below w.heap.size w w' := by
  obtain ⟨X, hX⟩ : ∃ X : Nat, X = (n % 18446744073709551616).toNat := ⟨_, rfl⟩
  have hX1 : (X : Int) = n % 18446744073709551616 := by omega
  have hwr : IntKind.u64.wrap n = (X : Int) := by rw [hX1]; rfl
  have hbw : bytesW (m : Int) n = beK m X := by unfold bytesW; rw [Int.toNat_natCast, hX]
  have HBW := hide hbw
  have HW := hide (hwide_any w (m : Int))
  rw [decide_eq_true hf.1] at HW
  have hmk := makeZ6 w m (by omega)
  have B0 : Hid (Bp w m X 0 (w.alloc (.cells (bv (zer m)).toArray 5))) := ⟨by rw [Nat.sub_zero, beK, List.append_nil]; exact heap_alloc_last w _, (Below.refl _ _).alloc (Nat.le_refl _) _⟩
  obtain ⟨_, hf2⟩ := hf
  have HB0 := hide (unhide B0)
  have HX := hide hX
  clear B0 hX hX1 hbw
  go_enter Tryz.func96, Tryz.ntmps96
  go_upto_if 15 with (go_at_call 95; refine (unhide HW).mono ?_; rintro e w1 ⟨rfl, e1⟩; have e1' := e1.symm; clear e1; subst e1')
  clear HW
  go_cut [6] from 14 (fun t wx => t = .slice none 0 0 ∧ wx = w)
  case first =>
    clear HB0 HBW hmk hwr
    by_cases h8 : m = 8
    · have hk8 : ((m : Int) == 8) = true := by rw [h8]; rfl
      rw [if_pos (by rw [h8]; rfl)] at hf2
      clear h8
      cases sg with
      | true =>
        clear hf2
        go_wp2
        go_meet
        exact ⟨rfl, rfl⟩
      | false =>
        have hn0 : ¬ n < 0 := by
          rcases hf2 with h | h
          · cases h
          · omega
        clear hf2
        go_wp2
        go_meet
        exact ⟨rfl, rfl⟩
    · have hk8 : ((m : Int) == 8) = false := by simp; omega
      have hk8' : ¬ (m : Int) = 8 := by omega
      rw [if_neg hk8', Int.toNat_natCast] at hf2
      obtain ⟨H, hH, hH2⟩ := half_pow (m := m) (by omega)
      have HF := hide (hfull_any w m (by omega))
      rw [hH] at HF hf2
      have q1 : (((2 * H : Nat) : Int)).tdiv 2 = (H : Int) := by
        have h2 : ((2 * H : Nat) : Int) = 2 * (H : Int) := by omega
        rw [h2, Int.mul_tdiv_cancel_left _ (by decide)]
      have q2 : (-((2 * H : Nat) : Int)).tdiv 2 = -(H : Int) := by rw [Int.neg_tdiv, q1]
      clear hH
      generalize hF2 : 2 * H = F2 at *
      have hF3 : (F2 : Int) ≤ 4294967296 := by omega
      cases sg with
      | true =>
        rw [if_pos rfl] at hf2
        have p1 : ¬ n < -(H : Int) := by omega
        have p2 : ¬ (H : Int) ≤ n := by omega
        clear hf2 hF2
        go_wp2_with fail
        refine (unhide HF).mono ?_
        rintro e w1 ⟨rfl, e1⟩
        have e1' := e1.symm
        clear e1
        subst e1'
        go_wp2_with fail
        refine (unhide HF).mono ?_
        rintro e w1 ⟨rfl, e1⟩
        have e1' := e1.symm
        clear e1
        subst e1'
        go_wp2
        go_meet
        exact ⟨rfl, rfl⟩
      | false =>
        rw [if_neg (by decide)] at hf2
        have p1 : ¬ n < 0 := by omega
        have p2 : ¬ (F2 : Int) ≤ n := by omega
        clear hf2 hF2
        go_wp2_with fail
        refine (unhide HF).mono ?_
        rintro e w1 ⟨rfl, e1⟩
        have e1' := e1.symm
        clear e1
        subst e1'
        go_wp2
        go_meet
        exact ⟨rfl, rfl⟩
  case rest =>
    obtain ⟨rfl, rfl⟩ := hcut
    have hm8 : (m : Int) ≤ 8 := by omega
    clear hf2
    go_wp2
    generalize wc.alloc (.cells (bv (zer m)).toArray 5) = w0 at *
    go_loopw [8, 10] (fun x i wr => ∃ (j : Nat) (t : Int), j ≤ m ∧ x = .int .u64 ((X / 256 ^ j : Nat) : Int) ∧ i = .int .i64 t ∧ t = (m : Int) - 1 - j ∧ Bp wc m X j wr) (fun _ i _ => (intOf i + 1).toNat)
    case atStart => exact ⟨0, (m : Int) - 1, by omega, by simp, rfl, by omega, unhide HB0⟩
    case round =>
      obtain ⟨j, t, hj, rfl, rfl, ht, hB⟩ := hrel
      clear HB0
      by_cases hjm : j < m
      · obtain ⟨I, rfl⟩ : ∃ I : Nat, t = I := ⟨t.toNat, by omega⟩
        have hI : m - j - 1 = I := by omega
        obtain ⟨⟨u, hu⟩, hfz⟩ := hB.cell hjm
        rw [hI] at hu hfz
        obtain ⟨Q, hQ⟩ : ∃ Q, Q = X / 256 ^ j := ⟨_, rfl⟩
        obtain ⟨R, hR⟩ : ∃ R, R = Q % 256 := ⟨_, rfl⟩
        obtain ⟨Q2, hQ2⟩ : ∃ Q2, Q2 = Q / 256 := ⟨_, rfl⟩
        have hnx := hB.next hjm (R : Int) (by rw [hR, hQ])
        rw [hI] at hnx
        have HN := hide hnx
        have hq2 : X / 256 ^ (j + 1) = Q2 := by rw [Nat.pow_succ, ← Nat.div_div_eq_div_mul, ← hQ, hQ2]
        rw [← hQ]
        have r1 : ((Q : Int)).tmod 256 = (R : Int) := by rw [hR]; rfl
        have r2 : ((Q : Int)).tdiv 256 = (Q2 : Int) := by rw [hQ2]; rfl
        have r3 : (R : Int) ≤ 255 := by omega
        have hXl : X ≤ 18446744073709551615 := by have := unhide HX; omega
        have r6 : IntKind.u64.wrap (Q2 : Int) = (Q2 : Int) := by
          have h1 : Q ≤ X := by rw [hQ]; exact Nat.div_le_self _ _
          have h2 : IntKind.u64.wrap (Q2 : Int) = (Q2 : Int) % 18446744073709551616 := rfl
          rw [h2]
          omega
        have r7 : IntKind.u64.wrap (R : Int) = (R : Int) := by
          have h2 : IntKind.u64.wrap (R : Int) = (R : Int) % 18446744073709551616 := rfl
          rw [h2]
          omega
        clear hXl
        have r4 : (I : Int) < (m : Int) := by omega
        have r5 : (0 : Int) ≤ (I : Int) := by omega
        have HT := hide ht
        have HQ2 := hide hq2
        clear hnx hB hR hQ2 ht hq2 hQ hI
        go_wp2
        go_roundw
        case rel => exact ⟨j + 1, (I : Int) - 1, by omega, by (rw [unhide HQ2]; try rfl), by first | rfl | go_num, by have := unhide HT; omega, unhide HN⟩
        case measure => simp [intOf] <;> omega
      · obtain rfl : j = m := by omega
        obtain rfl : t = -1 := by omega
        have ho := hB.own (by omega)
        rw [← unhide HBW] at ho
        have HO := hide ho
        have HL := hide hB.bel
        clear hB ho HBW
        go_wp2
        go_ret2
        exact ⟨rfl, unhide HO, unhide HL⟩

set_option maxHeartbeats 6400000 in
set_option maxRecDepth 100000 in
theorem hBytes_no (w : World) (k n : Int) (hk : -9223372036854775808 ≤ k ∧ k ≤ 9223372036854775807) (hn : -9223372036854775808 ≤ n ∧ n ≤ 9223372036854775807) (sg : Bool) (hf : ¬ fitsW k n sg) :
    Calls Tryz.prog 96 #[.int .i64 k, .int .i64 n, .bool sg] w fun e w' => e = .returned (.tuple #[.slice none 0 0, .bool false]) ∧ w' = w := by
  have HW := hide (hwide_any w k)
  by_cases hw : wide k
  · rw [decide_eq_true hw] at HW
    obtain ⟨m, rfl, hm⟩ := wide_nat hw
    have hf2 : ¬ (if (m : Int) = 8 then sg = true ∨ 0 ≤ n else if sg = true then -((256 ^ (m : Int).toNat : Nat) : Int) ≤ 2 * n ∧ 2 * n < ((256 ^ (m : Int).toNat : Nat) : Int) else 0 ≤ n ∧ n < ((256 ^ (m : Int).toNat : Nat) : Int)) := fun h => hf ⟨hw, h⟩
    clear hf hw
    by_cases h8 : m = 8
    · have hk8 : ((m : Int) == 8) = true := by rw [h8]; rfl
      rw [if_pos (by rw [h8]; rfl)] at hf2
      have hsg : sg = false := by cases sg with
        | false => rfl
        | true => exact absurd (.inl rfl) hf2
      subst hsg
      have hn0 : n < 0 := by
        by_cases h : n < 0
        · exact h
        · exact absurd (.inr (by omega)) hf2
      clear hf2 h8
      go_enter Tryz.func96, Tryz.ntmps96
      go_wp2_with fail
      refine (unhide HW).mono ?_
      rintro e w1 ⟨rfl, e1⟩
      have e1' := e1.symm
      clear e1
      subst e1'
      go_wp2
      go_ret2
      exact ⟨rfl, rfl⟩
    · have hk8 : ((m : Int) == 8) = false := by simp; omega
      have hk8' : ¬ (m : Int) = 8 := by omega
      rw [if_neg hk8', Int.toNat_natCast] at hf2
      obtain ⟨H, hH, hH2⟩ := half_pow (m := m) (by omega)
      have HF := hide (hfull_any w m (by omega))
      rw [hH] at HF hf2
      have q1 : (((2 * H : Nat) : Int)).tdiv 2 = (H : Int) := by
        have h2 : ((2 * H : Nat) : Int) = 2 * (H : Int) := by omega
        rw [h2, Int.mul_tdiv_cancel_left _ (by decide)]
      have q2 : (-((2 * H : Nat) : Int)).tdiv 2 = -(H : Int) := by rw [Int.neg_tdiv, q1]
      clear hH
      generalize hF2 : 2 * H = F2 at *
      have hF3 : (F2 : Int) ≤ 4294967296 := by omega
      cases sg with
      | true =>
        rw [if_pos rfl] at hf2
        by_cases p1 : n < -(H : Int)
        · clear hf2 hF2
          go_enter Tryz.func96, Tryz.ntmps96
          go_wp2_with fail
          refine (unhide HW).mono ?_
          rintro e w1 ⟨rfl, e1⟩
          have e1' := e1.symm
          clear e1
          subst e1'
          go_wp2_with fail
          refine (unhide HF).mono ?_
          rintro e w1 ⟨rfl, e1⟩
          have e1' := e1.symm
          clear e1
          subst e1'
          go_wp2
          go_ret2
          exact ⟨rfl, rfl⟩
        · have p2 : (H : Int) ≤ n := by omega
          clear hf2 hF2
          go_enter Tryz.func96, Tryz.ntmps96
          go_wp2_with fail
          refine (unhide HW).mono ?_
          rintro e w1 ⟨rfl, e1⟩
          have e1' := e1.symm
          clear e1
          subst e1'
          go_wp2_with fail
          refine (unhide HF).mono ?_
          rintro e w1 ⟨rfl, e1⟩
          have e1' := e1.symm
          clear e1
          subst e1'
          go_wp2_with fail
          refine (unhide HF).mono ?_
          rintro e w1 ⟨rfl, e1⟩
          have e1' := e1.symm
          clear e1
          subst e1'
          go_wp2
          go_ret2
          exact ⟨rfl, rfl⟩
      | false =>
        rw [if_neg (by decide)] at hf2
        by_cases p1 : n < 0
        · clear hf2 hF2
          go_enter Tryz.func96, Tryz.ntmps96
          go_wp2_with fail
          refine (unhide HW).mono ?_
          rintro e w1 ⟨rfl, e1⟩
          have e1' := e1.symm
          clear e1
          subst e1'
          go_wp2
          go_ret2
          exact ⟨rfl, rfl⟩
        · have p2 : (F2 : Int) ≤ n := by omega
          clear hf2 hF2
          go_enter Tryz.func96, Tryz.ntmps96
          go_wp2_with fail
          refine (unhide HW).mono ?_
          rintro e w1 ⟨rfl, e1⟩
          have e1' := e1.symm
          clear e1
          subst e1'
          go_wp2_with fail
          refine (unhide HF).mono ?_
          rintro e w1 ⟨rfl, e1⟩
          have e1' := e1.symm
          clear e1
          subst e1'
          go_wp2
          go_ret2
          exact ⟨rfl, rfl⟩
  · rw [decide_eq_false hw] at HW
    clear hf hw
    go_enter Tryz.func96, Tryz.ntmps96
    go_wp2_with fail
    refine (unhide HW).mono ?_
    rintro e w1 ⟨rfl, e1⟩
    have e1' := e1.symm
    clear e1
    subst e1'
    go_wp2
    go_ret2
    exact ⟨rfl, rfl⟩

/-- Whatever the number is. -/
theorem hBytes_any (w : World) (k n : Int) (hk : -9223372036854775808 ≤ k ∧ k ≤ 9223372036854775807) (hn : -9223372036854775808 ≤ n ∧ n ≤ 9223372036854775807) (sg : Bool) :
    Calls Tryz.prog 96 #[.int .i64 k, .int .i64 n, .bool sg] w fun e w' => ∃ a m c, e = .returned (.tuple #[.slice a m c, .bool (decide (fitsW k n sg))]) ∧ (fitsW k n sg → m = k.toNat ∧ w'.ownsRow w.heap.size 5 1 (.slice a m c) m (bv (bytesW k n))) ∧ Below w.heap.size w w' := by
  by_cases hf : fitsW k n sg
  · obtain ⟨m, rfl, hm⟩ := wide_nat hf.1
    refine (hBytes_ok w m hm n hn sg hf).mono ?_
    rintro e w' ⟨rfl, ho, f⟩
    exact ⟨_, _, _, by rw [decide_eq_true hf], fun _ => ⟨by simp, ho⟩, f⟩
  · refine (hBytes_no w k n hk hn sg hf).mono ?_
    rintro e w' ⟨rfl, rfl⟩
    exact ⟨_, _, _, by rw [decide_eq_false hf], fun h => absurd h hf, Below.refl _ _⟩

end Go.Proofs.YtdcoknnjgpdigaaGreatDoor
