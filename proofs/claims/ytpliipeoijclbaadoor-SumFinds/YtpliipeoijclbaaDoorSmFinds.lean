/- The walk of SumFinds. -/
import Derived.Test.YtpliipeoijclbaaDoorSmBreaks
import Derived.Deep.CutBlock
namespace Go.Proofs.YtpliipeoijclbaaDoor
open Go.RowKit
set_option linter.unusedVariables false


/-- While four places are turned. -/
structure FR (w : World) (q c n k : Nat) (l xs : List UInt8) (xb : Nat) (j : Nat) (wr : World) : Prop where
  own : wr.ownsRow (w.heap.size + 1) 5 1 (.slice (some ⟨q, 0, none⟩) n c) n (bv (turnL l k xs j))
  fr : Below w.heap.size w wr
  xs : ∀ i v, xs[i]? = some v → wr.cell? ⟨w.heap.size, i, none⟩ = some (.int .u8 (v.toNat : Int))

theorem FR.next {w wr : World} {q c n k j : Nat} {l xs : List UInt8} {xb : Nat} {b x : UInt8} (h : FR w q c n k l xs xb j wr) (hb : l[k + j]? = some b) (hx : xs[j]? = some x) :
    FR w q c n k l xs xb (j + 1) ((wr.setCell ⟨q, k + j, none⟩ (.int .u8 ((b ^^^ x).toNat : Int))).drew) := by
  have hq := (h.own.lt q rfl).1
  have hs := (h.own.stored (k + j) (.int .u8 ((b ^^^ x).toNat : Int))).1
  have e : (bv (turnL l k xs j)).set (k + j) (.int .u8 ((b ^^^ x).toNat : Int)) = bv (turnL l k xs (j + 1)) := by
    have := turnL_succ (xs := xs) hb
    rw [List.getD_eq_getElem?_getD, hx] at this
    simp only [Option.getD_some] at this
    rw [← this]
    simp [bv, List.map_set]
  rw [e] at hs
  refine ⟨own_below hs (Below.drew (Below.refl _ _)), (h.fr.setCell (p := ⟨q, k + j, none⟩) (by show w.heap.size ≤ q; omega) _).drew, fun i v hv => ?_⟩
  have := h.xs i v hv
  show (wr.setCell ⟨q, k + j, none⟩ (.int .u8 ((b ^^^ x).toNat : Int))).cell? ⟨w.heap.size, i, none⟩ = _
  rw [World.cell?_of_block (w := wr) (Below.heap_setCell _ _ _ _ (by show w.heap.size ≠ q; omega))]
  exact this

set_option maxHeartbeats 3200000 in
set_option maxRecDepth 100000 in
theorem finds_walk {T : World → Prop} (S : Sums T) (w : World) (a : Option Addr) (n cap : Nat) (l : List UInt8) (at_ : Int) (x0 x1 x2 x3 : UInt8) (hT : T w) (hA : Arg w a n cap l) :
    Calls Tryd.prog 7 #[.slice a n cap, .int .i64 at_, .agg #[.int .u8 (x0.toNat : Int), .int .u8 (x1.toNat : Int), .int .u8 (x2.toNat : Int), .int .u8 (x3.toNat : Int)]] w fun e w' => e = .returned (.bool true) ∧ Below w.heap.size w w' := by
  have HT := hide hT
  have HA := hide hA
  have fb : Below w.heap.size w (w.alloc (.cells #[.int .u8 (x0.toNat : Int), .int .u8 (x1.toNat : Int), .int .u8 (x2.toNat : Int), .int .u8 (x3.toNat : Int)] 41)) := (Below.refl _ _).alloc (Nat.le_refl _) _
  have hbl := heap_alloc_last w (.cells #[.int .u8 (x0.toNat : Int), .int .u8 (x1.toNat : Int), .int .u8 (x2.toNat : Int), .int .u8 (x3.toNat : Int)] 41)
  have H0 := hide (gWorks S (unhide HT) fb)
  have HBL := hide hbl
  clear hT hA fb hbl
  go_enter Tryd.func7, Tryd.ntmps7
  go_wp2_with fail
  refine (unhide H0).mono ?_
  rintro e w1 ⟨rfl, f1, b1⟩
  have hb1 : w1.heap[w.heap.size]? = some (.cells #[.int .u8 (x0.toNat : Int), .int .u8 (x1.toNat : Int), .int .u8 (x2.toNat : Int), .int .u8 (x3.toNat : Int)] 41) := (b1.block _ (by simp)).trans (unhide HBL)
  have HX : Hid (∀ (W : World), Below w1.heap.size w1 W → ∀ i v, [x0, x1, x2, x3][i]? = some v → W.cell? ⟨w.heap.size, i, none⟩ = some (.int .u8 (v.toNat : Int))) := fun W f i v hv => by
    have hW := (f.block _ (lt_of_heap hb1)).trans hb1
    rw [cell_of_row _ _ _ _ _ _ hW]
    match i, hv with
    | 0, hv => cases hv; rfl
    | 1, hv => cases hv; rfl
    | 2, hv => cases hv; rfl
    | 3, hv => cases hv; rfl
  have F1 := hide f1
  have hsz : Hid (w.heap.size + 1 ≤ w1.heap.size) := by have := b1.size; rw [World.size_alloc] at this; exact this
  clear f1 b1 H0 HBL hb1
  go_upto_if 14 with fail
  go_cut [0] from 10 (fun v wx => ∃ a n l, v = .slice a n cap ∧ Arg w a n cap l ∧ n ≤ 2000 ∧ wx = w1)
  case first =>
    by_cases hlim : n ≤ 2000
    · have g0 : decide ((2000 : Int) < (n : Int)) = false := by simp; omega
      go_wp2
      go_meet
      exact ⟨a, n, l, rfl, unhide HA, hlim, rfl⟩
    · have hA := unhide HA
      obtain ⟨b, o, rfl, hb⟩ := hA.bs.2.resolve_left (by omega)
      have g0 : decide ((2000 : Int) < (n : Int)) = true := by simp; omega
      have hcap0 := hA.room
      have g1 : (2000 : Int) ≤ (cap : Int) := by omega
      have g2 : ¬ cap = 0 := by omega
      have HB : Hid (Arg w (some ⟨b, o, none⟩) 2000 cap (l.take 2000)) := ⟨⟨by have := hA.bs.1; simp; omega, .inr ⟨b, o, rfl, bytes_take hb _⟩⟩, by omega, hA.most, fun e => by cases e⟩
      clear hA hb hcap0
      go_wp2
      go_meet
      exact ⟨some ⟨b, o, none⟩, 2000, l.take 2000, rfl, unhide HB, Nat.le_refl _, rfl⟩
  case rest =>
    clear HA
    obtain ⟨a, n, l, rfl, hA, hn, rfl⟩ := hcut
    have hln := hA.bs.1
    have HA := hide hA
    clear hA
    by_cases h4 : n < 4
    · have g4 : decide ((n : Int) < 4) = true := by simp; omega
      go_wp2
      go_ret
      exact ⟨rfl, unhide F1⟩
    · have g4 : decide ((n : Int) < 4) = false := by simp; omega
      have hn3 : (n : Int) - 3 = ((n - 3 : Nat) : Int) := by omega
      have hk := among_lt at_ (n - 3) (by omega)
      have H2 := hide (Among_any wc at_ (n - 3) (by omega) (by omega))
      have H3 := hide (gBytes (unhide F1) (unhide HA) (by omega))
      generalize among at_ (n - 3) = k at *
      go_wp2_with fail
      refine (unhide H2).mono ?_
      rintro e w2 ⟨rfl, rfl⟩
      go_wp2_with fail
      refine (unhide H3).mono ?_
      rintro e w3 ⟨a3, c3, rfl, o3, A3, f3, b3⟩
      obtain ⟨q, hq, _, _, _⟩ := own_some (unhide F1).size o3 (by omega)
      subst hq
      have hR0 : FR w q c3 n k l [x0, x1, x2, x3] 0 0 w3 := ⟨by rw [turnL_zero]; exact own_base o3 (unhide hsz), f3, unhide HX _ b3⟩
      have HR0 := hide hR0
      clear H2 H3 o3 A3 f3 b3 hR0 HX hsz F1
      go_wp2
      go_loopw [9] (fun i wr => ∃ j : Nat, j ≤ 4 ∧ i = .int .i64 j ∧ FR w q c3 n k l [x0, x1, x2, x3] 0 j wr) (fun i _ => 4 - (intOf i).toNat)
      case atStart => exact ⟨0, by omega, rfl, unhide HR0⟩
      case round =>
        clear HR0
        obtain ⟨j, hj, rfl, hR⟩ := hrel
        by_cases hj4 : j < 4
        · obtain ⟨b, hb⟩ : ∃ b, l[k + j]? = some b := ⟨_, List.getElem?_eq_getElem (by omega)⟩
          obtain ⟨x, hx⟩ : ∃ x, [x0, x1, x2, x3][j]? = some x := ⟨_, List.getElem?_eq_getElem (by simp; omega)⟩
          have kx := hR.xs j x hx
          obtain ⟨q', hq', _, hcell, _⟩ := own_some (Nat.le_succ _) hR.own (by omega)
          injection hq' with hq'; injection hq' with hq'
          subst hq'
          have kc := (hcell (k + j) b (turnL_get hb)).1
          have kf := (hcell (k + j) b (turnL_get hb)).2
          have hval : bits .xor .u8 (b.toNat : Int) (x.toNat : Int) = ((b ^^^ x).toNat : Int) := by rw [u8_xor_nat _ _ (u8_lt b) (u8_lt x), UInt8.toNat_xor]
          have hw1 : IntKind.i64.wrap ((k : Int) + (j : Int)) = ((k + j : Nat) : Int) := by rw [IntKind.wrap_i64]; omega
          have hkn0 : (0 : Int) ≤ (k : Int) + (j : Int) := by omega
          have hkn : (k : Int) + (j : Int) < (n : Int) := by omega
          have hkt : ((k : Int) + (j : Int)).toNat = k + j := by omega
          have hkn' : k + j < n := by omega
          have HN := hide (hR.next hb hx)
          generalize b ^^^ x = v at *
          clear hcell hR hb hx
          go_wp2_with fail
          go_region_law (fail)
          all_goals
            clear kc kf kx hval hw1
            go_wp2
            go_roundw
            case rel => exact ⟨j + 1, by omega, by go_num, unhide HN⟩
            case measure => simp [intOf]; omega
        · obtain rfl : j = 4 := by omega
          have hlen := turnL_len l k [x0, x1, x2, x3] 4
          have A4 : Arg wr (some ⟨q, 0, none⟩) n c3 (turnL l k [x0, x1, x2, x3] 4) := arg_of_own (by rw [hlen]; exact hln) hR.own
          have hiff := turnL_four (l := l) (k := k) (by omega) 0 x0 x1 x2 x3
          have H5 := hide (SameBytes_n wr a (some ⟨q, 0, none⟩) l (turnL l k [x0, x1, x2, x3] 4) n n cap c3 ((unhide HA).below hR.fr).bs.at A4.bs.at hln (by rw [hlen]; exact hln))
          have H6 := hide (gOf S (unhide HT) hR.fr ((unhide HA).below hR.fr) (by omega))
          have H7 : Hid (∀ W, Below w.heap.size w W → Below wr.heap.size wr W → Calls Tryd.prog 12 #[.slice (some ⟨W.heap.size, 0, none⟩) 1 1] (W.alloc (.cells #[.slice (some ⟨q, 0, none⟩) n c3] 23)) fun e w' => e = .returned (.int .u32 (onS 0 (turnL l k [x0, x1, x2, x3] 4) : Int)) ∧ Below w.heap.size w w' ∧ Below W.heap.size W w') := fun W f f' => gOf S (unhide HT) f (A4.below f') (by omega)
          have hres : (decide (l = turnL l k [x0, x1, x2, x3] 4) == ((onS 0 l : Int) == (onS 0 (turnL l k [x0, x1, x2, x3] 4) : Int))) = true := by
            by_cases h : l = turnL l k [x0, x1, x2, x3] 4
            · rw [decide_eq_true h]
              simp [hiff.2 h]
            · rw [decide_eq_false h]
              have : ¬ onS 0 l = onS 0 (turnL l k [x0, x1, x2, x3] 4) := fun e => h (hiff.1 e)
              simp
              omega
          generalize onS 0 l = s1 at *
          generalize onS 0 (turnL l k [x0, x1, x2, x3] 4) = s2 at *
          generalize decide (l = turnL l k [x0, x1, x2, x3] 4) = bb at *
          have HRES := hide hres
          clear hR A4 hlen hiff hres
          go_wp2_with fail
          refine (unhide H5).mono ?_
          rintro e w5 ⟨rfl, rfl⟩
          go_wp2_with fail
          refine (unhide H6).mono ?_
          rintro e w6 ⟨rfl, f6, b6⟩
          have H7' := hide (unhide H7 _ f6 b6)
          clear f6 b6 H5 H6 H7
          go_wp2_with fail
          refine (unhide H7').mono ?_
          rintro e w7 ⟨rfl, f7, _⟩
          have F7 := hide f7
          clear f7 H7'
          go_wp2
          go_ret
          exact ⟨ret_bool (unhide HRES), unhide F7⟩

end Go.Proofs.YtpliipeoijclbaaDoor
