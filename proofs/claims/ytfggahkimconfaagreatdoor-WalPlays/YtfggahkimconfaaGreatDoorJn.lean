/- The document's own Append, where there is room: the walk. -/
import Derived.Test.YtfggahkimconfaaGreatDoorJm
import Derived.Maps.AppendAt

namespace Go.Proofs.YtfggahkimconfaaGreatDoor
open Go.RowKit
set_option linter.unusedVariables false

set_option maxRecDepth 100000 in
set_option maxHeartbeats 4000000 in
theorem vAppend_ok (A : Nat → Prop) (w : World) (B y z : Nat) (D : Dk) (L n : Nat) (v : Value) (g : Lg) (d : List UInt8) (hY : YA A w B y D) (hO : Okd D L n) (hn : n ≤ 900) (hw : ∀ k, w.heap.size ≤ k → A k) (hV : VL w B z y v g) (hA : ∀ k, v.ownBlock = some k → ¬ A k) (hg : g.gone = false) (hl : d.length ≤ 4096) (hf : need d.length ≤ g.size - 1 - g.used) (hL : g.L.length ≤ 90000) :
    Calls Tryz.prog 15 #[.pointer (some ⟨z, 0, none⟩), str d] w (VAft A w B y z v (g.apd D d)) := by
  obtain ⟨s1, s2, s3, s4, s5, s6, s7, s8⟩ := hV.small
  obtain ⟨c0, c1, c2, c3, _, c5, c6, _, c8, _⟩ := hV.cells
  rw [hg] at c8
  have hsz : ((⟨d.toArray⟩ : ByteArray)).size = d.length := by simp [ByteArray.size]
  have HWA := hide hw
  have HN := hide (fun (W : World) => vNeed_any W d.length (by omega))
  have hnd := need_le hl
  have hnp := need_pos d.length
  have g1 : decide ((4096 : Int) < (d.length : Int)) = false := by simp; omega
  have g2 : decide ((g.size : Int) - 1 - (g.used : Int) < (need d.length : Int)) = false := by simp; omega
  have g3 : IntKind.i64.wrap ((g.size : Int) - 1) = (g.size : Int) - 1 := by rw [IntKind.wrap_i64]; omega
  have g4 : IntKind.i64.wrap ((g.size : Int) - 1 - (g.used : Int)) = (g.size : Int) - 1 - (g.used : Int) := by rw [IntKind.wrap_i64]; omega
  have g5 : ¬ ((g.size : Int) - 1 - (g.used : Int) < (need d.length : Int)) := by simpa using g2
  have HRF := hide (fun (k : Nat) (hk : k < need d.length) => round_facts d k hk hl)
  have HV := hide hV
  have HAQ : Hid (∀ j, AQ A w B y g D d 0 (w.drewN j)) := fun j => ⟨Nat.zero_le _, by
      show YA A (w.drewN j) B y D
      exact hY.below (below_drewN (Below.refl _ _) j), rfl, Fr2.of_below (below_drewN (Below.refl _ _) j) hY.bw⟩
  have HFO : Hid (∀ k wr, AQ A w B y g D d k wr → VL wr B z y v g) := fun k wr h => hV.fr2 h.fr
  have HST : Hid (∀ k wr W v a base, AQ A w B y g D d k wr → k < need d.length → Below wr.heap.size wr W → W.ownsRow base 5 1 v 256 (bv (secOf g.now g.used (need d.length) d k)) → a = ((g.at_ + 1 + g.used + k : Nat) : Int) → Calls Tryz.prog 26 #[.pointer (some ⟨y, 0, none⟩), .int .i64 a, v] W fun e w' => ∃ c, e = .returned (.int .i64 c) ∧ Fr2 B w w' ∧ ((c = 0 ∧ AQ A w B y g D d (k + 1) w') ∨ (c ≠ 0 ∧ YA A w' B y (D.stores (g.at_ + 1 + g.used) (secsOf g.now g.used d)).1 ∧ (D.stores (g.at_ + 1 + g.used) (secsOf g.now g.used d)).2 = c))) := fun k wr W v a base h hk f ho ha =>
    h.step hk hO (by omega) hw s4 v base W f ho a ha
  have HSC : Hid (∀ k wr W, k < need d.length → Below wr.heap.size wr W → Calls Tryz.prog 55 #[.agg #[.int .i64 (g.now : Int), .string ((⟨(be4 (g.used + k)).toArray⟩ : ByteArray) ++ ⟨#[if decide (k + 1 = need d.length) = true then 1 else 0]⟩ ++ ⟨(cutP d k).toArray⟩)]] W fun e w' => ∃ v, e = .returned v ∧ w'.ownsRow W.heap.size 5 1 v 256 (bv (secOf g.now g.used (need d.length) d k)) ∧ Below wr.heap.size wr w') := fun k wr W hk f => by
    rw [part_bytes g.now]
    refine (vsector_any W (partR g.now (g.used + k) (decide (k + 1 = need d.length)) (cutP d k)) (part_fit s4 (cut_len d k))).mono ?_
    rintro e w' ⟨v, rfl, o, f'⟩
    exact ⟨v, rfl, o, f.trans (f'.mono f.size)⟩
  have HFR : Hid (∀ k wr W, k < need d.length → Below wr.heap.size wr W → Calls Tryz.prog 56 #[.int .i64 ((g.used + k : Nat) : Int)] W fun e w' => e = .returned (.string ⟨(be4 (g.used + k)).toArray⟩) ∧ Below wr.heap.size wr w') := fun k wr W hk f => by
    refine (vfour_any W (g.used + k) (by show _ < 4294967296; omega)).mono ?_
    rintro e w' ⟨rfl, f'⟩
    exact ⟨rfl, f.trans (f'.mono f.size)⟩
  have hX : ∀ (c : Int), (D.stores (g.at_ + 1 + g.used) (secsOf g.now g.used d)).2 = c → g.apd D d = if c = 0 then ((D.stores (g.at_ + 1 + g.used) (secsOf g.now g.used d)).1, { g with used := g.used + need d.length, L := g.L ++ [d] }, 0) else ((D.stores (g.at_ + 1 + g.used) (secsOf g.now g.used d)).1, { g with gone := true }, c) := fun c hc => by
    unfold Lg.apd
    rw [if_neg (by rw [hg]; decide), if_neg (by omega), if_neg (by omega), hc]
  have HX := hide hX
  have hst : str d = .string ⟨d.toArray⟩ := rfl
  have SM := hide (show g.at_ ≤ 4096 ∧ g.used + need d.length ≤ 4096 ∧ need d.length ≤ 18 from ⟨s1, by omega, hnd⟩)
  rw [hst]
  generalize hdb : (⟨d.toArray⟩ : ByteArray) = st at *
  have HD := hide hdb
  generalize hndn : need d.length = nd at *
  have HNN := hide hndn
  generalize hpost : VAft A w B y z v (g.apd D d) = PO
  have HPO := hide hpost
  clear hpost hY hO hw hV hX hdb hndn hst hl
  have g6 : (nd : Int) - 1 = ((nd - 1 : Nat) : Int) := by omega
  go_enter Tryz.func15, Tryz.ntmps15
  go_wp2_with fail
  refine (unhide HN w).mono ?_
  rintro e w1 ⟨rfl, rfl⟩
  clear HN
  go_wp2
  go_quiet (fail)
  go_wp2
  go_loopw [6] (fun i wr => ∃ k : Nat, i = .int .i64 k ∧ AQ A w1 B y g D d k wr) (fun i _ => nd - (intOf i).toNat)
  case atStart => exact ⟨0, rfl, unhide HAQ _⟩
  case round =>
    obtain ⟨k, rfl, hq⟩ := hrel
    have hv := unhide HFO k wr hq
    have hkn : k ≤ nd := by have := hq.le; rw [unhide HNN] at this; exact this
    by_cases hlt : k < nd
    · have hlt1 : (k : Int) < (nd : Int) := by omega
      obtain ⟨I, J, M, hI, hJ, hM1, hM2, hM3, hM4, hM5, hext⟩ := unhide HRF k hlt
      obtain ⟨K, hK⟩ : ∃ K, K = g.used + k := ⟨_, rfl⟩
      obtain ⟨A1, hA1⟩ : ∃ A1, A1 = g.at_ + 1 := ⟨_, rfl⟩
      obtain ⟨a, ha⟩ : ∃ a, a = A1 + K := ⟨_, rfl⟩
      obtain ⟨N1, hN1⟩ : ∃ N1, N1 = nd - 1 := ⟨_, rfl⟩
      obtain ⟨m1, m2, m3⟩ := unhide SM
      have x1 : (g.used : Int) + (k : Int) = (K : Int) := by omega
      have x2 : (g.at_ : Int) + 1 = (A1 : Int) := by omega
      have x3 : (A1 : Int) + (K : Int) = (a : Int) := by omega
      have x4 : (nd : Int) - 1 = (N1 : Int) := by omega
      have hM1' : (if J < d.length then (J : Int) else (d.length : Int)) = (M : Int) := by
        rw [← hM1]
        by_cases h : J < d.length
        · rw [if_pos h, if_pos (by omega)]
        · rw [if_neg h, if_neg (by omega)]
      have y1 : IntKind.i64.wrap (A1 : Int) = (A1 : Int) := by rw [IntKind.wrap_i64]; omega
      have y2 : IntKind.i64.wrap (a : Int) = (a : Int) := by rw [IntKind.wrap_i64]; omega
      have x5 : (I : Int) ≤ (M : Int) := by omega
      have x6 : (M : Int) ≤ (d.length : Int) := by omega
      obtain ⟨d0, d1, _, d3, _, _, d6, _, _, _⟩ := hv.cells
      have H5 := hide (fun W f => unhide HFR k wr W hlt f)
      have H6 := hide (fun W f => unhide HSC k wr W hlt f)
      have H7 := hide (fun W v base f ho => unhide HST k wr W v (a : Int) base hq hlt f ho (by omega))
      rw [← hK] at H5 H6
      have KC : Hid (∀ W, Below wr.heap.size wr W → W.cell? ⟨z, 0, none⟩ = some (.pointer (some ⟨y, 0, none⟩)) ∧ W.cell? ⟨z, 1, none⟩ = some (.int .i64 (g.at_ : Int)) ∧ W.cell? ⟨z, 3, none⟩ = some (.int .i64 (g.now : Int))) := fun W f => by
        obtain ⟨c0, c1, _, c3, _⟩ := (hv.below f).cells
        exact ⟨c0, c1, c3⟩
      have KC2 : Hid (∀ W, Fr2 B w1 W → W.cell? ⟨z, 0, none⟩ = some (.pointer (some ⟨y, 0, none⟩)) ∧ W.cell? ⟨z, 1, none⟩ = some (.int .i64 (g.at_ : Int)) ∧ W.cell? ⟨z, 3, none⟩ = some (.int .i64 (g.now : Int))) := fun W f => by
        obtain ⟨c0, c1, _, c3, _⟩ := ((unhide HV).fr2 f).cells
        exact ⟨c0, c1, c3⟩
      have hXs : (⟨(be4 K).toArray⟩ : ByteArray).size = 4 := by show (be4 K).toArray.size = 4; simp [be4_len]
      have hps : (⟨(cutP d k).toArray⟩ : ByteArray).size ≤ 231 := by show (cutP d k).toArray.size ≤ 231; rw [List.size_toArray]; exact cut_len d k
      generalize secOf g.now g.used nd d k = sec at *
      generalize (⟨(cutP d k).toArray⟩ : ByteArray) = pt at *
      generalize (⟨(be4 K).toArray⟩ : ByteArray) = X at *
      clear hq hv hkn hN1 hA1 ha hK HFR HSC HST HRF m1 m2 m3 g6 c0 c1 c2 c3 c5 c6 c8
      have fin : ∃ b : UInt8, ((k + 1 = nd ∧ b = 1 ∧ ((k : Int) == (N1 : Int)) = true) ∨ (¬ k + 1 = nd ∧ b = 0 ∧ ((k : Int) == (N1 : Int)) = false)) ∧ (if decide (k + 1 = nd) = true then (1 : UInt8) else 0) = b := by
        by_cases h : k + 1 = nd
        · exact ⟨1, .inl ⟨h, rfl, by simp; omega⟩, by simp [h]⟩
        · exact ⟨0, .inr ⟨h, rfl, by simp; omega⟩, by simp [h]⟩
      obtain ⟨b, hb, hbe⟩ := fin
      rw [hbe] at H6
      clear hbe
      have hb1 : (⟨#[b]⟩ : ByteArray).size = 1 := rfl
      have add1 : ∀ W, (Op.stringOp .add X ⟨#[b]⟩).run Tryz.prog W = .ok (.string (X ++ ⟨#[b]⟩)) W := fun W => run_string_add_sum (P := Tryz.prog) W X _ (by omega)
      have add2 : ∀ W, (Op.stringOp .add (X ++ ⟨#[b]⟩) pt).run Tryz.prog W = .ok (.string (X ++ ⟨#[b]⟩ ++ pt)) W := fun W => run_string_add_sum (P := Tryz.prog) W _ pt (by rw [ByteArray.size_append']; omega)
      generalize hZ : X ++ ⟨#[b]⟩ ++ pt = Z at *
      clear hZ
      generalize hYY : X ++ ⟨#[b]⟩ = YY at *
      clear hYY hb1 hXs hps
      clear hM1 hM4 hM5
      rcases hb with ⟨_, rfl, gb⟩ | ⟨_, rfl, gb⟩
      · go_upto_region 16 with fail
        go_region_held_law (fun W => W.cell? ⟨z, 0, none⟩ = some (.pointer (some ⟨y, 0, none⟩)) ∧ W.cell? ⟨z, 1, none⟩ = some (.int .i64 (g.at_ : Int)) ∧ W.cell? ⟨z, 3, none⟩ = some (.int .i64 (g.now : Int))) (go_keep)
          (first
            | (have ox := o3; clear ox; go_at_call 26; refine (unhide H7 _ _ _ (by repeat (first | exact f3 | refine Below.drew ?_)) o3).mono ?_; rintro e w4 ⟨c, rfl, f4, h4⟩; have k40 := (unhide KC2 w4 f4).1; have k41 := (unhide KC2 w4 f4).2.1; have k42 := (unhide KC2 w4 f4).2.2)
            | (have fx := f2; clear fx; go_at_call 55; refine (unhide H6 _ (by repeat (first | exact f2 | refine Below.drew ?_))).mono ?_; rintro e w3 ⟨v3, rfl, o3, f3⟩; have k30 := (unhide KC w3 f3).1; have k31 := (unhide KC w3 f3).2.1; have k32 := (unhide KC w3 f3).2.2)
            | (go_at_call 56; refine (unhide H5 _ (by repeat (first | exact Below.refl _ _ | refine Below.drew ?_))).mono ?_; rintro e w2 ⟨rfl, f2⟩; have k20 := (unhide KC w2 f2).1; have k21 := (unhide KC w2 f2).2.1; have k22 := (unhide KC w2 f2).2.2))
        clear k20 k21 k22 k30 k31 k32 o3 f2 f3 H5 H6 H7 KC KC2 k40 k41 k42 d0 d1 d3 d6
        rcases h4 with ⟨rfl, q4⟩ | ⟨hc, y4, e4⟩
        · have Q4 := hide q4
          clear q4 f4
          go_simp
          go_wp2
          go_roundw
          case rel => exact ⟨k + 1, by go_num, unhide Q4⟩
          case measure => simp [intOf]; omega
        · have gc : (c == 0) = false := by simpa using hc
          have gn : (c != 0) = true := by simpa using hc
          have hv4 := (unhide HV).fr2 f4
          obtain ⟨_, _, _, _, _, _, _, _, d8, fz⟩ := hv4.cells
          have z8 := fz 8
          have Y4 := hide y4
          have HV4 := hide hv4
          have F4 := hide f4
          have E4 := hide e4
          have HC := hide hc
          clear y4 hv4 f4 fz e4 hc
          go_simp
          go_wp2
          show PO (.returned (.int .i64 c)) _
          rw [← unhide HPO, unhide HX _ (unhide E4), if_neg (unhide HC)]
          have hv := unhide HV4
          have hl := hv.lw.set 8 (.bool true)
          have ho := hl.own hv
          exact vaft_same (hl.ya (unhide Y4)) (Lw.vl hv (g' := { g with gone := true }) hl ho hv.small) hA ((unhide F4).three.trans (hl.fr hv.bz))
      · go_upto_region 16 with fail
        go_region_held_law (fun W => W.cell? ⟨z, 0, none⟩ = some (.pointer (some ⟨y, 0, none⟩)) ∧ W.cell? ⟨z, 1, none⟩ = some (.int .i64 (g.at_ : Int)) ∧ W.cell? ⟨z, 3, none⟩ = some (.int .i64 (g.now : Int))) (go_keep)
          (first
            | (have ox := o3; clear ox; go_at_call 26; refine (unhide H7 _ _ _ (by repeat (first | exact f3 | refine Below.drew ?_)) o3).mono ?_; rintro e w4 ⟨c, rfl, f4, h4⟩; have k40 := (unhide KC2 w4 f4).1; have k41 := (unhide KC2 w4 f4).2.1; have k42 := (unhide KC2 w4 f4).2.2)
            | (have fx := f2; clear fx; go_at_call 55; refine (unhide H6 _ (by repeat (first | exact f2 | refine Below.drew ?_))).mono ?_; rintro e w3 ⟨v3, rfl, o3, f3⟩; have k30 := (unhide KC w3 f3).1; have k31 := (unhide KC w3 f3).2.1; have k32 := (unhide KC w3 f3).2.2)
            | (go_at_call 56; refine (unhide H5 _ (by repeat (first | exact Below.refl _ _ | refine Below.drew ?_))).mono ?_; rintro e w2 ⟨rfl, f2⟩; have k20 := (unhide KC w2 f2).1; have k21 := (unhide KC w2 f2).2.1; have k22 := (unhide KC w2 f2).2.2))
        clear k20 k21 k22 k30 k31 k32 o3 f2 f3 H5 H6 H7 KC KC2 k40 k41 k42 d0 d1 d3 d6
        rcases h4 with ⟨rfl, q4⟩ | ⟨hc, y4, e4⟩
        · have Q4 := hide q4
          clear q4 f4
          go_simp
          go_wp2
          go_roundw
          case rel => exact ⟨k + 1, by go_num, unhide Q4⟩
          case measure => simp [intOf]; omega
        · have gc : (c == 0) = false := by simpa using hc
          have gn : (c != 0) = true := by simpa using hc
          have hv4 := (unhide HV).fr2 f4
          obtain ⟨_, _, _, _, _, _, _, _, d8, fz⟩ := hv4.cells
          have z8 := fz 8
          have Y4 := hide y4
          have HV4 := hide hv4
          have F4 := hide f4
          have E4 := hide e4
          have HC := hide hc
          clear y4 hv4 f4 fz e4 hc
          go_simp
          go_wp2
          show PO (.returned (.int .i64 c)) _
          rw [← unhide HPO, unhide HX _ (unhide E4), if_neg (unhide HC)]
          have hv := unhide HV4
          have hl := hv.lw.set 8 (.bool true)
          have ho := hl.own hv
          exact vaft_same (hl.ya (unhide Y4)) (Lw.vl hv (g' := { g with gone := true }) hl ho hv.small) hA ((unhide F4).three.trans (hl.fr hv.bz))
    · have hkd : k = nd := by omega
      have hge : ¬ (k : Int) < (nd : Int) := by omega
      have hy : YA A wr B y (D.stores (g.at_ + 1 + g.used) (secsOf g.now g.used d)).1 := by
        have := hq.ya
        rw [hkd, ← unhide HNN, firstP_all] at this
        exact this
      have he : (D.stores (g.at_ + 1 + g.used) (secsOf g.now g.used d)).2 = 0 := by
        have := hq.ok
        rw [hkd, ← unhide HNN, firstP_all] at this
        exact this
      obtain ⟨U, hU⟩ : ∃ U, U = g.used + nd := ⟨_, rfl⟩
      have hUi : (g.used : Int) + (nd : Int) = (U : Int) := by omega
      have hl5 := hv.lw.set 6 (.int .i64 (U : Int))
      have ho5 := hl5.own hv
      have HEND := hide (fun (w5 w6 : World) (v' : Value) (ob : Obj) h5 o6 g6 hat => vappend_end (A := A) (w := w1) (wr := wr) (w5 := w5) (w6 := w6) (B := B) (y := y) (z := z) (U := U) (v := v) (v' := v') (g := g) (d := d) (D' := (D.stores (g.at_ + 1 + g.used) (secsOf g.now g.used d)).1) (ob := ob) (by omega) hL hg hq.fr hv hy hA (unhide HWA) h5 o6 g6 hat)
      have HE := hide he
      obtain ⟨_, _, _, _, _, e5, e6, _, _, fz⟩ := hv.cells
      have z6 := fz 6
      have HBW := hide hy.bw
      have hst : str d = .string st := by show Value.string ⟨d.toArray⟩ = _; rw [unhide HD]
      rw [hst] at HEND
      have HUN := hide hU
      clear hq hv hy he HFR HSC HST HRF HAQ HFO hkn fz c0 c1 c2 c3 c5 c6 c8 g6 hU hkd
      go_upto_region 21 with fail
      have e5' : (wr.setCell ⟨z, 6, none⟩ (.int .i64 (U : Int))).cell? ⟨z, 5, none⟩ = some v := by rw [cell_of_row _ _ _ _ _ _ hl5.blk]; rfl
      have HL5 := hide hl5
      have hsz5 : wr.heap.size ≤ (wr.setCell ⟨z, 6, none⟩ (.int .i64 (U : Int))).heap.size := hl5.bel.size
      generalize wr.setCell ⟨z, 6, none⟩ (.int .i64 (U : Int)) = w5 at *
      have HO5 := hide ho5
      clear e5 e6 z6 hl5 ho5
      obtain ⟨i0, hi, hz0, hz1, hz2⟩ := info_parts infoStr
      have hsrc : ∀ j u, [Value.string st][j]? = some u → (w5.alloc (.cells #[.string st] 9)).cell? ((⟨w5.heap.size, 0, none⟩ : Addr).add j) = some u := cell_one_new w5 (.string st) 9
      have hone : ∀ u ∈ [Value.string st], u.oneCell' = true := fun u hu => by
        rw [List.mem_singleton] at hu
        subst hu
        rfl
      have hc3 : g.L.length + 1 ≤ maxLen := by unfold maxLen; omega
      have hbase : B ≤ (w5.alloc (.cells #[.string st] 9)).heap.size := by have := unhide HBW; simp; omega
      have ho6 := (unhide HO5).alloc (.cells #[.string st] 9)
      go_wp2_with (at_builtin; refine wpList_append_own_at _ rfl (.tmp 100) (.tmp 102) 53 rfl B 9 i0 (.string ⟨#[]⟩) 1 16 Tryz.underlying53 hi hz0 hz1 hz2 rfl (by decide) _ _ _ rfl ho6 ⟨w5.heap.size, 0, none⟩ 1 1 [.string st] rfl rfl hsrc hone hc3 (by omega) hbase ?_)
      intro v' w6 o6 gr6 _ hat
      obtain ⟨hz6, hAft⟩ := unhide HEND w5 w6 v' _ (unhide HL5) o6 gr6 (by simpa using hat)
      obtain ⟨va', vc', rfl⟩ := own_slice o6
      have hz6' := hz6.trans (unhide HL5).blk
      have k5 : w6.cell? ⟨z, 5, none⟩ = some v := by rw [cell_of_row _ _ _ _ _ _ hz6']; rfl
      have q5 : w6.frozen? ⟨z, 5, none⟩ = false := frozen_of_row _ _ _ _ _ hz6'
      have HAF := hide hAft
      clear hAft hz6 hz6' o6 gr6 hat ho6 hbase hsrc hone HEND
      go_wp2
      show PO (.returned (.int .i64 0)) _
      rw [← unhide HPO, unhide HX _ (unhide HE), if_pos rfl, ← unhide HUN]
      exact unhide HAF

theorem vAppend_any (A : Nat → Prop) (w : World) (B y z : Nat) (D : Dk) (L n : Nat) (v : Value) (g : Lg) (d : List UInt8) (hY : YA A w B y D) (hO : Okd D L n) (hn : n ≤ 900) (hw : ∀ k, w.heap.size ≤ k → A k) (hV : VL w B z y v g) (hA : ∀ k, v.ownBlock = some k → ¬ A k) (hd : d.length ≤ 100000) (hL : g.L.length ≤ 90000) :
    Calls Tryz.prog 15 #[.pointer (some ⟨z, 0, none⟩), str d] w (VAft A w B y z v (g.apd D d)) := by
  by_cases hb : g.gone = true ∨ 4096 < d.length ∨ g.size - 1 - g.used < need d.length
  · exact vAppend_bad A w B y z D L n v g d hY hV hA hd hb
  · have h1 : g.gone = false := by
      cases hg : g.gone with
      | true => exact absurd (.inl hg) hb
      | false => rfl
    have h2 : d.length ≤ 4096 := Nat.le_of_not_lt (fun h => hb (.inr (.inl h)))
    have h3 : need d.length ≤ g.size - 1 - g.used := Nat.le_of_not_lt (fun h => hb (.inr (.inr h)))
    exact vAppend_ok A w B y z D L n v g d hY hO hn hw hV hA h1 h2 h3 hL

end Go.Proofs.YtfggahkimconfaaGreatDoor
