/- The document's own pool: entry (written by mk/mkentry.py). -/
import Derived.Test.YtjpimcglojneaaaJPlV
import Derived.Laws.ResultCell

namespace Go.Proofs.Ytjpimcglojneaaa
open Go.RowKit
set_option linter.unusedVariables false

theorem getW_most {b : List UInt8} {i : Nat} {k : Int} : (getW b i k false).1 ≤ 9223372036854775807 := by
  unfold getW
  split
  · rename_i hw
    split
    · show (0 : Int) ≤ _
      omega
    · cases hv : valW ((b.drop i).take k.toNat) false with
      | none =>
        show (0 : Int) ≤ _
        omega
      | some n =>
        show n ≤ _
        have hlt := numB_lt ((b.drop i).take k.toNat)
        have hl : ((b.drop i).take k.toNat).length ≤ k.toNat := by rw [List.length_take]; omega
        unfold valW at hv
        split at hv
        · rw [if_neg (by decide)] at hv
          split at hv
          · injection hv with hv
            omega
          · cases hv
        · rename_i h8
          rw [if_neg (by simp)] at hv
          injection hv with hv
          have h7 : ((b.drop i).take k.toNat).length ≤ 7 := by
            obtain ⟨m, rfl, hm⟩ := wide_nat hw
            omega
          have := Nat.pow_le_pow_right (n := 256) (by omega) h7
          omega
  · show (0 : Int) ≤ _
    omega
theorem sizeEnt : (Try.prog.info? 67).map (·.size) = some 5 := by kernel_rfl
theorem ent_results {fn : Func} (h : fn.results = #[.cell 2 67, .tmp 3]) (W : World) (r : Nat) (c0 c1 c2 c3 c4 : Value) (hb : W.heap[r]? = some (.cells #[c0, c1, c2, c3, c4] 67 (0, 0))) (tmps : Array Value) (hp : tmps.getD 2 undef = .pointer (some ⟨r, 0, none⟩)) :
    (results fn tmps).run Try.prog W = .ok (.tuple #[.agg #[c0, c1, c2, c3, c4], tmps.getD 3 undef]) W := by
  rw [results_cell_tmp h, hp]
  simp [asAddr, run_loadVar_row W r 67 67 _ (0, 0) _ hb Try.underlying67 rfl sizeEnt]

set_option maxHeartbeats 6400000 in
set_option maxRecDepth 100000 in
theorem jentry_any (w : World) (z : Nat) (a : Option Addr) (n c i : Nat) (bs : List UInt8) (hb : Arg w a n c bs) (hn : n ≤ 1000000) (hi : i ≤ n) (hz : w.heap[z]? = some (.cells #[.slice a n c, .int .i64 (i : Int)] 28 (0, 0))) (hfar : ∀ b o, a = some ⟨b, o, none⟩ → 0 < n → b ≠ z) :
    Calls Try.prog 34 #[.pointer (some ⟨z, 0, none⟩)] w fun e w' => ∃ x, e = .returned (.tuple #[entV x, .int .i64 (entR bs i).2.1]) ∧ ((entR bs i).2.1 = 0 → x = (entR bs i).1) ∧ EEnd w z a n c (entR bs i).2.2 w' := by
  have hlen := hb.bs.1
  have b0 : Below w.heap.size w (w.alloc (.cells #[.int .i64 0, .string ⟨#[]⟩, .int .i64 0, .int .i64 0, .int .i64 0] 67)) := (Below.refl _ _).alloc (Nat.le_refl _) _
  have hzl := lt_of_heap hz
  have HG := hide (hGet_any (w.alloc (.cells #[.int .i64 0, .string ⟨#[]⟩, .int .i64 0, .int .i64 0, .int .i64 0] 67)) z a n c i bs (hb.below b0) (by omega) hi ((b0.block z hzl).trans hz) 1 (by decide) false)
  have hle := getW_le (bs := bs) (i := i) (k := 1) (sg := false) (by omega)
  have hpos := getW_pos (b := bs) (i := i) (k := 1)
  have hmost := getW1_le (b := bs) (i := i)
  obtain ⟨X, hX⟩ : ∃ X, entR bs i = X := ⟨_, rfl⟩
  rw [hX]
  have hE := hX.symm
  unfold entR at hE
  simp only at hE
  generalize getW bs i 1 false = g at *
  obtain ⟨g1, g2, g3⟩ := g
  simp only at HG hle hpos hmost hE
  have B0 := hide b0
  have HZ := hide hz
  have HB := hide hb
  have HF := hide hfar
  have HX := hide hE
  clear hz hb hfar b0 hX hE
  go_enter Try.func34, Try.ntmps34
  go_wp2_with fail
  refine (unhide HG).mono ?_
  rintro e w1 ⟨rfl, R⟩
  have hs1 : w.heap.size + 1 ≤ w1.heap.size := by
    have := R.bel.size
    simpa using this
  have H : EH w z a n c bs w.heap.size w1.heap.size := ⟨unhide HB, unhide HF, hn, hzl, Nat.le_refl _, by omega, by omega⟩
  have hS : ES w z a n c g3 w.heap.size w1.heap.size ⟨g1, [], 0, 0, 0⟩ (w1.alloc (.cells #[.int .i64 g1, .string ⟨#[]⟩, .int .i64 0, .int .i64 0, .int .i64 0] 67)) := by
    have f1 : Below w1.heap.size w1 (w1.alloc (.cells #[.int .i64 g1, .string ⟨#[]⟩, .int .i64 0, .int .i64 0, .int .i64 0] 67)) := (Below.refl _ _).alloc (Nat.le_refl _) _
    have hne : w.heap.size ≠ z := by omega
    refine ⟨(f1.block z (lt_of_heap R.blk)).trans R.blk, fun k hk hz => ?_, ?_, ?_, heap_alloc_last w1 _⟩
    · exact (f1.block k (by omega)).trans ((R.oth k hz).trans ((unhide B0).block k hk))
    · exact (((unhide B0).mono (Nat.le_of_lt hzl)).trans R.bel).trans (f1.mono (by omega))
    · exact (f1.block _ (by omega)).trans ((R.oth _ hne).trans (heap_alloc_last w _))
  have HS := hide hS
  clear HG R hS B0 HZ HB HF
  go_upto_region 3 with fail
  generalize w1.alloc (.cells #[.int .i64 g1, .string ⟨#[]⟩, .int .i64 0, .int .i64 0, .int .i64 0] 67) = W at *
  generalize w1.heap.size = q at *
  by_cases h0 : g2 = 0
  case neg =>
    have h0' : (g2 != 0) = true := by simpa using h0
    rw [if_pos h0] at HX
    obtain ⟨⟨x0, x1, x2, x3, x4⟩, fx, ⟨r0, r1, r2, r3, r4⟩, fr⟩ := (unhide HS).cells
    simp only at x0 x1 x2 x3 x4
    have E := hide ((unhide HS).fin H (.int .i64 g1) (.string ⟨#[]⟩) (.int .i64 0) (.int .i64 0) (.int .i64 0))
    clear HS
    go_wp2
    refine bodyPost_ret (ent_results Try.results34 _ w.heap.size _ _ _ _ _ (by exact (unhide E).2) _ rfl) rfl ?_
    rw [unhide HX]
    exact ⟨⟨g1, [], 0, 0, 0⟩, rfl, fun h => absurd h h0, (unhide E).1⟩
  subst h0
  rw [if_neg (by simp)] at HX
  by_cases t1 : g1 = 1
  case pos =>
    subst t1
    rw [if_pos rfl] at HX
    have hyp := getW_pos (b := bs) (i := g3) (k := 2)
    have hym := getW_most (b := bs) (i := g3) (k := 2)
    have H2 := hide ((unhide HS).get H (by omega) 2 (by decide) false)
    have hle2 := getW_le (bs := bs) (i := g3) (k := 2) (sg := false) (by omega)
    generalize getW bs g3 2 false = y at *
    obtain ⟨y1, y2, y3⟩ := y
    simp only at H2 HX hle2 hyp hym
    clear HS
    go_wp2_with fail
    refine (unhide H2).mono ?_
    rintro e w2 ⟨rfl, s2⟩
    have S2 := hide s2
    clear s2 H2
    by_cases h2 : y2 = 0
    case neg =>
      have h2' : (y2 != 0) = true := by simpa using h2
      rw [if_pos h2] at HX
      obtain ⟨⟨x0, x1, x2, x3, x4⟩, fx, ⟨r0, r1, r2, r3, r4⟩, fr⟩ := (unhide S2).cells
      simp only at x0 x1 x2 x3 x4
      have E := hide ((unhide S2).fin H (.int .i64 1) (.string ⟨#[]⟩) (.int .i64 0) (.int .i64 0) (.int .i64 0))
      clear S2
      go_wp2
      refine bodyPost_ret (ent_results Try.results34 _ w.heap.size _ _ _ _ _ (by exact (unhide E).2) _ rfl) rfl ?_
      rw [unhide HX]
      exact ⟨⟨1, [], 0, 0, 0⟩, rfl, fun h => absurd h h2, (unhide E).1⟩
    subst h2
    rw [if_neg (by simp)] at HX
    have hy1 : 0 ≤ y1 ∧ y1 ≤ 9223372036854775807 := ⟨hyp, hym⟩
    have H3 := hide ((unhide S2).take H (by omega) y1 (by omega))
    generalize takeW bs y3 y1 = t at *
    obtain ⟨t1, t2, t3⟩ := t
    simp only at H3 HX
    clear S2
    go_wp2_with fail
    refine (unhide H3).mono ?_
    rintro e w3 ⟨v, rfl, ov, s3⟩
    obtain ⟨av, cv, rfl, _⟩ := own_form ov
    have hcv := conv_bytes w3 av t1 cv (own_bytes ov)
    have S3 := hide s3
    obtain ⟨⟨x0, x1, x2, x3, x4⟩, fx, ⟨r0, r1, r2, r3, r4⟩, fr⟩ := (unhide S3).cells
    simp only at x0 x1 x2 x3 x4
    have S4 := hide ((unhide S3).set (y := ⟨1, t1, 0, 0, 0⟩) H 1 (.string ⟨t1.toArray⟩) rfl)
    clear s3 ov H3 S3
    generalize hst : (⟨t1.toArray⟩ : ByteArray) = st at *
    go_upto_region 13 with fail
    generalize w3.setCell ⟨q, 1, none⟩ (.string st) = W4 at *
    clear x0 x1 x2 x3 x4 fx r0 r1 r2 r3 r4 fr hcv
    obtain ⟨⟨x0, x1, x2, x3, x4⟩, fx, ⟨r0, r1, r2, r3, r4⟩, fr⟩ := (unhide S4).cells
    simp only [hst] at x0 x1 x2 x3 x4
    have HST := hide hst
    clear hst
    have E := hide ((unhide S4).fin H (.int .i64 1) (.string st) (.int .i64 0) (.int .i64 0) (.int .i64 0))
    clear S4
    go_wp2
    refine bodyPost_ret (ent_results Try.results34 _ w.heap.size _ _ _ _ _ (by exact (unhide E).2) _ rfl) rfl ?_
    rw [unhide HX]
    exact ⟨⟨1, t1, 0, 0, 0⟩, by rw [← unhide HST]; rfl, fun _ => rfl, (unhide E).1⟩
  by_cases t3 : g1 = 3
  case pos =>
    subst t3
    rw [if_neg (by decide), if_pos rfl] at HX
    have H2 := hide ((unhide HS).get H (by omega) 4 (by decide) true)
    have hle2 := getW_le (bs := bs) (i := g3) (k := 4) (sg := true) (by omega)
    generalize getW bs g3 4 true = y at *
    obtain ⟨y1, y2, y3⟩ := y
    simp only at H2 HX hle2
    clear HS
    go_wp2_with fail
    refine (unhide H2).mono ?_
    rintro e w2 ⟨rfl, s2⟩
    have S2 := hide s2
    clear s2 H2
    obtain ⟨⟨x0, x1, x2, x3, x4⟩, fx, ⟨r0, r1, r2, r3, r4⟩, fr⟩ := (unhide S2).cells
    simp only at x0 x1 x2 x3 x4
    have S3 := hide ((unhide S2).set (y := ⟨3, [], y1, 0, 0⟩) H 2 (.int .i64 y1) rfl)

    clear S2
    go_upto_region 26 with fail
    generalize w2.setCell ⟨q, 2, none⟩ (.int .i64 y1) = W3 at *
    clear x0 x1 x2 x3 x4 fx r0 r1 r2 r3 r4 fr
    obtain ⟨⟨x0, x1, x2, x3, x4⟩, fx, ⟨r0, r1, r2, r3, r4⟩, fr⟩ := (unhide S3).cells
    simp only at x0 x1 x2 x3 x4
    have E := hide ((unhide S3).fin H (.int .i64 3) (.string ⟨#[]⟩) (.int .i64 y1) (.int .i64 0) (.int .i64 0))
    clear S3
    go_wp2
    refine bodyPost_ret (ent_results Try.results34 _ w.heap.size _ _ _ _ _ (by exact (unhide E).2) _ rfl) rfl ?_
    rw [unhide HX]
    exact ⟨⟨3, [], y1, 0, 0⟩, rfl, fun _ => rfl, (unhide E).1⟩
  by_cases t5 : g1 = 5
  case pos =>
    subst t5
    rw [if_neg (by decide), if_neg (by decide), if_pos rfl] at HX
    have H2 := hide ((unhide HS).get H (by omega) 8 (by decide) true)
    have hle2 := getW_le (bs := bs) (i := g3) (k := 8) (sg := true) (by omega)
    generalize getW bs g3 8 true = y at *
    obtain ⟨y1, y2, y3⟩ := y
    simp only at H2 HX hle2
    clear HS
    go_wp2_with fail
    refine (unhide H2).mono ?_
    rintro e w2 ⟨rfl, s2⟩
    have S2 := hide s2
    clear s2 H2
    obtain ⟨⟨x0, x1, x2, x3, x4⟩, fx, ⟨r0, r1, r2, r3, r4⟩, fr⟩ := (unhide S2).cells
    simp only at x0 x1 x2 x3 x4
    have S3 := hide ((unhide S2).set (y := ⟨5, [], y1, 0, 0⟩) H 2 (.int .i64 y1) rfl)

    clear S2
    go_upto_region 26 with fail
    generalize w2.setCell ⟨q, 2, none⟩ (.int .i64 y1) = W3 at *
    clear x0 x1 x2 x3 x4 fx r0 r1 r2 r3 r4 fr
    obtain ⟨⟨x0, x1, x2, x3, x4⟩, fx, ⟨r0, r1, r2, r3, r4⟩, fr⟩ := (unhide S3).cells
    simp only at x0 x1 x2 x3 x4
    have E := hide ((unhide S3).fin H (.int .i64 5) (.string ⟨#[]⟩) (.int .i64 y1) (.int .i64 0) (.int .i64 0))
    clear S3
    go_wp2
    refine bodyPost_ret (ent_results Try.results34 _ w.heap.size _ _ _ _ _ (by exact (unhide E).2) _ rfl) rfl ?_
    rw [unhide HX]
    exact ⟨⟨5, [], y1, 0, 0⟩, rfl, fun _ => rfl, (unhide E).1⟩
  by_cases t7 : g1 = 7
  case pos =>
    subst t7
    rw [if_neg (by decide), if_neg (by decide), if_neg (by decide), if_pos rfl] at HX
    have H2 := hide ((unhide HS).get H (by omega) 2 (by decide) false)
    have hle2 := getW_le (bs := bs) (i := g3) (k := 2) (sg := false) (by omega)
    generalize getW bs g3 2 false = y at *
    obtain ⟨y1, y2, y3⟩ := y
    simp only at H2 HX hle2
    clear HS
    go_wp2_with fail
    refine (unhide H2).mono ?_
    rintro e w2 ⟨rfl, s2⟩
    have S2 := hide s2
    clear s2 H2
    obtain ⟨⟨x0, x1, x2, x3, x4⟩, fx, ⟨r0, r1, r2, r3, r4⟩, fr⟩ := (unhide S2).cells
    simp only at x0 x1 x2 x3 x4
    have S3 := hide ((unhide S2).set (y := ⟨7, [], 0, y1, 0⟩) H 3 (.int .i64 y1) rfl)

    clear S2
    go_upto_region 26 with fail
    generalize w2.setCell ⟨q, 3, none⟩ (.int .i64 y1) = W3 at *
    clear x0 x1 x2 x3 x4 fx r0 r1 r2 r3 r4 fr
    obtain ⟨⟨x0, x1, x2, x3, x4⟩, fx, ⟨r0, r1, r2, r3, r4⟩, fr⟩ := (unhide S3).cells
    simp only at x0 x1 x2 x3 x4
    have E := hide ((unhide S3).fin H (.int .i64 7) (.string ⟨#[]⟩) (.int .i64 0) (.int .i64 y1) (.int .i64 0))
    clear S3
    go_wp2
    refine bodyPost_ret (ent_results Try.results34 _ w.heap.size _ _ _ _ _ (by exact (unhide E).2) _ rfl) rfl ?_
    rw [unhide HX]
    exact ⟨⟨7, [], 0, y1, 0⟩, rfl, fun _ => rfl, (unhide E).1⟩
  by_cases t9 : g1 = 9
  case pos =>
    subst t9
    rw [if_neg (by decide), if_neg (by decide), if_neg (by decide), if_neg (by decide), if_pos (by decide)] at HX
    have H2 := hide ((unhide HS).get H (by omega) 2 (by decide) false)
    have hle2 := getW_le (bs := bs) (i := g3) (k := 2) (sg := false) (by omega)
    generalize getW bs g3 2 false = y at *
    obtain ⟨y1, y2, y3⟩ := y
    simp only at H2 HX hle2
    clear HS
    go_wp2_with fail
    refine (unhide H2).mono ?_
    rintro e w2 ⟨rfl, s2⟩
    have S2 := hide s2
    clear s2 H2
    obtain ⟨⟨x0, x1, x2, x3, x4⟩, fx, ⟨r0, r1, r2, r3, r4⟩, fr⟩ := (unhide S2).cells
    simp only at x0 x1 x2 x3 x4
    have S3 := hide ((unhide S2).set (y := ⟨9, [], 0, y1, 0⟩) H 3 (.int .i64 y1) rfl)
    clear S2
    go_upto_region 24 with fail
    generalize w2.setCell ⟨q, 3, none⟩ (.int .i64 y1) = W3 at *
    clear x0 x1 x2 x3 x4 fx r0 r1 r2 r3 r4 fr
    by_cases h2 : y2 = 0
    case neg =>
      have h2' : (y2 == 0) = false := by simpa using h2
      rw [if_pos h2] at HX
      obtain ⟨⟨x0, x1, x2, x3, x4⟩, fx, ⟨r0, r1, r2, r3, r4⟩, fr⟩ := (unhide S3).cells
      simp only at x0 x1 x2 x3 x4
      have E := hide ((unhide S3).fin H (.int .i64 9) (.string ⟨#[]⟩) (.int .i64 0) (.int .i64 y1) (.int .i64 0))
      clear S3
      go_wp2
      refine bodyPost_ret (ent_results Try.results34 _ w.heap.size _ _ _ _ _ (by exact (unhide E).2) _ rfl) rfl ?_
      rw [unhide HX]
      exact ⟨⟨9, [], 0, y1, 0⟩, rfl, fun h => absurd h h2, (unhide E).1⟩
    subst h2
    rw [if_neg (by simp)] at HX
    have H4 := hide ((unhide S3).get H (by omega) 2 (by decide) false)
    generalize getW bs y3 2 false = u at *
    obtain ⟨u1, u2, u3⟩ := u
    simp only at H4 HX
    clear S3
    go_wp2_with fail
    refine (unhide H4).mono ?_
    rintro e w5 ⟨rfl, s5⟩
    have S5 := hide s5
    clear s5 H4
    obtain ⟨⟨x0, x1, x2, x3, x4⟩, fx, ⟨r0, r1, r2, r3, r4⟩, fr⟩ := (unhide S5).cells
    simp only at x0 x1 x2 x3 x4
    have S6 := hide ((unhide S5).set (y := ⟨9, [], 0, y1, u1⟩) H 4 (.int .i64 u1) rfl)
    clear S5
    go_upto_region 26 with fail
    generalize w5.setCell ⟨q, 4, none⟩ (.int .i64 u1) = W6 at *
    clear x0 x1 x2 x3 x4 fx r0 r1 r2 r3 r4 fr
    obtain ⟨⟨x0, x1, x2, x3, x4⟩, fx, ⟨r0, r1, r2, r3, r4⟩, fr⟩ := (unhide S6).cells
    simp only at x0 x1 x2 x3 x4
    have E := hide ((unhide S6).fin H (.int .i64 9) (.string ⟨#[]⟩) (.int .i64 0) (.int .i64 y1) (.int .i64 u1))
    clear S6
    go_wp2
    refine bodyPost_ret (ent_results Try.results34 _ w.heap.size _ _ _ _ _ (by exact (unhide E).2) _ rfl) rfl ?_
    rw [unhide HX]
    exact ⟨⟨9, [], 0, y1, u1⟩, rfl, fun _ => rfl, (unhide E).1⟩
  by_cases t10 : g1 = 10
  case pos =>
    subst t10
    rw [if_neg (by decide), if_neg (by decide), if_neg (by decide), if_neg (by decide), if_pos (by decide)] at HX
    have H2 := hide ((unhide HS).get H (by omega) 2 (by decide) false)
    have hle2 := getW_le (bs := bs) (i := g3) (k := 2) (sg := false) (by omega)
    generalize getW bs g3 2 false = y at *
    obtain ⟨y1, y2, y3⟩ := y
    simp only at H2 HX hle2
    clear HS
    go_wp2_with fail
    refine (unhide H2).mono ?_
    rintro e w2 ⟨rfl, s2⟩
    have S2 := hide s2
    clear s2 H2
    obtain ⟨⟨x0, x1, x2, x3, x4⟩, fx, ⟨r0, r1, r2, r3, r4⟩, fr⟩ := (unhide S2).cells
    simp only at x0 x1 x2 x3 x4
    have S3 := hide ((unhide S2).set (y := ⟨10, [], 0, y1, 0⟩) H 3 (.int .i64 y1) rfl)
    clear S2
    go_upto_region 24 with fail
    generalize w2.setCell ⟨q, 3, none⟩ (.int .i64 y1) = W3 at *
    clear x0 x1 x2 x3 x4 fx r0 r1 r2 r3 r4 fr
    by_cases h2 : y2 = 0
    case neg =>
      have h2' : (y2 == 0) = false := by simpa using h2
      rw [if_pos h2] at HX
      obtain ⟨⟨x0, x1, x2, x3, x4⟩, fx, ⟨r0, r1, r2, r3, r4⟩, fr⟩ := (unhide S3).cells
      simp only at x0 x1 x2 x3 x4
      have E := hide ((unhide S3).fin H (.int .i64 10) (.string ⟨#[]⟩) (.int .i64 0) (.int .i64 y1) (.int .i64 0))
      clear S3
      go_wp2
      refine bodyPost_ret (ent_results Try.results34 _ w.heap.size _ _ _ _ _ (by exact (unhide E).2) _ rfl) rfl ?_
      rw [unhide HX]
      exact ⟨⟨10, [], 0, y1, 0⟩, rfl, fun h => absurd h h2, (unhide E).1⟩
    subst h2
    rw [if_neg (by simp)] at HX
    have H4 := hide ((unhide S3).get H (by omega) 2 (by decide) false)
    generalize getW bs y3 2 false = u at *
    obtain ⟨u1, u2, u3⟩ := u
    simp only at H4 HX
    clear S3
    go_wp2_with fail
    refine (unhide H4).mono ?_
    rintro e w5 ⟨rfl, s5⟩
    have S5 := hide s5
    clear s5 H4
    obtain ⟨⟨x0, x1, x2, x3, x4⟩, fx, ⟨r0, r1, r2, r3, r4⟩, fr⟩ := (unhide S5).cells
    simp only at x0 x1 x2 x3 x4
    have S6 := hide ((unhide S5).set (y := ⟨10, [], 0, y1, u1⟩) H 4 (.int .i64 u1) rfl)
    clear S5
    go_upto_region 26 with fail
    generalize w5.setCell ⟨q, 4, none⟩ (.int .i64 u1) = W6 at *
    clear x0 x1 x2 x3 x4 fx r0 r1 r2 r3 r4 fr
    obtain ⟨⟨x0, x1, x2, x3, x4⟩, fx, ⟨r0, r1, r2, r3, r4⟩, fr⟩ := (unhide S6).cells
    simp only at x0 x1 x2 x3 x4
    have E := hide ((unhide S6).fin H (.int .i64 10) (.string ⟨#[]⟩) (.int .i64 0) (.int .i64 y1) (.int .i64 u1))
    clear S6
    go_wp2
    refine bodyPost_ret (ent_results Try.results34 _ w.heap.size _ _ _ _ _ (by exact (unhide E).2) _ rfl) rfl ?_
    rw [unhide HX]
    exact ⟨⟨10, [], 0, y1, u1⟩, rfl, fun _ => rfl, (unhide E).1⟩
  by_cases t12 : g1 = 12
  case pos =>
    subst t12
    rw [if_neg (by decide), if_neg (by decide), if_neg (by decide), if_neg (by decide), if_pos (by decide)] at HX
    have H2 := hide ((unhide HS).get H (by omega) 2 (by decide) false)
    have hle2 := getW_le (bs := bs) (i := g3) (k := 2) (sg := false) (by omega)
    generalize getW bs g3 2 false = y at *
    obtain ⟨y1, y2, y3⟩ := y
    simp only at H2 HX hle2
    clear HS
    go_wp2_with fail
    refine (unhide H2).mono ?_
    rintro e w2 ⟨rfl, s2⟩
    have S2 := hide s2
    clear s2 H2
    obtain ⟨⟨x0, x1, x2, x3, x4⟩, fx, ⟨r0, r1, r2, r3, r4⟩, fr⟩ := (unhide S2).cells
    simp only at x0 x1 x2 x3 x4
    have S3 := hide ((unhide S2).set (y := ⟨12, [], 0, y1, 0⟩) H 3 (.int .i64 y1) rfl)
    clear S2
    go_upto_region 24 with fail
    generalize w2.setCell ⟨q, 3, none⟩ (.int .i64 y1) = W3 at *
    clear x0 x1 x2 x3 x4 fx r0 r1 r2 r3 r4 fr
    by_cases h2 : y2 = 0
    case neg =>
      have h2' : (y2 == 0) = false := by simpa using h2
      rw [if_pos h2] at HX
      obtain ⟨⟨x0, x1, x2, x3, x4⟩, fx, ⟨r0, r1, r2, r3, r4⟩, fr⟩ := (unhide S3).cells
      simp only at x0 x1 x2 x3 x4
      have E := hide ((unhide S3).fin H (.int .i64 12) (.string ⟨#[]⟩) (.int .i64 0) (.int .i64 y1) (.int .i64 0))
      clear S3
      go_wp2
      refine bodyPost_ret (ent_results Try.results34 _ w.heap.size _ _ _ _ _ (by exact (unhide E).2) _ rfl) rfl ?_
      rw [unhide HX]
      exact ⟨⟨12, [], 0, y1, 0⟩, rfl, fun h => absurd h h2, (unhide E).1⟩
    subst h2
    rw [if_neg (by simp)] at HX
    have H4 := hide ((unhide S3).get H (by omega) 2 (by decide) false)
    generalize getW bs y3 2 false = u at *
    obtain ⟨u1, u2, u3⟩ := u
    simp only at H4 HX
    clear S3
    go_wp2_with fail
    refine (unhide H4).mono ?_
    rintro e w5 ⟨rfl, s5⟩
    have S5 := hide s5
    clear s5 H4
    obtain ⟨⟨x0, x1, x2, x3, x4⟩, fx, ⟨r0, r1, r2, r3, r4⟩, fr⟩ := (unhide S5).cells
    simp only at x0 x1 x2 x3 x4
    have S6 := hide ((unhide S5).set (y := ⟨12, [], 0, y1, u1⟩) H 4 (.int .i64 u1) rfl)
    clear S5
    go_upto_region 26 with fail
    generalize w5.setCell ⟨q, 4, none⟩ (.int .i64 u1) = W6 at *
    clear x0 x1 x2 x3 x4 fx r0 r1 r2 r3 r4 fr
    obtain ⟨⟨x0, x1, x2, x3, x4⟩, fx, ⟨r0, r1, r2, r3, r4⟩, fr⟩ := (unhide S6).cells
    simp only at x0 x1 x2 x3 x4
    have E := hide ((unhide S6).fin H (.int .i64 12) (.string ⟨#[]⟩) (.int .i64 0) (.int .i64 y1) (.int .i64 u1))
    clear S6
    go_wp2
    refine bodyPost_ret (ent_results Try.results34 _ w.heap.size _ _ _ _ _ (by exact (unhide E).2) _ rfl) rfl ?_
    rw [unhide HX]
    exact ⟨⟨12, [], 0, y1, u1⟩, rfl, fun _ => rfl, (unhide E).1⟩
  rw [if_neg t1, if_neg t3, if_neg t5, if_neg t7, if_neg (by omega)] at HX
  have b1 : (g1 == 1) = false := by simpa using t1
  have b3 : (g1 == 3) = false := by simpa using t3
  have b5 : (g1 == 5) = false := by simpa using t5
  have b7 : (g1 == 7) = false := by simpa using t7
  have b9 : (g1 == 9) = false := by simpa using t9
  have b10 : (g1 == 10) = false := by simpa using t10
  have b12 : (g1 == 12) = false := by simpa using t12
  clear t1 t3 t5 t7 t9 t10 t12
  obtain ⟨⟨x0, x1, x2, x3, x4⟩, fx, ⟨r0, r1, r2, r3, r4⟩, fr⟩ := (unhide HS).cells
  simp only at x0 x1 x2 x3 x4
  have E := hide ((unhide HS).fin H (.int .i64 g1) (.string ⟨#[]⟩) (.int .i64 0) (.int .i64 0) (.int .i64 0))
  clear HS
  go_wp2
  refine bodyPost_ret (ent_results Try.results34 _ w.heap.size _ _ _ _ _ (by exact (unhide E).2) _ rfl) rfl ?_
  rw [unhide HX]
  exact ⟨⟨g1, [], 0, 0, 0⟩, rfl, fun h => absurd h (by simp), (unhide E).1⟩

end Go.Proofs.Ytjpimcglojneaaa
