/- The walk of KindElems. -/
import Derived.Test.YtjhiflhmefhogaaKdU
namespace Go.Proofs.Ytjhiflhmefhogaa
open Go.RowKit
set_option linter.unusedVariables false
set_option maxRecDepth 100000

theorem deep_front (s : List UInt8) (h : 8 ≤ deepN s) : s.take 8 = [91, 91, 91, 91, 91, 91, 91, 91] := by
  apply List.ext_getElem?
  intro i
  by_cases hi : i < 8
  · rw [List.getElem?_take, if_pos hi, deepN_lt s i (by omega)]
    have : i = 0 ∨ i = 1 ∨ i = 2 ∨ i = 3 ∨ i = 4 ∨ i = 5 ∨ i = 6 ∨ i = 7 := by omega
    rcases this with rfl | rfl | rfl | rfl | rfl | rfl | rfl | rfl <;> rfl
  · rw [List.getElem?_take, if_neg hi, List.getElem?_eq_none (by simp; omega)]
set_option maxHeartbeats 800000 in
theorem begins8 (w : World) (S : ByteArray) (s : List UInt8) (hS : Str S s) (h : 8 ≤ deepN s) : Calls Try.prog 30 #[.string S, .string ⟨#[91, 91, 91, 91, 91, 91, 91, 91]⟩] w fun e w' => e = .returned (.bool true) ∧ w' = w := by
  have hz := hS.size
  have hl := deepN_le s
  have h8 : (8 : Int) ≤ (s.length : Int) := by omega
  have h8' : 8 ≤ s.length := by omega
  have e1 : (S.extract 0 8).toList = [91, 91, 91, 91, 91, 91, 91, 91] := by
    have := (hS.sub 0 8).list
    simp only [List.drop_zero, Nat.sub_zero] at this
    rw [this, deep_front s h]
  clear hS h
  generalize s.length = n at *
  go_enter Try.func30, Try.ntmps30
  go_wp2
  all_goals
    go_ret
    exact ⟨ret_iff (by simp), rfl⟩
set_option maxHeartbeats 1600000 in
theorem kelems_walk (w : World) (t : Ty) (ht : TyIn t) :
    Calls Try.prog 8 #[tyV t] w fun e w' => e = .returned (.bool true) ∧ Below w.heap.size w w' := by
  obtain ⟨k, n⟩ := t
  obtain ⟨hk, hn⟩ := ht
  unfold nmFit at hn
  simp only at hn
  obtain ⟨N, hN⟩ := Str.of n
  show Calls _ _ #[.agg #[.int .i64 k, .string ⟨n.toArray⟩]] _ _
  rw [← hN.eq]
  have hzn := hN.size
  obtain ⟨w0, hw0⟩ : ∃ w0, w0 = w.alloc (.cells #[.int .i64 k, .string N] 23) := ⟨_, rfl⟩
  have HB : Hid (Bx2c w0 w.heap.size (.int .i64 k) (.string N)) := by rw [hw0]; exact Bx2c.made _ _ _
  have F0 : Hid (Below w.heap.size w w0) := by rw [hw0]; exact bA (Below.refl _ _) _
  have HW0 := hide hw0
  clear hw0
  go_enter Try.func8, Try.ntmps8
  go_wp2_with fail
  rw [← unhide HW0]
  refine (works10_any w0).mono ?_
  rintro e w1 ⟨rfl, f1⟩
  have HB1 := hide ((unhide HB).keep f1)
  have F1 := hide ((unhide F0).trans (f1.mono (unhide F0).size))
  obtain ⟨a0, a1, a2⟩ := (unhide HB1).cells
  clear f1 HB F0
  have HN := hide hN
  clear hN
  have HQ := hide (yPrint_any w1 k N n (unhide HN) (by omega))
  rcases prn_err ⟨k, n⟩ with hq | hq
  · have hpp := par_prn hq
    have hql : (prnP ⟨k, n⟩).1.length ≤ n.length + 2 := by
      have := spelP_len ⟨k, n⟩
      unfold prnP
      split
      · exact this
      · simp
    rw [hq] at HQ
    generalize (prnP ⟨k, n⟩).1 = pl at *
    obtain ⟨PL, hPL⟩ := Str.of pl
    rw [← hPL.eq] at HQ
    have HPL := hide hPL
    have hzp := hPL.size
    obtain ⟨hz1, hz2⟩ := parP_yes (s := pl) (by rw [hpp])
    have hte : typeP pl = ⟨k, n⟩ := by
      have := parP_ok hz1 hz2
      rw [hpp] at this
      injection this with this _
      exact this.symm
    have hel := elem_of hz1 hz2
    rw [hte] at hel
    have HEL := hide hel
    clear hel hte hpp hq hPL
    have hpos : (0 : Int) < (pl.length : Int) := by omega
    have hpos2 : ¬ (pl.length : Int) = 0 := by omega
    by_cases h5 : 500 < pl.length
    · have h5' : (500 : Int) < (pl.length : Int) := by omega
      go_wp2_with fail
      refine (unhide HQ).mono ?_
      rintro e wq ⟨rfl, fq⟩
      have Fq := hide ((unhide F1).trans (fq.mono (unhide F1).size))
      clear fq HQ
      go_wp2
      go_ret
      exact ⟨by first | rfl | (refine ret_iff ?_; simp; omega), unhide Fq⟩
    · have h5' : ¬ (500 : Int) < (pl.length : Int) := by omega
      have h5'' : (pl.length : Int) ≤ 500 := by omega
      have hcat : (⟨#[91]⟩ : ByteArray) ++ PL = ⟨(91 :: pl).toArray⟩ := by
        rw [(unhide HPL).eq]
        apply ByteArray.ext
        simp
      have HR0 : ∀ W, Calls Try.prog 9 #[.string ((⟨#[91]⟩ : ByteArray) ++ PL)] W fun e w' => e = .returned (.tuple #[tyV (parP (91 :: pl)).1, .int .i64 (parP (91 :: pl)).2]) ∧ Below W.heap.size W w' := fun W => by
        rw [hcat]
        exact yParse_any W _ (91 :: pl) ⟨rfl⟩ (by simp; omega)
      rcases unhide HEL with ⟨h8, hpb⟩ | ⟨hpb, heb⟩
      · have HR : Hid (∀ W, Calls Try.prog 9 #[.string ((⟨#[91]⟩ : ByteArray) ++ PL)] W fun e w' => e = .returned (.tuple #[.agg #[.int .i64 0, .string ⟨#[]⟩], .int .i64 100]) ∧ Below W.heap.size W w') := fun W => by
          have := HR0 W
          rw [hpb] at this
          exact this
        have HG : Hid (∀ W, Calls Try.prog 30 #[.string PL, .string ⟨#[91, 91, 91, 91, 91, 91, 91, 91]⟩] W fun e w' => e = .returned (.bool true) ∧ w' = W) := fun W => begins8 W PL pl (unhide HPL) h8
        clear HEL hpb h8 HR0 hcat
        go_wp2_with fail
        refine (unhide HQ).mono ?_
        rintro e wq ⟨rfl, fq⟩
        have Fq := hide ((unhide F1).trans (fq.mono (unhide F1).size))
        clear fq HQ
        go_wp2_with fail
        refine (unhide HR wq).mono ?_
        rintro e wr ⟨rfl, fr⟩
        have Fr : Hid (Below w.heap.size w (wr.alloc (.cells #[.int .i64 0, .string ⟨#[]⟩] 23))) := bA ((unhide Fq).trans (fr.mono (unhide Fq).size)) _
        clear fr HR
        go_wp2_with fail
        refine (unhide HG _).mono ?_
        rintro e w' ⟨rfl, hw⟩
        rw [hw]
        clear hw
        go_wp2
        go_ret
        exact ⟨rfl, unhide Fr⟩
      · obtain ⟨B, hB⟩ := Str.of (91 :: pl)
        have HR : Hid (∀ W, Calls Try.prog 9 #[.string ((⟨#[91]⟩ : ByteArray) ++ PL)] W fun e w' => e = .returned (.tuple #[.agg #[.int .i64 4, .string B], .int .i64 0]) ∧ Below W.heap.size W w') := fun W => by
          have := HR0 W
          rw [hpb] at this
          rw [hB.eq]
          exact this
        have HG : Hid (∀ W, Calls Try.prog 19 #[.agg #[.int .i64 4, .string B]] W fun e w' => e = .returned (.tuple #[.agg #[.int .i64 k, .string N], .int .i64 0]) ∧ Below W.heap.size W w') := fun W => by
          have := yElem_any W 4 B (91 :: pl) hB (by simp; omega)
          rw [heb] at this
          rw [(unhide HN).eq]
          exact this
        clear HEL hpb heb HR0 hcat hB
        go_wp2_with fail
        refine (unhide HQ).mono ?_
        rintro e wq ⟨rfl, fq⟩
        have HBq := hide ((unhide HB1).keep fq)
        have Fq := hide ((unhide F1).trans (fq.mono (unhide F1).size))
        clear fq HQ
        go_wp2_with fail
        refine (unhide HR wq).mono ?_
        rintro e wr ⟨rfl, fr⟩
        have HBr : Hid (Bx2c (wr.alloc (.cells #[.int .i64 4, .string B] 23)) w.heap.size _ _) := ((unhide HBq).keep fr).keep (bA (Below.refl _ _) _)
        have Fr : Hid (Below w.heap.size w (wr.alloc (.cells #[.int .i64 4, .string B] 23))) := bA ((unhide Fq).trans (fr.mono (unhide Fq).size)) _
        clear fr HR
        go_wp2_with fail
        refine (unhide HG _).mono ?_
        rintro e ws ⟨rfl, fs⟩
        have HBs : Hid (Bx2c (ws.alloc (.cells #[.int .i64 k, .string N] 23)) w.heap.size _ _) := ((unhide HBr).keep fs).keep (bA (Below.refl _ _) _)
        have Fs : Hid (Below w.heap.size w (ws.alloc (.cells #[.int .i64 k, .string N] 23))) := bA ((unhide Fr).trans (fs.mono (unhide Fr).size)) _
        have HYs : Hid (Bx2c (ws.alloc (.cells #[.int .i64 k, .string N] 23)) ws.heap.size _ _) := Bx2c.made _ _ _
        clear a0 a1 a2
        obtain ⟨b0, b1, b2⟩ := (unhide HBs).cells
        obtain ⟨c0, c1, c2⟩ := (unhide HYs).cells
        have JE : ∀ W, (binOp .eql 23 (.agg #[.int .i64 k, .string N]) (.agg #[.int .i64 k, .string N])).run Try.prog W = .ok (.bool true) W := fun W => by rw [ty_cmp]; simp
        clear fs HG
        go_wp2
        go_ret
        exact ⟨rfl, unhide Fs⟩
  · rw [hq] at HQ
    clear hq
    go_wp2_with fail
    refine (unhide HQ).mono ?_
    rintro e wq ⟨rfl, fq⟩
    have Fq := hide ((unhide F1).trans (fq.mono (unhide F1).size))
    clear fq HQ
    go_wp2
    go_ret
    exact ⟨rfl, unhide Fq⟩
end Go.Proofs.Ytjhiflhmefhogaa
