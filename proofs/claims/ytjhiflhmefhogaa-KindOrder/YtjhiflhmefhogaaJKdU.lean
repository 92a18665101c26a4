/- Types and texts that came in, opened; the walk of KindBack. -/
import Derived.Test.YtjhiflhmefhogaaJKdS
import Derived.Test.YtjhiflhmefhogaaJClC

namespace Go.Proofs.Ytjhiflhmefhogaa
open Go.ChangeShapes Go.WideShapes Go.ChangeAt Go.RowKit
set_option linter.unusedVariables false
set_option maxRecDepth 100000

def nmFit (s : List UInt8) : Prop := s.length ≤ 140737488351232
structure TyIn (t : Ty) : Prop where
  kind : fitI t.kind
  name : nmFit t.name
theorem str_leaf10 {H : Type} {enc : TypeId × Value → H} {w : World} {base m o : Nat} {cs : List Value} {y : DataW H × List MemPlace}
    (h : DataW.trod enc Try.prog w base (fun _ => true) true m 9 ((cs.drop o).take (Try.prog.cellsOf 9)) = some y) (hw : ∀ k ∈ y.1.weights Try.prog 9, k ≤ reachBytes) : ∃ s : List UInt8, cs[o]? = some (.string ⟨s.toArray⟩) ∧ nmFit s := by
  rw [cellsS7] at h
  obtain ⟨s, e1, hx1, hs⟩ := DataW.trod_string Try.underlying9 h
  refine ⟨s.data.toList, ?_, ?_⟩
  · rw [take_one e1]
  · have hm := hw s.data.toList.length (by rw [hx1]; simp [DataW.weights])
    unfold reachBytes at hm
    exact hm
theorem ty_cells10 {H : Type} {enc : TypeId × Value → H} {w : World} {base : Nat} (n : Nat) (cs : List Value) (x : DataW H × List MemPlace)
    (h : DataW.trod enc Try.prog w base (fun _ => true) true n 23 cs = some x) (hw : ∀ m ∈ x.1.weights Try.prog 23, m ≤ reachBytes) :
    ∃ y : Ty, cs = tyc y ∧ TyIn y := by
  have hl : cs.length = 2 := st_len Try.underlying23 (by kernel_rfl) h
  obtain ⟨_, y0, g0, w0⟩ := st_field Try.underlying23 h hw (i := 0) rfl
  obtain ⟨v0, c0, f0⟩ := int_leaf (o := 0) g0
  obtain ⟨_, y1, g1, w1⟩ := st_field Try.underlying23 h hw (i := 1) rfl
  obtain ⟨v1, c1, f1⟩ := str_leaf10 (o := 1) g1 w1
  refine ⟨⟨v0, v1⟩, ?_, ⟨f0, f1⟩⟩
  apply List.ext_getElem?
  intro i
  match i with
  | 0 => rw [c0]; rfl
  | 1 => rw [c1]; rfl
  | k + 2 => rw [List.getElem?_eq_none (by omega)]; rfl
theorem ty10_arg {H : Type} {enc : TypeId × Value → H} {W : World} {base b2 : Nat} {v : Value} {d : DataW H} {p : List MemPlace} (hv : Value.okWide Try.prog W .any b2 23 v)
    (h : DataW.Trod enc Try.prog W base (fun _ => true) true 23 v d p) (hw : ∀ m ∈ d.weights Try.prog 23, m ≤ reachBytes) : ∃ r : Ty, v = tyV r ∧ TyIn r := by
  obtain ⟨fuel, hf⟩ := h
  simp only [Value.okWide, Try.underlying23] at hv
  obtain ⟨cs, rfl, _⟩ := hv
  obtain ⟨r, hcs, hfit⟩ := ty_cells10 _ _ _ hf hw
  refine ⟨r, ?_, hfit⟩
  unfold tyV
  congr 1
  apply Array.toList_inj.1
  simpa [Value.cells, tyc] using hcs
theorem str10_arg {H : Type} {enc : TypeId × Value → H} {W : World} {base b2 : Nat} {v : Value} {d : DataW H} {p : List MemPlace} (hv : Value.okWide Try.prog W .any b2 9 v)
    (h : DataW.Trod enc Try.prog W base (fun _ => true) true 9 v d p) (hw : ∀ m ∈ d.weights Try.prog 9, m ≤ reachBytes) : ∃ s : List UInt8, v = .string ⟨s.toArray⟩ ∧ nmFit s := by
  obtain ⟨s, rfl, rfl, _, _⟩ := Go.ChangeMaps.open_string Try.underlying9 hv h
  have hm := hw s.data.toList.length (by simp [DataW.weights])
  unfold reachBytes at hm
  exact ⟨s.data.toList, rfl, hm⟩
theorem typeP_len (s : List UInt8) : (typeP s).name.length ≤ s.length := by
  unfold typeP
  repeat' split
  all_goals simp
  all_goals omega
theorem parP_len (s : List UInt8) : (parP s).1.name.length ≤ s.length := by
  unfold parP
  split
  · simp [ty0]
  · exact typeP_len s
set_option maxHeartbeats 1600000 in
theorem kback_walk (w : World) (s : List UInt8) (t : Ty) (hs : nmFit s) (ht : TyIn t) :
    Calls Try.prog 6 #[.string ⟨s.toArray⟩, tyV t] w fun e w' => e = .returned (.bool true) ∧ Below w.heap.size w w' := by
  obtain ⟨k, n⟩ := t
  obtain ⟨hk, hn⟩ := ht
  unfold nmFit at hs hn
  simp only at hn
  obtain ⟨S, hS⟩ := Str.of s
  obtain ⟨N, hN⟩ := Str.of n
  rw [← hS.eq]
  show Calls _ _ #[.string S, .agg #[.int .i64 k, .string ⟨n.toArray⟩]] _ _
  rw [← hN.eq]
  have hzs := hS.size
  have hzn := hN.size
  obtain ⟨w0, hw0⟩ : ∃ w0, w0 = w.alloc (.cells #[.int .i64 k, .string N] 23) := ⟨_, rfl⟩
  have HB : Hid (Bx2c w0 w.heap.size (.int .i64 k) (.string N)) := by rw [hw0]; exact Bx2c.made _ _ _
  have F0 : Hid (Below w.heap.size w w0) := by rw [hw0]; exact bA (Below.refl _ _) _
  have HW0 := hide hw0
  clear hw0
  go_enter Try.func6, Try.ntmps6
  go_wp2_with fail
  rw [← unhide HW0]
  refine (works10_any w0).mono ?_
  rintro e w1 ⟨rfl, f1⟩
  have HB1 := hide ((unhide HB).keep f1)
  have F1 := hide ((unhide F0).trans (f1.mono (unhide F0).size))
  obtain ⟨a0, a1, a2⟩ := (unhide HB1).cells
  clear f1 HB F0
  have HS := hide hS
  have HN := hide hN
  clear hS hN
  by_cases h1 : 2000 < s.length
  · have h1' : (2000 : Int) < (s.length : Int) := by omega
    go_wp2
    go_ret
    exact ⟨rfl, unhide F1⟩
  have h1' : ¬ (2000 : Int) < (s.length : Int) := by omega
  have h1'' : (s.length : Int) ≤ 2000 := by omega
  by_cases h2 : 2000 < n.length
  · have h2' : (2000 : Int) < (n.length : Int) := by omega
    go_wp2
    go_ret
    exact ⟨rfl, unhide F1⟩
  have h2' : ¬ (2000 : Int) < (n.length : Int) := by omega
  have h2'' : (n.length : Int) ≤ 2000 := by omega
  have HP := hide (yParse_any w1 S s (unhide HS) (by omega))
  have hpe := parP_err s
  have hpl := parP_len s
  have HPB : Hid ((parP s).2 = 0 → prnP (parP s).1 = (s, 0)) := fun h => prn_par h
  rcases hpp : parP s with ⟨⟨ak, an⟩, ae⟩
  rw [hpp] at HP hpe hpl HPB
  simp only at hpe hpl HPB
  obtain ⟨A, hA⟩ := Str.of an
  have HA := hide hA
  replace HP : Hid (Calls Try.prog 9 #[.string S] w1 fun e w' => e = .returned (.tuple #[.agg #[.int .i64 ak, .string A], .int .i64 ae]) ∧ Below w1.heap.size w1 w') := by
    rw [hA.eq]
    exact HP
  clear hA hpp
  go_wp2_with fail
  refine (unhide HP).mono ?_
  rintro e w2 ⟨rfl, f2⟩
  clear a0 a1 a2
  have HB2 : Hid (Bx2c (w2.alloc (.cells #[.int .i64 ak, .string A] 23)) w.heap.size _ _) := ((unhide HB1).keep f2).keep (bA (Below.refl _ _) _)
  have F2 : Hid (Below w.heap.size w (w2.alloc (.cells #[.int .i64 ak, .string A] 23))) := bA ((unhide F1).trans (f2.mono (unhide F1).size)) _
  have HY2 : Hid (Bx2c (w2.alloc (.cells #[.int .i64 ak, .string A] 23)) w2.heap.size _ _) := Bx2c.made _ _ _
  obtain ⟨a0, a1, a2⟩ := (unhide HB2).cells
  obtain ⟨e0, e1, e2⟩ := (unhide HY2).cells
  clear f2 HP HB1 F1
  rcases hpe with rfl | rfl
  · have HV := hide (yPrint_any (w2.alloc (.cells #[.int .i64 ak, .string A] 23)) ak A an (unhide HA) (by omega))
    rw [unhide HPB rfl] at HV
    simp only at HV
    rw [← (unhide HS).eq] at HV
    clear HPB
    go_wp2_with fail
    refine (unhide HV).mono ?_
    rintro e w3 ⟨rfl, f3⟩
    have HB3 := hide ((unhide HB2).keep f3)
    have F3 := hide ((unhide F2).trans (f3.mono (unhide F2).size))
    clear a0 a1 a2 e0 e1 e2
    obtain ⟨a0, a1, a2⟩ := (unhide HB3).cells
    clear f3 HV HB2 F2 HY2
    have HQ := hide (yPrint_any w3 k N n (unhide HN) (by omega))
    rcases prn_err ⟨k, n⟩ with hq | hq
    · have hpp := par_prn hq
      have hql : (prnP ⟨k, n⟩).1.length ≤ n.length + 2 := by
        have := spelP_len ⟨k, n⟩
        unfold prnP
        split
        · exact this
        · simp
      rw [hq] at HQ
      generalize (prnP ⟨k, n⟩).1 = pl at *
      obtain ⟨PL, hPL⟩ := Str.of pl
      rw [← hPL.eq] at HQ
      have HPL := hide hPL
      have HR : Hid (∀ W, Calls Try.prog 9 #[.string PL] W fun e w' => e = .returned (.tuple #[.agg #[.int .i64 k, .string N], .int .i64 0]) ∧ Below W.heap.size W w') := fun W => by
        have := yParse_any W PL pl hPL (by omega)
        rw [hpp] at this
        rw [(unhide HN).eq]
        exact this
      clear hPL hpp hq
      go_wp2_with fail
      refine (unhide HQ).mono ?_
      rintro e wq ⟨rfl, fq⟩
      have HBq := hide ((unhide HB3).keep fq)
      have Fq := hide ((unhide F3).trans (fq.mono (unhide F3).size))
      clear fq HQ
      go_wp2_with fail
      refine (unhide HR wq).mono ?_
      rintro e wr ⟨rfl, fr⟩
      have HBr : Hid (Bx2c (wr.alloc (.cells #[.int .i64 k, .string N] 23)) w.heap.size _ _) := ((unhide HBq).keep fr).keep (bA (Below.refl _ _) _)
      have Fr : Hid (Below w.heap.size w (wr.alloc (.cells #[.int .i64 k, .string N] 23))) := bA ((unhide Fq).trans (fr.mono (unhide Fq).size)) _
      have HYr : Hid (Bx2c (wr.alloc (.cells #[.int .i64 k, .string N] 23)) wr.heap.size _ _) := Bx2c.made _ _ _
      obtain ⟨b0, b1, b2⟩ := (unhide HBr).cells
      obtain ⟨c0, c1, c2⟩ := (unhide HYr).cells
      have JE : ∀ W, (binOp .eql 23 (.agg #[.int .i64 k, .string N]) (.agg #[.int .i64 k, .string N])).run Try.prog W = .ok (.bool true) W := fun W => by rw [ty_cmp]; simp
      clear fr HR
      go_wp2
      go_ret
      exact ⟨rfl, unhide Fr⟩
    · rw [hq] at HQ
      clear hq
      go_wp2_with fail
      refine (unhide HQ).mono ?_
      rintro e wq ⟨rfl, fq⟩
      have Fq := hide ((unhide F3).trans (fq.mono (unhide F3).size))
      clear fq HQ
      go_wp2
      go_ret
      exact ⟨rfl, unhide Fq⟩
  · clear HPB
    have HQ := hide (yPrint_any (w2.alloc (.cells #[.int .i64 ak, .string A] 23)) k N n (unhide HN) (by omega))
    rcases prn_err ⟨k, n⟩ with hq | hq
    · have hpp := par_prn hq
      have hql : (prnP ⟨k, n⟩).1.length ≤ n.length + 2 := by
        have := spelP_len ⟨k, n⟩
        unfold prnP
        split
        · exact this
        · simp
      rw [hq] at HQ
      generalize (prnP ⟨k, n⟩).1 = pl at *
      obtain ⟨PL, hPL⟩ := Str.of pl
      rw [← hPL.eq] at HQ
      have HPL := hide hPL
      have HR : Hid (∀ W, Calls Try.prog 9 #[.string PL] W fun e w' => e = .returned (.tuple #[.agg #[.int .i64 k, .string N], .int .i64 0]) ∧ Below W.heap.size W w') := fun W => by
        have := yParse_any W PL pl hPL (by omega)
        rw [hpp] at this
        rw [(unhide HN).eq]
        exact this
      clear hPL hpp hq
      go_wp2_with fail
      refine (unhide HQ).mono ?_
      rintro e wq ⟨rfl, fq⟩
      have HBq := hide ((unhide HB2).keep fq)
      have Fq := hide ((unhide F2).trans (fq.mono (unhide F2).size))
      clear fq HQ
      go_wp2_with fail
      refine (unhide HR wq).mono ?_
      rintro e wr ⟨rfl, fr⟩
      have HBr : Hid (Bx2c (wr.alloc (.cells #[.int .i64 k, .string N] 23)) w.heap.size _ _) := ((unhide HBq).keep fr).keep (bA (Below.refl _ _) _)
      have Fr : Hid (Below w.heap.size w (wr.alloc (.cells #[.int .i64 k, .string N] 23))) := bA ((unhide Fq).trans (fr.mono (unhide Fq).size)) _
      have HYr : Hid (Bx2c (wr.alloc (.cells #[.int .i64 k, .string N] 23)) wr.heap.size _ _) := Bx2c.made _ _ _
      obtain ⟨b0, b1, b2⟩ := (unhide HBr).cells
      obtain ⟨c0, c1, c2⟩ := (unhide HYr).cells
      have JE : ∀ W, (binOp .eql 23 (.agg #[.int .i64 k, .string N]) (.agg #[.int .i64 k, .string N])).run Try.prog W = .ok (.bool true) W := fun W => by rw [ty_cmp]; simp
      clear fr HR
      go_wp2
      go_ret
      exact ⟨rfl, unhide Fr⟩
    · rw [hq] at HQ
      clear hq
      go_wp2_with fail
      refine (unhide HQ).mono ?_
      rintro e wq ⟨rfl, fq⟩
      have Fq := hide ((unhide F2).trans (fq.mono (unhide F2).size))
      clear fq HQ
      go_wp2
      go_ret
      exact ⟨rfl, unhide Fq⟩
end Go.Proofs.Ytjhiflhmefhogaa
