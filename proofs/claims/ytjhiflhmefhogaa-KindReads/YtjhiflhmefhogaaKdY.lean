/- The walk of KindReads. -/
import Derived.Test.YtjhiflhmefhogaaKdX
import Derived.Test.YtjhiflhmefhogaaKdU
namespace Go.Proofs.Ytjhiflhmefhogaa
open Go.RowKit
set_option linter.unusedVariables false
set_option maxRecDepth 100000

/-- What the law asks of a text of at most 2000 bytes. -/
structure RdOk (S : ByteArray) (s : List UInt8) (a b x y : Value) (pe me : Int) (LM : List Ty) (cb : Bool) : Prop where
  p1 : ∀ W, Calls Try.prog 9 #[.string S] W fun e w' => e = .returned (.tuple #[.agg #[a, b], .int .i64 pe]) ∧ Below W.heap.size W w'
  p2 : ∀ W, Calls Try.prog 10 #[.string S] W fun e w' => e = .returned (.tuple #[.agg #[a, b], .int .i64 pe]) ∧ Below W.heap.size W w'
  m1 : ∀ W, Calls Try.prog 11 #[.string S] W fun e w' => ∃ v, e = .returned (.tuple #[v, .agg #[x, y], .int .i64 me]) ∧ Orw tyc 23 2 w' W.heap.size v LM ∧ Below W.heap.size W w'
  m2 : ∀ W, Calls Try.prog 12 #[.string S] W fun e w' => ∃ v, e = .returned (.tuple #[v, .agg #[x, y], .int .i64 me]) ∧ Orw tyc 23 2 w' W.heap.size v LM ∧ Below W.heap.size W w'
  c1 : ∀ W, Calls Try.prog 14 #[.string S] W fun e w' => e = .returned (.bool cb) ∧ w' = W
  c2 : ∀ W, Calls Try.prog 15 #[.string S] W fun e w' => e = .returned (.bool cb) ∧ w' = W
  small : LM.length ≤ 2000
  fit : ∀ t ∈ LM, TyFit t
set_option maxHeartbeats 1600000 in
theorem kreads_short (w : World) (S : ByteArray) (s : List UInt8) (hS : Str S s) (hs : s.length ≤ 2000) (pk pe xk me : Int) (PN XN : ByteArray) (LM : List Ty) (cb : Bool) (R : RdOk S s (.int .i64 pk) (.string PN) (.int .i64 xk) (.string XN) pe me LM cb) :
    Calls Try.prog 3 #[.string S] w fun e w' => e = .returned (.bool true) ∧ Below w.heap.size w w' := by
  have hz := hS.size
  have h2 : ¬ (2000 : Int) < (s.length : Int) := by omega
  have h2' : (s.length : Int) ≤ 2000 := by omega
  have HR := hide R
  clear R hS
  generalize s.length = n at *
  go_enter Try.func3, Try.ntmps3
  go_wp2_with fail
  refine ((unhide HR).p1 w).mono ?_
  rintro e w1 ⟨rfl, f1⟩
  go_wp2_with fail
  refine ((unhide HR).p2 _).mono ?_
  rintro e w2 ⟨rfl, f2⟩
  go_wp2_with fail
  refine ((unhide HR).m1 _).mono ?_
  rintro e w3 ⟨v, rfl, o3, f3⟩
  go_wp2_with fail
  refine ((unhide HR).m2 _).mono ?_
  rintro e w4 ⟨u, rfl, o4, f4⟩
  have b1 : Bx2c (w1.alloc (.cells #[.int .i64 pk, .string PN] 23)) w1.heap.size (.int .i64 pk) (.string PN) := Bx2c.made _ _ _
  have b2 : Bx2c (w2.alloc (.cells #[.int .i64 pk, .string PN] 23)) w2.heap.size (.int .i64 pk) (.string PN) := Bx2c.made _ _ _
  have b3 : Bx2c (w3.alloc (.cells #[.int .i64 xk, .string XN] 23)) w3.heap.size (.int .i64 xk) (.string XN) := Bx2c.made _ _ _
  have b4 : Bx2c (w4.alloc (.cells #[.int .i64 xk, .string XN] 23)) w4.heap.size (.int .i64 xk) (.string XN) := Bx2c.made _ _ _
  have g1 : Below w.heap.size w (w1.alloc (.cells #[.int .i64 pk, .string PN] 23)) := bA f1 _
  have g2 : Below w.heap.size w (w2.alloc (.cells #[.int .i64 pk, .string PN] 23)) := bA (g1.trans (f2.mono g1.size)) _
  have g3 : Below w.heap.size w (w3.alloc (.cells #[.int .i64 xk, .string XN] 23)) := bA (g2.trans (f3.mono g2.size)) _
  have g4 : Below w.heap.size w (w4.alloc (.cells #[.int .i64 xk, .string XN] 23)) := bA (g3.trans (f4.mono g3.size)) _
  have k12 : Below (w1.alloc (.cells #[.int .i64 pk, .string PN] 23)).heap.size (w1.alloc (.cells #[.int .i64 pk, .string PN] 23)) (w2.alloc (.cells #[.int .i64 pk, .string PN] 23)) := bA f2 _
  have k23 : Below (w2.alloc (.cells #[.int .i64 pk, .string PN] 23)).heap.size (w2.alloc (.cells #[.int .i64 pk, .string PN] 23)) (w3.alloc (.cells #[.int .i64 xk, .string XN] 23)) := bA f3 _
  have k34 : Below (w3.alloc (.cells #[.int .i64 xk, .string XN] 23)).heap.size (w3.alloc (.cells #[.int .i64 xk, .string XN] 23)) (w4.alloc (.cells #[.int .i64 xk, .string XN] 23)) := bA f4 _
  have B1 := hide (((b1.keep k12).keep k23).keep k34)
  have B2 := hide ((b2.keep k23).keep k34)
  have B3 := hide (b3.keep k34)
  have B4 := hide b4
  have G4 := hide g4
  obtain ⟨va, vc, rfl, hv1, hv2, hv3⟩ := o3.form
  obtain ⟨ua, uc, rfl, hu1, hu2, hu3⟩ := o4.form
  have L3 : Ls 2 tyc (w4.alloc (.cells #[.int .i64 xk, .string XN] 23)) va LM.length LM := ((o3.ls rkT).below (bA (Below.refl _ _) _)).below k34
  have L4 : Ls 2 tyc (w4.alloc (.cells #[.int .i64 xk, .string XN] 23)) ua LM.length LM := (o4.ls rkT).below (bA (Below.refl _ _) _)
  have hsm : LM.length * 24 ≤ 140737488351232 := by have := (unhide HR).small; omega
  have HST := hide (SameTypes_same (w4.alloc (.cells #[.int .i64 xk, .string XN] 23)) ⟨va, LM.length, vc⟩ ⟨ua, LM.length, uc⟩ LM ⟨L3, hv2, hv3, hv1, hsm, (unhide HR).fit⟩ ⟨L4, hu2, hu3, hu1, hsm, (unhide HR).fit⟩)
  have J1 : ∀ W, (binOp .eql 23 (.agg #[.int .i64 pk, .string PN]) (.agg #[.int .i64 pk, .string PN])).run Try.prog W = .ok (.bool true) W := fun W => by rw [ty_cmp]; simp
  have J2 : ∀ W, (binOp .eql 23 (.agg #[.int .i64 xk, .string XN]) (.agg #[.int .i64 xk, .string XN])).run Try.prog W = .ok (.bool true) W := fun W => by rw [ty_cmp]; simp
  obtain ⟨c0, c1, _⟩ := (unhide B1).cells
  obtain ⟨d0, d1, _⟩ := (unhide B2).cells
  have HC1 := hide (unhide HR).c1
  have HC2 := hide (unhide HR).c2
  clear b1 b2 b3 b4 g1 g2 g3 g4 k12 k23 k34 o3 o4 L3 L4 hsm hv1 hv2 hv3 hu1 hu2 hu3 f1 f2 f3 f4 HR
  go_wp2_with fail
  refine (unhide HST).mono ?_
  rintro e w6 ⟨rfl, f6⟩
  have B3' := hide ((unhide B3).keep f6)
  have B4' := hide ((unhide B4).keep f6)
  have G6 := hide ((unhide G4).trans (f6.mono (unhide G4).size))
  clear c0 c1 d0 d1 f6
  obtain ⟨c0, c1, _⟩ := (unhide B3').cells
  obtain ⟨d0, d1, _⟩ := (unhide B4').cells
  go_wp2_with fail
  refine (unhide HC1 w6).mono ?_
  rintro e w' ⟨rfl, hw⟩
  rw [hw]
  clear hw
  go_wp2_with fail
  refine (unhide HC2 w6).mono ?_
  rintro e w' ⟨rfl, hw⟩
  rw [hw]
  clear hw
  go_wp2_with fail
  refine (works10_any w6).mono ?_
  rintro e w7 ⟨rfl, f7⟩
  have G7 := hide ((unhide G6).trans (f7.mono (unhide G6).size))
  go_wp2
  go_ret
  exact ⟨rfl, unhide G7⟩
set_option maxHeartbeats 1600000 in
theorem kreads_long (w : World) (S0 S : ByteArray) (s : List UInt8) (hS : Str S0 s) (hs : 2000 < s.length) (hcut : S0.extract 0 2000 = S) (pk pe xk me : Int) (PN XN : ByteArray) (LM : List Ty) (cb : Bool) (R : RdOk S (s.take 2000) (.int .i64 pk) (.string PN) (.int .i64 xk) (.string XN) pe me LM cb) :
    Calls Try.prog 3 #[.string S0] w fun e w' => e = .returned (.bool true) ∧ Below w.heap.size w w' := by
  have hz := hS.size
  have h2 : (2000 : Int) < (s.length : Int) := by omega
  have h2' : (2000 : Int) ≤ (s.length : Int) := by omega
  have h2'' : 2000 ≤ s.length := by omega
  have HR := hide R
  clear R hS
  generalize s.length = n at *
  go_enter Try.func3, Try.ntmps3
  go_wp2_with fail
  refine ((unhide HR).p1 w).mono ?_
  rintro e w1 ⟨rfl, f1⟩
  go_wp2_with fail
  refine ((unhide HR).p2 _).mono ?_
  rintro e w2 ⟨rfl, f2⟩
  go_wp2_with fail
  refine ((unhide HR).m1 _).mono ?_
  rintro e w3 ⟨v, rfl, o3, f3⟩
  go_wp2_with fail
  refine ((unhide HR).m2 _).mono ?_
  rintro e w4 ⟨u, rfl, o4, f4⟩
  have b1 : Bx2c (w1.alloc (.cells #[.int .i64 pk, .string PN] 23)) w1.heap.size (.int .i64 pk) (.string PN) := Bx2c.made _ _ _
  have b2 : Bx2c (w2.alloc (.cells #[.int .i64 pk, .string PN] 23)) w2.heap.size (.int .i64 pk) (.string PN) := Bx2c.made _ _ _
  have b3 : Bx2c (w3.alloc (.cells #[.int .i64 xk, .string XN] 23)) w3.heap.size (.int .i64 xk) (.string XN) := Bx2c.made _ _ _
  have b4 : Bx2c (w4.alloc (.cells #[.int .i64 xk, .string XN] 23)) w4.heap.size (.int .i64 xk) (.string XN) := Bx2c.made _ _ _
  have g1 : Below w.heap.size w (w1.alloc (.cells #[.int .i64 pk, .string PN] 23)) := bA f1 _
  have g2 : Below w.heap.size w (w2.alloc (.cells #[.int .i64 pk, .string PN] 23)) := bA (g1.trans (f2.mono g1.size)) _
  have g3 : Below w.heap.size w (w3.alloc (.cells #[.int .i64 xk, .string XN] 23)) := bA (g2.trans (f3.mono g2.size)) _
  have g4 : Below w.heap.size w (w4.alloc (.cells #[.int .i64 xk, .string XN] 23)) := bA (g3.trans (f4.mono g3.size)) _
  have k12 : Below (w1.alloc (.cells #[.int .i64 pk, .string PN] 23)).heap.size (w1.alloc (.cells #[.int .i64 pk, .string PN] 23)) (w2.alloc (.cells #[.int .i64 pk, .string PN] 23)) := bA f2 _
  have k23 : Below (w2.alloc (.cells #[.int .i64 pk, .string PN] 23)).heap.size (w2.alloc (.cells #[.int .i64 pk, .string PN] 23)) (w3.alloc (.cells #[.int .i64 xk, .string XN] 23)) := bA f3 _
  have k34 : Below (w3.alloc (.cells #[.int .i64 xk, .string XN] 23)).heap.size (w3.alloc (.cells #[.int .i64 xk, .string XN] 23)) (w4.alloc (.cells #[.int .i64 xk, .string XN] 23)) := bA f4 _
  have B1 := hide (((b1.keep k12).keep k23).keep k34)
  have B2 := hide ((b2.keep k23).keep k34)
  have B3 := hide (b3.keep k34)
  have B4 := hide b4
  have G4 := hide g4
  obtain ⟨va, vc, rfl, hv1, hv2, hv3⟩ := o3.form
  obtain ⟨ua, uc, rfl, hu1, hu2, hu3⟩ := o4.form
  have L3 : Ls 2 tyc (w4.alloc (.cells #[.int .i64 xk, .string XN] 23)) va LM.length LM := ((o3.ls rkT).below (bA (Below.refl _ _) _)).below k34
  have L4 : Ls 2 tyc (w4.alloc (.cells #[.int .i64 xk, .string XN] 23)) ua LM.length LM := (o4.ls rkT).below (bA (Below.refl _ _) _)
  have hsm : LM.length * 24 ≤ 140737488351232 := by have := (unhide HR).small; omega
  have HST := hide (SameTypes_same (w4.alloc (.cells #[.int .i64 xk, .string XN] 23)) ⟨va, LM.length, vc⟩ ⟨ua, LM.length, uc⟩ LM ⟨L3, hv2, hv3, hv1, hsm, (unhide HR).fit⟩ ⟨L4, hu2, hu3, hu1, hsm, (unhide HR).fit⟩)
  have J1 : ∀ W, (binOp .eql 23 (.agg #[.int .i64 pk, .string PN]) (.agg #[.int .i64 pk, .string PN])).run Try.prog W = .ok (.bool true) W := fun W => by rw [ty_cmp]; simp
  have J2 : ∀ W, (binOp .eql 23 (.agg #[.int .i64 xk, .string XN]) (.agg #[.int .i64 xk, .string XN])).run Try.prog W = .ok (.bool true) W := fun W => by rw [ty_cmp]; simp
  obtain ⟨c0, c1, _⟩ := (unhide B1).cells
  obtain ⟨d0, d1, _⟩ := (unhide B2).cells
  have HC1 := hide (unhide HR).c1
  have HC2 := hide (unhide HR).c2
  clear b1 b2 b3 b4 g1 g2 g3 g4 k12 k23 k34 o3 o4 L3 L4 hsm hv1 hv2 hv3 hu1 hu2 hu3 f1 f2 f3 f4 HR
  go_wp2_with fail
  refine (unhide HST).mono ?_
  rintro e w6 ⟨rfl, f6⟩
  have B3' := hide ((unhide B3).keep f6)
  have B4' := hide ((unhide B4).keep f6)
  have G6 := hide ((unhide G4).trans (f6.mono (unhide G4).size))
  clear c0 c1 d0 d1 f6
  obtain ⟨c0, c1, _⟩ := (unhide B3').cells
  obtain ⟨d0, d1, _⟩ := (unhide B4').cells
  go_wp2_with fail
  refine (unhide HC1 w6).mono ?_
  rintro e w' ⟨rfl, hw⟩
  rw [hw]
  clear hw
  go_wp2_with fail
  refine (unhide HC2 w6).mono ?_
  rintro e w' ⟨rfl, hw⟩
  rw [hw]
  clear hw
  go_wp2_with fail
  refine (works10_any w6).mono ?_
  rintro e w7 ⟨rfl, f7⟩
  have G7 := hide ((unhide G6).trans (f7.mono (unhide G6).size))
  go_wp2
  go_ret
  exact ⟨rfl, unhide G7⟩
theorem typeP_kind (s : List UInt8) : fitI (typeP s).kind := by
  unfold typeP fitI
  repeat' split
  all_goals simp
theorem Args.fit {r : List UInt8} {l : List Ty} {rest : List UInt8} (h : Args r l rest) : r.length ≤ 1000000 → ∀ x ∈ l, TyFit x := by
  induction h with
  | done r _ => intro _ x hx; simp at hx
  | step r l rest h0 _ ih =>
    intro hr x hx
    rcases List.mem_cons.1 hx with rfl | hx
    · refine ⟨typeP_kind _, ?_⟩
      have := typeP_len (r.take (sizeN r))
      rw [List.length_take] at this
      unfold fitS
      omega
    · exact ih (by rw [List.length_drop]; omega) x hx
theorem metP_fst (L : List Ty) (r : List UInt8) : (metP L r).1 = L ∨ (metP L r).1 = [] := by
  unfold metP
  repeat' split
  · exact .inr rfl
  · exact .inl rfl
  · exact .inr rfl
theorem rdOk_of (S : ByteArray) (s : List UInt8) (hS : Str S s) (hs : s.length ≤ 2000) : ∃ pk pe xk me PN XN LM cb, RdOk S s (.int .i64 pk) (.string PN) (.int .i64 xk) (.string XN) pe me LM cb := by
  obtain ⟨L, rest, hA⟩ := ArgsOf.there s
  refine ⟨(parP s).1.kind, (parP s).2, (metP L rest).2.1.kind, (metP L rest).2.2, ⟨(parP s).1.name.toArray⟩, ⟨(metP L rest).2.1.name.toArray⟩, (metP L rest).1, clsB s, ?_⟩
  have hl : (metP L rest).1.length ≤ 2000 ∧ ∀ t ∈ (metP L rest).1, TyFit t := by
    rcases metP_fst L rest with e | e
    · rw [e]
      have h1 := hA.len
      refine ⟨by omega, ?_⟩
      by_cases h2 : s[0]? = some 40
      · exact (hA.yes h2).fit (by rw [List.length_drop]; omega)
      · obtain ⟨rfl, _⟩ := hA.no h2
        intro t ht
        simp at ht
    · rw [e]
      exact ⟨by simp, fun t ht => by simp at ht⟩
  exact ⟨fun W => yParse_any W S s hS (by omega), fun W => x10Parse_any W S s hS (by omega), fun W => yMethod_any W S s hS (by omega) L rest hA, fun W => x10Method_any W S s hS (by omega) L rest hA, fun W => yClass_any W S s hS (by omega), fun W => x10Class_any W S s hS (by omega), hl.1, hl.2⟩
theorem kreads_walk (w : World) (s : List UInt8) (hs : nmFit s) :
    Calls Try.prog 3 #[.string ⟨s.toArray⟩] w fun e w' => e = .returned (.bool true) ∧ Below w.heap.size w w' := by
  obtain ⟨S, hS⟩ := Str.of s
  rw [← hS.eq]
  by_cases h : s.length ≤ 2000
  · obtain ⟨pk, pe, xk, me, PN, XN, LM, cb, R⟩ := rdOk_of S s hS h
    exact kreads_short w S s hS h pk pe xk me PN XN LM cb R
  · have hT : Str (S.extract 0 2000) (s.take 2000) := by
      have := hS.sub 0 2000
      simpa using this
    obtain ⟨pk, pe, xk, me, PN, XN, LM, cb, R⟩ := rdOk_of _ _ hT (by rw [List.length_take]; omega)
    exact kreads_long w S _ s hS (by omega) rfl pk pe xk me PN XN LM cb R
end Go.Proofs.Ytjhiflhmefhogaa
