/- The walk of KindOrder. -/
import Derived.Test.YtjhiflhmefhogaaJKsK

namespace Go.Proofs.Ytjhiflhmefhogaa
open Go.RowKit
set_option linter.unusedVariables false
set_option maxRecDepth 100000

theorem three_boxes (w : World) (x0 x1 y0 y1 z0 z1 : Value) : ∃ w0, w0 = ((w.alloc (.cells #[x0, x1] 23)).alloc (.cells #[y0, y1] 23)).alloc (.cells #[z0, z1] 23) ∧ Bx2c w0 w.heap.size x0 x1 ∧ Bx2c w0 (w.heap.size + 1) y0 y1 ∧ Bx2c w0 (w.heap.size + 1 + 1) z0 z1 ∧ Below w.heap.size w w0 := by
  refine ⟨_, rfl, ((Bx2c.made _ _ _).keep (bA (Below.refl _ _) _)).keep (bA (Below.refl _ _) _), ?_, ?_, bA (bA (bA (Below.refl _ _) _) _) _⟩
  · have t := Bx2c.made (w.alloc (.cells #[x0, x1] 23)) y0 y1
    rw [show (w.alloc (.cells #[x0, x1] 23)).heap.size = w.heap.size + 1 by simp] at t
    exact t.keep (bA (Below.refl _ _) _)
  · have t := Bx2c.made ((w.alloc (.cells #[x0, x1] 23)).alloc (.cells #[y0, y1] 23)) z0 z1
    rw [show ((w.alloc (.cells #[x0, x1] 23)).alloc (.cells #[y0, y1] 23)).heap.size = w.heap.size + 1 + 1 by simp] at t
    exact t
structure Bx3 (W : World) (B : Nat) (x y z : Ty) (X Y Z : ByteArray) : Prop where
  bx : Bx2c W B (.int .i64 x.kind) (.string X)
  by_ : Bx2c W (B + 1) (.int .i64 y.kind) (.string Y)
  bz : Bx2c W (B + 1 + 1) (.int .i64 z.kind) (.string Z)
theorem Bx3.keep {W W' : World} {B : Nat} {x y z : Ty} {X Y Z : ByteArray} (h : Bx3 W B x y z X Y Z) (f : Below W.heap.size W W') : Bx3 W' B x y z X Y Z := ⟨h.bx.keep f, h.by_.keep f, h.bz.keep f⟩
theorem Bx3.cells {W : World} {B : Nat} {x y z : Ty} {X Y Z : ByteArray} (h : Bx3 W B x y z X Y Z) : (W.cell? ⟨B, 0, none⟩ = some (.int .i64 x.kind) ∧ W.cell? ⟨B, 1, none⟩ = some (.string X)) ∧ (W.cell? ⟨B + 1, 0, none⟩ = some (.int .i64 y.kind) ∧ W.cell? ⟨B + 1, 1, none⟩ = some (.string Y)) ∧ (W.cell? ⟨B + 1 + 1, 0, none⟩ = some (.int .i64 z.kind) ∧ W.cell? ⟨B + 1 + 1, 1, none⟩ = some (.string Z)) :=
  ⟨⟨h.bx.cells.1, h.bx.cells.2.1⟩, ⟨h.by_.cells.1, h.by_.cells.2.1⟩, ⟨h.bz.cells.1, h.bz.cells.2.1⟩⟩
set_option maxHeartbeats 6400000 in
theorem korder_walk (w : World) (a : Option Addr) (n c : Nat) (l : List Nc) (hL : Ls 2 nc2 w a n l) (hn : n ≤ 140737488351232) (x y z : Ty) (hx : TyIn x) (hy : TyIn y) (hz : TyIn z) :
    Calls Try.prog 7 #[.slice a n c, tyV x, tyV y, tyV z] w fun e w' => e = .returned (.bool true) ∧ Below w.heap.size w w' := by
  have hx1 := hx.name
  have hy1 := hy.name
  have hz1 := hz.name
  unfold nmFit at hx1 hy1 hz1
  obtain ⟨X, hX⟩ := Str.of x.name
  obtain ⟨Y, hY⟩ := Str.of y.name
  obtain ⟨Z, hZ⟩ := Str.of z.name
  unfold tyV
  rw [← hX.eq, ← hY.eq, ← hZ.eq]
  obtain ⟨w0, hw0, b1, b2, b3, f0⟩ := three_boxes w (.int .i64 x.kind) (.string X) (.int .i64 y.kind) (.string Y) (.int .i64 z.kind) (.string Z)
  have HW0 := hide hw0
  have HB0 : Hid (Bx3 w0 w.heap.size x y z X Y Z) := ⟨b1, b2, b3⟩
  have F0 := hide f0
  have HP : Hid (∀ (t : Ty) (T : ByteArray), Str T t.name → t.name.length ≤ 140737488351232 → ∀ W, Calls Try.prog 17 #[.agg #[.int .i64 t.kind, .string T]] W fun e w' => e = .returned (.tuple #[.string ⟨(prnP t).1.toArray⟩, .int .i64 (prnP t).2]) ∧ Below W.heap.size W w') := fun t T hT ht W => yPrint_any W t.kind T t.name hT ht
  have HPX := hide (unhide HP x X hX hx1)
  have HPY := hide (unhide HP y Y hY hy1)
  have HPZ := hide (unhide HP z Z hZ hz1)
  have HMA : Hid (∀ (p q : Ty) (P Q : ByteArray), Str P p.name → Str Q q.name → p.name.length ≤ x.name.length + y.name.length → p.name.length ≤ 140737488351232 → q.name.length ≤ 140737488351232 → ∀ W va m vc, Ls 5 ncc W va m (l.take 40) → m ≤ 40 → Calls Try.prog 27 #[.slice va m vc, .agg #[.int .i64 p.kind, .string P], .agg #[.int .i64 q.kind, .string Q]] W fun e w' => e = .returned (.bool (mayP (l.take 40) (x.name.length + y.name.length) p q)) ∧ Below W.heap.size W w') := fun p q P Q hP hQ h1 h2 h3 W va m vc hLs hm => yMay_any _ W va m vc (l.take 40) hLs hm P Q p q hP hQ h1 h2 h3
  have HXX := hide (unhide HMA x x X X hX hX (by omega) hx1 hx1)
  have HXY := hide (unhide HMA x y X Y hX hY (by omega) hx1 hy1)
  have HYZ := hide (unhide HMA y z Y Z hY hZ (by omega) hy1 hz1)
  have HXZ := hide (unhide HMA x z X Z hX hZ (by omega) hx1 hz1)
  have HTR : Hid ((prnP x).2 = 0 → (prnP y).2 = 0 → (prnP z).2 = 0 → EndsAll (l.take 40) → (∀ c ∈ l.take 40, c.name = objN → c.sup = []) → mayP (l.take 40) (x.name.length + y.name.length) x y = true → mayP (l.take 40) (x.name.length + y.name.length) y z = true → mayP (l.take 40) (x.name.length + y.name.length) x z = true) := fun e1 e2 e3 hE hO m1 m2 => may_trans hE hO _ x y z e1 e2 e3 m1 m2
  have ex : (prnP x).2 = 0 ∨ (prnP x).2 = 100 := (prn_err x).imp id (fun h => by rw [h])
  have ey : (prnP y).2 = 0 ∨ (prnP y).2 = 100 := (prn_err y).imp id (fun h => by rw [h])
  have ez : (prnP z).2 = 0 ∨ (prnP z).2 = 100 := (prn_err z).imp id (fun h => by rw [h])
  have hself := may_self (l.take 40) (x.name.length + y.name.length) x
  rw [hself] at HXX
  generalize (prnP x).2 = px at *
  generalize (prnP y).2 = py at *
  generalize (prnP z).2 = pz at *
  generalize mayP (l.take 40) (x.name.length + y.name.length) x y = mxy at *
  generalize mayP (l.take 40) (x.name.length + y.name.length) y z = myz at *
  generalize mayP (l.take 40) (x.name.length + y.name.length) x z = mxz at *
  clear hself
  have HLs := hide hL
  clear hw0 b1 b2 b3 f0 hX hY hZ HP HMA hL
  go_enter Try.func7, Try.ntmps7
  go_wp2_with fail
  rw [← unhide HW0]
  refine (works10_any w0).mono ?_
  rintro e w1 ⟨rfl, f1⟩
  have HB1 := hide ((unhide HB0).keep f1)
  have F1 := hide ((unhide F0).trans (f1.mono (unhide F0).size))
  clear f1 HB0 F0
  have HCL := hide (classes10_any w1 a n c l ((unhide HLs).below (unhide F1)) hn)
  go_wp2_with fail
  refine (unhide HCL).mono ?_
  rintro e w2 ⟨v, rfl, ov, f2⟩
  have HB2 := hide ((unhide HB1).keep f2)
  have F2 := hide ((unhide F1).trans (f2.mono (unhide F1).size))
  obtain ⟨va, vc, rfl, _, _, _⟩ := ov.form
  have HV := hide (ov.ls rkN)
  obtain ⟨m, hm⟩ : ∃ m, (l.take 40).length = m := ⟨_, rfl⟩
  have hm40 : m ≤ 40 := by rw [← hm, List.length_take]; omega
  rw [hm] at HV ⊢
  have HMM := hide hm
  clear f2 HB1 F1 ov hm HCL
  obtain ⟨⟨q0, q1⟩, ⟨q2, q3⟩, ⟨q4, q5⟩⟩ := (unhide HB2).cells
  go_wp2_with fail
  refine (unhide HPX w2).mono ?_
  rintro e w3 ⟨rfl, f3⟩
  have HB3 := hide ((unhide HB2).keep f3)
  have F3 := hide ((unhide F2).trans (f3.mono (unhide F2).size))
  have HV3 := hide ((unhide HV).below f3)
  clear f3 HB2 F2 HV q0 q1 q2 q3 q4 q5
  obtain ⟨⟨q0, q1⟩, ⟨q2, q3⟩, ⟨q4, q5⟩⟩ := (unhide HB3).cells
  go_wp2_with fail
  refine (unhide HPY w3).mono ?_
  rintro e w4 ⟨rfl, f4⟩
  have HB4 := hide ((unhide HB3).keep f4)
  have F4 := hide ((unhide F3).trans (f4.mono (unhide F3).size))
  have HV4 := hide ((unhide HV3).below f4)
  clear f4 HB3 F3 HV3 q0 q1 q2 q3 q4 q5
  obtain ⟨⟨q0, q1⟩, ⟨q2, q3⟩, ⟨q4, q5⟩⟩ := (unhide HB4).cells
  go_wp2_with fail
  refine (unhide HPZ w4).mono ?_
  rintro e w5 ⟨rfl, f5⟩
  have HB5 := hide ((unhide HB4).keep f5)
  have F5 := hide ((unhide F4).trans (f5.mono (unhide F4).size))
  have HV5 := hide ((unhide HV4).below f5)
  clear f5 HB4 F4 HV4 q0 q1 q2 q3 q4 q5
  obtain ⟨⟨q0, q1⟩, ⟨q2, q3⟩, ⟨q4, q5⟩⟩ := (unhide HB5).cells
  rcases ex with rfl | rfl
  case inr =>
    go_wp2_with fail
    refine (unhide HXX w5 va m vc (unhide HV5) hm40).mono ?_
    rintro e w6 ⟨rfl, f6⟩
    have F6 := hide ((unhide F5).trans (f6.mono (unhide F5).size))
    clear f6
    go_wp2
    go_ret
    exact ⟨rfl, unhide F6⟩
  rcases ey with rfl | rfl
  case inr =>
    go_wp2_with fail
    refine (unhide HXX w5 va m vc (unhide HV5) hm40).mono ?_
    rintro e w6 ⟨rfl, f6⟩
    have F6 := hide ((unhide F5).trans (f6.mono (unhide F5).size))
    clear f6
    go_wp2
    go_ret
    exact ⟨rfl, unhide F6⟩
  rcases ez with rfl | rfl
  case inr =>
    go_wp2_with fail
    refine (unhide HXX w5 va m vc (unhide HV5) hm40).mono ?_
    rintro e w6 ⟨rfl, f6⟩
    have F6 := hide ((unhide F5).trans (f6.mono (unhide F5).size))
    clear f6
    go_wp2
    go_ret
    exact ⟨rfl, unhide F6⟩
  go_wp2
  go_loopw [16] (fun i wr => ∃ k : Nat, k ≤ m ∧ i = .int .i64 k ∧ wr = w5 ∧ Hid (∀ (j : Nat) c', j < k → (l.take 40)[j]? = some c' → c'.name = objN → c'.sup = [])) (fun i _ => m - (intOf i).toNat)
  case atStart => exact ⟨0, by omega, rfl, rfl, fun j c' h => by omega⟩
  case round =>
    obtain ⟨k, hk, rfl, rfl, HQ⟩ := hrel
    by_cases hlt : k < m
    · have hlt1 : (k : Int) < (m : Int) := by omega
      obtain ⟨b1, o1, h1a, h1⟩ := Ls.row (unhide HV5) (w' := wr) (by omega)
      subst h1a
      obtain ⟨c2, hc2⟩ : ∃ c2, (l.take 40)[k]? = some c2 := ⟨_, List.getElem?_eq_getElem (by have := unhide HMM; omega)⟩
      have s1 := (h1 (Below.refl _ _) k c2 hc2) 1 _ rfl
      have s2 := (h1 (Below.refl _ _) k c2 hc2) 2 _ rfl
      have HC2 := hide hc2
      clear hc2 h1
      by_cases hnm : c2.name = objN
      case neg =>
        have x1 : ¬ (⟨c2.name.toArray⟩ : ByteArray).toList = [79, 98, 106, 101, 99, 116] := by rw [(⟨rfl⟩ : Str ⟨c2.name.toArray⟩ c2.name).list]; exact hnm
        have x2 : ((⟨c2.name.toArray⟩ : ByteArray).toList == [79, 98, 106, 101, 99, 116]) = false := by simpa using x1
        have HQ' : Hid (∀ (j : Nat) c', j < k + 1 → (l.take 40)[j]? = some c' → c'.name = objN → c'.sup = []) := fun j c' hj hc' hf => by
          by_cases hjk : j = k
          · subst hjk
            rw [unhide HC2] at hc'
            injection hc' with hc'
            rw [← hc'] at hf
            exact absurd hf hnm
          · exact unhide HQ j c' (by omega) hc' hf
        generalize (⟨c2.name.toArray⟩ : ByteArray) = N2 at *
        clear HQ HC2 hnm
        go_wp2
        go_roundw
        case rel => exact ⟨k + 1, by omega, by go_num, (by first | rfl | trivial), HQ'⟩
        case measure => simp [intOf]; omega
      have e1 : (⟨c2.name.toArray⟩ : ByteArray) = ⟨#[79, 98, 106, 101, 99, 116]⟩ := by rw [hnm]; rfl
      rw [e1] at s1
      by_cases hsp : c2.sup = []
      case pos =>
        have e2 : (⟨c2.sup.toArray⟩ : ByteArray) = ⟨#[]⟩ := by rw [hsp]
        rw [e2] at s2
        have HQ' : Hid (∀ (j : Nat) c', j < k + 1 → (l.take 40)[j]? = some c' → c'.name = objN → c'.sup = []) := fun j c' hj hc' hf => by
          by_cases hjk : j = k
          · subst hjk
            rw [unhide HC2] at hc'
            injection hc' with hc'
            rw [← hc']
            exact hsp
          · exact unhide HQ j c' (by omega) hc' hf
        clear HQ HC2 e1 e2
        go_wp2
        go_roundw
        case rel => exact ⟨k + 1, by omega, by go_num, (by first | rfl | trivial), HQ'⟩
        case measure => simp [intOf]; omega
      obtain ⟨S2, hS2⟩ := Str.of c2.sup
      rw [← hS2.eq] at s2
      have z1 : ¬ S2.toList = [] := by rw [hS2.list]; exact hsp
      have z2 : S2.toList.isEmpty = false := by rw [hS2.list]; cases hcs : c2.sup with | nil => exact absurd hcs hsp | cons _ _ => rfl
      have z3 : (S2.toList == []) = false := by simpa using z1
      have z4 : (S2.toList != []) = true := by simpa using z1
      clear hS2 e1 HQ HC2
      go_wp2
      go_ret
      exact ⟨rfl, unhide F5⟩
    · obtain rfl : k = m := by omega
      have HOB : Hid (∀ c' ∈ l.take 40, c'.name = objN → c'.sup = []) := fun c' hc' hf => by
        obtain ⟨j, hj⟩ := List.getElem?_of_mem hc'
        exact unhide HQ j c' (by have := (List.getElem?_eq_some_iff.1 hj).1; have := unhide HMM; omega) hj hf
      clear HQ
      go_wp2_with fail
      refine (unhide HXX wr va k vc (unhide HV5) hm40).mono ?_
      rintro e w6 ⟨rfl, f6⟩
      have HB6 := hide ((unhide HB5).keep f6)
      have F6 := hide ((unhide F5).trans (f6.mono (unhide F5).size))
      have HV6 := hide ((unhide HV5).below f6)
      clear f6 HB5 F5 HV5 q0 q1 q2 q3 q4 q5
      obtain ⟨⟨q0, q1⟩, ⟨q2, q3⟩, ⟨q4, q5⟩⟩ := (unhide HB6).cells
      go_wp2_with fail
      refine (unhide HXY w6 va k vc (unhide HV6) hm40).mono ?_
      rintro e w7 ⟨rfl, f7⟩
      have HB7 := hide ((unhide HB6).keep f7)
      have F7 := hide ((unhide F6).trans (f7.mono (unhide F6).size))
      have HV7 := hide ((unhide HV6).below f7)
      clear f7 HB6 F6 HV6 q0 q1 q2 q3 q4 q5
      obtain ⟨⟨q0, q1⟩, ⟨q2, q3⟩, ⟨q4, q5⟩⟩ := (unhide HB7).cells
      cases mxy
      case false =>
        go_wp2
        go_ret
        exact ⟨rfl, unhide F7⟩
      go_wp2_with fail
      refine (unhide HYZ w7 va k vc (unhide HV7) hm40).mono ?_
      rintro e w8 ⟨rfl, f8⟩
      have HB8 := hide ((unhide HB7).keep f8)
      have F8 := hide ((unhide F7).trans (f8.mono (unhide F7).size))
      have HV8 := hide ((unhide HV7).below f8)
      clear f8 HB7 F7 HV7 q0 q1 q2 q3 q4 q5
      obtain ⟨⟨q0, q1⟩, ⟨q2, q3⟩, ⟨q4, q5⟩⟩ := (unhide HB8).cells
      cases myz
      case false =>
        go_wp2
        go_ret
        exact ⟨rfl, unhide F8⟩
      go_wp2_with fail
      refine (unhide HXZ w8 va k vc (unhide HV8) hm40).mono ?_
      rintro e w9 ⟨rfl, f9⟩
      have HB9 := hide ((unhide HB8).keep f9)
      have F9 := hide ((unhide F8).trans (f9.mono (unhide F8).size))
      have HV9 := hide ((unhide HV8).below f9)
      clear f9 HB8 F8 HV8 q0 q1 q2 q3 q4 q5
      obtain ⟨⟨q0, q1⟩, ⟨q2, q3⟩, ⟨q4, q5⟩⟩ := (unhide HB9).cells
      cases mxz
      case true =>
        go_wp2
        go_ret
        exact ⟨rfl, unhide F9⟩
      have HEN := hide (ends10_any w9 va k vc (l.take 40) (unhide HV9) hm40)
      go_wp2_with fail
      refine (unhide HEN).mono ?_
      rintro e w10 ⟨⟨b, rfl, hb⟩, f10⟩
      have F10 := hide ((unhide F9).trans (f10.mono (unhide F9).size))
      have hbf : b = false := by
        cases b with
        | false => rfl
        | true =>
          have := unhide HTR (by first | rfl | trivial) (by first | rfl | trivial) (by first | rfl | trivial) (hb rfl) (unhide HOB) (by first | rfl | trivial) (by first | rfl | trivial)
          cases this
      subst hbf
      clear hb f10 HEN
      go_wp2
      go_ret
      exact ⟨rfl, unhide F10⟩
theorem nc_cells {H : Type} {enc : TypeId × Value → H} {w : World} {base : Nat} (n : Nat) (cs : List Value) (x : DataW H × List MemPlace)
    (h : DataW.trod enc Try.prog w base (fun _ => true) true n 66 cs = some x) (hw : ∀ m ∈ x.1.weights Try.prog 66, m ≤ reachBytes) :
    ∃ y : Nc, cs = nc2 y ∧ True := by
  have hl : cs.length = 2 := st_len Try.underlying66 (by kernel_rfl) h
  obtain ⟨_, y0, g0, w0⟩ := st_field Try.underlying66 h hw (i := 0) rfl
  obtain ⟨v0, c0, f0⟩ := str_leaf10 (o := 0) g0 w0
  obtain ⟨_, y1, g1, w1⟩ := st_field Try.underlying66 h hw (i := 1) rfl
  obtain ⟨v1, c1, f1⟩ := str_leaf10 (o := 1) g1 w1
  refine ⟨⟨v0, v1⟩, ?_, trivial⟩
  apply List.ext_getElem?
  intro i
  match i with
  | 0 => rw [c0]; rfl
  | 1 => rw [c1]; rfl
  | k + 2 => rw [List.getElem?_eq_none (by omega)]; rfl
theorem ncs_arg {H : Type} {enc : TypeId × Value → H} {W : World} {base : Nat} {a : Option Addr} {n c : Nat} {d : DataW H} {p : List MemPlace}
    (h : DataW.Trod enc Try.prog W base (fun _ => true) true 39 (.slice a n c) d p) (hw : ∀ m ∈ d.weights Try.prog 39, m ≤ reachBytes) : ∃ l : List Nc, Ls 2 nc2 W a n l ∧ n ≤ 140737488351232 := by
  obtain ⟨l, h1⟩ := lin_open (s := ⟨a, n, c⟩) (size := 2) (by_ := 32) (ok := fun _ : Nc => True) (val := nc2) Try.underlying39 (by kernel_rfl) (by kernel_rfl) (by decide) (fun _ => rfl) (fun _ => ⟨_, rfl⟩) (fun n cs x h hw => nc_cells n cs x h hw) h hw
  exact ⟨l, h1.ls, by have := h1.small; simp only at this; omega⟩
end Go.Proofs.Ytjhiflhmefhogaa
