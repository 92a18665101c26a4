/- The document's May. -/
import Derived.Test.YtjhiflhmefhogaaJKsO
import Derived.Test.YtjhiflhmefhogaaJKdN

namespace Go.Proofs.Ytjhiflhmefhogaa
open Go.RowKit Go.Shelf
set_option linter.unusedVariables false
set_option maxRecDepth 100000

def MayRk (f : Nat) : Prop := ∀ (w : World) (a : Option Addr) (n cap : Nat) (l : List Nc), Ls 5 ncc w a n l → n ≤ 40 → ∀ (X Y : ByteArray) (x y : Ty), Str X x.name → Str Y y.name → x.name.length ≤ f → x.name.length ≤ 140737488351232 → y.name.length ≤ 140737488351232 →
  Calls Try.prog 28 #[.slice a n cap, .agg #[.int .i64 x.kind, .string X], .agg #[.int .i64 y.kind, .string Y]] w fun e w' => e = .returned (.bool (mayP l f x y)) ∧ Below w.heap.size w w'
theorem elem_ok {t : Ty} (h : (elemP t).1.kind = 4) : (elemP t).2 = 0 := by
  unfold elemP at *
  split at h
  · split at h <;> simp_all
  · simp [ty0] at h
/-- The boxes of the two types. -/
theorem may_boxes (w : World) (kx ky : Int) (X Y : ByteArray) : ∃ w0, w0 = (w.alloc (.cells #[.int .i64 kx, .string X] 23)).alloc (.cells #[.int .i64 ky, .string Y] 23) ∧ Bx2c w0 w.heap.size (.int .i64 kx) (.string X) ∧ Bx2c w0 (w.heap.size + 1) (.int .i64 ky) (.string Y) ∧ Below w.heap.size w w0 := by
  refine ⟨_, rfl, (Bx2c.made _ _ _).keep (bA (Below.refl _ _) _), ?_, bA (bA (Below.refl _ _) _) _⟩
  have t := Bx2c.made (w.alloc (.cells #[.int .i64 kx, .string X] 23)) (.int .i64 ky) (.string Y)
  rw [show (w.alloc (.cells #[.int .i64 kx, .string X] 23)).heap.size = w.heap.size + 1 by simp] at t
  exact t
set_option maxHeartbeats 1600000 in
/-- Of two arrays. -/
theorem x10may_arr (f : Nat) (hM : ∀ g, g < f → MayRk g) (w : World) (a : Option Addr) (n cap : Nat) (l : List Nc) (hL : Ls 5 ncc w a n l) (hn : n ≤ 40) (X Y : ByteArray) (xn yn : List UInt8) (hX : Str X xn) (hY : Str Y yn) (hf : xn.length ≤ f) (hx : xn.length ≤ 140737488351232) (hy : yn.length ≤ 140737488351232) (h0 : 0 < xn.length)
    (JE : ∀ W, (binOp .eql 23 (.agg #[.int .i64 4, .string X]) (.agg #[.int .i64 4, .string Y])).run Try.prog W = .ok (.bool false) W) (hO : yn ≠ objN) (hax : arrB xn = true) (hay : arrB yn = true) :
    Calls Try.prog 28 #[.slice a n cap, .agg #[.int .i64 4, .string X], .agg #[.int .i64 4, .string Y]] w fun e w' => e = .returned (.bool (arrP l f ⟨4, xn⟩ ⟨4, yn⟩)) ∧ Below w.heap.size w w' := by
  have o1 : ¬ Y.toList = [79, 98, 106, 101, 99, 116] := by rw [hY.list]; exact hO
  have o2 : (Y.toList == [79, 98, 106, 101, 99, 116]) = false := by simpa using o1
  have HAX : Hid (∀ W, Calls Try.prog 40 #[.string X] W fun e w' => e = .returned (.bool true) ∧ w' = W) := fun W => by have := x10array_any W X xn hX; rw [hax] at this; exact this
  have HAY : Hid (∀ W, Calls Try.prog 40 #[.string Y] W fun e w' => e = .returned (.bool true) ∧ w' = W) := fun W => by have := x10array_any W Y yn hY; rw [hay] at this; exact this
  obtain ⟨g, rfl⟩ : ∃ g, f = g + 1 := ⟨f - 1, by omega⟩
  have HE1 : Hid (∀ W, Calls Try.prog 20 #[.agg #[.int .i64 4, .string X]] W fun e w' => e = .returned (.tuple #[tyV (elemP ⟨4, xn⟩).1, .int .i64 (elemP ⟨4, xn⟩).2]) ∧ Below W.heap.size W w') := fun W => x10Elem_any W 4 X xn hX hx
  have HE2 : Hid (∀ W, Calls Try.prog 20 #[.agg #[.int .i64 4, .string Y]] W fun e w' => e = .returned (.tuple #[tyV (elemP ⟨4, yn⟩).1, .int .i64 (elemP ⟨4, yn⟩).2]) ∧ Below W.heap.size W w') := fun W => x10Elem_any W 4 Y yn hY hy
  have e1 := elem_len ⟨4, xn⟩
  have e2 := elem_len ⟨4, yn⟩
  have k1 := @elem_ok ⟨4, xn⟩
  have k2 := @elem_ok ⟨4, yn⟩
  simp only at e1 e2
  show Calls _ _ _ _ fun e w' => e = .returned (.bool (decide ((elemP ⟨4, xn⟩).1.kind = 4) && decide ((elemP ⟨4, yn⟩).1.kind = 4) && mayP l g (elemP ⟨4, xn⟩).1 (elemP ⟨4, yn⟩).1)) ∧ Below w.heap.size w w'
  generalize elemP ⟨4, xn⟩ = ex at *
  generalize elemP ⟨4, yn⟩ = ey at *
  obtain ⟨⟨ak, an⟩, ae⟩ := ex
  obtain ⟨⟨bk, bn⟩, be⟩ := ey
  unfold tyV at HE1 HE2
  simp only at HE1 HE2 e1 e2 k1 k2 ⊢
  obtain ⟨A, hA⟩ := Str.of an
  obtain ⟨B, hB⟩ := Str.of bn
  rw [← hA.eq] at HE1
  rw [← hB.eq] at HE2
  have HMY : Hid (∀ W, Below w.heap.size w W → Calls Try.prog 28 #[.slice a n cap, .agg #[.int .i64 ak, .string A], .agg #[.int .i64 bk, .string B]] W fun e w' => e = .returned (.bool (mayP l g ⟨ak, an⟩ ⟨bk, bn⟩)) ∧ Below W.heap.size W w') := fun W fW => hM g (by omega) W a n cap l (hL.below fW) hn A B ⟨ak, an⟩ ⟨bk, bn⟩ hA hB (by simp only; omega) (by simp only; omega) (by simp only; omega)
  obtain ⟨R, hR⟩ : ∃ R, R = (decide (ak = 4) && decide (bk = 4) && mayP l g ⟨ak, an⟩ ⟨bk, bn⟩) := ⟨_, rfl⟩
  rw [← hR]
  have HR := hide hR
  clear hM hL hX hY hA hB hR
  generalize mayP l g ⟨ak, an⟩ ⟨bk, bn⟩ = mv at *
  obtain ⟨w0, hw0, hB1, hB2, f0⟩ := may_boxes w 4 4 X Y
  have HW0 := hide hw0
  have BY := hide hB2
  have F0 := hide f0
  obtain ⟨x0, x1, x2⟩ := hB1.cells
  obtain ⟨z0, z1, z2⟩ := hB2.cells
  clear hw0 hB1 hB2 f0
  go_enter Try.func28, Try.ntmps28
  go_wp2_with fail
  rw [← unhide HW0]
  refine (unhide HAX _).mono ?_
  rintro e w1 ⟨rfl, rfl⟩
  go_wp2_with fail
  refine (unhide HAY _).mono ?_
  rintro e w1 ⟨rfl, rfl⟩
  go_wp2_with fail
  refine (unhide HE1 _).mono ?_
  rintro e w2 ⟨rfl, f1⟩
  have b1 : Bx2c (w2.alloc (.cells #[.int .i64 ak, .string A] 23)) (w.heap.size + 1) (.int .i64 4) (.string Y) := ((unhide BY).keep f1).keep (bA (Below.refl _ _) _)
  have g1 : Below w.heap.size w (w2.alloc (.cells #[.int .i64 ak, .string A] 23)) := bA ((unhide F0).trans (f1.mono (unhide F0).size)) _
  have ba : Bx2c (w2.alloc (.cells #[.int .i64 ak, .string A] 23)) w2.heap.size (.int .i64 ak) (.string A) := Bx2c.made _ _ _
  obtain ⟨y0, y1, y2⟩ := b1.cells
  have BA := hide ba
  have G1 := hide g1
  clear f1 b1 g1 ba x0 x1 x2 z0 z1 z2
  go_wp2_with fail
  refine (unhide HE2 _).mono ?_
  rintro e w3 ⟨rfl, f2⟩
  have ba2 : Bx2c (w3.alloc (.cells #[.int .i64 bk, .string B] 23)) w2.heap.size (.int .i64 ak) (.string A) := ((unhide BA).keep f2).keep (bA (Below.refl _ _) _)
  have bb2 : Bx2c (w3.alloc (.cells #[.int .i64 bk, .string B] 23)) w3.heap.size (.int .i64 bk) (.string B) := Bx2c.made _ _ _
  have g2 : Below w.heap.size w (w3.alloc (.cells #[.int .i64 bk, .string B] 23)) := bA ((unhide G1).trans (f2.mono (unhide G1).size)) _
  clear y0 y1 y2
  obtain ⟨a0, a1, a2⟩ := ba2.cells
  obtain ⟨b0, b1, b2⟩ := bb2.cells
  have G2 := hide g2
  clear f2 ba2 bb2 g2
  by_cases ha : ak = 4
  case neg =>
    have ha1 : (ak == 4) = false := by simpa using ha
    have HRF : Hid (R = false) := by show R = false; rw [unhide HR, decide_eq_false ha]; rfl
    clear k1 k2
    by_cases hae : ae = 0
    · subst hae
      by_cases hbe : be = 0
      · subst hbe
        go_wp2
        go_ret
        exact ⟨congrArg (fun b => Ending.returned (.bool b)) (unhide HRF).symm, unhide G2⟩
      · have hbe1 : (be == 0) = false := by simpa using hbe
        go_wp2
        go_ret
        exact ⟨congrArg (fun b => Ending.returned (.bool b)) (unhide HRF).symm, unhide G2⟩
    · have hae1 : (ae == 0) = false := by simpa using hae
      go_wp2
      go_ret
      exact ⟨congrArg (fun b => Ending.returned (.bool b)) (unhide HRF).symm, unhide G2⟩
  subst ha
  have k1' := k1 rfl
  subst k1'
  clear k1
  by_cases hb : bk = 4
  case neg =>
    have hb1 : (bk == 4) = false := by simpa using hb
    have HRF : Hid (R = false) := by show R = false; rw [unhide HR, decide_eq_false hb]; simp
    clear k2
    by_cases hbe : be = 0
    · subst hbe
      go_wp2
      go_ret
      exact ⟨congrArg (fun b => Ending.returned (.bool b)) (unhide HRF).symm, unhide G2⟩
    · have hbe1 : (be == 0) = false := by simpa using hbe
      go_wp2
      go_ret
      exact ⟨congrArg (fun b => Ending.returned (.bool b)) (unhide HRF).symm, unhide G2⟩
  subst hb
  have k2' := k2 rfl
  subst k2'
  clear k2
  have HRF : Hid (R = mv) := by show R = mv; rw [unhide HR]; simp
  have HM2 := hide (unhide HMY _ (unhide G2))
  go_wp2_with fail
  refine (unhide HM2).mono ?_
  rintro e w4 ⟨rfl, f4⟩
  have G4 := hide ((unhide G2).trans (f4.mono (unhide G2).size))
  clear f4 HM2
  go_wp2
  go_ret
  exact ⟨congrArg (fun b => Ending.returned (.bool b)) (unhide HRF).symm, unhide G4⟩
end Go.Proofs.Ytjhiflhmefhogaa
