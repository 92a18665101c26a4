/- The landed May. -/
import Derived.Test.YtjhiflhmefhogaaJKsF

namespace Go.Proofs.Ytjhiflhmefhogaa
open Go.RowKit Go.Shelf
set_option linter.unusedVariables false
set_option maxRecDepth 100000

/-- May, of x whose name has at most f bytes. -/
def MayOk (f : Nat) : Prop := ∀ (w : World) (a : Option Addr) (n cap : Nat) (l : List Nc), Ls 5 ncc w a n l → n ≤ 40 → ∀ (X Y : ByteArray) (x y : Ty), Str X x.name → Str Y y.name → x.name.length ≤ f → x.name.length ≤ 140737488351232 → y.name.length ≤ 140737488351232 →
  Calls Try.prog 27 #[.slice a n cap, .agg #[.int .i64 x.kind, .string X], .agg #[.int .i64 y.kind, .string Y]] w fun e w' => e = .returned (.bool (mayP l f x y)) ∧ Below w.heap.size w w'
theorem elem_len (t : Ty) : (elemP t).1.name.length ≤ t.name.length - 1 := by
  unfold elemP
  repeat' split
  · simp
  · have := typeP_len (t.name.drop 1)
    simpa using this
  · simp [ty0]
theorem elem_shorter (t : Ty) (h : (elemP t).1.kind = 4) : (elemP t).1.name.length < t.name.length := by
  have h1 := elem_len t
  have h2 : 0 < t.name.length := by
    unfold elemP at h
    split at h
    · rename_i hc
      obtain ⟨s, hs⟩ := arr_cons hc.2.1
      rw [hs]
      simp
    · simp [ty0] at h
  omega
def arrP (l : List Nc) (f : Nat) (x y : Ty) : Bool := match f with
  | 0 => false
  | f + 1 => decide ((elemP x).1.kind = 4) && decide ((elemP y).1.kind = 4) && mayP l f (elemP x).1 (elemP y).1
set_option maxHeartbeats 1600000 in
theorem mayArray_any (f : Nat) (hM : ∀ g, g < f → MayOk g) (w : World) (a : Option Addr) (n cap : Nat) (l : List Nc) (hL : Ls 5 ncc w a n l) (hn : n ≤ 40) (X Y : ByteArray) (x y : Ty) (hX : Str X x.name) (hY : Str Y y.name) (hf : x.name.length ≤ f) (hx : x.name.length ≤ 140737488351232) (hy : y.name.length ≤ 140737488351232) (h0 : 0 < x.name.length) :
    Calls Try.prog 51 #[.slice a n cap, .agg #[.int .i64 x.kind, .string X], .agg #[.int .i64 y.kind, .string Y]] w fun e w' => e = .returned (.bool (arrP l f x y)) ∧ Below w.heap.size w w' := by
  obtain ⟨g, rfl⟩ : ∃ g, f = g + 1 := ⟨f - 1, by omega⟩
  obtain ⟨xk, xn⟩ := x
  obtain ⟨yk, yn⟩ := y
  simp only at hX hY hf hx hy h0
  have HE1 : Hid (∀ W, Calls Try.prog 19 #[.agg #[.int .i64 xk, .string X]] W fun e w' => e = .returned (.tuple #[tyV (elemP ⟨xk, xn⟩).1, .int .i64 (elemP ⟨xk, xn⟩).2]) ∧ Below W.heap.size W w') := fun W => yElem_any W xk X xn hX hx
  have HE2 : Hid (∀ W, Calls Try.prog 19 #[.agg #[.int .i64 yk, .string Y]] W fun e w' => e = .returned (.tuple #[tyV (elemP ⟨yk, yn⟩).1, .int .i64 (elemP ⟨yk, yn⟩).2]) ∧ Below W.heap.size W w') := fun W => yElem_any W yk Y yn hY hy
  have e1 := elem_len ⟨xk, xn⟩
  have e2 := elem_len ⟨yk, yn⟩
  simp only at e1 e2
  show Calls _ _ _ _ fun e w' => e = .returned (.bool (decide ((elemP ⟨xk, xn⟩).1.kind = 4) && decide ((elemP ⟨yk, yn⟩).1.kind = 4) && mayP l g (elemP ⟨xk, xn⟩).1 (elemP ⟨yk, yn⟩).1)) ∧ Below w.heap.size w w'
  generalize elemP ⟨xk, xn⟩ = ex at *
  generalize elemP ⟨yk, yn⟩ = ey at *
  obtain ⟨⟨ak, an⟩, ae⟩ := ex
  obtain ⟨⟨bk, bn⟩, be⟩ := ey
  unfold tyV at HE1 HE2
  simp only at HE1 HE2 e1 e2 ⊢
  obtain ⟨A, hA⟩ := Str.of an
  obtain ⟨B, hB⟩ := Str.of bn
  rw [← hA.eq] at HE1
  rw [← hB.eq] at HE2
  have HMY : Hid (∀ W, Below w.heap.size w W → Calls Try.prog 27 #[.slice a n cap, .agg #[.int .i64 ak, .string A], .agg #[.int .i64 bk, .string B]] W fun e w' => e = .returned (.bool (mayP l g ⟨ak, an⟩ ⟨bk, bn⟩)) ∧ Below W.heap.size W w') := fun W fW => hM g (by omega) W a n cap l (hL.below fW) hn A B ⟨ak, an⟩ ⟨bk, bn⟩ hA hB (by simp only; omega) (by simp only; omega) (by simp only; omega)
  clear hM hL hX hY hA hB
  obtain ⟨w0, hw0, hB1, hB2, f0⟩ : ∃ w0, w0 = (w.alloc (.cells #[.int .i64 xk, .string X] 23)).alloc (.cells #[.int .i64 yk, .string Y] 23) ∧ Bx2c w0 w.heap.size (.int .i64 xk) (.string X) ∧ Bx2c w0 (w.heap.size + 1) (.int .i64 yk) (.string Y) ∧ Below w.heap.size w w0 :=
    ⟨_, rfl, (Bx2c.made _ _ _).keep (bA (Below.refl _ _) _), by
      have := Bx2c.made (w.alloc (.cells #[.int .i64 xk, .string X] 23)) (.int .i64 yk) (.string Y)
      rw [show (w.alloc (.cells #[.int .i64 xk, .string X] 23)).heap.size = w.heap.size + 1 by simp] at this
      exact this, bA (bA (Below.refl _ _) _) _⟩
  have HW0 := hide hw0
  have BY := hide hB2
  have F0 := hide f0
  obtain ⟨x0, x1, x2⟩ := hB1.cells
  obtain ⟨z0, z1, z2⟩ := hB2.cells
  clear hw0 hB1 hB2 f0
  by_cases ha : ak = 4
  case neg =>
    have ha1 : (ak == 4) = false := by simpa using ha
    rw [decide_eq_false ha, Bool.false_and, Bool.false_and]
    go_enter Try.func51, Try.ntmps51
    go_wp2_with fail
    rw [← unhide HW0]
    refine (unhide HE1 w0).mono ?_
    rintro e w1 ⟨rfl, f1⟩
    have b1 : Bx2c (w1.alloc (.cells #[.int .i64 ak, .string A] 23)) (w.heap.size + 1) (.int .i64 yk) (.string Y) := ((unhide BY).keep f1).keep (bA (Below.refl _ _) _)
    have g1 : Below w.heap.size w (w1.alloc (.cells #[.int .i64 ak, .string A] 23)) := bA ((unhide F0).trans (f1.mono (unhide F0).size)) _
    have ba : Bx2c (w1.alloc (.cells #[.int .i64 ak, .string A] 23)) w1.heap.size (.int .i64 ak) (.string A) := Bx2c.made _ _ _
    obtain ⟨y0, y1, y2⟩ := b1.cells
    have BA := hide ba
    have G1 := hide g1
    clear f1 b1 g1 ba x0 x1 x2 z0 z1 z2
    go_wp2_with fail
    refine (unhide HE2 _).mono ?_
    rintro e w2 ⟨rfl, f2⟩
    have ba2 : Bx2c (w2.alloc (.cells #[.int .i64 bk, .string B] 23)) w1.heap.size (.int .i64 ak) (.string A) := ((unhide BA).keep f2).keep (bA (Below.refl _ _) _)
    have bb2 : Bx2c (w2.alloc (.cells #[.int .i64 bk, .string B] 23)) w2.heap.size (.int .i64 bk) (.string B) := Bx2c.made _ _ _
    have g2 : Below w.heap.size w (w2.alloc (.cells #[.int .i64 bk, .string B] 23)) := bA ((unhide G1).trans (f2.mono (unhide G1).size)) _
    clear y0 y1 y2
    obtain ⟨a0, a1, a2⟩ := ba2.cells
    obtain ⟨b0, b1, b2⟩ := bb2.cells
    have G2 := hide g2
    clear f2 ba2 bb2 g2
    go_wp2
    go_ret
    exact ⟨rfl, unhide G2⟩
  subst ha
  by_cases hb : bk = 4
  case neg =>
    have hb1 : (bk == 4) = false := by simpa using hb
    rw [decide_eq_false hb, Bool.and_false, Bool.false_and]
    go_enter Try.func51, Try.ntmps51
    go_wp2_with fail
    rw [← unhide HW0]
    refine (unhide HE1 w0).mono ?_
    rintro e w1 ⟨rfl, f1⟩
    have b1 : Bx2c (w1.alloc (.cells #[.int .i64 4, .string A] 23)) (w.heap.size + 1) (.int .i64 yk) (.string Y) := ((unhide BY).keep f1).keep (bA (Below.refl _ _) _)
    have g1 : Below w.heap.size w (w1.alloc (.cells #[.int .i64 4, .string A] 23)) := bA ((unhide F0).trans (f1.mono (unhide F0).size)) _
    have ba : Bx2c (w1.alloc (.cells #[.int .i64 4, .string A] 23)) w1.heap.size (.int .i64 4) (.string A) := Bx2c.made _ _ _
    obtain ⟨y0, y1, y2⟩ := b1.cells
    have BA := hide ba
    have G1 := hide g1
    clear f1 b1 g1 ba x0 x1 x2 z0 z1 z2
    go_wp2_with fail
    refine (unhide HE2 _).mono ?_
    rintro e w2 ⟨rfl, f2⟩
    have ba2 : Bx2c (w2.alloc (.cells #[.int .i64 bk, .string B] 23)) w1.heap.size (.int .i64 4) (.string A) := ((unhide BA).keep f2).keep (bA (Below.refl _ _) _)
    have bb2 : Bx2c (w2.alloc (.cells #[.int .i64 bk, .string B] 23)) w2.heap.size (.int .i64 bk) (.string B) := Bx2c.made _ _ _
    have g2 : Below w.heap.size w (w2.alloc (.cells #[.int .i64 bk, .string B] 23)) := bA ((unhide G1).trans (f2.mono (unhide G1).size)) _
    clear y0 y1 y2
    obtain ⟨a0, a1, a2⟩ := ba2.cells
    obtain ⟨b0, b1, b2⟩ := bb2.cells
    have G2 := hide g2
    clear f2 ba2 bb2 g2
    go_wp2
    go_ret
    exact ⟨rfl, unhide G2⟩
  subst hb
  rw [show (decide ((4 : Int) = 4) && decide ((4 : Int) = 4) && mayP l g ⟨4, an⟩ ⟨4, bn⟩) = mayP l g ⟨4, an⟩ ⟨4, bn⟩ by simp]
  generalize mayP l g ⟨4, an⟩ ⟨4, bn⟩ = mv at *
  go_enter Try.func51, Try.ntmps51
  go_wp2_with fail
  rw [← unhide HW0]
  refine (unhide HE1 w0).mono ?_
  rintro e w1 ⟨rfl, f1⟩
  have b1 : Bx2c (w1.alloc (.cells #[.int .i64 4, .string A] 23)) (w.heap.size + 1) (.int .i64 yk) (.string Y) := ((unhide BY).keep f1).keep (bA (Below.refl _ _) _)
  have g1 : Below w.heap.size w (w1.alloc (.cells #[.int .i64 4, .string A] 23)) := bA ((unhide F0).trans (f1.mono (unhide F0).size)) _
  have ba : Bx2c (w1.alloc (.cells #[.int .i64 4, .string A] 23)) w1.heap.size (.int .i64 4) (.string A) := Bx2c.made _ _ _
  obtain ⟨y0, y1, y2⟩ := b1.cells
  have BA := hide ba
  have G1 := hide g1
  clear f1 b1 g1 ba x0 x1 x2 z0 z1 z2
  go_wp2_with fail
  refine (unhide HE2 _).mono ?_
  rintro e w2 ⟨rfl, f2⟩
  have ba2 : Bx2c (w2.alloc (.cells #[.int .i64 4, .string B] 23)) w1.heap.size (.int .i64 4) (.string A) := ((unhide BA).keep f2).keep (bA (Below.refl _ _) _)
  have bb2 : Bx2c (w2.alloc (.cells #[.int .i64 4, .string B] 23)) w2.heap.size (.int .i64 4) (.string B) := Bx2c.made _ _ _
  have g2 : Below w.heap.size w (w2.alloc (.cells #[.int .i64 4, .string B] 23)) := bA ((unhide G1).trans (f2.mono (unhide G1).size)) _
  clear y0 y1 y2
  obtain ⟨a0, a1, a2⟩ := ba2.cells
  obtain ⟨b0, b1, b2⟩ := bb2.cells
  have G2 := hide g2
  clear f2 ba2 bb2 g2
  have HM2 := hide (unhide HMY _ (unhide G2))
  go_wp2_with fail
  refine (unhide HM2).mono ?_
  rintro e w3 ⟨rfl, f3⟩
  have G3 := hide ((unhide G2).trans (f3.mono (unhide G2).size))
  clear f3 HM2
  go_wp2
  go_ret
  exact ⟨by simp, unhide G3⟩
end Go.Proofs.Ytjhiflhmefhogaa
