/- Joined: KsP KsQ SjJ. -/
import Derived.Test.YthenefjoidckkaaGreatDoorJSD
import Derived.Test.YthenefjoidckkaaGreatDoorJK3
import Derived.Test.YthenefjoidckkaaGreatDoorJB
import Derived.Test.YthenefjoidckkaaGreatDoorJS1

/- The document's May. -/
namespace Go.Proofs.YthenefjoidckkaaGreatDoor
open Go.RowKit Go.Shelf
set_option linter.unusedVariables false
set_option maxRecDepth 100000

def MayRk (f : Nat) : Prop := ∀ (w : World) (a : Option Addr) (n cap : Nat) (l : List Nc), Ls 5 ncc w a n l → n ≤ 40 → ∀ (X Y : ByteArray) (x y : Ty), Str X x.name → Str Y y.name → x.name.length ≤ f → x.name.length ≤ 140737488351232 → y.name.length ≤ 140737488351232 →
  Calls Tryz.prog 47 #[.slice a n cap, .agg #[.int .i64 x.kind, .string X], .agg #[.int .i64 y.kind, .string Y]] w fun e w' => e = .returned (.bool (mayP l f x y)) ∧ Below w.heap.size w w'
theorem elem_ok {t : Ty} (h : (elemP t).1.kind = 4) : (elemP t).2 = 0 := by
  unfold elemP at *
  split at h
  · split at h <;> simp_all
  · simp [ty0] at h
/-- The boxes of the two types. -/
theorem may_boxes (w : World) (kx ky : Int) (X Y : ByteArray) : ∃ w0, w0 = (w.alloc (.cells #[.int .i64 kx, .string X] 52)).alloc (.cells #[.int .i64 ky, .string Y] 52) ∧ Bx2c w0 w.heap.size (.int .i64 kx) (.string X) ∧ Bx2c w0 (w.heap.size + 1) (.int .i64 ky) (.string Y) ∧ Below w.heap.size w w0 := by
  refine ⟨_, rfl, (Bx2c.made _ _ _).keep (bA (Below.refl _ _) _), ?_, bA (bA (Below.refl _ _) _) _⟩
  have t := Bx2c.made (w.alloc (.cells #[.int .i64 kx, .string X] 52)) (.int .i64 ky) (.string Y)
  rw [show (w.alloc (.cells #[.int .i64 kx, .string X] 52)).heap.size = w.heap.size + 1 by simp] at t
  exact t
set_option maxHeartbeats 1600000 in
/-- Of two arrays. -/
theorem x10may_arr (f : Nat) (hM : ∀ g, g < f → MayRk g) (w : World) (a : Option Addr) (n cap : Nat) (l : List Nc) (hL : Ls 5 ncc w a n l) (hn : n ≤ 40) (X Y : ByteArray) (xn yn : List UInt8) (hX : Str X xn) (hY : Str Y yn) (hf : xn.length ≤ f) (hx : xn.length ≤ 140737488351232) (hy : yn.length ≤ 140737488351232) (h0 : 0 < xn.length)
    (JE : ∀ W, (binOp .eql 52 (.agg #[.int .i64 4, .string X]) (.agg #[.int .i64 4, .string Y])).run Tryz.prog W = .ok (.bool false) W) (hO : yn ≠ objN) (hax : arrB xn = true) (hay : arrB yn = true) :
    Calls Tryz.prog 47 #[.slice a n cap, .agg #[.int .i64 4, .string X], .agg #[.int .i64 4, .string Y]] w fun e w' => e = .returned (.bool (arrP l f ⟨4, xn⟩ ⟨4, yn⟩)) ∧ Below w.heap.size w w' := by
  have o1 : ¬ Y.toList = [79, 98, 106, 101, 99, 116] := by rw [hY.list]; exact hO
  have o2 : (Y.toList == [79, 98, 106, 101, 99, 116]) = false := by simpa using o1
  have HAX : Hid (∀ W, Calls Tryz.prog 48 #[.string X] W fun e w' => e = .returned (.bool true) ∧ w' = W) := fun W => by have := x10array_any W X xn hX; rw [hax] at this; exact this
  have HAY : Hid (∀ W, Calls Tryz.prog 48 #[.string Y] W fun e w' => e = .returned (.bool true) ∧ w' = W) := fun W => by have := x10array_any W Y yn hY; rw [hay] at this; exact this
  obtain ⟨g, rfl⟩ : ∃ g, f = g + 1 := ⟨f - 1, by omega⟩
  have HE1 : Hid (∀ W, Calls Tryz.prog 66 #[.agg #[.int .i64 4, .string X]] W fun e w' => e = .returned (.tuple #[tyV (elemP ⟨4, xn⟩).1, .int .i64 (elemP ⟨4, xn⟩).2]) ∧ Below W.heap.size W w') := fun W => x10Elem_any W 4 X xn hX hx
  have HE2 : Hid (∀ W, Calls Tryz.prog 66 #[.agg #[.int .i64 4, .string Y]] W fun e w' => e = .returned (.tuple #[tyV (elemP ⟨4, yn⟩).1, .int .i64 (elemP ⟨4, yn⟩).2]) ∧ Below W.heap.size W w') := fun W => x10Elem_any W 4 Y yn hY hy
  have e1 := elem_len ⟨4, xn⟩
  have e2 := elem_len ⟨4, yn⟩
  have k1 := @elem_ok ⟨4, xn⟩
  have k2 := @elem_ok ⟨4, yn⟩
  simp only at e1 e2
  show Calls _ _ _ _ fun e w' => e = .returned (.bool (decide ((elemP ⟨4, xn⟩).1.kind = 4) && decide ((elemP ⟨4, yn⟩).1.kind = 4) && mayP l g (elemP ⟨4, xn⟩).1 (elemP ⟨4, yn⟩).1)) ∧ Below w.heap.size w w'
  generalize elemP ⟨4, xn⟩ = ex at *
  generalize elemP ⟨4, yn⟩ = ey at *
  obtain ⟨⟨ak, an⟩, ae⟩ := ex
  obtain ⟨⟨bk, bn⟩, be⟩ := ey
  unfold tyV at HE1 HE2
  simp only at HE1 HE2 e1 e2 k1 k2 ⊢
  obtain ⟨A, hA⟩ := Str.of an
  obtain ⟨B, hB⟩ := Str.of bn
  rw [← hA.eq] at HE1
  rw [← hB.eq] at HE2
  have HMY : Hid (∀ W, Below w.heap.size w W → Calls Tryz.prog 47 #[.slice a n cap, .agg #[.int .i64 ak, .string A], .agg #[.int .i64 bk, .string B]] W fun e w' => e = .returned (.bool (mayP l g ⟨ak, an⟩ ⟨bk, bn⟩)) ∧ Below W.heap.size W w') := fun W fW => hM g (by omega) W a n cap l (hL.below fW) hn A B ⟨ak, an⟩ ⟨bk, bn⟩ hA hB (by simp only; omega) (by simp only; omega) (by simp only; omega)
  obtain ⟨R, hR⟩ : ∃ R, R = (decide (ak = 4) && decide (bk = 4) && mayP l g ⟨ak, an⟩ ⟨bk, bn⟩) := ⟨_, rfl⟩
  rw [← hR]
  have HR := hide hR
  clear hM hL hX hY hA hB hR
  generalize mayP l g ⟨ak, an⟩ ⟨bk, bn⟩ = mv at *
  obtain ⟨w0, hw0, hB1, hB2, f0⟩ := may_boxes w 4 4 X Y
  have HW0 := hide hw0
  have BY := hide hB2
  have F0 := hide f0
  obtain ⟨x0, x1, x2⟩ := hB1.cells
  obtain ⟨z0, z1, z2⟩ := hB2.cells
  clear hw0 hB1 hB2 f0
  go_enter Tryz.func47, Tryz.ntmps47
  go_wp2_with fail
  rw [← unhide HW0]
  refine (unhide HAX _).mono ?_
  rintro e w1 ⟨rfl, rfl⟩
  go_wp2_with fail
  refine (unhide HAY _).mono ?_
  rintro e w1 ⟨rfl, rfl⟩
  go_wp2_with fail
  refine (unhide HE1 _).mono ?_
  rintro e w2 ⟨rfl, f1⟩
  have b1 : Bx2c (w2.alloc (.cells #[.int .i64 ak, .string A] 52)) (w.heap.size + 1) (.int .i64 4) (.string Y) := ((unhide BY).keep f1).keep (bA (Below.refl _ _) _)
  have g1 : Below w.heap.size w (w2.alloc (.cells #[.int .i64 ak, .string A] 52)) := bA ((unhide F0).trans (f1.mono (unhide F0).size)) _
  have ba : Bx2c (w2.alloc (.cells #[.int .i64 ak, .string A] 52)) w2.heap.size (.int .i64 ak) (.string A) := Bx2c.made _ _ _
  obtain ⟨y0, y1, y2⟩ := b1.cells
  have BA := hide ba
  have G1 := hide g1
  clear f1 b1 g1 ba x0 x1 x2 z0 z1 z2
  go_wp2_with fail
  refine (unhide HE2 _).mono ?_
  rintro e w3 ⟨rfl, f2⟩
  have ba2 : Bx2c (w3.alloc (.cells #[.int .i64 bk, .string B] 52)) w2.heap.size (.int .i64 ak) (.string A) := ((unhide BA).keep f2).keep (bA (Below.refl _ _) _)
  have bb2 : Bx2c (w3.alloc (.cells #[.int .i64 bk, .string B] 52)) w3.heap.size (.int .i64 bk) (.string B) := Bx2c.made _ _ _
  have g2 : Below w.heap.size w (w3.alloc (.cells #[.int .i64 bk, .string B] 52)) := bA ((unhide G1).trans (f2.mono (unhide G1).size)) _
  clear y0 y1 y2
  obtain ⟨a0, a1, a2⟩ := ba2.cells
  obtain ⟨b0, b1, b2⟩ := bb2.cells
  have G2 := hide g2
  clear f2 ba2 bb2 g2
  by_cases ha : ak = 4
  case neg =>
    have ha1 : (ak == 4) = false := by simpa using ha
    have HRF : Hid (R = false) := by show R = false; rw [unhide HR, decide_eq_false ha]; rfl
    clear k1 k2
    by_cases hae : ae = 0
    · subst hae
      by_cases hbe : be = 0
      · subst hbe
        go_wp2
        go_ret
        exact ⟨congrArg (fun b => Ending.returned (.bool b)) (unhide HRF).symm, unhide G2⟩
      · have hbe1 : (be == 0) = false := by simpa using hbe
        go_wp2
        go_ret
        exact ⟨congrArg (fun b => Ending.returned (.bool b)) (unhide HRF).symm, unhide G2⟩
    · have hae1 : (ae == 0) = false := by simpa using hae
      go_wp2
      go_ret
      exact ⟨congrArg (fun b => Ending.returned (.bool b)) (unhide HRF).symm, unhide G2⟩
  subst ha
  have k1' := k1 rfl
  subst k1'
  clear k1
  by_cases hb : bk = 4
  case neg =>
    have hb1 : (bk == 4) = false := by simpa using hb
    have HRF : Hid (R = false) := by show R = false; rw [unhide HR, decide_eq_false hb]; simp
    clear k2
    by_cases hbe : be = 0
    · subst hbe
      go_wp2
      go_ret
      exact ⟨congrArg (fun b => Ending.returned (.bool b)) (unhide HRF).symm, unhide G2⟩
    · have hbe1 : (be == 0) = false := by simpa using hbe
      go_wp2
      go_ret
      exact ⟨congrArg (fun b => Ending.returned (.bool b)) (unhide HRF).symm, unhide G2⟩
  subst hb
  have k2' := k2 rfl
  subst k2'
  clear k2
  have HRF : Hid (R = mv) := by show R = mv; rw [unhide HR]; simp
  have HM2 := hide (unhide HMY _ (unhide G2))
  go_wp2_with fail
  refine (unhide HM2).mono ?_
  rintro e w4 ⟨rfl, f4⟩
  have G4 := hide ((unhide G2).trans (f4.mono (unhide G2).size))
  clear f4 HM2
  go_wp2
  go_ret
  exact ⟨congrArg (fun b => Ending.returned (.bool b)) (unhide HRF).symm, unhide G4⟩
end Go.Proofs.YthenefjoidckkaaGreatDoor

/- The document's May, whole. -/
namespace Go.Proofs.YthenefjoidckkaaGreatDoor
open Go.RowKit Go.Shelf
set_option linter.unusedVariables false
set_option maxRecDepth 100000

set_option maxHeartbeats 1600000 in
theorem x10may_obj (w : World) (v : Value) (X : ByteArray) (JE : ∀ W, (binOp .eql 52 (.agg #[.int .i64 4, .string X]) (.agg #[.int .i64 4, .string ⟨#[79, 98, 106, 101, 99, 116]⟩])).run Tryz.prog W = .ok (.bool false) W) :
    Calls Tryz.prog 47 #[v, .agg #[.int .i64 4, .string X], .agg #[.int .i64 4, .string ⟨objN.toArray⟩]] w fun e w' => e = .returned (.bool true) ∧ Below w.heap.size w w' := by
  show Calls Tryz.prog 47 #[v, .agg #[.int .i64 4, .string X], .agg #[.int .i64 4, .string ⟨#[79, 98, 106, 101, 99, 116]⟩]] w fun e w' => e = .returned (.bool true) ∧ Below w.heap.size w w'
  go_enter Tryz.func47, Tryz.ntmps47
  go_wp2
  go_ret
  exact ⟨rfl, bA (bA (Below.refl _ _) _) _⟩
set_option maxHeartbeats 1600000 in
/-- An array and a class. -/
theorem x10may_mix (w : World) (v : Value) (X Y : ByteArray) (xn yn : List UInt8) (hX : Str X xn) (hY : Str Y yn)
    (JE : ∀ W, (binOp .eql 52 (.agg #[.int .i64 4, .string X]) (.agg #[.int .i64 4, .string Y])).run Tryz.prog W = .ok (.bool false) W) (hO : yn ≠ objN) (hax : arrB xn ≠ arrB yn) :
    Calls Tryz.prog 47 #[v, .agg #[.int .i64 4, .string X], .agg #[.int .i64 4, .string Y]] w fun e w' => e = .returned (.bool false) ∧ Below w.heap.size w w' := by
  have o1 : ¬ Y.toList = [79, 98, 106, 101, 99, 116] := by rw [hY.list]; exact hO
  have o2 : (Y.toList == [79, 98, 106, 101, 99, 116]) = false := by simpa using o1
  have HAX : Hid (∀ W, Calls Tryz.prog 48 #[.string X] W fun e w' => e = .returned (.bool (arrB xn)) ∧ w' = W) := fun W => x10array_any W X xn hX
  have HAY : Hid (∀ W, Calls Tryz.prog 48 #[.string Y] W fun e w' => e = .returned (.bool (arrB yn)) ∧ w' = W) := fun W => x10array_any W Y yn hY
  clear hX hY hO
  generalize arrB xn = p at *
  generalize arrB yn = q at *
  cases p <;> cases q
  · exact absurd rfl hax
  · go_enter Tryz.func47, Tryz.ntmps47
    go_wp2_with fail
    refine (unhide HAX _).mono ?_
    rintro e w1 ⟨rfl, rfl⟩
    go_wp2_with fail
    refine (unhide HAX _).mono ?_
    rintro e w1 ⟨rfl, rfl⟩
    go_wp2_with fail
    refine (unhide HAY _).mono ?_
    rintro e w1 ⟨rfl, rfl⟩
    go_wp2
    go_ret
    exact ⟨rfl, bA (bA (Below.refl _ _) _) _⟩
  · go_enter Tryz.func47, Tryz.ntmps47
    go_wp2_with fail
    refine (unhide HAX _).mono ?_
    rintro e w1 ⟨rfl, rfl⟩
    go_wp2_with fail
    refine (unhide HAY _).mono ?_
    rintro e w1 ⟨rfl, rfl⟩
    go_wp2_with fail
    refine (unhide HAX _).mono ?_
    rintro e w1 ⟨rfl, rfl⟩
    go_wp2
    go_ret
    exact ⟨rfl, bA (bA (Below.refl _ _) _) _⟩
  · exact absurd rfl hax
theorem upF_few (l : List Nc) : ∀ (f : Nat) (met : List Nat) (p : Option Nat), met.Nodup → (∀ q ∈ met, q < l.length) → (∀ q, p = some q → q < l.length ∧ q ∉ met) → met.length + (upF l f met p).length ≤ l.length
  | 0, met, p, h1, h2, h3 => by simpa [upF] using nodup_le met _ h1 h2
  | f + 1, met, none, h1, h2, h3 => by simpa [upF] using nodup_le met _ h1 h2
  | f + 1, met, some p, h1, h2, h3 => by
    obtain ⟨hp, hpm⟩ := h3 p rfl
    have hnd : (p :: met).Nodup := List.nodup_cons.2 ⟨hpm, h1⟩
    have hlt : ∀ x ∈ p :: met, x < l.length := fun x hx => by
      rcases List.mem_cons.1 hx with rfl | hx
      · exact hp
      · exact h2 x hx
    have hle := nodup_le (p :: met) _ hnd hlt
    simp only [List.length_cons] at hle
    unfold upF
    split
    · simp; omega
    · split
      · simp; omega
      · rename_i q hq
        split
        · simp; omega
        · rename_i hm
          have := upF_few l f (p :: met) (some q) hnd hlt (fun q' e => by
            injection e with e
            subst e
            obtain ⟨_, _, _, hk⟩ := fstN_some hq
            exact ⟨hk, hm⟩)
          simp only [List.length_cons] at this ⊢
          omega
theorem upL_few (l : List Nc) (nm : List UInt8) : (upL l nm).length ≤ l.length := by
  have := upF_few l (l.length + 1) [] (fstN l nm) List.nodup_nil (fun q h => by simp at h) (fun q h => by obtain ⟨_, _, _, hk⟩ := fstN_some h; exact ⟨hk, by simp⟩)
  simpa [upL] using this
set_option maxHeartbeats 1600000 in
/-- Two classes. -/
theorem x10may_cls (w : World) (a : Option Addr) (n cap : Nat) (l : List Nc) (hL : Ls 5 ncc w a n l) (hn : n ≤ 40) (X Y : ByteArray) (xn yn : List UInt8) (hX : Str X xn) (hY : Str Y yn)
    (JE : ∀ W, (binOp .eql 52 (.agg #[.int .i64 4, .string X]) (.agg #[.int .i64 4, .string Y])).run Tryz.prog W = .ok (.bool false) W) (hO : yn ≠ objN) (hax : arrB xn = false) (hay : arrB yn = false) :
    Calls Tryz.prog 47 #[.slice a n cap, .agg #[.int .i64 4, .string X], .agg #[.int .i64 4, .string Y]] w fun e w' => e = .returned (.bool (decide (yn ∈ upL l xn))) ∧ Below w.heap.size w w' := by
  have o1 : ¬ Y.toList = [79, 98, 106, 101, 99, 116] := by rw [hY.list]; exact hO
  have o2 : (Y.toList == [79, 98, 106, 101, 99, 116]) = false := by simpa using o1
  have HAX : Hid (∀ W, Calls Tryz.prog 48 #[.string X] W fun e w' => e = .returned (.bool false) ∧ w' = W) := fun W => by have := x10array_any W X xn hX; rw [hax] at this; exact this
  have HAY : Hid (∀ W, Calls Tryz.prog 48 #[.string Y] W fun e w' => e = .returned (.bool false) ∧ w' = W) := fun W => by have := x10array_any W Y yn hY; rw [hay] at this; exact this
  have HAB : Hid (∀ W, Below w.heap.size w W → Calls Tryz.prog 34 #[.slice a n cap, .string X] W fun e w' => ∃ v, e = .returned v ∧ Orw stc 9 1 w' W.heap.size v (upL l xn) ∧ Below W.heap.size W w') := fun W f => x10Above_any W a n cap l (hL.below f) hn X xn hX
  have HYS := hide hY
  have HMU : Hid ((upL l xn).length ≤ 40) := by have h1 := (UR.start l xn).front; have := hL.1; show (upL l xn).length ≤ 40; exact Nat.le_trans (upL_few l xn) (by omega)
  obtain ⟨w0, hw0, hB1, hB2, f0⟩ := may_boxes w 4 4 X Y
  have HW0 := hide hw0
  have BY := hide hB2
  have F0 := hide f0
  obtain ⟨x0, x1, x2⟩ := hB1.cells
  obtain ⟨z0, z1, z2⟩ := hB2.cells
  clear hw0 hB1 hB2 f0 hL hX hY hO
  generalize hPO : (fun (e : Ending) (w' : World) => e = .returned (.bool (decide (yn ∈ upL l xn))) ∧ Below w.heap.size w w') = PO
  have HPO : Hid (∀ b w', b = decide (yn ∈ upL l xn) → Below w.heap.size w w' → PO (.returned (.bool b)) w') := fun b w' h1 h2 => by rw [← hPO, h1]; exact ⟨rfl, h2⟩
  clear hPO
  generalize upL l xn = U at *
  go_enter Tryz.func47, Tryz.ntmps47
  go_wp2_with fail
  rw [← unhide HW0]
  refine (unhide HAX _).mono ?_
  rintro e w1 ⟨rfl, rfl⟩
  go_wp2_with fail
  refine (unhide HAX _).mono ?_
  rintro e w1 ⟨rfl, rfl⟩
  go_wp2_with fail
  refine (unhide HAY _).mono ?_
  rintro e w1 ⟨rfl, rfl⟩
  go_wp2_with fail
  refine (unhide HAB _ (unhide F0)).mono ?_
  rintro e w2 ⟨v, rfl, hO, f2⟩
  obtain ⟨am, cm, rfl, _, hcm, _⟩ := hO.form
  have hls := hO.ls rkS
  obtain ⟨M, hM⟩ : ∃ M, M = U.length := ⟨_, rfl⟩
  rw [← hM] at hls hcm ⊢
  have HM := hide hM
  have HLS := hide hls
  have BY2 := hide ((unhide BY).keep f2)
  have F2 := hide ((unhide F0).trans (f2.mono (unhide F0).size))
  clear x0 x1 x2 z0 z1 z2 f2 hls hO hM
  go_wp2
  obtain ⟨SS, hSS⟩ : ∃ SS : World → Prop, SS = fun W => Below w2.heap.size w2 W := ⟨_, rfl⟩
  have KI : Hid (∀ W, Below w2.heap.size w2 W → SS W) := fun W f => by rw [hSS]; exact f
  have KB : Hid (∀ W, SS W → Below w2.heap.size w2 W) := fun W h => by rw [hSS] at h; exact h
  have hbd : M ≤ 140737488355328 := by have := unhide HMU; have := unhide HM; omega
  clear hSS
  go_loopw [12] (fun i W => ∃ k : Nat, k ≤ M ∧ i = .int .i64 k ∧ SS W ∧ Hid (∀ j x, j < k → U[j]? = some x → x ≠ yn)) (fun i _ => M - (intOf i).toNat)
  case atStart => exact ⟨0, by omega, rfl, unhide KI _ (Below.refl _ _), fun j x h => by omega⟩
  case round =>
    obtain ⟨k, hk, rfl, hSR, HR⟩ := hrel
    by_cases hlt : k < M
    · have hlt1 : (k : Int) < (M : Int) := by omega
      obtain ⟨b1, o1, h1a, h1⟩ := Ls.row (unhide HLS) (w' := w2) (by omega)
      subst h1a
      obtain ⟨r, hr⟩ : ∃ r, U[k]? = some r := ⟨_, List.getElem?_eq_getElem (by have := unhide HM; omega)⟩
      have HQ : Hid (∀ W, SS W → W.cell? ⟨b1, o1 + k, none⟩ = some (.string ⟨r.toArray⟩) ∧ Bx2c W (w.heap.size + 1) (.int .i64 4) (.string Y)) := fun W hW => by
        have q1 := (h1 (unhide KB W hW) k r hr) 0 _ rfl
        rw [Nat.mul_one, Nat.add_zero] at q1
        exact ⟨q1, (unhide BY2).keep (unhide KB W hW)⟩
      have HHR := hide hr
      clear h1 hr
      by_cases he : r = yn
      · have e4 : (⟨r.toArray⟩ : ByteArray) = Y := by rw [he, (unhide HYS).eq]
        rw [e4] at HQ
        have HF : Hid (true = decide (yn ∈ U)) := by
          show true = _
          symm
          rw [decide_eq_true_iff, ← he]
          exact List.mem_of_getElem? (unhide HHR)
        clear he e4 HR HHR
        go_wp2
        refine wp_region_seq SS (by kernel_rfl) (by kernel_rfl) (unhide KI _ (Below.drew (unhide KB _ hSR))) ?_
        repeat (first
          | (refine SeqDo.yields (v := ?_) (by rfl) ?_ ?_; rotate_left; (focus ((intro W hSW; obtain ⟨q1, q2, q3, q4⟩ := And.intro (unhide HQ W hSW).1 (unhide HQ W hSW).2.cells; go_simp) <;> with_reducible rfl)); simp only [Act.put, List.setIfInBounds_toArray, List.set_cons_zero, List.set_cons_succ]))
        intro W hSW
        have HB := hide ((unhide F2).trans ((unhide KB _ hSW).mono (unhide F2).size))
        go_wp2
        exact unhide HPO _ _ (unhide HF) (unhide HB)
      · obtain ⟨s1, s2, s3⟩ := str_ne (A := ⟨r.toArray⟩) (B := Y) ⟨rfl⟩ (unhide HYS) he
        have HR' : Hid (∀ (j : Nat) x, j < k + 1 → U[j]? = some x → x ≠ yn) := fun j x hj hx => by
          by_cases hjk : j = k
          · subst hjk
            rw [unhide HHR] at hx
            injection hx with hx
            rw [← hx]
            exact he
          · exact unhide HR j x (by omega) hx
        generalize (⟨r.toArray⟩ : ByteArray) = X' at *
        clear he HR HHR
        go_wp2
        refine wp_region_seq SS (by kernel_rfl) (by kernel_rfl) (unhide KI _ (Below.drew (unhide KB _ hSR))) ?_
        repeat (first
          | (refine SeqDo.yields (v := ?_) (by rfl) ?_ ?_; rotate_left; (focus ((intro W hSW; obtain ⟨q1, q2, q3, q4⟩ := And.intro (unhide HQ W hSW).1 (unhide HQ W hSW).2.cells; go_simp) <;> with_reducible rfl)); simp only [Act.put, List.setIfInBounds_toArray, List.set_cons_zero, List.set_cons_succ]))
        intro W hSW
        go_wp2
        go_roundw
        case rel => exact ⟨k + 1, by omega, by go_num, hSW, HR'⟩
        case measure => simp [intOf]; omega
    · obtain rfl : k = M := by omega
      have HF : Hid (false = decide (yn ∈ U)) := by
        show false = _
        symm
        rw [decide_eq_false_iff_not]
        intro h
        obtain ⟨j, hj⟩ := List.getElem?_of_mem h
        exact unhide HR j yn (by have := (List.getElem?_eq_some_iff.1 hj).1; have := unhide HM; omega) hj rfl
      have HB := hide ((unhide F2).trans ((unhide KB _ hSR).mono (unhide F2).size))
      clear HR
      go_wp2
      exact unhide HPO _ _ (unhide HF) (unhide HB)
set_option maxHeartbeats 1600000 in
/-- Not both references, or the same. -/
theorem x10may_flat (w : World) (v : Value) (X Y : ByteArray) (kx ky : Int) (de : Bool)
    (JE : ∀ W, (binOp .eql 52 (.agg #[.int .i64 kx, .string X]) (.agg #[.int .i64 ky, .string Y])).run Tryz.prog W = .ok (.bool de) W) (h : ky = 0 ∨ de = true ∨ ky ≠ 4 ∨ kx ≠ 4) :
    Calls Tryz.prog 47 #[v, .agg #[.int .i64 kx, .string X], .agg #[.int .i64 ky, .string Y]] w fun e w' => e = .returned (.bool (if ky = 0 ∨ de = true then true else if ky ≠ 4 then false else decide (kx = 3))) ∧ Below w.heap.size w w' := by
  have F0 : Hid (Below w.heap.size w ((w.alloc (.cells #[.int .i64 kx, .string X] 52)).alloc (.cells #[.int .i64 ky, .string Y] 52))) := bA (bA (Below.refl _ _) _) _
  by_cases y0 : ky = 0
  · subst y0
    rw [if_pos (.inl rfl)]
    clear h
    go_enter Tryz.func47, Tryz.ntmps47
    go_wp2
    go_ret
    exact ⟨rfl, unhide F0⟩
  have y0' : (ky == 0) = false := by simpa using y0
  cases de
  case true =>
    rw [if_pos (.inr rfl)]
    clear h
    go_enter Tryz.func47, Tryz.ntmps47
    go_wp2
    go_ret
    exact ⟨rfl, unhide F0⟩
  rw [if_neg (fun h => h.elim y0 (fun h => by cases h))]
  by_cases y4 : ky = 4
  case neg =>
    have y4' : (ky == 4) = false := by simpa using y4
    have y4'' : (ky != 4) = true := by simpa using y4
    rw [if_pos y4]
    clear h
    by_cases x3 : kx = 3
    · subst x3
      go_enter Tryz.func47, Tryz.ntmps47
      go_wp2
      go_ret
      exact ⟨rfl, unhide F0⟩
    have x3' : (kx == 3) = false := by simpa using x3
    by_cases x4 : kx = 4
    · subst x4
      go_enter Tryz.func47, Tryz.ntmps47
      go_wp2
      go_ret
      exact ⟨rfl, unhide F0⟩
    have x4' : (kx != 4) = true := by simpa using x4
    go_enter Tryz.func47, Tryz.ntmps47
    go_wp2
    go_ret
    exact ⟨rfl, unhide F0⟩
  subst y4
  rw [if_neg (by simp)]
  have x4 : kx ≠ 4 := by rcases h with h | h | h | h; exact absurd h (by decide); cases h; exact absurd rfl h; exact h
  clear h
  by_cases x3 : kx = 3
  · subst x3
    go_enter Tryz.func47, Tryz.ntmps47
    go_wp2
    go_ret
    exact ⟨rfl, unhide F0⟩
  have x3' : (kx == 3) = false := by simpa using x3
  have x4' : (kx != 4) = true := by simpa using x4
  rw [decide_eq_false x3]
  go_enter Tryz.func47, Tryz.ntmps47
  go_wp2
  go_ret
  exact ⟨rfl, unhide F0⟩
theorem x10may_step (f : Nat) (hM : ∀ g, g < f → MayRk g) : MayRk f := by
  intro w a n cap l hL hn X Y x y hX hY hf hx hy
  rw [mayP_is]
  have JE : ∀ W, (binOp .eql 52 (.agg #[.int .i64 x.kind, .string X]) (.agg #[.int .i64 y.kind, .string Y])).run Tryz.prog W = .ok (.bool (decide (x = y))) W := fun W => by
    rw [ty_cmp]
    congr 2
    rw [decide_eq_decide, hX.eq, hY.eq]
    obtain ⟨xk, xn⟩ := x
    obtain ⟨yk, yn⟩ := y
    simp
  obtain ⟨xk, xn⟩ := x
  obtain ⟨yk, yn⟩ := y
  simp only at *
  by_cases hc : yk = 0 ∨ decide ((⟨xk, xn⟩ : Ty) = ⟨yk, yn⟩) = true ∨ yk ≠ 4 ∨ xk ≠ 4
  · have := x10may_flat w (.slice a n cap) X Y xk yk _ JE hc
    refine this.mono ?_
    rintro e w' ⟨rfl, h⟩
    refine ⟨congrArg (fun b => Ending.returned (.bool b)) ?_, h⟩
    simp only [decide_eq_true_eq] at hc ⊢
    by_cases h1 : yk = 0 ∨ (⟨xk, xn⟩ : Ty) = ⟨yk, yn⟩
    · rw [if_pos h1, if_pos h1]
    · rw [if_neg h1, if_neg h1]
      by_cases h2 : yk ≠ 4
      · rw [if_pos h2, if_pos h2]
      · rw [if_neg h2, if_neg h2, if_pos (by rcases hc with h | h | h | h; exact absurd (.inl h) h1; exact absurd (.inr h) h1; exact absurd h h2; exact h)]
  · have hc' := hc
    simp only [decide_eq_true_eq, not_or, Decidable.not_not] at hc'
    obtain ⟨h1, h2, rfl, rfl⟩ := hc'
    rw [if_neg (fun h => h.elim h1 h2), if_neg (by simp), if_neg (by simp)]
    rw [decide_eq_false h2] at JE
    by_cases hO : yn = objN
    · subst hO
      rw [refP_yes (by rfl)]
      rw [hY.eq] at JE ⊢
      exact x10may_obj w _ X JE
    · by_cases hax : arrB xn = arrB yn
      · cases hx4 : arrB xn
        · rw [refP_cls (by exact hO) (by exact hx4) (by show arrB yn = false; rw [← hax]; exact hx4)]
          exact x10may_cls w a n cap l hL hn X Y xn yn hX hY JE hO hx4 (by rw [← hax]; exact hx4)
        · rw [refP_arr (by exact hO) (by exact hx4) (by show arrB yn = true; rw [← hax]; exact hx4)]
          exact x10may_arr f hM w a n cap l hL hn X Y xn yn hX hY hf hx hy (by obtain ⟨s, hs⟩ := arr_cons hx4; rw [hs]; simp) JE hO hx4 (by rw [← hax]; exact hx4)
      · rw [refP_no (by exact hO) (by exact hax)]
        exact x10may_mix w _ X Y xn yn hX hY JE hO hax
theorem x10May_any (f : Nat) : MayRk f := Nat.strongRecOn f x10may_step
end Go.Proofs.YthenefjoidckkaaGreatDoor

/- Layer 11, the document's side: may a frame stand for another. -/
namespace Go.Proofs.YthenefjoidckkaaGreatDoor
open Go.RowKit
set_option linter.unusedVariables false
set_option maxRecDepth 100000

set_option maxHeartbeats 1600000 in
theorem q11all_any (w : World) (a : Option Addr) (n cap : Nat) (l : List Nc) (hL : Ls 5 ncc w a n l) (hn : n ≤ 40)
    (a1 a2 : Option Addr) (n1 c1 n2 c2 : Nat) (u v : List Ty) (h1 : Ls 2 tyc w a1 n1 u) (h2 : Ls 2 tyc w a2 n2 v) (hu : ∀ x ∈ u, nmOk x) (hv : ∀ x ∈ v, nmOk x) (hs : n1 ≤ 1000000000000) :
    Calls Tryz.prog 33 #[.slice a n cap, .slice a1 n1 c1, .slice a2 n2 c2] w fun e w' => e = .returned (.bool (allM l u v)) ∧ Below w.heap.size w w' := by
  have hl1 := h1.1
  have hl2 := h2.1
  have H1 := hide h1
  have H2 := hide h2
  by_cases hnm : n1 = n2
  case neg =>
    have e1 : allM l u v = false := allM_len (by omega)
    have e2 : ((n1 : Int) != (n2 : Int)) = true := by simp; omega
    have e3 : ¬ (n1 : Int) = (n2 : Int) := by omega
    rw [e1]
    clear h1 h2 hL hu hv
    go_enter Tryz.func33, Tryz.ntmps33
    go_wp2
    go_ret
    exact ⟨rfl, Below.refl _ _⟩
  subst hnm
  have HC : Hid (∀ W, Below w.heap.size w W → ∀ (X Y : ByteArray) x y, X = ⟨x.name.toArray⟩ → Y = ⟨y.name.toArray⟩ → nmOk x → nmOk y → Calls Tryz.prog 47 #[.slice a n cap, .agg #[.int .i64 x.kind, .string X], .agg #[.int .i64 y.kind, .string Y]] W fun e w' => e = .returned (.bool (mayT l x y)) ∧ Below W.heap.size W w') := fun W f X Y x y hX hY hx hy =>
    x10May_any x.name.length W a n cap l (hL.below f) hn X Y x y ⟨hX⟩ ⟨hY⟩ (Nat.le_refl _) hx hy
  have HU := hide hu
  have HV := hide hv
  obtain ⟨D, hD⟩ : ∃ D, D = allM l u v := ⟨_, rfl⟩
  rw [← hD]
  have HD := hide hD
  clear h1 h2 hL hu hv hD
  go_enter Tryz.func33, Tryz.ntmps33
  go_wp2
  go_loopw [7] (fun vk W => ∃ k : Nat, k ≤ n1 ∧ vk = .int .i64 k ∧ Below w.heap.size w W ∧ Hid (∀ (j : Nat) x y, j < k → u[j]? = some x → v[j]? = some y → mayT l x y = true)) (fun vk _ => n1 - (intOf vk).toNat)
  case atStart => exact ⟨0, by omega, rfl, Below.refl _ _, fun j x y h => by omega⟩
  case round =>
    obtain ⟨k, hk, rfl, hR, HQ⟩ := hrel
    by_cases hlt : k < n1
    · have hlt1 : (k : Int) < (n1 : Int) := by omega
      have hk0 : (0 : Int) ≤ (k : Int) := by omega
      obtain ⟨b1, o1, h1a, g1⟩ := Ls.row (unhide H1) (w' := wr) (by omega)
      obtain ⟨b2, o2, h2a, g2⟩ := Ls.row (unhide H2) (w' := wr) (by omega)
      subst h1a h2a
      obtain ⟨x, hx⟩ : ∃ x, u[k]? = some x := ⟨_, List.getElem?_eq_getElem (by omega)⟩
      obtain ⟨y, hy⟩ : ∃ y, v[k]? = some y := ⟨_, List.getElem?_eq_getElem (by omega)⟩
      obtain ⟨X, hX⟩ : ∃ X : ByteArray, X = ⟨x.name.toArray⟩ := ⟨_, rfl⟩
      obtain ⟨Y, hY⟩ : ∃ Y : ByteArray, Y = ⟨y.name.toArray⟩ := ⟨_, rfl⟩
      have KC : Hid (∀ W, Below w.heap.size w W → W.cell? ⟨b1, o1 + k * 2, none⟩ = some (.int .i64 x.kind) ∧ W.cell? ⟨b1, o1 + k * 2 + 1, none⟩ = some (.string X) ∧ W.cell? ⟨b2, o2 + k * 2, none⟩ = some (.int .i64 y.kind) ∧ W.cell? ⟨b2, o2 + k * 2 + 1, none⟩ = some (.string Y)) := fun W f => by
        rw [hX, hY]
        exact ⟨(g1 f k x hx).zero, (g1 f k x hx) 1 _ rfl, (g2 f k y hy).zero, (g2 f k y hy) 1 _ rfl⟩
      have HS : Hid (∀ W, Below w.heap.size w W → Calls Tryz.prog 47 #[.slice a n cap, .agg #[.int .i64 x.kind, .string X], .agg #[.int .i64 y.kind, .string Y]] W fun e w' => e = .returned (.bool (mayT l x y)) ∧ Below W.heap.size W w') := fun W f => unhide HC W f X Y x y hX hY (unhide HU x (List.mem_of_getElem? hx)) (unhide HV y (List.mem_of_getElem? hy))
      have HX : Hid (mayT l x y = true → ∀ (j : Nat) x y, j < k + 1 → u[j]? = some x → v[j]? = some y → mayT l x y = true) := fun hxy j x' y' hj hx' hy' => by
        by_cases hjk : j = k
        · subst hjk
          rw [hx] at hx'
          rw [hy] at hy'
          injection hx' with hx'
          injection hy' with hy'
          rw [← hx', ← hy']
          exact hxy
        · exact unhide HQ j x' y' (by omega) hx' hy'
      have HY : Hid (mayT l x y = false → D = false) := fun hxy => by rw [unhide HD]; exact allM_no hx hy hxy
      have HR := hide hR
      clear g1 g2 hx hy hR HQ hX hY
      generalize hMR : mayT l x y = R at *
      clear hMR
      go_wp2
      refine wp_region_seq (fun W => Below w.heap.size w W) (by kernel_rfl) (by kernel_rfl) ((unhide HR).drew) ?_
      repeat (first
        | (refine SeqDo.yields (v := ?_) (by rfl) ?_ ?_; rotate_left; (focus ((intro W hSW; obtain ⟨c0, c1, d0, d1⟩ := unhide KC W hSW; go_simp) <;> with_reducible rfl)); simp only [Act.put, List.setIfInBounds_toArray, List.set_cons_zero, List.set_cons_succ])
        | (refine SeqDo.does (v := .bool R) (by rfl) (fun W hSW KK hKK => ?_) ?_; (focus (go_simp; go_wp2_with (go_at_call 47; refine (unhide HS _ hSW).mono ?_; rintro e W' ⟨rfl, fJ⟩); exact hKK.out _ (hSW.trans (fJ.mono hSW.size)))); simp only [Act.put, List.setIfInBounds_toArray, List.set_cons_zero, List.set_cons_succ]))
      intro W hSW
      have F4 := hide hSW
      clear hSW KC HS HR
      cases R with
      | true =>
        have HX' := hide (unhide HX rfl)
        clear HX HY
        go_wp2
        go_roundw
        case rel => exact ⟨k + 1, by omega, by go_num, unhide F4, HX'⟩
        case measure => simp [intOf]; omega
      | false =>
        have HY' := hide (unhide HY rfl)
        clear HX HY
        go_wp2
        go_ret
        exact ⟨by rw [unhide HY']; rfl, unhide F4⟩
    · obtain rfl : k = n1 := by omega
      have HT : Hid (D = true) := by
        show D = true
        rw [unhide HD]
        exact allM_true (by omega) fun j x y hx hy => unhide HQ j x y (by have := (List.getElem?_eq_some_iff.1 hx).1; omega) hx hy
      have F4 := hide hR
      clear HQ hR
      go_wp2
      go_ret
      exact ⟨by rw [unhide HT]; rfl, unhide F4⟩
set_option maxHeartbeats 800000 in
theorem q11May_any (w : World) (a : Option Addr) (n cap : Nat) (l : List Nc) (hL : Ls 5 ncc w a n l) (hn : n ≤ 40) (lo st lo2 st2 : Sl) (u1 v1 u2 v2 : List Ty) (h1 : FrIn w lo st u1 v1) (h2 : FrIn w lo2 st2 u2 v2) :
    Calls Tryz.prog 14 #[.slice a n cap, .agg #[lo.v, st.v], .agg #[lo2.v, st2.v]] w fun e w' => e = .returned (.bool (allM l u1 u2 && allM l v1 v2)) ∧ Below w.heap.size w w' := by
  obtain ⟨la, ln, lc⟩ := lo
  obtain ⟨sa, sn, sc⟩ := st
  obtain ⟨la2, ln2, lc2⟩ := lo2
  obtain ⟨sa2, sn2, sc2⟩ := st2
  unfold Sl.v
  obtain ⟨w2, hw2⟩ : ∃ w2, w2 = (w.alloc (.cells #[.slice la ln lc, .slice sa sn sc] 32)).alloc (.cells #[.slice la2 ln2 lc2, .slice sa2 sn2 sc2] 32) := ⟨_, rfl⟩
  have f2 : Below w.heap.size w w2 := by rw [hw2]; exact bA (bA (Below.refl _ _) _) _
  have hz1 : (w.alloc (.cells #[.slice la ln lc, .slice sa sn sc] 32)).heap.size = w.heap.size + 1 := by simp
  have hb0 : w2.heap[w.heap.size]? = some (.cells #[.slice la ln lc, .slice sa sn sc] 32 (0, 0)) := by rw [hw2]; exact (heap_alloc_old _ _ (by simp)).trans (heap_alloc_last _ _)
  have hb1 : w2.heap[w.heap.size + 1]? = some (.cells #[.slice la2 ln2 lc2, .slice sa2 sn2 sc2] 32 (0, 0)) := by rw [hw2]; have t := heap_alloc_last (w.alloc (.cells #[.slice la ln lc, .slice sa sn sc] 32)) (.cells #[.slice la2 ln2 lc2, .slice sa2 sn2 sc2] 32); rw [hz1] at t; exact t
  have KB : Hid (∀ W, Below w2.heap.size w2 W → W.cell? ⟨w.heap.size, 0, none⟩ = some (.slice la ln lc) ∧ W.cell? ⟨w.heap.size, 1, none⟩ = some (.slice sa sn sc) ∧ W.cell? ⟨w.heap.size + 1, 0, none⟩ = some (.slice la2 ln2 lc2) ∧ W.cell? ⟨w.heap.size + 1, 1, none⟩ = some (.slice sa2 sn2 sc2)) := fun W f => by
    have e0 := (f.block _ (lt_of_heap hb0)).trans hb0
    have e1 := (f.block _ (lt_of_heap hb1)).trans hb1
    exact ⟨bx_cell e0 0 _ rfl, bx_cell e0 1 _ rfl, bx_cell e1 0 _ rfl, bx_cell e1 1 _ rfl⟩
  have g1 := h1.below f2
  have g2 := h2.below f2
  have HA1 := hide (q11all_any w2 a n cap l (hL.below f2) hn la la2 ln lc ln2 lc2 u1 u2 g1.ll g2.ll g1.lok g2.lok g1.lon)
  have HA2 : Hid (∀ W, Below w2.heap.size w2 W → Calls Tryz.prog 33 #[.slice a n cap, .slice sa sn sc, .slice sa2 sn2 sc2] W fun e w' => e = .returned (.bool (allM l v1 v2)) ∧ Below W.heap.size W w') := fun W f => q11all_any W a n cap l ((hL.below f2).below f) hn sa sa2 sn sc sn2 sc2 v1 v2 (g1.below f).sl (g2.below f).sl g1.sok g2.sok g1.stn
  have HW2 := hide hw2
  have F2 := hide f2
  obtain ⟨c0, c1, c2, c3⟩ := unhide KB w2 (Below.refl _ _)
  clear h1 h2 g1 g2 hL hw2 f2 hb0 hb1
  generalize allM l u1 u2 = R1 at *
  generalize allM l v1 v2 = R2 at *
  go_enter Tryz.func14, Tryz.ntmps14
  go_upto_region 1 with fail
  rw [← unhide HW2]
  go_wp2_with fail
  clear c0 c1 c2 c3
  refine (unhide HA1).mono ?_
  rintro e w3 ⟨rfl, f3⟩
  have F3 := hide f3
  have F23 := hide ((unhide F2).trans (f3.mono (unhide F2).size))
  obtain ⟨c0, c1, c2, c3⟩ := unhide KB w3 f3
  clear f3 HA1
  cases R1 with
  | false =>
    go_wp2
    go_ret
    exact ⟨rfl, unhide F23⟩
  | true =>
    have HA3 := hide (unhide HA2 w3 (unhide F3))
    go_wp2_with fail
    refine (unhide HA3).mono ?_
    rintro e w4 ⟨rfl, f4⟩
    have F24 := hide ((unhide F23).trans (f4.mono (unhide F23).size))
    clear f4
    go_wp2
    go_ret
    exact ⟨by cases R2 <;> rfl, unhide F24⟩
end Go.Proofs.YthenefjoidckkaaGreatDoor
