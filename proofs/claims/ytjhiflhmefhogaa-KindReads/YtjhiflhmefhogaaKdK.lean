/- The document's Print. -/
import Derived.Test.YtjhiflhmefhogaaKdJ
namespace Go.Proofs.Ytjhiflhmefhogaa
open Go.RowKit
set_option linter.unusedVariables false
set_option maxRecDepth 100000

def spelR (t : Ty) : List UInt8 := if t = ⟨1, []⟩ then [73] else if t = ⟨2, []⟩ then [74] else if t.kind = 4 then (if arrB t.name = true then t.name else 76 :: (t.name ++ [59])) else []
def prnR (t : Ty) : List UInt8 × Int := if (parP (spelR t)).2 = 0 ∧ (parP (spelR t)).1 = t then (spelR t, 0) else ([], 100)
theorem prnR_is (t : Ty) : prnR t = prnP t := by
  obtain ⟨k, n⟩ := t
  have e0 : parP [] = (ty0, 100) := rfl
  have e1 : parP [73] = (⟨1, []⟩, 0) := rfl
  have e2 : parP [74] = (⟨2, []⟩, 0) := rfl
  unfold prnR prnP spelR spelP
  by_cases h1 : k = 1
  · subst h1
    by_cases hn : n = []
    · subst hn; rfl
    · have : (⟨1, n⟩ : Ty) ≠ ⟨1, []⟩ := by simpa using hn
      simp [hn, e0, e1]
  · by_cases h2 : k = 2
    · subst h2
      by_cases hn : n = []
      · subst hn; rfl
      · simp [hn, e0, e2]
    · simp [h1, h2]
theorem spelR_len (t : Ty) : (spelR t).length ≤ t.name.length + 2 := by
  unfold spelR
  repeat' split
  all_goals simp
set_option maxHeartbeats 3200000 in
theorem x10Print_any (w : World) (k : Int) (S : ByteArray) (s : List UInt8) (hS : Str S s) (hs : s.length ≤ 140737488351232) : Calls Try.prog 18 #[.agg #[.int .i64 k, .string S]] w fun e w' => e = .returned (.tuple #[.string ⟨(prnP ⟨k, s⟩).1.toArray⟩, .int .i64 (prnP ⟨k, s⟩).2]) ∧ Below w.heap.size w w' := by
  rw [← prnR_is]
  have hlen := spelR_len ⟨k, s⟩
  simp only at hlen
  have HP : Hid (∀ W, Calls Try.prog 10 #[.string ⟨(spelR ⟨k, s⟩).toArray⟩] W fun e w' => e = .returned (.tuple #[tyV (parP (spelR ⟨k, s⟩)).1, .int .i64 (parP (spelR ⟨k, s⟩)).2]) ∧ Below W.heap.size W w') := fun W => x10Parse_any W _ _ ⟨rfl⟩ (by omega)
  have hpe := parP_err (spelR ⟨k, s⟩)
  unfold prnR
  rcases hpp : parP (spelR ⟨k, s⟩) with ⟨⟨yk, yn⟩, pe⟩
  rw [hpp] at HP hpe
  unfold tyV at HP
  simp only at HP hpe ⊢
  have HEq : Hid ((⟨yk, yn⟩ : Ty) = ⟨k, s⟩ ↔ yk = k ∧ (⟨yn.toArray⟩ : ByteArray) = S) := by
    show _ ↔ _
    rw [hS.eq]
    simp
  have HA : Hid (∀ W, Calls Try.prog 40 #[.string S] W fun e w' => e = .returned (.bool (arrB s)) ∧ w' = W) := fun W => x10array_any W S s hS
  have JI : ∀ W, (binOp .eql 23 (.agg #[.int .i64 k, .string S]) (.agg #[.int .i64 1, .string ⟨#[]⟩])).run Try.prog W = .ok (.bool (decide ((⟨k, s⟩ : Ty) = ⟨1, []⟩))) W := fun W => by
    rw [ty_cmp, hS.eq]
    congr 2
    simp
  have JJ : ∀ W, (binOp .eql 23 (.agg #[.int .i64 k, .string S]) (.agg #[.int .i64 2, .string ⟨#[]⟩])).run Try.prog W = .ok (.bool (decide ((⟨k, s⟩ : Ty) = ⟨2, []⟩))) W := fun W => by
    rw [ty_cmp, hS.eq]
    congr 2
    simp
  have JN : ∀ W, (binOp .neq 23 (.agg #[.int .i64 yk, .string ⟨yn.toArray⟩]) (.agg #[.int .i64 k, .string S])).run Try.prog W = .ok (.bool (!decide ((⟨yk, yn⟩ : Ty) = ⟨k, s⟩))) W := fun W => by
    rw [ty_cmpN]
    congr 3
    rw [decide_eq_decide]
    exact (unhide HEq).symm
  have HSP : Hid (spelR ⟨k, s⟩ = if (⟨k, s⟩ : Ty) = ⟨1, []⟩ then [73] else if (⟨k, s⟩ : Ty) = ⟨2, []⟩ then [74] else if k = 4 then (if arrB s = true then s else 76 :: (s ++ [59])) else []) := rfl
  have HC : Hid ((⟨#[76]⟩ : ByteArray) ++ S ++ ⟨#[59]⟩ = ⟨(76 :: (s ++ [59])).toArray⟩) := by
    show _ = _
    rw [hS.eq]
    apply ByteArray.ext
    simp
  have HSE := hide hS.eq
  have hz := hS.size
  clear hS hpp HEq
  obtain ⟨w0, hw0⟩ : ∃ w0, w0 = w.alloc (.cells #[.int .i64 k, .string S] 23) := ⟨_, rfl⟩
  have HB : Hid (Bx2c w0 w.heap.size (.int .i64 k) (.string S)) := by rw [hw0]; exact Bx2c.made _ _ _
  have F0 : Hid (Below w.heap.size w w0) := by rw [hw0]; exact bA (Below.refl _ _) _
  have HW0 := hide hw0
  clear hw0
  obtain ⟨q0, q1, q2⟩ := (unhide HB).cells
  obtain ⟨DD, hDD⟩ : ∃ DD, DD = decide ((⟨yk, yn⟩ : Ty) = ⟨k, s⟩) := ⟨_, rfl⟩
  rw [← hDD] at JN
  obtain ⟨PV, hPV⟩ : ∃ PV, PV = (if pe = 0 ∧ (⟨yk, yn⟩ : Ty) = ⟨k, s⟩ then (spelR ⟨k, s⟩, (0 : Int)) else ([], 100)) := ⟨_, rfl⟩
  rw [← hPV]
  have HPV : Hid (PV = (if pe = 0 ∧ DD = true then (spelR ⟨k, s⟩, (0 : Int)) else ([], 100))) := by
    show PV = _
    rw [hPV, hDD]
    simp only [decide_eq_true_eq]
  clear hDD hPV
  generalize spelR ⟨k, s⟩ = SP at *
  generalize (⟨yn.toArray⟩ : ByteArray) = Y at *
  by_cases i1 : (⟨k, s⟩ : Ty) = ⟨1, []⟩
  · have esp : SP = [73] := by rw [unhide HSP, if_pos i1]
    rw [decide_eq_true i1] at JI
    rw [esp] at HP
    clear i1
    cases hd : DD
    · rw [hd] at JN HPV
      have HX : Hid (PV = ([], 100)) := by rw [show PV = _ from unhide HPV]; exact if_neg (fun h => by cases h.2)
      rcases hpe with rfl | rfl
      · go_enter Try.func18, Try.ntmps18
        go_wp2_with fail
        rw [← unhide HW0]
        refine (unhide HP w0).mono ?_
        rintro e w2 ⟨rfl, f2⟩
        have HB3 : Hid (Bx2c (w2.alloc (.cells #[.int .i64 yk, .string Y] 23)) w.heap.size _ _) := ((unhide HB).keep f2).keep (bA (Below.refl _ _) _)
        have F2 := (unhide F0).trans (f2.mono (unhide F0).size)
        have F3 : Hid (Below w.heap.size w (w2.alloc (.cells #[.int .i64 yk, .string Y] 23))) := bA F2 _
        have HY : Hid (Bx2c (w2.alloc (.cells #[.int .i64 yk, .string Y] 23)) w2.heap.size _ _) := Bx2c.made _ _ _
        obtain ⟨k0, k1, k2⟩ := (unhide HB3).cells
        obtain ⟨j0, j1, j2⟩ := (unhide HY).cells
        clear f2 F2
        go_wp2
        go_ret2
        exact ⟨by rw [unhide HX]; rfl, unhide F3⟩
      · go_enter Try.func18, Try.ntmps18
        go_wp2_with fail
        rw [← unhide HW0]
        refine (unhide HP w0).mono ?_
        rintro e w2 ⟨rfl, f2⟩
        have HB3 : Hid (Bx2c (w2.alloc (.cells #[.int .i64 yk, .string Y] 23)) w.heap.size _ _) := ((unhide HB).keep f2).keep (bA (Below.refl _ _) _)
        have F2 := (unhide F0).trans (f2.mono (unhide F0).size)
        have F3 : Hid (Below w.heap.size w (w2.alloc (.cells #[.int .i64 yk, .string Y] 23))) := bA F2 _
        have HY : Hid (Bx2c (w2.alloc (.cells #[.int .i64 yk, .string Y] 23)) w2.heap.size _ _) := Bx2c.made _ _ _
        obtain ⟨k0, k1, k2⟩ := (unhide HB3).cells
        obtain ⟨j0, j1, j2⟩ := (unhide HY).cells
        clear f2 F2
        go_wp2
        go_ret2
        exact ⟨by rw [unhide HX]; rfl, unhide F3⟩
    · rw [hd] at JN HPV
      rcases hpe with rfl | rfl
      · have HX : Hid (PV = (SP, 0)) := by rw [show PV = _ from unhide HPV]; exact if_pos ⟨rfl, rfl⟩
        rw [esp] at HX
        go_enter Try.func18, Try.ntmps18
        go_wp2_with fail
        rw [← unhide HW0]
        refine (unhide HP w0).mono ?_
        rintro e w2 ⟨rfl, f2⟩
        have HB3 : Hid (Bx2c (w2.alloc (.cells #[.int .i64 yk, .string Y] 23)) w.heap.size _ _) := ((unhide HB).keep f2).keep (bA (Below.refl _ _) _)
        have F2 := (unhide F0).trans (f2.mono (unhide F0).size)
        have F3 : Hid (Below w.heap.size w (w2.alloc (.cells #[.int .i64 yk, .string Y] 23))) := bA F2 _
        have HY : Hid (Bx2c (w2.alloc (.cells #[.int .i64 yk, .string Y] 23)) w2.heap.size _ _) := Bx2c.made _ _ _
        obtain ⟨k0, k1, k2⟩ := (unhide HB3).cells
        obtain ⟨j0, j1, j2⟩ := (unhide HY).cells
        clear f2 F2
        go_wp2
        go_ret2
        exact ⟨by rw [unhide HX]; rfl, unhide F3⟩
      · have HX : Hid (PV = ([], 100)) := by rw [show PV = _ from unhide HPV]; exact if_neg (fun h => by omega)
        go_enter Try.func18, Try.ntmps18
        go_wp2_with fail
        rw [← unhide HW0]
        refine (unhide HP w0).mono ?_
        rintro e w2 ⟨rfl, f2⟩
        have HB3 : Hid (Bx2c (w2.alloc (.cells #[.int .i64 yk, .string Y] 23)) w.heap.size _ _) := ((unhide HB).keep f2).keep (bA (Below.refl _ _) _)
        have F2 := (unhide F0).trans (f2.mono (unhide F0).size)
        have F3 : Hid (Below w.heap.size w (w2.alloc (.cells #[.int .i64 yk, .string Y] 23))) := bA F2 _
        have HY : Hid (Bx2c (w2.alloc (.cells #[.int .i64 yk, .string Y] 23)) w2.heap.size _ _) := Bx2c.made _ _ _
        obtain ⟨k0, k1, k2⟩ := (unhide HB3).cells
        obtain ⟨j0, j1, j2⟩ := (unhide HY).cells
        clear f2 F2
        go_wp2
        go_ret2
        exact ⟨by rw [unhide HX]; rfl, unhide F3⟩
  rw [decide_eq_false i1] at JI
  by_cases i2 : (⟨k, s⟩ : Ty) = ⟨2, []⟩
  · have esp : SP = [74] := by rw [unhide HSP, if_neg i1, if_pos i2]
    rw [decide_eq_true i2] at JJ
    rw [esp] at HP
    clear i1 i2
    cases hd : DD
    · rw [hd] at JN HPV
      have HX : Hid (PV = ([], 100)) := by rw [show PV = _ from unhide HPV]; exact if_neg (fun h => by cases h.2)
      rcases hpe with rfl | rfl
      · go_enter Try.func18, Try.ntmps18
        go_wp2_with fail
        rw [← unhide HW0]
        refine (unhide HP w0).mono ?_
        rintro e w2 ⟨rfl, f2⟩
        have HB3 : Hid (Bx2c (w2.alloc (.cells #[.int .i64 yk, .string Y] 23)) w.heap.size _ _) := ((unhide HB).keep f2).keep (bA (Below.refl _ _) _)
        have F2 := (unhide F0).trans (f2.mono (unhide F0).size)
        have F3 : Hid (Below w.heap.size w (w2.alloc (.cells #[.int .i64 yk, .string Y] 23))) := bA F2 _
        have HY : Hid (Bx2c (w2.alloc (.cells #[.int .i64 yk, .string Y] 23)) w2.heap.size _ _) := Bx2c.made _ _ _
        obtain ⟨k0, k1, k2⟩ := (unhide HB3).cells
        obtain ⟨j0, j1, j2⟩ := (unhide HY).cells
        clear f2 F2
        go_wp2
        go_ret2
        exact ⟨by rw [unhide HX]; rfl, unhide F3⟩
      · go_enter Try.func18, Try.ntmps18
        go_wp2_with fail
        rw [← unhide HW0]
        refine (unhide HP w0).mono ?_
        rintro e w2 ⟨rfl, f2⟩
        have HB3 : Hid (Bx2c (w2.alloc (.cells #[.int .i64 yk, .string Y] 23)) w.heap.size _ _) := ((unhide HB).keep f2).keep (bA (Below.refl _ _) _)
        have F2 := (unhide F0).trans (f2.mono (unhide F0).size)
        have F3 : Hid (Below w.heap.size w (w2.alloc (.cells #[.int .i64 yk, .string Y] 23))) := bA F2 _
        have HY : Hid (Bx2c (w2.alloc (.cells #[.int .i64 yk, .string Y] 23)) w2.heap.size _ _) := Bx2c.made _ _ _
        obtain ⟨k0, k1, k2⟩ := (unhide HB3).cells
        obtain ⟨j0, j1, j2⟩ := (unhide HY).cells
        clear f2 F2
        go_wp2
        go_ret2
        exact ⟨by rw [unhide HX]; rfl, unhide F3⟩
    · rw [hd] at JN HPV
      rcases hpe with rfl | rfl
      · have HX : Hid (PV = (SP, 0)) := by rw [show PV = _ from unhide HPV]; exact if_pos ⟨rfl, rfl⟩
        rw [esp] at HX
        go_enter Try.func18, Try.ntmps18
        go_wp2_with fail
        rw [← unhide HW0]
        refine (unhide HP w0).mono ?_
        rintro e w2 ⟨rfl, f2⟩
        have HB3 : Hid (Bx2c (w2.alloc (.cells #[.int .i64 yk, .string Y] 23)) w.heap.size _ _) := ((unhide HB).keep f2).keep (bA (Below.refl _ _) _)
        have F2 := (unhide F0).trans (f2.mono (unhide F0).size)
        have F3 : Hid (Below w.heap.size w (w2.alloc (.cells #[.int .i64 yk, .string Y] 23))) := bA F2 _
        have HY : Hid (Bx2c (w2.alloc (.cells #[.int .i64 yk, .string Y] 23)) w2.heap.size _ _) := Bx2c.made _ _ _
        obtain ⟨k0, k1, k2⟩ := (unhide HB3).cells
        obtain ⟨j0, j1, j2⟩ := (unhide HY).cells
        clear f2 F2
        go_wp2
        go_ret2
        exact ⟨by rw [unhide HX]; rfl, unhide F3⟩
      · have HX : Hid (PV = ([], 100)) := by rw [show PV = _ from unhide HPV]; exact if_neg (fun h => by omega)
        go_enter Try.func18, Try.ntmps18
        go_wp2_with fail
        rw [← unhide HW0]
        refine (unhide HP w0).mono ?_
        rintro e w2 ⟨rfl, f2⟩
        have HB3 : Hid (Bx2c (w2.alloc (.cells #[.int .i64 yk, .string Y] 23)) w.heap.size _ _) := ((unhide HB).keep f2).keep (bA (Below.refl _ _) _)
        have F2 := (unhide F0).trans (f2.mono (unhide F0).size)
        have F3 : Hid (Below w.heap.size w (w2.alloc (.cells #[.int .i64 yk, .string Y] 23))) := bA F2 _
        have HY : Hid (Bx2c (w2.alloc (.cells #[.int .i64 yk, .string Y] 23)) w2.heap.size _ _) := Bx2c.made _ _ _
        obtain ⟨k0, k1, k2⟩ := (unhide HB3).cells
        obtain ⟨j0, j1, j2⟩ := (unhide HY).cells
        clear f2 F2
        go_wp2
        go_ret2
        exact ⟨by rw [unhide HX]; rfl, unhide F3⟩
  rw [decide_eq_false i2] at JJ
  by_cases i4 : k = 4
  · subst i4
    cases hb : arrB s
    · have esp : SP = 76 :: (s ++ [59]) := by rw [unhide HSP, if_neg i1, if_neg i2, if_pos rfl, hb, if_neg (by decide)]
      rw [hb] at HA
      rw [esp, ← unhide HC] at HP
      clear i1 i2
      cases hd : DD
      · rw [hd] at JN HPV
        have HX : Hid (PV = ([], 100)) := by rw [show PV = _ from unhide HPV]; exact if_neg (fun h => by cases h.2)
        rcases hpe with rfl | rfl
        · go_enter Try.func18, Try.ntmps18
          go_wp2_with fail
          rw [← unhide HW0]
          refine (unhide HA w0).mono ?_
          rintro e w' ⟨rfl, hw⟩
          rw [hw]
          clear hw
          go_wp2_with fail
          refine (unhide HP w0).mono ?_
          rintro e w2 ⟨rfl, f2⟩
          have HB3 : Hid (Bx2c (w2.alloc (.cells #[.int .i64 yk, .string Y] 23)) w.heap.size _ _) := ((unhide HB).keep f2).keep (bA (Below.refl _ _) _)
          have F2 := (unhide F0).trans (f2.mono (unhide F0).size)
          have F3 : Hid (Below w.heap.size w (w2.alloc (.cells #[.int .i64 yk, .string Y] 23))) := bA F2 _
          have HY : Hid (Bx2c (w2.alloc (.cells #[.int .i64 yk, .string Y] 23)) w2.heap.size _ _) := Bx2c.made _ _ _
          obtain ⟨k0, k1, k2⟩ := (unhide HB3).cells
          obtain ⟨j0, j1, j2⟩ := (unhide HY).cells
          clear f2 F2
          go_wp2
          go_ret2
          exact ⟨by rw [unhide HX]; rfl, unhide F3⟩
        · go_enter Try.func18, Try.ntmps18
          go_wp2_with fail
          rw [← unhide HW0]
          refine (unhide HA w0).mono ?_
          rintro e w' ⟨rfl, hw⟩
          rw [hw]
          clear hw
          go_wp2_with fail
          refine (unhide HP w0).mono ?_
          rintro e w2 ⟨rfl, f2⟩
          have HB3 : Hid (Bx2c (w2.alloc (.cells #[.int .i64 yk, .string Y] 23)) w.heap.size _ _) := ((unhide HB).keep f2).keep (bA (Below.refl _ _) _)
          have F2 := (unhide F0).trans (f2.mono (unhide F0).size)
          have F3 : Hid (Below w.heap.size w (w2.alloc (.cells #[.int .i64 yk, .string Y] 23))) := bA F2 _
          have HY : Hid (Bx2c (w2.alloc (.cells #[.int .i64 yk, .string Y] 23)) w2.heap.size _ _) := Bx2c.made _ _ _
          obtain ⟨k0, k1, k2⟩ := (unhide HB3).cells
          obtain ⟨j0, j1, j2⟩ := (unhide HY).cells
          clear f2 F2
          go_wp2
          go_ret2
          exact ⟨by rw [unhide HX]; rfl, unhide F3⟩
      · rw [hd] at JN HPV
        rcases hpe with rfl | rfl
        · have HX : Hid (PV = (SP, 0)) := by rw [show PV = _ from unhide HPV]; exact if_pos ⟨rfl, rfl⟩
          rw [esp] at HX
          go_enter Try.func18, Try.ntmps18
          go_wp2_with fail
          rw [← unhide HW0]
          refine (unhide HA w0).mono ?_
          rintro e w' ⟨rfl, hw⟩
          rw [hw]
          clear hw
          go_wp2_with fail
          refine (unhide HP w0).mono ?_
          rintro e w2 ⟨rfl, f2⟩
          have HB3 : Hid (Bx2c (w2.alloc (.cells #[.int .i64 yk, .string Y] 23)) w.heap.size _ _) := ((unhide HB).keep f2).keep (bA (Below.refl _ _) _)
          have F2 := (unhide F0).trans (f2.mono (unhide F0).size)
          have F3 : Hid (Below w.heap.size w (w2.alloc (.cells #[.int .i64 yk, .string Y] 23))) := bA F2 _
          have HY : Hid (Bx2c (w2.alloc (.cells #[.int .i64 yk, .string Y] 23)) w2.heap.size _ _) := Bx2c.made _ _ _
          obtain ⟨k0, k1, k2⟩ := (unhide HB3).cells
          obtain ⟨j0, j1, j2⟩ := (unhide HY).cells
          clear f2 F2
          go_wp2
          go_ret2
          exact ⟨by rw [unhide HX]; rw [← unhide HC]; rfl, unhide F3⟩
        · have HX : Hid (PV = ([], 100)) := by rw [show PV = _ from unhide HPV]; exact if_neg (fun h => by omega)
          go_enter Try.func18, Try.ntmps18
          go_wp2_with fail
          rw [← unhide HW0]
          refine (unhide HA w0).mono ?_
          rintro e w' ⟨rfl, hw⟩
          rw [hw]
          clear hw
          go_wp2_with fail
          refine (unhide HP w0).mono ?_
          rintro e w2 ⟨rfl, f2⟩
          have HB3 : Hid (Bx2c (w2.alloc (.cells #[.int .i64 yk, .string Y] 23)) w.heap.size _ _) := ((unhide HB).keep f2).keep (bA (Below.refl _ _) _)
          have F2 := (unhide F0).trans (f2.mono (unhide F0).size)
          have F3 : Hid (Below w.heap.size w (w2.alloc (.cells #[.int .i64 yk, .string Y] 23))) := bA F2 _
          have HY : Hid (Bx2c (w2.alloc (.cells #[.int .i64 yk, .string Y] 23)) w2.heap.size _ _) := Bx2c.made _ _ _
          obtain ⟨k0, k1, k2⟩ := (unhide HB3).cells
          obtain ⟨j0, j1, j2⟩ := (unhide HY).cells
          clear f2 F2
          go_wp2
          go_ret2
          exact ⟨by rw [unhide HX]; rfl, unhide F3⟩
    · have esp : SP = s := by rw [unhide HSP, if_neg i1, if_neg i2, if_pos rfl, hb, if_pos rfl]
      rw [hb] at HA
      rw [esp, ← unhide HSE] at HP
      clear i1 i2
      cases hd : DD
      · rw [hd] at JN HPV
        have HX : Hid (PV = ([], 100)) := by rw [show PV = _ from unhide HPV]; exact if_neg (fun h => by cases h.2)
        rcases hpe with rfl | rfl
        · go_enter Try.func18, Try.ntmps18
          go_wp2_with fail
          rw [← unhide HW0]
          refine (unhide HA w0).mono ?_
          rintro e w' ⟨rfl, hw⟩
          rw [hw]
          clear hw
          go_wp2_with fail
          refine (unhide HP w0).mono ?_
          rintro e w2 ⟨rfl, f2⟩
          have HB3 : Hid (Bx2c (w2.alloc (.cells #[.int .i64 yk, .string Y] 23)) w.heap.size _ _) := ((unhide HB).keep f2).keep (bA (Below.refl _ _) _)
          have F2 := (unhide F0).trans (f2.mono (unhide F0).size)
          have F3 : Hid (Below w.heap.size w (w2.alloc (.cells #[.int .i64 yk, .string Y] 23))) := bA F2 _
          have HY : Hid (Bx2c (w2.alloc (.cells #[.int .i64 yk, .string Y] 23)) w2.heap.size _ _) := Bx2c.made _ _ _
          obtain ⟨k0, k1, k2⟩ := (unhide HB3).cells
          obtain ⟨j0, j1, j2⟩ := (unhide HY).cells
          clear f2 F2
          go_wp2
          go_ret2
          exact ⟨by rw [unhide HX]; rfl, unhide F3⟩
        · go_enter Try.func18, Try.ntmps18
          go_wp2_with fail
          rw [← unhide HW0]
          refine (unhide HA w0).mono ?_
          rintro e w' ⟨rfl, hw⟩
          rw [hw]
          clear hw
          go_wp2_with fail
          refine (unhide HP w0).mono ?_
          rintro e w2 ⟨rfl, f2⟩
          have HB3 : Hid (Bx2c (w2.alloc (.cells #[.int .i64 yk, .string Y] 23)) w.heap.size _ _) := ((unhide HB).keep f2).keep (bA (Below.refl _ _) _)
          have F2 := (unhide F0).trans (f2.mono (unhide F0).size)
          have F3 : Hid (Below w.heap.size w (w2.alloc (.cells #[.int .i64 yk, .string Y] 23))) := bA F2 _
          have HY : Hid (Bx2c (w2.alloc (.cells #[.int .i64 yk, .string Y] 23)) w2.heap.size _ _) := Bx2c.made _ _ _
          obtain ⟨k0, k1, k2⟩ := (unhide HB3).cells
          obtain ⟨j0, j1, j2⟩ := (unhide HY).cells
          clear f2 F2
          go_wp2
          go_ret2
          exact ⟨by rw [unhide HX]; rfl, unhide F3⟩
      · rw [hd] at JN HPV
        rcases hpe with rfl | rfl
        · have HX : Hid (PV = (SP, 0)) := by rw [show PV = _ from unhide HPV]; exact if_pos ⟨rfl, rfl⟩
          rw [esp] at HX
          go_enter Try.func18, Try.ntmps18
          go_wp2_with fail
          rw [← unhide HW0]
          refine (unhide HA w0).mono ?_
          rintro e w' ⟨rfl, hw⟩
          rw [hw]
          clear hw
          go_wp2_with fail
          refine (unhide HP w0).mono ?_
          rintro e w2 ⟨rfl, f2⟩
          have HB3 : Hid (Bx2c (w2.alloc (.cells #[.int .i64 yk, .string Y] 23)) w.heap.size _ _) := ((unhide HB).keep f2).keep (bA (Below.refl _ _) _)
          have F2 := (unhide F0).trans (f2.mono (unhide F0).size)
          have F3 : Hid (Below w.heap.size w (w2.alloc (.cells #[.int .i64 yk, .string Y] 23))) := bA F2 _
          have HY : Hid (Bx2c (w2.alloc (.cells #[.int .i64 yk, .string Y] 23)) w2.heap.size _ _) := Bx2c.made _ _ _
          obtain ⟨k0, k1, k2⟩ := (unhide HB3).cells
          obtain ⟨j0, j1, j2⟩ := (unhide HY).cells
          clear f2 F2
          go_wp2
          go_ret2
          exact ⟨by rw [unhide HX]; rw [← unhide HSE]; rfl, unhide F3⟩
        · have HX : Hid (PV = ([], 100)) := by rw [show PV = _ from unhide HPV]; exact if_neg (fun h => by omega)
          go_enter Try.func18, Try.ntmps18
          go_wp2_with fail
          rw [← unhide HW0]
          refine (unhide HA w0).mono ?_
          rintro e w' ⟨rfl, hw⟩
          rw [hw]
          clear hw
          go_wp2_with fail
          refine (unhide HP w0).mono ?_
          rintro e w2 ⟨rfl, f2⟩
          have HB3 : Hid (Bx2c (w2.alloc (.cells #[.int .i64 yk, .string Y] 23)) w.heap.size _ _) := ((unhide HB).keep f2).keep (bA (Below.refl _ _) _)
          have F2 := (unhide F0).trans (f2.mono (unhide F0).size)
          have F3 : Hid (Below w.heap.size w (w2.alloc (.cells #[.int .i64 yk, .string Y] 23))) := bA F2 _
          have HY : Hid (Bx2c (w2.alloc (.cells #[.int .i64 yk, .string Y] 23)) w2.heap.size _ _) := Bx2c.made _ _ _
          obtain ⟨k0, k1, k2⟩ := (unhide HB3).cells
          obtain ⟨j0, j1, j2⟩ := (unhide HY).cells
          clear f2 F2
          go_wp2
          go_ret2
          exact ⟨by rw [unhide HX]; rfl, unhide F3⟩
  · have esp : SP = [] := by rw [unhide HSP, if_neg i1, if_neg i2, if_neg i4]
    have i4' : (k == 4) = false := by simpa using i4
    rw [esp] at HP
    clear i1 i2
    cases hd : DD
    · rw [hd] at JN HPV
      have HX : Hid (PV = ([], 100)) := by rw [show PV = _ from unhide HPV]; exact if_neg (fun h => by cases h.2)
      rcases hpe with rfl | rfl
      · go_enter Try.func18, Try.ntmps18
        go_wp2_with fail
        rw [← unhide HW0]
        refine (unhide HP w0).mono ?_
        rintro e w2 ⟨rfl, f2⟩
        have HB3 : Hid (Bx2c (w2.alloc (.cells #[.int .i64 yk, .string Y] 23)) w.heap.size _ _) := ((unhide HB).keep f2).keep (bA (Below.refl _ _) _)
        have F2 := (unhide F0).trans (f2.mono (unhide F0).size)
        have F3 : Hid (Below w.heap.size w (w2.alloc (.cells #[.int .i64 yk, .string Y] 23))) := bA F2 _
        have HY : Hid (Bx2c (w2.alloc (.cells #[.int .i64 yk, .string Y] 23)) w2.heap.size _ _) := Bx2c.made _ _ _
        obtain ⟨k0, k1, k2⟩ := (unhide HB3).cells
        obtain ⟨j0, j1, j2⟩ := (unhide HY).cells
        clear f2 F2
        go_wp2
        go_ret2
        exact ⟨by rw [unhide HX]; rfl, unhide F3⟩
      · go_enter Try.func18, Try.ntmps18
        go_wp2_with fail
        rw [← unhide HW0]
        refine (unhide HP w0).mono ?_
        rintro e w2 ⟨rfl, f2⟩
        have HB3 : Hid (Bx2c (w2.alloc (.cells #[.int .i64 yk, .string Y] 23)) w.heap.size _ _) := ((unhide HB).keep f2).keep (bA (Below.refl _ _) _)
        have F2 := (unhide F0).trans (f2.mono (unhide F0).size)
        have F3 : Hid (Below w.heap.size w (w2.alloc (.cells #[.int .i64 yk, .string Y] 23))) := bA F2 _
        have HY : Hid (Bx2c (w2.alloc (.cells #[.int .i64 yk, .string Y] 23)) w2.heap.size _ _) := Bx2c.made _ _ _
        obtain ⟨k0, k1, k2⟩ := (unhide HB3).cells
        obtain ⟨j0, j1, j2⟩ := (unhide HY).cells
        clear f2 F2
        go_wp2
        go_ret2
        exact ⟨by rw [unhide HX]; rfl, unhide F3⟩
    · rw [hd] at JN HPV
      rcases hpe with rfl | rfl
      · have HX : Hid (PV = (SP, 0)) := by rw [show PV = _ from unhide HPV]; exact if_pos ⟨rfl, rfl⟩
        rw [esp] at HX
        go_enter Try.func18, Try.ntmps18
        go_wp2_with fail
        rw [← unhide HW0]
        refine (unhide HP w0).mono ?_
        rintro e w2 ⟨rfl, f2⟩
        have HB3 : Hid (Bx2c (w2.alloc (.cells #[.int .i64 yk, .string Y] 23)) w.heap.size _ _) := ((unhide HB).keep f2).keep (bA (Below.refl _ _) _)
        have F2 := (unhide F0).trans (f2.mono (unhide F0).size)
        have F3 : Hid (Below w.heap.size w (w2.alloc (.cells #[.int .i64 yk, .string Y] 23))) := bA F2 _
        have HY : Hid (Bx2c (w2.alloc (.cells #[.int .i64 yk, .string Y] 23)) w2.heap.size _ _) := Bx2c.made _ _ _
        obtain ⟨k0, k1, k2⟩ := (unhide HB3).cells
        obtain ⟨j0, j1, j2⟩ := (unhide HY).cells
        clear f2 F2
        go_wp2
        go_ret2
        exact ⟨by rw [unhide HX]; rfl, unhide F3⟩
      · have HX : Hid (PV = ([], 100)) := by rw [show PV = _ from unhide HPV]; exact if_neg (fun h => by omega)
        go_enter Try.func18, Try.ntmps18
        go_wp2_with fail
        rw [← unhide HW0]
        refine (unhide HP w0).mono ?_
        rintro e w2 ⟨rfl, f2⟩
        have HB3 : Hid (Bx2c (w2.alloc (.cells #[.int .i64 yk, .string Y] 23)) w.heap.size _ _) := ((unhide HB).keep f2).keep (bA (Below.refl _ _) _)
        have F2 := (unhide F0).trans (f2.mono (unhide F0).size)
        have F3 : Hid (Below w.heap.size w (w2.alloc (.cells #[.int .i64 yk, .string Y] 23))) := bA F2 _
        have HY : Hid (Bx2c (w2.alloc (.cells #[.int .i64 yk, .string Y] 23)) w2.heap.size _ _) := Bx2c.made _ _ _
        obtain ⟨k0, k1, k2⟩ := (unhide HB3).cells
        obtain ⟨j0, j1, j2⟩ := (unhide HY).cells
        clear f2 F2
        go_wp2
        go_ret2
        exact ⟨by rw [unhide HX]; rfl, unhide F3⟩
end Go.Proofs.Ytjhiflhmefhogaa
