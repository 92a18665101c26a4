/- Joined: KdJ KdK KdL KdM KdN KdO. -/
import Derived.Test.YthenefjoidckkaaGreatDoorJK2
import Derived.Test.YthenefjoidckkaaGreatDoorJB

/- The landed Print. -/
namespace Go.Proofs.YthenefjoidckkaaGreatDoor
open Go.RowKit
set_option linter.unusedVariables false
set_option maxRecDepth 100000

theorem ty_cmp (w : World) (k k' : Int) (S S' : ByteArray) :
    (binOp .eql 52 (.agg #[.int .i64 k, .string S]) (.agg #[.int .i64 k', .string S'])).run Tryz.prog w = .ok (.bool (decide (k = k' ∧ S = S'))) w := by
  rw [run_eql_struct]
  go_simp
  have e1 : S.toList = S'.toList ↔ S = S' := by
    constructor
    · intro h
      rw [ByteArray.toList_eq, ByteArray.toList_eq] at h
      exact ByteArray.ext (by cases hA : S.data; cases hB : S'.data; rw [hA, hB] at h; simpa using h)
    · intro h; rw [h]
  repeat' split
  all_goals
    congr 2
    simp_all
theorem ty_cmpN (w : World) (k k' : Int) (S S' : ByteArray) :
    (binOp .neq 52 (.agg #[.int .i64 k, .string S]) (.agg #[.int .i64 k', .string S'])).run Tryz.prog w = .ok (.bool (!decide (k = k' ∧ S = S'))) w := by
  have h := ty_cmp w k k' S S'
  rw [run_eql_struct] at h
  rw [run_neq_struct]
  cases hq : (Op.equalIn 10000 52 (.agg #[.int .i64 k, .string S]) (.agg #[.int .i64 k', .string S'])).run Tryz.prog w with
  | ok b w' =>
    rw [hq] at h
    simp only [Result.andThen_ok, Result.ok.injEq, Value.bool.injEq] at h
    rw [h.1, h.2]
    rfl
  | halt h1 w' =>
    rw [hq] at h
    simp [Result.andThen] at h
def prnP (t : Ty) : List UInt8 × Int := if (parP (spelP t)).2 = 0 ∧ (parP (spelP t)).1 = t then (spelP t, 0) else ([], 100)
theorem spelP_len (t : Ty) : (spelP t).length ≤ t.name.length + 2 := by
  unfold spelP
  repeat' split
  all_goals simp
theorem parP_err (s : List UInt8) : (parP s).2 = 0 ∨ (parP s).2 = 100 := by
  unfold parP
  split
  · exact .inr rfl
  · exact .inl rfl
set_option maxHeartbeats 1600000 in
theorem yPrint_any (w : World) (k : Int) (S : ByteArray) (s : List UInt8) (hS : Str S s) (hs : s.length ≤ 140737488351232) : Calls Tryz.prog 127 #[.agg #[.int .i64 k, .string S]] w fun e w' => e = .returned (.tuple #[.string ⟨(prnP ⟨k, s⟩).1.toArray⟩, .int .i64 (prnP ⟨k, s⟩).2]) ∧ Below w.heap.size w w' := by
  obtain ⟨w0, hw0⟩ : ∃ w0, w0 = w.alloc (.cells #[.int .i64 k, .string S] 52) := ⟨_, rfl⟩
  have HB : Hid (Bx2c w0 w.heap.size (.int .i64 k) (.string S)) := by rw [hw0]; exact Bx2c.made _ _ _
  have F0 : Hid (Below w.heap.size w w0) := by rw [hw0]; exact bA (Below.refl _ _) _
  have HW0 := hide hw0
  clear hw0
  have HS := hide (yspelt_any w0 k S s hS hs)
  have hlen := spelP_len ⟨k, s⟩
  simp only at hlen
  have HP : Hid (∀ W, Calls Tryz.prog 60 #[.string ⟨(spelP ⟨k, s⟩).toArray⟩] W fun e w' => e = .returned (.tuple #[tyV (parP (spelP ⟨k, s⟩)).1, .int .i64 (parP (spelP ⟨k, s⟩)).2]) ∧ Below W.heap.size W w') := fun W => yParse_any W _ _ ⟨rfl⟩ (by omega)
  have hpe := parP_err (spelP ⟨k, s⟩)
  unfold prnP
  rcases hpp : parP (spelP ⟨k, s⟩) with ⟨⟨yk, yn⟩, pe⟩
  rw [hpp] at HP hpe
  unfold tyV at HP
  simp only at HP hpe ⊢
  have HEq : Hid ((⟨yk, yn⟩ : Ty) = ⟨k, s⟩ ↔ yk = k ∧ (⟨yn.toArray⟩ : ByteArray) = S) := by
    show _ ↔ _
    rw [hS.eq]
    simp
  generalize spelP ⟨k, s⟩ = sp at *
  generalize (⟨yn.toArray⟩ : ByteArray) = Y at *
  by_cases hok : pe = 0 ∧ (⟨yk, yn⟩ : Ty) = ⟨k, s⟩
  · rw [if_pos hok]
    obtain ⟨rfl, hy⟩ := hok
    obtain ⟨rfl, rfl⟩ := (unhide HEq).1 hy
    simp only
    generalize (⟨sp.toArray⟩ : ByteArray) = P at *
    clear hS hpp HEq hy hpe hlen
    go_enter Tryz.func127, Tryz.ntmps127
    go_wp2_with fail
    rw [← unhide HW0]
    refine (unhide HS).mono ?_
    rintro e w1 ⟨rfl, f1⟩
    go_wp2_with fail
    refine (unhide HP w1).mono ?_
    rintro e w2 ⟨rfl, f2⟩
    have B2 := ((unhide HB).keep f1).keep f2
    have HB3 : Hid (Bx2c (w2.alloc (.cells #[.int .i64 yk, .string Y] 52)) w.heap.size _ _) := B2.keep (bA (Below.refl _ _) _)
    have F1 := (unhide F0).trans (f1.mono (unhide F0).size)
    have F2 := F1.trans (f2.mono F1.size)
    have F3 : Hid (Below w.heap.size w (w2.alloc (.cells #[.int .i64 yk, .string Y] 52))) := bA F2 _
    have HY : Hid (Bx2c (w2.alloc (.cells #[.int .i64 yk, .string Y] 52)) w2.heap.size _ _) := Bx2c.made _ _ _
    obtain ⟨k0, k1, k2⟩ := (unhide HB3).cells
    obtain ⟨j0, j1, j2⟩ := (unhide HY).cells
    have JN := fun W => ty_cmpN W yk yk Y Y
    clear f1 f2 B2 F1 F2
    go_wp2
    go_ret2
    exact ⟨rfl, unhide F3⟩
  · rw [if_neg hok]
    simp only
    rcases hpe with rfl | rfl
    · have hne : ¬ (yk = k ∧ Y = S) := fun h => hok ⟨rfl, (unhide HEq).2 h⟩
      have JN : ∀ W, (binOp .neq 52 (.agg #[.int .i64 yk, .string Y]) (.agg #[.int .i64 k, .string S])).run Tryz.prog W = .ok (.bool true) W := fun W => by
        rw [ty_cmpN, decide_eq_false hne]
        rfl
      generalize (⟨sp.toArray⟩ : ByteArray) = P at *
      clear hS hpp HEq hlen hok hne
      go_enter Tryz.func127, Tryz.ntmps127
      go_wp2_with fail
      rw [← unhide HW0]
      refine (unhide HS).mono ?_
      rintro e w1 ⟨rfl, f1⟩
      go_wp2_with fail
      refine (unhide HP w1).mono ?_
      rintro e w2 ⟨rfl, f2⟩
      have B2 := ((unhide HB).keep f1).keep f2
      have HB3 : Hid (Bx2c (w2.alloc (.cells #[.int .i64 yk, .string Y] 52)) w.heap.size _ _) := B2.keep (bA (Below.refl _ _) _)
      have F1 := (unhide F0).trans (f1.mono (unhide F0).size)
      have F2 := F1.trans (f2.mono F1.size)
      have F3 : Hid (Below w.heap.size w (w2.alloc (.cells #[.int .i64 yk, .string Y] 52))) := bA F2 _
      have HY : Hid (Bx2c (w2.alloc (.cells #[.int .i64 yk, .string Y] 52)) w2.heap.size _ _) := Bx2c.made _ _ _
      obtain ⟨k0, k1, k2⟩ := (unhide HB3).cells
      obtain ⟨j0, j1, j2⟩ := (unhide HY).cells
      clear f1 f2 B2 F1 F2
      go_wp2
      go_ret2
      exact ⟨rfl, unhide F3⟩
    · generalize (⟨sp.toArray⟩ : ByteArray) = P at *
      clear hS hpp HEq hlen hok
      go_enter Tryz.func127, Tryz.ntmps127
      go_wp2_with fail
      rw [← unhide HW0]
      refine (unhide HS).mono ?_
      rintro e w1 ⟨rfl, f1⟩
      go_wp2_with fail
      refine (unhide HP w1).mono ?_
      rintro e w2 ⟨rfl, f2⟩
      have B2 := ((unhide HB).keep f1).keep f2
      have HB3 : Hid (Bx2c (w2.alloc (.cells #[.int .i64 yk, .string Y] 52)) w.heap.size _ _) := B2.keep (bA (Below.refl _ _) _)
      have F1 := (unhide F0).trans (f1.mono (unhide F0).size)
      have F2 := F1.trans (f2.mono F1.size)
      have F3 : Hid (Below w.heap.size w (w2.alloc (.cells #[.int .i64 yk, .string Y] 52))) := bA F2 _
      have HY : Hid (Bx2c (w2.alloc (.cells #[.int .i64 yk, .string Y] 52)) w2.heap.size _ _) := Bx2c.made _ _ _
      obtain ⟨k0, k1, k2⟩ := (unhide HB3).cells
      obtain ⟨j0, j1, j2⟩ := (unhide HY).cells
      clear f1 f2 B2 F1 F2
      go_wp2
      go_ret2
      exact ⟨rfl, unhide F3⟩
end Go.Proofs.YthenefjoidckkaaGreatDoor

/- The document's Print. -/
namespace Go.Proofs.YthenefjoidckkaaGreatDoor
open Go.RowKit
set_option linter.unusedVariables false
set_option maxRecDepth 100000

def spelR (t : Ty) : List UInt8 := if t = ⟨1, []⟩ then [73] else if t = ⟨2, []⟩ then [74] else if t.kind = 4 then (if arrB t.name = true then t.name else 76 :: (t.name ++ [59])) else []
def prnR (t : Ty) : List UInt8 × Int := if (parP (spelR t)).2 = 0 ∧ (parP (spelR t)).1 = t then (spelR t, 0) else ([], 100)
theorem prnR_is (t : Ty) : prnR t = prnP t := by
  obtain ⟨k, n⟩ := t
  have e0 : parP [] = (ty0, 100) := rfl
  have e1 : parP [73] = (⟨1, []⟩, 0) := rfl
  have e2 : parP [74] = (⟨2, []⟩, 0) := rfl
  unfold prnR prnP spelR spelP
  by_cases h1 : k = 1
  · subst h1
    by_cases hn : n = []
    · subst hn; rfl
    · have : (⟨1, n⟩ : Ty) ≠ ⟨1, []⟩ := by simpa using hn
      simp [hn, e0, e1]
  · by_cases h2 : k = 2
    · subst h2
      by_cases hn : n = []
      · subst hn; rfl
      · simp [hn, e0, e2]
    · simp [h1, h2]
theorem spelR_len (t : Ty) : (spelR t).length ≤ t.name.length + 2 := by
  unfold spelR
  repeat' split
  all_goals simp
set_option maxHeartbeats 3200000 in
theorem x10Print_any (w : World) (k : Int) (S : ByteArray) (s : List UInt8) (hS : Str S s) (hs : s.length ≤ 140737488351232) : Calls Tryz.prog 35 #[.agg #[.int .i64 k, .string S]] w fun e w' => e = .returned (.tuple #[.string ⟨(prnP ⟨k, s⟩).1.toArray⟩, .int .i64 (prnP ⟨k, s⟩).2]) ∧ Below w.heap.size w w' := by
  rw [← prnR_is]
  have hlen := spelR_len ⟨k, s⟩
  simp only at hlen
  have HP : Hid (∀ W, Calls Tryz.prog 45 #[.string ⟨(spelR ⟨k, s⟩).toArray⟩] W fun e w' => e = .returned (.tuple #[tyV (parP (spelR ⟨k, s⟩)).1, .int .i64 (parP (spelR ⟨k, s⟩)).2]) ∧ Below W.heap.size W w') := fun W => x10Parse_any W _ _ ⟨rfl⟩ (by omega)
  have hpe := parP_err (spelR ⟨k, s⟩)
  unfold prnR
  rcases hpp : parP (spelR ⟨k, s⟩) with ⟨⟨yk, yn⟩, pe⟩
  rw [hpp] at HP hpe
  unfold tyV at HP
  simp only at HP hpe ⊢
  have HEq : Hid ((⟨yk, yn⟩ : Ty) = ⟨k, s⟩ ↔ yk = k ∧ (⟨yn.toArray⟩ : ByteArray) = S) := by
    show _ ↔ _
    rw [hS.eq]
    simp
  have HA : Hid (∀ W, Calls Tryz.prog 48 #[.string S] W fun e w' => e = .returned (.bool (arrB s)) ∧ w' = W) := fun W => x10array_any W S s hS
  have JI : ∀ W, (binOp .eql 52 (.agg #[.int .i64 k, .string S]) (.agg #[.int .i64 1, .string ⟨#[]⟩])).run Tryz.prog W = .ok (.bool (decide ((⟨k, s⟩ : Ty) = ⟨1, []⟩))) W := fun W => by
    rw [ty_cmp, hS.eq]
    congr 2
    simp
  have JJ : ∀ W, (binOp .eql 52 (.agg #[.int .i64 k, .string S]) (.agg #[.int .i64 2, .string ⟨#[]⟩])).run Tryz.prog W = .ok (.bool (decide ((⟨k, s⟩ : Ty) = ⟨2, []⟩))) W := fun W => by
    rw [ty_cmp, hS.eq]
    congr 2
    simp
  have JN : ∀ W, (binOp .neq 52 (.agg #[.int .i64 yk, .string ⟨yn.toArray⟩]) (.agg #[.int .i64 k, .string S])).run Tryz.prog W = .ok (.bool (!decide ((⟨yk, yn⟩ : Ty) = ⟨k, s⟩))) W := fun W => by
    rw [ty_cmpN]
    congr 3
    rw [decide_eq_decide]
    exact (unhide HEq).symm
  have HSP : Hid (spelR ⟨k, s⟩ = if (⟨k, s⟩ : Ty) = ⟨1, []⟩ then [73] else if (⟨k, s⟩ : Ty) = ⟨2, []⟩ then [74] else if k = 4 then (if arrB s = true then s else 76 :: (s ++ [59])) else []) := rfl
  have HC : Hid ((⟨#[76]⟩ : ByteArray) ++ S ++ ⟨#[59]⟩ = ⟨(76 :: (s ++ [59])).toArray⟩) := by
    show _ = _
    rw [hS.eq]
    apply ByteArray.ext
    simp
  have HSE := hide hS.eq
  have hz := hS.size
  clear hS hpp HEq
  obtain ⟨w0, hw0⟩ : ∃ w0, w0 = w.alloc (.cells #[.int .i64 k, .string S] 52) := ⟨_, rfl⟩
  have HB : Hid (Bx2c w0 w.heap.size (.int .i64 k) (.string S)) := by rw [hw0]; exact Bx2c.made _ _ _
  have F0 : Hid (Below w.heap.size w w0) := by rw [hw0]; exact bA (Below.refl _ _) _
  have HW0 := hide hw0
  clear hw0
  obtain ⟨q0, q1, q2⟩ := (unhide HB).cells
  obtain ⟨DD, hDD⟩ : ∃ DD, DD = decide ((⟨yk, yn⟩ : Ty) = ⟨k, s⟩) := ⟨_, rfl⟩
  rw [← hDD] at JN
  obtain ⟨PV, hPV⟩ : ∃ PV, PV = (if pe = 0 ∧ (⟨yk, yn⟩ : Ty) = ⟨k, s⟩ then (spelR ⟨k, s⟩, (0 : Int)) else ([], 100)) := ⟨_, rfl⟩
  rw [← hPV]
  have HPV : Hid (PV = (if pe = 0 ∧ DD = true then (spelR ⟨k, s⟩, (0 : Int)) else ([], 100))) := by
    show PV = _
    rw [hPV, hDD]
    simp only [decide_eq_true_eq]
  clear hDD hPV
  generalize spelR ⟨k, s⟩ = SP at *
  generalize (⟨yn.toArray⟩ : ByteArray) = Y at *
  by_cases i1 : (⟨k, s⟩ : Ty) = ⟨1, []⟩
  · have esp : SP = [73] := by rw [unhide HSP, if_pos i1]
    rw [decide_eq_true i1] at JI
    rw [esp] at HP
    clear i1
    cases hd : DD
    · rw [hd] at JN HPV
      have HX : Hid (PV = ([], 100)) := by rw [show PV = _ from unhide HPV]; exact if_neg (fun h => by cases h.2)
      rcases hpe with rfl | rfl
      · go_enter Tryz.func35, Tryz.ntmps35
        go_wp2_with fail
        rw [← unhide HW0]
        refine (unhide HP w0).mono ?_
        rintro e w2 ⟨rfl, f2⟩
        have HB3 : Hid (Bx2c (w2.alloc (.cells #[.int .i64 yk, .string Y] 52)) w.heap.size _ _) := ((unhide HB).keep f2).keep (bA (Below.refl _ _) _)
        have F2 := (unhide F0).trans (f2.mono (unhide F0).size)
        have F3 : Hid (Below w.heap.size w (w2.alloc (.cells #[.int .i64 yk, .string Y] 52))) := bA F2 _
        have HY : Hid (Bx2c (w2.alloc (.cells #[.int .i64 yk, .string Y] 52)) w2.heap.size _ _) := Bx2c.made _ _ _
        obtain ⟨k0, k1, k2⟩ := (unhide HB3).cells
        obtain ⟨j0, j1, j2⟩ := (unhide HY).cells
        clear f2 F2
        go_wp2
        go_ret2
        exact ⟨by rw [unhide HX]; rfl, unhide F3⟩
      · go_enter Tryz.func35, Tryz.ntmps35
        go_wp2_with fail
        rw [← unhide HW0]
        refine (unhide HP w0).mono ?_
        rintro e w2 ⟨rfl, f2⟩
        have HB3 : Hid (Bx2c (w2.alloc (.cells #[.int .i64 yk, .string Y] 52)) w.heap.size _ _) := ((unhide HB).keep f2).keep (bA (Below.refl _ _) _)
        have F2 := (unhide F0).trans (f2.mono (unhide F0).size)
        have F3 : Hid (Below w.heap.size w (w2.alloc (.cells #[.int .i64 yk, .string Y] 52))) := bA F2 _
        have HY : Hid (Bx2c (w2.alloc (.cells #[.int .i64 yk, .string Y] 52)) w2.heap.size _ _) := Bx2c.made _ _ _
        obtain ⟨k0, k1, k2⟩ := (unhide HB3).cells
        obtain ⟨j0, j1, j2⟩ := (unhide HY).cells
        clear f2 F2
        go_wp2
        go_ret2
        exact ⟨by rw [unhide HX]; rfl, unhide F3⟩
    · rw [hd] at JN HPV
      rcases hpe with rfl | rfl
      · have HX : Hid (PV = (SP, 0)) := by rw [show PV = _ from unhide HPV]; exact if_pos ⟨rfl, rfl⟩
        rw [esp] at HX
        go_enter Tryz.func35, Tryz.ntmps35
        go_wp2_with fail
        rw [← unhide HW0]
        refine (unhide HP w0).mono ?_
        rintro e w2 ⟨rfl, f2⟩
        have HB3 : Hid (Bx2c (w2.alloc (.cells #[.int .i64 yk, .string Y] 52)) w.heap.size _ _) := ((unhide HB).keep f2).keep (bA (Below.refl _ _) _)
        have F2 := (unhide F0).trans (f2.mono (unhide F0).size)
        have F3 : Hid (Below w.heap.size w (w2.alloc (.cells #[.int .i64 yk, .string Y] 52))) := bA F2 _
        have HY : Hid (Bx2c (w2.alloc (.cells #[.int .i64 yk, .string Y] 52)) w2.heap.size _ _) := Bx2c.made _ _ _
        obtain ⟨k0, k1, k2⟩ := (unhide HB3).cells
        obtain ⟨j0, j1, j2⟩ := (unhide HY).cells
        clear f2 F2
        go_wp2
        go_ret2
        exact ⟨by rw [unhide HX]; rfl, unhide F3⟩
      · have HX : Hid (PV = ([], 100)) := by rw [show PV = _ from unhide HPV]; exact if_neg (fun h => by omega)
        go_enter Tryz.func35, Tryz.ntmps35
        go_wp2_with fail
        rw [← unhide HW0]
        refine (unhide HP w0).mono ?_
        rintro e w2 ⟨rfl, f2⟩
        have HB3 : Hid (Bx2c (w2.alloc (.cells #[.int .i64 yk, .string Y] 52)) w.heap.size _ _) := ((unhide HB).keep f2).keep (bA (Below.refl _ _) _)
        have F2 := (unhide F0).trans (f2.mono (unhide F0).size)
        have F3 : Hid (Below w.heap.size w (w2.alloc (.cells #[.int .i64 yk, .string Y] 52))) := bA F2 _
        have HY : Hid (Bx2c (w2.alloc (.cells #[.int .i64 yk, .string Y] 52)) w2.heap.size _ _) := Bx2c.made _ _ _
        obtain ⟨k0, k1, k2⟩ := (unhide HB3).cells
        obtain ⟨j0, j1, j2⟩ := (unhide HY).cells
        clear f2 F2
        go_wp2
        go_ret2
        exact ⟨by rw [unhide HX]; rfl, unhide F3⟩
  rw [decide_eq_false i1] at JI
  by_cases i2 : (⟨k, s⟩ : Ty) = ⟨2, []⟩
  · have esp : SP = [74] := by rw [unhide HSP, if_neg i1, if_pos i2]
    rw [decide_eq_true i2] at JJ
    rw [esp] at HP
    clear i1 i2
    cases hd : DD
    · rw [hd] at JN HPV
      have HX : Hid (PV = ([], 100)) := by rw [show PV = _ from unhide HPV]; exact if_neg (fun h => by cases h.2)
      rcases hpe with rfl | rfl
      · go_enter Tryz.func35, Tryz.ntmps35
        go_wp2_with fail
        rw [← unhide HW0]
        refine (unhide HP w0).mono ?_
        rintro e w2 ⟨rfl, f2⟩
        have HB3 : Hid (Bx2c (w2.alloc (.cells #[.int .i64 yk, .string Y] 52)) w.heap.size _ _) := ((unhide HB).keep f2).keep (bA (Below.refl _ _) _)
        have F2 := (unhide F0).trans (f2.mono (unhide F0).size)
        have F3 : Hid (Below w.heap.size w (w2.alloc (.cells #[.int .i64 yk, .string Y] 52))) := bA F2 _
        have HY : Hid (Bx2c (w2.alloc (.cells #[.int .i64 yk, .string Y] 52)) w2.heap.size _ _) := Bx2c.made _ _ _
        obtain ⟨k0, k1, k2⟩ := (unhide HB3).cells
        obtain ⟨j0, j1, j2⟩ := (unhide HY).cells
        clear f2 F2
        go_wp2
        go_ret2
        exact ⟨by rw [unhide HX]; rfl, unhide F3⟩
      · go_enter Tryz.func35, Tryz.ntmps35
        go_wp2_with fail
        rw [← unhide HW0]
        refine (unhide HP w0).mono ?_
        rintro e w2 ⟨rfl, f2⟩
        have HB3 : Hid (Bx2c (w2.alloc (.cells #[.int .i64 yk, .string Y] 52)) w.heap.size _ _) := ((unhide HB).keep f2).keep (bA (Below.refl _ _) _)
        have F2 := (unhide F0).trans (f2.mono (unhide F0).size)
        have F3 : Hid (Below w.heap.size w (w2.alloc (.cells #[.int .i64 yk, .string Y] 52))) := bA F2 _
        have HY : Hid (Bx2c (w2.alloc (.cells #[.int .i64 yk, .string Y] 52)) w2.heap.size _ _) := Bx2c.made _ _ _
        obtain ⟨k0, k1, k2⟩ := (unhide HB3).cells
        obtain ⟨j0, j1, j2⟩ := (unhide HY).cells
        clear f2 F2
        go_wp2
        go_ret2
        exact ⟨by rw [unhide HX]; rfl, unhide F3⟩
    · rw [hd] at JN HPV
      rcases hpe with rfl | rfl
      · have HX : Hid (PV = (SP, 0)) := by rw [show PV = _ from unhide HPV]; exact if_pos ⟨rfl, rfl⟩
        rw [esp] at HX
        go_enter Tryz.func35, Tryz.ntmps35
        go_wp2_with fail
        rw [← unhide HW0]
        refine (unhide HP w0).mono ?_
        rintro e w2 ⟨rfl, f2⟩
        have HB3 : Hid (Bx2c (w2.alloc (.cells #[.int .i64 yk, .string Y] 52)) w.heap.size _ _) := ((unhide HB).keep f2).keep (bA (Below.refl _ _) _)
        have F2 := (unhide F0).trans (f2.mono (unhide F0).size)
        have F3 : Hid (Below w.heap.size w (w2.alloc (.cells #[.int .i64 yk, .string Y] 52))) := bA F2 _
        have HY : Hid (Bx2c (w2.alloc (.cells #[.int .i64 yk, .string Y] 52)) w2.heap.size _ _) := Bx2c.made _ _ _
        obtain ⟨k0, k1, k2⟩ := (unhide HB3).cells
        obtain ⟨j0, j1, j2⟩ := (unhide HY).cells
        clear f2 F2
        go_wp2
        go_ret2
        exact ⟨by rw [unhide HX]; rfl, unhide F3⟩
      · have HX : Hid (PV = ([], 100)) := by rw [show PV = _ from unhide HPV]; exact if_neg (fun h => by omega)
        go_enter Tryz.func35, Tryz.ntmps35
        go_wp2_with fail
        rw [← unhide HW0]
        refine (unhide HP w0).mono ?_
        rintro e w2 ⟨rfl, f2⟩
        have HB3 : Hid (Bx2c (w2.alloc (.cells #[.int .i64 yk, .string Y] 52)) w.heap.size _ _) := ((unhide HB).keep f2).keep (bA (Below.refl _ _) _)
        have F2 := (unhide F0).trans (f2.mono (unhide F0).size)
        have F3 : Hid (Below w.heap.size w (w2.alloc (.cells #[.int .i64 yk, .string Y] 52))) := bA F2 _
        have HY : Hid (Bx2c (w2.alloc (.cells #[.int .i64 yk, .string Y] 52)) w2.heap.size _ _) := Bx2c.made _ _ _
        obtain ⟨k0, k1, k2⟩ := (unhide HB3).cells
        obtain ⟨j0, j1, j2⟩ := (unhide HY).cells
        clear f2 F2
        go_wp2
        go_ret2
        exact ⟨by rw [unhide HX]; rfl, unhide F3⟩
  rw [decide_eq_false i2] at JJ
  by_cases i4 : k = 4
  · subst i4
    cases hb : arrB s
    · have esp : SP = 76 :: (s ++ [59]) := by rw [unhide HSP, if_neg i1, if_neg i2, if_pos rfl, hb, if_neg (by decide)]
      rw [hb] at HA
      rw [esp, ← unhide HC] at HP
      clear i1 i2
      cases hd : DD
      · rw [hd] at JN HPV
        have HX : Hid (PV = ([], 100)) := by rw [show PV = _ from unhide HPV]; exact if_neg (fun h => by cases h.2)
        rcases hpe with rfl | rfl
        · go_enter Tryz.func35, Tryz.ntmps35
          go_wp2_with fail
          rw [← unhide HW0]
          refine (unhide HA w0).mono ?_
          rintro e w' ⟨rfl, hw⟩
          rw [hw]
          clear hw
          go_wp2_with fail
          refine (unhide HP w0).mono ?_
          rintro e w2 ⟨rfl, f2⟩
          have HB3 : Hid (Bx2c (w2.alloc (.cells #[.int .i64 yk, .string Y] 52)) w.heap.size _ _) := ((unhide HB).keep f2).keep (bA (Below.refl _ _) _)
          have F2 := (unhide F0).trans (f2.mono (unhide F0).size)
          have F3 : Hid (Below w.heap.size w (w2.alloc (.cells #[.int .i64 yk, .string Y] 52))) := bA F2 _
          have HY : Hid (Bx2c (w2.alloc (.cells #[.int .i64 yk, .string Y] 52)) w2.heap.size _ _) := Bx2c.made _ _ _
          obtain ⟨k0, k1, k2⟩ := (unhide HB3).cells
          obtain ⟨j0, j1, j2⟩ := (unhide HY).cells
          clear f2 F2
          go_wp2
          go_ret2
          exact ⟨by rw [unhide HX]; rfl, unhide F3⟩
        · go_enter Tryz.func35, Tryz.ntmps35
          go_wp2_with fail
          rw [← unhide HW0]
          refine (unhide HA w0).mono ?_
          rintro e w' ⟨rfl, hw⟩
          rw [hw]
          clear hw
          go_wp2_with fail
          refine (unhide HP w0).mono ?_
          rintro e w2 ⟨rfl, f2⟩
          have HB3 : Hid (Bx2c (w2.alloc (.cells #[.int .i64 yk, .string Y] 52)) w.heap.size _ _) := ((unhide HB).keep f2).keep (bA (Below.refl _ _) _)
          have F2 := (unhide F0).trans (f2.mono (unhide F0).size)
          have F3 : Hid (Below w.heap.size w (w2.alloc (.cells #[.int .i64 yk, .string Y] 52))) := bA F2 _
          have HY : Hid (Bx2c (w2.alloc (.cells #[.int .i64 yk, .string Y] 52)) w2.heap.size _ _) := Bx2c.made _ _ _
          obtain ⟨k0, k1, k2⟩ := (unhide HB3).cells
          obtain ⟨j0, j1, j2⟩ := (unhide HY).cells
          clear f2 F2
          go_wp2
          go_ret2
          exact ⟨by rw [unhide HX]; rfl, unhide F3⟩
      · rw [hd] at JN HPV
        rcases hpe with rfl | rfl
        · have HX : Hid (PV = (SP, 0)) := by rw [show PV = _ from unhide HPV]; exact if_pos ⟨rfl, rfl⟩
          rw [esp] at HX
          go_enter Tryz.func35, Tryz.ntmps35
          go_wp2_with fail
          rw [← unhide HW0]
          refine (unhide HA w0).mono ?_
          rintro e w' ⟨rfl, hw⟩
          rw [hw]
          clear hw
          go_wp2_with fail
          refine (unhide HP w0).mono ?_
          rintro e w2 ⟨rfl, f2⟩
          have HB3 : Hid (Bx2c (w2.alloc (.cells #[.int .i64 yk, .string Y] 52)) w.heap.size _ _) := ((unhide HB).keep f2).keep (bA (Below.refl _ _) _)
          have F2 := (unhide F0).trans (f2.mono (unhide F0).size)
          have F3 : Hid (Below w.heap.size w (w2.alloc (.cells #[.int .i64 yk, .string Y] 52))) := bA F2 _
          have HY : Hid (Bx2c (w2.alloc (.cells #[.int .i64 yk, .string Y] 52)) w2.heap.size _ _) := Bx2c.made _ _ _
          obtain ⟨k0, k1, k2⟩ := (unhide HB3).cells
          obtain ⟨j0, j1, j2⟩ := (unhide HY).cells
          clear f2 F2
          go_wp2
          go_ret2
          exact ⟨by rw [unhide HX]; rw [← unhide HC]; rfl, unhide F3⟩
        · have HX : Hid (PV = ([], 100)) := by rw [show PV = _ from unhide HPV]; exact if_neg (fun h => by omega)
          go_enter Tryz.func35, Tryz.ntmps35
          go_wp2_with fail
          rw [← unhide HW0]
          refine (unhide HA w0).mono ?_
          rintro e w' ⟨rfl, hw⟩
          rw [hw]
          clear hw
          go_wp2_with fail
          refine (unhide HP w0).mono ?_
          rintro e w2 ⟨rfl, f2⟩
          have HB3 : Hid (Bx2c (w2.alloc (.cells #[.int .i64 yk, .string Y] 52)) w.heap.size _ _) := ((unhide HB).keep f2).keep (bA (Below.refl _ _) _)
          have F2 := (unhide F0).trans (f2.mono (unhide F0).size)
          have F3 : Hid (Below w.heap.size w (w2.alloc (.cells #[.int .i64 yk, .string Y] 52))) := bA F2 _
          have HY : Hid (Bx2c (w2.alloc (.cells #[.int .i64 yk, .string Y] 52)) w2.heap.size _ _) := Bx2c.made _ _ _
          obtain ⟨k0, k1, k2⟩ := (unhide HB3).cells
          obtain ⟨j0, j1, j2⟩ := (unhide HY).cells
          clear f2 F2
          go_wp2
          go_ret2
          exact ⟨by rw [unhide HX]; rfl, unhide F3⟩
    · have esp : SP = s := by rw [unhide HSP, if_neg i1, if_neg i2, if_pos rfl, hb, if_pos rfl]
      rw [hb] at HA
      rw [esp, ← unhide HSE] at HP
      clear i1 i2
      cases hd : DD
      · rw [hd] at JN HPV
        have HX : Hid (PV = ([], 100)) := by rw [show PV = _ from unhide HPV]; exact if_neg (fun h => by cases h.2)
        rcases hpe with rfl | rfl
        · go_enter Tryz.func35, Tryz.ntmps35
          go_wp2_with fail
          rw [← unhide HW0]
          refine (unhide HA w0).mono ?_
          rintro e w' ⟨rfl, hw⟩
          rw [hw]
          clear hw
          go_wp2_with fail
          refine (unhide HP w0).mono ?_
          rintro e w2 ⟨rfl, f2⟩
          have HB3 : Hid (Bx2c (w2.alloc (.cells #[.int .i64 yk, .string Y] 52)) w.heap.size _ _) := ((unhide HB).keep f2).keep (bA (Below.refl _ _) _)
          have F2 := (unhide F0).trans (f2.mono (unhide F0).size)
          have F3 : Hid (Below w.heap.size w (w2.alloc (.cells #[.int .i64 yk, .string Y] 52))) := bA F2 _
          have HY : Hid (Bx2c (w2.alloc (.cells #[.int .i64 yk, .string Y] 52)) w2.heap.size _ _) := Bx2c.made _ _ _
          obtain ⟨k0, k1, k2⟩ := (unhide HB3).cells
          obtain ⟨j0, j1, j2⟩ := (unhide HY).cells
          clear f2 F2
          go_wp2
          go_ret2
          exact ⟨by rw [unhide HX]; rfl, unhide F3⟩
        · go_enter Tryz.func35, Tryz.ntmps35
          go_wp2_with fail
          rw [← unhide HW0]
          refine (unhide HA w0).mono ?_
          rintro e w' ⟨rfl, hw⟩
          rw [hw]
          clear hw
          go_wp2_with fail
          refine (unhide HP w0).mono ?_
          rintro e w2 ⟨rfl, f2⟩
          have HB3 : Hid (Bx2c (w2.alloc (.cells #[.int .i64 yk, .string Y] 52)) w.heap.size _ _) := ((unhide HB).keep f2).keep (bA (Below.refl _ _) _)
          have F2 := (unhide F0).trans (f2.mono (unhide F0).size)
          have F3 : Hid (Below w.heap.size w (w2.alloc (.cells #[.int .i64 yk, .string Y] 52))) := bA F2 _
          have HY : Hid (Bx2c (w2.alloc (.cells #[.int .i64 yk, .string Y] 52)) w2.heap.size _ _) := Bx2c.made _ _ _
          obtain ⟨k0, k1, k2⟩ := (unhide HB3).cells
          obtain ⟨j0, j1, j2⟩ := (unhide HY).cells
          clear f2 F2
          go_wp2
          go_ret2
          exact ⟨by rw [unhide HX]; rfl, unhide F3⟩
      · rw [hd] at JN HPV
        rcases hpe with rfl | rfl
        · have HX : Hid (PV = (SP, 0)) := by rw [show PV = _ from unhide HPV]; exact if_pos ⟨rfl, rfl⟩
          rw [esp] at HX
          go_enter Tryz.func35, Tryz.ntmps35
          go_wp2_with fail
          rw [← unhide HW0]
          refine (unhide HA w0).mono ?_
          rintro e w' ⟨rfl, hw⟩
          rw [hw]
          clear hw
          go_wp2_with fail
          refine (unhide HP w0).mono ?_
          rintro e w2 ⟨rfl, f2⟩
          have HB3 : Hid (Bx2c (w2.alloc (.cells #[.int .i64 yk, .string Y] 52)) w.heap.size _ _) := ((unhide HB).keep f2).keep (bA (Below.refl _ _) _)
          have F2 := (unhide F0).trans (f2.mono (unhide F0).size)
          have F3 : Hid (Below w.heap.size w (w2.alloc (.cells #[.int .i64 yk, .string Y] 52))) := bA F2 _
          have HY : Hid (Bx2c (w2.alloc (.cells #[.int .i64 yk, .string Y] 52)) w2.heap.size _ _) := Bx2c.made _ _ _
          obtain ⟨k0, k1, k2⟩ := (unhide HB3).cells
          obtain ⟨j0, j1, j2⟩ := (unhide HY).cells
          clear f2 F2
          go_wp2
          go_ret2
          exact ⟨by rw [unhide HX]; rw [← unhide HSE]; rfl, unhide F3⟩
        · have HX : Hid (PV = ([], 100)) := by rw [show PV = _ from unhide HPV]; exact if_neg (fun h => by omega)
          go_enter Tryz.func35, Tryz.ntmps35
          go_wp2_with fail
          rw [← unhide HW0]
          refine (unhide HA w0).mono ?_
          rintro e w' ⟨rfl, hw⟩
          rw [hw]
          clear hw
          go_wp2_with fail
          refine (unhide HP w0).mono ?_
          rintro e w2 ⟨rfl, f2⟩
          have HB3 : Hid (Bx2c (w2.alloc (.cells #[.int .i64 yk, .string Y] 52)) w.heap.size _ _) := ((unhide HB).keep f2).keep (bA (Below.refl _ _) _)
          have F2 := (unhide F0).trans (f2.mono (unhide F0).size)
          have F3 : Hid (Below w.heap.size w (w2.alloc (.cells #[.int .i64 yk, .string Y] 52))) := bA F2 _
          have HY : Hid (Bx2c (w2.alloc (.cells #[.int .i64 yk, .string Y] 52)) w2.heap.size _ _) := Bx2c.made _ _ _
          obtain ⟨k0, k1, k2⟩ := (unhide HB3).cells
          obtain ⟨j0, j1, j2⟩ := (unhide HY).cells
          clear f2 F2
          go_wp2
          go_ret2
          exact ⟨by rw [unhide HX]; rfl, unhide F3⟩
  · have esp : SP = [] := by rw [unhide HSP, if_neg i1, if_neg i2, if_neg i4]
    have i4' : (k == 4) = false := by simpa using i4
    rw [esp] at HP
    clear i1 i2
    cases hd : DD
    · rw [hd] at JN HPV
      have HX : Hid (PV = ([], 100)) := by rw [show PV = _ from unhide HPV]; exact if_neg (fun h => by cases h.2)
      rcases hpe with rfl | rfl
      · go_enter Tryz.func35, Tryz.ntmps35
        go_wp2_with fail
        rw [← unhide HW0]
        refine (unhide HP w0).mono ?_
        rintro e w2 ⟨rfl, f2⟩
        have HB3 : Hid (Bx2c (w2.alloc (.cells #[.int .i64 yk, .string Y] 52)) w.heap.size _ _) := ((unhide HB).keep f2).keep (bA (Below.refl _ _) _)
        have F2 := (unhide F0).trans (f2.mono (unhide F0).size)
        have F3 : Hid (Below w.heap.size w (w2.alloc (.cells #[.int .i64 yk, .string Y] 52))) := bA F2 _
        have HY : Hid (Bx2c (w2.alloc (.cells #[.int .i64 yk, .string Y] 52)) w2.heap.size _ _) := Bx2c.made _ _ _
        obtain ⟨k0, k1, k2⟩ := (unhide HB3).cells
        obtain ⟨j0, j1, j2⟩ := (unhide HY).cells
        clear f2 F2
        go_wp2
        go_ret2
        exact ⟨by rw [unhide HX]; rfl, unhide F3⟩
      · go_enter Tryz.func35, Tryz.ntmps35
        go_wp2_with fail
        rw [← unhide HW0]
        refine (unhide HP w0).mono ?_
        rintro e w2 ⟨rfl, f2⟩
        have HB3 : Hid (Bx2c (w2.alloc (.cells #[.int .i64 yk, .string Y] 52)) w.heap.size _ _) := ((unhide HB).keep f2).keep (bA (Below.refl _ _) _)
        have F2 := (unhide F0).trans (f2.mono (unhide F0).size)
        have F3 : Hid (Below w.heap.size w (w2.alloc (.cells #[.int .i64 yk, .string Y] 52))) := bA F2 _
        have HY : Hid (Bx2c (w2.alloc (.cells #[.int .i64 yk, .string Y] 52)) w2.heap.size _ _) := Bx2c.made _ _ _
        obtain ⟨k0, k1, k2⟩ := (unhide HB3).cells
        obtain ⟨j0, j1, j2⟩ := (unhide HY).cells
        clear f2 F2
        go_wp2
        go_ret2
        exact ⟨by rw [unhide HX]; rfl, unhide F3⟩
    · rw [hd] at JN HPV
      rcases hpe with rfl | rfl
      · have HX : Hid (PV = (SP, 0)) := by rw [show PV = _ from unhide HPV]; exact if_pos ⟨rfl, rfl⟩
        rw [esp] at HX
        go_enter Tryz.func35, Tryz.ntmps35
        go_wp2_with fail
        rw [← unhide HW0]
        refine (unhide HP w0).mono ?_
        rintro e w2 ⟨rfl, f2⟩
        have HB3 : Hid (Bx2c (w2.alloc (.cells #[.int .i64 yk, .string Y] 52)) w.heap.size _ _) := ((unhide HB).keep f2).keep (bA (Below.refl _ _) _)
        have F2 := (unhide F0).trans (f2.mono (unhide F0).size)
        have F3 : Hid (Below w.heap.size w (w2.alloc (.cells #[.int .i64 yk, .string Y] 52))) := bA F2 _
        have HY : Hid (Bx2c (w2.alloc (.cells #[.int .i64 yk, .string Y] 52)) w2.heap.size _ _) := Bx2c.made _ _ _
        obtain ⟨k0, k1, k2⟩ := (unhide HB3).cells
        obtain ⟨j0, j1, j2⟩ := (unhide HY).cells
        clear f2 F2
        go_wp2
        go_ret2
        exact ⟨by rw [unhide HX]; rfl, unhide F3⟩
      · have HX : Hid (PV = ([], 100)) := by rw [show PV = _ from unhide HPV]; exact if_neg (fun h => by omega)
        go_enter Tryz.func35, Tryz.ntmps35
        go_wp2_with fail
        rw [← unhide HW0]
        refine (unhide HP w0).mono ?_
        rintro e w2 ⟨rfl, f2⟩
        have HB3 : Hid (Bx2c (w2.alloc (.cells #[.int .i64 yk, .string Y] 52)) w.heap.size _ _) := ((unhide HB).keep f2).keep (bA (Below.refl _ _) _)
        have F2 := (unhide F0).trans (f2.mono (unhide F0).size)
        have F3 : Hid (Below w.heap.size w (w2.alloc (.cells #[.int .i64 yk, .string Y] 52))) := bA F2 _
        have HY : Hid (Bx2c (w2.alloc (.cells #[.int .i64 yk, .string Y] 52)) w2.heap.size _ _) := Bx2c.made _ _ _
        obtain ⟨k0, k1, k2⟩ := (unhide HB3).cells
        obtain ⟨j0, j1, j2⟩ := (unhide HY).cells
        clear f2 F2
        go_wp2
        go_ret2
        exact ⟨by rw [unhide HX]; rfl, unhide F3⟩
end Go.Proofs.YthenefjoidckkaaGreatDoor

/- What follows of descriptors, as plain values. -/
namespace Go.Proofs.YthenefjoidckkaaGreatDoor
open Go.RowKit
set_option linter.unusedVariables false

def elemP (t : Ty) : Ty × Int := if t.kind = 4 ∧ arrB t.name = true ∧ sizeN t.name = t.name.length then (if t.name.drop 1 = [66] then (⟨1, []⟩, 0) else (typeP (t.name.drop 1), 0)) else (ty0, 100)
theorem arr_cons {s : List UInt8} (h : arrB s = true) : ∃ t, s = 91 :: t := by
  cases s with
  | nil => simp [arrB] at h
  | cons c t => simp [arrB] at h; exact ⟨t, by rw [h]⟩
theorem arr_inner (t : List UInt8) (h : sizeN (91 :: t) = (91 :: t).length) (hB : t ≠ [66]) : sizeN t = t.length ∧ 0 < t.length := by
  rw [sizeN_is, oneP_A t 0 (by omega)] at h
  by_cases h1 : t[0]? = some 66 ∧ (0 : Nat) < 8
  · rw [if_pos h1] at h
    simp at h
    exfalso
    apply hB
    cases t with
    | nil => simp at h1
    | cons c t =>
      have hl : t = [] := by simpa using h
      simp at h1
      rw [h1, hl]
  · rw [if_neg h1] at h
    by_cases h2 : 0 < (oneP t (0 + 1)).2
    · rw [if_pos h2] at h
      simp only [List.length_cons] at h
      have h3 := one_size t 1 (by omega)
      have h4 : (oneP t 1).2 = t.length := by simp at h ⊢; omega
      rw [h4] at h3
      by_cases h5 : 8 < deepN t + 1
      · rw [if_pos h5] at h3
        simp only [Nat.zero_add] at h2
        omega
      · rw [if_neg h5] at h3
        refine ⟨?_, by simp only [Nat.zero_add] at h2; omega⟩
        unfold sizeN
        rw [if_neg (by omega), ← h3]
    · rw [if_neg h2] at h
      simp at h
theorem parP_ok {s : List UInt8} (h : sizeN s = s.length) (h0 : 0 < s.length) : parP s = (typeP s, 0) := by
  unfold parP
  rw [if_neg (by omega)]
theorem parP_no {s : List UInt8} (h : ¬ (sizeN s = s.length ∧ 0 < s.length)) : parP s = (ty0, 100) := by
  unfold parP
  rw [if_pos]
  by_cases h1 : sizeN s = s.length
  · exact .inl (by rw [h1]; by_cases h2 : s.length = 0; exact h2; exact absurd ⟨h1, by omega⟩ h)
  · exact .inr h1
/-- What the document's Elem does. -/
theorem elem_ref (t : Ty) : elemP t = if (prnP t).2 = 0 ∧ t.kind = 4 ∧ arrB t.name = true then (if t.name = [91, 66] then (⟨1, []⟩, 0) else parP (t.name.drop 1)) else (ty0, 100) := by
  obtain ⟨k, n⟩ := t
  show (if k = 4 ∧ arrB n = true ∧ sizeN n = n.length then (if n.drop 1 = [66] then ((⟨1, []⟩ : Ty), (0 : Int)) else (typeP (n.drop 1), 0)) else (ty0, 100)) = if (prnP ⟨k, n⟩).2 = 0 ∧ k = 4 ∧ arrB n = true then (if n = [91, 66] then ((⟨1, []⟩ : Ty), (0 : Int)) else parP (n.drop 1)) else (ty0, 100)
  by_cases h4 : k = 4
  case neg => rw [if_neg (fun h => h4 h.1), if_neg (fun h => h4 h.2.1)]
  subst h4
  by_cases ha : arrB n = true
  case neg => rw [if_neg (fun h => ha h.2.1), if_neg (fun h => ha h.2.2)]
  obtain ⟨t, rfl⟩ := arr_cons ha
  have hsp : spelP ⟨4, 91 :: t⟩ = 91 :: t := by simp [spelP, ha]
  have hpr : (prnP ⟨4, 91 :: t⟩).2 = 0 ↔ sizeN (91 :: t) = (91 :: t).length := by
    unfold prnP
    rw [hsp]
    by_cases hz : sizeN (91 :: t) = (91 :: t).length
    · rw [parP_ok hz (by simp)]
      simp [typeP, hz]
    · rw [parP_no (fun h => hz h.1)]
      simp only [hz, iff_false]
      rw [if_neg (fun h => by simp at h)]
      simp
  by_cases hz : sizeN (91 :: t) = (91 :: t).length
  · rw [if_pos (show (4 : Int) = 4 ∧ arrB (91 :: t) = true ∧ sizeN (91 :: t) = (91 :: t).length from ⟨rfl, ha, hz⟩), if_pos (show (prnP ⟨4, 91 :: t⟩).2 = 0 ∧ (4 : Int) = 4 ∧ arrB (91 :: t) = true from ⟨hpr.2 hz, rfl, ha⟩)]
    simp only [List.drop_succ_cons, List.drop_zero]
    by_cases hB : t = [66]
    · rw [if_pos hB, if_pos (by rw [hB])]
    · rw [if_neg hB, if_neg (fun h => hB (by simpa using h))]
      obtain ⟨h1, h2⟩ := arr_inner t hz hB
      rw [parP_ok h1 h2]
  · rw [if_neg (fun h => hz h.2.2), if_neg (fun h => hz (hpr.1 h.1))]
theorem prn_err (t : Ty) : (prnP t).2 = 0 ∨ prnP t = ([], 100) := by
  unfold prnP
  split
  · exact .inl rfl
  · exact .inr rfl
end Go.Proofs.YthenefjoidckkaaGreatDoor

/- The landed Elem, and the document's. -/
namespace Go.Proofs.YthenefjoidckkaaGreatDoor
open Go.RowKit
set_option linter.unusedVariables false
set_option maxRecDepth 100000

/-- Two boxes: the parameter's, the answer's. -/
theorem two_boxes (w : World) (x y : Value) : ∃ w0, w0 = (w.alloc (.cells #[x, y] 52)).alloc (.cells #[.int .i64 0, .string ⟨#[]⟩] 52) ∧ Bx2c w0 w.heap.size x y ∧ Bx2c w0 (w.heap.size + 1) (.int .i64 0) (.string ⟨#[]⟩) ∧ Below w.heap.size w w0 :=
  ⟨_, rfl, (Bx2c.made _ _ _).keep (bA (Below.refl _ _) _), by
    have := Bx2c.made (w.alloc (.cells #[x, y] 52)) (.int .i64 0) (.string ⟨#[]⟩)
    rw [show (w.alloc (.cells #[x, y] 52)).heap.size = w.heap.size + 1 by simp] at this
    exact this, bA (bA (Below.refl _ _) _) _⟩
set_option maxHeartbeats 1600000 in
theorem yElem_any (w : World) (k : Int) (S : ByteArray) (s : List UInt8) (hS : Str S s) (hs : s.length ≤ 140737488351232) : Calls Tryz.prog 114 #[.agg #[.int .i64 k, .string S]] w fun e w' => e = .returned (.tuple #[tyV (elemP ⟨k, s⟩).1, .int .i64 (elemP ⟨k, s⟩).2]) ∧ Below w.heap.size w w' := by
  obtain ⟨w0, hw0, hB1, hB2, f0⟩ := two_boxes w (.int .i64 k) (.string S)
  obtain ⟨SS, hSS⟩ : ∃ SS : World → Prop, SS = fun W => Below w0.heap.size w0 W := ⟨_, rfl⟩
  have KI : Hid (∀ W, Below w0.heap.size w0 W → SS W) := fun W f => by rw [hSS]; exact f
  have KE : Hid (∀ W, SS W → Bx2c W w.heap.size (.int .i64 k) (.string S)) := fun W h => by rw [hSS] at h; exact hB1.keep h
  have KR : Hid (∀ W, SS W → Bx2c W (w.heap.size + 1) (.int .i64 0) (.string ⟨#[]⟩)) := fun W h => by rw [hSS] at h; exact hB2.keep h
  have KB : Hid (∀ W, SS W → Below w.heap.size w W) := fun W h => by rw [hSS] at h; exact f0.trans (h.mono f0.size)
  have HW0 := hide hw0
  clear hw0 hB1 hB2 f0 hSS
  have hz := hS.size
  have HA : Hid (∀ W, Calls Tryz.prog 63 #[.string S] W fun e w' => e = .returned (.bool (arrB s)) ∧ w' = W) := fun W => yarray_any W S s hS
  have HZ : Hid (∀ W, Calls Tryz.prog 58 #[.string S] W fun e w' => e = .returned (.int .i64 (sizeN s)) ∧ w' = W) := fun W => ysize_any W S s hS (by omega)
  have HS := hide hS
  clear hS
  by_cases h4 : k = 4
  case neg =>
    have h4' : (k == 4) = false := by simpa using h4
    have h4'' : (k != 4) = true := by simpa using h4
    have e : elemP ⟨k, s⟩ = (ty0, 100) := if_neg (fun h => h4 h.1)
    rw [e]
    show Calls _ _ _ _ fun e w' => e = .returned (.tuple #[.agg #[.int .i64 0, .string ⟨#[]⟩], .int .i64 100]) ∧ Below w.heap.size w w'
    clear e
    generalize arrB s = ba at *
    generalize sizeN s = zn at *
    generalize s.length = n at *
    go_enter Tryz.func114, Tryz.ntmps114
    go_wp2
    rw [← unhide HW0]
    refine wp_region_seq SS (by kernel_rfl) (by kernel_rfl) (unhide KI _ (Below.drew (Below.refl _ _))) ?_
    repeat (first
      | (refine SeqDo.skips (by rfl) ?_; simp only [Act.put, List.setIfInBounds_toArray, List.set_cons_zero, List.set_cons_succ])
      | (refine SeqDo.yields (v := ?_) (by rfl) ?_ ?_; rotate_left; (focus ((intro W hSW; obtain ⟨q0, q1, q2⟩ := (unhide KE W hSW).cells; go_simp) <;> with_reducible rfl)); simp only [Act.put, List.setIfInBounds_toArray, List.set_cons_zero, List.set_cons_succ])
      | (refine SeqDo.does (v := .bool ba) (by rfl) (fun W hSW KK hKK => ?_) ?_; (focus (go_simp; go_wp2_with (go_at_call 63; refine (unhide HA W).mono ?_; rintro e W' ⟨rfl, hw⟩; rw [hw]); exact hKK.out _ hSW)); simp only [Act.put, List.setIfInBounds_toArray, List.set_cons_zero, List.set_cons_succ])
      | (refine SeqDo.does (v := .int .i64 zn) (by rfl) (fun W hSW KK hKK => ?_) ?_; (focus (go_simp; go_wp2_with (go_at_call 58; refine (unhide HZ W).mono ?_; rintro e W' ⟨rfl, hw⟩; rw [hw]); exact hKK.out _ hSW)); simp only [Act.put, List.setIfInBounds_toArray, List.set_cons_zero, List.set_cons_succ]))
    intro W hSW
    have HBW := hide (unhide KR W hSW)
    have FW := hide (unhide KB W hSW)
    obtain ⟨k0, k1, k2⟩ := (unhide HBW).cells
    obtain ⟨p0, p1, p2⟩ := (unhide KE W hSW).cells
    go_wp2
    exact bodyPost_ret (ty_ret2 Tryz.results114 _ (w.heap.size + 1) _ _ (ty_set _ _ (unhide HBW).row) _ rfl) rfl ⟨rfl, ty_bel _ _ (unhide FW) (by omega)⟩
  subst h4
  cases ha : arrB s
  · have e : elemP ⟨4, s⟩ = (ty0, 100) := if_neg (fun h => by have := h.2.1; simp only at this; rw [ha] at this; cases this)
    rw [ha] at HA
    obtain ⟨ba, hba⟩ : ∃ ba, ba = false := ⟨_, rfl⟩
    rw [e]
    show Calls _ _ _ _ fun e w' => e = .returned (.tuple #[.agg #[.int .i64 0, .string ⟨#[]⟩], .int .i64 100]) ∧ Below w.heap.size w w'
    clear e
    generalize sizeN s = zn at *
    generalize s.length = n at *
    clear hba
    go_enter Tryz.func114, Tryz.ntmps114
    go_wp2
    rw [← unhide HW0]
    refine wp_region_seq SS (by kernel_rfl) (by kernel_rfl) (unhide KI _ (Below.drew (Below.refl _ _))) ?_
    repeat (first
      | (refine SeqDo.skips (by rfl) ?_; simp only [Act.put, List.setIfInBounds_toArray, List.set_cons_zero, List.set_cons_succ])
      | (refine SeqDo.yields (v := ?_) (by rfl) ?_ ?_; rotate_left; (focus ((intro W hSW; obtain ⟨q0, q1, q2⟩ := (unhide KE W hSW).cells; go_simp) <;> with_reducible rfl)); simp only [Act.put, List.setIfInBounds_toArray, List.set_cons_zero, List.set_cons_succ])
      | (refine SeqDo.does (v := .bool false) (by rfl) (fun W hSW KK hKK => ?_) ?_; (focus (go_simp; go_wp2_with (go_at_call 63; refine (unhide HA W).mono ?_; rintro e W' ⟨rfl, hw⟩; rw [hw]); exact hKK.out _ hSW)); simp only [Act.put, List.setIfInBounds_toArray, List.set_cons_zero, List.set_cons_succ])
      | (refine SeqDo.does (v := .int .i64 zn) (by rfl) (fun W hSW KK hKK => ?_) ?_; (focus (go_simp; go_wp2_with (go_at_call 58; refine (unhide HZ W).mono ?_; rintro e W' ⟨rfl, hw⟩; rw [hw]); exact hKK.out _ hSW)); simp only [Act.put, List.setIfInBounds_toArray, List.set_cons_zero, List.set_cons_succ]))
    intro W hSW
    have HBW := hide (unhide KR W hSW)
    have FW := hide (unhide KB W hSW)
    obtain ⟨k0, k1, k2⟩ := (unhide HBW).cells
    obtain ⟨p0, p1, p2⟩ := (unhide KE W hSW).cells
    go_wp2
    exact bodyPost_ret (ty_ret2 Tryz.results114 _ (w.heap.size + 1) _ _ (ty_set _ _ (unhide HBW).row) _ rfl) rfl ⟨rfl, ty_bel _ _ (unhide FW) (by omega)⟩
  · rw [ha] at HA
    by_cases hzn : sizeN s = s.length
    case neg =>
      have e : elemP ⟨4, s⟩ = (ty0, 100) := if_neg (fun h => hzn h.2.2)
      have z1 : ¬ ((sizeN s : Nat) : Int) = (s.length : Int) := by omega
      rw [e]
      show Calls _ _ _ _ fun e w' => e = .returned (.tuple #[.agg #[.int .i64 0, .string ⟨#[]⟩], .int .i64 100]) ∧ Below w.heap.size w w'
      clear e
      generalize sizeN s = zn at *
      generalize s.length = n at *
      have z2 : ((zn : Int) == (n : Int)) = false := by simp; omega
      have z3 : ((zn : Int) != (n : Int)) = true := by simp; omega
      go_enter Tryz.func114, Tryz.ntmps114
      go_wp2
      rw [← unhide HW0]
      refine wp_region_seq SS (by kernel_rfl) (by kernel_rfl) (unhide KI _ (Below.drew (Below.refl _ _))) ?_
      repeat (first
        | (refine SeqDo.skips (by rfl) ?_; simp only [Act.put, List.setIfInBounds_toArray, List.set_cons_zero, List.set_cons_succ])
        | (refine SeqDo.yields (v := ?_) (by rfl) ?_ ?_; rotate_left; (focus ((intro W hSW; obtain ⟨q0, q1, q2⟩ := (unhide KE W hSW).cells; go_simp) <;> with_reducible rfl)); simp only [Act.put, List.setIfInBounds_toArray, List.set_cons_zero, List.set_cons_succ])
        | (refine SeqDo.does (v := .bool true) (by rfl) (fun W hSW KK hKK => ?_) ?_; (focus (go_simp; go_wp2_with (go_at_call 63; refine (unhide HA W).mono ?_; rintro e W' ⟨rfl, hw⟩; rw [hw]); exact hKK.out _ hSW)); simp only [Act.put, List.setIfInBounds_toArray, List.set_cons_zero, List.set_cons_succ])
        | (refine SeqDo.does (v := .int .i64 zn) (by rfl) (fun W hSW KK hKK => ?_) ?_; (focus (go_simp; go_wp2_with (go_at_call 58; refine (unhide HZ W).mono ?_; rintro e W' ⟨rfl, hw⟩; rw [hw]); exact hKK.out _ hSW)); simp only [Act.put, List.setIfInBounds_toArray, List.set_cons_zero, List.set_cons_succ]))
      intro W hSW
      have HBW := hide (unhide KR W hSW)
      have FW := hide (unhide KB W hSW)
      obtain ⟨k0, k1, k2⟩ := (unhide HBW).cells
      obtain ⟨p0, p1, p2⟩ := (unhide KE W hSW).cells
      go_wp2
      exact bodyPost_ret (ty_ret2 Tryz.results114 _ (w.heap.size + 1) _ _ (ty_set _ _ (unhide HBW).row) _ rfl) rfl ⟨rfl, ty_bel _ _ (unhide FW) (by omega)⟩
    case pos =>
      obtain ⟨t, rfl⟩ := arr_cons ha
      have e : elemP ⟨4, 91 :: t⟩ = if t = [66] then (⟨1, []⟩, 0) else (typeP t, 0) := if_pos ⟨rfl, ha, hzn⟩
      rw [e]
      have HI : Hid (Str (S.extract 1 (91 :: t).length) t) := by
        have := (unhide HS).sub 1 (91 :: t).length
        rw [show ((91 :: t).drop 1).take ((91 :: t).length - 1) = t by simp] at this
        exact this
      by_cases hB : t = [66]
      · rw [if_pos hB]
        subst hB
        rw [hzn] at HZ
        show Calls _ _ _ _ fun e w' => e = .returned (.tuple #[.agg #[.int .i64 1, .string ⟨#[]⟩], .int .i64 0]) ∧ Below w.heap.size w w'
        have hSe : S.extract 1 2 = ⟨#[66]⟩ := (unhide HI).eq
        obtain ⟨zn, hzn2⟩ : ∃ zn : Nat, zn = 2 := ⟨_, rfl⟩
        have hz2 : S.size = 2 := hz
        clear e ha hzn HI hz HS
        replace HZ : Hid (∀ W, Calls Tryz.prog 58 #[.string S] W fun e w' => e = .returned (.int .i64 2) ∧ w' = W) := HZ
        go_enter Tryz.func114, Tryz.ntmps114
        go_wp2
        rw [← unhide HW0]
        refine wp_region_seq SS (by kernel_rfl) (by kernel_rfl) (unhide KI _ (Below.drew (Below.refl _ _))) ?_
        repeat (first
          | (refine SeqDo.skips (by rfl) ?_; simp only [Act.put, List.setIfInBounds_toArray, List.set_cons_zero, List.set_cons_succ])
          | (refine SeqDo.yields (v := ?_) (by rfl) ?_ ?_; rotate_left; (focus ((intro W hSW; obtain ⟨q0, q1, q2⟩ := (unhide KE W hSW).cells; go_simp) <;> with_reducible rfl)); simp only [Act.put, List.setIfInBounds_toArray, List.set_cons_zero, List.set_cons_succ])
          | (refine SeqDo.does (v := .bool true) (by rfl) (fun W hSW KK hKK => ?_) ?_; (focus (go_simp; go_wp2_with (go_at_call 63; refine (unhide HA W).mono ?_; rintro e W' ⟨rfl, hw⟩; rw [hw]); exact hKK.out _ hSW)); simp only [Act.put, List.setIfInBounds_toArray, List.set_cons_zero, List.set_cons_succ])
          | (refine SeqDo.does (v := .int .i64 2) (by rfl) (fun W hSW KK hKK => ?_) ?_; (focus (go_simp; go_wp2_with (go_at_call 58; refine (unhide HZ W).mono ?_; rintro e W' ⟨rfl, hw⟩; rw [hw]); exact hKK.out _ hSW)); simp only [Act.put, List.setIfInBounds_toArray, List.set_cons_zero, List.set_cons_succ]))
        intro W hSW
        have HBW := hide (unhide KR W hSW)
        have FW := hide (unhide KB W hSW)
        obtain ⟨k0, k1, k2⟩ := (unhide HBW).cells
        obtain ⟨p0, p1, p2⟩ := (unhide KE W hSW).cells
        go_wp2
        exact bodyPost_ret (ty_ret2 Tryz.results114 _ (w.heap.size + 1) _ _ (ty_set _ _ (unhide HBW).row) _ rfl) rfl ⟨rfl, ty_bel _ _ (unhide FW) (by omega)⟩
      · rw [if_neg hB]
        obtain ⟨g1, g2⟩ := arr_inner t hzn hB
        obtain ⟨I, hI⟩ : ∃ I, I = S.extract 1 (91 :: t).length := ⟨_, rfl⟩
        rw [← hI] at HI
        have HT : Hid (∀ W, Calls Tryz.prog 59 #[.string I] W fun e w' => e = .returned (tyV (typeP t)) ∧ Below W.heap.size W w') := fun W => ytypeOf_any W I t (unhide HI) (by simp at hs; omega) g2 (sizeN_L g1)
        have i1 : ¬ I.toList = [66] := by rw [(unhide HI).list]; exact hB
        have i2 : (I.toList == [66]) = false := by simpa using i1
        generalize typeP t = tp at *
        obtain ⟨tk, tn⟩ := tp
        unfold tyV at *
        simp only at HT ⊢
        generalize (⟨tn.toArray⟩ : ByteArray) = T at *
        rw [hzn] at HZ
        have hI2 := hI.symm
        have hl1 : 1 ≤ (91 :: t).length := by simp
        generalize (91 :: t).length = n at *
        have hl2 : (1 : Int) ≤ n := by omega
        clear e ha hzn hB HI HS hI
        go_enter Tryz.func114, Tryz.ntmps114
        go_wp2
        rw [← unhide HW0]
        refine wp_region_seq SS (by kernel_rfl) (by kernel_rfl) (unhide KI _ (Below.drew (Below.refl _ _))) ?_
        repeat (first
          | (refine SeqDo.skips (by rfl) ?_; simp only [Act.put, List.setIfInBounds_toArray, List.set_cons_zero, List.set_cons_succ])
          | (refine SeqDo.yields (v := ?_) (by rfl) ?_ ?_; rotate_left; (focus ((intro W hSW; obtain ⟨q0, q1, q2⟩ := (unhide KE W hSW).cells; go_simp) <;> with_reducible rfl)); simp only [Act.put, List.setIfInBounds_toArray, List.set_cons_zero, List.set_cons_succ])
          | (refine SeqDo.does (v := .bool true) (by rfl) (fun W hSW KK hKK => ?_) ?_; (focus (go_simp; go_wp2_with (go_at_call 63; refine (unhide HA W).mono ?_; rintro e W' ⟨rfl, hw⟩; rw [hw]); exact hKK.out _ hSW)); simp only [Act.put, List.setIfInBounds_toArray, List.set_cons_zero, List.set_cons_succ])
          | (refine SeqDo.does (v := .int .i64 n) (by rfl) (fun W hSW KK hKK => ?_) ?_; (focus (go_simp; go_wp2_with (go_at_call 58; refine (unhide HZ W).mono ?_; rintro e W' ⟨rfl, hw⟩; rw [hw]); exact hKK.out _ hSW)); simp only [Act.put, List.setIfInBounds_toArray, List.set_cons_zero, List.set_cons_succ]))
        intro W hSW
        have HBW := hide (unhide KR W hSW)
        have FW := hide (unhide KB W hSW)
        obtain ⟨k0, k1, k2⟩ := (unhide HBW).cells
        obtain ⟨p0, p1, p2⟩ := (unhide KE W hSW).cells
        go_wp2_with fail
        refine (unhide HT W).mono ?_
        rintro e w1 ⟨rfl, f1⟩
        have HB2 := hide ((unhide HBW).keep f1)
        have F2 := hide ((unhide FW).trans (f1.mono (unhide FW).size))
        clear k0 k1 k2 p0 p1 p2
        obtain ⟨k0, k1, k2⟩ := (unhide HB2).cells
        clear f1
        go_wp2
        exact bodyPost_ret (ty_ret2 Tryz.results114 _ (w.heap.size + 1) _ _ (ty_set _ _ (unhide HB2).row) _ rfl) rfl ⟨rfl, ty_bel _ _ (unhide F2) (by omega)⟩
end Go.Proofs.YthenefjoidckkaaGreatDoor

/- The document's Elem. -/
namespace Go.Proofs.YthenefjoidckkaaGreatDoor
open Go.RowKit
set_option linter.unusedVariables false
set_option maxRecDepth 100000

set_option maxHeartbeats 1600000 in
theorem x10Elem_any (w : World) (k : Int) (S : ByteArray) (s : List UInt8) (hS : Str S s) (hs : s.length ≤ 140737488351232) : Calls Tryz.prog 66 #[.agg #[.int .i64 k, .string S]] w fun e w' => e = .returned (.tuple #[tyV (elemP ⟨k, s⟩).1, .int .i64 (elemP ⟨k, s⟩).2]) ∧ Below w.heap.size w w' := by
  rw [elem_ref]
  obtain ⟨w0, hw0, hB1, hB2, f0⟩ := two_boxes w (.int .i64 k) (.string S)
  have HW0 := hide hw0
  clear hw0
  have HP := hide (x10Print_any w0 k S s hS hs)
  have hz := hS.size
  have hpe := prn_err ⟨k, s⟩
  have HB1 := hide hB1
  have HB2 := hide hB2
  have F0 := hide f0
  have HS := hide hS
  have HA : Hid (∀ W, Calls Tryz.prog 48 #[.string S] W fun e w' => e = .returned (.bool (arrB s)) ∧ w' = W) := fun W => x10array_any W S s hS
  clear hB1 hB2 f0 hS
  by_cases hc : (prnP ⟨k, s⟩).2 = 0 ∧ k = 4 ∧ arrB s = true
  case neg =>
    rw [if_neg hc]
    show Calls _ _ _ _ fun e w' => e = .returned (.tuple #[.agg #[.int .i64 0, .string ⟨#[]⟩], .int .i64 100]) ∧ Below w.heap.size w w'
    rcases hpe with hp | hp
    · rw [hp] at HP
      generalize (⟨(prnP ⟨k, s⟩).1.toArray⟩ : ByteArray) = P at *
      by_cases h4 : k = 4
      · subst h4
        have ha : arrB s = false := by
          cases h : arrB s
          · rfl
          · exact absurd ⟨hp, rfl, h⟩ hc
        rw [ha] at HA
        clear hc hp ha
        go_enter Tryz.func66, Tryz.ntmps66
        go_wp2_with fail
        rw [← unhide HW0]
        refine (unhide HP).mono ?_
        rintro e w1 ⟨rfl, f1⟩
        have HBP := hide ((unhide HB1).keep f1)
        have HBR := hide ((unhide HB2).keep f1)
        have F1 := hide ((unhide F0).trans (f1.mono (unhide F0).size))
        obtain ⟨k0, k1, k2⟩ := (unhide HBR).cells
        obtain ⟨p0, p1, p2⟩ := (unhide HBP).cells
        clear f1
        go_wp2_with (go_at_call 48; refine (unhide HA w1).mono ?_; rintro e w' ⟨rfl, hw⟩; rw [hw]; clear hw)
        exact bodyPost_ret (ty_ret2 Tryz.results66 _ (w.heap.size + 1) _ _ (ty_set _ _ (unhide HBR).row) _ rfl) rfl ⟨rfl, ty_bel _ _ (unhide F1) (by omega)⟩
      · have h4' : (k == 4) = false := by simpa using h4
        have h4'' : (k != 4) = true := by simpa using h4
        clear hc hp
        go_enter Tryz.func66, Tryz.ntmps66
        go_wp2_with fail
        rw [← unhide HW0]
        refine (unhide HP).mono ?_
        rintro e w1 ⟨rfl, f1⟩
        have HBP := hide ((unhide HB1).keep f1)
        have HBR := hide ((unhide HB2).keep f1)
        have F1 := hide ((unhide F0).trans (f1.mono (unhide F0).size))
        obtain ⟨k0, k1, k2⟩ := (unhide HBR).cells
        obtain ⟨p0, p1, p2⟩ := (unhide HBP).cells
        clear f1
        go_wp2
        exact bodyPost_ret (ty_ret2 Tryz.results66 _ (w.heap.size + 1) _ _ (ty_set _ _ (unhide HBR).row) _ rfl) rfl ⟨rfl, ty_bel _ _ (unhide F1) (by omega)⟩
    · rw [hp] at HP
      simp only at HP
      clear hc hp
      go_enter Tryz.func66, Tryz.ntmps66
      go_wp2_with fail
      rw [← unhide HW0]
      refine (unhide HP).mono ?_
      rintro e w1 ⟨rfl, f1⟩
      have HBP := hide ((unhide HB1).keep f1)
      have HBR := hide ((unhide HB2).keep f1)
      have F1 := hide ((unhide F0).trans (f1.mono (unhide F0).size))
      obtain ⟨k0, k1, k2⟩ := (unhide HBR).cells
      obtain ⟨p0, p1, p2⟩ := (unhide HBP).cells
      clear f1
      go_wp2
      exact bodyPost_ret (ty_ret2 Tryz.results66 _ (w.heap.size + 1) _ _ (ty_set _ _ (unhide HBR).row) _ rfl) rfl ⟨rfl, ty_bel _ _ (unhide F1) (by omega)⟩
  case pos =>
    rw [if_pos hc]
    obtain ⟨hp, rfl, ha⟩ := hc
    rw [hp] at HP
    rw [ha] at HA
    generalize (⟨(prnP ⟨4, s⟩).1.toArray⟩ : ByteArray) = P at *
    clear hpe hp
    by_cases hB : s = [91, 66]
    · rw [if_pos hB]
      show Calls _ _ _ _ fun e w' => e = .returned (.tuple #[.agg #[.int .i64 1, .string ⟨#[]⟩], .int .i64 0]) ∧ Below w.heap.size w w'
      obtain rfl : S = ⟨#[91, 66]⟩ := by rw [(unhide HS).eq, hB]
      clear hB HS ha hs
      go_enter Tryz.func66, Tryz.ntmps66
      go_wp2_with fail
      rw [← unhide HW0]
      refine (unhide HP).mono ?_
      rintro e w1 ⟨rfl, f1⟩
      have HBP := hide ((unhide HB1).keep f1)
      have HBR := hide ((unhide HB2).keep f1)
      have F1 := hide ((unhide F0).trans (f1.mono (unhide F0).size))
      obtain ⟨k0, k1, k2⟩ := (unhide HBR).cells
      obtain ⟨p0, p1, p2⟩ := (unhide HBP).cells
      clear f1
      go_wp2_with (go_at_call 48; refine (unhide HA w1).mono ?_; rintro e w' ⟨rfl, hw⟩; rw [hw]; clear hw)
      exact bodyPost_ret (ty_ret2 Tryz.results66 _ (w.heap.size + 1) _ _ (ty_set _ _ (unhide HBR).row) _ rfl) rfl ⟨rfl, ty_bel _ _ (unhide F1) (by omega)⟩
    · rw [if_neg hB]
      obtain ⟨t, rfl⟩ := arr_cons ha
      simp only [List.drop_succ_cons, List.drop_zero]
      obtain ⟨I, hI⟩ : ∃ I, S.extract 1 (91 :: t).length = I := ⟨_, rfl⟩
      have HI : Hid (Str I t) := by
        have := (unhide HS).sub 1 (91 :: t).length
        rw [show ((91 :: t).drop 1).take ((91 :: t).length - 1) = t by simp, hI] at this
        exact this
      have HT : Hid (∀ W, Calls Tryz.prog 45 #[.string I] W fun e w' => e = .returned (.tuple #[tyV (parP t).1, .int .i64 (parP t).2]) ∧ Below W.heap.size W w') := fun W => x10Parse_any W I t (unhide HI) (by simp at hs; omega)
      have i1 : ¬ S.toList = [91, 66] := by rw [(unhide HS).list]; exact hB
      have i2 : (S.toList == [91, 66]) = false := by simpa using i1
      generalize parP t = pp at *
      obtain ⟨⟨tk, tn⟩, te⟩ := pp
      unfold tyV at *
      simp only at HT ⊢
      generalize (⟨tn.toArray⟩ : ByteArray) = T at *
      have hl1 : 1 ≤ (91 :: t).length := by simp
      generalize (91 :: t).length = n at *
      have hl2 : (1 : Int) ≤ n := by omega
      clear hB HI HS ha
      go_enter Tryz.func66, Tryz.ntmps66
      go_wp2_with fail
      rw [← unhide HW0]
      refine (unhide HP).mono ?_
      rintro e w1 ⟨rfl, f1⟩
      have HBP := hide ((unhide HB1).keep f1)
      have HBR := hide ((unhide HB2).keep f1)
      have F1 := hide ((unhide F0).trans (f1.mono (unhide F0).size))
      obtain ⟨k0, k1, k2⟩ := (unhide HBR).cells
      obtain ⟨p0, p1, p2⟩ := (unhide HBP).cells
      clear f1
      go_wp2_with (first | (go_at_call 48; refine (unhide HA w1).mono ?_; rintro e w' ⟨rfl, hw⟩; rw [hw]; clear hw) | fail)
      refine (unhide HT w1).mono ?_
      rintro e w2 ⟨rfl, f2⟩
      have HBR2 := hide ((unhide HBR).keep f2)
      have F2 := hide ((unhide F1).trans (f2.mono (unhide F1).size))
      clear k0 k1 k2 p0 p1 p2
      obtain ⟨k0, k1, k2⟩ := (unhide HBR2).cells
      clear f2
      go_wp2
      exact bodyPost_ret (ty_ret2 Tryz.results66 _ (w.heap.size + 1) _ _ (ty_set _ _ (unhide HBR2).row) _ rfl) rfl ⟨rfl, ty_bel _ _ (unhide F2) (by omega)⟩
end Go.Proofs.YthenefjoidckkaaGreatDoor

/- How wide types are: both. -/
namespace Go.Proofs.YthenefjoidckkaaGreatDoor
open Go.RowKit
set_option linter.unusedVariables false
set_option maxRecDepth 100000

def wideN (l : List Ty) : Nat := l.length + l.countP (fun t => decide (t.kind = 2))
theorem wide_take {l : List Ty} {k : Nat} {t : Ty} (h : l[k]? = some t) : (l.take (k + 1)).countP (fun t => decide (t.kind = 2)) = (l.take k).countP (fun t => decide (t.kind = 2)) + (if t.kind = 2 then 1 else 0) := by
  have hk := (List.getElem?_eq_some_iff.1 h).1
  rw [List.take_succ_eq_append_getElem hk, List.countP_append]
  rw [(List.getElem?_eq_some_iff.1 h).2]
  by_cases h2 : t.kind = 2 <;> simp [h2]
set_option maxHeartbeats 800000 in
theorem yWide_any (w : World) (a : Option Addr) (n c : Nat) (l : List Ty) (h : Ls 2 tyc w a n l) (hn : n ≤ 140737488351232) : Calls Tryz.prog 26 #[.slice a n c] w fun e w' => e = .returned (.int .i64 (wideN l)) ∧ Below w.heap.size w w' := by
  have hln := h.1
  have HL := hide h
  clear h
  go_enter Tryz.func26, Tryz.ntmps26
  go_wp2
  go_loopw [3, 10] (fun c i wr => ∃ k m : Nat, k ≤ n ∧ m ≤ k ∧ i = .int .i64 k ∧ c = .int .i64 ((n : Int) + m) ∧ Below w.heap.size w wr ∧ Hid (m = (l.take k).countP (fun t => decide (t.kind = 2)))) (fun c i _ => n - (intOf i).toNat)
  case atStart => exact ⟨0, 0, by omega, by omega, rfl, by simp, Below.refl _ _, by show 0 = _; simp⟩
  case round =>
    obtain ⟨k, m, hk, hm, rfl, rfl, hR, HM⟩ := hrel
    by_cases hlt : k < n
    · have hlt1 : (k : Int) < (n : Int) := by omega
      obtain ⟨b1, o1, h1a, h1⟩ := Ls.row (unhide HL) (w' := w) (by omega)
      subst h1a
      obtain ⟨r, hr⟩ : ∃ r, l[k]? = some r := ⟨_, List.getElem?_eq_getElem (by omega)⟩
      have q1 := h1 hR k r hr
      have c0 := q1.zero
      have c1 := q1 1 _ rfl
      clear q1 h1
      have HN := wide_take hr
      obtain ⟨rk, rn⟩ := r
      simp only at c0 c1 HN
      generalize (⟨rn.toArray⟩ : ByteArray) = S at *
      have HR := hide hR
      have HN' := hide HN
      clear hr hR HN
      by_cases h2 : rk = 2
      · subst h2
        go_wp2
        go_roundw
        case rel => exact ⟨k + 1, m + 1, by omega, by omega, by go_num, (by first | (go_num; done) | (congr 1; omega)), bA (unhide HR) _, by have h3 := unhide HN'; have h4 := unhide HM; show m + 1 = _; rw [h3, ← h4]; rfl⟩
        case measure => simp [intOf]; omega
      · have h2' : (rk == 2) = false := by simpa using h2
        go_wp2
        go_roundw
        case rel => exact ⟨k + 1, m, by omega, by omega, by go_num, (by first | rfl | (go_num; done) | (congr 1; omega)), bA (unhide HR) _, by have h3 := unhide HN'; have h4 := unhide HM; show m = _; rw [h3, ← h4, if_neg h2]; rfl⟩
        case measure => simp [intOf]; omega
    · obtain rfl : k = n := by omega
      have HR := hide hR
      clear hR
      go_wp2
      go_ret
      refine ⟨ret_int ?_, unhide HR⟩
      have h4 := unhide HM
      rw [List.take_of_length_le (by omega)] at h4
      unfold wideN
      rw [hln, ← h4]
      omega
set_option maxHeartbeats 800000 in
theorem x10Wide_any (w : World) (a : Option Addr) (n c : Nat) (l : List Ty) (h : Ls 2 tyc w a n l) (hn : n ≤ 140737488351232) : Calls Tryz.prog 16 #[.slice a n c] w fun e w' => e = .returned (.int .i64 (wideN l)) ∧ Below w.heap.size w w' := by
  have hln := h.1
  have HL := hide h
  clear h
  go_enter Tryz.func16, Tryz.ntmps16
  go_wp2
  go_loopw [3, 4] (fun c i wr => ∃ k m : Nat, k ≤ n ∧ m ≤ k ∧ i = .int .i64 k ∧ c = .int .i64 ((k : Int) + m) ∧ Below w.heap.size w wr ∧ Hid (m = (l.take k).countP (fun t => decide (t.kind = 2)))) (fun c i _ => n - (intOf i).toNat)
  case atStart => exact ⟨0, 0, by omega, by omega, rfl, by simp, Below.refl _ _, by show 0 = _; simp⟩
  case round =>
    obtain ⟨k, m, hk, hm, rfl, rfl, hR, HM⟩ := hrel
    by_cases hlt : k < n
    · have hlt1 : (k : Int) < (n : Int) := by omega
      obtain ⟨b1, o1, h1a, h1⟩ := Ls.row (unhide HL) (w' := w) (by omega)
      subst h1a
      obtain ⟨r, hr⟩ : ∃ r, l[k]? = some r := ⟨_, List.getElem?_eq_getElem (by omega)⟩
      have q1 := h1 hR k r hr
      have c0 := q1.zero
      have c1 := q1 1 _ rfl
      clear q1 h1
      have HN := wide_take hr
      obtain ⟨rk, rn⟩ := r
      simp only at c0 c1 HN
      generalize (⟨rn.toArray⟩ : ByteArray) = S at *
      have HR := hide hR
      have HN' := hide HN
      clear hr hR HN
      by_cases h2 : rk = 2
      · subst h2
        go_wp2
        go_roundw
        case rel => exact ⟨k + 1, m + 1, by omega, by omega, by go_num, (by first | (go_num; done) | (congr 1; omega)), unhide HR, by have h3 := unhide HN'; have h4 := unhide HM; show m + 1 = _; rw [h3, ← h4]; rfl⟩
        case measure => simp [intOf]; omega
      · have h2' : (rk == 2) = false := by simpa using h2
        go_wp2
        go_roundw
        case rel => exact ⟨k + 1, m, by omega, by omega, by go_num, (by first | rfl | (go_num; done) | (congr 1; omega)), unhide HR, by have h3 := unhide HN'; have h4 := unhide HM; show m = _; rw [h3, ← h4, if_neg h2]; rfl⟩
        case measure => simp [intOf]; omega
    · obtain rfl : k = n := by omega
      have HR := hide hR
      clear hR
      go_wp2
      go_ret
      refine ⟨ret_int ?_, unhide HR⟩
      have h4 := unhide HM
      rw [List.take_of_length_le (by omega)] at h4
      unfold wideN
      rw [hln, ← h4]
      omega
end Go.Proofs.YthenefjoidckkaaGreatDoor
