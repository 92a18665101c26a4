/- The landed Print. -/
import Derived.Test.YtjhiflhmefhogaaKdI
namespace Go.Proofs.Ytjhiflhmefhogaa
open Go.RowKit
set_option linter.unusedVariables false
set_option maxRecDepth 100000

theorem ty_cmp (w : World) (k k' : Int) (S S' : ByteArray) :
    (binOp .eql 23 (.agg #[.int .i64 k, .string S]) (.agg #[.int .i64 k', .string S'])).run Try.prog w = .ok (.bool (decide (k = k' ∧ S = S'))) w := by
  rw [run_eql_struct]
  go_simp
  have e1 : S.toList = S'.toList ↔ S = S' := by
    constructor
    · intro h
      rw [ByteArray.toList_eq, ByteArray.toList_eq] at h
      exact ByteArray.ext (by cases hA : S.data; cases hB : S'.data; rw [hA, hB] at h; simpa using h)
    · intro h; rw [h]
  repeat' split
  all_goals
    congr 2
    simp_all
theorem ty_cmpN (w : World) (k k' : Int) (S S' : ByteArray) :
    (binOp .neq 23 (.agg #[.int .i64 k, .string S]) (.agg #[.int .i64 k', .string S'])).run Try.prog w = .ok (.bool (!decide (k = k' ∧ S = S'))) w := by
  have h := ty_cmp w k k' S S'
  rw [run_eql_struct] at h
  rw [run_neq_struct]
  cases hq : (Op.equalIn 10000 23 (.agg #[.int .i64 k, .string S]) (.agg #[.int .i64 k', .string S'])).run Try.prog w with
  | ok b w' =>
    rw [hq] at h
    simp only [Result.andThen_ok, Result.ok.injEq, Value.bool.injEq] at h
    rw [h.1, h.2]
    rfl
  | halt h1 w' =>
    rw [hq] at h
    simp [Result.andThen] at h
def prnP (t : Ty) : List UInt8 × Int := if (parP (spelP t)).2 = 0 ∧ (parP (spelP t)).1 = t then (spelP t, 0) else ([], 100)
theorem spelP_len (t : Ty) : (spelP t).length ≤ t.name.length + 2 := by
  unfold spelP
  repeat' split
  all_goals simp
theorem parP_err (s : List UInt8) : (parP s).2 = 0 ∨ (parP s).2 = 100 := by
  unfold parP
  split
  · exact .inr rfl
  · exact .inl rfl
set_option maxHeartbeats 1600000 in
theorem yPrint_any (w : World) (k : Int) (S : ByteArray) (s : List UInt8) (hS : Str S s) (hs : s.length ≤ 140737488351232) : Calls Try.prog 17 #[.agg #[.int .i64 k, .string S]] w fun e w' => e = .returned (.tuple #[.string ⟨(prnP ⟨k, s⟩).1.toArray⟩, .int .i64 (prnP ⟨k, s⟩).2]) ∧ Below w.heap.size w w' := by
  obtain ⟨w0, hw0⟩ : ∃ w0, w0 = w.alloc (.cells #[.int .i64 k, .string S] 23) := ⟨_, rfl⟩
  have HB : Hid (Bx2c w0 w.heap.size (.int .i64 k) (.string S)) := by rw [hw0]; exact Bx2c.made _ _ _
  have F0 : Hid (Below w.heap.size w w0) := by rw [hw0]; exact bA (Below.refl _ _) _
  have HW0 := hide hw0
  clear hw0
  have HS := hide (yspelt_any w0 k S s hS hs)
  have hlen := spelP_len ⟨k, s⟩
  simp only at hlen
  have HP : Hid (∀ W, Calls Try.prog 9 #[.string ⟨(spelP ⟨k, s⟩).toArray⟩] W fun e w' => e = .returned (.tuple #[tyV (parP (spelP ⟨k, s⟩)).1, .int .i64 (parP (spelP ⟨k, s⟩)).2]) ∧ Below W.heap.size W w') := fun W => yParse_any W _ _ ⟨rfl⟩ (by omega)
  have hpe := parP_err (spelP ⟨k, s⟩)
  unfold prnP
  rcases hpp : parP (spelP ⟨k, s⟩) with ⟨⟨yk, yn⟩, pe⟩
  rw [hpp] at HP hpe
  unfold tyV at HP
  simp only at HP hpe ⊢
  have HEq : Hid ((⟨yk, yn⟩ : Ty) = ⟨k, s⟩ ↔ yk = k ∧ (⟨yn.toArray⟩ : ByteArray) = S) := by
    show _ ↔ _
    rw [hS.eq]
    simp
  generalize spelP ⟨k, s⟩ = sp at *
  generalize (⟨yn.toArray⟩ : ByteArray) = Y at *
  by_cases hok : pe = 0 ∧ (⟨yk, yn⟩ : Ty) = ⟨k, s⟩
  · rw [if_pos hok]
    obtain ⟨rfl, hy⟩ := hok
    obtain ⟨rfl, rfl⟩ := (unhide HEq).1 hy
    simp only
    generalize (⟨sp.toArray⟩ : ByteArray) = P at *
    clear hS hpp HEq hy hpe hlen
    go_enter Try.func17, Try.ntmps17
    go_wp2_with fail
    rw [← unhide HW0]
    refine (unhide HS).mono ?_
    rintro e w1 ⟨rfl, f1⟩
    go_wp2_with fail
    refine (unhide HP w1).mono ?_
    rintro e w2 ⟨rfl, f2⟩
    have B2 := ((unhide HB).keep f1).keep f2
    have HB3 : Hid (Bx2c (w2.alloc (.cells #[.int .i64 yk, .string Y] 23)) w.heap.size _ _) := B2.keep (bA (Below.refl _ _) _)
    have F1 := (unhide F0).trans (f1.mono (unhide F0).size)
    have F2 := F1.trans (f2.mono F1.size)
    have F3 : Hid (Below w.heap.size w (w2.alloc (.cells #[.int .i64 yk, .string Y] 23))) := bA F2 _
    have HY : Hid (Bx2c (w2.alloc (.cells #[.int .i64 yk, .string Y] 23)) w2.heap.size _ _) := Bx2c.made _ _ _
    obtain ⟨k0, k1, k2⟩ := (unhide HB3).cells
    obtain ⟨j0, j1, j2⟩ := (unhide HY).cells
    have JN := fun W => ty_cmpN W yk yk Y Y
    clear f1 f2 B2 F1 F2
    go_wp2
    go_ret2
    exact ⟨rfl, unhide F3⟩
  · rw [if_neg hok]
    simp only
    rcases hpe with rfl | rfl
    · have hne : ¬ (yk = k ∧ Y = S) := fun h => hok ⟨rfl, (unhide HEq).2 h⟩
      have JN : ∀ W, (binOp .neq 23 (.agg #[.int .i64 yk, .string Y]) (.agg #[.int .i64 k, .string S])).run Try.prog W = .ok (.bool true) W := fun W => by
        rw [ty_cmpN, decide_eq_false hne]
        rfl
      generalize (⟨sp.toArray⟩ : ByteArray) = P at *
      clear hS hpp HEq hlen hok hne
      go_enter Try.func17, Try.ntmps17
      go_wp2_with fail
      rw [← unhide HW0]
      refine (unhide HS).mono ?_
      rintro e w1 ⟨rfl, f1⟩
      go_wp2_with fail
      refine (unhide HP w1).mono ?_
      rintro e w2 ⟨rfl, f2⟩
      have B2 := ((unhide HB).keep f1).keep f2
      have HB3 : Hid (Bx2c (w2.alloc (.cells #[.int .i64 yk, .string Y] 23)) w.heap.size _ _) := B2.keep (bA (Below.refl _ _) _)
      have F1 := (unhide F0).trans (f1.mono (unhide F0).size)
      have F2 := F1.trans (f2.mono F1.size)
      have F3 : Hid (Below w.heap.size w (w2.alloc (.cells #[.int .i64 yk, .string Y] 23))) := bA F2 _
      have HY : Hid (Bx2c (w2.alloc (.cells #[.int .i64 yk, .string Y] 23)) w2.heap.size _ _) := Bx2c.made _ _ _
      obtain ⟨k0, k1, k2⟩ := (unhide HB3).cells
      obtain ⟨j0, j1, j2⟩ := (unhide HY).cells
      clear f1 f2 B2 F1 F2
      go_wp2
      go_ret2
      exact ⟨rfl, unhide F3⟩
    · generalize (⟨sp.toArray⟩ : ByteArray) = P at *
      clear hS hpp HEq hlen hok
      go_enter Try.func17, Try.ntmps17
      go_wp2_with fail
      rw [← unhide HW0]
      refine (unhide HS).mono ?_
      rintro e w1 ⟨rfl, f1⟩
      go_wp2_with fail
      refine (unhide HP w1).mono ?_
      rintro e w2 ⟨rfl, f2⟩
      have B2 := ((unhide HB).keep f1).keep f2
      have HB3 : Hid (Bx2c (w2.alloc (.cells #[.int .i64 yk, .string Y] 23)) w.heap.size _ _) := B2.keep (bA (Below.refl _ _) _)
      have F1 := (unhide F0).trans (f1.mono (unhide F0).size)
      have F2 := F1.trans (f2.mono F1.size)
      have F3 : Hid (Below w.heap.size w (w2.alloc (.cells #[.int .i64 yk, .string Y] 23))) := bA F2 _
      have HY : Hid (Bx2c (w2.alloc (.cells #[.int .i64 yk, .string Y] 23)) w2.heap.size _ _) := Bx2c.made _ _ _
      obtain ⟨k0, k1, k2⟩ := (unhide HB3).cells
      obtain ⟨j0, j1, j2⟩ := (unhide HY).cells
      clear f1 f2 B2 F1 F2
      go_wp2
      go_ret2
      exact ⟨rfl, unhide F3⟩
end Go.Proofs.Ytjhiflhmefhogaa
