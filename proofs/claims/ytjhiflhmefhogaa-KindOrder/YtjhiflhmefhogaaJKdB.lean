/- The landed kind: letters, names of classes, the library's HasPrefix, CutPrefix, IndexByte. -/
import Derived.Test.YtjhiflhmefhogaaJKdA

namespace Go.Proofs.Ytjhiflhmefhogaa
open Go.RowKit
set_option linter.unusedVariables false
set_option maxRecDepth 100000

theorem ret_iff {a b : Bool} (h : a = true ↔ b = true) : Ending.returned (.bool a) = .returned (.bool b) := by rw [Bool.eq_iff_iff.2 h]

set_option maxHeartbeats 400000 in
theorem yletter_any (w : World) (c : UInt8) : Calls Try.prog 36 #[.int .u8 c.toNat] w fun e w' => e = .returned (.bool (letB c)) ∧ w' = w := by
  have hc := c.toNat_lt
  unfold letB
  generalize c.toNat = n at *
  go_enter Try.func36, Try.ntmps36
  go_wp2
  all_goals
    go_ret
    refine ⟨ret_iff ?_, rfl⟩
    simp
    try omega
set_option maxHeartbeats 400000 in
theorem x10letter_any (w : World) (c : UInt8) : Calls Try.prog 38 #[.int .u8 c.toNat] w fun e w' => e = .returned (.bool (letB c)) ∧ w' = w := by
  have hc := c.toNat_lt
  unfold letB
  generalize c.toNat = n at *
  go_enter Try.func38, Try.ntmps38
  go_wp2
  all_goals
    go_ret
    refine ⟨ret_iff ?_, rfl⟩
    simp
    try omega
set_option maxHeartbeats 400000 in
theorem yinName_any (w : World) (c : UInt8) : Calls Try.prog 37 #[.int .u8 c.toNat] w fun e w' => e = .returned (.bool (namB c)) ∧ w' = w := by
  have hc := c.toNat_lt
  have HL := hide (yletter_any w c)
  unfold namB
  generalize letB c = b at *
  generalize c.toNat = n at *
  go_enter Try.func37, Try.ntmps37
  cases b
  all_goals
    go_wp2_with (go_at_call 36; refine (unhide HL).mono ?_; rintro e w' ⟨rfl, rfl⟩)
  all_goals
    go_ret
    refine ⟨ret_iff ?_, rfl⟩
    simp
    try omega
set_option maxHeartbeats 400000 in
theorem liteHasP_any (w : World) (s p : ByteArray) : Calls Try.prog 54 #[.string s, .string p] w fun e w' => e = .returned (.bool (Lib.hasPrefix s.data.toList p.data.toList)) ∧ w' = w := by
  rw [← Lib.hasPrefix_of_take, ← Lib.size_eq, ← Lib.size_eq]
  go_enter Try.func54, Try.ntmps54
  go_wp2
  · rename_i h
    go_ret
    refine ⟨?_, rfl⟩
    show Ending.returned (Value.bool ((s.extract 0 p.size).toList == p.toList)) = _
    rw [Lib.extract_toList, Lib.toList_data]
    simp [h]
  · rename_i h
    go_ret
    refine ⟨?_, rfl⟩
    show Ending.returned (Value.bool false) = _
    simp [h]
set_option maxHeartbeats 400000 in
theorem strHasP_any (w : World) (s p : ByteArray) : Calls Try.prog 47 #[.string s, .string p] w fun e w' => e = .returned (.bool (Lib.hasPrefix s.data.toList p.data.toList)) ∧ w' = w := by
  have HL := hide (liteHasP_any w s p)
  go_enter Try.func47, Try.ntmps47
  go_wp2_with (go_at_call 54; refine (unhide HL).mono ?_; rintro e w' ⟨rfl, rfl⟩)
  go_ret
  exact ⟨rfl, rfl⟩
set_option maxHeartbeats 400000 in
theorem liteIdx_any (w : World) (s : ByteArray) (c : Int) : Calls Try.prog 58 #[.string s, .int .u8 c] w fun e w' => e = .returned (.int .i64 (Lib.indexByte s.data.toList c.toNat.toUInt8)) ∧ w' = w := by
  have hx : (callFunc 59 #[.string s, .int .u8 c]).run Try.prog w = .ok (.value (.int .i64 (Lib.indexByte s.data.toList c.toNat.toUInt8))) w := by
    rw [run_callFunc_extern Try.func59 (by kernel_rfl) (by kernel_rfl) (by kernel_rfl) (e := Extern.BytealgIndexByte.indexByte) (by kernel_rfl), Lib.run_indexByteString]
    rfl
  go_enter Try.func58, Try.ntmps58
  go_wp2
  go_ret
  exact ⟨rfl, rfl⟩
set_option maxHeartbeats 400000 in
theorem strIdx_any (w : World) (s : ByteArray) (c : Int) : Calls Try.prog 52 #[.string s, .int .u8 c] w fun e w' => e = .returned (.int .i64 (Lib.indexByte s.data.toList c.toNat.toUInt8)) ∧ w' = w := by
  have HL := hide (liteIdx_any w s c)
  go_enter Try.func52, Try.ntmps52
  go_wp2_with (go_at_call 58; refine (unhide HL).mono ?_; rintro e w' ⟨rfl, rfl⟩)
  go_ret
  exact ⟨rfl, rfl⟩
set_option maxHeartbeats 400000 in
theorem liteCutP_any (w : World) (s p : ByteArray) : Calls Try.prog 53 #[.string s, .string p] w fun e w' => e = .returned (if Lib.hasPrefix s.data.toList p.data.toList then .tuple #[.string (s.extract p.size s.size), .bool true] else .tuple #[.string s, .bool false]) ∧ w' = w := by
  have HL := hide (liteHasP_any w s p)
  have h1 : Lib.hasPrefix s.data.toList p.data.toList = true → p.size ≤ s.size := fun h => by
    rw [← Lib.hasPrefix_raw] at h
    simp at h
    exact h.1
  generalize Lib.hasPrefix s.data.toList p.data.toList = b at *
  cases b
  · clear h1
    go_enter Try.func53, Try.ntmps53
    go_wp2_with (go_at_call 54; refine (unhide HL).mono ?_; rintro e w' ⟨rfl, rfl⟩)
    go_ret2
    exact ⟨rfl, rfl⟩
  · have h2 := h1 rfl
    clear h1
    go_enter Try.func53, Try.ntmps53
    go_wp2_with (go_at_call 54; refine (unhide HL).mono ?_; rintro e w' ⟨rfl, rfl⟩)
    go_ret2
    exact ⟨rfl, rfl⟩
set_option maxHeartbeats 400000 in
theorem strCutP_any (w : World) (s p : ByteArray) : Calls Try.prog 46 #[.string s, .string p] w fun e w' => e = .returned (if Lib.hasPrefix s.data.toList p.data.toList then .tuple #[.string (s.extract p.size s.size), .bool true] else .tuple #[.string s, .bool false]) ∧ w' = w := by
  have HL := hide (liteCutP_any w s p)
  generalize Lib.hasPrefix s.data.toList p.data.toList = b at *
  cases b
  all_goals
    go_enter Try.func46, Try.ntmps46
    go_wp2_with (go_at_call 53; refine (unhide HL).mono ?_; rintro e w' ⟨rfl, rfl⟩)
    go_ret2
    exact ⟨rfl, rfl⟩
end Go.Proofs.Ytjhiflhmefhogaa
