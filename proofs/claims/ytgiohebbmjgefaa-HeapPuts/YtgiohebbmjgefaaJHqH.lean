/- Layer 15, the landed code: zero; what Array answers. -/
import Derived.Test.YtgiohebbmjgefaaJHpI

namespace Go.Proofs.Ytgiohebbmjgefaa
open Go.RowKit
set_option linter.unusedVariables false
set_option maxRecDepth 100000

theorem ty_list (t : List UInt8) : (⟨t.toArray⟩ : ByteArray).toList = t := by simp
set_option maxHeartbeats 800000 in
theorem zero_any (w : World) (t : List UInt8) :
    Calls Try.prog 42 #[.string ⟨t.toArray⟩] w fun e w' => e = .returned (.agg #[.int .i64 (wordKindH t), .int .i64 0]) ∧ Below w.heap.size w w' := by
  have hl := ty_list t
  generalize (⟨t.toArray⟩ : ByteArray) = st at *
  have r0 : (w.alloc (.cells #[.int .i64 0, .int .i64 0] 33)).heap[w.heap.size]? = some (.cells #[.int .i64 0, .int .i64 0] 33 (0, 0)) := heap_alloc_last _ _
  have j0 := bx_cell r0 0 _ rfl
  have j1 := bx_cell r0 1 _ rfl
  have y0 := bx_thaw r0 0
  have y1 := bx_thaw r0 1
  clear r0
  have HL := hide hl
  by_cases h1 : t = [91, 73]
  · have e1 : st.toList = [91, 73] := by rw [hl, h1]
    have e1b : (st.toList == [91, 73]) = true := by simpa using e1
    have HK : Hid (wordKindH t = 1) := hide (by unfold wordKindH; rw [if_pos (.inl h1)])
    clear hl h1
    go_enter Try.func42, Try.ntmps42
    go_wp2
    exact bodyPost_ret (res_v Try.results42 _ w.heap.size _ _ (heap_alloc_last _ _) _ rfl) rfl ⟨by rw [unhide HK], (Below.refl _ _).alloc (Nat.le_refl _) _⟩
  · have e1 : ¬ st.toList = [91, 73] := by rw [hl]; exact h1
    have e1b : (st.toList == [91, 73]) = false := by simpa using e1
    by_cases h2 : t = [91, 66]
    · have e2 : st.toList = [91, 66] := by rw [hl, h2]
      have e2b : (st.toList == [91, 66]) = true := by simpa using e2
      have HK : Hid (wordKindH t = 1) := hide (by unfold wordKindH; rw [if_pos (.inr h2)])
      clear hl h1 h2
      go_enter Try.func42, Try.ntmps42
      go_wp2
      exact bodyPost_ret (res_v Try.results42 _ w.heap.size _ _ (heap_alloc_last _ _) _ rfl) rfl ⟨by rw [unhide HK], (Below.refl _ _).alloc (Nat.le_refl _) _⟩
    · have e2 : ¬ st.toList = [91, 66] := by rw [hl]; exact h2
      have e2b : (st.toList == [91, 66]) = false := by simpa using e2
      by_cases h3 : t = [91, 74]
      · have e3 : st.toList = [91, 74] := by rw [hl, h3]
        have e3b : (st.toList == [91, 74]) = true := by simpa using e3
        have HK : Hid (wordKindH t = 2) := hide (by unfold wordKindH; rw [if_neg (by rintro (h | h); exact h1 h; exact h2 h), if_pos h3])
        clear hl h1 h2 h3
        go_enter Try.func42, Try.ntmps42
        go_wp2
        exact bodyPost_ret (res_v Try.results42 _ w.heap.size _ _ (heap_alloc_last _ _) _ rfl) rfl ⟨by rw [unhide HK], (Below.refl _ _).alloc (Nat.le_refl _) _⟩
      · have e3 : ¬ st.toList = [91, 74] := by rw [hl]; exact h3
        have e3b : (st.toList == [91, 74]) = false := by simpa using e3
        have HK : Hid (wordKindH t = 4) := hide (by unfold wordKindH; rw [if_neg (by rintro (h | h); exact h1 h; exact h2 h), if_neg h3])
        clear hl h1 h2 h3
        go_enter Try.func42, Try.ntmps42
        go_wp2
        exact bodyPost_ret (res_v Try.results42 _ w.heap.size _ _ (heap_alloc_last _ _) _ rfl) rfl ⟨by rw [unhide HK], (Below.refl _ _).alloc (Nat.le_refl _) _⟩
/-- What Array answers. -/
def arrPost (w : World) (t : List UInt8) (n : Int) (e : Ending) (w' : World) : Prop :=
  Below w.heap.size w w' ∧ ((arrEH t n ≠ 0 ∧ e = .returned (.tuple #[.agg #[.string ⟨#[]⟩, .slice none 0 0], .int .i64 (arrEH t n)])) ∨ (arrEH t n = 0 ∧ ∃ s, WsIn w' s (List.replicate n.toNat ⟨wordKindH t, 0⟩) ∧ e = .returned (.tuple #[.agg #[.string ⟨t.toArray⟩, s.v], .int .i64 0])))
theorem arrEH_arg {t : List UInt8} {n : Int} (h : t = [] ∨ n < 0) : arrEH t n = 2 := if_pos h
theorem arrEH_full {t : List UInt8} {n : Int} (h : ¬ (t = [] ∨ n < 0)) (h2 : 65536 < n) : arrEH t n = 4 := by
  unfold arrEH
  rw [if_neg h, if_pos h2]
theorem arrEH_ok {t : List UInt8} {n : Int} (h : ¬ (t = [] ∨ n < 0)) (h2 : ¬ 65536 < n) : arrEH t n = 0 := by
  unfold arrEH
  rw [if_neg h, if_neg h2]
end Go.Proofs.Ytgiohebbmjgefaa
