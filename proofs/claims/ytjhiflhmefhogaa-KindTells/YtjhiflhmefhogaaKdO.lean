/- How wide types are: both. -/
import Derived.Test.YtjhiflhmefhogaaKdN
namespace Go.Proofs.Ytjhiflhmefhogaa
open Go.RowKit
set_option linter.unusedVariables false
set_option maxRecDepth 100000

def wideN (l : List Ty) : Nat := l.length + l.countP (fun t => decide (t.kind = 2))
theorem wide_take {l : List Ty} {k : Nat} {t : Ty} (h : l[k]? = some t) : (l.take (k + 1)).countP (fun t => decide (t.kind = 2)) = (l.take k).countP (fun t => decide (t.kind = 2)) + (if t.kind = 2 then 1 else 0) := by
  have hk := (List.getElem?_eq_some_iff.1 h).1
  rw [List.take_succ_eq_append_getElem hk, List.countP_append]
  rw [(List.getElem?_eq_some_iff.1 h).2]
  by_cases h2 : t.kind = 2 <;> simp [h2]
theorem wide_le (l : List Ty) (k : Nat) : (l.take k).countP (fun t => decide (t.kind = 2)) ≤ k := by
  refine Nat.le_trans List.countP_le_length ?_
  simp; omega
set_option maxHeartbeats 800000 in
theorem yWide_any (w : World) (a : Option Addr) (n c : Nat) (l : List Ty) (h : Ls 2 tyc w a n l) (hn : n ≤ 140737488351232) : Calls Try.prog 21 #[.slice a n c] w fun e w' => e = .returned (.int .i64 (wideN l)) ∧ Below w.heap.size w w' := by
  have hln := h.1
  have HL := hide h
  clear h
  go_enter Try.func21, Try.ntmps21
  go_wp2
  go_loopw [3, 10] (fun c i wr => ∃ k m : Nat, k ≤ n ∧ m ≤ k ∧ i = .int .i64 k ∧ c = .int .i64 ((n : Int) + m) ∧ Below w.heap.size w wr ∧ Hid (m = (l.take k).countP (fun t => decide (t.kind = 2)))) (fun c i _ => n - (intOf i).toNat)
  case atStart => exact ⟨0, 0, by omega, by omega, rfl, by simp, Below.refl _ _, by show 0 = _; simp⟩
  case round =>
    obtain ⟨k, m, hk, hm, rfl, rfl, hR, HM⟩ := hrel
    by_cases hlt : k < n
    · have hlt1 : (k : Int) < (n : Int) := by omega
      obtain ⟨b1, o1, h1a, h1⟩ := Ls.row (unhide HL) (w' := w) (by omega)
      subst h1a
      obtain ⟨r, hr⟩ : ∃ r, l[k]? = some r := ⟨_, List.getElem?_eq_getElem (by omega)⟩
      have q1 := h1 hR k r hr
      have c0 := q1.zero
      have c1 := q1 1 _ rfl
      clear q1 h1
      have HN := wide_take hr
      obtain ⟨rk, rn⟩ := r
      simp only at c0 c1 HN
      generalize (⟨rn.toArray⟩ : ByteArray) = S at *
      have HR := hide hR
      have HN' := hide HN
      clear hr hR HN
      by_cases h2 : rk = 2
      · subst h2
        go_wp2
        go_roundw
        case rel => exact ⟨k + 1, m + 1, by omega, by omega, by go_num, (by first | (go_num; done) | (congr 1; omega)), bA (unhide HR) _, by have h3 := unhide HN'; have h4 := unhide HM; show m + 1 = _; rw [h3, ← h4]; rfl⟩
        case measure => simp [intOf]; omega
      · have h2' : (rk == 2) = false := by simpa using h2
        go_wp2
        go_roundw
        case rel => exact ⟨k + 1, m, by omega, by omega, by go_num, (by first | rfl | (go_num; done) | (congr 1; omega)), bA (unhide HR) _, by have h3 := unhide HN'; have h4 := unhide HM; show m = _; rw [h3, ← h4, if_neg h2]; rfl⟩
        case measure => simp [intOf]; omega
    · obtain rfl : k = n := by omega
      have HR := hide hR
      clear hR
      go_wp2
      go_ret
      refine ⟨ret_int ?_, unhide HR⟩
      have h4 := unhide HM
      rw [List.take_of_length_le (by omega)] at h4
      unfold wideN
      rw [hln, ← h4]
      omega
set_option maxHeartbeats 800000 in
theorem x10Wide_any (w : World) (a : Option Addr) (n c : Nat) (l : List Ty) (h : Ls 2 tyc w a n l) (hn : n ≤ 140737488351232) : Calls Try.prog 22 #[.slice a n c] w fun e w' => e = .returned (.int .i64 (wideN l)) ∧ Below w.heap.size w w' := by
  have hln := h.1
  have HL := hide h
  clear h
  go_enter Try.func22, Try.ntmps22
  go_wp2
  go_loopw [3, 4] (fun c i wr => ∃ k m : Nat, k ≤ n ∧ m ≤ k ∧ i = .int .i64 k ∧ c = .int .i64 ((k : Int) + m) ∧ Below w.heap.size w wr ∧ Hid (m = (l.take k).countP (fun t => decide (t.kind = 2)))) (fun c i _ => n - (intOf i).toNat)
  case atStart => exact ⟨0, 0, by omega, by omega, rfl, by simp, Below.refl _ _, by show 0 = _; simp⟩
  case round =>
    obtain ⟨k, m, hk, hm, rfl, rfl, hR, HM⟩ := hrel
    by_cases hlt : k < n
    · have hlt1 : (k : Int) < (n : Int) := by omega
      obtain ⟨b1, o1, h1a, h1⟩ := Ls.row (unhide HL) (w' := w) (by omega)
      subst h1a
      obtain ⟨r, hr⟩ : ∃ r, l[k]? = some r := ⟨_, List.getElem?_eq_getElem (by omega)⟩
      have q1 := h1 hR k r hr
      have c0 := q1.zero
      have c1 := q1 1 _ rfl
      clear q1 h1
      have HN := wide_take hr
      obtain ⟨rk, rn⟩ := r
      simp only at c0 c1 HN
      generalize (⟨rn.toArray⟩ : ByteArray) = S at *
      have HR := hide hR
      have HN' := hide HN
      clear hr hR HN
      by_cases h2 : rk = 2
      · subst h2
        go_wp2
        go_roundw
        case rel => exact ⟨k + 1, m + 1, by omega, by omega, by go_num, (by first | (go_num; done) | (congr 1; omega)), unhide HR, by have h3 := unhide HN'; have h4 := unhide HM; show m + 1 = _; rw [h3, ← h4]; rfl⟩
        case measure => simp [intOf]; omega
      · have h2' : (rk == 2) = false := by simpa using h2
        go_wp2
        go_roundw
        case rel => exact ⟨k + 1, m, by omega, by omega, by go_num, (by first | rfl | (go_num; done) | (congr 1; omega)), unhide HR, by have h3 := unhide HN'; have h4 := unhide HM; show m = _; rw [h3, ← h4, if_neg h2]; rfl⟩
        case measure => simp [intOf]; omega
    · obtain rfl : k = n := by omega
      have HR := hide hR
      clear hR
      go_wp2
      go_ret
      refine ⟨ret_int ?_, unhide HR⟩
      have h4 := unhide HM
      rw [List.take_of_length_le (by omega)] at h4
      unfold wideN
      rw [hln, ← h4]
      omega
end Go.Proofs.Ytjhiflhmefhogaa
