/- Layer 16: values and objects held against one another, whichever they are (written by mk/mkuaj.py). -/
import Derived.Test.YtnnanlniffjnkaaJY2

namespace Go.Proofs.Ytnnanlniffjnkaa
open Go.RowKit
set_option linter.unusedVariables false
set_option maxRecDepth 100000

theorem take_same {α : Type} {l m : List α} {k : Nat} {x y : α} (h : l.take k = m.take k) (hx : l[k]? = some x) (hy : m[k]? = some y) (e : x = y) : l.take (k + 1) = m.take (k + 1) := by
  rw [List.take_add_one, List.take_add_one, hx, hy, h, e]
set_option maxHeartbeats 1600000 in
theorem SameValues_any (w : World) (s t : Sl) (l m : List Vl) (hA : WsIn w s l) (hB : WsIn w t m) :
    Calls Try.prog 21 #[s.v, t.v] w fun e w' => (∃ b, e = .returned (.bool b) ∧ (b = true ↔ l = m)) ∧ Below w.heap.size w w' := by
  obtain ⟨a, n, c⟩ := s
  obtain ⟨b, n2, d⟩ := t
  have hs := hA.small
  have hln := hA.ls.1
  have hlm := hB.ls.1
  simp only at hln hlm hs
  unfold Sl.v
  simp only
  by_cases hnn : n = n2
  case neg =>
    have hnm : ¬ (n : Int) = (n2 : Int) := by omega
    have hlf : ¬ l = m := fun e => hnn (by rw [← hln, ← hlm, e])
    have HLF := hide hlf
    clear hA hB hlf
    go_enter Try.func21, Try.ntmps21
    go_wp2
    go_ret
    exact ⟨⟨_, rfl, by simpa using unhide HLF⟩, Below.refl _ _⟩
  subst hnn
  have hs1 : n ≤ 140737488351232 := by omega
  have HA := hide hA.ls
  have HB := hide hB.ls
  clear hA hB hs
  go_enter Try.func21, Try.ntmps21
  go_wp2
  go_loopw [5] (fun i wr => ∃ k : Nat, k ≤ n ∧ i = .int .i64 k ∧ Below w.heap.size w wr ∧ Hid (l.take k = m.take k)) (fun i _ => n - (intOf i).toNat)
  case atStart => exact ⟨0, by omega, rfl, Below.refl _ _, rfl⟩
  case round =>
    obtain ⟨k, hk, rfl, hR, HT⟩ := hrel
    by_cases hlt : k < n
    · have hlt1 : (k : Int) < (n : Int) := by omega
      obtain ⟨b1, o1, h1a, h1⟩ := Ls.row (unhide HA) (w' := w) (by show n ≠ 0; omega)
      obtain ⟨b2, o2, h2a, h2⟩ := Ls.row (unhide HB) (w' := w) (by show n ≠ 0; omega)
      subst h1a h2a
      obtain ⟨r, hr⟩ : ∃ r, l[k]? = some r := ⟨_, List.getElem?_eq_getElem (by omega)⟩
      obtain ⟨r2, hr2⟩ : ∃ r2, m[k]? = some r2 := ⟨_, List.getElem?_eq_getElem (by omega)⟩
      have q1 := h1 hR k r hr
      have q2 := h2 hR k r2 hr2
      have c0 := q1.zero
      have c1 := q1 1 _ rfl
      have d0 := q2.zero
      have d1 := q2 1 _ rfl
      have HX := hide hr
      have HY := hide hr2
      have HR := hide hR
      clear q1 q2 h1 h2 hr hr2 hR
      by_cases he : r = r2
      · have JN : ∀ W, (binOp .neq 47 (.agg #[.int .i64 r.kind, .int .i64 r.n]) (.agg #[.int .i64 r2.kind, .int .i64 r2.n])).run Try.prog W = .ok (.bool false) W := fun W => by have := val_cmpN W r r2; rw [decide_eq_true he] at this; exact this
        have HT2 : Hid (l.take (k + 1) = m.take (k + 1)) := take_same (unhide HT) (unhide HX) (unhide HY) he
        clear he HX HY
        go_wp2
        go_quiet (fail)
        go_wp2
        go_roundw
        case rel => exact ⟨k + 1, by omega, by go_num, below_drewN (unhide HR) _, HT2⟩
        case measure => simp [intOf]; omega
      · have JN : ∀ W, (binOp .neq 47 (.agg #[.int .i64 r.kind, .int .i64 r.n]) (.agg #[.int .i64 r2.kind, .int .i64 r2.n])).run Try.prog W = .ok (.bool true) W := fun W => by have := val_cmpN W r r2; rw [decide_eq_false he] at this; exact this
        have HLF : Hid (¬ l = m) := fun e => he (by
          have h1 := unhide HX
          rw [e, unhide HY] at h1
          injection h1 with h1
          exact h1.symm)
        clear he HX HY
        go_wp2
        go_quiet (fail)
        go_wp2
        go_ret
        exact ⟨⟨_, rfl, by simpa using unhide HLF⟩, below_drewN (unhide HR) _⟩
    · obtain rfl : k = n := by omega
      have HR := hide hR
      have HE : Hid (l = m) := by
        have := unhide HT
        rwa [List.take_of_length_le (by omega), List.take_of_length_le (by omega)] at this
      clear hR
      go_wp2
      go_ret
      exact ⟨⟨_, rfl, by simpa using unhide HE⟩, unhide HR⟩
set_option maxHeartbeats 1600000 in
theorem slEqualV_any (w : World) (s t : Sl) (l m : List Vl) (hA : WsIn w s l) (hB : WsIn w t m) :
    Calls Try.prog 40 #[s.v, t.v] w fun e w' => (∃ b, e = .returned (.bool b) ∧ (b = true ↔ l = m)) ∧ Below w.heap.size w w' := by
  obtain ⟨a, n, c⟩ := s
  obtain ⟨b, n2, d⟩ := t
  have hs := hA.small
  have hln := hA.ls.1
  have hlm := hB.ls.1
  simp only at hln hlm hs
  unfold Sl.v
  simp only
  by_cases hnn : n = n2
  case neg =>
    have hnm : ¬ (n : Int) = (n2 : Int) := by omega
    have hlf : ¬ l = m := fun e => hnn (by rw [← hln, ← hlm, e])
    have HLF := hide hlf
    clear hA hB hlf
    go_enter Try.func40, Try.ntmps40
    go_wp2
    go_ret
    exact ⟨⟨_, rfl, by simpa using unhide HLF⟩, Below.refl _ _⟩
  subst hnn
  have hs1 : n ≤ 140737488351232 := by omega
  have HA := hide hA.ls
  have HB := hide hB.ls
  clear hA hB hs
  go_enter Try.func40, Try.ntmps40
  go_wp2
  go_loopw [13] (fun i wr => ∃ k : Nat, k ≤ n ∧ i = .int .i64 k ∧ Below w.heap.size w wr ∧ Hid (l.take k = m.take k)) (fun i _ => n - (intOf i).toNat)
  case atStart => exact ⟨0, by omega, rfl, Below.refl _ _, rfl⟩
  case round =>
    obtain ⟨k, hk, rfl, hR, HT⟩ := hrel
    by_cases hlt : k < n
    · have hlt1 : (k : Int) < (n : Int) := by omega
      obtain ⟨b1, o1, h1a, h1⟩ := Ls.row (unhide HA) (w' := w) (by show n ≠ 0; omega)
      obtain ⟨b2, o2, h2a, h2⟩ := Ls.row (unhide HB) (w' := w) (by show n ≠ 0; omega)
      subst h1a h2a
      obtain ⟨r, hr⟩ : ∃ r, l[k]? = some r := ⟨_, List.getElem?_eq_getElem (by omega)⟩
      obtain ⟨r2, hr2⟩ : ∃ r2, m[k]? = some r2 := ⟨_, List.getElem?_eq_getElem (by omega)⟩
      have q1 := h1 hR k r hr
      have q2 := h2 hR k r2 hr2
      have c0 := q1.zero
      have c1 := q1 1 _ rfl
      have d0 := q2.zero
      have d1 := q2 1 _ rfl
      have HX := hide hr
      have HY := hide hr2
      have HR := hide hR
      clear q1 q2 h1 h2 hr hr2 hR
      by_cases he : r = r2
      · have JN : ∀ W, (binOp .neq 47 (.agg #[.int .i64 r.kind, .int .i64 r.n]) (.agg #[.int .i64 r2.kind, .int .i64 r2.n])).run Try.prog W = .ok (.bool false) W := fun W => by have := val_cmpN W r r2; rw [decide_eq_true he] at this; exact this
        have HT2 : Hid (l.take (k + 1) = m.take (k + 1)) := take_same (unhide HT) (unhide HX) (unhide HY) he
        clear he HX HY
        go_wp2
        go_quiet (fail)
        go_wp2
        go_roundw
        case rel => exact ⟨k + 1, by omega, by go_num, below_drewN (unhide HR) _, HT2⟩
        case measure => simp [intOf]; omega
      · have JN : ∀ W, (binOp .neq 47 (.agg #[.int .i64 r.kind, .int .i64 r.n]) (.agg #[.int .i64 r2.kind, .int .i64 r2.n])).run Try.prog W = .ok (.bool true) W := fun W => by have := val_cmpN W r r2; rw [decide_eq_false he] at this; exact this
        have HLF : Hid (¬ l = m) := fun e => he (by
          have h1 := unhide HX
          rw [e, unhide HY] at h1
          injection h1 with h1
          exact h1.symm)
        clear he HX HY
        go_wp2
        go_quiet (fail)
        go_wp2
        go_ret
        exact ⟨⟨_, rfl, by simpa using unhide HLF⟩, below_drewN (unhide HR) _⟩
    · obtain rfl : k = n := by omega
      have HR := hide hR
      have HE : Hid (l = m) := by
        have := unhide HT
        rwa [List.take_of_length_le (by omega), List.take_of_length_le (by omega)] at this
      clear hR
      go_wp2
      go_ret
      exact ⟨⟨_, rfl, by simpa using unhide HE⟩, unhide HR⟩
end Go.Proofs.Ytnnanlniffjnkaa
