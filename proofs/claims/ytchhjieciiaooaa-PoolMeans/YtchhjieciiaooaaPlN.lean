/- Entries held against one another; the document's find. -/
import Derived.Test.YtchhjieciiaooaaPlM
import Derived.Test.YtchhjieciiaooaaPlF
namespace Go.Proofs.Ytchhjieciiaooaa
open Go.RowKit
set_option linter.unusedVariables false

theorem str_eq (s t : List UInt8) : ((⟨s.toArray⟩ : ByteArray).toList = (⟨t.toArray⟩ : ByteArray).toList) ↔ s = t := by
  rw [ByteArray.toList_eq, ByteArray.toList_eq]
theorem ent_cmp (w : World) (x y : Ent) :
    (binOp .eql 67 (.agg #[.int .i64 x.tag, .string ⟨x.text.toArray⟩, .int .i64 x.n, .int .i64 x.a, .int .i64 x.b]) (.agg #[.int .i64 y.tag, .string ⟨y.text.toArray⟩, .int .i64 y.n, .int .i64 y.a, .int .i64 y.b])).run Try.prog w = .ok (.bool (decide (x = y))) w := by
  rw [run_eql_struct]
  go_simp
  have e := Ent.eq_iff x y
  have es := str_eq x.text y.text
  repeat' split
  all_goals
    congr 2
    simp only [Bool.true_eq, Bool.false_eq, decide_eq_true_eq, decide_eq_false_iff_not, ← e, ← es]
    simp_all
theorem ent_cmpN (w : World) (x y : Ent) :
    (binOp .neq 67 (.agg #[.int .i64 x.tag, .string ⟨x.text.toArray⟩, .int .i64 x.n, .int .i64 x.a, .int .i64 x.b]) (.agg #[.int .i64 y.tag, .string ⟨y.text.toArray⟩, .int .i64 y.n, .int .i64 y.a, .int .i64 y.b])).run Try.prog w = .ok (.bool (!decide (x = y))) w := by
  rw [run_neq_struct]
  have h := ent_cmp w x y
  rw [run_eql_struct] at h
  cases hq : (Op.equalIn 10000 67 (.agg #[.int .i64 x.tag, .string ⟨x.text.toArray⟩, .int .i64 x.n, .int .i64 x.a, .int .i64 x.b]) (.agg #[.int .i64 y.tag, .string ⟨y.text.toArray⟩, .int .i64 y.n, .int .i64 y.a, .int .i64 y.b])).run Try.prog w with
  | ok b w' =>
    rw [hq] at h
    simp only [Result.andThen_ok, Result.ok.injEq, Value.bool.injEq] at h
    rw [h.1, h.2]
    rfl
  | halt h1 w' =>
    rw [hq] at h
    simp [Result.andThen] at h

def entV (x : Ent) : Value := .agg #[.int .i64 x.tag, .string ⟨x.text.toArray⟩, .int .i64 x.n, .int .i64 x.a, .int .i64 x.b]
set_option maxHeartbeats 1600000 in
theorem jfind_any (w : World) (a : Option Addr) (n c : Nat) (l : List Ent) (h : Es w a n l) (x : Ent) (hn : n ≤ 140737488351232) :
    Calls Try.prog 72 #[.slice a n c, entV x] w fun e w' => e = .returned (.int .i64 (findE l x : Int)) ∧ Below w.heap.size w w' := by
  have hln := h.1
  have b0 : Below w.heap.size w (w.alloc (.cells #[.int .i64 x.tag, .string ⟨x.text.toArray⟩, .int .i64 x.n, .int .i64 x.a, .int .i64 x.b] 67)) := (Below.refl _ _).alloc (Nat.le_refl _) _
  have HE := hide (h.below b0)
  have hl0 := heap_alloc_last w (.cells #[.int .i64 x.tag, .string ⟨x.text.toArray⟩, .int .i64 x.n, .int .i64 x.a, .int .i64 x.b] 67)
  unfold entV
  have B0 := hide b0
  have HL0 := hide hl0
  clear h b0 hl0
  go_enter Try.func72, Try.ntmps72
  go_wp2
  generalize w.alloc (.cells #[.int .i64 x.tag, .string ⟨x.text.toArray⟩, .int .i64 x.n, .int .i64 x.a, .int .i64 x.b] 67) = w0 at *
  go_loopw [5] (fun i wr => ∃ k : Nat, 1 ≤ k ∧ (k ≤ n ∨ k = 1) ∧ i = .int .i64 k ∧ (∀ j, 1 ≤ j → j < k → l[j]? ≠ some x) ∧ Below w0.heap.size w0 wr) (fun i _ => n - (intOf i).toNat)
  case atStart => exact ⟨1, by omega, .inr rfl, rfl, fun j h1 h2 => by omega, Below.refl _ _⟩
  case round =>
    obtain ⟨k, hk1, hk, rfl, hno, hB⟩ := hrel
    have HNO := hide hno
    have HBl := hide hB
    by_cases hlt : k < n
    · have hlt1 : (k : Int) < (n : Int) := by omega
      obtain ⟨b, o, rfl, hE⟩ := ((unhide HE).below hB).2.resolve_left (by omega)
      obtain ⟨y, hy⟩ : ∃ y, l[k]? = some y := ⟨_, List.getElem?_eq_getElem (by omega)⟩
      obtain ⟨c0, c1, c2, c3, c4⟩ := ents_get hE hy
      have hx0 : wr.heap[w.heap.size]? = _ := (hB.block w.heap.size (lt_of_heap (unhide HL0))).trans (unhide HL0)
      have d0 : wr.cell? ⟨w.heap.size, 0, none⟩ = some (.int .i64 x.tag) := by rw [cell_of_row _ _ _ _ _ _ hx0]; rfl
      have d1 : wr.cell? ⟨w.heap.size, 1, none⟩ = some (.string ⟨x.text.toArray⟩) := by rw [cell_of_row _ _ _ _ _ _ hx0]; rfl
      have d2 : wr.cell? ⟨w.heap.size, 2, none⟩ = some (.int .i64 x.n) := by rw [cell_of_row _ _ _ _ _ _ hx0]; rfl
      have d3 : wr.cell? ⟨w.heap.size, 3, none⟩ = some (.int .i64 x.a) := by rw [cell_of_row _ _ _ _ _ _ hx0]; rfl
      have d4 : wr.cell? ⟨w.heap.size, 4, none⟩ = some (.int .i64 x.b) := by rw [cell_of_row _ _ _ _ _ _ hx0]; rfl
      by_cases hyx : y = x
      · subst hyx
        have e1 : Hid (findE l y = k) := by
          show findE l y = k
          exact first_eq (p := fun i => decide (l[i]? = some y)) hk1 (by omega) (by simpa using hy) (fun j h1 h2 => by simpa using hno j h1 h2)
        clear hno hB hE hy hx0 HL0
        go_wp2
        go_quiet (fail)
        go_wp2
        go_ret
        exact ⟨by rw [unhide e1]; rfl, (unhide B0).trans ((below_drewN (unhide HBl) _).mono (unhide B0).size)⟩
      · have HCf : ∀ W, (binOp .eql 67 (.agg #[.int .i64 y.tag, .string ⟨y.text.toArray⟩, .int .i64 y.n, .int .i64 y.a, .int .i64 y.b]) (.agg #[.int .i64 x.tag, .string ⟨x.text.toArray⟩, .int .i64 x.n, .int .i64 x.a, .int .i64 x.b])).run Try.prog W = .ok (.bool false) W := fun W => by
          rw [ent_cmp, decide_eq_false hyx]
        clear hno hB hE hx0 HL0
        have HN2 : Hid (∀ j, 1 ≤ j → j < k + 1 → l[j]? ≠ some x) := fun j h1 h2 => by
          by_cases hjk : j = k
          · subst hjk
            rw [hy]
            exact fun e => hyx (by injection e)
          · exact unhide HNO j h1 (by omega)
        clear hy hyx
        go_wp2
        go_quiet (fail)
        go_wp2
        go_roundw
        case rel => exact ⟨k + 1, by omega, by omega, by go_num, unhide HN2, below_drewN (unhide HBl) _⟩
        case measure => simp [intOf]; omega
    · have e1 : Hid (findE l x = 0) := by
        show findE l x = 0
        by_cases h0 : findE l x = 0
        · exact h0
        · obtain ⟨h1, h2, h3⟩ := findE_some h0
          exact absurd h3 (hno _ h1 (by omega))
      clear hno hB HL0
      go_wp2
      go_ret
      exact ⟨by rw [unhide e1]; rfl, (unhide B0).trans ((unhide HBl).mono (unhide B0).size)⟩

end Go.Proofs.Ytchhjieciiaooaa
