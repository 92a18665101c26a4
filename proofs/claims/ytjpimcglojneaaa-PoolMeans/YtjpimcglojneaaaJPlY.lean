/- The document's own pool: Const. -/
import Derived.Test.YtjpimcglojneaaaJPlR
import Derived.Test.YtjpimcglojneaaaJPlQ
import Derived.Test.YtjpimcglojneaaaJA
import Derived.Laws.ResultCell

namespace Go.Proofs.Ytjpimcglojneaaa
open Go.RowKit
set_option linter.unusedVariables false

theorem cst_results {fn : Func} {p u : Tmp} (h : fn.results = #[.cell p 50, .tmp u]) (W : World) (r : Nat) (cs : Array Value) (hs : cs.size = 5) (hb : W.heap[r]? = some (.cells cs 50 (0, 0))) (tmps : Array Value) (hp : tmps.getD p undef = .pointer (some ⟨r, 0, none⟩)) :
    (results fn tmps).run Try.prog W = .ok (.tuple #[.agg cs, tmps.getD u undef]) W := by
  rw [results_cell_tmp h, hp]
  simp [asAddr, run_loadVar_row W r 50 50 _ (0, 0) _ hb Try.underlying50 rfl (by rw [hs]; exact sizeCst)]

set_option maxHeartbeats 3200000 in
set_option maxRecDepth 100000 in
theorem jConst_any (w : World) (a : Option Addr) (n c : Nat) (l : List Ent) (h : Es w a n l) (i : Int) (hi : -9223372036854775808 ≤ i ∧ i ≤ 9223372036854775807) (hn : n ≤ 140737488351232) (hT : ∀ x ∈ l, x.text.length ≤ 140737488355328) (hF : ∀ x ∈ l, EntFit x) :
    Calls Try.prog 28 #[.slice a n c, .int .i64 i] w fun e w' => e = .returned (.tuple #[cstV (constP l i).1, .int .i64 (constP l i).2]) ∧ Below w.heap.size w w' := by
  have b0 : Below w.heap.size w (w.alloc (.cells #[.int .i64 0, .int .i64 0, .string ⟨#[]⟩, .string ⟨#[]⟩, .string ⟨#[]⟩] 50)) := (Below.refl _ _).alloc (Nat.le_refl _) _
  have HC := hide (jCheck_any _ a n c l (h.below b0) hn hT hF)
  have hl0 := heap_alloc_last w (.cells #[.int .i64 0, .int .i64 0, .string ⟨#[]⟩, .string ⟨#[]⟩, .string ⟨#[]⟩] 50)
  by_cases hc : checkP l = true
  case neg =>
    have e1 : constP l i = (cst0, 70) := if_pos (by simpa using hc)
    rw [if_neg hc] at HC
    rw [e1]
    have B0 := hide b0
    have HL0 := hide hl0
    clear h e1 hc b0 hl0
    go_enter Try.func28, Try.ntmps28
    go_wp2_with fail
    generalize w.alloc (.cells #[.int .i64 0, .int .i64 0, .string ⟨#[]⟩, .string ⟨#[]⟩, .string ⟨#[]⟩] 50) = w0 at *
    refine (unhide HC).mono ?_
    rintro e w1 ⟨rfl, f1⟩
    have hr1 : w1.heap[w.heap.size]? = _ := (f1.block _ (lt_of_heap (unhide HL0))).trans (unhide HL0)
    obtain ⟨q0, q1, q2, q3, q4⟩ := cstC (x := cst0) hr1
    have fz : ∀ j, w1.frozen? ⟨w.heap.size, j, none⟩ = false := fun j => frozen_of_row _ _ _ _ _ hr1
    have HR := hide hr1
    have F1 := hide ((unhide B0).trans (f1.mono (unhide B0).size))
    clear f1 HC HL0 B0 hr1
    go_wp2
    refine bodyPost_ret (cst_results Try.results28 _ w.heap.size _ rfl (by exact five_set _ _ _ _ _ (unhide HR)) _ rfl) rfl ⟨rfl, five_bel _ _ _ _ _ (unhide F1) (Nat.le_refl _)⟩
  rw [if_pos hc] at HC
  have hrt := (checkP_right.1 hc).2
  have HM : Hid (∀ W, Below w.heap.size w W → Calls Try.prog 46 #[.slice a n c, .int .i64 i] W fun e w' => e = .returned (cstV (meanP l i)) ∧ Below W.heap.size W w') := fun W f => jmean_any W a n c l (h.below f) hrt i hi hn
  have e1 : constP l i = if (meanP l i).tag = 0 then (cst0, 2) else (meanP l i, 0) := if_neg (by rw [hc]; simp)
  rw [e1]
  generalize meanP l i = m at *
  obtain ⟨tag, nn, cls, name, type⟩ := m
  unfold cstV at *
  simp only at HM ⊢
  have B0 := hide b0
  have HL0 := hide hl0
  clear h e1 hc b0 hl0 hrt
  by_cases h0 : tag = 0
  case pos =>
    subst h0
    rw [if_pos rfl]
    show Calls _ _ _ _ fun e w' => e = .returned (.tuple #[.agg #[.int .i64 0, .int .i64 0, .string ⟨#[]⟩, .string ⟨#[]⟩, .string ⟨#[]⟩], .int .i64 2]) ∧ Below w.heap.size w w'
    generalize (⟨cls.toArray⟩ : ByteArray) = s1 at *
    generalize (⟨name.toArray⟩ : ByteArray) = s2 at *
    generalize (⟨type.toArray⟩ : ByteArray) = s3 at *
    go_enter Try.func28, Try.ntmps28
    go_wp2_with fail
    generalize w.alloc (.cells #[.int .i64 0, .int .i64 0, .string ⟨#[]⟩, .string ⟨#[]⟩, .string ⟨#[]⟩] 50) = w0 at *
    refine (unhide HC).mono ?_
    rintro e w1 ⟨rfl, f1⟩
    have hr1 : w1.heap[w.heap.size]? = _ := (f1.block _ (lt_of_heap (unhide HL0))).trans (unhide HL0)
    have f1' := (unhide B0).trans (f1.mono (unhide B0).size)
    have HM1 := hide (unhide HM w1 f1')
    have HR := hide hr1
    have F1 := hide f1'
    clear f1 f1' HC HL0 B0 hr1 HM
    go_wp2_with fail
    refine (unhide HM1).mono ?_
    rintro e w2 ⟨rfl, f2⟩
    have b3 : Below w2.heap.size w2 (w2.alloc (.cells #[.int .i64 0, .int .i64 nn, .string s1, .string s2, .string s3] 50)) := (Below.refl _ _).alloc (Nat.le_refl _) _
    have hr2 : (w2.alloc (.cells #[.int .i64 0, .int .i64 nn, .string s1, .string s2, .string s3] 50)).heap[w.heap.size]? = _ := (b3.block _ (by have := lt_of_heap (unhide HR); have := f2.size; omega)).trans ((f2.block _ (lt_of_heap (unhide HR))).trans (unhide HR))
    have f2' := (unhide F1).trans (f2.mono (unhide F1).size)
    have f3' := f2'.trans (b3.mono f2'.size)
    obtain ⟨q0, q1, q2, q3, q4⟩ := cstC (x := cst0) hr2
    have fz : ∀ j, (w2.alloc (.cells #[.int .i64 0, .int .i64 nn, .string s1, .string s2, .string s3] 50)).frozen? ⟨w.heap.size, j, none⟩ = false := fun j => frozen_of_row _ _ _ _ _ hr2
    have HR2 := hide hr2
    have F3 := hide f3'
    clear hr2 f2 f2' f3' b3 HM1 HR F1
    go_wp2
    refine bodyPost_ret (cst_results Try.results28 _ w.heap.size _ rfl (by exact five_set _ _ _ _ _ (unhide HR2)) _ rfl) rfl ⟨rfl, five_bel _ _ _ _ _ (unhide F3) (Nat.le_refl _)⟩
  rw [if_neg h0]
  have h0' : (tag == 0) = false := by simpa using h0
  show Calls _ _ _ _ fun e w' => e = .returned (.tuple #[.agg #[.int .i64 tag, .int .i64 nn, .string ⟨cls.toArray⟩, .string ⟨name.toArray⟩, .string ⟨type.toArray⟩], .int .i64 0]) ∧ Below w.heap.size w w'
  clear h0
  generalize (⟨cls.toArray⟩ : ByteArray) = s1 at *
  generalize (⟨name.toArray⟩ : ByteArray) = s2 at *
  generalize (⟨type.toArray⟩ : ByteArray) = s3 at *
  go_enter Try.func28, Try.ntmps28
  go_wp2_with fail
  generalize w.alloc (.cells #[.int .i64 0, .int .i64 0, .string ⟨#[]⟩, .string ⟨#[]⟩, .string ⟨#[]⟩] 50) = w0 at *
  refine (unhide HC).mono ?_
  rintro e w1 ⟨rfl, f1⟩
  have hr1 : w1.heap[w.heap.size]? = _ := (f1.block _ (lt_of_heap (unhide HL0))).trans (unhide HL0)
  have f1' := (unhide B0).trans (f1.mono (unhide B0).size)
  have HM1 := hide (unhide HM w1 f1')
  have HR := hide hr1
  have F1 := hide f1'
  clear f1 f1' HC HL0 B0 hr1 HM
  go_wp2_with fail
  refine (unhide HM1).mono ?_
  rintro e w2 ⟨rfl, f2⟩
  have b3 : Below w2.heap.size w2 (w2.alloc (.cells #[.int .i64 tag, .int .i64 nn, .string s1, .string s2, .string s3] 50)) := (Below.refl _ _).alloc (Nat.le_refl _) _
  have hr2 : (w2.alloc (.cells #[.int .i64 tag, .int .i64 nn, .string s1, .string s2, .string s3] 50)).heap[w.heap.size]? = _ := (b3.block _ (by have := lt_of_heap (unhide HR); have := f2.size; omega)).trans ((f2.block _ (lt_of_heap (unhide HR))).trans (unhide HR))
  have f2' := (unhide F1).trans (f2.mono (unhide F1).size)
  have f3' := f2'.trans (b3.mono f2'.size)
  obtain ⟨q0, q1, q2, q3, q4⟩ := cstC (x := cst0) hr2
  have fz : ∀ j, (w2.alloc (.cells #[.int .i64 tag, .int .i64 nn, .string s1, .string s2, .string s3] 50)).frozen? ⟨w.heap.size, j, none⟩ = false := fun j => frozen_of_row _ _ _ _ _ hr2
  have HR2 := hide hr2
  have F3 := hide f3'
  clear hr2 f2 f2' f3' b3 HM1 HR F1
  go_wp2
  refine bodyPost_ret (cst_results Try.results28 _ w.heap.size _ rfl (by exact five_set _ _ _ _ _ (unhide HR2)) _ rfl) rfl ⟨rfl, five_bel _ _ _ _ _ (unhide F3) (Nat.le_refl _)⟩

end Go.Proofs.Ytjpimcglojneaaa
