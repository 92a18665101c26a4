/- The landed pool: Text, Const. -/
import Derived.Test.YtchhjieciiaooaaPkE
import Derived.Laws.ResultCell
namespace Go.Proofs.Ytchhjieciiaooaa
open Go.RowKit
set_option linter.unusedVariables false

set_option maxHeartbeats 1600000 in
theorem kText_any (w : World) (a : Option Addr) (n c : Nat) (l : List Ent) (h : Es w a n l) (i : Int) (hi : -9223372036854775808 ≤ i ∧ i ≤ 9223372036854775807) (hn : n ≤ 140737488351232) (hf : (∀ x ∈ l, x.text.length ≤ 140737488355328) ∧ ∀ x ∈ l, EntFit x) :
    Calls Try.prog 25 #[.slice a n c, .int .i64 i] w fun e w' => e = .returned (.tuple #[.string ⟨(textP l i).1.toArray⟩, .int .i64 (textP l i).2]) ∧ Below w.heap.size w w' := by
  have HC := hide (kCheck_any w a n c l h hn hf)
  by_cases hc : checkP l = true
  case neg =>
    have e1 : textP l i = ([], 70) := if_pos (by simpa using hc)
    rw [if_neg hc] at HC
    rw [e1]
    clear h e1 hc
    go_enter Try.func25, Try.ntmps25
    go_wp2_with fail
    refine (unhide HC).mono ?_
    rintro e w1 ⟨rfl, f1⟩
    have F1 := hide f1
    clear f1 HC
    go_wp2
    go_ret2
    exact ⟨rfl, unhide F1⟩
  rw [if_pos hc] at HC
  have HT : Hid (∀ W, Below w.heap.size w W → Calls Try.prog 44 #[.slice a n c, .int .i64 i] W fun e w' => e = .returned (.int .i64 (tagE l i)) ∧ w' = W) := fun W f => ktagAt_any W a n c l (h.below f) i hi hn
  by_cases ht : tagE l i = 1
  case neg =>
    have e1 : textP l i = ([], 2) := by
      unfold textP
      rw [if_neg (by rw [hc]; simp), if_pos ht]
    have ht' : (tagE l i == 1) = false := by simpa using ht
    have ht2 : (tagE l i != 1) = true := by simpa using ht
    rw [e1]
    generalize tagE l i = T at *
    clear h e1 hc ht
    go_enter Try.func25, Try.ntmps25
    go_wp2_with fail
    refine (unhide HC).mono ?_
    rintro e w1 ⟨rfl, f1⟩
    have F1 := hide f1
    have HT1 := hide (unhide HT w1 f1)
    clear f1 HC HT
    go_wp2_with fail
    refine (unhide HT1).mono ?_
    rintro e w2 ⟨rfl, e0⟩
    have e0' := e0.symm
    clear e0
    subst e0'
    clear HT1
    go_wp2
    go_ret2
    exact ⟨rfl, unhide F1⟩
  have e1 : textP l i = ((atE l i).text, 0) := by
    unfold textP
    rw [if_neg (by rw [hc]; simp), if_neg (by simpa using ht)]
  obtain ⟨k, rfl, hk, hx⟩ := atE_in (l := l) (i := i) (by have h2 : (atE l i).tag = 1 := ht; omega)
  obtain ⟨b, o, rfl, hE⟩ := h.2.resolve_left (by have := h.1; omega)
  have hkn : (k : Int) < (n : Int) := by have := h.1; omega
  have HE : Hid (∀ W, Below w.heap.size w W → W.cell? ⟨b, o + k * 5 + 1, none⟩ = some (.string ⟨(atE l (k : Int)).text.toArray⟩)) := fun W f => (ents_get (hE.below f) hx).2.1
  rw [e1]
  rw [ht] at HT
  generalize (atE l (k : Int)).text = tx at *
  clear h e1 hc ht hx hE hk
  show Calls _ _ _ _ fun e w' => e = .returned (.tuple #[.string ⟨tx.toArray⟩, .int .i64 0]) ∧ Below w.heap.size w w'
  generalize (⟨tx.toArray⟩ : ByteArray) = st at *
  go_enter Try.func25, Try.ntmps25
  go_wp2_with fail
  refine (unhide HC).mono ?_
  rintro e w1 ⟨rfl, f1⟩
  have F1 := hide f1
  have HT1 := hide (unhide HT w1 f1)
  have cc := unhide HE w1 f1
  clear f1 HC HT HE
  go_wp2_with fail
  refine (unhide HT1).mono ?_
  rintro e w2 ⟨rfl, e0⟩
  have e0' := e0.symm
  clear e0
  subst e0'
  clear HT1
  go_wp2
  go_ret2
  exact ⟨rfl, unhide F1⟩


theorem kcst_results {fn : Func} {p u : Tmp} (h : fn.results = #[.cell p 50, .tmp u]) (W : World) (r : Nat) (cs : Array Value) (hs : cs.size = 5) (hb : W.heap[r]? = some (.cells cs 50 (0, 0))) (tmps : Array Value) (hp : tmps.getD p undef = .pointer (some ⟨r, 0, none⟩)) :
    (results fn tmps).run Try.prog W = .ok (.tuple #[.agg cs, tmps.getD u undef]) W := by
  rw [results_cell_tmp h, hp]
  simp [asAddr, run_loadVar_row W r 50 50 _ (0, 0) _ hb Try.underlying50 rfl (by rw [hs]; exact sizeCst)]

set_option maxHeartbeats 3200000 in
set_option maxRecDepth 100000 in
theorem kConst_any (w : World) (a : Option Addr) (n c : Nat) (l : List Ent) (h : Es w a n l) (i : Int) (hi : -9223372036854775808 ≤ i ∧ i ≤ 9223372036854775807) (hn : n ≤ 140737488351232) (hf : (∀ x ∈ l, x.text.length ≤ 140737488355328) ∧ ∀ x ∈ l, EntFit x) :
    Calls Try.prog 27 #[.slice a n c, .int .i64 i] w fun e w' => e = .returned (.tuple #[cstV (constP l i).1, .int .i64 (constP l i).2]) ∧ Below w.heap.size w w' := by
  have b0 : Below w.heap.size w (w.alloc (.cells #[.int .i64 0, .int .i64 0, .string ⟨#[]⟩, .string ⟨#[]⟩, .string ⟨#[]⟩] 50)) := (Below.refl _ _).alloc (Nat.le_refl _) _
  have HC := hide (kCheck_any _ a n c l (h.below b0) hn hf)
  have hl0 := heap_alloc_last w (.cells #[.int .i64 0, .int .i64 0, .string ⟨#[]⟩, .string ⟨#[]⟩, .string ⟨#[]⟩] 50)
  by_cases hc : checkP l = true
  case neg =>
    have e1 : constP l i = (cst0, 70) := if_pos (by simpa using hc)
    rw [if_neg hc] at HC
    rw [e1]
    have B0 := hide b0
    have HL0 := hide hl0
    clear h e1 hc b0 hl0
    go_enter Try.func27, Try.ntmps27
    go_wp2_with fail
    generalize w.alloc (.cells #[.int .i64 0, .int .i64 0, .string ⟨#[]⟩, .string ⟨#[]⟩, .string ⟨#[]⟩] 50) = w0 at *
    refine (unhide HC).mono ?_
    rintro e w1 ⟨rfl, f1⟩
    have hr1 : w1.heap[w.heap.size]? = _ := (f1.block _ (lt_of_heap (unhide HL0))).trans (unhide HL0)
    obtain ⟨q0, q1, q2, q3, q4⟩ := cstC (x := cst0) hr1
    have fz : ∀ j, w1.frozen? ⟨w.heap.size, j, none⟩ = false := fun j => frozen_of_row _ _ _ _ _ hr1
    have HR := hide hr1
    have F1 := hide ((unhide B0).trans (f1.mono (unhide B0).size))
    clear f1 HC HL0 B0 hr1
    go_wp2
    refine bodyPost_ret (kcst_results Try.results27 _ w.heap.size _ rfl (by exact five_set _ _ _ _ _ (unhide HR)) _ rfl) rfl ⟨rfl, five_bel _ _ _ _ _ (unhide F1) (Nat.le_refl _)⟩
  rw [if_pos hc] at HC
  have hrt := (checkP_right.1 hc).2
  have HT : Hid (∀ W, Below w.heap.size w W → Calls Try.prog 44 #[.slice a n c, .int .i64 i] W fun e w' => e = .returned (.int .i64 (tagE l i)) ∧ w' = W) := fun W f => ktagAt_any W a n c l (h.below f) i hi hn
  by_cases ht : tagE l i = 3 ∨ tagE l i = 5 ∨ tagE l i = 7 ∨ tagE l i = 9 ∨ tagE l i = 10
  case neg =>
    have e1 : constP l i = (cst0, 2) := by
      unfold constP
      have hm : meanP l i = cst0 := by
        unfold tagE at ht
        unfold meanP
        simp only
        rw [if_neg (by omega), if_neg (by omega), if_neg (by omega)]
      rw [if_neg (by rw [hc]; simp), hm]
      exact if_pos rfl
    rw [e1]
    generalize tagE l i = T at *
    have t3 : (T == 3) = false := by rw [beq_eq_false_iff_ne]; omega
    have t5 : (T == 5) = false := by rw [beq_eq_false_iff_ne]; omega
    have t7 : (T == 7) = false := by rw [beq_eq_false_iff_ne]; omega
    have t9 : (T == 9) = false := by rw [beq_eq_false_iff_ne]; omega
    have t10 : (T == 10) = false := by rw [beq_eq_false_iff_ne]; omega
    have B0 := hide b0
    have HL0 := hide hl0
    clear h e1 hc b0 hl0 ht
    go_enter Try.func27, Try.ntmps27
    go_wp2_with fail
    generalize w.alloc (.cells #[.int .i64 0, .int .i64 0, .string ⟨#[]⟩, .string ⟨#[]⟩, .string ⟨#[]⟩] 50) = w0 at *
    refine (unhide HC).mono ?_
    rintro e w1 ⟨rfl, f1⟩
    have hr1 : w1.heap[w.heap.size]? = _ := (f1.block _ (lt_of_heap (unhide HL0))).trans (unhide HL0)
    obtain ⟨q0, q1, q2, q3, q4⟩ := cstC (x := cst0) hr1
    have fz : ∀ j, w1.frozen? ⟨w.heap.size, j, none⟩ = false := fun j => frozen_of_row _ _ _ _ _ hr1
    have HR := hide hr1
    have f1' := (unhide B0).trans (f1.mono (unhide B0).size)
    have F1 := hide f1'
    have HT1 := hide (unhide HT w1 f1')
    clear f1 HC HL0 B0 hr1 f1' HT
    go_wp2_with fail
    refine (unhide HT1).mono ?_
    rintro e w2 ⟨rfl, e0⟩
    have e0' := e0.symm
    clear e0
    subst e0'
    clear HT1
    go_wp2
    refine bodyPost_ret (kcst_results Try.results27 _ w.heap.size _ rfl (by exact five_set _ _ _ _ _ (unhide HR)) _ rfl) rfl ⟨rfl, five_bel _ _ _ _ _ (unhide F1) (Nat.le_refl _)⟩
  have h0 : (atE l i).tag ≠ 0 := by unfold tagE at ht; omega
  have e1 : constP l i = (meanN l (atE l i), 0) := by
    have hm : meanP l i = meanN l (atE l i) := (meanP_N (by rw [meanN_tag]; exact ht)).2 rfl
    unfold constP
    rw [if_neg (by rw [hc]; simp), hm, meanN_tag, if_neg h0]
  rw [e1]
  have HM : Hid (∀ W, Below w.heap.size w W → Calls Try.prog 45 #[.slice a n c, entV (atE l i)] W fun e w' => e = .returned (cstV (meanN l (atE l i))) ∧ Below W.heap.size W w') := fun W f => kmeaning_any W a n c l (h.below f) hrt (atE l i) (right_or hrt i) hn
  obtain ⟨k, rfl, hk, hx⟩ := atE_in h0
  have hln := h.1
  obtain ⟨b, o, rfl, hE⟩ := h.2.resolve_left (by omega)
  have HG : Hid (∀ W, Below w.heap.size w W → W.cell? ⟨b, o + k * 5, none⟩ = some (.int .i64 (atE l (k : Int)).tag) ∧ W.cell? ⟨b, o + k * 5 + 1, none⟩ = some (.string ⟨(atE l (k : Int)).text.toArray⟩) ∧ W.cell? ⟨b, o + k * 5 + 2, none⟩ = some (.int .i64 (atE l (k : Int)).n) ∧ W.cell? ⟨b, o + k * 5 + 3, none⟩ = some (.int .i64 (atE l (k : Int)).a) ∧ W.cell? ⟨b, o + k * 5 + 4, none⟩ = some (.int .i64 (atE l (k : Int)).b)) := fun W f => ents_at (hE.below f) hk
  have hk1 : (k : Int) < (n : Int) := by omega
  have hk0 : (0 : Int) ≤ (k : Int) := by omega
  have htt : tagE l (k : Int) = (atE l (k : Int)).tag := rfl
  rw [htt] at ht HT
  clear htt
  generalize meanN l (atE l (k : Int)) = m at *
  generalize atE l (k : Int) = x at *
  obtain ⟨tag, text, nn, aa, bb⟩ := x
  obtain ⟨mt, mn, mc, mm, my⟩ := m
  unfold entV cstV at *
  simp only at HM HG HT ht h0 ⊢
  have B0 := hide b0
  have HL0 := hide hl0
  clear h e1 hc b0 hl0 hrt hx hE h0
  generalize (⟨text.toArray⟩ : ByteArray) = st at *
  generalize (⟨mc.toArray⟩ : ByteArray) = s1 at *
  generalize (⟨mm.toArray⟩ : ByteArray) = s2 at *
  generalize (⟨my.toArray⟩ : ByteArray) = s3 at *
  go_enter Try.func27, Try.ntmps27
  go_wp2_with fail
  generalize w.alloc (.cells #[.int .i64 0, .int .i64 0, .string ⟨#[]⟩, .string ⟨#[]⟩, .string ⟨#[]⟩] 50) = w0 at *
  refine (unhide HC).mono ?_
  rintro e w1 ⟨rfl, f1⟩
  have hr1 : w1.heap[w.heap.size]? = _ := (f1.block _ (lt_of_heap (unhide HL0))).trans (unhide HL0)
  have HR := hide hr1
  have f1' := (unhide B0).trans (f1.mono (unhide B0).size)
  have F1 := hide f1'
  have HT1 := hide (unhide HT w1 f1')
  have HM1 := hide (unhide HM w1 f1')
  obtain ⟨g0, g1, g2, g3, g4⟩ := unhide HG w1 f1'
  clear f1 HC HL0 B0 hr1 f1' HT HM HG
  go_wp2_with fail
  refine (unhide HT1).mono ?_
  rintro e w2 ⟨rfl, e0⟩
  have e0' := e0.symm
  clear e0
  subst e0'
  clear HT1
  rcases ht with rfl | rfl | rfl | rfl | rfl
  all_goals
    go_wp2_with fail
    refine (unhide HM1).mono ?_
    rintro e w2 ⟨rfl, f2⟩
    have hr2 : w2.heap[w.heap.size]? = _ := (f2.block _ (lt_of_heap (unhide HR))).trans (unhide HR)
    have F3 := hide ((unhide F1).trans (f2.mono (unhide F1).size))
    obtain ⟨q0, q1, q2, q3, q4⟩ := cstC (x := cst0) hr2
    have fz : ∀ j, w2.frozen? ⟨w.heap.size, j, none⟩ = false := fun j => frozen_of_row _ _ _ _ _ hr2
    have HR2 := hide hr2
    clear hr2 f2 HM1 HR F1 g0 g1 g2 g3 g4
    go_wp2
    refine bodyPost_ret (kcst_results Try.results27 _ w.heap.size _ rfl (by exact five_set _ _ _ _ _ (unhide HR2)) _ rfl) rfl ⟨rfl, five_bel _ _ _ _ _ (unhide F3) (Nat.le_refl _)⟩

end Go.Proofs.Ytchhjieciiaooaa
