/- The landed pool: Put. -/
import Derived.Test.YtchhjieciiaooaaPkM
import Derived.Test.YtchhjieciiaooaaPlZ0
namespace Go.Proofs.Ytchhjieciiaooaa
open Go.RowKit Go.Maps
set_option linter.unusedVariables false

theorem knumber_any (w : World) (B g m N : Nat) (v : Value) (D : DataW Unit) (l : List Ent) (h : GrR w B g m v N D l) (tx : TX l l.length D) (hr : rightL l) (k : Cst) (hk : CstFit k) (hc : rightC k = true) (hl : l.length ≤ 1024) (hB : B ≤ w.heap.size) :
    Calls Try.prog 49 #[.pointer (some ⟨g, 0, none⟩), cstV k] w fun e w' => e = .returned (.int .i64 ((numK l k).2 : Int)) ∧ GrTo w B g m v (numK l k).1 w' := by
  obtain ⟨tag, n, s1, s2, s3⟩ := k
  obtain ⟨hk0, hk1, hk2, hk3, hk4⟩ := hk
  simp only at hk0 hk1 hk2 hk3 hk4
  have ht := rightC_tags hc
  simp only at ht
  rcases ht with rfl | rfl | rfl | rfl | rfl
  · have e : s1 = [] ∧ s2 = [] ∧ s3 = [] := by
      unfold rightC at hc
      simp at hc
      exact hc.1
    obtain ⟨rfl, rfl, rfl⟩ := e
    exact knumber_num3 w B g m N v D l h tx hr n (by omega) hB
  · have e : s1 = [] ∧ s2 = [] ∧ s3 = [] := by
      unfold rightC at hc
      simp at hc
      exact hc
    obtain ⟨rfl, rfl, rfl⟩ := e
    exact knumber_num5 w B g m N v D l h tx hr n (by omega) hB
  · have e : n = 0 ∧ s2 = [] ∧ s3 = [] := by
      unfold rightC at hc
      simp at hc
      exact hc.1
    obtain ⟨rfl, rfl, rfl⟩ := e
    have hn : numK l ⟨7, 0, s1, [], []⟩ = clsK l s1 := by
      unfold numK clsK cCls
      by_cases h0 : firstN l ⟨7, 0, s1, [], []⟩ = 0
      · rw [if_neg (by rw [h0]; simp), if_neg (by simp), if_pos rfl, if_pos h0]
      · rw [if_pos h0, if_neg h0]
    rw [hn]
    exact knumber_class w B g m N v D l h tx hr s1 hk2 (by omega) hB
  · have e : n = 0 ∧ textB s1 = true := by
      unfold rightC at hc
      simp at hc
      exact hc.1.1
    obtain ⟨rfl, hb⟩ := e
    exact knumber_ref9 w B g m N v D l h tx hr s1 s2 s3 hk2 hk3 hk4 hb (by omega) hB
  · have e : n = 0 ∧ textB s1 = true := by
      unfold rightC at hc
      simp at hc
      exact hc.1.1
    obtain ⟨rfl, hb⟩ := e
    exact knumber_ref10 w B g m N v D l h tx hr s1 s2 s3 hk2 hk3 hk4 hb (by omega) hB

theorem numK_len {l : List Ent} {k : Cst} : (numK l k).1.length ≤ l.length + 20 := by
  unfold numK
  repeat' split
  · show l.length ≤ _
    omega
  · simp only
    have h1 := withE_len2 l ⟨k.tag, [], k.n, 0, 0⟩
    omega
  · have := clsK_len l k.cls
    omega
  · unfold refK
    simp only
    have h1 := clsK_len l k.cls
    have h2 := namK_len (clsK l k.cls).1 k.name k.type
    have h3 := withE_len2 (namK (clsK l k.cls).1 k.name k.type).1 ⟨k.tag, [], 0, ((clsK l k.cls).2 : Int), ((namK (clsK l k.cls).1 k.name k.type).2 : Int)⟩
    omega

set_option maxHeartbeats 6400000 in
set_option maxRecDepth 100000 in
theorem kPut_any (w : World) (a : Option Addr) (n c : Nat) (l : List Ent) (h : EArg w a n c l) (k : Cst) (hk : CstFit k) (hn : n * 48 ≤ 140737488351232) (hf : (∀ x ∈ l, x.text.length ≤ 140737488355328) ∧ ∀ x ∈ l, EntFit x) :
    Calls Try.prog 29 #[.slice a n c, cstV k] w (PutE w (putK l k)) := by
  have b0 : Below w.heap.size w (w.alloc (.cells #[.int .i64 k.tag, .int .i64 k.n, .string ⟨k.cls.toArray⟩, .string ⟨k.name.toArray⟩, .string ⟨k.type.toArray⟩] 50)) := (Below.refl _ _).alloc (Nat.le_refl _) _
  have hc0 := heap_alloc_last w (.cells #[.int .i64 k.tag, .int .i64 k.n, .string ⟨k.cls.toArray⟩, .string ⟨k.name.toArray⟩, .string ⟨k.type.toArray⟩] 50)
  have HC := hide (kCheck_any _ a n c l (h.below b0).es (by omega) hf)
  have KC : Hid (∀ W, Below (w.alloc (.cells #[.int .i64 k.tag, .int .i64 k.n, .string ⟨k.cls.toArray⟩, .string ⟨k.name.toArray⟩, .string ⟨k.type.toArray⟩] 50)).heap.size (w.alloc (.cells #[.int .i64 k.tag, .int .i64 k.n, .string ⟨k.cls.toArray⟩, .string ⟨k.name.toArray⟩, .string ⟨k.type.toArray⟩] 50)) W → W.cell? ⟨w.heap.size, 0, none⟩ = some (.int .i64 k.tag) ∧ W.cell? ⟨w.heap.size, 1, none⟩ = some (.int .i64 k.n) ∧ W.cell? ⟨w.heap.size, 2, none⟩ = some (.string ⟨k.cls.toArray⟩) ∧ W.cell? ⟨w.heap.size, 3, none⟩ = some (.string ⟨k.name.toArray⟩) ∧ W.cell? ⟨w.heap.size, 4, none⟩ = some (.string ⟨k.type.toArray⟩)) := fun W f => cstC ((f.block _ (lt_of_heap hc0)).trans hc0)
  have B0 := hide b0
  by_cases hc : checkP l = true
  case neg =>
    have e1 : putK l k = ([], 0, 70) := if_pos (by simpa using hc)
    rw [if_neg hc] at HC
    rw [e1]
    unfold cstV
    clear h e1 hc b0 hc0 KC
    generalize (⟨k.cls.toArray⟩ : ByteArray) = s1 at *
    generalize (⟨k.name.toArray⟩ : ByteArray) = s2 at *
    generalize (⟨k.type.toArray⟩ : ByteArray) = s3 at *
    go_enter Try.func29, Try.ntmps29
    go_wp2_with fail
    generalize w.alloc (.cells #[.int .i64 k.tag, .int .i64 k.n, .string s1, .string s2, .string s3] 50) = w0 at *
    refine (unhide HC).mono ?_
    rintro e w1 ⟨rfl, f1⟩
    have F1 := hide ((unhide B0).trans (f1.mono (unhide B0).size))
    clear f1 HC B0
    go_wp2
    go_ret3
    exact ⟨⟨none, 0, rfl, earg_nil _⟩, unhide F1⟩
  rw [if_pos hc] at HC
  have hrt := (checkP_right.1 hc).2
  have hlen := (checkP_right.1 hc).1
  have HM : Hid (∀ W, Calls Try.prog 47 #[cstV k] W fun e w' => e = .returned (.bool (rightC k)) ∧ Below W.heap.size W w') := fun W => kcanMean_any W k hk
  by_cases hrc : rightC k = true
  case neg =>
    have hrc' : rightC k = false := by simpa using hrc
    have e1 : putK l k = ([], 0, 2) := by
      unfold putK
      rw [if_neg (by rw [hc]; simp), if_pos hrc']
    rw [e1]
    rw [hrc'] at HM
    unfold cstV at *
    clear h e1 hc b0 hc0 hrc hrc' hrt
    generalize (⟨k.cls.toArray⟩ : ByteArray) = s1 at *
    generalize (⟨k.name.toArray⟩ : ByteArray) = s2 at *
    generalize (⟨k.type.toArray⟩ : ByteArray) = s3 at *
    go_enter Try.func29, Try.ntmps29
    go_wp2_with fail
    generalize w.alloc (.cells #[.int .i64 k.tag, .int .i64 k.n, .string s1, .string s2, .string s3] 50) = w0 at *
    refine (unhide HC).mono ?_
    rintro e w1 ⟨rfl, f1⟩
    obtain ⟨q0, q1, q2, q3, q4⟩ := unhide KC w1 f1
    have F1 := hide ((unhide B0).trans (f1.mono (unhide B0).size))
    clear f1 HC B0 KC
    go_wp2_with fail
    refine (unhide HM w1).mono ?_
    rintro e w2 ⟨rfl, f2⟩
    have F2 := hide ((unhide F1).trans (f2.mono (unhide F1).size))
    clear f2 HM F1 q0 q1 q2 q3 q4
    go_wp2
    go_ret3
    exact ⟨⟨none, 0, rfl, earg_nil _⟩, unhide F2⟩
  rw [hrc] at HM
  have hln := h.es.1
  have HF : Hid (∀ W, Below w.heap.size w W → Calls Try.prog 48 #[.slice a n c] W fun e w' => ∃ g m v N D, e = .returned (.pointer (some ⟨g, 0, none⟩)) ∧ GrR w' W.heap.size g m v N D l ∧ TX l l.length D ∧ Below W.heap.size W w') := fun W f => kfrom_any W a n c l (h.below f) hn hrt hf.1
  have HK : Hid (∀ W B g m v N D, GrR W B g m v N D l → TX l l.length D → B ≤ W.heap.size → Calls Try.prog 49 #[.pointer (some ⟨g, 0, none⟩), cstV k] W fun e w' => e = .returned (.int .i64 ((numK l k).2 : Int)) ∧ GrTo W B g m v (numK l k).1 w') := fun W B g m v N D h1 h2 h3 => knumber_any W B g m N v D l h1 h2 hrt k hk hrc (by omega) h3
  have e1 : putK l k = if 1024 < (numK l k).1.length then ([], 0, 3) else ((numK l k).1, ((numK l k).2 : Int), 0) := by
    unfold putK
    rw [if_neg (by rw [hc]; simp), if_neg (by rw [hrc]; simp)]
  have hnl := numK_len (l := l) (k := k)
  obtain ⟨PR, hPR⟩ : ∃ PR, PR = putK l k := ⟨_, rfl⟩
  rw [← hPR]
  rw [e1] at hPR
  have HPR := hide hPR
  generalize hL : (numK l k).1 = L at *
  generalize hKK : (numK l k).2 = K at *
  unfold cstV at *
  clear h e1 hc b0 hc0 hrc hrt hL hKK hPR
  generalize (⟨k.cls.toArray⟩ : ByteArray) = s1 at *
  generalize (⟨k.name.toArray⟩ : ByteArray) = s2 at *
  generalize (⟨k.type.toArray⟩ : ByteArray) = s3 at *
  go_enter Try.func29, Try.ntmps29
  go_wp2_with fail
  generalize w.alloc (.cells #[.int .i64 k.tag, .int .i64 k.n, .string s1, .string s2, .string s3] 50) = w0 at *
  refine (unhide HC).mono ?_
  rintro e w1 ⟨rfl, f1⟩
  obtain ⟨q0, q1, q2, q3, q4⟩ := unhide KC w1 f1
  have F0 := hide f1
  clear f1 HC
  go_wp2_with fail
  refine (unhide HM w1).mono ?_
  rintro e w2 ⟨rfl, f2⟩
  have F2 := hide ((unhide F0).trans (f2.mono (unhide F0).size))
  clear f2 HM F0 q0 q1 q2 q3 q4
  have HF2 := hide (unhide HF w2 ((unhide B0).trans ((unhide F2).mono (unhide B0).size)))
  clear HF
  go_wp2_with fail
  refine (unhide HF2).mono ?_
  rintro e w3 ⟨g, m, v, N, D, rfl, g3, t3, f3⟩
  have f3' := (unhide F2).trans (f3.mono (unhide F2).size)
  obtain ⟨q0, q1, q2, q3, q4⟩ := unhide KC w3 f3'
  have F3 := hide f3'
  have HK3 := hide (unhide HK w3 _ g m v N D g3 t3 f3.size)
  have hsz2 : w.heap.size ≤ w2.heap.size := Nat.le_trans (unhide B0).size (unhide F2).size
  clear HK HF2 KC f3 f3' g3 t3
  go_wp2_with fail
  refine (unhide HK3).mono ?_
  rintro e w4 ⟨rfl, v4, N4, D4, g4, t4, o4, fr4⟩
  have f4 := (unhide B0).trans (((unhide F3).mono (unhide B0).size).trans (fr4.below.mono hsz2))
  have hr4 := g4.row
  obtain ⟨a4, c4, rfl⟩ := own5_form hr4
  have d0 := g4.c0
  have E4 := hide (earg_of_own hr4)
  have F4 := hide f4
  clear HK3 F3 q0 q1 q2 q3 q4 g4 t4 o4 fr4 f4 hr4
  by_cases hbig : 1024 < L.length
  · have hbig' : (1024 : Int) < (L.length : Int) := by omega
    go_wp2
    go_ret3
    rw [unhide HPR, if_pos hbig]
    exact ⟨⟨none, 0, rfl, earg_nil _⟩, unhide F4⟩
  · have hbig' : ¬ (1024 : Int) < (L.length : Int) := by omega
    go_wp2
    go_ret3
    rw [unhide HPR, if_neg hbig]
    exact ⟨⟨a4, c4, rfl, unhide E4⟩, unhide F4⟩

end Go.Proofs.Ytchhjieciiaooaa
