/- The walk of PoolKeeps: what is plain of it. -/
import Derived.Test.YtjpimcglojneaaaJF

namespace Go.Proofs.Ytjpimcglojneaaa
open Go.RowKit
set_option linter.unusedVariables false

theorem putP_err {l : List Ent} {k : Cst} (h : (putP l k).2.2 ≠ 0) : (putP l k).1 = [] ∧ (putP l k).2.1 = 0 := by
  unfold putP at h ⊢
  split
  · exact ⟨rfl, rfl⟩
  · rename_i h1
    rw [if_neg h1] at h
    split
    · exact ⟨rfl, rfl⟩
    · rename_i h2
      rw [if_neg h2] at h
      split
      · rename_i h3
        rw [if_pos h3] at h
        exact absurd rfl h
      · rename_i h3
        rw [if_neg h3] at h
        split
        · exact ⟨rfl, rfl⟩
        · rename_i h4
          rw [if_neg h4] at h
          exact absurd rfl h
theorem addE_num (l : List Ent) (x : Ent) : (addE l x).2 ≤ l.length := by
  unfold addE
  split
  · exact Nat.le_refl _
  · rename_i h
    exact Nat.le_of_lt (findE_some h).2.1
theorem addE_fit {l : List Ent} {x : Ent} (h : EntsFit7 l) (hx : EntFit x ∧ x.text.length ≤ 1000000) : EntsFit7 (addE l x).1 := by
  unfold addE
  split
  · exact h.more hx
  · exact h
theorem utf_fit {s : List UInt8} (h : s.length ≤ 1000000) : EntFit (eUtf s) ∧ (eUtf s).text.length ≤ 1000000 := by
  refine ⟨⟨?_, ?_, ?_, ?_⟩, h⟩ <;> (unfold eUtf; simp)
theorem ref_fit {t a b : Int} (ht : 0 ≤ t ∧ t ≤ 12) (ha : 0 ≤ a ∧ a ≤ 100000) (hb : 0 ≤ b ∧ b ≤ 100000) : EntFit ⟨t, [], 0, a, b⟩ ∧ (⟨t, [], 0, a, b⟩ : Ent).text.length ≤ 1000000 := by
  refine ⟨⟨?_, ?_, ?_, ?_⟩, by simp⟩ <;> simp <;> omega
theorem textB_le {s : List UInt8} (h : textB s = true) : s.length ≤ 255 := by
  unfold textB at h
  simp at h
  omega
theorem growP_fit {l : List Ent} {k : Cst} (h : EntsFit7 l) (hl : l.length ≤ 1024) (hk : CstFit k) (hr : rightC k = true) : EntsFit7 (growP l k).1 := by
  unfold growP
  by_cases h1 : k.tag = 3 ∨ k.tag = 5
  · rw [if_pos h1]
    refine addE_fit h ⟨⟨hk.1, hk.2.1, ?_, ?_⟩, by simp⟩ <;> simp
  · rw [if_neg h1]
    by_cases h2 : k.tag = 7
    · rw [if_pos h2]
      have ht : textB k.cls = true := by
        unfold rightC at hr
        simp [h2] at hr
        exact hr.2
      have t1 := textB_le ht
      have n1 := addE_num l (eUtf k.cls)
      exact addE_fit (addE_fit h (utf_fit (by omega))) (ref_fit (by omega) (by omega) (by omega))
    · rw [if_neg h2]
      have ht : k.tag = 9 ∨ k.tag = 10 := by
        by_cases h9 : k.tag = 9 ∨ k.tag = 10
        · exact h9
        · unfold rightC at hr
          rw [if_neg (by omega), if_neg (by omega), if_neg h2, if_neg h9] at hr
          cases hr
      have hts : textB k.cls = true ∧ textB k.name = true ∧ textB k.type = true := by
        unfold rightC at hr
        rcases ht with t | t <;> simp [t] at hr
        · exact ⟨hr.1.1.2, hr.1.2, hr.2⟩
        · exact ⟨hr.1.1.2, hr.1.2, hr.2⟩
      have t1 := textB_le hts.1
      have t2 := textB_le hts.2.1
      have t3 := textB_le hts.2.2
      simp only
      have n1 := addE_num l (eUtf k.cls)
      have l1 := addE_len l (eUtf k.cls)
      have f1 := addE_fit h (utf_fit (s := k.cls) (by omega))
      generalize addE l (eUtf k.cls) = p1 at *
      have n2 := addE_num p1.1 ⟨7, [], 0, (p1.2 : Int), 0⟩
      have l2 := addE_len p1.1 ⟨7, [], 0, (p1.2 : Int), 0⟩
      have f2 := addE_fit f1 (ref_fit (t := 7) (a := (p1.2 : Int)) (b := 0) (by omega) (by omega) (by omega))
      generalize addE p1.1 ⟨7, [], 0, (p1.2 : Int), 0⟩ = p2 at *
      have n3 := addE_num p2.1 (eUtf k.name)
      have l3 := addE_len p2.1 (eUtf k.name)
      have f3 := addE_fit f2 (utf_fit (s := k.name) (by omega))
      generalize addE p2.1 (eUtf k.name) = p3 at *
      have n4 := addE_num p3.1 (eUtf k.type)
      have l4 := addE_len p3.1 (eUtf k.type)
      have f4 := addE_fit f3 (utf_fit (s := k.type) (by omega))
      generalize addE p3.1 (eUtf k.type) = p4 at *
      have n5 := addE_num p4.1 ⟨12, [], 0, (p3.2 : Int), (p4.2 : Int)⟩
      have f5 := addE_fit f4 (ref_fit (t := 12) (a := (p3.2 : Int)) (b := (p4.2 : Int)) (by omega) (by omega) (by omega))
      have l5 := addE_len p4.1 ⟨12, [], 0, (p3.2 : Int), (p4.2 : Int)⟩
      generalize addE p4.1 ⟨12, [], 0, (p3.2 : Int), (p4.2 : Int)⟩ = p5 at *
      exact addE_fit f5 (ref_fit (by omega) (by omega) (by omega))
theorem putP_fit {l : List Ent} {k : Cst} (h : EntsFit7 l) (hk : CstFit k) : EntsFit7 (putP l k).1 := by
  have e0 : EntsFit7 [] := ⟨fun y hy => by simp at hy, fun y hy => by simp at hy⟩
  unfold putP
  split
  · exact e0
  · rename_i h1
    split
    · exact e0
    · rename_i h2
      split
      · exact h
      · split
        · exact e0
        · have hc : checkP l = true := by simpa using h1
          exact growP_fit h (checkP_right.1 hc).1.2 hk (by simpa using h2)

theorem clsK_fit {l : List Ent} {s : List UInt8} (h : EntsFit7 l) (hl : l.length ≤ 2000) (hs : textB s = true) : EntsFit7 (clsK l s).1 ∧ (clsK l s).1.length ≤ l.length + 4 ∧ (clsK l s).2 ≤ l.length + 4 := by
  have t1 := textB_le hs
  have n1 := addE_num l (eUtf s)
  have l1 := addE_len l (eUtf s)
  have f1 := addE_fit h (utf_fit (s := s) (by omega))
  unfold clsK
  by_cases h0 : firstN l (cCls s) = 0
  · rw [if_pos h0]
    simp only
    have w1 := withE_len (addE l (eUtf s)).1 ⟨7, [], 0, ((addE l (eUtf s)).2 : Int), 0⟩
    refine ⟨f1.more (ref_fit (by omega) (by omega) (by omega)), ?_, by omega⟩
    rw [withE_eq, List.length_append]
    split
    · simp; omega
    · simp; omega
  · rw [if_neg h0]
    have := firstN_some h0
    exact ⟨h, by simp, by simp; omega⟩
theorem namK_fit {l : List Ent} {s t : List UInt8} (h : EntsFit7 l) (hl : l.length ≤ 2010) (hs : textB s = true) (ht : textB t = true) : EntsFit7 (namK l s t).1 ∧ (namK l s t).2 ≤ l.length + 6 := by
  have t1 := textB_le hs
  have t2 := textB_le ht
  have n1 := addE_num l (eUtf s)
  have l1 := addE_len l (eUtf s)
  have f1 := addE_fit h (utf_fit (s := s) (by omega))
  unfold namK
  by_cases h0 : firstN l (cNam s t) = 0
  · rw [if_pos h0]
    simp only
    generalize addE l (eUtf s) = p1 at *
    have n2 := addE_num p1.1 (eUtf t)
    have l2 := addE_len p1.1 (eUtf t)
    have f2 := addE_fit f1 (utf_fit (s := t) (by omega))
    exact ⟨f2.more (ref_fit (by omega) (by omega) (by omega)), by omega⟩
  · rw [if_neg h0]
    have := firstN_some h0
    exact ⟨h, by simp; omega⟩
theorem numK_fit {l : List Ent} {k : Cst} (h : EntsFit7 l) (hl : l.length ≤ 1024) (hk : CstFit k) (hr : rightC k = true) : EntsFit7 (numK l k).1 := by
  unfold numK
  by_cases h0 : firstN l k ≠ 0
  · rw [if_pos h0]
    exact h
  rw [if_neg h0]
  by_cases h1 : k.tag = 3 ∨ k.tag = 5
  · rw [if_pos h1]
    refine h.more ⟨⟨hk.1, hk.2.1, ?_, ?_⟩, by simp⟩ <;> simp
  rw [if_neg h1]
  by_cases h2 : k.tag = 7
  · rw [if_pos h2]
    have ht : textB k.cls = true := by
      unfold rightC at hr
      simp [h2] at hr
      exact hr.2
    exact (clsK_fit h (by omega) ht).1
  rw [if_neg h2]
  have ht := rightC_tags hr
  have ht9 : k.tag = 9 ∨ k.tag = 10 := by omega
  have hts : textB k.cls = true ∧ textB k.name = true ∧ textB k.type = true := by
    unfold rightC at hr
    rcases ht9 with t | t <;> simp [t] at hr
    · exact ⟨hr.1.1.2, hr.1.2, hr.2⟩
    · exact ⟨hr.1.1.2, hr.1.2, hr.2⟩
  obtain ⟨c1, c2, c3⟩ := clsK_fit h (by omega) hts.1
  unfold refK
  simp only
  generalize clsK l k.cls = p1 at *
  obtain ⟨d1, d2⟩ := namK_fit c1 (by omega) hts.2.1 hts.2.2
  exact d1.more (ref_fit (by omega) (by omega) (by omega))
theorem putK_fit {l : List Ent} {k : Cst} (h : EntsFit7 l) (hk : CstFit k) : EntsFit7 (putK l k).1 := by
  have e0 : EntsFit7 [] := ⟨fun y hy => by simp at hy, fun y hy => by simp at hy⟩
  unfold putK
  split
  · exact e0
  · rename_i h1
    split
    · exact e0
    · rename_i h2
      split
      · exact e0
      · have hc : checkP l = true := by simpa using h1
        exact numK_fit h (checkP_right.1 hc).1.2 hk (by simpa using h2)

end Go.Proofs.Ytjpimcglojneaaa
