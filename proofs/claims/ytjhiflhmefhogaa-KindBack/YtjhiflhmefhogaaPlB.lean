/- Pools as plain values: what is written is read. -/
import Derived.Test.YtjhiflhmefhogaaPlA
namespace Go.Proofs.Ytjhiflhmefhogaa
open Go.RowKit
set_option linter.unusedVariables false

theorem getW_at {p r : List UInt8} {k n : Int} {sg : Bool} (h : fitsW k n sg) (hn : -9223372036854775808 ≤ n ∧ n ≤ 9223372036854775807) : getW (p ++ (bytesW k n ++ r)) p.length k sg = (n, 0, p.length + k.toNat) := by
  unfold getW
  have hl := bytesW_len k n
  have hk : 0 ≤ k := by rcases h.1 with rfl | rfl | rfl | rfl <;> omega
  rw [if_pos h.1, if_neg (by rw [List.length_append, List.length_append, hl]; omega), List.drop_left, ← hl, List.take_left, val_bytes h hn]
theorem takeW_at (p t r : List UInt8) : takeW (p ++ (t ++ r)) p.length t.length = (t, 0, p.length + t.length) := by
  unfold takeW
  rw [if_neg (by omega), if_neg (by rw [List.length_append, List.length_append]; omega), Int.toNat_natCast, List.drop_left, List.take_left]

def EntFit (x : Ent) : Prop := (-9223372036854775808 ≤ x.tag ∧ x.tag ≤ 9223372036854775807) ∧ (-9223372036854775808 ≤ x.n ∧ x.n ≤ 9223372036854775807) ∧ (-9223372036854775808 ≤ x.a ∧ x.a ≤ 9223372036854775807) ∧ (-9223372036854775808 ≤ x.b ∧ x.b ≤ 9223372036854775807)
theorem tagE_in {l : List Ent} {i : Int} (h : tagE l i ≠ 0) : 0 ≤ i ∧ i < l.length := by
  unfold tagE atE at h
  by_cases h0 : 0 ≤ i
  · rw [if_pos h0] at h
    refine ⟨h0, ?_⟩
    by_cases h1 : i.toNat < l.length
    · omega
    · rw [List.getElem?_eq_none (by omega)] at h
      exact absurd rfl h
  · rw [if_neg h0] at h
    exact absurd rfl h
theorem bytesE_tag {x : Ent} (h : 0 ≤ x.tag ∧ x.tag ≤ 255) (h0 : x.tag ≠ 0) : bytesE x = bytesW 1 x.tag ++ bodyE x := by
  unfold bytesE
  rw [if_neg h0]
  have : bytesW 1 x.tag = [UInt8.ofNat x.tag.toNat] := by
    show beK 0 _ ++ [UInt8.ofNat (x.tag % 18446744073709551616).toNat] = _
    rw [show x.tag % 18446744073709551616 = x.tag by omega]
    rfl
  rw [this]
  rfl
theorem fits2 {n : Int} (h : 0 ≤ n ∧ n < 65536) : fitsW 2 n false := by
  refine ⟨by unfold wide; omega, ?_⟩
  rw [if_neg (by decide), if_neg (by decide)]
  simp
  omega
theorem fits1 {n : Int} (h : 0 ≤ n ∧ n < 256) : fitsW 1 n false := by
  refine ⟨by unfold wide; omega, ?_⟩
  rw [if_neg (by decide), if_neg (by decide)]
  simp
  omega
theorem fits4 {n : Int} (h : -2147483648 ≤ n ∧ n ≤ 2147483647) : fitsW 4 n true := by
  refine ⟨by unfold wide; omega, ?_⟩
  rw [if_neg (by decide), if_pos rfl]
  simp
  omega
theorem fits8 (n : Int) : fitsW 8 n true := ⟨by unfold wide; omega, by rw [if_pos rfl]; exact .inl rfl⟩

/-- An entry's tag is one of seven. -/
theorem okE_tag {l : List Ent} {x : Ent} (h : okE l x = true) : x.tag = 1 ∨ x.tag = 3 ∨ x.tag = 5 ∨ x.tag = 7 ∨ x.tag = 12 ∨ x.tag = 9 ∨ x.tag = 10 := by
  unfold okE at h
  repeat (split at h; omega)
  cases h

theorem entR_at {l : List Ent} {x : Ent} (p r : List UInt8) (h : okE l x = true) (hl : l.length ≤ 1024) (hf : EntFit x) : entR (p ++ (bytesE x ++ r)) p.length = (x, 0, p.length + (bytesE x).length) := by
  have ht := okE_tag h
  have hb := bytesE_tag (x := x) (by omega) (by omega)
  have hg : getW (p ++ (bytesE x ++ r)) p.length 1 false = (x.tag, 0, p.length + 1) := by
    rw [hb, List.append_assoc]
    exact getW_at (fits1 (by omega)) (by omega)
  have hlen : (bytesE x).length = 1 + (bodyE x).length := by rw [hb, List.length_append, bytesW_len]; rfl
  obtain ⟨P, hP⟩ : ∃ P, P = p ++ bytesW 1 x.tag := ⟨_, rfl⟩
  have hPl : P.length = p.length + 1 := by rw [hP, List.length_append, bytesW_len]; rfl
  have hbs : p ++ (bytesE x ++ r) = P ++ (bodyE x ++ r) := by rw [hb, hP]; simp
  rw [hbs] at hg ⊢
  rw [← hPl] at hg
  rw [hlen, show p.length + (1 + (bodyE x).length) = P.length + (bodyE x).length by omega]
  clear hb hbs hlen
  unfold entR
  simp only [hg]
  rw [if_neg (by simp)]
  unfold okE at h
  rcases ht with e | e | e | e | e | e | e
  · simp only [e, if_true] at h ⊢
    rw [Bool.and_eq_true, decide_eq_true_eq] at h
    obtain ⟨h1, h2⟩ := h
    unfold textB at h1
    rw [Bool.and_eq_true, decide_eq_true_eq] at h1
    have hbody : bodyE x = bytesW 2 x.text.length ++ x.text := by unfold bodyE; rw [if_pos e]
    have g2 := getW_at (p := P) (r := x.text ++ r) (k := 2) (n := x.text.length) (sg := false) (fits2 (by omega)) (by omega)
    have t2 := takeW_at (P ++ bytesW 2 x.text.length) x.text r
    have hl2 : (P ++ bytesW 2 x.text.length).length = P.length + 2 := by rw [List.length_append, bytesW_len]; rfl
    rw [hl2, List.append_assoc] at t2
    rw [hbody, List.append_assoc, g2]
    simp only [ne_eq, not_true_eq_false, if_false]
    rw [show Int.toNat 2 = 2 from rfl, t2]
    refine Prod.ext ?_ (Prod.ext rfl ?_)
    · rw [h2]; rfl
    · simp only [List.length_append, bytesW_len]
      show P.length + 2 + _ = P.length + (2 + _)
      omega
  · simp only [e] at h ⊢
    simp only [Bool.and_eq_true, decide_eq_true_eq, if_true, show ¬ (3 : Int) = 1 by decide, if_false] at h ⊢
    obtain ⟨h1, h2⟩ := h
    have hbody : bodyE x = bytesW 4 x.n := by unfold bodyE; rw [e]; rfl
    rw [hbody, getW_at (fits4 h1) hf.2.1]
    refine Prod.ext ?_ (Prod.ext rfl (by rw [bytesW_len]))
    rw [h2]
  · simp only [e] at h ⊢
    simp only [decide_eq_true_eq, if_true, show ¬ (5 : Int) = 1 by decide, show ¬ (5 : Int) = 3 by decide, if_false] at h ⊢
    have hbody : bodyE x = bytesW 8 x.n := by unfold bodyE; rw [e]; rfl
    rw [hbody, getW_at (fits8 _) hf.2.1]
    refine Prod.ext ?_ (Prod.ext rfl (by rw [bytesW_len]))
    rw [h]
  · simp only [e] at h ⊢
    simp only [Bool.and_eq_true, decide_eq_true_eq, if_true, show ¬ (7 : Int) = 1 by decide, show ¬ (7 : Int) = 3 by decide, show ¬ (7 : Int) = 5 by decide, if_false] at h ⊢
    obtain ⟨h1, h2⟩ := h
    have hi := tagE_in (l := l) (i := x.a) (by omega)
    have hbody : bodyE x = bytesW 2 x.a := by unfold bodyE; rw [e]; rfl
    rw [hbody, getW_at (fits2 (by omega)) (by omega)]
    refine Prod.ext ?_ (Prod.ext rfl (by rw [bytesW_len]))
    rw [h2]
  all_goals
    have hbody : bodyE x = bytesW 2 x.a ++ bytesW 2 x.b := by unfold bodyE; rw [e]; rfl
    have hx : (x = ⟨x.tag, [], 0, x.a, x.b⟩) ∧ (0 ≤ x.a ∧ x.a < l.length) ∧ (0 ≤ x.b ∧ x.b < l.length) := by
      simp only [e] at h ⊢
      simp at h
      exact ⟨h.2, tagE_in (by omega), tagE_in (by omega)⟩
    obtain ⟨h1, h2, h3⟩ := hx
    have g2 := getW_at (p := P) (r := bytesW 2 x.b ++ r) (k := 2) (n := x.a) (sg := false) (fits2 (by omega)) (by omega)
    have g3 := getW_at (p := P ++ bytesW 2 x.a) (r := r) (k := 2) (n := x.b) (sg := false) (fits2 (by omega)) (by omega)
    have hl2 : (P ++ bytesW 2 x.a).length = P.length + 2 := by rw [List.length_append, bytesW_len]; rfl
    rw [hl2, List.append_assoc] at g3
    rw [hbody, List.append_assoc, g2]
    simp only [e]
    rw [show Int.toNat 2 = 2 from rfl, g3]
    simp
    refine ⟨?_, ?_⟩
    · rw [h1, e]
    · simp only [bytesW_len]
      show P.length + 2 + 2 = P.length + (2 + 2)
      omega

end Go.Proofs.Ytjhiflhmefhogaa
