/- Pools as plain values: a right pool's bytes are read as it. -/
import Derived.Test.YtjhiflhmefhogaaPlB
namespace Go.Proofs.Ytjhiflhmefhogaa
open Go.RowKit
set_option linter.unusedVariables false

theorem bytesE_zero : bytesE ent0 = [] := rfl
theorem withE_len (l : List Ent) (x : Ent) : l.length + 1 ≤ (withE l x).length := by
  unfold withE
  split <;> simp
theorem entsR_at {l : List Ent} (hl : l.length ≤ 1024) (r : List UInt8) : ∀ (s pre : List Ent) (p : List UInt8) (f : Nat), goE l s = true → (∀ x ∈ s, EntFit x) → s.length ≤ f →
    entsR (p ++ (s.flatMap bytesE ++ r)) (pre ++ s).length f pre p.length = (pre ++ s, 0, p.length + (s.flatMap bytesE).length)
  | [], pre, p, f, _, _, _ => by
    cases f with
    | zero => simp [entsR]
    | succ f => simp [entsR]
  | [x], pre, p, f, h, hf, hfu => by
    obtain ⟨f, rfl⟩ : ∃ g, f = g + 1 := ⟨f - 1, by simp at hfu; omega⟩
    simp only [goE, Bool.and_eq_true, decide_eq_true_eq] at h
    have e1 := entR_at p r h.1 hl (hf x (by simp))
    have e2 : withE pre x = pre ++ [x] := by unfold withE; rw [if_neg h.2]
    simp only [List.flatMap_cons, List.flatMap_nil, List.append_nil]
    rw [entsR, if_neg (by simp), e1]
    simp only [ne_eq, not_true_eq_false, if_false, e2]
    cases f with
    | zero => simp [entsR]
    | succ f => simp [entsR]
  | x :: z :: s, pre, p, f, h, hf, hfu => by
    obtain ⟨f, rfl⟩ : ∃ g, f = g + 1 := ⟨f - 1, by simp at hfu; omega⟩
    rw [goE, Bool.and_eq_true] at h
    have e1 := entR_at p (((z :: s).flatMap bytesE) ++ r) h.1 hl (hf x (by simp))
    have hsp : p ++ ((x :: z :: s).flatMap bytesE ++ r) = p ++ (bytesE x ++ ((z :: s).flatMap bytesE ++ r)) := by simp
    have hpl : p.length + (bytesE x).length = (p ++ bytesE x).length := by simp
    rw [entsR, if_neg (by simp), hsp, e1]
    simp only [ne_eq, not_true_eq_false, if_false]
    rw [hpl, ← List.append_assoc p]
    by_cases h5 : x.tag = 5
    · rw [if_pos h5, Bool.and_eq_true, decide_eq_true_eq] at h
      obtain ⟨_, rfl, h2⟩ := h
      have e2 : withE pre x = pre ++ [x, ent0] := by unfold withE; rw [if_pos h5]
      have ih := entsR_at hl r s (pre ++ [x, ent0]) (p ++ bytesE x) f h2 (fun y hy => hf y (by simp [hy])) (by simp at hfu; omega)
      have e3 : (ent0 :: s).flatMap bytesE = s.flatMap bytesE := by simp [bytesE_zero]
      have e4 : pre ++ [x, ent0] ++ s = pre ++ x :: ent0 :: s := by simp
      rw [e2, e3, ← e4, ih]
      simp [bytesE_zero, Nat.add_assoc]
    · rw [if_neg h5] at h
      have e2 : withE pre x = pre ++ [x] := by unfold withE; rw [if_neg h5]
      have ih := entsR_at hl r (z :: s) (pre ++ [x]) (p ++ bytesE x) f h.2 (fun y hy => hf y (by simp at hy ⊢; exact .inr hy)) (by simp at hfu ⊢; omega)
      have e4 : pre ++ [x] ++ (z :: s) = pre ++ x :: z :: s := by simp
      rw [e2, ← e4, ih]
      simp [Nat.add_assoc]
theorem checkP_iff {l : List Ent} : checkP l = true ↔ (1 ≤ l.length ∧ l.length ≤ 1024) ∧ l[0]? = some ent0 ∧ goE l (l.drop 1) = true := by
  unfold checkP
  simp [and_assoc]
theorem readP_at {l : List Ent} (p r : List UInt8) (h : checkP l = true) (hf : ∀ x ∈ l, EntFit x) : readP (p ++ (bytesP l ++ r)) p.length = (l, 0, p.length + (bytesP l).length) := by
  obtain ⟨⟨h1, h2⟩, h3, h4⟩ := checkP_iff.1 h
  obtain ⟨x, s, rfl⟩ : ∃ x s, l = x :: s := by
    cases l with
    | nil => simp at h1
    | cons x s => exact ⟨x, s, rfl⟩
  have hx : x = ent0 := by simpa using h3
  subst hx
  have hbp : bytesP (ent0 :: s) = bytesW 2 ((ent0 :: s).length : Int) ++ s.flatMap bytesE := rfl
  have g1 := getW_at (p := p) (r := s.flatMap bytesE ++ r) (k := 2) (n := ((ent0 :: s).length : Int)) (sg := false) (fits2 (by omega)) (by omega)
  have hpl : (p ++ bytesW 2 ((ent0 :: s).length : Int)).length = p.length + 2 := by rw [List.length_append, bytesW_len]; rfl
  have e1 := entsR_at h2 r s [ent0] (p ++ bytesW 2 ((ent0 :: s).length : Int)) (ent0 :: s).length h4 (fun y hy => hf y (by simp [hy])) (by simp)
  rw [hpl, List.append_assoc] at e1
  unfold readP
  rw [hbp, List.append_assoc, g1]
  simp only [ne_eq, not_true_eq_false, if_false]
  rw [if_neg (by omega), Int.toNat_natCast, show Int.toNat 2 = 2 from rfl]
  have e2 : [ent0] ++ s = ent0 :: s := rfl
  rw [e2] at e1
  rw [e1]
  simp only [not_true_eq_false, if_false]
  rw [if_neg (by rw [h]; simp)]
  simp only [List.length_append, bytesW_len, Prod.mk.injEq, true_and]
  show p.length + 2 + _ = p.length + (2 + _)
  omega

end Go.Proofs.Ytjhiflhmefhogaa
