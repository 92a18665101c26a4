/- Names of classes, descriptors and types as plain values. -/
import Derived.Test.YtjhiflhmefhogaaJLsA
import Derived.Lib.Bytealg

namespace Go.Proofs.Ytjhiflhmefhogaa
open Go.RowKit
set_option linter.unusedVariables false

def letB (c : UInt8) : Bool := decide (97 ≤ c.toNat ∧ c.toNat ≤ 122 ∨ 65 ≤ c.toNat ∧ c.toNat ≤ 90)
def namB (c : UInt8) : Bool := decide (letB c = true ∨ 48 ≤ c.toNat ∧ c.toNat ≤ 57 ∨ c.toNat = 95 ∨ c.toNat = 36 ∨ c.toNat = 47)
def clsB : List UInt8 → Bool
  | [] => false
  | c :: t => decide (t.length ≤ 59) && letB c && t.all namB

def ty0 : Ty := ⟨0, []⟩
/-- The descriptor that a text begins with, behind a number of [, and how many bytes it has. -/
def oneP : List UInt8 → Nat → Ty × Nat
  | [], _ => (ty0, 0)
  | c :: t, a =>
    if 8 < a then (ty0, 0)
    else if c = 73 then (⟨1, []⟩, 1)
    else if c = 74 then (⟨2, []⟩, 1)
    else if c = 76 then
      if Lib.indexByte t 59 = -1 then (ty0, 0)
      else if clsB (t.take (Lib.indexByte t 59).toNat) = true then (⟨4, t.take (Lib.indexByte t 59).toNat⟩, (Lib.indexByte t 59).toNat + 2) else (ty0, 0)
    else if c = 91 then
      if t[0]? = some 66 ∧ a < 8 then (⟨4, [91, 66]⟩, 2)
      else if 0 < (oneP t (a + 1)).2 then (⟨4, c :: t.take (oneP t (a + 1)).2⟩, (oneP t (a + 1)).2 + 1) else (ty0, 0)
    else (ty0, 0)

/-- How many [ a text begins with. -/
def deepN : List UInt8 → Nat
  | [] => 0
  | c :: t => if c = 91 then deepN t + 1 else 0
def innN : List UInt8 → Bool → Nat
  | [], _ => 0
  | c :: t, b =>
    if c = 73 ∨ c = 74 then 1
    else if c = 66 then (if b then 1 else 0)
    else if c = 76 then (if Lib.indexByte t 59 = -1 then 0 else if clsB (t.take (Lib.indexByte t 59).toNat) = true then (Lib.indexByte t 59).toNat + 2 else 0)
    else 0
def sizeN (s : List UInt8) : Nat := if 8 < deepN s then 0 else if innN (s.drop (deepN s)) (decide (0 < deepN s)) = 0 then 0 else deepN s + innN (s.drop (deepN s)) (decide (0 < deepN s))
def typeP (s : List UInt8) : Ty := if s[0]? = some 73 then ⟨1, []⟩ else if s[0]? = some 74 then ⟨2, []⟩ else if s[0]? = some 76 then ⟨4, (s.drop 1).take (s.length - 2)⟩ else ⟨4, s⟩

theorem idx_lt : ∀ (t : List UInt8) (c : UInt8), Lib.indexByte t c ≠ -1 → 0 ≤ Lib.indexByte t c ∧ (Lib.indexByte t c).toNat < t.length ∧ t[(Lib.indexByte t c).toNat]? = some c
  | [], c, h => by simp [Lib.indexByte] at h
  | b :: l, c, h => by
    unfold Lib.indexByte at h ⊢
    by_cases hb : b = c
    · subst hb; simp
    · have hb' : (b == c) = false := by simpa using hb
      rw [if_neg (by simp [hb'])] at h ⊢
      by_cases hl : Lib.indexByte l c = -1
      · simp [hl] at h
      · have hl' : (Lib.indexByte l c == -1) = false := by simpa using hl
        rw [if_neg (by simp [hl'])]
        obtain ⟨h1, h2, h3⟩ := idx_lt l c hl
        have e : (Lib.indexByte l c + 1).toNat = (Lib.indexByte l c).toNat + 1 := by omega
        rw [e]
        exact ⟨by omega, by simp; omega, by simpa using h3⟩
theorem idx_before : ∀ (t : List UInt8) (c : UInt8) (k : Nat), (k : Int) < Lib.indexByte t c → t[k]? ≠ some c
  | [], c, k, h => by simp [Lib.indexByte] at h; omega
  | b :: l, c, k, h => by
    unfold Lib.indexByte at h
    by_cases hb : b = c
    · subst hb; simp at h; omega
    · have hb' : (b == c) = false := by simpa using hb
      rw [if_neg (by simp [hb'])] at h
      by_cases hl : Lib.indexByte l c = -1
      · simp [hl] at h; omega
      · have hl' : (Lib.indexByte l c == -1) = false := by simpa using hl
        rw [if_neg (by simp [hl'])] at h
        cases k with
        | zero => simpa using hb
        | succ k => simpa using idx_before l c k (by omega)
theorem idx_none : ∀ (t : List UInt8) (c : UInt8), Lib.indexByte t c = -1 → ∀ k : Nat, t[k]? ≠ some c
  | [], c, h, k => by simp
  | b :: l, c, h, k => by
    unfold Lib.indexByte at h
    by_cases hb : b = c
    · subst hb; simp at h
    · have hb' : (b == c) = false := by simpa using hb
      rw [if_neg (by simp [hb'])] at h
      by_cases hl : Lib.indexByte l c = -1
      · cases k with
        | zero => simpa using hb
        | succ k => simpa using idx_none l c hl k
      · have hl' : (Lib.indexByte l c == -1) = false := by simpa using hl
        rw [if_neg (by simp [hl'])] at h
        obtain ⟨h1, _⟩ := idx_lt l c hl
        omega
/-- The place of the first one is told by what lies there and ahead of it. -/
theorem idx_is (t : List UInt8) (c : UInt8) (k : Nat) (h1 : t[k]? = some c) (h2 : ∀ j : Nat, j < k → t[j]? ≠ some c) : Lib.indexByte t c = k := by
  have hne : Lib.indexByte t c ≠ -1 := fun h => idx_none t c h k h1
  obtain ⟨g1, g2, g3⟩ := idx_lt t c hne
  by_cases hlt : (Lib.indexByte t c).toNat < k
  · exact absurd g3 (h2 _ hlt)
  · by_cases heq : (Lib.indexByte t c).toNat = k
    · omega
    · exact absurd h1 (idx_before t c k (by omega))
/-- With a number of [ ahead: what size says of the rest. -/
theorem one_size : ∀ (s : List UInt8) (a : Nat), a ≤ 8 → (oneP s a).2 = (if 8 < deepN s + a then 0 else if innN (s.drop (deepN s)) (decide (0 < deepN s)) = 0 then 0 else deepN s + innN (s.drop (deepN s)) (decide (0 < deepN s)))
  | [], a, ha => by simp [oneP, deepN, innN]
  | c :: t, a, ha => by
    unfold oneP
    rw [if_neg (by omega)]
    by_cases h1 : c = 73
    · subst h1; simp [deepN, innN]; omega
    · rw [if_neg h1]
      by_cases h2 : c = 74
      · subst h2; simp [deepN, innN]; omega
      · rw [if_neg h2]
        by_cases h3 : c = 76
        · subst h3
          rw [if_pos rfl]
          have e : deepN (76 :: t) = 0 := by simp [deepN]
          rw [e, if_neg (show ¬ 8 < 0 + a by omega)]
          simp only [List.drop_zero, innN]
          split
          · simp
          · split
            · simp
            · simp
        · rw [if_neg h3]
          by_cases h4 : c = 91
          · subst h4
            rw [if_pos rfl]
            have e : deepN (91 :: t) = deepN t + 1 := by simp [deepN]
            rw [e]
            simp only [List.drop_succ_cons, show decide (0 < deepN t + 1) = true by simp]
            by_cases h5 : t[0]? = some 66 ∧ a < 8
            · rw [if_pos h5]
              cases t with
              | nil => simp at h5
              | cons d t =>
                simp at h5
                obtain ⟨rfl, h5⟩ := h5
                simp [deepN, innN]
                omega
            · rw [if_neg h5]
              by_cases h6 : a < 8
              · have ih := one_size t (a + 1) (by omega)
                have hB : t[0]? ≠ some 66 := fun h => h5 ⟨h, h6⟩
                have ei : innN (t.drop (deepN t)) (decide (0 < deepN t)) = innN (t.drop (deepN t)) true := by
                  by_cases hd : deepN t = 0
                  · rw [hd]
                    cases t with
                    | nil => rfl
                    | cons d t =>
                      have hd66 : d ≠ 66 := by simpa using hB
                      simp [innN, hd66]
                  · simp [show 0 < deepN t by omega]
                rw [ei] at ih
                by_cases h7 : 8 < deepN t + (a + 1)
                · rw [if_pos h7] at ih
                  rw [ih, if_pos (show 8 < deepN t + 1 + a by omega)]; simp
                · rw [if_neg h7] at ih
                  rw [if_neg (show ¬ 8 < deepN t + 1 + a by omega)]
                  by_cases h8 : innN (t.drop (deepN t)) true = 0
                  · rw [if_pos h8] at ih ⊢
                    rw [ih]; simp
                  · rw [if_neg h8] at ih ⊢
                    rw [ih, if_pos (by omega)]; simp only; omega
              · have : (oneP t (a + 1)).2 = 0 := by
                  cases t with
                  | nil => rfl
                  | cons d t => unfold oneP; rw [if_pos (by omega)]
                rw [this, if_pos (show 8 < deepN t + 1 + a by omega)]; simp
          · rw [if_neg h4]
            have e : deepN (c :: t) = 0 := by simp [deepN, h4]
            rw [e, if_neg (show ¬ 8 < 0 + a by omega)]
            simp only [List.drop_zero, innN, show decide (0 < 0) = false by decide]
            have h12 : ¬ (c = 73 ∨ c = 74) := by simp [h1, h2]
            rw [if_neg h12, if_neg h3]
            simp
theorem sizeN_is (s : List UInt8) : sizeN s = (oneP s 0).2 := by rw [one_size s 0 (by omega)]; rfl
theorem idx_take (t : List UInt8) (h : Lib.indexByte t 59 ≠ -1) : (Lib.indexByte t 59).toNat + 1 ≤ t.length := (idx_lt t 59 h).2.1
theorem one_le : ∀ (s : List UInt8) (a : Nat), (oneP s a).2 ≤ s.length
  | [], a => by simp [oneP]
  | c :: t, a => by
    unfold oneP
    have ih := one_le t (a + 1)
    repeat' split
    all_goals first | (simp; done) | skip
    · rename_i h _
      have := idx_take t h
      simp; omega
    · rename_i h
      cases t with
      | nil => simp at h
      | cons d t => simp
    · simp; omega
/-- What is known to be a descriptor has that type. -/
theorem one_type : ∀ (s : List UInt8) (a : Nat), 0 < (oneP s a).2 → typeP (s.take (oneP s a).2) = (oneP s a).1
  | [], a, h => by simp [oneP] at h
  | c :: t, a, h => by
    unfold oneP at h ⊢
    by_cases h0 : 8 < a
    · rw [if_pos h0] at h; simp at h
    rw [if_neg h0] at h ⊢
    by_cases h1 : c = 73
    · subst h1; simp [typeP]
    rw [if_neg h1] at h ⊢
    by_cases h2 : c = 74
    · subst h2; simp [typeP]
    rw [if_neg h2] at h ⊢
    by_cases h3 : c = 76
    · subst h3
      rw [if_pos rfl] at h ⊢
      by_cases h4 : Lib.indexByte t 59 = -1
      · rw [if_pos h4] at h; simp at h
      rw [if_neg h4] at h ⊢
      by_cases h5 : clsB (t.take (Lib.indexByte t 59).toNat) = true
      · rw [if_pos h5] at h ⊢
        have := idx_take t h4
        simp only [typeP, List.take_succ_cons, List.getElem?_cons_zero, List.drop_succ_cons, List.drop_zero, List.length_cons, List.length_take]
        rw [if_neg (by decide), if_neg (by decide), if_pos trivial, List.take_take]
        congr 2
        omega
      · rw [if_neg h5] at h; simp at h
    rw [if_neg h3] at h ⊢
    by_cases h4 : c = 91
    · subst h4
      rw [if_pos rfl] at h ⊢
      by_cases h5 : t[0]? = some 66 ∧ a < 8
      · rw [if_pos h5]
        cases t with
        | nil => simp at h5
        | cons d t =>
          simp at h5
          obtain ⟨rfl, _⟩ := h5
          simp [typeP]
      rw [if_neg h5] at h ⊢
      by_cases h6 : 0 < (oneP t (a + 1)).2
      · rw [if_pos h6]
        simp [typeP]
      · rw [if_neg h6] at h; simp at h
    · rw [if_neg h4] at h; simp at h
def parP (s : List UInt8) : Ty × Int := if sizeN s = 0 ∨ sizeN s ≠ s.length then (ty0, 100) else (typeP s, 0)
theorem parP_is (s : List UInt8) : parP s = if (oneP s 0).2 = 0 ∨ (oneP s 0).2 ≠ s.length then (ty0, 100) else ((oneP s 0).1, 0) := by
  unfold parP
  rw [sizeN_is]
  split
  · rfl
  · rename_i h
    have h1 : (oneP s 0).2 ≠ 0 := fun e => h (.inl e)
    have h2 : (oneP s 0).2 = s.length := Classical.byContradiction fun e => h (.inr e)
    have := one_type s 0 (by omega)
    rw [h2, List.take_length] at this
    rw [this]
end Go.Proofs.Ytjhiflhmefhogaa
