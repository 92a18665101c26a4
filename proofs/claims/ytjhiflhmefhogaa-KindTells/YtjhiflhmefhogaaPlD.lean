/- Pools as plain values: what is read is written as it was. -/
import Derived.Test.YtjhiflhmefhogaaPlC
namespace Go.Proofs.Ytjhiflhmefhogaa
open Go.RowKit
set_option linter.unusedVariables false

theorem beK_mod (k : Nat) : ∀ x y, x % 256 ^ k = y % 256 ^ k → beK k x = beK k y := by
  induction k with
  | zero => intro x y _; rfl
  | succ k ih =>
    intro x y h
    rw [beK, beK]
    have h1 : x % 256 = y % 256 := by
      have h2 := congrArg (· % 256) h
      simp only [Nat.pow_succ, Nat.mul_comm (256 ^ k) 256, Nat.mod_mul_right_mod] at h2
      exact h2
    have h3 : x / 256 % 256 ^ k = y / 256 % 256 ^ k := by
      rw [Nat.pow_succ, Nat.mul_comm (256 ^ k) 256, Nat.mod_mul, Nat.mod_mul] at h
      omega
    rw [ih _ _ h3]
    congr 2
    apply UInt8.toNat_inj.1
    simp
    omega
/-- The bytes of what bytes tell are these. -/
theorem bytes_val {l : List UInt8} {k n : Int} {sg : Bool} (hw : wide k) (hl : l.length = k.toNat) (h : valW l sg = some n) : bytesW k n = l := by
  have hb := beK_numB l
  have hlt := numB_lt l
  unfold bytesW
  rw [← hl]
  conv => rhs; rw [← hb]
  refine beK_mod _ _ _ ?_
  unfold valW at h
  rcases hw with rfl | rfl | rfl | rfl
  · have e : l.length = 1 := hl
    rw [e] at h hlt ⊢
    rw [if_neg (by decide)] at h
    split at h
    · injection h with h; subst h; simp at *; omega
    · injection h with h; subst h; simp at *; omega
  · have e : l.length = 2 := hl
    rw [e] at h hlt ⊢
    rw [if_neg (by decide)] at h
    split at h
    · injection h with h; subst h; simp at *; omega
    · injection h with h; subst h; simp at *; omega
  · have e : l.length = 4 := hl
    rw [e] at h hlt ⊢
    rw [if_neg (by decide)] at h
    split at h
    · injection h with h; subst h; simp at *; omega
    · injection h with h; subst h; simp at *; omega
  · have e : l.length = 8 := hl
    rw [e] at h hlt ⊢
    rw [if_pos rfl] at h
    split at h
    · injection h with h
      subst h
      simp at *
      split <;> omega
    · split at h
      · injection h with h; subst h; simp at *; omega
      · cases h
/-- A piece of bytes. -/
def cutB (b : List UInt8) (i j : Nat) : List UInt8 := (b.drop i).take (j - i)
theorem cutB_join {b : List UInt8} {i j k : Nat} (h1 : i ≤ j) (h2 : j ≤ k) : cutB b i j ++ cutB b j k = cutB b i k := by
  unfold cutB
  have e : b.drop j = (b.drop i).drop (j - i) := by rw [List.drop_drop]; congr 1; omega
  rw [e, show k - i = (j - i) + (k - j) by omega, List.take_add]
theorem getW_back {b : List UInt8} {i : Nat} {k : Int} {sg : Bool} (h : (getW b i k sg).2.1 = 0) (hi : i ≤ b.length) :
    bytesW k (getW b i k sg).1 = cutB b i (getW b i k sg).2.2 ∧ (getW b i k sg).2.2 = i + k.toNat ∧ i + k.toNat ≤ b.length := by
  unfold getW at h ⊢
  by_cases hw : wide k
  · rw [if_pos hw] at h ⊢
    obtain ⟨m, rfl, hm⟩ := wide_nat hw
    by_cases hs : (b.length : Int) - i < (m : Int)
    · rw [if_pos hs] at h
      exact absurd h (by simp)
    · rw [if_neg hs] at h ⊢
      cases hv : valW ((b.drop i).take (m : Int).toNat) sg with
      | none => rw [hv] at h; exact absurd h (by simp)
      | some n =>
        have := bytes_val hw (by rw [List.length_take, List.length_drop]; omega) hv
        refine ⟨?_, rfl, by omega⟩
        show bytesW (m : Int) n = cutB b i (i + (m : Int).toNat)
        rw [this]
        unfold cutB
        rw [Nat.add_sub_cancel_left]
  · rw [if_neg hw] at h
    exact absurd h (by simp)
theorem takeW_back {b : List UInt8} {i : Nat} {n : Int} (h : (takeW b i n).2.1 = 0) (hi : i ≤ b.length) :
    (takeW b i n).1 = cutB b i (takeW b i n).2.2 ∧ (takeW b i n).2.2 = i + n.toNat ∧ i + n.toNat ≤ b.length ∧ ((takeW b i n).1.length : Int) = n := by
  unfold takeW at h ⊢
  by_cases h0 : n < 0
  · rw [if_pos h0] at h
    exact absurd h (by simp)
  · rw [if_neg h0] at h ⊢
    by_cases hs : (b.length : Int) - i < n
    · rw [if_pos hs] at h
      exact absurd h (by simp)
    · rw [if_neg hs]
      refine ⟨?_, rfl, by omega, ?_⟩
      · unfold cutB
        rw [Nat.add_sub_cancel_left]
      · rw [List.length_take, List.length_drop]
        omega
/-- What is read without a sign is from 0 on. -/
theorem getW_pos {b : List UInt8} {i : Nat} {k : Int} : 0 ≤ (getW b i k false).1 := by
  unfold getW
  split
  · split
    · exact Int.le_refl _
    · cases hv : valW ((b.drop i).take k.toNat) false with
      | none => exact Int.le_refl _
      | some n =>
        show 0 ≤ n
        unfold valW at hv
        split at hv
        · rw [if_neg (by decide)] at hv
          split at hv
          · injection hv with hv; omega
          · cases hv
        · rw [if_neg (by simp)] at hv
          injection hv with hv
          omega
  · exact Int.le_refl _
theorem getW1_le {b : List UInt8} {i : Nat} : (getW b i 1 false).1 ≤ 255 := by
  unfold getW
  rw [if_pos (by unfold wide; omega)]
  split
  · show (0 : Int) ≤ 255
    omega
  · have hl := numB_lt ((b.drop i).take (1 : Int).toNat)
    rename_i hs
    have hle : ((b.drop i).take (1 : Int).toNat).length = 1 := by rw [List.length_take, List.length_drop]; omega
    unfold valW
    rw [hle] at hl ⊢
    rw [if_neg (by decide), if_neg (by simp)]
    show ((numB _ : Nat) : Int) ≤ 255
    omega

theorem entR_back {b : List UInt8} {i : Nat} (h : (entR b i).2.1 = 0) (hi : i ≤ b.length) : bytesE (entR b i).1 = cutB b i (entR b i).2.2 ∧ i ≤ (entR b i).2.2 ∧ (entR b i).2.2 ≤ b.length := by
  have hpos := getW_pos (b := b) (i := i) (k := 1)
  have hle := getW1_le (b := b) (i := i)
  unfold entR at h ⊢
  by_cases h0 : (getW b i 1 false).2.1 = 0
  · obtain ⟨g1, g2, g3⟩ := getW_back h0 hi
    have g2' : (getW b i 1 false).2.2 = i + 1 := g2
    have g3' : i + 1 ≤ b.length := g3
    simp only [h0, ne_eq, not_true_eq_false, if_false] at h ⊢
    generalize hT : (getW b i 1 false).1 = T at *
    generalize hI : (getW b i 1 false).2.2 = I at *
    subst g2'
    have key : ∀ x : Ent, x.tag = T → T ≠ 0 → bytesE x = cutB b i (i + 1) ++ bodyE x := fun x e ht => by
      rw [bytesE_tag (by omega) (by omega), e, g1]
    by_cases e1 : T = 1
    · simp only [e1, if_true] at h ⊢
      by_cases k0 : (getW b (i + 1) 2 false).2.1 = 0
      · obtain ⟨k1, k2, k3⟩ := getW_back k0 g3'
        have k2' : (getW b (i + 1) 2 false).2.2 = i + 1 + 2 := k2
        simp only [k0, not_true_eq_false, if_false] at h ⊢
        rw [k2'] at h k1 ⊢
        obtain ⟨t1, t2, t3, t4⟩ := takeW_back h k3
        have hkp := getW_pos (b := b) (i := i + 1) (k := 2)
        refine ⟨?_, by rw [t2]; omega, by rw [t2]; exact t3⟩
        rw [key _ (by rw [e1]) (by omega)]
        have hb : bodyE { tag := 1, text := (takeW b (i + 1 + 2) (getW b (i + 1) 2 false).1).1, n := 0, a := 0, b := 0 } = bytesW 2 ((takeW b (i + 1 + 2) (getW b (i + 1) 2 false).1).1.length : Int) ++ (takeW b (i + 1 + 2) (getW b (i + 1) 2 false).1).1 := rfl
        rw [hb, t4, k1]
        conv => lhs; rhs; rhs; rw [t1]
        rw [cutB_join (by omega) (by rw [t2]; omega), cutB_join (by omega) (by rw [t2]; omega)]
      · simp only [k0, not_false_eq_true, if_true] at h
    · simp only [e1, if_false] at h ⊢
      by_cases e3 : T = 3
      · simp only [e3, if_true] at h ⊢
        obtain ⟨k1, k2, k3⟩ := getW_back h g3'
        refine ⟨?_, by rw [k2]; omega, by rw [k2]; exact k3⟩
        rw [key _ (by rw [e3]) (by omega)]
        show _ ++ bytesW 4 _ = _
        rw [k1, cutB_join (by omega) (by rw [k2]; omega)]
      · simp only [e3, if_false] at h ⊢
        by_cases e5 : T = 5
        · simp only [e5, if_true] at h ⊢
          obtain ⟨k1, k2, k3⟩ := getW_back h g3'
          refine ⟨?_, by rw [k2]; omega, by rw [k2]; exact k3⟩
          rw [key _ (by rw [e5]) (by omega)]
          show _ ++ bytesW 8 _ = _
          rw [k1, cutB_join (by omega) (by rw [k2]; omega)]
        · simp only [e5, if_false] at h ⊢
          by_cases e7 : T = 7
          · simp only [e7, if_true] at h ⊢
            obtain ⟨k1, k2, k3⟩ := getW_back h g3'
            refine ⟨?_, by rw [k2]; omega, by rw [k2]; exact k3⟩
            rw [key _ (by rw [e7]) (by omega)]
            show _ ++ bytesW 2 _ = _
            rw [k1, cutB_join (by omega) (by rw [k2]; omega)]
          · simp only [e7, if_false] at h ⊢
            by_cases e9 : T = 9 ∨ T = 10 ∨ T = 12
            · simp only [e9, if_true] at h ⊢
              by_cases k0 : (getW b (i + 1) 2 false).2.1 = 0
              · obtain ⟨k1, k2, k3⟩ := getW_back k0 g3'
                have k2' : (getW b (i + 1) 2 false).2.2 = i + 1 + 2 := k2
                simp only [k0, not_true_eq_false, if_false] at h ⊢
                rw [k2'] at h k1 ⊢
                obtain ⟨m1, m2, m3⟩ := getW_back h k3
                refine ⟨?_, by rw [m2]; omega, by rw [m2]; exact m3⟩
                rw [key _ rfl (by omega)]
                have hb : ∀ A B : Int, bodyE { tag := T, text := [], n := 0, a := A, b := B } = bytesW 2 A ++ bytesW 2 B := fun A B => by
                  unfold bodyE
                  rw [if_neg e1, if_neg e3, if_neg e5, if_neg e7]
                rw [hb, k1, m1, cutB_join (by omega) (by rw [m2]; omega), cutB_join (by omega) (by rw [m2]; omega)]
              · simp only [k0, not_false_eq_true, if_true] at h
            · simp only [e9, if_false] at h
              exact absurd h (by decide)
  · simp only [ne_eq, h0, not_false_eq_true, if_true] at h

theorem entsR_back {b : List UInt8} {n : Nat} : ∀ (f : Nat) (l : List Ent) (i : Nat), (entsR b n f l i).2.1 = 0 → i ≤ b.length →
    ∃ s, (entsR b n f l i).1 = l ++ s ∧ s.flatMap bytesE = cutB b i (entsR b n f l i).2.2 ∧ i ≤ (entsR b n f l i).2.2 ∧ (entsR b n f l i).2.2 ≤ b.length ∧ (n ≤ l.length + f → n ≤ (l ++ s).length)
  | 0, l, i, _, hi => ⟨[], by simp [entsR], by simp [entsR, cutB], Nat.le_refl _, hi, by simp⟩
  | f + 1, l, i, h, hi => by
    rw [entsR] at h ⊢
    by_cases hn : n ≤ l.length
    · rw [if_pos hn] at h ⊢
      exact ⟨[], by simp, by simp [cutB], Nat.le_refl _, hi, fun _ => by simpa using hn⟩
    · rw [if_neg hn] at h ⊢
      by_cases h0 : (entR b i).2.1 = 0
      · simp only [h0, ne_eq, not_true_eq_false, if_false] at h ⊢
        obtain ⟨e1, e2, e3⟩ := entR_back h0 hi
        obtain ⟨s, s1, s2, s3, s4, s5⟩ := entsR_back f (withE l (entR b i).1) (entR b i).2.2 h e3
        have hwl := withE_len l (entR b i).1
        refine ⟨(if (entR b i).1.tag = 5 then [(entR b i).1, ent0] else [(entR b i).1]) ++ s, ?_, ?_, Nat.le_trans e2 s3, s4, fun h5 => ?_⟩
        · rw [s1, ← List.append_assoc]
          congr 1
          unfold withE
          split <;> rfl
        · rw [List.flatMap_append, s2]
          have : (if (entR b i).1.tag = 5 then [(entR b i).1, ent0] else [(entR b i).1]).flatMap bytesE = bytesE (entR b i).1 := by
            split <;> simp [bytesE_zero]
          rw [this, e1, cutB_join e2 s3]
        · have := s5 (by omega)
          have e : withE l (entR b i).1 ++ s = l ++ ((if (entR b i).1.tag = 5 then [(entR b i).1, ent0] else [(entR b i).1]) ++ s) := by
            rw [← List.append_assoc]
            congr 1
            unfold withE
            split <;> rfl
          rw [← e]
          exact this
      · simp only [ne_eq, h0, not_false_eq_true, if_true] at h

/-- Bytes that are a pool are this pool's. -/
theorem readP_back {b : List UInt8} (h : (readP b 0).2.1 = 0) : checkP (readP b 0).1 = true ∧ bytesP (readP b 0).1 = b.take (readP b 0).2.2 ∧ (readP b 0).2.2 ≤ b.length := by
  unfold readP at h ⊢
  by_cases h0 : (getW b 0 2 false).2.1 = 0
  · obtain ⟨g1, g2, g3⟩ := getW_back h0 (Nat.zero_le _)
    have g2' : (getW b 0 2 false).2.2 = 2 := g2
    have g3' : 2 ≤ b.length := g3
    simp only [h0, ne_eq, not_true_eq_false, if_false] at h ⊢
    generalize hT : (getW b 0 2 false).1 = T at *
    rw [g2'] at h g1 ⊢
    by_cases hr : T < 1 ∨ 1024 < T
    · rw [if_pos hr] at h
      exact absurd h (by decide)
    · rw [if_neg hr] at h ⊢
      by_cases h1 : (entsR b T.toNat T.toNat [ent0] 2).2.1 = 0
      · obtain ⟨s, s1, s2, s3, s4, s5⟩ := entsR_back T.toNat [ent0] 2 h1 g3'
        simp only [h1, not_true_eq_false, if_false] at h ⊢
        by_cases h2 : T < (entsR b T.toNat T.toNat [ent0] 2).1.length ∨ checkP (entsR b T.toNat T.toNat [ent0] 2).1 = false
        · rw [if_pos h2] at h
          exact absurd h (by simp)
        · rw [if_neg h2]
          have h3 : checkP (entsR b T.toNat T.toNat [ent0] 2).1 = true := by
            cases hc : checkP (entsR b T.toNat T.toNat [ent0] 2).1 with
            | true => rfl
            | false => exact absurd (.inr hc) h2
          refine ⟨h3, ?_, s4⟩
          have hlen := s5 (by simp)
          rw [s1] at h2 ⊢
          have hTl : (([ent0] ++ s).length : Int) = T := by
            have : ¬ T < (([ent0] ++ s).length : Int) := fun h => h2 (.inl h)
            omega
          unfold bytesP
          rw [hTl, g1]
          show cutB b 0 2 ++ s.flatMap bytesE = _
          rw [s2, cutB_join (by omega) s3]
          rfl
      · simp only [h1, not_false_eq_true, if_true] at h
  · simp only [ne_eq, h0, not_false_eq_true, if_true] at h

end Go.Proofs.Ytjhiflhmefhogaa
