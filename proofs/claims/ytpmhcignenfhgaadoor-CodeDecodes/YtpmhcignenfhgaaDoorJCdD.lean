/- Codes as plain values: what is read is written. -/
import Derived.Test.YtpmhcignenfhgaaDoorJCdC
import Derived.Test.YtpmhcignenfhgaaDoorJA

namespace Go.Proofs.YtpmhcignenfhgaaDoor
open Go.RowKit
set_option linter.unusedVariables false

theorem gR_back {bs : List UInt8} {i k : Nat} {sg : Bool} {n : Int} {j : Nat} (hk : k = 1 ∨ k = 2 ∨ k = 4) (h : gR bs i k sg = some (n, j)) : bytesW (k : Int) n = cutB bs i j := by
  have hj := gR_some h
  unfold gR at h
  rw [if_pos (by omega)] at h
  obtain ⟨m, h1, h2⟩ := Option.bind_eq_some_iff.1 h
  injection h2 with h2
  injection h2 with h2 _
  subst h2
  have hl : ((bs.drop i).take k).length = k := by rw [List.length_take, List.length_drop]; omega
  rw [bytes_val (l := (bs.drop i).take k) (by unfold wide; omega) (by rw [hl]; simp) h1]
  unfold cutB
  rw [hj.1, show i + k - i = k by omega]
/-- Noughts ahead of the numbers of a table, a search. -/
def padB (i : Nat) : List UInt8 := List.replicate ((4 - i % 4) % 4) 0
theorem padR_back {bs : List UInt8} : ∀ (f i j : Nat), padR bs f i = some j → (4 - i % 4) % 4 ≤ f → padB i = cutB bs i j ∧ j = i + (4 - i % 4) % 4
  | 0, i, j, h, hf => by
    unfold padR at h
    split at h
    · injection h with h
      subst h
      rename_i h4
      rw [h4]
      refine ⟨?_, by omega⟩
      unfold padB cutB
      rw [h4]
      simp
    · cases h
  | f + 1, i, j, h, hf => by
    unfold padR at h
    split at h
    · injection h with h
      subst h
      rename_i h4
      rw [h4]
      refine ⟨?_, by omega⟩
      unfold padB cutB
      rw [h4]
      simp
    · rename_i h4
      obtain ⟨⟨n, j1⟩, h1, h2⟩ := Option.bind_eq_some_iff.1 h
      simp only at h2
      split at h2
      · rename_i h0
        have a1 := gR_some h1
        have hb := gR_back (by omega) h1
        rw [a1.1] at h2 hb
        obtain ⟨e1, e2⟩ := padR_back f (i + 1) j h2 (by omega)
        have a2 := padR_some f (i + 1) j h2
        refine ⟨?_, by omega⟩
        have hp : padB i = 0 :: padB (i + 1) := by
          unfold padB
          have : (4 - i % 4) % 4 = (4 - (i + 1) % 4) % 4 + 1 := by omega
          rw [this, List.replicate_succ]
        rw [hp, e1]
        rw [h0] at hb
        have h3 : bytesW ((1 : Nat) : Int) 0 = [0] := rfl
        rw [h3] at hb
        have : (0 : UInt8) :: cutB bs (i + 1) j = [0] ++ cutB bs (i + 1) j := rfl
        rw [this, hb]
        exact cutB_join (by omega) a2.1
      · cases h2
theorem tabR_back {bs : List UInt8} {at_ : Int} : ∀ (n : Nat) (key : Int) (i : Nat) (l : List Cas) (j : Nat), tabR bs at_ n key i = some (l, j) → l.flatMap (fun c => bytesW 4 (c.to_ - at_)) = cutB bs i j ∧ l.length = n
  | 0, _, i, l, j, h => by
    injection h with h
    injection h with h1 h2
    subst h1 h2
    refine ⟨?_, rfl⟩
    unfold cutB
    simp
  | n + 1, key, i, l, j, h => by
    unfold tabR at h
    obtain ⟨⟨x, j1⟩, h1, h⟩ := Option.bind_eq_some_iff.1 h
    obtain ⟨⟨r, j2⟩, h2, h⟩ := Option.bind_eq_some_iff.1 h
    injection h with h
    injection h with h3 h4
    have hb := gR_back (by omega) h1
    have a1 := gR_some h1
    simp only at h2 h3 h4
    have a2 := tabR_some n _ _ _ _ h2
    obtain ⟨e1, e2⟩ := tabR_back n _ _ _ _ h2
    subst h3 h4
    refine ⟨?_, by simp [e2]⟩
    rw [List.flatMap_cons, e1]
    simp only
    rw [show at_ + x - at_ = x by omega]
    have hb' : bytesW 4 x = cutB bs i j1 := hb
    rw [hb']
    exact cutB_join (by omega) a2.1
theorem seaR_back {bs : List UInt8} {at_ : Int} : ∀ (n i : Nat) (l : List Cas) (j : Nat), seaR bs at_ n i = some (l, j) → l.flatMap (fun c => bytesW 4 c.key ++ bytesW 4 (c.to_ - at_)) = cutB bs i j ∧ l.length = n
  | 0, i, l, j, h => by
    injection h with h
    injection h with h1 h2
    subst h1 h2
    refine ⟨?_, rfl⟩
    unfold cutB
    simp
  | n + 1, i, l, j, h => by
    unfold seaR at h
    obtain ⟨⟨k, j0⟩, h0, h⟩ := Option.bind_eq_some_iff.1 h
    obtain ⟨⟨x, j1⟩, h1, h⟩ := Option.bind_eq_some_iff.1 h
    obtain ⟨⟨r, j2⟩, h2, h⟩ := Option.bind_eq_some_iff.1 h
    injection h with h
    injection h with h3 h4
    have hb0 := gR_back (by omega) h0
    have a0 := gR_some h0
    simp only at h1 h2 h3 h4
    have hb := gR_back (by omega) h1
    have a1 := gR_some h1
    have a2 := seaR_some n _ _ _ h2
    obtain ⟨e1, e2⟩ := seaR_back n _ _ _ h2
    subst h3 h4
    refine ⟨?_, by simp [e2]⟩
    rw [List.flatMap_cons, e1]
    simp only
    rw [show at_ + x - at_ = x by omega]
    have hb0' : bytesW 4 k = cutB bs i j0 := hb0
    have hb' : bytesW 4 x = cutB bs j0 j1 := hb
    rw [hb0', hb', cutB_join (by omega) (by omega)]
    exact cutB_join (by omega) a2.1
/-- An instruction's bytes at its place. -/
def insB (x : Ins) : List UInt8 := bytesW 1 x.op ++
  (if formP x.op = 2 then bytesW 1 x.a else if formP x.op = 3 then bytesW 2 x.a else if formP x.op = 4 then bytesW 1 x.a else if formP x.op = 5 then bytesW 2 x.a
   else if formP x.op = 6 then bytesW 1 x.a ++ bytesW 1 x.b else if formP x.op = 7 then bytesW 2 (x.a - x.at_)
   else if formP x.op = 8 then padB (x.at_.toNat + 1) ++ (bytesW 4 (x.a - x.at_) ++ (bytesW 4 x.b ++ (bytesW 4 (x.b + x.cs.length - 1) ++ x.cs.flatMap (fun c => bytesW 4 (c.to_ - x.at_)))))
   else if formP x.op = 9 then padB (x.at_.toNat + 1) ++ (bytesW 4 (x.a - x.at_) ++ (bytesW 4 (x.cs.length : Int) ++ x.cs.flatMap (fun c => bytesW 4 c.key ++ bytesW 4 (c.to_ - x.at_))))
   else [])
theorem insR_back {bs : List UInt8} {i : Nat} {x : Ins} {j : Nat} (h : insR bs i = some (x, j)) : insB x = cutB bs i j := by
  have hs := insR_some h
  unfold insR at h
  obtain ⟨⟨o, j0⟩, h0, h⟩ := Option.bind_eq_some_iff.1 h
  have a0 := gR_some h0
  have b0 : bytesW 1 o = cutB bs i j0 := gR_back (k := 1) (by omega) h0
  simp only at h
  by_cases n1 : formP o = 1
  · rw [if_pos n1] at h
    injection h with h
    injection h with h h'
    subst h
    unfold insB
    simp only
    rw [if_neg (by omega), if_neg (by omega), if_neg (by omega), if_neg (by omega), if_neg (by omega), if_neg (by omega), if_neg (by omega), if_neg (by omega), List.append_nil, b0, h']
  by_cases n2 : formP o = 2
  · rw [if_neg n1, if_pos n2] at h
    obtain ⟨⟨y, j1⟩, h1, h⟩ := Option.bind_eq_some_iff.1 h
    have a1 := gR_some h1
    have b1 : bytesW 1 y = cutB bs j0 j1 := gR_back (k := 1) (by omega) h1
    injection h with h
    injection h with h h'
    subst h
    unfold insB
    simp only at h' a1 ⊢
    rw [if_pos n2]
    skip
    rw [b0, b1, ← h']
    exact cutB_join (by omega) (by omega)
  by_cases n3 : formP o = 3
  · rw [if_neg n1, if_neg n2, if_pos n3] at h
    obtain ⟨⟨y, j1⟩, h1, h⟩ := Option.bind_eq_some_iff.1 h
    have a1 := gR_some h1
    have b1 : bytesW 2 y = cutB bs j0 j1 := gR_back (k := 2) (by omega) h1
    injection h with h
    injection h with h h'
    subst h
    unfold insB
    simp only at h' a1 ⊢
    rw [if_neg n2, if_pos n3]
    skip
    rw [b0, b1, ← h']
    exact cutB_join (by omega) (by omega)
  by_cases n4 : formP o = 4
  · rw [if_neg n1, if_neg n2, if_neg n3, if_pos n4] at h
    obtain ⟨⟨y, j1⟩, h1, h⟩ := Option.bind_eq_some_iff.1 h
    have a1 := gR_some h1
    have b1 : bytesW 1 y = cutB bs j0 j1 := gR_back (k := 1) (by omega) h1
    injection h with h
    injection h with h h'
    subst h
    unfold insB
    simp only at h' a1 ⊢
    rw [if_neg n2, if_neg n3, if_pos n4]
    skip
    rw [b0, b1, ← h']
    exact cutB_join (by omega) (by omega)
  by_cases n5 : formP o = 5
  · rw [if_neg n1, if_neg n2, if_neg n3, if_neg n4, if_pos n5] at h
    obtain ⟨⟨y, j1⟩, h1, h⟩ := Option.bind_eq_some_iff.1 h
    have a1 := gR_some h1
    have b1 : bytesW 2 y = cutB bs j0 j1 := gR_back (k := 2) (by omega) h1
    injection h with h
    injection h with h h'
    subst h
    unfold insB
    simp only at h' a1 ⊢
    rw [if_neg n2, if_neg n3, if_neg n4, if_pos n5]
    skip
    rw [b0, b1, ← h']
    exact cutB_join (by omega) (by omega)
  by_cases n6 : formP o = 6
  · rw [if_neg n1, if_neg n2, if_neg n3, if_neg n4, if_neg n5, if_pos n6] at h
    obtain ⟨⟨y, j1⟩, h1, h⟩ := Option.bind_eq_some_iff.1 h
    obtain ⟨⟨z, j2⟩, h2, h⟩ := Option.bind_eq_some_iff.1 h
    have a1 := gR_some h1
    have a2 := gR_some h2
    have b1 : bytesW 1 y = cutB bs j0 j1 := gR_back (k := 1) (by omega) h1
    have b2 : bytesW 1 z = cutB bs j1 j2 := gR_back (k := 1) (by omega) h2
    injection h with h
    injection h with h h'
    subst h
    unfold insB
    simp only at h' a1 a2 ⊢
    rw [if_neg n2, if_neg n3, if_neg n4, if_neg n5, if_pos n6, b0, b1, b2, ← h', cutB_join (by omega) (by omega)]
    exact cutB_join (by omega) (by omega)
  by_cases n7 : formP o = 7
  · rw [if_neg n1, if_neg n2, if_neg n3, if_neg n4, if_neg n5, if_neg n6, if_pos n7] at h
    obtain ⟨⟨y, j1⟩, h1, h⟩ := Option.bind_eq_some_iff.1 h
    have a1 := gR_some h1
    have b1 : bytesW 2 y = cutB bs j0 j1 := gR_back (k := 2) (by omega) h1
    injection h with h
    injection h with h h'
    subst h
    unfold insB
    simp only at h' a1 ⊢
    rw [if_neg n2, if_neg n3, if_neg n4, if_neg n5, if_neg n6, if_pos n7]
    rw [show (i : Int) + y - i = y by omega]
    rw [b0, b1, ← h']
    exact cutB_join (by omega) (by omega)
  by_cases n8 : formP o = 8
  · rw [if_neg n1, if_neg n2, if_neg n3, if_neg n4, if_neg n5, if_neg n6, if_neg n7, if_pos n8] at h
    obtain ⟨q, hq, h⟩ := Option.bind_eq_some_iff.1 h
    obtain ⟨⟨y, j1⟩, h1, h⟩ := Option.bind_eq_some_iff.1 h
    obtain ⟨⟨z, j2⟩, h2, h⟩ := Option.bind_eq_some_iff.1 h
    obtain ⟨⟨v, j3⟩, h3, h⟩ := Option.bind_eq_some_iff.1 h
    simp only at h
    by_cases hr : 1 ≤ v - z + 1 ∧ v - z + 1 ≤ 256
    · rw [if_pos hr] at h
      obtain ⟨⟨r, j4⟩, h4, h⟩ := Option.bind_eq_some_iff.1 h
      have aq := padR_some _ _ _ hq
      have a1 := gR_some h1
      have a2 := gR_some h2
      have a3 := gR_some h3
      simp only at h1 h2 h3 h4 a1 a2 a3 aq hq
      have a4 := tabR_some _ _ _ _ _ h4
      obtain ⟨p1, p2⟩ := padR_back _ _ _ hq (by omega)
      have b1 : bytesW 4 y = cutB bs q j1 := gR_back (k := 4) (by omega) h1
      have b2 : bytesW 4 z = cutB bs j1 j2 := gR_back (k := 4) (by omega) h2
      have b3 : bytesW 4 v = cutB bs j2 j3 := gR_back (k := 4) (by omega) h3
      obtain ⟨t1, t2⟩ := tabR_back _ _ _ _ _ h4
      injection h with h
      injection h with h h'
      subst h
      unfold insB
      simp only at h' ⊢
      rw [if_neg n2, if_neg n3, if_neg n4, if_neg n5, if_neg n6, if_neg n7, if_pos n8, show (i : Int) + y - i = y by omega, show z + (r.length : Int) - 1 = v by omega, show (i : Int).toNat + 1 = j0 by omega, b0, b1, b2, b3, t1, p1, ← h', cutB_join (by omega) (by omega), cutB_join (by omega) (by omega), cutB_join (by omega) (by omega), cutB_join (by omega) (by omega)]
      exact cutB_join (by omega) (by omega)
    · rw [if_neg hr] at h
      cases h
  by_cases n9 : formP o = 9
  · rw [if_neg n1, if_neg n2, if_neg n3, if_neg n4, if_neg n5, if_neg n6, if_neg n7, if_neg n8, if_pos n9] at h
    obtain ⟨q, hq, h⟩ := Option.bind_eq_some_iff.1 h
    obtain ⟨⟨y, j1⟩, h1, h⟩ := Option.bind_eq_some_iff.1 h
    obtain ⟨⟨z, j2⟩, h2, h⟩ := Option.bind_eq_some_iff.1 h
    simp only at h
    by_cases hr : z ≤ 256
    · rw [if_pos hr] at h
      obtain ⟨⟨r, j4⟩, h4, h⟩ := Option.bind_eq_some_iff.1 h
      simp only at h
      by_cases hri : riseC r = true
      · rw [if_pos hri] at h
        have aq := padR_some _ _ _ hq
        have a1 := gR_some h1
        have a2 := gR_some h2
        simp only at h1 h2 h4 a1 a2 aq hq
        have a4 := seaR_some _ _ _ _ h4
        obtain ⟨p1, p2⟩ := padR_back _ _ _ hq (by omega)
        have b1 : bytesW 4 y = cutB bs q j1 := gR_back (k := 4) (by omega) h1
        have b2 : bytesW 4 z = cutB bs j1 j2 := gR_back (k := 4) (by omega) h2
        have hz0 : 0 ≤ z := by
          unfold gR at h2
          rw [if_pos (by omega)] at h2
          obtain ⟨m, h9, h8⟩ := Option.bind_eq_some_iff.1 h2
          injection h8 with h8
          injection h8 with h8 _
          subst h8
          have hl9 : ((bs.drop j1).take 4).length = 4 := by rw [List.length_take, List.length_drop]; omega
          unfold valW at h9
          rw [hl9, if_neg (by omega), if_neg (by simp)] at h9
          injection h9 with h9
          omega
        obtain ⟨t1, t2⟩ := seaR_back _ _ _ _ h4
        injection h with h
        injection h with h h'
        subst h
        unfold insB
        simp only at h' ⊢
        rw [if_neg n2, if_neg n3, if_neg n4, if_neg n5, if_neg n6, if_neg n7, if_neg n8, if_pos n9, show (i : Int) + y - i = y by omega, show (r.length : Int) = z by omega, show (i : Int).toNat + 1 = j0 by omega, b0, b1, b2, t1, p1, ← h', cutB_join (by omega) (by omega), cutB_join (by omega) (by omega), cutB_join (by omega) (by omega)]
        exact cutB_join (by omega) (by omega)
      · rw [if_neg hri] at h
        cases h
    · rw [if_neg hr] at h
      cases h
  rw [if_neg n1, if_neg n2, if_neg n3, if_neg n4, if_neg n5, if_neg n6, if_neg n7, if_neg n8, if_neg n9] at h
  cases h
theorem insL_back {bs : List UInt8} : ∀ (f i : Nat) (l : List Ins), insL bs f i = some l → i ≤ bs.length → l.flatMap insB = bs.drop i
  | 0, i, l, h, hi => by
    unfold insL at h
    split at h
    · rename_i e
      injection h with h
      subst h
      rw [e]
      simp
    · cases h
  | f + 1, i, l, h, hi => by
    unfold insL at h
    split at h
    · rename_i e
      injection h with h
      subst h
      rw [e]
      simp
    · obtain ⟨⟨y, j⟩, h1, h⟩ := Option.bind_eq_some_iff.1 h
      obtain ⟨r, h2, h⟩ := Option.bind_eq_some_iff.1 h
      injection h with h
      subst h
      have a := insR_some h1
      rw [List.flatMap_cons, insR_back h1, insL_back f j r h2 (by omega)]
      unfold cutB
      have e : bs.drop j = (bs.drop i).drop (j - i) := by rw [List.drop_drop]; congr 1; omega
      rw [e]
      exact List.take_append_drop _ _
end Go.Proofs.YtpmhcignenfhgaaDoor
