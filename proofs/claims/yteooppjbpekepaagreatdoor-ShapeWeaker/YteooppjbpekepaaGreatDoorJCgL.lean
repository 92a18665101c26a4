/- What was read is written as it was. -/
import Derived.Test.YteooppjbpekepaaGreatDoorJV
import Derived.Test.YteooppjbpekepaaGreatDoorJG1

namespace Go.Proofs.YteooppjbpekepaaGreatDoor
open Go.RowKit
set_option linter.unusedVariables false
set_option maxRecDepth 100000

theorem gR_fits {bs : List UInt8} {i k : Nat} {sg : Bool} {n : Int} {j : Nat} (hk : k = 1 ∨ k = 2 ∨ k = 4) (h : gR bs i k sg = some (n, j)) : fitsW (k : Int) n sg := by
  unfold gR at h
  split at h
  · rename_i hl
    have hll : ((bs.drop i).take k).length = k := by rw [List.length_take, List.length_drop]; omega
    obtain ⟨m, hm, h1⟩ := Option.bind_eq_some_iff.1 h
    injection h1 with h1
    injection h1 with h1 _
    subst h1
    have h2 := numB_lt ((bs.drop i).take k)
    unfold valW at hm
    rw [hll] at hm h2
    generalize numB ((bs.drop i).take k) = N at *
    rw [if_neg (by omega)] at hm
    refine ⟨by unfold wide; omega, ?_⟩
    rw [if_neg (by omega), Int.toNat_natCast]
    cases sg
    · rw [if_neg (by simp)] at hm ⊢
      injection hm with hm
      subst hm
      omega
    · rw [if_pos rfl]
      split at hm
      · rename_i hc
        injection hm with hm
        subst hm
        obtain ⟨_, hc⟩ := hc
        generalize 256 ^ k = K at *
        omega
      · rename_i hc
        injection hm with hm
        subst hm
        have hc' : ¬ 256 ^ k ≤ 2 * N := fun e => hc ⟨rfl, e⟩
        generalize 256 ^ k = K at *
        omega
  · cases h
theorem pw_fit {k : Int} {sg : Bool} {l : List Int} (bs : List UInt8) (hw : wide k) (h : ∀ z ∈ l, fitsW k z sg) : pw k sg l bs = bs ++ l.flatMap (bytesW k) := by
  unfold pw putW
  rw [if_pos ⟨hw, h⟩]
theorem fits4_small {z : Int} (h : fitsW 4 z true) : -2147483648 ≤ z ∧ z < 2147483648 := by
  obtain ⟨_, h⟩ := h
  rw [if_neg (by decide), if_pos rfl] at h
  have e : ((256 ^ (4 : Int).toNat : Nat) : Int) = 4294967296 := by decide
  rw [e] at h
  omega
theorem tabcW_fit (bg : Int) : ∀ (l : List Cas) (bs : List UInt8), (∀ c ∈ l, fitsW 4 (c.to_ - bg) true) → tabcW bg l bs = bs ++ l.flatMap (fun c => bytesW 4 (c.to_ - bg))
  | [], bs, _ => by simp [tabcW]
  | c :: l, bs, h => by
    have h1 := h c (List.mem_cons_self ..)
    have h2 := fits4_small h1
    unfold tabcW
    rw [way_small (by omega), pw_fit bs (by unfold wide; omega) (fun z hz => by simp at hz; subst hz; exact h1), tabcW_fit bg l _ (fun c hc => h c (List.mem_cons_of_mem _ hc))]
    simp
theorem seacW_fit (bg : Int) : ∀ (l : List Cas) (bs : List UInt8), (∀ c ∈ l, fitsW 4 c.key true ∧ fitsW 4 (c.to_ - bg) true) → seacW bg l bs = bs ++ l.flatMap (fun c => bytesW 4 c.key ++ bytesW 4 (c.to_ - bg))
  | [], bs, _ => by simp [seacW]
  | c :: l, bs, h => by
    have h1 := h c (List.mem_cons_self ..)
    have h2 := fits4_small h1.2
    unfold seacW
    rw [way_small (by omega), pw_fit bs (by unfold wide; omega) (fun z hz => by simp at hz; rcases hz with rfl | rfl; exact h1.1; exact h1.2), seacW_fit bg l _ (fun c hc => h c (List.mem_cons_of_mem _ hc))]
    simp
theorem tabR_fits {bs : List UInt8} {at_ : Int} : ∀ (n : Nat) (key : Int) (i : Nat) (l : List Cas) (j : Nat), tabR bs at_ n key i = some (l, j) → ∀ c ∈ l, fitsW 4 (c.to_ - at_) true
  | 0, _, i, l, j, h => by injection h with h; injection h with h _; subst h; intro c hc; cases hc
  | n + 1, key, i, l, j, h => by
    unfold tabR at h
    obtain ⟨⟨x, j0⟩, h0, h⟩ := Option.bind_eq_some_iff.1 h
    obtain ⟨⟨r, j1⟩, h1, h⟩ := Option.bind_eq_some_iff.1 h
    injection h with h
    injection h with h _
    subst h
    intro c hc
    rcases List.mem_cons.1 hc with rfl | hc
    · simp only
      rw [show at_ + x - at_ = x by omega]
      exact gR_fits (k := 4) (by omega) h0
    · exact tabR_fits n _ _ r j1 h1 c hc
theorem seaR_fits {bs : List UInt8} {at_ : Int} : ∀ (n i : Nat) (l : List Cas) (j : Nat), seaR bs at_ n i = some (l, j) → ∀ c ∈ l, fitsW 4 c.key true ∧ fitsW 4 (c.to_ - at_) true
  | 0, i, l, j, h => by injection h with h; injection h with h _; subst h; intro c hc; cases hc
  | n + 1, i, l, j, h => by
    unfold seaR at h
    obtain ⟨⟨k, j2⟩, h2, h⟩ := Option.bind_eq_some_iff.1 h
    obtain ⟨⟨x, j0⟩, h0, h⟩ := Option.bind_eq_some_iff.1 h
    obtain ⟨⟨r, j1⟩, h1, h⟩ := Option.bind_eq_some_iff.1 h
    injection h with h
    injection h with h _
    subst h
    intro c hc
    rcases List.mem_cons.1 hc with rfl | hc
    · simp only
      rw [show at_ + x - at_ = x by omega]
      exact ⟨gR_fits (k := 4) (by omega) h2, gR_fits (k := 4) (by omega) h0⟩
    · exact seaR_fits n _ r j1 h1 c hc
theorem one_fit {k : Nat} {sg : Bool} {n : Int} (bs : List UInt8) (hk : k = 1 ∨ k = 2 ∨ k = 4) (h : fitsW (k : Int) n sg) : pw (k : Int) sg [n] bs = bs ++ bytesW (k : Int) n := by
  rw [pw_fit bs (by unfold wide; omega) (fun z hz => by simp at hz; subst hz; exact h)]
  simp
theorem one1 {sg : Bool} {n : Int} (bs : List UInt8) (h : fitsW 1 n sg) : pw 1 sg [n] bs = bs ++ bytesW 1 n := one_fit (k := 1) bs (by omega) h
theorem one2 {sg : Bool} {n : Int} (bs : List UInt8) (h : fitsW 2 n sg) : pw 2 sg [n] bs = bs ++ bytesW 2 n := one_fit (k := 2) bs (by omega) h
theorem one4 {sg : Bool} {n : Int} (bs : List UInt8) (h : fitsW 4 n sg) : pw 4 sg [n] bs = bs ++ bytesW 4 n := one_fit (k := 4) bs (by omega) h
theorem padW_is {bs : List UInt8} : padW bs = bs ++ padB bs.length := rfl
theorem insW_back {b0 : List UInt8} {i : Nat} {x : Ins} {j : Nat} (h : insR b0 i = some (x, j)) (hi : i ≤ 100000000000000) (bs : List UInt8) (hb : bs.length = i) : insW x bs = bs ++ insB x := by
  rw [insR_K] at h
  obtain ⟨⟨o, j0⟩, h0, h⟩ := Option.bind_eq_some_iff.1 h
  have f0 := gR_fits (k := 1) (by omega) h0
  have p0 : pw 1 false [o] bs = bs ++ bytesW 1 o := one_fit (k := 1) bs (by omega) f0
  simp only at h
  have hf9 := formP_le o
  obtain ⟨f, hf⟩ : ∃ f, f = formP o := ⟨_, rfl⟩
  rw [← hf] at h hf9
  have go : ∀ y : Ins, y.op = o → insW y bs = forW f y (bs ++ bytesW 1 o) := fun y hy => by
    unfold insW
    rw [hy, ← hf, p0]
  have gb : ∀ y : Ins, y.op = o → insB y = bytesW 1 o ++ (if f = 2 then bytesW 1 y.a else if f = 3 then bytesW 2 y.a else if f = 4 then bytesW 1 y.a else if f = 5 then bytesW 2 y.a
   else if f = 6 then bytesW 1 y.a ++ bytesW 1 y.b else if f = 7 then bytesW 2 (y.a - y.at_)
   else if f = 8 then padB (y.at_.toNat + 1) ++ (bytesW 4 (y.a - y.at_) ++ (bytesW 4 y.b ++ (bytesW 4 (y.b + y.cs.length - 1) ++ y.cs.flatMap (fun c => bytesW 4 (c.to_ - y.at_)))))
   else if f = 9 then padB (y.at_.toNat + 1) ++ (bytesW 4 (y.a - y.at_) ++ (bytesW 4 (y.cs.length : Int) ++ y.cs.flatMap (fun c => bytesW 4 c.key ++ bytesW 4 (c.to_ - y.at_))))
   else []) := fun y hy => by
    unfold insB
    rw [hy, ← hf]
  clear p0
  obtain rfl | rfl | rfl | rfl | rfl | rfl | rfl | rfl | rfl | rfl : f = 0 ∨ f = 1 ∨ f = 2 ∨ f = 3 ∨ f = 4 ∨ f = 5 ∨ f = 6 ∨ f = 7 ∨ f = 8 ∨ f = 9 := by omega
  · cases h
  · injection h with h
    injection h with h _
    subst h
    rw [go _ rfl, gb _ rfl]
    simp [forW]
  · obtain ⟨⟨y, j1⟩, h1, h⟩ := Option.bind_eq_some_iff.1 (show (gR b0 j0 1 true).bind _ = _ from h)
    injection h with h
    injection h with h _
    subst h
    rw [go _ rfl, gb _ rfl]
    show pw 1 true [y] _ = _
    rw [one1 _ (gR_fits (k := 1) (by omega) h1)]
    simp
  · obtain ⟨⟨y, j1⟩, h1, h⟩ := Option.bind_eq_some_iff.1 (show (gR b0 j0 2 true).bind _ = _ from h)
    injection h with h
    injection h with h _
    subst h
    rw [go _ rfl, gb _ rfl]
    show pw 2 true [y] _ = _
    rw [one2 _ (gR_fits (k := 2) (by omega) h1)]
    simp
  · obtain ⟨⟨y, j1⟩, h1, h⟩ := Option.bind_eq_some_iff.1 (show (gR b0 j0 1 false).bind _ = _ from h)
    injection h with h
    injection h with h _
    subst h
    rw [go _ rfl, gb _ rfl]
    show pw 1 false [y] _ = _
    rw [one1 _ (gR_fits (k := 1) (by omega) h1)]
    simp
  · obtain ⟨⟨y, j1⟩, h1, h⟩ := Option.bind_eq_some_iff.1 (show (gR b0 j0 2 false).bind _ = _ from h)
    injection h with h
    injection h with h _
    subst h
    rw [go _ rfl, gb _ rfl]
    show pw 2 false [y] _ = _
    rw [one2 _ (gR_fits (k := 2) (by omega) h1)]
    simp
  · obtain ⟨⟨y, j1⟩, h1, h⟩ := Option.bind_eq_some_iff.1 (show (gR b0 j0 1 false).bind _ = _ from h)
    obtain ⟨⟨z, j2⟩, h2, h⟩ := Option.bind_eq_some_iff.1 h
    injection h with h
    injection h with h _
    subst h
    rw [go _ rfl, gb _ rfl]
    show pw 1 true [z] (pw 1 false [y] _) = _
    rw [one1 _ (gR_fits (k := 1) (by omega) h1), one1 _ (gR_fits (k := 1) (by omega) h2)]
    simp
  · obtain ⟨⟨y, j1⟩, h1, h⟩ := Option.bind_eq_some_iff.1 (show (gR b0 j0 2 true).bind _ = _ from h)
    injection h with h
    injection h with h _
    subst h
    rw [go _ rfl, gb _ rfl]
    have f1 := gR_fits (k := 2) (by omega) h1
    have s1 := gR_small (k := 2) (by omega) h1
    show pw 2 true [way (i : Int) ((i : Int) + y)] _ = _
    rw [way_small (by omega), show (i : Int) + y - (i : Int) = y by omega, one2 _ f1]
    simp
  · obtain ⟨⟨u, q⟩, hq, h⟩ := Option.bind_eq_some_iff.1 (show (padG b0 j0).bind _ = _ from h)
    obtain ⟨⟨y, j1⟩, h1, h⟩ := Option.bind_eq_some_iff.1 h
    obtain ⟨⟨z, j2⟩, h2, h⟩ := Option.bind_eq_some_iff.1 h
    obtain ⟨⟨l, j4⟩, h3, h⟩ := Option.bind_eq_some_iff.1 h
    injection h with h
    injection h with h _
    subst h
    rw [go _ rfl, gb _ rfl]
    unfold tabG at h3
    obtain ⟨⟨v, j3⟩, h4, h3⟩ := Option.bind_eq_some_iff.1 h3
    simp only at h3 h4
    split at h3
    · rename_i hc
      have f1 : fitsW 4 y true := gR_fits (k := 4) (by omega) h1
      have f2 : fitsW 4 z true := gR_fits (k := 4) (by omega) h2
      have f3 : fitsW 4 v true := gR_fits (k := 4) (by omega) h4
      have s1 := fits4_small f1
      have s2 := fits4_small f2
      have s3 := fits4_small f3
      have hl := (tabR_back _ _ _ _ _ h3).2
      have hfl := tabR_fits _ _ _ _ _ h3
      have hlz : z + (l.length : Int) - 1 = v := by omega
      have hwr : IntKind.i64.wrap (IntKind.i64.wrap (z + (l.length : Int)) - 1) = v := by
        rw [IntKind.wrap_i64, IntKind.wrap_i64]
        omega
      show tabcW (i : Int) l (pw 4 true [way (i : Int) ((i : Int) + y), z, IntKind.i64.wrap (IntKind.i64.wrap (z + (l.length : Int)) - 1)] (padW (bs ++ bytesW 1 o))) = _
      rw [hwr, way_small (by omega), show (i : Int) + y - (i : Int) = y by omega, pw_fit _ (by unfold wide; omega) (fun w hw => by simp at hw; rcases hw with rfl | rfl | rfl; exact f1; exact f2; exact f3), tabcW_fit _ _ _ hfl, padW_is]
      have hlb : (bs ++ bytesW 1 o).length = i + 1 := by rw [List.length_append, bytesW_len, hb]; rfl
      rw [hlb]
      simp [hlz]
    · cases h3
  · obtain ⟨⟨u, q⟩, hq, h⟩ := Option.bind_eq_some_iff.1 (show (padG b0 j0).bind _ = _ from h)
    obtain ⟨⟨y, j1⟩, h1, h⟩ := Option.bind_eq_some_iff.1 h
    obtain ⟨⟨l, j4⟩, h3, h⟩ := Option.bind_eq_some_iff.1 h
    injection h with h
    injection h with h _
    subst h
    rw [go _ rfl, gb _ rfl]
    unfold seaG at h3
    obtain ⟨⟨v, j3⟩, h4, h3⟩ := Option.bind_eq_some_iff.1 h3
    simp only at h3 h4
    split at h3
    · obtain ⟨⟨l', j5⟩, h5, h3⟩ := Option.bind_eq_some_iff.1 h3
      simp only at h3
      split at h3
      · injection h3 with h3
        injection h3 with h3 h6
        subst h3
        have f1 : fitsW 4 y true := gR_fits (k := 4) (by omega) h1
        have f3 : fitsW 4 v false := gR_fits (k := 4) (by omega) h4
        have s1 := fits4_small f1
        have s3 := (gR_small (k := 4) (by omega) h4).2.2.2 rfl
        have hl := (seaR_back _ _ _ _ h5).2
        have hfl := seaR_fits _ _ _ _ h5
        have hlz : (l'.length : Int) = v := by omega
        show seacW (i : Int) l' (pw 4 false [(l'.length : Int)] (pw 4 true [way (i : Int) ((i : Int) + y)] (padW (bs ++ bytesW 1 o)))) = _
        rw [way_small (by omega), show (i : Int) + y - (i : Int) = y by omega, one4 _ f1, hlz, one4 _ f3, seacW_fit _ _ _ hfl, padW_is]
        have hlb : (bs ++ bytesW 1 o).length = i + 1 := by rw [List.length_append, bytesW_len, hb]; rfl
        rw [hlb]
        simp
      · cases h3
    · cases h3
/-- A list that was read is written as it was. -/
theorem allW_back {b0 : List UInt8} (hlen : b0.length ≤ 100000000000000) : ∀ (f i : Nat) (l : List Ins) (bs : List UInt8), insL b0 f i = some l → bs.length = i → i ≤ b0.length → allW l bs = bs ++ l.flatMap insB
  | 0, i, l, bs, h, hb, hi => by
    unfold insL at h
    split at h
    · injection h with h; subst h; simp [allW]
    · cases h
  | f + 1, i, l, bs, h, hb, hi => by
    unfold insL at h
    split at h
    · injection h with h; subst h; simp [allW]
    · obtain ⟨⟨x, j⟩, h1, h⟩ := Option.bind_eq_some_iff.1 h
      obtain ⟨r, h2, h⟩ := Option.bind_eq_some_iff.1 h
      injection h with h
      subst h
      have hs := insR_some h1
      have hB := insR_back h1
      have hw := insW_back h1 (by omega) bs hb
      have hlb : (bs ++ insB x).length = j := by
        rw [List.length_append, hb, hB]
        unfold cutB
        simp
        omega
      have : allW (x :: r) bs = allW r (insW x bs) := rfl
      rw [this, hw, allW_back hlen f j r _ h2 hlb hs.2.1]
      simp
theorem code_back {b0 : List UInt8} {l : List Ins} (hlen : b0.length ≤ 100000000000000) (h : codeP b0 = some l) : allW l [] = b0 := by
  have h1 := (codeP_some h).1
  rw [allW_back hlen _ 0 l [] h1 rfl (Nat.zero_le _), insL_back _ 0 l h1 (Nat.zero_le _)]
  simp
end Go.Proofs.YteooppjbpekepaaGreatDoor
