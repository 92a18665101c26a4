/- Joined: KdA KdB KdC KdD KdE. -/
import Derived.Test.YthenefjoidckkaaGreatDoorJL2
import Derived.Lib.Bytealg
import Derived.Laws.ResultCell

/- Names of classes, descriptors and types as plain values. -/
namespace Go.Proofs.YthenefjoidckkaaGreatDoor
open Go.RowKit
set_option linter.unusedVariables false

def letB (c : UInt8) : Bool := decide (97 ≤ c.toNat ∧ c.toNat ≤ 122 ∨ 65 ≤ c.toNat ∧ c.toNat ≤ 90)
def namB (c : UInt8) : Bool := decide (letB c = true ∨ 48 ≤ c.toNat ∧ c.toNat ≤ 57 ∨ c.toNat = 95 ∨ c.toNat = 36 ∨ c.toNat = 47)
def clsB : List UInt8 → Bool
  | [] => false
  | c :: t => decide (t.length ≤ 59) && letB c && t.all namB

def ty0 : Ty := ⟨0, []⟩
/-- The descriptor that a text begins with, behind a number of [, and how many bytes it has. -/
def oneP : List UInt8 → Nat → Ty × Nat
  | [], _ => (ty0, 0)
  | c :: t, a =>
    if 8 < a then (ty0, 0)
    else if c = 73 then (⟨1, []⟩, 1)
    else if c = 74 then (⟨2, []⟩, 1)
    else if c = 76 then
      if Lib.indexByte t 59 = -1 then (ty0, 0)
      else if clsB (t.take (Lib.indexByte t 59).toNat) = true then (⟨4, t.take (Lib.indexByte t 59).toNat⟩, (Lib.indexByte t 59).toNat + 2) else (ty0, 0)
    else if c = 91 then
      if t[0]? = some 66 ∧ a < 8 then (⟨4, [91, 66]⟩, 2)
      else if 0 < (oneP t (a + 1)).2 then (⟨4, c :: t.take (oneP t (a + 1)).2⟩, (oneP t (a + 1)).2 + 1) else (ty0, 0)
    else (ty0, 0)

/-- How many [ a text begins with. -/
def deepN : List UInt8 → Nat
  | [] => 0
  | c :: t => if c = 91 then deepN t + 1 else 0
def innN : List UInt8 → Bool → Nat
  | [], _ => 0
  | c :: t, b =>
    if c = 73 ∨ c = 74 then 1
    else if c = 66 then (if b then 1 else 0)
    else if c = 76 then (if Lib.indexByte t 59 = -1 then 0 else if clsB (t.take (Lib.indexByte t 59).toNat) = true then (Lib.indexByte t 59).toNat + 2 else 0)
    else 0
def sizeN (s : List UInt8) : Nat := if 8 < deepN s then 0 else if innN (s.drop (deepN s)) (decide (0 < deepN s)) = 0 then 0 else deepN s + innN (s.drop (deepN s)) (decide (0 < deepN s))
def typeP (s : List UInt8) : Ty := if s[0]? = some 73 then ⟨1, []⟩ else if s[0]? = some 74 then ⟨2, []⟩ else if s[0]? = some 76 then ⟨4, (s.drop 1).take (s.length - 2)⟩ else ⟨4, s⟩

theorem idx_lt : ∀ (t : List UInt8) (c : UInt8), Lib.indexByte t c ≠ -1 → 0 ≤ Lib.indexByte t c ∧ (Lib.indexByte t c).toNat < t.length ∧ t[(Lib.indexByte t c).toNat]? = some c
  | [], c, h => by simp [Lib.indexByte] at h
  | b :: l, c, h => by
    unfold Lib.indexByte at h ⊢
    by_cases hb : b = c
    · subst hb; simp
    · have hb' : (b == c) = false := by simpa using hb
      rw [if_neg (by simp [hb'])] at h ⊢
      by_cases hl : Lib.indexByte l c = -1
      · simp [hl] at h
      · have hl' : (Lib.indexByte l c == -1) = false := by simpa using hl
        rw [if_neg (by simp [hl'])]
        obtain ⟨h1, h2, h3⟩ := idx_lt l c hl
        have e : (Lib.indexByte l c + 1).toNat = (Lib.indexByte l c).toNat + 1 := by omega
        rw [e]
        exact ⟨by omega, by simp; omega, by simpa using h3⟩
theorem idx_before : ∀ (t : List UInt8) (c : UInt8) (k : Nat), (k : Int) < Lib.indexByte t c → t[k]? ≠ some c
  | [], c, k, h => by simp [Lib.indexByte] at h; omega
  | b :: l, c, k, h => by
    unfold Lib.indexByte at h
    by_cases hb : b = c
    · subst hb; simp at h; omega
    · have hb' : (b == c) = false := by simpa using hb
      rw [if_neg (by simp [hb'])] at h
      by_cases hl : Lib.indexByte l c = -1
      · simp [hl] at h; omega
      · have hl' : (Lib.indexByte l c == -1) = false := by simpa using hl
        rw [if_neg (by simp [hl'])] at h
        cases k with
        | zero => simpa using hb
        | succ k => simpa using idx_before l c k (by omega)
theorem idx_none : ∀ (t : List UInt8) (c : UInt8), Lib.indexByte t c = -1 → ∀ k : Nat, t[k]? ≠ some c
  | [], c, h, k => by simp
  | b :: l, c, h, k => by
    unfold Lib.indexByte at h
    by_cases hb : b = c
    · subst hb; simp at h
    · have hb' : (b == c) = false := by simpa using hb
      rw [if_neg (by simp [hb'])] at h
      by_cases hl : Lib.indexByte l c = -1
      · cases k with
        | zero => simpa using hb
        | succ k => simpa using idx_none l c hl k
      · have hl' : (Lib.indexByte l c == -1) = false := by simpa using hl
        rw [if_neg (by simp [hl'])] at h
        obtain ⟨h1, _⟩ := idx_lt l c hl
        omega
/-- The place of the first one is told by what lies there and ahead of it. -/
theorem idx_is (t : List UInt8) (c : UInt8) (k : Nat) (h1 : t[k]? = some c) (h2 : ∀ j : Nat, j < k → t[j]? ≠ some c) : Lib.indexByte t c = k := by
  have hne : Lib.indexByte t c ≠ -1 := fun h => idx_none t c h k h1
  obtain ⟨g1, g2, g3⟩ := idx_lt t c hne
  by_cases hlt : (Lib.indexByte t c).toNat < k
  · exact absurd g3 (h2 _ hlt)
  · by_cases heq : (Lib.indexByte t c).toNat = k
    · omega
    · exact absurd h1 (idx_before t c k (by omega))
/-- With a number of [ ahead: what size says of the rest. -/
theorem one_size : ∀ (s : List UInt8) (a : Nat), a ≤ 8 → (oneP s a).2 = (if 8 < deepN s + a then 0 else if innN (s.drop (deepN s)) (decide (0 < deepN s)) = 0 then 0 else deepN s + innN (s.drop (deepN s)) (decide (0 < deepN s)))
  | [], a, ha => by simp [oneP, deepN, innN]
  | c :: t, a, ha => by
    unfold oneP
    rw [if_neg (by omega)]
    by_cases h1 : c = 73
    · subst h1; simp [deepN, innN]; omega
    · rw [if_neg h1]
      by_cases h2 : c = 74
      · subst h2; simp [deepN, innN]; omega
      · rw [if_neg h2]
        by_cases h3 : c = 76
        · subst h3
          rw [if_pos rfl]
          have e : deepN (76 :: t) = 0 := by simp [deepN]
          rw [e, if_neg (show ¬ 8 < 0 + a by omega)]
          simp only [List.drop_zero, innN]
          split
          · simp
          · split
            · simp
            · simp
        · rw [if_neg h3]
          by_cases h4 : c = 91
          · subst h4
            rw [if_pos rfl]
            have e : deepN (91 :: t) = deepN t + 1 := by simp [deepN]
            rw [e]
            simp only [List.drop_succ_cons, show decide (0 < deepN t + 1) = true by simp]
            by_cases h5 : t[0]? = some 66 ∧ a < 8
            · rw [if_pos h5]
              cases t with
              | nil => simp at h5
              | cons d t =>
                simp at h5
                obtain ⟨rfl, h5⟩ := h5
                simp [deepN, innN]
                omega
            · rw [if_neg h5]
              by_cases h6 : a < 8
              · have ih := one_size t (a + 1) (by omega)
                have hB : t[0]? ≠ some 66 := fun h => h5 ⟨h, h6⟩
                have ei : innN (t.drop (deepN t)) (decide (0 < deepN t)) = innN (t.drop (deepN t)) true := by
                  by_cases hd : deepN t = 0
                  · rw [hd]
                    cases t with
                    | nil => rfl
                    | cons d t =>
                      have hd66 : d ≠ 66 := by simpa using hB
                      simp [innN, hd66]
                  · simp [show 0 < deepN t by omega]
                rw [ei] at ih
                by_cases h7 : 8 < deepN t + (a + 1)
                · rw [if_pos h7] at ih
                  rw [ih, if_pos (show 8 < deepN t + 1 + a by omega)]; simp
                · rw [if_neg h7] at ih
                  rw [if_neg (show ¬ 8 < deepN t + 1 + a by omega)]
                  by_cases h8 : innN (t.drop (deepN t)) true = 0
                  · rw [if_pos h8] at ih ⊢
                    rw [ih]; simp
                  · rw [if_neg h8] at ih ⊢
                    rw [ih, if_pos (by omega)]; simp only; omega
              · have : (oneP t (a + 1)).2 = 0 := by
                  cases t with
                  | nil => rfl
                  | cons d t => unfold oneP; rw [if_pos (by omega)]
                rw [this, if_pos (show 8 < deepN t + 1 + a by omega)]; simp
          · rw [if_neg h4]
            have e : deepN (c :: t) = 0 := by simp [deepN, h4]
            rw [e, if_neg (show ¬ 8 < 0 + a by omega)]
            simp only [List.drop_zero, innN, show decide (0 < 0) = false by decide]
            have h12 : ¬ (c = 73 ∨ c = 74) := by simp [h1, h2]
            rw [if_neg h12, if_neg h3]
            simp
theorem sizeN_is (s : List UInt8) : sizeN s = (oneP s 0).2 := by rw [one_size s 0 (by omega)]; rfl
theorem idx_take (t : List UInt8) (h : Lib.indexByte t 59 ≠ -1) : (Lib.indexByte t 59).toNat + 1 ≤ t.length := (idx_lt t 59 h).2.1
theorem one_le : ∀ (s : List UInt8) (a : Nat), (oneP s a).2 ≤ s.length
  | [], a => by simp [oneP]
  | c :: t, a => by
    unfold oneP
    have ih := one_le t (a + 1)
    repeat' split
    all_goals first | (simp; done) | skip
    · rename_i h _
      have := idx_take t h
      simp; omega
    · rename_i h
      cases t with
      | nil => simp at h
      | cons d t => simp
    · simp; omega
/-- What is known to be a descriptor has that type. -/
theorem one_type : ∀ (s : List UInt8) (a : Nat), 0 < (oneP s a).2 → typeP (s.take (oneP s a).2) = (oneP s a).1
  | [], a, h => by simp [oneP] at h
  | c :: t, a, h => by
    unfold oneP at h ⊢
    by_cases h0 : 8 < a
    · rw [if_pos h0] at h; simp at h
    rw [if_neg h0] at h ⊢
    by_cases h1 : c = 73
    · subst h1; simp [typeP]
    rw [if_neg h1] at h ⊢
    by_cases h2 : c = 74
    · subst h2; simp [typeP]
    rw [if_neg h2] at h ⊢
    by_cases h3 : c = 76
    · subst h3
      rw [if_pos rfl] at h ⊢
      by_cases h4 : Lib.indexByte t 59 = -1
      · rw [if_pos h4] at h; simp at h
      rw [if_neg h4] at h ⊢
      by_cases h5 : clsB (t.take (Lib.indexByte t 59).toNat) = true
      · rw [if_pos h5] at h ⊢
        have := idx_take t h4
        simp only [typeP, List.take_succ_cons, List.getElem?_cons_zero, List.drop_succ_cons, List.drop_zero, List.length_cons, List.length_take]
        rw [if_neg (by decide), if_neg (by decide), if_pos trivial, List.take_take]
        congr 2
        omega
      · rw [if_neg h5] at h; simp at h
    rw [if_neg h3] at h ⊢
    by_cases h4 : c = 91
    · subst h4
      rw [if_pos rfl] at h ⊢
      by_cases h5 : t[0]? = some 66 ∧ a < 8
      · rw [if_pos h5]
        cases t with
        | nil => simp at h5
        | cons d t =>
          simp at h5
          obtain ⟨rfl, _⟩ := h5
          simp [typeP]
      rw [if_neg h5] at h ⊢
      by_cases h6 : 0 < (oneP t (a + 1)).2
      · rw [if_pos h6]
        simp [typeP]
      · rw [if_neg h6] at h; simp at h
    · rw [if_neg h4] at h; simp at h
def parP (s : List UInt8) : Ty × Int := if sizeN s = 0 ∨ sizeN s ≠ s.length then (ty0, 100) else (typeP s, 0)
theorem parP_is (s : List UInt8) : parP s = if (oneP s 0).2 = 0 ∨ (oneP s 0).2 ≠ s.length then (ty0, 100) else ((oneP s 0).1, 0) := by
  unfold parP
  rw [sizeN_is]
  split
  · rfl
  · rename_i h
    have h1 : (oneP s 0).2 ≠ 0 := fun e => h (.inl e)
    have h2 : (oneP s 0).2 = s.length := Classical.byContradiction fun e => h (.inr e)
    have := one_type s 0 (by omega)
    rw [h2, List.take_length] at this
    rw [this]
end Go.Proofs.YthenefjoidckkaaGreatDoor

/- The landed kind: letters, names of classes, the library's HasPrefix, CutPrefix, IndexByte. -/
namespace Go.Proofs.YthenefjoidckkaaGreatDoor
open Go.RowKit
set_option linter.unusedVariables false
set_option maxRecDepth 100000

theorem ret_iff {a b : Bool} (h : a = true ↔ b = true) : Ending.returned (.bool a) = .returned (.bool b) := by rw [Bool.eq_iff_iff.2 h]

set_option maxHeartbeats 400000 in
theorem yletter_any (w : World) (c : UInt8) : Calls Tryz.prog 138 #[.int .u8 c.toNat] w fun e w' => e = .returned (.bool (letB c)) ∧ w' = w := by
  have hc := c.toNat_lt
  unfold letB
  generalize c.toNat = n at *
  go_enter Tryz.func138, Tryz.ntmps138
  go_wp2
  all_goals
    go_ret
    refine ⟨ret_iff ?_, rfl⟩
    simp
    try omega
set_option maxHeartbeats 400000 in
theorem x10letter_any (w : World) (c : UInt8) : Calls Tryz.prog 112 #[.int .u8 c.toNat] w fun e w' => e = .returned (.bool (letB c)) ∧ w' = w := by
  have hc := c.toNat_lt
  unfold letB
  generalize c.toNat = n at *
  go_enter Tryz.func112, Tryz.ntmps112
  go_wp2
  all_goals
    go_ret
    refine ⟨ret_iff ?_, rfl⟩
    simp
    try omega
set_option maxHeartbeats 400000 in
theorem yinName_any (w : World) (c : UInt8) : Calls Tryz.prog 139 #[.int .u8 c.toNat] w fun e w' => e = .returned (.bool (namB c)) ∧ w' = w := by
  have hc := c.toNat_lt
  have HL := hide (yletter_any w c)
  unfold namB
  generalize letB c = b at *
  generalize c.toNat = n at *
  go_enter Tryz.func139, Tryz.ntmps139
  cases b
  all_goals
    go_wp2_with (go_at_call 138; refine (unhide HL).mono ?_; rintro e w' ⟨rfl, rfl⟩)
  all_goals
    go_ret
    refine ⟨ret_iff ?_, rfl⟩
    simp
    try omega
set_option maxHeartbeats 400000 in
theorem liteHasP_any (w : World) (s p : ByteArray) : Calls Tryz.prog 130 #[.string s, .string p] w fun e w' => e = .returned (.bool (Lib.hasPrefix s.data.toList p.data.toList)) ∧ w' = w := by
  rw [← Lib.hasPrefix_of_take, ← Lib.size_eq, ← Lib.size_eq]
  go_enter Tryz.func130, Tryz.ntmps130
  go_wp2
  · rename_i h
    go_ret
    refine ⟨?_, rfl⟩
    show Ending.returned (Value.bool ((s.extract 0 p.size).toList == p.toList)) = _
    rw [Lib.extract_toList, Lib.toList_data]
    simp [h]
  · rename_i h
    go_ret
    refine ⟨?_, rfl⟩
    show Ending.returned (Value.bool false) = _
    simp [h]
set_option maxHeartbeats 400000 in
theorem strHasP_any (w : World) (s p : ByteArray) : Calls Tryz.prog 113 #[.string s, .string p] w fun e w' => e = .returned (.bool (Lib.hasPrefix s.data.toList p.data.toList)) ∧ w' = w := by
  have HL := hide (liteHasP_any w s p)
  go_enter Tryz.func113, Tryz.ntmps113
  go_wp2_with (go_at_call 130; refine (unhide HL).mono ?_; rintro e w' ⟨rfl, rfl⟩)
  go_ret
  exact ⟨rfl, rfl⟩
set_option maxHeartbeats 400000 in
theorem liteIdx_any (w : World) (s : ByteArray) (c : Int) : Calls Tryz.prog 140 #[.string s, .int .u8 c] w fun e w' => e = .returned (.int .i64 (Lib.indexByte s.data.toList c.toNat.toUInt8)) ∧ w' = w := by
  have hx : (callFunc 144 #[.string s, .int .u8 c]).run Tryz.prog w = .ok (.value (.int .i64 (Lib.indexByte s.data.toList c.toNat.toUInt8))) w := by
    rw [run_callFunc_extern Tryz.func144 (by kernel_rfl) (by kernel_rfl) (by kernel_rfl) (e := Extern.BytealgIndexByte.indexByte) (by kernel_rfl), Lib.run_indexByteString]
    rfl
  go_enter Tryz.func140, Tryz.ntmps140
  go_wp2
  go_ret
  exact ⟨rfl, rfl⟩
set_option maxHeartbeats 400000 in
theorem strIdx_any (w : World) (s : ByteArray) (c : Int) : Calls Tryz.prog 131 #[.string s, .int .u8 c] w fun e w' => e = .returned (.int .i64 (Lib.indexByte s.data.toList c.toNat.toUInt8)) ∧ w' = w := by
  have HL := hide (liteIdx_any w s c)
  go_enter Tryz.func131, Tryz.ntmps131
  go_wp2_with (go_at_call 140; refine (unhide HL).mono ?_; rintro e w' ⟨rfl, rfl⟩)
  go_ret
  exact ⟨rfl, rfl⟩
set_option maxHeartbeats 400000 in
theorem liteCutP_any (w : World) (s p : ByteArray) : Calls Tryz.prog 109 #[.string s, .string p] w fun e w' => e = .returned (if Lib.hasPrefix s.data.toList p.data.toList then .tuple #[.string (s.extract p.size s.size), .bool true] else .tuple #[.string s, .bool false]) ∧ w' = w := by
  have HL := hide (liteHasP_any w s p)
  have h1 : Lib.hasPrefix s.data.toList p.data.toList = true → p.size ≤ s.size := fun h => by
    rw [← Lib.hasPrefix_raw] at h
    simp at h
    exact h.1
  generalize Lib.hasPrefix s.data.toList p.data.toList = b at *
  cases b
  · clear h1
    go_enter Tryz.func109, Tryz.ntmps109
    go_wp2_with (go_at_call 130; refine (unhide HL).mono ?_; rintro e w' ⟨rfl, rfl⟩)
    go_ret2
    exact ⟨rfl, rfl⟩
  · have h2 := h1 rfl
    clear h1
    go_enter Tryz.func109, Tryz.ntmps109
    go_wp2_with (go_at_call 130; refine (unhide HL).mono ?_; rintro e w' ⟨rfl, rfl⟩)
    go_ret2
    exact ⟨rfl, rfl⟩
set_option maxHeartbeats 400000 in
theorem strCutP_any (w : World) (s p : ByteArray) : Calls Tryz.prog 57 #[.string s, .string p] w fun e w' => e = .returned (if Lib.hasPrefix s.data.toList p.data.toList then .tuple #[.string (s.extract p.size s.size), .bool true] else .tuple #[.string s, .bool false]) ∧ w' = w := by
  have HL := hide (liteCutP_any w s p)
  generalize Lib.hasPrefix s.data.toList p.data.toList = b at *
  cases b
  all_goals
    go_enter Tryz.func57, Tryz.ntmps57
    go_wp2_with (go_at_call 109; refine (unhide HL).mono ?_; rintro e w' ⟨rfl, rfl⟩)
    go_ret2
    exact ⟨rfl, rfl⟩
end Go.Proofs.YthenefjoidckkaaGreatDoor

/- The landed kind and the document's: Class. -/
namespace Go.Proofs.YthenefjoidckkaaGreatDoor
open Go.RowKit
set_option linter.unusedVariables false
set_option maxRecDepth 100000

/-- A text as the model has it, by name. -/
structure Str (S : ByteArray) (s : List UInt8) : Prop where
  eq : S = ⟨s.toArray⟩
theorem Str.size {S : ByteArray} {s : List UInt8} (h : Str S s) : S.size = s.length := by rw [h.eq]; rfl
theorem Str.at {S : ByteArray} {s : List UInt8} (h : Str S s) (k : Nat) (c : UInt8) (hc : s[k]? = some c) : ∃ hk : k < S.size, S[k] = c := by
  obtain ⟨rfl⟩ := h
  have hk := (List.getElem?_eq_some_iff.1 hc).1
  exact ⟨hk, by have := (List.getElem?_eq_some_iff.1 hc).2; rw [← this]; rfl⟩
theorem Str.data {S : ByteArray} {s : List UInt8} (h : Str S s) : S.data.toList = s := by rw [h.eq]
theorem Str.list {S : ByteArray} {s : List UInt8} (h : Str S s) : S.toList = s := by rw [h.eq]; simp
theorem Str.of (s : List UInt8) : ∃ S, Str S s := ⟨_, ⟨rfl⟩⟩
theorem Str.sub {S : ByteArray} {s : List UInt8} (h : Str S s) (a b : Nat) : Str (S.extract a b) ((s.drop a).take (b - a)) := by
  obtain ⟨rfl⟩ := h
  exact ⟨Lib.extract_eq _ _ _⟩
theorem clsB_at {s : List UInt8} : clsB s = true ↔ 0 < s.length ∧ s.length ≤ 60 ∧ (∀ c, s[0]? = some c → letB c = true) ∧ ∀ (k : Nat) (c : UInt8), s[k]? = some c → namB c = true := by
  cases s with
  | nil => simp [clsB]
  | cons d t =>
    simp only [clsB, Bool.and_eq_true, decide_eq_true_eq, List.all_eq_true, List.length_cons]
    constructor
    · rintro ⟨⟨h1, h2⟩, h3⟩
      refine ⟨by omega, by omega, fun c hc => by simp at hc; rw [← hc]; exact h2, fun k c hc => ?_⟩
      cases k with
      | zero => simp at hc; subst hc; simp [namB, h2]
      | succ k => exact h3 c (List.mem_of_getElem? (by simpa using hc))
    · rintro ⟨_, h1, h2, h3⟩
      refine ⟨⟨by omega, h2 d rfl⟩, fun x hx => ?_⟩
      obtain ⟨k, hk⟩ := List.getElem?_of_mem hx
      exact h3 (k + 1) x (by simpa using hk)
set_option maxHeartbeats 400000 in
theorem yClass_any (w : World) (S : ByteArray) (s : List UInt8) (hS : Str S s) (hs : s.length ≤ 140737488355328) : Calls Tryz.prog 128 #[.string S] w fun e w' => e = .returned (.bool (clsB s)) ∧ w' = w := by
  have HL : Hid (∀ c, Calls Tryz.prog 138 #[.int .u8 (UInt8.toNat c)] w fun e w' => e = .returned (.bool (letB c)) ∧ w' = w) := yletter_any w
  have HN : Hid (∀ c, Calls Tryz.prog 139 #[.int .u8 (UInt8.toNat c)] w fun e w' => e = .returned (.bool (namB c)) ∧ w' = w) := yinName_any w
  have hz := hS.size
  have HC := hide (@clsB_at s)
  have HS := hide hS
  clear hS
  by_cases h0 : s.length = 0
  · have hr : clsB s = false := by
      rw [Bool.eq_false_iff]; intro h; have := ((unhide HC).1 h).1; omega
    rw [hr]
    clear HC HS hr HL HN
    go_enter Tryz.func128, Tryz.ntmps128
    go_wp2
    go_ret
    exact ⟨rfl, rfl⟩
  obtain ⟨c0, hc0⟩ : ∃ c, s[0]? = some c := ⟨_, List.getElem?_eq_getElem (by omega)⟩
  obtain ⟨hk0, q0⟩ := (unhide HS).at 0 c0 hc0
  generalize hn : s.length = n at *
  by_cases h1 : 60 < n
  · have hr : clsB s = false := by
      rw [Bool.eq_false_iff]; intro h; have := ((unhide HC).1 h).2.1; omega
    rw [hr]
    have h1' : (60 : Int) < n := by omega
    have h0' : ((n : Int) == 0) = false := by simp; omega
    clear HC HS hr HL HN hn hc0
    go_enter Tryz.func128, Tryz.ntmps128
    go_wp2
    go_ret
    exact ⟨rfl, rfl⟩
  have h1' : ¬ (60 : Int) < n := by omega
  have h1'' : (n : Int) ≤ 60 := by omega
  have h0' : ((n : Int) == 0) = false := by simp; omega
  have HL0 := hide (unhide HL c0)
  cases hb : letB c0
  · have hr : clsB s = false := by
      rw [Bool.eq_false_iff]; intro h; have := ((unhide HC).1 h).2.2.1 c0 hc0; rw [hb] at this; cases this
    rw [hr]
    rw [hb] at HL0
    clear HC HS hr HN hn hc0 HL
    go_enter Tryz.func128, Tryz.ntmps128
    go_wp2_with (go_at_call 138; refine (unhide HL0).mono ?_; rintro e w' ⟨rfl, hw⟩; rw [hw]; clear hw)
    go_ret
    exact ⟨rfl, rfl⟩
  · rw [hb] at HL0
    clear HL
    have HG : Hid (∀ (k : Nat) c, s[k]? = some c → ∃ hk : k < S.size, S[k] = c) := fun k c h => (unhide HS).at k c h
    go_enter Tryz.func128, Tryz.ntmps128
    go_wp2_with (go_at_call 138; refine (unhide HL0).mono ?_; rintro e w' ⟨rfl, hw⟩; rw [hw]; clear hw)
    go_loopw [20] (fun i wr => ∃ k : Nat, k ≤ n ∧ i = .int .i64 k ∧ wr = w ∧ Hid (∀ (j : Nat) c, j < k → s[j]? = some c → namB c = true)) (fun i _ => n - (intOf i).toNat)
    case atStart => exact ⟨0, by omega, rfl, rfl, fun j c h => by omega⟩
    case round =>
      obtain ⟨k, hk, rfl, rfl, HR⟩ := hrel
      by_cases hlt : k < n
      · have hlt1 : (k : Int) < (n : Int) := by omega
        obtain ⟨c, hc⟩ : ∃ c, s[k]? = some c := ⟨_, List.getElem?_eq_getElem (by omega)⟩
        obtain ⟨hk1, q1⟩ := unhide HG k c hc
        have HN0 := hide (unhide HN c)
        have HHC := hide hc
        clear hc q0 HG
        cases hbc : namB c
        · rw [hbc] at HN0
          have hr : clsB s = false := by
            rw [Bool.eq_false_iff]; intro h; have := ((unhide HC).1 h).2.2.2 k c (unhide HHC); rw [hbc] at this; cases this
          go_wp2_with (go_at_call 139; refine (unhide HN0).mono ?_; rintro e w' ⟨rfl, hw⟩; rw [hw]; clear hw)
          go_ret
          exact ⟨by rw [hr]; rfl, rfl⟩
        · rw [hbc] at HN0
          go_wp2_with (go_at_call 139; refine (unhide HN0).mono ?_; rintro e w' ⟨rfl, hw⟩; rw [hw]; clear hw)
          go_roundw
          case rel =>
            refine ⟨k + 1, by omega, by go_num, (by first | rfl | trivial), fun j c' hj hc' => ?_⟩
            by_cases hjk : j = k
            · subst hjk
              rw [unhide HHC] at hc'
              injection hc' with hc'
              rw [← hc']
              exact hbc
            · exact unhide HR j c' (by omega) hc'
          case measure => simp [intOf]; omega
      · obtain rfl : k = n := by omega
        have hr : clsB s = true := (unhide HC).2 ⟨by omega, by omega, fun c hc => by rw [hc0] at hc; injection hc with hc; rw [← hc]; exact hb, fun j c hc => unhide HR j c (by have := (List.getElem?_eq_some_iff.1 hc).1; omega) hc⟩
        go_wp2
        go_ret
        exact ⟨by rw [hr]; rfl, rfl⟩
theorem namB_no {c : UInt8} (h : letB c = false) (hn : namB c = false) : ¬ (48 ≤ c.toNat ∧ c.toNat ≤ 57) ∧ c.toNat ≠ 95 ∧ c.toNat ≠ 36 ∧ c.toNat ≠ 47 := by
  unfold namB at hn
  rw [h] at hn
  simp at hn
  omega
theorem namB_yes {c : UInt8} (h : letB c = false) (hn : namB c = true) : (48 ≤ c.toNat ∧ c.toNat ≤ 57) ∨ c.toNat = 95 ∨ c.toNat = 36 ∨ c.toNat = 47 := by
  unfold namB at hn
  rw [h] at hn
  simpa using hn
theorem letB_namB {c : UInt8} (h : letB c = true) : namB c = true := by simp [namB, h]
set_option maxHeartbeats 4000000 in
theorem x10Class_any (w : World) (S : ByteArray) (s : List UInt8) (hS : Str S s) (hs : s.length ≤ 140737488355328) : Calls Tryz.prog 62 #[.string S] w fun e w' => e = .returned (.bool (clsB s)) ∧ w' = w := by
  have HL : Hid (∀ c, Calls Tryz.prog 112 #[.int .u8 (UInt8.toNat c)] w fun e w' => e = .returned (.bool (letB c)) ∧ w' = w) := x10letter_any w
  have hz := hS.size
  have HC := hide (@clsB_at s)
  have HG : Hid (∀ (k : Nat) c, s[k]? = some c → ∃ hk : k < S.size, S[k] = c) := fun k c h => hS.at k c h
  clear hS
  generalize hn : s.length = n at *
  go_enter Tryz.func62, Tryz.ntmps62
  go_wp2
  go_loopw [3] (fun i wr => ∃ k : Nat, k ≤ n ∧ i = .int .i64 k ∧ wr = w ∧ Hid (∀ (j : Nat) c, j < k → s[j]? = some c → namB c = true ∧ (j = 0 → letB c = true))) (fun i _ => n - (intOf i).toNat)
  case atStart => exact ⟨0, by omega, rfl, rfl, fun j c h => by omega⟩
  case round =>
    obtain ⟨k, hk, rfl, rfl, HR⟩ := hrel
    by_cases hlt : k < n
    · have hlt1 : (k : Int) < (n : Int) := by omega
      obtain ⟨c, hc⟩ : ∃ c, s[k]? = some c := ⟨_, List.getElem?_eq_getElem (by omega)⟩
      obtain ⟨hk1, q1⟩ := unhide HG k c hc
      have HL0 := hide (unhide HL c)
      have HHC := hide hc
      have HX : Hid (namB c = true ∧ (k = 0 → letB c = true) → ∀ (j : Nat) c, j < k + 1 → s[j]? = some c → namB c = true ∧ (j = 0 → letB c = true)) := fun h j c' hj hc' => by
        by_cases hjk : j = k
        · subst hjk
          rw [hc] at hc'
          injection hc' with hc'
          rw [← hc']
          exact h
        · exact unhide HR j c' (by omega) hc'
      clear hc HG
      cases hb : letB c
      · rw [hb] at HL0
        by_cases hk0 : k = 0
        · subst hk0
          have hr : clsB s = false := by
            rw [Bool.eq_false_iff]; intro h; have := ((unhide HC).1 h).2.2.1 c (unhide HHC); rw [hb] at this; cases this
          go_wp2_with (go_at_call 112; refine (unhide HL0).mono ?_; rintro e w' ⟨rfl, hw⟩; rw [hw]; clear hw)
          go_ret
          exact ⟨by rw [hr]; rfl, rfl⟩
        · have hk2 : ((k : Int) == 0) = false := by simp; omega
          have hk3 : ¬ (k : Int) = 0 := by omega
          cases hnb : namB c
          · have hr : clsB s = false := by
              rw [Bool.eq_false_iff]; intro h; have := ((unhide HC).1 h).2.2.2 k c (unhide HHC); rw [hnb] at this; cases this
            obtain ⟨g1, g2, g3, g4⟩ := namB_no hb hnb
            have g2' : ((c.toNat : Int) == 95) = false := by simp; omega
            have g3' : ((c.toNat : Int) == 36) = false := by simp; omega
            have g4' : ((c.toNat : Int) == 47) = false := by simp; omega
            have n2 : ((c.toNat : Int) != 95) = true := by simp; omega
            have n3 : ((c.toNat : Int) != 36) = true := by simp; omega
            have n4 : ((c.toNat : Int) != 47) = true := by simp; omega
            clear HX HR
            by_cases g5 : (c.toNat : Int) < 48
            · go_wp2_with (go_at_call 112; refine (unhide HL0).mono ?_; rintro e w' ⟨rfl, hw⟩; rw [hw]; clear hw)
              go_ret
              exact ⟨by rw [hr]; rfl, rfl⟩
            · have g6 : (57 : Int) < (c.toNat : Int) := by omega
              have g7 : (48 : Int) ≤ (c.toNat : Int) := by omega
              have g8 : ¬ (c.toNat : Int) ≤ 57 := by omega
              go_wp2_with (go_at_call 112; refine (unhide HL0).mono ?_; rintro e w' ⟨rfl, hw⟩; rw [hw]; clear hw)
              go_ret
              exact ⟨by rw [hr]; rfl, rfl⟩
          · have hX := hide (unhide HX ⟨hnb, fun h => absurd h hk0⟩)
            have hy := namB_yes hb hnb
            clear HX HR hnb HHC
            rcases hy with ⟨g1, g2⟩ | g | g | g
            · have g1' : ¬ (c.toNat : Int) < 48 := by omega
              have g2' : ¬ (57 : Int) < (c.toNat : Int) := by omega
              have g7 : (48 : Int) ≤ (c.toNat : Int) := by omega
              have g8 : (c.toNat : Int) ≤ 57 := by omega
              go_wp2_with (go_at_call 112; refine (unhide HL0).mono ?_; rintro e w' ⟨rfl, hw⟩; rw [hw]; clear hw)
              go_roundw
              case rel => exact ⟨k + 1, by omega, by go_num, (by first | rfl | trivial), hX⟩
              case measure => simp [intOf]; omega
            · obtain rfl : c = 95 := UInt8.toNat_inj.1 (by simpa using g)
              go_wp2_with (go_at_call 112; refine (unhide HL0).mono ?_; rintro e w' ⟨rfl, hw⟩; rw [hw]; clear hw)
              go_roundw
              case rel => exact ⟨k + 1, by omega, by go_num, (by first | rfl | trivial), hX⟩
              case measure => simp [intOf]; omega
            · obtain rfl : c = 36 := UInt8.toNat_inj.1 (by simpa using g)
              go_wp2_with (go_at_call 112; refine (unhide HL0).mono ?_; rintro e w' ⟨rfl, hw⟩; rw [hw]; clear hw)
              go_roundw
              case rel => exact ⟨k + 1, by omega, by go_num, (by first | rfl | trivial), hX⟩
              case measure => simp [intOf]; omega
            · obtain rfl : c = 47 := UInt8.toNat_inj.1 (by simpa using g)
              go_wp2_with (go_at_call 112; refine (unhide HL0).mono ?_; rintro e w' ⟨rfl, hw⟩; rw [hw]; clear hw)
              go_roundw
              case rel => exact ⟨k + 1, by omega, by go_num, (by first | rfl | trivial), hX⟩
              case measure => simp [intOf]; omega
      · rw [hb] at HL0
        have hX := hide (unhide HX ⟨letB_namB hb, fun _ => hb⟩)
        clear HX HR HHC
        go_wp2_with (go_at_call 112; refine (unhide HL0).mono ?_; rintro e w' ⟨rfl, hw⟩; rw [hw]; clear hw)
        go_roundw
        case rel => exact ⟨k + 1, by omega, by go_num, (by first | rfl | trivial), hX⟩
        case measure => simp [intOf]; omega
    · obtain rfl : k = n := by omega
      have hr : clsB s = decide (1 ≤ k ∧ k ≤ 60) := by
        rw [Bool.eq_iff_iff, unhide HC, decide_eq_true_eq]
        constructor
        · rintro ⟨h1, h2, _⟩; omega
        · rintro ⟨h1, h2⟩
          exact ⟨by omega, by omega, fun c hc => (unhide HR 0 c (by omega) hc).2 rfl, fun j c hc => (unhide HR j c (by have := (List.getElem?_eq_some_iff.1 hc).1; omega) hc).1⟩
      have HRR := hide hr
      clear hr HR HC HG HL
      go_wp2
      all_goals
        go_ret
        refine ⟨?_, rfl⟩
        rw [unhide HRR]
        refine ret_iff ?_
        simp
        omega
end Go.Proofs.YthenefjoidckkaaGreatDoor

/- The landed kind: array, innerSize, size, typeOf. -/
namespace Go.Proofs.YthenefjoidckkaaGreatDoor
open Go.RowKit
set_option linter.unusedVariables false
set_option maxRecDepth 100000

def arrB (s : List UInt8) : Bool := decide (s[0]? = some 91)
theorem pre_one (s : List UInt8) (c : UInt8) : Lib.hasPrefix s [c] = decide (s[0]? = some c) := by
  cases s with
  | nil => rfl
  | cons d t =>
    rw [Bool.eq_iff_iff]
    simp [Lib.hasPrefix]
    exact ⟨fun h => h.symm, fun h => h.symm⟩
set_option maxHeartbeats 400000 in
theorem yarray_any (w : World) (S : ByteArray) (s : List UInt8) (hS : Str S s) : Calls Tryz.prog 63 #[.string S] w fun e w' => e = .returned (.bool (arrB s)) ∧ w' = w := by
  have HL := hide (strHasP_any w S ⟨#[91]⟩)
  rw [hS.data] at HL
  unfold arrB
  rw [← pre_one]
  show Calls _ _ _ _ fun e w' => e = .returned (.bool (Lib.hasPrefix s (⟨#[91]⟩ : ByteArray).data.toList)) ∧ w' = w
  generalize Lib.hasPrefix s (⟨#[91]⟩ : ByteArray).data.toList = b at *
  clear hS
  go_enter Tryz.func63, Tryz.ntmps63
  go_wp2_with (go_at_call 113; refine (unhide HL).mono ?_; rintro e w' ⟨rfl, hw⟩; rw [hw]; clear hw)
  go_ret
  exact ⟨rfl, rfl⟩
set_option maxHeartbeats 400000 in
theorem x10array_any (w : World) (S : ByteArray) (s : List UInt8) (hS : Str S s) : Calls Tryz.prog 48 #[.string S] w fun e w' => e = .returned (.bool (arrB s)) ∧ w' = w := by
  have h2 := hS.list
  have hz := hS.size
  unfold arrB
  cases s with
  | nil =>
    have e : S = ⟨#[]⟩ := hS.eq
    subst e
    clear hS h2 hz
    go_enter Tryz.func48, Tryz.ntmps48
    go_wp2
    go_ret
    exact ⟨rfl, rfl⟩
  | cons c t =>
    obtain ⟨hk, q0⟩ := hS.at 0 c rfl
    have h3 : (S.toList == []) = false := by rw [h2]; rfl
    have h4 : ¬ S.toList = [] := by rw [h2]; simp
    have HR : Hid (decide ((c :: t)[0]? = some 91) = decide (c.toNat = 91)) := by
      show _ = _
      congr 1
      simp
      exact UInt8.toNat_inj.symm
    have hl : 0 < S.size := hk
    clear hS h2 hz
    go_enter Tryz.func48, Tryz.ntmps48
    go_wp2
    all_goals
      go_ret
      refine ⟨?_, rfl⟩
      rw [unhide HR]
      refine ret_iff ?_
      simp
      try omega
theorem idx_L (t : List UInt8) : Lib.indexByte (76 :: t) 59 = if Lib.indexByte t 59 = -1 then -1 else Lib.indexByte t 59 + 1 := by
  show (if (76 : UInt8) == 59 then (0 : Int) else if Lib.indexByte t 59 == -1 then -1 else Lib.indexByte t 59 + 1) = _
  rw [if_neg (by decide)]
  simp
set_option maxHeartbeats 1600000 in
theorem yinner_any (w : World) (S : ByteArray) (s : List UInt8) (hS : Str S s) (hs : s.length ≤ 140737488355328) (b : Bool) : Calls Tryz.prog 110 #[.string S, .bool b] w fun e w' => e = .returned (.int .i64 (innN s b)) ∧ w' = w := by
  have h2 := hS.list
  have hz := hS.size
  cases s with
  | nil =>
    have e : S = ⟨#[]⟩ := hS.eq
    subst e
    clear hS h2 hz
    go_enter Tryz.func110, Tryz.ntmps110
    go_wp2
    go_ret
    exact ⟨rfl, rfl⟩
  | cons c t =>
    obtain ⟨hk, q0⟩ := hS.at 0 c rfl
    have h3 : (S.toList == []) = false := by rw [h2]; rfl
    have h4 : ¬ S.toList = [] := by rw [h2]; simp
    have h5 : S.toList.isEmpty = false := by rw [h2]; rfl
    have hl : 0 < S.size := hk
    have HS := hide hS
    have HZ := hide hz
    clear hS h2 hz
    by_cases c1 : c = 73
    · subst c1
      have hr : innN (73 :: t) b = 1 := by simp [innN]
      rw [hr]
      go_enter Tryz.func110, Tryz.ntmps110
      go_wp2
      go_ret
      exact ⟨rfl, rfl⟩
    by_cases c2 : c = 74
    · subst c2
      have hr : innN (74 :: t) b = 1 := by simp [innN]
      rw [hr]
      go_enter Tryz.func110, Tryz.ntmps110
      go_wp2
      go_ret
      exact ⟨rfl, rfl⟩
    by_cases c3 : c = 66
    · subst c3
      cases b
      all_goals
        go_enter Tryz.func110, Tryz.ntmps110
        go_wp2
        go_ret
        exact ⟨rfl, rfl⟩
    by_cases c4 : c = 76
    · subst c4
      have HI := hide (strIdx_any w S 59)
      rw [(unhide HS).data, show ((59 : Int).toNat.toUInt8) = 59 from rfl, idx_L] at HI
      have HP := hide (idx_lt t 59)
      have hr : innN (76 :: t) b = (if Lib.indexByte t 59 = -1 then 0 else if clsB (t.take (Lib.indexByte t 59).toNat) = true then (Lib.indexByte t 59).toNat + 2 else 0) := by simp [innN]
      rw [hr]
      clear hr
      by_cases hx : Lib.indexByte t 59 = -1
      · rw [if_pos hx] at HI ⊢
        go_enter Tryz.func110, Tryz.ntmps110
        go_wp2_with (go_at_call 131; refine (unhide HI).mono ?_; rintro e w' ⟨rfl, hw⟩; rw [hw]; clear hw)
        go_ret
        exact ⟨rfl, rfl⟩
      · rw [if_neg hx] at HI ⊢
        obtain ⟨g1, g2, _⟩ := unhide HP hx
        have HC := hide (yClass_any w _ _ ((unhide HS).sub 1 ((Lib.indexByte t 59).toNat + 1)) (by have := unhide HZ; simp at hs ⊢; omega))
        rw [show ((76 :: t).drop 1).take ((Lib.indexByte t 59).toNat + 1 - 1) = t.take (Lib.indexByte t 59).toNat by simp] at HC
        have hz := unhide HZ
        simp only [List.length_cons] at hz hs
        have hj : Lib.indexByte t 59 = ((Lib.indexByte t 59).toNat : Int) := by omega
        rw [hj] at HI
        generalize (Lib.indexByte t 59).toNat = j at *
        generalize clsB (t.take j) = bb at *
        generalize hj1 : j + 1 = J at *
        have hj2 : (j : Int) + 1 = J := by omega
        rw [hj2] at HI
        have hJ1 : 1 ≤ J := by omega
        have hJ2 : J ≤ S.size := by omega
        have hJ3 : (0 : Int) < J := by omega
        have hJ4 : (1 : Int) ≤ J := by omega
        have hJ5 : (J : Int) ≤ (S.size : Int) := by omega
        clear hz HZ HS hj g1 hx HP h3
        cases bb
        · go_enter Tryz.func110, Tryz.ntmps110
          go_wp2_with (first | (go_at_call 131; refine (unhide HI).mono ?_; rintro e w' ⟨rfl, hw⟩; rw [hw]; clear hw) | (go_at_call 128; refine (unhide HC).mono ?_; rintro e w' ⟨rfl, hw⟩; rw [hw]; clear hw))
          all_goals first | exact absurd rfl (by assumption : ¬ true = true) | exact absurd (by assumption : false = true) (by decide) | (go_ret; exact ⟨rfl, rfl⟩)
        · go_enter Tryz.func110, Tryz.ntmps110
          go_wp2_with (first | (go_at_call 131; refine (unhide HI).mono ?_; rintro e w' ⟨rfl, hw⟩; rw [hw]; clear hw) | (go_at_call 128; refine (unhide HC).mono ?_; rintro e w' ⟨rfl, hw⟩; rw [hw]; clear hw))
          all_goals first | exact absurd rfl (by assumption : ¬ true = true) | exact absurd (by assumption : false = true) (by decide) | (go_ret; refine ⟨ret_int ?_, rfl⟩; omega)
    · have hr : innN (c :: t) b = 0 := by simp [innN, c1, c2, c3, c4]
      rw [hr]
      have c1' : ¬ (c.toNat : Int) = 73 := fun h => c1 (UInt8.toNat_inj.1 (by simp; omega))
      have c2' : ¬ (c.toNat : Int) = 74 := fun h => c2 (UInt8.toNat_inj.1 (by simp; omega))
      have c3' : ¬ (c.toNat : Int) = 66 := fun h => c3 (UInt8.toNat_inj.1 (by simp; omega))
      have c4' : ¬ (c.toNat : Int) = 76 := fun h => c4 (UInt8.toNat_inj.1 (by simp; omega))
      have d1' : ((c.toNat : Int) == 73) = false := by simpa using c1'
      have d2' : ((c.toNat : Int) == 74) = false := by simpa using c2'
      have d3' : ((c.toNat : Int) == 66) = false := by simpa using c3'
      have d4' : ((c.toNat : Int) == 76) = false := by simpa using c4'
      clear c1 c2 c3 c4
      go_enter Tryz.func110, Tryz.ntmps110
      go_wp2
      go_ret
      exact ⟨rfl, rfl⟩
theorem deepN_lt : ∀ (s : List UInt8) (k : Nat), k < deepN s → s[k]? = some 91
  | [], k, h => by simp [deepN] at h
  | c :: t, k, h => by
    unfold deepN at h
    by_cases hc : c = 91
    · rw [if_pos hc] at h
      cases k with
      | zero => simp [hc]
      | succ k => simpa using deepN_lt t k (by omega)
    · rw [if_neg hc] at h; omega
theorem deepN_end : ∀ (s : List UInt8), s[deepN s]? ≠ some 91
  | [] => by simp
  | c :: t => by
    unfold deepN
    by_cases hc : c = 91
    · rw [if_pos hc]; simpa using deepN_end t
    · rw [if_neg hc]; simpa using hc
theorem deepN_le : ∀ (s : List UInt8), deepN s ≤ s.length
  | [] => by simp [deepN]
  | c :: t => by
    unfold deepN
    have := deepN_le t
    split <;> simp <;> omega
theorem innN_le : ∀ (s : List UInt8) (b : Bool), innN s b ≤ s.length
  | [], b => by simp [innN]
  | c :: t, b => by
    simp only [innN]
    repeat' split
    all_goals first | (simp; done) | skip
    rename_i h _
    have := idx_take t h
    simp; omega
set_option maxHeartbeats 1600000 in
theorem ysize_any (w : World) (S : ByteArray) (s : List UInt8) (hS : Str S s) (hs : s.length ≤ 140737488355328) : Calls Tryz.prog 58 #[.string S] w fun e w' => e = .returned (.int .i64 (sizeN s)) ∧ w' = w := by
  have hz := hS.size
  have HG : Hid (∀ (k : Nat) c, s[k]? = some c → ∃ hk : k < S.size, S[k] = c) := fun k c h => hS.at k c h
  have HD := hide (deepN_lt s)
  have HE := hide (deepN_end s)
  have hdl := deepN_le s
  have hil := innN_le (s.drop (deepN s)) (decide (0 < deepN s))
  rw [List.length_drop] at hil
  have HI := hide (yinner_any w _ _ (hS.sub (deepN s) S.size) (by simp; omega) (decide (0 < deepN s)))
  rw [hz, show (s.drop (deepN s)).take (s.length - deepN s) = s.drop (deepN s) from List.take_of_length_le (by simp)] at HI
  have HR : Hid (sizeN s = if 8 < deepN s then 0 else if innN (s.drop (deepN s)) (decide (0 < deepN s)) = 0 then 0 else deepN s + innN (s.drop (deepN s)) (decide (0 < deepN s))) := rfl
  clear hS
  generalize hn : s.length = n at *
  generalize hdd : deepN s = d at *
  generalize innN (s.drop d) (decide (0 < d)) = r at *
  obtain ⟨R, hR⟩ : ∃ R, R = (if 8 < d then 0 else if r = 0 then 0 else d + r) := ⟨_, rfl⟩
  have HP := hide hR
  rw [← hR] at HR
  clear hR
  have hpo : (Calls Tryz.prog 58 #[.string S] w fun e w' => e = .returned (.int .i64 R) ∧ w' = w) := by
    go_enter Tryz.func58, Tryz.ntmps58
    go_wp2
    go_loopw [3] (fun i wr => ∃ k : Nat, k ≤ d ∧ i = .int .i64 k ∧ wr = w) (fun i _ => n - (intOf i).toNat)
    case atStart => exact ⟨0, by omega, rfl, rfl⟩
    case round =>
      obtain ⟨k, hk, rfl, rfl⟩ := hrel
      by_cases hlt : k < d
      · have hlt1 : (k : Int) < (n : Int) := by omega
        obtain ⟨hk1, q1⟩ := unhide HG k 91 (unhide HD k hlt)
        go_wp2
        go_roundw
        case rel => exact ⟨k + 1, by omega, by go_num, (by first | rfl | trivial)⟩
        case measure => simp [intOf]; omega
      · obtain rfl : k = d := by omega
        by_cases hkn : k < n
        · have hlt1 : (k : Int) < (n : Int) := by omega
          obtain ⟨c, hc⟩ : ∃ c, s[k]? = some c := ⟨_, List.getElem?_eq_getElem (by omega)⟩
          obtain ⟨hk1, q1⟩ := unhide HG k c hc
          have hc91 : ¬ (c.toNat : Int) = 91 := fun h => unhide HE (by rw [hc, show c = 91 from UInt8.toNat_inj.1 (by simp; omega)])
          have hc91' : ((c.toNat : Int) == 91) = false := by simpa using hc91
          clear hc
          by_cases h8 : 8 < k
          · have h8' : (8 : Int) < k := by omega
            rw [if_pos h8] at HP
            go_wp2
            go_ret
            exact ⟨by rw [unhide HP]; rfl, rfl⟩
          · have h8' : ¬ (8 : Int) < k := by omega
            rw [if_neg h8] at HP
            by_cases hr0 : r = 0
            · subst hr0
              rw [if_pos rfl] at HP
              go_wp2_with (go_at_call 110; refine (unhide HI).mono ?_; rintro e w' ⟨rfl, hw⟩; rw [hw]; clear hw)
              go_ret
              exact ⟨by rw [unhide HP]; rfl, rfl⟩
            · have hr1 : ((r : Int) == 0) = false := by simp; omega
              have hr2 : ¬ (r : Int) = 0 := by omega
              rw [if_neg hr0] at HP
              go_wp2_with (go_at_call 110; refine (unhide HI).mono ?_; rintro e w' ⟨rfl, hw⟩; rw [hw]; clear hw)
              go_ret
              exact ⟨by rw [unhide HP]; exact ret_int (by go_num), rfl⟩
        · have hlt1 : ¬ (k : Int) < (n : Int) := by omega
          have hlt2 : (n : Int) ≤ (k : Int) := by omega
          by_cases h8 : 8 < k
          · have h8' : (8 : Int) < k := by omega
            rw [if_pos h8] at HP
            go_wp2
            go_ret
            exact ⟨by rw [unhide HP]; rfl, rfl⟩
          · have h8' : ¬ (8 : Int) < k := by omega
            rw [if_neg h8] at HP
            by_cases hr0 : r = 0
            · subst hr0
              rw [if_pos rfl] at HP
              go_wp2_with (go_at_call 110; refine (unhide HI).mono ?_; rintro e w' ⟨rfl, hw⟩; rw [hw]; clear hw)
              go_ret
              exact ⟨by rw [unhide HP]; rfl, rfl⟩
            · have hr1 : ((r : Int) == 0) = false := by simp; omega
              have hr2 : ¬ (r : Int) = 0 := by omega
              rw [if_neg hr0] at HP
              go_wp2_with (go_at_call 110; refine (unhide HI).mono ?_; rintro e w' ⟨rfl, hw⟩; rw [hw]; clear hw)
              go_ret
              exact ⟨by rw [unhide HP]; exact ret_int (by go_num), rfl⟩
  rw [unhide HR]
  exact hpo
end Go.Proofs.YthenefjoidckkaaGreatDoor

/- The landed kind: typeOf, Parse. -/
namespace Go.Proofs.YthenefjoidckkaaGreatDoor
open Go.RowKit
set_option linter.unusedVariables false
set_option maxRecDepth 100000

theorem sizeTy : (Tryz.prog.info? 52).map (·.size) = some 2 := by kernel_rfl
theorem ty_ret1 {fn : Func} {p : Tmp} (h : fn.results = #[.cell p 52]) (W : World) (r : Nat) (x y : Value) (hb : W.heap[r]? = some (.cells #[x, y] 52 (0, 0))) (tmps : Array Value) (hp : tmps.getD p undef = .pointer (some ⟨r, 0, none⟩)) :
    (results fn tmps).run Tryz.prog W = .ok (.agg #[x, y]) W :=
  results_cell_row h _ _ r 52 _ (0, 0) _ hp hb Tryz.underlying52 rfl sizeTy
theorem ty_ret2 {fn : Func} {p u : Tmp} (h : fn.results = #[.cell p 52, .tmp u]) (W : World) (r : Nat) (x y : Value) (hb : W.heap[r]? = some (.cells #[x, y] 52 (0, 0))) (tmps : Array Value) (hp : tmps.getD p undef = .pointer (some ⟨r, 0, none⟩)) :
    (results fn tmps).run Tryz.prog W = .ok (.tuple #[.agg #[x, y], tmps.getD u undef]) W := by
  rw [results_cell_tmp h, hp]
  simp [asAddr, run_loadVar_row W r 52 52 _ (0, 0) _ hb Tryz.underlying52 rfl sizeTy]
theorem ty_set {W : World} {A : Nat} {T : TypeId} {a0 a1 : Value} (c0 c1 : Value) (h : W.heap[A]? = some (.cells #[a0, a1] T (0, 0))) :
    ((W.setCell ⟨A, 0, none⟩ c0).setCell ⟨A, 1, none⟩ c1).heap[A]? = some (.cells #[c0, c1] T (0, 0)) :=
  heap_setCell_same _ A 1 _ _ c1 (heap_setCell_same W A 0 _ _ c0 h)
theorem ty_bel {B A : Nat} {w W : World} (c0 c1 : Value) (h : Below B w W) (hA : B ≤ A) : Below B w ((W.setCell ⟨A, 0, none⟩ c0).setCell ⟨A, 1, none⟩ c1) :=
  (h.setCell (p := ⟨A, 0, none⟩) hA _).setCell (p := ⟨A, 1, none⟩) hA _
/-- A box of a type, its cells, and that they may be written. -/
structure Bx2c (W : World) (r : Nat) (x y : Value) : Prop where
  row : W.heap[r]? = some (.cells #[x, y] 52 (0, 0))
theorem Bx2c.made (w : World) (x y : Value) : Bx2c (w.alloc (.cells #[x, y] 52)) w.heap.size x y := ⟨heap_alloc_last _ _⟩
theorem Bx2c.keep {W W' : World} {r : Nat} {x y : Value} (h : Bx2c W r x y) (f : Below W.heap.size W W') : Bx2c W' r x y := ⟨(f.block _ (lt_of_heap h.row)).trans h.row⟩
theorem Bx2c.cells {W : World} {r : Nat} {x y : Value} (h : Bx2c W r x y) : W.cell? ⟨r, 0, none⟩ = some x ∧ W.cell? ⟨r, 1, none⟩ = some y ∧ (∀ j, W.frozen? ⟨r, j, none⟩ = false) :=
  ⟨by rw [cell_of_row _ _ _ _ _ _ h.row]; rfl, by rw [cell_of_row _ _ _ _ _ _ h.row]; rfl, fun j => frozen_of_row _ _ _ _ _ h.row⟩
def tyV (t : Ty) : Value := .agg #[.int .i64 t.kind, .string ⟨t.name.toArray⟩]
theorem tyV_at (k : Int) (S : ByteArray) (s : List UInt8) (h : Str S s) : Value.agg #[.int .i64 k, .string S] = tyV ⟨k, s⟩ := by rw [h.eq]; rfl
theorem un73 {c : UInt8} {n : Nat} (h : c ≠ n.toUInt8) (hn : n < 256) : ¬ (c.toNat : Int) = n := fun e => h (UInt8.toNat_inj.1 (by simp; omega))
set_option maxHeartbeats 1600000 in
theorem ytypeOf_any (w : World) (S : ByteArray) (s : List UInt8) (hS : Str S s) (hs : s.length ≤ 140737488355328) (h0 : 0 < s.length) (hL : s[0]? = some 76 → 2 ≤ s.length) : Calls Tryz.prog 59 #[.string S] w fun e w' => e = .returned (tyV (typeP s)) ∧ Below w.heap.size w w' := by
  have hz := hS.size
  obtain ⟨c, hc⟩ : ∃ c, s[0]? = some c := ⟨_, List.getElem?_eq_getElem h0⟩
  obtain ⟨hk, q0⟩ := hS.at 0 c hc
  unfold typeP
  rw [hc] at hL ⊢
  have HS := hide hS
  clear hS hc
  by_cases c1 : c = 73
  · subst c1
    rw [if_pos rfl]
    go_enter Tryz.func59, Tryz.ntmps59
    go_wp2
    exact bodyPost_ret (ty_ret1 Tryz.results59 _ w.heap.size _ _ (heap_alloc_last _ _) _ rfl) rfl ⟨rfl, bA (Below.refl _ _) _⟩
  rw [if_neg (by simpa using c1)]
  by_cases c2 : c = 74
  · subst c2
    rw [if_pos rfl]
    go_enter Tryz.func59, Tryz.ntmps59
    go_wp2
    exact bodyPost_ret (ty_ret1 Tryz.results59 _ w.heap.size _ _ (heap_alloc_last _ _) _ rfl) rfl ⟨rfl, bA (Below.refl _ _) _⟩
  rw [if_neg (by simpa using c2)]
  by_cases c4 : c = 76
  · subst c4
    rw [if_pos rfl]
    have h2 := hL rfl
    have HV := hide (tyV_at 4 _ _ ((unhide HS).sub 1 (s.length - 1)))
    have e1 : s.length - 1 - 1 = s.length - 2 := by omega
    rw [e1] at HV
    generalize hn : s.length = n at *
    obtain ⟨m, hm⟩ : ∃ m, m = n - 1 := ⟨_, rfl⟩
    have hm2 : (n : Int) - 1 = m := by omega
    have hm3 : (1 : Int) ≤ m := by omega
    have hm4 : (m : Int) ≤ n := by omega
    have hm5 : 1 ≤ m := by omega
    have hm6 : m ≤ n := by omega
    rw [← hm] at HV
    clear hm HS hL
    go_enter Tryz.func59, Tryz.ntmps59
    go_wp2
    exact bodyPost_ret (ty_ret1 Tryz.results59 _ w.heap.size _ _ (heap_alloc_last _ _) _ rfl) rfl ⟨congrArg _ (unhide HV), bA (Below.refl _ _) _⟩
  · rw [if_neg (by simpa using c4)]
    have HV := hide (tyV_at 4 _ _ (unhide HS))
    have c1' : ¬ (c.toNat : Int) = 73 := un73 (n := 73) c1 (by decide)
    have c2' : ¬ (c.toNat : Int) = 74 := un73 (n := 74) c2 (by decide)
    have c4' : ¬ (c.toNat : Int) = 76 := un73 (n := 76) c4 (by decide)
    have d1' : ((c.toNat : Int) == 73) = false := by simpa using c1'
    have d2' : ((c.toNat : Int) == 74) = false := by simpa using c2'
    have d4' : ((c.toNat : Int) == 76) = false := by simpa using c4'
    clear c1 c2 c4 HS hL
    go_enter Tryz.func59, Tryz.ntmps59
    go_wp2
    exact bodyPost_ret (ty_ret1 Tryz.results59 _ w.heap.size _ _ (heap_alloc_last _ _) _ rfl) rfl ⟨congrArg _ (unhide HV), bA (Below.refl _ _) _⟩
theorem sizeN_L {s : List UInt8} (h : sizeN s = s.length) (hL : s[0]? = some 76) : 2 ≤ s.length := by
  cases s with
  | nil => simp at hL
  | cons c t =>
    simp at hL
    subst hL
    have hd : deepN (76 :: t) = 0 := by simp [deepN]
    unfold sizeN at h
    rw [hd] at h
    simp [innN] at h
    split at h
    · simp at h
    · rename_i hx
      split at h
      · rename_i hi
        omega
      · rename_i hi
        have := idx_lt t 59 hi
        simp; omega
set_option maxHeartbeats 1600000 in
theorem yParse_any (w : World) (S : ByteArray) (s : List UInt8) (hS : Str S s) (hs : s.length ≤ 140737488355328) : Calls Tryz.prog 60 #[.string S] w fun e w' => e = .returned (.tuple #[tyV (parP s).1, .int .i64 (parP s).2]) ∧ Below w.heap.size w w' := by
  have hz := hS.size
  obtain ⟨w0, hw0⟩ : ∃ w0, w0 = w.alloc (.cells #[.int .i64 0, .string ⟨#[]⟩] 52) := ⟨_, rfl⟩
  have HB : Hid (Bx2c w0 w.heap.size (.int .i64 0) (.string ⟨#[]⟩)) := by rw [hw0]; exact Bx2c.made _ _ _
  have F0 : Hid (Below w.heap.size w w0) := by rw [hw0]; exact bA (Below.refl _ _) _
  have HW0 := hide hw0
  clear hw0
  have HZ := hide (ysize_any w0 S s hS hs)
  by_cases h : sizeN s = 0 ∨ sizeN s ≠ s.length
  · have e : parP s = (ty0, 100) := if_pos h
    rw [e]
    show Calls _ _ _ _ fun e w' => e = .returned (.tuple #[.agg #[.int .i64 0, .string ⟨#[]⟩], .int .i64 100]) ∧ Below w.heap.size w w'
    obtain ⟨k0, k1, k2⟩ := (unhide HB).cells
    clear e hS
    generalize s.length = n at *
    generalize sizeN s = m at *
    rcases Classical.em (m = 0) with h0 | h0
    · subst h0
      clear h
      go_enter Tryz.func60, Tryz.ntmps60
      go_wp2_with fail
      rw [← unhide HW0]
      refine (unhide HZ).mono ?_
      rintro e w' ⟨rfl, hw⟩
      rw [hw]
      clear hw
      go_wp2
      exact bodyPost_ret (ty_ret2 Tryz.results60 _ w.heap.size _ _ (ty_set _ _ (unhide HB).row) _ rfl) rfl ⟨rfl, ty_bel _ _ (unhide F0) (Nat.le_refl _)⟩
    · have h1 : ((m : Int) == 0) = false := by simp; omega
      have h2 : ¬ (m : Int) = n := by rcases h with h | h <;> omega
      have h3 : ((m : Int) != (n : Int)) = true := by simp; omega
      have h4 : ((m : Int) == (n : Int)) = false := by simp; omega
      have h5 : ¬ (m : Int) = 0 := by omega
      clear h
      go_enter Tryz.func60, Tryz.ntmps60
      go_wp2_with fail
      rw [← unhide HW0]
      refine (unhide HZ).mono ?_
      rintro e w' ⟨rfl, hw⟩
      rw [hw]
      clear hw
      go_wp2
      exact bodyPost_ret (ty_ret2 Tryz.results60 _ w.heap.size _ _ (ty_set _ _ (unhide HB).row) _ rfl) rfl ⟨rfl, ty_bel _ _ (unhide F0) (Nat.le_refl _)⟩
  · have e : parP s = (typeP s, 0) := if_neg h
    rw [e]
    have h1 : sizeN s ≠ 0 := fun e => h (.inl e)
    have h2 : sizeN s = s.length := Classical.byContradiction fun e => h (.inr e)
    have HT := hide (ytypeOf_any w0 S s hS hs (by rw [← h2]; omega) (sizeN_L h2))
    rw [h2] at HZ h1
    have h3 : ((s.length : Int) == 0) = false := by rw [beq_eq_false_iff_ne]; omega
    have h4 : ¬ (s.length : Int) = 0 := by omega
    generalize typeP s = tp at *
    obtain ⟨tk, tn⟩ := tp
    unfold tyV at *
    simp only at HT ⊢
    generalize (⟨tn.toArray⟩ : ByteArray) = T at *
    generalize s.length = n at *
    clear e hS h h2
    go_enter Tryz.func60, Tryz.ntmps60
    go_wp2_with fail
    rw [← unhide HW0]
    refine (unhide HZ).mono ?_
    rintro e w' ⟨rfl, hw⟩
    rw [hw]
    clear hw
    go_wp2_with fail
    refine (unhide HT).mono ?_
    rintro e w1 ⟨rfl, f1⟩
    have HB1 := hide ((unhide HB).keep f1)
    have F1 := hide ((unhide F0).trans (f1.mono (unhide F0).size))
    obtain ⟨k0, k1, k2⟩ := (unhide HB1).cells
    clear f1
    go_wp2
    exact bodyPost_ret (ty_ret2 Tryz.results60 _ w.heap.size _ _ (ty_set _ _ (unhide HB1).row) _ rfl) rfl ⟨rfl, ty_bel _ _ (unhide F1) (Nat.le_refl _)⟩
end Go.Proofs.YthenefjoidckkaaGreatDoor
