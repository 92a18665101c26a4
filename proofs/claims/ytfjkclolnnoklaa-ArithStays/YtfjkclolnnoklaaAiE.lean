/- Layer 14, the landed code: Round, Int, Long, One, If (written by mk/mkaie.py). -/
import Derived.Test.YtfjkclolnnoklaaAiC
import Derived.Shelf.Abstract
namespace Go.Proofs.Ytfjkclolnnoklaa
open Go.RowKit
set_option linter.unusedVariables false
set_option maxRecDepth 100000

theorem eq_beq {a b : Int} (h : a = b) : (a == b) = true := by simpa using h
theorem ne_beq {a b : Int} (h : ¬ a = b) : (a == b) = false := by simpa using h
theorem i14Round_any (w : World) (a : Int) : Calls Try.prog 11 #[.int .i64 a] w fun e w' => e = .returned (.int .i64 (rnd a)) ∧ w' = w := by
  go_enter Try.func11, Try.ntmps11
  go_wp2
  go_ret
  exact ⟨by first | rfl | exact ret_i64 (by first | rfl | (rw [w32_rnd]; exact r64_id (rnd_lon a)) | (rw [w32_rnd, w64_r64]; exact r64_id (rnd_lon a)) | exact r64_id (rnd_lon a)), rfl⟩
theorem isInt_dec (a : Int) : (rnd a == a) = decide (intA a) := by
  by_cases h : intA a
  · rw [decide_eq_true h, rnd_id h]; simp
  · rw [decide_eq_false h]
    have : ¬ rnd a = a := fun e => h (by rw [← e]; exact rnd_in a)
    simpa using this
theorem i14isInt_any (w : World) (a : Int) : Calls Try.prog 23 #[.int .i64 a] w fun e w' => e = .returned (.bool (decide (intA a))) ∧ w' = w := by
  have HR := hide (i14Round_any w a)
  have HD := hide (isInt_dec a)
  go_enter Try.func23, Try.ntmps23
  go_wp2_with fail
  refine (unhide HR).mono ?_
  rintro e w1 ⟨rfl, rfl⟩
  go_wp2
  go_ret
  exact ⟨ret_boolA (unhide HD), rfl⟩
theorem cmpNaNW_any (w : World) (a : Int) : Calls Try.prog 79 #[.int .i64 a] w fun e w' => e = .returned (.bool false) ∧ w' = w := by
  have h : (a != a) = false := by simp
  go_enter Try.func79, Try.ntmps79
  go_wp2
  go_ret
  exact ⟨by first | rfl | exact ret_boolA h, rfl⟩
theorem cmpCompareW_any (w : World) (a b : Int) : Calls Try.prog 78 #[.int .i64 a, .int .i64 b] w fun e w' => e = .returned (.int .i64 (cmpL a b)) ∧ w' = w := by
  have HN : Hid (∀ W x, Calls Try.prog 79 #[.int .i64 x] W fun e w' => e = .returned (.bool false) ∧ w' = W) := fun W x => cmpNaNW_any W x
  have key : ∀ c : Int, cmpL a b = c → Calls Try.prog 78 #[.int .i64 a, .int .i64 b] w fun e w' => e = .returned (.int .i64 c) ∧ w' = w := by
    intro c hc
    unfold cmpL at hc
    by_cases h1 : a < b
    · rw [if_pos h1] at hc
      subst hc
      go_enter Try.func78, Try.ntmps78
      go_wp2_with fail
      refine (unhide HN _ _).mono ?_
      rintro e w1 ⟨rfl, rfl⟩
      go_wp2_with fail
      refine (unhide HN _ _).mono ?_
      rintro e w1 ⟨rfl, rfl⟩
      go_wp2
      go_ret
      exact ⟨rfl, rfl⟩
    · rw [if_neg h1] at hc
      by_cases h2 : b < a
      · rw [if_pos h2] at hc
        subst hc
        go_enter Try.func78, Try.ntmps78
        go_wp2_with fail
        refine (unhide HN _ _).mono ?_
        rintro e w1 ⟨rfl, rfl⟩
        go_wp2_with fail
        refine (unhide HN _ _).mono ?_
        rintro e w1 ⟨rfl, rfl⟩
        go_wp2
        go_ret
        exact ⟨rfl, rfl⟩
      · rw [if_neg h2] at hc
        subst hc
        go_enter Try.func78, Try.ntmps78
        go_wp2_with fail
        refine (unhide HN _ _).mono ?_
        rintro e w1 ⟨rfl, rfl⟩
        go_wp2_with fail
        refine (unhide HN _ _).mono ?_
        rintro e w1 ⟨rfl, rfl⟩
        go_wp2
        go_ret
        exact ⟨rfl, rfl⟩
  exact key _ rfl
theorem w14against_any (w : World) (a b : Int) : Calls Try.prog 64 #[.int .i64 a, .int .i64 b] w fun e w' => e = .returned (.int .i64 (cmpL a b)) ∧ w' = w := by
  have HC := hide (cmpCompareW_any w a b)
  obtain ⟨c1, c2⟩ := cmpL_lon a b
  obtain ⟨c, hc⟩ : ∃ c, c = cmpL a b := ⟨_, rfl⟩
  rw [← hc] at HC c1 c2 ⊢
  clear hc
  go_enter Try.func64, Try.ntmps64
  go_wp2_with fail
  refine (unhide HC).mono ?_
  rintro e w1 ⟨rfl, rfl⟩
  go_wp2
  go_ret
  exact ⟨rfl, rfl⟩
/-- What tells an operation by its number: a function value, or nil. -/
def Fn (v : Value) (P : Nat → Prop) (N : Prop) : Prop := (v = .nilFunc ∧ N) ∨ ∃ g, v = .func (.func g) #[] #[] ∧ (∀ args w, (callFunc g args).run Try.prog w = .ok (.enter g args) w) ∧ P g
def F2 (op : Int) (v : Value) : Prop := Fn v (fun g => ∀ W a b, ((op = 108 ∨ op = 112) → b ≠ 0) → ∃ z, op32 op a b = some z ∧ Calls Try.prog g #[.int .i32 a, .int .i32 b] W fun e w' => e = .returned (.int .i32 z) ∧ w' = W) (∀ a b, op32 op a b = none)
def G2 (op : Int) (v : Value) : Prop := Fn v (fun g => ∀ W a b, ((op = 109 ∨ op = 113) → b ≠ 0) → ∃ z, op64 op a b = some z ∧ Calls Try.prog g #[.int .i64 a, .int .i64 b] W fun e w' => e = .returned (.int .i64 z) ∧ w' = W) (∀ a b, op64 op a b = none)
def F1 (op : Int) (v : Value) : Prop := Fn v (fun g => ∀ W a, ∃ z, one32 op a = some z ∧ Calls Try.prog g #[.int .i32 a] W fun e w' => e = .returned (.int .i32 z) ∧ w' = W) (∀ a, one32 op a = none)
def G1 (op : Int) (v : Value) : Prop := Fn v (fun g => (op = 117 ∨ op = 136) ∧ ∀ W a, ∃ z, one64 op a = some z ∧ Calls Try.prog g #[.int .i64 a] W fun e w' => e = .returned (.int .i64 z) ∧ w' = W) (¬ (op = 117 ∨ op = 136))
def C2 (op : Int) (v : Value) : Prop := Fn v (fun g => ∀ W a b, ∃ z, cond32 op a b = some z ∧ Calls Try.prog g #[.int .i32 a, .int .i32 b] W fun e w' => e = .returned (.bool z) ∧ w' = W) (∀ a b, cond32 op a b = none)
theorem i14narrowOfTwo_any (w : World) (op : Int) : Calls Try.prog 25 #[.int .i64 op] w fun e w' => ∃ v, e = .returned v ∧ F2 op v ∧ w' = w := by
  by_cases h96 : op = 96
  · subst h96
    go_enter Try.func25, Try.ntmps25
    go_wp2
    go_ret
    exact ⟨_, rfl, .inr ⟨41, rfl, enters_of Try.func41 (by kernel_rfl) rfl, fun W a b hb => ⟨_, rfl, n14plus_any W a b⟩⟩, rfl⟩
  by_cases h100 : op = 100
  · subst h100
    go_enter Try.func25, Try.ntmps25
    go_wp2
    go_ret
    exact ⟨_, rfl, .inr ⟨42, rfl, enters_of Try.func42 (by kernel_rfl) rfl, fun W a b hb => ⟨_, rfl, n14minus_any W a b⟩⟩, rfl⟩
  by_cases h104 : op = 104
  · subst h104
    go_enter Try.func25, Try.ntmps25
    go_wp2
    go_ret
    exact ⟨_, rfl, .inr ⟨43, rfl, enters_of Try.func43 (by kernel_rfl) rfl, fun W a b hb => ⟨_, rfl, n14times_any W a b⟩⟩, rfl⟩
  by_cases h108 : op = 108
  · subst h108
    go_enter Try.func25, Try.ntmps25
    go_wp2
    go_ret
    exact ⟨_, rfl, .inr ⟨44, rfl, enters_of Try.func44 (by kernel_rfl) rfl, fun W a b hb => ⟨_, rfl, n14by_any W a b (hb (by first | exact .inl rfl | exact .inr rfl))⟩⟩, rfl⟩
  by_cases h112 : op = 112
  · subst h112
    go_enter Try.func25, Try.ntmps25
    go_wp2
    go_ret
    exact ⟨_, rfl, .inr ⟨45, rfl, enters_of Try.func45 (by kernel_rfl) rfl, fun W a b hb => ⟨_, rfl, n14left_any W a b (hb (by first | exact .inl rfl | exact .inr rfl))⟩⟩, rfl⟩
  by_cases h120 : op = 120
  · subst h120
    go_enter Try.func25, Try.ntmps25
    go_wp2
    go_ret
    exact ⟨_, rfl, .inr ⟨46, rfl, enters_of Try.func46 (by kernel_rfl) rfl, fun W a b hb => ⟨_, rfl, n14up_any W a b⟩⟩, rfl⟩
  by_cases h122 : op = 122
  · subst h122
    go_enter Try.func25, Try.ntmps25
    go_wp2
    go_ret
    exact ⟨_, rfl, .inr ⟨47, rfl, enters_of Try.func47 (by kernel_rfl) rfl, fun W a b hb => ⟨_, rfl, n14down_any W a b⟩⟩, rfl⟩
  by_cases h124 : op = 124
  · subst h124
    go_enter Try.func25, Try.ntmps25
    go_wp2
    go_ret
    exact ⟨_, rfl, .inr ⟨48, rfl, enters_of Try.func48 (by kernel_rfl) rfl, fun W a b hb => ⟨_, rfl, n14downBare_any W a b⟩⟩, rfl⟩
  by_cases h126 : op = 126
  · subst h126
    go_enter Try.func25, Try.ntmps25
    go_wp2
    go_ret
    exact ⟨_, rfl, .inr ⟨49, rfl, enters_of Try.func49 (by kernel_rfl) rfl, fun W a b hb => ⟨_, rfl, n14and_any W a b⟩⟩, rfl⟩
  by_cases h128 : op = 128
  · subst h128
    go_enter Try.func25, Try.ntmps25
    go_wp2
    go_ret
    exact ⟨_, rfl, .inr ⟨50, rfl, enters_of Try.func50 (by kernel_rfl) rfl, fun W a b hb => ⟨_, rfl, n14or_any W a b⟩⟩, rfl⟩
  by_cases h130 : op = 130
  · subst h130
    go_enter Try.func25, Try.ntmps25
    go_wp2
    go_ret
    exact ⟨_, rfl, .inr ⟨51, rfl, enters_of Try.func51 (by kernel_rfl) rfl, fun W a b hb => ⟨_, rfl, n14xor_any W a b⟩⟩, rfl⟩
  have b96 := ne_beq h96
  have b100 := ne_beq h100
  have b104 := ne_beq h104
  have b108 := ne_beq h108
  have b112 := ne_beq h112
  have b120 := ne_beq h120
  have b122 := ne_beq h122
  have b124 := ne_beq h124
  have b126 := ne_beq h126
  have b128 := ne_beq h128
  have b130 := ne_beq h130
  have HN : Hid (∀ a b, op32 op a b = none) := by
    show ∀ a b, op32 op a b = none
    intro a b; unfold op32; simp only [h96, h100, h104, h108, h112, h120, h122, h124, h126, h128, h130, if_false]
  clear h96 h100 h104 h108 h112 h120 h122 h124 h126 h128 h130
  go_enter Try.func25, Try.ntmps25
  go_wp2
  go_ret
  exact ⟨_, rfl, .inl ⟨rfl, unhide HN⟩, rfl⟩
theorem i14wideOfTwo_any (w : World) (op : Int) : Calls Try.prog 31 #[.int .i64 op] w fun e w' => ∃ v, e = .returned v ∧ G2 op v ∧ w' = w := by
  by_cases h97 : op = 97
  · subst h97
    go_enter Try.func31, Try.ntmps31
    go_wp2
    go_ret
    exact ⟨_, rfl, .inr ⟨53, rfl, enters_of Try.func53 (by kernel_rfl) rfl, fun W a b hb => ⟨_, rfl, w14plus_any W a b⟩⟩, rfl⟩
  by_cases h101 : op = 101
  · subst h101
    go_enter Try.func31, Try.ntmps31
    go_wp2
    go_ret
    exact ⟨_, rfl, .inr ⟨54, rfl, enters_of Try.func54 (by kernel_rfl) rfl, fun W a b hb => ⟨_, rfl, w14minus_any W a b⟩⟩, rfl⟩
  by_cases h105 : op = 105
  · subst h105
    go_enter Try.func31, Try.ntmps31
    go_wp2
    go_ret
    exact ⟨_, rfl, .inr ⟨55, rfl, enters_of Try.func55 (by kernel_rfl) rfl, fun W a b hb => ⟨_, rfl, w14times_any W a b⟩⟩, rfl⟩
  by_cases h109 : op = 109
  · subst h109
    go_enter Try.func31, Try.ntmps31
    go_wp2
    go_ret
    exact ⟨_, rfl, .inr ⟨56, rfl, enters_of Try.func56 (by kernel_rfl) rfl, fun W a b hb => ⟨_, rfl, w14by_any W a b (hb (by first | exact .inl rfl | exact .inr rfl))⟩⟩, rfl⟩
  by_cases h113 : op = 113
  · subst h113
    go_enter Try.func31, Try.ntmps31
    go_wp2
    go_ret
    exact ⟨_, rfl, .inr ⟨57, rfl, enters_of Try.func57 (by kernel_rfl) rfl, fun W a b hb => ⟨_, rfl, w14left_any W a b (hb (by first | exact .inl rfl | exact .inr rfl))⟩⟩, rfl⟩
  by_cases h121 : op = 121
  · subst h121
    go_enter Try.func31, Try.ntmps31
    go_wp2
    go_ret
    exact ⟨_, rfl, .inr ⟨58, rfl, enters_of Try.func58 (by kernel_rfl) rfl, fun W a b hb => ⟨_, rfl, w14up_any W a b⟩⟩, rfl⟩
  by_cases h123 : op = 123
  · subst h123
    go_enter Try.func31, Try.ntmps31
    go_wp2
    go_ret
    exact ⟨_, rfl, .inr ⟨59, rfl, enters_of Try.func59 (by kernel_rfl) rfl, fun W a b hb => ⟨_, rfl, w14down_any W a b⟩⟩, rfl⟩
  by_cases h125 : op = 125
  · subst h125
    go_enter Try.func31, Try.ntmps31
    go_wp2
    go_ret
    exact ⟨_, rfl, .inr ⟨60, rfl, enters_of Try.func60 (by kernel_rfl) rfl, fun W a b hb => ⟨_, rfl, w14downBare_any W a b⟩⟩, rfl⟩
  by_cases h127 : op = 127
  · subst h127
    go_enter Try.func31, Try.ntmps31
    go_wp2
    go_ret
    exact ⟨_, rfl, .inr ⟨61, rfl, enters_of Try.func61 (by kernel_rfl) rfl, fun W a b hb => ⟨_, rfl, w14and_any W a b⟩⟩, rfl⟩
  by_cases h129 : op = 129
  · subst h129
    go_enter Try.func31, Try.ntmps31
    go_wp2
    go_ret
    exact ⟨_, rfl, .inr ⟨62, rfl, enters_of Try.func62 (by kernel_rfl) rfl, fun W a b hb => ⟨_, rfl, w14or_any W a b⟩⟩, rfl⟩
  by_cases h131 : op = 131
  · subst h131
    go_enter Try.func31, Try.ntmps31
    go_wp2
    go_ret
    exact ⟨_, rfl, .inr ⟨63, rfl, enters_of Try.func63 (by kernel_rfl) rfl, fun W a b hb => ⟨_, rfl, w14xor_any W a b⟩⟩, rfl⟩
  by_cases h148 : op = 148
  · subst h148
    go_enter Try.func31, Try.ntmps31
    go_wp2
    go_ret
    exact ⟨_, rfl, .inr ⟨64, rfl, enters_of Try.func64 (by kernel_rfl) rfl, fun W a b hb => ⟨_, rfl, w14against_any W a b⟩⟩, rfl⟩
  have b97 := ne_beq h97
  have b101 := ne_beq h101
  have b105 := ne_beq h105
  have b109 := ne_beq h109
  have b113 := ne_beq h113
  have b121 := ne_beq h121
  have b123 := ne_beq h123
  have b125 := ne_beq h125
  have b127 := ne_beq h127
  have b129 := ne_beq h129
  have b131 := ne_beq h131
  have b148 := ne_beq h148
  have HN : Hid (∀ a b, op64 op a b = none) := by
    show ∀ a b, op64 op a b = none
    intro a b; unfold op64; simp only [h97, h101, h105, h109, h113, h121, h123, h125, h127, h129, h131, h148, if_false]
  clear h97 h101 h105 h109 h113 h121 h123 h125 h127 h129 h131 h148
  go_enter Try.func31, Try.ntmps31
  go_wp2
  go_ret
  exact ⟨_, rfl, .inl ⟨rfl, unhide HN⟩, rfl⟩
theorem i14narrowOfOne_any (w : World) (op : Int) : Calls Try.prog 35 #[.int .i64 op] w fun e w' => ∃ v, e = .returned v ∧ F1 op v ∧ w' = w := by
  by_cases h116 : op = 116
  · subst h116
    go_enter Try.func35, Try.ntmps35
    go_wp2
    go_ret
    exact ⟨_, rfl, .inr ⟨67, rfl, enters_of Try.func67 (by kernel_rfl) rfl, fun W a => ⟨_, rfl, n14negated_any W a⟩⟩, rfl⟩
  by_cases h133 : op = 133
  · subst h133
    go_enter Try.func35, Try.ntmps35
    go_wp2
    go_ret
    exact ⟨_, rfl, .inr ⟨68, rfl, enters_of Try.func68 (by kernel_rfl) rfl, fun W a => ⟨_, rfl, n14itself_any W a⟩⟩, rfl⟩
  by_cases h145 : op = 145
  · subst h145
    go_enter Try.func35, Try.ntmps35
    go_wp2
    go_ret
    exact ⟨_, rfl, .inr ⟨69, rfl, enters_of Try.func69 (by kernel_rfl) rfl, fun W a => ⟨_, rfl, n14lowByte_any W a⟩⟩, rfl⟩
  by_cases h146 : op = 146
  · subst h146
    go_enter Try.func35, Try.ntmps35
    go_wp2
    go_ret
    exact ⟨_, rfl, .inr ⟨70, rfl, enters_of Try.func70 (by kernel_rfl) rfl, fun W a => ⟨_, rfl, n14bareShort_any W a⟩⟩, rfl⟩
  by_cases h147 : op = 147
  · subst h147
    go_enter Try.func35, Try.ntmps35
    go_wp2
    go_ret
    exact ⟨_, rfl, .inr ⟨71, rfl, enters_of Try.func71 (by kernel_rfl) rfl, fun W a => ⟨_, rfl, n14lowShort_any W a⟩⟩, rfl⟩
  have b116 := ne_beq h116
  have b133 := ne_beq h133
  have b145 := ne_beq h145
  have b146 := ne_beq h146
  have b147 := ne_beq h147
  have HN : Hid (∀ a, one32 op a = none) := by
    show ∀ a, one32 op a = none
    intro a; unfold one32; simp only [h116, h133, h145, h146, h147, if_false]
  clear h116 h133 h145 h146 h147
  go_enter Try.func35, Try.ntmps35
  go_wp2
  go_ret
  exact ⟨_, rfl, .inl ⟨rfl, unhide HN⟩, rfl⟩
theorem i14wideOfOne_any (w : World) (op : Int) : Calls Try.prog 32 #[.int .i64 op] w fun e w' => ∃ v, e = .returned v ∧ G1 op v ∧ w' = w := by
  by_cases h117 : op = 117
  · subst h117
    go_enter Try.func32, Try.ntmps32
    go_wp2
    go_ret
    exact ⟨_, rfl, .inr ⟨65, rfl, enters_of Try.func65 (by kernel_rfl) rfl, .inl rfl, fun W a => ⟨_, rfl, w14negated_any W a⟩⟩, rfl⟩
  by_cases h136 : op = 136
  · subst h136
    go_enter Try.func32, Try.ntmps32
    go_wp2
    go_ret
    exact ⟨_, rfl, .inr ⟨66, rfl, enters_of Try.func66 (by kernel_rfl) rfl, .inr rfl, fun W a => ⟨_, rfl, w14rounded_any W a⟩⟩, rfl⟩
  have b117 := ne_beq h117
  have b136 := ne_beq h136
  have HN : Hid (¬ (op = 117 ∨ op = 136)) := by
    show ¬ (op = 117 ∨ op = 136)
    exact fun h => h.elim h117 h136
  clear h117 h136
  go_enter Try.func32, Try.ntmps32
  go_wp2
  go_ret
  exact ⟨_, rfl, .inl ⟨rfl, unhide HN⟩, rfl⟩
theorem i14condition_any (w : World) (op : Int) : Calls Try.prog 38 #[.int .i64 op] w fun e w' => ∃ v, e = .returned v ∧ C2 op v ∧ w' = w := by
  by_cases h153 : op = 153
  · subst h153
    go_enter Try.func38, Try.ntmps38
    go_wp2
    go_ret
    exact ⟨_, rfl, .inr ⟨72, rfl, enters_of Try.func72 (by kernel_rfl) rfl, fun W a b => ⟨_, rfl, n14isLike_any W a b⟩⟩, rfl⟩
  by_cases h154 : op = 154
  · subst h154
    go_enter Try.func38, Try.ntmps38
    go_wp2
    go_ret
    exact ⟨_, rfl, .inr ⟨73, rfl, enters_of Try.func73 (by kernel_rfl) rfl, fun W a b => ⟨_, rfl, n14isNotLike_any W a b⟩⟩, rfl⟩
  by_cases h155 : op = 155
  · subst h155
    go_enter Try.func38, Try.ntmps38
    go_wp2
    go_ret
    exact ⟨_, rfl, .inr ⟨74, rfl, enters_of Try.func74 (by kernel_rfl) rfl, fun W a b => ⟨_, rfl, n14isLess_any W a b⟩⟩, rfl⟩
  by_cases h156 : op = 156
  · subst h156
    go_enter Try.func38, Try.ntmps38
    go_wp2
    go_ret
    exact ⟨_, rfl, .inr ⟨75, rfl, enters_of Try.func75 (by kernel_rfl) rfl, fun W a b => ⟨_, rfl, n14isNotLess_any W a b⟩⟩, rfl⟩
  by_cases h157 : op = 157
  · subst h157
    go_enter Try.func38, Try.ntmps38
    go_wp2
    go_ret
    exact ⟨_, rfl, .inr ⟨76, rfl, enters_of Try.func76 (by kernel_rfl) rfl, fun W a b => ⟨_, rfl, n14isGreater_any W a b⟩⟩, rfl⟩
  by_cases h158 : op = 158
  · subst h158
    go_enter Try.func38, Try.ntmps38
    go_wp2
    go_ret
    exact ⟨_, rfl, .inr ⟨77, rfl, enters_of Try.func77 (by kernel_rfl) rfl, fun W a b => ⟨_, rfl, n14isNotGreater_any W a b⟩⟩, rfl⟩
  by_cases h159 : op = 159
  · subst h159
    go_enter Try.func38, Try.ntmps38
    go_wp2
    go_ret
    exact ⟨_, rfl, .inr ⟨72, rfl, enters_of Try.func72 (by kernel_rfl) rfl, fun W a b => ⟨_, rfl, n14isLike_any W a b⟩⟩, rfl⟩
  by_cases h160 : op = 160
  · subst h160
    go_enter Try.func38, Try.ntmps38
    go_wp2
    go_ret
    exact ⟨_, rfl, .inr ⟨73, rfl, enters_of Try.func73 (by kernel_rfl) rfl, fun W a b => ⟨_, rfl, n14isNotLike_any W a b⟩⟩, rfl⟩
  by_cases h161 : op = 161
  · subst h161
    go_enter Try.func38, Try.ntmps38
    go_wp2
    go_ret
    exact ⟨_, rfl, .inr ⟨74, rfl, enters_of Try.func74 (by kernel_rfl) rfl, fun W a b => ⟨_, rfl, n14isLess_any W a b⟩⟩, rfl⟩
  by_cases h162 : op = 162
  · subst h162
    go_enter Try.func38, Try.ntmps38
    go_wp2
    go_ret
    exact ⟨_, rfl, .inr ⟨75, rfl, enters_of Try.func75 (by kernel_rfl) rfl, fun W a b => ⟨_, rfl, n14isNotLess_any W a b⟩⟩, rfl⟩
  by_cases h163 : op = 163
  · subst h163
    go_enter Try.func38, Try.ntmps38
    go_wp2
    go_ret
    exact ⟨_, rfl, .inr ⟨76, rfl, enters_of Try.func76 (by kernel_rfl) rfl, fun W a b => ⟨_, rfl, n14isGreater_any W a b⟩⟩, rfl⟩
  by_cases h164 : op = 164
  · subst h164
    go_enter Try.func38, Try.ntmps38
    go_wp2
    go_ret
    exact ⟨_, rfl, .inr ⟨77, rfl, enters_of Try.func77 (by kernel_rfl) rfl, fun W a b => ⟨_, rfl, n14isNotGreater_any W a b⟩⟩, rfl⟩
  have b153 := ne_beq h153
  have b154 := ne_beq h154
  have b155 := ne_beq h155
  have b156 := ne_beq h156
  have b157 := ne_beq h157
  have b158 := ne_beq h158
  have b159 := ne_beq h159
  have b160 := ne_beq h160
  have b161 := ne_beq h161
  have b162 := ne_beq h162
  have b163 := ne_beq h163
  have b164 := ne_beq h164
  have HN : Hid (∀ a b, cond32 op a b = none) := by
    show ∀ a b, cond32 op a b = none
    intro a b; unfold cond32; simp only [h153, h154, h155, h156, h157, h158, h159, h160, h161, h162, h163, h164, or_self, if_false]
  clear h153 h154 h155 h156 h157 h158 h159 h160 h161 h162 h163 h164
  go_enter Try.func38, Try.ntmps38
  go_wp2
  go_ret
  exact ⟨_, rfl, .inl ⟨rfl, unhide HN⟩, rfl⟩
theorem i14onTwoN_any (w : World) (g : Nat) (eg : ∀ args w, (callFunc g args).run Try.prog w = .ok (.enter g args) w) (a b : Int) (ha : intA a) (hb : intA b) (z : Int) (hc : ∀ W, Calls Try.prog g #[.int .i32 a, .int .i32 b] W fun e w' => e = .returned (.int .i32 z) ∧ w' = W) :
    Calls Try.prog 40 #[.func (.func g) #[] #[], .int .i64 a, .int .i64 b] w fun e w' => e = .returned (.int .i32 z) ∧ w' = w := by
  have HC := hide hc
  have HE := hide eg
  obtain ⟨a1, a2⟩ := ha
  obtain ⟨b1, b2⟩ := hb
  clear hc eg
  go_enter Try.func40, Try.ntmps40
  go_wp2_with fail
  rw [unhide HE, Oper.upon_enter]
  refine (unhide HC _).mono ?_
  rintro e w1 ⟨rfl, rfl⟩
  go_wp2
  go_ret
  exact ⟨rfl, rfl⟩
theorem i14onTwoB_any (w : World) (g : Nat) (eg : ∀ args w, (callFunc g args).run Try.prog w = .ok (.enter g args) w) (a b : Int) (ha : intA a) (hb : intA b) (z : Bool) (hc : ∀ W, Calls Try.prog g #[.int .i32 a, .int .i32 b] W fun e w' => e = .returned (.bool z) ∧ w' = W) :
    Calls Try.prog 39 #[.func (.func g) #[] #[], .int .i64 a, .int .i64 b] w fun e w' => e = .returned (.bool z) ∧ w' = w := by
  have HC := hide hc
  have HE := hide eg
  obtain ⟨a1, a2⟩ := ha
  obtain ⟨b1, b2⟩ := hb
  clear hc eg
  go_enter Try.func39, Try.ntmps39
  go_wp2_with fail
  rw [unhide HE, Oper.upon_enter]
  refine (unhide HC _).mono ?_
  rintro e w1 ⟨rfl, rfl⟩
  go_wp2
  go_ret
  exact ⟨rfl, rfl⟩
theorem i14onTwoW_any (w : World) (g : Nat) (eg : ∀ args w, (callFunc g args).run Try.prog w = .ok (.enter g args) w) (a b : Int) (ha : lonA a) (hb : lonA b) (z : Int) (hc : ∀ W, Calls Try.prog g #[.int .i64 a, .int .i64 b] W fun e w' => e = .returned (.int .i64 z) ∧ w' = W) :
    Calls Try.prog 52 #[.func (.func g) #[] #[], .int .i64 a, .int .i64 b] w fun e w' => e = .returned (.int .i64 z) ∧ w' = w := by
  have HC := hide hc
  have HE := hide eg
  obtain ⟨a1, a2⟩ := ha
  obtain ⟨b1, b2⟩ := hb
  clear hc eg
  go_enter Try.func52, Try.ntmps52
  go_wp2_with fail
  rw [unhide HE, Oper.upon_enter]
  refine (unhide HC _).mono ?_
  rintro e w1 ⟨rfl, rfl⟩
  go_wp2
  go_ret
  exact ⟨rfl, rfl⟩
theorem i14ofTwoN_any (w : World) (op : Int) (v : Value) (hv : F2 op v) (dv : Bool) (hd : dv = true ↔ (op = 108 ∨ op = 112)) (a b : Int) (ha : intA a) (hb : intA b) :
    Calls Try.prog 24 #[v, .bool dv, .int .i64 a, .int .i64 b] w fun e w' => e = .returned (.tuple #[.int .i64 (of2 (op32 op a b) (op = 108 ∨ op = 112) b).1, .int .i64 (of2 (op32 op a b) (op = 108 ∨ op = 112) b).2]) ∧ w' = w := by
  rcases hv with ⟨rfl, hn⟩ | ⟨g, rfl, eg, hg⟩
  · rw [hn a b]
    have j0 : ∀ W, (binOp .eql 38 (.nilFunc) .nilFunc).run Try.prog W = .ok (.bool true) W := fun W => by kernel_rfl
    unfold of2
    simp only
    clear hd hn
    go_enter Try.func24, Try.ntmps24
    go_wp2
    go_ret2
    exact ⟨rfl, rfl⟩
  have j0 : ∀ W, (binOp .eql 38 (.func (.func g) #[] #[]) .nilFunc).run Try.prog W = .ok (.bool false) W := fun W => rfl
  by_cases hdb : (op = 108 ∨ op = 112) ∧ b = 0
  · have e1 : dv = true := hd.2 hdb.1
    obtain ⟨h0, rfl⟩ := hdb
    have hz : ∃ z, op32 op a 0 = some z := by
      rcases h0 with rfl | rfl
      · exact ⟨_, rfl⟩
      · exact ⟨_, rfl⟩
    obtain ⟨z, hz⟩ := hz
    have e2 : of2 (op32 op a 0) (op = 108 ∨ op = 112) 0 = (0, 5) := by rw [hz]; unfold of2; simp only; rw [if_pos ⟨h0, trivial⟩]
    rw [e2]
    subst e1
    clear hd hz e2 hg eg
    go_enter Try.func24, Try.ntmps24
    go_wp2
    go_ret2
    exact ⟨rfl, rfl⟩
  obtain ⟨z, hz, _⟩ := hg w a b (fun h0 e => hdb ⟨h0, e⟩)
  have hcall : ∀ W, Calls Try.prog g #[.int .i32 a, .int .i32 b] W fun e w' => e = .returned (.int .i32 z) ∧ w' = W := fun W => by
    obtain ⟨z', hz', h⟩ := hg W a b (fun h0 e => hdb ⟨h0, e⟩)
    rw [hz] at hz'
    injection hz' with hz'
    subst hz'
    exact h
  have HO := hide (i14onTwoN_any w g eg a b ha hb z hcall)
  have e2 : of2 (op32 op a b) (op = 108 ∨ op = 112) b = (z, 0) := by rw [hz]; unfold of2; simp only; rw [if_neg hdb]
  rw [e2]
  obtain ⟨z1, z2⟩ := int_lon (op32_int ha hz)
  have hcase : (dv = true ∧ (b == 0) = false) ∨ dv = false := by
    cases dv with
    | false => exact .inr rfl
    | true => exact .inl ⟨rfl, ne_beq fun e => hdb ⟨hd.1 rfl, e⟩⟩
  clear hd hz hg eg hcall e2 hdb
  rcases hcase with ⟨rfl, hb0⟩ | rfl
  · go_enter Try.func24, Try.ntmps24
    go_wp2_with fail
    refine (unhide HO).mono ?_
    rintro e w1 ⟨rfl, rfl⟩
    go_wp2
    go_ret2
    exact ⟨rfl, rfl⟩
  · go_enter Try.func24, Try.ntmps24
    go_wp2_with fail
    refine (unhide HO).mono ?_
    rintro e w1 ⟨rfl, rfl⟩
    go_wp2
    go_ret2
    exact ⟨rfl, rfl⟩
theorem i14ofTwoW_any (w : World) (op : Int) (v : Value) (hv : G2 op v) (dv : Bool) (hd : dv = true ↔ (op = 109 ∨ op = 113)) (a b : Int) (ha : lonA a) (hb : lonA b) :
    Calls Try.prog 30 #[v, .bool dv, .int .i64 a, .int .i64 b] w fun e w' => e = .returned (.tuple #[.int .i64 (of2 (op64 op a b) (op = 109 ∨ op = 113) b).1, .int .i64 (of2 (op64 op a b) (op = 109 ∨ op = 113) b).2]) ∧ w' = w := by
  rcases hv with ⟨rfl, hn⟩ | ⟨g, rfl, eg, hg⟩
  · rw [hn a b]
    have j0 : ∀ W, (binOp .eql 44 (.nilFunc) .nilFunc).run Try.prog W = .ok (.bool true) W := fun W => by kernel_rfl
    unfold of2
    simp only
    clear hd hn
    go_enter Try.func30, Try.ntmps30
    go_wp2
    go_ret2
    exact ⟨rfl, rfl⟩
  have j0 : ∀ W, (binOp .eql 44 (.func (.func g) #[] #[]) .nilFunc).run Try.prog W = .ok (.bool false) W := fun W => rfl
  by_cases hdb : (op = 109 ∨ op = 113) ∧ b = 0
  · have e1 : dv = true := hd.2 hdb.1
    obtain ⟨h0, rfl⟩ := hdb
    have hz : ∃ z, op64 op a 0 = some z := by
      rcases h0 with rfl | rfl
      · exact ⟨_, rfl⟩
      · exact ⟨_, rfl⟩
    obtain ⟨z, hz⟩ := hz
    have e2 : of2 (op64 op a 0) (op = 109 ∨ op = 113) 0 = (0, 5) := by rw [hz]; unfold of2; simp only; rw [if_pos ⟨h0, trivial⟩]
    rw [e2]
    subst e1
    clear hd hz e2 hg eg
    go_enter Try.func30, Try.ntmps30
    go_wp2
    go_ret2
    exact ⟨rfl, rfl⟩
  obtain ⟨z, hz, _⟩ := hg w a b (fun h0 e => hdb ⟨h0, e⟩)
  have hcall : ∀ W, Calls Try.prog g #[.int .i64 a, .int .i64 b] W fun e w' => e = .returned (.int .i64 z) ∧ w' = W := fun W => by
    obtain ⟨z', hz', h⟩ := hg W a b (fun h0 e => hdb ⟨h0, e⟩)
    rw [hz] at hz'
    injection hz' with hz'
    subst hz'
    exact h
  have HO := hide (i14onTwoW_any w g eg a b ha hb z hcall)
  have e2 : of2 (op64 op a b) (op = 109 ∨ op = 113) b = (z, 0) := by rw [hz]; unfold of2; simp only; rw [if_neg hdb]
  rw [e2]
  obtain ⟨z1, z2⟩ := op64_lon ha hz
  have hcase : (dv = true ∧ (b == 0) = false) ∨ dv = false := by
    cases dv with
    | false => exact .inr rfl
    | true => exact .inl ⟨rfl, ne_beq fun e => hdb ⟨hd.1 rfl, e⟩⟩
  clear hd hz hg eg hcall e2 hdb
  rcases hcase with ⟨rfl, hb0⟩ | rfl
  · go_enter Try.func30, Try.ntmps30
    go_wp2_with fail
    refine (unhide HO).mono ?_
    rintro e w1 ⟨rfl, rfl⟩
    go_wp2
    go_ret2
    exact ⟨rfl, rfl⟩
  · go_enter Try.func30, Try.ntmps30
    go_wp2_with fail
    refine (unhide HO).mono ?_
    rintro e w1 ⟨rfl, rfl⟩
    go_wp2
    go_ret2
    exact ⟨rfl, rfl⟩
theorem i14ofOneN_any (w : World) (op : Int) (v : Value) (hv : F1 op v) (a : Int) (ha : intA a) :
    Calls Try.prog 34 #[v, .int .i64 a] w fun e w' => e = .returned (.tuple #[.int .i64 (of1 (one32 op a)).1, .int .i64 (of1 (one32 op a)).2]) ∧ w' = w := by
  rcases hv with ⟨rfl, hn⟩ | ⟨g, rfl, eg, hg⟩
  · rw [hn a]
    have j0 : ∀ W, (binOp .eql 50 (.nilFunc) .nilFunc).run Try.prog W = .ok (.bool true) W := fun W => by kernel_rfl
    unfold of1
    simp only
    clear hn
    go_enter Try.func34, Try.ntmps34
    go_wp2
    go_ret2
    exact ⟨rfl, rfl⟩
  have j0 : ∀ W, (binOp .eql 50 (.func (.func g) #[] #[]) .nilFunc).run Try.prog W = .ok (.bool false) W := fun W => rfl
  obtain ⟨z, hz, hc⟩ := hg w a
  obtain ⟨a1, a2⟩ := ha
  obtain ⟨z1, z2⟩ := int_lon (one32_int ⟨a1, a2⟩ hz)
  rw [hz]
  unfold of1
  simp only
  have HC := hide hc
  have HE := hide eg
  clear hz hg hc eg
  go_enter Try.func34, Try.ntmps34
  go_wp2_with fail
  rw [unhide HE, Oper.upon_enter]
  refine (unhide HC).mono ?_
  rintro e w1 ⟨rfl, rfl⟩
  go_wp2
  go_ret2
  exact ⟨rfl, rfl⟩
theorem one64_lon {op a v : Int} (h : one64 op a = some v) : lonA v := by
  unfold one64 at h
  repeat' (refine ite_some h (fun h => ?_) fun h => ?_)
  · cases h; exact r64_in _
  · cases h; exact rnd_lon _
  · cases h
theorem i14ofOneW_any (w : World) (op : Int) (v : Value) (hv : G1 op v) (a : Int) (ha : lonA a) (hn0 : op = 117 ∨ op = 136) :
    Calls Try.prog 33 #[v, .int .i64 a] w fun e w' => e = .returned (.tuple #[.int .i64 (of1 (one64 op a)).1, .int .i64 (of1 (one64 op a)).2]) ∧ w' = w := by
  rcases hv with ⟨rfl, hn⟩ | ⟨g, rfl, eg, hg⟩
  · exact absurd hn0 hn
  have j0 : ∀ W, (binOp .eql 46 (.func (.func g) #[] #[]) .nilFunc).run Try.prog W = .ok (.bool false) W := fun W => rfl
  obtain ⟨z, hz, hc⟩ := hg.2 w a
  obtain ⟨a1, a2⟩ := ha
  obtain ⟨z1, z2⟩ := one64_lon hz
  rw [hz]
  unfold of1
  simp only
  have HC := hide hc
  have HE := hide eg
  clear hz hg hc eg
  go_enter Try.func33, Try.ntmps33
  go_wp2_with fail
  rw [unhide HE, Oper.upon_enter]
  refine (unhide HC).mono ?_
  rintro e w1 ⟨rfl, rfl⟩
  go_wp2
  go_ret2
  exact ⟨rfl, rfl⟩
end Go.Proofs.Ytfjkclolnnoklaa
