/- Layer 14: the landed Int, Long, One, If, and the document's If (written by mk/mkaih.py). -/
import Derived.Test.YtfjkclolnnoklabAiE
import Derived.Test.YtfjkclolnnoklabAiG
namespace Go.Proofs.Ytfjkclolnnoklab
open Go.RowKit
set_option linter.unusedVariables false
set_option maxRecDepth 100000

theorem of2_lon {o : Option Int} {dv : Prop} [Decidable dv] {b : Int} (h : ∀ v, o = some v → lonA v) : lonA (of2 o dv b).1 := by
  cases o with
  | none => exact (show lonA 0 by decide)
  | some v =>
    unfold of2; dsimp only; split
    · exact (show lonA 0 by decide)
    · exact h v rfl
theorem i14Int_any (w : World) (op a b : Int) : Calls Try.prog 9 #[.int .i64 op, .int .i64 a, .int .i64 b] w fun e w' => e = .returned (.tuple #[.int .i64 (intR op a b).1, .int .i64 (intR op a b).2]) ∧ w' = w := by
  have HI : Hid (∀ W x, Calls Try.prog 11 #[.int .i64 x] W fun e w' => e = .returned (.bool (decide (intA x))) ∧ w' = W) := fun W x => i14isInt_any W x
  by_cases ha : intA a
  case neg =>
    have hr : intR op a b = (0, 2) := by unfold intR; rw [if_neg (fun h => ha h.1)]
    rw [hr]
    simp only
    have HA := hide (unhide HI w a)
    rw [decide_eq_false ha] at HA
    clear ha hr
    go_enter Try.func9, Try.ntmps9
    go_wp2_with fail
    refine (unhide HA).mono ?_
    rintro e w1 ⟨rfl, rfl⟩
    go_wp2
    go_ret2
    exact ⟨rfl, rfl⟩
  have HA : Hid (∀ W, Calls Try.prog 11 #[.int .i64 a] W fun e w' => e = .returned (.bool true) ∧ w' = W) := fun W => by have := unhide HI W a; rw [decide_eq_true ha] at this; exact this
  by_cases hb : intA b
  case neg =>
    have hr : intR op a b = (0, 2) := by unfold intR; rw [if_neg (fun h => hb h.2)]
    rw [hr]
    simp only
    have HB := hide (unhide HI w b)
    rw [decide_eq_false hb] at HB
    clear hb hr ha
    go_enter Try.func9, Try.ntmps9
    go_wp2_with fail
    refine (unhide HA w).mono ?_
    rintro e w1 ⟨rfl, rfl⟩
    go_wp2_with fail
    refine (unhide HB).mono ?_
    rintro e w1 ⟨rfl, rfl⟩
    go_wp2
    go_ret2
    exact ⟨rfl, rfl⟩
  have HB : Hid (∀ W, Calls Try.prog 11 #[.int .i64 b] W fun e w' => e = .returned (.bool true) ∧ w' = W) := fun W => by have := unhide HI W b; rw [decide_eq_true hb] at this; exact this
  have hR : intR op a b = of2 (op32 op a b) (op = 108 ∨ op = 112) b := by unfold intR; rw [if_pos ⟨ha, hb⟩]
  rw [hR]
  have HT : Hid (∀ W v, F2 op v → ∀ dv : Bool, (dv = true ↔ (op = 108 ∨ op = 112)) → Calls Try.prog 15 #[v, .bool dv, .int .i64 a, .int .i64 b] W fun e w' => e = .returned (.tuple #[.int .i64 (of2 (op32 op a b) (op = 108 ∨ op = 112) b).1, .int .i64 (of2 (op32 op a b) (op = 108 ∨ op = 112) b).2]) ∧ w' = W) := fun W v hv dv hd => i14ofTwoN_any W op v hv dv hd a b ha hb
  have HN := hide (i14narrowOfTwo_any w op)
  obtain ⟨r1, hr1⟩ : ∃ r1, (of2 (op32 op a b) (op = 108 ∨ op = 112) b).1 = r1 := ⟨_, rfl⟩
  obtain ⟨r2, hr2⟩ : ∃ r2, (of2 (op32 op a b) (op = 108 ∨ op = 112) b).2 = r2 := ⟨_, rfl⟩
  rw [hr1, hr2] at HT ⊢
  clear HI hR hr1 hr2
  by_cases h108 : op = 108
  · subst h108
    go_enter Try.func9, Try.ntmps9
    go_wp2_with fail
    refine (unhide HA _).mono ?_
    rintro e w1 ⟨rfl, rfl⟩
    go_wp2_with fail
    refine (unhide HB _).mono ?_
    rintro e w1 ⟨rfl, rfl⟩
    go_wp2_with fail
    refine (unhide HN).mono ?_
    rintro e w1 ⟨v, rfl, hv, rfl⟩
    have HT2 := hide (unhide HT w1 v hv true (by simp))
    clear hv
    go_wp2_with fail
    refine (unhide HT2).mono ?_
    rintro e w2 ⟨rfl, rfl⟩
    go_wp2
    go_ret2
    exact ⟨rfl, rfl⟩
  by_cases h112 : op = 112
  · subst h112
    go_enter Try.func9, Try.ntmps9
    go_wp2_with fail
    refine (unhide HA _).mono ?_
    rintro e w1 ⟨rfl, rfl⟩
    go_wp2_with fail
    refine (unhide HB _).mono ?_
    rintro e w1 ⟨rfl, rfl⟩
    go_wp2_with fail
    refine (unhide HN).mono ?_
    rintro e w1 ⟨v, rfl, hv, rfl⟩
    have HT2 := hide (unhide HT w1 v hv true (by simp))
    clear hv
    go_wp2_with fail
    refine (unhide HT2).mono ?_
    rintro e w2 ⟨rfl, rfl⟩
    go_wp2
    go_ret2
    exact ⟨rfl, rfl⟩
  have hd : Hid (¬ (op = 108 ∨ op = 112)) := by show ¬ _; omega
  have c108 := beq_ne h108
  have c112 := beq_ne h112
  clear h108 h112
  go_enter Try.func9, Try.ntmps9
  go_wp2_with fail
  refine (unhide HA _).mono ?_
  rintro e w1 ⟨rfl, rfl⟩
  go_wp2_with fail
  refine (unhide HB _).mono ?_
  rintro e w1 ⟨rfl, rfl⟩
  go_wp2_with fail
  refine (unhide HN).mono ?_
  rintro e w1 ⟨v, rfl, hv, rfl⟩
  have HT2 := hide (unhide HT w1 v hv false ⟨fun h => (Bool.noConfusion h), fun h => absurd h (unhide hd)⟩)
  clear hv
  go_wp2_with fail
  refine (unhide HT2).mono ?_
  rintro e w2 ⟨rfl, rfl⟩
  go_wp2
  go_ret2
  exact ⟨rfl, rfl⟩
theorem i14Long_any (w : World) (op a b : Int) (ha : lonA a) (hb : lonA b) : Calls Try.prog 8 #[.int .i64 op, .int .i64 a, .int .i64 b] w fun e w' => e = .returned (.tuple #[.int .i64 (lonR op a b).1, .int .i64 (lonR op a b).2]) ∧ w' = w := by
  unfold lonR
  have HT : Hid (∀ W v, G2 op v → ∀ dv : Bool, (dv = true ↔ (op = 109 ∨ op = 113)) → Calls Try.prog 13 #[v, .bool dv, .int .i64 a, .int .i64 b] W fun e w' => e = .returned (.tuple #[.int .i64 (of2 (op64 op a b) (op = 109 ∨ op = 113) b).1, .int .i64 (of2 (op64 op a b) (op = 109 ∨ op = 113) b).2]) ∧ w' = W) := fun W v hv dv hd => i14ofTwoW_any W op v hv dv hd a b ha hb
  have HN := hide (i14wideOfTwo_any w op)
  obtain ⟨r1, hr1⟩ : ∃ r1, (of2 (op64 op a b) (op = 109 ∨ op = 113) b).1 = r1 := ⟨_, rfl⟩
  obtain ⟨r2, hr2⟩ : ∃ r2, (of2 (op64 op a b) (op = 109 ∨ op = 113) b).2 = r2 := ⟨_, rfl⟩
  rw [hr1, hr2] at HT ⊢
  clear hr1 hr2
  by_cases h109 : op = 109
  · subst h109
    go_enter Try.func8, Try.ntmps8
    go_wp2_with fail
    refine (unhide HN).mono ?_
    rintro e w1 ⟨v, rfl, hv, rfl⟩
    have HT2 := hide (unhide HT w1 v hv true (by simp))
    clear hv
    go_wp2_with fail
    refine (unhide HT2).mono ?_
    rintro e w2 ⟨rfl, rfl⟩
    go_wp2
    go_ret2
    exact ⟨rfl, rfl⟩
  by_cases h113 : op = 113
  · subst h113
    go_enter Try.func8, Try.ntmps8
    go_wp2_with fail
    refine (unhide HN).mono ?_
    rintro e w1 ⟨v, rfl, hv, rfl⟩
    have HT2 := hide (unhide HT w1 v hv true (by simp))
    clear hv
    go_wp2_with fail
    refine (unhide HT2).mono ?_
    rintro e w2 ⟨rfl, rfl⟩
    go_wp2
    go_ret2
    exact ⟨rfl, rfl⟩
  have hd : Hid (¬ (op = 109 ∨ op = 113)) := by show ¬ _; omega
  have c109 := beq_ne h109
  have c113 := beq_ne h113
  clear h109 h113
  go_enter Try.func8, Try.ntmps8
  go_wp2_with fail
  refine (unhide HN).mono ?_
  rintro e w1 ⟨v, rfl, hv, rfl⟩
  have HT2 := hide (unhide HT w1 v hv false ⟨fun h => (Bool.noConfusion h), fun h => absurd h (unhide hd)⟩)
  clear hv
  go_wp2_with fail
  refine (unhide HT2).mono ?_
  rintro e w2 ⟨rfl, rfl⟩
  go_wp2
  go_ret2
  exact ⟨rfl, rfl⟩
theorem i14If_any (w : World) (op a b : Int) : Calls Try.prog 7 #[.int .i64 op, .int .i64 a, .int .i64 b] w fun e w' => e = .returned (.tuple #[.bool (ifR op a b).1, .int .i64 (ifR op a b).2]) ∧ w' = w := by
  have HI : Hid (∀ W x, Calls Try.prog 11 #[.int .i64 x] W fun e w' => e = .returned (.bool (decide (intA x))) ∧ w' = W) := fun W x => i14isInt_any W x
  have HC := hide (i14condition_any w op)
  have hnil : (∀ a b, cond32 op a b = none) → ifR op a b = (false, 2) := fun hn => by
    unfold ifR
    split
    · rw [hn]; rfl
    · rfl
  have Hnil := hide hnil
  clear hnil
  have j0 : ∀ W, (binOp .eql 33 (.nilFunc) .nilFunc).run Try.prog W = .ok (.bool true) W := fun W => by kernel_rfl
  have j1 : ∀ W g, (binOp .eql 33 (.func (.func g) #[] #[]) .nilFunc).run Try.prog W = .ok (.bool false) W := fun W g => rfl
  obtain ⟨r, hr⟩ : ∃ r, ifR op a b = r := ⟨_, rfl⟩
  rw [hr] at Hnil ⊢
  have HR := hide hr
  clear hr
  go_enter Try.func7, Try.ntmps7
  go_wp2_with fail
  refine (unhide HC).mono ?_
  rintro e w1 ⟨v, rfl, hv, rfl⟩
  rcases hv with ⟨rfl, hn⟩ | ⟨g, rfl, eg, hg⟩
  · have h1 := unhide Hnil hn
    subst h1
    clear hn
    go_wp2
    go_ret2
    exact ⟨rfl, rfl⟩
  have HG := hide hg
  have HE := hide eg
  clear hg eg Hnil
  by_cases ha : intA a
  case neg =>
    have hr2 : r = (false, 2) := by rw [← unhide HR]; unfold ifR; rw [if_neg (fun h => ha h.1)]
    have HA := hide (unhide HI w1 a)
    rw [decide_eq_false ha] at HA
    subst hr2
    clear ha
    go_wp2_with fail
    refine (unhide HA).mono ?_
    rintro e w2 ⟨rfl, rfl⟩
    go_wp2
    go_ret2
    exact ⟨rfl, rfl⟩
  have HA : Hid (∀ W, Calls Try.prog 11 #[.int .i64 a] W fun e w' => e = .returned (.bool true) ∧ w' = W) := fun W => by have := unhide HI W a; rw [decide_eq_true ha] at this; exact this
  by_cases hb : intA b
  case neg =>
    have hr2 : r = (false, 2) := by rw [← unhide HR]; unfold ifR; rw [if_neg (fun h => hb h.2)]
    have HB : Hid (∀ W, Calls Try.prog 11 #[.int .i64 b] W fun e w' => e = .returned (.bool false) ∧ w' = W) := fun W => by have := unhide HI W b; rw [decide_eq_false hb] at this; exact this
    subst hr2
    clear ha hb
    go_wp2_with fail
    refine (unhide HA _).mono ?_
    rintro e w2 ⟨rfl, rfl⟩
    go_wp2_with fail
    refine (unhide HB _).mono ?_
    rintro e w2 ⟨rfl, rfl⟩
    go_wp2
    go_ret2
    exact ⟨rfl, rfl⟩
  have HB : Hid (∀ W, Calls Try.prog 11 #[.int .i64 b] W fun e w' => e = .returned (.bool true) ∧ w' = W) := fun W => by have := unhide HI W b; rw [decide_eq_true hb] at this; exact this
  by_cases hlt : op < 159
  · obtain ⟨z, hz, _⟩ := unhide HG w1 a 0
    have hr2 : r = (z, 0) := by rw [← unhide HR]; unfold ifR; rw [if_pos ⟨ha, hb⟩, if_pos hlt, hz]; rfl
    have HO : Hid (∀ W, Calls Try.prog 12 #[.func (.func g) #[] #[], .int .i64 a, .int .i64 0] W fun e w' => e = .returned (.bool z) ∧ w' = W) := fun W => i14onTwoB_any W g (unhide HE) a 0 ha (by decide) z fun W' => by
      obtain ⟨z', hz', h⟩ := unhide HG W' a 0
      rw [hz] at hz'
      injection hz' with hz'
      subst hz'
      exact h
    subst hr2
    clear ha hb hz
    go_wp2_with fail
    refine (unhide HA _).mono ?_
    rintro e w2 ⟨rfl, rfl⟩
    go_wp2_with fail
    refine (unhide HB _).mono ?_
    rintro e w2 ⟨rfl, rfl⟩
    go_wp2_with fail
    refine (unhide HO _).mono ?_
    rintro e w2 ⟨rfl, rfl⟩
    go_wp2
    go_ret2
    exact ⟨rfl, rfl⟩
  · obtain ⟨z, hz, _⟩ := unhide HG w1 a b
    have hr2 : r = (z, 0) := by rw [← unhide HR]; unfold ifR; rw [if_pos ⟨ha, hb⟩, if_neg hlt, hz]; rfl
    have HO : Hid (∀ W, Calls Try.prog 12 #[.func (.func g) #[] #[], .int .i64 a, .int .i64 b] W fun e w' => e = .returned (.bool z) ∧ w' = W) := fun W => i14onTwoB_any W g (unhide HE) a b ha hb z fun W' => by
      obtain ⟨z', hz', h⟩ := unhide HG W' a b
      rw [hz] at hz'
      injection hz' with hz'
      subst hz'
      exact h
    subst hr2
    clear ha hb hz
    go_wp2_with fail
    refine (unhide HA _).mono ?_
    rintro e w2 ⟨rfl, rfl⟩
    go_wp2_with fail
    refine (unhide HB _).mono ?_
    rintro e w2 ⟨rfl, rfl⟩
    go_wp2_with fail
    refine (unhide HO _).mono ?_
    rintro e w2 ⟨rfl, rfl⟩
    go_wp2
    go_ret2
    exact ⟨rfl, rfl⟩
theorem ret2B {a b : Bool} {c : Int} (h : a = b) : Ending.returned (.tuple #[.bool a, .int .i64 c]) = .returned (.tuple #[.bool b, .int .i64 c]) := by rw [h]
theorem ne_dec (a b : Int) : (a != b) = decide (a ≠ b) := by by_cases h : a = b <;> simp [h]
theorem eq_dec (a b : Int) : (a == b) = decide (a = b) := by by_cases h : a = b <;> simp [h]
end Go.Proofs.Ytfjkclolnnoklab
