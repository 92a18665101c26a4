/- Layer 14: the landed Int, Long, One, If, and the document's If (written by mk/mkaih.py). -/
import Derived.Test.YtfjkclolnnoklaaAiE
import Derived.Test.YtfjkclolnnoklaaAiG
namespace Go.Proofs.Ytfjkclolnnoklaa
open Go.RowKit
set_option linter.unusedVariables false
set_option maxRecDepth 100000

theorem of2_lon {o : Option Int} {dv : Prop} [Decidable dv] {b : Int} (h : ∀ v, o = some v → lonA v) : lonA (of2 o dv b).1 := by
  cases o with
  | none => exact (show lonA 0 by decide)
  | some v =>
    unfold of2; dsimp only; split
    · exact (show lonA 0 by decide)
    · exact h v rfl
theorem i14Int_any (w : World) (op a b : Int) : Calls Try.prog 9 #[.int .i64 op, .int .i64 a, .int .i64 b] w fun e w' => e = .returned (.tuple #[.int .i64 (intR op a b).1, .int .i64 (intR op a b).2]) ∧ w' = w := by
  have HI : Hid (∀ W x, Calls Try.prog 23 #[.int .i64 x] W fun e w' => e = .returned (.bool (decide (intA x))) ∧ w' = W) := fun W x => i14isInt_any W x
  by_cases ha : intA a
  case neg =>
    have hr : intR op a b = (0, 2) := by unfold intR; rw [if_neg (fun h => ha h.1)]
    rw [hr]
    simp only
    have HA := hide (unhide HI w a)
    rw [decide_eq_false ha] at HA
    clear ha hr
    go_enter Try.func9, Try.ntmps9
    go_wp2_with fail
    refine (unhide HA).mono ?_
    rintro e w1 ⟨rfl, rfl⟩
    go_wp2
    go_ret2
    exact ⟨rfl, rfl⟩
  have HA : Hid (∀ W, Calls Try.prog 23 #[.int .i64 a] W fun e w' => e = .returned (.bool true) ∧ w' = W) := fun W => by have := unhide HI W a; rw [decide_eq_true ha] at this; exact this
  by_cases hb : intA b
  case neg =>
    have hr : intR op a b = (0, 2) := by unfold intR; rw [if_neg (fun h => hb h.2)]
    rw [hr]
    simp only
    have HB := hide (unhide HI w b)
    rw [decide_eq_false hb] at HB
    clear hb hr ha
    go_enter Try.func9, Try.ntmps9
    go_wp2_with fail
    refine (unhide HA w).mono ?_
    rintro e w1 ⟨rfl, rfl⟩
    go_wp2_with fail
    refine (unhide HB).mono ?_
    rintro e w1 ⟨rfl, rfl⟩
    go_wp2
    go_ret2
    exact ⟨rfl, rfl⟩
  have HB : Hid (∀ W, Calls Try.prog 23 #[.int .i64 b] W fun e w' => e = .returned (.bool true) ∧ w' = W) := fun W => by have := unhide HI W b; rw [decide_eq_true hb] at this; exact this
  have hR : intR op a b = of2 (op32 op a b) (op = 108 ∨ op = 112) b := by unfold intR; rw [if_pos ⟨ha, hb⟩]
  rw [hR]
  have HT : Hid (∀ W v, F2 op v → ∀ dv : Bool, (dv = true ↔ (op = 108 ∨ op = 112)) → Calls Try.prog 24 #[v, .bool dv, .int .i64 a, .int .i64 b] W fun e w' => e = .returned (.tuple #[.int .i64 (of2 (op32 op a b) (op = 108 ∨ op = 112) b).1, .int .i64 (of2 (op32 op a b) (op = 108 ∨ op = 112) b).2]) ∧ w' = W) := fun W v hv dv hd => i14ofTwoN_any W op v hv dv hd a b ha hb
  have HN := hide (i14narrowOfTwo_any w op)
  obtain ⟨r1, hr1⟩ : ∃ r1, (of2 (op32 op a b) (op = 108 ∨ op = 112) b).1 = r1 := ⟨_, rfl⟩
  obtain ⟨r2, hr2⟩ : ∃ r2, (of2 (op32 op a b) (op = 108 ∨ op = 112) b).2 = r2 := ⟨_, rfl⟩
  rw [hr1, hr2] at HT ⊢
  clear HI hR hr1 hr2
  by_cases h108 : op = 108
  · subst h108
    go_enter Try.func9, Try.ntmps9
    go_wp2_with fail
    refine (unhide HA _).mono ?_
    rintro e w1 ⟨rfl, rfl⟩
    go_wp2_with fail
    refine (unhide HB _).mono ?_
    rintro e w1 ⟨rfl, rfl⟩
    go_wp2_with fail
    refine (unhide HN).mono ?_
    rintro e w1 ⟨v, rfl, hv, rfl⟩
    have HT2 := hide (unhide HT w1 v hv true (by simp))
    clear hv
    go_wp2_with fail
    refine (unhide HT2).mono ?_
    rintro e w2 ⟨rfl, rfl⟩
    go_wp2
    go_ret2
    exact ⟨rfl, rfl⟩
  by_cases h112 : op = 112
  · subst h112
    go_enter Try.func9, Try.ntmps9
    go_wp2_with fail
    refine (unhide HA _).mono ?_
    rintro e w1 ⟨rfl, rfl⟩
    go_wp2_with fail
    refine (unhide HB _).mono ?_
    rintro e w1 ⟨rfl, rfl⟩
    go_wp2_with fail
    refine (unhide HN).mono ?_
    rintro e w1 ⟨v, rfl, hv, rfl⟩
    have HT2 := hide (unhide HT w1 v hv true (by simp))
    clear hv
    go_wp2_with fail
    refine (unhide HT2).mono ?_
    rintro e w2 ⟨rfl, rfl⟩
    go_wp2
    go_ret2
    exact ⟨rfl, rfl⟩
  have hd : Hid (¬ (op = 108 ∨ op = 112)) := by show ¬ _; omega
  have c108 := beq_ne h108
  have c112 := beq_ne h112
  clear h108 h112
  go_enter Try.func9, Try.ntmps9
  go_wp2_with fail
  refine (unhide HA _).mono ?_
  rintro e w1 ⟨rfl, rfl⟩
  go_wp2_with fail
  refine (unhide HB _).mono ?_
  rintro e w1 ⟨rfl, rfl⟩
  go_wp2_with fail
  refine (unhide HN).mono ?_
  rintro e w1 ⟨v, rfl, hv, rfl⟩
  have HT2 := hide (unhide HT w1 v hv false ⟨fun h => (Bool.noConfusion h), fun h => absurd h (unhide hd)⟩)
  clear hv
  go_wp2_with fail
  refine (unhide HT2).mono ?_
  rintro e w2 ⟨rfl, rfl⟩
  go_wp2
  go_ret2
  exact ⟨rfl, rfl⟩
theorem i14Long_any (w : World) (op a b : Int) (ha : lonA a) (hb : lonA b) : Calls Try.prog 14 #[.int .i64 op, .int .i64 a, .int .i64 b] w fun e w' => e = .returned (.tuple #[.int .i64 (lonR op a b).1, .int .i64 (lonR op a b).2]) ∧ w' = w := by
  unfold lonR
  have HT : Hid (∀ W v, G2 op v → ∀ dv : Bool, (dv = true ↔ (op = 109 ∨ op = 113)) → Calls Try.prog 30 #[v, .bool dv, .int .i64 a, .int .i64 b] W fun e w' => e = .returned (.tuple #[.int .i64 (of2 (op64 op a b) (op = 109 ∨ op = 113) b).1, .int .i64 (of2 (op64 op a b) (op = 109 ∨ op = 113) b).2]) ∧ w' = W) := fun W v hv dv hd => i14ofTwoW_any W op v hv dv hd a b ha hb
  have HN := hide (i14wideOfTwo_any w op)
  obtain ⟨r1, hr1⟩ : ∃ r1, (of2 (op64 op a b) (op = 109 ∨ op = 113) b).1 = r1 := ⟨_, rfl⟩
  obtain ⟨r2, hr2⟩ : ∃ r2, (of2 (op64 op a b) (op = 109 ∨ op = 113) b).2 = r2 := ⟨_, rfl⟩
  rw [hr1, hr2] at HT ⊢
  clear hr1 hr2
  by_cases h109 : op = 109
  · subst h109
    go_enter Try.func14, Try.ntmps14
    go_wp2_with fail
    refine (unhide HN).mono ?_
    rintro e w1 ⟨v, rfl, hv, rfl⟩
    have HT2 := hide (unhide HT w1 v hv true (by simp))
    clear hv
    go_wp2_with fail
    refine (unhide HT2).mono ?_
    rintro e w2 ⟨rfl, rfl⟩
    go_wp2
    go_ret2
    exact ⟨rfl, rfl⟩
  by_cases h113 : op = 113
  · subst h113
    go_enter Try.func14, Try.ntmps14
    go_wp2_with fail
    refine (unhide HN).mono ?_
    rintro e w1 ⟨v, rfl, hv, rfl⟩
    have HT2 := hide (unhide HT w1 v hv true (by simp))
    clear hv
    go_wp2_with fail
    refine (unhide HT2).mono ?_
    rintro e w2 ⟨rfl, rfl⟩
    go_wp2
    go_ret2
    exact ⟨rfl, rfl⟩
  have hd : Hid (¬ (op = 109 ∨ op = 113)) := by show ¬ _; omega
  have c109 := beq_ne h109
  have c113 := beq_ne h113
  clear h109 h113
  go_enter Try.func14, Try.ntmps14
  go_wp2_with fail
  refine (unhide HN).mono ?_
  rintro e w1 ⟨v, rfl, hv, rfl⟩
  have HT2 := hide (unhide HT w1 v hv false ⟨fun h => (Bool.noConfusion h), fun h => absurd h (unhide hd)⟩)
  clear hv
  go_wp2_with fail
  refine (unhide HT2).mono ?_
  rintro e w2 ⟨rfl, rfl⟩
  go_wp2
  go_ret2
  exact ⟨rfl, rfl⟩
theorem i14One_any (w : World) (op a : Int) (hl : lonA a) : Calls Try.prog 16 #[.int .i64 op, .int .i64 a] w fun e w' => e = .returned (.tuple #[.int .i64 (oneR op a).1, .int .i64 (oneR op a).2]) ∧ w' = w := by
  have HI : Hid (∀ W, Calls Try.prog 23 #[.int .i64 a] W fun e w' => e = .returned (.bool (decide (intA a))) ∧ w' = W) := fun W => i14isInt_any W a
  have HW := hide (i14wideOfOne_any w op)
  by_cases h : op = 117 ∨ op = 136
  · have hr : oneR op a = of1 (one64 op a) := by unfold oneR; rw [if_pos h]
    rw [hr]
    have HO : Hid (∀ W v, G1 op v → Calls Try.prog 33 #[v, .int .i64 a] W fun e w' => e = .returned (.tuple #[.int .i64 (of1 (one64 op a)).1, .int .i64 (of1 (one64 op a)).2]) ∧ w' = W) := fun W v hv => i14ofOneW_any W op v hv a hl h
    obtain ⟨r1, hr1⟩ : ∃ r1, (of1 (one64 op a)).1 = r1 := ⟨_, rfl⟩
    obtain ⟨r2, hr2⟩ : ∃ r2, (of1 (one64 op a)).2 = r2 := ⟨_, rfl⟩
    rw [hr1, hr2] at HO ⊢
    have Hh := hide h
    clear hr hr1 hr2 h
    go_enter Try.func16, Try.ntmps16
    go_wp2_with fail
    refine (unhide HW).mono ?_
    rintro e w1 ⟨v, rfl, hv, rfl⟩
    have HO2 := hide (unhide HO w1 v hv)
    rcases hv with ⟨rfl, hn⟩ | ⟨g, rfl, eg, hg⟩
    · exact absurd (unhide Hh) hn
    have j0 : ∀ W, (binOp .neq 46 (.func (.func g) #[] #[]) .nilFunc).run Try.prog W = .ok (.bool true) W := fun W => rfl
    clear eg hg
    go_wp2_with fail
    refine (unhide HO2).mono ?_
    rintro e w2 ⟨rfl, rfl⟩
    go_wp2
    go_ret2
    exact ⟨rfl, rfl⟩
  have j0 : ∀ W, (binOp .neq 46 (.nilFunc) .nilFunc).run Try.prog W = .ok (.bool false) W := fun W => by kernel_rfl
  have Hh := hide h
  by_cases ha : intA a
  case neg =>
    have hr : oneR op a = (0, 2) := by unfold oneR; rw [if_neg h, if_neg ha]
    rw [hr]
    simp only
    rw [decide_eq_false ha] at HI
    clear h hr ha
    go_enter Try.func16, Try.ntmps16
    go_wp2_with fail
    refine (unhide HW).mono ?_
    rintro e w1 ⟨v, rfl, hv, rfl⟩
    rcases hv with ⟨rfl, hn⟩ | ⟨g, rfl, eg, hg⟩
    case inr => exact absurd hg.1 (unhide Hh)
    clear hn
    go_wp2_with fail
    refine (unhide HI _).mono ?_
    rintro e w2 ⟨rfl, rfl⟩
    go_wp2
    go_ret2
    exact ⟨rfl, rfl⟩
  have hr : oneR op a = of1 (one32 op a) := by unfold oneR; rw [if_neg h, if_pos ha]
  rw [hr]
  rw [decide_eq_true ha] at HI
  have HO : Hid (∀ W v, F1 op v → Calls Try.prog 34 #[v, .int .i64 a] W fun e w' => e = .returned (.tuple #[.int .i64 (of1 (one32 op a)).1, .int .i64 (of1 (one32 op a)).2]) ∧ w' = W) := fun W v hv => i14ofOneN_any W op v hv a ha
  have HN : Hid (∀ W, Calls Try.prog 35 #[.int .i64 op] W fun e w' => ∃ v, e = .returned v ∧ F1 op v ∧ w' = W) := fun W => i14narrowOfOne_any W op
  obtain ⟨r1, hr1⟩ : ∃ r1, (of1 (one32 op a)).1 = r1 := ⟨_, rfl⟩
  obtain ⟨r2, hr2⟩ : ∃ r2, (of1 (one32 op a)).2 = r2 := ⟨_, rfl⟩
  rw [hr1, hr2] at HO ⊢
  clear hr hr1 hr2 h ha
  go_enter Try.func16, Try.ntmps16
  go_wp2_with fail
  refine (unhide HW).mono ?_
  rintro e w1 ⟨v, rfl, hv, rfl⟩
  rcases hv with ⟨rfl, hn⟩ | ⟨g, rfl, eg, hg⟩
  case inr => exact absurd hg.1 (unhide Hh)
  clear hn
  go_wp2_with fail
  refine (unhide HI _).mono ?_
  rintro e w2 ⟨rfl, rfl⟩
  go_wp2_with fail
  refine (unhide HN _).mono ?_
  rintro e w3 ⟨v, rfl, hv, rfl⟩
  have HO2 := hide (unhide HO w3 v hv)
  clear hv
  go_wp2_with fail
  refine (unhide HO2).mono ?_
  rintro e w4 ⟨rfl, rfl⟩
  go_wp2
  go_ret2
  exact ⟨rfl, rfl⟩
theorem i14If_any (w : World) (op a b : Int) : Calls Try.prog 18 #[.int .i64 op, .int .i64 a, .int .i64 b] w fun e w' => e = .returned (.tuple #[.bool (ifR op a b).1, .int .i64 (ifR op a b).2]) ∧ w' = w := by
  have HI : Hid (∀ W x, Calls Try.prog 23 #[.int .i64 x] W fun e w' => e = .returned (.bool (decide (intA x))) ∧ w' = W) := fun W x => i14isInt_any W x
  have HC := hide (i14condition_any w op)
  have hnil : (∀ a b, cond32 op a b = none) → ifR op a b = (false, 2) := fun hn => by
    unfold ifR
    split
    · rw [hn]; rfl
    · rfl
  have Hnil := hide hnil
  clear hnil
  have j0 : ∀ W, (binOp .eql 52 (.nilFunc) .nilFunc).run Try.prog W = .ok (.bool true) W := fun W => by kernel_rfl
  have j1 : ∀ W g, (binOp .eql 52 (.func (.func g) #[] #[]) .nilFunc).run Try.prog W = .ok (.bool false) W := fun W g => rfl
  obtain ⟨r, hr⟩ : ∃ r, ifR op a b = r := ⟨_, rfl⟩
  rw [hr] at Hnil ⊢
  have HR := hide hr
  clear hr
  go_enter Try.func18, Try.ntmps18
  go_wp2_with fail
  refine (unhide HC).mono ?_
  rintro e w1 ⟨v, rfl, hv, rfl⟩
  rcases hv with ⟨rfl, hn⟩ | ⟨g, rfl, eg, hg⟩
  · have h1 := unhide Hnil hn
    subst h1
    clear hn
    go_wp2
    go_ret2
    exact ⟨rfl, rfl⟩
  have HG := hide hg
  have HE := hide eg
  clear hg eg Hnil
  by_cases ha : intA a
  case neg =>
    have hr2 : r = (false, 2) := by rw [← unhide HR]; unfold ifR; rw [if_neg (fun h => ha h.1)]
    have HA := hide (unhide HI w1 a)
    rw [decide_eq_false ha] at HA
    subst hr2
    clear ha
    go_wp2_with fail
    refine (unhide HA).mono ?_
    rintro e w2 ⟨rfl, rfl⟩
    go_wp2
    go_ret2
    exact ⟨rfl, rfl⟩
  have HA : Hid (∀ W, Calls Try.prog 23 #[.int .i64 a] W fun e w' => e = .returned (.bool true) ∧ w' = W) := fun W => by have := unhide HI W a; rw [decide_eq_true ha] at this; exact this
  by_cases hb : intA b
  case neg =>
    have hr2 : r = (false, 2) := by rw [← unhide HR]; unfold ifR; rw [if_neg (fun h => hb h.2)]
    have HB : Hid (∀ W, Calls Try.prog 23 #[.int .i64 b] W fun e w' => e = .returned (.bool false) ∧ w' = W) := fun W => by have := unhide HI W b; rw [decide_eq_false hb] at this; exact this
    subst hr2
    clear ha hb
    go_wp2_with fail
    refine (unhide HA _).mono ?_
    rintro e w2 ⟨rfl, rfl⟩
    go_wp2_with fail
    refine (unhide HB _).mono ?_
    rintro e w2 ⟨rfl, rfl⟩
    go_wp2
    go_ret2
    exact ⟨rfl, rfl⟩
  have HB : Hid (∀ W, Calls Try.prog 23 #[.int .i64 b] W fun e w' => e = .returned (.bool true) ∧ w' = W) := fun W => by have := unhide HI W b; rw [decide_eq_true hb] at this; exact this
  by_cases hlt : op < 159
  · obtain ⟨z, hz, _⟩ := unhide HG w1 a 0
    have hr2 : r = (z, 0) := by rw [← unhide HR]; unfold ifR; rw [if_pos ⟨ha, hb⟩, if_pos hlt, hz]; rfl
    have HO : Hid (∀ W, Calls Try.prog 39 #[.func (.func g) #[] #[], .int .i64 a, .int .i64 0] W fun e w' => e = .returned (.bool z) ∧ w' = W) := fun W => i14onTwoB_any W g (unhide HE) a 0 ha (by decide) z fun W' => by
      obtain ⟨z', hz', h⟩ := unhide HG W' a 0
      rw [hz] at hz'
      injection hz' with hz'
      subst hz'
      exact h
    subst hr2
    clear ha hb hz
    go_wp2_with fail
    refine (unhide HA _).mono ?_
    rintro e w2 ⟨rfl, rfl⟩
    go_wp2_with fail
    refine (unhide HB _).mono ?_
    rintro e w2 ⟨rfl, rfl⟩
    go_wp2_with fail
    refine (unhide HO _).mono ?_
    rintro e w2 ⟨rfl, rfl⟩
    go_wp2
    go_ret2
    exact ⟨rfl, rfl⟩
  · obtain ⟨z, hz, _⟩ := unhide HG w1 a b
    have hr2 : r = (z, 0) := by rw [← unhide HR]; unfold ifR; rw [if_pos ⟨ha, hb⟩, if_neg hlt, hz]; rfl
    have HO : Hid (∀ W, Calls Try.prog 39 #[.func (.func g) #[] #[], .int .i64 a, .int .i64 b] W fun e w' => e = .returned (.bool z) ∧ w' = W) := fun W => i14onTwoB_any W g (unhide HE) a b ha hb z fun W' => by
      obtain ⟨z', hz', h⟩ := unhide HG W' a b
      rw [hz] at hz'
      injection hz' with hz'
      subst hz'
      exact h
    subst hr2
    clear ha hb hz
    go_wp2_with fail
    refine (unhide HA _).mono ?_
    rintro e w2 ⟨rfl, rfl⟩
    go_wp2_with fail
    refine (unhide HB _).mono ?_
    rintro e w2 ⟨rfl, rfl⟩
    go_wp2_with fail
    refine (unhide HO _).mono ?_
    rintro e w2 ⟨rfl, rfl⟩
    go_wp2
    go_ret2
    exact ⟨rfl, rfl⟩
theorem ret2B {a b : Bool} {c : Int} (h : a = b) : Ending.returned (.tuple #[.bool a, .int .i64 c]) = .returned (.tuple #[.bool b, .int .i64 c]) := by rw [h]
theorem ne_dec (a b : Int) : (a != b) = decide (a ≠ b) := by by_cases h : a = b <;> simp [h]
theorem eq_dec (a b : Int) : (a == b) = decide (a = b) := by by_cases h : a = b <;> simp [h]
set_option maxHeartbeats 1600000 in
theorem r14If_any (w : World) (op a b : Int) : Calls Try.prog 19 #[.int .i64 op, .int .i64 a, .int .i64 b] w fun e w' => e = .returned (.tuple #[.bool (ifR op a b).1, .int .i64 (ifR op a b).2]) ∧ w' = w := by
  have HI : Hid (∀ W x, Calls Try.prog 26 #[.int .i64 x] W fun e w' => e = .returned (.bool (decide (intA x))) ∧ w' = W) := fun W x => r14is_any W x
  by_cases ha : intA a
  case neg =>
    have hr : ifR op a b = (false, 2) := by unfold ifR; rw [if_neg (fun h => ha h.1)]
    rw [hr]
    simp only
    have HA := hide (unhide HI w a)
    rw [decide_eq_false ha] at HA
    clear ha hr
    go_enter Try.func19, Try.ntmps19
    go_wp2_with fail
    refine (unhide HA).mono ?_
    rintro e w1 ⟨rfl, rfl⟩
    go_wp2
    go_ret2
    exact ⟨rfl, rfl⟩
  have HA : Hid (∀ W, Calls Try.prog 26 #[.int .i64 a] W fun e w' => e = .returned (.bool true) ∧ w' = W) := fun W => by have := unhide HI W a; rw [decide_eq_true ha] at this; exact this
  by_cases hb : intA b
  case neg =>
    have hr : ifR op a b = (false, 2) := by unfold ifR; rw [if_neg (fun h => hb h.2)]
    rw [hr]
    simp only
    have HB := hide (unhide HI w b)
    rw [decide_eq_false hb] at HB
    clear hb hr ha
    go_enter Try.func19, Try.ntmps19
    go_wp2_with fail
    refine (unhide HA w).mono ?_
    rintro e w1 ⟨rfl, rfl⟩
    go_wp2_with fail
    refine (unhide HB).mono ?_
    rintro e w1 ⟨rfl, rfl⟩
    go_wp2
    go_ret2
    exact ⟨rfl, rfl⟩
  have HB : Hid (∀ W, Calls Try.prog 26 #[.int .i64 b] W fun e w' => e = .returned (.bool true) ∧ w' = W) := fun W => by have := unhide HI W b; rw [decide_eq_true hb] at this; exact this
  have hR : ifR op a b = ifV (cond32 op a (if op < 159 then 0 else b)) := by unfold ifR; rw [if_pos ⟨ha, hb⟩]
  rw [hR]
  clear hR ha hb HI
  by_cases h153 : op = 153
  · subst h153
    show Calls _ _ _ _ fun e w' => e = .returned (.tuple #[.bool (decide (a = 0)), .int .i64 0]) ∧ w' = w
    go_enter Try.func19, Try.ntmps19
    go_wp2_with fail
    refine (unhide HA _).mono ?_
    rintro e w1 ⟨rfl, rfl⟩
    go_wp2_with fail
    refine (unhide HB _).mono ?_
    rintro e w1 ⟨rfl, rfl⟩
    go_wp2
    go_ret2
    exact ⟨by first | rfl | exact ret2B (by first | rfl | exact eq_dec _ _ | exact ne_dec _ _), rfl⟩
  by_cases h159 : op = 159
  · subst h159
    show Calls _ _ _ _ fun e w' => e = .returned (.tuple #[.bool (decide (a = b)), .int .i64 0]) ∧ w' = w
    go_enter Try.func19, Try.ntmps19
    go_wp2_with fail
    refine (unhide HA _).mono ?_
    rintro e w1 ⟨rfl, rfl⟩
    go_wp2_with fail
    refine (unhide HB _).mono ?_
    rintro e w1 ⟨rfl, rfl⟩
    go_wp2
    go_ret2
    exact ⟨by first | rfl | exact ret2B (by first | rfl | exact eq_dec _ _ | exact ne_dec _ _), rfl⟩
  by_cases h154 : op = 154
  · subst h154
    show Calls _ _ _ _ fun e w' => e = .returned (.tuple #[.bool (decide (a ≠ 0)), .int .i64 0]) ∧ w' = w
    go_enter Try.func19, Try.ntmps19
    go_wp2_with fail
    refine (unhide HA _).mono ?_
    rintro e w1 ⟨rfl, rfl⟩
    go_wp2_with fail
    refine (unhide HB _).mono ?_
    rintro e w1 ⟨rfl, rfl⟩
    go_wp2
    go_ret2
    exact ⟨by first | rfl | exact ret2B (by first | rfl | exact eq_dec _ _ | exact ne_dec _ _), rfl⟩
  by_cases h160 : op = 160
  · subst h160
    show Calls _ _ _ _ fun e w' => e = .returned (.tuple #[.bool (decide (a ≠ b)), .int .i64 0]) ∧ w' = w
    go_enter Try.func19, Try.ntmps19
    go_wp2_with fail
    refine (unhide HA _).mono ?_
    rintro e w1 ⟨rfl, rfl⟩
    go_wp2_with fail
    refine (unhide HB _).mono ?_
    rintro e w1 ⟨rfl, rfl⟩
    go_wp2
    go_ret2
    exact ⟨by first | rfl | exact ret2B (by first | rfl | exact eq_dec _ _ | exact ne_dec _ _), rfl⟩
  by_cases h155 : op = 155
  · subst h155
    show Calls _ _ _ _ fun e w' => e = .returned (.tuple #[.bool (decide (a < 0)), .int .i64 0]) ∧ w' = w
    go_enter Try.func19, Try.ntmps19
    go_wp2_with fail
    refine (unhide HA _).mono ?_
    rintro e w1 ⟨rfl, rfl⟩
    go_wp2_with fail
    refine (unhide HB _).mono ?_
    rintro e w1 ⟨rfl, rfl⟩
    go_wp2
    go_ret2
    exact ⟨by first | rfl | exact ret2B (by first | rfl | exact eq_dec _ _ | exact ne_dec _ _), rfl⟩
  by_cases h161 : op = 161
  · subst h161
    show Calls _ _ _ _ fun e w' => e = .returned (.tuple #[.bool (decide (a < b)), .int .i64 0]) ∧ w' = w
    go_enter Try.func19, Try.ntmps19
    go_wp2_with fail
    refine (unhide HA _).mono ?_
    rintro e w1 ⟨rfl, rfl⟩
    go_wp2_with fail
    refine (unhide HB _).mono ?_
    rintro e w1 ⟨rfl, rfl⟩
    go_wp2
    go_ret2
    exact ⟨by first | rfl | exact ret2B (by first | rfl | exact eq_dec _ _ | exact ne_dec _ _), rfl⟩
  by_cases h156 : op = 156
  · subst h156
    show Calls _ _ _ _ fun e w' => e = .returned (.tuple #[.bool (decide (0 ≤ a)), .int .i64 0]) ∧ w' = w
    go_enter Try.func19, Try.ntmps19
    go_wp2_with fail
    refine (unhide HA _).mono ?_
    rintro e w1 ⟨rfl, rfl⟩
    go_wp2_with fail
    refine (unhide HB _).mono ?_
    rintro e w1 ⟨rfl, rfl⟩
    go_wp2
    go_ret2
    exact ⟨by first | rfl | exact ret2B (by first | rfl | exact eq_dec _ _ | exact ne_dec _ _), rfl⟩
  by_cases h162 : op = 162
  · subst h162
    show Calls _ _ _ _ fun e w' => e = .returned (.tuple #[.bool (decide (b ≤ a)), .int .i64 0]) ∧ w' = w
    go_enter Try.func19, Try.ntmps19
    go_wp2_with fail
    refine (unhide HA _).mono ?_
    rintro e w1 ⟨rfl, rfl⟩
    go_wp2_with fail
    refine (unhide HB _).mono ?_
    rintro e w1 ⟨rfl, rfl⟩
    go_wp2
    go_ret2
    exact ⟨by first | rfl | exact ret2B (by first | rfl | exact eq_dec _ _ | exact ne_dec _ _), rfl⟩
  by_cases h157 : op = 157
  · subst h157
    show Calls _ _ _ _ fun e w' => e = .returned (.tuple #[.bool (decide (0 < a)), .int .i64 0]) ∧ w' = w
    go_enter Try.func19, Try.ntmps19
    go_wp2_with fail
    refine (unhide HA _).mono ?_
    rintro e w1 ⟨rfl, rfl⟩
    go_wp2_with fail
    refine (unhide HB _).mono ?_
    rintro e w1 ⟨rfl, rfl⟩
    go_wp2
    go_ret2
    exact ⟨by first | rfl | exact ret2B (by first | rfl | exact eq_dec _ _ | exact ne_dec _ _), rfl⟩
  by_cases h163 : op = 163
  · subst h163
    show Calls _ _ _ _ fun e w' => e = .returned (.tuple #[.bool (decide (b < a)), .int .i64 0]) ∧ w' = w
    go_enter Try.func19, Try.ntmps19
    go_wp2_with fail
    refine (unhide HA _).mono ?_
    rintro e w1 ⟨rfl, rfl⟩
    go_wp2_with fail
    refine (unhide HB _).mono ?_
    rintro e w1 ⟨rfl, rfl⟩
    go_wp2
    go_ret2
    exact ⟨by first | rfl | exact ret2B (by first | rfl | exact eq_dec _ _ | exact ne_dec _ _), rfl⟩
  by_cases h158 : op = 158
  · subst h158
    show Calls _ _ _ _ fun e w' => e = .returned (.tuple #[.bool (decide (a ≤ 0)), .int .i64 0]) ∧ w' = w
    go_enter Try.func19, Try.ntmps19
    go_wp2_with fail
    refine (unhide HA _).mono ?_
    rintro e w1 ⟨rfl, rfl⟩
    go_wp2_with fail
    refine (unhide HB _).mono ?_
    rintro e w1 ⟨rfl, rfl⟩
    go_wp2
    go_ret2
    exact ⟨by first | rfl | exact ret2B (by first | rfl | exact eq_dec _ _ | exact ne_dec _ _), rfl⟩
  by_cases h164 : op = 164
  · subst h164
    show Calls _ _ _ _ fun e w' => e = .returned (.tuple #[.bool (decide (a ≤ b)), .int .i64 0]) ∧ w' = w
    go_enter Try.func19, Try.ntmps19
    go_wp2_with fail
    refine (unhide HA _).mono ?_
    rintro e w1 ⟨rfl, rfl⟩
    go_wp2_with fail
    refine (unhide HB _).mono ?_
    rintro e w1 ⟨rfl, rfl⟩
    go_wp2
    go_ret2
    exact ⟨by first | rfl | exact ret2B (by first | rfl | exact eq_dec _ _ | exact ne_dec _ _), rfl⟩
  have hv : ifV (cond32 op a (if op < 159 then 0 else b)) = (false, 2) := by
    have : cond32 op a (if op < 159 then 0 else b) = none := by unfold cond32; simp only [h153, h154, h155, h156, h157, h158, h159, h160, h161, h162, h163, h164, or_self, if_false]
    rw [this]; rfl
  rw [hv]
  clear hv
  simp only
  have hc : op < 153 ∨ 164 < op := by omega
  clear h153 h154 h155 h156 h157 h158 h159 h160 h161 h162 h163 h164
  rcases hc with hc | hc
  ·
    go_enter Try.func19, Try.ntmps19
    go_wp2_with fail
    refine (unhide HA _).mono ?_
    rintro e w1 ⟨rfl, rfl⟩
    go_wp2_with fail
    refine (unhide HB _).mono ?_
    rintro e w1 ⟨rfl, rfl⟩
    go_wp2
    go_ret2
    exact ⟨rfl, rfl⟩
  · have hc2 : ¬ op < 153 := by omega
    go_enter Try.func19, Try.ntmps19
    go_wp2_with fail
    refine (unhide HA _).mono ?_
    rintro e w1 ⟨rfl, rfl⟩
    go_wp2_with fail
    refine (unhide HB _).mono ?_
    rintro e w1 ⟨rfl, rfl⟩
    go_wp2
    go_ret2
    exact ⟨rfl, rfl⟩
end Go.Proofs.Ytfjkclolnnoklaa
