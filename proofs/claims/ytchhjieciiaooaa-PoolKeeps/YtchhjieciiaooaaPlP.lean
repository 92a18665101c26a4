/- The document's own pool: utf, right. -/
import Derived.Test.YtchhjieciiaooaaPlO
namespace Go.Proofs.Ytchhjieciiaooaa
open Go.RowKit
set_option linter.unusedVariables false

set_option maxHeartbeats 1600000 in
theorem jutf_any (w : World) (a : Option Addr) (n c : Nat) (l : List Ent) (h : EArg w a n c l) (s : List UInt8) (hn : n ≤ 100000) :
    Calls Try.prog 52 #[.slice a n c, .string ⟨s.toArray⟩] w fun e w' => ∃ a' c', e = .returned (.tuple #[.slice a' (addE l (eUtf s)).1.length c', .int .i64 ((addE l (eUtf s)).2 : Int)]) ∧ EArg w' a' (addE l (eUtf s)).1.length c' (addE l (eUtf s)).1 ∧ Below w.heap.size w w' := by
  have H := hide (jadd_any w a n c l h (eUtf s) hn)
  clear h
  generalize (addE l (eUtf s)).2 = K at *
  generalize (addE l (eUtf s)).1 = L at *
  unfold entV eUtf at *
  go_enter Try.func52, Try.ntmps52
  go_wp2_with fail
  refine (unhide H).mono ?_
  rintro e w1 ⟨a1, c1, rfl, r1, f1⟩
  have R := hide r1
  have F := hide f1
  clear r1 f1 H
  go_wp2
  go_ret2
  exact ⟨_, _, rfl, unhide R, unhide F⟩

def cstV (c : Cst) : Value := .agg #[.int .i64 c.tag, .int .i64 c.n, .string ⟨c.cls.toArray⟩, .string ⟨c.name.toArray⟩, .string ⟨c.type.toArray⟩]
theorem cst_cmp (w : World) (x y : Cst) :
    (binOp .eql 50 (.agg #[.int .i64 x.tag, .int .i64 x.n, .string ⟨x.cls.toArray⟩, .string ⟨x.name.toArray⟩, .string ⟨x.type.toArray⟩]) (.agg #[.int .i64 y.tag, .int .i64 y.n, .string ⟨y.cls.toArray⟩, .string ⟨y.name.toArray⟩, .string ⟨y.type.toArray⟩])).run Try.prog w = .ok (.bool (decide (x = y))) w := by
  rw [run_eql_struct]
  go_simp
  have e := Cst.eq_iff x y
  have e1 := str_eq x.cls y.cls
  have e2 := str_eq x.name y.name
  have e3 := str_eq x.type y.type
  repeat' split
  all_goals
    congr 2
    simp only [Bool.true_eq, Bool.false_eq, decide_eq_true_eq, decide_eq_false_iff_not, ← e, ← e1, ← e2, ← e3]
    simp_all
theorem cst_cmpN (w : World) (x y : Cst) :
    (binOp .neq 50 (.agg #[.int .i64 x.tag, .int .i64 x.n, .string ⟨x.cls.toArray⟩, .string ⟨x.name.toArray⟩, .string ⟨x.type.toArray⟩]) (.agg #[.int .i64 y.tag, .int .i64 y.n, .string ⟨y.cls.toArray⟩, .string ⟨y.name.toArray⟩, .string ⟨y.type.toArray⟩])).run Try.prog w = .ok (.bool (!decide (x = y))) w := by
  have h := cst_cmp w x y
  rw [run_eql_struct] at h
  rw [run_neq_struct]
  cases hq : (Op.equalIn 10000 50 (.agg #[.int .i64 x.tag, .int .i64 x.n, .string ⟨x.cls.toArray⟩, .string ⟨x.name.toArray⟩, .string ⟨x.type.toArray⟩]) (.agg #[.int .i64 y.tag, .int .i64 y.n, .string ⟨y.cls.toArray⟩, .string ⟨y.name.toArray⟩, .string ⟨y.type.toArray⟩])).run Try.prog w with
  | ok b w' =>
    rw [hq] at h
    simp only [Result.andThen_ok, Result.ok.injEq, Value.bool.injEq] at h
    rw [h.1, h.2]
    rfl
  | halt h1 w' =>
    rw [hq] at h
    simp [Result.andThen] at h
theorem cstC {w : World} {q : Nat} {x : Cst} {T : TypeId} {f : Nat × Nat} (h : w.heap[q]? = some (.cells #[.int .i64 x.tag, .int .i64 x.n, .string ⟨x.cls.toArray⟩, .string ⟨x.name.toArray⟩, .string ⟨x.type.toArray⟩] T f)) :
    w.cell? ⟨q, 0, none⟩ = some (.int .i64 x.tag) ∧ w.cell? ⟨q, 1, none⟩ = some (.int .i64 x.n) ∧ w.cell? ⟨q, 2, none⟩ = some (.string ⟨x.cls.toArray⟩) ∧ w.cell? ⟨q, 3, none⟩ = some (.string ⟨x.name.toArray⟩) ∧ w.cell? ⟨q, 4, none⟩ = some (.string ⟨x.type.toArray⟩) :=
  ⟨by rw [cell_of_row _ _ _ _ _ _ h]; rfl, by rw [cell_of_row _ _ _ _ _ _ h]; rfl, by rw [cell_of_row _ _ _ _ _ _ h]; rfl, by rw [cell_of_row _ _ _ _ _ _ h]; rfl, by rw [cell_of_row _ _ _ _ _ _ h]; rfl⟩
def CstFit (c : Cst) : Prop := (-9223372036854775808 ≤ c.tag ∧ c.tag ≤ 9223372036854775807) ∧ (-9223372036854775808 ≤ c.n ∧ c.n ≤ 9223372036854775807) ∧ c.cls.length ≤ 140737488355328 ∧ c.name.length ≤ 140737488355328 ∧ c.type.length ≤ 140737488355328

set_option maxHeartbeats 3200000 in
set_option maxRecDepth 100000 in
theorem jright_any (w : World) (c : Cst) (hf : CstFit c) :
    Calls Try.prog 50 #[cstV c] w fun e w' => e = .returned (.bool (rightC c)) ∧ Below w.heap.size w w' := by
  obtain ⟨tag, n, cls, name, type⟩ := c
  obtain ⟨hf0, hf1, hf2, hf3, hf4⟩ := hf
  simp only at hf0 hf1 hf2 hf3 hf4
  have b0 : Below w.heap.size w (w.alloc (.cells #[.int .i64 tag, .int .i64 n, .string ⟨cls.toArray⟩, .string ⟨name.toArray⟩, .string ⟨type.toArray⟩] 50)) := (Below.refl _ _).alloc (Nat.le_refl _) _
  obtain ⟨d0, d1, d2, d3, d4⟩ := cstC (x := ⟨tag, n, cls, name, type⟩) (heap_alloc_last w (.cells #[.int .i64 tag, .int .i64 n, .string ⟨cls.toArray⟩, .string ⟨name.toArray⟩, .string ⟨type.toArray⟩] 50))
  simp only at d0 d1 d2 d3 d4
  have B0 := hide b0
  have H1 := hide (fun W => jtext_any W cls hf2)
  have H2 := hide (fun W => jtext_any W name hf3)
  have H3 := hide (fun W => jtext_any W type hf4)
  unfold cstV
  clear b0
  by_cases t3 : tag = 3
  case pos =>
    subst t3
    have e1 : rightC ⟨3, n, cls, name, type⟩ = (decide ((⟨3, n, cls, name, type⟩ : Cst) = ⟨3, n, [], [], []⟩) && decide (-2147483648 ≤ n ∧ n ≤ 2147483647)) := rfl
    rw [e1]
    clear e1 H1 H2 H3
    have hc : ∀ W, (binOp .eql 50 (.agg #[.int .i64 3, .int .i64 n, .string ⟨cls.toArray⟩, .string ⟨name.toArray⟩, .string ⟨type.toArray⟩]) (.agg #[.int .i64 3, .int .i64 n, .string ⟨#[]⟩, .string ⟨#[]⟩, .string ⟨#[]⟩])).run Try.prog W = .ok (.bool (decide ((⟨3, n, cls, name, type⟩ : Cst) = ⟨3, n, [], [], []⟩))) W := fun W => cst_cmp W ⟨3, n, cls, name, type⟩ ⟨3, n, [], [], []⟩
    cases hD : decide ((⟨3, n, cls, name, type⟩ : Cst) = ⟨3, n, [], [], []⟩)
    case false =>
      rw [hD] at hc
      clear hD
      generalize (⟨cls.toArray⟩ : ByteArray) = s1 at *
      generalize (⟨name.toArray⟩ : ByteArray) = s2 at *
      generalize (⟨type.toArray⟩ : ByteArray) = s3 at *
      go_enter Try.func50, Try.ntmps50
      go_wp2
      go_ret
      exact ⟨rfl, unhide B0⟩
    case true =>
      rw [hD] at hc
      clear hD
      generalize (⟨cls.toArray⟩ : ByteArray) = s1 at *
      generalize (⟨name.toArray⟩ : ByteArray) = s2 at *
      generalize (⟨type.toArray⟩ : ByteArray) = s3 at *
      by_cases h1 : n < -2147483648
      case pos =>
        have e2 : decide (-2147483648 ≤ n ∧ n ≤ 2147483647) = false := decide_eq_false (by omega)
        rw [e2]
        clear e2
        go_enter Try.func50, Try.ntmps50
        go_wp2
        go_ret
        exact ⟨rfl, unhide B0⟩
      by_cases h2 : 2147483647 < n
      case pos =>
        have e2 : decide (-2147483648 ≤ n ∧ n ≤ 2147483647) = false := decide_eq_false (by omega)
        rw [e2]
        have h4 : decide (n ≤ 2147483647) = false := decide_eq_false (by omega)
        clear e2
        go_enter Try.func50, Try.ntmps50
        go_wp2
        go_ret
        exact ⟨by first | rfl | (rw [h4]; rfl) | simp [h4], unhide B0⟩
      case neg =>
        have e2 : decide (-2147483648 ≤ n ∧ n ≤ 2147483647) = true := decide_eq_true (by omega)
        rw [e2]
        have h3 : n ≤ 2147483647 := by omega
        have h4 : decide (n ≤ 2147483647) = true := decide_eq_true h3
        clear e2
        go_enter Try.func50, Try.ntmps50
        go_wp2
        go_ret
        exact ⟨by first | rfl | (rw [h4]; rfl) | simp [h4], unhide B0⟩
  by_cases t5 : tag = 5
  case pos =>
    subst t5
    have e1 : rightC ⟨5, n, cls, name, type⟩ = decide ((⟨5, n, cls, name, type⟩ : Cst) = ⟨5, n, [], [], []⟩) := rfl
    rw [e1]
    clear e1 H1 H2 H3
    have hc : ∀ W, (binOp .eql 50 (.agg #[.int .i64 5, .int .i64 n, .string ⟨cls.toArray⟩, .string ⟨name.toArray⟩, .string ⟨type.toArray⟩]) (.agg #[.int .i64 5, .int .i64 n, .string ⟨#[]⟩, .string ⟨#[]⟩, .string ⟨#[]⟩])).run Try.prog W = .ok (.bool (decide ((⟨5, n, cls, name, type⟩ : Cst) = ⟨5, n, [], [], []⟩))) W := fun W => cst_cmp W ⟨5, n, cls, name, type⟩ ⟨5, n, [], [], []⟩
    cases hD : decide ((⟨5, n, cls, name, type⟩ : Cst) = ⟨5, n, [], [], []⟩)
    case false =>
      rw [hD] at hc
      clear hD
      generalize (⟨cls.toArray⟩ : ByteArray) = s1 at *
      generalize (⟨name.toArray⟩ : ByteArray) = s2 at *
      generalize (⟨type.toArray⟩ : ByteArray) = s3 at *
      go_enter Try.func50, Try.ntmps50
      go_wp2
      go_ret
      exact ⟨rfl, unhide B0⟩
    case true =>
      rw [hD] at hc
      clear hD
      generalize (⟨cls.toArray⟩ : ByteArray) = s1 at *
      generalize (⟨name.toArray⟩ : ByteArray) = s2 at *
      generalize (⟨type.toArray⟩ : ByteArray) = s3 at *
      go_enter Try.func50, Try.ntmps50
      go_wp2
      go_ret
      exact ⟨rfl, unhide B0⟩
  by_cases t7 : tag = 7
  case pos =>
    subst t7
    have e1 : rightC ⟨7, n, cls, name, type⟩ = (decide ((⟨7, n, cls, name, type⟩ : Cst) = ⟨7, 0, cls, [], []⟩) && textB cls) := rfl
    rw [e1]
    clear e1 H2 H3
    have hc : ∀ W, (binOp .eql 50 (.agg #[.int .i64 7, .int .i64 n, .string ⟨cls.toArray⟩, .string ⟨name.toArray⟩, .string ⟨type.toArray⟩]) (.agg #[.int .i64 7, .int .i64 0, .string ⟨cls.toArray⟩, .string ⟨#[]⟩, .string ⟨#[]⟩])).run Try.prog W = .ok (.bool (decide ((⟨7, n, cls, name, type⟩ : Cst) = ⟨7, 0, cls, [], []⟩))) W := fun W => cst_cmp W ⟨7, n, cls, name, type⟩ ⟨7, 0, cls, [], []⟩
    cases hD : decide ((⟨7, n, cls, name, type⟩ : Cst) = ⟨7, 0, cls, [], []⟩)
    case false =>
      rw [hD] at hc
      clear hD
      generalize textB cls = T1 at *
      generalize (⟨cls.toArray⟩ : ByteArray) = s1 at *
      generalize (⟨name.toArray⟩ : ByteArray) = s2 at *
      generalize (⟨type.toArray⟩ : ByteArray) = s3 at *
      clear H1
      go_enter Try.func50, Try.ntmps50
      go_wp2
      go_ret
      exact ⟨rfl, unhide B0⟩
    case true =>
      rw [hD] at hc
      clear hD
      generalize textB cls = T1 at *
      generalize (⟨cls.toArray⟩ : ByteArray) = s1 at *
      generalize (⟨name.toArray⟩ : ByteArray) = s2 at *
      generalize (⟨type.toArray⟩ : ByteArray) = s3 at *
      go_enter Try.func50, Try.ntmps50
      go_wp2_with fail
      refine (unhide H1 _).mono ?_
      rintro e w1 ⟨rfl, e0⟩
      have e0' := e0.symm
      clear e0
      subst e0'
      clear H1
      go_wp2
      go_ret
      exact ⟨by cases T1 <;> rfl, unhide B0⟩
  by_cases t9 : tag = 9
  case pos =>
    subst t9
    have e1 : rightC ⟨9, n, cls, name, type⟩ = (decide (n = 0) && textB cls && textB name && textB type) := rfl
    rw [e1]
    clear e1
    generalize textB cls = T1 at *
    generalize textB name = T2 at *
    generalize textB type = T3 at *
    generalize (⟨cls.toArray⟩ : ByteArray) = s1 at *
    generalize (⟨name.toArray⟩ : ByteArray) = s2 at *
    generalize (⟨type.toArray⟩ : ByteArray) = s3 at *
    by_cases h0 : n = 0
    case neg =>
      rw [decide_eq_false h0]
      have h0' : (n == 0) = false := by simpa using h0
      clear h0 H1 H2 H3
      go_enter Try.func50, Try.ntmps50
      go_wp2
      go_ret
      exact ⟨rfl, unhide B0⟩
    rw [decide_eq_true h0]
    subst h0
    cases T1
    case false =>
      clear H2 H3
      go_enter Try.func50, Try.ntmps50
      go_wp2_with fail
      refine (unhide H1 _).mono ?_
      rintro e w1 ⟨rfl, e0⟩
      have e0' := e0.symm
      clear e0
      subst e0'
      clear H1
      go_wp2
      go_ret
      exact ⟨rfl, unhide B0⟩
    cases T2
    case false =>
      clear H3
      go_enter Try.func50, Try.ntmps50
      go_wp2_with fail
      refine (unhide H1 _).mono ?_
      rintro e w1 ⟨rfl, e0⟩
      have e0' := e0.symm
      clear e0
      subst e0'
      clear H1
      go_wp2_with fail
      refine (unhide H2 _).mono ?_
      rintro e w1 ⟨rfl, e0⟩
      have e0' := e0.symm
      clear e0
      subst e0'
      clear H2
      go_wp2
      go_ret
      exact ⟨rfl, unhide B0⟩
    case true =>
      go_enter Try.func50, Try.ntmps50
      go_wp2_with fail
      refine (unhide H1 _).mono ?_
      rintro e w1 ⟨rfl, e0⟩
      have e0' := e0.symm
      clear e0
      subst e0'
      clear H1
      go_wp2_with fail
      refine (unhide H2 _).mono ?_
      rintro e w1 ⟨rfl, e0⟩
      have e0' := e0.symm
      clear e0
      subst e0'
      clear H2
      go_wp2_with fail
      refine (unhide H3 _).mono ?_
      rintro e w1 ⟨rfl, e0⟩
      have e0' := e0.symm
      clear e0
      subst e0'
      clear H3
      go_wp2
      go_ret
      exact ⟨by cases T3 <;> rfl, unhide B0⟩
  by_cases t10 : tag = 10
  case pos =>
    subst t10
    have e1 : rightC ⟨10, n, cls, name, type⟩ = (decide (n = 0) && textB cls && textB name && textB type) := rfl
    rw [e1]
    clear e1
    generalize textB cls = T1 at *
    generalize textB name = T2 at *
    generalize textB type = T3 at *
    generalize (⟨cls.toArray⟩ : ByteArray) = s1 at *
    generalize (⟨name.toArray⟩ : ByteArray) = s2 at *
    generalize (⟨type.toArray⟩ : ByteArray) = s3 at *
    by_cases h0 : n = 0
    case neg =>
      rw [decide_eq_false h0]
      have h0' : (n == 0) = false := by simpa using h0
      clear h0 H1 H2 H3
      go_enter Try.func50, Try.ntmps50
      go_wp2
      go_ret
      exact ⟨rfl, unhide B0⟩
    rw [decide_eq_true h0]
    subst h0
    cases T1
    case false =>
      clear H2 H3
      go_enter Try.func50, Try.ntmps50
      go_wp2_with fail
      refine (unhide H1 _).mono ?_
      rintro e w1 ⟨rfl, e0⟩
      have e0' := e0.symm
      clear e0
      subst e0'
      clear H1
      go_wp2
      go_ret
      exact ⟨rfl, unhide B0⟩
    cases T2
    case false =>
      clear H3
      go_enter Try.func50, Try.ntmps50
      go_wp2_with fail
      refine (unhide H1 _).mono ?_
      rintro e w1 ⟨rfl, e0⟩
      have e0' := e0.symm
      clear e0
      subst e0'
      clear H1
      go_wp2_with fail
      refine (unhide H2 _).mono ?_
      rintro e w1 ⟨rfl, e0⟩
      have e0' := e0.symm
      clear e0
      subst e0'
      clear H2
      go_wp2
      go_ret
      exact ⟨rfl, unhide B0⟩
    case true =>
      go_enter Try.func50, Try.ntmps50
      go_wp2_with fail
      refine (unhide H1 _).mono ?_
      rintro e w1 ⟨rfl, e0⟩
      have e0' := e0.symm
      clear e0
      subst e0'
      clear H1
      go_wp2_with fail
      refine (unhide H2 _).mono ?_
      rintro e w1 ⟨rfl, e0⟩
      have e0' := e0.symm
      clear e0
      subst e0'
      clear H2
      go_wp2_with fail
      refine (unhide H3 _).mono ?_
      rintro e w1 ⟨rfl, e0⟩
      have e0' := e0.symm
      clear e0
      subst e0'
      clear H3
      go_wp2
      go_ret
      exact ⟨by cases T3 <;> rfl, unhide B0⟩
  have e1 : rightC ⟨tag, n, cls, name, type⟩ = false := by
    unfold rightC
    simp [t3, t5, t7, t9, t10]
  rw [e1]
  have b3 : (tag == 3) = false := by simpa using t3
  have b5 : (tag == 5) = false := by simpa using t5
  have b7 : (tag == 7) = false := by simpa using t7
  have b9 : (tag == 9) = false := by simpa using t9
  have b10 : (tag == 10) = false := by simpa using t10
  clear e1 H1 H2 H3 t3 t5 t7 t9 t10
  generalize (⟨cls.toArray⟩ : ByteArray) = s1 at *
  generalize (⟨name.toArray⟩ : ByteArray) = s2 at *
  generalize (⟨type.toArray⟩ : ByteArray) = s3 at *
  go_enter Try.func50, Try.ntmps50
  go_wp2
  go_ret
  exact ⟨rfl, unhide B0⟩

end Go.Proofs.Ytchhjieciiaooaa
