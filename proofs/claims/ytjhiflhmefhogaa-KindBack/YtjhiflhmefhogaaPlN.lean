/- Entries held against one another; the document's find. -/
import Derived.Test.YtjhiflhmefhogaaPlM
import Derived.Test.YtjhiflhmefhogaaPlF
namespace Go.Proofs.Ytjhiflhmefhogaa
open Go.RowKit
set_option linter.unusedVariables false

theorem str_eq (s t : List UInt8) : ((⟨s.toArray⟩ : ByteArray).toList = (⟨t.toArray⟩ : ByteArray).toList) ↔ s = t := by
  rw [ByteArray.toList_eq, ByteArray.toList_eq]
theorem ent_cmp (w : World) (x y : Ent) :
    (binOp .eql 98 (.agg #[.int .i64 x.tag, .string ⟨x.text.toArray⟩, .int .i64 x.n, .int .i64 x.a, .int .i64 x.b]) (.agg #[.int .i64 y.tag, .string ⟨y.text.toArray⟩, .int .i64 y.n, .int .i64 y.a, .int .i64 y.b])).run Try.prog w = .ok (.bool (decide (x = y))) w := by
  rw [run_eql_struct]
  go_simp
  have e := Ent.eq_iff x y
  have es := str_eq x.text y.text
  repeat' split
  all_goals
    congr 2
    simp only [Bool.true_eq, Bool.false_eq, decide_eq_true_eq, decide_eq_false_iff_not, ← e, ← es]
    simp_all
theorem ent_cmpN (w : World) (x y : Ent) :
    (binOp .neq 98 (.agg #[.int .i64 x.tag, .string ⟨x.text.toArray⟩, .int .i64 x.n, .int .i64 x.a, .int .i64 x.b]) (.agg #[.int .i64 y.tag, .string ⟨y.text.toArray⟩, .int .i64 y.n, .int .i64 y.a, .int .i64 y.b])).run Try.prog w = .ok (.bool (!decide (x = y))) w := by
  rw [run_neq_struct]
  have h := ent_cmp w x y
  rw [run_eql_struct] at h
  cases hq : (Op.equalIn 10000 98 (.agg #[.int .i64 x.tag, .string ⟨x.text.toArray⟩, .int .i64 x.n, .int .i64 x.a, .int .i64 x.b]) (.agg #[.int .i64 y.tag, .string ⟨y.text.toArray⟩, .int .i64 y.n, .int .i64 y.a, .int .i64 y.b])).run Try.prog w with
  | ok b w' =>
    rw [hq] at h
    simp only [Result.andThen_ok, Result.ok.injEq, Value.bool.injEq] at h
    rw [h.1, h.2]
    rfl
  | halt h1 w' =>
    rw [hq] at h
    simp [Result.andThen] at h

def entV (x : Ent) : Value := .agg #[.int .i64 x.tag, .string ⟨x.text.toArray⟩, .int .i64 x.n, .int .i64 x.a, .int .i64 x.b]
end Go.Proofs.Ytjhiflhmefhogaa
