/- Joined: CgE CgF CgG. -/
import Derived.Test.YteooppjbpekepaaGreatDoorJU

/- The landed code: same. -/
namespace Go.Proofs.YteooppjbpekepaaGreatDoor
open Go.RowKit
set_option linter.unusedVariables false
set_option maxRecDepth 100000

theorem Cas.eq_iff (x y : Cas) : x = y ↔ x.key = y.key ∧ x.to_ = y.to_ := by
  obtain ⟨a, b⟩ := x
  obtain ⟨c, d⟩ := y
  simp
theorem cas_cmp (w : World) (x y : Cas) :
    (binOp .eql 99 (.agg #[.int .i64 x.key, .int .i64 x.to_]) (.agg #[.int .i64 y.key, .int .i64 y.to_])).run Tryz.prog w = .ok (.bool (decide (x = y))) w := by
  rw [run_eql_struct]
  go_simp
  have e := Cas.eq_iff x y
  repeat' split
  all_goals
    congr 2
    simp_all
theorem cas_cmpN (w : World) (x y : Cas) :
    (binOp .neq 99 (.agg #[.int .i64 x.key, .int .i64 x.to_]) (.agg #[.int .i64 y.key, .int .i64 y.to_])).run Tryz.prog w = .ok (.bool (!decide (x = y))) w := by
  rw [run_neq_struct]
  have h := cas_cmp w x y
  rw [run_eql_struct] at h
  cases hq : (Op.equalIn 10000 99 (.agg #[.int .i64 x.key, .int .i64 x.to_]) (.agg #[.int .i64 y.key, .int .i64 y.to_])).run Tryz.prog w with
  | ok b w' =>
    rw [hq] at h
    simp only [Result.andThen_ok, Result.ok.injEq, Value.bool.injEq] at h
    obtain ⟨h1, h2⟩ := h
    subst h1 h2
    rfl
  | _ => rw [hq] at h; cases h
theorem list_eq_pt {α : Type} {l m : List α} (hl : l.length = m.length) (h : ∀ (j : Nat) x y, l[j]? = some x → m[j]? = some y → x = y) : l = m := by
  apply List.ext_getElem?
  intro j
  by_cases hj : j < l.length
  · rw [List.getElem?_eq_getElem hj, List.getElem?_eq_getElem (by omega)]
    rw [h j _ _ (List.getElem?_eq_getElem hj) (List.getElem?_eq_getElem (by omega))]
  · rw [List.getElem?_eq_none (by omega), List.getElem?_eq_none (by omega)]
end Go.Proofs.YteooppjbpekepaaGreatDoor

/- The landed code: same, two lists of instructions held against one another. -/
namespace Go.Proofs.YteooppjbpekepaaGreatDoor
open Go.RowKit
set_option linter.unusedVariables false
set_option maxRecDepth 100000

theorem Ins.eq_iff (x y : Ins) : x = y ↔ x.at_ = y.at_ ∧ x.op = y.op ∧ x.a = y.a ∧ x.b = y.b ∧ x.cs = y.cs := by
  obtain ⟨a, b, c, d, e⟩ := x
  obtain ⟨a', b', c', d', e'⟩ := y
  simp
end Go.Proofs.YteooppjbpekepaaGreatDoor

/- The landed code: Encode. -/
namespace Go.Proofs.YteooppjbpekepaaGreatDoor
open Go.RowKit
set_option linter.unusedVariables false
set_option maxRecDepth 100000

theorem own_below9 {w W : World} {B : Nat} {e : TypeId} {sz : Nat} {v : Value} {n : Nat} {xs : List Value} (h : w.ownsRow B e sz v n xs) (f : Below w.heap.size w W) : W.ownsRow B e sz v n xs := by
  refine ⟨h.1, ?_⟩
  rcases h.2 with hv | ⟨g, cap, cur, hv, hb, hh, r⟩
  · exact .inl hv
  · exact .inr ⟨g, cap, cur, hv, hb, (f.block g (lt_of_heap hh)).trans hh, r⟩
/-- What Encode answers. -/
def enc_post (l : List Ins) (w : World) (e : Ending) (w' : World) : Prop :=
  ∃ (v : Value) (bs : List UInt8) (er : Int), e = .returned (.tuple #[v, .int .i64 er]) ∧ w'.ownsRow w.heap.size 5 1 v bs.length (bv bs) ∧ Below w.heap.size w w' ∧
    ((er = 0 ∧ bs = allW l [] ∧ bs.length ≤ 4096 ∧ codeP bs = some l) ∨ (bs = [] ∧ er = 90 ∧ codeP (allW l []) ≠ some l) ∨ (bs = [] ∧ er = 3 ∧ 4096 < (allW l []).length ∧ codeP (allW l []) = some l))
end Go.Proofs.YteooppjbpekepaaGreatDoor
