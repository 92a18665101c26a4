/- The document's code: Plain. -/
import Derived.Test.YtpmhcignenfhgaaDoorJQ
import Derived.Test.YtpmhcignenfhgaaDoorJCdC
import Derived.Test.YtpmhcignenfhgaaDoorJB

namespace Go.Proofs.YtpmhcignenfhgaaDoor
open Go.RowKit
set_option linter.unusedVariables false
set_option maxRecDepth 100000

theorem fallsK_is (x : Ins) : fallsK x.op = fallsP x := by
  unfold fallsK fallsP
  by_cases h : x.op = 167 ∨ x.op = 170 ∨ x.op = 171 ∨ x.op = 172 ∨ x.op = 173 ∨ x.op = 176 ∨ x.op = 177 ∨ x.op = 191
  · rw [decide_eq_true h]
    rcases h with h | h | h | h | h | h | h | h <;> rw [h] <;> rfl
  · rw [decide_eq_false h]
    simp only [not_or] at h
    simp [h]
def plainOA (op a : Int) : Int × Int := ((plainP ⟨0, op, a, 0, []⟩).op, (plainP ⟨0, op, a, 0, []⟩).a)
theorem plainOA_is (x : Ins) : plainP x = { x with op := (plainOA x.op x.a).1, a := (plainOA x.op x.a).2 } := by
  obtain ⟨at_, op, a, b, cs⟩ := x
  unfold plainOA plainP
  simp only
  repeat' split
  all_goals rfl
theorem alloc2_last (w : World) (o o' : Obj) : ((w.alloc o).alloc o').heap[w.heap.size + 1]? = some o' := by
  have h := heap_alloc_last (w.alloc o) o'
  have e : (w.alloc o).heap.size = w.heap.size + 1 := by simp
  rw [e] at h
  exact h
set_option maxHeartbeats 1600000 in
theorem o9Plain_any (w : World) (at0 op a b : Int) (ca : Option Addr) (cn cc : Nat) :
    Calls Tryd.prog 20 #[.agg #[.int .i64 at0, .int .i64 op, .int .i64 a, .int .i64 b, .slice ca cn cc]] w fun e w' => e = .returned (.agg #[.int .i64 at0, .int .i64 (plainOA op a).1, .int .i64 (plainOA op a).2, .int .i64 b, .slice ca cn cc]) ∧ Below w.heap.size w w' := by
  obtain ⟨p, hp⟩ : ∃ p, p = plainOA op a := ⟨_, rfl⟩
  rw [← hp]
  unfold plainOA plainP at hp
  simp only at hp
  have HP := hide hp
  clear hp
  go_enter Tryd.func20, Tryd.ntmps20
  go_wp2
  all_goals
    refine bodyPost_ret (v := .agg #[.int .i64 at0, .int .i64 p.1, .int .i64 p.2, .int .i64 b, .slice ca cn cc]) ?_ rfl ⟨rfl, bA (bA (Below.refl _ _) _) _⟩
    refine (results_cell_row Tryd.results20 _ _ (w.heap.size + 1) 38 _ (0, 0) _ rfl (alloc2_last _ _ _) Tryd.underlying38 rfl (by kernel_rfl)).trans ?_
    rw [unhide HP]
    clear HP
    first
      | (simp_all; done)
      | (simp_all
         repeat' split
         all_goals first | omega | (exfalso; omega) | (simp; done) | (simp; omega))
end Go.Proofs.YtpmhcignenfhgaaDoor
