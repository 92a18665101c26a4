/- Joined: CgJp CgI CgJ. -/
import Derived.Test.YteooppjbpekepaaGreatDoorJV
import Derived.Test.YteooppjbpekepaaGreatDoorJS8

/- The chapter's examples as plain values. -/
namespace Go.Proofs.YteooppjbpekepaaGreatDoor
open Go.RowKit
set_option linter.unusedVariables false
set_option maxRecDepth 100000

def ex1 : List Ins := [⟨0, 4, 0, 0, []⟩, ⟨1, 172, 0, 0, []⟩]
def ex2 : List Ins := [⟨0, 167, 0, 0, []⟩]
theorem code_ex1 : codeP [4, 172] = some ex1 := by decide +kernel
theorem code_ex2 : codeP [167, 0, 0] = some ex2 := by decide +kernel
theorem all_ex1 : allW ex1 [] = [4, 172] := by decide +kernel
end Go.Proofs.YteooppjbpekepaaGreatDoor

/- Two lists of instructions, of numbers, held against one another by the laws: the same. -/
namespace Go.Proofs.YteooppjbpekepaaGreatDoor
open Go.RowKit
set_option linter.unusedVariables false
set_option maxRecDepth 100000

end Go.Proofs.YteooppjbpekepaaGreatDoor

/- The chapter's examples work. -/
namespace Go.Proofs.YteooppjbpekepaaGreatDoor
open Go.RowKit
set_option linter.unusedVariables false
set_option maxRecDepth 100000

theorem bs_lit (w : World) (X : Array Value) (bs : List UInt8) (hX : X.toList = bs.map fun b => .int .u8 (b.toNat : Int)) (n : Nat) (hn : n = bs.length) (hs : n ≤ 1000000) : Arg (w.alloc (.cells X 5)) (some ⟨w.heap.size, 0, none⟩) n n bs := by
  have hrow := heap_alloc_last w (.cells X 5)
  refine arg_of_own hn.symm ⟨by simp [hn, bv], .inr ⟨w.heap.size, n, X, rfl, Nat.le_refl _, hrow, Nat.le_refl _, by unfold maxLen; omega, ?_, ?_⟩⟩
  · have := congrArg List.length hX
    simp at this
    omega
  · rw [List.take_of_length_le (by have := congrArg List.length hX; simp at this ⊢; omega), hX]
    rfl
theorem rows1 {rs : List InR} {x : Ins} (h : rs.map InR.x = [x]) : ∃ r, rs = [r] ∧ r.x = x := by
  obtain ⟨r, hr, h1⟩ := List.map_eq_singleton_iff.1 h
  exact ⟨r, hr, h1⟩
theorem InsOk.arg {w : World} {base : Nat} {r : InR} (h : InsOk w base r) : InArg w r := by
  obtain ⟨f1, f2, f3, f4, f5, f6⟩ := h.fit
  refine ⟨h.ls.1, fun c hc => ?_, ?_, ?_, ?_⟩
  · obtain ⟨g1, g2⟩ := f5 c hc
    unfold Rg
    omega
  all_goals unfold Rg; omega
theorem InsOk.few {w : World} {base : Nat} {rs : List InR} (h : ∀ r ∈ rs, InsOk w base r) : sizesR rs ≤ rs.length * 2064 := by
  induction rs with
  | nil => exact Nat.zero_le _
  | cons r rs ih =>
    have h1 := ih fun r' hr' => h r' (List.mem_cons_of_mem _ hr')
    have h2 := h r (List.mem_cons_self ..)
    have h3 := h2.ls.1.1
    have h4 := h2.fit.2.2.2.2.2
    unfold sizesR at *
    simp only [List.map_cons, List.sum_cons, List.length_cons]
    omega
end Go.Proofs.YteooppjbpekepaaGreatDoor
