/- Entries that fit. -/
import Derived.Test.YtjhiflhmefhogaaPlE
namespace Go.Proofs.Ytjhiflhmefhogaa
open Go.RowKit
set_option linter.unusedVariables false

theorem getW_rng {b : List UInt8} {i : Nat} {k : Int} {sg : Bool} : -9223372036854775808 ≤ (getW b i k sg).1 ∧ (getW b i k sg).1 ≤ 9223372036854775807 := by
  unfold getW
  split
  · rename_i hw
    split
    · show (-9223372036854775808 : Int) ≤ 0 ∧ (0 : Int) ≤ _
      omega
    · cases hv : valW ((b.drop i).take k.toNat) sg with
      | none =>
        show (-9223372036854775808 : Int) ≤ 0 ∧ (0 : Int) ≤ _
        omega
      | some n =>
        show (-9223372036854775808 : Int) ≤ n ∧ n ≤ _
        have hlt := numB_lt ((b.drop i).take k.toNat)
        have hl : ((b.drop i).take k.toNat).length ≤ k.toNat := by rw [List.length_take]; omega
        unfold valW at hv
        split at hv
        · rename_i h8
          rw [h8] at hlt
          split at hv
          · injection hv with hv
            split at hv <;> omega
          · split at hv
            · injection hv with hv
              omega
            · cases hv
        · rename_i h8
          have h7 : ((b.drop i).take k.toNat).length ≤ 7 := by
            obtain ⟨m, rfl, hm⟩ := wide_nat hw
            omega
          have hp := Nat.pow_le_pow_right (n := 256) (by omega) h7
          split at hv
          · injection hv with hv
            omega
          · injection hv with hv
            omega
  · show (-9223372036854775808 : Int) ≤ 0 ∧ (0 : Int) ≤ _
    omega
theorem entR_fit {bs : List UInt8} {i : Nat} (hn : bs.length ≤ 1000000) : EntFit (entR bs i).1 ∧ (entR bs i).1.text.length ≤ 1000000 := by
  have r1 := @getW_rng bs i 1 false
  have ht : ∀ (j : Nat) (k : Int), (takeW bs j k).1.length ≤ 1000000 := fun j k => by
    unfold takeW
    split
    · simp
    · split
      · simp
      · simp only [List.length_take, List.length_drop]
        omega
  have z : (-9223372036854775808 : Int) ≤ 0 ∧ (0 : Int) ≤ 9223372036854775807 := by omega
  unfold entR
  simp only
  repeat' split
  all_goals
    refine ⟨⟨?_, ?_, ?_, ?_⟩, ?_⟩
    all_goals first | exact r1 | exact z | exact getW_rng | exact ht _ _ | (simp; done)
theorem entR_le {bs : List UInt8} {i : Nat} (hi : i ≤ bs.length) : (entR bs i).2.2 ≤ bs.length := by
  have g : ∀ {j : Nat} {k : Int} {sg : Bool}, j ≤ bs.length → (getW bs j k sg).2.2 ≤ bs.length := fun h => getW_le h
  unfold entR
  simp only
  repeat' split
  all_goals first | exact g hi | exact g (g hi) | exact takeW_le (g (g hi)) | exact g (g (g hi))

def EntsFit7 (l : List Ent) : Prop := (∀ x ∈ l, x.text.length ≤ 140737488355328) ∧ ∀ x ∈ l, EntFit x
theorem fit0 : EntFit ent0 := by
  refine ⟨?_, ?_, ?_, ?_⟩ <;> decide
theorem EntsFit7.more {l : List Ent} {x : Ent} (h : EntsFit7 l) (hx : EntFit x ∧ x.text.length ≤ 1000000) : EntsFit7 (withE l x) := by
  rw [withE_eq]
  refine ⟨fun y hy => ?_, fun y hy => ?_⟩
  · rcases List.mem_append.1 hy with hy | hy
    · exact h.1 y hy
    · split at hy
      · simp at hy
        rcases hy with rfl | rfl
        · omega
        · decide
      · simp at hy
        subst hy
        omega
  · rcases List.mem_append.1 hy with hy | hy
    · exact h.2 y hy
    · split at hy
      · simp at hy
        rcases hy with rfl | rfl
        · exact hx.1
        · exact fit0
      · simp at hy
        subst hy
        exact hx.1

end Go.Proofs.Ytjhiflhmefhogaa
