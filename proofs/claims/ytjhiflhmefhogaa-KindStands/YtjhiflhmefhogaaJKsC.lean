/- Going up through classes, as plain values. -/
import Derived.Test.YtjhiflhmefhogaaJKsB

namespace Go.Proofs.Ytjhiflhmefhogaa
open Go.RowKit
set_option linter.unusedVariables false

def supAt (l : List Nc) (p : Nat) : List UInt8 := (l[p]?.map Nc.sup).getD []
/-- The names above, from a place on, with the places that were met. -/
def upF (l : List Nc) : Nat → List Nat → Option Nat → List (List UInt8)
  | 0, _, _ => []
  | _ + 1, _, none => []
  | f + 1, met, some p => if supAt l p = [] then [] else match fstN l (supAt l p) with
    | none => [supAt l p]
    | some q => if q ∈ p :: met then [] else supAt l p :: upF l f (p :: met) (some q)
def upL (l : List Nc) (nm : List UInt8) : List (List UInt8) := upF l (l.length + 1) [] (fstN l nm)
theorem nodup_le : ∀ (met : List Nat) (n : Nat), met.Nodup → (∀ p ∈ met, p < n) → met.length ≤ n := fun met n hd hl => by
  have h := List.Nodup.length_le_of_subset hd (l₂ := List.range n) (fun p hp => List.mem_range.2 (hl p hp))
  simpa using h
/-- Between two rounds: what was met, where it stands, what came. -/
structure UR (l : List Nc) (nm : List UInt8) (met : List Nat) (at_ : Option Nat) (pre : List (List UInt8)) : Prop where
  eq : upL l nm = pre ++ upF l (l.length + 1 - met.length) met at_
  nd : met.Nodup
  lt : ∀ p ∈ met, p < l.length
  here : ∀ p, at_ = some p → p < l.length ∧ p ∉ met
  len : pre.length = met.length
theorem UR.start (l : List Nc) (nm : List UInt8) : UR l nm [] (fstN l nm) [] := by
  refine ⟨rfl, List.nodup_nil, fun p h => by simp at h, fun p h => ?_, rfl⟩
  obtain ⟨_, _, _, hk⟩ := fstN_some h
  exact ⟨hk, by simp⟩
theorem UR.few {l : List Nc} {nm : List UInt8} {met : List Nat} {at_ : Option Nat} {pre : List (List UInt8)} (h : UR l nm met at_ pre) : pre.length ≤ l.length := by
  rw [h.len]; exact nodup_le met _ h.nd h.lt
theorem UR.fuel {l : List Nc} {nm : List UInt8} {met : List Nat} {at_ : Option Nat} {pre : List (List UInt8)} (h : UR l nm met at_ pre) : ∃ f, l.length + 1 - met.length = f + 1 ∧ f = l.length + 1 - (met.length + 1) := by
  have := nodup_le met _ h.nd h.lt
  exact ⟨l.length - met.length, by omega, by omega⟩
theorem UR.none {l : List Nc} {nm : List UInt8} {met : List Nat} {pre : List (List UInt8)} (h : UR l nm met .none pre) : upL l nm = pre := by
  obtain ⟨f, hf, _⟩ := h.fuel
  have := h.eq
  rw [hf] at this
  simpa [upF] using this
theorem UR.ends {l : List Nc} {nm : List UInt8} {met : List Nat} {p : Nat} {pre : List (List UInt8)} (h : UR l nm met (some p) pre) (hs : supAt l p = []) : upL l nm = pre := by
  obtain ⟨f, hf, _⟩ := h.fuel
  have := h.eq
  rw [hf] at this
  simpa [upF, hs] using this
theorem UR.ring {l : List Nc} {nm : List UInt8} {met : List Nat} {p q : Nat} {pre : List (List UInt8)} (h : UR l nm met (some p) pre) (hs : supAt l p ≠ []) (hq : fstN l (supAt l p) = some q) (hm : q ∈ p :: met) : upL l nm = pre := by
  obtain ⟨f, hf, _⟩ := h.fuel
  have := h.eq
  rw [hf] at this
  unfold upF at this
  rw [if_neg hs, hq] at this
  simp only at this
  rw [if_pos hm, List.append_nil] at this
  exact this
theorem UR.next {l : List Nc} {nm : List UInt8} {met : List Nat} {p : Nat} {pre : List (List UInt8)} (h : UR l nm met (some p) pre) (hs : supAt l p ≠ []) (hm : ∀ q, fstN l (supAt l p) = some q → q ∉ p :: met) : UR l nm (p :: met) (fstN l (supAt l p)) (pre ++ [supAt l p]) := by
  obtain ⟨f, hf, hf2⟩ := h.fuel
  obtain ⟨hp1, hp2⟩ := h.here p rfl
  have h1 := h.eq
  rw [hf] at h1
  unfold upF at h1
  rw [if_neg hs] at h1
  have hnd : (p :: met).Nodup := List.nodup_cons.2 ⟨hp2, h.nd⟩
  have hlt : ∀ x ∈ p :: met, x < l.length := fun x hx => by
    rcases List.mem_cons.1 hx with rfl | hx
    · exact hp1
    · exact h.lt x hx
  refine ⟨?_, hnd, hlt, fun q hq => ?_, by simp [h.len]⟩
  · rw [List.length_cons, ← hf2, h1, List.append_assoc]
    congr 1
    cases hq : fstN l (supAt l p) with
    | none => cases f <;> simp [upF]
    | some q =>
      simp only
      rw [if_neg (hm q hq)]
      rfl
  · obtain ⟨_, _, _, hk⟩ := fstN_some hq
    exact ⟨hk, hm q hq⟩
/-- What came is a beginning. -/
theorem UR.front {l : List Nc} {nm : List UInt8} {met : List Nat} {at_ : Option Nat} {pre : List (List UInt8)} (h : UR l nm met at_ pre) : ∃ rest, upL l nm = pre ++ rest := ⟨_, h.eq⟩
theorem supAt_is {l : List Nc} {p : Nat} {c : Nc} (h : l[p]? = some c) : supAt l p = c.sup := by simp [supAt, h]
end Go.Proofs.Ytjhiflhmefhogaa
