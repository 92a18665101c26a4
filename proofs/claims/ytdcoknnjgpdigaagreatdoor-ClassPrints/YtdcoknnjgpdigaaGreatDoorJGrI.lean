/- The document's class: Print: what its steps come to, as plain values. -/
import Derived.Test.YtdcoknnjgpdigaaGreatDoorJP25
import Derived.Test.YtdcoknnjgpdigaaGreatDoorJGrF

namespace Go.Proofs.YtdcoknnjgpdigaaGreatDoor
open Go.RowKit
set_option linter.unusedVariables false
set_option maxRecDepth 100000

theorem code_small {c : Cl} (hc : sizeK c < 5000) {m : Md} (h : m ∈ c.methods) : codeN m.code ≤ 70000 := by
  have h1 := (light_meth hc h).1
  have h2 := maps_le m.code.maps
  unfold methN at h1
  unfold codeN
  omega
/-- A class that has what its head asks for. -/
def headOk (c : Cl) : Bool := decide (clsN c.pool c.name ≠ 0 ∧ (c.super = [] ∨ clsN c.pool c.super ≠ 0))
def headB (c : Cl) : List UInt8 := bytesW 2 33 ++ (bytesW 2 (clsN c.pool c.name) ++ (bytesW 2 (superN c.pool c.super) ++ (bytesW 2 0 ++ bytesW 2 c.fields.length)))
theorem head_ok0 (c : Cl) (h : c.super = []) : (((true && fitsB 2 [33]) && decide (clsN c.pool c.name ≠ 0)) && fitsB 2 [0]) = headOk c := by
  have e1 : fitsB 2 [33] = true := by decide
  have e2 : fitsB 2 [0] = true := by decide
  unfold headOk
  rw [e1, e2, h]
  simp
theorem head_ok1 (c : Cl) (h : ¬ c.super = []) : (((true && fitsB 2 [33]) && decide (clsN c.pool c.name ≠ 0)) && decide (clsN c.pool c.super ≠ 0)) = headOk c := by
  have e1 : fitsB 2 [33] = true := by decide
  unfold headOk
  rw [e1]
  simp [h, Bool.decide_and]
theorem head_b0 (c : Cl) (h : c.super = []) : ((([] ++ [(33 : Int)].flatMap (bytesW 2)) ++ bytesW 2 (clsN c.pool c.name : Int)) ++ [(0 : Int)].flatMap (bytesW 2)) = bytesW 2 33 ++ (bytesW 2 (clsN c.pool c.name) ++ bytesW 2 (superN c.pool c.super)) := by
  unfold superN
  rw [if_pos h]
  simp
theorem head_b1 (c : Cl) (h : ¬ c.super = []) : ((([] ++ [(33 : Int)].flatMap (bytesW 2)) ++ bytesW 2 (clsN c.pool c.name : Int)) ++ bytesW 2 (clsN c.pool c.super : Int)) = bytesW 2 33 ++ (bytesW 2 (clsN c.pool c.name) ++ bytesW 2 (superN c.pool c.super)) := by
  unfold superN
  rw [if_neg h]
  simp
theorem head_b2 (c : Cl) : ((bytesW 2 33 ++ (bytesW 2 (clsN c.pool c.name : Int) ++ bytesW 2 (superN c.pool c.super : Int))) ++ [(0 : Int), (c.fields.length : Int)].flatMap (bytesW 2)) = headB c := by
  unfold headB
  simp
theorem end_ok (c : Cl) (h1 : checkP c.pool = true) (h2 : c.fields.length ≤ 256) (h3 : c.methods.length ≤ 256) : ((((headOk c && c.fields.all (rightF c.pool)) && fitsB 2 [(c.methods.length : Int)]) && c.methods.all (rightMd c.pool)) && fitsB 2 [0]) = rightK c := by
  have e1 : fitsB 2 [(c.methods.length : Int)] = true := by simp [fitsB]; omega
  have e2 : fitsB 2 [0] = true := by decide
  unfold rightK headOk
  rw [h1, e1, e2, decide_eq_true (And.intro h2 h3)]
  simp
theorem end_bytes (c : Cl) : (headK ++ bytesP c.pool) ++ ((((headB c ++ c.fields.flatMap (fieldB c.pool)) ++ [(c.methods.length : Int)].flatMap (bytesW 2)) ++ c.methods.flatMap (methodB c.pool)) ++ [(0 : Int)].flatMap (bytesW 2)) = bytesK c := by
  unfold bytesK bodyK headB
  simp
/-- What is answered behind all that is written. -/
theorem end_no {c : Cl} (h : rightK c = false) : errK c = 80 ∧ printK c = [] := err_no h
theorem end_long {c : Cl} (h : rightK c = true) (hl : 32768 < (bytesK c).length) : errK c = 3 ∧ printK c = [] := by
  have e : errK c = 3 := by unfold errK; rw [if_neg (by rw [h]; decide), if_pos hl]
  refine ⟨e, ?_⟩
  unfold printK
  rw [e, if_neg (by decide)]
theorem end_yes {c : Cl} (h : rightK c = true) (hl : ¬ 32768 < (bytesK c).length) : errK c = 0 ∧ printK c = bytesK c := by
  have e : errK c = 0 := by unfold errK; rw [if_neg (by rw [h]; decide), if_neg hl]
  refine ⟨e, ?_⟩
  unfold printK
  rw [e, if_pos rfl]
end Go.Proofs.YtdcoknnjgpdigaaGreatDoor
