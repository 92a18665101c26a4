/- Joined: CgA CgB CgC CgD. -/
import Derived.Test.YteooppjbpekepaaGreatDoorJT
import Derived.Test.YteooppjbpekepaaGreatDoorJG

/- The landed code: its writer while instructions are written; numbers, wayTo, noughts. -/
namespace Go.Proofs.YteooppjbpekepaaGreatDoor
open Go.RowKit
set_option linter.unusedVariables false
set_option maxRecDepth 100000

structure Cw9 where
  X : Nat
  x : Nat
  B : Nat
/-- Numbers written: what comes of the bytes. -/
def pw (k : Int) (sg : Bool) (l : List Int) (bs : List UInt8) : List UInt8 := (putW bs k sg l).1
theorem pw_len (k : Nat) (sg : Bool) (l : List Int) (bs : List UInt8) : (pw (k : Int) sg l bs).length ≤ bs.length + k * l.length := by
  unfold pw putW
  split
  · simp only [List.length_append]
    have : ∀ l : List Int, (l.flatMap (bytesW (k : Int))).length = k * l.length := by
      intro l
      induction l with
      | nil => rfl
      | cons z l ih => rw [List.flatMap_cons, List.length_append, ih, bytesW_len, List.length_cons, Nat.mul_succ]; simp; omega
    rw [this]
    exact Nat.le_refl _
  · simp only
    omega
theorem pw_ge (k : Int) (sg : Bool) (l : List Int) (bs : List UInt8) : bs.length ≤ (pw k sg l bs).length := by
  unfold pw putW
  split
  · simp
  · exact Nat.le_refl _
def Rg (z : Int) : Prop := -9223372036854775808 ≤ z ∧ z ≤ 9223372036854775807
def way (bg at_ : Int) : Int := wrap64 (at_ - bg)
theorem way_rg (bg at_ : Int) : Rg (way bg at_) := by unfold way Rg wrap64; omega
theorem way_small {bg at_ : Int} (h : -9223372036854775808 ≤ at_ - bg ∧ at_ - bg ≤ 9223372036854775807) : way bg at_ = at_ - bg := by unfold way wrap64; omega
theorem pw_zero (bs : List UInt8) : pw 1 false [0] bs = bs ++ [0] := rfl
def padW (bs : List UInt8) : List UInt8 := bs ++ List.replicate ((4 - bs.length % 4) % 4) 0
def muW (C : Cw9) (W : World) : Nat := match W.cell? ⟨C.x, 1, none⟩ with
  | some (.int _ k) => (4 - k.toNat % 4) % 4
  | _ => 0
end Go.Proofs.YteooppjbpekepaaGreatDoor

/- The landed code: a table and a search written. -/
namespace Go.Proofs.YteooppjbpekepaaGreatDoor
open Go.RowKit
set_option linter.unusedVariables false
set_option maxRecDepth 100000

theorem padW_len (bs : List UInt8) : (padW bs).length ≤ bs.length + 3 := by unfold padW; simp; omega
def tabcW (bg : Int) : List Cas → List UInt8 → List UInt8
  | [], bs => bs
  | c :: l, bs => tabcW bg l (pw 4 true [way bg c.to_] bs)
def seacW (bg : Int) : List Cas → List UInt8 → List UInt8
  | [], bs => bs
  | c :: l, bs => seacW bg l (pw 4 true [c.key, way bg c.to_] bs)
def tabW (bg a b : Int) (cs : List Cas) (bs : List UInt8) : List UInt8 := tabcW bg cs (pw 4 true [way bg a, b, IntKind.i64.wrap (IntKind.i64.wrap (b + cs.length) - 1)] (padW bs))
def seaW (bg a : Int) (cs : List Cas) (bs : List UInt8) : List UInt8 := seacW bg cs (pw 4 false [(cs.length : Int)] (pw 4 true [way bg a] (padW bs)))
theorem wrap_rg (z : Int) : Rg (IntKind.i64.wrap z) := by unfold Rg; rw [IntKind.wrap_i64]; omega
end Go.Proofs.YteooppjbpekepaaGreatDoor

/- The landed code: an instruction written. -/
namespace Go.Proofs.YteooppjbpekepaaGreatDoor
open Go.RowKit
set_option linter.unusedVariables false
set_option maxRecDepth 100000

/-- What comes of the bytes behind an Op, by its form. -/
def forW (f : Nat) (x : Ins) (b1 : List UInt8) : List UInt8 :=
  if f = 2 then pw 1 true [x.a] b1 else if f = 3 then pw 2 true [x.a] b1 else if f = 4 then pw 1 false [x.a] b1 else if f = 5 then pw 2 false [x.a] b1
  else if f = 6 then pw 1 true [x.b] (pw 1 false [x.a] b1) else if f = 7 then pw 2 true [way x.at_ x.a] b1 else if f = 8 then tabW x.at_ x.a x.b x.cs b1 else if f = 9 then seaW x.at_ x.a x.cs b1 else b1
def insW (x : Ins) (bs : List UInt8) : List UInt8 := forW (formP x.op) x (pw 1 false [x.op] bs)
end Go.Proofs.YteooppjbpekepaaGreatDoor

/- The landed code: bytesOf. -/
namespace Go.Proofs.YteooppjbpekepaaGreatDoor
open Go.RowKit
set_option linter.unusedVariables false
set_option maxRecDepth 100000

def allW (l : List Ins) (bs : List UInt8) : List UInt8 := l.foldl (fun b x => insW x b) bs
theorem allW_snoc (l : List Ins) (x : Ins) (bs : List UInt8) : allW (l ++ [x]) bs = insW x (allW l bs) := by unfold allW; rw [List.foldl_append]; rfl
def sizesR (rs : List InR) : Nat := (rs.map fun r => 16 + 8 * r.s.n).sum
theorem sizesR_take {rs : List InR} {k : Nat} {r : InR} (h : rs[k]? = some r) : sizesR (rs.take (k + 1)) = sizesR (rs.take k) + (16 + 8 * r.s.n) := by
  obtain ⟨hk, e⟩ := List.getElem?_eq_some_iff.1 h
  unfold sizesR
  rw [List.take_succ_eq_append_getElem hk, e]
  simp
theorem sizesR_le (rs : List InR) (k : Nat) : sizesR (rs.take k) ≤ sizesR rs := by
  have : sizesR rs = sizesR (rs.take k) + sizesR (rs.drop k) := by
    unfold sizesR
    rw [← List.sum_append, ← List.map_append, List.take_append_drop]
  omega
theorem sizesR_ge : ∀ rs : List InR, 16 * rs.length ≤ sizesR rs
  | [] => Nat.zero_le _
  | r :: rs => by
    have := sizesR_ge rs
    unfold sizesR at *
    simp only [List.map_cons, List.sum_cons, List.length_cons]
    omega
/-- An instruction that may be handed in. -/
structure InArg (w : World) (r : InR) : Prop where
  ls : Ls 2 cac w r.s.a r.s.n r.x.cs
  cs : ∀ c ∈ r.x.cs, Rg c.key ∧ Rg c.to_
  op : Rg r.x.op
  a : Rg r.x.a
  b : Rg r.x.b
end Go.Proofs.YteooppjbpekepaaGreatDoor
