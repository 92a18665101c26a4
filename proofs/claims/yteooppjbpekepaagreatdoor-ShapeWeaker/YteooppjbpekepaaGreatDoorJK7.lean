/- Joined: KsK KsL. -/
import Derived.Test.YteooppjbpekepaaGreatDoorJK6

/- Does going up end from each class: the law's own ends. -/
namespace Go.Proofs.YteooppjbpekepaaGreatDoor
open Go.RowKit
set_option linter.unusedVariables false
set_option maxRecDepth 100000

theorem fstN_first {l : List Nc} {nm : List UInt8} {k : Nat} (h : fstN l nm = some k) (j : Nat) (c : Nc) (hj : j < k) (hc : l[j]? = some c) : c.name ≠ nm := by
  unfold fstN at h
  rw [List.findIdx?_eq_some_iff_getElem] at h
  obtain ⟨hk, _, h2⟩ := h
  have := h2 j hj
  rw [(List.getElem?_eq_some_iff.1 hc).2] at this
  simpa using this
theorem up_few (l : List Nc) (nm : List UInt8) : (upL l nm).length ≤ l.length + 1 := by
  have key : ∀ (f : Nat) (met : List Nat) (p : Option Nat), (upF l f met p).length ≤ f := by
    intro f
    induction f with
    | zero => intro met p; simp [upF]
    | succ f ih =>
      intro met p
      cases p with
      | none => simp [upF]
      | some p =>
        unfold upF
        split
        · simp
        · split
          · simp
          · split
            · simp
            · rename_i q _ _
              have := ih (p :: met) (some q)
              simp only [List.length_cons]
              omega
  exact key _ _ _
def EndPost (l : List Nc) (e : Ending) : Prop := ∃ b, e = .returned (.bool b) ∧ (b = true → EndsAll l)
end Go.Proofs.YteooppjbpekepaaGreatDoor

/- The walk of KindOrder. -/
namespace Go.Proofs.YteooppjbpekepaaGreatDoor
open Go.RowKit
set_option linter.unusedVariables false
set_option maxRecDepth 100000

theorem three_boxes (w : World) (x0 x1 y0 y1 z0 z1 : Value) : ∃ w0, w0 = ((w.alloc (.cells #[x0, x1] 52)).alloc (.cells #[y0, y1] 52)).alloc (.cells #[z0, z1] 52) ∧ Bx2c w0 w.heap.size x0 x1 ∧ Bx2c w0 (w.heap.size + 1) y0 y1 ∧ Bx2c w0 (w.heap.size + 1 + 1) z0 z1 ∧ Below w.heap.size w w0 := by
  refine ⟨_, rfl, ((Bx2c.made _ _ _).keep (bA (Below.refl _ _) _)).keep (bA (Below.refl _ _) _), ?_, ?_, bA (bA (bA (Below.refl _ _) _) _) _⟩
  · have t := Bx2c.made (w.alloc (.cells #[x0, x1] 52)) y0 y1
    rw [show (w.alloc (.cells #[x0, x1] 52)).heap.size = w.heap.size + 1 by simp] at t
    exact t.keep (bA (Below.refl _ _) _)
  · have t := Bx2c.made ((w.alloc (.cells #[x0, x1] 52)).alloc (.cells #[y0, y1] 52)) z0 z1
    rw [show ((w.alloc (.cells #[x0, x1] 52)).alloc (.cells #[y0, y1] 52)).heap.size = w.heap.size + 1 + 1 by simp] at t
    exact t
structure Bx3 (W : World) (B : Nat) (x y z : Ty) (X Y Z : ByteArray) : Prop where
  bx : Bx2c W B (.int .i64 x.kind) (.string X)
  by_ : Bx2c W (B + 1) (.int .i64 y.kind) (.string Y)
  bz : Bx2c W (B + 1 + 1) (.int .i64 z.kind) (.string Z)
theorem Bx3.keep {W W' : World} {B : Nat} {x y z : Ty} {X Y Z : ByteArray} (h : Bx3 W B x y z X Y Z) (f : Below W.heap.size W W') : Bx3 W' B x y z X Y Z := ⟨h.bx.keep f, h.by_.keep f, h.bz.keep f⟩
theorem Bx3.cells {W : World} {B : Nat} {x y z : Ty} {X Y Z : ByteArray} (h : Bx3 W B x y z X Y Z) : (W.cell? ⟨B, 0, none⟩ = some (.int .i64 x.kind) ∧ W.cell? ⟨B, 1, none⟩ = some (.string X)) ∧ (W.cell? ⟨B + 1, 0, none⟩ = some (.int .i64 y.kind) ∧ W.cell? ⟨B + 1, 1, none⟩ = some (.string Y)) ∧ (W.cell? ⟨B + 1 + 1, 0, none⟩ = some (.int .i64 z.kind) ∧ W.cell? ⟨B + 1 + 1, 1, none⟩ = some (.string Z)) :=
  ⟨⟨h.bx.cells.1, h.bx.cells.2.1⟩, ⟨h.by_.cells.1, h.by_.cells.2.1⟩, ⟨h.bz.cells.1, h.bz.cells.2.1⟩⟩
end Go.Proofs.YteooppjbpekepaaGreatDoor
