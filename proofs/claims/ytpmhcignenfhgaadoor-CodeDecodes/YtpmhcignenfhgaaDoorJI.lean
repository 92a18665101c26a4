/- The landed pool: a reader while a pool is read; readText, readTwo. -/
import Derived.Test.YtpmhcignenfhgaaDoorJC
import Derived.Test.YtpmhcignenfhgaaDoorJG

namespace Go.Proofs.YtpmhcignenfhgaaDoor
open Go.RowKit
set_option linter.unusedVariables false

theorem krd_lt {F : Nat → Prop} {w : World} {B x : Nat} {bs : List UInt8} {i : Nat} (h : RD F w B x bs i) : ∀ k, F k → B ≤ k ∧ k < w.heap.size := by
  obtain ⟨y, c, rfl, h⟩ := h
  intro k hk
  rcases hk with rfl | rfl
  · exact ⟨h.hx, h.xlt⟩
  · exact h.y
theorem krd_below {F : Nat → Prop} {w w' : World} {B x : Nat} {bs : List UInt8} {i : Nat} (h : RD F w B x bs i) (f : Below w.heap.size w w') : RD F w' B x bs i := by
  obtain ⟨y, c, rfl, h⟩ := h
  exact ⟨y, c, rfl, h.below f⟩
theorem kfr2_trans {F F1 : Nat → Prop} {B : Nat} {w w1 w2 : World} (f1 : Fr6 F B w w1) (f2 : Fr6 F1 B w1 w2) (hF : ∀ k, F1 k → F k ∨ w.heap.size ≤ k) : Fr6 F B w w2 :=
  ⟨f1.below.trans f2.below, fun k hk hn => (f2.other k (Nat.lt_of_lt_of_le hk f1.below.size) (fun h => (hF k h).elim hn (fun h => by omega))).trans (f1.other k hk hn)⟩
/-- A reader of bs at i, since w0. -/
structure RS (F0 : Nat → Prop) (w0 : World) (B x : Nat) (bs : List UInt8) (i : Nat) (W : World) : Prop where
  ex : ∃ F, RD F W B x bs i ∧ ∀ j, F j → F0 j ∨ w0.heap.size ≤ j
  fr : Fr6 F0 B w0 W
  kp : Kx x w0 W
theorem RS.start {F0 : Nat → Prop} {w : World} {B x : Nat} {bs : List UInt8} {i : Nat} (h : RD F0 w B x bs i) : RS F0 w B x bs i w := ⟨⟨F0, h, fun j hj => .inl hj⟩, ⟨Below.refl _ _, fun _ _ _ => rfl⟩, fun _ _ _ => rfl⟩
theorem RS.below {F0 : Nat → Prop} {w0 W W' : World} {B x : Nat} {bs : List UInt8} {i : Nat} (h : RS F0 w0 B x bs i W) (hB : B ≤ w0.heap.size) (f : Below W.heap.size W W') : RS F0 w0 B x bs i W' := by
  obtain ⟨F, h1, h2⟩ := h.ex
  exact ⟨⟨F, krd_below h1 f, h2⟩, kfr2_trans (F1 := fun _ => False) h.fr (Fr6.of_below f (Nat.le_trans hB h.fr.below.size)) (fun k hk => hk.elim), fun k hk hx => (f.block k (Nat.lt_of_lt_of_le hk h.fr.below.size)).trans (h.kp k hk hx)⟩
theorem RS.next {F0 F F' : Nat → Prop} {w0 W W' : World} {B x : Nat} {bs : List UInt8} {i i' : Nat} (h : RS F0 w0 B x bs i W) (hF : ∀ j, F j → F0 j ∨ w0.heap.size ≤ j) (h1 : RD F' W' B x bs i') (h2 : ∀ j, F' j → F j ∨ W.heap.size ≤ j) (f : Fr6 F B W W') (kx : Kx x W W') : RS F0 w0 B x bs i' W' :=
  ⟨⟨F', h1, fun j hj => (h2 j hj).elim (fun e => hF j e) (fun e => .inr (Nat.le_trans h.fr.below.size e))⟩, kfr2_trans h.fr f hF, fun k hk hx => (kx k (Nat.lt_of_lt_of_le hk h.fr.below.size) hx).trans (h.kp k hk hx)⟩
theorem RS.leave {F0 F : Nat → Prop} {w0 w w1 W : World} {B x : Nat} {bs : List UInt8} {i i' : Nat} (h : RS F0 w0 B x bs i w) (hB : B ≤ w0.heap.size) (hF : ∀ j, F j → F0 j ∨ w0.heap.size ≤ j) (b : Below w.heap.size w w1) (g : RS F w1 B x bs i' W) : RS F0 w0 B x bs i' W := by
  obtain ⟨F', h1, h2⟩ := g.ex
  have hs := h.fr.below.size
  exact ⟨⟨F', h1, fun j hj => (h2 j hj).elim (fun e => hF j e) (fun e => .inr (Nat.le_trans hs (Nat.le_trans b.size e)))⟩, kfr2_trans h.fr (kfr2_trans (Fr6.of_below b (Nat.le_trans hB hs)) g.fr (fun k hk => .inl hk)) hF, fun k hk hx => (g.kp k (Nat.lt_of_lt_of_le hk (Nat.le_trans hs b.size)) hx).trans ((b.block k (Nat.lt_of_lt_of_le hk hs)).trans (h.kp k hk hx))⟩
theorem rs_u {F0 : Nat → Prop} {w0 W : World} {B x : Nat} {bs : List UInt8} {i : Nat} (h : RS F0 w0 B x bs i W) (k : Int) (hs : bs.length ≤ 140737488351232) (hi : i ≤ bs.length) (hk : -9223372036854775808 ≤ k ∧ k ≤ 9223372036854775807) :
    Calls Tryd.prog 77 #[.pointer (some ⟨x, 0, none⟩), .int .i64 k] W fun e w' => e = .returned (.tuple #[.int .i64 (getW bs i k false).1, .int .i64 (getW bs i k false).2.1]) ∧ RS F0 w0 B x bs (getW bs i k false).2.2 w' := by
  obtain ⟨F, h1, h2⟩ := h.ex
  refine (dU_all F W B x bs i k h1 hs hi hk).mono ?_
  rintro e w' ⟨rfl, ⟨F', r1, r2⟩, r3, r4⟩
  exact ⟨rfl, h.next h2 r1 r2 r3 r4⟩
theorem rs_s {F0 : Nat → Prop} {w0 W : World} {B x : Nat} {bs : List UInt8} {i : Nat} (h : RS F0 w0 B x bs i W) (k : Int) (hs : bs.length ≤ 140737488351232) (hi : i ≤ bs.length) (hk : -9223372036854775808 ≤ k ∧ k ≤ 9223372036854775807) :
    Calls Tryd.prog 76 #[.pointer (some ⟨x, 0, none⟩), .int .i64 k] W fun e w' => e = .returned (.tuple #[.int .i64 (getW bs i k true).1, .int .i64 (getW bs i k true).2.1]) ∧ RS F0 w0 B x bs (getW bs i k true).2.2 w' := by
  obtain ⟨F, h1, h2⟩ := h.ex
  refine (dS_all F W B x bs i k h1 hs hi hk).mono ?_
  rintro e w' ⟨rfl, ⟨F', r1, r2⟩, r3, r4⟩
  exact ⟨rfl, h.next h2 r1 r2 r3 r4⟩
/-- The text that comes, behind its length. -/
def textR (bs : List UInt8) (i : Nat) : List UInt8 × Int × Nat :=
  if (getW bs i 2 false).2.1 ≠ 0 then ([], (getW bs i 2 false).2) else takeW bs (getW bs i 2 false).2.2 (getW bs i 2 false).1
/-- Two numbers that come. -/
def twoR (bs : List UInt8) (i : Nat) : Int × Int × Int × Nat :=
  if (getW bs i 2 false).2.1 ≠ 0 then (0, 0, (getW bs i 2 false).2) else ((getW bs i 2 false).1, (getW bs (getW bs i 2 false).2.2 2 false).1, (getW bs (getW bs i 2 false).2.2 2 false).2)
theorem kgetW_rng {b : List UInt8} {i : Nat} {k : Int} {sg : Bool} : -9223372036854775808 ≤ (getW b i k sg).1 ∧ (getW b i k sg).1 ≤ 9223372036854775807 := by
  unfold getW
  split
  · rename_i hw
    split
    · show (-9223372036854775808 : Int) ≤ 0 ∧ (0 : Int) ≤ _
      omega
    · cases hv : valW ((b.drop i).take k.toNat) sg with
      | none =>
        show (-9223372036854775808 : Int) ≤ 0 ∧ (0 : Int) ≤ _
        omega
      | some n =>
        show (-9223372036854775808 : Int) ≤ n ∧ n ≤ _
        have hlt := numB_lt ((b.drop i).take k.toNat)
        have hl : ((b.drop i).take k.toNat).length ≤ k.toNat := by rw [List.length_take]; omega
        unfold valW at hv
        split at hv
        · rename_i h8
          rw [h8] at hlt
          split at hv
          · injection hv with hv
            split at hv <;> omega
          · split at hv
            · injection hv with hv
              omega
            · cases hv
        · rename_i h8
          have h7 : ((b.drop i).take k.toNat).length ≤ 7 := by
            obtain ⟨m, rfl, hm⟩ := wide_nat hw
            omega
          have hp := Nat.pow_le_pow_right (n := 256) (by omega) h7
          split at hv
          · injection hv with hv
            omega
          · injection hv with hv
            omega
  · show (-9223372036854775808 : Int) ≤ 0 ∧ (0 : Int) ≤ _
    omega

end Go.Proofs.YtpmhcignenfhgaaDoor
