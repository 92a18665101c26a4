/- Joined: CfD CfE CfF. -/
import Derived.Test.YteooppjbpekepaaGreatDoorJO
import Derived.Test.YteooppjbpekepaaGreatDoorJCeH

/- The landed code: cases. -/
namespace Go.Proofs.YteooppjbpekepaaGreatDoor
open Go.RowKit
set_option linter.unusedVariables false
set_option maxRecDepth 100000

/-- So many, one behind the other, by their numbers. -/
def many9 {α : Type} (one : Nat → Nat → Option (α × Nat)) : Nat → Nat → Nat → Option (List α × Nat)
  | 0, _, i => some ([], i)
  | n + 1, k, i => (one k i).bind fun x => (many9 one n (k + 1) x.2).bind fun r => some (x.1 :: r.1, r.2)
theorem many9_succ {α : Type} (one : Nat → Nat → Option (α × Nat)) (n k i : Nat) : many9 one (n + 1) k i = (one k i).bind fun x => (many9 one n (k + 1) x.2).bind fun r => some (x.1 :: r.1, r.2) := rfl
def slN9 : Value → Nat
  | .slice _ n _ => n
  | _ => 0
/-- Between two of them. -/
structure Mid9 {α : Type} (one : Nat → Nat → Option (α × Nat)) (N i : Nat) (wr : Bool) (xs : List α) (j : Nat) (wj : Bool) : Prop where
  tru : wr = true → wj = true
  no : wr = false → wj = true → many9 one N 0 i = none
  yes : wr = false → wj = false → many9 one N 0 i = (many9 one (N - xs.length) xs.length j).bind fun r => some (xs ++ r.1, r.2)
  le : i ≤ j
theorem Mid9.start {α : Type} (one : Nat → Nat → Option (α × Nat)) (N i : Nat) (wr : Bool) : Mid9 one N i wr [] i wr :=
  ⟨fun e => e, (fun e1 e2 => by rw [e1] at e2; cases e2), (fun _ _ => by cases h : many9 one N 0 i <;> simp), Nat.le_refl _⟩
theorem Mid9.next {α : Type} {one : Nat → Nat → Option (α × Nat)} {N i : Nat} {wr : Bool} {xs : List α} {j : Nat} (h : Mid9 one N i wr xs j false) (hl : xs.length < N) {x : α} {j' : Nat} {w' : Bool} (g : G9 (one xs.length j) false x j' w') (hle : j ≤ j') : Mid9 one N i wr (xs ++ [x]) j' w' := by
  have hwr : wr = false := by cases wr; rfl; have := h.tru rfl; cases this
  have h2 := h.yes hwr rfl
  obtain ⟨m, hm⟩ : ∃ m, N - xs.length = m + 1 := ⟨N - xs.length - 1, by omega⟩
  rw [hm, many9_succ] at h2
  refine ⟨(fun e => by rw [hwr] at e; cases e), fun _ e => ?_, fun _ e => ?_, by have := h.le; omega⟩
  · rcases g.2 rfl with ⟨_, g2⟩ | ⟨g1, g2⟩
    · rw [g2] at e; cases e
    · rw [h2, g1]; rfl
  · rcases g.2 rfl with ⟨g1, g2⟩ | ⟨g1, g2⟩
    · rw [h2, g1, List.length_append, List.length_cons, List.length_nil, show N - (xs.length + (0 + 1)) = m by omega, Nat.zero_add]
      simp only [Option.bind_some]
      cases many9 one m (xs.length + 1) j' with
      | none => rfl
      | some r => simp
    · rw [g2] at e; cases e
theorem Mid9.done {α : Type} {one : Nat → Nat → Option (α × Nat)} {N i : Nat} {wr : Bool} {xs : List α} {j : Nat} {wj : Bool} (h : Mid9 one N i wr xs j wj) (hx : ¬ xs.length < N ∨ wj = true) (hl : xs.length ≤ N) : G9 (many9 one N 0 i) wr xs j wj := by
  refine ⟨h.tru, fun e => ?_⟩
  cases wj with
  | true => exact .inr ⟨h.no e rfl, rfl⟩
  | false =>
    refine .inl ⟨?_, rfl⟩
    rw [h.yes e rfl, show N - xs.length = 0 by have := hx.resolve_right (by simp); omega]
    simp [many9]
def CasFit (x : Cas) : Prop := (-9000000000000000000 ≤ x.key ∧ x.key ≤ 9000000000000000000) ∧ (-9000000000000000000 ≤ x.to_ ∧ x.to_ ≤ 9000000000000000000)
/-- One case, its key told by keyR. -/
def one9 (keyR : Nat → Nat → Option (Int × Nat)) (bs : List UInt8) (bg : Int) (k j : Nat) : Option (Cas × Nat) := (keyR k j).bind fun x => (gR bs x.2 4 true).bind fun y => some (⟨x.1, bg + y.1⟩, y.2)
def casR (keyR : Nat → Nat → Option (Int × Nat)) (bs : List UInt8) (bg n : Int) (i : Nat) : Option (List Cas × Nat) := if n ≤ 256 then many9 (one9 keyR bs bg) n.toNat 0 i else none
theorem orw_blk0 {α : Type} {cs : α → List Value} {e : TypeId} {sz : Nat} {w : World} {base : Nat} {v : Value} {l : List α} (h : Orw cs e sz w base v l) {k : Nat} (hk : v.ownBlock = some k) : ∃ X fr, w.heap[k]? = some (.cells X e fr) ∧ fr = (0, 0) := by
  rcases h.2 with ⟨hv, _⟩ | ⟨g, cap, cur, hv, hb, hh, r⟩
  · rw [hv] at hk; cases hk
  · rw [hv] at hk
    injection hk with hk
    subst hk
    exact ⟨_, _, hh, rfl⟩
theorem FX9.grown {C : Cr9} {w W W' : World} (f : FX9 C w W) (hB : C.B ≤ w.heap.size) {α : Type} {cs : α → List Value} {e : TypeId} {sz : Nat} {v : Value} {l : List α} (o : Orw cs e sz W w.heap.size v l) (g : W.grownBy W' v.ownBlock) : FX9 C w W' :=
  ⟨f.below.grown g (Nat.le_trans hB f.size) (fun k hk => Nat.le_trans hB (o.lt k hk).1), fun k hk hn => (g.block k (Nat.lt_of_lt_of_le hk f.size) (fun ek => by have := (o.lt k ek.symm).1; omega)).trans (f.other k hk hn)⟩
end Go.Proofs.YteooppjbpekepaaGreatDoor

/- The landed code: rise, table, search. -/
namespace Go.Proofs.YteooppjbpekepaaGreatDoor
open Go.RowKit
set_option linter.unusedVariables false
set_option maxRecDepth 100000

theorem tab_many (bs : List UInt8) (bg first : Int) : ∀ (n k i : Nat), tabR bs bg n (first + (k : Int)) i = many9 (one9 (fun (k j : Nat) => some (first + (k : Int), j)) bs bg) n k i
  | 0, k, i => rfl
  | n + 1, k, i => by
    have e1 : one9 (fun (k j : Nat) => some (first + (k : Int), j)) bs bg k i = (gR bs i 4 true).bind fun y => some (⟨first + (k : Int), bg + y.1⟩, y.2) := rfl
    rw [many9_succ, e1]
    conv => lhs; unfold tabR
    cases gR bs i 4 true with
    | none => rfl
    | some x =>
      simp only [Option.bind_some]
      rw [← tab_many bs bg first n (k + 1) x.2, show first + ((k + 1 : Nat) : Int) = first + (k : Int) + 1 by omega]
theorem sea_many (bs : List UInt8) (bg : Int) : ∀ (n k i : Nat), seaR bs bg n i = many9 (one9 (fun (_ j : Nat) => gR bs j 4 true) bs bg) n k i
  | 0, k, i => rfl
  | n + 1, k, i => by
    have e1 : one9 (fun (_ j : Nat) => gR bs j 4 true) bs bg k i = (gR bs i 4 true).bind fun x => (gR bs x.2 4 true).bind fun y => some (⟨x.1, bg + y.1⟩, y.2) := rfl
    rw [many9_succ, e1]
    conv => lhs; unfold seaR
    cases gR bs i 4 true with
    | none => rfl
    | some x =>
      simp only [Option.bind_some]
      cases gR bs x.2 4 true with
      | none => rfl
      | some y =>
        simp only [Option.bind_some]
        rw [← sea_many bs bg n (k + 1) y.2]
/-- Each key is above the one ahead, up to a place. -/
def RiseTo (l : List Cas) (k : Nat) : Prop := ∀ j x y, j + 1 < k → l[j]? = some x → l[j + 1]? = some y → x.key < y.key
theorem riseC_iff : ∀ l : List Cas, riseC l = true ↔ RiseTo l l.length
  | [] => ⟨fun _ j x y h => by simp at h, fun _ => rfl⟩
  | [a] => ⟨fun _ j x y h => by simp at h, fun _ => rfl⟩
  | a :: b :: r => by
    unfold riseC
    rw [Bool.and_eq_true, riseC_iff (b :: r), decide_eq_true_iff]
    constructor
    · rintro ⟨h1, h2⟩ j x y hj hx hy
      cases j with
      | zero => simp at hx hy; rw [← hx, ← hy]; exact h1
      | succ j => exact h2 j x y (by simp at hj ⊢; omega) (by simpa using hx) (by simpa using hy)
    · intro h
      exact ⟨h 0 a b (by simp) rfl rfl, fun j x y hj hx hy => h (j + 1) x y (by simp at hj ⊢; omega) (by simpa using hx) (by simpa using hy)⟩
theorem ret_b {a b : Bool} (h : a = b) : Ending.returned (.bool a) = .returned (.bool b) := by rw [h]
end Go.Proofs.YteooppjbpekepaaGreatDoor

/- The landed code: table, search. -/
namespace Go.Proofs.YteooppjbpekepaaGreatDoor
open Go.RowKit
set_option linter.unusedVariables false
set_option maxRecDepth 100000

def tabG (bs : List UInt8) (bg first : Int) (i : Nat) : Option (List Cas × Nat) := (gR bs i 4 true).bind fun z => if 1 ≤ z.1 - first + 1 ∧ z.1 - first + 1 ≤ 256 then tabR bs bg (z.1 - first + 1).toNat first z.2 else none
def seaG (bs : List UInt8) (bg : Int) (i : Nat) : Option (List Cas × Nat) := (gR bs i 4 false).bind fun y => if y.1 ≤ 256 then (seaR bs bg y.1.toNat y.2).bind fun r => if riseC r.1 = true then some r else none else none
theorem tab_got {bs : List UInt8} {bg first z n : Int} {i i1 i2 : Nat} {wg w1 w3 : Bool} {xs : List Cas} (g1 : G9 (gR bs i 4 true) wg z i1 w1) (hn : n = z - first + 1) (g2 : G9 (casR (fun (k j : Nat) => some (first + (k : Int), j)) bs bg n i1) (w1 || decide (n < 1)) xs i2 w3) : G9 (tabG bs bg first i) wg xs i2 w3 := by
  refine g1.bind ⟨fun e => g2.1 (by rw [e]; rfl), fun e => ?_⟩
  subst e
  subst hn
  unfold casR at g2
  by_cases h1 : z - first + 1 < 1
  · rw [decide_eq_true h1] at g2
    rw [if_neg (by omega)]
    exact .inr ⟨rfl, g2.1 rfl⟩
  · rw [decide_eq_false h1] at g2
    by_cases h2 : z - first + 1 ≤ 256
    · rw [if_pos (by omega), show tabR bs bg (z - first + 1).toNat first i1 = tabR bs bg (z - first + 1).toNat (first + ((0 : Nat) : Int)) i1 by simp, tab_many]
      rw [if_pos h2] at g2
      exact g2.2 rfl
    · rw [if_neg (by omega)]
      rw [if_neg h2] at g2
      exact g2.2 rfl
theorem sea_got {bs : List UInt8} {bg y : Int} {i i1 i2 : Nat} {wg w1 w3 : Bool} {xs : List Cas} (g1 : G9 (gR bs i 4 false) wg y i1 w1) (g2 : G9 (casR (fun (_ j : Nat) => gR bs j 4 true) bs bg y i1) w1 xs i2 w3) : G9 (seaG bs bg i) wg xs i2 (w3 || !riseC xs) := by
  refine g1.bind ?_
  unfold casR at g2
  show G9 (if y ≤ 256 then _ else none) w1 xs i2 _
  by_cases h2 : y ≤ 256
  · rw [if_pos h2, sea_many bs bg y.toNat 0 i1]
    rw [if_pos h2] at g2
    have := g2.refuse (fun xs => !riseC xs)
    have e : (fun r : List Cas × Nat => if riseC r.1 = true then some r else none) = fun x : List Cas × Nat => if (!riseC x.1) = true then none else some x := by
      funext x
      cases riseC x.1 <;> rfl
    rw [e]
    exact this
  · rw [if_neg h2]
    rw [if_neg h2] at g2
    refine ⟨fun e => by rw [g2.1 e]; rfl, fun e => .inr ⟨rfl, ?_⟩⟩
    rcases g2.2 e with ⟨g, _⟩ | ⟨_, g⟩
    · cases g
    · rw [g]; rfl
end Go.Proofs.YteooppjbpekepaaGreatDoor
