/- Joined: WdR WdG WdB WdP WdQ WdU. -/
import Derived.Test.YteooppjbpekepaaGreatDoorJA
import Derived.Test.YteooppjbpekepaaGreatDoorJB
import Derived.Deep.CutBlock
import Derived.Deep.LoopGhost
import Derived.Deep.RegionHeld3
import Derived.Deep.RegionHeldLaw
import Derived.Laws.AppendOwnNone
import Derived.Deep.AppendLies

/- The document's own reading of numbers: wide, full, Number. -/
namespace Go.Proofs.YteooppjbpekepaaGreatDoor
open Go.RowKit
set_option linter.unusedVariables false

theorem pow_small {i : Nat} (h : i ≤ 4) : 256 ^ i ≤ 4294967296 := by
  have := Nat.pow_le_pow_right (n := 256) (by omega) h
  omega
theorem numB_take {l : List UInt8} {k : Nat} (hk : k < l.length) : numB (l.take (k + 1)) = numB (l.take k) * 256 + (l[k]).toNat := by
  rw [List.take_add_one, List.getElem?_eq_getElem hk]
  exact numB_snoc _ _
theorem numB_small {l : List UInt8} {k m : Nat} (hk : l.length ≤ k) : numB l < 256 ^ k := by
  have h1 := numB_lt l
  have h2 := Nat.pow_le_pow_right (n := 256) (by omega) hk
  omega
def valR (l : List UInt8) (sg : Bool) : Int × Int := match valW l sg with
  | none => (0, 3)
  | some n => (n, 0)
theorem half_pow {m : Nat} (h : m = 1 ∨ m = 2 ∨ m = 4) : ∃ H : Nat, 256 ^ m = 2 * H ∧ H ≤ 2147483648 := by
  rcases h with rfl | rfl | rfl
  · exact ⟨128, by decide, by omega⟩
  · exact ⟨32768, by decide, by omega⟩
  · exact ⟨2147483648, by decide, by omega⟩

end Go.Proofs.YteooppjbpekepaaGreatDoor

/- The document's own reader. -/
namespace Go.Proofs.YteooppjbpekepaaGreatDoor
open Go.RowKit
set_option linter.unusedVariables false

end Go.Proofs.YteooppjbpekepaaGreatDoor

/- An append of bytes within a region that draws; the document's reader: Bytes. -/
namespace Go.Proofs.YteooppjbpekepaaGreatDoor
open Go.RowKit
set_option linter.unusedVariables false

theorem wpB_append {w : World} {o : Oper} {a : Act} {K : Act → World → Prop} {Q : Exit → Act → World → Prop} (s x : Operand) (ho : o.op = .call { callee := .builtin .append, args := #[s, x], argTypes := #[23, 23] })
    (base : Nat) (v : Value) (n : Nat) (xs : List UInt8) (hs : a.eval s = v) (hown : w.ownsRow base 5 1 v n (bv xs)) (src : Option Addr) (m c : Nat) (ys : List UInt8) (hx : a.eval x = .slice src m c) (hb : Bs w src m ys) (hnil : src = none → m = 0 ∧ c = 0)
    (hsm : n + m ≤ 140737488355328) (hbase : base ≤ w.heap.size) (h : ∀ v' w', w'.ownsRow base 5 1 v' (n + m) (bv (xs ++ ys)) → w.grownBy w' v.ownBlock → K (a.put o.dst v') w') : o.wp Tryz.prog a w K Q := by
  obtain ⟨i0, hi, hz0, hz1, hz2⟩ := info_parts infoB
  cases src with
  | none =>
    obtain ⟨rfl, rfl⟩ := hnil rfl
    have h0 : ys = [] := List.eq_nil_of_length_eq_zero hb.1
    subst h0
    have hrun := run_append_owned_none (P := Tryz.prog) (w := w) base 23 o.type 5 i0 1 Tryz.underlying23 hi v n (bv xs) hown
    unfold Oper.wp
    simp [execOp, ho, resolve, invoke, builtin, hs, hx, hrun, Result.andThen]
    exact h v w (by rw [List.append_nil]; exact hown) ⟨rfl, rfl, rfl, Nat.le_refl _, fun _ _ _ => rfl⟩
  | some ad =>
    refine wp_append_own w s x 23 ho base 5 i0 (.int .u8 0) 1 1 Tryz.underlying23 hi hz0 hz1 hz2 rfl (by decide) v n (bv xs) hs hown ad m c (bv ys) hx (by rw [bv_length, hb.1]; omega) (hb.at.2 ad rfl) (bv_one _) (by unfold maxLen; omega) (by omega) hbase ?_
    intro v' w' h1 h2 _
    exact h v' w' (by rw [bv_append]; exact h1) h2
theorem stepB_append {w : World} {ops : Array Oper} {o : Oper} {a : Act} {K : Act → World → Prop} {Q : Exit → Act → World → Prop} {E : Prop} (hgd : o.guard = none) (s x : Operand) (ho : o.op = .call { callee := .builtin .append, args := #[s, x], argTypes := #[23, 23] })
    (base : Nat) (v : Value) (n : Nat) (xs : List UInt8) (hs : a.eval s = v) (hown : w.ownsRow base 5 1 v n (bv xs)) (src : Option Addr) (m c : Nat) (ys : List UInt8) (hx : a.eval x = .slice src m c) (hb : Bs w src m ys) (hnil : src = none → m = 0 ∧ c = 0)
    (hsm : n + m ≤ 140737488355328) (hbase : base ≤ w.heap.size) (h : ∀ v' w', w'.ownsRow base 5 1 v' (n + m) (bv (xs ++ ys)) → w.grownBy w' v.ownBlock → K (a.put o.dst v') w') :
    if Region.wanted o (yielded ops a.tmps) = true then Oper.wp Tryz.prog o a w K Q else E := by
  rw [if_pos (by simp [Region.wanted, hgd])]
  exact wpB_append s x ho base v n xs hs hown src m c ys hx hb hnil hsm hbase h

end Go.Proofs.YteooppjbpekepaaGreatDoor

/- The document's own writing of numbers: Bytes. -/
namespace Go.Proofs.YteooppjbpekepaaGreatDoor
open Go.RowKit
set_option linter.unusedVariables false

theorem beK_cons (j : Nat) : ∀ x, beK (j + 1) x = UInt8.ofNat (x / 256 ^ j) :: beK j x := by
  induction j with
  | zero => intro x; simp [beK]
  | succ j ih =>
    intro x
    rw [beK, ih, beK, List.cons_append, Nat.div_div_eq_div_mul, Nat.pow_succ, Nat.mul_comm]
def zer (n : Nat) : List UInt8 := List.replicate n 0
/-- So many noughts, in a place of their own. -/
theorem makeZ6 (w : World) (n : Nat) (hn : n ≤ 100000) : (Instr.makeSlice 23 (.int .i64 (n : Int)) (.int .i64 (n : Int))).run Tryz.prog w = .ok (.slice (some ⟨w.heap.size, 0, none⟩) n n) (w.alloc (.cells (bv (zer n)).toArray 5)) := by
  obtain ⟨i0, hi, hz0, hz1, hz2⟩ := info_parts infoB
  have := run_make (P := Tryz.prog) w 23 5 i0 (.int .u8 0) Tryz.underlying23 hi hz0 .i64 .i64 (n : Int) (n : Int) (by omega) (by omega) (by rw [hz2]; omega) (by omega)
  rw [this, hz1]
  have e : madeCells (Value.int .u8 0).cells (Int.toNat (n : Int) * 1) = (bv (zer n)).toArray := by
    apply Array.toList_inj.1
    rw [Int.toNat_natCast, Nat.mul_one]
    show (madeCells #[Value.int .u8 0] n).toList = _
    rw [toList_madeCells_one]
    simp [bv, zer]
  rw [e, Int.toNat_natCast]
/-- Between the rounds: j bytes are laid. -/
structure Bp (w : World) (m X j : Nat) (wr : World) : Prop where
  blk : wr.heap[w.heap.size]? = some (.cells (bv (zer (m - j) ++ beK j X)).toArray 5 (0, 0))
  bel : Below w.heap.size w wr
theorem Bp.next {w wr : World} {m X j : Nat} (h : Bp w m X j wr) (hj : j < m) (u : Int) (hu : u = ((X / 256 ^ j % 256 : Nat) : Int)) : Bp w m X (j + 1) (wr.setCell ⟨w.heap.size, m - j - 1, none⟩ (.int .u8 u)) := by
  refine ⟨?_, h.bel.setCell (Nat.le_refl _) _⟩
  rw [heap_setCell_same wr _ (m - j - 1) _ _ _ h.blk]
  congr 2
  apply Array.toList_inj.1
  rw [Array.toList_setIfInBounds]
  have hz : zer (m - j) = zer (m - (j + 1)) ++ [0] := by
    unfold zer
    rw [show m - j = m - (j + 1) + 1 by omega, List.replicate_succ']
  have hlz : (bv (zer (m - (j + 1)))).length = m - j - 1 := by rw [bv_length]; unfold zer; rw [List.length_replicate]; omega
  rw [beK_cons, hz, List.append_assoc, bv_append, bv_append, List.set_append_right _ _ (by omega), hlz, Nat.sub_self]
  have hb : (Value.int .u8 u) = Value.int .u8 ((UInt8.ofNat (X / 256 ^ j)).toNat : Int) := by
    rw [hu]
    simp
  rw [hb]
  simp [bv]
theorem Bp.cell {w wr : World} {m X j : Nat} (h : Bp w m X j wr) (hj : j < m) : (∃ u, wr.cell? ⟨w.heap.size, m - j - 1, none⟩ = some u) ∧ wr.frozen? ⟨w.heap.size, m - j - 1, none⟩ = false := by
  refine ⟨?_, frozen_of_row _ _ _ _ _ h.blk⟩
  have hl : (bv (zer (m - j) ++ beK j X)).length = m := by rw [bv_length, List.length_append, beK_len]; unfold zer; rw [List.length_replicate]; omega
  exact ⟨_, by rw [cell_of_row _ _ _ _ _ _ h.blk, List.getElem?_toArray, List.getElem?_eq_getElem (by omega)]⟩
theorem Bp.own {w wr : World} {m X : Nat} (h : Bp w m X m wr) (hm : m ≤ 100000) : wr.ownsRow w.heap.size 5 1 (.slice (some ⟨w.heap.size, 0, none⟩) m m) m (bv (beK m X)) := by
  have hb := h.blk
  rw [Nat.sub_self] at hb
  have hz : zer 0 ++ beK m X = beK m X := rfl
  rw [hz] at hb
  refine ⟨by rw [bv_length, beK_len]; omega, .inr ⟨_, m, _, rfl, Nat.le_refl _, hb, Nat.le_refl _, by unfold maxLen; omega, by rw [List.size_toArray, bv_length, beK_len]; omega, ?_⟩⟩
  rw [List.toList_toArray]
  exact List.take_of_length_le (by rw [bv_length, beK_len]; omega)

end Go.Proofs.YteooppjbpekepaaGreatDoor

/- What the walks of stage 6's laws ask of the program's reader and writer, whatever their inner functions and their memory are. -/
namespace Go.Proofs.YteooppjbpekepaaGreatDoor
open Go.RowKit
set_option linter.unusedVariables false

/-- Numbers in memory. -/
def Nums (w : World) (a : Option Addr) (n : Nat) (zs : List Int) : Prop := zs.length = n ∧ (n = 0 ∨ ∃ b o, a = some ⟨b, o, none⟩ ∧ ∀ (j : Nat) (z : Int), zs[j]? = some z → w.cell? ⟨b, o + j, none⟩ = some (.int .i64 z))
theorem Nums.below {w w' : World} {a : Option Addr} {n : Nat} {zs : List Int} (h : Nums w a n zs) (f : Below w.heap.size w w') : Nums w' a n zs := by
  rcases h with ⟨h1, h2 | ⟨b, o, e, h2⟩⟩
  · exact ⟨h1, .inl h2⟩
  · exact ⟨h1, .inr ⟨b, o, e, fun j z hz => by
      have h3 := h2 j z hz
      exact (f.cell (World.block_lt_of_cell? w _ h3)).trans h3⟩⟩
theorem Nums.lt {w : World} {a : Option Addr} {n : Nat} {zs : List Int} (h : Nums w a n zs) {b o : Nat} (e : a = some ⟨b, o, none⟩) (hn : 0 < n) : b < w.heap.size := by
  obtain ⟨b', o', e', hc⟩ := h.2.resolve_left (by omega)
  have hl := h.1
  rw [e] at e'
  injection e' with e'
  injection e' with e1 e2
  subst e1
  exact World.block_lt_of_cell? w _ (hc 0 _ (List.getElem?_eq_getElem (by omega)))
theorem nums_one (w : World) (z : Int) : Nums (w.alloc (.cells #[.int .i64 z] 3)) (some ⟨w.heap.size, 0, none⟩) 1 [z] := by
  refine ⟨rfl, .inr ⟨_, _, rfl, fun j y hy => ?_⟩⟩
  have h := heap_alloc_last w (.cells #[.int .i64 z] 3)
  match j with
  | 0 =>
    simp at hy
    subst hy
    rw [cell_of_row _ _ _ _ _ _ h]
    rfl
  | j + 1 => simp at hy
/-- What a step on a reader or a writer (its blocks: F) may turn. -/
structure Fr6 (F : Nat → Prop) (B : Nat) (w w' : World) : Prop where
  below : Below B w w'
  other : ∀ k, k < w.heap.size → ¬ F k → w'.heap[k]? = w.heap[k]?
theorem Fr6.of_below {F : Nat → Prop} {B : Nat} {w w' : World} (f : Below w.heap.size w w') (hB : B ≤ w.heap.size) : Fr6 F B w w' := ⟨f.mono hB, fun k hk _ => f.block k hk⟩

section
variable {RD : (Nat → Prop) → World → Nat → Nat → List UInt8 → Nat → Prop} {WR : (Nat → Prop) → World → Nat → Nat → List UInt8 → Prop}
theorem Arg.len {w : World} {a : Option Addr} {n c : Nat} {bs : List UInt8} (h : Arg w a n c bs) : bs.length = n := h.bs.1

end

end Go.Proofs.YteooppjbpekepaaGreatDoor

/- The document's own writing of numbers: Put. -/
namespace Go.Proofs.YteooppjbpekepaaGreatDoor
open Go.RowKit
set_option linter.unusedVariables false

theorem listB_append {w : World} {ops : Array Oper} {rest : List Oper} {o : Oper} {a : Act} {Q : Exit → Act → World → Prop} (hgd : o.guard = none) (s x : Operand) (ho : o.op = .call { callee := .builtin .append, args := #[s, x], argTypes := #[23, 23] })
    (base : Nat) (v : Value) (n : Nat) (xs : List UInt8) (hs : a.eval s = v) (hown : w.ownsRow base 5 1 v n (bv xs)) (src : Option Addr) (m c : Nat) (ys : List UInt8) (hx : a.eval x = .slice src m c) (hb : Bs w src m ys) (hnil : src = none → m = 0 ∧ c = 0)
    (hsm : n + m ≤ 140737488355328) (hbase : base ≤ w.heap.size) (h : ∀ v' w', w'.ownsRow base 5 1 v' (n + m) (bv (xs ++ ys)) → w.grownBy w' v.ownBlock → wpList Tryz.prog ops Q rest (a.put o.dst v') w') : wpList Tryz.prog ops Q (o :: rest) a w :=
  wpList_plain hgd fun K hK => wpB_append s x ho base v n xs hs hown src m c ys hx hb hnil hsm hbase (fun v' w' h1 h2 => hK _ _ (h v' w' h1 h2))
theorem flat_len (k : Int) (zs : List Int) : (zs.flatMap (bytesW k)).length = zs.length * k.toNat := by
  induction zs with
  | nil => simp
  | cons z zs ih => rw [List.flatMap_cons, List.length_append, ih, bytesW_len, List.length_cons, Nat.add_mul]; omega
theorem putW_ok {bs : List UInt8} {k : Int} {sg : Bool} {zs : List Int} (hw : wide k) (h : ∀ z ∈ zs, fitsW k z sg) : putW bs k sg zs = (bs ++ zs.flatMap (bytesW k), 0) := if_pos ⟨hw, h⟩
theorem putW_no {bs : List UInt8} {k : Int} {sg : Bool} {zs : List Int} (h : ¬ (wide k ∧ ∀ z ∈ zs, fitsW k z sg)) : putW bs k sg zs = (bs, 2) := if_neg h
/-- What Put leaves. -/
def PutR (w : World) (a : Option Addr) (n c : Nat) (R : List UInt8 × Int) (e : Ending) (w' : World) : Prop :=
  ∃ a' n' c', e = .returned (.tuple #[.slice a' n' c', .int .i64 R.2]) ∧ (R.2 = 0 → w'.ownsRow w.heap.size 5 1 (.slice a' n' c') n' (bv R.1)) ∧ (R.2 ≠ 0 → a' = a ∧ n' = n ∧ c' = c) ∧ Below w.heap.size w w'
/-- Between the rounds of Put. -/
structure PU (w : World) (bs : List UInt8) (k : Int) (sg : Bool) (zs : List Int) (i : Nat) (u : Value) (wr : World) : Prop where
  own : wr.ownsRow w.heap.size 5 1 u (bs.length + i * k.toNat) (bv (bs ++ (zs.take i).flatMap (bytesW k)))
  fit : ∀ z ∈ zs.take i, fitsW k z sg
  bel : Below w.heap.size w wr
theorem PU.next {w wr w1 w2 : World} {bs : List UInt8} {k : Int} {sg : Bool} {zs : List Int} {i : Nat} {u u' : Value} {z : Int} (h : PU w bs k sg zs i u wr) (hz : zs[i]? = some z) (hf : fitsW k z sg) (f1 : Below wr.heap.size wr w1) (m : Nat) (hm : m = k.toNat) (ho : w2.ownsRow w.heap.size 5 1 u' (bs.length + i * k.toNat + m) (bv (bs ++ (zs.take i).flatMap (bytesW k) ++ bytesW k z))) (hg : w1.grownBy w2 u.ownBlock) : PU w bs k sg zs (i + 1) u' w2 := by
  have ht : zs.take (i + 1) = zs.take i ++ [z] := by rw [List.take_add_one, hz]; rfl
  refine ⟨?_, ?_, ?_⟩
  · rw [ht, List.flatMap_append, ← List.append_assoc, List.flatMap_singleton, Nat.add_mul, Nat.one_mul, ← Nat.add_assoc, ← hm]
    rw [← hm] at ho
    exact ho
  · intro y hy
    rw [ht, List.mem_append] at hy
    rcases hy with hy | hy
    · exact h.fit y hy
    · simp at hy
      subst hy
      exact hf
  · exact (h.bel.trans (f1.mono h.bel.size)).grown hg (Nat.le_trans h.bel.size f1.size) (fun x hx => (h.own.lt x hx).1)

end Go.Proofs.YteooppjbpekepaaGreatDoor
