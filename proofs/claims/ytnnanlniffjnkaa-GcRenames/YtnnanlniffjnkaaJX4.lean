/- Joined: PkB PkC PkD CkB WdR WdG WdB WdP WdQ. -/
import Derived.Test.YtnnanlniffjnkaaJX1
import Derived.Test.YtnnanlniffjnkaaJX3
import Derived.Test.YtnnanlniffjnkaaJX0
import Derived.Maps.OwnSet
import Derived.Deep.CutBlock
import Derived.Deep.LoopGhost
import Derived.Deep.RegionHeld3
import Derived.Deep.RegionHeldLaw
import Derived.Laws.AppendOwnNone
import Derived.Deep.AppendLies

/- The landed pool: its small functions. -/
namespace Go.Proofs.Ytnnanlniffjnkaa
open Go.RowKit
set_option linter.unusedVariables false

theorem ents_at {w : World} {b o : Nat} {l : List Ent} (h : EntsAt w (some ⟨b, o, none⟩) l) {k : Nat} (hk : k < l.length) :
    w.cell? ⟨b, o + k * 5, none⟩ = some (.int .i64 (atE l (k : Int)).tag) ∧ w.cell? ⟨b, o + k * 5 + 1, none⟩ = some (.string ⟨(atE l (k : Int)).text.toArray⟩) ∧ w.cell? ⟨b, o + k * 5 + 2, none⟩ = some (.int .i64 (atE l (k : Int)).n) ∧ w.cell? ⟨b, o + k * 5 + 3, none⟩ = some (.int .i64 (atE l (k : Int)).a) ∧ w.cell? ⟨b, o + k * 5 + 4, none⟩ = some (.int .i64 (atE l (k : Int)).b) := by
  have e : l[k]? = some (atE l (k : Int)) := by rw [atE_nat, List.getElem?_eq_getElem hk]; rfl
  exact ents_get h e
theorem wrap32_eq (n : Int) (hn : -9223372036854775808 ≤ n ∧ n ≤ 9223372036854775807) : (wrap64 (wrap32 n) == n) = decide (-2147483648 ≤ n ∧ n ≤ 2147483647) := by
  rw [Bool.eq_iff_iff, beq_iff_eq, decide_eq_true_eq]
  unfold wrap64 wrap32
  omega
end Go.Proofs.Ytnnanlniffjnkaa

/- The landed pool: just, leadsRight. -/
namespace Go.Proofs.Ytnnanlniffjnkaa
open Go.RowKit
set_option linter.unusedVariables false

theorem k3_bel (w : World) (X Y Z : Obj) : Below w.heap.size w (((w.alloc X).alloc Y).alloc Z) := (two_bel w X Y).alloc (by simp; omega) _
theorem k3_mid (w : World) (X Y Z : Obj) : (((w.alloc X).alloc Y).alloc Z).heap[w.heap.size + 1]? = some Y := (heap_alloc_old _ _ (by simp)).trans (heap_alloc2_new w X Y)
end Go.Proofs.Ytnnanlniffjnkaa

/- The landed pool: isRight, Check. -/
namespace Go.Proofs.Ytnnanlniffjnkaa
open Go.RowKit
set_option linter.unusedVariables false

theorem Es.at {w : World} {a : Option Addr} {n : Nat} {l : List Ent} (h : Es w a n l) {k : Nat} (hk : k < n) : l[k]? = some (atE l (k : Int)) := by
  rw [atE_nat, List.getElem?_eq_getElem (by rw [h.1]; exact hk)]
  rfl
end Go.Proofs.Ytnnanlniffjnkaa

/- The landed class: names in memory; hasClass, hasTexts, tagAt, isUpTo. -/
namespace Go.Proofs.Ytnnanlniffjnkaa
open Go.RowKit Go.Maps
set_option linter.unusedVariables false
set_option maxRecDepth 100000

theorem nlaw : Keyed Try.prog 9 := string_keyed Try.underlying9
theorem nzero (w : World) : (zeroValue 3).run Try.prog w = .ok (.int .i64 0) w := by kernel_rfl
theorem nkey {s : List UInt8} (h : fitS s) : keyOf Try.prog 9 (.string ⟨s.toArray⟩) = some (.string s) := by
  unfold fitS at h
  have := WideMaps.keyOf_string_mk (P := Try.prog) (s := ⟨s.toArray⟩) Try.underlying9 (by unfold maxLen; simp [ByteArray.size]; omega)
  simpa using this
/-- A map of numbers of texts at block m: f tells them. -/
def MapIs (w : World) (m : Nat) (f : List UInt8 → Nat) : Prop := ∃ N D, w.ownsMap Try.prog 9 (plainElem (H := Unit) Try.prog 3) m N D ∧ ∀ s, D.atKey (.string s) (.lit (.int .i64 0)) = .lit (.int .i64 (f s : Int))
theorem MapIs.keep {w w' : World} {m : Nat} {f : List UInt8 → Nat} (h : MapIs w m f) (e : w'.heap[m]? = w.heap[m]?) : MapIs w' m f := by
  obtain ⟨N, D, ⟨es, clock, h1, h2⟩, h3⟩ := h
  exact ⟨N, D, ⟨es, clock, e.trans h1, h2⟩, h3⟩
theorem MapIs.lt {w : World} {m : Nat} {f : List UInt8 → Nat} (h : MapIs w m f) : m < w.heap.size := by
  obtain ⟨N, D, h1, _⟩ := h
  exact h1.lt
/-- Texts in memory. -/
def StrsAt (w : World) (b : Nat) (ss : List (List UInt8)) : Prop := ∀ (k : Nat) (s : List UInt8), ss[k]? = some s → w.cell? ⟨b, k, none⟩ = some (.string ⟨s.toArray⟩)
end Go.Proofs.Ytnnanlniffjnkaa

/- The document's own reading of numbers: wide, full, Number. -/
namespace Go.Proofs.Ytnnanlniffjnkaa
open Go.RowKit
set_option linter.unusedVariables false

theorem pow_small {i : Nat} (h : i ≤ 4) : 256 ^ i ≤ 4294967296 := by
  have := Nat.pow_le_pow_right (n := 256) (by omega) h
  omega
theorem numB_take {l : List UInt8} {k : Nat} (hk : k < l.length) : numB (l.take (k + 1)) = numB (l.take k) * 256 + (l[k]).toNat := by
  rw [List.take_add_one, List.getElem?_eq_getElem hk]
  exact numB_snoc _ _
theorem numB_small {l : List UInt8} {k m : Nat} (hk : l.length ≤ k) : numB l < 256 ^ k := by
  have h1 := numB_lt l
  have h2 := Nat.pow_le_pow_right (n := 256) (by omega) hk
  omega
def valR (l : List UInt8) (sg : Bool) : Int × Int := match valW l sg with
  | none => (0, 3)
  | some n => (n, 0)
theorem half_pow {m : Nat} (h : m = 1 ∨ m = 2 ∨ m = 4) : ∃ H : Nat, 256 ^ m = 2 * H ∧ H ≤ 2147483648 := by
  rcases h with rfl | rfl | rfl
  · exact ⟨128, by decide, by omega⟩
  · exact ⟨32768, by decide, by omega⟩
  · exact ⟨2147483648, by decide, by omega⟩

end Go.Proofs.Ytnnanlniffjnkaa

/- The document's own reader. -/
namespace Go.Proofs.Ytnnanlniffjnkaa
open Go.RowKit
set_option linter.unusedVariables false

end Go.Proofs.Ytnnanlniffjnkaa

/- An append of bytes within a region that draws; the document's reader: Bytes. -/
namespace Go.Proofs.Ytnnanlniffjnkaa
open Go.RowKit
set_option linter.unusedVariables false

end Go.Proofs.Ytnnanlniffjnkaa

/- The document's own writing of numbers: Bytes. -/
namespace Go.Proofs.Ytnnanlniffjnkaa
open Go.RowKit
set_option linter.unusedVariables false

theorem beK_cons (j : Nat) : ∀ x, beK (j + 1) x = UInt8.ofNat (x / 256 ^ j) :: beK j x := by
  induction j with
  | zero => intro x; simp [beK]
  | succ j ih =>
    intro x
    rw [beK, ih, beK, List.cons_append, Nat.div_div_eq_div_mul, Nat.pow_succ, Nat.mul_comm]
def zer (n : Nat) : List UInt8 := List.replicate n 0
/-- Between the rounds: j bytes are laid. -/
structure Bp (w : World) (m X j : Nat) (wr : World) : Prop where
  blk : wr.heap[w.heap.size]? = some (.cells (bv (zer (m - j) ++ beK j X)).toArray 5 (0, 0))
  bel : Below w.heap.size w wr
theorem Bp.next {w wr : World} {m X j : Nat} (h : Bp w m X j wr) (hj : j < m) (u : Int) (hu : u = ((X / 256 ^ j % 256 : Nat) : Int)) : Bp w m X (j + 1) (wr.setCell ⟨w.heap.size, m - j - 1, none⟩ (.int .u8 u)) := by
  refine ⟨?_, h.bel.setCell (Nat.le_refl _) _⟩
  rw [heap_setCell_same wr _ (m - j - 1) _ _ _ h.blk]
  congr 2
  apply Array.toList_inj.1
  rw [Array.toList_setIfInBounds]
  have hz : zer (m - j) = zer (m - (j + 1)) ++ [0] := by
    unfold zer
    rw [show m - j = m - (j + 1) + 1 by omega, List.replicate_succ']
  have hlz : (bv (zer (m - (j + 1)))).length = m - j - 1 := by rw [bv_length]; unfold zer; rw [List.length_replicate]; omega
  rw [beK_cons, hz, List.append_assoc, bv_append, bv_append, List.set_append_right _ _ (by omega), hlz, Nat.sub_self]
  have hb : (Value.int .u8 u) = Value.int .u8 ((UInt8.ofNat (X / 256 ^ j)).toNat : Int) := by
    rw [hu]
    simp
  rw [hb]
  simp [bv]
theorem Bp.cell {w wr : World} {m X j : Nat} (h : Bp w m X j wr) (hj : j < m) : (∃ u, wr.cell? ⟨w.heap.size, m - j - 1, none⟩ = some u) ∧ wr.frozen? ⟨w.heap.size, m - j - 1, none⟩ = false := by
  refine ⟨?_, frozen_of_row _ _ _ _ _ h.blk⟩
  have hl : (bv (zer (m - j) ++ beK j X)).length = m := by rw [bv_length, List.length_append, beK_len]; unfold zer; rw [List.length_replicate]; omega
  exact ⟨_, by rw [cell_of_row _ _ _ _ _ _ h.blk, List.getElem?_toArray, List.getElem?_eq_getElem (by omega)]⟩
theorem Bp.own {w wr : World} {m X : Nat} (h : Bp w m X m wr) (hm : m ≤ 100000) : wr.ownsRow w.heap.size 5 1 (.slice (some ⟨w.heap.size, 0, none⟩) m m) m (bv (beK m X)) := by
  have hb := h.blk
  rw [Nat.sub_self] at hb
  have hz : zer 0 ++ beK m X = beK m X := rfl
  rw [hz] at hb
  refine ⟨by rw [bv_length, beK_len]; omega, .inr ⟨_, m, _, rfl, Nat.le_refl _, hb, Nat.le_refl _, by unfold maxLen; omega, by rw [List.size_toArray, bv_length, beK_len]; omega, ?_⟩⟩
  rw [List.toList_toArray]
  exact List.take_of_length_le (by rw [bv_length, beK_len]; omega)

end Go.Proofs.Ytnnanlniffjnkaa

/- What the walks of stage 6's laws ask of the program's reader and writer, whatever their inner functions and their memory are. -/
namespace Go.Proofs.Ytnnanlniffjnkaa
open Go.RowKit
set_option linter.unusedVariables false

/-- Numbers in memory. -/
def Nums (w : World) (a : Option Addr) (n : Nat) (zs : List Int) : Prop := zs.length = n ∧ (n = 0 ∨ ∃ b o, a = some ⟨b, o, none⟩ ∧ ∀ (j : Nat) (z : Int), zs[j]? = some z → w.cell? ⟨b, o + j, none⟩ = some (.int .i64 z))
theorem Nums.below {w w' : World} {a : Option Addr} {n : Nat} {zs : List Int} (h : Nums w a n zs) (f : Below w.heap.size w w') : Nums w' a n zs := by
  rcases h with ⟨h1, h2 | ⟨b, o, e, h2⟩⟩
  · exact ⟨h1, .inl h2⟩
  · exact ⟨h1, .inr ⟨b, o, e, fun j z hz => by
      have h3 := h2 j z hz
      exact (f.cell (World.block_lt_of_cell? w _ h3)).trans h3⟩⟩
theorem Nums.lt {w : World} {a : Option Addr} {n : Nat} {zs : List Int} (h : Nums w a n zs) {b o : Nat} (e : a = some ⟨b, o, none⟩) (hn : 0 < n) : b < w.heap.size := by
  obtain ⟨b', o', e', hc⟩ := h.2.resolve_left (by omega)
  have hl := h.1
  rw [e] at e'
  injection e' with e'
  injection e' with e1 e2
  subst e1
  exact World.block_lt_of_cell? w _ (hc 0 _ (List.getElem?_eq_getElem (by omega)))
theorem nums_one (w : World) (z : Int) : Nums (w.alloc (.cells #[.int .i64 z] 3)) (some ⟨w.heap.size, 0, none⟩) 1 [z] := by
  refine ⟨rfl, .inr ⟨_, _, rfl, fun j y hy => ?_⟩⟩
  have h := heap_alloc_last w (.cells #[.int .i64 z] 3)
  match j with
  | 0 =>
    simp at hy
    subst hy
    rw [cell_of_row _ _ _ _ _ _ h]
    rfl
  | j + 1 => simp at hy
/-- What a step on a reader or a writer (its blocks: F) may turn. -/
structure Fr6 (F : Nat → Prop) (B : Nat) (w w' : World) : Prop where
  below : Below B w w'
  other : ∀ k, k < w.heap.size → ¬ F k → w'.heap[k]? = w.heap[k]?
theorem Fr6.of_below {F : Nat → Prop} {B : Nat} {w w' : World} (f : Below w.heap.size w w') (hB : B ≤ w.heap.size) : Fr6 F B w w' := ⟨f.mono hB, fun k hk _ => f.block k hk⟩

section
variable {RD : (Nat → Prop) → World → Nat → Nat → List UInt8 → Nat → Prop} {WR : (Nat → Prop) → World → Nat → Nat → List UInt8 → Prop}
theorem Arg.len {w : World} {a : Option Addr} {n c : Nat} {bs : List UInt8} (h : Arg w a n c bs) : bs.length = n := h.bs.1

end

end Go.Proofs.Ytnnanlniffjnkaa
