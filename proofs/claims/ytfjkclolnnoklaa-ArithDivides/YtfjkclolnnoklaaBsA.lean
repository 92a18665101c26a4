/- What every layer's texts stand on: bytes in memory, copies of one's own, Among. -/
import Derived.Test.YtfjkclolnnoklaaProg
import Derived.WalkKit
import Derived.WalkSpells
import Derived.WalkLawsBesides
import Derived.BigQuiet
import Derived.Deep.MidRow
import Derived.Deep.WholeRow
import Derived.Laws.AppendOwnNone
import Derived.Deep.AppendLies
import Derived.Deep.RegionHeldLaw
import Derived.Great.BuildSlice
namespace Go.Proofs.Ytfjkclolnnoklaa
open Go.RowKit
set_option linter.unusedVariables false

theorem hide {p : Prop} (h : p) : Hid p := h

theorem unhide {p : Prop} (h : Hid p) : p := h

theorem cell_alloc {w : World} {a : Addr} {v : Value} (h : w.cell? a = some v) (ob : Obj) : (w.alloc ob).cell? a = some v := by
  rw [World.cell?_alloc_lt _ _ _ (World.block_lt_of_cell? w _ h)]; exact h

def bv (l : List UInt8) : List Value := l.map fun b => Value.int .u8 (b.toNat : Int)

theorem bv_length (l : List UInt8) : (bv l).length = l.length := by simp [bv]

theorem bv_one (l : List UInt8) : ∀ v ∈ bv l, v.oneCell' = true := by
  intro v hv
  simp only [bv, List.mem_map] at hv
  obtain ⟨b, _, rfl⟩ := hv
  rfl

theorem bv_append (a b : List UInt8) : bv (a ++ b) = bv a ++ bv b := by simp [bv]

theorem lt_of_heap {w : World} {k : Nat} {o : Obj} (h : w.heap[k]? = some o) : k < w.heap.size := (Array.getElem?_eq_some_iff.1 h).1

theorem own_of_block {w w' : World} {B : Nat} {e : TypeId} {size n : Nat} {v : Value} {xs : List Value} (h : w.ownsRow B e size v n xs) (hk : ∀ k, v.ownBlock = some k → w'.heap[k]? = w.heap[k]?) : w'.ownsRow B e size v n xs := by
  refine ⟨h.1, ?_⟩
  rcases h.2 with h2 | ⟨q, cap, cur, rfl, hb, hq, r⟩
  · exact .inl h2
  · exact .inr ⟨q, cap, cur, rfl, hb, by rw [hk q rfl]; exact hq, r⟩

theorem ret_int {k : IntKind} {a b : Int} (h : a = b) : Ending.returned (.int k a) = .returned (.int k b) := by rw [h]

/-- A number as one from 0 to n - 1. -/
def among (x : Int) (n : Nat) : Nat := ((x % 18446744073709551616) % (n : Int)).toNat

theorem among_lt (x : Int) (n : Nat) (hn : 1 ≤ n) : among x n < n := by
  unfold among
  have := Int.emod_lt_of_pos (x % 18446744073709551616) (show (0 : Int) < n by omega)
  have := Int.emod_nonneg (x % 18446744073709551616) (show (n : Int) ≠ 0 by omega)
  omega

theorem among_eq (x : Int) (n : Nat) (hn : 1 ≤ n) (hn' : (n : Int) ≤ 9223372036854775807) : wrap64 ((IntKind.u64.wrap x).tmod n) = (among x n : Int) := by
  have h0 : 0 ≤ x % 18446744073709551616 := Int.emod_nonneg _ (by decide)
  rw [IntKind.wrap_u64, Int.tmod_eq_emod_of_nonneg h0]
  have h1 := Int.emod_lt_of_pos (x % 18446744073709551616) (show (0 : Int) < n by omega)
  have h2 := Int.emod_nonneg (x % 18446744073709551616) (show (n : Int) ≠ 0 by omega)
  unfold among
  rw [Int.toNat_of_nonneg h2]
  unfold wrap64
  omega

/-- At address a lie the bytes l. -/
def BytesAt (w : World) (a : Option Addr) (l : List UInt8) : Prop := (a = none → l = []) ∧ ∀ ad, a = some ad → ∀ j u, (bv l)[j]? = some u → w.cell? (ad.add j) = some u

theorem foldl_push (l : List UInt8) : ∀ (s : ByteArray), ((l.map fun b => (b.toNat : Int)).foldl (fun r n => r.push (UInt8.ofNat n.toNat)) s) = ⟨s.data ++ l.toArray⟩ := by
  induction l with
  | nil => intro s; simp
  | cons x l ih =>
    intro s
    simp only [List.map_cons, List.foldl_cons]
    rw [ih]
    have : UInt8.ofNat (Int.toNat (x.toNat : Int)) = x := by simp
    rw [this]
    apply ByteArray.ext
    simp [ByteArray.push]

theorem bytes_of_block {w : World} {q : Nat} {l : List UInt8} {e : TypeId} {f : Nat × Nat} (h : w.heap[q]? = some (.cells (bv l).toArray e f)) : BytesAt w (some ⟨q, 0, none⟩) l :=
  ⟨(fun h => by cases h), fun ad e => by injection e with e; subst e; exact World.news_of_block h⟩

theorem own_form {w : World} {base : Nat} {e : TypeId} {v : Value} {n : Nat} {xs : List Value} (h : w.ownsRow base e 1 v n xs) : ∃ a c, v = .slice a n c ∧ (0 < n → ∃ q, a = some ⟨q, 0, none⟩ ∧ ∀ j u, xs[j]? = some u → w.cell? ⟨q, j, none⟩ = some u) := by
  rcases h.2 with ⟨rfl, rfl⟩ | ⟨q, cap, cur, rfl, _⟩
  · exact ⟨none, 0, rfl, fun h => by omega⟩
  · refine ⟨_, cap, rfl, fun _ => ⟨q, rfl, fun j u hu => ?_⟩⟩
    have := h.cells (g := q) rfl j u hu
    rw [Addr.add_mid, Nat.zero_add] at this
    exact this

theorem own_below {w w' : World} {base n : Nat} {e : TypeId} {v : Value} {xs : List Value} (h : w.ownsRow base e 1 v n xs) (f : Below w.heap.size w w') : w'.ownsRow base e 1 v n xs :=
  own_of_block h (fun k hk => f.block k (h.lt k hk).2)

theorem own_bytes {w : World} {base n c : Nat} {a : Option Addr} {l : List UInt8} (h : w.ownsRow base 5 1 (.slice a n c) n (bv l)) : BytesAt w a l := by
  rcases h.2 with ⟨e, h0⟩ | ⟨q, cap, cur, e, _⟩
  · have := h.1
    rw [bv_length, h0] at this
    have e2 : l = [] := List.eq_nil_of_length_eq_zero (by simpa using this)
    injection e with ea _ _
    subst ea
    exact ⟨fun _ => e2, fun ad e3 => by cases e3⟩
  · injection e with ea _ _
    subst ea
    refine ⟨(fun e3 => by cases e3), fun ad e3 => ?_⟩
    injection e3 with e4
    subst e4
    exact h.cells (g := q) rfl

theorem infoB : (Try.prog.info? 5).map (fun i => (i.zero, i.size, i.bytes)) = some (some (.int .u8 0), 1, 1) := by kernel_rfl

/-- A slice of bytes that came in, or is one's own. -/
def BytesOf (w : World) (a : Option Addr) (n c : Nat) (l : List UInt8) : Prop := l.length = n ∧ n ≤ c ∧ c ≤ 9223372036854775807 ∧ ((a = none ∧ n = 0 ∧ c = 0) ∨ ∃ b o, a = some ⟨b, o, none⟩ ∧ BytesAt w (some ⟨b, o, none⟩) l) ∨ (l.length = n ∧ n = 0 ∧ c ≤ 9223372036854775807 ∧ ∃ ad, a = some ad)

theorem BytesAt.below {w w' : World} {a : Option Addr} {l : List UInt8} (h : BytesAt w a l) (hb : Below w.heap.size w w') : BytesAt w' a l :=
  ⟨h.1, fun ad e j u hu => by
    have h1 := h.2 ad e j u hu
    have hlt := World.block_lt_of_cell? w _ h1
    exact (hb.cell hlt).trans h1⟩

theorem BytesOf.at {w : World} {a : Option Addr} {n c : Nat} {l : List UInt8} (h : BytesOf w a n c l) : BytesAt w a l := by
  rcases h with ⟨hn, _, _, ⟨rfl, rfl, rfl⟩ | ⟨b, o, rfl, h⟩⟩ | ⟨hn, rfl, _, ad, rfl⟩
  · exact ⟨fun _ => List.eq_nil_of_length_eq_zero hn, fun ad e => by cases e⟩
  · exact h
  · obtain rfl : l = [] := List.eq_nil_of_length_eq_zero hn
    exact ⟨fun _ => rfl, fun _ _ j u hu => by simp [bv] at hu⟩

theorem BytesOf.len {w : World} {a : Option Addr} {n c : Nat} {l : List UInt8} (h : BytesOf w a n c l) : l.length = n := by
  rcases h with h | h
  · exact h.1
  · exact h.1

theorem own_cell {w : World} {base q n c k : Nat} {xs : List Value} (h : w.ownsRow base 5 1 (.slice (some ⟨q, 0, none⟩) n c) n xs) (hk : k < n) : (∃ u, w.cell? ⟨q, k, none⟩ = some u) ∧ w.frozen? ⟨q, k, none⟩ = false := by
  rcases h.2 with ⟨e1, _⟩ | ⟨q', cap', cur, e1, _, hq, h3, _, h5, _⟩
  · cases e1
  · injection e1 with e2 _ e3; injection e2 with e2; injection e2 with e2
    subst e2; subst e3
    exact ⟨⟨cur[k]'(by omega), by rw [cell_of_row _ _ _ _ _ _ hq, Array.getElem?_eq_getElem (by omega)]⟩, frozen_of_row _ _ _ _ _ hq⟩

end Go.Proofs.Ytfjkclolnnoklaa
