/- The document's own pool: entry (written by mk/mkentry.py). -/
import Derived.Test.YtjpimcglojneaaaJB
import Derived.Test.YtjpimcglojneaaaJA
import Derived.Test.YtjpimcglojneaaaJD

namespace Go.Proofs.Ytjpimcglojneaaa
open Go.RowKit
set_option linter.unusedVariables false

theorem Arg.blocks {w W : World} {a : Option Addr} {n c z : Nat} {bs : List UInt8} (h : Arg w a n c bs) (hfar : ∀ b o, a = some ⟨b, o, none⟩ → 0 < n → b ≠ z) (hk : ∀ k, k < w.heap.size → k ≠ z → W.heap[k]? = w.heap[k]?) : Arg W a n c bs := by
  refine ⟨⟨h.bs.1, ?_⟩, h.room, h.most, h.nil⟩
  rcases h.bs.2 with h0 | ⟨b, o, e, hB⟩
  · exact .inl h0
  · by_cases hn : n = 0
    · exact .inl hn
    · refine .inr ⟨b, o, e, (fun e => by cases e), fun ad e2 j u hu => ?_⟩
      have hcell := hB.2 ad e2 j u hu
      injection e2 with e2
      subst e2
      rw [Addr.add_mid] at hcell ⊢
      exact (World.cell?_of_block (a := ⟨b, o + j, none⟩) (hk b (World.block_lt_of_cell? w _ hcell) (hfar b o e (by omega)))).trans hcell

/-- While an entry is read: the reader at z, the result at r, the entry at x. -/
structure ES (w : World) (z : Nat) (a : Option Addr) (n c : Nat) (i r q : Nat) (x : Ent) (W : World) : Prop where
  blk : W.heap[z]? = some (.cells #[.slice a n c, .int .i64 (i : Int)] 28 (0, 0))
  oth : ∀ k, k < w.heap.size → k ≠ z → W.heap[k]? = w.heap[k]?
  bel : Below z w W
  res : W.heap[r]? = some (.cells #[.int .i64 0, .string ⟨#[]⟩, .int .i64 0, .int .i64 0, .int .i64 0] 67 (0, 0))
  ent : W.heap[q]? = some (.cells #[.int .i64 x.tag, .string ⟨x.text.toArray⟩, .int .i64 x.n, .int .i64 x.a, .int .i64 x.b] 67 (0, 0))
/-- What stays while an entry is read. -/
structure EH (w : World) (z : Nat) (a : Option Addr) (n c : Nat) (bs : List UInt8) (r q : Nat) : Prop where
  arg : Arg w a n c bs
  far : ∀ b o, a = some ⟨b, o, none⟩ → 0 < n → b ≠ z
  small : n ≤ 1000000
  zlt : z < w.heap.size
  rge : w.heap.size ≤ r
  qge : w.heap.size ≤ q
  rq : r ≠ q
theorem ES.get {w W : World} {z : Nat} {a : Option Addr} {n c i r q : Nat} {x : Ent} {bs : List UInt8} (h : ES w z a n c i r q x W) (H : EH w z a n c bs r q) (hi : i ≤ n) (k : Int) (hk : -9223372036854775808 ≤ k ∧ k ≤ 9223372036854775807) (sg : Bool) :
    Calls Try.prog 33 #[.pointer (some ⟨z, 0, none⟩), .int .i64 k, .bool sg] W fun e w' => e = .returned (.tuple #[.int .i64 (getW bs i k sg).1, .int .i64 (getW bs i k sg).2.1]) ∧ ES w z a n c (getW bs i k sg).2.2 r q x w' := by
  refine (hGet_any W z a n c i bs (H.arg.blocks H.far h.oth) (by have := H.small; omega) hi h.blk k hk sg).mono ?_
  rintro e w' ⟨rfl, R⟩
  have hz := H.zlt
  have hr := H.rge
  have hq := H.qge
  exact ⟨rfl, R.blk, fun k hk hz => (R.oth k hz).trans (h.oth k hk hz), h.bel.trans R.bel, (R.oth r (by omega)).trans h.res, (R.oth q (by omega)).trans h.ent⟩
theorem ES.take {w W : World} {z : Nat} {a : Option Addr} {n c i r q : Nat} {x : Ent} {bs : List UInt8} (h : ES w z a n c i r q x W) (H : EH w z a n c bs r q) (hi : i ≤ n) (k : Int) (hk : -9223372036854775808 ≤ k ∧ k ≤ 9223372036854775807) :
    Calls Try.prog 58 #[.pointer (some ⟨z, 0, none⟩), .int .i64 k] W fun e w' => ∃ v, e = .returned (.tuple #[v, .int .i64 (takeW bs i k).2.1]) ∧ w'.ownsRow W.heap.size 5 1 v (takeW bs i k).1.length (bv (takeW bs i k).1) ∧ ES w z a n c (takeW bs i k).2.2 r q x w' := by
  refine (hRBytes_any W z a n c i bs (H.arg.blocks H.far h.oth) (by have := H.small; omega) hi h.blk H.far k hk).mono ?_
  rintro e w' ⟨v, rfl, o, R⟩
  have hz := H.zlt
  have hr := H.rge
  have hq := H.qge
  have hrl := lt_of_heap h.res
  have hql := lt_of_heap h.ent
  have hsz := h.bel.size
  exact ⟨v, rfl, o, R.blk, fun k hk hz => (R.oth k (by omega) hz).trans (h.oth k hk hz), h.bel.trans R.bel, (R.oth r hrl (by omega)).trans h.res, (R.oth q hql (by omega)).trans h.ent⟩
/-- A field of the entry is written. -/
theorem ES.set {w W : World} {z : Nat} {a : Option Addr} {n c i r q : Nat} {x y : Ent} {bs : List UInt8} (h : ES w z a n c i r q x W) (H : EH w z a n c bs r q) (j : Nat) (v : Value) (hv : (#[Value.int .i64 x.tag, .string ⟨x.text.toArray⟩, .int .i64 x.n, .int .i64 x.a, .int .i64 x.b] : Array Value).setIfInBounds j v = #[.int .i64 y.tag, .string ⟨y.text.toArray⟩, .int .i64 y.n, .int .i64 y.a, .int .i64 y.b]) : ES w z a n c i r q y (W.setCell ⟨q, j, none⟩ v) := by
  have hz := H.zlt
  have hq := H.qge
  have hrq := H.rq
  have hne : z ≠ q := by omega
  refine ⟨(Below.heap_setCell _ _ _ _ hne).trans h.blk, fun k hk hz => (Below.heap_setCell _ _ _ _ (by show k ≠ q; omega)).trans (h.oth k hk hz), h.bel.setCell (p := ⟨q, j, none⟩) (by show z ≤ q; omega) v, (Below.heap_setCell _ _ _ _ hrq).trans h.res, ?_⟩
  have := heap_setCell_same W q j _ _ v h.ent
  rw [hv] at this
  exact this
theorem ES.cells {w W : World} {z : Nat} {a : Option Addr} {n c i r q : Nat} {x : Ent} (h : ES w z a n c i r q x W) : (W.cell? ⟨q, 0, none⟩ = some (.int .i64 x.tag) ∧ W.cell? ⟨q, 1, none⟩ = some (.string ⟨x.text.toArray⟩) ∧ W.cell? ⟨q, 2, none⟩ = some (.int .i64 x.n) ∧ W.cell? ⟨q, 3, none⟩ = some (.int .i64 x.a) ∧ W.cell? ⟨q, 4, none⟩ = some (.int .i64 x.b)) ∧ (∀ j, W.frozen? ⟨q, j, none⟩ = false) ∧ (W.cell? ⟨r, 0, none⟩ = some (.int .i64 0) ∧ W.cell? ⟨r, 1, none⟩ = some (.string ⟨#[]⟩) ∧ W.cell? ⟨r, 2, none⟩ = some (.int .i64 0) ∧ W.cell? ⟨r, 3, none⟩ = some (.int .i64 0) ∧ W.cell? ⟨r, 4, none⟩ = some (.int .i64 0)) ∧ ∀ j, W.frozen? ⟨r, j, none⟩ = false :=
  ⟨entC h.ent, fun j => frozen_of_row _ _ _ _ _ h.ent, entC (x := ent0) h.res, fun j => frozen_of_row _ _ _ _ _ h.res⟩
/-- What entry leaves. -/
structure EEnd (w : World) (z : Nat) (a : Option Addr) (n c i : Nat) (W : World) : Prop where
  blk : W.heap[z]? = some (.cells #[.slice a n c, .int .i64 (i : Int)] 28 (0, 0))
  oth : ∀ k, k < w.heap.size → k ≠ z → W.heap[k]? = w.heap[k]?
  bel : Below z w W
theorem ES.fin {w W : World} {z : Nat} {a : Option Addr} {n c i r q : Nat} {x : Ent} {bs : List UInt8} (h : ES w z a n c i r q x W) (H : EH w z a n c bs r q) (c0 c1 c2 c3 c4 : Value) :
    EEnd w z a n c i (((((W.setCell ⟨r, 0, none⟩ c0).setCell ⟨r, 1, none⟩ c1).setCell ⟨r, 2, none⟩ c2).setCell ⟨r, 3, none⟩ c3).setCell ⟨r, 4, none⟩ c4) ∧ (((((W.setCell ⟨r, 0, none⟩ c0).setCell ⟨r, 1, none⟩ c1).setCell ⟨r, 2, none⟩ c2).setCell ⟨r, 3, none⟩ c3).setCell ⟨r, 4, none⟩ c4).heap[r]? = some (.cells #[c0, c1, c2, c3, c4] 67 (0, 0)) := by
  have hz := H.zlt
  have hr := H.rge
  have key : ∀ k, k ≠ r → (((((W.setCell ⟨r, 0, none⟩ c0).setCell ⟨r, 1, none⟩ c1).setCell ⟨r, 2, none⟩ c2).setCell ⟨r, 3, none⟩ c3).setCell ⟨r, 4, none⟩ c4).heap[k]? = W.heap[k]? := fun k hk => by
    rw [Below.heap_setCell _ _ _ _ hk, Below.heap_setCell _ _ _ _ hk, Below.heap_setCell _ _ _ _ hk, Below.heap_setCell _ _ _ _ hk, Below.heap_setCell _ _ _ _ hk]
  exact ⟨⟨(key z (by omega)).trans h.blk, fun k hk hz => (key k (by omega)).trans (h.oth k hk hz), five_bel _ _ _ _ _ h.bel (by omega)⟩, five_set _ _ _ _ _ h.res⟩

end Go.Proofs.Ytjpimcglojneaaa
