/- A disk in memory, as a plain value: what it is, and what keeps it. -/
import Derived.Test.YtaflibnalhfenaaDkC
namespace Go.Proofs.Ytaflibnalhfenaa
open Go.RowKit
set_option linter.unusedVariables false

structure Sec where
  sure : List UInt8
  wait : List (List UInt8)
structure Dk where
  secs : List Sec
  moves : Int
  trip : Int
  dark : Bool

def Sec.pick (s : Sec) (k : Nat) : List UInt8 := match k with
  | 0 => s.sure
  | k + 1 => s.wait.getD k []
def Sec.last (s : Sec) : List UInt8 := s.pick s.wait.length
def Sec.ok (s : Sec) : Prop := s.sure.length = 256 ∧ ∀ x ∈ s.wait, x.length = 256
def Sec.add (s : Sec) (x : List UInt8) : Sec := ⟨s.sure, s.wait ++ [x]⟩
def Sec.settle (s : Sec) (k : Nat) : Sec := ⟨s.pick k, []⟩

theorem Sec.pick_len {s : Sec} (h : s.ok) (k : Nat) (hk : k ≤ s.wait.length) : (s.pick k).length = 256 := by
  cases k with
  | zero => exact h.1
  | succ k =>
    have hlt : k < s.wait.length := hk
    simp only [Sec.pick, List.getD_eq_getElem?_getD, List.getElem?_eq_getElem hlt, Option.getD_some]
    exact h.2 _ (List.getElem_mem hlt)
theorem Sec.ok_add {s : Sec} (h : s.ok) {x : List UInt8} (hx : x.length = 256) : (s.add x).ok :=
  ⟨h.1, fun y hy => by
    simp only [Sec.add, List.mem_append, List.mem_singleton] at hy
    rcases hy with hy | rfl
    · exact h.2 y hy
    · exact hx⟩
theorem Sec.ok_settle {s : Sec} (h : s.ok) (k : Nat) (hk : k ≤ s.wait.length) : (s.settle k).ok :=
  ⟨Sec.pick_len h k hk, fun y hy => by cases hy⟩

/-- A sector at offset o of block g: v is its cache's slice. -/
structure SecAt (w : World) (B g o : Nat) (v : Value) (s : Sec) : Prop where
  ok : s.ok
  cell : w.cell? ⟨g, o, none⟩ = some v
  sure : w.rangeAt g (o + 1) (bv s.sure)
  own : w.ownsRow B 75 256 v s.wait.length (s.wait.flatMap bv)

/-- A disk at block p, its sectors in block g, their caches' slices vs. -/
structure IsDisk (w : World) (B p g : Nat) (vs : Nat → Value) (D : Dk) : Prop where
  blk : w.heap[p]? = some (.cells #[.slice (some ⟨g, 0, none⟩) D.secs.length D.secs.length, .int .i64 D.moves, .int .i64 D.trip, .bool D.dark] 65 (0, 0))
  row : ∃ cur, w.heap[g]? = some (.cells cur 77 (0, 0)) ∧ cur.size = D.secs.length * 257
  bp : B ≤ p
  bg : B ≤ g
  bw : B ≤ w.heap.size
  sec : ∀ i s, D.secs[i]? = some s → SecAt w B g (i * 257) (vs i) s
  apart : ∀ i j, i < D.secs.length → j < D.secs.length → i ≠ j → (vs i).ownBlock = none ∨ (vs i).ownBlock ≠ (vs j).ownBlock
  one : 1 ≤ D.secs.length
  most : D.secs.length ≤ 4096
  lo : -1 ≤ D.trip
  hi : D.trip ≤ 9223372036854775807

theorem SecAt.blk {w : World} {B g o : Nat} {v : Value} {s : Sec} (h : SecAt w B g o v s) {k : Nat} (hk : v.ownBlock = some k) : ∃ cur, w.heap[k]? = some (.cells cur 75 (0, 0)) := by
  rcases h.own.2 with ⟨rfl, _⟩ | ⟨q, cap, cur, rfl, _, hq, _⟩
  · simp [Value.ownBlock] at hk
  · simp [Value.ownBlock] at hk; subst hk; exact ⟨cur, hq⟩

theorem range_of_block {w w' : World} {g o : Nat} {cs : List Value} (h : w.rangeAt g o cs) (hk : w'.heap[g]? = w.heap[g]?) : w'.rangeAt g o cs := fun j v hv =>
  (World.cell?_of_block (w := w) (w' := w') (a := ⟨g, o + j, none⟩) hk).trans (h j v hv)

/-- Where the disk's own blocks are as they were, it is. -/
theorem IsDisk.keep {w w' : World} {B p g : Nat} {vs : Nat → Value} {D : Dk} (h : IsDisk w B p g vs D) (hp : w'.heap[p]? = w.heap[p]?) (hg : w'.heap[g]? = w.heap[g]?) (hs : w.heap.size ≤ w'.heap.size)
    (hk : ∀ i k, i < D.secs.length → (vs i).ownBlock = some k → w'.heap[k]? = w.heap[k]?) : IsDisk w' B p g vs D where
  blk := hp.trans h.blk
  row := by obtain ⟨cur, h1, h2⟩ := h.row; exact ⟨cur, hg.trans h1, h2⟩
  bp := h.bp
  bg := h.bg
  bw := Nat.le_trans h.bw hs
  sec := fun i s hi => by
    have q := h.sec i s hi
    exact ⟨q.ok, (World.cell?_of_block (w := w) hg).trans q.cell, range_of_block q.sure hg, own_of_block q.own (fun k hk' => hk i k (List.getElem?_eq_some_iff.1 hi).1 hk')⟩
  apart := h.apart
  one := h.one
  most := h.most
  lo := h.lo
  hi := h.hi

theorem IsDisk.lt {w : World} {B p g : Nat} {vs : Nat → Value} {D : Dk} (h : IsDisk w B p g vs D) : p < w.heap.size ∧ g < w.heap.size ∧ ∀ i k, i < D.secs.length → (vs i).ownBlock = some k → k < w.heap.size := by
  refine ⟨lt_of_heap h.blk, ?_, ?_⟩
  · obtain ⟨cur, h1, _⟩ := h.row; exact lt_of_heap h1
  · intro i k hi hk
    obtain ⟨cur, hc⟩ := (h.sec i _ (List.getElem?_eq_getElem hi)).blk hk
    exact lt_of_heap hc

/-- Behind a step that turns nothing that was there. -/
theorem IsDisk.below {w w' : World} {B p g : Nat} {vs : Nat → Value} {D : Dk} (h : IsDisk w B p g vs D) (hb : Below w.heap.size w w') : IsDisk w' B p g vs D :=
  h.keep (hb.block _ h.lt.1) (hb.block _ h.lt.2.1) hb.size (fun i k hi hk => hb.block _ (h.lt.2.2 i k hi hk))

/-- The three kinds of blocks are never one. -/
theorem IsDisk.kinds {w : World} {B p g : Nat} {vs : Nat → Value} {D : Dk} (h : IsDisk w B p g vs D) : p ≠ g ∧ ∀ i k, i < D.secs.length → (vs i).ownBlock = some k → k ≠ p ∧ k ≠ g := by
  obtain ⟨cur, h1, _⟩ := h.row
  refine ⟨fun e => ?_, fun i k hi hk => ?_⟩
  · subst e; have := h.blk.symm.trans h1; simp at this
  · obtain ⟨c, hc⟩ := (h.sec i _ (List.getElem?_eq_getElem hi)).blk hk
    refine ⟨fun e => ?_, fun e => ?_⟩
    · subst e; have := h.blk.symm.trans hc; simp at this
    · subst e; have := h1.symm.trans hc; simp at this

/-- What a step on a disk may turn: only blocks from B on, and of these only the three kinds. -/
structure Fr (B : Nat) (w w' : World) : Prop where
  below : Below B w w'
  other : ∀ (k : Nat) (c : Array Value) (e : TypeId) (f : Nat × Nat), w.heap[k]? = some (.cells c e f) → e ≠ 65 → e ≠ 75 → e ≠ 77 → w'.heap[k]? = w.heap[k]?

theorem Fr.refl (B : Nat) (w : World) : Fr B w w := ⟨Below.refl _ _, fun _ _ _ _ _ _ _ _ => rfl⟩
theorem Fr.trans {B : Nat} {a b c : World} (h : Fr B a b) (k : Fr B b c) : Fr B a c :=
  ⟨h.below.trans k.below, fun i cs e f hi h1 h2 h3 => by
    have e1 := h.other i cs e f hi h1 h2 h3
    rw [← e1]
    exact k.other i cs e f (e1.trans hi) h1 h2 h3⟩
theorem Fr.of_below {B : Nat} {w w' : World} (h : Below w.heap.size w w') (hB : B ≤ w.heap.size) : Fr B w w' :=
  ⟨h.mono hB, fun k _ _ _ hk _ _ _ => h.block k (lt_of_heap hk)⟩

/-! The disk's own cells. -/
theorem IsDisk.cells {w : World} {B p g : Nat} {vs : Nat → Value} {D : Dk} (h : IsDisk w B p g vs D) :
    w.cell? ⟨p, 0, none⟩ = some (.slice (some ⟨g, 0, none⟩) D.secs.length D.secs.length) ∧ w.cell? ⟨p, 1, none⟩ = some (.int .i64 D.moves) ∧ w.cell? ⟨p, 2, none⟩ = some (.int .i64 D.trip) ∧ w.cell? ⟨p, 3, none⟩ = some (.bool D.dark) ∧
      ∀ j, w.frozen? ⟨p, j, none⟩ = false :=
  ⟨by rw [cell_of_row _ _ _ _ _ _ h.blk]; rfl, by rw [cell_of_row _ _ _ _ _ _ h.blk]; rfl, by rw [cell_of_row _ _ _ _ _ _ h.blk]; rfl, by rw [cell_of_row _ _ _ _ _ _ h.blk]; rfl, fun j => frozen_of_row _ _ _ _ _ h.blk⟩

theorem fr_setCell {B : Nat} {w : World} {a : Addr} {v : Value} {c : Array Value} {e : TypeId} {f : Nat × Nat} (hb : B ≤ a.block) (ha : w.heap[a.block]? = some (.cells c e f)) (he : e = 65 ∨ e = 75 ∨ e = 77) : Fr B w (w.setCell a v) :=
  ⟨(Below.refl _ _).setCell hb v, fun k c' e' f' hk h1 h2 h3 => by
    refine Below.heap_setCell w a v k ?_
    intro e0; subst e0
    have := ha.symm.trans hk
    simp at this
    obtain ⟨_, rfl, _⟩ := this
    rcases he with he | he | he
    · exact h1 he
    · exact h2 he
    · exact h3 he⟩

/-- A number of the disk's own block is written. -/
theorem IsDisk.set {w : World} {B p g : Nat} {vs : Nat → Value} {D D' : Dk} (h : IsDisk w B p g vs D) (i : Nat) (v : Value) (hs : D'.secs = D.secs) (lo : -1 ≤ D'.trip) (hi : D'.trip ≤ 9223372036854775807)
    (hv : (#[Value.slice (some ⟨g, 0, none⟩) D.secs.length D.secs.length, .int .i64 D.moves, .int .i64 D.trip, .bool D.dark]).setIfInBounds i v =
      #[.slice (some ⟨g, 0, none⟩) D'.secs.length D'.secs.length, .int .i64 D'.moves, .int .i64 D'.trip, .bool D'.dark]) : IsDisk (w.setCell ⟨p, i, none⟩ v) B p g vs D' := by
  obtain ⟨k1, k2⟩ := h.kinds
  have hg : (w.setCell ⟨p, i, none⟩ v).heap[g]? = w.heap[g]? := Below.heap_setCell _ _ _ _ (fun e => k1 e.symm)
  have hk : ∀ j k, j < D.secs.length → (vs j).ownBlock = some k → (w.setCell ⟨p, i, none⟩ v).heap[k]? = w.heap[k]? := fun j k hj hk => Below.heap_setCell _ _ _ _ (k2 j k hj hk).1
  refine ⟨?_, ?_, h.bp, h.bg, by simpa [World.setCell] using h.bw, ?_, ?_, ?_, ?_, lo, hi⟩
  · rw [heap_setCell_same w p i _ _ v h.blk, hv]
  · rw [hs]; obtain ⟨cur, h1, h2⟩ := h.row; exact ⟨cur, hg.trans h1, h2⟩
  · rw [hs]
    intro j s hj
    have q := h.sec j s hj
    exact ⟨q.ok, (World.cell?_of_block (w := w) hg).trans q.cell, range_of_block q.sure hg, own_of_block q.own (fun k hk' => hk j k (List.getElem?_eq_some_iff.1 hj).1 hk')⟩
  · rw [hs]; exact h.apart
  · rw [hs]; exact h.one
  · rw [hs]; exact h.most

def upd (vs : Nat → Value) (i : Nat) (v : Value) : Nat → Value := fun j => if j = i then v else vs j
def Dk.put (D : Dk) (i : Nat) (s : Sec) : Dk := { D with secs := D.secs.set i s }

/-- One sector is written anew: all else of the disk is as it was. -/
theorem IsDisk.sector {w w' : World} {B p g : Nat} {vs : Nat → Value} {D : Dk} (h : IsDisk w B p g vs D) (i : Nat) (hi : i < D.secs.length) (v : Value) (s : Sec)
    (hp : w'.heap[p]? = w.heap[p]?) (hs : w.heap.size ≤ w'.heap.size) (hg : ∃ cur, w'.heap[g]? = some (.cells cur 77 (0, 0)) ∧ cur.size = D.secs.length * 257)
    (hcell : ∀ o, o < i * 257 ∨ (i + 1) * 257 ≤ o → w'.cell? ⟨g, o, none⟩ = w.cell? ⟨g, o, none⟩)
    (hk : ∀ j k, j < D.secs.length → j ≠ i → (vs j).ownBlock = some k → w'.heap[k]? = w.heap[k]?)
    (hap : ∀ j k, j < D.secs.length → j ≠ i → (vs j).ownBlock = some k → v.ownBlock ≠ some k)
    (hsec : SecAt w' B g (i * 257) v s) : IsDisk w' B p g (upd vs i v) (D.put i s) where
  blk := by simpa [Dk.put] using hp.trans h.blk
  row := by simpa [Dk.put] using hg
  bp := h.bp
  bg := h.bg
  bw := Nat.le_trans h.bw hs
  sec := fun j t hj => by
    by_cases e : j = i
    · subst e
      simp [Dk.put, hi] at hj
      subst hj
      simpa [upd] using hsec
    · have hj' : D.secs[j]? = some t := by simpa [Dk.put, List.getElem?_set, Ne.symm e] using hj
      have q := h.sec j t hj'
      have hjl := (List.getElem?_eq_some_iff.1 hj').1
      have hl : (bv t.sure).length = 256 := by rw [bv_length]; exact q.ok.1
      have hz : ∀ x, x < 257 → w'.cell? ⟨g, j * 257 + x, none⟩ = w.cell? ⟨g, j * 257 + x, none⟩ := fun x hx => hcell _ (by omega)
      have hz0 := hz 0 (by omega)
      rw [Nat.add_zero] at hz0
      simp only [upd, if_neg e]
      refine ⟨q.ok, hz0.trans q.cell, fun x u hu => ?_, own_of_block q.own (fun k hk' => hk j k hjl e hk')⟩
      have hx := (List.getElem?_eq_some_iff.1 hu).1
      rw [Nat.add_assoc, hz (1 + x) (by omega), ← Nat.add_assoc]
      exact q.sure x u hu
  apart := fun a b ha hb hab => by
    simp only [Dk.put, List.length_set] at ha hb
    by_cases ea : a = i
    · subst ea
      have eb : b ≠ a := fun e => hab e.symm
      simp only [upd, if_neg eb, if_true]
      cases hq : (vs b).ownBlock with
      | none => cases hv : v.ownBlock <;> simp
      | some k => exact .inr (hap b k hb eb hq)
    · by_cases eb : b = i
      · subst eb
        simp only [upd, if_neg ea, if_true]
        cases hq : (vs a).ownBlock with
        | none => exact .inl rfl
        | some k => exact .inr (fun e => hap a k ha ea hq e.symm)
      · simp only [upd, if_neg ea, if_neg eb]
        exact h.apart a b ha hb hab
  one := by simpa [Dk.put] using h.one
  most := by simpa [Dk.put] using h.most
  lo := h.lo
  hi := h.hi

end Go.Proofs.Ytaflibnalhfenaa
