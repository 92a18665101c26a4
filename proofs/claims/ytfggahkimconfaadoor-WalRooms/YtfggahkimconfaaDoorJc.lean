/- Joined: DkP DkQ DkR DkSureW DkS DkT RfA RfB RfC RfD RfE RfF RfG RfH RfI RfJ DkU WlB BsZ VrA. -/
import Derived.Test.YtfggahkimconfaaDoorJb
import Derived.ProofKit
import Derived.OpenShut
import Derived.Deep.Slices
import Derived.Laws.AppendOwnNone
import Derived.Deep.RegionLaw
import Derived.Laws.IdiomStrings
import Derived.Deep.RegionHeld3
import Derived.Deep.AppendLies
import Derived.Lib.AppendStr
import Derived.Maps.AppendAt

/- A disk behind stores and barriers: the contract of stored. -/
namespace Go.Proofs.YtfggahkimconfaaDoor
open Go.RowKit
set_option linter.unusedVariables false

def Sec.flush (s : Sec) : Sec := ⟨s.last, []⟩
structure LAct where
  kind : Int
  at_ : Int
  byte : UInt8
def Dk.bar (D : Dk) : Dk := { D.moved with secs := D.secs.map Sec.flush }
def Dk.sto (D : Dk) (i : Nat) (x : List UInt8) : Dk := D.moved.put i ((D.secs.getD i ⟨[], []⟩).add x)
def dstep (D : Dk) (a : LAct) : Dk := if among a.kind 4 = 3 then D.bar else D.sto (among a.at_ 4) (allOf a.byte)
def runA (l : List LAct) (D : Dk) : Dk := l.foldl dstep D

/-- A disk of four sectors without a trip, no cache longer than k. -/
structure Good (D : Dk) (k : Nat) : Prop where
  four : D.secs.length = 4
  trip : D.trip = -1
  dark : D.dark = false
  few : ∀ (i : Nat) (s : Sec), D.secs[i]? = some s → s.wait.length ≤ k

theorem Good.can {D : Dk} {k : Nat} (h : Good D k) : D.can = true := by simp [Dk.can, h.trip, h.dark]
theorem Good.moved {D : Dk} {k : Nat} (h : Good D k) : D.moved = { D with moves := wrap64 (D.moves + 1) } := by simp [Dk.moved, h.trip, h.dark]
theorem Good.fresh : Good (Dk.fresh 4) 0 := by
  refine ⟨rfl, rfl, rfl, fun i s hi => ?_⟩
  have := List.eq_of_mem_replicate (List.mem_of_getElem? hi)
  subst this
  simp
theorem Good.bar {D : Dk} {k : Nat} (h : Good D k) : Good D.bar (k + 1) := by
  refine ⟨by simp [Dk.bar, h.four], by simp [Dk.bar, h.moved, h.trip], by simp [Dk.bar, h.moved, h.dark], fun i s hi => ?_⟩
  simp only [Dk.bar, List.getElem?_map, Option.map_eq_some_iff] at hi
  obtain ⟨t, _, rfl⟩ := hi
  simp [Sec.flush]
theorem Good.sto {D : Dk} {k : Nat} (h : Good D k) (i : Nat) (x : List UInt8) : Good (D.sto i x) (k + 1) := by
  have e : (D.sto i x) = { D with moves := wrap64 (D.moves + 1), secs := D.secs.set i ((D.secs.getD i ⟨[], []⟩).add x) } := by
    simp only [Dk.sto, Dk.put, h.moved]
  rw [e]
  refine ⟨by simp [h.four], h.trip, h.dark, fun j s hj => ?_⟩
  simp only [List.getElem?_set] at hj
  split at hj
  · split at hj
    · rename_i e0 hlt
      have := (Option.some.inj hj).symm
      subst this
      simp only [Sec.add, List.length_append, List.length_cons, List.length_nil]
      have := h.few i _ (List.getElem?_eq_getElem hlt)
      rw [List.getD_eq_getElem?_getD, List.getElem?_eq_getElem hlt]
      simpa using this
    · cases hj
  · have := h.few j s hj
    omega
theorem Good.step {D : Dk} {k : Nat} (h : Good D k) (a : LAct) : Good (dstep D a) (k + 1) := by
  unfold dstep; split
  · exact h.bar
  · exact h.sto _ _
theorem Good.mono {D : Dk} {k m : Nat} (h : Good D k) (hkm : k ≤ m) : Good D m := ⟨h.four, h.trip, h.dark, fun i s hi => Nat.le_trans (h.few i s hi) hkm⟩

theorem part_bar {D D' : Dk} (h : Part D Gbar D.cached.length D') : D' = { D with secs := D.secs.map Sec.flush } := by
  have e : D'.secs = D.secs.map Sec.flush := by
    apply List.ext_getElem?
    intro i
    rw [List.getElem?_map]
    cases hi : D.secs[i]? with
    | none =>
      have := List.getElem?_eq_none_iff.1 hi
      rw [List.getElem?_eq_none (by rw [h.len]; exact this)]
      rfl
    | some s =>
      obtain ⟨r, hr, hG, hs⟩ := h.all i s hi
      rw [hs]
      have er : r = s.wait.length := by
        cases hw : waits D i with
        | true => exact hG hw
        | false =>
          have h0 : s.wait = [] := by
            unfold waits at hw
            rw [hi] at hw
            simpa using hw
          rw [h0] at hr ⊢
          simpa using hr
      rw [er]
      rfl
  cases D'
  have h1 := h.moves
  have h2 := h.trip
  have h3 := h.dark
  simp only at e h1 h2 h3
  subst e h1 h2 h3
  rfl

theorem Barrier_bar (w : World) (B p g : Nat) (vs : Nat → Value) (D : Dk) (hD : IsDisk w B p g vs D) (hc : D.can = true) :
    Calls Tryd.prog 33 #[.pointer (some ⟨p, 0, none⟩)] w fun e w' => e = .returned (.int .i64 0) ∧ (∃ vs', IsDisk w' B p g vs' D.bar) ∧ Fr B w w' := by
  refine (Barrier_ok w B p g vs D hD hc).mono ?_
  rintro e w' ⟨rfl, ⟨vs', D', h1, h2⟩, h3⟩
  have := part_bar h2
  subst this
  refine ⟨rfl, ⟨vs', ?_⟩, h3⟩
  simpa [Dk.bar, Dk.moved_secs] using h1

theorem Store_sto (w : World) (B p g : Nat) (vs : Nat → Value) (D : Dk) (hD : IsDisk w B p g vs D) (k : Nat) (hG : Good D k) (hk : k ≤ 1000000) (i : Nat) (hi : i < 4) (q c : Nat) (b : UInt8)
    (hq : w.heap[q]? = some (.cells (bv (allOf b)).toArray 5 (0, 0))) :
    Calls Tryd.prog 45 #[.pointer (some ⟨p, 0, none⟩), .int .i64 i, .slice (some ⟨q, 0, none⟩) 256 c] w fun e w' => e = .returned (.int .i64 0) ∧ (∃ vs', IsDisk w' B p g vs' (D.sto i (allOf b))) ∧ Fr B w w' := by
  have hil : i < D.secs.length := by rw [hG.four]; exact hi
  have hs := List.getElem?_eq_getElem hil
  have hne : q ≠ p := by intro e; subst e; have := hq.symm.trans hD.blk; simp at this
  refine (Store_ok w B p g vs D hD i _ hs ⟨q, 0, none⟩ c hG.can (Nat.le_trans (hG.few i _ hs) hk) (allOf b) (allOf_len b) (World.news_of_block hq) hne).mono ?_
  rintro e w' ⟨rfl, h1, h2⟩
  have e2 : D.sto i (allOf b) = D.moved.put i (D.secs[i].add (allOf b)) := by
    unfold Dk.sto; rw [List.getD_eq_getElem?_getD, hs]; rfl
  rw [e2]
  exact ⟨rfl, h1, h2⟩

/-- At ⟨b, o⟩ lie the acts l. -/
def ActsAt (w : World) (b o : Nat) (l : List LAct) : Prop := ∀ (j : Nat) (x : LAct), l[j]? = some x → w.cell? ⟨b, o + j * 6, none⟩ = some (.int .i64 x.kind) ∧ w.cell? ⟨b, o + j * 6 + 1, none⟩ = some (.int .i64 x.at_) ∧ w.cell? ⟨b, o + j * 6 + 3, none⟩ = some (.int .u8 (x.byte.toNat : Int))

theorem runA_snoc (l : List LAct) (D : Dk) (k : Nat) (x : LAct) (h : l[k]? = some x) : runA (l.take (k + 1)) D = dstep (runA (l.take k) D) x := by
  obtain ⟨hk, rfl⟩ := List.getElem?_eq_some_iff.1 h
  unfold runA
  rw [List.take_succ_eq_append_getElem hk, List.foldl_append]
  rfl

structure SRel (w : World) (B p g : Nat) (D : Dk) (k : Nat) (wr : World) : Prop where
  ex : ∃ vs, IsDisk wr B p g vs D
  good : Good D k
  fr : Below B w wr

theorem keep_acts {w2 w3 : World} {B b o1 o3 : Nat} {v1 v3 : Value} {X : Obj} (cb : b < B) (hb : B ≤ w2.heap.size) (c1 : w2.cell? ⟨b, o1, none⟩ = some v1) (c3 : w2.cell? ⟨b, o3, none⟩ = some v3) (f : Fr B (w2.alloc X).drew w3) :
    w3.cell? ⟨b, o1, none⟩ = some v1 ∧ w3.cell? ⟨b, o3, none⟩ = some v3 :=
  ⟨(f.below.cell (p := ⟨b, o1, none⟩) cb).trans (cell_alloc c1 X), (f.below.cell (p := ⟨b, o3, none⟩) cb).trans (cell_alloc c3 X)⟩

end Go.Proofs.YtfggahkimconfaaDoor

/- What a slice of acts that came in reads as. -/
namespace Go.Proofs.YtfggahkimconfaaDoor
open Go.ChangeShapes Go.WideShapes Go.ChangeAt Go.RowKit
set_option linter.unusedVariables false

theorem cellsB : Tryd.prog.cellsOf 5 = 1 := by kernel_rfl

end Go.Proofs.YtfggahkimconfaaDoor

/- stored and Crash at whatever slices; what crashes do to disks behind stores. -/
namespace Go.Proofs.YtfggahkimconfaaDoor
open Go.RowKit
set_option linter.unusedVariables false

def ActsOf (w : World) (a : Option Addr) (l : List LAct) : Prop := l.length = 0 ∨ ∃ b o, a = some ⟨b, o, none⟩ ∧ ActsAt w b o l
theorem ActsAt.below {w w' : World} {b o B : Nat} {l : List LAct} (h : ActsAt w b o l) (hb : Below w.heap.size w w') : ActsAt w' b o l := fun j x hx => by
  obtain ⟨h1, h2, h3⟩ := h j x hx
  have cb := World.block_lt_of_cell? w _ h1
  exact ⟨(hb.cell (p := ⟨b, o + j * 6, none⟩) cb).trans h1, (hb.cell (p := ⟨b, o + j * 6 + 1, none⟩) cb).trans h2, (hb.cell (p := ⟨b, o + j * 6 + 3, none⟩) cb).trans h3⟩
theorem ActsOf.below {w w' : World} {a : Option Addr} {l : List LAct} (h : ActsOf w a l) (hb : Below w.heap.size w w') : ActsOf w' a l := by
  rcases h with h | ⟨b, o, e, h⟩
  · exact .inl h
  · exact .inr ⟨b, o, e, h.below (B := 0) hb⟩

/-- At address a lie the numbers kept, below B. -/
def KeptOf (w : World) (B : Nat) (a : Option Addr) (kept : List Int) : Prop :=
  kept = [] ∨ ∃ kb ko, a = some ⟨kb, ko, none⟩ ∧ kb < B ∧ kb < w.heap.size ∧ ∀ j, j < kept.length → w.cell? ⟨kb, ko + j, none⟩ = some (.int .i64 (kept.getD j 0)) ∧ -9223372036854775808 ≤ kept.getD j 0 ∧ kept.getD j 0 ≤ 9223372036854775807
theorem KeptOf.below {w w' : World} {B : Nat} {a : Option Addr} {kept : List Int} (h : KeptOf w B a kept) (hb : Below B w w') : KeptOf w' B a kept := by
  rcases h with h | ⟨kb, ko, e, h1, h2, h3⟩
  · exact .inl h
  · exact .inr ⟨kb, ko, e, h1, Nat.lt_of_lt_of_le h2 hb.size, fun j hj => ⟨(hb.cell (p := ⟨kb, _, none⟩) h1).trans (h3 j hj).1, (h3 j hj).2⟩⟩

theorem Crash_any (w : World) (B p g : Nat) (vs : Nat → Value) (D : Dk) (hD : IsDisk w B p g vs D) (hW : ∀ (i : Nat) (s : Sec), D.secs[i]? = some s → s.wait.length ≤ 1000000) (a : Option Addr) (c n : Nat) (kept : List Int) (hn : kept.length = n) (hK : KeptOf w B a kept) :
    Calls Tryd.prog 26 #[.pointer (some ⟨p, 0, none⟩), .slice a n c] w fun e w' => e = .returned (.int .i64 0) ∧
      (∃ (vs' : Nat → Value) (E : Dk), IsDisk w' B p g vs' { E with dark := false, trip := -1 } ∧ Part D (Gcr kept) D.cached.length E) ∧ Fr B w w' := by
  subst hn
  rcases hK with rfl | ⟨kb, ko, rfl, h1, h2, h3⟩
  · exact Crash_none w B p g vs D hD hW a c
  · have := hD.bg
    exact Crash_at w B p g vs D hD hW kept kb ko c (fun j hj => (h3 j hj).1) h2 (by omega) (fun j hj => (h3 j hj).2)

/-! Disks on which nothing waits. -/
def Dry (D : Dk) : Prop := ∀ (i : Nat) (s : Sec), D.secs[i]? = some s → s.wait = []
theorem Dry.bar (D : Dk) : Dry D.bar := fun i s hi => by
  simp only [Dk.bar, List.getElem?_map, Option.map_eq_some_iff] at hi
  obtain ⟨t, _, rfl⟩ := hi
  rfl
theorem Dry.cached {D : Dk} (h : Dry D) : D.cached = [] := by
  have hw : ∀ i, waits D i = false := by
    intro i
    unfold waits
    cases hi : D.secs[i]? with
    | none => rfl
    | some s => show decide (0 < s.wait.length) = false; rw [h i s hi]; rfl
  unfold Dk.cached cachedTo
  exact List.filter_eq_nil_iff.2 (fun i _ => by simp [hw i])
theorem Part.zero {D D' : Dk} {G : Nat → Sec → Nat → Prop} (h : Part D G 0 D') : D' = D := by
  have e : D'.secs = D.secs := by
    apply List.ext_getElem?
    intro i
    cases hi : D.secs[i]? with
    | none => rw [List.getElem?_eq_none (by rw [h.len]; exact List.getElem?_eq_none_iff.1 hi)]
    | some s => exact h.rest i s hi (fun x => by omega)
  have h1 := h.moves
  have h2 := h.trip
  have h3 := h.dark
  cases D'; cases D
  simp only at e h1 h2 h3
  subst e h1 h2 h3
  rfl
def Dk.back (D : Dk) : Dk := { D with secs := D.secs.map fun s => ⟨s.sure, []⟩, dark := false, trip := -1 }
/-- A crash that keeps none goes back. -/
theorem part_none {D E : Dk} (h : Part D (Gcr []) D.cached.length E) : { E with dark := false, trip := -1 } = D.back := by
  have e : E.secs = D.secs.map fun s => ⟨s.sure, []⟩ := by
    apply List.ext_getElem?
    intro i
    rw [List.getElem?_map]
    cases hi : D.secs[i]? with
    | none => rw [List.getElem?_eq_none (by rw [h.len]; exact List.getElem?_eq_none_iff.1 hi)]; rfl
    | some s =>
      obtain ⟨r, hr, hG, hs⟩ := h.all i s hi
      rw [hs]
      have er : r = 0 := by
        cases hw : waits D i with
        | true =>
          have := (hG hw).2
          simp [among] at this
          omega
        | false =>
          have h0 : s.wait = [] := by
            unfold waits at hw
            rw [hi] at hw
            simpa using hw
          rw [h0] at hr
          simpa using hr
      rw [er]
      rfl
  have h1 := h.moves
  cases E
  simp only at e h1
  subst e h1
  rfl
theorem Dry.dump {D : Dk} (h : Dry D) : D.dump = D.secs.flatMap Sec.sure := by
  unfold Dk.dump
  have : ∀ s ∈ D.secs, s.last = s.sure := by
    intro s hs
    obtain ⟨i, hi⟩ := List.mem_iff_getElem?.1 hs
    have := h i s hi
    unfold Sec.last
    rw [this]
    rfl
  rw [List.flatMap_def, List.flatMap_def, List.map_congr_left this]
theorem back_dry (D : Dk) : Dry D.back := fun i s hi => by
  simp only [Dk.back, List.getElem?_map, Option.map_eq_some_iff] at hi
  obtain ⟨t, _, rfl⟩ := hi
  rfl
theorem back_dump (D : Dk) : D.back.dump = D.secs.flatMap Sec.sure := by
  rw [(back_dry D).dump]
  simp only [Dk.back, List.flatMap_def, List.map_map]
  rfl
theorem sto_sure {D : Dk} {k : Nat} (h : Good D k) (i : Nat) (hi : i < 4) (x : List UInt8) : (D.sto i x).secs.flatMap Sec.sure = D.secs.flatMap Sec.sure := by
  have hil : i < D.secs.length := by rw [h.four]; exact hi
  have e : (D.sto i x).secs = D.secs.set i (D.secs[i].add x) := by
    unfold Dk.sto Dk.put
    rw [Dk.moved_secs, List.getD_eq_getElem?_getD, List.getElem?_eq_getElem hil]
    rfl
  rw [e, List.flatMap_def, List.flatMap_def, List.map_set]
  have : Sec.sure (D.secs[i].add x) = (D.secs.map Sec.sure)[i]'(by simpa using hil) := by simp [Sec.add]
  rw [this, List.set_getElem_self]

end Go.Proofs.YtfggahkimconfaaDoor

/- The walk of the law DiskSure. -/
namespace Go.Proofs.YtfggahkimconfaaDoor
open Go.RowKit
set_option linter.unusedVariables false

theorem own_fr {w w' : World} {B base n : Nat} {v : Value} {xs : List Value} (h : w.ownsRow base 5 1 v n xs) (f : Fr B w w') : w'.ownsRow base 5 1 v n xs := by
  refine own_of_block h (fun k hk => ?_)
  rcases h.2 with ⟨rfl, _⟩ | ⟨q, cap, cur, rfl, _, hq, _⟩
  · simp [Value.ownBlock] at hk
  · simp [Value.ownBlock] at hk; subst hk
    exact f.other q cur 5 (0, 0) hq (by decide) (by decide) (by decide)
/-- Behind k later stores. -/
structure TRel (w : World) (B p g base : Nat) (v : Value) (X : List UInt8) (k : Nat) (wr : World) : Prop where
  ex : ∃ vs D, IsDisk wr B p g vs D ∧ Good D k ∧ D.secs.flatMap Sec.sure = X
  fr : Below w.heap.size w wr
  own : wr.ownsRow base 5 1 v 1024 (bv X)

theorem TRel.next {w wr w3 : World} {B p g base k : Nat} {v : Value} {X : List UInt8} {D : Dk} {Y : Obj} {i : Nat} {x : List UInt8} (h : TRel w B p g base v X k wr) (hwB : w.heap.size ≤ B) (hG : Good D k) (hX : D.secs.flatMap Sec.sure = X) (hi : i < 4)
    (hx : ∃ vs', IsDisk w3 B p g vs' (D.sto i x)) (f : Fr B (wr.alloc Y).drew w3) : TRel w B p g base v X (k + 1) w3 := by
  obtain ⟨vs', hD⟩ := hx
  refine ⟨⟨vs', _, hD, hG.sto i x, by rw [sto_sure hG i hi]; exact hX⟩, (h.fr.trans ((Below.refl _ _).alloc h.fr.size Y).drew).trans (f.below.mono hwB), ?_⟩
  exact own_fr ((h.own.alloc Y).drew) f

theorem KeptOf.later {w w' : World} {B : Nat} {a : Option Addr} {kept : List Int} (h : KeptOf w w.heap.size a kept) (hb : Below w.heap.size w w') (hB : w.heap.size ≤ B) : KeptOf w' B a kept := by
  rcases h.below hb with h | ⟨kb, ko, e, h1, h2, h3⟩
  · exact .inl h
  · exact .inr ⟨kb, ko, e, Nat.lt_of_lt_of_le h1 hB, h2, h3⟩
theorem Good.same {D : Dk} {k : Nat} (h : Good D k) : { D with trip := -1, dark := false } = D := by
  cases D
  have h1 := h.trip
  have h2 := h.dark
  simp only at h1 h2
  subst h1 h2
  rfl
theorem Good.dry {D : Dk} {k : Nat} (h : Good D k) (hy : Dry D) : Good D 0 := ⟨h.four, h.trip, h.dark, fun i s hi => by rw [hy i s hi]; simp⟩
theorem dump_len {D : Dk} {n : Nat} (h : D.secs.length = 4) (hd : D.dump.length = D.secs.length * 256) : D.dump.length = 1024 := by rw [hd, h]

end Go.Proofs.YtfggahkimconfaaDoor

/- The contract of Bytes: a copy of one's own. -/
namespace Go.Proofs.YtfggahkimconfaaDoor
open Go.RowKit
set_option linter.unusedVariables false

end Go.Proofs.YtfggahkimconfaaDoor

/- The contract of Load. -/
namespace Go.Proofs.YtfggahkimconfaaDoor
open Go.RowKit
set_option linter.unusedVariables false

theorem step_copy_cells {ops : Array Oper} {o : Oper} {a : Act} {w : World} {K : Act → World → Prop} {Q : Exit → Act → World → Prop} {E : Prop} (hgd : o.guard = none) (d s : Operand)
    (ho : o.op = .call { callee := .builtin .copy, args := #[d, s], argTypes := #[39, 39] }) (b off dLen dCap : Nat) (ad : Addr) (sLen sCap : Nat) (hd : a.eval d = .slice (some ⟨b, off, none⟩) dLen dCap) (hs : a.eval s = .slice (some ad) sLen sCap)
    (cs : List Value) (hn : cs.length = Nat.min sLen dLen) (hsrc : ∀ j v, cs[j]? = some v → w.cell? (ad.add j) = some v) (ht : w.there b off cs.length) (h1 : ∀ v ∈ cs, v.oneCell' = true)
    (h : K (a.put o.dst (goInt cs.length)) (w.setCells b off cs)) : if Region.wanted o (yielded ops a.tmps) = true then Oper.wp Tryd.prog o a w K Q else E := by
  have hw : Region.wanted o (yielded ops a.tmps) = true := by simp [Region.wanted, hgd]
  rw [if_pos hw]
  have hrun := run_copy_cells (P := Tryd.prog) w 39 39 o.type 5 b off dLen dCap ad sLen sCap cs Tryd.underlying39 (by kernel_rfl) hn hsrc (fun j hj => (ht j hj).1) (fun j hj => (ht j hj).2) h1
  unfold Oper.wp
  simp [execOp, ho, resolve, invoke, builtin, hd, hs, hrun, Result.andThen]
  exact h

def seg (l : List UInt8) (i : Nat) : List UInt8 := (l.drop (i * 256)).take 256
def Dk.loadedTo (l : List UInt8) (m k : Nat) : Dk := ⟨(List.range m).map (fun i => if i < k then ⟨seg l i, []⟩ else ⟨nought, []⟩), 0, -1, false⟩
theorem loadedTo_zero (l : List UInt8) (m : Nat) : Dk.loadedTo l m 0 = Dk.fresh m := by
  unfold Dk.loadedTo Dk.fresh
  have : ((List.range m).map fun i => if i < 0 then (⟨seg l i, []⟩ : Sec) else ⟨nought, []⟩) = List.replicate m ⟨nought, []⟩ := by
    simp [List.map_const']
  rw [this]
theorem loadedTo_succ (l : List UInt8) (m k : Nat) (hk : k < m) : (Dk.loadedTo l m k).put k ⟨seg l k, []⟩ = Dk.loadedTo l m (k + 1) := by
  unfold Dk.loadedTo Dk.put
  have : ((List.range m).map fun i => if i < k then (⟨seg l i, []⟩ : Sec) else ⟨nought, []⟩).set k ⟨seg l k, []⟩ = (List.range m).map fun i => if i < k + 1 then (⟨seg l i, []⟩ : Sec) else ⟨nought, []⟩ := by
    apply List.ext_getElem?
    intro i
    rw [List.getElem?_set, List.getElem?_map, List.getElem?_map]
    by_cases hi : i < m
    · rw [List.getElem?_range hi]
      by_cases e : k = i
      · subst e; simp [hk]
      · simp only [if_neg e, Option.map_some]
        by_cases h2 : i < k
        · simp [h2, show i < k + 1 by omega]
        · simp [h2, show ¬ i < k + 1 by omega]
    · have : k ≠ i := by omega
      simp [this, hi]
  simp only [this]
theorem loadedTo_get (l : List UInt8) (m k i : Nat) (hi : i < m) : (Dk.loadedTo l m k).secs[i]? = some (if i < k then ⟨seg l i, []⟩ else ⟨nought, []⟩) := by
  simp [Dk.loadedTo, hi]
theorem loadedTo_len (l : List UInt8) (m k : Nat) : (Dk.loadedTo l m k).secs.length = m := by simp [Dk.loadedTo]

theorem IsDisk.sured {w : World} {B p g : Nat} {vs : Nat → Value} {D : Dk} (h : IsDisk w B p g vs D) (i : Nat) (s : Sec) (hi : D.secs[i]? = some s) (x : List UInt8) (hx : x.length = 256) :
    IsDisk (w.setCells g (i * 257 + 1) (bv x)) B p g vs (D.put i ⟨x, s.wait⟩) ∧ Fr B w (w.setCells g (i * 257 + 1) (bv x)) := by
  have hil := (List.getElem?_eq_some_iff.1 hi).1
  obtain ⟨lp, lg, lk⟩ := h.lt
  obtain ⟨k1, k2⟩ := h.kinds
  have hs := h.sec i s hi
  obtain ⟨cur, hcur, hcs⟩ := h.row
  have hl : (bv x).length = 256 := by rw [bv_length]; exact hx
  obtain ⟨cur1, hc1, hz1⟩ := heap_setCells g 81 (bv x) (i * 257 + 1) _ cur hcur
  have hsize : (w.setCells g (i * 257 + 1) (bv x)).heap.size = w.heap.size := size_setCells _ _ _ _
  have hother : ∀ j, j ≠ g → (w.setCells g (i * 257 + 1) (bv x)).heap[j]? = w.heap[j]? := fun j hj => heap_setCells_other _ _ _ _ _ hj
  have ht : w.there g (i * 257 + 1) (bv x).length := there_of_block hcur _ _ (by omega)
  have e : upd vs i (vs i) = vs := by funext j; unfold upd; split <;> simp_all
  have := h.sector i hil (vs i) ⟨x, s.wait⟩ (w' := w.setCells g (i * 257 + 1) (bv x)) (hother p k1) (Nat.le_of_eq hsize.symm) ⟨cur1, hc1, by rw [hz1]; exact hcs⟩
    (fun o ho => cell_setCells_out _ _ _ _ _ (side_of hl ho)) (fun j q hj hji hq => hother q (k2 j q hj hq).2) ?_ ?_
  · rw [e] at this
    refine ⟨this, ⟨⟨(setCells_os g _ _ _).1, (setCells_os g _ _ _).2.1, (setCells_os g _ _ _).2.2, Nat.le_of_eq hsize.symm, fun k hk => hother k (by have := h.bg; omega)⟩, ?_⟩⟩
    intro k c e0 f hk h1 h2 h3
    refine hother k (fun e1 => ?_)
    subst e1
    have := hcur.symm.trans hk
    simp at this
    exact h3 this.2.1.symm
  · intro j q hj hji hq e1
    rcases h.apart i j hil hj (fun e2 => hji e2.symm) with h0 | h0
    · rw [h0] at e1; cases e1
    · exact h0 (by rw [e1, hq])
  · refine ⟨⟨hx, hs.ok.2⟩, ?_, World.rangeAt_setCells_same _ _ _ _ ht, own_of_block hs.own (fun q hq => hother q (k2 i q hil hq).2)⟩
    rw [cell_setCells_out _ _ _ _ _ (.inl (by omega))]
    exact hs.cell

theorem seg_len (l : List UInt8) (m k : Nat) (hl : l.length = m * 256) (hk : k < m) : (seg l k).length = 256 := by
  unfold seg; rw [List.length_take, List.length_drop]; omega

structure ORel (w : World) (B p g : Nat) (l : List UInt8) (m k : Nat) (wr : World) : Prop where
  ex : ∃ vs, IsDisk wr B p g vs (Dk.loadedTo l m k)
  fr : Below B w wr

end Go.Proofs.YtfggahkimconfaaDoor

/- The document's answer in memory: what it is, and what keeps it; nought. -/
namespace Go.Proofs.YtfggahkimconfaaDoor
open Go.RowKit
set_option linter.unusedVariables false

structure RDk where
  V : List (List (List UInt8))
  done : Int
  left : Int
  gone : Bool

abbrev str (x : List UInt8) : Value := .string ⟨x.toArray⟩
/-- A slice of texts, never written again. -/
def StrsAt (w : World) (sv : Value) (l : List (List UInt8)) : Prop :=
  ∃ (q c : Nat) (cur : Array Value), sv = .slice (some ⟨q, 0, none⟩) l.length c ∧ w.heap[q]? = some (.cells cur 9 (0, 0)) ∧ l.length ≤ c ∧ c ≤ 9223372036854775807 ∧ ∀ (j : Nat) (x : List UInt8), l[j]? = some x → cur[j]? = some (str x)

theorem StrsAt.keep {w w' : World} {sv : Value} {l : List (List UInt8)} (h : StrsAt w sv l) (hk : ∀ (k : Nat) (c : Array Value) (f : Nat × Nat), w.heap[k]? = some (.cells c 9 f) → w'.heap[k]? = w.heap[k]?) : StrsAt w' sv l := by
  obtain ⟨q, c, cur, h1, h2, h3⟩ := h
  exact ⟨q, c, cur, h1, (hk q cur (0, 0) h2).trans h2, h3⟩
theorem StrsAt.below {w w' : World} {sv : Value} {l : List (List UInt8)} (h : StrsAt w sv l) (f : Below w.heap.size w w') : StrsAt w' sv l :=
  h.keep (fun k c fz hk => f.block k (lt_of_heap hk))

/-- Lists that are as they were, or new. -/
def NewOr (w : World) (vals vals' : List Value) : Prop := ∀ sv ∈ vals', sv ∈ vals ∨ ∀ k, sv.ownBlock = some k → w.heap.size ≤ k
theorem NewOr.refl (w : World) (vals : List Value) : NewOr w vals vals := fun _ h => .inl h
theorem NewOr.put {w : World} {vals vals' : List Value} (h : NewOr w vals vals') (i : Nat) {sv : Value} (hs : ∀ k, sv.ownBlock = some k → w.heap.size ≤ k) : NewOr w vals (vals'.set i sv) := fun u hu => by
  rcases List.mem_or_eq_of_mem_set hu with h1 | h1
  · exact h u h1
  · subst h1
    exact .inr hs
theorem NewOr.later {w w' : World} {vals vals' : List Value} (h : NewOr w' vals vals') (hs : w.heap.size ≤ w'.heap.size) : NewOr w vals vals' := fun u hu => (h u hu).elim .inl (fun h1 => .inr (fun k hk => Nat.le_trans hs (h1 k hk)))

theorem nought_eq : nought = allOf 0 := rfl
end Go.Proofs.YtfggahkimconfaaDoor

/- The contract of the document's own Make. -/
namespace Go.Proofs.YtfggahkimconfaaDoor
open Go.RowKit
set_option linter.unusedVariables false

def RDk.fresh (n : Nat) : RDk := ⟨List.replicate n [nought], 0, -1, false⟩
theorem infoStr : (Tryd.prog.info? 9).map (fun i => (i.zero, i.size, i.bytes)) = some (some (.string ⟨#[]⟩), 1, 16) := by kernel_rfl
theorem infoSl : (Tryd.prog.info? 22).map (fun i => (i.zero, i.size, i.bytes)) = some (some (.slice none 0 0), 1, 24) := by kernel_rfl

theorem strs_one (W : World) (x : List UInt8) : StrsAt (W.alloc (.cells #[str x] 9)) (.slice (some ⟨W.heap.size, 0, none⟩) 1 1) [x] :=
  ⟨W.heap.size, 1, #[str x], rfl, heap_alloc_last W _, by simp, by simp, fun j y hy => by
    match j, hy with
    | 0, hy => simp at hy; subst hy; rfl⟩

end Go.Proofs.YtfggahkimconfaaDoor

/- The contract of the document's own Load, as far as DiskLoads asks it. -/
namespace Go.Proofs.YtfggahkimconfaaDoor
open Go.RowKit
set_option linter.unusedVariables false

end Go.Proofs.YtfggahkimconfaaDoor

/- The document's answer beside a disk: move, Trip, last. -/
namespace Go.Proofs.YtfggahkimconfaaDoor
open Go.RowKit
set_option linter.unusedVariables false

def Sec.vals (s : Sec) : List (List UInt8) := s.sure :: s.wait
def rof (D : Dk) : RDk := ⟨D.secs.map Sec.vals, D.moves, D.trip, D.dark⟩
theorem rof_fresh (n : Nat) : RDk.fresh n = rof (Dk.fresh n) := by simp [RDk.fresh, rof, Dk.fresh, Sec.vals]
theorem Sec.vals_get (s : Sec) (k : Nat) (hk : k ≤ s.wait.length) : s.vals[k]? = some (s.pick k) := by
  cases k with
  | zero => rfl
  | succ k => simp [Sec.vals, Sec.pick, List.getD_eq_getElem?_getD, List.getElem?_eq_getElem (show k < s.wait.length by omega)]
theorem Sec.vals_len (s : Sec) : s.vals.length = s.wait.length + 1 := rfl
theorem rof_get {D : Dk} {i : Nat} {s : Sec} (h : D.secs[i]? = some s) : (rof D).V[i]? = some s.vals := by simp [rof, h]
theorem rof_len (D : Dk) : (rof D).V.length = D.secs.length := by simp [rof]

end Go.Proofs.YtfggahkimconfaaDoor

/- The contracts of the document's own Fetch. -/
namespace Go.Proofs.YtfggahkimconfaaDoor
open Go.RowKit
set_option linter.unusedVariables false

theorem bytesRow_bv (x : List UInt8) (cap j : Nat) (u : Value) (hu : (bv x)[j]? = some u) : (bytesRow ⟨x.toArray⟩ cap)[j]? = some u := by
  have hj : j < x.length := by have := (List.getElem?_eq_some_iff.1 hu).1; rwa [bv_length] at this
  rw [bytesRow_at ⟨x.toArray⟩ cap j (by simpa using hj)]
  simp only [bv, List.getElem?_map, List.getElem?_eq_getElem hj, Option.map_some] at hu
  rw [← hu]
  simp

end Go.Proofs.YtfggahkimconfaaDoor

/- The contracts of the document's own Store. -/
namespace Go.Proofs.YtfggahkimconfaaDoor
open Go.RowKit
set_option linter.unusedVariables false

theorem bytes_below {w w' : World} {a : Option Addr} {l : List UInt8} (h : BytesAt w a l) (hb : Below w.heap.size w w') : BytesAt w' a l :=
  ⟨h.1, fun ad e j u hu => by
    have h1 := h.2 ad e j u hu
    exact (hb.cell (World.block_lt_of_cell? w _ h1)).trans h1⟩

theorem own_new {W : World} {H base : Nat} (h : W.heap[H]? = some (.cells #[] 9 (0, 0))) (hb : base ≤ H) : W.ownsRow base 9 1 (.slice (some ⟨H, 0, none⟩) 0 0) 0 [] :=
  ⟨by simp, .inr ⟨H, 0, #[], rfl, hb, h, Nat.le_refl _, by unfold maxLen; omega, by simp, by simp⟩⟩

end Go.Proofs.YtfggahkimconfaaDoor

/- The contracts of the document's own Barrier. -/
namespace Go.Proofs.YtfggahkimconfaaDoor
open Go.RowKit
set_option linter.unusedVariables false

/-- The first k sectors are made sure. -/
def Dk.barTo (D : Dk) (k : Nat) : Dk := { D with secs := (D.secs.take k).map Sec.flush ++ D.secs.drop k }
theorem Dk.barTo_zero (D : Dk) : D.barTo 0 = D := by simp [Dk.barTo]
theorem Dk.barTo_len (D : Dk) (k : Nat) : (D.barTo k).secs.length = D.secs.length := by simp [Dk.barTo]; omega
theorem Dk.barTo_all (D : Dk) : (D.moved.barTo D.secs.length) = D.bar := by
  simp [Dk.barTo, Dk.bar, Dk.moved_secs]
theorem Dk.barTo_get (D : Dk) (k : Nat) (s : Sec) (h : D.secs[k]? = some s) : (D.barTo k).secs[k]? = some s := by
  have hk := (List.getElem?_eq_some_iff.1 h).1
  simp only [Dk.barTo]
  rw [List.getElem?_append_right (by simp; omega)]
  simp [h, Nat.min_eq_left (Nat.le_of_lt hk)]
theorem Dk.barTo_succ (D : Dk) (k : Nat) (s : Sec) (h : D.secs[k]? = some s) : D.barTo (k + 1) = (D.barTo k).put k s.flush := by
  obtain ⟨hk, rfl⟩ := List.getElem?_eq_some_iff.1 h
  simp only [Dk.barTo, Dk.put]
  congr 1
  rw [List.take_succ_eq_append_getElem hk, List.drop_eq_getElem_cons hk, List.set_append_right _ _ (by simp; omega)]
  simp only [List.map_append, List.length_map, List.length_take, Nat.min_eq_left (Nat.le_of_lt hk), Nat.sub_self, List.set_cons_zero, List.map_cons, List.map_nil, List.append_assoc, List.singleton_append]

end Go.Proofs.YtfggahkimconfaaDoor

/- The contracts of the document's own Cached and Dump. -/
namespace Go.Proofs.YtfggahkimconfaaDoor
open Go.RowKit
set_option linter.unusedVariables false

theorem strCells_bv (x : List UInt8) : Lib.strCells ⟨x.toArray⟩ = bv x := by simp [Lib.strCells, bv]

theorem DRel.rnext {w wr w3 : World} {D : Dk} {v v' : Value} {k : Nat} (h : DRel w D v k wr) (hk : k < D.secs.length) (hl : D.secs[k].last.length = 256)
    (hown : w3.ownsRow w.heap.size 5 1 v' (k * 256 + 256) (bv (D.dumpTo k) ++ bv D.secs[k].last)) (hg : wr.drew.grownBy w3 v.ownBlock) : DRel w D v' (k + 1) w3 := by
  have hs := h.below.size
  refine ⟨?_, ?_, ?_⟩
  · rw [dumpTo_succ D k hk, List.length_append, h.len, hl]; omega
  · rw [dumpTo_succ D k hk, bv_append]
    have e : (k + 1) * 256 = k * 256 + 256 := by omega
    rw [e]; exact hown
  · refine h.below.drew.grown hg hs ?_
    intro j hj
    exact (h.own.lt j hj).1

end Go.Proofs.YtfggahkimconfaaDoor

/- The contract of the document's own Crash. -/
namespace Go.Proofs.YtfggahkimconfaaDoor
open Go.RowKit
set_option linter.unusedVariables false

/-- Which of n + 1 values the number at pos keeps: its 64 bits, without a sign, modulo n + 1. -/
def pickAt (kept : List Int) (pos n : Nat) : Nat := among (kept.getD pos 0) (n + 1)
theorem pickAt_le (kept : List Int) (pos n : Nat) : pickAt kept pos n ≤ n := by
  have := among_lt (kept.getD pos 0) (n + 1) (by omega)
  unfold pickAt
  omega
theorem pickAt_out (kept : List Int) (pos n : Nat) (h : kept.length ≤ pos) : pickAt kept pos n = 0 := by
  unfold pickAt
  rw [List.getD_eq_getElem?_getD, List.getElem?_eq_none h]
  simp [among]
def crashSec (kept : List Int) (D : Dk) (i : Nat) (s : Sec) : Sec := if 0 < s.wait.length then s.settle (pickAt kept (cachedTo D i).length s.wait.length) else s
def Dk.crashTo (kept : List Int) (D : Dk) (k : Nat) : Dk := { D with secs := D.secs.mapIdx fun i s => if i < k then crashSec kept D i s else s }
def Dk.crashed (kept : List Int) (D : Dk) : Dk := { D.crashTo kept D.secs.length with dark := false, trip := -1 }
theorem crashTo_len (kept : List Int) (D : Dk) (k : Nat) : (D.crashTo kept k).secs.length = D.secs.length := by simp [Dk.crashTo]
theorem crashTo_zero (kept : List Int) (D : Dk) : D.crashTo kept 0 = D := by
  unfold Dk.crashTo
  have : D.secs.mapIdx (fun i s => if i < 0 then crashSec kept D i s else s) = D.secs := by
    apply List.ext_getElem?
    intro i
    rw [List.getElem?_mapIdx]
    cases D.secs[i]? <;> simp
  rw [this]
theorem crashTo_get (kept : List Int) (D : Dk) (k : Nat) (s : Sec) (h : D.secs[k]? = some s) : (D.crashTo kept k).secs[k]? = some s := by simp [Dk.crashTo, h]
theorem crashTo_succ (kept : List Int) (D : Dk) (k : Nat) (s : Sec) (h : D.secs[k]? = some s) : D.crashTo kept (k + 1) = (D.crashTo kept k).put k (crashSec kept D k s) := by
  have hk := (List.getElem?_eq_some_iff.1 h).1
  have : (D.secs.mapIdx fun i s => if i < k + 1 then crashSec kept D i s else s) = (D.secs.mapIdx fun i s => if i < k then crashSec kept D i s else s).set k (crashSec kept D k s) := by
    apply List.ext_getElem?
    intro i
    rw [List.getElem?_set, List.getElem?_mapIdx, List.getElem?_mapIdx]
    by_cases hik : k = i
    · subst hik
      rw [if_pos rfl, if_pos (by simpa using hk), h]
      simp
    · rw [if_neg hik]
      cases D.secs[i]? with
      | none => rfl
      | some t =>
        have : (i < k + 1) ↔ i < k := by omega
        simp [this]
  simp only [Dk.crashTo, Dk.put, this]
theorem crashTo_no (kept : List Int) (D : Dk) (k : Nat) (s : Sec) (h : D.secs[k]? = some s) (h0 : ¬ 0 < s.wait.length) : D.crashTo kept (k + 1) = D.crashTo kept k := by
  rw [crashTo_succ kept D k s h]
  have e : crashSec kept D k s = s := by unfold crashSec; rw [if_neg h0]
  rw [e]
  unfold Dk.put
  have hg := crashTo_get kept D k s h
  obtain ⟨hk, hs⟩ := List.getElem?_eq_some_iff.1 hg
  rw [← hs, List.set_getElem_self]

end Go.Proofs.YtfggahkimconfaaDoor

/- The program's disk and the document's side by side; Ints, yes. -/
namespace Go.Proofs.YtfggahkimconfaaDoor
open Go.RowKit
set_option linter.unusedVariables false

def iv (l : List Int) : List Value := l.map fun z => Value.int .i64 z
theorem iv_length (l : List Int) : (iv l).length = l.length := by simp [iv]
theorem iv_one (l : List Int) : ∀ v ∈ iv l, v.oneCell' = true := fun v hv => by
  obtain ⟨z, _, rfl⟩ := List.mem_map.1 hv
  rfl

end Go.Proofs.YtfggahkimconfaaDoor

/- The program's disk and the document's, call by call, with one picture of both. -/
namespace Go.Proofs.YtfggahkimconfaaDoor
open Go.RowKit
set_option linter.unusedVariables false

/-- A crash by any numbers, as the document says it. -/
theorem part_crash {kept : List Int} {D E : Dk} (h : Part D (Gcr kept) D.cached.length E) : { E with dark := false, trip := -1 } = D.crashed kept := by
  have e : E.secs = D.secs.mapIdx fun i s => if i < D.secs.length then crashSec kept D i s else s := by
    apply List.ext_getElem?
    intro i
    rw [List.getElem?_mapIdx]
    cases hi : D.secs[i]? with
    | none => rw [List.getElem?_eq_none (by rw [h.len]; exact List.getElem?_eq_none_iff.1 hi)]; rfl
    | some s =>
      obtain ⟨r, hr, hG, hs⟩ := h.all i s hi
      have hil := (List.getElem?_eq_some_iff.1 hi).1
      rw [hs]
      simp only [Option.map_some, if_pos hil]
      congr 1
      unfold crashSec
      by_cases hw : 0 < s.wait.length
      · rw [if_pos hw]
        have hw' : waits D i = true := by unfold waits; rw [hi]; simpa using hw
        have := (hG hw').2
        rw [this]; rfl
      · rw [if_neg hw]
        have h0 : s.wait = [] := List.eq_nil_of_length_eq_zero (by omega)
        have hr0 : r = 0 := by rw [h0] at hr; simpa using hr
        subst hr0
        cases s; simp only at h0; subst h0; rfl
  have h1 := h.moves
  unfold Dk.crashed Dk.crashTo
  cases E; simp only at e h1; subst e h1; rfl

/-- The program's disk at block p. -/
def X (w : World) (B p : Nat) (D : Dk) : Prop := ∃ g vs, IsDisk w B p g vs D
structure Okd (D : Dk) (L n : Nat) : Prop where
  len : D.secs.length = L
  one : 1 ≤ L
  most : L ≤ 4096
  ok : ∀ (i : Nat) (s : Sec), D.secs[i]? = some s → s.ok
  few : ∀ (i : Nat) (s : Sec), D.secs[i]? = some s → s.wait.length ≤ n
theorem Okd.mono {D : Dk} {L n m : Nat} (h : Okd D L n) (hm : n ≤ m) : Okd D L m := ⟨h.len, h.one, h.most, h.ok, fun i s hi => Nat.le_trans (h.few i s hi) hm⟩
theorem Okd.of {w : World} {B p : Nat} {D : Dk} {L n : Nat} (h : X w B p D) (hl : D.secs.length = L) (hf : ∀ (i : Nat) (s : Sec), D.secs[i]? = some s → s.wait.length ≤ n) : Okd D L n := by
  obtain ⟨g, vs, h⟩ := h
  exact ⟨hl, by rw [← hl]; exact h.one, by rw [← hl]; exact h.most, fun i s hi => (h.sec i s hi).ok, hf⟩

theorem X.below {w w' : World} {B p : Nat} {D : Dk} (h : X w B p D) (f : Below w.heap.size w w') : X w' B p D := by
  obtain ⟨g, vs, h⟩ := h
  exact ⟨g, vs, h.below f⟩
theorem X.bw {w : World} {B p : Nat} {D : Dk} (h : X w B p D) : B ≤ w.heap.size := by
  obtain ⟨g, vs, h⟩ := h
  exact h.bw
/-! Store. -/
def Dk.stE (D : Dk) (at_ : Int) (m : Nat) : Int := if (0 ≤ at_ ∧ at_ < D.secs.length) ∧ m = 256 then (if D.can = true then 0 else 10) else 2
def Dk.st (D : Dk) (at_ : Int) (x : List UInt8) : Dk := if (0 ≤ at_ ∧ at_ < D.secs.length) ∧ x.length = 256 then (if D.can = true then D.sto at_.toNat x else D.moved) else D
theorem stE_ok {D : Dk} {at_ : Int} {m : Nat} (hat : 0 ≤ at_ ∧ at_ < D.secs.length) (hm : m = 256) (hc : D.can = true) : D.stE at_ m = 0 := by unfold Dk.stE; rw [if_pos ⟨hat, hm⟩, if_pos hc]
theorem st_ok {D : Dk} {at_ : Int} {x : List UInt8} (hat : 0 ≤ at_ ∧ at_ < D.secs.length) (hm : x.length = 256) (hc : D.can = true) : D.st at_ x = D.sto at_.toNat x := by unfold Dk.st; rw [if_pos ⟨hat, hm⟩, if_pos hc]
theorem stE_dark {D : Dk} {at_ : Int} {m : Nat} (hat : 0 ≤ at_ ∧ at_ < D.secs.length) (hm : m = 256) (hc : D.can = false) : D.stE at_ m = 10 := by unfold Dk.stE; rw [if_pos ⟨hat, hm⟩, if_neg (by rw [hc]; decide)]
theorem st_dark {D : Dk} {at_ : Int} {x : List UInt8} (hat : 0 ≤ at_ ∧ at_ < D.secs.length) (hm : x.length = 256) (hc : D.can = false) : D.st at_ x = D.moved := by unfold Dk.st; rw [if_pos ⟨hat, hm⟩, if_neg (by rw [hc]; decide)]
theorem stE_bad {D : Dk} {at_ : Int} {m : Nat} (h : ¬ ((0 ≤ at_ ∧ at_ < D.secs.length) ∧ m = 256)) : D.stE at_ m = 2 := by unfold Dk.stE; rw [if_neg h]
theorem st_bad {D : Dk} {at_ : Int} {x : List UInt8} (h : ¬ ((0 ≤ at_ ∧ at_ < D.secs.length) ∧ x.length = 256)) : D.st at_ x = D := by unfold Dk.st; rw [if_neg h]
theorem st_len (D : Dk) (at_ : Int) (x : List UInt8) : (D.st at_ x).secs.length = D.secs.length := by
  unfold Dk.st
  split
  · split
    · simp [Dk.sto, Dk.put, Dk.moved_secs]
    · rw [Dk.moved_secs]
  · rfl
theorem moved_few {D : Dk} {n : Nat} (h : ∀ (i : Nat) (s : Sec), D.secs[i]? = some s → s.wait.length ≤ n) : ∀ (i : Nat) (s : Sec), D.moved.secs[i]? = some s → s.wait.length ≤ n := by rw [Dk.moved_secs]; exact h
theorem st_few {D : Dk} {n : Nat} (h : ∀ (i : Nat) (s : Sec), D.secs[i]? = some s → s.wait.length ≤ n) (at_ : Int) (x : List UInt8) : ∀ (i : Nat) (s : Sec), (D.st at_ x).secs[i]? = some s → s.wait.length ≤ n + 1 := by
  unfold Dk.st
  split
  · split
    · intro i s hi
      rename_i hat _
      obtain ⟨t, ht⟩ : ∃ t, D.secs[at_.toNat]? = some t := ⟨_, List.getElem?_eq_getElem (by omega)⟩
      simp only [Dk.sto, Dk.put, Dk.moved_secs, List.getElem?_set] at hi
      by_cases e : at_.toNat = i
      · rw [if_pos e] at hi
        split at hi
        · have := h _ _ ht
          have e2 : s = (D.secs.getD at_.toNat ⟨[], []⟩).add x := (Option.some.inj hi).symm
          rw [e2, List.getD_eq_getElem?_getD, ht]
          simp [Sec.add]
          exact this
        · simp at hi
      · rw [if_neg e] at hi
        exact Nat.le_succ_of_le (h i s hi)
    · intro i s hi
      exact Nat.le_succ_of_le (moved_few h i s hi)
  · intro i s hi
    exact Nat.le_succ_of_le (h i s hi)

theorem xStore (w : World) (B p : Nat) (D : Dk) (L n : Nat) (hX : X w B p D) (hO : Okd D L n) (hn : n ≤ 1000) (at_ : Int) (q o c m : Nat) (cur : Array Value) (f : Nat × Nat) (hq : w.heap[q]? = some (.cells cur 5 f)) (x : List UInt8) (hm : x.length = m) (hx : BytesAt w (some ⟨q, o, none⟩) x) :
    Calls Tryd.prog 45 #[.pointer (some ⟨p, 0, none⟩), .int .i64 at_, .slice (some ⟨q, o, none⟩) m c] w fun e w' => e = .returned (.int .i64 (D.stE at_ m)) ∧ X w' B p (D.st at_ x) ∧ Fr B w w' := by
  obtain ⟨g, vs, h⟩ := hX
  by_cases hat : 0 ≤ at_ ∧ at_ < D.secs.length
  · by_cases hm2 : m = 256
    · subst hm2
      cases hc : D.can with
      | true =>
        rw [stE_ok hat rfl hc, st_ok hat hm hc]
        obtain ⟨i, rfl⟩ : ∃ i : Nat, at_ = i := ⟨at_.toNat, by omega⟩
        have hi := List.getElem?_eq_getElem (show i < D.secs.length by omega)
        have hqp : q ≠ p := by
          intro e; subst e
          have := hq.symm.trans h.blk
          simp at this
        refine (Store_ok w B p g vs D h i _ hi ⟨q, o, none⟩ c hc (Nat.le_trans (hO.few _ _ hi) (by omega)) x hm (hx.2 _ rfl) hqp).mono ?_
        rintro e w' ⟨rfl, ⟨vs', h'⟩, f'⟩
        refine ⟨rfl, ⟨g, vs', ?_⟩, f'⟩
        unfold Dk.sto
        rw [List.getD_eq_getElem?_getD]
        simp only [Int.toNat_natCast, hi, Option.getD_some]
        exact h'
      | false =>
        rw [stE_dark hat rfl hc, st_dark hat hm hc]
        refine (Store_dark w B p g vs D h at_ _ c hat hc).mono ?_
        rintro e w' ⟨rfl, h', f'⟩
        exact ⟨rfl, ⟨g, vs, h'⟩, f'⟩
    · rw [stE_bad (fun e => hm2 e.2), st_bad (fun e => hm2 (hm ▸ e.2))]
      refine (Store_len w B p g vs D h at_ _ m c hat hm2).mono ?_
      rintro e w' ⟨rfl, rfl⟩
      exact ⟨rfl, ⟨g, vs, h⟩, Fr.refl _ _⟩
  · rw [stE_bad (fun e => hat e.1), st_bad (fun e => hat e.1)]
    refine (Store_out w B p g vs D h at_ _ m c hat).mono ?_
    rintro e w' ⟨rfl, rfl⟩
    exact ⟨rfl, ⟨g, vs, h⟩, Fr.refl _ _⟩

/-! Barrier. -/
def Dk.baE (D : Dk) : Int := if D.can = true then 0 else 10
def Dk.ba (D : Dk) : Dk := if D.can = true then D.bar else D.moved
theorem ba_len (D : Dk) : D.ba.secs.length = D.secs.length := by
  unfold Dk.ba
  split
  · simp [Dk.bar]
  · rw [Dk.moved_secs]
theorem ba_few {D : Dk} {n : Nat} (h : ∀ (i : Nat) (s : Sec), D.secs[i]? = some s → s.wait.length ≤ n) : ∀ (i : Nat) (s : Sec), D.ba.secs[i]? = some s → s.wait.length ≤ n := by
  unfold Dk.ba
  split
  · intro i s hi
    rw [(Dry.bar D) i s hi]; simp
  · exact moved_few h
theorem xBarrier (w : World) (B p : Nat) (D : Dk) (hX : X w B p D) :
    Calls Tryd.prog 33 #[.pointer (some ⟨p, 0, none⟩)] w fun e w' => e = .returned (.int .i64 D.baE) ∧ X w' B p D.ba ∧ Fr B w w' := by
  obtain ⟨g, vs, h⟩ := hX
  unfold Dk.baE Dk.ba
  cases hc : D.can with
  | true =>
    refine (Barrier_ok w B p g vs D h hc).mono ?_
    rintro e w' ⟨rfl, ⟨vs', D', h', hP⟩, f'⟩
    refine ⟨rfl, ⟨g, vs', ?_⟩, f'⟩
    have e := part_bar hP
    rw [Dk.moved_secs] at e
    rw [e] at h'
    exact h'
  | false =>
    refine (Barrier_dark w B p g vs D h hc).mono ?_
    rintro e w' ⟨rfl, h', f'⟩
    exact ⟨rfl, ⟨g, vs, h'⟩, f'⟩
/-! Trip. -/
def Dk.tr (D : Dk) (n : Int) : Dk := { D with trip := max n (-1) }
theorem xTrip (w : World) (B p : Nat) (D : Dk) (hX : X w B p D) (n : Int) (hn : n ≤ 9223372036854775807) :
    Calls Tryd.prog 8 #[.pointer (some ⟨p, 0, none⟩), .int .i64 n] w fun e w' => e = .returned (.int .i64 0) ∧ X w' B p (D.tr n) ∧ Fr B w w' := by
  obtain ⟨g, vs, h⟩ := hX
  refine (Trip_any w B p g vs D h n hn).mono ?_
  rintro e w' ⟨rfl, h', f'⟩
  exact ⟨rfl, ⟨g, vs, h'⟩, f'⟩
/-! Crash. -/
theorem crashed_len (kept : List Int) (D : Dk) : (D.crashed kept).secs.length = D.secs.length := crashTo_len kept D _
theorem crashed_few {D : Dk} {n : Nat} (kept : List Int) (h : ∀ (i : Nat) (s : Sec), D.secs[i]? = some s → s.wait.length ≤ n) : ∀ (i : Nat) (s : Sec), (D.crashed kept).secs[i]? = some s → s.wait.length ≤ n := by
  intro i s hi
  simp only [Dk.crashed, Dk.crashTo, List.getElem?_mapIdx, Option.map_eq_some_iff] at hi
  obtain ⟨t, ht, e⟩ := hi
  have := h i t ht
  subst e
  split
  · unfold crashSec
    split
    · simp [Sec.settle]
    · exact this
  · exact this
theorem xCrash (w : World) (B p : Nat) (D : Dk) (L n : Nat) (hX : X w B p D) (hO : Okd D L n) (hn : n ≤ 1000) (v : Value) (kn base : Nat) (kept : List Int) (hk : kept.length = kn) (hb : ∀ z ∈ kept, -9223372036854775808 ≤ z ∧ z ≤ 9223372036854775807) (hv : w.ownsRow base 3 1 v kn (iv kept)) :
    Calls Tryd.prog 26 #[.pointer (some ⟨p, 0, none⟩), v] w fun e w' => e = .returned (.int .i64 0) ∧ X w' B p (D.crashed kept) ∧ Fr B w w' := by
  obtain ⟨g, vs, h⟩ := hX
  have few : ∀ (i : Nat) (s : Sec), D.secs[i]? = some s → s.wait.length ≤ 1000000 := fun i s hi => Nat.le_trans (hO.few i s hi) (by omega)
  have fin : ∀ w', (∃ (vs' : Nat → Value) (E : Dk), IsDisk w' B p g vs' { E with dark := false, trip := -1 } ∧ Part D (Gcr kept) D.cached.length E) → X w' B p (D.crashed kept) := by
    rintro w' ⟨vs', E, h', hP⟩
    rw [part_crash hP] at h'
    exact ⟨g, vs', h'⟩
  subst hk
  by_cases h0 : kept.length = 0
  · have e := List.eq_nil_of_length_eq_zero h0
    subst e
    obtain ⟨a, c, rfl, _⟩ := own_form hv
    refine (Crash_none w B p g vs D h few a c).mono ?_
    rintro e w' ⟨rfl, h', f'⟩
    exact ⟨rfl, fin _ h', f'⟩
  · rcases hv.2 with ⟨_, h1⟩ | ⟨q, cap, cur, rfl, _, hq, _⟩
    · exact absurd h1 h0
    · have hqg : q ≠ g := by
        intro e; subst e
        obtain ⟨cg, hg, _⟩ := h.row
        have := hq.symm.trans hg
        simp at this
      refine (Crash_at w B p g vs D h few kept q 0 cap ?_ (lt_of_heap hq) hqg ?_).mono ?_
      · intro j hj
        have := hv.cells (g := q) rfl j (.int .i64 (kept.getD j 0)) (by simp [iv, List.getD_eq_getElem?_getD, hj])
        simpa [Addr.add_mid] using this
      · intro j hj
        rw [List.getD_eq_getElem?_getD, List.getElem?_eq_getElem hj]
        exact hb _ (List.getElem_mem hj)
      · rintro e w' ⟨rfl, h', f'⟩
        exact ⟨rfl, fin _ h', f'⟩
/-! Fetch. -/
def Dk.feE (D : Dk) (at_ : Int) : Int := if 0 ≤ at_ ∧ at_ < D.secs.length then (if D.dark = true then 10 else 0) else 2
theorem xFetch_bad (w : World) (B p : Nat) (D : Dk) (hX : X w B p D) (at_ : Int) (hb : ¬ ((0 ≤ at_ ∧ at_ < D.secs.length) ∧ D.dark = false)) :
    Calls Tryd.prog 49 #[.pointer (some ⟨p, 0, none⟩), .int .i64 at_] w fun e w' => e = .returned (.tuple #[.slice none 0 0, .int .i64 (D.feE at_)]) ∧ w' = w := by
  obtain ⟨g, vs, h⟩ := hX
  unfold Dk.feE
  by_cases hat : 0 ≤ at_ ∧ at_ < D.secs.length
  · have hd : D.dark = true := by cases hd : D.dark with | true => rfl | false => exact absurd ⟨hat, hd⟩ hb
    rw [if_pos hat, if_pos hd]
    exact Fetch_dark w B p g vs D h at_ hat hd
  · rw [if_neg hat]
    exact Fetch_out w B p g vs D h at_ hat
/-! What both tell. -/
theorem last_len {s : Sec} (h : s.ok) : s.last.length = 256 := Sec.pick_len h _ (Nat.le_refl _)
theorem okd_dump {D : Dk} {L n : Nat} (h : Okd D L n) : D.dump.length = D.secs.length * 256 := by
  have : ∀ k, k ≤ D.secs.length → (D.dumpTo k).length = k * 256 := by
    intro k
    induction k with
    | zero => intro _; simp [Dk.dumpTo]
    | succ k ih =>
      intro hk
      rw [dumpTo_succ D k (by omega), List.length_append, ih (by omega), last_len (h.ok k _ (List.getElem?_eq_getElem (by omega)))]
      omega
  rw [← dumpTo_all]
  exact this _ (Nat.le_refl _)
theorem bytes_of_own {w : World} {base n c : Nat} {a : Option Addr} {x : List UInt8} (hn : x.length = n) (h : w.ownsRow base 5 1 (.slice a n c) n (bv x)) : BytesAt w a x := by
  rcases h.2 with ⟨e, h0⟩ | ⟨q, cap, cur, e, _⟩
  · have : x = [] := List.eq_nil_of_length_eq_zero (by omega)
    injection e with e
    subst e
    exact ⟨fun _ => this, fun ad e => by cases e⟩
  · injection e with e
    subst e
    exact ⟨fun e => (by cases e), fun ad e j u hu => by injection e with e; subst e; exact h.cells (g := q) rfl j u hu⟩
end Go.Proofs.YtfggahkimconfaaDoor

/- A log on a disk, as plain values: what each call answers, and what it leaves. -/
namespace Go.Proofs.YtfggahkimconfaaDoor
set_option linter.unusedVariables false

/-- A log: where it lies, its head, its records, how many sectors they take, how many are sure; whether the power went. -/
structure Lg where
  at_ : Nat
  size : Nat
  now : Nat
  fro : Nat
  L : List (List UInt8)
  used : Nat
  count : Nat
  gone : Bool

def Dk.lasts (D : Dk) : List (List UInt8) := D.secs.map Sec.last
theorem lasts_len (D : Dk) : D.lasts.length = D.secs.length := by simp [Dk.lasts]
def Dk.dataS (D : Dk) (a n : Nat) : List (List UInt8) := (D.lasts.drop (a + 1)).take (n - 1)
def placeOk (D : Dk) (at_ size : Int) : Prop := 2 ≤ size ∧ size ≤ D.secs.length ∧ 0 ≤ at_ ∧ at_ ≤ D.secs.length - size
instance (D : Dk) (a n : Int) : Decidable (placeOk D a n) := by unfold placeOk; infer_instance
/-- A sector is stored; barrier. -/
def Dk.sb (D : Dk) (a : Nat) (x : List UInt8) : Dk × Int := if D.stE a 256 = 0 then ((D.st a x).ba, (D.st a x).baE) else (D.st a x, D.stE a 256)
def Dk.fmt (D : Dk) (at_ size : Int) : Dk × Int := if placeOk D at_ size then D.sb at_.toNat (secB (headR 1 1)) else (D, 2)
/-- The next epoch begins. -/
def Lg.nxt (g : Lg) (D : Dk) (fro : Nat) : Dk × Lg × Int :=
  if 4294967295 ≤ g.now then (D, g, 4) else if (D.sb g.at_ (secB (headR (g.now + 1) fro))).2 = 0 then ((D.sb g.at_ (secB (headR (g.now + 1) fro))).1, { g with now := g.now + 1, fro := fro }, 0)
    else ((D.sb g.at_ (secB (headR (g.now + 1) fro))).1, { g with gone := true }, (D.sb g.at_ (secB (headR (g.now + 1) fro))).2)
/-- The log that a head tells of, its records read. -/
def Dk.found (D : Dk) (a n : Nat) (h : Rec) : Lg :=
  ⟨a, n, h.epoch.toNat, num h.data, (scanW h.epoch (D.dataS a n) 0 ⟨(num h.data : Int), false, [], [], 0⟩).L, (scanW h.epoch (D.dataS a n) 0 ⟨(num h.data : Int), false, [], [], 0⟩).used, (scanW h.epoch (D.dataS a n) 0 ⟨(num h.data : Int), false, [], [], 0⟩).L.length, false⟩
def Dk.headAt (D : Dk) (a : Nat) : Option Rec := match D.lasts[a]? with
  | none => none
  | some b => match readS b with
    | none => none
    | some h => if h.data.length = 4 then some h else none
/-- Where a head lies, its from-epoch is not above its epoch. -/
def HdOk (D : Dk) (a : Int) : Prop := ∀ h, D.headAt a.toNat = some h → (num h.data : Int) ≤ h.epoch
def Dk.opn (D : Dk) (at_ size : Int) : Dk × Option Lg × Int :=
  if placeOk D at_ size then
    if D.dark = true then (D, none, 10)
    else match D.headAt at_.toNat with
      | none => (D, none, 40)
      | some h => (((D.found at_.toNat size.toNat h).nxt D (num h.data)).1, if ((D.found at_.toNat size.toNat h).nxt D (num h.data)).2.2 = 0 then some ((D.found at_.toNat size.toNat h).nxt D (num h.data)).2.1 else none, ((D.found at_.toNat size.toNat h).nxt D (num h.data)).2.2)
  else (D, none, 2)
/-- Sectors are stored, one behind the other, as long as the power is there. -/
def Dk.stores : Dk → Nat → List (List UInt8) → Dk × Int
  | D, _, [] => (D, 0)
  | D, k, x :: xs => if D.stE k 256 = 0 then (D.st k x).stores (k + 1) xs else (D.st k x, D.stE k 256)
def Lg.apd (g : Lg) (D : Dk) (d : List UInt8) : Dk × Lg × Int :=
  if g.gone = true then (D, g, 10) else if 4096 < d.length then (D, g, 3) else if g.size - 1 - g.used < need d.length then (D, g, 4)
  else if (D.stores (g.at_ + 1 + g.used) (secsOf g.now g.used d)).2 = 0 then ((D.stores (g.at_ + 1 + g.used) (secsOf g.now g.used d)).1, { g with used := g.used + need d.length, L := g.L ++ [d] }, 0)
    else ((D.stores (g.at_ + 1 + g.used) (secsOf g.now g.used d)).1, { g with gone := true }, (D.stores (g.at_ + 1 + g.used) (secsOf g.now g.used d)).2)
def Lg.flu (g : Lg) (D : Dk) : Dk × Lg × Int :=
  if g.gone = true then (D, g, 10) else if D.baE = 0 then (D.ba, { g with count := g.L.length }, 0) else (D.ba, { g with gone := true }, D.baE)
def Lg.rst (g : Lg) (D : Dk) : Dk × Lg × Int :=
  if g.gone = true then (D, g, 10) else if (g.nxt D (g.now + 1)).2.2 = 0 then ((g.nxt D (g.now + 1)).1, { (g.nxt D (g.now + 1)).2.1 with L := [], used := 0, count := 0 }, 0) else g.nxt D (g.now + 1)

/-! How a disk's values turn. -/
theorem last_add (s : Sec) (x : List UInt8) : (s.add x).last = x := by
  unfold Sec.last Sec.add Sec.pick
  simp
theorem last_flush (s : Sec) : s.flush.last = s.last := rfl
theorem moved_lasts (D : Dk) : D.moved.lasts = D.lasts := by unfold Dk.lasts; rw [Dk.moved_secs]
theorem ba_lasts (D : Dk) : D.ba.lasts = D.lasts := by
  unfold Dk.ba
  split
  · unfold Dk.lasts Dk.bar
    simp only [List.map_map]
    rfl
  · exact moved_lasts D
theorem sto_lasts (D : Dk) (a : Nat) (x : List UInt8) (ha : a < D.secs.length) : (D.sto a x).lasts = D.lasts.set a x := by
  unfold Dk.sto Dk.put Dk.lasts
  rw [Dk.moved_secs]
  simp only [List.map_set, last_add]
def quiet (D : Dk) : Prop := D.trip = -1 ∧ D.dark = false
theorem quiet_can {D : Dk} (h : quiet D) : D.can = true := by unfold Dk.can; rw [h.1, h.2]; decide
theorem quiet_moved {D : Dk} (h : quiet D) : quiet D.moved := by
  unfold Dk.moved
  rw [if_neg (by rw [h.1]; decide), if_neg (by rw [h.2]; decide)]
  refine ⟨?_, h.2⟩
  show (if 0 < D.trip then D.trip - 1 else D.trip) = -1
  rw [h.1]
  rfl
theorem st_quiet {D : Dk} (h : quiet D) {a : Nat} {x : List UInt8} (ha : a < D.secs.length) (hx : x.length = 256) : D.stE a 256 = 0 ∧ quiet (D.st a x) ∧ (D.st a x).lasts = D.lasts.set a x ∧ (D.st a x).secs.length = D.secs.length := by
  have hat : 0 ≤ (a : Int) ∧ (a : Int) < D.secs.length := by omega
  refine ⟨stE_ok hat rfl (quiet_can h), ?_, ?_, st_len _ _ _⟩
  · rw [st_ok hat hx (quiet_can h)]
    exact quiet_moved h
  · rw [st_ok hat hx (quiet_can h)]
    exact sto_lasts D _ x (by simpa using ha)
theorem ba_quiet {D : Dk} (h : quiet D) : D.baE = 0 ∧ quiet D.ba ∧ D.ba.secs.length = D.secs.length ∧ (∀ (i : Nat) (s : Sec), D.ba.secs[i]? = some s → s.wait = []) := by
  have hc := quiet_can h
  refine ⟨by unfold Dk.baE; rw [if_pos hc], ?_, ?_, ?_⟩
  · unfold Dk.ba
    rw [if_pos hc]
    exact quiet_moved h
  · unfold Dk.ba
    rw [if_pos hc]
    simp [Dk.bar]
  · unfold Dk.ba
    rw [if_pos hc]
    intro i s hi
    simp only [Dk.bar, List.getElem?_map, Option.map_eq_some_iff] at hi
    obtain ⟨t, _, rfl⟩ := hi
    rfl
theorem stores_quiet : ∀ (xs : List (List UInt8)) (D : Dk) (k : Nat), quiet D → k + xs.length ≤ D.secs.length → (∀ x ∈ xs, x.length = 256) →
    (D.stores k xs).2 = 0 ∧ quiet (D.stores k xs).1 ∧ (D.stores k xs).1.lasts = putSecs D.lasts k xs ∧ (D.stores k xs).1.secs.length = D.secs.length
  | [], D, k, h, hk, _ => ⟨rfl, h, by unfold putSecs; simp [Dk.stores], rfl⟩
  | x :: xs, D, k, h, hk, hx => by
    simp only [List.length_cons] at hk
    obtain ⟨e1, e2, e3, e4⟩ := st_quiet h (a := k) (x := x) (by omega) (hx x (by simp))
    obtain ⟨f1, f2, f3, f4⟩ := stores_quiet xs (D.st k x) (k + 1) e2 (by rw [e4]; omega) (fun y hy => hx y (by simp [hy]))
    have hs : D.stores k (x :: xs) = (D.st k x).stores (k + 1) xs := by rw [Dk.stores, if_pos e1]
    rw [hs]
    refine ⟨f1, f2, ?_, by rw [f4, e4]⟩
    rw [f3, e3]
    have hkl : k < D.lasts.length := by rw [lasts_len]; omega
    unfold putSecs
    rw [List.take_set, List.take_succ_eq_append_getElem hkl, List.drop_set_of_lt (by omega)]
    have e5 : (D.lasts.take k ++ [D.lasts[k]]).set k x = D.lasts.take k ++ [x] := by
      rw [List.set_append_right _ _ (by rw [List.length_take]; omega)]
      rw [List.length_take, Nat.min_eq_left (by omega), Nat.sub_self]
      rfl
    rw [e5, List.length_cons, show k + 1 + xs.length = k + (xs.length + 1) by omega]
    simp

/-! A log that lies on a disk whose power is there. -/
structure Lay (D : Dk) (a n now fro : Nat) (E : List (Nat × List UInt8)) : Prop where
  q : quiet D
  two : 2 ≤ n
  fit : a + n ≤ D.secs.length
  most : D.secs.length ≤ 4096
  head : D.lasts[a]? = some (secB (headR now fro))
  log : LogOn (D.dataS a n) now fro E
theorem data_len {D : Dk} {a n : Nat} (h2 : 2 ≤ n) (hf : a + n ≤ D.secs.length) : (D.dataS a n).length = n - 1 := by
  unfold Dk.dataS
  rw [List.length_take, List.length_drop, lasts_len]
  omega
theorem Lay.place {D : Dk} {a n now fro : Nat} {E : List (Nat × List UInt8)} (h : Lay D a n now fro E) : placeOk D a n := by
  have := h.two
  have := h.fit
  unfold placeOk
  omega
theorem Lay.headAt {D : Dk} {a n now fro : Nat} {E : List (Nat × List UInt8)} (h : Lay D a n now fro E) : D.headAt a = some (headR now fro) := by
  unfold Dk.headAt
  rw [h.head]
  simp only [read_sec (head_fit h.log.top)]
  exact if_pos (be4_len fro)
theorem Lay.hd {D : Dk} {a n now fro : Nat} {E : List (Nat × List UInt8)} (h : Lay D a n now fro E) : HdOk D (a : Int) := fun r hr => by
  rw [Int.toNat_natCast, h.headAt] at hr
  cases hr
  rw [show num (headR now fro).data = fro from num_head (by have := h.log.ord; have := h.log.top; omega)]
  show (fro : Int) ≤ (now : Int)
  have := h.log.ord
  omega
theorem Lay.found {D : Dk} {a n now fro : Nat} {E : List (Nat × List UInt8)} (h : Lay D a n now fro E) : D.found a n (headR now fro) = ⟨a, n, now, fro, E.map (·.2), usedBy E, E.length, false⟩ := by
  have hf : num (headR now fro).data = fro := num_head (by have := h.log.ord; have := h.log.top; omega)
  have hs := h.log.scan
  unfold Dk.found
  rw [hf]
  have he : (headR now fro).epoch = (now : Int) := rfl
  rw [he, hs.1, hs.2]
  simp
theorem sb_quiet {D : Dk} (h : quiet D) {a : Nat} {x : List UInt8} (ha : a < D.secs.length) (hx : x.length = 256) : (D.sb a x).2 = 0 ∧ quiet (D.sb a x).1 ∧ (D.sb a x).1.lasts = D.lasts.set a x ∧ (D.sb a x).1.secs.length = D.secs.length ∧ (∀ (i : Nat) (s : Sec), (D.sb a x).1.secs[i]? = some s → s.wait = []) := by
  obtain ⟨e1, e2, e3, e4⟩ := st_quiet h ha hx
  obtain ⟨f1, f2, f3, f4⟩ := ba_quiet e2
  have hs : D.sb a x = ((D.st a x).ba, (D.st a x).baE) := by unfold Dk.sb; rw [if_pos e1]
  rw [hs]
  exact ⟨f1, f2, by rw [ba_lasts, e3], by rw [f3, e4], f4⟩
/-- The head is written anew: what stands behind it is as it was. -/
theorem Lay.newHead {D D' : Dk} {a n now fro now' fro' : Nat} {E E' : List (Nat × List UInt8)} (h : Lay D a n now fro E) (q : quiet D') (hl : D'.lasts = D.lasts.set a (secB (headR now' fro'))) (hs : D'.secs.length = D.secs.length) (hL : LogOn (D.dataS a n) now' fro' E') : Lay D' a n now' fro' E' := by
  refine ⟨q, h.two, by rw [hs]; exact h.fit, by rw [hs]; exact h.most, ?_, ?_⟩
  · rw [hl]
    exact List.getElem?_set_self (by rw [lasts_len]; have := h.fit; have := h.two; omega)
  · have : D'.dataS a n = D.dataS a n := by
      unfold Dk.dataS
      rw [hl, List.drop_set_of_lt (by omega)]
    rw [this]
    exact hL
theorem Lay.nxt {D : Dk} {a n now fro : Nat} {E : List (Nat × List UInt8)} (h : Lay D a n now fro E) (ht : now < 4294967295) (g : Lg) (hg : g.at_ = a ∧ g.now = now) (f : Nat) :
    (g.nxt D f).2 = ({ g with now := now + 1, fro := f }, 0) ∧ quiet (g.nxt D f).1 ∧ (g.nxt D f).1.lasts = D.lasts.set a (secB (headR (now + 1) f)) ∧ (g.nxt D f).1.secs.length = D.secs.length ∧ (∀ (i : Nat) (s : Sec), (g.nxt D f).1.secs[i]? = some s → s.wait = []) := by
  obtain ⟨e1, e2, e3, e4, e5⟩ := sb_quiet h.q (a := a) (x := secB (headR (now + 1) f)) (by have := h.fit; have := h.two; omega) (secB_len (head_fit (by omega)))
  have hx : g.nxt D f = ((D.sb a (secB (headR (now + 1) f))).1, { g with now := now + 1, fro := f }, 0) := by
    unfold Lg.nxt
    rw [hg.1, hg.2, if_neg (by omega), if_pos e1]
  rw [hx]
  exact ⟨rfl, e2, e3, e4, e5⟩
theorem Lay.opn {D : Dk} {a n now fro : Nat} {E : List (Nat × List UInt8)} (h : Lay D a n now fro E) (ht : now < 4294967295) :
    ∃ D', D.opn a n = (D', some ⟨a, n, now + 1, fro, E.map (·.2), usedBy E, E.length, false⟩, 0) ∧ Lay D' a n (now + 1) fro E ∧ D'.secs.length = D.secs.length ∧ (∀ (i : Nat) (s : Sec), D'.secs[i]? = some s → s.wait = []) ∧ D'.dataS a n = D.dataS a n := by
  have hf : num (headR now fro).data = fro := num_head (by have := h.log.ord; have := h.log.top; omega)
  obtain ⟨e1, e2, e3, e4, e5⟩ := h.nxt ht ⟨a, n, now, fro, E.map (·.2), usedBy E, E.length, false⟩ ⟨rfl, rfl⟩ fro
  refine ⟨_, ?_, h.newHead e2 e3 e4 (h.log.opened (by omega)), e4, e5, by unfold Dk.dataS; rw [e3, List.drop_set_of_lt (by omega)]⟩
  unfold Dk.opn
  rw [if_pos h.place, if_neg (by rw [h.q.2]; decide)]
  simp only [Int.toNat_natCast, h.headAt, h.found, hf]
  rw [e1]
  rfl
/-- A log that was opened, and stands. -/
structure On (D : Dk) (g : Lg) (E : List (Nat × List UInt8)) : Prop where
  lay : Lay D g.at_ g.size g.now g.fro E
  recs : g.L = E.map (·.2)
  used : g.used = usedBy E
  live : g.gone = false
theorem secsOf_256 {e k : Nat} {d : List UInt8} (he : e < 4294967296) : ∀ x ∈ secsOf e k d, x.length = 256 := fun x hx => by
  simp only [secsOf, List.mem_map] at hx
  obtain ⟨i, _, rfl⟩ := hx
  exact secOf_len he
theorem put_data (S : List (List UInt8)) (a n u : Nat) (xs : List (List UInt8)) (hf : a + n ≤ S.length) (hu : u + xs.length ≤ n - 1) (h2 : 2 ≤ n) : ((putSecs S (a + 1 + u) xs).drop (a + 1)).take (n - 1) = putSecs ((S.drop (a + 1)).take (n - 1)) u xs := by
  unfold putSecs
  rw [List.drop_append_of_le_length (by rw [List.length_take]; omega), List.drop_take, show a + 1 + u - (a + 1) = u by omega]
  have e1 : ((S.drop (a + 1)).take (n - 1)).take u = (S.drop (a + 1)).take u := by rw [List.take_take, Nat.min_eq_left (by omega)]
  have e2 : ((S.drop (a + 1)).take (n - 1)).drop (u + xs.length) = (S.drop (a + 1 + u + xs.length)).take (n - 1 - u - xs.length) := by
    rw [List.drop_take, List.drop_drop, show a + 1 + (u + xs.length) = a + 1 + u + xs.length by omega, show n - 1 - (u + xs.length) = n - 1 - u - xs.length by omega]
  rw [e1, e2]
  have hPl : ((S.drop (a + 1)).take u).length = u := by rw [List.length_take, List.length_drop]; omega
  generalize (S.drop (a + 1)).take u = P at *
  rw [List.take_append, List.take_of_length_le (show P.length ≤ n - 1 by omega), hPl, List.take_append, List.take_of_length_le (show xs.length ≤ n - 1 - u by omega)]
theorem On.append {D : Dk} {g : Lg} {E : List (Nat × List UInt8)} (h : On D g E) (d : List UInt8) (hd : d.length ≤ 4096) (hr : usedBy E + need d.length ≤ g.size - 1) :
    ∃ D', g.apd D d = (D', { g with used := g.used + need d.length, L := g.L ++ [d] }, 0) ∧ On D' { g with used := g.used + need d.length, L := g.L ++ [d] } (E ++ [(g.now, d)]) ∧ D'.secs.length = D.secs.length := by
  have hfit := h.lay.fit
  have h2 := h.lay.two
  have hsl := secsOf_len g.now g.used d
  obtain ⟨e1, e2, e3, e4⟩ := stores_quiet (secsOf g.now g.used d) D (g.at_ + 1 + g.used) h.lay.q (by rw [hsl, h.used]; omega) (secsOf_256 h.lay.log.top)
  have ha : (Lg.apd g D d) = ((D.stores (g.at_ + 1 + g.used) (secsOf g.now g.used d)).1, { g with used := g.used + need d.length, L := g.L ++ [d] }, 0) := by
    unfold Lg.apd
    rw [if_neg (by rw [h.live]; decide), if_neg (by omega), if_neg (by rw [h.used]; omega), if_pos e1]
  refine ⟨_, ha, ⟨⟨e2, h2, by rw [e4]; exact hfit, by rw [e4]; exact h.lay.most, ?_, ?_⟩, by simp [h.recs], by rw [usedBy_snoc, h.used], h.live⟩, e4⟩
  · show (D.stores (g.at_ + 1 + g.used) (secsOf g.now g.used d)).1.lasts[g.at_]? = _
    rw [e3]
    unfold putSecs
    rw [List.getElem?_append_left (by rw [List.length_take, lasts_len]; omega), List.getElem?_take, if_pos (by omega)]
    exact h.lay.head
  · have e5 : (D.stores (g.at_ + 1 + g.used) (secsOf g.now g.used d)).1.dataS g.at_ g.size = putSecs (D.dataS g.at_ g.size) g.used (secsOf g.now g.used d) := by
      unfold Dk.dataS
      rw [e3]
      exact put_data D.lasts g.at_ g.size g.used _ (by rw [lasts_len]; exact hfit) (by rw [hsl, h.used]; omega) h2
    show LogOn ((D.stores (g.at_ + 1 + g.used) (secsOf g.now g.used d)).1.dataS g.at_ g.size) g.now g.fro (E ++ [(g.now, d)])
    rw [e5, h.used]
    exact h.lay.log.append d hd (by rw [data_len h2 hfit]; exact hr)
theorem On.full {D : Dk} {g : Lg} {E : List (Nat × List UInt8)} (h : On D g E) (d : List UInt8) (hd : d.length ≤ 4096) (hr : g.size - 1 - usedBy E < need d.length) : g.apd D d = (D, g, 4) := by
  unfold Lg.apd
  rw [if_neg (by rw [h.live]; decide), if_neg (by omega), if_pos (by rw [h.used]; exact hr)]
theorem On.long {D : Dk} {g : Lg} {E : List (Nat × List UInt8)} (h : On D g E) (d : List UInt8) (hd : 4096 < d.length) : g.apd D d = (D, g, 3) := by
  unfold Lg.apd
  rw [if_neg (by rw [h.live]; decide), if_pos hd]
theorem On.flush {D : Dk} {g : Lg} {E : List (Nat × List UInt8)} (h : On D g E) : g.flu D = (D.ba, { g with count := g.L.length }, 0) ∧ On D.ba { g with count := g.L.length } E ∧ D.ba.secs.length = D.secs.length ∧ (∀ (i : Nat) (s : Sec), D.ba.secs[i]? = some s → s.wait = []) := by
  obtain ⟨e1, e2, e3, e4⟩ := ba_quiet h.lay.q
  refine ⟨?_, ⟨⟨e2, h.lay.two, by rw [e3]; exact h.lay.fit, by rw [e3]; exact h.lay.most, ?_, ?_⟩, h.recs, h.used, h.live⟩, e3, e4⟩
  · unfold Lg.flu
    rw [if_neg (by rw [h.live]; decide), if_pos e1]
  · rw [ba_lasts]
    exact h.lay.head
  · have : D.ba.dataS g.at_ g.size = D.dataS g.at_ g.size := by unfold Dk.dataS; rw [ba_lasts]
    show LogOn (D.ba.dataS g.at_ g.size) g.now g.fro E
    rw [this]
    exact h.lay.log
theorem Lay.on {D : Dk} {a n now fro : Nat} {E : List (Nat × List UInt8)} (h : Lay D a n now fro E) (c : Nat) : On D ⟨a, n, now, fro, E.map (·.2), usedBy E, c, false⟩ E := ⟨h, rfl, rfl, rfl⟩
/-- A disk that was formatted. -/
theorem fmt_quiet {D : Dk} (q : quiet D) {a n : Nat} (h2 : 2 ≤ n) (hf : a + n ≤ D.secs.length) (hm : D.secs.length ≤ 4096) (hdead : ∀ (i : Nat) (b : List UInt8), (D.dataS a n)[i]? = some b → deadS 1 b) :
    ∃ D', D.fmt a n = (D', 0) ∧ Lay D' a n 1 1 [] ∧ D'.secs.length = D.secs.length ∧ (∀ (i : Nat) (s : Sec), D'.secs[i]? = some s → s.wait = []) := by
  obtain ⟨e1, e2, e3, e4, e5⟩ := sb_quiet q (a := a) (x := secB (headR 1 1)) (by omega) (secB_len (head_fit (by omega)))
  refine ⟨(D.sb a (secB (headR 1 1))).1, ?_, ⟨e2, h2, by rw [e4]; exact hf, by rw [e4]; exact hm, ?_, ?_⟩, e4, e5⟩
  · unfold Dk.fmt
    rw [if_pos (by unfold placeOk; omega), Int.toNat_natCast]
    exact Prod.ext rfl e1
  · rw [e3]
    exact List.getElem?_set_self (by rw [lasts_len]; omega)
  · have : (D.sb a (secB (headR 1 1))).1.dataS a n = D.dataS a n := by
      unfold Dk.dataS
      rw [e3, List.drop_set_of_lt (by omega)]
    rw [this]
    exact ⟨trivial, by simp [usedBy], by rw [data_len h2 hf]; omega, by simp [usedBy, allSecs], fun i b _ hb => hdead i b hb, Nat.le_refl _, by omega⟩
theorem fresh_dead {L a n : Nat} : ∀ (i : Nat) (b : List UInt8), ((Dk.fresh L).dataS a n)[i]? = some b → deadS 1 b := fun i b hb => by
  have hm : b ∈ (Dk.fresh L).lasts := by
    unfold Dk.dataS at hb
    have := List.mem_of_getElem? hb
    exact List.mem_of_mem_drop (List.mem_of_mem_take this)
  simp only [Dk.lasts, Dk.fresh, List.mem_map, List.mem_replicate] at hm
  obtain ⟨s, ⟨_, rfl⟩, rfl⟩ := hm
  exact dead_nought 1

end Go.Proofs.YtfggahkimconfaaDoor

/- append of so many noughts onto bytes of one's own (append(b, make([]byte, n)...)). -/
namespace Go.Proofs.YtfggahkimconfaaDoor
open Go.RowKit
set_option linter.unusedVariables false

def zv (m : Nat) : List Value := List.replicate m (.int .u8 0)
theorem zeroCells_u8 (m : Nat) : Builtin.zeroCells #[Value.int .u8 0] m = (zv m).toArray := by
  apply Array.ext'
  apply List.ext_getElem?
  intro j
  unfold Builtin.zeroCells zv
  simp only [Array.toList_map, Array.toList_range, List.getElem?_map, List.getElem?_replicate]
  by_cases hj : j < m
  · simp [hj, Nat.mod_one]
  · simp [hj]

theorem run_append_zeros (w : World) (base g n cap m : Nat) (ty : TypeId) (xs : List Value) (hown : w.ownsRow base 5 1 (.slice (some ⟨g, 0, none⟩) n cap) n xs) (hm : 0 < m) (hmax : n + m ≤ 1000000) (hbase : base ≤ w.heap.size) :
    ∃ v' w', (Builtin.append_ #[39, 3] ty #[.slice (some ⟨g, 0, none⟩) n cap, .int .i64 (m : Int)]).run Tryd.prog w = .ok v' w' ∧ w'.ownsRow base 5 1 v' (n + m) (xs ++ zv m) ∧ w.grownBy w' (some g) := by
  obtain ⟨i, hi, hz0, hz1, hz2⟩ := info_parts infoB
  have ht : Tryd.prog.underlying 39 = some (.slice 5) := Tryd.underlying39
  have hti : Tryd.prog.underlying 3 = some (.int .i64) := by kernel_rfl
  have hwr : IntKind.i64.wrap (m : Int) = (m : Int) := by rw [IntKind.wrap_i64]; omega
  have h0 : ¬ ((m : Int) < 0) := by omega
  have h48 : ¬ (281474976710656 < (m : Int)) := by omega
  have hm0 : ¬ m = 0 := by omega
  have hzl : (zv m).length = m := by simp [zv]
  have hone : ∀ u ∈ zv m, u.oneCell' = true := fun u hu => by
    have := (List.mem_replicate.1 hu).2
    subst this
    rfl
  have hxl : xs.length = n := by have := hown.1; omega
  have hzc := zeroCells_u8
  rcases hown.2 with ⟨e, _⟩ | ⟨q, cap', cur, e, hbg, hg, hnc, hcm, hcs, htake⟩
  · cases e
  injection e with e1 _ e2
  injection e1 with e1
  injection e1 with e1
  subst e1
  subst e2
  by_cases hroom : n + m ≤ cap
  · have hst := run_storeCells_at Tryd.prog g n 5 (zv m) 0 cur w hg (by rw [hzl]; omega) hone
    simp only [Nat.add_zero] at hst
    refine ⟨.slice (some ⟨g, 0, none⟩) (n + m) cap, w.setRow g (cur.toList.take n ++ zv m ++ cur.toList.drop (n + (zv m).length)).toArray, ?_, ?_, ?_⟩
    · simp [Builtin.append_, run_underlying ht, run_underlying hti, sizeOf, typeInfo, zeroValue, hi, hz0, hz1, hz2, asInt, asIntOf, hwr, h0, h48, hm0, hroom, Addr.add_lit, hzc, Value.cells, hst]
    · refine ⟨by rw [List.length_append, hxl, hzl]; omega, .inr ⟨g, cap, _, rfl, hbg, setRow_heap w g cur _ _ _ hg, hroom, hcm, ?_, ?_⟩⟩
      · simp only [List.size_toArray, List.length_append, List.length_take, List.length_drop, Array.length_toList, hzl]
        omega
      · have ht2 : cur.toList.take n = xs := by have := htake; rwa [Nat.mul_one] at this
        rw [ht2, Nat.mul_one]
        have hl2 : (xs ++ zv m).length = n + m := by rw [List.length_append, hxl, hzl]
        rw [← hl2]
        exact List.take_left
    · exact ⟨rfl, rfl, rfl, by simp, fun k _ hk => setRow_other w g k _ (fun e => hk (by rw [e]))⟩
  · have h63' : ¬ (9223372036854775807 < ((n : Int) + (m : Int))) := by omega
    have hfit : ¬ (281474976710656 < Builtin.nextslicecap (n + m) cap) := by
      have := growslice_fits (need := n + m) (old := cap) (bytes := 1) (by omega) (by omega)
      omega
    have holds : ∀ j u, xs[j]? = some u → w.cell? ((⟨g, 0, none⟩ : Addr).add j) = some u := hown.cells (g := g) rfl
    have hfo := run_firstCells_some (P := Tryd.prog) w.drew 1 n ⟨g, 0, none⟩ n cap xs (by omega) (by simpa using holds)
    refine ⟨.slice (some ⟨w.heap.size, 0, none⟩) (n + m) (grownCap w (n + m) cap 5), w.drew.alloc (.cells (xs.toArray ++ (zv m).toArray ++ Builtin.zeroCells (#[Value.int .u8 0]) (grownCap w (n + m) cap 5 - (n + m))) 5), ?_, ?_, ?_⟩
    · simp [Builtin.append_, run_underlying ht, run_underlying hti, sizeOf, typeInfo, zeroValue, hi, hz0, hz1, hz2, asInt, asIntOf, hwr, h0, h48, hm0, hroom, h63', hfit, Question.forced, hfo, newRow, grownCap, hzc, Value.cells]
    · have hge := grownCap_ge w (n + m) cap 5
      have hcm2 : grownCap w (n + m) cap 5 ≤ maxLen := grownCap_le_maxLen w (n + m) cap 5 (by unfold maxLen; omega)
      refine ⟨by rw [List.length_append, hxl, hzl]; omega, .inr ⟨w.heap.size, _, _, rfl, hbase, heap_alloc_new w.drew _, hge, hcm2, ?_, ?_⟩⟩
      · rw [hzc]
        simp only [Array.size_append, List.size_toArray, hzl, hxl]
        simp [zv]
        omega
      · rw [hzc]
        simp only [Array.toList_append]
        have hl2 : (xs ++ zv m).length = (n + m) * 1 := by rw [List.length_append, hxl, hzl]; omega
        rw [← hl2]
        exact List.take_left
    · exact ⟨rfl, rfl, rfl, by simp, fun k hk _ => heap_alloc_old w.drew _ hk⟩

end Go.Proofs.YtfggahkimconfaaDoor

/- The contracts of the document's own log: four, number, sector, head, read. -/
namespace Go.Proofs.YtfggahkimconfaaDoor
open Go.RowKit
set_option linter.unusedVariables false

theorem zv_bv (m : Nat) : zv m = bv (zeros m) := by simp [zv, bv, zeros]
theorem append_zeros (w : World) {ops : Array Oper} {rest : List Oper} {o : Oper} {a : Act} {Q : Exit → Act → World → Prop} (hgd : o.guard = none) (s x : Operand)
    (ho : o.op = .call { callee := .builtin .append, args := #[s, x], argTypes := #[39, 3] }) (base g n cap m : Nat) (l : List UInt8) (hs : a.eval s = .slice (some ⟨g, 0, none⟩) n cap) (hx : a.eval x = .int .i64 (m : Int))
    (hown : w.ownsRow base 5 1 (.slice (some ⟨g, 0, none⟩) n cap) n (bv l)) (hm : 0 < m) (hmax : n + m ≤ 1000000) (hbase : base ≤ w.heap.size)
    (h : ∀ v' w', w'.ownsRow base 5 1 v' (n + m) (bv (l ++ zeros m)) → w.grownBy w' (some g) → wpList Tryd.prog ops Q rest (a.put o.dst v') w') : wpList Tryd.prog ops Q (o :: rest) a w := by
  refine wpList_plain hgd fun K hK => ?_
  obtain ⟨v', w', hr, h2, h3⟩ := run_append_zeros w base g n cap m o.type (bv l) hown hm hmax hbase
  rw [zv_bv, ← bv_append] at h2
  unfold Oper.wp execOp
  simp only [ho, resolve, invoke, builtin, Sem.run_bind, Sem.run_pure, Result.andThen_ok, List.map_toArray, List.map_cons, List.map_nil, hs, hx, hr]
  exact hK _ _ (h v' w' h2 h3)

theorem num_get {l : List UInt8} {b0 b1 b2 b3 : UInt8} (h0 : l[0]? = some b0) (h1 : l[1]? = some b1) (h2 : l[2]? = some b2) (h3 : l[3]? = some b3) : (num l : Int) = (b0.toNat : Int) * 16777216 + (b1.toNat : Int) * 65536 + (b2.toNat : Int) * 256 + (b3.toNat : Int) := by
  unfold num
  simp only [List.getD_eq_getElem?_getD, h0, h1, h2, h3, Option.getD_some]
  omega
theorem str_index (l : List UInt8) (i : Nat) (b : UInt8) (h : l[i]? = some b) : ∀ w, (Instr.index 9 (str l) (.int .i64 (i : Int))).run Tryd.prog w = .ok (.int .u8 (b.toNat : Int)) w := fun w => by
  have hl : i < l.length := (List.getElem?_eq_some_iff.1 h).1
  have hb := (List.getElem?_eq_some_iff.1 h).2
  have hs : (⟨l.toArray⟩ : ByteArray).size = l.length := by simp [ByteArray.size]
  have := run_index_string (P := Tryd.prog) (w := w) 9 ⟨l.toArray⟩ .i64 (i : Int) (by kernel_rfl)
  rw [dif_pos ⟨by omega, by rw [hs]; omega⟩] at this
  unfold str
  rw [this]
  have e : (⟨l.toArray⟩ : ByteArray)[(i : Int).toNat]'(by rw [hs]; omega) = b := by
    rw [← hb]
    simp [ByteArray.getElem_eq_getElem_data]
  rw [e]
theorem append_zeros0 (w : World) {ops : Array Oper} {rest : List Oper} {o : Oper} {a : Act} {Q : Exit → Act → World → Prop} (hgd : o.guard = none) (s x : Operand)
    (ho : o.op = .call { callee := .builtin .append, args := #[s, x], argTypes := #[39, 3] }) (g n cap : Nat) (hs : a.eval s = .slice (some ⟨g, 0, none⟩) n cap) (hx : a.eval x = .int .i64 0) (hc : n ≤ cap)
    (h : wpList Tryd.prog ops Q rest (a.put o.dst (.slice (some ⟨g, 0, none⟩) n cap)) w) : wpList Tryd.prog ops Q (o :: rest) a w := by
  refine wpList_plain hgd fun K hK => ?_
  have hr : (Builtin.append_ #[39, 3] o.type #[.slice (some ⟨g, 0, none⟩) n cap, .int .i64 0]).run Tryd.prog w = .ok (.slice (some ⟨g, 0, none⟩) n cap) w := by
    obtain ⟨i, hi, hz0, hz1, hz2⟩ := info_parts infoB
    have ht : Tryd.prog.underlying 39 = some (.slice 5) := Tryd.underlying39
    have hti : Tryd.prog.underlying 3 = some (.int .i64) := by kernel_rfl
    have hwr : IntKind.i64.wrap 0 = 0 := by rw [IntKind.wrap_i64]; omega
    simp [Builtin.append_, run_underlying ht, run_underlying hti, sizeOf, typeInfo, zeroValue, hi, hz0, hz2, asInt, asIntOf, hwr, hc, Addr.add_lit, storeCells]
  unfold Oper.wp execOp
  simp only [ho, resolve, invoke, builtin, Sem.run_bind, Sem.run_pure, Result.andThen_ok, List.map_toArray, List.map_cons, List.map_nil, hs, hx, hr]
  exact hK _ _ h

theorem first_ok {l : List UInt8} (h : firstE l = 0) : recOk (firstR l) ∧ num l + 12 ≤ l.length ∧ (firstR l).data.length = num l := by
  unfold firstE at h
  split at h
  · exact absurd h (by decide)
  · split at h
    · exact absurd h (by decide)
    · split at h
      · exact absurd h (by decide)
      · have hn : num (l.drop 4) < 4294967296 := num_le _
        have hd : (firstR l).data.length = num l := by
          show ((l.drop 8).take (num l)).length = _
          rw [List.length_take, List.length_drop]
          omega
        refine ⟨⟨?_, ?_, by omega⟩, by omega, hd⟩
        · show (0 : Int) ≤ (num (l.drop 4) : Int); omega
        · show (num (l.drop 4) : Int) ≤ 4294967295; omega

theorem rec_results1 {fn : Func} (h : fn.results = #[.cell 2 113, .tmp 3]) (w : World) (A : Nat) (c0 c1 : Value) (h0 : w.cell? ⟨A, 0, none⟩ = some c0) (h1 : w.cell? ⟨A, 1, none⟩ = some c1) (o0 : c0.oneCell' = true) (o1 : c1.oneCell' = true) (tmps : Array Value) (hp : tmps.getD 2 undef = .pointer (some ⟨A, 0, none⟩)) :
    (results fn tmps).run Tryd.prog w = .ok (.tuple #[.agg #[c0, c1], tmps.getD 3 undef]) w := by
  rw [results_cell_tmp h, hp]
  go_simp

end Go.Proofs.YtfggahkimconfaaDoor
