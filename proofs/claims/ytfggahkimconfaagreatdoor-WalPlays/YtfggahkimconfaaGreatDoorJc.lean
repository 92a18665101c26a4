/- Joined: DkP DkQ DkR DkSureW DkS DkT RfA RfB RfC RfD RfE RfF RfG RfH RfI RfJ DkU WlB BsZ VrA. -/
import Derived.Test.YtfggahkimconfaaGreatDoorJb
import Derived.ProofKit
import Derived.OpenShut
import Derived.Deep.Slices
import Derived.Laws.AppendOwnNone
import Derived.Deep.RegionLaw
import Derived.Laws.IdiomStrings
import Derived.Deep.RegionHeld3
import Derived.Deep.AppendLies
import Derived.Lib.AppendStr
import Derived.Maps.AppendAt

/- A disk behind stores and barriers: the contract of stored. -/
namespace Go.Proofs.YtfggahkimconfaaGreatDoor
open Go.RowKit
set_option linter.unusedVariables false

def Sec.flush (s : Sec) : Sec := ⟨s.last, []⟩
structure LAct where
  kind : Int
  at_ : Int
  byte : UInt8
def Dk.bar (D : Dk) : Dk := { D.moved with secs := D.secs.map Sec.flush }
def Dk.sto (D : Dk) (i : Nat) (x : List UInt8) : Dk := D.moved.put i ((D.secs.getD i ⟨[], []⟩).add x)
def dstep (D : Dk) (a : LAct) : Dk := if among a.kind 4 = 3 then D.bar else D.sto (among a.at_ 4) (allOf a.byte)
def runA (l : List LAct) (D : Dk) : Dk := l.foldl dstep D

/-- A disk of four sectors without a trip, no cache longer than k. -/
structure Good (D : Dk) (k : Nat) : Prop where
  four : D.secs.length = 4
  trip : D.trip = -1
  dark : D.dark = false
  few : ∀ (i : Nat) (s : Sec), D.secs[i]? = some s → s.wait.length ≤ k

theorem Good.can {D : Dk} {k : Nat} (h : Good D k) : D.can = true := by simp [Dk.can, h.trip, h.dark]
theorem Good.moved {D : Dk} {k : Nat} (h : Good D k) : D.moved = { D with moves := wrap64 (D.moves + 1) } := by simp [Dk.moved, h.trip, h.dark]
theorem Good.fresh : Good (Dk.fresh 4) 0 := by
  refine ⟨rfl, rfl, rfl, fun i s hi => ?_⟩
  have := List.eq_of_mem_replicate (List.mem_of_getElem? hi)
  subst this
  simp
theorem Good.bar {D : Dk} {k : Nat} (h : Good D k) : Good D.bar (k + 1) := by
  refine ⟨by simp [Dk.bar, h.four], by simp [Dk.bar, h.moved, h.trip], by simp [Dk.bar, h.moved, h.dark], fun i s hi => ?_⟩
  simp only [Dk.bar, List.getElem?_map, Option.map_eq_some_iff] at hi
  obtain ⟨t, _, rfl⟩ := hi
  simp [Sec.flush]
theorem Good.sto {D : Dk} {k : Nat} (h : Good D k) (i : Nat) (x : List UInt8) : Good (D.sto i x) (k + 1) := by
  have e : (D.sto i x) = { D with moves := wrap64 (D.moves + 1), secs := D.secs.set i ((D.secs.getD i ⟨[], []⟩).add x) } := by
    simp only [Dk.sto, Dk.put, h.moved]
  rw [e]
  refine ⟨by simp [h.four], h.trip, h.dark, fun j s hj => ?_⟩
  simp only [List.getElem?_set] at hj
  split at hj
  · split at hj
    · rename_i e0 hlt
      have := (Option.some.inj hj).symm
      subst this
      simp only [Sec.add, List.length_append, List.length_cons, List.length_nil]
      have := h.few i _ (List.getElem?_eq_getElem hlt)
      rw [List.getD_eq_getElem?_getD, List.getElem?_eq_getElem hlt]
      simpa using this
    · cases hj
  · have := h.few j s hj
    omega
theorem Good.step {D : Dk} {k : Nat} (h : Good D k) (a : LAct) : Good (dstep D a) (k + 1) := by
  unfold dstep; split
  · exact h.bar
  · exact h.sto _ _
theorem Good.mono {D : Dk} {k m : Nat} (h : Good D k) (hkm : k ≤ m) : Good D m := ⟨h.four, h.trip, h.dark, fun i s hi => Nat.le_trans (h.few i s hi) hkm⟩

theorem part_bar {D D' : Dk} (h : Part D Gbar D.cached.length D') : D' = { D with secs := D.secs.map Sec.flush } := by
  have e : D'.secs = D.secs.map Sec.flush := by
    apply List.ext_getElem?
    intro i
    rw [List.getElem?_map]
    cases hi : D.secs[i]? with
    | none =>
      have := List.getElem?_eq_none_iff.1 hi
      rw [List.getElem?_eq_none (by rw [h.len]; exact this)]
      rfl
    | some s =>
      obtain ⟨r, hr, hG, hs⟩ := h.all i s hi
      rw [hs]
      have er : r = s.wait.length := by
        cases hw : waits D i with
        | true => exact hG hw
        | false =>
          have h0 : s.wait = [] := by
            unfold waits at hw
            rw [hi] at hw
            simpa using hw
          rw [h0] at hr ⊢
          simpa using hr
      rw [er]
      rfl
  cases D'
  have h1 := h.moves
  have h2 := h.trip
  have h3 := h.dark
  simp only at e h1 h2 h3
  subst e h1 h2 h3
  rfl

theorem Barrier_bar (w : World) (B p g : Nat) (vs : Nat → Value) (D : Dk) (hD : IsDisk w B p g vs D) (hc : D.can = true) :
    Calls Tryz.prog 57 #[.pointer (some ⟨p, 0, none⟩)] w fun e w' => e = .returned (.int .i64 0) ∧ (∃ vs', IsDisk w' B p g vs' D.bar) ∧ Fr B w w' := by
  refine (Barrier_ok w B p g vs D hD hc).mono ?_
  rintro e w' ⟨rfl, ⟨vs', D', h1, h2⟩, h3⟩
  have := part_bar h2
  subst this
  refine ⟨rfl, ⟨vs', ?_⟩, h3⟩
  simpa [Dk.bar, Dk.moved_secs] using h1

theorem Store_sto (w : World) (B p g : Nat) (vs : Nat → Value) (D : Dk) (hD : IsDisk w B p g vs D) (k : Nat) (hG : Good D k) (hk : k ≤ 1000000) (i : Nat) (hi : i < 4) (q c : Nat) (b : UInt8)
    (hq : w.heap[q]? = some (.cells (bv (allOf b)).toArray 5 (0, 0))) :
    Calls Tryz.prog 24 #[.pointer (some ⟨p, 0, none⟩), .int .i64 i, .slice (some ⟨q, 0, none⟩) 256 c] w fun e w' => e = .returned (.int .i64 0) ∧ (∃ vs', IsDisk w' B p g vs' (D.sto i (allOf b))) ∧ Fr B w w' := by
  have hil : i < D.secs.length := by rw [hG.four]; exact hi
  have hs := List.getElem?_eq_getElem hil
  have hne : q ≠ p := by intro e; subst e; have := hq.symm.trans hD.blk; simp at this
  refine (Store_ok w B p g vs D hD i _ hs ⟨q, 0, none⟩ c hG.can (Nat.le_trans (hG.few i _ hs) hk) (allOf b) (allOf_len b) (World.news_of_block hq) hne).mono ?_
  rintro e w' ⟨rfl, h1, h2⟩
  have e2 : D.sto i (allOf b) = D.moved.put i (D.secs[i].add (allOf b)) := by
    unfold Dk.sto; rw [List.getD_eq_getElem?_getD, hs]; rfl
  rw [e2]
  exact ⟨rfl, h1, h2⟩

/-- At ⟨b, o⟩ lie the acts l. -/
def ActsAt (w : World) (b o : Nat) (l : List LAct) : Prop := ∀ (j : Nat) (x : LAct), l[j]? = some x → w.cell? ⟨b, o + j * 6, none⟩ = some (.int .i64 x.kind) ∧ w.cell? ⟨b, o + j * 6 + 1, none⟩ = some (.int .i64 x.at_) ∧ w.cell? ⟨b, o + j * 6 + 3, none⟩ = some (.int .u8 (x.byte.toNat : Int))

theorem runA_snoc (l : List LAct) (D : Dk) (k : Nat) (x : LAct) (h : l[k]? = some x) : runA (l.take (k + 1)) D = dstep (runA (l.take k) D) x := by
  obtain ⟨hk, rfl⟩ := List.getElem?_eq_some_iff.1 h
  unfold runA
  rw [List.take_succ_eq_append_getElem hk, List.foldl_append]
  rfl

structure SRel (w : World) (B p g : Nat) (D : Dk) (k : Nat) (wr : World) : Prop where
  ex : ∃ vs, IsDisk wr B p g vs D
  good : Good D k
  fr : Below B w wr

theorem keep_acts {w2 w3 : World} {B b o1 o3 : Nat} {v1 v3 : Value} {X : Obj} (cb : b < B) (hb : B ≤ w2.heap.size) (c1 : w2.cell? ⟨b, o1, none⟩ = some v1) (c3 : w2.cell? ⟨b, o3, none⟩ = some v3) (f : Fr B (w2.alloc X).drew w3) :
    w3.cell? ⟨b, o1, none⟩ = some v1 ∧ w3.cell? ⟨b, o3, none⟩ = some v3 :=
  ⟨(f.below.cell (p := ⟨b, o1, none⟩) cb).trans (cell_alloc c1 X), (f.below.cell (p := ⟨b, o3, none⟩) cb).trans (cell_alloc c3 X)⟩

end Go.Proofs.YtfggahkimconfaaGreatDoor

/- What a slice of acts that came in reads as. -/
namespace Go.Proofs.YtfggahkimconfaaGreatDoor
open Go.ChangeShapes Go.WideShapes Go.ChangeAt Go.RowKit
set_option linter.unusedVariables false

theorem cellsB : Tryz.prog.cellsOf 5 = 1 := by kernel_rfl

end Go.Proofs.YtfggahkimconfaaGreatDoor

/- stored and Crash at whatever slices; what crashes do to disks behind stores. -/
namespace Go.Proofs.YtfggahkimconfaaGreatDoor
open Go.RowKit
set_option linter.unusedVariables false

def ActsOf (w : World) (a : Option Addr) (l : List LAct) : Prop := l.length = 0 ∨ ∃ b o, a = some ⟨b, o, none⟩ ∧ ActsAt w b o l
theorem ActsAt.below {w w' : World} {b o B : Nat} {l : List LAct} (h : ActsAt w b o l) (hb : Below w.heap.size w w') : ActsAt w' b o l := fun j x hx => by
  obtain ⟨h1, h2, h3⟩ := h j x hx
  have cb := World.block_lt_of_cell? w _ h1
  exact ⟨(hb.cell (p := ⟨b, o + j * 6, none⟩) cb).trans h1, (hb.cell (p := ⟨b, o + j * 6 + 1, none⟩) cb).trans h2, (hb.cell (p := ⟨b, o + j * 6 + 3, none⟩) cb).trans h3⟩
theorem ActsOf.below {w w' : World} {a : Option Addr} {l : List LAct} (h : ActsOf w a l) (hb : Below w.heap.size w w') : ActsOf w' a l := by
  rcases h with h | ⟨b, o, e, h⟩
  · exact .inl h
  · exact .inr ⟨b, o, e, h.below (B := 0) hb⟩

/-- At address a lie the numbers kept, below B. -/
def KeptOf (w : World) (B : Nat) (a : Option Addr) (kept : List Int) : Prop :=
  kept = [] ∨ ∃ kb ko, a = some ⟨kb, ko, none⟩ ∧ kb < B ∧ kb < w.heap.size ∧ ∀ j, j < kept.length → w.cell? ⟨kb, ko + j, none⟩ = some (.int .i64 (kept.getD j 0)) ∧ -9223372036854775808 ≤ kept.getD j 0 ∧ kept.getD j 0 ≤ 9223372036854775807
theorem KeptOf.below {w w' : World} {B : Nat} {a : Option Addr} {kept : List Int} (h : KeptOf w B a kept) (hb : Below B w w') : KeptOf w' B a kept := by
  rcases h with h | ⟨kb, ko, e, h1, h2, h3⟩
  · exact .inl h
  · exact .inr ⟨kb, ko, e, h1, Nat.lt_of_lt_of_le h2 hb.size, fun j hj => ⟨(hb.cell (p := ⟨kb, _, none⟩) h1).trans (h3 j hj).1, (h3 j hj).2⟩⟩

theorem Crash_any (w : World) (B p g : Nat) (vs : Nat → Value) (D : Dk) (hD : IsDisk w B p g vs D) (hW : ∀ (i : Nat) (s : Sec), D.secs[i]? = some s → s.wait.length ≤ 1000000) (a : Option Addr) (c n : Nat) (kept : List Int) (hn : kept.length = n) (hK : KeptOf w B a kept) :
    Calls Tryz.prog 22 #[.pointer (some ⟨p, 0, none⟩), .slice a n c] w fun e w' => e = .returned (.int .i64 0) ∧
      (∃ (vs' : Nat → Value) (E : Dk), IsDisk w' B p g vs' { E with dark := false, trip := -1 } ∧ Part D (Gcr kept) D.cached.length E) ∧ Fr B w w' := by
  subst hn
  rcases hK with rfl | ⟨kb, ko, rfl, h1, h2, h3⟩
  · exact Crash_none w B p g vs D hD hW a c
  · have := hD.bg
    exact Crash_at w B p g vs D hD hW kept kb ko c (fun j hj => (h3 j hj).1) h2 (by omega) (fun j hj => (h3 j hj).2)

/-! Disks on which nothing waits. -/
def Dry (D : Dk) : Prop := ∀ (i : Nat) (s : Sec), D.secs[i]? = some s → s.wait = []
theorem Dry.bar (D : Dk) : Dry D.bar := fun i s hi => by
  simp only [Dk.bar, List.getElem?_map, Option.map_eq_some_iff] at hi
  obtain ⟨t, _, rfl⟩ := hi
  rfl
theorem Dry.cached {D : Dk} (h : Dry D) : D.cached = [] := by
  have hw : ∀ i, waits D i = false := by
    intro i
    unfold waits
    cases hi : D.secs[i]? with
    | none => rfl
    | some s => show decide (0 < s.wait.length) = false; rw [h i s hi]; rfl
  unfold Dk.cached cachedTo
  exact List.filter_eq_nil_iff.2 (fun i _ => by simp [hw i])
theorem Part.zero {D D' : Dk} {G : Nat → Sec → Nat → Prop} (h : Part D G 0 D') : D' = D := by
  have e : D'.secs = D.secs := by
    apply List.ext_getElem?
    intro i
    cases hi : D.secs[i]? with
    | none => rw [List.getElem?_eq_none (by rw [h.len]; exact List.getElem?_eq_none_iff.1 hi)]
    | some s => exact h.rest i s hi (fun x => by omega)
  have h1 := h.moves
  have h2 := h.trip
  have h3 := h.dark
  cases D'; cases D
  simp only at e h1 h2 h3
  subst e h1 h2 h3
  rfl
def Dk.back (D : Dk) : Dk := { D with secs := D.secs.map fun s => ⟨s.sure, []⟩, dark := false, trip := -1 }
/-- A crash that keeps none goes back. -/
theorem part_none {D E : Dk} (h : Part D (Gcr []) D.cached.length E) : { E with dark := false, trip := -1 } = D.back := by
  have e : E.secs = D.secs.map fun s => ⟨s.sure, []⟩ := by
    apply List.ext_getElem?
    intro i
    rw [List.getElem?_map]
    cases hi : D.secs[i]? with
    | none => rw [List.getElem?_eq_none (by rw [h.len]; exact List.getElem?_eq_none_iff.1 hi)]; rfl
    | some s =>
      obtain ⟨r, hr, hG, hs⟩ := h.all i s hi
      rw [hs]
      have er : r = 0 := by
        cases hw : waits D i with
        | true =>
          have := (hG hw).2
          simp [among] at this
          omega
        | false =>
          have h0 : s.wait = [] := by
            unfold waits at hw
            rw [hi] at hw
            simpa using hw
          rw [h0] at hr
          simpa using hr
      rw [er]
      rfl
  have h1 := h.moves
  cases E
  simp only at e h1
  subst e h1
  rfl
theorem Dry.dump {D : Dk} (h : Dry D) : D.dump = D.secs.flatMap Sec.sure := by
  unfold Dk.dump
  have : ∀ s ∈ D.secs, s.last = s.sure := by
    intro s hs
    obtain ⟨i, hi⟩ := List.mem_iff_getElem?.1 hs
    have := h i s hi
    unfold Sec.last
    rw [this]
    rfl
  rw [List.flatMap_def, List.flatMap_def, List.map_congr_left this]
theorem back_dry (D : Dk) : Dry D.back := fun i s hi => by
  simp only [Dk.back, List.getElem?_map, Option.map_eq_some_iff] at hi
  obtain ⟨t, _, rfl⟩ := hi
  rfl
theorem back_dump (D : Dk) : D.back.dump = D.secs.flatMap Sec.sure := by
  rw [(back_dry D).dump]
  simp only [Dk.back, List.flatMap_def, List.map_map]
  rfl
theorem sto_sure {D : Dk} {k : Nat} (h : Good D k) (i : Nat) (hi : i < 4) (x : List UInt8) : (D.sto i x).secs.flatMap Sec.sure = D.secs.flatMap Sec.sure := by
  have hil : i < D.secs.length := by rw [h.four]; exact hi
  have e : (D.sto i x).secs = D.secs.set i (D.secs[i].add x) := by
    unfold Dk.sto Dk.put
    rw [Dk.moved_secs, List.getD_eq_getElem?_getD, List.getElem?_eq_getElem hil]
    rfl
  rw [e, List.flatMap_def, List.flatMap_def, List.map_set]
  have : Sec.sure (D.secs[i].add x) = (D.secs.map Sec.sure)[i]'(by simpa using hil) := by simp [Sec.add]
  rw [this, List.set_getElem_self]

end Go.Proofs.YtfggahkimconfaaGreatDoor

/- The walk of the law DiskSure. -/
namespace Go.Proofs.YtfggahkimconfaaGreatDoor
open Go.RowKit
set_option linter.unusedVariables false

theorem own_fr {w w' : World} {B base n : Nat} {v : Value} {xs : List Value} (h : w.ownsRow base 5 1 v n xs) (f : Fr B w w') : w'.ownsRow base 5 1 v n xs := by
  refine own_of_block h (fun k hk => ?_)
  rcases h.2 with ⟨rfl, _⟩ | ⟨q, cap, cur, rfl, _, hq, _⟩
  · simp [Value.ownBlock] at hk
  · simp [Value.ownBlock] at hk; subst hk
    exact f.other q cur 5 (0, 0) hq (by decide) (by decide) (by decide)
/-- Behind k later stores. -/
structure TRel (w : World) (B p g base : Nat) (v : Value) (X : List UInt8) (k : Nat) (wr : World) : Prop where
  ex : ∃ vs D, IsDisk wr B p g vs D ∧ Good D k ∧ D.secs.flatMap Sec.sure = X
  fr : Below w.heap.size w wr
  own : wr.ownsRow base 5 1 v 1024 (bv X)

theorem TRel.next {w wr w3 : World} {B p g base k : Nat} {v : Value} {X : List UInt8} {D : Dk} {Y : Obj} {i : Nat} {x : List UInt8} (h : TRel w B p g base v X k wr) (hwB : w.heap.size ≤ B) (hG : Good D k) (hX : D.secs.flatMap Sec.sure = X) (hi : i < 4)
    (hx : ∃ vs', IsDisk w3 B p g vs' (D.sto i x)) (f : Fr B (wr.alloc Y).drew w3) : TRel w B p g base v X (k + 1) w3 := by
  obtain ⟨vs', hD⟩ := hx
  refine ⟨⟨vs', _, hD, hG.sto i x, by rw [sto_sure hG i hi]; exact hX⟩, (h.fr.trans ((Below.refl _ _).alloc h.fr.size Y).drew).trans (f.below.mono hwB), ?_⟩
  exact own_fr ((h.own.alloc Y).drew) f

theorem KeptOf.later {w w' : World} {B : Nat} {a : Option Addr} {kept : List Int} (h : KeptOf w w.heap.size a kept) (hb : Below w.heap.size w w') (hB : w.heap.size ≤ B) : KeptOf w' B a kept := by
  rcases h.below hb with h | ⟨kb, ko, e, h1, h2, h3⟩
  · exact .inl h
  · exact .inr ⟨kb, ko, e, Nat.lt_of_lt_of_le h1 hB, h2, h3⟩
theorem Good.same {D : Dk} {k : Nat} (h : Good D k) : { D with trip := -1, dark := false } = D := by
  cases D
  have h1 := h.trip
  have h2 := h.dark
  simp only at h1 h2
  subst h1 h2
  rfl
theorem Good.dry {D : Dk} {k : Nat} (h : Good D k) (hy : Dry D) : Good D 0 := ⟨h.four, h.trip, h.dark, fun i s hi => by rw [hy i s hi]; simp⟩
theorem dump_len {D : Dk} {n : Nat} (h : D.secs.length = 4) (hd : D.dump.length = D.secs.length * 256) : D.dump.length = 1024 := by rw [hd, h]

end Go.Proofs.YtfggahkimconfaaGreatDoor

/- The contract of Bytes: a copy of one's own. -/
namespace Go.Proofs.YtfggahkimconfaaGreatDoor
open Go.RowKit
set_option linter.unusedVariables false

end Go.Proofs.YtfggahkimconfaaGreatDoor

/- The contract of Load. -/
namespace Go.Proofs.YtfggahkimconfaaGreatDoor
open Go.RowKit
set_option linter.unusedVariables false

theorem step_copy_cells {ops : Array Oper} {o : Oper} {a : Act} {w : World} {K : Act → World → Prop} {Q : Exit → Act → World → Prop} {E : Prop} (hgd : o.guard = none) (d s : Operand)
    (ho : o.op = .call { callee := .builtin .copy, args := #[d, s], argTypes := #[43, 43] }) (b off dLen dCap : Nat) (ad : Addr) (sLen sCap : Nat) (hd : a.eval d = .slice (some ⟨b, off, none⟩) dLen dCap) (hs : a.eval s = .slice (some ad) sLen sCap)
    (cs : List Value) (hn : cs.length = Nat.min sLen dLen) (hsrc : ∀ j v, cs[j]? = some v → w.cell? (ad.add j) = some v) (ht : w.there b off cs.length) (h1 : ∀ v ∈ cs, v.oneCell' = true)
    (h : K (a.put o.dst (goInt cs.length)) (w.setCells b off cs)) : if Region.wanted o (yielded ops a.tmps) = true then Oper.wp Tryz.prog o a w K Q else E := by
  have hw : Region.wanted o (yielded ops a.tmps) = true := by simp [Region.wanted, hgd]
  rw [if_pos hw]
  have hrun := run_copy_cells (P := Tryz.prog) w 43 43 o.type 5 b off dLen dCap ad sLen sCap cs Tryz.underlying43 (by kernel_rfl) hn hsrc (fun j hj => (ht j hj).1) (fun j hj => (ht j hj).2) h1
  unfold Oper.wp
  simp [execOp, ho, resolve, invoke, builtin, hd, hs, hrun, Result.andThen]
  exact h

def seg (l : List UInt8) (i : Nat) : List UInt8 := (l.drop (i * 256)).take 256
def Dk.loadedTo (l : List UInt8) (m k : Nat) : Dk := ⟨(List.range m).map (fun i => if i < k then ⟨seg l i, []⟩ else ⟨nought, []⟩), 0, -1, false⟩
theorem loadedTo_zero (l : List UInt8) (m : Nat) : Dk.loadedTo l m 0 = Dk.fresh m := by
  unfold Dk.loadedTo Dk.fresh
  have : ((List.range m).map fun i => if i < 0 then (⟨seg l i, []⟩ : Sec) else ⟨nought, []⟩) = List.replicate m ⟨nought, []⟩ := by
    simp [List.map_const']
  rw [this]
theorem loadedTo_succ (l : List UInt8) (m k : Nat) (hk : k < m) : (Dk.loadedTo l m k).put k ⟨seg l k, []⟩ = Dk.loadedTo l m (k + 1) := by
  unfold Dk.loadedTo Dk.put
  have : ((List.range m).map fun i => if i < k then (⟨seg l i, []⟩ : Sec) else ⟨nought, []⟩).set k ⟨seg l k, []⟩ = (List.range m).map fun i => if i < k + 1 then (⟨seg l i, []⟩ : Sec) else ⟨nought, []⟩ := by
    apply List.ext_getElem?
    intro i
    rw [List.getElem?_set, List.getElem?_map, List.getElem?_map]
    by_cases hi : i < m
    · rw [List.getElem?_range hi]
      by_cases e : k = i
      · subst e; simp [hk]
      · simp only [if_neg e, Option.map_some]
        by_cases h2 : i < k
        · simp [h2, show i < k + 1 by omega]
        · simp [h2, show ¬ i < k + 1 by omega]
    · have : k ≠ i := by omega
      simp [this, hi]
  simp only [this]
theorem loadedTo_get (l : List UInt8) (m k i : Nat) (hi : i < m) : (Dk.loadedTo l m k).secs[i]? = some (if i < k then ⟨seg l i, []⟩ else ⟨nought, []⟩) := by
  simp [Dk.loadedTo, hi]
theorem loadedTo_len (l : List UInt8) (m k : Nat) : (Dk.loadedTo l m k).secs.length = m := by simp [Dk.loadedTo]

theorem IsDisk.sured {w : World} {B p g : Nat} {vs : Nat → Value} {D : Dk} (h : IsDisk w B p g vs D) (i : Nat) (s : Sec) (hi : D.secs[i]? = some s) (x : List UInt8) (hx : x.length = 256) :
    IsDisk (w.setCells g (i * 257 + 1) (bv x)) B p g vs (D.put i ⟨x, s.wait⟩) ∧ Fr B w (w.setCells g (i * 257 + 1) (bv x)) := by
  have hil := (List.getElem?_eq_some_iff.1 hi).1
  obtain ⟨lp, lg, lk⟩ := h.lt
  obtain ⟨k1, k2⟩ := h.kinds
  have hs := h.sec i s hi
  obtain ⟨cur, hcur, hcs⟩ := h.row
  have hl : (bv x).length = 256 := by rw [bv_length]; exact hx
  obtain ⟨cur1, hc1, hz1⟩ := heap_setCells g 95 (bv x) (i * 257 + 1) _ cur hcur
  have hsize : (w.setCells g (i * 257 + 1) (bv x)).heap.size = w.heap.size := size_setCells _ _ _ _
  have hother : ∀ j, j ≠ g → (w.setCells g (i * 257 + 1) (bv x)).heap[j]? = w.heap[j]? := fun j hj => heap_setCells_other _ _ _ _ _ hj
  have ht : w.there g (i * 257 + 1) (bv x).length := there_of_block hcur _ _ (by omega)
  have e : upd vs i (vs i) = vs := by funext j; unfold upd; split <;> simp_all
  have := h.sector i hil (vs i) ⟨x, s.wait⟩ (w' := w.setCells g (i * 257 + 1) (bv x)) (hother p k1) (Nat.le_of_eq hsize.symm) ⟨cur1, hc1, by rw [hz1]; exact hcs⟩
    (fun o ho => cell_setCells_out _ _ _ _ _ (side_of hl ho)) (fun j q hj hji hq => hother q (k2 j q hj hq).2) ?_ ?_
  · rw [e] at this
    refine ⟨this, ⟨⟨(setCells_os g _ _ _).1, (setCells_os g _ _ _).2.1, (setCells_os g _ _ _).2.2, Nat.le_of_eq hsize.symm, fun k hk => hother k (by have := h.bg; omega)⟩, ?_⟩⟩
    intro k c e0 f hk h1 h2 h3
    refine hother k (fun e1 => ?_)
    subst e1
    have := hcur.symm.trans hk
    simp at this
    exact h3 this.2.1.symm
  · intro j q hj hji hq e1
    rcases h.apart i j hil hj (fun e2 => hji e2.symm) with h0 | h0
    · rw [h0] at e1; cases e1
    · exact h0 (by rw [e1, hq])
  · refine ⟨⟨hx, hs.ok.2⟩, ?_, World.rangeAt_setCells_same _ _ _ _ ht, own_of_block hs.own (fun q hq => hother q (k2 i q hil hq).2)⟩
    rw [cell_setCells_out _ _ _ _ _ (.inl (by omega))]
    exact hs.cell

theorem seg_len (l : List UInt8) (m k : Nat) (hl : l.length = m * 256) (hk : k < m) : (seg l k).length = 256 := by
  unfold seg; rw [List.length_take, List.length_drop]; omega

structure ORel (w : World) (B p g : Nat) (l : List UInt8) (m k : Nat) (wr : World) : Prop where
  ex : ∃ vs, IsDisk wr B p g vs (Dk.loadedTo l m k)
  fr : Below B w wr

end Go.Proofs.YtfggahkimconfaaGreatDoor

/- The document's answer in memory: what it is, and what keeps it; nought. -/
namespace Go.Proofs.YtfggahkimconfaaGreatDoor
open Go.RowKit
set_option linter.unusedVariables false

structure RDk where
  V : List (List (List UInt8))
  done : Int
  left : Int
  gone : Bool

abbrev str (x : List UInt8) : Value := .string ⟨x.toArray⟩
/-- A slice of texts, never written again. -/
def StrsAt (w : World) (sv : Value) (l : List (List UInt8)) : Prop :=
  ∃ (q c : Nat) (cur : Array Value), sv = .slice (some ⟨q, 0, none⟩) l.length c ∧ w.heap[q]? = some (.cells cur 9 (0, 0)) ∧ l.length ≤ c ∧ c ≤ 9223372036854775807 ∧ ∀ (j : Nat) (x : List UInt8), l[j]? = some x → cur[j]? = some (str x)

structure RIs (w : World) (B p : Nat) (v : Value) (vals : List Value) (R : RDk) : Prop where
  blk : w.heap[p]? = some (.cells #[v, .int .i64 R.done, .int .i64 R.left, .bool R.gone] 67 (0, 0))
  own : w.ownsRow B 53 1 v R.V.length vals
  bp : B ≤ p
  bw : B ≤ w.heap.size
  each : ∀ (i : Nat) (l : List (List UInt8)), R.V[i]? = some l → ∃ sv, vals[i]? = some sv ∧ StrsAt w sv l
  lo : -1 ≤ R.left
  hi : R.left ≤ 9223372036854775807

structure Fr2 (B : Nat) (w w' : World) : Prop where
  below : Below B w w'
  other : ∀ (k : Nat) (c : Array Value) (e : TypeId) (f : Nat × Nat), w.heap[k]? = some (.cells c e f) → e ≠ 67 → e ≠ 53 → w'.heap[k]? = w.heap[k]?
theorem Fr2.refl (B : Nat) (w : World) : Fr2 B w w := ⟨Below.refl _ _, fun _ _ _ _ _ _ _ => rfl⟩
theorem Fr2.trans {B : Nat} {a b c : World} (h : Fr2 B a b) (k : Fr2 B b c) : Fr2 B a c :=
  ⟨h.below.trans k.below, fun i cs e f hi h1 h2 => by
    have e1 := h.other i cs e f hi h1 h2
    rw [← e1]
    exact k.other i cs e f (e1.trans hi) h1 h2⟩
theorem Fr2.of_below {B : Nat} {w w' : World} (h : Below w.heap.size w w') (hB : B ≤ w.heap.size) : Fr2 B w w' :=
  ⟨h.mono hB, fun k _ _ _ hk _ _ => h.block k (lt_of_heap hk)⟩

theorem StrsAt.keep {w w' : World} {sv : Value} {l : List (List UInt8)} (h : StrsAt w sv l) (hk : ∀ (k : Nat) (c : Array Value) (f : Nat × Nat), w.heap[k]? = some (.cells c 9 f) → w'.heap[k]? = w.heap[k]?) : StrsAt w' sv l := by
  obtain ⟨q, c, cur, h1, h2, h3⟩ := h
  exact ⟨q, c, cur, h1, (hk q cur (0, 0) h2).trans h2, h3⟩
theorem StrsAt.fr2 {w w' : World} {B : Nat} {sv : Value} {l : List (List UInt8)} (h : StrsAt w sv l) (f : Fr2 B w w') : StrsAt w' sv l :=
  h.keep (fun k c fz hk => f.other k c _ fz hk (by decide) (by decide))
theorem StrsAt.below {w w' : World} {sv : Value} {l : List (List UInt8)} (h : StrsAt w sv l) (f : Below w.heap.size w w') : StrsAt w' sv l :=
  h.keep (fun k c fz hk => f.block k (lt_of_heap hk))

/-- Lists that are as they were, or new. -/
def NewOr (w : World) (vals vals' : List Value) : Prop := ∀ sv ∈ vals', sv ∈ vals ∨ ∀ k, sv.ownBlock = some k → w.heap.size ≤ k
theorem NewOr.refl (w : World) (vals : List Value) : NewOr w vals vals := fun _ h => .inl h
theorem NewOr.put {w : World} {vals vals' : List Value} (h : NewOr w vals vals') (i : Nat) {sv : Value} (hs : ∀ k, sv.ownBlock = some k → w.heap.size ≤ k) : NewOr w vals (vals'.set i sv) := fun u hu => by
  rcases List.mem_or_eq_of_mem_set hu with h1 | h1
  · exact h u h1
  · subst h1
    exact .inr hs
theorem NewOr.later {w w' : World} {vals vals' : List Value} (h : NewOr w' vals vals') (hs : w.heap.size ≤ w'.heap.size) : NewOr w vals vals' := fun u hu => (h u hu).elim .inl (fun h1 => .inr (fun k hk => Nat.le_trans hs (h1 k hk)))

theorem RIs.kinds {w : World} {B p : Nat} {v : Value} {vals : List Value} {R : RDk} (h : RIs w B p v vals R) : some p ≠ v.ownBlock ∧ (∀ k, v.ownBlock = some k → ∃ cur, w.heap[k]? = some (.cells cur 53 (0, 0))) := by
  have hk : ∀ k, v.ownBlock = some k → ∃ cur, w.heap[k]? = some (.cells cur 53 (0, 0)) := by
    intro k hk
    rcases h.own.2 with ⟨rfl, _⟩ | ⟨q, cap, cur, rfl, _, hq, _⟩
    · simp [Value.ownBlock] at hk
    · simp [Value.ownBlock] at hk; subst hk; exact ⟨cur, hq⟩
  refine ⟨fun e => ?_, hk⟩
  obtain ⟨cur, hc⟩ := hk p e.symm
  have := h.blk.symm.trans hc
  simp at this

theorem RIs.below {w w' : World} {B p : Nat} {v : Value} {vals : List Value} {R : RDk} (h : RIs w B p v vals R) (hb : Below w.heap.size w w') : RIs w' B p v vals R :=
  ⟨(hb.block _ (lt_of_heap h.blk)).trans h.blk, own_below h.own hb, h.bp, Nat.le_trans h.bw hb.size, fun i l hi => by obtain ⟨sv, a, b⟩ := h.each i l hi; exact ⟨sv, a, b.below hb⟩, h.lo, h.hi⟩

theorem RIs.cells {w : World} {B p : Nat} {v : Value} {vals : List Value} {R : RDk} (h : RIs w B p v vals R) :
    w.cell? ⟨p, 0, none⟩ = some v ∧ w.cell? ⟨p, 1, none⟩ = some (.int .i64 R.done) ∧ w.cell? ⟨p, 2, none⟩ = some (.int .i64 R.left) ∧ w.cell? ⟨p, 3, none⟩ = some (.bool R.gone) ∧ ∀ j, w.frozen? ⟨p, j, none⟩ = false :=
  ⟨by rw [cell_of_row _ _ _ _ _ _ h.blk]; rfl, by rw [cell_of_row _ _ _ _ _ _ h.blk]; rfl, by rw [cell_of_row _ _ _ _ _ _ h.blk]; rfl, by rw [cell_of_row _ _ _ _ _ _ h.blk]; rfl, fun j => frozen_of_row _ _ _ _ _ h.blk⟩

/-- A member behind the others. -/
theorem RIs.push {w W w1 : World} {B p : Nat} {v v' : Value} {vals : List Value} {R : RDk} (h : RIs w B p v vals R) (hW : Below w.heap.size w W) (sv : Value) (l : List (List UInt8)) (hs : StrsAt W sv l)
    (hown : w1.ownsRow B 53 1 v' (R.V.length + 1) (vals ++ [sv])) (hg : W.grownBy w1 v.ownBlock) :
    RIs (w1.setCell ⟨p, 0, none⟩ v') B p v' (vals ++ [sv]) { R with V := R.V ++ [l] } ∧ Fr2 B w (w1.setCell ⟨p, 0, none⟩ v') := by
  have hW' := h.below hW
  obtain ⟨k1, k2⟩ := hW'.kinds
  have hp1 : w1.heap[p]? = W.heap[p]? := hg.block p (lt_of_heap hW'.blk) k1
  have hset : ∀ k, k ≠ p → (w1.setCell ⟨p, 0, none⟩ v').heap[k]? = w1.heap[k]? := fun k hk => Below.heap_setCell _ _ _ _ hk
  have hkeep : ∀ (k : Nat) (c : Array Value) (e : TypeId) (f : Nat × Nat), W.heap[k]? = some (.cells c e f) → e ≠ 67 → e ≠ 53 → (w1.setCell ⟨p, 0, none⟩ v').heap[k]? = W.heap[k]? := by
    intro k c e f hk h1 h2
    rw [hset k (fun e0 => by subst e0; have := hW'.blk.symm.trans hk; simp at this; exact h1 this.2.1.symm)]
    refine hg.block k (lt_of_heap hk) (fun e0 => ?_)
    obtain ⟨cur, hc⟩ := k2 k e0.symm
    have := hc.symm.trans hk
    simp at this
    exact h2 this.2.1.symm
  have hsz : w.heap.size ≤ w1.heap.size := Nat.le_trans hW.size hg.size
  refine ⟨⟨?_, ?_, h.bp, ?_, ?_, h.lo, h.hi⟩, ⟨⟨?_, ?_, ?_, ?_, ?_⟩, ?_⟩⟩
  · rw [heap_setCell_same w1 p 0 _ _ v' (hp1.trans hW'.blk)]; rfl
  · have e : ({ R with V := R.V ++ [l] } : RDk).V.length = R.V.length + 1 := by simp
    rw [e]
    refine own_of_block hown (fun k hk => hset k (fun e0 => ?_))
    subst e0
    rcases hown.2 with ⟨e1, _⟩ | ⟨q, cap, cur, e1, _, hq, _⟩
    · rw [e1] at hk; simp [Value.ownBlock] at hk
    · rw [e1] at hk; simp [Value.ownBlock] at hk; subst hk
      have := (hp1.trans hW'.blk).symm.trans hq
      simp at this
  · have := h.bw; simpa [World.setCell] using Nat.le_trans this hsz
  · intro i l' hi
    have hvl : vals.length = R.V.length := by have := h.own.1; simpa using this
    by_cases hlt : i < R.V.length
    · have hi' : R.V[i]? = some l' := by simpa [List.getElem?_append_left hlt] using hi
      obtain ⟨sv', a, b⟩ := hW'.each i l' hi'
      exact ⟨sv', by rw [List.getElem?_append_left (by omega)]; exact a, b.keep (fun k c f hk => hkeep k c _ f hk (by decide) (by decide))⟩
    · have hie : i = R.V.length := by
        have := (List.getElem?_eq_some_iff.1 hi).1
        simp at this; omega
      subst hie
      simp at hi
      subst hi
      exact ⟨sv, by rw [← hvl]; simp, hs.keep (fun k c f hk => hkeep k c _ f hk (by decide) (by decide))⟩
  · exact hg.os.trans hW.os
  · exact hg.tape.trans hW.tape
  · exact hg.output.trans hW.output
  · simpa [World.setCell] using hsz
  · intro k hk
    have hbp := h.bp
    have hbw := h.bw
    rw [hset k (by omega)]
    refine (hg.block k (by have := hW.size; omega) (fun e0 => ?_)).trans (hW.block k (by omega))
    have := (h.own.lt k e0.symm).1
    omega
  · intro k c e f hk h1 h2
    have hkl := lt_of_heap hk
    have hk' : W.heap[k]? = some (.cells c e f) := (hW.block k hkl).trans hk
    exact (hkeep k c e f hk' h1 h2).trans (hW.block k hkl)

theorem nought_eq : nought = allOf 0 := rfl
set_option maxHeartbeats 400000 in
set_option maxRecDepth 100000 in
theorem nought_any (w : World) :
    Calls Tryz.prog 33 #[] w fun e w' => e = .returned (str nought) ∧ w' = w.alloc (.cells (bv nought).toArray 5) := by
  have hmk := makeB w 0
  have e0 : orow 0 0 = (bv nought).toArray := by
    unfold orow bv nought
    rw [List.map_replicate, List.replicate_zero, List.nil_append]
    rfl
  rw [e0] at hmk
  have hcv := conv_bytes (w.alloc (.cells (bv nought).toArray 5)) (some ⟨w.heap.size, 0, none⟩) nought 256 (bytes_of_block (heap_alloc_last w _))
  rw [nought_len] at hcv
  clear e0
  have hstr : str nought = .string ⟨nought.toArray⟩ := rfl
  rw [hstr]
  clear hstr
  generalize nought = N0 at *
  go_enter Tryz.func33, Tryz.ntmps33
  go_wp2
  go_ret
  exact ⟨rfl, rfl⟩

end Go.Proofs.YtfggahkimconfaaGreatDoor

/- The contract of the document's own Make. -/
namespace Go.Proofs.YtfggahkimconfaaGreatDoor
open Go.RowKit
set_option linter.unusedVariables false

def RDk.fresh (n : Nat) : RDk := ⟨List.replicate n [nought], 0, -1, false⟩
theorem infoStr : (Tryz.prog.info? 9).map (fun i => (i.zero, i.size, i.bytes)) = some (some (.string ⟨#[]⟩), 1, 16) := by kernel_rfl
theorem infoSl : (Tryz.prog.info? 53).map (fun i => (i.zero, i.size, i.bytes)) = some (some (.slice none 0 0), 1, 24) := by kernel_rfl

set_option maxRecDepth 100000 in
set_option maxHeartbeats 400000 in
theorem rMake_bad (n : Int) (w : World) (h : n < 1 ∨ 4096 < n) :
    Calls Tryz.prog 6 #[.int .i64 n] w fun e w' => e = .returned (.tuple #[.pointer none, .int .i64 2]) ∧ w' = w := by
  rcases h with h | h
  · go_enter Tryz.func6, Tryz.ntmps6
    go_wp2
    go_ret2
    exact ⟨rfl, rfl⟩
  · have h0 : decide (n < 1) = false := by simp; omega
    go_enter Tryz.func6, Tryz.ntmps6
    go_wp2
    go_ret2
    exact ⟨rfl, rfl⟩

theorem strs_one (W : World) (x : List UInt8) : StrsAt (W.alloc (.cells #[str x] 9)) (.slice (some ⟨W.heap.size, 0, none⟩) 1 1) [x] :=
  ⟨W.heap.size, 1, #[str x], rfl, heap_alloc_last W _, by simp, by simp, fun j y hy => by
    match j, hy with
    | 0, hy => simp at hy; subst hy; rfl⟩

structure MRel (w : World) (B p n k : Nat) (wr : World) : Prop where
  ex : ∃ v vals, RIs wr B p v vals ⟨List.replicate k [nought], 0, -1, false⟩ ∧ ∀ sv ∈ vals, ∀ j, sv.ownBlock = some j → w.heap.size ≤ j
  fr : Below B w wr

set_option maxHeartbeats 800000 in
set_option maxRecDepth 100000 in
theorem rMake_ok (n : Nat) (w : World) (h1 : 1 ≤ n) (h2 : n ≤ 4096) :
    Calls Tryz.prog 6 #[.int .i64 n] w fun e w' => e = .returned (.tuple #[.pointer (some ⟨w.heap.size, 0, none⟩), .int .i64 0]) ∧ (∃ v vals, RIs w' w.heap.size w.heap.size v vals (RDk.fresh n) ∧ ∀ sv ∈ vals, ∀ j, sv.ownBlock = some j → w.heap.size ≤ j) ∧ Below w.heap.size w w' := by
  obtain ⟨i0, hi, hz0, hz1, hz2⟩ := info_parts infoSl
  have R0 : MRel w w.heap.size w.heap.size n 0 (w.alloc (.cells #[.slice none 0 0, .int .i64 0, .int .i64 (-1), .bool false] 67)) := by
    refine ⟨⟨.slice none 0 0, [], ⟨?_, World.ownsRow_nil _ _ _ _, Nat.le_refl _, by simp, ?_, by simp, by simp⟩, fun sv h => by cases h⟩, (Below.refl _ _).alloc (Nat.le_refl _) _⟩
    · exact heap_alloc_last w _
    · intro i l hi; simp at hi
  have HR0 := hide R0
  clear R0
  go_enter Tryz.func6, Tryz.ntmps6
  go_wp2
  go_loopw [5] (fun i wr => ∃ k : Nat, k ≤ n ∧ i = .int .i64 k ∧ MRel w w.heap.size w.heap.size n k wr) (fun i _ => n - (intOf i).toNat)
  case atStart => exact ⟨0, by omega, rfl, unhide HR0⟩
  case round =>
    clear HR0
    obtain ⟨k, hk, rfl, hR⟩ := hrel
    by_cases hlt : k < n
    · obtain ⟨v, vals, hD, hnw⟩ := hR.ex
      have HNW : Hid (∀ sv ∈ vals ++ [Value.slice (some ⟨wr.heap.size + 1, 0, none⟩) 1 1], ∀ j, sv.ownBlock = some j → w.heap.size ≤ j) := fun sv hsv j hj => by
        rcases List.mem_append.1 hsv with h | h
        · exact hnw sv h j hj
        · rw [List.mem_singleton] at h
          subst h
          obtain rfl : wr.heap.size + 1 = j := by simpa [Value.ownBlock] using hj
          have := hR.fr.size
          omega
      clear hnw
      obtain ⟨cr, _, _, _, cf⟩ := hD.cells
      have cf0 := cf 0
      clear cf
      have hpl := lt_of_heap hD.blk
      obtain ⟨W3, hW3⟩ : ∃ W3, W3 = (((wr.alloc (.cells (bv nought).toArray 5)).alloc (.cells #[str nought] 9)).alloc (.cells #[.slice (some ⟨wr.heap.size + 1, 0, none⟩) 1 1] 53)).drew := ⟨_, rfl⟩
      have bW : Below wr.heap.size wr W3 := by rw [hW3]; exact ((((Below.refl _ _).alloc (Nat.le_refl _) _).alloc (by simp) _).alloc (by simp; omega) _).drew
      have hsW : StrsAt W3 (.slice (some ⟨wr.heap.size + 1, 0, none⟩) 1 1) [nought] := by
        have h1 := (strs_one (wr.alloc (.cells (bv nought).toArray 5)) nought).below ((Below.refl _ _).alloc (Nat.le_refl _) (.cells #[.slice (some ⟨wr.heap.size + 1, 0, none⟩) 1 1] 53)).drew
        rw [hW3]
        simpa using h1
      have hoW : W3.ownsRow w.heap.size 53 1 v k vals := by
        have := (hD.below bW).own
        simpa using this
      have hnW : ∀ j u, [Value.slice (some ⟨wr.heap.size + 1, 0, none⟩) 1 1][j]? = some u → W3.cell? ((⟨wr.heap.size + 1 + 1, 0, none⟩ : Addr).add j) = some u := by
        intro j u hu
        have hh : W3.heap[wr.heap.size + 1 + 1]? = some (.cells #[.slice (some ⟨wr.heap.size + 1, 0, none⟩) 1 1] 53 (0, 0)) := by
          rw [hW3]
          have e : ((wr.alloc (.cells (bv nought).toArray 5)).alloc (.cells #[str nought] 9)).heap.size = wr.heap.size + 1 + 1 := by simp
          rw [← e]
          exact heap_alloc_last _ _
        exact World.news_of_block hh j u hu
      have hszW : W3.heap.size = wr.heap.size + 1 + 1 + 1 := by rw [hW3]; simp
      have hbase : w.heap.size ≤ W3.heap.size := by omega
      have hk1 := (hD.below bW).kinds.1
      have hcW := (bW.cell (p := ⟨w.heap.size, 0, none⟩) hpl).trans cr
      have hfW := (bW.frozen (p := ⟨w.heap.size, 0, none⟩) hpl).trans cf0
      have HP := hide (fun (w1 : World) (v' : Value) hown hg => hD.push (w1 := w1) (v' := v') bW _ [nought] hsW hown hg)
      have HFr := hide hR.fr
      have HoW := hide hoW
      have HnW := hide hnW
      have Hbase := hide hbase
      have HSt : Hid (∀ w1, W3.grownBy w1 v.ownBlock → w1.cell? ⟨w.heap.size, 0, none⟩ = some v ∧ w1.frozen? ⟨w.heap.size, 0, none⟩ = false) := fun w1 hg =>
        ⟨(hg.cell_far ⟨w.heap.size, 0, none⟩ (by show w.heap.size < _; omega) hk1).trans hcW, (hg.frozen_far ⟨w.heap.size, 0, none⟩ (by show w.heap.size < _; omega) hk1).trans hfW⟩
      have g1 := cell_alloc cr (.cells (bv nought).toArray 5)
      have g2 := cell_alloc g1 (.cells #[str nought] 9)
      have g3 := cell_alloc g2 (.cells #[.slice (some ⟨wr.heap.size + 1, 0, none⟩) 1 1] 53)
      clear hD hR hsW hoW hnW hbase hk1 hcW hfW bW hszW
      subst hW3
      go_wp2
      go_region_law (first
        | (refine step_append_lies _ rfl (.tmp 23) (.tmp 26) 65 rfl w.heap.size 53 i0 (.slice none 0 0) 1 24 Tryz.underlying65 hi hz0 hz1 hz2 rfl (by decide) v k vals (by simp [Act.eval]) (unhide HoW) ⟨wr.heap.size + 1 + 1, 0, none⟩ 1 1 [Value.slice (some ⟨wr.heap.size + 1, 0, none⟩) 1 1] (by simp [Act.eval]) rfl (unhide HnW) (by intro u hu; simp at hu; subst hu; rfl) (by decide) (by unfold maxLen; omega) (by omega) (unhide Hbase) _ rfl ?_; intro q cap w1 hown1 hgrow hat hqlt; have k1 := (unhide HSt w1 hgrow).1; have k2 := (unhide HSt w1 hgrow).2)
        | (go_simp; refine (nought_any _).mono ?_; rintro e w2 ⟨rfl, rfl⟩))
      all_goals
        have R : MRel w w.heap.size w.heap.size n (k + 1) (w1.setCell ⟨w.heap.size, 0, none⟩ (.slice (some ⟨q, 0, none⟩) (k + 1) cap)) := by
          obtain ⟨r1, r2⟩ := unhide HP w1 _ (by simpa using hown1) hgrow
          have e : List.replicate (k + 1) [nought] = List.replicate k [nought] ++ [[nought]] := List.replicate_succ'
          exact ⟨⟨_, _, by rw [e]; exact r1, unhide HNW⟩, (unhide HFr).trans r2.below⟩
        clear hown1 hgrow hat hqlt k1 k2 HP HoW HnW Hbase HSt HFr g1 g2 g3 cr cf0
        go_wp2
        go_roundw
        case rel => exact ⟨k + 1, by omega, by go_num, R⟩
        case measure => simp [intOf]; omega
    · have hk' : k = n := by omega
      subst hk'
      have HR := hide hR
      clear hR
      go_wp2
      go_ret2
      exact ⟨rfl, (unhide HR).ex, (unhide HR).fr⟩

end Go.Proofs.YtfggahkimconfaaGreatDoor

/- The contract of the document's own Load, as far as DiskLoads asks it. -/
namespace Go.Proofs.YtfggahkimconfaaGreatDoor
open Go.RowKit
set_option linter.unusedVariables false

structure QRel (w : World) (B p : Nat) (v : Value) (m : Nat) (wr : World) : Prop where
  blk : wr.heap[p]? = some (.cells #[v, .int .i64 0, .int .i64 (-1), .bool false] 67 (0, 0))
  own : ∃ vals, wr.ownsRow B 53 1 v m vals
  fr : Below B w wr

theorem QRel.store {w wr : World} {B p q m cap k : Nat} {X : Obj} {u : Value} (h : QRel w B p (.slice (some ⟨q, 0, none⟩) m cap) m wr) (hB : B ≤ wr.heap.size) : QRel w B p (.slice (some ⟨q, 0, none⟩) m cap) m ((wr.alloc X).setCell ⟨q, k, none⟩ u).drew := by
  obtain ⟨vals, ho⟩ := h.own
  have hlt := ho.lt q rfl
  have hqp : p ≠ q := by
    intro e; subst e
    rcases ho.2 with ⟨e1, _⟩ | ⟨q', cap', cur, e1, _, hq, _⟩
    · cases e1
    · injection e1 with e2; injection e2 with e2; injection e2 with e2
      subst e2
      have := h.blk.symm.trans hq
      simp at this
  refine ⟨?_, ?_, ((h.fr.alloc hB X).setCell hlt.1 u).drew⟩
  · show ((wr.alloc X).setCell ⟨q, k, none⟩ u).heap[p]? = _
    rw [Below.heap_setCell _ _ _ _ hqp, Below.heap_alloc _ _ _ (lt_of_heap h.blk)]
    exact h.blk
  · rcases ho.2 with ⟨e1, _⟩ | ⟨q', cap', cur, e1, h1, hq, h2, h3, h4, h5⟩
    · cases e1
    · injection e1 with e2 _ e3; injection e2 with e2; injection e2 with e2
      subst e2; subst e3
      have hq1 : (wr.alloc X).heap[q]? = some (.cells cur 53 (0, 0)) := (Below.heap_alloc _ _ _ (lt_of_heap hq)).trans hq
      refine ⟨(cur.setIfInBounds k u).toList.take (m * 1), ?_, .inr ⟨q, cap, cur.setIfInBounds k u, rfl, h1, heap_setCell_same _ q k cur _ u hq1, h2, h3, by simpa using h4, rfl⟩⟩
      simp
      omega

end Go.Proofs.YtfggahkimconfaaGreatDoor

/- The document's answer beside a disk: move, Trip, last. -/
namespace Go.Proofs.YtfggahkimconfaaGreatDoor
open Go.RowKit
set_option linter.unusedVariables false

def Sec.vals (s : Sec) : List (List UInt8) := s.sure :: s.wait
def rof (D : Dk) : RDk := ⟨D.secs.map Sec.vals, D.moves, D.trip, D.dark⟩
theorem rof_fresh (n : Nat) : RDk.fresh n = rof (Dk.fresh n) := by simp [RDk.fresh, rof, Dk.fresh, Sec.vals]
theorem Sec.vals_get (s : Sec) (k : Nat) (hk : k ≤ s.wait.length) : s.vals[k]? = some (s.pick k) := by
  cases k with
  | zero => rfl
  | succ k => simp [Sec.vals, Sec.pick, List.getD_eq_getElem?_getD, List.getElem?_eq_getElem (show k < s.wait.length by omega)]
theorem Sec.vals_len (s : Sec) : s.vals.length = s.wait.length + 1 := rfl
theorem rof_get {D : Dk} {i : Nat} {s : Sec} (h : D.secs[i]? = some s) : (rof D).V[i]? = some s.vals := by simp [rof, h]
theorem rof_len (D : Dk) : (rof D).V.length = D.secs.length := by simp [rof]

theorem RIs.set {w : World} {B p : Nat} {v : Value} {vals : List Value} {R R' : RDk} (h : RIs w B p v vals R) (j : Nat) (u : Value) (hV : R'.V = R.V) (lo : -1 ≤ R'.left) (hi : R'.left ≤ 9223372036854775807)
    (hv : (#[v, .int .i64 R.done, .int .i64 R.left, .bool R.gone]).setIfInBounds j u = #[v, .int .i64 R'.done, .int .i64 R'.left, .bool R'.gone]) : RIs (w.setCell ⟨p, j, none⟩ u) B p v vals R' := by
  obtain ⟨k1, k2⟩ := h.kinds
  refine ⟨?_, ?_, h.bp, by simpa [World.setCell] using h.bw, ?_, lo, hi⟩
  · rw [heap_setCell_same w p j _ _ u h.blk, hv]
  · rw [hV]
    refine own_of_block h.own (fun k hk => Below.heap_setCell _ _ _ _ (fun e => ?_))
    subst e
    exact k1 hk.symm
  · intro i l hl
    rw [hV] at hl
    obtain ⟨sv, a, b⟩ := h.each i l hl
    refine ⟨sv, a, b.keep (fun k c f hk => Below.heap_setCell _ _ _ _ (fun e => ?_))⟩
    subst e
    have := h.blk.symm.trans hk
    simp at this
theorem fr2_setCell {B : Nat} {w : World} {a : Addr} {v : Value} {c : Array Value} {e : TypeId} {f : Nat × Nat} (hb : B ≤ a.block) (ha : w.heap[a.block]? = some (.cells c e f)) (he : e = 67 ∨ e = 53) : Fr2 B w (w.setCell a v) :=
  ⟨(Below.refl _ _).setCell hb v, fun k c' e' f' hk h1 h2 => by
    refine Below.heap_setCell w a v k ?_
    intro e0; subst e0
    have := ha.symm.trans hk
    simp at this
    obtain ⟨_, rfl, _⟩ := this
    rcases he with he | he
    · exact h1 he
    · exact h2 he⟩

set_option maxRecDepth 100000 in
set_option maxHeartbeats 400000 in
theorem rmove_gone (p : Nat) (w : World) (h3 : w.cell? ⟨p, 3, none⟩ = some (.bool true)) (hf : w.frozen? ⟨p, 3, none⟩ = false) :
    Calls Tryz.prog 65 #[.pointer (some ⟨p, 0, none⟩)] w fun e w' => e = .returned (.bool false) ∧ w' = w.setCell ⟨p, 3, none⟩ (.bool true) := by
  go_enter Tryz.func65, Tryz.ntmps65
  go_wp2
  go_ret
  exact ⟨rfl, rfl⟩
set_option maxRecDepth 100000 in
set_option maxHeartbeats 400000 in
theorem rmove_trip (p : Nat) (w : World) (h2 : w.cell? ⟨p, 2, none⟩ = some (.int .i64 0)) (h3 : w.cell? ⟨p, 3, none⟩ = some (.bool false)) (hf : w.frozen? ⟨p, 3, none⟩ = false) :
    Calls Tryz.prog 65 #[.pointer (some ⟨p, 0, none⟩)] w fun e w' => e = .returned (.bool false) ∧ w' = w.setCell ⟨p, 3, none⟩ (.bool true) := by
  go_enter Tryz.func65, Tryz.ntmps65
  go_wp2
  go_ret
  exact ⟨rfl, rfl⟩
set_option maxRecDepth 100000 in
set_option maxHeartbeats 400000 in
theorem rmove_free (p : Nat) (w : World) (m t : Int) (ht : t < 0) (h1 : w.cell? ⟨p, 1, none⟩ = some (.int .i64 m)) (h2 : w.cell? ⟨p, 2, none⟩ = some (.int .i64 t)) (h3 : w.cell? ⟨p, 3, none⟩ = some (.bool false)) (hf1 : w.frozen? ⟨p, 1, none⟩ = false) :
    Calls Tryz.prog 65 #[.pointer (some ⟨p, 0, none⟩)] w fun e w' => e = .returned (.bool true) ∧ w' = w.setCell ⟨p, 1, none⟩ (.int .i64 (wrap64 (m + 1))) := by
  have hb : (t == 0) = false := by simp; omega
  go_enter Tryz.func65, Tryz.ntmps65
  go_wp2
  go_ret
  exact ⟨rfl, rfl⟩
set_option maxRecDepth 100000 in
set_option maxHeartbeats 400000 in
theorem rmove_down (p : Nat) (w : World) (m t : Int) (ht : 0 < t) (ht' : t ≤ 9223372036854775807) (h1 : w.cell? ⟨p, 1, none⟩ = some (.int .i64 m)) (h2 : w.cell? ⟨p, 2, none⟩ = some (.int .i64 t)) (h3 : w.cell? ⟨p, 3, none⟩ = some (.bool false)) (hf1 : w.frozen? ⟨p, 1, none⟩ = false) (hf2 : w.frozen? ⟨p, 2, none⟩ = false) :
    Calls Tryz.prog 65 #[.pointer (some ⟨p, 0, none⟩)] w fun e w' => e = .returned (.bool true) ∧ w' = (w.setCell ⟨p, 2, none⟩ (.int .i64 (t - 1))).setCell ⟨p, 1, none⟩ (.int .i64 (wrap64 (m + 1))) := by
  have hb : (t == 0) = false := by simp; omega
  go_enter Tryz.func65, Tryz.ntmps65
  go_wp2
  go_ret
  exact ⟨rfl, rfl⟩

theorem rmove_any (w : World) (B p : Nat) (v : Value) (vals : List Value) (D : Dk) (h : RIs w B p v vals (rof D)) :
    Calls Tryz.prog 65 #[.pointer (some ⟨p, 0, none⟩)] w fun e w' => e = .returned (.bool D.can) ∧ RIs w' B p v vals (rof D.moved) ∧ Fr2 B w w' := by
  obtain ⟨c0, c1, c2, c3, cf⟩ := h.cells
  have c1 : w.cell? ⟨p, 1, none⟩ = some (.int .i64 D.moves) := c1
  have c2 : w.cell? ⟨p, 2, none⟩ = some (.int .i64 D.trip) := c2
  have c3 : w.cell? ⟨p, 3, none⟩ = some (.bool D.dark) := c3
  have lo : -1 ≤ D.trip := h.lo
  have hi : D.trip ≤ 9223372036854775807 := h.hi
  have hV : (rof D.moved).V = (rof D).V := by simp [rof, Dk.moved_secs]
  by_cases hd : D.dark = true
  · rw [hd] at c3
    refine (rmove_gone p w c3 (cf 3)).mono ?_
    rintro e w' ⟨rfl, rfl⟩
    refine ⟨by simp [Dk.can, hd], h.set 3 _ hV ?_ ?_ ?_, fr2_setCell h.bp h.blk (.inl rfl)⟩
    · by_cases ht : D.trip = 0 <;> simp [rof, Dk.moved, ht, hd, lo]
    · by_cases ht : D.trip = 0 <;> simp [rof, Dk.moved, ht, hd, hi]
    · by_cases ht : D.trip = 0 <;> simp [rof, Dk.moved, ht, hd]
  · have hd' : D.dark = false := by simpa using hd
    rw [hd'] at c3
    by_cases ht : D.trip = 0
    · rw [ht] at c2
      refine (rmove_trip p w c2 c3 (cf 3)).mono ?_
      rintro e w' ⟨rfl, rfl⟩
      refine ⟨by simp [Dk.can, ht], h.set 3 _ hV ?_ ?_ ?_, fr2_setCell h.bp h.blk (.inl rfl)⟩ <;> simp [rof, Dk.moved, ht]
    · have hcan : D.can = true := by simp [Dk.can, ht, hd']
      by_cases hp : 0 < D.trip
      · refine (rmove_down p w D.moves D.trip hp hi c1 c2 c3 (cf 1) (cf 2)).mono ?_
        rintro e w' ⟨rfl, rfl⟩
        have e : D.moved = { D with moves := wrap64 (D.moves + 1), trip := D.trip - 1 } := by simp [Dk.moved, ht, hd', hp]
        have h1 : RIs (w.setCell ⟨p, 2, none⟩ (.int .i64 (D.trip - 1))) B p v vals (rof { D with trip := D.trip - 1 }) := h.set 2 _ rfl (by show -1 ≤ D.trip - 1; omega) (by show D.trip - 1 ≤ _; omega) rfl
        have h2 := h1.set (R' := rof { D with moves := wrap64 (D.moves + 1), trip := D.trip - 1 }) 1 (.int .i64 (wrap64 (D.moves + 1))) rfl h1.lo h1.hi rfl
        rw [e, hcan]
        exact ⟨rfl, h2, (fr2_setCell h.bp h.blk (.inl rfl)).trans (fr2_setCell h1.bp h1.blk (.inl rfl))⟩
      · refine (rmove_free p w D.moves D.trip (by omega) c1 c2 c3 (cf 1)).mono ?_
        rintro e w' ⟨rfl, rfl⟩
        have e : D.moved = { D with moves := wrap64 (D.moves + 1) } := by simp [Dk.moved, ht, hd', hp]
        have h2 := h.set (R' := rof { D with moves := wrap64 (D.moves + 1) }) 1 (.int .i64 (wrap64 (D.moves + 1))) rfl lo hi rfl
        rw [e, hcan]
        exact ⟨rfl, h2, fr2_setCell h.bp h.blk (.inl rfl)⟩

set_option maxRecDepth 100000 in
set_option maxHeartbeats 400000 in
theorem rTrip_any (w : World) (B p : Nat) (v : Value) (vals : List Value) (D : Dk) (hD : RIs w B p v vals (rof D)) (n : Int) (hn : n ≤ 9223372036854775807) :
    Calls Tryz.prog 21 #[.pointer (some ⟨p, 0, none⟩), .int .i64 n] w fun e w' => e = .returned (.tuple #[]) ∧ RIs w' B p v vals (rof { D with trip := max n (-1) }) ∧ Fr2 B w w' := by
  obtain ⟨_, _, c2, _, cf⟩ := hD.cells
  have cf2 := cf 2
  clear cf
  go_enter Tryz.func21, Tryz.ntmps21
  go_wp2
  · have hlt : n < -1 := by assumption
    have hm : max n (-1) = -1 := by omega
    go_end0
    refine ⟨rfl, ?_, fr2_setCell hD.bp hD.blk (.inl rfl)⟩
    rw [hm]
    exact hD.set 2 _ rfl (by show (-1 : Int) ≤ -1; omega) (by show (-1 : Int) ≤ _; omega) rfl
  · have hle : -1 ≤ n := by assumption
    have hm : max n (-1) = n := by omega
    go_end0
    refine ⟨rfl, ?_, fr2_setCell hD.bp hD.blk (.inl rfl)⟩
    rw [hm]
    exact hD.set 2 _ rfl hle hn rfl

/-- A member of the reference's, with its cells. -/
theorem RIs.mem {w : World} {B p : Nat} {v : Value} {vals : List Value} {D : Dk} (h : RIs w B p v vals (rof D)) (i : Nat) (s : Sec) (hi : D.secs[i]? = some s) :
    ∃ g gc q c, v = .slice (some ⟨g, 0, none⟩) D.secs.length gc ∧ w.cell? ⟨g, i, none⟩ = some (.slice (some ⟨q, 0, none⟩) (s.wait.length + 1) c) ∧ w.frozen? ⟨g, i, none⟩ = false ∧ s.wait.length + 1 ≤ c ∧ c ≤ 9223372036854775807 ∧ ∀ k, k ≤ s.wait.length → w.cell? ⟨q, k, none⟩ = some (str (s.pick k)) := by
  obtain ⟨sv, a, q, c, cur, rfl, h2, h3, h4, h5⟩ := h.each i _ (rof_get hi)
  have hil := (List.getElem?_eq_some_iff.1 hi).1
  have hown := h.own
  rw [rof_len] at hown
  rcases hown.2 with ⟨_, e2⟩ | ⟨g, gc, gcur, e1, _, hq, hc1, hc2, hc3, hc4⟩
  · omega
  · refine ⟨g, gc, q, c, e1, ?_, frozen_of_row _ _ _ _ _ hq, h3, h4, fun k hk => ?_⟩
    · rw [cell_of_row _ _ _ _ _ _ hq]
      rw [← hc4, List.getElem?_take] at a
      split at a
      · rw [Array.getElem?_toList] at a; exact a
      · cases a
    · rw [cell_of_row _ _ _ _ _ _ h2]
      exact h5 k _ (s.vals_get k hk)

set_option maxRecDepth 100000 in
set_option maxHeartbeats 400000 in
theorem rlast_any (w : World) (B p : Nat) (v : Value) (vals : List Value) (D : Dk) (h : RIs w B p v vals (rof D)) (i : Nat) (s : Sec) (hi : D.secs[i]? = some s) :
    Calls Tryz.prog 48 #[.pointer (some ⟨p, 0, none⟩), .int .i64 i] w fun e w' => e = .returned (str s.last) ∧ w' = w.drew := by
  obtain ⟨g, gc, q, c, rfl, h1, _, h2, h3, h4⟩ := h.mem i s hi
  have h5 := h4 _ (Nat.le_refl _)
  have c0 := h.cells.1
  have hil := (List.getElem?_eq_some_iff.1 hi).1
  have hl : str (s.pick s.wait.length) = str s.last := rfl
  rw [hl] at h5
  generalize str s.last = S at *
  generalize s.wait.length = k at *
  have hw : IntKind.i64.wrap (k : Int) = k := by rw [IntKind.wrap_i64]; omega
  have hk1 : (k : Int) < (k : Int) + 1 := by omega
  clear h4 h hi
  go_enter Tryz.func48, Tryz.ntmps48
  go_wp2
  go_region_law (fail)
  all_goals
    go_wp2
    go_ret
    exact ⟨rfl, rfl⟩

end Go.Proofs.YtfggahkimconfaaGreatDoor

/- The contracts of the document's own Fetch. -/
namespace Go.Proofs.YtfggahkimconfaaGreatDoor
open Go.RowKit
set_option linter.unusedVariables false

theorem RIs.dcells {w : World} {B p : Nat} {v : Value} {vals : List Value} {D : Dk} (h : RIs w B p v vals (rof D)) :
    w.cell? ⟨p, 0, none⟩ = some v ∧ w.cell? ⟨p, 1, none⟩ = some (.int .i64 D.moves) ∧ w.cell? ⟨p, 2, none⟩ = some (.int .i64 D.trip) ∧ w.cell? ⟨p, 3, none⟩ = some (.bool D.dark) ∧ ∀ j, w.frozen? ⟨p, j, none⟩ = false := h.cells

set_option maxRecDepth 100000 in
set_option maxHeartbeats 400000 in
theorem rFetch_out (w : World) (B p : Nat) (v : Value) (vals : List Value) (D : Dk) (h : RIs w B p v vals (rof D)) (at_ : Int) (hat : ¬ (0 ≤ at_ ∧ at_ < D.secs.length)) (g gc : Nat) (hv : v = .slice (some ⟨g, 0, none⟩) D.secs.length gc) :
    Calls Tryz.prog 42 #[.pointer (some ⟨p, 0, none⟩), .int .i64 at_] w fun e w' => e = .returned (.tuple #[.slice none 0 0, .int .i64 2]) ∧ w' = w := by
  subst hv
  have c0 := h.cells.1
  clear h
  by_cases h0 : at_ < 0
  · have hd : decide (at_ < 0) = true := by simpa using h0
    go_enter Tryz.func42, Tryz.ntmps42
    go_wp2
    go_ret2
    exact ⟨rfl, rfl⟩
  · have hd : decide (at_ < 0) = false := by simpa using h0
    have hd2 : decide ((D.secs.length : Int) ≤ at_) = true := by simp; omega
    go_enter Tryz.func42, Tryz.ntmps42
    go_wp2
    go_ret2
    exact ⟨rfl, rfl⟩

set_option maxRecDepth 100000 in
set_option maxHeartbeats 400000 in
theorem rFetch_dark (w : World) (B p : Nat) (v : Value) (vals : List Value) (D : Dk) (h : RIs w B p v vals (rof D)) (at_ : Int) (hat : 0 ≤ at_ ∧ at_ < D.secs.length) (hdk : D.dark = true) (g gc : Nat) (hv : v = .slice (some ⟨g, 0, none⟩) D.secs.length gc) :
    Calls Tryz.prog 42 #[.pointer (some ⟨p, 0, none⟩), .int .i64 at_] w fun e w' => e = .returned (.tuple #[.slice none 0 0, .int .i64 10]) ∧ w' = w := by
  subst hv
  obtain ⟨c0, -, -, c3, -⟩ := h.dcells
  rw [hdk] at c3
  clear h
  have hd : decide (at_ < 0) = false := by simp; omega
  have hd2 : decide ((D.secs.length : Int) ≤ at_) = false := by simp; omega
  go_enter Tryz.func42, Tryz.ntmps42
  go_wp2
  go_ret2
  exact ⟨rfl, rfl⟩

theorem bytesRow_bv (x : List UInt8) (cap j : Nat) (u : Value) (hu : (bv x)[j]? = some u) : (bytesRow ⟨x.toArray⟩ cap)[j]? = some u := by
  have hj : j < x.length := by have := (List.getElem?_eq_some_iff.1 hu).1; rwa [bv_length] at this
  rw [bytesRow_at ⟨x.toArray⟩ cap j (by simpa using hj)]
  simp only [bv, List.getElem?_map, List.getElem?_eq_getElem hj, Option.map_some] at hu
  rw [← hu]
  simp

set_option maxRecDepth 100000 in
set_option maxHeartbeats 400000 in
theorem rFetch_ok (w : World) (B p : Nat) (v : Value) (vals : List Value) (D : Dk) (h : RIs w B p v vals (rof D)) (i : Nat) (s : Sec) (hi : D.secs[i]? = some s) (hdk : D.dark = false) (hl : s.last.length = 256) :
    Calls Tryz.prog 42 #[.pointer (some ⟨p, 0, none⟩), .int .i64 i] w fun e w' => ∃ q c, e = .returned (.tuple #[.slice (some ⟨q, 0, none⟩) 256 c, .int .i64 0]) ∧ BytesAt w' (some ⟨q, 0, none⟩) s.last ∧ Below w.heap.size w w' := by
  obtain ⟨g, gc, _, _, rfl, _⟩ := h.mem i s hi
  obtain ⟨c0, -, -, c3, -⟩ := h.dcells
  rw [hdk] at c3
  have hil := (List.getElem?_eq_some_iff.1 hi).1
  have hd2 : decide ((D.secs.length : Int) ≤ i) = false := by simp; omega
  have HL := hide (rlast_any w B p _ vals D h i s hi)
  have hcv := run_bytes_of_string (P := Tryz.prog) w.drew 9 43 5 ⟨s.last.toArray⟩ Tryz.underlying9 Tryz.underlying43 Tryz.underlying5
  have hsz : (⟨s.last.toArray⟩ : ByteArray).size = 256 := by simp [ByteArray.size, hl]
  rw [hsz] at hcv
  have hB : Hid (∀ C (f : Nat × Nat), (∀ j u, (bv s.last)[j]? = some u → C[j]? = some u) → BytesAt (w.drew.drew.alloc (.cells C 5 f)) (some ⟨w.heap.size, 0, none⟩) s.last) := fun C f hC => by
    refine ⟨(fun e => by cases e), fun ad e j u hu => ?_⟩
    injection e with e
    subst e
    rw [Addr.add_mid, Nat.zero_add]
    exact (World.cell?_alloc_mark w.drew.drew C _ f j).trans (hC j u hu)
  have HR := hide (fun cap j u hu => bytesRow_bv s.last cap j u hu)
  clear h hi
  go_enter Tryz.func42, Tryz.ntmps42
  go_wp2_with fail
  refine (unhide HL).mono ?_
  rintro e w1 ⟨rfl, rfl⟩
  go_wp2
  go_ret2
  exact ⟨_, _, rfl, unhide hB _ _ (unhide HR _), (((Below.refl _ _).drew.drew).alloc (Nat.le_refl _) _)⟩

end Go.Proofs.YtfggahkimconfaaGreatDoor

/- The contracts of the document's own Store. -/
namespace Go.Proofs.YtfggahkimconfaaGreatDoor
open Go.RowKit
set_option linter.unusedVariables false

theorem RIs.put {w : World} {B p : Nat} {v : Value} {vals : List Value} {D : Dk} (h : RIs w B p v vals (rof D)) (g gc : Nat) (hv : v = .slice (some ⟨g, 0, none⟩) D.secs.length gc) (i : Nat) (s' : Sec) (hi : i < D.secs.length) (sv : Value) (hs : StrsAt w sv s'.vals) :
    RIs (w.setCell ⟨g, i, none⟩ sv) B p v (vals.set i sv) (rof (D.put i s')) ∧ Fr2 B w (w.setCell ⟨g, i, none⟩ sv) := by
  subst hv
  obtain ⟨k1, k2⟩ := h.kinds
  obtain ⟨cur, hg⟩ := k2 g rfl
  have hpg : p ≠ g := fun e => k1 (by subst e; rfl)
  have hset : ∀ k, k ≠ g → (w.setCell ⟨g, i, none⟩ sv).heap[k]? = w.heap[k]? := fun k hk => Below.heap_setCell _ _ _ _ hk
  have hkeep : ∀ (k : Nat) (c : Array Value) (f : Nat × Nat), w.heap[k]? = some (.cells c 9 f) → (w.setCell ⟨g, i, none⟩ sv).heap[k]? = w.heap[k]? := fun k c f hk => hset k (fun e => by
    subst e
    have := hg.symm.trans hk
    simp at this)
  have hlen : (rof (D.put i s')).V.length = (rof D).V.length := by simp [rof, Dk.put]
  have hbg := (h.own.lt g rfl).1
  refine ⟨⟨?_, ?_, h.bp, by simpa [World.setCell] using h.bw, ?_, h.lo, h.hi⟩, fr2_setCell hbg hg (.inr rfl)⟩
  · exact (hset p hpg).trans h.blk
  · have ho := h.own
    rw [rof_len] at ho
    rw [hlen, rof_len]
    have := (ho.stored i sv).1
    exact this
  · intro j l hj
    have e : (rof (D.put i s')).V = (rof D).V.set i s'.vals := by simp [rof, Dk.put, List.map_set]
    rw [e, List.getElem?_set] at hj
    have hvl : vals.length = D.secs.length := by have := h.own.1; rw [rof_len] at this; simpa using this
    split at hj
    · rename_i e0
      subst e0
      split at hj
      · have := (Option.some.inj hj).symm
        subst this
        exact ⟨sv, by rw [List.getElem?_set, if_pos rfl, if_pos (by omega)], hs.keep hkeep⟩
      · cases hj
    · rename_i e0
      obtain ⟨sv', a, b⟩ := h.each j l hj
      exact ⟨sv', by rw [List.getElem?_set, if_neg e0]; exact a, b.keep hkeep⟩

set_option maxRecDepth 100000 in
set_option maxHeartbeats 400000 in
theorem rStore_out (w : World) (B p : Nat) (v : Value) (vals : List Value) (D : Dk) (h : RIs w B p v vals (rof D)) (at_ : Int) (a : Option Addr) (m c : Nat) (hat : ¬ (0 ≤ at_ ∧ at_ < D.secs.length)) (g gc : Nat) (hv : v = .slice (some ⟨g, 0, none⟩) D.secs.length gc) :
    Calls Tryz.prog 26 #[.pointer (some ⟨p, 0, none⟩), .int .i64 at_, .slice a m c] w fun e w' => e = .returned (.int .i64 2) ∧ w' = w := by
  subst hv
  have c0 := h.cells.1
  clear h
  by_cases h0 : at_ < 0
  · have hd : decide (at_ < 0) = true := by simpa using h0
    go_enter Tryz.func26, Tryz.ntmps26
    go_wp2
    go_ret
    exact ⟨rfl, rfl⟩
  · have hd : decide (at_ < 0) = false := by simpa using h0
    have hd2 : decide ((D.secs.length : Int) ≤ at_) = true := by simp; omega
    go_enter Tryz.func26, Tryz.ntmps26
    go_wp2
    go_ret
    exact ⟨rfl, rfl⟩

set_option maxRecDepth 100000 in
set_option maxHeartbeats 400000 in
theorem rStore_len (w : World) (B p : Nat) (v : Value) (vals : List Value) (D : Dk) (h : RIs w B p v vals (rof D)) (at_ : Int) (a : Option Addr) (m c : Nat) (hat : 0 ≤ at_ ∧ at_ < D.secs.length) (hm : m ≠ 256) (g gc : Nat) (hv : v = .slice (some ⟨g, 0, none⟩) D.secs.length gc) :
    Calls Tryz.prog 26 #[.pointer (some ⟨p, 0, none⟩), .int .i64 at_, .slice a m c] w fun e w' => e = .returned (.int .i64 2) ∧ w' = w := by
  subst hv
  have c0 := h.cells.1
  clear h
  have hd : decide (at_ < 0) = false := by simp; omega
  have hd2 : decide ((D.secs.length : Int) ≤ at_) = false := by simp; omega
  have hm' : ((m : Int) != 256) = true := by rw [bne_iff_ne]; omega
  go_enter Tryz.func26, Tryz.ntmps26
  go_wp2
  go_ret
  exact ⟨rfl, rfl⟩

set_option maxRecDepth 100000 in
set_option maxHeartbeats 400000 in
theorem rStore_dark (w : World) (B p : Nat) (v : Value) (vals : List Value) (D : Dk) (h : RIs w B p v vals (rof D)) (at_ : Int) (a : Option Addr) (c : Nat) (hat : 0 ≤ at_ ∧ at_ < D.secs.length) (hc : D.can = false) (g gc : Nat) (hv : v = .slice (some ⟨g, 0, none⟩) D.secs.length gc) :
    Calls Tryz.prog 26 #[.pointer (some ⟨p, 0, none⟩), .int .i64 at_, .slice a 256 c] w fun e w' => e = .returned (.int .i64 10) ∧ RIs w' B p v vals (rof D.moved) ∧ Fr2 B w w' := by
  have H := hide (rmove_any w B p v vals D h)
  subst hv
  have c0 := h.cells.1
  clear h
  rw [hc] at H
  have hd : decide (at_ < 0) = false := by simp; omega
  have hd2 : decide ((D.secs.length : Int) ≤ at_) = false := by simp; omega
  go_enter Tryz.func26, Tryz.ntmps26
  go_wp2_with fail
  refine (unhide H).mono ?_
  rintro e w1 ⟨rfl, h1, h2⟩
  have H1 := hide h1
  have H2 := hide h2
  clear h1 h2
  go_wp2
  go_ret
  exact ⟨rfl, unhide H1, unhide H2⟩

theorem bytes_below {w w' : World} {a : Option Addr} {l : List UInt8} (h : BytesAt w a l) (hb : Below w.heap.size w w') : BytesAt w' a l :=
  ⟨h.1, fun ad e j u hu => by
    have h1 := h.2 ad e j u hu
    exact (hb.cell (World.block_lt_of_cell? w _ h1)).trans h1⟩

theorem own_new {W : World} {H base : Nat} (h : W.heap[H]? = some (.cells #[] 9 (0, 0))) (hb : base ≤ H) : W.ownsRow base 9 1 (.slice (some ⟨H, 0, none⟩) 0 0) 0 [] :=
  ⟨by simp, .inr ⟨H, 0, #[], rfl, hb, h, Nat.le_refl _, by unfold maxLen; omega, by simp, by simp⟩⟩

theorem rput_fin {w1 w3 : World} {B p : Nat} {v : Value} {vals : List Value} {D : Dk} (h : RIs w1 B p v vals (rof D)) (g gc : Nat) (hv : v = .slice (some ⟨g, 0, none⟩) D.secs.length gc) (i : Nat) (hi : i < D.secs.length) (s' : Sec) (hb : Below w1.heap.size w1 w3) (q cap n : Nat)
    (hn : s'.vals.length = n) (hown : w3.ownsRow w1.heap.size 9 1 (.slice (some ⟨q, 0, none⟩) n cap) n (s'.vals.map str)) :
    (∃ vals', RIs (w3.setCell ⟨g, i, none⟩ (.slice (some ⟨q, 0, none⟩) n cap)) B p v vals' (rof (D.put i s')) ∧ NewOr w1 vals vals') ∧ Fr2 B w1 (w3.setCell ⟨g, i, none⟩ (.slice (some ⟨q, 0, none⟩) n cap)) := by
  have hs : StrsAt w3 (.slice (some ⟨q, 0, none⟩) n cap) s'.vals := by
    subst hn
    rcases hown.2 with ⟨e, _⟩ | ⟨q', cap', cur, e, _, hq, hc1, hc2, hc3, hc4⟩
    · cases e
    · injection e with e1 _ e2; injection e1 with e1; injection e1 with e1
      subst e1; subst e2
      unfold maxLen at hc2
      refine ⟨q, cap, cur, rfl, hq, hc1, by omega, fun j x hj => ?_⟩
      have h2 : (s'.vals.map str)[j]? = some (str x) := by simp [hj]
      rw [← hc4, List.getElem?_take] at h2
      split at h2
      · rw [Array.getElem?_toList] at h2; exact h2
      · cases h2
  obtain ⟨r1, r2⟩ := (h.below hb).put g gc hv i s' hi _ hs
  exact ⟨⟨_, r1, (NewOr.refl _ _).put i (fun k hk => (hown.lt k hk).1)⟩, (Fr2.of_below hb h.bw).trans r2⟩

set_option maxRecDepth 100000 in
set_option maxHeartbeats 1000000 in
theorem rStore_ok (w : World) (B p : Nat) (v : Value) (vals : List Value) (D : Dk) (h : RIs w B p v vals (rof D)) (i : Nat) (s : Sec) (hi : D.secs[i]? = some s) (xb xc : Nat) (hc : D.can = true) (hn : s.wait.length ≤ 1000000)
    (x : List UInt8) (hx : x.length = 256) (cur : Array Value) (fz : Nat × Nat) (hxb : w.heap[xb]? = some (.cells cur 5 fz)) (hB : BytesAt w (some ⟨xb, 0, none⟩) x) :
    Calls Tryz.prog 26 #[.pointer (some ⟨p, 0, none⟩), .int .i64 i, .slice (some ⟨xb, 0, none⟩) 256 xc] w fun e w' => e = .returned (.int .i64 0) ∧ (∃ vals', RIs w' B p v vals' (rof (D.moved.put i (s.add x))) ∧ NewOr w vals vals') ∧ Fr2 B w w' := by
  have H := hide (rmove_any w B p v vals D h)
  obtain ⟨g, gc, _, _, hv, -⟩ := h.mem i s hi
  subst hv
  have c0 := h.cells.1
  clear h
  rw [hc] at H
  have hil := (List.getElem?_eq_some_iff.1 hi).1
  have hd2 : decide ((D.secs.length : Int) ≤ i) = false := by simp; omega
  have HXB := hide hxb
  have HBY := hide hB
  have HI := hide hi
  clear hxb hB hi
  go_enter Tryz.func26, Tryz.ntmps26
  go_wp2_with fail
  refine (unhide H).mono ?_
  rintro e w1 ⟨rfl, h1, h2⟩
  have H1 := hide h1
  have H2 := hide h2
  clear h1 h2
  go_wp2
  have h1 := unhide H1
  have h2 := unhide H2
  clear H1 H2
  have hi1 : D.moved.secs[i]? = some s := by rw [Dk.moved_secs]; exact unhide HI
  have hL : D.moved.secs.length = D.secs.length := by rw [Dk.moved_secs]
  obtain ⟨g', gc', q, c, hv, c1, f1, hc1, hc2, hcs⟩ := h1.mem i s hi1
  injection hv with hv1 hv0 hv2
  clear hv0
  injection hv1 with hv1
  injection hv1 with hv1
  subst hv1
  subst hv2
  have c0' := h1.cells.1
  have hgb := h1.kinds.2 g rfl
  have hpg : p ≠ g := fun e => h1.kinds.1 (by subst e; rfl)
  have hxb1 : w1.heap[xb]? = some (.cells cur 5 fz) := (h2.other xb cur _ fz (unhide HXB) (by decide) (by decide)).trans (unhide HXB)
  have hxg : xb ≠ g := by
    intro e; subst e
    obtain ⟨cur', hg'⟩ := hgb
    have := hxb1.symm.trans hg'
    simp at this
  have hB1 : BytesAt w1 (some ⟨xb, 0, none⟩) x := by
    refine ⟨(fun e => by cases e), fun ad e j u hu => ?_⟩
    have := (unhide HBY).2 ad e j u hu
    injection e with e
    subst e
    rw [Addr.add_mid] at this ⊢
    rw [cell_of_row _ _ _ _ _ _ hxb1]
    rwa [cell_of_row _ _ _ _ _ _ (unhide HXB)] at this
  have hgl : g < w1.heap.size := World.block_lt_of_cell? w1 _ c1
  have hpl : p < w1.heap.size := World.block_lt_of_cell? w1 _ c0'
  have HC : Hid (∀ W, BytesAt W (some ⟨xb, 0, none⟩) x → (convert 43 9 (.slice (some ⟨xb, 0, none⟩) 256 xc)).run Tryz.prog W = .ok (str x) W) := fun W hW => by
    have := conv_bytes W (some ⟨xb, 0, none⟩) x xc hW
    rwa [hx] at this
  have HS : Hid (∀ W, Below w1.heap.size w1 W → W.cell? ⟨p, 0, none⟩ = some (.slice (some ⟨g, 0, none⟩) D.secs.length gc) ∧ (convert 43 9 (.slice (some ⟨xb, 0, none⟩) 256 xc)).run Tryz.prog W = .ok (str x) W) := fun W b =>
    ⟨(b.cell (p := ⟨p, 0, none⟩) hpl).trans c0', unhide HC W (bytes_below hB1 b)⟩
  have HSF : Hid (∀ W u, Below w1.heap.size w1 W → (W.setCell ⟨g, i, none⟩ u).cell? ⟨p, 0, none⟩ = some (.slice (some ⟨g, 0, none⟩) D.secs.length gc) ∧ (convert 43 9 (.slice (some ⟨xb, 0, none⟩) 256 xc)).run Tryz.prog (W.setCell ⟨g, i, none⟩ u) = .ok (str x) (W.setCell ⟨g, i, none⟩ u)) := fun W u b => by
    have hk : ∀ k, k ≠ g → (W.setCell ⟨g, i, none⟩ u).heap[k]? = W.heap[k]? := fun k hk => Below.heap_setCell _ _ _ _ hk
    refine ⟨(World.cell?_of_block (w := W) (hk p hpg)).trans ((b.cell (p := ⟨p, 0, none⟩) hpl).trans c0'), unhide HC _ ⟨(fun e => by cases e), fun ad e j v hv => ?_⟩⟩
    have := (bytes_below hB1 b).2 ad e j v hv
    injection e with e
    subst e
    rw [Addr.add_mid] at this ⊢
    exact (World.cell?_of_block (w := W) (hk xb hxg)).trans this
  have HF : Hid (∀ w3 q3 cap, Below w1.heap.size w1 w3 → w3.ownsRow w1.heap.size 9 1 (.slice (some ⟨q3, 0, none⟩) (s.wait.length + 1 + 1) cap) (s.wait.length + 1 + 1) (s.vals.map str ++ [str x]) →
      (∃ vals', RIs (w3.setCell ⟨g, i, none⟩ (.slice (some ⟨q3, 0, none⟩) (s.wait.length + 1 + 1) cap)) B p (.slice (some ⟨g, 0, none⟩) D.secs.length gc) vals' (rof (D.moved.put i (s.add x))) ∧ NewOr w vals vals') ∧ Fr2 B w (w3.setCell ⟨g, i, none⟩ (.slice (some ⟨q3, 0, none⟩) (s.wait.length + 1 + 1) cap))) := fun w3 q3 cap hb hown => by
    have e : (s.add x).vals.map str = s.vals.map str ++ [str x] := by simp [Sec.vals, Sec.add]
    rw [← e] at hown
    obtain ⟨⟨vals', r1, nw⟩, r2⟩ := rput_fin h1 g gc (by rw [hL]) i (by omega) (s.add x) hb q3 cap _ (by simp [Sec.vals, Sec.add]) hown
    exact ⟨⟨vals', r1, nw.later h2.below.size⟩, h2.trans r2⟩
  have gA := cell_alloc c1 (.cells #[] 9)
  have gX := cell_alloc c1 (.cells #[str x] 9)
  have gAX := cell_alloc gA (.cells #[str x] 9)
  have gXA := cell_alloc gX (.cells #[] 9)
  have HGL := hide hgl
  have HLEN : Hid ((s.vals.map str).length = (s.wait.length + 1) * 1) := by unfold Hid; simp [Sec.vals]
  have HONE : Hid (∀ u ∈ s.vals.map str, u.oneCell' = true) := fun u hu => by
    obtain ⟨y, _, rfl⟩ := List.mem_map.1 hu
    rfl
  have HNEWS : Hid (∀ W, Below w1.heap.size w1 W → ∀ j u, (s.vals.map str)[j]? = some u → W.cell? ((⟨q, 0, none⟩ : Addr).add j) = some u) := fun W b j u hu => by
    have hj := (List.getElem?_eq_some_iff.1 hu).1
    rw [List.length_map, Sec.vals_len] at hj
    rw [List.getElem?_map, s.vals_get j (by omega)] at hu
    have hu' := Option.some.inj hu
    subst hu'
    rw [Addr.add_mid, Nat.zero_add]
    have h3 := hcs j (by omega)
    exact (b.cell (p := ⟨q, j, none⟩) (World.block_lt_of_cell? w1 _ h3)).trans h3
  have HMX : Hid (0 + (s.wait.length + 1) ≤ maxLen ∧ (0 + (s.wait.length + 1)) * 16 ≤ 140737488355328 ∧ s.wait.length + 1 + 1 ≤ maxLen ∧ (s.wait.length + 1 + 1) * 16 ≤ 140737488355328) := by
    unfold Hid maxLen
    omega
  have hil2 : (i : Int) < D.secs.length := by omega
  obtain ⟨i0, hi0, hz0, hz1, hz2⟩ := info_parts infoStr
  clear h1 h2 hgb hxb1 hB1 HC hi1 hcs hL hpg hxg hx hn hc hpl hgl c0 hc1 hc2
  -- REGION
  refine wp_region_held_drew (S := fun W => W.cell? ⟨p, 0, none⟩ = some (.slice (some ⟨g, 0, none⟩) D.secs.length gc) ∧ (convert 43 9 (.slice (some ⟨xb, 0, none⟩) 256 xc)).run Tryz.prog W = .ok (str x) W) (by kernel_rfl) (unhide HS _ (Below.refl _ _).drew) (fun hH => ?_)
  refine wpAnyH_take (i := 0) (v := ?_) rfl (by kernel_rfl) (by kernel_rfl) (by kernel_rfl) (fun _ _ _ h => h) (Or.inl ⟨by rfl, ?_⟩) hH ?_
  rotate_left
  · rintro W ⟨hs1, hs2⟩; go_simp; rfl
  refine wpAnyH_take (i := 1) (v := ?_) rfl (by kernel_rfl) (by kernel_rfl) (by kernel_rfl) (fun _ _ _ h => h) (Or.inl ⟨by rfl, ?_⟩) hH ?_
  rotate_left
  · rintro W ⟨hs1, hs2⟩; go_simp; rfl
  refine wpAnyH_take (i := 2) (v := ?_) rfl (by kernel_rfl) (by kernel_rfl) (by kernel_rfl) (fun _ _ _ h => h) (Or.inl ⟨by rfl, ?_⟩) hH ?_
  rotate_left
  · rintro W ⟨hs1, hs2⟩; go_simp; rfl
  refine wpAnyH_take (i := 3) (v := ?_) rfl (by kernel_rfl) (by kernel_rfl) (by kernel_rfl) (fun _ _ _ h => h) (Or.inl ⟨by rfl, ?_⟩) hH ?_
  rotate_left
  · rintro W ⟨hs1, hs2⟩; go_simp; rfl
  refine wpAnyH_take (i := 4) (v := ?_) rfl (by kernel_rfl) (by kernel_rfl) (by kernel_rfl) (fun _ _ _ h => h) (Or.inl ⟨by rfl, ?_⟩) hH ?_
  rotate_left
  · rintro W ⟨hs1, hs2⟩; go_simp; rfl
  refine wpAnyH_take (i := 6) (v := ?_) rfl (by kernel_rfl) (by kernel_rfl) (by kernel_rfl) (fun _ _ _ h => h) (Or.inl ⟨by rfl, ?_⟩) hH ?_
  rotate_left
  · rintro W ⟨hs1, hs2⟩; go_simp; rfl
  refine wpAnyH_take (i := 7) (v := ?_) rfl (by kernel_rfl) (by kernel_rfl) (by kernel_rfl) (fun _ _ _ h => h) (Or.inl ⟨by rfl, ?_⟩) hH ?_
  rotate_left
  · rintro W ⟨hs1, hs2⟩; go_simp; rfl
  refine wpAnyH_take (i := 8) (v := ?_) rfl (by kernel_rfl) (by kernel_rfl) (by kernel_rfl) (fun _ _ _ h => h) (Or.inl ⟨by rfl, ?_⟩) hH ?_
  rotate_left
  · rintro W ⟨hs1, hs2⟩; go_simp; rfl
  refine wpAnyH_take (i := 9) (v := ?_) rfl (by kernel_rfl) (by kernel_rfl) (by kernel_rfl) (fun _ _ _ h => h) (Or.inl ⟨by rfl, ?_⟩) hH ?_
  rotate_left
  · rintro W ⟨hs1, hs2⟩; go_simp; rfl
  refine wpAnyH_take (i := 10) (v := ?_) rfl (by kernel_rfl) (by kernel_rfl) (by kernel_rfl) (fun _ _ _ h => h) (Or.inl ⟨by rfl, ?_⟩) hH ?_
  rotate_left
  · rintro W ⟨hs1, hs2⟩; go_simp; rfl
  refine wpAnyH_take (i := 11) (v := ?_) rfl (by kernel_rfl) (by kernel_rfl) (by kernel_rfl) (fun _ _ _ h => h) (Or.inl ⟨by rfl, ?_⟩) hH ?_
  rotate_left
  · rintro W ⟨hs1, hs2⟩; go_simp; rfl
  refine wpAnyH_take (i := 14) (v := ?_) rfl (by kernel_rfl) (by kernel_rfl) (by kernel_rfl) (fun _ _ _ h => h) (Or.inl ⟨by rfl, ?_⟩) hH ?_
  rotate_left
  · rintro W ⟨hs1, hs2⟩; go_simp; rfl
  refine wpAnyH_take (i := 15) (v := ?_) rfl (by kernel_rfl) (by kernel_rfl) (by kernel_rfl) (fun _ _ _ h => h) (Or.inl ⟨by rfl, ?_⟩) hH ?_
  rotate_left
  · rintro W ⟨hs1, hs2⟩; go_simp; rfl
  refine wpAnyH_ready (rs := [5, 12, 16]) (by kernel_rfl) (by simp) ?_
  refine (AllReadyH.cons rfl (fun K hK => ?_) (AllReadyH.cons rfl (fun K hK => ?_) (AllReadyH.cons rfl (fun K hK => ?_) AllReadyH.nil)))
  · skip
    go_simp
    refine hK.out _ _ (unhide HS _ (by repeat (first | exact Below.refl _ _ | exact unhide (by assumption) | refine Below.drew ?_ | refine Below.alloc ?_ (by first | exact unhide (by assumption) | (simp; try omega)) _))) (fun hH => ?_); clear hK K
    refine wpAnyH_ready (rs := [12, 16]) (by kernel_rfl) (by simp) ?_
    refine (AllReadyH.cons rfl (fun K hK => ?_) (AllReadyH.cons rfl (fun K hK => ?_) AllReadyH.nil))
    · skip
      go_simp
      refine hK.out _ _ (unhide HS _ (by repeat (first | exact Below.refl _ _ | exact unhide (by assumption) | refine Below.drew ?_ | refine Below.alloc ?_ (by first | exact unhide (by assumption) | (simp; try omega)) _))) (fun hH => ?_); clear hK K
      refine wpAnyH_ready (rs := [13, 16]) (by kernel_rfl) (by simp) ?_
      refine (AllReadyH.cons rfl (fun K hK => ?_) (AllReadyH.cons rfl (fun K hK => ?_) AllReadyH.nil))
      · skip
        refine step_append_lies _ rfl (.tmp 31) (.tmp 38) 53 rfl w1.heap.size 9 i0 (.string ⟨#[]⟩) 1 16 Tryz.underlying53 hi0 hz0 hz1 hz2 rfl (by decide) (.slice (some ⟨w1.heap.size, 0, none⟩) 0 0) 0 [] rfl (own_new (heap_alloc_last w1 _) (by omega)) ⟨q, 0, none⟩ (s.wait.length + 1) c (s.vals.map str) rfl (unhide HLEN) (unhide HNEWS _ (by repeat (first | exact Below.refl _ _ | exact unhide (by assumption) | refine Below.drew ?_ | refine Below.alloc ?_ (by first | exact unhide (by assumption) | (simp; try omega)) _))) (unhide HONE) (by omega) (unhide HMX).1 (unhide HMX).2.1 (by first | (simp; done) | (simp; omega)) _ rfl ?_
        intro q2 cap2 w2 hown2 hgrow2 hat2 hqlt2
        simp only [Nat.zero_add, List.nil_append] at hown2 ⊢
        have B2 : Hid (Below w1.heap.size w1 w2) := Below.grown (w := (w1.alloc (.cells #[] 9)).drew) (by repeat (first | exact Below.refl _ _ | exact unhide (by assumption) | refine Below.drew ?_ | refine Below.alloc ?_ (by first | exact unhide (by assumption) | (simp; try omega)) _)) hgrow2 (by first | (simp; done) | (simp; omega)) (fun k hk => by simp [Value.ownBlock] at hk; omega)
        have hs2 : Hid (w1.heap.size ≤ w2.heap.size) := (unhide B2).size
        have HO2 := hide hown2
        clear hown2 hgrow2 hat2 hqlt2
        refine hK.out _ _ (unhide HS _ (unhide B2)) (fun hH => ?_); clear hK K
        refine wpAnyH_ready (rs := [16]) (by kernel_rfl) (by simp) ?_
        refine (AllReadyH.cons rfl (fun K hK => ?_) AllReadyH.nil)
        · skip
          go_simp
          refine hK.out _ _ (unhide HS _ (by repeat (first | exact Below.refl _ _ | exact unhide (by assumption) | refine Below.drew ?_ | refine Below.alloc ?_ (by first | exact unhide (by assumption) | (simp; try omega)) _))) (fun hH => ?_); clear hK K
          refine wpAnyH_ready (rs := [17]) (by kernel_rfl) (by simp) ?_
          refine (AllReadyH.cons rfl (fun K hK => ?_) AllReadyH.nil)
          · skip
            refine step_append_lies _ rfl (.tmp 39) (.tmp 42) 53 rfl w1.heap.size 9 i0 (.string ⟨#[]⟩) 1 16 Tryz.underlying53 hi0 hz0 hz1 hz2 rfl (by decide) (.slice (some ⟨q2, 0, none⟩) (s.wait.length + 1) cap2) (s.wait.length + 1) (s.vals.map str) rfl (own_below (unhide HO2) ((Below.refl _ _).alloc (Nat.le_refl _) _)) ⟨w2.heap.size, 0, none⟩ 1 1 [str x] rfl rfl (World.news_of_block (heap_alloc_last w2 _)) (by intro u hu; simp at hu; subst hu; rfl) (by decide) (unhide HMX).2.2.1 (unhide HMX).2.2.2 (by first | exact unhide hs2 | (simp; have := unhide hs2; omega)) _ rfl ?_
            intro q3 cap3 w3 hown3 hgrow3 hat3 hqlt3
            have B3 : Hid (Below w1.heap.size w1 w3) := Below.grown (w := (w2.alloc (.cells #[str x] 9))) (by repeat (first | exact Below.refl _ _ | exact unhide (by assumption) | refine Below.drew ?_ | refine Below.alloc ?_ (by first | exact unhide (by assumption) | (simp; try omega)) _)) hgrow3 (by first | exact unhide hs2 | (simp; have := unhide hs2; omega)) (fun k hk => by simp [Value.ownBlock] at hk; have := ((unhide HO2).lt q2 rfl).1; omega)
            have HO3 := hide hown3
            have k1 : w3.cell? ⟨g, i, none⟩ = some (.slice (some ⟨q, 0, none⟩) (s.wait.length + 1) c) := ((unhide B3).cell (p := ⟨g, i, none⟩) (unhide HGL)).trans c1
            have k2 : w3.frozen? ⟨g, i, none⟩ = false := ((unhide B3).frozen (p := ⟨g, i, none⟩) (unhide HGL)).trans f1
            clear hown3 hgrow3 hat3 hqlt3
            refine hK.out _ _ (unhide HS _ (unhide B3)) (fun hH => ?_); clear hK K
            refine wpAnyH_take (i := 18) (v := ?_) rfl (by kernel_rfl) (by kernel_rfl) (by kernel_rfl) (fun _ _ _ h => h) (Or.inl ⟨by rfl, ?_⟩) hH ?_
            rotate_left
            · rintro W ⟨hs1, hs2⟩; go_simp; rfl
            refine wpAnyH_ready (rs := [19]) (by kernel_rfl) (by simp) ?_
            refine AllReadyH.cons rfl (fun K hK => ?_) AllReadyH.nil
            go_simp
            refine hK.out _ _ (unhide HSF _ _ (unhide B3)) (fun hH => ?_); clear hK K
            refine wpAnyH_done (by kernel_rfl) ?_ _
            clear hH k1 k2
            go_wp2
            go_ret
            exact ⟨rfl, unhide HF w3 q3 cap3 (unhide B3) (unhide HO3)⟩
      · skip
        go_simp
        refine hK.out _ _ (unhide HS _ (by repeat (first | exact Below.refl _ _ | exact unhide (by assumption) | refine Below.drew ?_ | refine Below.alloc ?_ (by first | exact unhide (by assumption) | (simp; try omega)) _))) (fun hH => ?_); clear hK K
        refine wpAnyH_ready (rs := [13]) (by kernel_rfl) (by simp) ?_
        refine (AllReadyH.cons rfl (fun K hK => ?_) AllReadyH.nil)
        · skip
          refine step_append_lies _ rfl (.tmp 31) (.tmp 38) 53 rfl w1.heap.size 9 i0 (.string ⟨#[]⟩) 1 16 Tryz.underlying53 hi0 hz0 hz1 hz2 rfl (by decide) (.slice (some ⟨w1.heap.size, 0, none⟩) 0 0) 0 [] rfl (own_new ((Below.heap_alloc _ _ _ (by simp)).trans (heap_alloc_last w1 _)) (by omega)) ⟨q, 0, none⟩ (s.wait.length + 1) c (s.vals.map str) rfl (unhide HLEN) (unhide HNEWS _ (by repeat (first | exact Below.refl _ _ | exact unhide (by assumption) | refine Below.drew ?_ | refine Below.alloc ?_ (by first | exact unhide (by assumption) | (simp; try omega)) _))) (unhide HONE) (by omega) (unhide HMX).1 (unhide HMX).2.1 (by first | (simp; done) | (simp; omega)) _ rfl ?_
          intro q2 cap2 w2 hown2 hgrow2 hat2 hqlt2
          simp only [Nat.zero_add, List.nil_append] at hown2 ⊢
          have B2 : Hid (Below w1.heap.size w1 w2) := Below.grown (w := ((w1.alloc (.cells #[] 9)).alloc (.cells #[str x] 9)).drew) (by repeat (first | exact Below.refl _ _ | exact unhide (by assumption) | refine Below.drew ?_ | refine Below.alloc ?_ (by first | exact unhide (by assumption) | (simp; try omega)) _)) hgrow2 (by first | (simp; done) | (simp; omega)) (fun k hk => by simp [Value.ownBlock] at hk; omega)
          have hs2 : Hid (w1.heap.size ≤ w2.heap.size) := (unhide B2).size
          have HO2 := hide hown2
          have HX2 : Hid (w2.heap[w1.heap.size + 1]? = some (.cells #[str x] 9 (0, 0))) := (hgrow2.block (w1.heap.size + 1) (by first | (simp; done) | (simp; omega)) (by simp [Value.ownBlock]; try omega)).trans (heap_alloc2_new w1 _ _)
          clear hown2 hgrow2 hat2 hqlt2
          refine hK.out _ _ (unhide HS _ (unhide B2)) (fun hH => ?_); clear hK K
          refine wpAnyH_ready (rs := [17]) (by kernel_rfl) (by simp) ?_
          refine (AllReadyH.cons rfl (fun K hK => ?_) AllReadyH.nil)
          · skip
            refine step_append_lies _ rfl (.tmp 39) (.tmp 42) 53 rfl w1.heap.size 9 i0 (.string ⟨#[]⟩) 1 16 Tryz.underlying53 hi0 hz0 hz1 hz2 rfl (by decide) (.slice (some ⟨q2, 0, none⟩) (s.wait.length + 1) cap2) (s.wait.length + 1) (s.vals.map str) rfl (unhide HO2) ⟨w1.heap.size + 1, 0, none⟩ 1 1 [str x] rfl rfl (World.news_of_block (unhide HX2)) (by intro u hu; simp at hu; subst hu; rfl) (by decide) (unhide HMX).2.2.1 (unhide HMX).2.2.2 (by first | exact unhide hs2 | (simp; have := unhide hs2; omega)) _ rfl ?_
            intro q3 cap3 w3 hown3 hgrow3 hat3 hqlt3
            have B3 : Hid (Below w1.heap.size w1 w3) := Below.grown (w := w2) (by repeat (first | exact Below.refl _ _ | exact unhide (by assumption) | refine Below.drew ?_ | refine Below.alloc ?_ (by first | exact unhide (by assumption) | (simp; try omega)) _)) hgrow3 (by first | exact unhide hs2 | (simp; have := unhide hs2; omega)) (fun k hk => by simp [Value.ownBlock] at hk; have := ((unhide HO2).lt q2 rfl).1; omega)
            have HO3 := hide hown3
            have k1 : w3.cell? ⟨g, i, none⟩ = some (.slice (some ⟨q, 0, none⟩) (s.wait.length + 1) c) := ((unhide B3).cell (p := ⟨g, i, none⟩) (unhide HGL)).trans c1
            have k2 : w3.frozen? ⟨g, i, none⟩ = false := ((unhide B3).frozen (p := ⟨g, i, none⟩) (unhide HGL)).trans f1
            clear hown3 hgrow3 hat3 hqlt3
            refine hK.out _ _ (unhide HS _ (unhide B3)) (fun hH => ?_); clear hK K
            refine wpAnyH_take (i := 18) (v := ?_) rfl (by kernel_rfl) (by kernel_rfl) (by kernel_rfl) (fun _ _ _ h => h) (Or.inl ⟨by rfl, ?_⟩) hH ?_
            rotate_left
            · rintro W ⟨hs1, hs2⟩; go_simp; rfl
            refine wpAnyH_ready (rs := [19]) (by kernel_rfl) (by simp) ?_
            refine AllReadyH.cons rfl (fun K hK => ?_) AllReadyH.nil
            go_simp
            refine hK.out _ _ (unhide HSF _ _ (unhide B3)) (fun hH => ?_); clear hK K
            refine wpAnyH_done (by kernel_rfl) ?_ _
            clear hH k1 k2
            go_wp2
            go_ret
            exact ⟨rfl, unhide HF w3 q3 cap3 (unhide B3) (unhide HO3)⟩
    · skip
      go_simp
      refine hK.out _ _ (unhide HS _ (by repeat (first | exact Below.refl _ _ | exact unhide (by assumption) | refine Below.drew ?_ | refine Below.alloc ?_ (by first | exact unhide (by assumption) | (simp; try omega)) _))) (fun hH => ?_); clear hK K
      refine wpAnyH_ready (rs := [12]) (by kernel_rfl) (by simp) ?_
      refine (AllReadyH.cons rfl (fun K hK => ?_) AllReadyH.nil)
      · skip
        go_simp
        refine hK.out _ _ (unhide HS _ (by repeat (first | exact Below.refl _ _ | exact unhide (by assumption) | refine Below.drew ?_ | refine Below.alloc ?_ (by first | exact unhide (by assumption) | (simp; try omega)) _))) (fun hH => ?_); clear hK K
        refine wpAnyH_ready (rs := [13]) (by kernel_rfl) (by simp) ?_
        refine (AllReadyH.cons rfl (fun K hK => ?_) AllReadyH.nil)
        · skip
          refine step_append_lies _ rfl (.tmp 31) (.tmp 38) 53 rfl w1.heap.size 9 i0 (.string ⟨#[]⟩) 1 16 Tryz.underlying53 hi0 hz0 hz1 hz2 rfl (by decide) (.slice (some ⟨w1.heap.size, 0, none⟩) 0 0) 0 [] rfl (own_new ((Below.heap_alloc _ _ _ (by simp)).trans (heap_alloc_last w1 _)) (by omega)) ⟨q, 0, none⟩ (s.wait.length + 1) c (s.vals.map str) rfl (unhide HLEN) (unhide HNEWS _ (by repeat (first | exact Below.refl _ _ | exact unhide (by assumption) | refine Below.drew ?_ | refine Below.alloc ?_ (by first | exact unhide (by assumption) | (simp; try omega)) _))) (unhide HONE) (by omega) (unhide HMX).1 (unhide HMX).2.1 (by first | (simp; done) | (simp; omega)) _ rfl ?_
          intro q2 cap2 w2 hown2 hgrow2 hat2 hqlt2
          simp only [Nat.zero_add, List.nil_append] at hown2 ⊢
          have B2 : Hid (Below w1.heap.size w1 w2) := Below.grown (w := ((w1.alloc (.cells #[] 9)).alloc (.cells #[str x] 9)).drew) (by repeat (first | exact Below.refl _ _ | exact unhide (by assumption) | refine Below.drew ?_ | refine Below.alloc ?_ (by first | exact unhide (by assumption) | (simp; try omega)) _)) hgrow2 (by first | (simp; done) | (simp; omega)) (fun k hk => by simp [Value.ownBlock] at hk; omega)
          have hs2 : Hid (w1.heap.size ≤ w2.heap.size) := (unhide B2).size
          have HO2 := hide hown2
          have HX2 : Hid (w2.heap[w1.heap.size + 1]? = some (.cells #[str x] 9 (0, 0))) := (hgrow2.block (w1.heap.size + 1) (by first | (simp; done) | (simp; omega)) (by simp [Value.ownBlock]; try omega)).trans (heap_alloc2_new w1 _ _)
          clear hown2 hgrow2 hat2 hqlt2
          refine hK.out _ _ (unhide HS _ (unhide B2)) (fun hH => ?_); clear hK K
          refine wpAnyH_ready (rs := [17]) (by kernel_rfl) (by simp) ?_
          refine (AllReadyH.cons rfl (fun K hK => ?_) AllReadyH.nil)
          · skip
            refine step_append_lies _ rfl (.tmp 39) (.tmp 42) 53 rfl w1.heap.size 9 i0 (.string ⟨#[]⟩) 1 16 Tryz.underlying53 hi0 hz0 hz1 hz2 rfl (by decide) (.slice (some ⟨q2, 0, none⟩) (s.wait.length + 1) cap2) (s.wait.length + 1) (s.vals.map str) rfl (unhide HO2) ⟨w1.heap.size + 1, 0, none⟩ 1 1 [str x] rfl rfl (World.news_of_block (unhide HX2)) (by intro u hu; simp at hu; subst hu; rfl) (by decide) (unhide HMX).2.2.1 (unhide HMX).2.2.2 (by first | exact unhide hs2 | (simp; have := unhide hs2; omega)) _ rfl ?_
            intro q3 cap3 w3 hown3 hgrow3 hat3 hqlt3
            have B3 : Hid (Below w1.heap.size w1 w3) := Below.grown (w := w2) (by repeat (first | exact Below.refl _ _ | exact unhide (by assumption) | refine Below.drew ?_ | refine Below.alloc ?_ (by first | exact unhide (by assumption) | (simp; try omega)) _)) hgrow3 (by first | exact unhide hs2 | (simp; have := unhide hs2; omega)) (fun k hk => by simp [Value.ownBlock] at hk; have := ((unhide HO2).lt q2 rfl).1; omega)
            have HO3 := hide hown3
            have k1 : w3.cell? ⟨g, i, none⟩ = some (.slice (some ⟨q, 0, none⟩) (s.wait.length + 1) c) := ((unhide B3).cell (p := ⟨g, i, none⟩) (unhide HGL)).trans c1
            have k2 : w3.frozen? ⟨g, i, none⟩ = false := ((unhide B3).frozen (p := ⟨g, i, none⟩) (unhide HGL)).trans f1
            clear hown3 hgrow3 hat3 hqlt3
            refine hK.out _ _ (unhide HS _ (unhide B3)) (fun hH => ?_); clear hK K
            refine wpAnyH_take (i := 18) (v := ?_) rfl (by kernel_rfl) (by kernel_rfl) (by kernel_rfl) (fun _ _ _ h => h) (Or.inl ⟨by rfl, ?_⟩) hH ?_
            rotate_left
            · rintro W ⟨hs1, hs2⟩; go_simp; rfl
            refine wpAnyH_ready (rs := [19]) (by kernel_rfl) (by simp) ?_
            refine AllReadyH.cons rfl (fun K hK => ?_) AllReadyH.nil
            go_simp
            refine hK.out _ _ (unhide HSF _ _ (unhide B3)) (fun hH => ?_); clear hK K
            refine wpAnyH_done (by kernel_rfl) ?_ _
            clear hH k1 k2
            go_wp2
            go_ret
            exact ⟨rfl, unhide HF w3 q3 cap3 (unhide B3) (unhide HO3)⟩
  · skip
    go_simp
    refine hK.out _ _ (unhide HS _ (by repeat (first | exact Below.refl _ _ | exact unhide (by assumption) | refine Below.drew ?_ | refine Below.alloc ?_ (by first | exact unhide (by assumption) | (simp; try omega)) _))) (fun hH => ?_); clear hK K
    refine wpAnyH_ready (rs := [5, 16]) (by kernel_rfl) (by simp) ?_
    refine (AllReadyH.cons rfl (fun K hK => ?_) (AllReadyH.cons rfl (fun K hK => ?_) AllReadyH.nil))
    · skip
      go_simp
      refine hK.out _ _ (unhide HS _ (by repeat (first | exact Below.refl _ _ | exact unhide (by assumption) | refine Below.drew ?_ | refine Below.alloc ?_ (by first | exact unhide (by assumption) | (simp; try omega)) _))) (fun hH => ?_); clear hK K
      refine wpAnyH_ready (rs := [13, 16]) (by kernel_rfl) (by simp) ?_
      refine (AllReadyH.cons rfl (fun K hK => ?_) (AllReadyH.cons rfl (fun K hK => ?_) AllReadyH.nil))
      · skip
        refine step_append_lies _ rfl (.tmp 31) (.tmp 38) 53 rfl w1.heap.size 9 i0 (.string ⟨#[]⟩) 1 16 Tryz.underlying53 hi0 hz0 hz1 hz2 rfl (by decide) (.slice (some ⟨w1.heap.size, 0, none⟩) 0 0) 0 [] rfl (own_new (heap_alloc_last w1 _) (by omega)) ⟨q, 0, none⟩ (s.wait.length + 1) c (s.vals.map str) rfl (unhide HLEN) (unhide HNEWS _ (by repeat (first | exact Below.refl _ _ | exact unhide (by assumption) | refine Below.drew ?_ | refine Below.alloc ?_ (by first | exact unhide (by assumption) | (simp; try omega)) _))) (unhide HONE) (by omega) (unhide HMX).1 (unhide HMX).2.1 (by first | (simp; done) | (simp; omega)) _ rfl ?_
        intro q2 cap2 w2 hown2 hgrow2 hat2 hqlt2
        simp only [Nat.zero_add, List.nil_append] at hown2 ⊢
        have B2 : Hid (Below w1.heap.size w1 w2) := Below.grown (w := (w1.alloc (.cells #[] 9)).drew) (by repeat (first | exact Below.refl _ _ | exact unhide (by assumption) | refine Below.drew ?_ | refine Below.alloc ?_ (by first | exact unhide (by assumption) | (simp; try omega)) _)) hgrow2 (by first | (simp; done) | (simp; omega)) (fun k hk => by simp [Value.ownBlock] at hk; omega)
        have hs2 : Hid (w1.heap.size ≤ w2.heap.size) := (unhide B2).size
        have HO2 := hide hown2
        clear hown2 hgrow2 hat2 hqlt2
        refine hK.out _ _ (unhide HS _ (unhide B2)) (fun hH => ?_); clear hK K
        refine wpAnyH_ready (rs := [16]) (by kernel_rfl) (by simp) ?_
        refine (AllReadyH.cons rfl (fun K hK => ?_) AllReadyH.nil)
        · skip
          go_simp
          refine hK.out _ _ (unhide HS _ (by repeat (first | exact Below.refl _ _ | exact unhide (by assumption) | refine Below.drew ?_ | refine Below.alloc ?_ (by first | exact unhide (by assumption) | (simp; try omega)) _))) (fun hH => ?_); clear hK K
          refine wpAnyH_ready (rs := [17]) (by kernel_rfl) (by simp) ?_
          refine (AllReadyH.cons rfl (fun K hK => ?_) AllReadyH.nil)
          · skip
            refine step_append_lies _ rfl (.tmp 39) (.tmp 42) 53 rfl w1.heap.size 9 i0 (.string ⟨#[]⟩) 1 16 Tryz.underlying53 hi0 hz0 hz1 hz2 rfl (by decide) (.slice (some ⟨q2, 0, none⟩) (s.wait.length + 1) cap2) (s.wait.length + 1) (s.vals.map str) rfl (own_below (unhide HO2) ((Below.refl _ _).alloc (Nat.le_refl _) _)) ⟨w2.heap.size, 0, none⟩ 1 1 [str x] rfl rfl (World.news_of_block (heap_alloc_last w2 _)) (by intro u hu; simp at hu; subst hu; rfl) (by decide) (unhide HMX).2.2.1 (unhide HMX).2.2.2 (by first | exact unhide hs2 | (simp; have := unhide hs2; omega)) _ rfl ?_
            intro q3 cap3 w3 hown3 hgrow3 hat3 hqlt3
            have B3 : Hid (Below w1.heap.size w1 w3) := Below.grown (w := (w2.alloc (.cells #[str x] 9))) (by repeat (first | exact Below.refl _ _ | exact unhide (by assumption) | refine Below.drew ?_ | refine Below.alloc ?_ (by first | exact unhide (by assumption) | (simp; try omega)) _)) hgrow3 (by first | exact unhide hs2 | (simp; have := unhide hs2; omega)) (fun k hk => by simp [Value.ownBlock] at hk; have := ((unhide HO2).lt q2 rfl).1; omega)
            have HO3 := hide hown3
            have k1 : w3.cell? ⟨g, i, none⟩ = some (.slice (some ⟨q, 0, none⟩) (s.wait.length + 1) c) := ((unhide B3).cell (p := ⟨g, i, none⟩) (unhide HGL)).trans c1
            have k2 : w3.frozen? ⟨g, i, none⟩ = false := ((unhide B3).frozen (p := ⟨g, i, none⟩) (unhide HGL)).trans f1
            clear hown3 hgrow3 hat3 hqlt3
            refine hK.out _ _ (unhide HS _ (unhide B3)) (fun hH => ?_); clear hK K
            refine wpAnyH_take (i := 18) (v := ?_) rfl (by kernel_rfl) (by kernel_rfl) (by kernel_rfl) (fun _ _ _ h => h) (Or.inl ⟨by rfl, ?_⟩) hH ?_
            rotate_left
            · rintro W ⟨hs1, hs2⟩; go_simp; rfl
            refine wpAnyH_ready (rs := [19]) (by kernel_rfl) (by simp) ?_
            refine AllReadyH.cons rfl (fun K hK => ?_) AllReadyH.nil
            go_simp
            refine hK.out _ _ (unhide HSF _ _ (unhide B3)) (fun hH => ?_); clear hK K
            refine wpAnyH_done (by kernel_rfl) ?_ _
            clear hH k1 k2
            go_wp2
            go_ret
            exact ⟨rfl, unhide HF w3 q3 cap3 (unhide B3) (unhide HO3)⟩
      · skip
        go_simp
        refine hK.out _ _ (unhide HS _ (by repeat (first | exact Below.refl _ _ | exact unhide (by assumption) | refine Below.drew ?_ | refine Below.alloc ?_ (by first | exact unhide (by assumption) | (simp; try omega)) _))) (fun hH => ?_); clear hK K
        refine wpAnyH_ready (rs := [13]) (by kernel_rfl) (by simp) ?_
        refine (AllReadyH.cons rfl (fun K hK => ?_) AllReadyH.nil)
        · skip
          refine step_append_lies _ rfl (.tmp 31) (.tmp 38) 53 rfl w1.heap.size 9 i0 (.string ⟨#[]⟩) 1 16 Tryz.underlying53 hi0 hz0 hz1 hz2 rfl (by decide) (.slice (some ⟨w1.heap.size, 0, none⟩) 0 0) 0 [] rfl (own_new ((Below.heap_alloc _ _ _ (by simp)).trans (heap_alloc_last w1 _)) (by omega)) ⟨q, 0, none⟩ (s.wait.length + 1) c (s.vals.map str) rfl (unhide HLEN) (unhide HNEWS _ (by repeat (first | exact Below.refl _ _ | exact unhide (by assumption) | refine Below.drew ?_ | refine Below.alloc ?_ (by first | exact unhide (by assumption) | (simp; try omega)) _))) (unhide HONE) (by omega) (unhide HMX).1 (unhide HMX).2.1 (by first | (simp; done) | (simp; omega)) _ rfl ?_
          intro q2 cap2 w2 hown2 hgrow2 hat2 hqlt2
          simp only [Nat.zero_add, List.nil_append] at hown2 ⊢
          have B2 : Hid (Below w1.heap.size w1 w2) := Below.grown (w := ((w1.alloc (.cells #[] 9)).alloc (.cells #[str x] 9)).drew) (by repeat (first | exact Below.refl _ _ | exact unhide (by assumption) | refine Below.drew ?_ | refine Below.alloc ?_ (by first | exact unhide (by assumption) | (simp; try omega)) _)) hgrow2 (by first | (simp; done) | (simp; omega)) (fun k hk => by simp [Value.ownBlock] at hk; omega)
          have hs2 : Hid (w1.heap.size ≤ w2.heap.size) := (unhide B2).size
          have HO2 := hide hown2
          have HX2 : Hid (w2.heap[w1.heap.size + 1]? = some (.cells #[str x] 9 (0, 0))) := (hgrow2.block (w1.heap.size + 1) (by first | (simp; done) | (simp; omega)) (by simp [Value.ownBlock]; try omega)).trans (heap_alloc2_new w1 _ _)
          clear hown2 hgrow2 hat2 hqlt2
          refine hK.out _ _ (unhide HS _ (unhide B2)) (fun hH => ?_); clear hK K
          refine wpAnyH_ready (rs := [17]) (by kernel_rfl) (by simp) ?_
          refine (AllReadyH.cons rfl (fun K hK => ?_) AllReadyH.nil)
          · skip
            refine step_append_lies _ rfl (.tmp 39) (.tmp 42) 53 rfl w1.heap.size 9 i0 (.string ⟨#[]⟩) 1 16 Tryz.underlying53 hi0 hz0 hz1 hz2 rfl (by decide) (.slice (some ⟨q2, 0, none⟩) (s.wait.length + 1) cap2) (s.wait.length + 1) (s.vals.map str) rfl (unhide HO2) ⟨w1.heap.size + 1, 0, none⟩ 1 1 [str x] rfl rfl (World.news_of_block (unhide HX2)) (by intro u hu; simp at hu; subst hu; rfl) (by decide) (unhide HMX).2.2.1 (unhide HMX).2.2.2 (by first | exact unhide hs2 | (simp; have := unhide hs2; omega)) _ rfl ?_
            intro q3 cap3 w3 hown3 hgrow3 hat3 hqlt3
            have B3 : Hid (Below w1.heap.size w1 w3) := Below.grown (w := w2) (by repeat (first | exact Below.refl _ _ | exact unhide (by assumption) | refine Below.drew ?_ | refine Below.alloc ?_ (by first | exact unhide (by assumption) | (simp; try omega)) _)) hgrow3 (by first | exact unhide hs2 | (simp; have := unhide hs2; omega)) (fun k hk => by simp [Value.ownBlock] at hk; have := ((unhide HO2).lt q2 rfl).1; omega)
            have HO3 := hide hown3
            have k1 : w3.cell? ⟨g, i, none⟩ = some (.slice (some ⟨q, 0, none⟩) (s.wait.length + 1) c) := ((unhide B3).cell (p := ⟨g, i, none⟩) (unhide HGL)).trans c1
            have k2 : w3.frozen? ⟨g, i, none⟩ = false := ((unhide B3).frozen (p := ⟨g, i, none⟩) (unhide HGL)).trans f1
            clear hown3 hgrow3 hat3 hqlt3
            refine hK.out _ _ (unhide HS _ (unhide B3)) (fun hH => ?_); clear hK K
            refine wpAnyH_take (i := 18) (v := ?_) rfl (by kernel_rfl) (by kernel_rfl) (by kernel_rfl) (fun _ _ _ h => h) (Or.inl ⟨by rfl, ?_⟩) hH ?_
            rotate_left
            · rintro W ⟨hs1, hs2⟩; go_simp; rfl
            refine wpAnyH_ready (rs := [19]) (by kernel_rfl) (by simp) ?_
            refine AllReadyH.cons rfl (fun K hK => ?_) AllReadyH.nil
            go_simp
            refine hK.out _ _ (unhide HSF _ _ (unhide B3)) (fun hH => ?_); clear hK K
            refine wpAnyH_done (by kernel_rfl) ?_ _
            clear hH k1 k2
            go_wp2
            go_ret
            exact ⟨rfl, unhide HF w3 q3 cap3 (unhide B3) (unhide HO3)⟩
    · skip
      go_simp
      refine hK.out _ _ (unhide HS _ (by repeat (first | exact Below.refl _ _ | exact unhide (by assumption) | refine Below.drew ?_ | refine Below.alloc ?_ (by first | exact unhide (by assumption) | (simp; try omega)) _))) (fun hH => ?_); clear hK K
      refine wpAnyH_ready (rs := [5]) (by kernel_rfl) (by simp) ?_
      refine (AllReadyH.cons rfl (fun K hK => ?_) AllReadyH.nil)
      · skip
        go_simp
        refine hK.out _ _ (unhide HS _ (by repeat (first | exact Below.refl _ _ | exact unhide (by assumption) | refine Below.drew ?_ | refine Below.alloc ?_ (by first | exact unhide (by assumption) | (simp; try omega)) _))) (fun hH => ?_); clear hK K
        refine wpAnyH_ready (rs := [13]) (by kernel_rfl) (by simp) ?_
        refine (AllReadyH.cons rfl (fun K hK => ?_) AllReadyH.nil)
        · skip
          refine step_append_lies _ rfl (.tmp 31) (.tmp 38) 53 rfl w1.heap.size 9 i0 (.string ⟨#[]⟩) 1 16 Tryz.underlying53 hi0 hz0 hz1 hz2 rfl (by decide) (.slice (some ⟨w1.heap.size + 1, 0, none⟩) 0 0) 0 [] rfl (own_new (heap_alloc2_new w1 _ _) (by omega)) ⟨q, 0, none⟩ (s.wait.length + 1) c (s.vals.map str) rfl (unhide HLEN) (unhide HNEWS _ (by repeat (first | exact Below.refl _ _ | exact unhide (by assumption) | refine Below.drew ?_ | refine Below.alloc ?_ (by first | exact unhide (by assumption) | (simp; try omega)) _))) (unhide HONE) (by omega) (unhide HMX).1 (unhide HMX).2.1 (by first | (simp; done) | (simp; omega)) _ rfl ?_
          intro q2 cap2 w2 hown2 hgrow2 hat2 hqlt2
          simp only [Nat.zero_add, List.nil_append] at hown2 ⊢
          have B2 : Hid (Below w1.heap.size w1 w2) := Below.grown (w := ((w1.alloc (.cells #[str x] 9)).alloc (.cells #[] 9)).drew) (by repeat (first | exact Below.refl _ _ | exact unhide (by assumption) | refine Below.drew ?_ | refine Below.alloc ?_ (by first | exact unhide (by assumption) | (simp; try omega)) _)) hgrow2 (by first | (simp; done) | (simp; omega)) (fun k hk => by simp [Value.ownBlock] at hk; omega)
          have hs2 : Hid (w1.heap.size ≤ w2.heap.size) := (unhide B2).size
          have HO2 := hide hown2
          have HX2 : Hid (w2.heap[w1.heap.size]? = some (.cells #[str x] 9 (0, 0))) := (hgrow2.block (w1.heap.size) (by first | (simp; done) | (simp; omega)) (by simp [Value.ownBlock]; try omega)).trans ((Below.heap_alloc _ _ _ (by simp)).trans (heap_alloc_last w1 _))
          clear hown2 hgrow2 hat2 hqlt2
          refine hK.out _ _ (unhide HS _ (unhide B2)) (fun hH => ?_); clear hK K
          refine wpAnyH_ready (rs := [17]) (by kernel_rfl) (by simp) ?_
          refine (AllReadyH.cons rfl (fun K hK => ?_) AllReadyH.nil)
          · skip
            refine step_append_lies _ rfl (.tmp 39) (.tmp 42) 53 rfl w1.heap.size 9 i0 (.string ⟨#[]⟩) 1 16 Tryz.underlying53 hi0 hz0 hz1 hz2 rfl (by decide) (.slice (some ⟨q2, 0, none⟩) (s.wait.length + 1) cap2) (s.wait.length + 1) (s.vals.map str) rfl (unhide HO2) ⟨w1.heap.size, 0, none⟩ 1 1 [str x] rfl rfl (World.news_of_block (unhide HX2)) (by intro u hu; simp at hu; subst hu; rfl) (by decide) (unhide HMX).2.2.1 (unhide HMX).2.2.2 (by first | exact unhide hs2 | (simp; have := unhide hs2; omega)) _ rfl ?_
            intro q3 cap3 w3 hown3 hgrow3 hat3 hqlt3
            have B3 : Hid (Below w1.heap.size w1 w3) := Below.grown (w := w2) (by repeat (first | exact Below.refl _ _ | exact unhide (by assumption) | refine Below.drew ?_ | refine Below.alloc ?_ (by first | exact unhide (by assumption) | (simp; try omega)) _)) hgrow3 (by first | exact unhide hs2 | (simp; have := unhide hs2; omega)) (fun k hk => by simp [Value.ownBlock] at hk; have := ((unhide HO2).lt q2 rfl).1; omega)
            have HO3 := hide hown3
            have k1 : w3.cell? ⟨g, i, none⟩ = some (.slice (some ⟨q, 0, none⟩) (s.wait.length + 1) c) := ((unhide B3).cell (p := ⟨g, i, none⟩) (unhide HGL)).trans c1
            have k2 : w3.frozen? ⟨g, i, none⟩ = false := ((unhide B3).frozen (p := ⟨g, i, none⟩) (unhide HGL)).trans f1
            clear hown3 hgrow3 hat3 hqlt3
            refine hK.out _ _ (unhide HS _ (unhide B3)) (fun hH => ?_); clear hK K
            refine wpAnyH_take (i := 18) (v := ?_) rfl (by kernel_rfl) (by kernel_rfl) (by kernel_rfl) (fun _ _ _ h => h) (Or.inl ⟨by rfl, ?_⟩) hH ?_
            rotate_left
            · rintro W ⟨hs1, hs2⟩; go_simp; rfl
            refine wpAnyH_ready (rs := [19]) (by kernel_rfl) (by simp) ?_
            refine AllReadyH.cons rfl (fun K hK => ?_) AllReadyH.nil
            go_simp
            refine hK.out _ _ (unhide HSF _ _ (unhide B3)) (fun hH => ?_); clear hK K
            refine wpAnyH_done (by kernel_rfl) ?_ _
            clear hH k1 k2
            go_wp2
            go_ret
            exact ⟨rfl, unhide HF w3 q3 cap3 (unhide B3) (unhide HO3)⟩
  · skip
    go_simp
    refine hK.out _ _ (unhide HS _ (by repeat (first | exact Below.refl _ _ | exact unhide (by assumption) | refine Below.drew ?_ | refine Below.alloc ?_ (by first | exact unhide (by assumption) | (simp; try omega)) _))) (fun hH => ?_); clear hK K
    refine wpAnyH_ready (rs := [5, 12]) (by kernel_rfl) (by simp) ?_
    refine (AllReadyH.cons rfl (fun K hK => ?_) (AllReadyH.cons rfl (fun K hK => ?_) AllReadyH.nil))
    · skip
      go_simp
      refine hK.out _ _ (unhide HS _ (by repeat (first | exact Below.refl _ _ | exact unhide (by assumption) | refine Below.drew ?_ | refine Below.alloc ?_ (by first | exact unhide (by assumption) | (simp; try omega)) _))) (fun hH => ?_); clear hK K
      refine wpAnyH_ready (rs := [12]) (by kernel_rfl) (by simp) ?_
      refine (AllReadyH.cons rfl (fun K hK => ?_) AllReadyH.nil)
      · skip
        go_simp
        refine hK.out _ _ (unhide HS _ (by repeat (first | exact Below.refl _ _ | exact unhide (by assumption) | refine Below.drew ?_ | refine Below.alloc ?_ (by first | exact unhide (by assumption) | (simp; try omega)) _))) (fun hH => ?_); clear hK K
        refine wpAnyH_ready (rs := [13]) (by kernel_rfl) (by simp) ?_
        refine (AllReadyH.cons rfl (fun K hK => ?_) AllReadyH.nil)
        · skip
          refine step_append_lies _ rfl (.tmp 31) (.tmp 38) 53 rfl w1.heap.size 9 i0 (.string ⟨#[]⟩) 1 16 Tryz.underlying53 hi0 hz0 hz1 hz2 rfl (by decide) (.slice (some ⟨w1.heap.size + 1, 0, none⟩) 0 0) 0 [] rfl (own_new (heap_alloc2_new w1 _ _) (by omega)) ⟨q, 0, none⟩ (s.wait.length + 1) c (s.vals.map str) rfl (unhide HLEN) (unhide HNEWS _ (by repeat (first | exact Below.refl _ _ | exact unhide (by assumption) | refine Below.drew ?_ | refine Below.alloc ?_ (by first | exact unhide (by assumption) | (simp; try omega)) _))) (unhide HONE) (by omega) (unhide HMX).1 (unhide HMX).2.1 (by first | (simp; done) | (simp; omega)) _ rfl ?_
          intro q2 cap2 w2 hown2 hgrow2 hat2 hqlt2
          simp only [Nat.zero_add, List.nil_append] at hown2 ⊢
          have B2 : Hid (Below w1.heap.size w1 w2) := Below.grown (w := ((w1.alloc (.cells #[str x] 9)).alloc (.cells #[] 9)).drew) (by repeat (first | exact Below.refl _ _ | exact unhide (by assumption) | refine Below.drew ?_ | refine Below.alloc ?_ (by first | exact unhide (by assumption) | (simp; try omega)) _)) hgrow2 (by first | (simp; done) | (simp; omega)) (fun k hk => by simp [Value.ownBlock] at hk; omega)
          have hs2 : Hid (w1.heap.size ≤ w2.heap.size) := (unhide B2).size
          have HO2 := hide hown2
          have HX2 : Hid (w2.heap[w1.heap.size]? = some (.cells #[str x] 9 (0, 0))) := (hgrow2.block (w1.heap.size) (by first | (simp; done) | (simp; omega)) (by simp [Value.ownBlock]; try omega)).trans ((Below.heap_alloc _ _ _ (by simp)).trans (heap_alloc_last w1 _))
          clear hown2 hgrow2 hat2 hqlt2
          refine hK.out _ _ (unhide HS _ (unhide B2)) (fun hH => ?_); clear hK K
          refine wpAnyH_ready (rs := [17]) (by kernel_rfl) (by simp) ?_
          refine (AllReadyH.cons rfl (fun K hK => ?_) AllReadyH.nil)
          · skip
            refine step_append_lies _ rfl (.tmp 39) (.tmp 42) 53 rfl w1.heap.size 9 i0 (.string ⟨#[]⟩) 1 16 Tryz.underlying53 hi0 hz0 hz1 hz2 rfl (by decide) (.slice (some ⟨q2, 0, none⟩) (s.wait.length + 1) cap2) (s.wait.length + 1) (s.vals.map str) rfl (unhide HO2) ⟨w1.heap.size, 0, none⟩ 1 1 [str x] rfl rfl (World.news_of_block (unhide HX2)) (by intro u hu; simp at hu; subst hu; rfl) (by decide) (unhide HMX).2.2.1 (unhide HMX).2.2.2 (by first | exact unhide hs2 | (simp; have := unhide hs2; omega)) _ rfl ?_
            intro q3 cap3 w3 hown3 hgrow3 hat3 hqlt3
            have B3 : Hid (Below w1.heap.size w1 w3) := Below.grown (w := w2) (by repeat (first | exact Below.refl _ _ | exact unhide (by assumption) | refine Below.drew ?_ | refine Below.alloc ?_ (by first | exact unhide (by assumption) | (simp; try omega)) _)) hgrow3 (by first | exact unhide hs2 | (simp; have := unhide hs2; omega)) (fun k hk => by simp [Value.ownBlock] at hk; have := ((unhide HO2).lt q2 rfl).1; omega)
            have HO3 := hide hown3
            have k1 : w3.cell? ⟨g, i, none⟩ = some (.slice (some ⟨q, 0, none⟩) (s.wait.length + 1) c) := ((unhide B3).cell (p := ⟨g, i, none⟩) (unhide HGL)).trans c1
            have k2 : w3.frozen? ⟨g, i, none⟩ = false := ((unhide B3).frozen (p := ⟨g, i, none⟩) (unhide HGL)).trans f1
            clear hown3 hgrow3 hat3 hqlt3
            refine hK.out _ _ (unhide HS _ (unhide B3)) (fun hH => ?_); clear hK K
            refine wpAnyH_take (i := 18) (v := ?_) rfl (by kernel_rfl) (by kernel_rfl) (by kernel_rfl) (fun _ _ _ h => h) (Or.inl ⟨by rfl, ?_⟩) hH ?_
            rotate_left
            · rintro W ⟨hs1, hs2⟩; go_simp; rfl
            refine wpAnyH_ready (rs := [19]) (by kernel_rfl) (by simp) ?_
            refine AllReadyH.cons rfl (fun K hK => ?_) AllReadyH.nil
            go_simp
            refine hK.out _ _ (unhide HSF _ _ (unhide B3)) (fun hH => ?_); clear hK K
            refine wpAnyH_done (by kernel_rfl) ?_ _
            clear hH k1 k2
            go_wp2
            go_ret
            exact ⟨rfl, unhide HF w3 q3 cap3 (unhide B3) (unhide HO3)⟩
    · skip
      go_simp
      refine hK.out _ _ (unhide HS _ (by repeat (first | exact Below.refl _ _ | exact unhide (by assumption) | refine Below.drew ?_ | refine Below.alloc ?_ (by first | exact unhide (by assumption) | (simp; try omega)) _))) (fun hH => ?_); clear hK K
      refine wpAnyH_ready (rs := [5]) (by kernel_rfl) (by simp) ?_
      refine (AllReadyH.cons rfl (fun K hK => ?_) AllReadyH.nil)
      · skip
        go_simp
        refine hK.out _ _ (unhide HS _ (by repeat (first | exact Below.refl _ _ | exact unhide (by assumption) | refine Below.drew ?_ | refine Below.alloc ?_ (by first | exact unhide (by assumption) | (simp; try omega)) _))) (fun hH => ?_); clear hK K
        refine wpAnyH_ready (rs := [13]) (by kernel_rfl) (by simp) ?_
        refine (AllReadyH.cons rfl (fun K hK => ?_) AllReadyH.nil)
        · skip
          refine step_append_lies _ rfl (.tmp 31) (.tmp 38) 53 rfl w1.heap.size 9 i0 (.string ⟨#[]⟩) 1 16 Tryz.underlying53 hi0 hz0 hz1 hz2 rfl (by decide) (.slice (some ⟨w1.heap.size + 1, 0, none⟩) 0 0) 0 [] rfl (own_new (heap_alloc2_new w1 _ _) (by omega)) ⟨q, 0, none⟩ (s.wait.length + 1) c (s.vals.map str) rfl (unhide HLEN) (unhide HNEWS _ (by repeat (first | exact Below.refl _ _ | exact unhide (by assumption) | refine Below.drew ?_ | refine Below.alloc ?_ (by first | exact unhide (by assumption) | (simp; try omega)) _))) (unhide HONE) (by omega) (unhide HMX).1 (unhide HMX).2.1 (by first | (simp; done) | (simp; omega)) _ rfl ?_
          intro q2 cap2 w2 hown2 hgrow2 hat2 hqlt2
          simp only [Nat.zero_add, List.nil_append] at hown2 ⊢
          have B2 : Hid (Below w1.heap.size w1 w2) := Below.grown (w := ((w1.alloc (.cells #[str x] 9)).alloc (.cells #[] 9)).drew) (by repeat (first | exact Below.refl _ _ | exact unhide (by assumption) | refine Below.drew ?_ | refine Below.alloc ?_ (by first | exact unhide (by assumption) | (simp; try omega)) _)) hgrow2 (by first | (simp; done) | (simp; omega)) (fun k hk => by simp [Value.ownBlock] at hk; omega)
          have hs2 : Hid (w1.heap.size ≤ w2.heap.size) := (unhide B2).size
          have HO2 := hide hown2
          have HX2 : Hid (w2.heap[w1.heap.size]? = some (.cells #[str x] 9 (0, 0))) := (hgrow2.block (w1.heap.size) (by first | (simp; done) | (simp; omega)) (by simp [Value.ownBlock]; try omega)).trans ((Below.heap_alloc _ _ _ (by simp)).trans (heap_alloc_last w1 _))
          clear hown2 hgrow2 hat2 hqlt2
          refine hK.out _ _ (unhide HS _ (unhide B2)) (fun hH => ?_); clear hK K
          refine wpAnyH_ready (rs := [17]) (by kernel_rfl) (by simp) ?_
          refine (AllReadyH.cons rfl (fun K hK => ?_) AllReadyH.nil)
          · skip
            refine step_append_lies _ rfl (.tmp 39) (.tmp 42) 53 rfl w1.heap.size 9 i0 (.string ⟨#[]⟩) 1 16 Tryz.underlying53 hi0 hz0 hz1 hz2 rfl (by decide) (.slice (some ⟨q2, 0, none⟩) (s.wait.length + 1) cap2) (s.wait.length + 1) (s.vals.map str) rfl (unhide HO2) ⟨w1.heap.size, 0, none⟩ 1 1 [str x] rfl rfl (World.news_of_block (unhide HX2)) (by intro u hu; simp at hu; subst hu; rfl) (by decide) (unhide HMX).2.2.1 (unhide HMX).2.2.2 (by first | exact unhide hs2 | (simp; have := unhide hs2; omega)) _ rfl ?_
            intro q3 cap3 w3 hown3 hgrow3 hat3 hqlt3
            have B3 : Hid (Below w1.heap.size w1 w3) := Below.grown (w := w2) (by repeat (first | exact Below.refl _ _ | exact unhide (by assumption) | refine Below.drew ?_ | refine Below.alloc ?_ (by first | exact unhide (by assumption) | (simp; try omega)) _)) hgrow3 (by first | exact unhide hs2 | (simp; have := unhide hs2; omega)) (fun k hk => by simp [Value.ownBlock] at hk; have := ((unhide HO2).lt q2 rfl).1; omega)
            have HO3 := hide hown3
            have k1 : w3.cell? ⟨g, i, none⟩ = some (.slice (some ⟨q, 0, none⟩) (s.wait.length + 1) c) := ((unhide B3).cell (p := ⟨g, i, none⟩) (unhide HGL)).trans c1
            have k2 : w3.frozen? ⟨g, i, none⟩ = false := ((unhide B3).frozen (p := ⟨g, i, none⟩) (unhide HGL)).trans f1
            clear hown3 hgrow3 hat3 hqlt3
            refine hK.out _ _ (unhide HS _ (unhide B3)) (fun hH => ?_); clear hK K
            refine wpAnyH_take (i := 18) (v := ?_) rfl (by kernel_rfl) (by kernel_rfl) (by kernel_rfl) (fun _ _ _ h => h) (Or.inl ⟨by rfl, ?_⟩) hH ?_
            rotate_left
            · rintro W ⟨hs1, hs2⟩; go_simp; rfl
            refine wpAnyH_ready (rs := [19]) (by kernel_rfl) (by simp) ?_
            refine AllReadyH.cons rfl (fun K hK => ?_) AllReadyH.nil
            go_simp
            refine hK.out _ _ (unhide HSF _ _ (unhide B3)) (fun hH => ?_); clear hK K
            refine wpAnyH_done (by kernel_rfl) ?_ _
            clear hH k1 k2
            go_wp2
            go_ret
            exact ⟨rfl, unhide HF w3 q3 cap3 (unhide B3) (unhide HO3)⟩
  -- END

end Go.Proofs.YtfggahkimconfaaGreatDoor

/- The contracts of the document's own Barrier. -/
namespace Go.Proofs.YtfggahkimconfaaGreatDoor
open Go.RowKit
set_option linter.unusedVariables false

set_option maxRecDepth 100000 in
set_option maxHeartbeats 400000 in
theorem rBarrier_dark (w : World) (B p : Nat) (v : Value) (vals : List Value) (D : Dk) (h : RIs w B p v vals (rof D)) (hc : D.can = false) :
    Calls Tryz.prog 38 #[.pointer (some ⟨p, 0, none⟩)] w fun e w' => e = .returned (.int .i64 10) ∧ RIs w' B p v vals (rof D.moved) ∧ Fr2 B w w' := by
  have H := hide (rmove_any w B p v vals D h)
  clear h
  rw [hc] at H
  go_enter Tryz.func38, Tryz.ntmps38
  go_wp2_with fail
  refine (unhide H).mono ?_
  rintro e w1 ⟨rfl, h1, h2⟩
  have H1 := hide h1
  have H2 := hide h2
  clear h1 h2
  go_wp2
  go_ret
  exact ⟨rfl, unhide H1, unhide H2⟩

/-- The first k sectors are made sure. -/
def Dk.barTo (D : Dk) (k : Nat) : Dk := { D with secs := (D.secs.take k).map Sec.flush ++ D.secs.drop k }
theorem Dk.barTo_zero (D : Dk) : D.barTo 0 = D := by simp [Dk.barTo]
theorem Dk.barTo_len (D : Dk) (k : Nat) : (D.barTo k).secs.length = D.secs.length := by simp [Dk.barTo]; omega
theorem Dk.barTo_all (D : Dk) : (D.moved.barTo D.secs.length) = D.bar := by
  simp [Dk.barTo, Dk.bar, Dk.moved_secs]
theorem Dk.barTo_get (D : Dk) (k : Nat) (s : Sec) (h : D.secs[k]? = some s) : (D.barTo k).secs[k]? = some s := by
  have hk := (List.getElem?_eq_some_iff.1 h).1
  simp only [Dk.barTo]
  rw [List.getElem?_append_right (by simp; omega)]
  simp [h, Nat.min_eq_left (Nat.le_of_lt hk)]
theorem Dk.barTo_succ (D : Dk) (k : Nat) (s : Sec) (h : D.secs[k]? = some s) : D.barTo (k + 1) = (D.barTo k).put k s.flush := by
  obtain ⟨hk, rfl⟩ := List.getElem?_eq_some_iff.1 h
  simp only [Dk.barTo, Dk.put]
  congr 1
  rw [List.take_succ_eq_append_getElem hk, List.drop_eq_getElem_cons hk, List.set_append_right _ _ (by simp; omega)]
  simp only [List.map_append, List.length_map, List.length_take, Nat.min_eq_left (Nat.le_of_lt hk), Nat.sub_self, List.set_cons_zero, List.map_cons, List.map_nil, List.append_assoc, List.singleton_append]

structure BRel (w : World) (B p : Nat) (v : Value) (vals0 : List Value) (E : Dk) (wr : World) : Prop where
  ex : ∃ vals, RIs wr B p v vals (rof E) ∧ NewOr w vals0 vals
  fr : Fr2 B w wr

theorem BRel.next {w wr w3 : World} {B p g gc L : Nat} {vals0 : List Value} {E : Dk} (h : BRel w B p (.slice (some ⟨g, 0, none⟩) L gc) vals0 E wr) (hL : E.secs.length = L) (i : Nat) (hi : i < L) (x : List UInt8) (q : Nat) (hb : Below wr.heap.size wr w3) (hs : w3.heap[q]? = some (.cells #[str x] 9 (0, 0))) (hq : wr.heap.size ≤ q) :
    BRel w B p (.slice (some ⟨g, 0, none⟩) L gc) vals0 (E.put i ⟨x, []⟩) (w3.setCell ⟨g, i, none⟩ (.slice (some ⟨q, 0, none⟩) 1 1)) := by
  obtain ⟨vals, hr, nw⟩ := h.ex
  subst hL
  have hst : StrsAt w3 (.slice (some ⟨q, 0, none⟩) 1 1) (Sec.vals ⟨x, []⟩) := ⟨q, 1, _, rfl, hs, by simp [Sec.vals], by simp, fun j y hy => by
    match j, hy with
    | 0, hy => simp [Sec.vals] at hy; subst hy; rfl⟩
  obtain ⟨r1, r2⟩ := (hr.below hb).put g gc rfl i ⟨x, []⟩ hi _ hst
  exact ⟨⟨_, r1, nw.put i (fun k hk => by
    obtain rfl : q = k := by simpa [Value.ownBlock] using hk
    exact Nat.le_trans h.fr.below.size hq)⟩, (h.fr.trans (Fr2.of_below hb hr.bw)).trans r2⟩

theorem BRel.drew {w wr : World} {B p : Nat} {v : Value} {vals0 : List Value} {E : Dk} (h : BRel w B p v vals0 E wr) : BRel w B p v vals0 E wr.drew := by
  obtain ⟨vals, hr, nw⟩ := h.ex
  have hb := (Below.refl wr.heap.size wr).drew
  exact ⟨⟨vals, hr.below hb, nw⟩, h.fr.trans (Fr2.of_below hb hr.bw)⟩

set_option maxRecDepth 100000 in
set_option maxHeartbeats 800000 in
theorem rBarrier_ok (w : World) (B p : Nat) (v : Value) (vals : List Value) (D : Dk) (h : RIs w B p v vals (rof D)) (hc : D.can = true) (g gc : Nat) (hv : v = .slice (some ⟨g, 0, none⟩) D.secs.length gc) (hmost : D.secs.length ≤ 4096) :
    Calls Tryz.prog 38 #[.pointer (some ⟨p, 0, none⟩)] w fun e w' => e = .returned (.int .i64 0) ∧ (∃ vals', RIs w' B p v vals' (rof D.bar) ∧ NewOr w vals vals') ∧ Fr2 B w w' := by
  subst hv
  have H := hide (rmove_any w B p _ vals D h)
  clear h
  rw [hc] at H
  go_enter Tryz.func38, Tryz.ntmps38
  go_wp2_with fail
  refine (unhide H).mono ?_
  rintro e w1 ⟨rfl, h1, h2⟩
  have R0 : Hid (BRel w B p (.slice (some ⟨g, 0, none⟩) D.secs.length gc) vals (D.moved.barTo 0) w1) := ⟨⟨vals, by rw [Dk.barTo_zero]; exact h1, NewOr.refl _ _⟩, h2⟩
  clear h1 h2 H
  go_wp2
  go_loopw [3] (fun i wr => ∃ k : Nat, k ≤ D.secs.length ∧ i = .int .i64 k ∧ BRel w B p (.slice (some ⟨g, 0, none⟩) D.secs.length gc) vals (D.moved.barTo k) wr) (fun i _ => D.secs.length - (intOf i).toNat)
  case atStart => exact ⟨0, by omega, rfl, unhide R0⟩
  case round =>
    clear R0
    obtain ⟨k, hk, rfl, hR⟩ := hrel
    obtain ⟨vals1, hr, _⟩ := hR.ex
    have c0 := hr.cells.1
    by_cases hlt : k < D.secs.length
    · have hx : D.moved.secs[k]? = some D.secs[k] := by rw [Dk.moved_secs]; exact List.getElem?_eq_getElem hlt
      have hx2 := Dk.barTo_get D.moved k _ hx
      obtain ⟨_, _, q, c, hv, c1, f1, -⟩ := hr.mem k _ hx2
      injection hv with hv1 hv0 hv2
      injection hv1 with hv1
      injection hv1 with hv1
      subst hv1
      clear hv0 hv2
      have hpg : p ≠ g := fun e => hr.kinds.1 (by subst e; rfl)
      have HL := hide (fun (W : World) (hb : Below wr.heap.size wr W) => rlast_any W B p _ vals1 _ (hr.below hb) k _ hx2)
      have hL1 : (D.moved.barTo k).secs.length = D.secs.length := by rw [Dk.barTo_len, Dk.moved_secs]
      have HN := hide (fun (w3 : World) (q : Nat) (hb : Below wr.heap.size wr w3) (hs : w3.heap[q]? = some (.cells #[str (D.secs[k]).last] 9 (0, 0))) (hq : wr.heap.size ≤ q) => hR.next (w3 := w3) hL1 k hlt (D.secs[k]).last q hb hs hq)
      have hsu := Dk.barTo_succ D.moved k _ hx
      have HSU := hide hsu
      have hkl : (k : Int) < D.secs.length := by omega
      clear hR hr hx hx2 hL1 hsu
      generalize D.secs[k] = s0 at *
      have hgp : g ≠ p := fun e => hpg e.symm
      have g2 := cell_alloc c1 (.cells #[str s0.last] 9)
      have g3 : (wr.alloc (.cells #[str s0.last] 9)).frozen? ⟨g, k, none⟩ = false := by rw [World.frozen?_alloc_past _ _ _ (World.block_lt_of_cell? wr _ c1)]; exact f1
      go_wp2
      go_region_held (fun W => W.cell? ⟨p, 0, none⟩ = some (.slice (some ⟨g, 0, none⟩) D.secs.length gc)) (go_keep)
        (first
          | (go_at_call 48; refine (unhide HL _ (by repeat (first | exact Below.refl _ _ | refine Below.drew ?_))).mono ?_; rintro e w3 ⟨rfl, rfl⟩))
      all_goals
        have R : Hid (BRel w B p (.slice (some ⟨g, 0, none⟩) D.secs.length gc) vals (D.moved.barTo (k + 1)) ((wr.alloc (.cells #[str s0.last] 9)).setCell ⟨g, k, none⟩ (.slice (some ⟨wr.heap.size, 0, none⟩) 1 1)).drew.drew) := by
          rw [unhide HSU]
          exact (unhide HN _ _ ((Below.refl _ _).alloc (Nat.le_refl _) _) (heap_alloc_last wr _) (Nat.le_refl _)).drew.drew
        clear HN HL HSU g2 g3 c1 f1 hgp hpg c0
        go_wp2
        go_roundw
        case rel => exact ⟨k + 1, by omega, by go_num, unhide R⟩
        case measure => simp [intOf]; omega
    · have hk' : k = D.secs.length := by omega
      subst hk'
      have HR := hide hR
      clear hR hr
      go_wp2
      go_ret
      have := unhide HR
      rw [Dk.barTo_all] at this
      exact ⟨rfl, this.ex, this.fr⟩

end Go.Proofs.YtfggahkimconfaaGreatDoor

/- The contracts of the document's own Cached and Dump. -/
namespace Go.Proofs.YtfggahkimconfaaGreatDoor
open Go.RowKit
set_option linter.unusedVariables false

theorem strCells_bv (x : List UInt8) : Lib.strCells ⟨x.toArray⟩ = bv x := by simp [Lib.strCells, bv]

theorem DRel.rnext {w wr w3 : World} {D : Dk} {v v' : Value} {k : Nat} (h : DRel w D v k wr) (hk : k < D.secs.length) (hl : D.secs[k].last.length = 256)
    (hown : w3.ownsRow w.heap.size 5 1 v' (k * 256 + 256) (bv (D.dumpTo k) ++ bv D.secs[k].last)) (hg : wr.drew.grownBy w3 v.ownBlock) : DRel w D v' (k + 1) w3 := by
  have hs := h.below.size
  refine ⟨?_, ?_, ?_⟩
  · rw [dumpTo_succ D k hk, List.length_append, h.len, hl]; omega
  · rw [dumpTo_succ D k hk, bv_append]
    have e : (k + 1) * 256 = k * 256 + 256 := by omega
    rw [e]; exact hown
  · refine h.below.drew.grown hg hs ?_
    intro j hj
    exact (h.own.lt j hj).1

set_option maxHeartbeats 800000 in
set_option maxRecDepth 100000 in
theorem rDump_any (w : World) (B p : Nat) (v : Value) (vals : List Value) (D : Dk) (hD : RIs w B p v vals (rof D)) (g gc : Nat) (hv : v = .slice (some ⟨g, 0, none⟩) D.secs.length gc) (hmost : D.secs.length ≤ 4096) (hok : ∀ (i : Nat) (s : Sec), D.secs[i]? = some s → s.last.length = 256) :
    Calls Tryz.prog 13 #[.pointer (some ⟨p, 0, none⟩)] w fun e w' => ∃ v, e = .returned v ∧ w'.ownsRow w.heap.size 5 1 v (D.secs.length * 256) (bv D.dump) ∧ Below w.heap.size w w' := by
  subst hv
  obtain ⟨i0, hi, hz0, hz1, hz2⟩ := info_parts infoB
  have R0 : Hid (DRel w D (.slice (some ⟨w.heap.size, 0, none⟩) 0 0) 0 (w.alloc (.cells #[] 5))) := ⟨by simp [Dk.dumpTo], World.ownsRow_made w #[] 0 (Nat.le_refl _) (by simp) rfl, (Below.refl _ _).alloc (Nat.le_refl _) _⟩
  have HD := hide hD
  have HOK := hide hok
  clear hD hok
  go_enter Tryz.func13, Tryz.ntmps13
  go_wp2
  go_loopw [3, 4] (fun v i wr => ∃ k : Nat, k ≤ D.secs.length ∧ i = .int .i64 k ∧ DRel w D v k wr) (fun _ i _ => D.secs.length - (intOf i).toNat)
  case atStart => exact ⟨0, Nat.zero_le _, rfl, unhide R0⟩
  case round =>
    clear R0
    obtain ⟨k, hk, rfl, hR⟩ := hrel
    have hDr := (unhide HD).below hR.below
    have c0 := hDr.cells.1
    by_cases hlt : k < D.secs.length
    · have hx := List.getElem?_eq_getElem hlt
      have HL := hide (rlast_any wr B p _ vals D hDr k _ hx)
      have HLE := hide (unhide HOK k _ hx)
      have hsz : (⟨(D.secs[k]).last.toArray⟩ : ByteArray).size = 256 := by have := unhide HLE; simp [ByteArray.size, this]
      have HSZ := hide hsz
      have HR := hide hR
      clear hDr hx hsz hR
      go_wp2_with fail
      refine (unhide HL).mono ?_
      rintro e w2 ⟨rfl, rfl⟩
      clear HL
      go_wp2_with (at_builtin; refine Lib.wpList_append_own_string _ rfl (.tmp 15) (.tmp 18) 43 9 rfl w.heap.size 5 i0 Tryz.underlying43 Tryz.underlying9 hi hz0 hz1 hz2 _ (k * 256) (bv (D.dumpTo k)) rfl (unhide HR).own.drew ⟨(D.secs[k]).last.toArray⟩ rfl ?c3 ?c4 ?c5 ?_)
      case c3 => rw [unhide HSZ]; unfold maxLen; omega
      case c4 => rw [unhide HSZ]; omega
      case c5 => exact (unhide HR).below.size
      · intro v' w3 hown' hgrow _
        rw [strCells_bv, unhide HLE] at hown'
        have R := hide ((unhide HR).rnext hlt (unhide HLE) hown' hgrow)
        clear hown' hgrow HR c0 HLE HSZ
        go_wp2
        go_roundw
        case rel => exact ⟨k + 1, by omega, by go_num, unhide R⟩
        case measure => simp [intOf]; omega
    · have hk' : k = D.secs.length := by omega
      subst hk'
      have hown := hR.own
      rw [dumpTo_all] at hown
      have HO := hide hown
      have HB := hide hR.below
      clear hR hDr hown
      go_wp2
      go_ret
      exact ⟨_, rfl, unhide HO, unhide HB⟩

end Go.Proofs.YtfggahkimconfaaGreatDoor

/- The contract of the document's own Crash. -/
namespace Go.Proofs.YtfggahkimconfaaGreatDoor
open Go.RowKit
set_option linter.unusedVariables false

/-- Which of n + 1 values the number at pos keeps: its 64 bits, without a sign, modulo n + 1. -/
def pickAt (kept : List Int) (pos n : Nat) : Nat := among (kept.getD pos 0) (n + 1)
theorem pickAt_le (kept : List Int) (pos n : Nat) : pickAt kept pos n ≤ n := by
  have := among_lt (kept.getD pos 0) (n + 1) (by omega)
  unfold pickAt
  omega
theorem pickAt_out (kept : List Int) (pos n : Nat) (h : kept.length ≤ pos) : pickAt kept pos n = 0 := by
  unfold pickAt
  rw [List.getD_eq_getElem?_getD, List.getElem?_eq_none h]
  simp [among]
def crashSec (kept : List Int) (D : Dk) (i : Nat) (s : Sec) : Sec := if 0 < s.wait.length then s.settle (pickAt kept (cachedTo D i).length s.wait.length) else s
def Dk.crashTo (kept : List Int) (D : Dk) (k : Nat) : Dk := { D with secs := D.secs.mapIdx fun i s => if i < k then crashSec kept D i s else s }
def Dk.crashed (kept : List Int) (D : Dk) : Dk := { D.crashTo kept D.secs.length with dark := false, trip := -1 }
theorem crashTo_len (kept : List Int) (D : Dk) (k : Nat) : (D.crashTo kept k).secs.length = D.secs.length := by simp [Dk.crashTo]
theorem crashTo_zero (kept : List Int) (D : Dk) : D.crashTo kept 0 = D := by
  unfold Dk.crashTo
  have : D.secs.mapIdx (fun i s => if i < 0 then crashSec kept D i s else s) = D.secs := by
    apply List.ext_getElem?
    intro i
    rw [List.getElem?_mapIdx]
    cases D.secs[i]? <;> simp
  rw [this]
theorem crashTo_get (kept : List Int) (D : Dk) (k : Nat) (s : Sec) (h : D.secs[k]? = some s) : (D.crashTo kept k).secs[k]? = some s := by simp [Dk.crashTo, h]
theorem crashTo_succ (kept : List Int) (D : Dk) (k : Nat) (s : Sec) (h : D.secs[k]? = some s) : D.crashTo kept (k + 1) = (D.crashTo kept k).put k (crashSec kept D k s) := by
  have hk := (List.getElem?_eq_some_iff.1 h).1
  have : (D.secs.mapIdx fun i s => if i < k + 1 then crashSec kept D i s else s) = (D.secs.mapIdx fun i s => if i < k then crashSec kept D i s else s).set k (crashSec kept D k s) := by
    apply List.ext_getElem?
    intro i
    rw [List.getElem?_set, List.getElem?_mapIdx, List.getElem?_mapIdx]
    by_cases hik : k = i
    · subst hik
      rw [if_pos rfl, if_pos (by simpa using hk), h]
      simp
    · rw [if_neg hik]
      cases D.secs[i]? with
      | none => rfl
      | some t =>
        have : (i < k + 1) ↔ i < k := by omega
        simp [this]
  simp only [Dk.crashTo, Dk.put, this]
theorem crashTo_no (kept : List Int) (D : Dk) (k : Nat) (s : Sec) (h : D.secs[k]? = some s) (h0 : ¬ 0 < s.wait.length) : D.crashTo kept (k + 1) = D.crashTo kept k := by
  rw [crashTo_succ kept D k s h]
  have e : crashSec kept D k s = s := by unfold crashSec; rw [if_neg h0]
  rw [e]
  unfold Dk.put
  have hg := crashTo_get kept D k s h
  obtain ⟨hk, hs⟩ := List.getElem?_eq_some_iff.1 hg
  rw [← hs, List.set_getElem_self]

set_option maxRecDepth 100000 in
set_option maxHeartbeats 1000000 in
theorem rCrash_any (w : World) (B p : Nat) (v : Value) (vals : List Value) (D : Dk) (hD : RIs w B p v vals (rof D)) (g gc : Nat) (hv : v = .slice (some ⟨g, 0, none⟩) D.secs.length gc) (hmost : D.secs.length ≤ 4096) (hW : ∀ (i : Nat) (s : Sec), D.secs[i]? = some s → s.wait.length ≤ 1000000)
    (a : Option Addr) (c n : Nat) (kept : List Int) (hn : kept.length = n) (hK : KeptOf w B a kept) :
    Calls Tryz.prog 23 #[.pointer (some ⟨p, 0, none⟩), .slice a n c] w fun e w' => e = .returned (.tuple #[]) ∧ (∃ vals', RIs w' B p v vals' (rof (D.crashed kept)) ∧ NewOr w vals vals') ∧ Fr2 B w w' := by
  subst hv
  have R0 : Hid (BRel w B p (.slice (some ⟨g, 0, none⟩) D.secs.length gc) vals (D.crashTo kept 0) w) := ⟨⟨vals, by rw [crashTo_zero]; exact hD, NewOr.refl _ _⟩, Fr2.refl _ _⟩
  have HW := hide hW
  have HK := hide hK
  have HN := hide hn
  clear hD hW hK hn
  go_enter Tryz.func23, Tryz.ntmps23
  go_wp2
  go_loopw [4, 5] (fun nx i wr => ∃ k : Nat, k ≤ D.secs.length ∧ i = .int .i64 k ∧ nx = .int .i64 (cachedTo D k).length ∧ BRel w B p (.slice (some ⟨g, 0, none⟩) D.secs.length gc) vals (D.crashTo kept k) wr) (fun _ i _ => D.secs.length - (intOf i).toNat)
  case atStart => exact ⟨0, by omega, rfl, rfl, unhide R0⟩
  case round =>
    clear R0
    obtain ⟨k, hk, rfl, rfl, hR⟩ := hrel
    obtain ⟨vals1, hr, nw⟩ := hR.ex
    have c0 := hr.cells.1
    by_cases hlt : k < D.secs.length
    · have hx : D.secs[k]? = some D.secs[k] := List.getElem?_eq_getElem hlt
      have hx2 := crashTo_get kept D k _ hx
      obtain ⟨_, _, q, qc, hv, c1, f1, hq1, hq2, hqs⟩ := hr.mem k _ hx2
      injection hv with hv1 hv0 hv2
      injection hv1 with hv1
      injection hv1 with hv1 hv4 hv5
      subst hv1
      clear hv0 hv2
      have hkl : (k : Int) < D.secs.length := by omega
      have hle := cachedTo_le D k
      by_cases h0 : 0 < D.secs[k].wait.length
      · have hcmp : ((D.secs[k].wait.length : Int) + 1 == 1) = false := by rw [beq_eq_false_iff_ne]; omega
        have hww : waits D k = true := by simp [waits, hx, h0]
        have hce := cachedTo_yes D k hww
        have hL1 : (D.crashTo kept k).secs.length = D.secs.length := crashTo_len kept D k
        have hsu := crashTo_succ kept D k _ hx
        have hcs : crashSec kept D k D.secs[k] = ⟨(D.secs[k]).pick (pickAt kept (cachedTo D k).length (D.secs[k]).wait.length), []⟩ := by unfold crashSec; rw [if_pos h0]; rfl
        rw [hcs] at hsu
        have hpl := pickAt_le kept (cachedTo D k).length (D.secs[k]).wait.length
        have c2 := hqs _ hpl
        have hwm := unhide HW k _ hx
        have hpg : p ≠ g := fun e => hr.kinds.1 (by subst e; rfl)
        have hgp : g ≠ p := fun e => hpg e.symm
        have HNX := hide (fun (w3 : World) (q : Nat) (x : List UInt8) (hb : Below wr.heap.size wr w3) (hs : w3.heap[q]? = some (.cells #[str x] 9 (0, 0))) (hq : wr.heap.size ≤ q) => hR.next (w3 := w3) hL1 k hlt x q hb hs hq)
        have HSU := hide hsu
        have hkp := (unhide HK).below hR.fr.below
        have hcl : (cachedTo D (k + 1)).length = (cachedTo D k).length + 1 := by rw [hce]; simp
        have HCL := hide hcl
        have hnn := unhide HN
        clear hR hr hx hx2 hww hqs hsu hcs hL1 hce hcl
        by_cases hin : (cachedTo D k).length < kept.length
        · rcases hkp with hk0 | ⟨kb, ko, ha, -, -, hkc⟩
          · rw [hk0] at hin; simp at hin
          · subst ha
            obtain ⟨c3, b1, b2⟩ := hkc _ hin
            generalize hpk : pickAt kept (cachedTo D k).length (D.secs[k]).wait.length = r at *
            unfold pickAt at hpk
            generalize kept.getD (cachedTo D k).length 0 = kv at *
            generalize (cachedTo D k).length = pos at *
            generalize D.secs[k].wait.length = n1 at *
            generalize D.secs[k].pick r = x0 at *
            have hin2 : (pos : Int) < n := by omega
            have hu1 : IntKind.u64.wrap ((n1 : Int) + 1) = (n1 : Int) + 1 := by rw [IntKind.wrap_u64]; omega
            have hz : ((n1 : Int) + 1 == 0) = false := by rw [beq_eq_false_iff_ne]; omega
            have hz' : ¬ ((n1 : Int) + 1 = 0) := by omega
            have hrr : IntKind.i64.wrap ((IntKind.u64.wrap kv).tmod ((n1 : Int) + 1)) = (r : Int) := by
              have h := among_eq kv (n1 + 1) (by omega) (by omega)
              rw [hpk] at h
              rw [← h]
              simp [wrap64, IntKind.wrap_i64]
            clear hpk hkc
            have hrlt : (r : Int) < (n1 : Int) + 1 := by omega
            have g1 := cell_alloc c0 (.cells #[str x0] 9)
            have g2 := cell_alloc c1 (.cells #[str x0] 9)
            have g3 : (wr.alloc (.cells #[str x0] 9)).frozen? ⟨g, k, none⟩ = false := by rw [World.frozen?_alloc_past _ _ _ (World.block_lt_of_cell? wr _ c1)]; exact f1
            have R : Hid (BRel w B p (.slice (some ⟨g, 0, none⟩) D.secs.length gc) vals (D.crashTo kept (k + 1)) ((wr.alloc (.cells #[str x0] 9)).setCell ⟨g, k, none⟩ (.slice (some ⟨wr.heap.size, 0, none⟩) 1 1))) := by
              rw [unhide HSU]
              exact unhide HNX _ _ x0 ((Below.refl _ _).alloc (Nat.le_refl _) _) (heap_alloc_last wr _) (Nat.le_refl _)
            have R2 : Hid (BRel w B p (.slice (some ⟨g, 0, none⟩) D.secs.length gc) vals (D.crashTo kept (k + 1)) ((wr.setCell ⟨g, k, none⟩ (.slice (some ⟨wr.heap.size, 0, none⟩) 1 1)).alloc (.cells #[str x0] 9))) := by
              rw [← World.setCell_alloc_past _ _ _ _ (World.block_lt_of_cell? wr ⟨g, k, none⟩ c1)]; exact R
            go_wp2
            go_region_held (fun W => W.cell? ⟨p, 0, none⟩ = some (.slice (some ⟨g, 0, none⟩) D.secs.length gc) ∧ W.cell? ⟨g, k, none⟩ = some (.slice (some ⟨q, 0, none⟩) (n1 + 1) qc) ∧ W.cell? ⟨kb, ko + pos, none⟩ = some (.int .i64 kv)) (go_keep) (fail)
            go_wp2
            go_region_law (fail)
            all_goals
              clear g1 g2 g3 c0 c1 c2 f1 HNX HSU
              go_wp2
              go_roundw
              case rel => exact ⟨k + 1, by omega, by go_num, by rw [unhide HCL]; go_num, by first | exact (unhide R).drew.drew | exact (unhide R2).drew.drew | exact (unhide R).drew | exact (unhide R2).drew⟩
              case measure => simp [intOf]; omega
        · have hp0 := pickAt_out kept (cachedTo D k).length (D.secs[k]).wait.length (by omega)
          rw [hp0] at c2 HSU hpl
          clear hp0 hkp
          have hin2 : ¬ ((cachedTo D k).length : Int) < n := by omega
          have hin3 : decide (((cachedTo D k).length : Int) < n) = false := by simpa using hin2
          clear hin
          generalize D.secs[k].pick 0 = x0 at *
          generalize (cachedTo D k).length = pos at *
          generalize D.secs[k].wait.length = n1 at *
          have hrlt : (0 : Int) < (n1 : Int) + 1 := by omega
          have g1 := cell_alloc c0 (.cells #[str x0] 9)
          have g2 := cell_alloc c1 (.cells #[str x0] 9)
          have g3 : (wr.alloc (.cells #[str x0] 9)).frozen? ⟨g, k, none⟩ = false := by rw [World.frozen?_alloc_past _ _ _ (World.block_lt_of_cell? wr _ c1)]; exact f1
          have R : Hid (BRel w B p (.slice (some ⟨g, 0, none⟩) D.secs.length gc) vals (D.crashTo kept (k + 1)) ((wr.alloc (.cells #[str x0] 9)).setCell ⟨g, k, none⟩ (.slice (some ⟨wr.heap.size, 0, none⟩) 1 1))) := by
            rw [unhide HSU]
            exact unhide HNX _ _ x0 ((Below.refl _ _).alloc (Nat.le_refl _) _) (heap_alloc_last wr _) (Nat.le_refl _)
          have R2 : Hid (BRel w B p (.slice (some ⟨g, 0, none⟩) D.secs.length gc) vals (D.crashTo kept (k + 1)) ((wr.setCell ⟨g, k, none⟩ (.slice (some ⟨wr.heap.size, 0, none⟩) 1 1)).alloc (.cells #[str x0] 9))) := by
            rw [← World.setCell_alloc_past _ _ _ _ (World.block_lt_of_cell? wr ⟨g, k, none⟩ c1)]; exact R
          go_wp2
          go_region_law (fail)
          all_goals
            clear g1 g2 g3 c0 c1 c2 f1 HNX HSU
            go_wp2
            go_roundw
            case rel => exact ⟨k + 1, by omega, by go_num, by rw [unhide HCL]; go_num, by first | exact (unhide R).drew.drew | exact (unhide R2).drew.drew | exact (unhide R).drew | exact (unhide R2).drew⟩
            case measure => simp [intOf]; omega
      · have hcmp : ((D.secs[k].wait.length : Int) + 1 == 1) = true := by simp; omega
        have hww : waits D k = false := by unfold waits; rw [hx]; simp only [decide_eq_false_iff_not]; exact h0
        have R : Hid (BRel w B p (.slice (some ⟨g, 0, none⟩) D.secs.length gc) vals (D.crashTo kept (k + 1)) wr) := by rw [crashTo_no kept D k _ hx h0]; exact hR
        have hce := cachedTo_no D k hww
        clear hR hr hx hx2 hww hqs
        generalize D.secs[k].wait.length = n1 at *
        go_wp2
        go_roundw
        case rel => exact ⟨k + 1, by omega, by go_num, by rw [hce], unhide R⟩
        case measure => simp [intOf]; omega
    · have hk' : k = D.secs.length := by omega
      subst hk'
      have hc2 := hr.cells.2.2.1
      have hc3 := hr.cells.2.2.2.1
      have hf2 := hr.cells.2.2.2.2 2
      have hf3 := hr.cells.2.2.2.2 3
      have HF : Hid ((∃ vals', RIs ((wr.setCell ⟨p, 3, none⟩ (.bool false)).setCell ⟨p, 2, none⟩ (.int .i64 (-1))) B p (.slice (some ⟨g, 0, none⟩) D.secs.length gc) vals' (rof (D.crashed kept)) ∧ NewOr w vals vals') ∧ Fr2 B w ((wr.setCell ⟨p, 3, none⟩ (.bool false)).setCell ⟨p, 2, none⟩ (.int .i64 (-1)))) := by
        have r1 := hr.set (R' := rof { D.crashTo kept D.secs.length with dark := false }) 3 (.bool false) rfl hr.lo hr.hi rfl
        have r2 := r1.set (R' := rof (D.crashed kept)) 2 (.int .i64 (-1)) rfl (by show (-1 : Int) ≤ -1; omega) (by show (-1 : Int) ≤ _; omega) rfl
        exact ⟨⟨_, r2, nw⟩, (hR.fr.trans (fr2_setCell hr.bp hr.blk (.inl rfl))).trans (fr2_setCell r1.bp r1.blk (.inl rfl))⟩
      clear hR hr
      go_wp2
      go_end0
      exact ⟨rfl, unhide HF⟩

end Go.Proofs.YtfggahkimconfaaGreatDoor

/- The program's disk and the document's side by side; Ints, yes. -/
namespace Go.Proofs.YtfggahkimconfaaGreatDoor
open Go.RowKit
set_option linter.unusedVariables false

/-- What the program does to its disk leaves the document's as it was. -/
theorem RIs.fr {w w' : World} {B Bx p : Nat} {v : Value} {vals : List Value} {R : RDk} (h : RIs w B p v vals R) (f : Fr Bx w w') : RIs w' B p v vals R := by
  obtain ⟨k1, k2⟩ := h.kinds
  refine ⟨(f.other _ _ _ _ h.blk (by decide) (by decide) (by decide)).trans h.blk, ?_, h.bp, Nat.le_trans h.bw f.below.size, ?_, h.lo, h.hi⟩
  · refine own_of_block h.own (fun k hk => ?_)
    obtain ⟨cur, hc⟩ := k2 k hk
    exact f.other _ _ _ _ hc (by decide) (by decide) (by decide)
  · intro i l hi
    obtain ⟨sv, a, b⟩ := h.each i l hi
    exact ⟨sv, a, b.keep (fun k c fz hk => f.other _ _ _ _ hk (by decide) (by decide) (by decide))⟩
/-- What the document's does to its disk leaves the program's as it was. -/
theorem IsDisk.fr2 {w w' : World} {B By p g : Nat} {vs : Nat → Value} {D : Dk} (h : IsDisk w B p g vs D) (f : Fr2 By w w') : IsDisk w' B p g vs D := by
  obtain ⟨cur, hg, _⟩ := h.row
  refine h.keep (f.other _ _ _ _ h.blk (by decide) (by decide)) (f.other _ _ _ _ hg (by decide) (by decide)) f.below.size (fun i k hi hk => ?_)
  obtain ⟨c, hc⟩ := (h.sec i _ (List.getElem?_eq_getElem hi)).blk hk
  exact f.other _ _ _ _ hc (by decide) (by decide)

def iv (l : List Int) : List Value := l.map fun z => Value.int .i64 z
theorem iv_length (l : List Int) : (iv l).length = l.length := by simp [iv]
theorem iv_one (l : List Int) : ∀ v ∈ iv l, v.oneCell' = true := fun v hv => by
  obtain ⟨z, _, rfl⟩ := List.mem_map.1 hv
  rfl

end Go.Proofs.YtfggahkimconfaaGreatDoor

/- The program's disk and the document's, call by call, with one picture of both. -/
namespace Go.Proofs.YtfggahkimconfaaGreatDoor
open Go.RowKit
set_option linter.unusedVariables false

/-- A crash by any numbers, as the document says it. -/
theorem part_crash {kept : List Int} {D E : Dk} (h : Part D (Gcr kept) D.cached.length E) : { E with dark := false, trip := -1 } = D.crashed kept := by
  have e : E.secs = D.secs.mapIdx fun i s => if i < D.secs.length then crashSec kept D i s else s := by
    apply List.ext_getElem?
    intro i
    rw [List.getElem?_mapIdx]
    cases hi : D.secs[i]? with
    | none => rw [List.getElem?_eq_none (by rw [h.len]; exact List.getElem?_eq_none_iff.1 hi)]; rfl
    | some s =>
      obtain ⟨r, hr, hG, hs⟩ := h.all i s hi
      have hil := (List.getElem?_eq_some_iff.1 hi).1
      rw [hs]
      simp only [Option.map_some, if_pos hil]
      congr 1
      unfold crashSec
      by_cases hw : 0 < s.wait.length
      · rw [if_pos hw]
        have hw' : waits D i = true := by unfold waits; rw [hi]; simpa using hw
        have := (hG hw').2
        rw [this]; rfl
      · rw [if_neg hw]
        have h0 : s.wait = [] := List.eq_nil_of_length_eq_zero (by omega)
        have hr0 : r = 0 := by rw [h0] at hr; simpa using hr
        subst hr0
        cases s; simp only at h0; subst h0; rfl
  have h1 := h.moves
  unfold Dk.crashed Dk.crashTo
  cases E; simp only at e h1; subst e h1; rfl

/-- The program's disk at block p. -/
def X (w : World) (B p : Nat) (D : Dk) : Prop := ∃ g vs, IsDisk w B p g vs D
/-- The document's disk at block y. -/
def Y (w : World) (B y : Nat) (D : Dk) : Prop := ∃ By v vals, B ≤ By ∧ RIs w By y v vals (rof D)
structure Okd (D : Dk) (L n : Nat) : Prop where
  len : D.secs.length = L
  one : 1 ≤ L
  most : L ≤ 4096
  ok : ∀ (i : Nat) (s : Sec), D.secs[i]? = some s → s.ok
  few : ∀ (i : Nat) (s : Sec), D.secs[i]? = some s → s.wait.length ≤ n
theorem Okd.mono {D : Dk} {L n m : Nat} (h : Okd D L n) (hm : n ≤ m) : Okd D L m := ⟨h.len, h.one, h.most, h.ok, fun i s hi => Nat.le_trans (h.few i s hi) hm⟩
theorem Okd.of {w : World} {B p : Nat} {D : Dk} {L n : Nat} (h : X w B p D) (hl : D.secs.length = L) (hf : ∀ (i : Nat) (s : Sec), D.secs[i]? = some s → s.wait.length ≤ n) : Okd D L n := by
  obtain ⟨g, vs, h⟩ := h
  exact ⟨hl, by rw [← hl]; exact h.one, by rw [← hl]; exact h.most, fun i s hi => (h.sec i s hi).ok, hf⟩

theorem X.below {w w' : World} {B p : Nat} {D : Dk} (h : X w B p D) (f : Below w.heap.size w w') : X w' B p D := by
  obtain ⟨g, vs, h⟩ := h
  exact ⟨g, vs, h.below f⟩
theorem Y.below {w w' : World} {B p : Nat} {D : Dk} (h : Y w B p D) (f : Below w.heap.size w w') : Y w' B p D := by
  obtain ⟨By, v, vals, hB, h⟩ := h
  exact ⟨By, v, vals, hB, h.below f⟩
theorem X.fr2 {w w' : World} {B By p : Nat} {D : Dk} (h : X w B p D) (f : Fr2 By w w') : X w' B p D := by
  obtain ⟨g, vs, h⟩ := h
  exact ⟨g, vs, h.fr2 f⟩
theorem Y.fr {w w' : World} {B Bx p : Nat} {D : Dk} (h : Y w B p D) (f : Fr Bx w w') : Y w' B p D := by
  obtain ⟨By, v, vals, hB, h⟩ := h
  exact ⟨By, v, vals, hB, h.fr f⟩
theorem X.bw {w : World} {B p : Nat} {D : Dk} (h : X w B p D) : B ≤ w.heap.size := by
  obtain ⟨g, vs, h⟩ := h
  exact h.bw
theorem Y.done {w : World} {B y : Nat} {D : Dk} (h : Y w B y D) : w.cell? ⟨y, 1, none⟩ = some (.int .i64 D.moves) := by
  obtain ⟨By, v, vals, hB, h⟩ := h
  exact h.dcells.2.1
theorem fr2_mono {B B' : Nat} {w w' : World} (f : Fr2 B w w') (h : B' ≤ B) : Fr2 B' w w' := ⟨f.below.mono h, f.other⟩
theorem RIs.form {w : World} {B p : Nat} {v : Value} {vals : List Value} {D : Dk} (h : RIs w B p v vals (rof D)) (h1 : 1 ≤ D.secs.length) : ∃ g gc, v = .slice (some ⟨g, 0, none⟩) D.secs.length gc := by
  obtain ⟨g, gc, _, _, e, _⟩ := h.mem 0 _ (List.getElem?_eq_getElem (by omega))
  exact ⟨g, gc, e⟩

/-- Writing where neither disk lies. -/
theorem both_keep {w w' : World} {B p y : Nat} {D : Dk} (hx : X w B p D) (hy : Y w B y D) (hs : w.heap.size ≤ w'.heap.size) (hk : ∀ (k : Nat) (c : Array Value) (e : TypeId) (f : Nat × Nat), w.heap[k]? = some (.cells c e f) → e ≠ 5 → w'.heap[k]? = w.heap[k]?) : X w' B p D ∧ Y w' B y D := by
  constructor
  · obtain ⟨g, vs, h⟩ := hx
    obtain ⟨cur, hg, _⟩ := h.row
    refine ⟨g, vs, h.keep (hk _ _ _ _ h.blk (by decide)) (hk _ _ _ _ hg (by decide)) hs (fun i k hi hk' => ?_)⟩
    obtain ⟨c, hc⟩ := (h.sec i _ (List.getElem?_eq_getElem hi)).blk hk'
    exact hk _ _ _ _ hc (by decide)
  · obtain ⟨By, v, vals, hB, h⟩ := hy
    obtain ⟨k1, k2⟩ := h.kinds
    refine ⟨By, v, vals, hB, (hk _ _ _ _ h.blk (by decide)).trans h.blk, ?_, h.bp, Nat.le_trans h.bw hs, ?_, h.lo, h.hi⟩
    · refine own_of_block h.own (fun k hk' => ?_)
      obtain ⟨cur, hc⟩ := k2 k hk'
      exact hk _ _ _ _ hc (by decide)
    · intro i l hi
      obtain ⟨sv, a, b⟩ := h.each i l hi
      exact ⟨sv, a, b.keep (fun k c fz hk' => hk _ _ _ _ hk' (by decide))⟩

/-! Store. -/
def Dk.stE (D : Dk) (at_ : Int) (m : Nat) : Int := if (0 ≤ at_ ∧ at_ < D.secs.length) ∧ m = 256 then (if D.can = true then 0 else 10) else 2
def Dk.st (D : Dk) (at_ : Int) (x : List UInt8) : Dk := if (0 ≤ at_ ∧ at_ < D.secs.length) ∧ x.length = 256 then (if D.can = true then D.sto at_.toNat x else D.moved) else D
theorem stE_ok {D : Dk} {at_ : Int} {m : Nat} (hat : 0 ≤ at_ ∧ at_ < D.secs.length) (hm : m = 256) (hc : D.can = true) : D.stE at_ m = 0 := by unfold Dk.stE; rw [if_pos ⟨hat, hm⟩, if_pos hc]
theorem st_ok {D : Dk} {at_ : Int} {x : List UInt8} (hat : 0 ≤ at_ ∧ at_ < D.secs.length) (hm : x.length = 256) (hc : D.can = true) : D.st at_ x = D.sto at_.toNat x := by unfold Dk.st; rw [if_pos ⟨hat, hm⟩, if_pos hc]
theorem stE_dark {D : Dk} {at_ : Int} {m : Nat} (hat : 0 ≤ at_ ∧ at_ < D.secs.length) (hm : m = 256) (hc : D.can = false) : D.stE at_ m = 10 := by unfold Dk.stE; rw [if_pos ⟨hat, hm⟩, if_neg (by rw [hc]; decide)]
theorem st_dark {D : Dk} {at_ : Int} {x : List UInt8} (hat : 0 ≤ at_ ∧ at_ < D.secs.length) (hm : x.length = 256) (hc : D.can = false) : D.st at_ x = D.moved := by unfold Dk.st; rw [if_pos ⟨hat, hm⟩, if_neg (by rw [hc]; decide)]
theorem stE_bad {D : Dk} {at_ : Int} {m : Nat} (h : ¬ ((0 ≤ at_ ∧ at_ < D.secs.length) ∧ m = 256)) : D.stE at_ m = 2 := by unfold Dk.stE; rw [if_neg h]
theorem st_bad {D : Dk} {at_ : Int} {x : List UInt8} (h : ¬ ((0 ≤ at_ ∧ at_ < D.secs.length) ∧ x.length = 256)) : D.st at_ x = D := by unfold Dk.st; rw [if_neg h]
theorem st_len (D : Dk) (at_ : Int) (x : List UInt8) : (D.st at_ x).secs.length = D.secs.length := by
  unfold Dk.st
  split
  · split
    · simp [Dk.sto, Dk.put, Dk.moved_secs]
    · rw [Dk.moved_secs]
  · rfl
theorem moved_few {D : Dk} {n : Nat} (h : ∀ (i : Nat) (s : Sec), D.secs[i]? = some s → s.wait.length ≤ n) : ∀ (i : Nat) (s : Sec), D.moved.secs[i]? = some s → s.wait.length ≤ n := by rw [Dk.moved_secs]; exact h
theorem st_few {D : Dk} {n : Nat} (h : ∀ (i : Nat) (s : Sec), D.secs[i]? = some s → s.wait.length ≤ n) (at_ : Int) (x : List UInt8) : ∀ (i : Nat) (s : Sec), (D.st at_ x).secs[i]? = some s → s.wait.length ≤ n + 1 := by
  unfold Dk.st
  split
  · split
    · intro i s hi
      rename_i hat _
      obtain ⟨t, ht⟩ : ∃ t, D.secs[at_.toNat]? = some t := ⟨_, List.getElem?_eq_getElem (by omega)⟩
      simp only [Dk.sto, Dk.put, Dk.moved_secs, List.getElem?_set] at hi
      by_cases e : at_.toNat = i
      · rw [if_pos e] at hi
        split at hi
        · have := h _ _ ht
          have e2 : s = (D.secs.getD at_.toNat ⟨[], []⟩).add x := (Option.some.inj hi).symm
          rw [e2, List.getD_eq_getElem?_getD, ht]
          simp [Sec.add]
          exact this
        · simp at hi
      · rw [if_neg e] at hi
        exact Nat.le_succ_of_le (h i s hi)
    · intro i s hi
      exact Nat.le_succ_of_le (moved_few h i s hi)
  · intro i s hi
    exact Nat.le_succ_of_le (h i s hi)

theorem xStore (w : World) (B p : Nat) (D : Dk) (L n : Nat) (hX : X w B p D) (hO : Okd D L n) (hn : n ≤ 1000) (at_ : Int) (q o c m : Nat) (cur : Array Value) (f : Nat × Nat) (hq : w.heap[q]? = some (.cells cur 5 f)) (x : List UInt8) (hm : x.length = m) (hx : BytesAt w (some ⟨q, o, none⟩) x) :
    Calls Tryz.prog 24 #[.pointer (some ⟨p, 0, none⟩), .int .i64 at_, .slice (some ⟨q, o, none⟩) m c] w fun e w' => e = .returned (.int .i64 (D.stE at_ m)) ∧ X w' B p (D.st at_ x) ∧ Fr B w w' := by
  obtain ⟨g, vs, h⟩ := hX
  by_cases hat : 0 ≤ at_ ∧ at_ < D.secs.length
  · by_cases hm2 : m = 256
    · subst hm2
      cases hc : D.can with
      | true =>
        rw [stE_ok hat rfl hc, st_ok hat hm hc]
        obtain ⟨i, rfl⟩ : ∃ i : Nat, at_ = i := ⟨at_.toNat, by omega⟩
        have hi := List.getElem?_eq_getElem (show i < D.secs.length by omega)
        have hqp : q ≠ p := by
          intro e; subst e
          have := hq.symm.trans h.blk
          simp at this
        refine (Store_ok w B p g vs D h i _ hi ⟨q, o, none⟩ c hc (Nat.le_trans (hO.few _ _ hi) (by omega)) x hm (hx.2 _ rfl) hqp).mono ?_
        rintro e w' ⟨rfl, ⟨vs', h'⟩, f'⟩
        refine ⟨rfl, ⟨g, vs', ?_⟩, f'⟩
        unfold Dk.sto
        rw [List.getD_eq_getElem?_getD]
        simp only [Int.toNat_natCast, hi, Option.getD_some]
        exact h'
      | false =>
        rw [stE_dark hat rfl hc, st_dark hat hm hc]
        refine (Store_dark w B p g vs D h at_ _ c hat hc).mono ?_
        rintro e w' ⟨rfl, h', f'⟩
        exact ⟨rfl, ⟨g, vs, h'⟩, f'⟩
    · rw [stE_bad (fun e => hm2 e.2), st_bad (fun e => hm2 (hm ▸ e.2))]
      refine (Store_len w B p g vs D h at_ _ m c hat hm2).mono ?_
      rintro e w' ⟨rfl, rfl⟩
      exact ⟨rfl, ⟨g, vs, h⟩, Fr.refl _ _⟩
  · rw [stE_bad (fun e => hat e.1), st_bad (fun e => hat e.1)]
    refine (Store_out w B p g vs D h at_ _ m c hat).mono ?_
    rintro e w' ⟨rfl, rfl⟩
    exact ⟨rfl, ⟨g, vs, h⟩, Fr.refl _ _⟩

theorem yStore (w : World) (B y : Nat) (D : Dk) (L n : Nat) (hY : Y w B y D) (hO : Okd D L n) (hn : n ≤ 1000) (at_ : Int) (v : Value) (m base : Nat) (x : List UInt8) (hm : x.length = m) (hm1 : 1 ≤ m) (hx : w.ownsRow base 5 1 v m (bv x)) :
    Calls Tryz.prog 26 #[.pointer (some ⟨y, 0, none⟩), .int .i64 at_, v] w fun e w' => e = .returned (.int .i64 (D.stE at_ m)) ∧ Y w' B y (D.st at_ x) ∧ Fr2 B w w' := by
  obtain ⟨By, rv, vals, hB, h⟩ := hY
  obtain ⟨g, gc, hv⟩ := h.form (by rw [hO.len]; exact hO.one)
  rcases hx.2 with ⟨rfl, rfl⟩ | ⟨q, cap, cur, rfl, _, hq, _⟩
  · omega
  · have hbx : BytesAt w (some ⟨q, 0, none⟩) x := ⟨(fun e => by cases e), fun ad e j u hu => by injection e with e; subst e; exact hx.cells (g := q) rfl j u hu⟩
    by_cases hat : 0 ≤ at_ ∧ at_ < D.secs.length
    · by_cases hm2 : m = 256
      · subst hm2
        cases hc : D.can with
        | true =>
          rw [stE_ok hat rfl hc, st_ok hat hm hc]
          obtain ⟨i, rfl⟩ : ∃ i : Nat, at_ = i := ⟨at_.toNat, by omega⟩
          have hi := List.getElem?_eq_getElem (show i < D.secs.length by omega)
          refine (rStore_ok w By y rv vals D h i _ hi q cap hc (Nat.le_trans (hO.few _ _ hi) (by omega)) x hm cur _ hq hbx).mono ?_
          rintro e w' ⟨rfl, ⟨vals', h', _⟩, f'⟩
          refine ⟨rfl, ⟨By, rv, vals', hB, ?_⟩, fr2_mono f' hB⟩
          unfold Dk.sto
          rw [List.getD_eq_getElem?_getD]
          simp only [Int.toNat_natCast, hi, Option.getD_some]
          exact h'
        | false =>
          rw [stE_dark hat rfl hc, st_dark hat hm hc]
          refine (rStore_dark w By y rv vals D h at_ _ cap hat hc g gc hv).mono ?_
          rintro e w' ⟨rfl, h', f'⟩
          exact ⟨rfl, ⟨By, rv, vals, hB, h'⟩, fr2_mono f' hB⟩
      · rw [stE_bad (fun e => hm2 e.2), st_bad (fun e => hm2 (hm ▸ e.2))]
        refine (rStore_len w By y rv vals D h at_ _ m cap hat hm2 g gc hv).mono ?_
        rintro e w' ⟨rfl, rfl⟩
        exact ⟨rfl, ⟨By, rv, vals, hB, h⟩, Fr2.refl _ _⟩
    · rw [stE_bad (fun e => hat e.1), st_bad (fun e => hat e.1)]
      refine (rStore_out w By y rv vals D h at_ _ m cap hat g gc hv).mono ?_
      rintro e w' ⟨rfl, rfl⟩
      exact ⟨rfl, ⟨By, rv, vals, hB, h⟩, Fr2.refl _ _⟩

/-! Barrier. -/
def Dk.baE (D : Dk) : Int := if D.can = true then 0 else 10
def Dk.ba (D : Dk) : Dk := if D.can = true then D.bar else D.moved
theorem ba_len (D : Dk) : D.ba.secs.length = D.secs.length := by
  unfold Dk.ba
  split
  · simp [Dk.bar]
  · rw [Dk.moved_secs]
theorem ba_few {D : Dk} {n : Nat} (h : ∀ (i : Nat) (s : Sec), D.secs[i]? = some s → s.wait.length ≤ n) : ∀ (i : Nat) (s : Sec), D.ba.secs[i]? = some s → s.wait.length ≤ n := by
  unfold Dk.ba
  split
  · intro i s hi
    rw [(Dry.bar D) i s hi]; simp
  · exact moved_few h
theorem xBarrier (w : World) (B p : Nat) (D : Dk) (hX : X w B p D) :
    Calls Tryz.prog 57 #[.pointer (some ⟨p, 0, none⟩)] w fun e w' => e = .returned (.int .i64 D.baE) ∧ X w' B p D.ba ∧ Fr B w w' := by
  obtain ⟨g, vs, h⟩ := hX
  unfold Dk.baE Dk.ba
  cases hc : D.can with
  | true =>
    refine (Barrier_ok w B p g vs D h hc).mono ?_
    rintro e w' ⟨rfl, ⟨vs', D', h', hP⟩, f'⟩
    refine ⟨rfl, ⟨g, vs', ?_⟩, f'⟩
    have e := part_bar hP
    rw [Dk.moved_secs] at e
    rw [e] at h'
    exact h'
  | false =>
    refine (Barrier_dark w B p g vs D h hc).mono ?_
    rintro e w' ⟨rfl, h', f'⟩
    exact ⟨rfl, ⟨g, vs, h'⟩, f'⟩
theorem yBarrier (w : World) (B y : Nat) (D : Dk) (L n : Nat) (hY : Y w B y D) (hO : Okd D L n) :
    Calls Tryz.prog 38 #[.pointer (some ⟨y, 0, none⟩)] w fun e w' => e = .returned (.int .i64 D.baE) ∧ Y w' B y D.ba ∧ Fr2 B w w' := by
  obtain ⟨By, rv, vals, hB, h⟩ := hY
  obtain ⟨g, gc, hv⟩ := h.form (by rw [hO.len]; exact hO.one)
  unfold Dk.baE Dk.ba
  cases hc : D.can with
  | true =>
    refine (rBarrier_ok w By y rv vals D h hc g gc hv (by rw [hO.len]; exact hO.most)).mono ?_
    rintro e w' ⟨rfl, ⟨vals', h', _⟩, f'⟩
    exact ⟨rfl, ⟨By, rv, vals', hB, h'⟩, fr2_mono f' hB⟩
  | false =>
    refine (rBarrier_dark w By y rv vals D h hc).mono ?_
    rintro e w' ⟨rfl, h', f'⟩
    exact ⟨rfl, ⟨By, rv, vals, hB, h'⟩, fr2_mono f' hB⟩

/-! Trip. -/
def Dk.tr (D : Dk) (n : Int) : Dk := { D with trip := max n (-1) }
theorem xTrip (w : World) (B p : Nat) (D : Dk) (hX : X w B p D) (n : Int) (hn : n ≤ 9223372036854775807) :
    Calls Tryz.prog 20 #[.pointer (some ⟨p, 0, none⟩), .int .i64 n] w fun e w' => e = .returned (.int .i64 0) ∧ X w' B p (D.tr n) ∧ Fr B w w' := by
  obtain ⟨g, vs, h⟩ := hX
  refine (Trip_any w B p g vs D h n hn).mono ?_
  rintro e w' ⟨rfl, h', f'⟩
  exact ⟨rfl, ⟨g, vs, h'⟩, f'⟩
theorem yTrip (w : World) (B y : Nat) (D : Dk) (hY : Y w B y D) (n : Int) (hn : n ≤ 9223372036854775807) :
    Calls Tryz.prog 21 #[.pointer (some ⟨y, 0, none⟩), .int .i64 n] w fun e w' => e = .returned (.tuple #[]) ∧ Y w' B y (D.tr n) ∧ Fr2 B w w' := by
  obtain ⟨By, rv, vals, hB, h⟩ := hY
  refine (rTrip_any w By y rv vals D h n hn).mono ?_
  rintro e w' ⟨rfl, h', f'⟩
  exact ⟨rfl, ⟨By, rv, vals, hB, h'⟩, fr2_mono f' hB⟩

/-! Crash. -/
theorem crashed_len (kept : List Int) (D : Dk) : (D.crashed kept).secs.length = D.secs.length := crashTo_len kept D _
theorem crashed_few {D : Dk} {n : Nat} (kept : List Int) (h : ∀ (i : Nat) (s : Sec), D.secs[i]? = some s → s.wait.length ≤ n) : ∀ (i : Nat) (s : Sec), (D.crashed kept).secs[i]? = some s → s.wait.length ≤ n := by
  intro i s hi
  simp only [Dk.crashed, Dk.crashTo, List.getElem?_mapIdx, Option.map_eq_some_iff] at hi
  obtain ⟨t, ht, e⟩ := hi
  have := h i t ht
  subst e
  split
  · unfold crashSec
    split
    · simp [Sec.settle]
    · exact this
  · exact this
theorem xCrash (w : World) (B p : Nat) (D : Dk) (L n : Nat) (hX : X w B p D) (hO : Okd D L n) (hn : n ≤ 1000) (v : Value) (kn base : Nat) (kept : List Int) (hk : kept.length = kn) (hb : ∀ z ∈ kept, -9223372036854775808 ≤ z ∧ z ≤ 9223372036854775807) (hv : w.ownsRow base 3 1 v kn (iv kept)) :
    Calls Tryz.prog 22 #[.pointer (some ⟨p, 0, none⟩), v] w fun e w' => e = .returned (.int .i64 0) ∧ X w' B p (D.crashed kept) ∧ Fr B w w' := by
  obtain ⟨g, vs, h⟩ := hX
  have few : ∀ (i : Nat) (s : Sec), D.secs[i]? = some s → s.wait.length ≤ 1000000 := fun i s hi => Nat.le_trans (hO.few i s hi) (by omega)
  have fin : ∀ w', (∃ (vs' : Nat → Value) (E : Dk), IsDisk w' B p g vs' { E with dark := false, trip := -1 } ∧ Part D (Gcr kept) D.cached.length E) → X w' B p (D.crashed kept) := by
    rintro w' ⟨vs', E, h', hP⟩
    rw [part_crash hP] at h'
    exact ⟨g, vs', h'⟩
  subst hk
  by_cases h0 : kept.length = 0
  · have e := List.eq_nil_of_length_eq_zero h0
    subst e
    obtain ⟨a, c, rfl, _⟩ := own_form hv
    refine (Crash_none w B p g vs D h few a c).mono ?_
    rintro e w' ⟨rfl, h', f'⟩
    exact ⟨rfl, fin _ h', f'⟩
  · rcases hv.2 with ⟨_, h1⟩ | ⟨q, cap, cur, rfl, _, hq, _⟩
    · exact absurd h1 h0
    · have hqg : q ≠ g := by
        intro e; subst e
        obtain ⟨cg, hg, _⟩ := h.row
        have := hq.symm.trans hg
        simp at this
      refine (Crash_at w B p g vs D h few kept q 0 cap ?_ (lt_of_heap hq) hqg ?_).mono ?_
      · intro j hj
        have := hv.cells (g := q) rfl j (.int .i64 (kept.getD j 0)) (by simp [iv, List.getD_eq_getElem?_getD, hj])
        simpa [Addr.add_mid] using this
      · intro j hj
        rw [List.getD_eq_getElem?_getD, List.getElem?_eq_getElem hj]
        exact hb _ (List.getElem_mem hj)
      · rintro e w' ⟨rfl, h', f'⟩
        exact ⟨rfl, fin _ h', f'⟩
theorem yCrash (w : World) (B y : Nat) (D : Dk) (L n : Nat) (hY : Y w B y D) (hO : Okd D L n) (hn : n ≤ 1000) (a : Option Addr) (c kn : Nat) (kept : List Int) (hk : kept.length = kn) (hK : KeptOf w B a kept) :
    Calls Tryz.prog 23 #[.pointer (some ⟨y, 0, none⟩), .slice a kn c] w fun e w' => e = .returned (.tuple #[]) ∧ Y w' B y (D.crashed kept) ∧ Fr2 B w w' := by
  obtain ⟨By, rv, vals, hB, h⟩ := hY
  obtain ⟨g, gc, hv⟩ := h.form (by rw [hO.len]; exact hO.one)
  have few : ∀ (i : Nat) (s : Sec), D.secs[i]? = some s → s.wait.length ≤ 1000000 := fun i s hi => Nat.le_trans (hO.few i s hi) (by omega)
  have hK' : KeptOf w By a kept := by
    rcases hK with h0 | ⟨kb, ko, e, h1, h2, h3⟩
    · exact .inl h0
    · exact .inr ⟨kb, ko, e, by omega, h2, h3⟩
  refine (rCrash_any w By y rv vals D h g gc hv (by rw [hO.len]; exact hO.most) few a c kn kept hk hK').mono ?_
  rintro e w' ⟨rfl, ⟨vals', h', _⟩, f'⟩
  exact ⟨rfl, ⟨By, rv, vals', hB, h'⟩, fr2_mono f' hB⟩

/-! Fetch. -/
def Dk.feE (D : Dk) (at_ : Int) : Int := if 0 ≤ at_ ∧ at_ < D.secs.length then (if D.dark = true then 10 else 0) else 2
theorem xFetch_bad (w : World) (B p : Nat) (D : Dk) (hX : X w B p D) (at_ : Int) (hb : ¬ ((0 ≤ at_ ∧ at_ < D.secs.length) ∧ D.dark = false)) :
    Calls Tryz.prog 72 #[.pointer (some ⟨p, 0, none⟩), .int .i64 at_] w fun e w' => e = .returned (.tuple #[.slice none 0 0, .int .i64 (D.feE at_)]) ∧ w' = w := by
  obtain ⟨g, vs, h⟩ := hX
  unfold Dk.feE
  by_cases hat : 0 ≤ at_ ∧ at_ < D.secs.length
  · have hd : D.dark = true := by cases hd : D.dark with | true => rfl | false => exact absurd ⟨hat, hd⟩ hb
    rw [if_pos hat, if_pos hd]
    exact Fetch_dark w B p g vs D h at_ hat hd
  · rw [if_neg hat]
    exact Fetch_out w B p g vs D h at_ hat
theorem yFetch_bad (w : World) (B y : Nat) (D : Dk) (L n : Nat) (hY : Y w B y D) (hO : Okd D L n) (at_ : Int) (hb : ¬ ((0 ≤ at_ ∧ at_ < D.secs.length) ∧ D.dark = false)) :
    Calls Tryz.prog 42 #[.pointer (some ⟨y, 0, none⟩), .int .i64 at_] w fun e w' => e = .returned (.tuple #[.slice none 0 0, .int .i64 (D.feE at_)]) ∧ w' = w := by
  obtain ⟨By, rv, vals, hB, h⟩ := hY
  obtain ⟨g, gc, hv⟩ := h.form (by rw [hO.len]; exact hO.one)
  unfold Dk.feE
  by_cases hat : 0 ≤ at_ ∧ at_ < D.secs.length
  · have hd : D.dark = true := by cases hd : D.dark with | true => rfl | false => exact absurd ⟨hat, hd⟩ hb
    rw [if_pos hat, if_pos hd]
    exact rFetch_dark w By y rv vals D h at_ hat hd g gc hv
  · rw [if_neg hat]
    exact rFetch_out w By y rv vals D h at_ hat g gc hv

/-! What both tell. -/
theorem last_len {s : Sec} (h : s.ok) : s.last.length = 256 := Sec.pick_len h _ (Nat.le_refl _)
theorem okd_dump {D : Dk} {L n : Nat} (h : Okd D L n) : D.dump.length = D.secs.length * 256 := by
  have : ∀ k, k ≤ D.secs.length → (D.dumpTo k).length = k * 256 := by
    intro k
    induction k with
    | zero => intro _; simp [Dk.dumpTo]
    | succ k ih =>
      intro hk
      rw [dumpTo_succ D k (by omega), List.length_append, ih (by omega), last_len (h.ok k _ (List.getElem?_eq_getElem (by omega)))]
      omega
  rw [← dumpTo_all]
  exact this _ (Nat.le_refl _)
theorem bytes_of_own {w : World} {base n c : Nat} {a : Option Addr} {x : List UInt8} (hn : x.length = n) (h : w.ownsRow base 5 1 (.slice a n c) n (bv x)) : BytesAt w a x := by
  rcases h.2 with ⟨e, h0⟩ | ⟨q, cap, cur, e, _⟩
  · have : x = [] := List.eq_nil_of_length_eq_zero (by omega)
    injection e with e
    subst e
    exact ⟨fun _ => this, fun ad e => by cases e⟩
  · injection e with e
    subst e
    exact ⟨fun e => (by cases e), fun ad e j u hu => by injection e with e; subst e; exact h.cells (g := q) rfl j u hu⟩
theorem SameBytes_own (w : World) (v v' : Value) (n base base' : Nat) (x : List UInt8) (hl : x.length = n) (h : w.ownsRow base 5 1 v n (bv x)) (h' : w.ownsRow base' 5 1 v' n (bv x)) :
    Calls Tryz.prog 11 #[v, v'] w fun e w' => e = .returned (.bool true) ∧ w' = w := by
  obtain ⟨a, c, rfl, _⟩ := own_form h
  obtain ⟨a', c', rfl, _⟩ := own_form h'
  refine (SameBytes_n w a a' x x n n c c' (bytes_of_own hl h) (bytes_of_own hl h') hl hl).mono ?_
  rintro e w' ⟨rfl, rfl⟩
  exact ⟨by simp, rfl⟩

end Go.Proofs.YtfggahkimconfaaGreatDoor

/- A log on a disk, as plain values: what each call answers, and what it leaves. -/
namespace Go.Proofs.YtfggahkimconfaaGreatDoor
set_option linter.unusedVariables false

/-- A log: where it lies, its head, its records, how many sectors they take, how many are sure; whether the power went. -/
structure Lg where
  at_ : Nat
  size : Nat
  now : Nat
  fro : Nat
  L : List (List UInt8)
  used : Nat
  count : Nat
  gone : Bool

def Dk.lasts (D : Dk) : List (List UInt8) := D.secs.map Sec.last
theorem lasts_len (D : Dk) : D.lasts.length = D.secs.length := by simp [Dk.lasts]
def Dk.dataS (D : Dk) (a n : Nat) : List (List UInt8) := (D.lasts.drop (a + 1)).take (n - 1)
def placeOk (D : Dk) (at_ size : Int) : Prop := 2 ≤ size ∧ size ≤ D.secs.length ∧ 0 ≤ at_ ∧ at_ ≤ D.secs.length - size
instance (D : Dk) (a n : Int) : Decidable (placeOk D a n) := by unfold placeOk; infer_instance
/-- A sector is stored; barrier. -/
def Dk.sb (D : Dk) (a : Nat) (x : List UInt8) : Dk × Int := if D.stE a 256 = 0 then ((D.st a x).ba, (D.st a x).baE) else (D.st a x, D.stE a 256)
def Dk.fmt (D : Dk) (at_ size : Int) : Dk × Int := if placeOk D at_ size then D.sb at_.toNat (secB (headR 1 1)) else (D, 2)
/-- The next epoch begins. -/
def Lg.nxt (g : Lg) (D : Dk) (fro : Nat) : Dk × Lg × Int :=
  if 4294967295 ≤ g.now then (D, g, 4) else if (D.sb g.at_ (secB (headR (g.now + 1) fro))).2 = 0 then ((D.sb g.at_ (secB (headR (g.now + 1) fro))).1, { g with now := g.now + 1, fro := fro }, 0)
    else ((D.sb g.at_ (secB (headR (g.now + 1) fro))).1, { g with gone := true }, (D.sb g.at_ (secB (headR (g.now + 1) fro))).2)
/-- The log that a head tells of, its records read. -/
def Dk.found (D : Dk) (a n : Nat) (h : Rec) : Lg :=
  ⟨a, n, h.epoch.toNat, num h.data, (scanW h.epoch (D.dataS a n) 0 ⟨(num h.data : Int), false, [], [], 0⟩).L, (scanW h.epoch (D.dataS a n) 0 ⟨(num h.data : Int), false, [], [], 0⟩).used, (scanW h.epoch (D.dataS a n) 0 ⟨(num h.data : Int), false, [], [], 0⟩).L.length, false⟩
def Dk.headAt (D : Dk) (a : Nat) : Option Rec := match D.lasts[a]? with
  | none => none
  | some b => match readS b with
    | none => none
    | some h => if h.data.length = 4 then some h else none
/-- Where a head lies, its from-epoch is not above its epoch. -/
def HdOk (D : Dk) (a : Int) : Prop := ∀ h, D.headAt a.toNat = some h → (num h.data : Int) ≤ h.epoch
def Dk.opn (D : Dk) (at_ size : Int) : Dk × Option Lg × Int :=
  if placeOk D at_ size then
    if D.dark = true then (D, none, 10)
    else match D.headAt at_.toNat with
      | none => (D, none, 40)
      | some h => (((D.found at_.toNat size.toNat h).nxt D (num h.data)).1, if ((D.found at_.toNat size.toNat h).nxt D (num h.data)).2.2 = 0 then some ((D.found at_.toNat size.toNat h).nxt D (num h.data)).2.1 else none, ((D.found at_.toNat size.toNat h).nxt D (num h.data)).2.2)
  else (D, none, 2)
/-- Sectors are stored, one behind the other, as long as the power is there. -/
def Dk.stores : Dk → Nat → List (List UInt8) → Dk × Int
  | D, _, [] => (D, 0)
  | D, k, x :: xs => if D.stE k 256 = 0 then (D.st k x).stores (k + 1) xs else (D.st k x, D.stE k 256)
def Lg.apd (g : Lg) (D : Dk) (d : List UInt8) : Dk × Lg × Int :=
  if g.gone = true then (D, g, 10) else if 4096 < d.length then (D, g, 3) else if g.size - 1 - g.used < need d.length then (D, g, 4)
  else if (D.stores (g.at_ + 1 + g.used) (secsOf g.now g.used d)).2 = 0 then ((D.stores (g.at_ + 1 + g.used) (secsOf g.now g.used d)).1, { g with used := g.used + need d.length, L := g.L ++ [d] }, 0)
    else ((D.stores (g.at_ + 1 + g.used) (secsOf g.now g.used d)).1, { g with gone := true }, (D.stores (g.at_ + 1 + g.used) (secsOf g.now g.used d)).2)
def Lg.flu (g : Lg) (D : Dk) : Dk × Lg × Int :=
  if g.gone = true then (D, g, 10) else if D.baE = 0 then (D.ba, { g with count := g.L.length }, 0) else (D.ba, { g with gone := true }, D.baE)
def Lg.rst (g : Lg) (D : Dk) : Dk × Lg × Int :=
  if g.gone = true then (D, g, 10) else if (g.nxt D (g.now + 1)).2.2 = 0 then ((g.nxt D (g.now + 1)).1, { (g.nxt D (g.now + 1)).2.1 with L := [], used := 0, count := 0 }, 0) else g.nxt D (g.now + 1)

/-! How a disk's values turn. -/
theorem last_add (s : Sec) (x : List UInt8) : (s.add x).last = x := by
  unfold Sec.last Sec.add Sec.pick
  simp
theorem last_flush (s : Sec) : s.flush.last = s.last := rfl
theorem moved_lasts (D : Dk) : D.moved.lasts = D.lasts := by unfold Dk.lasts; rw [Dk.moved_secs]
theorem ba_lasts (D : Dk) : D.ba.lasts = D.lasts := by
  unfold Dk.ba
  split
  · unfold Dk.lasts Dk.bar
    simp only [List.map_map]
    rfl
  · exact moved_lasts D
theorem sto_lasts (D : Dk) (a : Nat) (x : List UInt8) (ha : a < D.secs.length) : (D.sto a x).lasts = D.lasts.set a x := by
  unfold Dk.sto Dk.put Dk.lasts
  rw [Dk.moved_secs]
  simp only [List.map_set, last_add]
def quiet (D : Dk) : Prop := D.trip = -1 ∧ D.dark = false
theorem quiet_can {D : Dk} (h : quiet D) : D.can = true := by unfold Dk.can; rw [h.1, h.2]; decide
theorem quiet_moved {D : Dk} (h : quiet D) : quiet D.moved := by
  unfold Dk.moved
  rw [if_neg (by rw [h.1]; decide), if_neg (by rw [h.2]; decide)]
  refine ⟨?_, h.2⟩
  show (if 0 < D.trip then D.trip - 1 else D.trip) = -1
  rw [h.1]
  rfl
theorem st_quiet {D : Dk} (h : quiet D) {a : Nat} {x : List UInt8} (ha : a < D.secs.length) (hx : x.length = 256) : D.stE a 256 = 0 ∧ quiet (D.st a x) ∧ (D.st a x).lasts = D.lasts.set a x ∧ (D.st a x).secs.length = D.secs.length := by
  have hat : 0 ≤ (a : Int) ∧ (a : Int) < D.secs.length := by omega
  refine ⟨stE_ok hat rfl (quiet_can h), ?_, ?_, st_len _ _ _⟩
  · rw [st_ok hat hx (quiet_can h)]
    exact quiet_moved h
  · rw [st_ok hat hx (quiet_can h)]
    exact sto_lasts D _ x (by simpa using ha)
theorem ba_quiet {D : Dk} (h : quiet D) : D.baE = 0 ∧ quiet D.ba ∧ D.ba.secs.length = D.secs.length ∧ (∀ (i : Nat) (s : Sec), D.ba.secs[i]? = some s → s.wait = []) := by
  have hc := quiet_can h
  refine ⟨by unfold Dk.baE; rw [if_pos hc], ?_, ?_, ?_⟩
  · unfold Dk.ba
    rw [if_pos hc]
    exact quiet_moved h
  · unfold Dk.ba
    rw [if_pos hc]
    simp [Dk.bar]
  · unfold Dk.ba
    rw [if_pos hc]
    intro i s hi
    simp only [Dk.bar, List.getElem?_map, Option.map_eq_some_iff] at hi
    obtain ⟨t, _, rfl⟩ := hi
    rfl
theorem stores_quiet : ∀ (xs : List (List UInt8)) (D : Dk) (k : Nat), quiet D → k + xs.length ≤ D.secs.length → (∀ x ∈ xs, x.length = 256) →
    (D.stores k xs).2 = 0 ∧ quiet (D.stores k xs).1 ∧ (D.stores k xs).1.lasts = putSecs D.lasts k xs ∧ (D.stores k xs).1.secs.length = D.secs.length
  | [], D, k, h, hk, _ => ⟨rfl, h, by unfold putSecs; simp [Dk.stores], rfl⟩
  | x :: xs, D, k, h, hk, hx => by
    simp only [List.length_cons] at hk
    obtain ⟨e1, e2, e3, e4⟩ := st_quiet h (a := k) (x := x) (by omega) (hx x (by simp))
    obtain ⟨f1, f2, f3, f4⟩ := stores_quiet xs (D.st k x) (k + 1) e2 (by rw [e4]; omega) (fun y hy => hx y (by simp [hy]))
    have hs : D.stores k (x :: xs) = (D.st k x).stores (k + 1) xs := by rw [Dk.stores, if_pos e1]
    rw [hs]
    refine ⟨f1, f2, ?_, by rw [f4, e4]⟩
    rw [f3, e3]
    have hkl : k < D.lasts.length := by rw [lasts_len]; omega
    unfold putSecs
    rw [List.take_set, List.take_succ_eq_append_getElem hkl, List.drop_set_of_lt (by omega)]
    have e5 : (D.lasts.take k ++ [D.lasts[k]]).set k x = D.lasts.take k ++ [x] := by
      rw [List.set_append_right _ _ (by rw [List.length_take]; omega)]
      rw [List.length_take, Nat.min_eq_left (by omega), Nat.sub_self]
      rfl
    rw [e5, List.length_cons, show k + 1 + xs.length = k + (xs.length + 1) by omega]
    simp

/-! A log that lies on a disk whose power is there. -/
structure Lay (D : Dk) (a n now fro : Nat) (E : List (Nat × List UInt8)) : Prop where
  q : quiet D
  two : 2 ≤ n
  fit : a + n ≤ D.secs.length
  most : D.secs.length ≤ 4096
  head : D.lasts[a]? = some (secB (headR now fro))
  log : LogOn (D.dataS a n) now fro E
theorem data_len {D : Dk} {a n : Nat} (h2 : 2 ≤ n) (hf : a + n ≤ D.secs.length) : (D.dataS a n).length = n - 1 := by
  unfold Dk.dataS
  rw [List.length_take, List.length_drop, lasts_len]
  omega
theorem Lay.place {D : Dk} {a n now fro : Nat} {E : List (Nat × List UInt8)} (h : Lay D a n now fro E) : placeOk D a n := by
  have := h.two
  have := h.fit
  unfold placeOk
  omega
theorem Lay.headAt {D : Dk} {a n now fro : Nat} {E : List (Nat × List UInt8)} (h : Lay D a n now fro E) : D.headAt a = some (headR now fro) := by
  unfold Dk.headAt
  rw [h.head]
  simp only [read_sec (head_fit h.log.top)]
  exact if_pos (be4_len fro)
theorem Lay.hd {D : Dk} {a n now fro : Nat} {E : List (Nat × List UInt8)} (h : Lay D a n now fro E) : HdOk D (a : Int) := fun r hr => by
  rw [Int.toNat_natCast, h.headAt] at hr
  cases hr
  rw [show num (headR now fro).data = fro from num_head (by have := h.log.ord; have := h.log.top; omega)]
  show (fro : Int) ≤ (now : Int)
  have := h.log.ord
  omega
theorem Lay.found {D : Dk} {a n now fro : Nat} {E : List (Nat × List UInt8)} (h : Lay D a n now fro E) : D.found a n (headR now fro) = ⟨a, n, now, fro, E.map (·.2), usedBy E, E.length, false⟩ := by
  have hf : num (headR now fro).data = fro := num_head (by have := h.log.ord; have := h.log.top; omega)
  have hs := h.log.scan
  unfold Dk.found
  rw [hf]
  have he : (headR now fro).epoch = (now : Int) := rfl
  rw [he, hs.1, hs.2]
  simp
theorem sb_quiet {D : Dk} (h : quiet D) {a : Nat} {x : List UInt8} (ha : a < D.secs.length) (hx : x.length = 256) : (D.sb a x).2 = 0 ∧ quiet (D.sb a x).1 ∧ (D.sb a x).1.lasts = D.lasts.set a x ∧ (D.sb a x).1.secs.length = D.secs.length ∧ (∀ (i : Nat) (s : Sec), (D.sb a x).1.secs[i]? = some s → s.wait = []) := by
  obtain ⟨e1, e2, e3, e4⟩ := st_quiet h ha hx
  obtain ⟨f1, f2, f3, f4⟩ := ba_quiet e2
  have hs : D.sb a x = ((D.st a x).ba, (D.st a x).baE) := by unfold Dk.sb; rw [if_pos e1]
  rw [hs]
  exact ⟨f1, f2, by rw [ba_lasts, e3], by rw [f3, e4], f4⟩
/-- The head is written anew: what stands behind it is as it was. -/
theorem Lay.newHead {D D' : Dk} {a n now fro now' fro' : Nat} {E E' : List (Nat × List UInt8)} (h : Lay D a n now fro E) (q : quiet D') (hl : D'.lasts = D.lasts.set a (secB (headR now' fro'))) (hs : D'.secs.length = D.secs.length) (hL : LogOn (D.dataS a n) now' fro' E') : Lay D' a n now' fro' E' := by
  refine ⟨q, h.two, by rw [hs]; exact h.fit, by rw [hs]; exact h.most, ?_, ?_⟩
  · rw [hl]
    exact List.getElem?_set_self (by rw [lasts_len]; have := h.fit; have := h.two; omega)
  · have : D'.dataS a n = D.dataS a n := by
      unfold Dk.dataS
      rw [hl, List.drop_set_of_lt (by omega)]
    rw [this]
    exact hL
theorem Lay.nxt {D : Dk} {a n now fro : Nat} {E : List (Nat × List UInt8)} (h : Lay D a n now fro E) (ht : now < 4294967295) (g : Lg) (hg : g.at_ = a ∧ g.now = now) (f : Nat) :
    (g.nxt D f).2 = ({ g with now := now + 1, fro := f }, 0) ∧ quiet (g.nxt D f).1 ∧ (g.nxt D f).1.lasts = D.lasts.set a (secB (headR (now + 1) f)) ∧ (g.nxt D f).1.secs.length = D.secs.length ∧ (∀ (i : Nat) (s : Sec), (g.nxt D f).1.secs[i]? = some s → s.wait = []) := by
  obtain ⟨e1, e2, e3, e4, e5⟩ := sb_quiet h.q (a := a) (x := secB (headR (now + 1) f)) (by have := h.fit; have := h.two; omega) (secB_len (head_fit (by omega)))
  have hx : g.nxt D f = ((D.sb a (secB (headR (now + 1) f))).1, { g with now := now + 1, fro := f }, 0) := by
    unfold Lg.nxt
    rw [hg.1, hg.2, if_neg (by omega), if_pos e1]
  rw [hx]
  exact ⟨rfl, e2, e3, e4, e5⟩
theorem Lay.opn {D : Dk} {a n now fro : Nat} {E : List (Nat × List UInt8)} (h : Lay D a n now fro E) (ht : now < 4294967295) :
    ∃ D', D.opn a n = (D', some ⟨a, n, now + 1, fro, E.map (·.2), usedBy E, E.length, false⟩, 0) ∧ Lay D' a n (now + 1) fro E ∧ D'.secs.length = D.secs.length ∧ (∀ (i : Nat) (s : Sec), D'.secs[i]? = some s → s.wait = []) ∧ D'.dataS a n = D.dataS a n := by
  have hf : num (headR now fro).data = fro := num_head (by have := h.log.ord; have := h.log.top; omega)
  obtain ⟨e1, e2, e3, e4, e5⟩ := h.nxt ht ⟨a, n, now, fro, E.map (·.2), usedBy E, E.length, false⟩ ⟨rfl, rfl⟩ fro
  refine ⟨_, ?_, h.newHead e2 e3 e4 (h.log.opened (by omega)), e4, e5, by unfold Dk.dataS; rw [e3, List.drop_set_of_lt (by omega)]⟩
  unfold Dk.opn
  rw [if_pos h.place, if_neg (by rw [h.q.2]; decide)]
  simp only [Int.toNat_natCast, h.headAt, h.found, hf]
  rw [e1]
  rfl
/-- A log that was opened, and stands. -/
structure On (D : Dk) (g : Lg) (E : List (Nat × List UInt8)) : Prop where
  lay : Lay D g.at_ g.size g.now g.fro E
  recs : g.L = E.map (·.2)
  used : g.used = usedBy E
  live : g.gone = false
theorem secsOf_256 {e k : Nat} {d : List UInt8} (he : e < 4294967296) : ∀ x ∈ secsOf e k d, x.length = 256 := fun x hx => by
  simp only [secsOf, List.mem_map] at hx
  obtain ⟨i, _, rfl⟩ := hx
  exact secOf_len he
theorem put_data (S : List (List UInt8)) (a n u : Nat) (xs : List (List UInt8)) (hf : a + n ≤ S.length) (hu : u + xs.length ≤ n - 1) (h2 : 2 ≤ n) : ((putSecs S (a + 1 + u) xs).drop (a + 1)).take (n - 1) = putSecs ((S.drop (a + 1)).take (n - 1)) u xs := by
  unfold putSecs
  rw [List.drop_append_of_le_length (by rw [List.length_take]; omega), List.drop_take, show a + 1 + u - (a + 1) = u by omega]
  have e1 : ((S.drop (a + 1)).take (n - 1)).take u = (S.drop (a + 1)).take u := by rw [List.take_take, Nat.min_eq_left (by omega)]
  have e2 : ((S.drop (a + 1)).take (n - 1)).drop (u + xs.length) = (S.drop (a + 1 + u + xs.length)).take (n - 1 - u - xs.length) := by
    rw [List.drop_take, List.drop_drop, show a + 1 + (u + xs.length) = a + 1 + u + xs.length by omega, show n - 1 - (u + xs.length) = n - 1 - u - xs.length by omega]
  rw [e1, e2]
  have hPl : ((S.drop (a + 1)).take u).length = u := by rw [List.length_take, List.length_drop]; omega
  generalize (S.drop (a + 1)).take u = P at *
  rw [List.take_append, List.take_of_length_le (show P.length ≤ n - 1 by omega), hPl, List.take_append, List.take_of_length_le (show xs.length ≤ n - 1 - u by omega)]
theorem On.append {D : Dk} {g : Lg} {E : List (Nat × List UInt8)} (h : On D g E) (d : List UInt8) (hd : d.length ≤ 4096) (hr : usedBy E + need d.length ≤ g.size - 1) :
    ∃ D', g.apd D d = (D', { g with used := g.used + need d.length, L := g.L ++ [d] }, 0) ∧ On D' { g with used := g.used + need d.length, L := g.L ++ [d] } (E ++ [(g.now, d)]) ∧ D'.secs.length = D.secs.length := by
  have hfit := h.lay.fit
  have h2 := h.lay.two
  have hsl := secsOf_len g.now g.used d
  obtain ⟨e1, e2, e3, e4⟩ := stores_quiet (secsOf g.now g.used d) D (g.at_ + 1 + g.used) h.lay.q (by rw [hsl, h.used]; omega) (secsOf_256 h.lay.log.top)
  have ha : (Lg.apd g D d) = ((D.stores (g.at_ + 1 + g.used) (secsOf g.now g.used d)).1, { g with used := g.used + need d.length, L := g.L ++ [d] }, 0) := by
    unfold Lg.apd
    rw [if_neg (by rw [h.live]; decide), if_neg (by omega), if_neg (by rw [h.used]; omega), if_pos e1]
  refine ⟨_, ha, ⟨⟨e2, h2, by rw [e4]; exact hfit, by rw [e4]; exact h.lay.most, ?_, ?_⟩, by simp [h.recs], by rw [usedBy_snoc, h.used], h.live⟩, e4⟩
  · show (D.stores (g.at_ + 1 + g.used) (secsOf g.now g.used d)).1.lasts[g.at_]? = _
    rw [e3]
    unfold putSecs
    rw [List.getElem?_append_left (by rw [List.length_take, lasts_len]; omega), List.getElem?_take, if_pos (by omega)]
    exact h.lay.head
  · have e5 : (D.stores (g.at_ + 1 + g.used) (secsOf g.now g.used d)).1.dataS g.at_ g.size = putSecs (D.dataS g.at_ g.size) g.used (secsOf g.now g.used d) := by
      unfold Dk.dataS
      rw [e3]
      exact put_data D.lasts g.at_ g.size g.used _ (by rw [lasts_len]; exact hfit) (by rw [hsl, h.used]; omega) h2
    show LogOn ((D.stores (g.at_ + 1 + g.used) (secsOf g.now g.used d)).1.dataS g.at_ g.size) g.now g.fro (E ++ [(g.now, d)])
    rw [e5, h.used]
    exact h.lay.log.append d hd (by rw [data_len h2 hfit]; exact hr)
theorem On.full {D : Dk} {g : Lg} {E : List (Nat × List UInt8)} (h : On D g E) (d : List UInt8) (hd : d.length ≤ 4096) (hr : g.size - 1 - usedBy E < need d.length) : g.apd D d = (D, g, 4) := by
  unfold Lg.apd
  rw [if_neg (by rw [h.live]; decide), if_neg (by omega), if_pos (by rw [h.used]; exact hr)]
theorem On.long {D : Dk} {g : Lg} {E : List (Nat × List UInt8)} (h : On D g E) (d : List UInt8) (hd : 4096 < d.length) : g.apd D d = (D, g, 3) := by
  unfold Lg.apd
  rw [if_neg (by rw [h.live]; decide), if_pos hd]
theorem On.flush {D : Dk} {g : Lg} {E : List (Nat × List UInt8)} (h : On D g E) : g.flu D = (D.ba, { g with count := g.L.length }, 0) ∧ On D.ba { g with count := g.L.length } E ∧ D.ba.secs.length = D.secs.length ∧ (∀ (i : Nat) (s : Sec), D.ba.secs[i]? = some s → s.wait = []) := by
  obtain ⟨e1, e2, e3, e4⟩ := ba_quiet h.lay.q
  refine ⟨?_, ⟨⟨e2, h.lay.two, by rw [e3]; exact h.lay.fit, by rw [e3]; exact h.lay.most, ?_, ?_⟩, h.recs, h.used, h.live⟩, e3, e4⟩
  · unfold Lg.flu
    rw [if_neg (by rw [h.live]; decide), if_pos e1]
  · rw [ba_lasts]
    exact h.lay.head
  · have : D.ba.dataS g.at_ g.size = D.dataS g.at_ g.size := by unfold Dk.dataS; rw [ba_lasts]
    show LogOn (D.ba.dataS g.at_ g.size) g.now g.fro E
    rw [this]
    exact h.lay.log
theorem Lay.on {D : Dk} {a n now fro : Nat} {E : List (Nat × List UInt8)} (h : Lay D a n now fro E) (c : Nat) : On D ⟨a, n, now, fro, E.map (·.2), usedBy E, c, false⟩ E := ⟨h, rfl, rfl, rfl⟩
/-- A disk that was formatted. -/
theorem fmt_quiet {D : Dk} (q : quiet D) {a n : Nat} (h2 : 2 ≤ n) (hf : a + n ≤ D.secs.length) (hm : D.secs.length ≤ 4096) (hdead : ∀ (i : Nat) (b : List UInt8), (D.dataS a n)[i]? = some b → deadS 1 b) :
    ∃ D', D.fmt a n = (D', 0) ∧ Lay D' a n 1 1 [] ∧ D'.secs.length = D.secs.length ∧ (∀ (i : Nat) (s : Sec), D'.secs[i]? = some s → s.wait = []) := by
  obtain ⟨e1, e2, e3, e4, e5⟩ := sb_quiet q (a := a) (x := secB (headR 1 1)) (by omega) (secB_len (head_fit (by omega)))
  refine ⟨(D.sb a (secB (headR 1 1))).1, ?_, ⟨e2, h2, by rw [e4]; exact hf, by rw [e4]; exact hm, ?_, ?_⟩, e4, e5⟩
  · unfold Dk.fmt
    rw [if_pos (by unfold placeOk; omega), Int.toNat_natCast]
    exact Prod.ext rfl e1
  · rw [e3]
    exact List.getElem?_set_self (by rw [lasts_len]; omega)
  · have : (D.sb a (secB (headR 1 1))).1.dataS a n = D.dataS a n := by
      unfold Dk.dataS
      rw [e3, List.drop_set_of_lt (by omega)]
    rw [this]
    exact ⟨trivial, by simp [usedBy], by rw [data_len h2 hf]; omega, by simp [usedBy, allSecs], fun i b _ hb => hdead i b hb, Nat.le_refl _, by omega⟩
theorem fresh_dead {L a n : Nat} : ∀ (i : Nat) (b : List UInt8), ((Dk.fresh L).dataS a n)[i]? = some b → deadS 1 b := fun i b hb => by
  have hm : b ∈ (Dk.fresh L).lasts := by
    unfold Dk.dataS at hb
    have := List.mem_of_getElem? hb
    exact List.mem_of_mem_drop (List.mem_of_mem_take this)
  simp only [Dk.lasts, Dk.fresh, List.mem_map, List.mem_replicate] at hm
  obtain ⟨s, ⟨_, rfl⟩, rfl⟩ := hm
  exact dead_nought 1

end Go.Proofs.YtfggahkimconfaaGreatDoor

/- append of so many noughts onto bytes of one's own (append(b, make([]byte, n)...)). -/
namespace Go.Proofs.YtfggahkimconfaaGreatDoor
open Go.RowKit
set_option linter.unusedVariables false

def zv (m : Nat) : List Value := List.replicate m (.int .u8 0)
theorem zeroCells_u8 (m : Nat) : Builtin.zeroCells #[Value.int .u8 0] m = (zv m).toArray := by
  apply Array.ext'
  apply List.ext_getElem?
  intro j
  unfold Builtin.zeroCells zv
  simp only [Array.toList_map, Array.toList_range, List.getElem?_map, List.getElem?_replicate]
  by_cases hj : j < m
  · simp [hj, Nat.mod_one]
  · simp [hj]

theorem run_append_zeros (w : World) (base g n cap m : Nat) (ty : TypeId) (xs : List Value) (hown : w.ownsRow base 5 1 (.slice (some ⟨g, 0, none⟩) n cap) n xs) (hm : 0 < m) (hmax : n + m ≤ 1000000) (hbase : base ≤ w.heap.size) :
    ∃ v' w', (Builtin.append_ #[43, 3] ty #[.slice (some ⟨g, 0, none⟩) n cap, .int .i64 (m : Int)]).run Tryz.prog w = .ok v' w' ∧ w'.ownsRow base 5 1 v' (n + m) (xs ++ zv m) ∧ w.grownBy w' (some g) := by
  obtain ⟨i, hi, hz0, hz1, hz2⟩ := info_parts infoB
  have ht : Tryz.prog.underlying 43 = some (.slice 5) := Tryz.underlying43
  have hti : Tryz.prog.underlying 3 = some (.int .i64) := by kernel_rfl
  have hwr : IntKind.i64.wrap (m : Int) = (m : Int) := by rw [IntKind.wrap_i64]; omega
  have h0 : ¬ ((m : Int) < 0) := by omega
  have h48 : ¬ (281474976710656 < (m : Int)) := by omega
  have hm0 : ¬ m = 0 := by omega
  have hzl : (zv m).length = m := by simp [zv]
  have hone : ∀ u ∈ zv m, u.oneCell' = true := fun u hu => by
    have := (List.mem_replicate.1 hu).2
    subst this
    rfl
  have hxl : xs.length = n := by have := hown.1; omega
  have hzc := zeroCells_u8
  rcases hown.2 with ⟨e, _⟩ | ⟨q, cap', cur, e, hbg, hg, hnc, hcm, hcs, htake⟩
  · cases e
  injection e with e1 _ e2
  injection e1 with e1
  injection e1 with e1
  subst e1
  subst e2
  by_cases hroom : n + m ≤ cap
  · have hst := run_storeCells_at Tryz.prog g n 5 (zv m) 0 cur w hg (by rw [hzl]; omega) hone
    simp only [Nat.add_zero] at hst
    refine ⟨.slice (some ⟨g, 0, none⟩) (n + m) cap, w.setRow g (cur.toList.take n ++ zv m ++ cur.toList.drop (n + (zv m).length)).toArray, ?_, ?_, ?_⟩
    · simp [Builtin.append_, run_underlying ht, run_underlying hti, sizeOf, typeInfo, zeroValue, hi, hz0, hz1, hz2, asInt, asIntOf, hwr, h0, h48, hm0, hroom, Addr.add_lit, hzc, Value.cells, hst]
    · refine ⟨by rw [List.length_append, hxl, hzl]; omega, .inr ⟨g, cap, _, rfl, hbg, setRow_heap w g cur _ _ _ hg, hroom, hcm, ?_, ?_⟩⟩
      · simp only [List.size_toArray, List.length_append, List.length_take, List.length_drop, Array.length_toList, hzl]
        omega
      · have ht2 : cur.toList.take n = xs := by have := htake; rwa [Nat.mul_one] at this
        rw [ht2, Nat.mul_one]
        have hl2 : (xs ++ zv m).length = n + m := by rw [List.length_append, hxl, hzl]
        rw [← hl2]
        exact List.take_left
    · exact ⟨rfl, rfl, rfl, by simp, fun k _ hk => setRow_other w g k _ (fun e => hk (by rw [e]))⟩
  · have h63' : ¬ (9223372036854775807 < ((n : Int) + (m : Int))) := by omega
    have hfit : ¬ (281474976710656 < Builtin.nextslicecap (n + m) cap) := by
      have := growslice_fits (need := n + m) (old := cap) (bytes := 1) (by omega) (by omega)
      omega
    have holds : ∀ j u, xs[j]? = some u → w.cell? ((⟨g, 0, none⟩ : Addr).add j) = some u := hown.cells (g := g) rfl
    have hfo := run_firstCells_some (P := Tryz.prog) w.drew 1 n ⟨g, 0, none⟩ n cap xs (by omega) (by simpa using holds)
    refine ⟨.slice (some ⟨w.heap.size, 0, none⟩) (n + m) (grownCap w (n + m) cap 5), w.drew.alloc (.cells (xs.toArray ++ (zv m).toArray ++ Builtin.zeroCells (#[Value.int .u8 0]) (grownCap w (n + m) cap 5 - (n + m))) 5), ?_, ?_, ?_⟩
    · simp [Builtin.append_, run_underlying ht, run_underlying hti, sizeOf, typeInfo, zeroValue, hi, hz0, hz1, hz2, asInt, asIntOf, hwr, h0, h48, hm0, hroom, h63', hfit, Question.forced, hfo, newRow, grownCap, hzc, Value.cells]
    · have hge := grownCap_ge w (n + m) cap 5
      have hcm2 : grownCap w (n + m) cap 5 ≤ maxLen := grownCap_le_maxLen w (n + m) cap 5 (by unfold maxLen; omega)
      refine ⟨by rw [List.length_append, hxl, hzl]; omega, .inr ⟨w.heap.size, _, _, rfl, hbase, heap_alloc_new w.drew _, hge, hcm2, ?_, ?_⟩⟩
      · rw [hzc]
        simp only [Array.size_append, List.size_toArray, hzl, hxl]
        simp [zv]
        omega
      · rw [hzc]
        simp only [Array.toList_append]
        have hl2 : (xs ++ zv m).length = (n + m) * 1 := by rw [List.length_append, hxl, hzl]; omega
        rw [← hl2]
        exact List.take_left
    · exact ⟨rfl, rfl, rfl, by simp, fun k hk _ => heap_alloc_old w.drew _ hk⟩

end Go.Proofs.YtfggahkimconfaaGreatDoor

/- The contracts of the document's own log: four, number, sector, head, read. -/
namespace Go.Proofs.YtfggahkimconfaaGreatDoor
open Go.RowKit
set_option linter.unusedVariables false

theorem zv_bv (m : Nat) : zv m = bv (zeros m) := by simp [zv, bv, zeros]
theorem append_zeros (w : World) {ops : Array Oper} {rest : List Oper} {o : Oper} {a : Act} {Q : Exit → Act → World → Prop} (hgd : o.guard = none) (s x : Operand)
    (ho : o.op = .call { callee := .builtin .append, args := #[s, x], argTypes := #[43, 3] }) (base g n cap m : Nat) (l : List UInt8) (hs : a.eval s = .slice (some ⟨g, 0, none⟩) n cap) (hx : a.eval x = .int .i64 (m : Int))
    (hown : w.ownsRow base 5 1 (.slice (some ⟨g, 0, none⟩) n cap) n (bv l)) (hm : 0 < m) (hmax : n + m ≤ 1000000) (hbase : base ≤ w.heap.size)
    (h : ∀ v' w', w'.ownsRow base 5 1 v' (n + m) (bv (l ++ zeros m)) → w.grownBy w' (some g) → wpList Tryz.prog ops Q rest (a.put o.dst v') w') : wpList Tryz.prog ops Q (o :: rest) a w := by
  refine wpList_plain hgd fun K hK => ?_
  obtain ⟨v', w', hr, h2, h3⟩ := run_append_zeros w base g n cap m o.type (bv l) hown hm hmax hbase
  rw [zv_bv, ← bv_append] at h2
  unfold Oper.wp execOp
  simp only [ho, resolve, invoke, builtin, Sem.run_bind, Sem.run_pure, Result.andThen_ok, List.map_toArray, List.map_cons, List.map_nil, hs, hx, hr]
  exact hK _ _ (h v' w' h2 h3)

set_option maxHeartbeats 400000 in
theorem vfour_any (w : World) (n : Nat) (hn : n < W32) :
    Calls Tryz.prog 56 #[.int .i64 (n : Int)] w fun e w' => e = .returned (str (be4 n)) ∧ Below w.heap.size w w' := by
  have hn' : n < 4294967296 := hn
  have hcv := conv_bytes (w.alloc (.cells (bv (be4 n)).toArray 5)) (some ⟨w.heap.size, 0, none⟩) (be4 n) 4 (bytes_of_block (heap_alloc_last w _))
  rw [be4_len] at hcv
  have hm : (n : Int) / 16777216 % 256 = (n : Int) / 16777216 := by omega
  have hfb : Below w.heap.size w (w.alloc (.cells (bv (be4 n)).toArray 5)) := (Below.refl _ _).alloc (Nat.le_refl _) _
  unfold str
  generalize (⟨(be4 n).toArray⟩ : ByteArray) = st at *
  rw [bv_be4 n, hm] at hcv hfb
  have FB := hide hfb
  clear hm hfb
  go_enter Tryz.func56, Tryz.ntmps56
  go_wp2
  go_ret
  exact ⟨rfl, unhide FB⟩

theorem num_get {l : List UInt8} {b0 b1 b2 b3 : UInt8} (h0 : l[0]? = some b0) (h1 : l[1]? = some b1) (h2 : l[2]? = some b2) (h3 : l[3]? = some b3) : (num l : Int) = (b0.toNat : Int) * 16777216 + (b1.toNat : Int) * 65536 + (b2.toNat : Int) * 256 + (b3.toNat : Int) := by
  unfold num
  simp only [List.getD_eq_getElem?_getD, h0, h1, h2, h3, Option.getD_some]
  omega
theorem str_index (l : List UInt8) (i : Nat) (b : UInt8) (h : l[i]? = some b) : ∀ w, (Instr.index 9 (str l) (.int .i64 (i : Int))).run Tryz.prog w = .ok (.int .u8 (b.toNat : Int)) w := fun w => by
  have hl : i < l.length := (List.getElem?_eq_some_iff.1 h).1
  have hb := (List.getElem?_eq_some_iff.1 h).2
  have hs : (⟨l.toArray⟩ : ByteArray).size = l.length := by simp [ByteArray.size]
  have := run_index_string (P := Tryz.prog) (w := w) 9 ⟨l.toArray⟩ .i64 (i : Int) (by kernel_rfl)
  rw [dif_pos ⟨by omega, by rw [hs]; omega⟩] at this
  unfold str
  rw [this]
  have e : (⟨l.toArray⟩ : ByteArray)[(i : Int).toNat]'(by rw [hs]; omega) = b := by
    rw [← hb]
    simp [ByteArray.getElem_eq_getElem_data]
  rw [e]
set_option maxHeartbeats 800000 in
theorem vnumber_any (w : World) (l : List UInt8) (h4 : 4 ≤ l.length) :
    Calls Tryz.prog 44 #[str l] w fun e w' => e = .returned (.int .i64 (num l : Int)) ∧ ∃ m, w' = w.drewN m := by
  obtain ⟨b0, h0⟩ : ∃ x, l[0]? = some x := ⟨_, List.getElem?_eq_getElem (by omega)⟩
  obtain ⟨b1, h1⟩ : ∃ x, l[1]? = some x := ⟨_, List.getElem?_eq_getElem (by omega)⟩
  obtain ⟨b2, h2⟩ : ∃ x, l[2]? = some x := ⟨_, List.getElem?_eq_getElem (by omega)⟩
  obtain ⟨b3, h3⟩ : ∃ x, l[3]? = some x := ⟨_, List.getElem?_eq_getElem (by omega)⟩
  have hnum := num_get h0 h1 h2 h3
  have l0 := b0.toNat_lt
  have l1 := b1.toNat_lt
  have l2 := b2.toNat_lt
  have l3 := b3.toNat_lt
  rw [hnum]
  have i0 : ∀ w, (Instr.index 9 (str l) (.int .i64 0)).run Tryz.prog w = .ok (.int .u8 (b0.toNat : Int)) w := str_index l 0 b0 h0
  have i1 : ∀ w, (Instr.index 9 (str l) (.int .i64 1)).run Tryz.prog w = .ok (.int .u8 (b1.toNat : Int)) w := str_index l 1 b1 h1
  have i2 : ∀ w, (Instr.index 9 (str l) (.int .i64 2)).run Tryz.prog w = .ok (.int .u8 (b2.toNat : Int)) w := str_index l 2 b2 h2
  have i3 : ∀ w, (Instr.index 9 (str l) (.int .i64 3)).run Tryz.prog w = .ok (.int .u8 (b3.toNat : Int)) w := str_index l 3 b3 h3
  unfold str at *
  generalize (⟨l.toArray⟩ : ByteArray) = st at *
  clear h0 h1 h2 h3 hnum
  go_enter Tryz.func44, Tryz.ntmps44
  go_wp2
  go_quiet (fail)
  go_wp2
  go_ret
  exact ⟨rfl, _, rfl⟩

theorem append_zeros0 (w : World) {ops : Array Oper} {rest : List Oper} {o : Oper} {a : Act} {Q : Exit → Act → World → Prop} (hgd : o.guard = none) (s x : Operand)
    (ho : o.op = .call { callee := .builtin .append, args := #[s, x], argTypes := #[43, 3] }) (g n cap : Nat) (hs : a.eval s = .slice (some ⟨g, 0, none⟩) n cap) (hx : a.eval x = .int .i64 0) (hc : n ≤ cap)
    (h : wpList Tryz.prog ops Q rest (a.put o.dst (.slice (some ⟨g, 0, none⟩) n cap)) w) : wpList Tryz.prog ops Q (o :: rest) a w := by
  refine wpList_plain hgd fun K hK => ?_
  have hr : (Builtin.append_ #[43, 3] o.type #[.slice (some ⟨g, 0, none⟩) n cap, .int .i64 0]).run Tryz.prog w = .ok (.slice (some ⟨g, 0, none⟩) n cap) w := by
    obtain ⟨i, hi, hz0, hz1, hz2⟩ := info_parts infoB
    have ht : Tryz.prog.underlying 43 = some (.slice 5) := Tryz.underlying43
    have hti : Tryz.prog.underlying 3 = some (.int .i64) := by kernel_rfl
    have hwr : IntKind.i64.wrap 0 = 0 := by rw [IntKind.wrap_i64]; omega
    simp [Builtin.append_, run_underlying ht, run_underlying hti, sizeOf, typeInfo, zeroValue, hi, hz0, hz2, asInt, asIntOf, hwr, hc, Addr.add_lit, storeCells]
  unfold Oper.wp execOp
  simp only [ho, resolve, invoke, builtin, Sem.run_bind, Sem.run_pure, Result.andThen_ok, List.map_toArray, List.map_cons, List.map_nil, hs, hx, hr]
  exact hK _ _ h

set_option maxRecDepth 100000 in
set_option maxHeartbeats 800000 in
theorem vsector_any (w : World) (r : Rec) (h : fitS r) :
    Calls Tryz.prog 55 #[recV r] w fun e w' => ∃ v, e = .returned v ∧ w'.ownsRow w.heap.size 5 1 v 256 (bv (secB r)) ∧ Below w.heap.size w w' := by
  have hA := heap_alloc_last w (.cells #[.int .i64 r.epoch, .string ⟨r.data.toArray⟩] 85)
  have fb : Below w.heap.size w (w.alloc (.cells #[.int .i64 r.epoch, .string ⟨r.data.toArray⟩] 85)) := (Below.refl _ _).alloc (Nat.le_refl _) _
  have H1 := hide (zWrite_ok (w.alloc (.cells #[.int .i64 r.epoch, .string ⟨r.data.toArray⟩] 85)) r h.1)
  have hsz : (w.alloc (.cells #[.int .i64 r.epoch, .string ⟨r.data.toArray⟩] 85)).heap.size = w.heap.size + 1 := by simp
  have hd := h.2
  rw [secB_ok h]
  unfold recV at *
  generalize hwb : w.alloc (.cells #[.int .i64 r.epoch, .string ⟨r.data.toArray⟩] 85) = wb at *
  have c0 : wb.cell? ⟨w.heap.size, 0, none⟩ = some (.int .i64 r.epoch) := by rw [cell_of_row _ _ _ _ _ _ hA]; rfl
  have c1 : wb.cell? ⟨w.heap.size, 1, none⟩ = some (.string ⟨r.data.toArray⟩) := by rw [cell_of_row _ _ _ _ _ _ hA]; rfl
  obtain ⟨n, hn⟩ : ∃ n, n = r.data.length + 12 := ⟨_, rfl⟩
  obtain ⟨m, hm⟩ : ∃ m, m = 244 - r.data.length := ⟨_, rfl⟩
  rw [← hm]
  rw [← hn] at H1
  have hrl : (recL r).length = n := by rw [rec_len]; omega
  generalize recL r = l at *
  generalize r.epoch = ep at *
  generalize (⟨r.data.toArray⟩ : ByteArray) = st at *
  have hnm : n + m = 256 := by omega
  have gm : (256 : Int) - (n : Int) = (m : Int) := by omega
  have hn12 : 12 ≤ n := by omega
  have FB := hide fb
  have HW := hide hwb
  clear fb hA hd hn hm hwb h
  go_enter Tryz.func55, Tryz.ntmps55
  go_wp2_with fail
  rw [unhide HW]
  refine (unhide H1).mono ?_
  rintro e w1 ⟨v1, rfl, o1, f1⟩
  obtain ⟨g1, cap1, rfl, _, hnc⟩ := o1.form (by omega)
  have hcp := (own_cap o1).1
  have hb1 : w.heap.size ≤ g1 := by have := (o1.lt g1 rfl).1; omega
  have f2 : Below w.heap.size w w1 := (unhide FB).trans (f1.mono (by omega))
  have O1 := hide o1
  have F2 := hide f2
  clear o1 f1 f2 H1
  by_cases hm0 : m = 0
  · subst hm0
    obtain rfl : 256 = n := by omega
    clear gm hnm
    go_wp2_with (at_builtin; refine append_zeros0 _ rfl (.tmp 10) (.tmp 13) rfl g1 256 cap1 rfl rfl hcp ?_)
    go_wp2
    go_ret
    refine ⟨_, rfl, ?_, unhide F2⟩
    rw [show l ++ zeros 0 = l from List.append_nil l]
    exact own_base (unhide O1) (show w.heap.size ≤ wb.heap.size by omega)
  · go_wp2_with (at_builtin; refine append_zeros _ rfl (.tmp 10) (.tmp 13) rfl w.heap.size g1 n cap1 m l rfl rfl ?c1 (by omega) (by omega) (unhide F2).size ?_)
    case c1 => exact own_base (unhide O1) (by omega)
    intro v3 w3 o3 g3
    have O3 := hide o3
    have F3 := hide ((unhide F2).grown g3 (unhide F2).size (fun x hx => by injection hx with hx; subst hx; exact hb1))
    clear o3 g3
    go_wp2
    go_ret
    exact ⟨_, rfl, unhide O3, unhide F3⟩

set_option maxHeartbeats 800000 in
theorem vhead_any (w : World) (now fro : Nat) (hn : now < 4294967296) (hf : fro < 4294967296) :
    Calls Tryz.prog 37 #[.int .i64 (now : Int), .int .i64 (fro : Int)] w fun e w' => ∃ v, e = .returned v ∧ w'.ownsRow w.heap.size 5 1 v 256 (bv (secB (headR now fro))) ∧ Below w.heap.size w w' := by
  have H1 := hide (vfour_any w fro hf)
  have H2 : Hid (∀ W : World, Below w.heap.size w W → Calls Tryz.prog 55 #[.agg #[.int .i64 (now : Int), str (be4 fro)]] W fun e w' => ∃ v, e = .returned v ∧ w'.ownsRow w.heap.size 5 1 v 256 (bv (secB (headR now fro))) ∧ Below w.heap.size w w') := fun W f => by
    refine (vsector_any W (headR now fro) (head_fit hn)).mono ?_
    rintro e w' ⟨v, rfl, o, f'⟩
    exact ⟨v, rfl, own_base o f.size, f.trans (f'.mono f.size)⟩
  unfold str at *
  generalize (⟨(be4 fro).toArray⟩ : ByteArray) = st at *
  generalize secB (headR now fro) = sb at *
  go_enter Tryz.func37, Tryz.ntmps37
  go_wp2_with fail
  refine (unhide H1).mono ?_
  rintro e w1 ⟨rfl, f1⟩
  have H3 := hide (unhide H2 _ f1)
  clear H1 H2 f1
  go_wp2_with fail
  refine (unhide H3).mono ?_
  rintro e w2 ⟨v2, rfl, o2, f2⟩
  have O2 := hide o2
  have F2 := hide f2
  clear H3 o2 f2
  go_wp2
  go_ret
  exact ⟨_, rfl, unhide O2, unhide F2⟩

theorem first_ok {l : List UInt8} (h : firstE l = 0) : recOk (firstR l) ∧ num l + 12 ≤ l.length ∧ (firstR l).data.length = num l := by
  unfold firstE at h
  split at h
  · exact absurd h (by decide)
  · split at h
    · exact absurd h (by decide)
    · split at h
      · exact absurd h (by decide)
      · have hn : num (l.drop 4) < 4294967296 := num_le _
        have hd : (firstR l).data.length = num l := by
          show ((l.drop 8).take (num l)).length = _
          rw [List.length_take, List.length_drop]
          omega
        refine ⟨⟨?_, ?_, by omega⟩, by omega, hd⟩
        · show (0 : Int) ≤ (num (l.drop 4) : Int); omega
        · show (num (l.drop 4) : Int) ≤ 4294967295; omega

theorem rec_results1 {fn : Func} (h : fn.results = #[.cell 2 85, .tmp 3]) (w : World) (A : Nat) (c0 c1 : Value) (h0 : w.cell? ⟨A, 0, none⟩ = some c0) (h1 : w.cell? ⟨A, 1, none⟩ = some c1) (o0 : c0.oneCell' = true) (o1 : c1.oneCell' = true) (tmps : Array Value) (hp : tmps.getD 2 undef = .pointer (some ⟨A, 0, none⟩)) :
    (results fn tmps).run Tryz.prog w = .ok (.tuple #[.agg #[c0, c1], tmps.getD 3 undef]) w := by
  rw [results_cell_tmp h, hp]
  go_simp

set_option maxRecDepth 100000 in
set_option maxHeartbeats 1600000 in
theorem vread_any (w : World) (b o cap : Nat) (l : List UInt8) (hl : l.length = 256) (hc : 256 ≤ cap) (hcap : cap ≤ 9223372036854775807) (h : BytesAt w (some ⟨b, o, none⟩) l) :
    Calls Tryz.prog 43 #[.slice (some ⟨b, o, none⟩) 256 cap] w fun e w' => e = .returned (.tuple #[recV ((readS l).getD rec0), .bool (readS l).isSome]) ∧ Below w.heap.size w w' := by
  have hA := heap_alloc_last w (.cells #[.int .i64 0, .string ⟨#[]⟩] 85)
  have fb : Below w.heap.size w (w.alloc (.cells #[.int .i64 0, .string ⟨#[]⟩] 85)) := (Below.refl _ _).alloc (Nat.le_refl _) _
  generalize hwb : w.alloc (.cells #[.int .i64 0, .string ⟨#[]⟩] 85) = wb at *
  have hws : wb.heap.size = w.heap.size + 1 := by rw [← hwb]; simp
  have H1 := hide (zFirst_any wb (some ⟨b, o, none⟩) 256 cap l hc hcap (by omega) ⟨hl, .inr ⟨b, o, rfl, h.below fb⟩⟩)
  have FB := hide fb
  have HW := hide hwb
  have HA := hide hA
  have HB := hide h
  clear fb hA hwb h
  by_cases hE : firstE l = 0
  · obtain ⟨hro, hnl, hdl⟩ := first_ok hE
    have hfit : fitS (firstR l) := ⟨hro, by omega⟩
    have e2 : firstQ l = firstR l := by unfold firstQ; rw [if_pos hE]
    obtain ⟨N, hN⟩ : ∃ N, N = num l + 12 := ⟨_, rfl⟩
    have e3 : firstN l = N := by unfold firstN; rw [if_pos hE, hN]
    have e1 : readS l = if secB (firstR l) = l then some (firstR l) else none := by
      unfold readS
      by_cases hb : secB (firstR l) = l
      · rw [if_pos ⟨hE, by omega, hb⟩, if_pos hb]
      · rw [if_neg (fun h => hb h.2.2), if_neg hb]
    have gN : decide ((256 : Int) < (N : Int)) = false := by simp; omega
    have H2 : Hid (∀ W, Below w.heap.size w W → Calls Tryz.prog 55 #[recV (firstR l)] W fun e w' => ∃ a1 c1, e = .returned (.slice a1 256 c1) ∧ Below W.heap.size W w' ∧ ∀ W2, Below w'.heap.size w' W2 → Calls Tryz.prog 11 #[.slice a1 256 c1, .slice (some ⟨b, o, none⟩) 256 cap] W2 fun e w' => e = .returned (.bool (decide (secB (firstR l) = l))) ∧ w' = W2) := fun W f => by
      refine (vsector_any W (firstR l) hfit).mono ?_
      rintro e w' ⟨v, rfl, o', f'⟩
      have hsl := secB_len hfit
      obtain ⟨g1, c1, rfl, _, _⟩ := o'.form (by omega)
      refine ⟨_, c1, rfl, f', fun W2 f2 => ?_⟩
      exact SameBytes_n W2 _ _ _ _ 256 256 c1 cap ((bs_of_own hsl o').below f2).at ((unhide HB).below (f.trans ((f'.mono f.size).trans (f2.mono (Nat.le_trans f.size f'.size))))) hsl hl
    rw [e1]
    rw [hE, e2, e3] at H1
    have hR : recV (firstR l) = .agg #[.int .i64 (num (l.drop 4) : Int), .string ⟨((l.drop 8).take (num l)).toArray⟩] := rfl
    by_cases hS : secB (firstR l) = l
    · rw [if_pos hS]
      show Calls _ _ _ _ fun e w' => e = .returned (.tuple #[recV (firstR l), .bool true]) ∧ _
      rw [decide_eq_true hS] at H2
      rw [hR] at H1 H2 ⊢
      generalize hs : (⟨((l.drop 8).take (num l)).toArray⟩ : ByteArray) = st at *
      clear hs hR hfit hS e1 e2 e3 hN hE hro hnl hdl
      generalize num (l.drop 4) = ep at *
      go_enter Tryz.func43, Tryz.ntmps43
      go_wp2_with fail
      rw [unhide HW]
      refine (unhide H1).mono ?_
      rintro e w1 ⟨rfl, f1⟩
      have hA1 := (f1.block w.heap.size (by omega)).trans (unhide HA)
      have f1' : Below w.heap.size w w1 := (unhide FB).trans (f1.mono (by omega))
      have hq1 := f1.size
      clear f1 H1
      go_upto_region 2 with fail
      have hA2 := (heap_alloc_old w1 (.cells #[.int .i64 (ep : Int), .string st] 85) (lt_of_heap hA1)).trans hA1
      have hB2 := heap_alloc_last w1 (.cells #[.int .i64 (ep : Int), .string st] 85)
      have f2 : Below w.heap.size w (w1.alloc (.cells #[.int .i64 (ep : Int), .string st] 85)) := f1'.alloc f1'.size _
      generalize w1.alloc (.cells #[.int .i64 (ep : Int), .string st] 85) = w2 at *
      have c0 : w2.cell? ⟨w1.heap.size, 0, none⟩ = some (.int .i64 (ep : Int)) := by rw [cell_of_row _ _ _ _ _ _ hB2]; rfl
      have c1 : w2.cell? ⟨w1.heap.size, 1, none⟩ = some (.string st) := by rw [cell_of_row _ _ _ _ _ _ hB2]; rfl
      have F2 := hide f2
      have HA2 := hide hA2
      have HB2 := hide hB2
      clear f1' hA1 hA2 hB2 f2
      go_wp2_with fail
      refine (unhide H2 w2 (unhide F2)).mono ?_
      rintro e w3 ⟨a3, c3, rfl, f3, h3⟩
      have H4 := hide (h3 w3 (Below.refl _ _))
      have hA3 := (f3.block _ (lt_of_heap (unhide HA2))).trans (unhide HA2)
      have hB3 := (f3.block _ (lt_of_heap (unhide HB2))).trans (unhide HB2)
      have F3 := hide ((unhide F2).trans (f3.mono (unhide F2).size))
      clear c0 c1 h3 f3 H2
      have c0 : w3.cell? ⟨w1.heap.size, 0, none⟩ = some (.int .i64 (ep : Int)) := by rw [cell_of_row _ _ _ _ _ _ hB3]; rfl
      have c1 : w3.cell? ⟨w1.heap.size, 1, none⟩ = some (.string st) := by rw [cell_of_row _ _ _ _ _ _ hB3]; rfl
      have d0 : w3.cell? ⟨w.heap.size, 0, none⟩ = some (.int .i64 0) := by rw [cell_of_row _ _ _ _ _ _ hA3]; rfl
      have d1 : w3.cell? ⟨w.heap.size, 1, none⟩ = some (.string ⟨#[]⟩) := by rw [cell_of_row _ _ _ _ _ _ hA3]; rfl
      have hf0 : w3.frozen? ⟨w.heap.size, 0, none⟩ = false := frozen_of_row _ _ _ _ _ hA3
      have hf1 : w3.frozen? ⟨w.heap.size, 1, none⟩ = false := frozen_of_row _ _ _ _ _ hA3
      have HA3 := hide hA3
      clear hA3 hB3
      go_wp2_with fail
      refine (unhide H4).mono ?_
      rintro e w4 ⟨rfl, rfl⟩
      clear H4
      go_wp2
      refine bodyPost_ret (rec_results1 Tryz.results43 _ w.heap.size (.int .i64 (ep : Int)) (.string st) ?_ ?_ rfl rfl _ rfl) rfl ⟨rfl, ?_⟩
      · exact (rec_set _ _ (unhide HA3)).1
      · exact (rec_set _ _ (unhide HA3)).2
      · exact rec_below _ _ (unhide F3) (Nat.le_refl _)
    · rw [if_neg hS]
      show Calls _ _ _ _ fun e w' => e = .returned (.tuple #[.agg #[.int .i64 0, .string ⟨#[]⟩], .bool false]) ∧ _
      rw [decide_eq_false hS] at H2
      rw [hR] at H1 H2
      generalize hs : (⟨((l.drop 8).take (num l)).toArray⟩ : ByteArray) = st at *
      clear hs hR hfit hS e1 e2 e3 hN hE hro hnl hdl
      generalize num (l.drop 4) = ep at *
      go_enter Tryz.func43, Tryz.ntmps43
      go_wp2_with fail
      rw [unhide HW]
      refine (unhide H1).mono ?_
      rintro e w1 ⟨rfl, f1⟩
      have hA1 := (f1.block w.heap.size (by omega)).trans (unhide HA)
      have f1' : Below w.heap.size w w1 := (unhide FB).trans (f1.mono (by omega))
      have hq1 := f1.size
      clear f1 H1
      go_upto_region 2 with fail
      have hA2 := (heap_alloc_old w1 (.cells #[.int .i64 (ep : Int), .string st] 85) (lt_of_heap hA1)).trans hA1
      have hB2 := heap_alloc_last w1 (.cells #[.int .i64 (ep : Int), .string st] 85)
      have f2 : Below w.heap.size w (w1.alloc (.cells #[.int .i64 (ep : Int), .string st] 85)) := f1'.alloc f1'.size _
      generalize w1.alloc (.cells #[.int .i64 (ep : Int), .string st] 85) = w2 at *
      have c0 : w2.cell? ⟨w1.heap.size, 0, none⟩ = some (.int .i64 (ep : Int)) := by rw [cell_of_row _ _ _ _ _ _ hB2]; rfl
      have c1 : w2.cell? ⟨w1.heap.size, 1, none⟩ = some (.string st) := by rw [cell_of_row _ _ _ _ _ _ hB2]; rfl
      have F2 := hide f2
      have HA2 := hide hA2
      have HB2 := hide hB2
      clear f1' hA1 hA2 hB2 f2
      go_wp2_with fail
      refine (unhide H2 w2 (unhide F2)).mono ?_
      rintro e w3 ⟨a3, c3, rfl, f3, h3⟩
      have H4 := hide (h3 w3 (Below.refl _ _))
      have hA3 := (f3.block _ (lt_of_heap (unhide HA2))).trans (unhide HA2)
      have hB3 := (f3.block _ (lt_of_heap (unhide HB2))).trans (unhide HB2)
      have F3 := hide ((unhide F2).trans (f3.mono (unhide F2).size))
      clear c0 c1 h3 f3 H2
      have c0 : w3.cell? ⟨w1.heap.size, 0, none⟩ = some (.int .i64 (ep : Int)) := by rw [cell_of_row _ _ _ _ _ _ hB3]; rfl
      have c1 : w3.cell? ⟨w1.heap.size, 1, none⟩ = some (.string st) := by rw [cell_of_row _ _ _ _ _ _ hB3]; rfl
      have d0 : w3.cell? ⟨w.heap.size, 0, none⟩ = some (.int .i64 0) := by rw [cell_of_row _ _ _ _ _ _ hA3]; rfl
      have d1 : w3.cell? ⟨w.heap.size, 1, none⟩ = some (.string ⟨#[]⟩) := by rw [cell_of_row _ _ _ _ _ _ hA3]; rfl
      have hf0 : w3.frozen? ⟨w.heap.size, 0, none⟩ = false := frozen_of_row _ _ _ _ _ hA3
      have hf1 : w3.frozen? ⟨w.heap.size, 1, none⟩ = false := frozen_of_row _ _ _ _ _ hA3
      have HA3 := hide hA3
      clear hA3 hB3
      go_wp2_with fail
      refine (unhide H4).mono ?_
      rintro e w4 ⟨rfl, rfl⟩
      clear H4
      go_wp2
      refine bodyPost_ret (rec_results1 Tryz.results43 _ w.heap.size (.int .i64 0) (.string ⟨#[]⟩) ?_ ?_ rfl rfl _ rfl) rfl ⟨rfl, ?_⟩
      · exact (rec_set _ _ (unhide HA3)).1
      · exact (rec_set _ _ (unhide HA3)).2
      · exact rec_below _ _ (unhide F3) (Nat.le_refl _)
  · have e1 : readS l = none := by unfold readS; rw [if_neg (fun h => hE h.1)]
    have e2 : firstQ l = rec0 := by unfold firstQ; rw [if_neg hE]
    have e3 : firstN l = 0 := by unfold firstN; rw [if_neg hE]
    rw [e1]
    rw [e2, e3] at H1
    have gE : (firstE l == 0) = false := by simpa using hE
    clear e1 e2 e3
    generalize firstE l = E at *
    show Calls _ _ _ _ fun e w' => e = .returned (.tuple #[.agg #[.int .i64 0, .string ⟨#[]⟩], .bool false]) ∧ _
    unfold recV rec0 at H1
    go_enter Tryz.func43, Tryz.ntmps43
    go_wp2_with fail
    rw [unhide HW]
    refine (unhide H1).mono ?_
    rintro e w1 ⟨rfl, f1⟩
    have hA1 := (f1.block w.heap.size (by omega)).trans (unhide HA)
    have f1' : Below w.heap.size w w1 := (unhide FB).trans (f1.mono (by omega))
    clear f1 H1
    go_upto_region 2 with fail
    have hA2 := (heap_alloc_old w1 (.cells #[.int .i64 0, .string ⟨#[]⟩] 85) (lt_of_heap hA1)).trans hA1
    have f2 : Below w.heap.size w (w1.alloc (.cells #[.int .i64 0, .string ⟨#[]⟩] 85)) := f1'.alloc f1'.size _
    generalize w1.alloc (.cells #[.int .i64 0, .string ⟨#[]⟩] 85) = w2 at *
    have c0 : w2.cell? ⟨w.heap.size, 0, none⟩ = some (.int .i64 0) := by rw [cell_of_row _ _ _ _ _ _ hA2]; rfl
    have c1 : w2.cell? ⟨w.heap.size, 1, none⟩ = some (.string ⟨#[]⟩) := by rw [cell_of_row _ _ _ _ _ _ hA2]; rfl
    have hf0 : w2.frozen? ⟨w.heap.size, 0, none⟩ = false := frozen_of_row _ _ _ _ _ hA2
    have hf1 : w2.frozen? ⟨w.heap.size, 1, none⟩ = false := frozen_of_row _ _ _ _ _ hA2
    have F2 := hide f2
    have HA2 := hide hA2
    clear f1' hA1 hA2 f2
    go_wp2
    refine bodyPost_ret (rec_results1 Tryz.results43 _ w.heap.size (.int .i64 0) (.string ⟨#[]⟩) ?_ ?_ rfl rfl _ rfl) rfl ⟨rfl, ?_⟩
    · exact (rec_set _ _ (unhide HA2)).1
    · exact (rec_set _ _ (unhide HA2)).2
    · exact rec_below _ _ (unhide F2) (Nat.le_refl _)

end Go.Proofs.YtfggahkimconfaaGreatDoor
