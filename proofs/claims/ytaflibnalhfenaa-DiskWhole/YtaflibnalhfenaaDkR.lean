/- stored and Crash at whatever slices; what crashes do to disks behind stores. -/
import Derived.Test.YtaflibnalhfenaaDkQ
namespace Go.Proofs.Ytaflibnalhfenaa
open Go.RowKit
set_option linter.unusedVariables false

def ActsOf (w : World) (a : Option Addr) (l : List LAct) : Prop := l.length = 0 ∨ ∃ b o, a = some ⟨b, o, none⟩ ∧ ActsAt w b o l
theorem ActsAt.below {w w' : World} {b o B : Nat} {l : List LAct} (h : ActsAt w b o l) (hb : Below w.heap.size w w') : ActsAt w' b o l := fun j x hx => by
  obtain ⟨h1, h2, h3⟩ := h j x hx
  have cb := World.block_lt_of_cell? w _ h1
  exact ⟨(hb.cell (p := ⟨b, o + j * 6, none⟩) cb).trans h1, (hb.cell (p := ⟨b, o + j * 6 + 1, none⟩) cb).trans h2, (hb.cell (p := ⟨b, o + j * 6 + 3, none⟩) cb).trans h3⟩
theorem ActsOf.below {w w' : World} {a : Option Addr} {l : List LAct} (h : ActsOf w a l) (hb : Below w.heap.size w w') : ActsOf w' a l := by
  rcases h with h | ⟨b, o, e, h⟩
  · exact .inl h
  · exact .inr ⟨b, o, e, h.below (B := 0) hb⟩

set_option maxHeartbeats 400000 in
set_option maxRecDepth 100000 in
theorem stored_nil (w : World) (a : Option Addr) (c : Nat) :
    Calls Try.prog 37 #[.slice a 0 c] w fun e w' => e = .returned (.pointer (some ⟨w.heap.size + 1, 0, none⟩)) ∧
      (∃ g vs, IsDisk w' w.heap.size (w.heap.size + 1) g vs (Dk.fresh 4)) ∧ Below w.heap.size w w' := by
  go_enter Try.func37, Try.ntmps37
  go_wp2_with fail
  refine (Make_ok 4 _ (by omega) (by omega)).mono ?_
  rintro e w1 ⟨rfl, d1, b1⟩
  have D1 := hide d1
  have B1 := hide b1
  clear d1 b1
  go_wp2
  refine wp_loop_rounds 1 ?_
  rw [rounds_succ]
  go_wp2
  go_ret
  exact ⟨rfl, ⟨_, _, unhide D1⟩, unhide B1⟩

theorem stored_any (w : World) (a : Option Addr) (c : Nat) (l : List LAct) (n : Nat) (hn : l.length = n) (hl : n ≤ 9223372036854775807) (hA : ActsOf w a l) :
    Calls Try.prog 37 #[.slice a n c] w fun e w' => e = .returned (.pointer (some ⟨w.heap.size + 1, 0, none⟩)) ∧
      (∃ g vs, IsDisk w' w.heap.size (w.heap.size + 1) g vs (runA (l.take 80) (Dk.fresh 4))) ∧ Good (runA (l.take 80) (Dk.fresh 4)) 80 ∧ Below w.heap.size w w' := by
  subst hn
  rcases hA with h0 | ⟨b, o, rfl, hA⟩
  · have e := List.eq_nil_of_length_eq_zero h0
    subst e
    refine (stored_nil w a c).mono ?_
    rintro e w' ⟨rfl, h1, h2⟩
    exact ⟨rfl, h1, Good.fresh.mono (by omega), h2⟩
  · exact stored_at w b o c l hl hA

/-- At address a lie the numbers kept, below B. -/
def KeptOf (w : World) (B : Nat) (a : Option Addr) (kept : List Int) : Prop :=
  kept = [] ∨ ∃ kb ko, a = some ⟨kb, ko, none⟩ ∧ kb < B ∧ kb < w.heap.size ∧ ∀ j, j < kept.length → w.cell? ⟨kb, ko + j, none⟩ = some (.int .i64 (kept.getD j 0)) ∧ -9223372036854775808 ≤ kept.getD j 0 ∧ kept.getD j 0 ≤ 9223372036854775807
theorem KeptOf.below {w w' : World} {B : Nat} {a : Option Addr} {kept : List Int} (h : KeptOf w B a kept) (hb : Below B w w') : KeptOf w' B a kept := by
  rcases h with h | ⟨kb, ko, e, h1, h2, h3⟩
  · exact .inl h
  · exact .inr ⟨kb, ko, e, h1, Nat.lt_of_lt_of_le h2 hb.size, fun j hj => ⟨(hb.cell (p := ⟨kb, _, none⟩) h1).trans (h3 j hj).1, (h3 j hj).2⟩⟩

theorem Crash_any (w : World) (B p g : Nat) (vs : Nat → Value) (D : Dk) (hD : IsDisk w B p g vs D) (hW : ∀ (i : Nat) (s : Sec), D.secs[i]? = some s → s.wait.length ≤ 1000000) (a : Option Addr) (c n : Nat) (kept : List Int) (hn : kept.length = n) (hK : KeptOf w B a kept) :
    Calls Try.prog 26 #[.pointer (some ⟨p, 0, none⟩), .slice a n c] w fun e w' => e = .returned (.int .i64 0) ∧
      (∃ (vs' : Nat → Value) (E : Dk), IsDisk w' B p g vs' { E with dark := false, trip := -1 } ∧ Part D (Gcr kept) D.cached.length E) ∧ Fr B w w' := by
  subst hn
  rcases hK with rfl | ⟨kb, ko, rfl, h1, h2, h3⟩
  · exact Crash_none w B p g vs D hD hW a c
  · have := hD.bg
    exact Crash_at w B p g vs D hD hW kept kb ko c (fun j hj => (h3 j hj).1) h2 (by omega) (fun j hj => (h3 j hj).2)

/-! Disks on which nothing waits. -/
def Dry (D : Dk) : Prop := ∀ (i : Nat) (s : Sec), D.secs[i]? = some s → s.wait = []
theorem Dry.bar (D : Dk) : Dry D.bar := fun i s hi => by
  simp only [Dk.bar, List.getElem?_map, Option.map_eq_some_iff] at hi
  obtain ⟨t, _, rfl⟩ := hi
  rfl
theorem Dry.cached {D : Dk} (h : Dry D) : D.cached = [] := by
  have hw : ∀ i, waits D i = false := by
    intro i
    unfold waits
    cases hi : D.secs[i]? with
    | none => rfl
    | some s => show decide (0 < s.wait.length) = false; rw [h i s hi]; rfl
  unfold Dk.cached cachedTo
  exact List.filter_eq_nil_iff.2 (fun i _ => by simp [hw i])
theorem Part.zero {D D' : Dk} {G : Nat → Sec → Nat → Prop} (h : Part D G 0 D') : D' = D := by
  have e : D'.secs = D.secs := by
    apply List.ext_getElem?
    intro i
    cases hi : D.secs[i]? with
    | none => rw [List.getElem?_eq_none (by rw [h.len]; exact List.getElem?_eq_none_iff.1 hi)]
    | some s => exact h.rest i s hi (fun x => by omega)
  have h1 := h.moves
  have h2 := h.trip
  have h3 := h.dark
  cases D'; cases D
  simp only at e h1 h2 h3
  subst e h1 h2 h3
  rfl
def Dk.back (D : Dk) : Dk := { D with secs := D.secs.map fun s => ⟨s.sure, []⟩, dark := false, trip := -1 }
/-- A crash that keeps none goes back. -/
theorem part_none {D E : Dk} (h : Part D (Gcr []) D.cached.length E) : { E with dark := false, trip := -1 } = D.back := by
  have e : E.secs = D.secs.map fun s => ⟨s.sure, []⟩ := by
    apply List.ext_getElem?
    intro i
    rw [List.getElem?_map]
    cases hi : D.secs[i]? with
    | none => rw [List.getElem?_eq_none (by rw [h.len]; exact List.getElem?_eq_none_iff.1 hi)]; rfl
    | some s =>
      obtain ⟨r, hr, hG, hs⟩ := h.all i s hi
      rw [hs]
      have er : r = 0 := by
        cases hw : waits D i with
        | true =>
          have := (hG hw).2
          simp [among] at this
          omega
        | false =>
          have h0 : s.wait = [] := by
            unfold waits at hw
            rw [hi] at hw
            simpa using hw
          rw [h0] at hr
          simpa using hr
      rw [er]
      rfl
  have h1 := h.moves
  cases E
  simp only at e h1
  subst e h1
  rfl
theorem Dry.dump {D : Dk} (h : Dry D) : D.dump = D.secs.flatMap Sec.sure := by
  unfold Dk.dump
  have : ∀ s ∈ D.secs, s.last = s.sure := by
    intro s hs
    obtain ⟨i, hi⟩ := List.mem_iff_getElem?.1 hs
    have := h i s hi
    unfold Sec.last
    rw [this]
    rfl
  rw [List.flatMap_def, List.flatMap_def, List.map_congr_left this]
theorem back_dry (D : Dk) : Dry D.back := fun i s hi => by
  simp only [Dk.back, List.getElem?_map, Option.map_eq_some_iff] at hi
  obtain ⟨t, _, rfl⟩ := hi
  rfl
theorem back_dump (D : Dk) : D.back.dump = D.secs.flatMap Sec.sure := by
  rw [(back_dry D).dump]
  simp only [Dk.back, List.flatMap_def, List.map_map]
  rfl
theorem sto_sure {D : Dk} {k : Nat} (h : Good D k) (i : Nat) (hi : i < 4) (x : List UInt8) : (D.sto i x).secs.flatMap Sec.sure = D.secs.flatMap Sec.sure := by
  have hil : i < D.secs.length := by rw [h.four]; exact hi
  have e : (D.sto i x).secs = D.secs.set i (D.secs[i].add x) := by
    unfold Dk.sto Dk.put
    rw [Dk.moved_secs, List.getD_eq_getElem?_getD, List.getElem?_eq_getElem hil]
    rfl
  rw [e, List.flatMap_def, List.flatMap_def, List.map_set]
  have : Sec.sure (D.secs[i].add x) = (D.secs.map Sec.sure)[i]'(by simpa using hil) := by simp [Sec.add]
  rw [this, List.set_getElem_self]

end Go.Proofs.Ytaflibnalhfenaa
