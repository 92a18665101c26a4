/- The program's disk and the document's, call by call, with one picture of both. -/
import Derived.Test.YtaflibnalhfenaaRfJ
namespace Go.Proofs.Ytaflibnalhfenaa
open Go.RowKit
set_option linter.unusedVariables false

/-- A crash by any numbers, as the document says it. -/
theorem part_crash {kept : List Int} {D E : Dk} (h : Part D (Gcr kept) D.cached.length E) : { E with dark := false, trip := -1 } = D.crashed kept := by
  have e : E.secs = D.secs.mapIdx fun i s => if i < D.secs.length then crashSec kept D i s else s := by
    apply List.ext_getElem?
    intro i
    rw [List.getElem?_mapIdx]
    cases hi : D.secs[i]? with
    | none => rw [List.getElem?_eq_none (by rw [h.len]; exact List.getElem?_eq_none_iff.1 hi)]; rfl
    | some s =>
      obtain ⟨r, hr, hG, hs⟩ := h.all i s hi
      have hil := (List.getElem?_eq_some_iff.1 hi).1
      rw [hs]
      simp only [Option.map_some, if_pos hil]
      congr 1
      unfold crashSec
      by_cases hw : 0 < s.wait.length
      · rw [if_pos hw]
        have hw' : waits D i = true := by unfold waits; rw [hi]; simpa using hw
        have := (hG hw').2
        rw [this]; rfl
      · rw [if_neg hw]
        have h0 : s.wait = [] := List.eq_nil_of_length_eq_zero (by omega)
        have hr0 : r = 0 := by rw [h0] at hr; simpa using hr
        subst hr0
        cases s; simp only at h0; subst h0; rfl
  have h1 := h.moves
  unfold Dk.crashed Dk.crashTo
  cases E; simp only at e h1; subst e h1; rfl

/-- The program's disk at block p. -/
def X (w : World) (B p : Nat) (D : Dk) : Prop := ∃ g vs, IsDisk w B p g vs D
/-- The document's disk at block y. -/
def Y (w : World) (B y : Nat) (D : Dk) : Prop := ∃ By v vals, B ≤ By ∧ RIs w By y v vals (rof D)
structure Okd (D : Dk) (L n : Nat) : Prop where
  len : D.secs.length = L
  one : 1 ≤ L
  most : L ≤ 4096
  ok : ∀ (i : Nat) (s : Sec), D.secs[i]? = some s → s.ok
  few : ∀ (i : Nat) (s : Sec), D.secs[i]? = some s → s.wait.length ≤ n
theorem Okd.mono {D : Dk} {L n m : Nat} (h : Okd D L n) (hm : n ≤ m) : Okd D L m := ⟨h.len, h.one, h.most, h.ok, fun i s hi => Nat.le_trans (h.few i s hi) hm⟩
theorem Okd.of {w : World} {B p : Nat} {D : Dk} {L n : Nat} (h : X w B p D) (hl : D.secs.length = L) (hf : ∀ (i : Nat) (s : Sec), D.secs[i]? = some s → s.wait.length ≤ n) : Okd D L n := by
  obtain ⟨g, vs, h⟩ := h
  exact ⟨hl, by rw [← hl]; exact h.one, by rw [← hl]; exact h.most, fun i s hi => (h.sec i s hi).ok, hf⟩

theorem X.below {w w' : World} {B p : Nat} {D : Dk} (h : X w B p D) (f : Below w.heap.size w w') : X w' B p D := by
  obtain ⟨g, vs, h⟩ := h
  exact ⟨g, vs, h.below f⟩
theorem Y.below {w w' : World} {B p : Nat} {D : Dk} (h : Y w B p D) (f : Below w.heap.size w w') : Y w' B p D := by
  obtain ⟨By, v, vals, hB, h⟩ := h
  exact ⟨By, v, vals, hB, h.below f⟩
theorem X.fr2 {w w' : World} {B By p : Nat} {D : Dk} (h : X w B p D) (f : Fr2 By w w') : X w' B p D := by
  obtain ⟨g, vs, h⟩ := h
  exact ⟨g, vs, h.fr2 f⟩
theorem Y.fr {w w' : World} {B Bx p : Nat} {D : Dk} (h : Y w B p D) (f : Fr Bx w w') : Y w' B p D := by
  obtain ⟨By, v, vals, hB, h⟩ := h
  exact ⟨By, v, vals, hB, h.fr f⟩
theorem X.bw {w : World} {B p : Nat} {D : Dk} (h : X w B p D) : B ≤ w.heap.size := by
  obtain ⟨g, vs, h⟩ := h
  exact h.bw
theorem Y.done {w : World} {B y : Nat} {D : Dk} (h : Y w B y D) : w.cell? ⟨y, 1, none⟩ = some (.int .i64 D.moves) := by
  obtain ⟨By, v, vals, hB, h⟩ := h
  exact h.dcells.2.1
theorem fr2_mono {B B' : Nat} {w w' : World} (f : Fr2 B w w') (h : B' ≤ B) : Fr2 B' w w' := ⟨f.below.mono h, f.other⟩
theorem RIs.form {w : World} {B p : Nat} {v : Value} {vals : List Value} {D : Dk} (h : RIs w B p v vals (rof D)) (h1 : 1 ≤ D.secs.length) : ∃ g gc, v = .slice (some ⟨g, 0, none⟩) D.secs.length gc := by
  obtain ⟨g, gc, _, _, e, _⟩ := h.mem 0 _ (List.getElem?_eq_getElem (by omega))
  exact ⟨g, gc, e⟩

/-- Writing where neither disk lies. -/
theorem both_keep {w w' : World} {B p y : Nat} {D : Dk} (hx : X w B p D) (hy : Y w B y D) (hs : w.heap.size ≤ w'.heap.size) (hk : ∀ (k : Nat) (c : Array Value) (e : TypeId) (f : Nat × Nat), w.heap[k]? = some (.cells c e f) → e ≠ 5 → w'.heap[k]? = w.heap[k]?) : X w' B p D ∧ Y w' B y D := by
  constructor
  · obtain ⟨g, vs, h⟩ := hx
    obtain ⟨cur, hg, _⟩ := h.row
    refine ⟨g, vs, h.keep (hk _ _ _ _ h.blk (by decide)) (hk _ _ _ _ hg (by decide)) hs (fun i k hi hk' => ?_)⟩
    obtain ⟨c, hc⟩ := (h.sec i _ (List.getElem?_eq_getElem hi)).blk hk'
    exact hk _ _ _ _ hc (by decide)
  · obtain ⟨By, v, vals, hB, h⟩ := hy
    obtain ⟨k1, k2⟩ := h.kinds
    refine ⟨By, v, vals, hB, (hk _ _ _ _ h.blk (by decide)).trans h.blk, ?_, h.bp, Nat.le_trans h.bw hs, ?_, h.lo, h.hi⟩
    · refine own_of_block h.own (fun k hk' => ?_)
      obtain ⟨cur, hc⟩ := k2 k hk'
      exact hk _ _ _ _ hc (by decide)
    · intro i l hi
      obtain ⟨sv, a, b⟩ := h.each i l hi
      exact ⟨sv, a, b.keep (fun k c fz hk' => hk _ _ _ _ hk' (by decide))⟩

/-! Store. -/
def Dk.stE (D : Dk) (at_ : Int) (m : Nat) : Int := if (0 ≤ at_ ∧ at_ < D.secs.length) ∧ m = 256 then (if D.can = true then 0 else 10) else 2
def Dk.st (D : Dk) (at_ : Int) (x : List UInt8) : Dk := if (0 ≤ at_ ∧ at_ < D.secs.length) ∧ x.length = 256 then (if D.can = true then D.sto at_.toNat x else D.moved) else D
theorem stE_ok {D : Dk} {at_ : Int} {m : Nat} (hat : 0 ≤ at_ ∧ at_ < D.secs.length) (hm : m = 256) (hc : D.can = true) : D.stE at_ m = 0 := by unfold Dk.stE; rw [if_pos ⟨hat, hm⟩, if_pos hc]
theorem st_ok {D : Dk} {at_ : Int} {x : List UInt8} (hat : 0 ≤ at_ ∧ at_ < D.secs.length) (hm : x.length = 256) (hc : D.can = true) : D.st at_ x = D.sto at_.toNat x := by unfold Dk.st; rw [if_pos ⟨hat, hm⟩, if_pos hc]
theorem stE_dark {D : Dk} {at_ : Int} {m : Nat} (hat : 0 ≤ at_ ∧ at_ < D.secs.length) (hm : m = 256) (hc : D.can = false) : D.stE at_ m = 10 := by unfold Dk.stE; rw [if_pos ⟨hat, hm⟩, if_neg (by rw [hc]; decide)]
theorem st_dark {D : Dk} {at_ : Int} {x : List UInt8} (hat : 0 ≤ at_ ∧ at_ < D.secs.length) (hm : x.length = 256) (hc : D.can = false) : D.st at_ x = D.moved := by unfold Dk.st; rw [if_pos ⟨hat, hm⟩, if_neg (by rw [hc]; decide)]
theorem stE_bad {D : Dk} {at_ : Int} {m : Nat} (h : ¬ ((0 ≤ at_ ∧ at_ < D.secs.length) ∧ m = 256)) : D.stE at_ m = 2 := by unfold Dk.stE; rw [if_neg h]
theorem st_bad {D : Dk} {at_ : Int} {x : List UInt8} (h : ¬ ((0 ≤ at_ ∧ at_ < D.secs.length) ∧ x.length = 256)) : D.st at_ x = D := by unfold Dk.st; rw [if_neg h]
theorem st_len (D : Dk) (at_ : Int) (x : List UInt8) : (D.st at_ x).secs.length = D.secs.length := by
  unfold Dk.st
  split
  · split
    · simp [Dk.sto, Dk.put, Dk.moved_secs]
    · rw [Dk.moved_secs]
  · rfl
theorem moved_few {D : Dk} {n : Nat} (h : ∀ (i : Nat) (s : Sec), D.secs[i]? = some s → s.wait.length ≤ n) : ∀ (i : Nat) (s : Sec), D.moved.secs[i]? = some s → s.wait.length ≤ n := by rw [Dk.moved_secs]; exact h
theorem st_few {D : Dk} {n : Nat} (h : ∀ (i : Nat) (s : Sec), D.secs[i]? = some s → s.wait.length ≤ n) (at_ : Int) (x : List UInt8) : ∀ (i : Nat) (s : Sec), (D.st at_ x).secs[i]? = some s → s.wait.length ≤ n + 1 := by
  unfold Dk.st
  split
  · split
    · intro i s hi
      rename_i hat _
      obtain ⟨t, ht⟩ : ∃ t, D.secs[at_.toNat]? = some t := ⟨_, List.getElem?_eq_getElem (by omega)⟩
      simp only [Dk.sto, Dk.put, Dk.moved_secs, List.getElem?_set] at hi
      by_cases e : at_.toNat = i
      · rw [if_pos e] at hi
        split at hi
        · have := h _ _ ht
          have e2 : s = (D.secs.getD at_.toNat ⟨[], []⟩).add x := (Option.some.inj hi).symm
          rw [e2, List.getD_eq_getElem?_getD, ht]
          simp [Sec.add]
          exact this
        · simp at hi
      · rw [if_neg e] at hi
        exact Nat.le_succ_of_le (h i s hi)
    · intro i s hi
      exact Nat.le_succ_of_le (moved_few h i s hi)
  · intro i s hi
    exact Nat.le_succ_of_le (h i s hi)

theorem xStore (w : World) (B p : Nat) (D : Dk) (L n : Nat) (hX : X w B p D) (hO : Okd D L n) (hn : n ≤ 1000) (at_ : Int) (q o c m : Nat) (cur : Array Value) (f : Nat × Nat) (hq : w.heap[q]? = some (.cells cur 5 f)) (x : List UInt8) (hm : x.length = m) (hx : BytesAt w (some ⟨q, o, none⟩) x) :
    Calls Try.prog 16 #[.pointer (some ⟨p, 0, none⟩), .int .i64 at_, .slice (some ⟨q, o, none⟩) m c] w fun e w' => e = .returned (.int .i64 (D.stE at_ m)) ∧ X w' B p (D.st at_ x) ∧ Fr B w w' := by
  obtain ⟨g, vs, h⟩ := hX
  by_cases hat : 0 ≤ at_ ∧ at_ < D.secs.length
  · by_cases hm2 : m = 256
    · subst hm2
      cases hc : D.can with
      | true =>
        rw [stE_ok hat rfl hc, st_ok hat hm hc]
        obtain ⟨i, rfl⟩ : ∃ i : Nat, at_ = i := ⟨at_.toNat, by omega⟩
        have hi := List.getElem?_eq_getElem (show i < D.secs.length by omega)
        have hqp : q ≠ p := by
          intro e; subst e
          have := hq.symm.trans h.blk
          simp at this
        refine (Store_ok w B p g vs D h i _ hi ⟨q, o, none⟩ c hc (Nat.le_trans (hO.few _ _ hi) (by omega)) x hm (hx.2 _ rfl) hqp).mono ?_
        rintro e w' ⟨rfl, ⟨vs', h'⟩, f'⟩
        refine ⟨rfl, ⟨g, vs', ?_⟩, f'⟩
        unfold Dk.sto
        rw [List.getD_eq_getElem?_getD]
        simp only [Int.toNat_natCast, hi, Option.getD_some]
        exact h'
      | false =>
        rw [stE_dark hat rfl hc, st_dark hat hm hc]
        refine (Store_dark w B p g vs D h at_ _ c hat hc).mono ?_
        rintro e w' ⟨rfl, h', f'⟩
        exact ⟨rfl, ⟨g, vs, h'⟩, f'⟩
    · rw [stE_bad (fun e => hm2 e.2), st_bad (fun e => hm2 (hm ▸ e.2))]
      refine (Store_len w B p g vs D h at_ _ m c hat hm2).mono ?_
      rintro e w' ⟨rfl, rfl⟩
      exact ⟨rfl, ⟨g, vs, h⟩, Fr.refl _ _⟩
  · rw [stE_bad (fun e => hat e.1), st_bad (fun e => hat e.1)]
    refine (Store_out w B p g vs D h at_ _ m c hat).mono ?_
    rintro e w' ⟨rfl, rfl⟩
    exact ⟨rfl, ⟨g, vs, h⟩, Fr.refl _ _⟩

theorem yStore (w : World) (B y : Nat) (D : Dk) (L n : Nat) (hY : Y w B y D) (hO : Okd D L n) (hn : n ≤ 1000) (at_ : Int) (v : Value) (m base : Nat) (x : List UInt8) (hm : x.length = m) (hm1 : 1 ≤ m) (hx : w.ownsRow base 5 1 v m (bv x)) :
    Calls Try.prog 17 #[.pointer (some ⟨y, 0, none⟩), .int .i64 at_, v] w fun e w' => e = .returned (.int .i64 (D.stE at_ m)) ∧ Y w' B y (D.st at_ x) ∧ Fr2 B w w' := by
  obtain ⟨By, rv, vals, hB, h⟩ := hY
  obtain ⟨g, gc, hv⟩ := h.form (by rw [hO.len]; exact hO.one)
  rcases hx.2 with ⟨rfl, rfl⟩ | ⟨q, cap, cur, rfl, _, hq, _⟩
  · omega
  · have hbx : BytesAt w (some ⟨q, 0, none⟩) x := ⟨(fun e => by cases e), fun ad e j u hu => by injection e with e; subst e; exact hx.cells (g := q) rfl j u hu⟩
    by_cases hat : 0 ≤ at_ ∧ at_ < D.secs.length
    · by_cases hm2 : m = 256
      · subst hm2
        cases hc : D.can with
        | true =>
          rw [stE_ok hat rfl hc, st_ok hat hm hc]
          obtain ⟨i, rfl⟩ : ∃ i : Nat, at_ = i := ⟨at_.toNat, by omega⟩
          have hi := List.getElem?_eq_getElem (show i < D.secs.length by omega)
          refine (rStore_ok w By y rv vals D h i _ hi q cap hc (Nat.le_trans (hO.few _ _ hi) (by omega)) x hm cur _ hq hbx).mono ?_
          rintro e w' ⟨rfl, ⟨vals', h', _⟩, f'⟩
          refine ⟨rfl, ⟨By, rv, vals', hB, ?_⟩, fr2_mono f' hB⟩
          unfold Dk.sto
          rw [List.getD_eq_getElem?_getD]
          simp only [Int.toNat_natCast, hi, Option.getD_some]
          exact h'
        | false =>
          rw [stE_dark hat rfl hc, st_dark hat hm hc]
          refine (rStore_dark w By y rv vals D h at_ _ cap hat hc g gc hv).mono ?_
          rintro e w' ⟨rfl, h', f'⟩
          exact ⟨rfl, ⟨By, rv, vals, hB, h'⟩, fr2_mono f' hB⟩
      · rw [stE_bad (fun e => hm2 e.2), st_bad (fun e => hm2 (hm ▸ e.2))]
        refine (rStore_len w By y rv vals D h at_ _ m cap hat hm2 g gc hv).mono ?_
        rintro e w' ⟨rfl, rfl⟩
        exact ⟨rfl, ⟨By, rv, vals, hB, h⟩, Fr2.refl _ _⟩
    · rw [stE_bad (fun e => hat e.1), st_bad (fun e => hat e.1)]
      refine (rStore_out w By y rv vals D h at_ _ m cap hat g gc hv).mono ?_
      rintro e w' ⟨rfl, rfl⟩
      exact ⟨rfl, ⟨By, rv, vals, hB, h⟩, Fr2.refl _ _⟩

/-! Barrier. -/
def Dk.baE (D : Dk) : Int := if D.can = true then 0 else 10
def Dk.ba (D : Dk) : Dk := if D.can = true then D.bar else D.moved
theorem ba_len (D : Dk) : D.ba.secs.length = D.secs.length := by
  unfold Dk.ba
  split
  · simp [Dk.bar]
  · rw [Dk.moved_secs]
theorem ba_few {D : Dk} {n : Nat} (h : ∀ (i : Nat) (s : Sec), D.secs[i]? = some s → s.wait.length ≤ n) : ∀ (i : Nat) (s : Sec), D.ba.secs[i]? = some s → s.wait.length ≤ n := by
  unfold Dk.ba
  split
  · intro i s hi
    rw [(Dry.bar D) i s hi]; simp
  · exact moved_few h
theorem xBarrier (w : World) (B p : Nat) (D : Dk) (hX : X w B p D) :
    Calls Try.prog 19 #[.pointer (some ⟨p, 0, none⟩)] w fun e w' => e = .returned (.int .i64 D.baE) ∧ X w' B p D.ba ∧ Fr B w w' := by
  obtain ⟨g, vs, h⟩ := hX
  unfold Dk.baE Dk.ba
  cases hc : D.can with
  | true =>
    refine (Barrier_ok w B p g vs D h hc).mono ?_
    rintro e w' ⟨rfl, ⟨vs', D', h', hP⟩, f'⟩
    refine ⟨rfl, ⟨g, vs', ?_⟩, f'⟩
    have e := part_bar hP
    rw [Dk.moved_secs] at e
    rw [e] at h'
    exact h'
  | false =>
    refine (Barrier_dark w B p g vs D h hc).mono ?_
    rintro e w' ⟨rfl, h', f'⟩
    exact ⟨rfl, ⟨g, vs, h'⟩, f'⟩
theorem yBarrier (w : World) (B y : Nat) (D : Dk) (L n : Nat) (hY : Y w B y D) (hO : Okd D L n) :
    Calls Try.prog 20 #[.pointer (some ⟨y, 0, none⟩)] w fun e w' => e = .returned (.int .i64 D.baE) ∧ Y w' B y D.ba ∧ Fr2 B w w' := by
  obtain ⟨By, rv, vals, hB, h⟩ := hY
  obtain ⟨g, gc, hv⟩ := h.form (by rw [hO.len]; exact hO.one)
  unfold Dk.baE Dk.ba
  cases hc : D.can with
  | true =>
    refine (rBarrier_ok w By y rv vals D h hc g gc hv (by rw [hO.len]; exact hO.most)).mono ?_
    rintro e w' ⟨rfl, ⟨vals', h', _⟩, f'⟩
    exact ⟨rfl, ⟨By, rv, vals', hB, h'⟩, fr2_mono f' hB⟩
  | false =>
    refine (rBarrier_dark w By y rv vals D h hc).mono ?_
    rintro e w' ⟨rfl, h', f'⟩
    exact ⟨rfl, ⟨By, rv, vals, hB, h'⟩, fr2_mono f' hB⟩

/-! Trip. -/
def Dk.tr (D : Dk) (n : Int) : Dk := { D with trip := max n (-1) }
theorem xTrip (w : World) (B p : Nat) (D : Dk) (hX : X w B p D) (n : Int) (hn : n ≤ 9223372036854775807) :
    Calls Try.prog 24 #[.pointer (some ⟨p, 0, none⟩), .int .i64 n] w fun e w' => e = .returned (.int .i64 0) ∧ X w' B p (D.tr n) ∧ Fr B w w' := by
  obtain ⟨g, vs, h⟩ := hX
  refine (Trip_any w B p g vs D h n hn).mono ?_
  rintro e w' ⟨rfl, h', f'⟩
  exact ⟨rfl, ⟨g, vs, h'⟩, f'⟩
theorem yTrip (w : World) (B y : Nat) (D : Dk) (hY : Y w B y D) (n : Int) (hn : n ≤ 9223372036854775807) :
    Calls Try.prog 25 #[.pointer (some ⟨y, 0, none⟩), .int .i64 n] w fun e w' => e = .returned (.tuple #[]) ∧ Y w' B y (D.tr n) ∧ Fr2 B w w' := by
  obtain ⟨By, rv, vals, hB, h⟩ := hY
  refine (rTrip_any w By y rv vals D h n hn).mono ?_
  rintro e w' ⟨rfl, h', f'⟩
  exact ⟨rfl, ⟨By, rv, vals, hB, h'⟩, fr2_mono f' hB⟩

/-! Crash. -/
theorem crashed_len (kept : List Int) (D : Dk) : (D.crashed kept).secs.length = D.secs.length := crashTo_len kept D _
theorem crashed_few {D : Dk} {n : Nat} (kept : List Int) (h : ∀ (i : Nat) (s : Sec), D.secs[i]? = some s → s.wait.length ≤ n) : ∀ (i : Nat) (s : Sec), (D.crashed kept).secs[i]? = some s → s.wait.length ≤ n := by
  intro i s hi
  simp only [Dk.crashed, Dk.crashTo, List.getElem?_mapIdx, Option.map_eq_some_iff] at hi
  obtain ⟨t, ht, e⟩ := hi
  have := h i t ht
  subst e
  split
  · unfold crashSec
    split
    · simp [Sec.settle]
    · exact this
  · exact this
theorem xCrash (w : World) (B p : Nat) (D : Dk) (L n : Nat) (hX : X w B p D) (hO : Okd D L n) (hn : n ≤ 1000) (v : Value) (kn base : Nat) (kept : List Int) (hk : kept.length = kn) (hb : ∀ z ∈ kept, -9223372036854775808 ≤ z ∧ z ≤ 9223372036854775807) (hv : w.ownsRow base 3 1 v kn (iv kept)) :
    Calls Try.prog 26 #[.pointer (some ⟨p, 0, none⟩), v] w fun e w' => e = .returned (.int .i64 0) ∧ X w' B p (D.crashed kept) ∧ Fr B w w' := by
  obtain ⟨g, vs, h⟩ := hX
  have few : ∀ (i : Nat) (s : Sec), D.secs[i]? = some s → s.wait.length ≤ 1000000 := fun i s hi => Nat.le_trans (hO.few i s hi) (by omega)
  have fin : ∀ w', (∃ (vs' : Nat → Value) (E : Dk), IsDisk w' B p g vs' { E with dark := false, trip := -1 } ∧ Part D (Gcr kept) D.cached.length E) → X w' B p (D.crashed kept) := by
    rintro w' ⟨vs', E, h', hP⟩
    rw [part_crash hP] at h'
    exact ⟨g, vs', h'⟩
  subst hk
  by_cases h0 : kept.length = 0
  · have e := List.eq_nil_of_length_eq_zero h0
    subst e
    obtain ⟨a, c, rfl, _⟩ := own_form hv
    refine (Crash_none w B p g vs D h few a c).mono ?_
    rintro e w' ⟨rfl, h', f'⟩
    exact ⟨rfl, fin _ h', f'⟩
  · rcases hv.2 with ⟨_, h1⟩ | ⟨q, cap, cur, rfl, _, hq, _⟩
    · exact absurd h1 h0
    · have hqg : q ≠ g := by
        intro e; subst e
        obtain ⟨cg, hg, _⟩ := h.row
        have := hq.symm.trans hg
        simp at this
      refine (Crash_at w B p g vs D h few kept q 0 cap ?_ (lt_of_heap hq) hqg ?_).mono ?_
      · intro j hj
        have := hv.cells (g := q) rfl j (.int .i64 (kept.getD j 0)) (by simp [iv, List.getD_eq_getElem?_getD, hj])
        simpa [Addr.add_mid] using this
      · intro j hj
        rw [List.getD_eq_getElem?_getD, List.getElem?_eq_getElem hj]
        exact hb _ (List.getElem_mem hj)
      · rintro e w' ⟨rfl, h', f'⟩
        exact ⟨rfl, fin _ h', f'⟩
theorem yCrash (w : World) (B y : Nat) (D : Dk) (L n : Nat) (hY : Y w B y D) (hO : Okd D L n) (hn : n ≤ 1000) (a : Option Addr) (c kn : Nat) (kept : List Int) (hk : kept.length = kn) (hK : KeptOf w B a kept) :
    Calls Try.prog 28 #[.pointer (some ⟨y, 0, none⟩), .slice a kn c] w fun e w' => e = .returned (.tuple #[]) ∧ Y w' B y (D.crashed kept) ∧ Fr2 B w w' := by
  obtain ⟨By, rv, vals, hB, h⟩ := hY
  obtain ⟨g, gc, hv⟩ := h.form (by rw [hO.len]; exact hO.one)
  have few : ∀ (i : Nat) (s : Sec), D.secs[i]? = some s → s.wait.length ≤ 1000000 := fun i s hi => Nat.le_trans (hO.few i s hi) (by omega)
  have hK' : KeptOf w By a kept := by
    rcases hK with h0 | ⟨kb, ko, e, h1, h2, h3⟩
    · exact .inl h0
    · exact .inr ⟨kb, ko, e, by omega, h2, h3⟩
  refine (rCrash_any w By y rv vals D h g gc hv (by rw [hO.len]; exact hO.most) few a c kn kept hk hK').mono ?_
  rintro e w' ⟨rfl, ⟨vals', h', _⟩, f'⟩
  exact ⟨rfl, ⟨By, rv, vals', hB, h'⟩, fr2_mono f' hB⟩

/-! Fetch. -/
def Dk.feE (D : Dk) (at_ : Int) : Int := if 0 ≤ at_ ∧ at_ < D.secs.length then (if D.dark = true then 10 else 0) else 2
theorem xFetch_bad (w : World) (B p : Nat) (D : Dk) (hX : X w B p D) (at_ : Int) (hb : ¬ ((0 ≤ at_ ∧ at_ < D.secs.length) ∧ D.dark = false)) :
    Calls Try.prog 21 #[.pointer (some ⟨p, 0, none⟩), .int .i64 at_] w fun e w' => e = .returned (.tuple #[.slice none 0 0, .int .i64 (D.feE at_)]) ∧ w' = w := by
  obtain ⟨g, vs, h⟩ := hX
  unfold Dk.feE
  by_cases hat : 0 ≤ at_ ∧ at_ < D.secs.length
  · have hd : D.dark = true := by cases hd : D.dark with | true => rfl | false => exact absurd ⟨hat, hd⟩ hb
    rw [if_pos hat, if_pos hd]
    exact Fetch_dark w B p g vs D h at_ hat hd
  · rw [if_neg hat]
    exact Fetch_out w B p g vs D h at_ hat
theorem yFetch_bad (w : World) (B y : Nat) (D : Dk) (L n : Nat) (hY : Y w B y D) (hO : Okd D L n) (at_ : Int) (hb : ¬ ((0 ≤ at_ ∧ at_ < D.secs.length) ∧ D.dark = false)) :
    Calls Try.prog 22 #[.pointer (some ⟨y, 0, none⟩), .int .i64 at_] w fun e w' => e = .returned (.tuple #[.slice none 0 0, .int .i64 (D.feE at_)]) ∧ w' = w := by
  obtain ⟨By, rv, vals, hB, h⟩ := hY
  obtain ⟨g, gc, hv⟩ := h.form (by rw [hO.len]; exact hO.one)
  unfold Dk.feE
  by_cases hat : 0 ≤ at_ ∧ at_ < D.secs.length
  · have hd : D.dark = true := by cases hd : D.dark with | true => rfl | false => exact absurd ⟨hat, hd⟩ hb
    rw [if_pos hat, if_pos hd]
    exact rFetch_dark w By y rv vals D h at_ hat hd g gc hv
  · rw [if_neg hat]
    exact rFetch_out w By y rv vals D h at_ hat g gc hv

/-! What both tell. -/
theorem last_len {s : Sec} (h : s.ok) : s.last.length = 256 := Sec.pick_len h _ (Nat.le_refl _)
theorem okd_dump {D : Dk} {L n : Nat} (h : Okd D L n) : D.dump.length = D.secs.length * 256 := by
  have : ∀ k, k ≤ D.secs.length → (D.dumpTo k).length = k * 256 := by
    intro k
    induction k with
    | zero => intro _; simp [Dk.dumpTo]
    | succ k ih =>
      intro hk
      rw [dumpTo_succ D k (by omega), List.length_append, ih (by omega), last_len (h.ok k _ (List.getElem?_eq_getElem (by omega)))]
      omega
  rw [← dumpTo_all]
  exact this _ (Nat.le_refl _)
theorem SameInts_own (w : World) (v v' : Value) (n base base' : Nat) (l : List Nat) (hl : l.length = n) (hn : n ≤ 1000000) (h : w.ownsRow base 3 1 v n (ints l)) (h' : w.ownsRow base' 3 1 v' n (ints l)) :
    Calls Try.prog 30 #[v, v'] w fun e w' => e = .returned (.bool true) ∧ ∃ m, w' = w.drewN m := by
  obtain ⟨a, c, rfl, f⟩ := own_form h
  obtain ⟨a', c', rfl, f'⟩ := own_form h'
  by_cases h0 : n = 0
  · subst h0
    refine (SameInts_nil w a a' c c').mono ?_
    rintro e w' ⟨rfl, rfl⟩
    exact ⟨rfl, 0, rfl⟩
  · obtain ⟨q, rfl, hc⟩ := f (by omega)
    obtain ⟨q', rfl, hc'⟩ := f' (by omega)
    have hg : ∀ j, j < n → (ints l)[j]? = some (.int .i64 ((l.map (fun (z : Nat) => (z : Int))).getD j 0)) := by
      intro j hj
      have : j < l.length := by omega
      simp [ints, List.getD_eq_getElem?_getD, this]
    refine (SameInts_at w q 0 q' 0 n c c' (l.map (fun (z : Nat) => (z : Int))) (l.map (fun (z : Nat) => (z : Int))) (by simp [hl]) (by simp [hl]) hn (fun j hj => by rw [Nat.zero_add]; exact hc j _ (hg j hj)) (fun j hj => by rw [Nat.zero_add]; exact hc' j _ (hg j hj))).mono ?_
    rintro e w' ⟨rfl, hm⟩
    exact ⟨by simp, hm⟩
theorem bytes_of_own {w : World} {base n c : Nat} {a : Option Addr} {x : List UInt8} (hn : x.length = n) (h : w.ownsRow base 5 1 (.slice a n c) n (bv x)) : BytesAt w a x := by
  rcases h.2 with ⟨e, h0⟩ | ⟨q, cap, cur, e, _⟩
  · have : x = [] := List.eq_nil_of_length_eq_zero (by omega)
    injection e with e
    subst e
    exact ⟨fun _ => this, fun ad e => by cases e⟩
  · injection e with e
    subst e
    exact ⟨fun e => (by cases e), fun ad e j u hu => by injection e with e; subst e; exact h.cells (g := q) rfl j u hu⟩
theorem SameBytes_own (w : World) (v v' : Value) (n base base' : Nat) (x : List UInt8) (hl : x.length = n) (h : w.ownsRow base 5 1 v n (bv x)) (h' : w.ownsRow base' 5 1 v' n (bv x)) :
    Calls Try.prog 23 #[v, v'] w fun e w' => e = .returned (.bool true) ∧ w' = w := by
  obtain ⟨a, c, rfl, _⟩ := own_form h
  obtain ⟨a', c', rfl, _⟩ := own_form h'
  refine (SameBytes_n w a a' x x n n c c' (bytes_of_own hl h) (bytes_of_own hl h') hl hl).mono ?_
  rintro e w' ⟨rfl, rfl⟩
  exact ⟨by simp, rfl⟩

end Go.Proofs.Ytaflibnalhfenaa
