/- Joined: WlT WlO WlS WlRooms WlResets. -/
import Derived.Test.YtfggahkimconfaaDoorJk

/- What crashes may leave of a log whose sectors are sure: its head is one of a few. -/
namespace Go.Proofs.YtfggahkimconfaaDoor
set_option linter.unusedVariables false

abbrev Zs := Nat → Nat → List (Nat × List UInt8) → Prop
/-- A head that may stand there: of an epoch at most k above what Z tells. -/
def candOk (S : List (List UInt8)) (Z : Zs) (k : Nat) (b : List UInt8) : Prop := ∃ n0 fro E now, Z n0 fro E ∧ now ≤ n0 + k ∧ LogOn S now fro E ∧ b = secB (headR now fro)
theorem candOk.mono {S : List (List UInt8)} {Z : Zs} {k k' : Nat} {b : List UInt8} (h : candOk S Z k b) (hk : k ≤ k') : candOk S Z k' b := by
  obtain ⟨n0, fro, E, now, h1, h2, h3, h4⟩ := h
  exact ⟨n0, fro, E, now, h1, by omega, h3, h4⟩
/-- A disk whose sectors are sure, but for the head's. -/
structure Cand (D : Dk) (S : List (List UInt8)) (Z : Zs) (k : Nat) : Prop where
  len : D.secs.length = 42
  rest : ∀ (i : Nat) (s : Sec), i ≠ 1 → D.secs[i]? = some s → s.wait = []
  data : D.dataS 1 40 = S
  head : ∀ (s : Sec), D.secs[1]? = some s → ∀ j, j ≤ s.wait.length → candOk S Z k (s.pick j)
theorem data_same {D D' : Dk} (h : ∀ i, i ≠ 1 → D'.lasts[i]? = D.lasts[i]?) : D'.dataS 1 40 = D.dataS 1 40 := by
  unfold Dk.dataS
  congr 1
  apply List.ext_getElem?
  intro i
  rw [List.getElem?_drop, List.getElem?_drop]
  exact h _ (by omega)
theorem crashed_get (kept : List Int) (D : Dk) (i : Nat) : (D.crashed kept).secs[i]? = (D.secs[i]?).map (crashSec kept D i) := by
  unfold Dk.crashed Dk.crashTo
  simp only [List.getElem?_mapIdx]
  cases hi : D.secs[i]? with
  | none => rfl
  | some s =>
    have := (List.getElem?_eq_some_iff.1 hi).1
    simp [this]
theorem crash_sec_dry (kept : List Int) (D : Dk) (i : Nat) (s : Sec) : (crashSec kept D i s).wait = [] := by
  unfold crashSec
  split
  · rfl
  · rename_i h
    exact List.eq_nil_of_length_eq_zero (by omega)
theorem crash_sec_pick (kept : List Int) (D : Dk) (i : Nat) (s : Sec) : ∃ j, j ≤ s.wait.length ∧ (crashSec kept D i s).last = s.pick j := by
  unfold crashSec
  split
  · exact ⟨_, pickAt_le _ _ _, rfl⟩
  · exact ⟨s.wait.length, Nat.le_refl _, rfl⟩
theorem crash_sec_none (kept : List Int) (D : Dk) (i : Nat) (s : Sec) (h : s.wait = []) : crashSec kept D i s = s := by
  unfold crashSec
  rw [if_neg (by rw [h]; simp)]
theorem crashed_dry (kept : List Int) (D : Dk) : Dry (D.crashed kept) := fun i s hi => by
  rw [crashed_get] at hi
  obtain ⟨t, _, rfl⟩ := Option.map_eq_some_iff.1 hi
  exact crash_sec_dry _ _ _ _
theorem lasts_get (D : Dk) (i : Nat) : D.lasts[i]? = (D.secs[i]?).map Sec.last := by unfold Dk.lasts; rw [List.getElem?_map]
/-- Behind a crash: the log lies there, with one of the heads. -/
theorem Cand.crash {D : Dk} {S : List (List UInt8)} {Z : Zs} {k : Nat} (h : Cand D S Z k) (kept : List Int) :
    ∃ n0 fro E now, Z n0 fro E ∧ now ≤ n0 + k ∧ Lay (D.crashed kept) 1 40 now fro E ∧ (D.crashed kept).dataS 1 40 = S ∧ (D.crashed kept).secs.length = 42 := by
  obtain ⟨s, hs⟩ : ∃ s, D.secs[1]? = some s := ⟨_, List.getElem?_eq_getElem (by rw [h.len]; omega)⟩
  obtain ⟨j, hj, hp⟩ := crash_sec_pick kept D 1 s
  obtain ⟨n0, fro, E, now, h1, h2, h3, h4⟩ := h.head s hs j hj
  have hl : (D.crashed kept).secs.length = 42 := by
    have := crashTo_len kept D D.secs.length
    rw [← h.len]
    exact this
  have hd : (D.crashed kept).dataS 1 40 = S := by
    rw [← h.data]
    refine data_same fun i hi => ?_
    rw [lasts_get, lasts_get, crashed_get]
    cases hs : D.secs[i]? with
    | none => rfl
    | some t =>
      simp only [Option.map_some]
      rw [crash_sec_none _ _ _ _ (h.rest i t hi hs)]
  refine ⟨n0, fro, E, now, h1, h2, ⟨⟨rfl, rfl⟩, by omega, by rw [hl]; omega, by rw [hl]; omega, ?_, by rw [hd]; exact h3⟩, hd, hl⟩
  rw [lasts_get, crashed_get, hs]
  simp only [Option.map_some]
  rw [hp, h4]

/-! With a trip. -/
theorem tr_secs (D : Dk) (n : Int) : (D.tr n).secs = D.secs := rfl
theorem moved_more {D : Dk} (hd : D.dark = false) (ht : 0 < D.trip) : D.moved.trip = D.trip - 1 ∧ D.moved.dark = false := by
  unfold Dk.moved
  rw [if_neg (by omega), if_neg (by rw [hd]; decide)]
  refine ⟨?_, hd⟩
  show (if 0 < D.trip then D.trip - 1 else D.trip) = D.trip - 1
  rw [if_pos ht]
theorem can_of {D : Dk} (hd : D.dark = false) (ht : D.trip ≠ 0) : D.can = true := by
  unfold Dk.can
  rw [hd]
  simp [ht]
theorem can_not {D : Dk} (ht : D.trip = 0) : D.can = false := by
  unfold Dk.can
  rw [ht]
  rfl
/-- A store and a barrier, with a trip of t moves. -/
theorem sb_trip {D : Dk} (q : quiet D) {a : Nat} {x : List UInt8} (ha : a < D.secs.length) (hx : x.length = 256) (t : Nat) :
    (t < 2 → ((D.tr t).sb a x).2 = 10 ∧ (((D.tr t).sb a x).1.secs = D.secs ∨ ((D.tr t).sb a x).1.secs = D.secs.set a ((D.secs.getD a ⟨[], []⟩).add x))) ∧
    (2 ≤ t → ((D.tr t).sb a x).2 = 0 ∧ ((D.tr t).sb a x).1.dark = false ∧ ((D.tr t).sb a x).1.secs = (D.secs.set a ((D.secs.getD a ⟨[], []⟩).add x)).map Sec.flush) := by
  have hat : 0 ≤ (a : Int) ∧ (a : Int) < (D.tr t).secs.length := by rw [tr_secs]; omega
  have htr : (D.tr t).trip = (t : Int) := by show max (t : Int) (-1) = t; omega
  have hdk : (D.tr t).dark = false := q.2
  by_cases h0 : t = 0
  · subst h0
    have hc := can_not (D := D.tr ((0 : Nat) : Int)) htr
    have e : (D.tr ((0 : Nat) : Int)).sb a x = ((D.tr ((0 : Nat) : Int)).moved, 10) := by
      unfold Dk.sb
      rw [stE_dark hat rfl hc, if_neg (by decide), st_dark hat hx hc]
    rw [e]
    exact ⟨fun _ => ⟨rfl, .inl (by rw [Dk.moved_secs]; rfl)⟩, fun h => by omega⟩
  · have hc := can_of hdk (show (D.tr t).trip ≠ 0 by rw [htr]; omega)
    obtain ⟨m1, m2⟩ := moved_more hdk (show 0 < (D.tr t).trip by rw [htr]; omega)
    have hst : (D.tr t).st a x = (D.tr t).sto a x := by have := st_ok hat hx hc; rwa [Int.toNat_natCast] at this
    have hss : ((D.tr t).sto a x).secs = D.secs.set a ((D.secs.getD a ⟨[], []⟩).add x) := by
      unfold Dk.sto Dk.put
      rw [Dk.moved_secs]
      rfl
    have htp : ((D.tr t).sto a x).trip = (t : Int) - 1 := by have h8 := m1; rw [htr] at h8; exact h8
    have hdp : ((D.tr t).sto a x).dark = false := m2
    have e : (D.tr t).sb a x = (((D.tr t).sto a x).ba, ((D.tr t).sto a x).baE) := by
      unfold Dk.sb
      rw [if_pos (stE_ok hat rfl hc), hst]
    rw [e]
    by_cases h1 : t = 1
    · have hc2 := can_not (D := (D.tr t).sto a x) (by rw [htp, h1]; rfl)
      refine ⟨fun _ => ⟨by unfold Dk.baE; rw [if_neg (by rw [hc2]; decide)], .inr ?_⟩, fun h => by omega⟩
      show ((D.tr t).sto a x).ba.secs = _
      unfold Dk.ba
      rw [if_neg (by rw [hc2]; decide), Dk.moved_secs, hss]
    · have hc2 := can_of hdp (show ((D.tr t).sto a x).trip ≠ 0 by rw [htp]; omega)
      obtain ⟨m3, m4⟩ := moved_more hdp (show 0 < ((D.tr t).sto a x).trip by rw [htp]; omega)
      refine ⟨fun h => by omega, fun _ => ⟨by unfold Dk.baE; rw [if_pos hc2], ?_, ?_⟩⟩
      · show ((D.tr t).sto a x).ba.dark = false
        unfold Dk.ba
        rw [if_pos hc2]
        exact m4
      · show ((D.tr t).sto a x).ba.secs = _
        unfold Dk.ba
        rw [if_pos hc2]
        unfold Dk.bar
        rw [hss]
/-- The next epoch, with a trip of t moves. -/
theorem nxt_trip {D : Dk} {a n now fro : Nat} {E : List (Nat × List UInt8)} (h : Lay D a n now fro E) (ht : now < 4294967295) (g : Lg) (hg : g.at_ = a ∧ g.now = now) (f t : Nat) :
    (t < 2 → ∃ D', g.nxt (D.tr t) f = (D', { g with gone := true }, 10) ∧ (D'.secs = D.secs ∨ D'.secs = D.secs.set a ((D.secs.getD a ⟨[], []⟩).add (secB (headR (now + 1) f))))) ∧
    (2 ≤ t → ∃ D', g.nxt (D.tr t) f = (D', { g with now := now + 1, fro := f }, 0) ∧ D'.dark = false ∧ D'.secs = (D.secs.set a ((D.secs.getD a ⟨[], []⟩).add (secB (headR (now + 1) f)))).map Sec.flush) := by
  obtain ⟨h1, h2⟩ := sb_trip h.q (a := a) (x := secB (headR (now + 1) f)) (by have := h.fit; have := h.two; omega) (secB_len (head_fit (by omega))) t
  refine ⟨fun hlt => ?_, fun hge => ?_⟩
  · obtain ⟨e1, e2⟩ := h1 hlt
    refine ⟨_, ?_, e2⟩
    unfold Lg.nxt
    rw [hg.1, hg.2, if_neg (by omega), if_neg (by rw [e1]; decide), e1]
  · obtain ⟨e1, e2, e3⟩ := h2 hge
    refine ⟨_, ?_, e2, e3⟩
    unfold Lg.nxt
    rw [hg.1, hg.2, if_neg (by omega), if_pos e1]
theorem opn_trip {D : Dk} {now fro : Nat} {E : List (Nat × List UInt8)} (h : Lay D 1 40 now fro E) (t : Nat) :
    (D.tr t).opn (1 : Nat) (40 : Nat) = ((Lg.nxt ⟨1, 40, now, fro, E.map (·.2), usedBy E, E.length, false⟩ (D.tr t) fro).1, if (Lg.nxt ⟨1, 40, now, fro, E.map (·.2), usedBy E, E.length, false⟩ (D.tr t) fro).2.2 = 0 then some (Lg.nxt ⟨1, 40, now, fro, E.map (·.2), usedBy E, E.length, false⟩ (D.tr t) fro).2.1 else none, (Lg.nxt ⟨1, 40, now, fro, E.map (·.2), usedBy E, E.length, false⟩ (D.tr t) fro).2.2) := by
  have hf : num (headR now fro).data = fro := num_head (by have := h.log.ord; have := h.log.top; omega)
  have e1 : placeOk (D.tr t) (1 : Nat) (40 : Nat) := h.place
  have e2 : (D.tr t).headAt 1 = some (headR now fro) := h.headAt
  have e3 : (D.tr t).found 1 40 (headR now fro) = ⟨1, 40, now, fro, E.map (·.2), usedBy E, E.length, false⟩ := h.found
  have e4 : (D.tr t).dark = false := h.q.2
  unfold Dk.opn
  rw [if_pos e1, if_neg (by rw [e4]; decide)]
  simp only [Int.toNat_natCast, e2, e3, hf]
theorem set_rest {D D' : Dk} {x : List UInt8} (hl : D.secs.length = 42) (hs : D'.secs = D.secs.set 1 ((D.secs.getD 1 ⟨[], []⟩).add x)) : D'.secs.length = 42 ∧ (∀ i, i ≠ 1 → D'.secs[i]? = D.secs[i]?) ∧ ∃ s, D.secs[1]? = some s ∧ D'.secs[1]? = some (s.add x) := by
  obtain ⟨s, hs1⟩ : ∃ s, D.secs[1]? = some s := ⟨_, List.getElem?_eq_getElem (by omega)⟩
  refine ⟨by rw [hs, List.length_set, hl], fun i hi => by rw [hs, List.getElem?_set_ne (fun e => hi e.symm)], s, hs1, ?_⟩
  rw [hs, List.getElem?_set_self (by omega), List.getD_eq_getElem?_getD, hs1]
  rfl
theorem data_rest {D D' : Dk} (h : ∀ i, i ≠ 1 → D'.secs[i]? = D.secs[i]?) : D'.dataS 1 40 = D.dataS 1 40 := data_same fun i hi => by rw [lasts_get, lasts_get, h i hi]
/-- A cut that left a head more, or none: the heads that may stand there. -/
theorem cand_cut {D D' : Dk} {S : List (List UInt8)} {Z : Zs} {k k' : Nat} {now fro now' fro' : Nat} {E : List (Nat × List UInt8)} (h : Lay D 1 40 now fro E) (hd : Dry D) (hl : D.secs.length = 42) (hS : D.dataS 1 40 = S) (hc : candOk S Z k (secB (headR now fro))) (hc' : candOk S Z k' (secB (headR now' fro'))) (hk : k ≤ k')
    (hs : D'.secs = D.secs ∨ D'.secs = D.secs.set 1 ((D.secs.getD 1 ⟨[], []⟩).add (secB (headR now' fro')))) : Cand D' S Z k' := by
  have hh := h.head
  rw [lasts_get] at hh
  rcases hs with hs | hs
  · refine ⟨by rw [hs, hl], fun i s _ hi => hd i s (by rw [← hs]; exact hi), by rw [← hS]; exact data_rest (fun i _ => by rw [hs]), fun s h1 j hj => ?_⟩
    rw [hs] at h1
    have hw := hd 1 s h1
    rw [h1] at hh
    rw [hw] at hj
    obtain rfl : j = 0 := by simpa using hj
    have e : s.last = secB (headR now fro) := by simpa using hh
    unfold Sec.last at e
    rw [hw] at e
    have e' : s.pick 0 = secB (headR now fro) := e
    rw [e']
    exact hc.mono hk
  · obtain ⟨e1, e2, s, e3, e4⟩ := set_rest hl hs
    refine ⟨e1, fun i t hi ht => hd i t (by rw [← e2 i hi]; exact ht), by rw [← hS]; exact data_rest e2, fun t h1 j hj => ?_⟩
    rw [e4] at h1
    injection h1 with h1
    subst h1
    have hw := hd 1 s e3
    rw [e3] at hh
    have e : s.last = secB (headR now fro) := by simpa using hh
    unfold Sec.last at e
    rw [hw] at e
    have ew : (s.add (secB (headR now' fro'))).wait = [secB (headR now' fro')] := by unfold Sec.add; rw [hw]; rfl
    rw [ew] at hj
    match j, hj with
    | 0, _ =>
      have e' : (s.add (secB (headR now' fro'))).pick 0 = secB (headR now fro) := e
      rw [e']
      exact hc.mono hk
    | 1, _ =>
      have e' : (s.add (secB (headR now' fro'))).pick 1 = secB (headR now' fro') := by
        show (s.add (secB (headR now' fro'))).wait.getD 0 [] = _
        rw [ew]
        rfl
      rw [e']
      exact hc'
/-- What is whole behind it. -/
theorem lay_whole {D D' : Dk} {S : List (List UInt8)} {now fro now' fro' : Nat} {E E' : List (Nat × List UInt8)} (h : Lay D 1 40 now fro E) (hl : D.secs.length = 42) (hS : D.dataS 1 40 = S) (hL : LogOn S now' fro' E') (hdk : D'.dark = false)
    (hs : D'.secs = (D.secs.set 1 ((D.secs.getD 1 ⟨[], []⟩).add (secB (headR now' fro')))).map Sec.flush) : Lay (D'.tr (-1)) 1 40 now' fro' E' ∧ Dry D' ∧ D'.secs.length = 42 ∧ D'.dataS 1 40 = S := by
  have hlen : D'.secs.length = 42 := by rw [hs]; simp [hl]
  obtain ⟨s, hs1⟩ : ∃ s, D.secs[1]? = some s := ⟨_, List.getElem?_eq_getElem (by omega)⟩
  have hg : D'.lasts = D.lasts.set 1 (secB (headR now' fro')) := by
    unfold Dk.lasts
    rw [hs, List.map_map]
    have : (Sec.last ∘ Sec.flush) = Sec.last := rfl
    rw [this, List.map_set, last_add]
  have hdry : Dry D' := fun i t ht => by
    rw [hs, List.getElem?_map] at ht
    obtain ⟨u, _, rfl⟩ := Option.map_eq_some_iff.1 ht
    rfl
  have hdata : D'.dataS 1 40 = S := by
    rw [← hS]
    refine data_same fun i hi => ?_
    rw [hg, List.getElem?_set_ne (fun e => hi e.symm)]
  refine ⟨⟨⟨rfl, hdk⟩, by omega, by rw [tr_secs, hlen]; omega, by rw [tr_secs, hlen]; omega, ?_, ?_⟩, hdry, hlen, hdata⟩
  · show D'.lasts[1]? = _
    rw [hg]
    exact List.getElem?_set_self (by rw [lasts_len, hl]; omega)
  · show LogOn (D'.dataS 1 40) now' fro' E'
    rw [hdata]
    exact hL

end Go.Proofs.YtfggahkimconfaaDoor

/- The walk of opened: behind crashes, each cutting the opening. -/
namespace Go.Proofs.YtfggahkimconfaaDoor
open Go.RowKit
set_option linter.unusedVariables false

theorem xCrashK (w : World) (B p : Nat) (D : Dk) (L n : Nat) (hX : X w B p D) (hO : Okd D L n) (hn : n ≤ 1000) (a : Option Addr) (c kn : Nat) (kept : List Int) (hk : kept.length = kn) (hK : KeptOf w B a kept) :
    Calls Tryd.prog 26 #[.pointer (some ⟨p, 0, none⟩), .slice a kn c] w fun e w' => e = .returned (.int .i64 0) ∧ X w' B p (D.crashed kept) ∧ Fr B w w' ∧ Okd (D.crashed kept) L n := by
  obtain ⟨g, vs, h⟩ := hX
  refine (Crash_any w B p g vs D h (fun i s hi => Nat.le_trans (hO.few i s hi) (by omega)) a c kn kept hk hK).mono ?_
  rintro e w' ⟨rfl, ⟨vs', E, h', hP⟩, f'⟩
  rw [part_crash hP] at h'
  have x' : X w' B p (D.crashed kept) := ⟨g, vs', h'⟩
  exact ⟨rfl, x', f', Okd.of x' (by rw [← hO.len]; exact crashTo_len kept D D.secs.length) (crashed_few kept hO.few)⟩

/-- Crashes that came in: how many moves go, and what is kept. -/
def CutAt (w : World) (B b o : Nat) (c : Int × List Int) : Prop := w.cell? ⟨b, o, none⟩ = some (.int .i64 c.1) ∧ ∃ ka kc, w.cell? ⟨b, o + 1, none⟩ = some (.slice ka c.2.length kc) ∧ KeptOf w B ka c.2
def CutsOf (w : World) (B : Nat) (a : Option Addr) (cuts : List (Int × List Int)) : Prop := cuts = [] ∨ ∃ b o, a = some ⟨b, o, none⟩ ∧ b < B ∧ ∀ (j : Nat) (c : Int × List Int), cuts[j]? = some c → CutAt w B b (o + j * 2) c
theorem CutAt.below {w w' : World} {B b o : Nat} {c : Int × List Int} (h : CutAt w B b o c) (hb : b < B) (f : Below B w w') : CutAt w' B b o c := by
  obtain ⟨h1, ka, kc, h2, h3⟩ := h
  exact ⟨(f.cell (p := ⟨b, o, none⟩) hb).trans h1, ka, kc, (f.cell (p := ⟨b, o + 1, none⟩) hb).trans h2, h3.below f⟩
theorem CutsOf.below {w w' : World} {B : Nat} {a : Option Addr} {cuts : List (Int × List Int)} (h : CutsOf w B a cuts) (f : Below B w w') : CutsOf w' B a cuts := by
  rcases h with h | ⟨b, o, e, hb, h⟩
  · exact .inl h
  · exact .inr ⟨b, o, e, hb, fun j c hj => (h j c hj).below hb f⟩

section
variable {T : World → Prop} {LG : (Nat → Prop) → World → Nat → Nat → Nat → Lg → Prop}

/-- Between two rounds of opened. -/
structure OI (wb w : World) (p n k i : Nat) (Ss : List (List UInt8)) (Z : Zs) (W : World) : Prop where
  ex : ∃ D, X W wb.heap.size p D ∧ Okd D 42 (n + i) ∧ Cand D Ss Z (k + i)
  fr : Fr wb.heap.size w W
  le : i ≤ 6
/-- What opened leaves. -/
structure OD (T : World → Prop) (LG : (Nat → Prop) → World → Nat → Nat → Nat → Lg → Prop) (wb w : World) (p n k x : Nat) (Ss : List (List UInt8)) (Z : Zs) (F : Nat → Prop) (n0 fro now : Nat) (E : List (Nat × List UInt8)) (D : Dk) (W : World) : Prop where
  z : Z n0 fro E
  le : now ≤ n0 + (k + 8)
  s : St T LG wb p x 42 (n + 8) F D ⟨1, 40, now, fro, E.map (·.2), usedBy E, E.length, false⟩ W
  lay : Lay D 1 40 now fro E
  dry : Dry D
  len : D.secs.length = 42
  data : D.dataS 1 40 = Ss
  fr : Fr wb.heap.size w W
  new : ∀ k, F k → w.heap.size ≤ k

/-- One round: the crash, the trip, the opening. -/
theorem open_round {D : Dk} {Ss : List (List UInt8)} {Z : Zs} {k : Nat} (hC : Cand D Ss Z k) (hZ : ∀ n0 fro E, Z n0 fro E → n0 ≤ 1000) (hk : k ≤ 1000) (kept : List Int) (t : Nat) :
    (∃ D', ((D.crashed kept).tr t).opn (1 : Nat) (40 : Nat) = (D', none, 10) ∧ Cand D' Ss Z (k + 1)) ∨
    (∃ D' n0 fro E now, ((D.crashed kept).tr t).opn (1 : Nat) (40 : Nat) = (D', some ⟨1, 40, now, fro, E.map (·.2), usedBy E, E.length, false⟩, 0) ∧ Z n0 fro E ∧ now ≤ n0 + (k + 1) ∧ Lay (D'.tr (-1)) 1 40 now fro E ∧ Dry D' ∧ D'.secs.length = 42 ∧ D'.dataS 1 40 = Ss) := by
  obtain ⟨n0, fro, E, now, z, hle, lay, hd, hl⟩ := hC.crash kept
  have hn0 := hZ _ _ _ z
  have hlog := lay.log
  rw [hd] at hlog
  have c0 : candOk Ss Z k (secB (headR now fro)) := ⟨n0, fro, E, now, z, hle, hlog, rfl⟩
  have hlog1 := hlog.opened (by omega)
  have c1 : candOk Ss Z (k + 1) (secB (headR (now + 1) fro)) := ⟨n0, fro, E, now + 1, z, by omega, hlog1, rfl⟩
  obtain ⟨n1, n2⟩ := nxt_trip lay (by omega) ⟨1, 40, now, fro, E.map (·.2), usedBy E, E.length, false⟩ ⟨rfl, rfl⟩ fro t
  have ho := opn_trip lay t
  by_cases ht : t < 2
  · obtain ⟨D', e1, e2⟩ := n1 ht
    refine .inl ⟨D', ?_, cand_cut lay (crashed_dry kept D) hl hd c0 c1 (by omega) e2⟩
    rw [ho, e1]
    rfl
  · obtain ⟨D', e1, e2, e3⟩ := n2 (by omega)
    obtain ⟨l1, l2, l3, l4⟩ := lay_whole lay hl hd hlog1 e2 e3
    refine .inr ⟨D', n0, fro, E, now + 1, ?_, z, by omega, l1, l2, l3, l4⟩
    rw [ho, e1]
    rfl

set_option maxRecDepth 100000 in
set_option maxHeartbeats 3200000 in
theorem opened_any (S : Wals T LG) (wb : World) (hT : T wb) (hw : 1 ≤ wb.heap.size) (w : World) (hb : Below wb.heap.size wb w) (p : Nat) (D : Dk) (n : Nat) (hX : X w wb.heap.size p D) (hO : Okd D 42 n) (hn : n ≤ 500) (Ss : List (List UInt8)) (Z : Zs) (k : Nat) (hC : Cand D Ss Z k) (hZ : ∀ n0 fro E, Z n0 fro E → n0 ≤ 1000) (hk : k ≤ 100)
    (a : Option Addr) (cn cc : Nat) (cuts : List (Int × List Int)) (hcl : cuts.length = cn) (hcm : cn ≤ 140737488355328) (hcuts : CutsOf w wb.heap.size a cuts) :
    Calls Tryd.prog 11 #[.pointer (some ⟨p, 0, none⟩), .slice a cn cc] w fun e w' => ∃ x F n0 fro now E D', e = .returned (.pointer (some ⟨x, 0, none⟩)) ∧ OD T LG wb w p n k x Ss Z F n0 fro now E D' w' := by
  have HT := hide hT
  have HB := hide hb
  have HC := hide hcuts
  have HZ := hide hZ
  have HI0 : Hid (OI wb w p n k 0 Ss Z w) := ⟨⟨D, hX, hO, hC⟩, Fr.refl _ _, by omega⟩
  clear hT hb hcuts hZ hX hO hC
  go_enter Tryd.func11, Tryd.ntmps11
  go_wp2
  go_loopw [5] (fun i wr => ∃ j : Nat, j ≤ cn ∧ i = .int .i64 j ∧ OI wb w p n k j Ss Z wr) (fun i _ => cn - (intOf i).toNat)
  case atStart => exact ⟨0, by omega, rfl, unhide HI0⟩
  case round =>
    clear HI0
    obtain ⟨j, hj, rfl, hI⟩ := hrel
    have hj6 := hI.le
    obtain ⟨D, hX, hO, hC⟩ := hI.ex
    by_cases hlt : j < cn ∧ j < 6
    · have hlt1 : (j : Int) < (cn : Int) := by omega
      have g6 : decide ((j : Int) < 6) = true := by simp; omega
      obtain ⟨c, hc⟩ : ∃ c, cuts[j]? = some c := ⟨_, List.getElem?_eq_getElem (by omega)⟩
      obtain ⟨b, o, rfl, hbb, hcs⟩ := (unhide HC).resolve_left (fun e => by rw [e] at hc; cases hc)
      have hcut := (hcs j c hc).below hbb hI.fr.below
      obtain ⟨hc1, ka, kc, hc2, hK⟩ := hcut
      have H1 := hide (xCrashK wr wb.heap.size p D 42 (n + j) hX hO (by omega) ka kc c.2.length c.2 rfl hK)
      have HFR := hide hI.fr
      have CN := hide (fun W (f : Below wb.heap.size wr W) => ((hcs j c hc).below hbb (hI.fr.below.trans f)).1)
      clear hcs hI hK hX hO
      go_wp2_with fail
      refine (unhide H1).mono ?_
      rintro e w1 ⟨rfl, x1, f1, k1⟩
      have hc1' := unhide CN w1 f1.below
      have H2 := hide (Among_any w1 c.1 4 (by omega) (by omega))
      have HH : Hid (HdOk ((D.crashed c.2).tr (among c.1 4)) 1) := by
        obtain ⟨_, _, _, _, _, _, lay0, _⟩ := hC.crash c.2
        exact lay0.hd
      have hrd := open_round hC (unhide HZ) (by omega) c.2 (among c.1 4)
      have ht4 := among_lt c.1 4 (by omega)
      generalize among c.1 4 = t at *
      have H3 := hide (xTrip w1 wb.heap.size p _ x1 (t : Int) (by omega))
      have F1 := hide ((unhide HFR).trans f1)
      have K1 := hide k1
      clear H1 x1 f1 k1 hC HFR CN hc1
      go_wp2_with fail
      refine (unhide H2).mono ?_
      rintro e w2 ⟨rfl, rfl⟩
      go_wp2_with fail
      refine (unhide H3).mono ?_
      rintro e w3 ⟨rfl, x3, f3⟩
      have k3 : Okd ((D.crashed c.2).tr t) 42 (n + j) := ⟨(unhide K1).len, (unhide K1).one, (unhide K1).most, (unhide K1).ok, (unhide K1).few⟩
      have f3' := (unhide F1).trans f3
      have T3 := hide (S.table (unhide HT) ((unhide HB).trans f3'.below) hw)
      rcases hrd with ⟨D', e1, cd⟩ | ⟨D', n0, fro, E, now, e1, z, hle, lay, dry, hl, hd⟩
      · have H4 := hide (S.fails w3 wb.heap.size p _ D' 42 (n + j) 1 40 10 (unhide T3) hw x3 k3 (by omega) (by decide) (by decide) e1)
        have F3 := hide f3'
        have K3 := hide k3
        have E1 := hide e1
        clear H2 H3 x3 f3 f3' k3 F1 K1 e1
        go_wp2_with fail
        refine (unhide H4).mono ?_
        rintro e w4 ⟨rfl, x4, f4⟩
        have HI1 : Hid (OI wb w p n k (j + 1) Ss Z w4) := ⟨⟨D', x4, okd_opn (unhide K3) (unhide E1) x4, cd⟩, (unhide F3).trans f4, by omega⟩
        clear H4 x4 f4 F3 K3 E1 cd
        go_wp2
        go_roundw
        case rel => exact ⟨j + 1, by omega, by go_num, unhide HI1⟩
        case measure => simp [intOf]; omega
      · have H4 := hide (S.opens w3 wb.heap.size p _ D' _ 42 (n + j) 1 40 (unhide T3) hw x3 k3 (by omega) (by decide) (by decide) e1)
        have F3 := hide f3'
        have K3 := hide k3
        have E1 := hide e1
        clear H2 H3 x3 f3 f3' k3 F1 K1 e1
        go_wp2_with fail
        refine (unhide H4).mono ?_
        rintro e w4 ⟨x, F, rfl, l4, hF, x4, f4⟩
        have H5 := hide (xTrip w4 wb.heap.size p _ x4 (-1) (by omega))
        have L4 := hide l4
        have K4 := hide (okd_opn (unhide K3) (unhide E1) x4)
        have F4 := hide ((unhide F3).trans f4)
        have HF := hide (fun k (hk : F k) => Nat.le_trans (unhide F3).below.size (hF k hk))
        clear H4 l4 x4 f4 hF F3 K3 E1
        go_wp2_with fail
        refine (unhide H5).mono ?_
        rintro e w5 ⟨rfl, x5, f5⟩
        have HD : Hid (OD T LG wb w p n k x Ss Z F n0 fro now E (D'.tr (-1)) w5) :=
          ⟨z, by omega, ⟨x5, ⟨(unhide K4).len, (unhide K4).one, (unhide K4).most, (unhide K4).ok, fun i s hi => Nat.le_trans ((unhide K4).few i s hi) (by omega)⟩, S.fr (unhide L4) f5, (unhide HB).trans ((unhide F4).trans f5).below⟩, lay, dry, hl, hd, (unhide F4).trans f5, unhide HF⟩
        clear H5 x5 f5 L4 K4 F4 HF lay dry
        go_wp2
        go_ret
        exact ⟨_, _, _, _, _, _, _, rfl, unhide HD⟩
    · have hg : (j : Int) < (cn : Int) ∧ decide ((j : Int) < 6) = false ∨ ¬ (j : Int) < (cn : Int) := by
        by_cases h : j < cn
        · exact .inl ⟨by omega, by simp; omega⟩
        · exact .inr (by omega)
      have H1 := hide (xCrashK wr wb.heap.size p D 42 (n + j) hX hO (by omega) none 0 0 [] rfl (.inl rfl))
      obtain ⟨n0, fro, E, now, z, hle, lay, hd, hl⟩ := hC.crash []
      have hn0 := unhide HZ _ _ _ z
      obtain ⟨D', e1, lay', hl', dry', hdat0⟩ := lay.opn (by omega)
      have hdat := hdat0.trans hd
      have HH : Hid (HdOk (D.crashed []) 1) := lay.hd
      have HFR := hide hI.fr
      have E1 := hide e1
      clear hI hX hO hC
      rcases hg with ⟨g1, g2⟩ | g1
      all_goals
        go_wp2_with fail
        refine (unhide H1).mono ?_
        rintro e w1 ⟨rfl, x1, f1, k1⟩
        have f1' := (unhide HFR).trans f1
        have H2 := hide (S.opens w1 wb.heap.size p _ D' _ 42 (n + j) 1 40 (S.table (unhide HT) ((unhide HB).trans f1'.below) hw) hw x1 k1 (by omega) (by decide) (by decide) (unhide E1))
        have F1 := hide f1'
        have K1 := hide k1
        clear H1 x1 f1 k1 f1'
        go_wp2_with fail
        refine (unhide H2).mono ?_
        rintro e w4 ⟨x, F, rfl, l4, hF, x4, f4⟩
        have HD : Hid (OD T LG wb w p n k x Ss Z F n0 fro (now + 1) E D' w4) :=
          ⟨z, by omega, ⟨x4, (okd_opn (unhide K1) (unhide E1) x4).mono (by omega), l4, (unhide HB).trans ((unhide F1).trans f4).below⟩, lay', dry', by rw [hl', hl], hdat, (unhide F1).trans f4, fun k hk => Nat.le_trans (unhide F1).below.size (hF k hk)⟩
        clear H2 x4 f4 l4 hF F1 K1 E1 lay lay' dry'
        go_wp2
        go_ret
        exact ⟨_, _, _, _, _, _, _, rfl, unhide HD⟩
end

end Go.Proofs.YtfggahkimconfaaDoor

/- The walk of begun: a log with records that are sure. -/
namespace Go.Proofs.YtfggahkimconfaaDoor
open Go.RowKit
set_option linter.unusedVariables false

section
variable {T : World → Prop} {LG : (Nat → Prop) → World → Nat → Nat → Nat → Lg → Prop}

theorem begun_model : ∃ D1 D2, (Dk.fresh 42).fmt (1 : Nat) (40 : Nat) = (D1, 0) ∧ D1.opn (1 : Nat) (40 : Nat) = (D2, some ⟨1, 40, 2, 1, [], 0, 0, false⟩, 0) ∧ On D2 ⟨1, 40, 2, 1, [], 0, 0, false⟩ [] ∧ HdOk D1 (1 : Nat) := by
  have q0 : quiet (Dk.fresh 42) := ⟨rfl, rfl⟩
  have s0 : (Dk.fresh 42).secs.length = 42 := by simp [Dk.fresh]
  obtain ⟨D1, e1, l1, s1, _⟩ := fmt_quiet q0 (a := 1) (n := 40) (by omega) (by rw [s0]; omega) (by rw [s0]; omega) fresh_dead
  obtain ⟨D2, e2, l2, s2, _⟩ := l1.opn (by omega)
  exact ⟨D1, D2, e1, e2, l2.on 0, l1.hd⟩

/-- Between two rounds of begun. -/
structure BR (T : World → Prop) (LG : (Nat → Prop) → World → Nat → Nat → Nat → Lg → Prop) (w : World) (p x k : Nat) (W : World) : Prop where
  ex : ∃ F D g E, St T LG w p x 42 (2 + 18 * k) F D g W ∧ On D g E ∧ g.at_ = 1 ∧ g.size = 40 ∧ g.now = 2 ∧ g.fro = 1 ∧ usedBy E ≤ 3 * k
  le : k ≤ 6
theorem BR.step {w W : World} {p x k : Nat} (S : Wals T LG) (hT : T w) (hw : 1 ≤ w.heap.size) (h : BR T LG w p x k W) (hk : k < 6) (d : List UInt8) (hd : d.length ≤ 600) :
    Calls Tryd.prog 14 #[.pointer (some ⟨x, 0, none⟩), str d] W fun e w' => (∃ c, e = .returned (.int .i64 c)) ∧ BR T LG w p x (k + 1) w' := by
  obtain ⟨F, D, g, E, s, o, h1, h2, h3, h4, hu⟩ := h.ex
  have hn : need d.length ≤ 3 := by unfold need; omega
  obtain ⟨D', e, o', _⟩ := o.append d (by omega) (by rw [h2]; omega)
  refine (s.append S hT hw (by omega) (by rw [h1, h2]; omega) d (by omega) 0 e).mono ?_
  rintro e w' ⟨rfl, ⟨F', s', _⟩, _⟩
  refine ⟨⟨_, rfl⟩, ⟨F', D', _, _, ?_, o', h1, h2, h3, h4, ?_⟩, by omega⟩
  · rw [show 2 + 18 * (k + 1) = 2 + 18 * k + 18 by omega]
    exact s'
  · rw [usedBy_snoc]
    show usedBy E + need d.length ≤ 3 * (k + 1)
    omega
theorem BR.drewN (S : Wals T LG) {w W : World} {p x k : Nat} (h : BR T LG w p x k W) (j : Nat) : BR T LG w p x k (W.drewN j) := by
  obtain ⟨F, D, g, E, s, o, r⟩ := h.ex
  exact ⟨⟨F, D, g, E, s.below S (below_drewN (Below.refl _ _) j), o, r⟩, h.le⟩

theorem BR.b {w W : World} {p x k : Nat} (h : BR T LG w p x k W) : Below w.heap.size w W := by
  obtain ⟨F, D, g, E, s, _⟩ := h.ex
  exact s.b

/-- What begun leaves. -/
structure BD (T : World → Prop) (LG : (Nat → Prop) → World → Nat → Nat → Nat → Lg → Prop) (w : World) (p x : Nat) (v : Value) (F : Nat → Prop) (D : Dk) (g : Lg) (E : List (Nat × List UInt8)) (W : World) : Prop where
  s : St T LG w p x 42 110 F D g W
  o : On D g E
  h1 : g.at_ = 1
  h2 : g.size = 40
  h3 : g.now = 2
  h4 : g.fro = 1
  h5 : g.count = g.L.length
  hu : usedBy E ≤ 18
  dry : ∀ (i : Nat) (t : Sec), D.secs[i]? = some t → t.wait = []
  own : W.ownsRow w.heap.size 9 1 v g.L.length (g.L.map str)
  far : ∀ k, v.ownBlock = some k → ¬ F k

set_option maxRecDepth 100000 in
set_option maxHeartbeats 3200000 in
theorem begun_any (S : Wals T LG) (w : World) (hT : T w) (hw : 1 ≤ w.heap.size) (a : Option Addr) (n cap : Nat) (rs : List (List UInt8)) (hR : Ts w a n rs) (hn : n ≤ 140737488355328) (hl : ∀ r ∈ rs, r.length ≤ 140737488355328) :
    Calls Tryd.prog 7 #[.slice a n cap] w fun e w' => ∃ p x v F D g E, e = .returned (.tuple #[.pointer (some ⟨p, 0, none⟩), .pointer (some ⟨x, 0, none⟩), v]) ∧ BD T LG w p x v F D g E w' := by
  obtain ⟨D1, D2, m1, m2, o2, d1⟩ := begun_model
  have D1H := hide d1
  clear d1
  have M1 := hide m1
  have M2 := hide m2
  have O2 := hide o2
  have H1 := hide (Make_ok 42 w (by omega) (by omega))
  have HT := hide hT
  have HR := hide hR
  have HL := hide hl
  have hln := hR.1
  clear m1 m2 o2 hT hR hl
  go_enter Tryd.func7, Tryd.ntmps7
  go_wp2_with fail
  refine (unhide H1).mono ?_
  rintro e w1 ⟨rfl, i1, f1⟩
  have x1 : X w1 w.heap.size (w.heap.size + 1) (Dk.fresh 42) := ⟨_, _, i1⟩
  have k1 := fresh_okd x1
  have H2 := hide (S.format w1 w.heap.size (w.heap.size + 1) _ D1 42 0 1 40 0 (S.table (unhide HT) f1 hw) hw x1 k1 (by omega) (by decide) (by decide) (unhide M1))
  have F1 := hide f1
  have K1 := hide k1
  clear H1 i1 x1 f1 k1
  go_wp2_with fail
  refine (unhide H2).mono ?_
  rintro e w2 ⟨rfl, x2, f2⟩
  have b2 := (unhide F1).trans f2.below
  have H3 := hide (St.opens S (unhide HT) hw x2 (okd_fmt (unhide K1) (unhide M1) x2) b2 (by omega) 1 40 (by omega) (by omega) (unhide D1H) (unhide M2))
  clear H2 x2 f2 b2 F1 K1
  go_wp2_with fail
  refine (unhide H3).mono ?_
  rintro e w3 ⟨xl, F, rfl, s3, _, _⟩
  have HB0 : Hid (BR T LG w (w.heap.size + 1) xl 0 w3) := ⟨⟨F, D2, _, [], s3, unhide O2, rfl, rfl, rfl, rfl, by simp [usedBy]⟩, by omega⟩
  clear H3 s3 O2 M1 M2
  generalize w.heap.size + 1 = p at *
  go_wp2
  go_loopw [9] (fun i wr => ∃ k : Nat, k ≤ n ∧ i = .int .i64 k ∧ BR T LG w p xl k wr) (fun i _ => n - (intOf i).toNat)
  case atStart => exact ⟨0, by omega, rfl, unhide HB0⟩
  case round =>
    clear HB0
    obtain ⟨k, hk, rfl, hB⟩ := hrel
    have hk6 := hB.le
    by_cases hlt : k < n ∧ k < 6
    · have hlt1 : (k : Int) < (n : Int) := by omega
      have g6 : decide ((k : Int) < 6) = true := by simp; omega
      obtain ⟨F4, D4, g4, E4, s4, _⟩ := hB.ex
      obtain ⟨b, o, rfl, hc⟩ := (unhide HR).2.resolve_left (by omega)
      obtain ⟨r, hr⟩ : ∃ r, rs[k]? = some r := ⟨_, List.getElem?_eq_getElem (by omega)⟩
      have hrl := unhide HL r (List.mem_of_getElem? hr)
      have c0 := hc k r hr
      have hcw : ∀ W, Below w.heap.size w W → W.cell? ⟨b, o + k, none⟩ = some (str r) := fun W f => (f.cell (World.block_lt_of_cell? w _ c0)).trans c0
      have hcell := hcw wr s4.b
      have HCW := hide hcw
      clear hcw
      have HBB := hide hB
      clear hB s4 hc c0
      obtain ⟨M, hM⟩ : ∃ M, M = min r.length 600 := ⟨_, rfl⟩
      have hM1 : (if (600 : Int) < (r.length : Int) then 600 else (r.length : Int)) = (M : Int) := by split <;> omega
      have hM2 : (M : Int) ≤ (r.length : Int) := by omega
      have hM3 : M ≤ r.length := by omega
      have hM4 : (r.take M).length ≤ 600 := by rw [List.length_take]; omega
      have hsz : ((⟨r.toArray⟩ : ByteArray)).size = r.length := by simp [ByteArray.size]
      have hext : (⟨r.toArray⟩ : ByteArray).extract 0 M = ⟨(r.take M).toArray⟩ := by
        apply ByteArray.ext
        simp
      have HS := hide (fun (W : World) (h : BR T LG w p xl k W) => h.step S (unhide HT) hw hlt.2 (r.take M) hM4)
      unfold str at hcell HS HCW
      have hcd : wr.drew.cell? ⟨b, o + k, none⟩ = some (.string ⟨r.toArray⟩) := hcell
      generalize hbr : (⟨r.toArray⟩ : ByteArray) = br at *
      generalize hbm : (⟨(r.take M).toArray⟩ : ByteArray) = bm at *
      clear hM hbr hbm
      go_wp2_with fail
      go_region_held (fun W => W.cell? ⟨b, o + k, none⟩ = some (.string br)) (first | exact hcd | exact hcell | exact unhide HCW _ hB5.b)
        (first | (go_at_call 14; refine (unhide HS _ (by first | exact unhide HBB | exact (unhide HBB).drewN S 1)).mono ?_; rintro e w5 ⟨⟨c5, rfl⟩, hB5⟩))
      clear HCW HS HBB hcell hcd
      go_wp2
      go_roundw
      case rel => exact ⟨k + 1, by omega, by go_num, hB5⟩
      case measure => simp [intOf]; omega
    · obtain ⟨F4, D4, g4, E4, s4, o4, h1, h2, h3, h4, hu⟩ := hB.ex
      obtain ⟨e5, o5, _, dry⟩ := o4.flush
      have H5 := hide (s4.flush S (unhide HT) hw (by omega) 0 e5)
      have hg : (k : Int) < (n : Int) ∧ decide ((k : Int) < 6) = false ∨ ¬ (k : Int) < (n : Int) := by
        by_cases h : k < n
        · exact .inl ⟨by omega, by simp; omega⟩
        · exact .inr (by omega)
      have O5 := hide o5
      have DR := hide dry
      clear hB s4 o4 e5 o5 dry HR HL
      rcases hg with ⟨g1, g2⟩ | g1
      all_goals
        go_wp2_with fail
        refine (unhide H5).mono ?_
        rintro e w5 ⟨rfl, ⟨F5, s5, _⟩, _⟩
        have H6 := hide (S.records F5 w5 w.heap.size xl p _ s5.l (unhide O5).live)
        have S5 := hide s5
        clear H5 s5
        go_wp2_with fail
        refine (unhide H6).mono ?_
        rintro e w6 ⟨v6, rfl, o6, f6⟩
        have hfar : ∀ j, v6.ownBlock = some j → ¬ F5 j := fun j hj hF => by
          have h8 := (o6.lt j hj).1
          have h9 := S.lt (unhide S5).l hF
          omega
        have HD : Hid (BD T LG w p xl v6 F5 D4.ba { g4 with count := g4.L.length } E4 w6) :=
          ⟨by
            have s6 := (unhide S5).below S f6
            exact ⟨s6.dk, s6.k.mono (by omega), s6.l, s6.b⟩, unhide O5, h1, h2, h3, h4, rfl, by omega, unhide DR, ⟨o6.1, o6.2.elim .inl (fun ⟨g, cap, cur, hv, hg, r⟩ => .inr ⟨g, cap, cur, hv, Nat.le_trans (unhide S5).b.size hg, r⟩)⟩, hfar⟩
        clear H6 o6 f6 hfar S5 O5 DR
        go_wp2
        go_ret3
        exact ⟨_, _, _, _, _, _, _, rfl, unhide HD⟩
end

end Go.Proofs.YtfggahkimconfaaDoor

/- The walk of WalRooms. -/
namespace Go.Proofs.YtfggahkimconfaaDoor
open Go.RowKit
set_option linter.unusedVariables false

theorem vNeed_any (w : World) (m : Nat) (hm : m ≤ 100000) : Calls Tryd.prog 17 #[.int .i64 (m : Int)] w fun e w' => e = .returned (.int .i64 (need m : Int)) ∧ w' = w := by
  obtain ⟨q, hq⟩ : ∃ q, q = (m + 230) / 231 := ⟨_, rfl⟩
  have h1 : ((m : Int) + 230) / 231 = (q : Int) := by omega
  have h1' : ((m : Int) + 230).tdiv 231 = (q : Int) := by rw [Int.tdiv_eq_ediv_of_nonneg (by omega)]; exact h1
  have h2 : (if (1 : Int) < (q : Int) then (q : Int) else 1) = (need m : Int) := by unfold need; rw [← hq]; split <;> omega
  generalize need m = k at *
  clear hq
  go_enter Tryd.func17, Tryd.ntmps17
  go_wp2
  go_ret
  exact ⟨rfl, rfl⟩

theorem usedBy_ge : ∀ (E : List (Nat × List UInt8)), E.length ≤ usedBy E
  | [] => by simp [usedBy]
  | x :: E => by
    have := usedBy_ge E
    have := need_pos x.2.length
    simp only [List.length_cons, usedBy]
    omega

section
variable {T : World → Prop} {LG : (Nat → Prop) → World → Nat → Nat → Nat → Lg → Prop}

set_option maxRecDepth 100000 in
set_option maxHeartbeats 3200000 in
theorem rooms_walk (S : Wals T LG) (w : World) (hT : T w) (hw : 1 ≤ w.heap.size) (a : Option Addr) (n cap : Nat) (rs : List (List UInt8)) (hR : Ts w a n rs) (hn : n ≤ 140737488355328) (hl : ∀ r ∈ rs, r.length ≤ 140737488355328) (z : Int) :
    Calls Tryd.prog 4 #[.slice a n cap, .int .i64 z] w fun e w' => e = .returned (.bool true) ∧ Below w.heap.size w w' := by
  have H1 := hide (works4_any S w hT hw)
  have HT := hide hT
  have HR := hide hR
  have HL := hide hl
  clear hT hR hl
  go_enter Tryd.func4, Tryd.ntmps4
  go_wp2_with fail
  refine (unhide H1).mono ?_
  rintro e w1 ⟨rfl, f1⟩
  have hw1 : 1 ≤ w1.heap.size := Nat.le_trans hw f1.size
  have T1 := hide (S.table (unhide HT) f1 hw)
  have H2 := hide (begun_any S w1 (unhide T1) hw1 a n cap rs ((unhide HR).below f1) hn (unhide HL))
  have F1 := hide f1
  clear H1 f1
  go_wp2_with fail
  refine (unhide H2).mono ?_
  rintro e w2 ⟨p, x, v, F, D, g, E, rfl, bd⟩
  have H3 := hide (S.free F w2 w1.heap.size x p g bd.s.l bd.o.live)
  obtain ⟨fr, hfr⟩ : ∃ fr : Nat, fr = 39 - usedBy E := ⟨_, rfl⟩
  have hu := bd.hu
  have hfr1 : (g.size : Int) - 1 - g.used = (fr : Int) := by rw [bd.h2, bd.o.used]; omega
  rw [hfr1] at H3
  have BDh := hide bd
  clear H2 bd hfr1
  go_wp2_with fail
  refine (unhide H3).mono ?_
  rintro e w3 ⟨rfl, f3⟩
  have H4 := hide (Among_any w3 z 5000 (by omega) (by omega))
  have hml := among_lt z 5000 (by omega)
  generalize among z 5000 = m at *
  have S3 := hide ((unhide BDh).s.below S f3)
  clear H3 f3
  go_wp2_with fail
  refine (unhide H4).mono ?_
  rintro e w4 ⟨rfl, rfl⟩
  have hmk := makeZ w4 m (by omega)
  have hcv := conv_zeros w4 m
  have s5 := (unhide S3).below S (bA (Below.refl _ w4) (.cells (bv (zeros m)).toArray 5))
  have hzl : (zeros m).length = m := List.length_replicate
  have hfit : g.at_ + g.size ≤ 42 := by rw [(unhide BDh).h1, (unhide BDh).h2]; omega
  have hN := vNeed_any
  by_cases h1 : 4096 < m
  · have g1 : decide ((4096 : Int) < (m : Int)) = true := by simp; omega
    have H5 := hide (s5.append S (unhide T1) hw1 (by omega) hfit (zeros m) (by omega) 3 ((unhide BDh).o.long _ (by omega)))
    unfold str at H5 hcv
    generalize (bv (zeros m)).toArray = lb at *
    generalize (⟨(zeros m).toArray⟩ : ByteArray) = ls at *
    have HN := hide hN
    clear s5 S3 H4 hN
    go_wp2_with fail
    refine (unhide H5).mono ?_
    rintro e w5 ⟨rfl, ⟨F5, s5, _⟩, _⟩
    have H6 := hide (S.free F5 w5 w1.heap.size x p g s5.l (unhide BDh).o.live)
    rw [show (g.size : Int) - 1 - g.used = (fr : Int) by rw [(unhide BDh).h2, (unhide BDh).o.used]; omega] at H6
    have S5 := hide s5
    clear H5 s5
    go_wp2_with fail
    refine (unhide H6).mono ?_
    rintro e w6 ⟨rfl, f6⟩
    have FB := hide (bT (bT f6 (unhide S5).b) (unhide F1))
    clear H6 f6
    go_wp2
    go_ret
    exact ⟨rfl, unhide FB⟩
  · have g1 : decide ((4096 : Int) < (m : Int)) = false := by simp; omega
    by_cases h2 : fr < need m
    · have g2 : decide ((fr : Int) < (need m : Int)) = true := by simp; omega
      have H5 := hide (s5.append S (unhide T1) hw1 (by omega) hfit (zeros m) (by omega) 4 ((unhide BDh).o.full _ (by omega) (by rw [(unhide BDh).h2, hzl]; omega)))
      have HN := hide (fun W => hN W m (by omega))
      generalize need m = nd at *
      unfold str at H5 hcv
      generalize (bv (zeros m)).toArray = lb at *
      generalize (⟨(zeros m).toArray⟩ : ByteArray) = ls at *
      clear s5 S3 H4 hN
      go_wp2_with fail
      refine (unhide H5).mono ?_
      rintro e w5 ⟨rfl, ⟨F5, s5, _⟩, _⟩
      have H6 := hide (S.free F5 w5 w1.heap.size x p g s5.l (unhide BDh).o.live)
      rw [show (g.size : Int) - 1 - g.used = (fr : Int) by rw [(unhide BDh).h2, (unhide BDh).o.used]; omega] at H6
      have H7 := hide (unhide HN w5)
      have S5 := hide s5
      clear H5 s5
      go_wp2_with fail
      refine (unhide H7).mono ?_
      rintro e w5' ⟨rfl, rfl⟩
      go_wp2_with fail
      refine (unhide H6).mono ?_
      rintro e w6 ⟨rfl, f6⟩
      have FB := hide (bT (bT f6 (unhide S5).b) (unhide F1))
      clear H6 f6
      go_wp2
      go_ret
      exact ⟨rfl, unhide FB⟩
    · have g2 : decide ((fr : Int) < (need m : Int)) = false := by simp; omega
      obtain ⟨D', e5, o5, _⟩ := (unhide BDh).o.append (zeros m) (by omega) (by rw [(unhide BDh).h2, hzl]; omega)
      rw [hzl] at e5 o5
      have H5 := hide (s5.append S (unhide T1) hw1 (by omega) hfit (zeros m) (by omega) 0 e5)
      have HN := hide (fun W => hN W m (by omega))
      have hfr2 : (g.size : Int) - 1 - ((g.used + need m : Nat) : Int) = (fr : Int) - (need m : Int) := by rw [(unhide BDh).h2, (unhide BDh).o.used]; omega
      obtain ⟨ql, hql⟩ : ∃ ql, ql = g.L.length := ⟨_, rfl⟩
      have hc1 : (g.count : Int) = (ql : Int) := by rw [(unhide BDh).h5, hql]
      obtain ⟨ll, hll⟩ : ∃ ll, ll = (g.L ++ [zeros m]).length := ⟨_, rfl⟩
      have hqb : ql ≤ 18 := by
        have h8 := usedBy_ge E
        rw [hql, (unhide BDh).o.recs, List.length_map]
        omega
      have hlq : (ll : Int) - 1 = (ql : Int) := by rw [hll, hql, List.length_append]; simp
      have hlb : ll ≤ 19 := by omega
      have HLL := hide hll
      clear hll hql
      have O5 := hide o5
      generalize hnd : need m = nd at *
      unfold str at H5 hcv
      generalize (bv (zeros m)).toArray = lb at *
      generalize (⟨(zeros m).toArray⟩ : ByteArray) = ls at *
      clear s5 S3 H4 hN e5 o5
      go_wp2_with fail
      refine (unhide H5).mono ?_
      rintro e w5 ⟨rfl, ⟨F5, s5, _⟩, _⟩
      have H7 := hide (unhide HN w5)
      have H6 := hide (S.free F5 w5 w1.heap.size x p _ s5.l (unhide O5).live)
      dsimp only at H6
      rw [hfr2] at H6
      have S5 := hide s5
      clear H5 s5
      go_wp2_with fail
      refine (unhide H7).mono ?_
      rintro e w5' ⟨rfl, rfl⟩
      go_wp2_with fail
      refine (unhide H6).mono ?_
      rintro e w6 ⟨rfl, f6⟩
      have S6 := hide ((unhide S5).below S f6)
      have H8 := hide (unhide HN w6)
      clear H6 f6 H7
      go_wp2_with fail
      refine (unhide H8).mono ?_
      rintro e w6' ⟨rfl, rfl⟩
      have H9 := hide (S.sure F5 w6' w1.heap.size x p _ (unhide S6).l (unhide O5).live)
      dsimp only at H9
      rw [hc1] at H9
      clear H8
      go_wp2_with fail
      refine (unhide H9).mono ?_
      rintro e w7 ⟨rfl, f7⟩
      have S7 := hide ((unhide S6).below S f7)
      have H10 := hide (S.records F5 w7 w1.heap.size x p _ (unhide S7).l (unhide O5).live)
      dsimp only at H10
      clear H9 f7 S6
      go_wp2_with fail
      refine (unhide H10).mono ?_
      rintro e w8 ⟨v8, rfl, o8, f8⟩
      rw [← unhide HLL] at o8
      obtain ⟨a8, c8, rfl, _⟩ := own_form o8
      have FB := hide (bT (bT f8 (unhide S7).b) (unhide F1))
      clear H10 f8 o8
      go_wp2
      go_ret
      exact ⟨rfl, unhide FB⟩
end

end Go.Proofs.YtfggahkimconfaaDoor

/- The walk of WalResets. -/
namespace Go.Proofs.YtfggahkimconfaaDoor
open Go.RowKit
set_option linter.unusedVariables false

theorem CutsOf.later {w w' : World} {B : Nat} {a : Option Addr} {cuts : List (Int × List Int)} (h : CutsOf w w.heap.size a cuts) (f : Below w.heap.size w w') (hB : w.heap.size ≤ B) : CutsOf w' B a cuts := by
  rcases h with h | ⟨b, o, e, hb, h⟩
  · exact .inl h
  · refine .inr ⟨b, o, e, by omega, fun j c hj => ?_⟩
    obtain ⟨h1, ka, kc, h2, h3⟩ := h j c hj
    exact ⟨(f.cell (p := ⟨b, _, none⟩) hb).trans h1, ka, kc, (f.cell (p := ⟨b, _, none⟩) hb).trans h2, h3.later f hB⟩

/-- The heads that may stand there behind a reset that was cut, and behind one that was not. -/
def Z1 (E : List (Nat × List UInt8)) : Zs := fun n0 fro E' => (n0 = 2 ∧ fro = 1 ∧ E' = E) ∨ (n0 = 3 ∧ fro = 3 ∧ E' = [])
def Z2 : Zs := fun n0 fro E' => n0 = 3 ∧ fro = 3 ∧ E' = []
theorem cand_one {D : Dk} {S : List (List UInt8)} {Z : Zs} {now fro n0 : Nat} {E : List (Nat × List UInt8)} (h : Lay D 1 40 now fro E) (hd : Dry D) (hl : D.secs.length = 42) (hS : D.dataS 1 40 = S) (z : Z n0 fro E) (hn : now ≤ n0) : Cand D S Z 0 := by
  have hlog := h.log
  rw [hS] at hlog
  have c0 : candOk S Z 0 (secB (headR now fro)) := ⟨n0, fro, E, now, z, by omega, hlog, rfl⟩
  exact cand_cut h hd hl hS c0 c0 (Nat.le_refl _) (.inl rfl)
theorem reset_model {D : Dk} {g : Lg} {E : List (Nat × List UInt8)} (o : On D g E) (h1 : g.at_ = 1) (h2 : g.size = 40) (h3 : g.now = 2) (h4 : g.fro = 1) (hd : Dry D) (hl : D.secs.length = 42) (t : Nat) :
    ∃ D' g' c, g.rst (D.tr t) = (D', g', c) ∧ ((c = 10 ∧ Cand D' (D.dataS 1 40) (Z1 E) 0) ∨ (c = 0 ∧ Cand D' (D.dataS 1 40) Z2 0)) := by
  have lay := o.lay
  rw [h1, h2, h3, h4] at lay
  obtain ⟨n1, n2⟩ := nxt_trip lay (by omega) g ⟨h1, h3⟩ 3 t
  have hlog := lay.log.reset (by omega)
  have c0 : candOk (D.dataS 1 40) (Z1 E) 0 (secB (headR 2 1)) := ⟨2, 1, E, 2, .inl ⟨rfl, rfl, rfl⟩, by omega, lay.log, rfl⟩
  have c1 : candOk (D.dataS 1 40) (Z1 E) 0 (secB (headR (2 + 1) 3)) := ⟨3, 3, [], 3, .inr ⟨rfl, rfl, rfl⟩, by omega, hlog, rfl⟩
  by_cases ht : t < 2
  · obtain ⟨D', e1, e2⟩ := n1 ht
    have e3 : g.rst (D.tr t) = g.nxt (D.tr t) 3 := by
      unfold Lg.rst
      rw [if_neg (by rw [o.live]; decide), h3, if_neg (by rw [e1]; show ¬ (10 : Int) = 0; decide)]
    exact ⟨D', _, 10, e3.trans e1, .inl ⟨rfl, cand_cut lay hd hl rfl c0 c1 (Nat.le_refl _) e2⟩⟩
  · obtain ⟨D', e1, e2, e3⟩ := n2 (by omega)
    obtain ⟨l1, l2, l3, l4⟩ := lay_whole lay hl rfl hlog e2 e3
    have cd := cand_one (D := D'.tr (-1)) (Z := Z2) (n0 := 3) l1 l2 l3 l4 ⟨rfl, rfl, rfl⟩ (by omega)
    have e4 : g.rst (D.tr t) = ((g.nxt (D.tr t) 3).1, { (g.nxt (D.tr t) 3).2.1 with L := [], used := 0, count := 0 }, 0) := by
      unfold Lg.rst
      rw [if_neg (by rw [o.live]; decide), h3, if_pos (by rw [e1])]
    rw [e1] at e4
    exact ⟨D', _, 0, e4, .inr ⟨rfl, ⟨cd.len, cd.rest, cd.data, cd.head⟩⟩⟩
theorem own_frx {B base n size : Nat} {w w' : World} {e : TypeId} {v : Value} {xs : List Value} (h : w.ownsRow base e size v n xs) (f : Fr B w w') (h1 : e ≠ 56) (h2 : e ≠ 79) (h3 : e ≠ 81) : w'.ownsRow base e size v n xs :=
  own_frl (F := fun _ => False) h f.l h1 h2 h3 (fun _ _ h => h)
theorem infoT : (Tryd.prog.info? 9).map (fun i => (i.zero, i.size, i.bytes)) = some (some (.string ⟨#[]⟩), 1, 16) := by kernel_rfl

section
variable {T : World → Prop} {LG : (Nat → Prop) → World → Nat → Nat → Nat → Lg → Prop}

theorem usedBy_z1 {E E' : List (Nat × List UInt8)} {n0 fro : Nat} (h : Z1 E n0 fro E') : usedBy E' ≤ usedBy E := by
  rcases h with ⟨_, _, rfl⟩ | ⟨_, _, rfl⟩
  · exact Nat.le_refl _
  · simp [usedBy]

set_option maxRecDepth 100000 in
set_option maxHeartbeats 3200000 in
theorem resets_walk (S : Wals T LG) (w : World) (hT : T w) (hw : 1 ≤ w.heap.size) (a : Option Addr) (n cap : Nat) (rs : List (List UInt8)) (hR : Ts w a n rs) (hn : n ≤ 140737488355328) (hl : ∀ r ∈ rs, r.length ≤ 140737488355328) (z : Int)
    (a2 : Option Addr) (cn cc : Nat) (cuts : List (Int × List Int)) (hcl : cuts.length = cn) (hcm : cn ≤ 140737488355328) (hcuts : CutsOf w w.heap.size a2 cuts) (xs : List UInt8) (hxs : xs.length ≤ 140737488355328) :
    Calls Tryd.prog 3 #[.slice a n cap, .int .i64 z, .slice a2 cn cc, str xs] w fun e w' => e = .returned (.bool true) ∧ Below w.heap.size w w' := by
  have H1 := hide (works4_any S w hT hw)
  have HT := hide hT
  have HR := hide hR
  have HL := hide hl
  have HC := hide hcuts
  obtain ⟨i0, hi, hz0, hz1, hz2⟩ := info_parts infoT
  obtain ⟨M, hM⟩ : ∃ M, M = min xs.length 400 := ⟨_, rfl⟩
  have hM1 : (if (400 : Int) < (xs.length : Int) then 400 else (xs.length : Int)) = (M : Int) := by split <;> omega
  have hM2 : (M : Int) ≤ (xs.length : Int) := by omega
  have hM4 : (xs.take M).length ≤ 400 := by rw [List.length_take]; omega
  have hsz : ((⟨xs.toArray⟩ : ByteArray)).size = xs.length := by simp [ByteArray.size]
  have hext : (⟨xs.toArray⟩ : ByteArray).extract 0 M = ⟨(xs.take M).toArray⟩ := by
    apply ByteArray.ext
    simp
  unfold str
  generalize hbr : (⟨xs.toArray⟩ : ByteArray) = br at *
  generalize hdx : xs.take M = dx at *
  have hdl : dx.length ≤ 400 := hM4
  obtain ⟨bm, hbm⟩ : ∃ bm : ByteArray, bm = ⟨dx.toArray⟩ := ⟨_, rfl⟩
  rw [← hbm] at hext
  have HBM := hide hbm
  clear hT hR hl hcuts hM hbr hdx hM4 hbm
  go_enter Tryd.func3, Tryd.ntmps3
  go_wp2_with fail
  refine (unhide H1).mono ?_
  rintro e w1 ⟨rfl, f1⟩
  have hw1 : 1 ≤ w1.heap.size := Nat.le_trans hw f1.size
  have T1 := hide (S.table (unhide HT) f1 hw)
  have H2 := hide (begun_any S w1 (unhide T1) hw1 a n cap rs ((unhide HR).below f1) hn (unhide HL))
  have HC1 := hide ((unhide HC).later f1 f1.size)
  have F1 := hide f1
  clear H1 f1 HC
  go_wp2_with fail
  refine (unhide H2).mono ?_
  rintro e w2 ⟨p, x, v, F, D, g, E, rfl, bd⟩
  have H3 := hide (Among_any w2 z 4 (by omega) (by omega))
  have ht4 := among_lt z 4 (by omega)
  generalize among z 4 = t at *
  have H4 := hide (xTrip w2 w1.heap.size p D bd.s.dk (t : Int) (by omega))
  have hu := bd.hu
  have BDh := hide bd
  clear H2 bd
  go_wp2_with fail
  refine (unhide H3).mono ?_
  rintro e w2' ⟨rfl, rfl⟩
  go_wp2_with fail
  refine (unhide H4).mono ?_
  rintro e w3 ⟨rfl, x3, f3⟩
  obtain ⟨D3, g3, c3, e3, hcd⟩ := reset_model (unhide BDh).o (unhide BDh).h1 (unhide BDh).h2 (unhide BDh).h3 (unhide BDh).h4 (unhide BDh).dry (unhide BDh).s.k.len t
  have k3 : Okd (D.tr t) 42 110 := ⟨(unhide BDh).s.k.len, (unhide BDh).s.k.one, (unhide BDh).s.k.most, (unhide BDh).s.k.ok, (unhide BDh).s.k.few⟩
  have b3 := (unhide BDh).s.b.trans f3.below
  have H5 := hide (S.reset F w3 w1.heap.size x p _ D3 g g3 42 110 c3 (S.table (unhide T1) b3 hw1) hw1 (S.fr (unhide BDh).s.l f3) x3 k3 (by omega) (by rw [(unhide BDh).h1, (unhide BDh).h2]; omega) e3)
  have O3 := hide (own_frx (unhide BDh).own f3 (by decide) (by decide) (by decide))
  have B3 := hide b3
  have K3 := hide k3
  have E3 := hide e3
  have HCD := hide hcd
  clear H3 H4 x3 f3 k3 b3 e3 hcd
  go_wp2_with fail
  refine (unhide H5).mono ?_
  rintro e w4 ⟨rfl, _, x4, f4⟩
  have b4 := (unhide B3).trans f4.below
  have O4 := hide (own_frl (unhide O3) f4 (by decide) (by decide) (by decide) (unhide BDh).far)
  have hcc := (unhide HC1).below b4
  have hOD : ∃ Z : Zs, Cand D3 (D.dataS 1 40) Z 0 ∧ (∀ n0 fro E', Z n0 fro E' → n0 ≤ 10 ∧ usedBy E' ≤ 18 ∧ (E' = [] ∨ (c3 = 10 ∧ E' = E))) := by
    rcases unhide HCD with ⟨rfl, h⟩ | ⟨rfl, h⟩
    · refine ⟨Z1 E, h, fun n0 fro E' hz => ⟨?_, Nat.le_trans (usedBy_z1 hz) hu, ?_⟩⟩
      · rcases hz with ⟨rfl, _⟩ | ⟨rfl, _⟩ <;> omega
      · rcases hz with ⟨_, _, rfl⟩ | ⟨_, _, rfl⟩
        · exact .inr ⟨rfl, rfl⟩
        · exact .inl rfl
    · refine ⟨Z2, h, fun n0 fro E' hz => ?_⟩
      obtain ⟨rfl, rfl, rfl⟩ := hz
      exact ⟨by omega, by simp [usedBy], .inl rfl⟩
  obtain ⟨Z, cd, hZ⟩ := hOD
  have H6 := hide (opened_any S w1 (unhide T1) hw1 w4 b4 p D3 111 x4 (okd_rst (unhide K3) (unhide E3) x4) (by omega) _ Z 0 cd (fun n0 fro E' hz => Nat.le_trans (hZ n0 fro E' hz).1 (by omega)) (by omega) a2 cn cc cuts hcl hcm hcc)
  clear H5 x4 f4 b4 hcc cd O3 B3 K3 E3 HCD HC1
  go_wp2_with fail
  refine (unhide H6).mono ?_
  rintro e w5 ⟨xm, F5, n0, fro, now, E5, D5, rfl, od⟩
  obtain ⟨hn0, hu5, hE5⟩ := hZ _ _ _ od.z
  have hnow := od.le
  have H7 := hide (S.records F5 w5 w1.heap.size xm p _ od.s.l rfl)
  have O5 := hide (own_frx (unhide O4) od.fr (by decide) (by decide) (by decide))
  have ODh := hide od
  clear H6 od O4 hZ
  go_wp2_with fail
  refine (unhide H7).mono ?_
  rintro e w6 ⟨v6, rfl, o6, f6⟩
  rw [List.length_map] at o6
  have S6 := hide ((unhide ODh).s.below S f6)
  have SZ6 := hide f6.size
  have SZ1 := hide (unhide ODh).s.b.size
  have O6 := hide o6
  have far6 : Hid (∀ k, v6.ownBlock = some k → ¬ F5 k ∧ k < w6.heap.size) := fun k hk => by
    have h8 := o6.lt k hk
    refine ⟨fun hF => ?_, h8.2⟩
    have h9 := S.lt (unhide ODh).s.l hF
    omega
  have T6 := hide (ts_of_own (a := none) (c := 0) (n := 0) (base := 0) (xs := []) (w := w6) (World.ownsRow_nil _ _ _ _))
  obtain ⟨a6, c6, rfl, _⟩ := own_form o6
  obtain ⟨sl, hsl⟩ : ∃ sl, sl = g.L.length := ⟨_, rfl⟩
  have os6 := gen_below (unhide O5) f6
  rw [← hsl] at os6
  obtain ⟨sa, sc, rfl, _⟩ := own_form os6
  have OS6 := hide os6
  have HSL := hide hsl
  have on6 : On D5 ⟨1, 40, now, fro, E5.map (·.2), usedBy E5, E5.length, false⟩ E5 := (unhide ODh).lay.on _
  have hnd : need dx.length ≤ 2 := by unfold need; omega
  obtain ⟨D7, e7, on7, _⟩ := on6.append dx (by omega) (by show usedBy E5 + need dx.length ≤ 40 - 1; omega)
  have H8 : Hid (∀ W, Below w6.heap.size w6 W → Calls Tryd.prog 14 #[.pointer (some ⟨xm, 0, none⟩), .string bm] W fun e w' => e = .returned (.int .i64 0) ∧ (∃ F', St T LG w1 p xm 42 (111 + 8 + 18) F' D7 _ w' ∧ (∀ k, F' k → F5 k ∨ W.heap.size ≤ k)) ∧ FrL F5 w1.heap.size W w') := fun W f => by
    rw [unhide HBM]
    exact ((unhide S6).below S f).append S (unhide T1) hw1 (by omega) (by show 1 + 40 ≤ 42; omega) dx (by omega) 0 e7
  have ON7 := hide on7
  clear H7 o6 f6 T6 on6 e7 on7 O5 os6 hsl
  have hbr : (((E5.length : Int) != 0) = false) ∨ (((E5.length : Int) != 0) = true ∧ c3 = 10 ∧ E5 = E) := by
    rcases hE5 with h | ⟨h1, h2⟩
    · exact .inl (by rw [h]; rfl)
    · by_cases h0 : E5.length = 0
      · exact .inl (by rw [h0]; rfl)
      · exact .inr ⟨by rw [bne_iff_ne]; omega, h1, h2⟩
  obtain ⟨el, hel⟩ : ∃ el, el = E5.length := ⟨_, rfl⟩
  rw [← hel] at hbr O6 far6 ⊢
  have HEL := hide hel
  obtain ⟨gl, hgl⟩ : ∃ gl, gl = E5.map (·.2) := ⟨_, rfl⟩
  rw [← hgl] at O6
  have HGL := hide hgl
  clear hgl
  clear hel hE5
  rcases hbr with hb0 | ⟨hb1, rfl, hEE⟩
  · have fW : Below w6.heap.size w6 w6 := Below.refl _ _
    have H9 := hide (unhide H8 w6 fW)
    have FW := hide fW
    clear fW
    go_wp2_with fail
    refine (unhide H9).mono ?_
    clear H8 H9
    rintro e w8 ⟨rfl, ⟨F8, s8, hF8⟩, f8⟩
    have o8 := own_frl (gen_below (unhide O6) (unhide FW)) f8 (by decide) (by decide) (by decide) (fun k hk => (unhide far6 k hk).1)
    have far8 : ∀ k, (Value.slice a6 el c6).ownBlock = some k → ¬ F8 k ∧ k < w8.heap.size := fun k hk => by
      have h1 := unhide far6 k hk
      have h2 := (unhide FW).size
      have h3 := f8.below.size
      refine ⟨fun hF => ?_, by omega⟩
      rcases hF8 k hF with h | h
      · exact h1.1 h
      · omega
    have SZ8 : Hid (w5.heap.size ≤ w8.heap.size) := Nat.le_trans (unhide SZ6) (Nat.le_trans (unhide FW).size f8.below.size)
    obtain ⟨e9, on9, _, dry9⟩ := (unhide ON7).flush
    have H10 := hide (s8.flush S (unhide T1) hw1 (by omega) 0 e9)
    have O8 := hide o8
    have FAR8 := hide far8
    have ON9 := hide on9
    have DRY9 := hide dry9
    clear o8 far8 s8 f8 hF8 e9 on9 dry9 ON7
    go_wp2_with fail
    refine (unhide H10).mono ?_
    rintro e w9 ⟨rfl, ⟨F9, s9, _⟩, f9⟩
    have o9 := own_frl (unhide O8) f9 (by decide) (by decide) (by decide) (fun k hk => (unhide FAR8 k hk).1)
    have cd9 := cand_one (Z := fun n0 f' E' => n0 = now ∧ f' = fro ∧ E' = E5 ++ [(now, dx)]) (n0 := now) (unhide ON9).lay (unhide DRY9) s9.k.len rfl ⟨rfl, rfl, rfl⟩ (Nat.le_refl _)
    have H11 := hide (opened_any S w1 (unhide T1) hw1 w9 s9.b p D7.ba _ s9.dk s9.k (by omega) _ _ 0 cd9 (fun n0 f' E' h => by obtain ⟨rfl, _⟩ := h; omega) (by omega) none 0 0 [] rfl (by omega) (.inl rfl))
    have O9 := hide o9
    have SZ9 : Hid (w5.heap.size ≤ w9.heap.size) := Nat.le_trans (unhide SZ8) f9.below.size
    clear H10 o9 s9 f9 cd9 O8 FAR8 ON9 DRY9
    go_wp2_with fail
    refine (unhide H11).mono ?_
    rintro e w10 ⟨xz, F10, n1, fro1, now1, E10, D10, rfl, od10⟩
    have o10 := own_frx (unhide O9) od10.fr (by decide) (by decide) (by decide)
    have hE10 := od10.z.2.2
    have H12 := hide (S.records F10 w10 w1.heap.size xz p _ od10.s.l rfl)
    have O10 := hide o10
    have SZ10 : Hid (w5.heap.size ≤ w10.heap.size) := Nat.le_trans (unhide SZ9) od10.fr.below.size
    have B10 := hide od10.s.b
    clear H11 O9 o10 od10
    go_wp2_with fail
    refine (unhide H12).mono ?_
    rintro e w11 ⟨v11, rfl, o11, f11⟩
    have hl10 : E10.map (·.2) = gl ++ [dx] := by rw [hE10, unhide HGL]; simp
    have hl11 : (gl ++ [dx]).length = el + 1 := by rw [unhide HEL, unhide HGL]; simp
    rw [hl10, hl11] at o11
    obtain ⟨q11, c11, rfl, hq11, _⟩ := o11.form (by omega)
    have f12 : Below w10.heap.size w10 (w11.alloc (.cells #[.string bm] 9)) := bA f11 _
    have hgot := gen_below (unhide O10) f12
    have hsrc : ∀ j u, [Value.string bm][j]? = some u → (w11.alloc (.cells #[.string bm] 9)).cell? (Addr.add ⟨w11.heap.size, 0, none⟩ j) = some u := World.news_of_block (heap_alloc_last w11 _)
    have hone : ∀ u ∈ [Value.string bm], u.oneCell' = true := by simp [Value.oneCell']
    have helb : el ≤ 18 := by have := usedBy_ge E5; have := unhide HEL; omega
    have hc3 : el + 1 ≤ maxLen := by unfold maxLen; omega
    have hbase : w5.heap.size ≤ (w11.alloc (.cells #[.string bm] 9)).heap.size := Nat.le_trans (unhide SZ10) f12.size
    have O11 := hide (gen_below o11 (bA (Below.refl _ w11) (.cells #[.string bm] 9)))
    have F12 := hide f12
    clear H12 f11 o11 f12
    go_wp2_with (at_builtin; (refine append_own_wanted _ rfl (.tmp 84) (.tmp 86) 22 rfl w5.heap.size 9 i0 (.string ⟨#[]⟩) 1 16 Tryd.underlying22 hi hz0 hz1 hz2 rfl (by decide) _ _ _ rfl hgot ⟨w11.heap.size, 0, none⟩ 1 1 [.string bm] rfl rfl hsrc hone hc3 (by omega) hbase ?_))
    intro v13 w13 o13 g13 _
    obtain ⟨q13, c13, rfl, _, _⟩ := o13.form (by omega)
    have hls : gl.map str ++ [Value.string bm] = (gl ++ [dx]).map str := by rw [unhide HBM]; simp
    rw [hls] at o13
    have k11 := (unhide O11).kept g13 (.inr (fun e => by
      have h1 := ((unhide O10).lt q11 e.symm).2
      omega))
    have b13 : Below w1.heap.size w1 w13 := (bT (unhide F12) (unhide B10)).grown g13 (bT (unhide F12) (unhide B10)).size (fun k hk => Nat.le_trans (unhide SZ1) (((unhide O10).lt k hk).1))
    have H14 := hide (SameTexts_same w13 (some ⟨q11, 0, none⟩) (some ⟨q13, 0, none⟩) (el + 1) c11 c13 _ (ts_of_own k11) (ts_of_own o13) (by omega))
    have B13 := hide b13
    clear o13 g13 k11 b13 hgot hsrc hone O11 F12 hls
    go_wp2_with fail
    refine (unhide H14).mono ?_
    rintro e w14 ⟨rfl, f14⟩
    have FB := hide (bT (bT f14 (unhide B13)) (unhide F1))
    clear H14 f14
    go_wp2
    go_ret
    exact ⟨rfl, unhide FB⟩
  · have hsl2 : el = sl := by rw [unhide HSL, unhide HEL, (unhide BDh).o.recs, List.length_map, hEE]
    subst hsl2
    have hgl : g.L = gl := by rw [(unhide BDh).o.recs, unhide HGL, hEE]
    have os := unhide OS6
    rw [hgl] at os
    have H7 := hide (SameTexts_same w6 a6 sa el c6 sc gl (ts_of_own (unhide O6)) (ts_of_own os) (by have := usedBy_ge E5; have := unhide HEL; omega))
    clear os hgl
    go_wp2_with fail
    refine (unhide H7).mono ?_
    rintro e w7 ⟨rfl, f7⟩
    have H9 := hide (unhide H8 w7 f7)
    have FW := hide f7
    clear f7 H7
    go_wp2_with fail
    refine (unhide H9).mono ?_
    clear H8 H9
    rintro e w8 ⟨rfl, ⟨F8, s8, hF8⟩, f8⟩
    have o8 := own_frl (gen_below (unhide O6) (unhide FW)) f8 (by decide) (by decide) (by decide) (fun k hk => (unhide far6 k hk).1)
    have far8 : ∀ k, (Value.slice a6 el c6).ownBlock = some k → ¬ F8 k ∧ k < w8.heap.size := fun k hk => by
      have h1 := unhide far6 k hk
      have h2 := (unhide FW).size
      have h3 := f8.below.size
      refine ⟨fun hF => ?_, by omega⟩
      rcases hF8 k hF with h | h
      · exact h1.1 h
      · omega
    have SZ8 : Hid (w5.heap.size ≤ w8.heap.size) := Nat.le_trans (unhide SZ6) (Nat.le_trans (unhide FW).size f8.below.size)
    obtain ⟨e9, on9, _, dry9⟩ := (unhide ON7).flush
    have H10 := hide (s8.flush S (unhide T1) hw1 (by omega) 0 e9)
    have O8 := hide o8
    have FAR8 := hide far8
    have ON9 := hide on9
    have DRY9 := hide dry9
    clear o8 far8 s8 f8 hF8 e9 on9 dry9 ON7
    go_wp2_with fail
    refine (unhide H10).mono ?_
    rintro e w9 ⟨rfl, ⟨F9, s9, _⟩, f9⟩
    have o9 := own_frl (unhide O8) f9 (by decide) (by decide) (by decide) (fun k hk => (unhide FAR8 k hk).1)
    have cd9 := cand_one (Z := fun n0 f' E' => n0 = now ∧ f' = fro ∧ E' = E5 ++ [(now, dx)]) (n0 := now) (unhide ON9).lay (unhide DRY9) s9.k.len rfl ⟨rfl, rfl, rfl⟩ (Nat.le_refl _)
    have H11 := hide (opened_any S w1 (unhide T1) hw1 w9 s9.b p D7.ba _ s9.dk s9.k (by omega) _ _ 0 cd9 (fun n0 f' E' h => by obtain ⟨rfl, _⟩ := h; omega) (by omega) none 0 0 [] rfl (by omega) (.inl rfl))
    have O9 := hide o9
    have SZ9 : Hid (w5.heap.size ≤ w9.heap.size) := Nat.le_trans (unhide SZ8) f9.below.size
    clear H10 o9 s9 f9 cd9 O8 FAR8 ON9 DRY9
    go_wp2_with fail
    refine (unhide H11).mono ?_
    rintro e w10 ⟨xz, F10, n1, fro1, now1, E10, D10, rfl, od10⟩
    have o10 := own_frx (unhide O9) od10.fr (by decide) (by decide) (by decide)
    have hE10 := od10.z.2.2
    have H12 := hide (S.records F10 w10 w1.heap.size xz p _ od10.s.l rfl)
    have O10 := hide o10
    have SZ10 : Hid (w5.heap.size ≤ w10.heap.size) := Nat.le_trans (unhide SZ9) od10.fr.below.size
    have B10 := hide od10.s.b
    clear H11 O9 o10 od10
    go_wp2_with fail
    refine (unhide H12).mono ?_
    rintro e w11 ⟨v11, rfl, o11, f11⟩
    have hl10 : E10.map (·.2) = gl ++ [dx] := by rw [hE10, unhide HGL]; simp
    have hl11 : (gl ++ [dx]).length = el + 1 := by rw [unhide HEL, unhide HGL]; simp
    rw [hl10, hl11] at o11
    obtain ⟨q11, c11, rfl, hq11, _⟩ := o11.form (by omega)
    have f12 : Below w10.heap.size w10 (w11.alloc (.cells #[.string bm] 9)) := bA f11 _
    have hgot := gen_below (unhide O10) f12
    have hsrc : ∀ j u, [Value.string bm][j]? = some u → (w11.alloc (.cells #[.string bm] 9)).cell? (Addr.add ⟨w11.heap.size, 0, none⟩ j) = some u := World.news_of_block (heap_alloc_last w11 _)
    have hone : ∀ u ∈ [Value.string bm], u.oneCell' = true := by simp [Value.oneCell']
    have helb : el ≤ 18 := by have := usedBy_ge E5; have := unhide HEL; omega
    have hc3 : el + 1 ≤ maxLen := by unfold maxLen; omega
    have hbase : w5.heap.size ≤ (w11.alloc (.cells #[.string bm] 9)).heap.size := Nat.le_trans (unhide SZ10) f12.size
    have O11 := hide (gen_below o11 (bA (Below.refl _ w11) (.cells #[.string bm] 9)))
    have F12 := hide f12
    clear H12 f11 o11 f12
    go_wp2_with (at_builtin; (refine append_own_wanted _ rfl (.tmp 84) (.tmp 86) 22 rfl w5.heap.size 9 i0 (.string ⟨#[]⟩) 1 16 Tryd.underlying22 hi hz0 hz1 hz2 rfl (by decide) _ _ _ rfl hgot ⟨w11.heap.size, 0, none⟩ 1 1 [.string bm] rfl rfl hsrc hone hc3 (by omega) hbase ?_))
    intro v13 w13 o13 g13 _
    obtain ⟨q13, c13, rfl, _, _⟩ := o13.form (by omega)
    have hls : gl.map str ++ [Value.string bm] = (gl ++ [dx]).map str := by rw [unhide HBM]; simp
    rw [hls] at o13
    have k11 := (unhide O11).kept g13 (.inr (fun e => by
      have h1 := ((unhide O10).lt q11 e.symm).2
      omega))
    have b13 : Below w1.heap.size w1 w13 := (bT (unhide F12) (unhide B10)).grown g13 (bT (unhide F12) (unhide B10)).size (fun k hk => Nat.le_trans (unhide SZ1) (((unhide O10).lt k hk).1))
    have H14 := hide (SameTexts_same w13 (some ⟨q11, 0, none⟩) (some ⟨q13, 0, none⟩) (el + 1) c11 c13 _ (ts_of_own k11) (ts_of_own o13) (by omega))
    have B13 := hide b13
    clear o13 g13 k11 b13 hgot hsrc hone O11 F12 hls
    go_wp2_with fail
    refine (unhide H14).mono ?_
    rintro e w14 ⟨rfl, f14⟩
    have FB := hide (bT (bT f14 (unhide B13)) (unhide F1))
    clear H14 f14
    go_wp2
    go_ret
    exact ⟨rfl, unhide FB⟩
end

end Go.Proofs.YtfggahkimconfaaDoor
