/- Joined: WpA WpB WpC WpD. -/
import Derived.Test.YtfggahkimconfaaGreatDoorJh
import Derived.Test.YtfggahkimconfaaGreatDoorJp

/- Both logs side by side: what a step of one leaves of the other. -/
namespace Go.Proofs.YtfggahkimconfaaGreatDoor
open Go.RowKit
set_option linter.unusedVariables false

theorem lg_types {F : Nat → Prop} {w : World} {B x p : Nat} {g : Lg} (h : LG F w B x p g) : ∀ k, F k → ∃ c e, w.heap[k]? = some (.cells c e (0, 0)) ∧ (e = 81 ∨ e = 9) := by
  obtain ⟨v, hP, hF⟩ := h
  intro k hk
  rcases (hF k).1 hk with rfl | hv
  · exact ⟨_, _, hP.blk, .inl rfl⟩
  · obtain ⟨_, c, hc⟩ := own_blk hP.own hv
    exact ⟨_, _, hc, .inr rfl⟩
theorem lg_not {F : Nat → Prop} {w : World} {B x p k : Nat} {g : Lg} {c : Array Value} {e : TypeId} {f : Nat × Nat} (h : LG F w B x p g) (hk : w.heap[k]? = some (.cells c e f)) (h1 : e ≠ 81) (h2 : e ≠ 9) : ¬ F k := fun hF => by
  obtain ⟨c', e', hc, he⟩ := lg_types h k hF
  rw [hk] at hc
  injection hc with hc
  injection hc with _ hc
  subst hc
  exact he.elim h1 h2
/-- A step of the landed log keeps the document's disk. -/
theorem YA.frl {A F : Nat → Prop} {w w' : World} {B B' y x p Bl : Nat} {D : Dk} {g : Lg} (h : YA A w B y D) (hl : LG F w Bl x p g) (f : FrL F B' w w') (hA : ∀ k, A k → ¬ F k) : YA A w' B y D :=
  h.keep f.below.size (fun k c e fz hk he => by
    rcases he with rfl | rfl | ⟨rfl, ha⟩
    · exact f.other k _ _ _ hk (by decide) (by decide) (by decide) (lg_not hl hk (by decide) (by decide))
    · exact f.other k _ _ _ hk (by decide) (by decide) (by decide) (lg_not hl hk (by decide) (by decide))
    · exact f.other k _ _ _ hk (by decide) (by decide) (by decide) (hA k ha))
/-- .. and the document's log. -/
theorem VL.frl {F : Nat → Prop} {w w' : World} {B B' Bl z y x p : Nat} {v : Value} {g g' : Lg} (h : VL w B z y v g) (hl : LG F w Bl x p g') (f : FrL F B' w w') (hv : ∀ k, v.ownBlock = some k → ¬ F k) : VL w' B z y v g :=
  ⟨(f.other _ _ _ _ h.blk (by decide) (by decide) (by decide) (lg_not hl h.blk (by decide) (by decide))).trans h.blk, own_of_block h.own (fun k hk => by
    obtain ⟨_, c, hc⟩ := own_blk h.own hk
    exact f.other _ _ _ _ hc (by decide) (by decide) (by decide) (hv k hk)), h.bz, h.small⟩
/-- A step of the document's log keeps the landed one, and its disk. -/
theorem LG.fr3 {F V : Nat → Prop} {w w' : World} {B B' x p : Nat} {g : Lg} (h : LG F w B x p g) (f : Fr3 V B' w w') (hV : ∀ k, F k → ¬ V k) : LG F w' B x p g :=
  lg_keep h (fun k hk => by
    obtain ⟨c, e, hc, he⟩ := lg_types h k hk
    rcases he with rfl | rfl
    · exact f.other k _ _ _ hc (by decide) (by decide) (by decide) (fun h' => absurd h' (by decide))
    · exact f.other k _ _ _ hc (by decide) (by decide) (by decide) (fun _ => hV k hk)) f.below.size
theorem X.fr3 {V : Nat → Prop} {w w' : World} {B B' p : Nat} {D : Dk} (h : X w B p D) (f : Fr3 V B' w w') : X w' B p D := by
  obtain ⟨g, vs, h⟩ := h
  obtain ⟨cur, hg, _⟩ := h.row
  refine ⟨g, vs, h.keep (f.other _ _ _ _ h.blk (by decide) (by decide) (by decide) (fun e => absurd e (by decide))) (f.other _ _ _ _ hg (by decide) (by decide) (by decide) (fun e => absurd e (by decide))) f.below.size (fun i k hi hk => ?_)⟩
  obtain ⟨c, hc⟩ := (h.sec i _ (List.getElem?_eq_getElem hi)).blk hk
  exact f.other _ _ _ _ hc (by decide) (by decide) (by decide) (fun e => absurd e (by decide))

/-- Both logs, of one picture, on both disks, of one picture. -/
structure Two (W : World) (B p y x z : Nat) (F : Nat → Prop) (v : Value) (D : Dk) (g : Lg) : Prop where
  dk : X W B p D
  rk : YA (fun k => ¬ F k ∧ v.ownBlock ≠ some k) W B y D
  lg : LG F W B x p g
  vl : VL W B z y v g
  apart : ∀ k, v.ownBlock = some k → ¬ F k
/-- Behind a step of the landed log. -/
theorem Two.half {W W' : World} {B p y x z : Nat} {F F' : Nat → Prop} {v : Value} {D D' : Dk} {g g' : Lg} (h : Two W B p y x z F v D g) (f : FrL F B W W') (hl : LG F' W' B x p g') (hF : ∀ k, F' k → F k ∨ W.heap.size ≤ k) (hX : X W' B p D') :
    YA (fun k => ¬ F' k ∧ v.ownBlock ≠ some k) W' B y D ∧ VL W' B z y v g ∧ ∀ k, v.ownBlock = some k → ¬ F' k := by
  have hva : ∀ k, v.ownBlock = some k → ¬ F' k := fun k hk hf => by
    rcases hF k hf with h1 | h1
    · exact h.apart k hk h1
    · have := (h.vl.own.lt k hk).2
      omega
  refine ⟨((h.rk.lt.frl h.lg f (fun k hk => hk.1.1)).mono (fun k hk => ⟨fun hf => ?_, hk.1.2⟩)), h.vl.frl h.lg f h.apart, hva⟩
  rcases hF k hf with h1 | h1
  · exact hk.1.1 h1
  · have := hk.2
    omega

/-- .. and behind the document's step after it, its records in the row v'. -/
theorem Two.full {W W' : World} {B p y x z : Nat} {F V : Nat → Prop} {v v' : Value} {D' : Dk} {g' : Lg} (hX : X W B p D') (hl : LG F W B x p g') (hva : ∀ k, v.ownBlock = some k → ¬ F k) (hV : ∀ k, V k → v.ownBlock = some k) (f : Fr3 V B W W')
    (hY : YA (fun k => ¬ F k ∧ v'.ownBlock ≠ some k) W' B y D') (hvl : VL W' B z y v' g') (hv' : ∀ k, v'.ownBlock = some k → v.ownBlock = some k ∨ W.heap.size ≤ k) : Two W' B p y x z F v' D' g' :=
  ⟨hX.fr3 f, hY, hl.fr3 f (fun k hk hVk => hva k (hV k hVk) hk), hvl, fun k hk hF => by
    rcases hv' k hk with h | h
    · exact hva k h hF
    · obtain ⟨c, e, hc, _⟩ := lg_types hl k hF
      have := lt_of_heap hc
      omega⟩
/-- New blocks lie apart from both logs. -/
theorem Two.new {W : World} {B p y x z : Nat} {F : Nat → Prop} {v : Value} {g : Lg} (hl : LG F W B x p g) (hvl : VL W B z y v g) : ∀ k, W.heap.size ≤ k → ¬ F k ∧ v.ownBlock ≠ some k := fun k hk => by
  refine ⟨fun hF => ?_, fun e => ?_⟩
  · obtain ⟨c, e, hc, _⟩ := lg_types hl k hF
    have := lt_of_heap hc
    omega
  · have := (hvl.own.lt k e).2
    omega

end Go.Proofs.YtfggahkimconfaaGreatDoor

/- Both logs side by side: Append, Flush, Reset of both. -/
namespace Go.Proofs.YtfggahkimconfaaGreatDoor
open Go.RowKit
set_option linter.unusedVariables false

theorem two_append {W : World} {B p y x z : Nat} {F : Nat → Prop} {v : Value} {D : Dk} {g : Lg} (L n : Nat) (d : List UInt8) (hT : Tab W) (h1 : 1 ≤ B) (h : Two W B p y x z F v D g) (hO : Okd D L n) (hn : n ≤ 900) (hL : g.at_ + g.size ≤ L) (hd : d.length ≤ 100000) :
    Calls Tryz.prog 14 #[.pointer (some ⟨x, 0, none⟩), str d] W fun e w1 => e = .returned (.int .i64 (g.apd D d).2.2) ∧ Below B W w1 ∧ Calls Tryz.prog 15 #[.pointer (some ⟨z, 0, none⟩), str d] w1 fun e' w2 => e' = .returned (.int .i64 (g.apd D d).2.2) ∧ (∃ F' v', Two w2 B p y x z F' v' (g.apd D d).1 (g.apd D d).2.1) ∧ Below B W w2 := by
  refine (wals.append F W B x p D (g.apd D d).1 g (g.apd D d).2.1 L n d (g.apd D d).2.2 hT h1 h.lg h.dk hO hn hL (by omega) rfl).mono ?_
  rintro e w1 ⟨rfl, ⟨F', hl, hF⟩, hX, f⟩
  obtain ⟨hY1, hV1, hva⟩ := h.half f hl hF hX
  have hsm : g.L.length ≤ 90000 := by
    obtain ⟨u, hP, _⟩ := h.lg
    obtain ⟨_, _, s3, _, _, s6, _, s8⟩ := hP.small
    omega
  refine ⟨rfl, f.below, ?_⟩
  refine (vAppend_any (fun k => ¬ F' k ∧ v.ownBlock ≠ some k) w1 B y z D L n v g d hY1 hO hn ?_ hV1 (fun k hk hA => hA.2 hk) hd hsm).mono ?_
  · intro k hk
    refine ⟨fun hFk => ?_, fun e => ?_⟩
    · obtain ⟨c, e, hc, _⟩ := lg_types hl k hFk
      have := lt_of_heap hc
      omega
    · have := (hV1.own.lt k e).2
      omega
  · rintro e' w2 ⟨rfl, ⟨v', hvl, hya, hat⟩, f3⟩
    refine ⟨rfl, ⟨F', v', Two.full hX hl hva (fun k hk => hk) f3 (hya.mono (fun k hk => ⟨hk.1.1, hk.2⟩)) hvl (fun k hk => ?_)⟩, f.below.trans f3.below⟩
    rcases hat with e | e
    · exact .inl (by rw [← e]; exact hk)
    · exact .inr (e k hk)

theorem two_flush {W : World} {B p y x z : Nat} {F : Nat → Prop} {v : Value} {D : Dk} {g : Lg} (L n : Nat) (hT : Tab W) (h1 : 1 ≤ B) (h : Two W B p y x z F v D g) (hO : Okd D L n) (hn : n ≤ 900) :
    Calls Tryz.prog 16 #[.pointer (some ⟨x, 0, none⟩)] W fun e w1 => e = .returned (.int .i64 (g.flu D).2.2) ∧ Below B W w1 ∧ Calls Tryz.prog 17 #[.pointer (some ⟨z, 0, none⟩)] w1 fun e' w2 => e' = .returned (.int .i64 (g.flu D).2.2) ∧ (∃ F' v', Two w2 B p y x z F' v' (g.flu D).1 (g.flu D).2.1) ∧ Below B W w2 := by
  refine (wals.flush F W B x p D (g.flu D).1 g (g.flu D).2.1 L n (g.flu D).2.2 hT h1 h.lg h.dk hO hn rfl).mono ?_
  rintro e w1 ⟨rfl, ⟨F', hl, hF⟩, hX, f⟩
  obtain ⟨hY1, hV1, hva⟩ := h.half f hl hF hX
  refine ⟨rfl, f.below, ?_⟩
  refine (vFlush_any (fun k => ¬ F' k ∧ v.ownBlock ≠ some k) (fun k => v.ownBlock = some k) w1 B y z D L n v g hY1 hO hn ?_ hV1).mono ?_
  · intro k hk
    refine ⟨fun hFk => ?_, fun e => ?_⟩
    · obtain ⟨c, e, hc, _⟩ := lg_types hl k hFk
      have := lt_of_heap hc
      omega
    · have := (hV1.own.lt k e).2
      omega
  · rintro e' w2 ⟨rfl, hya, hvl, f3⟩
    exact ⟨rfl, ⟨F', v, Two.full hX hl hva (fun k hk => hk) f3 hya hvl (fun k hk => .inl hk)⟩, f.below.trans f3.below⟩

theorem two_reset {W : World} {B p y x z : Nat} {F : Nat → Prop} {v : Value} {D : Dk} {g : Lg} (L n : Nat) (hT : Tab W) (h1 : 1 ≤ B) (h : Two W B p y x z F v D g) (hO : Okd D L n) (hn : n ≤ 900) (hL : g.at_ + g.size ≤ L) :
    Calls Tryz.prog 18 #[.pointer (some ⟨x, 0, none⟩)] W fun e w1 => e = .returned (.int .i64 (g.rst D).2.2) ∧ Below B W w1 ∧ Calls Tryz.prog 19 #[.pointer (some ⟨z, 0, none⟩)] w1 fun e' w2 => e' = .returned (.int .i64 (g.rst D).2.2) ∧ (∃ F' v', Two w2 B p y x z F' v' (g.rst D).1 (g.rst D).2.1) ∧ Below B W w2 := by
  refine (wals.reset F W B x p D (g.rst D).1 g (g.rst D).2.1 L n (g.rst D).2.2 hT h1 h.lg h.dk hO hn hL rfl).mono ?_
  rintro e w1 ⟨rfl, ⟨F', hl, hF⟩, hX, f⟩
  obtain ⟨hY1, hV1, hva⟩ := h.half f hl hF hX
  refine ⟨rfl, f.below, ?_⟩
  refine (vReset_any (fun k => ¬ F' k ∧ v.ownBlock ≠ some k) (fun k => v.ownBlock = some k) w1 B y z D L n v g hY1 hO hn ?_ hV1).mono ?_
  · intro k hk
    refine ⟨fun hFk => ?_, fun e => ?_⟩
    · obtain ⟨c, e, hc, _⟩ := lg_types hl k hFk
      have := lt_of_heap hc
      omega
    · have := (hV1.own.lt k e).2
      omega
  · rintro e' w2 ⟨rfl, hya, ⟨v', hvl, hat⟩, f3⟩
    have hv' : ∀ k, v'.ownBlock = some k → v.ownBlock = some k := fun k hk => by
      rcases hat with rfl | rfl
      · exact hk
      · simp [Value.ownBlock] at hk
    exact ⟨rfl, ⟨F', v', Two.full hX hl hva (fun k hk => hk) f3 (hya.mono (fun k hk => ⟨hk.1, fun e => hk.2 (hv' k e)⟩)) hvl (fun k hk => .inl (hv' k hk))⟩, f.below.trans f3.below⟩

end Go.Proofs.YtfggahkimconfaaGreatDoor

/- Both logs side by side: both Opens, and what both disks do beneath them. -/
namespace Go.Proofs.YtfggahkimconfaaGreatDoor
open Go.RowKit
set_option linter.unusedVariables false

theorem xCrashP (w : World) (B p : Nat) (D : Dk) (L n : Nat) (hX : X w B p D) (hO : Okd D L n) (hn : n ≤ 1000) (a : Option Addr) (c kn : Nat) (kept : List Int) (hk : kept.length = kn) (hK : KeptOf w B a kept) :
    Calls Tryz.prog 22 #[.pointer (some ⟨p, 0, none⟩), .slice a kn c] w fun e w' => e = .returned (.int .i64 0) ∧ X w' B p (D.crashed kept) ∧ Fr B w w' ∧ Okd (D.crashed kept) L n := by
  obtain ⟨g, vs, h⟩ := hX
  refine (Crash_any w B p g vs D h (fun i s hi => Nat.le_trans (hO.few i s hi) (by omega)) a c kn kept hk hK).mono ?_
  rintro e w' ⟨rfl, ⟨vs', E, h', hP⟩, f'⟩
  rw [part_crash hP] at h'
  have x' : X w' B p (D.crashed kept) := ⟨g, vs', h'⟩
  exact ⟨rfl, x', f', Okd.of x' (by rw [← hO.len]; exact crashTo_len kept D D.secs.length) (crashed_few kept hO.few)⟩

/-- No log on either disk, and why; or both logs. -/
def Pls (B p y L : Nat) (D : Dk) (xv ev vv fv : Value) (W : World) : Prop :=
  (∃ (c : Int) (q : Option Addr), c ≠ 0 ∧ xv = .pointer none ∧ ev = .int .i64 c ∧ vv = .pointer q ∧ fv = .int .i64 c ∧ X W B p D ∧ YA (fun _ => True) W B y D) ∨
  (∃ (x z : Nat) (F : Nat → Prop) (u : Value) (g : Lg), xv = .pointer (some ⟨x, 0, none⟩) ∧ ev = .int .i64 0 ∧ vv = .pointer (some ⟨z, 0, none⟩) ∧ fv = .int .i64 0 ∧ Two W B p y x z F u D g ∧ g.at_ + g.size ≤ L)
theorem Two.below {W W' : World} {B p y x z : Nat} {F : Nat → Prop} {v : Value} {D : Dk} {g : Lg} (h : Two W B p y x z F v D g) (f : Below W.heap.size W W') : Two W' B p y x z F v D g :=
  ⟨h.dk.below f, h.rk.below f, wals.below h.lg f, h.vl.below f, h.apart⟩
theorem Pls.below {B p y L : Nat} {D : Dk} {xv ev vv fv : Value} {W W' : World} (h : Pls B p y L D xv ev vv fv W) (f : Below W.heap.size W W') : Pls B p y L D xv ev vv fv W' := by
  rcases h with ⟨c, q, h1, h2, h3, h4, h5, h6, h7⟩ | ⟨x, z, F, u, g, h1, h2, h3, h4, h5, h6⟩
  · exact .inl ⟨c, q, h1, h2, h3, h4, h5, h6.below f, h7.below f⟩
  · exact .inr ⟨x, z, F, u, g, h1, h2, h3, h4, h5.below f, h6⟩
theorem Pls.dk {B p y L : Nat} {D : Dk} {xv ev vv fv : Value} {W : World} (h : Pls B p y L D xv ev vv fv W) : X W B p D := by
  rcases h with ⟨c, q, h1, h2, h3, h4, h5, h6, h7⟩ | ⟨x, z, F, u, g, h1, h2, h3, h4, h5, h6⟩
  · exact h6
  · exact h5.dk
theorem Pls.rk {B p y L : Nat} {D : Dk} {xv ev vv fv : Value} {W : World} (h : Pls B p y L D xv ev vv fv W) : YA (fun _ => True) W B y D := by
  rcases h with ⟨c, q, h1, h2, h3, h4, h5, h6, h7⟩ | ⟨x, z, F, u, g, h1, h2, h3, h4, h5, h6⟩
  · exact h7
  · exact h5.rk.mono (fun _ _ => trivial)
theorem VL.fr {w w' : World} {B B' z y : Nat} {v : Value} {g : Lg} (h : VL w B z y v g) (f : Fr B' w w') : VL w' B z y v g :=
  ⟨(f.other _ _ _ _ h.blk (by decide) (by decide) (by decide)).trans h.blk, own_of_block h.own (fun k hk => by
    obtain ⟨_, c, hc⟩ := own_blk h.own hk
    exact f.other _ _ _ _ hc (by decide) (by decide) (by decide)), h.bz, h.small⟩
theorem LG.fr2 {F : Nat → Prop} {w w' : World} {B B' x p : Nat} {g : Lg} (h : LG F w B x p g) (f : Fr2 B' w w') : LG F w' B x p g :=
  lg_keep h (fun k hk => by
    obtain ⟨c, e, hc, he⟩ := lg_types h k hk
    rcases he with rfl | rfl
    · exact f.other k _ _ _ hc (by decide) (by decide)
    · exact f.other k _ _ _ hc (by decide) (by decide)) f.below.size
/-- Behind a step of the program's disk, then of the document's. -/
theorem Pls.disk {B p y L : Nat} {D D' : Dk} {xv ev vv fv : Value} {W W1 W2 : World} (h : Pls B p y L D xv ev vv fv W) (hX : X W1 B p D') (f : Fr B W W1)
    (hY : ∀ A : Nat → Prop, YA A W1 B y D → (∀ k, W1.heap.size ≤ k → A k) → YA A W2 B y D') (f2 : Fr2 B W1 W2) : Pls B p y L D' xv ev vv fv W2 := by
  rcases h with ⟨c, q, h1, h2, h3, h4, h5, h6, h7⟩ | ⟨x, z, F, u, g, h1, h2, h3, h4, h5, h6⟩
  · exact .inl ⟨c, q, h1, h2, h3, h4, h5, hX.fr2 f2, hY _ (h7.fr f) (fun _ _ => trivial)⟩
  · have hl1 := wals.fr h5.lg f
    have hv1 := h5.vl.fr f
    exact .inr ⟨x, z, F, u, g, h1, h2, h3, h4, ⟨hX.fr2 f2, hY _ (h5.rk.fr f) (Two.new hl1 hv1), hl1.fr2 f2, hv1.fr2 f2, h5.apart⟩, h6⟩

theorem opn_none {D D' : Dk} {a m c : Int} (h : D.opn a m = (D', none, c)) : c ≠ 0 := by
  rcases opn_cases D a m with ⟨_, h'⟩ | ⟨_, _, h'⟩ | ⟨_, _, _, h'⟩ | ⟨_, _, r, _, h'⟩
  · rw [h] at h'; cases h'; decide
  · rw [h] at h'; cases h'; decide
  · rw [h] at h'; cases h'; decide
  · rw [h] at h'
    injection h' with _ h'
    injection h' with h1 h2
    intro h0
    rw [← h2, if_pos h0] at h1
    cases h1
theorem nxt_at (g : Lg) (D : Dk) (f : Nat) : (g.nxt D f).2.1.at_ = g.at_ ∧ (g.nxt D f).2.1.size = g.size := by
  unfold Lg.nxt
  split
  · exact ⟨rfl, rfl⟩
  · split <;> exact ⟨rfl, rfl⟩
theorem apd_at (g : Lg) (D : Dk) (d : List UInt8) : (g.apd D d).2.1.at_ = g.at_ ∧ (g.apd D d).2.1.size = g.size := by
  unfold Lg.apd
  split
  · exact ⟨rfl, rfl⟩
  · split
    · exact ⟨rfl, rfl⟩
    · split
      · exact ⟨rfl, rfl⟩
      · split <;> exact ⟨rfl, rfl⟩
theorem flu_at (g : Lg) (D : Dk) : (g.flu D).2.1.at_ = g.at_ ∧ (g.flu D).2.1.size = g.size := by
  unfold Lg.flu
  split
  · exact ⟨rfl, rfl⟩
  · split <;> exact ⟨rfl, rfl⟩
theorem rst_at (g : Lg) (D : Dk) : (g.rst D).2.1.at_ = g.at_ ∧ (g.rst D).2.1.size = g.size := by
  unfold Lg.rst
  split
  · exact ⟨rfl, rfl⟩
  · split
    · exact nxt_at _ _ _
    · exact nxt_at _ _ _
theorem opn_some {D D' : Dk} {a m c : Int} {g : Lg} {L n : Nat} (hO : Okd D L n) (h : D.opn a m = (D', some g, c)) : c = 0 ∧ g.at_ + g.size ≤ L := by
  rcases opn_cases D a m with ⟨_, h'⟩ | ⟨_, _, h'⟩ | ⟨_, _, _, h'⟩ | ⟨hp, _, r, _, h'⟩
  · rw [h] at h'; cases h'
  · rw [h] at h'; cases h'
  · rw [h] at h'; cases h'
  · rw [h] at h'
    injection h' with _ h'
    injection h' with h1 h2
    by_cases h0 : ((D.found a.toNat m.toNat r).nxt D (num r.data)).2.2 = 0
    · rw [if_pos h0] at h1
      injection h1 with h1
      refine ⟨h2.trans h0, ?_⟩
      rw [h1, (nxt_at _ _ _).1, (nxt_at _ _ _).2]
      obtain ⟨p1, p2, p3, p4⟩ := hp
      have := hO.len
      show a.toNat + m.toNat ≤ L
      omega
    · rw [if_neg h0] at h1
      cases h1

theorem two_open {W : World} {B p y : Nat} {D : Dk} (L n : Nat) (hT : Tab W) (h1 : 1 ≤ B) (hX : X W B p D) (hY : YA (fun _ => True) W B y D) (hO : Okd D L n) (hn : n ≤ 900) (at_ size : Int) (ha : -9223372036854775808 ≤ at_ ∧ at_ ≤ 9223372036854775807) (hs : -9223372036854775808 ≤ size ∧ size ≤ 9223372036854775807) :
    Calls Tryz.prog 9 #[.pointer (some ⟨p, 0, none⟩), .int .i64 at_, .int .i64 size] W fun e w1 => ∃ xo c, e = .returned (.tuple #[.pointer xo, .int .i64 c]) ∧ Fr B W w1 ∧ Calls Tryz.prog 10 #[.pointer (some ⟨y, 0, none⟩), .int .i64 at_, .int .i64 size] w1 fun e' w2 => ∃ vo, e' = .returned (.tuple #[.pointer vo, .int .i64 c]) ∧ Pls B p y L (D.opn at_ size).1 (.pointer xo) (.int .i64 c) (.pointer vo) (.int .i64 c) w2 ∧ Fr3 (fun _ => False) B w1 w2 := by
  obtain ⟨⟨D', o, c⟩, hopn⟩ : ∃ R, R = D.opn at_ size := ⟨_, rfl⟩
  rw [← hopn]
  cases o with
  | none =>
    have hc := opn_none hopn.symm
    refine (wals.fails W B p D D' L n at_ size c hT h1 hX hO hn ha hs hopn.symm).mono ?_
    rintro e w1 ⟨rfl, hX1, f1⟩
    refine ⟨none, c, rfl, f1, ?_⟩
    refine (vOpen_any (fun _ => True) w1 B y D L n (hY.fr f1) hO hn (fun _ _ => trivial) at_ size ha hs).mono ?_
    rw [← hopn]
    rintro e w2 (⟨_, ⟨q, rfl⟩, hy, f2⟩ | ⟨g, z, v, h, _⟩)
    · exact ⟨q, rfl, .inl ⟨c, q, hc, rfl, rfl, rfl, rfl, hX1.fr3 f2, hy⟩, f2⟩
    · cases h
  | some g =>
    obtain ⟨rfl, hgl⟩ := opn_some hO hopn.symm
    refine (wals.opens W B p D D' g L n at_ size hT h1 hX hO hn ha hs hopn.symm).mono ?_
    rintro e w1 ⟨x, F, rfl, hl, hF, hX1, f1⟩
    refine ⟨_, 0, rfl, f1, ?_⟩
    have hY1 : YA (fun k => ¬ F k) w1 B y D := (hY.lt.fr f1).mono (fun k hk hf => by have := hF k hf; have := hk.2; omega)
    refine (vOpen_any (fun k => ¬ F k) w1 B y D L n hY1 hO hn (fun k hk hf => by
      obtain ⟨c, e, hc, _⟩ := lg_types hl k hf
      have := lt_of_heap hc
      omega) at_ size ha hs).mono ?_
    rw [← hopn]
    rintro e w2 (⟨h, _⟩ | ⟨g', z, v, h, _, rfl, hz, hv, hvl, hya, f2⟩)
    · cases h
    · injection h with h
      subst h
      refine ⟨_, rfl, .inr ⟨x, z, F, v, g, rfl, rfl, rfl, rfl, ⟨hX1.fr3 f2, hya, hl.fr3 f2 (fun k _ h => h), hvl, fun k hk hf => ?_⟩, hgl⟩, f2⟩
      have h1 := hv k hk
      obtain ⟨c, e, hc, _⟩ := lg_types hl k hf
      have := lt_of_heap hc
      omega

end Go.Proofs.YtfggahkimconfaaGreatDoor

/- Both logs side by side: each act as calls of both, one behind the other. -/
namespace Go.Proofs.YtfggahkimconfaaGreatDoor
open Go.RowKit
set_option linter.unusedVariables false

/-- An act of WalPlays. -/
structure PAct where
  kind : Int
  at_ : Int
  n : Int
  byte : UInt8
  data : List UInt8
  kept : List Int
  ka : Option Addr
  kc : Nat
structure POk (w : World) (x : PAct) : Prop where
  n : x.n ≤ 9223372036854775807
  kept : KeptOf w w.heap.size x.ka x.kept
def PAct.cells (x : PAct) : Array Value := #[.int .i64 x.kind, .int .i64 x.at_, .int .i64 x.n, .int .u8 (x.byte.toNat : Int), str x.data, .slice x.ka x.kept.length x.kc]
def ActP (w : World) (A : Nat) (x : PAct) : Prop := w.heap[A]? = some (.cells x.cells 41 (0, 0))
theorem ActP.c1 {w : World} {A : Nat} {x : PAct} (h : ActP w A x) : w.cell? ⟨A, 1, none⟩ = some (.int .i64 x.at_) := by rw [cell_of_row _ _ _ _ _ _ h]; rfl
theorem ActP.c2 {w : World} {A : Nat} {x : PAct} (h : ActP w A x) : w.cell? ⟨A, 2, none⟩ = some (.int .i64 x.n) := by rw [cell_of_row _ _ _ _ _ _ h]; rfl
theorem ActP.c3 {w : World} {A : Nat} {x : PAct} (h : ActP w A x) : w.cell? ⟨A, 3, none⟩ = some (.int .u8 (x.byte.toNat : Int)) := by rw [cell_of_row _ _ _ _ _ _ h]; rfl
theorem ActP.c4 {w : World} {A : Nat} {x : PAct} (h : ActP w A x) : w.cell? ⟨A, 4, none⟩ = some (str x.data) := by rw [cell_of_row _ _ _ _ _ _ h]; rfl
theorem ActP.c5 {w : World} {A : Nat} {x : PAct} (h : ActP w A x) : w.cell? ⟨A, 5, none⟩ = some (.slice x.ka x.kept.length x.kc) := by rw [cell_of_row _ _ _ _ _ _ h]; rfl
theorem ActP.c0 {w : World} {A : Nat} {x : PAct} (h : ActP w A x) : w.cell? ⟨A, 0, none⟩ = some (.int .i64 x.kind) := by rw [cell_of_row _ _ _ _ _ _ h]; rfl
theorem ActP.fr {w w' : World} {A B : Nat} {x : PAct} (h : ActP w A x) (f : Fr B w w') : ActP w' A x := (f.other _ _ _ _ h (by decide) (by decide) (by decide)).trans h
theorem ActP.below {w w' : World} {A : Nat} {x : PAct} (h : ActP w A x) (f : Below w.heap.size w w') : ActP w' A x := (f.block A (lt_of_heap h)).trans h

/-- What holds at the head of a round. -/
structure PR (w : World) (p y L n : Nat) (xv ev vv fv : Value) (W : World) : Prop where
  fr : Below w.heap.size w W
  ex : ∃ D, Okd D L n ∧ Pls w.heap.size p y L D xv ev vv fv W
theorem PR.below {w : World} {p y L n : Nat} {xv ev vv fv : Value} {W W' : World} (h : PR w p y L n xv ev vv fv W) (f : Below W.heap.size W W') : PR w p y L n xv ev vv fv W' := by
  obtain ⟨D, h1, h2⟩ := h.ex
  exact ⟨h.fr.trans (f.mono h.fr.size), D, h1, h2.below f⟩
theorem PR.mono {w : World} {p y L n m : Nat} {xv ev vv fv : Value} {W : World} (h : PR w p y L n xv ev vv fv W) (hm : n ≤ m) : PR w p y L m xv ev vv fv W := by
  obtain ⟨D, h1, h2⟩ := h.ex
  exact ⟨h.fr, D, h1.mono hm, h2⟩

/-- Both disks are dumped, and hold the same bytes. -/
theorem PR.dumps {w : World} {p y L n : Nat} {xv ev vv fv : Value} {W : World} (h : PR w p y L n xv ev vv fv W) :
    Calls Tryz.prog 12 #[.pointer (some ⟨p, 0, none⟩)] W fun e w1 => ∃ v, e = .returned v ∧ Calls Tryz.prog 13 #[.pointer (some ⟨y, 0, none⟩)] w1 fun e w2 => ∃ v', e = .returned v' ∧ Calls Tryz.prog 11 #[v, v'] w2 fun e w3 => e = .returned (.bool true) ∧ Below W.heap.size W w3 := by
  obtain ⟨D, hO, hP⟩ := h.ex
  have hmost : D.secs.length ≤ 4096 := by rw [hO.len]; exact hO.most
  obtain ⟨g, vs, hx⟩ := hP.dk
  obtain ⟨By, rv, vals, hB, hy⟩ := hP.rk.y
  obtain ⟨rg, gc, hv⟩ := hy.form (by rw [hO.len]; exact hO.one)
  refine (Dump_any W w.heap.size p g vs D hx).mono ?_
  rintro e w1 ⟨v, rfl, _, ho, f1⟩
  refine ⟨v, rfl, ?_⟩
  refine (rDump_any w1 By y rv vals D (hy.below f1) rg gc hv hmost (fun i s hi => last_len (hO.ok i s hi))).mono ?_
  rintro e w2 ⟨v', rfl, ho', f2⟩
  refine ⟨v', rfl, ?_⟩
  refine (SameBytes_own w2 v v' _ _ _ D.dump (okd_dump hO) (own_below ho f2) ho').mono ?_
  rintro e w3 ⟨rfl, rfl⟩
  exact ⟨rfl, f1.trans (f2.mono f1.size)⟩

theorem PR.trip {w : World} {p y L n A : Nat} {x : PAct} {xv ev vv fv : Value} {W : World} (h : PR w p y L n xv ev vv fv W) (ha : ActP W A x) (hx : x.n ≤ 9223372036854775807) :
    Calls Tryz.prog 20 #[.pointer (some ⟨p, 0, none⟩), .int .i64 x.n] W fun e w1 => e = .returned (.int .i64 0) ∧ ActP w1 A x ∧ Calls Tryz.prog 21 #[.pointer (some ⟨y, 0, none⟩), .int .i64 x.n] w1 fun e w2 => e = .returned (.tuple #[]) ∧ PR w p y L n xv ev vv fv w2 := by
  obtain ⟨D, hO, hP⟩ := h.ex
  refine (xTrip W w.heap.size p D hP.dk x.n hx).mono ?_
  rintro e w1 ⟨rfl, hX, f1⟩
  refine ⟨rfl, ha.fr f1, ?_⟩
  rcases hP with ⟨c, q, h1, h2, h3, h4, h5, h6, h7⟩ | ⟨xb, z, F, u, g, h1, h2, h3, h4, h5, h6⟩
  · refine (yTripA (fun _ => True) w1 w.heap.size y D (h7.fr f1) x.n hx).mono ?_
    rintro e w2 ⟨rfl, hY, f2⟩
    exact ⟨rfl, (h.fr.trans f1.below).trans f2.below, D.tr x.n, Okd.of (hX.fr2 f2) hO.len hO.few, .inl ⟨c, q, h1, h2, h3, h4, h5, hX.fr2 f2, hY⟩⟩
  · have hl1 := wals.fr h5.lg f1
    have hv1 := h5.vl.fr f1
    refine (yTripA _ w1 w.heap.size y D (h5.rk.fr f1) x.n hx).mono ?_
    rintro e w2 ⟨rfl, hY, f2⟩
    exact ⟨rfl, (h.fr.trans f1.below).trans f2.below, D.tr x.n, Okd.of (hX.fr2 f2) hO.len hO.few, .inr ⟨xb, z, F, u, g, h1, h2, h3, h4, ⟨hX.fr2 f2, hY, hl1.fr2 f2, hv1.fr2 f2, h5.apart⟩, h6⟩⟩

theorem PR.crash {w : World} {p y L n A : Nat} {x : PAct} {xv ev vv fv : Value} {W : World} (hT : Tab w) (hw : 1 ≤ w.heap.size) (h : PR w p y L n xv ev vv fv W) (hn : n ≤ 900) (ha : ActP W A x) (hx : POk w x) (at_ size : Int) (h1 : -9223372036854775808 ≤ at_ ∧ at_ ≤ 9223372036854775807) (h2 : -9223372036854775808 ≤ size ∧ size ≤ 9223372036854775807) :
    Calls Tryz.prog 22 #[.pointer (some ⟨p, 0, none⟩), .slice x.ka x.kept.length x.kc] W fun e w1 => e = .returned (.int .i64 0) ∧ ActP w1 A x ∧ Calls Tryz.prog 23 #[.pointer (some ⟨y, 0, none⟩), .slice x.ka x.kept.length x.kc] w1 fun e w2 => e = .returned (.tuple #[]) ∧
      Calls Tryz.prog 9 #[.pointer (some ⟨p, 0, none⟩), .int .i64 at_, .int .i64 size] w2 fun e w3 => ∃ xo c, e = .returned (.tuple #[.pointer xo, .int .i64 c]) ∧ Calls Tryz.prog 10 #[.pointer (some ⟨y, 0, none⟩), .int .i64 at_, .int .i64 size] w3 fun e w4 => ∃ vo, e = .returned (.tuple #[.pointer vo, .int .i64 c]) ∧ PR w p y L (n + 1) (.pointer xo) (.int .i64 c) (.pointer vo) (.int .i64 c) w4 := by
  obtain ⟨D, hO, hP⟩ := h.ex
  refine (xCrashP W w.heap.size p D L n hP.dk hO (by omega) x.ka x.kc _ x.kept rfl (hx.kept.below h.fr)).mono ?_
  rintro e w1 ⟨rfl, hX, f1, hO1⟩
  refine ⟨rfl, ha.fr f1, ?_⟩
  refine (yCrashA (fun _ => True) w1 w.heap.size y D L n (hP.rk.fr f1) hO (by omega) (fun _ _ => trivial) x.ka x.kc _ x.kept rfl ((hx.kept.below h.fr).below f1.below)).mono ?_
  rintro e w2 ⟨rfl, hY, f2⟩
  refine ⟨rfl, ?_⟩
  have b2 := (h.fr.trans f1.below).trans f2.below
  refine (two_open L n (tab_below hT b2 hw) hw (hX.fr2 f2) hY hO1 hn at_ size h1 h2).mono ?_
  rintro e w3 ⟨xo, c, rfl, f3, h3⟩
  refine ⟨xo, c, rfl, h3.mono ?_⟩
  rintro e w4 ⟨vo, rfl, hp, f4⟩
  exact ⟨vo, rfl, (b2.trans f3.below).trans f4.below, _, okd_next hO1 hp.dk (opn_len _ _ _) (opn_few hO1.few _ _), hp⟩

theorem of_own (W : World) (c : UInt8) (B : Nat) (hB : B ≤ W.heap.size) : (W.alloc (.cells (bv (allOf c)).toArray 5)).ownsRow B 5 1 (.slice (some ⟨W.heap.size, 0, none⟩) 256 256) 256 (bv (allOf c)) :=
  ⟨by rw [bv_length, allOf_len], .inr ⟨W.heap.size, 256, (bv (allOf c)).toArray, rfl, hB, heap_alloc_last W _, by omega, by unfold maxLen; omega, by rw [List.size_toArray, bv_length, allOf_len], by show (bv (allOf c)).toArray.toList.take (256 * 1) = _; rw [List.toList_toArray]; exact List.take_of_length_le (by rw [bv_length, allOf_len]; omega)⟩⟩

theorem PR.store {w : World} {p y L n A : Nat} {x : PAct} {xv ev vv fv : Value} {W : World} (h : PR w p y L n xv ev vv fv W) (hn : n ≤ 900) (ha : ActP W A x) (k : Nat) :
    Calls Tryz.prog 25 #[.int .u8 (x.byte.toNat : Int)] W fun e w1 => ∃ v, e = .returned v ∧ Calls Tryz.prog 24 #[.pointer (some ⟨p, 0, none⟩), .int .i64 (k : Int), v] w1 fun e w2 => (∃ c, e = .returned c) ∧ ActP w2 A x ∧
      Calls Tryz.prog 25 #[.int .u8 (x.byte.toNat : Int)] w2 fun e w3 => ∃ v, e = .returned v ∧ Calls Tryz.prog 26 #[.pointer (some ⟨y, 0, none⟩), .int .i64 (k : Int), v] w3 fun e w4 => (∃ c, e = .returned c) ∧ PR w p y L (n + 1) xv ev vv fv w4 := by
  obtain ⟨D, hO, hP⟩ := h.ex
  refine (of_any x.byte W).mono ?_
  rintro e w1 ⟨rfl, rfl⟩
  refine ⟨_, rfl, ?_⟩
  have f1 : Below W.heap.size W (W.alloc (.cells (bv (allOf x.byte)).toArray 5)) := (Below.refl _ _).alloc (Nat.le_refl _) _
  have hb1 := heap_alloc_last W (.cells (bv (allOf x.byte)).toArray 5)
  have h1 := h.below f1
  have ha1 := ha.below f1
  have hP1 := hP.below f1
  generalize W.alloc (.cells (bv (allOf x.byte)).toArray 5) = w1 at *
  refine (xStore w1 w.heap.size p D L n hP1.dk hO (by omega) (k : Int) _ 0 256 256 _ _ hb1 (allOf x.byte) (allOf_len _) (bytes_of_block hb1)).mono ?_
  rintro e w2 ⟨rfl, hX, f2⟩
  refine ⟨⟨_, rfl⟩, ha1.fr f2, ?_⟩
  refine (of_any x.byte w2).mono ?_
  rintro e w3 ⟨rfl, rfl⟩
  refine ⟨_, rfl, ?_⟩
  have f3 : Below w2.heap.size w2 (w2.alloc (.cells (bv (allOf x.byte)).toArray 5)) := (Below.refl _ _).alloc (Nat.le_refl _) _
  have ho := of_own w2 x.byte 0 (Nat.zero_le _)
  generalize hq : w2.heap.size = q at *
  generalize w2.alloc (.cells (bv (allOf x.byte)).toArray 5) = w3 at *
  subst hq
  have hX3 := hX.below f3
  have bB : w.heap.size ≤ w2.heap.size := Nat.le_trans h1.fr.size f2.below.size
  have fr3 : Fr w.heap.size w1 w3 := f2.trans (Fr.of_below f3 bB)
  have b3 := h1.fr.trans fr3.below
  rcases hP1 with ⟨c, q, h1, h2, h3, h4, h5, h6, h7⟩ | ⟨xb, z, F, u, g, h1, h2, h3, h4, h5, h6⟩
  · refine (yStoreA (fun _ => True) w3 w.heap.size y D L n (h7.fr fr3) hO (by omega) (fun _ _ => trivial) (k : Int) _ 256 0 (allOf x.byte) (allOf_len _) (by omega) ho).mono ?_
    rintro e w4 ⟨rfl, hY, f4⟩
    exact ⟨⟨_, rfl⟩, b3.trans f4.below, D.st k (allOf x.byte), okd_st hO _ _, .inl ⟨c, q, h1, h2, h3, h4, h5, hX3.fr2 f4, hY⟩⟩
  · have hl3 := wals.fr h5.lg fr3
    have hv3 := h5.vl.fr fr3
    refine (yStoreA _ w3 w.heap.size y D L n (h5.rk.fr fr3) hO (by omega) (Two.new hl3 hv3) (k : Int) _ 256 0 (allOf x.byte) (allOf_len _) (by omega) ho).mono ?_
    rintro e w4 ⟨rfl, hY, f4⟩
    exact ⟨⟨_, rfl⟩, b3.trans f4.below, D.st k (allOf x.byte), okd_st hO _ _, .inr ⟨xb, z, F, u, g, h1, h2, h3, h4, ⟨hX3.fr2 f4, hY, hl3.fr2 f4, hv3.fr2 f4, h5.apart⟩, h6⟩⟩

/-- Both logs are there. -/
structure PT (w : World) (p y L n x z : Nat) (F : Nat → Prop) (u : Value) (D : Dk) (g : Lg) (W : World) : Prop where
  fr : Below w.heap.size w W
  ok : Okd D L n
  two : Two W w.heap.size p y x z F u D g
  fit : g.at_ + g.size ≤ L
theorem PT.pr {w : World} {p y L n x z : Nat} {F : Nat → Prop} {u : Value} {D : Dk} {g : Lg} {W : World} (h : PT w p y L n x z F u D g W) : PR w p y L n (.pointer (some ⟨x, 0, none⟩)) (.int .i64 0) (.pointer (some ⟨z, 0, none⟩)) (.int .i64 0) W :=
  ⟨h.fr, D, h.ok, .inr ⟨x, z, F, u, g, rfl, rfl, rfl, rfl, h.two, h.fit⟩⟩
/-- Is there a log? -/
theorem PR.look {w : World} {p y L n : Nat} {xv ev vv fv : Value} {W : World} (h : PR w p y L n xv ev vv fv W) : ∃ cf : Int, fv = .int .i64 cf ∧ Hid (cf = 0 → ∃ (xb z : Nat) (F : Nat → Prop) (u : Value) (g : Lg) (D : Dk), xv = .pointer (some ⟨xb, 0, none⟩) ∧ ev = .int .i64 0 ∧ vv = .pointer (some ⟨z, 0, none⟩) ∧ PT w p y L n xb z F u D g W) := by
  obtain ⟨D, hO, hP⟩ := h.ex
  rcases hP with ⟨cc, q, h1, rfl, rfl, rfl, rfl, _, _⟩ | ⟨xb, z, F, u, g, rfl, rfl, rfl, rfl, h2, h3⟩
  · exact ⟨cc, rfl, fun h => absurd h h1⟩
  · exact ⟨0, rfl, fun _ => ⟨xb, z, F, u, g, D, rfl, rfl, rfl, h.fr, hO, h2, h3⟩⟩
theorem PR.ends {w : World} {p y L n : Nat} {xv ev vv fv : Value} {W : World} (h : PR w p y L n xv ev vv fv W) : ∃ cc : Int, ev = .int .i64 cc ∧ fv = .int .i64 cc := by
  obtain ⟨D, hO, hP⟩ := h.ex
  rcases hP with ⟨cc, q, h1, rfl, rfl, rfl, rfl, _, _⟩ | ⟨xb, z, F, u, g, rfl, rfl, rfl, rfl, _, _⟩
  · exact ⟨cc, rfl, rfl⟩
  · exact ⟨0, rfl, rfl⟩
theorem PT.append {w : World} {p y L n x z : Nat} {F : Nat → Prop} {u : Value} {D : Dk} {g : Lg} {W : World} (hT : Tab w) (hw : 1 ≤ w.heap.size) (h : PT w p y L n x z F u D g W) (hn : n ≤ 900) (d : List UInt8) (hd : d.length ≤ 100000) :
    Calls Tryz.prog 14 #[.pointer (some ⟨x, 0, none⟩), str d] W fun e w1 => ∃ c : Int, e = .returned (.int .i64 c) ∧ Calls Tryz.prog 15 #[.pointer (some ⟨z, 0, none⟩), str d] w1 fun e' w2 => e' = .returned (.int .i64 c) ∧ PR w p y L (n + 18) (.pointer (some ⟨x, 0, none⟩)) (.int .i64 0) (.pointer (some ⟨z, 0, none⟩)) (.int .i64 0) w2 := by
  refine (two_append L n d (tab_below hT h.fr hw) hw h.two h.ok hn h.fit hd).mono ?_
  rintro e w1 ⟨rfl, f1, h1⟩
  refine ⟨_, rfl, h1.mono ?_⟩
  rintro e w2 ⟨rfl, ⟨F', v', t2⟩, f2⟩
  exact ⟨rfl, h.fr.trans f2, _, okd_next h.ok t2.dk (apd_len _ _ _) (apd_few _ h.ok.few _), .inr ⟨x, z, F', v', _, rfl, rfl, rfl, rfl, t2, by rw [(apd_at _ _ _).1, (apd_at _ _ _).2]; exact h.fit⟩⟩
theorem PT.flush {w : World} {p y L n x z : Nat} {F : Nat → Prop} {u : Value} {D : Dk} {g : Lg} {W : World} (hT : Tab w) (hw : 1 ≤ w.heap.size) (h : PT w p y L n x z F u D g W) (hn : n ≤ 900) :
    Calls Tryz.prog 16 #[.pointer (some ⟨x, 0, none⟩)] W fun e w1 => ∃ c : Int, e = .returned (.int .i64 c) ∧ Calls Tryz.prog 17 #[.pointer (some ⟨z, 0, none⟩)] w1 fun e' w2 => e' = .returned (.int .i64 c) ∧ PR w p y L n (.pointer (some ⟨x, 0, none⟩)) (.int .i64 0) (.pointer (some ⟨z, 0, none⟩)) (.int .i64 0) w2 := by
  refine (two_flush L n (tab_below hT h.fr hw) hw h.two h.ok hn).mono ?_
  rintro e w1 ⟨rfl, f1, h1⟩
  refine ⟨_, rfl, h1.mono ?_⟩
  rintro e w2 ⟨rfl, ⟨F', v', t2⟩, f2⟩
  exact ⟨rfl, h.fr.trans f2, _, okd_next h.ok t2.dk (flu_len _ _) (flu_few _ h.ok.few), .inr ⟨x, z, F', v', _, rfl, rfl, rfl, rfl, t2, by rw [(flu_at _ _).1, (flu_at _ _).2]; exact h.fit⟩⟩
theorem PT.reset {w : World} {p y L n x z : Nat} {F : Nat → Prop} {u : Value} {D : Dk} {g : Lg} {W : World} (hT : Tab w) (hw : 1 ≤ w.heap.size) (h : PT w p y L n x z F u D g W) (hn : n ≤ 900) :
    Calls Tryz.prog 18 #[.pointer (some ⟨x, 0, none⟩)] W fun e w1 => ∃ c : Int, e = .returned (.int .i64 c) ∧ Calls Tryz.prog 19 #[.pointer (some ⟨z, 0, none⟩)] w1 fun e' w2 => e' = .returned (.int .i64 c) ∧ PR w p y L (n + 1) (.pointer (some ⟨x, 0, none⟩)) (.int .i64 0) (.pointer (some ⟨z, 0, none⟩)) (.int .i64 0) w2 := by
  refine (two_reset L n (tab_below hT h.fr hw) hw h.two h.ok hn h.fit).mono ?_
  rintro e w1 ⟨rfl, f1, h1⟩
  refine ⟨_, rfl, h1.mono ?_⟩
  rintro e w2 ⟨rfl, ⟨F', v', t2⟩, f2⟩
  exact ⟨rfl, h.fr.trans f2, _, okd_next h.ok t2.dk (rst_len _ _) (rst_few _ h.ok.few), .inr ⟨x, z, F', v', _, rfl, rfl, rfl, rfl, t2, by rw [(rst_at _ _).1, (rst_at _ _).2]; exact h.fit⟩⟩

/-- What both logs tell of themselves, as long as the power is there. -/
structure ZC (z : Nat) (u : Value) (g : Lg) (W : World) : Prop where
  c2 : W.cell? ⟨z, 2, none⟩ = some (.int .i64 (g.size : Int))
  c3 : W.cell? ⟨z, 3, none⟩ = some (.int .i64 (g.now : Int))
  c5 : W.cell? ⟨z, 5, none⟩ = some u
  c6 : W.cell? ⟨z, 6, none⟩ = some (.int .i64 (g.used : Int))
  c7 : W.cell? ⟨z, 7, none⟩ = some (.int .i64 (g.count : Int))
  c8 : W.cell? ⟨z, 8, none⟩ = some (.bool g.gone)
structure Live (x z : Nat) (u : Value) (g : Lg) (wc : World) : Prop where
  cells : ∀ w, Below wc.heap.size wc w → ZC z u g w
  recs : ∀ w, Below wc.heap.size wc w → Calls Tryz.prog 28 #[.pointer (some ⟨x, 0, none⟩)] w fun e w' => ∃ v, e = .returned v ∧ w'.ownsRow w.heap.size 9 1 v g.L.length (g.L.map str) ∧ Below wc.heap.size wc w'
  same : ∀ w v base, Below wc.heap.size wc w → w.ownsRow base 9 1 v g.L.length (g.L.map str) → Calls Tryz.prog 27 #[v, u] w fun e w' => e = .returned (.bool true) ∧ Below wc.heap.size wc w'
  sure : ∀ w, Below wc.heap.size wc w → Calls Tryz.prog 29 #[.pointer (some ⟨x, 0, none⟩)] w fun e w' => e = .returned (.int .i64 (g.count : Int)) ∧ Below wc.heap.size wc w'
  free : ∀ w, Below wc.heap.size wc w → Calls Tryz.prog 30 #[.pointer (some ⟨x, 0, none⟩)] w fun e w' => e = .returned (.int .i64 ((g.size : Int) - 1 - g.used)) ∧ Below wc.heap.size wc w'
  epoch : ∀ w, Below wc.heap.size wc w → Calls Tryz.prog 31 #[.pointer (some ⟨x, 0, none⟩)] w fun e w' => e = .returned (.int .i64 (g.now : Int)) ∧ Below wc.heap.size wc w'
theorem Two.cells {W : World} {B p y x z : Nat} {F : Nat → Prop} {u : Value} {D : Dk} {g : Lg} (h : Two W B p y x z F u D g) : ∀ w, Below W.heap.size W w → ZC z u g w := fun w f => by
  have hv := h.vl.below f
  have c := hv.cells
  exact ⟨c.2.2.1, c.2.2.2.1, c.2.2.2.2.2.1, c.2.2.2.2.2.2.1, c.2.2.2.2.2.2.2.1, c.2.2.2.2.2.2.2.2.1⟩
theorem Two.live {W : World} {B p y x z : Nat} {F : Nat → Prop} {u : Value} {D : Dk} {g : Lg} (h : Two W B p y x z F u D g) (hg : g.gone = false) : Live x z u g W := by
  refine ⟨h.cells, ?_, ?_, ?_, ?_, ?_⟩
  · intro w f
    refine (wals.records F w B x p g (wals.below h.lg f) hg).mono ?_
    rintro e w' ⟨v, rfl, ho, f'⟩
    exact ⟨v, rfl, ho, f.trans (f'.mono f.size)⟩
  · intro w v base f ho
    obtain ⟨a, c, rfl⟩ := own_slice ho
    have ho' := (h.vl.below f).own
    obtain ⟨a', c', rfl⟩ := own_slice ho'
    obtain ⟨_, _, _, _, _, _, _, h8⟩ := h.vl.small
    refine (SameTexts_same w a a' _ c c' g.L (ts_of_own ho) (ts_of_own ho') (by omega)).mono ?_
    rintro e w' ⟨rfl, f'⟩
    exact ⟨rfl, f.trans (f'.mono f.size)⟩
  · intro w f
    refine (wals.sure F w B x p g (wals.below h.lg f) hg).mono ?_
    rintro e w' ⟨rfl, f'⟩
    exact ⟨rfl, f.trans (f'.mono f.size)⟩
  · intro w f
    refine (wals.free F w B x p g (wals.below h.lg f) hg).mono ?_
    rintro e w' ⟨rfl, f'⟩
    exact ⟨rfl, f.trans (f'.mono f.size)⟩
  · intro w f
    refine (wals.epoch F w B x p g (wals.below h.lg f) hg).mono ?_
    rintro e w' ⟨rfl, f'⟩
    exact ⟨rfl, f.trans (f'.mono f.size)⟩

end Go.Proofs.YtfggahkimconfaaGreatDoor
