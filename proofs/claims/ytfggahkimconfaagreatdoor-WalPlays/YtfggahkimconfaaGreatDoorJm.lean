/- Joined: DkYA VrB VrC VrD WlS WlRooms VrE VrF VrG. -/
import Derived.Test.YtfggahkimconfaaGreatDoorJk

/- The document's disk, its texts lying where A says: so that others' texts are told from them. -/
namespace Go.Proofs.YtfggahkimconfaaGreatDoor
open Go.RowKit
set_option linter.unusedVariables false

def YA (A : Nat → Prop) (w : World) (B y : Nat) (D : Dk) : Prop := ∃ By v vals, B ≤ By ∧ RIs w By y v vals (rof D) ∧ ∀ sv ∈ vals, ∀ k, sv.ownBlock = some k → A k
theorem YA.y {A : Nat → Prop} {w : World} {B y : Nat} {D : Dk} (h : YA A w B y D) : Y w B y D := by
  obtain ⟨By, v, vals, hB, h, _⟩ := h
  exact ⟨By, v, vals, hB, h⟩
theorem YA.below {A : Nat → Prop} {w w' : World} {B p : Nat} {D : Dk} (h : YA A w B p D) (f : Below w.heap.size w w') : YA A w' B p D := by
  obtain ⟨By, v, vals, hB, h, hA⟩ := h
  exact ⟨By, v, vals, hB, h.below f, hA⟩
theorem YA.mono {A A' : Nat → Prop} {w : World} {B p : Nat} {D : Dk} (h : YA A w B p D) (hm : ∀ k, A k → A' k) : YA A' w B p D := by
  obtain ⟨By, v, vals, hB, h, hA⟩ := h
  exact ⟨By, v, vals, hB, h, fun sv hs k hk => hm k (hA sv hs k hk)⟩
/-- Where its own blocks are as they were, it is. -/
theorem YA.keep {A : Nat → Prop} {w w' : World} {B y : Nat} {D : Dk} (hy : YA A w B y D) (hs : w.heap.size ≤ w'.heap.size)
    (hk : ∀ (k : Nat) (c : Array Value) (e : TypeId) (f : Nat × Nat), w.heap[k]? = some (.cells c e f) → (e = 67 ∨ e = 53 ∨ (e = 9 ∧ A k)) → w'.heap[k]? = w.heap[k]?) : YA A w' B y D := by
  obtain ⟨By, v, vals, hB, h, hA⟩ := hy
  obtain ⟨k1, k2⟩ := h.kinds
  refine ⟨By, v, vals, hB, ⟨(hk _ _ _ _ h.blk (.inl rfl)).trans h.blk, ?_, h.bp, Nat.le_trans h.bw hs, ?_, h.lo, h.hi⟩, hA⟩
  · refine own_of_block h.own (fun k hk' => ?_)
    obtain ⟨cur, hc⟩ := k2 k hk'
    exact hk _ _ _ _ hc (.inr (.inl rfl))
  · intro i l hi
    obtain ⟨sv, a, q, c, cur, rfl, hq, h3⟩ := h.each i l hi
    have hAq := hA _ (List.mem_of_getElem? a) q rfl
    exact ⟨_, a, q, c, cur, rfl, (hk _ _ _ _ hq (.inr (.inr ⟨rfl, hAq⟩))).trans hq, h3⟩
theorem YA.fr {A : Nat → Prop} {w w' : World} {B Bx y : Nat} {D : Dk} (h : YA A w B y D) (f : Fr Bx w w') : YA A w' B y D :=
  h.keep f.below.size (fun k c e f' hk he => by
    rcases he with rfl | rfl | ⟨rfl, _⟩
    · exact f.other _ _ _ _ hk (by decide) (by decide) (by decide)
    · exact f.other _ _ _ _ hk (by decide) (by decide) (by decide)
    · exact f.other _ _ _ _ hk (by decide) (by decide) (by decide))
theorem newOr_a {A : Nat → Prop} {w : World} {vals vals' : List Value} (h : NewOr w vals vals') (hA : ∀ sv ∈ vals, ∀ k, sv.ownBlock = some k → A k) (hn : ∀ k, w.heap.size ≤ k → A k) : ∀ sv ∈ vals', ∀ k, sv.ownBlock = some k → A k := fun sv hs k hk =>
  (h sv hs).elim (fun h1 => hA sv h1 k hk) (fun h1 => hn k (h1 k hk))

theorem yMakeA (A : Nat → Prop) (n : Nat) (w : World) (h1 : 1 ≤ n) (h2 : n ≤ 4096) (hn : ∀ k, w.heap.size ≤ k → A k) :
    Calls Tryz.prog 6 #[.int .i64 n] w fun e w' => e = .returned (.tuple #[.pointer (some ⟨w.heap.size, 0, none⟩), .int .i64 0]) ∧ YA A w' w.heap.size w.heap.size (Dk.fresh n) ∧ Below w.heap.size w w' := by
  refine (rMake_ok n w h1 h2).mono ?_
  rintro e w' ⟨rfl, ⟨v, vals, h, hnw⟩, f⟩
  rw [rof_fresh] at h
  exact ⟨rfl, ⟨_, v, vals, Nat.le_refl _, h, fun sv hs k hk => hn k (hnw sv hs k hk)⟩, f⟩
theorem yStoreA (A : Nat → Prop) (w : World) (B y : Nat) (D : Dk) (L n : Nat) (hY : YA A w B y D) (hO : Okd D L n) (hn : n ≤ 1000) (hw : ∀ k, w.heap.size ≤ k → A k) (at_ : Int) (v : Value) (m base : Nat) (x : List UInt8) (hm : x.length = m) (hm1 : 1 ≤ m) (hx : w.ownsRow base 5 1 v m (bv x)) :
    Calls Tryz.prog 26 #[.pointer (some ⟨y, 0, none⟩), .int .i64 at_, v] w fun e w' => e = .returned (.int .i64 (D.stE at_ m)) ∧ YA A w' B y (D.st at_ x) ∧ Fr2 B w w' := by
  obtain ⟨By, rv, vals, hB, h, hA⟩ := hY
  obtain ⟨g, gc, hv⟩ := h.form (by rw [hO.len]; exact hO.one)
  rcases hx.2 with ⟨rfl, rfl⟩ | ⟨q, cap, cur, rfl, _, hq, _⟩
  · omega
  · have hbx : BytesAt w (some ⟨q, 0, none⟩) x := ⟨(fun e => by cases e), fun ad e j u hu => by injection e with e; subst e; exact hx.cells (g := q) rfl j u hu⟩
    by_cases hat : 0 ≤ at_ ∧ at_ < D.secs.length
    · by_cases hm2 : m = 256
      · subst hm2
        cases hc : D.can with
        | true =>
          rw [stE_ok hat rfl hc, st_ok hat hm hc]
          obtain ⟨i, rfl⟩ : ∃ i : Nat, at_ = i := ⟨at_.toNat, by omega⟩
          have hi := List.getElem?_eq_getElem (show i < D.secs.length by omega)
          refine (rStore_ok w By y rv vals D h i _ hi q cap hc (Nat.le_trans (hO.few _ _ hi) (by omega)) x hm cur _ hq hbx).mono ?_
          rintro e w' ⟨rfl, ⟨vals', h', nw⟩, f'⟩
          refine ⟨rfl, ⟨By, rv, vals', hB, ?_, newOr_a nw hA hw⟩, fr2_mono f' hB⟩
          unfold Dk.sto
          rw [List.getD_eq_getElem?_getD]
          simp only [Int.toNat_natCast, hi, Option.getD_some]
          exact h'
        | false =>
          rw [stE_dark hat rfl hc, st_dark hat hm hc]
          refine (rStore_dark w By y rv vals D h at_ _ cap hat hc g gc hv).mono ?_
          rintro e w' ⟨rfl, h', f'⟩
          exact ⟨rfl, ⟨By, rv, vals, hB, h', hA⟩, fr2_mono f' hB⟩
      · rw [stE_bad (fun e => hm2 e.2), st_bad (fun e => hm2 (hm ▸ e.2))]
        refine (rStore_len w By y rv vals D h at_ _ m cap hat hm2 g gc hv).mono ?_
        rintro e w' ⟨rfl, rfl⟩
        exact ⟨rfl, ⟨By, rv, vals, hB, h, hA⟩, Fr2.refl _ _⟩
    · rw [stE_bad (fun e => hat e.1), st_bad (fun e => hat e.1)]
      refine (rStore_out w By y rv vals D h at_ _ m cap hat g gc hv).mono ?_
      rintro e w' ⟨rfl, rfl⟩
      exact ⟨rfl, ⟨By, rv, vals, hB, h, hA⟩, Fr2.refl _ _⟩
theorem yBarrierA (A : Nat → Prop) (w : World) (B y : Nat) (D : Dk) (L n : Nat) (hY : YA A w B y D) (hO : Okd D L n) (hw : ∀ k, w.heap.size ≤ k → A k) :
    Calls Tryz.prog 38 #[.pointer (some ⟨y, 0, none⟩)] w fun e w' => e = .returned (.int .i64 D.baE) ∧ YA A w' B y D.ba ∧ Fr2 B w w' := by
  obtain ⟨By, rv, vals, hB, h, hA⟩ := hY
  obtain ⟨g, gc, hv⟩ := h.form (by rw [hO.len]; exact hO.one)
  unfold Dk.baE Dk.ba
  cases hc : D.can with
  | true =>
    refine (rBarrier_ok w By y rv vals D h hc g gc hv (by rw [hO.len]; exact hO.most)).mono ?_
    rintro e w' ⟨rfl, ⟨vals', h', nw⟩, f'⟩
    exact ⟨rfl, ⟨By, rv, vals', hB, h', newOr_a nw hA hw⟩, fr2_mono f' hB⟩
  | false =>
    refine (rBarrier_dark w By y rv vals D h hc).mono ?_
    rintro e w' ⟨rfl, h', f'⟩
    exact ⟨rfl, ⟨By, rv, vals, hB, h', hA⟩, fr2_mono f' hB⟩
theorem yTripA (A : Nat → Prop) (w : World) (B y : Nat) (D : Dk) (hY : YA A w B y D) (n : Int) (hn : n ≤ 9223372036854775807) :
    Calls Tryz.prog 21 #[.pointer (some ⟨y, 0, none⟩), .int .i64 n] w fun e w' => e = .returned (.tuple #[]) ∧ YA A w' B y (D.tr n) ∧ Fr2 B w w' := by
  obtain ⟨By, rv, vals, hB, h, hA⟩ := hY
  refine (rTrip_any w By y rv vals D h n hn).mono ?_
  rintro e w' ⟨rfl, h', f'⟩
  exact ⟨rfl, ⟨By, rv, vals, hB, h', hA⟩, fr2_mono f' hB⟩
theorem yCrashA (A : Nat → Prop) (w : World) (B y : Nat) (D : Dk) (L n : Nat) (hY : YA A w B y D) (hO : Okd D L n) (hn : n ≤ 1000) (hw : ∀ k, w.heap.size ≤ k → A k) (a : Option Addr) (c kn : Nat) (kept : List Int) (hk : kept.length = kn) (hK : KeptOf w B a kept) :
    Calls Tryz.prog 23 #[.pointer (some ⟨y, 0, none⟩), .slice a kn c] w fun e w' => e = .returned (.tuple #[]) ∧ YA A w' B y (D.crashed kept) ∧ Fr2 B w w' := by
  obtain ⟨By, rv, vals, hB, h, hA⟩ := hY
  obtain ⟨g, gc, hv⟩ := h.form (by rw [hO.len]; exact hO.one)
  have few : ∀ (i : Nat) (s : Sec), D.secs[i]? = some s → s.wait.length ≤ 1000000 := fun i s hi => Nat.le_trans (hO.few i s hi) (by omega)
  have hK' : KeptOf w By a kept := by
    rcases hK with h0 | ⟨kb, ko, e, h1, h2, h3⟩
    · exact .inl h0
    · exact .inr ⟨kb, ko, e, by omega, h2, h3⟩
  refine (rCrash_any w By y rv vals D h g gc hv (by rw [hO.len]; exact hO.most) few a c kn kept hk hK').mono ?_
  rintro e w' ⟨rfl, ⟨vals', h', nw⟩, f'⟩
  exact ⟨rfl, ⟨By, rv, vals', hB, h', newOr_a nw hA hw⟩, fr2_mono f' hB⟩

end Go.Proofs.YtfggahkimconfaaGreatDoor

/- The document's own log: Place, Format. -/
namespace Go.Proofs.YtfggahkimconfaaGreatDoor
open Go.RowKit
set_option linter.unusedVariables false

set_option maxHeartbeats 1600000 in
theorem vPlace_any (A : Nat → Prop) (w : World) (B y : Nat) (D : Dk) (hY : YA A w B y D) (L n : Nat) (hO : Okd D L n) (at_ size : Int) (ha : -9223372036854775808 ≤ at_ ∧ at_ ≤ 9223372036854775807) (hs : -9223372036854775808 ≤ size ∧ size ≤ 9223372036854775807) :
    Calls Tryz.prog 36 #[.pointer (some ⟨y, 0, none⟩), .int .i64 at_, .int .i64 size] w fun e w' => e = .returned (.bool (decide (placeOk D at_ size))) ∧ w' = w := by
  obtain ⟨By, rv, vals, hB, h, hA⟩ := hY
  obtain ⟨g, gc, rfl⟩ := h.form (by rw [hO.len]; exact hO.one)
  have c0 := h.cells.1
  have hl : (rof D).V.length = L := by rw [show (rof D).V.length = D.secs.length by simp [rof]]; exact hO.len
  have hL := hO.most
  have hp : decide (placeOk D at_ size) = decide (2 ≤ size ∧ size ≤ (L : Int) ∧ 0 ≤ at_ ∧ at_ ≤ (L : Int) - size) := decide_eq_decide.2 (by unfold placeOk; rw [hO.len])
  rw [hp]
  rw [hO.len] at c0
  clear h hA hO hp
  by_cases h1 : 2 ≤ size
  · have g1 : decide (2 ≤ size) = true := by simpa using h1
    by_cases h2 : size ≤ (L : Int)
    · have g2 : decide (size ≤ (L : Int)) = true := by simpa using h2
      by_cases h3 : 0 ≤ at_
      · have g3 : decide (0 ≤ at_) = true := by simpa using h3
        have g5 : IntKind.i64.wrap ((L : Int) - size) = (L : Int) - size := by rw [IntKind.wrap_i64]; omega
        have e1 : decide (2 ≤ size ∧ size ≤ (L : Int) ∧ 0 ≤ at_ ∧ at_ ≤ (L : Int) - size) = decide (at_ ≤ (L : Int) - size) := by simp [h1, h2, h3]
        rw [e1]
        go_enter Tryz.func36, Tryz.ntmps36
        go_wp2
        go_ret
        exact ⟨rfl, rfl⟩
      · have g3 : decide (0 ≤ at_) = false := by simpa using h3
        have e1 : decide (2 ≤ size ∧ size ≤ (L : Int) ∧ 0 ≤ at_ ∧ at_ ≤ (L : Int) - size) = false := by simp [h3]
        rw [e1]
        go_enter Tryz.func36, Tryz.ntmps36
        go_wp2
        go_ret
        exact ⟨rfl, rfl⟩
    · have g2 : decide (size ≤ (L : Int)) = false := by simpa using h2
      have e1 : decide (2 ≤ size ∧ size ≤ (L : Int) ∧ 0 ≤ at_ ∧ at_ ≤ (L : Int) - size) = false := by simp [h2]
      rw [e1]
      go_enter Tryz.func36, Tryz.ntmps36
      go_wp2
      go_ret
      exact ⟨rfl, rfl⟩
  · have g1 : decide (2 ≤ size) = false := by simpa using h1
    have e1 : decide (2 ≤ size ∧ size ≤ (L : Int) ∧ 0 ≤ at_ ∧ at_ ≤ (L : Int) - size) = false := by simp [h1]
    rw [e1]
    go_enter Tryz.func36, Tryz.ntmps36
    go_wp2
    go_ret
    exact ⟨rfl, rfl⟩

theorem okd_st {D : Dk} {L n : Nat} (hO : Okd D L n) (a : Int) (x : List UInt8) : Okd (D.st a x) L (n + 1) := by
  refine ⟨by rw [st_len, hO.len], hO.one, hO.most, ?_, st_few (okd_few hO) a x⟩
  unfold Dk.st
  split
  · rename_i hx
    split
    · intro i s hi
      unfold Dk.sto Dk.put at hi
      rw [Dk.moved_secs] at hi
      simp only [List.getElem?_set] at hi
      split at hi
      · split at hi
        · injection hi with hi
          subst hi
          rename_i h1 h2
          have hg := List.getElem?_eq_getElem h2
          have := hO.ok _ _ hg
          rw [List.getD_eq_getElem?_getD, hg]
          refine ⟨this.1, fun y hy => ?_⟩
          simp only [Option.getD_some, Sec.add, List.mem_append, List.mem_singleton] at hy
          rcases hy with hy | rfl
          · exact this.2 y hy
          · exact hx.2
        · cases hi
      · exact hO.ok i s hi
    · intro i s hi
      rw [Dk.moved_secs] at hi
      exact hO.ok i s hi
  · exact hO.ok
theorem okd_ba {D : Dk} {L n : Nat} (hO : Okd D L n) : Okd D.ba L n := by
  refine ⟨by rw [ba_len, hO.len], hO.one, hO.most, ?_, ba_few (okd_few hO)⟩
  unfold Dk.ba
  split
  · intro i s hi
    simp only [Dk.bar, List.getElem?_map, Option.map_eq_some_iff] at hi
    obtain ⟨t, ht, rfl⟩ := hi
    exact ⟨Sec.pick_len (hO.ok i t ht) _ (Nat.le_refl _), fun x hx => by cases hx⟩
  · intro i s hi
    rw [Dk.moved_secs] at hi
    exact hO.ok i s hi

/-- head, then Store: what the document's log does at each new epoch. -/
theorem yHead (A : Nat → Prop) (w : World) (B y : Nat) (D : Dk) (L n : Nat) (hY : YA A w B y D) (hO : Okd D L n) (hn : n ≤ 900) (hw : ∀ k, w.heap.size ≤ k → A k) (at_ : Int) (v : Value) (base : Nat) (r : Rec) (hr : fitS r) (hv : w.ownsRow base 5 1 v 256 (bv (secB r))) :
    Calls Tryz.prog 26 #[.pointer (some ⟨y, 0, none⟩), .int .i64 at_, v] w fun e w' => e = .returned (.int .i64 (D.stE at_ 256)) ∧ YA A w' B y (D.st at_ (secB r)) ∧ Fr2 B w w' :=
  yStoreA A w B y D L n hY hO (by omega) hw at_ v 256 base (secB r) (secB_len hr) (by omega) hv

theorem fr2_below {B : Nat} {w w1 w2 : World} (f : Below w.heap.size w w1) (hB : B ≤ w.heap.size) (g : Fr2 B w1 w2) : Fr2 B w w2 := (Fr2.of_below f hB).trans g
theorem YA.bw {A : Nat → Prop} {w : World} {B y : Nat} {D : Dk} (h : YA A w B y D) : B ≤ w.heap.size := by
  obtain ⟨By, v, vals, hB, h, _⟩ := h
  exact Nat.le_trans hB h.bw

set_option maxHeartbeats 1600000 in
theorem vFormat_any (A : Nat → Prop) (w : World) (B y : Nat) (D : Dk) (L n : Nat) (hY : YA A w B y D) (hO : Okd D L n) (hn : n ≤ 900) (hw : ∀ k, w.heap.size ≤ k → A k) (at_ size : Int) (ha : -9223372036854775808 ≤ at_ ∧ at_ ≤ 9223372036854775807) (hs : -9223372036854775808 ≤ size ∧ size ≤ 9223372036854775807) :
    Calls Tryz.prog 8 #[.pointer (some ⟨y, 0, none⟩), .int .i64 at_, .int .i64 size] w fun e w' => e = .returned (.int .i64 (D.fmt at_ size).2) ∧ YA A w' B y (D.fmt at_ size).1 ∧ Fr2 B w w' := by
  have H1 := hide (vPlace_any A w B y D hY L n hO at_ size ha hs)
  by_cases hp : placeOk D at_ size
  · have e0 : D.fmt at_ size = D.sb at_.toNat (secB (headR 1 1)) := by unfold Dk.fmt; rw [if_pos hp]
    rw [e0]
    have hat : ((at_.toNat : Nat) : Int) = at_ := by have := hp.2.2.1; omega
    unfold Dk.sb
    rw [hat]
    rw [decide_eq_true hp] at H1
    have H2 := hide (vhead_any w 1 1 (by omega) (by omega))
    have hfit : fitS (headR 1 1) := head_fit (by omega)
    generalize headR 1 1 = r at *
    have H3 : Hid (∀ w1 v base, Below w.heap.size w w1 → w1.ownsRow base 5 1 v 256 (bv (secB r)) → Calls Tryz.prog 26 #[.pointer (some ⟨y, 0, none⟩), .int .i64 at_, v] w1 fun e w' => e = .returned (.int .i64 (D.stE at_ 256)) ∧ YA A w' B y (D.st at_ (secB r)) ∧ Fr2 B w w') := fun w1 v base f o => by
      refine (yHead A w1 B y D L n (hY.below f) hO hn (fun k hk => hw k (Nat.le_trans f.size hk)) at_ v base r hfit o).mono ?_
      rintro e w' ⟨rfl, hY', f'⟩
      exact ⟨rfl, hY', fr2_below f hY.bw f'⟩
    have H4 : Hid (∀ w1, YA A w1 B y (D.st at_ (secB r)) → Fr2 B w w1 → Calls Tryz.prog 38 #[.pointer (some ⟨y, 0, none⟩)] w1 fun e w' => e = .returned (.int .i64 (D.st at_ (secB r)).baE) ∧ YA A w' B y (D.st at_ (secB r)).ba ∧ Fr2 B w w') := fun w1 h f => by
      refine (yBarrierA A w1 B y _ L (n + 1) h (okd_st hO _ _) (fun k hk => hw k (Nat.le_trans f.below.size hk))).mono ?_
      rintro e w' ⟨rfl, hY', f'⟩
      exact ⟨rfl, hY', f.trans f'⟩
    clear hY hO hp e0 hat hw hfit
    generalize D.st at_ (secB r) = D2 at *
    by_cases hE : D.stE at_ 256 = 0
    · rw [if_pos hE]
      rw [hE] at H3
      clear hE
      generalize hbe : D2.baE = be at *
      clear hbe
      go_enter Tryz.func8, Tryz.ntmps8
      go_wp2_with fail
      refine (unhide H1).mono ?_
      rintro e w1 ⟨rfl, rfl⟩
      go_wp2_with fail
      refine (unhide H2).mono ?_
      rintro e w2 ⟨v2, rfl, o2, f2⟩
      have H5 := hide (unhide H3 _ _ _ f2 o2)
      clear o2 f2 H2 H3 H1
      go_wp2_with fail
      refine (unhide H5).mono ?_
      rintro e w3 ⟨rfl, hY3, f3⟩
      have H6 := hide (unhide H4 _ hY3 f3)
      clear hY3 f3 H4 H5
      go_wp2_with fail
      refine (unhide H6).mono ?_
      rintro e w4 ⟨rfl, hY4, f4⟩
      have HY4 := hide hY4
      have F4 := hide f4
      clear hY4 f4 H6
      go_wp2
      go_ret
      exact ⟨rfl, unhide HY4, unhide F4⟩
    · rw [if_neg hE]
      have gE : (D.stE at_ 256 == 0) = false := by simpa using hE
      clear hE
      generalize D.stE at_ 256 = E at *
      go_enter Tryz.func8, Tryz.ntmps8
      go_wp2_with fail
      refine (unhide H1).mono ?_
      rintro e w1 ⟨rfl, rfl⟩
      go_wp2_with fail
      refine (unhide H2).mono ?_
      rintro e w2 ⟨v2, rfl, o2, f2⟩
      have H5 := hide (unhide H3 _ _ _ f2 o2)
      clear o2 f2 H2 H3 H1
      go_wp2_with fail
      refine (unhide H5).mono ?_
      rintro e w3 ⟨rfl, hY3, f3⟩
      have HY3 := hide hY3
      have F3 := hide f3
      clear hY3 f3 H4 H5
      go_wp2
      go_ret
      exact ⟨rfl, unhide HY3, unhide F3⟩
  · have e0 : D.fmt at_ size = (D, 2) := by unfold Dk.fmt; rw [if_neg hp]
    rw [e0]
    rw [decide_eq_false hp] at H1
    have HY := hide hY
    clear hY hO hp e0 hw
    go_enter Tryz.func8, Tryz.ntmps8
    go_wp2_with fail
    refine (unhide H1).mono ?_
    rintro e w1 ⟨rfl, rfl⟩
    go_wp2
    go_ret
    exact ⟨rfl, unhide HY, Fr2.refl _ _⟩

end Go.Proofs.YtfggahkimconfaaGreatDoor

/- The document's own log in memory: next, Flush, Reset. -/
namespace Go.Proofs.YtfggahkimconfaaGreatDoor
open Go.RowKit
set_option linter.unusedVariables false

/-- The document's log, at block z, on the document's disk at block y; its records in the row v. -/
structure VL (w : World) (B z y : Nat) (v : Value) (g : Lg) : Prop where
  blk : w.heap[z]? = some (.cells #[.pointer (some ⟨y, 0, none⟩), .int .i64 (g.at_ : Int), .int .i64 (g.size : Int), .int .i64 (g.now : Int), .int .i64 (g.fro : Int), v, .int .i64 (g.used : Int), .int .i64 (g.count : Int), .bool g.gone] 55 (0, 0))
  own : w.ownsRow B 9 1 v g.L.length (g.L.map str)
  bz : B ≤ z
  small : g.at_ ≤ 4096 ∧ 2 ≤ g.size ∧ g.size ≤ 4096 ∧ g.now < 4294967296 ∧ g.fro < 4294967296 ∧ g.used ≤ g.size - 1 ∧ g.count ≤ 100000 ∧ g.L.length ≤ 100000
/-- What a step of the document's log may turn: its disk, its own block, and the row V of its records. -/
structure Fr3 (V : Nat → Prop) (B : Nat) (w w' : World) : Prop where
  below : Below B w w'
  other : ∀ (k : Nat) (c : Array Value) (e : TypeId) (f : Nat × Nat), w.heap[k]? = some (.cells c e f) → e ≠ 67 → e ≠ 53 → e ≠ 55 → (e = 9 → ¬ V k) → w'.heap[k]? = w.heap[k]?
theorem Fr2.three {V : Nat → Prop} {B : Nat} {w w' : World} (h : Fr2 B w w') : Fr3 V B w w' := ⟨h.below, fun k c e f hk h1 h2 _ _ => h.other k c e f hk h1 h2⟩
theorem Fr3.refl (V : Nat → Prop) (B : Nat) (w : World) : Fr3 V B w w := ⟨Below.refl _ _, fun _ _ _ _ _ _ _ _ _ => rfl⟩
theorem Fr3.trans {V : Nat → Prop} {B : Nat} {a b c : World} (h : Fr3 V B a b) (k : Fr3 V B b c) : Fr3 V B a c :=
  ⟨h.below.trans k.below, fun i cs e f hi h1 h2 h3 h4 => by
    have e1 := h.other i cs e f hi h1 h2 h3 h4
    rw [← e1]
    exact k.other i cs e f (e1.trans hi) h1 h2 h3 h4⟩
theorem Fr3.of_below {V : Nat → Prop} {B : Nat} {w w' : World} (h : Below w.heap.size w w') (hB : B ≤ w.heap.size) : Fr3 V B w w' := (Fr2.of_below h hB).three
theorem VL.fr2 {w w' : World} {B B' z y : Nat} {v : Value} {g : Lg} (h : VL w B z y v g) (f : Fr2 B' w w') : VL w' B z y v g :=
  ⟨(f.other _ _ _ _ h.blk (by decide) (by decide)).trans h.blk, own_of_block h.own (fun k hk => by
    rcases h.own.2 with ⟨rfl, _⟩ | ⟨q, cap, cur, rfl, _, hq, _⟩
    · simp [Value.ownBlock] at hk
    · obtain rfl : q = k := by simpa [Value.ownBlock] using hk
      exact f.other _ _ _ _ hq (by decide) (by decide)), h.bz, h.small⟩
theorem VL.below {w w' : World} {B z y : Nat} {v : Value} {g : Lg} (h : VL w B z y v g) (f : Below w.heap.size w w') : VL w' B z y v g := h.fr2 (Fr2.of_below (B := 0) f (Nat.zero_le _))
theorem VL.lt {w : World} {B z y : Nat} {v : Value} {g : Lg} (h : VL w B z y v g) : z < w.heap.size := lt_of_heap h.blk
theorem VL.cells {w : World} {B z y : Nat} {v : Value} {g : Lg} (h : VL w B z y v g) :
    w.cell? ⟨z, 0, none⟩ = some (.pointer (some ⟨y, 0, none⟩)) ∧ w.cell? ⟨z, 1, none⟩ = some (.int .i64 (g.at_ : Int)) ∧ w.cell? ⟨z, 2, none⟩ = some (.int .i64 (g.size : Int)) ∧ w.cell? ⟨z, 3, none⟩ = some (.int .i64 (g.now : Int)) ∧ w.cell? ⟨z, 4, none⟩ = some (.int .i64 (g.fro : Int)) ∧
    w.cell? ⟨z, 5, none⟩ = some v ∧ w.cell? ⟨z, 6, none⟩ = some (.int .i64 (g.used : Int)) ∧ w.cell? ⟨z, 7, none⟩ = some (.int .i64 (g.count : Int)) ∧ w.cell? ⟨z, 8, none⟩ = some (.bool g.gone) ∧ ∀ j, w.frozen? ⟨z, j, none⟩ = false :=
  ⟨by rw [cell_of_row _ _ _ _ _ _ h.blk]; rfl, by rw [cell_of_row _ _ _ _ _ _ h.blk]; rfl, by rw [cell_of_row _ _ _ _ _ _ h.blk]; rfl, by rw [cell_of_row _ _ _ _ _ _ h.blk]; rfl, by rw [cell_of_row _ _ _ _ _ _ h.blk]; rfl, by rw [cell_of_row _ _ _ _ _ _ h.blk]; rfl, by rw [cell_of_row _ _ _ _ _ _ h.blk]; rfl, by rw [cell_of_row _ _ _ _ _ _ h.blk]; rfl, by rw [cell_of_row _ _ _ _ _ _ h.blk]; rfl, fun j => frozen_of_row _ _ _ _ _ h.blk⟩
/-- W is w, the log's own block written anew. -/
structure Lw (z : Nat) (w W : World) (cs : Array Value) : Prop where
  was : ∃ c, w.heap[z]? = some (.cells c 55 (0, 0))
  blk : W.heap[z]? = some (.cells cs 55 (0, 0))
  oth : ∀ k, k ≠ z → W.heap[k]? = w.heap[k]?
  bel : Below z w W
theorem VL.lw {w : World} {B z y : Nat} {v : Value} {g : Lg} (h : VL w B z y v g) : Lw z w w #[.pointer (some ⟨y, 0, none⟩), .int .i64 (g.at_ : Int), .int .i64 (g.size : Int), .int .i64 (g.now : Int), .int .i64 (g.fro : Int), v, .int .i64 (g.used : Int), .int .i64 (g.count : Int), .bool g.gone] :=
  ⟨⟨_, h.blk⟩, h.blk, fun _ _ => rfl, Below.refl _ _⟩
theorem Lw.set {z : Nat} {w W : World} {cs : Array Value} (h : Lw z w W cs) (j : Nat) (u : Value) : Lw z w (W.setCell ⟨z, j, none⟩ u) (cs.setIfInBounds j u) :=
  ⟨h.was, heap_setCell_same W z j cs _ u h.blk, fun k hk => (heap_setCell_other W ⟨z, j, none⟩ k u hk).trans (h.oth k hk), h.bel.setCell (p := ⟨z, j, none⟩) (Nat.le_refl _) u⟩
theorem Lw.vl {w W : World} {B z y : Nat} {v v' : Value} {g g' : Lg} (h : VL w B z y v g) (k : Lw z w W #[.pointer (some ⟨y, 0, none⟩), .int .i64 (g'.at_ : Int), .int .i64 (g'.size : Int), .int .i64 (g'.now : Int), .int .i64 (g'.fro : Int), v', .int .i64 (g'.used : Int), .int .i64 (g'.count : Int), .bool g'.gone]) (ho : W.ownsRow B 9 1 v' g'.L.length (g'.L.map str)) (hs : g'.at_ ≤ 4096 ∧ 2 ≤ g'.size ∧ g'.size ≤ 4096 ∧ g'.now < 4294967296 ∧ g'.fro < 4294967296 ∧ g'.used ≤ g'.size - 1 ∧ g'.count ≤ 100000 ∧ g'.L.length ≤ 100000) : VL W B z y v' g' :=
  ⟨k.blk, ho, h.bz, hs⟩
theorem Lw.own {w W : World} {B z y : Nat} {v : Value} {g : Lg} {cs : Array Value} (h : VL w B z y v g) (k : Lw z w W cs) : W.ownsRow B 9 1 v g.L.length (g.L.map str) :=
  own_of_block h.own (fun q hq => by
    rcases h.own.2 with ⟨rfl, _⟩ | ⟨q', cap, cur, rfl, _, hq', _⟩
    · simp [Value.ownBlock] at hq
    · obtain rfl : q' = q := by simpa [Value.ownBlock] using hq
      refine k.oth _ (fun e => ?_)
      subst e
      rw [h.blk] at hq'
      injection hq' with hq'
      injection hq' with _ hq'
      exact absurd hq' (by decide))
theorem Lw.fr {V : Nat → Prop} {B z : Nat} {w W : World} {cs : Array Value} (h : Lw z w W cs) (hB : B ≤ z) : Fr3 V B w W :=
  ⟨h.bel.mono hB, fun k c e f hk _ _ h3 _ => by
    by_cases hkz : k = z
    · subst hkz
      obtain ⟨c', hc⟩ := h.was
      rw [hc] at hk
      injection hk with hk
      injection hk with _ hk
      exact absurd hk.symm h3
    · exact h.oth k hkz⟩
/-- A step that turns only the log's own block keeps its disk. -/
theorem YA.log {A : Nat → Prop} {w w' : World} {B y z : Nat} {D : Dk} (h : YA A w B y D) {c : Array Value} (hz : w.heap[z]? = some (.cells c 55 (0, 0))) (hs : w.heap.size ≤ w'.heap.size) (hk : ∀ k, k < w.heap.size → k ≠ z → w'.heap[k]? = w.heap[k]?) : YA A w' B y D :=
  h.keep hs (fun k c' e f hk' he => hk k (lt_of_heap hk') (fun e' => by
    subst e'
    rw [hz] at hk'
    injection hk' with hk'
    injection hk' with _ hk'
    subst hk'
    rcases he with he | he | ⟨he, _⟩
    · exact absurd he (by decide)
    · exact absurd he (by decide)
    · exact absurd he (by decide)))

theorem Lw.ya {A : Nat → Prop} {w W : World} {B y z : Nat} {D : Dk} {cs : Array Value} (k : Lw z w W cs) (h : YA A w B y D) : YA A W B y D := by
  obtain ⟨c, hc⟩ := k.was
  exact h.log hc k.bel.size (fun q _ hq => k.oth q hq)
theorem own_slice {w : World} {B n size : Nat} {e : TypeId} {v : Value} {xs : List Value} (h : w.ownsRow B e size v n xs) : ∃ a c, v = .slice a n c := by
  rcases h.2 with ⟨rfl, rfl⟩ | ⟨q, cap, cur, rfl, _⟩
  · exact ⟨none, 0, rfl⟩
  · exact ⟨_, _, rfl⟩

set_option maxRecDepth 100000 in
set_option maxHeartbeats 1600000 in
theorem vFlush_any (A V : Nat → Prop) (w : World) (B y z : Nat) (D : Dk) (L n : Nat) (v : Value) (g : Lg) (hY : YA A w B y D) (hO : Okd D L n) (hn : n ≤ 900) (hw : ∀ k, w.heap.size ≤ k → A k) (hV : VL w B z y v g) :
    Calls Tryz.prog 17 #[.pointer (some ⟨z, 0, none⟩)] w fun e w' => e = .returned (.int .i64 (g.flu D).2.2) ∧ YA A w' B y (g.flu D).1 ∧ VL w' B z y v (g.flu D).2.1 ∧ Fr3 V B w w' := by
  by_cases hg : g.gone = true
  · have e0 : g.flu D = (D, g, 10) := by unfold Lg.flu; rw [if_pos hg]
    rw [e0]
    obtain ⟨_, _, _, _, _, _, _, _, c8, _⟩ := hV.cells
    rw [hg] at c8
    have HY := hide hY
    have HV := hide hV
    clear hY hV e0 hO hw
    go_enter Tryz.func17, Tryz.ntmps17
    go_wp2
    go_ret
    exact ⟨rfl, unhide HY, unhide HV, Fr3.refl _ _ _⟩
  · have hg' : g.gone = false := by simpa using hg
    obtain ⟨va, vc, rfl⟩ := own_slice hV.own
    obtain ⟨c0, _, _, _, _, c5, _, _, c8, _⟩ := hV.cells
    rw [hg'] at c8
    have H1 : Hid (Calls Tryz.prog 38 #[.pointer (some ⟨y, 0, none⟩)] w fun e w' => e = .returned (.int .i64 D.baE) ∧ YA A w' B y D.ba ∧ Fr2 B w w') := yBarrierA A w B y D L n hY hO hw
    have HV := hide hV
    clear hY hV hO hw
    by_cases hE : D.baE = 0
    · have e0 : g.flu D = (D.ba, { g with count := g.L.length }, 0) := by unfold Lg.flu; rw [if_neg hg, if_pos hE]
      rw [e0]
      rw [hE] at H1
      clear e0 hE hg
      generalize D.ba = D2 at *
      go_enter Tryz.func17, Tryz.ntmps17
      go_wp2_with fail
      refine (unhide H1).mono ?_
      rintro e w1 ⟨rfl, hY1, f1⟩
      have hV1 := (unhide HV).fr2 f1
      clear c0 c5 c8 H1
      obtain ⟨c0, _, _, _, _, c5, _, c7, c8, fz⟩ := hV1.cells
      rw [hg'] at c8
      have f7 := fz 7
      have f8 := fz 8
      have HY1 := hide hY1
      have HV1 := hide hV1
      have F1 := hide f1
      clear hY1 hV1 f1 fz
      go_wp2
      go_ret
      have hv := unhide HV1
      have hl := (hv.lw.set 8 (.bool false)).set 7 (.int .i64 (g.L.length : Int))
      have ho := hl.own hv
      refine ⟨rfl, hl.ya (unhide HY1), Lw.vl hv (g' := { g with count := g.L.length }) ?_ ho ?_, (unhide F1).three.trans (hl.fr hv.bz)⟩
      · rw [show ({ g with count := g.L.length } : Lg).gone = false from hg']
        exact hl
      · obtain ⟨s1, s2, s3, s4, s5, s6, s7, s8⟩ := hv.small
        exact ⟨s1, s2, s3, s4, s5, s6, s8, s8⟩
    · have e0 : g.flu D = (D.ba, { g with gone := true }, D.baE) := by unfold Lg.flu; rw [if_neg hg, if_neg hE]
      rw [e0]
      have gE : (D.baE == 0) = false := by simpa using hE
      have gN : (D.baE != 0) = true := by simpa using hE
      clear e0 hE hg
      generalize D.ba = D2 at *
      generalize D.baE = E at *
      go_enter Tryz.func17, Tryz.ntmps17
      go_wp2_with fail
      refine (unhide H1).mono ?_
      rintro e w1 ⟨rfl, hY1, f1⟩
      have hV1 := (unhide HV).fr2 f1
      clear c0 c5 c8 H1
      obtain ⟨c0, _, _, _, _, c5, _, c7, c8, fz⟩ := hV1.cells
      rw [hg'] at c8
      have f8 := fz 8
      have HY1 := hide hY1
      have HV1 := hide hV1
      have F1 := hide f1
      clear hY1 hV1 f1 fz
      go_wp2
      go_ret
      have hv := unhide HV1
      have hl := hv.lw.set 8 (.bool true)
      have ho := hl.own hv
      exact ⟨rfl, hl.ya (unhide HY1), Lw.vl hv (g' := { g with gone := true }) hl ho hv.small, (unhide F1).three.trans (hl.fr hv.bz)⟩

end Go.Proofs.YtfggahkimconfaaGreatDoor

/- The document's own log: next, Reset. -/
namespace Go.Proofs.YtfggahkimconfaaGreatDoor
open Go.RowKit
set_option linter.unusedVariables false

set_option maxRecDepth 100000 in
set_option maxHeartbeats 1600000 in
theorem vnext_any (A V : Nat → Prop) (w : World) (B y z : Nat) (D : Dk) (L n : Nat) (v : Value) (g : Lg) (hY : YA A w B y D) (hO : Okd D L n) (hn : n ≤ 900) (hw : ∀ k, w.heap.size ≤ k → A k) (hV : VL w B z y v g) (hgo : g.gone = false) (fro : Nat) (hf : 4294967295 ≤ g.now ∨ fro < 4294967296) :
    Calls Tryz.prog 45 #[.pointer (some ⟨z, 0, none⟩), .int .i64 (fro : Int)] w fun e w' => e = .returned (.int .i64 (g.nxt D fro).2.2) ∧ YA A w' B y (g.nxt D fro).1 ∧ VL w' B z y v (g.nxt D fro).2.1 ∧ Fr3 V B w w' := by
  obtain ⟨s1, s2, s3, s4, s5, s6, s7, s8⟩ := hV.small
  obtain ⟨c0, c1, _, c3, _, _, _, _, _, _⟩ := hV.cells
  by_cases hg : 4294967295 ≤ g.now
  · have e0 : g.nxt D fro = (D, g, 4) := by unfold Lg.nxt; rw [if_pos hg]
    rw [e0]
    have g1 : decide ((4294967295 : Int) ≤ (g.now : Int)) = true := by simp; omega
    have HY := hide hY
    have HV := hide hV
    clear hY hV e0 hO hw s1 s2 s3 s4 s5 s6 s7 s8 hg
    go_enter Tryz.func45, Tryz.ntmps45
    go_wp2
    go_ret
    exact ⟨rfl, unhide HY, unhide HV, Fr3.refl _ _ _⟩
  · have g1 : decide ((4294967295 : Int) ≤ (g.now : Int)) = false := by simp; omega
    obtain ⟨nw, hnw⟩ : ∃ nw, nw = g.now + 1 := ⟨_, rfl⟩
    have g2 : (g.now : Int) + 1 = (nw : Int) := by omega
    have hB := hV.bz
    have hf' : fro < 4294967296 := hf.resolve_left hg
    have hfit : fitS (headR nw fro) := head_fit (by omega)
    have H2 : Hid (∀ W, Below w.heap.size w W → Calls Tryz.prog 37 #[.int .i64 (nw : Int), .int .i64 (fro : Int)] W fun e w' => ∃ v, e = .returned v ∧ w'.ownsRow W.heap.size 5 1 v 256 (bv (secB (headR nw fro))) ∧ Below w.heap.size w w') := fun W f => by
      refine (vhead_any W nw fro (by omega) hf').mono ?_
      rintro e w' ⟨v, rfl, o, f'⟩
      exact ⟨v, rfl, o, f.trans (f'.mono f.size)⟩
    have H3 : Hid (∀ w1 v base, Below w.heap.size w w1 → w1.ownsRow base 5 1 v 256 (bv (secB (headR nw fro))) → Calls Tryz.prog 26 #[.pointer (some ⟨y, 0, none⟩), .int .i64 (g.at_ : Int), v] w1 fun e w' => e = .returned (.int .i64 (D.stE g.at_ 256)) ∧ YA A w' B y (D.st g.at_ (secB (headR nw fro))) ∧ Fr2 B w w') := fun w1 v base f o => by
      refine (yHead A w1 B y D L n (hY.below f) hO hn (fun k hk => hw k (Nat.le_trans f.size hk)) _ v base _ hfit o).mono ?_
      rintro e w' ⟨rfl, hY', f'⟩
      exact ⟨rfl, hY', fr2_below f hY.bw f'⟩
    have H4 : Hid (∀ w1, YA A w1 B y (D.st g.at_ (secB (headR nw fro))) → Fr2 B w w1 → Calls Tryz.prog 38 #[.pointer (some ⟨y, 0, none⟩)] w1 fun e w' => e = .returned (.int .i64 (D.st g.at_ (secB (headR nw fro))).baE) ∧ YA A w' B y (D.st g.at_ (secB (headR nw fro))).ba ∧ Fr2 B w w' ∧ VL w' B z y v g) := fun w1 h f => by
      refine (yBarrierA A w1 B y _ L (n + 1) h (okd_st hO _ _) (fun k hk => hw k (Nat.le_trans f.below.size hk))).mono ?_
      rintro e w' ⟨rfl, hY', f'⟩
      exact ⟨rfl, hY', f.trans f', hV.fr2 (f.trans f')⟩
    have KC : Hid (∀ W, Below w.heap.size w W → W.cell? ⟨z, 0, none⟩ = some (.pointer (some ⟨y, 0, none⟩)) ∧ W.cell? ⟨z, 1, none⟩ = some (.int .i64 (g.at_ : Int)) ∧ W.cell? ⟨z, 3, none⟩ = some (.int .i64 (g.now : Int))) := fun W f => by
      obtain ⟨c0, c1, _, c3, _⟩ := (hV.below f).cells
      exact ⟨c0, c1, c3⟩
    have KC2 : Hid (∀ W, Fr2 B w W → W.cell? ⟨z, 0, none⟩ = some (.pointer (some ⟨y, 0, none⟩)) ∧ W.cell? ⟨z, 1, none⟩ = some (.int .i64 (g.at_ : Int)) ∧ W.cell? ⟨z, 3, none⟩ = some (.int .i64 (g.now : Int))) := fun W f => by
      obtain ⟨c0, c1, _, c3, _⟩ := (hV.fr2 f).cells
      exact ⟨c0, c1, c3⟩
    have hX : g.nxt D fro = if D.stE g.at_ 256 = 0 then (if (D.st g.at_ (secB (headR nw fro))).baE = 0 then ((D.st g.at_ (secB (headR nw fro))).ba, { g with now := nw, fro := fro }, 0) else ((D.st g.at_ (secB (headR nw fro))).ba, { g with gone := true }, (D.st g.at_ (secB (headR nw fro))).baE)) else (D.st g.at_ (secB (headR nw fro)), { g with gone := true }, D.stE g.at_ 256) := by
      unfold Lg.nxt Dk.sb
      rw [if_neg hg, ← hnw]
      by_cases h1 : D.stE g.at_ 256 = 0
      · simp only [if_pos h1]
      · simp only [if_neg h1]
    rw [hX]
    have HV := hide hV
    have NW : Hid (nw < 4294967296) := by show nw < 4294967296; omega
    have hwrap : IntKind.i64.wrap (nw : Int) = (nw : Int) := by rw [IntKind.wrap_i64]; omega
    generalize secB (headR nw fro) = sb at *
    generalize D.st (g.at_ : Int) sb = D2 at *
    have SM := hide hV.small
    clear hX hY hO hw hV hfit hnw hg hf s1 s2 s3 s4 s5 s6 s7 s8
    generalize D.stE (g.at_ : Int) 256 = E at *
    go_enter Tryz.func45, Tryz.ntmps45
    go_upto_region 3 with fail
    go_region_held_law (fun W => W.cell? ⟨z, 0, none⟩ = some (.pointer (some ⟨y, 0, none⟩)) ∧ W.cell? ⟨z, 1, none⟩ = some (.int .i64 (g.at_ : Int)) ∧ W.cell? ⟨z, 3, none⟩ = some (.int .i64 (g.now : Int))) (go_keep)
      (first
        | (have ox := o2; clear ox; go_at_call 26; refine (unhide H3 _ _ _ (by repeat (first | exact f2 | refine Below.drew ?_)) o2).mono ?_; rintro e w3 ⟨rfl, hY3, f3⟩; have k30 := (unhide KC2 w3 f3).1; have k31 := (unhide KC2 w3 f3).2.1; have k32 := (unhide KC2 w3 f3).2.2)
        | (go_at_call 37; refine (unhide H2 _ (by repeat (first | exact Below.refl _ _ | refine Below.drew ?_))).mono ?_; rintro e w2 ⟨v2, rfl, o2, f2⟩; have k20 := (unhide KC w2 f2).1; have k21 := (unhide KC w2 f2).2.1; have k22 := (unhide KC w2 f2).2.2))
    have HY3 := hide hY3
    have HV3 := hide ((unhide HV).fr2 f3)
    have F3 := hide f3
    clear k20 k21 k22 k30 k31 k32 o2 f2 hY3 f3 H2 H3 KC KC2 HV c0 c1 c3
    by_cases hE : E = 0
    · subst hE
      have c0 := (unhide HV3).cells.1
      go_simp
      go_wp2_with fail
      refine (unhide H4 _ (unhide HY3) (unhide F3)).mono ?_
      rintro e w4 ⟨rfl, hY4, f4, hV4⟩
      have HY4 := hide hY4
      have HV4 := hide hV4
      have F4 := hide f4
      clear hY4 f4 hV4 H4 HY3 HV3 F3 c0
      obtain ⟨_, _, _, d3, d4, _, _, _, d8, fz⟩ := (unhide HV4).cells
      have z3 := fz 3
      have z4 := fz 4
      have z8 := fz 8
      clear fz
      by_cases hb : D2.baE = 0
      · rw [hb]
        go_wp2
        go_ret
        have hv := unhide HV4
        have hl := ((hv.lw.set 8 (.bool false)).set 3 (.int .i64 (nw : Int))).set 4 (.int .i64 (fro : Int))
        have ho := hl.own hv
        obtain ⟨t1, t2, t3, t4, t5, t6, t7, t8⟩ := hv.small
        refine ⟨rfl, hl.ya (unhide HY4), Lw.vl hv (g' := { g with now := nw, fro := fro, gone := false }) hl ho ⟨t1, t2, t3, unhide NW, hf', t6, t7, t8⟩, (unhide F4).three.trans (hl.fr hv.bz)⟩
      · have gE : (D2.baE == 0) = false := by simpa using hb
        have gN : (D2.baE != 0) = true := by simpa using hb
        go_wp2
        go_ret
        have hv := unhide HV4
        have hl := hv.lw.set 8 (.bool true)
        have ho := hl.own hv
        exact ⟨rfl, hl.ya (unhide HY4), Lw.vl hv (g' := { g with gone := true }) hl ho hv.small, (unhide F4).three.trans (hl.fr hv.bz)⟩
    · have gE : (E == 0) = false := by simpa using hE
      have gN : (E != 0) = true := by simpa using hE
      obtain ⟨_, _, _, _, _, _, _, _, d8, fz⟩ := (unhide HV3).cells
      have z8 := fz 8
      clear fz H4
      go_simp
      go_wp2
      go_ret
      have hv := unhide HV3
      have hl := hv.lw.set 8 (.bool true)
      have ho := hl.own hv
      exact ⟨rfl, hl.ya (unhide HY3), Lw.vl hv (g' := { g with gone := true }) hl ho hv.small, (unhide F3).three.trans (hl.fr hv.bz)⟩

set_option maxRecDepth 100000 in
set_option maxHeartbeats 1600000 in
theorem vReset_any (A V : Nat → Prop) (w : World) (B y z : Nat) (D : Dk) (L n : Nat) (v : Value) (g : Lg) (hY : YA A w B y D) (hO : Okd D L n) (hn : n ≤ 900) (hw : ∀ k, w.heap.size ≤ k → A k) (hV : VL w B z y v g) :
    Calls Tryz.prog 19 #[.pointer (some ⟨z, 0, none⟩)] w fun e w' => e = .returned (.int .i64 (g.rst D).2.2) ∧ YA A w' B y (g.rst D).1 ∧ (∃ v', VL w' B z y v' (g.rst D).2.1 ∧ (v' = v ∨ v' = .slice none 0 0)) ∧ Fr3 V B w w' := by
  obtain ⟨s1, s2, s3, s4, s5, s6, s7, s8⟩ := hV.small
  obtain ⟨_, _, _, c3, _, _, _, _, c8, _⟩ := hV.cells
  cases hg : g.gone with
  | true =>
    have e0 : g.rst D = (D, g, 10) := by unfold Lg.rst; rw [if_pos hg]
    rw [e0]
    rw [hg] at c8
    have HY := hide hY
    have HV := hide hV
    clear hY hV e0 hO hw s1 s2 s3 s4 s5 s6 s7 s8
    go_enter Tryz.func19, Tryz.ntmps19
    go_wp2
    go_ret
    exact ⟨rfl, unhide HY, ⟨v, unhide HV, .inl rfl⟩, Fr3.refl _ _ _⟩
  | false =>
    obtain ⟨nw, hnw⟩ : ∃ nw, nw = g.now + 1 := ⟨_, rfl⟩
    have g2 : (g.now : Int) + 1 = (nw : Int) := by omega
    have H1 := hide (vnext_any A V w B y z D L n v g hY hO hn hw hV hg nw (by omega))
    have e0 : g.rst D = if (g.nxt D nw).2.2 = 0 then ((g.nxt D nw).1, { (g.nxt D nw).2.1 with L := [], used := 0, count := 0 }, 0) else g.nxt D nw := by
      unfold Lg.rst
      rw [if_neg (by rw [hg]; decide), ← hnw]
    rw [e0]
    rw [hg] at c8
    have hwrap : IntKind.i64.wrap (nw : Int) = (nw : Int) := by rw [IntKind.wrap_i64]; omega
    clear e0 hY hO hw hV s1 s2 s3 s4 s5 s6 s7 s8 hnw
    generalize g.nxt D nw = R at *
    obtain ⟨D', g', c⟩ := R
    simp only at H1 ⊢
    by_cases hc : c = 0
    · subst hc
      rw [if_pos rfl]
      go_enter Tryz.func19, Tryz.ntmps19
      go_wp2_with fail
      refine (unhide H1).mono ?_
      rintro e w1 ⟨rfl, hY1, hV1, f1⟩
      obtain ⟨_, _, _, _, _, d5, d6, d7, _, fz⟩ := hV1.cells
      have z5 := fz 5
      have z6 := fz 6
      have z7 := fz 7
      have HY1 := hide hY1
      have HV1 := hide hV1
      have F1 := hide f1
      clear hY1 hV1 f1 H1 fz c3 c8
      go_wp2
      go_ret
      have hv := unhide HV1
      have hl := ((hv.lw.set 5 (.slice none 0 0)).set 6 (.int .i64 0)).set 7 (.int .i64 0)
      obtain ⟨t1, t2, t3, t4, t5, t6, t7, t8⟩ := hv.small
      exact ⟨rfl, hl.ya (unhide HY1), ⟨_, Lw.vl hv (g' := { g' with L := [], used := 0, count := 0 }) hl ⟨rfl, .inl ⟨rfl, rfl⟩⟩ ⟨t1, t2, t3, t4, t5, Nat.zero_le _, Nat.zero_le _, Nat.zero_le _⟩, .inr rfl⟩, (unhide F1).trans (hl.fr hv.bz)⟩
    · rw [if_neg hc]
      have gE : (c == 0) = false := by simpa using hc
      go_enter Tryz.func19, Tryz.ntmps19
      go_wp2_with fail
      refine (unhide H1).mono ?_
      rintro e w1 ⟨rfl, hY1, hV1, f1⟩
      have HY1 := hide hY1
      have HV1 := hide hV1
      have F1 := hide f1
      clear hY1 hV1 f1 H1 c3 c8
      go_wp2
      go_ret
      exact ⟨rfl, unhide HY1, ⟨v, unhide HV1, .inl rfl⟩, unhide F1⟩

end Go.Proofs.YtfggahkimconfaaGreatDoor

/- The walk of begun: a log with records that are sure. -/
namespace Go.Proofs.YtfggahkimconfaaGreatDoor
open Go.RowKit
set_option linter.unusedVariables false

section
variable {T : World → Prop} {LG : (Nat → Prop) → World → Nat → Nat → Nat → Lg → Prop}

theorem begun_model : ∃ D1 D2, (Dk.fresh 42).fmt (1 : Nat) (40 : Nat) = (D1, 0) ∧ D1.opn (1 : Nat) (40 : Nat) = (D2, some ⟨1, 40, 2, 1, [], 0, 0, false⟩, 0) ∧ On D2 ⟨1, 40, 2, 1, [], 0, 0, false⟩ [] ∧ HdOk D1 (1 : Nat) := by
  have q0 : quiet (Dk.fresh 42) := ⟨rfl, rfl⟩
  have s0 : (Dk.fresh 42).secs.length = 42 := by simp [Dk.fresh]
  obtain ⟨D1, e1, l1, s1, _⟩ := fmt_quiet q0 (a := 1) (n := 40) (by omega) (by rw [s0]; omega) (by rw [s0]; omega) fresh_dead
  obtain ⟨D2, e2, l2, s2, _⟩ := l1.opn (by omega)
  exact ⟨D1, D2, e1, e2, l2.on 0, l1.hd⟩

/-- Between two rounds of begun. -/
structure BR (T : World → Prop) (LG : (Nat → Prop) → World → Nat → Nat → Nat → Lg → Prop) (w : World) (p x k : Nat) (W : World) : Prop where
  ex : ∃ F D g E, St T LG w p x 42 (2 + 18 * k) F D g W ∧ On D g E ∧ g.at_ = 1 ∧ g.size = 40 ∧ g.now = 2 ∧ g.fro = 1 ∧ usedBy E ≤ 3 * k
  le : k ≤ 6
theorem BR.step {w W : World} {p x k : Nat} (S : Wals T LG) (hT : T w) (hw : 1 ≤ w.heap.size) (h : BR T LG w p x k W) (hk : k < 6) (d : List UInt8) (hd : d.length ≤ 600) :
    Calls Tryz.prog 14 #[.pointer (some ⟨x, 0, none⟩), str d] W fun e w' => (∃ c, e = .returned (.int .i64 c)) ∧ BR T LG w p x (k + 1) w' := by
  obtain ⟨F, D, g, E, s, o, h1, h2, h3, h4, hu⟩ := h.ex
  have hn : need d.length ≤ 3 := by unfold need; omega
  obtain ⟨D', e, o', _⟩ := o.append d (by omega) (by rw [h2]; omega)
  refine (s.append S hT hw (by omega) (by rw [h1, h2]; omega) d (by omega) 0 e).mono ?_
  rintro e w' ⟨rfl, ⟨F', s', _⟩, _⟩
  refine ⟨⟨_, rfl⟩, ⟨F', D', _, _, ?_, o', h1, h2, h3, h4, ?_⟩, by omega⟩
  · rw [show 2 + 18 * (k + 1) = 2 + 18 * k + 18 by omega]
    exact s'
  · rw [usedBy_snoc]
    show usedBy E + need d.length ≤ 3 * (k + 1)
    omega
theorem BR.drewN (S : Wals T LG) {w W : World} {p x k : Nat} (h : BR T LG w p x k W) (j : Nat) : BR T LG w p x k (W.drewN j) := by
  obtain ⟨F, D, g, E, s, o, r⟩ := h.ex
  exact ⟨⟨F, D, g, E, s.below S (below_drewN (Below.refl _ _) j), o, r⟩, h.le⟩

theorem BR.b {w W : World} {p x k : Nat} (h : BR T LG w p x k W) : Below w.heap.size w W := by
  obtain ⟨F, D, g, E, s, _⟩ := h.ex
  exact s.b

/-- What begun leaves. -/
structure BD (T : World → Prop) (LG : (Nat → Prop) → World → Nat → Nat → Nat → Lg → Prop) (w : World) (p x : Nat) (v : Value) (F : Nat → Prop) (D : Dk) (g : Lg) (E : List (Nat × List UInt8)) (W : World) : Prop where
  s : St T LG w p x 42 110 F D g W
  o : On D g E
  h1 : g.at_ = 1
  h2 : g.size = 40
  h3 : g.now = 2
  h4 : g.fro = 1
  h5 : g.count = g.L.length
  hu : usedBy E ≤ 18
  dry : ∀ (i : Nat) (t : Sec), D.secs[i]? = some t → t.wait = []
  own : W.ownsRow w.heap.size 9 1 v g.L.length (g.L.map str)
  far : ∀ k, v.ownBlock = some k → ¬ F k

end

end Go.Proofs.YtfggahkimconfaaGreatDoor

/- The walk of WalRooms. -/
namespace Go.Proofs.YtfggahkimconfaaGreatDoor
open Go.RowKit
set_option linter.unusedVariables false

theorem vNeed_any (w : World) (m : Nat) (hm : m ≤ 100000) : Calls Tryz.prog 54 #[.int .i64 (m : Int)] w fun e w' => e = .returned (.int .i64 (need m : Int)) ∧ w' = w := by
  obtain ⟨q, hq⟩ : ∃ q, q = (m + 230) / 231 := ⟨_, rfl⟩
  have h1 : ((m : Int) + 230) / 231 = (q : Int) := by omega
  have h1' : ((m : Int) + 230).tdiv 231 = (q : Int) := by rw [Int.tdiv_eq_ediv_of_nonneg (by omega)]; exact h1
  have h2 : (if (1 : Int) < (q : Int) then (q : Int) else 1) = (need m : Int) := by unfold need; rw [← hq]; split <;> omega
  generalize need m = k at *
  clear hq
  go_enter Tryz.func54, Tryz.ntmps54
  go_wp2
  go_ret
  exact ⟨rfl, rfl⟩

theorem usedBy_ge : ∀ (E : List (Nat × List UInt8)), E.length ≤ usedBy E
  | [] => by simp [usedBy]
  | x :: E => by
    have := usedBy_ge E
    have := need_pos x.2.length
    simp only [List.length_cons, usedBy]
    omega

section
variable {T : World → Prop} {LG : (Nat → Prop) → World → Nat → Nat → Nat → Lg → Prop}

end

end Go.Proofs.YtfggahkimconfaaGreatDoor

/- The document's own Append: what a round does. -/
namespace Go.Proofs.YtfggahkimconfaaGreatDoor
open Go.RowKit
set_option linter.unusedVariables false

theorem okd_stores : ∀ (xs : List (List UInt8)) {D : Dk} {L n : Nat} (k : Nat), Okd D L n → Okd (D.stores k xs).1 L (n + xs.length)
  | [], D, L, n, k, h => h
  | x :: xs, D, L, n, k, h => by
    rw [Dk.stores]
    split
    · exact (okd_stores xs (k + 1) (okd_st h k x)).mono (by simp; omega)
    · exact (okd_st h k x).mono (by simp)
theorem stores_append : ∀ (xs : List (List UInt8)) (D : Dk) (k : Nat) (ys : List (List UInt8)), D.stores k (xs ++ ys) = if (D.stores k xs).2 = 0 then (D.stores k xs).1.stores (k + xs.length) ys else D.stores k xs
  | [], D, k, ys => by
    rw [if_pos (show (D.stores k []).2 = 0 from rfl)]
    rfl
  | x :: xs, D, k, ys => by
    by_cases h : D.stE k 256 = 0
    · have e1 : D.stores k ((x :: xs) ++ ys) = (D.st k x).stores (k + 1) (xs ++ ys) := by rw [List.cons_append, Dk.stores, if_pos h]
      have e2 : D.stores k (x :: xs) = (D.st k x).stores (k + 1) xs := by rw [Dk.stores, if_pos h]
      rw [e1, e2, stores_append xs, List.length_cons, show k + 1 + xs.length = k + (xs.length + 1) by omega]
    · have e1 : ∀ zs, D.stores k (x :: zs) = (D.st k x, D.stE k 256) := fun zs => by rw [Dk.stores, if_neg h]
      rw [List.cons_append, e1, e1, if_neg h]
/-- The sectors that were stored behind k rounds. -/
def firstP (g : Lg) (d : List UInt8) (k : Nat) : List (List UInt8) := (List.range' 0 k).map (secOf g.now g.used (need d.length) d)
theorem firstP_len (g : Lg) (d : List UInt8) (k : Nat) : (firstP g d k).length = k := by simp [firstP]
theorem firstP_all (g : Lg) (d : List UInt8) : firstP g d (need d.length) = secsOf g.now g.used d := rfl
theorem firstP_succ (g : Lg) (d : List UInt8) (k : Nat) : firstP g d (k + 1) = firstP g d k ++ [secOf g.now g.used (need d.length) d k] := by
  unfold firstP
  rw [List.range'_concat]
  simp
theorem firstP_split (g : Lg) (d : List UInt8) (k : Nat) (hk : k < need d.length) : ∃ ys, secsOf g.now g.used d = firstP g d k ++ (secOf g.now g.used (need d.length) d k :: ys) := by
  refine ⟨(List.range' (k + 1) (need d.length - (k + 1))).map (secOf g.now g.used (need d.length) d), ?_⟩
  unfold secsOf firstP
  have : List.range' 0 (need d.length) = List.range' 0 k ++ (k :: List.range' (k + 1) (need d.length - (k + 1))) := by
    have h1 : need d.length = k + (need d.length - k) := by omega
    have h2 := List.range'_append (s := 0) (m := k) (n := need d.length - k) (step := 1)
    rw [← h1] at h2
    rw [← h2, show need d.length - k = (need d.length - (k + 1)) + 1 by omega, List.range'_succ]
    simp
  rw [this]
  simp

structure AQ (A : Nat → Prop) (w : World) (B y : Nat) (g : Lg) (D : Dk) (d : List UInt8) (k : Nat) (wr : World) : Prop where
  le : k ≤ need d.length
  ya : YA A wr B y (D.stores (g.at_ + 1 + g.used) (firstP g d k)).1
  ok : (D.stores (g.at_ + 1 + g.used) (firstP g d k)).2 = 0
  fr : Fr2 B w wr
theorem AQ.step {A : Nat → Prop} {w W : World} {B y : Nat} {g : Lg} {D : Dk} {d : List UInt8} {k L n : Nat} (h : AQ A w B y g D d k W) (hk : k < need d.length) (hO : Okd D L n) (hn : n + need d.length ≤ 1000) (hw : ∀ k, w.heap.size ≤ k → A k) (hnow : g.now < 4294967296)
    (v : Value) (base : Nat) (W' : World) (f : Below W.heap.size W W') (ho : W'.ownsRow base 5 1 v 256 (bv (secOf g.now g.used (need d.length) d k))) (a : Int) (ha : a = ((g.at_ + 1 + g.used + k : Nat) : Int)) :
    Calls Tryz.prog 26 #[.pointer (some ⟨y, 0, none⟩), .int .i64 a, v] W' fun e w' => ∃ c, e = .returned (.int .i64 c) ∧ Fr2 B w w' ∧ ((c = 0 ∧ AQ A w B y g D d (k + 1) w') ∨ (c ≠ 0 ∧ YA A w' B y (D.stores (g.at_ + 1 + g.used) (secsOf g.now g.used d)).1 ∧ (D.stores (g.at_ + 1 + g.used) (secsOf g.now g.used d)).2 = c)) := by
  subst ha
  have hOk := okd_stores (firstP g d k) (g.at_ + 1 + g.used) hO
  rw [firstP_len] at hOk
  refine (yStoreA A W' B y _ L (n + k) (h.ya.below f) hOk (by omega) (fun j hj => hw j (Nat.le_trans h.fr.below.size (Nat.le_trans f.size hj))) _ v 256 base _ (secOf_len hnow) (by omega) ho).mono ?_
  rintro e w' ⟨rfl, hY', f'⟩
  have fr' : Fr2 B w w' := h.fr.trans (fr2_below f h.ya.bw f')
  refine ⟨_, rfl, fr', ?_⟩
  have e1 : D.stores (g.at_ + 1 + g.used) (firstP g d (k + 1)) = (D.stores (g.at_ + 1 + g.used) (firstP g d k)).1.stores (g.at_ + 1 + g.used + k) [secOf g.now g.used (need d.length) d k] := by
    rw [firstP_succ, stores_append, if_pos h.ok, firstP_len]
  obtain ⟨ys, hys⟩ := firstP_split g d k hk
  have e2 : D.stores (g.at_ + 1 + g.used) (secsOf g.now g.used d) = (D.stores (g.at_ + 1 + g.used) (firstP g d k)).1.stores (g.at_ + 1 + g.used + k) (secOf g.now g.used (need d.length) d k :: ys) := by
    rw [hys, stores_append, if_pos h.ok, firstP_len]
  by_cases hc : (D.stores (g.at_ + 1 + g.used) (firstP g d k)).1.stE ((g.at_ + 1 + g.used + k : Nat) : Int) 256 = 0
  · refine .inl ⟨hc, by omega, ?_, ?_, fr'⟩
    · rw [e1, Dk.stores, if_pos hc, Dk.stores]
      exact hY'
    · rw [e1, Dk.stores, if_pos hc, Dk.stores]
  · refine .inr ⟨hc, ?_, ?_⟩
    · rw [e2, Dk.stores, if_neg hc]
      exact hY'
    · rw [e2, Dk.stores, if_neg hc]

end Go.Proofs.YtfggahkimconfaaGreatDoor

/- The document's own Append. -/
namespace Go.Proofs.YtfggahkimconfaaGreatDoor
open Go.RowKit
set_option linter.unusedVariables false

theorem YA.lt {A : Nat → Prop} {w : World} {B y : Nat} {D : Dk} (h : YA A w B y D) : YA (fun k => A k ∧ k < w.heap.size) w B y D := by
  obtain ⟨By, v, vals, hB, h, hA⟩ := h
  refine ⟨By, v, vals, hB, h, fun sv hs k hk => ⟨hA sv hs k hk, ?_⟩⟩
  obtain ⟨i, hi⟩ := List.getElem?_of_mem hs
  have hl : i < (rof D).V.length := by
    have h1 := h.own.1
    have h2 := (List.getElem?_eq_some_iff.1 hi).1
    omega
  obtain ⟨sv', e1, q, c, cur, e2, hq, _⟩ := h.each i _ (List.getElem?_eq_getElem hl)
  rw [hi] at e1
  injection e1 with e1
  subst e1
  subst e2
  obtain rfl : q = k := by simpa [Value.ownBlock] using hk
  exact lt_of_heap hq

/-- What Append leaves. -/
def VAft (A : Nat → Prop) (w : World) (B y z : Nat) (v : Value) (R : Dk × Lg × Int) (e : Ending) (w' : World) : Prop :=
  e = .returned (.int .i64 R.2.2) ∧ (∃ v', VL w' B z y v' R.2.1 ∧ YA (fun k => A k ∧ v'.ownBlock ≠ some k) w' B y R.1 ∧ (v'.ownBlock = v.ownBlock ∨ ∀ k, v'.ownBlock = some k → w.heap.size ≤ k)) ∧ Fr3 (fun k => v.ownBlock = some k) B w w'

theorem vaft_same {A : Nat → Prop} {w w' : World} {B y z : Nat} {v : Value} {D : Dk} {g : Lg} {c : Int} (hY : YA A w' B y D) (hV : VL w' B z y v g) (hA : ∀ k, v.ownBlock = some k → ¬ A k) (f : Fr3 (fun k => v.ownBlock = some k) B w w') : VAft A w B y z v (D, g, c) (.returned (.int .i64 c)) w' :=
  ⟨rfl, ⟨v, hV, hY.mono (fun k hk => ⟨hk, fun e => hA k e hk⟩), .inl rfl⟩, f⟩

set_option maxRecDepth 100000 in
set_option maxHeartbeats 1600000 in
theorem vAppend_bad (A : Nat → Prop) (w : World) (B y z : Nat) (D : Dk) (L n : Nat) (v : Value) (g : Lg) (d : List UInt8) (hY : YA A w B y D) (hV : VL w B z y v g) (hA : ∀ k, v.ownBlock = some k → ¬ A k) (hd : d.length ≤ 100000) (hb : g.gone = true ∨ 4096 < d.length ∨ g.size - 1 - g.used < need d.length) :
    Calls Tryz.prog 15 #[.pointer (some ⟨z, 0, none⟩), str d] w (VAft A w B y z v (g.apd D d)) := by
  obtain ⟨s1, s2, s3, s4, s5, s6, s7, s8⟩ := hV.small
  obtain ⟨_, _, c2, _, _, _, c6, _, c8, _⟩ := hV.cells
  have hsz : ((⟨d.toArray⟩ : ByteArray)).size = d.length := by simp [ByteArray.size]
  have HN := hide (fun (W : World) => vNeed_any W d.length hd)
  have HY := hide hY
  have HV := hide hV
  unfold str
  cases hg : g.gone with
  | true =>
    have e0 : g.apd D d = (D, g, 10) := by unfold Lg.apd; rw [if_pos hg]
    rw [e0]
    rw [hg] at c8
    clear hY hV e0 hb s1 s2 s3 s4 s5 s6 s7 s8
    generalize (⟨d.toArray⟩ : ByteArray) = st at *
    go_enter Tryz.func15, Tryz.ntmps15
    go_wp2
    go_ret
    exact vaft_same (unhide HY) (unhide HV) hA (Fr3.refl _ _ _)
  | false =>
    rw [hg] at c8
    by_cases hl : 4096 < d.length
    · have e0 : g.apd D d = (D, g, 3) := by unfold Lg.apd; rw [if_neg (by rw [hg]; decide), if_pos hl]
      rw [e0]
      have g1 : decide ((4096 : Int) < (d.length : Int)) = true := by simp; omega
      clear hY hV e0 hb s1 s2 s3 s4 s5 s6 s7 s8 hl
      generalize (⟨d.toArray⟩ : ByteArray) = st at *
      go_enter Tryz.func15, Tryz.ntmps15
      go_wp2
      go_ret
      exact vaft_same (unhide HY) (unhide HV) hA (Fr3.refl _ _ _)
    · have hf : g.size - 1 - g.used < need d.length := by
        rcases hb with h | h | h
        · rw [hg] at h; cases h
        · exact absurd h hl
        · exact h
      have e0 : g.apd D d = (D, g, 4) := by unfold Lg.apd; rw [if_neg (by rw [hg]; decide), if_neg hl, if_pos hf]
      rw [e0]
      have g1 : decide ((4096 : Int) < (d.length : Int)) = false := by simp; omega
      have g2 : decide ((g.size : Int) - 1 - (g.used : Int) < (need d.length : Int)) = true := by simp; omega
      have g3 : IntKind.i64.wrap ((g.size : Int) - 1) = (g.size : Int) - 1 := by rw [IntKind.wrap_i64]; omega
      have g4 : IntKind.i64.wrap ((g.size : Int) - 1 - (g.used : Int)) = (g.size : Int) - 1 - (g.used : Int) := by rw [IntKind.wrap_i64]; omega
      have g5 := g2
      simp only [decide_eq_true_eq] at g5
      clear hY hV e0 hb hl hf
      generalize need d.length = nd at *
      generalize (⟨d.toArray⟩ : ByteArray) = st at *
      go_enter Tryz.func15, Tryz.ntmps15
      go_wp2_with fail
      refine (unhide HN w).mono ?_
      rintro e w1 ⟨rfl, rfl⟩
      clear HN
      go_wp2
      go_quiet (fail)
      go_wp2
      go_ret
      exact vaft_same ((unhide HY).below (below_drewN (Below.refl _ _) _)) ((unhide HV).below (below_drewN (Below.refl _ _) _)) hA (Fr3.of_below (below_drewN (Below.refl _ _) _) (Nat.le_trans (unhide HV).bz (Nat.le_of_lt (unhide HV).lt)))

end Go.Proofs.YtfggahkimconfaaGreatDoor

/- The document's own Append, where there is room. -/
namespace Go.Proofs.YtfggahkimconfaaGreatDoor
open Go.RowKit
set_option linter.unusedVariables false

theorem round_facts (d : List UInt8) (k : Nat) (hk : k < need d.length) (hd : d.length ≤ 4096) : ∃ I J M : Nat, (k : Int) * 231 = (I : Int) ∧ ((k : Int) + 1) * 231 = (J : Int) ∧ (if (J : Int) < (d.length : Int) then (J : Int) else (d.length : Int)) = (M : Int) ∧ I ≤ M ∧ M ≤ d.length ∧ I ≤ 5000 ∧ J ≤ 5000 ∧ (⟨d.toArray⟩ : ByteArray).extract I M = ⟨(cutP d k).toArray⟩ := by
  have hI : k * 231 ≤ d.length := by
    cases k with
    | zero => omega
    | succ j => have := need_lt hk; omega
  refine ⟨k * 231, (k + 1) * 231, min ((k + 1) * 231) d.length, by omega, by omega, by split <;> omega, by omega, by omega, by omega, by omega, ?_⟩
  apply ByteArray.ext
  simp only [ByteArray.data_extract, cutP]
  apply Array.ext'
  simp only [Array.toList_extract, List.extract_eq_take_drop]
  rw [show (k + 1) * 231 = k * 231 + 231 by omega]
  by_cases h : k * 231 + 231 ≤ d.length
  · rw [Nat.min_eq_left h, show k * 231 + 231 - k * 231 = 231 by omega]
  · rw [Nat.min_eq_right (by omega), List.take_of_length_le (i := d.length - k * 231) (by simp), List.take_of_length_le (i := 231) (by simp; omega)]
theorem part_bytes (e K : Nat) (fin : Bool) (c : List UInt8) : (⟨(be4 K).toArray⟩ : ByteArray) ++ ⟨#[if fin = true then 1 else 0]⟩ ++ ⟨c.toArray⟩ = ⟨(partR e K fin c).data.toArray⟩ := by
  apply ByteArray.ext
  simp [partR]

theorem own_kind {w : World} {B n size k : Nat} {e e' : TypeId} {v : Value} {xs : List Value} {c : Array Value} {f : Nat × Nat} (h : w.ownsRow B e size v n xs) (hk : v.ownBlock = some k) (hc : w.heap[k]? = some (.cells c e' f)) : e = e' := by
  rcases h.2 with ⟨rfl, _⟩ | ⟨q, cap, cur, rfl, _, hq, _⟩
  · simp [Value.ownBlock] at hk
  · obtain rfl : q = k := by simpa [Value.ownBlock] using hk
    rw [hq] at hc
    injection hc with hc
    injection hc with _ hc
/-- Behind the rounds: the used sectors are written, the record is appended, the row written. -/
theorem vappend_end {A : Nat → Prop} {w wr w5 w6 : World} {B y z U : Nat} {v v' : Value} {g : Lg} {d : List UInt8} {D' : Dk} {ob : Obj} (hU : U ≤ g.size - 1) (hL : g.L.length ≤ 90000) (hg : g.gone = false) (f : Fr2 B w wr) (hv : VL wr B z y v g) (hy : YA A wr B y D') (hA : ∀ k, v.ownBlock = some k → ¬ A k) (hwA : ∀ k, w.heap.size ≤ k → A k)
    (h5 : Lw z wr w5 #[.pointer (some ⟨y, 0, none⟩), .int .i64 (g.at_ : Int), .int .i64 (g.size : Int), .int .i64 (g.now : Int), .int .i64 (g.fro : Int), v, .int .i64 (U : Int), .int .i64 (g.count : Int), .bool g.gone])
    (o6 : w6.ownsRow B 9 1 v' (g.L.length + 1) (g.L.map str ++ [str d])) (g6 : (w5.alloc ob).grownBy w6 v.ownBlock) (hat : v'.ownBlock = v.ownBlock ∨ v'.ownBlock = some (w5.alloc ob).heap.size) :
    w6.heap[z]? = w5.heap[z]? ∧ VAft A w B y z v (D', { g with used := U, L := g.L ++ [d] }, 0) (.returned (.int .i64 0)) (w6.setCell ⟨z, 5, none⟩ v') := by
  have hzv : ∀ k, v.ownBlock = some k → k ≠ z := fun k hk e => by
    subst e
    rcases hv.own.2 with ⟨rfl, _⟩ | ⟨q, cap, cur, rfl, _, hq, _⟩
    · simp [Value.ownBlock] at hk
    · obtain rfl : q = k := by simpa [Value.ownBlock] using hk
      rw [hv.blk] at hq
      injection hq with hq
      injection hq with _ hq
      exact absurd hq (by decide)
  have hs5 : wr.heap.size ≤ w5.heap.size := h5.bel.size
  have hsa : (w5.alloc ob).heap.size = w5.heap.size + 1 := by simp
  have old : ∀ k, k < w5.heap.size → v.ownBlock ≠ some k → w6.heap[k]? = w5.heap[k]? := fun k hk hne => by
    have := g6.block k (by omega) (fun e => hne e.symm)
    rw [this]
    exact heap_alloc_old w5 ob hk
  have hz5 : z < w5.heap.size := Nat.lt_of_lt_of_le hv.lt hs5
  have ez : w6.heap[z]? = w5.heap[z]? := old z hz5 (fun e => hzv z e rfl)
  have hz6 := ez.trans h5.blk
  have same : ∀ k, k < wr.heap.size → k ≠ z → v.ownBlock ≠ some k → (w6.setCell ⟨z, 5, none⟩ v').heap[k]? = wr.heap[k]? := fun k hk h1 h2 => by
    rw [heap_setCell_other w6 ⟨z, 5, none⟩ k v' h1, old k (by omega) h2]
    exact h5.oth k h1
  have hv'z : ∀ k, v'.ownBlock = some k → k ≠ z := fun k hk e => by
    rcases hat with h | h
    · exact hzv k (by rw [← h]; exact hk) e
    · rw [h] at hk
      injection hk with hk
      omega
  have hsz : wr.heap.size ≤ (w6.setCell ⟨z, 5, none⟩ v').heap.size := by
    have := g6.size
    have h2 : (w6.setCell ⟨z, 5, none⟩ v').heap.size = w6.heap.size := by simp [World.setCell]
    omega
  have hbel : Below B wr (w6.setCell ⟨z, 5, none⟩ v') := by
    have b5 : Below B wr w5 := h5.bel.mono hv.bz
    have b5a : Below B wr (w5.alloc ob) := b5.alloc (Nat.le_trans hy.bw hs5) _
    have b6 : Below B wr w6 := b5a.grown g6 (by rw [hsa]; have := hy.bw; omega) (fun x hx => (hv.own.lt x hx).1)
    exact b6.setCell (p := ⟨z, 5, none⟩) hv.bz _
  refine ⟨ez, rfl, ⟨v', ⟨?_, ?_, hv.bz, ?_⟩, ?_, ?_⟩, ?_⟩
  · have := heap_setCell_same w6 z 5 _ _ v' hz6
    rw [this]
    rfl
  · have e1 : (g.L ++ [d]).length = g.L.length + 1 := by simp
    have e2 : (g.L ++ [d]).map str = g.L.map str ++ [str d] := by simp
    show (w6.setCell ⟨z, 5, none⟩ v').ownsRow B 9 1 v' (g.L ++ [d]).length ((g.L ++ [d]).map str)
    rw [e1, e2]
    exact own_of_block o6 (fun k hk => heap_setCell_other w6 ⟨z, 5, none⟩ k v' (hv'z k hk))
  · obtain ⟨t1, t2, t3, t4, t5, t6, t7, t8⟩ := hv.small
    exact ⟨t1, t2, t3, t4, t5, hU, t7, by show (g.L ++ [d]).length ≤ 100000; simp; omega⟩
  · have h1 := hy.lt
    have h2 : YA (fun k => A k ∧ k < wr.heap.size) (w6.setCell ⟨z, 5, none⟩ v') B y D' := h1.keep hsz (fun k c e f' hk he => by
      refine same k (lt_of_heap hk) (fun ek => ?_) (fun ev => ?_)
      · subst ek
        rw [hv.blk] at hk
        injection hk with hk
        injection hk with _ hk
        subst hk
        rcases he with he | he | ⟨he, _⟩
        · exact absurd he (by decide)
        · exact absurd he (by decide)
        · exact absurd he (by decide)
      · rcases he with he | he | ⟨he, ha, _⟩
        · subst he
          exact absurd (own_kind hv.own ev hk) (by decide)
        · subst he
          exact absurd (own_kind hv.own ev hk) (by decide)
        · exact hA k ev ha)
    refine h2.mono (fun k hk => ⟨hk.1, fun e => ?_⟩)
    rcases hat with h | h
    · exact hA k (by rw [← h]; exact e) hk.1
    · rw [h] at e
      injection e with e
      have := hk.2
      omega
  · rcases hat with h | h
    · exact .inl h
    · refine .inr (fun k hk => ?_)
      rw [h] at hk
      injection hk with hk
      have := f.below.size
      omega
  · refine f.three.trans ⟨hbel, fun k c e f' hk _ _ h3 h4 => ?_⟩
    refine same k (lt_of_heap hk) (fun ek => ?_) (fun ev => ?_)
    · subst ek
      rw [hv.blk] at hk
      injection hk with hk
      injection hk with _ hk
      exact h3 hk.symm
    · exact h4 (own_kind hv.own ev hk).symm ev

end Go.Proofs.YtfggahkimconfaaGreatDoor
