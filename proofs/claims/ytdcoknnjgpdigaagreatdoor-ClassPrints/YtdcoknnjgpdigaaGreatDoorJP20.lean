/- Joined: CrC CkN ClFi CkC. -/
import Derived.Test.YtdcoknnjgpdigaaGreatDoorJP19
import Derived.Test.YtdcoknnjgpdigaaGreatDoorJP2
import Derived.Test.YtdcoknnjgpdigaaGreatDoorJP9
import Derived.Test.YtdcoknnjgpdigaaGreatDoorJP7
import Derived.Test.YtdcoknnjgpdigaaGreatDoorJP6
import Derived.Test.YtdcoknnjgpdigaaGreatDoorJP8

/- The landed class: its reader: className, readPool. -/
namespace Go.Proofs.YtdcoknnjgpdigaaGreatDoor
open Go.RowKit
set_option linter.unusedVariables false
set_option maxRecDepth 100000

theorem Rd8.drewN {C : Cr} {i : Nat} {en : Bool} {W : World} (h : Rd8 C i en W) (k : Nat) : Rd8 C i en (W.drewN k) := h.below (below_drewN (Below.refl _ _) k)
theorem FX.drewN {C : Cr} {w W : World} (f : FX C w W) (hB : C.B ≤ w.heap.size) (k : Nat) : FX C w (W.drewN k) := f.on (below_drewN (Below.refl _ _) k) hB

end Go.Proofs.YtdcoknnjgpdigaaGreatDoor

/- The landed class: namesOf. -/
namespace Go.Proofs.YtdcoknnjgpdigaaGreatDoor
open Go.RowKit Go.Maps
set_option linter.unusedVariables false
set_option maxRecDepth 100000

/-- v is the first number above i of which q holds, or 0. -/
def Fst (q : Nat → Bool) (n i v : Nat) : Prop := (v = 0 ∧ ∀ j, i < j → j < n → q j = false) ∨ (i < v ∧ v < n ∧ q v = true ∧ ∀ j, i < j → j < v → q j = false)
theorem Fst.start (q : Nat → Bool) (n : Nat) : Fst q n (n - 1) 0 := .inl ⟨rfl, fun j h1 h2 => by omega⟩
theorem Fst.hit {q : Nat → Bool} {n i : Nat} (h : q (i + 1) = true) (hn : i + 1 < n) : Fst q n i (i + 1) := .inr ⟨by omega, hn, h, fun j h1 h2 => by omega⟩
theorem Fst.miss {q : Nat → Bool} {n i v : Nat} (h : Fst q n (i + 1) v) (hq : q (i + 1) = false) : Fst q n i v := by
  rcases h with ⟨h1, h2⟩ | ⟨h1, h2, h3, h4⟩
  · refine .inl ⟨h1, fun j a b => ?_⟩
    by_cases e : j = i + 1
    · subst e; exact hq
    · exact h2 j (by omega) b
  · refine .inr ⟨by omega, h2, h3, fun j a b => ?_⟩
    by_cases e : j = i + 1
    · subst e; exact hq
    · exact h4 j (by omega) b
theorem Fst.first {q : Nat → Bool} {n v : Nat} (h : Fst q n 0 v) : ((List.range n).find? fun i => decide (1 ≤ i) && q i).getD 0 = v := by
  rcases h with ⟨rfl, h2⟩ | ⟨h1, h2, h3, h4⟩
  · by_cases e : ((List.range n).find? fun i => decide (1 ≤ i) && q i).getD 0 = 0
    · exact e
    · obtain ⟨a, b, c, _⟩ := first_some rfl e
      rw [h2 _ a b] at c
      cases c
  · exact first_eq h1 h2 h3 (fun j a b => h4 j a b)
def qUtf (l : List Ent) (s : List UInt8) (j : Nat) : Bool := decide (l[j]? = some (eUtf s))
def qCls (l : List Ent) (s : List UInt8) (j : Nat) : Bool := decide ((atE l (j : Int)).tag = 7 ∧ (atE l (atE l (j : Int)).a).text = s)
/-- The map at block m, with all entries above i in it. -/
def MapF (w : World) (m : Nat) (q : List UInt8 → Nat → Bool) (n i : Nat) : Prop := ∃ N D, N + i < n + 1 ∧ w.ownsMap Tryz.prog 9 (plainElem (H := Unit) Tryz.prog 3) m N D ∧ ∀ s, ∃ v : Nat, D.atKey (.string s) (.lit (.int .i64 0)) = .lit (.int .i64 (v : Int)) ∧ Fst (q s) n i v
theorem MapF.keep {w w' : World} {m n i : Nat} {q : List UInt8 → Nat → Bool} (h : MapF w m q n i) (e : w'.heap[m]? = w.heap[m]?) : MapF w' m q n i := by
  obtain ⟨N, D, h0, ⟨es, clock, h1, h2⟩, h3⟩ := h
  exact ⟨N, D, h0, ⟨es, clock, e.trans h1, h2⟩, h3⟩
theorem MapF.lt {w : World} {m n i : Nat} {q : List UInt8 → Nat → Bool} (h : MapF w m q n i) : m < w.heap.size := by
  obtain ⟨N, D, _, h1, _⟩ := h
  exact h1.lt
theorem MapF.skip {w : World} {m n i k : Nat} {q : List UInt8 → Nat → Bool} (h : MapF w m q n k) (hk : k = i + 1) (hq : ∀ s, q s k = false) : MapF w m q n i := by
  subst hk
  obtain ⟨N, D, h0, h1, h2⟩ := h
  exact ⟨N, D, by omega, h1, fun s => by
    obtain ⟨v, h3, h4⟩ := h2 s
    exact ⟨v, h3, h4.miss (hq s)⟩⟩
theorem MapF.put {w : World} {m n i k : Nat} {q : List UInt8 → Nat → Bool} (h : MapF w m q n k) (hk : k = i + 1) (hn : k < n) (hnn : n ≤ 100000) {s0 : List UInt8} (hs : fitS s0) (hq : ∀ s, q s k = decide (s = s0)) :
    ∃ w', (Instr.mapUpdate 109 (.map (some m)) (.string ⟨s0.toArray⟩) (.int .i64 (k : Int))).run Tryz.prog w = .ok () w' ∧ MapF w' m q n i ∧ w.grownBy w' (some m) := by
  subst hk
  obtain ⟨N, D, h0, h1, h2⟩ := h
  obtain ⟨w', hrun, own, gr⟩ := h1.update nlaw Tryz.underlying109 (by unfold maxLen; omega) (nkey hs) (plainElem_int (H := Unit) (P := Tryz.prog) Tryz.underlying3 (a := ((i + 1 : Nat) : Int)) (q := .i64) (by
    have h1 := wrap64_wf ((i + 1 : Nat) : Int)
    have h2 : wrap64 ((i + 1 : Nat) : Int) = ((i + 1 : Nat) : Int) := by unfold wrap64; omega
    rw [h2] at h1
    exact h1))
  refine ⟨w', hrun, ⟨N + 1, _, by omega, own, fun s => ?_⟩, gr⟩
  by_cases e : s = s0
  · subst e
    exact ⟨i + 1, Maps.atKey_put_same h1.isMap (k := .string s) True.intro _ _, Fst.hit (by rw [hq]; simp) hn⟩
  · obtain ⟨v, h3, h4⟩ := h2 s
    exact ⟨v, by rw [Maps.atKey_put_other (fun e2 => e (by injection e2))]; exact h3, h4.miss (by rw [hq]; simpa using e)⟩
theorem MapF.is {w : World} {m n : Nat} {q : List UInt8 → Nat → Bool} {f : List UInt8 → Nat} (h : MapF w m q n 0) (hf : ∀ s, f s = ((List.range n).find? fun i => decide (1 ≤ i) && q s i).getD 0) : MapIs w m f := by
  obtain ⟨N, D, _, h1, h2⟩ := h
  exact ⟨N, D, h1, fun s => by
    obtain ⟨v, h3, h4⟩ := h2 s
    rw [h3, hf, h4.first]⟩
theorem MapF.made (w : World) (q : List UInt8 → Nat → Bool) (n : Nat) (hn : 1 ≤ n) : MapF (w.alloc (.map #[] 0)) w.heap.size q n (n - 1) :=
  ⟨0, .map [], by omega, World.ownsMap_made (H := Unit) w Tryz.prog 9 (plainElem Tryz.prog 3), fun s => ⟨0, rfl, Fst.start _ _⟩⟩

theorem qUtf_at {l : List Ent} (hr : rightL l) {k : Nat} (hk : k < l.length) (s : List UInt8) : qUtf l s k = decide ((atE l (k : Int)).tag = 1 ∧ s = (atE l (k : Int)).text) := by
  have e : l[k]? = some (atE l (k : Int)) := by rw [atE_nat, List.getElem?_eq_getElem hk]; rfl
  unfold qUtf
  rw [Bool.eq_iff_iff, e]
  simp only [decide_eq_true_eq]
  constructor
  · intro h
    injection h with h
    rw [h]
    exact ⟨rfl, rfl⟩
  · rintro ⟨h1, rfl⟩
    have ho := right_ok hr (i := (k : Int)) (by omega)
    unfold okE at ho
    simp [h1] at ho
    exact congrArg some ho.2
/-- Names while they are made. -/
structure NmF (w : World) (B g mt mc : Nat) (p : Sl) (l : List Ent) (n i : Nat) (W : World) : Prop where
  blk : W.heap[g]? = some (.cells #[p.v, .map (some mt), .map (some mc)] 111 (0, 0))
  hg : B ≤ g
  ht : B ≤ mt
  hc : B ≤ mc
  gt : g ≠ mt
  gc : g ≠ mc
  tc : mt ≠ mc
  texts : MapF W mt (qUtf l) n i
  classes : MapF W mc (qCls l) n i
  bel : Below B w W
theorem NmF.keep {w W W' : World} {B g mt mc n i : Nat} {p : Sl} {l : List Ent} (h : NmF w B g mt mc p l n i W) (hB : B ≤ W.heap.size) (f : Below W.heap.size W W') : NmF w B g mt mc p l n i W' :=
  ⟨(f.block g (lt_of_heap h.blk)).trans h.blk, h.hg, h.ht, h.hc, h.gt, h.gc, h.tc, h.texts.keep (f.block mt h.texts.lt), h.classes.keep (f.block mc h.classes.lt), h.bel.trans (f.mono hB)⟩
theorem NmF.c1 {w W : World} {B g mt mc n i : Nat} {p : Sl} {l : List Ent} (h : NmF w B g mt mc p l n i W) : W.cell? ⟨g, 1, none⟩ = some (.map (some mt)) := by rw [cell_of_row _ _ _ _ _ _ h.blk]; rfl
theorem NmF.c2 {w W : World} {B g mt mc n i : Nat} {p : Sl} {l : List Ent} (h : NmF w B g mt mc p l n i W) : W.cell? ⟨g, 2, none⟩ = some (.map (some mc)) := by rw [cell_of_row _ _ _ _ _ _ h.blk]; rfl

set_option maxHeartbeats 6400000 in
theorem nOf_any (w : World) (p : Sl) (l : List Ent) (h : EIn w p.a p.n p.c l) (hc : checkP l = true) :
    Calls Tryz.prog 50 #[p.v] w fun e w' => ∃ g mt mc, e = .returned (.pointer (some ⟨g, 0, none⟩)) ∧ Nm w' g mt mc p l ∧ (w.heap.size ≤ g ∧ w.heap.size ≤ mt ∧ w.heap.size ≤ mc) ∧ Below w.heap.size w w' := by
  obtain ⟨a, n, c⟩ := p
  simp only at h
  obtain ⟨⟨hl1, hl2⟩, hr⟩ := checkP_right.1 hc
  have hln := h.arg.es.1
  have hmm := @run_makeMap Tryz.prog
  obtain ⟨wz, hwz⟩ : ∃ wz, wz = ((w.alloc (.map #[] 0)).alloc (.map #[] 0)).alloc (.cells #[.slice a n c, .map (some w.heap.size), .map (some (w.heap.size + 1))] 111) := ⟨_, rfl⟩
  have hz0 : NmF w w.heap.size (w.heap.size + 2) w.heap.size (w.heap.size + 1) ⟨a, n, c⟩ l n (n - 1) wz := by
    have b1 : Below w.heap.size w wz := by
      rw [hwz]
      exact (((Below.refl _ _).alloc (Nat.le_refl _) _).alloc (by simp) _).alloc (by simp; omega) _
    refine ⟨?_, by omega, by omega, by omega, by omega, by omega, by omega, ?_, ?_, b1⟩
    · rw [hwz]
      have := heap_alloc_last ((w.alloc (.map #[] 0)).alloc (.map #[] 0)) (.cells #[.slice a n c, .map (some w.heap.size), .map (some (w.heap.size + 1))] 111)
      have e : ((w.alloc (.map #[] 0)).alloc (.map #[] 0)).heap.size = w.heap.size + 2 := by simp
      rw [e] at this
      exact this
    · rw [hwz]
      exact (MapF.made w (qUtf l) n (by omega)).keep ((heap_alloc_old _ _ (by simp; omega)).trans (heap_alloc_old _ _ (by simp)))
    · rw [hwz]
      have h2 := MapF.made (w.alloc (.map #[] 0)) (qCls l) n (by omega)
      have e : (w.alloc (.map #[] 0)).heap.size = w.heap.size + 1 := by simp
      rw [e] at h2
      exact h2.keep (heap_alloc_old _ _ (by simp))
  have HW := hide hwz
  have HZ := hide hz0
  have HA := hide h
  clear hwz hz0 h
  unfold Sl.v
  simp only
  go_enter Tryz.func50, Tryz.ntmps50
  go_wp2
  rw [← unhide HW]
  generalize w.heap.size + 2 = g at *
  generalize w.heap.size + 1 = mc at *
  have e1 : (n : Int) - 1 = ((n - 1 : Nat) : Int) := by omega
  rw [e1]
  go_loopw [4] (fun i wr => ∃ k : Nat, k < n ∧ i = .int .i64 k ∧ NmF w w.heap.size g w.heap.size mc ⟨a, n, c⟩ l n k wr) (fun i _ => (intOf i).toNat)
  case atStart => exact ⟨n - 1, by omega, rfl, unhide HZ⟩
  case round =>
    obtain ⟨k, hk, rfl, hF⟩ := hrel
    have hsz : w.heap.size ≤ wr.heap.size := hF.bel.size
    by_cases hkz : k = 0
    · subst hkz
      have HN : Hid (Nm wr g w.heap.size mc ⟨a, n, c⟩ l) := ⟨hF.blk, hF.texts.is (fun s => by unfold utfN findE; rw [hln]; rfl), hF.classes.is (fun s => by unfold clsN; rw [hln]; rfl), (unhide HA).below hF.bel, hc⟩
      have HB := hide hF.bel
      have HG := hide (And.intro hF.hg (And.intro hF.ht hF.hc))
      clear hF
      go_wp2
      go_ret
      exact ⟨g, w.heap.size, mc, rfl, unhide HN, unhide HG, unhide HB⟩
    · obtain ⟨i, hi⟩ : ∃ i, k = i + 1 := ⟨k - 1, by omega⟩
      have hlt1 : (k : Int) < (n : Int) := by omega
      have hk0 : (0 : Int) ≤ (k : Int) := by omega
      have hkp : (0 : Int) < (k : Int) := by omega
      have es := (unhide HA).arg.es.below hF.bel
      obtain ⟨b, o, rfl, hE⟩ := es.2.resolve_left (by omega)
      obtain ⟨q0, q1, q2, q3, q4⟩ := ents_at hE (k := k) (by omega)
      have hq1 := fun s => qUtf_at hr (k := k) (by omega) s
      have hq2 : ∀ s, qCls l s k = decide ((atE l (k : Int)).tag = 7 ∧ s = (atE l (atE l (k : Int)).a).text) := fun s => by
        unfold qCls
        congr 1
        exact propext ⟨fun h => ⟨h.1, h.2.symm⟩, fun h => ⟨h.1, h.2.symm⟩⟩
      have hxm := List.mem_of_getElem? (es.at (k := k) (by omega))
      have hfit := (unhide HA).fit
      have hft : fitS (atE l (k : Int)).text := hfit.1 _ hxm
      have b0 : Below wr.heap.size wr (wr.alloc (.cells #[.int .i64 (atE l (k : Int)).tag, .string ⟨(atE l (k : Int)).text.toArray⟩, .int .i64 (atE l (k : Int)).n, .int .i64 (atE l (k : Int)).a, .int .i64 (atE l (k : Int)).b] 55)) := (Below.refl _ _).alloc (Nat.le_refl _) _
      have hx0 := heap_alloc_last wr (.cells #[.int .i64 (atE l (k : Int)).tag, .string ⟨(atE l (k : Int)).text.toArray⟩, .int .i64 (atE l (k : Int)).n, .int .i64 (atE l (k : Int)).a, .int .i64 (atE l (k : Int)).b] 55)
      have hF1 := hF.keep hsz b0
      have hb5 : ∀ (m : Nat) (w5 : World), w.heap.size ≤ m → (wr.alloc (.cells #[.int .i64 (atE l (k : Int)).tag, .string ⟨(atE l (k : Int)).text.toArray⟩, .int .i64 (atE l (k : Int)).n, .int .i64 (atE l (k : Int)).a, .int .i64 (atE l (k : Int)).b] 55)).drew.grownBy w5 (some m) → Below w.heap.size w w5 ∧ ∀ j, j < wr.heap.size + 1 → j ≠ m → w5.heap[j]? = (wr.alloc (.cells #[.int .i64 (atE l (k : Int)).tag, .string ⟨(atE l (k : Int)).text.toArray⟩, .int .i64 (atE l (k : Int)).n, .int .i64 (atE l (k : Int)).a, .int .i64 (atE l (k : Int)).b] 55)).heap[j]? := fun m w5 hm gr => by
        have f := hF1.bel
        refine ⟨f.trans (((Below.refl w.heap.size _).drew).grown gr f.size (fun j hj => by injection hj with hj; subst hj; exact hm)), fun j hj hjm => ?_⟩
        exact gr.block j (by simpa using hj) (fun e => hjm (by injection e))
      have hglt : g < wr.heap.size := lt_of_heap hF.blk
      have htlt : w.heap.size < wr.heap.size := hF.texts.lt
      have hclt : mc < wr.heap.size := hF.classes.lt
      have HI := hide hi
      by_cases t1 : (atE l (k : Int)).tag = 1
      · have hput := (hF1.texts.keep (w' := (wr.alloc (.cells #[.int .i64 (atE l (k : Int)).tag, .string ⟨(atE l (k : Int)).text.toArray⟩, .int .i64 (atE l (k : Int)).n, .int .i64 (atE l (k : Int)).a, .int .i64 (atE l (k : Int)).b] 55)).drew) rfl)
        obtain ⟨w5, hrun, hm5, gr⟩ := hput.put hi (by omega) (by omega) hft (fun s => by rw [hq1 s, t1]; simp)
        obtain ⟨f5, h5⟩ := hb5 _ w5 (Nat.le_refl _) gr
        have R5 : Hid (NmF w w.heap.size g w.heap.size mc ⟨some ⟨b, o, none⟩, n, c⟩ l n i w5) := by
          refine ⟨(h5 g (by omega) hF.gt).trans hF1.blk, hF.hg, hF.ht, hF.hc, hF.gt, hF.gc, hF.tc, hm5, ?_, f5⟩
          have h6 := hF1.classes.keep (w' := w5) (h5 mc (by omega) (fun e => hF.tc e.symm))
          exact h6.skip hi (fun s => by rw [hq2 s, t1]; simp)
        have z1 := hF1.c1
        have hx5 := (h5 wr.heap.size (by omega) (by omega)).trans hx0
        have z2 : w5.cell? ⟨g, 1, none⟩ = some (.map (some w.heap.size)) := (unhide R5).c1
        have z3 : w5.cell? ⟨wr.heap.size, 1, none⟩ = some (.string ⟨(atE l (k : Int)).text.toArray⟩) := by rw [cell_of_row _ _ _ _ _ _ hx5]; rfl
        clear hF hF1 hput hm5 gr h5 f5 hb5 hx5 es hE hxm hq1 hq2 b0 hi hfit hft
        generalize atE l (k : Int) = xx at *
        obtain ⟨xt, xtx, xn, xa, xb⟩ := xx
        simp only at q0 q1 q2 q3 q4 hrun z1 z3 t1 hx0
        subst t1
        generalize (⟨xtx.toArray⟩ : ByteArray) = xs at *
        clear hx0
        go_wp2
        go_region_held (fun W' => W'.cell? ⟨g, 1, none⟩ = some (.map (some w.heap.size)) ∧ W'.cell? ⟨wr.heap.size, 1, none⟩ = some (.string xs)) (go_keep) (fail)
        go_wp2
        have hi := unhide HI
        go_roundw
        case rel => exact ⟨i, by omega, by rw [hi]; go_num, unhide R5⟩
        case measure => simp [intOf]; omega
      · have t1b : ((atE l (k : Int)).tag == 1) = false := by simpa using t1
        by_cases t7 : (atE l (k : Int)).tag = 7
        · obtain ⟨j, hj, hjn⟩ : ∃ j : Nat, (atE l (k : Int)).a = (j : Int) ∧ j < n := by
            have ho := right_ok hr (i := (k : Int)) (by omega)
            unfold okE at ho
            rw [if_neg (by omega), if_neg (by omega), if_neg (by omega), if_pos t7, Bool.and_eq_true, decide_eq_true_eq] at ho
            obtain ⟨j, h1, h2, _⟩ := atE_in (l := l) (i := (atE l (k : Int)).a) (by have := ho.1; unfold tagE at this; omega)
            exact ⟨j, h1, by omega⟩
          obtain ⟨p0, p1, p2, p3, p4⟩ := ents_at hE (k := j) (by omega)
          have hft2 : fitS (atE l (j : Int)).text := hfit.1 _ (List.mem_of_getElem? (es.at (k := j) (by omega)))
          rw [hj] at hq2
          have hput := (hF1.classes.keep (w' := (wr.alloc (.cells #[.int .i64 (atE l (k : Int)).tag, .string ⟨(atE l (k : Int)).text.toArray⟩, .int .i64 (atE l (k : Int)).n, .int .i64 (atE l (k : Int)).a, .int .i64 (atE l (k : Int)).b] 55)).drew) rfl)
          obtain ⟨w5, hrun, hm5, gr⟩ := hput.put hi (by omega) (by omega) hft2 (fun s => by rw [hq2 s, t7]; simp)
          obtain ⟨f5, h5⟩ := hb5 _ w5 hF.hc gr
          have R5 : Hid (NmF w w.heap.size g w.heap.size mc ⟨some ⟨b, o, none⟩, n, c⟩ l n i w5) := by
            refine ⟨(h5 g (by omega) hF.gc).trans hF1.blk, hF.hg, hF.ht, hF.hc, hF.gt, hF.gc, hF.tc, ?_, hm5, f5⟩
            have h6 := hF1.texts.keep (w' := w5) (h5 w.heap.size (by omega) hF.tc)
            exact h6.skip hi (fun s => by rw [hq1 s, t7]; simp)
          have z1 := hF1.c2
          have hx5 := (h5 wr.heap.size (by omega) (by omega)).trans hx0
          have z2 : w5.cell? ⟨g, 2, none⟩ = some (.map (some mc)) := (unhide R5).c2
          have z3 : w5.cell? ⟨wr.heap.size, 3, none⟩ = some (.int .i64 (j : Int)) := by rw [cell_of_row _ _ _ _ _ _ hx5]; show some (Value.int _ (atE l (k : Int)).a) = _; rw [hj]
          have f6 := f5
          have z4 : w5.cell? ⟨b, o + j * 5 + 1, none⟩ = some (.string ⟨(atE l (j : Int)).text.toArray⟩) := by
            have es5 := (unhide HA).arg.es.below f6
            obtain ⟨b', o', e', hE'⟩ := es5.2.resolve_left (by omega)
            injection e' with e'
            injection e' with e1' e2'
            subst e1' e2'
            exact (ents_at hE' (k := j) (by omega)).2.1
          have hj0 : (0 : Int) ≤ (j : Int) := by omega
          have hj1 : (j : Int) < (n : Int) := by omega
          clear hF hF1 hput hm5 gr h5 f5 f6 hb5 hx5 es hE hxm hq1 hq2 b0 hi hfit hft hft2
          generalize atE l (k : Int) = xx at *
          obtain ⟨xt, xtx, xn, xa, xb⟩ := xx
          simp only at q0 q1 q2 q3 q4 hrun z1 z3 t7 hx0 hj t1b
          subst t7 hj
          generalize (⟨xtx.toArray⟩ : ByteArray) = xs at *
          generalize (⟨(atE l (j : Int)).text.toArray⟩ : ByteArray) = ys at *
          clear hx0 t1
          go_wp2
          go_region_held (fun W' => W'.cell? ⟨g, 2, none⟩ = some (.map (some mc)) ∧ W'.cell? ⟨wr.heap.size, 3, none⟩ = some (.int .i64 (j : Int)) ∧ W'.cell? ⟨b, o + j * 5 + 1, none⟩ = some (.string ys)) (go_keep) (fail)
          go_wp2
          have hi := unhide HI
          go_roundw
          case rel => exact ⟨i, by omega, by rw [hi]; go_num, unhide R5⟩
          case measure => simp [intOf]; omega
        · have t7b : ((atE l (k : Int)).tag == 7) = false := by simpa using t7
          have R5 : Hid (NmF w w.heap.size g w.heap.size mc ⟨some ⟨b, o, none⟩, n, c⟩ l n i (wr.alloc (.cells #[.int .i64 (atE l (k : Int)).tag, .string ⟨(atE l (k : Int)).text.toArray⟩, .int .i64 (atE l (k : Int)).n, .int .i64 (atE l (k : Int)).a, .int .i64 (atE l (k : Int)).b] 55))) := by
            have h1 := hF1.texts
            have h2 := hF1.classes
            exact ⟨hF1.blk, hF.hg, hF.ht, hF.hc, hF.gt, hF.gc, hF.tc, h1.skip hi (fun s => by rw [hq1 s]; simp [t1]), h2.skip hi (fun s => by rw [hq2 s]; simp [t7]), hF1.bel⟩
          clear hF hF1 hb5 es hE hxm hq1 hq2 b0 hi hfit hft hx0 t1 t7
          generalize atE l (k : Int) = xx at *
          obtain ⟨xt, xtx, xn, xa, xb⟩ := xx
          simp only at q0 q1 q2 q3 q4 t1b t7b R5
          generalize (⟨xtx.toArray⟩ : ByteArray) = xs at *
          go_wp2
          have hi := unhide HI
          go_roundw
          case rel => exact ⟨i, by omega, by rw [hi]; go_num, unhide R5⟩
          case measure => simp [intOf]; omega
end Go.Proofs.YtdcoknnjgpdigaaGreatDoor

/- The walk of ClassFinds. -/
namespace Go.Proofs.YtdcoknnjgpdigaaGreatDoor
open Go.RowKit
set_option linter.unusedVariables false
set_option maxRecDepth 100000

theorem one_local (w : World) (X : Array Value) (t : TypeId) : ∃ w0, w.alloc (.cells X t) = w0 ∧ Below w.heap.size w w0 ∧ ∀ W, Below w0.heap.size w0 W → ∀ q v, X[q]? = some v → W.cell? ⟨w.heap.size, q, none⟩ = some v := by
  refine ⟨_, rfl, (Below.refl _ _).alloc (Nat.le_refl _) _, fun W f q v h => ?_⟩
  have c0 := (f.block w.heap.size (by simp)).trans (heap_alloc_new w (.cells X t))
  unfold World.cell?
  simp [c0, h]
end Go.Proofs.YtdcoknnjgpdigaaGreatDoor

/- The landed class: isType, longsAreWide, doRise. -/
namespace Go.Proofs.YtdcoknnjgpdigaaGreatDoor
open Go.RowKit
set_option linter.unusedVariables false
set_option maxRecDepth 100000

set_option maxHeartbeats 1600000 in
theorem nType_any (w : World) (g mt mc : Nat) (p : Sl) (l : List Ent) (h : Nm w g mt mc p l) (t : Ty) (ht : TyFit t) :
    Calls Tryz.prog 137 #[.pointer (some ⟨g, 0, none⟩), .agg #[.int .i64 t.kind, .string ⟨t.name.toArray⟩]] w fun e w' => e = .returned (.bool (okT l t)) ∧ Below w.heap.size w w' := by
  obtain ⟨k, nm⟩ := t
  obtain ⟨hk, hn⟩ := ht
  simp only at hk hn
  obtain ⟨w0, e0, f0, K0⟩ := one_local w #[.int .i64 k, .string ⟨nm.toArray⟩] 143
  have q0 := K0 w0 (Below.refl _ _) 0 _ rfl
  have q1 := K0 w0 (Below.refl _ _) 1 _ rfl
  have HC := hide (nHasClass_any w0 g mt mc p l (h.below f0) nm hn)
  have E0 := hide e0
  have F0 := hide f0
  unfold fitI at hk
  by_cases h4 : k = 4
  · subst h4
    have hT : okT l ⟨4, nm⟩ = decide (clsN l nm ≠ 0) := by simp [okT]
    simp only
    rw [hT]
    generalize decide (clsN l nm ≠ 0) = dd at *
    clear h hT K0 e0 f0
    generalize (⟨nm.toArray⟩ : ByteArray) = st at *
    have e0 := unhide E0
    go_enter Tryz.func137, Tryz.ntmps137
    go_wp2_with fail
    refine (unhide HC).mono ?_
    rintro e w' ⟨rfl, rfl⟩
    clear e0
    go_wp2
    go_ret
    exact ⟨rfl, unhide F0⟩
  · have h4b : (k == 4) = false := by simpa using h4
    by_cases h1 : 0 ≤ k
    · by_cases h2 : k < 5
      · have hT : okT l ⟨k, nm⟩ = decide (nm = []) := by
          unfold okT
          simp only
          rw [if_neg h4, decide_eq_true (by omega : k = 0 ∨ k = 1 ∨ k = 2 ∨ k = 3 ∨ k = 4), Bool.true_and]
        simp only
        rw [hT]
        obtain ⟨zs, hzs⟩ : ∃ zs : ByteArray, zs = ⟨nm.toArray⟩ := ⟨_, rfl⟩
        have i1 : zs = ⟨#[]⟩ ↔ nm = [] := by rw [hzs]; simp
        have i2 : zs.toList = [] ↔ nm = [] := by rw [hzs]; simp
        rw [← hzs] at q1 E0 ⊢
        clear h hT K0 e0 f0 HC hzs
        have e0 := unhide E0
        by_cases hz : nm = []
        · have hz1 := i1.2 hz
          rw [decide_eq_true hz]
          subst hz1
          clear i1 i2 hz
          go_enter Tryz.func137, Tryz.ntmps137
          go_wp2
          go_ret
          exact ⟨rfl, unhide F0⟩
        · have hz2 : ¬ zs.toList = [] := fun h => hz (i2.1 h)
          have hz3 : (zs.toList == []) = false := by simpa using hz2
          rw [decide_eq_false hz]
          clear i1 i2 hz
          go_enter Tryz.func137, Tryz.ntmps137
          go_wp2
          go_ret
          exact ⟨by first | rfl | (simp only [hz3]; rfl) | simp [hz2, hz3], unhide F0⟩
      · have hT : okT l ⟨k, nm⟩ = false := by
          unfold okT
          rw [decide_eq_false (by simp only; omega), Bool.false_and]
        simp only
        rw [hT]
        have h2b : decide (k < 5) = false := by simpa using h2
        clear h hT K0 e0 f0 HC
        generalize (⟨nm.toArray⟩ : ByteArray) = st at *
        have e0 := unhide E0
        go_enter Tryz.func137, Tryz.ntmps137
        go_wp2
        go_ret
        exact ⟨rfl, unhide F0⟩
    · have hT : okT l ⟨k, nm⟩ = false := by
        unfold okT
        rw [decide_eq_false (by simp only; omega), Bool.false_and]
      simp only
      rw [hT]
      have h1b : decide (0 ≤ k) = false := by simpa using h1
      clear h hT K0 e0 f0 HC
      generalize (⟨nm.toArray⟩ : ByteArray) = st at *
      have e0 := unhide E0
      go_enter Tryz.func137, Tryz.ntmps137
      go_wp2
      go_ret
      exact ⟨rfl, unhide F0⟩

set_option maxHeartbeats 3200000 in
theorem longsWide_any (w : World) (s : Sl) (ts : List Ty) (hA : TysIn w s ts) :
    Calls Tryz.prog 138 #[s.v] w fun e w' => e = .returned (.bool (longsB ts)) ∧ Below w.heap.size w w' := by
  obtain ⟨a, n, c⟩ := s
  have hs := hA.small
  have hln := hA.ls.1
  simp only at hln hs
  unfold Sl.v
  simp only
  have HA := hide hA.ls
  have HF := hide hA.each
  obtain ⟨T, hT⟩ : ∃ T, T = longsB ts := ⟨_, rfl⟩
  rw [← hT]
  have HTT := hide hT
  clear hA hT
  go_enter Tryz.func138, Tryz.ntmps138
  go_wp2
  go_loopw [7] (fun i wr => ∃ k : Nat, k ≤ n ∧ i = .int .i64 k ∧ Below w.heap.size w wr ∧ ∀ (j : Nat) (t : Ty), j < k → ts[j]? = some t → t.kind = 2 → ∃ z, ts[j + 1]? = some z ∧ z.kind = 0) (fun i _ => n - (intOf i).toNat)
  case atStart => exact ⟨0, by omega, rfl, Below.refl _ _, fun j t hj => absurd hj (Nat.not_lt_zero _)⟩
  case round =>
    obtain ⟨k, hk, rfl, hR, hgo⟩ := hrel
    have HGO := hide hgo
    clear hgo
    by_cases hlt : k < n
    · have hlt1 : (k : Int) < (n : Int) := by omega
      have hk0 : (0 : Int) ≤ (k : Int) := by omega
      obtain ⟨b1, o1, h1a, h1⟩ := Ls.row (unhide HA) (w' := w) (by show n ≠ 0; omega)
      subst h1a
      obtain ⟨t, ht⟩ : ∃ t, ts[k]? = some t := ⟨_, List.getElem?_eq_getElem (by omega)⟩
      have q := h1 hR k t ht
      have c0 := q.zero
      have c1 := q 1 _ rfl
      have hfit := (unhide HF t (List.mem_of_getElem? ht)).1
      unfold fitI at hfit
      have hf1 := ((Below.refl wr.heap.size wr).alloc (Nat.le_refl _) (.cells #[.int .i64 t.kind, .string ⟨t.name.toArray⟩] 143))
      have HR1 := hide (hR.trans (hf1.mono hR.size))
      have HTk := hide ht
      by_cases h2 : t.kind = 2
      · by_cases hend : k + 1 = n
        · have hbad : Hid (T = false) := by
            show T = false
            rw [unhide HTT]
            cases hb : longsB ts with
            | false => rfl
            | true =>
              obtain ⟨z, hz, _⟩ := (longsB_at ts).1 hb k t ht h2
              have := (List.getElem?_eq_some_iff.1 hz).1
              omega
          have hend1 : (k : Int) + 1 = (n : Int) := by omega
          clear q h1 ht hR hf1
          generalize (⟨t.name.toArray⟩ : ByteArray) = s1 at *
          generalize t.kind = tk at *
          subst h2
          go_wp2
          go_ret
          exact ⟨by rw [unhide hbad]; rfl, unhide HR1⟩
        · obtain ⟨z, hz⟩ : ∃ z, ts[k + 1]? = some z := ⟨_, List.getElem?_eq_getElem (by omega)⟩
          have qz := h1 (hR.trans (hf1.mono hR.size)) (k + 1) z hz
          have z0 := qz.zero
          have hend1 : ((k : Int) + 1 == (n : Int)) = false := by simp; omega
          have hend2 : ¬ ((k : Int) + 1 = (n : Int)) := by omega
          have hk2 : (k : Int) + 1 < (n : Int) := by omega
          have hk3 : (0 : Int) ≤ (k : Int) + 1 := by omega
          have hk4 : ((k : Int) + 1).toNat = k + 1 := by omega
          have hfz := (unhide HF z (List.mem_of_getElem? hz)).1
          unfold fitI at hfz
          have hnext : Hid (z.kind = 0 → ∀ (j : Nat) (t : Ty), j < k + 1 → ts[j]? = some t → t.kind = 2 → ∃ z, ts[j + 1]? = some z ∧ z.kind = 0) := fun hz0 j t' hj ht' hk' => by
            by_cases e : j < k
            · exact unhide HGO j t' e ht' hk'
            · obtain rfl : j = k := by omega
              exact ⟨z, hz, hz0⟩
          have hbad : Hid (z.kind ≠ 0 → T = false) := fun hz0 => by
            rw [unhide HTT]
            cases hb : longsB ts with
            | false => rfl
            | true =>
              obtain ⟨z', hz', hz2⟩ := (longsB_at ts).1 hb k t ht h2
              rw [hz] at hz'
              injection hz' with hz'
              subst hz'
              exact absurd hz2 hz0
          clear q h1 ht hR hf1 qz hz
          generalize (⟨t.name.toArray⟩ : ByteArray) = s1 at *
          generalize t.kind = tk at *
          generalize z.kind = zk at *
          subst h2
          by_cases hz0 : zk = 0
          · subst hz0
            go_wp2
            go_roundw
            case rel => exact ⟨k + 1, by omega, by go_num, unhide HR1, unhide hnext (by first | rfl | trivial)⟩
            case measure => simp [intOf]; omega
          · have hz1 : (zk != 0) = true := by simpa using hz0
            have hz2 : (zk == 0) = false := by simpa using hz0
            go_wp2
            go_ret
            exact ⟨by rw [unhide hbad hz0]; rfl, unhide HR1⟩
      · have h2b : (t.kind == 2) = false := by simpa using h2
        have hnext : Hid (∀ (j : Nat) (t : Ty), j < k + 1 → ts[j]? = some t → t.kind = 2 → ∃ z, ts[j + 1]? = some z ∧ z.kind = 0) := fun j t' hj ht' hk' => by
          by_cases e : j < k
          · exact unhide HGO j t' e ht' hk'
          · obtain rfl : j = k := by omega
            rw [ht] at ht'
            injection ht' with ht'
            subst ht'
            exact absurd hk' h2
        clear q h1 ht hR hf1 h2
        generalize (⟨t.name.toArray⟩ : ByteArray) = s1 at *
        generalize t.kind = tk at *
        go_wp2
        go_roundw
        case rel => exact ⟨k + 1, by omega, by go_num, unhide HR1, unhide hnext⟩
        case measure => simp [intOf]; omega
    · obtain rfl : k = n := by omega
      have hT : T = true := by
        rw [unhide HTT, longsB_at]
        intro i t ht hk2
        exact unhide HGO i t (by have := (List.getElem?_eq_some_iff.1 ht).1; omega) ht hk2
      subst hT
      have HR := hide hR
      clear hR HTT
      go_wp2
      go_ret
      exact ⟨rfl, unhide HR⟩

set_option maxHeartbeats 3200000 in
theorem doRise_any (w : World) (s : Sl) (mr : List MpR) (hA : LIn 3 56 mpc (MpIn w) w s mr) :
    Calls Tryz.prog 117 #[s.v] w fun e w' => e = .returned (.bool (riseB (-1) (mr.map MpR.m))) ∧ Below w.heap.size w w' := by
  obtain ⟨a, n, c⟩ := s
  have hs := hA.small
  have hln := hA.ls.1
  simp only at hln hs
  unfold Sl.v
  simp only
  have HA := hide hA.ls
  have HF := hide hA.each
  obtain ⟨ms, hms⟩ : ∃ ms, ms = mr.map MpR.m := ⟨_, rfl⟩
  rw [← hms]
  have HMS := hide hms
  obtain ⟨T, hT⟩ : ∃ T, T = riseB (-1) ms := ⟨_, rfl⟩
  rw [← hT]
  have HTT := hide hT
  clear hA hT hms
  go_enter Tryz.func117, Tryz.ntmps117
  go_wp2
  go_loopw [3, 8] (fun av i wr => ∃ (k : Nat) (ah : Int), k ≤ n ∧ av = .int .i64 ah ∧ i = .int .i64 k ∧ Below w.heap.size w wr ∧ ah = ((ms.take k).map Mp.at_).getLast?.getD (-1) ∧ fitI ah ∧ riseB (-1) (ms.take k) = true) (fun _ i _ => n - (intOf i).toNat)
  case atStart => exact ⟨0, -1, by omega, rfl, rfl, Below.refl _ _, rfl, by unfold fitI; omega, rfl⟩
  case round =>
    obtain ⟨k, ah, hk, rfl, rfl, hR, hah, hfa, hri⟩ := hrel
    unfold fitI at hfa
    by_cases hlt : k < n
    · have hlt1 : (k : Int) < (n : Int) := by omega
      have hk0 : (0 : Int) ≤ (k : Int) := by omega
      obtain ⟨b1, o1, h1a, h1⟩ := Ls.row (unhide HA) (w' := w) (by show n ≠ 0; omega)
      subst h1a
      obtain ⟨m, hm⟩ : ∃ m, mr[k]? = some m := ⟨_, List.getElem?_eq_getElem (by omega)⟩
      have hmm : ms[k]? = some m.m := by rw [unhide HMS, List.getElem?_map, hm]; rfl
      have q := h1 hR k m hm
      obtain ⟨mm, ⟨la, ln, lc⟩, ⟨sa, sn, sc⟩⟩ := m
      have c0 := q.zero
      have c1 := q 1 _ rfl
      have c2 := q 2 _ rfl
      simp only [Sl.v] at c0 c1 c2
      have hfit := (unhide HF _ (List.mem_of_getElem? hm)).fit
      simp only at hfit hmm
      unfold fitI at hfit
      have hf1 := ((Below.refl wr.heap.size wr).alloc (Nat.le_refl _) (.cells #[.int .i64 mm.at_, .slice la ln lc, .slice sa sn sc] 52))
      have HR1 := hide (hR.trans (hf1.mono hR.size))
      have hstep := riseB_take ms (-1) k mm hmm hri
      rw [← hah] at hstep
      have hlast : ((ms.take (k + 1)).map Mp.at_).getLast?.getD (-1) = mm.at_ := by
        rw [List.take_add_one, hmm]
        simp
      have HS := hide hstep
      have HL := hide hlast
      clear q h1 hm hR hf1 hstep hlast hah hri hmm
      by_cases h2 : mm.at_ ≤ ah
      · have hbad : Hid (T = false) := (unhide HTT).trans (riseB_false ms (-1) (k + 1) ((unhide HS).trans (by simpa using h2)))
        generalize mm.at_ = mA at *
        go_wp2
        go_ret
        exact ⟨by rw [unhide hbad]; rfl, unhide HR1⟩
      · have hgo : Hid (riseB (-1) (ms.take (k + 1)) = true) := (unhide HS).trans (by simpa using h2)
        have h2b : decide (mm.at_ ≤ ah) = false := by simpa using h2
        generalize mm.at_ = mA at *
        go_wp2
        go_roundw
        case rel => exact ⟨k + 1, mA, by omega, rfl, by go_num, unhide HR1, (unhide HL).symm, hfit, unhide hgo⟩
        case measure => simp [intOf]; omega
    · obtain rfl : k = n := by omega
      have hT : T = true := by
        rw [unhide HTT, ← hri, List.take_of_length_le]
        rw [unhide HMS, List.length_map]
        omega
      subst hT
      have HR := hide hR
      clear hR HTT hah hri
      go_wp2
      go_ret
      exact ⟨rfl, unhide HR⟩
end Go.Proofs.YtdcoknnjgpdigaaGreatDoor
