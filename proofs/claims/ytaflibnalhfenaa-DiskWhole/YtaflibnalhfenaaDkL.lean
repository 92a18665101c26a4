/- The contracts of Barrier and Crash. -/
import Derived.Test.YtaflibnalhfenaaDkK
namespace Go.Proofs.Ytaflibnalhfenaa
open Go.RowKit
set_option linter.unusedVariables false

/-- What is known behind k rounds of a loop that settles the cached sectors. -/
structure LRel (w : World) (B p g base : Nat) (v : Value) (D : Dk) (G : Nat → Sec → Nat → Prop) (k : Nat) (wr : World) : Prop where
  ex : ∃ vs D', IsDisk wr B p g vs D' ∧ Part D G k D'
  fr : Fr B w wr
  own : wr.ownsRow base 3 1 v D.cached.length (ints D.cached)
  oth : ∀ j, j < w.heap.size → j ≠ g → wr.heap[j]? = w.heap[j]?
  siz : w.heap.size ≤ wr.heap.size

theorem LRel.next {w wr : World} {B p g base : Nat} {v : Value} {D D' : Dk} {G : Nat → Sec → Nat → Prop} {k i r : Nat} {s : Sec} {vs : Nat → Value} (h : LRel w B p g base v D G k wr) (hD : IsDisk wr B p g vs D') (hP : Part D G k D')
    (hi : D.cached[k]? = some i) (hs : D.secs[i]? = some s) (hs' : D'.secs[i]? = some s) (hr : r ≤ s.wait.length) (hG : G k s r) : LRel w B p g base v D G (k + 1) (settled wr g i (s.pick r)) := by
  obtain ⟨a, b, c, d⟩ := hD.settled i s hs' r hr
  refine ⟨⟨_, _, a, hP.next hi s hs r hr hG⟩, h.fr.trans b, ?_, fun j hj hjg => (c j (Nat.lt_of_lt_of_le hj h.siz) hjg).trans (h.oth j hj hjg), Nat.le_trans h.siz d⟩
  refine own_of_block h.own (fun q hq => c q (h.own.lt q hq).2 ?_)
  intro e; subst e
  obtain ⟨cur, hc, _⟩ := hD.row
  rcases h.own.2 with ⟨e, _⟩ | ⟨q', cap, cur', e, _, hq', _⟩
  · rw [e] at hq; simp [Value.ownBlock] at hq
  · rw [e] at hq; simp [Value.ownBlock] at hq; subst hq
    have := hc.symm.trans hq'; simp at this

set_option maxRecDepth 100000 in
set_option maxHeartbeats 400000 in
theorem Barrier_dark (w : World) (B p g : Nat) (vs : Nat → Value) (D : Dk) (hD : IsDisk w B p g vs D) (hc : D.can = false) :
    Calls Try.prog 19 #[.pointer (some ⟨p, 0, none⟩)] w fun e w' => e = .returned (.int .i64 10) ∧ IsDisk w' B p g vs D.moved ∧ Fr B w w' := by
  go_enter Try.func19, Try.ntmps19
  go_wp2_with fail
  refine (made_any w B p g vs D hD).mono ?_
  rintro e w' ⟨rfl, rfl⟩
  go_wp2_with fail
  refine (move_any _ B p g vs D hD).mono ?_
  rw [hc]
  rintro e w1 ⟨rfl, h1, h2, _⟩
  go_wp2
  go_ret
  exact ⟨rfl, h1, h2⟩

def Gbar : Nat → Sec → Nat → Prop := fun _ s r => r = s.wait.length

set_option maxHeartbeats 800000 in
set_option maxRecDepth 100000 in
theorem Barrier_ok (w : World) (B p g : Nat) (vs : Nat → Value) (D : Dk) (hD : IsDisk w B p g vs D) (hc : D.can = true) :
    Calls Try.prog 19 #[.pointer (some ⟨p, 0, none⟩)] w fun e w' => e = .returned (.int .i64 0) ∧ (∃ vs' D', IsDisk w' B p g vs' D' ∧ Part D.moved Gbar D.moved.cached.length D') ∧ Fr B w w' := by
  go_enter Try.func19, Try.ntmps19
  go_wp2_with fail
  refine (made_any w B p g vs D hD).mono ?_
  rintro e w' ⟨rfl, rfl⟩
  go_wp2_with fail
  refine (move_any _ B p g vs D hD).mono ?_
  rw [hc]
  rintro e w1 ⟨rfl, h1, f1, _⟩
  go_wp2_with fail
  refine (Cached_any _ B p g vs _ h1).mono ?_
  rintro e w2 ⟨v, rfl, hown, hb⟩
  obtain ⟨a, c, rfl, hform⟩ := own_form hown
  have hmost := h1.most
  have hle : D.moved.cached.length ≤ D.moved.secs.length := cachedTo_le _ _
  have h2 := h1.below hb
  have hR0 : LRel w2 B p g w1.heap.size (.slice a D.moved.cached.length c) D.moved Gbar 0 w2 := ⟨⟨_, _, h2, Part.start _ _⟩, Fr.refl _ _, hown, fun _ _ _ => rfl, Nat.le_refl _⟩
  have f2 : Fr B w' w2 := f1.trans (Fr.of_below hb h1.bw)
  have F2 := hide f2
  clear f2 f1 hb hown hform h1 hc hD
  go_wp2
  go_loopw [15] (fun i wr => ∃ k : Nat, k ≤ D.moved.cached.length ∧ i = .int .i64 k ∧ LRel w2 B p g w1.heap.size (.slice a D.moved.cached.length c) D.moved Gbar k wr) (fun i _ => D.moved.cached.length - (intOf i).toNat)
  case atStart => exact ⟨0, Nat.zero_le _, rfl, hR0⟩
  case round =>
    clear hR0
    obtain ⟨k, hk, rfl, hR⟩ := hrel
    by_cases hlt : k < D.moved.cached.length
    · obtain ⟨vr, D', hDr, hP⟩ := hR.ex
      obtain ⟨a', c', e', hform⟩ := own_form hR.own
      injection e' with ea el ec
      subst ea
      subst ec
      clear el
      obtain ⟨q, hq, hcell⟩ := hform (by omega)
      have hi := List.getElem?_eq_getElem hlt
      obtain ⟨s, hs, hs', hw, hpos⟩ := hP.at hi
      have hil : D.moved.cached[k] < D'.secs.length := (List.getElem?_eq_some_iff.1 hs').1
      have hcq := hcell k (.int .i64 (D.moved.cached[k] : Int)) (by simp [ints, hlt])
      have R := hR.next hDr hP hi hs hs' (Nat.le_refl s.wait.length) rfl
      have cr := hDr.cells.1
      have hsec := hDr.sec _ s hs'
      obtain ⟨cur, hcur, hcs⟩ := hDr.row
      have H1 := hide (size_any B g (D.moved.cached[k] * 257) _ _ s hsec)
      have H2 := hide (settle_any B g (D.moved.cached[k] * 257) _ _ s hsec s.wait.length (Nat.le_refl _) (there_of_block hcur _ _ (by omega)))
      subst hq
      generalize D.moved.cached[k] = ix at *
      clear hcell hform hsec hcur hcs hs hs' hi hP hDr hR hw hpos
      go_wp2_with fail
      refine (unhide H1).mono ?_
      rintro e w3 ⟨rfl, rfl⟩
      go_wp2_with fail
      refine (unhide H2).mono ?_
      rintro e w4 ⟨rfl, rfl⟩
      go_wp2
      go_roundw
      case rel => exact ⟨k + 1, by omega, by go_num, R⟩
      case measure => simp [intOf]; omega
    · have hk' : k = D.moved.cached.length := by omega
      subst hk'
      go_wp2
      go_ret
      exact ⟨rfl, hR.ex, (unhide F2).trans hR.fr⟩

/-- What a crash's number tells: which of a sector's values is written. -/
def Wi (k : Int) (n r : Nat) : Prop := r ≤ n ∧ r = among k (n + 1)
def Gcr (kept : List Int) : Nat → Sec → Nat → Prop := fun pos s r => Wi (kept.getD pos 0) s.wait.length r
theorem gcr_of {kept : List Int} {k : Nat} {s : Sec} {kv : Int} {r : Nat} (hk : kept.getD k 0 = kv) (h1 : (r : Int) < (s.wait.length : Int) + 1) (h2 : r = among kv ((s.wait.length : Int) + 1).toNat) : Gcr kept k s r := by
  unfold Gcr; rw [hk]; exact ⟨by omega, h2⟩

set_option maxHeartbeats 800000 in
set_option maxRecDepth 100000 in
theorem Crash_at (w : World) (B p g : Nat) (vs : Nat → Value) (D : Dk) (hD : IsDisk w B p g vs D) (hW : ∀ (i : Nat) (s : Sec), D.secs[i]? = some s → s.wait.length ≤ 1000000) (kept : List Int) (kb ko kc : Nat)
    (hK : ∀ j, j < kept.length → w.cell? ⟨kb, ko + j, none⟩ = some (.int .i64 (kept.getD j 0))) (hkb : kb < w.heap.size) (hkg : kb ≠ g) (hB : ∀ j, j < kept.length → -9223372036854775808 ≤ kept.getD j 0 ∧ kept.getD j 0 ≤ 9223372036854775807) :
    Calls Try.prog 26 #[.pointer (some ⟨p, 0, none⟩), .slice (some ⟨kb, ko, none⟩) kept.length kc] w fun e w' => e = .returned (.int .i64 0) ∧ (∃ (vs' : Nat → Value) (E : Dk), IsDisk w' B p g vs' { E with dark := false, trip := -1 } ∧ Part D (Gcr kept) D.cached.length E) ∧ Fr B w w' := by
  have HW := hide hW
  have HB := hide hB
  go_enter Try.func26, Try.ntmps26
  go_wp2_with fail
  refine (made_any w B p g vs D hD).mono ?_
  rintro e w' ⟨rfl, rfl⟩
  go_wp2_with fail
  refine (Cached_any _ B p g vs _ hD).mono ?_
  rintro e w2 ⟨v, rfl, hown, hb⟩
  obtain ⟨a, c, rfl, hform⟩ := own_form hown
  have hmost := hD.most
  have hle : D.cached.length ≤ D.secs.length := cachedTo_le _ _
  have h2 := hD.below hb
  have hR0 : LRel w2 B p g w'.heap.size (.slice a D.cached.length c) D (Gcr kept) 0 w2 := ⟨⟨_, _, h2, Part.start _ _⟩, Fr.refl _ _, hown, fun _ _ _ => rfl, Nat.le_refl _⟩
  have F2 := hide (Fr.of_below hb hD.bw)
  have KB : Hid (kb < w2.heap.size ∧ kb ≠ g) := ⟨Nat.lt_of_lt_of_le hkb hb.size, hkg⟩
  have HK : Hid (∀ j, j < kept.length → w2.cell? ⟨kb, ko + j, none⟩ = some (.int .i64 (kept.getD j 0))) := fun j hj => (hb.cell (p := ⟨kb, ko + j, none⟩) hkb).trans (hK j hj)
  clear hW hB hK hkb hkg
  clear hb hown hform hD h2
  go_wp2
  go_loopw [15] (fun i wr => ∃ k : Nat, k ≤ D.cached.length ∧ i = .int .i64 k ∧ LRel w2 B p g w'.heap.size (.slice a D.cached.length c) D (Gcr kept) k wr) (fun i _ => D.cached.length - (intOf i).toNat)
  case atStart => exact ⟨0, Nat.zero_le _, rfl, hR0⟩
  case round =>
    clear hR0
    obtain ⟨k, hk, rfl, hR⟩ := hrel
    by_cases hlt : k < D.cached.length
    · obtain ⟨vr, D', hDr, hP⟩ := hR.ex
      obtain ⟨a', c', e', hform⟩ := own_form hR.own
      injection e' with ea el ec
      subst ea
      subst ec
      clear el
      obtain ⟨q, hq, hcell⟩ := hform (by omega)
      have hi := List.getElem?_eq_getElem hlt
      obtain ⟨s, hs, hs', hw, hpos⟩ := hP.at hi
      have hil : D.cached[k] < D'.secs.length := (List.getElem?_eq_some_iff.1 hs').1
      have hcq := hcell k (.int .i64 (D.cached[k] : Int)) (by simp [ints, hlt])
      have R := fun (r : Nat) hr hG => hR.next hDr hP hi hs hs' (r := r) hr hG
      have RR := hide R
      have cr := hDr.cells.1
      have hsec := hDr.sec _ s hs'
      have hwl : s.wait.length ≤ 1000000 := unhide HW _ s hs
      obtain ⟨cur, hcur, hcs⟩ := hDr.row
      have H1 := hide (size_any B g (D.cached[k] * 257) _ _ s hsec)
      have H2 := hide (fun (r : Nat) (hr : r ≤ s.wait.length) => settle_any B g (D.cached[k] * 257) _ _ s hsec r hr (there_of_block hcur _ _ (by omega)))
      have hkc : k < kept.length → wr.cell? ⟨kb, ko + k, none⟩ = some (.int .i64 (kept.getD k 0)) := fun h => (World.cell?_of_block (w := w2) (hR.oth kb (unhide KB).1 (unhide KB).2)).trans (unhide HK k h)
      subst hq
      generalize D.cached[k] = ix at *
      clear R hcell hform hsec hcur hcs hs hs' hi hP hDr hR hw hpos
      by_cases hj : k < kept.length
      · have hkc' := hkc hj
        have hb1 := (unhide HB k hj).1
        have hb2 := (unhide HB k hj).2
        clear hkc
        generalize hkv : kept.getD k 0 = kv at *
        have HKV := hide hkv
        clear hkv
        go_wp2_with fail
        refine (unhide H1).mono ?_
        rintro e w3 ⟨rfl, rfl⟩
        go_wp2_with fail
        refine (within_at kv _ _ (by omega) (by omega) hb1 hb2).mono ?_
        rintro e w4 ⟨r, rfl, hr1, hr2, rfl⟩
        have R := unhide RR r (by omega) (gcr_of (unhide HKV) hr1 hr2)
        clear hr2
        go_wp2_with fail
        refine (unhide H2 r (by omega)).mono ?_
        rintro e w5 ⟨rfl, rfl⟩
        go_wp2
        go_roundw
        case rel => exact ⟨k + 1, by omega, by go_num, R⟩
        case measure => simp [intOf]; omega
      · clear hkc
        have hkv : kept.getD k 0 = 0 := by rw [List.getD_eq_getElem?_getD, List.getElem?_eq_none (by omega)]; rfl
        have HKV := hide hkv
        clear hkv
        go_wp2_with fail
        refine (unhide H1).mono ?_
        rintro e w3 ⟨rfl, rfl⟩
        go_wp2_with fail
        refine (within_at 0 _ _ (by omega) (by omega) (by omega) (by omega)).mono ?_
        rintro e w4 ⟨r, rfl, hr1, hr2, rfl⟩
        have R := unhide RR r (by omega) (gcr_of (unhide HKV) hr1 hr2)
        clear hr2
        go_wp2_with fail
        refine (unhide H2 r (by omega)).mono ?_
        rintro e w5 ⟨rfl, rfl⟩
        go_wp2
        go_roundw
        case rel => exact ⟨k + 1, by omega, by go_num, R⟩
        case measure => simp [intOf]; omega
    · have hk' : k = D.cached.length := by omega
      subst hk'
      obtain ⟨vr, D', hDr, hP⟩ := hR.ex
      obtain ⟨_, _, c2, c3, cf⟩ := hDr.cells
      have cf2 := cf 2
      have cf3 := cf 3
      clear cf
      go_wp2
      go_ret
      have e1 := hDr.set (D' := { D' with dark := false }) 3 (.bool false) rfl hDr.lo hDr.hi rfl
      have e2 := e1.set (D' := { D' with dark := false, trip := -1 }) 2 (.int .i64 (-1)) rfl (by show (-1 : Int) ≤ -1; omega) (by show (-1 : Int) ≤ _; omega) rfl
      exact ⟨rfl, ⟨vr, D', e2, hP⟩, (unhide F2).trans (hR.fr.trans ((fr_setCell hDr.bp hDr.blk (.inl rfl)).trans (fr_setCell e1.bp e1.blk (.inl rfl))))⟩

set_option maxHeartbeats 800000 in
set_option maxRecDepth 100000 in
theorem Crash_none (w : World) (B p g : Nat) (vs : Nat → Value) (D : Dk) (hD : IsDisk w B p g vs D) (hW : ∀ (i : Nat) (s : Sec), D.secs[i]? = some s → s.wait.length ≤ 1000000) (ka : Option Addr) (kc : Nat) :
    Calls Try.prog 26 #[.pointer (some ⟨p, 0, none⟩), .slice ka 0 kc] w fun e w' => e = .returned (.int .i64 0) ∧ (∃ (vs' : Nat → Value) (E : Dk), IsDisk w' B p g vs' { E with dark := false, trip := -1 } ∧ Part D (Gcr []) D.cached.length E) ∧ Fr B w w' := by
  have HW := hide hW
  go_enter Try.func26, Try.ntmps26
  go_wp2_with fail
  refine (made_any w B p g vs D hD).mono ?_
  rintro e w' ⟨rfl, rfl⟩
  go_wp2_with fail
  refine (Cached_any _ B p g vs _ hD).mono ?_
  rintro e w2 ⟨v, rfl, hown, hb⟩
  obtain ⟨a, c, rfl, hform⟩ := own_form hown
  have hmost := hD.most
  have hle : D.cached.length ≤ D.secs.length := cachedTo_le _ _
  have h2 := hD.below hb
  have hR0 : LRel w2 B p g w'.heap.size (.slice a D.cached.length c) D (Gcr []) 0 w2 := ⟨⟨_, _, h2, Part.start _ _⟩, Fr.refl _ _, hown, fun _ _ _ => rfl, Nat.le_refl _⟩
  have F2 := hide (Fr.of_below hb hD.bw)
  clear hW
  clear hb hown hform hD h2
  go_wp2
  go_loopw [15] (fun i wr => ∃ k : Nat, k ≤ D.cached.length ∧ i = .int .i64 k ∧ LRel w2 B p g w'.heap.size (.slice a D.cached.length c) D (Gcr []) k wr) (fun i _ => D.cached.length - (intOf i).toNat)
  case atStart => exact ⟨0, Nat.zero_le _, rfl, hR0⟩
  case round =>
    clear hR0
    obtain ⟨k, hk, rfl, hR⟩ := hrel
    by_cases hlt : k < D.cached.length
    · obtain ⟨vr, D', hDr, hP⟩ := hR.ex
      obtain ⟨a', c', e', hform⟩ := own_form hR.own
      injection e' with ea el ec
      subst ea
      subst ec
      clear el
      obtain ⟨q, hq, hcell⟩ := hform (by omega)
      have hi := List.getElem?_eq_getElem hlt
      obtain ⟨s, hs, hs', hw, hpos⟩ := hP.at hi
      have hil : D.cached[k] < D'.secs.length := (List.getElem?_eq_some_iff.1 hs').1
      have hcq := hcell k (.int .i64 (D.cached[k] : Int)) (by simp [ints, hlt])
      have R := fun (r : Nat) hr hG => hR.next hDr hP hi hs hs' (r := r) hr hG
      have RR := hide R
      have cr := hDr.cells.1
      have hsec := hDr.sec _ s hs'
      have hwl : s.wait.length ≤ 1000000 := unhide HW _ s hs
      obtain ⟨cur, hcur, hcs⟩ := hDr.row
      have H1 := hide (size_any B g (D.cached[k] * 257) _ _ s hsec)
      have H2 := hide (fun (r : Nat) (hr : r ≤ s.wait.length) => settle_any B g (D.cached[k] * 257) _ _ s hsec r hr (there_of_block hcur _ _ (by omega)))
      subst hq
      generalize D.cached[k] = ix at *
      clear R hcell hform hsec hcur hcs hs hs' hi hP hDr hR hw hpos
      · have hge : ¬ ((k : Int) < 0) := by omega
        go_wp2_with fail
        refine (unhide H1).mono ?_
        rintro e w3 ⟨rfl, rfl⟩
        go_wp2_with fail
        refine (within_at 0 _ _ (by omega) (by omega) (by omega) (by omega)).mono ?_
        rintro e w4 ⟨r, rfl, hr1, hr2, rfl⟩
        have R := unhide RR r (by omega) (gcr_of rfl hr1 hr2)
        clear hr2
        go_wp2_with fail
        refine (unhide H2 r (by omega)).mono ?_
        rintro e w5 ⟨rfl, rfl⟩
        go_wp2
        go_roundw
        case rel => exact ⟨k + 1, by omega, by go_num, R⟩
        case measure => simp [intOf]; omega
    · have hk' : k = D.cached.length := by omega
      subst hk'
      obtain ⟨vr, D', hDr, hP⟩ := hR.ex
      obtain ⟨_, _, c2, c3, cf⟩ := hDr.cells
      have cf2 := cf 2
      have cf3 := cf 3
      clear cf
      go_wp2
      go_ret
      have e1 := hDr.set (D' := { D' with dark := false }) 3 (.bool false) rfl hDr.lo hDr.hi rfl
      have e2 := e1.set (D' := { D' with dark := false, trip := -1 }) 2 (.int .i64 (-1)) rfl (by show (-1 : Int) ≤ -1; omega) (by show (-1 : Int) ≤ _; omega) rfl
      exact ⟨rfl, ⟨vr, D', e2, hP⟩, (unhide F2).trans (hR.fr.trans ((fr_setCell hDr.bp hDr.blk (.inl rfl)).trans (fr_setCell e1.bp e1.blk (.inl rfl))))⟩

end Go.Proofs.Ytaflibnalhfenaa
