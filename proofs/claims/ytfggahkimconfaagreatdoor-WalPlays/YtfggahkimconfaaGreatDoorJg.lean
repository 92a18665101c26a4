/- Joined: WlP8 WlP9 WlP10 WlP11 WlP12. -/
import Derived.Test.YtfggahkimconfaaGreatDoorJf
import Derived.Deep.AppendLies

/- The landed log in memory; made, refusal, fail, enter; Sure, Epoch, Free, Records. -/
namespace Go.Proofs.YtfggahkimconfaaGreatDoor
open Go.RowKit
set_option linter.unusedVariables false

def smallG (g : Lg) : Prop := g.at_ ≤ 4096 ∧ 2 ≤ g.size ∧ g.size ≤ 4096 ∧ g.now < 4294967296 ∧ g.fro < 4294967296 ∧ g.used ≤ g.size - 1 ∧ g.count ≤ g.L.length ∧ g.L.length ≤ g.used
def plC (p : Nat) (v : Value) (g : Lg) : Array Value := #[.pointer (some ⟨p, 0, none⟩), .int .i64 (g.at_ : Int), .int .i64 (g.size : Int), .int .i64 (g.now : Int), .int .i64 (g.fro : Int), v, .int .i64 (g.count : Int), .int .i64 (g.used : Int), .bool g.gone]
/-- The landed log, at block x, on the disk at block p; its records in the row v. -/
structure PL (w : World) (B x p : Nat) (v : Value) (g : Lg) : Prop where
  blk : w.heap[x]? = some (.cells (plC p v g) 81 (0, 0))
  own : w.ownsRow B 9 1 v g.L.length (g.L.map str)
  bx : B ≤ x
  small : smallG g
def LG (F : Nat → Prop) (w : World) (B x p : Nat) (g : Lg) : Prop := ∃ v, PL w B x p v g ∧ ∀ k, F k ↔ (k = x ∨ v.ownBlock = some k)
theorem own_blk {w : World} {B n size k : Nat} {e : TypeId} {v : Value} {xs : List Value} (h : w.ownsRow B e size v n xs) (hk : v.ownBlock = some k) : B ≤ k ∧ ∃ c, w.heap[k]? = some (.cells c e (0, 0)) := by
  rcases h.2 with ⟨rfl, _⟩ | ⟨q, cap, cur, rfl, hb, hq, _⟩
  · simp [Value.ownBlock] at hk
  · obtain rfl : q = k := by simpa [Value.ownBlock] using hk
    exact ⟨hb, _, hq⟩
theorem lg_kinds {F : Nat → Prop} {w : World} {B x p : Nat} {g : Lg} (h : LG F w B x p g) : ∀ k, F k → B ≤ k ∧ ∃ c e f, w.heap[k]? = some (.cells c e f) ∧ e ≠ 64 ∧ e ≠ 90 ∧ e ≠ 95 := by
  obtain ⟨v, hP, hF⟩ := h
  intro k hk
  rcases (hF k).1 hk with rfl | hv
  · exact ⟨hP.bx, _, _, _, hP.blk, by decide, by decide, by decide⟩
  · obtain ⟨hb, c, hc⟩ := own_blk hP.own hv
    exact ⟨hb, _, _, _, hc, by decide, by decide, by decide⟩
theorem PL.keep {w w' : World} {B x p : Nat} {v : Value} {g : Lg} (h : PL w B x p v g) (hx : w'.heap[x]? = w.heap[x]?) (hv : ∀ k, v.ownBlock = some k → w'.heap[k]? = w.heap[k]?) : PL w' B x p v g :=
  ⟨hx.trans h.blk, own_of_block h.own hv, h.bx, h.small⟩
theorem lg_keep {F : Nat → Prop} {w w' : World} {B x p : Nat} {g : Lg} (h : LG F w B x p g) (hk : ∀ k, F k → w'.heap[k]? = w.heap[k]?) (hs : w.heap.size ≤ w'.heap.size) : LG F w' B x p g := by
  obtain ⟨v, hP, hF⟩ := h
  exact ⟨v, hP.keep (hk x ((hF x).2 (.inl rfl))) (fun k h => hk k ((hF k).2 (.inr h))), hF⟩
theorem PL.fr {w w' : World} {B B' x p : Nat} {v : Value} {g : Lg} (h : PL w B x p v g) (f : Fr B' w w') : PL w' B x p v g :=
  h.keep (f.other _ _ _ _ h.blk (by decide) (by decide) (by decide)) (fun k hk => by
    obtain ⟨_, c, hc⟩ := own_blk h.own hk
    exact f.other _ _ _ _ hc (by decide) (by decide) (by decide))
theorem PL.below {w w' : World} {B x p : Nat} {v : Value} {g : Lg} (h : PL w B x p v g) (f : Below w.heap.size w w') : PL w' B x p v g := h.fr (Fr.of_below (B := 0) f (Nat.zero_le _))
theorem PL.cells {w : World} {B x p : Nat} {v : Value} {g : Lg} (h : PL w B x p v g) :
    w.cell? ⟨x, 0, none⟩ = some (.pointer (some ⟨p, 0, none⟩)) ∧ w.cell? ⟨x, 1, none⟩ = some (.int .i64 (g.at_ : Int)) ∧ w.cell? ⟨x, 2, none⟩ = some (.int .i64 (g.size : Int)) ∧ w.cell? ⟨x, 3, none⟩ = some (.int .i64 (g.now : Int)) ∧ w.cell? ⟨x, 4, none⟩ = some (.int .i64 (g.fro : Int)) ∧
    w.cell? ⟨x, 5, none⟩ = some v ∧ w.cell? ⟨x, 6, none⟩ = some (.int .i64 (g.count : Int)) ∧ w.cell? ⟨x, 7, none⟩ = some (.int .i64 (g.used : Int)) ∧ w.cell? ⟨x, 8, none⟩ = some (.bool g.gone) ∧ ∀ j, w.frozen? ⟨x, j, none⟩ = false :=
  ⟨by rw [cell_of_row _ _ _ _ _ _ h.blk]; rfl, by rw [cell_of_row _ _ _ _ _ _ h.blk]; rfl, by rw [cell_of_row _ _ _ _ _ _ h.blk]; rfl, by rw [cell_of_row _ _ _ _ _ _ h.blk]; rfl, by rw [cell_of_row _ _ _ _ _ _ h.blk]; rfl, by rw [cell_of_row _ _ _ _ _ _ h.blk]; rfl, by rw [cell_of_row _ _ _ _ _ _ h.blk]; rfl, by rw [cell_of_row _ _ _ _ _ _ h.blk]; rfl, by rw [cell_of_row _ _ _ _ _ _ h.blk]; rfl, fun j => frozen_of_row _ _ _ _ _ h.blk⟩
/-- W is w, the log's own block written anew. -/
structure Pw (x : Nat) (w W : World) (cs : Array Value) : Prop where
  was : ∃ c, w.heap[x]? = some (.cells c 81 (0, 0))
  blk : W.heap[x]? = some (.cells cs 81 (0, 0))
  oth : ∀ k, k ≠ x → W.heap[k]? = w.heap[k]?
  bel : Below x w W
theorem PL.pw {w : World} {B x p : Nat} {v : Value} {g : Lg} (h : PL w B x p v g) : Pw x w w (plC p v g) := ⟨⟨_, h.blk⟩, h.blk, fun _ _ => rfl, Below.refl _ _⟩
theorem Pw.set {x : Nat} {w W : World} {cs : Array Value} (h : Pw x w W cs) (j : Nat) (u : Value) : Pw x w (W.setCell ⟨x, j, none⟩ u) (cs.setIfInBounds j u) :=
  ⟨h.was, heap_setCell_same W x j cs _ u h.blk, fun k hk => (heap_setCell_other W ⟨x, j, none⟩ k u hk).trans (h.oth k hk), h.bel.setCell (p := ⟨x, j, none⟩) (Nat.le_refl _) u⟩
theorem Pw.own {w W : World} {B n size : Nat} {x : Nat} {e : TypeId} {v : Value} {xs : List Value} {cs : Array Value} (k : Pw x w W cs) (h : w.ownsRow B e size v n xs) (he : e ≠ 81) : W.ownsRow B e size v n xs :=
  own_of_block h (fun q hq => by
    obtain ⟨_, c, hc⟩ := own_blk h hq
    refine k.oth _ (fun e' => ?_)
    subst e'
    obtain ⟨c', hc'⟩ := k.was
    rw [hc] at hc'
    injection hc' with hc'
    injection hc' with _ hc'
    exact he hc')
theorem Pw.pl {w W : World} {B x p : Nat} {v : Value} {g g' : Lg} (h : PL w B x p v g) (k : Pw x w W (plC p v g')) (hL : g'.L = g.L) (hs : smallG g') : PL W B x p v g' :=
  ⟨k.blk, by rw [hL]; exact k.own h.own (by decide), h.bx, hs⟩
theorem Pw.x {w W : World} {B x p : Nat} {D : Dk} {cs : Array Value} (k : Pw x w W cs) (h : X w B p D) : X W B p D := by
  obtain ⟨g, vs, h⟩ := h
  obtain ⟨c', hc'⟩ := k.was
  obtain ⟨cur, hg, _⟩ := h.row
  have ne : ∀ (q : Nat) (c : Array Value) (e : TypeId) (f : Nat × Nat), w.heap[q]? = some (.cells c e f) → e ≠ 81 → W.heap[q]? = w.heap[q]? := fun q c e f hq he => k.oth q (fun e' => by
    subst e'
    rw [hq] at hc'
    injection hc' with hc'
    injection hc' with _ hc'
    exact he hc')
  refine ⟨g, vs, h.keep (ne _ _ _ _ h.blk (by decide)) (ne _ _ _ _ hg (by decide)) k.bel.size (fun i q hi hq => ?_)⟩
  obtain ⟨c, hc⟩ := (h.sec i _ (List.getElem?_eq_getElem hi)).blk hq
  exact ne _ _ _ _ hc (by decide)
theorem Pw.frl {F : Nat → Prop} {B x : Nat} {w W : World} {cs : Array Value} (h : Pw x w W cs) (hB : B ≤ x) (hF : F x) : FrL F B w W :=
  ⟨h.bel.mono hB, fun k c e f hk _ _ _ hn => h.oth k (fun e' => by subst e'; exact hn hF)⟩
theorem FrL.trans {F : Nat → Prop} {B : Nat} {a b c : World} (h : FrL F B a b) (k : FrL F B b c) : FrL F B a c :=
  ⟨h.below.trans k.below, fun i cs e f hi h1 h2 h3 h4 => by
    have e1 := h.other i cs e f hi h1 h2 h3 h4
    rw [← e1]
    exact k.other i cs e f (e1.trans hi) h1 h2 h3 h4⟩
theorem FrL.of_below {F : Nat → Prop} {B : Nat} {w w' : World} (h : Below w.heap.size w w') (hB : B ≤ w.heap.size) : FrL F B w w' := (Fr.of_below h hB).l

set_option maxHeartbeats 800000 in
theorem lmade_any (w : World) (x p : Nat) (h : w.cell? ⟨x, 0, none⟩ = some (.pointer (some ⟨p, 0, none⟩))) :
    Calls Tryz.prog 66 #[.pointer (some ⟨x, 0, none⟩)] w fun e w' => e = .returned (.bool true) ∧ w' = w := by
  go_enter Tryz.func66, Tryz.ntmps66
  go_wp2
  go_ret
  exact ⟨rfl, rfl⟩
set_option maxHeartbeats 800000 in
theorem lrefusal_any (w : World) (x p : Nat) (gone : Bool) (h : w.cell? ⟨x, 0, none⟩ = some (.pointer (some ⟨p, 0, none⟩))) (h8 : w.cell? ⟨x, 8, none⟩ = some (.bool gone)) :
    Calls Tryz.prog 49 #[.pointer (some ⟨x, 0, none⟩)] w fun e w' => e = .returned (.int .i64 (if gone = true then 10 else 0)) ∧ w' = w := by
  have H1 := hide (lmade_any w x p h)
  cases gone
  all_goals
    go_enter Tryz.func49, Tryz.ntmps49
    go_wp2_with fail
    refine (unhide H1).mono ?_
    rintro e w1 ⟨rfl, rfl⟩
    go_wp2
    go_ret
    exact ⟨rfl, rfl⟩
set_option maxHeartbeats 800000 in
theorem lfail_any (w : World) (x : Nat) (E : Int) (u : Value) (h8 : w.cell? ⟨x, 8, none⟩ = some u) (hu : u.oneCell' = true) (hf : w.frozen? ⟨x, 8, none⟩ = false) :
    Calls Tryz.prog 52 #[.pointer (some ⟨x, 0, none⟩), .int .i64 E] w fun e w' => e = .returned (.int .i64 E) ∧ w' = w.setCell ⟨x, 8, none⟩ (.bool (E == 10)) := by
  go_enter Tryz.func52, Tryz.ntmps52
  go_wp2
  go_ret
  exact ⟨rfl, rfl⟩
set_option maxHeartbeats 800000 in
theorem lSure_any (w : World) (B x p : Nat) (v : Value) (g : Lg) (h : PL w B x p v g) :
    Calls Tryz.prog 29 #[.pointer (some ⟨x, 0, none⟩)] w fun e w' => e = .returned (.int .i64 (g.count : Int)) ∧ w' = w := by
  obtain ⟨c0, c1, c2, c3, c4, c5, c6, c7, c8, _⟩ := h.cells
  have H1 := hide (lmade_any w x p c0)
  clear h
  go_enter Tryz.func29, Tryz.ntmps29
  go_wp2_with fail
  refine (unhide H1).mono ?_
  rintro e w1 ⟨rfl, rfl⟩
  go_wp2
  go_ret
  exact ⟨rfl, rfl⟩
set_option maxHeartbeats 800000 in
theorem lEpoch_any (w : World) (B x p : Nat) (v : Value) (g : Lg) (h : PL w B x p v g) :
    Calls Tryz.prog 31 #[.pointer (some ⟨x, 0, none⟩)] w fun e w' => e = .returned (.int .i64 (g.now : Int)) ∧ w' = w := by
  obtain ⟨c0, c1, c2, c3, c4, c5, c6, c7, c8, _⟩ := h.cells
  have H1 := hide (lmade_any w x p c0)
  clear h
  go_enter Tryz.func31, Tryz.ntmps31
  go_wp2_with fail
  refine (unhide H1).mono ?_
  rintro e w1 ⟨rfl, rfl⟩
  go_wp2
  go_ret
  exact ⟨rfl, rfl⟩
set_option maxHeartbeats 1600000 in
theorem lFree_any (w : World) (B x p : Nat) (v : Value) (g : Lg) (h : PL w B x p v g) :
    Calls Tryz.prog 30 #[.pointer (some ⟨x, 0, none⟩)] w fun e w' => e = .returned (.int .i64 ((g.size : Int) - 1 - (g.used : Int))) ∧ Below w.heap.size w w' := by
  obtain ⟨c0, c1, c2, c3, c4, c5, c6, c7, c8, _⟩ := h.cells
  obtain ⟨s1, s2, s3, s4, s5, s6, s7, s8⟩ := h.small
  have H1 := hide (lmade_any w x p c0)
  have KC : Hid (∀ W, Below w.heap.size w W → W.cell? ⟨x, 0, none⟩ = some (.pointer (some ⟨p, 0, none⟩)) ∧ W.cell? ⟨x, 1, none⟩ = some (.int .i64 (g.at_ : Int)) ∧ W.cell? ⟨x, 2, none⟩ = some (.int .i64 (g.size : Int)) ∧ W.cell? ⟨x, 7, none⟩ = some (.int .i64 (g.used : Int))) := fun W f => by
    obtain ⟨d0, d1, d2, _, _, _, _, d7, _⟩ := (h.below f).cells
    exact ⟨d0, d1, d2, d7⟩
  have H2 : Hid (∀ W, Below w.heap.size w W → Calls Tryz.prog 68 #[.agg #[.pointer (some ⟨p, 0, none⟩), .int .i64 (g.at_ : Int), .int .i64 (g.size : Int)]] W fun e w' => e = .returned (.int .i64 ((g.size : Int) - 1)) ∧ Below w.heap.size w w') := fun W f => by
    refine (lroom_any W _ (g.at_ : Int) (g.size : Int) (by omega) rfl).mono ?_
    rintro e w' ⟨rfl, f'⟩
    exact ⟨rfl, f.trans (f'.mono f.size)⟩
  have x1 : IntKind.i64.wrap ((g.size : Int) - 1 - (g.used : Int)) = (g.size : Int) - 1 - (g.used : Int) := by rw [IntKind.wrap_i64]; omega
  have x2 : -9223372036854775808 ≤ (g.size : Int) - 1 - (g.used : Int) := by omega
  have x3 : (g.size : Int) - 1 - (g.used : Int) ≤ 9223372036854775807 := by omega
  clear h c3 c4 c5 c6 c8
  go_enter Tryz.func30, Tryz.ntmps30
  go_wp2_with fail
  refine (unhide H1).mono ?_
  rintro e w1 ⟨rfl, rfl⟩
  go_upto_region 3 with fail
  go_region_held_law (fun W => W.cell? ⟨x, 0, none⟩ = some (.pointer (some ⟨p, 0, none⟩)) ∧ W.cell? ⟨x, 1, none⟩ = some (.int .i64 (g.at_ : Int)) ∧ W.cell? ⟨x, 2, none⟩ = some (.int .i64 (g.size : Int)) ∧ W.cell? ⟨x, 7, none⟩ = some (.int .i64 (g.used : Int))) (go_keep)
    (first
      | (go_at_call 68; refine (unhide H2 _ (by repeat (first | exact Below.refl _ _ | refine Below.drew ?_))).mono ?_; rintro e w2 ⟨rfl, f2⟩; obtain ⟨k20, k21, k22, k23⟩ := unhide KC w2 f2))
  all_goals
    have F2 := hide f2
    clear k20 k21 k22 k23 f2 H2 KC c0 c1 c2 c7
    go_wp2
    go_ret
    exact ⟨rfl, by repeat (first | exact unhide F2 | refine Below.drew ?_)⟩

end Go.Proofs.YtfggahkimconfaaGreatDoor

/- The landed log: Records, enter, Flush, Reset. -/
namespace Go.Proofs.YtfggahkimconfaaGreatDoor
open Go.RowKit
set_option linter.unusedVariables false

set_option maxHeartbeats 1600000 in
theorem lRecords_any (w : World) (B x p : Nat) (v : Value) (g : Lg) (h : PL w B x p v g) :
    Calls Tryz.prog 28 #[.pointer (some ⟨x, 0, none⟩)] w fun e w' => ∃ v, e = .returned v ∧ w'.ownsRow w.heap.size 9 1 v g.L.length (g.L.map str) ∧ Below w.heap.size w w' := by
  obtain ⟨c0, c1, c2, c3, c4, c5, c6, c7, c8, _⟩ := h.cells
  obtain ⟨s1, s2, s3, s4, s5, s6, s7, s8⟩ := h.small
  have H1 := hide (lmade_any w x p c0)
  have H2 : Hid (Calls Tryz.prog 67 #[v] w fun e w' => ∃ v, e = .returned v ∧ w'.ownsRow w.heap.size 9 1 v g.L.length (g.L.map str) ∧ Below w.heap.size w w') := by
    have ho := h.own
    rcases h.own.2 with ⟨rfl, h0⟩ | ⟨q, cap, cur, rfl, hb, hq, hn, hm, hs, ht⟩
    · refine Calls.mono (slClone_none 0 0 w) ?_
      rintro e w' ⟨rfl, rfl⟩
      exact ⟨_, rfl, ⟨by simp, .inl ⟨rfl, h0⟩⟩, Below.refl _ _⟩
    · refine Calls.mono (slClone_some q 0 g.L.length cap (g.L.map fun d => (⟨d.toArray⟩ : ByteArray)) w (by simp) (by omega) ?_) ?_
      · intro j hj
        rw [List.length_map] at hj
        have := ho.cells (g := q) rfl j (str g.L[j]) (by simp [hj])
        rw [Addr.add_mid] at this
        rw [this, List.getD_eq_getElem?_getD, List.getElem?_map, List.getElem?_eq_getElem hj]
        rfl
      · rintro e w' ⟨v', rfl, o', _, f'⟩
        refine ⟨v', rfl, ?_, f'⟩
        rw [List.take_of_length_le (by simp), List.map_map] at o'
        exact o'
  clear h c1 c2 c3 c4 c6 c7 c8
  obtain ⟨PO, hPO⟩ : ∃ PO : Ending → World → Prop, PO = fun e w' => ∃ v, e = .returned v ∧ w'.ownsRow w.heap.size 9 1 v g.L.length (g.L.map str) ∧ Below w.heap.size w w' := ⟨_, rfl⟩
  rw [← hPO]
  have HPO : Hid (∀ u W, W.ownsRow w.heap.size 9 1 u g.L.length (g.L.map str) → Below w.heap.size w W → PO (.returned u) W) := fun u W ho f => by
    rw [hPO]
    exact ⟨u, rfl, ho, f⟩
  clear hPO
  go_enter Tryz.func28, Tryz.ntmps28
  go_wp2_with fail
  refine (unhide H1).mono ?_
  rintro e w1 ⟨rfl, rfl⟩
  go_wp2_with fail
  refine (unhide H2).mono ?_
  rintro e w2 ⟨u, rfl, ho, f2⟩
  have HF := hide (unhide HPO u w2 ho f2)
  clear ho f2 H2 HPO c0 c5
  go_wp2
  exact unhide HF

theorem stE_cases {D : Dk} {a : Nat} (h : a < D.secs.length) : D.stE a 256 = 0 ∨ D.stE a 256 = 10 := by
  unfold Dk.stE
  rw [if_pos (by omega)]
  split
  · exact .inl rfl
  · exact .inr rfl
theorem baE_cases (D : Dk) : D.baE = 0 ∨ D.baE = 10 := by
  unfold Dk.baE
  split
  · exact .inl rfl
  · exact .inr rfl
theorem sb_cases {D : Dk} {a : Nat} (h : a < D.secs.length) (x : List UInt8) : (D.sb a x).2 = 0 ∨ (D.sb a x).2 = 10 := by
  unfold Dk.sb
  split
  · exact baE_cases _
  · exact stE_cases h

set_option maxRecDepth 100000 in
set_option maxHeartbeats 3200000 in
theorem lenter_any (w : World) (B x p : Nat) (v : Value) (D : Dk) (g : Lg) (L n : Nat) (hT : Tab w) (h1 : 1 ≤ B) (hP : PL w B x p v g) (hX : X w B p D) (hO : Okd D L n) (hn : n ≤ 900) (hat : g.at_ < L) (hg : g.gone = false) (fro : Nat) (hf : ¬ 4294967295 ≤ g.now → fro < 4294967296) :
    Calls Tryz.prog 41 #[.pointer (some ⟨x, 0, none⟩), .agg #[.int .i64 ((g.now : Int) + 1), .int .i64 (fro : Int)]] w fun e w' => e = .returned (.int .i64 (g.nxt D fro).2.2) ∧ X w' B p (g.nxt D fro).1 ∧ PL w' B x p v (g.nxt D fro).2.1 ∧ FrL (fun k => k = x) B w w' := by
  have hBw := hX.bw
  have hsmall := hP.small
  obtain ⟨s1, s2, s3, s4, s5, s6, s7, s8⟩ := hP.small
  have hlx := lt_of_heap hP.blk
  have fb : Below w.heap.size w (w.alloc (.cells #[.int .i64 ((g.now : Int) + 1), .int .i64 (fro : Int)] 75)) := (Below.refl _ _).alloc (Nat.le_refl _) _
  have hC := heap_alloc_last w (.cells #[.int .i64 ((g.now : Int) + 1), .int .i64 (fro : Int)] 75)
  have hzb : w.heap.size < (w.alloc (.cells #[.int .i64 ((g.now : Int) + 1), .int .i64 (fro : Int)] 75)).heap.size := by simp
  generalize hwb : w.alloc (.cells #[.int .i64 ((g.now : Int) + 1), .int .i64 (fro : Int)] 75) = wb at *
  have HR : ∃ (D' : Dk) (g' : Lg) (c : Int) (dead : Bool), g.nxt D fro = (D', g', c) ∧ g'.L = g.L ∧ smallG g' ∧ ((c = 0 ∧ plC p v g' = ((plC p v g).setIfInBounds 3 (.int .i64 ((g.now : Int) + 1))).setIfInBounds 4 (.int .i64 (fro : Int))) ∨ (c ≠ 0 ∧ plC p v g' = (plC p v g).setIfInBounds 8 (.bool (c == 10)))) ∧
      Hid (∀ W, Below wb.heap.size wb W → Calls Tryz.prog 35 #[.agg #[.pointer (some ⟨p, 0, none⟩), .int .i64 (g.at_ : Int), .int .i64 (g.size : Int)], .agg #[.int .i64 ((g.now : Int) + 1), .int .i64 (fro : Int)]] W fun e w' => e = .returned (.int .i64 c) ∧ X w' B p D' ∧ Fr B wb w') := by
    unfold Lg.nxt
    by_cases hm : 4294967295 ≤ g.now
    · rw [if_pos hm]
      refine ⟨D, g, 4, false, rfl, rfl, hsmall, .inr ⟨by decide, ?_⟩, fun W f => ?_⟩
      · unfold plC
        rw [hg]
        rfl
      · refine (lrenew_full W p (g.at_ : Int) (g.size : Int) ((g.now : Int) + 1) (fro : Int) (by omega)).mono ?_
        rintro e w' ⟨rfl, f'⟩
        exact ⟨rfl, (hX.below fb).below (f.trans (f'.mono f.size)), Fr.of_below (f.trans (f'.mono f.size)) (by omega)⟩
    · rw [if_neg hm]
      have H1 := fun W (f : Below wb.heap.size wb W) => lrenew_any W B p D L n (tab_below hT (fb.trans (f.mono fb.size)) (by omega)) h1 ((hX.below fb).below f) hO hn g.at_ (by omega) (g.size : Int) (g.now + 1) fro (by omega) (hf hm)
      have H2 : Hid (∀ W, Below wb.heap.size wb W → Calls Tryz.prog 35 #[.agg #[.pointer (some ⟨p, 0, none⟩), .int .i64 (g.at_ : Int), .int .i64 (g.size : Int)], .agg #[.int .i64 ((g.now : Int) + 1), .int .i64 (fro : Int)]] W fun e w' => e = .returned (.int .i64 (D.sb g.at_ (secB (headR (g.now + 1) fro))).2) ∧ X w' B p (D.sb g.at_ (secB (headR (g.now + 1) fro))).1 ∧ Fr B wb w') := fun W f => by
        refine Calls.mono (H1 W f) ?_
        rintro e w' ⟨rfl, x', f'⟩
        exact ⟨rfl, x', (Fr.of_below f (by omega)).trans f'⟩
      rcases sb_cases (show g.at_ < D.secs.length by rw [hO.len]; exact hat) (secB (headR (g.now + 1) fro)) with h0 | h0
      · rw [h0] at H2
        rw [if_pos h0]
        exact ⟨_, _, 0, false, rfl, rfl, ⟨s1, s2, s3, by show g.now + 1 < 4294967296; omega, hf hm, s6, s7, s8⟩, .inl ⟨rfl, rfl⟩, H2⟩
      · have hne : ¬ (D.sb g.at_ (secB (headR (g.now + 1) fro))).2 = 0 := by rw [h0]; decide
        rw [if_neg hne]
        rw [h0] at H2 ⊢
        exact ⟨_, _, 10, true, rfl, rfl, ⟨s1, s2, s3, s4, s5, s6, s7, s8⟩, .inr ⟨by decide, rfl⟩, H2⟩
  obtain ⟨D', g', c, dead, hnx, hL, hsm, hc, H1⟩ := HR
  rw [hnx]
  have hPb := hP.below fb
  have c3 : wb.cell? ⟨w.heap.size, 0, none⟩ = some (.int .i64 ((g.now : Int) + 1)) := by rw [cell_of_row _ _ _ _ _ _ hC]; rfl
  have c4 : wb.cell? ⟨w.heap.size, 1, none⟩ = some (.int .i64 (fro : Int)) := by rw [cell_of_row _ _ _ _ _ _ hC]; rfl
  obtain ⟨c0, c1, c2, _⟩ := hPb.cells
  have KF : Hid (∀ W, Fr B wb W → PL W B x p v g ∧ W.cell? ⟨x, 0, none⟩ = some (.pointer (some ⟨p, 0, none⟩)) ∧ W.cell? ⟨x, 1, none⟩ = some (.int .i64 (g.at_ : Int)) ∧ W.cell? ⟨x, 2, none⟩ = some (.int .i64 (g.size : Int)) ∧ W.cell? ⟨w.heap.size, 0, none⟩ = some (.int .i64 ((g.now : Int) + 1)) ∧ W.cell? ⟨w.heap.size, 1, none⟩ = some (.int .i64 (fro : Int))) := fun W f => by
    obtain ⟨d0, d1, d2, _⟩ := (hPb.fr f).cells
    have a2 := (f.other _ _ _ _ hC (by decide) (by decide) (by decide)).trans hC
    exact ⟨hPb.fr f, d0, d1, d2, by rw [cell_of_row _ _ _ _ _ _ a2]; rfl, by rw [cell_of_row _ _ _ _ _ _ a2]; rfl⟩
  have HW := hide hwb
  have FB := hide fb
  have HC := hide hc
  clear hP hX hO hT fb hC hwb hPb hnx hsmall hc
  generalize hnow1 : (g.now : Int) + 1 = nw1 at *
  obtain ⟨PO, hPO⟩ : ∃ PO : Ending → World → Prop, PO = fun e w' => e = .returned (.int .i64 c) ∧ X w' B p D' ∧ PL w' B x p v g' ∧ FrL (fun k => k = x) B w w' := ⟨_, rfl⟩
  have HPO : Hid (∀ W, X W B p D' → PL W B x p v g' → FrL (fun k => k = x) B w W → PO (.returned (.int .i64 c)) W) := fun W a b d => by rw [hPO]; exact ⟨rfl, a, b, d⟩
  show Calls _ _ _ _ fun e w' => e = .returned (.int .i64 c) ∧ X w' B p D' ∧ PL w' B x p v g' ∧ FrL (fun k => k = x) B w w'
  rw [← hPO]
  clear hPO
  go_enter Tryz.func41, Tryz.ntmps41
  go_upto_region 1 with fail
  rw [unhide HW]
  go_region_held_law (fun W => W.cell? ⟨x, 0, none⟩ = some (.pointer (some ⟨p, 0, none⟩)) ∧ W.cell? ⟨x, 1, none⟩ = some (.int .i64 (g.at_ : Int)) ∧ W.cell? ⟨x, 2, none⟩ = some (.int .i64 (g.size : Int)) ∧ W.cell? ⟨w.heap.size, 0, none⟩ = some (.int .i64 nw1) ∧ W.cell? ⟨w.heap.size, 1, none⟩ = some (.int .i64 (fro : Int))) (go_keep)
    (first
      | (go_at_call 35; refine (unhide H1 _ (by repeat (first | exact Below.refl _ _ | refine Below.drew ?_))).mono ?_; rintro e w2 ⟨rfl, x2, f2⟩; obtain ⟨p2, k20, k21, k22, k23, k24⟩ := unhide KF w2 f2))
  have X2 := hide x2
  have P2 := hide p2
  have F2 := hide ((Fr.of_below (unhide FB) hBw).trans f2)
  have hlx2 : x ≠ w.heap.size := by omega
  obtain ⟨_, _, _, d3, d4, _, _, _, d8, hfz⟩ := p2.cells
  have f3 := hfz 3
  have f4 := hfz 4
  have f8 := hfz 8
  clear x2 p2 f2 H1 KF c0 c1 c2 c3 c4 k20 k21 k22 hfz
  rcases unhide HC with ⟨rfl, hpl⟩ | ⟨hc0, hpl⟩
  · have HPL := hide hpl
    clear HC hpl
    go_wp2
    have hw := ((unhide P2).pw.set 3 (.int .i64 nw1)).set 4 (.int .i64 (fro : Int))
    rw [← unhide HPL] at hw
    exact unhide HPO _ (hw.x (unhide X2)) (hw.pl (unhide P2) hL hsm) ((unhide F2).l.trans (hw.frl (unhide P2).bx rfl))
  · have gc : (c != 0) = true := by simpa using hc0
    have HPL := hide hpl
    have H3 := hide (lfail_any w2 x c _ d8 rfl f8)
    clear HC hpl hc0
    go_wp2_with fail
    refine (unhide H3).mono ?_
    rintro e w3 ⟨rfl, rfl⟩
    clear H3
    have hw := (unhide P2).pw.set 8 (.bool (c == 10))
    rw [← unhide HPL] at hw
    have HF := hide (unhide HPO _ (hw.x (unhide X2)) (hw.pl (unhide P2) hL hsm) ((unhide F2).l.trans (hw.frl (unhide P2).bx rfl)))
    clear hw HPO HPL P2 X2 F2
    go_wp2
    exact unhide HF

end Go.Proofs.YtfggahkimconfaaGreatDoor

/- The landed log: Flush, Reset. -/
namespace Go.Proofs.YtfggahkimconfaaGreatDoor
open Go.RowKit
set_option linter.unusedVariables false

set_option maxRecDepth 100000 in
set_option maxHeartbeats 3200000 in
theorem lFlush_any (w : World) (B x p : Nat) (v : Value) (D : Dk) (g : Lg) (hP : PL w B x p v g) (hX : X w B p D) :
    Calls Tryz.prog 16 #[.pointer (some ⟨x, 0, none⟩)] w fun e w' => e = .returned (.int .i64 (g.flu D).2.2) ∧ X w' B p (g.flu D).1 ∧ PL w' B x p v (g.flu D).2.1 ∧ FrL (fun k => k = x) B w w' := by
  obtain ⟨va, vc, hva, _⟩ := own_form hP.own
  subst hva
  obtain ⟨c0, c1, c2, c3, c4, c5, c6, c7, c8, hfz⟩ := hP.cells
  have H1 := hide (lrefusal_any w x p g.gone c0 c8)
  obtain ⟨s1, s2, s3, s4, s5, s6, s7, s8⟩ := hP.small
  by_cases hg : g.gone = true
  · have e0 : g.flu D = (D, g, 10) := by unfold Lg.flu; rw [if_pos hg]
    rw [e0]
    rw [hg] at H1
    have HP := hide hP
    have HX := hide hX
    clear hP hX e0
    go_enter Tryz.func16, Tryz.ntmps16
    go_wp2_with fail
    refine (unhide H1).mono ?_
    rintro e w1 ⟨rfl, rfl⟩
    clear H1 c0 c1 c2 c3 c4 c5 c6 c7 c8
    go_wp2
    go_ret
    exact ⟨rfl, unhide HX, unhide HP, (Fr.refl _ _).l⟩
  · have hg' : g.gone = false := by simpa using hg
    rw [hg'] at H1
    have H2 := hide (xBarrier w B p D hX)
    have HP := hide hP
    have hflu : g.flu D = if D.baE = 0 then (D.ba, { g with count := g.L.length }, 0) else (D.ba, { g with gone := true }, D.baE) := by unfold Lg.flu; rw [if_neg hg]
    rw [hflu]
    clear hP hX hfz hflu c1 c2 c3 c4 c6 c7 c8
    rcases baE_cases D with h0 | h0
    · rw [if_pos h0]
      rw [h0] at H2
      clear h0
      generalize D.ba = D2 at *
      go_enter Tryz.func16, Tryz.ntmps16
      go_wp2_with fail
      refine (unhide H1).mono ?_
      rintro e w1 ⟨rfl, rfl⟩
      go_wp2_with fail
      refine (unhide H2).mono ?_
      rintro e w2 ⟨rfl, x2, f2⟩
      have p2 := (unhide HP).fr f2
      have X2 := hide x2
      have F2 := hide f2
      have P2 := hide p2
      clear x2 f2 H1 H2 c0 c5
      obtain ⟨_, _, _, _, _, c5, c6, _, _, hfz⟩ := p2.cells
      have f6 := hfz 6
      clear p2 hfz
      go_wp2
      go_ret
      have hw := (unhide P2).pw.set 6 (.int .i64 (g.L.length : Int))
      exact ⟨rfl, hw.x (unhide X2), Pw.pl (g' := { g with count := g.L.length }) (unhide P2) hw rfl ⟨s1, s2, s3, s4, s5, s6, Nat.le_refl _, s8⟩, (unhide F2).l.trans (hw.frl (unhide P2).bx rfl)⟩
    · rw [if_neg (by rw [h0]; decide), h0]
      rw [h0] at H2
      clear h0
      generalize D.ba = D2 at *
      go_enter Tryz.func16, Tryz.ntmps16
      go_wp2_with fail
      refine (unhide H1).mono ?_
      rintro e w1 ⟨rfl, rfl⟩
      go_wp2_with fail
      refine (unhide H2).mono ?_
      rintro e w2 ⟨rfl, x2, f2⟩
      have p2 := (unhide HP).fr f2
      have X2 := hide x2
      have F2 := hide f2
      have P2 := hide p2
      clear x2 f2 H1 H2 c0 c5
      obtain ⟨_, _, _, _, _, _, _, _, c8, hfz⟩ := p2.cells
      have H3 := hide (lfail_any w2 x 10 _ c8 rfl (hfz 8))
      clear p2 hfz c8
      go_wp2_with fail
      refine (unhide H3).mono ?_
      rintro e w3 ⟨rfl, rfl⟩
      clear H3
      have hw := (unhide P2).pw.set 8 (.bool true)
      have HF : Hid (X (w2.setCell ⟨x, 8, none⟩ (.bool ((10 : Int) == 10))) B p D2 ∧ PL (w2.setCell ⟨x, 8, none⟩ (.bool ((10 : Int) == 10))) B x p (.slice va g.L.length vc) { g with gone := true } ∧ FrL (fun k => k = x) B w1 (w2.setCell ⟨x, 8, none⟩ (.bool ((10 : Int) == 10)))) :=
        ⟨hw.x (unhide X2), Pw.pl (g' := { g with gone := true }) (unhide P2) hw rfl ⟨s1, s2, s3, s4, s5, s6, s7, s8⟩, (unhide F2).l.trans (hw.frl (unhide P2).bx rfl)⟩
      clear hw P2 X2 F2
      generalize w2.setCell ⟨x, 8, none⟩ (.bool ((10 : Int) == 10)) = w4 at *
      go_wp2
      go_ret
      exact ⟨rfl, unhide HF⟩

set_option maxRecDepth 100000 in
set_option maxHeartbeats 3200000 in
theorem lReset_any (w : World) (B x p : Nat) (v : Value) (D : Dk) (g : Lg) (L n : Nat) (hT : Tab w) (h1 : 1 ≤ B) (hP : PL w B x p v g) (hX : X w B p D) (hO : Okd D L n) (hn : n ≤ 900) (hat : g.at_ < L) :
    Calls Tryz.prog 18 #[.pointer (some ⟨x, 0, none⟩)] w fun e w' => e = .returned (.int .i64 (g.rst D).2.2) ∧ X w' B p (g.rst D).1 ∧ (∃ v', PL w' B x p v' (g.rst D).2.1 ∧ ∀ k, v'.ownBlock = some k → v.ownBlock = some k) ∧ FrL (fun k => k = x) B w w' := by
  obtain ⟨va, vc, hva, _⟩ := own_form hP.own
  subst hva
  obtain ⟨c0, c1, c2, c3, c4, c5, c6, c7, c8, hfz⟩ := hP.cells
  have H1 := hide (lrefusal_any w x p g.gone c0 c8)
  obtain ⟨s1, s2, s3, s4, s5, s6, s7, s8⟩ := hP.small
  by_cases hg : g.gone = true
  · have e0 : g.rst D = (D, g, 10) := by unfold Lg.rst; rw [if_pos hg]
    rw [e0]
    rw [hg] at H1
    have HP := hide hP
    have HX := hide hX
    clear hP hX e0 hO
    go_enter Tryz.func18, Tryz.ntmps18
    go_wp2_with fail
    refine (unhide H1).mono ?_
    rintro e w1 ⟨rfl, rfl⟩
    clear H1 c0 c1 c2 c3 c4 c5 c6 c7 c8
    go_wp2
    go_ret
    exact ⟨rfl, unhide HX, ⟨_, unhide HP, fun k h => h⟩, (Fr.refl _ _).l⟩
  · have hg' : g.gone = false := by simpa using hg
    rw [hg'] at H1
    have hrst : g.rst D = if (g.nxt D (g.now + 1)).2.2 = 0 then ((g.nxt D (g.now + 1)).1, { (g.nxt D (g.now + 1)).2.1 with L := [], used := 0, count := 0 }, 0) else g.nxt D (g.now + 1) := by unfold Lg.rst; rw [if_neg hg]
    rw [hrst]
    have H2 := hide (lenter_any w B x p _ D g L n hT h1 hP hX hO hn hat hg' (g.now + 1) (fun h => by omega))
    have hnn : (((g.now + 1 : Nat) : Int)) = (g.now : Int) + 1 := by omega
    rw [hnn] at H2
    obtain ⟨D2, g2, c, hr⟩ : ∃ D2 g2 c, g.nxt D (g.now + 1) = (D2, g2, c) := ⟨_, _, _, rfl⟩
    rw [hr] at H2 ⊢
    have gT : (g.now : Int) ≤ 4294967296 := by omega
    clear hP hX hO c1 c2 c4 c5 c6 c7 c8 hfz hrst hT hnn hr
    by_cases hc : c = 0
    · subst hc
      go_enter Tryz.func18, Tryz.ntmps18
      go_wp2_with fail
      refine (unhide H1).mono ?_
      rintro e w1 ⟨rfl, rfl⟩
      go_wp2_with fail
      refine (unhide H2).mono ?_
      rintro e w2 ⟨rfl, x2, p2, f2⟩
      have X2 := hide x2
      have F2 := hide f2
      have P2 := hide p2
      clear x2 f2 H1 H2 c0 c3
      obtain ⟨_, _, _, _, _, c5, c6, c7, _, hfz⟩ := p2.cells
      have f5 := hfz 5
      have f6 := hfz 6
      have f7 := hfz 7
      clear p2 hfz
      go_wp2
      go_ret
      have hw := (((unhide P2).pw.set 5 (.slice none 0 0)).set 6 (.int .i64 0)).set 7 (.int .i64 0)
      obtain ⟨t1, t2, t3, t4, t5, t6, t7, t8⟩ := (unhide P2).small
      have hlast : PL (((w2.setCell ⟨x, 5, none⟩ (.slice none 0 0)).setCell ⟨x, 6, none⟩ (.int .i64 0)).setCell ⟨x, 7, none⟩ (.int .i64 0)) B x p (.slice none 0 0) { g2 with L := [], used := 0, count := 0 } :=
        ⟨hw.blk, ⟨rfl, .inl ⟨rfl, rfl⟩⟩, (unhide P2).bx, ⟨t1, t2, t3, t4, t5, by show 0 ≤ g2.size - 1; omega, Nat.le_refl _, Nat.le_refl _⟩⟩
      exact ⟨rfl, hw.x (unhide X2), ⟨_, hlast, fun k h => by simp [Value.ownBlock] at h⟩, (unhide F2).trans (hw.frl (unhide P2).bx rfl)⟩
    · rw [if_neg hc]
      have gc : (c != 0) = true := by simpa using hc
      clear hc
      go_enter Tryz.func18, Tryz.ntmps18
      go_wp2_with fail
      refine (unhide H1).mono ?_
      rintro e w1 ⟨rfl, rfl⟩
      go_wp2_with fail
      refine (unhide H2).mono ?_
      rintro e w2 ⟨rfl, x2, p2, f2⟩
      have HF := hide (show X w2 B p D2 ∧ (∃ v', PL w2 B x p v' g2 ∧ ∀ k, v'.ownBlock = some k → (Value.slice va g.L.length vc).ownBlock = some k) ∧ FrL (fun k => k = x) B w1 w2 from ⟨x2, ⟨_, p2, fun k h => h⟩, f2⟩)
      clear x2 p2 f2 H2 H1 c0 c3
      go_wp2
      go_ret
      exact ⟨rfl, unhide HF⟩

end Go.Proofs.YtfggahkimconfaaGreatDoor

/- The landed log: the values of a record's sectors: cut. -/
namespace Go.Proofs.YtfggahkimconfaaGreatDoor
open Go.RowKit
set_option linter.unusedVariables false

theorem infoQ : (Tryz.prog.info? 43).map (fun i => (i.zero, i.size, i.bytes)) = some (some (.slice none 0 0), 1, 24) := by kernel_rfl
/-- Rows of two types lie apart. -/
theorem rows_apart2 {W : World} {b1 b2 n1 n2 s1 s2 : Nat} {e1 e2 : TypeId} {v : Value} {q m c : Nat} {xs ys : List Value} (h1 : W.ownsRow b1 e1 s1 v n1 xs) (h2 : W.ownsRow b2 e2 s2 (.slice (some ⟨q, 0, none⟩) m c) n2 ys) (he : e1 ≠ e2) : some q ≠ v.ownBlock := by
  intro e'
  obtain ⟨_, c1, hc1⟩ := own_blk h1 e'.symm
  obtain ⟨_, c2, hc2⟩ := own_blk h2 rfl
  rw [hc1] at hc2
  injection hc2 with hc2
  injection hc2 with _ hc2
  exact he hc2
/-- Between two rounds of cut. -/
structure CI (w : World) (S : List (List UInt8)) (k : Nat) (u : Value) (W : World) : Prop where
  le : k ≤ S.length
  fr : Below w.heap.size w W
  ex : ∃ qs : List Value, W.ownsRow w.heap.size 43 1 u k qs ∧ ∀ (j : Nat) (x : List UInt8), j < k → S[j]? = some x → x.length = 256 ∧ ∃ q c, qs[j]? = some (.slice (some ⟨q, 0, none⟩) 256 c) ∧ W.ownsRow w.heap.size 5 1 (.slice (some ⟨q, 0, none⟩) 256 c) 256 (bv x)
theorem CI.next {w W W2 w3 : World} {S : List (List UInt8)} {k : Nat} {u v3 : Value} {qs : List Value} {x : List UInt8} {q c : Nat} (hS : S[k]? = some x) (hx : x.length = 256) (hfr : Below w.heap.size w W) (hown : W.ownsRow w.heap.size 43 1 u k qs)
    (hall : ∀ (j : Nat) (x : List UInt8), j < k → S[j]? = some x → x.length = 256 ∧ ∃ q c, qs[j]? = some (.slice (some ⟨q, 0, none⟩) 256 c) ∧ W.ownsRow w.heap.size 5 1 (.slice (some ⟨q, 0, none⟩) 256 c) 256 (bv x))
    (f : Below W.heap.size W W2) (o1 : W2.ownsRow w.heap.size 5 1 (.slice (some ⟨q, 0, none⟩) 256 c) 256 (bv x)) (g3 : W2.grownBy w3 u.ownBlock)
    (o3 : w3.ownsRow w.heap.size 43 1 v3 (k + 1) (qs ++ [.slice (some ⟨q, 0, none⟩) 256 c])) : CI w S (k + 1) v3 w3 := by
  have hv2 := gen_below hown f
  have hlen : qs.length = k := by have := hown.1; omega
  have hf : Below w.heap.size w W2 := hfr.trans (f.mono hfr.size)
  refine ⟨(List.getElem?_eq_some_iff.1 hS).1, hf.grown g3 hf.size (fun x hx => (hv2.lt x hx).1), _, o3, fun j y hj hy => ?_⟩
  by_cases hjk : j < k
  · obtain ⟨p1, q', c'', p2, p3⟩ := hall j y hjk hy
    refine ⟨p1, q', c'', by rw [List.getElem?_append_left (by omega)]; exact p2, ?_⟩
    have p4 := gen_below p3 f
    exact p4.kept g3 (.inr (rows_apart2 hv2 p4 (by decide)))
  · obtain rfl : j = k := by omega
    rw [hS] at hy
    cases hy
    exact ⟨hx, q, c, by rw [List.getElem?_append_right (by omega), hlen]; simp, o1.kept g3 (.inr (rows_apart2 hv2 o1 (by decide)))⟩
theorem CI.vals {w W : World} {S : List (List UInt8)} {k : Nat} {u : Value} (h : CI w S k u W) (hk : k = S.length) (h0 : 0 < k) : ∃ b c, u = .slice (some ⟨b, 0, none⟩) k c ∧ Vals W b 0 S := by
  obtain ⟨qs, ho, hall⟩ := h.ex
  obtain ⟨b, c, rfl, _, _⟩ := ho.form h0
  obtain ⟨_, cb, hb⟩ := own_blk ho rfl
  refine ⟨b, c, rfl, ⟨⟨_, _, hb⟩, fun j x hx => ?_⟩⟩
  have hj := (List.getElem?_eq_some_iff.1 hx).1
  obtain ⟨h1, q, c', h2, h3⟩ := hall j x (by omega) hx
  obtain ⟨_, cq, hq⟩ := own_blk h3 rfl
  have hc := ho.cells (g := b) rfl j _ h2
  rw [Addr.add_mid] at hc
  exact ⟨h1, q, c', _, _, hc, hq, own_bytes h3⟩

theorem cut_bytes (d : List UInt8) (k : Nat) (hk : k < need d.length) : ∃ I J M : Nat, I = k * 231 ∧ J = k * 231 + 231 ∧ M = min J d.length ∧ I ≤ M ∧ M ≤ d.length ∧ (⟨d.toArray⟩ : ByteArray).extract I M = ⟨(cutP d k).toArray⟩ ∧ (M = d.length ↔ k + 1 = need d.length) := by
  have hI : k * 231 ≤ d.length := by
    cases k with
    | zero => omega
    | succ j => have := need_lt hk; omega
  refine ⟨k * 231, k * 231 + 231, min (k * 231 + 231) d.length, rfl, rfl, rfl, by omega, by omega, ?_, ?_⟩
  · apply ByteArray.ext
    simp only [ByteArray.data_extract, cutP]
    apply Array.ext'
    simp only [Array.toList_extract, List.extract_eq_take_drop]
    by_cases h : k * 231 + 231 ≤ d.length
    · rw [Nat.min_eq_left h, show k * 231 + 231 - k * 231 = 231 by omega]
    · rw [Nat.min_eq_right (by omega), List.take_of_length_le (i := d.length - k * 231) (by simp), List.take_of_length_le (i := 231) (by simp; omega)]
  · unfold need at *
    omega

set_option maxRecDepth 100000 in
set_option maxHeartbeats 3200000 in
theorem lcut_any (w : World) (B x p : Nat) (v : Value) (g : Lg) (d : List UInt8) (hT : Tab w) (h1 : 1 ≤ w.heap.size) (hP : PL w B x p v g) (hd : d.length ≤ 4096) :
    Calls Tryz.prog 50 #[.pointer (some ⟨x, 0, none⟩), str d] w fun e w' => ∃ b c, e = .returned (.slice (some ⟨b, 0, none⟩) (need d.length) c) ∧ Vals w' b 0 (secsOf g.now g.used d) ∧ Below w.heap.size w w' := by
  obtain ⟨s1, s2, s3, s4, s5, s6, s7, s8⟩ := hP.small
  have H1 := hide (lsectorsOf_any w d hd)
  have hsz : (⟨d.toArray⟩ : ByteArray).size = d.length := by simp [ByteArray.size]
  have hlS : (secsOf g.now g.used d).length = need d.length := secsOf_len _ _ _
  have hSk : Hid (∀ k, k < need d.length → (secsOf g.now g.used d)[k]? = some (secB (partR g.now (g.used + k) (decide (k + 1 = need d.length)) (cutP d k))) ∧ (secB (partR g.now (g.used + k) (decide (k + 1 = need d.length)) (cutP d k))).length = 256) := fun k hk => by
    refine ⟨?_, secB_len (part_fit s4 (cut_len d k))⟩
    unfold secsOf
    rw [List.getElem?_map, List.getElem?_range' hk, Nat.zero_add, Nat.one_mul]
    rfl
  have HCB := hide (fun k hk => cut_bytes d k hk)
  have hN := need_pos d.length
  have hN2 := need_le hd
  have HLP : Hid (∀ k, k < need d.length → ∀ W, Below w.heap.size w W → Calls Tryz.prog 83 #[.agg #[.int .i64 (g.now : Int), .int .i64 ((g.used + k : Nat) : Int), .bool (decide (k + 1 = need d.length)), .string ⟨(cutP d k).toArray⟩]] W fun x w' => ∃ q c, x = .returned (.slice (some ⟨q, 0, none⟩) 256 c) ∧ w'.ownsRow W.heap.size 5 1 (.slice (some ⟨q, 0, none⟩) 256 c) 256 (bv (secB (partR g.now (g.used + k) (decide (k + 1 = need d.length)) (cutP d k)))) ∧ Below W.heap.size W w') := fun k hk W f => by
    refine (lpval_any W g.now (g.used + k) (decide (k + 1 = need d.length)) (cutP d k) (tab_below hT f h1) (by have := f.size; omega) s4 (by omega) (cut_len d k)).mono ?_
    rintro e w' ⟨v, rfl, o, f'⟩
    obtain ⟨q, c, rfl, _, _⟩ := o.form (by omega)
    exact ⟨q, c, rfl, o, f'⟩
  have KP : Hid (∀ W, Below w.heap.size w W → W.cell? ⟨x, 3, none⟩ = some (.int .i64 (g.now : Int)) ∧ W.cell? ⟨x, 7, none⟩ = some (.int .i64 (g.used : Int))) := fun W f => by
    obtain ⟨_, _, _, d3, _, _, _, d7, _⟩ := (hP.below f).cells
    exact ⟨d3, d7⟩
  obtain ⟨i0, hi, hz0, hz1, hz2⟩ := info_parts infoQ
  unfold str at *
  generalize hS : secsOf g.now g.used d = S at *
  generalize hNN : need d.length = N at *
  obtain ⟨PO, hPO⟩ : ∃ PO : Ending → World → Prop, PO = fun e w' => ∃ b c, e = .returned (.slice (some ⟨b, 0, none⟩) N c) ∧ Vals w' b 0 S ∧ Below w.heap.size w w' := ⟨_, rfl⟩
  have HPO : Hid (∀ W b c, Vals W b 0 S → Below w.heap.size w W → PO (.returned (.slice (some ⟨b, 0, none⟩) N c)) W) := fun W b c hv f => by rw [hPO]; exact ⟨b, c, rfl, hv, f⟩
  rw [← hPO]
  have HC0 : Hid (CI w S 0 (.slice none 0 0) w) := ⟨by omega, Below.refl _ _, [], ⟨rfl, .inl ⟨rfl, rfl⟩⟩, fun j x hj => by omega⟩
  clear hPO hT hP hS
  generalize (⟨d.toArray⟩ : ByteArray) = st at *
  have hdl : d.length ≤ 4096 := hd
  generalize hdn : d.length = dn at *
  clear hd hdn hNN
  go_enter Tryz.func50, Tryz.ntmps50
  go_wp2_with fail
  refine (unhide H1).mono ?_
  rintro e w0 ⟨rfl, rfl⟩
  clear H1
  go_wp2
  go_loopw [5, 12] (fun u i wr => ∃ k : Nat, i = .int .i64 k ∧ CI w0 S k u wr) (fun _ i _ => N - (intOf i).toNat)
  case atStart => exact ⟨0, rfl, unhide HC0⟩
  case round =>
    clear HC0
    obtain ⟨k, rfl, hI⟩ := hrel
    have hkN : k ≤ N := by have := hI.le; omega
    by_cases hlt : k < N
    · have hlt1 : (k : Int) < (N : Int) := by omega
      obtain ⟨I, J, M, hI1, hJ1, hM1, hIM, hMd, hext, hend⟩ := unhide HCB k hlt
      obtain ⟨K, hK⟩ : ∃ K, K = g.used + k := ⟨_, rfl⟩
      have x1 : (g.used : Int) + (k : Int) = (K : Int) := by omega
      have x2 : (k : Int) * 231 = (I : Int) := by omega
      have x3 : (I : Int) + 231 = (J : Int) := by omega
      have x4 : (I : Int) ≤ (M : Int) := by omega
      have x5 : (M : Int) ≤ (dn : Int) := by omega
      have x6 : (J : Int) ≤ 10000 := by omega
      have x7 : (K : Int) ≤ 10000 := by omega
      have y2 : IntKind.i64.wrap (K : Int) = (K : Int) := by rw [IntKind.wrap_i64]; omega
      have m1 : (if (dn : Int) < (J : Int) then (dn : Int) else (J : Int)) = (M : Int) := by split <;> omega
      have m2 : (if dn < J then (dn : Int) else (J : Int)) = (M : Int) := by split <;> omega
      have m3 : min (J : Int) (dn : Int) = (M : Int) := by omega
      have hfin : ((M : Int) == (dn : Int)) = decide (k + 1 = N) := by
        by_cases h : k + 1 = N
        · rw [decide_eq_true h, hend.2 h]
          simp
        · rw [decide_eq_false h]
          have : M ≠ dn := fun e => h (hend.1 e)
          simp
          omega
      obtain ⟨hSx, hS256⟩ := unhide hSk k hlt
      have HV := hide (unhide HLP k hlt)
      obtain ⟨qs, hown, hall⟩ := hI.ex
      have hNX := hide (fun (q c : Nat) (v3 : Value) (W2 w3 : World) => CI.next (q := q) (c := c) (v3 := v3) (W2 := W2) (w3 := w3) hSx hS256 hI.fr hown hall)
      rw [← hK] at HV hNX
      generalize secB (partR g.now K (decide (k + 1 = N)) (cutP d k)) = sec at *
      generalize (⟨(cutP d k).toArray⟩ : ByteArray) = pt at *
      generalize decide (k + 1 = N) = fin at *
      have HFR := hide hI.fr
      have HOWN := hide hown
      obtain ⟨c3, c7⟩ := unhide KP wr hI.fr
      have n1 := World.new_ne wr _ c3
      clear hI1 hJ1 hM1 hIM hMd hend hK hSx hS256 hI hown hall
      go_upto_region 7 with fail
      go_region_held_law (fun W => W.cell? ⟨x, 3, none⟩ = some (.int .i64 (g.now : Int)) ∧ W.cell? ⟨x, 7, none⟩ = some (.int .i64 (g.used : Int))) (go_keep) (fail)
      have hP1 := heap_alloc_last wr (.cells #[.int .i64 (g.now : Int), .int .i64 (K : Int), .bool fin, .string pt] 113)
      have f1 : Below wr.heap.size wr (wr.alloc (.cells #[.int .i64 (g.now : Int), .int .i64 (K : Int), .bool fin, .string pt] 113)).drew := ((Below.refl _ _).alloc (Nat.le_refl _) _).drew
      have hP2 : (wr.alloc (.cells #[.int .i64 (g.now : Int), .int .i64 (K : Int), .bool fin, .string pt] 113)).drew.heap[wr.heap.size]? = some (.cells #[.int .i64 (g.now : Int), .int .i64 (K : Int), .bool fin, .string pt] 113 (0, 0)) := hP1
      go_upto_region 8 with fail
      generalize (wr.alloc (.cells #[.int .i64 (g.now : Int), .int .i64 (K : Int), .bool fin, .string pt] 113)).drew = w1 at *
      have e0 : w1.cell? ⟨wr.heap.size, 0, none⟩ = some (.int .i64 (g.now : Int)) := by rw [cell_of_row _ _ _ _ _ _ hP2]; rfl
      have e1 : w1.cell? ⟨wr.heap.size, 1, none⟩ = some (.int .i64 (K : Int)) := by rw [cell_of_row _ _ _ _ _ _ hP2]; rfl
      have e2 : w1.cell? ⟨wr.heap.size, 2, none⟩ = some (.bool fin) := by rw [cell_of_row _ _ _ _ _ _ hP2]; rfl
      have e3 : w1.cell? ⟨wr.heap.size, 3, none⟩ = some (.string pt) := by rw [cell_of_row _ _ _ _ _ _ hP2]; rfl
      have H2 := hide (unhide HV w1 (bT f1 (unhide HFR)))
      have F1 := hide f1
      clear hP1 hP2 f1 HV c3 c7 n1 m1 m2 m3 hfin hext x1 x2 x3 x4 x5 x6 x7
      go_wp2_with fail
      refine (unhide H2).mono ?_
      rintro e w2 ⟨q2, cp2, rfl, o2, f2⟩
      have f2' := bT f2 (unhide F1)
      have f3 : Below wr.heap.size wr (w2.alloc (.cells #[.slice (some ⟨q2, 0, none⟩) 256 cp2] 43)) := bA f2' _
      have hown := gen_below (unhide HOWN) f3
      have o2' := gen_below (own_base o2 (Nat.le_trans (unhide HFR).size (unhide F1).size)) (bA (Below.refl _ w2) (.cells #[.slice (some ⟨q2, 0, none⟩) 256 cp2] 43))
      have NX := hide (fun v3 w3 => unhide hNX q2 cp2 v3 _ w3 f3 o2')
      have hsrc : ∀ j u, [Value.slice (some ⟨q2, 0, none⟩) 256 cp2][j]? = some u → (w2.alloc (.cells #[.slice (some ⟨q2, 0, none⟩) 256 cp2] 43)).cell? (Addr.add ⟨w2.heap.size, 0, none⟩ j) = some u := World.news_of_block (heap_alloc_last w2 _)
      have hsz2 : w0.heap.size ≤ (w2.alloc (.cells #[.slice (some ⟨q2, 0, none⟩) 256 cp2] 43)).heap.size := Nat.le_trans (unhide HFR).size f3.size
      have hone : ∀ u ∈ [Value.slice (some ⟨q2, 0, none⟩) 256 cp2], u.oneCell' = true := by simp [Value.oneCell']
      have hc3 : k + 1 ≤ maxLen := by unfold maxLen; omega
      clear f2 f2' H2 HOWN hNX o2 o2' f3 e0 e1 e2 e3 F1
      go_wp2_with (at_builtin; refine wpList_append_own _ rfl (.tmp 42) (.tmp 45) 98 rfl w0.heap.size 43 i0 (.slice none 0 0) 1 24 Tryz.underlying98 hi hz0 hz1 hz2 rfl (by decide) _ _ _ rfl hown ⟨w2.heap.size, 0, none⟩ 1 1 [.slice (some ⟨q2, 0, none⟩) 256 cp2] rfl rfl hsrc hone hc3 (by omega) hsz2 ?_)
      intro v3 w3 o3 g3 _
      have HS3 := hide (unhide NX v3 w3 g3 o3)
      clear o3 g3 hown hsrc NX hone
      go_wp2
      go_roundw
      case rel => exact ⟨k + 1, by go_num, unhide HS3⟩
      case measure => simp [intOf]; omega
    · obtain rfl : k = N := by omega
      obtain ⟨b, c, rfl, hv⟩ := hI.vals (by omega) (by omega)
      have HF := hide (unhide HPO wr b c hv hI.fr)
      clear hv hI HPO KP HLP hSk HCB
      go_wp2
      exact unhide HF

end Go.Proofs.YtfggahkimconfaaGreatDoor

/- The landed log: Append. -/
namespace Go.Proofs.YtfggahkimconfaaGreatDoor
open Go.RowKit
set_option linter.unusedVariables false

theorem strClone_any (s : ByteArray) (w : World) (hlim : s.size ≤ 281474976710656) :
    Calls Tryz.prog 53 #[.string s] w fun e w' => e = .returned (.string s) ∧ Below w.heap.size w w' := by
  have H1 := hide (liteClone_any s w hlim)
  go_enter Tryz.func53, Tryz.ntmps53
  go_wp2_with fail
  refine (unhide H1).mono ?_
  rintro e w1 ⟨rfl, f1⟩
  have F1 := hide f1
  clear f1
  go_wp2
  go_ret
  exact ⟨rfl, unhide F1⟩
theorem stores_cases : ∀ (xs : List (List UInt8)) (D : Dk) (k : Nat), k + xs.length ≤ D.secs.length → (D.stores k xs).2 = 0 ∨ (D.stores k xs).2 = 10
  | [], D, k, _ => .inl rfl
  | x :: xs, D, k, h => by
    simp only [List.length_cons] at h
    rw [Dk.stores]
    rcases stE_cases (show k < D.secs.length by omega) with h0 | h0
    · rw [if_pos h0]
      exact stores_cases xs (D.st k x) (k + 1) (by rw [st_len]; omega)
    · rw [if_neg (by rw [h0]; decide)]
      exact .inr h0
theorem X.grow {w w' : World} {B p n m : Nat} {D : Dk} {v : Value} {xs : List Value} (h : X w B p D) (ho : w.ownsRow m 9 1 v n xs) (g : w.grownBy w' v.ownBlock) : X w' B p D := by
  obtain ⟨q, vs, h⟩ := h
  obtain ⟨cur, hg, _⟩ := h.row
  have ne : ∀ (k : Nat) (c : Array Value) (e : TypeId) (f : Nat × Nat), w.heap[k]? = some (.cells c e f) → e ≠ 9 → w'.heap[k]? = w.heap[k]? := fun k c e f hk he => g.block k (lt_of_heap hk) (fun e' => by
    obtain ⟨_, c', hc'⟩ := own_blk ho e'.symm
    rw [hk] at hc'
    injection hc' with hc'
    injection hc' with _ hc'
    exact he hc')
  refine ⟨q, vs, h.keep (ne _ _ _ _ h.blk (by decide)) (ne _ _ _ _ hg (by decide)) g.size (fun i k hi hk => ?_)⟩
  obtain ⟨c, hc⟩ := (h.sec i _ (List.getElem?_eq_getElem hi)).blk hk
  exact ne _ _ _ _ hc (by decide)
theorem hat_more {v : Value} {g H h1 cap m : Nat} (hat : v.ownBlock = some g ∨ g = H) (hH : h1 ≤ H) : ∀ k, (Value.slice (some ⟨g, 0, none⟩) m cap).ownBlock = some k → v.ownBlock = some k ∨ h1 ≤ k := fun k hk => by
  obtain rfl : g = k := by simpa [Value.ownBlock] using hk
  rcases hat with h | h
  · exact .inl h
  · exact .inr (by omega)
/-- Behind the stores: the record is appended, and the used sectors are written. -/
theorem app_end {w4 w5 w6 : World} {B x p U : Nat} {v v' : Value} {g : Lg} {d : List UInt8} {D' : Dk} (hU : U ≤ g.size - 1) (hlt : g.used < U) (hP : PL w4 B x p v g) (hX : X w4 B p D') (f : Below w4.heap.size w4 w5) (hB : B ≤ w4.heap.size)
    (o6 : w6.ownsRow B 9 1 v' (g.L.length + 1) (g.L.map str ++ [str d])) (g6 : w5.grownBy w6 v.ownBlock) (hat : ∀ k, v'.ownBlock = some k → v.ownBlock = some k ∨ w5.heap.size ≤ k) :
    PL ((w6.setCell ⟨x, 5, none⟩ v').setCell ⟨x, 7, none⟩ (.int .i64 (U : Int))) B x p v' { g with used := U, L := g.L ++ [d] } ∧ X ((w6.setCell ⟨x, 5, none⟩ v').setCell ⟨x, 7, none⟩ (.int .i64 (U : Int))) B p D' ∧ FrL (fun k => k = x ∨ v.ownBlock = some k) B w4 ((w6.setCell ⟨x, 5, none⟩ v').setCell ⟨x, 7, none⟩ (.int .i64 (U : Int))) ∧ (w6.cell? ⟨x, 5, none⟩ = some v ∧ w6.frozen? ⟨x, 5, none⟩ = false) ∧ (w6.cell? ⟨x, 7, none⟩ = some (.int .i64 (g.used : Int)) ∧ w6.frozen? ⟨x, 7, none⟩ = false) := by
  have hP5 := hP.below f
  have hxv : ¬ v.ownBlock = some x := fun e => by
    obtain ⟨_, c, hc⟩ := own_blk hP5.own e
    rw [hP5.blk] at hc
    injection hc with hc
    injection hc with _ hc
    exact absurd hc (by decide)
  have hx6 := (g6.block x (lt_of_heap hP5.blk) (fun e => hxv e.symm)).trans hP5.blk
  have hw : Pw x w6 w6 (plC p v g) := ⟨⟨_, hx6⟩, hx6, fun _ _ => rfl, Below.refl _ _⟩
  have hw2 := (hw.set 5 v').set 7 (.int .i64 (U : Int))
  have X6 := (hX.below f).grow hP5.own g6
  obtain ⟨s1, s2, s3, s4, s5, s6, s7, s8⟩ := hP.small
  refine ⟨⟨hw2.blk, ?_, hP.bx, ?_⟩, hw2.x X6, ?_, ?_, ?_⟩
  · have := hw2.own o6 (by decide)
    show World.ownsRow _ _ _ _ _ (g.L ++ [d]).length ((g.L ++ [d]).map str)
    rw [List.length_append, List.map_append]
    exact this
  · refine ⟨s1, s2, s3, s4, s5, hU, ?_, ?_⟩
    · show g.count ≤ (g.L ++ [d]).length
      rw [List.length_append]
      exact Nat.le_trans s7 (Nat.le_add_right _ _)
    · show (g.L ++ [d]).length ≤ U
      rw [List.length_append, List.length_singleton]
      omega
  · have fr1 : FrL (fun k => k = x ∨ v.ownBlock = some k) B w4 w6 := by
      refine ⟨(f.mono hB).trans ((Below.refl _ _).grown g6 (Nat.le_trans hB f.size) (fun k hk => (own_blk hP5.own hk).1)), fun k c e fz hk h1 h2 h3 h4 => ?_⟩
      have e1 := f.block k (lt_of_heap hk)
      rw [← e1]
      exact g6.block k (Nat.lt_of_lt_of_le (lt_of_heap hk) f.size) (fun e' => h4 (.inr e'.symm))
    exact fr1.trans (hw2.frl hP.bx (.inl rfl))
  · exact ⟨by rw [cell_of_row _ _ _ _ _ _ hx6]; rfl, frozen_of_row _ _ _ _ _ hx6⟩
  · exact ⟨by rw [cell_of_row _ _ _ _ _ _ hx6]; rfl, frozen_of_row _ _ _ _ _ hx6⟩

set_option maxRecDepth 100000 in
set_option maxHeartbeats 3200000 in
theorem lAppend_bad (w : World) (B x p : Nat) (v : Value) (D : Dk) (g : Lg) (d : List UInt8) (hT : Tab w) (h1 : 1 ≤ w.heap.size) (hP : PL w B x p v g) (hd : d.length ≤ 140737488355328) (hbad : g.gone = true ∨ 4096 < d.length ∨ g.size - 1 - g.used < need d.length) :
    Calls Tryz.prog 14 #[.pointer (some ⟨x, 0, none⟩), str d] w fun e w' => e = .returned (.int .i64 (if g.gone = true then 10 else if 4096 < d.length then 3 else 4)) ∧ Below w.heap.size w w' := by
  obtain ⟨c0, c1, c2, c3, c4, c5, c6, c7, c8, hfz⟩ := hP.cells
  have H1 := hide (lrefusal_any w x p g.gone c0 c8)
  obtain ⟨s1, s2, s3, s4, s5, s6, s7, s8⟩ := hP.small
  have hsz : (⟨d.toArray⟩ : ByteArray).size = d.length := by simp [ByteArray.size]
  have HP := hide hP
  have HT := hide hT
  clear hP hfz c0 c1 c2 c3 c4 c5 c6 c7 c8 hT
  by_cases hg : g.gone = true
  · rw [if_pos hg]
    rw [hg] at H1
    unfold str
    go_enter Tryz.func14, Tryz.ntmps14
    go_wp2_with fail
    refine (unhide H1).mono ?_
    rintro e w1 ⟨rfl, rfl⟩
    clear H1
    go_wp2
    go_ret
    exact ⟨rfl, Below.refl _ _⟩
  · have hg' : g.gone = false := by simpa using hg
    rw [if_neg hg]
    rw [hg'] at H1
    by_cases hl : 4096 < d.length
    · rw [if_pos hl]
      have gl : 4096 < (d.length : Int) := by omega
      unfold str
      generalize (⟨d.toArray⟩ : ByteArray) = st at *
      generalize d.length = dn at *
      go_enter Tryz.func14, Tryz.ntmps14
      go_wp2_with fail
      refine (unhide H1).mono ?_
      rintro e w1 ⟨rfl, rfl⟩
      clear H1
      go_wp2
      go_ret
      exact ⟨rfl, Below.refl _ _⟩
    · rw [if_neg hl]
      have hfull : g.size - 1 - g.used < need d.length := by
        rcases hbad with h | h | h
        · exact absurd h hg
        · exact absurd h hl
        · exact h
      have gl : ¬ 4096 < (d.length : Int) := by omega
      have hN2 := need_le (show d.length ≤ 4096 by omega)
      have H2 := hide (lcut_any w B x p v g d (unhide HT) h1 (unhide HP) (by omega))
      have gfull : (g.size : Int) - 1 - (g.used : Int) < (need d.length : Int) := by omega
      unfold str at *
      generalize (⟨d.toArray⟩ : ByteArray) = st at *
      generalize need d.length = N at *
      generalize d.length = dn at *
      go_enter Tryz.func14, Tryz.ntmps14
      go_wp2_with fail
      refine (unhide H1).mono ?_
      rintro e w1 ⟨rfl, rfl⟩
      clear H1
      go_wp2_with fail
      refine (unhide H2).mono ?_
      rintro e w2 ⟨b, c, rfl, _, f2⟩
      have H3 := hide (lFree_any w2 B x p v g ((unhide HP).below f2))
      have F2 := hide f2
      clear f2 H2
      go_wp2_with fail
      refine (unhide H3).mono ?_
      rintro e w3 ⟨rfl, f3⟩
      have F3 := hide (bT f3 (unhide F2))
      clear H3 f3
      go_wp2
      go_ret
      exact ⟨rfl, unhide F3⟩

set_option maxRecDepth 100000 in
set_option maxHeartbeats 3200000 in
theorem lAppend_ok (w : World) (B x p : Nat) (v : Value) (D : Dk) (g : Lg) (L n : Nat) (d : List UInt8) (hT : Tab w) (h1 : 1 ≤ B) (hP : PL w B x p v g) (hX : X w B p D) (hO : Okd D L n) (hn : n ≤ 900) (hL : g.at_ + g.size ≤ L) (hg : g.gone = false) (hd : d.length ≤ 4096) (hfit : ¬ g.size - 1 - g.used < need d.length) :
    Calls Tryz.prog 14 #[.pointer (some ⟨x, 0, none⟩), str d] w fun e w' => e = .returned (.int .i64 (g.apd D d).2.2) ∧ X w' B p (g.apd D d).1 ∧ (∃ v', PL w' B x p v' (g.apd D d).2.1 ∧ ∀ k, v'.ownBlock = some k → v.ownBlock = some k ∨ w.heap.size ≤ k) ∧ FrL (fun k => k = x ∨ v.ownBlock = some k) B w w' := by
  obtain ⟨c0, c1, c2, c3, c4, c5, c6, c7, c8, hfz⟩ := hP.cells
  have H1 := hide (lrefusal_any w x p g.gone c0 c8)
  rw [hg] at H1
  obtain ⟨s1, s2, s3, s4, s5, s6, s7, s8⟩ := hP.small
  have hBw := hX.bw
  have hsz : (⟨d.toArray⟩ : ByteArray).size = d.length := by simp [ByteArray.size]
  have hN1 := need_pos d.length
  have hN2 := need_le hd
  have gl : ¬ 4096 < (d.length : Int) := by omega
  have H2 := hide (lcut_any w B x p v g d hT (by omega) hP hd)
  have gfull : ¬ (g.size : Int) - 1 - (g.used : Int) < (need d.length : Int) := by omega
  have hapd : g.apd D d = if (D.stores (g.at_ + 1 + g.used) (secsOf g.now g.used d)).2 = 0 then ((D.stores (g.at_ + 1 + g.used) (secsOf g.now g.used d)).1, { g with used := g.used + need d.length, L := g.L ++ [d] }, 0) else ((D.stores (g.at_ + 1 + g.used) (secsOf g.now g.used d)).1, { g with gone := true }, (D.stores (g.at_ + 1 + g.used) (secsOf g.now g.used d)).2) := by
    unfold Lg.apd
    rw [if_neg (by rw [hg]; decide), if_neg (by omega), if_neg hfit]
  have hE := stores_cases (secsOf g.now g.used d) D (g.at_ + 1 + g.used) (by rw [secsOf_len, hO.len]; omega)
  have HST : Hid (∀ W b c, Below w.heap.size w W → Vals W b 0 (secsOf g.now g.used d) → Calls Tryz.prog 51 #[.agg #[.pointer (some ⟨p, 0, none⟩), .int .i64 (g.at_ : Int), .int .i64 (g.size : Int)], .int .i64 (1 + (g.used : Int)), .slice (some ⟨b, 0, none⟩) (need d.length) c] W fun e w' => e = .returned (.int .i64 (D.stores (g.at_ + 1 + g.used) (secsOf g.now g.used d)).2) ∧ X w' B p (D.stores (g.at_ + 1 + g.used) (secsOf g.now g.used d)).1 ∧ Fr B w w') := fun W b c f hv => by
    have h := lstore_any W B p D L n (hX.below f) hO g.at_ (1 + g.used) (need d.length) (g.size : Int) (secsOf g.now g.used d) (secsOf_len _ _ _) (by omega) ⟨by omega, by omega⟩ b 0 c hv
    rw [← Nat.add_assoc] at h
    have e1 : (((1 + g.used : Nat)) : Int) = 1 + (g.used : Int) := by omega
    rw [e1] at h
    refine Calls.mono h ?_
    rintro e w' ⟨rfl, x', f'⟩
    exact ⟨rfl, x', (Fr.of_below f hBw).trans f'⟩
  rw [hapd]
  have HP := hide hP
  have KF : Hid (∀ W, Fr B w W → PL W B x p v g ∧ W.cell? ⟨x, 0, none⟩ = some (.pointer (some ⟨p, 0, none⟩)) ∧ W.cell? ⟨x, 1, none⟩ = some (.int .i64 (g.at_ : Int)) ∧ W.cell? ⟨x, 2, none⟩ = some (.int .i64 (g.size : Int)) ∧ W.cell? ⟨x, 7, none⟩ = some (.int .i64 (g.used : Int))) := fun W f => by
    obtain ⟨d0, d1, d2, _, _, _, _, d7, _⟩ := (hP.fr f).cells
    exact ⟨hP.fr f, d0, d1, d2, d7⟩
  clear hP hX hO hT hfz hapd c0 c1 c2 c3 c4 c5 c6 c7 c8 hfit
  generalize D.stores (g.at_ + 1 + g.used) (secsOf g.now g.used d) = R at *
  obtain ⟨D', E⟩ := R
  have hst : (str d) = .string ⟨d.toArray⟩ := rfl
  have HCL := hide (fun W => strClone_any ⟨d.toArray⟩ W (by rw [hsz]; omega))
  have HAE := hide (fun (w4 w5 w6 : World) (v' : Value) hP hX f hB o6 g6 hat => app_end (w4 := w4) (w5 := w5) (w6 := w6) (B := B) (x := x) (p := p) (U := g.used + need d.length) (v := v) (v' := v') (g := g) (d := d) (D' := D') (by omega) (by omega) hP hX f hB o6 g6 hat)
  unfold str at *
  obtain ⟨PO, hPO⟩ : ∃ PO : Ending → World → Prop, PO = fun e w' => e = .returned (.int .i64 (if (D', E).2 = 0 then ((D', E).1, ({ g with used := g.used + need d.length, L := g.L ++ [d] } : Lg), (0 : Int)) else ((D', E).1, ({ g with gone := true } : Lg), (D', E).2)).2.2) ∧ X w' B p (if (D', E).2 = 0 then ((D', E).1, ({ g with used := g.used + need d.length, L := g.L ++ [d] } : Lg), (0 : Int)) else ((D', E).1, ({ g with gone := true } : Lg), (D', E).2)).1 ∧ (∃ v', PL w' B x p v' (if (D', E).2 = 0 then ((D', E).1, ({ g with used := g.used + need d.length, L := g.L ++ [d] } : Lg), (0 : Int)) else ((D', E).1, ({ g with gone := true } : Lg), (D', E).2)).2.1 ∧ ∀ k, v'.ownBlock = some k → v.ownBlock = some k ∨ w.heap.size ≤ k) ∧ FrL (fun k => k = x ∨ v.ownBlock = some k) B w w' := ⟨_, rfl⟩
  rw [← hPO]
  have HP0 : Hid (E = 0 → ∀ W v', X W B p D' → PL W B x p v' { g with used := g.used + need d.length, L := g.L ++ [d] } → (∀ k, v'.ownBlock = some k → v.ownBlock = some k ∨ w.heap.size ≤ k) → FrL (fun k => k = x ∨ v.ownBlock = some k) B w W → PO (.returned (.int .i64 0)) W) := fun h0 W v' a b c e => by
    rw [hPO, if_pos h0]
    exact ⟨rfl, a, ⟨v', b, c⟩, e⟩
  have HP1 : Hid (E = 10 → ∀ W, X W B p D' → PL W B x p v { g with gone := true } → FrL (fun k => k = x ∨ v.ownBlock = some k) B w W → PO (.returned (.int .i64 10)) W) := fun h0 W a b e => by
    rw [hPO, if_neg (by show ¬ E = 0; rw [h0]; decide)]
    exact ⟨by show _ = Ending.returned (.int .i64 E); rw [h0], a, ⟨v, b, fun k h => .inl h⟩, e⟩
  clear hPO
  have hE' : E = 0 ∨ E = 10 := hE
  clear hE hst
  generalize hND : need d.length = N at *
  generalize hDA : (⟨d.toArray⟩ : ByteArray) = st at *
  generalize hdn : d.length = dn at *
  obtain ⟨U, hU⟩ : ∃ U, U = g.used + N := ⟨_, rfl⟩
  rw [← hU] at HP0 HAE
  have gU : (g.used : Int) + (N : Int) = (U : Int) := by omega
  have gU2 : (U : Int) ≤ 10000 := by omega
  have y1 : IntKind.i64.wrap (1 + (g.used : Int)) = 1 + (g.used : Int) := by rw [IntKind.wrap_i64]; omega
  obtain ⟨i0, hi, hz0, hz1, hz2⟩ := info_parts infoStr
  clear hND hdn hU
  go_enter Tryz.func14, Tryz.ntmps14
  go_wp2_with fail
  refine (unhide H1).mono ?_
  rintro e w1 ⟨rfl, rfl⟩
  clear H1
  go_wp2_with fail
  refine (unhide H2).mono ?_
  rintro e w2 ⟨b, c, rfl, hv2, f2⟩
  have H3 := hide (lFree_any w2 B x p v g ((unhide HP).below f2))
  have F2 := hide f2
  have HV2 := hide hv2
  clear f2 H2 hv2
  go_wp2_with fail
  refine (unhide H3).mono ?_
  rintro e w3 ⟨rfl, f3⟩
  have f3' := bT f3 (unhide F2)
  have F3 := hide f3'
  have HV3 := hide ((unhide HV2).fr (Fr.of_below (B := 0) f3 (Nat.zero_le _)))
  obtain ⟨p3, d0, d1, d2, d7⟩ := unhide KF w3 (Fr.of_below f3' hBw)
  have H4 := hide (fun W (f : Below w3.heap.size w3 W) => unhide HST W b c (bT f f3') ((unhide HV3).fr (Fr.of_below (B := 0) f (Nat.zero_le _))))
  clear H3 f3 f3' p3 HV2 HST
  go_upto_region 9 with fail
  go_region_held_law (fun W => W.cell? ⟨x, 0, none⟩ = some (.pointer (some ⟨p, 0, none⟩)) ∧ W.cell? ⟨x, 1, none⟩ = some (.int .i64 (g.at_ : Int)) ∧ W.cell? ⟨x, 2, none⟩ = some (.int .i64 (g.size : Int)) ∧ W.cell? ⟨x, 7, none⟩ = some (.int .i64 (g.used : Int))) (go_keep)
    (first
      | (go_at_call 51; refine (unhide H4 _ (by repeat (first | exact Below.refl _ _ | refine Below.drew ?_))).mono ?_; rintro e w4 ⟨rfl, x4, f4⟩; obtain ⟨p4, k40, k41, k42, k43⟩ := unhide KF w4 f4))
  have X4 := hide x4
  have P4 := hide p4
  have F4 := hide f4
  clear x4 f4 H4 d0 d1 d2 d7 k40 k41 k42 KF
  rcases hE' with h0 | h0
  · have HQ := hide (unhide HP0 h0)
    subst h0
    clear HP0 HP1
    obtain ⟨_, _, _, _, _, e5, _, _, _, hfz⟩ := p4.cells
    have fz5 := hfz 5
    clear p4
    go_upto_region 12 with fail
    have KC : Hid (∀ W, Below w4.heap.size w4 W → W.cell? ⟨x, 5, none⟩ = some v ∧ W.frozen? ⟨x, 5, none⟩ = false ∧ W.ownsRow B 9 1 v g.L.length (g.L.map fun d => Value.string ⟨d.toArray⟩)) := fun W f => by
      have hp := (unhide P4).below f
      obtain ⟨_, _, _, _, _, a5, _, _, _, hz⟩ := hp.cells
      exact ⟨a5, hz 5, hp.own⟩
    have KB : Hid (∀ W, Below w4.heap.size w4 W → B ≤ W.heap.size) := fun W f => Nat.le_trans (unhide X4).bw f.size
    have KB2 : Hid (∀ W, Below w4.heap.size w4 W → w1.heap.size ≤ W.heap.size) := fun W f => Nat.le_trans (unhide F4).below.size f.size
    have HAE6 : Hid (∀ (w5 w6 : World) (v' : Value), Below w4.heap.size w4 w5 → w6.ownsRow B 9 1 v' (g.L.length + 1) ((g.L.map fun d => Value.string ⟨d.toArray⟩) ++ [.string st]) → w5.grownBy w6 v.ownBlock → (∀ k, v'.ownBlock = some k → v.ownBlock = some k ∨ w5.heap.size ≤ k) → _) := fun w5 w6 v' f o6 g6 hat => by
      exact unhide HAE w4 w5 w6 v' (unhide P4) (unhide X4) f (unhide X4).bw o6 g6 hat
    have HCL4 : Hid (∀ W, Below w4.heap.size w4 W → Calls Tryz.prog 53 #[.string st] W fun e w' => e = .returned (.string st) ∧ Below w4.heap.size w4 w') := fun W f => by
      refine Calls.mono (unhide HCL W) ?_
      rintro e w' ⟨rfl, f'⟩
      exact ⟨rfl, bT f' f⟩
    go_region_law (first
      | (have fx := f5; clear fx; refine step_append_lies _ rfl (.tmp 44) (.tmp 47) 53 rfl B 9 i0 (.string ⟨#[]⟩) 1 16 Tryz.underlying53 hi hz0 hz1 hz2 rfl (by decide) v g.L.length (g.L.map fun d => Value.string ⟨d.toArray⟩) (by simp [Act.eval]) (by exact (unhide KC _ (by repeat (first | exact f5 | refine Below.drew ?_ | refine Below.alloc ?_ f5.size _))).2.2) ⟨w5.heap.size, 0, none⟩ 1 1 [.string st] (by simp [Act.eval]) rfl (by exact World.news_of_block (heap_alloc_last _ _)) (by simp [Value.oneCell']) (by omega) (by unfold maxLen; omega) (by omega) (by exact (unhide KB _ (by repeat (first | exact f5 | refine Below.drew ?_ | refine Below.alloc ?_ f5.size _)))) _ rfl ?_; intro g6 cap6 w6 o6 gr6 hat6 hlt6; have q6 := unhide HAE6 _ _ _ (by repeat (first | exact f5 | refine Below.drew ?_ | refine Below.alloc ?_ f5.size _)) o6 gr6 (hat_more hat6 (Nat.le_refl _)); have HT6 := hide (hat_more (m := g.L.length + 1) (cap := cap6) hat6 (unhide KB2 _ (by repeat (first | exact f5 | refine Below.drew ?_ | refine Below.alloc ?_ f5.size _)))); have k60 := q6.2.2.2.1.1; have k61 := q6.2.2.2.1.2; have k62 := q6.2.2.2.2.1; have k63 := q6.2.2.2.2.2; have Q6 := hide q6; clear q6 hat6 o6 gr6 hlt6)
      | (go_simp; go_at_call 53; refine (unhide HCL4 _ (by repeat (first | exact Below.refl _ _ | refine Below.drew ?_))).mono ?_; rintro e w5 ⟨rfl, f5⟩; obtain ⟨k50, k51, k52⟩ := unhide KC w5 f5; have k5a := (unhide KC _ (f5.alloc f5.size (.cells #[.string st] 9))).1; clear k51 k52))
    all_goals
      have Q7 := hide (unhide HQ _ _ (unhide Q6).2.1 (unhide Q6).1 (unhide HT6) ((unhide F4).l.trans (unhide Q6).2.2.1))
      clear Q6 HT6 HQ k50 k5a f5 HAE6 HAE KC KB KB2 HCL4 HCL P4 X4 F4 e5 fz5 hfz
      go_wp2
      exact unhide Q7
  · have HQ := hide (unhide HP1 h0)
    subst h0
    clear HP0 HP1
    obtain ⟨_, _, _, _, _, _, _, _, e8, hfz⟩ := p4.cells
    have H5 := hide (lfail_any w4 x 10 _ e8 rfl (hfz 8))
    clear p4 hfz e8
    go_wp2_with fail
    refine (unhide H5).mono ?_
    rintro e w5 ⟨rfl, rfl⟩
    clear H5
    have hw := (unhide P4).pw.set 8 (.bool true)
    have HF : Hid (PO (.returned (.int .i64 10)) (w4.setCell ⟨x, 8, none⟩ (.bool ((10 : Int) == 10)))) := unhide HQ _ (hw.x (unhide X4)) (Pw.pl (g' := { g with gone := true }) (unhide P4) hw rfl ⟨s1, s2, s3, s4, s5, s6, s7, s8⟩) ((unhide F4).l.trans (hw.frl (unhide P4).bx (.inl rfl)))
    clear hw HQ P4 X4 F4
    generalize w4.setCell ⟨x, 8, none⟩ (.bool ((10 : Int) == 10)) = w6 at *
    go_wp2
    exact unhide HF

end Go.Proofs.YtfggahkimconfaaGreatDoor
