/- The contracts of the document's own Barrier. -/
import Derived.Test.YtaflibnalhfenaaRfF
namespace Go.Proofs.Ytaflibnalhfenaa
open Go.RowKit
set_option linter.unusedVariables false

set_option maxRecDepth 100000 in
set_option maxHeartbeats 400000 in
theorem rBarrier_dark (w : World) (B p : Nat) (v : Value) (vals : List Value) (D : Dk) (h : RIs w B p v vals (rof D)) (hc : D.can = false) :
    Calls Try.prog 20 #[.pointer (some ⟨p, 0, none⟩)] w fun e w' => e = .returned (.int .i64 10) ∧ RIs w' B p v vals (rof D.moved) ∧ Fr2 B w w' := by
  have H := hide (rmove_any w B p v vals D h)
  clear h
  rw [hc] at H
  go_enter Try.func20, Try.ntmps20
  go_wp2_with fail
  refine (unhide H).mono ?_
  rintro e w1 ⟨rfl, h1, h2⟩
  have H1 := hide h1
  have H2 := hide h2
  clear h1 h2
  go_wp2
  go_ret
  exact ⟨rfl, unhide H1, unhide H2⟩

/-- The first k sectors are made sure. -/
def Dk.barTo (D : Dk) (k : Nat) : Dk := { D with secs := (D.secs.take k).map Sec.flush ++ D.secs.drop k }
theorem Dk.barTo_zero (D : Dk) : D.barTo 0 = D := by simp [Dk.barTo]
theorem Dk.barTo_len (D : Dk) (k : Nat) : (D.barTo k).secs.length = D.secs.length := by simp [Dk.barTo]; omega
theorem Dk.barTo_all (D : Dk) : (D.moved.barTo D.secs.length) = D.bar := by
  simp [Dk.barTo, Dk.bar, Dk.moved_secs]
theorem Dk.barTo_get (D : Dk) (k : Nat) (s : Sec) (h : D.secs[k]? = some s) : (D.barTo k).secs[k]? = some s := by
  have hk := (List.getElem?_eq_some_iff.1 h).1
  simp only [Dk.barTo]
  rw [List.getElem?_append_right (by simp; omega)]
  simp [h, Nat.min_eq_left (Nat.le_of_lt hk)]
theorem Dk.barTo_succ (D : Dk) (k : Nat) (s : Sec) (h : D.secs[k]? = some s) : D.barTo (k + 1) = (D.barTo k).put k s.flush := by
  obtain ⟨hk, rfl⟩ := List.getElem?_eq_some_iff.1 h
  simp only [Dk.barTo, Dk.put]
  congr 1
  rw [List.take_succ_eq_append_getElem hk, List.drop_eq_getElem_cons hk, List.set_append_right _ _ (by simp; omega)]
  simp only [List.map_append, List.length_map, List.length_take, Nat.min_eq_left (Nat.le_of_lt hk), Nat.sub_self, List.set_cons_zero, List.map_cons, List.map_nil, List.append_assoc, List.singleton_append]

structure BRel (w : World) (B p : Nat) (v : Value) (vals0 : List Value) (E : Dk) (wr : World) : Prop where
  ex : ∃ vals, RIs wr B p v vals (rof E) ∧ NewOr w vals0 vals
  fr : Fr2 B w wr

theorem BRel.next {w wr w3 : World} {B p g gc L : Nat} {vals0 : List Value} {E : Dk} (h : BRel w B p (.slice (some ⟨g, 0, none⟩) L gc) vals0 E wr) (hL : E.secs.length = L) (i : Nat) (hi : i < L) (x : List UInt8) (q : Nat) (hb : Below wr.heap.size wr w3) (hs : w3.heap[q]? = some (.cells #[str x] 9 (0, 0))) (hq : wr.heap.size ≤ q) :
    BRel w B p (.slice (some ⟨g, 0, none⟩) L gc) vals0 (E.put i ⟨x, []⟩) (w3.setCell ⟨g, i, none⟩ (.slice (some ⟨q, 0, none⟩) 1 1)) := by
  obtain ⟨vals, hr, nw⟩ := h.ex
  subst hL
  have hst : StrsAt w3 (.slice (some ⟨q, 0, none⟩) 1 1) (Sec.vals ⟨x, []⟩) := ⟨q, 1, _, rfl, hs, by simp [Sec.vals], by simp, fun j y hy => by
    match j, hy with
    | 0, hy => simp [Sec.vals] at hy; subst hy; rfl⟩
  obtain ⟨r1, r2⟩ := (hr.below hb).put g gc rfl i ⟨x, []⟩ hi _ hst
  exact ⟨⟨_, r1, nw.put i (fun k hk => by
    obtain rfl : q = k := by simpa [Value.ownBlock] using hk
    exact Nat.le_trans h.fr.below.size hq)⟩, (h.fr.trans (Fr2.of_below hb hr.bw)).trans r2⟩

theorem BRel.drew {w wr : World} {B p : Nat} {v : Value} {vals0 : List Value} {E : Dk} (h : BRel w B p v vals0 E wr) : BRel w B p v vals0 E wr.drew := by
  obtain ⟨vals, hr, nw⟩ := h.ex
  have hb := (Below.refl wr.heap.size wr).drew
  exact ⟨⟨vals, hr.below hb, nw⟩, h.fr.trans (Fr2.of_below hb hr.bw)⟩

set_option maxRecDepth 100000 in
set_option maxHeartbeats 800000 in
theorem rBarrier_ok (w : World) (B p : Nat) (v : Value) (vals : List Value) (D : Dk) (h : RIs w B p v vals (rof D)) (hc : D.can = true) (g gc : Nat) (hv : v = .slice (some ⟨g, 0, none⟩) D.secs.length gc) (hmost : D.secs.length ≤ 4096) :
    Calls Try.prog 20 #[.pointer (some ⟨p, 0, none⟩)] w fun e w' => e = .returned (.int .i64 0) ∧ (∃ vals', RIs w' B p v vals' (rof D.bar) ∧ NewOr w vals vals') ∧ Fr2 B w w' := by
  subst hv
  have H := hide (rmove_any w B p _ vals D h)
  clear h
  rw [hc] at H
  go_enter Try.func20, Try.ntmps20
  go_wp2_with fail
  refine (unhide H).mono ?_
  rintro e w1 ⟨rfl, h1, h2⟩
  have R0 : Hid (BRel w B p (.slice (some ⟨g, 0, none⟩) D.secs.length gc) vals (D.moved.barTo 0) w1) := ⟨⟨vals, by rw [Dk.barTo_zero]; exact h1, NewOr.refl _ _⟩, h2⟩
  clear h1 h2 H
  go_wp2
  go_loopw [3] (fun i wr => ∃ k : Nat, k ≤ D.secs.length ∧ i = .int .i64 k ∧ BRel w B p (.slice (some ⟨g, 0, none⟩) D.secs.length gc) vals (D.moved.barTo k) wr) (fun i _ => D.secs.length - (intOf i).toNat)
  case atStart => exact ⟨0, by omega, rfl, unhide R0⟩
  case round =>
    clear R0
    obtain ⟨k, hk, rfl, hR⟩ := hrel
    obtain ⟨vals1, hr, _⟩ := hR.ex
    have c0 := hr.cells.1
    by_cases hlt : k < D.secs.length
    · have hx : D.moved.secs[k]? = some D.secs[k] := by rw [Dk.moved_secs]; exact List.getElem?_eq_getElem hlt
      have hx2 := Dk.barTo_get D.moved k _ hx
      obtain ⟨_, _, q, c, hv, c1, f1, -⟩ := hr.mem k _ hx2
      injection hv with hv1 hv0 hv2
      injection hv1 with hv1
      injection hv1 with hv1
      subst hv1
      clear hv0 hv2
      have hpg : p ≠ g := fun e => hr.kinds.1 (by subst e; rfl)
      have HL := hide (fun (W : World) (hb : Below wr.heap.size wr W) => rlast_any W B p _ vals1 _ (hr.below hb) k _ hx2)
      have hL1 : (D.moved.barTo k).secs.length = D.secs.length := by rw [Dk.barTo_len, Dk.moved_secs]
      have HN := hide (fun (w3 : World) (q : Nat) (hb : Below wr.heap.size wr w3) (hs : w3.heap[q]? = some (.cells #[str (D.secs[k]).last] 9 (0, 0))) (hq : wr.heap.size ≤ q) => hR.next (w3 := w3) hL1 k hlt (D.secs[k]).last q hb hs hq)
      have hsu := Dk.barTo_succ D.moved k _ hx
      have HSU := hide hsu
      have hkl : (k : Int) < D.secs.length := by omega
      clear hR hr hx hx2 hL1 hsu
      generalize D.secs[k] = s0 at *
      have hgp : g ≠ p := fun e => hpg e.symm
      have g2 := cell_alloc c1 (.cells #[str s0.last] 9)
      have g3 : (wr.alloc (.cells #[str s0.last] 9)).frozen? ⟨g, k, none⟩ = false := by rw [World.frozen?_alloc_past _ _ _ (World.block_lt_of_cell? wr _ c1)]; exact f1
      go_wp2
      go_region_held (fun W => W.cell? ⟨p, 0, none⟩ = some (.slice (some ⟨g, 0, none⟩) D.secs.length gc)) (go_keep)
        (first
          | (go_at_call 46; refine (unhide HL _ (by repeat (first | exact Below.refl _ _ | refine Below.drew ?_))).mono ?_; rintro e w3 ⟨rfl, rfl⟩))
      all_goals
        have R : Hid (BRel w B p (.slice (some ⟨g, 0, none⟩) D.secs.length gc) vals (D.moved.barTo (k + 1)) ((wr.alloc (.cells #[str s0.last] 9)).setCell ⟨g, k, none⟩ (.slice (some ⟨wr.heap.size, 0, none⟩) 1 1)).drew.drew) := by
          rw [unhide HSU]
          exact (unhide HN _ _ ((Below.refl _ _).alloc (Nat.le_refl _) _) (heap_alloc_last wr _) (Nat.le_refl _)).drew.drew
        clear HN HL HSU g2 g3 c1 f1 hgp hpg c0
        go_wp2
        go_roundw
        case rel => exact ⟨k + 1, by omega, by go_num, unhide R⟩
        case measure => simp [intOf]; omega
    · have hk' : k = D.secs.length := by omega
      subst hk'
      have HR := hide hR
      clear hR hr
      go_wp2
      go_ret
      have := unhide HR
      rw [Dk.barTo_all] at this
      exact ⟨rfl, this.ex, this.fr⟩

end Go.Proofs.Ytaflibnalhfenaa
