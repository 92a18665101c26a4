/- The contracts of the document's own Store. -/
import Derived.Test.YtaflibnalhfenaaRfE
import Derived.Deep.RegionHeld3
import Derived.Deep.AppendLies
namespace Go.Proofs.Ytaflibnalhfenaa
open Go.RowKit
set_option linter.unusedVariables false

theorem RIs.put {w : World} {B p : Nat} {v : Value} {vals : List Value} {D : Dk} (h : RIs w B p v vals (rof D)) (g gc : Nat) (hv : v = .slice (some ⟨g, 0, none⟩) D.secs.length gc) (i : Nat) (s' : Sec) (hi : i < D.secs.length) (sv : Value) (hs : StrsAt w sv s'.vals) :
    RIs (w.setCell ⟨g, i, none⟩ sv) B p v (vals.set i sv) (rof (D.put i s')) ∧ Fr2 B w (w.setCell ⟨g, i, none⟩ sv) := by
  subst hv
  obtain ⟨k1, k2⟩ := h.kinds
  obtain ⟨cur, hg⟩ := k2 g rfl
  have hpg : p ≠ g := fun e => k1 (by subst e; rfl)
  have hset : ∀ k, k ≠ g → (w.setCell ⟨g, i, none⟩ sv).heap[k]? = w.heap[k]? := fun k hk => Below.heap_setCell _ _ _ _ hk
  have hkeep : ∀ (k : Nat) (c : Array Value) (f : Nat × Nat), w.heap[k]? = some (.cells c 9 f) → (w.setCell ⟨g, i, none⟩ sv).heap[k]? = w.heap[k]? := fun k c f hk => hset k (fun e => by
    subst e
    have := hg.symm.trans hk
    simp at this)
  have hlen : (rof (D.put i s')).V.length = (rof D).V.length := by simp [rof, Dk.put]
  have hbg := (h.own.lt g rfl).1
  refine ⟨⟨?_, ?_, h.bp, by simpa [World.setCell] using h.bw, ?_, h.lo, h.hi⟩, fr2_setCell hbg hg (.inr rfl)⟩
  · exact (hset p hpg).trans h.blk
  · have ho := h.own
    rw [rof_len] at ho
    rw [hlen, rof_len]
    have := (ho.stored i sv).1
    exact this
  · intro j l hj
    have e : (rof (D.put i s')).V = (rof D).V.set i s'.vals := by simp [rof, Dk.put, List.map_set]
    rw [e, List.getElem?_set] at hj
    have hvl : vals.length = D.secs.length := by have := h.own.1; rw [rof_len] at this; simpa using this
    split at hj
    · rename_i e0
      subst e0
      split at hj
      · have := (Option.some.inj hj).symm
        subst this
        exact ⟨sv, by rw [List.getElem?_set, if_pos rfl, if_pos (by omega)], hs.keep hkeep⟩
      · cases hj
    · rename_i e0
      obtain ⟨sv', a, b⟩ := h.each j l hj
      exact ⟨sv', by rw [List.getElem?_set, if_neg e0]; exact a, b.keep hkeep⟩

set_option maxRecDepth 100000 in
set_option maxHeartbeats 400000 in
theorem rStore_out (w : World) (B p : Nat) (v : Value) (vals : List Value) (D : Dk) (h : RIs w B p v vals (rof D)) (at_ : Int) (a : Option Addr) (m c : Nat) (hat : ¬ (0 ≤ at_ ∧ at_ < D.secs.length)) (g gc : Nat) (hv : v = .slice (some ⟨g, 0, none⟩) D.secs.length gc) :
    Calls Try.prog 17 #[.pointer (some ⟨p, 0, none⟩), .int .i64 at_, .slice a m c] w fun e w' => e = .returned (.int .i64 2) ∧ w' = w := by
  subst hv
  have c0 := h.cells.1
  clear h
  by_cases h0 : at_ < 0
  · have hd : decide (at_ < 0) = true := by simpa using h0
    go_enter Try.func17, Try.ntmps17
    go_wp2
    go_ret
    exact ⟨rfl, rfl⟩
  · have hd : decide (at_ < 0) = false := by simpa using h0
    have hd2 : decide ((D.secs.length : Int) ≤ at_) = true := by simp; omega
    go_enter Try.func17, Try.ntmps17
    go_wp2
    go_ret
    exact ⟨rfl, rfl⟩

set_option maxRecDepth 100000 in
set_option maxHeartbeats 400000 in
theorem rStore_len (w : World) (B p : Nat) (v : Value) (vals : List Value) (D : Dk) (h : RIs w B p v vals (rof D)) (at_ : Int) (a : Option Addr) (m c : Nat) (hat : 0 ≤ at_ ∧ at_ < D.secs.length) (hm : m ≠ 256) (g gc : Nat) (hv : v = .slice (some ⟨g, 0, none⟩) D.secs.length gc) :
    Calls Try.prog 17 #[.pointer (some ⟨p, 0, none⟩), .int .i64 at_, .slice a m c] w fun e w' => e = .returned (.int .i64 2) ∧ w' = w := by
  subst hv
  have c0 := h.cells.1
  clear h
  have hd : decide (at_ < 0) = false := by simp; omega
  have hd2 : decide ((D.secs.length : Int) ≤ at_) = false := by simp; omega
  have hm' : ((m : Int) != 256) = true := by rw [bne_iff_ne]; omega
  go_enter Try.func17, Try.ntmps17
  go_wp2
  go_ret
  exact ⟨rfl, rfl⟩

set_option maxRecDepth 100000 in
set_option maxHeartbeats 400000 in
theorem rStore_dark (w : World) (B p : Nat) (v : Value) (vals : List Value) (D : Dk) (h : RIs w B p v vals (rof D)) (at_ : Int) (a : Option Addr) (c : Nat) (hat : 0 ≤ at_ ∧ at_ < D.secs.length) (hc : D.can = false) (g gc : Nat) (hv : v = .slice (some ⟨g, 0, none⟩) D.secs.length gc) :
    Calls Try.prog 17 #[.pointer (some ⟨p, 0, none⟩), .int .i64 at_, .slice a 256 c] w fun e w' => e = .returned (.int .i64 10) ∧ RIs w' B p v vals (rof D.moved) ∧ Fr2 B w w' := by
  have H := hide (rmove_any w B p v vals D h)
  subst hv
  have c0 := h.cells.1
  clear h
  rw [hc] at H
  have hd : decide (at_ < 0) = false := by simp; omega
  have hd2 : decide ((D.secs.length : Int) ≤ at_) = false := by simp; omega
  go_enter Try.func17, Try.ntmps17
  go_wp2_with fail
  refine (unhide H).mono ?_
  rintro e w1 ⟨rfl, h1, h2⟩
  have H1 := hide h1
  have H2 := hide h2
  clear h1 h2
  go_wp2
  go_ret
  exact ⟨rfl, unhide H1, unhide H2⟩

theorem bytes_below {w w' : World} {a : Option Addr} {l : List UInt8} (h : BytesAt w a l) (hb : Below w.heap.size w w') : BytesAt w' a l :=
  ⟨h.1, fun ad e j u hu => by
    have h1 := h.2 ad e j u hu
    exact (hb.cell (World.block_lt_of_cell? w _ h1)).trans h1⟩

theorem own_new {W : World} {H base : Nat} (h : W.heap[H]? = some (.cells #[] 9 (0, 0))) (hb : base ≤ H) : W.ownsRow base 9 1 (.slice (some ⟨H, 0, none⟩) 0 0) 0 [] :=
  ⟨by simp, .inr ⟨H, 0, #[], rfl, hb, h, Nat.le_refl _, by unfold maxLen; omega, by simp, by simp⟩⟩

theorem rput_fin {w1 w3 : World} {B p : Nat} {v : Value} {vals : List Value} {D : Dk} (h : RIs w1 B p v vals (rof D)) (g gc : Nat) (hv : v = .slice (some ⟨g, 0, none⟩) D.secs.length gc) (i : Nat) (hi : i < D.secs.length) (s' : Sec) (hb : Below w1.heap.size w1 w3) (q cap n : Nat)
    (hn : s'.vals.length = n) (hown : w3.ownsRow w1.heap.size 9 1 (.slice (some ⟨q, 0, none⟩) n cap) n (s'.vals.map str)) :
    (∃ vals', RIs (w3.setCell ⟨g, i, none⟩ (.slice (some ⟨q, 0, none⟩) n cap)) B p v vals' (rof (D.put i s')) ∧ NewOr w1 vals vals') ∧ Fr2 B w1 (w3.setCell ⟨g, i, none⟩ (.slice (some ⟨q, 0, none⟩) n cap)) := by
  have hs : StrsAt w3 (.slice (some ⟨q, 0, none⟩) n cap) s'.vals := by
    subst hn
    rcases hown.2 with ⟨e, _⟩ | ⟨q', cap', cur, e, _, hq, hc1, hc2, hc3, hc4⟩
    · cases e
    · injection e with e1 _ e2; injection e1 with e1; injection e1 with e1
      subst e1; subst e2
      unfold maxLen at hc2
      refine ⟨q, cap, cur, rfl, hq, hc1, by omega, fun j x hj => ?_⟩
      have h2 : (s'.vals.map str)[j]? = some (str x) := by simp [hj]
      rw [← hc4, List.getElem?_take] at h2
      split at h2
      · rw [Array.getElem?_toList] at h2; exact h2
      · cases h2
  obtain ⟨r1, r2⟩ := (h.below hb).put g gc hv i s' hi _ hs
  exact ⟨⟨_, r1, (NewOr.refl _ _).put i (fun k hk => (hown.lt k hk).1)⟩, (Fr2.of_below hb h.bw).trans r2⟩

set_option maxRecDepth 100000 in
set_option maxHeartbeats 1000000 in
theorem rStore_ok (w : World) (B p : Nat) (v : Value) (vals : List Value) (D : Dk) (h : RIs w B p v vals (rof D)) (i : Nat) (s : Sec) (hi : D.secs[i]? = some s) (xb xc : Nat) (hc : D.can = true) (hn : s.wait.length ≤ 1000000)
    (x : List UInt8) (hx : x.length = 256) (cur : Array Value) (fz : Nat × Nat) (hxb : w.heap[xb]? = some (.cells cur 5 fz)) (hB : BytesAt w (some ⟨xb, 0, none⟩) x) :
    Calls Try.prog 17 #[.pointer (some ⟨p, 0, none⟩), .int .i64 i, .slice (some ⟨xb, 0, none⟩) 256 xc] w fun e w' => e = .returned (.int .i64 0) ∧ (∃ vals', RIs w' B p v vals' (rof (D.moved.put i (s.add x))) ∧ NewOr w vals vals') ∧ Fr2 B w w' := by
  have H := hide (rmove_any w B p v vals D h)
  obtain ⟨g, gc, _, _, hv, -⟩ := h.mem i s hi
  subst hv
  have c0 := h.cells.1
  clear h
  rw [hc] at H
  have hil := (List.getElem?_eq_some_iff.1 hi).1
  have hd2 : decide ((D.secs.length : Int) ≤ i) = false := by simp; omega
  have HXB := hide hxb
  have HBY := hide hB
  have HI := hide hi
  clear hxb hB hi
  go_enter Try.func17, Try.ntmps17
  go_wp2_with fail
  refine (unhide H).mono ?_
  rintro e w1 ⟨rfl, h1, h2⟩
  have H1 := hide h1
  have H2 := hide h2
  clear h1 h2
  go_wp2
  have h1 := unhide H1
  have h2 := unhide H2
  clear H1 H2
  have hi1 : D.moved.secs[i]? = some s := by rw [Dk.moved_secs]; exact unhide HI
  have hL : D.moved.secs.length = D.secs.length := by rw [Dk.moved_secs]
  obtain ⟨g', gc', q, c, hv, c1, f1, hc1, hc2, hcs⟩ := h1.mem i s hi1
  injection hv with hv1 hv0 hv2
  clear hv0
  injection hv1 with hv1
  injection hv1 with hv1
  subst hv1
  subst hv2
  have c0' := h1.cells.1
  have hgb := h1.kinds.2 g rfl
  have hpg : p ≠ g := fun e => h1.kinds.1 (by subst e; rfl)
  have hxb1 : w1.heap[xb]? = some (.cells cur 5 fz) := (h2.other xb cur _ fz (unhide HXB) (by decide) (by decide)).trans (unhide HXB)
  have hxg : xb ≠ g := by
    intro e; subst e
    obtain ⟨cur', hg'⟩ := hgb
    have := hxb1.symm.trans hg'
    simp at this
  have hB1 : BytesAt w1 (some ⟨xb, 0, none⟩) x := by
    refine ⟨(fun e => by cases e), fun ad e j u hu => ?_⟩
    have := (unhide HBY).2 ad e j u hu
    injection e with e
    subst e
    rw [Addr.add_mid] at this ⊢
    rw [cell_of_row _ _ _ _ _ _ hxb1]
    rwa [cell_of_row _ _ _ _ _ _ (unhide HXB)] at this
  have hgl : g < w1.heap.size := World.block_lt_of_cell? w1 _ c1
  have hpl : p < w1.heap.size := World.block_lt_of_cell? w1 _ c0'
  have HC : Hid (∀ W, BytesAt W (some ⟨xb, 0, none⟩) x → (convert 37 9 (.slice (some ⟨xb, 0, none⟩) 256 xc)).run Try.prog W = .ok (str x) W) := fun W hW => by
    have := conv_bytes W (some ⟨xb, 0, none⟩) x xc hW
    rwa [hx] at this
  have HS : Hid (∀ W, Below w1.heap.size w1 W → W.cell? ⟨p, 0, none⟩ = some (.slice (some ⟨g, 0, none⟩) D.secs.length gc) ∧ (convert 37 9 (.slice (some ⟨xb, 0, none⟩) 256 xc)).run Try.prog W = .ok (str x) W) := fun W b =>
    ⟨(b.cell (p := ⟨p, 0, none⟩) hpl).trans c0', unhide HC W (bytes_below hB1 b)⟩
  have HSF : Hid (∀ W u, Below w1.heap.size w1 W → (W.setCell ⟨g, i, none⟩ u).cell? ⟨p, 0, none⟩ = some (.slice (some ⟨g, 0, none⟩) D.secs.length gc) ∧ (convert 37 9 (.slice (some ⟨xb, 0, none⟩) 256 xc)).run Try.prog (W.setCell ⟨g, i, none⟩ u) = .ok (str x) (W.setCell ⟨g, i, none⟩ u)) := fun W u b => by
    have hk : ∀ k, k ≠ g → (W.setCell ⟨g, i, none⟩ u).heap[k]? = W.heap[k]? := fun k hk => Below.heap_setCell _ _ _ _ hk
    refine ⟨(World.cell?_of_block (w := W) (hk p hpg)).trans ((b.cell (p := ⟨p, 0, none⟩) hpl).trans c0'), unhide HC _ ⟨(fun e => by cases e), fun ad e j v hv => ?_⟩⟩
    have := (bytes_below hB1 b).2 ad e j v hv
    injection e with e
    subst e
    rw [Addr.add_mid] at this ⊢
    exact (World.cell?_of_block (w := W) (hk xb hxg)).trans this
  have HF : Hid (∀ w3 q3 cap, Below w1.heap.size w1 w3 → w3.ownsRow w1.heap.size 9 1 (.slice (some ⟨q3, 0, none⟩) (s.wait.length + 1 + 1) cap) (s.wait.length + 1 + 1) (s.vals.map str ++ [str x]) →
      (∃ vals', RIs (w3.setCell ⟨g, i, none⟩ (.slice (some ⟨q3, 0, none⟩) (s.wait.length + 1 + 1) cap)) B p (.slice (some ⟨g, 0, none⟩) D.secs.length gc) vals' (rof (D.moved.put i (s.add x))) ∧ NewOr w vals vals') ∧ Fr2 B w (w3.setCell ⟨g, i, none⟩ (.slice (some ⟨q3, 0, none⟩) (s.wait.length + 1 + 1) cap))) := fun w3 q3 cap hb hown => by
    have e : (s.add x).vals.map str = s.vals.map str ++ [str x] := by simp [Sec.vals, Sec.add]
    rw [← e] at hown
    obtain ⟨⟨vals', r1, nw⟩, r2⟩ := rput_fin h1 g gc (by rw [hL]) i (by omega) (s.add x) hb q3 cap _ (by simp [Sec.vals, Sec.add]) hown
    exact ⟨⟨vals', r1, nw.later h2.below.size⟩, h2.trans r2⟩
  have gA := cell_alloc c1 (.cells #[] 9)
  have gX := cell_alloc c1 (.cells #[str x] 9)
  have gAX := cell_alloc gA (.cells #[str x] 9)
  have gXA := cell_alloc gX (.cells #[] 9)
  have HGL := hide hgl
  have HLEN : Hid ((s.vals.map str).length = (s.wait.length + 1) * 1) := by unfold Hid; simp [Sec.vals]
  have HONE : Hid (∀ u ∈ s.vals.map str, u.oneCell' = true) := fun u hu => by
    obtain ⟨y, _, rfl⟩ := List.mem_map.1 hu
    rfl
  have HNEWS : Hid (∀ W, Below w1.heap.size w1 W → ∀ j u, (s.vals.map str)[j]? = some u → W.cell? ((⟨q, 0, none⟩ : Addr).add j) = some u) := fun W b j u hu => by
    have hj := (List.getElem?_eq_some_iff.1 hu).1
    rw [List.length_map, Sec.vals_len] at hj
    rw [List.getElem?_map, s.vals_get j (by omega)] at hu
    have hu' := Option.some.inj hu
    subst hu'
    rw [Addr.add_mid, Nat.zero_add]
    have h3 := hcs j (by omega)
    exact (b.cell (p := ⟨q, j, none⟩) (World.block_lt_of_cell? w1 _ h3)).trans h3
  have HMX : Hid (0 + (s.wait.length + 1) ≤ maxLen ∧ (0 + (s.wait.length + 1)) * 16 ≤ 140737488355328 ∧ s.wait.length + 1 + 1 ≤ maxLen ∧ (s.wait.length + 1 + 1) * 16 ≤ 140737488355328) := by
    unfold Hid maxLen
    omega
  have hil2 : (i : Int) < D.secs.length := by omega
  obtain ⟨i0, hi0, hz0, hz1, hz2⟩ := info_parts infoStr
  clear h1 h2 hgb hxb1 hB1 HC hi1 hcs hL hpg hxg hx hn hc hpl hgl c0 hc1 hc2
  -- REGION
  refine wp_region_held_drew (S := fun W => W.cell? ⟨p, 0, none⟩ = some (.slice (some ⟨g, 0, none⟩) D.secs.length gc) ∧ (convert 37 9 (.slice (some ⟨xb, 0, none⟩) 256 xc)).run Try.prog W = .ok (str x) W) (by kernel_rfl) (unhide HS _ (Below.refl _ _).drew) (fun hH => ?_)
  refine wpAnyH_take (i := 0) (v := ?_) rfl (by kernel_rfl) (by kernel_rfl) (by kernel_rfl) (fun _ _ _ h => h) (Or.inl ⟨by rfl, ?_⟩) hH ?_
  rotate_left
  · rintro W ⟨hs1, hs2⟩; go_simp; rfl
  refine wpAnyH_take (i := 1) (v := ?_) rfl (by kernel_rfl) (by kernel_rfl) (by kernel_rfl) (fun _ _ _ h => h) (Or.inl ⟨by rfl, ?_⟩) hH ?_
  rotate_left
  · rintro W ⟨hs1, hs2⟩; go_simp; rfl
  refine wpAnyH_take (i := 2) (v := ?_) rfl (by kernel_rfl) (by kernel_rfl) (by kernel_rfl) (fun _ _ _ h => h) (Or.inl ⟨by rfl, ?_⟩) hH ?_
  rotate_left
  · rintro W ⟨hs1, hs2⟩; go_simp; rfl
  refine wpAnyH_take (i := 3) (v := ?_) rfl (by kernel_rfl) (by kernel_rfl) (by kernel_rfl) (fun _ _ _ h => h) (Or.inl ⟨by rfl, ?_⟩) hH ?_
  rotate_left
  · rintro W ⟨hs1, hs2⟩; go_simp; rfl
  refine wpAnyH_take (i := 4) (v := ?_) rfl (by kernel_rfl) (by kernel_rfl) (by kernel_rfl) (fun _ _ _ h => h) (Or.inl ⟨by rfl, ?_⟩) hH ?_
  rotate_left
  · rintro W ⟨hs1, hs2⟩; go_simp; rfl
  refine wpAnyH_take (i := 6) (v := ?_) rfl (by kernel_rfl) (by kernel_rfl) (by kernel_rfl) (fun _ _ _ h => h) (Or.inl ⟨by rfl, ?_⟩) hH ?_
  rotate_left
  · rintro W ⟨hs1, hs2⟩; go_simp; rfl
  refine wpAnyH_take (i := 7) (v := ?_) rfl (by kernel_rfl) (by kernel_rfl) (by kernel_rfl) (fun _ _ _ h => h) (Or.inl ⟨by rfl, ?_⟩) hH ?_
  rotate_left
  · rintro W ⟨hs1, hs2⟩; go_simp; rfl
  refine wpAnyH_take (i := 8) (v := ?_) rfl (by kernel_rfl) (by kernel_rfl) (by kernel_rfl) (fun _ _ _ h => h) (Or.inl ⟨by rfl, ?_⟩) hH ?_
  rotate_left
  · rintro W ⟨hs1, hs2⟩; go_simp; rfl
  refine wpAnyH_take (i := 9) (v := ?_) rfl (by kernel_rfl) (by kernel_rfl) (by kernel_rfl) (fun _ _ _ h => h) (Or.inl ⟨by rfl, ?_⟩) hH ?_
  rotate_left
  · rintro W ⟨hs1, hs2⟩; go_simp; rfl
  refine wpAnyH_take (i := 10) (v := ?_) rfl (by kernel_rfl) (by kernel_rfl) (by kernel_rfl) (fun _ _ _ h => h) (Or.inl ⟨by rfl, ?_⟩) hH ?_
  rotate_left
  · rintro W ⟨hs1, hs2⟩; go_simp; rfl
  refine wpAnyH_take (i := 11) (v := ?_) rfl (by kernel_rfl) (by kernel_rfl) (by kernel_rfl) (fun _ _ _ h => h) (Or.inl ⟨by rfl, ?_⟩) hH ?_
  rotate_left
  · rintro W ⟨hs1, hs2⟩; go_simp; rfl
  refine wpAnyH_take (i := 14) (v := ?_) rfl (by kernel_rfl) (by kernel_rfl) (by kernel_rfl) (fun _ _ _ h => h) (Or.inl ⟨by rfl, ?_⟩) hH ?_
  rotate_left
  · rintro W ⟨hs1, hs2⟩; go_simp; rfl
  refine wpAnyH_take (i := 15) (v := ?_) rfl (by kernel_rfl) (by kernel_rfl) (by kernel_rfl) (fun _ _ _ h => h) (Or.inl ⟨by rfl, ?_⟩) hH ?_
  rotate_left
  · rintro W ⟨hs1, hs2⟩; go_simp; rfl
  refine wpAnyH_ready (rs := [5, 12, 16]) (by kernel_rfl) (by simp) ?_
  refine (AllReadyH.cons rfl (fun K hK => ?_) (AllReadyH.cons rfl (fun K hK => ?_) (AllReadyH.cons rfl (fun K hK => ?_) AllReadyH.nil)))
  · skip
    go_simp
    refine hK.out _ _ (unhide HS _ (by repeat (first | exact Below.refl _ _ | exact unhide (by assumption) | refine Below.drew ?_ | refine Below.alloc ?_ (by first | exact unhide (by assumption) | (simp; try omega)) _))) (fun hH => ?_); clear hK K
    refine wpAnyH_ready (rs := [12, 16]) (by kernel_rfl) (by simp) ?_
    refine (AllReadyH.cons rfl (fun K hK => ?_) (AllReadyH.cons rfl (fun K hK => ?_) AllReadyH.nil))
    · skip
      go_simp
      refine hK.out _ _ (unhide HS _ (by repeat (first | exact Below.refl _ _ | exact unhide (by assumption) | refine Below.drew ?_ | refine Below.alloc ?_ (by first | exact unhide (by assumption) | (simp; try omega)) _))) (fun hH => ?_); clear hK K
      refine wpAnyH_ready (rs := [13, 16]) (by kernel_rfl) (by simp) ?_
      refine (AllReadyH.cons rfl (fun K hK => ?_) (AllReadyH.cons rfl (fun K hK => ?_) AllReadyH.nil))
      · skip
        refine step_append_lies _ rfl (.tmp 31) (.tmp 38) 68 rfl w1.heap.size 9 i0 (.string ⟨#[]⟩) 1 16 Try.underlying68 hi0 hz0 hz1 hz2 rfl (by decide) (.slice (some ⟨w1.heap.size, 0, none⟩) 0 0) 0 [] rfl (own_new (heap_alloc_last w1 _) (by omega)) ⟨q, 0, none⟩ (s.wait.length + 1) c (s.vals.map str) rfl (unhide HLEN) (unhide HNEWS _ (by repeat (first | exact Below.refl _ _ | exact unhide (by assumption) | refine Below.drew ?_ | refine Below.alloc ?_ (by first | exact unhide (by assumption) | (simp; try omega)) _))) (unhide HONE) (by omega) (unhide HMX).1 (unhide HMX).2.1 (by first | (simp; done) | (simp; omega)) _ rfl ?_
        intro q2 cap2 w2 hown2 hgrow2 hat2 hqlt2
        simp only [Nat.zero_add, List.nil_append] at hown2 ⊢
        have B2 : Hid (Below w1.heap.size w1 w2) := Below.grown (w := (w1.alloc (.cells #[] 9)).drew) (by repeat (first | exact Below.refl _ _ | exact unhide (by assumption) | refine Below.drew ?_ | refine Below.alloc ?_ (by first | exact unhide (by assumption) | (simp; try omega)) _)) hgrow2 (by first | (simp; done) | (simp; omega)) (fun k hk => by simp [Value.ownBlock] at hk; omega)
        have hs2 : Hid (w1.heap.size ≤ w2.heap.size) := (unhide B2).size
        have HO2 := hide hown2
        clear hown2 hgrow2 hat2 hqlt2
        refine hK.out _ _ (unhide HS _ (unhide B2)) (fun hH => ?_); clear hK K
        refine wpAnyH_ready (rs := [16]) (by kernel_rfl) (by simp) ?_
        refine (AllReadyH.cons rfl (fun K hK => ?_) AllReadyH.nil)
        · skip
          go_simp
          refine hK.out _ _ (unhide HS _ (by repeat (first | exact Below.refl _ _ | exact unhide (by assumption) | refine Below.drew ?_ | refine Below.alloc ?_ (by first | exact unhide (by assumption) | (simp; try omega)) _))) (fun hH => ?_); clear hK K
          refine wpAnyH_ready (rs := [17]) (by kernel_rfl) (by simp) ?_
          refine (AllReadyH.cons rfl (fun K hK => ?_) AllReadyH.nil)
          · skip
            refine step_append_lies _ rfl (.tmp 39) (.tmp 42) 68 rfl w1.heap.size 9 i0 (.string ⟨#[]⟩) 1 16 Try.underlying68 hi0 hz0 hz1 hz2 rfl (by decide) (.slice (some ⟨q2, 0, none⟩) (s.wait.length + 1) cap2) (s.wait.length + 1) (s.vals.map str) rfl (own_below (unhide HO2) ((Below.refl _ _).alloc (Nat.le_refl _) _)) ⟨w2.heap.size, 0, none⟩ 1 1 [str x] rfl rfl (World.news_of_block (heap_alloc_last w2 _)) (by intro u hu; simp at hu; subst hu; rfl) (by decide) (unhide HMX).2.2.1 (unhide HMX).2.2.2 (by first | exact unhide hs2 | (simp; have := unhide hs2; omega)) _ rfl ?_
            intro q3 cap3 w3 hown3 hgrow3 hat3 hqlt3
            have B3 : Hid (Below w1.heap.size w1 w3) := Below.grown (w := (w2.alloc (.cells #[str x] 9))) (by repeat (first | exact Below.refl _ _ | exact unhide (by assumption) | refine Below.drew ?_ | refine Below.alloc ?_ (by first | exact unhide (by assumption) | (simp; try omega)) _)) hgrow3 (by first | exact unhide hs2 | (simp; have := unhide hs2; omega)) (fun k hk => by simp [Value.ownBlock] at hk; have := ((unhide HO2).lt q2 rfl).1; omega)
            have HO3 := hide hown3
            have k1 : w3.cell? ⟨g, i, none⟩ = some (.slice (some ⟨q, 0, none⟩) (s.wait.length + 1) c) := ((unhide B3).cell (p := ⟨g, i, none⟩) (unhide HGL)).trans c1
            have k2 : w3.frozen? ⟨g, i, none⟩ = false := ((unhide B3).frozen (p := ⟨g, i, none⟩) (unhide HGL)).trans f1
            clear hown3 hgrow3 hat3 hqlt3
            refine hK.out _ _ (unhide HS _ (unhide B3)) (fun hH => ?_); clear hK K
            refine wpAnyH_take (i := 18) (v := ?_) rfl (by kernel_rfl) (by kernel_rfl) (by kernel_rfl) (fun _ _ _ h => h) (Or.inl ⟨by rfl, ?_⟩) hH ?_
            rotate_left
            · rintro W ⟨hs1, hs2⟩; go_simp; rfl
            refine wpAnyH_ready (rs := [19]) (by kernel_rfl) (by simp) ?_
            refine AllReadyH.cons rfl (fun K hK => ?_) AllReadyH.nil
            go_simp
            refine hK.out _ _ (unhide HSF _ _ (unhide B3)) (fun hH => ?_); clear hK K
            refine wpAnyH_done (by kernel_rfl) ?_ _
            clear hH k1 k2
            go_wp2
            go_ret
            exact ⟨rfl, unhide HF w3 q3 cap3 (unhide B3) (unhide HO3)⟩
      · skip
        go_simp
        refine hK.out _ _ (unhide HS _ (by repeat (first | exact Below.refl _ _ | exact unhide (by assumption) | refine Below.drew ?_ | refine Below.alloc ?_ (by first | exact unhide (by assumption) | (simp; try omega)) _))) (fun hH => ?_); clear hK K
        refine wpAnyH_ready (rs := [13]) (by kernel_rfl) (by simp) ?_
        refine (AllReadyH.cons rfl (fun K hK => ?_) AllReadyH.nil)
        · skip
          refine step_append_lies _ rfl (.tmp 31) (.tmp 38) 68 rfl w1.heap.size 9 i0 (.string ⟨#[]⟩) 1 16 Try.underlying68 hi0 hz0 hz1 hz2 rfl (by decide) (.slice (some ⟨w1.heap.size, 0, none⟩) 0 0) 0 [] rfl (own_new ((Below.heap_alloc _ _ _ (by simp)).trans (heap_alloc_last w1 _)) (by omega)) ⟨q, 0, none⟩ (s.wait.length + 1) c (s.vals.map str) rfl (unhide HLEN) (unhide HNEWS _ (by repeat (first | exact Below.refl _ _ | exact unhide (by assumption) | refine Below.drew ?_ | refine Below.alloc ?_ (by first | exact unhide (by assumption) | (simp; try omega)) _))) (unhide HONE) (by omega) (unhide HMX).1 (unhide HMX).2.1 (by first | (simp; done) | (simp; omega)) _ rfl ?_
          intro q2 cap2 w2 hown2 hgrow2 hat2 hqlt2
          simp only [Nat.zero_add, List.nil_append] at hown2 ⊢
          have B2 : Hid (Below w1.heap.size w1 w2) := Below.grown (w := ((w1.alloc (.cells #[] 9)).alloc (.cells #[str x] 9)).drew) (by repeat (first | exact Below.refl _ _ | exact unhide (by assumption) | refine Below.drew ?_ | refine Below.alloc ?_ (by first | exact unhide (by assumption) | (simp; try omega)) _)) hgrow2 (by first | (simp; done) | (simp; omega)) (fun k hk => by simp [Value.ownBlock] at hk; omega)
          have hs2 : Hid (w1.heap.size ≤ w2.heap.size) := (unhide B2).size
          have HO2 := hide hown2
          have HX2 : Hid (w2.heap[w1.heap.size + 1]? = some (.cells #[str x] 9 (0, 0))) := (hgrow2.block (w1.heap.size + 1) (by first | (simp; done) | (simp; omega)) (by simp [Value.ownBlock]; try omega)).trans (heap_alloc2_new w1 _ _)
          clear hown2 hgrow2 hat2 hqlt2
          refine hK.out _ _ (unhide HS _ (unhide B2)) (fun hH => ?_); clear hK K
          refine wpAnyH_ready (rs := [17]) (by kernel_rfl) (by simp) ?_
          refine (AllReadyH.cons rfl (fun K hK => ?_) AllReadyH.nil)
          · skip
            refine step_append_lies _ rfl (.tmp 39) (.tmp 42) 68 rfl w1.heap.size 9 i0 (.string ⟨#[]⟩) 1 16 Try.underlying68 hi0 hz0 hz1 hz2 rfl (by decide) (.slice (some ⟨q2, 0, none⟩) (s.wait.length + 1) cap2) (s.wait.length + 1) (s.vals.map str) rfl (unhide HO2) ⟨w1.heap.size + 1, 0, none⟩ 1 1 [str x] rfl rfl (World.news_of_block (unhide HX2)) (by intro u hu; simp at hu; subst hu; rfl) (by decide) (unhide HMX).2.2.1 (unhide HMX).2.2.2 (by first | exact unhide hs2 | (simp; have := unhide hs2; omega)) _ rfl ?_
            intro q3 cap3 w3 hown3 hgrow3 hat3 hqlt3
            have B3 : Hid (Below w1.heap.size w1 w3) := Below.grown (w := w2) (by repeat (first | exact Below.refl _ _ | exact unhide (by assumption) | refine Below.drew ?_ | refine Below.alloc ?_ (by first | exact unhide (by assumption) | (simp; try omega)) _)) hgrow3 (by first | exact unhide hs2 | (simp; have := unhide hs2; omega)) (fun k hk => by simp [Value.ownBlock] at hk; have := ((unhide HO2).lt q2 rfl).1; omega)
            have HO3 := hide hown3
            have k1 : w3.cell? ⟨g, i, none⟩ = some (.slice (some ⟨q, 0, none⟩) (s.wait.length + 1) c) := ((unhide B3).cell (p := ⟨g, i, none⟩) (unhide HGL)).trans c1
            have k2 : w3.frozen? ⟨g, i, none⟩ = false := ((unhide B3).frozen (p := ⟨g, i, none⟩) (unhide HGL)).trans f1
            clear hown3 hgrow3 hat3 hqlt3
            refine hK.out _ _ (unhide HS _ (unhide B3)) (fun hH => ?_); clear hK K
            refine wpAnyH_take (i := 18) (v := ?_) rfl (by kernel_rfl) (by kernel_rfl) (by kernel_rfl) (fun _ _ _ h => h) (Or.inl ⟨by rfl, ?_⟩) hH ?_
            rotate_left
            · rintro W ⟨hs1, hs2⟩; go_simp; rfl
            refine wpAnyH_ready (rs := [19]) (by kernel_rfl) (by simp) ?_
            refine AllReadyH.cons rfl (fun K hK => ?_) AllReadyH.nil
            go_simp
            refine hK.out _ _ (unhide HSF _ _ (unhide B3)) (fun hH => ?_); clear hK K
            refine wpAnyH_done (by kernel_rfl) ?_ _
            clear hH k1 k2
            go_wp2
            go_ret
            exact ⟨rfl, unhide HF w3 q3 cap3 (unhide B3) (unhide HO3)⟩
    · skip
      go_simp
      refine hK.out _ _ (unhide HS _ (by repeat (first | exact Below.refl _ _ | exact unhide (by assumption) | refine Below.drew ?_ | refine Below.alloc ?_ (by first | exact unhide (by assumption) | (simp; try omega)) _))) (fun hH => ?_); clear hK K
      refine wpAnyH_ready (rs := [12]) (by kernel_rfl) (by simp) ?_
      refine (AllReadyH.cons rfl (fun K hK => ?_) AllReadyH.nil)
      · skip
        go_simp
        refine hK.out _ _ (unhide HS _ (by repeat (first | exact Below.refl _ _ | exact unhide (by assumption) | refine Below.drew ?_ | refine Below.alloc ?_ (by first | exact unhide (by assumption) | (simp; try omega)) _))) (fun hH => ?_); clear hK K
        refine wpAnyH_ready (rs := [13]) (by kernel_rfl) (by simp) ?_
        refine (AllReadyH.cons rfl (fun K hK => ?_) AllReadyH.nil)
        · skip
          refine step_append_lies _ rfl (.tmp 31) (.tmp 38) 68 rfl w1.heap.size 9 i0 (.string ⟨#[]⟩) 1 16 Try.underlying68 hi0 hz0 hz1 hz2 rfl (by decide) (.slice (some ⟨w1.heap.size, 0, none⟩) 0 0) 0 [] rfl (own_new ((Below.heap_alloc _ _ _ (by simp)).trans (heap_alloc_last w1 _)) (by omega)) ⟨q, 0, none⟩ (s.wait.length + 1) c (s.vals.map str) rfl (unhide HLEN) (unhide HNEWS _ (by repeat (first | exact Below.refl _ _ | exact unhide (by assumption) | refine Below.drew ?_ | refine Below.alloc ?_ (by first | exact unhide (by assumption) | (simp; try omega)) _))) (unhide HONE) (by omega) (unhide HMX).1 (unhide HMX).2.1 (by first | (simp; done) | (simp; omega)) _ rfl ?_
          intro q2 cap2 w2 hown2 hgrow2 hat2 hqlt2
          simp only [Nat.zero_add, List.nil_append] at hown2 ⊢
          have B2 : Hid (Below w1.heap.size w1 w2) := Below.grown (w := ((w1.alloc (.cells #[] 9)).alloc (.cells #[str x] 9)).drew) (by repeat (first | exact Below.refl _ _ | exact unhide (by assumption) | refine Below.drew ?_ | refine Below.alloc ?_ (by first | exact unhide (by assumption) | (simp; try omega)) _)) hgrow2 (by first | (simp; done) | (simp; omega)) (fun k hk => by simp [Value.ownBlock] at hk; omega)
          have hs2 : Hid (w1.heap.size ≤ w2.heap.size) := (unhide B2).size
          have HO2 := hide hown2
          have HX2 : Hid (w2.heap[w1.heap.size + 1]? = some (.cells #[str x] 9 (0, 0))) := (hgrow2.block (w1.heap.size + 1) (by first | (simp; done) | (simp; omega)) (by simp [Value.ownBlock]; try omega)).trans (heap_alloc2_new w1 _ _)
          clear hown2 hgrow2 hat2 hqlt2
          refine hK.out _ _ (unhide HS _ (unhide B2)) (fun hH => ?_); clear hK K
          refine wpAnyH_ready (rs := [17]) (by kernel_rfl) (by simp) ?_
          refine (AllReadyH.cons rfl (fun K hK => ?_) AllReadyH.nil)
          · skip
            refine step_append_lies _ rfl (.tmp 39) (.tmp 42) 68 rfl w1.heap.size 9 i0 (.string ⟨#[]⟩) 1 16 Try.underlying68 hi0 hz0 hz1 hz2 rfl (by decide) (.slice (some ⟨q2, 0, none⟩) (s.wait.length + 1) cap2) (s.wait.length + 1) (s.vals.map str) rfl (unhide HO2) ⟨w1.heap.size + 1, 0, none⟩ 1 1 [str x] rfl rfl (World.news_of_block (unhide HX2)) (by intro u hu; simp at hu; subst hu; rfl) (by decide) (unhide HMX).2.2.1 (unhide HMX).2.2.2 (by first | exact unhide hs2 | (simp; have := unhide hs2; omega)) _ rfl ?_
            intro q3 cap3 w3 hown3 hgrow3 hat3 hqlt3
            have B3 : Hid (Below w1.heap.size w1 w3) := Below.grown (w := w2) (by repeat (first | exact Below.refl _ _ | exact unhide (by assumption) | refine Below.drew ?_ | refine Below.alloc ?_ (by first | exact unhide (by assumption) | (simp; try omega)) _)) hgrow3 (by first | exact unhide hs2 | (simp; have := unhide hs2; omega)) (fun k hk => by simp [Value.ownBlock] at hk; have := ((unhide HO2).lt q2 rfl).1; omega)
            have HO3 := hide hown3
            have k1 : w3.cell? ⟨g, i, none⟩ = some (.slice (some ⟨q, 0, none⟩) (s.wait.length + 1) c) := ((unhide B3).cell (p := ⟨g, i, none⟩) (unhide HGL)).trans c1
            have k2 : w3.frozen? ⟨g, i, none⟩ = false := ((unhide B3).frozen (p := ⟨g, i, none⟩) (unhide HGL)).trans f1
            clear hown3 hgrow3 hat3 hqlt3
            refine hK.out _ _ (unhide HS _ (unhide B3)) (fun hH => ?_); clear hK K
            refine wpAnyH_take (i := 18) (v := ?_) rfl (by kernel_rfl) (by kernel_rfl) (by kernel_rfl) (fun _ _ _ h => h) (Or.inl ⟨by rfl, ?_⟩) hH ?_
            rotate_left
            · rintro W ⟨hs1, hs2⟩; go_simp; rfl
            refine wpAnyH_ready (rs := [19]) (by kernel_rfl) (by simp) ?_
            refine AllReadyH.cons rfl (fun K hK => ?_) AllReadyH.nil
            go_simp
            refine hK.out _ _ (unhide HSF _ _ (unhide B3)) (fun hH => ?_); clear hK K
            refine wpAnyH_done (by kernel_rfl) ?_ _
            clear hH k1 k2
            go_wp2
            go_ret
            exact ⟨rfl, unhide HF w3 q3 cap3 (unhide B3) (unhide HO3)⟩
  · skip
    go_simp
    refine hK.out _ _ (unhide HS _ (by repeat (first | exact Below.refl _ _ | exact unhide (by assumption) | refine Below.drew ?_ | refine Below.alloc ?_ (by first | exact unhide (by assumption) | (simp; try omega)) _))) (fun hH => ?_); clear hK K
    refine wpAnyH_ready (rs := [5, 16]) (by kernel_rfl) (by simp) ?_
    refine (AllReadyH.cons rfl (fun K hK => ?_) (AllReadyH.cons rfl (fun K hK => ?_) AllReadyH.nil))
    · skip
      go_simp
      refine hK.out _ _ (unhide HS _ (by repeat (first | exact Below.refl _ _ | exact unhide (by assumption) | refine Below.drew ?_ | refine Below.alloc ?_ (by first | exact unhide (by assumption) | (simp; try omega)) _))) (fun hH => ?_); clear hK K
      refine wpAnyH_ready (rs := [13, 16]) (by kernel_rfl) (by simp) ?_
      refine (AllReadyH.cons rfl (fun K hK => ?_) (AllReadyH.cons rfl (fun K hK => ?_) AllReadyH.nil))
      · skip
        refine step_append_lies _ rfl (.tmp 31) (.tmp 38) 68 rfl w1.heap.size 9 i0 (.string ⟨#[]⟩) 1 16 Try.underlying68 hi0 hz0 hz1 hz2 rfl (by decide) (.slice (some ⟨w1.heap.size, 0, none⟩) 0 0) 0 [] rfl (own_new (heap_alloc_last w1 _) (by omega)) ⟨q, 0, none⟩ (s.wait.length + 1) c (s.vals.map str) rfl (unhide HLEN) (unhide HNEWS _ (by repeat (first | exact Below.refl _ _ | exact unhide (by assumption) | refine Below.drew ?_ | refine Below.alloc ?_ (by first | exact unhide (by assumption) | (simp; try omega)) _))) (unhide HONE) (by omega) (unhide HMX).1 (unhide HMX).2.1 (by first | (simp; done) | (simp; omega)) _ rfl ?_
        intro q2 cap2 w2 hown2 hgrow2 hat2 hqlt2
        simp only [Nat.zero_add, List.nil_append] at hown2 ⊢
        have B2 : Hid (Below w1.heap.size w1 w2) := Below.grown (w := (w1.alloc (.cells #[] 9)).drew) (by repeat (first | exact Below.refl _ _ | exact unhide (by assumption) | refine Below.drew ?_ | refine Below.alloc ?_ (by first | exact unhide (by assumption) | (simp; try omega)) _)) hgrow2 (by first | (simp; done) | (simp; omega)) (fun k hk => by simp [Value.ownBlock] at hk; omega)
        have hs2 : Hid (w1.heap.size ≤ w2.heap.size) := (unhide B2).size
        have HO2 := hide hown2
        clear hown2 hgrow2 hat2 hqlt2
        refine hK.out _ _ (unhide HS _ (unhide B2)) (fun hH => ?_); clear hK K
        refine wpAnyH_ready (rs := [16]) (by kernel_rfl) (by simp) ?_
        refine (AllReadyH.cons rfl (fun K hK => ?_) AllReadyH.nil)
        · skip
          go_simp
          refine hK.out _ _ (unhide HS _ (by repeat (first | exact Below.refl _ _ | exact unhide (by assumption) | refine Below.drew ?_ | refine Below.alloc ?_ (by first | exact unhide (by assumption) | (simp; try omega)) _))) (fun hH => ?_); clear hK K
          refine wpAnyH_ready (rs := [17]) (by kernel_rfl) (by simp) ?_
          refine (AllReadyH.cons rfl (fun K hK => ?_) AllReadyH.nil)
          · skip
            refine step_append_lies _ rfl (.tmp 39) (.tmp 42) 68 rfl w1.heap.size 9 i0 (.string ⟨#[]⟩) 1 16 Try.underlying68 hi0 hz0 hz1 hz2 rfl (by decide) (.slice (some ⟨q2, 0, none⟩) (s.wait.length + 1) cap2) (s.wait.length + 1) (s.vals.map str) rfl (own_below (unhide HO2) ((Below.refl _ _).alloc (Nat.le_refl _) _)) ⟨w2.heap.size, 0, none⟩ 1 1 [str x] rfl rfl (World.news_of_block (heap_alloc_last w2 _)) (by intro u hu; simp at hu; subst hu; rfl) (by decide) (unhide HMX).2.2.1 (unhide HMX).2.2.2 (by first | exact unhide hs2 | (simp; have := unhide hs2; omega)) _ rfl ?_
            intro q3 cap3 w3 hown3 hgrow3 hat3 hqlt3
            have B3 : Hid (Below w1.heap.size w1 w3) := Below.grown (w := (w2.alloc (.cells #[str x] 9))) (by repeat (first | exact Below.refl _ _ | exact unhide (by assumption) | refine Below.drew ?_ | refine Below.alloc ?_ (by first | exact unhide (by assumption) | (simp; try omega)) _)) hgrow3 (by first | exact unhide hs2 | (simp; have := unhide hs2; omega)) (fun k hk => by simp [Value.ownBlock] at hk; have := ((unhide HO2).lt q2 rfl).1; omega)
            have HO3 := hide hown3
            have k1 : w3.cell? ⟨g, i, none⟩ = some (.slice (some ⟨q, 0, none⟩) (s.wait.length + 1) c) := ((unhide B3).cell (p := ⟨g, i, none⟩) (unhide HGL)).trans c1
            have k2 : w3.frozen? ⟨g, i, none⟩ = false := ((unhide B3).frozen (p := ⟨g, i, none⟩) (unhide HGL)).trans f1
            clear hown3 hgrow3 hat3 hqlt3
            refine hK.out _ _ (unhide HS _ (unhide B3)) (fun hH => ?_); clear hK K
            refine wpAnyH_take (i := 18) (v := ?_) rfl (by kernel_rfl) (by kernel_rfl) (by kernel_rfl) (fun _ _ _ h => h) (Or.inl ⟨by rfl, ?_⟩) hH ?_
            rotate_left
            · rintro W ⟨hs1, hs2⟩; go_simp; rfl
            refine wpAnyH_ready (rs := [19]) (by kernel_rfl) (by simp) ?_
            refine AllReadyH.cons rfl (fun K hK => ?_) AllReadyH.nil
            go_simp
            refine hK.out _ _ (unhide HSF _ _ (unhide B3)) (fun hH => ?_); clear hK K
            refine wpAnyH_done (by kernel_rfl) ?_ _
            clear hH k1 k2
            go_wp2
            go_ret
            exact ⟨rfl, unhide HF w3 q3 cap3 (unhide B3) (unhide HO3)⟩
      · skip
        go_simp
        refine hK.out _ _ (unhide HS _ (by repeat (first | exact Below.refl _ _ | exact unhide (by assumption) | refine Below.drew ?_ | refine Below.alloc ?_ (by first | exact unhide (by assumption) | (simp; try omega)) _))) (fun hH => ?_); clear hK K
        refine wpAnyH_ready (rs := [13]) (by kernel_rfl) (by simp) ?_
        refine (AllReadyH.cons rfl (fun K hK => ?_) AllReadyH.nil)
        · skip
          refine step_append_lies _ rfl (.tmp 31) (.tmp 38) 68 rfl w1.heap.size 9 i0 (.string ⟨#[]⟩) 1 16 Try.underlying68 hi0 hz0 hz1 hz2 rfl (by decide) (.slice (some ⟨w1.heap.size, 0, none⟩) 0 0) 0 [] rfl (own_new ((Below.heap_alloc _ _ _ (by simp)).trans (heap_alloc_last w1 _)) (by omega)) ⟨q, 0, none⟩ (s.wait.length + 1) c (s.vals.map str) rfl (unhide HLEN) (unhide HNEWS _ (by repeat (first | exact Below.refl _ _ | exact unhide (by assumption) | refine Below.drew ?_ | refine Below.alloc ?_ (by first | exact unhide (by assumption) | (simp; try omega)) _))) (unhide HONE) (by omega) (unhide HMX).1 (unhide HMX).2.1 (by first | (simp; done) | (simp; omega)) _ rfl ?_
          intro q2 cap2 w2 hown2 hgrow2 hat2 hqlt2
          simp only [Nat.zero_add, List.nil_append] at hown2 ⊢
          have B2 : Hid (Below w1.heap.size w1 w2) := Below.grown (w := ((w1.alloc (.cells #[] 9)).alloc (.cells #[str x] 9)).drew) (by repeat (first | exact Below.refl _ _ | exact unhide (by assumption) | refine Below.drew ?_ | refine Below.alloc ?_ (by first | exact unhide (by assumption) | (simp; try omega)) _)) hgrow2 (by first | (simp; done) | (simp; omega)) (fun k hk => by simp [Value.ownBlock] at hk; omega)
          have hs2 : Hid (w1.heap.size ≤ w2.heap.size) := (unhide B2).size
          have HO2 := hide hown2
          have HX2 : Hid (w2.heap[w1.heap.size + 1]? = some (.cells #[str x] 9 (0, 0))) := (hgrow2.block (w1.heap.size + 1) (by first | (simp; done) | (simp; omega)) (by simp [Value.ownBlock]; try omega)).trans (heap_alloc2_new w1 _ _)
          clear hown2 hgrow2 hat2 hqlt2
          refine hK.out _ _ (unhide HS _ (unhide B2)) (fun hH => ?_); clear hK K
          refine wpAnyH_ready (rs := [17]) (by kernel_rfl) (by simp) ?_
          refine (AllReadyH.cons rfl (fun K hK => ?_) AllReadyH.nil)
          · skip
            refine step_append_lies _ rfl (.tmp 39) (.tmp 42) 68 rfl w1.heap.size 9 i0 (.string ⟨#[]⟩) 1 16 Try.underlying68 hi0 hz0 hz1 hz2 rfl (by decide) (.slice (some ⟨q2, 0, none⟩) (s.wait.length + 1) cap2) (s.wait.length + 1) (s.vals.map str) rfl (unhide HO2) ⟨w1.heap.size + 1, 0, none⟩ 1 1 [str x] rfl rfl (World.news_of_block (unhide HX2)) (by intro u hu; simp at hu; subst hu; rfl) (by decide) (unhide HMX).2.2.1 (unhide HMX).2.2.2 (by first | exact unhide hs2 | (simp; have := unhide hs2; omega)) _ rfl ?_
            intro q3 cap3 w3 hown3 hgrow3 hat3 hqlt3
            have B3 : Hid (Below w1.heap.size w1 w3) := Below.grown (w := w2) (by repeat (first | exact Below.refl _ _ | exact unhide (by assumption) | refine Below.drew ?_ | refine Below.alloc ?_ (by first | exact unhide (by assumption) | (simp; try omega)) _)) hgrow3 (by first | exact unhide hs2 | (simp; have := unhide hs2; omega)) (fun k hk => by simp [Value.ownBlock] at hk; have := ((unhide HO2).lt q2 rfl).1; omega)
            have HO3 := hide hown3
            have k1 : w3.cell? ⟨g, i, none⟩ = some (.slice (some ⟨q, 0, none⟩) (s.wait.length + 1) c) := ((unhide B3).cell (p := ⟨g, i, none⟩) (unhide HGL)).trans c1
            have k2 : w3.frozen? ⟨g, i, none⟩ = false := ((unhide B3).frozen (p := ⟨g, i, none⟩) (unhide HGL)).trans f1
            clear hown3 hgrow3 hat3 hqlt3
            refine hK.out _ _ (unhide HS _ (unhide B3)) (fun hH => ?_); clear hK K
            refine wpAnyH_take (i := 18) (v := ?_) rfl (by kernel_rfl) (by kernel_rfl) (by kernel_rfl) (fun _ _ _ h => h) (Or.inl ⟨by rfl, ?_⟩) hH ?_
            rotate_left
            · rintro W ⟨hs1, hs2⟩; go_simp; rfl
            refine wpAnyH_ready (rs := [19]) (by kernel_rfl) (by simp) ?_
            refine AllReadyH.cons rfl (fun K hK => ?_) AllReadyH.nil
            go_simp
            refine hK.out _ _ (unhide HSF _ _ (unhide B3)) (fun hH => ?_); clear hK K
            refine wpAnyH_done (by kernel_rfl) ?_ _
            clear hH k1 k2
            go_wp2
            go_ret
            exact ⟨rfl, unhide HF w3 q3 cap3 (unhide B3) (unhide HO3)⟩
    · skip
      go_simp
      refine hK.out _ _ (unhide HS _ (by repeat (first | exact Below.refl _ _ | exact unhide (by assumption) | refine Below.drew ?_ | refine Below.alloc ?_ (by first | exact unhide (by assumption) | (simp; try omega)) _))) (fun hH => ?_); clear hK K
      refine wpAnyH_ready (rs := [5]) (by kernel_rfl) (by simp) ?_
      refine (AllReadyH.cons rfl (fun K hK => ?_) AllReadyH.nil)
      · skip
        go_simp
        refine hK.out _ _ (unhide HS _ (by repeat (first | exact Below.refl _ _ | exact unhide (by assumption) | refine Below.drew ?_ | refine Below.alloc ?_ (by first | exact unhide (by assumption) | (simp; try omega)) _))) (fun hH => ?_); clear hK K
        refine wpAnyH_ready (rs := [13]) (by kernel_rfl) (by simp) ?_
        refine (AllReadyH.cons rfl (fun K hK => ?_) AllReadyH.nil)
        · skip
          refine step_append_lies _ rfl (.tmp 31) (.tmp 38) 68 rfl w1.heap.size 9 i0 (.string ⟨#[]⟩) 1 16 Try.underlying68 hi0 hz0 hz1 hz2 rfl (by decide) (.slice (some ⟨w1.heap.size + 1, 0, none⟩) 0 0) 0 [] rfl (own_new (heap_alloc2_new w1 _ _) (by omega)) ⟨q, 0, none⟩ (s.wait.length + 1) c (s.vals.map str) rfl (unhide HLEN) (unhide HNEWS _ (by repeat (first | exact Below.refl _ _ | exact unhide (by assumption) | refine Below.drew ?_ | refine Below.alloc ?_ (by first | exact unhide (by assumption) | (simp; try omega)) _))) (unhide HONE) (by omega) (unhide HMX).1 (unhide HMX).2.1 (by first | (simp; done) | (simp; omega)) _ rfl ?_
          intro q2 cap2 w2 hown2 hgrow2 hat2 hqlt2
          simp only [Nat.zero_add, List.nil_append] at hown2 ⊢
          have B2 : Hid (Below w1.heap.size w1 w2) := Below.grown (w := ((w1.alloc (.cells #[str x] 9)).alloc (.cells #[] 9)).drew) (by repeat (first | exact Below.refl _ _ | exact unhide (by assumption) | refine Below.drew ?_ | refine Below.alloc ?_ (by first | exact unhide (by assumption) | (simp; try omega)) _)) hgrow2 (by first | (simp; done) | (simp; omega)) (fun k hk => by simp [Value.ownBlock] at hk; omega)
          have hs2 : Hid (w1.heap.size ≤ w2.heap.size) := (unhide B2).size
          have HO2 := hide hown2
          have HX2 : Hid (w2.heap[w1.heap.size]? = some (.cells #[str x] 9 (0, 0))) := (hgrow2.block (w1.heap.size) (by first | (simp; done) | (simp; omega)) (by simp [Value.ownBlock]; try omega)).trans ((Below.heap_alloc _ _ _ (by simp)).trans (heap_alloc_last w1 _))
          clear hown2 hgrow2 hat2 hqlt2
          refine hK.out _ _ (unhide HS _ (unhide B2)) (fun hH => ?_); clear hK K
          refine wpAnyH_ready (rs := [17]) (by kernel_rfl) (by simp) ?_
          refine (AllReadyH.cons rfl (fun K hK => ?_) AllReadyH.nil)
          · skip
            refine step_append_lies _ rfl (.tmp 39) (.tmp 42) 68 rfl w1.heap.size 9 i0 (.string ⟨#[]⟩) 1 16 Try.underlying68 hi0 hz0 hz1 hz2 rfl (by decide) (.slice (some ⟨q2, 0, none⟩) (s.wait.length + 1) cap2) (s.wait.length + 1) (s.vals.map str) rfl (unhide HO2) ⟨w1.heap.size, 0, none⟩ 1 1 [str x] rfl rfl (World.news_of_block (unhide HX2)) (by intro u hu; simp at hu; subst hu; rfl) (by decide) (unhide HMX).2.2.1 (unhide HMX).2.2.2 (by first | exact unhide hs2 | (simp; have := unhide hs2; omega)) _ rfl ?_
            intro q3 cap3 w3 hown3 hgrow3 hat3 hqlt3
            have B3 : Hid (Below w1.heap.size w1 w3) := Below.grown (w := w2) (by repeat (first | exact Below.refl _ _ | exact unhide (by assumption) | refine Below.drew ?_ | refine Below.alloc ?_ (by first | exact unhide (by assumption) | (simp; try omega)) _)) hgrow3 (by first | exact unhide hs2 | (simp; have := unhide hs2; omega)) (fun k hk => by simp [Value.ownBlock] at hk; have := ((unhide HO2).lt q2 rfl).1; omega)
            have HO3 := hide hown3
            have k1 : w3.cell? ⟨g, i, none⟩ = some (.slice (some ⟨q, 0, none⟩) (s.wait.length + 1) c) := ((unhide B3).cell (p := ⟨g, i, none⟩) (unhide HGL)).trans c1
            have k2 : w3.frozen? ⟨g, i, none⟩ = false := ((unhide B3).frozen (p := ⟨g, i, none⟩) (unhide HGL)).trans f1
            clear hown3 hgrow3 hat3 hqlt3
            refine hK.out _ _ (unhide HS _ (unhide B3)) (fun hH => ?_); clear hK K
            refine wpAnyH_take (i := 18) (v := ?_) rfl (by kernel_rfl) (by kernel_rfl) (by kernel_rfl) (fun _ _ _ h => h) (Or.inl ⟨by rfl, ?_⟩) hH ?_
            rotate_left
            · rintro W ⟨hs1, hs2⟩; go_simp; rfl
            refine wpAnyH_ready (rs := [19]) (by kernel_rfl) (by simp) ?_
            refine AllReadyH.cons rfl (fun K hK => ?_) AllReadyH.nil
            go_simp
            refine hK.out _ _ (unhide HSF _ _ (unhide B3)) (fun hH => ?_); clear hK K
            refine wpAnyH_done (by kernel_rfl) ?_ _
            clear hH k1 k2
            go_wp2
            go_ret
            exact ⟨rfl, unhide HF w3 q3 cap3 (unhide B3) (unhide HO3)⟩
  · skip
    go_simp
    refine hK.out _ _ (unhide HS _ (by repeat (first | exact Below.refl _ _ | exact unhide (by assumption) | refine Below.drew ?_ | refine Below.alloc ?_ (by first | exact unhide (by assumption) | (simp; try omega)) _))) (fun hH => ?_); clear hK K
    refine wpAnyH_ready (rs := [5, 12]) (by kernel_rfl) (by simp) ?_
    refine (AllReadyH.cons rfl (fun K hK => ?_) (AllReadyH.cons rfl (fun K hK => ?_) AllReadyH.nil))
    · skip
      go_simp
      refine hK.out _ _ (unhide HS _ (by repeat (first | exact Below.refl _ _ | exact unhide (by assumption) | refine Below.drew ?_ | refine Below.alloc ?_ (by first | exact unhide (by assumption) | (simp; try omega)) _))) (fun hH => ?_); clear hK K
      refine wpAnyH_ready (rs := [12]) (by kernel_rfl) (by simp) ?_
      refine (AllReadyH.cons rfl (fun K hK => ?_) AllReadyH.nil)
      · skip
        go_simp
        refine hK.out _ _ (unhide HS _ (by repeat (first | exact Below.refl _ _ | exact unhide (by assumption) | refine Below.drew ?_ | refine Below.alloc ?_ (by first | exact unhide (by assumption) | (simp; try omega)) _))) (fun hH => ?_); clear hK K
        refine wpAnyH_ready (rs := [13]) (by kernel_rfl) (by simp) ?_
        refine (AllReadyH.cons rfl (fun K hK => ?_) AllReadyH.nil)
        · skip
          refine step_append_lies _ rfl (.tmp 31) (.tmp 38) 68 rfl w1.heap.size 9 i0 (.string ⟨#[]⟩) 1 16 Try.underlying68 hi0 hz0 hz1 hz2 rfl (by decide) (.slice (some ⟨w1.heap.size + 1, 0, none⟩) 0 0) 0 [] rfl (own_new (heap_alloc2_new w1 _ _) (by omega)) ⟨q, 0, none⟩ (s.wait.length + 1) c (s.vals.map str) rfl (unhide HLEN) (unhide HNEWS _ (by repeat (first | exact Below.refl _ _ | exact unhide (by assumption) | refine Below.drew ?_ | refine Below.alloc ?_ (by first | exact unhide (by assumption) | (simp; try omega)) _))) (unhide HONE) (by omega) (unhide HMX).1 (unhide HMX).2.1 (by first | (simp; done) | (simp; omega)) _ rfl ?_
          intro q2 cap2 w2 hown2 hgrow2 hat2 hqlt2
          simp only [Nat.zero_add, List.nil_append] at hown2 ⊢
          have B2 : Hid (Below w1.heap.size w1 w2) := Below.grown (w := ((w1.alloc (.cells #[str x] 9)).alloc (.cells #[] 9)).drew) (by repeat (first | exact Below.refl _ _ | exact unhide (by assumption) | refine Below.drew ?_ | refine Below.alloc ?_ (by first | exact unhide (by assumption) | (simp; try omega)) _)) hgrow2 (by first | (simp; done) | (simp; omega)) (fun k hk => by simp [Value.ownBlock] at hk; omega)
          have hs2 : Hid (w1.heap.size ≤ w2.heap.size) := (unhide B2).size
          have HO2 := hide hown2
          have HX2 : Hid (w2.heap[w1.heap.size]? = some (.cells #[str x] 9 (0, 0))) := (hgrow2.block (w1.heap.size) (by first | (simp; done) | (simp; omega)) (by simp [Value.ownBlock]; try omega)).trans ((Below.heap_alloc _ _ _ (by simp)).trans (heap_alloc_last w1 _))
          clear hown2 hgrow2 hat2 hqlt2
          refine hK.out _ _ (unhide HS _ (unhide B2)) (fun hH => ?_); clear hK K
          refine wpAnyH_ready (rs := [17]) (by kernel_rfl) (by simp) ?_
          refine (AllReadyH.cons rfl (fun K hK => ?_) AllReadyH.nil)
          · skip
            refine step_append_lies _ rfl (.tmp 39) (.tmp 42) 68 rfl w1.heap.size 9 i0 (.string ⟨#[]⟩) 1 16 Try.underlying68 hi0 hz0 hz1 hz2 rfl (by decide) (.slice (some ⟨q2, 0, none⟩) (s.wait.length + 1) cap2) (s.wait.length + 1) (s.vals.map str) rfl (unhide HO2) ⟨w1.heap.size, 0, none⟩ 1 1 [str x] rfl rfl (World.news_of_block (unhide HX2)) (by intro u hu; simp at hu; subst hu; rfl) (by decide) (unhide HMX).2.2.1 (unhide HMX).2.2.2 (by first | exact unhide hs2 | (simp; have := unhide hs2; omega)) _ rfl ?_
            intro q3 cap3 w3 hown3 hgrow3 hat3 hqlt3
            have B3 : Hid (Below w1.heap.size w1 w3) := Below.grown (w := w2) (by repeat (first | exact Below.refl _ _ | exact unhide (by assumption) | refine Below.drew ?_ | refine Below.alloc ?_ (by first | exact unhide (by assumption) | (simp; try omega)) _)) hgrow3 (by first | exact unhide hs2 | (simp; have := unhide hs2; omega)) (fun k hk => by simp [Value.ownBlock] at hk; have := ((unhide HO2).lt q2 rfl).1; omega)
            have HO3 := hide hown3
            have k1 : w3.cell? ⟨g, i, none⟩ = some (.slice (some ⟨q, 0, none⟩) (s.wait.length + 1) c) := ((unhide B3).cell (p := ⟨g, i, none⟩) (unhide HGL)).trans c1
            have k2 : w3.frozen? ⟨g, i, none⟩ = false := ((unhide B3).frozen (p := ⟨g, i, none⟩) (unhide HGL)).trans f1
            clear hown3 hgrow3 hat3 hqlt3
            refine hK.out _ _ (unhide HS _ (unhide B3)) (fun hH => ?_); clear hK K
            refine wpAnyH_take (i := 18) (v := ?_) rfl (by kernel_rfl) (by kernel_rfl) (by kernel_rfl) (fun _ _ _ h => h) (Or.inl ⟨by rfl, ?_⟩) hH ?_
            rotate_left
            · rintro W ⟨hs1, hs2⟩; go_simp; rfl
            refine wpAnyH_ready (rs := [19]) (by kernel_rfl) (by simp) ?_
            refine AllReadyH.cons rfl (fun K hK => ?_) AllReadyH.nil
            go_simp
            refine hK.out _ _ (unhide HSF _ _ (unhide B3)) (fun hH => ?_); clear hK K
            refine wpAnyH_done (by kernel_rfl) ?_ _
            clear hH k1 k2
            go_wp2
            go_ret
            exact ⟨rfl, unhide HF w3 q3 cap3 (unhide B3) (unhide HO3)⟩
    · skip
      go_simp
      refine hK.out _ _ (unhide HS _ (by repeat (first | exact Below.refl _ _ | exact unhide (by assumption) | refine Below.drew ?_ | refine Below.alloc ?_ (by first | exact unhide (by assumption) | (simp; try omega)) _))) (fun hH => ?_); clear hK K
      refine wpAnyH_ready (rs := [5]) (by kernel_rfl) (by simp) ?_
      refine (AllReadyH.cons rfl (fun K hK => ?_) AllReadyH.nil)
      · skip
        go_simp
        refine hK.out _ _ (unhide HS _ (by repeat (first | exact Below.refl _ _ | exact unhide (by assumption) | refine Below.drew ?_ | refine Below.alloc ?_ (by first | exact unhide (by assumption) | (simp; try omega)) _))) (fun hH => ?_); clear hK K
        refine wpAnyH_ready (rs := [13]) (by kernel_rfl) (by simp) ?_
        refine (AllReadyH.cons rfl (fun K hK => ?_) AllReadyH.nil)
        · skip
          refine step_append_lies _ rfl (.tmp 31) (.tmp 38) 68 rfl w1.heap.size 9 i0 (.string ⟨#[]⟩) 1 16 Try.underlying68 hi0 hz0 hz1 hz2 rfl (by decide) (.slice (some ⟨w1.heap.size + 1, 0, none⟩) 0 0) 0 [] rfl (own_new (heap_alloc2_new w1 _ _) (by omega)) ⟨q, 0, none⟩ (s.wait.length + 1) c (s.vals.map str) rfl (unhide HLEN) (unhide HNEWS _ (by repeat (first | exact Below.refl _ _ | exact unhide (by assumption) | refine Below.drew ?_ | refine Below.alloc ?_ (by first | exact unhide (by assumption) | (simp; try omega)) _))) (unhide HONE) (by omega) (unhide HMX).1 (unhide HMX).2.1 (by first | (simp; done) | (simp; omega)) _ rfl ?_
          intro q2 cap2 w2 hown2 hgrow2 hat2 hqlt2
          simp only [Nat.zero_add, List.nil_append] at hown2 ⊢
          have B2 : Hid (Below w1.heap.size w1 w2) := Below.grown (w := ((w1.alloc (.cells #[str x] 9)).alloc (.cells #[] 9)).drew) (by repeat (first | exact Below.refl _ _ | exact unhide (by assumption) | refine Below.drew ?_ | refine Below.alloc ?_ (by first | exact unhide (by assumption) | (simp; try omega)) _)) hgrow2 (by first | (simp; done) | (simp; omega)) (fun k hk => by simp [Value.ownBlock] at hk; omega)
          have hs2 : Hid (w1.heap.size ≤ w2.heap.size) := (unhide B2).size
          have HO2 := hide hown2
          have HX2 : Hid (w2.heap[w1.heap.size]? = some (.cells #[str x] 9 (0, 0))) := (hgrow2.block (w1.heap.size) (by first | (simp; done) | (simp; omega)) (by simp [Value.ownBlock]; try omega)).trans ((Below.heap_alloc _ _ _ (by simp)).trans (heap_alloc_last w1 _))
          clear hown2 hgrow2 hat2 hqlt2
          refine hK.out _ _ (unhide HS _ (unhide B2)) (fun hH => ?_); clear hK K
          refine wpAnyH_ready (rs := [17]) (by kernel_rfl) (by simp) ?_
          refine (AllReadyH.cons rfl (fun K hK => ?_) AllReadyH.nil)
          · skip
            refine step_append_lies _ rfl (.tmp 39) (.tmp 42) 68 rfl w1.heap.size 9 i0 (.string ⟨#[]⟩) 1 16 Try.underlying68 hi0 hz0 hz1 hz2 rfl (by decide) (.slice (some ⟨q2, 0, none⟩) (s.wait.length + 1) cap2) (s.wait.length + 1) (s.vals.map str) rfl (unhide HO2) ⟨w1.heap.size, 0, none⟩ 1 1 [str x] rfl rfl (World.news_of_block (unhide HX2)) (by intro u hu; simp at hu; subst hu; rfl) (by decide) (unhide HMX).2.2.1 (unhide HMX).2.2.2 (by first | exact unhide hs2 | (simp; have := unhide hs2; omega)) _ rfl ?_
            intro q3 cap3 w3 hown3 hgrow3 hat3 hqlt3
            have B3 : Hid (Below w1.heap.size w1 w3) := Below.grown (w := w2) (by repeat (first | exact Below.refl _ _ | exact unhide (by assumption) | refine Below.drew ?_ | refine Below.alloc ?_ (by first | exact unhide (by assumption) | (simp; try omega)) _)) hgrow3 (by first | exact unhide hs2 | (simp; have := unhide hs2; omega)) (fun k hk => by simp [Value.ownBlock] at hk; have := ((unhide HO2).lt q2 rfl).1; omega)
            have HO3 := hide hown3
            have k1 : w3.cell? ⟨g, i, none⟩ = some (.slice (some ⟨q, 0, none⟩) (s.wait.length + 1) c) := ((unhide B3).cell (p := ⟨g, i, none⟩) (unhide HGL)).trans c1
            have k2 : w3.frozen? ⟨g, i, none⟩ = false := ((unhide B3).frozen (p := ⟨g, i, none⟩) (unhide HGL)).trans f1
            clear hown3 hgrow3 hat3 hqlt3
            refine hK.out _ _ (unhide HS _ (unhide B3)) (fun hH => ?_); clear hK K
            refine wpAnyH_take (i := 18) (v := ?_) rfl (by kernel_rfl) (by kernel_rfl) (by kernel_rfl) (fun _ _ _ h => h) (Or.inl ⟨by rfl, ?_⟩) hH ?_
            rotate_left
            · rintro W ⟨hs1, hs2⟩; go_simp; rfl
            refine wpAnyH_ready (rs := [19]) (by kernel_rfl) (by simp) ?_
            refine AllReadyH.cons rfl (fun K hK => ?_) AllReadyH.nil
            go_simp
            refine hK.out _ _ (unhide HSF _ _ (unhide B3)) (fun hH => ?_); clear hK K
            refine wpAnyH_done (by kernel_rfl) ?_ _
            clear hH k1 k2
            go_wp2
            go_ret
            exact ⟨rfl, unhide HF w3 q3 cap3 (unhide B3) (unhide HO3)⟩
  -- END

end Go.Proofs.Ytaflibnalhfenaa
