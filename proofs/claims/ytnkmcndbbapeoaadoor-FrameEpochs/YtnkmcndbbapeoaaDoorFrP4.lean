/- The program's own All. -/
import Derived.Test.YtnkmcndbbapeoaaDoorFrP3
namespace Go.Proofs.YtnkmcndbbapeoaaDoor
open Go.RowKit
set_option linter.unusedVariables false

theorem infoP : (Tryd.prog.info? 25).map (fun i => (i.zero, i.size, i.bytes)) = some (some (.slice none 0 0), 1, 24) := by kernel_rfl
theorem madeP (w : World) (n : Nat) (hn : n ≤ 1000000) :
    ∃ w', (Instr.makeSlice 46 (.int .i64 0) (.int .i64 (n : Int))).run Tryd.prog w = .ok (.slice (some ⟨w.heap.size, 0, none⟩) 0 n) w' ∧
      w'.ownsRow w.heap.size 25 1 (.slice (some ⟨w.heap.size, 0, none⟩) 0 n) 0 [] ∧ Below w.heap.size w w' := by
  obtain ⟨i0, hi, hz0, hz1, hz2⟩ := info_parts infoP
  obtain ⟨w', h1, h2, h3⟩ := run_make_own (P := Tryd.prog) w w.heap.size 46 25 i0 (.slice none 0 0) 1 Tryd.underlying46 hi hz0 hz1 .i64 .i64 n (by rw [hz2]; omega) (by unfold maxLen; omega) (Nat.le_refl _)
  exact ⟨w', h1, h2, (Below.refl _ _).grown h3 (Nat.le_refl _) (fun k hk => by cases hk)⟩
/-- Rows of two types lie apart. -/
theorem rows_apart {W : World} {b1 b2 n1 n2 s1 s2 : Nat} {e1 e2 : TypeId} {v : Value} {q m c : Nat} {xs ys : List Value} (h1 : W.ownsRow b1 e1 s1 v n1 xs) (h2 : W.ownsRow b2 e2 s2 (.slice (some ⟨q, 0, none⟩) m c) n2 ys) (he : e1 ≠ e2) : some q ≠ v.ownBlock := by
  rcases h2.2 with ⟨e, _⟩ | ⟨q', cap, cur, e, _, hq, _⟩
  · cases e
  injection e with e _ _
  injection e with e
  injection e with e
  subst e
  rcases h1.2 with ⟨rfl, _⟩ | ⟨g, cap', cur', rfl, _, hg, _⟩
  · simp [Value.ownBlock]
  · intro e'
    obtain rfl : q = g := by simpa [Value.ownBlock] using e'
    rw [hq] at hg
    injection hg with hg
    injection hg with _ hg
    exact he hg.symm

/-- Between two rounds of All. -/
structure PaR (w : World) (rs : List Rec) (k : Nat) (v : Value) (sv : List Value) (W : World) : Prop where
  le : k ≤ rs.length
  ok : allErr (rs.take k) = 0
  sm : ∃ g c, v = .slice (some ⟨g, 0, none⟩) k c
  own : W.ownsRow w.heap.size 25 1 v k sv
  parts : ∀ (j : Nat) (r : Rec), j < k → rs[j]? = some r → writeE r = 0 ∧ ∃ q c, sv[j]? = some (.slice (some ⟨q, 0, none⟩) (recL r).length c) ∧ W.ownsRow w.heap.size 5 1 (.slice (some ⟨q, 0, none⟩) (recL r).length c) (recL r).length (bv (recL r))
  fr : Below w.heap.size w W
theorem PaR.next {w W W2 w3 : World} {rs : List Rec} {k : Nat} {v v3 : Value} {sv : List Value} {r : Rec} {q c : Nat} (h : PaR w rs k v sv W) (hk : rs[k]? = some r) (h0 : writeE r = 0) (f : Below W.heap.size W W2)
    (o1 : W2.ownsRow w.heap.size 5 1 (.slice (some ⟨q, 0, none⟩) (recL r).length c) (recL r).length (bv (recL r))) (g3 : W2.grownBy w3 v.ownBlock)
    (o3 : w3.ownsRow w.heap.size 25 1 v3 (k + 1) (sv ++ [.slice (some ⟨q, 0, none⟩) (recL r).length c])) : PaR w rs (k + 1) v3 (sv ++ [.slice (some ⟨q, 0, none⟩) (recL r).length c]) w3 := by
  have hv2 := gen_below h.own f
  have hlen : sv.length = k := by have := h.own.1; omega
  have hf : Below w.heap.size w W2 := h.fr.trans (f.mono h.fr.size)
  obtain ⟨g, c', rfl, _, _⟩ := o3.form (by omega)
  refine ⟨(List.getElem?_eq_some_iff.1 hk).1, (allErr_take hk h.ok).1 h0, ⟨g, c', rfl⟩, o3, fun j r' hj hr' => ?_, hf.grown g3 hf.size (fun x hx => (hv2.lt x hx).1)⟩
  by_cases hjk : j < k
  · obtain ⟨p1, q', c'', p2, p3⟩ := h.parts j r' hjk hr'
    refine ⟨p1, q', c'', by rw [List.getElem?_append_left (by omega)]; exact p2, ?_⟩
    have p4 := gen_below p3 f
    exact p4.kept g3 (.inr (rows_apart hv2 p4 (by decide)))
  · obtain rfl : j = k := by omega
    rw [hk] at hr'
    injection hr' with hr'
    subst hr'
    exact ⟨h0, q, c, by rw [List.getElem?_append_right (by omega), hlen]; simp, o1.kept g3 (.inr (rows_apart hv2 o1 (by decide)))⟩
theorem PaR.fails {w W : World} {rs : List Rec} {k : Nat} {v : Value} {sv : List Value} {r : Rec} (h : PaR w rs k v sv W) (hk : rs[k]? = some r) (h0 : writeE r ≠ 0) : allErr rs = writeE r ∧ allB rs = [] := by
  have := (allErr_take hk h.ok).2 h0
  refine ⟨this, ?_⟩
  unfold allB
  rw [if_neg (by rw [this]; exact h0)]
theorem PaR.done {w W : World} {rs : List Rec} {g c : Nat} {sv : List Value} (h : PaR w rs rs.length (.slice (some ⟨g, 0, none⟩) rs.length c) sv W) : allErr rs = 0 ∧ allB rs = (rs.map recL).flatten ∧ PartsS W g 0 (rs.map recL) := by
  have h1 := h.ok
  rw [List.take_length] at h1
  refine ⟨h1, by unfold allB; rw [if_pos h1]; rfl, fun j l hj => ?_⟩
  rw [List.getElem?_map] at hj
  obtain ⟨r, hr, rfl⟩ := Option.map_eq_some_iff.1 hj
  obtain ⟨p1, q, c', p2, p3⟩ := h.parts j r (List.getElem?_eq_some_iff.1 hr).1 hr
  have hd := (writeE_ok.1 p1).2.2
  refine ⟨by rw [rec_len]; omega, ⟨q, 0, none⟩, c', ?_, own_bytes p3⟩
  have := h.own.cells (g := g) rfl j _ p2
  rw [Addr.add_mid] at this
  exact this

set_option maxHeartbeats 1600000 in
theorem fAll_any (w : World) (a : Option Addr) (n cap : Nat) (rs : List Rec) (hT : Tab w) (hA : Rs w a n rs) (hs : n ≤ 1000) :
    Calls Tryd.prog 8 #[.slice a n cap] w fun e w' => ∃ v, e = .returned (.tuple #[v, .int .i64 (allErr rs)]) ∧ w'.ownsRow w.heap.size 5 1 v (allB rs).length (bv (allB rs)) ∧ Below w.heap.size w w' := by
  have hln := hA.1
  have HA := hide hA
  have HT := hide hT
  obtain ⟨w0, hm, hown, f0⟩ := madeP w n (by omega)
  have hS0 : PaR w rs 0 (.slice (some ⟨w.heap.size, 0, none⟩) 0 n) [] w0 := ⟨by omega, rfl, ⟨_, _, rfl⟩, hown, fun j r hj => by omega, f0⟩
  have HS0 := hide hS0
  obtain ⟨i0, hi, hz0, hz1, hz2⟩ := info_parts infoP
  generalize hae : allErr rs = ae at *
  generalize hab : allB rs = ab at *
  have HAE := hide hae
  have HAB := hide hab
  clear hA hown hS0 hae hab hT f0
  go_enter Tryd.func8, Tryd.ntmps8
  go_wp2
  go_loopw [4, 14] (fun v i wr => ∃ (k : Nat) (sv : List Value), i = .int .i64 k ∧ PaR w rs k v sv wr) (fun _ i _ => n - (intOf i).toNat)
  case atStart => exact ⟨0, [], rfl, unhide HS0⟩
  case round =>
    clear HS0
    obtain ⟨k, sv, rfl, hR⟩ := hrel
    have hk := hR.le
    obtain ⟨og, oc, rfl⟩ := hR.sm
    by_cases hlt : k < n
    · have hlt1 : (k : Int) < (n : Int) := by omega
      obtain ⟨b, o, rfl, hb⟩ := (unhide HA).2.resolve_left (by omega)
      obtain ⟨r, hr⟩ : ∃ r, rs[k]? = some r := ⟨_, List.getElem?_eq_getElem (by omega)⟩
      obtain ⟨c0, c1⟩ := recs_get (hb.below hR.fr) hr
      have H1 := fWrite_any (wr.alloc (.cells #[.int .i64 r.epoch, .string ⟨r.data.toArray⟩] 24)) r ((unhide HT).below (bA hR.fr _))
      unfold recV at H1
      have HX : Hid (writeE r = 0 → ∀ (q c : Nat) v3 W2 w3, _) := fun h0 q c v3 W2 w3 => PaR.next (q := q) (c := c) (v3 := v3) (W2 := W2) (w3 := w3) hR hr h0
      have HY : Hid (writeE r ≠ 0 → ae = writeE r ∧ ab = []) := fun h0 => by
        have := hR.fails hr h0
        rw [unhide HAE, unhide HAB] at this
        exact this
      have HW : Hid (writeE r = 0 → writeL r = recL r ∧ 0 < (recL r).length) := fun h0 => ⟨writeL_ok h0, by rw [rec_len]; omega⟩
      have HO := hide hR.own
      have HF := hide hR.fr
      generalize writeE r = we at *
      generalize writeL r = wl at *
      generalize recL r = rl at *
      generalize r.epoch = ep at *
      generalize (⟨r.data.toArray⟩ : ByteArray) = st at *
      have HH1 := hide H1
      clear hb hR hr H1
      go_wp2_with fail
      refine (unhide HH1).mono ?_
      rintro e w1 ⟨v1, rfl, o1, f1⟩
      obtain ⟨a1, c1', rfl, hq1⟩ := own_form o1
      have f1' : Below wr.heap.size wr w1 := bT f1 (bA (Below.refl _ _) _)
      by_cases h0 : we = 0
      · subst h0
        obtain ⟨rfl, hpos⟩ := unhide HW rfl
        obtain ⟨q1, hq, _⟩ := hq1 hpos
        subst hq
        have f2 : Below wr.heap.size wr (w1.alloc (.cells #[.slice (some ⟨q1, 0, none⟩) wl.length c1'] 25)) := bA f1' _
        have hown := gen_below (unhide HO) f2
        have o1' := gen_below (own_base o1 (Nat.le_trans (unhide HF).size (bA (Below.refl _ wr) (.cells #[.int .i64 ep, .string st] 24)).size)) (bA (Below.refl _ w1) (.cells #[.slice (some ⟨q1, 0, none⟩) wl.length c1'] 25))
        have NX := hide (fun v3 w3 => unhide HX rfl q1 c1' v3 _ w3 f2 o1')
        have hsrc : ∀ j u, [Value.slice (some ⟨q1, 0, none⟩) wl.length c1'][j]? = some u → (w1.alloc (.cells #[.slice (some ⟨q1, 0, none⟩) wl.length c1'] 25)).cell? (Addr.add ⟨w1.heap.size, 0, none⟩ j) = some u := World.news_of_block (heap_alloc_last w1 _)
        have hsz : w.heap.size ≤ (w1.alloc (.cells #[.slice (some ⟨q1, 0, none⟩) wl.length c1'] 25)).heap.size := Nat.le_trans (unhide HF).size f2.size
        have hone : ∀ u ∈ [Value.slice (some ⟨q1, 0, none⟩) wl.length c1'], u.oneCell' = true := by simp [Value.oneCell']
        have hc3 : k + 1 ≤ maxLen := by unfold maxLen; omega
        clear f1 f1' HH1 HO HX HY HF o1 o1' f2
        go_wp2_with (at_builtin; refine wpList_append_own _ rfl (.tmp 26) (.tmp 28) 46 rfl w.heap.size 25 i0 (.slice none 0 0) 1 24 Tryd.underlying46 hi hz0 hz1 hz2 rfl (by decide) _ _ _ rfl hown ⟨w1.heap.size, 0, none⟩ 1 1 [.slice (some ⟨q1, 0, none⟩) wl.length c1'] rfl rfl hsrc hone hc3 (by omega) hsz ?_)
        intro v3 w3 o3 g3 _
        have HS3 := hide (unhide NX v3 w3 g3 o3)
        clear o3 g3 hown hsrc NX hone
        go_wp2
        go_roundw
        case rel => exact ⟨k + 1, _, by go_num, unhide HS3⟩
        case measure => simp [intOf]; omega
      · obtain ⟨e1, e2⟩ := unhide HY h0
        subst e1
        subst e2
        have FW := hide (bT f1' (unhide HF))
        clear f1 f1' HH1 HO HX HY HF o1 hq1
        go_wp2
        go_ret2
        exact ⟨_, rfl, World.ownsRow_nil _ _ _ _, unhide FW⟩
    · obtain rfl : k = n := by omega
      subst hln
      obtain ⟨d1, d2, d3⟩ := hR.done
      rw [unhide HAE] at d1
      rw [unhide HAB] at d2
      subst d1
      subst d2
      have HJ := hide (joined_at wr og 0 rs.length oc (rs.map recL) (by simp) hs d3)
      have F2 := hide hR.fr
      clear d3 hR HAE HAB
      go_wp2_with fail
      refine (unhide HJ).mono ?_
      rintro e w1 ⟨v1, rfl, o1, f1⟩
      have O1 := hide (own_base o1 (unhide F2).size)
      have F1 := hide (bT f1 (unhide F2))
      clear o1 f1 HJ F2
      go_wp2
      go_ret2
      exact ⟨_, rfl, unhide O1, unhide F1⟩

end Go.Proofs.YtnkmcndbbapeoaaDoor
