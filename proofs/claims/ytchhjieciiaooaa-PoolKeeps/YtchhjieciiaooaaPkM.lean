/- The landed pool: growingFrom. -/
import Derived.Test.YtchhjieciiaooaaPkL
namespace Go.Proofs.Ytchhjieciiaooaa
open Go.RowKit Go.Maps
set_option linter.unusedVariables false

set_option maxHeartbeats 1600000 in
theorem kclone_any (w : World) (a : Option Addr) (n c : Nat) (l : List Ent) (h : EArg w a n c l) (hn : n * 48 ≤ 140737488351232) (h1 : 1 ≤ n) :
    Calls Try.prog 69 #[.slice a n c] w fun e w' => ∃ v, e = .returned v ∧ w'.ownsRow w.heap.size 67 5 v n (ev l) ∧ Below w.heap.size w w' := by
  obtain ⟨b, o, rfl, hE⟩ := h.es.2.resolve_left (by omega)
  have hown := ents_none w w.heap.size (Nat.le_refl _)
  have HB := hide (h.es.below ((Below.refl _ _).alloc (Nat.le_refl _) (.cells #[] 67)))
  have HN := hide h.nil
  have q : ∀ (w : World) (a : Option Addr) (n c n' c' : Nat), (binOp .eql 29 (.slice a n c) (.slice none n' c')).run Try.prog w = .ok (.bool a.isNone) w := fun w a n c n' c' => Lib.run_eql_slice_nil w _ _ a n c n' c' Try.underlying29
  clear h hE
  go_enter Try.func69, Try.ntmps69
  go_wp2_with (at_builtin; refine listE_append rfl _ _ rfl w.heap.size _ 0 [] rfl hown _ n c l rfl (unhide HB) (unhide HN) (by omega) (by simp) ?_)
  intro v' w1 o1 g1
  have hb1 : Below w.heap.size w w1 := ((Below.refl _ _).alloc (Nat.le_refl _) _).grown g1 (by simp) (fun k hk => by simp [Value.ownBlock] at hk; omega)
  have HO := hide o1
  have HB1 := hide hb1
  clear o1 g1 hb1 hown HB HN
  go_wp2
  go_ret
  exact ⟨_, rfl, unhide HO, unhide HB1⟩

theorem eUtf_of {l : List Ent} (hr : rightL l) {k : Nat} (hk : k < l.length) (ht : (atE l (k : Int)).tag = 1) : l[k]? = some (eUtf (atE l (k : Int)).text) := by
  have ho := right_ok hr (i := (k : Int)) (by omega)
  have e : l[k]? = some (atE l (k : Int)) := by rw [atE_nat, List.getElem?_eq_getElem hk]; rfl
  rw [e]
  unfold okE at ho
  simp [ht] at ho
  exact congrArg some ho.2
theorem not_eUtf {l : List Ent} {k : Nat} (hk : k < l.length) (ht : (atE l (k : Int)).tag ≠ 1) : ∀ s, l[k]? ≠ some (eUtf s) := fun s e => by
  have e2 : l[k]? = some (atE l (k : Int)) := by rw [atE_nat, List.getElem?_eq_getElem hk]; rfl
  rw [e2] at e
  injection e with e
  rw [e] at ht
  exact ht rfl

set_option maxHeartbeats 6400000 in
set_option maxRecDepth 100000 in
theorem kfrom_any (w : World) (a : Option Addr) (n c : Nat) (l : List Ent) (h : EArg w a n c l) (hn : n * 48 ≤ 140737488351232) (hr : rightL l) (hT : ∀ x ∈ l, x.text.length ≤ 140737488355328) :
    Calls Try.prog 48 #[.slice a n c] w fun e w' => ∃ g m v N D, e = .returned (.pointer (some ⟨g, 0, none⟩)) ∧ GrR w' w.heap.size g m v N D l ∧ TX l l.length D ∧ Below w.heap.size w w' := by
  have hln := h.es.1
  have hlen := right_len hr
  have HC := hide (kclone_any w a n c l h hn (by omega))
  have HA := hide h
  have hmm := @run_makeMap Try.prog
  clear h
  go_enter Try.func48, Try.ntmps48
  go_wp2_with fail
  refine (unhide HC).mono ?_
  rintro e w1 ⟨v, rfl, o1, f1⟩
  obtain ⟨a1, c1, rfl⟩ := own5_form o1
  have O1 := hide o1
  have F1 := hide f1
  clear o1 f1 HC
  go_wp2
  have b2 : Below w1.heap.size w1 ((w1.alloc (.map #[] 0)).alloc (.cells #[.slice a1 n c1, .map (some w1.heap.size)] 85)) := ((Below.refl _ _).alloc (Nat.le_refl _) _).alloc (by simp) _
  have f2 := (unhide F1).trans (b2.mono (unhide F1).size)
  have G0 : Hid (GrR ((w1.alloc (.map #[] 0)).alloc (.cells #[.slice a1 n c1, .map (some w1.heap.size)] 85)) w.heap.size (w1.heap.size + 1) w1.heap.size (.slice a1 n c1) 0 (.map []) l) := by
    have o1 := unhide O1
    have hlt : ∀ k, (Value.slice a1 n c1).ownBlock = some k → k < w1.heap.size := fun k hk => (o1.lt k hk).2
    have hs1 := (unhide F1).size
    refine ⟨by omega, hs1, by omega, fun e => ?_, fun e => ?_, heap_alloc2_new w1 _ _, ?_, ?_, by omega⟩
    · have := hlt _ e; omega
    · have := hlt _ e; omega
    · rw [hln]
      exact own_of_block o1 (fun k hk => b2.block k (hlt k hk))
    · have := World.ownsMap_made (H := Unit) w1 Try.prog 9 (plainElem Try.prog 3)
      exact ownsMap_keep this (heap_alloc_old _ _ (by simp))
  have F2 := hide f2
  have hsz : w.heap.size ≤ ((w1.alloc (.map #[] 0)).alloc (.cells #[.slice a1 n c1, .map (some w1.heap.size)] 85)).heap.size := f2.size
  clear b2 f2 O1 F1 hmm hsz
  generalize hgg : w1.heap.size + 1 = g at *
  generalize hm0 : w1.heap.size = m at *
  generalize (w1.alloc (.map #[] 0)).alloc (.cells #[.slice a1 n c1, .map (some m)] 85) = w2 at *
  clear hgg hm0
  go_loopw [15] (fun i wr => ∃ (k : Nat) (D : DataW Unit), k ≤ n ∧ i = .int .i64 k ∧ GrR wr w.heap.size g m (.slice a1 n c1) k D l ∧ TX l k D ∧ Below w.heap.size w wr) (fun i _ => n - (intOf i).toNat)
  case atStart => exact ⟨0, .map [], by omega, rfl, unhide G0, TX.start l, unhide F2⟩
  case round =>
    obtain ⟨k, D, hk, rfl, hG, hTX, hBl⟩ := hrel
    by_cases hlt : k < n
    case neg =>
      have hkn : k = n := by omega
      subst hkn
      have R : Hid (∃ g' m' v' N' D', Value.pointer (some ⟨g, 0, none⟩) = .pointer (some ⟨g', 0, none⟩) ∧ GrR wr w.heap.size g' m' v' N' D' l ∧ TX l l.length D' ∧ Below w.heap.size w wr) := ⟨g, m, _, _, D, rfl, hG, by rw [hln]; exact hTX, hBl⟩
      clear hG hTX hBl G0 F2 HA
      go_wp2
      go_ret
      obtain ⟨g', m', v', N', D', e1, e2, e3, e4⟩ := unhide R
      exact ⟨g', m', v', N', D', congrArg Ending.returned e1, e2, e3, e4⟩
    case pos =>
      have hlt1 : (k : Int) < (n : Int) := by omega
      have hk0 : (0 : Int) ≤ (k : Int) := by omega
      have es := (unhide HA).es.below hBl
      obtain ⟨b, o, rfl, hE⟩ := es.2.resolve_left (by omega)
      obtain ⟨q0, q1, q2, q3, q4⟩ := ents_at hE (k := k) (by omega)
      have hxm := List.mem_of_getElem? (es.at hlt)
      have hkey := kkey (hT _ hxm)
      have HU : Hid ((atE l (k : Int)).tag = 1 → l[k]? = some (eUtf (atE l (k : Int)).text)) := fun ht => eUtf_of hr (by omega) ht
      have HN : Hid ((atE l (k : Int)).tag ≠ 1 → ∀ s, l[k]? ≠ some (eUtf s)) := fun ht => not_eUtf (by omega) ht
      generalize atE l (k : Int) = xx at *
      obtain ⟨xt, xtx, xn, xa, xb⟩ := xx
      simp only at q0 q1 q2 q3 q4 hkey HU HN
      have hc1 := hG.c1
      have hglt := hG.glt
      have hmlt := hG.map.lt
      have HG := hide hG
      have HBL := hide hBl
      have HTX := hide hTX
      obtain ⟨xs, hxs⟩ : ∃ xs, (⟨xtx.toArray⟩ : ByteArray) = xs := ⟨_, rfl⟩
      rw [hxs] at q1 hkey
      have HXS := hide hxs
      obtain ⟨cc, hcr, hcat, _⟩ := hG.map.lookup_int klaw Try.underlying83 Try.underlying3 (kzero _) hkey
      have HCA := hide hcat
      obtain ⟨hh, hhh⟩ : ∃ hh, has D (.string xtx) = hh := ⟨_, rfl⟩
      have HHH := hide hhh
      clear hG hTX hBl es hE hxm hcr hcat hhh hxs
      go_wp2
      have hb1 : Below wr.heap.size wr (wr.alloc (.cells #[.int .i64 xt, .string xs, .int .i64 xn, .int .i64 xa, .int .i64 xb] 67)) := (Below.refl _ _).alloc (Nat.le_refl _) _
      have hx1 := heap_alloc_last wr (.cells #[.int .i64 xt, .string xs, .int .i64 xn, .int .i64 xa, .int .i64 xb] 67)
      have HB1 := hide hb1
      have HX1 := hide hx1
      have hgne : ¬ g = wr.heap.size := by omega
      have hmne : ¬ m = wr.heap.size := by omega
      clear q0 q1 q2 q3 q4 hc1 hb1 hx1
      generalize wr.alloc (.cells #[.int .i64 xt, .string xs, .int .i64 xn, .int .i64 xa, .int .i64 xb] 67) = w3 at *
      have g3 := (unhide HG).below (unhide HB1)
      obtain ⟨SS, hSS⟩ : ∃ SS : World → Prop, SS = fun W => Below w3.heap.size w3 W := ⟨_, rfl⟩
      have KI : Hid (SS w3.drew) := by
        show SS _
        rw [hSS]
        exact (Below.refl _ _).drew
      have KW : Hid (∀ W, SS W → Below w3.heap.size w3 W) := fun W h => by
        rw [hSS] at h
        exact h
      have KE : Hid (∀ W, SS W → W.cell? ⟨g, 1, none⟩ = some (.map (some m)) ∧ (W.cell? ⟨wr.heap.size, 0, none⟩ = some (.int .i64 xt) ∧ W.cell? ⟨wr.heap.size, 1, none⟩ = some (.string xs)) ∧ (Instr.lookup 83 (.map (some m)) (.string xs) true).run Try.prog W = .ok (.tuple #[.int .i64 cc, .bool hh]) W) := fun W h => by
        rw [hSS] at h
        have hx := (h.block _ (lt_of_heap (unhide HX1))).trans (unhide HX1)
        refine ⟨(g3.below h).c1, ⟨by rw [cell_of_row _ _ _ _ _ _ hx]; rfl, by rw [cell_of_row _ _ _ _ _ _ hx]; rfl⟩, ?_⟩
        obtain ⟨vv, ps, hrun, hv⟩ := (g3.below h).map.look_ok klaw Try.underlying83 (kzero _) (plainElem_int Try.underlying3 (int_wf (n := 0) (by omega))) hkey
        obtain ⟨c2, rfl, hc2, _⟩ := plainElem_int_inv Try.underlying3 hv
        have hc3 := congrArg Prod.fst hc2
        have hc4 : DataW.lit (Lit.int .i64 cc) = DataW.lit (Lit.int .i64 c2) := (unhide HCA).symm.trans hc3
        injection hc4 with hc4
        injection hc4 with _ hc4
        rw [hrun, unhide HHH, hc4]
      clear hSS
      refine wp_region_seq SS (by kernel_rfl) (by kernel_rfl) (unhide KI) ?_
      repeat (first
        | (refine SeqDo.yields (v := ?_) (by rfl) ?_ ?_; rotate_left; (focus ((intro W hSW; obtain ⟨p0, ⟨p1, p2⟩, p3⟩ := unhide KE W hSW; go_simp) <;> with_reducible rfl)); simp only [Act.put, List.setIfInBounds_toArray, List.set_cons_zero, List.set_cons_succ]))
      intro W hSW
      obtain ⟨p0, ⟨p1, p2⟩, _⟩ := unhide KE W hSW
      have fW := unhide KW W hSW
      have g4 := g3.below fW
      have hx4 := (fW.block _ (lt_of_heap (unhide HX1))).trans (unhide HX1)
      have f4 := (unhide HBL).trans (((unhide HB1).trans (fW.mono (unhide HB1).size)).mono (unhide HBL).size)
      have G4 := hide g4
      have F4 := hide f4
      have HX4 := hide hx4
      clear KI KW KE hSW fW g3 g4 f4 hx4 HB1 HX1
      by_cases ht : xt = 1
      case neg =>
        have ht' : (xt == 1) = false := by simpa using ht
        have T5 := hide ((unhide HTX).skip (unhide HN ht))
        clear ht
        go_wp2
        go_roundw
        case rel => exact ⟨k + 1, D, by omega, by go_num, ⟨(unhide G4).hg, (unhide G4).hm, (unhide G4).gm, (unhide G4).vg, (unhide G4).vm, (unhide G4).blk, (unhide G4).row, (unhide G4).map.mono (by omega), by omega⟩, unhide T5, unhide F4⟩
        case measure => simp [intOf]; omega
      case pos =>
        subst ht
        cases hh
        case true =>
          have T5 := hide ((unhide HTX).there (unhide HHH) (unhide HU rfl))
          go_wp2
          go_roundw
          case rel => exact ⟨k + 1, D, by omega, by go_num, ⟨(unhide G4).hg, (unhide G4).hm, (unhide G4).gm, (unhide G4).vg, (unhide G4).vm, (unhide G4).blk, (unhide G4).row, (unhide G4).map.mono (by omega), by omega⟩, unhide T5, unhide F4⟩
          case measure => simp [intOf]; omega
        case false =>
          have T5 := hide ((unhide HTX).new (unhide G4).map.isMap (unhide HHH) (unhide HU rfl))
          have hkN : k < maxLen := by unfold maxLen; omega
          obtain ⟨w5, hrun5, own5, gr5⟩ := ((unhide G4).map.drew).update klaw Try.underlying83 hkN hkey (plainElem_int (H := Unit) (P := Try.prog) Try.underlying3 (a := (k : Int)) (q := .i64) (int_wf (by omega)))
          have hb5 : ∀ j, j < W.heap.size → j ≠ m → w5.heap[j]? = W.heap[j]? := fun j hj hjm => gr5.block j hj (fun e => hjm (by injection e))
          have g5 : GrR w5 w.heap.size g m (.slice a1 n c1) (k + 1) (D.put (.string xtx) (.lit (.int .i64 (k : Int)))) l := by
            have p := unhide G4
            refine ⟨p.hg, p.hm, p.gm, p.vg, p.vm, (hb5 g p.glt p.gm).trans p.blk, ?_, own5, by omega⟩
            refine own_of_block p.row (fun j hj => hb5 j (p.row.lt j hj).2 (fun e => ?_))
            subst e
            exact p.vm hj
          have f5 : Below w.heap.size w w5 := (unhide F4).trans (((Below.refl w.heap.size W).drew).grown gr5 (unhide F4).size (fun j hj => by injection hj with hj; subst hj; exact (unhide G4).hm))
          have hx5 := (hb5 wr.heap.size (lt_of_heap (unhide HX4)) (fun e => hmne e.symm)).trans (unhide HX4)
          have s0 := g5.c1
          have s1 : w5.cell? ⟨wr.heap.size, 1, none⟩ = some (.string xs) := by rw [cell_of_row _ _ _ _ _ _ hx5]; rfl
          have G5 := hide g5
          have F5 := hide f5
          clear own5 gr5 hb5 g5 f5 hx5
          go_wp2
          go_region_held (fun W' => W'.cell? ⟨g, 1, none⟩ = some (.map (some m)) ∧ W'.cell? ⟨wr.heap.size, 1, none⟩ = some (.string xs)) (go_keep) (fail)
          go_wp2
          go_roundw
          case rel => exact ⟨k + 1, _, by omega, by go_num, unhide G5, unhide T5, unhide F5⟩
          case measure => simp [intOf]; omega

end Go.Proofs.Ytchhjieciiaooaa
