/- The landed pool: a pool that grows: number, of a class, of a name, of a number. -/
import Derived.Test.YtchhjieciiaooaaPkJ
namespace Go.Proofs.Ytchhjieciiaooaa
open Go.RowKit Go.Maps
set_option linter.unusedVariables false

theorem kaddE_len (l : List Ent) (x : Ent) : (addE l x).1.length ≤ l.length + 2 := by
  unfold addE
  split
  · show (withE l x).length ≤ _
    rw [withE_eq, List.length_append]
    split <;> simp
  · show l.length ≤ _
    omega
theorem addE_zero {l : List Ent} (x : Ent) (h : l[0]? = some ent0) : (addE l x).1[0]? = some ent0 := by
  unfold addE
  split
  · show (withE l x)[0]? = _
    rw [withE_eq, List.getElem?_append_left (by have := (List.getElem?_eq_some_iff.1 h).1; exact this)]
    exact h
  · exact h

set_option maxHeartbeats 12800000 in
set_option maxRecDepth 100000 in
theorem knumber_class (w : World) (B g m N : Nat) (v : Value) (D : DataW Unit) (l : List Ent) (h : GrR w B g m v N D l) (tx : TX l l.length D) (hr : rightL l) (s : List UInt8) (hs : s.length ≤ 140737488355328) (hl : l.length ≤ 2000) (hB : B ≤ w.heap.size) :
    Calls Try.prog 49 #[.pointer (some ⟨g, 0, none⟩), cstV ⟨7, 0, s, ([] : List UInt8), ([] : List UInt8)⟩] w fun e w' => e = .returned (.int .i64 ((clsK l s).2 : Int)) ∧ GrTo w B g m v (clsK l s).1 w' := by
  have hlen := right_len hr
  have HM : Hid (∀ W a n c x, Es W a n l → n ≤ 140737488351232 → (x.tag = 0 ∨ okE l x = true) → Calls Try.prog 45 #[.slice a n c, entV x] W fun e w' => e = .returned (cstV (meanN l x)) ∧ Below W.heap.size W w') := fun W a n c x hE hn hx => kmeaning_any W a n c l hE hr x hx hn
  have HCC : Hid (∀ W x, (binOp .eql 50 (cstV (meanN l x)) (cstV ⟨7, 0, s, ([] : List UInt8), ([] : List UInt8)⟩)).run Try.prog W = .ok (.bool (decide (meanN l x = ⟨7, 0, s, ([] : List UInt8), ([] : List UInt8)⟩))) W) := fun W x => cst_cmp W _ _
  have HFOUND : Hid (∀ k : Nat, k < l.length → meanN l (atE l (k : Int)) = ⟨7, 0, s, ([] : List UInt8), ([] : List UInt8)⟩ → (∀ j : Nat, j < k → meanN l (atE l (j : Int)) ≠ ⟨7, 0, s, ([] : List UInt8), ([] : List UInt8)⟩) → firstN l ⟨7, 0, s, ([] : List UInt8), ([] : List UInt8)⟩ = k ∧ clsK l s = (l, k)) := fun k hk h1 h2 => by
    have hk1 : 1 ≤ k := by
      cases k with
      | zero =>
        have e0 : atE l ((0 : Nat) : Int) = ent0 := by rw [atE_nat, hr.1]; rfl
        have := congrArg Cst.tag h1
        rw [meanN_tag, e0] at this
        simp [ent0] at this
      | succ k => omega
    have e := firstN_eq hk1 hk h1 (fun j hj hjk => h2 j hjk)
    refine ⟨e, ?_⟩
    unfold clsK cCls
    rw [e, if_neg (by omega)]
  have HNONE : Hid ((∀ j : Nat, j < l.length → meanN l (atE l (j : Int)) ≠ ⟨7, 0, s, ([] : List UInt8), ([] : List UInt8)⟩) → firstN l ⟨7, 0, s, ([] : List UInt8), ([] : List UInt8)⟩ = 0) := fun h1 => by
    by_cases e : firstN l ⟨7, 0, s, ([] : List UInt8), ([] : List UInt8)⟩ = 0
    · exact e
    · obtain ⟨_, e2, e3⟩ := firstN_some e
      exact absurd e3 (h1 _ e2)
  have b0 : Below w.heap.size w (w.alloc (.cells #[.int .i64 7, .int .i64 0, .string ⟨s.toArray⟩, .string ⟨([] : List UInt8).toArray⟩, .string ⟨([] : List UInt8).toArray⟩] 50)) := (Below.refl _ _).alloc (Nat.le_refl _) _
  have hc0 := heap_alloc_last w (.cells #[.int .i64 7, .int .i64 0, .string ⟨s.toArray⟩, .string ⟨([] : List UInt8).toArray⟩, .string ⟨([] : List UInt8).toArray⟩] 50)
  have h0 := h.below b0
  obtain ⟨a, c, rfl⟩ := own5_form h.row
  have c0 := h0.c0
  have HMK : Hid (∀ W, Below w.heap.size w W → GrR W B g m (.slice a l.length c) N D l) := fun W f => h.below f
  have HTX := hide tx
  have BS : Hid (g < w.heap.size ∧ m < w.heap.size ∧ ∀ k, (Value.slice a l.length c).ownBlock = some k → k < w.heap.size) := ⟨h.glt, h.map.lt, fun k hk => (h.row.lt k hk).2⟩
  have hgne : ¬ g = w.heap.size := by have := h.glt; omega
  unfold cstV
  simp only
  have HRT := hide hr
  have HC0 := hide hc0
  have B0 := hide b0
  clear b0 hc0 h0 h tx hr
  generalize hz1 : (⟨s.toArray⟩ : ByteArray) = z1 at *
  have HZ1 := hide hz1
  clear hz1
  go_enter Try.func49, Try.ntmps49
  go_wp2
  generalize w.alloc (.cells #[.int .i64 7, .int .i64 0, .string z1, .string ⟨#[]⟩, .string ⟨#[]⟩] 50) = w0 at *
  go_loopw [13] (fun i wr => ∃ k : Nat, k ≤ l.length ∧ i = .int .i64 k ∧ (∀ j : Nat, j < k → meanN l (atE l (j : Int)) ≠ ⟨7, 0, s, ([] : List UInt8), ([] : List UInt8)⟩) ∧ Below w0.heap.size w0 wr) (fun i _ => l.length - (intOf i).toNat)
  case atStart => exact ⟨0, by omega, rfl, fun j hj => by omega, Below.refl _ _⟩
  case round =>
    obtain ⟨k, hk, rfl, hall, hBl⟩ := hrel
    have HALL := hide hall
    have FW : Hid (Below w.heap.size w wr) := (unhide B0).trans (hBl.mono (unhide B0).size)
    have HBL := hide hBl
    have hcr : wr.heap[w.heap.size]? = some (.cells #[.int .i64 7, .int .i64 0, .string z1, .string ⟨#[]⟩, .string ⟨#[]⟩] 50 (0, 0)) := (hBl.block w.heap.size (lt_of_heap (unhide HC0))).trans (unhide HC0)
    have HCR := hide hcr
    have hszr : w.heap.size + 1 ≤ wr.heap.size := lt_of_heap hcr
    clear hall hBl hcr
    by_cases hlt : k < l.length
    · have hlt1 : (k : Int) < (l.length : Int) := by omega
      have gr := unhide HMK wr (unhide FW)
      have es := es_of_own gr.row
      obtain ⟨b, o, rfl, hE⟩ := es.2.resolve_left (by omega)
      obtain ⟨q0, q1, q2, q3, q4⟩ := ents_at hE hlt
      have HX2 : Hid (∀ W, Below wr.heap.size wr W → Calls Try.prog 45 #[.slice (some ⟨b, o, none⟩) l.length c, entV (atE l (k : Int))] W fun e w' => e = .returned (cstV (meanN l (atE l (k : Int)))) ∧ Below W.heap.size W w') := fun W f => unhide HM W _ _ _ _ (es.below f) (by omega) (right_or (unhide HRT) _)
      have HJ := hide (fun W => unhide HCC W (atE l (k : Int)))
      have HD : Hid (∀ X, decide (meanN l (atE l (k : Int)) = ⟨7, 0, s, ([] : List UInt8), ([] : List UInt8)⟩) = X → (X = true → firstN l ⟨7, 0, s, ([] : List UInt8), ([] : List UInt8)⟩ = k ∧ clsK l s = (l, k)) ∧ (X = false → ∀ j : Nat, j < k + 1 → meanN l (atE l (j : Int)) ≠ ⟨7, 0, s, ([] : List UInt8), ([] : List UInt8)⟩)) := fun X hX => by
        constructor
        · intro e
          rw [e] at hX
          exact unhide HFOUND k hlt (by simpa using hX) (unhide HALL)
        · intro e j hj
          rw [e] at hX
          by_cases ejk : j = k
          · subst ejk
            simpa using hX
          · exact unhide HALL j (by omega)
      obtain ⟨dd, hdd⟩ : ∃ dd, decide (meanN l (atE l (k : Int)) = ⟨7, 0, s, ([] : List UInt8), ([] : List UInt8)⟩) = dd := ⟨_, rfl⟩
      have HD1 := hide (unhide HD dd hdd)
      have J2 := unhide HJ
      rw [hdd] at J2
      generalize hmm : meanN l (atE l (k : Int)) = mm at *
      generalize atE l (k : Int) = xx at *
      obtain ⟨xt, xtx, xn, xa, xb⟩ := xx
      obtain ⟨mt, mn, m1, m2, m3⟩ := mm
      unfold entV cstV at *
      simp only at q0 q1 q2 q3 q4 J2 HX2
      simp only [unhide HZ1] at J2
      generalize (⟨xtx.toArray⟩ : ByteArray) = xs at *
      generalize (⟨m1.toArray⟩ : ByteArray) = y1 at *
      generalize (⟨m2.toArray⟩ : ByteArray) = y2 at *
      generalize (⟨m3.toArray⟩ : ByteArray) = y3 at *
      have g0 := gr.c0
      have hgr : g < wr.heap.size := gr.glt
      have GR := hide gr
      clear HJ HD HM HCC hmm hdd gr es hE HFOUND HNONE c0
      go_wp2
      have hb1 : Below wr.heap.size wr (wr.alloc (.cells #[.int .i64 xt, .string xs, .int .i64 xn, .int .i64 xa, .int .i64 xb] 67)) := (Below.refl _ _).alloc (Nat.le_refl _) _
      have hx1 := heap_alloc_last wr (.cells #[.int .i64 xt, .string xs, .int .i64 xn, .int .i64 xa, .int .i64 xb] 67)
      obtain ⟨SS, hSS⟩ : ∃ SS : World → Prop, SS = fun W => Below wr.heap.size wr W ∧ W.heap[wr.heap.size]? = some (.cells #[.int .i64 xt, .string xs, .int .i64 xn, .int .i64 xa, .int .i64 xb] 67 (0, 0)) := ⟨_, rfl⟩
      have KI : Hid (SS (wr.alloc (.cells #[.int .i64 xt, .string xs, .int .i64 xn, .int .i64 xa, .int .i64 xb] 67)).drew) := by
        show SS _
        rw [hSS]
        exact ⟨hb1.drew, hx1⟩
      have KW : Hid (∀ W, SS W → Below wr.heap.size wr W) := fun W h => by
        rw [hSS] at h
        exact h.1
      have KE : Hid (∀ W, SS W → W.cell? ⟨g, 0, none⟩ = some (.slice (some ⟨b, o, none⟩) l.length c) ∧ (W.cell? ⟨wr.heap.size, 0, none⟩ = some (.int .i64 xt) ∧ W.cell? ⟨wr.heap.size, 1, none⟩ = some (.string xs) ∧ W.cell? ⟨wr.heap.size, 2, none⟩ = some (.int .i64 xn) ∧ W.cell? ⟨wr.heap.size, 3, none⟩ = some (.int .i64 xa) ∧ W.cell? ⟨wr.heap.size, 4, none⟩ = some (.int .i64 xb)) ∧ (W.cell? ⟨w.heap.size, 0, none⟩ = some (.int .i64 7) ∧ W.cell? ⟨w.heap.size, 1, none⟩ = some (.int .i64 0) ∧ W.cell? ⟨w.heap.size, 2, none⟩ = some (.string z1) ∧ W.cell? ⟨w.heap.size, 3, none⟩ = some (.string ⟨#[]⟩) ∧ W.cell? ⟨w.heap.size, 4, none⟩ = some (.string ⟨#[]⟩))) := fun W h => by
        rw [hSS] at h
        have hc := (h.1.block w.heap.size hszr).trans (unhide HCR)
        have hx := h.2
        exact ⟨((unhide GR).below h.1).c0, ⟨by rw [cell_of_row _ _ _ _ _ _ hx]; rfl, by rw [cell_of_row _ _ _ _ _ _ hx]; rfl, by rw [cell_of_row _ _ _ _ _ _ hx]; rfl, by rw [cell_of_row _ _ _ _ _ _ hx]; rfl, by rw [cell_of_row _ _ _ _ _ _ hx]; rfl⟩, ⟨by rw [cell_of_row _ _ _ _ _ _ hc]; rfl, by rw [cell_of_row _ _ _ _ _ _ hc]; rfl, by rw [cell_of_row _ _ _ _ _ _ hc]; rfl, by rw [cell_of_row _ _ _ _ _ _ hc]; rfl, by rw [cell_of_row _ _ _ _ _ _ hc]; rfl⟩⟩
      have KS : Hid (∀ W W', SS W → Below W.heap.size W W' → SS W') := fun W W' h f => by
        rw [hSS] at h ⊢
        exact ⟨h.1.trans (f.mono h.1.size), (f.block _ (lt_of_heap h.2)).trans h.2⟩
      clear hSS hb1 hx1 q0 q1 q2 q3 q4 g0
      generalize wr.alloc (.cells #[.int .i64 xt, .string xs, .int .i64 xn, .int .i64 xa, .int .i64 xb] 67) = w1 at *
      refine wp_region_seq SS (by kernel_rfl) (by kernel_rfl) (unhide KI) ?_
      repeat (first
        | (refine SeqDo.yields (v := ?_) (by rfl) ?_ ?_; rotate_left; (focus ((intro W hSW; obtain ⟨p0, ⟨p1, p2, p3, p4, p5⟩, ⟨p6, p7, p8, p9, p10⟩⟩ := unhide KE W hSW; go_simp) <;> with_reducible rfl)); simp only [Act.put, List.setIfInBounds_toArray, List.set_cons_zero, List.set_cons_succ])
        | (refine SeqDo.does (v := .agg #[.int .i64 mt, .int .i64 mn, .string y1, .string y2, .string y3]) (by rfl) (fun W hSW KK hKK => ?_) ?_; (focus (go_simp; go_wp2_with (go_at_call 45; refine (unhide HX2 _ (unhide KW _ hSW)).mono ?_; rintro e W' ⟨rfl, fJ⟩); exact hKK.out _ (unhide KS _ _ hSW fJ))); simp only [Act.put, List.setIfInBounds_toArray, List.set_cons_zero, List.set_cons_succ]))
      intro W hSW
      have fW := unhide KW W hSW
      have FW2 : Hid (Below w.heap.size w W) := (unhide FW).trans (fW.mono (unhide FW).size)
      have FB2 : Hid (Below w0.heap.size w0 W) := (unhide HBL).trans (fW.mono (unhide HBL).size)
      clear fW KI KW KE KS hSW HX2 J2
      cases dd
      case true =>
        go_wp2
        go_ret
        obtain ⟨_, e2⟩ := (unhide HD1).1 (by first | rfl | trivial)
        rw [e2]
        exact ⟨rfl, grTo_below (unhide FW2) hB (GrTo.refl (unhide HMK W (unhide FW2)) (unhide HTX))⟩
      case false =>
        go_wp2
        go_roundw
        case rel => exact ⟨k + 1, by omega, by go_num, (unhide HD1).2 (by first | rfl | trivial), unhide FB2⟩
        case measure => simp [intOf]; omega
    · have hkl : ¬ (k : Int) < (l.length : Int) := by omega
      have hf := unhide HNONE (fun j hj => unhide HALL j (by omega))
      have HF := hide hf
      have gr := unhide HMK wr (unhide FW)
      have HGR := hide gr
      have c0r : wr.cell? ⟨w.heap.size, 0, none⟩ = some (.int .i64 7) := by rw [cell_of_row _ _ _ _ _ _ (unhide HCR)]; rfl
      have c1r : wr.cell? ⟨w.heap.size, 1, none⟩ = some (.int .i64 0) := by rw [cell_of_row _ _ _ _ _ _ (unhide HCR)]; rfl
      have c2r : wr.cell? ⟨w.heap.size, 2, none⟩ = some (.string z1) := by rw [cell_of_row _ _ _ _ _ _ (unhide HCR)]; rfl
      have c3r : wr.cell? ⟨w.heap.size, 3, none⟩ = some (.string ⟨#[]⟩) := by rw [cell_of_row _ _ _ _ _ _ (unhide HCR)]; rfl
      have c4r : wr.cell? ⟨w.heap.size, 4, none⟩ = some (.string ⟨#[]⟩) := by rw [cell_of_row _ _ _ _ _ _ (unhide HCR)]; rfl
      have c0s := fun X => cell_alloc c0r X
      have c1s := fun X => cell_alloc c1r X
      have c2s := fun X => cell_alloc c2r X
      have c3s := fun X => cell_alloc c3r X
      have c4s := fun X => cell_alloc c4r X
      have b4 : Below wr.heap.size wr (wr.alloc (.cells #[.int .i64 7, .string ⟨#[]⟩, .int .i64 0, .int .i64 0, .int .i64 0] 67)) := (Below.refl _ _).alloc (Nat.le_refl _) _
      have BE : Hid (Beside w (wr.heap.size + 1) B g m (.slice a l.length c) w.heap.size wr.heap.size) := ⟨hB, (unhide BS).1, (unhide BS).2.1, (unhide BS).2.2, Nat.le_refl _, by omega, by omega, by omega, by omega⟩
      have NS0 : Hid (NS w (wr.heap.size + 1) B g m (.slice a l.length c) w.heap.size wr.heap.size #[.int .i64 7, .int .i64 0, .string z1, .string ⟨#[]⟩, .string ⟨#[]⟩] #[.int .i64 7, .string ⟨#[]⟩, .int .i64 0, .int .i64 0, .int .i64 0] (.slice a l.length c) N D l (wr.alloc (.cells #[.int .i64 7, .string ⟨#[]⟩, .int .i64 0, .int .i64 0, .int .i64 0] 67))) :=
        ⟨gr.below b4, unhide HTX, .inl rfl, Fr6.of_below ((unhide FW).trans (b4.mono (unhide FW).size)) hB, (b4.block _ (by omega)).trans (unhide HCR), heap_alloc_last wr _, by simp⟩
      clear hf gr b4 HM HCC HFOUND HNONE HALL HBL HC0 B0 HMK HTX BS c0
      go_wp2_with fail
      generalize wr.alloc (.cells #[.int .i64 7, .string ⟨#[]⟩, .int .i64 0, .int .i64 0, .int .i64 0] 67) = w4 at *
      have n0 := unhide NS0
      have hB0 : B ≤ w4.heap.size := Nat.le_trans hB n0.fr.below.size
      have r0 : l[0]? = some ent0 := (unhide HRT).1
      clear NS0 c0r c1r c2r c3r c4r HGR c0s c1s c2s c3s c4s
      have hl1 := kaddE_len l (eUtf s)
      have HT := kgtext_any w4 B g m N (.slice a l.length c) D l n0.gr n0.tx r0 s hs (by omega) hB0
      rw [unhide HZ1] at HT
      refine HT.mono ?_
      rintro e w5 ⟨rfl, tw5⟩
      obtain ⟨vw5, Nw5, Dw5, n5⟩ := n0.call (unhide BE) tw5
      clear HT tw5
      have e1 : Hid (clsK l s = (withE (addE l (eUtf s)).1 ⟨7, [], 0, ((addE l (eUtf s)).2 : Int), 0⟩, (addE l (eUtf s)).1.length)) := if_pos (unhide HF)
      generalize hL : (addE l (eUtf s)).1 = L at *
      generalize hK : (addE l (eUtf s)).2 = K at *
      clear hL hK
      have xfw5 : ∀ j, w5.frozen? ⟨wr.heap.size, j, none⟩ = false := fun j => frozen_of_row _ _ _ _ _ n5.xb
      have x0w5 : w5.cell? ⟨wr.heap.size, 0, none⟩ = some (.int .i64 7) := by rw [cell_of_row _ _ _ _ _ _ n5.xb]; rfl
      have x1w5 : w5.cell? ⟨wr.heap.size, 1, none⟩ = some (.string ⟨#[]⟩) := by rw [cell_of_row _ _ _ _ _ _ n5.xb]; rfl
      have x2w5 : w5.cell? ⟨wr.heap.size, 2, none⟩ = some (.int .i64 0) := by rw [cell_of_row _ _ _ _ _ _ n5.xb]; rfl
      have x3w5 : w5.cell? ⟨wr.heap.size, 3, none⟩ = some (.int .i64 0) := by rw [cell_of_row _ _ _ _ _ _ n5.xb]; rfl
      have x4w5 : w5.cell? ⟨wr.heap.size, 4, none⟩ = some (.int .i64 0) := by rw [cell_of_row _ _ _ _ _ _ n5.xb]; rfl
      have k0w5 : w5.cell? ⟨w.heap.size, 0, none⟩ = some (.int .i64 7) := by rw [cell_of_row _ _ _ _ _ _ n5.cb]; rfl
      have k1w5 : w5.cell? ⟨w.heap.size, 1, none⟩ = some (.int .i64 0) := by rw [cell_of_row _ _ _ _ _ _ n5.cb]; rfl
      have k2w5 : w5.cell? ⟨w.heap.size, 2, none⟩ = some (.string z1) := by rw [cell_of_row _ _ _ _ _ _ n5.cb]; rfl
      have k3w5 : w5.cell? ⟨w.heap.size, 3, none⟩ = some (.string ⟨#[]⟩) := by rw [cell_of_row _ _ _ _ _ _ n5.cb]; rfl
      have k4w5 : w5.cell? ⟨w.heap.size, 4, none⟩ = some (.string ⟨#[]⟩) := by rw [cell_of_row _ _ _ _ _ _ n5.cb]; rfl
      have n6 := n5.set (unhide BE) 3 (.int .i64 (K : Int)) #[.int .i64 7, .string ⟨#[]⟩, .int .i64 0, .int .i64 (K : Int), .int .i64 0] rfl
      go_wp2_with fail
      have HPT := kgput_any _ B g m Nw5 vw5 Dw5 L n6.gr ⟨7, [], 0, (K : Int), 0⟩ (by omega) (Nat.le_trans hB n6.fr.below.size)
      unfold entV at HPT
      refine HPT.mono ?_
      rintro e w7 ⟨rfl, pw7⟩
      have tw7 := put_to pw7 n6.tx (by simp)
      obtain ⟨vw7, Nw7, Dw7, n7⟩ := n6.call (unhide BE) tw7
      have Qw7 := hide (n7.done (unhide BE))
      clear HPT pw7 tw7 n7
      go_wp2
      go_ret
      rw [unhide e1]
      exact ⟨rfl, unhide Qw7⟩
set_option maxHeartbeats 12800000 in
set_option maxRecDepth 100000 in
theorem knumber_name (w : World) (B g m N : Nat) (v : Value) (D : DataW Unit) (l : List Ent) (h : GrR w B g m v N D l) (tx : TX l l.length D) (hr : rightL l) (s t : List UInt8) (hs : s.length ≤ 140737488355328) (ht : t.length ≤ 140737488355328) (hl : l.length ≤ 2000) (hB : B ≤ w.heap.size) :
    Calls Try.prog 49 #[.pointer (some ⟨g, 0, none⟩), cstV ⟨12, 0, ([] : List UInt8), s, t⟩] w fun e w' => e = .returned (.int .i64 ((namK l s t).2 : Int)) ∧ GrTo w B g m v (namK l s t).1 w' := by
  have hlen := right_len hr
  have HM : Hid (∀ W a n c x, Es W a n l → n ≤ 140737488351232 → (x.tag = 0 ∨ okE l x = true) → Calls Try.prog 45 #[.slice a n c, entV x] W fun e w' => e = .returned (cstV (meanN l x)) ∧ Below W.heap.size W w') := fun W a n c x hE hn hx => kmeaning_any W a n c l hE hr x hx hn
  have HCC : Hid (∀ W x, (binOp .eql 50 (cstV (meanN l x)) (cstV ⟨12, 0, ([] : List UInt8), s, t⟩)).run Try.prog W = .ok (.bool (decide (meanN l x = ⟨12, 0, ([] : List UInt8), s, t⟩))) W) := fun W x => cst_cmp W _ _
  have HFOUND : Hid (∀ k : Nat, k < l.length → meanN l (atE l (k : Int)) = ⟨12, 0, ([] : List UInt8), s, t⟩ → (∀ j : Nat, j < k → meanN l (atE l (j : Int)) ≠ ⟨12, 0, ([] : List UInt8), s, t⟩) → firstN l ⟨12, 0, ([] : List UInt8), s, t⟩ = k ∧ namK l s t = (l, k)) := fun k hk h1 h2 => by
    have hk1 : 1 ≤ k := by
      cases k with
      | zero =>
        have e0 : atE l ((0 : Nat) : Int) = ent0 := by rw [atE_nat, hr.1]; rfl
        have := congrArg Cst.tag h1
        rw [meanN_tag, e0] at this
        simp [ent0] at this
      | succ k => omega
    have e := firstN_eq hk1 hk h1 (fun j hj hjk => h2 j hjk)
    refine ⟨e, ?_⟩
    unfold namK cNam
    rw [e, if_neg (by omega)]
  have HNONE : Hid ((∀ j : Nat, j < l.length → meanN l (atE l (j : Int)) ≠ ⟨12, 0, ([] : List UInt8), s, t⟩) → firstN l ⟨12, 0, ([] : List UInt8), s, t⟩ = 0) := fun h1 => by
    by_cases e : firstN l ⟨12, 0, ([] : List UInt8), s, t⟩ = 0
    · exact e
    · obtain ⟨_, e2, e3⟩ := firstN_some e
      exact absurd e3 (h1 _ e2)
  have b0 : Below w.heap.size w (w.alloc (.cells #[.int .i64 12, .int .i64 0, .string ⟨([] : List UInt8).toArray⟩, .string ⟨s.toArray⟩, .string ⟨t.toArray⟩] 50)) := (Below.refl _ _).alloc (Nat.le_refl _) _
  have hc0 := heap_alloc_last w (.cells #[.int .i64 12, .int .i64 0, .string ⟨([] : List UInt8).toArray⟩, .string ⟨s.toArray⟩, .string ⟨t.toArray⟩] 50)
  have h0 := h.below b0
  obtain ⟨a, c, rfl⟩ := own5_form h.row
  have c0 := h0.c0
  have HMK : Hid (∀ W, Below w.heap.size w W → GrR W B g m (.slice a l.length c) N D l) := fun W f => h.below f
  have HTX := hide tx
  have BS : Hid (g < w.heap.size ∧ m < w.heap.size ∧ ∀ k, (Value.slice a l.length c).ownBlock = some k → k < w.heap.size) := ⟨h.glt, h.map.lt, fun k hk => (h.row.lt k hk).2⟩
  have hgne : ¬ g = w.heap.size := by have := h.glt; omega
  unfold cstV
  simp only
  have HRT := hide hr
  have HC0 := hide hc0
  have B0 := hide b0
  clear b0 hc0 h0 h tx hr
  generalize hz2 : (⟨s.toArray⟩ : ByteArray) = z2 at *
  have HZ2 := hide hz2
  clear hz2
  generalize hz3 : (⟨t.toArray⟩ : ByteArray) = z3 at *
  have HZ3 := hide hz3
  clear hz3
  go_enter Try.func49, Try.ntmps49
  go_wp2
  generalize w.alloc (.cells #[.int .i64 12, .int .i64 0, .string ⟨#[]⟩, .string z2, .string z3] 50) = w0 at *
  go_loopw [13] (fun i wr => ∃ k : Nat, k ≤ l.length ∧ i = .int .i64 k ∧ (∀ j : Nat, j < k → meanN l (atE l (j : Int)) ≠ ⟨12, 0, ([] : List UInt8), s, t⟩) ∧ Below w0.heap.size w0 wr) (fun i _ => l.length - (intOf i).toNat)
  case atStart => exact ⟨0, by omega, rfl, fun j hj => by omega, Below.refl _ _⟩
  case round =>
    obtain ⟨k, hk, rfl, hall, hBl⟩ := hrel
    have HALL := hide hall
    have FW : Hid (Below w.heap.size w wr) := (unhide B0).trans (hBl.mono (unhide B0).size)
    have HBL := hide hBl
    have hcr : wr.heap[w.heap.size]? = some (.cells #[.int .i64 12, .int .i64 0, .string ⟨#[]⟩, .string z2, .string z3] 50 (0, 0)) := (hBl.block w.heap.size (lt_of_heap (unhide HC0))).trans (unhide HC0)
    have HCR := hide hcr
    have hszr : w.heap.size + 1 ≤ wr.heap.size := lt_of_heap hcr
    clear hall hBl hcr
    by_cases hlt : k < l.length
    · have hlt1 : (k : Int) < (l.length : Int) := by omega
      have gr := unhide HMK wr (unhide FW)
      have es := es_of_own gr.row
      obtain ⟨b, o, rfl, hE⟩ := es.2.resolve_left (by omega)
      obtain ⟨q0, q1, q2, q3, q4⟩ := ents_at hE hlt
      have HX2 : Hid (∀ W, Below wr.heap.size wr W → Calls Try.prog 45 #[.slice (some ⟨b, o, none⟩) l.length c, entV (atE l (k : Int))] W fun e w' => e = .returned (cstV (meanN l (atE l (k : Int)))) ∧ Below W.heap.size W w') := fun W f => unhide HM W _ _ _ _ (es.below f) (by omega) (right_or (unhide HRT) _)
      have HJ := hide (fun W => unhide HCC W (atE l (k : Int)))
      have HD : Hid (∀ X, decide (meanN l (atE l (k : Int)) = ⟨12, 0, ([] : List UInt8), s, t⟩) = X → (X = true → firstN l ⟨12, 0, ([] : List UInt8), s, t⟩ = k ∧ namK l s t = (l, k)) ∧ (X = false → ∀ j : Nat, j < k + 1 → meanN l (atE l (j : Int)) ≠ ⟨12, 0, ([] : List UInt8), s, t⟩)) := fun X hX => by
        constructor
        · intro e
          rw [e] at hX
          exact unhide HFOUND k hlt (by simpa using hX) (unhide HALL)
        · intro e j hj
          rw [e] at hX
          by_cases ejk : j = k
          · subst ejk
            simpa using hX
          · exact unhide HALL j (by omega)
      obtain ⟨dd, hdd⟩ : ∃ dd, decide (meanN l (atE l (k : Int)) = ⟨12, 0, ([] : List UInt8), s, t⟩) = dd := ⟨_, rfl⟩
      have HD1 := hide (unhide HD dd hdd)
      have J2 := unhide HJ
      rw [hdd] at J2
      generalize hmm : meanN l (atE l (k : Int)) = mm at *
      generalize atE l (k : Int) = xx at *
      obtain ⟨xt, xtx, xn, xa, xb⟩ := xx
      obtain ⟨mt, mn, m1, m2, m3⟩ := mm
      unfold entV cstV at *
      simp only at q0 q1 q2 q3 q4 J2 HX2
      simp only [unhide HZ2] at J2
      simp only [unhide HZ3] at J2
      generalize (⟨xtx.toArray⟩ : ByteArray) = xs at *
      generalize (⟨m1.toArray⟩ : ByteArray) = y1 at *
      generalize (⟨m2.toArray⟩ : ByteArray) = y2 at *
      generalize (⟨m3.toArray⟩ : ByteArray) = y3 at *
      have g0 := gr.c0
      have hgr : g < wr.heap.size := gr.glt
      have GR := hide gr
      clear HJ HD HM HCC hmm hdd gr es hE HFOUND HNONE c0
      go_wp2
      have hb1 : Below wr.heap.size wr (wr.alloc (.cells #[.int .i64 xt, .string xs, .int .i64 xn, .int .i64 xa, .int .i64 xb] 67)) := (Below.refl _ _).alloc (Nat.le_refl _) _
      have hx1 := heap_alloc_last wr (.cells #[.int .i64 xt, .string xs, .int .i64 xn, .int .i64 xa, .int .i64 xb] 67)
      obtain ⟨SS, hSS⟩ : ∃ SS : World → Prop, SS = fun W => Below wr.heap.size wr W ∧ W.heap[wr.heap.size]? = some (.cells #[.int .i64 xt, .string xs, .int .i64 xn, .int .i64 xa, .int .i64 xb] 67 (0, 0)) := ⟨_, rfl⟩
      have KI : Hid (SS (wr.alloc (.cells #[.int .i64 xt, .string xs, .int .i64 xn, .int .i64 xa, .int .i64 xb] 67)).drew) := by
        show SS _
        rw [hSS]
        exact ⟨hb1.drew, hx1⟩
      have KW : Hid (∀ W, SS W → Below wr.heap.size wr W) := fun W h => by
        rw [hSS] at h
        exact h.1
      have KE : Hid (∀ W, SS W → W.cell? ⟨g, 0, none⟩ = some (.slice (some ⟨b, o, none⟩) l.length c) ∧ (W.cell? ⟨wr.heap.size, 0, none⟩ = some (.int .i64 xt) ∧ W.cell? ⟨wr.heap.size, 1, none⟩ = some (.string xs) ∧ W.cell? ⟨wr.heap.size, 2, none⟩ = some (.int .i64 xn) ∧ W.cell? ⟨wr.heap.size, 3, none⟩ = some (.int .i64 xa) ∧ W.cell? ⟨wr.heap.size, 4, none⟩ = some (.int .i64 xb)) ∧ (W.cell? ⟨w.heap.size, 0, none⟩ = some (.int .i64 12) ∧ W.cell? ⟨w.heap.size, 1, none⟩ = some (.int .i64 0) ∧ W.cell? ⟨w.heap.size, 2, none⟩ = some (.string ⟨#[]⟩) ∧ W.cell? ⟨w.heap.size, 3, none⟩ = some (.string z2) ∧ W.cell? ⟨w.heap.size, 4, none⟩ = some (.string z3))) := fun W h => by
        rw [hSS] at h
        have hc := (h.1.block w.heap.size hszr).trans (unhide HCR)
        have hx := h.2
        exact ⟨((unhide GR).below h.1).c0, ⟨by rw [cell_of_row _ _ _ _ _ _ hx]; rfl, by rw [cell_of_row _ _ _ _ _ _ hx]; rfl, by rw [cell_of_row _ _ _ _ _ _ hx]; rfl, by rw [cell_of_row _ _ _ _ _ _ hx]; rfl, by rw [cell_of_row _ _ _ _ _ _ hx]; rfl⟩, ⟨by rw [cell_of_row _ _ _ _ _ _ hc]; rfl, by rw [cell_of_row _ _ _ _ _ _ hc]; rfl, by rw [cell_of_row _ _ _ _ _ _ hc]; rfl, by rw [cell_of_row _ _ _ _ _ _ hc]; rfl, by rw [cell_of_row _ _ _ _ _ _ hc]; rfl⟩⟩
      have KS : Hid (∀ W W', SS W → Below W.heap.size W W' → SS W') := fun W W' h f => by
        rw [hSS] at h ⊢
        exact ⟨h.1.trans (f.mono h.1.size), (f.block _ (lt_of_heap h.2)).trans h.2⟩
      clear hSS hb1 hx1 q0 q1 q2 q3 q4 g0
      generalize wr.alloc (.cells #[.int .i64 xt, .string xs, .int .i64 xn, .int .i64 xa, .int .i64 xb] 67) = w1 at *
      refine wp_region_seq SS (by kernel_rfl) (by kernel_rfl) (unhide KI) ?_
      repeat (first
        | (refine SeqDo.yields (v := ?_) (by rfl) ?_ ?_; rotate_left; (focus ((intro W hSW; obtain ⟨p0, ⟨p1, p2, p3, p4, p5⟩, ⟨p6, p7, p8, p9, p10⟩⟩ := unhide KE W hSW; go_simp) <;> with_reducible rfl)); simp only [Act.put, List.setIfInBounds_toArray, List.set_cons_zero, List.set_cons_succ])
        | (refine SeqDo.does (v := .agg #[.int .i64 mt, .int .i64 mn, .string y1, .string y2, .string y3]) (by rfl) (fun W hSW KK hKK => ?_) ?_; (focus (go_simp; go_wp2_with (go_at_call 45; refine (unhide HX2 _ (unhide KW _ hSW)).mono ?_; rintro e W' ⟨rfl, fJ⟩); exact hKK.out _ (unhide KS _ _ hSW fJ))); simp only [Act.put, List.setIfInBounds_toArray, List.set_cons_zero, List.set_cons_succ]))
      intro W hSW
      have fW := unhide KW W hSW
      have FW2 : Hid (Below w.heap.size w W) := (unhide FW).trans (fW.mono (unhide FW).size)
      have FB2 : Hid (Below w0.heap.size w0 W) := (unhide HBL).trans (fW.mono (unhide HBL).size)
      clear fW KI KW KE KS hSW HX2 J2
      cases dd
      case true =>
        go_wp2
        go_ret
        obtain ⟨_, e2⟩ := (unhide HD1).1 (by first | rfl | trivial)
        rw [e2]
        exact ⟨rfl, grTo_below (unhide FW2) hB (GrTo.refl (unhide HMK W (unhide FW2)) (unhide HTX))⟩
      case false =>
        go_wp2
        go_roundw
        case rel => exact ⟨k + 1, by omega, by go_num, (unhide HD1).2 (by first | rfl | trivial), unhide FB2⟩
        case measure => simp [intOf]; omega
    · have hkl : ¬ (k : Int) < (l.length : Int) := by omega
      have hf := unhide HNONE (fun j hj => unhide HALL j (by omega))
      have HF := hide hf
      have gr := unhide HMK wr (unhide FW)
      have HGR := hide gr
      have c0r : wr.cell? ⟨w.heap.size, 0, none⟩ = some (.int .i64 12) := by rw [cell_of_row _ _ _ _ _ _ (unhide HCR)]; rfl
      have c1r : wr.cell? ⟨w.heap.size, 1, none⟩ = some (.int .i64 0) := by rw [cell_of_row _ _ _ _ _ _ (unhide HCR)]; rfl
      have c2r : wr.cell? ⟨w.heap.size, 2, none⟩ = some (.string ⟨#[]⟩) := by rw [cell_of_row _ _ _ _ _ _ (unhide HCR)]; rfl
      have c3r : wr.cell? ⟨w.heap.size, 3, none⟩ = some (.string z2) := by rw [cell_of_row _ _ _ _ _ _ (unhide HCR)]; rfl
      have c4r : wr.cell? ⟨w.heap.size, 4, none⟩ = some (.string z3) := by rw [cell_of_row _ _ _ _ _ _ (unhide HCR)]; rfl
      have c0s := fun X => cell_alloc c0r X
      have c1s := fun X => cell_alloc c1r X
      have c2s := fun X => cell_alloc c2r X
      have c3s := fun X => cell_alloc c3r X
      have c4s := fun X => cell_alloc c4r X
      have b4 : Below wr.heap.size wr (wr.alloc (.cells #[.int .i64 12, .string ⟨#[]⟩, .int .i64 0, .int .i64 0, .int .i64 0] 67)) := (Below.refl _ _).alloc (Nat.le_refl _) _
      have BE : Hid (Beside w (wr.heap.size + 1) B g m (.slice a l.length c) w.heap.size wr.heap.size) := ⟨hB, (unhide BS).1, (unhide BS).2.1, (unhide BS).2.2, Nat.le_refl _, by omega, by omega, by omega, by omega⟩
      have NS0 : Hid (NS w (wr.heap.size + 1) B g m (.slice a l.length c) w.heap.size wr.heap.size #[.int .i64 12, .int .i64 0, .string ⟨#[]⟩, .string z2, .string z3] #[.int .i64 12, .string ⟨#[]⟩, .int .i64 0, .int .i64 0, .int .i64 0] (.slice a l.length c) N D l (wr.alloc (.cells #[.int .i64 12, .string ⟨#[]⟩, .int .i64 0, .int .i64 0, .int .i64 0] 67))) :=
        ⟨gr.below b4, unhide HTX, .inl rfl, Fr6.of_below ((unhide FW).trans (b4.mono (unhide FW).size)) hB, (b4.block _ (by omega)).trans (unhide HCR), heap_alloc_last wr _, by simp⟩
      clear hf gr b4 HM HCC HFOUND HNONE HALL HBL HC0 B0 HMK HTX BS c0
      go_wp2_with fail
      generalize wr.alloc (.cells #[.int .i64 12, .string ⟨#[]⟩, .int .i64 0, .int .i64 0, .int .i64 0] 67) = w4 at *
      have n0 := unhide NS0
      have hB0 : B ≤ w4.heap.size := Nat.le_trans hB n0.fr.below.size
      have r0 : l[0]? = some ent0 := (unhide HRT).1
      clear NS0 c0r c1r c2r c3r c4r HGR c0s c1s c2s c3s c4s
      have hl1 := kaddE_len l (eUtf s)
      have hl2 := kaddE_len (addE l (eUtf s)).1 (eUtf t)
      have r1 := addE_zero (eUtf s) r0
      have HT := kgtext_any w4 B g m N (.slice a l.length c) D l n0.gr n0.tx r0 s hs (by omega) hB0
      rw [unhide HZ2] at HT
      refine HT.mono ?_
      rintro e w5 ⟨rfl, tw5⟩
      obtain ⟨vw5, Nw5, Dw5, n5⟩ := n0.call (unhide BE) tw5
      clear HT tw5
      have e1 : Hid (namK l s t = (withE (addE (addE l (eUtf s)).1 (eUtf t)).1 ⟨12, [], 0, ((addE l (eUtf s)).2 : Int), ((addE (addE l (eUtf s)).1 (eUtf t)).2 : Int)⟩, (addE (addE l (eUtf s)).1 (eUtf t)).1.length)) := if_pos (unhide HF)
      generalize hL : (addE l (eUtf s)).1 = L at *
      generalize hK : (addE l (eUtf s)).2 = K at *
      clear hL hK
      have xfw5 : ∀ j, w5.frozen? ⟨wr.heap.size, j, none⟩ = false := fun j => frozen_of_row _ _ _ _ _ n5.xb
      have x0w5 : w5.cell? ⟨wr.heap.size, 0, none⟩ = some (.int .i64 12) := by rw [cell_of_row _ _ _ _ _ _ n5.xb]; rfl
      have x1w5 : w5.cell? ⟨wr.heap.size, 1, none⟩ = some (.string ⟨#[]⟩) := by rw [cell_of_row _ _ _ _ _ _ n5.xb]; rfl
      have x2w5 : w5.cell? ⟨wr.heap.size, 2, none⟩ = some (.int .i64 0) := by rw [cell_of_row _ _ _ _ _ _ n5.xb]; rfl
      have x3w5 : w5.cell? ⟨wr.heap.size, 3, none⟩ = some (.int .i64 0) := by rw [cell_of_row _ _ _ _ _ _ n5.xb]; rfl
      have x4w5 : w5.cell? ⟨wr.heap.size, 4, none⟩ = some (.int .i64 0) := by rw [cell_of_row _ _ _ _ _ _ n5.xb]; rfl
      have k0w5 : w5.cell? ⟨w.heap.size, 0, none⟩ = some (.int .i64 12) := by rw [cell_of_row _ _ _ _ _ _ n5.cb]; rfl
      have k1w5 : w5.cell? ⟨w.heap.size, 1, none⟩ = some (.int .i64 0) := by rw [cell_of_row _ _ _ _ _ _ n5.cb]; rfl
      have k2w5 : w5.cell? ⟨w.heap.size, 2, none⟩ = some (.string ⟨#[]⟩) := by rw [cell_of_row _ _ _ _ _ _ n5.cb]; rfl
      have k3w5 : w5.cell? ⟨w.heap.size, 3, none⟩ = some (.string z2) := by rw [cell_of_row _ _ _ _ _ _ n5.cb]; rfl
      have k4w5 : w5.cell? ⟨w.heap.size, 4, none⟩ = some (.string z3) := by rw [cell_of_row _ _ _ _ _ _ n5.cb]; rfl
      have n6 := n5.set (unhide BE) 3 (.int .i64 (K : Int)) #[.int .i64 12, .string ⟨#[]⟩, .int .i64 0, .int .i64 (K : Int), .int .i64 0] rfl
      go_wp2_with fail
      generalize w5.setCell ⟨wr.heap.size, 3, none⟩ (.int .i64 (K : Int)) = w6 at *
      have hBw6 : B ≤ w6.heap.size := Nat.le_trans hB n6.fr.below.size
      clear xfw5 x0w5 x1w5 x2w5 x3w5 x4w5 k0w5 k1w5 k2w5 k3w5 k4w5
      have HT := kgtext_any w6 B g m Nw5 vw5 Dw5 L n6.gr n6.tx r1 t ht (by omega) hBw6
      rw [unhide HZ3] at HT
      refine HT.mono ?_
      rintro e w7 ⟨rfl, tw7⟩
      obtain ⟨vw7, Nw7, Dw7, n7⟩ := n6.call (unhide BE) tw7
      clear HT tw7
      generalize hL : (addE L (eUtf t)).1 = L2 at *
      generalize hK : (addE L (eUtf t)).2 = K2 at *
      clear hL hK
      have xfw7 : ∀ j, w7.frozen? ⟨wr.heap.size, j, none⟩ = false := fun j => frozen_of_row _ _ _ _ _ n7.xb
      have x0w7 : w7.cell? ⟨wr.heap.size, 0, none⟩ = some (.int .i64 12) := by rw [cell_of_row _ _ _ _ _ _ n7.xb]; rfl
      have x1w7 : w7.cell? ⟨wr.heap.size, 1, none⟩ = some (.string ⟨#[]⟩) := by rw [cell_of_row _ _ _ _ _ _ n7.xb]; rfl
      have x2w7 : w7.cell? ⟨wr.heap.size, 2, none⟩ = some (.int .i64 0) := by rw [cell_of_row _ _ _ _ _ _ n7.xb]; rfl
      have x3w7 : w7.cell? ⟨wr.heap.size, 3, none⟩ = some (.int .i64 (K : Int)) := by rw [cell_of_row _ _ _ _ _ _ n7.xb]; rfl
      have x4w7 : w7.cell? ⟨wr.heap.size, 4, none⟩ = some (.int .i64 0) := by rw [cell_of_row _ _ _ _ _ _ n7.xb]; rfl
      have k0w7 : w7.cell? ⟨w.heap.size, 0, none⟩ = some (.int .i64 12) := by rw [cell_of_row _ _ _ _ _ _ n7.cb]; rfl
      have k1w7 : w7.cell? ⟨w.heap.size, 1, none⟩ = some (.int .i64 0) := by rw [cell_of_row _ _ _ _ _ _ n7.cb]; rfl
      have k2w7 : w7.cell? ⟨w.heap.size, 2, none⟩ = some (.string ⟨#[]⟩) := by rw [cell_of_row _ _ _ _ _ _ n7.cb]; rfl
      have k3w7 : w7.cell? ⟨w.heap.size, 3, none⟩ = some (.string z2) := by rw [cell_of_row _ _ _ _ _ _ n7.cb]; rfl
      have k4w7 : w7.cell? ⟨w.heap.size, 4, none⟩ = some (.string z3) := by rw [cell_of_row _ _ _ _ _ _ n7.cb]; rfl
      have n8 := n7.set (unhide BE) 4 (.int .i64 (K2 : Int)) #[.int .i64 12, .string ⟨#[]⟩, .int .i64 0, .int .i64 (K : Int), .int .i64 (K2 : Int)] rfl
      go_wp2_with fail
      have HPT := kgput_any _ B g m Nw7 vw7 Dw7 L2 n8.gr ⟨12, [], 0, (K : Int), (K2 : Int)⟩ (by omega) (Nat.le_trans hB n8.fr.below.size)
      unfold entV at HPT
      refine HPT.mono ?_
      rintro e w9 ⟨rfl, pw9⟩
      have tw9 := put_to pw9 n8.tx (by simp)
      obtain ⟨vw9, Nw9, Dw9, n9⟩ := n8.call (unhide BE) tw9
      have Qw9 := hide (n9.done (unhide BE))
      clear HPT pw9 tw9 n9
      go_wp2
      go_ret
      rw [unhide e1]
      exact ⟨rfl, unhide Qw9⟩

set_option maxHeartbeats 12800000 in
set_option maxRecDepth 100000 in
theorem knumber_num3 (w : World) (B g m N : Nat) (v : Value) (D : DataW Unit) (l : List Ent) (h : GrR w B g m v N D l) (tx : TX l l.length D) (hr : rightL l) (nn : Int) (hl : l.length ≤ 2000) (hB : B ≤ w.heap.size) :
    Calls Try.prog 49 #[.pointer (some ⟨g, 0, none⟩), cstV ⟨3, nn, ([] : List UInt8), ([] : List UInt8), ([] : List UInt8)⟩] w fun e w' => e = .returned (.int .i64 ((numK l ⟨3, nn, [], [], []⟩).2 : Int)) ∧ GrTo w B g m v (numK l ⟨3, nn, [], [], []⟩).1 w' := by
  have hlen := right_len hr
  have HM : Hid (∀ W a n c x, Es W a n l → n ≤ 140737488351232 → (x.tag = 0 ∨ okE l x = true) → Calls Try.prog 45 #[.slice a n c, entV x] W fun e w' => e = .returned (cstV (meanN l x)) ∧ Below W.heap.size W w') := fun W a n c x hE hn hx => kmeaning_any W a n c l hE hr x hx hn
  have HCC : Hid (∀ W x, (binOp .eql 50 (cstV (meanN l x)) (cstV ⟨3, nn, ([] : List UInt8), ([] : List UInt8), ([] : List UInt8)⟩)).run Try.prog W = .ok (.bool (decide (meanN l x = ⟨3, nn, ([] : List UInt8), ([] : List UInt8), ([] : List UInt8)⟩))) W) := fun W x => cst_cmp W _ _
  have HFOUND : Hid (∀ k : Nat, k < l.length → meanN l (atE l (k : Int)) = ⟨3, nn, ([] : List UInt8), ([] : List UInt8), ([] : List UInt8)⟩ → (∀ j : Nat, j < k → meanN l (atE l (j : Int)) ≠ ⟨3, nn, ([] : List UInt8), ([] : List UInt8), ([] : List UInt8)⟩) → firstN l ⟨3, nn, ([] : List UInt8), ([] : List UInt8), ([] : List UInt8)⟩ = k ∧ numK l ⟨3, nn, [], [], []⟩ = (l, k)) := fun k hk h1 h2 => by
    have hk1 : 1 ≤ k := by
      cases k with
      | zero =>
        have e0 : atE l ((0 : Nat) : Int) = ent0 := by rw [atE_nat, hr.1]; rfl
        have := congrArg Cst.tag h1
        rw [meanN_tag, e0] at this
        simp [ent0] at this
      | succ k => omega
    have e := firstN_eq hk1 hk h1 (fun j hj hjk => h2 j hjk)
    refine ⟨e, ?_⟩
    unfold numK
    rw [e, if_pos (by omega)]
  have HNONE : Hid ((∀ j : Nat, j < l.length → meanN l (atE l (j : Int)) ≠ ⟨3, nn, ([] : List UInt8), ([] : List UInt8), ([] : List UInt8)⟩) → firstN l ⟨3, nn, ([] : List UInt8), ([] : List UInt8), ([] : List UInt8)⟩ = 0) := fun h1 => by
    by_cases e : firstN l ⟨3, nn, ([] : List UInt8), ([] : List UInt8), ([] : List UInt8)⟩ = 0
    · exact e
    · obtain ⟨_, e2, e3⟩ := firstN_some e
      exact absurd e3 (h1 _ e2)
  have b0 : Below w.heap.size w (w.alloc (.cells #[.int .i64 3, .int .i64 nn, .string ⟨([] : List UInt8).toArray⟩, .string ⟨([] : List UInt8).toArray⟩, .string ⟨([] : List UInt8).toArray⟩] 50)) := (Below.refl _ _).alloc (Nat.le_refl _) _
  have hc0 := heap_alloc_last w (.cells #[.int .i64 3, .int .i64 nn, .string ⟨([] : List UInt8).toArray⟩, .string ⟨([] : List UInt8).toArray⟩, .string ⟨([] : List UInt8).toArray⟩] 50)
  have h0 := h.below b0
  obtain ⟨a, c, rfl⟩ := own5_form h.row
  have c0 := h0.c0
  have HMK : Hid (∀ W, Below w.heap.size w W → GrR W B g m (.slice a l.length c) N D l) := fun W f => h.below f
  have HTX := hide tx
  have BS : Hid (g < w.heap.size ∧ m < w.heap.size ∧ ∀ k, (Value.slice a l.length c).ownBlock = some k → k < w.heap.size) := ⟨h.glt, h.map.lt, fun k hk => (h.row.lt k hk).2⟩
  have hgne : ¬ g = w.heap.size := by have := h.glt; omega
  unfold cstV
  simp only
  have HRT := hide hr
  have HC0 := hide hc0
  have B0 := hide b0
  clear b0 hc0 h0 h tx hr
  go_enter Try.func49, Try.ntmps49
  go_wp2
  generalize w.alloc (.cells #[.int .i64 3, .int .i64 nn, .string ⟨#[]⟩, .string ⟨#[]⟩, .string ⟨#[]⟩] 50) = w0 at *
  go_loopw [13] (fun i wr => ∃ k : Nat, k ≤ l.length ∧ i = .int .i64 k ∧ (∀ j : Nat, j < k → meanN l (atE l (j : Int)) ≠ ⟨3, nn, ([] : List UInt8), ([] : List UInt8), ([] : List UInt8)⟩) ∧ Below w0.heap.size w0 wr) (fun i _ => l.length - (intOf i).toNat)
  case atStart => exact ⟨0, by omega, rfl, fun j hj => by omega, Below.refl _ _⟩
  case round =>
    obtain ⟨k, hk, rfl, hall, hBl⟩ := hrel
    have HALL := hide hall
    have FW : Hid (Below w.heap.size w wr) := (unhide B0).trans (hBl.mono (unhide B0).size)
    have HBL := hide hBl
    have hcr : wr.heap[w.heap.size]? = some (.cells #[.int .i64 3, .int .i64 nn, .string ⟨#[]⟩, .string ⟨#[]⟩, .string ⟨#[]⟩] 50 (0, 0)) := (hBl.block w.heap.size (lt_of_heap (unhide HC0))).trans (unhide HC0)
    have HCR := hide hcr
    have hszr : w.heap.size + 1 ≤ wr.heap.size := lt_of_heap hcr
    clear hall hBl hcr
    by_cases hlt : k < l.length
    · have hlt1 : (k : Int) < (l.length : Int) := by omega
      have gr := unhide HMK wr (unhide FW)
      have es := es_of_own gr.row
      obtain ⟨b, o, rfl, hE⟩ := es.2.resolve_left (by omega)
      obtain ⟨q0, q1, q2, q3, q4⟩ := ents_at hE hlt
      have HX2 : Hid (∀ W, Below wr.heap.size wr W → Calls Try.prog 45 #[.slice (some ⟨b, o, none⟩) l.length c, entV (atE l (k : Int))] W fun e w' => e = .returned (cstV (meanN l (atE l (k : Int)))) ∧ Below W.heap.size W w') := fun W f => unhide HM W _ _ _ _ (es.below f) (by omega) (right_or (unhide HRT) _)
      have HJ := hide (fun W => unhide HCC W (atE l (k : Int)))
      have HD : Hid (∀ X, decide (meanN l (atE l (k : Int)) = ⟨3, nn, ([] : List UInt8), ([] : List UInt8), ([] : List UInt8)⟩) = X → (X = true → firstN l ⟨3, nn, ([] : List UInt8), ([] : List UInt8), ([] : List UInt8)⟩ = k ∧ numK l ⟨3, nn, [], [], []⟩ = (l, k)) ∧ (X = false → ∀ j : Nat, j < k + 1 → meanN l (atE l (j : Int)) ≠ ⟨3, nn, ([] : List UInt8), ([] : List UInt8), ([] : List UInt8)⟩)) := fun X hX => by
        constructor
        · intro e
          rw [e] at hX
          exact unhide HFOUND k hlt (by simpa using hX) (unhide HALL)
        · intro e j hj
          rw [e] at hX
          by_cases ejk : j = k
          · subst ejk
            simpa using hX
          · exact unhide HALL j (by omega)
      obtain ⟨dd, hdd⟩ : ∃ dd, decide (meanN l (atE l (k : Int)) = ⟨3, nn, ([] : List UInt8), ([] : List UInt8), ([] : List UInt8)⟩) = dd := ⟨_, rfl⟩
      have HD1 := hide (unhide HD dd hdd)
      have J2 := unhide HJ
      rw [hdd] at J2
      generalize hmm : meanN l (atE l (k : Int)) = mm at *
      generalize atE l (k : Int) = xx at *
      obtain ⟨xt, xtx, xn, xa, xb⟩ := xx
      obtain ⟨mt, mn, m1, m2, m3⟩ := mm
      unfold entV cstV at *
      simp only at q0 q1 q2 q3 q4 J2 HX2
      generalize (⟨xtx.toArray⟩ : ByteArray) = xs at *
      generalize (⟨m1.toArray⟩ : ByteArray) = y1 at *
      generalize (⟨m2.toArray⟩ : ByteArray) = y2 at *
      generalize (⟨m3.toArray⟩ : ByteArray) = y3 at *
      have g0 := gr.c0
      have hgr : g < wr.heap.size := gr.glt
      have GR := hide gr
      clear HJ HD HM HCC hmm hdd gr es hE HFOUND HNONE c0
      go_wp2
      have hb1 : Below wr.heap.size wr (wr.alloc (.cells #[.int .i64 xt, .string xs, .int .i64 xn, .int .i64 xa, .int .i64 xb] 67)) := (Below.refl _ _).alloc (Nat.le_refl _) _
      have hx1 := heap_alloc_last wr (.cells #[.int .i64 xt, .string xs, .int .i64 xn, .int .i64 xa, .int .i64 xb] 67)
      obtain ⟨SS, hSS⟩ : ∃ SS : World → Prop, SS = fun W => Below wr.heap.size wr W ∧ W.heap[wr.heap.size]? = some (.cells #[.int .i64 xt, .string xs, .int .i64 xn, .int .i64 xa, .int .i64 xb] 67 (0, 0)) := ⟨_, rfl⟩
      have KI : Hid (SS (wr.alloc (.cells #[.int .i64 xt, .string xs, .int .i64 xn, .int .i64 xa, .int .i64 xb] 67)).drew) := by
        show SS _
        rw [hSS]
        exact ⟨hb1.drew, hx1⟩
      have KW : Hid (∀ W, SS W → Below wr.heap.size wr W) := fun W h => by
        rw [hSS] at h
        exact h.1
      have KE : Hid (∀ W, SS W → W.cell? ⟨g, 0, none⟩ = some (.slice (some ⟨b, o, none⟩) l.length c) ∧ (W.cell? ⟨wr.heap.size, 0, none⟩ = some (.int .i64 xt) ∧ W.cell? ⟨wr.heap.size, 1, none⟩ = some (.string xs) ∧ W.cell? ⟨wr.heap.size, 2, none⟩ = some (.int .i64 xn) ∧ W.cell? ⟨wr.heap.size, 3, none⟩ = some (.int .i64 xa) ∧ W.cell? ⟨wr.heap.size, 4, none⟩ = some (.int .i64 xb)) ∧ (W.cell? ⟨w.heap.size, 0, none⟩ = some (.int .i64 3) ∧ W.cell? ⟨w.heap.size, 1, none⟩ = some (.int .i64 nn) ∧ W.cell? ⟨w.heap.size, 2, none⟩ = some (.string ⟨#[]⟩) ∧ W.cell? ⟨w.heap.size, 3, none⟩ = some (.string ⟨#[]⟩) ∧ W.cell? ⟨w.heap.size, 4, none⟩ = some (.string ⟨#[]⟩))) := fun W h => by
        rw [hSS] at h
        have hc := (h.1.block w.heap.size hszr).trans (unhide HCR)
        have hx := h.2
        exact ⟨((unhide GR).below h.1).c0, ⟨by rw [cell_of_row _ _ _ _ _ _ hx]; rfl, by rw [cell_of_row _ _ _ _ _ _ hx]; rfl, by rw [cell_of_row _ _ _ _ _ _ hx]; rfl, by rw [cell_of_row _ _ _ _ _ _ hx]; rfl, by rw [cell_of_row _ _ _ _ _ _ hx]; rfl⟩, ⟨by rw [cell_of_row _ _ _ _ _ _ hc]; rfl, by rw [cell_of_row _ _ _ _ _ _ hc]; rfl, by rw [cell_of_row _ _ _ _ _ _ hc]; rfl, by rw [cell_of_row _ _ _ _ _ _ hc]; rfl, by rw [cell_of_row _ _ _ _ _ _ hc]; rfl⟩⟩
      have KS : Hid (∀ W W', SS W → Below W.heap.size W W' → SS W') := fun W W' h f => by
        rw [hSS] at h ⊢
        exact ⟨h.1.trans (f.mono h.1.size), (f.block _ (lt_of_heap h.2)).trans h.2⟩
      clear hSS hb1 hx1 q0 q1 q2 q3 q4 g0
      generalize wr.alloc (.cells #[.int .i64 xt, .string xs, .int .i64 xn, .int .i64 xa, .int .i64 xb] 67) = w1 at *
      refine wp_region_seq SS (by kernel_rfl) (by kernel_rfl) (unhide KI) ?_
      repeat (first
        | (refine SeqDo.yields (v := ?_) (by rfl) ?_ ?_; rotate_left; (focus ((intro W hSW; obtain ⟨p0, ⟨p1, p2, p3, p4, p5⟩, ⟨p6, p7, p8, p9, p10⟩⟩ := unhide KE W hSW; go_simp) <;> with_reducible rfl)); simp only [Act.put, List.setIfInBounds_toArray, List.set_cons_zero, List.set_cons_succ])
        | (refine SeqDo.does (v := .agg #[.int .i64 mt, .int .i64 mn, .string y1, .string y2, .string y3]) (by rfl) (fun W hSW KK hKK => ?_) ?_; (focus (go_simp; go_wp2_with (go_at_call 45; refine (unhide HX2 _ (unhide KW _ hSW)).mono ?_; rintro e W' ⟨rfl, fJ⟩); exact hKK.out _ (unhide KS _ _ hSW fJ))); simp only [Act.put, List.setIfInBounds_toArray, List.set_cons_zero, List.set_cons_succ]))
      intro W hSW
      have fW := unhide KW W hSW
      have FW2 : Hid (Below w.heap.size w W) := (unhide FW).trans (fW.mono (unhide FW).size)
      have FB2 : Hid (Below w0.heap.size w0 W) := (unhide HBL).trans (fW.mono (unhide HBL).size)
      clear fW KI KW KE KS hSW HX2 J2
      cases dd
      case true =>
        go_wp2
        go_ret
        obtain ⟨_, e2⟩ := (unhide HD1).1 (by first | rfl | trivial)
        rw [e2]
        exact ⟨rfl, grTo_below (unhide FW2) hB (GrTo.refl (unhide HMK W (unhide FW2)) (unhide HTX))⟩
      case false =>
        go_wp2
        go_roundw
        case rel => exact ⟨k + 1, by omega, by go_num, (unhide HD1).2 (by first | rfl | trivial), unhide FB2⟩
        case measure => simp [intOf]; omega
    · have hkl : ¬ (k : Int) < (l.length : Int) := by omega
      have hf := unhide HNONE (fun j hj => unhide HALL j (by omega))
      have HF := hide hf
      have gr := unhide HMK wr (unhide FW)
      have HGR := hide gr
      have c0r : wr.cell? ⟨w.heap.size, 0, none⟩ = some (.int .i64 3) := by rw [cell_of_row _ _ _ _ _ _ (unhide HCR)]; rfl
      have c1r : wr.cell? ⟨w.heap.size, 1, none⟩ = some (.int .i64 nn) := by rw [cell_of_row _ _ _ _ _ _ (unhide HCR)]; rfl
      have c2r : wr.cell? ⟨w.heap.size, 2, none⟩ = some (.string ⟨#[]⟩) := by rw [cell_of_row _ _ _ _ _ _ (unhide HCR)]; rfl
      have c3r : wr.cell? ⟨w.heap.size, 3, none⟩ = some (.string ⟨#[]⟩) := by rw [cell_of_row _ _ _ _ _ _ (unhide HCR)]; rfl
      have c4r : wr.cell? ⟨w.heap.size, 4, none⟩ = some (.string ⟨#[]⟩) := by rw [cell_of_row _ _ _ _ _ _ (unhide HCR)]; rfl
      have c0s := fun X => cell_alloc c0r X
      have c1s := fun X => cell_alloc c1r X
      have c2s := fun X => cell_alloc c2r X
      have c3s := fun X => cell_alloc c3r X
      have c4s := fun X => cell_alloc c4r X
      have b4 : Below wr.heap.size wr (wr.alloc (.cells #[.int .i64 3, .string ⟨#[]⟩, .int .i64 nn, .int .i64 0, .int .i64 0] 67)) := (Below.refl _ _).alloc (Nat.le_refl _) _
      have BE : Hid (Beside w (wr.heap.size + 1) B g m (.slice a l.length c) w.heap.size wr.heap.size) := ⟨hB, (unhide BS).1, (unhide BS).2.1, (unhide BS).2.2, Nat.le_refl _, by omega, by omega, by omega, by omega⟩
      have NS0 : Hid (NS w (wr.heap.size + 1) B g m (.slice a l.length c) w.heap.size wr.heap.size #[.int .i64 3, .int .i64 nn, .string ⟨#[]⟩, .string ⟨#[]⟩, .string ⟨#[]⟩] #[.int .i64 3, .string ⟨#[]⟩, .int .i64 nn, .int .i64 0, .int .i64 0] (.slice a l.length c) N D l (wr.alloc (.cells #[.int .i64 3, .string ⟨#[]⟩, .int .i64 nn, .int .i64 0, .int .i64 0] 67))) :=
        ⟨gr.below b4, unhide HTX, .inl rfl, Fr6.of_below ((unhide FW).trans (b4.mono (unhide FW).size)) hB, (b4.block _ (by omega)).trans (unhide HCR), heap_alloc_last wr _, by simp⟩
      clear hf gr b4 HM HCC HFOUND HNONE HALL HBL HC0 B0 HMK HTX BS c0
      go_wp2_with fail
      generalize wr.alloc (.cells #[.int .i64 3, .string ⟨#[]⟩, .int .i64 nn, .int .i64 0, .int .i64 0] 67) = w4 at *
      have n0 := unhide NS0
      have hB0 : B ≤ w4.heap.size := Nat.le_trans hB n0.fr.below.size
      have r0 : l[0]? = some ent0 := (unhide HRT).1
      clear NS0 c0r c1r c2r c3r c4r HGR c0s c1s c2s c3s c4s
      have HPT := kgput_any _ B g m N (.slice a l.length c) D l n0.gr ⟨3, [], nn, 0, 0⟩ (by omega) (Nat.le_trans hB n0.fr.below.size)
      unfold entV at HPT
      refine HPT.mono ?_
      rintro e w7 ⟨rfl, pw7⟩
      have tw7 := put_to pw7 n0.tx (by simp)
      obtain ⟨vw7, Nw7, Dw7, n7⟩ := n0.call (unhide BE) tw7
      have Qw7 := hide (n7.done (unhide BE))
      clear HPT pw7 tw7 n7
      go_wp2
      go_ret
      have e1 : numK l ⟨3, nn, [], [], []⟩ = (withE l ⟨3, [], nn, 0, 0⟩, l.length) := by
        unfold numK
        rw [if_neg (by rw [unhide HF]; simp), if_pos (by simp)]
      rw [e1]
      exact ⟨rfl, unhide Qw7⟩

set_option maxHeartbeats 12800000 in
set_option maxRecDepth 100000 in
theorem knumber_num5 (w : World) (B g m N : Nat) (v : Value) (D : DataW Unit) (l : List Ent) (h : GrR w B g m v N D l) (tx : TX l l.length D) (hr : rightL l) (nn : Int) (hl : l.length ≤ 2000) (hB : B ≤ w.heap.size) :
    Calls Try.prog 49 #[.pointer (some ⟨g, 0, none⟩), cstV ⟨5, nn, ([] : List UInt8), ([] : List UInt8), ([] : List UInt8)⟩] w fun e w' => e = .returned (.int .i64 ((numK l ⟨5, nn, [], [], []⟩).2 : Int)) ∧ GrTo w B g m v (numK l ⟨5, nn, [], [], []⟩).1 w' := by
  have hlen := right_len hr
  have HM : Hid (∀ W a n c x, Es W a n l → n ≤ 140737488351232 → (x.tag = 0 ∨ okE l x = true) → Calls Try.prog 45 #[.slice a n c, entV x] W fun e w' => e = .returned (cstV (meanN l x)) ∧ Below W.heap.size W w') := fun W a n c x hE hn hx => kmeaning_any W a n c l hE hr x hx hn
  have HCC : Hid (∀ W x, (binOp .eql 50 (cstV (meanN l x)) (cstV ⟨5, nn, ([] : List UInt8), ([] : List UInt8), ([] : List UInt8)⟩)).run Try.prog W = .ok (.bool (decide (meanN l x = ⟨5, nn, ([] : List UInt8), ([] : List UInt8), ([] : List UInt8)⟩))) W) := fun W x => cst_cmp W _ _
  have HFOUND : Hid (∀ k : Nat, k < l.length → meanN l (atE l (k : Int)) = ⟨5, nn, ([] : List UInt8), ([] : List UInt8), ([] : List UInt8)⟩ → (∀ j : Nat, j < k → meanN l (atE l (j : Int)) ≠ ⟨5, nn, ([] : List UInt8), ([] : List UInt8), ([] : List UInt8)⟩) → firstN l ⟨5, nn, ([] : List UInt8), ([] : List UInt8), ([] : List UInt8)⟩ = k ∧ numK l ⟨5, nn, [], [], []⟩ = (l, k)) := fun k hk h1 h2 => by
    have hk1 : 1 ≤ k := by
      cases k with
      | zero =>
        have e0 : atE l ((0 : Nat) : Int) = ent0 := by rw [atE_nat, hr.1]; rfl
        have := congrArg Cst.tag h1
        rw [meanN_tag, e0] at this
        simp [ent0] at this
      | succ k => omega
    have e := firstN_eq hk1 hk h1 (fun j hj hjk => h2 j hjk)
    refine ⟨e, ?_⟩
    unfold numK
    rw [e, if_pos (by omega)]
  have HNONE : Hid ((∀ j : Nat, j < l.length → meanN l (atE l (j : Int)) ≠ ⟨5, nn, ([] : List UInt8), ([] : List UInt8), ([] : List UInt8)⟩) → firstN l ⟨5, nn, ([] : List UInt8), ([] : List UInt8), ([] : List UInt8)⟩ = 0) := fun h1 => by
    by_cases e : firstN l ⟨5, nn, ([] : List UInt8), ([] : List UInt8), ([] : List UInt8)⟩ = 0
    · exact e
    · obtain ⟨_, e2, e3⟩ := firstN_some e
      exact absurd e3 (h1 _ e2)
  have b0 : Below w.heap.size w (w.alloc (.cells #[.int .i64 5, .int .i64 nn, .string ⟨([] : List UInt8).toArray⟩, .string ⟨([] : List UInt8).toArray⟩, .string ⟨([] : List UInt8).toArray⟩] 50)) := (Below.refl _ _).alloc (Nat.le_refl _) _
  have hc0 := heap_alloc_last w (.cells #[.int .i64 5, .int .i64 nn, .string ⟨([] : List UInt8).toArray⟩, .string ⟨([] : List UInt8).toArray⟩, .string ⟨([] : List UInt8).toArray⟩] 50)
  have h0 := h.below b0
  obtain ⟨a, c, rfl⟩ := own5_form h.row
  have c0 := h0.c0
  have HMK : Hid (∀ W, Below w.heap.size w W → GrR W B g m (.slice a l.length c) N D l) := fun W f => h.below f
  have HTX := hide tx
  have BS : Hid (g < w.heap.size ∧ m < w.heap.size ∧ ∀ k, (Value.slice a l.length c).ownBlock = some k → k < w.heap.size) := ⟨h.glt, h.map.lt, fun k hk => (h.row.lt k hk).2⟩
  have hgne : ¬ g = w.heap.size := by have := h.glt; omega
  unfold cstV
  simp only
  have HRT := hide hr
  have HC0 := hide hc0
  have B0 := hide b0
  clear b0 hc0 h0 h tx hr
  go_enter Try.func49, Try.ntmps49
  go_wp2
  generalize w.alloc (.cells #[.int .i64 5, .int .i64 nn, .string ⟨#[]⟩, .string ⟨#[]⟩, .string ⟨#[]⟩] 50) = w0 at *
  go_loopw [13] (fun i wr => ∃ k : Nat, k ≤ l.length ∧ i = .int .i64 k ∧ (∀ j : Nat, j < k → meanN l (atE l (j : Int)) ≠ ⟨5, nn, ([] : List UInt8), ([] : List UInt8), ([] : List UInt8)⟩) ∧ Below w0.heap.size w0 wr) (fun i _ => l.length - (intOf i).toNat)
  case atStart => exact ⟨0, by omega, rfl, fun j hj => by omega, Below.refl _ _⟩
  case round =>
    obtain ⟨k, hk, rfl, hall, hBl⟩ := hrel
    have HALL := hide hall
    have FW : Hid (Below w.heap.size w wr) := (unhide B0).trans (hBl.mono (unhide B0).size)
    have HBL := hide hBl
    have hcr : wr.heap[w.heap.size]? = some (.cells #[.int .i64 5, .int .i64 nn, .string ⟨#[]⟩, .string ⟨#[]⟩, .string ⟨#[]⟩] 50 (0, 0)) := (hBl.block w.heap.size (lt_of_heap (unhide HC0))).trans (unhide HC0)
    have HCR := hide hcr
    have hszr : w.heap.size + 1 ≤ wr.heap.size := lt_of_heap hcr
    clear hall hBl hcr
    by_cases hlt : k < l.length
    · have hlt1 : (k : Int) < (l.length : Int) := by omega
      have gr := unhide HMK wr (unhide FW)
      have es := es_of_own gr.row
      obtain ⟨b, o, rfl, hE⟩ := es.2.resolve_left (by omega)
      obtain ⟨q0, q1, q2, q3, q4⟩ := ents_at hE hlt
      have HX2 : Hid (∀ W, Below wr.heap.size wr W → Calls Try.prog 45 #[.slice (some ⟨b, o, none⟩) l.length c, entV (atE l (k : Int))] W fun e w' => e = .returned (cstV (meanN l (atE l (k : Int)))) ∧ Below W.heap.size W w') := fun W f => unhide HM W _ _ _ _ (es.below f) (by omega) (right_or (unhide HRT) _)
      have HJ := hide (fun W => unhide HCC W (atE l (k : Int)))
      have HD : Hid (∀ X, decide (meanN l (atE l (k : Int)) = ⟨5, nn, ([] : List UInt8), ([] : List UInt8), ([] : List UInt8)⟩) = X → (X = true → firstN l ⟨5, nn, ([] : List UInt8), ([] : List UInt8), ([] : List UInt8)⟩ = k ∧ numK l ⟨5, nn, [], [], []⟩ = (l, k)) ∧ (X = false → ∀ j : Nat, j < k + 1 → meanN l (atE l (j : Int)) ≠ ⟨5, nn, ([] : List UInt8), ([] : List UInt8), ([] : List UInt8)⟩)) := fun X hX => by
        constructor
        · intro e
          rw [e] at hX
          exact unhide HFOUND k hlt (by simpa using hX) (unhide HALL)
        · intro e j hj
          rw [e] at hX
          by_cases ejk : j = k
          · subst ejk
            simpa using hX
          · exact unhide HALL j (by omega)
      obtain ⟨dd, hdd⟩ : ∃ dd, decide (meanN l (atE l (k : Int)) = ⟨5, nn, ([] : List UInt8), ([] : List UInt8), ([] : List UInt8)⟩) = dd := ⟨_, rfl⟩
      have HD1 := hide (unhide HD dd hdd)
      have J2 := unhide HJ
      rw [hdd] at J2
      generalize hmm : meanN l (atE l (k : Int)) = mm at *
      generalize atE l (k : Int) = xx at *
      obtain ⟨xt, xtx, xn, xa, xb⟩ := xx
      obtain ⟨mt, mn, m1, m2, m3⟩ := mm
      unfold entV cstV at *
      simp only at q0 q1 q2 q3 q4 J2 HX2
      generalize (⟨xtx.toArray⟩ : ByteArray) = xs at *
      generalize (⟨m1.toArray⟩ : ByteArray) = y1 at *
      generalize (⟨m2.toArray⟩ : ByteArray) = y2 at *
      generalize (⟨m3.toArray⟩ : ByteArray) = y3 at *
      have g0 := gr.c0
      have hgr : g < wr.heap.size := gr.glt
      have GR := hide gr
      clear HJ HD HM HCC hmm hdd gr es hE HFOUND HNONE c0
      go_wp2
      have hb1 : Below wr.heap.size wr (wr.alloc (.cells #[.int .i64 xt, .string xs, .int .i64 xn, .int .i64 xa, .int .i64 xb] 67)) := (Below.refl _ _).alloc (Nat.le_refl _) _
      have hx1 := heap_alloc_last wr (.cells #[.int .i64 xt, .string xs, .int .i64 xn, .int .i64 xa, .int .i64 xb] 67)
      obtain ⟨SS, hSS⟩ : ∃ SS : World → Prop, SS = fun W => Below wr.heap.size wr W ∧ W.heap[wr.heap.size]? = some (.cells #[.int .i64 xt, .string xs, .int .i64 xn, .int .i64 xa, .int .i64 xb] 67 (0, 0)) := ⟨_, rfl⟩
      have KI : Hid (SS (wr.alloc (.cells #[.int .i64 xt, .string xs, .int .i64 xn, .int .i64 xa, .int .i64 xb] 67)).drew) := by
        show SS _
        rw [hSS]
        exact ⟨hb1.drew, hx1⟩
      have KW : Hid (∀ W, SS W → Below wr.heap.size wr W) := fun W h => by
        rw [hSS] at h
        exact h.1
      have KE : Hid (∀ W, SS W → W.cell? ⟨g, 0, none⟩ = some (.slice (some ⟨b, o, none⟩) l.length c) ∧ (W.cell? ⟨wr.heap.size, 0, none⟩ = some (.int .i64 xt) ∧ W.cell? ⟨wr.heap.size, 1, none⟩ = some (.string xs) ∧ W.cell? ⟨wr.heap.size, 2, none⟩ = some (.int .i64 xn) ∧ W.cell? ⟨wr.heap.size, 3, none⟩ = some (.int .i64 xa) ∧ W.cell? ⟨wr.heap.size, 4, none⟩ = some (.int .i64 xb)) ∧ (W.cell? ⟨w.heap.size, 0, none⟩ = some (.int .i64 5) ∧ W.cell? ⟨w.heap.size, 1, none⟩ = some (.int .i64 nn) ∧ W.cell? ⟨w.heap.size, 2, none⟩ = some (.string ⟨#[]⟩) ∧ W.cell? ⟨w.heap.size, 3, none⟩ = some (.string ⟨#[]⟩) ∧ W.cell? ⟨w.heap.size, 4, none⟩ = some (.string ⟨#[]⟩))) := fun W h => by
        rw [hSS] at h
        have hc := (h.1.block w.heap.size hszr).trans (unhide HCR)
        have hx := h.2
        exact ⟨((unhide GR).below h.1).c0, ⟨by rw [cell_of_row _ _ _ _ _ _ hx]; rfl, by rw [cell_of_row _ _ _ _ _ _ hx]; rfl, by rw [cell_of_row _ _ _ _ _ _ hx]; rfl, by rw [cell_of_row _ _ _ _ _ _ hx]; rfl, by rw [cell_of_row _ _ _ _ _ _ hx]; rfl⟩, ⟨by rw [cell_of_row _ _ _ _ _ _ hc]; rfl, by rw [cell_of_row _ _ _ _ _ _ hc]; rfl, by rw [cell_of_row _ _ _ _ _ _ hc]; rfl, by rw [cell_of_row _ _ _ _ _ _ hc]; rfl, by rw [cell_of_row _ _ _ _ _ _ hc]; rfl⟩⟩
      have KS : Hid (∀ W W', SS W → Below W.heap.size W W' → SS W') := fun W W' h f => by
        rw [hSS] at h ⊢
        exact ⟨h.1.trans (f.mono h.1.size), (f.block _ (lt_of_heap h.2)).trans h.2⟩
      clear hSS hb1 hx1 q0 q1 q2 q3 q4 g0
      generalize wr.alloc (.cells #[.int .i64 xt, .string xs, .int .i64 xn, .int .i64 xa, .int .i64 xb] 67) = w1 at *
      refine wp_region_seq SS (by kernel_rfl) (by kernel_rfl) (unhide KI) ?_
      repeat (first
        | (refine SeqDo.yields (v := ?_) (by rfl) ?_ ?_; rotate_left; (focus ((intro W hSW; obtain ⟨p0, ⟨p1, p2, p3, p4, p5⟩, ⟨p6, p7, p8, p9, p10⟩⟩ := unhide KE W hSW; go_simp) <;> with_reducible rfl)); simp only [Act.put, List.setIfInBounds_toArray, List.set_cons_zero, List.set_cons_succ])
        | (refine SeqDo.does (v := .agg #[.int .i64 mt, .int .i64 mn, .string y1, .string y2, .string y3]) (by rfl) (fun W hSW KK hKK => ?_) ?_; (focus (go_simp; go_wp2_with (go_at_call 45; refine (unhide HX2 _ (unhide KW _ hSW)).mono ?_; rintro e W' ⟨rfl, fJ⟩); exact hKK.out _ (unhide KS _ _ hSW fJ))); simp only [Act.put, List.setIfInBounds_toArray, List.set_cons_zero, List.set_cons_succ]))
      intro W hSW
      have fW := unhide KW W hSW
      have FW2 : Hid (Below w.heap.size w W) := (unhide FW).trans (fW.mono (unhide FW).size)
      have FB2 : Hid (Below w0.heap.size w0 W) := (unhide HBL).trans (fW.mono (unhide HBL).size)
      clear fW KI KW KE KS hSW HX2 J2
      cases dd
      case true =>
        go_wp2
        go_ret
        obtain ⟨_, e2⟩ := (unhide HD1).1 (by first | rfl | trivial)
        rw [e2]
        exact ⟨rfl, grTo_below (unhide FW2) hB (GrTo.refl (unhide HMK W (unhide FW2)) (unhide HTX))⟩
      case false =>
        go_wp2
        go_roundw
        case rel => exact ⟨k + 1, by omega, by go_num, (unhide HD1).2 (by first | rfl | trivial), unhide FB2⟩
        case measure => simp [intOf]; omega
    · have hkl : ¬ (k : Int) < (l.length : Int) := by omega
      have hf := unhide HNONE (fun j hj => unhide HALL j (by omega))
      have HF := hide hf
      have gr := unhide HMK wr (unhide FW)
      have HGR := hide gr
      have c0r : wr.cell? ⟨w.heap.size, 0, none⟩ = some (.int .i64 5) := by rw [cell_of_row _ _ _ _ _ _ (unhide HCR)]; rfl
      have c1r : wr.cell? ⟨w.heap.size, 1, none⟩ = some (.int .i64 nn) := by rw [cell_of_row _ _ _ _ _ _ (unhide HCR)]; rfl
      have c2r : wr.cell? ⟨w.heap.size, 2, none⟩ = some (.string ⟨#[]⟩) := by rw [cell_of_row _ _ _ _ _ _ (unhide HCR)]; rfl
      have c3r : wr.cell? ⟨w.heap.size, 3, none⟩ = some (.string ⟨#[]⟩) := by rw [cell_of_row _ _ _ _ _ _ (unhide HCR)]; rfl
      have c4r : wr.cell? ⟨w.heap.size, 4, none⟩ = some (.string ⟨#[]⟩) := by rw [cell_of_row _ _ _ _ _ _ (unhide HCR)]; rfl
      have c0s := fun X => cell_alloc c0r X
      have c1s := fun X => cell_alloc c1r X
      have c2s := fun X => cell_alloc c2r X
      have c3s := fun X => cell_alloc c3r X
      have c4s := fun X => cell_alloc c4r X
      have b4 : Below wr.heap.size wr (wr.alloc (.cells #[.int .i64 5, .string ⟨#[]⟩, .int .i64 nn, .int .i64 0, .int .i64 0] 67)) := (Below.refl _ _).alloc (Nat.le_refl _) _
      have BE : Hid (Beside w (wr.heap.size + 1) B g m (.slice a l.length c) w.heap.size wr.heap.size) := ⟨hB, (unhide BS).1, (unhide BS).2.1, (unhide BS).2.2, Nat.le_refl _, by omega, by omega, by omega, by omega⟩
      have NS0 : Hid (NS w (wr.heap.size + 1) B g m (.slice a l.length c) w.heap.size wr.heap.size #[.int .i64 5, .int .i64 nn, .string ⟨#[]⟩, .string ⟨#[]⟩, .string ⟨#[]⟩] #[.int .i64 5, .string ⟨#[]⟩, .int .i64 nn, .int .i64 0, .int .i64 0] (.slice a l.length c) N D l (wr.alloc (.cells #[.int .i64 5, .string ⟨#[]⟩, .int .i64 nn, .int .i64 0, .int .i64 0] 67))) :=
        ⟨gr.below b4, unhide HTX, .inl rfl, Fr6.of_below ((unhide FW).trans (b4.mono (unhide FW).size)) hB, (b4.block _ (by omega)).trans (unhide HCR), heap_alloc_last wr _, by simp⟩
      clear hf gr b4 HM HCC HFOUND HNONE HALL HBL HC0 B0 HMK HTX BS c0
      go_wp2_with fail
      generalize wr.alloc (.cells #[.int .i64 5, .string ⟨#[]⟩, .int .i64 nn, .int .i64 0, .int .i64 0] 67) = w4 at *
      have n0 := unhide NS0
      have hB0 : B ≤ w4.heap.size := Nat.le_trans hB n0.fr.below.size
      have r0 : l[0]? = some ent0 := (unhide HRT).1
      clear NS0 c0r c1r c2r c3r c4r HGR c0s c1s c2s c3s c4s
      have HPT := kgput_any _ B g m N (.slice a l.length c) D l n0.gr ⟨5, [], nn, 0, 0⟩ (by omega) (Nat.le_trans hB n0.fr.below.size)
      unfold entV at HPT
      refine HPT.mono ?_
      rintro e w7 ⟨rfl, pw7⟩
      have tw7 := put_to pw7 n0.tx (by simp)
      obtain ⟨vw7, Nw7, Dw7, n7⟩ := n0.call (unhide BE) tw7
      have Qw7 := hide (n7.done (unhide BE))
      clear HPT pw7 tw7 n7
      go_wp2
      go_ret
      have e1 : numK l ⟨5, nn, [], [], []⟩ = (withE l ⟨5, [], nn, 0, 0⟩, l.length) := by
        unfold numK
        rw [if_neg (by rw [unhide HF]; simp), if_pos (by simp)]
      rw [e1]
      exact ⟨rfl, unhide Qw7⟩

end Go.Proofs.Ytchhjieciiaooaa
