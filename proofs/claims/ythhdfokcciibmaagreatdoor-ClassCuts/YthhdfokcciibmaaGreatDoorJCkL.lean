/- The landed class: a code is written. -/
import Derived.Test.YthhdfokcciibmaaGreatDoorJCkK

namespace Go.Proofs.YthhdfokcciibmaaGreatDoor
open Go.RowKit
set_option linter.unusedVariables false
set_option maxRecDepth 100000

set_option maxHeartbeats 1600000 in
theorem wCode2_any (C : Cx) (F : Nat → Prop) (w : World) (bs : List UInt8) (h : Wt C F w bs) (s : Sl) (xs : List MpR) (hL : Ls 3 mpc C.wc s.a s.n xs) (hE : ∀ x ∈ xs, MpIn C.wc x ∧ mapOk C.l x.m = true) (hri : riseB (-1) (xs.map MpR.m) = true) (hn : s.n ≤ 256) (hbs : bs.length ≤ 50000000) (b1 b2 : Nat)
    (hb : w.cell? ⟨b1, 0, none⟩ = some (.pointer (some ⟨C.x, 0, none⟩)) ∧ w.cell? ⟨b1, 1, none⟩ = some (.pointer (some ⟨C.g, 0, none⟩)) ∧ w.cell? ⟨b2, 4, none⟩ = some s.v) :
    Calls Tryz.prog 126 #[.pointer (some ⟨b1, 0, none⟩), .pointer (some ⟨b2, 0, none⟩)] w fun e w' => e = .returned (.tuple #[]) ∧ WtTo C F w (bs ++ mapsB C.l (xs.map MpR.m)) w' := by
  have HW := hide (wMaps_any C F w bs h s xs hL hE hri hn hbs)
  obtain ⟨c0, c1, c2⟩ := hb
  obtain ⟨sa, sn, sc⟩ := s
  unfold Cx.v at HW
  unfold Sl.v at HW c2
  simp only at HW c2
  generalize mapsB C.l (xs.map MpR.m) = mb at *
  clear h hL hE hri
  go_enter Tryz.func126, Tryz.ntmps126
  go_wp2_with fail
  refine (unhide HW).mono ?_
  rintro e w2 ⟨rfl, T2⟩
  have TT := hide T2
  clear T2 HW
  go_wp2
  go_end0
  exact ⟨rfl, unhide TT⟩

theorem codeB_len {l : List Ent} {c : Cd} (h : codeOk l c = true) : (codeB l c).length ≤ 107000 ∧ (mapsB l c.maps).length ≤ 100100 := by
  rw [← rightD_is] at h
  unfold rightD at h
  simp only [Bool.and_eq_true, decide_eq_true_eq] at h
  obtain ⟨⟨⟨⟨_, _, _, _, _, hb, hh, hm⟩, h2⟩, h3⟩, h4⟩ := h
  rw [rightM_all l _ _ (by omega), Bool.and_eq_true] at h4
  have h5 := mpsB_len l c.maps (-1) h4.1
  have h6 := flatM_len hdB 8 c.hs (fun x _ => by unfold hdB; simp [bytesW_len])
  have h7 : (mapsB l c.maps).length ≤ 100100 := by
    unfold mapsB
    rw [List.length_append, bytesW_len]
    show 2 + _ ≤ _
    omega
  refine ⟨?_, h7⟩
  have h8 : (tableB l c.maps).length ≤ 100110 := by
    unfold tableB
    split
    · rw [bytesW_len]; decide
    · simp only [List.length_append, bytesW_len]
      show 2 + (2 + (4 + _)) ≤ _
      omega
  unfold codeB
  simp only [List.length_append, bytesW_len]
  show 2 + (2 + (4 + (_ + (2 + _)))) ≤ _
  omega

set_option maxHeartbeats 6400000 in
theorem wCode_any (C : Cx) (F : Nat → Prop) (w : World) (bs : List UInt8) (h : Wt C F w bs) (r : MdR) (hr : MdIn C.wc r) (hok : codeOk C.l r.m.code = true) (hbs : bs.length ≤ 35000000) :
    Calls Tryz.prog 92 #[C.v, cdv r.m.code r.bs r.hs r.maps] w fun e w' => e = .returned (.tuple #[]) ∧ WtTo C F w (bs ++ codeB C.l r.m.code) w' := by
  obtain ⟨⟨acc, nm, ty, ⟨st, lo, by_, hh, mm⟩⟩, ⟨ba, bn, bc⟩, ⟨ha, hn, hc⟩, ⟨ma, mn, mcc⟩, mr⟩ := r
  obtain ⟨r1, r2, r3, r4, r5, r6, r7, r8, r9, r10⟩ := hr
  simp only at r4 r5 r6 r7 r8 r9 r10 hok ⊢
  have hbn := r6.bs.1
  have hhn := r8.ls.1
  have hmn := r9.ls.1
  simp only at hbn hhn hmn
  obtain ⟨_, hlenM⟩ := codeB_len hok
  simp only at hlenM
  have hokD := hok
  rw [← rightD_is] at hokD
  unfold rightD at hokD
  simp only [Bool.and_eq_true, decide_eq_true_eq] at hokD
  obtain ⟨⟨⟨⟨d1, d2, d3, d4, d5, d6, d7, d8⟩, dh⟩, dm⟩, dr⟩ := hokD
  rw [rightM_all C.l _ _ (by omega), Bool.and_eq_true] at dr
  have hml : mm.length = mn := by rw [r10, List.length_map]; exact hmn
  unfold cdv Sl.v
  simp only
  obtain ⟨w1, e1, f1, z1, K1, K2⟩ := boxes2 w #[.pointer (some ⟨C.x, 0, none⟩), .pointer (some ⟨C.g, 0, none⟩)] 106 #[.int .i64 st, .int .i64 lo, .slice ba bn bc, .slice ha hn hc, .slice ma mn mcc] 47
  have hW1 := h.below f1
  have S1 := WtG.start hW1 F
  obtain ⟨SS, hSS⟩ : ∃ SS : World → Prop, SS = fun W => ∃ bs', WtTo C F w1 bs' W := ⟨_, rfl⟩
  have KS : Hid (∀ W, SS W ↔ ∃ bs', WtTo C F w1 bs' W) := fun W => by rw [hSS]
  have KI : Hid (∀ W, SS W → (W.cell? ⟨w.heap.size, 0, none⟩ = some (.pointer (some ⟨C.x, 0, none⟩)) ∧ W.cell? ⟨w.heap.size, 1, none⟩ = some (.pointer (some ⟨C.g, 0, none⟩))) ∧ (W.cell? ⟨w.heap.size + 1, 0, none⟩ = some (.int .i64 st) ∧ W.cell? ⟨w.heap.size + 1, 1, none⟩ = some (.int .i64 lo) ∧ W.cell? ⟨w.heap.size + 1, 2, none⟩ = some (.slice ba bn bc) ∧ W.cell? ⟨w.heap.size + 1, 3, none⟩ = some (.slice ha hn hc) ∧ W.cell? ⟨w.heap.size + 1, 4, none⟩ = some (.slice ma mn mcc)) ∧ W.cell? ⟨C.g, 1, none⟩ = some (.map (some C.mt)) ∧
      (Instr.lookup 109 (.map (some C.mt)) (.string ⟨#[83, 116, 97, 99, 107, 77, 97, 112, 84, 97, 98, 108, 101]⟩) false).run Tryz.prog W = .ok (.int .i64 (utfN C.l sMaps : Int)) W) := fun W hW => by
    rw [hSS] at hW
    obtain ⟨bs', hW⟩ := hW
    obtain ⟨F', hF, _⟩ := hW.ex
    have hx : ∀ o v, (#[Value.pointer (some ⟨C.x, 0, none⟩), .pointer (some ⟨C.g, 0, none⟩)])[o]? = some v → W.cell? ⟨w.heap.size, o, none⟩ = some v := fun o v hv => h.box f1 hW (Nat.le_refl _) (K1 o v hv)
    have hy : ∀ o v, (#[Value.int .i64 st, .int .i64 lo, .slice ba bn bc, .slice ha hn hc, .slice ma mn mcc])[o]? = some v → W.cell? ⟨w.heap.size + 1, o, none⟩ = some v := fun o v hv => h.box f1 hW (by omega) (K2 o v hv)
    exact ⟨⟨hx 0 _ rfl, hx 1 _ rfl⟩, ⟨hy 0 _ rfl, hy 1 _ rfl, hy 2 _ rfl, hy 3 _ rfl, hy 4 _ rfl⟩, hF.nm.c1, hF.nm.texts.look (s := sMaps) (by unfold fitS; decide)⟩
  have HU : Hid (∀ W W' bs' (zs : List Int) (n : Nat) (k : Int), WtTo C F w1 bs' W → Below W.heap.size W W' → zs.length = n → (∀ (j : Nat) (z : Int), zs[j]? = some z → W'.cell? ⟨W.heap.size, j, none⟩ = some (.int .i64 z)) → (k = 2 ∧ (∀ z ∈ zs, 0 ≤ z ∧ z ≤ 65535) ∨ k = 4 ∧ (∀ z ∈ zs, 0 ≤ z ∧ z < 4294967296)) → bs'.length ≤ 100000000 → n ≤ 1000 → Calls Tryz.prog 57 #[.pointer (some ⟨C.x, 0, none⟩), .int .i64 k, .slice (some ⟨W.heap.size, 0, none⟩) n n] W' fun e w' => e = .returned (.int .i64 0) ∧ WtTo C F w1 (bs' ++ zs.flatMap (bytesW k)) w') := fun W W' bs' zs n k hT hf hn hz hk hb hnn =>
    hT.step (P := fun e => e = .returned (.int .i64 0)) (fun _ h => h) (fun F1 hF1 => wt_u hF1 hf zs n k hn hz (by rcases hk with ⟨rfl, _⟩ | ⟨rfl, _⟩ <;> decide) (fun y hy => by
      rcases hk with ⟨rfl, hk⟩ | ⟨rfl, hk⟩
      · exact fz2 (hk y hy)
      · exact fz4 (hk y hy)) hb hnn)
  have HBy : Hid (∀ W bs', WtTo C F w1 bs' W → bs'.length ≤ 100000000 → Calls Tryz.prog 88 #[.pointer (some ⟨C.x, 0, none⟩), .slice ba bn bc] W fun e w' => e = .returned (.int .i64 0) ∧ WtTo C F w1 (bs' ++ by_) w') := fun W bs' hT hb =>
    hT.step (P := fun e => e = .returned (.int .i64 0)) (fun _ h => h) (fun F1 hF1 => wt_bytes hF1 ba bn bc by_ r6 hb (by omega))
  have HHs : Hid (∀ W bs', WtTo C F w1 bs' W → bs'.length ≤ 50000000 → Calls Tryz.prog 124 #[C.v, .slice ha hn hc, .func (.func 125) #[] #[.pointer (some ⟨w.heap.size, 0, none⟩)]] W fun e w' => e = .returned (.tuple #[]) ∧ WtTo C F w1 (bs' ++ (bytesW 2 (hn : Int) ++ hh.flatMap hdB)) w') := fun W bs' hT hb => by
    obtain ⟨F1, hF1, hF2⟩ := hT.ex
    refine (wlH_any C F1 W bs' hF1 ⟨ha, hn, hc⟩ hh 8 (fun W2 hW2 => by
      obtain ⟨bs3, hW2⟩ := hW2
      exact r8.ls.below (hF1.bel.trans (hW2.fr.below.mono hF1.hB))) (fun x hx => List.all_eq_true.1 dh x hx) (fun x _ => by unfold hdB; simp [bytesW_len]) (by show hn ≤ 65535; omega) (by show bs'.length + 2 + hn * 8 ≤ 90000000; omega) w.heap.size (fun W2 hW2 => by
      obtain ⟨bs3, hW2⟩ := hW2
      have := (unhide KI W2 ((unhide KS W2).2 ⟨_, hT.comp hF2 hW2 (fun k hk => hF2 k hk)⟩)).1
      exact this)).mono ?_
    rintro e w2 ⟨rfl, hT2⟩
    exact ⟨rfl, hT.comp hF2 hT2 (fun k hk => hF2 k hk)⟩
  have HSz : Hid (∀ W bs', WtTo C F w1 bs' W → bs'.length ≤ 40000000 → Calls Tryz.prog 90 #[C.v, .func (.func 126) #[] #[.pointer (some ⟨w.heap.size, 0, none⟩), .pointer (some ⟨w.heap.size + 1, 0, none⟩)]] W fun e w' => e = .returned (.tuple #[]) ∧ WtTo C F w1 (bs' ++ (bytesW 4 ((mapsB C.l mm).length : Int) ++ mapsB C.l mm)) w') := fun W bs' hT hb => by
    obtain ⟨F1, hF1, hF2⟩ := hT.ex
    refine (wSized_c C F1 W bs' hF1 w.heap.size (w.heap.size + 1) (mapsB C.l mm) (by omega) hb (fun W2 F2 bs2 hW2 hF3 hb2 => by
      have hk := unhide KI W2 ((unhide KS W2).2 ⟨_, hT.comp hF2 hW2 (fun k hk => hF2 k hk)⟩)
      have h9 := wCode2_any C F2 W2 bs2 hF3 ⟨ma, mn, mcc⟩ mr r9.ls (fun x hx => ⟨r9.each x hx, List.all_eq_true.1 dr.1 x.m (by rw [r10]; exact List.mem_map_of_mem hx)⟩) (by rw [← r10]; exact dr.2) (by show mn ≤ 256; omega) (by omega) w.heap.size (w.heap.size + 1) ⟨hk.1.1, hk.1.2, hk.2.1.2.2.2.2⟩
      rw [← r10] at h9
      exact h9)).mono ?_
    rintro e w2 ⟨rfl, hT2⟩
    exact ⟨rfl, hT.comp hF2 hT2 (fun k hk => hF2 k hk)⟩
  have HL1 : Hid (∀ bs' W, WtTo C F w1 bs' W → WtTo C F w bs' W) := fun bs' W hT => WtG.leave h f1 hT (fun j hj => .inl hj)
  have hut := h.nm.utf sMaps
  have HCB : Hid (codeB C.l ⟨st, lo, by_, hh, mm⟩ = [st, lo].flatMap (bytesW 2) ++ ([(bn : Int)].flatMap (bytesW 4) ++ (by_ ++ ((bytesW 2 (hn : Int) ++ hh.flatMap hdB) ++ tableB C.l mm)))) := by
    show codeB C.l ⟨st, lo, by_, hh, mm⟩ = _
    unfold codeB
    simp only [List.flatMap_cons, List.flatMap_nil, List.append_nil, List.append_assoc, hbn, hhn]
  have HT0 : Hid (mn = 0 → tableB C.l mm = [(0 : Int)].flatMap (bytesW 2)) := fun e => by
    have : mm = [] := List.eq_nil_of_length_eq_zero (by omega)
    rw [this]
    simp [tableB]
  have HT1 : Hid (mn ≠ 0 → tableB C.l mm = [(1 : Int), (utfN C.l sMaps : Int)].flatMap (bytesW 2) ++ (bytesW 4 ((mapsB C.l mm).length : Int) ++ mapsB C.l mm)) := fun e => by
    have : mm ≠ [] := fun e2 => by rw [e2] at hml; simp at hml; omega
    unfold tableB
    rw [if_neg this]
    simp
  have hst : ∀ z ∈ [st, lo], 0 ≤ z ∧ z ≤ 65535 := fun z hz => by
    simp at hz
    rcases hz with rfl | rfl <;> omega
  have HST := hide hst
  have hlh : (hh.flatMap hdB).length ≤ 2048 := by
    have := flatM_len hdB 8 hh (fun x _ => by unfold hdB; simp [bytesW_len])
    omega
  have hlb : by_.length = bn := hbn
  have E1 := hide e1
  have SS1 := hide S1
  have q := unhide KI w1 ((unhide KS w1).2 ⟨_, S1⟩)
  obtain ⟨⟨q0, q1⟩, ⟨q2, q3, q4, q5, q6⟩, _⟩ := q
  unfold fitI at r4 r5
  generalize utfN C.l sMaps = us at *
  generalize tableB C.l mm = tb at *
  generalize codeB C.l ⟨st, lo, by_, hh, mm⟩ = cb at *
  generalize mapsB C.l mm = mb at *
  generalize hfl : hh.flatMap hdB = hb2 at *
  clear h hSS K1 K2 e1 hW1 S1 f1 r1 r2 r3 r6 r8 r9 r10 dh dm dr hok z1 hst hbn hfl hhn
  unfold Cx.v at HHs HSz ⊢
  have e1 := unhide E1
  go_enter Tryz.func92, Tryz.ntmps92
  go_wp2_with fail
  refine (unhide HU w1 _ bs [st, lo] 2 2 (unhide SS1) ((Below.refl _ _).alloc (Nat.le_refl _) _) rfl (fun j y hj => ints_at w1 [st, lo] _ rfl j y hj) (.inl ⟨rfl, unhide HST⟩) (by omega) (by omega)).mono ?_
  rintro e w2 ⟨rfl, T2⟩
  have TT2 := hide T2
  obtain ⟨⟨c0, c1⟩, ⟨c2, c3, c4, c5, c6⟩, _⟩ := unhide KI w2 ((unhide KS w2).2 ⟨_, T2⟩)
  clear e1 T2 q0 q1 q2 q3 q4 q5 q6
  go_wp2_with fail
  refine (unhide HU w2 _ _ [(bn : Int)] 1 4 (unhide TT2) ((Below.refl _ _).alloc (Nat.le_refl _) _) rfl (fun j y hj => ints_at w2 [(bn : Int)] _ rfl j y hj) (.inr ⟨rfl, fun z hz => by simp at hz; subst hz; omega⟩) (by simp [bytesW_len]; omega) (by omega)).mono ?_
  rintro e w3 ⟨rfl, T3⟩
  have TT3 := hide T3
  obtain ⟨⟨a0, a1⟩, ⟨a2, a3, a4, a5, a6⟩, _⟩ := unhide KI w3 ((unhide KS w3).2 ⟨_, T3⟩)
  clear T3 c0 c1 c2 c3 c4 c5 c6 TT2
  go_wp2_with fail
  refine (unhide HBy w3 _ (unhide TT3) (by simp [bytesW_len]; omega)).mono ?_
  rintro e w4 ⟨rfl, T4⟩
  have TT4 := hide T4
  obtain ⟨⟨c0, c1⟩, ⟨c2, c3, c4, c5, c6⟩, _⟩ := unhide KI w4 ((unhide KS w4).2 ⟨_, T4⟩)
  clear T4 a0 a1 a2 a3 a4 a5 a6 TT3
  go_wp2_with fail
  refine (unhide HHs w4 _ (unhide TT4) (by simp [bytesW_len]; omega)).mono ?_
  rintro e w5 ⟨rfl, T5⟩
  have TT5 := hide T5
  obtain ⟨⟨a0, a1⟩, ⟨a2, a3, a4, a5, a6⟩, _⟩ := unhide KI w5 ((unhide KS w5).2 ⟨_, T5⟩)
  clear T5 c0 c1 c2 c3 c4 c5 c6 TT4
  have hl5 : (bs ++ [st, lo].flatMap (bytesW 2) ++ [(bn : Int)].flatMap (bytesW 4) ++ by_ ++ (bytesW 2 (hn : Int) ++ hb2)).length ≤ 36000000 := by simp [bytesW_len]; omega
  generalize hB5 : bs ++ [st, lo].flatMap (bytesW 2) ++ [(bn : Int)].flatMap (bytesW 4) ++ by_ ++ (bytesW 2 (hn : Int) ++ hb2) = bs5 at *
  have HB5 : Hid (bs ++ cb = bs5 ++ tb) := by
    show bs ++ cb = _
    rw [unhide HCB, ← hB5]
    simp only [List.append_assoc]
  clear HCB hB5
  by_cases hm0 : mn = 0
  · subst hm0
    have HTb := hide (unhide HT0 rfl)
    clear HT0 HT1
    go_wp2_with fail
    refine (unhide HU w5 _ _ [(0 : Int)] 1 2 (unhide TT5) ((Below.refl _ _).alloc (Nat.le_refl _) _) rfl (fun j y hj => ints_at w5 [(0 : Int)] _ rfl j y hj) (.inl ⟨rfl, fun z hz => by simp at hz; subst hz; omega⟩) (by omega) (by omega)).mono ?_
    rintro e w6 ⟨rfl, T6⟩
    have TT := hide (unhide HL1 _ _ T6)
    clear T6
    go_wp2
    refine bodyPost_ret (v := .tuple #[]) (by simp [results, Tryz.results92, go_sem]) rfl ⟨rfl, ?_⟩
    rw [unhide HB5, unhide HTb]
    exact unhide TT
  · have hm1 : ((mn : Int) == 0) = false := by simpa using hm0
    have HTb := hide (unhide HT1 hm0)
    clear HT0 HT1
    go_wp2
    refine wp_region_txt SS [8, 9] (List.range 10) (by kernel_rfl) (by kernel_rfl) ((unhide KS _).2 ⟨_, (unhide TT5).below (Below.refl _ _).drew⟩) ?_
    repeat (first
      | (refine Txt.reads (v := ?_) (by rfl) (by rfl) (by rfl) ?_ ?_; rotate_left; (focus ((intro W hSW; obtain ⟨⟨p0, p1⟩, _, p4, p5⟩ := unhide KI W hSW; go_simp) <;> with_reducible rfl)); simp only [Act.put, List.setIfInBounds_toArray, List.set_cons_zero, List.set_cons_succ]))
    refine Txt.acts (by rfl) (by rfl) (by rfl) (fun K hK => ?_)
    go_simp
    refine hK.out _ _ ((unhide KS _).2 ⟨_, (unhide TT5).below ((Below.refl _ _).alloc (Nat.le_refl _) _).drew⟩) ?_
    clear hK K
    refine Txt.acts (by rfl) (by rfl) (by rfl) (fun K hK => ?_)
    go_simp
    refine (unhide HU w5 _ _ [(1 : Int), (us : Int)] 2 2 (unhide TT5) ((Below.refl _ _).alloc (Nat.le_refl _) _).drew rfl (fun j y hj => ints_at w5 [(1 : Int), (us : Int)] _ rfl j y hj) (.inl ⟨rfl, fun z hz => by
      simp at hz
      rcases hz with rfl | rfl <;> omega⟩) (by omega) (by omega)).mono ?_
    rintro e w6 ⟨rfl, T6⟩
    refine hK.out _ _ ((unhide KS _).2 ⟨_, T6⟩) ?_
    clear hK K
    refine Txt.done ?_
    obtain ⟨⟨c0, c1⟩, ⟨c2, c3, c4, c5, c6⟩, _⟩ := unhide KI w6 ((unhide KS w6).2 ⟨_, T6⟩)
    have HSc := hide (unhide HSz w6 _ T6 (by simp [bytesW_len]; omega))
    clear T6 a0 a1 a2 a3 a4 a5 a6
    go_wp2_with fail
    refine (unhide HSc).mono ?_
    rintro e w7 ⟨rfl, T7⟩
    have TT := hide (unhide HL1 _ _ T7)
    clear T7 HSc
    go_wp2
    go_end0
    refine ⟨rfl, ?_⟩
    rw [unhide HB5, unhide HTb, ← List.append_assoc]
    exact unhide TT
end Go.Proofs.YthhdfokcciibmaaGreatDoor
