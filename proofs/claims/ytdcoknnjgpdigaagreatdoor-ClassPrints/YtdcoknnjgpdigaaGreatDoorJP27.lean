/- Joined: CkL CkM. -/
import Derived.Test.YtdcoknnjgpdigaaGreatDoorJP26

/- The landed class: a code is written. -/
namespace Go.Proofs.YtdcoknnjgpdigaaGreatDoor
open Go.RowKit
set_option linter.unusedVariables false
set_option maxRecDepth 100000

set_option maxHeartbeats 1600000 in
theorem wCode2_any (C : Cx) (F : Nat → Prop) (w : World) (bs : List UInt8) (h : Wt C F w bs) (s : Sl) (xs : List MpR) (hL : Ls 3 mpc C.wc s.a s.n xs) (hE : ∀ x ∈ xs, MpIn C.wc x ∧ mapOk C.l x.m = true) (hri : riseB (-1) (xs.map MpR.m) = true) (hn : s.n ≤ 256) (hbs : bs.length ≤ 50000000) (b1 b2 : Nat)
    (hb : w.cell? ⟨b1, 0, none⟩ = some (.pointer (some ⟨C.x, 0, none⟩)) ∧ w.cell? ⟨b1, 1, none⟩ = some (.pointer (some ⟨C.g, 0, none⟩)) ∧ w.cell? ⟨b2, 4, none⟩ = some s.v) :
    Calls Tryz.prog 126 #[.pointer (some ⟨b1, 0, none⟩), .pointer (some ⟨b2, 0, none⟩)] w fun e w' => e = .returned (.tuple #[]) ∧ WtTo C F w (bs ++ mapsB C.l (xs.map MpR.m)) w' := by
  have HW := hide (wMaps_any C F w bs h s xs hL hE hri hn hbs)
  obtain ⟨c0, c1, c2⟩ := hb
  obtain ⟨sa, sn, sc⟩ := s
  unfold Cx.v at HW
  unfold Sl.v at HW c2
  simp only at HW c2
  generalize mapsB C.l (xs.map MpR.m) = mb at *
  clear h hL hE hri
  go_enter Tryz.func126, Tryz.ntmps126
  go_wp2_with fail
  refine (unhide HW).mono ?_
  rintro e w2 ⟨rfl, T2⟩
  have TT := hide T2
  clear T2 HW
  go_wp2
  go_end0
  exact ⟨rfl, unhide TT⟩

theorem codeB_len {l : List Ent} {c : Cd} (h : codeOk l c = true) : (codeB l c).length ≤ 107000 ∧ (mapsB l c.maps).length ≤ 100100 := by
  rw [← rightD_is] at h
  unfold rightD at h
  simp only [Bool.and_eq_true, decide_eq_true_eq] at h
  obtain ⟨⟨⟨⟨_, _, _, _, _, hb, hh, hm⟩, h2⟩, h3⟩, h4⟩ := h
  rw [rightM_all l _ _ (by omega), Bool.and_eq_true] at h4
  have h5 := mpsB_len l c.maps (-1) h4.1
  have h6 := flatM_len hdB 8 c.hs (fun x _ => by unfold hdB; simp [bytesW_len])
  have h7 : (mapsB l c.maps).length ≤ 100100 := by
    unfold mapsB
    rw [List.length_append, bytesW_len]
    show 2 + _ ≤ _
    omega
  refine ⟨?_, h7⟩
  have h8 : (tableB l c.maps).length ≤ 100110 := by
    unfold tableB
    split
    · rw [bytesW_len]; decide
    · simp only [List.length_append, bytesW_len]
      show 2 + (2 + (4 + _)) ≤ _
      omega
  unfold codeB
  simp only [List.length_append, bytesW_len]
  show 2 + (2 + (4 + (_ + (2 + _)))) ≤ _
  omega

set_option maxHeartbeats 6400000 in
theorem wCode_any (C : Cx) (F : Nat → Prop) (w : World) (bs : List UInt8) (h : Wt C F w bs) (r : MdR) (hr : MdIn C.wc r) (hok : codeOk C.l r.m.code = true) (hbs : bs.length ≤ 35000000) :
    Calls Tryz.prog 92 #[C.v, cdv r.m.code r.bs r.hs r.maps] w fun e w' => e = .returned (.tuple #[]) ∧ WtTo C F w (bs ++ codeB C.l r.m.code) w' := by
  obtain ⟨⟨acc, nm, ty, ⟨st, lo, by_, hh, mm⟩⟩, ⟨ba, bn, bc⟩, ⟨ha, hn, hc⟩, ⟨ma, mn, mcc⟩, mr⟩ := r
  obtain ⟨r1, r2, r3, r4, r5, r6, r7, r8, r9, r10⟩ := hr
  simp only at r4 r5 r6 r7 r8 r9 r10 hok ⊢
  have hbn := r6.bs.1
  have hhn := r8.ls.1
  have hmn := r9.ls.1
  simp only at hbn hhn hmn
  obtain ⟨_, hlenM⟩ := codeB_len hok
  simp only at hlenM
  have hokD := hok
  rw [← rightD_is] at hokD
  unfold rightD at hokD
  simp only [Bool.and_eq_true, decide_eq_true_eq] at hokD
  obtain ⟨⟨⟨⟨d1, d2, d3, d4, d5, d6, d7, d8⟩, dh⟩, dm⟩, dr⟩ := hokD
  rw [rightM_all C.l _ _ (by omega), Bool.and_eq_true] at dr
  have hml : mm.length = mn := by rw [r10, List.length_map]; exact hmn
  unfold cdv Sl.v
  simp only
  obtain ⟨w1, e1, f1, z1, K1, K2⟩ := boxes2 w #[.pointer (some ⟨C.x, 0, none⟩), .pointer (some ⟨C.g, 0, none⟩)] 106 #[.int .i64 st, .int .i64 lo, .slice ba bn bc, .slice ha hn hc, .slice ma mn mcc] 47
  have hW1 := h.below f1
  have S1 := WtG.start hW1 F
  obtain ⟨SS, hSS⟩ : ∃ SS : World → Prop, SS = fun W => ∃ bs', WtTo C F w1 bs' W := ⟨_, rfl⟩
  have KS : Hid (∀ W, SS W ↔ ∃ bs', WtTo C F w1 bs' W) := fun W => by rw [hSS]
  have KI : Hid (∀ W, SS W → (W.cell? ⟨w.heap.size, 0, none⟩ = some (.pointer (some ⟨C.x, 0, none⟩)) ∧ W.cell? ⟨w.heap.size, 1, none⟩ = some (.pointer (some ⟨C.g, 0, none⟩))) ∧ (W.cell? ⟨w.heap.size + 1, 0, none⟩ = some (.int .i64 st) ∧ W.cell? ⟨w.heap.size + 1, 1, none⟩ = some (.int .i64 lo) ∧ W.cell? ⟨w.heap.size + 1, 2, none⟩ = some (.slice ba bn bc) ∧ W.cell? ⟨w.heap.size + 1, 3, none⟩ = some (.slice ha hn hc) ∧ W.cell? ⟨w.heap.size + 1, 4, none⟩ = some (.slice ma mn mcc)) ∧ W.cell? ⟨C.g, 1, none⟩ = some (.map (some C.mt)) ∧
      (Instr.lookup 109 (.map (some C.mt)) (.string ⟨#[83, 116, 97, 99, 107, 77, 97, 112, 84, 97, 98, 108, 101]⟩) false).run Tryz.prog W = .ok (.int .i64 (utfN C.l sMaps : Int)) W) := fun W hW => by
    rw [hSS] at hW
    obtain ⟨bs', hW⟩ := hW
    obtain ⟨F', hF, _⟩ := hW.ex
    have hx : ∀ o v, (#[Value.pointer (some ⟨C.x, 0, none⟩), .pointer (some ⟨C.g, 0, none⟩)])[o]? = some v → W.cell? ⟨w.heap.size, o, none⟩ = some v := fun o v hv => h.box f1 hW (Nat.le_refl _) (K1 o v hv)
    have hy : ∀ o v, (#[Value.int .i64 st, .int .i64 lo, .slice ba bn bc, .slice ha hn hc, .slice ma mn mcc])[o]? = some v → W.cell? ⟨w.heap.size + 1, o, none⟩ = some v := fun o v hv => h.box f1 hW (by omega) (K2 o v hv)
    exact ⟨⟨hx 0 _ rfl, hx 1 _ rfl⟩, ⟨hy 0 _ rfl, hy 1 _ rfl, hy 2 _ rfl, hy 3 _ rfl, hy 4 _ rfl⟩, hF.nm.c1, hF.nm.texts.look (s := sMaps) (by unfold fitS; decide)⟩
  have HU : Hid (∀ W W' bs' (zs : List Int) (n : Nat) (k : Int), WtTo C F w1 bs' W → Below W.heap.size W W' → zs.length = n → (∀ (j : Nat) (z : Int), zs[j]? = some z → W'.cell? ⟨W.heap.size, j, none⟩ = some (.int .i64 z)) → (k = 2 ∧ (∀ z ∈ zs, 0 ≤ z ∧ z ≤ 65535) ∨ k = 4 ∧ (∀ z ∈ zs, 0 ≤ z ∧ z < 4294967296)) → bs'.length ≤ 100000000 → n ≤ 1000 → Calls Tryz.prog 57 #[.pointer (some ⟨C.x, 0, none⟩), .int .i64 k, .slice (some ⟨W.heap.size, 0, none⟩) n n] W' fun e w' => e = .returned (.int .i64 0) ∧ WtTo C F w1 (bs' ++ zs.flatMap (bytesW k)) w') := fun W W' bs' zs n k hT hf hn hz hk hb hnn =>
    hT.step (P := fun e => e = .returned (.int .i64 0)) (fun _ h => h) (fun F1 hF1 => wt_u hF1 hf zs n k hn hz (by rcases hk with ⟨rfl, _⟩ | ⟨rfl, _⟩ <;> decide) (fun y hy => by
      rcases hk with ⟨rfl, hk⟩ | ⟨rfl, hk⟩
      · exact fz2 (hk y hy)
      · exact fz4 (hk y hy)) hb hnn)
  have HBy : Hid (∀ W bs', WtTo C F w1 bs' W → bs'.length ≤ 100000000 → Calls Tryz.prog 88 #[.pointer (some ⟨C.x, 0, none⟩), .slice ba bn bc] W fun e w' => e = .returned (.int .i64 0) ∧ WtTo C F w1 (bs' ++ by_) w') := fun W bs' hT hb =>
    hT.step (P := fun e => e = .returned (.int .i64 0)) (fun _ h => h) (fun F1 hF1 => wt_bytes hF1 ba bn bc by_ r6 hb (by omega))
  have HHs : Hid (∀ W bs', WtTo C F w1 bs' W → bs'.length ≤ 50000000 → Calls Tryz.prog 124 #[C.v, .slice ha hn hc, .func (.func 125) #[] #[.pointer (some ⟨w.heap.size, 0, none⟩)]] W fun e w' => e = .returned (.tuple #[]) ∧ WtTo C F w1 (bs' ++ (bytesW 2 (hn : Int) ++ hh.flatMap hdB)) w') := fun W bs' hT hb => by
    obtain ⟨F1, hF1, hF2⟩ := hT.ex
    refine (wlH_any C F1 W bs' hF1 ⟨ha, hn, hc⟩ hh 8 (fun W2 hW2 => by
      obtain ⟨bs3, hW2⟩ := hW2
      exact r8.ls.below (hF1.bel.trans (hW2.fr.below.mono hF1.hB))) (fun x hx => List.all_eq_true.1 dh x hx) (fun x _ => by unfold hdB; simp [bytesW_len]) (by show hn ≤ 65535; omega) (by show bs'.length + 2 + hn * 8 ≤ 90000000; omega) w.heap.size (fun W2 hW2 => by
      obtain ⟨bs3, hW2⟩ := hW2
      have := (unhide KI W2 ((unhide KS W2).2 ⟨_, hT.comp hF2 hW2 (fun k hk => hF2 k hk)⟩)).1
      exact this)).mono ?_
    rintro e w2 ⟨rfl, hT2⟩
    exact ⟨rfl, hT.comp hF2 hT2 (fun k hk => hF2 k hk)⟩
  have HSz : Hid (∀ W bs', WtTo C F w1 bs' W → bs'.length ≤ 40000000 → Calls Tryz.prog 90 #[C.v, .func (.func 126) #[] #[.pointer (some ⟨w.heap.size, 0, none⟩), .pointer (some ⟨w.heap.size + 1, 0, none⟩)]] W fun e w' => e = .returned (.tuple #[]) ∧ WtTo C F w1 (bs' ++ (bytesW 4 ((mapsB C.l mm).length : Int) ++ mapsB C.l mm)) w') := fun W bs' hT hb => by
    obtain ⟨F1, hF1, hF2⟩ := hT.ex
    refine (wSized_c C F1 W bs' hF1 w.heap.size (w.heap.size + 1) (mapsB C.l mm) (by omega) hb (fun W2 F2 bs2 hW2 hF3 hb2 => by
      have hk := unhide KI W2 ((unhide KS W2).2 ⟨_, hT.comp hF2 hW2 (fun k hk => hF2 k hk)⟩)
      have h9 := wCode2_any C F2 W2 bs2 hF3 ⟨ma, mn, mcc⟩ mr r9.ls (fun x hx => ⟨r9.each x hx, List.all_eq_true.1 dr.1 x.m (by rw [r10]; exact List.mem_map_of_mem hx)⟩) (by rw [← r10]; exact dr.2) (by show mn ≤ 256; omega) (by omega) w.heap.size (w.heap.size + 1) ⟨hk.1.1, hk.1.2, hk.2.1.2.2.2.2⟩
      rw [← r10] at h9
      exact h9)).mono ?_
    rintro e w2 ⟨rfl, hT2⟩
    exact ⟨rfl, hT.comp hF2 hT2 (fun k hk => hF2 k hk)⟩
  have HL1 : Hid (∀ bs' W, WtTo C F w1 bs' W → WtTo C F w bs' W) := fun bs' W hT => WtG.leave h f1 hT (fun j hj => .inl hj)
  have hut := h.nm.utf sMaps
  have HCB : Hid (codeB C.l ⟨st, lo, by_, hh, mm⟩ = [st, lo].flatMap (bytesW 2) ++ ([(bn : Int)].flatMap (bytesW 4) ++ (by_ ++ ((bytesW 2 (hn : Int) ++ hh.flatMap hdB) ++ tableB C.l mm)))) := by
    show codeB C.l ⟨st, lo, by_, hh, mm⟩ = _
    unfold codeB
    simp only [List.flatMap_cons, List.flatMap_nil, List.append_nil, List.append_assoc, hbn, hhn]
  have HT0 : Hid (mn = 0 → tableB C.l mm = [(0 : Int)].flatMap (bytesW 2)) := fun e => by
    have : mm = [] := List.eq_nil_of_length_eq_zero (by omega)
    rw [this]
    simp [tableB]
  have HT1 : Hid (mn ≠ 0 → tableB C.l mm = [(1 : Int), (utfN C.l sMaps : Int)].flatMap (bytesW 2) ++ (bytesW 4 ((mapsB C.l mm).length : Int) ++ mapsB C.l mm)) := fun e => by
    have : mm ≠ [] := fun e2 => by rw [e2] at hml; simp at hml; omega
    unfold tableB
    rw [if_neg this]
    simp
  have hst : ∀ z ∈ [st, lo], 0 ≤ z ∧ z ≤ 65535 := fun z hz => by
    simp at hz
    rcases hz with rfl | rfl <;> omega
  have HST := hide hst
  have hlh : (hh.flatMap hdB).length ≤ 2048 := by
    have := flatM_len hdB 8 hh (fun x _ => by unfold hdB; simp [bytesW_len])
    omega
  have hlb : by_.length = bn := hbn
  have E1 := hide e1
  have SS1 := hide S1
  have q := unhide KI w1 ((unhide KS w1).2 ⟨_, S1⟩)
  obtain ⟨⟨q0, q1⟩, ⟨q2, q3, q4, q5, q6⟩, _⟩ := q
  unfold fitI at r4 r5
  generalize utfN C.l sMaps = us at *
  generalize tableB C.l mm = tb at *
  generalize codeB C.l ⟨st, lo, by_, hh, mm⟩ = cb at *
  generalize mapsB C.l mm = mb at *
  generalize hfl : hh.flatMap hdB = hb2 at *
  clear h hSS K1 K2 e1 hW1 S1 f1 r1 r2 r3 r6 r8 r9 r10 dh dm dr hok z1 hst hbn hfl hhn
  unfold Cx.v at HHs HSz ⊢
  have e1 := unhide E1
  go_enter Tryz.func92, Tryz.ntmps92
  go_wp2_with fail
  refine (unhide HU w1 _ bs [st, lo] 2 2 (unhide SS1) ((Below.refl _ _).alloc (Nat.le_refl _) _) rfl (fun j y hj => ints_at w1 [st, lo] _ rfl j y hj) (.inl ⟨rfl, unhide HST⟩) (by omega) (by omega)).mono ?_
  rintro e w2 ⟨rfl, T2⟩
  have TT2 := hide T2
  obtain ⟨⟨c0, c1⟩, ⟨c2, c3, c4, c5, c6⟩, _⟩ := unhide KI w2 ((unhide KS w2).2 ⟨_, T2⟩)
  clear e1 T2 q0 q1 q2 q3 q4 q5 q6
  go_wp2_with fail
  refine (unhide HU w2 _ _ [(bn : Int)] 1 4 (unhide TT2) ((Below.refl _ _).alloc (Nat.le_refl _) _) rfl (fun j y hj => ints_at w2 [(bn : Int)] _ rfl j y hj) (.inr ⟨rfl, fun z hz => by simp at hz; subst hz; omega⟩) (by simp [bytesW_len]; omega) (by omega)).mono ?_
  rintro e w3 ⟨rfl, T3⟩
  have TT3 := hide T3
  obtain ⟨⟨a0, a1⟩, ⟨a2, a3, a4, a5, a6⟩, _⟩ := unhide KI w3 ((unhide KS w3).2 ⟨_, T3⟩)
  clear T3 c0 c1 c2 c3 c4 c5 c6 TT2
  go_wp2_with fail
  refine (unhide HBy w3 _ (unhide TT3) (by simp [bytesW_len]; omega)).mono ?_
  rintro e w4 ⟨rfl, T4⟩
  have TT4 := hide T4
  obtain ⟨⟨c0, c1⟩, ⟨c2, c3, c4, c5, c6⟩, _⟩ := unhide KI w4 ((unhide KS w4).2 ⟨_, T4⟩)
  clear T4 a0 a1 a2 a3 a4 a5 a6 TT3
  go_wp2_with fail
  refine (unhide HHs w4 _ (unhide TT4) (by simp [bytesW_len]; omega)).mono ?_
  rintro e w5 ⟨rfl, T5⟩
  have TT5 := hide T5
  obtain ⟨⟨a0, a1⟩, ⟨a2, a3, a4, a5, a6⟩, _⟩ := unhide KI w5 ((unhide KS w5).2 ⟨_, T5⟩)
  clear T5 c0 c1 c2 c3 c4 c5 c6 TT4
  have hl5 : (bs ++ [st, lo].flatMap (bytesW 2) ++ [(bn : Int)].flatMap (bytesW 4) ++ by_ ++ (bytesW 2 (hn : Int) ++ hb2)).length ≤ 36000000 := by simp [bytesW_len]; omega
  generalize hB5 : bs ++ [st, lo].flatMap (bytesW 2) ++ [(bn : Int)].flatMap (bytesW 4) ++ by_ ++ (bytesW 2 (hn : Int) ++ hb2) = bs5 at *
  have HB5 : Hid (bs ++ cb = bs5 ++ tb) := by
    show bs ++ cb = _
    rw [unhide HCB, ← hB5]
    simp only [List.append_assoc]
  clear HCB hB5
  by_cases hm0 : mn = 0
  · subst hm0
    have HTb := hide (unhide HT0 rfl)
    clear HT0 HT1
    go_wp2_with fail
    refine (unhide HU w5 _ _ [(0 : Int)] 1 2 (unhide TT5) ((Below.refl _ _).alloc (Nat.le_refl _) _) rfl (fun j y hj => ints_at w5 [(0 : Int)] _ rfl j y hj) (.inl ⟨rfl, fun z hz => by simp at hz; subst hz; omega⟩) (by omega) (by omega)).mono ?_
    rintro e w6 ⟨rfl, T6⟩
    have TT := hide (unhide HL1 _ _ T6)
    clear T6
    go_wp2
    refine bodyPost_ret (v := .tuple #[]) (by simp [results, Tryz.results92, go_sem]) rfl ⟨rfl, ?_⟩
    rw [unhide HB5, unhide HTb]
    exact unhide TT
  · have hm1 : ((mn : Int) == 0) = false := by simpa using hm0
    have HTb := hide (unhide HT1 hm0)
    clear HT0 HT1
    go_wp2
    refine wp_region_txt SS [8, 9] (List.range 10) (by kernel_rfl) (by kernel_rfl) ((unhide KS _).2 ⟨_, (unhide TT5).below (Below.refl _ _).drew⟩) ?_
    repeat (first
      | (refine Txt.reads (v := ?_) (by rfl) (by rfl) (by rfl) ?_ ?_; rotate_left; (focus ((intro W hSW; obtain ⟨⟨p0, p1⟩, _, p4, p5⟩ := unhide KI W hSW; go_simp) <;> with_reducible rfl)); simp only [Act.put, List.setIfInBounds_toArray, List.set_cons_zero, List.set_cons_succ]))
    refine Txt.acts (by rfl) (by rfl) (by rfl) (fun K hK => ?_)
    go_simp
    refine hK.out _ _ ((unhide KS _).2 ⟨_, (unhide TT5).below ((Below.refl _ _).alloc (Nat.le_refl _) _).drew⟩) ?_
    clear hK K
    refine Txt.acts (by rfl) (by rfl) (by rfl) (fun K hK => ?_)
    go_simp
    refine (unhide HU w5 _ _ [(1 : Int), (us : Int)] 2 2 (unhide TT5) ((Below.refl _ _).alloc (Nat.le_refl _) _).drew rfl (fun j y hj => ints_at w5 [(1 : Int), (us : Int)] _ rfl j y hj) (.inl ⟨rfl, fun z hz => by
      simp at hz
      rcases hz with rfl | rfl <;> omega⟩) (by omega) (by omega)).mono ?_
    rintro e w6 ⟨rfl, T6⟩
    refine hK.out _ _ ((unhide KS _).2 ⟨_, T6⟩) ?_
    clear hK K
    refine Txt.done ?_
    obtain ⟨⟨c0, c1⟩, ⟨c2, c3, c4, c5, c6⟩, _⟩ := unhide KI w6 ((unhide KS w6).2 ⟨_, T6⟩)
    have HSc := hide (unhide HSz w6 _ T6 (by simp [bytesW_len]; omega))
    clear T6 a0 a1 a2 a3 a4 a5 a6
    go_wp2_with fail
    refine (unhide HSc).mono ?_
    rintro e w7 ⟨rfl, T7⟩
    have TT := hide (unhide HL1 _ _ T7)
    clear T7 HSc
    go_wp2
    go_end0
    refine ⟨rfl, ?_⟩
    rw [unhide HB5, unhide HTb, ← List.append_assoc]
    exact unhide TT
end Go.Proofs.YtdcoknnjgpdigaaGreatDoor

/- The landed class: methods and fields are written. -/
namespace Go.Proofs.YtdcoknnjgpdigaaGreatDoor
open Go.RowKit
set_option linter.unusedVariables false
set_option maxRecDepth 100000

set_option maxHeartbeats 1600000 in
theorem wMethod1_any (C : Cx) (F : Nat → Prop) (w : World) (bs : List UInt8) (h : Wt C F w bs) (r : MdR) (hr : MdIn C.wc r) (hok : codeOk C.l r.m.code = true) (hbs : bs.length ≤ 35000000) (b1 b2 : Nat)
    (hb : (w.cell? ⟨b1, 0, none⟩ = some (.pointer (some ⟨C.x, 0, none⟩)) ∧ w.cell? ⟨b1, 1, none⟩ = some (.pointer (some ⟨C.g, 0, none⟩))) ∧ w.cell? ⟨b2, 3, none⟩ = some (.int .i64 r.m.code.stack) ∧ w.cell? ⟨b2, 4, none⟩ = some (.int .i64 r.m.code.locals) ∧ w.cell? ⟨b2, 5, none⟩ = some r.bs.v ∧ w.cell? ⟨b2, 6, none⟩ = some r.hs.v ∧ w.cell? ⟨b2, 7, none⟩ = some r.maps.v) :
    Calls Tryz.prog 91 #[.pointer (some ⟨b1, 0, none⟩), .pointer (some ⟨b2, 0, none⟩)] w fun e w' => e = .returned (.tuple #[]) ∧ WtTo C F w (bs ++ codeB C.l r.m.code) w' := by
  have HW := hide (wCode_any C F w bs h r hr hok hbs)
  obtain ⟨⟨c0, c1⟩, c3, c4, c5, c6, c7⟩ := hb
  obtain ⟨⟨acc, nm, ty, cd⟩, ⟨ba, bn, bc⟩, ⟨ha, hn, hc⟩, ⟨ma, mn, mcc⟩, mr⟩ := r
  unfold cdv Cx.v at HW
  unfold Sl.v at HW c5 c6 c7
  simp only at HW c3 c4 c5 c6 c7 ⊢
  generalize codeB C.l cd = cb at *
  generalize cd.stack = k1 at *
  generalize cd.locals = k2 at *
  clear h hr hok
  go_enter Tryz.func91, Tryz.ntmps91
  go_wp2_with fail
  refine (unhide HW).mono ?_
  rintro e w2 ⟨rfl, T2⟩
  have TT := hide T2
  clear T2 HW
  go_wp2
  go_end0
  exact ⟨rfl, unhide TT⟩

set_option maxHeartbeats 6400000 in
theorem wMethod_any (C : Cx) (F : Nat → Prop) (w : World) (bs : List UInt8) (h : Wt C F w bs) (r : MdR) (hr : MdIn C.wc r) (hok : rightMd C.l r.m = true) (hbs : bs.length ≤ 30000000) :
    Calls Tryz.prog 63 #[C.v, .agg #[.int .i64 r.m.acc, .string ⟨r.m.name.toArray⟩, .string ⟨r.m.type.toArray⟩, .int .i64 r.m.code.stack, .int .i64 r.m.code.locals, r.bs.v, r.hs.v, r.maps.v]] w fun e w' => e = .returned (.tuple #[]) ∧ WtTo C F w (bs ++ methodB C.l r.m) w' := by
  rw [rightMd_is, Bool.and_eq_true, Bool.and_eq_true] at hok
  obtain ⟨hacc, htx, hcode⟩ := hok
  have h2 := hr.name
  have h3 := hr.type
  have hM1 := fun (W : World) (F1 : Nat → Prop) (bs1 : List UInt8) (hT : Wt C F1 W bs1) (hb : bs1.length ≤ 35000000) => wMethod1_any C F1 W bs1 hT r hr hcode hb
  obtain ⟨hlc, _⟩ := codeB_len hcode
  obtain ⟨⟨acc, nm, ty, cd⟩, ⟨ba, bn, bc⟩, ⟨ha, hn, hc⟩, ⟨ma, mn, mcc⟩, mr⟩ := r
  simp only [Sl.v] at h2 h3 hM1 hacc htx hlc ⊢
  obtain ⟨w1, e1, f1, z1, K1, K2⟩ := boxes2 w #[.pointer (some ⟨C.x, 0, none⟩), .pointer (some ⟨C.g, 0, none⟩)] 106 #[.int .i64 acc, .string ⟨nm.toArray⟩, .string ⟨ty.toArray⟩, .int .i64 cd.stack, .int .i64 cd.locals, .slice ba bn bc, .slice ha hn hc, .slice ma mn mcc] 49
  have hW1 := h.below f1
  have S1 := WtG.start hW1 F
  obtain ⟨SS, hSS⟩ : ∃ SS : World → Prop, SS = fun W => ∃ bs', WtTo C F w1 bs' W := ⟨_, rfl⟩
  have KS : Hid (∀ W, SS W ↔ ∃ bs', WtTo C F w1 bs' W) := fun W => by rw [hSS]
  have KI : Hid (∀ W, SS W → (W.cell? ⟨w.heap.size, 0, none⟩ = some (.pointer (some ⟨C.x, 0, none⟩)) ∧ W.cell? ⟨w.heap.size, 1, none⟩ = some (.pointer (some ⟨C.g, 0, none⟩))) ∧ (W.cell? ⟨w.heap.size + 1, 0, none⟩ = some (.int .i64 acc) ∧ W.cell? ⟨w.heap.size + 1, 1, none⟩ = some (.string ⟨nm.toArray⟩) ∧ W.cell? ⟨w.heap.size + 1, 2, none⟩ = some (.string ⟨ty.toArray⟩)) ∧ (W.cell? ⟨w.heap.size + 1, 3, none⟩ = some (.int .i64 cd.stack) ∧ W.cell? ⟨w.heap.size + 1, 4, none⟩ = some (.int .i64 cd.locals) ∧ W.cell? ⟨w.heap.size + 1, 5, none⟩ = some (.slice ba bn bc) ∧ W.cell? ⟨w.heap.size + 1, 6, none⟩ = some (.slice ha hn hc) ∧ W.cell? ⟨w.heap.size + 1, 7, none⟩ = some (.slice ma mn mcc)) ∧ W.cell? ⟨C.g, 1, none⟩ = some (.map (some C.mt)) ∧
      (Instr.lookup 109 (.map (some C.mt)) (.string ⟨nm.toArray⟩) false).run Tryz.prog W = .ok (.int .i64 (utfN C.l nm : Int)) W ∧ (Instr.lookup 109 (.map (some C.mt)) (.string ⟨ty.toArray⟩) false).run Tryz.prog W = .ok (.int .i64 (utfN C.l ty : Int)) W ∧ (Instr.lookup 109 (.map (some C.mt)) (.string ⟨#[67, 111, 100, 101]⟩) false).run Tryz.prog W = .ok (.int .i64 (utfN C.l sCode : Int)) W) := fun W hW => by
    rw [hSS] at hW
    obtain ⟨bs', hW⟩ := hW
    obtain ⟨F', hF, _⟩ := hW.ex
    have hx : ∀ o v, (#[Value.pointer (some ⟨C.x, 0, none⟩), .pointer (some ⟨C.g, 0, none⟩)])[o]? = some v → W.cell? ⟨w.heap.size, o, none⟩ = some v := fun o v hv => h.box f1 hW (Nat.le_refl _) (K1 o v hv)
    have hy : ∀ o v, (#[Value.int .i64 acc, .string ⟨nm.toArray⟩, .string ⟨ty.toArray⟩, .int .i64 cd.stack, .int .i64 cd.locals, .slice ba bn bc, .slice ha hn hc, .slice ma mn mcc])[o]? = some v → W.cell? ⟨w.heap.size + 1, o, none⟩ = some v := fun o v hv => h.box f1 hW (by omega) (K2 o v hv)
    exact ⟨⟨hx 0 _ rfl, hx 1 _ rfl⟩, ⟨hy 0 _ rfl, hy 1 _ rfl, hy 2 _ rfl⟩, ⟨hy 3 _ rfl, hy 4 _ rfl, hy 5 _ rfl, hy 6 _ rfl, hy 7 _ rfl⟩, hF.nm.c1, hF.nm.texts.look h2, hF.nm.texts.look h3, hF.nm.texts.look (s := sCode) (by unfold fitS; decide)⟩
  have hfit : ∀ z ∈ [acc, (utfN C.l nm : Int), (utfN C.l ty : Int), 1, (utfN C.l sCode : Int)], 0 ≤ z ∧ z ≤ 65535 := fun z hz => by
    have u1 := h.nm.utf nm
    have u2 := h.nm.utf ty
    have u3 := h.nm.utf sCode
    unfold accB at hacc
    simp only [decide_eq_true_eq] at hacc
    simp at hz
    rcases hz with rfl | rfl | rfl | rfl | rfl <;> omega
  have HU : Hid (Calls Tryz.prog 57 #[.pointer (some ⟨C.x, 0, none⟩), .int .i64 2, .slice (some ⟨w1.heap.size, 0, none⟩) 5 5] (w1.alloc (.cells #[.int .i64 acc, .int .i64 (utfN C.l nm : Int), .int .i64 (utfN C.l ty : Int), .int .i64 1, .int .i64 (utfN C.l sCode : Int)] 3)).drew fun e w' => e = .returned (.int .i64 0) ∧ WtTo C F w1 (bs ++ [acc, (utfN C.l nm : Int), (utfN C.l ty : Int), 1, (utfN C.l sCode : Int)].flatMap (bytesW 2)) w') :=
    wt_u hW1 ((Below.refl _ _).alloc (Nat.le_refl _) _).drew [acc, (utfN C.l nm : Int), (utfN C.l ty : Int), 1, (utfN C.l sCode : Int)] 5 2 rfl (fun j y hj => ints_at w1 [acc, (utfN C.l nm : Int), (utfN C.l ty : Int), 1, (utfN C.l sCode : Int)] _ rfl j y hj) (by decide) (fun y hy => fz2 (hfit y hy)) (by omega) (by omega)
  have HSz : Hid (∀ W bs', WtTo C F w1 bs' W → bs'.length ≤ 31000000 → Calls Tryz.prog 90 #[C.v, .func (.func 91) #[] #[.pointer (some ⟨w.heap.size, 0, none⟩), .pointer (some ⟨w.heap.size + 1, 0, none⟩)]] W fun e w' => e = .returned (.tuple #[]) ∧ WtTo C F w1 (bs' ++ (bytesW 4 ((codeB C.l cd).length : Int) ++ codeB C.l cd)) w') := fun W bs' hT hb => by
    obtain ⟨F1, hF1, hF2⟩ := hT.ex
    refine (wSized_m C F1 W bs' hF1 w.heap.size (w.heap.size + 1) (codeB C.l cd) (by omega) (by omega) (fun W2 F2 bs2 hW2 hF3 hb2 => by
      have hk := unhide KI W2 ((unhide KS W2).2 ⟨_, hT.comp hF2 hW2 (fun k hk => hF2 k hk)⟩)
      exact hM1 W2 F2 bs2 hF3 (by omega) w.heap.size (w.heap.size + 1) ⟨hk.1, hk.2.2.1⟩)).mono ?_
    rintro e w2 ⟨rfl, hT2⟩
    exact ⟨rfl, hT.comp hF2 hT2 (fun k hk => hF2 k hk)⟩
  have HL1 : Hid (∀ bs' W, WtTo C F w1 bs' W → WtTo C F w bs' W) := fun bs' W hT => WtG.leave h f1 hT (fun j hj => .inl hj)
  have HMB : Hid (methodB C.l ⟨acc, nm, ty, cd⟩ = [acc, (utfN C.l nm : Int), (utfN C.l ty : Int), 1, (utfN C.l sCode : Int)].flatMap (bytesW 2) ++ (bytesW 4 ((codeB C.l cd).length : Int) ++ codeB C.l cd)) := by
    show methodB C.l ⟨acc, nm, ty, cd⟩ = _
    unfold methodB
    simp only [List.flatMap_cons, List.flatMap_nil, List.append_nil, List.append_assoc]
  have E1 := hide e1
  have SS1 := hide S1
  generalize (⟨nm.toArray⟩ : ByteArray) = s1 at *
  generalize (⟨ty.toArray⟩ : ByteArray) = s2 at *
  generalize utfN C.l nm = u1 at *
  generalize utfN C.l ty = u2 at *
  generalize utfN C.l sCode = u3 at *
  generalize methodB C.l ⟨acc, nm, ty, cd⟩ = mb at *
  generalize codeB C.l cd = cb at *
  generalize cd.stack = k1 at *
  generalize cd.locals = k2 at *
  clear h hSS K1 K2 e1 hW1 S1 f1 h2 h3 hM1 hacc htx hcode hfit z1 hr
  unfold Cx.v at HSz ⊢
  have e1 := unhide E1
  go_enter Tryz.func63, Tryz.ntmps63
  go_wp2
  clear e1
  refine wp_region_txt SS [26, 27] (List.range 28) (by kernel_rfl) (by kernel_rfl) ((unhide KS _).2 ⟨_, (unhide SS1).below (Below.refl _ _).drew⟩) ?_
  repeat (first
    | (refine Txt.reads (v := ?_) (by rfl) (by rfl) (by rfl) ?_ ?_; rotate_left; (focus ((intro W hSW; obtain ⟨⟨p0, p1⟩, ⟨p2, p3, p4⟩, _, p6, p7, p8, p9⟩ := unhide KI W hSW; go_simp) <;> with_reducible rfl)); simp only [Act.put, List.setIfInBounds_toArray, List.set_cons_zero, List.set_cons_succ]))
  refine Txt.acts (by rfl) (by rfl) (by rfl) (fun K hK => ?_)
  go_simp
  refine hK.out _ _ ((unhide KS _).2 ⟨_, (unhide SS1).below ((Below.refl _ _).alloc (Nat.le_refl _) _).drew⟩) ?_
  clear hK K
  refine Txt.acts (by rfl) (by rfl) (by rfl) (fun K hK => ?_)
  go_simp
  refine (unhide HU).mono ?_
  rintro e w2 ⟨rfl, T2⟩
  refine hK.out _ _ ((unhide KS _).2 ⟨_, T2⟩) ?_
  clear hK K
  refine Txt.done ?_
  obtain ⟨⟨c0, c1⟩, ⟨c2, c3, c4⟩, ⟨c5, c6, c7, c8, c9⟩, _⟩ := unhide KI w2 ((unhide KS w2).2 ⟨_, T2⟩)
  have HSc := hide (unhide HSz w2 _ T2 (by simp [bytesW_len]; omega))
  clear T2
  go_wp2_with fail
  refine (unhide HSc).mono ?_
  rintro e w7 ⟨rfl, T7⟩
  have TT := hide (unhide HL1 _ _ T7)
  clear T7 HSc
  go_wp2
  go_end0
  refine ⟨rfl, ?_⟩
  rw [unhide HMB, ← List.append_assoc]
  exact unhide TT
set_option maxHeartbeats 6400000 in
theorem wlM_any (C : Cx) (F : Nat → Prop) (w : World) (bs : List UInt8) (h : Wt C F w bs) (s : Sl) (xs : List MdR) (M : Nat) (hL : ∀ W, (∃ bs', WtTo C F w bs' W) → Ls 8 mdc W s.a s.n xs) (hE : ∀ x ∈ xs, MdIn C.wc x ∧ rightMd C.l x.m = true) (hM : ∀ x ∈ xs, ((fun r => methodB C.l (MdR.m r)) x).length ≤ M) (hn : s.n ≤ 65535) (hbs : bs.length + 2 + s.n * M ≤ 30000000) :
    Calls Tryz.prog 62 #[C.v, s.v, .func (.func 63) #[C.v] #[]] w fun e w' => e = .returned (.tuple #[]) ∧ WtTo C F w (bs ++ (bytesW 2 (s.n : Int) ++ xs.flatMap ((fun r => methodB C.l (MdR.m r))))) w' := by
  obtain ⟨a, n, c⟩ := s
  simp only at hL hn hbs ⊢
  have hln := (hL w ⟨_, WtG.start h F⟩).1
  obtain ⟨w1, e1, f1, K1⟩ := one_local w #[.pointer (some ⟨C.x, 0, none⟩), .pointer (some ⟨C.g, 0, none⟩)] 106
  have hW1 := h.below f1
  have S1 := WtG.start hW1 F
  have c0 := K1 w1 (Below.refl _ _) 0 _ rfl
  have hlen : ∀ k, k ≤ n → ((xs.take k).flatMap ((fun r => methodB C.l (MdR.m r)))).length ≤ k * M := fun k => by
    induction k with
    | zero => intro _; simp
    | succ k ih =>
      intro hk
      obtain ⟨x, hx⟩ : ∃ x, xs[k]? = some x := ⟨_, List.getElem?_eq_getElem (by omega)⟩
      rw [List.take_add_one, hx, List.flatMap_append, List.length_append]
      have := ih (by omega)
      have h9 := hM x (List.mem_of_getElem? hx)
      try simp only at h9
      simp only [Option.toList, List.flatMap_cons, List.flatMap_nil, List.append_nil]
      rw [Nat.succ_mul]
      omega
  have HU : Hid (Calls Tryz.prog 57 #[.pointer (some ⟨C.x, 0, none⟩), .int .i64 2, .slice (some ⟨w1.heap.size, 0, none⟩) 1 1] (w1.alloc (.cells #[.int .i64 (n : Int)] 3)) fun e w' => e = .returned (.int .i64 0) ∧ WtTo C F w1 (bs ++ bytesW 2 (n : Int)) w') := by
    have := wt_u hW1 (W' := w1.alloc (.cells #[.int .i64 (n : Int)] 3)) ((Below.refl _ _).alloc (Nat.le_refl _) _) [(n : Int)] 1 2 rfl (fun j y hj => ints_at w1 [(n : Int)] _ rfl j y hj) (by decide) (fun y hy => by simp at hy; subst hy; exact fz2 (by omega)) (by omega) (by omega)
    exact hide (by simpa using this)
  have HL1 : Hid (∀ bs' W, WtTo C F w1 bs' W → WtTo C F w bs' W) := fun bs' W hT => WtG.leave h f1 hT (fun j hj => .inl hj)
  have HLL : Hid (∀ bs' W, WtTo C F w1 bs' W → Ls 8 mdc W a n xs) := fun bs' W hT => hL W ⟨_, unhide HL1 _ _ hT⟩
  have HO : Hid (∀ bs' W x, WtTo C F w1 bs' W → x ∈ xs → bs'.length ≤ 30000000 → Calls Tryz.prog 63 #[C.v, .agg #[.int .i64 x.m.acc, .string ⟨x.m.name.toArray⟩, .string ⟨x.m.type.toArray⟩, .int .i64 x.m.code.stack, .int .i64 x.m.code.locals, x.bs.v, x.hs.v, x.maps.v]] W fun e w' => e = .returned (.tuple #[]) ∧ WtTo C F w1 (bs' ++ (fun r => methodB C.l (MdR.m r)) x) w') := fun bs' W x hT hxm hb => by
    have hx := hE x hxm
    have hk5 := unhide HL1 _ _ hT
    exact hT.step (P := fun e => e = .returned (.tuple #[])) (fun _ h => h) (fun F1 hF1 => wMethod_any C F1 _ _ hF1 _ hx.1 hx.2 hb)
  have HLEN := hide hlen
  have E1 := hide e1
  have SS1 := hide S1
  clear h e1 hW1 S1 hlen hL hE hM f1 K1
  unfold Cx.v Sl.v
  simp only
  have e1 := unhide E1
  go_enter Tryz.func62, Tryz.ntmps62
  go_wp2_with fail
  refine (unhide HU).mono ?_
  rintro e w2 ⟨rfl, T2⟩
  have TT2 := hide T2
  clear e1 T2 HU c0
  go_wp2
  go_loopw [16] (fun i wr => ∃ k : Nat, k ≤ n ∧ i = .int .i64 k ∧ WtTo C F w1 (bs ++ (bytesW 2 (n : Int) ++ (xs.take k).flatMap ((fun r => methodB C.l (MdR.m r))))) wr) (fun i _ => n - (intOf i).toNat)
  case atStart => exact ⟨0, by omega, rfl, by simpa using unhide TT2⟩
  case round =>
    obtain ⟨k, hk, rfl, hT⟩ := hrel
    by_cases hlt : k < n
    · have hlt1 : (k : Int) < (n : Int) := by omega
      have hk0 : (0 : Int) ≤ (k : Int) := by omega
      have hLs := unhide HLL _ _ hT
      obtain ⟨b1, o1, h1a, h1⟩ := Ls.row hLs (w' := wr) (by omega)
      subst h1a
      obtain ⟨x, hx1⟩ : ∃ x, xs[k]? = some x := ⟨_, List.getElem?_eq_getElem (by omega)⟩
      have q := h1 (Below.refl _ _) k x hx1
      have hstep : Hid (bs ++ (bytesW 2 (n : Int) ++ (xs.take (k + 1)).flatMap ((fun r => methodB C.l (MdR.m r)))) = (bs ++ (bytesW 2 (n : Int) ++ (xs.take k).flatMap ((fun r => methodB C.l (MdR.m r))))) ++ (fun r => methodB C.l (MdR.m r)) x) := by
        show bs ++ (bytesW 2 (n : Int) ++ (xs.take (k + 1)).flatMap ((fun r => methodB C.l (MdR.m r)))) = _
        rw [List.take_add_one, hx1]
        simp
      have hbl : (bs ++ (bytesW 2 (n : Int) ++ (xs.take k).flatMap ((fun r => methodB C.l (MdR.m r))))).length ≤ 30000000 := by
        have := unhide HLEN k (by omega)
        have h2 : (bytesW 2 (n : Int)).length = 2 := bytesW_len _ _
        have h3 : k * M ≤ n * M := Nat.mul_le_mul_right _ (by omega)
        rw [List.length_append, List.length_append, h2]
        omega
      have hxm := List.mem_of_getElem? hx1
      obtain ⟨xm, ⟨ba, bn, bc⟩, ⟨ha, hn, hc⟩, ⟨ma, mn, mcc⟩, xr⟩ := x
      have c0 := q.zero
      have c1 := q 1 _ rfl
      have c2 := q 2 _ rfl
      have c3 := q 3 _ rfl
      have c4 := q 4 _ rfl
      have c5 := q 5 _ rfl
      have c6 := q 6 _ rfl
      have c7 := q 7 _ rfl
      simp only [Sl.v] at c0 c1 c2 c3 c4 c5 c6 c7
      have HP := hide (unhide HO _ (wr.alloc (.cells #[.int .i64 xm.acc, .string ⟨xm.name.toArray⟩, .string ⟨xm.type.toArray⟩, .int .i64 xm.code.stack, .int .i64 xm.code.locals, .slice ba bn bc, .slice ha hn hc, .slice ma mn mcc] 49)) _ (hT.below ((Below.refl _ _).alloc (Nat.le_refl _) _)) hxm hbl)
      clear q h1 hx1 hT hLs hbl hxm
      unfold Cx.v at HP
      try simp only [Sl.v] at HP hstep
      generalize (⟨xm.name.toArray⟩ : ByteArray) = s1 at *
      generalize (⟨xm.type.toArray⟩ : ByteArray) = s2 at *
      go_wp2_with fail
      refine (unhide HP).mono ?_
      rintro e w4 ⟨rfl, T4⟩
      have TT4 := hide T4
      clear HP T4
      go_wp2
      go_roundw
      case rel => exact ⟨k + 1, by omega, by go_num, by rw [unhide hstep]; exact unhide TT4⟩
      case measure => simp [intOf]; omega
    · obtain rfl : k = n := by omega
      rw [List.take_of_length_le (by omega)] at hT
      have TT := hide (unhide HL1 _ _ hT)
      clear hT
      go_wp2
      go_end0
      exact ⟨rfl, unhide TT⟩


set_option maxHeartbeats 6400000 in
theorem wField_any (C : Cx) (F : Nat → Prop) (w : World) (bs : List UInt8) (h : Wt C F w bs) (x : Fd) (hx : FdFit x) (hok : rightF C.l x = true) (hbs : bs.length ≤ 90000000) :
    Calls Tryz.prog 61 #[C.v, .agg #[.int .i64 x.acc, .string ⟨x.name.toArray⟩, .string ⟨x.type.toArray⟩]] w fun e w' => e = .returned (.tuple #[]) ∧ WtTo C F w (bs ++ fieldB C.l x) w' := by
  obtain ⟨acc, nm, ty⟩ := x
  obtain ⟨_, h2, h3⟩ := hx
  unfold rightF at hok
  simp only [Bool.and_eq_true, decide_eq_true_eq] at hok h2 h3 ⊢
  obtain ⟨hacc, _⟩ := hok
  obtain ⟨w1, e1, f1, z1, K1, K2⟩ := boxes2 w #[.pointer (some ⟨C.x, 0, none⟩), .pointer (some ⟨C.g, 0, none⟩)] 106 #[.int .i64 acc, .string ⟨nm.toArray⟩, .string ⟨ty.toArray⟩] 58
  have hW1 := h.below f1
  have S1 := WtG.start hW1 F
  obtain ⟨SS, hSS⟩ : ∃ SS : World → Prop, SS = fun W => ∃ bs', WtTo C F w1 bs' W := ⟨_, rfl⟩
  have KS : Hid (∀ W, SS W ↔ ∃ bs', WtTo C F w1 bs' W) := fun W => by rw [hSS]
  have KI : Hid (∀ W, SS W → (W.cell? ⟨w.heap.size, 0, none⟩ = some (.pointer (some ⟨C.x, 0, none⟩)) ∧ W.cell? ⟨w.heap.size, 1, none⟩ = some (.pointer (some ⟨C.g, 0, none⟩))) ∧ (W.cell? ⟨w.heap.size + 1, 0, none⟩ = some (.int .i64 acc) ∧ W.cell? ⟨w.heap.size + 1, 1, none⟩ = some (.string ⟨nm.toArray⟩) ∧ W.cell? ⟨w.heap.size + 1, 2, none⟩ = some (.string ⟨ty.toArray⟩)) ∧ W.cell? ⟨C.g, 1, none⟩ = some (.map (some C.mt)) ∧
      (Instr.lookup 109 (.map (some C.mt)) (.string ⟨nm.toArray⟩) false).run Tryz.prog W = .ok (.int .i64 (utfN C.l nm : Int)) W ∧ (Instr.lookup 109 (.map (some C.mt)) (.string ⟨ty.toArray⟩) false).run Tryz.prog W = .ok (.int .i64 (utfN C.l ty : Int)) W) := fun W hW => by
    rw [hSS] at hW
    obtain ⟨bs', hW⟩ := hW
    obtain ⟨F', hF, _⟩ := hW.ex
    exact ⟨⟨h.box f1 hW (Nat.le_refl _) (K1 0 _ rfl), h.box f1 hW (Nat.le_refl _) (K1 1 _ rfl)⟩, ⟨h.box f1 hW (by omega) (K2 0 _ rfl), h.box f1 hW (by omega) (K2 1 _ rfl), h.box f1 hW (by omega) (K2 2 _ rfl)⟩, hF.nm.c1, hF.nm.texts.look h2, hF.nm.texts.look h3⟩
  have hfit : ∀ z ∈ [acc, (utfN C.l nm : Int), (utfN C.l ty : Int), 0], 0 ≤ z ∧ z ≤ 65535 := fun z hz => by
    have u1 := h.nm.utf nm
    have u2 := h.nm.utf ty
    simp at hz
    rcases hz with rfl | rfl | rfl | rfl <;> omega
  have HU : Hid (Calls Tryz.prog 57 #[.pointer (some ⟨C.x, 0, none⟩), .int .i64 2, .slice (some ⟨w1.heap.size, 0, none⟩) 4 4] (w1.alloc (.cells #[.int .i64 acc, .int .i64 (utfN C.l nm : Int), .int .i64 (utfN C.l ty : Int), .int .i64 0] 3)).drew fun e w' => e = .returned (.int .i64 0) ∧ WtTo C F w1 (bs ++ [acc, (utfN C.l nm : Int), (utfN C.l ty : Int), 0].flatMap (bytesW 2)) w') :=
    wt_u hW1 ((Below.refl _ _).alloc (Nat.le_refl _) _).drew [acc, (utfN C.l nm : Int), (utfN C.l ty : Int), 0] 4 2 rfl (fun j y hj => ints_at w1 [acc, (utfN C.l nm : Int), (utfN C.l ty : Int), 0] _ rfl j y hj) (by decide) (fun y hy => fz2 (hfit y hy)) (by omega) (by omega)
  have HL1 : Hid (∀ bs' W, WtTo C F w1 bs' W → WtTo C F w bs' W) := fun bs' W hT => WtG.leave h f1 hT (fun j hj => .inl hj)
  have HMB : Hid (fieldB C.l ⟨acc, nm, ty⟩ = [acc, (utfN C.l nm : Int), (utfN C.l ty : Int), 0].flatMap (bytesW 2)) := by
    show fieldB C.l ⟨acc, nm, ty⟩ = _
    unfold fieldB
    simp only [List.flatMap_cons, List.flatMap_nil, List.append_nil]
  have E1 := hide e1
  have SS1 := hide S1
  generalize (⟨nm.toArray⟩ : ByteArray) = s1 at *
  generalize (⟨ty.toArray⟩ : ByteArray) = s2 at *
  generalize utfN C.l nm = u1 at *
  generalize utfN C.l ty = u2 at *
  generalize fieldB C.l ⟨acc, nm, ty⟩ = mb at *
  clear h hSS K1 K2 e1 hW1 S1 f1 h2 h3 hacc hfit z1
  unfold Cx.v
  have e1 := unhide E1
  go_enter Tryz.func61, Tryz.ntmps61
  go_wp2
  clear e1
  refine wp_region_txt SS [20, 21] (List.range 22) (by kernel_rfl) (by kernel_rfl) ((unhide KS _).2 ⟨_, (unhide SS1).below (Below.refl _ _).drew⟩) ?_
  repeat (first
    | (refine Txt.reads (v := ?_) (by rfl) (by rfl) (by rfl) ?_ ?_; rotate_left; (focus ((intro W hSW; obtain ⟨⟨p0, p1⟩, ⟨p2, p3, p4⟩, p6, p7, p8⟩ := unhide KI W hSW; go_simp) <;> with_reducible rfl)); simp only [Act.put, List.setIfInBounds_toArray, List.set_cons_zero, List.set_cons_succ]))
  refine Txt.acts (by rfl) (by rfl) (by rfl) (fun K hK => ?_)
  go_simp
  refine hK.out _ _ ((unhide KS _).2 ⟨_, (unhide SS1).below ((Below.refl _ _).alloc (Nat.le_refl _) _).drew⟩) ?_
  clear hK K
  refine Txt.acts (by rfl) (by rfl) (by rfl) (fun K hK => ?_)
  go_simp
  refine (unhide HU).mono ?_
  rintro e w2 ⟨rfl, T2⟩
  refine hK.out _ _ ((unhide KS _).2 ⟨_, T2⟩) ?_
  clear hK K
  refine Txt.done ?_
  have TT := hide (unhide HL1 _ _ T2)
  clear T2
  go_wp2
  go_end0
  refine ⟨rfl, ?_⟩
  rw [unhide HMB]
  exact unhide TT
set_option maxHeartbeats 6400000 in
theorem wlF_any (C : Cx) (F : Nat → Prop) (w : World) (bs : List UInt8) (h : Wt C F w bs) (s : Sl) (xs : List Fd) (M : Nat) (hL : ∀ W, (∃ bs', WtTo C F w bs' W) → Ls 3 fdc W s.a s.n xs) (hE : ∀ x ∈ xs, FdFit x ∧ rightF C.l x = true) (hM : ∀ x ∈ xs, (fieldB C.l x).length ≤ M) (hn : s.n ≤ 65535) (hbs : bs.length + 2 + s.n * M ≤ 90000000) :
    Calls Tryz.prog 60 #[C.v, s.v, .func (.func 61) #[C.v] #[]] w fun e w' => e = .returned (.tuple #[]) ∧ WtTo C F w (bs ++ (bytesW 2 (s.n : Int) ++ xs.flatMap (fieldB C.l))) w' := by
  obtain ⟨a, n, c⟩ := s
  simp only at hL hn hbs ⊢
  have hln := (hL w ⟨_, WtG.start h F⟩).1
  obtain ⟨w1, e1, f1, K1⟩ := one_local w #[.pointer (some ⟨C.x, 0, none⟩), .pointer (some ⟨C.g, 0, none⟩)] 106
  have hW1 := h.below f1
  have S1 := WtG.start hW1 F
  have c0 := K1 w1 (Below.refl _ _) 0 _ rfl
  have hlen : ∀ k, k ≤ n → ((xs.take k).flatMap (fieldB C.l)).length ≤ k * M := fun k => by
    induction k with
    | zero => intro _; simp
    | succ k ih =>
      intro hk
      obtain ⟨x, hx⟩ : ∃ x, xs[k]? = some x := ⟨_, List.getElem?_eq_getElem (by omega)⟩
      rw [List.take_add_one, hx, List.flatMap_append, List.length_append]
      have := ih (by omega)
      have h9 := hM x (List.mem_of_getElem? hx)
      try simp only at h9
      simp only [Option.toList, List.flatMap_cons, List.flatMap_nil, List.append_nil]
      rw [Nat.succ_mul]
      omega
  have HU : Hid (Calls Tryz.prog 57 #[.pointer (some ⟨C.x, 0, none⟩), .int .i64 2, .slice (some ⟨w1.heap.size, 0, none⟩) 1 1] (w1.alloc (.cells #[.int .i64 (n : Int)] 3)) fun e w' => e = .returned (.int .i64 0) ∧ WtTo C F w1 (bs ++ bytesW 2 (n : Int)) w') := by
    have := wt_u hW1 (W' := w1.alloc (.cells #[.int .i64 (n : Int)] 3)) ((Below.refl _ _).alloc (Nat.le_refl _) _) [(n : Int)] 1 2 rfl (fun j y hj => ints_at w1 [(n : Int)] _ rfl j y hj) (by decide) (fun y hy => by simp at hy; subst hy; exact fz2 (by omega)) (by omega) (by omega)
    exact hide (by simpa using this)
  have HL1 : Hid (∀ bs' W, WtTo C F w1 bs' W → WtTo C F w bs' W) := fun bs' W hT => WtG.leave h f1 hT (fun j hj => .inl hj)
  have HLL : Hid (∀ bs' W, WtTo C F w1 bs' W → Ls 3 fdc W a n xs) := fun bs' W hT => hL W ⟨_, unhide HL1 _ _ hT⟩
  have HO : Hid (∀ bs' W x, WtTo C F w1 bs' W → x ∈ xs → bs'.length ≤ 90000000 → Calls Tryz.prog 61 #[C.v, .agg #[.int .i64 x.acc, .string ⟨x.name.toArray⟩, .string ⟨x.type.toArray⟩]] W fun e w' => e = .returned (.tuple #[]) ∧ WtTo C F w1 (bs' ++ fieldB C.l x) w') := fun bs' W x hT hxm hb => by
    have hx := hE x hxm
    have hk5 := unhide HL1 _ _ hT
    exact hT.step (P := fun e => e = .returned (.tuple #[])) (fun _ h => h) (fun F1 hF1 => wField_any C F1 _ _ hF1 x hx.1 hx.2 hb)
  have HLEN := hide hlen
  have E1 := hide e1
  have SS1 := hide S1
  clear h e1 hW1 S1 hlen hL hE hM f1 K1
  unfold Cx.v Sl.v
  simp only
  have e1 := unhide E1
  go_enter Tryz.func60, Tryz.ntmps60
  go_wp2_with fail
  refine (unhide HU).mono ?_
  rintro e w2 ⟨rfl, T2⟩
  have TT2 := hide T2
  clear e1 T2 HU c0
  go_wp2
  go_loopw [16] (fun i wr => ∃ k : Nat, k ≤ n ∧ i = .int .i64 k ∧ WtTo C F w1 (bs ++ (bytesW 2 (n : Int) ++ (xs.take k).flatMap (fieldB C.l))) wr) (fun i _ => n - (intOf i).toNat)
  case atStart => exact ⟨0, by omega, rfl, by simpa using unhide TT2⟩
  case round =>
    obtain ⟨k, hk, rfl, hT⟩ := hrel
    by_cases hlt : k < n
    · have hlt1 : (k : Int) < (n : Int) := by omega
      have hk0 : (0 : Int) ≤ (k : Int) := by omega
      have hLs := unhide HLL _ _ hT
      obtain ⟨b1, o1, h1a, h1⟩ := Ls.row hLs (w' := wr) (by omega)
      subst h1a
      obtain ⟨x, hx1⟩ : ∃ x, xs[k]? = some x := ⟨_, List.getElem?_eq_getElem (by omega)⟩
      have q := h1 (Below.refl _ _) k x hx1
      have hstep : Hid (bs ++ (bytesW 2 (n : Int) ++ (xs.take (k + 1)).flatMap (fieldB C.l)) = (bs ++ (bytesW 2 (n : Int) ++ (xs.take k).flatMap (fieldB C.l))) ++ fieldB C.l x) := by
        show bs ++ (bytesW 2 (n : Int) ++ (xs.take (k + 1)).flatMap (fieldB C.l)) = _
        rw [List.take_add_one, hx1]
        simp
      have hbl : (bs ++ (bytesW 2 (n : Int) ++ (xs.take k).flatMap (fieldB C.l))).length ≤ 90000000 := by
        have := unhide HLEN k (by omega)
        have h2 : (bytesW 2 (n : Int)).length = 2 := bytesW_len _ _
        have h3 : k * M ≤ n * M := Nat.mul_le_mul_right _ (by omega)
        rw [List.length_append, List.length_append, h2]
        omega
      have hxm := List.mem_of_getElem? hx1
      have c0 := q.zero
      have c1 := q 1 _ rfl
      have c2 := q 2 _ rfl
      have HP := hide (unhide HO _ (wr.alloc (.cells #[.int .i64 x.acc, .string ⟨x.name.toArray⟩, .string ⟨x.type.toArray⟩] 58)) _ (hT.below ((Below.refl _ _).alloc (Nat.le_refl _) _)) hxm hbl)
      clear q h1 hx1 hT hLs hbl hxm
      unfold Cx.v at HP
      try simp only [Sl.v] at HP hstep
      generalize (⟨x.name.toArray⟩ : ByteArray) = s1 at *
      generalize (⟨x.type.toArray⟩ : ByteArray) = s2 at *
      go_wp2_with fail
      refine (unhide HP).mono ?_
      rintro e w4 ⟨rfl, T4⟩
      have TT4 := hide T4
      clear HP T4
      go_wp2
      go_roundw
      case rel => exact ⟨k + 1, by omega, by go_num, by rw [unhide hstep]; exact unhide TT4⟩
      case measure => simp [intOf]; omega
    · obtain rfl : k = n := by omega
      rw [List.take_of_length_le (by omega)] at hT
      have TT := hide (unhide HL1 _ _ hT)
      clear hT
      go_wp2
      go_end0
      exact ⟨rfl, unhide TT⟩


set_option maxHeartbeats 3200000 in
theorem wSuper_any (C : Cx) (F : Nat → Prop) (w : World) (bs : List UInt8) (h : Wt C F w bs) (r : ClR) (hs : fitS r.c.super) :
    Calls Tryz.prog 59 #[C.v, r.v] w fun e w' => e = .returned (.int .i64 (superN C.l r.c.super : Int)) ∧ Below w.heap.size w w' := by
  obtain ⟨⟨pl, nm, sp, fl, ml⟩, ⟨pa, pn, pc⟩, ⟨fa, fn, fc⟩, ⟨ma, mn, mcc⟩, mr⟩ := r
  unfold ClR.v Cx.v Sl.v
  simp only at hs ⊢
  obtain ⟨w1, e1, f1, z1, K1, K2⟩ := boxes2 w #[.pointer (some ⟨C.x, 0, none⟩), .pointer (some ⟨C.g, 0, none⟩)] 106 #[.slice pa pn pc, .string ⟨nm.toArray⟩, .string ⟨sp.toArray⟩, .slice fa fn fc, .slice ma mn mcc] 26
  have hW1 := h.below f1
  have q1 := K1 1 _ rfl
  have q2 := K2 2 _ rfl
  have c2 := hW1.nm.c2
  have lk := hW1.nm.classes.look hs
  obtain ⟨S, hS⟩ : ∃ S, S = superN C.l sp := ⟨_, rfl⟩
  rw [← hS]
  unfold superN at hS
  obtain ⟨zs, hzs⟩ : ∃ zs : ByteArray, zs = ⟨sp.toArray⟩ := ⟨_, rfl⟩
  have i1 : zs = ⟨#[]⟩ ↔ sp = [] := by rw [hzs]; simp
  have i2 : zs.toList = [] ↔ sp = [] := by rw [hzs]; simp
  rw [← hzs] at q2 lk e1 ⊢
  generalize (⟨nm.toArray⟩ : ByteArray) = s1 at *
  have E1 := hide e1
  have F1 := hide f1
  by_cases hsp : sp = []
  · rw [if_pos hsp] at hS
    have hz := i1.2 hsp
    subst hS hz
    clear h hW1 K1 K2 e1 f1 i1 i2 hsp c2 lk z1 hs hzs
    have e1 := unhide E1
    go_enter Tryz.func59, Tryz.ntmps59
    go_wp2
    go_ret
    exact ⟨rfl, unhide F1⟩
  · rw [if_neg hsp] at hS
    have hz2 : ¬ zs.toList = [] := fun h => hsp (i2.1 h)
    have hz3 : (zs.toList == []) = false := by simpa using hz2
    rw [← hS] at lk
    obtain ⟨SS, hSS⟩ : ∃ SS : World → Prop, SS = fun W => W.heap = w1.heap := ⟨_, rfl⟩
    have KS : Hid (SS w1.drew) := by
      show SS _
      rw [hSS]
      rfl
    have KF : Hid (∀ W, SS W → Below w.heap.size w W → True) := fun _ _ _ => trivial
    have KI : Hid (∀ W, Below w1.heap.size w1 W → W.cell? ⟨w.heap.size, 1, none⟩ = some (.pointer (some ⟨C.g, 0, none⟩)) ∧ W.cell? ⟨w.heap.size + 1, 2, none⟩ = some (.string zs) ∧ W.cell? ⟨C.g, 2, none⟩ = some (.map (some C.mc)) ∧ (Instr.lookup 109 (.map (some C.mc)) (.string zs) false).run Tryz.prog W = .ok (.int .i64 (S : Int)) W) := fun W f => by
      have lk2 := (hW1.below f).nm.classes.look hs
      rw [← hzs, ← hS] at lk2
      exact ⟨(f.cell (World.block_lt_of_cell? _ _ q1)).trans q1, (f.cell (World.block_lt_of_cell? _ _ q2)).trans q2, (hW1.below f).nm.c2, lk2⟩
    clear h hW1 K1 K2 e1 f1 i1 i2 hsp c2 lk z1 hs hzs q1 hS KS KF hSS SS
    have e1 := unhide E1
    go_enter Tryz.func59, Tryz.ntmps59
    go_wp2
    clear e1
    obtain ⟨SS, hSS⟩ : ∃ SS : World → Prop, SS = fun W => Below w1.heap.size w1 W := ⟨_, rfl⟩
    have KS : Hid (∀ W, SS W ↔ Below w1.heap.size w1 W) := fun W => by rw [hSS]
    clear hSS
    refine wp_region_txt SS [] (List.range 9) (by kernel_rfl) (by kernel_rfl) ((unhide KS _).2 (Below.refl _ _).drew) ?_
    repeat (first
      | (refine Txt.reads (v := ?_) (by rfl) (by rfl) (by rfl) ?_ ?_; rotate_left; (focus ((intro W hSW; obtain ⟨p0, p1, p2, p3⟩ := unhide KI W ((unhide KS W).1 hSW); go_simp) <;> with_reducible rfl)); simp only [Act.put, List.setIfInBounds_toArray, List.set_cons_zero, List.set_cons_succ]))
    refine Txt.done ?_
    have F2 := hide ((unhide F1).trans (((Below.refl _ _).drew).mono (unhide F1).size))
    go_wp2
    go_ret
    exact ⟨rfl, unhide F2⟩
end Go.Proofs.YtdcoknnjgpdigaaGreatDoor
