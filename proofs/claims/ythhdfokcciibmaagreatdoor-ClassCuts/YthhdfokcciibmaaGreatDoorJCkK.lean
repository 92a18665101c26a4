/- The landed class: handlers are written; writeSized. -/
import Derived.Test.YthhdfokcciibmaaGreatDoorJCkJ

namespace Go.Proofs.YthhdfokcciibmaaGreatDoor
open Go.RowKit
set_option linter.unusedVariables false
set_option maxRecDepth 100000

theorem hdB_eq (x : Hd) : [x.frm, x.to_, x.at_, x.cls].flatMap (bytesW 2) = hdB x := by simp [hdB]
theorem rightH_fits {l : List Ent} {x : Hd} (h : rightH l x = true) (hl : l.length ≤ 1024) : ∀ z ∈ [x.frm, x.to_, x.at_, x.cls], 0 ≤ z ∧ z ≤ 65535 := by
  unfold rightH in16 at h
  simp only [Bool.and_eq_true, decide_eq_true_eq] at h
  intro z hz
  simp at hz
  rcases hz with rfl | rfl | rfl | rfl <;> omega
set_option maxHeartbeats 3200000 in
theorem wCode1_any (C : Cx) (F : Nat → Prop) (w : World) (bs : List UInt8) (h : Wt C F w bs) (x : Hd) (hok : rightH C.l x = true) (hbs : bs.length ≤ 90000000) (bx : Nat) (hbx : w.cell? ⟨bx, 0, none⟩ = some (.pointer (some ⟨C.x, 0, none⟩)) ∧ w.cell? ⟨bx, 1, none⟩ = some (.pointer (some ⟨C.g, 0, none⟩))) :
    Calls Tryz.prog 125 #[.agg #[.int .i64 x.frm, .int .i64 x.to_, .int .i64 x.at_, .int .i64 x.cls], .pointer (some ⟨bx, 0, none⟩)] w fun e w' => e = .returned (.tuple #[]) ∧ WtTo C F w (bs ++ hdB x) w' := by
  obtain ⟨w1, e1, f1, K1⟩ := one_local w #[.int .i64 x.frm, .int .i64 x.to_, .int .i64 x.at_, .int .i64 x.cls] 93
  have hW1 := h.below f1
  have c0 := K1 w1 (Below.refl _ _) 0 _ rfl
  have c1 := K1 w1 (Below.refl _ _) 1 _ rfl
  have c2 := K1 w1 (Below.refl _ _) 2 _ rfl
  have c3 := K1 w1 (Below.refl _ _) 3 _ rfl
  have hfit := rightH_fits hok h.nm.len.2
  have HU := wt_u hW1 (W' := w1.alloc (.cells #[.int .i64 x.frm, .int .i64 x.to_, .int .i64 x.at_, .int .i64 x.cls] 3)) ((Below.refl _ _).alloc (Nat.le_refl _) _) [x.frm, x.to_, x.at_, x.cls] 4 2 rfl (fun j y hj => ints_at w1 [x.frm, x.to_, x.at_, x.cls] _ rfl j y hj) (by decide) (fun y hy => fz2 (hfit y hy)) (by omega) (by omega)
  rw [hdB_eq] at HU
  have b0 : w1.cell? ⟨bx, 0, none⟩ = some (.pointer (some ⟨C.x, 0, none⟩)) := (f1.cell (World.block_lt_of_cell? _ _ hbx.1)).trans hbx.1
  have HL1 : Hid (∀ bs' W, WtTo C F w1 bs' W → WtTo C F w bs' W) := fun bs' W hT => WtG.leave h f1 hT (fun j hj => .inl hj)
  have HU1 := hide HU
  have E1 := hide e1
  obtain ⟨x1, x2, x3, x4⟩ := x
  simp only at *
  generalize hdB ⟨x1, x2, x3, x4⟩ = hb at *
  clear h e1 hW1 HU K1 f1 hfit hok hbx
  have e1 := unhide E1
  go_enter Tryz.func125, Tryz.ntmps125
  go_wp2_with fail
  refine (unhide HU1).mono ?_
  rintro e w2 ⟨rfl, T2⟩
  have TT := hide (unhide HL1 _ _ T2)
  clear T2 HU1 e1
  go_wp2
  go_end0
  exact ⟨rfl, unhide TT⟩

set_option maxHeartbeats 6400000 in
theorem wlH_any (C : Cx) (F : Nat → Prop) (w : World) (bs : List UInt8) (h : Wt C F w bs) (s : Sl) (xs : List Hd) (M : Nat) (hL : ∀ W, (∃ bs', WtTo C F w bs' W) → Ls 4 hdc W s.a s.n xs) (hE : ∀ x ∈ xs, rightH C.l x = true) (hM : ∀ x ∈ xs, (hdB x).length ≤ M) (hn : s.n ≤ 65535) (hbs : bs.length + 2 + s.n * M ≤ 90000000) (bx : Nat) (hbox : ∀ W, (∃ bs', WtTo C F w bs' W) → W.cell? ⟨bx, 0, none⟩ = some (.pointer (some ⟨C.x, 0, none⟩)) ∧ W.cell? ⟨bx, 1, none⟩ = some (.pointer (some ⟨C.g, 0, none⟩))) :
    Calls Tryz.prog 124 #[C.v, s.v, .func (.func 125) #[] #[.pointer (some ⟨bx, 0, none⟩)]] w fun e w' => e = .returned (.tuple #[]) ∧ WtTo C F w (bs ++ (bytesW 2 (s.n : Int) ++ xs.flatMap (hdB))) w' := by
  obtain ⟨a, n, c⟩ := s
  simp only at hL hn hbs ⊢
  have hln := (hL w ⟨_, WtG.start h F⟩).1
  obtain ⟨w1, e1, f1, K1⟩ := one_local w #[.pointer (some ⟨C.x, 0, none⟩), .pointer (some ⟨C.g, 0, none⟩)] 106
  have hW1 := h.below f1
  have S1 := WtG.start hW1 F
  have c0 := K1 w1 (Below.refl _ _) 0 _ rfl
  have hlen : ∀ k, k ≤ n → ((xs.take k).flatMap (hdB)).length ≤ k * M := fun k => by
    induction k with
    | zero => intro _; simp
    | succ k ih =>
      intro hk
      obtain ⟨x, hx⟩ : ∃ x, xs[k]? = some x := ⟨_, List.getElem?_eq_getElem (by omega)⟩
      rw [List.take_add_one, hx, List.flatMap_append, List.length_append]
      have := ih (by omega)
      have := hM x (List.mem_of_getElem? hx)
      simp only [Option.toList, List.flatMap_cons, List.flatMap_nil, List.append_nil]
      rw [Nat.succ_mul]
      omega
  have HU : Hid (Calls Tryz.prog 57 #[.pointer (some ⟨C.x, 0, none⟩), .int .i64 2, .slice (some ⟨w1.heap.size, 0, none⟩) 1 1] (w1.alloc (.cells #[.int .i64 (n : Int)] 3)) fun e w' => e = .returned (.int .i64 0) ∧ WtTo C F w1 (bs ++ bytesW 2 (n : Int)) w') := by
    have := wt_u hW1 (W' := w1.alloc (.cells #[.int .i64 (n : Int)] 3)) ((Below.refl _ _).alloc (Nat.le_refl _) _) [(n : Int)] 1 2 rfl (fun j y hj => ints_at w1 [(n : Int)] _ rfl j y hj) (by decide) (fun y hy => by simp at hy; subst hy; exact fz2 (by omega)) (by omega) (by omega)
    exact hide (by simpa using this)
  have HL1 : Hid (∀ bs' W, WtTo C F w1 bs' W → WtTo C F w bs' W) := fun bs' W hT => WtG.leave h f1 hT (fun j hj => .inl hj)
  have HLL : Hid (∀ bs' W, WtTo C F w1 bs' W → Ls 4 hdc W a n xs) := fun bs' W hT => hL W ⟨_, unhide HL1 _ _ hT⟩
  have HO : Hid (∀ bs' W x, WtTo C F w1 bs' W → x ∈ xs → bs'.length ≤ 90000000 → Calls Tryz.prog 125 #[.agg #[.int .i64 x.frm, .int .i64 x.to_, .int .i64 x.at_, .int .i64 x.cls], .pointer (some ⟨bx, 0, none⟩)] W fun e w' => e = .returned (.tuple #[]) ∧ WtTo C F w1 (bs' ++ hdB x) w') := fun bs' W x hT hxm hb => by
    have hx := hE x hxm
    have hk5 := unhide HL1 _ _ hT
    exact hT.step (P := fun e => e = .returned (.tuple #[])) (fun _ h => h) (fun F1 hF1 => wCode1_any C F1 _ _ hF1 x hx hb bx (hbox _ ⟨_, hk5⟩))
  have HLEN := hide hlen
  have E1 := hide e1
  have SS1 := hide S1
  clear h e1 hW1 S1 hlen hL hE hM f1 K1 hbox
  unfold Cx.v Sl.v
  simp only
  have e1 := unhide E1
  go_enter Tryz.func124, Tryz.ntmps124
  go_wp2_with fail
  refine (unhide HU).mono ?_
  rintro e w2 ⟨rfl, T2⟩
  have TT2 := hide T2
  clear e1 T2 HU c0
  go_wp2
  go_loopw [16] (fun i wr => ∃ k : Nat, k ≤ n ∧ i = .int .i64 k ∧ WtTo C F w1 (bs ++ (bytesW 2 (n : Int) ++ (xs.take k).flatMap (hdB))) wr) (fun i _ => n - (intOf i).toNat)
  case atStart => exact ⟨0, by omega, rfl, by simpa using unhide TT2⟩
  case round =>
    obtain ⟨k, hk, rfl, hT⟩ := hrel
    by_cases hlt : k < n
    · have hlt1 : (k : Int) < (n : Int) := by omega
      have hk0 : (0 : Int) ≤ (k : Int) := by omega
      have hLs := unhide HLL _ _ hT
      obtain ⟨b1, o1, h1a, h1⟩ := Ls.row hLs (w' := wr) (by omega)
      subst h1a
      obtain ⟨x, hx1⟩ : ∃ x, xs[k]? = some x := ⟨_, List.getElem?_eq_getElem (by omega)⟩
      have q := h1 (Below.refl _ _) k x hx1
      have hstep : Hid (bs ++ (bytesW 2 (n : Int) ++ (xs.take (k + 1)).flatMap (hdB)) = (bs ++ (bytesW 2 (n : Int) ++ (xs.take k).flatMap (hdB))) ++ hdB x) := by
        show bs ++ (bytesW 2 (n : Int) ++ (xs.take (k + 1)).flatMap (hdB)) = _
        rw [List.take_add_one, hx1]
        simp
      have hbl : (bs ++ (bytesW 2 (n : Int) ++ (xs.take k).flatMap (hdB))).length ≤ 90000000 := by
        have := unhide HLEN k (by omega)
        have h2 : (bytesW 2 (n : Int)).length = 2 := bytesW_len _ _
        have h3 : k * M ≤ n * M := Nat.mul_le_mul_right _ (by omega)
        rw [List.length_append, List.length_append, h2]
        omega
      have hxm := List.mem_of_getElem? hx1
      have c0 := q.zero
      have c1 := q 1 _ rfl
      have c2 := q 2 _ rfl
      have c3 := q 3 _ rfl
      have HP := hide (unhide HO _ (wr.alloc (.cells #[.int .i64 x.frm, .int .i64 x.to_, .int .i64 x.at_, .int .i64 x.cls] 93)) _ (hT.below ((Below.refl _ _).alloc (Nat.le_refl _) _)) hxm hbl)
      clear q h1 hx1 hT hLs hbl hxm
      unfold Cx.v at HP
      try simp only [Sl.v] at HP hstep
      go_wp2_with fail
      refine (unhide HP).mono ?_
      rintro e w4 ⟨rfl, T4⟩
      have TT4 := hide T4
      clear HP T4
      go_wp2
      go_roundw
      case rel => exact ⟨k + 1, by omega, by go_num, by rw [unhide hstep]; exact unhide TT4⟩
      case measure => simp [intOf]; omega
    · obtain rfl : k = n := by omega
      rw [List.take_of_length_le (by omega)] at hT
      have TT := hide (unhide HL1 _ _ hT)
      clear hT
      go_wp2
      go_end0
      exact ⟨rfl, unhide TT⟩

set_option maxHeartbeats 1600000 in
theorem wSized_c (C : Cx) (F : Nat → Prop) (w : World) (bs : List UInt8) (h : Wt C F w bs) (b1 b2 : Nat) (Y : List UInt8) (hY : Y.length ≤ 200000) (hbs : bs.length ≤ 40000000) (hpart : ∀ W F1 bs1, WtTo C F w bs1 W → Wt C F1 W bs1 → bs1.length ≤ bs.length + 4 → Calls Tryz.prog 126 #[.pointer (some ⟨b1, 0, none⟩), .pointer (some ⟨b2, 0, none⟩)] W fun e w' => e = .returned (.tuple #[]) ∧ WtTo C F1 W (bs1 ++ Y) w') :
    Calls Tryz.prog 90 #[C.v, .func (.func 126) #[] #[.pointer (some ⟨b1, 0, none⟩), .pointer (some ⟨b2, 0, none⟩)]] w fun e w' => e = .returned (.tuple #[]) ∧ WtTo C F w (bs ++ (bytesW 4 (Y.length : Int) ++ Y)) w' := by
  obtain ⟨w1, e1, f1, K1⟩ := one_local w #[.pointer (some ⟨C.x, 0, none⟩), .pointer (some ⟨C.g, 0, none⟩)] 106
  have hW1 := h.below f1
  have S1 := WtG.start hW1 F
  obtain ⟨SS, hSS⟩ : ∃ SS : World → Prop, SS = fun W => ∃ bs', WtTo C F w1 bs' W := ⟨_, rfl⟩
  have KS : Hid (∀ W, SS W ↔ ∃ bs', WtTo C F w1 bs' W) := fun W => by rw [hSS]
  have KI : Hid (∀ W, SS W → W.cell? ⟨w.heap.size, 0, none⟩ = some (.pointer (some ⟨C.x, 0, none⟩))) := fun W hW => by
    rw [hSS] at hW
    obtain ⟨bs', hW⟩ := hW
    exact h.box f1 hW (Nat.le_refl _) (K1 w1 (Below.refl _ _) 0 _ rfl)
  have HU : Hid (Calls Tryz.prog 57 #[.pointer (some ⟨C.x, 0, none⟩), .int .i64 4, .slice (some ⟨w1.heap.size, 0, none⟩) 1 1] (w1.alloc (.cells #[.int .i64 0] 3)) fun e w' => e = .returned (.int .i64 0) ∧ WtTo C F w1 (bs ++ bytesW 4 0) w') := by
    have := wt_u hW1 (W' := w1.alloc (.cells #[.int .i64 0] 3)) ((Below.refl _ _).alloc (Nat.le_refl _) _) [0] 1 4 rfl (fun j y hj => ints_at w1 [0] _ rfl j y hj) (by decide) (fun y hy => by simp at hy; subst hy; exact fz4 (by omega)) (by omega) (by omega)
    exact hide (by simpa using this)
  have HLe : Hid (∀ W bs', WtTo C F w1 bs' W → Calls Tryz.prog 122 #[.pointer (some ⟨C.x, 0, none⟩)] W fun e w' => e = .returned (.int .i64 (bs'.length : Int)) ∧ WtTo C F w1 bs' w') := fun W bs' hT => by
    obtain ⟨F1, hF1, _⟩ := hT.ex
    refine (eLen_any F1 W C.B C.x bs' hF1.wr).mono ?_
    rintro e w' ⟨rfl, f⟩
    exact ⟨rfl, hT.below f⟩
  have h4 : (bytesW 4 0).length = 4 := bytesW_len _ _
  have hl4 : (bs ++ bytesW 4 0).length = bs.length + 4 := by rw [List.length_append, h4]
  have HP : Hid (∀ W, WtTo C F w1 (bs ++ bytesW 4 0) W → Calls Tryz.prog 126 #[.pointer (some ⟨b1, 0, none⟩), .pointer (some ⟨b2, 0, none⟩)] W fun e w' => e = .returned (.tuple #[]) ∧ WtTo C F w1 (bs ++ bytesW 4 0 ++ Y) w') := fun W hT => by
    have h0 := WtG.leave h f1 hT (fun j hj => .inl hj)
    exact hT.step (P := fun e => e = .returned (.tuple #[])) (fun _ h => h) (fun F1 hF1 => hpart W F1 _ h0 hF1 (by omega))
  have hpw : patchW (bs ++ bytesW 4 0 ++ Y) (bs.length : Int) 4 (Y.length : Int) = (bs ++ bytesW 4 (Y.length : Int) ++ Y, 0) := by
    unfold patchW
    rw [if_pos ⟨(fz4 (by omega)).1, by omega, by simp only [List.length_append, h4]; omega⟩]
    have e1 : (bs ++ bytesW 4 0 ++ Y).take bs.length = bs := by rw [List.append_assoc, List.take_left]
    have e2 : (bs ++ bytesW 4 0 ++ Y).drop (bs.length + 4) = Y := by rw [← hl4, List.drop_left]
    simp only [Int.toNat_natCast]
    rw [e1, show (4 : Int).toNat = 4 from rfl, e2]
  have HPa : Hid (∀ W, WtTo C F w1 (bs ++ bytesW 4 0 ++ Y) W → Calls Tryz.prog 123 #[.pointer (some ⟨C.x, 0, none⟩), .int .i64 (bs.length : Int), .int .i64 4, .int .i64 (Y.length : Int)] W fun e w' => e = .returned (.int .i64 0) ∧ WtTo C F w1 (bs ++ bytesW 4 (Y.length : Int) ++ Y) w') := fun W hT => by
    refine hT.step (P := fun e => e = .returned (.int .i64 0)) (fun _ h => h) (fun F1 hF1 => ?_)
    have h1 := ePatch_any F1 W C.B C.x _ (bs.length : Int) 4 (Y.length : Int) hF1.wr (by simp only [List.length_append, h4]; omega) (by omega) (by omega) (by omega)
    rw [hpw] at h1
    refine h1.mono ?_
    rintro e w' ⟨rfl, ⟨F', r1, r2⟩, r3⟩
    exact ⟨rfl, hF1.next r1 r2 r3⟩
  have HL1 : Hid (∀ bs' W, WtTo C F w1 bs' W → WtTo C F w bs' W) := fun bs' W hT => WtG.leave h f1 hT (fun j hj => .inl hj)
  have hlY : ((bs ++ bytesW 4 0 ++ Y).length : Int) = (bs.length : Int) + 4 + (Y.length : Int) := by simp only [List.length_append, h4]; omega
  have q0 := unhide KI w1 ((unhide KS w1).2 ⟨_, S1⟩)
  have E1 := hide e1
  have HLe1 : Hid (∀ W, WtTo C F w1 (bs ++ bytesW 4 0) W → Calls Tryz.prog 122 #[.pointer (some ⟨C.x, 0, none⟩)] W fun e w' => e = .returned (.int .i64 ((bs.length : Int) + 4)) ∧ WtTo C F w1 (bs ++ bytesW 4 0) w') := fun W hT => by
    have := unhide HLe W _ hT
    rw [hl4] at this
    exact this
  have HLe2 : Hid (∀ W, WtTo C F w1 (bs ++ bytesW 4 0 ++ Y) W → Calls Tryz.prog 122 #[.pointer (some ⟨C.x, 0, none⟩)] W fun e w' => e = .returned (.int .i64 ((bs.length : Int) + 4 + (Y.length : Int))) ∧ WtTo C F w1 (bs ++ bytesW 4 0 ++ Y) w') := fun W hT => by
    have := unhide HLe W _ hT
    rw [hlY] at this
    exact this
  clear h hSS K1 e1 hW1 S1 f1 HLe hpw hlY hl4 h4 hpart
  generalize bytesW 4 0 = z4 at *
  generalize hyl : (Y.length : Int) = yl at *
  generalize hbl : (bs.length : Int) = bl at *
  have hyb : 0 ≤ yl ∧ yl ≤ 200000 := by omega
  have hbb : 0 ≤ bl ∧ bl ≤ 40000000 := by omega
  have s1 : bl + 4 - 4 = bl := by omega
  have s2 : bl + 4 + yl - (bl + 4) = yl := by omega
  have t1 : IntKind.i64.wrap bl = bl := by rw [IntKind.wrap_i64]; omega
  have t2 : IntKind.i64.wrap yl = yl := by rw [IntKind.wrap_i64]; omega
  clear hyl hbl
  unfold Cx.v
  have e1 := unhide E1
  go_enter Tryz.func90, Tryz.ntmps90
  go_wp2_with fail
  refine (unhide HU).mono ?_
  rintro e w2 ⟨rfl, T2⟩
  have q2 := unhide KI w2 ((unhide KS w2).2 ⟨_, T2⟩)
  have HLc := hide (unhide HLe1 _ T2)
  clear e1 T2 HU q0
  go_wp2_with fail
  refine (unhide HLc).mono ?_
  rintro e w3 ⟨rfl, T3⟩
  have HPc := hide (unhide HP _ T3)
  clear HLc T3
  go_wp2_with fail
  refine (unhide HPc).mono ?_
  rintro e w4 ⟨rfl, T4⟩
  have TT4 := hide T4
  clear HPc T4 q2
  go_wp2
  refine wp_region_txt SS [6, 9] [0, 1, 2, 3, 4, 5, 7, 6, 8, 9] (by kernel_rfl) (by kernel_rfl) ((unhide KS _).2 ⟨_, (unhide TT4).below (Below.refl _ _).drew⟩) ?_
  repeat (first
    | (refine Txt.reads (v := ?_) (by rfl) (by rfl) (by rfl) ?_ ?_; rotate_left; (focus ((intro W hSW; have p0 := unhide KI W hSW; go_simp) <;> with_reducible rfl)); simp only [Act.put, List.setIfInBounds_toArray, List.set_cons_zero, List.set_cons_succ]))
  refine Txt.acts (by rfl) (by rfl) (by rfl) (fun K hK => ?_)
  go_simp
  refine (unhide HLe2 _ ((unhide TT4).below (Below.refl _ _).drew)).mono ?_
  rintro e w5 ⟨rfl, T5⟩
  refine hK.out _ _ ((unhide KS _).2 ⟨_, T5⟩) ?_
  have TT5 := hide T5
  clear hK K T5
  repeat (first
    | (refine Txt.reads (v := ?_) (by rfl) (by rfl) (by rfl) ?_ ?_; rotate_left; (focus ((intro W hSW; have p0 := unhide KI W hSW; go_simp) <;> with_reducible rfl)); simp only [Act.put, List.setIfInBounds_toArray, List.set_cons_zero, List.set_cons_succ]))
  refine Txt.acts (by rfl) (by rfl) (by rfl) (fun K hK => ?_)
  go_simp
  try rw [t1, t2]
  refine (unhide HPa _ (unhide TT5)).mono ?_
  rintro e w6 ⟨rfl, T6⟩
  refine hK.out _ _ ((unhide KS _).2 ⟨_, T6⟩) ?_
  clear hK K
  refine Txt.done ?_
  have TT := hide (unhide HL1 _ _ T6)
  clear T6
  go_wp2
  go_end0
  refine ⟨rfl, ?_⟩
  have := unhide TT
  rw [List.append_assoc] at this
  exact this

set_option maxHeartbeats 1600000 in
theorem wSized_m (C : Cx) (F : Nat → Prop) (w : World) (bs : List UInt8) (h : Wt C F w bs) (b1 b2 : Nat) (Y : List UInt8) (hY : Y.length ≤ 200000) (hbs : bs.length ≤ 40000000) (hpart : ∀ W F1 bs1, WtTo C F w bs1 W → Wt C F1 W bs1 → bs1.length ≤ bs.length + 4 → Calls Tryz.prog 91 #[.pointer (some ⟨b1, 0, none⟩), .pointer (some ⟨b2, 0, none⟩)] W fun e w' => e = .returned (.tuple #[]) ∧ WtTo C F1 W (bs1 ++ Y) w') :
    Calls Tryz.prog 90 #[C.v, .func (.func 91) #[] #[.pointer (some ⟨b1, 0, none⟩), .pointer (some ⟨b2, 0, none⟩)]] w fun e w' => e = .returned (.tuple #[]) ∧ WtTo C F w (bs ++ (bytesW 4 (Y.length : Int) ++ Y)) w' := by
  obtain ⟨w1, e1, f1, K1⟩ := one_local w #[.pointer (some ⟨C.x, 0, none⟩), .pointer (some ⟨C.g, 0, none⟩)] 106
  have hW1 := h.below f1
  have S1 := WtG.start hW1 F
  obtain ⟨SS, hSS⟩ : ∃ SS : World → Prop, SS = fun W => ∃ bs', WtTo C F w1 bs' W := ⟨_, rfl⟩
  have KS : Hid (∀ W, SS W ↔ ∃ bs', WtTo C F w1 bs' W) := fun W => by rw [hSS]
  have KI : Hid (∀ W, SS W → W.cell? ⟨w.heap.size, 0, none⟩ = some (.pointer (some ⟨C.x, 0, none⟩))) := fun W hW => by
    rw [hSS] at hW
    obtain ⟨bs', hW⟩ := hW
    exact h.box f1 hW (Nat.le_refl _) (K1 w1 (Below.refl _ _) 0 _ rfl)
  have HU : Hid (Calls Tryz.prog 57 #[.pointer (some ⟨C.x, 0, none⟩), .int .i64 4, .slice (some ⟨w1.heap.size, 0, none⟩) 1 1] (w1.alloc (.cells #[.int .i64 0] 3)) fun e w' => e = .returned (.int .i64 0) ∧ WtTo C F w1 (bs ++ bytesW 4 0) w') := by
    have := wt_u hW1 (W' := w1.alloc (.cells #[.int .i64 0] 3)) ((Below.refl _ _).alloc (Nat.le_refl _) _) [0] 1 4 rfl (fun j y hj => ints_at w1 [0] _ rfl j y hj) (by decide) (fun y hy => by simp at hy; subst hy; exact fz4 (by omega)) (by omega) (by omega)
    exact hide (by simpa using this)
  have HLe : Hid (∀ W bs', WtTo C F w1 bs' W → Calls Tryz.prog 122 #[.pointer (some ⟨C.x, 0, none⟩)] W fun e w' => e = .returned (.int .i64 (bs'.length : Int)) ∧ WtTo C F w1 bs' w') := fun W bs' hT => by
    obtain ⟨F1, hF1, _⟩ := hT.ex
    refine (eLen_any F1 W C.B C.x bs' hF1.wr).mono ?_
    rintro e w' ⟨rfl, f⟩
    exact ⟨rfl, hT.below f⟩
  have h4 : (bytesW 4 0).length = 4 := bytesW_len _ _
  have hl4 : (bs ++ bytesW 4 0).length = bs.length + 4 := by rw [List.length_append, h4]
  have HP : Hid (∀ W, WtTo C F w1 (bs ++ bytesW 4 0) W → Calls Tryz.prog 91 #[.pointer (some ⟨b1, 0, none⟩), .pointer (some ⟨b2, 0, none⟩)] W fun e w' => e = .returned (.tuple #[]) ∧ WtTo C F w1 (bs ++ bytesW 4 0 ++ Y) w') := fun W hT => by
    have h0 := WtG.leave h f1 hT (fun j hj => .inl hj)
    exact hT.step (P := fun e => e = .returned (.tuple #[])) (fun _ h => h) (fun F1 hF1 => hpart W F1 _ h0 hF1 (by omega))
  have hpw : patchW (bs ++ bytesW 4 0 ++ Y) (bs.length : Int) 4 (Y.length : Int) = (bs ++ bytesW 4 (Y.length : Int) ++ Y, 0) := by
    unfold patchW
    rw [if_pos ⟨(fz4 (by omega)).1, by omega, by simp only [List.length_append, h4]; omega⟩]
    have e1 : (bs ++ bytesW 4 0 ++ Y).take bs.length = bs := by rw [List.append_assoc, List.take_left]
    have e2 : (bs ++ bytesW 4 0 ++ Y).drop (bs.length + 4) = Y := by rw [← hl4, List.drop_left]
    simp only [Int.toNat_natCast]
    rw [e1, show (4 : Int).toNat = 4 from rfl, e2]
  have HPa : Hid (∀ W, WtTo C F w1 (bs ++ bytesW 4 0 ++ Y) W → Calls Tryz.prog 123 #[.pointer (some ⟨C.x, 0, none⟩), .int .i64 (bs.length : Int), .int .i64 4, .int .i64 (Y.length : Int)] W fun e w' => e = .returned (.int .i64 0) ∧ WtTo C F w1 (bs ++ bytesW 4 (Y.length : Int) ++ Y) w') := fun W hT => by
    refine hT.step (P := fun e => e = .returned (.int .i64 0)) (fun _ h => h) (fun F1 hF1 => ?_)
    have h1 := ePatch_any F1 W C.B C.x _ (bs.length : Int) 4 (Y.length : Int) hF1.wr (by simp only [List.length_append, h4]; omega) (by omega) (by omega) (by omega)
    rw [hpw] at h1
    refine h1.mono ?_
    rintro e w' ⟨rfl, ⟨F', r1, r2⟩, r3⟩
    exact ⟨rfl, hF1.next r1 r2 r3⟩
  have HL1 : Hid (∀ bs' W, WtTo C F w1 bs' W → WtTo C F w bs' W) := fun bs' W hT => WtG.leave h f1 hT (fun j hj => .inl hj)
  have hlY : ((bs ++ bytesW 4 0 ++ Y).length : Int) = (bs.length : Int) + 4 + (Y.length : Int) := by simp only [List.length_append, h4]; omega
  have q0 := unhide KI w1 ((unhide KS w1).2 ⟨_, S1⟩)
  have E1 := hide e1
  have HLe1 : Hid (∀ W, WtTo C F w1 (bs ++ bytesW 4 0) W → Calls Tryz.prog 122 #[.pointer (some ⟨C.x, 0, none⟩)] W fun e w' => e = .returned (.int .i64 ((bs.length : Int) + 4)) ∧ WtTo C F w1 (bs ++ bytesW 4 0) w') := fun W hT => by
    have := unhide HLe W _ hT
    rw [hl4] at this
    exact this
  have HLe2 : Hid (∀ W, WtTo C F w1 (bs ++ bytesW 4 0 ++ Y) W → Calls Tryz.prog 122 #[.pointer (some ⟨C.x, 0, none⟩)] W fun e w' => e = .returned (.int .i64 ((bs.length : Int) + 4 + (Y.length : Int))) ∧ WtTo C F w1 (bs ++ bytesW 4 0 ++ Y) w') := fun W hT => by
    have := unhide HLe W _ hT
    rw [hlY] at this
    exact this
  clear h hSS K1 e1 hW1 S1 f1 HLe hpw hlY hl4 h4 hpart
  generalize bytesW 4 0 = z4 at *
  generalize hyl : (Y.length : Int) = yl at *
  generalize hbl : (bs.length : Int) = bl at *
  have hyb : 0 ≤ yl ∧ yl ≤ 200000 := by omega
  have hbb : 0 ≤ bl ∧ bl ≤ 40000000 := by omega
  have s1 : bl + 4 - 4 = bl := by omega
  have s2 : bl + 4 + yl - (bl + 4) = yl := by omega
  have t1 : IntKind.i64.wrap bl = bl := by rw [IntKind.wrap_i64]; omega
  have t2 : IntKind.i64.wrap yl = yl := by rw [IntKind.wrap_i64]; omega
  clear hyl hbl
  unfold Cx.v
  have e1 := unhide E1
  go_enter Tryz.func90, Tryz.ntmps90
  go_wp2_with fail
  refine (unhide HU).mono ?_
  rintro e w2 ⟨rfl, T2⟩
  have q2 := unhide KI w2 ((unhide KS w2).2 ⟨_, T2⟩)
  have HLc := hide (unhide HLe1 _ T2)
  clear e1 T2 HU q0
  go_wp2_with fail
  refine (unhide HLc).mono ?_
  rintro e w3 ⟨rfl, T3⟩
  have HPc := hide (unhide HP _ T3)
  clear HLc T3
  go_wp2_with fail
  refine (unhide HPc).mono ?_
  rintro e w4 ⟨rfl, T4⟩
  have TT4 := hide T4
  clear HPc T4 q2
  go_wp2
  refine wp_region_txt SS [6, 9] [0, 1, 2, 3, 4, 5, 7, 6, 8, 9] (by kernel_rfl) (by kernel_rfl) ((unhide KS _).2 ⟨_, (unhide TT4).below (Below.refl _ _).drew⟩) ?_
  repeat (first
    | (refine Txt.reads (v := ?_) (by rfl) (by rfl) (by rfl) ?_ ?_; rotate_left; (focus ((intro W hSW; have p0 := unhide KI W hSW; go_simp) <;> with_reducible rfl)); simp only [Act.put, List.setIfInBounds_toArray, List.set_cons_zero, List.set_cons_succ]))
  refine Txt.acts (by rfl) (by rfl) (by rfl) (fun K hK => ?_)
  go_simp
  refine (unhide HLe2 _ ((unhide TT4).below (Below.refl _ _).drew)).mono ?_
  rintro e w5 ⟨rfl, T5⟩
  refine hK.out _ _ ((unhide KS _).2 ⟨_, T5⟩) ?_
  have TT5 := hide T5
  clear hK K T5
  repeat (first
    | (refine Txt.reads (v := ?_) (by rfl) (by rfl) (by rfl) ?_ ?_; rotate_left; (focus ((intro W hSW; have p0 := unhide KI W hSW; go_simp) <;> with_reducible rfl)); simp only [Act.put, List.setIfInBounds_toArray, List.set_cons_zero, List.set_cons_succ]))
  refine Txt.acts (by rfl) (by rfl) (by rfl) (fun K hK => ?_)
  go_simp
  try rw [t1, t2]
  refine (unhide HPa _ (unhide TT5)).mono ?_
  rintro e w6 ⟨rfl, T6⟩
  refine hK.out _ _ ((unhide KS _).2 ⟨_, T6⟩) ?_
  clear hK K
  refine Txt.done ?_
  have TT := hide (unhide HL1 _ _ T6)
  clear T6
  go_wp2
  go_end0
  refine ⟨rfl, ?_⟩
  have := unhide TT
  rw [List.append_assoc] at this
  exact this

end Go.Proofs.YthhdfokcciibmaaGreatDoor
