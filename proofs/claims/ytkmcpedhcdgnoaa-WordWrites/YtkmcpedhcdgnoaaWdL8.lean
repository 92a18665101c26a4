/- The landed word: the writer's U, S, Patch (written by mk/mkword8.py); words. -/
import Derived.Test.YtkmcpedhcdgnoaaWdL7
namespace Go.Proofs.Ytkmcpedhcdgnoaa
open Go.RowKit
set_option linter.unusedVariables false

set_option maxHeartbeats 3200000 in
theorem ewriteS_any (w : World) (B x y d : Nat) (bs : List UInt8) (k : Int) (a : Option Addr) (n c : Nat) (zs : List Int)
    (h : Sp 62 w B x y d bs bs.length) (hl : Nums w a n zs) (hfar : ∀ b o, a = some ⟨b, o, none⟩ → 0 < n → b ≠ x ∧ b ≠ y) (hz : ∀ z ∈ zs, -9223372036854775808 ≤ z ∧ z ≤ 9223372036854775807) (hs : bs.length + 8 * n ≤ 140737488351232) (hk : -9223372036854775808 ≤ k ∧ k ≤ 9223372036854775807) :
    Calls Try.prog 39 #[.pointer (some ⟨x, 0, none⟩), .func (.func 41) #[] #[], .int .i64 k, .slice a n c] w fun e w' => e = .returned (.int .i64 (putW bs k true zs).2) ∧ WEnd w B x y (putW bs k true zs).1 w' := by
  have HM := hide (emade_any w B x y d bs _ h)
  have HW := hide (disSize_any w k)
  have HK : Hid (WEnd w B x y bs w) := ⟨⟨y, d, h, .inl rfl⟩, Below.refl _ _, fun _ _ _ _ => rfl⟩
  by_cases hw : wide k
  · rw [decide_eq_true hw] at HW
    obtain ⟨m, rfl, hm⟩ := wide_nat hw
    have HF := hide (fun W z hz => dfitsS_any W (m : Int) z hw hz)
    have HS := hide (WN.start h m zs)
    have hzl := hl.1
    have HL := hide hl
    clear h hw hl
    go_enter Try.func39, Try.ntmps39
    go_wp2_with fail
    refine (unhide HM).mono ?_
    rintro e w1 ⟨rfl, e0⟩
    have e0' := e0.symm
    clear e0
    subst e0'
    go_wp2_with fail
    refine (unhide HW).mono ?_
    rintro e w1 ⟨rfl, e0⟩
    have e0' := e0.symm
    clear e0
    subst e0'
    clear HM HW
    go_wp2
    go_loopw [21] (fun q wr => ∃ i : Nat, i ≤ n ∧ q = .int .i64 i ∧ (∀ j z, j < i → zs[j]? = some z → fitsW m z true) ∧ wr = w) (fun q _ => n - (intOf q).toNat)
    case atStart => exact ⟨0, by omega, rfl, fun j z hj => by omega, rfl⟩
    case round =>
      obtain ⟨i, hi, rfl, hall, e0⟩ := hrel
      have e0' := e0.symm
      clear e0
      subst e0'
      by_cases hlt : i < n
      · have hlt1 : (i : Int) < (n : Int) := by omega
        obtain ⟨z, hzi⟩ : ∃ z, zs[i]? = some z := ⟨_, List.getElem?_eq_getElem (by omega)⟩
        obtain ⟨b, o, rfl, hcs⟩ := (unhide HL).2.resolve_left (by omega)
        have cz := hcs i z hzi
        have HF1 := hide (unhide HF w z (hz z (List.mem_of_getElem? hzi)))
        have hnb : (n : Int) ≤ 140737488351232 := by omega
        by_cases hfit : fitsW m z true
        · rw [decide_eq_true hfit] at HF1
          have HALL : Hid (∀ j z, j < i + 1 → zs[j]? = some z → fitsW m z true) := fun j z' hj hz' => by
            by_cases hji : j = i
            · subst hji
              rw [hzi] at hz'
              injection hz' with hz'
              subst hz'
              exact hfit
            · exact hall j z' (by omega) hz'
          clear hall hfit hcs HF HL HS HK hz
          go_wp2_with fail
          refine (unhide HF1).mono ?_
          rintro e w1 ⟨rfl, rfl⟩
          go_wp2
          go_roundw
          case rel => exact ⟨i + 1, by omega, by go_num, unhide HALL, by first | rfl | trivial⟩
          case measure => simp [intOf]; omega
        · rw [decide_eq_false hfit] at HF1
          have e1 : Hid (putW bs m true zs = (bs, 2)) := putW_no (fun h => hfit (h.2 z (List.mem_of_getElem? hzi)))
          clear hall hfit hcs HF HL HS hz
          go_wp2_with fail
          refine (unhide HF1).mono ?_
          rintro e w1 ⟨rfl, rfl⟩
          go_wp2
          go_ret
          rw [unhide e1]
          exact ⟨rfl, unhide HK⟩
      · obtain rfl : i = n := by omega
        have e1 : Hid (putW bs m true zs = (bs ++ zs.flatMap (bytesW m), 0)) := putW_ok (by rcases hm with rfl | rfl | rfl | rfl <;> (unfold wide; omega)) (fun z hz => by
          obtain ⟨j, hj⟩ := List.mem_iff_getElem?.1 hz
          exact hall j z (by have := (List.getElem?_eq_some_iff.1 hj).1; omega) hj)
        clear hall HF HK
        go_wp2
        go_loopw [33] (fun q W => ∃ j : Nat, j ≤ i ∧ q = .int .i64 j ∧ WN w B x y m bs zs j W) (fun q _ => i - (intOf q).toNat)
        case atStart => exact ⟨0, by omega, rfl, unhide HS⟩
        case round =>
          obtain ⟨j, hj, rfl, hN⟩ := hrel
          by_cases hlt2 : j < i
          · have hlt1 : (j : Int) < (i : Int) := by omega
            obtain ⟨z, hzi⟩ : ∃ z, zs[j]? = some z := ⟨_, List.getElem?_eq_getElem (by omega)⟩
            obtain ⟨b, o, rfl, hcs⟩ := (unhide HL).2.resolve_left (by omega)
            have cz0 := hcs j z hzi
            have hbf := hfar b o rfl (by omega)
            have cz := (World.cell?_of_block (a := ⟨b, o + j, none⟩) (hN.oth b (World.block_lt_of_cell? w _ cz0) hbf.1 hbf.2)).trans cz0
            have HC := hide (hN.call hm hzi (hz z (List.mem_of_getElem? hzi)) (by omega))
            have hnb : (i : Int) ≤ 140737488351232 := by omega
            clear hN hcs cz0 hbf HL HS hz hfar e1 hm
            go_wp2_with fail
            refine (unhide HC).mono ?_
            rintro e w1 ⟨rfl, hN1⟩
            have HN1 := hide hN1
            clear HC hN1 cz
            go_wp2
            go_roundw
            case rel => exact ⟨j + 1, by omega, by go_num, unhide HN1⟩
            case measure => simp [intOf]; omega
          · obtain rfl : j = i := by omega
            have ht : zs.take j = zs := List.take_of_length_le (by omega)
            have HN : Hid (WEnd w B x y (bs ++ zs.flatMap (bytesW m)) wr) := by
              obtain ⟨h1, h2, h3⟩ := hN
              rw [ht] at h1
              exact ⟨h1, h2, h3⟩
            clear hN HS HL hz hfar
            go_wp2
            go_ret
            rw [unhide e1]
            exact ⟨rfl, unhide HN⟩
  · rw [decide_eq_false hw] at HW
    have e1 : Hid (putW bs k true zs = (bs, 2)) := putW_no (fun h => hw h.1)
    clear h hw
    go_enter Try.func39, Try.ntmps39
    go_wp2_with fail
    refine (unhide HM).mono ?_
    rintro e w1 ⟨rfl, e0⟩
    have e0' := e0.symm
    clear e0
    subst e0'
    go_wp2_with fail
    refine (unhide HW).mono ?_
    rintro e w1 ⟨rfl, e0⟩
    have e0' := e0.symm
    clear e0
    subst e0'
    go_wp2
    go_ret
    rw [unhide e1]
    exact ⟨rfl, unhide HK⟩

set_option maxHeartbeats 1600000 in
theorem eU_any (F : Nat → Prop) (w : World) (B x : Nat) (bs : List UInt8) (k : Int) (a : Option Addr) (n c : Nat) (zs : List Int) (h : WR F w B x bs) (hl : Nums w a n zs) (hfar : ∀ b o, a = some ⟨b, o, none⟩ → 0 < n → ¬ F b) (hz : ∀ z ∈ zs, -9223372036854775808 ≤ z ∧ z ≤ 9223372036854775807) (hs : bs.length + 8 * n ≤ 140737488351232) (hk : -9223372036854775808 ≤ k ∧ k ≤ 9223372036854775807) :
    Calls Try.prog 21 #[.pointer (some ⟨x, 0, none⟩), .int .i64 k, .slice a n c] w fun e w' => e = .returned (.int .i64 (putW bs k false zs).2) ∧ (∃ F', WR F' w' B x (putW bs k false zs).1 ∧ ∀ j, F' j → F j ∨ w.heap.size ≤ j) ∧ Fr6 F B w w' := by
  obtain ⟨y, d, rfl, h⟩ := h
  have H := hide (ewriteU_any w B x y d bs k a n c zs h hl (fun b o e hn => ⟨fun e1 => hfar b o e hn (.inl e1), fun e1 => hfar b o e hn (.inr e1)⟩) hz hs hk)
  clear h hl hfar hz
  go_enter Try.func21, Try.ntmps21
  go_wp2_with fail
  refine (unhide H).mono ?_
  rintro e w1 ⟨rfl, r⟩
  have R := hide r
  clear r H
  go_wp2
  go_ret
  obtain ⟨⟨y', c', h1, h2⟩, h3, h4⟩ := unhide R
  refine ⟨rfl, ⟨_, ⟨y', c', rfl, h1⟩, fun j hj => ?_⟩, h3, fun k hk hF => h4 k hk (fun e => hF (.inl e)) (fun e => hF (.inr e))⟩
  rcases hj with e | e
  · exact .inl (.inl e)
  · rcases h2 with e2 | e2
    · exact .inl (.inr (e.trans e2))
    · right
      omega

set_option maxHeartbeats 1600000 in
theorem eS_any (F : Nat → Prop) (w : World) (B x : Nat) (bs : List UInt8) (k : Int) (a : Option Addr) (n c : Nat) (zs : List Int) (h : WR F w B x bs) (hl : Nums w a n zs) (hfar : ∀ b o, a = some ⟨b, o, none⟩ → 0 < n → ¬ F b) (hz : ∀ z ∈ zs, -9223372036854775808 ≤ z ∧ z ≤ 9223372036854775807) (hs : bs.length + 8 * n ≤ 140737488351232) (hk : -9223372036854775808 ≤ k ∧ k ≤ 9223372036854775807) :
    Calls Try.prog 24 #[.pointer (some ⟨x, 0, none⟩), .int .i64 k, .slice a n c] w fun e w' => e = .returned (.int .i64 (putW bs k true zs).2) ∧ (∃ F', WR F' w' B x (putW bs k true zs).1 ∧ ∀ j, F' j → F j ∨ w.heap.size ≤ j) ∧ Fr6 F B w w' := by
  obtain ⟨y, d, rfl, h⟩ := h
  have H := hide (ewriteS_any w B x y d bs k a n c zs h hl (fun b o e hn => ⟨fun e1 => hfar b o e hn (.inl e1), fun e1 => hfar b o e hn (.inr e1)⟩) hz hs hk)
  clear h hl hfar hz
  go_enter Try.func24, Try.ntmps24
  go_wp2_with fail
  refine (unhide H).mono ?_
  rintro e w1 ⟨rfl, r⟩
  have R := hide r
  clear r H
  go_wp2
  go_ret
  obtain ⟨⟨y', c', h1, h2⟩, h3, h4⟩ := unhide R
  refine ⟨rfl, ⟨_, ⟨y', c', rfl, h1⟩, fun j hj => ?_⟩, h3, fun k hk hF => h4 k hk (fun e => hF (.inl e)) (fun e => hF (.inr e))⟩
  rcases hj with e | e
  · exact .inl (.inl e)
  · rcases h2 with e2 | e2
    · exact .inl (.inr (e.trans e2))
    · right
      omega

set_option maxHeartbeats 3200000 in
set_option maxRecDepth 100000 in
theorem ePatch_any (F : Nat → Prop) (w : World) (B x : Nat) (bs : List UInt8) (at_ k n : Int) (h : WR F w B x bs) (hs : bs.length ≤ 140737488351232) (ha : -9223372036854775808 ≤ at_ ∧ at_ ≤ 9223372036854775807) (hk : -9223372036854775808 ≤ k ∧ k ≤ 9223372036854775807) (hn : -9223372036854775808 ≤ n ∧ n ≤ 9223372036854775807) :
    Calls Try.prog 26 #[.pointer (some ⟨x, 0, none⟩), .int .i64 at_, .int .i64 k, .int .i64 n] w fun e w' => e = .returned (.int .i64 (patchW bs at_ k n).2) ∧ (∃ F', WR F' w' B x (patchW bs at_ k n).1 ∧ ∀ j, F' j → F j ∨ w.heap.size ≤ j) ∧ Fr6 F B w w' := by
  obtain ⟨y, d, rfl, h⟩ := h
  have HM := hide (emade_any w B x y d bs _ h)
  have HW := hide (disSize_any w k)
  have hBw : B ≤ w.heap.size := Nat.le_trans h.hx (Nat.le_of_lt h.xlt)
  have HK : Hid ((∃ F', WR F' w B x bs ∧ ∀ j, F' j → (j = x ∨ j = y) ∨ w.heap.size ≤ j) ∧ Fr6 (fun k => k = x ∨ k = y) B w w) := ⟨⟨_, ⟨y, d, rfl, h⟩, fun j hj => .inl hj⟩, Fr6.of_below (Below.refl _ _) hBw⟩
  have c0 := h.c0
  have c1 := h.c1
  by_cases hw : wide k
  case neg =>
    rw [decide_eq_false hw] at HW
    have e1 : Hid (patchW bs at_ k n = (bs, 2)) := if_neg (fun h => hw h.1.1)
    clear h hw
    generalize bs.length = N at *
    go_enter Try.func26, Try.ntmps26
    go_wp2_with fail
    refine (unhide HM).mono ?_
    rintro e w1 ⟨rfl, e0⟩
    have e0' := e0.symm
    clear e0
    subst e0'
    clear HM
    go_wp2_with fail
    refine (unhide HW).mono ?_
    rintro e w1 ⟨rfl, e0⟩
    have e0' := e0.symm
    clear e0
    subst e0'
    clear HW
    go_wp2
    go_ret
    rw [unhide e1]
    exact ⟨rfl, unhide HK⟩
  rw [decide_eq_true hw] at HW
  have HF := hide (dfitsU_any w k n hw hn)
  by_cases hf : fitsW k n false
  case neg =>
    rw [decide_eq_false hf] at HF
    have e1 : Hid (patchW bs at_ k n = (bs, 2)) := if_neg (fun h => hf h.1)
    clear h hw hf
    generalize bs.length = N at *
    go_enter Try.func26, Try.ntmps26
    go_wp2_with fail
    refine (unhide HM).mono ?_
    rintro e w1 ⟨rfl, e0⟩
    have e0' := e0.symm
    clear e0
    subst e0'
    clear HM
    go_wp2_with fail
    refine (unhide HW).mono ?_
    rintro e w1 ⟨rfl, e0⟩
    have e0' := e0.symm
    clear e0
    subst e0'
    clear HW
    go_wp2_with fail
    refine (unhide HF).mono ?_
    rintro e w1 ⟨rfl, e0⟩
    have e0' := e0.symm
    clear e0
    subst e0'
    clear HF
    go_wp2
    go_ret
    rw [unhide e1]
    exact ⟨rfl, unhide HK⟩
  rw [decide_eq_true hf] at HF
  by_cases h0 : at_ < 0
  case pos =>
    have e1 : Hid (patchW bs at_ k n = (bs, 2)) := if_neg (fun h => by have := h.2.1; omega)
    clear h hw hf
    generalize bs.length = N at *
    go_enter Try.func26, Try.ntmps26
    go_wp2_with fail
    refine (unhide HM).mono ?_
    rintro e w1 ⟨rfl, e0⟩
    have e0' := e0.symm
    clear e0
    subst e0'
    clear HM
    go_wp2_with fail
    refine (unhide HW).mono ?_
    rintro e w1 ⟨rfl, e0⟩
    have e0' := e0.symm
    clear e0
    subst e0'
    clear HW
    go_wp2_with fail
    refine (unhide HF).mono ?_
    rintro e w1 ⟨rfl, e0⟩
    have e0' := e0.symm
    clear e0
    subst e0'
    clear HF
    go_wp2
    go_ret
    rw [unhide e1]
    exact ⟨rfl, unhide HK⟩
  obtain ⟨m, rfl, hm⟩ := wide_nat hw
  obtain ⟨i, rfl⟩ : ∃ i : Nat, at_ = i := ⟨at_.toNat, by omega⟩
  have y1 : IntKind.i64.wrap ((bs.length : Int) - (m : Int)) = (bs.length : Int) - (m : Int) := by rw [IntKind.wrap_i64]; omega
  have y2 : (m : Int) ≤ 8 := by omega
  have y3 : (bs.length : Int) ≤ 140737488351232 := by omega
  by_cases h1 : (bs.length : Int) - (m : Int) < (i : Int)
  case pos =>
    have e1 : Hid (patchW bs (i : Int) (m : Int) n = (bs, 2)) := if_neg (fun h => by have := h.2.2; omega)
    clear h hw hf
    generalize bs.length = N at *
    go_enter Try.func26, Try.ntmps26
    go_wp2_with fail
    refine (unhide HM).mono ?_
    rintro e w1 ⟨rfl, e0⟩
    have e0' := e0.symm
    clear e0
    subst e0'
    clear HM
    go_wp2_with fail
    refine (unhide HW).mono ?_
    rintro e w1 ⟨rfl, e0⟩
    have e0' := e0.symm
    clear e0
    subst e0'
    clear HW
    go_wp2_with fail
    refine (unhide HF).mono ?_
    rintro e w1 ⟨rfl, e0⟩
    have e0' := e0.symm
    clear e0
    subst e0'
    clear HF
    go_wp2
    go_ret
    rw [unhide e1]
    exact ⟨rfl, unhide HK⟩
  case neg =>
    have e1 : Hid (patchW bs (i : Int) (m : Int) n = (ovr bs i (bytesW m n), 0)) := by
      show patchW bs (i : Int) (m : Int) n = _
      unfold patchW
      rw [if_pos ⟨hf, by omega, by omega⟩]
      unfold ovr
      rw [bytesW_len, Int.toNat_natCast, Int.toNat_natCast]
    have him : i + m ≤ bs.length := by omega
    have b2 : Below w.heap.size w (w.alloc (.cells #[.slice (some ⟨y, 0, none⟩) bs.length d, .int .i64 (i : Int)] 59)) := (Below.refl _ _).alloc (Nat.le_refl _) _
    have hl0 := heap_alloc_last w (.cells #[.slice (some ⟨y, 0, none⟩) bs.length d, .int .i64 (i : Int)] 59)
    have hyl := h.y
    have s2 : Sp 59 (w.alloc (.cells #[.slice (some ⟨y, 0, none⟩) bs.length d, .int .i64 (i : Int)] 59)) B w.heap.size y d bs i := ⟨hBw, by omega, hl0, own_below h.row b2⟩
    have HP := hide (dputN_any 59 _ B w.heap.size y d i m bs s2 (by omega) hm n hn (by omega))
    have HEND : Hid (∀ W, PN 59 (w.alloc (.cells #[.slice (some ⟨y, 0, none⟩) bs.length d, .int .i64 (i : Int)] 59)) B w.heap.size y d i m bs n m W → (∃ F', WR F' W B x (ovr bs i (bytesW m n)) ∧ ∀ j, F' j → (j = x ∨ j = y) ∨ w.heap.size ≤ j) ∧ Fr6 (fun k => k = x ∨ k = y) B w W) := fun W r => by
      obtain ⟨y', c', h2, _, h3⟩ := r.sp
      obtain ⟨rfl, rfl⟩ := h3 him
      have hfull : (bytesW m n).take m = bytesW m n := List.take_of_length_le (by rw [bytesW_len, Int.toNat_natCast]; omega)
      rw [hfull] at h2
      have hlen : (ovr bs i (bytesW m n)).length = bs.length := by rw [ovr_len bs i _ (by omega), bytesW_len, Int.toNat_natCast]; omega
      have hxl := h.xlt
      have hsz2 := b2.size
      have hoth : ∀ q, q < w.heap.size → q ≠ y' → W.heap[q]? = w.heap[q]? := fun q hq hy => (r.oth q (by omega) (by omega) hy).trans (b2.block q hq)
      have hblk : W.heap[x]? = _ := (hoth x hxl h.ne).trans h.blk
      refine ⟨⟨_, ⟨y', c', rfl, h.hx, h.ne, ?_, h2.row⟩, fun j hj => .inl hj⟩, (b2.mono hBw).trans r.bel, fun q hq hF => hoth q hq (fun e => hF (.inr e))⟩
      rw [hlen]
      exact hblk
    clear h hw hf hl0 b2 s2 hyl
    generalize bs.length = N at *
    go_enter Try.func26, Try.ntmps26
    go_wp2_with fail
    refine (unhide HM).mono ?_
    rintro e w1 ⟨rfl, e0⟩
    have e0' := e0.symm
    clear e0
    subst e0'
    clear HM
    go_wp2_with fail
    refine (unhide HW).mono ?_
    rintro e w1 ⟨rfl, e0⟩
    have e0' := e0.symm
    clear e0
    subst e0'
    clear HW
    go_wp2_with fail
    refine (unhide HF).mono ?_
    rintro e w1 ⟨rfl, e0⟩
    have e0' := e0.symm
    clear e0
    subst e0'
    clear HF
    go_wp2_with fail
    refine (unhide HP).mono ?_
    rintro e w2 ⟨rfl, r⟩
    have R := hide (unhide HEND w2 r)
    clear r HEND HP
    go_wp2
    go_ret
    rw [unhide e1]
    exact ⟨rfl, unhide R⟩

theorem words : Words RD WR where
  rkeep := by
    rintro F w w' B x bs i ⟨y, c, rfl, h⟩ hk _
    exact ⟨y, c, rfl, h.keep (hk x (.inl rfl)) (hk y (.inr rfl))⟩
  rlt := by
    rintro F w B x bs i ⟨y, c, rfl, h⟩ k hk
    rcases hk with rfl | rfl
    · exact ⟨h.hx, h.xlt⟩
    · exact h.y
  rbase := by
    rintro F w B B' x bs i ⟨y, c, rfl, h⟩ hB
    exact ⟨y, c, rfl, h.base hB⟩
  wkeep := by
    rintro F w w' B x bs ⟨y, c, rfl, h⟩ hk _
    exact ⟨y, c, rfl, h.keep (hk x (.inl rfl)) (hk y (.inr rfl))⟩
  wlt := by
    rintro F w B x bs ⟨y, c, rfl, h⟩ k hk
    rcases hk with rfl | rfl
    · exact ⟨h.hx, h.xlt⟩
    · exact h.y
  wbase := by
    rintro F w B B' x bs ⟨y, c, rfl, h⟩ hB
    exact ⟨y, c, rfl, h.base hB⟩
  read := fun w a n c bs h hn => dRead_any w a n c bs h hn
  ru := fun F w B x bs i k h hs hi hk => dU_any F w B x bs i k h hs hi hk
  rs := fun F w B x bs i k h hs hi hk => dS_any F w B x bs i k h hs hi hk
  rbytes := fun F w B x bs i n h hs hi hn => dBytes_any F w B x bs i n h hs hi hn
  rat := fun F w B x bs i h hi hs => dAt_any F w B x bs i h
  rleft := fun F w B x bs i h hi hs => dLeft_any F w B x bs i h hi hs
  make := eMake_any
  wu := fun F w B x bs k a n c zs h hl hf hz hs hk => eU_any F w B x bs k a n c zs h hl hf hz hs hk
  ws := fun F w B x bs k a n c zs h hl hf hz hs hk => eS_any F w B x bs k a n c zs h hl hf hz hs hk
  wbytes := fun F w B x bs a n c ys h hb hf hs => eBytes_any F w B x bs a n c ys h hb hf hs
  wpatch := fun F w B x bs at_ k n h hs ha hk hn => ePatch_any F w B x bs at_ k n h hs ha hk hn
  wlen := fun F w B x bs h hs => eLen_any F w B x bs h
  wall := fun F w B x bs h hs => eAll_any F w B x bs h hs

end Go.Proofs.Ytkmcpedhcdgnoaa
