/- The landed word: the writer's calls. -/
import Derived.Test.YtkmcpedhcdgnoaaWdL6
import Derived.Test.YtkmcpedhcdgnoaaWdU
namespace Go.Proofs.Ytkmcpedhcdgnoaa
open Go.RowKit
set_option linter.unusedVariables false

set_option maxHeartbeats 1600000 in
theorem eMake_any (w : World) :
    Calls Try.prog 20 #[] w fun e w' => ∃ x F, e = .returned (.pointer (some ⟨x, 0, none⟩)) ∧ WR F w' w.heap.size x [] ∧ Below w.heap.size w w' := by
  have H1 := hide (dspanOf_any w none 0 0 [] ⟨⟨rfl, .inl rfl⟩, by omega, by omega, fun _ => ⟨rfl, rfl⟩⟩ (by omega))
  go_enter Try.func20, Try.ntmps20
  go_wp2_with fail
  refine (unhide H1).mono ?_
  rintro e w1 ⟨g, d, rfl, o1, f1⟩
  have b2 : Below w1.heap.size w1 (w1.alloc (.cells #[.slice (some ⟨g, 0, none⟩) 0 d, .int .i64 0] 62)) := (Below.refl _ _).alloc (Nat.le_refl _) _
  have hb := heap_alloc_last w1 (.cells #[.slice (some ⟨g, 0, none⟩) 0 d, .int .i64 0] 62)
  have hg := o1.lt g rfl
  have P1 : Hid (∃ F, WR F (w1.alloc (.cells #[.slice (some ⟨g, 0, none⟩) 0 d, .int .i64 0] 62)) w.heap.size w1.heap.size []) := by
    exact ⟨_, g, d, rfl, f1.size, by omega, hb, own_below o1 b2⟩
  have F1 := hide (f1.trans (b2.mono f1.size))
  clear o1 f1 b2 hb hg H1
  go_wp2
  go_ret
  obtain ⟨F, hF⟩ := unhide P1
  exact ⟨_, F, rfl, hF, unhide F1⟩

set_option maxHeartbeats 1600000 in
theorem eLen_any (F : Nat → Prop) (w : World) (B x : Nat) (bs : List UInt8) (h : WR F w B x bs) :
    Calls Try.prog 28 #[.pointer (some ⟨x, 0, none⟩)] w fun e w' => e = .returned (.int .i64 (bs.length : Int)) ∧ Below w.heap.size w w' := by
  obtain ⟨y, c, rfl, h⟩ := h
  have HM := hide (emade_any w B x y c bs _ h)
  have c1 := h.c1
  clear h
  go_enter Try.func28, Try.ntmps28
  go_wp2_with fail
  refine (unhide HM).mono ?_
  rintro e w1 ⟨rfl, e0⟩
  have e0' := e0.symm
  clear e0
  subst e0'
  go_wp2
  go_ret
  exact ⟨rfl, Below.refl _ _⟩

set_option maxHeartbeats 1600000 in
theorem eAll_any (F : Nat → Prop) (w : World) (B x : Nat) (bs : List UInt8) (h : WR F w B x bs) (hs : bs.length ≤ 140737488351232) :
    Calls Try.prog 29 #[.pointer (some ⟨x, 0, none⟩)] w fun e w' => ∃ v, e = .returned v ∧ w'.ownsRow w.heap.size 5 1 v bs.length (bv bs) ∧ Below w.heap.size w w' := by
  obtain ⟨y, c, rfl, h⟩ := h
  have HM := hide (emade_any w B x y c bs _ h)
  have c0 := h.c0
  have HC : Hid (∀ j, Calls Try.prog 37 #[.slice (some ⟨y, 0, none⟩) bs.length c] (w.drewN j) fun e w' => ∃ g d, e = .returned (.slice (some ⟨g, 0, none⟩) bs.length d) ∧ w'.ownsRow w.heap.size 5 1 (.slice (some ⟨g, 0, none⟩) bs.length d) bs.length (bv bs) ∧ Below w.heap.size (w.drewN j) w') := fun j => bClone_any (w.drewN j) _ _ c bs (bs_of_own rfl (h.drewN j).row) hs
  clear h
  generalize bs.length = n at *
  go_enter Try.func29, Try.ntmps29
  go_wp2_with fail
  refine (unhide HM).mono ?_
  rintro e w1 ⟨rfl, e0⟩
  have e0' := e0.symm
  clear e0
  subst e0'
  clear HM
  go_wp2_with fail
  refine (unhide HC 0).mono ?_
  rintro e w2 ⟨g, d, rfl, o2, f2⟩
  have O2 := hide o2
  have F2 := hide f2
  clear o2 f2 HC
  go_wp2
  go_ret
  exact ⟨_, rfl, unhide O2, unhide F2⟩

set_option maxHeartbeats 1600000 in
theorem eBytes_any (F : Nat → Prop) (w : World) (B x : Nat) (bs : List UInt8) (a : Option Addr) (n c : Nat) (ys : List UInt8) (h : WR F w B x bs) (hb : Arg w a n c ys) (hfar : ∀ b o, a = some ⟨b, o, none⟩ → 0 < n → ¬ F b) (hs : bs.length + n ≤ 140737488351232) :
    Calls Try.prog 25 #[.pointer (some ⟨x, 0, none⟩), .slice a n c] w fun e w' => e = .returned (.int .i64 0) ∧ (∃ F', WR F' w' B x (bs ++ ys) ∧ ∀ j, F' j → F j ∨ w.heap.size ≤ j) ∧ Fr6 F B w w' := by
  obtain ⟨y, d, rfl, h⟩ := h
  have HM := hide (emade_any w B x y d bs _ h)
  have HP := hide (dput_end 62 w B x y d bs h a n c ys hb (fun b o e hn => ⟨fun e1 => hfar b o e hn (.inl e1), fun e1 => hfar b o e hn (.inr e1)⟩) (by omega))
  have hyl := hb.bs.1
  have HY : Hid ((bs ++ ys).length = bs.length + n) := by
    show _ = _
    rw [List.length_append, hyl]
  clear h hb hfar
  go_enter Try.func25, Try.ntmps25
  go_wp2_with fail
  refine (unhide HM).mono ?_
  rintro e w1 ⟨rfl, e0⟩
  have e0' := e0.symm
  clear e0
  subst e0'
  clear HM
  go_wp2_with fail
  refine (unhide HP).mono ?_
  rintro e w2 ⟨rfl, r⟩
  have R := hide r
  clear r HP
  go_wp2
  go_ret
  obtain ⟨⟨y', c', h1, h2⟩, h3, h4⟩ := unhide R
  rw [← unhide HY] at h1
  refine ⟨rfl, ⟨_, ⟨y', c', rfl, h1⟩, fun j hj => ?_⟩, h3, fun k hk hF => h4 k hk (fun e => hF (.inl e)) (fun e => hF (.inr e))⟩
  rcases hj with e | e
  · exact .inl (.inl e)
  · rcases h2 with e2 | e2
    · exact .inl (.inr (e.trans e2))
    · right
      omega

/-- Between the rounds of write. -/
structure WN (w : World) (B x y m : Nat) (bs : List UInt8) (zs : List Int) (i : Nat) (W : World) : Prop where
  sp : ∃ y' c', Sp 62 W B x y' c' (bs ++ (zs.take i).flatMap (bytesW m)) (bs ++ (zs.take i).flatMap (bytesW m)).length ∧ (y' = y ∨ w.heap.size ≤ y')
  bel : Below B w W
  oth : ∀ q, q < w.heap.size → q ≠ x → q ≠ y → W.heap[q]? = w.heap[q]?
theorem WN.start {w : World} {B x y d : Nat} {bs : List UInt8} (h : Sp 62 w B x y d bs bs.length) (m : Nat) (zs : List Int) : WN w B x y m bs zs 0 w :=
  ⟨⟨y, d, by simpa using h, .inl rfl⟩, Below.refl _ _, fun _ _ _ _ => rfl⟩
theorem WN.call {w W : World} {B x y m : Nat} {bs : List UInt8} {zs : List Int} {i : Nat} {z : Int} (h : WN w B x y m bs zs i W) (hm : m = 1 ∨ m = 2 ∨ m = 4 ∨ m = 8) (hz : zs[i]? = some z) (hzr : -9223372036854775808 ≤ z ∧ z ≤ 9223372036854775807) (hs : bs.length + 8 * zs.length ≤ 140737488351232) :
    Calls Try.prog 45 #[.pointer (some ⟨x, 0, none⟩), .int .i64 (m : Int), .int .i64 z] W fun e w' => e = .returned (.tuple #[]) ∧ WN w B x y m bs zs (i + 1) w' := by
  obtain ⟨y', c', hsp, hy⟩ := h.sp
  have hil : i < zs.length := (List.getElem?_eq_some_iff.1 hz).1
  have hfl := flat_len m (zs.take i)
  rw [List.length_take, Nat.min_eq_left (by omega), Int.toNat_natCast] at hfl
  have him : i * m ≤ 8 * i := by
    rw [Nat.mul_comm 8 i]
    exact Nat.mul_le_mul_left i (by omega)
  refine (dputN_any _ W B x y' c' _ m _ hsp (Nat.le_refl _) hm z hzr (by rw [List.length_append, hfl]; omega)).mono ?_
  rintro e w' ⟨rfl, r⟩
  obtain ⟨y2, c2, h2, h3, _⟩ := r.sp
  have hfull : (bytesW m z).take m = bytesW m z := List.take_of_length_le (by rw [bytesW_len, Int.toNat_natCast]; omega)
  rw [hfull, ovr_end] at h2
  have hnext : bs ++ (zs.take i).flatMap (bytesW m) ++ bytesW m z = bs ++ (zs.take (i + 1)).flatMap (bytesW m) := by
    rw [List.take_add_one, hz]
    simp
  have hlen : (bs ++ (zs.take i).flatMap (bytesW m)).length + m = (bs ++ (zs.take (i + 1)).flatMap (bytesW m)).length := by
    rw [← hnext, List.length_append (bs := bytesW m z), bytesW_len, Int.toNat_natCast]
  rw [hnext, hlen] at h2
  have hsz := h.bel.size
  refine ⟨rfl, ⟨y2, c2, h2, ?_⟩, h.bel.trans r.bel, fun q hq h5 h6 => ?_⟩
  · rcases h3 with e | e
    · rw [e]; exact hy
    · right
      omega
  · have hy2 : q ≠ y' := by
      rcases hy with e | e
      · rw [e]; exact h6
      · omega
    exact (r.oth q (by omega) h5 hy2).trans (h.oth q hq h5 h6)

/-- What the writer's U and S leave. -/
structure WEnd (w : World) (B x y : Nat) (bs : List UInt8) (W : World) : Prop where
  sp : ∃ y' c', Sp 62 W B x y' c' bs bs.length ∧ (y' = y ∨ w.heap.size ≤ y')
  bel : Below B w W
  oth : ∀ q, q < w.heap.size → q ≠ x → q ≠ y → W.heap[q]? = w.heap[q]?

set_option maxHeartbeats 3200000 in
theorem ewriteU_any (w : World) (B x y d : Nat) (bs : List UInt8) (k : Int) (a : Option Addr) (n c : Nat) (zs : List Int)
    (h : Sp 62 w B x y d bs bs.length) (hl : Nums w a n zs) (hfar : ∀ b o, a = some ⟨b, o, none⟩ → 0 < n → b ≠ x ∧ b ≠ y) (hz : ∀ z ∈ zs, -9223372036854775808 ≤ z ∧ z ≤ 9223372036854775807) (hs : bs.length + 8 * n ≤ 140737488351232) (hk : -9223372036854775808 ≤ k ∧ k ≤ 9223372036854775807) :
    Calls Try.prog 39 #[.pointer (some ⟨x, 0, none⟩), .func (.func 40) #[] #[], .int .i64 k, .slice a n c] w fun e w' => e = .returned (.int .i64 (putW bs k false zs).2) ∧ WEnd w B x y (putW bs k false zs).1 w' := by
  have HM := hide (emade_any w B x y d bs _ h)
  have HW := hide (disSize_any w k)
  have HK : Hid (WEnd w B x y bs w) := ⟨⟨y, d, h, .inl rfl⟩, Below.refl _ _, fun _ _ _ _ => rfl⟩
  by_cases hw : wide k
  · rw [decide_eq_true hw] at HW
    obtain ⟨m, rfl, hm⟩ := wide_nat hw
    have HF := hide (fun W z hz => dfitsU_any W (m : Int) z hw hz)
    have HS := hide (WN.start h m zs)
    have hzl := hl.1
    have HL := hide hl
    clear h hw hl
    go_enter Try.func39, Try.ntmps39
    go_wp2_with fail
    refine (unhide HM).mono ?_
    rintro e w1 ⟨rfl, e0⟩
    have e0' := e0.symm
    clear e0
    subst e0'
    go_wp2_with fail
    refine (unhide HW).mono ?_
    rintro e w1 ⟨rfl, e0⟩
    have e0' := e0.symm
    clear e0
    subst e0'
    clear HM HW
    go_wp2
    go_loopw [21] (fun q wr => ∃ i : Nat, i ≤ n ∧ q = .int .i64 i ∧ (∀ j z, j < i → zs[j]? = some z → fitsW m z false) ∧ wr = w) (fun q _ => n - (intOf q).toNat)
    case atStart => exact ⟨0, by omega, rfl, fun j z hj => by omega, rfl⟩
    case round =>
      obtain ⟨i, hi, rfl, hall, e0⟩ := hrel
      have e0' := e0.symm
      clear e0
      subst e0'
      by_cases hlt : i < n
      · have hlt1 : (i : Int) < (n : Int) := by omega
        obtain ⟨z, hzi⟩ : ∃ z, zs[i]? = some z := ⟨_, List.getElem?_eq_getElem (by omega)⟩
        obtain ⟨b, o, rfl, hcs⟩ := (unhide HL).2.resolve_left (by omega)
        have cz := hcs i z hzi
        have HF1 := hide (unhide HF w z (hz z (List.mem_of_getElem? hzi)))
        have hnb : (n : Int) ≤ 140737488351232 := by omega
        by_cases hfit : fitsW m z false
        · rw [decide_eq_true hfit] at HF1
          have HALL : Hid (∀ j z, j < i + 1 → zs[j]? = some z → fitsW m z false) := fun j z' hj hz' => by
            by_cases hji : j = i
            · subst hji
              rw [hzi] at hz'
              injection hz' with hz'
              subst hz'
              exact hfit
            · exact hall j z' (by omega) hz'
          clear hall hfit hcs HF HL HS HK hz
          go_wp2_with fail
          refine (unhide HF1).mono ?_
          rintro e w1 ⟨rfl, rfl⟩
          go_wp2
          go_roundw
          case rel => exact ⟨i + 1, by omega, by go_num, unhide HALL, by first | rfl | trivial⟩
          case measure => simp [intOf]; omega
        · rw [decide_eq_false hfit] at HF1
          have e1 : Hid (putW bs m false zs = (bs, 2)) := putW_no (fun h => hfit (h.2 z (List.mem_of_getElem? hzi)))
          clear hall hfit hcs HF HL HS hz
          go_wp2_with fail
          refine (unhide HF1).mono ?_
          rintro e w1 ⟨rfl, rfl⟩
          go_wp2
          go_ret
          rw [unhide e1]
          exact ⟨rfl, unhide HK⟩
      · obtain rfl : i = n := by omega
        have e1 : Hid (putW bs m false zs = (bs ++ zs.flatMap (bytesW m), 0)) := putW_ok (by rcases hm with rfl | rfl | rfl | rfl <;> (unfold wide; omega)) (fun z hz => by
          obtain ⟨j, hj⟩ := List.mem_iff_getElem?.1 hz
          exact hall j z (by have := (List.getElem?_eq_some_iff.1 hj).1; omega) hj)
        clear hall HF HK
        go_wp2
        go_loopw [33] (fun q W => ∃ j : Nat, j ≤ i ∧ q = .int .i64 j ∧ WN w B x y m bs zs j W) (fun q _ => i - (intOf q).toNat)
        case atStart => exact ⟨0, by omega, rfl, unhide HS⟩
        case round =>
          obtain ⟨j, hj, rfl, hN⟩ := hrel
          by_cases hlt2 : j < i
          · have hlt1 : (j : Int) < (i : Int) := by omega
            obtain ⟨z, hzi⟩ : ∃ z, zs[j]? = some z := ⟨_, List.getElem?_eq_getElem (by omega)⟩
            obtain ⟨b, o, rfl, hcs⟩ := (unhide HL).2.resolve_left (by omega)
            have cz0 := hcs j z hzi
            have hbf := hfar b o rfl (by omega)
            have cz := (World.cell?_of_block (a := ⟨b, o + j, none⟩) (hN.oth b (World.block_lt_of_cell? w _ cz0) hbf.1 hbf.2)).trans cz0
            have HC := hide (hN.call hm hzi (hz z (List.mem_of_getElem? hzi)) (by omega))
            have hnb : (i : Int) ≤ 140737488351232 := by omega
            clear hN hcs cz0 hbf HL HS hz hfar e1 hm
            go_wp2_with fail
            refine (unhide HC).mono ?_
            rintro e w1 ⟨rfl, hN1⟩
            have HN1 := hide hN1
            clear HC hN1 cz
            go_wp2
            go_roundw
            case rel => exact ⟨j + 1, by omega, by go_num, unhide HN1⟩
            case measure => simp [intOf]; omega
          · obtain rfl : j = i := by omega
            have ht : zs.take j = zs := List.take_of_length_le (by omega)
            have HN : Hid (WEnd w B x y (bs ++ zs.flatMap (bytesW m)) wr) := by
              obtain ⟨h1, h2, h3⟩ := hN
              rw [ht] at h1
              exact ⟨h1, h2, h3⟩
            clear hN HS HL hz hfar
            go_wp2
            go_ret
            rw [unhide e1]
            exact ⟨rfl, unhide HN⟩
  · rw [decide_eq_false hw] at HW
    have e1 : Hid (putW bs k false zs = (bs, 2)) := putW_no (fun h => hw h.1)
    clear h hw
    go_enter Try.func39, Try.ntmps39
    go_wp2_with fail
    refine (unhide HM).mono ?_
    rintro e w1 ⟨rfl, e0⟩
    have e0' := e0.symm
    clear e0
    subst e0'
    go_wp2_with fail
    refine (unhide HW).mono ?_
    rintro e w1 ⟨rfl, e0⟩
    have e0' := e0.symm
    clear e0
    subst e0'
    go_wp2
    go_ret
    rw [unhide e1]
    exact ⟨rfl, unhide HK⟩

end Go.Proofs.Ytkmcpedhcdgnoaa
