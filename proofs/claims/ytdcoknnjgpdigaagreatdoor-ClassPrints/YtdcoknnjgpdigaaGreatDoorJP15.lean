/- Joined: WdL6 WdL7 WdL8 PkP. -/
import Derived.Test.YtdcoknnjgpdigaaGreatDoorJP14
import Derived.Test.YtdcoknnjgpdigaaGreatDoorJP10
import Derived.Test.YtdcoknnjgpdigaaGreatDoorJP11
import Derived.Test.YtdcoknnjgpdigaaGreatDoorJP9
import Derived.Laws.IdiomStrings

/- The landed word: putNumber. -/
namespace Go.Proofs.YtdcoknnjgpdigaaGreatDoor
open Go.RowKit
set_option linter.unusedVariables false

/-- Bytes laid over others, from a place on. -/
def ovr (bs : List UInt8) (i : Nat) (l : List UInt8) : List UInt8 := bs.take i ++ l ++ bs.drop (i + l.length)
theorem ovr_nil (bs : List UInt8) (i : Nat) : ovr bs i [] = bs := by simp [ovr]
theorem ovr_end (bs l : List UInt8) : ovr bs bs.length l = bs ++ l := by
  unfold ovr
  rw [List.take_of_length_le (Nat.le_refl _), List.drop_eq_nil_of_le (by omega), List.append_nil]
theorem ovr_len (bs : List UInt8) (i : Nat) (l : List UInt8) (hi : i ≤ bs.length) : (ovr bs i l).length = max bs.length (i + l.length) := by
  unfold ovr
  simp
  omega
/-- One byte more. -/
def put1 (bs : List UInt8) (i : Nat) (u : UInt8) : List UInt8 := if i < bs.length then bs.set i u else bs ++ [u]
theorem ovr_put (bs : List UInt8) (i : Nat) (l : List UInt8) (u : UInt8) (hi : i ≤ bs.length) : put1 (ovr bs i l) (i + l.length) u = ovr bs i (l ++ [u]) := by
  unfold put1
  rw [ovr_len bs i l hi]
  by_cases h : i + l.length < bs.length
  · rw [if_pos (by omega)]
    unfold ovr
    have hl : (bs.take i ++ l).length = i + l.length := by simp; omega
    rw [List.set_append_right _ _ (by omega), hl, Nat.sub_self, List.append_assoc (bs.take i), List.append_assoc (bs.take i), List.append_assoc l]
    congr 2
    rw [List.length_append, List.length_singleton]
    rw [← Nat.add_assoc, List.drop_eq_getElem_cons h]
    rfl
  · rw [if_neg (by omega)]
    unfold ovr
    rw [List.drop_eq_nil_of_le (by omega), List.drop_eq_nil_of_le (by simp; omega)]
    simp

structure PutB (T : TypeId) (w : World) (B x y c i n : Nat) (bs : List UInt8) (W : World) : Prop where
  sp : ∃ y' c', Sp T W B x y' c' bs (i + 1) ∧ (y' = y ∨ w.heap.size ≤ y') ∧ (i < n → y' = y ∧ c' = c)
  bel : Below B w W
  oth : ∀ k, k < w.heap.size → k ≠ x → k ≠ y → W.heap[k]? = w.heap[k]?
theorem dput_one (T : TypeId) (w : World) (B x y c i : Nat) (bs : List UInt8) (h : Sp T w B x y c bs i) (hi : i ≤ bs.length) (z : Nat) (u : UInt8) (hz : w.cell? ⟨z, 0, none⟩ = some (.int .u8 (u.toNat : Int))) (hzx : z ≠ x) (hzy : z ≠ y) (hn : bs.length + 1 ≤ 140737488355328) :
    Calls Tryz.prog 120 #[.pointer (some ⟨x, 0, none⟩), .slice (some ⟨z, 0, none⟩) 1 1] w fun e w' => e = .returned (.tuple #[]) ∧ PutB T w B x y c i bs.length (put1 bs i u) w' := by
  unfold put1
  by_cases hlt : i < bs.length
  · rw [if_pos hlt]
    refine (dput_in T w B x y c i bs h hlt z u hz (by omega)).mono ?_
    rintro e w' ⟨rfl, r⟩
    exact ⟨rfl, ⟨y, c, r.sp, .inl rfl, fun _ => ⟨rfl, rfl⟩⟩, r.bel, r.oth⟩
  · obtain rfl : i = bs.length := by omega
    rw [if_neg hlt]
    have hb : Arg w (some ⟨z, 0, none⟩) 1 1 [u] := ⟨⟨rfl, .inr ⟨z, 0, rfl, (fun e => by cases e), fun ad e j v hv => by
      injection e with e
      subst e
      match j with
      | 0 =>
        simp [bv] at hv
        subst hv
        simpa [Addr.add_mid] using hz
      | j + 1 => simp [bv] at hv⟩⟩, by omega, by omega, fun e => by cases e⟩
    refine (dput_end T w B x y c bs h (some ⟨z, 0, none⟩) 1 1 [u] hb (fun b o e _ => by
      injection e with e
      injection e with e1
      subst e1
      exact ⟨hzx, hzy⟩) hn).mono ?_
    rintro e w' ⟨rfl, r⟩
    obtain ⟨y', c', h1, h2⟩ := r.sp
    exact ⟨rfl, ⟨y', c', h1, h2, fun h => absurd h hlt⟩, r.bel, r.oth⟩

/-- The byte of a number behind so many others. -/
def byteAt (n : Int) (j : Nat) : UInt8 := UInt8.ofNat ((n % 18446744073709551616).toNat / 256 ^ j)
theorem byteAt_eq (n : Int) (j : Nat) (hj : j < 8) : IntKind.u8.wrap (n / 2 ^ (8 * j)) = ((byteAt n j).toNat : Int) := by
  have hp : (2 : Int) ^ (8 * j) = ((256 ^ j : Nat) : Int) := by
    rw [Int.pow_mul]
    simp
  rw [hp, IntKind.wrap_u8]
  unfold byteAt
  rw [UInt8.toNat_ofNat']
  have : j = 0 ∨ j = 1 ∨ j = 2 ∨ j = 3 ∨ j = 4 ∨ j = 5 ∨ j = 6 ∨ j = 7 := by omega
  rcases this with rfl | rfl | rfl | rfl | rfl | rfl | rfl | rfl <;> (simp; omega)
theorem bytesW_take (m : Nat) (n : Int) (i : Nat) (hi : i < m) : (bytesW m n).take (i + 1) = (bytesW m n).take i ++ [byteAt n (m - 1 - i)] := by
  have key : ∀ (m : Nat) (x i : Nat), i < m → (beK m x)[i]? = some (UInt8.ofNat (x / 256 ^ (m - 1 - i))) := by
    intro m
    induction m with
    | zero => intro x i h; omega
    | succ m ih =>
      intro x i h
      rw [beK_cons]
      match i with
      | 0 => simp
      | i + 1 =>
        rw [List.getElem?_cons_succ, ih x i (by omega)]
        congr 4
        omega
  unfold bytesW
  rw [Int.toNat_natCast, List.take_add_one, key m _ i hi]
  rfl

/-- Between the rounds of putNumber. -/
structure PN (T : TypeId) (w : World) (B x y c i m : Nat) (bs : List UInt8) (n : Int) (k : Nat) (W : World) : Prop where
  sp : ∃ y' c', Sp T W B x y' c' (ovr bs i ((bytesW m n).take k)) (i + k) ∧ (y' = y ∨ w.heap.size ≤ y') ∧ (i + m ≤ bs.length → y' = y ∧ c' = c)
  bel : Below B w W
  oth : ∀ q, q < w.heap.size → q ≠ x → q ≠ y → W.heap[q]? = w.heap[q]?
theorem PN.start {T : TypeId} {w : World} {B x y c i : Nat} {bs : List UInt8} (h : Sp T w B x y c bs i) (m : Nat) (n : Int) : PN T w B x y c i m bs n 0 w :=
  ⟨⟨y, c, by rw [List.take_zero, ovr_nil]; exact h, .inl rfl, fun _ => ⟨rfl, rfl⟩⟩, Below.refl _ _, fun _ _ _ _ => rfl⟩
theorem ovr_room {bs : List UInt8} {i k m : Nat} {n : Int} (hi : i ≤ bs.length) (hk : k < m) (hn : bs.length + 8 ≤ 140737488355328) (hm : m ≤ 8) : (ovr bs i ((bytesW m n).take k)).length + 1 ≤ 140737488355328 ∧ i + k ≤ (ovr bs i ((bytesW m n).take k)).length ∧ ((bytesW m n).take k).length = k := by
  have hl : ((bytesW m n).take k).length = k := by rw [List.length_take, bytesW_len, Int.toNat_natCast]; omega
  rw [ovr_len bs i _ hi, hl]
  omega
theorem PN.call {T : TypeId} {w W : World} {B x y c i m : Nat} {bs : List UInt8} {n : Int} {k : Nat} (h : PN T w B x y c i m bs n k W) (hi : i ≤ bs.length) (hk : k < m) (hm : m ≤ 8) (hn : bs.length + 8 ≤ 140737488355328) (hBw : B ≤ w.heap.size) :
    Calls Tryz.prog 120 #[.pointer (some ⟨x, 0, none⟩), .slice (some ⟨W.heap.size, 0, none⟩) 1 1] (W.alloc (.cells #[.int .u8 ((byteAt n (m - 1 - k)).toNat : Int)] 5)) fun e w' => e = .returned (.tuple #[]) ∧ PN T w B x y c i m bs n (k + 1) w' := by
  obtain ⟨y', c', hs, hy, hc⟩ := h.sp
  obtain ⟨hr1, hr2, hr3⟩ := ovr_room (n := n) hi hk hn hm
  have b1 : Below W.heap.size W (W.alloc (.cells #[.int .u8 ((byteAt n (m - 1 - k)).toNat : Int)] 5)) := (Below.refl _ _).alloc (Nat.le_refl _) _
  have hx := hs.xlt
  have hyl := hs.y.2
  refine (dput_one T _ B x y' c' (i + k) _ (hs.below b1) hr2 W.heap.size (byteAt n (m - 1 - k)) (by rw [cell_of_row _ _ _ _ _ _ (heap_alloc_last W _)]; rfl) (by omega) (by omega) hr1).mono ?_
  rintro e w' ⟨rfl, r⟩
  obtain ⟨y2, c2, h2, h3, h4⟩ := r.sp
  have hsz := h.bel.size
  refine ⟨rfl, ⟨y2, c2, ?_, ?_, fun h5 => ?_⟩, (h.bel.alloc (Nat.le_trans hBw hsz) _).trans r.bel, fun q hq h5 h6 => ?_⟩
  · have e1 := ovr_put bs i ((bytesW m n).take k) (byteAt n (m - 1 - k)) hi
    rw [hr3, ← bytesW_take m n k hk] at e1
    rw [← e1]
    exact h2
  · rcases h3 with e | e
    · rw [e]; exact hy
    · right
      simp at e
      omega
  · obtain ⟨e1, e2⟩ := hc h5
    obtain ⟨e3, e4⟩ := h4 (by rw [ovr_len bs i _ hi, hr3]; omega)
    exact ⟨e3.trans e1, e4.trans e2⟩
  · have hqW : q < W.heap.size := by omega
    have hy2 : q ≠ y' := by
      rcases hy with e | e
      · rw [e]; exact h6
      · omega
    exact (r.oth q (by simp; omega) h5 hy2).trans ((heap_alloc_old W _ hqW).trans (h.oth q hq h5 h6))

set_option maxHeartbeats 3200000 in
theorem dputN_any (T : TypeId) (w : World) (B x y c i m : Nat) (bs : List UInt8) (h : Sp T w B x y c bs i) (hi : i ≤ bs.length) (hm : m = 1 ∨ m = 2 ∨ m = 4 ∨ m = 8) (n : Int) (hnn : -9223372036854775808 ≤ n ∧ n ≤ 9223372036854775807) (hn : bs.length + 8 ≤ 140737488355328) :
    Calls Tryz.prog 119 #[.pointer (some ⟨x, 0, none⟩), .int .i64 (m : Int), .int .i64 n] w fun e w' => e = .returned (.tuple #[]) ∧ PN T w B x y c i m bs n m w' := by
  have HP := hide (PN.start h m n)
  have hBw : B ≤ w.heap.size := Nat.le_trans h.hx (Nat.le_of_lt h.xlt)
  have hm8 : m ≤ 8 := by omega
  clear h
  go_enter Tryz.func119, Tryz.ntmps119
  go_wp2
  go_loopw [8] (fun q wr => ∃ k : Nat, k ≤ m ∧ q = .int .i64 k ∧ PN T w B x y c i m bs n k wr) (fun q _ => m - (intOf q).toNat)
  case atStart => exact ⟨0, by omega, rfl, unhide HP⟩
  case round =>
    obtain ⟨k, hk, rfl, hP⟩ := hrel
    by_cases hlt : k < m
    · have HC := hide (hP.call hi hlt hm8 hn hBw)
      obtain ⟨J, hJ⟩ : ∃ J, J = m - 1 - k := ⟨_, rfl⟩
      rw [← hJ] at HC
      have hby := byteAt_eq n J (by omega)
      generalize ((byteAt n J).toNat : Int) = by_ at *
      obtain ⟨S, hS⟩ : ∃ S, S = 8 * J := ⟨_, rfl⟩
      rw [← hS] at hby
      obtain ⟨m1, hm1⟩ : ∃ m1, m = m1 + 1 := ⟨m - 1, by omega⟩
      have a0 : (k : Int) < (m : Int) := by omega
      have a1 : (m : Int) - 1 = (m1 : Int) := by omega
      have a2 : (m1 : Int) - (k : Int) = (J : Int) := by omega
      have a3 : 8 * (J : Int) = (S : Int) := by omega
      have a4 : (S : Int) ≤ 64 := by omega
      have a5 : (m : Int) ≤ 8 := by omega
      have a6 : min S 64 = S := by omega
      clear hP HP hJ hS hm1 hm
      go_wp2_with fail
      refine (unhide HC).mono ?_
      rintro e w1 ⟨rfl, hP1⟩
      have HP1 := hide hP1
      clear hP1 HC
      go_wp2
      go_roundw
      case rel => exact ⟨k + 1, by omega, by go_num, unhide HP1⟩
      case measure => simp [intOf]; omega
    · obtain rfl : k = m := by omega
      have HP2 := hide hP
      clear hP HP
      go_wp2
      go_end0
      exact ⟨rfl, unhide HP2⟩

end Go.Proofs.YtdcoknnjgpdigaaGreatDoor

/- The landed word: the writer's calls. -/
namespace Go.Proofs.YtdcoknnjgpdigaaGreatDoor
open Go.RowKit
set_option linter.unusedVariables false

set_option maxHeartbeats 1600000 in
theorem eMake_any (w : World) :
    Calls Tryz.prog 56 #[] w fun e w' => ∃ x F, e = .returned (.pointer (some ⟨x, 0, none⟩)) ∧ WR F w' w.heap.size x [] ∧ Below w.heap.size w w' := by
  have H1 := hide (dspanOf_any w none 0 0 [] ⟨⟨rfl, .inl rfl⟩, by omega, by omega, fun _ => ⟨rfl, rfl⟩⟩ (by omega))
  go_enter Tryz.func56, Tryz.ntmps56
  go_wp2_with fail
  refine (unhide H1).mono ?_
  rintro e w1 ⟨g, d, rfl, o1, f1⟩
  have b2 : Below w1.heap.size w1 (w1.alloc (.cells #[.slice (some ⟨g, 0, none⟩) 0 d, .int .i64 0] 151)) := (Below.refl _ _).alloc (Nat.le_refl _) _
  have hb := heap_alloc_last w1 (.cells #[.slice (some ⟨g, 0, none⟩) 0 d, .int .i64 0] 151)
  have hg := o1.lt g rfl
  have P1 : Hid (∃ F, WR F (w1.alloc (.cells #[.slice (some ⟨g, 0, none⟩) 0 d, .int .i64 0] 151)) w.heap.size w1.heap.size []) := by
    exact ⟨_, g, d, rfl, f1.size, by omega, hb, own_below o1 b2⟩
  have F1 := hide (f1.trans (b2.mono f1.size))
  clear o1 f1 b2 hb hg H1
  go_wp2
  go_ret
  obtain ⟨F, hF⟩ := unhide P1
  exact ⟨_, F, rfl, hF, unhide F1⟩

set_option maxHeartbeats 1600000 in
theorem eLen_any (F : Nat → Prop) (w : World) (B x : Nat) (bs : List UInt8) (h : WR F w B x bs) :
    Calls Tryz.prog 122 #[.pointer (some ⟨x, 0, none⟩)] w fun e w' => e = .returned (.int .i64 (bs.length : Int)) ∧ Below w.heap.size w w' := by
  obtain ⟨y, c, rfl, h⟩ := h
  have HM := hide (emade_any w B x y c bs _ h)
  have c1 := h.c1
  clear h
  go_enter Tryz.func122, Tryz.ntmps122
  go_wp2_with fail
  refine (unhide HM).mono ?_
  rintro e w1 ⟨rfl, e0⟩
  have e0' := e0.symm
  clear e0
  subst e0'
  go_wp2
  go_ret
  exact ⟨rfl, Below.refl _ _⟩

set_option maxHeartbeats 1600000 in
theorem eAll_any (F : Nat → Prop) (w : World) (B x : Nat) (bs : List UInt8) (h : WR F w B x bs) (hs : bs.length ≤ 140737488351232) :
    Calls Tryz.prog 64 #[.pointer (some ⟨x, 0, none⟩)] w fun e w' => ∃ v, e = .returned v ∧ w'.ownsRow w.heap.size 5 1 v bs.length (bv bs) ∧ Below w.heap.size w w' := by
  obtain ⟨y, c, rfl, h⟩ := h
  have HM := hide (emade_any w B x y c bs _ h)
  have c0 := h.c0
  have HC : Hid (∀ j, Calls Tryz.prog 94 #[.slice (some ⟨y, 0, none⟩) bs.length c] (w.drewN j) fun e w' => ∃ g d, e = .returned (.slice (some ⟨g, 0, none⟩) bs.length d) ∧ w'.ownsRow w.heap.size 5 1 (.slice (some ⟨g, 0, none⟩) bs.length d) bs.length (bv bs) ∧ Below w.heap.size (w.drewN j) w') := fun j => bClone_any (w.drewN j) _ _ c bs (bs_of_own rfl (h.drewN j).row) hs
  clear h
  generalize bs.length = n at *
  go_enter Tryz.func64, Tryz.ntmps64
  go_wp2_with fail
  refine (unhide HM).mono ?_
  rintro e w1 ⟨rfl, e0⟩
  have e0' := e0.symm
  clear e0
  subst e0'
  clear HM
  go_wp2_with fail
  refine (unhide HC 0).mono ?_
  rintro e w2 ⟨g, d, rfl, o2, f2⟩
  have O2 := hide o2
  have F2 := hide f2
  clear o2 f2 HC
  go_wp2
  go_ret
  exact ⟨_, rfl, unhide O2, unhide F2⟩

set_option maxHeartbeats 1600000 in
theorem eBytes_any (F : Nat → Prop) (w : World) (B x : Nat) (bs : List UInt8) (a : Option Addr) (n c : Nat) (ys : List UInt8) (h : WR F w B x bs) (hb : Arg w a n c ys) (hfar : ∀ b o, a = some ⟨b, o, none⟩ → 0 < n → ¬ F b) (hs : bs.length + n ≤ 140737488351232) :
    Calls Tryz.prog 88 #[.pointer (some ⟨x, 0, none⟩), .slice a n c] w fun e w' => e = .returned (.int .i64 0) ∧ (∃ F', WR F' w' B x (bs ++ ys) ∧ ∀ j, F' j → F j ∨ w.heap.size ≤ j) ∧ Fr6 F B w w' := by
  obtain ⟨y, d, rfl, h⟩ := h
  have HM := hide (emade_any w B x y d bs _ h)
  have HP := hide (dput_end 151 w B x y d bs h a n c ys hb (fun b o e hn => ⟨fun e1 => hfar b o e hn (.inl e1), fun e1 => hfar b o e hn (.inr e1)⟩) (by omega))
  have hyl := hb.bs.1
  have HY : Hid ((bs ++ ys).length = bs.length + n) := by
    show _ = _
    rw [List.length_append, hyl]
  clear h hb hfar
  go_enter Tryz.func88, Tryz.ntmps88
  go_wp2_with fail
  refine (unhide HM).mono ?_
  rintro e w1 ⟨rfl, e0⟩
  have e0' := e0.symm
  clear e0
  subst e0'
  clear HM
  go_wp2_with fail
  refine (unhide HP).mono ?_
  rintro e w2 ⟨rfl, r⟩
  have R := hide r
  clear r HP
  go_wp2
  go_ret
  obtain ⟨⟨y', c', h1, h2⟩, h3, h4⟩ := unhide R
  rw [← unhide HY] at h1
  refine ⟨rfl, ⟨_, ⟨y', c', rfl, h1⟩, fun j hj => ?_⟩, h3, fun k hk hF => h4 k hk (fun e => hF (.inl e)) (fun e => hF (.inr e))⟩
  rcases hj with e | e
  · exact .inl (.inl e)
  · rcases h2 with e2 | e2
    · exact .inl (.inr (e.trans e2))
    · right
      omega

/-- Between the rounds of write. -/
structure WN (w : World) (B x y m : Nat) (bs : List UInt8) (zs : List Int) (i : Nat) (W : World) : Prop where
  sp : ∃ y' c', Sp 151 W B x y' c' (bs ++ (zs.take i).flatMap (bytesW m)) (bs ++ (zs.take i).flatMap (bytesW m)).length ∧ (y' = y ∨ w.heap.size ≤ y')
  bel : Below B w W
  oth : ∀ q, q < w.heap.size → q ≠ x → q ≠ y → W.heap[q]? = w.heap[q]?
theorem WN.start {w : World} {B x y d : Nat} {bs : List UInt8} (h : Sp 151 w B x y d bs bs.length) (m : Nat) (zs : List Int) : WN w B x y m bs zs 0 w :=
  ⟨⟨y, d, by simpa using h, .inl rfl⟩, Below.refl _ _, fun _ _ _ _ => rfl⟩
theorem WN.call {w W : World} {B x y m : Nat} {bs : List UInt8} {zs : List Int} {i : Nat} {z : Int} (h : WN w B x y m bs zs i W) (hm : m = 1 ∨ m = 2 ∨ m = 4 ∨ m = 8) (hz : zs[i]? = some z) (hzr : -9223372036854775808 ≤ z ∧ z ≤ 9223372036854775807) (hs : bs.length + 8 * zs.length ≤ 140737488351232) :
    Calls Tryz.prog 119 #[.pointer (some ⟨x, 0, none⟩), .int .i64 (m : Int), .int .i64 z] W fun e w' => e = .returned (.tuple #[]) ∧ WN w B x y m bs zs (i + 1) w' := by
  obtain ⟨y', c', hsp, hy⟩ := h.sp
  have hil : i < zs.length := (List.getElem?_eq_some_iff.1 hz).1
  have hfl := flat_len m (zs.take i)
  rw [List.length_take, Nat.min_eq_left (by omega), Int.toNat_natCast] at hfl
  have him : i * m ≤ 8 * i := by
    rw [Nat.mul_comm 8 i]
    exact Nat.mul_le_mul_left i (by omega)
  refine (dputN_any _ W B x y' c' _ m _ hsp (Nat.le_refl _) hm z hzr (by rw [List.length_append, hfl]; omega)).mono ?_
  rintro e w' ⟨rfl, r⟩
  obtain ⟨y2, c2, h2, h3, _⟩ := r.sp
  have hfull : (bytesW m z).take m = bytesW m z := List.take_of_length_le (by rw [bytesW_len, Int.toNat_natCast]; omega)
  rw [hfull, ovr_end] at h2
  have hnext : bs ++ (zs.take i).flatMap (bytesW m) ++ bytesW m z = bs ++ (zs.take (i + 1)).flatMap (bytesW m) := by
    rw [List.take_add_one, hz]
    simp
  have hlen : (bs ++ (zs.take i).flatMap (bytesW m)).length + m = (bs ++ (zs.take (i + 1)).flatMap (bytesW m)).length := by
    rw [← hnext, List.length_append (bs := bytesW m z), bytesW_len, Int.toNat_natCast]
  rw [hnext, hlen] at h2
  have hsz := h.bel.size
  refine ⟨rfl, ⟨y2, c2, h2, ?_⟩, h.bel.trans r.bel, fun q hq h5 h6 => ?_⟩
  · rcases h3 with e | e
    · rw [e]; exact hy
    · right
      omega
  · have hy2 : q ≠ y' := by
      rcases hy with e | e
      · rw [e]; exact h6
      · omega
    exact (r.oth q (by omega) h5 hy2).trans (h.oth q hq h5 h6)

/-- What the writer's U and S leave. -/
structure WEnd (w : World) (B x y : Nat) (bs : List UInt8) (W : World) : Prop where
  sp : ∃ y' c', Sp 151 W B x y' c' bs bs.length ∧ (y' = y ∨ w.heap.size ≤ y')
  bel : Below B w W
  oth : ∀ q, q < w.heap.size → q ≠ x → q ≠ y → W.heap[q]? = w.heap[q]?

set_option maxHeartbeats 3200000 in
theorem ewriteU_any (w : World) (B x y d : Nat) (bs : List UInt8) (k : Int) (a : Option Addr) (n c : Nat) (zs : List Int)
    (h : Sp 151 w B x y d bs bs.length) (hl : Nums w a n zs) (hfar : ∀ b o, a = some ⟨b, o, none⟩ → 0 < n → b ≠ x ∧ b ≠ y) (hz : ∀ z ∈ zs, -9223372036854775808 ≤ z ∧ z ≤ 9223372036854775807) (hs : bs.length + 8 * n ≤ 140737488351232) (hk : -9223372036854775808 ≤ k ∧ k ≤ 9223372036854775807) :
    Calls Tryz.prog 86 #[.pointer (some ⟨x, 0, none⟩), .func (.func 87) #[] #[], .int .i64 k, .slice a n c] w fun e w' => e = .returned (.int .i64 (putW bs k false zs).2) ∧ WEnd w B x y (putW bs k false zs).1 w' := by
  have HM := hide (emade_any w B x y d bs _ h)
  have HW := hide (disSize_any w k)
  have HK : Hid (WEnd w B x y bs w) := ⟨⟨y, d, h, .inl rfl⟩, Below.refl _ _, fun _ _ _ _ => rfl⟩
  by_cases hw : wide k
  · rw [decide_eq_true hw] at HW
    obtain ⟨m, rfl, hm⟩ := wide_nat hw
    have HF := hide (fun W z hz => dfitsU_any W (m : Int) z hw hz)
    have HS := hide (WN.start h m zs)
    have hzl := hl.1
    have HL := hide hl
    clear h hw hl
    go_enter Tryz.func86, Tryz.ntmps86
    go_wp2_with fail
    refine (unhide HM).mono ?_
    rintro e w1 ⟨rfl, e0⟩
    have e0' := e0.symm
    clear e0
    subst e0'
    go_wp2_with fail
    refine (unhide HW).mono ?_
    rintro e w1 ⟨rfl, e0⟩
    have e0' := e0.symm
    clear e0
    subst e0'
    clear HM HW
    go_wp2
    go_loopw [21] (fun q wr => ∃ i : Nat, i ≤ n ∧ q = .int .i64 i ∧ (∀ j z, j < i → zs[j]? = some z → fitsW m z false) ∧ wr = w) (fun q _ => n - (intOf q).toNat)
    case atStart => exact ⟨0, by omega, rfl, fun j z hj => by omega, rfl⟩
    case round =>
      obtain ⟨i, hi, rfl, hall, e0⟩ := hrel
      have e0' := e0.symm
      clear e0
      subst e0'
      by_cases hlt : i < n
      · have hlt1 : (i : Int) < (n : Int) := by omega
        obtain ⟨z, hzi⟩ : ∃ z, zs[i]? = some z := ⟨_, List.getElem?_eq_getElem (by omega)⟩
        obtain ⟨b, o, rfl, hcs⟩ := (unhide HL).2.resolve_left (by omega)
        have cz := hcs i z hzi
        have HF1 := hide (unhide HF w z (hz z (List.mem_of_getElem? hzi)))
        have hnb : (n : Int) ≤ 140737488351232 := by omega
        by_cases hfit : fitsW m z false
        · rw [decide_eq_true hfit] at HF1
          have HALL : Hid (∀ j z, j < i + 1 → zs[j]? = some z → fitsW m z false) := fun j z' hj hz' => by
            by_cases hji : j = i
            · subst hji
              rw [hzi] at hz'
              injection hz' with hz'
              subst hz'
              exact hfit
            · exact hall j z' (by omega) hz'
          clear hall hfit hcs HF HL HS HK hz
          go_wp2_with fail
          refine (unhide HF1).mono ?_
          rintro e w1 ⟨rfl, rfl⟩
          go_wp2
          go_roundw
          case rel => exact ⟨i + 1, by omega, by go_num, unhide HALL, by first | rfl | trivial⟩
          case measure => simp [intOf]; omega
        · rw [decide_eq_false hfit] at HF1
          have e1 : Hid (putW bs m false zs = (bs, 2)) := putW_no (fun h => hfit (h.2 z (List.mem_of_getElem? hzi)))
          clear hall hfit hcs HF HL HS hz
          go_wp2_with fail
          refine (unhide HF1).mono ?_
          rintro e w1 ⟨rfl, rfl⟩
          go_wp2
          go_ret
          rw [unhide e1]
          exact ⟨rfl, unhide HK⟩
      · obtain rfl : i = n := by omega
        have e1 : Hid (putW bs m false zs = (bs ++ zs.flatMap (bytesW m), 0)) := putW_ok (by rcases hm with rfl | rfl | rfl | rfl <;> (unfold wide; omega)) (fun z hz => by
          obtain ⟨j, hj⟩ := List.mem_iff_getElem?.1 hz
          exact hall j z (by have := (List.getElem?_eq_some_iff.1 hj).1; omega) hj)
        clear hall HF HK
        go_wp2
        go_loopw [33] (fun q W => ∃ j : Nat, j ≤ i ∧ q = .int .i64 j ∧ WN w B x y m bs zs j W) (fun q _ => i - (intOf q).toNat)
        case atStart => exact ⟨0, by omega, rfl, unhide HS⟩
        case round =>
          obtain ⟨j, hj, rfl, hN⟩ := hrel
          by_cases hlt2 : j < i
          · have hlt1 : (j : Int) < (i : Int) := by omega
            obtain ⟨z, hzi⟩ : ∃ z, zs[j]? = some z := ⟨_, List.getElem?_eq_getElem (by omega)⟩
            obtain ⟨b, o, rfl, hcs⟩ := (unhide HL).2.resolve_left (by omega)
            have cz0 := hcs j z hzi
            have hbf := hfar b o rfl (by omega)
            have cz := (World.cell?_of_block (a := ⟨b, o + j, none⟩) (hN.oth b (World.block_lt_of_cell? w _ cz0) hbf.1 hbf.2)).trans cz0
            have HC := hide (hN.call hm hzi (hz z (List.mem_of_getElem? hzi)) (by omega))
            have hnb : (i : Int) ≤ 140737488351232 := by omega
            clear hN hcs cz0 hbf HL HS hz hfar e1 hm
            go_wp2_with fail
            refine (unhide HC).mono ?_
            rintro e w1 ⟨rfl, hN1⟩
            have HN1 := hide hN1
            clear HC hN1 cz
            go_wp2
            go_roundw
            case rel => exact ⟨j + 1, by omega, by go_num, unhide HN1⟩
            case measure => simp [intOf]; omega
          · obtain rfl : j = i := by omega
            have ht : zs.take j = zs := List.take_of_length_le (by omega)
            have HN : Hid (WEnd w B x y (bs ++ zs.flatMap (bytesW m)) wr) := by
              obtain ⟨h1, h2, h3⟩ := hN
              rw [ht] at h1
              exact ⟨h1, h2, h3⟩
            clear hN HS HL hz hfar
            go_wp2
            go_ret
            rw [unhide e1]
            exact ⟨rfl, unhide HN⟩
  · rw [decide_eq_false hw] at HW
    have e1 : Hid (putW bs k false zs = (bs, 2)) := putW_no (fun h => hw h.1)
    clear h hw
    go_enter Tryz.func86, Tryz.ntmps86
    go_wp2_with fail
    refine (unhide HM).mono ?_
    rintro e w1 ⟨rfl, e0⟩
    have e0' := e0.symm
    clear e0
    subst e0'
    go_wp2_with fail
    refine (unhide HW).mono ?_
    rintro e w1 ⟨rfl, e0⟩
    have e0' := e0.symm
    clear e0
    subst e0'
    go_wp2
    go_ret
    rw [unhide e1]
    exact ⟨rfl, unhide HK⟩

end Go.Proofs.YtdcoknnjgpdigaaGreatDoor

/- The landed word: the writer's U, S, Patch (written by mk/mkword8.py); words. -/
namespace Go.Proofs.YtdcoknnjgpdigaaGreatDoor
open Go.RowKit
set_option linter.unusedVariables false

set_option maxHeartbeats 3200000 in
theorem ewriteS_any (w : World) (B x y d : Nat) (bs : List UInt8) (k : Int) (a : Option Addr) (n c : Nat) (zs : List Int)
    (h : Sp 151 w B x y d bs bs.length) (hl : Nums w a n zs) (hfar : ∀ b o, a = some ⟨b, o, none⟩ → 0 < n → b ≠ x ∧ b ≠ y) (hz : ∀ z ∈ zs, -9223372036854775808 ≤ z ∧ z ≤ 9223372036854775807) (hs : bs.length + 8 * n ≤ 140737488351232) (hk : -9223372036854775808 ≤ k ∧ k ≤ 9223372036854775807) :
    Calls Tryz.prog 86 #[.pointer (some ⟨x, 0, none⟩), .func (.func 151) #[] #[], .int .i64 k, .slice a n c] w fun e w' => e = .returned (.int .i64 (putW bs k true zs).2) ∧ WEnd w B x y (putW bs k true zs).1 w' := by
  have HM := hide (emade_any w B x y d bs _ h)
  have HW := hide (disSize_any w k)
  have HK : Hid (WEnd w B x y bs w) := ⟨⟨y, d, h, .inl rfl⟩, Below.refl _ _, fun _ _ _ _ => rfl⟩
  by_cases hw : wide k
  · rw [decide_eq_true hw] at HW
    obtain ⟨m, rfl, hm⟩ := wide_nat hw
    have HF := hide (fun W z hz => dfitsS_any W (m : Int) z hw hz)
    have HS := hide (WN.start h m zs)
    have hzl := hl.1
    have HL := hide hl
    clear h hw hl
    go_enter Tryz.func86, Tryz.ntmps86
    go_wp2_with fail
    refine (unhide HM).mono ?_
    rintro e w1 ⟨rfl, e0⟩
    have e0' := e0.symm
    clear e0
    subst e0'
    go_wp2_with fail
    refine (unhide HW).mono ?_
    rintro e w1 ⟨rfl, e0⟩
    have e0' := e0.symm
    clear e0
    subst e0'
    clear HM HW
    go_wp2
    go_loopw [21] (fun q wr => ∃ i : Nat, i ≤ n ∧ q = .int .i64 i ∧ (∀ j z, j < i → zs[j]? = some z → fitsW m z true) ∧ wr = w) (fun q _ => n - (intOf q).toNat)
    case atStart => exact ⟨0, by omega, rfl, fun j z hj => by omega, rfl⟩
    case round =>
      obtain ⟨i, hi, rfl, hall, e0⟩ := hrel
      have e0' := e0.symm
      clear e0
      subst e0'
      by_cases hlt : i < n
      · have hlt1 : (i : Int) < (n : Int) := by omega
        obtain ⟨z, hzi⟩ : ∃ z, zs[i]? = some z := ⟨_, List.getElem?_eq_getElem (by omega)⟩
        obtain ⟨b, o, rfl, hcs⟩ := (unhide HL).2.resolve_left (by omega)
        have cz := hcs i z hzi
        have HF1 := hide (unhide HF w z (hz z (List.mem_of_getElem? hzi)))
        have hnb : (n : Int) ≤ 140737488351232 := by omega
        by_cases hfit : fitsW m z true
        · rw [decide_eq_true hfit] at HF1
          have HALL : Hid (∀ j z, j < i + 1 → zs[j]? = some z → fitsW m z true) := fun j z' hj hz' => by
            by_cases hji : j = i
            · subst hji
              rw [hzi] at hz'
              injection hz' with hz'
              subst hz'
              exact hfit
            · exact hall j z' (by omega) hz'
          clear hall hfit hcs HF HL HS HK hz
          go_wp2_with fail
          refine (unhide HF1).mono ?_
          rintro e w1 ⟨rfl, rfl⟩
          go_wp2
          go_roundw
          case rel => exact ⟨i + 1, by omega, by go_num, unhide HALL, by first | rfl | trivial⟩
          case measure => simp [intOf]; omega
        · rw [decide_eq_false hfit] at HF1
          have e1 : Hid (putW bs m true zs = (bs, 2)) := putW_no (fun h => hfit (h.2 z (List.mem_of_getElem? hzi)))
          clear hall hfit hcs HF HL HS hz
          go_wp2_with fail
          refine (unhide HF1).mono ?_
          rintro e w1 ⟨rfl, rfl⟩
          go_wp2
          go_ret
          rw [unhide e1]
          exact ⟨rfl, unhide HK⟩
      · obtain rfl : i = n := by omega
        have e1 : Hid (putW bs m true zs = (bs ++ zs.flatMap (bytesW m), 0)) := putW_ok (by rcases hm with rfl | rfl | rfl | rfl <;> (unfold wide; omega)) (fun z hz => by
          obtain ⟨j, hj⟩ := List.mem_iff_getElem?.1 hz
          exact hall j z (by have := (List.getElem?_eq_some_iff.1 hj).1; omega) hj)
        clear hall HF HK
        go_wp2
        go_loopw [33] (fun q W => ∃ j : Nat, j ≤ i ∧ q = .int .i64 j ∧ WN w B x y m bs zs j W) (fun q _ => i - (intOf q).toNat)
        case atStart => exact ⟨0, by omega, rfl, unhide HS⟩
        case round =>
          obtain ⟨j, hj, rfl, hN⟩ := hrel
          by_cases hlt2 : j < i
          · have hlt1 : (j : Int) < (i : Int) := by omega
            obtain ⟨z, hzi⟩ : ∃ z, zs[j]? = some z := ⟨_, List.getElem?_eq_getElem (by omega)⟩
            obtain ⟨b, o, rfl, hcs⟩ := (unhide HL).2.resolve_left (by omega)
            have cz0 := hcs j z hzi
            have hbf := hfar b o rfl (by omega)
            have cz := (World.cell?_of_block (a := ⟨b, o + j, none⟩) (hN.oth b (World.block_lt_of_cell? w _ cz0) hbf.1 hbf.2)).trans cz0
            have HC := hide (hN.call hm hzi (hz z (List.mem_of_getElem? hzi)) (by omega))
            have hnb : (i : Int) ≤ 140737488351232 := by omega
            clear hN hcs cz0 hbf HL HS hz hfar e1 hm
            go_wp2_with fail
            refine (unhide HC).mono ?_
            rintro e w1 ⟨rfl, hN1⟩
            have HN1 := hide hN1
            clear HC hN1 cz
            go_wp2
            go_roundw
            case rel => exact ⟨j + 1, by omega, by go_num, unhide HN1⟩
            case measure => simp [intOf]; omega
          · obtain rfl : j = i := by omega
            have ht : zs.take j = zs := List.take_of_length_le (by omega)
            have HN : Hid (WEnd w B x y (bs ++ zs.flatMap (bytesW m)) wr) := by
              obtain ⟨h1, h2, h3⟩ := hN
              rw [ht] at h1
              exact ⟨h1, h2, h3⟩
            clear hN HS HL hz hfar
            go_wp2
            go_ret
            rw [unhide e1]
            exact ⟨rfl, unhide HN⟩
  · rw [decide_eq_false hw] at HW
    have e1 : Hid (putW bs k true zs = (bs, 2)) := putW_no (fun h => hw h.1)
    clear h hw
    go_enter Tryz.func86, Tryz.ntmps86
    go_wp2_with fail
    refine (unhide HM).mono ?_
    rintro e w1 ⟨rfl, e0⟩
    have e0' := e0.symm
    clear e0
    subst e0'
    go_wp2_with fail
    refine (unhide HW).mono ?_
    rintro e w1 ⟨rfl, e0⟩
    have e0' := e0.symm
    clear e0
    subst e0'
    go_wp2
    go_ret
    rw [unhide e1]
    exact ⟨rfl, unhide HK⟩

set_option maxHeartbeats 1600000 in
theorem eU_any (F : Nat → Prop) (w : World) (B x : Nat) (bs : List UInt8) (k : Int) (a : Option Addr) (n c : Nat) (zs : List Int) (h : WR F w B x bs) (hl : Nums w a n zs) (hfar : ∀ b o, a = some ⟨b, o, none⟩ → 0 < n → ¬ F b) (hz : ∀ z ∈ zs, -9223372036854775808 ≤ z ∧ z ≤ 9223372036854775807) (hs : bs.length + 8 * n ≤ 140737488351232) (hk : -9223372036854775808 ≤ k ∧ k ≤ 9223372036854775807) :
    Calls Tryz.prog 57 #[.pointer (some ⟨x, 0, none⟩), .int .i64 k, .slice a n c] w fun e w' => e = .returned (.int .i64 (putW bs k false zs).2) ∧ (∃ F', WR F' w' B x (putW bs k false zs).1 ∧ ∀ j, F' j → F j ∨ w.heap.size ≤ j) ∧ Fr6 F B w w' := by
  obtain ⟨y, d, rfl, h⟩ := h
  have H := hide (ewriteU_any w B x y d bs k a n c zs h hl (fun b o e hn => ⟨fun e1 => hfar b o e hn (.inl e1), fun e1 => hfar b o e hn (.inr e1)⟩) hz hs hk)
  clear h hl hfar hz
  go_enter Tryz.func57, Tryz.ntmps57
  go_wp2_with fail
  refine (unhide H).mono ?_
  rintro e w1 ⟨rfl, r⟩
  have R := hide r
  clear r H
  go_wp2
  go_ret
  obtain ⟨⟨y', c', h1, h2⟩, h3, h4⟩ := unhide R
  refine ⟨rfl, ⟨_, ⟨y', c', rfl, h1⟩, fun j hj => ?_⟩, h3, fun k hk hF => h4 k hk (fun e => hF (.inl e)) (fun e => hF (.inr e))⟩
  rcases hj with e | e
  · exact .inl (.inl e)
  · rcases h2 with e2 | e2
    · exact .inl (.inr (e.trans e2))
    · right
      omega

set_option maxHeartbeats 1600000 in
theorem eS_any (F : Nat → Prop) (w : World) (B x : Nat) (bs : List UInt8) (k : Int) (a : Option Addr) (n c : Nat) (zs : List Int) (h : WR F w B x bs) (hl : Nums w a n zs) (hfar : ∀ b o, a = some ⟨b, o, none⟩ → 0 < n → ¬ F b) (hz : ∀ z ∈ zs, -9223372036854775808 ≤ z ∧ z ≤ 9223372036854775807) (hs : bs.length + 8 * n ≤ 140737488351232) (hk : -9223372036854775808 ≤ k ∧ k ≤ 9223372036854775807) :
    Calls Tryz.prog 139 #[.pointer (some ⟨x, 0, none⟩), .int .i64 k, .slice a n c] w fun e w' => e = .returned (.int .i64 (putW bs k true zs).2) ∧ (∃ F', WR F' w' B x (putW bs k true zs).1 ∧ ∀ j, F' j → F j ∨ w.heap.size ≤ j) ∧ Fr6 F B w w' := by
  obtain ⟨y, d, rfl, h⟩ := h
  have H := hide (ewriteS_any w B x y d bs k a n c zs h hl (fun b o e hn => ⟨fun e1 => hfar b o e hn (.inl e1), fun e1 => hfar b o e hn (.inr e1)⟩) hz hs hk)
  clear h hl hfar hz
  go_enter Tryz.func139, Tryz.ntmps139
  go_wp2_with fail
  refine (unhide H).mono ?_
  rintro e w1 ⟨rfl, r⟩
  have R := hide r
  clear r H
  go_wp2
  go_ret
  obtain ⟨⟨y', c', h1, h2⟩, h3, h4⟩ := unhide R
  refine ⟨rfl, ⟨_, ⟨y', c', rfl, h1⟩, fun j hj => ?_⟩, h3, fun k hk hF => h4 k hk (fun e => hF (.inl e)) (fun e => hF (.inr e))⟩
  rcases hj with e | e
  · exact .inl (.inl e)
  · rcases h2 with e2 | e2
    · exact .inl (.inr (e.trans e2))
    · right
      omega

set_option maxHeartbeats 3200000 in
set_option maxRecDepth 100000 in
theorem ePatch_any (F : Nat → Prop) (w : World) (B x : Nat) (bs : List UInt8) (at_ k n : Int) (h : WR F w B x bs) (hs : bs.length ≤ 140737488351232) (ha : -9223372036854775808 ≤ at_ ∧ at_ ≤ 9223372036854775807) (hk : -9223372036854775808 ≤ k ∧ k ≤ 9223372036854775807) (hn : -9223372036854775808 ≤ n ∧ n ≤ 9223372036854775807) :
    Calls Tryz.prog 123 #[.pointer (some ⟨x, 0, none⟩), .int .i64 at_, .int .i64 k, .int .i64 n] w fun e w' => e = .returned (.int .i64 (patchW bs at_ k n).2) ∧ (∃ F', WR F' w' B x (patchW bs at_ k n).1 ∧ ∀ j, F' j → F j ∨ w.heap.size ≤ j) ∧ Fr6 F B w w' := by
  obtain ⟨y, d, rfl, h⟩ := h
  have HM := hide (emade_any w B x y d bs _ h)
  have HW := hide (disSize_any w k)
  have hBw : B ≤ w.heap.size := Nat.le_trans h.hx (Nat.le_of_lt h.xlt)
  have HK : Hid ((∃ F', WR F' w B x bs ∧ ∀ j, F' j → (j = x ∨ j = y) ∨ w.heap.size ≤ j) ∧ Fr6 (fun k => k = x ∨ k = y) B w w) := ⟨⟨_, ⟨y, d, rfl, h⟩, fun j hj => .inl hj⟩, Fr6.of_below (Below.refl _ _) hBw⟩
  have c0 := h.c0
  have c1 := h.c1
  by_cases hw : wide k
  case neg =>
    rw [decide_eq_false hw] at HW
    have e1 : Hid (patchW bs at_ k n = (bs, 2)) := if_neg (fun h => hw h.1.1)
    clear h hw
    generalize bs.length = N at *
    go_enter Tryz.func123, Tryz.ntmps123
    go_wp2_with fail
    refine (unhide HM).mono ?_
    rintro e w1 ⟨rfl, e0⟩
    have e0' := e0.symm
    clear e0
    subst e0'
    clear HM
    go_wp2_with fail
    refine (unhide HW).mono ?_
    rintro e w1 ⟨rfl, e0⟩
    have e0' := e0.symm
    clear e0
    subst e0'
    clear HW
    go_wp2
    go_ret
    rw [unhide e1]
    exact ⟨rfl, unhide HK⟩
  rw [decide_eq_true hw] at HW
  have HF := hide (dfitsU_any w k n hw hn)
  by_cases hf : fitsW k n false
  case neg =>
    rw [decide_eq_false hf] at HF
    have e1 : Hid (patchW bs at_ k n = (bs, 2)) := if_neg (fun h => hf h.1)
    clear h hw hf
    generalize bs.length = N at *
    go_enter Tryz.func123, Tryz.ntmps123
    go_wp2_with fail
    refine (unhide HM).mono ?_
    rintro e w1 ⟨rfl, e0⟩
    have e0' := e0.symm
    clear e0
    subst e0'
    clear HM
    go_wp2_with fail
    refine (unhide HW).mono ?_
    rintro e w1 ⟨rfl, e0⟩
    have e0' := e0.symm
    clear e0
    subst e0'
    clear HW
    go_wp2_with fail
    refine (unhide HF).mono ?_
    rintro e w1 ⟨rfl, e0⟩
    have e0' := e0.symm
    clear e0
    subst e0'
    clear HF
    go_wp2
    go_ret
    rw [unhide e1]
    exact ⟨rfl, unhide HK⟩
  rw [decide_eq_true hf] at HF
  by_cases h0 : at_ < 0
  case pos =>
    have e1 : Hid (patchW bs at_ k n = (bs, 2)) := if_neg (fun h => by have := h.2.1; omega)
    clear h hw hf
    generalize bs.length = N at *
    go_enter Tryz.func123, Tryz.ntmps123
    go_wp2_with fail
    refine (unhide HM).mono ?_
    rintro e w1 ⟨rfl, e0⟩
    have e0' := e0.symm
    clear e0
    subst e0'
    clear HM
    go_wp2_with fail
    refine (unhide HW).mono ?_
    rintro e w1 ⟨rfl, e0⟩
    have e0' := e0.symm
    clear e0
    subst e0'
    clear HW
    go_wp2_with fail
    refine (unhide HF).mono ?_
    rintro e w1 ⟨rfl, e0⟩
    have e0' := e0.symm
    clear e0
    subst e0'
    clear HF
    go_wp2
    go_ret
    rw [unhide e1]
    exact ⟨rfl, unhide HK⟩
  obtain ⟨m, rfl, hm⟩ := wide_nat hw
  obtain ⟨i, rfl⟩ : ∃ i : Nat, at_ = i := ⟨at_.toNat, by omega⟩
  have y1 : IntKind.i64.wrap ((bs.length : Int) - (m : Int)) = (bs.length : Int) - (m : Int) := by rw [IntKind.wrap_i64]; omega
  have y2 : (m : Int) ≤ 8 := by omega
  have y3 : (bs.length : Int) ≤ 140737488351232 := by omega
  by_cases h1 : (bs.length : Int) - (m : Int) < (i : Int)
  case pos =>
    have e1 : Hid (patchW bs (i : Int) (m : Int) n = (bs, 2)) := if_neg (fun h => by have := h.2.2; omega)
    clear h hw hf
    generalize bs.length = N at *
    go_enter Tryz.func123, Tryz.ntmps123
    go_wp2_with fail
    refine (unhide HM).mono ?_
    rintro e w1 ⟨rfl, e0⟩
    have e0' := e0.symm
    clear e0
    subst e0'
    clear HM
    go_wp2_with fail
    refine (unhide HW).mono ?_
    rintro e w1 ⟨rfl, e0⟩
    have e0' := e0.symm
    clear e0
    subst e0'
    clear HW
    go_wp2_with fail
    refine (unhide HF).mono ?_
    rintro e w1 ⟨rfl, e0⟩
    have e0' := e0.symm
    clear e0
    subst e0'
    clear HF
    go_wp2
    go_ret
    rw [unhide e1]
    exact ⟨rfl, unhide HK⟩
  case neg =>
    have e1 : Hid (patchW bs (i : Int) (m : Int) n = (ovr bs i (bytesW m n), 0)) := by
      show patchW bs (i : Int) (m : Int) n = _
      unfold patchW
      rw [if_pos ⟨hf, by omega, by omega⟩]
      unfold ovr
      rw [bytesW_len, Int.toNat_natCast, Int.toNat_natCast]
    have him : i + m ≤ bs.length := by omega
    have b2 : Below w.heap.size w (w.alloc (.cells #[.slice (some ⟨y, 0, none⟩) bs.length d, .int .i64 (i : Int)] 148)) := (Below.refl _ _).alloc (Nat.le_refl _) _
    have hl0 := heap_alloc_last w (.cells #[.slice (some ⟨y, 0, none⟩) bs.length d, .int .i64 (i : Int)] 148)
    have hyl := h.y
    have s2 : Sp 148 (w.alloc (.cells #[.slice (some ⟨y, 0, none⟩) bs.length d, .int .i64 (i : Int)] 148)) B w.heap.size y d bs i := ⟨hBw, by omega, hl0, own_below h.row b2⟩
    have HP := hide (dputN_any 148 _ B w.heap.size y d i m bs s2 (by omega) hm n hn (by omega))
    have HEND : Hid (∀ W, PN 148 (w.alloc (.cells #[.slice (some ⟨y, 0, none⟩) bs.length d, .int .i64 (i : Int)] 148)) B w.heap.size y d i m bs n m W → (∃ F', WR F' W B x (ovr bs i (bytesW m n)) ∧ ∀ j, F' j → (j = x ∨ j = y) ∨ w.heap.size ≤ j) ∧ Fr6 (fun k => k = x ∨ k = y) B w W) := fun W r => by
      obtain ⟨y', c', h2, _, h3⟩ := r.sp
      obtain ⟨rfl, rfl⟩ := h3 him
      have hfull : (bytesW m n).take m = bytesW m n := List.take_of_length_le (by rw [bytesW_len, Int.toNat_natCast]; omega)
      rw [hfull] at h2
      have hlen : (ovr bs i (bytesW m n)).length = bs.length := by rw [ovr_len bs i _ (by omega), bytesW_len, Int.toNat_natCast]; omega
      have hxl := h.xlt
      have hsz2 := b2.size
      have hoth : ∀ q, q < w.heap.size → q ≠ y' → W.heap[q]? = w.heap[q]? := fun q hq hy => (r.oth q (by omega) (by omega) hy).trans (b2.block q hq)
      have hblk : W.heap[x]? = _ := (hoth x hxl h.ne).trans h.blk
      refine ⟨⟨_, ⟨y', c', rfl, h.hx, h.ne, ?_, h2.row⟩, fun j hj => .inl hj⟩, (b2.mono hBw).trans r.bel, fun q hq hF => hoth q hq (fun e => hF (.inr e))⟩
      rw [hlen]
      exact hblk
    clear h hw hf hl0 b2 s2 hyl
    generalize bs.length = N at *
    go_enter Tryz.func123, Tryz.ntmps123
    go_wp2_with fail
    refine (unhide HM).mono ?_
    rintro e w1 ⟨rfl, e0⟩
    have e0' := e0.symm
    clear e0
    subst e0'
    clear HM
    go_wp2_with fail
    refine (unhide HW).mono ?_
    rintro e w1 ⟨rfl, e0⟩
    have e0' := e0.symm
    clear e0
    subst e0'
    clear HW
    go_wp2_with fail
    refine (unhide HF).mono ?_
    rintro e w1 ⟨rfl, e0⟩
    have e0' := e0.symm
    clear e0
    subst e0'
    clear HF
    go_wp2_with fail
    refine (unhide HP).mono ?_
    rintro e w2 ⟨rfl, r⟩
    have R := hide (unhide HEND w2 r)
    clear r HEND HP
    go_wp2
    go_ret
    rw [unhide e1]
    exact ⟨rfl, unhide R⟩

end Go.Proofs.YtdcoknnjgpdigaaGreatDoor

/- The landed pool: a writer while a pool is written; writeEntry. -/
namespace Go.Proofs.YtdcoknnjgpdigaaGreatDoor
open Go.RowKit
set_option linter.unusedVariables false

/-- A string's bytes, in a place of their own. -/
theorem kstr_bytes (l : List UInt8) (hl : l.length ≤ 9223372036854775807) : ∃ (cc : World → Nat) (cw : World → World), (∀ W, (convert 9 29 (.string ⟨l.toArray⟩)).run Tryz.prog W = .ok (.slice (some ⟨W.heap.size, 0, none⟩) l.length (cc W)) (cw W)) ∧
    (∀ W, Arg (cw W) (some ⟨W.heap.size, 0, none⟩) l.length (cc W) l) ∧ (∀ W, Below W.heap.size W (cw W)) := by
  have hsz : ((⟨l.toArray⟩ : ByteArray)).size = l.length := by simp [ByteArray.size]
  refine ⟨fun W => grownCap W l.length 0 5, fun W => W.drew.alloc (.cells (bytesRow ⟨l.toArray⟩ (grownCap W l.length 0 5)) 5 ((bytesRow ⟨l.toArray⟩ (grownCap W l.length 0 5)).size, (bytesRow ⟨l.toArray⟩ (grownCap W l.length 0 5)).size + 1)), fun W => ?_, fun W => ?_, fun W => ?_⟩
  · have := run_bytes_of_string (P := Tryz.prog) W 9 29 5 ⟨l.toArray⟩ Tryz.underlying9 Tryz.underlying29 Tryz.underlying5
    rw [hsz] at this
    exact this
  · refine ⟨⟨rfl, .inr ⟨_, _, rfl, (fun e => by cases e), fun ad e j u hu => ?_⟩⟩, grownCap_ge _ _ _ _, ?_, (fun e => by cases e)⟩
    · injection e with e
      subst e
      have hj := (List.getElem?_eq_some_iff.1 hu).1
      rw [bv_length] at hj
      rw [Addr.add_mid, Nat.zero_add]
      have h1 := World.cell?_alloc_mark W.drew (bytesRow ⟨l.toArray⟩ (grownCap W l.length 0 5)) 5 ((bytesRow ⟨l.toArray⟩ (grownCap W l.length 0 5)).size, (bytesRow ⟨l.toArray⟩ (grownCap W l.length 0 5)).size + 1) j
      refine h1.trans ?_
      rw [bytesRow_at _ _ j (by simpa using hj), ← hu]
      simp [bv, hj]
    · have := grownCap_le_maxLen W l.length 0 5 (by unfold maxLen; exact hl)
      unfold maxLen at this
      exact this
  · exact (Below.refl _ W).drew.alloc (Nat.le_refl _) _

/-- A writer that wrote bs, since w0. -/
structure WS (F0 : Nat → Prop) (w0 : World) (B x : Nat) (bs : List UInt8) (W : World) : Prop where
  ex : ∃ F, WR F W B x bs ∧ ∀ j, F j → F0 j ∨ w0.heap.size ≤ j
  fr : Fr6 F0 B w0 W
theorem kwr_lt {F : Nat → Prop} {w : World} {B x : Nat} {bs : List UInt8} (h : WR F w B x bs) : ∀ k, F k → B ≤ k ∧ k < w.heap.size := by
  obtain ⟨y, c, rfl, h⟩ := h
  intro k hk
  rcases hk with rfl | rfl
  · exact ⟨h.hx, h.xlt⟩
  · exact h.y
theorem kwr_below {F : Nat → Prop} {w w' : World} {B x : Nat} {bs : List UInt8} (h : WR F w B x bs) (f : Below w.heap.size w w') : WR F w' B x bs := by
  obtain ⟨y, c, rfl, h⟩ := h
  exact ⟨y, c, rfl, h.below f⟩
theorem kfr_trans {F F1 : Nat → Prop} {B : Nat} {w w1 w2 : World} (f1 : Fr6 F B w w1) (f2 : Fr6 F1 B w1 w2) (hF : ∀ k, F1 k → F k ∨ w.heap.size ≤ k) : Fr6 F B w w2 :=
  ⟨f1.below.trans f2.below, fun k hk hn => (f2.other k (Nat.lt_of_lt_of_le hk f1.below.size) (fun h => (hF k h).elim hn (fun h => by omega))).trans (f1.other k hk hn)⟩
theorem WS.start {F0 : Nat → Prop} {w : World} {B x : Nat} {bs : List UInt8} (h : WR F0 w B x bs) : WS F0 w B x bs w := ⟨⟨F0, h, fun j hj => .inl hj⟩, Below.refl _ _, fun _ _ _ => rfl⟩
theorem WS.below {F0 : Nat → Prop} {w0 W W' : World} {B x : Nat} {bs : List UInt8} (h : WS F0 w0 B x bs W) (hB : B ≤ w0.heap.size) (f : Below W.heap.size W W') : WS F0 w0 B x bs W' := by
  obtain ⟨F, h1, h2⟩ := h.ex
  exact ⟨⟨F, kwr_below h1 f, h2⟩, kfr_trans (F1 := fun _ => False) h.fr (Fr6.of_below f (Nat.le_trans hB h.fr.below.size)) (fun k hk => hk.elim)⟩
theorem WS.next {F0 F F' : Nat → Prop} {w0 W W' : World} {B x : Nat} {bs bs' : List UInt8} (h : WS F0 w0 B x bs W) (hF : ∀ j, F j → F0 j ∨ w0.heap.size ≤ j) (h1 : WR F' W' B x bs') (h2 : ∀ j, F' j → F j ∨ W.heap.size ≤ j) (f : Fr6 F B W W') : WS F0 w0 B x bs' W' :=
  ⟨⟨F', h1, fun j hj => (h2 j hj).elim (fun e => hF j e) (fun e => .inr (Nat.le_trans h.fr.below.size e))⟩, kfr_trans h.fr f hF⟩
theorem knums_two (w : World) (y z : Int) : Nums (w.alloc (.cells #[.int .i64 y, .int .i64 z] 3)) (some ⟨w.heap.size, 0, none⟩) 2 [y, z] := by
  have h := heap_alloc_last w (.cells #[.int .i64 y, .int .i64 z] 3)
  refine ⟨rfl, .inr ⟨_, _, rfl, fun j q hq => ?_⟩⟩
  match j with
  | 0 =>
    simp at hq
    subst hq
    rw [cell_of_row _ _ _ _ _ _ h]
    rfl
  | 1 =>
    simp at hq
    subst hq
    rw [cell_of_row _ _ _ _ _ _ h]
    rfl
  | j + 2 => simp at hq
def Rng (z : Int) : Prop := -9223372036854775808 ≤ z ∧ z ≤ 9223372036854775807
theorem ws_u {F0 : Nat → Prop} {w0 W : World} {B x : Nat} {bs : List UInt8} (h : WS F0 w0 B x bs W) (hB : B ≤ w0.heap.size) (k : Int) (z : Int) (hw : wide k) (hz : fitsW k z false) (rz : Rng z) (hs : bs.length ≤ 100000000) (rk : Rng k) :
    Calls Tryz.prog 57 #[.pointer (some ⟨x, 0, none⟩), .int .i64 k, .slice (some ⟨W.heap.size, 0, none⟩) 1 1] (W.alloc (.cells #[.int .i64 z] 3)) fun e w' => e = .returned (.int .i64 0) ∧ WS F0 w0 B x (bs ++ bytesW k z) w' := by
  have f : Below W.heap.size W (W.alloc (.cells #[.int .i64 z] 3)) := (Below.refl _ _).alloc (Nat.le_refl _) _
  have h' := h.below hB f
  obtain ⟨F, h1, h2⟩ := h.ex
  have h1' := kwr_below h1 f
  have hp : putW bs k false [z] = (bs ++ bytesW k z, 0) := by
    rw [putW_ok hw (fun q hq => by
      simp at hq
      subst hq
      exact hz)]
    simp
  refine (eU_any F _ B x bs k _ 1 1 [z] h1' (nums_one W z) (fun b o e _ hb => ?_) (fun q hq => ?_) (by omega) rk).mono ?_
  · injection e with e
    injection e with e1
    have := (kwr_lt h1 b hb).2
    omega
  · simp at hq
    subst hq
    exact rz
  · rintro e w' ⟨rfl, ⟨F', r1, r2⟩, r3⟩
    rw [hp] at r1 ⊢
    exact ⟨rfl, h'.next h2 r1 r2 r3⟩
theorem ws_s {F0 : Nat → Prop} {w0 W : World} {B x : Nat} {bs : List UInt8} (h : WS F0 w0 B x bs W) (hB : B ≤ w0.heap.size) (k : Int) (z : Int) (hw : wide k) (hz : fitsW k z true) (rz : Rng z) (hs : bs.length ≤ 100000000) (rk : Rng k) :
    Calls Tryz.prog 139 #[.pointer (some ⟨x, 0, none⟩), .int .i64 k, .slice (some ⟨W.heap.size, 0, none⟩) 1 1] (W.alloc (.cells #[.int .i64 z] 3)) fun e w' => e = .returned (.int .i64 0) ∧ WS F0 w0 B x (bs ++ bytesW k z) w' := by
  have f : Below W.heap.size W (W.alloc (.cells #[.int .i64 z] 3)) := (Below.refl _ _).alloc (Nat.le_refl _) _
  have h' := h.below hB f
  obtain ⟨F, h1, h2⟩ := h.ex
  have h1' := kwr_below h1 f
  have hp : putW bs k true [z] = (bs ++ bytesW k z, 0) := by
    rw [putW_ok hw (fun q hq => by
      simp at hq
      subst hq
      exact hz)]
    simp
  refine (eS_any F _ B x bs k _ 1 1 [z] h1' (nums_one W z) (fun b o e _ hb => ?_) (fun q hq => ?_) (by omega) rk).mono ?_
  · injection e with e
    injection e with e1
    have := (kwr_lt h1 b hb).2
    omega
  · simp at hq
    subst hq
    exact rz
  · rintro e w' ⟨rfl, ⟨F', r1, r2⟩, r3⟩
    rw [hp] at r1 ⊢
    exact ⟨rfl, h'.next h2 r1 r2 r3⟩
theorem ws_u2 {F0 : Nat → Prop} {w0 W : World} {B x : Nat} {bs : List UInt8} (h : WS F0 w0 B x bs W) (hB : B ≤ w0.heap.size) (k : Int) (y z : Int) (hw : wide k) (hy : fitsW k y false) (hz : fitsW k z false) (ry : Rng y) (rz : Rng z) (hs : bs.length ≤ 100000000) (rk : Rng k) :
    Calls Tryz.prog 57 #[.pointer (some ⟨x, 0, none⟩), .int .i64 k, .slice (some ⟨W.heap.size, 0, none⟩) 2 2] (W.alloc (.cells #[.int .i64 y, .int .i64 z] 3)) fun e w' => e = .returned (.int .i64 0) ∧ WS F0 w0 B x (bs ++ (bytesW k y ++ bytesW k z)) w' := by
  have f : Below W.heap.size W (W.alloc (.cells #[.int .i64 y, .int .i64 z] 3)) := (Below.refl _ _).alloc (Nat.le_refl _) _
  have h' := h.below hB f
  obtain ⟨F, h1, h2⟩ := h.ex
  have h1' := kwr_below h1 f
  have hp : putW bs k false [y, z] = (bs ++ (bytesW k y ++ bytesW k z), 0) := by
    rw [putW_ok hw (fun q hq => by
      simp at hq
      rcases hq with rfl | rfl
      · exact hy
      · exact hz)]
    simp
  refine (eU_any F _ B x bs k _ 2 2 [y, z] h1' (knums_two W y z) (fun b o e _ hb => ?_) (fun q hq => ?_) (by omega) rk).mono ?_
  · injection e with e
    injection e with e1
    have := (kwr_lt h1 b hb).2
    omega
  · simp at hq
    rcases hq with rfl | rfl
    · exact ry
    · exact rz
  · rintro e w' ⟨rfl, ⟨F', r1, r2⟩, r3⟩
    rw [hp] at r1 ⊢
    exact ⟨rfl, h'.next h2 r1 r2 r3⟩
theorem ws_bytes {F0 : Nat → Prop} {w0 W W' : World} {B x : Nat} {bs : List UInt8} (h : WS F0 w0 B x bs W) (hB : B ≤ w0.heap.size) (f : Below W.heap.size W W') (b c : Nat) (ys : List UInt8) (ha : Arg W' (some ⟨b, 0, none⟩) ys.length c ys) (hb : W.heap.size ≤ b) (hs : bs.length ≤ 100000000) (hy : ys.length ≤ 100000000) :
    Calls Tryz.prog 88 #[.pointer (some ⟨x, 0, none⟩), .slice (some ⟨b, 0, none⟩) ys.length c] W' fun e w' => e = .returned (.int .i64 0) ∧ WS F0 w0 B x (bs ++ ys) w' := by
  have h' := h.below hB f
  obtain ⟨F, h1, h2⟩ := h.ex
  have h1' := kwr_below h1 f
  refine (eBytes_any F W' B x bs _ ys.length c ys h1' ha (fun b' o e _ hb' => ?_) (by omega)).mono ?_
  · injection e with e
    injection e with e1
    have := (kwr_lt h1 b' hb').2
    omega
  · rintro e w' ⟨rfl, ⟨F', r1, r2⟩, r3⟩
    exact ⟨rfl, h'.next h2 r1 r2 r3⟩
theorem bytesW_one {t : Int} (h0 : 0 ≤ t) (h1 : t < 256) : bytesW 1 t = [UInt8.ofNat t.toNat] := by
  unfold bytesW
  have e : (t % 18446744073709551616).toNat = t.toNat := by omega
  rw [e]
  show beK 1 t.toNat = _
  simp [beK]

theorem fits_tag {t : Int} (h0 : 0 ≤ t) (h1 : t < 256) : fitsW 1 t false := by
  unfold fitsW
  rw [if_neg (by decide), if_neg (by decide)]
  exact ⟨by decide, h0, h1⟩
theorem WS.leave {F0 F : Nat → Prop} {w0 w w1 W : World} {B x : Nat} {bs bs' : List UInt8} (h : WS F0 w0 B x bs w) (hB : B ≤ w0.heap.size) (hF : ∀ j, F j → F0 j ∨ w0.heap.size ≤ j) (b : Below w.heap.size w w1) (g : WS F w1 B x bs' W) : WS F0 w0 B x bs' W := by
  obtain ⟨F', h1, h2⟩ := g.ex
  have hs := h.fr.below.size
  exact ⟨⟨F', h1, fun j hj => (h2 j hj).elim (fun e => hF j e) (fun e => .inr (Nat.le_trans hs (Nat.le_trans b.size e)))⟩, kfr_trans h.fr (kfr_trans (Fr6.of_below b (Nat.le_trans hB hs)) g.fr (fun k hk => .inl hk)) hF⟩
theorem WS.box {F : Nat → Prop} {w w1 W : World} {B x : Nat} {bs : List UInt8} {X : Obj} (hF : ∀ k, F k → B ≤ k ∧ k < w.heap.size) (h1 : w1.heap[w.heap.size]? = some X) (g : WS F w1 B x bs W) : W.heap[w.heap.size]? = some X :=
  (g.fr.other _ (lt_of_heap h1) (fun h => by have := (hF _ h).2; omega)).trans h1

set_option maxHeartbeats 3200000 in
set_option maxRecDepth 100000 in
theorem kwriteEntry_1 (F : Nat → Prop) (w : World) (B x : Nat) (bs : List UInt8) (h : WR F w B x bs) (hB : B ≤ w.heap.size) (hs : bs.length ≤ 10000000) (y : Ent) (ht : y.tag = 1) (hy : y.text.length ≤ 255) :
    Calls Tryz.prog 121 #[.pointer (some ⟨x, 0, none⟩), entV y] w fun e w' => e = .returned (.tuple #[]) ∧ WS F w B x (bs ++ bytesE y) w' := by
  have hbe : bytesE y = bytesW 1 1 ++ (bytesW 2 (y.text.length : Int) ++ y.text) := by
    unfold bytesE bodyE
    rw [ht, bytesW_one (by omega) (by omega)]
    simp
  obtain ⟨tag, text, nn, aa, bb⟩ := y
  simp only at ht hbe hy
  subst ht
  have HBE := hide hbe
  clear hbe
  have b0 : Below w.heap.size w (w.alloc (.cells #[.int .i64 1, .string ⟨text.toArray⟩, .int .i64 nn, .int .i64 aa, .int .i64 bb] 55)) := (Below.refl _ _).alloc (Nat.le_refl _) _
  have hl0 := heap_alloc_last w (.cells #[.int .i64 1, .string ⟨text.toArray⟩, .int .i64 nn, .int .i64 aa, .int .i64 bb] 55)
  have hF := kwr_lt h
  have S1 := WS.start (kwr_below h b0)
  have SW := WS.start h
  have HX := hide hl0
  have HW1 : Hid ((w.alloc (.cells #[.int .i64 1, .string ⟨text.toArray⟩, .int .i64 nn, .int .i64 aa, .int .i64 bb] 55)).heap.size = w.heap.size + 1) := by
    show (w.alloc (.cells #[.int .i64 1, .string ⟨text.toArray⟩, .int .i64 nn, .int .i64 aa, .int .i64 bb] 55)).heap.size = w.heap.size + 1
    simp
  have B0 := hide b0
  have hB1 : B ≤ (w.alloc (.cells #[.int .i64 1, .string ⟨text.toArray⟩, .int .i64 nn, .int .i64 aa, .int .i64 bb] 55)).heap.size := Nat.le_trans hB b0.size
  unfold entV
  simp only
  obtain ⟨cc, cw, hconv, hArg, hBel⟩ := kstr_bytes text (by omega)
  have hlen : (⟨text.toArray⟩ : ByteArray).size = text.length := by simp [ByteArray.size]
  have HA := hide hArg
  have HBl := hide hBel
  clear hArg hBel
  clear b0 hl0 h
  go_enter Tryz.func121, Tryz.ntmps121
  go_wp2_with fail
  generalize w.alloc (.cells #[.int .i64 1, .string ⟨text.toArray⟩, .int .i64 nn, .int .i64 aa, .int .i64 bb] 55) = w1 at *
  have HU := ws_u S1 hB1 1 1 (by decide) (fits_tag (by omega) (by omega)) (by unfold Rng; omega) (by omega) (by unfold Rng; omega)
  rw [unhide HW1] at HU
  refine HU.mono ?_
  rintro e w2 ⟨rfl, Sw2⟩
  clear HU
  have hl2 : (bs ++ bytesW 1 1).length = bs.length + 1 := by rw [List.length_append, bytesW_len]; rfl
  have xbw2 := Sw2.box hF (unhide HX)
  have x0w2 : w2.cell? ⟨w.heap.size, 0, none⟩ = some (.int .i64 1) := by rw [cell_of_row _ _ _ _ _ _ xbw2]; rfl
  have x1w2 : w2.cell? ⟨w.heap.size, 1, none⟩ = some (.string ⟨text.toArray⟩) := by rw [cell_of_row _ _ _ _ _ _ xbw2]; rfl
  clear xbw2
  go_wp2_with fail
  refine (ws_u Sw2 hB1 2 (text.length : Int) (by decide) (by unfold fitsW; rw [if_neg (by decide), if_neg (by decide)]; refine ⟨by decide, by omega, ?_⟩; show (text.length : Int) < 65536; omega) (by unfold Rng; omega) (by omega) (by unfold Rng; omega)).mono ?_
  rintro e w3 ⟨rfl, Sw3⟩
  have hl3 : (bs ++ bytesW 1 1 ++ bytesW 2 (text.length : Int)).length = bs.length + 3 := by rw [List.length_append, hl2, bytesW_len]; rfl
  have xbw3 := Sw3.box hF (unhide HX)
  have x1w3 : w3.cell? ⟨w.heap.size, 1, none⟩ = some (.string ⟨text.toArray⟩) := by rw [cell_of_row _ _ _ _ _ _ xbw3]; rfl
  clear xbw3
  go_wp2_with fail
  refine (ws_bytes Sw3 hB1 (unhide HBl w3) w3.heap.size (cc w3) text (unhide HA w3) (Nat.le_refl _) (by omega) (by omega)).mono ?_
  rintro e w4 ⟨rfl, Sw4⟩
  go_wp2
  go_end0
  have S9 := SW.leave hB (fun j hj => .inl hj) (unhide B0) Sw4
  refine ⟨rfl, ?_⟩
  rw [unhide HBE]
  simp only [← List.append_assoc] at S9 ⊢
  exact S9

set_option maxHeartbeats 3200000 in
set_option maxRecDepth 100000 in
theorem kwriteEntry_3 (F : Nat → Prop) (w : World) (B x : Nat) (bs : List UInt8) (h : WR F w B x bs) (hB : B ≤ w.heap.size) (hs : bs.length ≤ 10000000) (y : Ent) (ht : y.tag = 3) (hy : -2147483648 ≤ y.n ∧ y.n ≤ 2147483647) :
    Calls Tryz.prog 121 #[.pointer (some ⟨x, 0, none⟩), entV y] w fun e w' => e = .returned (.tuple #[]) ∧ WS F w B x (bs ++ bytesE y) w' := by
  have hbe : bytesE y = bytesW 1 3 ++ bytesW 4 y.n := by
    unfold bytesE bodyE
    rw [ht, bytesW_one (by omega) (by omega)]
    simp
  obtain ⟨tag, text, nn, aa, bb⟩ := y
  simp only at ht hbe hy
  subst ht
  have HBE := hide hbe
  clear hbe
  have b0 : Below w.heap.size w (w.alloc (.cells #[.int .i64 3, .string ⟨text.toArray⟩, .int .i64 nn, .int .i64 aa, .int .i64 bb] 55)) := (Below.refl _ _).alloc (Nat.le_refl _) _
  have hl0 := heap_alloc_last w (.cells #[.int .i64 3, .string ⟨text.toArray⟩, .int .i64 nn, .int .i64 aa, .int .i64 bb] 55)
  have hF := kwr_lt h
  have S1 := WS.start (kwr_below h b0)
  have SW := WS.start h
  have HX := hide hl0
  have HW1 : Hid ((w.alloc (.cells #[.int .i64 3, .string ⟨text.toArray⟩, .int .i64 nn, .int .i64 aa, .int .i64 bb] 55)).heap.size = w.heap.size + 1) := by
    show (w.alloc (.cells #[.int .i64 3, .string ⟨text.toArray⟩, .int .i64 nn, .int .i64 aa, .int .i64 bb] 55)).heap.size = w.heap.size + 1
    simp
  have B0 := hide b0
  have hB1 : B ≤ (w.alloc (.cells #[.int .i64 3, .string ⟨text.toArray⟩, .int .i64 nn, .int .i64 aa, .int .i64 bb] 55)).heap.size := Nat.le_trans hB b0.size
  unfold entV
  simp only
  clear b0 hl0 h
  go_enter Tryz.func121, Tryz.ntmps121
  go_wp2_with fail
  generalize w.alloc (.cells #[.int .i64 3, .string ⟨text.toArray⟩, .int .i64 nn, .int .i64 aa, .int .i64 bb] 55) = w1 at *
  have HU := ws_u S1 hB1 1 3 (by decide) (fits_tag (by omega) (by omega)) (by unfold Rng; omega) (by omega) (by unfold Rng; omega)
  rw [unhide HW1] at HU
  refine HU.mono ?_
  rintro e w2 ⟨rfl, Sw2⟩
  clear HU
  have hl2 : (bs ++ bytesW 1 3).length = bs.length + 1 := by rw [List.length_append, bytesW_len]; rfl
  have xbw2 := Sw2.box hF (unhide HX)
  have x0w2 : w2.cell? ⟨w.heap.size, 0, none⟩ = some (.int .i64 3) := by rw [cell_of_row _ _ _ _ _ _ xbw2]; rfl
  have x2w2 : w2.cell? ⟨w.heap.size, 2, none⟩ = some (.int .i64 nn) := by rw [cell_of_row _ _ _ _ _ _ xbw2]; rfl
  clear xbw2
  go_wp2_with fail
  refine (ws_s Sw2 hB1 4 nn (by decide) (by unfold fitsW; rw [if_neg (by decide), if_pos rfl]; refine ⟨by decide, ?_⟩; show -(4294967296 : Int) ≤ 2 * nn ∧ 2 * nn < 4294967296; omega) (by unfold Rng; omega) (by omega) (by unfold Rng; omega)).mono ?_
  rintro e w3 ⟨rfl, Sw3⟩
  go_wp2
  go_end0
  have S9 := SW.leave hB (fun j hj => .inl hj) (unhide B0) Sw3
  refine ⟨rfl, ?_⟩
  rw [unhide HBE]
  simp only [← List.append_assoc] at S9 ⊢
  exact S9

set_option maxHeartbeats 3200000 in
set_option maxRecDepth 100000 in
theorem kwriteEntry_5 (F : Nat → Prop) (w : World) (B x : Nat) (bs : List UInt8) (h : WR F w B x bs) (hB : B ≤ w.heap.size) (hs : bs.length ≤ 10000000) (y : Ent) (ht : y.tag = 5) (hy : -9223372036854775808 ≤ y.n ∧ y.n ≤ 9223372036854775807) :
    Calls Tryz.prog 121 #[.pointer (some ⟨x, 0, none⟩), entV y] w fun e w' => e = .returned (.tuple #[]) ∧ WS F w B x (bs ++ bytesE y) w' := by
  have hbe : bytesE y = bytesW 1 5 ++ bytesW 8 y.n := by
    unfold bytesE bodyE
    rw [ht, bytesW_one (by omega) (by omega)]
    simp
  obtain ⟨tag, text, nn, aa, bb⟩ := y
  simp only at ht hbe hy
  subst ht
  have HBE := hide hbe
  clear hbe
  have b0 : Below w.heap.size w (w.alloc (.cells #[.int .i64 5, .string ⟨text.toArray⟩, .int .i64 nn, .int .i64 aa, .int .i64 bb] 55)) := (Below.refl _ _).alloc (Nat.le_refl _) _
  have hl0 := heap_alloc_last w (.cells #[.int .i64 5, .string ⟨text.toArray⟩, .int .i64 nn, .int .i64 aa, .int .i64 bb] 55)
  have hF := kwr_lt h
  have S1 := WS.start (kwr_below h b0)
  have SW := WS.start h
  have HX := hide hl0
  have HW1 : Hid ((w.alloc (.cells #[.int .i64 5, .string ⟨text.toArray⟩, .int .i64 nn, .int .i64 aa, .int .i64 bb] 55)).heap.size = w.heap.size + 1) := by
    show (w.alloc (.cells #[.int .i64 5, .string ⟨text.toArray⟩, .int .i64 nn, .int .i64 aa, .int .i64 bb] 55)).heap.size = w.heap.size + 1
    simp
  have B0 := hide b0
  have hB1 : B ≤ (w.alloc (.cells #[.int .i64 5, .string ⟨text.toArray⟩, .int .i64 nn, .int .i64 aa, .int .i64 bb] 55)).heap.size := Nat.le_trans hB b0.size
  unfold entV
  simp only
  clear b0 hl0 h
  go_enter Tryz.func121, Tryz.ntmps121
  go_wp2_with fail
  generalize w.alloc (.cells #[.int .i64 5, .string ⟨text.toArray⟩, .int .i64 nn, .int .i64 aa, .int .i64 bb] 55) = w1 at *
  have HU := ws_u S1 hB1 1 5 (by decide) (fits_tag (by omega) (by omega)) (by unfold Rng; omega) (by omega) (by unfold Rng; omega)
  rw [unhide HW1] at HU
  refine HU.mono ?_
  rintro e w2 ⟨rfl, Sw2⟩
  clear HU
  have hl2 : (bs ++ bytesW 1 5).length = bs.length + 1 := by rw [List.length_append, bytesW_len]; rfl
  have xbw2 := Sw2.box hF (unhide HX)
  have x0w2 : w2.cell? ⟨w.heap.size, 0, none⟩ = some (.int .i64 5) := by rw [cell_of_row _ _ _ _ _ _ xbw2]; rfl
  have x2w2 : w2.cell? ⟨w.heap.size, 2, none⟩ = some (.int .i64 nn) := by rw [cell_of_row _ _ _ _ _ _ xbw2]; rfl
  clear xbw2
  go_wp2_with fail
  refine (ws_s Sw2 hB1 8 nn (by decide) (by unfold fitsW; rw [if_pos rfl]; exact ⟨by decide, .inl rfl⟩) (by unfold Rng; omega) (by omega) (by unfold Rng; omega)).mono ?_
  rintro e w3 ⟨rfl, Sw3⟩
  go_wp2
  go_end0
  have S9 := SW.leave hB (fun j hj => .inl hj) (unhide B0) Sw3
  refine ⟨rfl, ?_⟩
  rw [unhide HBE]
  simp only [← List.append_assoc] at S9 ⊢
  exact S9

set_option maxHeartbeats 3200000 in
set_option maxRecDepth 100000 in
theorem kwriteEntry_7 (F : Nat → Prop) (w : World) (B x : Nat) (bs : List UInt8) (h : WR F w B x bs) (hB : B ≤ w.heap.size) (hs : bs.length ≤ 10000000) (y : Ent) (ht : y.tag = 7) (hy : 0 ≤ y.a ∧ y.a < 65536) :
    Calls Tryz.prog 121 #[.pointer (some ⟨x, 0, none⟩), entV y] w fun e w' => e = .returned (.tuple #[]) ∧ WS F w B x (bs ++ bytesE y) w' := by
  have hbe : bytesE y = bytesW 1 7 ++ bytesW 2 y.a := by
    unfold bytesE bodyE
    rw [ht, bytesW_one (by omega) (by omega)]
    simp
  obtain ⟨tag, text, nn, aa, bb⟩ := y
  simp only at ht hbe hy
  subst ht
  have HBE := hide hbe
  clear hbe
  have b0 : Below w.heap.size w (w.alloc (.cells #[.int .i64 7, .string ⟨text.toArray⟩, .int .i64 nn, .int .i64 aa, .int .i64 bb] 55)) := (Below.refl _ _).alloc (Nat.le_refl _) _
  have hl0 := heap_alloc_last w (.cells #[.int .i64 7, .string ⟨text.toArray⟩, .int .i64 nn, .int .i64 aa, .int .i64 bb] 55)
  have hF := kwr_lt h
  have S1 := WS.start (kwr_below h b0)
  have SW := WS.start h
  have HX := hide hl0
  have HW1 : Hid ((w.alloc (.cells #[.int .i64 7, .string ⟨text.toArray⟩, .int .i64 nn, .int .i64 aa, .int .i64 bb] 55)).heap.size = w.heap.size + 1) := by
    show (w.alloc (.cells #[.int .i64 7, .string ⟨text.toArray⟩, .int .i64 nn, .int .i64 aa, .int .i64 bb] 55)).heap.size = w.heap.size + 1
    simp
  have B0 := hide b0
  have hB1 : B ≤ (w.alloc (.cells #[.int .i64 7, .string ⟨text.toArray⟩, .int .i64 nn, .int .i64 aa, .int .i64 bb] 55)).heap.size := Nat.le_trans hB b0.size
  unfold entV
  simp only
  clear b0 hl0 h
  go_enter Tryz.func121, Tryz.ntmps121
  go_wp2_with fail
  generalize w.alloc (.cells #[.int .i64 7, .string ⟨text.toArray⟩, .int .i64 nn, .int .i64 aa, .int .i64 bb] 55) = w1 at *
  have HU := ws_u S1 hB1 1 7 (by decide) (fits_tag (by omega) (by omega)) (by unfold Rng; omega) (by omega) (by unfold Rng; omega)
  rw [unhide HW1] at HU
  refine HU.mono ?_
  rintro e w2 ⟨rfl, Sw2⟩
  clear HU
  have hl2 : (bs ++ bytesW 1 7).length = bs.length + 1 := by rw [List.length_append, bytesW_len]; rfl
  have xbw2 := Sw2.box hF (unhide HX)
  have x0w2 : w2.cell? ⟨w.heap.size, 0, none⟩ = some (.int .i64 7) := by rw [cell_of_row _ _ _ _ _ _ xbw2]; rfl
  have x3w2 : w2.cell? ⟨w.heap.size, 3, none⟩ = some (.int .i64 aa) := by rw [cell_of_row _ _ _ _ _ _ xbw2]; rfl
  clear xbw2
  go_wp2_with fail
  refine (ws_u Sw2 hB1 2 aa (by decide) (by unfold fitsW; rw [if_neg (by decide), if_neg (by decide)]; refine ⟨by decide, by omega, ?_⟩; show aa < 65536; omega) (by unfold Rng; omega) (by omega) (by unfold Rng; omega)).mono ?_
  rintro e w3 ⟨rfl, Sw3⟩
  go_wp2
  go_end0
  have S9 := SW.leave hB (fun j hj => .inl hj) (unhide B0) Sw3
  refine ⟨rfl, ?_⟩
  rw [unhide HBE]
  simp only [← List.append_assoc] at S9 ⊢
  exact S9

set_option maxHeartbeats 3200000 in
set_option maxRecDepth 100000 in
theorem kwriteEntry_9 (F : Nat → Prop) (w : World) (B x : Nat) (bs : List UInt8) (h : WR F w B x bs) (hB : B ≤ w.heap.size) (hs : bs.length ≤ 10000000) (y : Ent) (ht : y.tag = 9) (hy : (0 ≤ y.a ∧ y.a < 65536) ∧ (0 ≤ y.b ∧ y.b < 65536)) :
    Calls Tryz.prog 121 #[.pointer (some ⟨x, 0, none⟩), entV y] w fun e w' => e = .returned (.tuple #[]) ∧ WS F w B x (bs ++ bytesE y) w' := by
  have hbe : bytesE y = bytesW 1 9 ++ (bytesW 2 y.a ++ bytesW 2 y.b) := by
    unfold bytesE bodyE
    rw [ht, bytesW_one (by omega) (by omega)]
    simp
  obtain ⟨tag, text, nn, aa, bb⟩ := y
  simp only at ht hbe hy
  subst ht
  have HBE := hide hbe
  clear hbe
  have b0 : Below w.heap.size w (w.alloc (.cells #[.int .i64 9, .string ⟨text.toArray⟩, .int .i64 nn, .int .i64 aa, .int .i64 bb] 55)) := (Below.refl _ _).alloc (Nat.le_refl _) _
  have hl0 := heap_alloc_last w (.cells #[.int .i64 9, .string ⟨text.toArray⟩, .int .i64 nn, .int .i64 aa, .int .i64 bb] 55)
  have hF := kwr_lt h
  have S1 := WS.start (kwr_below h b0)
  have SW := WS.start h
  have HX := hide hl0
  have HW1 : Hid ((w.alloc (.cells #[.int .i64 9, .string ⟨text.toArray⟩, .int .i64 nn, .int .i64 aa, .int .i64 bb] 55)).heap.size = w.heap.size + 1) := by
    show (w.alloc (.cells #[.int .i64 9, .string ⟨text.toArray⟩, .int .i64 nn, .int .i64 aa, .int .i64 bb] 55)).heap.size = w.heap.size + 1
    simp
  have B0 := hide b0
  have hB1 : B ≤ (w.alloc (.cells #[.int .i64 9, .string ⟨text.toArray⟩, .int .i64 nn, .int .i64 aa, .int .i64 bb] 55)).heap.size := Nat.le_trans hB b0.size
  unfold entV
  simp only
  clear b0 hl0 h
  go_enter Tryz.func121, Tryz.ntmps121
  go_wp2_with fail
  generalize w.alloc (.cells #[.int .i64 9, .string ⟨text.toArray⟩, .int .i64 nn, .int .i64 aa, .int .i64 bb] 55) = w1 at *
  have HU := ws_u S1 hB1 1 9 (by decide) (fits_tag (by omega) (by omega)) (by unfold Rng; omega) (by omega) (by unfold Rng; omega)
  rw [unhide HW1] at HU
  refine HU.mono ?_
  rintro e w2 ⟨rfl, Sw2⟩
  clear HU
  have hl2 : (bs ++ bytesW 1 9).length = bs.length + 1 := by rw [List.length_append, bytesW_len]; rfl
  have xbw2 := Sw2.box hF (unhide HX)
  have x0w2 : w2.cell? ⟨w.heap.size, 0, none⟩ = some (.int .i64 9) := by rw [cell_of_row _ _ _ _ _ _ xbw2]; rfl
  have x3w2 : w2.cell? ⟨w.heap.size, 3, none⟩ = some (.int .i64 aa) := by rw [cell_of_row _ _ _ _ _ _ xbw2]; rfl
  have x4w2 : w2.cell? ⟨w.heap.size, 4, none⟩ = some (.int .i64 bb) := by rw [cell_of_row _ _ _ _ _ _ xbw2]; rfl
  clear xbw2
  go_wp2_with fail
  refine (ws_u2 Sw2 hB1 2 aa bb (by decide) (by unfold fitsW; rw [if_neg (by decide), if_neg (by decide)]; refine ⟨by decide, by omega, ?_⟩; show aa < 65536; omega) (by unfold fitsW; rw [if_neg (by decide), if_neg (by decide)]; refine ⟨by decide, by omega, ?_⟩; show bb < 65536; omega) (by unfold Rng; omega) (by unfold Rng; omega) (by omega) (by unfold Rng; omega)).mono ?_
  rintro e w3 ⟨rfl, Sw3⟩
  go_wp2
  go_end0
  have S9 := SW.leave hB (fun j hj => .inl hj) (unhide B0) Sw3
  refine ⟨rfl, ?_⟩
  rw [unhide HBE]
  simp only [← List.append_assoc] at S9 ⊢
  exact S9

set_option maxHeartbeats 3200000 in
set_option maxRecDepth 100000 in
theorem kwriteEntry_10 (F : Nat → Prop) (w : World) (B x : Nat) (bs : List UInt8) (h : WR F w B x bs) (hB : B ≤ w.heap.size) (hs : bs.length ≤ 10000000) (y : Ent) (ht : y.tag = 10) (hy : (0 ≤ y.a ∧ y.a < 65536) ∧ (0 ≤ y.b ∧ y.b < 65536)) :
    Calls Tryz.prog 121 #[.pointer (some ⟨x, 0, none⟩), entV y] w fun e w' => e = .returned (.tuple #[]) ∧ WS F w B x (bs ++ bytesE y) w' := by
  have hbe : bytesE y = bytesW 1 10 ++ (bytesW 2 y.a ++ bytesW 2 y.b) := by
    unfold bytesE bodyE
    rw [ht, bytesW_one (by omega) (by omega)]
    simp
  obtain ⟨tag, text, nn, aa, bb⟩ := y
  simp only at ht hbe hy
  subst ht
  have HBE := hide hbe
  clear hbe
  have b0 : Below w.heap.size w (w.alloc (.cells #[.int .i64 10, .string ⟨text.toArray⟩, .int .i64 nn, .int .i64 aa, .int .i64 bb] 55)) := (Below.refl _ _).alloc (Nat.le_refl _) _
  have hl0 := heap_alloc_last w (.cells #[.int .i64 10, .string ⟨text.toArray⟩, .int .i64 nn, .int .i64 aa, .int .i64 bb] 55)
  have hF := kwr_lt h
  have S1 := WS.start (kwr_below h b0)
  have SW := WS.start h
  have HX := hide hl0
  have HW1 : Hid ((w.alloc (.cells #[.int .i64 10, .string ⟨text.toArray⟩, .int .i64 nn, .int .i64 aa, .int .i64 bb] 55)).heap.size = w.heap.size + 1) := by
    show (w.alloc (.cells #[.int .i64 10, .string ⟨text.toArray⟩, .int .i64 nn, .int .i64 aa, .int .i64 bb] 55)).heap.size = w.heap.size + 1
    simp
  have B0 := hide b0
  have hB1 : B ≤ (w.alloc (.cells #[.int .i64 10, .string ⟨text.toArray⟩, .int .i64 nn, .int .i64 aa, .int .i64 bb] 55)).heap.size := Nat.le_trans hB b0.size
  unfold entV
  simp only
  clear b0 hl0 h
  go_enter Tryz.func121, Tryz.ntmps121
  go_wp2_with fail
  generalize w.alloc (.cells #[.int .i64 10, .string ⟨text.toArray⟩, .int .i64 nn, .int .i64 aa, .int .i64 bb] 55) = w1 at *
  have HU := ws_u S1 hB1 1 10 (by decide) (fits_tag (by omega) (by omega)) (by unfold Rng; omega) (by omega) (by unfold Rng; omega)
  rw [unhide HW1] at HU
  refine HU.mono ?_
  rintro e w2 ⟨rfl, Sw2⟩
  clear HU
  have hl2 : (bs ++ bytesW 1 10).length = bs.length + 1 := by rw [List.length_append, bytesW_len]; rfl
  have xbw2 := Sw2.box hF (unhide HX)
  have x0w2 : w2.cell? ⟨w.heap.size, 0, none⟩ = some (.int .i64 10) := by rw [cell_of_row _ _ _ _ _ _ xbw2]; rfl
  have x3w2 : w2.cell? ⟨w.heap.size, 3, none⟩ = some (.int .i64 aa) := by rw [cell_of_row _ _ _ _ _ _ xbw2]; rfl
  have x4w2 : w2.cell? ⟨w.heap.size, 4, none⟩ = some (.int .i64 bb) := by rw [cell_of_row _ _ _ _ _ _ xbw2]; rfl
  clear xbw2
  go_wp2_with fail
  refine (ws_u2 Sw2 hB1 2 aa bb (by decide) (by unfold fitsW; rw [if_neg (by decide), if_neg (by decide)]; refine ⟨by decide, by omega, ?_⟩; show aa < 65536; omega) (by unfold fitsW; rw [if_neg (by decide), if_neg (by decide)]; refine ⟨by decide, by omega, ?_⟩; show bb < 65536; omega) (by unfold Rng; omega) (by unfold Rng; omega) (by omega) (by unfold Rng; omega)).mono ?_
  rintro e w3 ⟨rfl, Sw3⟩
  go_wp2
  go_end0
  have S9 := SW.leave hB (fun j hj => .inl hj) (unhide B0) Sw3
  refine ⟨rfl, ?_⟩
  rw [unhide HBE]
  simp only [← List.append_assoc] at S9 ⊢
  exact S9

set_option maxHeartbeats 3200000 in
set_option maxRecDepth 100000 in
theorem kwriteEntry_12 (F : Nat → Prop) (w : World) (B x : Nat) (bs : List UInt8) (h : WR F w B x bs) (hB : B ≤ w.heap.size) (hs : bs.length ≤ 10000000) (y : Ent) (ht : y.tag = 12) (hy : (0 ≤ y.a ∧ y.a < 65536) ∧ (0 ≤ y.b ∧ y.b < 65536)) :
    Calls Tryz.prog 121 #[.pointer (some ⟨x, 0, none⟩), entV y] w fun e w' => e = .returned (.tuple #[]) ∧ WS F w B x (bs ++ bytesE y) w' := by
  have hbe : bytesE y = bytesW 1 12 ++ (bytesW 2 y.a ++ bytesW 2 y.b) := by
    unfold bytesE bodyE
    rw [ht, bytesW_one (by omega) (by omega)]
    simp
  obtain ⟨tag, text, nn, aa, bb⟩ := y
  simp only at ht hbe hy
  subst ht
  have HBE := hide hbe
  clear hbe
  have b0 : Below w.heap.size w (w.alloc (.cells #[.int .i64 12, .string ⟨text.toArray⟩, .int .i64 nn, .int .i64 aa, .int .i64 bb] 55)) := (Below.refl _ _).alloc (Nat.le_refl _) _
  have hl0 := heap_alloc_last w (.cells #[.int .i64 12, .string ⟨text.toArray⟩, .int .i64 nn, .int .i64 aa, .int .i64 bb] 55)
  have hF := kwr_lt h
  have S1 := WS.start (kwr_below h b0)
  have SW := WS.start h
  have HX := hide hl0
  have HW1 : Hid ((w.alloc (.cells #[.int .i64 12, .string ⟨text.toArray⟩, .int .i64 nn, .int .i64 aa, .int .i64 bb] 55)).heap.size = w.heap.size + 1) := by
    show (w.alloc (.cells #[.int .i64 12, .string ⟨text.toArray⟩, .int .i64 nn, .int .i64 aa, .int .i64 bb] 55)).heap.size = w.heap.size + 1
    simp
  have B0 := hide b0
  have hB1 : B ≤ (w.alloc (.cells #[.int .i64 12, .string ⟨text.toArray⟩, .int .i64 nn, .int .i64 aa, .int .i64 bb] 55)).heap.size := Nat.le_trans hB b0.size
  unfold entV
  simp only
  clear b0 hl0 h
  go_enter Tryz.func121, Tryz.ntmps121
  go_wp2_with fail
  generalize w.alloc (.cells #[.int .i64 12, .string ⟨text.toArray⟩, .int .i64 nn, .int .i64 aa, .int .i64 bb] 55) = w1 at *
  have HU := ws_u S1 hB1 1 12 (by decide) (fits_tag (by omega) (by omega)) (by unfold Rng; omega) (by omega) (by unfold Rng; omega)
  rw [unhide HW1] at HU
  refine HU.mono ?_
  rintro e w2 ⟨rfl, Sw2⟩
  clear HU
  have hl2 : (bs ++ bytesW 1 12).length = bs.length + 1 := by rw [List.length_append, bytesW_len]; rfl
  have xbw2 := Sw2.box hF (unhide HX)
  have x0w2 : w2.cell? ⟨w.heap.size, 0, none⟩ = some (.int .i64 12) := by rw [cell_of_row _ _ _ _ _ _ xbw2]; rfl
  have x3w2 : w2.cell? ⟨w.heap.size, 3, none⟩ = some (.int .i64 aa) := by rw [cell_of_row _ _ _ _ _ _ xbw2]; rfl
  have x4w2 : w2.cell? ⟨w.heap.size, 4, none⟩ = some (.int .i64 bb) := by rw [cell_of_row _ _ _ _ _ _ xbw2]; rfl
  clear xbw2
  go_wp2_with fail
  refine (ws_u2 Sw2 hB1 2 aa bb (by decide) (by unfold fitsW; rw [if_neg (by decide), if_neg (by decide)]; refine ⟨by decide, by omega, ?_⟩; show aa < 65536; omega) (by unfold fitsW; rw [if_neg (by decide), if_neg (by decide)]; refine ⟨by decide, by omega, ?_⟩; show bb < 65536; omega) (by unfold Rng; omega) (by unfold Rng; omega) (by omega) (by unfold Rng; omega)).mono ?_
  rintro e w3 ⟨rfl, Sw3⟩
  go_wp2
  go_end0
  have S9 := SW.leave hB (fun j hj => .inl hj) (unhide B0) Sw3
  refine ⟨rfl, ?_⟩
  rw [unhide HBE]
  simp only [← List.append_assoc] at S9 ⊢
  exact S9

theorem kwriteEntry_any (F : Nat → Prop) (w : World) (B x : Nat) (bs : List UInt8) (h : WR F w B x bs) (hB : B ≤ w.heap.size) (hs : bs.length ≤ 10000000) (l : List Ent) (hl : l.length ≤ 1024) (y : Ent) (ho : okE l y = true) (hf : EntFit y) :
    Calls Tryz.prog 121 #[.pointer (some ⟨x, 0, none⟩), entV y] w fun e w' => e = .returned (.tuple #[]) ∧ WS F w B x (bs ++ bytesE y) w' := by
  have hin : ∀ i t, tagE l i = t → t ≠ 0 → 0 ≤ i ∧ i < 65536 := fun i t e h0 => by
    have := tagE_in (l := l) (i := i) (by rw [e]; exact h0)
    omega
  rcases okE_tag ho with t | t | t | t | t | t | t
  · refine kwriteEntry_1 F w B x bs h hB hs y t ?_
    unfold okE at ho
    simp [t] at ho
    have := ho.1
    unfold textB at this
    simp at this
    exact this.2
  · refine kwriteEntry_3 F w B x bs h hB hs y t ?_
    unfold okE at ho
    simp [t] at ho
    exact ho.1
  · exact kwriteEntry_5 F w B x bs h hB hs y t hf.2.1
  · refine kwriteEntry_7 F w B x bs h hB hs y t ?_
    unfold okE at ho
    simp [t] at ho
    exact hin _ _ ho.1 (by decide)
  · refine kwriteEntry_12 F w B x bs h hB hs y t ?_
    unfold okE at ho
    simp [t] at ho
    exact ⟨hin _ _ ho.1.1 (by decide), hin _ _ ho.1.2 (by decide)⟩
  · refine kwriteEntry_9 F w B x bs h hB hs y t ?_
    unfold okE at ho
    simp [t] at ho
    exact ⟨hin _ _ ho.1.1 (by decide), hin _ _ ho.1.2 (by decide)⟩
  · refine kwriteEntry_10 F w B x bs h hB hs y t ?_
    unfold okE at ho
    simp [t] at ho
    exact ⟨hin _ _ ho.1.1 (by decide), hin _ _ ho.1.2 (by decide)⟩

end Go.Proofs.YtdcoknnjgpdigaaGreatDoor
