/- The landed word: putNumber. -/
import Derived.Test.YtkmcpedhcdgnoaaWdL5
import Derived.Test.YtkmcpedhcdgnoaaWdP
namespace Go.Proofs.Ytkmcpedhcdgnoaa
open Go.RowKit
set_option linter.unusedVariables false

/-- Bytes laid over others, from a place on. -/
def ovr (bs : List UInt8) (i : Nat) (l : List UInt8) : List UInt8 := bs.take i ++ l ++ bs.drop (i + l.length)
theorem ovr_nil (bs : List UInt8) (i : Nat) : ovr bs i [] = bs := by simp [ovr]
theorem ovr_end (bs l : List UInt8) : ovr bs bs.length l = bs ++ l := by
  unfold ovr
  rw [List.take_of_length_le (Nat.le_refl _), List.drop_eq_nil_of_le (by omega), List.append_nil]
theorem ovr_len (bs : List UInt8) (i : Nat) (l : List UInt8) (hi : i ≤ bs.length) : (ovr bs i l).length = max bs.length (i + l.length) := by
  unfold ovr
  simp
  omega
/-- One byte more. -/
def put1 (bs : List UInt8) (i : Nat) (u : UInt8) : List UInt8 := if i < bs.length then bs.set i u else bs ++ [u]
theorem ovr_put (bs : List UInt8) (i : Nat) (l : List UInt8) (u : UInt8) (hi : i ≤ bs.length) : put1 (ovr bs i l) (i + l.length) u = ovr bs i (l ++ [u]) := by
  unfold put1
  rw [ovr_len bs i l hi]
  by_cases h : i + l.length < bs.length
  · rw [if_pos (by omega)]
    unfold ovr
    have hl : (bs.take i ++ l).length = i + l.length := by simp; omega
    rw [List.set_append_right _ _ (by omega), hl, Nat.sub_self, List.append_assoc (bs.take i), List.append_assoc (bs.take i), List.append_assoc l]
    congr 2
    rw [List.length_append, List.length_singleton]
    rw [← Nat.add_assoc, List.drop_eq_getElem_cons h]
    rfl
  · rw [if_neg (by omega)]
    unfold ovr
    rw [List.drop_eq_nil_of_le (by omega), List.drop_eq_nil_of_le (by simp; omega)]
    simp

structure PutB (T : TypeId) (w : World) (B x y c i n : Nat) (bs : List UInt8) (W : World) : Prop where
  sp : ∃ y' c', Sp T W B x y' c' bs (i + 1) ∧ (y' = y ∨ w.heap.size ≤ y') ∧ (i < n → y' = y ∧ c' = c)
  bel : Below B w W
  oth : ∀ k, k < w.heap.size → k ≠ x → k ≠ y → W.heap[k]? = w.heap[k]?
theorem dput_one (T : TypeId) (w : World) (B x y c i : Nat) (bs : List UInt8) (h : Sp T w B x y c bs i) (hi : i ≤ bs.length) (z : Nat) (u : UInt8) (hz : w.cell? ⟨z, 0, none⟩ = some (.int .u8 (u.toNat : Int))) (hzx : z ≠ x) (hzy : z ≠ y) (hn : bs.length + 1 ≤ 140737488355328) :
    Calls Try.prog 43 #[.pointer (some ⟨x, 0, none⟩), .slice (some ⟨z, 0, none⟩) 1 1] w fun e w' => e = .returned (.tuple #[]) ∧ PutB T w B x y c i bs.length (put1 bs i u) w' := by
  unfold put1
  by_cases hlt : i < bs.length
  · rw [if_pos hlt]
    refine (dput_in T w B x y c i bs h hlt z u hz (by omega)).mono ?_
    rintro e w' ⟨rfl, r⟩
    exact ⟨rfl, ⟨y, c, r.sp, .inl rfl, fun _ => ⟨rfl, rfl⟩⟩, r.bel, r.oth⟩
  · obtain rfl : i = bs.length := by omega
    rw [if_neg hlt]
    have hb : Arg w (some ⟨z, 0, none⟩) 1 1 [u] := ⟨⟨rfl, .inr ⟨z, 0, rfl, (fun e => by cases e), fun ad e j v hv => by
      injection e with e
      subst e
      match j with
      | 0 =>
        simp [bv] at hv
        subst hv
        simpa [Addr.add_mid] using hz
      | j + 1 => simp [bv] at hv⟩⟩, by omega, by omega, fun e => by cases e⟩
    refine (dput_end T w B x y c bs h (some ⟨z, 0, none⟩) 1 1 [u] hb (fun b o e _ => by
      injection e with e
      injection e with e1
      subst e1
      exact ⟨hzx, hzy⟩) hn).mono ?_
    rintro e w' ⟨rfl, r⟩
    obtain ⟨y', c', h1, h2⟩ := r.sp
    exact ⟨rfl, ⟨y', c', h1, h2, fun h => absurd h hlt⟩, r.bel, r.oth⟩

/-- The byte of a number behind so many others. -/
def byteAt (n : Int) (j : Nat) : UInt8 := UInt8.ofNat ((n % 18446744073709551616).toNat / 256 ^ j)
theorem byteAt_eq (n : Int) (j : Nat) (hj : j < 8) : IntKind.u8.wrap (n / 2 ^ (8 * j)) = ((byteAt n j).toNat : Int) := by
  have hp : (2 : Int) ^ (8 * j) = ((256 ^ j : Nat) : Int) := by
    rw [Int.pow_mul]
    simp
  rw [hp, IntKind.wrap_u8]
  unfold byteAt
  rw [UInt8.toNat_ofNat']
  have : j = 0 ∨ j = 1 ∨ j = 2 ∨ j = 3 ∨ j = 4 ∨ j = 5 ∨ j = 6 ∨ j = 7 := by omega
  rcases this with rfl | rfl | rfl | rfl | rfl | rfl | rfl | rfl <;> (simp; omega)
theorem bytesW_take (m : Nat) (n : Int) (i : Nat) (hi : i < m) : (bytesW m n).take (i + 1) = (bytesW m n).take i ++ [byteAt n (m - 1 - i)] := by
  have key : ∀ (m : Nat) (x i : Nat), i < m → (beK m x)[i]? = some (UInt8.ofNat (x / 256 ^ (m - 1 - i))) := by
    intro m
    induction m with
    | zero => intro x i h; omega
    | succ m ih =>
      intro x i h
      rw [beK_cons]
      match i with
      | 0 => simp
      | i + 1 =>
        rw [List.getElem?_cons_succ, ih x i (by omega)]
        congr 4
        omega
  unfold bytesW
  rw [Int.toNat_natCast, List.take_add_one, key m _ i hi]
  rfl

/-- Between the rounds of putNumber. -/
structure PN (T : TypeId) (w : World) (B x y c i m : Nat) (bs : List UInt8) (n : Int) (k : Nat) (W : World) : Prop where
  sp : ∃ y' c', Sp T W B x y' c' (ovr bs i ((bytesW m n).take k)) (i + k) ∧ (y' = y ∨ w.heap.size ≤ y') ∧ (i + m ≤ bs.length → y' = y ∧ c' = c)
  bel : Below B w W
  oth : ∀ q, q < w.heap.size → q ≠ x → q ≠ y → W.heap[q]? = w.heap[q]?
theorem PN.start {T : TypeId} {w : World} {B x y c i : Nat} {bs : List UInt8} (h : Sp T w B x y c bs i) (m : Nat) (n : Int) : PN T w B x y c i m bs n 0 w :=
  ⟨⟨y, c, by rw [List.take_zero, ovr_nil]; exact h, .inl rfl, fun _ => ⟨rfl, rfl⟩⟩, Below.refl _ _, fun _ _ _ _ => rfl⟩
theorem ovr_room {bs : List UInt8} {i k m : Nat} {n : Int} (hi : i ≤ bs.length) (hk : k < m) (hn : bs.length + 8 ≤ 140737488355328) (hm : m ≤ 8) : (ovr bs i ((bytesW m n).take k)).length + 1 ≤ 140737488355328 ∧ i + k ≤ (ovr bs i ((bytesW m n).take k)).length ∧ ((bytesW m n).take k).length = k := by
  have hl : ((bytesW m n).take k).length = k := by rw [List.length_take, bytesW_len, Int.toNat_natCast]; omega
  rw [ovr_len bs i _ hi, hl]
  omega
theorem PN.call {T : TypeId} {w W : World} {B x y c i m : Nat} {bs : List UInt8} {n : Int} {k : Nat} (h : PN T w B x y c i m bs n k W) (hi : i ≤ bs.length) (hk : k < m) (hm : m ≤ 8) (hn : bs.length + 8 ≤ 140737488355328) (hBw : B ≤ w.heap.size) :
    Calls Try.prog 43 #[.pointer (some ⟨x, 0, none⟩), .slice (some ⟨W.heap.size, 0, none⟩) 1 1] (W.alloc (.cells #[.int .u8 ((byteAt n (m - 1 - k)).toNat : Int)] 5)) fun e w' => e = .returned (.tuple #[]) ∧ PN T w B x y c i m bs n (k + 1) w' := by
  obtain ⟨y', c', hs, hy, hc⟩ := h.sp
  obtain ⟨hr1, hr2, hr3⟩ := ovr_room (n := n) hi hk hn hm
  have b1 : Below W.heap.size W (W.alloc (.cells #[.int .u8 ((byteAt n (m - 1 - k)).toNat : Int)] 5)) := (Below.refl _ _).alloc (Nat.le_refl _) _
  have hx := hs.xlt
  have hyl := hs.y.2
  refine (dput_one T _ B x y' c' (i + k) _ (hs.below b1) hr2 W.heap.size (byteAt n (m - 1 - k)) (by rw [cell_of_row _ _ _ _ _ _ (heap_alloc_last W _)]; rfl) (by omega) (by omega) hr1).mono ?_
  rintro e w' ⟨rfl, r⟩
  obtain ⟨y2, c2, h2, h3, h4⟩ := r.sp
  have hsz := h.bel.size
  refine ⟨rfl, ⟨y2, c2, ?_, ?_, fun h5 => ?_⟩, (h.bel.alloc (Nat.le_trans hBw hsz) _).trans r.bel, fun q hq h5 h6 => ?_⟩
  · have e1 := ovr_put bs i ((bytesW m n).take k) (byteAt n (m - 1 - k)) hi
    rw [hr3, ← bytesW_take m n k hk] at e1
    rw [← e1]
    exact h2
  · rcases h3 with e | e
    · rw [e]; exact hy
    · right
      simp at e
      omega
  · obtain ⟨e1, e2⟩ := hc h5
    obtain ⟨e3, e4⟩ := h4 (by rw [ovr_len bs i _ hi, hr3]; omega)
    exact ⟨e3.trans e1, e4.trans e2⟩
  · have hqW : q < W.heap.size := by omega
    have hy2 : q ≠ y' := by
      rcases hy with e | e
      · rw [e]; exact h6
      · omega
    exact (r.oth q (by simp; omega) h5 hy2).trans ((heap_alloc_old W _ hqW).trans (h.oth q hq h5 h6))

set_option maxHeartbeats 3200000 in
theorem dputN_any (T : TypeId) (w : World) (B x y c i m : Nat) (bs : List UInt8) (h : Sp T w B x y c bs i) (hi : i ≤ bs.length) (hm : m = 1 ∨ m = 2 ∨ m = 4 ∨ m = 8) (n : Int) (hnn : -9223372036854775808 ≤ n ∧ n ≤ 9223372036854775807) (hn : bs.length + 8 ≤ 140737488355328) :
    Calls Try.prog 45 #[.pointer (some ⟨x, 0, none⟩), .int .i64 (m : Int), .int .i64 n] w fun e w' => e = .returned (.tuple #[]) ∧ PN T w B x y c i m bs n m w' := by
  have HP := hide (PN.start h m n)
  have hBw : B ≤ w.heap.size := Nat.le_trans h.hx (Nat.le_of_lt h.xlt)
  have hm8 : m ≤ 8 := by omega
  clear h
  go_enter Try.func45, Try.ntmps45
  go_wp2
  go_loopw [8] (fun q wr => ∃ k : Nat, k ≤ m ∧ q = .int .i64 k ∧ PN T w B x y c i m bs n k wr) (fun q _ => m - (intOf q).toNat)
  case atStart => exact ⟨0, by omega, rfl, unhide HP⟩
  case round =>
    obtain ⟨k, hk, rfl, hP⟩ := hrel
    by_cases hlt : k < m
    · have HC := hide (hP.call hi hlt hm8 hn hBw)
      obtain ⟨J, hJ⟩ : ∃ J, J = m - 1 - k := ⟨_, rfl⟩
      rw [← hJ] at HC
      have hby := byteAt_eq n J (by omega)
      generalize ((byteAt n J).toNat : Int) = by_ at *
      obtain ⟨S, hS⟩ : ∃ S, S = 8 * J := ⟨_, rfl⟩
      rw [← hS] at hby
      obtain ⟨m1, hm1⟩ : ∃ m1, m = m1 + 1 := ⟨m - 1, by omega⟩
      have a0 : (k : Int) < (m : Int) := by omega
      have a1 : (m : Int) - 1 = (m1 : Int) := by omega
      have a2 : (m1 : Int) - (k : Int) = (J : Int) := by omega
      have a3 : 8 * (J : Int) = (S : Int) := by omega
      have a4 : (S : Int) ≤ 64 := by omega
      have a5 : (m : Int) ≤ 8 := by omega
      have a6 : min S 64 = S := by omega
      clear hP HP hJ hS hm1 hm
      go_wp2_with fail
      refine (unhide HC).mono ?_
      rintro e w1 ⟨rfl, hP1⟩
      have HP1 := hide hP1
      clear hP1 HC
      go_wp2
      go_roundw
      case rel => exact ⟨k + 1, by omega, by go_num, unhide HP1⟩
      case measure => simp [intOf]; omega
    · obtain rfl : k = m := by omega
      have HP2 := hide hP
      clear hP HP
      go_wp2
      go_end0
      exact ⟨rfl, unhide HP2⟩

end Go.Proofs.Ytkmcpedhcdgnoaa
