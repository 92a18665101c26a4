/- The walk of SumTurns. -/
import Derived.Test.YtpliipeoijclbaaDoorSmBreaks
import Derived.Deep.CutBlock
namespace Go.Proofs.YtpliipeoijclbaaDoor
open Go.RowKit
set_option linter.unusedVariables false

def tV (c : Nat) (size at_ bit : Int) : Nat := if turnOk size at_ bit then c ^^^ turnV (size.toNat - at_.toNat - 1) bit.toNat else 0
def tE (size at_ bit : Int) : Int := if turnOk size at_ bit then 0 else 2
theorem gTurned {T : World → Prop} (S : Sums T) {w W : World} (hT : T w) (f : Below w.heap.size w W) (c : Nat) (hc : c < W32) (size at_ bit : Int) :
    Calls Tryd.prog 16 #[.int .u32 (c : Int), .int .i64 size, .int .i64 at_, .int .i64 bit] W fun e w' => e = .returned (.tuple #[.int .u32 (tV c size at_ bit : Int), .int .i64 (tE size at_ bit)]) ∧ Below w.heap.size w w' ∧ Below W.heap.size W w' := by
  unfold tV tE
  by_cases h : turnOk size at_ bit
  · rw [if_pos h, if_pos h]
    obtain ⟨h1, h2, h3, h4, h5, h6⟩ := h
    obtain ⟨s, rfl⟩ : ∃ s : Nat, size = s := ⟨size.toNat, by omega⟩
    obtain ⟨t, rfl⟩ : ∃ t : Nat, at_ = t := ⟨at_.toNat, by omega⟩
    obtain ⟨k, rfl⟩ : ∃ k : Nat, bit = k := ⟨bit.toNat, by omega⟩
    refine (S.turned_ok W c s t (s - t) k (S.below _ _ hT f) hc (by omega) (by omega) (by omega) (by omega)).mono ?_
    rintro e w' ⟨rfl, f'⟩
    exact ⟨rfl, f.trans (f'.mono f.size), f'⟩
  · rw [if_neg h, if_neg h]
    refine (S.turned_bad W c size at_ bit (S.below _ _ hT f) h).mono ?_
    rintro e w' ⟨rfl, f'⟩
    exact ⟨rfl, f.trans (f'.mono f.size), f'⟩
theorem gqTurned {w W : World} (f : Below w.heap.size w W) (c : Nat) (hc : c < W32) (size at_ bit : Int) :
    Calls Tryd.prog 17 #[.int .u32 (c : Int), .int .i64 size, .int .i64 at_, .int .i64 bit] W fun e w' => e = .returned (.tuple #[.int .u32 (tV c size at_ bit : Int), .int .i64 (tE size at_ bit)]) ∧ Below w.heap.size w w' ∧ Below W.heap.size W w' := by
  unfold tV tE
  by_cases h : turnOk size at_ bit
  · rw [if_pos h, if_pos h]
    obtain ⟨h1, h2, h3, h4, h5, h6⟩ := h
    obtain ⟨s, rfl⟩ : ∃ s : Nat, size = s := ⟨size.toNat, by omega⟩
    obtain ⟨t, rfl⟩ : ∃ t : Nat, at_ = t := ⟨at_.toNat, by omega⟩
    obtain ⟨k, rfl⟩ : ∃ k : Nat, bit = k := ⟨bit.toNat, by omega⟩
    refine (qTurned_ok W c hc s t (s - t) k (by omega) (by omega) (by omega) (by omega)).mono ?_
    rintro e w' ⟨rfl, f'⟩
    exact ⟨rfl, f.trans (f'.mono f.size), f'⟩
  · rw [if_neg h, if_neg h]
    refine (qTurned_bad W c size at_ bit h).mono ?_
    rintro e w' ⟨rfl, rfl⟩
    exact ⟨rfl, f, Below.refl _ _⟩
theorem turns_val {l : List UInt8} {k m : Nat} (hk : k < l.length) (hm : m < 8) : onS 0 (turn1 l k (UInt8.ofNat (2 ^ m))) = onS 0 l ^^^ turnV (l.length - k - 1) m := by
  rw [onS_turn1 0 hk]
  unfold turnV
  rw [UInt8.toNat_ofNat', Nat.mod_eq_of_lt (bit_val m hm).2]

theorem turn_val2 (x : UInt8) (m : Nat) (hm : m < 8) : bits .xor .u8 (x.toNat : Int) (2 ^ m % 256) = ((x ^^^ UInt8.ofNat (2 ^ m)).toNat : Int) := by
  have h2 := (bit_val m hm).2
  have h1 : (2 : Int) ^ m % 256 = ((2 ^ m : Nat) : Int) := by
    match m, hm with
    | 0, _ => rfl
    | 1, _ => rfl
    | 2, _ => rfl
    | 3, _ => rfl
    | 4, _ => rfl
    | 5, _ => rfl
    | 6, _ => rfl
    | 7, _ => rfl
  rw [h1, u8_xor_nat _ _ (u8_lt x) h2, UInt8.toNat_xor, UInt8.toNat_ofNat', Nat.mod_eq_of_lt h2]

set_option maxHeartbeats 3200000 in
set_option maxRecDepth 100000 in
theorem turns_walk {T : World → Prop} (S : Sums T) (w : World) (a : Option Addr) (n cap : Nat) (l : List UInt8) (at_ bit : Int) (c : Nat) (hc : c < W32) (size : Int) (hT : T w) (hA : Arg w a n cap l) :
    Calls Tryd.prog 4 #[.slice a n cap, .int .i64 at_, .int .i64 bit, .int .u32 (c : Int), .int .i64 size] w fun e w' => e = .returned (.bool true) ∧ Below w.heap.size w w' := by
  have HT := hide hT
  have HA := hide hA
  clear hT hA
  go_enter Tryd.func4, Tryd.ntmps4
  go_upto_if 22 with fail
  go_cut [0] from 20 (fun v wx => ∃ a n l, v = .slice a n cap ∧ Arg w a n cap l ∧ n ≤ 2000 ∧ wx = w)
  case first =>
    by_cases hlim : n ≤ 2000
    · have g0 : decide ((2000 : Int) < (n : Int)) = false := by simp; omega
      go_wp2
      go_meet
      exact ⟨a, n, l, rfl, unhide HA, hlim, rfl⟩
    · have hA := unhide HA
      obtain ⟨b, o, rfl, hb⟩ := hA.bs.2.resolve_left (by omega)
      have g0 : decide ((2000 : Int) < (n : Int)) = true := by simp; omega
      have hcap0 := hA.room
      have g1 : (2000 : Int) ≤ (cap : Int) := by omega
      have g2 : ¬ cap = 0 := by omega
      have HB : Hid (Arg w (some ⟨b, o, none⟩) 2000 cap (l.take 2000)) := ⟨⟨by have := hA.bs.1; simp; omega, .inr ⟨b, o, rfl, bytes_take hb _⟩⟩, by omega, hA.most, fun e => by cases e⟩
      clear hA hb hcap0
      go_wp2
      go_meet
      exact ⟨some ⟨b, o, none⟩, 2000, l.take 2000, rfl, unhide HB, Nat.le_refl _, rfl⟩
  case rest =>
    clear HA
    obtain ⟨a, n, l, rfl, hA, hn, rfl⟩ := hcut
    have HA := hide hA
    clear hA
    go_upto_region 3 with fail
    go_cut [4] from 20 (fun v wx => ∃ sz : Int, v = .int .i64 sz ∧ wx = wc)
    case first =>
      go_wp2
      all_goals
        go_meet
        exact ⟨_, rfl, rfl⟩
    case rest =>
      obtain ⟨sz, rfl, rfl⟩ := hcut
      have H1 := hide (gTurned S (unhide HT) (Below.refl _ _) c hc sz at_ bit)
      have H2 : Hid (∀ W, Below wc.heap.size wc W → Calls Tryd.prog 17 #[.int .u32 (c : Int), .int .i64 sz, .int .i64 at_, .int .i64 bit] W fun e w' => e = .returned (.tuple #[.int .u32 (tV c sz at_ bit : Int), .int .i64 (tE sz at_ bit)]) ∧ Below wc.heap.size wc w' ∧ Below W.heap.size W w') := fun W f => gqTurned f c hc sz at_ bit
      generalize tV c sz at_ bit = r at *
      generalize tE sz at_ bit = er at *
      go_wp2_with fail
      refine (unhide H1).mono ?_
      rintro e w1 ⟨rfl, f1, _⟩
      have H2' := hide (unhide H2 _ f1)
      clear f1 H1 H2
      go_wp2_with fail
      refine (unhide H2').mono ?_
      rintro e w2 ⟨rfl, f2, _⟩
      have F2 := hide f2
      clear f2 H2'
      by_cases h0 : n = 0
      · have H3 := hide (gWorks S (unhide HT) (unhide F2))
        subst h0
        go_wp2_with fail
        refine (unhide H3).mono ?_
        rintro e w3 ⟨rfl, f3, _⟩
        have F3 := hide f3
        clear f3 H3
        go_wp2
        go_ret
        exact ⟨rfl, unhide F3⟩
      · have h0b : ((n : Int) == 0) = false := by rw [beq_eq_false_iff_ne]; omega
        have hA := unhide HA
        have hln := hA.bs.1
        have hk := among_lt at_ n (by omega)
        have hm := among_lt bit 8 (by omega)
        have H3 := hide (Among_any w2 at_ n (by omega) (by omega))
        have H4 := hide (Among_any w2 bit 8 (by omega) (by omega))
        have H5 := hide (gOf S (unhide HT) (unhide F2) (hA.below (unhide F2)) (by omega))
        generalize among at_ n = k at *
        generalize among bit 8 = m at *
        obtain ⟨x, hx⟩ : ∃ x, l[k]? = some x := ⟨_, List.getElem?_eq_getElem (by omega)⟩
        obtain ⟨v, hv⟩ : ∃ v : UInt8, v = x ^^^ UInt8.ofNat (2 ^ m) := ⟨_, rfl⟩
        have hval : bits .xor .u8 (x.toNat : Int) (2 ^ m % 256) = (v.toNat : Int) := by rw [hv]; exact turn_val2 x m hm
        have hsum : onS 0 (l.set k v) = onS 0 l ^^^ turnV (n - k - 1) m := by rw [hv, turn1_set hx, turns_val (by omega) hm, hln]
        have h32 := onS_lt l zero_lt32
        have H6 : Hid (∀ W, Below wc.heap.size wc W → Calls Tryd.prog 16 #[.int .u32 (onS 0 l : Int), .int .i64 (n : Int), .int .i64 (k : Int), .int .i64 (m : Int)] W fun e w' => e = .returned (.tuple #[.int .u32 ((onS 0 (l.set k v) : Nat) : Int), .int .i64 0]) ∧ Below wc.heap.size wc w') := fun W f => by
          refine (S.turned_ok W (onS 0 l) n k (n - k) m (S.below _ _ (unhide HT) f) h32 (by omega) (by omega) (by omega) (by omega)).mono ?_
          rintro e w' ⟨rfl, f'⟩
          rw [hsum]
          exact ⟨rfl, f.trans (f'.mono f.size)⟩
        have HX := hide hx
        clear hA hsum hv hx
        generalize onS 0 l = s0 at *
        go_wp2_with fail
        refine (unhide H3).mono ?_
        rintro e w3 ⟨rfl, rfl⟩
        go_wp2_with fail
        refine (unhide H4).mono ?_
        rintro e w4 ⟨rfl, rfl⟩
        go_wp2_with fail
        refine (unhide H5).mono ?_
        rintro e w5 ⟨rfl, f5, _⟩
        have H6' := hide (unhide H6 _ f5)
        clear f5 H3 H4 H5 H6
        go_wp2_with fail
        refine (unhide H6').mono ?_
        rintro e w6 ⟨rfl, f6⟩
        have H7 := hide (gBytes f6 (unhide HA) (by omega))
        have F6 := hide f6
        clear f6 H6'
        go_wp2_with fail
        refine (unhide H7).mono ?_
        rintro e w7 ⟨a7, c7, rfl, o7, A7, f7, _⟩
        obtain ⟨q, hq, hqb, hcell, hblk⟩ := own_some (unhide F6).size o7 (by omega)
        subst hq
        have kc := (hcell k x (unhide HX)).1
        have kf := (hcell k x (unhide HX)).2
        have f8 : Below wc.heap.size wc (w7.setCell ⟨q, k, none⟩ (.int .u8 (v.toNat : Int))) := f7.setCell (p := ⟨q, k, none⟩) hqb _
        have H8 := gOf S (unhide HT) f8 (hblk k v) (by omega)
        rw [World.size_setCell] at H8
        have H8 := hide H8
        clear H7 o7 A7 f7 f8 hcell hblk
        generalize onS 0 (l.set k v) = s9 at *
        go_wp2_with fail
        refine (unhide H8).mono ?_
        rintro e w9 ⟨rfl, f9, _⟩
        have H9 := hide (gWorks S (unhide HT) f9)
        clear f9 H8
        go_wp2_with fail
        refine (unhide H9).mono ?_
        rintro e w10 ⟨rfl, f10, _⟩
        have F10 := hide f10
        clear f10 H9
        go_wp2
        go_ret
        exact ⟨rfl, unhide F10⟩

end Go.Proofs.YtpliipeoijclbaaDoor
