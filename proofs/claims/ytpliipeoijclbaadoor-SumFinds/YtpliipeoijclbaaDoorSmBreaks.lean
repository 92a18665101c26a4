/- The walk of SumBreaks. -/
import Derived.Test.YtpliipeoijclbaaDoorSmB
import Derived.Test.YtpliipeoijclbaaDoorSmW
import Derived.Deep.RegionLawGrows
namespace Go.Proofs.YtpliipeoijclbaaDoor
open Go.RowKit
set_option linter.unusedVariables false


theorem bit_val (m : Nat) (hm : m < 8) : IntKind.u8.wrap (2 ^ min (IntKind.u64.wrap (m : Int)).toNat 8) = ((2 ^ m : Nat) : Int) ∧ 2 ^ m < 256 := by
  match m, hm with
  | 0, _ => exact ⟨rfl, by decide⟩
  | 1, _ => exact ⟨rfl, by decide⟩
  | 2, _ => exact ⟨rfl, by decide⟩
  | 3, _ => exact ⟨rfl, by decide⟩
  | 4, _ => exact ⟨rfl, by decide⟩
  | 5, _ => exact ⟨rfl, by decide⟩
  | 6, _ => exact ⟨rfl, by decide⟩
  | 7, _ => exact ⟨rfl, by decide⟩
theorem turn_val (x : UInt8) (m : Nat) (hm : m < 8) : bits .xor .u8 (x.toNat : Int) (IntKind.u8.wrap (2 ^ min (IntKind.u64.wrap (m : Int)).toNat 8)) = ((x ^^^ UInt8.ofNat (2 ^ m)).toNat : Int) := by
  obtain ⟨h1, h2⟩ := bit_val m hm
  rw [h1, u8_xor_nat _ _ (u8_lt x) h2, UInt8.toNat_xor, UInt8.toNat_ofNat', Nat.mod_eq_of_lt h2]
theorem two_pow_ne (m : Nat) (hm : m < 8) : UInt8.ofNat (2 ^ m) ≠ 0 := by
  intro h
  have := congrArg UInt8.toNat h
  rw [UInt8.toNat_ofNat', Nat.mod_eq_of_lt (bit_val m hm).2] at this
  exact absurd this (Nat.ne_of_gt (Nat.pow_pos (by omega)))

set_option maxHeartbeats 1600000 in
theorem breaks_walk {T : World → Prop} (S : Sums T) (w : World) (a : Option Addr) (n cap : Nat) (l : List UInt8) (at_ bit : Int) (hT : T w) (hA : Arg w a n cap l) :
    Calls Tryd.prog 8 #[.slice a n cap, .int .i64 at_, .int .i64 bit] w fun e w' => e = .returned (.bool true) ∧ Below w.heap.size w w' := by
  have HT := hide hT
  clear hT
  by_cases hlim : n ≤ 2000
  · have g0 : decide ((2000 : Int) < (n : Int)) = false := by simp; omega
    have HB : Hid (Arg w a n cap l ∧ n ≤ 2000) := ⟨hA, hlim⟩
    clear hA
    go_enter Tryd.func8, Tryd.ntmps8
    have H0 := hide (gWorks S (unhide HT) (Below.refl _ _))
    go_wp2_with fail
    refine (unhide H0).mono ?_
    rintro e w1 ⟨rfl, f1, _⟩
    have hb2 := (unhide HB).2
    have H1 := gSeal S (unhide HT) f1 ((unhide HB).1.below f1) (by omega)
    obtain ⟨M, hM⟩ : ∃ M, M = n + 4 := ⟨_, rfl⟩
    rw [← hM] at H1
    have H1 := hide H1
    have hMb : ((M : Int) != (n : Int) + 4) = false := by rw [bne_eq_false_iff_eq]; omega
    have hMl : M ≤ 2004 := by omega
    have hM1 : 1 ≤ M := by omega
    have hln := (unhide HB).1.bs.1
    have hls : (sealL l).length = M := by rw [seal_len, hln, hM]
    have F1 := hide f1
    clear f1 H0 hM
    go_wp2_with fail
    refine (unhide H1).mono ?_
    rintro e w2 ⟨a2, c2, rfl, o2, A2, f2, _⟩
    have H2 := gRight S (unhide HT) f2 A2 (by omega)
    rw [right_seal] at H2
    have H2 := hide H2
    have O2 := hide o2
    clear f2 A2 o2 H1
    go_wp2_with fail
    refine (unhide H2).mono ?_
    rintro e w3 ⟨rfl, f3, b3⟩
    have o3 := own_below (unhide O2) b3
    obtain ⟨q, hq, hqb, hcell, hblk⟩ := own_some (unhide F1).size o3 hM1
    subst hq
    have hk := among_lt at_ M hM1
    have hm := among_lt bit 8 (by omega)
    have H3 := hide (Among_any w3 at_ M hM1 (by omega))
    have H4 := hide (fun (W : World) => Among_any W bit 8 (by omega) (by omega))
    generalize among at_ M = k at *
    generalize among bit 8 = m at *
    obtain ⟨x, hx⟩ : ∃ x, (sealL l)[k]? = some x := ⟨_, List.getElem?_eq_getElem (by omega)⟩
    have kc := (hcell k x hx).1
    have kf := (hcell k x hx).2
    obtain ⟨v, hv⟩ : ∃ v : UInt8, v = x ^^^ UInt8.ofNat (2 ^ m) := ⟨_, rfl⟩
    have hval : bits .xor .u8 (x.toNat : Int) (IntKind.u8.wrap (2 ^ min (IntKind.u64.wrap (m : Int)).toNat 8)) = (v.toNat : Int) := by rw [hv]; exact turn_val x m hm
    have f5 : Below w.heap.size w ((w3.setCell ⟨q, k, none⟩ (.int .u8 (v.toNat : Int))).drew) := (f3.setCell (p := ⟨q, k, none⟩) hqb _).drew
    have H5 := gRight S (unhide HT) f5 ((hblk k v).below (Below.drew (Below.refl _ _))) (by omega)
    rw [hv, turn1_set hx, right_turned l k (by omega) _ (two_pow_ne m hm), ← hv] at H5
    have H5 := hide H5
    clear hcell hblk H2 O2 b3 o3 f3 f5 F1 hv
    go_wp2_with fail
    refine (unhide H3).mono ?_
    rintro e w4 ⟨rfl, rfl⟩
    go_wp2_with fail
    go_region_law (go_simp; go_at_call 18; refine (unhide H4 _).mono ?_; rintro e w5 ⟨rfl, rfl⟩)
    all_goals
      clear kc kf hval H4 H3
      go_wp2_with fail
      refine (unhide H5).mono ?_
      rintro e w6 ⟨rfl, f6, _⟩
      have F6 := hide f6
      clear f6 H5
      go_wp2
      go_ret
      exact ⟨rfl, unhide F6⟩
  · obtain ⟨b, o, rfl, hb⟩ := hA.bs.2.resolve_left (by omega)
    have g0 : decide ((2000 : Int) < (n : Int)) = true := by simp; omega
    have hcap0 := hA.room
    have g1 : (2000 : Int) ≤ (cap : Int) := by omega
    have g2 : ¬ cap = 0 := by omega
    have HB : Hid (Arg w (some ⟨b, o, none⟩) 2000 cap (l.take 2000) ∧ 2000 ≤ 2000) := ⟨⟨⟨by have := hA.bs.1; simp; omega, .inr ⟨b, o, rfl, bytes_take hb _⟩⟩, by omega, hA.most, fun e => by cases e⟩, Nat.le_refl _⟩
    clear hA hb hcap0
    have HL : 2000 ≤ 2000 := Nat.le_refl _
    generalize l.take 2000 = l at *
    go_enter Tryd.func8, Tryd.ntmps8
    have H0 := hide (gWorks S (unhide HT) (Below.refl _ _))
    go_wp2_with fail
    refine (unhide H0).mono ?_
    rintro e w1 ⟨rfl, f1, _⟩
    have hb2 := (unhide HB).2
    have H1 := gSeal S (unhide HT) f1 ((unhide HB).1.below f1) (by omega)
    obtain ⟨M, hM⟩ : ∃ M, M = 2000 + 4 := ⟨_, rfl⟩
    rw [← hM] at H1
    have H1 := hide H1
    have hMb : ((M : Int) != 2004) = false := by rw [bne_eq_false_iff_eq]; omega
    have hMl : M ≤ 2004 := by omega
    have hM1 : 1 ≤ M := by omega
    have hln := (unhide HB).1.bs.1
    have hls : (sealL l).length = M := by rw [seal_len, hln, hM]
    have F1 := hide f1
    clear f1 H0 hM
    go_wp2_with fail
    refine (unhide H1).mono ?_
    rintro e w2 ⟨a2, c2, rfl, o2, A2, f2, _⟩
    have H2 := gRight S (unhide HT) f2 A2 (by omega)
    rw [right_seal] at H2
    have H2 := hide H2
    have O2 := hide o2
    clear f2 A2 o2 H1
    go_wp2_with fail
    refine (unhide H2).mono ?_
    rintro e w3 ⟨rfl, f3, b3⟩
    have o3 := own_below (unhide O2) b3
    obtain ⟨q, hq, hqb, hcell, hblk⟩ := own_some (unhide F1).size o3 hM1
    subst hq
    have hk := among_lt at_ M hM1
    have hm := among_lt bit 8 (by omega)
    have H3 := hide (Among_any w3 at_ M hM1 (by omega))
    have H4 := hide (fun (W : World) => Among_any W bit 8 (by omega) (by omega))
    generalize among at_ M = k at *
    generalize among bit 8 = m at *
    obtain ⟨x, hx⟩ : ∃ x, (sealL l)[k]? = some x := ⟨_, List.getElem?_eq_getElem (by omega)⟩
    have kc := (hcell k x hx).1
    have kf := (hcell k x hx).2
    obtain ⟨v, hv⟩ : ∃ v : UInt8, v = x ^^^ UInt8.ofNat (2 ^ m) := ⟨_, rfl⟩
    have hval : bits .xor .u8 (x.toNat : Int) (IntKind.u8.wrap (2 ^ min (IntKind.u64.wrap (m : Int)).toNat 8)) = (v.toNat : Int) := by rw [hv]; exact turn_val x m hm
    have f5 : Below w.heap.size w ((w3.setCell ⟨q, k, none⟩ (.int .u8 (v.toNat : Int))).drew) := (f3.setCell (p := ⟨q, k, none⟩) hqb _).drew
    have H5 := gRight S (unhide HT) f5 ((hblk k v).below (Below.drew (Below.refl _ _))) (by omega)
    rw [hv, turn1_set hx, right_turned l k (by omega) _ (two_pow_ne m hm), ← hv] at H5
    have H5 := hide H5
    clear hcell hblk H2 O2 b3 o3 f3 f5 F1 hv
    go_wp2_with fail
    refine (unhide H3).mono ?_
    rintro e w4 ⟨rfl, rfl⟩
    go_wp2_with fail
    go_region_law (go_simp; go_at_call 18; refine (unhide H4 _).mono ?_; rintro e w5 ⟨rfl, rfl⟩)
    all_goals
      clear kc kf hval H4 H3
      go_wp2_with fail
      refine (unhide H5).mono ?_
      rintro e w6 ⟨rfl, f6, _⟩
      have F6 := hide f6
      clear f6 H5
      go_wp2
      go_ret
      exact ⟨rfl, unhide F6⟩

end Go.Proofs.YtpliipeoijclbaaDoor
