/- The walk of SumTells. -/
import Derived.Test.YtpliipeoijclbaaDoorSmW
namespace Go.Proofs.YtpliipeoijclbaaDoor
open Go.RowKit
set_option linter.unusedVariables false

set_option maxHeartbeats 1600000 in
theorem tells_walk {T : World → Prop} (S : Sums T) (w : World) (c : Nat) (hc : c < W32) (a : Option Addr) (n cap : Nat) (l : List UInt8) (hT : T w) (hA : Arg w a n cap l) :
    Calls Tryd.prog 3 #[.int .u32 (c : Int), .slice a n cap] w fun e w' => e = .returned (.bool true) ∧ Below w.heap.size w w' := by
  have HT := hide hT
  clear hT
  by_cases hlim : n ≤ 4000
  · have g0 : decide ((4000 : Int) < (n : Int)) = false := by simp; omega
    have HB : Hid (Arg w a n cap l ∧ n ≤ 4000) := ⟨hA, hlim⟩
    clear hA
    go_enter Tryd.func3, Tryd.ntmps3
    have HY := hide (Bytes_arg (unhide HB).1 (by have := (unhide HB).2; omega))
    go_wp2_with fail
    refine (unhide HY).mono ?_
    rintro e w1 ⟨v1, rfl, o1, f1⟩
    obtain ⟨a1, c1, rfl, _⟩ := own_form o1
    have hln := (unhide HB).1.bs.1
    have H1 := hide (S.on w1 c a1 _ c1 l (S.below _ _ (unhide HT) f1) hc (by have := (unhide HB).2; omega) (bs_of_own hln o1))
    have F1 := hide f1
    have O1 := hide (bs_of_own hln o1)
    clear o1 f1 HY
    go_wp2_with fail
    refine (unhide H1).mono ?_
    rintro e w2 ⟨rfl, f2⟩
    have f2' : Below w.heap.size w w2 := (unhide F1).trans (f2.mono (unhide F1).size)
    have H2 := hide (qOn_any w2 c hc _ _ cap l (by have := (unhide HB).2; omega) ((unhide HB).1.bs.below f2'))
    have t2 := S.below _ _ (unhide HT) f2'
    have H3 := hide (sOf_one S w2 a1 _ c1 l t2 (by have := (unhide HB).2; omega) ((unhide O1).below f2))
    have O2 := hide ((unhide O1).below f2)
    have F2 := hide f2'
    clear f2 f2' t2 H1 F1 O1
    generalize onS c l = s1 at *
    go_wp2_with fail
    refine (unhide H2).mono ?_
    rintro e w3 ⟨rfl, rfl⟩
    go_wp2_with fail
    refine (unhide H3).mono ?_
    rintro e w4 ⟨rfl, f4⟩
    have f4' : Below w.heap.size w w4 := (unhide F2).trans (f4.mono (unhide F2).size)
    have H4 := hide (qOf_any w4 _ _ cap l (by have := (unhide HB).2; omega) ((unhide HB).1.bs.below f4'))
    have H5 := hide (SameBytes_same w4 _ _ l _ c1 cap ((unhide O2).below f4) ((unhide HB).1.bs.below f4'))
    have H6 := hide (works2_any S w4 (S.below _ _ (unhide HT) f4'))
    have F4 := hide f4'
    clear f4 f4' H2 H3 O2 F2
    generalize onS 0 l = s2 at *
    go_wp2_with fail
    refine (unhide H4).mono ?_
    rintro e w5 ⟨rfl, rfl⟩
    go_wp2_with fail
    refine (unhide H5).mono ?_
    rintro e w6 ⟨rfl, rfl⟩
    go_wp2_with fail
    refine (unhide H6).mono ?_
    rintro e w7 ⟨rfl, f7⟩
    have F7 := hide ((unhide F4).trans (f7.mono (unhide F4).size))
    clear f7 H4 H5 H6 F4
    go_wp2
    go_ret
    exact ⟨rfl, unhide F7⟩
  · obtain ⟨b, o, rfl, hb⟩ := hA.bs.2.resolve_left (by omega)
    have g0 : decide ((4000 : Int) < (n : Int)) = true := by simp; omega
    have hcap0 := hA.room
    have g1 : (4000 : Int) ≤ (cap : Int) := by omega
    have g2 : ¬ cap = 0 := by omega
    have HB : Hid (Arg w (some ⟨b, o, none⟩) 4000 cap (l.take 4000) ∧ 4000 ≤ 4000) := ⟨⟨⟨by have := hA.bs.1; simp; omega, .inr ⟨b, o, rfl, bytes_take hb _⟩⟩, by omega, hA.most, fun e => by cases e⟩, Nat.le_refl _⟩
    clear hA hb hcap0
    have HL : 4000 ≤ 4000 := Nat.le_refl _
    generalize l.take 4000 = l at *
    go_enter Tryd.func3, Tryd.ntmps3
    have HY := hide (Bytes_arg (unhide HB).1 (by have := (unhide HB).2; omega))
    go_wp2_with fail
    refine (unhide HY).mono ?_
    rintro e w1 ⟨v1, rfl, o1, f1⟩
    obtain ⟨a1, c1, rfl, _⟩ := own_form o1
    have hln := (unhide HB).1.bs.1
    have H1 := hide (S.on w1 c a1 _ c1 l (S.below _ _ (unhide HT) f1) hc (by have := (unhide HB).2; omega) (bs_of_own hln o1))
    have F1 := hide f1
    have O1 := hide (bs_of_own hln o1)
    clear o1 f1 HY
    go_wp2_with fail
    refine (unhide H1).mono ?_
    rintro e w2 ⟨rfl, f2⟩
    have f2' : Below w.heap.size w w2 := (unhide F1).trans (f2.mono (unhide F1).size)
    have H2 := hide (qOn_any w2 c hc _ _ cap l (by have := (unhide HB).2; omega) ((unhide HB).1.bs.below f2'))
    have t2 := S.below _ _ (unhide HT) f2'
    have H3 := hide (sOf_one S w2 a1 _ c1 l t2 (by have := (unhide HB).2; omega) ((unhide O1).below f2))
    have O2 := hide ((unhide O1).below f2)
    have F2 := hide f2'
    clear f2 f2' t2 H1 F1 O1
    generalize onS c l = s1 at *
    go_wp2_with fail
    refine (unhide H2).mono ?_
    rintro e w3 ⟨rfl, rfl⟩
    go_wp2_with fail
    refine (unhide H3).mono ?_
    rintro e w4 ⟨rfl, f4⟩
    have f4' : Below w.heap.size w w4 := (unhide F2).trans (f4.mono (unhide F2).size)
    have H4 := hide (qOf_any w4 _ _ cap l (by have := (unhide HB).2; omega) ((unhide HB).1.bs.below f4'))
    have H5 := hide (SameBytes_same w4 _ _ l _ c1 cap ((unhide O2).below f4) ((unhide HB).1.bs.below f4'))
    have H6 := hide (works2_any S w4 (S.below _ _ (unhide HT) f4'))
    have F4 := hide f4'
    clear f4 f4' H2 H3 O2 F2
    generalize onS 0 l = s2 at *
    go_wp2_with fail
    refine (unhide H4).mono ?_
    rintro e w5 ⟨rfl, rfl⟩
    go_wp2_with fail
    refine (unhide H5).mono ?_
    rintro e w6 ⟨rfl, rfl⟩
    go_wp2_with fail
    refine (unhide H6).mono ?_
    rintro e w7 ⟨rfl, f7⟩
    have F7 := hide ((unhide F4).trans (f7.mono (unhide F4).size))
    clear f7 H4 H5 H6 F4
    go_wp2
    go_ret
    exact ⟨rfl, unhide F7⟩

end Go.Proofs.YtpliipeoijclbaaDoor
