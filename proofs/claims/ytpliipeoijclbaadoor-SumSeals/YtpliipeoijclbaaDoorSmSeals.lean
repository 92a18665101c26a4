/- The walk of SumSeals. -/
import Derived.Test.YtpliipeoijclbaaDoorSmW
namespace Go.Proofs.YtpliipeoijclbaaDoor
open Go.RowKit
set_option linter.unusedVariables false

set_option maxHeartbeats 1600000 in
theorem seals_walk {T : World → Prop} (S : Sums T) (w : World) (a : Option Addr) (n cap : Nat) (l : List UInt8) (hT : T w) (hA : Arg w a n cap l) :
    Calls Tryd.prog 5 #[.slice a n cap] w fun e w' => e = .returned (.bool true) ∧ Below w.heap.size w w' := by
  have HT := hide hT
  clear hT
  by_cases hlim : n ≤ 4000
  · have g0 : decide ((4000 : Int) < (n : Int)) = false := by simp; omega
    have HB : Hid (Arg w a n cap l ∧ n ≤ 4000) := ⟨hA, hlim⟩
    clear hA
    go_enter Tryd.func5, Tryd.ntmps5
    have HY := hide (gBytes (Below.refl _ _) (unhide HB).1 (unhide HB).2)
    go_wp2_with fail
    refine (unhide HY).mono ?_
    rintro e w1 ⟨a1, c1, rfl, _, A1, f1, _⟩
    have hb4 := (unhide HB).2
    have H1 := hide (gSeal S (unhide HT) f1 A1 hb4)
    have AA1 := hide A1
    clear A1 f1 HY hb4
    go_wp2_with fail
    refine (unhide H1).mono ?_
    rintro e w2 ⟨a2, c2, rfl, _, A2, f2, b2⟩
    have H2 := hide (gqSeal f2 ((unhide HB).1.below f2) (unhide HB).2)
    have AA2 := hide A2
    have AA1' := hide ((unhide AA1).below b2)
    clear A2 f2 b2 H1 AA1
    go_wp2_with fail
    refine (unhide H2).mono ?_
    rintro e w3 ⟨a3, c3, rfl, A3, f3, b3⟩
    have H3 := hide (SameBytes_same w3 a2 a3 _ _ c2 c3 ((unhide AA2).below b3).bs A3.bs)
    have AA1 := hide ((unhide AA1').below b3)
    have H4 := hide (gRight S (unhide HT) f3 (unhide AA1) (by have := (unhide HB).2; omega))
    clear A3 f3 b3 AA1' AA2 H2
    go_wp2_with fail
    refine (unhide H3).mono ?_
    rintro e w4 ⟨rfl, rfl⟩
    go_wp2_with fail
    refine (unhide H4).mono ?_
    rintro e w5 ⟨rfl, f5, b5⟩
    have H5 := hide (gqRight f5 ((unhide HB).1.below f5) (by have := (unhide HB).2; omega))
    have AA5 := hide ((unhide AA1).below b5)
    clear f5 b5 H3 H4 AA1
    generalize rightL l = rr at *
    go_wp2_with fail
    refine (unhide H5).mono ?_
    rintro e w6 ⟨rfl, f6, b6⟩
    have H6 := hide (gSeal S (unhide HT) f6 ((unhide AA5).below b6) (unhide HB).2)
    clear f6 b6 H5 AA5
    go_wp2_with fail
    refine (unhide H6).mono ?_
    rintro e w7 ⟨a7, c7, rfl, _, A7, f7, _⟩
    have H7 := gRight S (unhide HT) f7 A7 (by have := (unhide HB).2; omega)
    rw [right_seal] at H7
    have H7 := hide H7
    clear f7 A7 H6
    go_wp2_with fail
    refine (unhide H7).mono ?_
    rintro e w8 ⟨rfl, f8, _⟩
    have H8 := hide (gWorks S (unhide HT) f8)
    clear f8 H7
    go_wp2_with fail
    refine (unhide H8).mono ?_
    rintro e w9 ⟨rfl, f9, _⟩
    have F9 := hide f9
    clear f9 H8
    go_wp2
    go_ret
    exact ⟨rfl, unhide F9⟩
  · obtain ⟨b, o, rfl, hb⟩ := hA.bs.2.resolve_left (by omega)
    have g0 : decide ((4000 : Int) < (n : Int)) = true := by simp; omega
    have hcap0 := hA.room
    have g1 : (4000 : Int) ≤ (cap : Int) := by omega
    have g2 : ¬ cap = 0 := by omega
    have HB : Hid (Arg w (some ⟨b, o, none⟩) 4000 cap (l.take 4000) ∧ 4000 ≤ 4000) := ⟨⟨⟨by have := hA.bs.1; simp; omega, .inr ⟨b, o, rfl, bytes_take hb _⟩⟩, by omega, hA.most, fun e => by cases e⟩, Nat.le_refl _⟩
    clear hA hb hcap0
    have HL : 4000 ≤ 4000 := Nat.le_refl _
    generalize l.take 4000 = l at *
    go_enter Tryd.func5, Tryd.ntmps5
    have HY := hide (gBytes (Below.refl _ _) (unhide HB).1 (unhide HB).2)
    go_wp2_with fail
    refine (unhide HY).mono ?_
    rintro e w1 ⟨a1, c1, rfl, _, A1, f1, _⟩
    have hb4 := (unhide HB).2
    have H1 := hide (gSeal S (unhide HT) f1 A1 hb4)
    have AA1 := hide A1
    clear A1 f1 HY hb4
    go_wp2_with fail
    refine (unhide H1).mono ?_
    rintro e w2 ⟨a2, c2, rfl, _, A2, f2, b2⟩
    have H2 := hide (gqSeal f2 ((unhide HB).1.below f2) (unhide HB).2)
    have AA2 := hide A2
    have AA1' := hide ((unhide AA1).below b2)
    clear A2 f2 b2 H1 AA1
    go_wp2_with fail
    refine (unhide H2).mono ?_
    rintro e w3 ⟨a3, c3, rfl, A3, f3, b3⟩
    have H3 := hide (SameBytes_same w3 a2 a3 _ _ c2 c3 ((unhide AA2).below b3).bs A3.bs)
    have AA1 := hide ((unhide AA1').below b3)
    have H4 := hide (gRight S (unhide HT) f3 (unhide AA1) (by have := (unhide HB).2; omega))
    clear A3 f3 b3 AA1' AA2 H2
    go_wp2_with fail
    refine (unhide H3).mono ?_
    rintro e w4 ⟨rfl, rfl⟩
    go_wp2_with fail
    refine (unhide H4).mono ?_
    rintro e w5 ⟨rfl, f5, b5⟩
    have H5 := hide (gqRight f5 ((unhide HB).1.below f5) (by have := (unhide HB).2; omega))
    have AA5 := hide ((unhide AA1).below b5)
    clear f5 b5 H3 H4 AA1
    generalize rightL l = rr at *
    go_wp2_with fail
    refine (unhide H5).mono ?_
    rintro e w6 ⟨rfl, f6, b6⟩
    have H6 := hide (gSeal S (unhide HT) f6 ((unhide AA5).below b6) (unhide HB).2)
    clear f6 b6 H5 AA5
    go_wp2_with fail
    refine (unhide H6).mono ?_
    rintro e w7 ⟨a7, c7, rfl, _, A7, f7, _⟩
    have H7 := gRight S (unhide HT) f7 A7 (by have := (unhide HB).2; omega)
    rw [right_seal] at H7
    have H7 := hide H7
    clear f7 A7 H6
    go_wp2_with fail
    refine (unhide H7).mono ?_
    rintro e w8 ⟨rfl, f8, _⟩
    have H8 := hide (gWorks S (unhide HT) f8)
    clear f8 H7
    go_wp2_with fail
    refine (unhide H8).mono ?_
    rintro e w9 ⟨rfl, f9, _⟩
    have F9 := hide f9
    clear f9 H8
    go_wp2
    go_ret
    exact ⟨rfl, unhide F9⟩

end Go.Proofs.YtpliipeoijclbaaDoor
