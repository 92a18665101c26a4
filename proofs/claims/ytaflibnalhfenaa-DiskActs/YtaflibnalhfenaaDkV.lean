/- The walk of DiskActs with 1 to 6 sectors (the cases written by wip/mk/mkacts.py). -/
import Derived.Test.YtaflibnalhfenaaDkVa
namespace Go.Proofs.Ytaflibnalhfenaa
open Go.RowKit
set_option linter.unusedVariables false

set_option maxHeartbeats 4000000 in
set_option maxRecDepth 100000 in
theorem acts_at (w : World) (L : Nat) (h1 : 1 ≤ L) (h6 : L ≤ 6) (b o c : Nat) (l : List FAct) (hl : l.length ≤ 9223372036854775807) (hA : ∀ (j : Nat) (x : FAct), l[j]? = some x → FullAt w b (o + j * 6) x ∧ FOk w x) :
    Calls Try.prog 3 #[.int .i64 (L : Int), .slice (some ⟨b, o, none⟩) l.length c] w fun e w' => e = .returned (.bool true) ∧ Below w.heap.size w w' := by
  have HA := hide hA
  clear hA
  go_enter Try.func3, Try.ntmps3
  go_wp2_with fail
  refine (Make_ok L _ h1 (by omega)).mono ?_
  rintro e w1 ⟨rfl, d1, b1⟩
  have g1 : decide ((L : Int) < 1) = false := by simp; omega
  have g2 : decide ((6 : Int) < L) = false := by simp; omega
  have D1 := hide d1
  have B1 := hide b1
  clear d1 b1
  go_wp2_with fail
  refine (rMake_ok L _ h1 (by omega)).mono ?_
  rintro e w2 ⟨rfl, d2, b2⟩
  have hR0 : AcR w (w.heap.size + 1) w1.heap.size L 0 w2 := by
    have d1 := unhide D1
    have b1 := unhide B1
    obtain ⟨v, vals, hy, _⟩ := d2
    rw [rof_fresh] at hy
    have hx : X w2 w.heap.size (w.heap.size + 1) (Dk.fresh L) := ⟨_, _, d1.below b2⟩
    refine ⟨⟨Dk.fresh L, hx, ⟨_, v, vals, b1.size, hy⟩, Okd.of hx (by simp [Dk.fresh]) ?_⟩, b1.trans (b2.mono b1.size)⟩
    intro i s hi
    simp only [Dk.fresh, List.getElem?_replicate] at hi
    split at hi
    · cases hi; simp
    · cases hi
  have HR0 := hide hR0
  clear hR0 d2 b2 D1 B1
  generalize hpd : w.heap.size + 1 = p at *
  generalize hyd : w1.heap.size = y at *
  clear hpd hyd
  go_wp2
  go_loopg [11] 80 (fun gk i wr => ∃ k : Nat, gk = 80 - k ∧ k ≤ 80 ∧ k ≤ l.length ∧ i = .int .i64 k ∧ AcR w p y L k wr)
  case atStart => exact ⟨0, by omega, by omega, by omega, rfl, unhide HR0⟩
  case round =>
    obtain ⟨k, rfl, hk80, hk, rfl, hR⟩ := hrel
    by_cases hlt : k < l.length ∧ k < 80
    · obtain ⟨hlt, hlt80⟩ := hlt
      have hx := List.getElem?_eq_getElem hlt
      obtain ⟨hF, hO⟩ := unhide HA k _ hx
      generalize l[k] = x at *
      have hkl : (k : Int) < l.length := by omega
      have hk8 : (k : Int) < 80 := by omega
      have hbl := World.block_lt_of_cell? w _ hF.c0
      have hF' : FullAt wr b (o + k * 6) x := by
        have f := hR.fr
        exact ⟨(f.cell (p := ⟨b, o + k * 6, none⟩) hbl).trans hF.c0, (f.cell (p := ⟨b, o + k * 6 + 1, none⟩) hbl).trans hF.c1, (f.cell (p := ⟨b, o + k * 6 + 2, none⟩) hbl).trans hF.c2, (f.cell (p := ⟨b, o + k * 6 + 3, none⟩) hbl).trans hF.c3, (f.cell (p := ⟨b, o + k * 6 + 4, none⟩) hbl).trans hF.c4, (f.cell (p := ⟨b, o + k * 6 + 5, none⟩) hbl).trans hF.c5⟩
      obtain ⟨c0, c1, c2, c3, c4, c5⟩ := hF'
      have HO := hide hO
      have HR := hide hR
      clear hO hR hF hx
      go_upto_block 2 with (go_at_call 14; refine (Among_any _ _ 7 (by omega) (by omega)).mono ?_; rintro e w3 ⟨rfl, rfl⟩)
      have HD := hide (acts_round (unhide HR) x)
      obtain ⟨a0, a1, a2, a3, a4, a5, ha⟩ := act_block wr x
      have hA2 := lt_of_heap ha
      have HAB : Hid (w.heap.size ≤ wr.heap.size) := (unhide HR).fr.size
      generalize hwa : wr.alloc (.cells #[.int .i64 x.kind, .int .i64 x.at_, .int .i64 x.n, .int .u8 (x.byte.toNat : Int), .bool x.short, .slice x.ka x.kept.length x.kc] 35) = wa at *
      clear hwa c0 c1 c2 c3 c4 c5 hbl HR
      generalize wr.heap.size = A at *
      clear wr
      go_cut [13] from 67 to 205 (fun ok wx => ok = .bool true ∧ AcR w p y L (k + 1) wx)
      case first =>
        obtain ⟨D, hX, hY, hO, hfr⟩ := unhide HD
        have hAB : ActB wa A x := ha
        have hdl := among_lt x.kind 7 (by omega)
        generalize hd : ((among x.kind 7 : Nat) : Int) = d at *
        have hd7 : d = 0 ∨ d = 1 ∨ d = 2 ∨ d = 3 ∨ d = 4 ∨ d = 5 ∨ d = 6 := by omega
        clear HD HA HR0 hd hdl ha hA2
        rcases hd7 with rfl | rfl | rfl | rfl | rfl | rfl | rfl
        · cases hsh : x.short with
          | false =>
            have HS1 : Hid (∀ W, SI w p y A wa.heap.size x D D W → Calls Try.prog 16 #[.pointer (some ⟨p, 0, none⟩), .int .i64 x.at_, .slice (some ⟨wa.heap.size, 0, none⟩) 256 256] W fun e w' => e = .returned (.int .i64 (D.stE x.at_ 256)) ∧ SI w p y A wa.heap.size x (D.st x.at_ ((allOf x.byte).drop 0)) D w') := fun W h => sStore hO (by omega) 0 256 256 rfl W h
            have HS2 : Hid (∀ W, SI w p y A wa.heap.size x (D.st x.at_ ((allOf x.byte).drop 0)) D W → Calls Try.prog 18 #[.slice (some ⟨wa.heap.size, 0, none⟩) 256 256] W fun e w' => ∃ v, e = .returned v ∧ w'.ownsRow W.heap.size 5 1 v 256 (bv ((allOf x.byte).drop 0)) ∧ SI w p y A wa.heap.size x (D.st x.at_ ((allOf x.byte).drop 0)) D w') := fun W h => sBytes 0 256 256 rfl W h
            have HS3 : Hid (∀ W v base, SI w p y A wa.heap.size x (D.st x.at_ ((allOf x.byte).drop 0)) D W → W.ownsRow base 5 1 v 256 (bv ((allOf x.byte).drop 0)) → Calls Try.prog 17 #[.pointer (some ⟨y, 0, none⟩), .int .i64 x.at_, v] W fun e w' => e = .returned (.int .i64 (D.stE x.at_ 256)) ∧ SI w p y A wa.heap.size x (D.st x.at_ ((allOf x.byte).drop 0)) (D.st x.at_ ((allOf x.byte).drop 0)) w') := fun W v base h ho => srStore hO (by omega) 0 256 rfl (by omega) W v base h ho
            have HN : Hid (∀ W wr, SI w p y A wa.heap.size x (D.st x.at_ ((allOf x.byte).drop 0)) (D.st x.at_ ((allOf x.byte).drop 0)) W → Wrote W w.heap.size wa.heap.size 5 wr → AcR w p y L (k + 1) wr) := fun W wr h hw => si_done hO x.at_ ((allOf x.byte).drop 0) rfl h hw
            have b2 : Below wa.heap.size wa (wa.alloc (.cells (bv (allOf x.byte)).toArray 5)) := (Below.refl _ _).alloc (Nat.le_refl _) _
            have S1 : Hid (SI w p y A wa.heap.size x D D (wa.alloc (.cells (bv (allOf x.byte)).toArray 5))) := ⟨hX.below b2, hY.below b2, hAB.below b2, heap_alloc_last wa _, hfr.trans (b2.mono hfr.size)⟩
            have HQ : Hid (w.heap.size ≤ wa.heap.size) := hfr.size
            have a1' := cell_alloc a1 (.cells (bv (allOf x.byte)).toArray 5)
            clear hX hY hO hfr hAB b2
            rw [hsh] at a4
            have a4' := cell_alloc a4 (.cells (bv (allOf x.byte)).toArray 5)
            generalize hD2 : D.st x.at_ ((allOf x.byte).drop 0) = D2 at *
            generalize D.stE x.at_ 256 = er at *
            clear hD2
            go_wp2_with fail
            refine (of_any x.byte _).mono ?_
            rintro e w3 ⟨rfl, rfl⟩
            go_wp2
            go_region_held (fun W => W.cell? ⟨A, 1, none⟩ = some (.int .i64 x.at_)) (go_keep)
              (first
                | (go_at_call 16; refine (unhide HS1 _ ((unhide S1).below (by repeat (first | exact Below.refl _ _ | refine Below.drew ?_)))).mono ?_; rintro e w4 ⟨rfl, s4⟩; have k4 := s4.ha.c1)
                | (go_at_call 18; refine (unhide HS2 _ (s4.below (by repeat (first | exact Below.refl _ _ | refine Below.drew ?_)))).mono ?_; rintro e w5 ⟨v5, rfl, o5, s5⟩; have k5 := s5.ha.c1)
                | (go_at_call 17; refine (unhide HS3 _ _ _ (s5.below (by repeat (first | exact Below.refl _ _ | refine Below.drew ?_))) (own_below o5 (by repeat (first | exact Below.refl _ _ | refine Below.drew ?_)))).mono ?_; rintro e w6 ⟨rfl, s6⟩; have k6 := s6.ha.c1))
            have R0 : Wrote w6 w.heap.size wa.heap.size 5 w6 := ⟨⟨_, s6.hb, by rw [List.size_toArray, bv_length, allOf_len]⟩, fun _ _ => rfl, Below.refl _ _⟩
            have RR0 := hide R0
            have S6 := hide s6
            clear R0 s6 s5 s4 o5 k4 k5 k6 HS1 HS2 HS3 S1 a1' a4'
            generalize hq : wa.heap.size = q at *
            go_wp2
            go_loopw [15] (fun i wr => ∃ j : Nat, j ≤ 256 ∧ i = .int .i64 j ∧ Wrote w6 w.heap.size q 5 wr) (fun i _ => 256 - (intOf i).toNat)
            case atStart => exact ⟨0, by omega, rfl, unhide RR0⟩
            case round =>
              obtain ⟨j, hj, rfl, hW⟩ := hrel
              by_cases hjl : j < 256
              · obtain ⟨⟨u, hu⟩, hf⟩ := hW.cell (0 + j) (by omega)
                have HW := hide (hW.set (unhide HQ) (0 + j) (.int .u8 201))
                clear hW
                rw [Nat.zero_add] at hu hf HW
                go_wp2
                go_roundw
                case rel => exact ⟨j + 1, by omega, by go_num, unhide HW⟩
                case measure => simp [intOf]; omega
              · have R := hide (unhide HN _ _ (unhide S6) hW)
                clear hW HN S6 RR0 HQ
                go_wp2
                go_meet
                exact ⟨rfl, unhide R⟩
          | true =>
            have HS1 : Hid (∀ W, SI w p y A wa.heap.size x D D W → Calls Try.prog 16 #[.pointer (some ⟨p, 0, none⟩), .int .i64 x.at_, .slice (some ⟨wa.heap.size, 1, none⟩) 255 255] W fun e w' => e = .returned (.int .i64 (D.stE x.at_ 255)) ∧ SI w p y A wa.heap.size x (D.st x.at_ ((allOf x.byte).drop 1)) D w') := fun W h => sStore hO (by omega) 1 255 255 rfl W h
            have HS2 : Hid (∀ W, SI w p y A wa.heap.size x (D.st x.at_ ((allOf x.byte).drop 1)) D W → Calls Try.prog 18 #[.slice (some ⟨wa.heap.size, 1, none⟩) 255 255] W fun e w' => ∃ v, e = .returned v ∧ w'.ownsRow W.heap.size 5 1 v 255 (bv ((allOf x.byte).drop 1)) ∧ SI w p y A wa.heap.size x (D.st x.at_ ((allOf x.byte).drop 1)) D w') := fun W h => sBytes 1 255 255 rfl W h
            have HS3 : Hid (∀ W v base, SI w p y A wa.heap.size x (D.st x.at_ ((allOf x.byte).drop 1)) D W → W.ownsRow base 5 1 v 255 (bv ((allOf x.byte).drop 1)) → Calls Try.prog 17 #[.pointer (some ⟨y, 0, none⟩), .int .i64 x.at_, v] W fun e w' => e = .returned (.int .i64 (D.stE x.at_ 255)) ∧ SI w p y A wa.heap.size x (D.st x.at_ ((allOf x.byte).drop 1)) (D.st x.at_ ((allOf x.byte).drop 1)) w') := fun W v base h ho => srStore hO (by omega) 1 255 rfl (by omega) W v base h ho
            have HN : Hid (∀ W wr, SI w p y A wa.heap.size x (D.st x.at_ ((allOf x.byte).drop 1)) (D.st x.at_ ((allOf x.byte).drop 1)) W → Wrote W w.heap.size wa.heap.size 5 wr → AcR w p y L (k + 1) wr) := fun W wr h hw => si_done hO x.at_ ((allOf x.byte).drop 1) rfl h hw
            have b2 : Below wa.heap.size wa (wa.alloc (.cells (bv (allOf x.byte)).toArray 5)) := (Below.refl _ _).alloc (Nat.le_refl _) _
            have S1 : Hid (SI w p y A wa.heap.size x D D (wa.alloc (.cells (bv (allOf x.byte)).toArray 5))) := ⟨hX.below b2, hY.below b2, hAB.below b2, heap_alloc_last wa _, hfr.trans (b2.mono hfr.size)⟩
            have HQ : Hid (w.heap.size ≤ wa.heap.size) := hfr.size
            have a1' := cell_alloc a1 (.cells (bv (allOf x.byte)).toArray 5)
            clear hX hY hO hfr hAB b2
            rw [hsh] at a4
            have a4' := cell_alloc a4 (.cells (bv (allOf x.byte)).toArray 5)
            generalize hD2 : D.st x.at_ ((allOf x.byte).drop 1) = D2 at *
            generalize D.stE x.at_ 255 = er at *
            clear hD2
            go_wp2_with fail
            refine (of_any x.byte _).mono ?_
            rintro e w3 ⟨rfl, rfl⟩
            go_wp2
            go_region_held (fun W => W.cell? ⟨A, 1, none⟩ = some (.int .i64 x.at_)) (go_keep)
              (first
                | (go_at_call 16; refine (unhide HS1 _ ((unhide S1).below (by repeat (first | exact Below.refl _ _ | refine Below.drew ?_)))).mono ?_; rintro e w4 ⟨rfl, s4⟩; have k4 := s4.ha.c1)
                | (go_at_call 18; refine (unhide HS2 _ (s4.below (by repeat (first | exact Below.refl _ _ | refine Below.drew ?_)))).mono ?_; rintro e w5 ⟨v5, rfl, o5, s5⟩; have k5 := s5.ha.c1)
                | (go_at_call 17; refine (unhide HS3 _ _ _ (s5.below (by repeat (first | exact Below.refl _ _ | refine Below.drew ?_))) (own_below o5 (by repeat (first | exact Below.refl _ _ | refine Below.drew ?_)))).mono ?_; rintro e w6 ⟨rfl, s6⟩; have k6 := s6.ha.c1))
            have R0 : Wrote w6 w.heap.size wa.heap.size 5 w6 := ⟨⟨_, s6.hb, by rw [List.size_toArray, bv_length, allOf_len]⟩, fun _ _ => rfl, Below.refl _ _⟩
            have RR0 := hide R0
            have S6 := hide s6
            clear R0 s6 s5 s4 o5 k4 k5 k6 HS1 HS2 HS3 S1 a1' a4'
            generalize hq : wa.heap.size = q at *
            go_wp2
            go_loopw [15] (fun i wr => ∃ j : Nat, j ≤ 255 ∧ i = .int .i64 j ∧ Wrote w6 w.heap.size q 5 wr) (fun i _ => 255 - (intOf i).toNat)
            case atStart => exact ⟨0, by omega, rfl, unhide RR0⟩
            case round =>
              obtain ⟨j, hj, rfl, hW⟩ := hrel
              by_cases hjl : j < 255
              · obtain ⟨⟨u, hu⟩, hf⟩ := hW.cell (1 + j) (by omega)
                have HW := hide (hW.set (unhide HQ) (1 + j) (.int .u8 201))
                clear hW
                go_wp2
                go_roundw
                case rel => exact ⟨j + 1, by omega, by go_num, unhide HW⟩
                case measure => simp [intOf]; omega
              · have R := hide (unhide HN _ _ (unhide S6) hW)
                clear hW HN S6 RR0 HQ
                go_wp2
                go_meet
                exact ⟨rfl, unhide R⟩
        · cases hsh : x.short with
          | false =>
            have HS1 : Hid (∀ W, SI w p y A wa.heap.size x D D W → Calls Try.prog 16 #[.pointer (some ⟨p, 0, none⟩), .int .i64 x.at_, .slice (some ⟨wa.heap.size, 0, none⟩) 256 256] W fun e w' => e = .returned (.int .i64 (D.stE x.at_ 256)) ∧ SI w p y A wa.heap.size x (D.st x.at_ ((allOf x.byte).drop 0)) D w') := fun W h => sStore hO (by omega) 0 256 256 rfl W h
            have HS2 : Hid (∀ W, SI w p y A wa.heap.size x (D.st x.at_ ((allOf x.byte).drop 0)) D W → Calls Try.prog 18 #[.slice (some ⟨wa.heap.size, 0, none⟩) 256 256] W fun e w' => ∃ v, e = .returned v ∧ w'.ownsRow W.heap.size 5 1 v 256 (bv ((allOf x.byte).drop 0)) ∧ SI w p y A wa.heap.size x (D.st x.at_ ((allOf x.byte).drop 0)) D w') := fun W h => sBytes 0 256 256 rfl W h
            have HS3 : Hid (∀ W v base, SI w p y A wa.heap.size x (D.st x.at_ ((allOf x.byte).drop 0)) D W → W.ownsRow base 5 1 v 256 (bv ((allOf x.byte).drop 0)) → Calls Try.prog 17 #[.pointer (some ⟨y, 0, none⟩), .int .i64 x.at_, v] W fun e w' => e = .returned (.int .i64 (D.stE x.at_ 256)) ∧ SI w p y A wa.heap.size x (D.st x.at_ ((allOf x.byte).drop 0)) (D.st x.at_ ((allOf x.byte).drop 0)) w') := fun W v base h ho => srStore hO (by omega) 0 256 rfl (by omega) W v base h ho
            have HN : Hid (∀ W wr, SI w p y A wa.heap.size x (D.st x.at_ ((allOf x.byte).drop 0)) (D.st x.at_ ((allOf x.byte).drop 0)) W → Wrote W w.heap.size wa.heap.size 5 wr → AcR w p y L (k + 1) wr) := fun W wr h hw => si_done hO x.at_ ((allOf x.byte).drop 0) rfl h hw
            have b2 : Below wa.heap.size wa (wa.alloc (.cells (bv (allOf x.byte)).toArray 5)) := (Below.refl _ _).alloc (Nat.le_refl _) _
            have S1 : Hid (SI w p y A wa.heap.size x D D (wa.alloc (.cells (bv (allOf x.byte)).toArray 5))) := ⟨hX.below b2, hY.below b2, hAB.below b2, heap_alloc_last wa _, hfr.trans (b2.mono hfr.size)⟩
            have HQ : Hid (w.heap.size ≤ wa.heap.size) := hfr.size
            have a1' := cell_alloc a1 (.cells (bv (allOf x.byte)).toArray 5)
            clear hX hY hO hfr hAB b2
            rw [hsh] at a4
            have a4' := cell_alloc a4 (.cells (bv (allOf x.byte)).toArray 5)
            generalize hD2 : D.st x.at_ ((allOf x.byte).drop 0) = D2 at *
            generalize D.stE x.at_ 256 = er at *
            clear hD2
            go_wp2_with fail
            refine (of_any x.byte _).mono ?_
            rintro e w3 ⟨rfl, rfl⟩
            go_wp2
            go_region_held (fun W => W.cell? ⟨A, 1, none⟩ = some (.int .i64 x.at_)) (go_keep)
              (first
                | (go_at_call 16; refine (unhide HS1 _ ((unhide S1).below (by repeat (first | exact Below.refl _ _ | refine Below.drew ?_)))).mono ?_; rintro e w4 ⟨rfl, s4⟩; have k4 := s4.ha.c1)
                | (go_at_call 18; refine (unhide HS2 _ (s4.below (by repeat (first | exact Below.refl _ _ | refine Below.drew ?_)))).mono ?_; rintro e w5 ⟨v5, rfl, o5, s5⟩; have k5 := s5.ha.c1)
                | (go_at_call 17; refine (unhide HS3 _ _ _ (s5.below (by repeat (first | exact Below.refl _ _ | refine Below.drew ?_))) (own_below o5 (by repeat (first | exact Below.refl _ _ | refine Below.drew ?_)))).mono ?_; rintro e w6 ⟨rfl, s6⟩; have k6 := s6.ha.c1))
            have R0 : Wrote w6 w.heap.size wa.heap.size 5 w6 := ⟨⟨_, s6.hb, by rw [List.size_toArray, bv_length, allOf_len]⟩, fun _ _ => rfl, Below.refl _ _⟩
            have RR0 := hide R0
            have S6 := hide s6
            clear R0 s6 s5 s4 o5 k4 k5 k6 HS1 HS2 HS3 S1 a1' a4'
            generalize hq : wa.heap.size = q at *
            go_wp2
            go_loopw [15] (fun i wr => ∃ j : Nat, j ≤ 256 ∧ i = .int .i64 j ∧ Wrote w6 w.heap.size q 5 wr) (fun i _ => 256 - (intOf i).toNat)
            case atStart => exact ⟨0, by omega, rfl, unhide RR0⟩
            case round =>
              obtain ⟨j, hj, rfl, hW⟩ := hrel
              by_cases hjl : j < 256
              · obtain ⟨⟨u, hu⟩, hf⟩ := hW.cell (0 + j) (by omega)
                have HW := hide (hW.set (unhide HQ) (0 + j) (.int .u8 201))
                clear hW
                rw [Nat.zero_add] at hu hf HW
                go_wp2
                go_roundw
                case rel => exact ⟨j + 1, by omega, by go_num, unhide HW⟩
                case measure => simp [intOf]; omega
              · have R := hide (unhide HN _ _ (unhide S6) hW)
                clear hW HN S6 RR0 HQ
                go_wp2
                go_meet
                exact ⟨rfl, unhide R⟩
          | true =>
            have HS1 : Hid (∀ W, SI w p y A wa.heap.size x D D W → Calls Try.prog 16 #[.pointer (some ⟨p, 0, none⟩), .int .i64 x.at_, .slice (some ⟨wa.heap.size, 1, none⟩) 255 255] W fun e w' => e = .returned (.int .i64 (D.stE x.at_ 255)) ∧ SI w p y A wa.heap.size x (D.st x.at_ ((allOf x.byte).drop 1)) D w') := fun W h => sStore hO (by omega) 1 255 255 rfl W h
            have HS2 : Hid (∀ W, SI w p y A wa.heap.size x (D.st x.at_ ((allOf x.byte).drop 1)) D W → Calls Try.prog 18 #[.slice (some ⟨wa.heap.size, 1, none⟩) 255 255] W fun e w' => ∃ v, e = .returned v ∧ w'.ownsRow W.heap.size 5 1 v 255 (bv ((allOf x.byte).drop 1)) ∧ SI w p y A wa.heap.size x (D.st x.at_ ((allOf x.byte).drop 1)) D w') := fun W h => sBytes 1 255 255 rfl W h
            have HS3 : Hid (∀ W v base, SI w p y A wa.heap.size x (D.st x.at_ ((allOf x.byte).drop 1)) D W → W.ownsRow base 5 1 v 255 (bv ((allOf x.byte).drop 1)) → Calls Try.prog 17 #[.pointer (some ⟨y, 0, none⟩), .int .i64 x.at_, v] W fun e w' => e = .returned (.int .i64 (D.stE x.at_ 255)) ∧ SI w p y A wa.heap.size x (D.st x.at_ ((allOf x.byte).drop 1)) (D.st x.at_ ((allOf x.byte).drop 1)) w') := fun W v base h ho => srStore hO (by omega) 1 255 rfl (by omega) W v base h ho
            have HN : Hid (∀ W wr, SI w p y A wa.heap.size x (D.st x.at_ ((allOf x.byte).drop 1)) (D.st x.at_ ((allOf x.byte).drop 1)) W → Wrote W w.heap.size wa.heap.size 5 wr → AcR w p y L (k + 1) wr) := fun W wr h hw => si_done hO x.at_ ((allOf x.byte).drop 1) rfl h hw
            have b2 : Below wa.heap.size wa (wa.alloc (.cells (bv (allOf x.byte)).toArray 5)) := (Below.refl _ _).alloc (Nat.le_refl _) _
            have S1 : Hid (SI w p y A wa.heap.size x D D (wa.alloc (.cells (bv (allOf x.byte)).toArray 5))) := ⟨hX.below b2, hY.below b2, hAB.below b2, heap_alloc_last wa _, hfr.trans (b2.mono hfr.size)⟩
            have HQ : Hid (w.heap.size ≤ wa.heap.size) := hfr.size
            have a1' := cell_alloc a1 (.cells (bv (allOf x.byte)).toArray 5)
            clear hX hY hO hfr hAB b2
            rw [hsh] at a4
            have a4' := cell_alloc a4 (.cells (bv (allOf x.byte)).toArray 5)
            generalize hD2 : D.st x.at_ ((allOf x.byte).drop 1) = D2 at *
            generalize D.stE x.at_ 255 = er at *
            clear hD2
            go_wp2_with fail
            refine (of_any x.byte _).mono ?_
            rintro e w3 ⟨rfl, rfl⟩
            go_wp2
            go_region_held (fun W => W.cell? ⟨A, 1, none⟩ = some (.int .i64 x.at_)) (go_keep)
              (first
                | (go_at_call 16; refine (unhide HS1 _ ((unhide S1).below (by repeat (first | exact Below.refl _ _ | refine Below.drew ?_)))).mono ?_; rintro e w4 ⟨rfl, s4⟩; have k4 := s4.ha.c1)
                | (go_at_call 18; refine (unhide HS2 _ (s4.below (by repeat (first | exact Below.refl _ _ | refine Below.drew ?_)))).mono ?_; rintro e w5 ⟨v5, rfl, o5, s5⟩; have k5 := s5.ha.c1)
                | (go_at_call 17; refine (unhide HS3 _ _ _ (s5.below (by repeat (first | exact Below.refl _ _ | refine Below.drew ?_))) (own_below o5 (by repeat (first | exact Below.refl _ _ | refine Below.drew ?_)))).mono ?_; rintro e w6 ⟨rfl, s6⟩; have k6 := s6.ha.c1))
            have R0 : Wrote w6 w.heap.size wa.heap.size 5 w6 := ⟨⟨_, s6.hb, by rw [List.size_toArray, bv_length, allOf_len]⟩, fun _ _ => rfl, Below.refl _ _⟩
            have RR0 := hide R0
            have S6 := hide s6
            clear R0 s6 s5 s4 o5 k4 k5 k6 HS1 HS2 HS3 S1 a1' a4'
            generalize hq : wa.heap.size = q at *
            go_wp2
            go_loopw [15] (fun i wr => ∃ j : Nat, j ≤ 255 ∧ i = .int .i64 j ∧ Wrote w6 w.heap.size q 5 wr) (fun i _ => 255 - (intOf i).toNat)
            case atStart => exact ⟨0, by omega, rfl, unhide RR0⟩
            case round =>
              obtain ⟨j, hj, rfl, hW⟩ := hrel
              by_cases hjl : j < 255
              · obtain ⟨⟨u, hu⟩, hf⟩ := hW.cell (1 + j) (by omega)
                have HW := hide (hW.set (unhide HQ) (1 + j) (.int .u8 201))
                clear hW
                go_wp2
                go_roundw
                case rel => exact ⟨j + 1, by omega, by go_num, unhide HW⟩
                case measure => simp [intOf]; omega
              · have R := hide (unhide HN _ _ (unhide S6) hW)
                clear hW HN S6 RR0 HQ
                go_wp2
                go_meet
                exact ⟨rfl, unhide R⟩
        · cases hsh : x.short with
          | false =>
            have HS1 : Hid (∀ W, SI w p y A wa.heap.size x D D W → Calls Try.prog 16 #[.pointer (some ⟨p, 0, none⟩), .int .i64 x.at_, .slice (some ⟨wa.heap.size, 0, none⟩) 256 256] W fun e w' => e = .returned (.int .i64 (D.stE x.at_ 256)) ∧ SI w p y A wa.heap.size x (D.st x.at_ ((allOf x.byte).drop 0)) D w') := fun W h => sStore hO (by omega) 0 256 256 rfl W h
            have HS2 : Hid (∀ W, SI w p y A wa.heap.size x (D.st x.at_ ((allOf x.byte).drop 0)) D W → Calls Try.prog 18 #[.slice (some ⟨wa.heap.size, 0, none⟩) 256 256] W fun e w' => ∃ v, e = .returned v ∧ w'.ownsRow W.heap.size 5 1 v 256 (bv ((allOf x.byte).drop 0)) ∧ SI w p y A wa.heap.size x (D.st x.at_ ((allOf x.byte).drop 0)) D w') := fun W h => sBytes 0 256 256 rfl W h
            have HS3 : Hid (∀ W v base, SI w p y A wa.heap.size x (D.st x.at_ ((allOf x.byte).drop 0)) D W → W.ownsRow base 5 1 v 256 (bv ((allOf x.byte).drop 0)) → Calls Try.prog 17 #[.pointer (some ⟨y, 0, none⟩), .int .i64 x.at_, v] W fun e w' => e = .returned (.int .i64 (D.stE x.at_ 256)) ∧ SI w p y A wa.heap.size x (D.st x.at_ ((allOf x.byte).drop 0)) (D.st x.at_ ((allOf x.byte).drop 0)) w') := fun W v base h ho => srStore hO (by omega) 0 256 rfl (by omega) W v base h ho
            have HN : Hid (∀ W wr, SI w p y A wa.heap.size x (D.st x.at_ ((allOf x.byte).drop 0)) (D.st x.at_ ((allOf x.byte).drop 0)) W → Wrote W w.heap.size wa.heap.size 5 wr → AcR w p y L (k + 1) wr) := fun W wr h hw => si_done hO x.at_ ((allOf x.byte).drop 0) rfl h hw
            have b2 : Below wa.heap.size wa (wa.alloc (.cells (bv (allOf x.byte)).toArray 5)) := (Below.refl _ _).alloc (Nat.le_refl _) _
            have S1 : Hid (SI w p y A wa.heap.size x D D (wa.alloc (.cells (bv (allOf x.byte)).toArray 5))) := ⟨hX.below b2, hY.below b2, hAB.below b2, heap_alloc_last wa _, hfr.trans (b2.mono hfr.size)⟩
            have HQ : Hid (w.heap.size ≤ wa.heap.size) := hfr.size
            have a1' := cell_alloc a1 (.cells (bv (allOf x.byte)).toArray 5)
            clear hX hY hO hfr hAB b2
            rw [hsh] at a4
            have a4' := cell_alloc a4 (.cells (bv (allOf x.byte)).toArray 5)
            generalize hD2 : D.st x.at_ ((allOf x.byte).drop 0) = D2 at *
            generalize D.stE x.at_ 256 = er at *
            clear hD2
            go_wp2_with fail
            refine (of_any x.byte _).mono ?_
            rintro e w3 ⟨rfl, rfl⟩
            go_wp2
            go_region_held (fun W => W.cell? ⟨A, 1, none⟩ = some (.int .i64 x.at_)) (go_keep)
              (first
                | (go_at_call 16; refine (unhide HS1 _ ((unhide S1).below (by repeat (first | exact Below.refl _ _ | refine Below.drew ?_)))).mono ?_; rintro e w4 ⟨rfl, s4⟩; have k4 := s4.ha.c1)
                | (go_at_call 18; refine (unhide HS2 _ (s4.below (by repeat (first | exact Below.refl _ _ | refine Below.drew ?_)))).mono ?_; rintro e w5 ⟨v5, rfl, o5, s5⟩; have k5 := s5.ha.c1)
                | (go_at_call 17; refine (unhide HS3 _ _ _ (s5.below (by repeat (first | exact Below.refl _ _ | refine Below.drew ?_))) (own_below o5 (by repeat (first | exact Below.refl _ _ | refine Below.drew ?_)))).mono ?_; rintro e w6 ⟨rfl, s6⟩; have k6 := s6.ha.c1))
            have R0 : Wrote w6 w.heap.size wa.heap.size 5 w6 := ⟨⟨_, s6.hb, by rw [List.size_toArray, bv_length, allOf_len]⟩, fun _ _ => rfl, Below.refl _ _⟩
            have RR0 := hide R0
            have S6 := hide s6
            clear R0 s6 s5 s4 o5 k4 k5 k6 HS1 HS2 HS3 S1 a1' a4'
            generalize hq : wa.heap.size = q at *
            go_wp2
            go_loopw [15] (fun i wr => ∃ j : Nat, j ≤ 256 ∧ i = .int .i64 j ∧ Wrote w6 w.heap.size q 5 wr) (fun i _ => 256 - (intOf i).toNat)
            case atStart => exact ⟨0, by omega, rfl, unhide RR0⟩
            case round =>
              obtain ⟨j, hj, rfl, hW⟩ := hrel
              by_cases hjl : j < 256
              · obtain ⟨⟨u, hu⟩, hf⟩ := hW.cell (0 + j) (by omega)
                have HW := hide (hW.set (unhide HQ) (0 + j) (.int .u8 201))
                clear hW
                rw [Nat.zero_add] at hu hf HW
                go_wp2
                go_roundw
                case rel => exact ⟨j + 1, by omega, by go_num, unhide HW⟩
                case measure => simp [intOf]; omega
              · have R := hide (unhide HN _ _ (unhide S6) hW)
                clear hW HN S6 RR0 HQ
                go_wp2
                go_meet
                exact ⟨rfl, unhide R⟩
          | true =>
            have HS1 : Hid (∀ W, SI w p y A wa.heap.size x D D W → Calls Try.prog 16 #[.pointer (some ⟨p, 0, none⟩), .int .i64 x.at_, .slice (some ⟨wa.heap.size, 1, none⟩) 255 255] W fun e w' => e = .returned (.int .i64 (D.stE x.at_ 255)) ∧ SI w p y A wa.heap.size x (D.st x.at_ ((allOf x.byte).drop 1)) D w') := fun W h => sStore hO (by omega) 1 255 255 rfl W h
            have HS2 : Hid (∀ W, SI w p y A wa.heap.size x (D.st x.at_ ((allOf x.byte).drop 1)) D W → Calls Try.prog 18 #[.slice (some ⟨wa.heap.size, 1, none⟩) 255 255] W fun e w' => ∃ v, e = .returned v ∧ w'.ownsRow W.heap.size 5 1 v 255 (bv ((allOf x.byte).drop 1)) ∧ SI w p y A wa.heap.size x (D.st x.at_ ((allOf x.byte).drop 1)) D w') := fun W h => sBytes 1 255 255 rfl W h
            have HS3 : Hid (∀ W v base, SI w p y A wa.heap.size x (D.st x.at_ ((allOf x.byte).drop 1)) D W → W.ownsRow base 5 1 v 255 (bv ((allOf x.byte).drop 1)) → Calls Try.prog 17 #[.pointer (some ⟨y, 0, none⟩), .int .i64 x.at_, v] W fun e w' => e = .returned (.int .i64 (D.stE x.at_ 255)) ∧ SI w p y A wa.heap.size x (D.st x.at_ ((allOf x.byte).drop 1)) (D.st x.at_ ((allOf x.byte).drop 1)) w') := fun W v base h ho => srStore hO (by omega) 1 255 rfl (by omega) W v base h ho
            have HN : Hid (∀ W wr, SI w p y A wa.heap.size x (D.st x.at_ ((allOf x.byte).drop 1)) (D.st x.at_ ((allOf x.byte).drop 1)) W → Wrote W w.heap.size wa.heap.size 5 wr → AcR w p y L (k + 1) wr) := fun W wr h hw => si_done hO x.at_ ((allOf x.byte).drop 1) rfl h hw
            have b2 : Below wa.heap.size wa (wa.alloc (.cells (bv (allOf x.byte)).toArray 5)) := (Below.refl _ _).alloc (Nat.le_refl _) _
            have S1 : Hid (SI w p y A wa.heap.size x D D (wa.alloc (.cells (bv (allOf x.byte)).toArray 5))) := ⟨hX.below b2, hY.below b2, hAB.below b2, heap_alloc_last wa _, hfr.trans (b2.mono hfr.size)⟩
            have HQ : Hid (w.heap.size ≤ wa.heap.size) := hfr.size
            have a1' := cell_alloc a1 (.cells (bv (allOf x.byte)).toArray 5)
            clear hX hY hO hfr hAB b2
            rw [hsh] at a4
            have a4' := cell_alloc a4 (.cells (bv (allOf x.byte)).toArray 5)
            generalize hD2 : D.st x.at_ ((allOf x.byte).drop 1) = D2 at *
            generalize D.stE x.at_ 255 = er at *
            clear hD2
            go_wp2_with fail
            refine (of_any x.byte _).mono ?_
            rintro e w3 ⟨rfl, rfl⟩
            go_wp2
            go_region_held (fun W => W.cell? ⟨A, 1, none⟩ = some (.int .i64 x.at_)) (go_keep)
              (first
                | (go_at_call 16; refine (unhide HS1 _ ((unhide S1).below (by repeat (first | exact Below.refl _ _ | refine Below.drew ?_)))).mono ?_; rintro e w4 ⟨rfl, s4⟩; have k4 := s4.ha.c1)
                | (go_at_call 18; refine (unhide HS2 _ (s4.below (by repeat (first | exact Below.refl _ _ | refine Below.drew ?_)))).mono ?_; rintro e w5 ⟨v5, rfl, o5, s5⟩; have k5 := s5.ha.c1)
                | (go_at_call 17; refine (unhide HS3 _ _ _ (s5.below (by repeat (first | exact Below.refl _ _ | refine Below.drew ?_))) (own_below o5 (by repeat (first | exact Below.refl _ _ | refine Below.drew ?_)))).mono ?_; rintro e w6 ⟨rfl, s6⟩; have k6 := s6.ha.c1))
            have R0 : Wrote w6 w.heap.size wa.heap.size 5 w6 := ⟨⟨_, s6.hb, by rw [List.size_toArray, bv_length, allOf_len]⟩, fun _ _ => rfl, Below.refl _ _⟩
            have RR0 := hide R0
            have S6 := hide s6
            clear R0 s6 s5 s4 o5 k4 k5 k6 HS1 HS2 HS3 S1 a1' a4'
            generalize hq : wa.heap.size = q at *
            go_wp2
            go_loopw [15] (fun i wr => ∃ j : Nat, j ≤ 255 ∧ i = .int .i64 j ∧ Wrote w6 w.heap.size q 5 wr) (fun i _ => 255 - (intOf i).toNat)
            case atStart => exact ⟨0, by omega, rfl, unhide RR0⟩
            case round =>
              obtain ⟨j, hj, rfl, hW⟩ := hrel
              by_cases hjl : j < 255
              · obtain ⟨⟨u, hu⟩, hf⟩ := hW.cell (1 + j) (by omega)
                have HW := hide (hW.set (unhide HQ) (1 + j) (.int .u8 201))
                clear hW
                go_wp2
                go_roundw
                case rel => exact ⟨j + 1, by omega, by go_num, unhide HW⟩
                case measure => simp [intOf]; omega
              · have R := hide (unhide HN _ _ (unhide S6) hW)
                clear hW HN S6 RR0 HQ
                go_wp2
                go_meet
                exact ⟨rfl, unhide R⟩
        · have HX := hide (xBarrier wa w.heap.size p D hX)
          have HY : Hid (∀ W, Fr w.heap.size wa W → Calls Try.prog 20 #[.pointer (some ⟨y, 0, none⟩)] W fun e w' => e = .returned (.int .i64 D.baE) ∧ Y w' w.heap.size y D.ba ∧ Fr2 w.heap.size W w') := fun W f => yBarrier W w.heap.size y D L k (hY.fr f) hO
          have HN : Hid (∀ W W', X W w.heap.size p D.ba → Y W' w.heap.size y D.ba → Fr w.heap.size wa W → Fr2 w.heap.size W W' → AcR w p y L (k + 1) W') := fun W W' hx hy f f' =>
            ar_of (hx.fr2 f') hy ((ba_len D).trans hO.len) (fun i s hi => Nat.le_succ_of_le (ba_few hO.few i s hi)) ((hfr.trans f.below).trans f'.below)
          clear hX hY hO hfr hAB
          generalize D.baE = er at *
          go_wp2_with fail
          refine (unhide HX).mono ?_
          rintro e w3 ⟨rfl, x3, f3⟩
          have H3 := hide (unhide HY _ f3)
          have X3 := hide x3
          have F3 := hide f3
          clear x3 f3
          go_wp2_with fail
          refine (unhide H3).mono ?_
          rintro e w4 ⟨rfl, y4, f4⟩
          have R := hide (unhide HN _ _ (unhide X3) y4 (unhide F3) f4)
          clear y4 f4 X3 F3 H3 HN HX HY
          go_wp2
          go_meet
          exact ⟨rfl, unhide R⟩
        · by_cases hg : (0 ≤ x.at_ ∧ x.at_ < D.secs.length) ∧ D.dark = false
          · obtain ⟨i, hi⟩ : ∃ i : Nat, x.at_ = i := ⟨x.at_.toNat, by omega⟩
            have hs := List.getElem?_eq_getElem (show i < D.secs.length by omega)
            generalize D.secs[i] = s at *
            have hsl := last_len (hO.ok i s hs)
            have HX : Hid (Calls Try.prog 21 #[.pointer (some ⟨p, 0, none⟩), .int .i64 i] wa fun e w' => ∃ q, e = .returned (.tuple #[.slice (some ⟨q, 0, none⟩) 256 256, .int .i64 0]) ∧ wa.heap.size ≤ q ∧ w'.heap[q]? = some (.cells (bv s.last).toArray 75 (0, 0)) ∧ Below wa.heap.size wa w') := by
              obtain ⟨g, vs, hx⟩ := hX
              exact Fetch_ok wa w.heap.size p g vs D hx i s hs hg.2
            have HY : Hid (∀ W, Below wa.heap.size wa W → Calls Try.prog 22 #[.pointer (some ⟨y, 0, none⟩), .int .i64 i] W fun e w' => ∃ q c, e = .returned (.tuple #[.slice (some ⟨q, 0, none⟩) 256 c, .int .i64 0]) ∧ BytesAt w' (some ⟨q, 0, none⟩) s.last ∧ Below W.heap.size W w') := fun W f => by
              obtain ⟨By, v, vals, hB, hy⟩ := hY
              exact rFetch_ok W By y v vals D (hy.below f) i s hs hg.2 hsl
            have HN : Hid (∀ W, Below wa.heap.size wa W → AcR w p y L (k + 1) W) := fun W f =>
              ar_of (hX.below f) (hY.below f) hO.len (fun i s hi => Nat.le_succ_of_le (hO.few i s hi)) (hfr.trans (f.mono hfr.size))
            have HC : Hid (∀ W, Below wa.heap.size wa W → W.cell? ⟨A, 1, none⟩ = some (.int .i64 i)) := fun W f => by rw [← hi]; exact (hAB.below f).c1
            rw [hi] at a1
            have HSL := hide hsl
            clear hX hY hO hfr hAB hs hg hi hsl
            go_wp2_with fail
            refine (unhide HX).mono ?_
            rintro e w3 ⟨q, rfl, hq, b3, f3⟩
            have k3 := unhide HC _ f3
            have H3 := hide (unhide HY _ f3)
            have F3 := hide f3
            have B3 := hide b3
            have Q3 := hide hq
            clear b3 f3 hq
            go_wp2_with fail
            refine (unhide H3).mono ?_
            rintro e w4 ⟨q', c', rfl, b4, f4⟩
            have b4' : w4.heap[q]? = some (.cells (bv s.last).toArray 75 (0, 0)) := (f4.block q (lt_of_heap (unhide B3))).trans (unhide B3)
            have HS := hide (SameBytes_self w4 (some ⟨q, 0, none⟩) (some ⟨q', 0, none⟩) s.last 256 256 c' (bytes_of_block b4') b4 (unhide HSL))
            have f4' : Below wa.heap.size wa w4 := (unhide F3).trans (f4.mono (unhide F3).size)
            have R0 : Wrote w4 wa.heap.size q 75 w4 := ⟨⟨_, b4', by rw [List.size_toArray, bv_length]; exact unhide HSL⟩, fun _ _ => rfl, Below.refl _ _⟩
            have F4 := hide f4'
            have RR0 := hide R0
            clear b4 f4 b4' f4' R0 H3 F3 B3 HX HY HC k3 HSL
            go_wp2_with fail
            refine (unhide HS).mono ?_
            rintro e w5 ⟨rfl, rfl⟩
            clear HS
            go_wp2
            go_loopw [20] (fun i wr => ∃ j : Nat, j ≤ 256 ∧ i = .int .i64 j ∧ Wrote w5 wa.heap.size q 75 wr) (fun i _ => 256 - (intOf i).toNat)
            case atStart => exact ⟨0, by omega, rfl, unhide RR0⟩
            case round =>
              obtain ⟨j, hj, rfl, hW⟩ := hrel
              by_cases hjl : j < 256
              · obtain ⟨⟨u, hu⟩, hf⟩ := hW.cell j hjl
                have HW := hide (hW.set (unhide Q3) j (.int .u8 202))
                clear hW
                go_wp2
                go_roundw
                case rel => exact ⟨j + 1, by omega, by go_num, unhide HW⟩
                case measure => simp [intOf]; omega
              · have R := hide (unhide HN _ ((unhide F4).trans hW.bel))
                clear hW HN F4 RR0 Q3
                go_wp2
                go_meet
                exact ⟨rfl, unhide R⟩
          · have HX := hide (xFetch_bad wa w.heap.size p D hX x.at_ hg)
            have HY := hide (yFetch_bad wa w.heap.size y D L k hY hO x.at_ hg)
            have HN : Hid (AcR w p y L (k + 1) wa) :=
              ar_of hX hY hO.len (fun i s hi => Nat.le_succ_of_le (hO.few i s hi)) hfr
            have HS := hide (SameBytes_self wa none none [] 0 0 0 ⟨fun _ => rfl, fun ad e => by cases e⟩ ⟨fun _ => rfl, fun ad e => by cases e⟩ rfl)
            clear hX hY hO hfr hAB hg
            generalize D.feE x.at_ = er at *
            go_wp2_with fail
            refine (unhide HX).mono ?_
            rintro e w3 ⟨rfl, rfl⟩
            go_wp2_with fail
            refine (unhide HY).mono ?_
            rintro e w4 ⟨rfl, rfl⟩
            go_wp2_with fail
            refine (unhide HS).mono ?_
            rintro e w5 ⟨rfl, rfl⟩
            clear HS HX HY
            go_wp2
            refine wp_loop_rounds 1 ?_
            rw [rounds_succ]
            go_wp2
            go_meet
            exact ⟨rfl, unhide HN⟩
        · have HX := hide (xTrip wa w.heap.size p D hX x.n (unhide HO).n)
          have HY : Hid (∀ W, Fr w.heap.size wa W → Calls Try.prog 25 #[.pointer (some ⟨y, 0, none⟩), .int .i64 x.n] W fun e w' => e = .returned (.tuple #[]) ∧ Y w' w.heap.size y (D.tr x.n) ∧ Fr2 w.heap.size W w') := fun W f => yTrip W w.heap.size y D (hY.fr f) x.n (unhide HO).n
          have HN : Hid (∀ W W', X W w.heap.size p (D.tr x.n) → Y W' w.heap.size y (D.tr x.n) → Fr w.heap.size wa W → Fr2 w.heap.size W W' → AcR w p y L (k + 1) W') := fun W W' hx hy f f' =>
            ar_of (hx.fr2 f') hy hO.len (fun i s hi => Nat.le_succ_of_le (hO.few i s hi)) ((hfr.trans f.below).trans f'.below)
          have HC : Hid (∀ W, Fr w.heap.size wa W → W.cell? ⟨A, 2, none⟩ = some (.int .i64 x.n)) := fun W f => (hAB.fr f).c2
          clear hX hY hO hfr hAB
          go_wp2_with fail
          refine (unhide HX).mono ?_
          rintro e w3 ⟨rfl, x3, f3⟩
          have k3 := unhide HC _ f3
          have H3 := hide (unhide HY _ f3)
          have X3 := hide x3
          have F3 := hide f3
          clear x3 f3
          go_wp2_with fail
          refine (unhide H3).mono ?_
          rintro e w4 ⟨rfl, y4, f4⟩
          have R := hide (unhide HN _ _ (unhide X3) y4 (unhide F3) f4)
          clear y4 f4 X3 F3 H3 HN HX HY HC k3
          go_wp2
          go_meet
          exact ⟨rfl, unhide R⟩
        · have hI := unhide HO
          have HI := hide (Ints_any wa w.heap.size x.ka x.kc x.kept _ rfl (hI.kept.below hfr) hI.none hI.big)
          have HX : Hid (∀ W v, Below wa.heap.size wa W → W.ownsRow wa.heap.size 3 1 v x.kept.length (iv x.kept) → Calls Try.prog 26 #[.pointer (some ⟨p, 0, none⟩), v] W fun e w' => e = .returned (.int .i64 0) ∧ X w' w.heap.size p (D.crashed x.kept) ∧ Fr w.heap.size W w') := fun W v f ho => xCrash W w.heap.size p D L k (hX.below f) hO (by omega) v _ _ x.kept rfl (kept_bound hI.kept) ho
          have HY : Hid (∀ W W', Below wa.heap.size wa W → Fr w.heap.size W W' → Calls Try.prog 28 #[.pointer (some ⟨y, 0, none⟩), .slice x.ka x.kept.length x.kc] W' fun e w' => e = .returned (.tuple #[]) ∧ Y w' w.heap.size y (D.crashed x.kept) ∧ Fr2 w.heap.size W' w') := fun W W' f f' => yCrash W' w.heap.size y D L k ((hY.below f).fr f') hO (by omega) x.ka x.kc _ x.kept rfl (hI.kept.below ((hfr.trans (f.mono hfr.size)).trans f'.below))
          have HN : Hid (∀ W W' W2, X W' w.heap.size p (D.crashed x.kept) → Y W2 w.heap.size y (D.crashed x.kept) → Below wa.heap.size wa W → Fr w.heap.size W W' → Fr2 w.heap.size W' W2 → AcR w p y L (k + 1) W2) := fun W W' W2 hx hy f f' f2 =>
            ar_of (hx.fr2 f2) hy ((crashed_len _ D).trans hO.len) (fun i s hi => Nat.le_succ_of_le (crashed_few _ hO.few i s hi)) (((hfr.trans (f.mono hfr.size)).trans f'.below).trans f2.below)
          have HC : Hid (∀ W W', Below wa.heap.size wa W → Fr w.heap.size W W' → W'.cell? ⟨A, 5, none⟩ = some (.slice x.ka x.kept.length x.kc)) := fun W W' f f' => ((hAB.below f).fr f').c5
          clear hX hY hO hfr hAB hI
          go_wp2_with fail
          refine (unhide HI).mono ?_
          rintro e w3 ⟨v3, rfl, o3, f3⟩
          have H3 := hide (unhide HX _ _ f3 o3)
          have F3 := hide f3
          clear o3 f3
          go_wp2_with fail
          refine (unhide H3).mono ?_
          rintro e w4 ⟨rfl, x4, f4⟩
          have k4 := unhide HC _ _ (unhide F3) f4
          have H4 := hide (unhide HY _ _ (unhide F3) f4)
          have X4 := hide x4
          have F4 := hide f4
          clear x4 f4
          go_wp2_with fail
          refine (unhide H4).mono ?_
          rintro e w5 ⟨rfl, y5, f5⟩
          have R := hide (unhide HN _ _ _ (unhide X4) y5 (unhide F3) (unhide F4) f5)
          clear y5 f5 X4 F4 H4 H3 F3 HN HX HY HC HI k4
          go_wp2
          go_meet
          exact ⟨rfl, unhide R⟩
      case rest =>
        obtain ⟨rfl, hR⟩ := hcut
        obtain ⟨⟨D, hX, hY, hO⟩, hfr⟩ := hR
        have HT := hide (acts_tail hX hY hO (by omega))
        have hdone := hY.done
        have HR := hide (show AcR w p y L (k + 1) wc from ⟨⟨D, hX, hY, hO⟩, hfr⟩)
        clear hX hY hO hfr HA HD ha a0 a1 a2 a3 a4 a5 hA2 HAB
        go_wp2_with fail
        go_region_held (fun W => W.cell? ⟨y, 1, none⟩ = some (.int .i64 D.moves)) (go_keep)
          (first
            | (go_at_call 29; refine ((unhide HT).moves _ (by repeat (first | exact Below.refl _ _ | refine Below.drew ?_))).mono ?_; rintro e w3 ⟨rfl, rfl⟩)
            | (go_at_call 31; refine ((unhide HT).cached _ (by repeat (first | exact Below.refl _ _ | refine Below.drew ?_))).mono ?_; rintro e w4 ⟨v4, rfl, o4, f4, k4⟩)
            | (go_at_call 32; refine ((unhide HT).rcached _ _ _ (by repeat (first | exact f4 | refine Below.drew ?_)) (own_below o4 (by repeat (first | exact Below.refl _ _ | refine Below.drew ?_)))).mono ?_; rintro e w5 ⟨v5, rfl, s5, f5, k5⟩)
            | (go_at_call 30; refine (s5 _ (by repeat (first | exact Below.refl _ _ | refine Below.drew ?_))).mono ?_; rintro e w6 ⟨rfl, f6, k6⟩)
            | (go_at_call 33; refine ((unhide HT).dump _ (by repeat (first | exact f6 | refine Below.drew ?_))).mono ?_; rintro e w7 ⟨v7, rfl, o7, f7, k7⟩)
            | (go_at_call 34; refine ((unhide HT).rdump _ _ _ (by repeat (first | exact f7 | refine Below.drew ?_)) (own_below o7 (by repeat (first | exact Below.refl _ _ | refine Below.drew ?_)))).mono ?_; rintro e w8 ⟨v8, rfl, s8, f8, k8⟩)
            | (go_at_call 23; refine (s8 _ (by repeat (first | exact Below.refl _ _ | refine Below.drew ?_))).mono ?_; rintro e w9 ⟨rfl, f9, k9⟩))
        have R9 := hide ((unhide HR).below f9)
        clear s5 s8 o4 o7 f4 f5 f6 f7 f8 f9 k4 k5 k6 k7 k8 HT HR hdone
        go_wp2
        go_roundg (80 - (k + 1))
        case measure => omega
        case rel => exact ⟨k + 1, rfl, by omega, by omega, by go_num, unhide R9⟩
    · clear HA
      obtain ⟨⟨D, hX, hY, hO⟩, hfr⟩ := hR
      have HC : Hid (Calls Try.prog 11 #[.pointer (some ⟨p, 0, none⟩)] wr fun e w' => e = .returned (.int .i64 (L : Int)) ∧ w' = wr) := by
        obtain ⟨g, vs, hx⟩ := hX
        have := Count_any wr w.heap.size p g vs D hx
        rw [hO.len] at this
        exact this
      have HF := hide hfr
      clear hX hY hO hfr
      by_cases h1 : k < l.length
      · have h80 : ¬ ((k : Int) < 80) := by omega
        have h80' : decide ((k : Int) < 80) = false := by simpa using h80
        go_wp2_with fail
        refine (unhide HC).mono ?_
        rintro e w5 ⟨rfl, rfl⟩
        go_wp2_with fail
        refine (works_any _).mono ?_
        rintro e w6 ⟨rfl, b6⟩
        have B6 := hide ((unhide HF).trans (b6.mono (unhide HF).size))
        clear b6
        go_wp2
        go_ret
        exact ⟨rfl, unhide B6⟩
      · have h1' : decide ((k : Int) < (l.length : Int)) = false := by simp; omega
        go_wp2_with fail
        refine (unhide HC).mono ?_
        rintro e w5 ⟨rfl, rfl⟩
        go_wp2_with fail
        refine (works_any _).mono ?_
        rintro e w6 ⟨rfl, b6⟩
        have B6 := hide ((unhide HF).trans (b6.mono (unhide HF).size))
        clear b6
        go_wp2
        go_ret
        exact ⟨rfl, unhide B6⟩
end Go.Proofs.Ytaflibnalhfenaa
