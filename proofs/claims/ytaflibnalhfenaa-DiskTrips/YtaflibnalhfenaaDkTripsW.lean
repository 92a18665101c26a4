/- The walk of the law DiskTrips. -/
import Derived.Test.YtaflibnalhfenaaDkTripsA
namespace Go.Proofs.Ytaflibnalhfenaa
open Go.RowKit
set_option linter.unusedVariables false

theorem ActsOf.take {w : World} {a : Option Addr} {l : List LAct} (h : ActsOf w a l) (m : Nat) : ActsOf w a (l.take m) := by
  rcases h with h | ⟨b, o, e, h⟩
  · exact .inl (by simp [h])
  · refine .inr ⟨b, o, e, fun j x hx => h j x ?_⟩
    rw [List.getElem?_take] at hx
    split at hx
    · exact hx
    · cases hx

set_option maxHeartbeats 6000000 in
set_option maxRecDepth 100000 in
theorem trips_walk (w : World) (a0 : Option Addr) (n0 c0 : Nat) (l0 : List LAct) (n : Int) (e0 : l0.length = n0) (m0 : n0 ≤ c0) (m1 : c0 ≤ 9223372036854775807) (h0 : ActsOf w a0 l0) :
    Calls Try.prog 7 #[.slice a0 n0 c0, .int .i64 n] w fun e w' => e = .returned (.bool true) ∧ Below w.heap.size w w' := by
  have hN := among_lt n 40 (by omega)
  by_cases hbig : 80 < n0
  · obtain ⟨ll, hll⟩ : ∃ ll, ll = l0.take 80 := ⟨_, rfl⟩
    have H0 := hide (show ActsOf w a0 ll by rw [hll]; exact h0.take 80)
    have E0 := hide (show ll.length = 80 by rw [hll]; simp; omega)
    clear h0 e0 hll
    have hlen80 : 80 ≤ 80 := by omega
    have hbigi : (80 : Int) < n0 := by omega
    go_enter Try.func7, Try.ntmps7
    go_wp2_with fail
    refine (works_any _).mono ?_
    rintro e w1 ⟨rfl, b1⟩
    go_wp2_with fail
    refine (Among_any _ _ 40 (by omega) (by omega)).mono ?_
    rintro e w1' ⟨rfl, hw1⟩
    subst hw1
    generalize among n 40 = N at *
    have hb1 := b1.size
    have HB1 := hide b1
    have HA := hide ((unhide H0).below b1)
    clear b1
    go_wp2_with fail
    refine (Make_ok 4 _ (by omega) (by omega)).mono ?_
    rintro e w2 ⟨rfl, d2, b2⟩
    go_wp2_with fail
    refine (Trip_any _ _ _ _ _ _ d2 N (by omega)).mono ?_
    rintro e w3 ⟨rfl, d3, f3⟩
    have R0 : XRel w w1'.heap.size (w1'.heap.size + 1) w1'.heap.size ll N 0 w3 := ⟨⟨_, _, d3, XS.start ll N⟩, ((unhide HB1).trans (b2.mono hb1)).trans (f3.below.mono hb1)⟩
    clear d2 b2 d3 f3
    go_wp2
    go_loopw [7] (fun i wr => ∃ k : Nat, k ≤ 80 ∧ i = .int .i64 k ∧ XRel w w1'.heap.size (w1'.heap.size + 1) w1'.heap.size ll N k wr) (fun i _ => 80 - (intOf i).toNat)
    case atStart => exact ⟨0, by omega, rfl, R0⟩
    case round =>
      clear R0
      obtain ⟨k, hk, rfl, hR⟩ := hrel
      by_cases hlt : k < 80
      · rcases (unhide H0).below hR.fr with hz | ⟨b, o, rfl, hA⟩
        · have := unhide E0; omega
        have hkl : k < ll.length := by rw [unhide E0]; exact hlt
        have hx := List.getElem?_eq_getElem hkl
        obtain ⟨x0, x1, x3⟩ := hA k _ hx
        obtain ⟨vs, D, hD, hX⟩ := hR.ex
        have hcb : b < w.heap.size := by
          rcases unhide H0 with hz | ⟨b', o', e', hA'⟩
          · have := unhide E0; omega
          · injection e' with e'; injection e' with e1 e2 e3
            subst e1
            exact World.block_lt_of_cell? w _ (hA' k _ hx).1
        obtain ⟨h4, hfew⟩ := hX.few (show k ≤ ll.length by omega)
        generalize ll[k] = x at *
        have hin := among_lt x.at_ 4 (by omega)
        have hki : (k : Int) < 80 := by omega
        have HF := hide hR.fr
        by_cases h3 : among x.kind 4 = 3
        · have h3' : ((among x.kind 4 : Int) == 3) = true := by rw [h3]; rfl
          by_cases hkN : k < N
          · have hkNi : (k : Int) < N := by omega
            have HC := hide (Barrier_bar _ _ _ _ vs _ hD (hX.can hkN))
            have HN := hide (hX.bar hkN hx h3)
            clear hX hD hR hA hx h4 hfew h3 x1 x3
            go_wp2_with fail
            refine (Among_any _ _ 4 (by omega) (by omega)).mono ?_
            rintro e w4 ⟨rfl, rfl⟩
            go_wp2_with fail
            refine (unhide HC).mono ?_
            rintro e w5 ⟨rfl, ⟨vs5, d5⟩, f5⟩
            have R : XRel w w1'.heap.size (w1'.heap.size + 1) w1'.heap.size ll N (k + 1) w5 := ⟨⟨_, _, d5, unhide HN⟩, (unhide HF).trans (f5.below.mono hb1)⟩
            clear d5 f5 HC HN HF x0
            go_wp2
            go_roundw
            case rel => exact ⟨k + 1, by omega, by go_num, R⟩
            case measure => simp [intOf]; omega
          · have hkNi : ¬ ((k : Int) < N) := by omega
            have hkNd : decide ((k : Int) < N) = false := by simpa using hkNi
            have HC := hide (Barrier_dark _ _ _ _ vs _ hD (hX.cannot (by omega)))
            have HN := hide (hX.moved_dark (show N ≤ k by omega))
            clear hX hD hR hA hx h4 hfew h3 x1 x3
            go_wp2_with fail
            refine (Among_any _ _ 4 (by omega) (by omega)).mono ?_
            rintro e w4 ⟨rfl, rfl⟩
            go_wp2_with fail
            refine (unhide HC).mono ?_
            rintro e w5 ⟨rfl, d5, f5⟩
            have R : XRel w w1'.heap.size (w1'.heap.size + 1) w1'.heap.size ll N (k + 1) w5 := ⟨⟨_, _, d5, unhide HN⟩, (unhide HF).trans (f5.below.mono hb1)⟩
            clear d5 f5 HC HN HF x0
            go_wp2
            go_roundw
            case rel => exact ⟨k + 1, by omega, by go_num, R⟩
            case measure => simp [intOf]; omega
        · have h3' : ((among x.kind 4 : Int) == 3) = false := by rw [beq_eq_false_iff_ne]; omega
          have b2 : Below wr.heap.size wr (wr.alloc (.cells (bv (allOf x.byte)).toArray 5)).drew := ((Below.refl _ _).alloc (Nat.le_refl _) _).drew
          have HK := hide (fun (w8 : World) (f8 : Fr w1'.heap.size (wr.alloc (.cells (bv (allOf x.byte)).toArray 5)).drew w8) => keep_acts (w2 := wr) (B := w1'.heap.size) (by omega) (by have := hD.bw; omega) x1 x3 f8)
          have HF2 : Hid (∀ w8, Fr w1'.heap.size (wr.alloc (.cells (bv (allOf x.byte)).toArray 5)).drew w8 → Below w.heap.size w w8) := fun w8 f8 => ((unhide HF).trans ((Below.refl _ _).alloc hR.fr.size _).drew).trans (f8.below.mono hb1)
          by_cases hkN : k < N
          · have hkNi : (k : Int) < N := by omega
            have HS := hide (Store_can _ _ _ _ vs _ (hD.below b2) (hX.can hkN) h4 (fun i s hi => Nat.le_trans (hfew i s hi) (by omega)) (among x.at_ 4) hin wr.heap.size 256 x.byte (heap_alloc_last wr _))
            have HN := hide (hX.sto hkN hx h3)
            clear b2 hX hD hR hA hx h4 hfew h3
            go_wp2_with fail
            refine (Among_any _ _ 4 (by omega) (by omega)).mono ?_
            rintro e w4 ⟨rfl, rfl⟩
            go_wp2_with fail
            go_region_held (fun w' => w'.cell? ⟨b, o + k * 6 + 1, none⟩ = some (.int .i64 x.at_) ∧ w'.cell? ⟨b, o + k * 6 + 3, none⟩ = some (.int .u8 (x.byte.toNat : Int))) (go_keep)
              (first
                | (go_at_call 14; refine (Among_any _ _ 4 (by omega) (by omega)).mono ?_; rintro e w8 ⟨rfl, rfl⟩)
                | (go_at_call 15; refine (of_any _ _).mono ?_; rintro e w8 ⟨rfl, rfl⟩)
                | (go_at_call 16; refine (unhide HS).mono ?_; rintro e w8 ⟨rfl, hx8, f8⟩; have k1 := (unhide HK w8 f8).1; have k3 := (unhide HK w8 f8).2))
            obtain ⟨vs8, d8⟩ := hx8
            have R : XRel w w1'.heap.size (w1'.heap.size + 1) w1'.heap.size ll N (k + 1) w8 := ⟨⟨_, _, d8, unhide HN⟩, unhide HF2 w8 f8⟩
            clear d8 f8 HS HK HN HF HF2 x0 x1 x3 k1 k3
            go_wp2
            go_roundw
            case rel => exact ⟨k + 1, by omega, by go_num, R⟩
            case measure => simp [intOf]; omega
          · have hkNi : ¬ ((k : Int) < N) := by omega
            have hkNd : decide ((k : Int) < N) = false := by simpa using hkNi
            have HS := hide (Store_dark _ _ _ _ vs _ (hD.below b2) (among x.at_ 4 : Int) (some ⟨wr.heap.size, 0, none⟩) 256 ⟨by omega, by omega⟩ (hX.cannot (by omega)))
            have HN := hide (hX.moved_dark (show N ≤ k by omega))
            clear b2 hX hD hR hA hx h4 hfew h3
            go_wp2_with fail
            refine (Among_any _ _ 4 (by omega) (by omega)).mono ?_
            rintro e w4 ⟨rfl, rfl⟩
            go_wp2_with fail
            go_region_held (fun w' => w'.cell? ⟨b, o + k * 6 + 1, none⟩ = some (.int .i64 x.at_) ∧ w'.cell? ⟨b, o + k * 6 + 3, none⟩ = some (.int .u8 (x.byte.toNat : Int))) (go_keep)
              (first
                | (go_at_call 14; refine (Among_any _ _ 4 (by omega) (by omega)).mono ?_; rintro e w8 ⟨rfl, rfl⟩)
                | (go_at_call 15; refine (of_any _ _).mono ?_; rintro e w8 ⟨rfl, rfl⟩)
                | (go_at_call 16; refine (unhide HS).mono ?_; rintro e w8 ⟨rfl, d8, f8⟩; have k1 := (unhide HK w8 f8).1; have k3 := (unhide HK w8 f8).2))
            have R : XRel w w1'.heap.size (w1'.heap.size + 1) w1'.heap.size ll N (k + 1) w8 := ⟨⟨_, _, d8, unhide HN⟩, unhide HF2 w8 f8⟩
            clear d8 f8 HS HK HN HF HF2 x0 x1 x3 k1 k3
            go_wp2
            go_roundw
            case rel => exact ⟨k + 1, by omega, by go_num, R⟩
            case measure => simp [intOf]; omega
      · have hk' : 80 = k := by omega
        subst hk'
        obtain ⟨vs, D, hD, hX⟩ := hR.ex
        by_cases hNl : N < 80
        · have hNi : (N : Int) < 80 := by omega
          have hml : N ≤ ll.length := by rw [unhide E0]; omega
          have hS : D.secs = (runA (ll.take N) (Dk.fresh 4)).secs := by have := hX.secs; rw [show min 80 N = N by omega] at this; exact this
          have hM : D.moves = (N : Int) := by have := hX.moves; rw [show min 80 N = N by omega, run_moves ll N hml (by omega)] at this; exact this
          obtain ⟨h4, hfew⟩ := hX.few (show 80 ≤ ll.length by rw [unhide E0]; omega)
          have hdump : D.dump = (runA ((ll.take N).take 80) (Dk.fresh 4)).dump := by
            rw [List.take_of_length_le (show (ll.take N).length ≤ 80 by simp; omega)]
            unfold Dk.dump; rw [hS]
          have HST := hide (stored_any wr a0 c0 (ll.take N) N (by simp; omega) (by omega) (((unhide H0).below hR.fr).take N))
          have HFEW : Hid (∀ (i : Nat) (s : Sec), D.secs[i]? = some s → s.wait.length ≤ 1000000) := fun i s hi => Nat.le_trans (hfew i s hi) (by omega)
          have HDU := hide hdump
          have HM := hide hM
          have HX := hide hX
          have HF := hide hR.fr
          have HD := hide hD
          have H4 := hide h4
          generalize hY : runA ((ll.take N).take 80) (Dk.fresh 4) = Y at *
          clear hS hM hfew hdump hD hX hR h4 hY
          go_wp2_with fail
          refine (unhide HST).mono ?_
          rintro e w5 ⟨rfl, ⟨g', vs', dy⟩, gy, b5⟩
          have dx := (unhide HD).below b5
          have B5 := (unhide HF).trans (b5.mono (unhide HF).size)
          have HGY := hide gy
          clear HST HD gy b5
          go_wp2_with fail
          refine (Fetch_dark _ _ _ _ _ _ dx 0 ⟨by omega, by rw [unhide H4]; omega⟩ (by rw [(unhide HX).dark, decide_eq_true (by omega)])).mono ?_
          rintro e w6 ⟨rfl, rfl⟩
          go_wp2_with fail
          refine (Dump_any _ _ _ _ _ _ dx).mono ?_
          rintro e w7 ⟨v7, rfl, l7, o7, b7⟩
          have dx7 := dx.below b7
          have dy7 := dy.below b7
          have B7 := B5.trans (b7.mono B5.size)
          rw [unhide H4] at o7 l7
          obtain ⟨a7, c7, rfl, -⟩ := own_form o7
          clear dx dy b7 B5
          go_wp2_with fail
          refine (Dump_any _ _ _ _ _ _ dy7).mono ?_
          rintro e w8 ⟨v8, rfl, l8, o8, b8⟩
          have dx8 := dx7.below b8
          have B8 := B7.trans (b8.mono B7.size)
          rw [(unhide HGY).four] at o8 l8
          obtain ⟨a8, c8, rfl, -⟩ := own_form o8
          have S := SameBytes_n w8 a7 a8 D.dump Y.dump 1024 1024 c7 c8 (own_bytes (own_below o7 b8)) (own_bytes o8) l7 l8
          rw [decide_eq_true (unhide HDU)] at S
          have HS := hide S
          clear S dx7 dy7 b8 B7 o7 o8 l7 l8
          go_wp2_with fail
          refine (unhide HS).mono ?_
          rintro e w9 ⟨rfl, rfl⟩
          clear HS
          have HMv := hide (Moves_any _ _ _ _ _ _ dx8)
          go_wp2_with fail
          refine (unhide HMv).mono ?_
          rw [unhide HM]
          rintro e w10 ⟨rfl, rfl⟩
          have HC := hide (Crash_none _ _ _ _ _ _ dx8 (unhide HFEW) none 0)
          clear dx8 HMv
          go_wp2_with fail
          refine (unhide HC).mono ?_
          rintro e w11 ⟨rfl, ⟨v11, E, d11, hP⟩, f11⟩
          rw [part_none hP] at d11
          have B11 := B8.trans (f11.below.mono hb1)
          clear HC hP f11 B8
          go_wp2_with fail
          refine (Barrier_bar _ _ _ _ _ _ d11 rfl).mono ?_
          rintro e w12 ⟨rfl, -, f12⟩
          have B12 := B11.trans (f12.below.mono hb1)
          clear d11 f12 B11
          go_wp2
          go_ret
          exact ⟨rfl, B12⟩
        · omega
  · obtain ⟨ll, hll⟩ : ∃ ll, ll = l0 := ⟨_, rfl⟩
    have H0 := hide (show ActsOf w a0 ll by rw [hll]; exact h0)
    have E0 := hide (show ll.length = n0 by rw [hll]; exact e0)
    clear h0 e0 hll
    have hlen80 : n0 ≤ 80 := by omega
    have hbigi : ¬ ((80 : Int) < n0) := by omega
    go_enter Try.func7, Try.ntmps7
    go_wp2_with fail
    refine (works_any _).mono ?_
    rintro e w1 ⟨rfl, b1⟩
    go_wp2_with fail
    refine (Among_any _ _ 40 (by omega) (by omega)).mono ?_
    rintro e w1' ⟨rfl, hw1⟩
    subst hw1
    generalize among n 40 = N at *
    have hb1 := b1.size
    have HB1 := hide b1
    have HA := hide ((unhide H0).below b1)
    clear b1
    go_wp2_with fail
    refine (Make_ok 4 _ (by omega) (by omega)).mono ?_
    rintro e w2 ⟨rfl, d2, b2⟩
    go_wp2_with fail
    refine (Trip_any _ _ _ _ _ _ d2 N (by omega)).mono ?_
    rintro e w3 ⟨rfl, d3, f3⟩
    have R0 : XRel w w1'.heap.size (w1'.heap.size + 1) w1'.heap.size ll N 0 w3 := ⟨⟨_, _, d3, XS.start ll N⟩, ((unhide HB1).trans (b2.mono hb1)).trans (f3.below.mono hb1)⟩
    clear d2 b2 d3 f3
    go_wp2
    go_loopw [7] (fun i wr => ∃ k : Nat, k ≤ n0 ∧ i = .int .i64 k ∧ XRel w w1'.heap.size (w1'.heap.size + 1) w1'.heap.size ll N k wr) (fun i _ => n0 - (intOf i).toNat)
    case atStart => exact ⟨0, by omega, rfl, R0⟩
    case round =>
      clear R0
      obtain ⟨k, hk, rfl, hR⟩ := hrel
      by_cases hlt : k < n0
      · rcases (unhide H0).below hR.fr with hz | ⟨b, o, rfl, hA⟩
        · have := unhide E0; omega
        have hkl : k < ll.length := by rw [unhide E0]; exact hlt
        have hx := List.getElem?_eq_getElem hkl
        obtain ⟨x0, x1, x3⟩ := hA k _ hx
        obtain ⟨vs, D, hD, hX⟩ := hR.ex
        have hcb : b < w.heap.size := by
          rcases unhide H0 with hz | ⟨b', o', e', hA'⟩
          · have := unhide E0; omega
          · injection e' with e'; injection e' with e1 e2 e3
            subst e1
            exact World.block_lt_of_cell? w _ (hA' k _ hx).1
        obtain ⟨h4, hfew⟩ := hX.few (show k ≤ ll.length by omega)
        generalize ll[k] = x at *
        have hin := among_lt x.at_ 4 (by omega)
        have hki : (k : Int) < n0 := by omega
        have HF := hide hR.fr
        by_cases h3 : among x.kind 4 = 3
        · have h3' : ((among x.kind 4 : Int) == 3) = true := by rw [h3]; rfl
          by_cases hkN : k < N
          · have hkNi : (k : Int) < N := by omega
            have HC := hide (Barrier_bar _ _ _ _ vs _ hD (hX.can hkN))
            have HN := hide (hX.bar hkN hx h3)
            clear hX hD hR hA hx h4 hfew h3 x1 x3
            go_wp2_with fail
            refine (Among_any _ _ 4 (by omega) (by omega)).mono ?_
            rintro e w4 ⟨rfl, rfl⟩
            go_wp2_with fail
            refine (unhide HC).mono ?_
            rintro e w5 ⟨rfl, ⟨vs5, d5⟩, f5⟩
            have R : XRel w w1'.heap.size (w1'.heap.size + 1) w1'.heap.size ll N (k + 1) w5 := ⟨⟨_, _, d5, unhide HN⟩, (unhide HF).trans (f5.below.mono hb1)⟩
            clear d5 f5 HC HN HF x0
            go_wp2
            go_roundw
            case rel => exact ⟨k + 1, by omega, by go_num, R⟩
            case measure => simp [intOf]; omega
          · have hkNi : ¬ ((k : Int) < N) := by omega
            have hkNd : decide ((k : Int) < N) = false := by simpa using hkNi
            have HC := hide (Barrier_dark _ _ _ _ vs _ hD (hX.cannot (by omega)))
            have HN := hide (hX.moved_dark (show N ≤ k by omega))
            clear hX hD hR hA hx h4 hfew h3 x1 x3
            go_wp2_with fail
            refine (Among_any _ _ 4 (by omega) (by omega)).mono ?_
            rintro e w4 ⟨rfl, rfl⟩
            go_wp2_with fail
            refine (unhide HC).mono ?_
            rintro e w5 ⟨rfl, d5, f5⟩
            have R : XRel w w1'.heap.size (w1'.heap.size + 1) w1'.heap.size ll N (k + 1) w5 := ⟨⟨_, _, d5, unhide HN⟩, (unhide HF).trans (f5.below.mono hb1)⟩
            clear d5 f5 HC HN HF x0
            go_wp2
            go_roundw
            case rel => exact ⟨k + 1, by omega, by go_num, R⟩
            case measure => simp [intOf]; omega
        · have h3' : ((among x.kind 4 : Int) == 3) = false := by rw [beq_eq_false_iff_ne]; omega
          have b2 : Below wr.heap.size wr (wr.alloc (.cells (bv (allOf x.byte)).toArray 5)).drew := ((Below.refl _ _).alloc (Nat.le_refl _) _).drew
          have HK := hide (fun (w8 : World) (f8 : Fr w1'.heap.size (wr.alloc (.cells (bv (allOf x.byte)).toArray 5)).drew w8) => keep_acts (w2 := wr) (B := w1'.heap.size) (by omega) (by have := hD.bw; omega) x1 x3 f8)
          have HF2 : Hid (∀ w8, Fr w1'.heap.size (wr.alloc (.cells (bv (allOf x.byte)).toArray 5)).drew w8 → Below w.heap.size w w8) := fun w8 f8 => ((unhide HF).trans ((Below.refl _ _).alloc hR.fr.size _).drew).trans (f8.below.mono hb1)
          by_cases hkN : k < N
          · have hkNi : (k : Int) < N := by omega
            have HS := hide (Store_can _ _ _ _ vs _ (hD.below b2) (hX.can hkN) h4 (fun i s hi => Nat.le_trans (hfew i s hi) (by omega)) (among x.at_ 4) hin wr.heap.size 256 x.byte (heap_alloc_last wr _))
            have HN := hide (hX.sto hkN hx h3)
            clear b2 hX hD hR hA hx h4 hfew h3
            go_wp2_with fail
            refine (Among_any _ _ 4 (by omega) (by omega)).mono ?_
            rintro e w4 ⟨rfl, rfl⟩
            go_wp2_with fail
            go_region_held (fun w' => w'.cell? ⟨b, o + k * 6 + 1, none⟩ = some (.int .i64 x.at_) ∧ w'.cell? ⟨b, o + k * 6 + 3, none⟩ = some (.int .u8 (x.byte.toNat : Int))) (go_keep)
              (first
                | (go_at_call 14; refine (Among_any _ _ 4 (by omega) (by omega)).mono ?_; rintro e w8 ⟨rfl, rfl⟩)
                | (go_at_call 15; refine (of_any _ _).mono ?_; rintro e w8 ⟨rfl, rfl⟩)
                | (go_at_call 16; refine (unhide HS).mono ?_; rintro e w8 ⟨rfl, hx8, f8⟩; have k1 := (unhide HK w8 f8).1; have k3 := (unhide HK w8 f8).2))
            obtain ⟨vs8, d8⟩ := hx8
            have R : XRel w w1'.heap.size (w1'.heap.size + 1) w1'.heap.size ll N (k + 1) w8 := ⟨⟨_, _, d8, unhide HN⟩, unhide HF2 w8 f8⟩
            clear d8 f8 HS HK HN HF HF2 x0 x1 x3 k1 k3
            go_wp2
            go_roundw
            case rel => exact ⟨k + 1, by omega, by go_num, R⟩
            case measure => simp [intOf]; omega
          · have hkNi : ¬ ((k : Int) < N) := by omega
            have hkNd : decide ((k : Int) < N) = false := by simpa using hkNi
            have HS := hide (Store_dark _ _ _ _ vs _ (hD.below b2) (among x.at_ 4 : Int) (some ⟨wr.heap.size, 0, none⟩) 256 ⟨by omega, by omega⟩ (hX.cannot (by omega)))
            have HN := hide (hX.moved_dark (show N ≤ k by omega))
            clear b2 hX hD hR hA hx h4 hfew h3
            go_wp2_with fail
            refine (Among_any _ _ 4 (by omega) (by omega)).mono ?_
            rintro e w4 ⟨rfl, rfl⟩
            go_wp2_with fail
            go_region_held (fun w' => w'.cell? ⟨b, o + k * 6 + 1, none⟩ = some (.int .i64 x.at_) ∧ w'.cell? ⟨b, o + k * 6 + 3, none⟩ = some (.int .u8 (x.byte.toNat : Int))) (go_keep)
              (first
                | (go_at_call 14; refine (Among_any _ _ 4 (by omega) (by omega)).mono ?_; rintro e w8 ⟨rfl, rfl⟩)
                | (go_at_call 15; refine (of_any _ _).mono ?_; rintro e w8 ⟨rfl, rfl⟩)
                | (go_at_call 16; refine (unhide HS).mono ?_; rintro e w8 ⟨rfl, d8, f8⟩; have k1 := (unhide HK w8 f8).1; have k3 := (unhide HK w8 f8).2))
            have R : XRel w w1'.heap.size (w1'.heap.size + 1) w1'.heap.size ll N (k + 1) w8 := ⟨⟨_, _, d8, unhide HN⟩, unhide HF2 w8 f8⟩
            clear d8 f8 HS HK HN HF HF2 x0 x1 x3 k1 k3
            go_wp2
            go_roundw
            case rel => exact ⟨k + 1, by omega, by go_num, R⟩
            case measure => simp [intOf]; omega
      · have hk' : n0 = k := by omega
        subst hk'
        obtain ⟨vs, D, hD, hX⟩ := hR.ex
        by_cases hNl : N < n0
        · have hNi : (N : Int) < n0 := by omega
          have hml : N ≤ ll.length := by rw [unhide E0]; omega
          have hS : D.secs = (runA (ll.take N) (Dk.fresh 4)).secs := by have := hX.secs; rw [show min n0 N = N by omega] at this; exact this
          have hM : D.moves = (N : Int) := by have := hX.moves; rw [show min n0 N = N by omega, run_moves ll N hml (by omega)] at this; exact this
          obtain ⟨h4, hfew⟩ := hX.few (show n0 ≤ ll.length by rw [unhide E0]; omega)
          have hdump : D.dump = (runA ((ll.take N).take 80) (Dk.fresh 4)).dump := by
            rw [List.take_of_length_le (show (ll.take N).length ≤ 80 by simp; omega)]
            unfold Dk.dump; rw [hS]
          have HST := hide (stored_any wr a0 c0 (ll.take N) N (by simp; omega) (by omega) (((unhide H0).below hR.fr).take N))
          have HFEW : Hid (∀ (i : Nat) (s : Sec), D.secs[i]? = some s → s.wait.length ≤ 1000000) := fun i s hi => Nat.le_trans (hfew i s hi) (by omega)
          have HDU := hide hdump
          have HM := hide hM
          have HX := hide hX
          have HF := hide hR.fr
          have HD := hide hD
          have H4 := hide h4
          generalize hY : runA ((ll.take N).take 80) (Dk.fresh 4) = Y at *
          clear hS hM hfew hdump hD hX hR h4 hY
          go_wp2_with fail
          refine (unhide HST).mono ?_
          rintro e w5 ⟨rfl, ⟨g', vs', dy⟩, gy, b5⟩
          have dx := (unhide HD).below b5
          have B5 := (unhide HF).trans (b5.mono (unhide HF).size)
          have HGY := hide gy
          clear HST HD gy b5
          go_wp2_with fail
          refine (Fetch_dark _ _ _ _ _ _ dx 0 ⟨by omega, by rw [unhide H4]; omega⟩ (by rw [(unhide HX).dark, decide_eq_true (by omega)])).mono ?_
          rintro e w6 ⟨rfl, rfl⟩
          go_wp2_with fail
          refine (Dump_any _ _ _ _ _ _ dx).mono ?_
          rintro e w7 ⟨v7, rfl, l7, o7, b7⟩
          have dx7 := dx.below b7
          have dy7 := dy.below b7
          have B7 := B5.trans (b7.mono B5.size)
          rw [unhide H4] at o7 l7
          obtain ⟨a7, c7, rfl, -⟩ := own_form o7
          clear dx dy b7 B5
          go_wp2_with fail
          refine (Dump_any _ _ _ _ _ _ dy7).mono ?_
          rintro e w8 ⟨v8, rfl, l8, o8, b8⟩
          have dx8 := dx7.below b8
          have B8 := B7.trans (b8.mono B7.size)
          rw [(unhide HGY).four] at o8 l8
          obtain ⟨a8, c8, rfl, -⟩ := own_form o8
          have S := SameBytes_n w8 a7 a8 D.dump Y.dump 1024 1024 c7 c8 (own_bytes (own_below o7 b8)) (own_bytes o8) l7 l8
          rw [decide_eq_true (unhide HDU)] at S
          have HS := hide S
          clear S dx7 dy7 b8 B7 o7 o8 l7 l8
          go_wp2_with fail
          refine (unhide HS).mono ?_
          rintro e w9 ⟨rfl, rfl⟩
          clear HS
          have HMv := hide (Moves_any _ _ _ _ _ _ dx8)
          go_wp2_with fail
          refine (unhide HMv).mono ?_
          rw [unhide HM]
          rintro e w10 ⟨rfl, rfl⟩
          have HC := hide (Crash_none _ _ _ _ _ _ dx8 (unhide HFEW) none 0)
          clear dx8 HMv
          go_wp2_with fail
          refine (unhide HC).mono ?_
          rintro e w11 ⟨rfl, ⟨v11, E, d11, hP⟩, f11⟩
          rw [part_none hP] at d11
          have B11 := B8.trans (f11.below.mono hb1)
          clear HC hP f11 B8
          go_wp2_with fail
          refine (Barrier_bar _ _ _ _ _ _ d11 rfl).mono ?_
          rintro e w12 ⟨rfl, -, f12⟩
          have B12 := B11.trans (f12.below.mono hb1)
          clear d11 f12 B11
          go_wp2
          go_ret
          exact ⟨rfl, B12⟩
        · have hNi : ¬ ((N : Int) < n0) := by omega
          rcases (show n0 < N ∨ N = n0 by omega) with hq | hq
          · have hqi : (n0 : Int) < N := by omega
            have hml : n0 ≤ ll.length := by rw [unhide E0]; omega
            have hS : D.secs = (runA (ll.take n0) (Dk.fresh 4)).secs := by have := hX.secs; rw [show min n0 N = n0 by omega] at this; exact this
            have hM : D.moves = (n0 : Int) := by have := hX.moves; rw [show min n0 N = n0 by omega, run_moves ll n0 hml (by omega)] at this; exact this
            obtain ⟨h4, hfew⟩ := hX.few (show n0 ≤ ll.length by rw [unhide E0]; omega)
            have hdump : D.dump = (runA ((ll.take n0).take 80) (Dk.fresh 4)).dump := by
              rw [List.take_of_length_le (show (ll.take n0).length ≤ 80 by simp; omega)]
              unfold Dk.dump; rw [hS]
            have HST := hide (stored_any wr a0 c0 (ll.take n0) n0 (by simp; omega) (by omega) (((unhide H0).below hR.fr).take n0))
            have HFEW : Hid (∀ (i : Nat) (s : Sec), D.secs[i]? = some s → s.wait.length ≤ 1000000) := fun i s hi => Nat.le_trans (hfew i s hi) (by omega)
            have HDU := hide hdump
            have HM := hide hM
            have HX := hide hX
            have HF := hide hR.fr
            have HD := hide hD
            have H4 := hide h4
            generalize hY : runA ((ll.take n0).take 80) (Dk.fresh 4) = Y at *
            clear hS hM hfew hdump hD hX hR h4 hY
            go_wp2_with fail
            refine (unhide HST).mono ?_
            rintro e w5 ⟨rfl, ⟨g', vs', dy⟩, gy, b5⟩
            have dx := (unhide HD).below b5
            have B5 := (unhide HF).trans (b5.mono (unhide HF).size)
            have HGY := hide gy
            clear HST HD gy b5
            go_wp2_with fail
            obtain ⟨s0, hs0⟩ : ∃ s0, D.secs[0]? = some s0 := ⟨_, List.getElem?_eq_getElem (show 0 < D.secs.length by rw [unhide H4]; omega)⟩
            refine (Fetch_ok _ _ _ _ _ _ dx 0 s0 hs0 (by rw [(unhide HX).dark, decide_eq_false (by omega)])).mono ?_
            rintro e w6 ⟨q6, rfl, -, -, b6⟩
            have dx := dx.below b6
            have dy := dy.below b6
            have B5 := B5.trans (b6.mono B5.size)
            clear b6 hs0
            go_wp2_with fail
            refine (Dump_any _ _ _ _ _ _ dx).mono ?_
            rintro e w7 ⟨v7, rfl, l7, o7, b7⟩
            have dx7 := dx.below b7
            have dy7 := dy.below b7
            have B7 := B5.trans (b7.mono B5.size)
            rw [unhide H4] at o7 l7
            obtain ⟨a7, c7, rfl, -⟩ := own_form o7
            clear dx dy b7 B5
            go_wp2_with fail
            refine (Dump_any _ _ _ _ _ _ dy7).mono ?_
            rintro e w8 ⟨v8, rfl, l8, o8, b8⟩
            have dx8 := dx7.below b8
            have B8 := B7.trans (b8.mono B7.size)
            rw [(unhide HGY).four] at o8 l8
            obtain ⟨a8, c8, rfl, -⟩ := own_form o8
            have S := SameBytes_n w8 a7 a8 D.dump Y.dump 1024 1024 c7 c8 (own_bytes (own_below o7 b8)) (own_bytes o8) l7 l8
            rw [decide_eq_true (unhide HDU)] at S
            have HS := hide S
            clear S dx7 dy7 b8 B7 o7 o8 l7 l8
            go_wp2_with fail
            refine (unhide HS).mono ?_
            rintro e w9 ⟨rfl, rfl⟩
            clear HS
            have HMv := hide (Moves_any _ _ _ _ _ _ dx8)
            go_wp2_with fail
            refine (unhide HMv).mono ?_
            rw [unhide HM]
            rintro e w10 ⟨rfl, rfl⟩
            have HC := hide (Crash_none _ _ _ _ _ _ dx8 (unhide HFEW) none 0)
            clear dx8 HMv
            go_wp2_with fail
            refine (unhide HC).mono ?_
            rintro e w11 ⟨rfl, ⟨v11, E, d11, hP⟩, f11⟩
            rw [part_none hP] at d11
            have B11 := B8.trans (f11.below.mono hb1)
            clear HC hP f11 B8
            go_wp2_with fail
            refine (Barrier_bar _ _ _ _ _ _ d11 rfl).mono ?_
            rintro e w12 ⟨rfl, -, f12⟩
            have B12 := B11.trans (f12.below.mono hb1)
            clear d11 f12 B11
            go_wp2
            go_ret
            exact ⟨rfl, B12⟩
          · subst hq
            clear hNl hNi
            have hml : N ≤ ll.length := by rw [unhide E0]; omega
            have hS : D.secs = (runA (ll.take N) (Dk.fresh 4)).secs := by have := hX.secs; rw [show min N N = N by omega] at this; exact this
            have hM : D.moves = (N : Int) := by have := hX.moves; rw [show min N N = N by omega, run_moves ll N hml (by omega)] at this; exact this
            obtain ⟨h4, hfew⟩ := hX.few (show N ≤ ll.length by rw [unhide E0]; omega)
            have hdump : D.dump = (runA ((ll.take N).take 80) (Dk.fresh 4)).dump := by
              rw [List.take_of_length_le (show (ll.take N).length ≤ 80 by simp; omega)]
              unfold Dk.dump; rw [hS]
            have HST := hide (stored_any wr a0 c0 (ll.take N) N (by simp; omega) (by omega) (((unhide H0).below hR.fr).take N))
            have HFEW : Hid (∀ (i : Nat) (s : Sec), D.secs[i]? = some s → s.wait.length ≤ 1000000) := fun i s hi => Nat.le_trans (hfew i s hi) (by omega)
            have HDU := hide hdump
            have HM := hide hM
            have HX := hide hX
            have HF := hide hR.fr
            have HD := hide hD
            have H4 := hide h4
            generalize hY : runA ((ll.take N).take 80) (Dk.fresh 4) = Y at *
            clear hS hM hfew hdump hD hX hR h4 hY
            go_wp2_with fail
            refine (unhide HST).mono ?_
            rintro e w5 ⟨rfl, ⟨g', vs', dy⟩, gy, b5⟩
            have dx := (unhide HD).below b5
            have B5 := (unhide HF).trans (b5.mono (unhide HF).size)
            have HGY := hide gy
            clear HST HD gy b5
            go_wp2_with fail
            obtain ⟨s0, hs0⟩ : ∃ s0, D.secs[0]? = some s0 := ⟨_, List.getElem?_eq_getElem (show 0 < D.secs.length by rw [unhide H4]; omega)⟩
            refine (Fetch_ok _ _ _ _ _ _ dx 0 s0 hs0 (by rw [(unhide HX).dark, decide_eq_false (by omega)])).mono ?_
            rintro e w6 ⟨q6, rfl, -, -, b6⟩
            have dx := dx.below b6
            have dy := dy.below b6
            have B5 := B5.trans (b6.mono B5.size)
            clear b6 hs0
            go_wp2_with fail
            refine (Dump_any _ _ _ _ _ _ dx).mono ?_
            rintro e w7 ⟨v7, rfl, l7, o7, b7⟩
            have dx7 := dx.below b7
            have dy7 := dy.below b7
            have B7 := B5.trans (b7.mono B5.size)
            rw [unhide H4] at o7 l7
            obtain ⟨a7, c7, rfl, -⟩ := own_form o7
            clear dx dy b7 B5
            go_wp2_with fail
            refine (Dump_any _ _ _ _ _ _ dy7).mono ?_
            rintro e w8 ⟨v8, rfl, l8, o8, b8⟩
            have dx8 := dx7.below b8
            have B8 := B7.trans (b8.mono B7.size)
            rw [(unhide HGY).four] at o8 l8
            obtain ⟨a8, c8, rfl, -⟩ := own_form o8
            have S := SameBytes_n w8 a7 a8 D.dump Y.dump 1024 1024 c7 c8 (own_bytes (own_below o7 b8)) (own_bytes o8) l7 l8
            rw [decide_eq_true (unhide HDU)] at S
            have HS := hide S
            clear S dx7 dy7 b8 B7 o7 o8 l7 l8
            go_wp2_with fail
            refine (unhide HS).mono ?_
            rintro e w9 ⟨rfl, rfl⟩
            clear HS
            have HMv := hide (Moves_any _ _ _ _ _ _ dx8)
            go_wp2_with fail
            refine (unhide HMv).mono ?_
            rw [unhide HM]
            rintro e w10 ⟨rfl, rfl⟩
            have HC := hide (Crash_none _ _ _ _ _ _ dx8 (unhide HFEW) none 0)
            clear dx8 HMv
            go_wp2_with fail
            refine (unhide HC).mono ?_
            rintro e w11 ⟨rfl, ⟨v11, E, d11, hP⟩, f11⟩
            rw [part_none hP] at d11
            have B11 := B8.trans (f11.below.mono hb1)
            clear HC hP f11 B8
            go_wp2_with fail
            refine (Barrier_bar _ _ _ _ _ _ d11 rfl).mono ?_
            rintro e w12 ⟨rfl, -, f12⟩
            have B12 := B11.trans (f12.below.mono hb1)
            clear d11 f12 B11
            go_wp2
            go_ret
            exact ⟨rfl, B12⟩

end Go.Proofs.Ytaflibnalhfenaa
