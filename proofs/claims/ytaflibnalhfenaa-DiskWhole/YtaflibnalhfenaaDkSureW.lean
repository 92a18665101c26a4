/- The walk of the law DiskSure. -/
import Derived.Test.YtaflibnalhfenaaDkR
namespace Go.Proofs.Ytaflibnalhfenaa
open Go.RowKit
set_option linter.unusedVariables false

theorem own_fr {w w' : World} {B base n : Nat} {v : Value} {xs : List Value} (h : w.ownsRow base 5 1 v n xs) (f : Fr B w w') : w'.ownsRow base 5 1 v n xs := by
  refine own_of_block h (fun k hk => ?_)
  rcases h.2 with ⟨rfl, _⟩ | ⟨q, cap, cur, rfl, _, hq, _⟩
  · simp [Value.ownBlock] at hk
  · simp [Value.ownBlock] at hk; subst hk
    exact f.other q cur 5 (0, 0) hq (by decide) (by decide) (by decide)
/-- Behind k later stores. -/
structure TRel (w : World) (B p g base : Nat) (v : Value) (X : List UInt8) (k : Nat) (wr : World) : Prop where
  ex : ∃ vs D, IsDisk wr B p g vs D ∧ Good D k ∧ D.secs.flatMap Sec.sure = X
  fr : Below w.heap.size w wr
  own : wr.ownsRow base 5 1 v 1024 (bv X)

theorem TRel.next {w wr w3 : World} {B p g base k : Nat} {v : Value} {X : List UInt8} {D : Dk} {Y : Obj} {i : Nat} {x : List UInt8} (h : TRel w B p g base v X k wr) (hwB : w.heap.size ≤ B) (hG : Good D k) (hX : D.secs.flatMap Sec.sure = X) (hi : i < 4)
    (hx : ∃ vs', IsDisk w3 B p g vs' (D.sto i x)) (f : Fr B (wr.alloc Y).drew w3) : TRel w B p g base v X (k + 1) w3 := by
  obtain ⟨vs', hD⟩ := hx
  refine ⟨⟨vs', _, hD, hG.sto i x, by rw [sto_sure hG i hi]; exact hX⟩, (h.fr.trans ((Below.refl _ _).alloc h.fr.size Y).drew).trans (f.below.mono hwB), ?_⟩
  exact own_fr ((h.own.alloc Y).drew) f

theorem KeptOf.later {w w' : World} {B : Nat} {a : Option Addr} {kept : List Int} (h : KeptOf w w.heap.size a kept) (hb : Below w.heap.size w w') (hB : w.heap.size ≤ B) : KeptOf w' B a kept := by
  rcases h.below hb with h | ⟨kb, ko, e, h1, h2, h3⟩
  · exact .inl h
  · exact .inr ⟨kb, ko, e, Nat.lt_of_lt_of_le h1 hB, h2, h3⟩
theorem Good.same {D : Dk} {k : Nat} (h : Good D k) : { D with trip := -1, dark := false } = D := by
  cases D
  have h1 := h.trip
  have h2 := h.dark
  simp only at h1 h2
  subst h1 h2
  rfl
theorem Good.dry {D : Dk} {k : Nat} (h : Good D k) (hy : Dry D) : Good D 0 := ⟨h.four, h.trip, h.dark, fun i s hi => by rw [hy i s hi]; simp⟩
theorem dump_len {D : Dk} {n : Nat} (h : D.secs.length = 4) (hd : D.dump.length = D.secs.length * 256) : D.dump.length = 1024 := by rw [hd, h]

set_option maxHeartbeats 1600000 in
set_option maxRecDepth 100000 in
theorem sure_walk (w : World) (a0 a1 a2 : Option Addr) (n0 n1 n2 c0 c1 c2 : Nat) (l0 l1 : List LAct) (kept : List Int) (e0 : l0.length = n0) (e1 : l1.length = n1) (e2 : kept.length = n2) (m0 : n0 ≤ 9223372036854775807) (m1 : n1 ≤ 9223372036854775807)
    (h0 : ActsOf w a0 l0) (h1 : ActsOf w a1 l1) (h2 : KeptOf w w.heap.size a2 kept) :
    Calls Try.prog 5 #[.slice a0 n0 c0, .slice a1 n1 c1, .slice a2 n2 c2] w fun e w' => e = .returned (.bool true) ∧ Below w.heap.size w w' := by
  have H0 := hide h0
  have H1 := hide h1
  have H2 := hide h2
  have E0 := hide e0
  have E1 := hide e1
  have E2 := hide e2
  clear h0 h1 h2 e0 e1 e2
  go_enter Try.func5, Try.ntmps5
  go_wp2_with fail
  refine (works_any _).mono ?_
  rintro e w1 ⟨rfl, b1⟩
  go_wp2_with fail
  refine (stored_any _ _ _ l0 _ (unhide E0) m0 ((unhide H0).below b1)).mono ?_
  rintro e w2 ⟨rfl, ⟨g, vs, d2⟩, g2, b2⟩
  have hb1 := b1.size
  have B2 := b1.trans (b2.mono hb1)
  go_wp2_with fail
  refine (Barrier_bar _ _ _ _ vs _ d2 g2.can).mono ?_
  rintro e w3 ⟨rfl, ⟨vs3, d3⟩, f3⟩
  have g3 := g2.bar
  have y3 := Dry.bar (runA (l0.take 80) (Dk.fresh 4))
  generalize (runA (l0.take 80) (Dk.fresh 4)).bar = D at *
  have B3 := B2.trans (f3.below.mono hb1)
  clear d2 g2 b2 B2 f3 H0 E0 m0 b1
  go_wp2_with fail
  refine (Dump_any _ _ _ _ _ _ d3).mono ?_
  rintro e w4 ⟨v, rfl, hdl, hown, b4⟩
  rw [g3.four] at hown hdl
  obtain ⟨a4, c4, rfl, -⟩ := own_form hown
  have d4 := d3.below b4
  have B4 := B3.trans (b4.mono B3.size)
  clear d3 b4 B3
  go_wp2_with fail
  refine (Crash_any _ _ _ _ _ _ d4 (fun i s hi => Nat.le_trans (g3.few i s hi) (by omega)) _ _ _ kept (unhide E2) ((unhide H2).later B4 hb1)).mono ?_
  rintro e w5 ⟨rfl, ⟨vs5, E, d5, hP⟩, f5⟩
  rw [y3.cached] at hP
  have hE := Part.zero hP
  subst hE
  have d5' : IsDisk w5 w1.heap.size (w1.heap.size + 1) g vs5 E := by rw [g3.same] at d5; exact d5
  have hown5 := own_fr hown f5
  have B5 := B4.trans (f5.below.mono hb1)
  clear d5 d4 hP hown f5 B4 H2 E2
  go_wp2_with fail
  refine (Dump_any _ _ _ _ _ _ d5').mono ?_
  rintro e w6 ⟨v, rfl, hdl6, hown6, b6⟩
  rw [g3.four] at hown6
  obtain ⟨a6, c6, rfl, -⟩ := own_form hown6
  have hown5' := own_below hown5 b6
  have S := SameBytes_n w6 a6 a4 E.dump E.dump 1024 1024 c6 c4 (own_bytes hown6) (own_bytes hown5') hdl hdl
  rw [decide_eq_true rfl] at S
  have d6 := d5'.below b6
  have B6 := B5.trans (b6.mono B5.size)
  have HS := hide S
  have R0 : TRel w w1.heap.size (w1.heap.size + 1) g w3.heap.size (.slice a4 1024 c4) (E.secs.flatMap Sec.sure) 0 w6 := by
    refine ⟨⟨_, _, d6, g3.dry y3, rfl⟩, ?_, ?_⟩
    · exact B6
    · rw [← y3.dump]; exact hown5'
  have hX := hide y3.dump
  have hXl := hide hdl
  clear S d5' d6 hown5 hown5' hown6 hdl6 b6 B5 B6 hdl y3 g3
  go_wp2_with fail
  refine (unhide HS).mono ?_
  rintro e w7 ⟨rfl, rfl⟩
  clear HS
  go_wp2
  go_loopw [9] (fun i wr => ∃ k : Nat, k ≤ n1 ∧ k ≤ 80 ∧ i = .int .i64 k ∧ TRel w w1.heap.size (w1.heap.size + 1) g w3.heap.size (.slice a4 1024 c4) (E.secs.flatMap Sec.sure) k wr) (fun i _ => n1 - (intOf i).toNat)
  case atStart => exact ⟨0, by omega, by omega, rfl, R0⟩
  case round =>
    clear R0
    obtain ⟨k, hk, hk80, rfl, hR⟩ := hrel
    by_cases hlt : k < n1 ∧ k < 80
    · obtain ⟨q1, q2⟩ := hlt
      rcases (unhide H1).below hR.fr with hz | ⟨b, o, rfl, hA⟩
      · have := unhide E1; omega
      have hkl : k < l1.length := by rw [unhide E1]; exact q1
      have hx := List.getElem?_eq_getElem hkl
      obtain ⟨_, x1, x3⟩ := hA k _ hx
      obtain ⟨vs, D, hD, hG, hS⟩ := hR.ex
      have hcb : b < w.heap.size := by
        rcases unhide H1 with hz | ⟨b', o', e', hA'⟩
        · have := unhide E1; omega
        · injection e' with e'; injection e' with e1 e2 e3
          subst e1
          exact World.block_lt_of_cell? w _ (hA' k _ hx).1
      generalize l1[k] = x at *
      have hin := among_lt x.at_ 4 (by omega)
      have hki : (k : Int) < n1 := by omega
      have hk8i : (k : Int) < 80 := by omega
      have b2 : Below wr.heap.size wr (wr.alloc (.cells (bv (allOf x.byte)).toArray 5)).drew := ((Below.refl _ _).alloc (Nat.le_refl _) _).drew
      have HS := hide (Store_sto _ _ _ _ vs _ (hD.below b2) k hG (by omega) (among x.at_ 4) hin wr.heap.size 256 x.byte (heap_alloc_last wr _))
      have HK := hide (fun (w8 : World) (f8 : Fr w1.heap.size (wr.alloc (.cells (bv (allOf x.byte)).toArray 5)).drew w8) => keep_acts (w2 := wr) (B := w1.heap.size) (by omega) (by have := hD.bw; omega) x1 x3 f8)
      have HN := hide (fun (w8 : World) hx8 (f8 : Fr w1.heap.size (wr.alloc (.cells (bv (allOf x.byte)).toArray 5)).drew w8) => hR.next (i := among x.at_ 4) (x := allOf x.byte) hb1 hG hS hin hx8 f8)
      clear b2 hD hR hG hS hA hx
      go_wp2_with fail
      go_region_held (fun w' => w'.cell? ⟨b, o + k * 6 + 1, none⟩ = some (.int .i64 x.at_) ∧ w'.cell? ⟨b, o + k * 6 + 3, none⟩ = some (.int .u8 (x.byte.toNat : Int))) (go_keep)
        (first
          | (go_at_call 14; refine (Among_any _ _ 4 (by omega) (by omega)).mono ?_; rintro e w8 ⟨rfl, rfl⟩)
          | (go_at_call 15; refine (of_any _ _).mono ?_; rintro e w8 ⟨rfl, rfl⟩)
          | (go_at_call 16; refine (unhide HS).mono ?_; rintro e w8 ⟨rfl, hx8, f8⟩; have k1 := (unhide HK w8 f8).1; have k3 := (unhide HK w8 f8).2))
      have R := unhide HN w8 hx8 f8
      clear hx8 f8 HS HK HN x1 x3 k1 k3
      go_wp2
      go_roundw
      case rel => exact ⟨k + 1, by omega, by omega, by go_num, R⟩
      case measure => simp [intOf]; omega
    · obtain ⟨vs, D, hD, hG, hS⟩ := hR.ex
      have HC := hide (Crash_none _ _ _ _ vs _ hD (fun i s hi => Nat.le_trans (hG.few i s hi) (by omega)) none 0)
      have HR := hide hR
      have HG := hide hG
      have HSu := hide hS
      have fin : ∀ w9, (∃ (vs' : Nat → Value) (E' : Dk), IsDisk w9 w1.heap.size (w1.heap.size + 1) g vs' { E' with dark := false, trip := -1 } ∧ Part D (Gcr []) D.cached.length E') → ∃ vs', IsDisk w9 w1.heap.size (w1.heap.size + 1) g vs' D.back := by
        rintro w9 ⟨vs', E', h9, hP⟩
        rw [part_none hP] at h9
        exact ⟨vs', h9⟩
      have HFin := hide fin
      have hdb : Hid (D.back.dump = E.dump) := by
        show D.back.dump = E.dump
        rw [back_dump, hS, unhide hX]
      have h4 : Hid (D.back.secs.length = 4) := by show (D.secs.map _).length = 4; rw [List.length_map]; exact hG.four
      clear hD hR hG hS fin
      by_cases q1 : k < n1
      · have h80 : ¬ ((k : Int) < 80) := by omega
        have h80' : decide ((k : Int) < 80) = false := by simpa using h80
        go_wp2_with fail
        refine (unhide HC).mono ?_
        rintro e w9 ⟨rfl, hx9, f9⟩
        obtain ⟨v9, d9⟩ := unhide HFin w9 hx9
        have own9 := own_fr (unhide HR).own f9
        have B9 := (unhide HR).fr.trans (f9.below.mono hb1)
        clear hx9 HC HFin HG HSu HR f9
        go_wp2_with fail
        refine (Dump_any _ _ _ _ _ _ d9).mono ?_
        rintro e w10 ⟨v, rfl, hdl, hown, b10⟩
        rw [unhide h4, unhide hdb] at hown
        obtain ⟨a10, c10, rfl, -⟩ := own_form hown
        have own10 := own_below own9 b10
        rw [← unhide hX] at own10
        have HS := hide (SameBytes_n w10 a10 a4 E.dump E.dump 1024 1024 c10 c4 (own_bytes hown) (own_bytes own10) (unhide hXl) (unhide hXl))
        have d10 := d9.below b10
        have B10 := B9.trans (b10.mono B9.size)
        clear d9 own9 own10 hown hdl b10 B9
        go_wp2_with fail
        refine (unhide HS).mono ?_
        rintro e w11 ⟨rfl, rfl⟩
        clear HS
        go_wp2_with fail
        refine (Cached_any _ _ _ _ _ _ d10).mono ?_
        rintro e w12 ⟨v, rfl, hown, b12⟩
        rw [(back_dry D).cached] at hown
        obtain ⟨a12, c12, rfl, -⟩ := own_form hown
        have B12 := B10.trans (b12.mono B10.size)
        clear hown d10 b12 B10
        go_wp2
        go_ret
        exact ⟨rfl, B12⟩
      · have h1' : decide ((k : Int) < (n1 : Int)) = false := by simp; omega
        go_wp2_with fail
        refine (unhide HC).mono ?_
        rintro e w9 ⟨rfl, hx9, f9⟩
        obtain ⟨v9, d9⟩ := unhide HFin w9 hx9
        have own9 := own_fr (unhide HR).own f9
        have B9 := (unhide HR).fr.trans (f9.below.mono hb1)
        clear hx9 HC HFin HG HSu HR f9
        go_wp2_with fail
        refine (Dump_any _ _ _ _ _ _ d9).mono ?_
        rintro e w10 ⟨v, rfl, hdl, hown, b10⟩
        rw [unhide h4, unhide hdb] at hown
        obtain ⟨a10, c10, rfl, -⟩ := own_form hown
        have own10 := own_below own9 b10
        rw [← unhide hX] at own10
        have HS := hide (SameBytes_n w10 a10 a4 E.dump E.dump 1024 1024 c10 c4 (own_bytes hown) (own_bytes own10) (unhide hXl) (unhide hXl))
        have d10 := d9.below b10
        have B10 := B9.trans (b10.mono B9.size)
        clear d9 own9 own10 hown hdl b10 B9
        go_wp2_with fail
        refine (unhide HS).mono ?_
        rintro e w11 ⟨rfl, rfl⟩
        clear HS
        go_wp2_with fail
        refine (Cached_any _ _ _ _ _ _ d10).mono ?_
        rintro e w12 ⟨v, rfl, hown, b12⟩
        rw [(back_dry D).cached] at hown
        obtain ⟨a12, c12, rfl, -⟩ := own_form hown
        have B12 := B10.trans (b12.mono B10.size)
        clear hown d10 b12 B10
        go_wp2
        go_ret
        exact ⟨rfl, B12⟩

end Go.Proofs.Ytaflibnalhfenaa
