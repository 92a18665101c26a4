/- The walk of the law DiskWhole. -/
import Derived.Test.YtaflibnalhfenaaDkWholeA
namespace Go.Proofs.Ytaflibnalhfenaa
open Go.RowKit
set_option linter.unusedVariables false

/-- Behind k later stores. -/
structure URel (w : World) (B p g base : Nat) (v : Value) (S : List (List UInt8)) (l : List LAct) (k : Nat) (wr : World) : Prop where
  ex : ∃ vs D, IsDisk wr B p g vs D ∧ Good D k ∧ D.secs.map Sec.sure = S ∧ Wt l k D
  fr : Below w.heap.size w wr
  own : wr.ownsRow base 5 1 v 1024 (bv S.flatten)

theorem URel.next {w wr w3 : World} {B p g base k : Nat} {v : Value} {S : List (List UInt8)} {l : List LAct} {D : Dk} {Y : Obj} {a : LAct} (h : URel w B p g base v S l k wr) (hwB : w.heap.size ≤ B) (hG : Good D k) (hS : D.secs.map Sec.sure = S) (hW : Wt l k D) (ha : l[k]? = some a)
    (hx : ∃ vs', IsDisk w3 B p g vs' (D.sto (among a.at_ 4) (allOf a.byte))) (f : Fr B (wr.alloc Y).drew w3) : URel w B p g base v S l (k + 1) w3 := by
  obtain ⟨vs', hD⟩ := hx
  have hi := among_lt a.at_ 4 (by omega)
  refine ⟨⟨vs', _, hD, hG.sto _ _, by rw [sto_sures hG _ hi]; exact hS, hW.sto hG a ha⟩, (h.fr.trans ((Below.refl _ _).alloc h.fr.size Y).drew).trans (f.below.mono hwB), ?_⟩
  exact own_fr ((h.own.alloc Y).drew) f

/-- While the sectors are looked at. -/
structure VRel (w : World) (B p g base : Nat) (vs : Nat → Value) (D : Dk) (v : Value) (X : List UInt8) (wr : World) : Prop where
  dk : IsDisk wr B p g vs D
  fr : Below w.heap.size w wr
  own : wr.ownsRow base 5 1 v 1024 (bv X)
theorem VRel.next {w wr w' : World} {B p g base : Nat} {vs : Nat → Value} {D : Dk} {v : Value} {X : List UInt8} (h : VRel w B p g base vs D v X wr) (hb : Below wr.heap.size wr w') : VRel w B p g base vs D v X w' :=
  ⟨h.dk.below hb, h.fr.trans (hb.mono h.fr.size), own_below h.own hb⟩

theorem seg_bytes {w : World} {base q c : Nat} {X : List UInt8} (h : w.ownsRow base 5 1 (.slice (some ⟨q, 0, none⟩) 1024 c) 1024 (bv X)) (o n : Nat) : BytesAt w (some ⟨q, o, none⟩) ((X.drop o).take n) := by
  refine ⟨(fun e => by cases e), fun ad e j u hu => ?_⟩
  injection e with e
  subst e
  have hb : bv ((X.drop o).take n) = ((bv X).drop o).take n := by simp [bv]
  rw [hb, List.getElem?_take] at hu
  split at hu
  · rw [List.getElem?_drop] at hu
    have := h.cells (g := q) rfl (o + j) u hu
    rw [Addr.add_mid, Nat.zero_add] at this
    rw [Addr.add_mid]
    exact this
  · cases hu
set_option maxHeartbeats 2000000 in
set_option maxRecDepth 100000 in
theorem whole_walk (w : World) (a0 a1 a2 : Option Addr) (n0 n1 n2 c0 c1 c2 : Nat) (l0 l1 : List LAct) (kept : List Int) (e0 : l0.length = n0) (e1 : l1.length = n1) (e2 : kept.length = n2) (m0 : n0 ≤ 9223372036854775807) (m1 : n1 ≤ 9223372036854775807)
    (h0 : ActsOf w a0 l0) (h1 : ActsOf w a1 l1) (h2 : KeptOf w w.heap.size a2 kept) :
    Calls Try.prog 6 #[.slice a0 n0 c0, .slice a1 n1 c1, .slice a2 n2 c2] w fun e w' => e = .returned (.bool true) ∧ Below w.heap.size w w' := by
  have H0 := hide h0
  have H1 := hide h1
  have H2 := hide h2
  have E0 := hide e0
  have E1 := hide e1
  have E2 := hide e2
  clear h0 h1 h2 e0 e1 e2
  go_enter Try.func6, Try.ntmps6
  go_wp2_with fail
  refine (works_any _).mono ?_
  rintro e w1 ⟨rfl, b1⟩
  go_wp2_with fail
  refine (stored_any _ _ _ l0 _ (unhide E0) m0 ((unhide H0).below b1)).mono ?_
  rintro e w2 ⟨rfl, ⟨g, vs, d2⟩, g2, b2⟩
  have hb1 := b1.size
  have B2 := b1.trans (b2.mono hb1)
  go_wp2_with fail
  refine (Barrier_bar _ _ _ _ vs _ d2 g2.can).mono ?_
  rintro e w3 ⟨rfl, ⟨vs3, d3⟩, f3⟩
  have g3 := g2.bar
  have y3 := Dry.bar (runA (l0.take 80) (Dk.fresh 4))
  generalize (runA (l0.take 80) (Dk.fresh 4)).bar = D at *
  have B3 := B2.trans (f3.below.mono hb1)
  clear d2 g2 b2 B2 f3 H0 E0 m0 b1
  go_wp2_with fail
  refine (Dump_any _ _ _ _ _ _ d3).mono ?_
  rintro e w4 ⟨v, rfl, hdl, hown, b4⟩
  rw [g3.four] at hown
  obtain ⟨a4, c4, rfl, hform⟩ := own_form hown
  obtain ⟨q4, rfl, -⟩ := hform (by omega)
  clear hform
  have hcap := own_cap hown
  have hS : ∀ x ∈ D.secs.map Sec.sure, x.length = 256 := by
    intro x hx
    obtain ⟨s, hs, rfl⟩ := List.mem_map.1 hx
    obtain ⟨i, hi⟩ := List.mem_iff_getElem?.1 hs
    exact (d3.sec i s hi).ok.1
  have hSl : (D.secs.map Sec.sure).length = 4 := by rw [List.length_map]; exact g3.four
  have R0 : URel w w1.heap.size (w1.heap.size + 1) g w3.heap.size (.slice (some ⟨q4, 0, none⟩) 1024 c4) (D.secs.map Sec.sure) l1 0 w4 := by
    refine ⟨⟨_, _, d3.below b4, g3.dry y3, rfl, Wt.dry y3⟩, B3.trans (b4.mono B3.size), ?_⟩
    have e : (D.secs.map Sec.sure).flatten = D.dump := by rw [y3.dump, List.flatMap_def]
    rw [e]; exact hown
  have HSl := hide hSl
  have HS256 := hide hS
  generalize D.secs.map Sec.sure = S at *
  obtain ⟨hcap1, hcap2⟩ := hcap
  clear d3 b4 B3 hown hdl y3 g3 hS hSl
  go_wp2
  go_loopw [9] (fun i wr => ∃ k : Nat, k ≤ n1 ∧ k ≤ 80 ∧ i = .int .i64 k ∧ URel w w1.heap.size (w1.heap.size + 1) g w3.heap.size (.slice (some ⟨q4, 0, none⟩) 1024 c4) S l1 k wr) (fun i _ => n1 - (intOf i).toNat)
  case atStart => exact ⟨0, by omega, by omega, rfl, R0⟩
  case round =>
    clear R0
    obtain ⟨k, hk, hk80, rfl, hR⟩ := hrel
    by_cases hlt : k < n1 ∧ k < 80
    · obtain ⟨q1, q2⟩ := hlt
      rcases (unhide H1).below hR.fr with hz | ⟨b, o, rfl, hA⟩
      · have := unhide E1; omega
      have hkl : k < l1.length := by rw [unhide E1]; exact q1
      have hx := List.getElem?_eq_getElem hkl
      obtain ⟨_, x1, x3⟩ := hA k _ hx
      obtain ⟨vs, D, hD, hG, hS, hW⟩ := hR.ex
      have hcb : b < w.heap.size := by
        rcases unhide H1 with hz | ⟨b', o', e', hA'⟩
        · have := unhide E1; omega
        · injection e' with e'; injection e' with e1 e2 e3
          subst e1
          exact World.block_lt_of_cell? w _ (hA' k _ hx).1
      generalize l1[k] = x at *
      have hin := among_lt x.at_ 4 (by omega)
      have hki : (k : Int) < n1 := by omega
      have hk8i : (k : Int) < 80 := by omega
      have b2 : Below wr.heap.size wr (wr.alloc (.cells (bv (allOf x.byte)).toArray 5)).drew := ((Below.refl _ _).alloc (Nat.le_refl _) _).drew
      have HS := hide (Store_sto _ _ _ _ vs _ (hD.below b2) k hG (by omega) (among x.at_ 4) hin wr.heap.size 256 x.byte (heap_alloc_last wr _))
      have HK := hide (fun (w8 : World) (f8 : Fr w1.heap.size (wr.alloc (.cells (bv (allOf x.byte)).toArray 5)).drew w8) => keep_acts (w2 := wr) (B := w1.heap.size) (by omega) (by have := hD.bw; omega) x1 x3 f8)
      have HN := hide (fun (w8 : World) hx8 (f8 : Fr w1.heap.size (wr.alloc (.cells (bv (allOf x.byte)).toArray 5)).drew w8) => hR.next hb1 hG hS hW hx hx8 f8)
      clear b2 hD hR hG hS hA hx hW
      go_wp2_with fail
      go_region_held (fun w' => w'.cell? ⟨b, o + k * 6 + 1, none⟩ = some (.int .i64 x.at_) ∧ w'.cell? ⟨b, o + k * 6 + 3, none⟩ = some (.int .u8 (x.byte.toNat : Int))) (go_keep)
        (first
          | (go_at_call 14; refine (Among_any _ _ 4 (by omega) (by omega)).mono ?_; rintro e w8 ⟨rfl, rfl⟩)
          | (go_at_call 15; refine (of_any _ _).mono ?_; rintro e w8 ⟨rfl, rfl⟩)
          | (go_at_call 16; refine (unhide HS).mono ?_; rintro e w8 ⟨rfl, hx8, f8⟩; have k1 := (unhide HK w8 f8).1; have k3 := (unhide HK w8 f8).2))
      have R := unhide HN w8 hx8 f8
      clear hx8 f8 HS HK HN x1 x3 k1 k3
      go_wp2
      go_roundw
      case rel => exact ⟨k + 1, by omega, by omega, by go_num, R⟩
      case measure => simp [intOf]; omega
    · obtain ⟨vs, D, hD, hG, hS, hW⟩ := hR.ex
      have HC := hide (Crash_any _ _ _ _ vs _ hD (fun i s hi => Nat.le_trans (hG.few i s hi) (by omega)) a2 c2 n2 kept (unhide E2) ((unhide H2).later hR.fr hb1))
      have HV : Hid (∀ E, Part D (Gcr kept) D.cached.length E → E.secs.length = 4 ∧ ∀ i, i < 4 → ∃ V, E.secs[i]? = some ⟨V, []⟩ ∧ okB V (S.getD i []) l1 i k = true) := by
        intro E hP
        refine ⟨hP.len.trans hG.four, fun i hi => ?_⟩
        have hil : i < D.secs.length := by rw [hG.four]; exact hi
        obtain ⟨V, hv, hh⟩ := whole_hit hW hP i _ (List.getElem?_eq_getElem hil)
        refine ⟨V, hv, okB_true ?_⟩
        have e : S.getD i [] = D.secs[i].sure := by rw [← hS]; simp [List.getD_eq_getElem?_getD, hil]
        rw [e]; exact hh
      have HSeg : Hid (∀ i, i < 4 → (S.flatten.drop (i * 256)).take 256 = S.getD i [] ∧ (S.getD i []).length = 256) := by
        intro i hi
        have hil : i < S.length := by rw [unhide HSl]; exact hi
        have e : S.getD i [] = S[i] := by simp [List.getD_eq_getElem?_getD, hil]
        rw [e]
        exact ⟨flat_seg S i (unhide HS256) hil, unhide HS256 _ (List.getElem_mem hil)⟩
      have HR := hide hR
      have hg : ((k : Int) < n1 ∧ ¬ ((k : Int) < 80) ∧ decide ((k : Int) < 80) = false) ∨ (¬ ((k : Int) < n1) ∧ decide ((k : Int) < n1) = false) := by
        by_cases q1 : k < n1
        · exact .inl ⟨by omega, by omega, by simp; omega⟩
        · exact .inr ⟨by omega, by simp; omega⟩
      have hmin : ∀ j : Nat, (j < n1 ∧ j < 80) ↔ j < k := by intro j; omega
      have HM := hide hmin
      clear hD hR hG hS hW hlt hmin HSl HS256
      rcases hg with ⟨hg1, hg2, hg3⟩ | ⟨hg1, hg2⟩
      all_goals
        go_wp2_with fail
        refine (unhide HC).mono ?_
        rintro e w5 ⟨rfl, ⟨vs5, E, d5, hP⟩, f5⟩
        obtain ⟨hE4, hEV⟩ := unhide HV E hP
        have R5 : VRel w w1.heap.size (w1.heap.size + 1) g w3.heap.size vs5 { E with dark := false, trip := -1 } (.slice (some ⟨q4, 0, none⟩) 1024 c4) S.flatten w5 := ⟨d5, (unhide HR).fr.trans (f5.below.mono hb1), own_fr (unhide HR).own f5⟩
        have HEV := hide hEV
        clear d5 f5 hP HC HV HR hEV
        go_wp2
        go_loopw [10] (fun i wr => ∃ t : Nat, t ≤ 4 ∧ i = .int .i64 t ∧ VRel w w1.heap.size (w1.heap.size + 1) g w3.heap.size vs5 { E with dark := false, trip := -1 } (.slice (some ⟨q4, 0, none⟩) 1024 c4) S.flatten wr) (fun i _ => 4 - (intOf i).toNat)
        case atStart => exact ⟨0, by omega, rfl, R5⟩
        case round =>
          clear R5
          obtain ⟨t, ht, rfl, hR⟩ := hrel
          by_cases htl : t < 4
          · obtain ⟨V, hV, hok⟩ := unhide HEV t htl
            obtain ⟨hseg, hsl⟩ := unhide HSeg t htl
            generalize S.getD t [] = St at *
            have HF := hide (Fetch_ok _ _ _ _ _ _ hR.dk t _ hV rfl)
            have hVl : V.length = 256 := (hR.dk.sec t _ hV).ok.1
            have HR := hide hR
            have HOK := hide hok
            have HSG := hide hseg
            have HSL := hide hsl
            have HVL := hide hVl
            clear hR hok hseg hsl hVl hV
            go_wp2_with fail
            refine (unhide HF).mono ?_
            rintro e w6 ⟨q', rfl, hq1, hq2, b6⟩
            have R6 := (unhide HR).next b6
            have SB := SameBytes_n w6 (some ⟨q', 0, none⟩) (some ⟨q4, t * 256, none⟩) V _ 256 ((t + 1) * 256 - t * 256) 256 (c4 - t * 256) (bytes_of_block hq2) (seg_bytes R6.own (t * 256) 256) (unhide HVL) (by rw [unhide HSG, unhide HSL]; omega)
            rw [unhide HSG] at SB
            have HSB := hide SB
            have HQ := hide hq2
            have HR6 := hide R6
            clear SB hq1 hq2 b6 R6 HR HF
            go_wp2_with fail
            refine (unhide HSB).mono ?_
            rintro e w7 ⟨rfl, rfl⟩
            have hok0 : Hid (decide (V = St) = okB V St l1 t 0) := (okB_zero V St l1 t).symm
            generalize decide (V = St) = ok0 at *
            clear HSB
            go_wp2
            go_loopw [13, 14] (fun b i wr => ∃ j : Nat, j ≤ k ∧ i = .int .i64 j ∧ b = .bool (okB V St l1 t j) ∧ wr.heap[q']? = some (.cells (bv V).toArray 75 (0, 0)) ∧ VRel w w1.heap.size (w1.heap.size + 1) g w3.heap.size vs5 { E with dark := false, trip := -1 } (.slice (some ⟨q4, 0, none⟩) 1024 c4) S.flatten wr) (fun _ i _ => k - (intOf i).toNat)
            case atStart => exact ⟨0, by omega, rfl, by rw [unhide hok0], unhide HQ, unhide HR6⟩
            case round =>
              clear HQ HR6 hok0
              obtain ⟨j, hj, rfl, rfl, hq2, hR⟩ := hrel
              by_cases hjk : j < k
              · obtain ⟨q1, q2⟩ := (unhide HM j).2 hjk
                rcases (unhide H1).below hR.fr with hz | ⟨b, o, rfl, hA⟩
                · have := unhide E1; omega
                have hkl : j < l1.length := by rw [unhide E1]; exact q1
                have hx := List.getElem?_eq_getElem hkl
                obtain ⟨-, x1, x3⟩ := hA j _ hx
                have hsc := hide (okB_succ V St l1 t j _ hx)
                generalize l1[j] = x at *
                have hji : (j : Int) < n1 := by omega
                have hj8 : (j : Int) < 80 := by omega
                have hjl : decide ((j : Int) < n1) = true := by simpa using hji
                have hj8' : decide ((j : Int) < 80) = true := by simpa using hj8
                clear hA hx
                cases hb : okB V St l1 t j with
                | true =>
                  have hn : Hid (okB V St l1 t (j + 1) = true) := by show _ = _; rw [unhide hsc, hb]; rfl
                  clear hb hsc
                  have HQ2 := hide hq2
                  have HR2 := hide hR
                  clear hq2 hR x1 x3
                  go_wp2
                  go_roundw
                  case rel => exact ⟨j + 1, by omega, by go_num, by rw [unhide hn], unhide HQ2, unhide HR2⟩
                  case measure => simp [intOf]; omega
                | false =>
                  have HQ2 := hide hq2
                  have HR2 := hide hR
                  clear hR
                  by_cases hm : among x.at_ 4 = t
                  · have hm' : ((among x.at_ 4 : Int) == (t : Int)) = true := by rw [hm]; simp
                    have hn : Hid (okB V St l1 t (j + 1) = decide (V = allOf x.byte)) := by show _ = _; rw [unhide hsc, hb, decide_eq_true hm]; simp
                    have bq := (Below.refl _ wr).alloc (Nat.le_refl _) (.cells (bv (allOf x.byte)).toArray 5)
                    have hq3 := (bq.block q' (lt_of_heap hq2)).trans hq2
                    have HSB := hide (SameBytes_n _ (some ⟨q', 0, none⟩) _ V (allOf x.byte) 256 256 256 256 (bytes_of_block hq3) (bytes_of_block (heap_alloc_last wr (.cells (bv (allOf x.byte)).toArray 5))) (unhide HVL) (allOf_len _))
                    have HQ3 := hide hq3
                    have HR3 := hide ((unhide HR2).next bq)
                    clear hb hsc hm hq2 hq3 bq HQ2 HR2
                    go_wp2_with fail
                    refine (Among_any _ _ 4 (by omega) (by omega)).mono ?_
                    rintro e w8 ⟨rfl, rfl⟩
                    go_wp2_with fail
                    refine (of_any _ _).mono ?_
                    rintro e w9 ⟨rfl, rfl⟩
                    go_wp2_with fail
                    refine (unhide HSB).mono ?_
                    rintro e w9 ⟨rfl, rfl⟩
                    generalize decide (V = allOf x.byte) = res at *
                    clear HSB x1 x3
                    go_wp2
                    go_roundw
                    case rel => exact ⟨j + 1, by omega, by go_num, by rw [unhide hn], unhide HQ3, unhide HR3⟩
                    case measure => simp [intOf]; omega
                  · have hm' : ((among x.at_ 4 : Int) == (t : Int)) = false := by rw [beq_eq_false_iff_ne]; omega
                    have hn : Hid (okB V St l1 t (j + 1) = false) := by show _ = _; rw [unhide hsc, hb, decide_eq_false hm]; rfl
                    clear hb hsc hm hq2
                    go_wp2_with fail
                    refine (Among_any _ _ 4 (by omega) (by omega)).mono ?_
                    rintro e w8 ⟨rfl, rfl⟩
                    clear x1 x3
                    go_wp2
                    go_roundw
                    case rel => exact ⟨j + 1, by omega, by go_num, by rw [unhide hn], unhide HQ2, unhide HR2⟩
                    case measure => simp [intOf]; omega
              · have hjk' : j = k := by omega
                subst hjk'
                have HRR := hide hR
                have hok := unhide HOK
                clear hq2 hR
                go_wp2
                go_roundw
                case rel => exact ⟨t + 1, by omega, by go_num, unhide HRR⟩
                case measure => simp [intOf]; omega
          · go_wp2
            go_ret
            exact ⟨rfl, hR.fr⟩

end Go.Proofs.Ytaflibnalhfenaa
