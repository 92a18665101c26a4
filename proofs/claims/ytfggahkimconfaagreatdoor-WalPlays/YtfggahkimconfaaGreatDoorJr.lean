/- The walk of WalPlays. -/
import Derived.Test.YtfggahkimconfaaGreatDoorJq
import Derived.Deep.CutBlock
import Derived.Deep.LoopGhost
import Derived.Deep.RegionHeld3

namespace Go.Proofs.YtfggahkimconfaaGreatDoor
open Go.RowKit
set_option linter.unusedVariables false

structure FullP (w : World) (b o : Nat) (x : PAct) : Prop where
  c0 : w.cell? ⟨b, o, none⟩ = some (.int .i64 x.kind)
  c1 : w.cell? ⟨b, o + 1, none⟩ = some (.int .i64 x.at_)
  c2 : w.cell? ⟨b, o + 2, none⟩ = some (.int .i64 x.n)
  c3 : w.cell? ⟨b, o + 3, none⟩ = some (.int .u8 (x.byte.toNat : Int))
  c4 : w.cell? ⟨b, o + 4, none⟩ = some (str x.data)
  c5 : w.cell? ⟨b, o + 5, none⟩ = some (.slice x.ka x.kept.length x.kc)
theorem FullP.below {w w' : World} {B b o : Nat} {x : PAct} (h : FullP w b o x) (hb : b < B) (f : Below B w w') : FullP w' b o x :=
  ⟨(f.cell (p := ⟨b, o, none⟩) hb).trans h.c0, (f.cell (p := ⟨b, o + 1, none⟩) hb).trans h.c1, (f.cell (p := ⟨b, o + 2, none⟩) hb).trans h.c2, (f.cell (p := ⟨b, o + 3, none⟩) hb).trans h.c3, (f.cell (p := ⟨b, o + 4, none⟩) hb).trans h.c4, (f.cell (p := ⟨b, o + 5, none⟩) hb).trans h.c5⟩
theorem pact_block (wr : World) (x : PAct) (st : ByteArray) (hst : str x.data = .string st) : ActP (wr.alloc (.cells #[.int .i64 x.kind, .int .i64 x.at_, .int .i64 x.n, .int .u8 (x.byte.toNat : Int), .string st, .slice x.ka x.kept.length x.kc] 41)) wr.heap.size x := by
  rw [← hst]
  exact heap_alloc_last wr (.cells x.cells 41)
theorem take_text (d : List UInt8) : ∃ M, M = min d.length 5000 ∧ (⟨d.toArray⟩ : ByteArray).extract 0 M = ⟨(d.take 5000).toArray⟩ ∧ (d.take 5000).length ≤ 5000 := by
  refine ⟨_, rfl, ?_, by rw [List.length_take]; omega⟩
  apply ByteArray.ext
  simp
  exact Nat.min_comm _ _

set_option maxHeartbeats 8000000 in
set_option maxRecDepth 100000 in
theorem plays_at (w : World) (hT : Tab w) (hw : 1 ≤ w.heap.size) (s at_ size : Int) (hat : -9223372036854775808 ≤ at_ ∧ at_ ≤ 9223372036854775807) (hsz : -9223372036854775808 ≤ size ∧ size ≤ 9223372036854775807) (fm : Bool) (a : Option Addr) (len c : Nat) (l : List PAct) (hl : l.length = len) (hlen : len ≤ 9223372036854775807)
    (hA : len = 0 ∨ ∃ b o, a = some ⟨b, o, none⟩ ∧ b < w.heap.size ∧ ∀ (j : Nat) (x : PAct), l[j]? = some x → FullP w b (o + j * 6) x ∧ POk w x) :
    Calls Tryz.prog 3 #[.int .i64 s, .int .i64 at_, .int .i64 size, .bool fm, .slice a len c] w fun e w' => e = .returned (.bool true) ∧ Below w.heap.size w w' := by
  have HA := hide hA
  have HT := hide hT
  have HAT := hide hat
  have HSZ := hide hsz
  clear hA hT
  have hal := among_lt s 30 (by omega)
  obtain ⟨L, hL⟩ : ∃ L, L = 1 + among s 30 := ⟨_, rfl⟩
  have hL1 : (1 : Int) + ((among s 30 : Nat) : Int) = (L : Int) := by omega
  have hL2 : (L : Int) ≤ 30 := by omega
  have hL3 : L ≤ 30 := by omega
  have hL4 : 1 ≤ L := by omega
  clear hal hL
  go_enter Tryz.func3, Tryz.ntmps3
  go_wp2_with fail
  refine (Among_any _ s 30 (by omega) (by omega)).mono ?_
  rintro e w0 ⟨rfl, e0⟩
  have e0' := e0.symm
  clear e0
  subst e0'
  go_wp2_with fail
  refine (Make_ok L _ hL4 (by omega)).mono ?_
  rintro e w1 ⟨rfl, d1, b1⟩
  have D1 := hide d1
  have B1 := hide b1
  clear d1 b1
  go_wp2_with fail
  refine (yMakeA (fun _ => True) L _ hL4 (by omega) (fun _ _ => trivial)).mono ?_
  rintro e w2 ⟨rfl, d2, b2⟩
  have hst : ∃ p y : Nat, p = w.heap.size + 1 ∧ y = w1.heap.size ∧ Okd (Dk.fresh L) L 0 ∧ X w2 w.heap.size p (Dk.fresh L) ∧ YA (fun _ => True) w2 w.heap.size y (Dk.fresh L) ∧ Below w.heap.size w w2 := by
    have d1 := unhide D1
    have b1 := unhide B1
    have hx : X w2 w.heap.size (w.heap.size + 1) (Dk.fresh L) := ⟨_, _, d1.below b2⟩
    obtain ⟨By, v, vals, hB, h, h'⟩ := d2
    exact ⟨_, _, rfl, rfl, fresh_okd hx, hx, ⟨By, v, vals, Nat.le_trans b1.size hB, h, h'⟩, b1.trans (b2.mono b1.size)⟩
  obtain ⟨p, y, hp, hy, hst⟩ := hst
  have HST := hide hst
  rw [← hp, ← hy]
  clear hst d2 b2 D1 B1 hp hy
  go_upto_region 4 with fail
  go_cut [53] from 38 (fun t wx => t = .bool false ∧ ∃ D, Okd D L 1 ∧ X wx w.heap.size p D ∧ YA (fun _ => True) wx w.heap.size y D ∧ Below w.heap.size w wx)
  case first =>
    as_aux_lemma =>
      obtain ⟨hO, hX, hY, hb⟩ := unhide HST
      cases fm with
      | false =>
        have R : Hid (∃ D, Okd D L 1 ∧ X w2 w.heap.size p D ∧ YA (fun _ => True) w2 w.heap.size y D ∧ Below w.heap.size w w2) := ⟨_, hO.mono (by omega), hX, hY, hb⟩
        clear hO hX hY hb HST HA HT HAT HSZ
        go_wp2
        go_meet
        exact ⟨rfl, unhide R⟩
      | true =>
        have H1 := hide (wals.format w2 w.heap.size p _ ((Dk.fresh L).fmt at_ size).1 L 0 at_ size ((Dk.fresh L).fmt at_ size).2 (tab_below (unhide HT) hb hw) hw hX hO (by omega) hat hsz rfl)
        have H2 : Hid (∀ W, X W w.heap.size p ((Dk.fresh L).fmt at_ size).1 → Fr w.heap.size w2 W → Calls Tryz.prog 8 #[.pointer (some ⟨y, 0, none⟩), .int .i64 at_, .int .i64 size] W fun e w' => e = .returned (.int .i64 ((Dk.fresh L).fmt at_ size).2) ∧ ∃ D, Okd D L 1 ∧ X w' w.heap.size p D ∧ YA (fun _ => True) w' w.heap.size y D ∧ Below w.heap.size w w') := fun W x1 f1 => by
          refine (vFormat_any (fun _ => True) W w.heap.size y (Dk.fresh L) L 0 (hY.fr f1) hO (by omega) (fun _ _ => trivial) at_ size hat hsz).mono ?_
          rintro e w' ⟨rfl, y2, f2⟩
          exact ⟨rfl, _, okd_next hO (x1.fr2 f2) (fmt_len _ _ _) (fmt_few hO.few _ _), x1.fr2 f2, y2, (hb.trans f1.below).trans f2.below⟩
        clear hO hX hY hb HST HA HT HAT HSZ
        generalize ((Dk.fresh L).fmt at_ size).2 = er at *
        generalize ((Dk.fresh L).fmt at_ size).1 = D1 at *
        go_wp2_with fail
        refine (unhide H1).mono ?_
        rintro e w3 ⟨rfl, x3, f3⟩
        have H3 := hide (unhide H2 _ x3 f3)
        clear H1 H2 x3 f3
        go_wp2_with fail
        refine (unhide H3).mono ?_
        rintro e w4 ⟨rfl, r4⟩
        have R := hide r4
        clear H3 r4
        go_wp2
        go_meet
        exact ⟨rfl, unhide R⟩
  case rest =>
    as_aux_lemma =>
      obtain ⟨rfl, D, hO, hX, hY, hb⟩ := hcut
      have H1 := hide (two_open L 1 (tab_below (unhide HT) hb hw) hw hX hY hO (by omega) at_ size hat hsz)
      have HN : Hid (∀ W1 W2 xo vo (c : Int), Fr w.heap.size wc W1 → Pls w.heap.size p y L (D.opn at_ size).1 (.pointer xo) (.int .i64 c) (.pointer vo) (.int .i64 c) W2 → Fr3 (fun _ => False) w.heap.size W1 W2 → PR w p y L (2 + 18 * 0) (.pointer xo) (.int .i64 c) (.pointer vo) (.int .i64 c) W2) := fun W1 W2 xo vo c f1 h2 f2 =>
        ⟨(hb.trans f1.below).trans f2.below, _, okd_next hO h2.dk (opn_len _ _ _) (opn_few hO.few _ _), h2⟩
      clear hO hX hY hb HST
      go_wp2_with fail
      refine (unhide H1).mono ?_
      rintro e w3 ⟨xo, co, rfl, f3, h3⟩
      have H3 := hide h3
      have F3 := hide f3
      clear H1 h3 f3
      go_wp2_with fail
      refine (unhide H3).mono ?_
      rintro e w4 ⟨vo, rfl, h4, f4⟩
      have R0 := hide (unhide HN _ _ _ _ _ (unhide F3) h4 f4)
      clear H3 h4 f4 HN F3
      go_wp2
      go_loopg [15, 16, 17, 18, 19] 40 (fun gk xv ev vv fv i wr => ∃ k : Nat, gk = 40 - k ∧ k ≤ 40 ∧ k ≤ len ∧ i = .int .i64 k ∧ PR w p y L (2 + 18 * k) xv ev vv fv wr)
      case atStart => exact ⟨0, by omega, by omega, by omega, rfl, unhide R0⟩
      case round =>
        as_aux_lemma =>
          obtain ⟨k, rfl, hk40, hk, rfl, hR⟩ := hrel
          by_cases hlt : k < len ∧ k < 40
          · obtain ⟨hlt, hlt40⟩ := hlt
            obtain ⟨b, o, rfl, hbw, hAA⟩ := (unhide HA).resolve_left (by omega)
            obtain ⟨x, hx⟩ : ∃ x, l[k]? = some x := ⟨_, List.getElem?_eq_getElem (by omega)⟩
            obtain ⟨hF, hPO⟩ := hAA k x hx
            have hkl : (k : Int) < (len : Int) := by omega
            have hk8 : (k : Int) < 40 := by omega
            obtain ⟨c0, c1, c2, c3, c4, c5⟩ := hF.below hbw hR.fr
            have HPO := hide hPO
            have HR := hide hR
            clear hPO hR hF hx hAA hbw
            obtain ⟨st, hst⟩ : ∃ st : ByteArray, str x.data = .string st := ⟨_, rfl⟩
            rw [hst] at c4
            go_upto_region 12 with fail
            have hAB := pact_block wr x st hst
            have HR1 := hide ((unhide HR).below ((Below.refl wr.heap.size wr).alloc (Nat.le_refl _) (.cells #[.int .i64 x.kind, .int .i64 x.at_, .int .i64 x.n, .int .u8 (x.byte.toNat : Int), .string st, .slice x.ka x.kept.length x.kc] 41)))
            generalize wr.alloc (.cells #[.int .i64 x.kind, .int .i64 x.at_, .int .i64 x.n, .int .u8 (x.byte.toNat : Int), .string st, .slice x.ka x.kept.length x.kc] 41) = wa at *
            generalize wr.heap.size = A at *
            have HAB := hide hAB
            clear hAB c0 c1 c2 c3 c4 c5 HR HA R0
            clear wr
            go_cut [99] from 68 to 253 (fun t wx => t = .bool false ∧ Below wa.heap.size wa wx)
            case first =>
              as_aux_lemma =>
                have HD := hide (unhide HR1).dumps
                obtain ⟨D, hO, hP⟩ := (unhide HR1).ex
                rcases hP with ⟨cc, q, h1, rfl, rfl, rfl, rfl, _, _⟩ | ⟨xb, z, F, u, g, rfl, rfl, rfl, rfl, _, _⟩
                · as_aux_lemma =>
                    have hc0 : (cc != 0) = true := by simpa using h1
                    have hcc : (cc != cc) = false := by simp
                    clear HAB HR1 HPO HT HAT HSZ hO h1
                    go_wp2_with fail
                    refine (unhide HD).mono ?_
                    rintro e w5 ⟨v5, rfl, h5⟩
                    have H5 := hide h5
                    clear HD h5
                    go_wp2_with fail
                    refine (unhide H5).mono ?_
                    rintro e w6 ⟨v6, rfl, h6⟩
                    have H6 := hide h6
                    clear H5 h6
                    go_wp2_with fail
                    refine (unhide H6).mono ?_
                    rintro e w7 ⟨rfl, f7⟩
                    have F7 := hide f7
                    clear H6 f7
                    go_wp2
                    go_meet
                    exact ⟨rfl, unhide F7⟩
                · as_aux_lemma =>
                    clear HAB HR1 HPO HT HAT HSZ hO
                    go_wp2_with fail
                    refine (unhide HD).mono ?_
                    rintro e w5 ⟨v5, rfl, h5⟩
                    have H5 := hide h5
                    clear HD h5
                    go_wp2_with fail
                    refine (unhide H5).mono ?_
                    rintro e w6 ⟨v6, rfl, h6⟩
                    have H6 := hide h6
                    clear H5 h6
                    go_wp2_with fail
                    refine (unhide H6).mono ?_
                    rintro e w7 ⟨rfl, f7⟩
                    have F7 := hide f7
                    clear H6 f7
                    go_wp2
                    go_meet
                    exact ⟨rfl, unhide F7⟩
            case rest =>
              as_aux_lemma =>
                obtain ⟨rfl, fc⟩ := hcut
                have HAB2 := hide ((unhide HAB).below fc)
                have HR2 := hide ((unhide HR1).below fc)
                have a0 := (unhide HAB2).c0
                have a4 := (unhide HAB2).c4
                rw [hst] at a4
                clear HAB HR1 fc
                have hdl := among_lt x.kind 8 (by omega)
                have HAM := hide (Among_any wc x.kind 8 (by omega) (by omega))
                generalize hd : ((among x.kind 8 : Nat) : Int) = d at *
                have hd8 : d = 0 ∨ d = 1 ∨ d = 2 ∨ d = 3 ∨ d = 4 ∨ d = 5 ∨ d = 6 ∨ d = 7 := by omega
                clear hd hdl
                obtain ⟨cf, rfl, HCF⟩ := (unhide HR2).look
                by_cases hskip : cf ≠ 0 ∧ d < 5
                · as_aux_lemma =>
                    have hc0 : (cf != 0) = true := by simpa using hskip.1
                    have hd5 : d < 5 := hskip.2
                    have R := hide ((unhide HR2).mono (show 2 + 18 * k ≤ 2 + 18 * (k + 1) by omega))
                    clear HCF HAB2 HR2 HPO HT HAT HSZ hd8 hskip a4
                    go_wp2_with fail
                    refine (unhide HAM).mono ?_
                    rintro e w5 ⟨rfl, rfl⟩
                    clear HAM
                    go_wp2
                    go_roundg (40 - (k + 1))
                    case measure => omega
                    case rel => exact ⟨k + 1, rfl, by omega, by omega, by go_num, unhide R⟩
                · go_upto_region 15 with (go_at_call 4; refine (unhide HAM).mono ?_; rintro e w5 ⟨rfl, e5⟩; have e5' := e5.symm; clear e5; subst e5')
                  clear HAM a0
                  go_cut [108] from 68 to 253 (fun t wx => t = .bool false ∧ wx = wc)
                  case first =>
                    as_aux_lemma =>
                      clear HCF HAB2 HR2 HPO HT HAT HSZ a4
                      by_cases hcf : cf = 0
                      · subst hcf
                        go_wp2
                        go_meet
                        exact ⟨rfl, rfl⟩
                      · have hc0 : (cf != 0) = true := by simpa using hcf
                        have hd5 : ¬ d < 5 := fun h => hskip ⟨hcf, h⟩
                        have hd5' : decide (d < 5) = false := by simpa using hd5
                        go_wp2
                        go_meet
                        exact ⟨rfl, rfl⟩
                  case rest =>
                    as_aux_lemma =>
                      obtain ⟨rfl, rfl⟩ := hcut
                      obtain ⟨M, hM, hMx, hM5⟩ := take_text x.data
                      have hss : st = ⟨x.data.toArray⟩ := by unfold str at hst; injection hst with hst; exact hst.symm
                      have hsl : st.size = x.data.length := by rw [hss]; simp [ByteArray.size]
                      rw [← hss] at hMx
                      go_upto_if 113 with fail
                      go_cut [22] from 68 to 253 (fun t wx => t = str (x.data.take 5000) ∧ wx = wc)
                      case first =>
                        as_aux_lemma =>
                          clear HCF HAB2 HR2 HPO HT HAT HSZ a4 hskip
                          by_cases h5 : 5000 < x.data.length
                          · have hMM : M = 5000 := by omega
                            subst hMM
                            clear hM
                            have h5' : (5000 : Int) < (st.size : Int) := by omega
                            go_wp2
                            go_meet
                            refine ⟨?_, rfl⟩
                            unfold str
                            first | exact congrArg Value.string hMx | (rw [hss] at hMx; exact congrArg Value.string hMx)
                          · have h5' : ¬ (5000 : Int) < (st.size : Int) := by omega
                            go_wp2
                            go_meet
                            refine ⟨?_, rfl⟩
                            unfold str
                            rw [hss, List.take_of_length_le (by omega)]
                      case rest =>
                        as_aux_lemma =>
                          obtain ⟨rfl, rfl⟩ := hcut
                          clear hM hMx hss hsl a4
                          obtain ⟨du, hdu⟩ : ∃ du, du = x.data.take 5000 := ⟨_, rfl⟩
                          rw [← hdu]
                          have hdl : du.length ≤ 5000 := by rw [hdu]; exact hM5
                          clear hdu hM5
                          go_upto_block 2 with fail
                          go_cut [15, 16, 17, 18, 23, 24] from 68 to 253 (fun xv' ev' vv' fv' ok kk wx => ok = .bool true ∧ PR w p y L (2 + 18 * (k + 1)) xv' ev' vv' fv' wx)
                          case first =>
                            as_aux_lemma =>
                              rcases hd8 with rfl | rfl | rfl | rfl | rfl | rfl | rfl | rfl
                              · as_aux_lemma =>
                                  have hcf : cf = 0 := Classical.byContradiction fun h => hskip ⟨h, by omega⟩
                                  obtain ⟨xb, z, F, u, g, D, rfl, rfl, rfl, hPT⟩ := unhide HCF hcf
                                  subst hcf
                                  have H1 := hide (hPT.append (unhide HT) hw (by omega) du (by omega))
                                  clear HCF HAB2 HR2 HPO HT HAT HSZ hskip hPT
                                  go_wp2_with fail
                                  refine (unhide H1).mono ?_
                                  rintro e w5 ⟨cr, rfl, h5⟩
                                  have H5 := hide h5
                                  clear H1 h5
                                  go_wp2_with fail
                                  refine (unhide H5).mono ?_
                                  rintro e w6 ⟨rfl, r6⟩
                                  have R := hide (r6.mono (show _ ≤ 2 + 18 * (k + 1) by omega))
                                  have hcc : (cr == cr) = true := by simp
                                  clear H5 r6
                                  go_wp2
                                  go_meet
                                  exact ⟨rfl, unhide R⟩
                              · as_aux_lemma =>
                                  have hcf : cf = 0 := Classical.byContradiction fun h => hskip ⟨h, by omega⟩
                                  obtain ⟨xb, z, F, u, g, D, rfl, rfl, rfl, hPT⟩ := unhide HCF hcf
                                  subst hcf
                                  have H1 := hide (hPT.append (unhide HT) hw (by omega) du (by omega))
                                  clear HCF HAB2 HR2 HPO HT HAT HSZ hskip hPT
                                  go_wp2_with fail
                                  refine (unhide H1).mono ?_
                                  rintro e w5 ⟨cr, rfl, h5⟩
                                  have H5 := hide h5
                                  clear H1 h5
                                  go_wp2_with fail
                                  refine (unhide H5).mono ?_
                                  rintro e w6 ⟨rfl, r6⟩
                                  have R := hide (r6.mono (show _ ≤ 2 + 18 * (k + 1) by omega))
                                  have hcc : (cr == cr) = true := by simp
                                  clear H5 r6
                                  go_wp2
                                  go_meet
                                  exact ⟨rfl, unhide R⟩
                              · as_aux_lemma =>
                                  have hcf : cf = 0 := Classical.byContradiction fun h => hskip ⟨h, by omega⟩
                                  obtain ⟨xb, z, F, u, g, D, rfl, rfl, rfl, hPT⟩ := unhide HCF hcf
                                  subst hcf
                                  have H1 := hide (hPT.append (unhide HT) hw (by omega) du (by omega))
                                  clear HCF HAB2 HR2 HPO HT HAT HSZ hskip hPT
                                  go_wp2_with fail
                                  refine (unhide H1).mono ?_
                                  rintro e w5 ⟨cr, rfl, h5⟩
                                  have H5 := hide h5
                                  clear H1 h5
                                  go_wp2_with fail
                                  refine (unhide H5).mono ?_
                                  rintro e w6 ⟨rfl, r6⟩
                                  have R := hide (r6.mono (show _ ≤ 2 + 18 * (k + 1) by omega))
                                  have hcc : (cr == cr) = true := by simp
                                  clear H5 r6
                                  go_wp2
                                  go_meet
                                  exact ⟨rfl, unhide R⟩
                              · as_aux_lemma =>
                                  have hcf : cf = 0 := Classical.byContradiction fun h => hskip ⟨h, by omega⟩
                                  obtain ⟨xb, z, F, u, g, D, rfl, rfl, rfl, hPT⟩ := unhide HCF hcf
                                  subst hcf
                                  have H1 := hide (hPT.flush (unhide HT) hw (by omega))
                                  clear HCF HAB2 HR2 HPO HT HAT HSZ hskip hPT
                                  go_wp2_with fail
                                  refine (unhide H1).mono ?_
                                  rintro e w5 ⟨cr, rfl, h5⟩
                                  have H5 := hide h5
                                  clear H1 h5
                                  go_wp2_with fail
                                  refine (unhide H5).mono ?_
                                  rintro e w6 ⟨rfl, r6⟩
                                  have R := hide (r6.mono (show _ ≤ 2 + 18 * (k + 1) by omega))
                                  have hcc : (cr == cr) = true := by simp
                                  clear H5 r6
                                  go_wp2
                                  go_meet
                                  exact ⟨rfl, unhide R⟩
                              · as_aux_lemma =>
                                  have hcf : cf = 0 := Classical.byContradiction fun h => hskip ⟨h, by omega⟩
                                  obtain ⟨xb, z, F, u, g, D, rfl, rfl, rfl, hPT⟩ := unhide HCF hcf
                                  subst hcf
                                  have H1 := hide (hPT.reset (unhide HT) hw (by omega))
                                  clear HCF HAB2 HR2 HPO HT HAT HSZ hskip hPT
                                  go_wp2_with fail
                                  refine (unhide H1).mono ?_
                                  rintro e w5 ⟨cr, rfl, h5⟩
                                  have H5 := hide h5
                                  clear H1 h5
                                  go_wp2_with fail
                                  refine (unhide H5).mono ?_
                                  rintro e w6 ⟨rfl, r6⟩
                                  have R := hide (r6.mono (show _ ≤ 2 + 18 * (k + 1) by omega))
                                  have hcc : (cr == cr) = true := by simp
                                  clear H5 r6
                                  go_wp2
                                  go_meet
                                  exact ⟨rfl, unhide R⟩
                              · as_aux_lemma =>
                                  have H1 := hide ((unhide HR2).trip (unhide HAB2) (unhide HPO).n)
                                  have a2 := (unhide HAB2).c2
                                  clear HCF HAB2 HR2 HPO HT HAT HSZ hskip
                                  go_wp2_with fail
                                  refine (unhide H1).mono ?_
                                  rintro e w5 ⟨rfl, ab5, h5⟩
                                  have k5 := ab5.c2
                                  have H5 := hide h5
                                  clear H1 h5 ab5 a2
                                  go_wp2_with fail
                                  refine (unhide H5).mono ?_
                                  rintro e w6 ⟨rfl, r6⟩
                                  have R := hide (r6.mono (show _ ≤ 2 + 18 * (k + 1) by omega))
                                  clear H5 r6
                                  go_wp2
                                  go_meet
                                  exact ⟨rfl, unhide R⟩
                              · as_aux_lemma =>
                                  have H1 := hide ((unhide HR2).crash (unhide HT) hw (by omega) (unhide HAB2) (unhide HPO) at_ size hat hsz)
                                  have a5 := (unhide HAB2).c5
                                  clear HCF HAB2 HR2 HPO HT HAT HSZ hskip
                                  go_wp2_with fail
                                  refine (unhide H1).mono ?_
                                  rintro e w5 ⟨rfl, ab5, h5⟩
                                  have k5 := ab5.c5
                                  have H5 := hide h5
                                  clear H1 h5 ab5 a5
                                  go_wp2_with fail
                                  refine (unhide H5).mono ?_
                                  rintro e w6 ⟨rfl, h6⟩
                                  have H6 := hide h6
                                  clear H5 h6 k5
                                  go_wp2_with fail
                                  refine (unhide H6).mono ?_
                                  rintro e w7 ⟨xo7, c7, rfl, h7⟩
                                  have H7 := hide h7
                                  clear H6 h7
                                  go_wp2_with fail
                                  refine (unhide H7).mono ?_
                                  rintro e w8 ⟨vo8, rfl, r8⟩
                                  have R := hide (r8.mono (show _ ≤ 2 + 18 * (k + 1) by omega))
                                  clear H7 r8
                                  go_wp2
                                  go_meet
                                  exact ⟨rfl, unhide R⟩
                              · as_aux_lemma =>
                                  have H0 := hide (Among_any wc x.at_ L hL4 (by omega))
                                  have H1 := hide ((unhide HR2).store (by omega) (unhide HAB2) (among x.at_ L))
                                  have a1 := (unhide HAB2).c1
                                  have a3 := (unhide HAB2).c3
                                  clear HCF HAB2 HR2 HPO HT HAT HSZ hskip
                                  go_wp2_with fail
                                  refine (unhide H0).mono ?_
                                  rintro e w4' ⟨rfl, rfl⟩
                                  clear H0 a1
                                  generalize among x.at_ L = kk at *
                                  go_wp2_with fail
                                  refine (unhide H1).mono ?_
                                  rintro e w5 ⟨v5, rfl, h5⟩
                                  have H5 := hide h5
                                  clear H1 h5 a3
                                  go_wp2_with fail
                                  refine (unhide H5).mono ?_
                                  rintro e w6 ⟨⟨c6, rfl⟩, ab6, h6⟩
                                  have k6 := ab6.c3
                                  have H6 := hide h6
                                  clear H5 h6 ab6
                                  go_wp2_with fail
                                  refine (unhide H6).mono ?_
                                  rintro e w7 ⟨v7, rfl, h7⟩
                                  have H7 := hide h7
                                  clear H6 h7 k6
                                  go_wp2_with fail
                                  refine (unhide H7).mono ?_
                                  rintro e w8 ⟨⟨c8, rfl⟩, r8⟩
                                  have R := hide (r8.mono (show _ ≤ 2 + 18 * (k + 1) by omega))
                                  clear H7 r8
                                  go_wp2
                                  go_meet
                                  exact ⟨rfl, unhide R⟩
                          case rest =>
                            as_aux_lemma =>
                              obtain ⟨rfl, hR3⟩ := hcut
                              clear HCF HAB2 HR2 HPO HAT HSZ hskip hd8
                              obtain ⟨D, hO, hP⟩ := hR3.ex
                              have HR3 := hide hR3
                              clear hR3
                              rcases hP with ⟨cc, q, h1, rfl, rfl, rfl, rfl, _, _⟩ | ⟨xb, z, F, u, g, rfl, rfl, rfl, rfl, h2, h3⟩
                              · as_aux_lemma =>
                                  have hc0 : (cc == 0) = false := by simpa using h1
                                  clear hO h1
                                  go_wp2_with fail
                                  go_quiet (fail)
                                  go_wp2
                                  go_roundg (40 - (k + 1))
                                  case measure => omega
                                  case rel => exact ⟨k + 1, rfl, by omega, by omega, by go_num, (unhide HR3).below (by first | exact below_drewN (Below.refl _ _) _ | repeat (first | exact Below.refl _ _ | refine Below.drew ?_))⟩
                              · have hsm := h2.vl.small
                                cases hgg : g.gone with
                                | true =>
                                  as_aux_lemma =>
                                    have c8 := (h2.cells _ (Below.refl _ _)).c8
                                    rw [hgg] at c8
                                    clear hO h2 h3 hsm
                                    go_wp2_with fail
                                    go_quiet (fail)
                                    go_wp2
                                    go_roundg (40 - (k + 1))
                                    case measure => omega
                                    case rel => exact ⟨k + 1, rfl, by omega, by omega, by go_num, (unhide HR3).below (by first | exact below_drewN (Below.refl _ _) _ | repeat (first | exact Below.refl _ _ | refine Below.drew ?_))⟩
                                | false =>
                                  as_aux_lemma =>
                                    have HL := hide (h2.live hgg)
                                    obtain ⟨c2, c3, c5, c6, c7, c8⟩ := h2.cells _ (Below.refl _ _)
                                    rw [hgg] at c8
                                    have KZ : Hid (∀ W, Below wc.heap.size wc W → W.cell? ⟨z, 2, none⟩ = some (.int .i64 (g.size : Int)) ∧ W.cell? ⟨z, 3, none⟩ = some (.int .i64 (g.now : Int)) ∧ W.cell? ⟨z, 5, none⟩ = some u ∧ W.cell? ⟨z, 6, none⟩ = some (.int .i64 (g.used : Int)) ∧ W.cell? ⟨z, 7, none⟩ = some (.int .i64 (g.count : Int)) ∧ W.cell? ⟨z, 8, none⟩ = some (.bool false)) := fun W f => by
                                      obtain ⟨c2, c3, c5, c6, c7, c8⟩ := h2.cells _ f
                                      rw [hgg] at c8
                                      exact ⟨c2, c3, c5, c6, c7, c8⟩
                                    obtain ⟨s1, s2, s3, s4, s5, s6, s7, s8⟩ := hsm
                                    have y1 : IntKind.i64.wrap ((g.size : Int) - 1) = (g.size : Int) - 1 := by rw [IntKind.wrap_i64]; omega
                                    have y2 : IntKind.i64.wrap ((g.size : Int) - 1 - (g.used : Int)) = (g.size : Int) - 1 - (g.used : Int) := by rw [IntKind.wrap_i64]; omega
                                    have e1 : (((g.size : Int) - 1 - (g.used : Int)) != ((g.size : Int) - 1 - (g.used : Int))) = false := by simp
                                    have e2 : ((g.count : Int) != (g.count : Int)) = false := by simp
                                    have e3 : ((g.now : Int) != (g.now : Int)) = false := by simp
                                    clear hO h2 h3 hgg s1 s2 s3 s4 s5 s6 s7 s8
                                    go_wp2_with fail
                                    go_region_held (fun W => W.cell? ⟨z, 2, none⟩ = some (.int .i64 (g.size : Int)) ∧ W.cell? ⟨z, 3, none⟩ = some (.int .i64 (g.now : Int)) ∧ W.cell? ⟨z, 5, none⟩ = some u ∧ W.cell? ⟨z, 6, none⟩ = some (.int .i64 (g.used : Int)) ∧ W.cell? ⟨z, 7, none⟩ = some (.int .i64 (g.count : Int)) ∧ W.cell? ⟨z, 8, none⟩ = some (.bool false)) (go_keep)
                                      (first
                                        | (have ox := f6; clear ox; go_at_call 31; refine ((unhide HL).epoch _ (by repeat (first | exact f6 | refine Below.drew ?_))).mono ?_; rintro e w7 ⟨rfl, f7⟩; obtain ⟨k72, k73, k75, k76, k77, k78⟩ := unhide KZ _ f7)
                                        | (have ox := f5; clear ox; go_at_call 30; refine ((unhide HL).free _ (by repeat (first | exact f5 | refine Below.drew ?_))).mono ?_; rintro e w6 ⟨rfl, f6⟩; obtain ⟨k62, k63, k65, k66, k67, k68⟩ := unhide KZ _ f6)
                                        | (have ox := f4; clear ox; go_at_call 29; refine ((unhide HL).sure _ (by repeat (first | exact f4 | refine Below.drew ?_))).mono ?_; rintro e w5 ⟨rfl, f5⟩; obtain ⟨k52, k53, k55, k56, k57, k58⟩ := unhide KZ _ f5)
                                        | (have ox := o3; clear ox; go_at_call 27; refine ((unhide HL).same _ _ _ (by repeat (first | exact f3 | refine Below.drew ?_)) (own_below o3 (by repeat (first | exact Below.refl _ _ | refine Below.drew ?_)))).mono ?_; rintro e w4 ⟨rfl, f4⟩; obtain ⟨k42, k43, k45, k46, k47, k48⟩ := unhide KZ _ f4)
                                        | (go_at_call 28; refine ((unhide HL).recs _ (by repeat (first | exact Below.refl _ _ | refine Below.drew ?_))).mono ?_; rintro e w3 ⟨v3, rfl, o3, f3⟩; obtain ⟨k32, k33, k35, k36, k37, k38⟩ := unhide KZ _ f3))
                                    have R := hide ((unhide HR3).below f7)
                                    clear k72 k73 k75 k76 k77 k78 k62 k63 k65 k66 k67 k68 k52 k53 k55 k56 k57 k58 k42 k43 k45 k46 k47 k48 k32 k33 k35 k36 k37 k38 o3 f3 f4 f5 f6 f7 HL KZ c2 c3 c5 c6 c7 c8 y1 y2
                                    go_wp2
                                    go_roundg (40 - (k + 1))
                                    case measure => omega
                                    case rel => exact ⟨k + 1, rfl, by omega, by omega, by go_num, (unhide R).below (by first | exact below_drewN (Below.refl _ _) _ | repeat (first | exact Below.refl _ _ | refine Below.drew ?_))⟩
          · as_aux_lemma =>
              have HD := hide hR.dumps
              obtain ⟨cc, rfl, rfl⟩ := hR.ends
              have hcc : (cc == cc) = true := by simp
              have HF : Hid (∀ W, Below wr.heap.size wr W → Below w.heap.size w W ∧ Tab W) := fun W f => by
                have f' := hR.fr.trans (f.mono hR.fr.size)
                exact ⟨f', tab_below (unhide HT) f' hw⟩
              have hws : 1 ≤ wr.heap.size := Nat.le_trans hw hR.fr.size
              have hend : ((k : Int) < (len : Int) ∧ ¬ (k : Int) < 40 ∧ decide ((k : Int) < 40) = false) ∨ (¬ (k : Int) < (len : Int) ∧ decide ((k : Int) < (len : Int)) = false) := by
                by_cases h : k < len
                · exact .inl ⟨by omega, by omega, by simp; omega⟩
                · exact .inr ⟨by omega, by simp; omega⟩
              clear HA R0 HAT HSZ hR HT hlt
              rcases hend with ⟨g1, g2, g3⟩ | ⟨g1, g2⟩
              all_goals
                go_wp2_with fail
                refine (unhide HD).mono ?_
                rintro e w5 ⟨v5, rfl, h5⟩
                have H5 := hide h5
                clear HD h5
                go_wp2_with fail
                refine (unhide H5).mono ?_
                rintro e w6 ⟨v6, rfl, h6⟩
                have H6 := hide h6
                clear H5 h6
                go_wp2_with fail
                refine (unhide H6).mono ?_
                rintro e w7 ⟨rfl, f7⟩
                have F7 := hide (unhide HF _ f7)
                have hw7 : 1 ≤ w7.heap.size := Nat.le_trans hws f7.size
                clear H6 f7 HF
                go_wp2_with fail
                refine (works4_any wals w7 (unhide F7).2 hw7).mono ?_
                rintro e w8 ⟨rfl, f8⟩
                have F8 := hide ((unhide F7).1.trans (f8.mono (unhide F7).1.size))
                clear f8 F7
                go_wp2
                go_ret
                exact ⟨rfl, unhide F8⟩
end Go.Proofs.YtfggahkimconfaaGreatDoor
