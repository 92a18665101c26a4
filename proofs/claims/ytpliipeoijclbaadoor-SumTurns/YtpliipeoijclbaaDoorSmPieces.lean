/- The walk of SumPieces. -/
import Derived.Test.YtpliipeoijclbaaDoorSmB
import Derived.Test.YtpliipeoijclbaaDoorSmW
import Derived.Deep.CutBlock
import Derived.Deep.RegionLawGrows
namespace Go.Proofs.YtpliipeoijclbaaDoor
open Go.RowKit
set_option linter.unusedVariables false

/-- A slice of ints that came in. -/
def IntsOf (w : World) (a : Option Addr) (n : Nat) (zs : List Int) : Prop := zs.length = n ∧ (n = 0 ∨ ∃ b o, a = some ⟨b, o, none⟩ ∧ ∀ j, j < n → w.cell? ⟨b, o + j, none⟩ = some (.int .i64 (zs.getD j 0)))

theorem infoBs : (Tryd.prog.info? 23).map (fun i => (i.zero, i.size, i.bytes)) = some (some (.slice none 0 0), 1, 24) := by kernel_rfl

theorem on_sub (l : List UInt8) (d k : Nat) (hd : d ≤ k) : onS (onS 0 (l.take d)) ((l.take k).drop d) = onS 0 (l.take k) := by
  rw [← onS_append]
  congr 1
  have : l.take d = (l.take k).take d := by rw [List.take_take, Nat.min_eq_left hd]
  rw [this, List.take_append_drop]

/-- The parts so far. -/
structure PR (w : World) (l : List UInt8) (j d : Nat) (v : Value) (wr : World) : Prop where
  ex : ∃ (ls : List (List UInt8)) (xs : List Value), wr.ownsRow w.heap.size 23 1 v j xs ∧ ls.length = j ∧ ls.flatten = l.take d ∧ ∀ (i : Nat) (x : List UInt8), ls[i]? = some x → x.length ≤ 4000 ∧ ∃ a c, xs[i]? = some (.slice a x.length c) ∧ Bs w a x.length x
  fr : Below w.heap.size w wr
theorem PR.below {w wr w' : World} {l : List UInt8} {j d : Nat} {v : Value} (h : PR w l j d v wr) (f : Below wr.heap.size wr w') : PR w l j d v w' := by
  obtain ⟨⟨ls, xs, h1, h2⟩, fr⟩ := h
  exact ⟨⟨ls, xs, own_below h1 f, h2⟩, fr.trans (f.mono fr.size)⟩
theorem PR.next {w w' : World} {l : List UInt8} {j d k : Nat} {v' : Value} {a : Option Addr} {c : Nat} {ls : List (List UInt8)} {xs : List Value} (hd : d ≤ k) (hk : k ≤ l.length) (hl : l.length ≤ 4000) (hb : Bs w a (k - d) ((l.take k).drop d)) (hf : Below w.heap.size w w')
    (hown : w'.ownsRow w.heap.size 23 1 v' (j + 1) (xs ++ [.slice a (k - d) c])) (hxl : xs.length = j) (h2 : ls.length = j) (h3 : ls.flatten = l.take d)
    (h4 : ∀ (i : Nat) (x : List UInt8), ls[i]? = some x → x.length ≤ 4000 ∧ ∃ a c, xs[i]? = some (.slice a x.length c) ∧ Bs w a x.length x) : PR w l (j + 1) k v' w' := by
  refine ⟨⟨ls ++ [(l.take k).drop d], _, hown, by simp [h2], ?_, ?_⟩, hf⟩
  · rw [List.flatten_append, h3]
    have : l.take d = (l.take k).take d := by rw [List.take_take, Nat.min_eq_left hd]
    rw [this]
    simp
  · intro i x hx
    have hkl : ((l.take k).drop d).length = k - d := hb.1
    by_cases hi : i < j
    · rw [List.getElem?_append_left (by omega)] at hx
      obtain ⟨q1, a', c', q2, q3⟩ := h4 i x hx
      exact ⟨q1, a', c', by rw [List.getElem?_append_left (by omega)]; exact q2, q3⟩
    · have hij : i = j := by
        have := (List.getElem?_eq_some_iff.1 hx).1
        simp [h2] at this
        omega
      subst hij
      rw [List.getElem?_append_right (by omega)] at hx
      simp [h2] at hx
      subst hx
      refine ⟨by rw [hkl]; omega, a, c, ?_, by rw [hkl]; exact hb⟩
      rw [List.getElem?_append_right (by omega), hkl]
      simp [hxl]
theorem PR.parts {w wr : World} {l : List UInt8} {j d : Nat} {v : Value} (h : PR w l (j + 1) d v wr) : ∃ q c ls, v = .slice (some ⟨q, 0, none⟩) (j + 1) c ∧ ls.length = j + 1 ∧ ls.flatten = l.take d ∧ PartsAt wr q 0 ls := by
  obtain ⟨⟨ls, xs, h1, h2, h3, h4⟩, fr⟩ := h
  obtain ⟨a, c, rfl, hform⟩ := own_form h1
  obtain ⟨q, rfl, hc⟩ := hform (Nat.succ_pos _)
  refine ⟨q, c, ls, rfl, h2, h3, fun i x hx => ?_⟩
  obtain ⟨q1, a', c', q2, q3⟩ := h4 i x hx
  exact ⟨by omega, a', c', by rw [Nat.zero_add]; exact hc i _ q2, q3.below fr⟩

set_option maxHeartbeats 3200000 in
set_option maxRecDepth 100000 in
theorem pieces_walk {T : World → Prop} (S : Sums T) (w : World) (a : Option Addr) (n cap : Nat) (l : List UInt8) (ca : Option Addr) (cn ccap : Nat) (zs : List Int) (hT : T w) (hA : Arg w a n cap l) (hC : IntsOf w ca cn zs) (hcn : cn ≤ 9223372036854775807) :
    Calls Tryd.prog 6 #[.slice a n cap, .slice ca cn ccap] w fun e w' => e = .returned (.bool true) ∧ Below w.heap.size w w' := by
  have HT := hide hT
  have HA := hide hA
  have HC := hide hC
  have H0 := hide (gWorks S (unhide HT) (Below.refl _ _))
  clear hT hA hC
  go_enter Tryd.func6, Tryd.ntmps6
  go_wp2_with fail
  refine (unhide H0).mono ?_
  rintro e w1 ⟨rfl, f1, b1⟩
  have F1 := hide f1
  clear f1 b1 H0
  go_upto_if 14 with fail
  go_cut [0] from 10 (fun v wx => ∃ a n l, v = .slice a n cap ∧ Arg w a n cap l ∧ n ≤ 4000 ∧ wx = w1)
  case first =>
    by_cases hlim : n ≤ 4000
    · have g0 : decide ((4000 : Int) < (n : Int)) = false := by simp; omega
      go_wp2
      go_meet
      exact ⟨a, n, l, rfl, unhide HA, hlim, rfl⟩
    · have hA := unhide HA
      obtain ⟨b, o, rfl, hb⟩ := hA.bs.2.resolve_left (by omega)
      have g0 : decide ((4000 : Int) < (n : Int)) = true := by simp; omega
      have hcap0 := hA.room
      have g1 : (4000 : Int) ≤ (cap : Int) := by omega
      have g2 : ¬ cap = 0 := by omega
      have HB : Hid (Arg w (some ⟨b, o, none⟩) 4000 cap (l.take 4000)) := ⟨⟨by have := hA.bs.1; simp; omega, .inr ⟨b, o, rfl, bytes_take hb _⟩⟩, by omega, hA.most, fun e => by cases e⟩
      clear hA hb hcap0
      go_wp2
      go_meet
      exact ⟨some ⟨b, o, none⟩, 4000, l.take 4000, rfl, unhide HB, Nat.le_refl _, rfl⟩
  case rest =>
    clear HA
    obtain ⟨a, n, l, rfl, hA, hn, rfl⟩ := hcut
    have hln := hA.bs.1
    have hroom := hA.room
    have hmost := hA.most
    have HA := hide hA
    have hP0 : PR w l 0 0 (.slice (some ⟨wc.heap.size, 0, none⟩) 0 0) (wc.alloc (.cells #[] 23)) := by
      have f1 := unhide F1
      exact ⟨⟨[], [], World.ownsRow_made wc #[] 0 f1.size (by simp) rfl, rfl, by simp, fun i x hx => by simp at hx⟩, f1.alloc f1.size _⟩
    have HP0 := hide hP0
    obtain ⟨i0, hi, hz0, hz1, hz2⟩ := info_parts infoBs
    clear hA hP0
    go_wp2
    go_loopw [5, 6, 7, 8] (fun p s d i wr => ∃ (j dd : Nat), j ≤ 30 ∧ j ≤ cn ∧ dd ≤ n ∧ i = .int .i64 j ∧ d = .int .i64 dd ∧ s = .int .u32 (onS 0 (l.take dd) : Int) ∧ PR w l j dd p wr) (fun _ _ _ i _ => 30 - (intOf i).toNat)
    case atStart => exact ⟨0, 0, by omega, by omega, by omega, rfl, rfl, by simp [onS_nil], unhide HP0⟩
    case round =>
      clear HP0
      obtain ⟨j, d, hj30, hjc, hdn, rfl, rfl, rfl, hP⟩ := hrel
      have hR := hP.fr
      by_cases hlt : j < cn ∧ j < 30
      · obtain ⟨hlt, hlt30⟩ := hlt
        have g1 : (j : Int) < cn := by omega
        have g2 : (j : Int) < 30 := by omega
        obtain ⟨r, hr⟩ : ∃ r, r = n - d := ⟨_, rfl⟩
        obtain ⟨M, hM⟩ : ∃ M, M = r + 1 := ⟨_, rfl⟩
        have hsl : (n : Int) - (d : Int) = (r : Int) := by omega
        have hsl1 : (r : Int) + 1 = (M : Int) := by omega
        obtain ⟨cb, co, hca, hcc⟩ := (unhide HC).2.resolve_left (by omega)
        subst hca
        have hcell : wr.cell? ⟨cb, co + j, none⟩ = some (.int .i64 (zs.getD j 0)) := by
          have := hcc j hlt
          exact (hR.cell (p := ⟨cb, co + j, none⟩) (World.block_lt_of_cell? w _ this)).trans this
        clear hcc
        generalize zs.getD j 0 = z at *
        have hm := among_lt z M (by omega)
        have H1 := hide (Among_any wr z M (by omega) (by omega))
        generalize among z M = m at *
        obtain ⟨k, hk⟩ : ∃ k, k = d + m := ⟨_, rfl⟩
        have hk1 : (d : Int) + (m : Int) = (k : Int) := by omega
        have hk2 : k ≤ n := by omega
        have hk3 : d ≤ k := by omega
        have hk4 : (d : Int) ≤ (k : Int) := by omega
        have hk5 : (k : Int) ≤ (cap : Int) := by omega
        have hbs := sub_bs (unhide HA) d k hk3 hk2
        have hlt0 := onS_lt (l.take d) zero_lt32
        obtain ⟨A, hAd⟩ : ∃ A, (if cap = d then a else Option.map (fun x => x.add d) a) = A := ⟨_, rfl⟩
        rw [hAd] at hbs
        have H2 := S.on wr _ A (k - d) (cap - d) _ (S.below _ _ (unhide HT) hR) hlt0 (by omega) (hbs.below hR)
        rw [on_sub l d k hk3] at H2
        have H2 := hide H2
        have HBS := hide hbs
        have HP := hide hP
        clear hk hr hM hm hbs hR hP hlt0
        generalize onS 0 (l.take d) = s1 at *
        generalize hs2 : onS 0 (l.take k) = s2 at *
        have HS2 := hide hs2
        clear hs2
        go_wp2_with fail
        refine (unhide H1).mono ?_
        rintro e w3 ⟨rfl, rfl⟩
        go_wp2_with fail
        refine (unhide H2).mono ?_
        rintro e w4 ⟨rfl, f4⟩
        have hP4 := (unhide HP).below f4
        obtain ⟨ls, xs, q1, q2, q3, q4⟩ := hP4.ex
        obtain ⟨pa, pc, rfl, _⟩ := own_form q1
        have b5 : Below w4.heap.size w4 (w4.alloc (.cells #[.slice A (k - d) (cap - d)] 23)) := (Below.refl _ _).alloc (Nat.le_refl _) _
        have hown := own_below q1 b5
        have f5 : Below w.heap.size w (w4.alloc (.cells #[.slice A (k - d) (cap - d)] 23)) := hP4.fr.trans (b5.mono hP4.fr.size)
        have hsrc : ∀ i u, [Value.slice A (k - d) (cap - d)][i]? = some u → (w4.alloc (.cells #[.slice A (k - d) (cap - d)] 23)).cell? (Addr.add ⟨w4.heap.size, 0, none⟩ i) = some u := World.news_of_block (heap_alloc_last w4 (.cells [Value.slice A (k - d) (cap - d)].toArray 23))
        have hlo := q1.lt
        have HPX := hide (And.intro (show xs.length = j by have := q1.1; omega) (And.intro q2 (And.intro q3 q4)))
        have F5 := hide f5
        clear f4 hP4 q1 q2 q3 q4 b5 f5 H1 H2
        go_wp2_with (at_builtin; (refine wpList_append_own _ rfl (.tmp 46) (.tmp 51) 39 rfl w.heap.size 23 i0 (.slice none 0 0) 1 24 Tryd.underlying39 hi hz0 hz1 hz2 rfl (by decide) _ _ _ rfl hown ⟨w4.heap.size, 0, none⟩ 1 1 [.slice A (k - d) (cap - d)] rfl ?c0 ?c1 ?c2 ?c3 ?c4 ?c5 ?_))
        case c0 => rfl
        case c1 => exact hsrc
        case c2 => intro v hv; simp at hv; subst hv; rfl
        case c3 => unfold maxLen; omega
        case c4 => omega
        case c5 => exact (unhide F5).size
        intro v' w6 hown' hgrow' _
        have f6 : Below w.heap.size w w6 := (unhide F5).grown hgrow' (unhide F5).size (fun x hx => (hlo x hx).1)
        have hln' := hln
        have HP6 := hide (PR.next hk3 (by omega) (by omega) (unhide HBS) f6 hown' (unhide HPX).1 (unhide HPX).2.1 (unhide HPX).2.2.1 (unhide HPX).2.2.2)
        clear hown' hgrow' f6 hown hsrc hlo HPX F5 HBS
        go_wp2
        go_roundw
        case rel => exact ⟨j + 1, k, by omega, by omega, hk2, by go_num, rfl, by rw [unhide HS2], unhide HP6⟩
        case measure => simp [intOf]; omega
      · have hR := hP.fr
        have hbs := sub_bs (unhide HA) d n hdn (Nat.le_refl _)
        have hlt0 := onS_lt (l.take d) zero_lt32
        obtain ⟨A, hAd⟩ : ∃ A, (if cap = d then a else Option.map (fun x => x.add d) a) = A := ⟨_, rfl⟩
        rw [hAd] at hbs
        have hln' : l.take n = l := List.take_of_length_le (by omega)
        have H2 := S.on wr _ A (n - d) (cap - d) _ (S.below _ _ (unhide HT) hR) hlt0 (by omega) (hbs.below hR)
        rw [on_sub l d n hdn, hln'] at H2
        have H2 := hide H2
        have HBS := hide hbs
        have HP := hide hP
        have g1 : (d : Int) ≤ (n : Int) := by omega
        have g2 : (n : Int) ≤ (cap : Int) := by omega
        clear hbs hR hP hlt0
        generalize onS 0 (l.take d) = s1 at *
        have hlw := hln
        go_wp2_with fail
        all_goals
          refine (unhide H2).mono ?_
          rintro e w4 ⟨rfl, f4⟩
          have hP4 := (unhide HP).below f4
          have H3 := hide (gOf S (unhide HT) hP4.fr ((unhide HA).below hP4.fr) (by omega))
          have HP4 := hide hP4
          clear f4 hP4 H2 HP
          generalize hs0 : onS 0 l = s0 at *
          have HS0 := hide hs0
          clear hs0
          go_wp2_with fail
          refine (unhide H3).mono ?_
          rintro e w5 ⟨rfl, f5, b5⟩
          have hP5 := (unhide HP4).below b5
          obtain ⟨ls, xs, q1, q2, q3, q4⟩ := hP5.ex
          obtain ⟨pa, pc, rfl, _⟩ := own_form q1
          have b6 : Below w5.heap.size w5 (w5.alloc (.cells #[.slice A (n - d) (cap - d)] 23)) := (Below.refl _ _).alloc (Nat.le_refl _) _
          have hown := own_below q1 b6
          have f6 : Below w.heap.size w (w5.alloc (.cells #[.slice A (n - d) (cap - d)] 23)) := hP5.fr.trans (b6.mono hP5.fr.size)
          have hsrc : ∀ i u, [Value.slice A (n - d) (cap - d)][i]? = some u → (w5.alloc (.cells #[.slice A (n - d) (cap - d)] 23)).cell? (Addr.add ⟨w5.heap.size, 0, none⟩ i) = some u := World.news_of_block (heap_alloc_last w5 (.cells [Value.slice A (n - d) (cap - d)].toArray 23))
          have hlo := q1.lt
          have HPX := hide (And.intro (show xs.length = j by have := q1.1; omega) (And.intro q2 (And.intro q3 q4)))
          have F6 := hide f6
          clear f5 b5 hP5 q1 q2 q3 q4 b6 f6 H3 HP4
          go_wp2_with (at_builtin; (refine append_own_wanted _ rfl (.tmp 64) (.tmp 68) 39 rfl w.heap.size 23 i0 (.slice none 0 0) 1 24 Tryd.underlying39 hi hz0 hz1 hz2 rfl (by decide) _ _ _ rfl hown ⟨w5.heap.size, 0, none⟩ 1 1 [.slice A (n - d) (cap - d)] rfl ?c0 ?c1 ?c2 ?c3 ?c4 ?c5 ?_))
          case c0 => rfl
          case c1 => exact hsrc
          case c2 => intro v hv; simp at hv; subst hv; rfl
          case c3 => unfold maxLen; omega
          case c4 => omega
          case c5 => exact (unhide F6).size
          intro v' w7 hown' hgrow' _
          have f7 : Below w.heap.size w w7 := (unhide F6).grown hgrow' (unhide F6).size (fun x hx => (hlo x hx).1)
          have hP7 := PR.next hdn (by omega) (by omega) (unhide HBS) f7 hown' (unhide HPX).1 (unhide HPX).2.1 (unhide HPX).2.2.1 (unhide HPX).2.2.2
          obtain ⟨q, c7, ls7, rfl, p1, p2, p3⟩ := hP7.parts
          have H8 := S.parts w7 q 0 (j + 1) c7 ls7 (S.below _ _ (unhide HT) f7) p1 (by omega) p3
          rw [p2, hln', unhide HS0] at H8
          have H8 := hide H8
          have F7 := hide f7
          clear hown' hgrow' f7 hown hsrc hlo HPX F6 HBS hP7 p1 p2 p3
          go_wp2_with fail
          refine (unhide H8).mono ?_
          rintro e w8 ⟨rfl, f8⟩
          have f8' := (unhide F7).trans (f8.mono (unhide F7).size)
          have H9 := gOf S (unhide HT) f8' ((unhide HA).below f8') (by omega)
          rw [unhide HS0] at H9
          have H9 := hide H9
          clear f8 f8' H8 F7
          go_wp2_with fail
          refine (unhide H9).mono ?_
          rintro e w9 ⟨rfl, f9, _⟩
          have F9 := hide f9
          clear f9 H9
          go_wp2
          go_ret
          exact ⟨rfl, unhide F9⟩

end Go.Proofs.YtpliipeoijclbaaDoor
