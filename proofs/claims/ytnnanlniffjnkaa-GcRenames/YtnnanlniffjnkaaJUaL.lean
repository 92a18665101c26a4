/- Layer 16, the landed gc: alike, EqualFunc. -/
import Derived.Test.YtnnanlniffjnkaaJUaK
import Derived.Test.YtnnanlniffjnkaaJUaI

namespace Go.Proofs.Ytnnanlniffjnkaa
open Go.RowKit
set_option linter.unusedVariables false
set_option maxRecDepth 100000

set_option maxHeartbeats 800000 in
theorem alike_any (w : World) (ty : List UInt8) (s : Sl) (ws : List Vl) (ty2 : List UInt8) (t : Sl) (ws2 : List Vl) (hA : WsIn w s ws) (hB : WsIn w t ws2) :
    Calls Try.prog 39 #[.agg #[.string ⟨ty.toArray⟩, s.v], .agg #[.string ⟨ty2.toArray⟩, t.v]] w fun e w' => e = .returned (.bool (decide (ty = ty2 ∧ ws = ws2))) ∧ Below w.heap.size w w' := by
  obtain ⟨xa, xn, xc⟩ := s
  obtain ⟨ya, yn, yc⟩ := t
  unfold Sl.v
  simp only
  obtain ⟨w2, hw2⟩ : ∃ w2, w2 = (w.alloc (.cells #[.string ⟨ty.toArray⟩, .slice xa xn xc] 43)).alloc (.cells #[.string ⟨ty2.toArray⟩, .slice ya yn yc] 43) := ⟨_, rfl⟩
  have f2 : Below w.heap.size w w2 := by rw [hw2]; exact ((Below.refl _ _).alloc (Nat.le_refl _) _).alloc (by simp) _
  have hx : w2.heap[w.heap.size]? = some (.cells #[.string ⟨ty.toArray⟩, .slice xa xn xc] 43 (0, 0)) := by rw [hw2]; exact (heap_alloc_old _ _ (by simp)).trans (heap_alloc_last _ _)
  have hy : w2.heap[w.heap.size + 1]? = some (.cells #[.string ⟨ty2.toArray⟩, .slice ya yn yc] 43 (0, 0)) := by
    rw [hw2]
    have := heap_alloc_last (w.alloc (.cells #[.string ⟨ty.toArray⟩, .slice xa xn xc] 43)) (.cells #[.string ⟨ty2.toArray⟩, .slice ya yn yc] 43)
    rw [show (w.alloc (.cells #[.string ⟨ty.toArray⟩, .slice xa xn xc] 43)).heap.size = w.heap.size + 1 by simp] at this
    exact this
  have x0 := bx_cell hx 0 _ rfl
  have x1 := bx_cell hx 1 _ rfl
  have y0 := bx_cell hy 0 _ rfl
  have y1 := bx_cell hy 1 _ rfl
  simp at x0 x1 y0 y1
  have XT : Hid (Calls Try.prog 40 #[.slice xa xn xc, .slice ya yn yc] w2 fun e w' => e = .returned (.bool (decide (ws = ws2))) ∧ Below w2.heap.size w2 w') := Calls.mono (slEqualV_any w2 ⟨xa, xn, xc⟩ ⟨ya, yn, yc⟩ ws ws2 (hA.below f2) (hB.below f2)) (by rintro e w' ⟨⟨b, rfl, hb⟩, f2⟩; exact ⟨by rw [bool_is hb], f2⟩)
  have F2 := hide f2
  clear hA hB hx hy f2
  by_cases hty : ty = ty2
  · subst hty
    have HD : Hid (decide (ty = ty ∧ ws = ws2) = decide (ws = ws2)) := by unfold Hid; simp
    rw [unhide HD]
    clear HD
    generalize (⟨ty.toArray⟩ : ByteArray) = st at *
    go_enter Try.func39, Try.ntmps39
    go_wp2_with (first | (rw [← hw2]) | fail)
    refine (unhide XT).mono ?_
    rintro e w3 ⟨rfl, f3⟩
    have F3 := hide ((unhide F2).trans (f3.mono (unhide F2).size))
    clear f3
    go_wp2
    go_ret
    exact ⟨rfl, unhide F3⟩
  · obtain ⟨t1, t2, t3⟩ := ty_ne hty
    have HD : Hid (decide (ty = ty2 ∧ ws = ws2) = false) := by unfold Hid; simp [hty]
    rw [unhide HD]
    clear HD hty XT
    generalize (⟨ty.toArray⟩ : ByteArray) = st at *
    generalize (⟨ty2.toArray⟩ : ByteArray) = st2 at *
    go_enter Try.func39, Try.ntmps39
    go_wp2_with (first | (rw [← hw2]) | fail)
    go_ret
    exact ⟨rfl, unhide F2⟩
set_option maxHeartbeats 1600000 in
theorem slEqualO_any (w : World) (s t : Sl) (l m : List ObR) (hA : HIn w s l) (hB : HIn w t m) :
    Calls Try.prog 38 #[s.v, t.v, .func (.func 39) #[] #[]] w fun e w' => (∃ b, e = .returned (.bool b) ∧ (b = true ↔ l.map ObR.o = m.map ObR.o)) ∧ Below w.heap.size w w' := by
  obtain ⟨a, n, c⟩ := s
  obtain ⟨b, n2, d⟩ := t
  have hs := hA.small
  have hln := hA.ls.1
  have hlm := hB.ls.1
  simp only at hln hlm hs
  unfold Sl.v
  simp only
  by_cases hnn : n = n2
  case neg =>
    have hnm : ¬ (n : Int) = (n2 : Int) := by omega
    have HLF : Hid (¬ l.map ObR.o = m.map ObR.o) := fun e => hnn (by have := congrArg List.length e; simp at this; omega)
    clear hA hB
    go_enter Try.func38, Try.ntmps38
    go_wp2
    go_ret
    exact ⟨⟨_, rfl, by simpa using unhide HLF⟩, Below.refl _ _⟩
  subst hnn
  have hs1 : n ≤ 140737488351232 := by omega
  have HA := hide hA
  have HB := hide hB
  clear hA hB hs
  go_enter Try.func38, Try.ntmps38
  go_wp2
  go_loopw [17] (fun i wr => ∃ k : Nat, k ≤ n ∧ i = .int .i64 k ∧ Below w.heap.size w wr ∧ Hid ((l.map ObR.o).take k = (m.map ObR.o).take k)) (fun i _ => n - (intOf i).toNat)
  case atStart => exact ⟨0, by omega, rfl, Below.refl _ _, rfl⟩
  case round =>
    obtain ⟨k, hk, rfl, hR, HT⟩ := hrel
    by_cases hlt : k < n
    · have hlt1 : (k : Int) < (n : Int) := by omega
      have hk0 : (0 : Int) ≤ (k : Int) := by omega
      obtain ⟨x, hx⟩ : ∃ x, l[k]? = some x := ⟨_, List.getElem?_eq_getElem (by omega)⟩
      obtain ⟨y, hy⟩ : ∃ y, m[k]? = some y := ⟨_, List.getElem?_eq_getElem (by omega)⟩
      have HXO := hide (map_get (f := ObR.o) hx)
      have HYO := hide (map_get (f := ObR.o) hy)
      obtain ⟨b1, o1, h1a, h1⟩ := memb_row (unhide HA) hx
      obtain ⟨b2, o2, h2a, h2⟩ := memb_row (unhide HB) hy
      simp only at h1a h2a
      subst h1a h2a
      have hwx := (unhide HA).each _ (List.mem_of_getElem? hx)
      have hwy := (unhide HB).each _ (List.mem_of_getElem? hy)
      obtain ⟨ty, ⟨xa, xn, xc⟩, ws⟩ := x
      obtain ⟨ty2, ⟨ya, yn, yc⟩, ws2⟩ := y
      have c0 : wr.cell? ⟨b1, o1 + k * 2, none⟩ = some (.string ⟨ty.toArray⟩) := (h1 hR).zero
      have c1 : wr.cell? ⟨b1, o1 + k * 2 + 1, none⟩ = some (.slice xa xn xc) := (h1 hR) 1 _ rfl
      obtain ⟨w2, hw2⟩ : ∃ w2, w2 = (wr.alloc (.cells #[.string ⟨ty.toArray⟩, .slice xa xn xc] 43)).alloc (.cells #[.string ⟨ty2.toArray⟩, .slice ya yn yc] 43) := ⟨_, rfl⟩
      have f2 : Below wr.heap.size wr w2 := by rw [hw2]; exact ((Below.refl _ _).alloc (Nat.le_refl _) _).alloc (by simp) _
      have d0 : (wr.alloc (.cells #[.string ⟨ty.toArray⟩, .slice xa xn xc] 43)).cell? ⟨b2, o2 + k * 2, none⟩ = some (.string ⟨ty2.toArray⟩) := (h2 (hR.trans (((Below.refl _ _).alloc (Nat.le_refl _) _).mono hR.size))).zero
      have d1 : (wr.alloc (.cells #[.string ⟨ty.toArray⟩, .slice xa xn xc] 43)).cell? ⟨b2, o2 + k * 2 + 1, none⟩ = some (.slice ya yn yc) := (h2 (hR.trans (((Below.refl _ _).alloc (Nat.le_refl _) _).mono hR.size))) 1 _ rfl
      have XT : Hid (Calls Try.prog 39 #[.agg #[.string ⟨ty.toArray⟩, .slice xa xn xc], .agg #[.string ⟨ty2.toArray⟩, .slice ya yn yc]] w2 fun e w' => e = .returned (.bool (decide (ty = ty2 ∧ ws = ws2))) ∧ Below w2.heap.size w2 w') := alike_any w2 ty ⟨xa, xn, xc⟩ ws ty2 ⟨ya, yn, yc⟩ ws2 (hwx.below (hR.trans (f2.mono hR.size))) (hwy.below (hR.trans (f2.mono hR.size)))
      have F2 := hide (hR.trans (f2.mono hR.size))
      have HNE : Hid (¬ (ty = ty2 ∧ ws = ws2) → ¬ l.map ObR.o = m.map ObR.o) := fun h e => h (by
        have h1 := unhide HXO
        rw [e, unhide HYO] at h1
        injection h1 with h1
        simp only [ObR.o, Ob.mk.injEq] at h1
        exact ⟨h1.1.symm, h1.2.symm⟩)
      have HNX : Hid (ty = ty2 ∧ ws = ws2 → (l.map ObR.o).take (k + 1) = (m.map ObR.o).take (k + 1)) := fun h => take_same (unhide HT) (unhide HXO) (unhide HYO) (by simp [ObR.o, h.1, h.2])
      have hb0 := stands2 (t := 43) wr (.string ⟨ty.toArray⟩) (.slice xa xn xc)
      have hx0 : w2.cell? ⟨wr.heap.size, 0, none⟩ = some (.string ⟨ty.toArray⟩) := by rw [hw2]; exact (hb0 _ ((Below.refl _ _).alloc (Nat.le_refl _) _)).1
      have hx1 : w2.cell? ⟨wr.heap.size, 1, none⟩ = some (.slice xa xn xc) := by rw [hw2]; exact (hb0 _ ((Below.refl _ _).alloc (Nat.le_refl _) _)).2
      have hb1 := stands2 (t := 43) (wr.alloc (.cells #[.string ⟨ty.toArray⟩, .slice xa xn xc] 43)) (.string ⟨ty2.toArray⟩) (.slice ya yn yc)
      have hsz1 : (wr.alloc (.cells #[.string ⟨ty.toArray⟩, .slice xa xn xc] 43)).heap.size = wr.heap.size + 1 := by simp
      rw [hsz1] at hb1
      have hy0 : w2.cell? ⟨wr.heap.size + 1, 0, none⟩ = some (.string ⟨ty2.toArray⟩) := by rw [hw2]; exact (hb1 _ (Below.refl _ _)).1
      have hy1 : w2.cell? ⟨wr.heap.size + 1, 1, none⟩ = some (.slice ya yn yc) := by rw [hw2]; exact (hb1 _ (Below.refl _ _)).2
      clear h1 h2 hx hy hR hwx hwy HXO HYO HT f2 hb0 hb1
      obtain ⟨dv, hdv⟩ : ∃ dv, dv = decide (ty = ty2 ∧ ws = ws2) := ⟨_, rfl⟩
      have HDV := hide hdv
      rw [← hdv] at XT
      clear hdv
      go_wp2_with (first | (rw [← hw2]) | fail)
      refine (unhide XT).mono ?_
      rintro e w3 ⟨rfl, f3⟩
      have F3 := hide ((unhide F2).trans (f3.mono (unhide F2).size))
      clear f3 hx0 hx1 hy0 hy1 c0 c1 d0 d1 hw2 XT
      cases dv with
      | true =>
        have HT2 := hide (unhide HNX (of_decide_eq_true (unhide HDV).symm))
        clear HNX HNE HDV
        go_wp2
        go_roundw
        case rel => exact ⟨k + 1, by omega, by go_num, unhide F3, HT2⟩
        case measure => simp [intOf]; omega
      | false =>
        have HLF := hide (unhide HNE (of_decide_eq_false (unhide HDV).symm))
        clear HNX HNE HDV
        go_wp2
        go_ret
        exact ⟨⟨_, rfl, by simpa using unhide HLF⟩, unhide F3⟩
    · obtain rfl : k = n := by omega
      have HR := hide hR
      have HE : Hid (l.map ObR.o = m.map ObR.o) := by
        have := unhide HT
        rwa [List.take_of_length_le (by rw [List.length_map]; omega), List.take_of_length_le (by rw [List.length_map]; omega)] at this
      clear hR
      go_wp2
      go_ret
      exact ⟨⟨_, rfl, by simpa using unhide HE⟩, unhide HR⟩
theorem small_own {W : World} {B : Nat} {v : Value} {dn : List ObR} (h : HOwn W B v dn) (h1 : dn.length ≤ 100000) (h2 : wordsH (dn.map ObR.o) ≤ 1000000) : ∃ s : Sl, v = s.v ∧ HIn W s dn := by
  obtain ⟨a, c, e, _⟩ := h.row.form
  subst e
  exact ⟨⟨a, dn.length, c⟩, rfl, HOwn.hin (s := ⟨a, dn.length, c⟩) h h1 h2⟩
theorem small_vals {W : World} {B : Nat} {v : Value} {us : List Vl} (h : Orw vlc 47 2 W B v us) (h1 : us.length * 16 ≤ 140737488351232) : ∃ s : Sl, v = s.v ∧ WsIn W s us := by
  obtain ⟨a, c, e, _⟩ := h.form
  subst e
  exact ⟨⟨a, us.length, c⟩, rfl, h.linR (s := ⟨a, us.length, c⟩) rkV (by omega) (fun _ _ => trivial)⟩
/-- A canon is small. -/
theorem canonO_len (l : List Ob) (roots : List Vl) : (canonO l roots).length ≤ l.length := by
  unfold canonO
  rw [List.length_map]
  exact (reach_in l roots).le
theorem canonV_len (l : List Ob) (roots : List Vl) : (canonV l roots).length = roots.length := by simp [canonV]
theorem sum_nodup : ∀ (l : List Ob) (q : List Nat), q.Nodup → (∀ n ∈ q, 1 ≤ n) → (q.map fun n => (wordsOf l n).length).sum ≤ wordsH l
  | [], q, _, _ => by
    have : ∀ q : List Nat, (q.map fun n => (wordsOf [] n).length).sum = 0 := by
      intro q
      induction q with
      | nil => rfl
      | cons x q ih => rw [List.map_cons, List.sum_cons, ih]; rfl
    rw [this]
    exact Nat.zero_le _
  | o :: l, q, hd, h1 => by
    have key : ∀ q : List Nat, q.Nodup → (∀ n ∈ q, 1 ≤ n) → (q.map fun n => (wordsOf (o :: l) n).length).sum ≤ o.ws.length + (((q.filter (fun n => decide (n ≠ 1))).map (· - 1)).map fun n => (wordsOf l n).length).sum := by
      intro q
      induction q with
      | nil => intro _ _; simp
      | cons x q ih =>
        intro hd h1
        have hd' := List.nodup_cons.1 hd
        have hi := ih hd'.2 (fun n hn => h1 n (List.mem_cons_of_mem _ hn))
        have hx := h1 x (List.mem_cons_self ..)
        by_cases e : x = 1
        · subst e
          have hf : q.filter (fun n => decide (n ≠ 1)) = q := List.filter_eq_self.2 (fun n hn => by
            have : n ≠ 1 := fun e => hd'.1 (e ▸ hn)
            simpa using this)
          have hnw : (q.map fun n => (wordsOf (o :: l) n).length) = ((q.map (· - 1)).map fun n => (wordsOf l n).length) := by
            rw [List.map_map]
            refine List.map_congr_left (fun n hn => ?_)
            have hn1 : n ≠ 1 := fun e => hd'.1 (e ▸ hn)
            have hn2 := h1 n (List.mem_cons_of_mem _ hn)
            obtain ⟨j, rfl⟩ : ∃ j, n = j + 2 := ⟨n - 2, by omega⟩
            rfl
          simp only [List.map_cons, List.sum_cons, List.filter_cons]
          rw [hnw]
          simp only [ne_eq, not_true_eq_false, decide_false, Bool.false_eq_true, if_false]
          rw [show List.filter (fun n => decide ¬n = 1) q = q from hf]
          have : (wordsOf (o :: l) 1).length = o.ws.length := rfl
          omega
        · obtain ⟨j, rfl⟩ : ∃ j, x = j + 2 := ⟨x - 2, by omega⟩
          have hp : decide (j + 2 ≠ 1) = true := by simp
          rw [List.filter_cons, if_pos hp]
          simp only [List.map_cons, List.sum_cons]
          have : (wordsOf (o :: l) (j + 2)).length = (wordsOf l (j + 2 - 1)).length := rfl
          omega
    have h2 := key q hd h1
    have h3 := sum_nodup l ((q.filter (fun n => decide (n ≠ 1))).map (· - 1)) (by
      have : (q.filter (fun n => decide (n ≠ 1))).Nodup := hd.filter _
      refine (List.pairwise_map.2 ?_)
      refine List.Pairwise.imp_of_mem ?_ this
      intro a b ha hb hab
      have ha := List.mem_filter.1 ha
      have hb := List.mem_filter.1 hb
      have := h1 a ha.1
      have := h1 b hb.1
      omega) (fun n hn => by
      obtain ⟨a, ha, rfl⟩ := List.mem_map.1 hn
      have ha := List.mem_filter.1 ha
      have := h1 a ha.1
      have h4 : a ≠ 1 := by simpa using ha.2
      omega)
    simp only [wordsH]
    omega
theorem canonO_words (l : List Ob) (roots : List Vl) : wordsH (canonO l roots) ≤ wordsH l := by
  have h1 : ∀ (q r : List Nat), wordsH (q.map (anewO l r)) = (q.map fun n => (wordsOf l n).length).sum := by
    intro q r
    induction q with
    | nil => rfl
    | cons x q ih =>
      simp only [List.map_cons, wordsH, List.sum_cons, ih]
      congr 1
      simp [anewO]
  unfold canonO
  rw [h1]
  exact sum_nodup l _ (reach_in l roots).1 (fun n hn => (liveN_le ((reach_in l roots).2 n hn)).1)
end Go.Proofs.Ytnnanlniffjnkaa
