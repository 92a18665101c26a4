/- Layer 16, the landed gc: from. -/
import Derived.Test.YtnnanlniffjnkaaJUaD
import Derived.Test.YtnnanlniffjnkaaJX6
import Derived.Test.YtnnanlniffjnkaaJY1

namespace Go.Proofs.Ytnnanlniffjnkaa
open Go.RowKit Go.Maps Go.Shelf
set_option linter.unusedVariables false
set_option maxRecDepth 100000
attribute [local go_sem] Oper.semAt_some

variable {B p m : Nat} {s : Sl}
theorem put_oth {W : World} {l k : Nat} {o o' o2 : Obj} (hl : W.heap[l]? = some o) (ho : o.isCells = false) (hk : W.heap[k]? = some o2) (h2 : o2.isCells = true) : (W.putObj l o').heap[k]? = some o2 := by
  refine (World.putObj_heap_other (fun e => ?_)).trans hk
  subst e
  rw [hk] at hl
  injection hl with hl
  rw [hl, ho] at h2
  cases h2
theorem wq_below {w0 w W : World} {l : List Ob} {q : List Nat} (h : Wq w0 B p m s l q w) (f : Below w.heap.size w W) : Wq w0 B p m s l q W := by
  obtain ⟨h1, h2, v, N, D, h3⟩ := h
  exact ⟨h1, h2.trans (f.mono h2.size), v, N, D, h3.below f⟩
theorem kq_below {w0 : World} {rs : List ObR} {W W' : World} (f : Below W.heap.size W W') : KQ w0 B p m s rs W W' := fun q hq => ⟨q, wq_below hq f, Nat.le_refl _⟩
theorem kq_put {w0 w : World} {rs : List ObR} (hm : m < w.heap.size) (h0 : w0.heap.size ≤ w.heap.size) (W : World) (k : Nat) (o o' : Obj) (hk : w.heap.size ≤ k) (ho : W.heap[k]? = some o) (hc : o.isCells = false) : KQ w0 B p m s rs W (W.putObj k o') :=
  fun q hq => ⟨q, wq_put hm h0 W k o o' hq hk ho hc, Nat.le_refl _⟩
theorem eq_put {w0 w : World} {rs : List ObR} (hm : m < w.heap.size) (h0 : w0.heap.size ≤ w.heap.size) (pre : List (Nat × ObR)) (x : Nat × ObR) : Put0 w.heap.size (EQ w0 B p m s rs pre x) := fun A i o o' h hi hio ho => by
  obtain ⟨q, h1, h2, h3⟩ := h
  exact ⟨q, wq_put hm h0 A i o o' h1 hi hio ho, h2, h3⟩
theorem eq_below {w0 : World} {rs : List ObR} {pre : List (Nat × ObR)} {x : Nat × ObR} {W W' : World} (h : EQ w0 B p m s rs pre x W) (f : Below W.heap.size W W') : EQ w0 B p m s rs pre x W' := by
  obtain ⟨q, h1, h2, h3⟩ := h
  exact ⟨q, wq_below h1 f, h2, h3⟩
theorem sq_put {w0 w : World} {rs : List ObR} (hm : m < w.heap.size) (h0 : w0.heap.size ≤ w.heap.size) (xs : List (Nat × ObR)) : Put0 w.heap.size (SQ w0 B p m s rs xs) := fun A i o o' h hi hio ho => by
  obtain ⟨q, h1, h2⟩ := h
  exact ⟨q, wq_put hm h0 A i o o' h1 hi hio ho, h2⟩
theorem members_iter (n : Nat) (hn : 1 ≤ n) (w0 w : World) (rs : List ObR) (h : HIn w0 s rs) (hrl : rs.length ≤ 100000) (q0 : List Nat) (hq : Wq w0 B p m s (rs.map ObR.o) q0 w) :
    IterW Fence.wide n Try.prog 31 #[] mEnc (fun A C => A = C) (KQ w0 B p m s rs) (EQ w0 B p m s rs) (SQ w0 B p m s rs) (fun _ _ => True) #[.pointer (some ⟨p, 0, none⟩)] w := fun l J Jx W hW hJ _ hY h0 =>
  members_in n l hn w0 W rs h hrl J Jx hY q0 (wq_below hq hW) h0
/-- A variable that holds a pointer. -/
def Pt (W : World) (b : Nat) (p : Nat) : Prop := W.heap[b]? = some (.cells #[.pointer (some ⟨p, 0, none⟩)] 54 (0, 0))
theorem Pt.cell {W : World} {b p : Nat} (h : Pt W b p) : W.cell? ⟨b, 0, none⟩ = some (.pointer (some ⟨p, 0, none⟩)) := bx_cell h 0 _ rfl
theorem Pt.below {W W' : World} {b p : Nat} (h : Pt W b p) (f : Below W.heap.size W W') : Pt W' b p := (f.block b (lt_of_heap h)).trans h
theorem Pt.gq {W W' : World} {b p : Nat} (h : Pt W b p) (f : GQ m B W W') : Pt W' b p := f.2 b _ h ⟨(fun X fr e => by injection e with _ e; cases e), (fun X fr e => by injection e with _ e; cases e), (fun es c e => by cases e)⟩
/-- Between two rounds of from. -/
def FrI (w0 : World) (B p m : Nat) (s : Sl) (l : List Ob) (roots : List Vl) (b : Nat) (pre : List (Nat × ObR)) (W : World) : Prop := Wq w0 B p m s l (rounds l roots pre.length) W ∧ Pt W b p
theorem fri_stays {w0 w : World} {l : List Ob} {roots : List Vl} {b : Nat} (hm : m < w.heap.size) (h0 : w0.heap.size ≤ w.heap.size) (hb : b < w.heap.size) : Stays (α := Nat × ObR) w.heap.size (fun A C => A = C) (FrI w0 B p m s l roots b) :=
  ⟨fun s A C h e => e ▸ h, fun s A k o o' h hk hio ho => ⟨wq_put hm h0 A k o o' h.1 hk hio ho, (World.putObj_heap_other (by omega)).trans h.2⟩, fun s A o h => ⟨wq_below h.1 ((Below.refl _ _).alloc (Nat.le_refl _) _), h.2.below ((Below.refl _ _).alloc (Nat.le_refl _) _)⟩⟩
theorem from_ends {w0 : World} {roots : List Vl} {rs : List ObR} {b : Nat} {xs : List (Nat × ObR)} {W : World} (hS : SQ w0 B p m s rs xs W) (hI : FrI w0 B p m s (rs.map ObR.o) roots b xs W) : Wq w0 B p m s (rs.map ObR.o) (reachH (rs.map ObR.o) roots) W := by
  obtain ⟨q, h1, h2⟩ := hS
  have e := wq_uniq h1 hI.1
  subst e
  rw [← rounds_end h2]
  exact h1
theorem from_next {w0 : World} {roots : List Vl} {rs : List ObR} {b : Nat} {pre : List (Nat × ObR)} {x : Nat × ObR} {W : World} (hE : EQ w0 B p m s rs pre x W) (hI : FrI w0 B p m s (rs.map ObR.o) roots b pre W) : (∃ j, x.1 = j + 1 ∧ rs[j]? = some x.2) ∧ rounds (rs.map ObR.o) roots (pre.length + 1) = moreQ (rs.map ObR.o) (rounds (rs.map ObR.o) roots pre.length) x.2.ws := by
  obtain ⟨q, h1, h2, h3⟩ := hE
  have e := wq_uniq h1 hI.1
  subst e
  have hl := (liveN_le (h1.1.2 _ (List.mem_of_getElem? h2))).1
  refine ⟨⟨x.1 - 1, by omega, h3⟩, ?_⟩
  rw [rounds_next h2]
  congr 1
  unfold wordsOf
  rw [map_get (f := ObR.o) h3]
  rfl
theorem gq_keeps {B0 : Nat} {W W' : World} (h : GQ m B W W') (hm : m < B0) : KeepsFrom B0 W W' := ⟨h.1.size, fun k o hk ho hc => h.2 k o ho ⟨(fun X fr e => by rw [e] at hc; cases hc), (fun X fr e => by rw [e] at hc; cases hc), (fun es c e => by omega)⟩⟩
set_option maxHeartbeats 1600000 in
theorem from_any (w : World) (rs : List ObR) (h : HIn w s rs) (t : Sl) (vs : List Vl) (hv : WsIn w t vs) :
    Calls Try.prog 28 #[s.v, t.v] w fun e w' => Below w.heap.size w w' ∧ ((checkE (rs.map ObR.o) ≠ 0 ∧ e = .returned (.tuple #[.pointer none, .int .i64 (checkE (rs.map ObR.o))])) ∨
      (checkE (rs.map ObR.o) = 0 ∧ ∃ p m, e = .returned (.tuple #[.pointer (some ⟨p, 0, none⟩), .int .i64 0]) ∧ Wq w w.heap.size p m s (rs.map ObR.o) (reachH (rs.map ObR.o) vs) w')) := by
  refine (callsIn_wide (n := 6)).1 ?_
  refine callsIn_of_wp_marks Try.func28 rfl trivial ?_ rfl
  simp only [Try.ntmps28, List.size_toArray, List.length_cons, List.length_nil, Nat.reduceAdd, Nat.reduceSub, Array.replicate_succ, Array.replicate_zero, List.push_toArray, List.append_toArray, List.nil_append, List.cons_append]
  have HC := hide (check_any w s rs h)
  have HI := hide h
  have HV := hide hv
  have hmm := @run_makeMap Try.prog
  obtain ⟨sa, sn, sc⟩ := s
  obtain ⟨ta, tn, tc⟩ := t
  simp only [Sl.v] at HC ⊢
  obtain ⟨ce, hce⟩ : ∃ ce, ce = checkE (rs.map ObR.o) := ⟨_, rfl⟩
  have HCE := hide hce
  rw [← hce] at HC ⊢
  clear hce h hv
  gi_wp2_with fail
  refine ⟨trivial, (callsIn_wide.2 (unhide HC)).mono ?_⟩
  rintro e w1 ⟨rfl, f1⟩
  have F1 := hide f1
  clear f1 HC
  by_cases h0 : ce = 0
  case neg =>
    have h1 : (ce == 0) = false := by simpa using h0
    gi_wp2
    exact ⟨_, results_tmp2 rfl _ _ _, unhide F1, .inl ⟨h0, rfl⟩⟩
  case pos =>
    subst h0
    have hck := check_len (l := rs.map ObR.o) (by
      have h1 := unhide HCE
      unfold checkE at h1
      by_cases hh : checkH (rs.map ObR.o) = true
      · exact hh
      · simp [hh] at h1)
    rw [List.length_map] at hck
    have hrl : rs.length ≤ 100000 := by omega
    obtain ⟨w2, hw2⟩ : ∃ w2, w2 = (((w1.alloc (.map #[] 0)).alloc (.cells #[.slice sa sn sc, .slice none 0 0, .map (some w1.heap.size)] 59)).alloc (.cells #[.pointer (some ⟨w1.heap.size + 1, 0, none⟩)] 54)) := ⟨_, rfl⟩
    have b2 : Below w1.heap.size w1 w2 := by
      rw [hw2]
      exact (((Below.refl _ _).alloc (Nat.le_refl _) _).alloc (by simp) _).alloc (by simp; omega) _
    have f2 := (unhide F1).trans (b2.mono (unhide F1).size)
    have hs1 := (unhide F1).size
    have hsz2 : w2.heap.size = w1.heap.size + 3 := by rw [hw2]; simp
    have hW2 : Wa w.heap.size (w1.heap.size + 1) w1.heap.size ⟨sa, sn, sc⟩ (.slice none 0 0) 0 (.map []) [] w2 := by
      refine ⟨by omega, hs1, ?_, Orw.nil _ _ _ _ _, ?_, by simp, px_nil⟩
      · rw [hw2]
        have := heap_alloc_last (w1.alloc (.map #[] 0)) (.cells #[.slice sa sn sc, .slice none 0 0, .map (some w1.heap.size)] 59)
        rw [show (w1.alloc (.map #[] 0)).heap.size = w1.heap.size + 1 by simp] at this
        exact (heap_alloc_old _ _ (by simp)).trans this
      · rw [hw2]
        have := World.ownsMap_made (H := Unit) w1 Try.prog 3 (plainElem Try.prog 3)
        exact map_keep this ((heap_alloc_old _ _ (by simp; omega)).trans (heap_alloc_old _ _ (by simp)))
    have hP2 : Pt w2 (w1.heap.size + 1 + 1) (w1.heap.size + 1) := by
      rw [hw2]
      have := heap_alloc_last ((w1.alloc (.map #[] 0)).alloc (.cells #[.slice sa sn sc, .slice none 0 0, .map (some w1.heap.size)] 59)) (.cells #[.pointer (some ⟨w1.heap.size + 1, 0, none⟩)] 54)
      rw [show ((w1.alloc (.map #[] 0)).alloc (.cells #[.slice sa sn sc, .slice none 0 0, .map (some w1.heap.size)] 59)).heap.size = w1.heap.size + 1 + 1 by simp] at this
      exact this
    have HM := hide (meet_any w w2 rs (unhide HI) f2 (Nat.le_refl _) (by omega) hrl hW2 (InQ.nil _) ⟨ta, tn, tc⟩ vs (unhide HV))
    have HP2 := hide hP2
    have F2 := hide f2
    simp only [Sl.v] at HM
    gi_wp2_with fail
    rw [← hw2]
    clear hw2 b2 hW2 hP2 f2
    refine ⟨trivial, (callsIn_wide.2 (unhide HM)).mono ?_⟩
    rintro e w3 ⟨⟨v3, rfl⟩, v', N', D', hW3, hg3⟩
    have hP3 := (unhide HP2).gq hg3
    have hf3 := (unhide F2).trans hg3.1
    have hin3 : InQ (rs.map ObR.o) (moreQ (rs.map ObR.o) [] vs) := (InQ.nil _).more _
    have hQ3 : Wq w w.heap.size (w1.heap.size + 1) w1.heap.size ⟨sa, sn, sc⟩ (rs.map ObR.o) (rounds (rs.map ObR.o) vs 0) w3 := ⟨hin3, hf3, v', N', D', hW3⟩
    have hc3 := hP3.cell
    have HQ3 := hide hQ3
    have HP3 := hide hP3
    have F3 := hide hf3
    have hsz3 : w1.heap.size + 3 ≤ w3.heap.size := by have := hg3.1.size; omega
    clear hW3 hg3 hin3 hQ3 hP3 hf3 HM HP2 F2
    have hbl : w1.heap.size + 1 + 1 < w3.heap.size := by omega
    have hml : w1.heap.size < w3.heap.size := by omega
    generalize w1.heap.size + 1 + 1 = b at *
    generalize w1.heap.size + 1 = P at *
    clear hsz2 hsz3
    gi_wp2
    have HSQ := hide (members_iter 5 (by omega) w w3 rs (unhide HI) hrl _ (unhide HQ3))
    have hw3 := (unhide F3).size
    clear hc3
    refine range_overW (α := Nat × ObR) (encs := mEnc) (G := fun A C => A = C) (Kp := KQ w w.heap.size P w1.heap.size ⟨sa, sn, sc⟩ rs) (E := EQ w w.heap.size P w1.heap.size ⟨sa, sn, sc⟩ rs) (S := SQ w w.heap.size P w1.heap.size ⟨sa, sn, sc⟩ rs) (Sp := fun _ _ => True) rfl (by omega) (gf := 31) (fb := #[.pointer (some ⟨P, 0, none⟩)]) (lb := #[]) rfl trivial (enters_of Try.func31 (by kernel_rfl) rfl) (fun _ => rfl) (eq_put hml hw3) (sq_put hml hw3) (fun _ _ _ _ _ _ _ _ _ => trivial) (fun A C k o e h _ => e ▸ h) kq_trans (fun W k o o' hk ho hc => kq_put hml hw3 W k o o' hk ho hc) (unhide HSQ)
      (FrI w w.heap.size P w1.heap.size ⟨sa, sn, sc⟩ (rs.map ObR.o) vs b) (fun _ _ _ => False) (fri_stays hml hw3 hbl) (fun _ => ⟨fun _ _ _ h _ => h, fun _ _ _ _ _ h _ _ _ => h, fun _ _ _ h => h⟩) ⟨unhide HQ3, unhide HP3⟩
      (fun x _ a1 W => ∃ k, a1 = { tmps := #[.slice sa sn sc, .slice ta tn tc, undef, undef, .pointer none, .int .i64 0, .int .i64 0, .pointer (some ⟨b, 0, none⟩), undef, .pointer (some ⟨k, 0, none⟩), .slice sa sn sc, .int .i64 0, .int .i64 0, .bool false, undef, .slice sa sn sc, .map (some w1.heap.size), .agg #[.slice sa sn sc, .slice none 0 0, .map (some w1.heap.size)], .pointer (some ⟨P, 0, none⟩), .pointer (some ⟨P, 0, none⟩), .slice ta tn tc, v3, .pointer (some ⟨P, 0, none⟩), .func (.func 31) #[.pointer (some ⟨P, 0, none⟩)] #[], .int .i64 (x.1 : Int), .agg #[.string ⟨x.2.ty.toArray⟩, x.2.s.v], undef, undef, undef, undef, undef], defers := [] } ∧ W.heap[k]? = some (.cells #[.string ⟨x.2.ty.toArray⟩, x.2.s.v] 43 (0, 0)))
      ?hC ?hIb (fun _ _ _ _ h f => eq_below h f) (fun _ _ f => kq_below f) ?assign ?body ?done ?stop
    case hC =>
      rintro x _ a1 A k o o' ⟨j, h1, h2⟩ hk ho hc
      exact ⟨j, h1, put_oth ho hc h2 rfl⟩
    case hIb => exact fun pre W W1 h f => ⟨wq_below h.1 f, h.2.below f⟩
    case assign =>
      rintro lp ⟨xn, ty, ⟨ra, rn, rc⟩, ws⟩ W K hK
      simp only [mEnc, Sl.v]
      gi_wp2
      exact hK _ _ ((Below.refl _ _).alloc (Nat.le_refl _) _) ⟨_, rfl, heap_alloc_last _ _⟩
    case body =>
      rintro lp pre ⟨xn, ty, ⟨ra, rn, rc⟩, ws⟩ W0 W a1 hI0 hKP hI hE ⟨k, rfl, hk⟩
      clear hI0 hKP
      obtain ⟨⟨j, hj, hr⟩, hn⟩ := from_next hE hI
      obtain rfl : xn = j + 1 := hj
      obtain ⟨⟨hin, hbw, v5, N5, D5, hW5⟩, hP5⟩ := hI
      have hsz5 : w.heap.size ≤ W.heap.size := hbw.size
      have HM := hide (meet_any w W rs (unhide HI) hbw (Nat.le_refl _) hsz5 hrl hW5 hin ⟨ra, rn, rc⟩ ws ((unhide HI).each _ (List.mem_of_getElem? hr)))
      have cp := hP5.cell
      have c1 := bx_cell hk 1 _ rfl
      have HW5 : Hid (Wq w w.heap.size P w1.heap.size ⟨sa, sn, sc⟩ (rs.map ObR.o) (rounds (rs.map ObR.o) vs pre.length) W) := ⟨hin, hbw, _, _, _, hW5⟩
      have HP5 := hide hP5
      have HN := hide hn
      simp only [Sl.v] at HM c1 ⊢
      clear hn hin hbw hW5 hP5 hE hk hr HSQ
      gi_wp2_with fail
      refine ⟨trivial, (CallsIn.inRound lp (callsIn_wide.2 (unhide HM))).mono ?_⟩
      rintro e W6 ⟨⟨v6, rfl⟩, v7, N7, D7, hW7, hg7⟩
      have h7 : Wq w w.heap.size P w1.heap.size ⟨sa, sn, sc⟩ (rs.map ObR.o) (moreQ (rs.map ObR.o) (rounds (rs.map ObR.o) vs pre.length) ws) W6 := ⟨(unhide HW5).1.more _, (unhide HW5).2.1.trans (hg7.1.mono (Nat.le_refl _)), _, _, _, hW7⟩
      have hK7 : KQ w w.heap.size P w1.heap.size ⟨sa, sn, sc⟩ rs W W6 := fun q hq => by
        have e := wq_uniq hq (unhide HW5)
        subst e
        exact ⟨_, h7, (moreQ_pre _ _ _).length_le⟩
      have hF7 : FrI w w.heap.size P w1.heap.size ⟨sa, sn, sc⟩ (rs.map ObR.o) vs b (pre ++ [((j + 1 : Nat), (⟨ty, ⟨ra, rn, rc⟩, ws⟩ : ObR))]) W6 := by
        refine ⟨?_, (unhide HP5).gq hg7⟩
        rw [List.length_append]
        show Wq _ _ _ _ _ _ (rounds _ _ (pre.length + 1)) _
        rw [unhide HN]
        exact h7
      have hk7 := gq_keeps hg7 hml
      have R7 : Hid (KeepsFrom w3.heap.size W W6 ∧ KQ w w.heap.size P w1.heap.size ⟨sa, sn, sc⟩ rs W W6 ∧ FrI w w.heap.size P w1.heap.size ⟨sa, sn, sc⟩ (rs.map ObR.o) vs b (pre ++ [((j + 1 : Nat), (⟨ty, ⟨ra, rn, rc⟩, ws⟩ : ObR))]) W6) := ⟨hk7, hK7, hF7⟩
      clear hW7 hg7 h7 hK7 hF7 hk7 HM HN HW5 HP5 cp c1
      gi_wp2
      exact unhide R7
    case done =>
      rintro D xs W hD hS hI hK
      have cp := hI.2.cell
      have hE := hide (wq_put hml hw3 W D _ (.deferred none) (from_ends hS hI) hD hK rfl)
      clear hS hI HSQ
      gi_wp2
      refine ⟨by simp, .inl ⟨_, _, rfl, run_takeDeferred hK, ?_⟩⟩
      exact ⟨_, results_tmp2 rfl _ _ _, (unhide hE).2.1, _, rfl, _, unhide hE⟩
    case stop =>
      rintro D c pre W _ _ h _
      exact h.elim
end Go.Proofs.Ytnnanlniffjnkaa
