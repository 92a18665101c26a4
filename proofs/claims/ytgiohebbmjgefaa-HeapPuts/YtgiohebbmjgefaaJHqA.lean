/- Layer 15, the document's side: Copy. -/
import Derived.Test.YtgiohebbmjgefaaJHpI
import Derived.Test.YtgiohebbmjgefaaJTxE

namespace Go.Proofs.Ytgiohebbmjgefaa
open Go.RowKit
set_option linter.unusedVariables false
set_option maxRecDepth 100000

theorem own_type {α : Type} {cs : α → List Value} {e : TypeId} {sz : Nat} {w : World} {B : Nat} {v : Value} {l : List α} (h : Orw cs e sz w B v l) {k : Nat} (hk : v.ownBlock = some k) : ∃ X, w.heap[k]? = some (.cells X e (0, 0)) := by
  rcases h.2 with ⟨hv, _⟩ | ⟨g, cap, cur, hv, hb, hh, _⟩
  · rw [hv] at hk; cases hk
  · rw [hv] at hk
    injection hk with hk
    subst hk
    exact ⟨cur, hh⟩
/-- An object is appended to a heap of one's own. -/
theorem HOwn.push {w W1 W2 : World} {B : Nat} {v v' : Value} {dn : List ObR} {y : ObR} (h : HOwn w B v dn) (f : Below w.heap.size w W1) (hb : B ≤ w.heap.size) (ho : Orw vlc 33 2 W1 w.heap.size y.s.v y.ws) (hr : Orw obc 29 2 W2 B v' (dn ++ [y])) (g : W1.grownBy W2 v.ownBlock) : HOwn W2 B v' (dn ++ [y]) := by
  have h1 := h.below f
  have keep : ∀ {B' : Nat} {s : Value} {ws : List Vl}, Orw vlc 33 2 W1 B' s ws → Orw vlc 33 2 W2 B' s ws := fun {B' s ws} o => o.keep fun k X _ hX => g.block k (lt_of_heap hX) fun e => by
    obtain ⟨Y, hY⟩ := own_type h1.row e.symm
    rw [hX] at hY
    injection hY with hY
    injection hY with _ hY
    cases hY
  refine ⟨hr, fun r hrm => ?_, ?_⟩
  · rcases List.mem_append.1 hrm with h2 | h2
    · exact keep (h1.each r h2)
    · simp at h2
      subst h2
      exact keep (ho.base hb)
  · rw [List.pairwise_append]
    refine ⟨h.apart, by simp, fun a ha b hbm i hi hj => ?_⟩
    simp at hbm
    subst hbm
    have q1 := ((h.each a ha).lt i hi).2
    have q2 := (ho.lt i hj).1
    omega
/-- Between two rounds of Copy. -/
structure Cp15 (w : World) (rs : List ObR) (k : Nat) (v : Value) (W : World) (dn : List ObR) : Prop where
  own : HOwn W w.heap.size v dn
  same : dn.map ObR.o = (rs.take k).map ObR.o
  bel : Below w.heap.size w W
set_option maxHeartbeats 1600000 in
theorem copy_any (w : World) (s : Sl) (rs : List ObR) (h : HIn w s rs) :
    Calls Try.prog 11 #[s.v] w fun e w' => ∃ (g c : Nat) (dn : List ObR), e = .returned (.slice (some ⟨g, 0, none⟩) s.n c) ∧ HOwn w' w.heap.size (.slice (some ⟨g, 0, none⟩) s.n c) dn ∧ dn.map ObR.o = rs.map ObR.o ∧ Below w.heap.size w w' := by
  obtain ⟨a, n, c⟩ := s
  have hln := h.ls.1
  have hsm := h.small
  simp only at hln hsm
  have HI := hide h
  have H0 : Hid (Cp15 w rs 0 (.slice (some ⟨w.heap.size, 0, none⟩) 0 0) (w.alloc (.cells #[] 29)) []) := ⟨⟨Orw.made _ _ _ w _ (Nat.le_refl _), (fun r hr => by simp at hr), List.Pairwise.nil⟩, rfl, (Below.refl _ _).alloc (Nat.le_refl _) _⟩
  clear h
  unfold Sl.v at *
  simp only
  go_enter Try.func11, Try.ntmps11
  go_wp2
  go_loopw [3, 4] (fun v i wr => ∃ k : Nat, k ≤ n ∧ i = .int .i64 k ∧ ∃ (g c' : Nat) (dn : List ObR), v = .slice (some ⟨g, 0, none⟩) k c' ∧ Cp15 w rs k v wr dn) (fun v i _ => n - (intOf i).toNat)
  case atStart => exact ⟨0, by omega, rfl, w.heap.size, 0, [], rfl, unhide H0⟩
  case round =>
    obtain ⟨k, hk, rfl, g, c', dn, rfl, hT⟩ := hrel
    by_cases hlt : k < n
    · have hlt1 : (k : Int) < (n : Int) := by omega
      have hk0 : (0 : Int) ≤ (k : Int) := by omega
      obtain ⟨x, hx⟩ : ∃ x, rs[k]? = some x := ⟨_, List.getElem?_eq_getElem (by omega)⟩
      obtain ⟨b, o, ea, q⟩ := memb_row (unhide HI) hx
      simp only at ea
      subst ea
      have hwx := (unhide HI).each _ (List.mem_of_getElem? hx)
      obtain ⟨ty, ⟨sa, sn, sc⟩, ws⟩ := x
      have KC : Hid (∀ W, Below w.heap.size w W → W.cell? ⟨b, o + k * 2, none⟩ = some (.string ⟨ty.toArray⟩) ∧ W.cell? ⟨b, o + k * 2 + 1, none⟩ = some (.slice sa sn sc)) := fun W f => ⟨(q f).zero, (q f) 1 _ rfl⟩
      have HW := hide hwx
      have hwn := hwx.ls.1
      have hwsm := hwx.small
      simp only at hwn hwsm
      have HX := hide hx
      have HT := hide hT
      have hB := hT.bel
      have HB := hide hB
      clear q hx hT hwx hB
      go_wp2
      refine wp_region_txtn (fun W => Below w.heap.size w W) [6, 12, 14, 15] [0, 1, 2, 3, 4, 5, 7, 8, 9, 10, 11, 6, 12, 13, 14, 15] 16 (by rfl) (by kernel_rfl) (by kernel_rfl) ((unhide HB).drew) ?_
      simp only [List.take_succ_cons, List.take_zero]
      repeat (first
        | (refine Txt.reads (v := ?_) (by rfl) (by rfl) (by rfl) ?_ ?_; rotate_left; (focus ((intro W hSW; obtain ⟨c0, c1⟩ := unhide KC W hSW; go_simp) <;> with_reducible rfl)); simp only [Act.put, List.setIfInBounds_toArray, List.set_cons_zero, List.set_cons_succ]))
      refine Txt.acts (by rfl) (by rfl) (by rfl) (fun K hK => ?_)
      go_simp
      obtain ⟨w1, hw1⟩ : ∃ w1, w1 = (wr.alloc (.cells #[] 33)).drew := ⟨_, rfl⟩
      have f1 : Below wr.heap.size wr w1 := by rw [hw1]; exact ((Below.refl _ _).alloc (Nat.le_refl _) _).drew
      have o1 : Orw vlc 33 2 w1 wr.heap.size (.slice (some ⟨wr.heap.size, 0, none⟩) 0 0) [] := by
        rw [hw1]
        exact (Orw.made vlc 33 2 wr wr.heap.size (Nat.le_refl _)).below fun _ _ => rfl
      have b1 := (unhide HB).trans (f1.mono (unhide HB).size)
      rw [← hw1]
      clear hw1
      refine hK.out _ _ b1 ?_
      clear hK
      refine Txt.acts (by rfl) (by rfl) (by rfl) (fun K hK => ?_)
      have hw := (unhide HW).below b1
      refine wpR_append rkV (.tmp 18) (.tmp 23) rfl wr.heap.size _ [] (by rfl) o1 sa sn sc ws (by rfl) hw.ls hw.nil (by simp; omega) (by simp; omega) f1.size ?_
      intro v2 w2 o2 g2
      rw [List.nil_append] at o2
      have f2 : Below wr.heap.size wr w2 := f1.grown g2 f1.size (fun q hq => (o1.lt q hq).1)
      have b2 := (unhide HB).trans (f2.mono (unhide HB).size)
      obtain ⟨a2, c2, rfl, _⟩ := o2.form
      rw [hwn] at o2 ⊢
      refine hK.out _ _ b2 ?_
      clear hK o1 f1 g2 b1 hw
      have O2 := hide o2
      have F2 := hide f2
      have B2 := hide b2
      clear o2 f2 b2
      repeat (first
        | (refine Txt.reads (v := ?_) (by rfl) (by rfl) (by rfl) ?_ ?_; rotate_left; (focus ((intro W hSW; go_simp) <;> with_reducible rfl)); simp only [Act.put, List.setIfInBounds_toArray, List.set_cons_zero, List.set_cons_succ]))
      refine Txt.acts (by rfl) (by rfl) (by rfl) (fun K hK => ?_)
      go_simp
      obtain ⟨w3, hw3⟩ : ∃ w3, w3 = w2.alloc (.cells #[.string ⟨ty.toArray⟩, .slice a2 sn c2] 29) := ⟨_, rfl⟩
      have f3 : Below w2.heap.size w2 w3 := by rw [hw3]; exact (Below.refl _ _).alloc (Nat.le_refl _) _
      have l3 : Ls 2 obc w3 (some ⟨w2.heap.size, 0, none⟩) 1 [⟨ty, ⟨a2, sn, c2⟩, ws⟩] := by rw [hw3]; exact ls_one (cs := obc) (sz := 2) w2 _ _ (ObR.mk ty ⟨a2, sn, c2⟩ ws) rfl
      have b3 := (unhide B2).trans (f3.mono (unhide B2).size)
      rw [← hw3]
      clear hw3
      refine hK.out _ _ b3 ?_
      clear hK
      refine Txt.acts (by rfl) (by rfl) (by rfl) (fun K hK => ?_)
      have f13 := (unhide F2).trans (f3.mono (unhide F2).size)
      have hrow := orw_on (unhide HT).own.row f13
      have hdl : dn.length = k := by obtain ⟨_, _, e', _⟩ := hrow.form; injection e' with _ e2 _; exact e2.symm
      refine wpR_append rkO (.tmp 12) (.tmp 26) rfl w.heap.size _ dn (by rfl) hrow (some ⟨w2.heap.size, 0, none⟩) 1 1 [⟨ty, ⟨a2, sn, c2⟩, ws⟩] (by rfl) l3 (fun e => by cases e) (by omega) (by omega) b3.size ?_
      intro v4 w4 o4 g4
      have b4 : Below w.heap.size w w4 := b3.grown g4 b3.size (fun q hq => (hrow.lt q hq).1)
      have hown := (unhide HT).own.push (y := ⟨ty, ⟨a2, sn, c2⟩, ws⟩) f13 (unhide HB).size (orw_on (unhide O2) f3) o4 g4
      obtain ⟨a4, c4, rfl, _⟩ := o4.form
      have hl4 : (dn ++ [(⟨ty, ⟨a2, sn, c2⟩, ws⟩ : ObR)]).length = k + 1 := by rw [List.length_append, hdl]; rfl
      rw [hl4] at o4 hown ⊢
      obtain ⟨g5, _, rfl, _⟩ := o4.blkR rkO.len (by omega)
      have hcp : Cp15 w rs (k + 1) (.slice (some ⟨g5, 0, none⟩) (k + 1) c4) w4 (dn ++ [⟨ty, ⟨a2, sn, c2⟩, ws⟩]) := by
        refine ⟨hown, ?_, b4⟩
        rw [List.map_append, (unhide HT).same, List.take_add_one, unhide HX, List.map_append]
        rfl
      refine hK.out _ _ b4 ?_
      have HCP := hide hcp
      clear hK o4 g4 b4 hown hcp hrow f13 f3 l3 b3 hl4 hdl O2 F2 B2 HT HX KC HW HB
      refine Txt.done (thenLast_n (by rfl) (by rfl) (by rfl) (fun KK hKK => ?_))
      go_simp
      refine hKK.out _ _ ?_
      clear hKK
      go_wp2
      go_roundw
      case rel => exact ⟨k + 1, by omega, by simp, g5, c4, _, by simp, by simpa using unhide HCP⟩
      case measure => simp [intOf]; omega
    · obtain rfl : k = n := by omega
      have HT := hide hT
      clear hT
      go_wp2
      go_ret
      have t := unhide HT
      refine ⟨g, c', dn, rfl, t.own, ?_, t.bel⟩
      rw [t.same, List.take_of_length_le (by omega)]
end Go.Proofs.Ytgiohebbmjgefaa
