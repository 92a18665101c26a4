/- Layer 15, the landed code: Array (written by mk/mkhqi.py). -/
import Derived.Test.YtgiohebbmjgefaaJHqH
import Derived.Test.YtgiohebbmjgefaaJHqA
import Derived.Test.YtgiohebbmjgefaaJTxC

namespace Go.Proofs.Ytgiohebbmjgefaa
open Go.RowKit
set_option linter.unusedVariables false
set_option maxRecDepth 100000

/-- Between two rounds of Array. -/
structure Ai15 (w : World) (s0 : Value) (g X N : Nat) (z : Vl) (k : Nat) (W : World) : Prop where
  row : Orw vlc 33 2 W (w.heap.size + 1) (.slice (some ⟨g, 0, none⟩) N N) (List.replicate k z ++ List.replicate (N - k) vl0)
  x : W.heap[X]? = some (.cells #[s0, .slice (some ⟨g, 0, none⟩) N N] 29 (0, 0))
  r : W.heap[w.heap.size]? = some (.cells #[.string ⟨#[]⟩, .slice none 0 0] 29 (0, 0))
  bel : Below w.heap.size w W
theorem Ai15.next {w W W1 : World} {s0 : Value} {g X N : Nat} {z : Vl} {k : Nat} (h : Ai15 w s0 g X N z k W) (hk : k < N) (f : Below W.heap.size W W1) : Ai15 w s0 g X N z (k + 1) (W1.setCells g (k * 2) (vlc z)) := by
  have r1 := orw_on h.row f
  obtain ⟨Y, hY⟩ := own_type r1 (k := g) rfl
  have ne : ∀ {p : Nat} {X' : Array Value}, W1.heap[p]? = some (.cells X' 29 (0, 0)) → p ≠ g := fun {p X'} hp e => by
    rw [e, hY] at hp
    injection hp with hp
    injection hp with _ hp
    cases hp
  have x1 := (f.block _ (lt_of_heap h.x)).trans h.x
  have q1 := (f.block _ (lt_of_heap h.r)).trans h.r
  refine ⟨?_, (heap_cells_other g _ _ _ _ (ne x1)).trans x1, (heap_cells_other g _ _ _ _ (ne q1)).trans q1, below_cells _ _ (h.bel.trans (f.mono h.bel.size)) (by have := (h.row.lt g rfl).1; omega)⟩
  have := r1.setR rkV.len hk z
  have e : (List.replicate k z ++ List.replicate (N - k) vl0).set k z = List.replicate (k + 1) z ++ List.replicate (N - (k + 1)) vl0 := by
    rw [List.set_append_right _ _ (by simp), List.length_replicate, Nat.sub_self, show N - k = (N - (k + 1)) + 1 by omega, List.replicate_succ, List.set_cons_zero, List.replicate_succ']
    simp
  rw [e] at this
  exact this
set_option maxHeartbeats 3200000 in
theorem array_any (w : World) (t : List UInt8) (n : Int) (hn : fitI n) :
    Calls Try.prog 26 #[.string ⟨t.toArray⟩, .int .i64 n] w (arrPost w t n) := by
  have hl := ty_nil t
  have HZ := hide (fun W => zero_any W t)
  obtain ⟨w0, e0, f0, r0⟩ : ∃ w0, w.alloc (.cells #[.string ⟨#[]⟩, .slice none 0 0] 29) = w0 ∧ Below w.heap.size w w0 ∧ w0.heap[w.heap.size]? = some (.cells #[.string ⟨#[]⟩, .slice none 0 0] 29 (0, 0)) := ⟨_, rfl, (Below.refl _ _).alloc (Nat.le_refl _) _, heap_alloc_last _ _⟩
  have z0 := bx_thaw r0 0
  have z1 := bx_thaw r0 1
  have k0 := bx_cell r0 0 _ rfl
  have k1 := bx_cell r0 1 _ rfl
  have hs0 : w0.heap.size = w.heap.size + 1 := by rw [← e0]; simp
  have HS0 := hide (And.intro f0 (And.intro r0 hs0))
  have END : Hid (∀ x y : Value, ((w0.setCell ⟨w.heap.size, 0, none⟩ x).setCell ⟨w.heap.size, 1, none⟩ y).heap[w.heap.size]? = some (.cells #[x, y] 29 (0, 0)) ∧ Below w.heap.size w ((w0.setCell ⟨w.heap.size, 0, none⟩ x).setCell ⟨w.heap.size, 1, none⟩ y)) := hide fun x y =>
    ⟨bx_set2 _ _ r0, (f0.setCell (p := ⟨w.heap.size, 0, none⟩) (Nat.le_refl _) _).setCell (p := ⟨w.heap.size, 1, none⟩) (Nat.le_refl _) _⟩
  generalize hPO : arrPost w t n = PO
  have HPO := hide hPO
  clear hPO f0 r0 hs0
  by_cases h1 : t = [] ∨ n < 0
  · have HE := hide (arrEH_arg h1)
    rcases h1 with h1 | h1
    · subst h1
      go_enter Try.func26, Try.ntmps26
      go_wp2
      rw [← unhide HPO]
      exact bodyPost_ret (res_ot Try.results26 _ w.heap.size _ _ (unhide END _ _).1 _ rfl) rfl ⟨(unhide END _ _).2, .inl ⟨by rw [unhide HE]; decide, by rw [unhide HE]; rfl⟩⟩
    · generalize (⟨t.toArray⟩ : ByteArray) = st at *
      cases ht : t.isEmpty with
      | true =>
        rw [ht] at hl
        have hty2 : st.toList = [] := by simpa using hl
        go_enter Try.func26, Try.ntmps26
        go_wp2
        rw [← unhide HPO]
        exact bodyPost_ret (res_ot Try.results26 _ w.heap.size _ _ (unhide END _ _).1 _ rfl) rfl ⟨(unhide END _ _).2, .inl ⟨by rw [unhide HE]; decide, by rw [unhide HE]; rfl⟩⟩
      | false =>
        rw [ht] at hl
        have hty2 : ¬ st.toList = [] := by simpa using hl
        go_enter Try.func26, Try.ntmps26
        go_wp2
        rw [← unhide HPO]
        exact bodyPost_ret (res_ot Try.results26 _ w.heap.size _ _ (unhide END _ _).1 _ rfl) rfl ⟨(unhide END _ _).2, .inl ⟨by rw [unhide HE]; decide, by rw [unhide HE]; rfl⟩⟩
  have ht : t.isEmpty = false := by
    cases t with
    | nil => exact absurd (.inl rfl) h1
    | cons _ _ => rfl
  have hn0 : ¬ n < 0 := fun e => h1 (.inr e)
  rw [ht] at hl
  have hty2 : ¬ (⟨t.toArray⟩ : ByteArray).toList = [] := by simpa using hl
  by_cases h2 : 65536 < n
  · have HE := hide (arrEH_full h1 h2)
    clear h1
    generalize (⟨t.toArray⟩ : ByteArray) = st at *
    go_enter Try.func26, Try.ntmps26
    go_wp2
    rw [← unhide HPO]
    exact bodyPost_ret (res_ot Try.results26 _ w.heap.size _ _ (unhide END _ _).1 _ rfl) rfl ⟨(unhide END _ _).2, .inl ⟨by rw [unhide HE]; decide, by rw [unhide HE]; rfl⟩⟩
  have HE := hide (arrEH_ok h1 h2)
  obtain ⟨N, rfl⟩ : ∃ N : Nat, n = (N : Int) := ⟨n.toNat, by omega⟩
  obtain ⟨w1, hmk, o1, f1, z1'⟩ := make_two rkV (x0 := vl0) rfl rfl w0 (w.heap.size + 1) N (by omega) (by omega) (by rw [(unhide HS0).2.2]; exact Nat.le_refl _)
  have hN : N ≤ 65536 := by omega
  have HA : Hid (Ai15 w (.string ⟨t.toArray⟩) w0.heap.size w1.heap.size N ⟨wordKindH t, 0⟩ 0 (w1.alloc (.cells #[.string ⟨t.toArray⟩, .slice (some ⟨w0.heap.size, 0, none⟩) N N] 29))) := by
    obtain ⟨f0, r0, _⟩ := unhide HS0
    have r1 := (f1.block _ (lt_of_heap r0)).trans r0
    refine ⟨?_, heap_alloc_last _ _, (heap_alloc_old _ _ (lt_of_heap r1)).trans r1, (f0.trans (f1.mono f0.size)).trans (((Below.refl w1.heap.size w1).alloc (Nat.le_refl _) _).mono (by have := f0.size; have := f1.size; omega))⟩
    have := orw_on o1 ((Below.refl w1.heap.size w1).alloc (Nat.le_refl _) (.cells #[.string ⟨t.toArray⟩, .slice (some ⟨w0.heap.size, 0, none⟩) N N] 29))
    simpa using this
  have hX : w.heap.size < w1.heap.size := by have := (unhide HS0).1.size; have := f1.size; have := (unhide HS0).2.2; omega
  have HX := hide hX
  have HNT : Hid ((N : Int).toNat = N) := hide (by omega)
  clear h1 o1 f1 z1' END k0 k1 z0 z1 hX
  generalize hZK : wordKindH t = Z at *
  generalize hst : (⟨t.toArray⟩ : ByteArray) = st at *
  go_enter Try.func26, Try.ntmps26
  go_wp2
  generalize w0.heap.size = g at *
  generalize w1.heap.size = X at *
  go_loopw [27] (fun i wr => ∃ k : Nat, k ≤ N ∧ i = .int .i64 (k : Int) ∧ Ai15 w (.string st) g X N ⟨Z, 0⟩ k wr) (fun i _ => N - (intOf i).toNat)
  case atStart => exact ⟨0, by omega, rfl, unhide HA⟩
  case round =>
    obtain ⟨k, hk, rfl, hT⟩ := hrel
    by_cases hlt : k < N
    · have hlt1 : (k : Int) < (N : Int) := by omega
      have hk0 : (0 : Int) ≤ (k : Int) := by omega
      have KX : Hid (∀ W, Below wr.heap.size wr W → W.cell? ⟨X, 1, none⟩ = some (.slice (some ⟨g, 0, none⟩) N N)) := fun W f => bx_cell ((f.block _ (lt_of_heap hT.x)).trans hT.x) 1 _ rfl
      have KG : Hid (∀ W, Below wr.heap.size wr W → W.frozen? ⟨g, k * 2, none⟩ = false ∧ W.frozen? ⟨g, k * 2 + 1, none⟩ = false ∧ W.cell? ⟨g, k * 2, none⟩ = some (.int .i64 0) ∧ W.cell? ⟨g, k * 2 + 1, none⟩ = some (.int .i64 0)) := fun W f => by
        obtain ⟨g', cur, e, _, _, hz, q⟩ := (orw_on hT.row f).blkR rkV.len (by omega)
        injection e with e
        injection e with e
        subst e
        have hx : (List.replicate k (⟨Z, 0⟩ : Vl) ++ List.replicate (N - k) vl0)[k]? = some vl0 := by
          rw [List.getElem?_append_right (by simp), List.length_replicate, Nat.sub_self, List.getElem?_replicate, if_pos (by omega)]
        have d0 := q k _ hx 0 _ rfl
        have d1 := q k _ hx 1 _ rfl
        rw [Nat.add_zero] at d0
        exact ⟨hz _, hz _, d0, d1⟩
      have HT := hide hT
      clear hT
      go_wp2
      refine wp_region_last (fun u v => Below u.heap.size u v) [
        (fun v W => v = .pointer (some ⟨X, 1, none⟩)),
        (fun v W => v = .slice (some ⟨g, 0, none⟩) N N),
        (fun v W => v = .int .i64 (k : Int)),
        (fun v W => v = .string st),
        (fun v W => v = .agg #[.int .i64 Z, .int .i64 0]),
        (fun v W => v = .pointer (some ⟨g, k * 2, none⟩))] 38 6
        [[], [(0, some 30)], [], [], [(3, some 33)], [(1, some 31), (2, some 32)], [(4, some 34), (5, some 35)]]
        [(0, some 30), (1, some 31), (2, some 32), (3, some 33), (4, some 34), (5, some 35)]
        (by kernel_rfl) (by kernel_rfl) rfl (fun _ => Below.refl _ _) (fun _ _ _ h1 h2 => h1.trans (h2.mono h1.size)) ?_ ?_
      · intro r hr
        simp only [List.mem_cons, List.not_mem_nil, or_false] at hr
        rcases hr with rfl | rfl | rfl | rfl | rfl | rfl
        · intro v W W2 h f
          exact h
        · intro v W W2 h f
          exact h
        · intro v W W2 h f
          exact h
        · intro v W W2 h f
          exact h
        · intro v W W2 h f
          exact h
        · intro v W W2 h f
          exact h
      · refine ⟨?_, ?_, ?_, ?_, ?_, ?_, ?_⟩
        · intro W hG
          have HG : Below wr.heap.size wr W := (Below.refl _ _).drew.trans hG
          simp only [ForDeps, rAt]
          have p1 := unhide KX W HG
          refine Tells.yields (v := ?_) (by rfl) (Below.refl _ _) ?_ ?_
          rotate_left
          focus ((go_simp) <;> with_reducible rfl)
          exact rfl
        · intro W hG
          have HG : Below wr.heap.size wr W := (Below.refl _ _).drew.trans hG
          simp only [ForDeps, rAt]
          rintro _ rfl
          simp only [Act.put, List.setIfInBounds_toArray, List.set_cons_zero, List.set_cons_succ]
          have p1 := unhide KX W HG
          refine Tells.yields (v := ?_) (by rfl) (Below.refl _ _) ?_ ?_
          rotate_left
          focus ((go_simp) <;> with_reducible rfl)
          exact rfl
        · intro W hG
          have HG : Below wr.heap.size wr W := (Below.refl _ _).drew.trans hG
          simp only [ForDeps, rAt]
          have p1 := unhide KX W HG
          refine Tells.yields (v := ?_) (by rfl) (Below.refl _ _) ?_ ?_
          rotate_left
          focus ((go_simp) <;> with_reducible rfl)
          exact rfl
        · intro W hG
          have HG : Below wr.heap.size wr W := (Below.refl _ _).drew.trans hG
          simp only [ForDeps, rAt]
          have p1 := unhide KX W HG
          refine Tells.yields (v := ?_) (by rfl) (Below.refl _ _) ?_ ?_
          rotate_left
          focus ((go_simp) <;> with_reducible rfl)
          exact rfl
        · intro W hG
          have HG : Below wr.heap.size wr W := (Below.refl _ _).drew.trans hG
          simp only [ForDeps, rAt]
          rintro _ rfl
          simp only [Act.put, List.setIfInBounds_toArray, List.set_cons_zero, List.set_cons_succ]
          refine Tells.does (by rfl) (fun K hK => ?_)
          go_simp
          go_wp2_with (go_at_call 42; refine (unhide HZ W).mono ?_; rintro e W' ⟨rfl, f⟩)
          exact hK.out _ _ f rfl
        · intro W hG
          have HG : Below wr.heap.size wr W := (Below.refl _ _).drew.trans hG
          simp only [ForDeps, rAt]
          rintro _ rfl _ rfl
          simp only [Act.put, List.setIfInBounds_toArray, List.set_cons_zero, List.set_cons_succ]
          have p1 := unhide KX W HG
          refine Tells.yields (v := ?_) (by rfl) (Below.refl _ _) ?_ ?_
          rotate_left
          focus ((go_simp) <;> with_reducible rfl)
          exact rfl
        · intro W hG
          have HG : Below wr.heap.size wr W := (Below.refl _ _).drew.trans hG
          simp only [ForDeps, rAt]
          rintro _ rfl _ rfl _ rfl _ rfl _ rfl _ rfl
          simp only [Act.put, List.setIfInBounds_toArray, List.set_cons_zero, List.set_cons_succ]
          refine Tells.does (by rfl) (fun K hK => ?_)
          obtain ⟨t0, t1, d0, d1⟩ := unhide KG W HG
          go_simp
          refine hK.out undef _ trivial ?_
          have HT2 := hide ((unhide HT).next hlt HG)
          simp only [vlc, World.setCells] at HT2
          clear t0 t1 d0 d1 hK hG HG KX KG HT
          go_wp2
          go_roundw
          case rel => exact ⟨k + 1, by omega, by go_num, unhide HT2⟩
          case measure => simp [intOf]; omega
    · obtain rfl : k = N := by omega
      have x1 := hT.x
      have r1 := hT.r
      have k0 := bx_cell x1 0 _ rfl
      have k1 := bx_cell x1 1 _ rfl
      have j0 := bx_cell r1 0 _ rfl
      have j1 := bx_cell r1 1 _ rfl
      have y0 := bx_thaw r1 0
      have y1 := bx_thaw r1 1
      have HT := hide hT
      have HR := hide r1
      clear hT x1 r1
      go_wp2
      rw [← unhide HPO]
      have o := (unhide HT).row
      rw [Nat.sub_self, List.replicate_zero, List.append_nil] at o
      refine bodyPost_ret (res_ot Try.results26 _ w.heap.size (.string st) (.slice (some ⟨g, 0, none⟩) k k) (bx_set2 _ _ (unhide HR)) _ rfl) rfl ⟨(((unhide HT).bel.setCell (p := ⟨w.heap.size, 0, none⟩) (Nat.le_refl _) _).setCell (p := ⟨w.heap.size, 1, none⟩) (Nat.le_refl _) _), .inr ⟨unhide HE, ⟨some ⟨g, 0, none⟩, k, k⟩, ?_, ?_⟩⟩
      · have o2 := o.below (w' := (wr.setCell ⟨w.heap.size, 0, none⟩ (.string st)).setCell ⟨w.heap.size, 1, none⟩ (.slice (some ⟨g, 0, none⟩) k k)) (fun q hq => by
          have hlt := (o.lt q hq).1
          rw [Below.heap_setCell _ _ _ _ (by simp only; omega), Below.heap_setCell _ _ _ _ (by simp only; omega)])
        rw [unhide HNT, hZK]
        exact Orw.linR (s := ⟨some ⟨g, 0, none⟩, k, k⟩) rkV o2 (by simp; omega) (fun _ _ => trivial)
      · simp only [hst]
        rfl
end Go.Proofs.Ytgiohebbmjgefaa
