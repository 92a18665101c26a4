/- The walk of PoolReads. -/
import Derived.Test.YtjpimcglojneaaaJH
import Derived.Test.YtjpimcglojneaaaJPlX
import Derived.Test.YtjpimcglojneaaaJPlT
import Derived.Test.YtjpimcglojneaaaJB

namespace Go.Proofs.Ytjpimcglojneaaa
open Go.RowKit
set_option linter.unusedVariables false

theorem RD.lt {F : Nat → Prop} {w : World} {B x : Nat} {bs : List UInt8} {i : Nat} (h : RD F w B x bs i) : ∀ k, F k → B ≤ k ∧ k < w.heap.size := by
  obtain ⟨y, c, rfl, h⟩ := h
  intro k hk
  rcases hk with rfl | rfl
  · exact ⟨h.hx, h.xlt⟩
  · exact h.y
theorem RD.keep {F : Nat → Prop} {w w' : World} {B x : Nat} {bs : List UInt8} {i : Nat} (h : RD F w B x bs i) (hk : ∀ k, F k → w'.heap[k]? = w.heap[k]?) : RD F w' B x bs i := by
  obtain ⟨y, c, rfl, h⟩ := h
  exact ⟨y, c, rfl, h.keep (hk x (.inl rfl)) (hk y (.inr rfl))⟩
theorem RD.below {F : Nat → Prop} {w w' : World} {B x : Nat} {bs : List UInt8} {i : Nat} (h : RD F w B x bs i) (f : Below w.heap.size w w') : RD F w' B x bs i := h.keep (fun k hk => f.block k (h.lt k hk).2)
/-- Entries do not lie in a reader's block. -/
theorem earg_far {W W' : World} {z : Nat} {a : Option Addr} {m c n0 c0 i : Nat} {a0 : Option Addr} {l : List Ent} (h : EArg W a m c l) (hz : W.heap[z]? = some (.cells #[.slice a0 n0 c0, .int .i64 (i : Int)] 28 (0, 0))) (hk : ∀ k, k < W.heap.size → k ≠ z → W'.heap[k]? = W.heap[k]?) : EArg W' a m c l := by
  refine ⟨⟨h.es.1, ?_⟩, h.room, h.most, h.nil⟩
  rcases h.es.2 with h0 | ⟨b, o, e, hE⟩
  · exact .inl h0
  · by_cases hm : m = 0
    · exact .inl hm
    · have hb : b ≠ z := fun e => by
        subst e
        obtain ⟨x, hx⟩ : ∃ x, l[0]? = some x := ⟨_, List.getElem?_eq_getElem (by have := h.es.1; omega)⟩
        obtain ⟨_, _, c2, _, _⟩ := ents_get hE hx
        rw [cell_of_row _ _ _ _ _ _ hz] at c2
        simp at c2
      refine .inr ⟨b, o, e, fun ad ead j u hu => ?_⟩
      have hc := hE ad ead j u hu
      injection ead with ead
      subst ead
      rw [Addr.add_mid] at hc ⊢
      exact (World.cell?_of_block (a := ⟨b, o + j, none⟩) (hk b (World.block_lt_of_cell? W _ hc) hb)).trans hc
theorem readP_len {bs : List UInt8} {i : Nat} : (readP bs i).1.length ≤ 1024 := by
  unfold readP
  simp only
  split
  · simp
  · split
    · simp
    · split
      · simp
      · split
        · simp
        · rename_i h
          have hc : checkP (entsR bs (getW bs i 2 false).1.toNat (getW bs i 2 false).1.toNat [ent0] (getW bs i 2 false).2.2).1 = true := by
            cases hq : checkP (entsR bs (getW bs i 2 false).1.toNat (getW bs i 2 false).1.toNat [ent0] (getW bs i 2 false).2.2).1 with
            | true => rfl
            | false => exact absurd (.inr hq) h
          exact (checkP_right.1 hc).1.2

def ErrIn (e : Int) : Prop := e = 0 ∨ e = 2 ∨ e = 3 ∨ e = 7 ∨ e = 70
theorem getW_errIn {b : List UInt8} {i : Nat} {k : Int} {sg : Bool} : ErrIn (getW b i k sg).2.1 := by
  unfold getW ErrIn
  split
  · split
    · simp
    · split <;> simp
  · simp
theorem takeW_errIn {b : List UInt8} {i : Nat} {k : Int} : ErrIn (takeW b i k).2.1 := by
  unfold takeW ErrIn
  split
  · simp
  · split <;> simp
theorem entR_errIn {b : List UInt8} {i : Nat} : ErrIn (entR b i).2.1 := by
  unfold entR
  simp only
  repeat' split
  all_goals first | exact getW_errIn | exact takeW_errIn | exact .inr (.inr (.inr (.inr rfl)))
theorem entsR_errIn {b : List UInt8} {n : Nat} : ∀ (f : Nat) (l : List Ent) (i : Nat), ErrIn (entsR b n f l i).2.1
  | 0, l, i => .inl rfl
  | f + 1, l, i => by
    rw [entsR]
    split
    · exact .inl rfl
    · simp only
      split
      · exact entR_errIn
      · exact entsR_errIn f _ _
theorem readP_errIn {b : List UInt8} {i : Nat} : ErrIn (readP b i).2.1 := by
  unfold readP
  simp only
  repeat' split
  all_goals first | exact getW_errIn | exact entsR_errIn _ _ _ | exact .inr (.inr (.inr (.inr rfl)))

set_option maxHeartbeats 12800000 in
set_option maxRecDepth 100000 in
theorem reads_walk7_few (P : PoolsRW) (w : World) (a : Option Addr) (n c : Nat) (bs : List UInt8) (h : Arg w a n c bs) (hn : n ≤ 5000) :
    Calls Try.prog 3 #[.slice a n c] w fun e w' => e = .returned (.bool true) ∧ Below w.heap.size w w' := by
  have hn' : ¬ (5000 : Int) < (n : Int) := by omega
  have hbl := h.bs.1
  have HB := hide (Bytes_arg h (by omega))
  have HA := hide h
  clear h
  go_enter Try.func3, Try.ntmps3
  go_wp2_with fail
  refine (unhide HB).mono ?_
  rintro e w1 ⟨v1, rfl, o1, f1⟩
  obtain ⟨a1, c1, rfl, _⟩ := own_form o1
  have HR := hide (dRead_any w1 a1 n c1 bs (arg_of_own hbl o1) (by omega))
  have F1 := hide f1
  clear o1 f1 HB
  go_wp2_with fail
  refine (unhide HR).mono ?_
  rintro e w2 ⟨x, F, rfl, r2, f2⟩
  have b3 := (Below.refl w2.heap.size w2).alloc (Nat.le_refl _) (.cells #[.slice a n c, .int .i64 0] 28)
  have hz3 := heap_alloc_last w2 (.cells #[.slice a n c, .int .i64 0] 28)
  have hzF : ¬ F w2.heap.size := fun hF => by have := (r2.lt _ hF).2; omega
  have r3 := r2.below b3
  have F3 := hide (((unhide F1).trans (f2.mono (unhide F1).size)).trans (b3.mono ((unhide F1).trans (f2.mono (unhide F1).size)).size))
  have hs1 := (unhide F1).size
  have HP := hide (P.read F _ w1.heap.size x bs 0 r3 (by omega) (by omega))
  have HZ3 := hide hz3
  have hsz3 : w2.heap.size < (w2.alloc (.cells #[.slice a n c, .int .i64 0] 28)).heap.size := by simp
  have hs12 : w1.heap.size ≤ w2.heap.size := f2.size
  clear HR r2 f2 b3 hz3 r3 F1
  have hlen5 := readP_len (bs := bs) (i := 0)
  have herr := hide (readP_errIn (b := bs) (i := 0))
  go_wp2_with fail
  generalize hzz : w2.heap.size = z at *
  generalize w2.alloc (.cells #[.slice a n c, .int .i64 0] 28) = W3 at *
  refine (unhide HP).mono ?_
  rintro e w4 ⟨⟨a4, c4, rfl, e4⟩, hrd, fr4⟩
  have f4 : Below w.heap.size w w4 := (unhide F3).trans (fr4.below.mono hs1)
  have hz4 : w4.heap[z]? = _ := (fr4.other z hsz3 hzF).trans (unhide HZ3)
  have ha4 := (unhide HA).below f4
  have hfar : ∀ b o, a = some ⟨b, o, none⟩ → 0 < n → b ≠ z := fun b o e hn hbz => by
    obtain ⟨b', o', e', hB⟩ := (unhide HA).bs.2.resolve_left (by omega)
    rw [e] at e'
    injection e' with e'
    injection e' with e1
    have h0 := hB.2 ⟨b', o', none⟩ rfl 0 _ (by rw [bv, List.getElem?_map, List.getElem?_eq_getElem (by omega)]; rfl)
    have h1 := World.block_lt_of_cell? w _ h0
    have h2 : b' < w.heap.size := h1
    omega
  have HJ := hide (jRead_any w4 z a n c 0 bs ha4 (by omega) (by omega) hz4 hfar)
  have HE4 := hide e4
  have HZ4 := hide hz4
  have HRD : Hid ((readP bs 0).2.1 = 0 → ∃ F', RD F' w4 w1.heap.size x bs (readP bs 0).2.2 ∧ ¬ F' z) := fun h0 => by
    obtain ⟨F', r4, hF'⟩ := hrd h0
    refine ⟨F', r4, fun hz => ?_⟩
    rcases hF' z hz with h | h
    · exact hzF h
    · omega
  have F4 := hide f4
  clear HP e4 hrd fr4 f4 hz4 ha4 hfar HZ3 F3
  generalize readP bs 0 = R at *
  obtain ⟨RL, RE, RI_⟩ := R
  simp only at HJ HE4 HRD hlen5 herr ⊢
  go_wp2_with fail
  refine (unhide HJ).mono ?_
  rintro e w5 ⟨v5, rfl, o5, E5⟩
  obtain ⟨a5, c5, rfl⟩ := own5_form o5
  have e45 := earg_far (unhide HE4) (unhide HZ4) E5.oth
  have hz1 : w5.cell? ⟨z, 1, none⟩ = some (.int .i64 (RI_ : Int)) := by rw [cell_of_row _ _ _ _ _ _ E5.blk]; rfl
  have F5 : Hid (Below w.heap.size w w5) := (unhide F4).trans (E5.bel.mono (by omega))
  have XS : Hid (∀ W, Below w5.heap.size w5 W → Calls Try.prog 13 #[.slice a4 RL.length c4, .slice a5 RL.length c5] W fun e w' => e = .returned (.bool true) ∧ Below w5.heap.size w5 w') := fun W f => (SameEntries_same W a4 a5 RL.length c4 c5 RL (e45.es.below f) ((es_of_own o5).below f) (by omega)).mono (by
    rintro e w' ⟨rfl, f'⟩
    exact ⟨rfl, f.trans (f'.mono f.size)⟩)
  have KZ : Hid (∀ W, Below w5.heap.size w5 W → W.cell? ⟨z, 1, none⟩ = some (.int .i64 (RI_ : Int))) := fun W f => (f.cell (World.block_lt_of_cell? w5 _ hz1)).trans hz1
  have XW : Hid (∀ W, Below w5.heap.size w5 W → Calls Try.prog 15 #[] W fun e w' => e = .returned (.bool true) ∧ Below w5.heap.size w5 w') := fun W f => (works7_any P.pools W).mono (by
    rintro e w' ⟨rfl, f'⟩
    exact ⟨rfl, f.trans (f'.mono f.size)⟩)
  have XA : Hid (RE = 0 → ∀ W, Below w5.heap.size w5 W → Calls Try.prog 14 #[.pointer (some ⟨x, 0, none⟩)] W fun e w' => e = .returned (.int .i64 (RI_ : Int)) ∧ Below w5.heap.size w5 w') := fun h0 W f => by
    obtain ⟨F', r4, hFz⟩ := unhide HRD h0
    have r5 : RD F' w5 w1.heap.size x bs RI_ := r4.keep (fun k hk => E5.oth k (r4.lt k hk).2 (fun e => hFz (by rw [← e]; exact hk)))
    refine (dAt_any F' W w1.heap.size x bs RI_ (r5.below f)).mono ?_
    rintro e w' ⟨rfl, f'⟩
    exact ⟨rfl, f.trans (f'.mono f.size)⟩
  clear HJ o5 E5 e45 HRD HE4 HZ4 F4
  generalize RL.length = LL at *
  by_cases h0 : RE = 0
  case pos =>
    subst h0
    have XA0 := hide (unhide XA rfl)
    clear XA
    have q1 : ((RI_ : Int) == (RI_ : Int)) = true := by simp
    go_wp2_with fail
    go_region_held (fun W => W.cell? ⟨z, 1, none⟩ = some (.int .i64 (RI_ : Int))) (go_keep)
      (first
        | (have ox := f7; clear ox; go_at_call 15; refine (unhide XW _ (by repeat (first | exact f7 | refine Below.drew ?_))).mono ?_; rintro e w8 ⟨rfl, f8⟩; have k8 := unhide KZ _ f8)
        | (have ox := f6; clear ox; go_at_call 14; refine (unhide XA0 _ (by repeat (first | exact f6 | refine Below.drew ?_))).mono ?_; rintro e w7 ⟨rfl, f7⟩; have k7 := unhide KZ _ f7)
        | (go_at_call 13; refine (unhide XS _ (by repeat (first | exact Below.refl _ _ | refine Below.drew ?_))).mono ?_; rintro e w6 ⟨rfl, f6⟩; have k6 := unhide KZ _ f6))
    have F8 := hide ((unhide F5).trans (f8.mono (unhide F5).size))
    clear f6 f7 f8 k6 k7 k8 KZ XA0 XS XW F5 hz1
    go_wp2
    go_ret
    exact ⟨rfl, by first | exact unhide F8 | exact below_drewN (unhide F8) _ | exact (unhide F8).drew⟩
  case neg =>
    have hne : (RE == 0) = false := by simpa using h0
    have hne' : (RE != 0) = true := by simpa using h0
    clear h0 XA KZ hz1
    go_wp2_with fail
    refine wp_region_seq (fun W => Below w5.heap.size w5 W) (by kernel_rfl) (by kernel_rfl) ((Below.refl _ _).drew) ?_
    repeat (first
      | (refine SeqDo.skips (by rfl) ?_; simp only [Act.put, List.setIfInBounds_toArray, List.set_cons_zero, List.set_cons_succ])
      | (refine SeqDo.yields (v := ?_) (by rfl) ?_ ?_; rotate_left; (focus ((intro W hSW; go_simp) <;> with_reducible rfl)); simp only [Act.put, List.setIfInBounds_toArray, List.set_cons_zero, List.set_cons_succ])
      | (refine SeqDo.does (v := .bool true) (by rfl) (fun W hSW KK hKK => ?_) ?_; (focus (go_simp; go_wp2_with (go_at_call 13; refine (unhide XS _ hSW).mono ?_; rintro e W' ⟨rfl, fJ⟩); exact hKK.out _ fJ)); simp only [Act.put, List.setIfInBounds_toArray, List.set_cons_zero, List.set_cons_succ])
      | (refine SeqDo.does (v := .bool true) (by rfl) (fun W hSW KK hKK => ?_) ?_; (focus (go_simp; go_wp2_with (go_at_call 15; refine (unhide XW _ hSW).mono ?_; rintro e W' ⟨rfl, fJ⟩); exact hKK.out _ fJ)); simp only [Act.put, List.setIfInBounds_toArray, List.set_cons_zero, List.set_cons_succ]))
    intro W hSW
    have F8 := hide ((unhide F5).trans (hSW.mono (unhide F5).size))
    clear hSW XS XW F5
    go_wp2
    go_ret
    exact ⟨rfl, unhide F8⟩

theorem arg_take {w : World} {a : Option Addr} {n c : Nat} {bs : List UInt8} (h : Arg w a n c bs) (m : Nat) (hm : m ≤ n) (hm0 : 0 < m) : Arg w a m c (bs.take m) := by
  refine ⟨⟨by rw [List.length_take, h.bs.1]; omega, ?_⟩, by have := h.room; omega, h.most, fun e => by have := h.nil e; omega⟩
  rcases h.bs.2 with h0 | ⟨b, o, e, hB⟩
  · omega
  · exact .inr ⟨b, o, e, bytes_take hB m⟩
set_option maxHeartbeats 12800000 in
set_option maxRecDepth 100000 in
theorem reads_walk7_many (P : PoolsRW) (w : World) (a : Option Addr) (N c : Nat) (bs0 bs : List UInt8) (h0 : Arg w a N c bs0) (hN : 5000 < N) (hNs : N ≤ 140737488351232) (h : Arg w a 5000 c bs) :
    Calls Try.prog 3 #[.slice a N c] w fun e w' => e = .returned (.bool true) ∧ Below w.heap.size w w' := by
  have hn' : (5000 : Int) < (N : Int) := by omega
  have hcap : (5000 : Int) ≤ (c : Int) := by have := h.room; omega
  have hcm : (c : Int) ≤ 9223372036854775807 := by have := h.most; omega
  have hNc : (N : Int) ≤ (c : Int) := by have := h0.room; omega
  have hbl := h.bs.1
  have hbo : ∃ b o, a = some ⟨b, o, none⟩ := by
    obtain ⟨b, o, e, _⟩ := h.bs.2.resolve_left (by omega)
    exact ⟨b, o, e⟩
  obtain ⟨ab, ao, rfl⟩ := hbo
  have HB := hide (Bytes_arg h (by omega))
  have HA := hide h
  clear h h0
  go_enter Try.func3, Try.ntmps3
  go_wp2_with fail
  refine (unhide HB).mono ?_
  rintro e w1 ⟨v1, rfl, o1, f1⟩
  obtain ⟨a1, c1, rfl, _⟩ := own_form o1
  have HR := hide (dRead_any w1 a1 5000 c1 bs (arg_of_own hbl o1) (by omega))
  have F1 := hide f1
  clear o1 f1 HB
  go_wp2_with fail
  refine (unhide HR).mono ?_
  rintro e w2 ⟨x, F, rfl, r2, f2⟩
  have b3 := (Below.refl w2.heap.size w2).alloc (Nat.le_refl _) (.cells #[.slice (some ⟨ab, ao, none⟩) 5000 c, .int .i64 0] 28)
  have hz3 := heap_alloc_last w2 (.cells #[.slice (some ⟨ab, ao, none⟩) 5000 c, .int .i64 0] 28)
  have hzF : ¬ F w2.heap.size := fun hF => by have := (r2.lt _ hF).2; omega
  have r3 := r2.below b3
  have F3 := hide (((unhide F1).trans (f2.mono (unhide F1).size)).trans (b3.mono ((unhide F1).trans (f2.mono (unhide F1).size)).size))
  have hs1 := (unhide F1).size
  have HP := hide (P.read F _ w1.heap.size x bs 0 r3 (by omega) (by omega))
  have HZ3 := hide hz3
  have hsz3 : w2.heap.size < (w2.alloc (.cells #[.slice (some ⟨ab, ao, none⟩) 5000 c, .int .i64 0] 28)).heap.size := by simp
  have hs12 : w1.heap.size ≤ w2.heap.size := f2.size
  clear HR r2 f2 b3 hz3 r3 F1
  have hlen5 := readP_len (bs := bs) (i := 0)
  have herr := hide (readP_errIn (b := bs) (i := 0))
  go_wp2_with fail
  generalize hzz : w2.heap.size = z at *
  generalize w2.alloc (.cells #[.slice (some ⟨ab, ao, none⟩) 5000 c, .int .i64 0] 28) = W3 at *
  refine (unhide HP).mono ?_
  rintro e w4 ⟨⟨a4, c4, rfl, e4⟩, hrd, fr4⟩
  have f4 : Below w.heap.size w w4 := (unhide F3).trans (fr4.below.mono hs1)
  have hz4 : w4.heap[z]? = _ := (fr4.other z hsz3 hzF).trans (unhide HZ3)
  have ha4 := (unhide HA).below f4
  have hfar : ∀ b o, (some ⟨ab, ao, none⟩ : Option Addr) = some ⟨b, o, none⟩ → 0 < 5000 → b ≠ z := fun b o e hn hbz => by
    obtain ⟨b', o', e', hB⟩ := (unhide HA).bs.2.resolve_left (by omega)
    rw [e] at e'
    injection e' with e'
    injection e' with e1
    have h0 := hB.2 ⟨b', o', none⟩ rfl 0 _ (by rw [bv, List.getElem?_map, List.getElem?_eq_getElem (by omega)]; rfl)
    have h1 := World.block_lt_of_cell? w _ h0
    have h2 : b' < w.heap.size := h1
    omega
  have HJ := hide (jRead_any w4 z (some ⟨ab, ao, none⟩) 5000 c 0 bs ha4 (by omega) (by omega) hz4 hfar)
  have HE4 := hide e4
  have HZ4 := hide hz4
  have HRD : Hid ((readP bs 0).2.1 = 0 → ∃ F', RD F' w4 w1.heap.size x bs (readP bs 0).2.2 ∧ ¬ F' z) := fun h0 => by
    obtain ⟨F', r4, hF'⟩ := hrd h0
    refine ⟨F', r4, fun hz => ?_⟩
    rcases hF' z hz with h | h
    · exact hzF h
    · omega
  have F4 := hide f4
  clear HP e4 hrd fr4 f4 hz4 ha4 hfar HZ3 F3
  generalize readP bs 0 = R at *
  obtain ⟨RL, RE, RI_⟩ := R
  simp only at HJ HE4 HRD hlen5 herr ⊢
  go_wp2_with fail
  refine (unhide HJ).mono ?_
  rintro e w5 ⟨v5, rfl, o5, E5⟩
  obtain ⟨a5, c5, rfl⟩ := own5_form o5
  have e45 := earg_far (unhide HE4) (unhide HZ4) E5.oth
  have hz1 : w5.cell? ⟨z, 1, none⟩ = some (.int .i64 (RI_ : Int)) := by rw [cell_of_row _ _ _ _ _ _ E5.blk]; rfl
  have F5 : Hid (Below w.heap.size w w5) := (unhide F4).trans (E5.bel.mono (by omega))
  have XS : Hid (∀ W, Below w5.heap.size w5 W → Calls Try.prog 13 #[.slice a4 RL.length c4, .slice a5 RL.length c5] W fun e w' => e = .returned (.bool true) ∧ Below w5.heap.size w5 w') := fun W f => (SameEntries_same W a4 a5 RL.length c4 c5 RL (e45.es.below f) ((es_of_own o5).below f) (by omega)).mono (by
    rintro e w' ⟨rfl, f'⟩
    exact ⟨rfl, f.trans (f'.mono f.size)⟩)
  have KZ : Hid (∀ W, Below w5.heap.size w5 W → W.cell? ⟨z, 1, none⟩ = some (.int .i64 (RI_ : Int))) := fun W f => (f.cell (World.block_lt_of_cell? w5 _ hz1)).trans hz1
  have XW : Hid (∀ W, Below w5.heap.size w5 W → Calls Try.prog 15 #[] W fun e w' => e = .returned (.bool true) ∧ Below w5.heap.size w5 w') := fun W f => (works7_any P.pools W).mono (by
    rintro e w' ⟨rfl, f'⟩
    exact ⟨rfl, f.trans (f'.mono f.size)⟩)
  have XA : Hid (RE = 0 → ∀ W, Below w5.heap.size w5 W → Calls Try.prog 14 #[.pointer (some ⟨x, 0, none⟩)] W fun e w' => e = .returned (.int .i64 (RI_ : Int)) ∧ Below w5.heap.size w5 w') := fun h0 W f => by
    obtain ⟨F', r4, hFz⟩ := unhide HRD h0
    have r5 : RD F' w5 w1.heap.size x bs RI_ := r4.keep (fun k hk => E5.oth k (r4.lt k hk).2 (fun e => hFz (by rw [← e]; exact hk)))
    refine (dAt_any F' W w1.heap.size x bs RI_ (r5.below f)).mono ?_
    rintro e w' ⟨rfl, f'⟩
    exact ⟨rfl, f.trans (f'.mono f.size)⟩
  clear HJ o5 E5 e45 HRD HE4 HZ4 F4
  generalize RL.length = LL at *
  by_cases h0 : RE = 0
  case pos =>
    subst h0
    have XA0 := hide (unhide XA rfl)
    clear XA
    have q1 : ((RI_ : Int) == (RI_ : Int)) = true := by simp
    go_wp2_with fail
    go_region_held (fun W => W.cell? ⟨z, 1, none⟩ = some (.int .i64 (RI_ : Int))) (go_keep)
      (first
        | (have ox := f7; clear ox; go_at_call 15; refine (unhide XW _ (by repeat (first | exact f7 | refine Below.drew ?_))).mono ?_; rintro e w8 ⟨rfl, f8⟩; have k8 := unhide KZ _ f8)
        | (have ox := f6; clear ox; go_at_call 14; refine (unhide XA0 _ (by repeat (first | exact f6 | refine Below.drew ?_))).mono ?_; rintro e w7 ⟨rfl, f7⟩; have k7 := unhide KZ _ f7)
        | (go_at_call 13; refine (unhide XS _ (by repeat (first | exact Below.refl _ _ | refine Below.drew ?_))).mono ?_; rintro e w6 ⟨rfl, f6⟩; have k6 := unhide KZ _ f6))
    have F8 := hide ((unhide F5).trans (f8.mono (unhide F5).size))
    clear f6 f7 f8 k6 k7 k8 KZ XA0 XS XW F5 hz1
    go_wp2
    go_ret
    exact ⟨rfl, by first | exact unhide F8 | exact below_drewN (unhide F8) _ | exact (unhide F8).drew⟩
  case neg =>
    have hne : (RE == 0) = false := by simpa using h0
    have hne' : (RE != 0) = true := by simpa using h0
    clear h0 XA KZ hz1
    go_wp2_with fail
    refine wp_region_seq (fun W => Below w5.heap.size w5 W) (by kernel_rfl) (by kernel_rfl) ((Below.refl _ _).drew) ?_
    repeat (first
      | (refine SeqDo.skips (by rfl) ?_; simp only [Act.put, List.setIfInBounds_toArray, List.set_cons_zero, List.set_cons_succ])
      | (refine SeqDo.yields (v := ?_) (by rfl) ?_ ?_; rotate_left; (focus ((intro W hSW; go_simp) <;> with_reducible rfl)); simp only [Act.put, List.setIfInBounds_toArray, List.set_cons_zero, List.set_cons_succ])
      | (refine SeqDo.does (v := .bool true) (by rfl) (fun W hSW KK hKK => ?_) ?_; (focus (go_simp; go_wp2_with (go_at_call 13; refine (unhide XS _ hSW).mono ?_; rintro e W' ⟨rfl, fJ⟩); exact hKK.out _ fJ)); simp only [Act.put, List.setIfInBounds_toArray, List.set_cons_zero, List.set_cons_succ])
      | (refine SeqDo.does (v := .bool true) (by rfl) (fun W hSW KK hKK => ?_) ?_; (focus (go_simp; go_wp2_with (go_at_call 15; refine (unhide XW _ hSW).mono ?_; rintro e W' ⟨rfl, fJ⟩); exact hKK.out _ fJ)); simp only [Act.put, List.setIfInBounds_toArray, List.set_cons_zero, List.set_cons_succ]))
    intro W hSW
    have F8 := hide ((unhide F5).trans (hSW.mono (unhide F5).size))
    clear hSW XS XW F5
    go_wp2
    go_ret
    exact ⟨rfl, unhide F8⟩

theorem reads_walk7 (P : PoolsRW) (w : World) (a : Option Addr) (n c : Nat) (bs : List UInt8) (h : Arg w a n c bs) (hs : n ≤ 140737488351232) :
    Calls Try.prog 3 #[.slice a n c] w fun e w' => e = .returned (.bool true) ∧ Below w.heap.size w w' := by
  by_cases hn : n ≤ 5000
  · exact reads_walk7_few P w a n c bs h hn
  · exact reads_walk7_many P w a n c bs (bs.take 5000) h (by omega) hs (arg_take h 5000 (by omega) (by omega))

end Go.Proofs.Ytjpimcglojneaaa
