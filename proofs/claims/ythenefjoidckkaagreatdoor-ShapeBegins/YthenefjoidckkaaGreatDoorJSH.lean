/- Joined: SjK SjL. -/
import Derived.Test.YthenefjoidckkaaGreatDoorJSF
import Derived.Test.YthenefjoidckkaaGreatDoorJSG
import Derived.Test.YthenefjoidckkaaGreatDoorJSB
import Derived.Test.YthenefjoidckkaaGreatDoorJSA

/- Layer 11: the walk of ShapeBegins (written by mk/mksjk.py). -/
namespace Go.Proofs.YthenefjoidckkaaGreatDoor
open Go.RowKit
set_option linter.unusedVariables false
set_option maxRecDepth 100000

theorem typeP_fit (s : List UInt8) : fitI (typeP s).kind := by
  unfold typeP
  repeat' split
  all_goals (unfold fitI; simp)
theorem args_fits {r : List UInt8} {l : List Ty} {rest : List UInt8} (h : Args r l rest) : ∀ t ∈ l, TyFit t := by
  have hl := h.lens
  have hk : ∀ t ∈ l, fitI t.kind := by
    clear hl
    induction h with
    | done => simp
    | step r l rest h1 h2 ih =>
      intro t ht
      rcases List.mem_cons.1 ht with rfl | ht
      · exact typeP_fit _
      · exact ih t ht
  exact fun t ht => ⟨hk t ht, by have := hl t ht; unfold fitS; omega⟩
theorem begin_fit {ac : Int} {nm s : List UInt8} {L : List Ty} {rest : List UInt8} {lo : Int} {y : List Ty × List Ty} (hA : ArgsOf s L rest) (hnm : fitS nm) (h : beginP ac nm (metP L rest).2.2 (metP L rest).1 lo = some y) : (∀ t ∈ y.1, TyFit t) ∧ y.1.length ≤ 64 ∧ y.2 = [] := by
  have hL : ∀ t ∈ L, TyFit t := by
    by_cases h1 : s[0]? = some 40
    · exact args_fits (hA.yes h1)
    · rw [(hA.no h1).1]; simp
  have hM : ∀ t ∈ (metP L rest).1, TyFit t := by
    unfold metP
    split
    · split
      · simp
      · exact hL
    · simp
  have z : TyFit ty0 := ⟨by unfold fitI ty0; simp, by unfold fitS ty0; simp⟩
  have hF : ∀ (A : List Ty), (∀ t ∈ A, TyFit t) → ∀ t ∈ flatL A, TyFit t := by
    intro A
    induction A with
    | nil => intro _ t ht; cases ht
    | cons x A ih =>
      intro hA t ht
      unfold flatL at ht
      rcases List.mem_cons.1 ht with rfl | ht
      · exact hA _ (by simp)
      · rcases List.mem_append.1 ht with ht | ht
        · split at ht
          · rw [List.mem_singleton.1 ht]; exact z
          · cases ht
        · exact ih (fun t h => hA t (by simp [h])) t ht
  have hB : ∀ t ∈ argsB ac nm (metP L rest).1, TyFit t := by
    unfold argsB
    intro t ht
    rcases List.mem_append.1 ht with ht | ht
    · split at ht
      · cases ht
      · rw [List.mem_singleton.1 ht]; exact ⟨by unfold fitI refT; simp, hnm⟩
    · exact hM t ht
  unfold beginP at h
  split at h
  · rename_i hc
    injection h with h
    subst h
    refine ⟨fun t ht => ?_, ?_, rfl⟩
    · rcases List.mem_append.1 ht with ht | ht
      · exact hF _ hB t ht
      · rw [List.eq_of_mem_replicate ht]; exact z
    · simp only [List.length_append, List.length_replicate, flatL_len]
      omega
  · cases h
theorem lin_of_orw {W : World} {B : Nat} {l : Sl} {u : List Ty} (h : Orw tyc 52 2 W B l.v u) (hf : ∀ t ∈ u, TyFit t) (hn : u.length ≤ 1000) : LIn 2 24 tyc TyFit W l u := by
  obtain ⟨a, c, e, h1, h2, h3⟩ := h.form
  obtain ⟨la, ln, lc⟩ := l
  unfold Sl.v at e h
  simp only at e h
  injection e with e1 e2 e3
  subst e1 e2 e3
  exact ⟨h.ls rkT, h2, h3, h1, by simp only; omega, hf⟩
set_option maxHeartbeats 400000 in
theorem SameFrame_two (w : World) (l1 s1 l2 s2 : Sl) (HS1 : Hid (∀ W, Below w.heap.size w W → Calls Tryz.prog 29 #[.slice l1.a l1.n l1.c, .slice l2.a l2.n l2.c] W fun e w' => e = .returned (.bool true) ∧ Below W.heap.size W w')) (HS2 : Hid (∀ W, Below w.heap.size w W → Calls Tryz.prog 29 #[.slice s1.a s1.n s1.c, .slice s2.a s2.n s2.c] W fun e w' => e = .returned (.bool true) ∧ Below W.heap.size W w')) :
    Calls Tryz.prog 11 #[.agg #[.slice l1.a l1.n l1.c, .slice s1.a s1.n s1.c], .agg #[.slice l2.a l2.n l2.c, .slice s2.a s2.n s2.c]] w fun e w' => e = .returned (.bool true) ∧ Below w.heap.size w w' := by
  obtain ⟨a1, n1, c1⟩ := l1
  obtain ⟨a2, n2, c2⟩ := s1
  obtain ⟨a3, n3, c3⟩ := l2
  obtain ⟨a4, n4, c4⟩ := s2
  simp only at HS1 HS2 ⊢
  obtain ⟨w2, hw2, f2, z2, b1, b2⟩ := two_blocks w #[.slice a1 n1 c1, .slice a2 n2 c2] #[.slice a3 n3 c3, .slice a4 n4 c4] 32 32
  have HW2 := hide hw2
  have X2 := hide (And.intro f2 (And.intro b1 b2))
  have HA := hide (unhide HS1 w2 f2)
  clear hw2 f2 z2 b1 b2 HS1
  go_enter Tryz.func11, Tryz.ntmps11
  go_wp2_with fail
  rw [← unhide HW2]
  refine (unhide HA).mono ?_
  rintro e w3 ⟨rfl, f3⟩
  obtain ⟨f2, b1, b2⟩ := unhide X2
  have b3 := (f3.block _ (lt_of_heap b1)).trans b1
  have b4 := (f3.block _ (lt_of_heap b2)).trans b2
  have c1 := bx_cell b3 1 _ rfl
  have c2 := bx_cell b4 1 _ rfl
  have f33 := f2.trans (f3.mono f2.size)
  have F3 := hide f33
  have HS3 := hide (unhide HS2 w3 f33)
  clear f2 b1 b2 b3 b4 f3 f33 X2 HS2 HW2
  go_wp2_with fail
  refine (unhide HS3).mono ?_
  rintro e w4 ⟨rfl, f4⟩
  have F4 := hide ((unhide F3).trans (f4.mono (unhide F3).size))
  clear f4 HS3 F3
  go_wp2
  go_ret
  exact ⟨rfl, unhide F4⟩
theorem SameFrame_stv (W : World) (r : Option (List Ty × List Ty)) (B1 B2 : Nat) (l1 s1 l2 s2 : Sl) (h1 : StV B1 r W l1 s1) (h2 : StV B2 r W l2 s2) (hf : ∀ y, r = some y → (∀ t ∈ y.1, TyFit t) ∧ y.1.length ≤ 64 ∧ y.2 = []) :
    Calls Tryz.prog 11 #[.agg #[.slice l1.a l1.n l1.c, .slice s1.a s1.n s1.c], .agg #[.slice l2.a l2.n l2.c, .slice s2.a s2.n s2.c]] W fun e w' => e = .returned (.bool true) ∧ Below W.heap.size W w' := by
  cases r with
  | none =>
    obtain ⟨rfl, rfl⟩ := h1
    obtain ⟨rfl, rfl⟩ := h2
    have z : ∀ W' : World, LIn 2 24 tyc TyFit W' ⟨none, 0, 0⟩ [] := fun W' => ⟨⟨rfl, .inl rfl⟩, Nat.le_refl _, by simp, fun _ => ⟨rfl, rfl⟩, by simp, by simp⟩
    exact SameFrame_two W ⟨none, 0, 0⟩ ⟨none, 0, 0⟩ ⟨none, 0, 0⟩ ⟨none, 0, 0⟩ (hide fun W' f => SameTypes_same W' ⟨none, 0, 0⟩ ⟨none, 0, 0⟩ [] (z W') (z W')) (hide fun W' f => SameTypes_same W' ⟨none, 0, 0⟩ ⟨none, 0, 0⟩ [] (z W') (z W'))
  | some y =>
    obtain ⟨y1, y2⟩ := y
    obtain ⟨g1, g2, g3⟩ := hf _ rfl
    simp only at g1 g2 g3
    subst g3
    refine SameFrame_two W l1 s1 l2 s2 (hide fun W' f => ?_) (hide fun W' f => ?_)
    · exact SameTypes_same W' l1 l2 y1 (lin_of_orw (orw_keepB h1.1 f) g1 (by omega)) (lin_of_orw (orw_keepB h2.1 f) g1 (by omega))
    · exact SameTypes_same W' s1 s2 [] (lin_of_orw (orw_keepB h1.2 f) (by simp) (by simp)) (lin_of_orw (orw_keepB h2.2 f) (by simp) (by simp))
theorem StV.keep {B : Nat} {r : Option (List Ty × List Ty)} {W W' : World} {l s : Sl} (h : StV B r W l s) (f : Below W.heap.size W W') : StV B r W' l s := by
  cases r with
  | none => exact h
  | some y => exact ⟨orw_keepB h.1 f, orw_keepB h.2 f⟩
set_option maxHeartbeats 4000000 in
theorem begins_walk (w : World) (hT : Tab9s w) (ca : Option Addr) (cn cc : Nat) (l : List Nc) (hl : Ls 2 nc2 w ca cn l) (hcn : cn ≤ 140737488351232) (nm : List UInt8) (hnm : fitS nm) (ac st0 lo0 : Int) (mn : ByteArray) (s : List UInt8) (ba : Option Addr) (bn bc : Nat) (ha : Option Addr) (hn hc : Nat) (ma : Option Addr) (mk mc : Nat) (lo st lo2 st2 : Sl) (u1 v1 u2 v2 : List Ty) (hlo : TysIn w lo u1) (hst : TysIn w st v1) (hu1 : ∀ t ∈ u1, nmOk t) (hv1 : ∀ t ∈ v1, nmOk t) (hlo2 : TysIn w lo2 u2) (hst2 : TysIn w st2 v2) (hu2 : ∀ t ∈ u2, nmOk t) (hv2 : ∀ t ∈ v2, nmOk t) :
    Calls Tryz.prog 3 #[.slice ca cn cc, .string ⟨nm.toArray⟩, .agg #[.int .i64 ac, .string mn, .string ⟨s.toArray⟩, .int .i64 st0, .int .i64 lo0, .slice ba bn bc, .slice ha hn hc, .slice ma mk mc], .agg #[lo.v, st.v], .agg #[lo2.v, st2.v]] w fun e w' => e = .returned (.bool true) ∧ Below w.heap.size w w' := by
  obtain ⟨S, hSe⟩ : ∃ S : ByteArray, S = ⟨s.toArray⟩ := ⟨_, rfl⟩
  have hS : Str S s := ⟨hSe⟩
  rw [← hSe]
  have hSs := hS.size
  obtain ⟨L, rest, hA⟩ := ArgsOf.there s
  obtain ⟨la, ln, lc⟩ := lo
  obtain ⟨ta, tn, tc⟩ := st
  obtain ⟨la2, ln2, lc2⟩ := lo2
  obtain ⟨ta2, tn2, tc2⟩ := st2
  unfold Sl.v
  obtain ⟨w3, hw3, f3, hz3, hb0, hb1, hb2⟩ := three_blocks w #[.int .i64 ac, .string mn, .string S, .int .i64 st0, .int .i64 lo0, .slice ba bn bc, .slice ha hn hc, .slice ma mk mc] #[.slice la ln lc, .slice ta tn tc] #[.slice la2 ln2 lc2, .slice ta2 tn2 tc2] 29 32 32
  have KB : Hid (∀ W, Below w3.heap.size w3 W → (W.cell? ⟨w.heap.size, 0, none⟩ = some (.int .i64 ac) ∧ W.cell? ⟨w.heap.size, 1, none⟩ = some (.string mn) ∧ W.cell? ⟨w.heap.size, 2, none⟩ = some (.string S) ∧ W.cell? ⟨w.heap.size, 3, none⟩ = some (.int .i64 st0) ∧ W.cell? ⟨w.heap.size, 4, none⟩ = some (.int .i64 lo0) ∧ W.cell? ⟨w.heap.size, 5, none⟩ = some (.slice ba bn bc) ∧ W.cell? ⟨w.heap.size, 6, none⟩ = some (.slice ha hn hc) ∧ W.cell? ⟨w.heap.size, 7, none⟩ = some (.slice ma mk mc)) ∧ (W.cell? ⟨w.heap.size + 1, 0, none⟩ = some (.slice la ln lc) ∧ W.cell? ⟨w.heap.size + 1, 1, none⟩ = some (.slice ta tn tc)) ∧ W.cell? ⟨w.heap.size + 1 + 1, 0, none⟩ = some (.slice la2 ln2 lc2) ∧ W.cell? ⟨w.heap.size + 1 + 1, 1, none⟩ = some (.slice ta2 tn2 tc2)) := fun W f => by
    have e0 := (f.block _ (lt_of_heap hb0)).trans hb0
    have e1 := (f.block _ (lt_of_heap hb1)).trans hb1
    have e2 := (f.block _ (lt_of_heap hb2)).trans hb2
    exact ⟨⟨bx_cell e0 0 _ rfl, bx_cell e0 1 _ rfl, bx_cell e0 2 _ rfl, bx_cell e0 3 _ rfl, bx_cell e0 4 _ rfl, bx_cell e0 5 _ rfl, bx_cell e0 6 _ rfl, bx_cell e0 7 _ rfl⟩, ⟨bx_cell e1 0 _ rfl, bx_cell e1 1 _ rfl⟩, bx_cell e2 0 _ rfl, bx_cell e2 1 _ rfl⟩
  have HI := hide (And.intro hT (And.intro hl (And.intro (And.intro hlo (And.intro hst (And.intro hu1 hv1))) (And.intro hlo2 (And.intro hst2 (And.intro hu2 hv2))))))
  have HN := hide (And.intro hS (And.intro hA hnm))
  have HW3 := hide hw3
  have F3 := hide f3
  have HL1 := hide (l11light_any w3 la ta ln lc tn tc)
  clear hT hl hlo hst hu1 hv1 hlo2 hst2 hu2 hv2 hw3 f3 hz3 hb0 hb1 hb2 hS hA hnm hSe
  go_enter Tryz.func3, Tryz.ntmps3
  go_wp2_with fail
  rw [← unhide HW3]
  refine (unhide HL1).mono ?_
  rintro e w4 ⟨rfl, f4⟩
  have F4 := hide f4
  clear f4 HL1
  by_cases hlight : ln ≤ 100 ∧ tn ≤ 100
  case neg =>
    have e0 : (decide (ln ≤ 100) && decide (tn ≤ 100)) = false := by
      cases hh : (decide (ln ≤ 100) && decide (tn ≤ 100)) with
      | false => rfl
      | true => rw [Bool.and_eq_true, decide_eq_true_eq, decide_eq_true_eq] at hh; exact absurd hh hlight
    rw [e0]
    clear e0
    go_wp2
    go_ret
    exact ⟨rfl, (unhide F3).trans ((unhide F4).mono (unhide F3).size)⟩
  have e0 : (decide (ln ≤ 100) && decide (tn ≤ 100)) = true := by rw [decide_eq_true hlight.1, decide_eq_true hlight.2]; rfl
  rw [e0]
  clear e0
  obtain ⟨_, _, q0, q1⟩ := unhide KB w4 (unhide F4)
  have HL2 := hide (l11light_any w4 la2 ta2 ln2 lc2 tn2 tc2)
  go_wp2_with fail
  refine (unhide HL2).mono ?_
  rintro e w5 ⟨rfl, f5⟩
  have F5 := hide ((unhide F4).trans (f5.mono (unhide F4).size))
  clear f5 HL2 F4 q0 q1
  by_cases hlight2 : ln2 ≤ 100 ∧ tn2 ≤ 100
  case neg =>
    have e0 : (decide (ln2 ≤ 100) && decide (tn2 ≤ 100)) = false := by
      cases hh : (decide (ln2 ≤ 100) && decide (tn2 ≤ 100)) with
      | false => rfl
      | true => rw [Bool.and_eq_true, decide_eq_true_eq, decide_eq_true_eq] at hh; exact absurd hh hlight2
    rw [e0]
    clear e0
    go_wp2
    go_ret
    exact ⟨rfl, (unhide F3).trans ((unhide F5).mono (unhide F3).size)⟩
  have e0 : (decide (ln2 ≤ 100) && decide (tn2 ≤ 100)) = true := by rw [decide_eq_true hlight2.1, decide_eq_true hlight2.2]; rfl
  rw [e0]
  clear e0
  obtain ⟨⟨_, _, q2, _⟩, _⟩ := unhide KB w5 (unhide F5)
  by_cases hlen : S.size ≤ 1000
  case neg =>
    have h1 : (1000 : Int) < (S.size : Int) := by omega
    have h2 : 1000 < S.size := by omega
    go_wp2
    go_ret
    exact ⟨rfl, (unhide F3).trans ((unhide F5).mono (unhide F3).size)⟩
  have h1 : ¬ (1000 : Int) < (S.size : Int) := by omega
  have h2 : ¬ 1000 < S.size := by omega
  have hs6 : s.length ≤ 1000000 := by omega
  obtain ⟨r, hr⟩ : ∃ r, r = beginP ac nm (metP L rest).2.2 (metP L rest).1 lo0 := ⟨_, rfl⟩
  have HFit : Hid (∀ y, r = some y → (∀ t ∈ y.1, TyFit t) ∧ y.1.length ≤ 64 ∧ y.2 = []) := fun y hy => begin_fit (unhide HN).2.1 (unhide HN).2.2 (hr.symm.trans hy)
  have HP1 : Hid (∀ W, Calls Tryz.prog 8 #[.agg #[.slice none 0 0, .string ⟨nm.toArray⟩, .string ⟨#[]⟩, .slice none 0 0, .slice none 0 0], .agg #[.int .i64 ac, .string mn, .string S, .int .i64 st0, .int .i64 lo0, .slice ba bn bc, .slice ha hn hc, .slice ma mk mc]] W fun e w' => ∃ l s2 : Sl, e = .returned (.tuple #[.agg #[.slice l.a l.n l.c, .slice s2.a s2.n s2.c], .int .i64 (erV r)]) ∧ StV W.heap.size r w' l s2 ∧ Below W.heap.size W w') := fun W => by
    rw [hr]
    exact p11Begin_any W nm ac st0 lo0 mn S s (unhide HN).1 hs6 L rest (unhide HN).2.1 ba bn bc ha hn hc ma mk mc
  have HP2 : Hid (∀ W, Calls Tryz.prog 9 #[.agg #[.slice none 0 0, .string ⟨nm.toArray⟩, .string ⟨#[]⟩, .slice none 0 0, .slice none 0 0], .agg #[.int .i64 ac, .string mn, .string S, .int .i64 st0, .int .i64 lo0, .slice ba bn bc, .slice ha hn hc, .slice ma mk mc]] W fun e w' => ∃ l s2 : Sl, e = .returned (.tuple #[.agg #[.slice l.a l.n l.c, .slice s2.a s2.n s2.c], .int .i64 (erV r)]) ∧ StV W.heap.size r w' l s2 ∧ Below W.heap.size W w') := fun W => by
    rw [hr]
    exact q11Begin_any W nm ac st0 lo0 mn S s (unhide HN).1 hs6 L rest (unhide HN).2.1 ba bn bc ha hn hc ma mk mc
  clear hr hs6
  obtain ⟨w6, hw6⟩ : ∃ w6, w6 = w5.alloc (.cells #[.slice none 0 0, .string ⟨nm.toArray⟩, .string ⟨#[]⟩, .slice none 0 0, .slice none 0 0] 38) := ⟨_, rfl⟩
  have f56 : Below w5.heap.size w5 w6 := by rw [hw6]; exact bA (Below.refl _ _) _
  have F6 := hide ((unhide F5).trans (f56.mono (unhide F5).size))
  have hb6 : w6.heap[w5.heap.size]? = some (.cells #[.slice none 0 0, .string ⟨nm.toArray⟩, .string ⟨#[]⟩, .slice none 0 0, .slice none 0 0] 38 (0, 0)) := by rw [hw6]; exact heap_alloc_last _ _
  have HB6 := hide hb6
  obtain ⟨⟨m0, m1, m2, m3, m4, m5, m6, m7⟩, _⟩ := unhide KB w6 (unhide F6)
  rw [hw6] at m0 m1 m2 m3 m4 m5 m6 m7
  have HW6 := hide hw6
  clear hw6 f56 hb6
  go_wp2_with fail
  rw [← unhide HW6]
  refine (unhide HP1 w6).mono ?_
  rintro e w7 ⟨⟨a1, n1, c1⟩, ⟨d1, e1, g1⟩, rfl, sv1, f7⟩
  simp only at sv1 ⊢
  obtain ⟨w8, hw8⟩ : ∃ w8, w8 = w7.alloc (.cells #[.slice a1 n1 c1, .slice d1 e1 g1] 32) := ⟨_, rfl⟩
  have f68 : Below w6.heap.size w6 w8 := by rw [hw8]; exact bA f7 _
  have f78 : Below w7.heap.size w7 w8 := by rw [hw8]; exact bA (Below.refl _ _) _
  have F8 := hide ((unhide F6).trans (f68.mono (unhide F6).size))
  have hb8 : w8.heap[w7.heap.size]? = some (.cells #[.slice a1 n1 c1, .slice d1 e1 g1] 32 (0, 0)) := by rw [hw8]; exact heap_alloc_last _ _
  have SV1 := hide (sv1.keep f78)
  have HB8 := hide hb8
  have hc8 := (f68.block _ (lt_of_heap (unhide HB6))).trans (unhide HB6)
  have k0 := bx_cell hc8 0 _ rfl
  have k1 := bx_cell hc8 1 _ rfl
  have k2 := bx_cell hc8 2 _ rfl
  have k3 := bx_cell hc8 3 _ rfl
  have k4 := bx_cell hc8 4 _ rfl
  obtain ⟨⟨m0, m1, m2, m3, m4, m5, m6, m7⟩, _⟩ := unhide KB w8 (unhide F8)
  rw [hw8] at m0 m1 m2 m3 m4 m5 m6 m7 k0 k1 k2 k3 k4
  have HW8 := hide hw8
  clear hw8 f68 f78 hb8 sv1 f7 hc8
  go_wp2_with fail
  rw [← unhide HW8]
  refine (unhide HP2 w8).mono ?_
  rintro e w9 ⟨⟨a2, n2, c2⟩, ⟨d2, e2, g2⟩, rfl, sv2, f9⟩
  simp only at sv2 ⊢
  obtain ⟨w10, hw10⟩ : ∃ w10, w10 = w9.alloc (.cells #[.slice a2 n2 c2, .slice d2 e2 g2] 32) := ⟨_, rfl⟩
  have f810 : Below w8.heap.size w8 w10 := by rw [hw10]; exact bA f9 _
  have f910 : Below w9.heap.size w9 w10 := by rw [hw10]; exact bA (Below.refl _ _) _
  have F10 := hide ((unhide F8).trans (f810.mono (unhide F8).size))
  have hb10 : w10.heap[w9.heap.size]? = some (.cells #[.slice a2 n2 c2, .slice d2 e2 g2] 32 (0, 0)) := by rw [hw10]; exact heap_alloc_last _ _
  have SV2 := hide (sv2.keep f910)
  have SV1' := hide ((unhide SV1).keep f810)
  have HB8' := hide ((f810.block _ (lt_of_heap (unhide HB8))).trans (unhide HB8))
  have HB10 := hide hb10
  have HCl := hide (l11classes_any w10 ca cn cc l ((unhide HI).2.1.below ((unhide F3).trans ((unhide F10).mono (unhide F3).size))) hcn)
  have HW10 := hide hw10
  clear hw10 f810 f910 hb10 sv2 f9 SV1 HB8 HP1 HP2 HB6 HW6 HW8 m0 m1 m2 m3 m4 m5 m6 m7 k0 k1 k2 k3 k4
  go_wp2_with fail
  rw [← unhide HW10]
  refine (unhide HCl).mono ?_
  rintro e wz ⟨vk, rfl, ok, fz⟩
  obtain ⟨ka, kc, hk, _⟩ := ok.form
  subst hk
  have hk40 : (l.take 30).length ≤ 40 := by rw [List.length_take]; omega
  obtain ⟨kn, hkn⟩ : ∃ kn, kn = (l.take 30).length := ⟨_, rfl⟩
  rw [← hkn] at ok hk40 ⊢
  have HK := hide (ok.ls rkN)
  have Fz := hide ((unhide F10).trans (fz.mono (unhide F10).size))
  have Fw := hide ((unhide F3).trans ((unhide Fz).mono (unhide F3).size))
  have SVa := hide ((unhide SV1').keep fz)
  have SVb := hide ((unhide SV2).keep fz)
  have HBa := hide ((fz.block _ (lt_of_heap (unhide HB8'))).trans (unhide HB8'))
  have HBb := hide ((fz.block _ (lt_of_heap (unhide HB10))).trans (unhide HB10))
  clear ok hkn fz HCl HW10 SV1' SV2 HB8' HB10 F10 F8 F6
  have KZ : Hid (∀ W, Below wz.heap.size wz W → (W.cell? ⟨w7.heap.size, 0, none⟩ = some (.slice a1 n1 c1) ∧ W.cell? ⟨w7.heap.size, 1, none⟩ = some (.slice d1 e1 g1)) ∧ (W.cell? ⟨w9.heap.size, 0, none⟩ = some (.slice a2 n2 c2) ∧ W.cell? ⟨w9.heap.size, 1, none⟩ = some (.slice d2 e2 g2)) ∧ (W.cell? ⟨w.heap.size + 1, 0, none⟩ = some (.slice la ln lc) ∧ W.cell? ⟨w.heap.size + 1, 1, none⟩ = some (.slice ta tn tc)) ∧ W.cell? ⟨w.heap.size + 1 + 1, 0, none⟩ = some (.slice la2 ln2 lc2) ∧ W.cell? ⟨w.heap.size + 1 + 1, 1, none⟩ = some (.slice ta2 tn2 tc2)) := fun W f => by
    have e1 := (f.block _ (lt_of_heap (unhide HBa))).trans (unhide HBa)
    have e2 := (f.block _ (lt_of_heap (unhide HBb))).trans (unhide HBb)
    obtain ⟨_, h3, h4, h5⟩ := unhide KB W ((unhide Fz).trans (f.mono (unhide Fz).size))
    exact ⟨⟨bx_cell e1 0 _ rfl, bx_cell e1 1 _ rfl⟩, ⟨bx_cell e2 0 _ rfl, bx_cell e2 1 _ rfl⟩, h3, h4, h5⟩
  have HFr : Hid (∀ W, Below wz.heap.size wz W → FrIn W ⟨la, ln, lc⟩ ⟨ta, tn, tc⟩ u1 v1 ∧ FrIn W ⟨la2, ln2, lc2⟩ ⟨ta2, tn2, tc2⟩ u2 v2 ∧ Ls 5 ncc W ka kn (l.take 30)) := fun W f => by
    have fw := (unhide Fw).trans (f.mono (unhide Fw).size)
    obtain ⟨_, _, ⟨x1, x2, x3, x4⟩, y1, y2, y3, y4⟩ := unhide HI
    exact ⟨⟨x1.ls.below fw, x2.ls.below fw, x3, x4, by simp only; omega, by simp only; omega⟩, ⟨y1.ls.below fw, y2.ls.below fw, y3, y4, by simp only; omega, by simp only; omega⟩, (unhide HK).below f⟩
  have HTs : Hid (∀ W, Below wz.heap.size wz W → TsIn W ⟨la, ln, lc⟩ u1 ∧ TsIn W ⟨ta, tn, tc⟩ v1 ∧ TsIn W ⟨la2, ln2, lc2⟩ u2 ∧ TsIn W ⟨ta2, tn2, tc2⟩ v2) := fun W f => by
    have fw := (unhide Fw).trans (f.mono (unhide Fw).size)
    obtain ⟨_, _, ⟨x1, x2, x3, x4⟩, y1, y2, y3, y4⟩ := unhide HI
    exact ⟨⟨x1.ls.below fw, x1.nil, by simp only; omega⟩, ⟨x2.ls.below fw, x2.nil, by simp only; omega⟩, ⟨y1.ls.below fw, y1.nil, by simp only; omega⟩, ⟨y2.ls.below fw, y2.nil, by simp only; omega⟩⟩
  have HSF : Hid (∀ W, Below wz.heap.size wz W → Calls Tryz.prog 11 #[.agg #[.slice a1 n1 c1, .slice d1 e1 g1], .agg #[.slice a2 n2 c2, .slice d2 e2 g2]] W fun e w' => e = .returned (.bool true) ∧ Below W.heap.size W w') := fun W f =>
    SameFrame_stv W r _ _ ⟨a1, n1, c1⟩ ⟨d1, e1, g1⟩ ⟨a2, n2, c2⟩ ⟨d2, e2, g2⟩ ((unhide SVa).keep f) ((unhide SVb).keep f) (unhide HFit)
  have HTz : Hid (∀ W, Below wz.heap.size wz W → Calls Tryz.prog 17 #[] W fun e w' => e = .returned (.bool true) ∧ Below W.heap.size W w') := fun W f => works11_any W ((unhide HI).1.below ((unhide Fw).trans (f.mono (unhide Fw).size)))
  obtain ⟨R, hR⟩ : ∃ R, R = (allM (l.take 30) u1 u2 && allM (l.take 30) v1 v2) := ⟨_, rfl⟩
  have HR := hide hR
  clear hR
  go_wp2_with fail
  refine wp_region_tells (fun u v => Below u.heap.size u v) [
    (fun v W => v = .agg #[.slice a1 n1 c1, .slice d1 e1 g1]),
    (fun v W => v = .agg #[.slice a2 n2 c2, .slice d2 e2 g2]),
    (fun v W => v = .bool true),
    (fun v W => v = .bool true),
    (fun v W => v = .int .i64 (erV r)),
    (fun v W => v = .int .i64 (erV r)),
    (fun v W => v = .bool true),
    (fun v W => v = .bool true),
    (fun v W => v = .bool true),
    (fun v W => v = .slice ka kn kc),
    (fun v W => v = .agg #[.slice la ln lc, .slice ta tn tc]),
    (fun v W => ∃ lo st : Sl, v = .agg #[.slice lo.a lo.n lo.c, .slice st.a st.n st.c] ∧ FrIn W lo st u1 v1),
    (fun v W => v = .agg #[.slice la2 ln2 lc2, .slice ta2 tn2 tc2]),
    (fun v W => ∃ lo st : Sl, v = .agg #[.slice lo.a lo.n lo.c, .slice st.a st.n st.c] ∧ FrIn W lo st u2 v2),
    (fun v W => v = .bool R),
    (fun v W => v = .slice ka kn kc),
    (fun v W => v = .agg #[.slice la ln lc, .slice ta tn tc]),
    (fun v W => v = .agg #[.slice la2 ln2 lc2, .slice ta2 tn2 tc2]),
    (fun v W => v = .bool R),
    (fun v W => v = .bool true),
    (fun v W => v = .bool true),
    (fun v W => v = .bool true),
    (fun v W => v = .agg #[.slice la ln lc, .slice ta tn tc]),
    (fun v W => v = .int .i64 (wideN v1 : Nat)),
    (fun v W => v = .pointer (some ⟨w.heap.size + 1, 1, none⟩)),
    (fun v W => v = .slice ta tn tc),
    (fun v W => v = .int .i64 (wideN v1 : Nat)),
    (fun v W => v = .bool true),
    (fun v W => v = .bool true),
    (fun v W => v = .bool true),
    (fun v W => v = .bool true),
    (fun v W => v = .bool true),
    (fun v W => v = .bool true)] 79
    [[], [], [(0, some 47), (1, some 48)], [(2, some 49)], [(3, some 50)], [(3, some 50)], [(3, some 50), (4, some 51), (5, some 52)], [(3, some 50), (6, some 53)], [(7, some 54)], [(8, some 55)], [(8, some 55)], [(8, some 55), (10, some 57)], [(8, some 55)], [(8, some 55), (12, some 59)], [(8, some 55), (9, some 56), (11, some 58), (13, some 60)], [(8, some 55)], [(8, some 55)], [(8, some 55)], [(8, some 55), (15, some 62), (16, some 63), (17, some 64)], [(8, some 55), (14, some 61), (18, some 65)], [(8, some 55), (19, some 66)], [(20, some 67)], [(21, some 68)], [(21, some 68), (22, some 69)], [(21, some 68)], [(21, some 68), (24, some 71)], [(21, some 68), (25, some 72)], [(21, some 68), (23, some 70), (26, some 73)], [(21, some 68), (27, some 74)], [(28, some 75)], [(29, some 76)], [(29, some 76), (30, some 77)], [(31, some 78)]]
    [(0, some 47), (1, some 48), (2, some 49), (3, some 50), (4, some 51), (5, some 52), (6, some 53), (7, some 54), (8, some 55), (9, some 56), (10, some 57), (11, some 58), (12, some 59), (13, some 60), (14, some 61), (15, some 62), (16, some 63), (17, some 64), (18, some 65), (19, some 66), (20, some 67), (21, some 68), (22, some 69), (23, some 70), (24, some 71), (25, some 72), (26, some 73), (27, some 74), (28, some 75), (29, some 76), (30, some 77), (31, some 78), (32, some 10)]
    (by kernel_rfl) (by kernel_rfl) rfl (fun _ => Below.refl _ _) (fun _ _ _ h1 h2 => h1.trans (h2.mono h1.size)) ?_ ?_ ?_
  · intro r hr
    simp only [List.mem_cons, List.not_mem_nil, or_false] at hr
    rcases hr with rfl | rfl | rfl | rfl | rfl | rfl | rfl | rfl | rfl | rfl | rfl | rfl | rfl | rfl | rfl | rfl | rfl | rfl | rfl | rfl | rfl | rfl | rfl | rfl | rfl | rfl | rfl | rfl | rfl | rfl | rfl | rfl | rfl
    · intro v W W2 h f
      exact h
    · intro v W W2 h f
      exact h
    · intro v W W2 h f
      exact h
    · intro v W W2 h f
      exact h
    · intro v W W2 h f
      exact h
    · intro v W W2 h f
      exact h
    · intro v W W2 h f
      exact h
    · intro v W W2 h f
      exact h
    · intro v W W2 h f
      exact h
    · intro v W W2 h f
      exact h
    · intro v W W2 h f
      exact h
    · intro v W W2 h f
      obtain ⟨lo, st, rfl, h1⟩ := h
      exact ⟨lo, st, rfl, h1.below f⟩
    · intro v W W2 h f
      exact h
    · intro v W W2 h f
      obtain ⟨lo, st, rfl, h1⟩ := h
      exact ⟨lo, st, rfl, h1.below f⟩
    · intro v W W2 h f
      exact h
    · intro v W W2 h f
      exact h
    · intro v W W2 h f
      exact h
    · intro v W W2 h f
      exact h
    · intro v W W2 h f
      exact h
    · intro v W W2 h f
      exact h
    · intro v W W2 h f
      exact h
    · intro v W W2 h f
      exact h
    · intro v W W2 h f
      exact h
    · intro v W W2 h f
      exact h
    · intro v W W2 h f
      exact h
    · intro v W W2 h f
      exact h
    · intro v W W2 h f
      exact h
    · intro v W W2 h f
      exact h
    · intro v W W2 h f
      exact h
    · intro v W W2 h f
      exact h
    · intro v W W2 h f
      exact h
    · intro v W W2 h f
      exact h
    · intro v W W2 h f
      exact h
  · refine ⟨?_, ?_, ?_, ?_, ?_, ?_, ?_, ?_, ?_, ?_, ?_, ?_, ?_, ?_, ?_, ?_, ?_, ?_, ?_, ?_, ?_, ?_, ?_, ?_, ?_, ?_, ?_, ?_, ?_, ?_, ?_, ?_, ?_, trivial⟩
    · intro W hG
      have HG : Below wz.heap.size wz W := (Below.refl _ _).drew.trans hG
      simp only [ForDeps, rAt]
      obtain ⟨⟨p0, p1⟩, ⟨p2, p3⟩, ⟨p4, p5⟩, p6, p7⟩ := unhide KZ W HG
      refine Tells.yields (v := ?_) (by rfl) (Below.refl _ _) ?_ ?_
      rotate_left
      focus ((go_simp) <;> with_reducible rfl)
      exact rfl
    · intro W hG
      have HG : Below wz.heap.size wz W := (Below.refl _ _).drew.trans hG
      simp only [ForDeps, rAt]
      obtain ⟨⟨p0, p1⟩, ⟨p2, p3⟩, ⟨p4, p5⟩, p6, p7⟩ := unhide KZ W HG
      refine Tells.yields (v := ?_) (by rfl) (Below.refl _ _) ?_ ?_
      rotate_left
      focus ((go_simp) <;> with_reducible rfl)
      exact rfl
    · intro W hG
      have HG : Below wz.heap.size wz W := (Below.refl _ _).drew.trans hG
      simp only [ForDeps, rAt]
      rintro _ rfl _ rfl
      simp only [Act.put, List.setIfInBounds_toArray, List.set_cons_zero, List.set_cons_succ]
      refine Tells.does (by rfl) (fun K hK => ?_)
      have HC := unhide HSF W HG
      go_simp
      go_wp2_with (go_at_call 11; refine HC.mono ?_; rintro e W' ⟨rfl, f⟩)
      exact hK.out _ _ f rfl
    · intro W hG
      have HG : Below wz.heap.size wz W := (Below.refl _ _).drew.trans hG
      simp only [ForDeps, rAt]
      rintro _ rfl
      simp only [Act.put, List.setIfInBounds_toArray, List.set_cons_zero, List.set_cons_succ]
      refine Tells.yields (v := ?_) (by rfl) (Below.refl _ _) ?_ ?_
      rotate_left
      focus ((go_simp) <;> with_reducible rfl)
      exact rfl
    · intro W hG
      have HG : Below wz.heap.size wz W := (Below.refl _ _).drew.trans hG
      simp only [ForDeps, rAt]
      rintro _ rfl
      simp only [Act.put, List.setIfInBounds_toArray, List.set_cons_zero, List.set_cons_succ]
      refine Tells.yields (v := ?_) (by rfl) (Below.refl _ _) ?_ ?_
      rotate_left
      focus ((go_simp) <;> with_reducible rfl)
      exact rfl
    · intro W hG
      have HG : Below wz.heap.size wz W := (Below.refl _ _).drew.trans hG
      simp only [ForDeps, rAt]
      rintro _ rfl
      simp only [Act.put, List.setIfInBounds_toArray, List.set_cons_zero, List.set_cons_succ]
      refine Tells.yields (v := ?_) (by rfl) (Below.refl _ _) ?_ ?_
      rotate_left
      focus ((go_simp) <;> with_reducible rfl)
      exact rfl
    · intro W hG
      have HG : Below wz.heap.size wz W := (Below.refl _ _).drew.trans hG
      simp only [ForDeps, rAt]
      rintro _ rfl _ rfl _ rfl
      simp only [Act.put, List.setIfInBounds_toArray, List.set_cons_zero, List.set_cons_succ]
      refine Tells.yields (v := ?_) (by rfl) (Below.refl _ _) ?_ ?_
      rotate_left
      focus ((go_simp) <;> with_reducible rfl)
      exact rfl
    · intro W hG
      have HG : Below wz.heap.size wz W := (Below.refl _ _).drew.trans hG
      simp only [ForDeps, rAt]
      rintro _ rfl _ rfl
      simp only [Act.put, List.setIfInBounds_toArray, List.set_cons_zero, List.set_cons_succ]
      refine Tells.yields (v := ?_) (by rfl) (Below.refl _ _) ?_ ?_
      rotate_left
      focus ((go_simp) <;> with_reducible rfl)
      exact rfl
    · intro W hG
      have HG : Below wz.heap.size wz W := (Below.refl _ _).drew.trans hG
      simp only [ForDeps, rAt]
      rintro _ rfl
      simp only [Act.put, List.setIfInBounds_toArray, List.set_cons_zero, List.set_cons_succ]
      refine Tells.yields (v := ?_) (by rfl) (Below.refl _ _) ?_ ?_
      rotate_left
      focus ((go_simp) <;> with_reducible rfl)
      exact rfl
    · intro W hG
      have HG : Below wz.heap.size wz W := (Below.refl _ _).drew.trans hG
      simp only [ForDeps, rAt]
      rintro _ rfl
      simp only [Act.put, List.setIfInBounds_toArray, List.set_cons_zero, List.set_cons_succ]
      refine Tells.yields (v := ?_) (by rfl) (Below.refl _ _) ?_ ?_
      rotate_left
      focus ((go_simp) <;> with_reducible rfl)
      exact rfl
    · intro W hG
      have HG : Below wz.heap.size wz W := (Below.refl _ _).drew.trans hG
      simp only [ForDeps, rAt]
      rintro _ rfl
      simp only [Act.put, List.setIfInBounds_toArray, List.set_cons_zero, List.set_cons_succ]
      obtain ⟨⟨p0, p1⟩, ⟨p2, p3⟩, ⟨p4, p5⟩, p6, p7⟩ := unhide KZ W HG
      refine Tells.yields (v := ?_) (by rfl) (Below.refl _ _) ?_ ?_
      rotate_left
      focus ((go_simp) <;> with_reducible rfl)
      exact rfl
    · intro W hG
      have HG : Below wz.heap.size wz W := (Below.refl _ _).drew.trans hG
      simp only [ForDeps, rAt]
      rintro _ rfl _ rfl
      simp only [Act.put, List.setIfInBounds_toArray, List.set_cons_zero, List.set_cons_succ]
      refine Tells.does (by rfl) (fun K hK => ?_)
      have HC := l11own_any W la ln lc ta tn tc u1 v1 ((unhide HTs W HG).1) ((unhide HTs W HG).2.1)
      go_simp
      go_wp2_with (go_at_call 13; refine HC.mono ?_; rintro e W' ⟨lx, sx, rfl, ol, os, f, _⟩)
      refine hK.out _ _ f ⟨lx, sx, rfl, ?_⟩
      obtain ⟨z1, z2, _⟩ := unhide HFr W HG
      have zl := Orw.ls rkT (a := lx.a) (n := lx.n) (c := lx.c) ol
      have zs := Orw.ls rkT (a := sx.a) (n := sx.n) (c := sx.c) os
      exact ⟨zl, zs, z1.lok, z1.sok, by have t1 := zl.1; have t2 := z1.ll.1; have t3 := z1.lon; simp only at t2 t3; omega, by have t1 := zs.1; have t2 := z1.sl.1; have t3 := z1.stn; simp only at t2 t3; omega⟩
    · intro W hG
      have HG : Below wz.heap.size wz W := (Below.refl _ _).drew.trans hG
      simp only [ForDeps, rAt]
      rintro _ rfl
      simp only [Act.put, List.setIfInBounds_toArray, List.set_cons_zero, List.set_cons_succ]
      obtain ⟨⟨p0, p1⟩, ⟨p2, p3⟩, ⟨p4, p5⟩, p6, p7⟩ := unhide KZ W HG
      refine Tells.yields (v := ?_) (by rfl) (Below.refl _ _) ?_ ?_
      rotate_left
      focus ((go_simp) <;> with_reducible rfl)
      exact rfl
    · intro W hG
      have HG : Below wz.heap.size wz W := (Below.refl _ _).drew.trans hG
      simp only [ForDeps, rAt]
      rintro _ rfl _ rfl
      simp only [Act.put, List.setIfInBounds_toArray, List.set_cons_zero, List.set_cons_succ]
      refine Tells.does (by rfl) (fun K hK => ?_)
      have HC := l11own_any W la2 ln2 lc2 ta2 tn2 tc2 u2 v2 ((unhide HTs W HG).2.2.1) ((unhide HTs W HG).2.2.2)
      go_simp
      go_wp2_with (go_at_call 13; refine HC.mono ?_; rintro e W' ⟨lx, sx, rfl, ol, os, f, _⟩)
      refine hK.out _ _ f ⟨lx, sx, rfl, ?_⟩
      obtain ⟨z1, z2, _⟩ := unhide HFr W HG
      have zl := Orw.ls rkT (a := lx.a) (n := lx.n) (c := lx.c) ol
      have zs := Orw.ls rkT (a := sx.a) (n := sx.n) (c := sx.c) os
      exact ⟨zl, zs, z2.lok, z2.sok, by have t1 := zl.1; have t2 := z2.ll.1; have t3 := z2.lon; simp only at t2 t3; omega, by have t1 := zs.1; have t2 := z2.sl.1; have t3 := z2.stn; simp only at t2 t3; omega⟩
    · intro W hG
      have HG : Below wz.heap.size wz W := (Below.refl _ _).drew.trans hG
      simp only [ForDeps, rAt]
      rintro _ rfl _ rfl x11 ⟨l11, s11, rfl, o11⟩ x13 ⟨l13, s13, rfl, o13⟩
      simp only [Act.put, List.setIfInBounds_toArray, List.set_cons_zero, List.set_cons_succ]
      refine Tells.does (by rfl) (fun K hK => ?_)
      have HC := p11May_any W ka kn kc (l.take 30) (unhide HFr W HG).2.2 hk40 _ _ _ _ _ _ _ _ o11 o13
      unfold Sl.v at HC
      rw [← unhide HR] at HC
      go_simp
      go_wp2_with (go_at_call 12; refine HC.mono ?_; rintro e W' ⟨rfl, f⟩)
      exact hK.out _ _ f rfl
    · intro W hG
      have HG : Below wz.heap.size wz W := (Below.refl _ _).drew.trans hG
      simp only [ForDeps, rAt]
      rintro _ rfl
      simp only [Act.put, List.setIfInBounds_toArray, List.set_cons_zero, List.set_cons_succ]
      refine Tells.yields (v := ?_) (by rfl) (Below.refl _ _) ?_ ?_
      rotate_left
      focus ((go_simp) <;> with_reducible rfl)
      exact rfl
    · intro W hG
      have HG : Below wz.heap.size wz W := (Below.refl _ _).drew.trans hG
      simp only [ForDeps, rAt]
      rintro _ rfl
      simp only [Act.put, List.setIfInBounds_toArray, List.set_cons_zero, List.set_cons_succ]
      obtain ⟨⟨p0, p1⟩, ⟨p2, p3⟩, ⟨p4, p5⟩, p6, p7⟩ := unhide KZ W HG
      refine Tells.yields (v := ?_) (by rfl) (Below.refl _ _) ?_ ?_
      rotate_left
      focus ((go_simp) <;> with_reducible rfl)
      exact rfl
    · intro W hG
      have HG : Below wz.heap.size wz W := (Below.refl _ _).drew.trans hG
      simp only [ForDeps, rAt]
      rintro _ rfl
      simp only [Act.put, List.setIfInBounds_toArray, List.set_cons_zero, List.set_cons_succ]
      obtain ⟨⟨p0, p1⟩, ⟨p2, p3⟩, ⟨p4, p5⟩, p6, p7⟩ := unhide KZ W HG
      refine Tells.yields (v := ?_) (by rfl) (Below.refl _ _) ?_ ?_
      rotate_left
      focus ((go_simp) <;> with_reducible rfl)
      exact rfl
    · intro W hG
      have HG : Below wz.heap.size wz W := (Below.refl _ _).drew.trans hG
      simp only [ForDeps, rAt]
      rintro _ rfl _ rfl _ rfl _ rfl
      simp only [Act.put, List.setIfInBounds_toArray, List.set_cons_zero, List.set_cons_succ]
      refine Tells.does (by rfl) (fun K hK => ?_)
      have HC := q11May_any W ka kn kc (l.take 30) (unhide HFr W HG).2.2 hk40 _ _ _ _ _ _ _ _ (unhide HFr W HG).1 (unhide HFr W HG).2.1
      unfold Sl.v at HC
      simp only at HC
      rw [← unhide HR] at HC
      go_simp
      go_wp2_with (go_at_call 14; refine HC.mono ?_; rintro e W' ⟨rfl, f⟩)
      exact hK.out _ _ f rfl
    · intro W hG
      have HG : Below wz.heap.size wz W := (Below.refl _ _).drew.trans hG
      simp only [ForDeps, rAt]
      rintro _ rfl _ rfl _ rfl
      simp only [Act.put, List.setIfInBounds_toArray, List.set_cons_zero, List.set_cons_succ]
      refine Tells.yields (v := ?_) (by rfl) (Below.refl _ _) ?_ ?_
      rotate_left
      focus ((go_simp) <;> with_reducible rfl)
      exact rfl
    · intro W hG
      have HG : Below wz.heap.size wz W := (Below.refl _ _).drew.trans hG
      simp only [ForDeps, rAt]
      rintro _ rfl _ rfl
      simp only [Act.put, List.setIfInBounds_toArray, List.set_cons_zero, List.set_cons_succ]
      refine Tells.yields (v := ?_) (by rfl) (Below.refl _ _) ?_ ?_
      rotate_left
      focus ((go_simp) <;> with_reducible rfl)
      exact rfl
    · intro W hG
      have HG : Below wz.heap.size wz W := (Below.refl _ _).drew.trans hG
      simp only [ForDeps, rAt]
      rintro _ rfl
      simp only [Act.put, List.setIfInBounds_toArray, List.set_cons_zero, List.set_cons_succ]
      refine Tells.yields (v := ?_) (by rfl) (Below.refl _ _) ?_ ?_
      rotate_left
      focus ((go_simp) <;> with_reducible rfl)
      exact rfl
    · intro W hG
      have HG : Below wz.heap.size wz W := (Below.refl _ _).drew.trans hG
      simp only [ForDeps, rAt]
      rintro _ rfl
      simp only [Act.put, List.setIfInBounds_toArray, List.set_cons_zero, List.set_cons_succ]
      obtain ⟨⟨p0, p1⟩, ⟨p2, p3⟩, ⟨p4, p5⟩, p6, p7⟩ := unhide KZ W HG
      refine Tells.yields (v := ?_) (by rfl) (Below.refl _ _) ?_ ?_
      rotate_left
      focus ((go_simp) <;> with_reducible rfl)
      exact rfl
    · intro W hG
      have HG : Below wz.heap.size wz W := (Below.refl _ _).drew.trans hG
      simp only [ForDeps, rAt]
      rintro _ rfl _ rfl
      simp only [Act.put, List.setIfInBounds_toArray, List.set_cons_zero, List.set_cons_succ]
      refine Tells.does (by rfl) (fun K hK => ?_)
      have HC := p11Words_any W (.slice la ln lc) ta tn tc v1 (unhide HFr W HG).1.sl (by omega)
      go_simp
      go_wp2_with (go_at_call 15; refine HC.mono ?_; rintro e W' ⟨rfl, f⟩)
      exact hK.out _ _ f rfl
    · intro W hG
      have HG : Below wz.heap.size wz W := (Below.refl _ _).drew.trans hG
      simp only [ForDeps, rAt]
      rintro _ rfl
      simp only [Act.put, List.setIfInBounds_toArray, List.set_cons_zero, List.set_cons_succ]
      refine Tells.yields (v := ?_) (by rfl) (Below.refl _ _) ?_ ?_
      rotate_left
      focus ((go_simp) <;> with_reducible rfl)
      exact rfl
    · intro W hG
      have HG : Below wz.heap.size wz W := (Below.refl _ _).drew.trans hG
      simp only [ForDeps, rAt]
      rintro _ rfl _ rfl
      simp only [Act.put, List.setIfInBounds_toArray, List.set_cons_zero, List.set_cons_succ]
      obtain ⟨⟨p0, p1⟩, ⟨p2, p3⟩, ⟨p4, p5⟩, p6, p7⟩ := unhide KZ W HG
      refine Tells.yields (v := ?_) (by rfl) (Below.refl _ _) ?_ ?_
      rotate_left
      focus ((go_simp) <;> with_reducible rfl)
      exact rfl
    · intro W hG
      have HG : Below wz.heap.size wz W := (Below.refl _ _).drew.trans hG
      simp only [ForDeps, rAt]
      rintro _ rfl _ rfl
      simp only [Act.put, List.setIfInBounds_toArray, List.set_cons_zero, List.set_cons_succ]
      refine Tells.does (by rfl) (fun K hK => ?_)
      have HC := x10Wide_any W ta tn tc v1 (unhide HFr W HG).1.sl (by omega)
      go_simp
      go_wp2_with (go_at_call 16; refine HC.mono ?_; rintro e W' ⟨rfl, f⟩)
      exact hK.out _ _ f rfl
    · intro W hG
      have HG : Below wz.heap.size wz W := (Below.refl _ _).drew.trans hG
      simp only [ForDeps, rAt]
      rintro _ rfl _ rfl _ rfl
      simp only [Act.put, List.setIfInBounds_toArray, List.set_cons_zero, List.set_cons_succ]
      refine Tells.yields (v := ?_) (by rfl) (Below.refl _ _) ?_ ?_
      rotate_left
      focus ((go_simp) <;> with_reducible rfl)
      exact rfl
    · intro W hG
      have HG : Below wz.heap.size wz W := (Below.refl _ _).drew.trans hG
      simp only [ForDeps, rAt]
      rintro _ rfl _ rfl
      simp only [Act.put, List.setIfInBounds_toArray, List.set_cons_zero, List.set_cons_succ]
      refine Tells.yields (v := ?_) (by rfl) (Below.refl _ _) ?_ ?_
      rotate_left
      focus ((go_simp) <;> with_reducible rfl)
      exact rfl
    · intro W hG
      have HG : Below wz.heap.size wz W := (Below.refl _ _).drew.trans hG
      simp only [ForDeps, rAt]
      rintro _ rfl
      simp only [Act.put, List.setIfInBounds_toArray, List.set_cons_zero, List.set_cons_succ]
      refine Tells.yields (v := ?_) (by rfl) (Below.refl _ _) ?_ ?_
      rotate_left
      focus ((go_simp) <;> with_reducible rfl)
      exact rfl
    · intro W hG
      have HG : Below wz.heap.size wz W := (Below.refl _ _).drew.trans hG
      simp only [ForDeps, rAt]
      rintro _ rfl
      simp only [Act.put, List.setIfInBounds_toArray, List.set_cons_zero, List.set_cons_succ]
      refine Tells.does (by rfl) (fun K hK => ?_)
      have HC := unhide HTz W HG
      go_simp
      go_wp2_with (go_at_call 17; refine HC.mono ?_; rintro e W' ⟨rfl, f⟩)
      exact hK.out _ _ f rfl
    · intro W hG
      have HG : Below wz.heap.size wz W := (Below.refl _ _).drew.trans hG
      simp only [ForDeps, rAt]
      rintro _ rfl _ rfl
      simp only [Act.put, List.setIfInBounds_toArray, List.set_cons_zero, List.set_cons_succ]
      refine Tells.yields (v := ?_) (by rfl) (Below.refl _ _) ?_ ?_
      rotate_left
      focus ((go_simp) <;> with_reducible rfl)
      exact rfl
    · intro W hG
      have HG : Below wz.heap.size wz W := (Below.refl _ _).drew.trans hG
      simp only [ForDeps, rAt]
      rintro _ rfl
      simp only [Act.put, List.setIfInBounds_toArray, List.set_cons_zero, List.set_cons_succ]
      refine Tells.yields (v := ?_) (by rfl) (Below.refl _ _) ?_ ?_
      rotate_left
      focus ((go_simp) <;> with_reducible rfl)
      exact rfl
  · intro W hG
    have HG : Below wz.heap.size wz W := (Below.refl _ _).drew.trans hG
    simp only [ForDeps, rAt]
    intro x0 h0 x1 h1 x2 h2 x3 h3 x4 h4 x5 h5 x6 h6 x7 h7 x8 h8 x9 h9 x10 h10 x11 h11 x12 h12 x13 h13 x14 h14 x15 h15 x16 h16 x17 h17 x18 h18 x19 h19 x20 h20 x21 h21 x22 h22 x23 h23 x24 h24 x25 h25 x26 h26 x27 h27 x28 h28 x29 h29 x30 h30 x31 h31 x32 h32
    simp only [Act.put, List.setIfInBounds_toArray, List.set_cons_zero, List.set_cons_succ]
    subst h32
    have F9 := hide ((unhide Fw).trans (HG.mono (unhide Fw).size))
    clear hG HG
    go_wp2
    go_ret
    exact ⟨rfl, unhide F9⟩
end Go.Proofs.YthenefjoidckkaaGreatDoor

/- Layer 11: a method that came in. -/
namespace Go.Proofs.YthenefjoidckkaaGreatDoor
open Go.ChangeShapes Go.WideShapes Go.ChangeAt Go.RowKit
set_option linter.unusedVariables false
set_option maxRecDepth 100000

theorem method_arg {H : Type} {enc : TypeId × Value → H} {W : World} {base b2 : Nat} {v : Value} {d : DataW H} {p : List MemPlace} (hv : Value.okWide Tryz.prog W .any b2 29 v)
    (h0 : DataW.Trod enc Tryz.prog W base (fun _ => true) true 29 v d p) (hw : ∀ m ∈ d.weights Tryz.prog 29, m ≤ reachBytes) : ∃ r : MdR, v = .agg (mdc r).toArray ∧ MdIn W r := by
  obtain ⟨fuel, h⟩ := h0
  simp only [Value.okWide, Tryz.underlying29] at hv
  obtain ⟨cs0, rfl, _⟩ := hv
  obtain ⟨y, e, hy⟩ := md_cells fuel _ (d, p) h hw
  refine ⟨y, ?_, hy⟩
  congr 1
  apply Array.toList_inj.1
  have hcs : (Value.agg cs0).cells.toList = cs0.toList := by simp [Value.cells]
  rw [hcs] at e
  rw [e]
end Go.Proofs.YthenefjoidckkaaGreatDoor
