/- The walk of KindStands. -/
import Derived.Test.YtjhiflhmefhogaaJKsQ
import Derived.Test.YtjhiflhmefhogaaJKsL

namespace Go.Proofs.Ytjhiflhmefhogaa
open Go.RowKit Go.Shelf
set_option linter.unusedVariables false
set_option maxRecDepth 100000

set_option maxHeartbeats 1600000 in
theorem SameTexts_st (w : World) (a b : Option Addr) (n c d : Nat) (x : List (List UInt8)) (hA : Ls 1 stc w a n x) (hB : Ls 1 stc w b n x) (hs : n ≤ 1000000) :
    Calls Try.prog 24 #[.slice a n c, .slice b n d] w fun e w' => e = .returned (.bool true) ∧ Below w.heap.size w w' := by
  have hln := hA.1
  have HA := hide hA
  have HB := hide hB
  clear hA hB
  go_enter Try.func24, Try.ntmps24
  go_wp2
  go_loopw [5] (fun i wr => ∃ k : Nat, k ≤ n ∧ i = .int .i64 k ∧ Below w.heap.size w wr) (fun i _ => n - (intOf i).toNat)
  case atStart => exact ⟨0, by omega, rfl, Below.refl _ _⟩
  case round =>
    obtain ⟨k, hk, rfl, hR⟩ := hrel
    by_cases hlt : k < n
    · have hlt1 : (k : Int) < (n : Int) := by omega
      obtain ⟨b1, o1, h1a, h1⟩ := Ls.row (unhide HA) (w' := wr) (by omega)
      obtain ⟨b2, o2, h2a, h2⟩ := Ls.row (unhide HB) (w' := wr) (by omega)
      subst h1a h2a
      obtain ⟨r, hr⟩ : ∃ r, x[k]? = some r := ⟨_, List.getElem?_eq_getElem (by omega)⟩
      have c0 := (h1 hR k r hr) 0 _ rfl
      have d0 := (h2 hR k r hr) 0 _ rfl
      rw [Nat.mul_one, Nat.add_zero] at c0 d0
      generalize (⟨r.toArray⟩ : ByteArray) = st at *
      have HR := hide hR
      clear h1 h2 hr hR
      go_wp2
      go_quiet (fail)
      go_wp2
      go_roundw
      case rel => exact ⟨k + 1, by omega, by go_num, below_drewN (unhide HR) _⟩
      case measure => simp [intOf]; omega
    · obtain rfl : k = n := by omega
      have HR := hide hR
      clear hR
      go_wp2
      go_ret
      exact ⟨rfl, unhide HR⟩
set_option maxHeartbeats 3200000 in
theorem kstands_walk (w : World) (a : Option Addr) (n c : Nat) (l : List Nc) (hL : Ls 2 nc2 w a n l) (hn : n ≤ 140737488351232) (x y : Ty) (hx : TyIn x) (hy : TyIn y) :
    Calls Try.prog 5 #[.slice a n c, tyV x, tyV y] w fun e w' => e = .returned (.bool true) ∧ Below w.heap.size w w' := by
  have hx1 := hx.name
  have hy1 := hy.name
  unfold nmFit at hx1 hy1
  obtain ⟨X, hX⟩ := Str.of x.name
  obtain ⟨Y, hY⟩ := Str.of y.name
  unfold tyV
  rw [← hX.eq, ← hY.eq]
  obtain ⟨w0, hw0, b1, b2, f0⟩ := may_boxes w x.kind y.kind X Y
  have HW0 := hide hw0
  have HB0 : Hid (Bx2c w0 w.heap.size (.int .i64 x.kind) (.string X) ∧ Bx2c w0 (w.heap.size + 1) (.int .i64 y.kind) (.string Y)) := ⟨b1, b2⟩
  have F0 := hide f0
  have HMY : Hid (∀ W va m vc, Ls 5 ncc W va m (l.take 40) → m ≤ 40 → Calls Try.prog 27 #[.slice va m vc, .agg #[.int .i64 x.kind, .string X], .agg #[.int .i64 y.kind, .string Y]] W fun e w' => e = .returned (.bool (mayP (l.take 40) x.name.length x y)) ∧ Below W.heap.size W w') := fun W va m vc hLs hm => yMay_any _ W va m vc (l.take 40) hLs hm X Y x y hX hY (Nat.le_refl _) hx1 hy1
  have HMX : Hid (∀ W va m vc, Ls 5 ncc W va m (l.take 40) → m ≤ 40 → Calls Try.prog 28 #[.slice va m vc, .agg #[.int .i64 x.kind, .string X], .agg #[.int .i64 y.kind, .string Y]] W fun e w' => e = .returned (.bool (mayP (l.take 40) x.name.length x y)) ∧ Below W.heap.size W w') := fun W va m vc hLs hm => x10May_any _ W va m vc (l.take 40) hLs hm X Y x y hX hY (Nat.le_refl _) hx1 hy1
  have HAY : Hid (∀ W va m vc, Ls 5 ncc W va m (l.take 40) → m ≤ 40 → Calls Try.prog 25 #[.slice va m vc, .string X] W fun e w' => ∃ v, e = .returned v ∧ Orw stc 9 1 w' W.heap.size v (upL (l.take 40) x.name) ∧ Below W.heap.size W w') := fun W va m vc hLs hm => yAbove_any W va m vc (l.take 40) hLs hm X x.name hX
  have HAX : Hid (∀ W va m vc, Ls 5 ncc W va m (l.take 40) → m ≤ 40 → Calls Try.prog 26 #[.slice va m vc, .string X] W fun e w' => ∃ v, e = .returned v ∧ Orw stc 9 1 w' W.heap.size v (upL (l.take 40) x.name) ∧ Below W.heap.size W w') := fun W va m vc hLs hm => x10Above_any W va m vc (l.take 40) hLs hm X x.name hX
  have HUP : Hid ((upL (l.take 40) x.name).length ≤ 40) := Nat.le_trans (upL_few _ _) (by rw [List.length_take]; omega)
  generalize mayP (l.take 40) x.name.length x y = mv at *
  generalize upL (l.take 40) x.name = U at *
  have HLs := hide hL
  clear hw0 b1 b2 f0 hX hY hL
  obtain ⟨⟨q0, q1, q2⟩, ⟨q3, q4, q5⟩⟩ := And.intro (unhide HB0).1.cells (unhide HB0).2.cells
  have HCL := hide (classes10_any w0 a n c l ((unhide HLs).below (unhide F0)) hn)
  go_enter Try.func5, Try.ntmps5
  go_wp2_with fail
  rw [← unhide HW0]
  refine (unhide HCL).mono ?_
  rintro e w2 ⟨v, rfl, ov, f2⟩
  have HB2 : Hid (Bx2c w2 w.heap.size (.int .i64 x.kind) (.string X) ∧ Bx2c w2 (w.heap.size + 1) (.int .i64 y.kind) (.string Y)) := ⟨(unhide HB0).1.keep f2, (unhide HB0).2.keep f2⟩
  have F2 := hide ((unhide F0).trans (f2.mono (unhide F0).size))
  obtain ⟨va, vc, rfl, _, _, _⟩ := ov.form
  have HV := hide (ov.ls rkN)
  obtain ⟨m, hm⟩ : ∃ m, (l.take 40).length = m := ⟨_, rfl⟩
  have hm40 : m ≤ 40 := by rw [← hm, List.length_take]; omega
  rw [hm] at HV ⊢
  clear f2 HB0 F0 ov hm HCL q0 q1 q2 q3 q4 q5
  obtain ⟨⟨q0, q1, q2⟩, ⟨q3, q4, q5⟩⟩ := And.intro (unhide HB2).1.cells (unhide HB2).2.cells
  go_wp2_with fail
  obtain ⟨SS, hSS⟩ : ∃ SS : World → Prop, SS = fun W => Below w2.heap.size w2 W := ⟨_, rfl⟩
  have KI : Hid (∀ W, Below w2.heap.size w2 W → SS W) := fun W f => by rw [hSS]; exact f
  have KE : Hid (∀ W, SS W → (W.cell? ⟨w.heap.size, 0, none⟩ = some (.int .i64 x.kind) ∧ W.cell? ⟨w.heap.size, 1, none⟩ = some (.string X) ∧ (∀ j, W.frozen? ⟨w.heap.size, j, none⟩ = false)) ∧ (W.cell? ⟨w.heap.size + 1, 0, none⟩ = some (.int .i64 y.kind) ∧ W.cell? ⟨w.heap.size + 1, 1, none⟩ = some (.string Y) ∧ (∀ j, W.frozen? ⟨w.heap.size + 1, j, none⟩ = false))) := fun W h => by
    rw [hSS] at h
    exact ⟨((unhide HB2).1.keep h).cells, ((unhide HB2).2.keep h).cells⟩
  have KL : Hid (∀ W, Below w2.heap.size w2 W → Ls 5 ncc W va m (l.take 40)) := fun W h => (unhide HV).below h
  clear hSS q0 q1 q2 q3 q4 q5
  refine wp_region_txt SS [3, 7, 8, 13, 17, 21] [0, 1, 2, 4, 5, 6, 3, 7, 8, 9, 10, 11, 12, 14, 15, 16, 13, 17, 18, 19, 20, 21, 22, 23] (by kernel_rfl) (by kernel_rfl) (unhide KI _ (Below.drew (Below.refl _ _))) ?_
  repeat (first
    | (refine Txt.reads (v := ?_) (by rfl) (by rfl) (by rfl) ?_ ?_; rotate_left; (focus ((intro W hSW; obtain ⟨⟨q0, q1, q2⟩, ⟨q3, q4, q5⟩⟩ := unhide KE W hSW; go_simp) <;> with_reducible rfl)); simp only [Act.put, List.setIfInBounds_toArray, List.set_cons_zero, List.set_cons_succ]))
  have F3 : Hid (Below w2.heap.size w2 w2.drew) := Below.drew (Below.refl _ _)
  generalize w2.drew = w3 at *
  refine Txt.acts (by rfl) (by rfl) (by rfl) (fun K hK => ?_)
  go_simp
  refine (unhide HAY w3 va m vc (unhide KL _ (unhide F3)) hm40).mono ?_
  rintro e w4 ⟨v4, rfl, o4, f4⟩
  have F4 := hide ((unhide F3).trans (f4.mono (unhide F3).size))
  refine hK.out _ _ (unhide KI _ (unhide F4)) ?_
  clear hK K
  try simp only [Act.put, List.setIfInBounds_toArray, List.set_cons_zero, List.set_cons_succ]
  refine Txt.acts (by rfl) (by rfl) (by rfl) (fun K hK => ?_)
  go_simp
  refine (unhide HAX w4 va m vc (unhide KL _ (unhide F4)) hm40).mono ?_
  rintro e w5 ⟨v5, rfl, o5, f5⟩
  have F5 := hide ((unhide F4).trans (f5.mono (unhide F4).size))
  have o4' : Orw stc 9 1 w5 w3.heap.size v4 U := o4.below fun k hk => f5.block k (o4.lt k hk).2
  refine hK.out _ _ (unhide KI _ (unhide F5)) ?_
  clear hK K
  try simp only [Act.put, List.setIfInBounds_toArray, List.set_cons_zero, List.set_cons_succ]
  obtain ⟨a4, c4, rfl, _, _, _⟩ := o4'.form
  obtain ⟨a5, c5, rfl, _, _, _⟩ := o5.form
  have HST := hide (SameTexts_st w5 a4 a5 U.length c4 c5 U (o4'.ls rkS) (o5.ls rkS) (by have := unhide HUP; omega))
  clear o4 o4' o5 f4 f5
  generalize U.length = un at *
  refine Txt.acts (by rfl) (by rfl) (by rfl) (fun K hK => ?_)
  go_simp
  refine (unhide HST).mono ?_
  rintro e w6 ⟨rfl, f6⟩
  have F6 := hide ((unhide F5).trans (f6.mono (unhide F5).size))
  refine hK.out _ _ (unhide KI _ (unhide F6)) ?_
  clear hK K
  try simp only [Act.put, List.setIfInBounds_toArray, List.set_cons_zero, List.set_cons_succ]
  repeat (first
    | (refine Txt.reads (v := ?_) (by rfl) (by rfl) (by rfl) ?_ ?_; rotate_left; (focus ((intro W hSW; obtain ⟨⟨q0, q1, q2⟩, ⟨q3, q4, q5⟩⟩ := unhide KE W hSW; go_simp) <;> with_reducible rfl)); simp only [Act.put, List.setIfInBounds_toArray, List.set_cons_zero, List.set_cons_succ]))
  refine Txt.acts (by rfl) (by rfl) (by rfl) (fun K hK => ?_)
  go_simp
  refine (unhide HMY w6 va m vc (unhide KL _ (unhide F6)) hm40).mono ?_
  rintro e w7 ⟨rfl, f7⟩
  have F7 := hide ((unhide F6).trans (f7.mono (unhide F6).size))
  refine hK.out _ _ (unhide KI _ (unhide F7)) ?_
  clear hK K
  try simp only [Act.put, List.setIfInBounds_toArray, List.set_cons_zero, List.set_cons_succ]
  refine Txt.acts (by rfl) (by rfl) (by rfl) (fun K hK => ?_)
  go_simp
  refine (unhide HMX w7 va m vc (unhide KL _ (unhide F7)) hm40).mono ?_
  rintro e w8 ⟨rfl, f8⟩
  have F8 := hide ((unhide F7).trans (f8.mono (unhide F7).size))
  refine hK.out _ _ (unhide KI _ (unhide F8)) ?_
  clear hK K
  try simp only [Act.put, List.setIfInBounds_toArray, List.set_cons_zero, List.set_cons_succ]
  repeat (first
    | (refine Txt.reads (v := ?_) (by rfl) (by rfl) (by rfl) ?_ ?_; rotate_left; (focus ((intro W hSW; obtain ⟨⟨q0, q1, q2⟩, ⟨q3, q4, q5⟩⟩ := unhide KE W hSW; go_simp) <;> with_reducible rfl)); simp only [Act.put, List.setIfInBounds_toArray, List.set_cons_zero, List.set_cons_succ]))
  refine Txt.acts (by rfl) (by rfl) (by rfl) (fun K hK => ?_)
  go_simp
  refine (works10_any w8).mono ?_
  rintro e w9 ⟨rfl, f9⟩
  have F9 := hide ((unhide F8).trans (f9.mono (unhide F8).size))
  refine hK.out _ _ (unhide KI _ (unhide F9)) ?_
  clear hK K
  try simp only [Act.put, List.setIfInBounds_toArray, List.set_cons_zero, List.set_cons_succ]
  repeat (first
    | (refine Txt.reads (v := ?_) (by rfl) (by rfl) (by rfl) ?_ ?_; rotate_left; (focus ((intro W hSW; obtain ⟨⟨q0, q1, q2⟩, ⟨q3, q4, q5⟩⟩ := unhide KE W hSW; go_simp) <;> with_reducible rfl)); simp only [Act.put, List.setIfInBounds_toArray, List.set_cons_zero, List.set_cons_succ]))
  refine Txt.done ?_
  have G9 := hide ((unhide F2).trans ((unhide F9).mono (unhide F2).size))
  go_wp2
  go_ret
  exact ⟨rfl, unhide G9⟩
end Go.Proofs.Ytjhiflhmefhogaa
