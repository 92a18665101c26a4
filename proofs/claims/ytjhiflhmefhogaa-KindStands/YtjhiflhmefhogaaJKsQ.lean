/- The document's May, whole. -/
import Derived.Test.YtjhiflhmefhogaaJKsP
import Derived.Test.YtjhiflhmefhogaaJB

namespace Go.Proofs.Ytjhiflhmefhogaa
open Go.RowKit Go.Shelf
set_option linter.unusedVariables false
set_option maxRecDepth 100000

set_option maxHeartbeats 1600000 in
theorem x10may_obj (w : World) (v : Value) (X : ByteArray) (JE : ∀ W, (binOp .eql 23 (.agg #[.int .i64 4, .string X]) (.agg #[.int .i64 4, .string ⟨#[79, 98, 106, 101, 99, 116]⟩])).run Try.prog W = .ok (.bool false) W) :
    Calls Try.prog 28 #[v, .agg #[.int .i64 4, .string X], .agg #[.int .i64 4, .string ⟨objN.toArray⟩]] w fun e w' => e = .returned (.bool true) ∧ Below w.heap.size w w' := by
  show Calls Try.prog 28 #[v, .agg #[.int .i64 4, .string X], .agg #[.int .i64 4, .string ⟨#[79, 98, 106, 101, 99, 116]⟩]] w fun e w' => e = .returned (.bool true) ∧ Below w.heap.size w w'
  go_enter Try.func28, Try.ntmps28
  go_wp2
  go_ret
  exact ⟨rfl, bA (bA (Below.refl _ _) _) _⟩
set_option maxHeartbeats 1600000 in
/-- An array and a class. -/
theorem x10may_mix (w : World) (v : Value) (X Y : ByteArray) (xn yn : List UInt8) (hX : Str X xn) (hY : Str Y yn)
    (JE : ∀ W, (binOp .eql 23 (.agg #[.int .i64 4, .string X]) (.agg #[.int .i64 4, .string Y])).run Try.prog W = .ok (.bool false) W) (hO : yn ≠ objN) (hax : arrB xn ≠ arrB yn) :
    Calls Try.prog 28 #[v, .agg #[.int .i64 4, .string X], .agg #[.int .i64 4, .string Y]] w fun e w' => e = .returned (.bool false) ∧ Below w.heap.size w w' := by
  have o1 : ¬ Y.toList = [79, 98, 106, 101, 99, 116] := by rw [hY.list]; exact hO
  have o2 : (Y.toList == [79, 98, 106, 101, 99, 116]) = false := by simpa using o1
  have HAX : Hid (∀ W, Calls Try.prog 40 #[.string X] W fun e w' => e = .returned (.bool (arrB xn)) ∧ w' = W) := fun W => x10array_any W X xn hX
  have HAY : Hid (∀ W, Calls Try.prog 40 #[.string Y] W fun e w' => e = .returned (.bool (arrB yn)) ∧ w' = W) := fun W => x10array_any W Y yn hY
  clear hX hY hO
  generalize arrB xn = p at *
  generalize arrB yn = q at *
  cases p <;> cases q
  · exact absurd rfl hax
  · go_enter Try.func28, Try.ntmps28
    go_wp2_with fail
    refine (unhide HAX _).mono ?_
    rintro e w1 ⟨rfl, rfl⟩
    go_wp2_with fail
    refine (unhide HAX _).mono ?_
    rintro e w1 ⟨rfl, rfl⟩
    go_wp2_with fail
    refine (unhide HAY _).mono ?_
    rintro e w1 ⟨rfl, rfl⟩
    go_wp2
    go_ret
    exact ⟨rfl, bA (bA (Below.refl _ _) _) _⟩
  · go_enter Try.func28, Try.ntmps28
    go_wp2_with fail
    refine (unhide HAX _).mono ?_
    rintro e w1 ⟨rfl, rfl⟩
    go_wp2_with fail
    refine (unhide HAY _).mono ?_
    rintro e w1 ⟨rfl, rfl⟩
    go_wp2_with fail
    refine (unhide HAX _).mono ?_
    rintro e w1 ⟨rfl, rfl⟩
    go_wp2
    go_ret
    exact ⟨rfl, bA (bA (Below.refl _ _) _) _⟩
  · exact absurd rfl hax
theorem upF_few (l : List Nc) : ∀ (f : Nat) (met : List Nat) (p : Option Nat), met.Nodup → (∀ q ∈ met, q < l.length) → (∀ q, p = some q → q < l.length ∧ q ∉ met) → met.length + (upF l f met p).length ≤ l.length
  | 0, met, p, h1, h2, h3 => by simpa [upF] using nodup_le met _ h1 h2
  | f + 1, met, none, h1, h2, h3 => by simpa [upF] using nodup_le met _ h1 h2
  | f + 1, met, some p, h1, h2, h3 => by
    obtain ⟨hp, hpm⟩ := h3 p rfl
    have hnd : (p :: met).Nodup := List.nodup_cons.2 ⟨hpm, h1⟩
    have hlt : ∀ x ∈ p :: met, x < l.length := fun x hx => by
      rcases List.mem_cons.1 hx with rfl | hx
      · exact hp
      · exact h2 x hx
    have hle := nodup_le (p :: met) _ hnd hlt
    simp only [List.length_cons] at hle
    unfold upF
    split
    · simp; omega
    · split
      · simp; omega
      · rename_i q hq
        split
        · simp; omega
        · rename_i hm
          have := upF_few l f (p :: met) (some q) hnd hlt (fun q' e => by
            injection e with e
            subst e
            obtain ⟨_, _, _, hk⟩ := fstN_some hq
            exact ⟨hk, hm⟩)
          simp only [List.length_cons] at this ⊢
          omega
theorem upL_few (l : List Nc) (nm : List UInt8) : (upL l nm).length ≤ l.length := by
  have := upF_few l (l.length + 1) [] (fstN l nm) List.nodup_nil (fun q h => by simp at h) (fun q h => by obtain ⟨_, _, _, hk⟩ := fstN_some h; exact ⟨hk, by simp⟩)
  simpa [upL] using this
set_option maxHeartbeats 1600000 in
/-- Two classes. -/
theorem x10may_cls (w : World) (a : Option Addr) (n cap : Nat) (l : List Nc) (hL : Ls 5 ncc w a n l) (hn : n ≤ 40) (X Y : ByteArray) (xn yn : List UInt8) (hX : Str X xn) (hY : Str Y yn)
    (JE : ∀ W, (binOp .eql 23 (.agg #[.int .i64 4, .string X]) (.agg #[.int .i64 4, .string Y])).run Try.prog W = .ok (.bool false) W) (hO : yn ≠ objN) (hax : arrB xn = false) (hay : arrB yn = false) :
    Calls Try.prog 28 #[.slice a n cap, .agg #[.int .i64 4, .string X], .agg #[.int .i64 4, .string Y]] w fun e w' => e = .returned (.bool (decide (yn ∈ upL l xn))) ∧ Below w.heap.size w w' := by
  have o1 : ¬ Y.toList = [79, 98, 106, 101, 99, 116] := by rw [hY.list]; exact hO
  have o2 : (Y.toList == [79, 98, 106, 101, 99, 116]) = false := by simpa using o1
  have HAX : Hid (∀ W, Calls Try.prog 40 #[.string X] W fun e w' => e = .returned (.bool false) ∧ w' = W) := fun W => by have := x10array_any W X xn hX; rw [hax] at this; exact this
  have HAY : Hid (∀ W, Calls Try.prog 40 #[.string Y] W fun e w' => e = .returned (.bool false) ∧ w' = W) := fun W => by have := x10array_any W Y yn hY; rw [hay] at this; exact this
  have HAB : Hid (∀ W, Below w.heap.size w W → Calls Try.prog 26 #[.slice a n cap, .string X] W fun e w' => ∃ v, e = .returned v ∧ Orw stc 9 1 w' W.heap.size v (upL l xn) ∧ Below W.heap.size W w') := fun W f => x10Above_any W a n cap l (hL.below f) hn X xn hX
  have HYS := hide hY
  have HMU : Hid ((upL l xn).length ≤ 40) := by have h1 := (UR.start l xn).front; have := hL.1; show (upL l xn).length ≤ 40; exact Nat.le_trans (upL_few l xn) (by omega)
  obtain ⟨w0, hw0, hB1, hB2, f0⟩ := may_boxes w 4 4 X Y
  have HW0 := hide hw0
  have BY := hide hB2
  have F0 := hide f0
  obtain ⟨x0, x1, x2⟩ := hB1.cells
  obtain ⟨z0, z1, z2⟩ := hB2.cells
  clear hw0 hB1 hB2 f0 hL hX hY hO
  generalize hPO : (fun (e : Ending) (w' : World) => e = .returned (.bool (decide (yn ∈ upL l xn))) ∧ Below w.heap.size w w') = PO
  have HPO : Hid (∀ b w', b = decide (yn ∈ upL l xn) → Below w.heap.size w w' → PO (.returned (.bool b)) w') := fun b w' h1 h2 => by rw [← hPO, h1]; exact ⟨rfl, h2⟩
  clear hPO
  generalize upL l xn = U at *
  go_enter Try.func28, Try.ntmps28
  go_wp2_with fail
  rw [← unhide HW0]
  refine (unhide HAX _).mono ?_
  rintro e w1 ⟨rfl, rfl⟩
  go_wp2_with fail
  refine (unhide HAX _).mono ?_
  rintro e w1 ⟨rfl, rfl⟩
  go_wp2_with fail
  refine (unhide HAY _).mono ?_
  rintro e w1 ⟨rfl, rfl⟩
  go_wp2_with fail
  refine (unhide HAB _ (unhide F0)).mono ?_
  rintro e w2 ⟨v, rfl, hO, f2⟩
  obtain ⟨am, cm, rfl, _, hcm, _⟩ := hO.form
  have hls := hO.ls rkS
  obtain ⟨M, hM⟩ : ∃ M, M = U.length := ⟨_, rfl⟩
  rw [← hM] at hls hcm ⊢
  have HM := hide hM
  have HLS := hide hls
  have BY2 := hide ((unhide BY).keep f2)
  have F2 := hide ((unhide F0).trans (f2.mono (unhide F0).size))
  clear x0 x1 x2 z0 z1 z2 f2 hls hO hM
  go_wp2
  obtain ⟨SS, hSS⟩ : ∃ SS : World → Prop, SS = fun W => Below w2.heap.size w2 W := ⟨_, rfl⟩
  have KI : Hid (∀ W, Below w2.heap.size w2 W → SS W) := fun W f => by rw [hSS]; exact f
  have KB : Hid (∀ W, SS W → Below w2.heap.size w2 W) := fun W h => by rw [hSS] at h; exact h
  have hbd : M ≤ 140737488355328 := by have := unhide HMU; have := unhide HM; omega
  clear hSS
  go_loopw [12] (fun i W => ∃ k : Nat, k ≤ M ∧ i = .int .i64 k ∧ SS W ∧ Hid (∀ j x, j < k → U[j]? = some x → x ≠ yn)) (fun i _ => M - (intOf i).toNat)
  case atStart => exact ⟨0, by omega, rfl, unhide KI _ (Below.refl _ _), fun j x h => by omega⟩
  case round =>
    obtain ⟨k, hk, rfl, hSR, HR⟩ := hrel
    by_cases hlt : k < M
    · have hlt1 : (k : Int) < (M : Int) := by omega
      obtain ⟨b1, o1, h1a, h1⟩ := Ls.row (unhide HLS) (w' := w2) (by omega)
      subst h1a
      obtain ⟨r, hr⟩ : ∃ r, U[k]? = some r := ⟨_, List.getElem?_eq_getElem (by have := unhide HM; omega)⟩
      have HQ : Hid (∀ W, SS W → W.cell? ⟨b1, o1 + k, none⟩ = some (.string ⟨r.toArray⟩) ∧ Bx2c W (w.heap.size + 1) (.int .i64 4) (.string Y)) := fun W hW => by
        have q1 := (h1 (unhide KB W hW) k r hr) 0 _ rfl
        rw [Nat.mul_one, Nat.add_zero] at q1
        exact ⟨q1, (unhide BY2).keep (unhide KB W hW)⟩
      have HHR := hide hr
      clear h1 hr
      by_cases he : r = yn
      · have e4 : (⟨r.toArray⟩ : ByteArray) = Y := by rw [he, (unhide HYS).eq]
        rw [e4] at HQ
        have HF : Hid (true = decide (yn ∈ U)) := by
          show true = _
          symm
          rw [decide_eq_true_iff, ← he]
          exact List.mem_of_getElem? (unhide HHR)
        clear he e4 HR HHR
        go_wp2
        refine wp_region_seq SS (by kernel_rfl) (by kernel_rfl) (unhide KI _ (Below.drew (unhide KB _ hSR))) ?_
        repeat (first
          | (refine SeqDo.yields (v := ?_) (by rfl) ?_ ?_; rotate_left; (focus ((intro W hSW; obtain ⟨q1, q2, q3, q4⟩ := And.intro (unhide HQ W hSW).1 (unhide HQ W hSW).2.cells; go_simp) <;> with_reducible rfl)); simp only [Act.put, List.setIfInBounds_toArray, List.set_cons_zero, List.set_cons_succ]))
        intro W hSW
        have HB := hide ((unhide F2).trans ((unhide KB _ hSW).mono (unhide F2).size))
        go_wp2
        exact unhide HPO _ _ (unhide HF) (unhide HB)
      · obtain ⟨s1, s2, s3⟩ := str_ne (A := ⟨r.toArray⟩) (B := Y) ⟨rfl⟩ (unhide HYS) he
        have HR' : Hid (∀ (j : Nat) x, j < k + 1 → U[j]? = some x → x ≠ yn) := fun j x hj hx => by
          by_cases hjk : j = k
          · subst hjk
            rw [unhide HHR] at hx
            injection hx with hx
            rw [← hx]
            exact he
          · exact unhide HR j x (by omega) hx
        generalize (⟨r.toArray⟩ : ByteArray) = X' at *
        clear he HR HHR
        go_wp2
        refine wp_region_seq SS (by kernel_rfl) (by kernel_rfl) (unhide KI _ (Below.drew (unhide KB _ hSR))) ?_
        repeat (first
          | (refine SeqDo.yields (v := ?_) (by rfl) ?_ ?_; rotate_left; (focus ((intro W hSW; obtain ⟨q1, q2, q3, q4⟩ := And.intro (unhide HQ W hSW).1 (unhide HQ W hSW).2.cells; go_simp) <;> with_reducible rfl)); simp only [Act.put, List.setIfInBounds_toArray, List.set_cons_zero, List.set_cons_succ]))
        intro W hSW
        go_wp2
        go_roundw
        case rel => exact ⟨k + 1, by omega, by go_num, hSW, HR'⟩
        case measure => simp [intOf]; omega
    · obtain rfl : k = M := by omega
      have HF : Hid (false = decide (yn ∈ U)) := by
        show false = _
        symm
        rw [decide_eq_false_iff_not]
        intro h
        obtain ⟨j, hj⟩ := List.getElem?_of_mem h
        exact unhide HR j yn (by have := (List.getElem?_eq_some_iff.1 hj).1; have := unhide HM; omega) hj rfl
      have HB := hide ((unhide F2).trans ((unhide KB _ hSR).mono (unhide F2).size))
      clear HR
      go_wp2
      exact unhide HPO _ _ (unhide HF) (unhide HB)
set_option maxHeartbeats 1600000 in
/-- Not both references, or the same. -/
theorem x10may_flat (w : World) (v : Value) (X Y : ByteArray) (kx ky : Int) (de : Bool)
    (JE : ∀ W, (binOp .eql 23 (.agg #[.int .i64 kx, .string X]) (.agg #[.int .i64 ky, .string Y])).run Try.prog W = .ok (.bool de) W) (h : ky = 0 ∨ de = true ∨ ky ≠ 4 ∨ kx ≠ 4) :
    Calls Try.prog 28 #[v, .agg #[.int .i64 kx, .string X], .agg #[.int .i64 ky, .string Y]] w fun e w' => e = .returned (.bool (if ky = 0 ∨ de = true then true else if ky ≠ 4 then false else decide (kx = 3))) ∧ Below w.heap.size w w' := by
  have F0 : Hid (Below w.heap.size w ((w.alloc (.cells #[.int .i64 kx, .string X] 23)).alloc (.cells #[.int .i64 ky, .string Y] 23))) := bA (bA (Below.refl _ _) _) _
  by_cases y0 : ky = 0
  · subst y0
    rw [if_pos (.inl rfl)]
    clear h
    go_enter Try.func28, Try.ntmps28
    go_wp2
    go_ret
    exact ⟨rfl, unhide F0⟩
  have y0' : (ky == 0) = false := by simpa using y0
  cases de
  case true =>
    rw [if_pos (.inr rfl)]
    clear h
    go_enter Try.func28, Try.ntmps28
    go_wp2
    go_ret
    exact ⟨rfl, unhide F0⟩
  rw [if_neg (fun h => h.elim y0 (fun h => by cases h))]
  by_cases y4 : ky = 4
  case neg =>
    have y4' : (ky == 4) = false := by simpa using y4
    have y4'' : (ky != 4) = true := by simpa using y4
    rw [if_pos y4]
    clear h
    by_cases x3 : kx = 3
    · subst x3
      go_enter Try.func28, Try.ntmps28
      go_wp2
      go_ret
      exact ⟨rfl, unhide F0⟩
    have x3' : (kx == 3) = false := by simpa using x3
    by_cases x4 : kx = 4
    · subst x4
      go_enter Try.func28, Try.ntmps28
      go_wp2
      go_ret
      exact ⟨rfl, unhide F0⟩
    have x4' : (kx != 4) = true := by simpa using x4
    go_enter Try.func28, Try.ntmps28
    go_wp2
    go_ret
    exact ⟨rfl, unhide F0⟩
  subst y4
  rw [if_neg (by simp)]
  have x4 : kx ≠ 4 := by rcases h with h | h | h | h; exact absurd h (by decide); cases h; exact absurd rfl h; exact h
  clear h
  by_cases x3 : kx = 3
  · subst x3
    go_enter Try.func28, Try.ntmps28
    go_wp2
    go_ret
    exact ⟨rfl, unhide F0⟩
  have x3' : (kx == 3) = false := by simpa using x3
  have x4' : (kx != 4) = true := by simpa using x4
  rw [decide_eq_false x3]
  go_enter Try.func28, Try.ntmps28
  go_wp2
  go_ret
  exact ⟨rfl, unhide F0⟩
theorem x10may_step (f : Nat) (hM : ∀ g, g < f → MayRk g) : MayRk f := by
  intro w a n cap l hL hn X Y x y hX hY hf hx hy
  rw [mayP_is]
  have JE : ∀ W, (binOp .eql 23 (.agg #[.int .i64 x.kind, .string X]) (.agg #[.int .i64 y.kind, .string Y])).run Try.prog W = .ok (.bool (decide (x = y))) W := fun W => by
    rw [ty_cmp]
    congr 2
    rw [decide_eq_decide, hX.eq, hY.eq]
    obtain ⟨xk, xn⟩ := x
    obtain ⟨yk, yn⟩ := y
    simp
  obtain ⟨xk, xn⟩ := x
  obtain ⟨yk, yn⟩ := y
  simp only at *
  by_cases hc : yk = 0 ∨ decide ((⟨xk, xn⟩ : Ty) = ⟨yk, yn⟩) = true ∨ yk ≠ 4 ∨ xk ≠ 4
  · have := x10may_flat w (.slice a n cap) X Y xk yk _ JE hc
    refine this.mono ?_
    rintro e w' ⟨rfl, h⟩
    refine ⟨congrArg (fun b => Ending.returned (.bool b)) ?_, h⟩
    simp only [decide_eq_true_eq] at hc ⊢
    by_cases h1 : yk = 0 ∨ (⟨xk, xn⟩ : Ty) = ⟨yk, yn⟩
    · rw [if_pos h1, if_pos h1]
    · rw [if_neg h1, if_neg h1]
      by_cases h2 : yk ≠ 4
      · rw [if_pos h2, if_pos h2]
      · rw [if_neg h2, if_neg h2, if_pos (by rcases hc with h | h | h | h; exact absurd (.inl h) h1; exact absurd (.inr h) h1; exact absurd h h2; exact h)]
  · have hc' := hc
    simp only [decide_eq_true_eq, not_or, Decidable.not_not] at hc'
    obtain ⟨h1, h2, rfl, rfl⟩ := hc'
    rw [if_neg (fun h => h.elim h1 h2), if_neg (by simp), if_neg (by simp)]
    rw [decide_eq_false h2] at JE
    by_cases hO : yn = objN
    · subst hO
      rw [refP_yes (by rfl)]
      rw [hY.eq] at JE ⊢
      exact x10may_obj w _ X JE
    · by_cases hax : arrB xn = arrB yn
      · cases hx4 : arrB xn
        · rw [refP_cls (by exact hO) (by exact hx4) (by show arrB yn = false; rw [← hax]; exact hx4)]
          exact x10may_cls w a n cap l hL hn X Y xn yn hX hY JE hO hx4 (by rw [← hax]; exact hx4)
        · rw [refP_arr (by exact hO) (by exact hx4) (by show arrB yn = true; rw [← hax]; exact hx4)]
          exact x10may_arr f hM w a n cap l hL hn X Y xn yn hX hY hf hx hy (by obtain ⟨s, hs⟩ := arr_cons hx4; rw [hs]; simp) JE hO hx4 (by rw [← hax]; exact hx4)
      · rw [refP_no (by exact hO) (by exact hax)]
        exact x10may_mix w _ X Y xn yn hX hY JE hO hax
theorem x10May_any (f : Nat) : MayRk f := Nat.strongRecOn f x10may_step
end Go.Proofs.Ytjhiflhmefhogaa
