/- The landed pool: isRight, Check. -/
import Derived.Test.YtchhjieciiaooaaPkC
namespace Go.Proofs.Ytchhjieciiaooaa
open Go.RowKit
set_option linter.unusedVariables false

set_option maxHeartbeats 6400000 in
set_option maxRecDepth 100000 in
theorem kisRight_one (w : World) (a : Option Addr) (n c : Nat) (l : List Ent) (h : Es w a n l) (k : Nat) (hk : k < n) (hn : n ≤ 140737488351232) (hf : EntFit (atE l (k : Int))) (ht : (atE l (k : Int)).text.length ≤ 140737488355328)
    (b1 b2 b3 b4 b5 b6 : Bool) (h1 : ((atE l (k : Int)).tag != 0) = b1) (h2 : decide (atE l (k : Int) = justE (atE l (k : Int))) = b2) (h3 : textB (atE l (k : Int)).text = b3) (h4 : leadsE l (atE l (k : Int)) = b4) (h5 : fitsE (atE l (k : Int)).tag (atE l (k : Int)).n = b5)
    (h6 : decide ((k : Int) + (if (atE l (k : Int)).tag = 5 then 2 else 1) ≤ (n : Int)) = b6) (hg : gapE l k = false) :
    Calls Try.prog 38 #[.slice a n c, .int .i64 (k : Int)] w fun e w' => e = .returned (.bool (b1 && b2 && b3 && b4 && b5 && b6)) ∧ Below w.heap.size w w' := by
  obtain ⟨b, o, rfl, hE⟩ := h.2.resolve_left (by omega)
  obtain ⟨c0, c1, c2, c3, c4⟩ := ents_at hE (k := k) (by have := h.1; omega)
  obtain ⟨x, hx⟩ : ∃ x, atE l (k : Int) = x := ⟨_, rfl⟩
  have G : Hid (∀ W, Below w.heap.size w W → Calls Try.prog 61 #[.slice (some ⟨b, o, none⟩) n c, .int .i64 (k : Int)] W fun e w' => e = .returned (.bool false) ∧ w' = W) := fun W f => by
    have := kisGap_any W _ n c l (h.below f) k hk hn
    rw [hg] at this
    exact this
  have J2 : ∀ W, (binOp .eql 67 (entV x) (entV (justE x))).run Try.prog W = .ok (.bool b2) W := fun W => by
    have := ent_cmp W x (justE x)
    rw [← hx, h2] at this
    rw [← hx]
    exact this
  have J : Hid (∀ W, Calls Try.prog 63 #[entV x] W fun e w' => e = .returned (entV (justE x)) ∧ Below W.heap.size W w') := fun W => kjust_any W x
  have X : Hid (∀ W, Calls Try.prog 64 #[.string ⟨x.text.toArray⟩] W fun e w' => e = .returned (.bool b3) ∧ w' = W) := fun W => by
    have := kisText_any W (atE l (k : Int)).text ht
    rw [h3, hx] at this
    exact this
  have L : Hid (∀ W, Below w.heap.size w W → Calls Try.prog 65 #[.slice (some ⟨b, o, none⟩) n c, entV x] W fun e w' => e = .returned (.bool b4) ∧ Below W.heap.size W w') := fun W f => by
    have := kleads_any W _ n c l (h.below f) (atE l (k : Int)) hf hn
    rw [h4, hx] at this
    exact this
  have F : Hid (∀ W, Calls Try.prog 66 #[.int .i64 x.tag, .int .i64 x.n] W fun e w' => e = .returned (.bool b5) ∧ w' = W) := fun W => by
    have := kfits_any W (atE l (k : Int)).tag (atE l (k : Int)).n hf.2.1
    rw [h5, hx] at this
    exact this
  have R : Hid (∀ W, Below w.heap.size w W → Calls Try.prog 67 #[.slice (some ⟨b, o, none⟩) n c, .int .i64 (k : Int)] W fun e w' => e = .returned (.bool b6) ∧ w' = W) := fun W f => by
    have := khasRoom_any W _ n c l (h.below f) k hk hn
    rw [h6] at this
    exact this
  rw [hx] at c0 c1 c2 c3 c4 h1
  obtain ⟨tag, text, nn, aa, bb⟩ := x
  generalize justE ⟨tag, text, nn, aa, bb⟩ = y at *
  obtain ⟨jt, js, jn, ja, jb⟩ := y
  simp only [entV] at J J2 L X F c0 c1 c2 c3 c4 h1
  generalize (⟨text.toArray⟩ : ByteArray) = st at *
  generalize (⟨js.toArray⟩ : ByteArray) = sj at *
  clear hE h hx hf ht h2 h3 h4 h5 h6 hg
  have hk2 : (k : Int) < (n : Int) := by omega
  have hk3 : (0 : Int) ≤ (k : Int) := by omega
  have b0 : Below w.heap.size w (w.alloc (.cells #[.int .i64 tag, .string st, .int .i64 nn, .int .i64 aa, .int .i64 bb] 67)) := (Below.refl _ _).alloc (Nat.le_refl _) _
  have hX := heap_alloc_last w (.cells #[.int .i64 tag, .string st, .int .i64 nn, .int .i64 aa, .int .i64 bb] 67)
  have G1 := hide (unhide G _ b0)
  have HX := hide hX
  have B0 := hide b0
  clear G b0 hX hk
  go_enter Try.func38, Try.ntmps38
  go_wp2_with fail
  refine (unhide G1).mono ?_
  rintro e w1 ⟨rfl, e0⟩
  have e0' := e0.symm
  clear e0
  subst e0'
  clear G1 c0 c1 c2 c3 c4
  go_wp2
  generalize w.alloc (.cells #[.int .i64 tag, .string st, .int .i64 nn, .int .i64 aa, .int .i64 bb] 67) = w1 at *
  have KC : ∀ W, Below w1.heap.size w1 W → W.cell? ⟨w.heap.size, 0, none⟩ = some (.int .i64 tag) ∧ W.cell? ⟨w.heap.size, 1, none⟩ = some (.string st) ∧ W.cell? ⟨w.heap.size, 2, none⟩ = some (.int .i64 nn) ∧ W.cell? ⟨w.heap.size, 3, none⟩ = some (.int .i64 aa) ∧ W.cell? ⟨w.heap.size, 4, none⟩ = some (.int .i64 bb) := fun W f => by
    have hc := (f.block _ (lt_of_heap (unhide HX))).trans (unhide HX)
    exact ⟨by rw [cell_of_row _ _ _ _ _ _ hc]; rfl, by rw [cell_of_row _ _ _ _ _ _ hc]; rfl, by rw [cell_of_row _ _ _ _ _ _ hc]; rfl, by rw [cell_of_row _ _ _ _ _ _ hc]; rfl, by rw [cell_of_row _ _ _ _ _ _ hc]; rfl⟩
  obtain ⟨SS, hSS⟩ : ∃ SS : World → Prop, SS = fun W => Hid (Below w1.heap.size w1 W) ∧ W.cell? ⟨w.heap.size, 0, none⟩ = some (.int .i64 tag) ∧ W.cell? ⟨w.heap.size, 1, none⟩ = some (.string st) ∧ W.cell? ⟨w.heap.size, 2, none⟩ = some (.int .i64 nn) ∧ W.cell? ⟨w.heap.size, 3, none⟩ = some (.int .i64 aa) ∧ W.cell? ⟨w.heap.size, 4, none⟩ = some (.int .i64 bb) := ⟨_, rfl⟩
  have KI : Hid (∀ W, Below w1.heap.size w1 W → SS W) := fun W f => by rw [hSS]; exact ⟨f, KC W f⟩
  have KE : ∀ W, SS W → W.cell? ⟨w.heap.size, 0, none⟩ = some (.int .i64 tag) ∧ W.cell? ⟨w.heap.size, 1, none⟩ = some (.string st) ∧ W.cell? ⟨w.heap.size, 2, none⟩ = some (.int .i64 nn) ∧ W.cell? ⟨w.heap.size, 3, none⟩ = some (.int .i64 aa) ∧ W.cell? ⟨w.heap.size, 4, none⟩ = some (.int .i64 bb) := fun W h => by
    rw [hSS] at h
    exact h.2
  have KW : Hid (∀ W, SS W → Below w1.heap.size w1 W) := fun W h => by
    rw [hSS] at h
    exact h.1
  have KB : Hid (∀ W, SS W → Below w.heap.size w W) := fun W h => (unhide B0).trans ((unhide KW W h).mono (unhide B0).size)
  have KS : Hid (∀ W W', SS W → Below W.heap.size W W' → SS W') := fun W W' h f => unhide KI W' ((unhide KW W h).trans (f.mono (unhide KW W h).size))
  clear hSS KC HX
  have KE' := hide KE
  clear KE
  refine wp_region_seq SS (by kernel_rfl) (by kernel_rfl) (unhide KI _ (Below.drew (Below.refl _ _))) ?_
  have h1' : (tag == 0) = !b1 := by
    rw [← h1]
    cases hq : (tag == 0) <;> simp [bne, hq]
  cases b1
  case false =>
    repeat (first
      | (refine SeqDo.skips (by rfl) ?_; simp only [Act.put, List.setIfInBounds_toArray, List.set_cons_zero, List.set_cons_succ])
      | (refine SeqDo.yields (v := ?_) (by rfl) ?_ ?_; rotate_left; (focus ((intro W hSW; obtain ⟨q0, q1, q2, q3, q4⟩ := unhide KE' W hSW; go_simp) <;> with_reducible rfl)); simp only [Act.put, List.setIfInBounds_toArray, List.set_cons_zero, List.set_cons_succ])
      | (refine SeqDo.does (v := .agg #[.int .i64 jt, .string sj, .int .i64 jn, .int .i64 ja, .int .i64 jb]) (by rfl) (fun W hSW KK hKK => ?_) ?_; (focus (go_simp; go_wp2_with (go_at_call 63; refine (unhide J _).mono ?_; rintro e W' ⟨rfl, fJ⟩); exact hKK.out _ (unhide KS _ _ hSW fJ))); simp only [Act.put, List.setIfInBounds_toArray, List.set_cons_zero, List.set_cons_succ])
      | (refine SeqDo.does (v := .bool b3) (by rfl) (fun W hSW KK hKK => ?_) ?_; (focus (go_simp; go_wp2_with (go_at_call 64; refine (unhide X _).mono ?_; rintro e W' ⟨rfl, rfl⟩); exact hKK.out _ hSW)); simp only [Act.put, List.setIfInBounds_toArray, List.set_cons_zero, List.set_cons_succ])
      | (refine SeqDo.does (v := .bool b4) (by rfl) (fun W hSW KK hKK => ?_) ?_; (focus (go_simp; go_wp2_with (go_at_call 65; refine (unhide L _ (unhide KB _ hSW)).mono ?_; rintro e W' ⟨rfl, fJ⟩); exact hKK.out _ (unhide KS _ _ hSW fJ))); simp only [Act.put, List.setIfInBounds_toArray, List.set_cons_zero, List.set_cons_succ])
      | (refine SeqDo.does (v := .bool b5) (by rfl) (fun W hSW KK hKK => ?_) ?_; (focus (go_simp; go_wp2_with (go_at_call 66; refine (unhide F _).mono ?_; rintro e W' ⟨rfl, rfl⟩); exact hKK.out _ hSW)); simp only [Act.put, List.setIfInBounds_toArray, List.set_cons_zero, List.set_cons_succ])
      | (refine SeqDo.does (v := .bool b6) (by rfl) (fun W hSW KK hKK => ?_) ?_; (focus (go_simp; go_wp2_with (go_at_call 67; refine (unhide R _ (unhide KB _ hSW)).mono ?_; rintro e W' ⟨rfl, rfl⟩); exact hKK.out _ hSW)); simp only [Act.put, List.setIfInBounds_toArray, List.set_cons_zero, List.set_cons_succ]))
    intro W hSW
    go_wp2
    go_ret
    exact ⟨rfl, unhide KB _ hSW⟩
  cases b2
  case false =>
    repeat (first
      | (refine SeqDo.skips (by rfl) ?_; simp only [Act.put, List.setIfInBounds_toArray, List.set_cons_zero, List.set_cons_succ])
      | (refine SeqDo.yields (v := ?_) (by rfl) ?_ ?_; rotate_left; (focus ((intro W hSW; obtain ⟨q0, q1, q2, q3, q4⟩ := unhide KE' W hSW; go_simp) <;> with_reducible rfl)); simp only [Act.put, List.setIfInBounds_toArray, List.set_cons_zero, List.set_cons_succ])
      | (refine SeqDo.does (v := .agg #[.int .i64 jt, .string sj, .int .i64 jn, .int .i64 ja, .int .i64 jb]) (by rfl) (fun W hSW KK hKK => ?_) ?_; (focus (go_simp; go_wp2_with (go_at_call 63; refine (unhide J _).mono ?_; rintro e W' ⟨rfl, fJ⟩); exact hKK.out _ (unhide KS _ _ hSW fJ))); simp only [Act.put, List.setIfInBounds_toArray, List.set_cons_zero, List.set_cons_succ])
      | (refine SeqDo.does (v := .bool b3) (by rfl) (fun W hSW KK hKK => ?_) ?_; (focus (go_simp; go_wp2_with (go_at_call 64; refine (unhide X _).mono ?_; rintro e W' ⟨rfl, rfl⟩); exact hKK.out _ hSW)); simp only [Act.put, List.setIfInBounds_toArray, List.set_cons_zero, List.set_cons_succ])
      | (refine SeqDo.does (v := .bool b4) (by rfl) (fun W hSW KK hKK => ?_) ?_; (focus (go_simp; go_wp2_with (go_at_call 65; refine (unhide L _ (unhide KB _ hSW)).mono ?_; rintro e W' ⟨rfl, fJ⟩); exact hKK.out _ (unhide KS _ _ hSW fJ))); simp only [Act.put, List.setIfInBounds_toArray, List.set_cons_zero, List.set_cons_succ])
      | (refine SeqDo.does (v := .bool b5) (by rfl) (fun W hSW KK hKK => ?_) ?_; (focus (go_simp; go_wp2_with (go_at_call 66; refine (unhide F _).mono ?_; rintro e W' ⟨rfl, rfl⟩); exact hKK.out _ hSW)); simp only [Act.put, List.setIfInBounds_toArray, List.set_cons_zero, List.set_cons_succ])
      | (refine SeqDo.does (v := .bool b6) (by rfl) (fun W hSW KK hKK => ?_) ?_; (focus (go_simp; go_wp2_with (go_at_call 67; refine (unhide R _ (unhide KB _ hSW)).mono ?_; rintro e W' ⟨rfl, rfl⟩); exact hKK.out _ hSW)); simp only [Act.put, List.setIfInBounds_toArray, List.set_cons_zero, List.set_cons_succ]))
    intro W hSW
    go_wp2
    go_ret
    exact ⟨rfl, unhide KB _ hSW⟩
  cases b3
  case false =>
    repeat (first
      | (refine SeqDo.skips (by rfl) ?_; simp only [Act.put, List.setIfInBounds_toArray, List.set_cons_zero, List.set_cons_succ])
      | (refine SeqDo.yields (v := ?_) (by rfl) ?_ ?_; rotate_left; (focus ((intro W hSW; obtain ⟨q0, q1, q2, q3, q4⟩ := unhide KE' W hSW; go_simp) <;> with_reducible rfl)); simp only [Act.put, List.setIfInBounds_toArray, List.set_cons_zero, List.set_cons_succ])
      | (refine SeqDo.does (v := .agg #[.int .i64 jt, .string sj, .int .i64 jn, .int .i64 ja, .int .i64 jb]) (by rfl) (fun W hSW KK hKK => ?_) ?_; (focus (go_simp; go_wp2_with (go_at_call 63; refine (unhide J _).mono ?_; rintro e W' ⟨rfl, fJ⟩); exact hKK.out _ (unhide KS _ _ hSW fJ))); simp only [Act.put, List.setIfInBounds_toArray, List.set_cons_zero, List.set_cons_succ])
      | (refine SeqDo.does (v := .bool false) (by rfl) (fun W hSW KK hKK => ?_) ?_; (focus (go_simp; go_wp2_with (go_at_call 64; refine (unhide X _).mono ?_; rintro e W' ⟨rfl, rfl⟩); exact hKK.out _ hSW)); simp only [Act.put, List.setIfInBounds_toArray, List.set_cons_zero, List.set_cons_succ])
      | (refine SeqDo.does (v := .bool b4) (by rfl) (fun W hSW KK hKK => ?_) ?_; (focus (go_simp; go_wp2_with (go_at_call 65; refine (unhide L _ (unhide KB _ hSW)).mono ?_; rintro e W' ⟨rfl, fJ⟩); exact hKK.out _ (unhide KS _ _ hSW fJ))); simp only [Act.put, List.setIfInBounds_toArray, List.set_cons_zero, List.set_cons_succ])
      | (refine SeqDo.does (v := .bool b5) (by rfl) (fun W hSW KK hKK => ?_) ?_; (focus (go_simp; go_wp2_with (go_at_call 66; refine (unhide F _).mono ?_; rintro e W' ⟨rfl, rfl⟩); exact hKK.out _ hSW)); simp only [Act.put, List.setIfInBounds_toArray, List.set_cons_zero, List.set_cons_succ])
      | (refine SeqDo.does (v := .bool b6) (by rfl) (fun W hSW KK hKK => ?_) ?_; (focus (go_simp; go_wp2_with (go_at_call 67; refine (unhide R _ (unhide KB _ hSW)).mono ?_; rintro e W' ⟨rfl, rfl⟩); exact hKK.out _ hSW)); simp only [Act.put, List.setIfInBounds_toArray, List.set_cons_zero, List.set_cons_succ]))
    intro W hSW
    go_wp2
    go_ret
    exact ⟨rfl, unhide KB _ hSW⟩
  cases b4
  case false =>
    repeat (first
      | (refine SeqDo.skips (by rfl) ?_; simp only [Act.put, List.setIfInBounds_toArray, List.set_cons_zero, List.set_cons_succ])
      | (refine SeqDo.yields (v := ?_) (by rfl) ?_ ?_; rotate_left; (focus ((intro W hSW; obtain ⟨q0, q1, q2, q3, q4⟩ := unhide KE' W hSW; go_simp) <;> with_reducible rfl)); simp only [Act.put, List.setIfInBounds_toArray, List.set_cons_zero, List.set_cons_succ])
      | (refine SeqDo.does (v := .agg #[.int .i64 jt, .string sj, .int .i64 jn, .int .i64 ja, .int .i64 jb]) (by rfl) (fun W hSW KK hKK => ?_) ?_; (focus (go_simp; go_wp2_with (go_at_call 63; refine (unhide J _).mono ?_; rintro e W' ⟨rfl, fJ⟩); exact hKK.out _ (unhide KS _ _ hSW fJ))); simp only [Act.put, List.setIfInBounds_toArray, List.set_cons_zero, List.set_cons_succ])
      | (refine SeqDo.does (v := .bool true) (by rfl) (fun W hSW KK hKK => ?_) ?_; (focus (go_simp; go_wp2_with (go_at_call 64; refine (unhide X _).mono ?_; rintro e W' ⟨rfl, rfl⟩); exact hKK.out _ hSW)); simp only [Act.put, List.setIfInBounds_toArray, List.set_cons_zero, List.set_cons_succ])
      | (refine SeqDo.does (v := .bool false) (by rfl) (fun W hSW KK hKK => ?_) ?_; (focus (go_simp; go_wp2_with (go_at_call 65; refine (unhide L _ (unhide KB _ hSW)).mono ?_; rintro e W' ⟨rfl, fJ⟩); exact hKK.out _ (unhide KS _ _ hSW fJ))); simp only [Act.put, List.setIfInBounds_toArray, List.set_cons_zero, List.set_cons_succ])
      | (refine SeqDo.does (v := .bool b5) (by rfl) (fun W hSW KK hKK => ?_) ?_; (focus (go_simp; go_wp2_with (go_at_call 66; refine (unhide F _).mono ?_; rintro e W' ⟨rfl, rfl⟩); exact hKK.out _ hSW)); simp only [Act.put, List.setIfInBounds_toArray, List.set_cons_zero, List.set_cons_succ])
      | (refine SeqDo.does (v := .bool b6) (by rfl) (fun W hSW KK hKK => ?_) ?_; (focus (go_simp; go_wp2_with (go_at_call 67; refine (unhide R _ (unhide KB _ hSW)).mono ?_; rintro e W' ⟨rfl, rfl⟩); exact hKK.out _ hSW)); simp only [Act.put, List.setIfInBounds_toArray, List.set_cons_zero, List.set_cons_succ]))
    intro W hSW
    go_wp2
    go_ret
    exact ⟨rfl, unhide KB _ hSW⟩
  cases b5
  case false =>
    repeat (first
      | (refine SeqDo.skips (by rfl) ?_; simp only [Act.put, List.setIfInBounds_toArray, List.set_cons_zero, List.set_cons_succ])
      | (refine SeqDo.yields (v := ?_) (by rfl) ?_ ?_; rotate_left; (focus ((intro W hSW; obtain ⟨q0, q1, q2, q3, q4⟩ := unhide KE' W hSW; go_simp) <;> with_reducible rfl)); simp only [Act.put, List.setIfInBounds_toArray, List.set_cons_zero, List.set_cons_succ])
      | (refine SeqDo.does (v := .agg #[.int .i64 jt, .string sj, .int .i64 jn, .int .i64 ja, .int .i64 jb]) (by rfl) (fun W hSW KK hKK => ?_) ?_; (focus (go_simp; go_wp2_with (go_at_call 63; refine (unhide J _).mono ?_; rintro e W' ⟨rfl, fJ⟩); exact hKK.out _ (unhide KS _ _ hSW fJ))); simp only [Act.put, List.setIfInBounds_toArray, List.set_cons_zero, List.set_cons_succ])
      | (refine SeqDo.does (v := .bool true) (by rfl) (fun W hSW KK hKK => ?_) ?_; (focus (go_simp; go_wp2_with (go_at_call 64; refine (unhide X _).mono ?_; rintro e W' ⟨rfl, rfl⟩); exact hKK.out _ hSW)); simp only [Act.put, List.setIfInBounds_toArray, List.set_cons_zero, List.set_cons_succ])
      | (refine SeqDo.does (v := .bool true) (by rfl) (fun W hSW KK hKK => ?_) ?_; (focus (go_simp; go_wp2_with (go_at_call 65; refine (unhide L _ (unhide KB _ hSW)).mono ?_; rintro e W' ⟨rfl, fJ⟩); exact hKK.out _ (unhide KS _ _ hSW fJ))); simp only [Act.put, List.setIfInBounds_toArray, List.set_cons_zero, List.set_cons_succ])
      | (refine SeqDo.does (v := .bool false) (by rfl) (fun W hSW KK hKK => ?_) ?_; (focus (go_simp; go_wp2_with (go_at_call 66; refine (unhide F _).mono ?_; rintro e W' ⟨rfl, rfl⟩); exact hKK.out _ hSW)); simp only [Act.put, List.setIfInBounds_toArray, List.set_cons_zero, List.set_cons_succ])
      | (refine SeqDo.does (v := .bool b6) (by rfl) (fun W hSW KK hKK => ?_) ?_; (focus (go_simp; go_wp2_with (go_at_call 67; refine (unhide R _ (unhide KB _ hSW)).mono ?_; rintro e W' ⟨rfl, rfl⟩); exact hKK.out _ hSW)); simp only [Act.put, List.setIfInBounds_toArray, List.set_cons_zero, List.set_cons_succ]))
    intro W hSW
    go_wp2
    go_ret
    exact ⟨rfl, unhide KB _ hSW⟩
  cases b6
  case false =>
    repeat (first
      | (refine SeqDo.skips (by rfl) ?_; simp only [Act.put, List.setIfInBounds_toArray, List.set_cons_zero, List.set_cons_succ])
      | (refine SeqDo.yields (v := ?_) (by rfl) ?_ ?_; rotate_left; (focus ((intro W hSW; obtain ⟨q0, q1, q2, q3, q4⟩ := unhide KE' W hSW; go_simp) <;> with_reducible rfl)); simp only [Act.put, List.setIfInBounds_toArray, List.set_cons_zero, List.set_cons_succ])
      | (refine SeqDo.does (v := .agg #[.int .i64 jt, .string sj, .int .i64 jn, .int .i64 ja, .int .i64 jb]) (by rfl) (fun W hSW KK hKK => ?_) ?_; (focus (go_simp; go_wp2_with (go_at_call 63; refine (unhide J _).mono ?_; rintro e W' ⟨rfl, fJ⟩); exact hKK.out _ (unhide KS _ _ hSW fJ))); simp only [Act.put, List.setIfInBounds_toArray, List.set_cons_zero, List.set_cons_succ])
      | (refine SeqDo.does (v := .bool true) (by rfl) (fun W hSW KK hKK => ?_) ?_; (focus (go_simp; go_wp2_with (go_at_call 64; refine (unhide X _).mono ?_; rintro e W' ⟨rfl, rfl⟩); exact hKK.out _ hSW)); simp only [Act.put, List.setIfInBounds_toArray, List.set_cons_zero, List.set_cons_succ])
      | (refine SeqDo.does (v := .bool true) (by rfl) (fun W hSW KK hKK => ?_) ?_; (focus (go_simp; go_wp2_with (go_at_call 65; refine (unhide L _ (unhide KB _ hSW)).mono ?_; rintro e W' ⟨rfl, fJ⟩); exact hKK.out _ (unhide KS _ _ hSW fJ))); simp only [Act.put, List.setIfInBounds_toArray, List.set_cons_zero, List.set_cons_succ])
      | (refine SeqDo.does (v := .bool true) (by rfl) (fun W hSW KK hKK => ?_) ?_; (focus (go_simp; go_wp2_with (go_at_call 66; refine (unhide F _).mono ?_; rintro e W' ⟨rfl, rfl⟩); exact hKK.out _ hSW)); simp only [Act.put, List.setIfInBounds_toArray, List.set_cons_zero, List.set_cons_succ])
      | (refine SeqDo.does (v := .bool false) (by rfl) (fun W hSW KK hKK => ?_) ?_; (focus (go_simp; go_wp2_with (go_at_call 67; refine (unhide R _ (unhide KB _ hSW)).mono ?_; rintro e W' ⟨rfl, rfl⟩); exact hKK.out _ hSW)); simp only [Act.put, List.setIfInBounds_toArray, List.set_cons_zero, List.set_cons_succ]))
    intro W hSW
    go_wp2
    go_ret
    exact ⟨rfl, unhide KB _ hSW⟩
  repeat (first
    | (refine SeqDo.skips (by rfl) ?_; simp only [Act.put, List.setIfInBounds_toArray, List.set_cons_zero, List.set_cons_succ])
    | (refine SeqDo.yields (v := ?_) (by rfl) ?_ ?_; rotate_left; (focus ((intro W hSW; obtain ⟨q0, q1, q2, q3, q4⟩ := unhide KE' W hSW; go_simp) <;> with_reducible rfl)); simp only [Act.put, List.setIfInBounds_toArray, List.set_cons_zero, List.set_cons_succ])
    | (refine SeqDo.does (v := .agg #[.int .i64 jt, .string sj, .int .i64 jn, .int .i64 ja, .int .i64 jb]) (by rfl) (fun W hSW KK hKK => ?_) ?_; (focus (go_simp; go_wp2_with (go_at_call 63; refine (unhide J _).mono ?_; rintro e W' ⟨rfl, fJ⟩); exact hKK.out _ (unhide KS _ _ hSW fJ))); simp only [Act.put, List.setIfInBounds_toArray, List.set_cons_zero, List.set_cons_succ])
    | (refine SeqDo.does (v := .bool true) (by rfl) (fun W hSW KK hKK => ?_) ?_; (focus (go_simp; go_wp2_with (go_at_call 64; refine (unhide X _).mono ?_; rintro e W' ⟨rfl, rfl⟩); exact hKK.out _ hSW)); simp only [Act.put, List.setIfInBounds_toArray, List.set_cons_zero, List.set_cons_succ])
    | (refine SeqDo.does (v := .bool true) (by rfl) (fun W hSW KK hKK => ?_) ?_; (focus (go_simp; go_wp2_with (go_at_call 65; refine (unhide L _ (unhide KB _ hSW)).mono ?_; rintro e W' ⟨rfl, fJ⟩); exact hKK.out _ (unhide KS _ _ hSW fJ))); simp only [Act.put, List.setIfInBounds_toArray, List.set_cons_zero, List.set_cons_succ])
    | (refine SeqDo.does (v := .bool true) (by rfl) (fun W hSW KK hKK => ?_) ?_; (focus (go_simp; go_wp2_with (go_at_call 66; refine (unhide F _).mono ?_; rintro e W' ⟨rfl, rfl⟩); exact hKK.out _ hSW)); simp only [Act.put, List.setIfInBounds_toArray, List.set_cons_zero, List.set_cons_succ])
    | (refine SeqDo.does (v := .bool true) (by rfl) (fun W hSW KK hKK => ?_) ?_; (focus (go_simp; go_wp2_with (go_at_call 67; refine (unhide R _ (unhide KB _ hSW)).mono ?_; rintro e W' ⟨rfl, rfl⟩); exact hKK.out _ hSW)); simp only [Act.put, List.setIfInBounds_toArray, List.set_cons_zero, List.set_cons_succ]))
  intro W hSW
  go_wp2
  go_ret
  exact ⟨rfl, unhide KB _ hSW⟩

theorem Es.at {w : World} {a : Option Addr} {n : Nat} {l : List Ent} (h : Es w a n l) {k : Nat} (hk : k < n) : l[k]? = some (atE l (k : Int)) := by
  rw [atE_nat, List.getElem?_eq_getElem (by rw [h.1]; exact hk)]
  rfl
set_option maxHeartbeats 1600000 in
set_option maxRecDepth 100000 in
theorem kisRight_any (w : World) (a : Option Addr) (n c : Nat) (l : List Ent) (h : Es w a n l) (k : Nat) (hk : k < n) (hn : n ≤ 140737488351232) (hf : (∀ x ∈ l, x.text.length ≤ 140737488355328) ∧ ∀ x ∈ l, EntFit x) :
    Calls Try.prog 38 #[.slice a n c, .int .i64 (k : Int)] w fun e w' => e = .returned (.bool (rightAt l k)) ∧ Below w.heap.size w w' := by
  have hm := List.mem_of_getElem? (h.at hk)
  cases hg : gapE l k
  case false =>
    have H := kisRight_one w a n c l h k hk hn (hf.2 _ hm) (hf.1 _ hm) _ _ _ _ _ _ rfl rfl rfl rfl rfl rfl hg
    have e1 : rightAt l k = (((atE l (k : Int)).tag != 0) && decide (atE l (k : Int) = justE (atE l (k : Int))) && textB (atE l (k : Int)).text && leadsE l (atE l (k : Int)) && fitsE (atE l (k : Int)).tag (atE l (k : Int)).n && decide ((k : Int) + (if (atE l (k : Int)).tag = 5 then 2 else 1) ≤ (n : Int))) := by
      unfold rightAt
      rw [if_neg (by rw [hg]; simp), okE_code]
      have e2 : ((atE l (k : Int)).tag != 0) = decide ((atE l (k : Int)).tag ≠ 0) := by
        rw [Bool.eq_iff_iff]
        simp
      have e3 : (decide ((atE l (k : Int)).tag ≠ 5) || decide (k + 1 < l.length)) = decide ((k : Int) + (if (atE l (k : Int)).tag = 5 then 2 else 1) ≤ (n : Int)) := by
        have hl := h.1
        by_cases h5 : (atE l (k : Int)).tag = 5
        · rw [if_pos h5, decide_eq_false (by simpa using h5), Bool.false_or]
          exact decide_eq_decide.2 (by omega)
        · rw [if_neg h5, decide_eq_true h5, Bool.true_or]
          exact (decide_eq_true (by omega)).symm
      rw [e2, e3]
    rw [e1]
    exact H
  case true =>
    have e1 : rightAt l k = decide (atE l (k : Int) = ent0) := by
      unfold rightAt
      rw [if_pos hg]
    rw [e1]
    obtain ⟨b, o, rfl, hE⟩ := h.2.resolve_left (by omega)
    obtain ⟨c0, c1, c2, c3, c4⟩ := ents_at hE (k := k) (by have := h.1; omega)
    obtain ⟨x, hx⟩ : ∃ x, atE l (k : Int) = x := ⟨_, rfl⟩
    have G : Hid (∀ W, Below w.heap.size w W → Calls Try.prog 61 #[.slice (some ⟨b, o, none⟩) n c, .int .i64 (k : Int)] W fun e w' => e = .returned (.bool true) ∧ w' = W) := fun W f => by
      have := kisGap_any W _ n c l (h.below f) k hk hn
      rw [hg] at this
      exact this
    have J2 : ∀ W, (binOp .eql 67 (entV x) (entV ent0)).run Try.prog W = .ok (.bool (decide (x = ent0))) W := fun W => ent_cmp W x ent0
    rw [hx] at c0 c1 c2 c3 c4 ⊢
    generalize decide (x = ent0) = D at *
    obtain ⟨tag, text, nn, aa, bb⟩ := x
    unfold ent0 at J2
    simp only [entV] at J2 c0 c1 c2 c3 c4
    generalize (⟨text.toArray⟩ : ByteArray) = st at *
    clear hE h hx hg e1 hm
    have hk2 : (k : Int) < (n : Int) := by omega
    have hk3 : (0 : Int) ≤ (k : Int) := by omega
    have b0 : Below w.heap.size w (w.alloc (.cells #[.int .i64 tag, .string st, .int .i64 nn, .int .i64 aa, .int .i64 bb] 67)) := (Below.refl _ _).alloc (Nat.le_refl _) _
    have G1 := hide (unhide G _ b0)
    have B0 := hide b0
    clear G b0 hk
    go_enter Try.func38, Try.ntmps38
    go_wp2_with fail
    refine (unhide G1).mono ?_
    rintro e w1 ⟨rfl, e0⟩
    have e0' := e0.symm
    clear e0
    subst e0'
    clear G1 c0 c1 c2 c3 c4
    go_wp2
    go_ret
    exact ⟨rfl, unhide B0⟩

set_option maxHeartbeats 1600000 in
theorem kCheck_any (w : World) (a : Option Addr) (n c : Nat) (l : List Ent) (h : Es w a n l) (hn : n ≤ 140737488351232) (hf : (∀ x ∈ l, x.text.length ≤ 140737488355328) ∧ ∀ x ∈ l, EntFit x) :
    Calls Try.prog 19 #[.slice a n c] w fun e w' => e = .returned (.int .i64 (if checkP l = true then 0 else 70)) ∧ Below w.heap.size w w' := by
  have hln := h.1
  obtain ⟨T, hT⟩ : ∃ T : Int, T = if checkP l = true then 0 else 70 := ⟨_, rfl⟩
  rw [← hT]
  by_cases h1 : n < 1
  case pos =>
    have e1 : Hid (T = 70) := by
      rw [hT, if_neg (fun e => by have := ((checkP_all l).1 e).1; omega)]
      rfl
    have h1' : (n : Int) < 1 := by omega
    clear h hT
    go_enter Try.func19, Try.ntmps19
    go_wp2
    go_ret
    exact ⟨by rw [unhide e1]; rfl, Below.refl _ _⟩
  by_cases h2 : 1024 < n
  case pos =>
    have e1 : Hid (T = 70) := by
      rw [hT, if_neg (fun e => by have := ((checkP_all l).1 e).1; omega)]
      rfl
    have h1' : ¬ (n : Int) < 1 := by omega
    have h2' : (1024 : Int) < (n : Int) := by omega
    clear h hT
    go_enter Try.func19, Try.ntmps19
    go_wp2
    go_ret
    exact ⟨by rw [unhide e1]; rfl, Below.refl _ _⟩
  have h1' : ¬ (n : Int) < 1 := by omega
  have h2' : ¬ (1024 : Int) < (n : Int) := by omega
  have HT := hide hT
  have H := hide h
  clear hT h
  go_enter Try.func19, Try.ntmps19
  go_wp2
  go_loopw [14] (fun i wr => ∃ k : Nat, k ≤ n ∧ i = .int .i64 k ∧ (∀ j, j < k → rightAt l j = true) ∧ Below w.heap.size w wr) (fun i _ => n - (intOf i).toNat)
  case atStart => exact ⟨0, by omega, rfl, fun j h => by omega, Below.refl _ _⟩
  case round =>
    obtain ⟨k, hk, rfl, hall, hB⟩ := hrel
    have HA := hide hall
    have HB := hide hB
    clear hall
    by_cases hlt : k < n
    · have hlt1 : (k : Int) < (n : Int) := by omega
      have HR := hide (kisRight_any wr a n c l ((unhide H).below hB) k hlt hn hf)
      clear hB
      cases hr : rightAt l k
      case false =>
        rw [hr] at HR
        have e1 : Hid (T = 70) := by
          rw [unhide HT, if_neg (fun e => by
            have := ((checkP_all l).1 e).2 k (by omega)
            rw [hr] at this
            cases this)]
          rfl
        clear hr
        go_wp2_with fail
        refine (unhide HR).mono ?_
        rintro e w1 ⟨rfl, f1⟩
        have F1 := hide ((unhide HB).trans (f1.mono (unhide HB).size))
        clear f1 HR
        go_wp2
        go_ret
        exact ⟨by rw [unhide e1]; rfl, unhide F1⟩
      case true =>
        rw [hr] at HR
        have HN : Hid (∀ j, j < k + 1 → rightAt l j = true) := fun j hj => by
          by_cases e : j = k
          · subst e; exact hr
          · exact unhide HA j (by omega)
        clear hr
        go_wp2_with fail
        refine (unhide HR).mono ?_
        rintro e w1 ⟨rfl, f1⟩
        have F1 := hide ((unhide HB).trans (f1.mono (unhide HB).size))
        clear f1 HR
        go_wp2
        go_roundw
        case rel => exact ⟨k + 1, by omega, by go_num, unhide HN, unhide F1⟩
        case measure => simp [intOf]; omega
    · have e1 : Hid (T = 0) := by
        rw [unhide HT, if_pos ((checkP_all l).2 ⟨by omega, fun i hi => unhide HA i (by omega)⟩)]
        rfl
      clear hB
      go_wp2
      go_ret
      exact ⟨by rw [unhide e1]; rfl, unhide HB⟩

end Go.Proofs.Ytchhjieciiaooaa
