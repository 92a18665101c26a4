/- The landed class: types are written: kind. -/
import Derived.Test.YthhdfokcciibmaaGreatDoorJCkG

namespace Go.Proofs.YthhdfokcciibmaaGreatDoor
open Go.RowKit
set_option linter.unusedVariables false
set_option maxRecDepth 100000

/-- Two struct arguments, in blocks of their own. -/
theorem boxes2 (w : World) (X : Array Value) (T : TypeId) (Y : Array Value) (U : TypeId) : ∃ w1, (w.alloc (.cells X T)).alloc (.cells Y U) = w1 ∧ Below w.heap.size w w1 ∧ w1.heap.size = w.heap.size + 2 ∧ (∀ q v, X[q]? = some v → w1.cell? ⟨w.heap.size, q, none⟩ = some v) ∧ (∀ q v, Y[q]? = some v → w1.cell? ⟨w.heap.size + 1, q, none⟩ = some v) := by
  refine ⟨_, rfl, ((Below.refl _ _).alloc (Nat.le_refl _) _).alloc (by simp) _, by simp, fun q v h => ?_, fun q v h => ?_⟩
  · have h1 : ((w.alloc (.cells X T)).alloc (.cells Y U)).heap[w.heap.size]? = some (.cells X T (0, 0)) := (heap_alloc_old _ _ (by simp)).trans (heap_alloc_last w (.cells X T))
    rw [cell_of_row _ _ _ _ _ _ h1]
    exact h
  · have h1 := heap_alloc_last (w.alloc (.cells X T)) (.cells Y U)
    have e : (w.alloc (.cells X T)).heap.size = w.heap.size + 1 := by simp
    rw [e] at h1
    rw [cell_of_row _ _ _ _ _ _ h1]
    exact h
theorem Wt.box {C : Cx} {F : Nat → Prop} {w w1 W : World} {bs bs' : List UInt8} (h : Wt C F w bs) (f : Below w.heap.size w w1) (g : WtTo C F w1 bs' W) {b o : Nat} {v : Value} (hb : w.heap.size ≤ b) (hv : w1.cell? ⟨b, o, none⟩ = some v) : W.cell? ⟨b, o, none⟩ = some v :=
  (g.keep (World.block_lt_of_cell? _ _ hv) (fun e => by have := (h.lt b e).2; omega) o).trans hv

set_option maxHeartbeats 12800000 in
theorem wKind_any (C : Cx) (F : Nat → Prop) (w : World) (bs : List UInt8) (h : Wt C F w bs) (t : Ty) (ht : TyFit t) (hok : okT C.l t = true) (hbs : bs.length ≤ 90000000) :
    Calls Tryz.prog 144 #[C.v, .agg #[.int .i64 t.kind, .string ⟨t.name.toArray⟩]] w fun e w' => e = .returned (.tuple #[]) ∧ WtTo C F w (bs ++ tyB C.l t) w' := by
  obtain ⟨k, nm⟩ := t
  obtain ⟨_, hnm⟩ := ht
  simp only at hnm
  obtain ⟨wc, B, x, g, mt, mc, p, l⟩ := C
  unfold Cx.v
  simp only at hok h ⊢
  obtain ⟨w1, e1, f1, z1, K1, K2⟩ := boxes2 w #[.pointer (some ⟨x, 0, none⟩), .pointer (some ⟨g, 0, none⟩)] 106 #[.int .i64 k, .string ⟨nm.toArray⟩] 143
  have hW1 := h.below f1
  unfold okT at hok
  simp only [Bool.and_eq_true, decide_eq_true_eq] at hok
  obtain ⟨hk, hn⟩ := hok
  obtain ⟨kn, hkn, hk5⟩ : ∃ kn : Nat, k = (kn : Int) ∧ kn < 5 := ⟨k.toNat, by omega, by omega⟩
  obtain ⟨SS, hSS⟩ : ∃ SS : World → Prop, SS = fun W => ∃ bs', WtTo ⟨wc, B, x, g, mt, mc, p, l⟩ F w1 bs' W := ⟨_, rfl⟩
  have KS : Hid (∀ W, SS W ↔ ∃ bs', WtTo ⟨wc, B, x, g, mt, mc, p, l⟩ F w1 bs' W) := fun W => by rw [hSS]
  have KI : Hid (∀ W, SS W → (W.cell? ⟨w.heap.size, 0, none⟩ = some (.pointer (some ⟨x, 0, none⟩)) ∧ W.cell? ⟨w.heap.size, 1, none⟩ = some (.pointer (some ⟨g, 0, none⟩)) ∧ W.cell? ⟨w.heap.size + 1, 0, none⟩ = some (.int .i64 k) ∧ W.cell? ⟨w.heap.size + 1, 1, none⟩ = some (.string ⟨nm.toArray⟩)) ∧ W.cell? ⟨0, kn, none⟩ = some (.int .i64 (kindB kn)) ∧ W.cell? ⟨g, 2, none⟩ = some (.map (some mc)) ∧
      (Instr.lookup 109 (.map (some mc)) (.string ⟨nm.toArray⟩) false).run Tryz.prog W = .ok (.int .i64 (clsN l nm : Int)) W) := fun W hW => by
    rw [hSS] at hW
    obtain ⟨bs', hW⟩ := hW
    obtain ⟨F', hF, _⟩ := hW.ex
    exact ⟨⟨h.box f1 hW (Nat.le_refl _) (K1 0 _ rfl), h.box f1 hW (Nat.le_refl _) (K1 1 _ rfl), h.box f1 hW (by omega) (K2 0 _ rfl), h.box f1 hW (by omega) (K2 1 _ rfl)⟩, hF.tb kn hk5, hF.nm.c2, hF.nm.classes.look hnm⟩
  have S1 := WtG.start hW1 F
  have HU1 : Hid (∀ W bs' z, WtTo ⟨wc, B, x, g, mt, mc, p, l⟩ F w1 bs' W → bs'.length ≤ 100000000 → (0 ≤ z ∧ z ≤ 255) → Calls Tryz.prog 57 #[.pointer (some ⟨x, 0, none⟩), .int .i64 1, .slice (some ⟨W.heap.size, 0, none⟩) 1 1] (W.alloc (.cells #[.int .i64 z] 3)).drew fun e w' => e = .returned (.int .i64 0) ∧ WtTo ⟨wc, B, x, g, mt, mc, p, l⟩ F w1 (bs' ++ bytesW 1 z) w') := fun W bs' z hT hb hz => by
    have := hT.step (fun _ h => h) (fun F1 hF1 => wt_u hF1 (W' := (W.alloc (.cells #[.int .i64 z] 3)).drew) ((Below.refl _ _).alloc (Nat.le_refl _) _).drew [z] 1 1 rfl (fun j y hj => ints_at W [z] _ rfl j y hj) (by decide) (fun y hy => by simp at hy; subst hy; exact fz1 hz) hb (by omega))
    simpa using this
  have HU2 : Hid (∀ W bs' z, WtTo ⟨wc, B, x, g, mt, mc, p, l⟩ F w1 bs' W → bs'.length ≤ 100000000 → (0 ≤ z ∧ z ≤ 65535) → Calls Tryz.prog 57 #[.pointer (some ⟨x, 0, none⟩), .int .i64 2, .slice (some ⟨W.heap.size, 0, none⟩) 1 1] (W.alloc (.cells #[.int .i64 z] 3)).drew fun e w' => e = .returned (.int .i64 0) ∧ WtTo ⟨wc, B, x, g, mt, mc, p, l⟩ F w1 (bs' ++ bytesW 2 z) w') := fun W bs' z hT hb hz => by
    have := hT.step (fun _ h => h) (fun F1 hF1 => wt_u hF1 (W' := (W.alloc (.cells #[.int .i64 z] 3)).drew) ((Below.refl _ _).alloc (Nat.le_refl _) _).drew [z] 1 2 rfl (fun j y hj => ints_at W [z] _ rfl j y hj) (by decide) (fun y hy => by simp at hy; subst hy; exact fz2 hz) hb (by omega))
    simpa using this
  have HL : Hid (∀ bs' W, WtTo ⟨wc, B, x, g, mt, mc, p, l⟩ F w1 bs' W → WtTo ⟨wc, B, x, g, mt, mc, p, l⟩ F w bs' W) := fun bs' W hT => WtG.leave h f1 hT (fun j hj => .inl hj)
  have hcl := h.nm.cls nm
  simp only at hcl
  have hkb : 0 ≤ kindB kn ∧ kindB kn ≤ 255 := by unfold kindB; split <;> (try split) <;> (try split) <;> (try split) <;> omega
  have HB1 : Hid (kn ≠ 4 → tyB l ⟨k, nm⟩ = bytesW 1 (kindB kn)) := fun hne => by
    unfold tyB kindB
    simp only [hkn]
    have : kn = 0 ∨ kn = 1 ∨ kn = 2 ∨ kn = 3 := by omega
    rcases this with rfl | rfl | rfl | rfl <;> rfl
  have HB2 : Hid (kn = 4 → tyB l ⟨k, nm⟩ = bytesW 1 (kindB kn) ++ bytesW 2 (clsN l nm : Int)) := fun he => by
    subst he
    unfold tyB
    simp only [hkn]
    rfl
  have E1 := hide e1
  have SS1 := hide S1
  generalize kindB kn = kb at *
  generalize tyB l ⟨k, nm⟩ = tb at *
  generalize (⟨nm.toArray⟩ : ByteArray) = st at *
  have hkn0 : (0 : Int) ≤ (kn : Int) := by omega
  have hkn5 : (kn : Int) < 5 := by omega
  subst hkn
  clear h hSS K1 K2 e1 hW1 S1 hk hn f1 hnm z1
  have e1 := unhide E1
  go_enter Tryz.func144, Tryz.ntmps144
  go_wp2
  clear e1
  refine wp_region_txt SS [6, 7] (List.range 8) (by kernel_rfl) (by kernel_rfl) ((unhide KS _).2 ⟨_, (unhide SS1).below (Below.refl _ _).drew⟩) ?_
  repeat (first
    | (refine Txt.skips (by rfl) (by rfl) ?_; simp only [Act.put, List.setIfInBounds_toArray, List.set_cons_zero, List.set_cons_succ])
    | (refine Txt.reads (v := ?_) (by rfl) (by rfl) (by rfl) ?_ ?_; rotate_left; (focus ((intro W hSW; obtain ⟨⟨p0, p1, p2, p3⟩, p4, p5, p6⟩ := unhide KI W hSW; go_simp) <;> with_reducible rfl)); simp only [Act.put, List.setIfInBounds_toArray, List.set_cons_zero, List.set_cons_succ]))
  refine Txt.acts (by rfl) (by rfl) (by rfl) (fun K hK => ?_)
  go_simp
  refine hK.out _ _ ((unhide KS _).2 ⟨_, (unhide SS1).below ((Below.refl _ _).alloc (Nat.le_refl _) _).drew⟩) ?_
  clear hK K
  refine Txt.acts (by rfl) (by rfl) (by rfl) (fun K hK => ?_)
  go_simp
  refine (unhide HU1 _ _ _ (unhide SS1) (by omega) hkb).mono ?_
  rintro e w2 ⟨rfl, T2⟩
  refine hK.out _ _ ((unhide KS _).2 ⟨_, T2⟩) ?_
  clear hK K
  refine Txt.done ?_
  have TT2 := hide T2
  obtain ⟨⟨p0, p1, p2, p3⟩, _⟩ := unhide KI w2 ((unhide KS _).2 ⟨_, T2⟩)
  clear T2
  by_cases h4 : kn = 4
  · subst h4
    have HBB := hide (unhide HB2 rfl)
    go_wp2
    refine wp_region_txt SS [10, 11] (List.range 12) (by kernel_rfl) (by kernel_rfl) ((unhide KS _).2 ⟨_, (unhide TT2).below (Below.refl _ _).drew⟩) ?_
    repeat (first
      | (refine Txt.skips (by rfl) (by rfl) ?_; simp only [Act.put, List.setIfInBounds_toArray, List.set_cons_zero, List.set_cons_succ])
      | (refine Txt.reads (v := ?_) (by rfl) (by rfl) (by rfl) ?_ ?_; rotate_left; (focus ((intro W hSW; obtain ⟨⟨p0, p1, p2, p3⟩, p4, p5, p6⟩ := unhide KI W hSW; go_simp) <;> with_reducible rfl)); simp only [Act.put, List.setIfInBounds_toArray, List.set_cons_zero, List.set_cons_succ]))
    refine Txt.acts (by rfl) (by rfl) (by rfl) (fun K hK => ?_)
    go_simp
    refine hK.out _ _ ((unhide KS _).2 ⟨_, (unhide TT2).below ((Below.refl _ _).alloc (Nat.le_refl _) _).drew⟩) ?_
    clear hK K
    refine Txt.acts (by rfl) (by rfl) (by rfl) (fun K hK => ?_)
    go_simp
    refine (unhide HU2 _ _ _ (unhide TT2) (by simp [bytesW_len]; omega) (by omega)).mono ?_
    rintro e w3 ⟨rfl, T3⟩
    refine hK.out _ _ ((unhide KS _).2 ⟨_, T3⟩) ?_
    clear hK K
    refine Txt.done ?_
    have T4 := hide (unhide HL _ _ T3)
    clear T3 p0 p1 p2 p3
    go_wp2
    go_end0
    refine ⟨rfl, ?_⟩
    rw [unhide HBB, ← List.append_assoc]
    exact unhide T4
  · have h4b : ((kn : Int) == 4) = false := by simp; omega
    have HBB := hide (unhide HB1 h4)
    have T4 := hide (unhide HL _ _ (unhide TT2))
    go_wp2
    go_end0
    refine ⟨rfl, ?_⟩
    rw [unhide HBB]
    exact unhide T4
end Go.Proofs.YthhdfokcciibmaaGreatDoor
