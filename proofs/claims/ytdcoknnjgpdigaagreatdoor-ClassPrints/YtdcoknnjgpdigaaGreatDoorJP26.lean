/- Joined: CkH CkI CkJ CkK. -/
import Derived.Test.YtdcoknnjgpdigaaGreatDoorJP21
import Derived.Test.YtdcoknnjgpdigaaGreatDoorJP7

/- The landed class: types are written: kind. -/
namespace Go.Proofs.YtdcoknnjgpdigaaGreatDoor
open Go.RowKit
set_option linter.unusedVariables false
set_option maxRecDepth 100000

/-- Two struct arguments, in blocks of their own. -/
theorem boxes2 (w : World) (X : Array Value) (T : TypeId) (Y : Array Value) (U : TypeId) : ∃ w1, (w.alloc (.cells X T)).alloc (.cells Y U) = w1 ∧ Below w.heap.size w w1 ∧ w1.heap.size = w.heap.size + 2 ∧ (∀ q v, X[q]? = some v → w1.cell? ⟨w.heap.size, q, none⟩ = some v) ∧ (∀ q v, Y[q]? = some v → w1.cell? ⟨w.heap.size + 1, q, none⟩ = some v) := by
  refine ⟨_, rfl, ((Below.refl _ _).alloc (Nat.le_refl _) _).alloc (by simp) _, by simp, fun q v h => ?_, fun q v h => ?_⟩
  · have h1 : ((w.alloc (.cells X T)).alloc (.cells Y U)).heap[w.heap.size]? = some (.cells X T (0, 0)) := (heap_alloc_old _ _ (by simp)).trans (heap_alloc_last w (.cells X T))
    rw [cell_of_row _ _ _ _ _ _ h1]
    exact h
  · have h1 := heap_alloc_last (w.alloc (.cells X T)) (.cells Y U)
    have e : (w.alloc (.cells X T)).heap.size = w.heap.size + 1 := by simp
    rw [e] at h1
    rw [cell_of_row _ _ _ _ _ _ h1]
    exact h
theorem Wt.box {C : Cx} {F : Nat → Prop} {w w1 W : World} {bs bs' : List UInt8} (h : Wt C F w bs) (f : Below w.heap.size w w1) (g : WtTo C F w1 bs' W) {b o : Nat} {v : Value} (hb : w.heap.size ≤ b) (hv : w1.cell? ⟨b, o, none⟩ = some v) : W.cell? ⟨b, o, none⟩ = some v :=
  (g.keep (World.block_lt_of_cell? _ _ hv) (fun e => by have := (h.lt b e).2; omega) o).trans hv

set_option maxHeartbeats 12800000 in
theorem wKind_any (C : Cx) (F : Nat → Prop) (w : World) (bs : List UInt8) (h : Wt C F w bs) (t : Ty) (ht : TyFit t) (hok : okT C.l t = true) (hbs : bs.length ≤ 90000000) :
    Calls Tryz.prog 144 #[C.v, .agg #[.int .i64 t.kind, .string ⟨t.name.toArray⟩]] w fun e w' => e = .returned (.tuple #[]) ∧ WtTo C F w (bs ++ tyB C.l t) w' := by
  obtain ⟨k, nm⟩ := t
  obtain ⟨_, hnm⟩ := ht
  simp only at hnm
  obtain ⟨wc, B, x, g, mt, mc, p, l⟩ := C
  unfold Cx.v
  simp only at hok h ⊢
  obtain ⟨w1, e1, f1, z1, K1, K2⟩ := boxes2 w #[.pointer (some ⟨x, 0, none⟩), .pointer (some ⟨g, 0, none⟩)] 106 #[.int .i64 k, .string ⟨nm.toArray⟩] 143
  have hW1 := h.below f1
  unfold okT at hok
  simp only [Bool.and_eq_true, decide_eq_true_eq] at hok
  obtain ⟨hk, hn⟩ := hok
  obtain ⟨kn, hkn, hk5⟩ : ∃ kn : Nat, k = (kn : Int) ∧ kn < 5 := ⟨k.toNat, by omega, by omega⟩
  obtain ⟨SS, hSS⟩ : ∃ SS : World → Prop, SS = fun W => ∃ bs', WtTo ⟨wc, B, x, g, mt, mc, p, l⟩ F w1 bs' W := ⟨_, rfl⟩
  have KS : Hid (∀ W, SS W ↔ ∃ bs', WtTo ⟨wc, B, x, g, mt, mc, p, l⟩ F w1 bs' W) := fun W => by rw [hSS]
  have KI : Hid (∀ W, SS W → (W.cell? ⟨w.heap.size, 0, none⟩ = some (.pointer (some ⟨x, 0, none⟩)) ∧ W.cell? ⟨w.heap.size, 1, none⟩ = some (.pointer (some ⟨g, 0, none⟩)) ∧ W.cell? ⟨w.heap.size + 1, 0, none⟩ = some (.int .i64 k) ∧ W.cell? ⟨w.heap.size + 1, 1, none⟩ = some (.string ⟨nm.toArray⟩)) ∧ W.cell? ⟨0, kn, none⟩ = some (.int .i64 (kindB kn)) ∧ W.cell? ⟨g, 2, none⟩ = some (.map (some mc)) ∧
      (Instr.lookup 109 (.map (some mc)) (.string ⟨nm.toArray⟩) false).run Tryz.prog W = .ok (.int .i64 (clsN l nm : Int)) W) := fun W hW => by
    rw [hSS] at hW
    obtain ⟨bs', hW⟩ := hW
    obtain ⟨F', hF, _⟩ := hW.ex
    exact ⟨⟨h.box f1 hW (Nat.le_refl _) (K1 0 _ rfl), h.box f1 hW (Nat.le_refl _) (K1 1 _ rfl), h.box f1 hW (by omega) (K2 0 _ rfl), h.box f1 hW (by omega) (K2 1 _ rfl)⟩, hF.tb kn hk5, hF.nm.c2, hF.nm.classes.look hnm⟩
  have S1 := WtG.start hW1 F
  have HU1 : Hid (∀ W bs' z, WtTo ⟨wc, B, x, g, mt, mc, p, l⟩ F w1 bs' W → bs'.length ≤ 100000000 → (0 ≤ z ∧ z ≤ 255) → Calls Tryz.prog 57 #[.pointer (some ⟨x, 0, none⟩), .int .i64 1, .slice (some ⟨W.heap.size, 0, none⟩) 1 1] (W.alloc (.cells #[.int .i64 z] 3)).drew fun e w' => e = .returned (.int .i64 0) ∧ WtTo ⟨wc, B, x, g, mt, mc, p, l⟩ F w1 (bs' ++ bytesW 1 z) w') := fun W bs' z hT hb hz => by
    have := hT.step (fun _ h => h) (fun F1 hF1 => wt_u hF1 (W' := (W.alloc (.cells #[.int .i64 z] 3)).drew) ((Below.refl _ _).alloc (Nat.le_refl _) _).drew [z] 1 1 rfl (fun j y hj => ints_at W [z] _ rfl j y hj) (by decide) (fun y hy => by simp at hy; subst hy; exact fz1 hz) hb (by omega))
    simpa using this
  have HU2 : Hid (∀ W bs' z, WtTo ⟨wc, B, x, g, mt, mc, p, l⟩ F w1 bs' W → bs'.length ≤ 100000000 → (0 ≤ z ∧ z ≤ 65535) → Calls Tryz.prog 57 #[.pointer (some ⟨x, 0, none⟩), .int .i64 2, .slice (some ⟨W.heap.size, 0, none⟩) 1 1] (W.alloc (.cells #[.int .i64 z] 3)).drew fun e w' => e = .returned (.int .i64 0) ∧ WtTo ⟨wc, B, x, g, mt, mc, p, l⟩ F w1 (bs' ++ bytesW 2 z) w') := fun W bs' z hT hb hz => by
    have := hT.step (fun _ h => h) (fun F1 hF1 => wt_u hF1 (W' := (W.alloc (.cells #[.int .i64 z] 3)).drew) ((Below.refl _ _).alloc (Nat.le_refl _) _).drew [z] 1 2 rfl (fun j y hj => ints_at W [z] _ rfl j y hj) (by decide) (fun y hy => by simp at hy; subst hy; exact fz2 hz) hb (by omega))
    simpa using this
  have HL : Hid (∀ bs' W, WtTo ⟨wc, B, x, g, mt, mc, p, l⟩ F w1 bs' W → WtTo ⟨wc, B, x, g, mt, mc, p, l⟩ F w bs' W) := fun bs' W hT => WtG.leave h f1 hT (fun j hj => .inl hj)
  have hcl := h.nm.cls nm
  simp only at hcl
  have hkb : 0 ≤ kindB kn ∧ kindB kn ≤ 255 := by unfold kindB; split <;> (try split) <;> (try split) <;> (try split) <;> omega
  have HB1 : Hid (kn ≠ 4 → tyB l ⟨k, nm⟩ = bytesW 1 (kindB kn)) := fun hne => by
    unfold tyB kindB
    simp only [hkn]
    have : kn = 0 ∨ kn = 1 ∨ kn = 2 ∨ kn = 3 := by omega
    rcases this with rfl | rfl | rfl | rfl <;> rfl
  have HB2 : Hid (kn = 4 → tyB l ⟨k, nm⟩ = bytesW 1 (kindB kn) ++ bytesW 2 (clsN l nm : Int)) := fun he => by
    subst he
    unfold tyB
    simp only [hkn]
    rfl
  have E1 := hide e1
  have SS1 := hide S1
  generalize kindB kn = kb at *
  generalize tyB l ⟨k, nm⟩ = tb at *
  generalize (⟨nm.toArray⟩ : ByteArray) = st at *
  have hkn0 : (0 : Int) ≤ (kn : Int) := by omega
  have hkn5 : (kn : Int) < 5 := by omega
  subst hkn
  clear h hSS K1 K2 e1 hW1 S1 hk hn f1 hnm z1
  have e1 := unhide E1
  go_enter Tryz.func144, Tryz.ntmps144
  go_wp2
  clear e1
  refine wp_region_txt SS [6, 7] (List.range 8) (by kernel_rfl) (by kernel_rfl) ((unhide KS _).2 ⟨_, (unhide SS1).below (Below.refl _ _).drew⟩) ?_
  repeat (first
    | (refine Txt.skips (by rfl) (by rfl) ?_; simp only [Act.put, List.setIfInBounds_toArray, List.set_cons_zero, List.set_cons_succ])
    | (refine Txt.reads (v := ?_) (by rfl) (by rfl) (by rfl) ?_ ?_; rotate_left; (focus ((intro W hSW; obtain ⟨⟨p0, p1, p2, p3⟩, p4, p5, p6⟩ := unhide KI W hSW; go_simp) <;> with_reducible rfl)); simp only [Act.put, List.setIfInBounds_toArray, List.set_cons_zero, List.set_cons_succ]))
  refine Txt.acts (by rfl) (by rfl) (by rfl) (fun K hK => ?_)
  go_simp
  refine hK.out _ _ ((unhide KS _).2 ⟨_, (unhide SS1).below ((Below.refl _ _).alloc (Nat.le_refl _) _).drew⟩) ?_
  clear hK K
  refine Txt.acts (by rfl) (by rfl) (by rfl) (fun K hK => ?_)
  go_simp
  refine (unhide HU1 _ _ _ (unhide SS1) (by omega) hkb).mono ?_
  rintro e w2 ⟨rfl, T2⟩
  refine hK.out _ _ ((unhide KS _).2 ⟨_, T2⟩) ?_
  clear hK K
  refine Txt.done ?_
  have TT2 := hide T2
  obtain ⟨⟨p0, p1, p2, p3⟩, _⟩ := unhide KI w2 ((unhide KS _).2 ⟨_, T2⟩)
  clear T2
  by_cases h4 : kn = 4
  · subst h4
    have HBB := hide (unhide HB2 rfl)
    go_wp2
    refine wp_region_txt SS [10, 11] (List.range 12) (by kernel_rfl) (by kernel_rfl) ((unhide KS _).2 ⟨_, (unhide TT2).below (Below.refl _ _).drew⟩) ?_
    repeat (first
      | (refine Txt.skips (by rfl) (by rfl) ?_; simp only [Act.put, List.setIfInBounds_toArray, List.set_cons_zero, List.set_cons_succ])
      | (refine Txt.reads (v := ?_) (by rfl) (by rfl) (by rfl) ?_ ?_; rotate_left; (focus ((intro W hSW; obtain ⟨⟨p0, p1, p2, p3⟩, p4, p5, p6⟩ := unhide KI W hSW; go_simp) <;> with_reducible rfl)); simp only [Act.put, List.setIfInBounds_toArray, List.set_cons_zero, List.set_cons_succ]))
    refine Txt.acts (by rfl) (by rfl) (by rfl) (fun K hK => ?_)
    go_simp
    refine hK.out _ _ ((unhide KS _).2 ⟨_, (unhide TT2).below ((Below.refl _ _).alloc (Nat.le_refl _) _).drew⟩) ?_
    clear hK K
    refine Txt.acts (by rfl) (by rfl) (by rfl) (fun K hK => ?_)
    go_simp
    refine (unhide HU2 _ _ _ (unhide TT2) (by simp [bytesW_len]; omega) (by omega)).mono ?_
    rintro e w3 ⟨rfl, T3⟩
    refine hK.out _ _ ((unhide KS _).2 ⟨_, T3⟩) ?_
    clear hK K
    refine Txt.done ?_
    have T4 := hide (unhide HL _ _ T3)
    clear T3 p0 p1 p2 p3
    go_wp2
    go_end0
    refine ⟨rfl, ?_⟩
    rw [unhide HBB, ← List.append_assoc]
    exact unhide T4
  · have h4b : ((kn : Int) == 4) = false := by simp; omega
    have HBB := hide (unhide HB1 h4)
    have T4 := hide (unhide HL _ _ (unhide TT2))
    go_wp2
    go_end0
    refine ⟨rfl, ?_⟩
    rw [unhide HBB]
    exact unhide T4
end Go.Proofs.YtdcoknnjgpdigaaGreatDoor

/- The landed class: types are written: writeList, narrow. -/
namespace Go.Proofs.YtdcoknnjgpdigaaGreatDoor
open Go.RowKit
set_option linter.unusedVariables false
set_option maxRecDepth 100000

set_option maxHeartbeats 6400000 in
theorem wlT_any (C : Cx) (F : Nat → Prop) (w : World) (bs : List UInt8) (h : Wt C F w bs) (s : Sl) (xs : List Ty) (M : Nat) (hL : ∀ W, (∃ bs', WtTo C F w bs' W) → Ls 2 tyc W s.a s.n xs) (hE : ∀ x ∈ xs, TyFit x ∧ okT C.l x = true) (hM : ∀ x ∈ xs, (tyB C.l x).length ≤ M) (hn : s.n ≤ 65535) (hbs : bs.length + 2 + s.n * M ≤ 90000000) :
    Calls Tryz.prog 142 #[C.v, s.v, .func (.func 144) #[C.v] #[]] w fun e w' => e = .returned (.tuple #[]) ∧ WtTo C F w (bs ++ (bytesW 2 (s.n : Int) ++ xs.flatMap (tyB C.l))) w' := by
  obtain ⟨a, n, c⟩ := s
  simp only at hL hn hbs ⊢
  have hln := (hL w ⟨_, WtG.start h F⟩).1
  obtain ⟨w1, e1, f1, K1⟩ := one_local w #[.pointer (some ⟨C.x, 0, none⟩), .pointer (some ⟨C.g, 0, none⟩)] 106
  have hW1 := h.below f1
  have S1 := WtG.start hW1 F
  have c0 := K1 w1 (Below.refl _ _) 0 _ rfl
  have hlen : ∀ k, k ≤ n → ((xs.take k).flatMap (tyB C.l)).length ≤ k * M := fun k => by
    induction k with
    | zero => intro _; simp
    | succ k ih =>
      intro hk
      obtain ⟨x, hx⟩ : ∃ x, xs[k]? = some x := ⟨_, List.getElem?_eq_getElem (by omega)⟩
      rw [List.take_add_one, hx, List.flatMap_append, List.length_append]
      have := ih (by omega)
      have := hM x (List.mem_of_getElem? hx)
      simp only [Option.toList, List.flatMap_cons, List.flatMap_nil, List.append_nil]
      rw [Nat.succ_mul]
      omega
  have HU : Hid (Calls Tryz.prog 57 #[.pointer (some ⟨C.x, 0, none⟩), .int .i64 2, .slice (some ⟨w1.heap.size, 0, none⟩) 1 1] (w1.alloc (.cells #[.int .i64 (n : Int)] 3)) fun e w' => e = .returned (.int .i64 0) ∧ WtTo C F w1 (bs ++ bytesW 2 (n : Int)) w') := by
    have := wt_u hW1 (W' := w1.alloc (.cells #[.int .i64 (n : Int)] 3)) ((Below.refl _ _).alloc (Nat.le_refl _) _) [(n : Int)] 1 2 rfl (fun j y hj => ints_at w1 [(n : Int)] _ rfl j y hj) (by decide) (fun y hy => by simp at hy; subst hy; exact fz2 (by omega)) (by omega) (by omega)
    exact hide (by simpa using this)
  have HL1 : Hid (∀ bs' W, WtTo C F w1 bs' W → WtTo C F w bs' W) := fun bs' W hT => WtG.leave h f1 hT (fun j hj => .inl hj)
  have HLL : Hid (∀ bs' W, WtTo C F w1 bs' W → Ls 2 tyc W a n xs) := fun bs' W hT => hL W ⟨_, unhide HL1 _ _ hT⟩
  have HO : Hid (∀ bs' W x, WtTo C F w1 bs' W → x ∈ xs → bs'.length ≤ 90000000 → Calls Tryz.prog 144 #[C.v, .agg #[.int .i64 x.kind, .string ⟨x.name.toArray⟩]] W fun e w' => e = .returned (.tuple #[]) ∧ WtTo C F w1 (bs' ++ tyB C.l x) w') := fun bs' W x hT hxm hb => by
    have hx := hE x hxm
    have hk5 := unhide HL1 _ _ hT
    exact hT.step (P := fun e => e = .returned (.tuple #[])) (fun _ h => h) (fun F1 hF1 => wKind_any C F1 _ _ hF1 x hx.1 hx.2 hb)
  have HLEN := hide hlen
  have E1 := hide e1
  have SS1 := hide S1
  clear h e1 hW1 S1 hlen hL hE hM f1 K1
  unfold Cx.v Sl.v
  simp only
  have e1 := unhide E1
  go_enter Tryz.func142, Tryz.ntmps142
  go_wp2_with fail
  refine (unhide HU).mono ?_
  rintro e w2 ⟨rfl, T2⟩
  have TT2 := hide T2
  clear e1 T2 HU c0
  go_wp2
  go_loopw [16] (fun i wr => ∃ k : Nat, k ≤ n ∧ i = .int .i64 k ∧ WtTo C F w1 (bs ++ (bytesW 2 (n : Int) ++ (xs.take k).flatMap (tyB C.l))) wr) (fun i _ => n - (intOf i).toNat)
  case atStart => exact ⟨0, by omega, rfl, by simpa using unhide TT2⟩
  case round =>
    obtain ⟨k, hk, rfl, hT⟩ := hrel
    by_cases hlt : k < n
    · have hlt1 : (k : Int) < (n : Int) := by omega
      have hk0 : (0 : Int) ≤ (k : Int) := by omega
      have hLs := unhide HLL _ _ hT
      obtain ⟨b1, o1, h1a, h1⟩ := Ls.row hLs (w' := wr) (by omega)
      subst h1a
      obtain ⟨x, hx1⟩ : ∃ x, xs[k]? = some x := ⟨_, List.getElem?_eq_getElem (by omega)⟩
      have q := h1 (Below.refl _ _) k x hx1
      have hstep : Hid (bs ++ (bytesW 2 (n : Int) ++ (xs.take (k + 1)).flatMap (tyB C.l)) = (bs ++ (bytesW 2 (n : Int) ++ (xs.take k).flatMap (tyB C.l))) ++ tyB C.l x) := by
        show bs ++ (bytesW 2 (n : Int) ++ (xs.take (k + 1)).flatMap (tyB C.l)) = _
        rw [List.take_add_one, hx1]
        simp
      have hbl : (bs ++ (bytesW 2 (n : Int) ++ (xs.take k).flatMap (tyB C.l))).length ≤ 90000000 := by
        have := unhide HLEN k (by omega)
        have h2 : (bytesW 2 (n : Int)).length = 2 := bytesW_len _ _
        have h3 : k * M ≤ n * M := Nat.mul_le_mul_right _ (by omega)
        rw [List.length_append, List.length_append, h2]
        omega
      have hxm := List.mem_of_getElem? hx1
      have c0 := q.zero
      have c1 := q 1 _ rfl
      have HP := hide (unhide HO _ (wr.alloc (.cells #[.int .i64 x.kind, .string ⟨x.name.toArray⟩] 143)) _ (hT.below ((Below.refl _ _).alloc (Nat.le_refl _) _)) hxm hbl)
      clear q h1 hx1 hT hLs hbl hxm
      unfold Cx.v at HP
      try simp only [Sl.v] at HP hstep
      generalize (⟨x.name.toArray⟩ : ByteArray) = s1 at *
      go_wp2_with fail
      refine (unhide HP).mono ?_
      rintro e w4 ⟨rfl, T4⟩
      have TT4 := hide T4
      clear HP T4
      go_wp2
      go_roundw
      case rel => exact ⟨k + 1, by omega, by go_num, by rw [unhide hstep]; exact unhide TT4⟩
      case measure => simp [intOf]; omega
    · obtain rfl : k = n := by omega
      rw [List.take_of_length_le (by omega)] at hT
      have TT := hide (unhide HL1 _ _ hT)
      clear hT
      go_wp2
      go_end0
      exact ⟨rfl, unhide TT⟩

/-- The locals that are told. -/
def narA : Bool → List Ty → List Ty
  | _, [] => []
  | skip, t :: r => (if skip then [] else [t]) ++ narA (decide (t.kind = 2)) r
theorem narA_told : ∀ (n : Nat) (ts : List Ty), ts.length ≤ n → longsB ts = true → narA false ts = toldT true ts := by
  intro n
  induction n with
  | zero => intro ts h _; obtain rfl : ts = [] := List.length_eq_zero_iff.1 (by omega); rfl
  | succ n ih =>
    intro ts h hl
    match ts, h, hl with
    | [], _, _ => rfl
    | [t], _, _ => simp [narA, toldT]
    | t :: z :: r, h, hl =>
      unfold longsB at hl
      rw [Bool.and_eq_true] at hl
      by_cases hk : t.kind = 2
      · have hz : z.kind = 0 := by simpa [hk] using hl.1
        have e : toldT true (t :: z :: r) = t :: toldT true r := by
          show (if true = true ∧ t.kind = 2 then t :: toldT true r else t :: toldT true (z :: r)) = _
          rw [if_pos ⟨rfl, hk⟩]
        rw [e, ← ih r (by simp at h; omega) (by rw [longsB_top z hz] at hl; exact hl.2)]
        simp [narA, hk, hz]
      · have e : toldT true (t :: z :: r) = t :: toldT true (z :: r) := by
          show (if true = true ∧ t.kind = 2 then t :: toldT true r else t :: toldT true (z :: r)) = _
          rw [if_neg (fun h => hk h.2)]
        rw [e, ← ih (z :: r) (by simp at h ⊢; omega) hl.2]
        simp [narA, hk]
theorem narA_step : ∀ (ts : List Ty) (skip : Bool) (k : Nat) (t : Ty), ts[k]? = some t → narA skip (ts.take (k + 1)) = narA skip (ts.take k) ++ (if (if k = 0 then skip else decide ((((ts[k - 1]?).map Ty.kind).getD 0) = 2)) then [] else [t])
  | [], _, _, _, h => by simp at h
  | x :: r, skip, 0, t, h => by
    simp at h
    subst h
    simp [narA]
  | x :: r, skip, k + 1, t, h => by
    have ih := narA_step r (decide (x.kind = 2)) k t (by simpa using h)
    simp only [List.take_succ_cons, narA]
    rw [ih, List.append_assoc]
    congr 2
    cases k with
    | zero => simp
    | succ k => simp
theorem narA_len : ∀ (skip : Bool) (ts : List Ty), (narA skip ts).length ≤ ts.length
  | _, [] => by simp [narA]
  | skip, t :: r => by
    have := narA_len (decide (t.kind = 2)) r
    simp only [narA, List.length_append, List.length_cons]
    cases skip <;> simp <;> omega

set_option maxHeartbeats 6400000 in
theorem narrow_any (w : World) (s : Sl) (ts : List Ty) (hA : TysIn w s ts) :
    Calls Tryz.prog 143 #[s.v] w fun e w' => ∃ v, e = .returned v ∧ Orw tyc 143 2 w' w.heap.size v (narA false ts) ∧ Below w.heap.size w w' := by
  obtain ⟨a, n, c⟩ := s
  have hs := hA.small
  have hln := hA.ls.1
  simp only at hln hs
  unfold Sl.v
  simp only
  have HA := hide hA.ls
  have HF := hide hA.each
  clear hA
  go_enter Tryz.func143, Tryz.ntmps143
  go_wp2
  go_loopw [3, 8] (fun v i wr => ∃ k : Nat, k ≤ n ∧ i = .int .i64 k ∧ Orw tyc 143 2 wr w.heap.size v (narA false (ts.take k)) ∧ Below w.heap.size w wr) (fun _ i _ => n - (intOf i).toNat)
  case atStart => exact ⟨0, by omega, rfl, Orw.nil _ _ _ _ _, Below.refl _ _⟩
  case round =>
    obtain ⟨k, hk, rfl, hO, hR⟩ := hrel
    by_cases hlt : k < n
    · have hlt1 : (k : Int) < (n : Int) := by omega
      have hk0 : (0 : Int) ≤ (k : Int) := by omega
      obtain ⟨b1, o1, h1a, h1⟩ := Ls.row (unhide HA) (w' := w) (by show n ≠ 0; omega)
      subst h1a
      obtain ⟨t, ht⟩ : ∃ t, ts[k]? = some t := ⟨_, List.getElem?_eq_getElem (by omega)⟩
      have q := h1 hR k t ht
      have c0 := q.zero
      have c1 := q 1 _ rfl
      have hstep := narA_step ts false k t ht
      have hlen := narA_len false (ts.take k)
      have hlk : (ts.take k).length = k := by rw [List.length_take]; omega
      have hf1 := ((Below.refl wr.heap.size wr).alloc (Nat.le_refl _) (.cells #[.int .i64 t.kind, .string ⟨t.name.toArray⟩] 143))
      have FR1 := hR.trans (hf1.mono hR.size)
      have O1 : Orw tyc 143 2 (wr.alloc (.cells #[.int .i64 t.kind, .string ⟨t.name.toArray⟩] 143)) w.heap.size _ (narA false (ts.take k)) := hO.below (fun j hj => hf1.block j (hO.lt j hj).2)
      have hl1 := ls_one (cs := tyc) (sz := 2) (wr.alloc (.cells #[.int .i64 t.kind, .string ⟨t.name.toArray⟩] 143)) #[.int .i64 t.kind, .string ⟨t.name.toArray⟩] 143 t rfl
      have hsz1 : (wr.alloc (.cells #[.int .i64 t.kind, .string ⟨t.name.toArray⟩] 143)).heap.size = wr.heap.size + 1 := by simp
      rw [hsz1] at hl1
      clear hsz1
      have hlen2 : ((narA false (ts.take k)).length + 1) * 24 ≤ 140737488355328 := by omega
      have hlen3 : (narA false (ts.take k)).length + 1 ≤ 140737488355328 := by omega
      have HL2 := hide hlen2
      have HL3 := hide hlen3
      clear hlen2 hlen3
      have O2 : Orw tyc 143 2 ((wr.alloc (.cells #[.int .i64 t.kind, .string ⟨t.name.toArray⟩] 143)).alloc (.cells #[.int .i64 t.kind, .string ⟨t.name.toArray⟩] 143)) w.heap.size _ (narA false (ts.take k)) := O1.below (fun j hj => ((Below.refl _ _).alloc (Nat.le_refl _) _).block j (O1.lt j hj).2)
      have FR2 : Below w.heap.size w ((wr.alloc (.cells #[.int .i64 t.kind, .string ⟨t.name.toArray⟩] 143)).alloc (.cells #[.int .i64 t.kind, .string ⟨t.name.toArray⟩] 143)) := FR1.alloc FR1.size _
      by_cases h0 : k = 0
      · subst h0
        simp only [Nat.zero_mul, Nat.add_zero] at c0 c1
        have hst : narA false (ts.take (0 + 1)) = narA false (ts.take 0) ++ [t] := by rw [hstep]; rfl
        have HST := hide hst
        have HO2 := hide O2
        have HL1 := hide hl1
        have HF2 := hide FR2
        clear q h1 ht hR hf1 hO O1 O2 hl1 FR1 FR2 hst hstep hlen
        go_wp2_with (first
          | (at_builtin; refine listR_append rkT rfl _ _ rfl w.heap.size _ _ rfl (unhide HO2) _ 1 1 [t] rfl (unhide HL1) (fun e => by cases e) (unhide HL2) (unhide HL3) (unhide HF2).size ?_)
          | go_in)
        intro v' w3 o3 g3
        have HO3 := hide o3
        have HF3 := hide (grown_below (unhide HF2) (unhide HO2) g3)
        clear o3 g3
        go_wp2
        go_roundw
        case rel => exact ⟨1, by omega, by go_num, by rw [show (1 : Nat) = 0 + 1 from rfl, unhide HST]; exact unhide HO3, unhide HF3⟩
        case measure => simp [intOf]; omega
      · have hk1 : ((k : Int) == 0) = false := by simpa using h0
        obtain ⟨y, hy⟩ : ∃ y, ts[k - 1]? = some y := ⟨_, List.getElem?_eq_getElem (by omega)⟩
        have qy := h1 FR1 (k - 1) y hy
        have y0 := qy.zero
        have hkk : (k : Int) - 1 = ((k - 1 : Nat) : Int) := by omega
        obtain ⟨j, hj⟩ : ∃ j, j = k - 1 := ⟨_, rfl⟩
        rw [← hj] at y0 hkk hy
        have hj0 : (0 : Int) ≤ (j : Int) := by omega
        have hj1 : (j : Int) < (n : Int) := by omega
        have hfy := (unhide HF y (List.mem_of_getElem? hy)).1
        unfold fitI at hfy
        rw [if_neg h0, ← hj, hy] at hstep
        simp only [Option.map_some, Option.getD_some] at hstep
        have HST := hide hstep
        have HO2 := hide O2
        have HO1 := hide O1
        have HL1 := hide hl1
        have HF2 := hide FR2
        have HF1 := hide FR1
        have HJ := hide hj
        clear q h1 ht hR hf1 hO O1 O2 hl1 FR1 FR2 hstep qy hy hj hlen
        by_cases hy2 : y.kind = 2
        · have HS2 : Hid (narA false (ts.take (k + 1)) = narA false (ts.take k)) := by
            show narA false (ts.take (k + 1)) = _
            rw [unhide HST]
            simp [hy2]
          have hy3 : (y.kind == 2) = true := by simpa using hy2
          clear HST
          generalize y.kind = yk at *
          subst hy2
          go_wp2
          go_roundw
          case rel => exact ⟨k + 1, by omega, by go_num, by rw [unhide HS2]; exact unhide HO1, unhide HF1⟩
          case measure => simp [intOf]; omega
        · have HS2 : Hid (narA false (ts.take (k + 1)) = narA false (ts.take k) ++ [t]) := by
            show narA false (ts.take (k + 1)) = _
            rw [unhide HST]
            simp [hy2]
          have hy3 : (y.kind == 2) = false := by simpa using hy2
          have hy4 : (y.kind != 2) = true := by simpa using hy2
          clear HST
          go_wp2_with (first
            | (at_builtin; refine listR_append rkT rfl _ _ rfl w.heap.size _ _ rfl (unhide HO2) _ 1 1 [t] rfl (unhide HL1) (fun e => by cases e) (unhide HL2) (unhide HL3) (unhide HF2).size ?_)
            | go_in)
          intro v' w3 o3 g3
          have HO3 := hide o3
          have HF3 := hide (grown_below (unhide HF2) (unhide HO2) g3)
          clear o3 g3
          go_wp2
          go_roundw
          case rel => exact ⟨k + 1, by omega, by go_num, by rw [unhide HS2]; exact unhide HO3, unhide HF3⟩
          case measure => simp [intOf]; omega
    · obtain rfl : k = n := by omega
      rw [List.take_of_length_le (by omega)] at hO
      have HO := hide hO
      have HR := hide hR
      obtain ⟨a3, c3, hv3, _⟩ := hO.form
      clear hO hR
      subst hv3
      go_wp2
      go_ret
      exact ⟨_, rfl, unhide HO, unhide HR⟩
end Go.Proofs.YtdcoknnjgpdigaaGreatDoor

/- The landed class: maps are written. -/
namespace Go.Proofs.YtdcoknnjgpdigaaGreatDoor
open Go.RowKit
set_option linter.unusedVariables false
set_option maxRecDepth 100000

theorem WtG.comp {C : Cx} {F F1 G G1 : Nat → Prop} {w0 W W' : World} {bs bs' : List UInt8} (h : WtG C F G w0 bs W) (h2 : ∀ j, F1 j → F j ∨ w0.heap.size ≤ j) (hT : WtG C F1 G1 W bs' W') (hG : ∀ k, G1 k → G k ∨ w0.heap.size ≤ k) : WtG C F G w0 bs' W' := by
  obtain ⟨F2, h3, h4⟩ := hT.ex
  exact ⟨⟨F2, h3, fun j hj => (h4 j hj).elim (h2 j) (fun e => .inr (Nat.le_trans h.fr.below.size e))⟩, kfr_trans h.fr hT.fr hG⟩
theorem WtG.wide {C : Cx} {F G G' : Nat → Prop} {w0 W : World} {bs : List UInt8} (h : WtG C F G w0 bs W) (hG : ∀ k, G k → G' k) : WtG C F G' w0 bs W := ⟨h.ex, ⟨h.fr.below, fun k hk hn => h.fr.other k hk (fun e => hn (hG k e))⟩⟩
theorem WR.keep {F : Nat → Prop} {w w' : World} {B x : Nat} {bs : List UInt8} (h : WR F w B x bs) (hk : ∀ k, F k → w'.heap[k]? = w.heap[k]?) : WR F w' B x bs := by
  obtain ⟨y, c, rfl, h⟩ := h
  exact ⟨y, c, rfl, h.keep (hk x (.inl rfl)) (hk y (.inr rfl))⟩
/-- A number of one's own is stored. -/
theorem WtG.store {C : Cx} {F G : Nat → Prop} {w0 W : World} {bs : List UInt8} {ba : Nat} (h : WtG C F G w0 bs W) (hG : G ba) (hB : C.B ≤ ba) (hlt : ba < w0.heap.size) (hF : ¬ F ba) (hg : ba ≠ C.g) (ht : ba ≠ C.mt) (hc : ba ≠ C.mc) (v : Value) : WtG C F G w0 bs (W.setCell ⟨ba, 0, none⟩ v) := by
  obtain ⟨F', h1, h2⟩ := h.ex
  have hk : ∀ k, k ≠ ba → (W.setCell ⟨ba, 0, none⟩ v).heap[k]? = W.heap[k]? := fun k hne => Below.heap_setCell _ _ _ _ hne
  have hF' : ¬ F' ba := fun e => (h2 ba e).elim hF (fun e => by omega)
  have hbel : Below C.wc.heap.size C.wc (W.setCell ⟨ba, 0, none⟩ v) := h1.bel.setCell (by have := h1.hB; show C.wc.heap.size ≤ ba; omega) _
  refine ⟨⟨F', ⟨h1.wr.keep (fun k hk1 => hk k (fun e => hF' (e ▸ hk1))), hbel, h1.hB, h1.nm.other (hk _ (fun e => hg e.symm)) (hk _ (fun e => ht e.symm)) (hk _ (fun e => hc e.symm)) (h1.pool.below hbel), h1.ng, h1.nt, h1.nc, h1.pool, h1.tab⟩, h2⟩, ⟨h.fr.below.setCell hB _, fun k hk1 hn => ?_⟩⟩
  by_cases e : k = ba
  · subst e; exact absurd hG hn
  · exact (hk k e).trans (h.fr.other k hk1 hn)

theorem mpsB_step (l : List Ent) : ∀ (ms : List Mp) (last : Int) (k : Nat) (m : Mp), ms[k]? = some m → mpsB l last (ms.take (k + 1)) = mpsB l last (ms.take k) ++ mapB l (((ms.take k).map Mp.at_).getLast?.getD last) m
  | [], _, _, _, h => by simp at h
  | x :: r, last, 0, m, h => by
    simp at h
    subst h
    simp [mpsB]
  | x :: r, last, k + 1, m, h => by
    have ih := mpsB_step l r x.at_ k m (by simpa using h)
    simp only [List.take_succ_cons, mpsB]
    rw [ih, List.append_assoc]
    congr 2
    simp only [List.map_cons, List.getLast?_cons, Option.getD_some]
theorem tyB_len (l : List Ent) (t : Ty) : (tyB l t).length ≤ 3 := by
  unfold tyB
  split <;> (try split) <;> (try split) <;> (try split) <;> simp [bytesW_len]
theorem flatM_len {α : Type} (f : α → List UInt8) (M : Nat) : ∀ (xs : List α), (∀ x ∈ xs, (f x).length ≤ M) → (xs.flatMap f).length ≤ xs.length * M
  | [], _ => by simp
  | x :: r, h => by
    have h1 := h x (List.mem_cons_self ..)
    have h2 := flatM_len f M r (fun y hy => h y (List.mem_cons_of_mem _ hy))
    rw [List.flatMap_cons, List.length_append, List.length_cons, Nat.succ_mul]
    omega
theorem typesB_len (l : List Ent) (loc : Bool) (ts : List Ty) (h : ts.length ≤ 64) : (typesB l loc ts).length ≤ 194 := by
  unfold typesB
  have h1 := toldT_le loc _ ts (Nat.le_refl _)
  have h2 := flatM_len (tyB l) 3 (toldT loc ts) (fun t _ => tyB_len l t)
  rw [List.length_append, bytesW_len]
  show 2 + _ ≤ _
  omega
theorem mapB_len (l : List Ent) (last : Int) (m : Mp) (h : mapOk l m = true) : (mapB l last m).length ≤ 391 := by
  unfold mapOk areB at h
  simp only [Bool.and_eq_true, decide_eq_true_eq] at h
  have h1 := typesB_len l true m.loc h.2.1.1
  have h2 := typesB_len l false m.stk h.2.2.2.1
  unfold mapB
  simp only [List.length_cons, List.length_append, bytesW_len]
  show 2 + _ + 1 ≤ _
  omega
theorem mpsB_len (l : List Ent) : ∀ (ms : List Mp) (last : Int), ms.all (mapOk l) = true → (mpsB l last ms).length ≤ ms.length * 391
  | [], _, _ => by simp [mpsB]
  | m :: r, last, h => by
    rw [List.all_cons, Bool.and_eq_true] at h
    have h1 := mapB_len l last m h.1
    have h2 := mpsB_len l r m.at_ h.2
    simp only [mpsB, List.length_append, List.length_cons]
    omega

set_option maxHeartbeats 12800000 in
theorem wMaps1_any (C : Cx) (F : Nat → Prop) (w : World) (bs : List UInt8) (h : Wt C F w bs) (bw ba : Nat) (last : Int) (hbw : w.cell? ⟨bw, 0, none⟩ = some (.pointer (some ⟨C.x, 0, none⟩)) ∧ w.cell? ⟨bw, 1, none⟩ = some (.pointer (some ⟨C.g, 0, none⟩))) (hbF : ¬ F bw)
    (hba : w.heap[ba]? = some (.cells #[.int .i64 last] 3 (0, 0))) (haF : ¬ F ba) (hB : C.B ≤ ba) (hg : ba ≠ C.g) (ht : ba ≠ C.mt) (hc : ba ≠ C.mc) (hab : bw ≠ ba) (r : MpR) (hr : MpIn C.wc r) (hok : mapOk C.l r.m = true) (hla : -1 ≤ last ∧ last < r.m.at_) (hbs : bs.length ≤ 60000000) :
    Calls Tryz.prog 141 #[.agg #[.int .i64 r.m.at_, r.loc.v, r.stk.v], .pointer (some ⟨bw, 0, none⟩), .pointer (some ⟨ba, 0, none⟩)] w fun e w' => e = .returned (.tuple #[]) ∧ WtG C F (fun k => F k ∨ k = ba) w (bs ++ mapB C.l last r.m) w' ∧ w'.heap[ba]? = some (.cells #[.int .i64 r.m.at_] 3 (0, 0)) := by
  obtain ⟨⟨at_, loc, stk⟩, ⟨la, ln, lc⟩, ⟨sa, sn, sc⟩⟩ := r
  obtain ⟨hfa, hl, hs⟩ := hr
  unfold mapOk upB areB at hok
  simp only [Bool.and_eq_true, decide_eq_true_eq, List.all_cons, List.all_nil, and_true] at hok hfa hl hs hla ⊢
  obtain ⟨⟨ha0, ha1⟩, ⟨hl64, hlok⟩, hlw, hs64, hsok⟩ := hok
  have hlln := hl.ls.1
  have hsln := hs.ls.1
  simp only at hlln hsln
  obtain ⟨w1, e1, f1, K1⟩ := one_local w #[.int .i64 at_, .slice la ln lc, .slice sa sn sc] 52
  have hW1 := h.below f1
  have hxlt : w.heap.size < w1.heap.size := World.block_lt_of_cell? _ _ (K1 w1 (Below.refl _ _) 0 _ rfl)
  have hblt := World.block_lt_of_cell? _ _ hbw.1
  have halt := lt_of_heap hba
  simp only at hblt
  obtain ⟨SS, hSS⟩ : ∃ SS : World → Prop, SS = fun W => ∃ bs', WtTo C F w1 bs' W := ⟨_, rfl⟩
  have KS : Hid (∀ W, SS W ↔ ∃ bs', WtTo C F w1 bs' W) := fun W => by rw [hSS]
  have KI : Hid (∀ W, SS W → (W.cell? ⟨bw, 0, none⟩ = some (.pointer (some ⟨C.x, 0, none⟩)) ∧ W.cell? ⟨bw, 1, none⟩ = some (.pointer (some ⟨C.g, 0, none⟩))) ∧ (W.cell? ⟨w.heap.size, 0, none⟩ = some (.int .i64 at_) ∧ W.cell? ⟨w.heap.size, 1, none⟩ = some (.slice la ln lc) ∧ W.cell? ⟨w.heap.size, 2, none⟩ = some (.slice sa sn sc)) ∧ W.cell? ⟨ba, 0, none⟩ = some (.int .i64 last) ∧ W.heap[ba]? = some (.cells #[.int .i64 last] 3 (0, 0))) := fun W hW => by
    rw [hSS] at hW
    obtain ⟨bs', hW⟩ := hW
    have hb : ∀ o v, w.cell? ⟨bw, o, none⟩ = some v → W.cell? ⟨bw, o, none⟩ = some v := fun o v hv => (hW.keep (by omega) hbF o).trans ((f1.cell hblt).trans hv)
    have hm : ∀ o v, (#[Value.int .i64 at_, .slice la ln lc, .slice sa sn sc])[o]? = some v → W.cell? ⟨w.heap.size, o, none⟩ = some v := fun o v hv => h.box f1 hW (Nat.le_refl _) (K1 w1 (Below.refl _ _) o v hv)
    have hh : W.heap[ba]? = some (.cells #[.int .i64 last] 3 (0, 0)) := (hW.fr.other ba (by omega) haF).trans ((f1.block ba halt).trans hba)
    exact ⟨⟨hb 0 _ hbw.1, hb 1 _ hbw.2⟩, ⟨hm 0 _ rfl, hm 1 _ rfl, hm 2 _ rfl⟩, by rw [cell_of_row _ _ _ _ _ _ hh]; rfl, hh⟩
  have S1 := WtG.start hW1 F
  have HU1 : Hid (∀ W bs' z (k : Int), WtTo C F w1 bs' W → bs'.length ≤ 100000000 → (k = 1 ∧ 0 ≤ z ∧ z ≤ 255 ∨ k = 2 ∧ 0 ≤ z ∧ z ≤ 65535) → Calls Tryz.prog 57 #[.pointer (some ⟨C.x, 0, none⟩), .int .i64 k, .slice (some ⟨W.heap.size, 0, none⟩) 1 1] (W.alloc (.cells #[.int .i64 z] 3)) fun e w' => e = .returned (.int .i64 0) ∧ WtTo C F w1 (bs' ++ bytesW k z) w') := fun W bs' z k hT hb hz => by
    have := hT.step (fun _ h => h) (fun F1 hF1 => wt_u hF1 (W' := W.alloc (.cells #[.int .i64 z] 3)) ((Below.refl _ _).alloc (Nat.le_refl _) _) [z] 1 k rfl (fun j y hj => ints_at W [z] _ rfl j y hj) (by rcases hz with ⟨rfl, _⟩ | ⟨rfl, _⟩ <;> decide) (fun y hy => by
      simp at hy
      subst hy
      rcases hz with ⟨rfl, hz⟩ | ⟨rfl, hz⟩
      · exact fz1 hz
      · exact fz2 hz) hb (by omega))
    simpa using this
  have HNar : Hid (∀ W bs', WtTo C F w1 bs' W → Calls Tryz.prog 143 #[.slice la ln lc] W fun e w' => ∃ a c, e = .returned (.slice a (toldT true loc).length c) ∧ WtTo C F w1 bs' w' ∧ ∀ (bs2 : List UInt8), bs2.length ≤ 80000000 → bs' = bs2 → Calls Tryz.prog 142 #[C.v, .slice a (toldT true loc).length c, .func (.func 144) #[C.v] #[]] w' fun e w2 => e = .returned (.tuple #[]) ∧ WtTo C F w1 (bs2 ++ typesB C.l true loc) w2) := fun W bs' hT => by
    obtain ⟨F1, hF1, hF2⟩ := hT.ex
    refine (narrow_any W ⟨la, ln, lc⟩ loc (hl.mono hF1.bel (fun _ h => h))).mono ?_
    rintro e w' ⟨v, rfl, hO, f⟩
    rw [narA_told _ loc (Nat.le_refl _) hlw] at hO
    obtain ⟨a, c, rfl, _, _, _⟩ := hO.form
    refine ⟨a, c, rfl, hT.below f, fun bs2 hb2 e2 => ?_⟩
    subst e2
    have htl := toldT_le true _ loc (Nat.le_refl _)
    have hms : ∀ t ∈ toldT true loc, t ∈ loc := by
      intro t ht
      rw [← narA_told _ loc (Nat.le_refl _) hlw] at ht
      have key : ∀ (b : Bool) (ts : List Ty), t ∈ narA b ts → t ∈ ts := by
        intro b ts
        induction ts generalizing b with
        | nil => intro h; simp [narA] at h
        | cons y r ih =>
          intro h
          simp only [narA, List.mem_append] at h
          rcases h with h | h
          · cases b <;> simp at h
            exact List.mem_cons.2 (.inl h)
          · exact List.mem_cons_of_mem _ (ih _ h)
      exact key _ _ ht
    have hF1' := hF1.below f
    have hcall := wlT_any C F1 w' bs' hF1' ⟨a, (toldT true loc).length, c⟩ (toldT true loc) 3 (fun W2 hW2 => by
      obtain ⟨bs3, hW2⟩ := hW2
      have hls := hO.ls rkT
      refine ⟨hls.1, ?_⟩
      rcases hls.2 with h0 | ⟨b, o, eb, hb, hcl⟩
      · exact .inl h0
      · refine .inr ⟨b, o, eb, Nat.lt_of_lt_of_le hb hW2.fr.below.size, fun k x hx q u hu => ?_⟩
        have hbl := (hO.lt b (by show Value.ownBlock (.slice a _ c) = some b; rw [eb]; rfl)).1
        exact (hW2.keep hb (fun e => by have := (hF1.lt b e).2; omega) _).trans (hcl k x hx q u hu)) (fun t ht => ⟨hl.each t (hms t ht), List.all_eq_true.1 hlok t (hms t ht)⟩) (fun t _ => tyB_len _ t) (by show (toldT true loc).length ≤ 65535; omega) (by show bs'.length + 2 + (toldT true loc).length * 3 ≤ 90000000; omega)
    refine hcall.mono ?_
    rintro e w2 ⟨rfl, hT2⟩
    exact ⟨rfl, (hT.below f).comp hF2 hT2 (fun k hk => hF2 k hk)⟩
  have HStk : Hid (∀ W bs', WtTo C F w1 bs' W → bs'.length ≤ 80000000 → Calls Tryz.prog 142 #[C.v, .slice sa sn sc, .func (.func 144) #[C.v] #[]] W fun e w2 => e = .returned (.tuple #[]) ∧ WtTo C F w1 (bs' ++ typesB C.l false stk) w2) := fun W bs' hT hb => by
    have htold : toldT false stk = stk := by
      have : ∀ ts : List Ty, toldT false ts = ts := by
        intro ts
        induction ts with
        | nil => rfl
        | cons t r ih =>
          cases r with
          | nil => rfl
          | cons z r =>
            show (if false = true ∧ t.kind = 2 then t :: toldT false r else t :: toldT false (z :: r)) = _
            rw [if_neg (by simp), ih]
      exact this stk
    have := hT.step (P := fun e => e = .returned (.tuple #[])) (fun _ h => h) (fun F1 hF1 => wlT_any C F1 W bs' hF1 ⟨sa, sn, sc⟩ stk 3 (fun W2 hW2 => by
      obtain ⟨bs3, hW2⟩ := hW2
      exact hs.ls.below (hF1.bel.trans (hW2.fr.below.mono hF1.hB))) (fun t ht => ⟨hs.each t ht, List.all_eq_true.1 hsok t ht⟩) (fun t _ => tyB_len _ t) (by show sn ≤ 65535; omega) (by show bs'.length + 2 + sn * 3 ≤ 90000000; omega))
    unfold typesB
    rw [htold, hsln]
    exact this
  have HFin : Hid (∀ bs' W, WtTo C F w1 bs' W → WtG C F (fun k => F k ∨ k = ba) w bs' (W.setCell ⟨ba, 0, none⟩ (.int .i64 at_)) ∧ (W.setCell ⟨ba, 0, none⟩ (.int .i64 at_)).heap[ba]? = some (.cells #[.int .i64 at_] 3 (0, 0))) := fun bs' W hT => by
    have h0 := WtG.leave h f1 hT (fun j hj => .inl hj)
    refine ⟨(h0.wide (G' := fun k => F k ∨ k = ba) (fun k hk => Or.inl hk)).store (Or.inr rfl) hB (by omega) haF hg ht hc _, ?_⟩
    have hh := (unhide KI W ((unhide KS W).2 ⟨_, hT⟩)).2.2.2
    have := heap_setCell_same W ba 0 _ _ (.int .i64 at_) hh
    simpa using this
  have hfz : Hid (∀ W, SS W → W.frozen? ⟨ba, 0, none⟩ = false) := fun W hW => frozen_of_row _ _ _ _ _ (unhide KI W hW).2.2.2
  have HMB : Hid (mapB C.l last ⟨at_, loc, stk⟩ = bytesW 1 255 ++ (bytesW 2 (at_ - last - 1) ++ (typesB C.l true loc ++ typesB C.l false stk))) := rfl
  have hz1 : 0 ≤ at_ - last - 1 ∧ at_ - last - 1 ≤ 65535 := by omega
  have hT1l := typesB_len C.l true loc hl64
  have E1 := hide e1
  have SS1 := hide S1
  have q := unhide KI w1 ((unhide KS w1).2 ⟨_, S1⟩)
  obtain ⟨⟨q0, q1⟩, ⟨q2, q3, q4⟩, q5, _⟩ := q
  generalize typesB C.l true loc = tl at *
  generalize typesB C.l false stk = tk at *
  generalize (toldT true loc).length = tn at *
  generalize mapB C.l last ⟨at_, loc, stk⟩ = mb at *
  clear h hSS K1 e1 hW1 S1 f1 hl hs hlok hsok hlw hbw hba hbF haF hxlt hlln hsln hl64 hs64
  unfold Sl.v
  simp only
  unfold fitI at hfa
  unfold Cx.v at HNar HStk
  have e1 := unhide E1
  go_enter Tryz.func141, Tryz.ntmps141
  go_wp2_with fail
  refine (unhide HU1 w1 bs 255 1 (unhide SS1) (by omega) (.inl ⟨rfl, by omega, by omega⟩)).mono ?_
  rintro e w2 ⟨rfl, T2⟩
  have TT2 := hide T2
  obtain ⟨⟨r0, r1⟩, ⟨r2, r3, r4⟩, r5, _⟩ := unhide KI w2 ((unhide KS w2).2 ⟨_, T2⟩)
  clear e1 T2 q0 q1 q2 q3 q4 q5
  go_wp2_with fail
  refine (unhide HU1 w2 _ (at_ - last - 1) 2 (unhide TT2) (by simp [bytesW_len]; omega) (.inr ⟨rfl, hz1⟩)).mono ?_
  rintro e w3 ⟨rfl, T3⟩
  have TT3 := hide T3
  clear T3 r0 r1 r2 r3 r4 r5
  go_wp2
  refine wp_region_txt SS [3, 6] [0, 1, 2, 4, 5, 3, 6] (by kernel_rfl) (by kernel_rfl) ((unhide KS _).2 ⟨_, (unhide TT3).below (Below.refl _ _).drew⟩) ?_
  repeat (first
    | (refine Txt.skips (by rfl) (by rfl) ?_; simp only [Act.put, List.setIfInBounds_toArray, List.set_cons_zero, List.set_cons_succ])
    | (refine Txt.reads (v := ?_) (by rfl) (by rfl) (by rfl) ?_ ?_; rotate_left; (focus ((intro W hSW; obtain ⟨⟨p0, p1⟩, ⟨p2, p3, p4⟩, p5, _⟩ := unhide KI W hSW; go_simp) <;> with_reducible rfl)); simp only [Act.put, List.setIfInBounds_toArray, List.set_cons_zero, List.set_cons_succ]))
  refine Txt.acts (by rfl) (by rfl) (by rfl) (fun K hK => ?_)
  go_simp
  refine (unhide HNar w3.drew _ ((unhide TT3).below (Below.refl _ _).drew)).mono ?_
  rintro e w4 ⟨a4, c4, rfl, T4, HW4⟩
  have HW := hide (HW4 _ (by simp [bytesW_len]; omega) rfl)
  refine hK.out _ _ ((unhide KS _).2 ⟨_, T4⟩) ?_
  clear hK K T4 HW4 HNar
  refine Txt.acts (by rfl) (by rfl) (by rfl) (fun K hK => ?_)
  go_simp
  refine (unhide HW).mono ?_
  rintro e w5 ⟨rfl, T5⟩
  refine hK.out _ _ ((unhide KS _).2 ⟨_, T5⟩) ?_
  clear hK K
  refine Txt.done ?_
  have TT5 := hide T5
  obtain ⟨⟨r0, r1⟩, ⟨r2, r3, r4⟩, r5, _⟩ := unhide KI w5 ((unhide KS w5).2 ⟨_, T5⟩)
  have HSt := hide (unhide HStk w5 _ T5 (by simp [bytesW_len]; omega))
  clear T5 HW
  go_wp2_with fail
  refine (unhide HSt).mono ?_
  rintro e w6 ⟨rfl, T6⟩
  obtain ⟨⟨s0, s1⟩, ⟨s2, s3, s4⟩, s5, _⟩ := unhide KI w6 ((unhide KS w6).2 ⟨_, T6⟩)
  have s6 := unhide hfz w6 ((unhide KS w6).2 ⟨_, T6⟩)
  have RES := hide (unhide HFin _ _ T6)
  clear T6 HSt r0 r1 r2 r3 r4 r5
  go_wp2
  go_end0
  refine ⟨rfl, ?_⟩
  rw [unhide HMB]
  have := unhide RES
  simp only [List.append_assoc] at this ⊢
  exact this

set_option maxHeartbeats 6400000 in
theorem wlP_any (C : Cx) (F : Nat → Prop) (w : World) (bs : List UInt8) (h : Wt C F w bs) (s : Sl) (xs : List MpR) (hL : Ls 3 mpc C.wc s.a s.n xs) (hE : ∀ x ∈ xs, MpIn C.wc x ∧ mapOk C.l x.m = true) (hri : riseB (-1) (xs.map MpR.m) = true) (hn : s.n ≤ 256) (hbs : bs.length ≤ 50000000)
    (bw ba : Nat) (hbw : w.cell? ⟨bw, 0, none⟩ = some (.pointer (some ⟨C.x, 0, none⟩)) ∧ w.cell? ⟨bw, 1, none⟩ = some (.pointer (some ⟨C.g, 0, none⟩))) (hbF : ¬ F bw)
    (hba : w.heap[ba]? = some (.cells #[.int .i64 (-1)] 3 (0, 0))) (haF : ¬ F ba) (hB : C.B ≤ ba) (hg : ba ≠ C.g) (ht : ba ≠ C.mt) (hc : ba ≠ C.mc) (hab : bw ≠ ba) :
    Calls Tryz.prog 140 #[C.v, s.v, .func (.func 141) #[] #[.pointer (some ⟨bw, 0, none⟩), .pointer (some ⟨ba, 0, none⟩)]] w fun e w' => e = .returned (.tuple #[]) ∧ WtG C F (fun k => F k ∨ k = ba) w (bs ++ mapsB C.l (xs.map MpR.m)) w' := by
  obtain ⟨a, n, c⟩ := s
  simp only at hL hn ⊢
  have hln := hL.1
  obtain ⟨w1, e1, f1, K1⟩ := one_local w #[.pointer (some ⟨C.x, 0, none⟩), .pointer (some ⟨C.g, 0, none⟩)] 106
  have hW1 := h.below f1
  have S1 := WtG.start hW1 F
  have c0 := K1 w1 (Below.refl _ _) 0 _ rfl
  have hblt := World.block_lt_of_cell? _ _ hbw.1
  have halt := lt_of_heap hba
  simp only at hblt
  have hb1 := f1.size
  obtain ⟨ms, hms⟩ : ∃ ms, ms = xs.map MpR.m := ⟨_, rfl⟩
  have hmk : ∀ (k : Nat) (x : MpR), xs[k]? = some x → ms[k]? = some x.m := fun k x hx => by rw [hms, List.getElem?_map, hx]; rfl
  have hmall : ms.all (mapOk C.l) = true := by
    rw [hms, List.all_map, List.all_eq_true]
    exact fun x hx => (hE x hx).2
  rw [← hms] at hri ⊢
  have hmb : ∀ k, k ≤ n → (mpsB C.l (-1) (ms.take k)).length ≤ 100096 := fun k hk => by
    have h1 := mpsB_len C.l (ms.take k) (-1) (List.all_eq_true.2 (fun y hy => List.all_eq_true.1 hmall y (List.mem_of_mem_take hy)))
    have h2 : (ms.take k).length ≤ k := by rw [List.length_take]; omega
    omega
  have hrise : ∀ (k : Nat) (x : MpR), xs[k]? = some x → -1 ≤ ((ms.take k).map Mp.at_).getLast?.getD (-1) ∧ ((ms.take k).map Mp.at_).getLast?.getD (-1) < x.m.at_ := fun k x hx => by
    have h1 : riseB (-1) (ms.take (k + 1)) = true := by
      cases h2 : riseB (-1) (ms.take (k + 1)) with
      | true => rfl
      | false => rw [riseB_false ms (-1) (k + 1) h2] at hri; cases hri
    have h0 : riseB (-1) (ms.take k) = true := by
      cases h2 : riseB (-1) (ms.take k) with
      | true => rfl
      | false => rw [riseB_false ms (-1) k h2] at hri; cases hri
    have h3 := riseB_take ms (-1) k x.m (hmk k x hx) h0
    rw [h1] at h3
    refine ⟨?_, by simpa using h3.symm⟩
    cases hg : ((ms.take k).map Mp.at_).getLast? with
    | none => simp
    | some y =>
      have hy := List.mem_of_getLast? hg
      obtain ⟨m, hm, rfl⟩ := List.mem_map.1 hy
      have h4 := List.all_eq_true.1 hmall m (List.mem_of_mem_take hm)
      unfold mapOk upB at h4
      simp only [Bool.and_eq_true, decide_eq_true_eq, List.all_cons, List.all_nil, and_true] at h4
      simp only [Option.getD_some]
      omega
  have HU : Hid (Calls Tryz.prog 57 #[.pointer (some ⟨C.x, 0, none⟩), .int .i64 2, .slice (some ⟨w1.heap.size, 0, none⟩) 1 1] (w1.alloc (.cells #[.int .i64 (n : Int)] 3)) fun e w' => e = .returned (.int .i64 0) ∧ WtTo C F w1 (bs ++ bytesW 2 (n : Int)) w') := by
    have := wt_u hW1 (W' := w1.alloc (.cells #[.int .i64 (n : Int)] 3)) ((Below.refl _ _).alloc (Nat.le_refl _) _) [(n : Int)] 1 2 rfl (fun j y hj => ints_at w1 [(n : Int)] _ rfl j y hj) (by decide) (fun y hy => by simp at hy; subst hy; exact fz2 (by omega)) (by omega) (by omega)
    exact hide (by simpa using this)
  have ha1 : w1.heap[ba]? = some (.cells #[.int .i64 (-1)] 3 (0, 0)) := (f1.block ba halt).trans hba
  have H2 : Hid (∀ W, WtTo C F w1 (bs ++ bytesW 2 (n : Int)) W → WtG C F (fun k => F k ∨ k = ba) w1 (bs ++ bytesW 2 (n : Int)) W ∧ W.heap[ba]? = some (.cells #[.int .i64 (-1)] 3 (0, 0))) := fun W hT => ⟨hT.wide (fun k hk => Or.inl hk), (hT.fr.other ba (by omega) haF).trans ha1⟩
  have HL1 : Hid (∀ bs' W, WtG C F (fun k => F k ∨ k = ba) w1 bs' W → WtG C F (fun k => F k ∨ k = ba) w bs' W) := fun bs' W hT => by
    obtain ⟨F', h1, h2⟩ := hT.ex
    exact ⟨⟨F', h1, fun j hj => (h2 j hj).elim .inl (fun e => .inr (Nat.le_trans f1.size e))⟩, kfr_trans (Fr6.of_below f1 h.base) hT.fr (fun k hk => .inl hk)⟩
  have HLL : Hid (∀ bs' W, WtG C F (fun k => F k ∨ k = ba) w1 bs' W → Ls 3 mpc W a n xs) := fun bs' W hT => by
    obtain ⟨F', h1, _⟩ := hT.ex
    exact hL.below h1.bel
  have HO : Hid (∀ bs' W x last, WtG C F (fun k => F k ∨ k = ba) w1 bs' W → W.heap[ba]? = some (.cells #[.int .i64 last] 3 (0, 0)) → x ∈ xs → bs'.length ≤ 60000000 → (-1 ≤ last ∧ last < x.m.at_) → Calls Tryz.prog 141 #[.agg #[.int .i64 x.m.at_, x.loc.v, x.stk.v], .pointer (some ⟨bw, 0, none⟩), .pointer (some ⟨ba, 0, none⟩)] W fun e w' => e = .returned (.tuple #[]) ∧ WtG C F (fun k => F k ∨ k = ba) w1 (bs' ++ mapB C.l last x.m) w' ∧ w'.heap[ba]? = some (.cells #[.int .i64 x.m.at_] 3 (0, 0))) := fun bs' W x last hT hbk hxm hb hla => by
    obtain ⟨F1, hF1, hF2⟩ := hT.ex
    have hbox : ∀ o v, w.cell? ⟨bw, o, none⟩ = some v → W.cell? ⟨bw, o, none⟩ = some v := fun o v hv => (hT.keep (by omega) (fun e => by rcases e with e | e; exact hbF e; exact hab e) o).trans ((f1.cell hblt).trans hv)
    refine (wMaps1_any C F1 W bs' hF1 bw ba last ⟨hbox 0 _ hbw.1, hbox 1 _ hbw.2⟩ (fun e => (hF2 bw e).elim hbF (fun e => by omega)) hbk (fun e => (hF2 ba e).elim haF (fun e => by omega)) hB hg ht hc hab x (hE x hxm).1 (hE x hxm).2 hla hb).mono ?_
    rintro e w' ⟨rfl, hT2, hb2⟩
    exact ⟨rfl, hT.comp hF2 hT2 (fun k hk => by
      rcases hk with hk | hk
      · exact (hF2 k hk).elim (fun e => .inl (.inl e)) .inr
      · exact .inl (.inr hk)), hb2⟩
  have HMK := hide hmk
  have HMB := hide hmb
  have HRI := hide hrise
  have hml : ms.length = n := by rw [hms, List.length_map]; exact hln
  have E1 := hide e1
  have SS1 := hide S1
  clear h e1 hW1 S1 hL hE f1 K1 hbw hbF hba haF hblt halt hb1 hms hmk hmall hri hmb hrise ha1 hg ht hc hab hB
  unfold Cx.v Sl.v mapsB
  simp only
  have e1 := unhide E1
  go_enter Tryz.func140, Tryz.ntmps140
  go_wp2_with fail
  refine (unhide HU).mono ?_
  rintro e w2 ⟨rfl, T2⟩
  have TT2 := hide (unhide H2 _ T2)
  clear e1 T2 HU c0 H2
  go_wp2
  go_loopw [16] (fun i wr => ∃ k : Nat, k ≤ n ∧ i = .int .i64 k ∧ WtG C F (fun k => F k ∨ k = ba) w1 (bs ++ (bytesW 2 (n : Int) ++ mpsB C.l (-1) (ms.take k))) wr ∧ wr.heap[ba]? = some (.cells #[.int .i64 (((ms.take k).map Mp.at_).getLast?.getD (-1))] 3 (0, 0))) (fun i _ => n - (intOf i).toNat)
  case atStart => exact ⟨0, by omega, rfl, by simpa [mpsB] using (unhide TT2).1, (unhide TT2).2⟩
  case round =>
    obtain ⟨k, hk, rfl, hT, hbk⟩ := hrel
    by_cases hlt : k < n
    · have hlt1 : (k : Int) < (n : Int) := by omega
      have hk0 : (0 : Int) ≤ (k : Int) := by omega
      have hLs := unhide HLL _ _ hT
      obtain ⟨b1, o1, h1a, h1⟩ := Ls.row hLs (w' := wr) (by omega)
      subst h1a
      obtain ⟨x, hx1⟩ : ∃ x, xs[k]? = some x := ⟨_, List.getElem?_eq_getElem (by omega)⟩
      have q := h1 (Below.refl _ _) k x hx1
      have hstep : Hid (bs ++ (bytesW 2 (n : Int) ++ mpsB C.l (-1) (ms.take (k + 1))) = (bs ++ (bytesW 2 (n : Int) ++ mpsB C.l (-1) (ms.take k))) ++ mapB C.l (((ms.take k).map Mp.at_).getLast?.getD (-1)) x.m) := by
        show bs ++ (bytesW 2 (n : Int) ++ mpsB C.l (-1) (ms.take (k + 1))) = _
        rw [mpsB_step C.l ms (-1) k x.m (unhide HMK k x hx1)]
        simp
      have hlast : Hid (((ms.take (k + 1)).map Mp.at_).getLast?.getD (-1) = x.m.at_) := by
        show ((ms.take (k + 1)).map Mp.at_).getLast?.getD (-1) = _
        rw [List.take_add_one, unhide HMK k x hx1]
        simp
      have hbl : (bs ++ (bytesW 2 (n : Int) ++ mpsB C.l (-1) (ms.take k))).length ≤ 60000000 := by
        have := unhide HMB k (by omega)
        have h2 : (bytesW 2 (n : Int)).length = 2 := bytesW_len _ _
        rw [List.length_append, List.length_append, h2]
        omega
      have hxm := List.mem_of_getElem? hx1
      have hla := unhide HRI k x hx1
      have hf := (Below.refl wr.heap.size wr).alloc (Nat.le_refl _) (.cells (mpc x).toArray 52)
      have HP := hide (unhide HO _ (wr.alloc (.cells (mpc x).toArray 52)) x _ (hT.below hf) ((hf.block ba (lt_of_heap hbk)).trans hbk) hxm hbl hla)
      unfold mpc at HP
      obtain ⟨xm, ⟨la, ln, lc⟩, ⟨sa, sn, sc⟩⟩ := x
      have c0 := q.zero
      have c1 := q 1 _ rfl
      have c2 := q 2 _ rfl
      simp only [Sl.v] at c0 c1 c2 HP hstep hlast
      generalize mapB C.l (((ms.take k).map Mp.at_).getLast?.getD (-1)) xm = mb at *
      clear q h1 hx1 hT hLs hbl hxm hla hbk hf
      go_wp2_with fail
      refine (unhide HP).mono ?_
      rintro e w4 ⟨rfl, T4, B4⟩
      have TT4 := hide (And.intro T4 B4)
      clear HP T4 B4
      go_wp2
      go_roundw
      case rel => exact ⟨k + 1, by omega, by go_num, by rw [unhide hstep]; exact (unhide TT4).1, by rw [unhide hlast]; exact (unhide TT4).2⟩
      case measure => simp [intOf]; omega
    · obtain rfl : k = n := by omega
      rw [List.take_of_length_le (by omega)] at hT
      have TT := hide (unhide HL1 _ _ hT)
      clear hT hbk
      go_wp2
      go_end0
      refine ⟨rfl, ?_⟩
      rw [hml]
      exact unhide TT

set_option maxHeartbeats 6400000 in
theorem wMaps_any (C : Cx) (F : Nat → Prop) (w : World) (bs : List UInt8) (h : Wt C F w bs) (s : Sl) (xs : List MpR) (hL : Ls 3 mpc C.wc s.a s.n xs) (hE : ∀ x ∈ xs, MpIn C.wc x ∧ mapOk C.l x.m = true) (hri : riseB (-1) (xs.map MpR.m) = true) (hn : s.n ≤ 256) (hbs : bs.length ≤ 50000000) :
    Calls Tryz.prog 127 #[C.v, s.v] w fun e w' => e = .returned (.tuple #[]) ∧ WtTo C F w (bs ++ mapsB C.l (xs.map MpR.m)) w' := by
  obtain ⟨w1, e1, f1, z1, K1, K2⟩ := boxes2 w #[.pointer (some ⟨C.x, 0, none⟩), .pointer (some ⟨C.g, 0, none⟩)] 106 #[.int .i64 (-1)] 3
  have hW1 := h.below f1
  have hB := h.base
  have hnF : ∀ k, w.heap.size ≤ k → ¬ F k := fun k hk e => by have := (h.lt k e).2; omega
  have hgl := h.nm.glt
  have htl := h.nm.texts.lt
  have hcl := h.nm.classes.lt
  have hba : w1.heap[w.heap.size + 1]? = some (.cells #[.int .i64 (-1)] 3 (0, 0)) := by
    rw [← e1]
    have := heap_alloc_last (w.alloc (.cells #[.pointer (some ⟨C.x, 0, none⟩), .pointer (some ⟨C.g, 0, none⟩)] 106)) (.cells #[.int .i64 (-1)] 3)
    simpa using this
  have q0 := K1 0 _ rfl
  have q1 := K1 1 _ rfl
  have HW := wlP_any C F w1 bs hW1 s xs hL hE hri hn hbs w.heap.size (w.heap.size + 1) ⟨q0, q1⟩ (hnF _ (Nat.le_refl _)) hba (hnF _ (by omega)) (by omega) (by omega) (by omega) (by omega) (by omega)
  have HL1 : Hid (∀ bs' W, WtG C F (fun k => F k ∨ k = w.heap.size + 1) w1 bs' W → WtTo C F w bs' W) := fun bs' W hT => WtG.leave h f1 hT (fun j hj => by
    rcases hj with hj | hj
    · exact .inl hj
    · exact .inr (by omega))
  unfold Cx.v at HW ⊢
  obtain ⟨sa, sn, sc⟩ := s
  unfold Sl.v at HW ⊢
  simp only at HW ⊢
  have HW1 := hide HW
  have E1 := hide e1
  generalize mapsB C.l (xs.map MpR.m) = mb at *
  clear h hW1 hL hE hri HW e1 f1 K1 K2 hba hnF hB z1 hgl htl hcl
  have e1 := unhide E1
  go_enter Tryz.func127, Tryz.ntmps127
  go_wp2_with fail
  refine (unhide HW1).mono ?_
  rintro e w2 ⟨rfl, T2⟩
  have TT := hide (unhide HL1 _ _ T2)
  clear T2 HW1 e1
  go_wp2
  go_end0
  exact ⟨rfl, unhide TT⟩
end Go.Proofs.YtdcoknnjgpdigaaGreatDoor

/- The landed class: handlers are written; writeSized. -/
namespace Go.Proofs.YtdcoknnjgpdigaaGreatDoor
open Go.RowKit
set_option linter.unusedVariables false
set_option maxRecDepth 100000

theorem hdB_eq (x : Hd) : [x.frm, x.to_, x.at_, x.cls].flatMap (bytesW 2) = hdB x := by simp [hdB]
theorem rightH_fits {l : List Ent} {x : Hd} (h : rightH l x = true) (hl : l.length ≤ 1024) : ∀ z ∈ [x.frm, x.to_, x.at_, x.cls], 0 ≤ z ∧ z ≤ 65535 := by
  unfold rightH in16 at h
  simp only [Bool.and_eq_true, decide_eq_true_eq] at h
  intro z hz
  simp at hz
  rcases hz with rfl | rfl | rfl | rfl <;> omega
set_option maxHeartbeats 3200000 in
theorem wCode1_any (C : Cx) (F : Nat → Prop) (w : World) (bs : List UInt8) (h : Wt C F w bs) (x : Hd) (hok : rightH C.l x = true) (hbs : bs.length ≤ 90000000) (bx : Nat) (hbx : w.cell? ⟨bx, 0, none⟩ = some (.pointer (some ⟨C.x, 0, none⟩)) ∧ w.cell? ⟨bx, 1, none⟩ = some (.pointer (some ⟨C.g, 0, none⟩))) :
    Calls Tryz.prog 125 #[.agg #[.int .i64 x.frm, .int .i64 x.to_, .int .i64 x.at_, .int .i64 x.cls], .pointer (some ⟨bx, 0, none⟩)] w fun e w' => e = .returned (.tuple #[]) ∧ WtTo C F w (bs ++ hdB x) w' := by
  obtain ⟨w1, e1, f1, K1⟩ := one_local w #[.int .i64 x.frm, .int .i64 x.to_, .int .i64 x.at_, .int .i64 x.cls] 93
  have hW1 := h.below f1
  have c0 := K1 w1 (Below.refl _ _) 0 _ rfl
  have c1 := K1 w1 (Below.refl _ _) 1 _ rfl
  have c2 := K1 w1 (Below.refl _ _) 2 _ rfl
  have c3 := K1 w1 (Below.refl _ _) 3 _ rfl
  have hfit := rightH_fits hok h.nm.len.2
  have HU := wt_u hW1 (W' := w1.alloc (.cells #[.int .i64 x.frm, .int .i64 x.to_, .int .i64 x.at_, .int .i64 x.cls] 3)) ((Below.refl _ _).alloc (Nat.le_refl _) _) [x.frm, x.to_, x.at_, x.cls] 4 2 rfl (fun j y hj => ints_at w1 [x.frm, x.to_, x.at_, x.cls] _ rfl j y hj) (by decide) (fun y hy => fz2 (hfit y hy)) (by omega) (by omega)
  rw [hdB_eq] at HU
  have b0 : w1.cell? ⟨bx, 0, none⟩ = some (.pointer (some ⟨C.x, 0, none⟩)) := (f1.cell (World.block_lt_of_cell? _ _ hbx.1)).trans hbx.1
  have HL1 : Hid (∀ bs' W, WtTo C F w1 bs' W → WtTo C F w bs' W) := fun bs' W hT => WtG.leave h f1 hT (fun j hj => .inl hj)
  have HU1 := hide HU
  have E1 := hide e1
  obtain ⟨x1, x2, x3, x4⟩ := x
  simp only at *
  generalize hdB ⟨x1, x2, x3, x4⟩ = hb at *
  clear h e1 hW1 HU K1 f1 hfit hok hbx
  have e1 := unhide E1
  go_enter Tryz.func125, Tryz.ntmps125
  go_wp2_with fail
  refine (unhide HU1).mono ?_
  rintro e w2 ⟨rfl, T2⟩
  have TT := hide (unhide HL1 _ _ T2)
  clear T2 HU1 e1
  go_wp2
  go_end0
  exact ⟨rfl, unhide TT⟩

set_option maxHeartbeats 6400000 in
theorem wlH_any (C : Cx) (F : Nat → Prop) (w : World) (bs : List UInt8) (h : Wt C F w bs) (s : Sl) (xs : List Hd) (M : Nat) (hL : ∀ W, (∃ bs', WtTo C F w bs' W) → Ls 4 hdc W s.a s.n xs) (hE : ∀ x ∈ xs, rightH C.l x = true) (hM : ∀ x ∈ xs, (hdB x).length ≤ M) (hn : s.n ≤ 65535) (hbs : bs.length + 2 + s.n * M ≤ 90000000) (bx : Nat) (hbox : ∀ W, (∃ bs', WtTo C F w bs' W) → W.cell? ⟨bx, 0, none⟩ = some (.pointer (some ⟨C.x, 0, none⟩)) ∧ W.cell? ⟨bx, 1, none⟩ = some (.pointer (some ⟨C.g, 0, none⟩))) :
    Calls Tryz.prog 124 #[C.v, s.v, .func (.func 125) #[] #[.pointer (some ⟨bx, 0, none⟩)]] w fun e w' => e = .returned (.tuple #[]) ∧ WtTo C F w (bs ++ (bytesW 2 (s.n : Int) ++ xs.flatMap (hdB))) w' := by
  obtain ⟨a, n, c⟩ := s
  simp only at hL hn hbs ⊢
  have hln := (hL w ⟨_, WtG.start h F⟩).1
  obtain ⟨w1, e1, f1, K1⟩ := one_local w #[.pointer (some ⟨C.x, 0, none⟩), .pointer (some ⟨C.g, 0, none⟩)] 106
  have hW1 := h.below f1
  have S1 := WtG.start hW1 F
  have c0 := K1 w1 (Below.refl _ _) 0 _ rfl
  have hlen : ∀ k, k ≤ n → ((xs.take k).flatMap (hdB)).length ≤ k * M := fun k => by
    induction k with
    | zero => intro _; simp
    | succ k ih =>
      intro hk
      obtain ⟨x, hx⟩ : ∃ x, xs[k]? = some x := ⟨_, List.getElem?_eq_getElem (by omega)⟩
      rw [List.take_add_one, hx, List.flatMap_append, List.length_append]
      have := ih (by omega)
      have := hM x (List.mem_of_getElem? hx)
      simp only [Option.toList, List.flatMap_cons, List.flatMap_nil, List.append_nil]
      rw [Nat.succ_mul]
      omega
  have HU : Hid (Calls Tryz.prog 57 #[.pointer (some ⟨C.x, 0, none⟩), .int .i64 2, .slice (some ⟨w1.heap.size, 0, none⟩) 1 1] (w1.alloc (.cells #[.int .i64 (n : Int)] 3)) fun e w' => e = .returned (.int .i64 0) ∧ WtTo C F w1 (bs ++ bytesW 2 (n : Int)) w') := by
    have := wt_u hW1 (W' := w1.alloc (.cells #[.int .i64 (n : Int)] 3)) ((Below.refl _ _).alloc (Nat.le_refl _) _) [(n : Int)] 1 2 rfl (fun j y hj => ints_at w1 [(n : Int)] _ rfl j y hj) (by decide) (fun y hy => by simp at hy; subst hy; exact fz2 (by omega)) (by omega) (by omega)
    exact hide (by simpa using this)
  have HL1 : Hid (∀ bs' W, WtTo C F w1 bs' W → WtTo C F w bs' W) := fun bs' W hT => WtG.leave h f1 hT (fun j hj => .inl hj)
  have HLL : Hid (∀ bs' W, WtTo C F w1 bs' W → Ls 4 hdc W a n xs) := fun bs' W hT => hL W ⟨_, unhide HL1 _ _ hT⟩
  have HO : Hid (∀ bs' W x, WtTo C F w1 bs' W → x ∈ xs → bs'.length ≤ 90000000 → Calls Tryz.prog 125 #[.agg #[.int .i64 x.frm, .int .i64 x.to_, .int .i64 x.at_, .int .i64 x.cls], .pointer (some ⟨bx, 0, none⟩)] W fun e w' => e = .returned (.tuple #[]) ∧ WtTo C F w1 (bs' ++ hdB x) w') := fun bs' W x hT hxm hb => by
    have hx := hE x hxm
    have hk5 := unhide HL1 _ _ hT
    exact hT.step (P := fun e => e = .returned (.tuple #[])) (fun _ h => h) (fun F1 hF1 => wCode1_any C F1 _ _ hF1 x hx hb bx (hbox _ ⟨_, hk5⟩))
  have HLEN := hide hlen
  have E1 := hide e1
  have SS1 := hide S1
  clear h e1 hW1 S1 hlen hL hE hM f1 K1 hbox
  unfold Cx.v Sl.v
  simp only
  have e1 := unhide E1
  go_enter Tryz.func124, Tryz.ntmps124
  go_wp2_with fail
  refine (unhide HU).mono ?_
  rintro e w2 ⟨rfl, T2⟩
  have TT2 := hide T2
  clear e1 T2 HU c0
  go_wp2
  go_loopw [16] (fun i wr => ∃ k : Nat, k ≤ n ∧ i = .int .i64 k ∧ WtTo C F w1 (bs ++ (bytesW 2 (n : Int) ++ (xs.take k).flatMap (hdB))) wr) (fun i _ => n - (intOf i).toNat)
  case atStart => exact ⟨0, by omega, rfl, by simpa using unhide TT2⟩
  case round =>
    obtain ⟨k, hk, rfl, hT⟩ := hrel
    by_cases hlt : k < n
    · have hlt1 : (k : Int) < (n : Int) := by omega
      have hk0 : (0 : Int) ≤ (k : Int) := by omega
      have hLs := unhide HLL _ _ hT
      obtain ⟨b1, o1, h1a, h1⟩ := Ls.row hLs (w' := wr) (by omega)
      subst h1a
      obtain ⟨x, hx1⟩ : ∃ x, xs[k]? = some x := ⟨_, List.getElem?_eq_getElem (by omega)⟩
      have q := h1 (Below.refl _ _) k x hx1
      have hstep : Hid (bs ++ (bytesW 2 (n : Int) ++ (xs.take (k + 1)).flatMap (hdB)) = (bs ++ (bytesW 2 (n : Int) ++ (xs.take k).flatMap (hdB))) ++ hdB x) := by
        show bs ++ (bytesW 2 (n : Int) ++ (xs.take (k + 1)).flatMap (hdB)) = _
        rw [List.take_add_one, hx1]
        simp
      have hbl : (bs ++ (bytesW 2 (n : Int) ++ (xs.take k).flatMap (hdB))).length ≤ 90000000 := by
        have := unhide HLEN k (by omega)
        have h2 : (bytesW 2 (n : Int)).length = 2 := bytesW_len _ _
        have h3 : k * M ≤ n * M := Nat.mul_le_mul_right _ (by omega)
        rw [List.length_append, List.length_append, h2]
        omega
      have hxm := List.mem_of_getElem? hx1
      have c0 := q.zero
      have c1 := q 1 _ rfl
      have c2 := q 2 _ rfl
      have c3 := q 3 _ rfl
      have HP := hide (unhide HO _ (wr.alloc (.cells #[.int .i64 x.frm, .int .i64 x.to_, .int .i64 x.at_, .int .i64 x.cls] 93)) _ (hT.below ((Below.refl _ _).alloc (Nat.le_refl _) _)) hxm hbl)
      clear q h1 hx1 hT hLs hbl hxm
      unfold Cx.v at HP
      try simp only [Sl.v] at HP hstep
      go_wp2_with fail
      refine (unhide HP).mono ?_
      rintro e w4 ⟨rfl, T4⟩
      have TT4 := hide T4
      clear HP T4
      go_wp2
      go_roundw
      case rel => exact ⟨k + 1, by omega, by go_num, by rw [unhide hstep]; exact unhide TT4⟩
      case measure => simp [intOf]; omega
    · obtain rfl : k = n := by omega
      rw [List.take_of_length_le (by omega)] at hT
      have TT := hide (unhide HL1 _ _ hT)
      clear hT
      go_wp2
      go_end0
      exact ⟨rfl, unhide TT⟩

set_option maxHeartbeats 1600000 in
theorem wSized_c (C : Cx) (F : Nat → Prop) (w : World) (bs : List UInt8) (h : Wt C F w bs) (b1 b2 : Nat) (Y : List UInt8) (hY : Y.length ≤ 200000) (hbs : bs.length ≤ 40000000) (hpart : ∀ W F1 bs1, WtTo C F w bs1 W → Wt C F1 W bs1 → bs1.length ≤ bs.length + 4 → Calls Tryz.prog 126 #[.pointer (some ⟨b1, 0, none⟩), .pointer (some ⟨b2, 0, none⟩)] W fun e w' => e = .returned (.tuple #[]) ∧ WtTo C F1 W (bs1 ++ Y) w') :
    Calls Tryz.prog 90 #[C.v, .func (.func 126) #[] #[.pointer (some ⟨b1, 0, none⟩), .pointer (some ⟨b2, 0, none⟩)]] w fun e w' => e = .returned (.tuple #[]) ∧ WtTo C F w (bs ++ (bytesW 4 (Y.length : Int) ++ Y)) w' := by
  obtain ⟨w1, e1, f1, K1⟩ := one_local w #[.pointer (some ⟨C.x, 0, none⟩), .pointer (some ⟨C.g, 0, none⟩)] 106
  have hW1 := h.below f1
  have S1 := WtG.start hW1 F
  obtain ⟨SS, hSS⟩ : ∃ SS : World → Prop, SS = fun W => ∃ bs', WtTo C F w1 bs' W := ⟨_, rfl⟩
  have KS : Hid (∀ W, SS W ↔ ∃ bs', WtTo C F w1 bs' W) := fun W => by rw [hSS]
  have KI : Hid (∀ W, SS W → W.cell? ⟨w.heap.size, 0, none⟩ = some (.pointer (some ⟨C.x, 0, none⟩))) := fun W hW => by
    rw [hSS] at hW
    obtain ⟨bs', hW⟩ := hW
    exact h.box f1 hW (Nat.le_refl _) (K1 w1 (Below.refl _ _) 0 _ rfl)
  have HU : Hid (Calls Tryz.prog 57 #[.pointer (some ⟨C.x, 0, none⟩), .int .i64 4, .slice (some ⟨w1.heap.size, 0, none⟩) 1 1] (w1.alloc (.cells #[.int .i64 0] 3)) fun e w' => e = .returned (.int .i64 0) ∧ WtTo C F w1 (bs ++ bytesW 4 0) w') := by
    have := wt_u hW1 (W' := w1.alloc (.cells #[.int .i64 0] 3)) ((Below.refl _ _).alloc (Nat.le_refl _) _) [0] 1 4 rfl (fun j y hj => ints_at w1 [0] _ rfl j y hj) (by decide) (fun y hy => by simp at hy; subst hy; exact fz4 (by omega)) (by omega) (by omega)
    exact hide (by simpa using this)
  have HLe : Hid (∀ W bs', WtTo C F w1 bs' W → Calls Tryz.prog 122 #[.pointer (some ⟨C.x, 0, none⟩)] W fun e w' => e = .returned (.int .i64 (bs'.length : Int)) ∧ WtTo C F w1 bs' w') := fun W bs' hT => by
    obtain ⟨F1, hF1, _⟩ := hT.ex
    refine (eLen_any F1 W C.B C.x bs' hF1.wr).mono ?_
    rintro e w' ⟨rfl, f⟩
    exact ⟨rfl, hT.below f⟩
  have h4 : (bytesW 4 0).length = 4 := bytesW_len _ _
  have hl4 : (bs ++ bytesW 4 0).length = bs.length + 4 := by rw [List.length_append, h4]
  have HP : Hid (∀ W, WtTo C F w1 (bs ++ bytesW 4 0) W → Calls Tryz.prog 126 #[.pointer (some ⟨b1, 0, none⟩), .pointer (some ⟨b2, 0, none⟩)] W fun e w' => e = .returned (.tuple #[]) ∧ WtTo C F w1 (bs ++ bytesW 4 0 ++ Y) w') := fun W hT => by
    have h0 := WtG.leave h f1 hT (fun j hj => .inl hj)
    exact hT.step (P := fun e => e = .returned (.tuple #[])) (fun _ h => h) (fun F1 hF1 => hpart W F1 _ h0 hF1 (by omega))
  have hpw : patchW (bs ++ bytesW 4 0 ++ Y) (bs.length : Int) 4 (Y.length : Int) = (bs ++ bytesW 4 (Y.length : Int) ++ Y, 0) := by
    unfold patchW
    rw [if_pos ⟨(fz4 (by omega)).1, by omega, by simp only [List.length_append, h4]; omega⟩]
    have e1 : (bs ++ bytesW 4 0 ++ Y).take bs.length = bs := by rw [List.append_assoc, List.take_left]
    have e2 : (bs ++ bytesW 4 0 ++ Y).drop (bs.length + 4) = Y := by rw [← hl4, List.drop_left]
    simp only [Int.toNat_natCast]
    rw [e1, show (4 : Int).toNat = 4 from rfl, e2]
  have HPa : Hid (∀ W, WtTo C F w1 (bs ++ bytesW 4 0 ++ Y) W → Calls Tryz.prog 123 #[.pointer (some ⟨C.x, 0, none⟩), .int .i64 (bs.length : Int), .int .i64 4, .int .i64 (Y.length : Int)] W fun e w' => e = .returned (.int .i64 0) ∧ WtTo C F w1 (bs ++ bytesW 4 (Y.length : Int) ++ Y) w') := fun W hT => by
    refine hT.step (P := fun e => e = .returned (.int .i64 0)) (fun _ h => h) (fun F1 hF1 => ?_)
    have h1 := ePatch_any F1 W C.B C.x _ (bs.length : Int) 4 (Y.length : Int) hF1.wr (by simp only [List.length_append, h4]; omega) (by omega) (by omega) (by omega)
    rw [hpw] at h1
    refine h1.mono ?_
    rintro e w' ⟨rfl, ⟨F', r1, r2⟩, r3⟩
    exact ⟨rfl, hF1.next r1 r2 r3⟩
  have HL1 : Hid (∀ bs' W, WtTo C F w1 bs' W → WtTo C F w bs' W) := fun bs' W hT => WtG.leave h f1 hT (fun j hj => .inl hj)
  have hlY : ((bs ++ bytesW 4 0 ++ Y).length : Int) = (bs.length : Int) + 4 + (Y.length : Int) := by simp only [List.length_append, h4]; omega
  have q0 := unhide KI w1 ((unhide KS w1).2 ⟨_, S1⟩)
  have E1 := hide e1
  have HLe1 : Hid (∀ W, WtTo C F w1 (bs ++ bytesW 4 0) W → Calls Tryz.prog 122 #[.pointer (some ⟨C.x, 0, none⟩)] W fun e w' => e = .returned (.int .i64 ((bs.length : Int) + 4)) ∧ WtTo C F w1 (bs ++ bytesW 4 0) w') := fun W hT => by
    have := unhide HLe W _ hT
    rw [hl4] at this
    exact this
  have HLe2 : Hid (∀ W, WtTo C F w1 (bs ++ bytesW 4 0 ++ Y) W → Calls Tryz.prog 122 #[.pointer (some ⟨C.x, 0, none⟩)] W fun e w' => e = .returned (.int .i64 ((bs.length : Int) + 4 + (Y.length : Int))) ∧ WtTo C F w1 (bs ++ bytesW 4 0 ++ Y) w') := fun W hT => by
    have := unhide HLe W _ hT
    rw [hlY] at this
    exact this
  clear h hSS K1 e1 hW1 S1 f1 HLe hpw hlY hl4 h4 hpart
  generalize bytesW 4 0 = z4 at *
  generalize hyl : (Y.length : Int) = yl at *
  generalize hbl : (bs.length : Int) = bl at *
  have hyb : 0 ≤ yl ∧ yl ≤ 200000 := by omega
  have hbb : 0 ≤ bl ∧ bl ≤ 40000000 := by omega
  have s1 : bl + 4 - 4 = bl := by omega
  have s2 : bl + 4 + yl - (bl + 4) = yl := by omega
  have t1 : IntKind.i64.wrap bl = bl := by rw [IntKind.wrap_i64]; omega
  have t2 : IntKind.i64.wrap yl = yl := by rw [IntKind.wrap_i64]; omega
  clear hyl hbl
  unfold Cx.v
  have e1 := unhide E1
  go_enter Tryz.func90, Tryz.ntmps90
  go_wp2_with fail
  refine (unhide HU).mono ?_
  rintro e w2 ⟨rfl, T2⟩
  have q2 := unhide KI w2 ((unhide KS w2).2 ⟨_, T2⟩)
  have HLc := hide (unhide HLe1 _ T2)
  clear e1 T2 HU q0
  go_wp2_with fail
  refine (unhide HLc).mono ?_
  rintro e w3 ⟨rfl, T3⟩
  have HPc := hide (unhide HP _ T3)
  clear HLc T3
  go_wp2_with fail
  refine (unhide HPc).mono ?_
  rintro e w4 ⟨rfl, T4⟩
  have TT4 := hide T4
  clear HPc T4 q2
  go_wp2
  refine wp_region_txt SS [6, 9] [0, 1, 2, 3, 4, 5, 7, 6, 8, 9] (by kernel_rfl) (by kernel_rfl) ((unhide KS _).2 ⟨_, (unhide TT4).below (Below.refl _ _).drew⟩) ?_
  repeat (first
    | (refine Txt.reads (v := ?_) (by rfl) (by rfl) (by rfl) ?_ ?_; rotate_left; (focus ((intro W hSW; have p0 := unhide KI W hSW; go_simp) <;> with_reducible rfl)); simp only [Act.put, List.setIfInBounds_toArray, List.set_cons_zero, List.set_cons_succ]))
  refine Txt.acts (by rfl) (by rfl) (by rfl) (fun K hK => ?_)
  go_simp
  refine (unhide HLe2 _ ((unhide TT4).below (Below.refl _ _).drew)).mono ?_
  rintro e w5 ⟨rfl, T5⟩
  refine hK.out _ _ ((unhide KS _).2 ⟨_, T5⟩) ?_
  have TT5 := hide T5
  clear hK K T5
  repeat (first
    | (refine Txt.reads (v := ?_) (by rfl) (by rfl) (by rfl) ?_ ?_; rotate_left; (focus ((intro W hSW; have p0 := unhide KI W hSW; go_simp) <;> with_reducible rfl)); simp only [Act.put, List.setIfInBounds_toArray, List.set_cons_zero, List.set_cons_succ]))
  refine Txt.acts (by rfl) (by rfl) (by rfl) (fun K hK => ?_)
  go_simp
  try rw [t1, t2]
  refine (unhide HPa _ (unhide TT5)).mono ?_
  rintro e w6 ⟨rfl, T6⟩
  refine hK.out _ _ ((unhide KS _).2 ⟨_, T6⟩) ?_
  clear hK K
  refine Txt.done ?_
  have TT := hide (unhide HL1 _ _ T6)
  clear T6
  go_wp2
  go_end0
  refine ⟨rfl, ?_⟩
  have := unhide TT
  rw [List.append_assoc] at this
  exact this

set_option maxHeartbeats 1600000 in
theorem wSized_m (C : Cx) (F : Nat → Prop) (w : World) (bs : List UInt8) (h : Wt C F w bs) (b1 b2 : Nat) (Y : List UInt8) (hY : Y.length ≤ 200000) (hbs : bs.length ≤ 40000000) (hpart : ∀ W F1 bs1, WtTo C F w bs1 W → Wt C F1 W bs1 → bs1.length ≤ bs.length + 4 → Calls Tryz.prog 91 #[.pointer (some ⟨b1, 0, none⟩), .pointer (some ⟨b2, 0, none⟩)] W fun e w' => e = .returned (.tuple #[]) ∧ WtTo C F1 W (bs1 ++ Y) w') :
    Calls Tryz.prog 90 #[C.v, .func (.func 91) #[] #[.pointer (some ⟨b1, 0, none⟩), .pointer (some ⟨b2, 0, none⟩)]] w fun e w' => e = .returned (.tuple #[]) ∧ WtTo C F w (bs ++ (bytesW 4 (Y.length : Int) ++ Y)) w' := by
  obtain ⟨w1, e1, f1, K1⟩ := one_local w #[.pointer (some ⟨C.x, 0, none⟩), .pointer (some ⟨C.g, 0, none⟩)] 106
  have hW1 := h.below f1
  have S1 := WtG.start hW1 F
  obtain ⟨SS, hSS⟩ : ∃ SS : World → Prop, SS = fun W => ∃ bs', WtTo C F w1 bs' W := ⟨_, rfl⟩
  have KS : Hid (∀ W, SS W ↔ ∃ bs', WtTo C F w1 bs' W) := fun W => by rw [hSS]
  have KI : Hid (∀ W, SS W → W.cell? ⟨w.heap.size, 0, none⟩ = some (.pointer (some ⟨C.x, 0, none⟩))) := fun W hW => by
    rw [hSS] at hW
    obtain ⟨bs', hW⟩ := hW
    exact h.box f1 hW (Nat.le_refl _) (K1 w1 (Below.refl _ _) 0 _ rfl)
  have HU : Hid (Calls Tryz.prog 57 #[.pointer (some ⟨C.x, 0, none⟩), .int .i64 4, .slice (some ⟨w1.heap.size, 0, none⟩) 1 1] (w1.alloc (.cells #[.int .i64 0] 3)) fun e w' => e = .returned (.int .i64 0) ∧ WtTo C F w1 (bs ++ bytesW 4 0) w') := by
    have := wt_u hW1 (W' := w1.alloc (.cells #[.int .i64 0] 3)) ((Below.refl _ _).alloc (Nat.le_refl _) _) [0] 1 4 rfl (fun j y hj => ints_at w1 [0] _ rfl j y hj) (by decide) (fun y hy => by simp at hy; subst hy; exact fz4 (by omega)) (by omega) (by omega)
    exact hide (by simpa using this)
  have HLe : Hid (∀ W bs', WtTo C F w1 bs' W → Calls Tryz.prog 122 #[.pointer (some ⟨C.x, 0, none⟩)] W fun e w' => e = .returned (.int .i64 (bs'.length : Int)) ∧ WtTo C F w1 bs' w') := fun W bs' hT => by
    obtain ⟨F1, hF1, _⟩ := hT.ex
    refine (eLen_any F1 W C.B C.x bs' hF1.wr).mono ?_
    rintro e w' ⟨rfl, f⟩
    exact ⟨rfl, hT.below f⟩
  have h4 : (bytesW 4 0).length = 4 := bytesW_len _ _
  have hl4 : (bs ++ bytesW 4 0).length = bs.length + 4 := by rw [List.length_append, h4]
  have HP : Hid (∀ W, WtTo C F w1 (bs ++ bytesW 4 0) W → Calls Tryz.prog 91 #[.pointer (some ⟨b1, 0, none⟩), .pointer (some ⟨b2, 0, none⟩)] W fun e w' => e = .returned (.tuple #[]) ∧ WtTo C F w1 (bs ++ bytesW 4 0 ++ Y) w') := fun W hT => by
    have h0 := WtG.leave h f1 hT (fun j hj => .inl hj)
    exact hT.step (P := fun e => e = .returned (.tuple #[])) (fun _ h => h) (fun F1 hF1 => hpart W F1 _ h0 hF1 (by omega))
  have hpw : patchW (bs ++ bytesW 4 0 ++ Y) (bs.length : Int) 4 (Y.length : Int) = (bs ++ bytesW 4 (Y.length : Int) ++ Y, 0) := by
    unfold patchW
    rw [if_pos ⟨(fz4 (by omega)).1, by omega, by simp only [List.length_append, h4]; omega⟩]
    have e1 : (bs ++ bytesW 4 0 ++ Y).take bs.length = bs := by rw [List.append_assoc, List.take_left]
    have e2 : (bs ++ bytesW 4 0 ++ Y).drop (bs.length + 4) = Y := by rw [← hl4, List.drop_left]
    simp only [Int.toNat_natCast]
    rw [e1, show (4 : Int).toNat = 4 from rfl, e2]
  have HPa : Hid (∀ W, WtTo C F w1 (bs ++ bytesW 4 0 ++ Y) W → Calls Tryz.prog 123 #[.pointer (some ⟨C.x, 0, none⟩), .int .i64 (bs.length : Int), .int .i64 4, .int .i64 (Y.length : Int)] W fun e w' => e = .returned (.int .i64 0) ∧ WtTo C F w1 (bs ++ bytesW 4 (Y.length : Int) ++ Y) w') := fun W hT => by
    refine hT.step (P := fun e => e = .returned (.int .i64 0)) (fun _ h => h) (fun F1 hF1 => ?_)
    have h1 := ePatch_any F1 W C.B C.x _ (bs.length : Int) 4 (Y.length : Int) hF1.wr (by simp only [List.length_append, h4]; omega) (by omega) (by omega) (by omega)
    rw [hpw] at h1
    refine h1.mono ?_
    rintro e w' ⟨rfl, ⟨F', r1, r2⟩, r3⟩
    exact ⟨rfl, hF1.next r1 r2 r3⟩
  have HL1 : Hid (∀ bs' W, WtTo C F w1 bs' W → WtTo C F w bs' W) := fun bs' W hT => WtG.leave h f1 hT (fun j hj => .inl hj)
  have hlY : ((bs ++ bytesW 4 0 ++ Y).length : Int) = (bs.length : Int) + 4 + (Y.length : Int) := by simp only [List.length_append, h4]; omega
  have q0 := unhide KI w1 ((unhide KS w1).2 ⟨_, S1⟩)
  have E1 := hide e1
  have HLe1 : Hid (∀ W, WtTo C F w1 (bs ++ bytesW 4 0) W → Calls Tryz.prog 122 #[.pointer (some ⟨C.x, 0, none⟩)] W fun e w' => e = .returned (.int .i64 ((bs.length : Int) + 4)) ∧ WtTo C F w1 (bs ++ bytesW 4 0) w') := fun W hT => by
    have := unhide HLe W _ hT
    rw [hl4] at this
    exact this
  have HLe2 : Hid (∀ W, WtTo C F w1 (bs ++ bytesW 4 0 ++ Y) W → Calls Tryz.prog 122 #[.pointer (some ⟨C.x, 0, none⟩)] W fun e w' => e = .returned (.int .i64 ((bs.length : Int) + 4 + (Y.length : Int))) ∧ WtTo C F w1 (bs ++ bytesW 4 0 ++ Y) w') := fun W hT => by
    have := unhide HLe W _ hT
    rw [hlY] at this
    exact this
  clear h hSS K1 e1 hW1 S1 f1 HLe hpw hlY hl4 h4 hpart
  generalize bytesW 4 0 = z4 at *
  generalize hyl : (Y.length : Int) = yl at *
  generalize hbl : (bs.length : Int) = bl at *
  have hyb : 0 ≤ yl ∧ yl ≤ 200000 := by omega
  have hbb : 0 ≤ bl ∧ bl ≤ 40000000 := by omega
  have s1 : bl + 4 - 4 = bl := by omega
  have s2 : bl + 4 + yl - (bl + 4) = yl := by omega
  have t1 : IntKind.i64.wrap bl = bl := by rw [IntKind.wrap_i64]; omega
  have t2 : IntKind.i64.wrap yl = yl := by rw [IntKind.wrap_i64]; omega
  clear hyl hbl
  unfold Cx.v
  have e1 := unhide E1
  go_enter Tryz.func90, Tryz.ntmps90
  go_wp2_with fail
  refine (unhide HU).mono ?_
  rintro e w2 ⟨rfl, T2⟩
  have q2 := unhide KI w2 ((unhide KS w2).2 ⟨_, T2⟩)
  have HLc := hide (unhide HLe1 _ T2)
  clear e1 T2 HU q0
  go_wp2_with fail
  refine (unhide HLc).mono ?_
  rintro e w3 ⟨rfl, T3⟩
  have HPc := hide (unhide HP _ T3)
  clear HLc T3
  go_wp2_with fail
  refine (unhide HPc).mono ?_
  rintro e w4 ⟨rfl, T4⟩
  have TT4 := hide T4
  clear HPc T4 q2
  go_wp2
  refine wp_region_txt SS [6, 9] [0, 1, 2, 3, 4, 5, 7, 6, 8, 9] (by kernel_rfl) (by kernel_rfl) ((unhide KS _).2 ⟨_, (unhide TT4).below (Below.refl _ _).drew⟩) ?_
  repeat (first
    | (refine Txt.reads (v := ?_) (by rfl) (by rfl) (by rfl) ?_ ?_; rotate_left; (focus ((intro W hSW; have p0 := unhide KI W hSW; go_simp) <;> with_reducible rfl)); simp only [Act.put, List.setIfInBounds_toArray, List.set_cons_zero, List.set_cons_succ]))
  refine Txt.acts (by rfl) (by rfl) (by rfl) (fun K hK => ?_)
  go_simp
  refine (unhide HLe2 _ ((unhide TT4).below (Below.refl _ _).drew)).mono ?_
  rintro e w5 ⟨rfl, T5⟩
  refine hK.out _ _ ((unhide KS _).2 ⟨_, T5⟩) ?_
  have TT5 := hide T5
  clear hK K T5
  repeat (first
    | (refine Txt.reads (v := ?_) (by rfl) (by rfl) (by rfl) ?_ ?_; rotate_left; (focus ((intro W hSW; have p0 := unhide KI W hSW; go_simp) <;> with_reducible rfl)); simp only [Act.put, List.setIfInBounds_toArray, List.set_cons_zero, List.set_cons_succ]))
  refine Txt.acts (by rfl) (by rfl) (by rfl) (fun K hK => ?_)
  go_simp
  try rw [t1, t2]
  refine (unhide HPa _ (unhide TT5)).mono ?_
  rintro e w6 ⟨rfl, T6⟩
  refine hK.out _ _ ((unhide KS _).2 ⟨_, T6⟩) ?_
  clear hK K
  refine Txt.done ?_
  have TT := hide (unhide HL1 _ _ T6)
  clear T6
  go_wp2
  go_end0
  refine ⟨rfl, ?_⟩
  have := unhide TT
  rw [List.append_assoc] at this
  exact this

end Go.Proofs.YtdcoknnjgpdigaaGreatDoor
