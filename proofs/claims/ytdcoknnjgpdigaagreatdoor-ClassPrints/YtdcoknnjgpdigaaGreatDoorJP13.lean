/- Joined: WdL2 WdL3 WdL4 PkR. -/
import Derived.Test.YtdcoknnjgpdigaaGreatDoorJP12
import Derived.Test.YtdcoknnjgpdigaaGreatDoorJP9
import Derived.Laws.BitsAllLaws

/- The landed word: fitsS, left, next, joined, withSign, spanOf. -/
namespace Go.Proofs.YtdcoknnjgpdigaaGreatDoor
open Go.RowKit
set_option linter.unusedVariables false

set_option maxHeartbeats 1600000 in
theorem dfitsS_any (w : World) (k n : Int) (hw : wide k) (hn : -9223372036854775808 ≤ n ∧ n ≤ 9223372036854775807) :
    Calls Tryz.prog 151 #[.int .i64 k, .int .i64 n] w fun e w' => e = .returned (.bool (decide (fitsW k n true))) ∧ w' = w := by
  rcases hw with rfl | rfl | rfl | rfl
  · have hk : fitsW 1 n true ↔ (n / 128 = 0 ∨ n / 128 = -1) := by
      unfold fitsW
      rw [if_neg (by decide), if_pos rfl]
      constructor
      · rintro ⟨_, h1, h2⟩
        simp at h1 h2
        omega
      · intro h
        refine ⟨by unfold wide; omega, ?_⟩
        simp
        omega
    rw [fitsS_key hk]
    clear hk
    by_cases h0 : n / 128 = 0
    · have b0 : (n / 128 == 0) = true := by simpa using h0
      clear h0
      go_enter Tryz.func151, Tryz.ntmps151
      go_wp2
      go_ret
      exact ⟨by rw [b0]; rfl, rfl⟩
    · have b0 : (n / 128 == 0) = false := by simpa using h0
      clear h0
      go_enter Tryz.func151, Tryz.ntmps151
      go_wp2
      go_ret
      exact ⟨by rw [b0]; rfl, rfl⟩
  · have hk : fitsW 2 n true ↔ (n / 32768 = 0 ∨ n / 32768 = -1) := by
      unfold fitsW
      rw [if_neg (by decide), if_pos rfl]
      constructor
      · rintro ⟨_, h1, h2⟩
        simp at h1 h2
        omega
      · intro h
        refine ⟨by unfold wide; omega, ?_⟩
        simp
        omega
    rw [fitsS_key hk]
    clear hk
    by_cases h0 : n / 32768 = 0
    · have b0 : (n / 32768 == 0) = true := by simpa using h0
      clear h0
      go_enter Tryz.func151, Tryz.ntmps151
      go_wp2
      go_ret
      exact ⟨by rw [b0]; rfl, rfl⟩
    · have b0 : (n / 32768 == 0) = false := by simpa using h0
      clear h0
      go_enter Tryz.func151, Tryz.ntmps151
      go_wp2
      go_ret
      exact ⟨by rw [b0]; rfl, rfl⟩
  · have hk : fitsW 4 n true ↔ (n / 2147483648 = 0 ∨ n / 2147483648 = -1) := by
      unfold fitsW
      rw [if_neg (by decide), if_pos rfl]
      constructor
      · rintro ⟨_, h1, h2⟩
        simp at h1 h2
        omega
      · intro h
        refine ⟨by unfold wide; omega, ?_⟩
        simp
        omega
    rw [fitsS_key hk]
    clear hk
    by_cases h0 : n / 2147483648 = 0
    · have b0 : (n / 2147483648 == 0) = true := by simpa using h0
      clear h0
      go_enter Tryz.func151, Tryz.ntmps151
      go_wp2
      go_ret
      exact ⟨by rw [b0]; rfl, rfl⟩
    · have b0 : (n / 2147483648 == 0) = false := by simpa using h0
      clear h0
      go_enter Tryz.func151, Tryz.ntmps151
      go_wp2
      go_ret
      exact ⟨by rw [b0]; rfl, rfl⟩
  · have hk : fitsW 8 n true ↔ (n / 9223372036854775808 = 0 ∨ n / 9223372036854775808 = -1) := by
      unfold fitsW
      rw [if_pos rfl]
      constructor
      · intro h
        omega
      · intro h
        exact ⟨by unfold wide; omega, .inl rfl⟩
    rw [fitsS_key hk]
    clear hk
    by_cases h0 : n / 9223372036854775808 = 0
    · have b0 : (n / 9223372036854775808 == 0) = true := by simpa using h0
      clear h0
      go_enter Tryz.func151, Tryz.ntmps151
      go_wp2
      go_ret
      exact ⟨by rw [b0]; rfl, rfl⟩
    · have b0 : (n / 9223372036854775808 == 0) = false := by simpa using h0
      clear h0
      go_enter Tryz.func151, Tryz.ntmps151
      go_wp2
      go_ret
      exact ⟨by rw [b0]; rfl, rfl⟩

end Go.Proofs.YtdcoknnjgpdigaaGreatDoor

/- The landed word: joined, spanOf; the reader's calls. -/
namespace Go.Proofs.YtdcoknnjgpdigaaGreatDoor
open Go.RowKit
set_option linter.unusedVariables false

/-- An append to bytes of one's own that are not nil. -/
theorem listN_append {w : World} {ops : Array Oper} {rest : List Oper} {o : Oper} {a : Act} {Q : Exit → Act → World → Prop} (hgd : o.guard = none) (s x : Operand) (ho : o.op = .call { callee := .builtin .append, args := #[s, x], argTypes := #[29, 29] })
    (base g n cap : Nat) (xs : List UInt8) (hs : a.eval s = .slice (some ⟨g, 0, none⟩) n cap) (hown : w.ownsRow base 5 1 (.slice (some ⟨g, 0, none⟩) n cap) n (bv xs)) (src : Option Addr) (m c : Nat) (ys : List UInt8) (hx : a.eval x = .slice src m c) (hb : Bs w src m ys) (hnil : src = none → m = 0 ∧ c = 0)
    (hsm : n + m ≤ 140737488355328) (hbase : base ≤ w.heap.size) (h : ∀ g' c' w', w'.ownsRow base 5 1 (.slice (some ⟨g', 0, none⟩) (n + m) c') (n + m) (bv (xs ++ ys)) → w.grownBy w' (some g) → wpList Tryz.prog ops Q rest (a.put o.dst (.slice (some ⟨g', 0, none⟩) (n + m) c')) w') : wpList Tryz.prog ops Q (o :: rest) a w := by
  obtain ⟨i0, hi, hz0, hz1, hz2⟩ := info_parts infoB
  refine wpList_plain hgd fun K hK => ?_
  cases src with
  | none =>
    obtain ⟨rfl, rfl⟩ := hnil rfl
    have h0 : ys = [] := List.eq_nil_of_length_eq_zero hb.1
    subst h0
    have hrun := run_append_owned_none (P := Tryz.prog) (w := w) base 29 o.type 5 i0 1 Tryz.underlying29 hi _ n (bv xs) hown
    unfold Oper.wp
    simp [execOp, ho, resolve, invoke, builtin, hs, hx, hrun, Result.andThen]
    exact hK _ _ (h g cap w (by rw [List.append_nil]; exact hown) ⟨rfl, rfl, rfl, Nat.le_refl _, fun _ _ _ => rfl⟩)
  | some ad =>
    refine wp_append_own w s x 29 ho base 5 i0 (.int .u8 0) 1 1 Tryz.underlying29 hi hz0 hz1 hz2 rfl (by decide) _ n (bv xs) hs hown ad m c (bv ys) hx (by rw [bv_length, hb.1]; omega) (hb.at.2 ad rfl) (bv_one _) (by unfold maxLen; omega) (by omega) hbase ?_
    intro v' w' h1 h2 h3
    rcases h1.2 with ⟨e, _⟩ | ⟨g', c', cur, rfl, _⟩
    · have := (h3.1 e).1
      cases this
    · exact hK _ _ (h g' c' w' (by rw [bv_append]; exact h1) h2)

set_option maxHeartbeats 1600000 in
theorem bClone_any (w : World) (ad : Addr) (n c : Nat) (l : List UInt8) (hb : Bs w (some ad) n l) (hn : n ≤ 140737488351232) :
    Calls Tryz.prog 94 #[.slice (some ad) n c] w fun e w' => ∃ g d, e = .returned (.slice (some ⟨g, 0, none⟩) n d) ∧ w'.ownsRow w.heap.size 5 1 (.slice (some ⟨g, 0, none⟩) n d) n (bv l) ∧ Below w.heap.size w w' := by
  have q : ∀ (w : World) (a : Option Addr) (n c n' c' : Nat), (binOp .eql 29 (.slice a n c) (.slice none n' c')).run Tryz.prog w = .ok (.bool a.isNone) w := fun w a n c n' c' => Lib.run_eql_slice_nil w _ _ a n c n' c' Tryz.underlying29
  have hown : (w.alloc (.cells #[] 5)).ownsRow w.heap.size 5 1 (.slice (some ⟨w.heap.size, 0, none⟩) 0 0) 0 (bv []) := World.ownsRow_made w #[] 0 (Nat.le_refl _) (by simp) rfl
  have HB := hide (hb.below ((Below.refl _ _).alloc (Nat.le_refl _) (.cells #[] 5)))
  clear hb
  go_enter Tryz.func94, Tryz.ntmps94
  go_wp2_with (at_builtin; refine listN_append rfl _ _ rfl w.heap.size w.heap.size 0 0 [] rfl hown (some ad) n c l rfl (unhide HB) (fun e => by cases e) (by omega) (by simp) ?_)
  intro g d w1 o1 g1
  have hb1 : Below w.heap.size w w1 := ((Below.refl _ _).alloc (Nat.le_refl _) _).grown g1 (by simp) (fun k hk => by simp at hk; omega)
  have HO := hide o1
  have HB1 := hide hb1
  clear o1 g1 hb1 hown HB
  go_wp2
  go_ret
  exact ⟨g, d, rfl, unhide HO, unhide HB1⟩

theorem pair_set {W : World} {A : Nat} {T : TypeId} {a0 a1 : Value} (c0 c1 : Value) (h : W.heap[A]? = some (.cells #[a0, a1] T (0, 0))) :
    ((W.setCell ⟨A, 0, none⟩ c0).setCell ⟨A, 1, none⟩ c1).heap[A]? = some (.cells #[c0, c1] T (0, 0)) := by
  have h1 := heap_setCell_same W A 0 _ _ c0 h
  exact heap_setCell_same _ A 1 _ _ c1 h1
theorem sizeSp : (Tryz.prog.info? 148).map (·.size) = some 2 := by kernel_rfl

set_option maxHeartbeats 1600000 in
theorem dspanOf_any (w : World) (a : Option Addr) (n c : Nat) (l : List UInt8) (hb : Arg w a n c l) (hn : n ≤ 140737488351232) :
    Calls Tryz.prog 85 #[.slice a n c] w fun e w' => ∃ g d, e = .returned (.agg #[.slice (some ⟨g, 0, none⟩) n d, .int .i64 0]) ∧ w'.ownsRow w.heap.size 5 1 (.slice (some ⟨g, 0, none⟩) n d) n (bv l) ∧ Below w.heap.size w w' := by
  have b0 : Below w.heap.size w (w.alloc (.cells #[.slice none 0 0, .int .i64 0] 148)) := (Below.refl _ _).alloc (Nat.le_refl _) _
  have hl0 := heap_alloc_last w (.cells #[.slice none 0 0, .int .i64 0] 148)
  have hown : ((w.alloc (.cells #[.slice none 0 0, .int .i64 0] 148)).alloc (.cells #[] 5)).ownsRow (w.heap.size + 1) 5 1 (.slice (some ⟨w.heap.size + 1, 0, none⟩) 0 0) 0 (bv []) := by
    have := World.ownsRow_made (base := w.heap.size + 1) (e := 5) (size := 1) (w.alloc (.cells #[.slice none 0 0, .int .i64 0] 148)) #[] 0 (by simp) (by simp) rfl
    simpa [bv] using this
  have b1 : Below w.heap.size w ((w.alloc (.cells #[.slice none 0 0, .int .i64 0] 148)).alloc (.cells #[] 5)) := b0.alloc (by simp) _
  have hl1 : ((w.alloc (.cells #[.slice none 0 0, .int .i64 0] 148)).alloc (.cells #[] 5)).heap[w.heap.size]? = _ := (heap_alloc_old _ _ (by simp)).trans hl0
  have hsz : w.heap.size + 1 ≤ ((w.alloc (.cells #[.slice none 0 0, .int .i64 0] 148)).alloc (.cells #[] 5)).heap.size := by simp
  have HB := hide (hb.bs.below b1)
  have HN := hide hb.nil
  have HO0 := hide hown
  have HL1 := hide hl1
  have B1 := hide b1
  have HS := hide hsz
  clear hb hown b0 hl0 b1 hl1 hsz
  go_enter Tryz.func85, Tryz.ntmps85
  go_wp2_with (at_builtin; refine listN_append rfl _ _ rfl (w.heap.size + 1) (w.heap.size + 1) 0 0 [] rfl (unhide HO0) a n c l rfl (unhide HB) (unhide HN) (by omega) (unhide HS) ?_)
  intro g d w1 o1 g1
  have hb1 : Below w.heap.size w w1 := (unhide B1).grown g1 (by have := unhide HS; omega) (fun k hk => by simp at hk; omega)
  have hl2 : w1.heap[w.heap.size]? = _ := (g1.block w.heap.size (by have := unhide HS; omega) (by simp)).trans (unhide HL1)
  have hgb := o1.lt g rfl
  have cc0 : w1.cell? ⟨w.heap.size, 0, none⟩ = some (.slice none 0 0) := by rw [cell_of_row _ _ _ _ _ _ hl2]; rfl
  have cc1 : w1.cell? ⟨w.heap.size, 1, none⟩ = some (.int .i64 0) := by rw [cell_of_row _ _ _ _ _ _ hl2]; rfl
  have f0 : ∀ j, w1.frozen? ⟨w.heap.size, j, none⟩ = false := fun j => frozen_of_row _ _ _ _ _ hl2
  have HO := hide o1
  have HB1 := hide hb1
  have HL2 := hide hl2
  clear o1 g1 hb1 hl2 HB HN HO0 HL1 B1 HS
  go_wp2
  refine bodyPost_ret (v := .agg #[.slice (some ⟨g, 0, none⟩) n d, .int .i64 0]) ?_ rfl ⟨g, d, rfl, ?_, ?_⟩
  · exact results_cell_row Tryz.results85 _ _ w.heap.size 148 _ (0, 0) _ rfl (pair_set _ _ (unhide HL2)) Tryz.underlying148 rfl sizeSp
  · refine own_of_block (own_base (unhide HO) (by omega)) (fun k hk => ?_)
    simp [Value.ownBlock] at hk
    subst hk
    have hne : g ≠ w.heap.size := by omega
    exact (Below.heap_setCell _ _ _ _ hne).trans (Below.heap_setCell _ _ _ _ hne)
  · exact ((unhide HB1).setCell (p := ⟨w.heap.size, 0, none⟩) (Nat.le_refl _) _).setCell (p := ⟨w.heap.size, 1, none⟩) (Nat.le_refl _) _

end Go.Proofs.YtdcoknnjgpdigaaGreatDoor

/- The landed word: the reader's calls. -/
namespace Go.Proofs.YtdcoknnjgpdigaaGreatDoor
open Go.RowKit
set_option linter.unusedVariables false

theorem Sp.drewN {T : TypeId} {w : World} {B x y c : Nat} {bs : List UInt8} {i : Nat} (h : Sp T w B x y c bs i) (k : Nat) : Sp T (w.drewN k) B x y c bs i := h.below (below_drewN (Below.refl _ _) k)

/-- All blocks but x are as they were. -/
def Kx (x : Nat) (w w' : World) : Prop := ∀ k, k < w.heap.size → k ≠ x → w'.heap[k]? = w.heap[k]?
theorem Kx.of_below {x : Nat} {w w' : World} (f : Below w.heap.size w w') : Kx x w w' := fun k hk _ => f.block k hk
theorem Kx.trans {x : Nat} {w w1 w2 : World} (h : Kx x w w1) (hs : w.heap.size ≤ w1.heap.size) (g : Kx x w1 w2) : Kx x w w2 := fun k hk hx => (g k (Nat.lt_of_lt_of_le hk hs) hx).trans (h k hk hx)
end Go.Proofs.YtdcoknnjgpdigaaGreatDoor

/- The landed pool: a reader while a pool is read; readText, readTwo. -/
namespace Go.Proofs.YtdcoknnjgpdigaaGreatDoor
open Go.RowKit
set_option linter.unusedVariables false

theorem krd_below {F : Nat → Prop} {w w' : World} {B x : Nat} {bs : List UInt8} {i : Nat} (h : RD F w B x bs i) (f : Below w.heap.size w w') : RD F w' B x bs i := by
  obtain ⟨y, c, rfl, h⟩ := h
  exact ⟨y, c, rfl, h.below f⟩
theorem kfr2_trans {F F1 : Nat → Prop} {B : Nat} {w w1 w2 : World} (f1 : Fr6 F B w w1) (f2 : Fr6 F1 B w1 w2) (hF : ∀ k, F1 k → F k ∨ w.heap.size ≤ k) : Fr6 F B w w2 :=
  ⟨f1.below.trans f2.below, fun k hk hn => (f2.other k (Nat.lt_of_lt_of_le hk f1.below.size) (fun h => (hF k h).elim hn (fun h => by omega))).trans (f1.other k hk hn)⟩
/-- A reader of bs at i, since w0. -/
structure RS (F0 : Nat → Prop) (w0 : World) (B x : Nat) (bs : List UInt8) (i : Nat) (W : World) : Prop where
  ex : ∃ F, RD F W B x bs i ∧ ∀ j, F j → F0 j ∨ w0.heap.size ≤ j
  fr : Fr6 F0 B w0 W
  kp : Kx x w0 W
theorem RS.start {F0 : Nat → Prop} {w : World} {B x : Nat} {bs : List UInt8} {i : Nat} (h : RD F0 w B x bs i) : RS F0 w B x bs i w := ⟨⟨F0, h, fun j hj => .inl hj⟩, ⟨Below.refl _ _, fun _ _ _ => rfl⟩, fun _ _ _ => rfl⟩
theorem RS.below {F0 : Nat → Prop} {w0 W W' : World} {B x : Nat} {bs : List UInt8} {i : Nat} (h : RS F0 w0 B x bs i W) (hB : B ≤ w0.heap.size) (f : Below W.heap.size W W') : RS F0 w0 B x bs i W' := by
  obtain ⟨F, h1, h2⟩ := h.ex
  exact ⟨⟨F, krd_below h1 f, h2⟩, kfr2_trans (F1 := fun _ => False) h.fr (Fr6.of_below f (Nat.le_trans hB h.fr.below.size)) (fun k hk => hk.elim), fun k hk hx => (f.block k (Nat.lt_of_lt_of_le hk h.fr.below.size)).trans (h.kp k hk hx)⟩
theorem RS.next {F0 F F' : Nat → Prop} {w0 W W' : World} {B x : Nat} {bs : List UInt8} {i i' : Nat} (h : RS F0 w0 B x bs i W) (hF : ∀ j, F j → F0 j ∨ w0.heap.size ≤ j) (h1 : RD F' W' B x bs i') (h2 : ∀ j, F' j → F j ∨ W.heap.size ≤ j) (f : Fr6 F B W W') (kx : Kx x W W') : RS F0 w0 B x bs i' W' :=
  ⟨⟨F', h1, fun j hj => (h2 j hj).elim (fun e => hF j e) (fun e => .inr (Nat.le_trans h.fr.below.size e))⟩, kfr2_trans h.fr f hF, fun k hk hx => (kx k (Nat.lt_of_lt_of_le hk h.fr.below.size) hx).trans (h.kp k hk hx)⟩
theorem RS.leave {F0 F : Nat → Prop} {w0 w w1 W : World} {B x : Nat} {bs : List UInt8} {i i' : Nat} (h : RS F0 w0 B x bs i w) (hB : B ≤ w0.heap.size) (hF : ∀ j, F j → F0 j ∨ w0.heap.size ≤ j) (b : Below w.heap.size w w1) (g : RS F w1 B x bs i' W) : RS F0 w0 B x bs i' W := by
  obtain ⟨F', h1, h2⟩ := g.ex
  have hs := h.fr.below.size
  exact ⟨⟨F', h1, fun j hj => (h2 j hj).elim (fun e => hF j e) (fun e => .inr (Nat.le_trans hs (Nat.le_trans b.size e)))⟩, kfr2_trans h.fr (kfr2_trans (Fr6.of_below b (Nat.le_trans hB hs)) g.fr (fun k hk => .inl hk)) hF, fun k hk hx => (g.kp k (Nat.lt_of_lt_of_le hk (Nat.le_trans hs b.size)) hx).trans ((b.block k (Nat.lt_of_lt_of_le hk hs)).trans (h.kp k hk hx))⟩
end Go.Proofs.YtdcoknnjgpdigaaGreatDoor
