/- Joined: CfA CfB CfC. -/
import Derived.Test.YtpmhcignenfhgaaDoorJCdB
import Derived.Test.YtpmhcignenfhgaaDoorJI
import Derived.Test.YtpmhcignenfhgaaDoorJN
import Derived.Test.YtpmhcignenfhgaaDoorJB
import Derived.Test.YtpmhcignenfhgaaDoorJTxA

/- The landed code: its reader while instructions are read; refuseIf, number. -/
namespace Go.Proofs.YtpmhcignenfhgaaDoor
open Go.RowKit
set_option linter.unusedVariables false
set_option maxRecDepth 100000

theorem gR_getW {bs : List UInt8} {i k : Nat} {sg : Bool} (hk : k = 1 ∨ k = 2 ∨ k = 4) (hi : i ≤ bs.length) :
    (∃ n, gR bs i k sg = some (n, i + k) ∧ getW bs i (k : Int) sg = (n, 0, i + k)) ∨ (gR bs i k sg = none ∧ ∃ e, e ≠ 0 ∧ getW bs i (k : Int) sg = (0, e, i)) := by
  have hw : wide (k : Int) := by unfold wide; omega
  unfold gR getW
  by_cases h : i + k ≤ bs.length
  · rw [if_pos h, if_pos hw, if_neg (by omega), Int.toNat_natCast]
    cases hv : valW ((bs.drop i).take k) sg with
    | none => exact .inr ⟨rfl, 3, by decide, rfl⟩
    | some n => exact .inl ⟨n, rfl, rfl⟩
  · rw [if_neg h, if_pos hw, if_pos (by omega)]
    exact .inr ⟨rfl, 7, by decide, rfl⟩
theorem gR_small {bs : List UInt8} {i k : Nat} {sg : Bool} {n : Int} {j : Nat} (hk : k = 1 ∨ k = 2 ∨ k = 4) (h : gR bs i k sg = some (n, j)) : -2147483648 ≤ n ∧ n < 4294967296 ∧ (sg = true → n < 2147483648) ∧ (sg = false → 0 ≤ n) := by
  unfold gR at h
  split at h
  · rename_i hl
    have hll : ((bs.drop i).take k).length = k := by rw [List.length_take, List.length_drop]; omega
    obtain ⟨m, hm, h1⟩ := Option.bind_eq_some_iff.1 h
    injection h1 with h1
    injection h1 with h1 _
    subst h1
    have h2 := numB_lt ((bs.drop i).take k)
    unfold valW at hm
    rw [hll] at hm h2
    generalize numB ((bs.drop i).take k) = N at *
    rw [if_neg (by omega)] at hm
    cases sg
    · rw [if_neg (by simp)] at hm
      injection hm with hm
      subst hm
      rcases hk with rfl | rfl | rfl <;> simp at * <;> omega
    · split at hm
      · rename_i hc
        injection hm with hm
        subst hm
        rcases hk with rfl | rfl | rfl <;> simp at * <;> omega
      · rename_i hc
        injection hm with hm
        subst hm
        rcases hk with rfl | rfl | rfl <;> simp at * <;> omega
  · cases h
/-- What was read, by what can be read: if nothing was wrong it is that, and if it can't be read that is marked. -/
def G9 {α : Type} (o : Option (α × Nat)) (wr : Bool) (v : α) (i' : Nat) (wr' : Bool) : Prop :=
  (wr = true → wr' = true) ∧ (wr = false → (o = some (v, i') ∧ wr' = false) ∨ (o = none ∧ wr' = true))
theorem G9.bind {α β : Type} {o : Option (α × Nat)} {f : α × Nat → Option (β × Nat)} {w0 w1 w2 : Bool} {u : α} {i1 : Nat} {v : β} {i2 : Nat} (h1 : G9 o w0 u i1 w1) (h2 : G9 (f (u, i1)) w1 v i2 w2) : G9 (o.bind f) w0 v i2 w2 := by
  refine ⟨fun e => h2.1 (h1.1 e), fun e => ?_⟩
  rcases h1.2 e with ⟨e1, e2⟩ | ⟨e1, e2⟩
  · rw [e1]
    exact h2.2 e2
  · rw [e1]
    exact .inr ⟨rfl, h2.1 e2⟩
theorem G9.pure {α : Type} (v : α) (i : Nat) (wr : Bool) : G9 (some (v, i)) wr v i wr := ⟨fun e => e, fun e => .inl ⟨rfl, e⟩⟩
theorem G9.map {α β : Type} {o : Option (α × Nat)} {g : α → Nat → β} {w0 w1 : Bool} {u : α} {i1 : Nat} (h : G9 o w0 u i1 w1) : G9 (o.bind fun x => some (g x.1 x.2, x.2)) w0 (g u i1) i1 w1 := h.bind (G9.pure _ _ _)
/-- .. and what is refused on top. -/
theorem G9.refuse {α : Type} {o : Option (α × Nat)} {w0 w1 : Bool} {u : α} {i1 : Nat} (h : G9 o w0 u i1 w1) (p : α → Bool) : G9 (o.bind fun x => if p x.1 = true then none else some x) w0 u i1 (w1 || p u) := by
  refine h.bind ⟨fun e => by rw [e]; rfl, fun e => ?_⟩
  subst e
  cases hp : p u
  · exact .inl ⟨by simp, rfl⟩
  · exact .inr ⟨by simp, rfl⟩
/-- The reader's object, what it reads with, the bytes. -/
structure Cr9 where
  X : Nat
  x : Nat
  B : Nat
  bs : List UInt8
def fn9 (f X : Nat) : Value := .func (.func f) #[.pointer (some ⟨X, 0, none⟩)] #[]
def forms9 (X : Nat) : List Value :=
  [.nilFunc, .nilFunc, .nilFunc, .nilFunc] ++ [.nilFunc, .nilFunc, .nilFunc, .nilFunc] ++ [.nilFunc, fn9 48 X, .nilFunc, .nilFunc] ++ [.nilFunc, fn9 49 X, .nilFunc, .nilFunc] ++
  [.nilFunc, fn9 50 X, .nilFunc, .nilFunc] ++ [.nilFunc, fn9 51 X, .nilFunc, .nilFunc] ++ [.nilFunc, fn9 50 X, fn9 48 X, .nilFunc] ++ [.nilFunc, fn9 52 X, .nilFunc, .nilFunc] ++
  [fn9 53 X, fn9 54 X, fn9 55 X, fn9 56 X] ++ [fn9 53 X, fn9 54 X, .nilFunc, fn9 57 X]
def cells9 (C : Cr9) (bg : Int) (wr : Bool) : Array Value := (([.pointer (some ⟨C.x, 0, none⟩)] : List Value) ++ forms9 C.X ++ ([.int .i64 bg, .bool wr] : List Value)).toArray
structure Rd9 (C : Cr9) (i : Nat) (bg : Int) (wr : Bool) (W : World) : Prop where
  ne : C.X ≠ C.x
  hX : C.B ≤ C.X
  rd : ∃ F, RD F W C.B C.x C.bs i
  hi : i ≤ C.bs.length
  len : C.bs.length ≤ 140737488351232
  blk : W.heap[C.X]? = some (.cells (cells9 C bg wr) 74 (0, 0))
def FX9 (C : Cr9) (w w' : World) : Prop := Fr6 (fun k => k = C.X ∨ k = C.x) C.B w w'
theorem FX9.refl (C : Cr9) (w : World) : FX9 C w w := ⟨Below.refl _ _, fun _ _ _ => rfl⟩
theorem FX9.trans {C : Cr9} {w w1 w2 : World} (f : FX9 C w w1) (g : FX9 C w1 w2) : FX9 C w w2 := kfr2_trans f g (fun k hk => .inl hk)
theorem FX9.size {C : Cr9} {w w' : World} (f : FX9 C w w') : w.heap.size ≤ w'.heap.size := f.below.size
theorem FX9.on {C : Cr9} {w w1 w2 : World} (f : FX9 C w w1) (g : Below w1.heap.size w1 w2) (hB : C.B ≤ w.heap.size) : FX9 C w w2 := kfr2_trans (F1 := fun _ => False) f (Fr6.of_below g (Nat.le_trans hB f.size)) (fun k hk => hk.elim)
theorem Rd9.X_lt {C : Cr9} {i : Nat} {bg : Int} {wr : Bool} {W : World} (h : Rd9 C i bg wr W) : C.X < W.heap.size := lt_of_heap h.blk
theorem Rd9.hB {C : Cr9} {i : Nat} {bg : Int} {wr : Bool} {W : World} (h : Rd9 C i bg wr W) : C.B ≤ W.heap.size := Nat.le_trans h.hX (Nat.le_of_lt h.X_lt)
theorem Rd9.x_blk {C : Cr9} {i : Nat} {bg : Int} {wr : Bool} {W : World} (h : Rd9 C i bg wr W) : ∃ Z, W.heap[C.x]? = some (.cells Z 95 (0, 0)) := by
  obtain ⟨F, y, c, _, h1⟩ := h.rd
  exact ⟨_, h1.blk⟩
/-- Whatever has another type than the reader's blocks may be written. -/
theorem Rd9.keep {C : Cr9} {i : Nat} {bg : Int} {wr : Bool} {W W' : World} (h : Rd9 C i bg wr W) (f : ∀ (k : Nat) (Z : Array Value) (T : TypeId), W.heap[k]? = some (.cells Z T (0, 0)) → T = 74 ∨ T = 95 ∨ T = 5 → W'.heap[k]? = W.heap[k]?) : Rd9 C i bg wr W' := by
  obtain ⟨F, y, c, hF, h1⟩ := h.rd
  refine ⟨h.ne, h.hX, ⟨F, y, c, hF, h1.keep (f _ _ _ h1.blk (.inr (.inl rfl))) ?_⟩, h.hi, h.len, (f _ _ _ h.blk (.inl rfl)).trans h.blk⟩
  rcases h1.row.2 with ⟨hv, _⟩ | ⟨g, cap, cur, hv, _, hh, _⟩
  · cases hv
  · injection hv with hv
    injection hv with hv
    injection hv with hv
    subst hv
    exact f _ _ _ hh (.inr (.inr rfl))
theorem Rd9.below {C : Cr9} {i : Nat} {bg : Int} {wr : Bool} {W W' : World} (h : Rd9 C i bg wr W) (f : Below W.heap.size W W') : Rd9 C i bg wr W' := h.keep fun k Z T hk _ => f.block k (lt_of_heap hk)
theorem Rd9.blks {C : Cr9} {i : Nat} {bg : Int} {wr : Bool} {W W' : World} (h : Rd9 C i bg wr W) (f : FX9 C W W') {k : Nat} {Z : Array Value} {T : TypeId} (hk : W.heap[k]? = some (.cells Z T (0, 0))) (h1 : T ≠ 74) (h2 : T ≠ 95) : W'.heap[k]? = some (.cells Z T (0, 0)) :=
  (f.other k (lt_of_heap hk) fun hF => by
    rcases hF with rfl | rfl
    · rw [h.blk] at hk
      injection hk with hk
      injection hk with _ hk
      exact h1 hk.symm
    · obtain ⟨Y, h3⟩ := h.x_blk
      rw [h3] at hk
      injection hk with hk
      injection hk with _ hk
      exact h2 hk.symm).trans hk
/-- A cell of the reader's own block written. -/
theorem Rd9.own {C : Cr9} {i : Nat} {bg bg' : Int} {wr wr' : Bool} {W : World} (h : Rd9 C i bg wr W) (q : Nat) (v : Value) (e : (cells9 C bg wr).setIfInBounds q v = cells9 C bg' wr') : Rd9 C i bg' wr' (W.setCell ⟨C.X, q, none⟩ v) ∧ FX9 C W (W.setCell ⟨C.X, q, none⟩ v) := by
  have hs : ∀ k, k ≠ C.X → (W.setCell ⟨C.X, q, none⟩ v).heap[k]? = W.heap[k]? := fun k hk => Below.heap_setCell _ _ _ _ hk
  obtain ⟨F, y, d, hF, h3⟩ := h.rd
  refine ⟨⟨h.ne, h.hX, ⟨F, y, d, hF, h3.keep (hs _ (fun e => h.ne e.symm)) ?_⟩, h.hi, h.len, by rw [← e]; exact heap_setCell_same W _ q _ _ _ h.blk⟩, (Below.refl _ _).setCell (p := ⟨C.X, q, none⟩) h.hX _, fun k _ hk => hs k (fun e => hk (.inl e))⟩
  rcases h3.row.2 with ⟨hv, _⟩ | ⟨g, cap, cur, hv, _, hh, _⟩
  · cases hv
  · injection hv with hv
    injection hv with hv
    injection hv with hv
    subst hv
    refine hs _ fun e => ?_
    rw [e, h.blk] at hh
    injection hh with hh
    injection hh with _ hh
    cases hh
theorem Rd9.mark {C : Cr9} {i : Nat} {bg : Int} {wr : Bool} {W : World} (h : Rd9 C i bg wr W) (wr' : Bool) : Rd9 C i bg wr' (W.setCell ⟨C.X, 42, none⟩ (.bool wr')) ∧ FX9 C W (W.setCell ⟨C.X, 42, none⟩ (.bool wr')) := h.own 42 _ rfl
theorem Rd9.begin {C : Cr9} {i : Nat} {bg : Int} {wr : Bool} {W : World} (h : Rd9 C i bg wr W) (bg' : Int) : Rd9 C i bg' wr (W.setCell ⟨C.X, 41, none⟩ (.int .i64 bg')) ∧ FX9 C W (W.setCell ⟨C.X, 41, none⟩ (.int .i64 bg')) := h.own 41 _ rfl
theorem Rd9.cells {C : Cr9} {i : Nat} {bg : Int} {wr : Bool} {W : World} (h : Rd9 C i bg wr W) : W.cell? ⟨C.X, 0, none⟩ = some (.pointer (some ⟨C.x, 0, none⟩)) ∧ W.cell? ⟨C.X, 41, none⟩ = some (.int .i64 bg) ∧ W.cell? ⟨C.X, 42, none⟩ = some (.bool wr) ∧ (∀ j, W.frozen? ⟨C.X, j, none⟩ = false) :=
  ⟨bx_cell h.blk 0 _ rfl, bx_cell h.blk 41 _ rfl, bx_cell h.blk 42 _ rfl, fun j => bx_thaw h.blk j⟩
set_option maxHeartbeats 800000 in
theorem h9refuse_any (C : Cr9) (i : Nat) (bg : Int) (wr : Bool) (w : World) (h : Rd9 C i bg wr w) (bad : Bool) :
    Calls Tryd.prog 61 #[.pointer (some ⟨C.X, 0, none⟩), .bool bad] w fun e w' => e = .returned (.tuple #[]) ∧ Rd9 C i bg (wr || bad) w' ∧ FX9 C w w' := by
  have HR := hide h
  obtain ⟨_, _, c2, z⟩ := h.cells
  clear h
  cases wr
  · go_enter Tryd.func61, Tryd.ntmps61
    go_wp2
    go_end0
    refine ⟨rfl, ?_⟩
    simpa using (unhide HR).mark bad
  · go_enter Tryd.func61, Tryd.ntmps61
    go_wp2
    go_end0
    refine ⟨rfl, ?_⟩
    simpa using (unhide HR).mark true
end Go.Proofs.YtpmhcignenfhgaaDoor

/- The landed code: numbers that its reader reads; near, far. -/
namespace Go.Proofs.YtpmhcignenfhgaaDoor
open Go.RowKit
set_option linter.unusedVariables false
set_option maxRecDepth 100000

theorem h9number_any (C : Cr9) (i : Nat) (bg : Int) (wr : Bool) (w : World) (h : Rd9 C i bg wr w) (n e0 : Int) :
    Calls Tryd.prog 75 #[.pointer (some ⟨C.X, 0, none⟩), .int .i64 n, .int .i64 e0] w fun e w' => e = .returned (.int .i64 n) ∧ Rd9 C i bg (wr || decide (e0 ≠ 0)) w' ∧ FX9 C w w' := by
  have HF := hide (h9refuse_any C i bg wr w h (decide (e0 ≠ 0)))
  clear h
  by_cases he : e0 = 0
  · subst he
    have e1 : decide ((0 : Int) ≠ 0) = false := rfl
    rw [e1] at HF ⊢
    clear e1
    go_enter Tryd.func75, Tryd.ntmps75
    go_wp2_with fail
    refine (unhide HF).mono ?_
    rintro e w1 ⟨rfl, r1, f1⟩
    have H1 := hide (And.intro r1 f1)
    clear r1 f1
    go_wp2
    go_ret
    exact ⟨rfl, unhide H1⟩
  · have e1 : decide (e0 ≠ 0) = true := by simpa using he
    have e2 : (e0 != 0) = true := by simpa using he
    rw [e1] at HF ⊢
    clear e1
    go_enter Tryd.func75, Tryd.ntmps75
    go_wp2_with fail
    refine (unhide HF).mono ?_
    rintro e w1 ⟨rfl, r1, f1⟩
    have H1 := hide (And.intro r1 f1)
    clear r1 f1
    go_wp2
    go_ret
    exact ⟨rfl, unhide H1⟩
/-- What a number's call does: k bytes, with a sign or not. -/
def Num9 (f k : Nat) (sg : Bool) : Prop := ∀ (C : Cr9) (i : Nat) (bg : Int) (wr : Bool) (w : World), Rd9 C i bg wr w →
  Calls Tryd.prog f #[.pointer (some ⟨C.X, 0, none⟩)] w fun e w' => ∃ n i' wr', e = .returned (.int .i64 n) ∧ G9 (gR C.bs i k sg) wr n i' wr' ∧ i ≤ i' ∧ (-2147483648 ≤ n ∧ n < 4294967296) ∧ (sg = false → 0 ≤ n) ∧ (wr' = false → i' = i + k) ∧ Rd9 C i' bg wr' w' ∧ FX9 C w w'
set_option maxHeartbeats 800000 in
theorem h9u1_any : Num9 50 1 false := by
  intro C i bg wr w h
  obtain ⟨F, hF⟩ := h.rd
  have hU := dU_all F w C.B C.x C.bs i ((1 : Nat) : Int) hF h.len h.hi (by omega)
  have hgot : ∃ n er j, getW C.bs i ((1 : Nat) : Int) false = (n, er, j) ∧ G9 (gR C.bs i 1 false) wr n j (wr || decide (er ≠ 0)) ∧ i ≤ j ∧ j ≤ C.bs.length ∧ (-2147483648 ≤ n ∧ n < 4294967296) ∧ (false = false → 0 ≤ n) ∧ ((wr || decide (er ≠ 0)) = false → j = i + 1) := by
    rcases gR_getW (bs := C.bs) (i := i) (k := 1) (sg := false) (by simp) h.hi with ⟨n, h1, h2⟩ | ⟨h1, e, h2, h3⟩
    · have hs := gR_small (by simp) h1
      have hl := (gR_some h1).2
      refine ⟨n, 0, i + 1, h2, ⟨fun e => by rw [e]; rfl, fun e => .inl ⟨h1, by rw [e]; rfl⟩⟩, by omega, hl, ⟨hs.1, hs.2.1⟩, hs.2.2.2, fun _ => rfl⟩
    · have hd : decide (e ≠ 0) = true := by simpa using h2
      refine ⟨0, e, i, h3, ⟨fun e => by rw [e]; rfl, fun e => .inr ⟨h1, by rw [hd]; simp⟩⟩, Nat.le_refl _, h.hi, by omega, fun _ => by omega, fun e => by rw [hd] at e; simp at e⟩
  obtain ⟨n, er, j, hG, hgot⟩ := hgot
  rw [hG] at hU
  simp only at hU
  have HST : Hid (∀ W, (∃ F', RD F' W C.B C.x C.bs j) → Kx C.x w W → Fr6 F C.B w W → Rd9 C j bg wr W ∧ FX9 C w W) := fun W h1 h2 h3 =>
    ⟨⟨h.ne, h.hX, h1, hgot.2.2.1, h.len, (h2 C.X h.X_lt h.ne).trans h.blk⟩, ⟨h3.below, fun k hk hn => h2 k hk (fun e => hn (.inr e))⟩⟩
  have HU := hide hU
  have HG := hide hgot
  have c0 := h.cells.1
  clear hU hgot hF h hG
  go_enter Tryd.func50, Tryd.ntmps50
  go_wp2_with fail
  refine (unhide HU).mono ?_
  rintro e w1 ⟨rfl, ⟨F', r1, _⟩, r2, r3⟩
  obtain ⟨R1, f1⟩ := unhide HST w1 ⟨F', r1⟩ r3 r2
  have HN := hide (h9number_any C j bg wr w1 R1 n er)
  have HF1 := hide f1
  clear HU HST c0 r1 r2 r3 R1 f1
  go_wp2_with fail
  refine (unhide HN).mono ?_
  rintro e w2 ⟨rfl, r2, f2⟩
  have H2 := hide (And.intro r2 ((unhide HF1).trans f2))
  clear HN r2 f2
  go_wp2
  go_ret
  obtain ⟨g1, g2, g3, g4, g5, g6⟩ := unhide HG
  exact ⟨n, j, _, rfl, g1, g2, g4, g5, g6, (unhide H2).1, (unhide H2).2⟩
set_option maxHeartbeats 800000 in
theorem h9u2_any : Num9 51 2 false := by
  intro C i bg wr w h
  obtain ⟨F, hF⟩ := h.rd
  have hU := dU_all F w C.B C.x C.bs i ((2 : Nat) : Int) hF h.len h.hi (by omega)
  have hgot : ∃ n er j, getW C.bs i ((2 : Nat) : Int) false = (n, er, j) ∧ G9 (gR C.bs i 2 false) wr n j (wr || decide (er ≠ 0)) ∧ i ≤ j ∧ j ≤ C.bs.length ∧ (-2147483648 ≤ n ∧ n < 4294967296) ∧ (false = false → 0 ≤ n) ∧ ((wr || decide (er ≠ 0)) = false → j = i + 2) := by
    rcases gR_getW (bs := C.bs) (i := i) (k := 2) (sg := false) (by simp) h.hi with ⟨n, h1, h2⟩ | ⟨h1, e, h2, h3⟩
    · have hs := gR_small (by simp) h1
      have hl := (gR_some h1).2
      refine ⟨n, 0, i + 2, h2, ⟨fun e => by rw [e]; rfl, fun e => .inl ⟨h1, by rw [e]; rfl⟩⟩, by omega, hl, ⟨hs.1, hs.2.1⟩, hs.2.2.2, fun _ => rfl⟩
    · have hd : decide (e ≠ 0) = true := by simpa using h2
      refine ⟨0, e, i, h3, ⟨fun e => by rw [e]; rfl, fun e => .inr ⟨h1, by rw [hd]; simp⟩⟩, Nat.le_refl _, h.hi, by omega, fun _ => by omega, fun e => by rw [hd] at e; simp at e⟩
  obtain ⟨n, er, j, hG, hgot⟩ := hgot
  rw [hG] at hU
  simp only at hU
  have HST : Hid (∀ W, (∃ F', RD F' W C.B C.x C.bs j) → Kx C.x w W → Fr6 F C.B w W → Rd9 C j bg wr W ∧ FX9 C w W) := fun W h1 h2 h3 =>
    ⟨⟨h.ne, h.hX, h1, hgot.2.2.1, h.len, (h2 C.X h.X_lt h.ne).trans h.blk⟩, ⟨h3.below, fun k hk hn => h2 k hk (fun e => hn (.inr e))⟩⟩
  have HU := hide hU
  have HG := hide hgot
  have c0 := h.cells.1
  clear hU hgot hF h hG
  go_enter Tryd.func51, Tryd.ntmps51
  go_wp2_with fail
  refine (unhide HU).mono ?_
  rintro e w1 ⟨rfl, ⟨F', r1, _⟩, r2, r3⟩
  obtain ⟨R1, f1⟩ := unhide HST w1 ⟨F', r1⟩ r3 r2
  have HN := hide (h9number_any C j bg wr w1 R1 n er)
  have HF1 := hide f1
  clear HU HST c0 r1 r2 r3 R1 f1
  go_wp2_with fail
  refine (unhide HN).mono ?_
  rintro e w2 ⟨rfl, r2, f2⟩
  have H2 := hide (And.intro r2 ((unhide HF1).trans f2))
  clear HN r2 f2
  go_wp2
  go_ret
  obtain ⟨g1, g2, g3, g4, g5, g6⟩ := unhide HG
  exact ⟨n, j, _, rfl, g1, g2, g4, g5, g6, (unhide H2).1, (unhide H2).2⟩
set_option maxHeartbeats 800000 in
theorem h9u4_any : Num9 80 4 false := by
  intro C i bg wr w h
  obtain ⟨F, hF⟩ := h.rd
  have hU := dU_all F w C.B C.x C.bs i ((4 : Nat) : Int) hF h.len h.hi (by omega)
  have hgot : ∃ n er j, getW C.bs i ((4 : Nat) : Int) false = (n, er, j) ∧ G9 (gR C.bs i 4 false) wr n j (wr || decide (er ≠ 0)) ∧ i ≤ j ∧ j ≤ C.bs.length ∧ (-2147483648 ≤ n ∧ n < 4294967296) ∧ (false = false → 0 ≤ n) ∧ ((wr || decide (er ≠ 0)) = false → j = i + 4) := by
    rcases gR_getW (bs := C.bs) (i := i) (k := 4) (sg := false) (by simp) h.hi with ⟨n, h1, h2⟩ | ⟨h1, e, h2, h3⟩
    · have hs := gR_small (by simp) h1
      have hl := (gR_some h1).2
      refine ⟨n, 0, i + 4, h2, ⟨fun e => by rw [e]; rfl, fun e => .inl ⟨h1, by rw [e]; rfl⟩⟩, by omega, hl, ⟨hs.1, hs.2.1⟩, hs.2.2.2, fun _ => rfl⟩
    · have hd : decide (e ≠ 0) = true := by simpa using h2
      refine ⟨0, e, i, h3, ⟨fun e => by rw [e]; rfl, fun e => .inr ⟨h1, by rw [hd]; simp⟩⟩, Nat.le_refl _, h.hi, by omega, fun _ => by omega, fun e => by rw [hd] at e; simp at e⟩
  obtain ⟨n, er, j, hG, hgot⟩ := hgot
  rw [hG] at hU
  simp only at hU
  have HST : Hid (∀ W, (∃ F', RD F' W C.B C.x C.bs j) → Kx C.x w W → Fr6 F C.B w W → Rd9 C j bg wr W ∧ FX9 C w W) := fun W h1 h2 h3 =>
    ⟨⟨h.ne, h.hX, h1, hgot.2.2.1, h.len, (h2 C.X h.X_lt h.ne).trans h.blk⟩, ⟨h3.below, fun k hk hn => h2 k hk (fun e => hn (.inr e))⟩⟩
  have HU := hide hU
  have HG := hide hgot
  have c0 := h.cells.1
  clear hU hgot hF h hG
  go_enter Tryd.func80, Tryd.ntmps80
  go_wp2_with fail
  refine (unhide HU).mono ?_
  rintro e w1 ⟨rfl, ⟨F', r1, _⟩, r2, r3⟩
  obtain ⟨R1, f1⟩ := unhide HST w1 ⟨F', r1⟩ r3 r2
  have HN := hide (h9number_any C j bg wr w1 R1 n er)
  have HF1 := hide f1
  clear HU HST c0 r1 r2 r3 R1 f1
  go_wp2_with fail
  refine (unhide HN).mono ?_
  rintro e w2 ⟨rfl, r2, f2⟩
  have H2 := hide (And.intro r2 ((unhide HF1).trans f2))
  clear HN r2 f2
  go_wp2
  go_ret
  obtain ⟨g1, g2, g3, g4, g5, g6⟩ := unhide HG
  exact ⟨n, j, _, rfl, g1, g2, g4, g5, g6, (unhide H2).1, (unhide H2).2⟩
set_option maxHeartbeats 800000 in
theorem h9s1_any : Num9 48 1 true := by
  intro C i bg wr w h
  obtain ⟨F, hF⟩ := h.rd
  have hU := dS_all F w C.B C.x C.bs i ((1 : Nat) : Int) hF h.len h.hi (by omega)
  have hgot : ∃ n er j, getW C.bs i ((1 : Nat) : Int) true = (n, er, j) ∧ G9 (gR C.bs i 1 true) wr n j (wr || decide (er ≠ 0)) ∧ i ≤ j ∧ j ≤ C.bs.length ∧ (-2147483648 ≤ n ∧ n < 4294967296) ∧ (true = false → 0 ≤ n) ∧ ((wr || decide (er ≠ 0)) = false → j = i + 1) := by
    rcases gR_getW (bs := C.bs) (i := i) (k := 1) (sg := true) (by simp) h.hi with ⟨n, h1, h2⟩ | ⟨h1, e, h2, h3⟩
    · have hs := gR_small (by simp) h1
      have hl := (gR_some h1).2
      refine ⟨n, 0, i + 1, h2, ⟨fun e => by rw [e]; rfl, fun e => .inl ⟨h1, by rw [e]; rfl⟩⟩, by omega, hl, ⟨hs.1, hs.2.1⟩, hs.2.2.2, fun _ => rfl⟩
    · have hd : decide (e ≠ 0) = true := by simpa using h2
      refine ⟨0, e, i, h3, ⟨fun e => by rw [e]; rfl, fun e => .inr ⟨h1, by rw [hd]; simp⟩⟩, Nat.le_refl _, h.hi, by omega, fun _ => by omega, fun e => by rw [hd] at e; simp at e⟩
  obtain ⟨n, er, j, hG, hgot⟩ := hgot
  rw [hG] at hU
  simp only at hU
  have HST : Hid (∀ W, (∃ F', RD F' W C.B C.x C.bs j) → Kx C.x w W → Fr6 F C.B w W → Rd9 C j bg wr W ∧ FX9 C w W) := fun W h1 h2 h3 =>
    ⟨⟨h.ne, h.hX, h1, hgot.2.2.1, h.len, (h2 C.X h.X_lt h.ne).trans h.blk⟩, ⟨h3.below, fun k hk hn => h2 k hk (fun e => hn (.inr e))⟩⟩
  have HU := hide hU
  have HG := hide hgot
  have c0 := h.cells.1
  clear hU hgot hF h hG
  go_enter Tryd.func48, Tryd.ntmps48
  go_wp2_with fail
  refine (unhide HU).mono ?_
  rintro e w1 ⟨rfl, ⟨F', r1, _⟩, r2, r3⟩
  obtain ⟨R1, f1⟩ := unhide HST w1 ⟨F', r1⟩ r3 r2
  have HN := hide (h9number_any C j bg wr w1 R1 n er)
  have HF1 := hide f1
  clear HU HST c0 r1 r2 r3 R1 f1
  go_wp2_with fail
  refine (unhide HN).mono ?_
  rintro e w2 ⟨rfl, r2, f2⟩
  have H2 := hide (And.intro r2 ((unhide HF1).trans f2))
  clear HN r2 f2
  go_wp2
  go_ret
  obtain ⟨g1, g2, g3, g4, g5, g6⟩ := unhide HG
  exact ⟨n, j, _, rfl, g1, g2, g4, g5, g6, (unhide H2).1, (unhide H2).2⟩
set_option maxHeartbeats 800000 in
theorem h9s2_any : Num9 49 2 true := by
  intro C i bg wr w h
  obtain ⟨F, hF⟩ := h.rd
  have hU := dS_all F w C.B C.x C.bs i ((2 : Nat) : Int) hF h.len h.hi (by omega)
  have hgot : ∃ n er j, getW C.bs i ((2 : Nat) : Int) true = (n, er, j) ∧ G9 (gR C.bs i 2 true) wr n j (wr || decide (er ≠ 0)) ∧ i ≤ j ∧ j ≤ C.bs.length ∧ (-2147483648 ≤ n ∧ n < 4294967296) ∧ (true = false → 0 ≤ n) ∧ ((wr || decide (er ≠ 0)) = false → j = i + 2) := by
    rcases gR_getW (bs := C.bs) (i := i) (k := 2) (sg := true) (by simp) h.hi with ⟨n, h1, h2⟩ | ⟨h1, e, h2, h3⟩
    · have hs := gR_small (by simp) h1
      have hl := (gR_some h1).2
      refine ⟨n, 0, i + 2, h2, ⟨fun e => by rw [e]; rfl, fun e => .inl ⟨h1, by rw [e]; rfl⟩⟩, by omega, hl, ⟨hs.1, hs.2.1⟩, hs.2.2.2, fun _ => rfl⟩
    · have hd : decide (e ≠ 0) = true := by simpa using h2
      refine ⟨0, e, i, h3, ⟨fun e => by rw [e]; rfl, fun e => .inr ⟨h1, by rw [hd]; simp⟩⟩, Nat.le_refl _, h.hi, by omega, fun _ => by omega, fun e => by rw [hd] at e; simp at e⟩
  obtain ⟨n, er, j, hG, hgot⟩ := hgot
  rw [hG] at hU
  simp only at hU
  have HST : Hid (∀ W, (∃ F', RD F' W C.B C.x C.bs j) → Kx C.x w W → Fr6 F C.B w W → Rd9 C j bg wr W ∧ FX9 C w W) := fun W h1 h2 h3 =>
    ⟨⟨h.ne, h.hX, h1, hgot.2.2.1, h.len, (h2 C.X h.X_lt h.ne).trans h.blk⟩, ⟨h3.below, fun k hk hn => h2 k hk (fun e => hn (.inr e))⟩⟩
  have HU := hide hU
  have HG := hide hgot
  have c0 := h.cells.1
  clear hU hgot hF h hG
  go_enter Tryd.func49, Tryd.ntmps49
  go_wp2_with fail
  refine (unhide HU).mono ?_
  rintro e w1 ⟨rfl, ⟨F', r1, _⟩, r2, r3⟩
  obtain ⟨R1, f1⟩ := unhide HST w1 ⟨F', r1⟩ r3 r2
  have HN := hide (h9number_any C j bg wr w1 R1 n er)
  have HF1 := hide f1
  clear HU HST c0 r1 r2 r3 R1 f1
  go_wp2_with fail
  refine (unhide HN).mono ?_
  rintro e w2 ⟨rfl, r2, f2⟩
  have H2 := hide (And.intro r2 ((unhide HF1).trans f2))
  clear HN r2 f2
  go_wp2
  go_ret
  obtain ⟨g1, g2, g3, g4, g5, g6⟩ := unhide HG
  exact ⟨n, j, _, rfl, g1, g2, g4, g5, g6, (unhide H2).1, (unhide H2).2⟩
set_option maxHeartbeats 800000 in
theorem h9s4_any : Num9 55 4 true := by
  intro C i bg wr w h
  obtain ⟨F, hF⟩ := h.rd
  have hU := dS_all F w C.B C.x C.bs i ((4 : Nat) : Int) hF h.len h.hi (by omega)
  have hgot : ∃ n er j, getW C.bs i ((4 : Nat) : Int) true = (n, er, j) ∧ G9 (gR C.bs i 4 true) wr n j (wr || decide (er ≠ 0)) ∧ i ≤ j ∧ j ≤ C.bs.length ∧ (-2147483648 ≤ n ∧ n < 4294967296) ∧ (true = false → 0 ≤ n) ∧ ((wr || decide (er ≠ 0)) = false → j = i + 4) := by
    rcases gR_getW (bs := C.bs) (i := i) (k := 4) (sg := true) (by simp) h.hi with ⟨n, h1, h2⟩ | ⟨h1, e, h2, h3⟩
    · have hs := gR_small (by simp) h1
      have hl := (gR_some h1).2
      refine ⟨n, 0, i + 4, h2, ⟨fun e => by rw [e]; rfl, fun e => .inl ⟨h1, by rw [e]; rfl⟩⟩, by omega, hl, ⟨hs.1, hs.2.1⟩, hs.2.2.2, fun _ => rfl⟩
    · have hd : decide (e ≠ 0) = true := by simpa using h2
      refine ⟨0, e, i, h3, ⟨fun e => by rw [e]; rfl, fun e => .inr ⟨h1, by rw [hd]; simp⟩⟩, Nat.le_refl _, h.hi, by omega, fun _ => by omega, fun e => by rw [hd] at e; simp at e⟩
  obtain ⟨n, er, j, hG, hgot⟩ := hgot
  rw [hG] at hU
  simp only at hU
  have HST : Hid (∀ W, (∃ F', RD F' W C.B C.x C.bs j) → Kx C.x w W → Fr6 F C.B w W → Rd9 C j bg wr W ∧ FX9 C w W) := fun W h1 h2 h3 =>
    ⟨⟨h.ne, h.hX, h1, hgot.2.2.1, h.len, (h2 C.X h.X_lt h.ne).trans h.blk⟩, ⟨h3.below, fun k hk hn => h2 k hk (fun e => hn (.inr e))⟩⟩
  have HU := hide hU
  have HG := hide hgot
  have c0 := h.cells.1
  clear hU hgot hF h hG
  go_enter Tryd.func55, Tryd.ntmps55
  go_wp2_with fail
  refine (unhide HU).mono ?_
  rintro e w1 ⟨rfl, ⟨F', r1, _⟩, r2, r3⟩
  obtain ⟨R1, f1⟩ := unhide HST w1 ⟨F', r1⟩ r3 r2
  have HN := hide (h9number_any C j bg wr w1 R1 n er)
  have HF1 := hide f1
  clear HU HST c0 r1 r2 r3 R1 f1
  go_wp2_with fail
  refine (unhide HN).mono ?_
  rintro e w2 ⟨rfl, r2, f2⟩
  have H2 := hide (And.intro r2 ((unhide HF1).trans f2))
  clear HN r2 f2
  go_wp2
  go_ret
  obtain ⟨g1, g2, g3, g4, g5, g6⟩ := unhide HG
  exact ⟨n, j, _, rfl, g1, g2, g4, g5, g6, (unhide H2).1, (unhide H2).2⟩
set_option maxHeartbeats 800000 in
theorem h9near_any (C : Cr9) (i : Nat) (bg : Int) (wr : Bool) (w : World) (h : Rd9 C i bg wr w) (hbg : 0 ≤ bg ∧ bg ≤ 140737488351232) :
    Calls Tryd.prog 52 #[.pointer (some ⟨C.X, 0, none⟩)] w fun e w' => ∃ n i' wr', e = .returned (.int .i64 (bg + n)) ∧ G9 (gR C.bs i 2 true) wr n i' wr' ∧ i ≤ i' ∧ (-2147483648 ≤ n ∧ n < 4294967296) ∧ (wr' = false → i' = i + 2) ∧ Rd9 C i' bg wr' w' ∧ FX9 C w w' := by
  have HN := hide (h9s2_any C i bg wr w.drew (h.below (Below.refl _ _).drew))
  obtain ⟨SS, hSS⟩ : ∃ SS : World → Prop, SS = fun W => ∃ i wr, Rd9 C i bg wr W := ⟨_, rfl⟩
  have KI : Hid (∀ W, (∃ i wr, Rd9 C i bg wr W) → SS W) := fun W f => by rw [hSS]; exact f
  have KE : Hid (∀ W, SS W → W.cell? ⟨C.X, 41, none⟩ = some (.int .i64 bg)) := fun W h => by
    rw [hSS] at h
    obtain ⟨_, _, h⟩ := h
    exact h.cells.2.1
  have H0 : Hid (SS w.drew) := unhide KI _ ⟨_, _, h.below (Below.refl _ _).drew⟩
  have HF0 : Hid (FX9 C w w.drew) := (FX9.refl C w).on (Below.refl _ _).drew h.hB
  clear h hSS
  go_enter Tryd.func52, Tryd.ntmps52
  go_wp2
  refine wp_region_txt SS [5] (List.range 8) (by kernel_rfl) (by kernel_rfl) (unhide H0) ?_
  repeat (refine Txt.reads (v := ?_) (by rfl) (by rfl) (by rfl) ?_ ?_; rotate_left; (focus ((intro W hSW; have q0 := unhide KE W hSW; go_simp) <;> with_reducible rfl)); simp only [Act.put, List.setIfInBounds_toArray, List.set_cons_zero, List.set_cons_succ])
  refine Txt.acts (by rfl) (by rfl) (by rfl) (fun KK hK => ?_)
  go_simp
  refine (unhide HN).mono ?_
  rintro e w2 ⟨n, i', wr', rfl, g1, g2, g3, _, g4, r2, f2⟩
  refine hK.out _ _ (unhide KI _ ⟨_, _, r2⟩) ?_
  have hwr : IntKind.i64.wrap (bg + n) = bg + n := by rw [IntKind.wrap_i64]; omega
  have HG := hide (And.intro g1 (And.intro g2 (And.intro g3 (And.intro g4 (And.intro r2 ((unhide HF0).trans f2))))))
  clear hK KK g1 g2 g3 g4 r2 f2 HN
  try simp only [Act.put, List.setIfInBounds_toArray, List.set_cons_zero, List.set_cons_succ]
  repeat (refine Txt.reads (v := ?_) (by rfl) (by rfl) (by rfl) ?_ ?_; rotate_left; (focus ((intro W hSW; have q0 := unhide KE W hSW; go_simp; try rw [hwr]) <;> with_reducible rfl)); simp only [Act.put, List.setIfInBounds_toArray, List.set_cons_zero, List.set_cons_succ])
  refine Txt.done ?_
  go_wp2
  go_ret
  exact ⟨n, i', wr', rfl, unhide HG⟩
set_option maxHeartbeats 800000 in
theorem h9far_any (C : Cr9) (i : Nat) (bg : Int) (wr : Bool) (w : World) (h : Rd9 C i bg wr w) (hbg : 0 ≤ bg ∧ bg ≤ 140737488351232) :
    Calls Tryd.prog 54 #[.pointer (some ⟨C.X, 0, none⟩)] w fun e w' => ∃ n i' wr', e = .returned (.int .i64 (bg + n)) ∧ G9 (gR C.bs i 4 true) wr n i' wr' ∧ i ≤ i' ∧ (-2147483648 ≤ n ∧ n < 4294967296) ∧ (wr' = false → i' = i + 4) ∧ Rd9 C i' bg wr' w' ∧ FX9 C w w' := by
  have HN := hide (h9s4_any C i bg wr w.drew (h.below (Below.refl _ _).drew))
  obtain ⟨SS, hSS⟩ : ∃ SS : World → Prop, SS = fun W => ∃ i wr, Rd9 C i bg wr W := ⟨_, rfl⟩
  have KI : Hid (∀ W, (∃ i wr, Rd9 C i bg wr W) → SS W) := fun W f => by rw [hSS]; exact f
  have KE : Hid (∀ W, SS W → W.cell? ⟨C.X, 41, none⟩ = some (.int .i64 bg)) := fun W h => by
    rw [hSS] at h
    obtain ⟨_, _, h⟩ := h
    exact h.cells.2.1
  have H0 : Hid (SS w.drew) := unhide KI _ ⟨_, _, h.below (Below.refl _ _).drew⟩
  have HF0 : Hid (FX9 C w w.drew) := (FX9.refl C w).on (Below.refl _ _).drew h.hB
  clear h hSS
  go_enter Tryd.func54, Tryd.ntmps54
  go_wp2
  refine wp_region_txt SS [5] (List.range 8) (by kernel_rfl) (by kernel_rfl) (unhide H0) ?_
  repeat (refine Txt.reads (v := ?_) (by rfl) (by rfl) (by rfl) ?_ ?_; rotate_left; (focus ((intro W hSW; have q0 := unhide KE W hSW; go_simp) <;> with_reducible rfl)); simp only [Act.put, List.setIfInBounds_toArray, List.set_cons_zero, List.set_cons_succ])
  refine Txt.acts (by rfl) (by rfl) (by rfl) (fun KK hK => ?_)
  go_simp
  refine (unhide HN).mono ?_
  rintro e w2 ⟨n, i', wr', rfl, g1, g2, g3, _, g4, r2, f2⟩
  refine hK.out _ _ (unhide KI _ ⟨_, _, r2⟩) ?_
  have hwr : IntKind.i64.wrap (bg + n) = bg + n := by rw [IntKind.wrap_i64]; omega
  have HG := hide (And.intro g1 (And.intro g2 (And.intro g3 (And.intro g4 (And.intro r2 ((unhide HF0).trans f2))))))
  clear hK KK g1 g2 g3 g4 r2 f2 HN
  try simp only [Act.put, List.setIfInBounds_toArray, List.set_cons_zero, List.set_cons_succ]
  repeat (refine Txt.reads (v := ?_) (by rfl) (by rfl) (by rfl) ?_ ?_; rotate_left; (focus ((intro W hSW; have q0 := unhide KE W hSW; go_simp; try rw [hwr]) <;> with_reducible rfl)); simp only [Act.put, List.setIfInBounds_toArray, List.set_cons_zero, List.set_cons_succ])
  refine Txt.done ?_
  go_wp2
  go_ret
  exact ⟨n, i', wr', rfl, unhide HG⟩
end Go.Proofs.YtpmhcignenfhgaaDoor

/- The landed code: noughts. -/
namespace Go.Proofs.YtpmhcignenfhgaaDoor
open Go.RowKit
set_option linter.unusedVariables false
set_option maxRecDepth 100000

/-- Between two noughts. -/
structure PD (bs : List UInt8) (i : Nat) (wr : Bool) (k : Nat) (wk : Bool) : Prop where
  tru : wr = true → wk = true
  no : wr = false → wk = true → padR bs 3 i = none
  yes : wr = false → wk = false → ∃ f, (4 - k % 4) % 4 ≤ f ∧ padR bs 3 i = padR bs f k
  le : i ≤ k
theorem PD.start (bs : List UInt8) (i : Nat) (wr : Bool) : PD bs i wr i wr := ⟨fun e => e, (fun e1 e2 => by rw [e1] at e2; cases e2), fun _ _ => ⟨3, by omega, rfl⟩, Nat.le_refl _⟩
def padG (bs : List UInt8) (i : Nat) : Option (Unit × Nat) := (padR bs 3 i).bind fun j => some ((), j)
theorem PD.stop {bs : List UInt8} {i : Nat} {wr : Bool} {k : Nat} {wk : Bool} (h : PD bs i wr k wk) (hk : k % 4 = 0 ∨ wk = true) : G9 (padG bs i) wr () k wk := by
  refine ⟨h.tru, fun e => ?_⟩
  cases wk with
  | true => exact .inr ⟨by unfold padG; rw [h.no e rfl]; rfl, rfl⟩
  | false =>
    obtain ⟨f, _, h2⟩ := h.yes e rfl
    have h0 : k % 4 = 0 := hk.resolve_right (by simp)
    refine .inl ⟨?_, rfl⟩
    unfold padG
    rw [h2]
    cases f <;> simp [padR, h0]
theorem PD.next {bs : List UInt8} {i : Nat} {wr : Bool} {k : Nat} (h : PD bs i wr k false) (hk : k % 4 ≠ 0) {n : Int} {k' : Nat} {w' : Bool} (g : G9 (gR bs k 1 false) false n k' w') (hk' : w' = false → k' = k + 1) (hle : k ≤ k') : PD bs i wr k' (w' || decide (n ≠ 0)) := by
  have hwr : wr = false := by cases wr; rfl; have := h.tru rfl; cases this
  obtain ⟨f, hf, h2⟩ := h.yes hwr rfl
  obtain ⟨f, rfl⟩ : ∃ f', f = f' + 1 := ⟨f - 1, by omega⟩
  have h3 : padR bs (f + 1) k = (gR bs k 1 false).bind fun x => if x.1 = 0 then padR bs f x.2 else none := by
    conv => lhs; unfold padR
    rw [if_neg hk]
  rw [h3] at h2
  refine ⟨(fun e => by rw [hwr] at e; cases e), fun _ e => ?_, fun _ e => ?_, by have := h.le; omega⟩
  · rw [h2]
    rcases g.2 rfl with ⟨g1, g2⟩ | ⟨g1, g2⟩
    · rw [g1]
      rw [g2] at e
      have : n ≠ 0 := by simpa using e
      simp [this]
    · rw [g1]; rfl
  · rcases g.2 rfl with ⟨g1, g2⟩ | ⟨g1, g2⟩
    · rw [g2] at e
      have : n = 0 := by simpa using e
      subst this
      have := hk' g2
      refine ⟨f, by omega, ?_⟩
      rw [h2, g1]
      simp
    · rw [g2] at e; cases e
def mu9 (C : Cr9) (W : World) : Nat := match W.cell? ⟨C.X, 42, none⟩, W.cell? ⟨C.x, 1, none⟩ with
  | some (.bool true), _ => 0
  | _, some (.int _ k) => (4 - k.toNat % 4) % 4
  | _, _ => 0
theorem mu9_is {C : Cr9} {i : Nat} {bg : Int} {wr : Bool} {W : World} (h : Rd9 C i bg wr W) : mu9 C W = if wr = true then 0 else (4 - i % 4) % 4 := by
  obtain ⟨F, y, c, _, h1⟩ := h.rd
  unfold mu9
  rw [h.cells.2.2.1, h1.c1]
  cases wr <;> simp
theorem h9At_any (C : Cr9) (i : Nat) (bg : Int) (wr : Bool) (w : World) (h : Rd9 C i bg wr w) : Calls Tryd.prog 60 #[.pointer (some ⟨C.x, 0, none⟩)] w fun e w' => e = .returned (.int .i64 (i : Int)) ∧ Below w.heap.size w w' := by
  obtain ⟨F, hF⟩ := h.rd
  exact dAt_any F w C.B C.x C.bs i hF
theorem tmod4 (k : Nat) : (k : Int).tmod 4 = ((k % 4 : Nat) : Int) := rfl
set_option maxHeartbeats 1600000 in
theorem h9noughts_any (C : Cr9) (i : Nat) (bg : Int) (wg : Bool) (w : World) (h : Rd9 C i bg wg w) :
    Calls Tryd.prog 53 #[.pointer (some ⟨C.X, 0, none⟩)] w fun e w' => ∃ i' wr', e = .returned (.tuple #[]) ∧ G9 (padG C.bs i) wg () i' wr' ∧ i ≤ i' ∧ Rd9 C i' bg wr' w' ∧ FX9 C w w' := by
  have hB := h.hB
  have HR := hide h
  clear h
  go_enter Tryd.func53, Tryd.ntmps53
  go_wp2
  go_loopw [] (fun W => ∃ k wk, Hid (PD C.bs i wg k wk) ∧ Hid (Rd9 C k bg wk W) ∧ Hid (FX9 C w W)) (fun W => mu9 C W)
  case atStart => exact ⟨i, wg, PD.start _ _ _, HR, FX9.refl C w⟩
  case round =>
    obtain ⟨k, wk, HP, HK, HF⟩ := hrel
    have HA := hide (h9At_any C k bg wk wr (unhide HK))
    have c0 := (unhide HK).cells.1
    go_wp2_with fail
    refine (unhide HA).mono ?_
    rintro e w1 ⟨rfl, f1⟩
    have HK1 := hide ((unhide HK).below f1)
    have HF1 := hide ((unhide HF).on f1 hB)
    have c2 := (unhide HK1).cells.2.2.1
    have c3 := (unhide HK1).cells.1
    clear f1 c0 HA
    by_cases hk : k % 4 = 0
    · have r1 : (k : Int).tmod 4 = 0 := by rw [tmod4, hk]; rfl
      have HE := hide ((unhide HP).stop (.inl hk))
      have HL := hide (unhide HP).le
      clear HP
      go_wp2
      go_end0
      exact ⟨k, wk, rfl, unhide HE, unhide HL, unhide HK1, unhide HF1⟩
    have r1 : ((k : Int).tmod 4 != 0) = true := by rw [tmod4]; simp; omega
    have r2 : ¬ (k : Int).tmod 4 = 0 := by rw [tmod4]; omega
    generalize (k : Int).tmod 4 = K4 at *
    cases wk with
    | true =>
      have HE := hide ((unhide HP).stop (.inr rfl))
      have HL := hide (unhide HP).le
      clear HP
      go_wp2
      go_end0
      exact ⟨k, true, rfl, unhide HE, unhide HL, unhide HK1, unhide HF1⟩
    | false =>
      have HN := hide (h9u1_any C k bg false w1 (unhide HK1))
      go_wp2_with fail
      refine (unhide HN).mono ?_
      rintro e w2 ⟨n, k', wk', rfl, g1, g2, _, _, g4, R2, f2⟩
      have HP2 := hide ((unhide HP).next hk g1 g4 g2)
      have HF2 := hide ((unhide HF1).trans f2)
      have HRF := hide (h9refuse_any C k' bg wk' w2 R2 (decide (n ≠ 0)))
      have hm : ∀ W, Rd9 C k' bg (wk' || decide (n ≠ 0)) W → mu9 C W < mu9 C wr := fun W hW => by
        have e2 : mu9 C wr = (4 - k % 4) % 4 := by rw [mu9_is (unhide HK)]; rfl
        rw [e2, mu9_is hW]
        split
        · omega
        · rename_i hc
          have h1 : wk' = false := by revert hc; cases wk' <;> simp
          have := g4 h1
          omega
      have HM := hide hm
      clear g1 g2 g4 R2 f2 HN hm c2 c3 HK1
      by_cases hn0 : n = 0
      · subst hn0
        have e1 : decide ((0 : Int) ≠ 0) = false := rfl
        rw [e1] at HRF HM HP2
        clear e1
        go_wp2_with fail
        refine (unhide HRF).mono ?_
        rintro e w3 ⟨rfl, R3, f3⟩
        have HR3 := hide R3
        have HF3 := hide ((unhide HF2).trans f3)
        clear R3 f3 HRF
        go_wp2
        go_roundw
        case rel => exact ⟨k', _, HP2, HR3, HF3⟩
        case measure => exact unhide HM _ (unhide HR3)
      · have e1 : decide (n ≠ 0) = true := by simpa using hn0
        have e2 : (n != 0) = true := by simpa using hn0
        rw [e1] at HRF HM HP2
        clear e1
        go_wp2_with fail
        refine (unhide HRF).mono ?_
        rintro e w3 ⟨rfl, R3, f3⟩
        have HR3 := hide R3
        have HF3 := hide ((unhide HF2).trans f3)
        clear R3 f3 HRF
        go_wp2
        go_roundw
        case rel => exact ⟨k', _, HP2, HR3, HF3⟩
        case measure => exact unhide HM _ (unhide HR3)
end Go.Proofs.YtpmhcignenfhgaaDoor
