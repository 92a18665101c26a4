/- Joined: CgA CgB CgC CgD. -/
import Derived.Test.YtpmhcignenfhgaaDoorJT
import Derived.Test.YtpmhcignenfhgaaDoorJG

/- The landed code: its writer while instructions are written; numbers, wayTo, noughts. -/
namespace Go.Proofs.YtpmhcignenfhgaaDoor
open Go.RowKit
set_option linter.unusedVariables false
set_option maxRecDepth 100000

structure Cw9 where
  X : Nat
  x : Nat
  B : Nat
structure Wr9 (C : Cw9) (bg : Int) (bs : List UInt8) (W : World) : Prop where
  wr : ∃ F, WR F W C.B C.x bs ∧ ¬ F C.X
  hX : C.B ≤ C.X
  blk : W.heap[C.X]? = some (.cells #[.pointer (some ⟨C.x, 0, none⟩), .int .i64 bg] 83 (0, 0))
theorem Wr9.X_lt {C : Cw9} {bg : Int} {bs : List UInt8} {W : World} (h : Wr9 C bg bs W) : C.X < W.heap.size := lt_of_heap h.blk
theorem Wr9.hB {C : Cw9} {bg : Int} {bs : List UInt8} {W : World} (h : Wr9 C bg bs W) : C.B ≤ W.heap.size := Nat.le_trans h.hX (Nat.le_of_lt h.X_lt)
theorem Wr9.below {C : Cw9} {bg : Int} {bs : List UInt8} {W W' : World} (h : Wr9 C bg bs W) (f : Below W.heap.size W W') : Wr9 C bg bs W' := by
  obtain ⟨F, ⟨y, c, hF, sp⟩, hn⟩ := h.wr
  exact ⟨⟨F, ⟨y, c, hF, sp.keep (f.block _ sp.xlt) (f.block _ sp.y.2)⟩, hn⟩, h.hX, (f.block _ h.X_lt).trans h.blk⟩
theorem Wr9.cells {C : Cw9} {bg : Int} {bs : List UInt8} {W : World} (h : Wr9 C bg bs W) : W.cell? ⟨C.X, 0, none⟩ = some (.pointer (some ⟨C.x, 0, none⟩)) ∧ W.cell? ⟨C.X, 1, none⟩ = some (.int .i64 bg) ∧ (∀ j, W.frozen? ⟨C.X, j, none⟩ = false) :=
  ⟨bx_cell h.blk 0 _ rfl, bx_cell h.blk 1 _ rfl, fun j => bx_thaw h.blk j⟩
theorem Wr9.lt {C : Cw9} {bg : Int} {bs : List UInt8} {W : World} {F : Nat → Prop} (h : WR F W C.B C.x bs) : ∀ k, F k → k < W.heap.size := by
  obtain ⟨y, c, rfl, sp⟩ := h
  intro k hk
  rcases hk with rfl | rfl
  · exact sp.xlt
  · exact sp.y.2
/-- Whatever is not the writer's stays. -/
structure FW9 (C : Cw9) (w w' : World) : Prop where
  below : Below C.B w w'
  kept : ∀ (k : Nat) (Z : Array Value) (T : TypeId), w.heap[k]? = some (.cells Z T (0, 0)) → T ≠ 105 → T ≠ 5 → T ≠ 83 → w'.heap[k]? = some (.cells Z T (0, 0))
theorem FW9.refl (C : Cw9) (w : World) : FW9 C w w := ⟨Below.refl _ _, fun _ _ _ h _ _ _ => h⟩
theorem FW9.trans {C : Cw9} {w w1 w2 : World} (f : FW9 C w w1) (g : FW9 C w1 w2) : FW9 C w w2 := ⟨f.below.trans g.below, fun k Z T h h1 h2 h3 => g.kept k Z T (f.kept k Z T h h1 h2 h3) h1 h2 h3⟩
theorem FW9.of_below {C : Cw9} {w w' : World} (f : Below w.heap.size w w') (hB : C.B ≤ w.heap.size) : FW9 C w w' := ⟨f.mono hB, fun k Z T h _ _ _ => (f.block k (lt_of_heap h)).trans h⟩
theorem FW9.on {C : Cw9} {w w1 w2 : World} (f : FW9 C w w1) (g : Below w1.heap.size w1 w2) (hB : C.B ≤ w1.heap.size) : FW9 C w w2 := f.trans (FW9.of_below g hB)
theorem FW9.fr6 {C : Cw9} {F : Nat → Prop} {bs : List UInt8} {w w' : World} (h : WR F w C.B C.x bs) (f : Fr6 F C.B w w') : FW9 C w w' := ⟨f.below, fun k Z T hk h1 h2 _ => (f.other k (lt_of_heap hk) fun hF => by
  obtain ⟨y, c, rfl, sp⟩ := h
  rcases hF with rfl | rfl
  · rw [sp.blk] at hk
    injection hk with hk
    injection hk with _ hk
    exact h1 hk.symm
  · rcases sp.row.2 with ⟨hv, _⟩ | ⟨g, cap, cur, hv, _, hh, _⟩
    · cases hv
    · injection hv with hv
      injection hv with hv
      injection hv with hv
      subst hv
      rw [hh] at hk
      injection hk with hk
      injection hk with _ hk
      exact h2 hk.symm).trans hk⟩
theorem Wr9.begin {C : Cw9} {bg : Int} {bs : List UInt8} {W : World} (h : Wr9 C bg bs W) (bg' : Int) : Wr9 C bg' bs (W.setCell ⟨C.X, 1, none⟩ (.int .i64 bg')) ∧ FW9 C W (W.setCell ⟨C.X, 1, none⟩ (.int .i64 bg')) := by
  obtain ⟨F, ⟨y, c, hF, sp⟩, hn⟩ := h.wr
  subst hF
  have hs : ∀ k, k ≠ C.X → (W.setCell ⟨C.X, 1, none⟩ (.int .i64 bg')).heap[k]? = W.heap[k]? := fun k hk => Below.heap_setCell _ _ _ _ hk
  exact ⟨⟨⟨_, ⟨y, c, rfl, sp.keep (hs _ fun e => hn (.inl e.symm)) (hs _ fun e => hn (.inr e.symm))⟩, hn⟩, h.hX, heap_setCell_same W _ 1 _ _ _ h.blk⟩, (Below.refl _ _).setCell (p := ⟨C.X, 1, none⟩) h.hX _, fun k Z T hk _ _ h3 => (hs k fun e => by
    rw [e, h.blk] at hk
    injection hk with hk
    injection hk with _ hk
    exact h3 hk.symm).trans hk⟩
/-- Numbers written: what comes of the bytes. -/
def pw (k : Int) (sg : Bool) (l : List Int) (bs : List UInt8) : List UInt8 := (putW bs k sg l).1
theorem pw_len (k : Nat) (sg : Bool) (l : List Int) (bs : List UInt8) : (pw (k : Int) sg l bs).length ≤ bs.length + k * l.length := by
  unfold pw putW
  split
  · simp only [List.length_append]
    have : ∀ l : List Int, (l.flatMap (bytesW (k : Int))).length = k * l.length := by
      intro l
      induction l with
      | nil => rfl
      | cons z l ih => rw [List.flatMap_cons, List.length_append, ih, bytesW_len, List.length_cons, Nat.mul_succ]; simp; omega
    rw [this]
    exact Nat.le_refl _
  · simp only
    omega
theorem pw_ge (k : Int) (sg : Bool) (l : List Int) (bs : List UInt8) : bs.length ≤ (pw k sg l bs).length := by
  unfold pw putW
  split
  · simp
  · exact Nat.le_refl _
def Rg (z : Int) : Prop := -9223372036854775808 ≤ z ∧ z ≤ 9223372036854775807
theorem wt9U {C : Cw9} {bg : Int} {bs : List UInt8} {W : World} (h : Wr9 C bg bs W) (k : Int) (zs : List Int) (n : Nat) (X : Array Value) (hX : X.toList = zs.map fun z => .int .i64 z) (hn : n = zs.length) (hz : ∀ z ∈ zs, Rg z) (hb : bs.length + 8 * n ≤ 140737488351232) (hk : 0 ≤ k ∧ k ≤ 8) :
    Calls Tryd.prog 66 #[.pointer (some ⟨C.x, 0, none⟩), .int .i64 k, .slice (some ⟨W.heap.size, 0, none⟩) n n] (W.alloc (.cells X 3)) fun e w' => ∃ er, e = .returned (.int .i64 er) ∧ Wr9 C bg (pw k false zs bs) w' ∧ FW9 C W w' := by
  have f : Below W.heap.size W (W.alloc (.cells X 3)) := bA (Below.refl _ _) _
  have h1 := h.below f
  have hB := h.hB
  obtain ⟨F, hw, hnX⟩ := h.wr
  have hlt := Wr9.lt (bg := bg) hw
  have hw1 : WR F (W.alloc (.cells X 3)) C.B C.x bs := by
    obtain ⟨y, c, hF, sp⟩ := hw
    exact ⟨y, c, hF, sp.keep (f.block _ sp.xlt) (f.block _ sp.y.2)⟩
  have hrow := heap_alloc_last W (.cells X 3)
  refine (eU_any F (W.alloc (.cells X 3)) C.B C.x bs k _ n n zs hw1 ⟨hn.symm, .inr ⟨_, _, rfl, fun j z hj => ?_⟩⟩ (fun b o e _ hb => ?_) hz hb (by omega)).mono ?_
  · rw [cell_of_row _ _ _ _ _ _ hrow, Nat.zero_add]
    have : X.toList[j]? = some (.int .i64 z) := by rw [hX, List.getElem?_map, hj]; rfl
    simpa using this
  · injection e with e
    injection e with e1
    have := hlt b hb
    omega
  · rintro e w' ⟨rfl, ⟨F', r1, r2⟩, r3⟩
    refine ⟨_, rfl, ⟨⟨F', r1, fun hF' => ?_⟩, h.hX, ?_⟩, (FW9.of_below f hB).trans (FW9.fr6 hw1 r3)⟩
    · rcases r2 _ hF' with h2 | h2
      · exact hnX h2
      · have := h1.X_lt; omega
    · exact (r3.other _ h1.X_lt hnX).trans h1.blk
theorem wt9S {C : Cw9} {bg : Int} {bs : List UInt8} {W : World} (h : Wr9 C bg bs W) (k : Int) (zs : List Int) (n : Nat) (X : Array Value) (hX : X.toList = zs.map fun z => .int .i64 z) (hn : n = zs.length) (hz : ∀ z ∈ zs, Rg z) (hb : bs.length + 8 * n ≤ 140737488351232) (hk : 0 ≤ k ∧ k ≤ 8) :
    Calls Tryd.prog 67 #[.pointer (some ⟨C.x, 0, none⟩), .int .i64 k, .slice (some ⟨W.heap.size, 0, none⟩) n n] (W.alloc (.cells X 3)) fun e w' => ∃ er, e = .returned (.int .i64 er) ∧ Wr9 C bg (pw k true zs bs) w' ∧ FW9 C W w' := by
  have f : Below W.heap.size W (W.alloc (.cells X 3)) := bA (Below.refl _ _) _
  have h1 := h.below f
  have hB := h.hB
  obtain ⟨F, hw, hnX⟩ := h.wr
  have hlt := Wr9.lt (bg := bg) hw
  have hw1 : WR F (W.alloc (.cells X 3)) C.B C.x bs := by
    obtain ⟨y, c, hF, sp⟩ := hw
    exact ⟨y, c, hF, sp.keep (f.block _ sp.xlt) (f.block _ sp.y.2)⟩
  have hrow := heap_alloc_last W (.cells X 3)
  refine (eS_any F (W.alloc (.cells X 3)) C.B C.x bs k _ n n zs hw1 ⟨hn.symm, .inr ⟨_, _, rfl, fun j z hj => ?_⟩⟩ (fun b o e _ hb => ?_) hz hb (by omega)).mono ?_
  · rw [cell_of_row _ _ _ _ _ _ hrow, Nat.zero_add]
    have : X.toList[j]? = some (.int .i64 z) := by rw [hX, List.getElem?_map, hj]; rfl
    simpa using this
  · injection e with e
    injection e with e1
    have := hlt b hb
    omega
  · rintro e w' ⟨rfl, ⟨F', r1, r2⟩, r3⟩
    refine ⟨_, rfl, ⟨⟨F', r1, fun hF' => ?_⟩, h.hX, ?_⟩, (FW9.of_below f hB).trans (FW9.fr6 hw1 r3)⟩
    · rcases r2 _ hF' with h2 | h2
      · exact hnX h2
      · have := h1.X_lt; omega
    · exact (r3.other _ h1.X_lt hnX).trans h1.blk
def way (bg at_ : Int) : Int := wrap64 (at_ - bg)
theorem way_rg (bg at_ : Int) : Rg (way bg at_) := by unfold way Rg wrap64; omega
theorem way_small {bg at_ : Int} (h : -9223372036854775808 ≤ at_ - bg ∧ at_ - bg ≤ 9223372036854775807) : way bg at_ = at_ - bg := by unfold way wrap64; omega
theorem h9wayTo_any (C : Cw9) (bg : Int) (bs : List UInt8) (w : World) (h : Wr9 C bg bs w) (at_ : Int) :
    Calls Tryd.prog 68 #[.pointer (some ⟨C.X, 0, none⟩), .int .i64 at_] w fun e w' => e = .returned (.int .i64 (way bg at_)) ∧ w' = w := by
  have c1 := h.cells.2.1
  unfold way
  clear h
  go_enter Tryd.func68, Tryd.ntmps68
  go_wp2
  go_ret
  exact ⟨rfl, rfl⟩
theorem h9Len_any (C : Cw9) (bg : Int) (bs : List UInt8) (w : World) (h : Wr9 C bg bs w) : Calls Tryd.prog 97 #[.pointer (some ⟨C.x, 0, none⟩)] w fun e w' => e = .returned (.int .i64 (bs.length : Int)) ∧ Below w.heap.size w w' := by
  obtain ⟨F, hF, _⟩ := h.wr
  exact eLen_any F w C.B C.x bs hF
theorem pw_zero (bs : List UInt8) : pw 1 false [0] bs = bs ++ [0] := rfl
def padW (bs : List UInt8) : List UInt8 := bs ++ List.replicate ((4 - bs.length % 4) % 4) 0
def muW (C : Cw9) (W : World) : Nat := match W.cell? ⟨C.x, 1, none⟩ with
  | some (.int _ k) => (4 - k.toNat % 4) % 4
  | _ => 0
theorem muW_is {C : Cw9} {bg : Int} {bs : List UInt8} {W : World} (h : Wr9 C bg bs W) : muW C W = (4 - bs.length % 4) % 4 := by
  obtain ⟨F, ⟨y, c, _, sp⟩, _⟩ := h.wr
  unfold muW
  rw [sp.c1]
  simp
set_option maxHeartbeats 1600000 in
theorem h9wnoughts_any (C : Cw9) (bg : Int) (bs : List UInt8) (w : World) (h : Wr9 C bg bs w) (hb : bs.length ≤ 100000000000000) :
    Calls Tryd.prog 90 #[.pointer (some ⟨C.X, 0, none⟩)] w fun e w' => e = .returned (.tuple #[]) ∧ Wr9 C bg (padW bs) w' ∧ FW9 C w w' := by
  have HW := hide h
  clear h
  go_enter Tryd.func90, Tryd.ntmps90
  go_wp2
  go_loopw [] (fun W => ∃ bs', Wr9 C bg bs' W ∧ FW9 C w W ∧ padW bs' = padW bs ∧ bs'.length ≤ bs.length + 3) (fun W => muW C W)
  case atStart => exact ⟨bs, unhide HW, FW9.refl _ _, rfl, by omega⟩
  case round =>
    obtain ⟨bs', hR, hF, hP, hl⟩ := hrel
    have HLN := hide (h9Len_any C bg bs' wr hR)
    have c0 := hR.cells.1
    have HD := hide (And.intro hR (And.intro hF hP))
    clear hR hF hP
    go_wp2_with fail
    refine (unhide HLN).mono ?_
    rintro e w1 ⟨rfl, f1⟩
    obtain ⟨hR, hF, hP⟩ := unhide HD
    have R1 := hR.below f1
    have F1 := hF.on f1 hR.hB
    have hmu : muW C w1 = muW C wr := by rw [muW_is R1, muW_is hR]
    have d0 := R1.cells.1
    clear c0 HLN HD hR hF f1
    by_cases hk : bs'.length % 4 = 0
    · have r1 : (bs'.length : Int).tmod 4 = 0 := by rw [tmod4, hk]; rfl
      have HX : Hid (Wr9 C bg (padW bs) w1 ∧ FW9 C w w1) := ⟨by
        rw [← hP]
        have : padW bs' = bs' := by unfold padW; rw [hk]; simp
        rw [this]
        exact R1, F1⟩
      clear R1 F1 hP hmu
      go_wp2
      go_end0
      exact ⟨rfl, unhide HX⟩
    · have r1 : ((bs'.length : Int).tmod 4 != 0) = true := by rw [tmod4]; simp; omega
      have r2 : ¬ (bs'.length : Int).tmod 4 = 0 := by rw [tmod4]; omega
      have HU := hide (wt9U R1 1 [0] 1 #[.int .i64 0] rfl rfl (fun z hz => by simp at hz; subst hz; unfold Rg; omega) (by omega) (by omega))
      have HX : Hid (∀ W, Wr9 C bg (pw 1 false [0] bs') W → padW (pw 1 false [0] bs') = padW bs ∧ (pw 1 false [0] bs').length ≤ bs.length + 3 ∧ muW C W < muW C wr) := fun W hW => by
        rw [← hmu, muW_is R1, muW_is hW, pw_zero]
        refine ⟨?_, ?_, ?_⟩
        · rw [← hP]
          unfold padW
          rw [List.length_append, List.length_singleton, List.append_assoc]
          congr 1
          obtain ⟨m, hm⟩ : ∃ m, (4 - bs'.length % 4) % 4 = m + 1 := ⟨(4 - bs'.length % 4) % 4 - 1, by omega⟩
          rw [hm, show (4 - (bs'.length + 1) % 4) % 4 = m by omega, List.replicate_succ]
          rfl
        · simp
          have h1 : (padW bs').length = (padW bs).length := by rw [hP]
          unfold padW at h1
          simp at h1
          omega
        · simp
          omega
      have HF1 := hide F1
      generalize (bs'.length : Int).tmod 4 = K4 at *
      clear R1 F1 hP hmu
      go_wp2_with fail
      refine (unhide HU).mono ?_
      rintro e w2 ⟨er, rfl, R2, f2⟩
      obtain ⟨x1, x2, x3⟩ := unhide HX w2 R2
      have HZ := hide (And.intro R2 (And.intro ((unhide HF1).trans f2) (And.intro x1 (And.intro x2 x3))))
      clear R2 f2 x1 x2 x3 HX HU
      go_wp2
      go_roundw
      case rel => exact ⟨_, (unhide HZ).1, (unhide HZ).2.1, (unhide HZ).2.2.1, (unhide HZ).2.2.2.1⟩
      case measure => exact (unhide HZ).2.2.2.2
end Go.Proofs.YtpmhcignenfhgaaDoor

/- The landed code: a table and a search written. -/
namespace Go.Proofs.YtpmhcignenfhgaaDoor
open Go.RowKit
set_option linter.unusedVariables false
set_option maxRecDepth 100000

/-- While it writes: the bytes, at most so many; what was boxed. -/
structure S9 (C : Cw9) (bg : Int) (bs : List UInt8) (m : Nat) (L : List (Nat × Array Value × TypeId)) (w W : World) : Prop where
  wr : Wr9 C bg bs W
  fw : FW9 C w W
  bx : ∀ t ∈ L, W.heap[t.1]? = some (.cells t.2.1 t.2.2 (0, 0))
  ok : ∀ t ∈ L, t.2.2 ≠ 105 ∧ t.2.2 ≠ 5 ∧ t.2.2 ≠ 83
  len : bs.length ≤ m
theorem S9.below {C : Cw9} {bg : Int} {bs : List UInt8} {m : Nat} {L : List (Nat × Array Value × TypeId)} {w W W' : World} (h : S9 C bg bs m L w W) (f : Below W.heap.size W W') : S9 C bg bs m L w W' :=
  ⟨h.wr.below f, h.fw.on f h.wr.hB, fun t ht => (f.block _ (lt_of_heap (h.bx t ht))).trans (h.bx t ht), h.ok, h.len⟩
theorem S9.to {C : Cw9} {bg : Int} {bs bs2 : List UInt8} {m m2 : Nat} {L : List (Nat × Array Value × TypeId)} {w W W2 : World} (h : S9 C bg bs m L w W) (R : Wr9 C bg bs2 W2) (f : FW9 C W W2) (hl : bs2.length ≤ m2) : S9 C bg bs2 m2 L w W2 :=
  ⟨R, h.fw.trans f, fun t ht => f.kept _ _ _ (h.bx t ht) (h.ok t ht).1 (h.ok t ht).2.1 (h.ok t ht).2.2, h.ok, hl⟩
theorem S9.step {C : Cw9} {bg : Int} {bs bs2 : List UInt8} {m q : Nat} {L : List (Nat × Array Value × TypeId)} {w W W2 : World} (h : S9 C bg bs m L w W) (R : Wr9 C bg bs2 W2) (f : FW9 C W W2) (hl : bs2.length ≤ bs.length + q) : S9 C bg bs2 (m + q) L w W2 :=
  h.to R f (by have := h.len; omega)
theorem S9.more {C : Cw9} {bg : Int} {bs : List UInt8} {m : Nat} {L : List (Nat × Array Value × TypeId)} {w W : World} (h : S9 C bg bs m L w W) (b : Nat) (cs : Array Value) (T : TypeId) (hb : W.heap[b]? = some (.cells cs T (0, 0))) (hT : T ≠ 105 ∧ T ≠ 5 ∧ T ≠ 83) : S9 C bg bs m ((b, cs, T) :: L) w W :=
  ⟨h.wr, h.fw, fun t ht => by
    rcases List.mem_cons.1 ht with rfl | ht
    · exact hb
    · exact h.bx t ht, fun t ht => by
    rcases List.mem_cons.1 ht with rfl | ht
    · exact hT
    · exact h.ok t ht, h.len⟩
theorem S9.less {C : Cw9} {bg : Int} {bs : List UInt8} {m : Nat} {t : Nat × Array Value × TypeId} {L : List (Nat × Array Value × TypeId)} {w W : World} (h : S9 C bg bs m (t :: L) w W) : S9 C bg bs m L w W :=
  ⟨h.wr, h.fw, fun u hu => h.bx u (List.mem_cons_of_mem _ hu), fun u hu => h.ok u (List.mem_cons_of_mem _ hu), h.len⟩
theorem padW_len (bs : List UInt8) : (padW bs).length ≤ bs.length + 3 := by unfold padW; simp; omega
def tabcW (bg : Int) : List Cas → List UInt8 → List UInt8
  | [], bs => bs
  | c :: l, bs => tabcW bg l (pw 4 true [way bg c.to_] bs)
def seacW (bg : Int) : List Cas → List UInt8 → List UInt8
  | [], bs => bs
  | c :: l, bs => seacW bg l (pw 4 true [c.key, way bg c.to_] bs)
def tabW (bg a b : Int) (cs : List Cas) (bs : List UInt8) : List UInt8 := tabcW bg cs (pw 4 true [way bg a, b, IntKind.i64.wrap (IntKind.i64.wrap (b + cs.length) - 1)] (padW bs))
def seaW (bg a : Int) (cs : List Cas) (bs : List UInt8) : List UInt8 := seacW bg cs (pw 4 false [(cs.length : Int)] (pw 4 true [way bg a] (padW bs)))
theorem wrap_rg (z : Int) : Rg (IntKind.i64.wrap z) := by unfold Rg; rw [IntKind.wrap_i64]; omega
set_option maxHeartbeats 4000000 in
theorem h9wtable_any (C : Cw9) (bg : Int) (bs : List UInt8) (w0 w : World) (hC : w0.heap.size = C.B) (f0 : Below C.B w0 w) (h : Wr9 C bg bs w) (at0 op a b : Int) (sa : Option Addr) (sn sc : Nat) (cs : List Cas) (hL : Ls 2 cac w0 sa sn cs) (hcs : ∀ c ∈ cs, Rg c.key ∧ Rg c.to_) (ha : Rg a) (hb : Rg b) (hlen : bs.length + 100 + 8 * sn ≤ 100000000000000) :
    Calls Tryd.prog 69 #[.pointer (some ⟨C.X, 0, none⟩), .agg #[.int .i64 at0, .int .i64 op, .int .i64 a, .int .i64 b, .slice sa sn sc]] w fun e w' => e = .returned (.tuple #[]) ∧ Wr9 C bg (tabW bg a b cs bs) w' ∧ FW9 C w w' ∧ (tabW bg a b cs bs).length ≤ bs.length + 15 + 8 * sn := by
  have hln := hL.1
  have HL := hide hL
  have HCS := hide hcs
  have HF0 := hide f0
  have HC := hide hC
  obtain ⟨w1, hw1, hb1, f1⟩ : ∃ w1, w1 = w.alloc (.cells #[.int .i64 at0, .int .i64 op, .int .i64 a, .int .i64 b, .slice sa sn sc] 38) ∧ w1.heap[w.heap.size]? = some (.cells #[.int .i64 at0, .int .i64 op, .int .i64 a, .int .i64 b, .slice sa sn sc] 38 (0, 0)) ∧ Below w.heap.size w w1 := ⟨_, rfl, heap_alloc_last _ _, bA (Below.refl _ _) _⟩
  have S1 : Hid (S9 C bg bs bs.length [(w.heap.size, #[.int .i64 at0, .int .i64 op, .int .i64 a, .int .i64 b, .slice sa sn sc], 38)] w w1) := ⟨h.below f1, FW9.of_below f1 h.hB, fun t ht => by simp at ht; subst ht; exact hb1, fun t ht => by simp at ht; subst ht; exact ⟨(by decide : (38 : TypeId) ≠ 105), (by decide : (38 : TypeId) ≠ 5), (by decide : (38 : TypeId) ≠ 83)⟩, Nat.le_refl _⟩
  have HW1 := hide hw1
  have HN := hide (h9wnoughts_any C bg bs w1 (unhide S1).wr (by omega))
  have hla : True := trivial
  have HLA := hide hla
  clear h hL hcs f0 hC hw1 hb1 f1 hla
  go_enter Tryd.func69, Tryd.ntmps69
  go_wp2_with fail
  rw [← unhide HW1]
  refine (unhide HN).mono ?_
  rintro e w2 ⟨rfl, R2, f2⟩
  have S2 := hide ((unhide S1).to (m2 := bs.length + 3) R2 f2 (padW_len _))
  clear R2 f2 HN S1 HW1
  go_wp2
  obtain ⟨SS, hSS⟩ : ∃ SS : World → Prop, SS = fun W' => ∃ bs' m', S9 C bg bs' m' [(w.heap.size, #[.int .i64 at0, .int .i64 op, .int .i64 a, .int .i64 b, .slice sa sn sc], 38)] w W' := ⟨_, rfl⟩
  have KI : Hid (∀ W' bs' m', S9 C bg bs' m' [(w.heap.size, #[.int .i64 at0, .int .i64 op, .int .i64 a, .int .i64 b, .slice sa sn sc], 38)] w W' → SS W') := fun W' bs' m' f => by rw [hSS]; exact ⟨bs', m', f⟩
  have KE : Hid (∀ W, SS W → W.cell? ⟨C.X, 0, none⟩ = some (.pointer (some ⟨C.x, 0, none⟩)) ∧ W.cell? ⟨w.heap.size, 2, none⟩ = some (.int .i64 a) ∧ W.cell? ⟨w.heap.size, 3, none⟩ = some (.int .i64 b) ∧ W.cell? ⟨w.heap.size, 4, none⟩ = some (.slice sa sn sc)) := fun W h => by
    rw [hSS] at h
    obtain ⟨_, _, h⟩ := h
    exact ⟨h.wr.cells.1, bx_cell (h.bx (w.heap.size, #[.int .i64 at0, .int .i64 op, .int .i64 a, .int .i64 b, .slice sa sn sc], 38) (by simp)) 2 _ rfl, bx_cell (h.bx (w.heap.size, #[.int .i64 at0, .int .i64 op, .int .i64 a, .int .i64 b, .slice sa sn sc], 38) (by simp)) 3 _ rfl, bx_cell (h.bx (w.heap.size, #[.int .i64 at0, .int .i64 op, .int .i64 a, .int .i64 b, .slice sa sn sc], 38) (by simp)) 4 _ rfl⟩
  clear hSS
  have D3 := hide ((unhide S2).below (Below.refl _ _).drew)
  refine wp_region_txt SS [7, 17, 18] [0, 1, 2, 3, 4, 5, 6, 8, 9, 10, 11, 12, 13, 14, 15, 16, 7, 17, 18] (by kernel_rfl) (by kernel_rfl) (unhide KI _ _ _ (unhide D3)) ?_
  generalize hv3 : w2.drew = v3 at *
  clear hv3
  repeat (refine Txt.reads (v := ?_) (by rfl) (by rfl) (by rfl) ?_ ?_; rotate_left; (focus ((intro W hSW; obtain ⟨k0, k1, k2, k3⟩ := unhide KE W hSW; go_simp) <;> with_reducible rfl)); simp only [Act.put, List.setIfInBounds_toArray, List.set_cons_zero, List.set_cons_succ])
  refine Txt.acts (by rfl) (by rfl) (by rfl) (fun K hK => ?_)
  go_simp
  refine (h9wayTo_any C bg _ v3 (unhide D3).wr (a)).mono ?_
  rintro e wz ⟨rfl, e1⟩
  have e1' := e1.symm
  clear e1
  subst e1'
  refine hK.out _ _ (unhide KI _ _ _ (unhide D3)) ?_
  clear hK K
  try simp only [Act.put, List.setIfInBounds_toArray, List.set_cons_zero, List.set_cons_succ]
  repeat (refine Txt.reads (v := ?_) (by rfl) (by rfl) (by rfl) ?_ ?_; rotate_left; (focus ((intro W hSW; obtain ⟨k0, k1, k2, k3⟩ := unhide KE W hSW; go_simp) <;> with_reducible rfl)); simp only [Act.put, List.setIfInBounds_toArray, List.set_cons_zero, List.set_cons_succ])
  have HU := hide (wt9S (unhide D3).wr 4 [way bg a, b, IntKind.i64.wrap (IntKind.i64.wrap (b + sn) - 1)] 3 #[.int .i64 (way bg a), .int .i64 (b), .int .i64 (IntKind.i64.wrap (IntKind.i64.wrap (b + sn) - 1))] rfl rfl (fun z hz => by simp at hz; rcases hz with rfl | rfl | rfl; exact way_rg _ _; exact hb; exact wrap_rg _) (by have := (unhide D3).len; (try simp at this); omega) (by omega))
  refine Txt.acts (by rfl) (by rfl) (by rfl) (fun K hK => ?_)
  go_simp
  refine hK.out _ _ (unhide KI _ _ _ ((unhide D3).below (bA (Below.refl _ _) _))) ?_
  clear hK K
  try simp only [Act.put, List.setIfInBounds_toArray, List.set_cons_zero, List.set_cons_succ]
  refine Txt.acts (by rfl) (by rfl) (by rfl) (fun K hK => ?_)
  go_simp
  refine (unhide HU).mono ?_
  rintro e w3 ⟨er3, rfl, R2, f2⟩
  have S3 := hide ((unhide D3).step R2 f2 (pw_len 4 true [way bg a, b, IntKind.i64.wrap (IntKind.i64.wrap (b + sn) - 1)] _))
  refine hK.out _ _ (unhide KI _ _ _ (unhide S3)) ?_
  clear hK K HU R2 f2
  refine Txt.done ?_
  clear KI KE
  obtain ⟨b0, hb0⟩ : ∃ b0, b0 = pw 4 true [way bg a, b, IntKind.i64.wrap (IntKind.i64.wrap (b + sn) - 1)] (padW bs) := ⟨_, rfl⟩
  have HB0 : Hid (tabW bg a b cs bs = tabcW bg cs b0) := by
    show tabW bg a b cs bs = tabcW bg cs b0
    rw [hb0]
    unfold tabW
    rw [hln]
  have SL : Hid (S9 C bg b0 (bs.length + 15) [(w.heap.size, #[.int .i64 at0, .int .i64 op, .int .i64 a, .int .i64 b, .slice sa sn sc], 38)] w w3) := by
    have := unhide S3
    rw [← hb0] at this
    exact this.to this.wr (FW9.refl _ _) (by have := this.len; simp at this; omega)
  have c4 := bx_cell ((unhide SL).bx (w.heap.size, #[.int .i64 at0, .int .i64 op, .int .i64 a, .int .i64 b, .slice sa sn sc], 38) (by simp)) 4 _ rfl
  clear hb0 S3
  go_wp2
  go_loopw [30] (fun vk W => ∃ (k : Nat) (b1 : List UInt8), k ≤ sn ∧ vk = .int .i64 k ∧ S9 C bg b1 (bs.length + 15 + 8 * k) [(w.heap.size, #[.int .i64 at0, .int .i64 op, .int .i64 a, .int .i64 b, .slice sa sn sc], 38)] w W ∧ tabcW bg cs b0 = tabcW bg (cs.drop k) b1) (fun vk _ => sn - (intOf vk).toNat)
  case atStart => exact ⟨0, b0, by omega, rfl, unhide SL, rfl⟩
  case round =>
    obtain ⟨k, b1, hk, rfl, hS, hB⟩ := hrel
    have HS := hide hS
    by_cases hlt : k < sn
    · have hlt1 : (k : Int) < (sn : Int) := by omega
      obtain ⟨q1, o1, h1a, h1⟩ := Ls.row (unhide HL) (w' := wr) (by omega)
      subst h1a
      obtain ⟨x, hx⟩ : ∃ x, cs[k]? = some x := ⟨_, List.getElem?_eq_getElem (by omega)⟩
      have hbw : Below w0.heap.size w0 wr := by rw [unhide HC]; exact (unhide HF0).trans hS.fw.below
      have d0 := (h1 hbw k x hx).zero
      have d1 := (h1 hbw k x hx) 1 _ rfl
      have hrx := unhide HCS x (List.mem_of_getElem? hx)
      have hd : cs.drop k = x :: cs.drop (k + 1) := by
        obtain ⟨hk', e⟩ := List.getElem?_eq_some_iff.1 hx
        rw [List.drop_eq_getElem_cons hk', e]
      have hB2 : tabcW bg cs b0 = tabcW bg (cs.drop (k + 1)) (pw 4 true [way bg x.to_] b1) := by rw [hB, hd]; rfl
      have HB2 := hide hB2
      have T1 : Hid (S9 C bg b1 (bs.length + 15 + 8 * k) ((wr.heap.size, #[.int .i64 x.key, .int .i64 x.to_], 51) :: [(w.heap.size, #[.int .i64 at0, .int .i64 op, .int .i64 a, .int .i64 b, .slice (some ⟨q1, o1, none⟩) sn sc], 38)]) w (wr.alloc (.cells #[.int .i64 x.key, .int .i64 x.to_] 51))) := (hS.below (bA (Below.refl _ _) _)).more _ _ _ (heap_alloc_last _ _) (by decide)
      clear h1 hx hbw hd hB hB2 hS
      go_wp2
      generalize hw8 : wr.alloc (.cells #[.int .i64 x.key, .int .i64 x.to_] 51) = w8 at *
      clear hw8
      obtain ⟨SS, hSS⟩ : ∃ SS : World → Prop, SS = fun W' => ∃ bs' m', S9 C bg bs' m' ((wr.heap.size, #[.int .i64 x.key, .int .i64 x.to_], 51) :: [(w.heap.size, #[.int .i64 at0, .int .i64 op, .int .i64 a, .int .i64 b, .slice (some ⟨q1, o1, none⟩) sn sc], 38)]) w W' := ⟨_, rfl⟩
      have KI : Hid (∀ W' bs' m', S9 C bg bs' m' ((wr.heap.size, #[.int .i64 x.key, .int .i64 x.to_], 51) :: [(w.heap.size, #[.int .i64 at0, .int .i64 op, .int .i64 a, .int .i64 b, .slice (some ⟨q1, o1, none⟩) sn sc], 38)]) w W' → SS W') := fun W' bs' m' f => by rw [hSS]; exact ⟨bs', m', f⟩
      have KE : Hid (∀ W, SS W → W.cell? ⟨C.X, 0, none⟩ = some (.pointer (some ⟨C.x, 0, none⟩)) ∧ W.cell? ⟨wr.heap.size, 1, none⟩ = some (.int .i64 x.to_)) := fun W h => by
        rw [hSS] at h
        obtain ⟨_, _, h⟩ := h
        exact ⟨h.wr.cells.1, bx_cell (h.bx (wr.heap.size, #[.int .i64 x.key, .int .i64 x.to_], 51) (by simp)) 1 _ rfl⟩
      clear hSS
      have D9 := hide ((unhide T1).below (Below.refl _ _).drew)
      refine wp_region_txt SS [7, 8, 9] (List.range 10) (by kernel_rfl) (by kernel_rfl) (unhide KI _ _ _ (unhide D9)) ?_
      generalize hv9 : w8.drew = v9 at *
      clear hv9
      repeat (refine Txt.reads (v := ?_) (by rfl) (by rfl) (by rfl) ?_ ?_; rotate_left; (focus ((intro W hSW; obtain ⟨k0, k1⟩ := unhide KE W hSW; go_simp) <;> with_reducible rfl)); simp only [Act.put, List.setIfInBounds_toArray, List.set_cons_zero, List.set_cons_succ])
      refine Txt.acts (by rfl) (by rfl) (by rfl) (fun K hK => ?_)
      go_simp
      refine (h9wayTo_any C bg _ v9 (unhide D9).wr (x.to_)).mono ?_
      rintro e wz ⟨rfl, e1⟩
      have e1' := e1.symm
      clear e1
      subst e1'
      refine hK.out _ _ (unhide KI _ _ _ (unhide D9)) ?_
      clear hK K
      try simp only [Act.put, List.setIfInBounds_toArray, List.set_cons_zero, List.set_cons_succ]
      repeat (refine Txt.reads (v := ?_) (by rfl) (by rfl) (by rfl) ?_ ?_; rotate_left; (focus ((intro W hSW; obtain ⟨k0, k1⟩ := unhide KE W hSW; go_simp) <;> with_reducible rfl)); simp only [Act.put, List.setIfInBounds_toArray, List.set_cons_zero, List.set_cons_succ])
      have HU := hide (wt9S (unhide D9).wr 4 [way bg x.to_] 1 #[.int .i64 (way bg x.to_)] rfl rfl (fun z hz => by simp at hz; subst hz; exact way_rg _ _) (by have := (unhide D9).len; (try simp at this); omega) (by omega))
      refine Txt.acts (by rfl) (by rfl) (by rfl) (fun K hK => ?_)
      go_simp
      refine hK.out _ _ (unhide KI _ _ _ ((unhide D9).below (bA (Below.refl _ _) _))) ?_
      clear hK K
      try simp only [Act.put, List.setIfInBounds_toArray, List.set_cons_zero, List.set_cons_succ]
      refine Txt.acts (by rfl) (by rfl) (by rfl) (fun K hK => ?_)
      go_simp
      refine (unhide HU).mono ?_
      rintro e w9 ⟨er9, rfl, R2, f2⟩
      have SN9 := hide ((unhide D9).step R2 f2 (pw_len 4 true [way bg x.to_] _))
      refine hK.out _ _ (unhide KI _ _ _ (unhide SN9)) ?_
      clear hK K HU R2 f2
      refine Txt.done ?_
      clear KI KE
      have SE : Hid (S9 C bg (pw 4 true [way bg x.to_] b1) (bs.length + 15 + 8 * (k + 1)) [(w.heap.size, #[.int .i64 at0, .int .i64 op, .int .i64 a, .int .i64 b, .slice (some ⟨q1, o1, none⟩) sn sc], 38)] w w9) := by
        have t := (unhide SN9).less
        exact t.to t.wr (FW9.refl _ _) (by have := t.len; simp at this; omega)
      clear SN9 D9 T1
      go_wp2
      go_roundw
      case rel => exact ⟨k + 1, _, by omega, by go_num, unhide SE, unhide HB2⟩
      case measure => simp [intOf]; omega
    · obtain rfl : k = sn := by omega
      have HE : Hid (Wr9 C bg (tabW bg a b cs bs) wr ∧ FW9 C w wr ∧ (tabW bg a b cs bs).length ≤ bs.length + 15 + 8 * k) := by
        show Wr9 C bg (tabW bg a b cs bs) wr ∧ FW9 C w wr ∧ (tabW bg a b cs bs).length ≤ bs.length + 15 + 8 * k
        rw [unhide HB0, hB, List.drop_of_length_le (by omega)]
        exact ⟨hS.wr, hS.fw, hS.len⟩
      clear hS hB
      go_wp2
      go_end0
      exact ⟨rfl, unhide HE⟩
set_option maxHeartbeats 4000000 in
theorem h9wsearch_any (C : Cw9) (bg : Int) (bs : List UInt8) (w0 w : World) (hC : w0.heap.size = C.B) (f0 : Below C.B w0 w) (h : Wr9 C bg bs w) (at0 op a b : Int) (sa : Option Addr) (sn sc : Nat) (cs : List Cas) (hL : Ls 2 cac w0 sa sn cs) (hcs : ∀ c ∈ cs, Rg c.key ∧ Rg c.to_) (ha : Rg a) (hb : Rg b) (hlen : bs.length + 100 + 8 * sn ≤ 100000000000000) :
    Calls Tryd.prog 70 #[.pointer (some ⟨C.X, 0, none⟩), .agg #[.int .i64 at0, .int .i64 op, .int .i64 a, .int .i64 b, .slice sa sn sc]] w fun e w' => e = .returned (.tuple #[]) ∧ Wr9 C bg (seaW bg a cs bs) w' ∧ FW9 C w w' ∧ (seaW bg a cs bs).length ≤ bs.length + 15 + 8 * sn := by
  have hln := hL.1
  have HL := hide hL
  have HCS := hide hcs
  have HF0 := hide f0
  have HC := hide hC
  obtain ⟨w1, hw1, hb1, f1⟩ : ∃ w1, w1 = w.alloc (.cells #[.int .i64 at0, .int .i64 op, .int .i64 a, .int .i64 b, .slice sa sn sc] 38) ∧ w1.heap[w.heap.size]? = some (.cells #[.int .i64 at0, .int .i64 op, .int .i64 a, .int .i64 b, .slice sa sn sc] 38 (0, 0)) ∧ Below w.heap.size w w1 := ⟨_, rfl, heap_alloc_last _ _, bA (Below.refl _ _) _⟩
  have S1 : Hid (S9 C bg bs bs.length [(w.heap.size, #[.int .i64 at0, .int .i64 op, .int .i64 a, .int .i64 b, .slice sa sn sc], 38)] w w1) := ⟨h.below f1, FW9.of_below f1 h.hB, fun t ht => by simp at ht; subst ht; exact hb1, fun t ht => by simp at ht; subst ht; exact ⟨(by decide : (38 : TypeId) ≠ 105), (by decide : (38 : TypeId) ≠ 5), (by decide : (38 : TypeId) ≠ 83)⟩, Nat.le_refl _⟩
  have HW1 := hide hw1
  have HN := hide (h9wnoughts_any C bg bs w1 (unhide S1).wr (by omega))
  have hla : True := trivial
  have HLA := hide hla
  clear h hL hcs f0 hC hw1 hb1 f1 hla
  go_enter Tryd.func70, Tryd.ntmps70
  go_wp2_with fail
  rw [← unhide HW1]
  refine (unhide HN).mono ?_
  rintro e w2 ⟨rfl, R2, f2⟩
  have S2 := hide ((unhide S1).to (m2 := bs.length + 3) R2 f2 (padW_len _))
  clear R2 f2 HN S1 HW1
  go_wp2
  obtain ⟨SS, hSS⟩ : ∃ SS : World → Prop, SS = fun W' => ∃ bs' m', S9 C bg bs' m' [(w.heap.size, #[.int .i64 at0, .int .i64 op, .int .i64 a, .int .i64 b, .slice sa sn sc], 38)] w W' := ⟨_, rfl⟩
  have KI : Hid (∀ W' bs' m', S9 C bg bs' m' [(w.heap.size, #[.int .i64 at0, .int .i64 op, .int .i64 a, .int .i64 b, .slice sa sn sc], 38)] w W' → SS W') := fun W' bs' m' f => by rw [hSS]; exact ⟨bs', m', f⟩
  have KE : Hid (∀ W, SS W → W.cell? ⟨C.X, 0, none⟩ = some (.pointer (some ⟨C.x, 0, none⟩)) ∧ W.cell? ⟨w.heap.size, 2, none⟩ = some (.int .i64 a) ∧ W.cell? ⟨w.heap.size, 4, none⟩ = some (.slice sa sn sc)) := fun W h => by
    rw [hSS] at h
    obtain ⟨_, _, h⟩ := h
    exact ⟨h.wr.cells.1, bx_cell (h.bx (w.heap.size, #[.int .i64 at0, .int .i64 op, .int .i64 a, .int .i64 b, .slice sa sn sc], 38) (by simp)) 2 _ rfl, bx_cell (h.bx (w.heap.size, #[.int .i64 at0, .int .i64 op, .int .i64 a, .int .i64 b, .slice sa sn sc], 38) (by simp)) 4 _ rfl⟩
  clear hSS
  have D3 := hide ((unhide S2).below (Below.refl _ _).drew)
  refine wp_region_txt SS [7, 8, 9] (List.range 10) (by kernel_rfl) (by kernel_rfl) (unhide KI _ _ _ (unhide D3)) ?_
  generalize hv3 : w2.drew = v3 at *
  clear hv3
  repeat (refine Txt.reads (v := ?_) (by rfl) (by rfl) (by rfl) ?_ ?_; rotate_left; (focus ((intro W hSW; obtain ⟨k0, k1, k2⟩ := unhide KE W hSW; go_simp) <;> with_reducible rfl)); simp only [Act.put, List.setIfInBounds_toArray, List.set_cons_zero, List.set_cons_succ])
  refine Txt.acts (by rfl) (by rfl) (by rfl) (fun K hK => ?_)
  go_simp
  refine (h9wayTo_any C bg _ v3 (unhide D3).wr (a)).mono ?_
  rintro e wz ⟨rfl, e1⟩
  have e1' := e1.symm
  clear e1
  subst e1'
  refine hK.out _ _ (unhide KI _ _ _ (unhide D3)) ?_
  clear hK K
  try simp only [Act.put, List.setIfInBounds_toArray, List.set_cons_zero, List.set_cons_succ]
  repeat (refine Txt.reads (v := ?_) (by rfl) (by rfl) (by rfl) ?_ ?_; rotate_left; (focus ((intro W hSW; obtain ⟨k0, k1, k2⟩ := unhide KE W hSW; go_simp) <;> with_reducible rfl)); simp only [Act.put, List.setIfInBounds_toArray, List.set_cons_zero, List.set_cons_succ])
  have HU := hide (wt9S (unhide D3).wr 4 [way bg a] 1 #[.int .i64 (way bg a)] rfl rfl (fun z hz => by simp at hz; subst hz; exact way_rg _ _) (by have := (unhide D3).len; (try simp at this); omega) (by omega))
  refine Txt.acts (by rfl) (by rfl) (by rfl) (fun K hK => ?_)
  go_simp
  refine hK.out _ _ (unhide KI _ _ _ ((unhide D3).below (bA (Below.refl _ _) _))) ?_
  clear hK K
  try simp only [Act.put, List.setIfInBounds_toArray, List.set_cons_zero, List.set_cons_succ]
  refine Txt.acts (by rfl) (by rfl) (by rfl) (fun K hK => ?_)
  go_simp
  refine (unhide HU).mono ?_
  rintro e w3 ⟨er3, rfl, R2, f2⟩
  have S3 := hide ((unhide D3).step R2 f2 (pw_len 4 true [way bg a] _))
  refine hK.out _ _ (unhide KI _ _ _ (unhide S3)) ?_
  clear hK K HU R2 f2
  refine Txt.done ?_
  clear KI KE
  go_wp2
  have hsr : Rg (sn : Int) := by unfold Rg; omega
  obtain ⟨SS, hSS⟩ : ∃ SS : World → Prop, SS = fun W' => ∃ bs' m', S9 C bg bs' m' [(w.heap.size, #[.int .i64 at0, .int .i64 op, .int .i64 a, .int .i64 b, .slice sa sn sc], 38)] w W' := ⟨_, rfl⟩
  have KI : Hid (∀ W' bs' m', S9 C bg bs' m' [(w.heap.size, #[.int .i64 at0, .int .i64 op, .int .i64 a, .int .i64 b, .slice sa sn sc], 38)] w W' → SS W') := fun W' bs' m' f => by rw [hSS]; exact ⟨bs', m', f⟩
  have KE : Hid (∀ W, SS W → W.cell? ⟨C.X, 0, none⟩ = some (.pointer (some ⟨C.x, 0, none⟩)) ∧ W.cell? ⟨w.heap.size, 4, none⟩ = some (.slice sa sn sc)) := fun W h => by
    rw [hSS] at h
    obtain ⟨_, _, h⟩ := h
    exact ⟨h.wr.cells.1, bx_cell (h.bx (w.heap.size, #[.int .i64 at0, .int .i64 op, .int .i64 a, .int .i64 b, .slice sa sn sc], 38) (by simp)) 4 _ rfl⟩
  clear hSS
  have D4 := hide ((unhide S3).below (Below.refl _ _).drew)
  refine wp_region_txt SS [7, 8] (List.range 9) (by kernel_rfl) (by kernel_rfl) (unhide KI _ _ _ (unhide D4)) ?_
  generalize hv4 : w3.drew = v4 at *
  clear hv4
  repeat (refine Txt.reads (v := ?_) (by rfl) (by rfl) (by rfl) ?_ ?_; rotate_left; (focus ((intro W hSW; obtain ⟨k0, k1⟩ := unhide KE W hSW; go_simp) <;> with_reducible rfl)); simp only [Act.put, List.setIfInBounds_toArray, List.set_cons_zero, List.set_cons_succ])
  have HU := hide (wt9U (unhide D4).wr 4 [(sn : Int)] 1 #[.int .i64 ((sn : Int))] rfl rfl (fun z hz => by simp at hz; subst hz; exact hsr) (by have := (unhide D4).len; (try simp at this); omega) (by omega))
  refine Txt.acts (by rfl) (by rfl) (by rfl) (fun K hK => ?_)
  go_simp
  refine hK.out _ _ (unhide KI _ _ _ ((unhide D4).below (bA (Below.refl _ _) _))) ?_
  clear hK K
  try simp only [Act.put, List.setIfInBounds_toArray, List.set_cons_zero, List.set_cons_succ]
  refine Txt.acts (by rfl) (by rfl) (by rfl) (fun K hK => ?_)
  go_simp
  refine (unhide HU).mono ?_
  rintro e w4 ⟨er4, rfl, R2, f2⟩
  have S4 := hide ((unhide D4).step R2 f2 (pw_len 4 false [(sn : Int)] _))
  refine hK.out _ _ (unhide KI _ _ _ (unhide S4)) ?_
  clear hK K HU R2 f2
  refine Txt.done ?_
  clear KI KE
  obtain ⟨b0, hb0⟩ : ∃ b0, b0 = pw 4 false [(sn : Int)] (pw 4 true [way bg a] (padW bs)) := ⟨_, rfl⟩
  have HB0 : Hid (seaW bg a cs bs = seacW bg cs b0) := by
    show seaW bg a cs bs = seacW bg cs b0
    rw [hb0]
    unfold seaW
    rw [hln]
  have SL : Hid (S9 C bg b0 (bs.length + 15) [(w.heap.size, #[.int .i64 at0, .int .i64 op, .int .i64 a, .int .i64 b, .slice sa sn sc], 38)] w w4) := by
    have := unhide S4
    rw [← hb0] at this
    exact this.to this.wr (FW9.refl _ _) (by have := this.len; simp at this; omega)
  have c4 := bx_cell ((unhide SL).bx (w.heap.size, #[.int .i64 at0, .int .i64 op, .int .i64 a, .int .i64 b, .slice sa sn sc], 38) (by simp)) 4 _ rfl
  clear hb0 S4
  go_wp2
  go_loopw [30] (fun vk W => ∃ (k : Nat) (b1 : List UInt8), k ≤ sn ∧ vk = .int .i64 k ∧ S9 C bg b1 (bs.length + 15 + 8 * k) [(w.heap.size, #[.int .i64 at0, .int .i64 op, .int .i64 a, .int .i64 b, .slice sa sn sc], 38)] w W ∧ seacW bg cs b0 = seacW bg (cs.drop k) b1) (fun vk _ => sn - (intOf vk).toNat)
  case atStart => exact ⟨0, b0, by omega, rfl, unhide SL, rfl⟩
  case round =>
    obtain ⟨k, b1, hk, rfl, hS, hB⟩ := hrel
    have HS := hide hS
    by_cases hlt : k < sn
    · have hlt1 : (k : Int) < (sn : Int) := by omega
      obtain ⟨q1, o1, h1a, h1⟩ := Ls.row (unhide HL) (w' := wr) (by omega)
      subst h1a
      obtain ⟨x, hx⟩ : ∃ x, cs[k]? = some x := ⟨_, List.getElem?_eq_getElem (by omega)⟩
      have hbw : Below w0.heap.size w0 wr := by rw [unhide HC]; exact (unhide HF0).trans hS.fw.below
      have d0 := (h1 hbw k x hx).zero
      have d1 := (h1 hbw k x hx) 1 _ rfl
      have hrx := unhide HCS x (List.mem_of_getElem? hx)
      have hd : cs.drop k = x :: cs.drop (k + 1) := by
        obtain ⟨hk', e⟩ := List.getElem?_eq_some_iff.1 hx
        rw [List.drop_eq_getElem_cons hk', e]
      have hB2 : seacW bg cs b0 = seacW bg (cs.drop (k + 1)) (pw 4 true [x.key, way bg x.to_] b1) := by rw [hB, hd]; rfl
      have HB2 := hide hB2
      have T1 : Hid (S9 C bg b1 (bs.length + 15 + 8 * k) ((wr.heap.size, #[.int .i64 x.key, .int .i64 x.to_], 51) :: [(w.heap.size, #[.int .i64 at0, .int .i64 op, .int .i64 a, .int .i64 b, .slice (some ⟨q1, o1, none⟩) sn sc], 38)]) w (wr.alloc (.cells #[.int .i64 x.key, .int .i64 x.to_] 51))) := (hS.below (bA (Below.refl _ _) _)).more _ _ _ (heap_alloc_last _ _) (by decide)
      clear h1 hx hbw hd hB hB2 hS
      go_wp2
      generalize hw8 : wr.alloc (.cells #[.int .i64 x.key, .int .i64 x.to_] 51) = w8 at *
      clear hw8
      obtain ⟨SS, hSS⟩ : ∃ SS : World → Prop, SS = fun W' => ∃ bs' m', S9 C bg bs' m' ((wr.heap.size, #[.int .i64 x.key, .int .i64 x.to_], 51) :: [(w.heap.size, #[.int .i64 at0, .int .i64 op, .int .i64 a, .int .i64 b, .slice (some ⟨q1, o1, none⟩) sn sc], 38)]) w W' := ⟨_, rfl⟩
      have KI : Hid (∀ W' bs' m', S9 C bg bs' m' ((wr.heap.size, #[.int .i64 x.key, .int .i64 x.to_], 51) :: [(w.heap.size, #[.int .i64 at0, .int .i64 op, .int .i64 a, .int .i64 b, .slice (some ⟨q1, o1, none⟩) sn sc], 38)]) w W' → SS W') := fun W' bs' m' f => by rw [hSS]; exact ⟨bs', m', f⟩
      have KE : Hid (∀ W, SS W → W.cell? ⟨C.X, 0, none⟩ = some (.pointer (some ⟨C.x, 0, none⟩)) ∧ W.cell? ⟨wr.heap.size, 0, none⟩ = some (.int .i64 x.key) ∧ W.cell? ⟨wr.heap.size, 1, none⟩ = some (.int .i64 x.to_)) := fun W h => by
        rw [hSS] at h
        obtain ⟨_, _, h⟩ := h
        exact ⟨h.wr.cells.1, bx_cell (h.bx (wr.heap.size, #[.int .i64 x.key, .int .i64 x.to_], 51) (by simp)) 0 _ rfl, bx_cell (h.bx (wr.heap.size, #[.int .i64 x.key, .int .i64 x.to_], 51) (by simp)) 1 _ rfl⟩
      clear hSS
      have D9 := hide ((unhide T1).below (Below.refl _ _).drew)
      refine wp_region_txt SS [9, 10, 11] (List.range 12) (by kernel_rfl) (by kernel_rfl) (unhide KI _ _ _ (unhide D9)) ?_
      generalize hv9 : w8.drew = v9 at *
      clear hv9
      repeat (refine Txt.reads (v := ?_) (by rfl) (by rfl) (by rfl) ?_ ?_; rotate_left; (focus ((intro W hSW; obtain ⟨k0, k1, k2⟩ := unhide KE W hSW; go_simp) <;> with_reducible rfl)); simp only [Act.put, List.setIfInBounds_toArray, List.set_cons_zero, List.set_cons_succ])
      refine Txt.acts (by rfl) (by rfl) (by rfl) (fun K hK => ?_)
      go_simp
      refine (h9wayTo_any C bg _ v9 (unhide D9).wr (x.to_)).mono ?_
      rintro e wz ⟨rfl, e1⟩
      have e1' := e1.symm
      clear e1
      subst e1'
      refine hK.out _ _ (unhide KI _ _ _ (unhide D9)) ?_
      clear hK K
      try simp only [Act.put, List.setIfInBounds_toArray, List.set_cons_zero, List.set_cons_succ]
      repeat (refine Txt.reads (v := ?_) (by rfl) (by rfl) (by rfl) ?_ ?_; rotate_left; (focus ((intro W hSW; obtain ⟨k0, k1, k2⟩ := unhide KE W hSW; go_simp) <;> with_reducible rfl)); simp only [Act.put, List.setIfInBounds_toArray, List.set_cons_zero, List.set_cons_succ])
      have HU := hide (wt9S (unhide D9).wr 4 [x.key, way bg x.to_] 2 #[.int .i64 (x.key), .int .i64 (way bg x.to_)] rfl rfl (fun z hz => by simp at hz; rcases hz with rfl | rfl; exact hrx.1; exact way_rg _ _) (by have := (unhide D9).len; (try simp at this); omega) (by omega))
      refine Txt.acts (by rfl) (by rfl) (by rfl) (fun K hK => ?_)
      go_simp
      refine hK.out _ _ (unhide KI _ _ _ ((unhide D9).below (bA (Below.refl _ _) _))) ?_
      clear hK K
      try simp only [Act.put, List.setIfInBounds_toArray, List.set_cons_zero, List.set_cons_succ]
      refine Txt.acts (by rfl) (by rfl) (by rfl) (fun K hK => ?_)
      go_simp
      refine (unhide HU).mono ?_
      rintro e w9 ⟨er9, rfl, R2, f2⟩
      have SN9 := hide ((unhide D9).step R2 f2 (pw_len 4 true [x.key, way bg x.to_] _))
      refine hK.out _ _ (unhide KI _ _ _ (unhide SN9)) ?_
      clear hK K HU R2 f2
      refine Txt.done ?_
      clear KI KE
      have SE : Hid (S9 C bg (pw 4 true [x.key, way bg x.to_] b1) (bs.length + 15 + 8 * (k + 1)) [(w.heap.size, #[.int .i64 at0, .int .i64 op, .int .i64 a, .int .i64 b, .slice (some ⟨q1, o1, none⟩) sn sc], 38)] w w9) := by
        have t := (unhide SN9).less
        exact t.to t.wr (FW9.refl _ _) (by have := t.len; simp at this; omega)
      clear SN9 D9 T1
      go_wp2
      go_roundw
      case rel => exact ⟨k + 1, _, by omega, by go_num, unhide SE, unhide HB2⟩
      case measure => simp [intOf]; omega
    · obtain rfl : k = sn := by omega
      have HE : Hid (Wr9 C bg (seaW bg a cs bs) wr ∧ FW9 C w wr ∧ (seaW bg a cs bs).length ≤ bs.length + 15 + 8 * k) := by
        show Wr9 C bg (seaW bg a cs bs) wr ∧ FW9 C w wr ∧ (seaW bg a cs bs).length ≤ bs.length + 15 + 8 * k
        rw [unhide HB0, hB, List.drop_of_length_le (by omega)]
        exact ⟨hS.wr, hS.fw, hS.len⟩
      clear hS hB
      go_wp2
      go_end0
      exact ⟨rfl, unhide HE⟩
end Go.Proofs.YtpmhcignenfhgaaDoor

/- The landed code: an instruction written. -/
namespace Go.Proofs.YtpmhcignenfhgaaDoor
open Go.RowKit
set_option linter.unusedVariables false
set_option maxRecDepth 100000

/-- What comes of the bytes behind an Op, by its form. -/
def forW (f : Nat) (x : Ins) (b1 : List UInt8) : List UInt8 :=
  if f = 2 then pw 1 true [x.a] b1 else if f = 3 then pw 2 true [x.a] b1 else if f = 4 then pw 1 false [x.a] b1 else if f = 5 then pw 2 false [x.a] b1
  else if f = 6 then pw 1 true [x.b] (pw 1 false [x.a] b1) else if f = 7 then pw 2 true [way x.at_ x.a] b1 else if f = 8 then tabW x.at_ x.a x.b x.cs b1 else if f = 9 then seaW x.at_ x.a x.cs b1 else b1
def insW (x : Ins) (bs : List UInt8) : List UInt8 := forW (formP x.op) x (pw 1 false [x.op] bs)
theorem Tab9.fw {C : Cw9} {w w' : World} (h : Tab9 w) (f : FW9 C w w') (hB : 2 ≤ C.B) : Tab9 w' := by
  obtain ⟨t, fr, h⟩ := h
  exact ⟨t, fr, (f.below.block 1 (by omega)).trans h⟩
set_option maxHeartbeats 8000000 in
theorem h9winstr_any (C : Cw9) (bg0 : Int) (bs : List UInt8) (w0 w : World) (hC : w0.heap.size = C.B) (f0 : Below C.B w0 w) (h : Wr9 C bg0 bs w) (hT : Tab9 w) (h2B : 2 ≤ C.B) (at0 op a b : Int) (sa : Option Addr) (sn sc : Nat) (cs : List Cas) (hL : Ls 2 cac w0 sa sn cs) (hcs : ∀ c ∈ cs, Rg c.key ∧ Rg c.to_) (hop : Rg op) (ha : Rg a) (hb : Rg b) (hlen : bs.length + 200 + 8 * sn ≤ 100000000000000) :
    Calls Tryd.prog 42 #[.pointer (some ⟨C.X, 0, none⟩), .agg #[.int .i64 at0, .int .i64 op, .int .i64 a, .int .i64 b, .slice sa sn sc]] w fun e w' => e = .returned (.tuple #[]) ∧ Wr9 C at0 (insW ⟨at0, op, a, b, cs⟩ bs) w' ∧ FW9 C w w' ∧ (insW ⟨at0, op, a, b, cs⟩ bs).length ≤ bs.length + 16 + 8 * sn := by
  have hln := hL.1
  have HL := hide hL
  have HCS := hide hcs
  have HF0 := hide f0
  have HC := hide hC
  have HT := hide hT
  obtain ⟨w1, hw1, hb1, f1⟩ : ∃ w1, w1 = w.alloc (.cells #[.int .i64 at0, .int .i64 op, .int .i64 a, .int .i64 b, .slice sa sn sc] 38) ∧ w1.heap[w.heap.size]? = some (.cells #[.int .i64 at0, .int .i64 op, .int .i64 a, .int .i64 b, .slice sa sn sc] 38 (0, 0)) ∧ Below w.heap.size w w1 := ⟨_, rfl, heap_alloc_last _ _, bA (Below.refl _ _) _⟩
  have R1 := h.below f1
  obtain ⟨R2, f2⟩ := R1.begin at0
  have hb2 := f2.kept _ _ _ hb1 (by decide) (by decide) (by decide)
  have S2 : Hid (S9 C at0 bs bs.length [(w.heap.size, #[.int .i64 at0, .int .i64 op, .int .i64 a, .int .i64 b, .slice sa sn sc], 38)] w (w1.setCell ⟨C.X, 1, none⟩ (.int .i64 at0))) := ⟨R2, (FW9.of_below f1 h.hB).trans f2, fun t ht => by simp at ht; subst ht; exact hb2, fun t ht => by simp at ht; subst ht; exact ⟨(by decide : (38 : TypeId) ≠ 105), (by decide : (38 : TypeId) ≠ 5), (by decide : (38 : TypeId) ≠ 83)⟩, Nat.le_refl _⟩
  have e1 := hw1.symm
  obtain ⟨q0, q1, q2⟩ := R1.cells
  have q3 : w1.cell? ⟨w.heap.size, 0, none⟩ = some (.int .i64 at0) := bx_cell hb1 0 _ rfl
  obtain ⟨PO, hPO⟩ : ∃ PO : Ending → World → Prop, PO = fun e w' => e = .returned (.tuple #[]) ∧ Wr9 C at0 (insW ⟨at0, op, a, b, cs⟩ bs) w' ∧ FW9 C w w' ∧ (insW ⟨at0, op, a, b, cs⟩ bs).length ≤ bs.length + 16 + 8 * sn := ⟨_, rfl⟩
  rw [← hPO]
  obtain ⟨f, hf⟩ : ∃ f, f = formP op := ⟨_, rfl⟩
  have hf9 := formP_le op
  rw [← hf] at hf9
  have HEND : Hid (∀ W bg' bs' m, S9 C at0 bs' m [(w.heap.size, #[.int .i64 at0, .int .i64 op, .int .i64 a, .int .i64 b, .slice sa sn sc], 38)] w W → bs' = forW f ⟨at0, op, a, b, cs⟩ (pw 1 false [op] bs) → m ≤ bs.length + 16 + 8 * sn → bg' = at0 → PO (.returned (.tuple #[])) W) := fun W bg' bs' m hS hbs hm _ => by
    rw [hPO]
    have e : insW ⟨at0, op, a, b, cs⟩ bs = bs' := by rw [hbs]; unfold insW; rw [hf]
    exact ⟨rfl, by rw [e]; exact hS.wr, hS.fw, by rw [e]; exact Nat.le_trans hS.len hm⟩
  have HFO : Hid (∀ W, FW9 C w W → Calls Tryd.prog 35 #[.int .i64 op] W fun e w' => e = .returned (.int .i64 (f : Int)) ∧ Below W.heap.size W w') := fun W fW => by rw [hf]; exact h9formOf_any W op (hT.fw fW h2B)
  clear h hL hcs f0 hC hw1 hb1 f1 R1 R2 f2 hb2 hT hPO hf
  go_enter Tryd.func42, Tryd.ntmps42
  go_wp2
  clear e1 q0 q1 q2 q3
  generalize hw2 : w1.setCell ⟨C.X, 1, none⟩ (.int .i64 at0) = w2 at *
  clear hw2
  obtain ⟨SS, hSS⟩ : ∃ SS : World → Prop, SS = fun W' => ∃ bs' m', S9 C at0 bs' m' [(w.heap.size, #[.int .i64 at0, .int .i64 op, .int .i64 a, .int .i64 b, .slice sa sn sc], 38)] w W' := ⟨_, rfl⟩
  have KI : Hid (∀ W' bs' m', S9 C at0 bs' m' [(w.heap.size, #[.int .i64 at0, .int .i64 op, .int .i64 a, .int .i64 b, .slice sa sn sc], 38)] w W' → SS W') := fun W' bs' m' f => by rw [hSS]; exact ⟨bs', m', f⟩
  have KE : Hid (∀ W, SS W → W.cell? ⟨C.X, 0, none⟩ = some (.pointer (some ⟨C.x, 0, none⟩)) ∧ W.cell? ⟨w.heap.size, 1, none⟩ = some (.int .i64 op)) := fun W h => by
    rw [hSS] at h
    obtain ⟨_, _, h⟩ := h
    exact ⟨h.wr.cells.1, bx_cell (h.bx (w.heap.size, #[.int .i64 at0, .int .i64 op, .int .i64 a, .int .i64 b, .slice sa sn sc], 38) (by simp)) 1 _ rfl⟩
  clear hSS
  have D3 := hide ((unhide S2).below (Below.refl _ _).drew)
  refine wp_region_txt SS [6, 7] (List.range 8) (by kernel_rfl) (by kernel_rfl) (unhide KI _ _ _ (unhide D3)) ?_
  generalize hv3 : w2.drew = v3 at *
  clear hv3
  repeat (refine Txt.reads (v := ?_) (by rfl) (by rfl) (by rfl) ?_ ?_; rotate_left; (focus ((intro W hSW; obtain ⟨k0, k1⟩ := unhide KE W hSW; go_simp) <;> with_reducible rfl)); simp only [Act.put, List.setIfInBounds_toArray, List.set_cons_zero, List.set_cons_succ])
  have HU := hide (wt9U (unhide D3).wr 1 [op] 1 #[.int .i64 (op)] rfl rfl (fun z hz => by simp at hz; subst hz; exact hop) (by have := (unhide D3).len; (try simp at this); omega) (by omega))
  refine Txt.acts (by rfl) (by rfl) (by rfl) (fun K hK => ?_)
  go_simp
  refine hK.out _ _ (unhide KI _ _ _ ((unhide D3).below (bA (Below.refl _ _) _))) ?_
  clear hK K
  try simp only [Act.put, List.setIfInBounds_toArray, List.set_cons_zero, List.set_cons_succ]
  refine Txt.acts (by rfl) (by rfl) (by rfl) (fun K hK => ?_)
  go_simp
  refine (unhide HU).mono ?_
  rintro e w3 ⟨er3, rfl, R2, f2⟩
  have S3 := hide ((unhide D3).step R2 f2 (pw_len 1 false [op] _))
  refine hK.out _ _ (unhide KI _ _ _ (unhide S3)) ?_
  clear hK K HU R2 f2
  refine Txt.done ?_
  clear KI KE
  have c1 := bx_cell ((unhide S3).bx (w.heap.size, #[.int .i64 at0, .int .i64 op, .int .i64 a, .int .i64 b, .slice sa sn sc], 38) (by simp)) 1 _ rfl
  have HF3 := hide (unhide HFO w3 (unhide S3).fw)
  clear D3
  go_wp2_with fail
  refine (unhide HF3).mono ?_
  rintro e w4 ⟨rfl, f4⟩
  have S4 := hide ((unhide S3).below f4)
  clear f4 HF3 S3 c1
  obtain rfl | rfl | rfl | rfl | rfl | rfl | rfl | rfl | rfl | rfl : f = 0 ∨ f = 1 ∨ f = 2 ∨ f = 3 ∨ f = 4 ∨ f = 5 ∨ f = 6 ∨ f = 7 ∨ f = 8 ∨ f = 9 := by omega
  · as_aux_lemma =>
    go_wp2
    go_end0
    exact unhide HEND _ at0 _ _ (unhide S4) rfl (by simp; omega) rfl
  · as_aux_lemma =>
    go_wp2
    go_end0
    exact unhide HEND _ at0 _ _ (unhide S4) rfl (by simp; omega) rfl
  · as_aux_lemma =>
    go_wp2
    obtain ⟨SS, hSS⟩ : ∃ SS : World → Prop, SS = fun W' => ∃ bs' m', S9 C at0 bs' m' [(w.heap.size, #[.int .i64 at0, .int .i64 op, .int .i64 a, .int .i64 b, .slice sa sn sc], 38)] w W' := ⟨_, rfl⟩
    have KI : Hid (∀ W' bs' m', S9 C at0 bs' m' [(w.heap.size, #[.int .i64 at0, .int .i64 op, .int .i64 a, .int .i64 b, .slice sa sn sc], 38)] w W' → SS W') := fun W' bs' m' f => by rw [hSS]; exact ⟨bs', m', f⟩
    have KE : Hid (∀ W, SS W → W.cell? ⟨C.X, 0, none⟩ = some (.pointer (some ⟨C.x, 0, none⟩)) ∧ W.cell? ⟨w.heap.size, 2, none⟩ = some (.int .i64 a)) := fun W h => by
      rw [hSS] at h
      obtain ⟨_, _, h⟩ := h
      exact ⟨h.wr.cells.1, bx_cell (h.bx (w.heap.size, #[.int .i64 at0, .int .i64 op, .int .i64 a, .int .i64 b, .slice sa sn sc], 38) (by simp)) 2 _ rfl⟩
    clear hSS
    have D5 := hide ((unhide S4).below (Below.refl _ _).drew)
    refine wp_region_txt SS [6, 7] (List.range 8) (by kernel_rfl) (by kernel_rfl) (unhide KI _ _ _ (unhide D5)) ?_
    generalize hv5 : w4.drew = v5 at *
    clear hv5
    repeat (refine Txt.reads (v := ?_) (by rfl) (by rfl) (by rfl) ?_ ?_; rotate_left; (focus ((intro W hSW; obtain ⟨k0, k1⟩ := unhide KE W hSW; go_simp) <;> with_reducible rfl)); simp only [Act.put, List.setIfInBounds_toArray, List.set_cons_zero, List.set_cons_succ])
    have HU := hide (wt9S (unhide D5).wr 1 [a] 1 #[.int .i64 (a)] rfl rfl (fun z hz => by simp at hz; subst hz; exact ha) (by have := (unhide D5).len; (try simp at this); omega) (by omega))
    refine Txt.acts (by rfl) (by rfl) (by rfl) (fun K hK => ?_)
    go_simp
    refine hK.out _ _ (unhide KI _ _ _ ((unhide D5).below (bA (Below.refl _ _) _))) ?_
    clear hK K
    try simp only [Act.put, List.setIfInBounds_toArray, List.set_cons_zero, List.set_cons_succ]
    refine Txt.acts (by rfl) (by rfl) (by rfl) (fun K hK => ?_)
    go_simp
    refine (unhide HU).mono ?_
    rintro e w5 ⟨er5, rfl, R2, f2⟩
    have S5 := hide ((unhide D5).step R2 f2 (pw_len 1 true [a] _))
    refine hK.out _ _ (unhide KI _ _ _ (unhide S5)) ?_
    clear hK K HU R2 f2
    refine Txt.done ?_
    clear KI KE
    go_wp2
    go_end0
    exact unhide HEND _ at0 _ _ (unhide S5) rfl (by simp; omega) rfl
  · as_aux_lemma =>
    go_wp2
    obtain ⟨SS, hSS⟩ : ∃ SS : World → Prop, SS = fun W' => ∃ bs' m', S9 C at0 bs' m' [(w.heap.size, #[.int .i64 at0, .int .i64 op, .int .i64 a, .int .i64 b, .slice sa sn sc], 38)] w W' := ⟨_, rfl⟩
    have KI : Hid (∀ W' bs' m', S9 C at0 bs' m' [(w.heap.size, #[.int .i64 at0, .int .i64 op, .int .i64 a, .int .i64 b, .slice sa sn sc], 38)] w W' → SS W') := fun W' bs' m' f => by rw [hSS]; exact ⟨bs', m', f⟩
    have KE : Hid (∀ W, SS W → W.cell? ⟨C.X, 0, none⟩ = some (.pointer (some ⟨C.x, 0, none⟩)) ∧ W.cell? ⟨w.heap.size, 2, none⟩ = some (.int .i64 a)) := fun W h => by
      rw [hSS] at h
      obtain ⟨_, _, h⟩ := h
      exact ⟨h.wr.cells.1, bx_cell (h.bx (w.heap.size, #[.int .i64 at0, .int .i64 op, .int .i64 a, .int .i64 b, .slice sa sn sc], 38) (by simp)) 2 _ rfl⟩
    clear hSS
    have D5 := hide ((unhide S4).below (Below.refl _ _).drew)
    refine wp_region_txt SS [6, 7] (List.range 8) (by kernel_rfl) (by kernel_rfl) (unhide KI _ _ _ (unhide D5)) ?_
    generalize hv5 : w4.drew = v5 at *
    clear hv5
    repeat (refine Txt.reads (v := ?_) (by rfl) (by rfl) (by rfl) ?_ ?_; rotate_left; (focus ((intro W hSW; obtain ⟨k0, k1⟩ := unhide KE W hSW; go_simp) <;> with_reducible rfl)); simp only [Act.put, List.setIfInBounds_toArray, List.set_cons_zero, List.set_cons_succ])
    have HU := hide (wt9S (unhide D5).wr 2 [a] 1 #[.int .i64 (a)] rfl rfl (fun z hz => by simp at hz; subst hz; exact ha) (by have := (unhide D5).len; (try simp at this); omega) (by omega))
    refine Txt.acts (by rfl) (by rfl) (by rfl) (fun K hK => ?_)
    go_simp
    refine hK.out _ _ (unhide KI _ _ _ ((unhide D5).below (bA (Below.refl _ _) _))) ?_
    clear hK K
    try simp only [Act.put, List.setIfInBounds_toArray, List.set_cons_zero, List.set_cons_succ]
    refine Txt.acts (by rfl) (by rfl) (by rfl) (fun K hK => ?_)
    go_simp
    refine (unhide HU).mono ?_
    rintro e w5 ⟨er5, rfl, R2, f2⟩
    have S5 := hide ((unhide D5).step R2 f2 (pw_len 2 true [a] _))
    refine hK.out _ _ (unhide KI _ _ _ (unhide S5)) ?_
    clear hK K HU R2 f2
    refine Txt.done ?_
    clear KI KE
    go_wp2
    go_end0
    exact unhide HEND _ at0 _ _ (unhide S5) rfl (by simp; omega) rfl
  · as_aux_lemma =>
    go_wp2
    obtain ⟨SS, hSS⟩ : ∃ SS : World → Prop, SS = fun W' => ∃ bs' m', S9 C at0 bs' m' [(w.heap.size, #[.int .i64 at0, .int .i64 op, .int .i64 a, .int .i64 b, .slice sa sn sc], 38)] w W' := ⟨_, rfl⟩
    have KI : Hid (∀ W' bs' m', S9 C at0 bs' m' [(w.heap.size, #[.int .i64 at0, .int .i64 op, .int .i64 a, .int .i64 b, .slice sa sn sc], 38)] w W' → SS W') := fun W' bs' m' f => by rw [hSS]; exact ⟨bs', m', f⟩
    have KE : Hid (∀ W, SS W → W.cell? ⟨C.X, 0, none⟩ = some (.pointer (some ⟨C.x, 0, none⟩)) ∧ W.cell? ⟨w.heap.size, 2, none⟩ = some (.int .i64 a)) := fun W h => by
      rw [hSS] at h
      obtain ⟨_, _, h⟩ := h
      exact ⟨h.wr.cells.1, bx_cell (h.bx (w.heap.size, #[.int .i64 at0, .int .i64 op, .int .i64 a, .int .i64 b, .slice sa sn sc], 38) (by simp)) 2 _ rfl⟩
    clear hSS
    have D5 := hide ((unhide S4).below (Below.refl _ _).drew)
    refine wp_region_txt SS [6, 7] (List.range 8) (by kernel_rfl) (by kernel_rfl) (unhide KI _ _ _ (unhide D5)) ?_
    generalize hv5 : w4.drew = v5 at *
    clear hv5
    repeat (refine Txt.reads (v := ?_) (by rfl) (by rfl) (by rfl) ?_ ?_; rotate_left; (focus ((intro W hSW; obtain ⟨k0, k1⟩ := unhide KE W hSW; go_simp) <;> with_reducible rfl)); simp only [Act.put, List.setIfInBounds_toArray, List.set_cons_zero, List.set_cons_succ])
    have HU := hide (wt9U (unhide D5).wr 1 [a] 1 #[.int .i64 (a)] rfl rfl (fun z hz => by simp at hz; subst hz; exact ha) (by have := (unhide D5).len; (try simp at this); omega) (by omega))
    refine Txt.acts (by rfl) (by rfl) (by rfl) (fun K hK => ?_)
    go_simp
    refine hK.out _ _ (unhide KI _ _ _ ((unhide D5).below (bA (Below.refl _ _) _))) ?_
    clear hK K
    try simp only [Act.put, List.setIfInBounds_toArray, List.set_cons_zero, List.set_cons_succ]
    refine Txt.acts (by rfl) (by rfl) (by rfl) (fun K hK => ?_)
    go_simp
    refine (unhide HU).mono ?_
    rintro e w5 ⟨er5, rfl, R2, f2⟩
    have S5 := hide ((unhide D5).step R2 f2 (pw_len 1 false [a] _))
    refine hK.out _ _ (unhide KI _ _ _ (unhide S5)) ?_
    clear hK K HU R2 f2
    refine Txt.done ?_
    clear KI KE
    go_wp2
    go_end0
    exact unhide HEND _ at0 _ _ (unhide S5) rfl (by simp; omega) rfl
  · as_aux_lemma =>
    go_wp2
    obtain ⟨SS, hSS⟩ : ∃ SS : World → Prop, SS = fun W' => ∃ bs' m', S9 C at0 bs' m' [(w.heap.size, #[.int .i64 at0, .int .i64 op, .int .i64 a, .int .i64 b, .slice sa sn sc], 38)] w W' := ⟨_, rfl⟩
    have KI : Hid (∀ W' bs' m', S9 C at0 bs' m' [(w.heap.size, #[.int .i64 at0, .int .i64 op, .int .i64 a, .int .i64 b, .slice sa sn sc], 38)] w W' → SS W') := fun W' bs' m' f => by rw [hSS]; exact ⟨bs', m', f⟩
    have KE : Hid (∀ W, SS W → W.cell? ⟨C.X, 0, none⟩ = some (.pointer (some ⟨C.x, 0, none⟩)) ∧ W.cell? ⟨w.heap.size, 2, none⟩ = some (.int .i64 a)) := fun W h => by
      rw [hSS] at h
      obtain ⟨_, _, h⟩ := h
      exact ⟨h.wr.cells.1, bx_cell (h.bx (w.heap.size, #[.int .i64 at0, .int .i64 op, .int .i64 a, .int .i64 b, .slice sa sn sc], 38) (by simp)) 2 _ rfl⟩
    clear hSS
    have D5 := hide ((unhide S4).below (Below.refl _ _).drew)
    refine wp_region_txt SS [6, 7] (List.range 8) (by kernel_rfl) (by kernel_rfl) (unhide KI _ _ _ (unhide D5)) ?_
    generalize hv5 : w4.drew = v5 at *
    clear hv5
    repeat (refine Txt.reads (v := ?_) (by rfl) (by rfl) (by rfl) ?_ ?_; rotate_left; (focus ((intro W hSW; obtain ⟨k0, k1⟩ := unhide KE W hSW; go_simp) <;> with_reducible rfl)); simp only [Act.put, List.setIfInBounds_toArray, List.set_cons_zero, List.set_cons_succ])
    have HU := hide (wt9U (unhide D5).wr 2 [a] 1 #[.int .i64 (a)] rfl rfl (fun z hz => by simp at hz; subst hz; exact ha) (by have := (unhide D5).len; (try simp at this); omega) (by omega))
    refine Txt.acts (by rfl) (by rfl) (by rfl) (fun K hK => ?_)
    go_simp
    refine hK.out _ _ (unhide KI _ _ _ ((unhide D5).below (bA (Below.refl _ _) _))) ?_
    clear hK K
    try simp only [Act.put, List.setIfInBounds_toArray, List.set_cons_zero, List.set_cons_succ]
    refine Txt.acts (by rfl) (by rfl) (by rfl) (fun K hK => ?_)
    go_simp
    refine (unhide HU).mono ?_
    rintro e w5 ⟨er5, rfl, R2, f2⟩
    have S5 := hide ((unhide D5).step R2 f2 (pw_len 2 false [a] _))
    refine hK.out _ _ (unhide KI _ _ _ (unhide S5)) ?_
    clear hK K HU R2 f2
    refine Txt.done ?_
    clear KI KE
    go_wp2
    go_end0
    exact unhide HEND _ at0 _ _ (unhide S5) rfl (by simp; omega) rfl
  · as_aux_lemma =>
    go_wp2
    obtain ⟨SS, hSS⟩ : ∃ SS : World → Prop, SS = fun W' => ∃ bs' m', S9 C at0 bs' m' [(w.heap.size, #[.int .i64 at0, .int .i64 op, .int .i64 a, .int .i64 b, .slice sa sn sc], 38)] w W' := ⟨_, rfl⟩
    have KI : Hid (∀ W' bs' m', S9 C at0 bs' m' [(w.heap.size, #[.int .i64 at0, .int .i64 op, .int .i64 a, .int .i64 b, .slice sa sn sc], 38)] w W' → SS W') := fun W' bs' m' f => by rw [hSS]; exact ⟨bs', m', f⟩
    have KE : Hid (∀ W, SS W → W.cell? ⟨C.X, 0, none⟩ = some (.pointer (some ⟨C.x, 0, none⟩)) ∧ W.cell? ⟨w.heap.size, 2, none⟩ = some (.int .i64 a)) := fun W h => by
      rw [hSS] at h
      obtain ⟨_, _, h⟩ := h
      exact ⟨h.wr.cells.1, bx_cell (h.bx (w.heap.size, #[.int .i64 at0, .int .i64 op, .int .i64 a, .int .i64 b, .slice sa sn sc], 38) (by simp)) 2 _ rfl⟩
    clear hSS
    have D5 := hide ((unhide S4).below (Below.refl _ _).drew)
    refine wp_region_txt SS [6, 7] (List.range 8) (by kernel_rfl) (by kernel_rfl) (unhide KI _ _ _ (unhide D5)) ?_
    generalize hv5 : w4.drew = v5 at *
    clear hv5
    repeat (refine Txt.reads (v := ?_) (by rfl) (by rfl) (by rfl) ?_ ?_; rotate_left; (focus ((intro W hSW; obtain ⟨k0, k1⟩ := unhide KE W hSW; go_simp) <;> with_reducible rfl)); simp only [Act.put, List.setIfInBounds_toArray, List.set_cons_zero, List.set_cons_succ])
    have HU := hide (wt9U (unhide D5).wr 1 [a] 1 #[.int .i64 (a)] rfl rfl (fun z hz => by simp at hz; subst hz; exact ha) (by have := (unhide D5).len; (try simp at this); omega) (by omega))
    refine Txt.acts (by rfl) (by rfl) (by rfl) (fun K hK => ?_)
    go_simp
    refine hK.out _ _ (unhide KI _ _ _ ((unhide D5).below (bA (Below.refl _ _) _))) ?_
    clear hK K
    try simp only [Act.put, List.setIfInBounds_toArray, List.set_cons_zero, List.set_cons_succ]
    refine Txt.acts (by rfl) (by rfl) (by rfl) (fun K hK => ?_)
    go_simp
    refine (unhide HU).mono ?_
    rintro e w5 ⟨er5, rfl, R2, f2⟩
    have S5 := hide ((unhide D5).step R2 f2 (pw_len 1 false [a] _))
    refine hK.out _ _ (unhide KI _ _ _ (unhide S5)) ?_
    clear hK K HU R2 f2
    refine Txt.done ?_
    clear KI KE
    go_wp2
    obtain ⟨SS, hSS⟩ : ∃ SS : World → Prop, SS = fun W' => ∃ bs' m', S9 C at0 bs' m' [(w.heap.size, #[.int .i64 at0, .int .i64 op, .int .i64 a, .int .i64 b, .slice sa sn sc], 38)] w W' := ⟨_, rfl⟩
    have KI : Hid (∀ W' bs' m', S9 C at0 bs' m' [(w.heap.size, #[.int .i64 at0, .int .i64 op, .int .i64 a, .int .i64 b, .slice sa sn sc], 38)] w W' → SS W') := fun W' bs' m' f => by rw [hSS]; exact ⟨bs', m', f⟩
    have KE : Hid (∀ W, SS W → W.cell? ⟨C.X, 0, none⟩ = some (.pointer (some ⟨C.x, 0, none⟩)) ∧ W.cell? ⟨w.heap.size, 3, none⟩ = some (.int .i64 b)) := fun W h => by
      rw [hSS] at h
      obtain ⟨_, _, h⟩ := h
      exact ⟨h.wr.cells.1, bx_cell (h.bx (w.heap.size, #[.int .i64 at0, .int .i64 op, .int .i64 a, .int .i64 b, .slice sa sn sc], 38) (by simp)) 3 _ rfl⟩
    clear hSS
    have D6 := hide ((unhide S5).below (Below.refl _ _).drew)
    refine wp_region_txt SS [6, 7] (List.range 8) (by kernel_rfl) (by kernel_rfl) (unhide KI _ _ _ (unhide D6)) ?_
    generalize hv6 : w5.drew = v6 at *
    clear hv6
    repeat (refine Txt.reads (v := ?_) (by rfl) (by rfl) (by rfl) ?_ ?_; rotate_left; (focus ((intro W hSW; obtain ⟨k0, k1⟩ := unhide KE W hSW; go_simp) <;> with_reducible rfl)); simp only [Act.put, List.setIfInBounds_toArray, List.set_cons_zero, List.set_cons_succ])
    have HU := hide (wt9S (unhide D6).wr 1 [b] 1 #[.int .i64 (b)] rfl rfl (fun z hz => by simp at hz; subst hz; exact hb) (by have := (unhide D6).len; (try simp at this); omega) (by omega))
    refine Txt.acts (by rfl) (by rfl) (by rfl) (fun K hK => ?_)
    go_simp
    refine hK.out _ _ (unhide KI _ _ _ ((unhide D6).below (bA (Below.refl _ _) _))) ?_
    clear hK K
    try simp only [Act.put, List.setIfInBounds_toArray, List.set_cons_zero, List.set_cons_succ]
    refine Txt.acts (by rfl) (by rfl) (by rfl) (fun K hK => ?_)
    go_simp
    refine (unhide HU).mono ?_
    rintro e w6 ⟨er6, rfl, R2, f2⟩
    have S6 := hide ((unhide D6).step R2 f2 (pw_len 1 true [b] _))
    refine hK.out _ _ (unhide KI _ _ _ (unhide S6)) ?_
    clear hK K HU R2 f2
    refine Txt.done ?_
    clear KI KE
    go_wp2
    go_end0
    exact unhide HEND _ at0 _ _ (unhide S6) rfl (by simp; omega) rfl
  · as_aux_lemma =>
    go_wp2
    obtain ⟨SS, hSS⟩ : ∃ SS : World → Prop, SS = fun W' => ∃ bs' m', S9 C at0 bs' m' [(w.heap.size, #[.int .i64 at0, .int .i64 op, .int .i64 a, .int .i64 b, .slice sa sn sc], 38)] w W' := ⟨_, rfl⟩
    have KI : Hid (∀ W' bs' m', S9 C at0 bs' m' [(w.heap.size, #[.int .i64 at0, .int .i64 op, .int .i64 a, .int .i64 b, .slice sa sn sc], 38)] w W' → SS W') := fun W' bs' m' f => by rw [hSS]; exact ⟨bs', m', f⟩
    have KE : Hid (∀ W, SS W → W.cell? ⟨C.X, 0, none⟩ = some (.pointer (some ⟨C.x, 0, none⟩)) ∧ W.cell? ⟨w.heap.size, 2, none⟩ = some (.int .i64 a)) := fun W h => by
      rw [hSS] at h
      obtain ⟨_, _, h⟩ := h
      exact ⟨h.wr.cells.1, bx_cell (h.bx (w.heap.size, #[.int .i64 at0, .int .i64 op, .int .i64 a, .int .i64 b, .slice sa sn sc], 38) (by simp)) 2 _ rfl⟩
    clear hSS
    have D5 := hide ((unhide S4).below (Below.refl _ _).drew)
    refine wp_region_txt SS [7, 8, 9] (List.range 10) (by kernel_rfl) (by kernel_rfl) (unhide KI _ _ _ (unhide D5)) ?_
    generalize hv5 : w4.drew = v5 at *
    clear hv5
    repeat (refine Txt.reads (v := ?_) (by rfl) (by rfl) (by rfl) ?_ ?_; rotate_left; (focus ((intro W hSW; obtain ⟨k0, k1⟩ := unhide KE W hSW; go_simp) <;> with_reducible rfl)); simp only [Act.put, List.setIfInBounds_toArray, List.set_cons_zero, List.set_cons_succ])
    refine Txt.acts (by rfl) (by rfl) (by rfl) (fun K hK => ?_)
    go_simp
    refine (h9wayTo_any C at0 _ v5 (unhide D5).wr (a)).mono ?_
    rintro e wz ⟨rfl, e1⟩
    have e1' := e1.symm
    clear e1
    subst e1'
    refine hK.out _ _ (unhide KI _ _ _ (unhide D5)) ?_
    clear hK K
    try simp only [Act.put, List.setIfInBounds_toArray, List.set_cons_zero, List.set_cons_succ]
    repeat (refine Txt.reads (v := ?_) (by rfl) (by rfl) (by rfl) ?_ ?_; rotate_left; (focus ((intro W hSW; obtain ⟨k0, k1⟩ := unhide KE W hSW; go_simp) <;> with_reducible rfl)); simp only [Act.put, List.setIfInBounds_toArray, List.set_cons_zero, List.set_cons_succ])
    have HU := hide (wt9S (unhide D5).wr 2 [way at0 a] 1 #[.int .i64 (way at0 a)] rfl rfl (fun z hz => by simp at hz; subst hz; exact way_rg _ _) (by have := (unhide D5).len; (try simp at this); omega) (by omega))
    refine Txt.acts (by rfl) (by rfl) (by rfl) (fun K hK => ?_)
    go_simp
    refine hK.out _ _ (unhide KI _ _ _ ((unhide D5).below (bA (Below.refl _ _) _))) ?_
    clear hK K
    try simp only [Act.put, List.setIfInBounds_toArray, List.set_cons_zero, List.set_cons_succ]
    refine Txt.acts (by rfl) (by rfl) (by rfl) (fun K hK => ?_)
    go_simp
    refine (unhide HU).mono ?_
    rintro e w5 ⟨er5, rfl, R2, f2⟩
    have S5 := hide ((unhide D5).step R2 f2 (pw_len 2 true [way at0 a] _))
    refine hK.out _ _ (unhide KI _ _ _ (unhide S5)) ?_
    clear hK K HU R2 f2
    refine Txt.done ?_
    clear KI KE
    go_wp2
    go_end0
    exact unhide HEND _ at0 _ _ (unhide S5) rfl (by simp; omega) rfl
  · as_aux_lemma =>
    obtain ⟨k0, k1, k2, k3, k4⟩ : w4.cell? ⟨w.heap.size, 0, none⟩ = some (.int .i64 at0) ∧ w4.cell? ⟨w.heap.size, 1, none⟩ = some (.int .i64 op) ∧ w4.cell? ⟨w.heap.size, 2, none⟩ = some (.int .i64 a) ∧ w4.cell? ⟨w.heap.size, 3, none⟩ = some (.int .i64 b) ∧ w4.cell? ⟨w.heap.size, 4, none⟩ = some (.slice sa sn sc) := ⟨bx_cell ((unhide S4).bx (w.heap.size, #[.int .i64 at0, .int .i64 op, .int .i64 a, .int .i64 b, .slice sa sn sc], 38) (by simp)) 0 _ rfl, bx_cell ((unhide S4).bx (w.heap.size, #[.int .i64 at0, .int .i64 op, .int .i64 a, .int .i64 b, .slice sa sn sc], 38) (by simp)) 1 _ rfl, bx_cell ((unhide S4).bx (w.heap.size, #[.int .i64 at0, .int .i64 op, .int .i64 a, .int .i64 b, .slice sa sn sc], 38) (by simp)) 2 _ rfl, bx_cell ((unhide S4).bx (w.heap.size, #[.int .i64 at0, .int .i64 op, .int .i64 a, .int .i64 b, .slice sa sn sc], 38) (by simp)) 3 _ rfl, bx_cell ((unhide S4).bx (w.heap.size, #[.int .i64 at0, .int .i64 op, .int .i64 a, .int .i64 b, .slice sa sn sc], 38) (by simp)) 4 _ rfl⟩
    have HX := hide (h9wtable_any C at0 _ w0 w4 (unhide HC) ((unhide HF0).trans (unhide S4).fw.below) (unhide S4).wr at0 op a b sa sn sc cs (unhide HL) (unhide HCS) ha hb (by have := (unhide S4).len; simp at this; omega))
    go_wp2_with fail
    refine (unhide HX).mono ?_
    rintro e w5 ⟨rfl, R5, f5, l5⟩
    have S5 := hide ((unhide S4).to (m2 := bs.length + 16 + 8 * sn) R5 f5 (by have := (unhide S4).len; simp at this; omega))
    clear R5 f5 l5 HX k0 k1 k2 k3 k4
    go_wp2
    go_end0
    exact unhide HEND _ at0 _ _ (unhide S5) rfl (Nat.le_refl _) rfl
  · as_aux_lemma =>
    obtain ⟨k0, k1, k2, k3, k4⟩ : w4.cell? ⟨w.heap.size, 0, none⟩ = some (.int .i64 at0) ∧ w4.cell? ⟨w.heap.size, 1, none⟩ = some (.int .i64 op) ∧ w4.cell? ⟨w.heap.size, 2, none⟩ = some (.int .i64 a) ∧ w4.cell? ⟨w.heap.size, 3, none⟩ = some (.int .i64 b) ∧ w4.cell? ⟨w.heap.size, 4, none⟩ = some (.slice sa sn sc) := ⟨bx_cell ((unhide S4).bx (w.heap.size, #[.int .i64 at0, .int .i64 op, .int .i64 a, .int .i64 b, .slice sa sn sc], 38) (by simp)) 0 _ rfl, bx_cell ((unhide S4).bx (w.heap.size, #[.int .i64 at0, .int .i64 op, .int .i64 a, .int .i64 b, .slice sa sn sc], 38) (by simp)) 1 _ rfl, bx_cell ((unhide S4).bx (w.heap.size, #[.int .i64 at0, .int .i64 op, .int .i64 a, .int .i64 b, .slice sa sn sc], 38) (by simp)) 2 _ rfl, bx_cell ((unhide S4).bx (w.heap.size, #[.int .i64 at0, .int .i64 op, .int .i64 a, .int .i64 b, .slice sa sn sc], 38) (by simp)) 3 _ rfl, bx_cell ((unhide S4).bx (w.heap.size, #[.int .i64 at0, .int .i64 op, .int .i64 a, .int .i64 b, .slice sa sn sc], 38) (by simp)) 4 _ rfl⟩
    have HX := hide (h9wsearch_any C at0 _ w0 w4 (unhide HC) ((unhide HF0).trans (unhide S4).fw.below) (unhide S4).wr at0 op a b sa sn sc cs (unhide HL) (unhide HCS) ha hb (by have := (unhide S4).len; simp at this; omega))
    go_wp2_with fail
    refine (unhide HX).mono ?_
    rintro e w5 ⟨rfl, R5, f5, l5⟩
    have S5 := hide ((unhide S4).to (m2 := bs.length + 16 + 8 * sn) R5 f5 (by have := (unhide S4).len; simp at this; omega))
    clear R5 f5 l5 HX k0 k1 k2 k3 k4
    go_wp2
    go_end0
    exact unhide HEND _ at0 _ _ (unhide S5) rfl (Nat.le_refl _) rfl
end Go.Proofs.YtpmhcignenfhgaaDoor

/- The landed code: bytesOf. -/
namespace Go.Proofs.YtpmhcignenfhgaaDoor
open Go.RowKit
set_option linter.unusedVariables false
set_option maxRecDepth 100000

def allW (l : List Ins) (bs : List UInt8) : List UInt8 := l.foldl (fun b x => insW x b) bs
theorem allW_snoc (l : List Ins) (x : Ins) (bs : List UInt8) : allW (l ++ [x]) bs = insW x (allW l bs) := by unfold allW; rw [List.foldl_append]; rfl
def sizesR (rs : List InR) : Nat := (rs.map fun r => 16 + 8 * r.s.n).sum
theorem sizesR_take {rs : List InR} {k : Nat} {r : InR} (h : rs[k]? = some r) : sizesR (rs.take (k + 1)) = sizesR (rs.take k) + (16 + 8 * r.s.n) := by
  obtain ⟨hk, e⟩ := List.getElem?_eq_some_iff.1 h
  unfold sizesR
  rw [List.take_succ_eq_append_getElem hk, e]
  simp
theorem sizesR_le (rs : List InR) (k : Nat) : sizesR (rs.take k) ≤ sizesR rs := by
  have : sizesR rs = sizesR (rs.take k) + sizesR (rs.drop k) := by
    unfold sizesR
    rw [← List.sum_append, ← List.map_append, List.take_append_drop]
  omega
theorem sizesR_ge : ∀ rs : List InR, 16 * rs.length ≤ sizesR rs
  | [] => Nat.zero_le _
  | r :: rs => by
    have := sizesR_ge rs
    unfold sizesR at *
    simp only [List.map_cons, List.sum_cons, List.length_cons]
    omega
/-- An instruction that may be handed in. -/
structure InArg (w : World) (r : InR) : Prop where
  ls : Ls 2 cac w r.s.a r.s.n r.x.cs
  cs : ∀ c ∈ r.x.cs, Rg c.key ∧ Rg c.to_
  op : Rg r.x.op
  a : Rg r.x.a
  b : Rg r.x.b
set_option maxHeartbeats 1600000 in
theorem h9bytesOf_any (w : World) (a : Option Addr) (n c : Nat) (rs : List InR) (hL : Ls 5 inc w a n rs) (hI : ∀ r ∈ rs, InArg w r) (hs : sizesR rs ≤ 10000000000000) (hT : Tab9 w) :
    Calls Tryd.prog 29 #[.slice a n c] w fun e w' => ∃ v, e = .returned v ∧ w'.ownsRow w.heap.size 5 1 v (allW (rs.map InR.x) []).length (bv (allW (rs.map InR.x) [])) ∧ (allW (rs.map InR.x) []).length ≤ sizesR rs ∧ Below w.heap.size w w' := by
  have hln := hL.1
  have HL := hide hL
  have HI := hide hI
  have HT := hide hT
  have HM := hide (eMake_any w)
  have hnb : n ≤ 10000000000000 := by have := sizesR_ge rs; omega
  have h2 : 2 ≤ w.heap.size := by obtain ⟨t, fr, hh⟩ := hT; have := lt_of_heap hh; omega
  clear hL hI hT
  go_enter Tryd.func29, Tryd.ntmps29
  go_wp2_with fail
  refine (unhide HM).mono ?_
  rintro e w1 ⟨x, F, rfl, r1, f1⟩
  have H1 := hide (And.intro r1 f1)
  clear r1 f1 HM
  obtain ⟨C, hC⟩ : ∃ C : Cw9, C = ⟨w1.heap.size, x, w.heap.size⟩ := ⟨_, rfl⟩
  have W0 : Hid (Wr9 C 0 [] (w1.alloc (.cells #[.pointer (some ⟨x, 0, none⟩), .int .i64 0] 83)) ∧ Below w.heap.size w (w1.alloc (.cells #[.pointer (some ⟨x, 0, none⟩), .int .i64 0] 83))) := by
    obtain ⟨⟨y, c1, hF, sp⟩, f1⟩ := unhide H1
    have b2 : Below w1.heap.size w1 (w1.alloc (.cells #[.pointer (some ⟨x, 0, none⟩), .int .i64 0] 83)) := bA (Below.refl _ _) _
    rw [hC]
    refine ⟨⟨⟨F, ⟨y, c1, hF, sp.keep (b2.block _ sp.xlt) (b2.block _ sp.y.2)⟩, fun h => ?_⟩, f1.size, heap_alloc_last _ _⟩, f1.trans (b2.mono f1.size)⟩
    rw [hF] at h
    have h1 := sp.xlt
    have h2 := sp.y.2
    simp only at h
    rcases h with h | h <;> omega
  have hCX : C.X = w1.heap.size := by rw [hC]
  have hCB : C.B = w.heap.size := by rw [hC]
  have hCx : C.x = x := by rw [hC]
  have HCC := hide (And.intro hCX (And.intro hCB hCx))
  go_wp2
  rw [← hCX, ← hCx]
  rw [← hCx] at W0
  generalize w1.alloc (.cells #[.pointer (some ⟨C.x, 0, none⟩), .int .i64 0] 83) = w2 at *
  clear hC hCX hCB hCx H1
  go_loopw [11] (fun vk W => ∃ (k : Nat) (bg : Int), k ≤ n ∧ vk = .int .i64 k ∧ Wr9 C bg (allW ((rs.take k).map InR.x) []) W ∧ Below w.heap.size w W ∧ (allW ((rs.take k).map InR.x) []).length ≤ sizesR (rs.take k)) (fun vk _ => n - (intOf vk).toNat)
  case atStart => exact ⟨0, 0, by omega, rfl, (unhide W0).1, (unhide W0).2, Nat.zero_le _⟩
  case round =>
    obtain ⟨k, bg, hk, rfl, hW, hF, hl⟩ := hrel
    have hCB := (unhide HCC).2.1
    by_cases hlt : k < n
    · have hlt1 : (k : Int) < (n : Int) := by omega
      obtain ⟨b1, o1, h1a, h1⟩ := Ls.row (unhide HL) (w' := wr) (by omega)
      subst h1a
      obtain ⟨r, hr⟩ : ∃ r, rs[k]? = some r := ⟨_, List.getElem?_eq_getElem (by omega)⟩
      have g := h1 hF k r hr
      have c0 := g.zero
      have c1 := g 1 _ rfl
      have c2 := g 2 _ rfl
      have c3 := g 3 _ rfl
      have c4 := g 4 _ rfl
      have hin := unhide HI r (List.mem_of_getElem? hr)
      have hst := sizesR_take hr
      have hle := sizesR_le rs (k + 1)
      have hmap : (rs.take (k + 1)).map InR.x = (rs.take k).map InR.x ++ [r.x] := by
        obtain ⟨hk', e⟩ := List.getElem?_eq_some_iff.1 hr
        rw [List.take_succ_eq_append_getElem hk', e]
        simp
      obtain ⟨⟨at0, op, a', b', cs⟩, ⟨sa, sn, sc⟩⟩ := r
      have b3 : Below wr.heap.size wr (wr.alloc (.cells #[.int .i64 at0, .int .i64 op, .int .i64 a', .int .i64 b', .slice sa sn sc] 38)) := bA (Below.refl _ _) _
      have F3 : Below w.heap.size w (wr.alloc (.cells #[.int .i64 at0, .int .i64 op, .int .i64 a', .int .i64 b', .slice sa sn sc] 38)) := bA hF _
      have HX := hide (h9winstr_any C bg _ w _ hCB.symm (by rw [hCB]; exact F3) (hW.below b3) ((unhide HT).below F3) (by rw [hCB]; exact h2) at0 op a' b' sa sn sc cs hin.ls hin.cs hin.op hin.a hin.b (by simp only at hst; omega))
      have HY := hide (And.intro F3 (And.intro hl (And.intro hst hmap)))
      unfold Sl.v at c4
      simp only at c0 c1 c2 c3 c4
      clear h1 g hr hin b3 F3 hW hF hl hst hmap hle hCB
      go_wp2_with fail
      refine (unhide HX).mono ?_
      rintro e w4 ⟨rfl, R4, f4, l4⟩
      obtain ⟨F3, hl, hst, hmap⟩ := unhide HY
      have HZ : Hid (Wr9 C at0 (allW ((rs.take (k + 1)).map InR.x) []) w4 ∧ Below w.heap.size w w4 ∧ (allW ((rs.take (k + 1)).map InR.x) []).length ≤ sizesR (rs.take (k + 1))) := by
        have h4 := f4.below
        rw [(unhide HCC).2.1] at h4
        rw [show (rs.take (k + 1)).map InR.x = _ from hmap, allW_snoc]
        refine ⟨R4, F3.trans h4, ?_⟩
        (try simp only at hst)
        omega
      clear R4 f4 l4 F3 hl hst hmap HX HY c0 c1 c2 c3 c4
      go_wp2
      go_roundw
      case rel => exact ⟨k + 1, at0, by omega, by go_num, unhide HZ⟩
      case measure => simp [intOf]; omega
    · obtain rfl : k = n := by omega
      have htk : rs.take k = rs := List.take_of_length_le (by omega)
      rw [htk] at hW hl
      obtain ⟨F', hF', _⟩ := hW.wr
      have HA := hide (eAll_any F' wr C.B C.x _ hF' (by omega))
      have c0 := hW.cells.1
      have HF := hide hF
      clear hW hF htk hCB
      go_wp2_with fail
      refine (unhide HA).mono ?_
      rintro e w4 ⟨v, rfl, o4, f4⟩
      have HE : Hid (w4.ownsRow w.heap.size 5 1 v (allW (rs.map InR.x) []).length (bv (allW (rs.map InR.x) [])) ∧ Below w.heap.size w w4) := ⟨own_base o4 (unhide HF).size, (unhide HF).trans (f4.mono (unhide HF).size)⟩
      clear o4 f4 HA
      go_wp2
      go_ret
      exact ⟨v, rfl, (unhide HE).1, hl, (unhide HE).2⟩
end Go.Proofs.YtpmhcignenfhgaaDoor
