/- Joined: PkR PkS PkT PkU PkV. -/
import Derived.Test.YthhdfokcciibmaaGreatDoorJC
import Derived.Test.YthhdfokcciibmaaGreatDoorJG
import Derived.Test.YthhdfokcciibmaaGreatDoorJA
import Derived.Test.YthhdfokcciibmaaGreatDoorJH
import Derived.Test.YthhdfokcciibmaaGreatDoorJF
import Derived.Laws.ResultCell

/- The landed pool: a reader while a pool is read; readText, readTwo. -/
namespace Go.Proofs.YthhdfokcciibmaaGreatDoor
open Go.RowKit
set_option linter.unusedVariables false

theorem krd_lt {F : Nat → Prop} {w : World} {B x : Nat} {bs : List UInt8} {i : Nat} (h : RD F w B x bs i) : ∀ k, F k → B ≤ k ∧ k < w.heap.size := by
  obtain ⟨y, c, rfl, h⟩ := h
  intro k hk
  rcases hk with rfl | rfl
  · exact ⟨h.hx, h.xlt⟩
  · exact h.y
theorem krd_below {F : Nat → Prop} {w w' : World} {B x : Nat} {bs : List UInt8} {i : Nat} (h : RD F w B x bs i) (f : Below w.heap.size w w') : RD F w' B x bs i := by
  obtain ⟨y, c, rfl, h⟩ := h
  exact ⟨y, c, rfl, h.below f⟩
theorem kfr2_trans {F F1 : Nat → Prop} {B : Nat} {w w1 w2 : World} (f1 : Fr6 F B w w1) (f2 : Fr6 F1 B w1 w2) (hF : ∀ k, F1 k → F k ∨ w.heap.size ≤ k) : Fr6 F B w w2 :=
  ⟨f1.below.trans f2.below, fun k hk hn => (f2.other k (Nat.lt_of_lt_of_le hk f1.below.size) (fun h => (hF k h).elim hn (fun h => by omega))).trans (f1.other k hk hn)⟩
/-- A reader of bs at i, since w0. -/
structure RS (F0 : Nat → Prop) (w0 : World) (B x : Nat) (bs : List UInt8) (i : Nat) (W : World) : Prop where
  ex : ∃ F, RD F W B x bs i ∧ ∀ j, F j → F0 j ∨ w0.heap.size ≤ j
  fr : Fr6 F0 B w0 W
  kp : Kx x w0 W
theorem RS.start {F0 : Nat → Prop} {w : World} {B x : Nat} {bs : List UInt8} {i : Nat} (h : RD F0 w B x bs i) : RS F0 w B x bs i w := ⟨⟨F0, h, fun j hj => .inl hj⟩, ⟨Below.refl _ _, fun _ _ _ => rfl⟩, fun _ _ _ => rfl⟩
theorem RS.below {F0 : Nat → Prop} {w0 W W' : World} {B x : Nat} {bs : List UInt8} {i : Nat} (h : RS F0 w0 B x bs i W) (hB : B ≤ w0.heap.size) (f : Below W.heap.size W W') : RS F0 w0 B x bs i W' := by
  obtain ⟨F, h1, h2⟩ := h.ex
  exact ⟨⟨F, krd_below h1 f, h2⟩, kfr2_trans (F1 := fun _ => False) h.fr (Fr6.of_below f (Nat.le_trans hB h.fr.below.size)) (fun k hk => hk.elim), fun k hk hx => (f.block k (Nat.lt_of_lt_of_le hk h.fr.below.size)).trans (h.kp k hk hx)⟩
theorem RS.next {F0 F F' : Nat → Prop} {w0 W W' : World} {B x : Nat} {bs : List UInt8} {i i' : Nat} (h : RS F0 w0 B x bs i W) (hF : ∀ j, F j → F0 j ∨ w0.heap.size ≤ j) (h1 : RD F' W' B x bs i') (h2 : ∀ j, F' j → F j ∨ W.heap.size ≤ j) (f : Fr6 F B W W') (kx : Kx x W W') : RS F0 w0 B x bs i' W' :=
  ⟨⟨F', h1, fun j hj => (h2 j hj).elim (fun e => hF j e) (fun e => .inr (Nat.le_trans h.fr.below.size e))⟩, kfr2_trans h.fr f hF, fun k hk hx => (kx k (Nat.lt_of_lt_of_le hk h.fr.below.size) hx).trans (h.kp k hk hx)⟩
theorem RS.leave {F0 F : Nat → Prop} {w0 w w1 W : World} {B x : Nat} {bs : List UInt8} {i i' : Nat} (h : RS F0 w0 B x bs i w) (hB : B ≤ w0.heap.size) (hF : ∀ j, F j → F0 j ∨ w0.heap.size ≤ j) (b : Below w.heap.size w w1) (g : RS F w1 B x bs i' W) : RS F0 w0 B x bs i' W := by
  obtain ⟨F', h1, h2⟩ := g.ex
  have hs := h.fr.below.size
  exact ⟨⟨F', h1, fun j hj => (h2 j hj).elim (fun e => hF j e) (fun e => .inr (Nat.le_trans hs (Nat.le_trans b.size e)))⟩, kfr2_trans h.fr (kfr2_trans (Fr6.of_below b (Nat.le_trans hB hs)) g.fr (fun k hk => .inl hk)) hF, fun k hk hx => (g.kp k (Nat.lt_of_lt_of_le hk (Nat.le_trans hs b.size)) hx).trans ((b.block k (Nat.lt_of_lt_of_le hk hs)).trans (h.kp k hk hx))⟩
theorem rs_u {F0 : Nat → Prop} {w0 W : World} {B x : Nat} {bs : List UInt8} {i : Nat} (h : RS F0 w0 B x bs i W) (k : Int) (hs : bs.length ≤ 140737488351232) (hi : i ≤ bs.length) (hk : -9223372036854775808 ≤ k ∧ k ≤ 9223372036854775807) :
    Calls Tryz.prog 145 #[.pointer (some ⟨x, 0, none⟩), .int .i64 k] W fun e w' => e = .returned (.tuple #[.int .i64 (getW bs i k false).1, .int .i64 (getW bs i k false).2.1]) ∧ RS F0 w0 B x bs (getW bs i k false).2.2 w' := by
  obtain ⟨F, h1, h2⟩ := h.ex
  refine (dU_all F W B x bs i k h1 hs hi hk).mono ?_
  rintro e w' ⟨rfl, ⟨F', r1, r2⟩, r3, r4⟩
  exact ⟨rfl, h.next h2 r1 r2 r3 r4⟩
theorem rs_s {F0 : Nat → Prop} {w0 W : World} {B x : Nat} {bs : List UInt8} {i : Nat} (h : RS F0 w0 B x bs i W) (k : Int) (hs : bs.length ≤ 140737488351232) (hi : i ≤ bs.length) (hk : -9223372036854775808 ≤ k ∧ k ≤ 9223372036854775807) :
    Calls Tryz.prog 165 #[.pointer (some ⟨x, 0, none⟩), .int .i64 k] W fun e w' => e = .returned (.tuple #[.int .i64 (getW bs i k true).1, .int .i64 (getW bs i k true).2.1]) ∧ RS F0 w0 B x bs (getW bs i k true).2.2 w' := by
  obtain ⟨F, h1, h2⟩ := h.ex
  refine (dS_all F W B x bs i k h1 hs hi hk).mono ?_
  rintro e w' ⟨rfl, ⟨F', r1, r2⟩, r3, r4⟩
  exact ⟨rfl, h.next h2 r1 r2 r3 r4⟩
theorem rs_bytes {F0 : Nat → Prop} {w0 W : World} {B x : Nat} {bs : List UInt8} {i : Nat} (h : RS F0 w0 B x bs i W) (n : Int) (hs : bs.length ≤ 140737488351232) (hi : i ≤ bs.length) (hn : -9223372036854775808 ≤ n ∧ n ≤ 9223372036854775807) :
    Calls Tryz.prog 154 #[.pointer (some ⟨x, 0, none⟩), .int .i64 n] W fun e w' => ∃ a c, e = .returned (.tuple #[.slice a (takeW bs i n).1.length c, .int .i64 (takeW bs i n).2.1]) ∧ BytesAt w' a (takeW bs i n).1 ∧ RS F0 w0 B x bs (takeW bs i n).2.2 w' := by
  obtain ⟨F, h1, h2⟩ := h.ex
  refine (dBytes_all F W B x bs i n h1 hs hi hn).mono ?_
  rintro e w' ⟨v, rfl, o, ⟨F', r1, r2, _⟩, r3, r4⟩
  obtain ⟨a, c, rfl, _⟩ := own_form o
  exact ⟨a, c, rfl, own_bytes o, h.next h2 r1 r2 r3 r4⟩

/-- The text that comes, behind its length. -/
def textR (bs : List UInt8) (i : Nat) : List UInt8 × Int × Nat :=
  if (getW bs i 2 false).2.1 ≠ 0 then ([], (getW bs i 2 false).2) else takeW bs (getW bs i 2 false).2.2 (getW bs i 2 false).1
/-- Two numbers that come. -/
def twoR (bs : List UInt8) (i : Nat) : Int × Int × Int × Nat :=
  if (getW bs i 2 false).2.1 ≠ 0 then (0, 0, (getW bs i 2 false).2) else ((getW bs i 2 false).1, (getW bs (getW bs i 2 false).2.2 2 false).1, (getW bs (getW bs i 2 false).2.2 2 false).2)
theorem kgetW_rng {b : List UInt8} {i : Nat} {k : Int} {sg : Bool} : -9223372036854775808 ≤ (getW b i k sg).1 ∧ (getW b i k sg).1 ≤ 9223372036854775807 := by
  unfold getW
  split
  · rename_i hw
    split
    · show (-9223372036854775808 : Int) ≤ 0 ∧ (0 : Int) ≤ _
      omega
    · cases hv : valW ((b.drop i).take k.toNat) sg with
      | none =>
        show (-9223372036854775808 : Int) ≤ 0 ∧ (0 : Int) ≤ _
        omega
      | some n =>
        show (-9223372036854775808 : Int) ≤ n ∧ n ≤ _
        have hlt := numB_lt ((b.drop i).take k.toNat)
        have hl : ((b.drop i).take k.toNat).length ≤ k.toNat := by rw [List.length_take]; omega
        unfold valW at hv
        split at hv
        · rename_i h8
          rw [h8] at hlt
          split at hv
          · injection hv with hv
            split at hv <;> omega
          · split at hv
            · injection hv with hv
              omega
            · cases hv
        · rename_i h8
          have h7 : ((b.drop i).take k.toNat).length ≤ 7 := by
            obtain ⟨m, rfl, hm⟩ := wide_nat hw
            omega
          have hp := Nat.pow_le_pow_right (n := 256) (by omega) h7
          split at hv
          · injection hv with hv
            omega
          · injection hv with hv
            omega
  · show (-9223372036854775808 : Int) ≤ 0 ∧ (0 : Int) ≤ _
    omega

set_option maxHeartbeats 1600000 in
theorem kreadText_any (F0 : Nat → Prop) (w0 w : World) (B x : Nat) (bs : List UInt8) (i : Nat) (h : RS F0 w0 B x bs i w) (hs : bs.length ≤ 140737488351232) (hi : i ≤ bs.length) :
    Calls Tryz.prog 164 #[.pointer (some ⟨x, 0, none⟩)] w fun e w' => e = .returned (.tuple #[.string ⟨(textR bs i).1.toArray⟩, .int .i64 (textR bs i).2.1]) ∧ RS F0 w0 B x bs (textR bs i).2.2 w' := by
  have HU := hide (rs_u h 2 hs hi (by omega))
  have hle : (getW bs i 2 false).2.2 ≤ bs.length := getW_le hi
  have hrg : -9223372036854775808 ≤ (getW bs i 2 false).1 ∧ (getW bs i 2 false).1 ≤ 9223372036854775807 := kgetW_rng
  by_cases h0 : (getW bs i 2 false).2.1 = 0
  · have e1 : Hid (textR bs i = takeW bs (getW bs i 2 false).2.2 (getW bs i 2 false).1) := if_neg (by rw [h0]; simp)
    rw [h0] at HU
    generalize (getW bs i 2 false).1 = m at *
    generalize (getW bs i 2 false).2.2 = j at *
    clear h h0
    go_enter Tryz.func164, Tryz.ntmps164
    go_wp2_with fail
    refine (unhide HU).mono ?_
    rintro e w1 ⟨rfl, S1⟩
    have HB := hide (rs_bytes S1 m hs hle hrg)
    clear S1 HU
    go_wp2_with fail
    refine (unhide HB).mono ?_
    rintro e w2 ⟨a, c, rfl, hb, S2⟩
    have hcv := conv_bytes w2 a (takeW bs j m).1 c hb
    have SS2 := hide S2
    clear HB hb S2
    generalize takeW bs j m = R at *
    obtain ⟨R1, R2, R3⟩ := R
    simp only at hcv SS2 ⊢
    generalize hl : R1.length = L at *
    generalize hst : (⟨R1.toArray⟩ : ByteArray) = st at *
    have HST := hide hst
    clear hl hst
    go_wp2
    go_ret2
    rw [unhide e1]
    exact ⟨by rw [unhide HST]; rfl, unhide SS2⟩
  · have e1 : Hid (textR bs i = ([], (getW bs i 2 false).2)) := if_pos h0
    have hne : ((getW bs i 2 false).2.1 == 0) = false := by simpa using h0
    have hne' : ((getW bs i 2 false).2.1 != 0) = true := by simpa using h0
    generalize getW bs i 2 false = R at *
    obtain ⟨R1, R2, R3⟩ := R
    simp only at HU hne hne' e1
    clear h h0
    go_enter Tryz.func164, Tryz.ntmps164
    go_wp2_with fail
    refine (unhide HU).mono ?_
    rintro e w1 ⟨rfl, S1⟩
    have SS1 := hide S1
    clear S1 HU
    go_wp2
    go_ret2
    rw [unhide e1]
    exact ⟨rfl, unhide SS1⟩

set_option maxHeartbeats 1600000 in
theorem kreadTwo_any (F0 : Nat → Prop) (w0 w : World) (B x : Nat) (bs : List UInt8) (i : Nat) (h : RS F0 w0 B x bs i w) (hs : bs.length ≤ 140737488351232) (hi : i ≤ bs.length) :
    Calls Tryz.prog 166 #[.pointer (some ⟨x, 0, none⟩)] w fun e w' => e = .returned (.tuple #[.int .i64 (twoR bs i).1, .int .i64 (twoR bs i).2.1, .int .i64 (twoR bs i).2.2.1]) ∧ RS F0 w0 B x bs (twoR bs i).2.2.2 w' := by
  have HU := hide (rs_u h 2 hs hi (by omega))
  have hle : (getW bs i 2 false).2.2 ≤ bs.length := getW_le hi
  by_cases h0 : (getW bs i 2 false).2.1 = 0
  · have e1 : Hid (twoR bs i = ((getW bs i 2 false).1, (getW bs (getW bs i 2 false).2.2 2 false).1, (getW bs (getW bs i 2 false).2.2 2 false).2)) := if_neg (by rw [h0]; simp)
    rw [h0] at HU
    generalize (getW bs i 2 false).1 = m at *
    generalize (getW bs i 2 false).2.2 = j at *
    clear h h0
    go_enter Tryz.func166, Tryz.ntmps166
    go_wp2_with fail
    refine (unhide HU).mono ?_
    rintro e w1 ⟨rfl, S1⟩
    have HB := hide (rs_u S1 2 hs hle (by omega))
    clear S1 HU
    generalize getW bs j 2 false = R at *
    obtain ⟨R1, R2, R3⟩ := R
    simp only at HB e1
    go_wp2_with fail
    refine (unhide HB).mono ?_
    rintro e w2 ⟨rfl, S2⟩
    have SS2 := hide S2
    clear HB S2
    go_wp2
    go_ret3
    rw [unhide e1]
    exact ⟨rfl, unhide SS2⟩
  · have e1 : Hid (twoR bs i = (0, 0, (getW bs i 2 false).2)) := if_pos h0
    have hne : ((getW bs i 2 false).2.1 == 0) = false := by simpa using h0
    have hne' : ((getW bs i 2 false).2.1 != 0) = true := by simpa using h0
    generalize getW bs i 2 false = R at *
    obtain ⟨R1, R2, R3⟩ := R
    simp only at HU hne hne' e1
    clear h h0
    go_enter Tryz.func166, Tryz.ntmps166
    go_wp2_with fail
    refine (unhide HU).mono ?_
    rintro e w1 ⟨rfl, S1⟩
    have SS1 := hide S1
    clear S1 HU
    go_wp2
    go_ret3
    rw [unhide e1]
    exact ⟨rfl, unhide SS1⟩

end Go.Proofs.YthhdfokcciibmaaGreatDoor

/- The landed pool: readEntry. -/
namespace Go.Proofs.YthhdfokcciibmaaGreatDoor
open Go.RowKit
set_option linter.unusedVariables false

theorem krd_keep {F : Nat → Prop} {w w' : World} {B x : Nat} {bs : List UInt8} {i : Nat} (h : RD F w B x bs i) (hk : ∀ k, F k → w'.heap[k]? = w.heap[k]?) : RD F w' B x bs i := by
  obtain ⟨y, c, rfl, h⟩ := h
  exact ⟨y, c, rfl, h.keep (hk x (.inl rfl)) (hk y (.inr rfl))⟩
/-- A reader beside two blocks of one's own. -/
structure RE (F : Nat → Prop) (w : World) (B x : Nat) (bs : List UInt8) (i R X : Nat) (W : World) : Prop where
  ex : ∃ F3, RD F3 W B x bs i ∧ ¬ F3 R ∧ ¬ F3 X ∧ ∀ j, F3 j → F j ∨ w.heap.size ≤ j
  fr : Fr6 F B w W
  kp : Kx x w W
theorem RE.set {F : Nat → Prop} {w W : World} {B x : Nat} {bs : List UInt8} {i R X : Nat} (h : RE F w B x bs i R X W) (hB : B ≤ w.heap.size) (Y j : Nat) (u : Value) (hY : Y = R ∨ Y = X) (hw : w.heap.size ≤ Y) : RE F w B x bs i R X (W.setCell ⟨Y, j, none⟩ u) := by
  obtain ⟨F3, h1, h2, h3, h4⟩ := h.ex
  have hn : ¬ F3 Y := by rcases hY with rfl | rfl <;> assumption
  have hset : ∀ k, k ≠ Y → (W.setCell ⟨Y, j, none⟩ u).heap[k]? = W.heap[k]? := fun k hk => Below.heap_setCell _ _ _ _ hk
  exact ⟨⟨F3, krd_keep h1 (fun k hk => hset k (fun e => hn (e ▸ hk))), h2, h3, h4⟩, ⟨h.fr.below.setCell (p := ⟨Y, j, none⟩) (Nat.le_trans hB hw) _, fun k hk hF => (hset k (by omega)).trans (h.fr.other k hk hF)⟩, fun k hk hx => (hset k (by omega)).trans (h.kp k hk hx)⟩
theorem RE.done {F : Nat → Prop} {w W : World} {B x : Nat} {bs : List UInt8} {i R X : Nat} (h : RE F w B x bs i R X W) : RS F w B x bs i W := by
  obtain ⟨F3, h1, h2, h3, h4⟩ := h.ex
  exact ⟨⟨F3, h1, h4⟩, h.fr, h.kp⟩
theorem RE.five {F : Nat → Prop} {w W : World} {B x : Nat} {bs : List UInt8} {i R X : Nat} (h : RE F w B x bs i R X W) (hB : B ≤ w.heap.size) (hw : w.heap.size ≤ R) (c0 c1 c2 c3 c4 : Value) :
    RE F w B x bs i R X (((((W.setCell ⟨R, 0, none⟩ c0).setCell ⟨R, 1, none⟩ c1).setCell ⟨R, 2, none⟩ c2).setCell ⟨R, 3, none⟩ c3).setCell ⟨R, 4, none⟩ c4) :=
  ((((h.set hB R 0 c0 (.inl rfl) hw).set hB R 1 c1 (.inl rfl) hw).set hB R 2 c2 (.inl rfl) hw).set hB R 3 c3 (.inl rfl) hw).set hB R 4 c4 (.inl rfl) hw
theorem kent_results {fn : Func} {p u : Tmp} (h : fn.results = #[.cell p 55, .tmp u]) (W : World) (r : Nat) (cs : Array Value) (hs : cs.size = 5) (hb : W.heap[r]? = some (.cells cs 55 (0, 0))) (tmps : Array Value) (hp : tmps.getD p undef = .pointer (some ⟨r, 0, none⟩)) :
    (results fn tmps).run Tryz.prog W = .ok (.tuple #[.agg cs, tmps.getD u undef]) W := by
  rw [results_cell_tmp h, hp]
  simp [asAddr, run_loadVar_row W r 55 55 _ (0, 0) _ hb Tryz.underlying55 rfl (by rw [hs]; exact sizeEnt)]
theorem getW_zero {bs : List UInt8} {i : Nat} {k : Int} {sg : Bool} (h : (getW bs i k sg).2.1 ≠ 0) : (getW bs i k sg).1 = 0 := by
  unfold getW at h ⊢
  split
  · rename_i h1
    rw [if_pos h1] at h
    split
    · rfl
    · rename_i h2
      rw [if_neg h2] at h
      split
      · rfl
      · rename_i n hn
        rw [hn] at h
        exact absurd rfl h
  · rfl
theorem entR_1 {bs : List UInt8} {i : Nat} (h0 : (getW bs i 1 false).2.1 = 0) (ht : (getW bs i 1 false).1 = 1) : entR bs i = (⟨1, (textR bs (getW bs i 1 false).2.2).1, 0, 0, 0⟩, (textR bs (getW bs i 1 false).2.2).2) := by
  unfold entR
  simp only
  rw [if_neg (by rw [h0]; simp), ht]
  rw [if_pos rfl]
  unfold textR
  split
  · rfl
  · rfl
theorem entR_3 {bs : List UInt8} {i : Nat} (h0 : (getW bs i 1 false).2.1 = 0) (ht : (getW bs i 1 false).1 = 3) : entR bs i = (⟨3, [], (getW bs (getW bs i 1 false).2.2 4 true).1, 0, 0⟩, (getW bs (getW bs i 1 false).2.2 4 true).2) := by
  unfold entR
  simp only
  rw [if_neg (by rw [h0]; simp), ht]
  rw [if_neg (by decide), if_pos rfl]
theorem entR_5 {bs : List UInt8} {i : Nat} (h0 : (getW bs i 1 false).2.1 = 0) (ht : (getW bs i 1 false).1 = 5) : entR bs i = (⟨5, [], (getW bs (getW bs i 1 false).2.2 8 true).1, 0, 0⟩, (getW bs (getW bs i 1 false).2.2 8 true).2) := by
  unfold entR
  simp only
  rw [if_neg (by rw [h0]; simp), ht]
  rw [if_neg (by decide), if_neg (by decide), if_pos rfl]
theorem entR_7 {bs : List UInt8} {i : Nat} (h0 : (getW bs i 1 false).2.1 = 0) (ht : (getW bs i 1 false).1 = 7) : entR bs i = (⟨7, [], 0, (getW bs (getW bs i 1 false).2.2 2 false).1, 0⟩, (getW bs (getW bs i 1 false).2.2 2 false).2) := by
  unfold entR
  simp only
  rw [if_neg (by rw [h0]; simp), ht]
  rw [if_neg (by decide), if_neg (by decide), if_neg (by decide), if_pos rfl]
theorem entR_9 {bs : List UInt8} {i : Nat} (h0 : (getW bs i 1 false).2.1 = 0) (ht : (getW bs i 1 false).1 = 9) : entR bs i = (⟨9, [], 0, (twoR bs (getW bs i 1 false).2.2).1, (twoR bs (getW bs i 1 false).2.2).2.1⟩, (twoR bs (getW bs i 1 false).2.2).2.2) := by
  unfold entR
  simp only
  rw [if_neg (by rw [h0]; simp), ht]
  rw [if_neg (by decide), if_neg (by decide), if_neg (by decide), if_neg (by decide), if_pos (by decide)]
  unfold twoR
  by_cases h1 : (getW bs (getW bs i 1 false).2.2 2 false).2.1 ≠ 0
  · rw [if_pos h1, if_pos h1, getW_zero h1]
  · rw [if_neg h1, if_neg h1]
theorem entR_10 {bs : List UInt8} {i : Nat} (h0 : (getW bs i 1 false).2.1 = 0) (ht : (getW bs i 1 false).1 = 10) : entR bs i = (⟨10, [], 0, (twoR bs (getW bs i 1 false).2.2).1, (twoR bs (getW bs i 1 false).2.2).2.1⟩, (twoR bs (getW bs i 1 false).2.2).2.2) := by
  unfold entR
  simp only
  rw [if_neg (by rw [h0]; simp), ht]
  rw [if_neg (by decide), if_neg (by decide), if_neg (by decide), if_neg (by decide), if_pos (by decide)]
  unfold twoR
  by_cases h1 : (getW bs (getW bs i 1 false).2.2 2 false).2.1 ≠ 0
  · rw [if_pos h1, if_pos h1, getW_zero h1]
  · rw [if_neg h1, if_neg h1]
theorem entR_12 {bs : List UInt8} {i : Nat} (h0 : (getW bs i 1 false).2.1 = 0) (ht : (getW bs i 1 false).1 = 12) : entR bs i = (⟨12, [], 0, (twoR bs (getW bs i 1 false).2.2).1, (twoR bs (getW bs i 1 false).2.2).2.1⟩, (twoR bs (getW bs i 1 false).2.2).2.2) := by
  unfold entR
  simp only
  rw [if_neg (by rw [h0]; simp), ht]
  rw [if_neg (by decide), if_neg (by decide), if_neg (by decide), if_neg (by decide), if_pos (by decide)]
  unfold twoR
  by_cases h1 : (getW bs (getW bs i 1 false).2.2 2 false).2.1 ≠ 0
  · rw [if_pos h1, if_pos h1, getW_zero h1]
  · rw [if_neg h1, if_neg h1]
set_option maxHeartbeats 3200000 in
set_option maxRecDepth 100000 in
theorem kreadEntry_bad (F : Nat → Prop) (w : World) (B x : Nat) (bs : List UInt8) (i : Nat) (h : RD F w B x bs i) (hB : B ≤ w.heap.size) (hs : bs.length ≤ 140737488351232) (hi : i ≤ bs.length) (h0 : (getW bs i 1 false).2.1 ≠ 0) :
    Calls Tryz.prog 153 #[.pointer (some ⟨x, 0, none⟩)] w fun e w' => e = .returned (.tuple #[entV (entR bs i).1, .int .i64 (entR bs i).2.1]) ∧ RS F w B x bs (entR bs i).2.2 w' := by
  have hle : (getW bs i 1 false).2.2 ≤ bs.length := getW_le hi
  have b0 : Below w.heap.size w (w.alloc (.cells #[.int .i64 0, .string ⟨#[]⟩, .int .i64 0, .int .i64 0, .int .i64 0] 55)) := (Below.refl _ _).alloc (Nat.le_refl _) _
  have hl0 := heap_alloc_last w (.cells #[.int .i64 0, .string ⟨#[]⟩, .int .i64 0, .int .i64 0, .int .i64 0] 55)
  have hFl := krd_lt h
  have HU := hide (rs_u (RS.start (krd_below h b0)) 1 hs hi (by omega))
  have SW := hide (RS.start h)
  have HR0 := hide hl0
  have B0 := hide b0
  have hB0 : B ≤ (w.alloc (.cells #[.int .i64 0, .string ⟨#[]⟩, .int .i64 0, .int .i64 0, .int .i64 0] 55)).heap.size := Nat.le_trans hB b0.size
  have e1 : Hid (entR bs i = (ent0, (getW bs i 1 false).2)) := by
    show entR bs i = _
    unfold entR
    simp only
    rw [if_pos h0, getW_zero h0]
    rfl
  have hne : ((getW bs i 1 false).2.1 == 0) = false := by simpa using h0
  have hne' : ((getW bs i 1 false).2.1 != 0) = true := by simpa using h0
  generalize getW bs i 1 false = G at *
  obtain ⟨G1, G2, G3⟩ := G
  simp only at HU hne hne' e1 h0
  clear h0
  clear b0 hl0 h
  go_enter Tryz.func153, Tryz.ntmps153
  go_wp2_with fail
  generalize w.alloc (.cells #[.int .i64 0, .string ⟨#[]⟩, .int .i64 0, .int .i64 0, .int .i64 0] 55) = w0 at *
  refine (unhide HU).mono ?_
  rintro e w1 ⟨rfl, S1⟩
  obtain ⟨F1, r1, h1⟩ := S1.ex
  have hRw : w.heap.size < w0.heap.size := lt_of_heap (unhide HR0)
  have hR1 : ¬ F1 w.heap.size := fun hh => by
    rcases h1 _ hh with e | e
    · have := (hFl _ e).2
      omega
    · omega
  have hrb1 : w1.heap[w.heap.size]? = some (.cells #[.int .i64 0, .string ⟨#[]⟩, .int .i64 0, .int .i64 0, .int .i64 0] 55 (0, 0)) := (S1.fr.other _ hRw (fun e => by have := (hFl _ e).2; omega)).trans (unhide HR0)
  have hw1 : w0.heap.size ≤ w1.heap.size := S1.fr.below.size
  have F1l := krd_lt r1
  have RE1 : Hid (RE F w B x bs G3 w.heap.size w.heap.size w1) := ⟨⟨F1, r1, hR1, hR1, fun j hj => (h1 j hj).elim .inl (fun e => .inr (by omega))⟩, kfr2_trans (Fr6.of_below (unhide B0) hB) S1.fr (fun k hk => .inl hk), (Kx.of_below (unhide B0)).trans (unhide B0).size S1.kp⟩
  have q0 : w1.cell? ⟨w.heap.size, 0, none⟩ = some (.int .i64 0) := by rw [cell_of_row _ _ _ _ _ _ hrb1]; rfl
  have q1 : w1.cell? ⟨w.heap.size, 1, none⟩ = some (.string ⟨#[]⟩) := by rw [cell_of_row _ _ _ _ _ _ hrb1]; rfl
  have q2 : w1.cell? ⟨w.heap.size, 2, none⟩ = some (.int .i64 0) := by rw [cell_of_row _ _ _ _ _ _ hrb1]; rfl
  have q3 : w1.cell? ⟨w.heap.size, 3, none⟩ = some (.int .i64 0) := by rw [cell_of_row _ _ _ _ _ _ hrb1]; rfl
  have q4 : w1.cell? ⟨w.heap.size, 4, none⟩ = some (.int .i64 0) := by rw [cell_of_row _ _ _ _ _ _ hrb1]; rfl
  have fz : ∀ j, w1.frozen? ⟨w.heap.size, j, none⟩ = false := fun j => frozen_of_row _ _ _ _ _ hrb1
  have HRB := hide hrb1
  clear S1 HU hrb1 r1 h1 hR1 F1l
  go_wp2
  refine bodyPost_ret (kent_results Tryz.results153 _ w.heap.size _ rfl (by exact five_set _ _ _ _ _ (unhide HRB)) _ rfl) rfl ?_
  rw [unhide e1]
  exact ⟨rfl, ((unhide RE1).five hB (Nat.le_refl _) _ _ _ _ _).done⟩

set_option maxHeartbeats 3200000 in
set_option maxRecDepth 100000 in
theorem kreadEntry_1 (F : Nat → Prop) (w : World) (B x : Nat) (bs : List UInt8) (i : Nat) (h : RD F w B x bs i) (hB : B ≤ w.heap.size) (hs : bs.length ≤ 140737488351232) (hi : i ≤ bs.length) (h0 : (getW bs i 1 false).2.1 = 0) (ht : (getW bs i 1 false).1 = 1) :
    Calls Tryz.prog 153 #[.pointer (some ⟨x, 0, none⟩)] w fun e w' => e = .returned (.tuple #[entV (entR bs i).1, .int .i64 (entR bs i).2.1]) ∧ RS F w B x bs (entR bs i).2.2 w' := by
  have hle : (getW bs i 1 false).2.2 ≤ bs.length := getW_le hi
  have b0 : Below w.heap.size w (w.alloc (.cells #[.int .i64 0, .string ⟨#[]⟩, .int .i64 0, .int .i64 0, .int .i64 0] 55)) := (Below.refl _ _).alloc (Nat.le_refl _) _
  have hl0 := heap_alloc_last w (.cells #[.int .i64 0, .string ⟨#[]⟩, .int .i64 0, .int .i64 0, .int .i64 0] 55)
  have hFl := krd_lt h
  have HU := hide (rs_u (RS.start (krd_below h b0)) 1 hs hi (by omega))
  have SW := hide (RS.start h)
  have HR0 := hide hl0
  have B0 := hide b0
  have hB0 : B ≤ (w.alloc (.cells #[.int .i64 0, .string ⟨#[]⟩, .int .i64 0, .int .i64 0, .int .i64 0] 55)).heap.size := Nat.le_trans hB b0.size
  have e1 : Hid (entR bs i = (⟨1, (textR bs (getW bs i 1 false).2.2).1, 0, 0, 0⟩, (textR bs (getW bs i 1 false).2.2).2)) := entR_1 h0 ht
  rw [h0, ht] at HU
  clear h0 ht
  generalize (getW bs i 1 false).2.2 = G3 at *
  clear b0 hl0 h
  go_enter Tryz.func153, Tryz.ntmps153
  go_wp2_with fail
  generalize w.alloc (.cells #[.int .i64 0, .string ⟨#[]⟩, .int .i64 0, .int .i64 0, .int .i64 0] 55) = w0 at *
  refine (unhide HU).mono ?_
  rintro e w1 ⟨rfl, S1⟩
  obtain ⟨F1, r1, h1⟩ := S1.ex
  have hRw : w.heap.size < w0.heap.size := lt_of_heap (unhide HR0)
  have hR1 : ¬ F1 w.heap.size := fun hh => by
    rcases h1 _ hh with e | e
    · have := (hFl _ e).2
      omega
    · omega
  have hrb1 : w1.heap[w.heap.size]? = some (.cells #[.int .i64 0, .string ⟨#[]⟩, .int .i64 0, .int .i64 0, .int .i64 0] 55 (0, 0)) := (S1.fr.other _ hRw (fun e => by have := (hFl _ e).2; omega)).trans (unhide HR0)
  have hw1 : w0.heap.size ≤ w1.heap.size := S1.fr.below.size
  have F1l := krd_lt r1
  have b2 : Below w1.heap.size w1 (w1.alloc (.cells #[.int .i64 1, .string ⟨#[]⟩, .int .i64 0, .int .i64 0, .int .i64 0] 55)) := (Below.refl _ _).alloc (Nat.le_refl _) _
  have hx2 := heap_alloc_last w1 (.cells #[.int .i64 1, .string ⟨#[]⟩, .int .i64 0, .int .i64 0, .int .i64 0] 55)
  have hr2 := (b2.block w.heap.size (by omega)).trans hrb1
  have S2 := RS.start (krd_below r1 b2)
  have fr1 : Fr6 F B w w1 := kfr2_trans (Fr6.of_below (unhide B0) hB) S1.fr (fun k hk => .inl hk)
  have fr2 : Fr6 F B w (w1.alloc (.cells #[.int .i64 1, .string ⟨#[]⟩, .int .i64 0, .int .i64 0, .int .i64 0] 55)) := kfr2_trans (F1 := fun _ => False) fr1 (Fr6.of_below b2 (Nat.le_trans hB fr1.below.size)) (fun k hk => hk.elim)
  have hw2 : w1.heap.size < (w1.alloc (.cells #[.int .i64 1, .string ⟨#[]⟩, .int .i64 0, .int .i64 0, .int .i64 0] 55)).heap.size := lt_of_heap hx2
  have hX1 : ¬ F1 w1.heap.size := fun hh => by have := (F1l _ hh).2; omega
  have FR2 := hide fr2
  have KX2 : Hid (Kx x w (w1.alloc (.cells #[.int .i64 1, .string ⟨#[]⟩, .int .i64 0, .int .i64 0, .int .i64 0] 55))) := ((Kx.of_below (unhide B0)).trans (unhide B0).size S1.kp).trans fr1.below.size (Kx.of_below b2)
  have H1 := hide h1
  have HX2 := hide hx2
  have HR2 := hide hr2
  clear S1 HU hrb1 r1 h1 F1l b2 hx2 hr2 fr1 fr2
  have HC := hide (kreadText_any F1 _ _ B x bs G3 S2 hs hle)
  clear S2
  generalize textR bs G3 = Q at *
  obtain ⟨Q1, Q2, Q3⟩ := Q
  simp only at HC e1
  generalize hq1 : (⟨Q1.toArray⟩ : ByteArray) = sq at *
  have HQ1 := hide hq1
  clear hq1
  go_wp2_with fail
  generalize w1.alloc (.cells #[.int .i64 1, .string ⟨#[]⟩, .int .i64 0, .int .i64 0, .int .i64 0] 55) = w2 at *
  refine (unhide HC).mono ?_
  rintro e w3 ⟨rfl, S3⟩
  obtain ⟨F3, r3, h3⟩ := S3.ex
  have hR3 : ¬ F3 w.heap.size := fun hh => (h3 _ hh).elim hR1 (fun e => by omega)
  have hX3 : ¬ F3 w1.heap.size := fun hh => (h3 _ hh).elim hX1 (fun e => by omega)
  have RE3 : Hid (RE F w B x bs Q3 w.heap.size w1.heap.size w3) := ⟨⟨F3, r3, hR3, hX3, fun j hj => (h3 j hj).elim (fun e => (unhide H1 j e).elim .inl (fun e => .inr (by omega))) (fun e => .inr (by omega))⟩, kfr2_trans (unhide FR2) S3.fr (fun k hk => (unhide H1 k hk).elim .inl (fun e => .inr (by omega))), (unhide KX2).trans (unhide FR2).below.size S3.kp⟩
  have xb3 : w3.heap[w1.heap.size]? = _ := (S3.fr.other _ hw2 hX1).trans (unhide HX2)
  have rb3 : w3.heap[w.heap.size]? = _ := (S3.fr.other _ (by omega) hR1).trans (unhide HR2)
  have x0 : w3.cell? ⟨w1.heap.size, 0, none⟩ = some (.int .i64 1) := by rw [cell_of_row _ _ _ _ _ _ xb3]; rfl
  have x1 : w3.cell? ⟨w1.heap.size, 1, none⟩ = some (.string ⟨#[]⟩) := by rw [cell_of_row _ _ _ _ _ _ xb3]; rfl
  have x2 : w3.cell? ⟨w1.heap.size, 2, none⟩ = some (.int .i64 0) := by rw [cell_of_row _ _ _ _ _ _ xb3]; rfl
  have x3 : w3.cell? ⟨w1.heap.size, 3, none⟩ = some (.int .i64 0) := by rw [cell_of_row _ _ _ _ _ _ xb3]; rfl
  have x4 : w3.cell? ⟨w1.heap.size, 4, none⟩ = some (.int .i64 0) := by rw [cell_of_row _ _ _ _ _ _ xb3]; rfl
  have q0 : w3.cell? ⟨w.heap.size, 0, none⟩ = some (.int .i64 0) := by rw [cell_of_row _ _ _ _ _ _ rb3]; rfl
  have q1 : w3.cell? ⟨w.heap.size, 1, none⟩ = some (.string ⟨#[]⟩) := by rw [cell_of_row _ _ _ _ _ _ rb3]; rfl
  have q2 : w3.cell? ⟨w.heap.size, 2, none⟩ = some (.int .i64 0) := by rw [cell_of_row _ _ _ _ _ _ rb3]; rfl
  have q3 : w3.cell? ⟨w.heap.size, 3, none⟩ = some (.int .i64 0) := by rw [cell_of_row _ _ _ _ _ _ rb3]; rfl
  have q4 : w3.cell? ⟨w.heap.size, 4, none⟩ = some (.int .i64 0) := by rw [cell_of_row _ _ _ _ _ _ rb3]; rfl
  have fx : ∀ j, w3.frozen? ⟨w1.heap.size, j, none⟩ = false := fun j => frozen_of_row _ _ _ _ _ xb3
  have fr : ∀ j, w3.frozen? ⟨w.heap.size, j, none⟩ = false := fun j => frozen_of_row _ _ _ _ _ rb3
  have hne : ¬ w.heap.size = w1.heap.size := by omega
  have hne' : ¬ w1.heap.size = w.heap.size := by omega
  have HRB := hide rb3
  clear S3 HC xb3 rb3 r3 h3 hR3 hX3
  go_wp2
  refine bodyPost_ret (kent_results Tryz.results153 _ w.heap.size _ rfl (by exact five_set _ _ _ _ _ ((Below.heap_setCell _ _ _ _ hne).trans (unhide HRB))) _ rfl) rfl ?_
  rw [unhide e1]
  unfold entV
  simp only
  rw [unhide HQ1]
  exact ⟨rfl, (((unhide RE3).set hB w1.heap.size 1 (.string sq) (.inr rfl) (by omega)).five hB (Nat.le_refl _) _ _ _ _ _).done⟩

set_option maxHeartbeats 3200000 in
set_option maxRecDepth 100000 in
theorem kreadEntry_3 (F : Nat → Prop) (w : World) (B x : Nat) (bs : List UInt8) (i : Nat) (h : RD F w B x bs i) (hB : B ≤ w.heap.size) (hs : bs.length ≤ 140737488351232) (hi : i ≤ bs.length) (h0 : (getW bs i 1 false).2.1 = 0) (ht : (getW bs i 1 false).1 = 3) :
    Calls Tryz.prog 153 #[.pointer (some ⟨x, 0, none⟩)] w fun e w' => e = .returned (.tuple #[entV (entR bs i).1, .int .i64 (entR bs i).2.1]) ∧ RS F w B x bs (entR bs i).2.2 w' := by
  have hle : (getW bs i 1 false).2.2 ≤ bs.length := getW_le hi
  have b0 : Below w.heap.size w (w.alloc (.cells #[.int .i64 0, .string ⟨#[]⟩, .int .i64 0, .int .i64 0, .int .i64 0] 55)) := (Below.refl _ _).alloc (Nat.le_refl _) _
  have hl0 := heap_alloc_last w (.cells #[.int .i64 0, .string ⟨#[]⟩, .int .i64 0, .int .i64 0, .int .i64 0] 55)
  have hFl := krd_lt h
  have HU := hide (rs_u (RS.start (krd_below h b0)) 1 hs hi (by omega))
  have SW := hide (RS.start h)
  have HR0 := hide hl0
  have B0 := hide b0
  have hB0 : B ≤ (w.alloc (.cells #[.int .i64 0, .string ⟨#[]⟩, .int .i64 0, .int .i64 0, .int .i64 0] 55)).heap.size := Nat.le_trans hB b0.size
  have e1 : Hid (entR bs i = (⟨3, [], (getW bs (getW bs i 1 false).2.2 4 true).1, 0, 0⟩, (getW bs (getW bs i 1 false).2.2 4 true).2)) := entR_3 h0 ht
  rw [h0, ht] at HU
  clear h0 ht
  generalize (getW bs i 1 false).2.2 = G3 at *
  clear b0 hl0 h
  go_enter Tryz.func153, Tryz.ntmps153
  go_wp2_with fail
  generalize w.alloc (.cells #[.int .i64 0, .string ⟨#[]⟩, .int .i64 0, .int .i64 0, .int .i64 0] 55) = w0 at *
  refine (unhide HU).mono ?_
  rintro e w1 ⟨rfl, S1⟩
  obtain ⟨F1, r1, h1⟩ := S1.ex
  have hRw : w.heap.size < w0.heap.size := lt_of_heap (unhide HR0)
  have hR1 : ¬ F1 w.heap.size := fun hh => by
    rcases h1 _ hh with e | e
    · have := (hFl _ e).2
      omega
    · omega
  have hrb1 : w1.heap[w.heap.size]? = some (.cells #[.int .i64 0, .string ⟨#[]⟩, .int .i64 0, .int .i64 0, .int .i64 0] 55 (0, 0)) := (S1.fr.other _ hRw (fun e => by have := (hFl _ e).2; omega)).trans (unhide HR0)
  have hw1 : w0.heap.size ≤ w1.heap.size := S1.fr.below.size
  have F1l := krd_lt r1
  have b2 : Below w1.heap.size w1 (w1.alloc (.cells #[.int .i64 3, .string ⟨#[]⟩, .int .i64 0, .int .i64 0, .int .i64 0] 55)) := (Below.refl _ _).alloc (Nat.le_refl _) _
  have hx2 := heap_alloc_last w1 (.cells #[.int .i64 3, .string ⟨#[]⟩, .int .i64 0, .int .i64 0, .int .i64 0] 55)
  have hr2 := (b2.block w.heap.size (by omega)).trans hrb1
  have S2 := RS.start (krd_below r1 b2)
  have fr1 : Fr6 F B w w1 := kfr2_trans (Fr6.of_below (unhide B0) hB) S1.fr (fun k hk => .inl hk)
  have fr2 : Fr6 F B w (w1.alloc (.cells #[.int .i64 3, .string ⟨#[]⟩, .int .i64 0, .int .i64 0, .int .i64 0] 55)) := kfr2_trans (F1 := fun _ => False) fr1 (Fr6.of_below b2 (Nat.le_trans hB fr1.below.size)) (fun k hk => hk.elim)
  have hw2 : w1.heap.size < (w1.alloc (.cells #[.int .i64 3, .string ⟨#[]⟩, .int .i64 0, .int .i64 0, .int .i64 0] 55)).heap.size := lt_of_heap hx2
  have hX1 : ¬ F1 w1.heap.size := fun hh => by have := (F1l _ hh).2; omega
  have FR2 := hide fr2
  have KX2 : Hid (Kx x w (w1.alloc (.cells #[.int .i64 3, .string ⟨#[]⟩, .int .i64 0, .int .i64 0, .int .i64 0] 55))) := ((Kx.of_below (unhide B0)).trans (unhide B0).size S1.kp).trans fr1.below.size (Kx.of_below b2)
  have H1 := hide h1
  have HX2 := hide hx2
  have HR2 := hide hr2
  clear S1 HU hrb1 r1 h1 F1l b2 hx2 hr2 fr1 fr2
  have HC := hide (rs_s S2 4 hs hle (by omega))
  clear S2
  generalize getW bs G3 4 true = Q at *
  obtain ⟨Q1, Q2, Q3⟩ := Q
  simp only at HC e1
  go_wp2_with fail
  generalize w1.alloc (.cells #[.int .i64 3, .string ⟨#[]⟩, .int .i64 0, .int .i64 0, .int .i64 0] 55) = w2 at *
  refine (unhide HC).mono ?_
  rintro e w3 ⟨rfl, S3⟩
  obtain ⟨F3, r3, h3⟩ := S3.ex
  have hR3 : ¬ F3 w.heap.size := fun hh => (h3 _ hh).elim hR1 (fun e => by omega)
  have hX3 : ¬ F3 w1.heap.size := fun hh => (h3 _ hh).elim hX1 (fun e => by omega)
  have RE3 : Hid (RE F w B x bs Q3 w.heap.size w1.heap.size w3) := ⟨⟨F3, r3, hR3, hX3, fun j hj => (h3 j hj).elim (fun e => (unhide H1 j e).elim .inl (fun e => .inr (by omega))) (fun e => .inr (by omega))⟩, kfr2_trans (unhide FR2) S3.fr (fun k hk => (unhide H1 k hk).elim .inl (fun e => .inr (by omega))), (unhide KX2).trans (unhide FR2).below.size S3.kp⟩
  have xb3 : w3.heap[w1.heap.size]? = _ := (S3.fr.other _ hw2 hX1).trans (unhide HX2)
  have rb3 : w3.heap[w.heap.size]? = _ := (S3.fr.other _ (by omega) hR1).trans (unhide HR2)
  have x0 : w3.cell? ⟨w1.heap.size, 0, none⟩ = some (.int .i64 3) := by rw [cell_of_row _ _ _ _ _ _ xb3]; rfl
  have x1 : w3.cell? ⟨w1.heap.size, 1, none⟩ = some (.string ⟨#[]⟩) := by rw [cell_of_row _ _ _ _ _ _ xb3]; rfl
  have x2 : w3.cell? ⟨w1.heap.size, 2, none⟩ = some (.int .i64 0) := by rw [cell_of_row _ _ _ _ _ _ xb3]; rfl
  have x3 : w3.cell? ⟨w1.heap.size, 3, none⟩ = some (.int .i64 0) := by rw [cell_of_row _ _ _ _ _ _ xb3]; rfl
  have x4 : w3.cell? ⟨w1.heap.size, 4, none⟩ = some (.int .i64 0) := by rw [cell_of_row _ _ _ _ _ _ xb3]; rfl
  have q0 : w3.cell? ⟨w.heap.size, 0, none⟩ = some (.int .i64 0) := by rw [cell_of_row _ _ _ _ _ _ rb3]; rfl
  have q1 : w3.cell? ⟨w.heap.size, 1, none⟩ = some (.string ⟨#[]⟩) := by rw [cell_of_row _ _ _ _ _ _ rb3]; rfl
  have q2 : w3.cell? ⟨w.heap.size, 2, none⟩ = some (.int .i64 0) := by rw [cell_of_row _ _ _ _ _ _ rb3]; rfl
  have q3 : w3.cell? ⟨w.heap.size, 3, none⟩ = some (.int .i64 0) := by rw [cell_of_row _ _ _ _ _ _ rb3]; rfl
  have q4 : w3.cell? ⟨w.heap.size, 4, none⟩ = some (.int .i64 0) := by rw [cell_of_row _ _ _ _ _ _ rb3]; rfl
  have fx : ∀ j, w3.frozen? ⟨w1.heap.size, j, none⟩ = false := fun j => frozen_of_row _ _ _ _ _ xb3
  have fr : ∀ j, w3.frozen? ⟨w.heap.size, j, none⟩ = false := fun j => frozen_of_row _ _ _ _ _ rb3
  have hne : ¬ w.heap.size = w1.heap.size := by omega
  have hne' : ¬ w1.heap.size = w.heap.size := by omega
  have HRB := hide rb3
  clear S3 HC xb3 rb3 r3 h3 hR3 hX3
  go_wp2
  refine bodyPost_ret (kent_results Tryz.results153 _ w.heap.size _ rfl (by exact five_set _ _ _ _ _ ((Below.heap_setCell _ _ _ _ hne).trans (unhide HRB))) _ rfl) rfl ?_
  rw [unhide e1]
  exact ⟨rfl, (((unhide RE3).set hB w1.heap.size 2 (.int .i64 Q1) (.inr rfl) (by omega)).five hB (Nat.le_refl _) _ _ _ _ _).done⟩

set_option maxHeartbeats 3200000 in
set_option maxRecDepth 100000 in
theorem kreadEntry_5 (F : Nat → Prop) (w : World) (B x : Nat) (bs : List UInt8) (i : Nat) (h : RD F w B x bs i) (hB : B ≤ w.heap.size) (hs : bs.length ≤ 140737488351232) (hi : i ≤ bs.length) (h0 : (getW bs i 1 false).2.1 = 0) (ht : (getW bs i 1 false).1 = 5) :
    Calls Tryz.prog 153 #[.pointer (some ⟨x, 0, none⟩)] w fun e w' => e = .returned (.tuple #[entV (entR bs i).1, .int .i64 (entR bs i).2.1]) ∧ RS F w B x bs (entR bs i).2.2 w' := by
  have hle : (getW bs i 1 false).2.2 ≤ bs.length := getW_le hi
  have b0 : Below w.heap.size w (w.alloc (.cells #[.int .i64 0, .string ⟨#[]⟩, .int .i64 0, .int .i64 0, .int .i64 0] 55)) := (Below.refl _ _).alloc (Nat.le_refl _) _
  have hl0 := heap_alloc_last w (.cells #[.int .i64 0, .string ⟨#[]⟩, .int .i64 0, .int .i64 0, .int .i64 0] 55)
  have hFl := krd_lt h
  have HU := hide (rs_u (RS.start (krd_below h b0)) 1 hs hi (by omega))
  have SW := hide (RS.start h)
  have HR0 := hide hl0
  have B0 := hide b0
  have hB0 : B ≤ (w.alloc (.cells #[.int .i64 0, .string ⟨#[]⟩, .int .i64 0, .int .i64 0, .int .i64 0] 55)).heap.size := Nat.le_trans hB b0.size
  have e1 : Hid (entR bs i = (⟨5, [], (getW bs (getW bs i 1 false).2.2 8 true).1, 0, 0⟩, (getW bs (getW bs i 1 false).2.2 8 true).2)) := entR_5 h0 ht
  rw [h0, ht] at HU
  clear h0 ht
  generalize (getW bs i 1 false).2.2 = G3 at *
  clear b0 hl0 h
  go_enter Tryz.func153, Tryz.ntmps153
  go_wp2_with fail
  generalize w.alloc (.cells #[.int .i64 0, .string ⟨#[]⟩, .int .i64 0, .int .i64 0, .int .i64 0] 55) = w0 at *
  refine (unhide HU).mono ?_
  rintro e w1 ⟨rfl, S1⟩
  obtain ⟨F1, r1, h1⟩ := S1.ex
  have hRw : w.heap.size < w0.heap.size := lt_of_heap (unhide HR0)
  have hR1 : ¬ F1 w.heap.size := fun hh => by
    rcases h1 _ hh with e | e
    · have := (hFl _ e).2
      omega
    · omega
  have hrb1 : w1.heap[w.heap.size]? = some (.cells #[.int .i64 0, .string ⟨#[]⟩, .int .i64 0, .int .i64 0, .int .i64 0] 55 (0, 0)) := (S1.fr.other _ hRw (fun e => by have := (hFl _ e).2; omega)).trans (unhide HR0)
  have hw1 : w0.heap.size ≤ w1.heap.size := S1.fr.below.size
  have F1l := krd_lt r1
  have b2 : Below w1.heap.size w1 (w1.alloc (.cells #[.int .i64 5, .string ⟨#[]⟩, .int .i64 0, .int .i64 0, .int .i64 0] 55)) := (Below.refl _ _).alloc (Nat.le_refl _) _
  have hx2 := heap_alloc_last w1 (.cells #[.int .i64 5, .string ⟨#[]⟩, .int .i64 0, .int .i64 0, .int .i64 0] 55)
  have hr2 := (b2.block w.heap.size (by omega)).trans hrb1
  have S2 := RS.start (krd_below r1 b2)
  have fr1 : Fr6 F B w w1 := kfr2_trans (Fr6.of_below (unhide B0) hB) S1.fr (fun k hk => .inl hk)
  have fr2 : Fr6 F B w (w1.alloc (.cells #[.int .i64 5, .string ⟨#[]⟩, .int .i64 0, .int .i64 0, .int .i64 0] 55)) := kfr2_trans (F1 := fun _ => False) fr1 (Fr6.of_below b2 (Nat.le_trans hB fr1.below.size)) (fun k hk => hk.elim)
  have hw2 : w1.heap.size < (w1.alloc (.cells #[.int .i64 5, .string ⟨#[]⟩, .int .i64 0, .int .i64 0, .int .i64 0] 55)).heap.size := lt_of_heap hx2
  have hX1 : ¬ F1 w1.heap.size := fun hh => by have := (F1l _ hh).2; omega
  have FR2 := hide fr2
  have KX2 : Hid (Kx x w (w1.alloc (.cells #[.int .i64 5, .string ⟨#[]⟩, .int .i64 0, .int .i64 0, .int .i64 0] 55))) := ((Kx.of_below (unhide B0)).trans (unhide B0).size S1.kp).trans fr1.below.size (Kx.of_below b2)
  have H1 := hide h1
  have HX2 := hide hx2
  have HR2 := hide hr2
  clear S1 HU hrb1 r1 h1 F1l b2 hx2 hr2 fr1 fr2
  have HC := hide (rs_s S2 8 hs hle (by omega))
  clear S2
  generalize getW bs G3 8 true = Q at *
  obtain ⟨Q1, Q2, Q3⟩ := Q
  simp only at HC e1
  go_wp2_with fail
  generalize w1.alloc (.cells #[.int .i64 5, .string ⟨#[]⟩, .int .i64 0, .int .i64 0, .int .i64 0] 55) = w2 at *
  refine (unhide HC).mono ?_
  rintro e w3 ⟨rfl, S3⟩
  obtain ⟨F3, r3, h3⟩ := S3.ex
  have hR3 : ¬ F3 w.heap.size := fun hh => (h3 _ hh).elim hR1 (fun e => by omega)
  have hX3 : ¬ F3 w1.heap.size := fun hh => (h3 _ hh).elim hX1 (fun e => by omega)
  have RE3 : Hid (RE F w B x bs Q3 w.heap.size w1.heap.size w3) := ⟨⟨F3, r3, hR3, hX3, fun j hj => (h3 j hj).elim (fun e => (unhide H1 j e).elim .inl (fun e => .inr (by omega))) (fun e => .inr (by omega))⟩, kfr2_trans (unhide FR2) S3.fr (fun k hk => (unhide H1 k hk).elim .inl (fun e => .inr (by omega))), (unhide KX2).trans (unhide FR2).below.size S3.kp⟩
  have xb3 : w3.heap[w1.heap.size]? = _ := (S3.fr.other _ hw2 hX1).trans (unhide HX2)
  have rb3 : w3.heap[w.heap.size]? = _ := (S3.fr.other _ (by omega) hR1).trans (unhide HR2)
  have x0 : w3.cell? ⟨w1.heap.size, 0, none⟩ = some (.int .i64 5) := by rw [cell_of_row _ _ _ _ _ _ xb3]; rfl
  have x1 : w3.cell? ⟨w1.heap.size, 1, none⟩ = some (.string ⟨#[]⟩) := by rw [cell_of_row _ _ _ _ _ _ xb3]; rfl
  have x2 : w3.cell? ⟨w1.heap.size, 2, none⟩ = some (.int .i64 0) := by rw [cell_of_row _ _ _ _ _ _ xb3]; rfl
  have x3 : w3.cell? ⟨w1.heap.size, 3, none⟩ = some (.int .i64 0) := by rw [cell_of_row _ _ _ _ _ _ xb3]; rfl
  have x4 : w3.cell? ⟨w1.heap.size, 4, none⟩ = some (.int .i64 0) := by rw [cell_of_row _ _ _ _ _ _ xb3]; rfl
  have q0 : w3.cell? ⟨w.heap.size, 0, none⟩ = some (.int .i64 0) := by rw [cell_of_row _ _ _ _ _ _ rb3]; rfl
  have q1 : w3.cell? ⟨w.heap.size, 1, none⟩ = some (.string ⟨#[]⟩) := by rw [cell_of_row _ _ _ _ _ _ rb3]; rfl
  have q2 : w3.cell? ⟨w.heap.size, 2, none⟩ = some (.int .i64 0) := by rw [cell_of_row _ _ _ _ _ _ rb3]; rfl
  have q3 : w3.cell? ⟨w.heap.size, 3, none⟩ = some (.int .i64 0) := by rw [cell_of_row _ _ _ _ _ _ rb3]; rfl
  have q4 : w3.cell? ⟨w.heap.size, 4, none⟩ = some (.int .i64 0) := by rw [cell_of_row _ _ _ _ _ _ rb3]; rfl
  have fx : ∀ j, w3.frozen? ⟨w1.heap.size, j, none⟩ = false := fun j => frozen_of_row _ _ _ _ _ xb3
  have fr : ∀ j, w3.frozen? ⟨w.heap.size, j, none⟩ = false := fun j => frozen_of_row _ _ _ _ _ rb3
  have hne : ¬ w.heap.size = w1.heap.size := by omega
  have hne' : ¬ w1.heap.size = w.heap.size := by omega
  have HRB := hide rb3
  clear S3 HC xb3 rb3 r3 h3 hR3 hX3
  go_wp2
  refine bodyPost_ret (kent_results Tryz.results153 _ w.heap.size _ rfl (by exact five_set _ _ _ _ _ ((Below.heap_setCell _ _ _ _ hne).trans (unhide HRB))) _ rfl) rfl ?_
  rw [unhide e1]
  exact ⟨rfl, (((unhide RE3).set hB w1.heap.size 2 (.int .i64 Q1) (.inr rfl) (by omega)).five hB (Nat.le_refl _) _ _ _ _ _).done⟩

set_option maxHeartbeats 3200000 in
set_option maxRecDepth 100000 in
theorem kreadEntry_7 (F : Nat → Prop) (w : World) (B x : Nat) (bs : List UInt8) (i : Nat) (h : RD F w B x bs i) (hB : B ≤ w.heap.size) (hs : bs.length ≤ 140737488351232) (hi : i ≤ bs.length) (h0 : (getW bs i 1 false).2.1 = 0) (ht : (getW bs i 1 false).1 = 7) :
    Calls Tryz.prog 153 #[.pointer (some ⟨x, 0, none⟩)] w fun e w' => e = .returned (.tuple #[entV (entR bs i).1, .int .i64 (entR bs i).2.1]) ∧ RS F w B x bs (entR bs i).2.2 w' := by
  have hle : (getW bs i 1 false).2.2 ≤ bs.length := getW_le hi
  have b0 : Below w.heap.size w (w.alloc (.cells #[.int .i64 0, .string ⟨#[]⟩, .int .i64 0, .int .i64 0, .int .i64 0] 55)) := (Below.refl _ _).alloc (Nat.le_refl _) _
  have hl0 := heap_alloc_last w (.cells #[.int .i64 0, .string ⟨#[]⟩, .int .i64 0, .int .i64 0, .int .i64 0] 55)
  have hFl := krd_lt h
  have HU := hide (rs_u (RS.start (krd_below h b0)) 1 hs hi (by omega))
  have SW := hide (RS.start h)
  have HR0 := hide hl0
  have B0 := hide b0
  have hB0 : B ≤ (w.alloc (.cells #[.int .i64 0, .string ⟨#[]⟩, .int .i64 0, .int .i64 0, .int .i64 0] 55)).heap.size := Nat.le_trans hB b0.size
  have e1 : Hid (entR bs i = (⟨7, [], 0, (getW bs (getW bs i 1 false).2.2 2 false).1, 0⟩, (getW bs (getW bs i 1 false).2.2 2 false).2)) := entR_7 h0 ht
  rw [h0, ht] at HU
  clear h0 ht
  generalize (getW bs i 1 false).2.2 = G3 at *
  clear b0 hl0 h
  go_enter Tryz.func153, Tryz.ntmps153
  go_wp2_with fail
  generalize w.alloc (.cells #[.int .i64 0, .string ⟨#[]⟩, .int .i64 0, .int .i64 0, .int .i64 0] 55) = w0 at *
  refine (unhide HU).mono ?_
  rintro e w1 ⟨rfl, S1⟩
  obtain ⟨F1, r1, h1⟩ := S1.ex
  have hRw : w.heap.size < w0.heap.size := lt_of_heap (unhide HR0)
  have hR1 : ¬ F1 w.heap.size := fun hh => by
    rcases h1 _ hh with e | e
    · have := (hFl _ e).2
      omega
    · omega
  have hrb1 : w1.heap[w.heap.size]? = some (.cells #[.int .i64 0, .string ⟨#[]⟩, .int .i64 0, .int .i64 0, .int .i64 0] 55 (0, 0)) := (S1.fr.other _ hRw (fun e => by have := (hFl _ e).2; omega)).trans (unhide HR0)
  have hw1 : w0.heap.size ≤ w1.heap.size := S1.fr.below.size
  have F1l := krd_lt r1
  have b2 : Below w1.heap.size w1 (w1.alloc (.cells #[.int .i64 7, .string ⟨#[]⟩, .int .i64 0, .int .i64 0, .int .i64 0] 55)) := (Below.refl _ _).alloc (Nat.le_refl _) _
  have hx2 := heap_alloc_last w1 (.cells #[.int .i64 7, .string ⟨#[]⟩, .int .i64 0, .int .i64 0, .int .i64 0] 55)
  have hr2 := (b2.block w.heap.size (by omega)).trans hrb1
  have S2 := RS.start (krd_below r1 b2)
  have fr1 : Fr6 F B w w1 := kfr2_trans (Fr6.of_below (unhide B0) hB) S1.fr (fun k hk => .inl hk)
  have fr2 : Fr6 F B w (w1.alloc (.cells #[.int .i64 7, .string ⟨#[]⟩, .int .i64 0, .int .i64 0, .int .i64 0] 55)) := kfr2_trans (F1 := fun _ => False) fr1 (Fr6.of_below b2 (Nat.le_trans hB fr1.below.size)) (fun k hk => hk.elim)
  have hw2 : w1.heap.size < (w1.alloc (.cells #[.int .i64 7, .string ⟨#[]⟩, .int .i64 0, .int .i64 0, .int .i64 0] 55)).heap.size := lt_of_heap hx2
  have hX1 : ¬ F1 w1.heap.size := fun hh => by have := (F1l _ hh).2; omega
  have FR2 := hide fr2
  have KX2 : Hid (Kx x w (w1.alloc (.cells #[.int .i64 7, .string ⟨#[]⟩, .int .i64 0, .int .i64 0, .int .i64 0] 55))) := ((Kx.of_below (unhide B0)).trans (unhide B0).size S1.kp).trans fr1.below.size (Kx.of_below b2)
  have H1 := hide h1
  have HX2 := hide hx2
  have HR2 := hide hr2
  clear S1 HU hrb1 r1 h1 F1l b2 hx2 hr2 fr1 fr2
  have HC := hide (rs_u S2 2 hs hle (by omega))
  clear S2
  generalize getW bs G3 2 false = Q at *
  obtain ⟨Q1, Q2, Q3⟩ := Q
  simp only at HC e1
  go_wp2_with fail
  generalize w1.alloc (.cells #[.int .i64 7, .string ⟨#[]⟩, .int .i64 0, .int .i64 0, .int .i64 0] 55) = w2 at *
  refine (unhide HC).mono ?_
  rintro e w3 ⟨rfl, S3⟩
  obtain ⟨F3, r3, h3⟩ := S3.ex
  have hR3 : ¬ F3 w.heap.size := fun hh => (h3 _ hh).elim hR1 (fun e => by omega)
  have hX3 : ¬ F3 w1.heap.size := fun hh => (h3 _ hh).elim hX1 (fun e => by omega)
  have RE3 : Hid (RE F w B x bs Q3 w.heap.size w1.heap.size w3) := ⟨⟨F3, r3, hR3, hX3, fun j hj => (h3 j hj).elim (fun e => (unhide H1 j e).elim .inl (fun e => .inr (by omega))) (fun e => .inr (by omega))⟩, kfr2_trans (unhide FR2) S3.fr (fun k hk => (unhide H1 k hk).elim .inl (fun e => .inr (by omega))), (unhide KX2).trans (unhide FR2).below.size S3.kp⟩
  have xb3 : w3.heap[w1.heap.size]? = _ := (S3.fr.other _ hw2 hX1).trans (unhide HX2)
  have rb3 : w3.heap[w.heap.size]? = _ := (S3.fr.other _ (by omega) hR1).trans (unhide HR2)
  have x0 : w3.cell? ⟨w1.heap.size, 0, none⟩ = some (.int .i64 7) := by rw [cell_of_row _ _ _ _ _ _ xb3]; rfl
  have x1 : w3.cell? ⟨w1.heap.size, 1, none⟩ = some (.string ⟨#[]⟩) := by rw [cell_of_row _ _ _ _ _ _ xb3]; rfl
  have x2 : w3.cell? ⟨w1.heap.size, 2, none⟩ = some (.int .i64 0) := by rw [cell_of_row _ _ _ _ _ _ xb3]; rfl
  have x3 : w3.cell? ⟨w1.heap.size, 3, none⟩ = some (.int .i64 0) := by rw [cell_of_row _ _ _ _ _ _ xb3]; rfl
  have x4 : w3.cell? ⟨w1.heap.size, 4, none⟩ = some (.int .i64 0) := by rw [cell_of_row _ _ _ _ _ _ xb3]; rfl
  have q0 : w3.cell? ⟨w.heap.size, 0, none⟩ = some (.int .i64 0) := by rw [cell_of_row _ _ _ _ _ _ rb3]; rfl
  have q1 : w3.cell? ⟨w.heap.size, 1, none⟩ = some (.string ⟨#[]⟩) := by rw [cell_of_row _ _ _ _ _ _ rb3]; rfl
  have q2 : w3.cell? ⟨w.heap.size, 2, none⟩ = some (.int .i64 0) := by rw [cell_of_row _ _ _ _ _ _ rb3]; rfl
  have q3 : w3.cell? ⟨w.heap.size, 3, none⟩ = some (.int .i64 0) := by rw [cell_of_row _ _ _ _ _ _ rb3]; rfl
  have q4 : w3.cell? ⟨w.heap.size, 4, none⟩ = some (.int .i64 0) := by rw [cell_of_row _ _ _ _ _ _ rb3]; rfl
  have fx : ∀ j, w3.frozen? ⟨w1.heap.size, j, none⟩ = false := fun j => frozen_of_row _ _ _ _ _ xb3
  have fr : ∀ j, w3.frozen? ⟨w.heap.size, j, none⟩ = false := fun j => frozen_of_row _ _ _ _ _ rb3
  have hne : ¬ w.heap.size = w1.heap.size := by omega
  have hne' : ¬ w1.heap.size = w.heap.size := by omega
  have HRB := hide rb3
  clear S3 HC xb3 rb3 r3 h3 hR3 hX3
  go_wp2
  refine bodyPost_ret (kent_results Tryz.results153 _ w.heap.size _ rfl (by exact five_set _ _ _ _ _ ((Below.heap_setCell _ _ _ _ hne).trans (unhide HRB))) _ rfl) rfl ?_
  rw [unhide e1]
  exact ⟨rfl, (((unhide RE3).set hB w1.heap.size 3 (.int .i64 Q1) (.inr rfl) (by omega)).five hB (Nat.le_refl _) _ _ _ _ _).done⟩

set_option maxHeartbeats 3200000 in
set_option maxRecDepth 100000 in
theorem kreadEntry_9 (F : Nat → Prop) (w : World) (B x : Nat) (bs : List UInt8) (i : Nat) (h : RD F w B x bs i) (hB : B ≤ w.heap.size) (hs : bs.length ≤ 140737488351232) (hi : i ≤ bs.length) (h0 : (getW bs i 1 false).2.1 = 0) (ht : (getW bs i 1 false).1 = 9) :
    Calls Tryz.prog 153 #[.pointer (some ⟨x, 0, none⟩)] w fun e w' => e = .returned (.tuple #[entV (entR bs i).1, .int .i64 (entR bs i).2.1]) ∧ RS F w B x bs (entR bs i).2.2 w' := by
  have hle : (getW bs i 1 false).2.2 ≤ bs.length := getW_le hi
  have b0 : Below w.heap.size w (w.alloc (.cells #[.int .i64 0, .string ⟨#[]⟩, .int .i64 0, .int .i64 0, .int .i64 0] 55)) := (Below.refl _ _).alloc (Nat.le_refl _) _
  have hl0 := heap_alloc_last w (.cells #[.int .i64 0, .string ⟨#[]⟩, .int .i64 0, .int .i64 0, .int .i64 0] 55)
  have hFl := krd_lt h
  have HU := hide (rs_u (RS.start (krd_below h b0)) 1 hs hi (by omega))
  have SW := hide (RS.start h)
  have HR0 := hide hl0
  have B0 := hide b0
  have hB0 : B ≤ (w.alloc (.cells #[.int .i64 0, .string ⟨#[]⟩, .int .i64 0, .int .i64 0, .int .i64 0] 55)).heap.size := Nat.le_trans hB b0.size
  have e1 : Hid (entR bs i = (⟨9, [], 0, (twoR bs (getW bs i 1 false).2.2).1, (twoR bs (getW bs i 1 false).2.2).2.1⟩, (twoR bs (getW bs i 1 false).2.2).2.2)) := entR_9 h0 ht
  rw [h0, ht] at HU
  clear h0 ht
  generalize (getW bs i 1 false).2.2 = G3 at *
  clear b0 hl0 h
  go_enter Tryz.func153, Tryz.ntmps153
  go_wp2_with fail
  generalize w.alloc (.cells #[.int .i64 0, .string ⟨#[]⟩, .int .i64 0, .int .i64 0, .int .i64 0] 55) = w0 at *
  refine (unhide HU).mono ?_
  rintro e w1 ⟨rfl, S1⟩
  obtain ⟨F1, r1, h1⟩ := S1.ex
  have hRw : w.heap.size < w0.heap.size := lt_of_heap (unhide HR0)
  have hR1 : ¬ F1 w.heap.size := fun hh => by
    rcases h1 _ hh with e | e
    · have := (hFl _ e).2
      omega
    · omega
  have hrb1 : w1.heap[w.heap.size]? = some (.cells #[.int .i64 0, .string ⟨#[]⟩, .int .i64 0, .int .i64 0, .int .i64 0] 55 (0, 0)) := (S1.fr.other _ hRw (fun e => by have := (hFl _ e).2; omega)).trans (unhide HR0)
  have hw1 : w0.heap.size ≤ w1.heap.size := S1.fr.below.size
  have F1l := krd_lt r1
  have b2 : Below w1.heap.size w1 (w1.alloc (.cells #[.int .i64 9, .string ⟨#[]⟩, .int .i64 0, .int .i64 0, .int .i64 0] 55)) := (Below.refl _ _).alloc (Nat.le_refl _) _
  have hx2 := heap_alloc_last w1 (.cells #[.int .i64 9, .string ⟨#[]⟩, .int .i64 0, .int .i64 0, .int .i64 0] 55)
  have hr2 := (b2.block w.heap.size (by omega)).trans hrb1
  have S2 := RS.start (krd_below r1 b2)
  have fr1 : Fr6 F B w w1 := kfr2_trans (Fr6.of_below (unhide B0) hB) S1.fr (fun k hk => .inl hk)
  have fr2 : Fr6 F B w (w1.alloc (.cells #[.int .i64 9, .string ⟨#[]⟩, .int .i64 0, .int .i64 0, .int .i64 0] 55)) := kfr2_trans (F1 := fun _ => False) fr1 (Fr6.of_below b2 (Nat.le_trans hB fr1.below.size)) (fun k hk => hk.elim)
  have hw2 : w1.heap.size < (w1.alloc (.cells #[.int .i64 9, .string ⟨#[]⟩, .int .i64 0, .int .i64 0, .int .i64 0] 55)).heap.size := lt_of_heap hx2
  have hX1 : ¬ F1 w1.heap.size := fun hh => by have := (F1l _ hh).2; omega
  have FR2 := hide fr2
  have KX2 : Hid (Kx x w (w1.alloc (.cells #[.int .i64 9, .string ⟨#[]⟩, .int .i64 0, .int .i64 0, .int .i64 0] 55))) := ((Kx.of_below (unhide B0)).trans (unhide B0).size S1.kp).trans fr1.below.size (Kx.of_below b2)
  have H1 := hide h1
  have HX2 := hide hx2
  have HR2 := hide hr2
  clear S1 HU hrb1 r1 h1 F1l b2 hx2 hr2 fr1 fr2
  have HC := hide (kreadTwo_any F1 _ _ B x bs G3 S2 hs hle)
  clear S2
  generalize twoR bs G3 = Q at *
  obtain ⟨Q1, Q0, Q2, Q3⟩ := Q
  simp only at HC e1
  go_wp2_with fail
  generalize w1.alloc (.cells #[.int .i64 9, .string ⟨#[]⟩, .int .i64 0, .int .i64 0, .int .i64 0] 55) = w2 at *
  refine (unhide HC).mono ?_
  rintro e w3 ⟨rfl, S3⟩
  obtain ⟨F3, r3, h3⟩ := S3.ex
  have hR3 : ¬ F3 w.heap.size := fun hh => (h3 _ hh).elim hR1 (fun e => by omega)
  have hX3 : ¬ F3 w1.heap.size := fun hh => (h3 _ hh).elim hX1 (fun e => by omega)
  have RE3 : Hid (RE F w B x bs Q3 w.heap.size w1.heap.size w3) := ⟨⟨F3, r3, hR3, hX3, fun j hj => (h3 j hj).elim (fun e => (unhide H1 j e).elim .inl (fun e => .inr (by omega))) (fun e => .inr (by omega))⟩, kfr2_trans (unhide FR2) S3.fr (fun k hk => (unhide H1 k hk).elim .inl (fun e => .inr (by omega))), (unhide KX2).trans (unhide FR2).below.size S3.kp⟩
  have xb3 : w3.heap[w1.heap.size]? = _ := (S3.fr.other _ hw2 hX1).trans (unhide HX2)
  have rb3 : w3.heap[w.heap.size]? = _ := (S3.fr.other _ (by omega) hR1).trans (unhide HR2)
  have x0 : w3.cell? ⟨w1.heap.size, 0, none⟩ = some (.int .i64 9) := by rw [cell_of_row _ _ _ _ _ _ xb3]; rfl
  have x1 : w3.cell? ⟨w1.heap.size, 1, none⟩ = some (.string ⟨#[]⟩) := by rw [cell_of_row _ _ _ _ _ _ xb3]; rfl
  have x2 : w3.cell? ⟨w1.heap.size, 2, none⟩ = some (.int .i64 0) := by rw [cell_of_row _ _ _ _ _ _ xb3]; rfl
  have x3 : w3.cell? ⟨w1.heap.size, 3, none⟩ = some (.int .i64 0) := by rw [cell_of_row _ _ _ _ _ _ xb3]; rfl
  have x4 : w3.cell? ⟨w1.heap.size, 4, none⟩ = some (.int .i64 0) := by rw [cell_of_row _ _ _ _ _ _ xb3]; rfl
  have q0 : w3.cell? ⟨w.heap.size, 0, none⟩ = some (.int .i64 0) := by rw [cell_of_row _ _ _ _ _ _ rb3]; rfl
  have q1 : w3.cell? ⟨w.heap.size, 1, none⟩ = some (.string ⟨#[]⟩) := by rw [cell_of_row _ _ _ _ _ _ rb3]; rfl
  have q2 : w3.cell? ⟨w.heap.size, 2, none⟩ = some (.int .i64 0) := by rw [cell_of_row _ _ _ _ _ _ rb3]; rfl
  have q3 : w3.cell? ⟨w.heap.size, 3, none⟩ = some (.int .i64 0) := by rw [cell_of_row _ _ _ _ _ _ rb3]; rfl
  have q4 : w3.cell? ⟨w.heap.size, 4, none⟩ = some (.int .i64 0) := by rw [cell_of_row _ _ _ _ _ _ rb3]; rfl
  have fx : ∀ j, w3.frozen? ⟨w1.heap.size, j, none⟩ = false := fun j => frozen_of_row _ _ _ _ _ xb3
  have fr : ∀ j, w3.frozen? ⟨w.heap.size, j, none⟩ = false := fun j => frozen_of_row _ _ _ _ _ rb3
  have hne : ¬ w.heap.size = w1.heap.size := by omega
  have hne' : ¬ w1.heap.size = w.heap.size := by omega
  have HRB := hide rb3
  clear S3 HC xb3 rb3 r3 h3 hR3 hX3
  go_wp2
  refine bodyPost_ret (kent_results Tryz.results153 _ w.heap.size _ rfl (by exact five_set _ _ _ _ _ ((Below.heap_setCell _ _ _ _ hne).trans ((Below.heap_setCell _ _ _ _ hne).trans (unhide HRB)))) _ rfl) rfl ?_
  rw [unhide e1]
  exact ⟨rfl, ((((unhide RE3).set hB w1.heap.size 3 (.int .i64 Q1) (.inr rfl) (by omega)).set hB w1.heap.size 4 (.int .i64 Q0) (.inr rfl) (by omega)).five hB (Nat.le_refl _) _ _ _ _ _).done⟩

set_option maxHeartbeats 3200000 in
set_option maxRecDepth 100000 in
theorem kreadEntry_10 (F : Nat → Prop) (w : World) (B x : Nat) (bs : List UInt8) (i : Nat) (h : RD F w B x bs i) (hB : B ≤ w.heap.size) (hs : bs.length ≤ 140737488351232) (hi : i ≤ bs.length) (h0 : (getW bs i 1 false).2.1 = 0) (ht : (getW bs i 1 false).1 = 10) :
    Calls Tryz.prog 153 #[.pointer (some ⟨x, 0, none⟩)] w fun e w' => e = .returned (.tuple #[entV (entR bs i).1, .int .i64 (entR bs i).2.1]) ∧ RS F w B x bs (entR bs i).2.2 w' := by
  have hle : (getW bs i 1 false).2.2 ≤ bs.length := getW_le hi
  have b0 : Below w.heap.size w (w.alloc (.cells #[.int .i64 0, .string ⟨#[]⟩, .int .i64 0, .int .i64 0, .int .i64 0] 55)) := (Below.refl _ _).alloc (Nat.le_refl _) _
  have hl0 := heap_alloc_last w (.cells #[.int .i64 0, .string ⟨#[]⟩, .int .i64 0, .int .i64 0, .int .i64 0] 55)
  have hFl := krd_lt h
  have HU := hide (rs_u (RS.start (krd_below h b0)) 1 hs hi (by omega))
  have SW := hide (RS.start h)
  have HR0 := hide hl0
  have B0 := hide b0
  have hB0 : B ≤ (w.alloc (.cells #[.int .i64 0, .string ⟨#[]⟩, .int .i64 0, .int .i64 0, .int .i64 0] 55)).heap.size := Nat.le_trans hB b0.size
  have e1 : Hid (entR bs i = (⟨10, [], 0, (twoR bs (getW bs i 1 false).2.2).1, (twoR bs (getW bs i 1 false).2.2).2.1⟩, (twoR bs (getW bs i 1 false).2.2).2.2)) := entR_10 h0 ht
  rw [h0, ht] at HU
  clear h0 ht
  generalize (getW bs i 1 false).2.2 = G3 at *
  clear b0 hl0 h
  go_enter Tryz.func153, Tryz.ntmps153
  go_wp2_with fail
  generalize w.alloc (.cells #[.int .i64 0, .string ⟨#[]⟩, .int .i64 0, .int .i64 0, .int .i64 0] 55) = w0 at *
  refine (unhide HU).mono ?_
  rintro e w1 ⟨rfl, S1⟩
  obtain ⟨F1, r1, h1⟩ := S1.ex
  have hRw : w.heap.size < w0.heap.size := lt_of_heap (unhide HR0)
  have hR1 : ¬ F1 w.heap.size := fun hh => by
    rcases h1 _ hh with e | e
    · have := (hFl _ e).2
      omega
    · omega
  have hrb1 : w1.heap[w.heap.size]? = some (.cells #[.int .i64 0, .string ⟨#[]⟩, .int .i64 0, .int .i64 0, .int .i64 0] 55 (0, 0)) := (S1.fr.other _ hRw (fun e => by have := (hFl _ e).2; omega)).trans (unhide HR0)
  have hw1 : w0.heap.size ≤ w1.heap.size := S1.fr.below.size
  have F1l := krd_lt r1
  have b2 : Below w1.heap.size w1 (w1.alloc (.cells #[.int .i64 10, .string ⟨#[]⟩, .int .i64 0, .int .i64 0, .int .i64 0] 55)) := (Below.refl _ _).alloc (Nat.le_refl _) _
  have hx2 := heap_alloc_last w1 (.cells #[.int .i64 10, .string ⟨#[]⟩, .int .i64 0, .int .i64 0, .int .i64 0] 55)
  have hr2 := (b2.block w.heap.size (by omega)).trans hrb1
  have S2 := RS.start (krd_below r1 b2)
  have fr1 : Fr6 F B w w1 := kfr2_trans (Fr6.of_below (unhide B0) hB) S1.fr (fun k hk => .inl hk)
  have fr2 : Fr6 F B w (w1.alloc (.cells #[.int .i64 10, .string ⟨#[]⟩, .int .i64 0, .int .i64 0, .int .i64 0] 55)) := kfr2_trans (F1 := fun _ => False) fr1 (Fr6.of_below b2 (Nat.le_trans hB fr1.below.size)) (fun k hk => hk.elim)
  have hw2 : w1.heap.size < (w1.alloc (.cells #[.int .i64 10, .string ⟨#[]⟩, .int .i64 0, .int .i64 0, .int .i64 0] 55)).heap.size := lt_of_heap hx2
  have hX1 : ¬ F1 w1.heap.size := fun hh => by have := (F1l _ hh).2; omega
  have FR2 := hide fr2
  have KX2 : Hid (Kx x w (w1.alloc (.cells #[.int .i64 10, .string ⟨#[]⟩, .int .i64 0, .int .i64 0, .int .i64 0] 55))) := ((Kx.of_below (unhide B0)).trans (unhide B0).size S1.kp).trans fr1.below.size (Kx.of_below b2)
  have H1 := hide h1
  have HX2 := hide hx2
  have HR2 := hide hr2
  clear S1 HU hrb1 r1 h1 F1l b2 hx2 hr2 fr1 fr2
  have HC := hide (kreadTwo_any F1 _ _ B x bs G3 S2 hs hle)
  clear S2
  generalize twoR bs G3 = Q at *
  obtain ⟨Q1, Q0, Q2, Q3⟩ := Q
  simp only at HC e1
  go_wp2_with fail
  generalize w1.alloc (.cells #[.int .i64 10, .string ⟨#[]⟩, .int .i64 0, .int .i64 0, .int .i64 0] 55) = w2 at *
  refine (unhide HC).mono ?_
  rintro e w3 ⟨rfl, S3⟩
  obtain ⟨F3, r3, h3⟩ := S3.ex
  have hR3 : ¬ F3 w.heap.size := fun hh => (h3 _ hh).elim hR1 (fun e => by omega)
  have hX3 : ¬ F3 w1.heap.size := fun hh => (h3 _ hh).elim hX1 (fun e => by omega)
  have RE3 : Hid (RE F w B x bs Q3 w.heap.size w1.heap.size w3) := ⟨⟨F3, r3, hR3, hX3, fun j hj => (h3 j hj).elim (fun e => (unhide H1 j e).elim .inl (fun e => .inr (by omega))) (fun e => .inr (by omega))⟩, kfr2_trans (unhide FR2) S3.fr (fun k hk => (unhide H1 k hk).elim .inl (fun e => .inr (by omega))), (unhide KX2).trans (unhide FR2).below.size S3.kp⟩
  have xb3 : w3.heap[w1.heap.size]? = _ := (S3.fr.other _ hw2 hX1).trans (unhide HX2)
  have rb3 : w3.heap[w.heap.size]? = _ := (S3.fr.other _ (by omega) hR1).trans (unhide HR2)
  have x0 : w3.cell? ⟨w1.heap.size, 0, none⟩ = some (.int .i64 10) := by rw [cell_of_row _ _ _ _ _ _ xb3]; rfl
  have x1 : w3.cell? ⟨w1.heap.size, 1, none⟩ = some (.string ⟨#[]⟩) := by rw [cell_of_row _ _ _ _ _ _ xb3]; rfl
  have x2 : w3.cell? ⟨w1.heap.size, 2, none⟩ = some (.int .i64 0) := by rw [cell_of_row _ _ _ _ _ _ xb3]; rfl
  have x3 : w3.cell? ⟨w1.heap.size, 3, none⟩ = some (.int .i64 0) := by rw [cell_of_row _ _ _ _ _ _ xb3]; rfl
  have x4 : w3.cell? ⟨w1.heap.size, 4, none⟩ = some (.int .i64 0) := by rw [cell_of_row _ _ _ _ _ _ xb3]; rfl
  have q0 : w3.cell? ⟨w.heap.size, 0, none⟩ = some (.int .i64 0) := by rw [cell_of_row _ _ _ _ _ _ rb3]; rfl
  have q1 : w3.cell? ⟨w.heap.size, 1, none⟩ = some (.string ⟨#[]⟩) := by rw [cell_of_row _ _ _ _ _ _ rb3]; rfl
  have q2 : w3.cell? ⟨w.heap.size, 2, none⟩ = some (.int .i64 0) := by rw [cell_of_row _ _ _ _ _ _ rb3]; rfl
  have q3 : w3.cell? ⟨w.heap.size, 3, none⟩ = some (.int .i64 0) := by rw [cell_of_row _ _ _ _ _ _ rb3]; rfl
  have q4 : w3.cell? ⟨w.heap.size, 4, none⟩ = some (.int .i64 0) := by rw [cell_of_row _ _ _ _ _ _ rb3]; rfl
  have fx : ∀ j, w3.frozen? ⟨w1.heap.size, j, none⟩ = false := fun j => frozen_of_row _ _ _ _ _ xb3
  have fr : ∀ j, w3.frozen? ⟨w.heap.size, j, none⟩ = false := fun j => frozen_of_row _ _ _ _ _ rb3
  have hne : ¬ w.heap.size = w1.heap.size := by omega
  have hne' : ¬ w1.heap.size = w.heap.size := by omega
  have HRB := hide rb3
  clear S3 HC xb3 rb3 r3 h3 hR3 hX3
  go_wp2
  refine bodyPost_ret (kent_results Tryz.results153 _ w.heap.size _ rfl (by exact five_set _ _ _ _ _ ((Below.heap_setCell _ _ _ _ hne).trans ((Below.heap_setCell _ _ _ _ hne).trans (unhide HRB)))) _ rfl) rfl ?_
  rw [unhide e1]
  exact ⟨rfl, ((((unhide RE3).set hB w1.heap.size 3 (.int .i64 Q1) (.inr rfl) (by omega)).set hB w1.heap.size 4 (.int .i64 Q0) (.inr rfl) (by omega)).five hB (Nat.le_refl _) _ _ _ _ _).done⟩

set_option maxHeartbeats 3200000 in
set_option maxRecDepth 100000 in
theorem kreadEntry_12 (F : Nat → Prop) (w : World) (B x : Nat) (bs : List UInt8) (i : Nat) (h : RD F w B x bs i) (hB : B ≤ w.heap.size) (hs : bs.length ≤ 140737488351232) (hi : i ≤ bs.length) (h0 : (getW bs i 1 false).2.1 = 0) (ht : (getW bs i 1 false).1 = 12) :
    Calls Tryz.prog 153 #[.pointer (some ⟨x, 0, none⟩)] w fun e w' => e = .returned (.tuple #[entV (entR bs i).1, .int .i64 (entR bs i).2.1]) ∧ RS F w B x bs (entR bs i).2.2 w' := by
  have hle : (getW bs i 1 false).2.2 ≤ bs.length := getW_le hi
  have b0 : Below w.heap.size w (w.alloc (.cells #[.int .i64 0, .string ⟨#[]⟩, .int .i64 0, .int .i64 0, .int .i64 0] 55)) := (Below.refl _ _).alloc (Nat.le_refl _) _
  have hl0 := heap_alloc_last w (.cells #[.int .i64 0, .string ⟨#[]⟩, .int .i64 0, .int .i64 0, .int .i64 0] 55)
  have hFl := krd_lt h
  have HU := hide (rs_u (RS.start (krd_below h b0)) 1 hs hi (by omega))
  have SW := hide (RS.start h)
  have HR0 := hide hl0
  have B0 := hide b0
  have hB0 : B ≤ (w.alloc (.cells #[.int .i64 0, .string ⟨#[]⟩, .int .i64 0, .int .i64 0, .int .i64 0] 55)).heap.size := Nat.le_trans hB b0.size
  have e1 : Hid (entR bs i = (⟨12, [], 0, (twoR bs (getW bs i 1 false).2.2).1, (twoR bs (getW bs i 1 false).2.2).2.1⟩, (twoR bs (getW bs i 1 false).2.2).2.2)) := entR_12 h0 ht
  rw [h0, ht] at HU
  clear h0 ht
  generalize (getW bs i 1 false).2.2 = G3 at *
  clear b0 hl0 h
  go_enter Tryz.func153, Tryz.ntmps153
  go_wp2_with fail
  generalize w.alloc (.cells #[.int .i64 0, .string ⟨#[]⟩, .int .i64 0, .int .i64 0, .int .i64 0] 55) = w0 at *
  refine (unhide HU).mono ?_
  rintro e w1 ⟨rfl, S1⟩
  obtain ⟨F1, r1, h1⟩ := S1.ex
  have hRw : w.heap.size < w0.heap.size := lt_of_heap (unhide HR0)
  have hR1 : ¬ F1 w.heap.size := fun hh => by
    rcases h1 _ hh with e | e
    · have := (hFl _ e).2
      omega
    · omega
  have hrb1 : w1.heap[w.heap.size]? = some (.cells #[.int .i64 0, .string ⟨#[]⟩, .int .i64 0, .int .i64 0, .int .i64 0] 55 (0, 0)) := (S1.fr.other _ hRw (fun e => by have := (hFl _ e).2; omega)).trans (unhide HR0)
  have hw1 : w0.heap.size ≤ w1.heap.size := S1.fr.below.size
  have F1l := krd_lt r1
  have b2 : Below w1.heap.size w1 (w1.alloc (.cells #[.int .i64 12, .string ⟨#[]⟩, .int .i64 0, .int .i64 0, .int .i64 0] 55)) := (Below.refl _ _).alloc (Nat.le_refl _) _
  have hx2 := heap_alloc_last w1 (.cells #[.int .i64 12, .string ⟨#[]⟩, .int .i64 0, .int .i64 0, .int .i64 0] 55)
  have hr2 := (b2.block w.heap.size (by omega)).trans hrb1
  have S2 := RS.start (krd_below r1 b2)
  have fr1 : Fr6 F B w w1 := kfr2_trans (Fr6.of_below (unhide B0) hB) S1.fr (fun k hk => .inl hk)
  have fr2 : Fr6 F B w (w1.alloc (.cells #[.int .i64 12, .string ⟨#[]⟩, .int .i64 0, .int .i64 0, .int .i64 0] 55)) := kfr2_trans (F1 := fun _ => False) fr1 (Fr6.of_below b2 (Nat.le_trans hB fr1.below.size)) (fun k hk => hk.elim)
  have hw2 : w1.heap.size < (w1.alloc (.cells #[.int .i64 12, .string ⟨#[]⟩, .int .i64 0, .int .i64 0, .int .i64 0] 55)).heap.size := lt_of_heap hx2
  have hX1 : ¬ F1 w1.heap.size := fun hh => by have := (F1l _ hh).2; omega
  have FR2 := hide fr2
  have KX2 : Hid (Kx x w (w1.alloc (.cells #[.int .i64 12, .string ⟨#[]⟩, .int .i64 0, .int .i64 0, .int .i64 0] 55))) := ((Kx.of_below (unhide B0)).trans (unhide B0).size S1.kp).trans fr1.below.size (Kx.of_below b2)
  have H1 := hide h1
  have HX2 := hide hx2
  have HR2 := hide hr2
  clear S1 HU hrb1 r1 h1 F1l b2 hx2 hr2 fr1 fr2
  have HC := hide (kreadTwo_any F1 _ _ B x bs G3 S2 hs hle)
  clear S2
  generalize twoR bs G3 = Q at *
  obtain ⟨Q1, Q0, Q2, Q3⟩ := Q
  simp only at HC e1
  go_wp2_with fail
  generalize w1.alloc (.cells #[.int .i64 12, .string ⟨#[]⟩, .int .i64 0, .int .i64 0, .int .i64 0] 55) = w2 at *
  refine (unhide HC).mono ?_
  rintro e w3 ⟨rfl, S3⟩
  obtain ⟨F3, r3, h3⟩ := S3.ex
  have hR3 : ¬ F3 w.heap.size := fun hh => (h3 _ hh).elim hR1 (fun e => by omega)
  have hX3 : ¬ F3 w1.heap.size := fun hh => (h3 _ hh).elim hX1 (fun e => by omega)
  have RE3 : Hid (RE F w B x bs Q3 w.heap.size w1.heap.size w3) := ⟨⟨F3, r3, hR3, hX3, fun j hj => (h3 j hj).elim (fun e => (unhide H1 j e).elim .inl (fun e => .inr (by omega))) (fun e => .inr (by omega))⟩, kfr2_trans (unhide FR2) S3.fr (fun k hk => (unhide H1 k hk).elim .inl (fun e => .inr (by omega))), (unhide KX2).trans (unhide FR2).below.size S3.kp⟩
  have xb3 : w3.heap[w1.heap.size]? = _ := (S3.fr.other _ hw2 hX1).trans (unhide HX2)
  have rb3 : w3.heap[w.heap.size]? = _ := (S3.fr.other _ (by omega) hR1).trans (unhide HR2)
  have x0 : w3.cell? ⟨w1.heap.size, 0, none⟩ = some (.int .i64 12) := by rw [cell_of_row _ _ _ _ _ _ xb3]; rfl
  have x1 : w3.cell? ⟨w1.heap.size, 1, none⟩ = some (.string ⟨#[]⟩) := by rw [cell_of_row _ _ _ _ _ _ xb3]; rfl
  have x2 : w3.cell? ⟨w1.heap.size, 2, none⟩ = some (.int .i64 0) := by rw [cell_of_row _ _ _ _ _ _ xb3]; rfl
  have x3 : w3.cell? ⟨w1.heap.size, 3, none⟩ = some (.int .i64 0) := by rw [cell_of_row _ _ _ _ _ _ xb3]; rfl
  have x4 : w3.cell? ⟨w1.heap.size, 4, none⟩ = some (.int .i64 0) := by rw [cell_of_row _ _ _ _ _ _ xb3]; rfl
  have q0 : w3.cell? ⟨w.heap.size, 0, none⟩ = some (.int .i64 0) := by rw [cell_of_row _ _ _ _ _ _ rb3]; rfl
  have q1 : w3.cell? ⟨w.heap.size, 1, none⟩ = some (.string ⟨#[]⟩) := by rw [cell_of_row _ _ _ _ _ _ rb3]; rfl
  have q2 : w3.cell? ⟨w.heap.size, 2, none⟩ = some (.int .i64 0) := by rw [cell_of_row _ _ _ _ _ _ rb3]; rfl
  have q3 : w3.cell? ⟨w.heap.size, 3, none⟩ = some (.int .i64 0) := by rw [cell_of_row _ _ _ _ _ _ rb3]; rfl
  have q4 : w3.cell? ⟨w.heap.size, 4, none⟩ = some (.int .i64 0) := by rw [cell_of_row _ _ _ _ _ _ rb3]; rfl
  have fx : ∀ j, w3.frozen? ⟨w1.heap.size, j, none⟩ = false := fun j => frozen_of_row _ _ _ _ _ xb3
  have fr : ∀ j, w3.frozen? ⟨w.heap.size, j, none⟩ = false := fun j => frozen_of_row _ _ _ _ _ rb3
  have hne : ¬ w.heap.size = w1.heap.size := by omega
  have hne' : ¬ w1.heap.size = w.heap.size := by omega
  have HRB := hide rb3
  clear S3 HC xb3 rb3 r3 h3 hR3 hX3
  go_wp2
  refine bodyPost_ret (kent_results Tryz.results153 _ w.heap.size _ rfl (by exact five_set _ _ _ _ _ ((Below.heap_setCell _ _ _ _ hne).trans ((Below.heap_setCell _ _ _ _ hne).trans (unhide HRB)))) _ rfl) rfl ?_
  rw [unhide e1]
  exact ⟨rfl, ((((unhide RE3).set hB w1.heap.size 3 (.int .i64 Q1) (.inr rfl) (by omega)).set hB w1.heap.size 4 (.int .i64 Q0) (.inr rfl) (by omega)).five hB (Nat.le_refl _) _ _ _ _ _).done⟩

set_option maxHeartbeats 3200000 in
set_option maxRecDepth 100000 in
theorem kreadEntry_odd (F : Nat → Prop) (w : World) (B x : Nat) (bs : List UInt8) (i : Nat) (h : RD F w B x bs i) (hB : B ≤ w.heap.size) (hs : bs.length ≤ 140737488351232) (hi : i ≤ bs.length) (h0 : (getW bs i 1 false).2.1 = 0) (ht : ¬ ((getW bs i 1 false).1 = 1 ∨ (getW bs i 1 false).1 = 3 ∨ (getW bs i 1 false).1 = 5 ∨ (getW bs i 1 false).1 = 7 ∨ (getW bs i 1 false).1 = 9 ∨ (getW bs i 1 false).1 = 10 ∨ (getW bs i 1 false).1 = 12)) :
    Calls Tryz.prog 153 #[.pointer (some ⟨x, 0, none⟩)] w fun e w' => e = .returned (.tuple #[entV (entR bs i).1, .int .i64 (entR bs i).2.1]) ∧ RS F w B x bs (entR bs i).2.2 w' := by
  have hle : (getW bs i 1 false).2.2 ≤ bs.length := getW_le hi
  have b0 : Below w.heap.size w (w.alloc (.cells #[.int .i64 0, .string ⟨#[]⟩, .int .i64 0, .int .i64 0, .int .i64 0] 55)) := (Below.refl _ _).alloc (Nat.le_refl _) _
  have hl0 := heap_alloc_last w (.cells #[.int .i64 0, .string ⟨#[]⟩, .int .i64 0, .int .i64 0, .int .i64 0] 55)
  have hFl := krd_lt h
  have HU := hide (rs_u (RS.start (krd_below h b0)) 1 hs hi (by omega))
  have SW := hide (RS.start h)
  have HR0 := hide hl0
  have B0 := hide b0
  have hB0 : B ≤ (w.alloc (.cells #[.int .i64 0, .string ⟨#[]⟩, .int .i64 0, .int .i64 0, .int .i64 0] 55)).heap.size := Nat.le_trans hB b0.size
  have e1 : Hid (entR bs i = (⟨(getW bs i 1 false).1, [], 0, 0, 0⟩, 70, (getW bs i 1 false).2.2)) := by
    show entR bs i = _
    unfold entR
    simp only
    rw [if_neg (by rw [h0]; simp), if_neg (by omega), if_neg (by omega), if_neg (by omega), if_neg (by omega), if_neg (by omega)]
  rw [h0] at HU
  clear h0
  generalize (getW bs i 1 false).2.2 = G3 at *
  generalize (getW bs i 1 false).1 = G1 at *
  have t1 : (G1 == 1) = false := by rw [beq_eq_false_iff_ne]; omega
  have t3 : (G1 == 3) = false := by rw [beq_eq_false_iff_ne]; omega
  have t5 : (G1 == 5) = false := by rw [beq_eq_false_iff_ne]; omega
  have t7 : (G1 == 7) = false := by rw [beq_eq_false_iff_ne]; omega
  have t9 : (G1 == 9) = false := by rw [beq_eq_false_iff_ne]; omega
  have t10 : (G1 == 10) = false := by rw [beq_eq_false_iff_ne]; omega
  have t12 : (G1 == 12) = false := by rw [beq_eq_false_iff_ne]; omega
  clear ht
  clear b0 hl0 h
  go_enter Tryz.func153, Tryz.ntmps153
  go_wp2_with fail
  generalize w.alloc (.cells #[.int .i64 0, .string ⟨#[]⟩, .int .i64 0, .int .i64 0, .int .i64 0] 55) = w0 at *
  refine (unhide HU).mono ?_
  rintro e w1 ⟨rfl, S1⟩
  obtain ⟨F1, r1, h1⟩ := S1.ex
  have hRw : w.heap.size < w0.heap.size := lt_of_heap (unhide HR0)
  have hR1 : ¬ F1 w.heap.size := fun hh => by
    rcases h1 _ hh with e | e
    · have := (hFl _ e).2
      omega
    · omega
  have hrb1 : w1.heap[w.heap.size]? = some (.cells #[.int .i64 0, .string ⟨#[]⟩, .int .i64 0, .int .i64 0, .int .i64 0] 55 (0, 0)) := (S1.fr.other _ hRw (fun e => by have := (hFl _ e).2; omega)).trans (unhide HR0)
  have hw1 : w0.heap.size ≤ w1.heap.size := S1.fr.below.size
  have F1l := krd_lt r1
  have b2 : Below w1.heap.size w1 (w1.alloc (.cells #[.int .i64 G1, .string ⟨#[]⟩, .int .i64 0, .int .i64 0, .int .i64 0] 55)) := (Below.refl _ _).alloc (Nat.le_refl _) _
  have hr2 := (b2.block w.heap.size (by omega)).trans hrb1
  have RE1 : RE F w B x bs G3 w.heap.size w.heap.size (w1.alloc (.cells #[.int .i64 G1, .string ⟨#[]⟩, .int .i64 0, .int .i64 0, .int .i64 0] 55)) := ⟨⟨F1, krd_below r1 b2, hR1, hR1, fun j hj => (h1 j hj).elim .inl (fun e => .inr (by omega))⟩, kfr2_trans (F1 := fun _ => False) (kfr2_trans (Fr6.of_below (unhide B0) hB) S1.fr (fun k hk => .inl hk)) (Fr6.of_below b2 (Nat.le_trans hB0 hw1)) (fun k hk => hk.elim), ((Kx.of_below (unhide B0)).trans (unhide B0).size S1.kp).trans (Nat.le_trans (unhide B0).size hw1) (Kx.of_below b2)⟩
  have q0 : (w1.alloc (.cells #[.int .i64 G1, .string ⟨#[]⟩, .int .i64 0, .int .i64 0, .int .i64 0] 55)).cell? ⟨w.heap.size, 0, none⟩ = some (.int .i64 0) := by rw [cell_of_row _ _ _ _ _ _ hr2]; rfl
  have q1 : (w1.alloc (.cells #[.int .i64 G1, .string ⟨#[]⟩, .int .i64 0, .int .i64 0, .int .i64 0] 55)).cell? ⟨w.heap.size, 1, none⟩ = some (.string ⟨#[]⟩) := by rw [cell_of_row _ _ _ _ _ _ hr2]; rfl
  have q2 : (w1.alloc (.cells #[.int .i64 G1, .string ⟨#[]⟩, .int .i64 0, .int .i64 0, .int .i64 0] 55)).cell? ⟨w.heap.size, 2, none⟩ = some (.int .i64 0) := by rw [cell_of_row _ _ _ _ _ _ hr2]; rfl
  have q3 : (w1.alloc (.cells #[.int .i64 G1, .string ⟨#[]⟩, .int .i64 0, .int .i64 0, .int .i64 0] 55)).cell? ⟨w.heap.size, 3, none⟩ = some (.int .i64 0) := by rw [cell_of_row _ _ _ _ _ _ hr2]; rfl
  have q4 : (w1.alloc (.cells #[.int .i64 G1, .string ⟨#[]⟩, .int .i64 0, .int .i64 0, .int .i64 0] 55)).cell? ⟨w.heap.size, 4, none⟩ = some (.int .i64 0) := by rw [cell_of_row _ _ _ _ _ _ hr2]; rfl
  have fz : ∀ j, (w1.alloc (.cells #[.int .i64 G1, .string ⟨#[]⟩, .int .i64 0, .int .i64 0, .int .i64 0] 55)).frozen? ⟨w.heap.size, j, none⟩ = false := fun j => frozen_of_row _ _ _ _ _ hr2
  have HRE := hide RE1
  have HRB := hide hr2
  clear S1 HU hrb1 r1 h1 hR1 F1l b2 hr2 RE1
  go_wp2
  refine bodyPost_ret (kent_results Tryz.results153 _ w.heap.size _ rfl (by exact five_set _ _ _ _ _ (unhide HRB)) _ rfl) rfl ?_
  rw [unhide e1]
  exact ⟨rfl, ((unhide HRE).five hB (Nat.le_refl _) _ _ _ _ _).done⟩

theorem kreadEntry_any (F : Nat → Prop) (w : World) (B x : Nat) (bs : List UInt8) (i : Nat) (h : RD F w B x bs i) (hB : B ≤ w.heap.size) (hs : bs.length ≤ 140737488351232) (hi : i ≤ bs.length) :
    Calls Tryz.prog 153 #[.pointer (some ⟨x, 0, none⟩)] w fun e w' => e = .returned (.tuple #[entV (entR bs i).1, .int .i64 (entR bs i).2.1]) ∧ RS F w B x bs (entR bs i).2.2 w' := by
  by_cases h0 : (getW bs i 1 false).2.1 = 0
  case neg => exact kreadEntry_bad F w B x bs i h hB hs hi h0
  by_cases t1 : (getW bs i 1 false).1 = 1
  case pos => exact kreadEntry_1 F w B x bs i h hB hs hi h0 t1
  by_cases t3 : (getW bs i 1 false).1 = 3
  case pos => exact kreadEntry_3 F w B x bs i h hB hs hi h0 t3
  by_cases t5 : (getW bs i 1 false).1 = 5
  case pos => exact kreadEntry_5 F w B x bs i h hB hs hi h0 t5
  by_cases t7 : (getW bs i 1 false).1 = 7
  case pos => exact kreadEntry_7 F w B x bs i h hB hs hi h0 t7
  by_cases t9 : (getW bs i 1 false).1 = 9
  case pos => exact kreadEntry_9 F w B x bs i h hB hs hi h0 t9
  by_cases t10 : (getW bs i 1 false).1 = 10
  case pos => exact kreadEntry_10 F w B x bs i h hB hs hi h0 t10
  by_cases t12 : (getW bs i 1 false).1 = 12
  case pos => exact kreadEntry_12 F w B x bs i h hB hs hi h0 t12
  exact kreadEntry_odd F w B x bs i h hB hs hi h0 (by omega)

end Go.Proofs.YthhdfokcciibmaaGreatDoor

/- The landed pool: readPool. -/
namespace Go.Proofs.YthhdfokcciibmaaGreatDoor
open Go.RowKit
set_option linter.unusedVariables false

/-- A pool's entries as they lie while it is read: what was read, and zeros. -/
def arrE (n : Nat) (es : List Ent) : List Ent := (es ++ List.replicate (n - es.length) ent0).take n
theorem arrE_len (n : Nat) (es : List Ent) : (arrE n es).length = n := by
  unfold arrE
  rw [List.length_take, List.length_append, List.length_replicate]
  omega
theorem arrE_full {n : Nat} {es : List Ent} (h : es.length = n) : arrE n es = es := by
  unfold arrE
  rw [h, Nat.sub_self, List.replicate_zero, List.append_nil, List.take_of_length_le (by omega)]
theorem arrE_at {n : Nat} {es : List Ent} (k : Nat) : (arrE n es)[k]? = if k < n then some (es[k]?.getD ent0) else none := by
  unfold arrE
  rw [List.getElem?_take]
  by_cases hk : k < n
  · rw [if_pos hk, if_pos hk]
    by_cases hl : k < es.length
    · rw [List.getElem?_append_left hl, List.getElem?_eq_getElem hl]
      rfl
    · rw [List.getElem?_append_right (by omega), List.getElem?_replicate, if_pos (by omega), List.getElem?_eq_none (by omega)]
      rfl
  · rw [if_neg hk, if_neg hk]
theorem arrE_with {n : Nat} {es : List Ent} {x : Ent} (h : es.length < n) : arrE n (withE es x) = (arrE n es).set es.length x := by
  apply List.ext_getElem?
  intro k
  rw [arrE_at, List.getElem?_set, arrE_at, arrE_len, withE_eq]
  by_cases hk : k < n
  · rw [if_pos hk, if_pos hk]
    by_cases e : es.length = k
    · rw [if_pos e, if_pos h, ← e, List.getElem?_append_right (Nat.le_refl _), Nat.sub_self]
      split <;> rfl
    · rw [if_neg e]
      by_cases hl : k < es.length
      · rw [List.getElem?_append_left hl]
      · rw [List.getElem?_append_right (by omega), List.getElem?_eq_none (l := es) (by omega)]
        have : k - es.length ≠ 0 := by omega
        split
        · match hq : k - es.length with
          | 0 => omega
          | 1 => rfl
          | q + 2 => rfl
        · match hq : k - es.length with
          | 0 => omega
          | q + 1 => rfl
  · rw [if_neg hk, if_neg hk, if_neg (by omega)]
theorem arrE_zero (n : Nat) (h : 1 ≤ n) : arrE n [ent0] = List.replicate n ent0 := by
  apply List.ext_getElem?
  intro k
  rw [arrE_at, List.getElem?_replicate]
  by_cases hk : k < n
  · rw [if_pos hk, if_pos hk]
    cases k with
    | zero => rfl
    | succ k => simp
  · rw [if_neg hk, if_neg hk]
/-- An entry stored, cell by cell. -/
theorem ev_set {l : List Ent} {k : Nat} (x : Ent) (hk : k < l.length) :
    ((((((ev l).toArray.setIfInBounds (k * 5) (.int .i64 x.tag)).setIfInBounds (k * 5 + 1) (.string ⟨x.text.toArray⟩)).setIfInBounds (k * 5 + 2) (.int .i64 x.n)).setIfInBounds (k * 5 + 3) (.int .i64 x.a)).setIfInBounds (k * 5 + 4) (.int .i64 x.b)) = (ev (l.set k x)).toArray := by
  have hl := ev_len l
  apply Array.ext'
  simp only [Array.toList_setIfInBounds]
  apply List.ext_getElem?
  intro t
  simp only [List.getElem?_set, List.length_set]
  have hs : (l.set k x)[k]? = some x := by rw [List.getElem?_set]; simp [hk]
  have key : ∀ q, q < 5 → (ev (l.set k x))[k * 5 + q]? = (ec x)[q]? := fun q hq => by
    have := ev_get hs q hq
    rw [show k * 5 + q = 5 * k + q by omega]
    exact this
  by_cases h4 : k * 5 + 4 = t
  · subst h4
    rw [key 4 (by omega)]
    simp [ec, hl]
    omega
  by_cases h3 : k * 5 + 3 = t
  · subst h3
    rw [key 3 (by omega)]
    simp [ec, hl]
    omega
  by_cases h2 : k * 5 + 2 = t
  · subst h2
    rw [key 2 (by omega)]
    simp [ec, hl]
    omega
  by_cases h1 : k * 5 + 1 = t
  · subst h1
    rw [key 1 (by omega)]
    simp [ec, hl]
    omega
  by_cases h0 : k * 5 = t
  · subst h0
    have := key 0 (by omega)
    rw [Nat.add_zero] at this
    rw [this]
    simp [ec, hl]
    omega
  rw [if_neg h4, if_neg h3, if_neg h2, if_neg h1, if_neg h0]
  by_cases ht : t < l.length * 5
  · have hd : t / 5 < l.length := by omega
    have hne : ¬ k = t / 5 := by omega
    have e1 : l[t / 5]? = some l[t / 5] := List.getElem?_eq_getElem hd
    have e2 : (l.set k x)[t / 5]? = some l[t / 5] := by rw [List.getElem?_set, if_neg hne]; exact e1
    have g1 := ev_get e1 (t % 5) (by omega)
    have g2 := ev_get e2 (t % 5) (by omega)
    rw [show 5 * (t / 5) + t % 5 = t by omega] at g1 g2
    rw [g1, g2]
  · have hl2 := ev_len (l.set k x)
    rw [List.length_set] at hl2
    rw [List.getElem?_eq_none (by omega), List.getElem?_eq_none (by omega)]
theorem made_ents (n : Nat) : madeCells #[.int .i64 0, .string ⟨#[]⟩, .int .i64 0, .int .i64 0, .int .i64 0] (n * 5) = (ev (List.replicate n ent0)).toArray := by
  apply Array.ext'
  apply List.ext_getElem?
  intro t
  have hl := ev_len (List.replicate n ent0)
  rw [List.length_replicate] at hl
  by_cases ht : t < n * 5
  · have hr : (List.replicate n ent0)[t / 5]? = some ent0 := by rw [List.getElem?_replicate, if_pos (by omega)]
    have g := ev_get hr (t % 5) (by omega)
    rw [show 5 * (t / 5) + t % 5 = t by omega] at g
    rw [List.toList_toArray, g]
    have h5 : t % 5 < 5 := by omega
    have e : (madeCells #[.int .i64 0, .string ⟨#[]⟩, .int .i64 0, .int .i64 0, .int .i64 0] (n * 5))[t]? = some (#[Value.int .i64 0, .string ⟨#[]⟩, .int .i64 0, .int .i64 0, .int .i64 0][t % 5]!) := by
      unfold madeCells
      rw [Array.getElem?_map, Array.getElem?_range, if_pos ht]
      rfl
    rw [← Array.getElem?_toList] at e
    rw [e]
    generalize t % 5 = q at *
    match q, h5 with
    | 0, _ => rfl
    | 1, _ => rfl
    | 2, _ => rfl
    | 3, _ => rfl
    | 4, _ => rfl
  · rw [List.getElem?_eq_none (by rw [Array.length_toList, size_madeCells]; omega), List.getElem?_eq_none (by rw [List.toList_toArray]; omega)]
theorem make_ents (n : Nat) (h : n ≤ 1024) (w : World) : (Instr.makeSlice 22 (.int .i64 (n : Int)) (.int .i64 (n : Int))).run Tryz.prog w = .ok (.slice (some ⟨w.heap.size, 0, none⟩) n n) (w.alloc (.cells (ev (List.replicate n ent0)).toArray 55)) := by
  obtain ⟨i0, hi, hz0, hz1, hz2⟩ := info_parts infoE
  have := run_make (P := Tryz.prog) w 22 55 i0 (.agg #[.int .i64 0, .string ⟨#[]⟩, .int .i64 0, .int .i64 0, .int .i64 0]) Tryz.underlying22 hi hz0 .i64 .i64 n n (by omega) (by omega) (by rw [hz2]; omega) (by omega)
  rw [this, hz1, ← made_ents]
  rfl

/-- A reader, and the pool that is being read. -/
structure RQ (F : Nat → Prop) (w : World) (B z : Nat) (bs : List UInt8) (j q : Nat) (l : List Ent) (W : World) : Prop where
  ex : ∃ F', RD F' W B z bs j ∧ ¬ F' q ∧ ∀ k, F' k → F k ∨ w.heap.size ≤ k
  fr : Fr6 F B w W
  kp : Kx z w W
  blk : W.heap[q]? = some (.cells (ev l).toArray 55 (0, 0))
theorem RQ.below {F : Nat → Prop} {w W W' : World} {B z : Nat} {bs : List UInt8} {j q : Nat} {l : List Ent} (h : RQ F w B z bs j q l W) (hB : B ≤ w.heap.size) (f : Below W.heap.size W W') : RQ F w B z bs j q l W' := by
  obtain ⟨F', h1, h2, h3⟩ := h.ex
  exact ⟨⟨F', krd_below h1 f, h2, h3⟩, kfr2_trans (F1 := fun _ => False) h.fr (Fr6.of_below f (Nat.le_trans hB h.fr.below.size)) (fun k hk => hk.elim), h.kp.trans h.fr.below.size (Kx.of_below f), (f.block q (lt_of_heap h.blk)).trans h.blk⟩
theorem RQ.call {F F' : Nat → Prop} {w W W' : World} {B z : Nat} {bs : List UInt8} {j j' q : Nat} {l : List Ent} (h : RQ F w B z bs j q l W) (h2 : ¬ F' q) (h3 : ∀ k, F' k → F k ∨ w.heap.size ≤ k) (g : RS F' W B z bs j' W') : RQ F w B z bs j' q l W' := by
  obtain ⟨F2, r1, r2⟩ := g.ex
  have hq := lt_of_heap h.blk
  exact ⟨⟨F2, r1, fun e => (r2 q e).elim h2 (fun e => by omega), fun k hk => (r2 k hk).elim (h3 k) (fun e => .inr (Nat.le_trans h.fr.below.size e))⟩, kfr2_trans h.fr g.fr h3, h.kp.trans h.fr.below.size g.kp, (g.fr.other q hq h2).trans h.blk⟩
theorem RQ.store {F : Nat → Prop} {w W : World} {B z : Nat} {bs : List UInt8} {j q : Nat} {l : List Ent} (h : RQ F w B z bs j q l W) (hB : B ≤ w.heap.size) (hq : w.heap.size ≤ q) (k : Nat) (x : Ent) (hk : k < l.length) :
    RQ F w B z bs j q (l.set k x) (((((W.setCell ⟨q, k * 5, none⟩ (.int .i64 x.tag)).setCell ⟨q, k * 5 + 1, none⟩ (.string ⟨x.text.toArray⟩)).setCell ⟨q, k * 5 + 2, none⟩ (.int .i64 x.n)).setCell ⟨q, k * 5 + 3, none⟩ (.int .i64 x.a)).setCell ⟨q, k * 5 + 4, none⟩ (.int .i64 x.b)) := by
  obtain ⟨F', h1, h2, h3⟩ := h.ex
  have hset : ∀ p, p ≠ q → (((((W.setCell ⟨q, k * 5, none⟩ (.int .i64 x.tag)).setCell ⟨q, k * 5 + 1, none⟩ (.string ⟨x.text.toArray⟩)).setCell ⟨q, k * 5 + 2, none⟩ (.int .i64 x.n)).setCell ⟨q, k * 5 + 3, none⟩ (.int .i64 x.a)).setCell ⟨q, k * 5 + 4, none⟩ (.int .i64 x.b)).heap[p]? = W.heap[p]? := fun p hp => by
    rw [Below.heap_setCell _ _ _ _ hp, Below.heap_setCell _ _ _ _ hp, Below.heap_setCell _ _ _ _ hp, Below.heap_setCell _ _ _ _ hp, Below.heap_setCell _ _ _ _ hp]
  have hBq : B ≤ q := Nat.le_trans hB hq
  refine ⟨⟨F', krd_keep h1 (fun p hp => hset p (fun e => h2 (e ▸ hp))), h2, h3⟩, ⟨?_, fun p hp hF => (hset p (by omega)).trans (h.fr.other p hp hF)⟩, fun p hp hz => (hset p (by omega)).trans (h.kp p hp hz), ?_⟩
  · exact ((((h.fr.below.setCell (p := ⟨q, k * 5, none⟩) hBq _).setCell (p := ⟨q, k * 5 + 1, none⟩) hBq _).setCell (p := ⟨q, k * 5 + 2, none⟩) hBq _).setCell (p := ⟨q, k * 5 + 3, none⟩) hBq _).setCell (p := ⟨q, k * 5 + 4, none⟩) hBq _
  · rw [← ev_set x hk]
    exact heap_setCell_same _ q _ _ _ _ (heap_setCell_same _ q _ _ _ _ (heap_setCell_same _ q _ _ _ _ (heap_setCell_same _ q _ _ _ _ (heap_setCell_same _ q _ _ _ _ h.blk))))
theorem RQ.done {F : Nat → Prop} {w W : World} {B z : Nat} {bs : List UInt8} {j q : Nat} {l : List Ent} (h : RQ F w B z bs j q l W) : RS F w B z bs j W := by
  obtain ⟨F', h1, h2, h3⟩ := h.ex
  exact ⟨⟨F', h1, h3⟩, h.fr, h.kp⟩
theorem RQ.es {F : Nat → Prop} {w W : World} {B z : Nat} {bs : List UInt8} {j q n : Nat} {l : List Ent} (h : RQ F w B z bs j q l W) (hl : l.length = n) : Es W (some ⟨q, 0, none⟩) n l := ⟨hl, .inr ⟨q, 0, rfl, es_of_block h.blk⟩⟩

end Go.Proofs.YthhdfokcciibmaaGreatDoor

/- The landed pool: readPool, Read. -/
namespace Go.Proofs.YthhdfokcciibmaaGreatDoor
open Go.RowKit
set_option linter.unusedVariables false

theorem entsR_stop {bs : List UInt8} {n f : Nat} {es : List Ent} {j : Nat} (h : n ≤ es.length) : entsR bs n f es j = (es, 0, j) := by
  cases f with
  | zero => rfl
  | succ f =>
    unfold entsR
    rw [if_pos h]
theorem entsR_step {bs : List UInt8} {n f : Nat} {es : List Ent} {j : Nat} (h : es.length < n) (h0 : (entR bs j).2.1 = 0) : entsR bs n (f + 1) es j = entsR bs n f (withE es (entR bs j).1) (entR bs j).2.2 := by
  rw [entsR, if_neg (by omega)]
  simp only
  rw [if_neg (by rw [h0]; simp)]
theorem entsR_err {bs : List UInt8} {n f : Nat} {es : List Ent} {j : Nat} (h : es.length < n) (h0 : (entR bs j).2.1 ≠ 0) : entsR bs n (f + 1) es j = (es, (entR bs j).2) := by
  rw [entsR, if_neg (by omega)]
  simp only
  rw [if_pos h0]
theorem readP_bad {bs : List UInt8} {i : Nat} (h : (getW bs i 2 false).2.1 ≠ 0) : readP bs i = ([], (getW bs i 2 false).2) := by
  unfold readP
  simp only
  rw [if_pos h]
theorem readP_none {bs : List UInt8} {i : Nat} (h : (getW bs i 2 false).2.1 = 0) (hn : (getW bs i 2 false).1 < 1 ∨ 1024 < (getW bs i 2 false).1) : readP bs i = ([], 70, (getW bs i 2 false).2.2) := by
  unfold readP
  simp only
  rw [if_neg (by rw [h]; simp), if_pos hn]
theorem readP_err {bs : List UInt8} {i n j : Nat} {es : List Ent} {E : Int × Nat} (h : (getW bs i 2 false).2.1 = 0) (hn : (getW bs i 2 false).1 = (n : Int)) (h1 : 1 ≤ n) (h2 : n ≤ 1024) (he : entsR bs n n [ent0] (getW bs i 2 false).2.2 = (es, E)) (h0 : E.1 ≠ 0) : readP bs i = ([], E) := by
  unfold readP
  simp only
  rw [if_neg (by rw [h]; simp), if_neg (by omega), hn, Int.toNat_natCast, he, if_pos h0]
theorem readP_end {bs : List UInt8} {i n j : Nat} {es : List Ent} (h : (getW bs i 2 false).2.1 = 0) (hn : (getW bs i 2 false).1 = (n : Int)) (h1 : 1 ≤ n) (h2 : n ≤ 1024) (he : entsR bs n n [ent0] (getW bs i 2 false).2.2 = (es, 0, j))
    (hl : es.length = n ∨ es.length = n + 1 ∧ (es[n - 1]?.getD ent0).tag = 5) : (checkP (arrE n es) = true → readP bs i = (es, 0, j) ∧ es.length = n ∧ arrE n es = es) ∧ (checkP (arrE n es) = false → readP bs i = ([], 70, j)) := by
  have e1 : readP bs i = if (n : Int) < (es.length : Int) ∨ checkP es = false then ([], 70, j) else (es, 0, j) := by
    unfold readP
    simp only
    rw [if_neg (by rw [h]; simp), if_neg (by omega), hn, Int.toNat_natCast, he, if_neg (by simp)]
  rcases hl with hl | ⟨hl, h5⟩
  · have ha := arrE_full hl
    rw [ha]
    constructor
    · intro hc
      rw [e1, if_neg (by rw [hc, hl]; simp)]
      exact ⟨rfl, hl, rfl⟩
    · intro hc
      rw [e1, if_pos (.inr hc)]
  · have hbad : checkP (arrE n es) = false := by
      cases hc : checkP (arrE n es) with
      | false => rfl
      | true =>
        exfalso
        have hr := ((checkP_all _).1 hc).2 (n - 1) (by rw [arrE_len]; omega)
        have hat : atE (arrE n es) ((n - 1 : Nat) : Int) = es[n - 1]?.getD ent0 := by
          rw [atE_nat, arrE_at, if_pos (by omega)]
          rfl
        unfold rightAt at hr
        rw [hat, arrE_len] at hr
        split at hr
        · rw [decide_eq_true_eq] at hr
          rw [hr] at h5
          simp [ent0] at h5
        · rw [Bool.and_eq_true] at hr
          have := hr.2
          rw [h5] at this
          simp at this
          omega
    constructor
    · intro hc
      rw [hc] at hbad
      cases hbad
    · intro _
      rw [e1, if_pos (.inl (by omega))]

set_option maxHeartbeats 6400000 in
set_option maxRecDepth 100000 in
theorem kreadPool_any (F : Nat → Prop) (w : World) (B z : Nat) (bs : List UInt8) (i : Nat) (h : RD F w B z bs i) (hB : B ≤ w.heap.size) (hs : bs.length ≤ 1000000) (hi : i ≤ bs.length) :
    Calls Tryz.prog 146 #[.pointer (some ⟨z, 0, none⟩)] w fun e w' => (∃ v, e = .returned (.tuple #[v, .int .i64 (readP bs i).2.1]) ∧ ((readP bs i).2.1 = 0 → ∃ q, v = .slice (some ⟨q, 0, none⟩) (readP bs i).1.length (readP bs i).1.length ∧ w.heap.size ≤ q ∧ w'.heap[q]? = some (.cells (ev (readP bs i).1).toArray 55 (0, 0)))) ∧
      ∃ i', RS F w B z bs i' w' ∧ ((readP bs i).2.1 = 0 → i' = (readP bs i).2.2) := by
  have HU := hide (rs_u (RS.start h) 2 (by omega) hi (by omega))
  have hle : (getW bs i 2 false).2.2 ≤ bs.length := getW_le hi
  by_cases h0 : (getW bs i 2 false).2.1 = 0
  case neg =>
    have e1 := readP_bad h0
    rw [e1]
    clear e1
    have hne : ((getW bs i 2 false).2.1 == 0) = false := by simpa using h0
    have hne' : ((getW bs i 2 false).2.1 != 0) = true := by simpa using h0
    have HN0 := hide h0
    generalize getW bs i 2 false = G at *
    obtain ⟨G1, G2, G3⟩ := G
    simp only at HU hne hne' HN0 ⊢
    clear h h0
    go_enter Tryz.func146, Tryz.ntmps146
    go_wp2_with fail
    refine (unhide HU).mono ?_
    rintro e w1 ⟨rfl, S1⟩
    have SS1 := hide S1
    clear S1 HU
    go_wp2
    go_ret2
    exact ⟨⟨_, rfl, fun e => absurd e (unhide HN0)⟩, G3, unhide SS1, fun _ => rfl⟩
  by_cases hn : (getW bs i 2 false).1 < 1 ∨ 1024 < (getW bs i 2 false).1
  case pos =>
    have e1 := readP_none h0 hn
    rw [e1]
    rw [h0] at HU
    clear e1 h0 h
    generalize (getW bs i 2 false).1 = G1 at *
    generalize (getW bs i 2 false).2.2 = G3 at *
    rcases hn with hn | hn
    · go_enter Tryz.func146, Tryz.ntmps146
      go_wp2_with fail
      refine (unhide HU).mono ?_
      rintro e w1 ⟨rfl, S1⟩
      have SS1 := hide S1
      clear S1 HU
      go_wp2
      go_ret2
      exact ⟨⟨_, rfl, fun e => absurd e (by simp)⟩, G3, unhide SS1, fun _ => rfl⟩
    · have hn1 : ¬ G1 < 1 := by omega
      go_enter Tryz.func146, Tryz.ntmps146
      go_wp2_with fail
      refine (unhide HU).mono ?_
      rintro e w1 ⟨rfl, S1⟩
      have SS1 := hide S1
      clear S1 HU
      go_wp2
      go_ret2
      exact ⟨⟨_, rfl, fun e => absurd e (by simp)⟩, G3, unhide SS1, fun _ => rfl⟩
  obtain ⟨n, hnn⟩ : ∃ n : Nat, (getW bs i 2 false).1 = (n : Int) := ⟨(getW bs i 2 false).1.toNat, by omega⟩
  have hn1 : 1 ≤ n := by omega
  have hn2 : n ≤ 1024 := by omega
  have HEND := hide (fun es j => readP_end (es := es) (j := j) h0 hnn hn1 hn2)
  have HERR := hide (fun es E => readP_err (es := es) (E := E) (j := 0) h0 hnn hn1 hn2)
  rw [h0, hnn] at HU
  clear h0 hn hnn h
  generalize (getW bs i 2 false).2.2 = G3 at *
  generalize readP bs i = RP at *
  have hm := make_ents n hn2
  have n1 : ¬ (n : Int) < 1 := by omega
  have n2 : ¬ (1024 : Int) < (n : Int) := by omega
  go_enter Tryz.func146, Tryz.ntmps146
  go_wp2_with fail
  refine (unhide HU).mono ?_
  rintro e w1 ⟨rfl, S1⟩
  have b1 : Below w1.heap.size w1 (w1.alloc (.cells (ev (List.replicate n ent0)).toArray 55)) := (Below.refl _ _).alloc (Nat.le_refl _) _
  have hw1 : w.heap.size ≤ w1.heap.size := S1.fr.below.size
  have Q0 : Hid (RQ F w B z bs G3 w1.heap.size (arrE n [ent0]) (w1.alloc (.cells (ev (List.replicate n ent0)).toArray 55))) := by
    obtain ⟨F1, r1, r2⟩ := S1.ex
    refine ⟨⟨F1, krd_below r1 b1, fun e => by have := (krd_lt r1 _ e).2; omega, r2⟩, (S1.below hB b1).fr, (S1.below hB b1).kp, ?_⟩
    rw [arrE_zero n hn1]
    exact heap_alloc_last w1 _
  clear S1 HU b1
  go_wp2
  generalize w1.alloc (.cells (ev (List.replicate n ent0)).toArray 55) = w2 at *
  generalize w1.heap.size = q at *
  clear hm
  go_loopw [7] (fun ii wr => ∃ (es : List Ent) (f j : Nat), ii = .int .i64 (es.length : Int) ∧ entsR bs n f es j = entsR bs n n [ent0] G3 ∧ n - es.length ≤ f ∧ j ≤ bs.length ∧ (es.length ≤ n ∨ es.length = n + 1 ∧ (es[n - 1]?.getD ent0).tag = 5) ∧ 1 ≤ es.length ∧ EntsFit7 es ∧ RQ F w B z bs j q (arrE n es) wr) (fun ii _ => n + 1 - (intOf ii).toNat)
  case atStart => exact ⟨[ent0], n, G3, rfl, rfl, by simp, hle, .inl (by simpa using hn1), by simp, ⟨fun y hy => by simp at hy; subst hy; decide, fun y hy => by simp at hy; subst hy; exact fit0⟩, unhide Q0⟩
  case round =>
    obtain ⟨es, f, j, rfl, hen, hf, hj, hlen, hpos, hfit, hQ⟩ := hrel
    by_cases hlt : es.length < n
    case neg =>
      have hl2 : es.length = n ∨ es.length = n + 1 ∧ (es[n - 1]?.getD ent0).tag = 5 := by omega
      rw [entsR_stop (by omega)] at hen
      obtain ⟨hyes, hno⟩ := unhide HEND es j hen.symm hl2
      have hfa : EntsFit7 (arrE n es) := by
        have key : ∀ y ∈ arrE n es, y ∈ es ∨ y = ent0 := fun y hy => by
          obtain ⟨k, hk⟩ := List.mem_iff_getElem?.1 hy
          rw [arrE_at] at hk
          split at hk
          · injection hk with hk
            cases hq : es[k]? with
            | none => rw [hq] at hk; exact .inr hk.symm
            | some u => rw [hq] at hk; exact .inl (hk ▸ List.mem_of_getElem? hq)
          · cases hk
        refine ⟨fun y hy => ?_, fun y hy => ?_⟩
        · rcases key y hy with e | e
          · exact hfit.1 y e
          · rw [e]; decide
        · rcases key y hy with e | e
          · exact hfit.2 y e
          · rw [e]; exact fit0
      have HC := hide (kCheck_any wr (some ⟨q, 0, none⟩) n n (arrE n es) (hQ.es (arrE_len n es)) (by omega) hfa)
      have HQ := hide hQ
      have HY := hide hyes
      have HN := hide hno
      have hlt' : ¬ (es.length : Int) < (n : Int) := by omega
      clear hQ hyes hno hen hfa hfit Q0 HEND HERR
      cases hc : checkP (arrE n es)
      case true =>
        rw [hc, if_pos rfl] at HC
        obtain ⟨e1, e2, e3⟩ := unhide HY hc
        have E1 := hide e1
        have E2 := hide e2
        have E3 := hide e3
        clear e1 e2 e3 hc HY HN hl2
        generalize es.length = L at *
        go_wp2_with fail
        refine (unhide HC).mono ?_
        rintro e w4 ⟨rfl, f4⟩
        have Q4 := hide ((unhide HQ).below hB f4)
        clear HC f4 HQ
        go_wp2
        go_ret2
        have q4 := unhide Q4
        rw [unhide E3] at q4
        rw [unhide E1]
        refine ⟨⟨_, rfl, fun _ => ⟨q, ?_, hw1, q4.blk⟩⟩, j, q4.done, fun _ => rfl⟩
        have hL : es.length = n := by
          have := congrArg List.length (unhide E3)
          rw [arrE_len] at this
          exact this.symm
        show Value.slice _ _ _ = Value.slice _ es.length es.length
        rw [hL]
      case false =>
        rw [hc, if_neg (by simp)] at HC
        have E1 := hide (unhide HN hc)
        clear hc HY HN hl2
        generalize es.length = L at *
        go_wp2_with fail
        refine (unhide HC).mono ?_
        rintro e w4 ⟨rfl, f4⟩
        have Q4 := hide ((unhide HQ).below hB f4)
        clear HC f4 HQ
        go_wp2
        go_ret2
        rw [unhide E1]
        exact ⟨⟨_, rfl, fun e => absurd e (by simp)⟩, j, (unhide Q4).done, fun _ => rfl⟩
    case pos =>
      have hlt1 : (es.length : Int) < (n : Int) := by omega
      obtain ⟨f', rfl⟩ : ∃ f', f = f' + 1 := ⟨f - 1, by omega⟩
      obtain ⟨F', r1, r2, r3⟩ := hQ.ex
      have HC := hide (kreadEntry_any F' wr B z bs j r1 (Nat.le_trans hB hQ.fr.below.size) (by omega) hj)
      have hjl := entR_le (bs := bs) hj
      have hef := entR_fit (bs := bs) (i := j) hs
      have HST := hide (fun h0 => entsR_step (bs := bs) (n := n) (f := f') (es := es) (j := j) hlt h0)
      have HER := hide (fun h0 => entsR_err (bs := bs) (n := n) (f := f') (es := es) (j := j) hlt h0)
      have HQ := hide hQ
      have HEN := hide hen
      have HFT := hide hfit
      have hR2 := hide r2
      have hR3 := hide r3
      clear hQ hen hfit r1 r2 r3 Q0
      generalize entR bs j = G at *
      obtain ⟨⟨xt, xtx, xn, xa, xb⟩, G2, J2⟩ := G
      unfold entV at HC
      simp only at HC hjl hef HST HER
      obtain ⟨xs, hxs⟩ : ∃ xs, (⟨xtx.toArray⟩ : ByteArray) = xs := ⟨_, rfl⟩
      rw [hxs] at HC
      have HXS := hide hxs
      clear hxs
      have HK : Hid (∃ K, K = es.length) := ⟨_, rfl⟩
      obtain ⟨K, hK⟩ := unhide HK
      rw [← hK] at hlt1 ⊢
      have hK0 : (0 : Int) ≤ (K : Int) := by omega
      have HKK := hide hK
      clear hK HK
      go_wp2_with fail
      refine (unhide HC).mono ?_
      rintro e w4 ⟨rfl, S4⟩
      have q4 := (unhide HQ).call (unhide hR2) (unhide hR3) S4
      have q5 := q4.store hB hw1 K ⟨xt, xtx, xn, xa, xb⟩ (by rw [arrE_len]; have := unhide HKK; omega)
      simp only at q5
      rw [unhide HXS] at q5
      have hb4 := q4.blk
      have cell : ∀ t, t < n * 5 → ∃ u, w4.cell? ⟨q, t, none⟩ = some u := fun t ht => by
        rw [cell_of_row _ _ _ _ _ _ hb4]
        refine ⟨_, Array.getElem?_eq_getElem (by simp [ev_len, arrE_len]; omega)⟩
      have hKn : K < n := by have := unhide HKK; omega
      obtain ⟨u0, c0⟩ := cell (K * 5) (by omega)
      obtain ⟨u1, c1⟩ := cell (K * 5 + 1) (by omega)
      obtain ⟨u2, c2⟩ := cell (K * 5 + 2) (by omega)
      obtain ⟨u3, c3⟩ := cell (K * 5 + 3) (by omega)
      obtain ⟨u4, c4⟩ := cell (K * 5 + 4) (by omega)
      have fz : ∀ t, w4.frozen? ⟨q, t, none⟩ = false := fun t => frozen_of_row _ _ _ _ _ hb4
      have Q4 := hide q4
      have Q5 := hide q5
      clear HC S4 q4 q5 hb4 cell HQ hR2 hR3
      by_cases h0 : G2 = 0
      case neg =>
        have hne : (G2 == 0) = false := by simpa using h0
        have hne' : (G2 != 0) = true := by simpa using h0
        have E1 := hide (unhide HERR es (G2, J2) ((unhide HEN).symm.trans (unhide HER h0)) h0)
        have HG0 := hide h0
        clear h0 HST HER HEN HEND HERR
        go_wp2
        go_ret2
        rw [unhide E1]
        exact ⟨⟨_, rfl, fun e => absurd e (unhide HG0)⟩, J2, (unhide Q5).done, fun _ => rfl⟩
      case pos =>
        subst h0
        have HEN2 := hide ((unhide HST rfl).symm.trans (unhide HEN))
        have HN : Hid (∀ W, Calls Tryz.prog 135 #[.int .i64 xt] W fun e w' => e = .returned (.int .i64 (if xt = 5 then 2 else 1)) ∧ w' = W) := fun W => knumbers_any W xt
        clear HST HER HEN HEND HERR Q4
        go_wp2_with fail
        have hwe := withE_eq es ⟨xt, xtx, xn, xa, xb⟩
        have hKe := unhide HKK
        have Q6 : Hid (RQ F w B z bs J2 q (arrE n (withE es ⟨xt, xtx, xn, xa, xb⟩)) (((((w4.setCell ⟨q, K * 5, none⟩ (.int .i64 xt)).setCell ⟨q, K * 5 + 1, none⟩ (.string xs)).setCell ⟨q, K * 5 + 2, none⟩ (.int .i64 xn)).setCell ⟨q, K * 5 + 3, none⟩ (.int .i64 xa)).setCell ⟨q, K * 5 + 4, none⟩ (.int .i64 xb))) := by
          have := unhide Q5
          rw [hKe, ← arrE_with (by omega)] at this
          rw [hKe]
          exact this
        have HFT2 := hide ((unhide HFT).more hef)
        generalize ((((w4.setCell ⟨q, K * 5, none⟩ (.int .i64 xt)).setCell ⟨q, K * 5 + 1, none⟩ (.string xs)).setCell ⟨q, K * 5 + 2, none⟩ (.int .i64 xn)).setCell ⟨q, K * 5 + 3, none⟩ (.int .i64 xa)).setCell ⟨q, K * 5 + 4, none⟩ (.int .i64 xb) = w5 at *
        have HL5 : Hid (xt = 5 → (withE es ⟨xt, xtx, xn, xa, xb⟩).length = K + 2 ∧ ((withE es ⟨xt, xtx, xn, xa, xb⟩)[K]?.getD ent0).tag = 5) := fun h5 => by
          rw [hwe, if_pos h5, List.length_append, ← hKe]
          refine ⟨rfl, ?_⟩
          rw [List.getElem?_append_right (by omega), hKe, Nat.sub_self]
          exact h5
        have HL1 : Hid (xt ≠ 5 → (withE es ⟨xt, xtx, xn, xa, xb⟩).length = K + 1) := fun h5 => by
          rw [hwe, if_neg h5, List.length_append, ← hKe]
          rfl
        generalize withE es ⟨xt, xtx, xn, xa, xb⟩ = es' at *
        refine (unhide HN w5).mono ?_
        rintro e w6 ⟨rfl, e0⟩
        have e0' := e0.symm
        clear e0
        subst e0'
        clear Q5 HFT hwe hKe c0 c1 c2 c3 c4 fz HN hef
        have hf2 : n - K ≤ f' + 1 := by have := unhide HKK; omega
        by_cases h5 : xt = 5
        · rw [if_pos h5]
          obtain ⟨l1, l2⟩ := unhide HL5 h5
          have L1 := hide l1
          have L2 := hide l2
          clear HL5 HL1 l1 l2 h5
          go_wp2
          go_roundw
          case rel =>
            have l1 := unhide L1
            refine ⟨es', f', J2, ?_, unhide HEN2, by omega, hjl, ?_, by omega, unhide HFT2, unhide Q6⟩
            · rw [l1]
              first | rfl | go_num
            · by_cases hb : K + 2 ≤ n
              · exact .inl (by omega)
              · refine .inr ⟨by omega, ?_⟩
                rw [show n - 1 = K by omega]
                exact unhide L2
          case measure => simp [intOf]; omega
        · rw [if_neg h5]
          have L1 := hide (unhide HL1 h5)
          clear HL5 HL1 h5
          go_wp2
          go_roundw
          case rel =>
            have l1 := unhide L1
            refine ⟨es', f', J2, ?_, unhide HEN2, by omega, hjl, .inl (by omega), by omega, unhide HFT2, unhide Q6⟩
            rw [l1]
            first | rfl | go_num
          case measure => simp [intOf]; omega

end Go.Proofs.YthhdfokcciibmaaGreatDoor

/- The landed pool: Read; its reader and its writer keep their contracts. -/
namespace Go.Proofs.YthhdfokcciibmaaGreatDoor
open Go.RowKit
set_option linter.unusedVariables false

theorem readP_nil {bs : List UInt8} {i : Nat} (h : (readP bs i).2.1 ≠ 0) : (readP bs i).1 = [] := by
  unfold readP at h ⊢
  simp only at h ⊢
  split
  · rfl
  · rename_i h1
    rw [if_neg h1] at h
    split
    · rfl
    · rename_i h2
      rw [if_neg h2] at h
      split
      · rfl
      · rename_i h3
        rw [if_neg h3] at h
        split
        · rfl
        · rename_i h4
          rw [if_neg h4] at h
          have h3' : (entsR bs (getW bs i 2 false).1.toNat (getW bs i 2 false).1.toNat [ent0] (getW bs i 2 false).2.2).2.1 = 0 := by simpa using h3
          exact absurd h3' h
theorem readP_le {bs : List UInt8} {i : Nat} (h : (readP bs i).2.1 = 0) : (readP bs i).1.length ≤ 1024 := by
  unfold readP at h ⊢
  simp only at h ⊢
  split
  · simp
  · rename_i h1
    rw [if_neg h1] at h
    split
    · simp
    · rename_i h2
      rw [if_neg h2] at h
      split
      · simp
      · rename_i h3
        rw [if_neg h3] at h
        split
        · simp
        · rename_i h4
          omega

/-- A pool that was read, as it lies in memory. -/
def PB (w : World) (a : Option Addr) (c : Nat) (l : List Ent) : Prop := (a = none ∧ c = 0 ∧ l = []) ∨ ∃ q, a = some ⟨q, 0, none⟩ ∧ c = l.length ∧ w.heap[q]? = some (.cells (ev l).toArray 55 (0, 0))
set_option maxHeartbeats 3200000 in
set_option maxRecDepth 100000 in
theorem kRead_all (F : Nat → Prop) (w : World) (B x : Nat) (bs : List UInt8) (i : Nat) (h : RD F w B x bs i) (hs : bs.length ≤ 1000000) (hi : i ≤ bs.length) :
    Calls Tryz.prog 130 #[.pointer (some ⟨x, 0, none⟩)] w fun e w' => (∃ a c, e = .returned (.tuple #[.slice a (readP bs i).1.length c, .int .i64 (readP bs i).2.1]) ∧ EArg w' a (readP bs i).1.length c (readP bs i).1 ∧ PB w' a c (readP bs i).1) ∧ ((readP bs i).2.1 = 0 → ∃ F', RD F' w' B x bs (readP bs i).2.2 ∧ ∀ j, F' j → F j ∨ w.heap.size ≤ j) ∧ Fr6 F B w w' ∧ ((readP bs i).2.1 ≠ 0 → RD F w' B x bs i) ∧ Kx x w w' := by
  obtain ⟨y, c, rfl, hS⟩ := h
  have hxl := hS.xlt
  have hyl := hS.y
  have hxy := hS.ne
  have hBx := hS.hx
  have hB : B ≤ w.heap.size := Nat.le_trans hBx (Nat.le_of_lt hxl)
  have b0 : Below w.heap.size w (w.alloc (.cells #[.slice (some ⟨y, 0, none⟩) bs.length c, .int .i64 (i : Int)] 159)) := (Below.refl _ _).alloc (Nat.le_refl _) _
  have hz0 := heap_alloc_last w (.cells #[.slice (some ⟨y, 0, none⟩) bs.length c, .int .i64 (i : Int)] 159)
  have R0 : RD (fun k => k = w.heap.size ∨ k = y) (w.alloc (.cells #[.slice (some ⟨y, 0, none⟩) bs.length c, .int .i64 (i : Int)] 159)) B w.heap.size bs i :=
    ⟨y, c, rfl, hB, by omega, hz0, (hS.below b0).row⟩
  have HP := hide (kreadPool_any _ _ B w.heap.size bs i R0 (Nat.le_trans hB b0.size) hs hi)
  have c0 := hS.c0
  have c1 := hS.c1
  have hsz0 : (w.alloc (.cells #[.slice (some ⟨y, 0, none⟩) bs.length c, .int .i64 (i : Int)] 159)).heap.size = w.heap.size + 1 := by simp
  have HS := hide hS
  have B0 := hide b0
  have HSZ := hide hsz0
  clear hS R0 hz0 b0 hsz0
  have HNIL := hide (readP_nil (bs := bs) (i := i))
  have HLE := hide (readP_le (bs := bs) (i := i))
  generalize readP bs i = RP at *
  obtain ⟨L, E, J⟩ := RP
  simp only at HP HNIL HLE ⊢
  by_cases h0 : E = 0
  case neg =>
    have hne : (E == 0) = false := by simpa using h0
    have hne' : (E != 0) = true := by simpa using h0
    have hL := unhide HNIL h0
    subst hL
    have HE0 := hide h0
    clear h0 HNIL HLE
    go_enter Tryz.func130, Tryz.ntmps130
    go_wp2_with fail
    generalize w.alloc (.cells #[.slice (some ⟨y, 0, none⟩) bs.length c, .int .i64 (i : Int)] 159) = w0 at *
    refine (unhide HP).mono ?_
    rintro e w1 ⟨⟨v, rfl, _⟩, i', S1, _⟩
    have fr : Fr6 (fun k => k = x ∨ k = y) B w w1 := ⟨((unhide B0).mono hB).trans S1.fr.below, fun k hk hn => (S1.fr.other k (Nat.lt_of_lt_of_le hk (unhide B0).size) (fun e => e.elim (fun e => by omega) (fun e => hn (.inr e)))).trans ((unhide B0).block k hk)⟩
    have FR := hide fr
    have hb0 := (unhide B0).size
    have RD1 : Hid (RD (fun k => k = x ∨ k = y) w1 B x bs i) := ⟨y, c, rfl, (unhide HS).keep ((S1.kp x (by omega) (by omega)).trans ((unhide B0).block x hxl)) ((S1.kp y (by omega) (by omega)).trans ((unhide B0).block y hyl.2))⟩
    have KX : Hid (Kx x w w1) := fun k hk hkx => (S1.kp k (by omega) (by omega)).trans ((unhide B0).block k hk)
    clear HP S1 fr hb0
    go_wp2
    go_ret2
    exact ⟨⟨none, 0, rfl, ⟨⟨rfl, .inl rfl⟩, by simp, by omega, fun _ => ⟨rfl, rfl⟩⟩, .inl ⟨rfl, rfl, rfl⟩⟩, fun e => absurd e (unhide HE0), unhide FR, fun _ => unhide RD1, unhide KX⟩
  case pos =>
    subst h0
    have hL := unhide HLE rfl
    clear HNIL HLE
    go_enter Tryz.func130, Tryz.ntmps130
    go_wp2_with fail
    generalize w.alloc (.cells #[.slice (some ⟨y, 0, none⟩) bs.length c, .int .i64 (i : Int)] 159) = w0 at *
    refine (unhide HP).mono ?_
    rintro e w1 ⟨⟨v, rfl, hv⟩, i', S1, hi'⟩
    obtain ⟨q, rfl, hq, hqb⟩ := hv (by first | rfl | trivial)
    have hiJ := hi' (by first | rfl | trivial)
    subst hiJ
    have hsz := unhide HSZ
    obtain ⟨F1, ⟨y1, c1', rfl, hS1⟩, hF1⟩ := S1.ex
    have z0 := hS1.c0
    have z1 := hS1.c1
    have hxb : w1.heap[x]? = some (.cells #[.slice (some ⟨y, 0, none⟩) bs.length c, .int .i64 (i : Int)] 159 (0, 0)) := (S1.fr.other x (by omega) (fun e => e.elim (fun e => by omega) (fun e => hxy e))).trans (((unhide B0).block x hxl).trans (unhide HS).blk)
    have hxy1 : x ≠ y1 := fun e => by
      rcases hF1 y1 (.inr rfl) with e1 | e1
      · rcases e1 with e1 | e1
        · exact hS1.ne e1.symm
        · exact hxy (e.trans e1)
      · omega
    have hy1F : ∀ j, (j = x ∨ j = y1) → (j = x ∨ j = y) ∨ w.heap.size ≤ j := fun j hj => by
      rcases hj with e | e
      · exact .inl (.inl e)
      · rcases hF1 y1 (.inr rfl) with e1 | e1
        · rcases e1 with e1 | e1
          · exact absurd e1.symm hS1.ne
          · exact .inl (.inr (e.trans e1))
        · exact .inr (by omega)
    have d0 : w1.cell? ⟨x, 0, none⟩ = some (.slice (some ⟨y, 0, none⟩) bs.length c) := by rw [cell_of_row _ _ _ _ _ _ hxb]; rfl
    have d1 : w1.cell? ⟨x, 1, none⟩ = some (.int .i64 (i : Int)) := by rw [cell_of_row _ _ _ _ _ _ hxb]; rfl
    have fz : ∀ j, w1.frozen? ⟨x, j, none⟩ = false := fun j => frozen_of_row _ _ _ _ _ hxb
    have hset : ∀ k, k ≠ x → ((w1.setCell ⟨x, 0, none⟩ (.slice (some ⟨y1, 0, none⟩) bs.length c1')).setCell ⟨x, 1, none⟩ (.int .i64 (i' : Int))).heap[k]? = w1.heap[k]? := fun k hk => by
      rw [Below.heap_setCell _ _ _ _ hk, Below.heap_setCell _ _ _ _ hk]
    have hx2 : ((w1.setCell ⟨x, 0, none⟩ (.slice (some ⟨y1, 0, none⟩) bs.length c1')).setCell ⟨x, 1, none⟩ (.int .i64 (i' : Int))).heap[x]? = some (.cells #[.slice (some ⟨y1, 0, none⟩) bs.length c1', .int .i64 (i' : Int)] 159 (0, 0)) := heap_setCell_same _ x 1 _ _ _ (heap_setCell_same _ x 0 _ _ _ hxb)
    have RD2 : Hid (RD (fun k => k = x ∨ k = y1) ((w1.setCell ⟨x, 0, none⟩ (.slice (some ⟨y1, 0, none⟩) bs.length c1')).setCell ⟨x, 1, none⟩ (.int .i64 (i' : Int))) B x bs i') :=
      ⟨y1, c1', rfl, hBx, hxy1, hx2, own_of_block hS1.row (fun k hk => hset k (fun e => by
        simp only [Value.ownBlock] at hk
        injection hk with hk
        exact hxy1 (e.symm.trans hk.symm)))⟩
    have FR : Hid (Fr6 (fun k => k = x ∨ k = y) B w ((w1.setCell ⟨x, 0, none⟩ (.slice (some ⟨y1, 0, none⟩) bs.length c1')).setCell ⟨x, 1, none⟩ (.int .i64 (i' : Int)))) :=
      ⟨((((unhide B0).mono hB).trans S1.fr.below).setCell (p := ⟨x, 0, none⟩) hBx _).setCell (p := ⟨x, 1, none⟩) hBx _, fun k hk hn => (hset k (fun e => hn (.inl e))).trans ((S1.fr.other k (by omega) (fun e => e.elim (fun e => by omega) (fun e => hn (.inr e)))).trans ((unhide B0).block k hk))⟩
    have EA : Hid (EArg ((w1.setCell ⟨x, 0, none⟩ (.slice (some ⟨y1, 0, none⟩) bs.length c1')).setCell ⟨x, 1, none⟩ (.int .i64 (i' : Int))) (some ⟨q, 0, none⟩) L.length L.length L) :=
      ⟨⟨rfl, .inr ⟨q, 0, rfl, es_of_block ((hset q (by omega)).trans hqb)⟩⟩, Nat.le_refl _, by omega, fun e => by cases e⟩
    have HY := hide hy1F
    have hb0 := (unhide B0).size
    have KX : Hid (Kx x w ((w1.setCell ⟨x, 0, none⟩ (.slice (some ⟨y1, 0, none⟩) bs.length c1')).setCell ⟨x, 1, none⟩ (.int .i64 (i' : Int)))) := fun k hk hkx => (hset k hkx).trans ((S1.kp k (by omega) (by omega)).trans ((unhide B0).block k hk))
    have PQ : Hid (PB ((w1.setCell ⟨x, 0, none⟩ (.slice (some ⟨y1, 0, none⟩) bs.length c1')).setCell ⟨x, 1, none⟩ (.int .i64 (i' : Int))) (some ⟨q, 0, none⟩) L.length L) := .inr ⟨q, rfl, rfl, (hset q (by omega)).trans hqb⟩
    clear hb0
    have hxz : ¬ x = w.heap.size := by omega
    have hxz' : ¬ w.heap.size = x := by omega
    clear HP S1 hS1 hF1 hxb hset hx2 hqb hv hi' hy1F hsz
    generalize bs.length = N at *
    go_wp2
    go_ret2
    exact ⟨⟨_, _, rfl, unhide EA, unhide PQ⟩, fun _ => ⟨_, unhide RD2, unhide HY⟩, unhide FR, fun e => absurd rfl e, unhide KX⟩
theorem kRead_any (F : Nat → Prop) (w : World) (B x : Nat) (bs : List UInt8) (i : Nat) (h : RD F w B x bs i) (hs : bs.length ≤ 1000000) (hi : i ≤ bs.length) :
    Calls Tryz.prog 130 #[.pointer (some ⟨x, 0, none⟩)] w fun e w' => (∃ a c, e = .returned (.tuple #[.slice a (readP bs i).1.length c, .int .i64 (readP bs i).2.1]) ∧ EArg w' a (readP bs i).1.length c (readP bs i).1) ∧ ((readP bs i).2.1 = 0 → ∃ F', RD F' w' B x bs (readP bs i).2.2 ∧ ∀ j, F' j → F j ∨ w.heap.size ≤ j) ∧ Fr6 F B w w' :=
  (kRead_all F w B x bs i h hs hi).mono fun e w' ⟨⟨a, c, h1, h2, _⟩, h3, h4, _⟩ => ⟨⟨a, c, h1, h2⟩, h3, h4⟩

end Go.Proofs.YthhdfokcciibmaaGreatDoor
