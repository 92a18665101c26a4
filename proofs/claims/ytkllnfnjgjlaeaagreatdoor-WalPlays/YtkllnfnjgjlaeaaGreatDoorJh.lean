/- Joined: WlP13 WlP14 WlP15 WlP. -/
import Derived.Test.YtkllnfnjgjlaeaaGreatDoorJg

/- The landed log: Format; the builder of texts; what read keeps between its rounds. -/
namespace Go.Proofs.YtkllnfnjgjlaeaaGreatDoor
open Go.RowKit
set_option linter.unusedVariables false

set_option maxRecDepth 100000 in
set_option maxHeartbeats 3200000 in
theorem lFormat_any (w : World) (B p : Nat) (D : Dk) (L n : Nat) (a m : Int) (hT : Tab w) (h1 : 1 ≤ B) (hX : X w B p D) (hO : Okd D L n) (hn : n ≤ 900) (ha : -9223372036854775808 ≤ a ∧ a ≤ 9223372036854775807) (hm : -9223372036854775808 ≤ m ∧ m ≤ 9223372036854775807) :
    Calls Tryz.prog 7 #[.pointer (some ⟨p, 0, none⟩), .int .i64 a, .int .i64 m] w fun e w' => e = .returned (.int .i64 (D.fmt a m).2) ∧ X w' B p (D.fmt a m).1 ∧ Fr B w w' := by
  have hBw := hX.bw
  unfold Dk.fmt
  by_cases hp : placeOk D a m
  · rw [if_pos hp]
    have H1 := hide (lplaceOn_yes w B p D L n hX hO a m hp)
    obtain ⟨q1, q2, q3, q4⟩ := hp
    rw [hO.len] at q2 q4
    have hmo := hO.most
    obtain ⟨k, rfl⟩ : ∃ k : Nat, a = k := ⟨a.toNat, by omega⟩
    rw [Int.toNat_natCast]
    have H2 : Hid (∀ W, Below w.heap.size w W → Calls Tryz.prog 35 #[.agg #[.pointer (some ⟨p, 0, none⟩), .int .i64 (k : Int), .int .i64 m], .agg #[.int .i64 1, .int .i64 1]] W fun e w' => e = .returned (.int .i64 (D.sb k (secB (headR 1 1))).2) ∧ X w' B p (D.sb k (secB (headR 1 1))).1 ∧ Fr B w w') := fun W f => by
      have h := lrenew_any W B p D L n (tab_below hT f (by omega)) h1 (hX.below f) hO hn k (by omega) m 1 1 (by omega) (by omega)
      refine Calls.mono h ?_
      rintro e w' ⟨rfl, x', f'⟩
      exact ⟨rfl, x', (Fr.of_below f hBw).trans f'⟩
    generalize D.sb k (secB (headR 1 1)) = R at *
    clear hX hO hT
    go_enter Tryz.func7, Tryz.ntmps7
    go_wp2_with fail
    refine (unhide H1).mono ?_
    rintro e w1 ⟨rfl, f1⟩
    have H3 := hide (unhide H2 (w1.alloc (.cells #[.pointer (some ⟨p, 0, none⟩), .int .i64 (k : Int), .int .i64 m] 70)) (bA f1 _))
    clear H1 H2 f1
    go_wp2_with fail
    refine (unhide H3).mono ?_
    rintro e w2 ⟨rfl, x2, f2⟩
    have X2 := hide x2
    have F2 := hide f2
    clear x2 f2 H3
    go_wp2
    go_ret
    exact ⟨rfl, unhide X2, unhide F2⟩
  · rw [if_neg hp]
    have H1 := hide (lplaceOn_no w B p D L n hX hO a m hp ha hm)
    have HX := hide hX
    clear hX hO hT hp
    go_enter Tryz.func7, Tryz.ntmps7
    go_wp2_with fail
    refine (unhide H1).mono ?_
    rintro e w1 ⟨rfl, f1⟩
    have F1 := hide (bA f1 (.cells #[.pointer none, .int .i64 0, .int .i64 0] 70))
    clear H1 f1
    go_wp2
    go_ret
    exact ⟨rfl, (unhide HX).below (unhide F1), Fr.of_below (unhide F1) hBw⟩

/-- A builder at block b, of these bytes. -/
def Bd (w : World) (B b : Nat) (l : List UInt8) : Prop := Lib.IsBuilderF 117 5 B b (Lib.byteCells l) w
theorem bd_blk {w : World} {B b : Nat} {l : List UInt8} (h : Bd w B b l) : B ≤ b ∧ ∃ c, w.heap[b]? = some (.cells c 117 (0, 0)) := by
  rcases h with ⟨hB, v, hb, _⟩ | ⟨hB, v, hb, _⟩
  · exact ⟨hB, _, hb⟩
  · exact ⟨hB, _, hb⟩
theorem bdF_keep {w w' : World} {B b : Nat} {p : Value} {bs : List Value} (h : Lib.BuilderAtF 117 5 B b p bs w) (hk : ∀ (k : Nat) (c : Array Value) (e : TypeId) (f : Nat × Nat), w.heap[k]? = some (.cells c e f) → e = 117 ∨ e = 5 → w'.heap[k]? = w.heap[k]?) : Lib.BuilderAtF 117 5 B b p bs w' := by
  obtain ⟨hB, v, hb, ho, hne⟩ := h
  refine ⟨hB, v, (hk _ _ _ _ hb (.inl rfl)).trans hb, ?_, hne⟩
  obtain ⟨h1, h2⟩ := ho
  refine ⟨h1, ?_⟩
  rcases h2 with h2 | ⟨q, cap, cur, fz, rfl, hq1, hq2, r⟩
  · exact .inl h2
  · exact .inr ⟨q, cap, cur, fz, rfl, hq1, (hk _ _ _ _ hq2 (.inr rfl)).trans hq2, r⟩
theorem Bd.keep {w w' : World} {B b : Nat} {l : List UInt8} (h : Bd w B b l) (hk : ∀ (k : Nat) (c : Array Value) (e : TypeId) (f : Nat × Nat), w.heap[k]? = some (.cells c e f) → e = 117 ∨ e = 5 → w'.heap[k]? = w.heap[k]?) : Bd w' B b l :=
  h.elim (fun x => .inl (bdF_keep x hk)) (fun x => .inr (bdF_keep x hk))
theorem Bd.below {w w' : World} {B b : Nat} {l : List UInt8} (h : Bd w B b l) (f : Below w.heap.size w w') : Bd w' B b l := h.keep (fun k c e fz hk _ => f.block k (lt_of_heap hk))
theorem bd_new (w : World) (B : Nat) (hB : B ≤ w.heap.size) : Bd (w.alloc (.cells #[.pointer none, .slice none 0 0] 117)) B w.heap.size [] :=
  .inl ⟨hB, _, heap_alloc_last w _, ⟨rfl, .inl ⟨rfl, rfl⟩⟩, by simp [Value.ownBlock]⟩
theorem byteCells_append (l m : List UInt8) : Lib.byteCells l ++ Lib.strCells ⟨m.toArray⟩ = Lib.byteCells (l ++ m) := by
  show Lib.byteCells l ++ Lib.byteCells m = _
  simp [Lib.byteCells]
set_option maxHeartbeats 800000 in
theorem bd_reset (w : World) (B b : Nat) (l : List UInt8) (h : Bd w B b l) :
    Calls Tryz.prog 79 #[.pointer (some ⟨b, 0, none⟩)] w fun e w' => ∃ u, e = .returned u ∧ Bd w' B b [] ∧ (∀ k, k ≠ b → w'.heap[k]? = w.heap[k]?) ∧ Below b w w' := by
  have hx : ∃ p v, B ≤ b ∧ w.heap[b]? = some (.cells #[p, v] 117 (0, 0)) ∧ p.oneCell' = true ∧ v.oneCell' = true := by
    rcases h with ⟨hB, v, hb, ho, _⟩ | ⟨hB, v, hb, ho, _⟩
    · refine ⟨_, v, hB, hb, rfl, ?_⟩
      rcases ho.2 with ⟨rfl, _⟩ | ⟨q, cap, cur, fz, rfl, _⟩ <;> rfl
    · refine ⟨_, v, hB, hb, rfl, ?_⟩
      rcases ho.2 with ⟨rfl, _⟩ | ⟨q, cap, cur, fz, rfl, _⟩ <;> rfl
  obtain ⟨p, v, hB, hb, o1, o2⟩ := hx
  have c0 : w.cell? ⟨b, 0, none⟩ = some p := by rw [cell_of_row _ _ _ _ _ _ hb]; rfl
  have c1 : w.cell? ⟨b, 1, none⟩ = some v := by rw [cell_of_row _ _ _ _ _ _ hb]; rfl
  have f0 : w.frozen? ⟨b, 0, none⟩ = false := frozen_of_row _ _ _ _ _ hb
  have f1 : w.frozen? ⟨b, 1, none⟩ = false := frozen_of_row _ _ _ _ _ hb
  have hset := two_set (.pointer none) (.slice none 0 0) hb
  have h2 := heap_setCell_same _ b 1 _ _ (.slice none 0 0) (heap_setCell_same w b 0 _ _ (.pointer none) hb)
  have HF : Hid (Bd ((w.setCell ⟨b, 0, none⟩ (.pointer none)).setCell ⟨b, 1, none⟩ (.slice none 0 0)) B b [] ∧ (∀ k, k ≠ b → ((w.setCell ⟨b, 0, none⟩ (.pointer none)).setCell ⟨b, 1, none⟩ (.slice none 0 0)).heap[k]? = w.heap[k]?) ∧ Below b w ((w.setCell ⟨b, 0, none⟩ (.pointer none)).setCell ⟨b, 1, none⟩ (.slice none 0 0))) := by
    refine ⟨.inl ⟨hB, _, h2, ⟨rfl, .inl ⟨rfl, rfl⟩⟩, by simp [Value.ownBlock]⟩, fun k hk => ?_, ?_⟩
    · exact (heap_setCell_other _ ⟨b, 1, none⟩ k _ hk).trans (heap_setCell_other _ ⟨b, 0, none⟩ k _ hk)
    · exact ((Below.refl b w).setCell (p := ⟨b, 0, none⟩) (Nat.le_refl _) _).setCell (p := ⟨b, 1, none⟩) (Nat.le_refl _) _
  clear h hset h2 hb
  go_enter Tryz.func79, Tryz.ntmps79
  go_wp2
  exact bodyPost_end (results_none Tryz.results79 _ _ _) rfl ⟨_, rfl, unhide HF⟩

theorem str_base {w : World} {base base' n : Nat} {v : Value} {xs : List Value} (h : w.ownsRow base 9 1 v n xs) (hb : base' ≤ base) : w.ownsRow base' 9 1 v n xs := by
  refine ⟨h.1, ?_⟩
  rcases h.2 with h2 | ⟨q, cap, cur, rfl, hq, r⟩
  · exact .inl h2
  · exact .inr ⟨q, cap, cur, rfl, Nat.le_trans hb hq, r⟩
theorem others_of {e : TypeId} {b k : Nat} {w w' : World} {c : Array Value} {t : TypeId} {f : Nat × Nat} (h : Lib.OthersKept e (some b) w w') (hk : w.heap[k]? = some (.cells c t f)) (ht : t ≠ e) (hb : k ≠ b) : w'.heap[k]? = w.heap[k]? := by
  rw [hk]
  refine h k _ hk (fun e' => hb (by injection e')) (fun c' fz e' => ?_)
  injection e' with _ e' _
  exact ht e'
/-- Within a round of read: the sector ahead at A, the text at Tb, the piece at Q. -/
structure RJ (w : World) (B x p A Tb Q : Nat) (g : Lg) (L : List (List UInt8)) (used : Nat) (last : Int) (opn : Bool) (part : List UInt8) (pc : Array Value) (v : Value) (W : World) : Prop where
  ahead : ∃ kk : Int, ∃ dd : ByteArray, W.heap[A]? = some (.cells #[.int .i64 last, .int .i64 kk, .bool (!opn), .string dd] 113 (0, 0))
  text : Bd W w.heap.size Tb part
  log : PL W B x p v { g with L := L, used := used }
  own : W.ownsRow w.heap.size 9 1 v L.length (L.map str)
  piece : Q = A ∨ (A ≠ Q ∧ w.heap.size ≤ Q ∧ W.heap[Q]? = some (.cells pc 113 (0, 0)))
  fr : ∀ k, k < w.heap.size → k ≠ x → W.heap[k]? = w.heap[k]?
  bel : Below x w W
  ge : x < w.heap.size ∧ w.heap.size ≤ A
theorem RJ.keep {w : World} {B x p A Tb Q : Nat} {g : Lg} {L : List (List UInt8)} {used : Nat} {last : Int} {opn : Bool} {part : List UInt8} {pc : Array Value} {v : Value} {W W' : World} (h : RJ w B x p A Tb Q g L used last opn part pc v W) (f : Below W.heap.size W W') : RJ w B x p A Tb Q g L used last opn part pc v W' := by
  obtain ⟨kk, dd, hA⟩ := h.ahead
  refine ⟨⟨kk, dd, (f.block _ (lt_of_heap hA)).trans hA⟩, h.text.below f, h.log.below f, gen_below h.own f, h.piece.imp id (fun ⟨a, b, c⟩ => ⟨a, b, (f.block _ (lt_of_heap c)).trans c⟩), fun k hk hx => ?_, h.bel.trans (f.mono (Nat.le_of_lt (lt_of_heap h.log.blk))), h.ge⟩
  exact (f.block k (Nat.lt_of_lt_of_le hk h.bel.size)).trans (h.fr k hk hx)
theorem RJ.x {w : World} {B x p A Tb Q : Nat} {g : Lg} {L : List (List UInt8)} {used : Nat} {last : Int} {opn : Bool} {part : List UInt8} {pc : Array Value} {v : Value} {W : World} {D : Dk} (h : RJ w B x p A Tb Q g L used last opn part pc v W) (hX : X w B p D) (hx : ∃ c, w.heap[x]? = some (.cells c 81 (0, 0))) : X W B p D := by
  obtain ⟨q, vs, hd⟩ := hX
  obtain ⟨c', hc'⟩ := hx
  obtain ⟨cur, hg, _⟩ := hd.row
  have ne : ∀ (k : Nat) (c : Array Value) (e : TypeId) (f : Nat × Nat), w.heap[k]? = some (.cells c e f) → e ≠ 81 → W.heap[k]? = w.heap[k]? := fun k c e f hk he => h.fr k (lt_of_heap hk) (fun e' => by
    subst e'
    rw [hk] at hc'
    injection hc' with hc'
    injection hc' with _ hc'
    exact he hc')
  refine ⟨q, vs, hd.keep (ne _ _ _ _ hd.blk (by decide)) (ne _ _ _ _ hg (by decide)) h.bel.size (fun i k hi hk => ?_)⟩
  obtain ⟨c, hc⟩ := (hd.sec i _ (List.getElem?_eq_getElem hi)).blk hk
  exact ne _ _ _ _ hc (by decide)
theorem RJ.wrote {w : World} {B x p A Tb Q : Nat} {g : Lg} {L : List (List UInt8)} {used : Nat} {last : Int} {opn : Bool} {part part' : List UInt8} {pc : Array Value} {v : Value} {W W' : World} (h : RJ w B x p A Tb Q g L used last opn part pc v W) (ht : Bd W' w.heap.size Tb part') (hb : Below w.heap.size W W') (ho : Lib.OthersKept 5 (some Tb) W W') : RJ w B x p A Tb Q g L used last opn part' pc v W' := by
  obtain ⟨kk, dd, hA⟩ := h.ahead
  obtain ⟨_, ct, hct⟩ := bd_blk h.text
  have ne : ∀ (k : Nat) (c : Array Value) (e : TypeId) (f : Nat × Nat), W.heap[k]? = some (.cells c e f) → e ≠ 5 → e ≠ 117 → W'.heap[k]? = W.heap[k]? := fun k c e f hk h1 h2 => others_of ho hk h1 (fun e' => by
    subst e'
    rw [hct] at hk
    injection hk with hk
    injection hk with _ hk
    exact h2 hk.symm)
  have hv : ∀ k, v.ownBlock = some k → W'.heap[k]? = W.heap[k]? := fun k hk => by
    obtain ⟨_, c, hc⟩ := own_blk h.own hk
    exact ne _ _ _ _ hc (by decide) (by decide)
  refine ⟨⟨kk, dd, (ne _ _ _ _ hA (by decide) (by decide)).trans hA⟩, ht, h.log.keep (ne _ _ _ _ h.log.blk (by decide) (by decide)) hv, own_of_block h.own hv, h.piece.imp id (fun ⟨a, b, c⟩ => ⟨a, b, (ne _ _ _ _ c (by decide) (by decide)).trans c⟩), fun k hk hx => ?_, h.bel.trans (hb.mono (Nat.le_of_lt h.ge.1)), h.ge⟩
  exact (hb.block k hk).trans (h.fr k hk hx)
/-- A block from w.heap.size on was written anew. -/
theorem RJ.set {w : World} {B x p A Tb Q : Nat} {g : Lg} {L : List (List UInt8)} {used : Nat} {last : Int} {opn : Bool} {part part' : List UInt8} {pc : Array Value} {v : Value} {W W' : World} (h : RJ w B x p A Tb Q g L used last opn part pc v W) (ht : Bd W' w.heap.size Tb part') (hb : Below Tb W W') (ho : ∀ k, k ≠ Tb → W'.heap[k]? = W.heap[k]?) : RJ w B x p A Tb Q g L used last opn part' pc v W' := by
  obtain ⟨kk, dd, hA⟩ := h.ahead
  obtain ⟨hTb, ct, hct⟩ := bd_blk h.text
  have ne : ∀ (k : Nat) (c : Array Value) (e : TypeId) (f : Nat × Nat), W.heap[k]? = some (.cells c e f) → e ≠ 117 → W'.heap[k]? = W.heap[k]? := fun k c e f hk h2 => ho k (fun e' => by
    subst e'
    rw [hct] at hk
    injection hk with hk
    injection hk with _ hk
    exact h2 hk.symm)
  have hv : ∀ k, v.ownBlock = some k → W'.heap[k]? = W.heap[k]? := fun k hk => by
    obtain ⟨_, c, hc⟩ := own_blk h.own hk
    exact ne _ _ _ _ hc (by decide)
  have := h.ge
  refine ⟨⟨kk, dd, (ne _ _ _ _ hA (by decide)).trans hA⟩, ht, h.log.keep (ne _ _ _ _ h.log.blk (by decide)) hv, own_of_block h.own hv, h.piece.imp id (fun ⟨a, b, c⟩ => ⟨a, b, (ne _ _ _ _ c (by decide)).trans c⟩), fun k hk hx => (ho k (by omega)).trans (h.fr k hk hx), h.bel.trans (hb.mono (by omega)), h.ge⟩
/-- A record is put behind the others. -/
theorem RJ.app {w : World} {B x p A Tb Q U : Nat} {g : Lg} {L : List (List UInt8)} {used : Nat} {last : Int} {opn : Bool} {part d : List UInt8} {pc : Array Value} {v v' : Value} {W w5 w6 : World} (h : RJ w B x p A Tb Q g L used last opn part pc v W) (hU : U ≤ g.size - 1) (hlt : used < U) (h0 : g.count = 0) (f : Below W.heap.size W w5) (hBw : B ≤ w.heap.size)
    (o6 : w6.ownsRow w.heap.size 9 1 v' (L.length + 1) (L.map str ++ [str d])) (g6 : w5.grownBy w6 v.ownBlock) :
    RJ w B x p A Tb Q g (L ++ [d]) U last opn part pc v' ((w6.setCell ⟨x, 5, none⟩ v').setCell ⟨x, 7, none⟩ (.int .i64 (U : Int))) ∧ (w6.cell? ⟨x, 5, none⟩ = some v ∧ w6.frozen? ⟨x, 5, none⟩ = false) ∧ (w6.cell? ⟨x, 7, none⟩ = some (.int .i64 (used : Int)) ∧ w6.frozen? ⟨x, 7, none⟩ = false) := by
  have h5 := h.keep f
  obtain ⟨kk, dd, hA⟩ := h5.ahead
  obtain ⟨hTb, ct, hct⟩ := bd_blk h5.text
  have hge := h.ge
  have ne : ∀ (k : Nat) (c : Array Value) (e : TypeId) (f : Nat × Nat), w5.heap[k]? = some (.cells c e f) → e ≠ 9 → w6.heap[k]? = w5.heap[k]? := fun k c e f hk he => g6.block k (lt_of_heap hk) (fun e' => by
    obtain ⟨_, c', hc'⟩ := own_blk h5.own e'.symm
    rw [hk] at hc'
    injection hc' with hc'
    injection hc' with _ hc'
    exact he hc')
  have hx6 := (ne _ _ _ _ h5.log.blk (by decide)).trans h5.log.blk
  have hw : Pw x w6 w6 (plC p v { g with L := L, used := used }) := ⟨⟨_, hx6⟩, hx6, fun _ _ => rfl, Below.refl _ _⟩
  have hw2 := (hw.set 5 v').set 7 (.int .i64 (U : Int))
  obtain ⟨s1, s2, s3, s4, s5, s6, s7, s8⟩ := h.log.small
  have o7 := hw2.own o6 (by decide)
  have hAx : A ≠ x := by omega
  refine ⟨⟨⟨kk, dd, ?_⟩, ?_, ⟨hw2.blk, ?_, h.log.bx, ?_⟩, ?_, ?_, fun k hk hx => ?_, ?_, h.ge⟩, ⟨by rw [cell_of_row _ _ _ _ _ _ hx6]; rfl, frozen_of_row _ _ _ _ _ hx6⟩, ⟨by rw [cell_of_row _ _ _ _ _ _ hx6]; rfl, frozen_of_row _ _ _ _ _ hx6⟩⟩
  · exact ((hw2.oth A hAx).trans (ne _ _ _ _ hA (by decide))).trans hA
  · refine h5.text.keep (fun k c e fz hk he => ?_)
    have hk6 := ne _ _ _ _ hk (by rcases he with rfl | rfl <;> decide)
    refine (hw2.oth k (fun e' => ?_)).trans hk6
    subst e'
    rw [h5.log.blk] at hk
    injection hk with hk
    injection hk with _ hk
    rcases he with rfl | rfl <;> exact absurd hk (by decide)
  · show World.ownsRow _ B _ _ _ (L ++ [d]).length ((L ++ [d]).map str)
    rw [List.length_append, List.map_append]
    exact str_base o7 hBw
  · refine ⟨s1, s2, s3, s4, s5, hU, ?_, ?_⟩
    · show g.count ≤ _
      omega
    · show (L ++ [d]).length ≤ U
      rw [List.length_append, List.length_singleton]
      have : L.length ≤ used := s8
      omega
  · rw [List.length_append, List.map_append]
    exact o7
  · exact h5.piece.imp id (fun ⟨a, b, c⟩ => ⟨a, b, ((hw2.oth Q (by omega)).trans (ne _ _ _ _ c (by decide))).trans c⟩)
  · refine (hw2.oth k hx).trans ?_
    have hk5 : k < w5.heap.size := Nat.lt_of_lt_of_le hk h5.bel.size
    refine (g6.block k hk5 (fun e' => ?_)).trans (h5.fr k hk hx)
    have := (own_blk h5.own e'.symm).1
    omega
  · have b1 : Below x w5 w6 := (Below.refl _ _).grown g6 (Nat.le_of_lt (lt_of_heap h5.log.blk)) (fun k hk => by have := (own_blk h5.own hk).1; omega)
    exact h5.bel.trans (b1.trans hw2.bel)

end Go.Proofs.YtkllnfnjgjlaeaaGreatDoor

/- The landed log: read. -/
namespace Go.Proofs.YtkllnfnjgjlaeaaGreatDoor
open Go.RowKit
set_option linter.unusedVariables false

theorem okPart_iff (now : Int) (i : Nat) (s : Sc) (r : Rec) : okPart now i s r ↔ okPc i r ∧ countsP now r.epoch s.last (!s.opn) = true := by
  unfold okPart okPc countsP
  cases s.opn with
  | false =>
    simp
    omega
  | true =>
    simp
    omega
/-- Between two rounds of read. -/
structure RI (w : World) (B x p A Tb N : Nat) (g : Lg) (S : List (List UInt8)) (R : Sc) (k : Nat) (W : World) : Prop where
  ex : ∃ s v Q pc, RJ w B x p A Tb Q g s.L s.used s.last s.opn s.part pc v W ∧ scanW (g.now : Int) (S.drop k) k s = R ∧ s.used ≤ k ∧ s.part.length ≤ k * 231
  le : k ≤ N
theorem RJ.cells {w : World} {B x p A Tb Q : Nat} {g : Lg} {L : List (List UInt8)} {used : Nat} {last : Int} {opn : Bool} {part : List UInt8} {v : Value} {W : World} {pe pk : Int} {pf : Bool} {pd : ByteArray} (h : RJ w B x p A Tb Q g L used last opn part #[.int .i64 pe, .int .i64 pk, .bool pf, .string pd] v W) (hQ : A ≠ Q) :
    (W.cell? ⟨x, 0, none⟩ = some (.pointer (some ⟨p, 0, none⟩)) ∧ W.cell? ⟨x, 1, none⟩ = some (.int .i64 (g.at_ : Int)) ∧ W.cell? ⟨x, 2, none⟩ = some (.int .i64 (g.size : Int)) ∧ W.cell? ⟨x, 3, none⟩ = some (.int .i64 (g.now : Int)) ∧ W.cell? ⟨x, 4, none⟩ = some (.int .i64 (g.fro : Int)) ∧ W.cell? ⟨x, 5, none⟩ = some v) ∧
    (W.cell? ⟨Q, 0, none⟩ = some (.int .i64 pe) ∧ W.cell? ⟨Q, 1, none⟩ = some (.int .i64 pk) ∧ W.cell? ⟨Q, 2, none⟩ = some (.bool pf) ∧ W.cell? ⟨Q, 3, none⟩ = some (.string pd)) := by
  obtain ⟨d0, d1, d2, d3, d4, d5, _⟩ := h.log.cells
  have hpc := (h.piece.resolve_left (fun e => hQ e.symm)).2.2
  exact ⟨⟨d0, d1, d2, d3, d4, d5⟩, by rw [cell_of_row _ _ _ _ _ _ hpc]; rfl, by rw [cell_of_row _ _ _ _ _ _ hpc]; rfl, by rw [cell_of_row _ _ _ _ _ _ hpc]; rfl, by rw [cell_of_row _ _ _ _ _ _ hpc]; rfl⟩
/-- The piece becomes the sector ahead. -/
theorem RJ.next {w : World} {B x p A Tb Q : Nat} {g : Lg} {L : List (List UInt8)} {used : Nat} {last : Int} {opn : Bool} {part : List UInt8} {v : Value} {W : World} {pe pk : Int} {pf : Bool} {pd : ByteArray} {c0 c1 c2 c3 : Value} (h : RJ w B x p A Tb Q g L used last opn part #[.int .i64 pe, .int .i64 pk, .bool pf, .string pd] v W) (hA : W.heap[A]? = some (.cells #[c0, c1, c2, c3] 113 (0, 0))) :
    RJ w B x p A Tb Q g L used pe (!pf) part #[.int .i64 pe, .int .i64 pk, .bool pf, .string pd] v ((((W.setCell ⟨A, 0, none⟩ (.int .i64 pe)).setCell ⟨A, 1, none⟩ (.int .i64 pk)).setCell ⟨A, 2, none⟩ (.bool pf)).setCell ⟨A, 3, none⟩ (.string pd)) := by
  have hs := four_set (.int .i64 pe) (.int .i64 pk) (.bool pf) (.string pd) hA
  have hoth : ∀ k, k ≠ A → ((((W.setCell ⟨A, 0, none⟩ (.int .i64 pe)).setCell ⟨A, 1, none⟩ (.int .i64 pk)).setCell ⟨A, 2, none⟩ (.bool pf)).setCell ⟨A, 3, none⟩ (.string pd)).heap[k]? = W.heap[k]? := fun k hk =>
    (heap_setCell_other _ ⟨A, 3, none⟩ k _ hk).trans ((heap_setCell_other _ ⟨A, 2, none⟩ k _ hk).trans ((heap_setCell_other _ ⟨A, 1, none⟩ k _ hk).trans (heap_setCell_other _ ⟨A, 0, none⟩ k _ hk)))
  have hbel : Below A W ((((W.setCell ⟨A, 0, none⟩ (.int .i64 pe)).setCell ⟨A, 1, none⟩ (.int .i64 pk)).setCell ⟨A, 2, none⟩ (.bool pf)).setCell ⟨A, 3, none⟩ (.string pd)) := four_below _ _ _ _ (Below.refl _ _) (Nat.le_refl _)
  have ne : ∀ (k : Nat) (c : Array Value) (e : TypeId) (f : Nat × Nat), W.heap[k]? = some (.cells c e f) → e ≠ 113 → k ≠ A := fun k c e f hk he e' => by
    subst e'
    rw [hA] at hk
    injection hk with hk
    injection hk with _ hk
    exact he hk.symm
  have hv : ∀ k, v.ownBlock = some k → ((((W.setCell ⟨A, 0, none⟩ (.int .i64 pe)).setCell ⟨A, 1, none⟩ (.int .i64 pk)).setCell ⟨A, 2, none⟩ (.bool pf)).setCell ⟨A, 3, none⟩ (.string pd)).heap[k]? = W.heap[k]? := fun k hk => by
    obtain ⟨_, c, hc⟩ := own_blk h.own hk
    exact hoth k (ne _ _ _ _ hc (by decide))
  have hge := h.ge
  refine ⟨⟨pk, pd, by rw [Bool.not_not]; exact hs⟩, h.text.keep (fun k c e f hk he => hoth k (ne _ _ _ _ hk (by rcases he with rfl | rfl <;> decide))), h.log.keep (hoth x (by omega)) hv, own_of_block h.own hv, h.piece.imp id (fun ⟨a, b, c⟩ => ⟨a, b, (hoth Q (fun e => a e.symm)).trans c⟩), fun k hk hx => (hoth k (by omega)).trans (h.fr k hk hx), h.bel.trans (hbel.mono (by omega)), hge⟩

end Go.Proofs.YtkllnfnjgjlaeaaGreatDoor

/- The landed log: Open. -/
namespace Go.Proofs.YtkllnfnjgjlaeaaGreatDoor
open Go.RowKit
set_option linter.unusedVariables false

theorem X.fx {w w' : World} {B p x : Nat} {D : Dk} (hX : X w B p D) (hx : ∃ c, w.heap[x]? = some (.cells c 81 (0, 0))) (h : ∀ k, k < w.heap.size → k ≠ x → w'.heap[k]? = w.heap[k]?) (hs : w.heap.size ≤ w'.heap.size) : X w' B p D := by
  obtain ⟨q, vs, hd⟩ := hX
  obtain ⟨c', hc'⟩ := hx
  obtain ⟨cur, hg, _⟩ := hd.row
  have ne : ∀ (k : Nat) (c : Array Value) (e : TypeId) (f : Nat × Nat), w.heap[k]? = some (.cells c e f) → e ≠ 81 → w'.heap[k]? = w.heap[k]? := fun k c e f hk he => h k (lt_of_heap hk) (fun e' => by
    subst e'
    rw [hk] at hc'
    injection hc' with hc'
    injection hc' with _ hc'
    exact he hc')
  refine ⟨q, vs, hd.keep (ne _ _ _ _ hd.blk (by decide)) (ne _ _ _ _ hg (by decide)) hs (fun i k hi hk => ?_)⟩
  obtain ⟨c, hc⟩ := (hd.sec i _ (List.getElem?_eq_getElem hi)).blk hk
  exact ne _ _ _ _ hc (by decide)
theorem head_read {D : Dk} {a : Nat} {h : Rec} (hh : D.headAt a = some h) : ∃ l, D.lasts[a]? = some l ∧ readS l = some h ∧ h.data.length = 4 := by
  unfold Dk.headAt at hh
  cases hl : D.lasts[a]? with
  | none => rw [hl] at hh; cases hh
  | some l =>
    rw [hl] at hh
    simp only at hh
    cases hr : readS l with
    | none => rw [hr] at hh; cases hh
    | some r =>
      rw [hr] at hh
      simp only at hh
      by_cases h4 : r.data.length = 4
      · rw [if_pos h4] at hh
        cases hh
        exact ⟨l, rfl, hr, h4⟩
      · rw [if_neg h4] at hh
        cases hh
theorem read_rec {l : List UInt8} {r : Rec} (h : readS l = some r) : recOk r := by
  unfold readS at h
  split at h
  · rename_i hc
    cases h
    exact (first_ok hc.1).1
  · cases h

set_option maxRecDepth 100000 in
set_option maxHeartbeats 3200000 in
theorem lOpen_place (w : World) (B p : Nat) (D : Dk) (L n : Nat) (hX : X w B p D) (hO : Okd D L n) (a m : Int) (hp : ¬ placeOk D a m) (ha : -9223372036854775808 ≤ a ∧ a ≤ 9223372036854775807) (hm : -9223372036854775808 ≤ m ∧ m ≤ 9223372036854775807) :
    Calls Tryz.prog 9 #[.pointer (some ⟨p, 0, none⟩), .int .i64 a, .int .i64 m] w fun e w' => e = .returned (.tuple #[.pointer none, .int .i64 2]) ∧ Below w.heap.size w w' := by
  have H1 := hide (lplaceOn_no w B p D L n hX hO a m hp ha hm)
  clear hX hO hp
  go_enter Tryz.func9, Tryz.ntmps9
  go_wp2_with fail
  refine (unhide H1).mono ?_
  rintro e w1 ⟨rfl, f1⟩
  have F1 := hide (bA f1 (.cells #[.pointer none, .int .i64 0, .int .i64 0] 70))
  clear H1 f1
  go_wp2
  go_ret2
  exact ⟨rfl, unhide F1⟩

set_option maxRecDepth 100000 in
set_option maxHeartbeats 3200000 in
theorem lOpen_head (w : World) (B p : Nat) (D : Dk) (L n : Nat) (hT : Tab w) (h1 : 1 ≤ B) (hX : X w B p D) (hO : Okd D L n) (k : Nat) (m : Int) (hp : placeOk D k m) (c : Int) (hc : (D.dark = true ∧ c = 10) ∨ (D.dark = false ∧ D.headAt k = none ∧ c = 40)) :
    Calls Tryz.prog 9 #[.pointer (some ⟨p, 0, none⟩), .int .i64 (k : Int), .int .i64 m] w fun e w' => e = .returned (.tuple #[.pointer none, .int .i64 c]) ∧ Below w.heap.size w w' := by
  have hBw := hX.bw
  have H1 := hide (lplaceOn_yes w B p D L n hX hO (k : Int) m hp)
  obtain ⟨q1, q2, q3, q4⟩ := hp
  have hkl : k < D.secs.length := by omega
  have H2 : Hid (∀ W, Below w.heap.size w W → Calls Tryz.prog 39 #[.agg #[.pointer (some ⟨p, 0, none⟩), .int .i64 (k : Int), .int .i64 m]] W fun e w' => e = .returned (.tuple #[.agg #[.int .i64 0, .int .i64 0], .int .i64 c]) ∧ Below w.heap.size w w') := fun W f => by
    rcases hc with ⟨hd, rfl⟩ | ⟨hd, hn, rfl⟩
    · refine (lreadHead_dark W B p D (hX.below f) k m hkl hd).mono ?_
      rintro e w' ⟨rfl, f'⟩
      exact ⟨rfl, bT f' f⟩
    · have hl : D.lasts[k]? = some (D.lasts[k]'(by rw [lasts_len]; exact hkl)) := List.getElem?_eq_getElem _
      have h256 : (D.lasts[k]'(by rw [lasts_len]; exact hkl)).length = 256 := by
        have hl2 := hl
        unfold Dk.lasts at hl2
        rw [List.getElem?_map] at hl2
        obtain ⟨sc, hsc, e⟩ := Option.map_eq_some_iff.1 hl2
        have := last_len (hO.ok _ _ hsc)
        rw [e] at this
        exact this
      have h := lreadHead_ok W B p D (tab_below hT f (by omega)) (by have := f.size; omega) (hX.below f) k m _ hl h256 hd
      rw [hn] at h
      refine Calls.mono h ?_
      rintro e w' ⟨rfl, f'⟩
      exact ⟨rfl, bT f' f⟩
  have gc : (c != 0) = true := by
    rcases hc with ⟨_, rfl⟩ | ⟨_, _, rfl⟩ <;> decide
  clear hX hO hT hc
  go_enter Tryz.func9, Tryz.ntmps9
  go_wp2_with fail
  refine (unhide H1).mono ?_
  rintro e w1 ⟨rfl, f1⟩
  have H3 := hide (unhide H2 (w1.alloc (.cells #[.pointer (some ⟨p, 0, none⟩), .int .i64 (k : Int), .int .i64 m] 70)) (bA f1 _))
  clear H1 H2 f1
  go_wp2_with fail
  refine (unhide H3).mono ?_
  rintro e w2 ⟨rfl, f2⟩
  have F2 := hide (bA f2 (.cells #[.int .i64 0, .int .i64 0] 75))
  clear H3 f2
  go_wp2
  go_ret2
  exact ⟨rfl, unhide F2⟩

end Go.Proofs.YtkllnfnjgjlaeaaGreatDoor

/- The landed log keeps the contracts that the walks of stage 4's laws ask of a log. -/
namespace Go.Proofs.YtkllnfnjgjlaeaaGreatDoor
open Go.RowKit
set_option linter.unusedVariables false

theorem opn_cases (D : Dk) (a m : Int) : (¬ placeOk D a m ∧ D.opn a m = (D, none, 2)) ∨ (placeOk D a m ∧ D.dark = true ∧ D.opn a m = (D, none, 10)) ∨ (placeOk D a m ∧ D.dark = false ∧ D.headAt a.toNat = none ∧ D.opn a m = (D, none, 40)) ∨
    (placeOk D a m ∧ D.dark = false ∧ ∃ h, D.headAt a.toNat = some h ∧ D.opn a m = (((D.found a.toNat m.toNat h).nxt D (num h.data)).1, if ((D.found a.toNat m.toNat h).nxt D (num h.data)).2.2 = 0 then some ((D.found a.toNat m.toNat h).nxt D (num h.data)).2.1 else none, ((D.found a.toNat m.toNat h).nxt D (num h.data)).2.2)) := by
  unfold Dk.opn
  by_cases hp : placeOk D a m
  · rw [if_pos hp]
    cases hd : D.dark with
    | true => exact .inr (.inl ⟨hp, rfl, if_pos rfl⟩)
    | false =>
      rw [if_neg (by decide)]
      cases hh : D.headAt a.toNat with
      | none => exact .inr (.inr (.inl ⟨hp, rfl, rfl, rfl⟩))
      | some h => exact .inr (.inr (.inr ⟨hp, rfl, h, rfl, rfl⟩))
  · exact .inl ⟨hp, if_neg hp⟩
theorem place_nat {D : Dk} {a m : Int} (hp : placeOk D a m) : ∃ k n : Nat, a = k ∧ m = n := by
  obtain ⟨h1, h2, h3, h4⟩ := hp
  exact ⟨a.toNat, m.toNat, by omega, by omega⟩

end Go.Proofs.YtkllnfnjgjlaeaaGreatDoor
