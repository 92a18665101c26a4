/- Joined: WlP13 WlP14 WlP15 WlP. -/
import Derived.Test.YtfggahkimconfaaGreatDoorJg

/- The landed log: Format; the builder of texts; what read keeps between its rounds. -/
namespace Go.Proofs.YtfggahkimconfaaGreatDoor
open Go.RowKit
set_option linter.unusedVariables false

set_option maxRecDepth 100000 in
set_option maxHeartbeats 3200000 in
theorem lFormat_any (w : World) (B p : Nat) (D : Dk) (L n : Nat) (a m : Int) (hT : Tab w) (h1 : 1 ≤ B) (hX : X w B p D) (hO : Okd D L n) (hn : n ≤ 900) (ha : -9223372036854775808 ≤ a ∧ a ≤ 9223372036854775807) (hm : -9223372036854775808 ≤ m ∧ m ≤ 9223372036854775807) :
    Calls Tryz.prog 7 #[.pointer (some ⟨p, 0, none⟩), .int .i64 a, .int .i64 m] w fun e w' => e = .returned (.int .i64 (D.fmt a m).2) ∧ X w' B p (D.fmt a m).1 ∧ Fr B w w' := by
  have hBw := hX.bw
  unfold Dk.fmt
  by_cases hp : placeOk D a m
  · rw [if_pos hp]
    have H1 := hide (lplaceOn_yes w B p D L n hX hO a m hp)
    obtain ⟨q1, q2, q3, q4⟩ := hp
    rw [hO.len] at q2 q4
    have hmo := hO.most
    obtain ⟨k, rfl⟩ : ∃ k : Nat, a = k := ⟨a.toNat, by omega⟩
    rw [Int.toNat_natCast]
    have H2 : Hid (∀ W, Below w.heap.size w W → Calls Tryz.prog 35 #[.agg #[.pointer (some ⟨p, 0, none⟩), .int .i64 (k : Int), .int .i64 m], .agg #[.int .i64 1, .int .i64 1]] W fun e w' => e = .returned (.int .i64 (D.sb k (secB (headR 1 1))).2) ∧ X w' B p (D.sb k (secB (headR 1 1))).1 ∧ Fr B w w') := fun W f => by
      have h := lrenew_any W B p D L n (tab_below hT f (by omega)) h1 (hX.below f) hO hn k (by omega) m 1 1 (by omega) (by omega)
      refine Calls.mono h ?_
      rintro e w' ⟨rfl, x', f'⟩
      exact ⟨rfl, x', (Fr.of_below f hBw).trans f'⟩
    generalize D.sb k (secB (headR 1 1)) = R at *
    clear hX hO hT
    go_enter Tryz.func7, Tryz.ntmps7
    go_wp2_with fail
    refine (unhide H1).mono ?_
    rintro e w1 ⟨rfl, f1⟩
    have H3 := hide (unhide H2 (w1.alloc (.cells #[.pointer (some ⟨p, 0, none⟩), .int .i64 (k : Int), .int .i64 m] 70)) (bA f1 _))
    clear H1 H2 f1
    go_wp2_with fail
    refine (unhide H3).mono ?_
    rintro e w2 ⟨rfl, x2, f2⟩
    have X2 := hide x2
    have F2 := hide f2
    clear x2 f2 H3
    go_wp2
    go_ret
    exact ⟨rfl, unhide X2, unhide F2⟩
  · rw [if_neg hp]
    have H1 := hide (lplaceOn_no w B p D L n hX hO a m hp ha hm)
    have HX := hide hX
    clear hX hO hT hp
    go_enter Tryz.func7, Tryz.ntmps7
    go_wp2_with fail
    refine (unhide H1).mono ?_
    rintro e w1 ⟨rfl, f1⟩
    have F1 := hide (bA f1 (.cells #[.pointer none, .int .i64 0, .int .i64 0] 70))
    clear H1 f1
    go_wp2
    go_ret
    exact ⟨rfl, (unhide HX).below (unhide F1), Fr.of_below (unhide F1) hBw⟩

/-- A builder at block b, of these bytes. -/
def Bd (w : World) (B b : Nat) (l : List UInt8) : Prop := Lib.IsBuilderF 117 5 B b (Lib.byteCells l) w
theorem bd_blk {w : World} {B b : Nat} {l : List UInt8} (h : Bd w B b l) : B ≤ b ∧ ∃ c, w.heap[b]? = some (.cells c 117 (0, 0)) := by
  rcases h with ⟨hB, v, hb, _⟩ | ⟨hB, v, hb, _⟩
  · exact ⟨hB, _, hb⟩
  · exact ⟨hB, _, hb⟩
theorem bdF_keep {w w' : World} {B b : Nat} {p : Value} {bs : List Value} (h : Lib.BuilderAtF 117 5 B b p bs w) (hk : ∀ (k : Nat) (c : Array Value) (e : TypeId) (f : Nat × Nat), w.heap[k]? = some (.cells c e f) → e = 117 ∨ e = 5 → w'.heap[k]? = w.heap[k]?) : Lib.BuilderAtF 117 5 B b p bs w' := by
  obtain ⟨hB, v, hb, ho, hne⟩ := h
  refine ⟨hB, v, (hk _ _ _ _ hb (.inl rfl)).trans hb, ?_, hne⟩
  obtain ⟨h1, h2⟩ := ho
  refine ⟨h1, ?_⟩
  rcases h2 with h2 | ⟨q, cap, cur, fz, rfl, hq1, hq2, r⟩
  · exact .inl h2
  · exact .inr ⟨q, cap, cur, fz, rfl, hq1, (hk _ _ _ _ hq2 (.inr rfl)).trans hq2, r⟩
theorem Bd.keep {w w' : World} {B b : Nat} {l : List UInt8} (h : Bd w B b l) (hk : ∀ (k : Nat) (c : Array Value) (e : TypeId) (f : Nat × Nat), w.heap[k]? = some (.cells c e f) → e = 117 ∨ e = 5 → w'.heap[k]? = w.heap[k]?) : Bd w' B b l :=
  h.elim (fun x => .inl (bdF_keep x hk)) (fun x => .inr (bdF_keep x hk))
theorem Bd.below {w w' : World} {B b : Nat} {l : List UInt8} (h : Bd w B b l) (f : Below w.heap.size w w') : Bd w' B b l := h.keep (fun k c e fz hk _ => f.block k (lt_of_heap hk))
theorem bd_new (w : World) (B : Nat) (hB : B ≤ w.heap.size) : Bd (w.alloc (.cells #[.pointer none, .slice none 0 0] 117)) B w.heap.size [] :=
  .inl ⟨hB, _, heap_alloc_last w _, ⟨rfl, .inl ⟨rfl, rfl⟩⟩, by simp [Value.ownBlock]⟩
theorem byteCells_append (l m : List UInt8) : Lib.byteCells l ++ Lib.strCells ⟨m.toArray⟩ = Lib.byteCells (l ++ m) := by
  show Lib.byteCells l ++ Lib.byteCells m = _
  simp [Lib.byteCells]
theorem bd_write (w : World) (B b : Nat) (l m : List UInt8) (h : Bd w B b l) (hl : l.length + m.length ≤ 10000000) (hBw : B ≤ w.heap.size) :
    Calls Tryz.prog 77 #[.pointer (some ⟨b, 0, none⟩), .string ⟨m.toArray⟩] w fun e w' => ∃ u, e = .returned u ∧ Bd w' B b (l ++ m) ∧ Below B w w' ∧ Lib.OthersKept 5 (some b) w w' := by
  have hs : (⟨m.toArray⟩ : ByteArray).size = m.length := by simp [ByteArray.size]
  refine (bWrite_k B b (Lib.byteCells l) ⟨m.toArray⟩ w h (by rw [hs]; simp [Lib.byteCells]; omega) hBw).mono ?_
  rintro e w' ⟨rfl, h1, h2, h3⟩
  rw [byteCells_append] at h1
  exact ⟨_, rfl, .inr h1, h2, h3⟩
set_option maxHeartbeats 800000 in
theorem bd_reset (w : World) (B b : Nat) (l : List UInt8) (h : Bd w B b l) :
    Calls Tryz.prog 79 #[.pointer (some ⟨b, 0, none⟩)] w fun e w' => ∃ u, e = .returned u ∧ Bd w' B b [] ∧ (∀ k, k ≠ b → w'.heap[k]? = w.heap[k]?) ∧ Below b w w' := by
  have hx : ∃ p v, B ≤ b ∧ w.heap[b]? = some (.cells #[p, v] 117 (0, 0)) ∧ p.oneCell' = true ∧ v.oneCell' = true := by
    rcases h with ⟨hB, v, hb, ho, _⟩ | ⟨hB, v, hb, ho, _⟩
    · refine ⟨_, v, hB, hb, rfl, ?_⟩
      rcases ho.2 with ⟨rfl, _⟩ | ⟨q, cap, cur, fz, rfl, _⟩ <;> rfl
    · refine ⟨_, v, hB, hb, rfl, ?_⟩
      rcases ho.2 with ⟨rfl, _⟩ | ⟨q, cap, cur, fz, rfl, _⟩ <;> rfl
  obtain ⟨p, v, hB, hb, o1, o2⟩ := hx
  have c0 : w.cell? ⟨b, 0, none⟩ = some p := by rw [cell_of_row _ _ _ _ _ _ hb]; rfl
  have c1 : w.cell? ⟨b, 1, none⟩ = some v := by rw [cell_of_row _ _ _ _ _ _ hb]; rfl
  have f0 : w.frozen? ⟨b, 0, none⟩ = false := frozen_of_row _ _ _ _ _ hb
  have f1 : w.frozen? ⟨b, 1, none⟩ = false := frozen_of_row _ _ _ _ _ hb
  have hset := two_set (.pointer none) (.slice none 0 0) hb
  have h2 := heap_setCell_same _ b 1 _ _ (.slice none 0 0) (heap_setCell_same w b 0 _ _ (.pointer none) hb)
  have HF : Hid (Bd ((w.setCell ⟨b, 0, none⟩ (.pointer none)).setCell ⟨b, 1, none⟩ (.slice none 0 0)) B b [] ∧ (∀ k, k ≠ b → ((w.setCell ⟨b, 0, none⟩ (.pointer none)).setCell ⟨b, 1, none⟩ (.slice none 0 0)).heap[k]? = w.heap[k]?) ∧ Below b w ((w.setCell ⟨b, 0, none⟩ (.pointer none)).setCell ⟨b, 1, none⟩ (.slice none 0 0))) := by
    refine ⟨.inl ⟨hB, _, h2, ⟨rfl, .inl ⟨rfl, rfl⟩⟩, by simp [Value.ownBlock]⟩, fun k hk => ?_, ?_⟩
    · exact (heap_setCell_other _ ⟨b, 1, none⟩ k _ hk).trans (heap_setCell_other _ ⟨b, 0, none⟩ k _ hk)
    · exact ((Below.refl b w).setCell (p := ⟨b, 0, none⟩) (Nat.le_refl _) _).setCell (p := ⟨b, 1, none⟩) (Nat.le_refl _) _
  clear h hset h2 hb
  go_enter Tryz.func79, Tryz.ntmps79
  go_wp2
  exact bodyPost_end (results_none Tryz.results79 _ _ _) rfl ⟨_, rfl, unhide HF⟩

theorem str_base {w : World} {base base' n : Nat} {v : Value} {xs : List Value} (h : w.ownsRow base 9 1 v n xs) (hb : base' ≤ base) : w.ownsRow base' 9 1 v n xs := by
  refine ⟨h.1, ?_⟩
  rcases h.2 with h2 | ⟨q, cap, cur, rfl, hq, r⟩
  · exact .inl h2
  · exact .inr ⟨q, cap, cur, rfl, Nat.le_trans hb hq, r⟩
theorem others_of {e : TypeId} {b k : Nat} {w w' : World} {c : Array Value} {t : TypeId} {f : Nat × Nat} (h : Lib.OthersKept e (some b) w w') (hk : w.heap[k]? = some (.cells c t f)) (ht : t ≠ e) (hb : k ≠ b) : w'.heap[k]? = w.heap[k]? := by
  rw [hk]
  refine h k _ hk (fun e' => hb (by injection e')) (fun c' fz e' => ?_)
  injection e' with _ e' _
  exact ht e'
/-- Within a round of read: the sector ahead at A, the text at Tb, the piece at Q. -/
structure RJ (w : World) (B x p A Tb Q : Nat) (g : Lg) (L : List (List UInt8)) (used : Nat) (last : Int) (opn : Bool) (part : List UInt8) (pc : Array Value) (v : Value) (W : World) : Prop where
  ahead : ∃ kk : Int, ∃ dd : ByteArray, W.heap[A]? = some (.cells #[.int .i64 last, .int .i64 kk, .bool (!opn), .string dd] 113 (0, 0))
  text : Bd W w.heap.size Tb part
  log : PL W B x p v { g with L := L, used := used }
  own : W.ownsRow w.heap.size 9 1 v L.length (L.map str)
  piece : Q = A ∨ (A ≠ Q ∧ w.heap.size ≤ Q ∧ W.heap[Q]? = some (.cells pc 113 (0, 0)))
  fr : ∀ k, k < w.heap.size → k ≠ x → W.heap[k]? = w.heap[k]?
  bel : Below x w W
  ge : x < w.heap.size ∧ w.heap.size ≤ A
theorem RJ.keep {w : World} {B x p A Tb Q : Nat} {g : Lg} {L : List (List UInt8)} {used : Nat} {last : Int} {opn : Bool} {part : List UInt8} {pc : Array Value} {v : Value} {W W' : World} (h : RJ w B x p A Tb Q g L used last opn part pc v W) (f : Below W.heap.size W W') : RJ w B x p A Tb Q g L used last opn part pc v W' := by
  obtain ⟨kk, dd, hA⟩ := h.ahead
  refine ⟨⟨kk, dd, (f.block _ (lt_of_heap hA)).trans hA⟩, h.text.below f, h.log.below f, gen_below h.own f, h.piece.imp id (fun ⟨a, b, c⟩ => ⟨a, b, (f.block _ (lt_of_heap c)).trans c⟩), fun k hk hx => ?_, h.bel.trans (f.mono (Nat.le_of_lt (lt_of_heap h.log.blk))), h.ge⟩
  exact (f.block k (Nat.lt_of_lt_of_le hk h.bel.size)).trans (h.fr k hk hx)
theorem RJ.x {w : World} {B x p A Tb Q : Nat} {g : Lg} {L : List (List UInt8)} {used : Nat} {last : Int} {opn : Bool} {part : List UInt8} {pc : Array Value} {v : Value} {W : World} {D : Dk} (h : RJ w B x p A Tb Q g L used last opn part pc v W) (hX : X w B p D) (hx : ∃ c, w.heap[x]? = some (.cells c 81 (0, 0))) : X W B p D := by
  obtain ⟨q, vs, hd⟩ := hX
  obtain ⟨c', hc'⟩ := hx
  obtain ⟨cur, hg, _⟩ := hd.row
  have ne : ∀ (k : Nat) (c : Array Value) (e : TypeId) (f : Nat × Nat), w.heap[k]? = some (.cells c e f) → e ≠ 81 → W.heap[k]? = w.heap[k]? := fun k c e f hk he => h.fr k (lt_of_heap hk) (fun e' => by
    subst e'
    rw [hk] at hc'
    injection hc' with hc'
    injection hc' with _ hc'
    exact he hc')
  refine ⟨q, vs, hd.keep (ne _ _ _ _ hd.blk (by decide)) (ne _ _ _ _ hg (by decide)) h.bel.size (fun i k hi hk => ?_)⟩
  obtain ⟨c, hc⟩ := (hd.sec i _ (List.getElem?_eq_getElem hi)).blk hk
  exact ne _ _ _ _ hc (by decide)
theorem RJ.wrote {w : World} {B x p A Tb Q : Nat} {g : Lg} {L : List (List UInt8)} {used : Nat} {last : Int} {opn : Bool} {part part' : List UInt8} {pc : Array Value} {v : Value} {W W' : World} (h : RJ w B x p A Tb Q g L used last opn part pc v W) (ht : Bd W' w.heap.size Tb part') (hb : Below w.heap.size W W') (ho : Lib.OthersKept 5 (some Tb) W W') : RJ w B x p A Tb Q g L used last opn part' pc v W' := by
  obtain ⟨kk, dd, hA⟩ := h.ahead
  obtain ⟨_, ct, hct⟩ := bd_blk h.text
  have ne : ∀ (k : Nat) (c : Array Value) (e : TypeId) (f : Nat × Nat), W.heap[k]? = some (.cells c e f) → e ≠ 5 → e ≠ 117 → W'.heap[k]? = W.heap[k]? := fun k c e f hk h1 h2 => others_of ho hk h1 (fun e' => by
    subst e'
    rw [hct] at hk
    injection hk with hk
    injection hk with _ hk
    exact h2 hk.symm)
  have hv : ∀ k, v.ownBlock = some k → W'.heap[k]? = W.heap[k]? := fun k hk => by
    obtain ⟨_, c, hc⟩ := own_blk h.own hk
    exact ne _ _ _ _ hc (by decide) (by decide)
  refine ⟨⟨kk, dd, (ne _ _ _ _ hA (by decide) (by decide)).trans hA⟩, ht, h.log.keep (ne _ _ _ _ h.log.blk (by decide) (by decide)) hv, own_of_block h.own hv, h.piece.imp id (fun ⟨a, b, c⟩ => ⟨a, b, (ne _ _ _ _ c (by decide) (by decide)).trans c⟩), fun k hk hx => ?_, h.bel.trans (hb.mono (Nat.le_of_lt h.ge.1)), h.ge⟩
  exact (hb.block k hk).trans (h.fr k hk hx)
/-- A block from w.heap.size on was written anew. -/
theorem RJ.set {w : World} {B x p A Tb Q : Nat} {g : Lg} {L : List (List UInt8)} {used : Nat} {last : Int} {opn : Bool} {part part' : List UInt8} {pc : Array Value} {v : Value} {W W' : World} (h : RJ w B x p A Tb Q g L used last opn part pc v W) (ht : Bd W' w.heap.size Tb part') (hb : Below Tb W W') (ho : ∀ k, k ≠ Tb → W'.heap[k]? = W.heap[k]?) : RJ w B x p A Tb Q g L used last opn part' pc v W' := by
  obtain ⟨kk, dd, hA⟩ := h.ahead
  obtain ⟨hTb, ct, hct⟩ := bd_blk h.text
  have ne : ∀ (k : Nat) (c : Array Value) (e : TypeId) (f : Nat × Nat), W.heap[k]? = some (.cells c e f) → e ≠ 117 → W'.heap[k]? = W.heap[k]? := fun k c e f hk h2 => ho k (fun e' => by
    subst e'
    rw [hct] at hk
    injection hk with hk
    injection hk with _ hk
    exact h2 hk.symm)
  have hv : ∀ k, v.ownBlock = some k → W'.heap[k]? = W.heap[k]? := fun k hk => by
    obtain ⟨_, c, hc⟩ := own_blk h.own hk
    exact ne _ _ _ _ hc (by decide)
  have := h.ge
  refine ⟨⟨kk, dd, (ne _ _ _ _ hA (by decide)).trans hA⟩, ht, h.log.keep (ne _ _ _ _ h.log.blk (by decide)) hv, own_of_block h.own hv, h.piece.imp id (fun ⟨a, b, c⟩ => ⟨a, b, (ne _ _ _ _ c (by decide)).trans c⟩), fun k hk hx => (ho k (by omega)).trans (h.fr k hk hx), h.bel.trans (hb.mono (by omega)), h.ge⟩
/-- A record is put behind the others. -/
theorem RJ.app {w : World} {B x p A Tb Q U : Nat} {g : Lg} {L : List (List UInt8)} {used : Nat} {last : Int} {opn : Bool} {part d : List UInt8} {pc : Array Value} {v v' : Value} {W w5 w6 : World} (h : RJ w B x p A Tb Q g L used last opn part pc v W) (hU : U ≤ g.size - 1) (hlt : used < U) (h0 : g.count = 0) (f : Below W.heap.size W w5) (hBw : B ≤ w.heap.size)
    (o6 : w6.ownsRow w.heap.size 9 1 v' (L.length + 1) (L.map str ++ [str d])) (g6 : w5.grownBy w6 v.ownBlock) :
    RJ w B x p A Tb Q g (L ++ [d]) U last opn part pc v' ((w6.setCell ⟨x, 5, none⟩ v').setCell ⟨x, 7, none⟩ (.int .i64 (U : Int))) ∧ (w6.cell? ⟨x, 5, none⟩ = some v ∧ w6.frozen? ⟨x, 5, none⟩ = false) ∧ (w6.cell? ⟨x, 7, none⟩ = some (.int .i64 (used : Int)) ∧ w6.frozen? ⟨x, 7, none⟩ = false) := by
  have h5 := h.keep f
  obtain ⟨kk, dd, hA⟩ := h5.ahead
  obtain ⟨hTb, ct, hct⟩ := bd_blk h5.text
  have hge := h.ge
  have ne : ∀ (k : Nat) (c : Array Value) (e : TypeId) (f : Nat × Nat), w5.heap[k]? = some (.cells c e f) → e ≠ 9 → w6.heap[k]? = w5.heap[k]? := fun k c e f hk he => g6.block k (lt_of_heap hk) (fun e' => by
    obtain ⟨_, c', hc'⟩ := own_blk h5.own e'.symm
    rw [hk] at hc'
    injection hc' with hc'
    injection hc' with _ hc'
    exact he hc')
  have hx6 := (ne _ _ _ _ h5.log.blk (by decide)).trans h5.log.blk
  have hw : Pw x w6 w6 (plC p v { g with L := L, used := used }) := ⟨⟨_, hx6⟩, hx6, fun _ _ => rfl, Below.refl _ _⟩
  have hw2 := (hw.set 5 v').set 7 (.int .i64 (U : Int))
  obtain ⟨s1, s2, s3, s4, s5, s6, s7, s8⟩ := h.log.small
  have o7 := hw2.own o6 (by decide)
  have hAx : A ≠ x := by omega
  refine ⟨⟨⟨kk, dd, ?_⟩, ?_, ⟨hw2.blk, ?_, h.log.bx, ?_⟩, ?_, ?_, fun k hk hx => ?_, ?_, h.ge⟩, ⟨by rw [cell_of_row _ _ _ _ _ _ hx6]; rfl, frozen_of_row _ _ _ _ _ hx6⟩, ⟨by rw [cell_of_row _ _ _ _ _ _ hx6]; rfl, frozen_of_row _ _ _ _ _ hx6⟩⟩
  · exact ((hw2.oth A hAx).trans (ne _ _ _ _ hA (by decide))).trans hA
  · refine h5.text.keep (fun k c e fz hk he => ?_)
    have hk6 := ne _ _ _ _ hk (by rcases he with rfl | rfl <;> decide)
    refine (hw2.oth k (fun e' => ?_)).trans hk6
    subst e'
    rw [h5.log.blk] at hk
    injection hk with hk
    injection hk with _ hk
    rcases he with rfl | rfl <;> exact absurd hk (by decide)
  · show World.ownsRow _ B _ _ _ (L ++ [d]).length ((L ++ [d]).map str)
    rw [List.length_append, List.map_append]
    exact str_base o7 hBw
  · refine ⟨s1, s2, s3, s4, s5, hU, ?_, ?_⟩
    · show g.count ≤ _
      omega
    · show (L ++ [d]).length ≤ U
      rw [List.length_append, List.length_singleton]
      have : L.length ≤ used := s8
      omega
  · rw [List.length_append, List.map_append]
    exact o7
  · exact h5.piece.imp id (fun ⟨a, b, c⟩ => ⟨a, b, ((hw2.oth Q (by omega)).trans (ne _ _ _ _ c (by decide))).trans c⟩)
  · refine (hw2.oth k hx).trans ?_
    have hk5 : k < w5.heap.size := Nat.lt_of_lt_of_le hk h5.bel.size
    refine (g6.block k hk5 (fun e' => ?_)).trans (h5.fr k hk hx)
    have := (own_blk h5.own e'.symm).1
    omega
  · have b1 : Below x w5 w6 := (Below.refl _ _).grown g6 (Nat.le_of_lt (lt_of_heap h5.log.blk)) (fun k hk => by have := (own_blk h5.own hk).1; omega)
    exact h5.bel.trans (b1.trans hw2.bel)

end Go.Proofs.YtfggahkimconfaaGreatDoor

/- The landed log: read. -/
namespace Go.Proofs.YtfggahkimconfaaGreatDoor
open Go.RowKit
set_option linter.unusedVariables false

theorem okPart_iff (now : Int) (i : Nat) (s : Sc) (r : Rec) : okPart now i s r ↔ okPc i r ∧ countsP now r.epoch s.last (!s.opn) = true := by
  unfold okPart okPc countsP
  cases s.opn with
  | false =>
    simp
    omega
  | true =>
    simp
    omega
/-- Between two rounds of read. -/
structure RI (w : World) (B x p A Tb N : Nat) (g : Lg) (S : List (List UInt8)) (R : Sc) (k : Nat) (W : World) : Prop where
  ex : ∃ s v Q pc, RJ w B x p A Tb Q g s.L s.used s.last s.opn s.part pc v W ∧ scanW (g.now : Int) (S.drop k) k s = R ∧ s.used ≤ k ∧ s.part.length ≤ k * 231
  le : k ≤ N
theorem RJ.cells {w : World} {B x p A Tb Q : Nat} {g : Lg} {L : List (List UInt8)} {used : Nat} {last : Int} {opn : Bool} {part : List UInt8} {v : Value} {W : World} {pe pk : Int} {pf : Bool} {pd : ByteArray} (h : RJ w B x p A Tb Q g L used last opn part #[.int .i64 pe, .int .i64 pk, .bool pf, .string pd] v W) (hQ : A ≠ Q) :
    (W.cell? ⟨x, 0, none⟩ = some (.pointer (some ⟨p, 0, none⟩)) ∧ W.cell? ⟨x, 1, none⟩ = some (.int .i64 (g.at_ : Int)) ∧ W.cell? ⟨x, 2, none⟩ = some (.int .i64 (g.size : Int)) ∧ W.cell? ⟨x, 3, none⟩ = some (.int .i64 (g.now : Int)) ∧ W.cell? ⟨x, 4, none⟩ = some (.int .i64 (g.fro : Int)) ∧ W.cell? ⟨x, 5, none⟩ = some v) ∧
    (W.cell? ⟨Q, 0, none⟩ = some (.int .i64 pe) ∧ W.cell? ⟨Q, 1, none⟩ = some (.int .i64 pk) ∧ W.cell? ⟨Q, 2, none⟩ = some (.bool pf) ∧ W.cell? ⟨Q, 3, none⟩ = some (.string pd)) := by
  obtain ⟨d0, d1, d2, d3, d4, d5, _⟩ := h.log.cells
  have hpc := (h.piece.resolve_left (fun e => hQ e.symm)).2.2
  exact ⟨⟨d0, d1, d2, d3, d4, d5⟩, by rw [cell_of_row _ _ _ _ _ _ hpc]; rfl, by rw [cell_of_row _ _ _ _ _ _ hpc]; rfl, by rw [cell_of_row _ _ _ _ _ _ hpc]; rfl, by rw [cell_of_row _ _ _ _ _ _ hpc]; rfl⟩
/-- The piece becomes the sector ahead. -/
theorem RJ.next {w : World} {B x p A Tb Q : Nat} {g : Lg} {L : List (List UInt8)} {used : Nat} {last : Int} {opn : Bool} {part : List UInt8} {v : Value} {W : World} {pe pk : Int} {pf : Bool} {pd : ByteArray} {c0 c1 c2 c3 : Value} (h : RJ w B x p A Tb Q g L used last opn part #[.int .i64 pe, .int .i64 pk, .bool pf, .string pd] v W) (hA : W.heap[A]? = some (.cells #[c0, c1, c2, c3] 113 (0, 0))) :
    RJ w B x p A Tb Q g L used pe (!pf) part #[.int .i64 pe, .int .i64 pk, .bool pf, .string pd] v ((((W.setCell ⟨A, 0, none⟩ (.int .i64 pe)).setCell ⟨A, 1, none⟩ (.int .i64 pk)).setCell ⟨A, 2, none⟩ (.bool pf)).setCell ⟨A, 3, none⟩ (.string pd)) := by
  have hs := four_set (.int .i64 pe) (.int .i64 pk) (.bool pf) (.string pd) hA
  have hoth : ∀ k, k ≠ A → ((((W.setCell ⟨A, 0, none⟩ (.int .i64 pe)).setCell ⟨A, 1, none⟩ (.int .i64 pk)).setCell ⟨A, 2, none⟩ (.bool pf)).setCell ⟨A, 3, none⟩ (.string pd)).heap[k]? = W.heap[k]? := fun k hk =>
    (heap_setCell_other _ ⟨A, 3, none⟩ k _ hk).trans ((heap_setCell_other _ ⟨A, 2, none⟩ k _ hk).trans ((heap_setCell_other _ ⟨A, 1, none⟩ k _ hk).trans (heap_setCell_other _ ⟨A, 0, none⟩ k _ hk)))
  have hbel : Below A W ((((W.setCell ⟨A, 0, none⟩ (.int .i64 pe)).setCell ⟨A, 1, none⟩ (.int .i64 pk)).setCell ⟨A, 2, none⟩ (.bool pf)).setCell ⟨A, 3, none⟩ (.string pd)) := four_below _ _ _ _ (Below.refl _ _) (Nat.le_refl _)
  have ne : ∀ (k : Nat) (c : Array Value) (e : TypeId) (f : Nat × Nat), W.heap[k]? = some (.cells c e f) → e ≠ 113 → k ≠ A := fun k c e f hk he e' => by
    subst e'
    rw [hA] at hk
    injection hk with hk
    injection hk with _ hk
    exact he hk.symm
  have hv : ∀ k, v.ownBlock = some k → ((((W.setCell ⟨A, 0, none⟩ (.int .i64 pe)).setCell ⟨A, 1, none⟩ (.int .i64 pk)).setCell ⟨A, 2, none⟩ (.bool pf)).setCell ⟨A, 3, none⟩ (.string pd)).heap[k]? = W.heap[k]? := fun k hk => by
    obtain ⟨_, c, hc⟩ := own_blk h.own hk
    exact hoth k (ne _ _ _ _ hc (by decide))
  have hge := h.ge
  refine ⟨⟨pk, pd, by rw [Bool.not_not]; exact hs⟩, h.text.keep (fun k c e f hk he => hoth k (ne _ _ _ _ hk (by rcases he with rfl | rfl <;> decide))), h.log.keep (hoth x (by omega)) hv, own_of_block h.own hv, h.piece.imp id (fun ⟨a, b, c⟩ => ⟨a, b, (hoth Q (fun e => a e.symm)).trans c⟩), fun k hk hx => (hoth k (by omega)).trans (h.fr k hk hx), h.bel.trans (hbel.mono (by omega)), hge⟩

set_option maxRecDepth 100000 in
set_option maxHeartbeats 6400000 in
theorem lread_any (w : World) (B x p : Nat) (D : Dk) (g : Lg) (L n : Nat) (hT : Tab w) (h1 : 1 ≤ B) (hP : PL w B x p (.slice none 0 0) g) (hX : X w B p D) (hO : Okd D L n) (hL : g.at_ + g.size ≤ L) (hd : D.dark = false) (hg : g.L = [] ∧ g.used = 0 ∧ g.count = 0) :
    Calls Tryz.prog 40 #[.pointer (some ⟨x, 0, none⟩)] w fun e w' => e = .returned (.int .i64 0) ∧ ∃ v, PL w' B x p v { g with L := (scanW (g.now : Int) (D.dataS g.at_ g.size) 0 ⟨(g.fro : Int), false, [], [], 0⟩).L, used := (scanW (g.now : Int) (D.dataS g.at_ g.size) 0 ⟨(g.fro : Int), false, [], [], 0⟩).used } ∧ (∀ k, v.ownBlock = some k → w.heap.size ≤ k) ∧ (∀ k, k < w.heap.size → k ≠ x → w'.heap[k]? = w.heap[k]?) ∧ Below x w w' := by
  have hBw := hX.bw
  have hlx := lt_of_heap hP.blk
  obtain ⟨s1, s2, s3, s4, s5, s6, s7, s8⟩ := hP.small
  obtain ⟨g1, g2, g3⟩ := hg
  obtain ⟨c0, c1, c2, c3, c4, c5, c6, c7, c8, hfz⟩ := hP.cells
  have hlen := data_len s2 (show g.at_ + g.size ≤ D.secs.length by rw [hO.len]; exact hL)
  obtain ⟨N, hN⟩ : ∃ N, N = g.size - 1 := ⟨_, rfl⟩
  rw [← hN] at hlen
  have gN : (g.size : Int) - 1 = (N : Int) := by omega
  have HSk : Hid (∀ k, k < N → ∃ l, (D.dataS g.at_ g.size)[k]? = some l ∧ l.length = 256 ∧ D.lasts[g.at_ + 1 + k]? = some l) := fun k hk => by
    obtain ⟨l, hl⟩ : ∃ l, (D.dataS g.at_ g.size)[k]? = some l := ⟨_, List.getElem?_eq_getElem (by omega)⟩
    have hl2 : D.lasts[g.at_ + 1 + k]? = some l := by
      unfold Dk.dataS at hl
      rw [List.getElem?_take, if_pos (by omega), List.getElem?_drop] at hl
      exact hl
    refine ⟨l, hl, ?_, hl2⟩
    unfold Dk.lasts at hl2
    rw [List.getElem?_map] at hl2
    obtain ⟨sc, hsc, rfl⟩ := Option.map_eq_some_iff.1 hl2
    exact last_len (hO.ok _ _ hsc)
  have HRP : Hid (∀ W k l, X W B p D → Tab W → B ≤ W.heap.size → k < N → l.length = 256 → D.lasts[g.at_ + 1 + k]? = some l → Calls Tryz.prog 75 #[.agg #[.pointer (some ⟨p, 0, none⟩), .int .i64 (g.at_ : Int), .int .i64 (g.size : Int)], .int .i64 (k : Int)] W fun e w' => e = .returned (.tuple #[pieceV k (pcOf k l), .bool (pcOf k l).isSome, .int .i64 0]) ∧ Below W.heap.size W w') := fun W k l hx ht hb hk hl hla =>
    lreadPiece_any W B p D ht (by omega) hx g.at_ k (g.size : Int) ⟨by omega, by omega⟩ l hla hl hd
  generalize hS : D.dataS g.at_ g.size = S at *
  generalize hR : scanW (g.now : Int) S 0 ⟨(g.fro : Int), false, [], [], 0⟩ = R at *
  obtain ⟨PO, hPO⟩ : ∃ PO : Ending → World → Prop, PO = fun e w' => e = .returned (.int .i64 0) ∧ ∃ v, PL w' B x p v { g with L := R.L, used := R.used } ∧ (∀ k, v.ownBlock = some k → w.heap.size ≤ k) ∧ (∀ k, k < w.heap.size → k ≠ x → w'.heap[k]? = w.heap[k]?) ∧ Below x w w' := ⟨_, rfl⟩
  have HPO : Hid (∀ W A Tb Q s pc v, RJ w B x p A Tb Q g s.L s.used s.last s.opn s.part pc v W → s = R → PO (.returned (.int .i64 0)) W) := fun W A Tb Q s pc v h e => by
    subst e
    rw [hPO]
    exact ⟨rfl, v, h.log, fun k hk => (own_blk h.own hk).1, h.fr, h.bel⟩
  rw [← hPO]
  have HXT : Hid (∀ W A Tb Q L used last opn part pc v, RJ w B x p A Tb Q g L used last opn part pc v W → X W B p D ∧ Tab W ∧ B ≤ W.heap.size) := fun W A Tb Q L used last opn part pc v h =>
    ⟨h.x hX ⟨_, hP.blk⟩, tab_below hT h.bel (by have := hP.bx; omega), Nat.le_trans hBw h.bel.size⟩
  have H1 := hide (lstart_any w (g.now : Int) (g.fro : Int))
  have HI0 : Hid (∀ w1 w2, Below w.heap.size w w1 → Below ((w1.alloc (.cells #[.int .i64 (g.fro : Int), .int .i64 0, .bool true, .string ⟨#[]⟩] 113)).alloc (.cells #[.pointer none, .slice none 0 0] 117)).heap.size ((w1.alloc (.cells #[.int .i64 (g.fro : Int), .int .i64 0, .bool true, .string ⟨#[]⟩] 113)).alloc (.cells #[.pointer none, .slice none 0 0] 117)) w2 → RI w B x p w1.heap.size (w1.heap.size + 1) N g S R 0 w2) := fun w1 w2 f1 f2 => by
    have hsz := f1.size
    have hs1 : (w1.alloc (.cells #[.int .i64 (g.fro : Int), .int .i64 0, .bool true, .string ⟨#[]⟩] 113)).heap.size = w1.heap.size + 1 := by simp
    have hA0 := (heap_alloc_old (w1.alloc (.cells #[.int .i64 (g.fro : Int), .int .i64 0, .bool true, .string ⟨#[]⟩] 113)) (.cells #[.pointer none, .slice none 0 0] 117) (r := w1.heap.size) (by simp)).trans (heap_alloc_last w1 _)
    have hbd := bd_new (w1.alloc (.cells #[.int .i64 (g.fro : Int), .int .i64 0, .bool true, .string ⟨#[]⟩] 113)) w.heap.size (by rw [hs1]; omega)
    rw [hs1] at hbd
    have f0 : Below w.heap.size w ((w1.alloc (.cells #[.int .i64 (g.fro : Int), .int .i64 0, .bool true, .string ⟨#[]⟩] 113)).alloc (.cells #[.pointer none, .slice none 0 0] 117)) := bA (bA f1 _) _
    have hg' : ({ g with L := [], used := 0 } : Lg) = g := by
      obtain ⟨a1, a2, a3, a4, a5, a6, a7, a8⟩ := g
      simp only at g1 g2
      subst g1
      subst g2
      rfl
    have hj : RJ w B x p w1.heap.size (w1.heap.size + 1) w1.heap.size g [] 0 (g.fro : Int) false [] #[] (.slice none 0 0) ((w1.alloc (.cells #[.int .i64 (g.fro : Int), .int .i64 0, .bool true, .string ⟨#[]⟩] 113)).alloc (.cells #[.pointer none, .slice none 0 0] 117)) :=
      ⟨⟨0, ⟨#[]⟩, hA0⟩, hbd, by rw [hg']; exact hP.below f0, ⟨rfl, .inl ⟨rfl, rfl⟩⟩, .inl rfl, fun k hk _ => f0.block k hk, f0.mono (by omega), ⟨hlx, by omega⟩⟩
    exact ⟨⟨⟨(g.fro : Int), false, [], [], 0⟩, .slice none 0 0, w1.heap.size, #[], hj.keep f2, by rw [List.drop_zero]; exact hR, Nat.le_refl _, Nat.le_refl _⟩, Nat.zero_le _⟩
  clear hPO hT hP hX hO hS hd hL
  go_enter Tryz.func40, Tryz.ntmps40
  go_wp2_with fail
  refine (unhide H1).mono ?_
  rintro e w1 ⟨rfl, f1⟩
  have HI1 := hide (fun w2 f2 => unhide HI0 w1 w2 f1 f2)
  have f1' : Below w.heap.size w ((w1.alloc (.cells #[.int .i64 (g.fro : Int), .int .i64 0, .bool true, .string ⟨#[]⟩] 113)).alloc (.cells #[.pointer none, .slice none 0 0] 117)) := bA (bA f1 _) _
  have e0 := (f1'.cell (World.block_lt_of_cell? _ _ c0)).trans c0
  have e1 := (f1'.cell (World.block_lt_of_cell? _ _ c1)).trans c1
  have e2 := (f1'.cell (World.block_lt_of_cell? _ _ c2)).trans c2
  have H2 := hide (lroom_any ((w1.alloc (.cells #[.int .i64 (g.fro : Int), .int .i64 0, .bool true, .string ⟨#[]⟩] 113)).alloc (.cells #[.pointer none, .slice none 0 0] 117)) (.pointer (some ⟨p, 0, none⟩)) (g.at_ : Int) (g.size : Int) (by omega) rfl)
  clear H1 f1 f1' HI0 c0 c1 c2 c3 c4 c5 c6 c7 c8 hfz
  go_upto_region 3 with fail
  generalize w1.heap.size = A at *
  generalize (w1.alloc (.cells #[.int .i64 (g.fro : Int), .int .i64 0, .bool true, .string ⟨#[]⟩] 113)).alloc (.cells #[.pointer none, .slice none 0 0] 117) = wi at *
  rw [gN] at H2
  go_wp2_with fail
  refine (unhide H2).mono ?_
  rintro e w2 ⟨rfl, f2⟩
  have HI2 := hide (unhide HI1 w2 f2)
  clear HI1 H2 f2 e0 e1 e2
  generalize A + 1 = Tb at *
  go_wp2
  go_loopw [19] (fun i wr => ∃ k : Nat, i = .int .i64 k ∧ RI w B x p A Tb N g S R k wr) (fun i _ => N - (intOf i).toNat)
  case atStart => exact ⟨0, rfl, unhide HI2⟩
  case round =>
    clear HI2
    obtain ⟨k, rfl, hI⟩ := hrel
    have hkN := hI.le
    obtain ⟨s, v, Q0, pc0, hJ, hsc, hu, hpl⟩ := hI.ex
    clear hI
    by_cases hlt : k < N
    · have hlt1 : (k : Int) < (N : Int) := by omega
      obtain ⟨l, hl1, hl2, hl3⟩ := unhide HSk k hlt
      obtain ⟨x1, t1, b1⟩ := unhide HXT _ _ _ _ _ _ _ _ _ _ _ hJ
      have H3 := hide (unhide HRP wr k l x1 t1 b1 hlt hl2 hl3)
      have hdr : S.drop k = l :: S.drop (k + 1) := by
        rw [List.drop_eq_getElem_cons (by omega)]
        congr 1
        exact (List.getElem?_eq_some_iff.1 hl1).2
      rw [hdr] at hsc
      obtain ⟨d0, d1, d2, _⟩ := hJ.log.cells
      have HJ := hide hJ
      clear hJ x1 t1 b1 hdr hl1 hl2 hl3
      cases hpo : pcOf k l with
      | none =>
        rw [hpo] at H3
        have hRs : s = R := by
          rw [← hsc]
          refine (scanW_no (fun r hr hok => ?_)).symm
          unfold pcOf at hpo
          rw [hr] at hpo
          simp only at hpo
          rw [if_pos ((okPart_iff _ _ _ _).1 hok).1] at hpo
          cases hpo
        have H3' : Hid (Calls Tryz.prog 75 #[.agg #[.pointer (some ⟨p, 0, none⟩), .int .i64 (g.at_ : Int), .int .i64 (g.size : Int)], .int .i64 (k : Int)] wr fun e w' => e = .returned (.tuple #[.agg #[.int .i64 0, .int .i64 0, .bool false, .string ⟨#[]⟩], .bool false, .int .i64 0]) ∧ Below wr.heap.size wr w') := H3
        clear H3 hpo hsc
        go_wp2_with fail
        refine (unhide H3').mono ?_
        rintro e w3 ⟨rfl, f3⟩
        have HF := hide (fun m => unhide HPO _ _ _ _ _ _ _ ((unhide HJ).keep (below_drewN (bA f3 (.cells #[.int .i64 0, .int .i64 0, .bool false, .string ⟨#[]⟩] 113)) m)) hRs)
        clear H3' f3 HJ HPO HXT HRP HSk d0 d1 d2
        go_upto_region 9 with fail
        generalize w3.alloc (.cells #[.int .i64 0, .int .i64 0, .bool false, .string ⟨#[]⟩] 113) = w4 at *
        go_quiet (fail)
        all_goals
          go_wp2
          exact unhide HF _
      | some r =>
        rw [hpo] at H3
        have hrr : readS l = some r ∧ okPc k r := by
          unfold pcOf at hpo
          cases hr : readS l with
          | none => rw [hr] at hpo; cases hpo
          | some r' =>
            rw [hr] at hpo
            simp only at hpo
            by_cases h : okPc k r'
            · rw [if_pos h] at hpo
              cases hpo
              exact ⟨rfl, h⟩
            · rw [if_neg h] at hpo
              cases hpo
        have H3' : Hid (Calls Tryz.prog 75 #[.agg #[.pointer (some ⟨p, 0, none⟩), .int .i64 (g.at_ : Int), .int .i64 (g.size : Int)], .int .i64 (k : Int)] wr fun e w' => e = .returned (.tuple #[.agg #[.int .i64 r.epoch, .int .i64 (k : Int), .bool (decide ((r.data.getD 4 0).toNat = 1)), .string ⟨(r.data.drop 5).toArray⟩], .bool true, .int .i64 0]) ∧ Below wr.heap.size wr w') := H3
        have HST : Hid (countsP (g.now : Int) r.epoch s.last (!s.opn) = false → s = R) := fun hc => by
          rw [← hsc]
          refine (scanW_no (fun r' hr' hok => ?_)).symm
          rw [hrr.1] at hr'
          cases hr'
          have := ((okPart_iff _ _ _ _).1 hok).2
          rw [hc] at this
          cases this
        have HGO : Hid (countsP (g.now : Int) r.epoch s.last (!s.opn) = true → scanW (g.now : Int) (S.drop (k + 1)) (k + 1) (s.took k r) = R) := fun hc => by
          rw [← hsc]
          exact (scanW_yes hrr.1 ((okPart_iff _ _ _ _).2 ⟨hrr.2, hc⟩)).symm
        have hdl : (r.data.drop 5).length ≤ 231 := by
          have := hrr.2.2.1
          rw [List.length_drop]
          omega
        have HTK : Hid (s.took k r = if (r.data.getD 4 0).toNat = 1 then ⟨r.epoch, false, [], s.L ++ [s.part ++ r.data.drop 5], k + 1⟩ else ⟨r.epoch, true, s.part ++ r.data.drop 5, s.L, s.used⟩) := rfl
        obtain ⟨fin, hfin⟩ : ∃ fin, fin = decide ((r.data.getD 4 0).toNat = 1) := ⟨_, rfl⟩
        rw [← hfin] at H3'
        have HTK2 : Hid ((fin = true → s.took k r = ⟨r.epoch, false, [], s.L ++ [s.part ++ r.data.drop 5], k + 1⟩) ∧ (fin = false → s.took k r = ⟨r.epoch, true, s.part ++ r.data.drop 5, s.L, s.used⟩)) := by
          refine ⟨fun h => ?_, fun h => ?_⟩
          · rw [h] at hfin
            exact (unhide HTK).trans (if_pos (of_decide_eq_true hfin.symm))
          · rw [h] at hfin
            exact (unhide HTK).trans (if_neg (of_decide_eq_false hfin.symm))
        generalize s.took k r = s' at *
        generalize hdd : r.data.drop 5 = dd at *
        generalize r.epoch = ep at *
        clear H3 hpo hsc hrr HTK hfin hdd
        go_wp2_with fail
        refine (unhide H3').mono ?_
        rintro e w3 ⟨rfl, f3⟩
        have hQ : A < w3.heap.size := by
          obtain ⟨kk, d', hA⟩ := (unhide HJ).ahead
          exact Nat.lt_of_lt_of_le (lt_of_heap hA) f3.size
        have hj4 : RJ w B x p A Tb w3.heap.size g s.L s.used s.last s.opn s.part #[.int .i64 ep, .int .i64 (k : Int), .bool fin, .string ⟨dd.toArray⟩] v (w3.alloc (.cells #[.int .i64 ep, .int .i64 (k : Int), .bool fin, .string ⟨dd.toArray⟩] 113)) := by
          have h := (unhide HJ).keep (bA f3 (.cells #[.int .i64 ep, .int .i64 (k : Int), .bool fin, .string ⟨dd.toArray⟩] 113))
          exact ⟨h.ahead, h.text, h.log, h.own, .inr ⟨by omega, by have := h.ge; omega, heap_alloc_last w3 _⟩, h.fr, h.bel, h.ge⟩
        clear H3' HJ d0 d1 d2 f3
        go_upto_region 9 with fail
        generalize w3.alloc (.cells #[.int .i64 ep, .int .i64 (k : Int), .bool fin, .string ⟨dd.toArray⟩] 113) = w4 at *
        have hQ2 : A ≠ w3.heap.size := by omega
        generalize w3.heap.size = Q at *
        obtain ⟨ak, ad, hA4⟩ := hj4.ahead
        have KC : Hid (∀ W, Below w4.heap.size w4 W → W.cell? ⟨x, 3, none⟩ = some (.int .i64 (g.now : Int)) ∧ W.cell? ⟨x, 4, none⟩ = some (.int .i64 (g.fro : Int)) ∧ W.cell? ⟨Q, 0, none⟩ = some (.int .i64 ep) ∧ W.cell? ⟨Q, 1, none⟩ = some (.int .i64 (k : Int)) ∧ W.cell? ⟨Q, 2, none⟩ = some (.bool fin) ∧ W.cell? ⟨Q, 3, none⟩ = some (.string ⟨dd.toArray⟩) ∧ W.cell? ⟨A, 0, none⟩ = some (.int .i64 s.last) ∧ W.cell? ⟨A, 1, none⟩ = some (.int .i64 ak) ∧ W.cell? ⟨A, 2, none⟩ = some (.bool (!s.opn)) ∧ W.cell? ⟨A, 3, none⟩ = some (.string ad)) := fun W f => by
          obtain ⟨⟨_, _, _, a3, a4, _⟩, q0, q1, q2, q3⟩ := (hj4.keep f).cells hQ2
          have hA5 := (f.block _ (lt_of_heap hA4)).trans hA4
          exact ⟨a3, a4, q0, q1, q2, q3, by rw [cell_of_row _ _ _ _ _ _ hA5]; rfl, by rw [cell_of_row _ _ _ _ _ _ hA5]; rfl, by rw [cell_of_row _ _ _ _ _ _ hA5]; rfl, by rw [cell_of_row _ _ _ _ _ _ hA5]; rfl⟩
        obtain ⟨a3, a4, q0, q1, q2, q3, b0, b1, b2, b3⟩ := unhide KC w4 (Below.refl _ _)
        have H5 : Hid (∀ W, Below w4.heap.size w4 W → Calls Tryz.prog 76 #[.agg #[.int .i64 (g.now : Int), .int .i64 (g.fro : Int)], .agg #[.int .i64 ep, .int .i64 (k : Int), .bool fin, .string ⟨dd.toArray⟩], .agg #[.int .i64 s.last, .int .i64 ak, .bool (!s.opn), .string ad]] W fun e w' => e = .returned (.bool (countsP (g.now : Int) ep s.last (!s.opn))) ∧ Below w4.heap.size w4 w') := fun W f => by
          refine (lcounts_any W (g.now : Int) (g.fro : Int) ep (k : Int) s.last ak fin (!s.opn) ⟨dd.toArray⟩ ad).mono ?_
          rintro e w' ⟨rfl, f'⟩
          exact ⟨rfl, bT f' f⟩
        have HJ4 := hide hj4
        clear hj4
        generalize countsP (g.now : Int) ep s.last (!s.opn) = cnt at *
        generalize (!s.opn) = nop at *
        have hgA := (unhide HJ4).ge
        have HWR : Hid (∀ W, Bd W w.heap.size Tb s.part → w.heap.size ≤ W.heap.size → Calls Tryz.prog 77 #[.pointer (some ⟨Tb, 0, none⟩), .string ⟨dd.toArray⟩] W fun e w' => ∃ u, e = .returned u ∧ Bd w' w.heap.size Tb (s.part ++ dd) ∧ Below w.heap.size W w' ∧ Lib.OthersKept 5 (some Tb) W w') := fun W hb hs => bd_write W w.heap.size Tb s.part dd hb (by omega) hs
        generalize (⟨dd.toArray⟩ : ByteArray) = sd at *
        go_region_held_law (fun W => W.cell? ⟨x, 3, none⟩ = some (.int .i64 (g.now : Int)) ∧ W.cell? ⟨x, 4, none⟩ = some (.int .i64 (g.fro : Int)) ∧ W.cell? ⟨Q, 0, none⟩ = some (.int .i64 ep) ∧ W.cell? ⟨Q, 1, none⟩ = some (.int .i64 (k : Int)) ∧ W.cell? ⟨Q, 2, none⟩ = some (.bool fin) ∧ W.cell? ⟨Q, 3, none⟩ = some (.string sd) ∧ W.cell? ⟨A, 0, none⟩ = some (.int .i64 s.last) ∧ W.cell? ⟨A, 1, none⟩ = some (.int .i64 ak) ∧ W.cell? ⟨A, 2, none⟩ = some (.bool nop) ∧ W.cell? ⟨A, 3, none⟩ = some (.string ad)) (go_keep)
          (first
            | (go_at_call 76; refine (unhide H5 _ (by repeat (first | exact Below.refl _ _ | refine Below.drew ?_))).mono ?_; rintro e w5 ⟨rfl, f5⟩; obtain ⟨k53, k54, k5q0, k5q1, k5q2, k5q3, k5b0, k5b1, k5b2, k5b3⟩ := unhide KC w5 f5))
        have HJ5 := hide ((unhide HJ4).keep f5)
        clear k53 k54 k5q0 k5q1 k5b0 k5b1 k5b2 k5b3 f5 H5 KC HJ4 a3 a4 q0 q1 q2 q3 b0 b1 b2 b3 hA4
        cases cnt with
        | false =>
          have HF := hide (unhide HPO _ _ _ _ _ _ _ (unhide HJ5) (unhide HST rfl))
          clear HJ5 HPO HXT HRP HSk HST HGO HTK2 HWR
          go_wp2
          exact unhide HF
        | true =>
          have H6 := hide (unhide HWR w5 (unhide HJ5).text (unhide HJ5).bel.size)
          have hsc' := unhide HGO rfl
          have HSC := hide hsc'
          clear HST HGO HWR hsc'
          go_wp2_with fail
          refine (unhide H6).mono ?_
          rintro e w6 ⟨u6, rfl, ht6, fb6, ok6⟩
          have hj6 := (unhide HJ5).wrote ht6 fb6 ok6
          obtain ⟨⟨y0, y1, y2, y3, y4, y5⟩, q0, q1, q2, q3⟩ := hj6.cells hQ2
          have HJ6 := hide hj6
          clear H6 ht6 fb6 ok6 hj6 HJ5 k5q2 k5q3 y0 y1 y2 y3 y4
          cases fin with
          | false =>
            obtain ⟨zk, zd, hA6⟩ := (unhide HJ6).ahead
            have z0 : w6.cell? ⟨A, 0, none⟩ = some (.int .i64 s.last) := by rw [cell_of_row _ _ _ _ _ _ hA6]; rfl
            have z1 : w6.cell? ⟨A, 1, none⟩ = some (.int .i64 zk) := by rw [cell_of_row _ _ _ _ _ _ hA6]; rfl
            have z2 : w6.cell? ⟨A, 2, none⟩ = some (.bool (!s.opn)) := by rw [cell_of_row _ _ _ _ _ _ hA6]; rfl
            have z3 : w6.cell? ⟨A, 3, none⟩ = some (.string zd) := by rw [cell_of_row _ _ _ _ _ _ hA6]; rfl
            have fz0 : w6.frozen? ⟨A, 0, none⟩ = false := frozen_of_row _ _ _ _ _ hA6
            have fz1 : w6.frozen? ⟨A, 1, none⟩ = false := frozen_of_row _ _ _ _ _ hA6
            have fz2 : w6.frozen? ⟨A, 2, none⟩ = false := frozen_of_row _ _ _ _ _ hA6
            have fz3 : w6.frozen? ⟨A, 3, none⟩ = false := frozen_of_row _ _ _ _ _ hA6
            have HNX := hide ((unhide HJ6).next hA6)
            have htk := (unhide HTK2).2 rfl
            have HI3 : Hid (RI w B x p A Tb N g S R (k + 1) ((((w6.setCell ⟨A, 0, none⟩ (.int .i64 ep)).setCell ⟨A, 1, none⟩ (.int .i64 (k : Int))).setCell ⟨A, 2, none⟩ (.bool false)).setCell ⟨A, 3, none⟩ (.string sd))) := ⟨⟨s', v, Q, _, by rw [htk]; exact unhide HNX, unhide HSC, by rw [htk]; exact Nat.le_succ_of_le hu, by rw [htk]; show (s.part ++ dd).length ≤ _; rw [List.length_append]; omega⟩, by omega⟩
            clear HJ6 HNX HTK2 HSC htk hA6 y5
            go_wp2
            go_roundw
            case rel => exact ⟨k + 1, by go_num, unhide HI3⟩
            case measure => simp [intOf]; omega
          | true =>
            obtain ⟨i0, hi, hz0, hz1, hz2⟩ := info_parts infoStr
            have hcast : ((k + 1 : Nat) : Int) = (k : Int) + 1 := by omega
            have hLs : s.L.length ≤ 5000 := by
              have : s.L.length ≤ s.used := (unhide HJ6).log.small.2.2.2.2.2.2.2
              omega
            have htk := (unhide HTK2).1 rfl
            have HBS : Hid (∀ W, RJ w B x p A Tb Q g s.L s.used s.last s.opn (s.part ++ dd) #[.int .i64 ep, .int .i64 (k : Int), .bool true, .string sd] v W → Calls Tryz.prog 78 #[.pointer (some ⟨Tb, 0, none⟩)] W fun e w' => e = .returned (.string ⟨(s.part ++ dd).toArray⟩) ∧ RJ w B x p A Tb Q g s.L s.used s.last s.opn (s.part ++ dd) #[.int .i64 ep, .int .i64 (k : Int), .bool true, .string sd] v w') := fun W h => by
              refine (bString_k w.heap.size Tb (s.part ++ dd) W h.text h.bel.size).mono ?_
              rintro e w' ⟨rfl, a, b, c⟩
              exact ⟨rfl, h.wrote a b c⟩
            have KC7 : Hid (∀ W W', RJ w B x p A Tb Q g s.L s.used s.last s.opn (s.part ++ dd) #[.int .i64 ep, .int .i64 (k : Int), .bool true, .string sd] v W → Below W.heap.size W W' → (W'.cell? ⟨x, 5, none⟩ = some v ∧ w.heap.size ≤ W'.heap.size) ∧ W'.ownsRow w.heap.size 9 1 v s.L.length (s.L.map fun d => Value.string ⟨d.toArray⟩)) := fun W W' h f => by
              have h' := h.keep f
              obtain ⟨_, _, _, _, _, a5, _⟩ := h'.log.cells
              exact ⟨⟨a5, h'.bel.size⟩, h'.own⟩
            have HAP : Hid (∀ W w5 w8 v', RJ w B x p A Tb Q g s.L s.used s.last s.opn (s.part ++ dd) #[.int .i64 ep, .int .i64 (k : Int), .bool true, .string sd] v W → Below W.heap.size W w5 → w8.ownsRow w.heap.size 9 1 v' (s.L.length + 1) ((s.L.map fun d => Value.string ⟨d.toArray⟩) ++ [.string ⟨(s.part ++ dd).toArray⟩]) → w5.grownBy w8 v.ownBlock →
                RJ w B x p A Tb Q g (s.L ++ [s.part ++ dd]) (k + 1) s.last s.opn (s.part ++ dd) #[.int .i64 ep, .int .i64 (k : Int), .bool true, .string sd] v' ((w8.setCell ⟨x, 5, none⟩ v').setCell ⟨x, 7, none⟩ (.int .i64 ((k : Int) + 1))) ∧ (w8.cell? ⟨x, 5, none⟩ = some v ∧ w8.frozen? ⟨x, 5, none⟩ = false) ∧ (w8.cell? ⟨x, 7, none⟩ = some (.int .i64 (s.used : Int)) ∧ w8.frozen? ⟨x, 7, none⟩ = false)) := fun W w5 w8 v' h f o g8 => by
              have q := h.app (U := k + 1) (d := s.part ++ dd) (by omega) (by omega) g3 f hBw o g8
              rw [hcast] at q
              exact q
            have HBR : Hid (∀ W L' u' v', RJ w B x p A Tb Q g L' u' s.last s.opn (s.part ++ dd) #[.int .i64 ep, .int .i64 (k : Int), .bool true, .string sd] v' W → Calls Tryz.prog 79 #[.pointer (some ⟨Tb, 0, none⟩)] W fun e w' => ∃ u, e = .returned u ∧ RJ w B x p A Tb Q g L' u' s.last s.opn [] #[.int .i64 ep, .int .i64 (k : Int), .bool true, .string sd] v' w') := fun W L' u' v' h => by
              refine (bd_reset W w.heap.size Tb (s.part ++ dd) h.text).mono ?_
              rintro e w' ⟨u, rfl, a, b, c⟩
              exact ⟨u, rfl, h.set a c b⟩
            have HFIN : Hid (∀ W v', RJ w B x p A Tb Q g (s.L ++ [s.part ++ dd]) (k + 1) ep false [] #[.int .i64 ep, .int .i64 (k : Int), .bool true, .string sd] v' W → RI w B x p A Tb N g S R (k + 1) W) := fun W v' h =>
              ⟨⟨s', v', Q, _, by rw [htk]; exact h, unhide HSC, by rw [htk]; exact Nat.le_refl _, by rw [htk]; exact Nat.zero_le _⟩, by omega⟩
            clear HTK2 HSC htk hcast
            generalize hsp : (⟨(s.part ++ dd).toArray⟩ : ByteArray) = sp at *
            generalize hpd : s.part ++ dd = pd at *
            clear hsp hpd HXT HRP HSk HPO
            go_upto_region 12 with fail
            go_region_law (first
              | (have hx7 := hj7; clear hx7; refine step_append_lies _ rfl (.tmp 56) (.tmp 58) 53 rfl w.heap.size 9 i0 (.string ⟨#[]⟩) 1 16 Tryz.underlying53 hi hz0 hz1 hz2 rfl (by decide) v s.L.length (s.L.map fun d => Value.string ⟨d.toArray⟩) (by simp [Act.eval]) (by exact (unhide KC7 w7 _ hj7 (by repeat (first | exact Below.refl _ _ | refine Below.drew ?_ | refine Below.alloc ?_ (Nat.le_refl _) _))).2) ⟨w7.heap.size, 0, none⟩ 1 1 [.string sp] (by simp [Act.eval]) rfl (by exact World.news_of_block (heap_alloc_last _ _)) (by simp [Value.oneCell']) (by omega) (by unfold maxLen; omega) (by omega) (by exact (unhide KC7 w7 _ hj7 (by repeat (first | exact Below.refl _ _ | refine Below.drew ?_ | refine Below.alloc ?_ (Nat.le_refl _) _))).1.2) _ rfl ?_; intro g8 cap8 w8 o8 gr8 hat8 hlt8; have q8 := unhide HAP w7 _ _ _ hj7 (by repeat (first | exact Below.refl _ _ | refine Below.drew ?_ | refine Below.alloc ?_ (Nat.le_refl _) _)) o8 gr8; have k80 := q8.2.1.1; have k81 := q8.2.1.2; have k82 := q8.2.2.1; have k83 := q8.2.2.2; have Q8 := hide q8; clear q8 hat8 o8 gr8 hlt8)
              | (go_simp; go_at_call 78; refine (unhide HBS _ (by first | exact unhide HJ6 | exact (unhide HJ6).keep (Below.refl _ _).drew | exact (unhide HJ6).keep (Below.refl _ _).drew.drew)).mono ?_; rintro e w7 ⟨rfl, hj7⟩; have k70 := (unhide KC7 w7 w7 hj7 (Below.refl _ _)).1.1; have k7a := (unhide KC7 w7 _ hj7 ((Below.refl _ _).alloc (Nat.le_refl _) (.cells #[.string sp] 9))).1.1))
            all_goals
              have H9 := hide (unhide HBR _ _ _ _ (unhide Q8).1)
              clear Q8 hj7 k70 k7a HJ6 HBS KC7 HAP HBR y5 q0 q1 q2 q3 k80 k81
              go_wp2_with fail
              refine (unhide H9).mono ?_
              rintro e w10 ⟨u10, rfl, hj10⟩
              obtain ⟨_, q0, q1, q2, q3⟩ := hj10.cells hQ2
              obtain ⟨zk, zd, hA6⟩ := hj10.ahead
              have z0 : w10.cell? ⟨A, 0, none⟩ = some (.int .i64 s.last) := by rw [cell_of_row _ _ _ _ _ _ hA6]; rfl
              have z1 : w10.cell? ⟨A, 1, none⟩ = some (.int .i64 zk) := by rw [cell_of_row _ _ _ _ _ _ hA6]; rfl
              have z2 : w10.cell? ⟨A, 2, none⟩ = some (.bool (!s.opn)) := by rw [cell_of_row _ _ _ _ _ _ hA6]; rfl
              have z3 : w10.cell? ⟨A, 3, none⟩ = some (.string zd) := by rw [cell_of_row _ _ _ _ _ _ hA6]; rfl
              have fz0 : w10.frozen? ⟨A, 0, none⟩ = false := frozen_of_row _ _ _ _ _ hA6
              have fz1 : w10.frozen? ⟨A, 1, none⟩ = false := frozen_of_row _ _ _ _ _ hA6
              have fz2 : w10.frozen? ⟨A, 2, none⟩ = false := frozen_of_row _ _ _ _ _ hA6
              have fz3 : w10.frozen? ⟨A, 3, none⟩ = false := frozen_of_row _ _ _ _ _ hA6
              have HI3 := hide (unhide HFIN _ _ (hj10.next hA6))
              clear hj10 hA6 H9 HFIN k82 k83
              go_wp2
              go_roundw
              case rel => exact ⟨k + 1, by go_num, unhide HI3⟩
              case measure => simp [intOf]; omega
    · obtain rfl : k = N := by omega
      rw [List.drop_eq_nil_of_le (by omega), scanW] at hsc
      have HF := hide (unhide HPO _ _ _ _ _ _ _ hJ hsc)
      clear hJ HPO HXT HRP HSk
      go_wp2
      exact unhide HF

end Go.Proofs.YtfggahkimconfaaGreatDoor

/- The landed log: Open. -/
namespace Go.Proofs.YtfggahkimconfaaGreatDoor
open Go.RowKit
set_option linter.unusedVariables false

theorem X.fx {w w' : World} {B p x : Nat} {D : Dk} (hX : X w B p D) (hx : ∃ c, w.heap[x]? = some (.cells c 81 (0, 0))) (h : ∀ k, k < w.heap.size → k ≠ x → w'.heap[k]? = w.heap[k]?) (hs : w.heap.size ≤ w'.heap.size) : X w' B p D := by
  obtain ⟨q, vs, hd⟩ := hX
  obtain ⟨c', hc'⟩ := hx
  obtain ⟨cur, hg, _⟩ := hd.row
  have ne : ∀ (k : Nat) (c : Array Value) (e : TypeId) (f : Nat × Nat), w.heap[k]? = some (.cells c e f) → e ≠ 81 → w'.heap[k]? = w.heap[k]? := fun k c e f hk he => h k (lt_of_heap hk) (fun e' => by
    subst e'
    rw [hk] at hc'
    injection hc' with hc'
    injection hc' with _ hc'
    exact he hc')
  refine ⟨q, vs, hd.keep (ne _ _ _ _ hd.blk (by decide)) (ne _ _ _ _ hg (by decide)) hs (fun i k hi hk => ?_)⟩
  obtain ⟨c, hc⟩ := (hd.sec i _ (List.getElem?_eq_getElem hi)).blk hk
  exact ne _ _ _ _ hc (by decide)
theorem head_read {D : Dk} {a : Nat} {h : Rec} (hh : D.headAt a = some h) : ∃ l, D.lasts[a]? = some l ∧ readS l = some h ∧ h.data.length = 4 := by
  unfold Dk.headAt at hh
  cases hl : D.lasts[a]? with
  | none => rw [hl] at hh; cases hh
  | some l =>
    rw [hl] at hh
    simp only at hh
    cases hr : readS l with
    | none => rw [hr] at hh; cases hh
    | some r =>
      rw [hr] at hh
      simp only at hh
      by_cases h4 : r.data.length = 4
      · rw [if_pos h4] at hh
        cases hh
        exact ⟨l, rfl, hr, h4⟩
      · rw [if_neg h4] at hh
        cases hh
theorem read_rec {l : List UInt8} {r : Rec} (h : readS l = some r) : recOk r := by
  unfold readS at h
  split at h
  · rename_i hc
    cases h
    exact (first_ok hc.1).1
  · cases h

set_option maxRecDepth 100000 in
set_option maxHeartbeats 3200000 in
theorem lOpen_place (w : World) (B p : Nat) (D : Dk) (L n : Nat) (hX : X w B p D) (hO : Okd D L n) (a m : Int) (hp : ¬ placeOk D a m) (ha : -9223372036854775808 ≤ a ∧ a ≤ 9223372036854775807) (hm : -9223372036854775808 ≤ m ∧ m ≤ 9223372036854775807) :
    Calls Tryz.prog 9 #[.pointer (some ⟨p, 0, none⟩), .int .i64 a, .int .i64 m] w fun e w' => e = .returned (.tuple #[.pointer none, .int .i64 2]) ∧ Below w.heap.size w w' := by
  have H1 := hide (lplaceOn_no w B p D L n hX hO a m hp ha hm)
  clear hX hO hp
  go_enter Tryz.func9, Tryz.ntmps9
  go_wp2_with fail
  refine (unhide H1).mono ?_
  rintro e w1 ⟨rfl, f1⟩
  have F1 := hide (bA f1 (.cells #[.pointer none, .int .i64 0, .int .i64 0] 70))
  clear H1 f1
  go_wp2
  go_ret2
  exact ⟨rfl, unhide F1⟩

set_option maxRecDepth 100000 in
set_option maxHeartbeats 3200000 in
theorem lOpen_head (w : World) (B p : Nat) (D : Dk) (L n : Nat) (hT : Tab w) (h1 : 1 ≤ B) (hX : X w B p D) (hO : Okd D L n) (k : Nat) (m : Int) (hp : placeOk D k m) (c : Int) (hc : (D.dark = true ∧ c = 10) ∨ (D.dark = false ∧ D.headAt k = none ∧ c = 40)) :
    Calls Tryz.prog 9 #[.pointer (some ⟨p, 0, none⟩), .int .i64 (k : Int), .int .i64 m] w fun e w' => e = .returned (.tuple #[.pointer none, .int .i64 c]) ∧ Below w.heap.size w w' := by
  have hBw := hX.bw
  have H1 := hide (lplaceOn_yes w B p D L n hX hO (k : Int) m hp)
  obtain ⟨q1, q2, q3, q4⟩ := hp
  have hkl : k < D.secs.length := by omega
  have H2 : Hid (∀ W, Below w.heap.size w W → Calls Tryz.prog 39 #[.agg #[.pointer (some ⟨p, 0, none⟩), .int .i64 (k : Int), .int .i64 m]] W fun e w' => e = .returned (.tuple #[.agg #[.int .i64 0, .int .i64 0], .int .i64 c]) ∧ Below w.heap.size w w') := fun W f => by
    rcases hc with ⟨hd, rfl⟩ | ⟨hd, hn, rfl⟩
    · refine (lreadHead_dark W B p D (hX.below f) k m hkl hd).mono ?_
      rintro e w' ⟨rfl, f'⟩
      exact ⟨rfl, bT f' f⟩
    · have hl : D.lasts[k]? = some (D.lasts[k]'(by rw [lasts_len]; exact hkl)) := List.getElem?_eq_getElem _
      have h256 : (D.lasts[k]'(by rw [lasts_len]; exact hkl)).length = 256 := by
        have hl2 := hl
        unfold Dk.lasts at hl2
        rw [List.getElem?_map] at hl2
        obtain ⟨sc, hsc, e⟩ := Option.map_eq_some_iff.1 hl2
        have := last_len (hO.ok _ _ hsc)
        rw [e] at this
        exact this
      have h := lreadHead_ok W B p D (tab_below hT f (by omega)) (by have := f.size; omega) (hX.below f) k m _ hl h256 hd
      rw [hn] at h
      refine Calls.mono h ?_
      rintro e w' ⟨rfl, f'⟩
      exact ⟨rfl, bT f' f⟩
  have gc : (c != 0) = true := by
    rcases hc with ⟨_, rfl⟩ | ⟨_, _, rfl⟩ <;> decide
  clear hX hO hT hc
  go_enter Tryz.func9, Tryz.ntmps9
  go_wp2_with fail
  refine (unhide H1).mono ?_
  rintro e w1 ⟨rfl, f1⟩
  have H3 := hide (unhide H2 (w1.alloc (.cells #[.pointer (some ⟨p, 0, none⟩), .int .i64 (k : Int), .int .i64 m] 70)) (bA f1 _))
  clear H1 H2 f1
  go_wp2_with fail
  refine (unhide H3).mono ?_
  rintro e w2 ⟨rfl, f2⟩
  have F2 := hide (bA f2 (.cells #[.int .i64 0, .int .i64 0] 75))
  clear H3 f2
  go_wp2
  go_ret2
  exact ⟨rfl, unhide F2⟩

set_option maxRecDepth 100000 in
set_option maxHeartbeats 6400000 in
theorem lOpen_ok (w : World) (B p : Nat) (D : Dk) (L n : Nat) (hT : Tab w) (h1 : 1 ≤ B) (hX : X w B p D) (hO : Okd D L n) (hn : n ≤ 900) (k m : Nat) (hp : placeOk D k m) (hd : D.dark = false) (h : Rec) (hh : D.headAt k = some h) :
    Calls Tryz.prog 9 #[.pointer (some ⟨p, 0, none⟩), .int .i64 (k : Int), .int .i64 (m : Int)] w fun e w' =>
      ((((D.found k m h).nxt D (num h.data)).2.2 = 0 → ∃ x F, e = .returned (.tuple #[.pointer (some ⟨x, 0, none⟩), .int .i64 0]) ∧ LG F w' B x p ((D.found k m h).nxt D (num h.data)).2.1 ∧ (∀ k, F k → w.heap.size ≤ k)) ∧
      (((D.found k m h).nxt D (num h.data)).2.2 ≠ 0 → e = .returned (.tuple #[.pointer none, .int .i64 ((D.found k m h).nxt D (num h.data)).2.2]))) ∧ X w' B p ((D.found k m h).nxt D (num h.data)).1 ∧ Fr B w w' := by
  have hBw := hX.bw
  have hmost := hO.most
  have H1 := hide (lplaceOn_yes w B p D L n hX hO (k : Int) (m : Int) hp)
  obtain ⟨q1, q2, q3, q4⟩ := hp
  rw [hO.len] at q2 q4
  obtain ⟨l, hl, hr, h4⟩ := head_read hh
  have h256 : l.length = 256 := by
    have hl2 := hl
    unfold Dk.lasts at hl2
    rw [List.getElem?_map] at hl2
    obtain ⟨sc, hsc, rfl⟩ := Option.map_eq_some_iff.1 hl2
    exact last_len (hO.ok _ _ hsc)
  have hrec := read_rec hr
  obtain ⟨ep, hep⟩ : ∃ ep : Nat, h.epoch = ep := ⟨h.epoch.toNat, by have := hrec.1; omega⟩
  have hepn : h.epoch.toNat = ep := by rw [hep]; omega
  have hep2 : ep < 4294967296 := by have := hrec.2.1; omega
  have hfro : num h.data < 4294967296 := num_le _
  have H2 : Hid (∀ W, Below w.heap.size w W → Calls Tryz.prog 39 #[.agg #[.pointer (some ⟨p, 0, none⟩), .int .i64 (k : Int), .int .i64 (m : Int)]] W fun e w' => e = .returned (.tuple #[.agg #[.int .i64 (ep : Int), .int .i64 (num h.data : Int)], .int .i64 0]) ∧ Below W.heap.size W w') := fun W f => by
    have h' := lreadHead_ok W B p D (tab_below hT f (by omega)) (by have := f.size; omega) (hX.below f) k (m : Int) l hl h256 hd
    rw [hh] at h'
    simp only [hep] at h'
    refine Calls.mono h' ?_
    rintro e w' ⟨rfl, f'⟩
    exact ⟨rfl, f'⟩
  have hfd : D.found k m h = ⟨k, m, ep, num h.data, (scanW (ep : Int) (D.dataS k m) 0 ⟨(num h.data : Int), false, [], [], 0⟩).L, (scanW (ep : Int) (D.dataS k m) 0 ⟨(num h.data : Int), false, [], [], 0⟩).used, (scanW (ep : Int) (D.dataS k m) 0 ⟨(num h.data : Int), false, [], [], 0⟩).L.length, false⟩ := by
    unfold Dk.found
    rw [hepn, hep]
  rw [hfd]
  generalize num h.data = fro at *
  clear hfd hepn hep hrec hr h4 hh hl h256
  have HRD : Hid (∀ W x, PL W B x p (.slice none 0 0) ⟨k, m, ep, fro, [], 0, 0, false⟩ → Below w.heap.size w W → Calls Tryz.prog 40 #[.pointer (some ⟨x, 0, none⟩)] W fun e w' => e = .returned (.int .i64 0) ∧ ∃ v, PL w' B x p v ⟨k, m, ep, fro, (scanW (ep : Int) (D.dataS k m) 0 ⟨(fro : Int), false, [], [], 0⟩).L, (scanW (ep : Int) (D.dataS k m) 0 ⟨(fro : Int), false, [], [], 0⟩).used, 0, false⟩ ∧ (∀ k, v.ownBlock = some k → W.heap.size ≤ k) ∧ (∀ k, k < W.heap.size → k ≠ x → w'.heap[k]? = W.heap[k]?) ∧ Below x W w') := fun W x hP f =>
    lread_any W B x p D ⟨k, m, ep, fro, [], 0, 0, false⟩ L n (tab_below hT f (by omega)) h1 hP (hX.below f) hO (by show k + m ≤ L; omega) hd ⟨rfl, rfl, rfl⟩
  generalize scanW (ep : Int) (D.dataS k m) 0 ⟨(fro : Int), false, [], [], 0⟩ = sc at *
  have HNX : Hid (∀ W x v, PL W B x p v ⟨k, m, ep, fro, sc.L, sc.used, 0, false⟩ → X W B p D → Tab W → Calls Tryz.prog 41 #[.pointer (some ⟨x, 0, none⟩), .agg #[.int .i64 ((ep : Int) + 1), .int .i64 (fro : Int)]] W fun e w' => e = .returned (.int .i64 ((⟨k, m, ep, fro, sc.L, sc.used, 0, false⟩ : Lg).nxt D fro).2.2) ∧ X w' B p ((⟨k, m, ep, fro, sc.L, sc.used, 0, false⟩ : Lg).nxt D fro).1 ∧ PL w' B x p v ((⟨k, m, ep, fro, sc.L, sc.used, 0, false⟩ : Lg).nxt D fro).2.1 ∧ FrL (fun q => q = x) B W w') := fun W x v hP hx ht =>
    lenter_any W B x p v D ⟨k, m, ep, fro, sc.L, sc.used, 0, false⟩ L n ht h1 hP hx hO hn (by show k < L; omega) rfl fro (fun _ => hfro)
  have hL2 : ((⟨k, m, ep, fro, sc.L, sc.used, 0, false⟩ : Lg).nxt D fro).2.1.L = sc.L := by
    unfold Lg.nxt
    split
    · rfl
    · split <;> rfl
  obtain ⟨D2, g2, c, hnx⟩ : ∃ D2 g2 c, (⟨k, m, ep, fro, sc.L, sc.used, 0, false⟩ : Lg).nxt D fro = (D2, g2, c) := ⟨_, _, _, rfl⟩
  rw [hnx] at hL2
  have hnx2 : (⟨k, m, ep, fro, sc.L, sc.used, sc.L.length, false⟩ : Lg).nxt D fro = (D2, { g2 with count := sc.L.length }, c) := by
    unfold Lg.nxt at hnx ⊢
    simp only at hnx ⊢
    split at hnx
    · rename_i hcc
      rw [if_pos hcc]
      cases hnx
      rfl
    · rename_i hcc
      rw [if_neg hcc]
      split at hnx
      · rename_i hcc2
        rw [if_pos hcc2]
        cases hnx
        rfl
      · rename_i hcc2
        rw [if_neg hcc2]
        cases hnx
        rfl
  rw [hnx2]
  rw [hnx] at HNX
  clear hnx hnx2
  have HX := hide hX
  have HT := hide hT
  have hsm : smallG ⟨k, m, ep, fro, [], 0, 0, false⟩ := ⟨by show k ≤ 4096; omega, by show 2 ≤ m; omega, by show m ≤ 4096; omega, hep2, hfro, Nat.zero_le _, Nat.le_refl _, Nat.le_refl _⟩
  obtain ⟨PO, hPO⟩ : ∃ PO : Ending → World → Prop, PO = fun e w' => ((c = 0 → ∃ x F, e = .returned (.tuple #[.pointer (some ⟨x, 0, none⟩), .int .i64 0]) ∧ LG F w' B x p { g2 with count := sc.L.length } ∧ (∀ k, F k → w.heap.size ≤ k)) ∧ (c ≠ 0 → e = .returned (.tuple #[.pointer none, .int .i64 c]))) ∧ X w' B p D2 ∧ Fr B w w' := ⟨_, rfl⟩
  have HP0 : Hid (c = 0 → ∀ W x v, X W B p D2 → PL W B x p v { g2 with count := sc.L.length } → w.heap.size ≤ x → (∀ k, v.ownBlock = some k → w.heap.size ≤ k) → Fr B w W → PO (.returned (.tuple #[.pointer (some ⟨x, 0, none⟩), .int .i64 0])) W) := fun h0 W x v a b cx d e => by
    rw [hPO]
    exact ⟨⟨fun _ => ⟨x, fun q => q = x ∨ v.ownBlock = some q, rfl, ⟨v, b, fun q => Iff.rfl⟩, fun q hq => hq.elim (fun e => by omega) (fun e => d q e)⟩, fun hc => absurd h0 hc⟩, a, e⟩
  have HP1 : Hid (c ≠ 0 → ∀ W, X W B p D2 → Fr B w W → PO (.returned (.tuple #[.pointer none, .int .i64 c])) W) := fun h0 W a e => by
    rw [hPO]
    exact ⟨⟨fun hc => absurd hc h0, fun _ => rfl⟩, a, e⟩
  show Calls _ _ _ _ fun e w' => ((c = 0 → ∃ x F, e = .returned (.tuple #[.pointer (some ⟨x, 0, none⟩), .int .i64 0]) ∧ LG F w' B x p { g2 with count := sc.L.length } ∧ (∀ k, F k → w.heap.size ≤ k)) ∧ (c ≠ 0 → e = .returned (.tuple #[.pointer none, .int .i64 c]))) ∧ X w' B p D2 ∧ Fr B w w'
  rw [← hPO]
  clear hPO hX hO hT
  go_enter Tryz.func9, Tryz.ntmps9
  go_wp2_with fail
  refine (unhide H1).mono ?_
  rintro e w1 ⟨rfl, f1⟩
  have f1' : Below w.heap.size w (w1.alloc (.cells #[.pointer (some ⟨p, 0, none⟩), .int .i64 (k : Int), .int .i64 (m : Int)] 70)) := bA f1 _
  have hpl1 := heap_alloc_last w1 (.cells #[.pointer (some ⟨p, 0, none⟩), .int .i64 (k : Int), .int .i64 (m : Int)] 70)
  have H3 := hide (unhide H2 _ f1')
  have hsz1 := f1.size
  clear H1 H2 f1
  go_upto_region 4 with fail
  generalize w1.alloc (.cells #[.pointer (some ⟨p, 0, none⟩), .int .i64 (k : Int), .int .i64 (m : Int)] 70) = w2 at *
  have p0 : w2.cell? ⟨w1.heap.size, 0, none⟩ = some (.pointer (some ⟨p, 0, none⟩)) := by rw [cell_of_row _ _ _ _ _ _ hpl1]; rfl
  have p1 : w2.cell? ⟨w1.heap.size, 1, none⟩ = some (.int .i64 (k : Int)) := by rw [cell_of_row _ _ _ _ _ _ hpl1]; rfl
  have p2 : w2.cell? ⟨w1.heap.size, 2, none⟩ = some (.int .i64 (m : Int)) := by rw [cell_of_row _ _ _ _ _ _ hpl1]; rfl
  go_wp2_with fail
  refine (unhide H3).mono ?_
  rintro e w3 ⟨rfl, f3⟩
  have f3' := bT f3 f1'
  have hpl3 := (f3.block _ (lt_of_heap hpl1)).trans hpl1
  have hpz := Nat.lt_of_lt_of_le (lt_of_heap hpl1) f3.size
  clear H3 f1' hpl1 f3 p0 p1 p2
  go_upto_region 7 with fail
  have f4 : Below w.heap.size w (w3.alloc (.cells #[.int .i64 (ep : Int), .int .i64 (fro : Int)] 75)) := bA f3' _
  have hh4 := heap_alloc_last w3 (.cells #[.int .i64 (ep : Int), .int .i64 (fro : Int)] 75)
  have hpl4 := (heap_alloc_old w3 (.cells #[.int .i64 (ep : Int), .int .i64 (fro : Int)] 75) hpz).trans hpl3
  generalize w3.alloc (.cells #[.int .i64 (ep : Int), .int .i64 (fro : Int)] 75) = w4 at *
  have p0 : w4.cell? ⟨w1.heap.size, 0, none⟩ = some (.pointer (some ⟨p, 0, none⟩)) := by rw [cell_of_row _ _ _ _ _ _ hpl4]; rfl
  have p1 : w4.cell? ⟨w1.heap.size, 1, none⟩ = some (.int .i64 (k : Int)) := by rw [cell_of_row _ _ _ _ _ _ hpl4]; rfl
  have p2 : w4.cell? ⟨w1.heap.size, 2, none⟩ = some (.int .i64 (m : Int)) := by rw [cell_of_row _ _ _ _ _ _ hpl4]; rfl
  have r0 : w4.cell? ⟨w3.heap.size, 0, none⟩ = some (.int .i64 (ep : Int)) := by rw [cell_of_row _ _ _ _ _ _ hh4]; rfl
  have r1 : w4.cell? ⟨w3.heap.size, 1, none⟩ = some (.int .i64 (fro : Int)) := by rw [cell_of_row _ _ _ _ _ _ hh4]; rfl
  have hlt4 := lt_of_heap hh4
  clear f3' hpl3 hpl4 hpz
  go_upto_region 8 with fail
  have f5 : Below w.heap.size w (w4.alloc (.cells #[.pointer (some ⟨p, 0, none⟩), .int .i64 (k : Int), .int .i64 (m : Int), .int .i64 (ep : Int), .int .i64 (fro : Int), .slice none 0 0, .int .i64 0, .int .i64 0, .bool false] 81)) := bA f4 _
  have hx5 := heap_alloc_last w4 (.cells #[.pointer (some ⟨p, 0, none⟩), .int .i64 (k : Int), .int .i64 (m : Int), .int .i64 (ep : Int), .int .i64 (fro : Int), .slice none 0 0, .int .i64 0, .int .i64 0, .bool false] 81)
  have hh5 := (heap_alloc_old w4 (.cells #[.pointer (some ⟨p, 0, none⟩), .int .i64 (k : Int), .int .i64 (m : Int), .int .i64 (ep : Int), .int .i64 (fro : Int), .slice none 0 0, .int .i64 0, .int .i64 0, .bool false] 81) hlt4).trans hh4
  have hz4 := f4.size
  generalize w4.alloc (.cells #[.pointer (some ⟨p, 0, none⟩), .int .i64 (k : Int), .int .i64 (m : Int), .int .i64 (ep : Int), .int .i64 (fro : Int), .slice none 0 0, .int .i64 0, .int .i64 0, .bool false] 81) = w5 at *
  have hP5 : PL w5 B w4.heap.size p (.slice none 0 0) ⟨k, m, ep, fro, [], 0, 0, false⟩ := ⟨hx5, ⟨rfl, .inl ⟨rfl, rfl⟩⟩, by omega, hsm⟩
  have H6 := hide (unhide HRD w5 w4.heap.size hP5 f5)
  have hxh : w3.heap.size ≠ w4.heap.size := by omega
  clear hh4 f4 HRD p0 p1 p2 r0 r1 hP5
  generalize w4.heap.size = x at *
  go_wp2_with fail
  refine (unhide H6).mono ?_
  rintro e w6 ⟨rfl, v, hP6, hv6, ho6, b6⟩
  have hh6 := (ho6 _ (lt_of_heap hh5) hxh).trans hh5
  have r0 : w6.cell? ⟨w3.heap.size, 0, none⟩ = some (.int .i64 (ep : Int)) := by rw [cell_of_row _ _ _ _ _ _ hh6]; rfl
  have r1 : w6.cell? ⟨w3.heap.size, 1, none⟩ = some (.int .i64 (fro : Int)) := by rw [cell_of_row _ _ _ _ _ _ hh6]; rfl
  have hX6 := ((unhide HX).below f5).fx ⟨_, hx5⟩ ho6 b6.size
  have hT6 := tab_below (unhide HT) (f5.trans (b6.mono (by omega))) (by omega)
  have H7 := hide (unhide HNX w6 x v hP6 hX6 hT6)
  have FRW : Hid (∀ W, FrL (fun q => q = x) B w6 W → Fr B w W) := fun W f => by
    refine ⟨(f5.mono hBw).trans ((b6.mono (by omega)).trans f.below), fun q cs e fz hq a1 a2 a3 => ?_⟩
    have hq1 := f5.block q (lt_of_heap hq)
    have hq5 : q < w5.heap.size := Nat.lt_of_lt_of_le (lt_of_heap hq) f5.size
    have hqx : q ≠ x := by have := lt_of_heap hq; omega
    have hq2 := ho6 q hq5 hqx
    have hq3 := f.other q cs e fz ((hq2.trans hq1).trans hq) a1 a2 a3 hqx
    exact hq3.trans (hq2.trans hq1)
  have HV6 := hide (fun q hq => Nat.le_trans f5.size (hv6 q hq))
  clear H6 HNX hh5 hh6 hX6 hT6 hx5 f5 ho6 b6 hv6 hP6 HX HT
  by_cases hc : c = 0
  · have HQ := hide (unhide HP0 hc)
    subst hc
    clear HP0 HP1
    go_wp2_with fail
    refine (unhide H7).mono ?_
    rintro e w7 ⟨rfl, x7, hP7, f7⟩
    obtain ⟨va, vc, hva, _⟩ := own_form hP7.own
    subst hva
    obtain ⟨_, _, _, _, _, d5, d6, _, _, hfz⟩ := hP7.cells
    have fz6 := hfz 6
    rw [hL2] at d5
    have hw := hP7.pw.set 6 (.int .i64 (sc.L.length : Int))
    obtain ⟨t1, t2, t3, t4, t5, t6, t7, t8⟩ := hP7.small
    have hP8 := Pw.pl (g' := { g2 with count := sc.L.length }) hP7 hw rfl ⟨t1, t2, t3, t4, t5, t6, by show sc.L.length ≤ g2.L.length; rw [hL2]; exact Nat.le_refl _, t8⟩
    have HF := hide (unhide HQ _ _ _ (hw.x x7) hP8 (by omega) (unhide HV6) (unhide FRW _ (f7.trans (hw.frl hP7.bx rfl))))
    clear H7 HQ x7 hP7 f7 hP8 hw hfz FRW HV6
    go_wp2
    exact unhide HF
  · have HQ := hide (unhide HP1 hc)
    have gc : (c != 0) = true := by simpa using hc
    clear HP0 HP1 hc
    go_wp2_with fail
    refine (unhide H7).mono ?_
    rintro e w7 ⟨rfl, x7, hP7, f7⟩
    have HF := hide (unhide HQ _ x7 (unhide FRW _ f7))
    clear H7 HQ x7 hP7 f7 FRW HV6
    go_wp2
    exact unhide HF

end Go.Proofs.YtfggahkimconfaaGreatDoor

/- The landed log keeps the contracts that the walks of stage 4's laws ask of a log. -/
namespace Go.Proofs.YtfggahkimconfaaGreatDoor
open Go.RowKit
set_option linter.unusedVariables false

theorem opn_cases (D : Dk) (a m : Int) : (¬ placeOk D a m ∧ D.opn a m = (D, none, 2)) ∨ (placeOk D a m ∧ D.dark = true ∧ D.opn a m = (D, none, 10)) ∨ (placeOk D a m ∧ D.dark = false ∧ D.headAt a.toNat = none ∧ D.opn a m = (D, none, 40)) ∨
    (placeOk D a m ∧ D.dark = false ∧ ∃ h, D.headAt a.toNat = some h ∧ D.opn a m = (((D.found a.toNat m.toNat h).nxt D (num h.data)).1, if ((D.found a.toNat m.toNat h).nxt D (num h.data)).2.2 = 0 then some ((D.found a.toNat m.toNat h).nxt D (num h.data)).2.1 else none, ((D.found a.toNat m.toNat h).nxt D (num h.data)).2.2)) := by
  unfold Dk.opn
  by_cases hp : placeOk D a m
  · rw [if_pos hp]
    cases hd : D.dark with
    | true => exact .inr (.inl ⟨hp, rfl, if_pos rfl⟩)
    | false =>
      rw [if_neg (by decide)]
      cases hh : D.headAt a.toNat with
      | none => exact .inr (.inr (.inl ⟨hp, rfl, rfl, rfl⟩))
      | some h => exact .inr (.inr (.inr ⟨hp, rfl, h, rfl, rfl⟩))
  · exact .inl ⟨hp, if_neg hp⟩
theorem place_nat {D : Dk} {a m : Int} (hp : placeOk D a m) : ∃ k n : Nat, a = k ∧ m = n := by
  obtain ⟨h1, h2, h3, h4⟩ := hp
  exact ⟨a.toNat, m.toNat, by omega, by omega⟩

theorem wals : Wals Tab LG where
  table := fun h f hB => tab_below h f hB
  kinds := fun h => lg_kinds h
  keep := fun h hk hs => lg_keep h hk hs
  format := fun w B p D D' L n a m c hT h1 hX hO hn ha hm he => by
    have h := lFormat_any w B p D L n a m hT h1 hX hO hn ha hm
    rw [he] at h
    exact h
  opens := fun w B p D D' g L n a m hT h1 hX hO hn ha hm he => by
    rcases opn_cases D a m with ⟨_, h⟩ | ⟨_, _, h⟩ | ⟨_, _, _, h⟩ | ⟨hp, hd, r, hh, h⟩
    · rw [he] at h; cases h
    · rw [he] at h; cases h
    · rw [he] at h; cases h
    · obtain ⟨k, q, rfl, rfl⟩ := place_nat hp
      rw [Int.toNat_natCast] at hh h
      rw [Int.toNat_natCast] at h
      rw [he] at h
      injection h with e1 e2
      injection e2 with e2 e3
      have hc : ((D.found k q r).nxt D (num r.data)).2.2 = 0 := e3.symm
      rw [if_pos hc] at e2
      injection e2 with e2
      refine (lOpen_ok w B p D L n hT h1 hX hO hn k q hp hd r hh).mono ?_
      rintro e w' ⟨⟨h0, _⟩, hx, hf⟩
      obtain ⟨x, F, rfl, hl, hF⟩ := h0 hc
      rw [← e2] at hl
      rw [← e1] at hx
      exact ⟨x, F, rfl, hl, hF, hx, hf⟩
  fails := fun w B p D D' L n a m c hT h1 hX hO hn ha hm he => by
    rcases opn_cases D a m with ⟨hp, h⟩ | ⟨hp, hd, h⟩ | ⟨hp, hd, hh, h⟩ | ⟨hp, hd, r, hh, h⟩
    · rw [he] at h
      cases h
      refine (lOpen_place w B p D L n hX hO a m hp ha hm).mono ?_
      rintro e w' ⟨rfl, f⟩
      exact ⟨rfl, hX.below f, Fr.of_below f hX.bw⟩
    · rw [he] at h
      cases h
      obtain ⟨k, q, rfl, rfl⟩ := place_nat hp
      refine (lOpen_head w B p D L n hT h1 hX hO k q hp 10 (.inl ⟨hd, rfl⟩)).mono ?_
      rintro e w' ⟨rfl, f⟩
      exact ⟨rfl, hX.below f, Fr.of_below f hX.bw⟩
    · rw [he] at h
      cases h
      obtain ⟨k, q, rfl, rfl⟩ := place_nat hp
      rw [Int.toNat_natCast] at hh
      refine (lOpen_head w B p D L n hT h1 hX hO k q hp 40 (.inr ⟨hd, hh, rfl⟩)).mono ?_
      rintro e w' ⟨rfl, f⟩
      exact ⟨rfl, hX.below f, Fr.of_below f hX.bw⟩
    · obtain ⟨k, q, rfl, rfl⟩ := place_nat hp
      rw [Int.toNat_natCast] at hh h
      rw [Int.toNat_natCast] at h
      rw [he] at h
      injection h with e1 e2
      injection e2 with e2 e3
      have hc : ¬ ((D.found k q r).nxt D (num r.data)).2.2 = 0 := fun e => by
        rw [if_pos e] at e2
        cases e2
      refine (lOpen_ok w B p D L n hT h1 hX hO hn k q hp hd r hh).mono ?_
      rintro e w' ⟨⟨_, h0⟩, hx, hf⟩
      rw [← e1] at hx
      rw [h0 hc, ← e3]
      exact ⟨rfl, hx, hf⟩
  append := fun F w B x p D D' g g' L n d c hT h1 hl hX hO hn hL hd he => by
    obtain ⟨v, hP, hF⟩ := hl
    have hB := hX.bw
    by_cases hbad : g.gone = true ∨ 4096 < d.length ∨ g.size - 1 - g.used < need d.length
    · have ha : g.apd D d = (D, g, if g.gone = true then 10 else if 4096 < d.length then 3 else 4) := by
        unfold Lg.apd
        by_cases h1 : g.gone = true
        · rw [if_pos h1, if_pos h1]
        · rw [if_neg h1, if_neg h1]
          by_cases h2 : 4096 < d.length
          · rw [if_pos h2, if_pos h2]
          · rw [if_neg h2, if_neg h2]
            have h3 : g.size - 1 - g.used < need d.length := by
              rcases hbad with h | h | h
              · exact absurd h h1
              · exact absurd h h2
              · exact h
            rw [if_pos h3]
      rw [he] at ha
      cases ha
      refine (lAppend_bad w B x p v D g d hT (by omega) hP hd hbad).mono ?_
      rintro e w' ⟨rfl, f⟩
      exact ⟨rfl, ⟨F, ⟨v, hP.below f, hF⟩, fun k hk => .inl hk⟩, hX.below f, FrL.of_below f hB⟩
    · have hg : g.gone = false := by
        cases h : g.gone with
        | true => exact absurd (.inl h) hbad
        | false => rfl
      have hlen : d.length ≤ 4096 := by
        by_cases h : 4096 < d.length
        · exact absurd (.inr (.inl h)) hbad
        · omega
      have hfit : ¬ g.size - 1 - g.used < need d.length := fun h => hbad (.inr (.inr h))
      have h := lAppend_ok w B x p v D g L n d hT h1 hP hX hO hn hL hg hlen hfit
      rw [he] at h
      refine Calls.mono h ?_
      rintro e w' ⟨rfl, hx, ⟨v', hP', hv'⟩, hf⟩
      refine ⟨rfl, ⟨fun k => k = x ∨ v'.ownBlock = some k, ⟨v', hP', fun k => Iff.rfl⟩, fun k hk => ?_⟩, hx, ?_⟩
      · rcases hk with hk | hk
        · exact .inl ((hF k).2 (.inl hk))
        · exact (hv' k hk).elim (fun e => .inl ((hF k).2 (.inr e))) .inr
      · exact ⟨hf.below, fun k cs e fz hk a1 a2 a3 a4 => hf.other k cs e fz hk a1 a2 a3 (fun hh => a4 ((hF k).2 hh))⟩
  flush := fun F w B x p D D' g g' L n c hT h1 hl hX hO hn he => by
    obtain ⟨v, hP, hF⟩ := hl
    have h := lFlush_any w B x p v D g hP hX
    rw [he] at h
    refine Calls.mono h ?_
    rintro e w' ⟨rfl, hx, hP', hf⟩
    exact ⟨rfl, ⟨F, ⟨v, hP', hF⟩, fun k hk => .inl hk⟩, hx, ⟨hf.below, fun k cs e fz hk a1 a2 a3 a4 => hf.other k cs e fz hk a1 a2 a3 (fun hh => a4 ((hF k).2 (.inl hh)))⟩⟩
  reset := fun F w B x p D D' g g' L n c hT h1 hl hX hO hn hL he => by
    obtain ⟨v, hP, hF⟩ := hl
    have hs := hP.small.2.1
    have h := lReset_any w B x p v D g L n hT h1 hP hX hO hn (by omega)
    rw [he] at h
    refine Calls.mono h ?_
    rintro e w' ⟨rfl, hx, ⟨v', hP', hv'⟩, hf⟩
    refine ⟨rfl, ⟨fun k => k = x ∨ v'.ownBlock = some k, ⟨v', hP', fun k => Iff.rfl⟩, fun k hk => ?_⟩, hx, ⟨hf.below, fun k cs e fz hk a1 a2 a3 a4 => hf.other k cs e fz hk a1 a2 a3 (fun hh => a4 ((hF k).2 (.inl hh)))⟩⟩
    rcases hk with hk | hk
    · exact .inl ((hF k).2 (.inl hk))
    · exact .inl ((hF k).2 (.inr (hv' k hk)))
  records := fun F w B x p g hl _ => by
    obtain ⟨v, hP, _⟩ := hl
    exact lRecords_any w B x p v g hP
  sure := fun F w B x p g hl _ => by
    obtain ⟨v, hP, _⟩ := hl
    refine (lSure_any w B x p v g hP).mono ?_
    rintro e w' ⟨rfl, rfl⟩
    exact ⟨rfl, Below.refl _ _⟩
  free := fun F w B x p g hl _ => by
    obtain ⟨v, hP, _⟩ := hl
    exact lFree_any w B x p v g hP
  epoch := fun F w B x p g hl _ => by
    obtain ⟨v, hP, _⟩ := hl
    refine (lEpoch_any w B x p v g hP).mono ?_
    rintro e w' ⟨rfl, rfl⟩
    exact ⟨rfl, Below.refl _ _⟩

end Go.Proofs.YtfggahkimconfaaGreatDoor
