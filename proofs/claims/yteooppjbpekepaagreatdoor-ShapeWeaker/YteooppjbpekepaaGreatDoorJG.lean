/- Joined: WdL1 WdL2 WdL3 WdL4 WdL5 WdL6 WdL7 WdL8. -/
import Derived.Test.YteooppjbpekepaaGreatDoorJD
import Derived.Laws.CopyOwn
import Derived.Laws.BitsAllLaws

/- The landed word: spans in memory; made, isSize, fitsU, fitsS, left, next. -/
namespace Go.Proofs.YteooppjbpekepaaGreatDoor
open Go.RowKit
set_option linter.unusedVariables false

/-- A span at block x, its bytes in block y. -/
structure Sp (T : TypeId) (w : World) (B x y c : Nat) (bs : List UInt8) (i : Nat) : Prop where
  hx : B ≤ x
  ne : x ≠ y
  blk : w.heap[x]? = some (.cells #[.slice (some ⟨y, 0, none⟩) bs.length c, .int .i64 (i : Int)] T (0, 0))
  row : w.ownsRow B 5 1 (.slice (some ⟨y, 0, none⟩) bs.length c) bs.length (bv bs)
theorem Sp.c0 {T : TypeId} {w : World} {B x y c : Nat} {bs : List UInt8} {i : Nat} (h : Sp T w B x y c bs i) : w.cell? ⟨x, 0, none⟩ = some (.slice (some ⟨y, 0, none⟩) bs.length c) := by rw [cell_of_row _ _ _ _ _ _ h.blk]; rfl
theorem Sp.c1 {T : TypeId} {w : World} {B x y c : Nat} {bs : List UInt8} {i : Nat} (h : Sp T w B x y c bs i) : w.cell? ⟨x, 1, none⟩ = some (.int .i64 (i : Int)) := by rw [cell_of_row _ _ _ _ _ _ h.blk]; rfl
theorem Sp.fz {T : TypeId} {w : World} {B x y c : Nat} {bs : List UInt8} {i : Nat} (h : Sp T w B x y c bs i) (j : Nat) : w.frozen? ⟨x, j, none⟩ = false := frozen_of_row _ _ _ _ _ h.blk
theorem Sp.xlt {T : TypeId} {w : World} {B x y c : Nat} {bs : List UInt8} {i : Nat} (h : Sp T w B x y c bs i) : x < w.heap.size := lt_of_heap h.blk
theorem Sp.y {T : TypeId} {w : World} {B x y c : Nat} {bs : List UInt8} {i : Nat} (h : Sp T w B x y c bs i) : B ≤ y ∧ y < w.heap.size := h.row.lt y rfl
theorem Sp.keep {T : TypeId} {w w' : World} {B x y c : Nat} {bs : List UInt8} {i : Nat} (h : Sp T w B x y c bs i) (hx : w'.heap[x]? = w.heap[x]?) (hy : w'.heap[y]? = w.heap[y]?) : Sp T w' B x y c bs i :=
  ⟨h.hx, h.ne, hx.trans h.blk, own_of_block h.row (fun k hk => by
    simp [Value.ownBlock] at hk
    subst hk
    exact hy)⟩
theorem Sp.below {T : TypeId} {w w' : World} {B x y c : Nat} {bs : List UInt8} {i : Nat} (h : Sp T w B x y c bs i) (f : Below w.heap.size w w') : Sp T w' B x y c bs i := h.keep (f.block x h.xlt) (f.block y h.y.2)
theorem Sp.base {T : TypeId} {w : World} {B B' x y c : Nat} {bs : List UInt8} {i : Nat} (h : Sp T w B x y c bs i) (hB : B' ≤ B) : Sp T w B' x y c bs i := ⟨Nat.le_trans hB h.hx, h.ne, h.blk, own_base h.row hB⟩
/-- The place moved. -/
theorem Sp.move {T : TypeId} {w : World} {B x y c : Nat} {bs : List UInt8} {i : Nat} (h : Sp T w B x y c bs i) (K : Nat) : Sp T (w.setCell ⟨x, 1, none⟩ (.int .i64 (K : Int))) B x y c bs K :=
  ⟨h.hx, h.ne, heap_setCell_same w x 1 _ _ _ h.blk, own_of_block h.row (fun k hk => by
    simp [Value.ownBlock] at hk
    subst hk
    exact Below.heap_setCell _ _ _ _ h.ne.symm)⟩

theorem fitsS_key {n D : Int} {p : Prop} [Decidable p] (h : p ↔ (n / D = 0 ∨ n / D = -1)) : decide p = (n / D == 0 || n / D == -1) := by
  rw [Bool.eq_iff_iff]; simpa using h

end Go.Proofs.YteooppjbpekepaaGreatDoor

/- The landed word: fitsS, left, next, joined, withSign, spanOf. -/
namespace Go.Proofs.YteooppjbpekepaaGreatDoor
open Go.RowKit
set_option linter.unusedVariables false

def sgn (m N : Nat) : Int := if 256 ^ m ≤ 2 * N then (N : Int) - ((256 ^ m : Nat) : Int) else (N : Int)
end Go.Proofs.YteooppjbpekepaaGreatDoor

/- The landed word: joined, spanOf; the reader's calls. -/
namespace Go.Proofs.YteooppjbpekepaaGreatDoor
open Go.RowKit
set_option linter.unusedVariables false

set_option maxRecDepth 100000 in
theorem or_u64 (v x : Nat) (hv : v * 256 + x < 18446744073709551616) (hx : x < 256) : bits .or .u64 ((v : Int) * 256) (x : Int) = (v : Int) * 256 + (x : Int) := by
  have e : (v : Int) * 256 = ((v * 256 : Nat) : Int) := by omega
  rw [e]
  show IntKind.u64.wrap ((BitVec.ofInt 64 ((v * 256 : Nat) : Int) ||| BitVec.ofInt 64 (x : Int)).toNat : Int) = _
  rw [BitVec.toNat_or, ofInt_u64 _ (by omega), ofInt_u64 _ (by omega), nat_join 8 _ _ (by omega) (by omega), IntKind.wrap_u64]
  omega

/-- An append to bytes of one's own that are not nil. -/
theorem listN_append {w : World} {ops : Array Oper} {rest : List Oper} {o : Oper} {a : Act} {Q : Exit → Act → World → Prop} (hgd : o.guard = none) (s x : Operand) (ho : o.op = .call { callee := .builtin .append, args := #[s, x], argTypes := #[23, 23] })
    (base g n cap : Nat) (xs : List UInt8) (hs : a.eval s = .slice (some ⟨g, 0, none⟩) n cap) (hown : w.ownsRow base 5 1 (.slice (some ⟨g, 0, none⟩) n cap) n (bv xs)) (src : Option Addr) (m c : Nat) (ys : List UInt8) (hx : a.eval x = .slice src m c) (hb : Bs w src m ys) (hnil : src = none → m = 0 ∧ c = 0)
    (hsm : n + m ≤ 140737488355328) (hbase : base ≤ w.heap.size) (h : ∀ g' c' w', w'.ownsRow base 5 1 (.slice (some ⟨g', 0, none⟩) (n + m) c') (n + m) (bv (xs ++ ys)) → w.grownBy w' (some g) → wpList Tryz.prog ops Q rest (a.put o.dst (.slice (some ⟨g', 0, none⟩) (n + m) c')) w') : wpList Tryz.prog ops Q (o :: rest) a w := by
  obtain ⟨i0, hi, hz0, hz1, hz2⟩ := info_parts infoB
  refine wpList_plain hgd fun K hK => ?_
  cases src with
  | none =>
    obtain ⟨rfl, rfl⟩ := hnil rfl
    have h0 : ys = [] := List.eq_nil_of_length_eq_zero hb.1
    subst h0
    have hrun := run_append_owned_none (P := Tryz.prog) (w := w) base 23 o.type 5 i0 1 Tryz.underlying23 hi _ n (bv xs) hown
    unfold Oper.wp
    simp [execOp, ho, resolve, invoke, builtin, hs, hx, hrun, Result.andThen]
    exact hK _ _ (h g cap w (by rw [List.append_nil]; exact hown) ⟨rfl, rfl, rfl, Nat.le_refl _, fun _ _ _ => rfl⟩)
  | some ad =>
    refine wp_append_own w s x 23 ho base 5 i0 (.int .u8 0) 1 1 Tryz.underlying23 hi hz0 hz1 hz2 rfl (by decide) _ n (bv xs) hs hown ad m c (bv ys) hx (by rw [bv_length, hb.1]; omega) (hb.at.2 ad rfl) (bv_one _) (by unfold maxLen; omega) (by omega) hbase ?_
    intro v' w' h1 h2 h3
    rcases h1.2 with ⟨e, _⟩ | ⟨g', c', cur, rfl, _⟩
    · have := (h3.1 e).1
      cases this
    · exact hK _ _ (h g' c' w' (by rw [bv_append]; exact h1) h2)

theorem pair_set {W : World} {A : Nat} {T : TypeId} {a0 a1 : Value} (c0 c1 : Value) (h : W.heap[A]? = some (.cells #[a0, a1] T (0, 0))) :
    ((W.setCell ⟨A, 0, none⟩ c0).setCell ⟨A, 1, none⟩ c1).heap[A]? = some (.cells #[c0, c1] T (0, 0)) := by
  have h1 := heap_setCell_same W A 0 _ _ c0 h
  exact heap_setCell_same _ A 1 _ _ c1 h1
end Go.Proofs.YteooppjbpekepaaGreatDoor

/- The landed word: the reader's calls. -/
namespace Go.Proofs.YteooppjbpekepaaGreatDoor
open Go.RowKit
set_option linter.unusedVariables false

theorem Sp.drewN {T : TypeId} {w : World} {B x y c : Nat} {bs : List UInt8} {i : Nat} (h : Sp T w B x y c bs i) (k : Nat) : Sp T (w.drewN k) B x y c bs i := h.below (below_drewN (Below.refl _ _) k)

/-- What look answers. -/
def lookR (bs : List UInt8) (i : Nat) (k : Int) : Nat × Int :=
  if wide k then (if (bs.length : Int) - i < k then (0, 7) else (numB ((bs.drop i).take k.toNat), 0)) else (0, 2)

/-- All blocks but x are as they were. -/
def Kx (x : Nat) (w w' : World) : Prop := ∀ k, k < w.heap.size → k ≠ x → w'.heap[k]? = w.heap[k]?
theorem kx_drewN (x : Nat) (w : World) (q : Nat) : Kx x w (w.drewN q) := fun k hk _ => (below_drewN (Below.refl _ _) q).block k hk
theorem Kx.of_below {x : Nat} {w w' : World} (f : Below w.heap.size w w') : Kx x w w' := fun k hk _ => f.block k hk
theorem Kx.trans {x : Nat} {w w1 w2 : World} (h : Kx x w w1) (hs : w.heap.size ≤ w1.heap.size) (g : Kx x w1 w2) : Kx x w w2 := fun k hk hx => (g k (Nat.lt_of_lt_of_le hk hs) hx).trans (h k hk hx)
theorem rlen_pow {m : Nat} (l : List UInt8) (h : l.length = m) : numB l < 256 ^ m := by rw [← h]; exact numB_lt l
theorem lookR_lt (bs : List UInt8) (i : Nat) (k : Int) : (lookR bs i k).1 < 18446744073709551616 := by
  unfold lookR
  split
  · rename_i hw
    split
    · show (0 : Nat) < _
      omega
    · have h := numB_small (l := (bs.drop i).take k.toNat) (k := 8) (m := 0) (by
        rw [List.length_take]
        obtain ⟨m, rfl, hm⟩ := wide_nat hw
        omega)
      show numB _ < _
      omega
  · show (0 : Nat) < _
    omega

end Go.Proofs.YteooppjbpekepaaGreatDoor

/- The landed word: the writer's calls. -/
namespace Go.Proofs.YteooppjbpekepaaGreatDoor
open Go.RowKit
set_option linter.unusedVariables false

theorem step_copy_none {P : Program} {ops : Array Oper} {o : Oper} {a : Act} {w : World} {K : Act → World → Prop} {Q : Exit → Act → World → Prop} {E : Prop} (hgd : o.guard = none) (d s : Operand) (dT sT : TypeId)
    (ho : o.op = .call { callee := .builtin .copy, args := #[d, s], argTypes := #[dT, sT] }) (elem : TypeId) (hu : P.underlying dT = some (.slice elem)) (hsz : (P.info? elem).map (·.size) = some 1)
    (dp sp : Option Addr) (dLen dCap sLen sCap : Nat) (hd : a.eval d = .slice dp dLen dCap) (hs : a.eval s = .slice sp sLen sCap) (hn : Nat.min sLen dLen = 0)
    (h : K (a.put o.dst (goInt 0)) w) : if Region.wanted o (yielded ops a.tmps) = true then Oper.wp P o a w K Q else E := by
  rw [if_pos (by simp [Region.wanted, hgd])]
  have hrun := run_copy_none (P := P) w dT sT o.type elem dp sp dLen dCap sLen sCap hu hsz hn
  unfold Oper.wp
  simp [execOp, ho, resolve, invoke, builtin, hd, hs, hrun, Result.andThen]
  exact h

/-- An append to bytes of one's own that are not nil, in a region that draws: where the new slice lies. -/
theorem stepN6_append {w : World} {ops : Array Oper} {o : Oper} {a : Act} {K : Act → World → Prop} {Q : Exit → Act → World → Prop} {E : Prop} (hgd : o.guard = none) (s x : Operand) (ho : o.op = .call { callee := .builtin .append, args := #[s, x], argTypes := #[23, 23] })
    (base g n cap : Nat) (xs : List UInt8) (hs : a.eval s = .slice (some ⟨g, 0, none⟩) n cap) (hown : w.ownsRow base 5 1 (.slice (some ⟨g, 0, none⟩) n cap) n (bv xs)) (src : Option Addr) (m c : Nat) (ys : List UInt8) (hx : a.eval x = .slice src m c) (hb : Bs w src m ys) (hnil : src = none → m = 0 ∧ c = 0)
    (hsm : n + m ≤ 140737488355328) (hbase : base ≤ w.heap.size) (h : ∀ g' c' w', w'.ownsRow base 5 1 (.slice (some ⟨g', 0, none⟩) (n + m) c') (n + m) (bv (xs ++ ys)) → w.grownBy w' (some g) → (g' = g ∨ w.heap.size ≤ g') → K (a.put o.dst (.slice (some ⟨g', 0, none⟩) (n + m) c')) w') :
    if Region.wanted o (yielded ops a.tmps) = true then Oper.wp Tryz.prog o a w K Q else E := by
  rw [if_pos (by simp [Region.wanted, hgd])]
  obtain ⟨i0, hi, hz0, hz1, hz2⟩ := info_parts infoB
  cases src with
  | none =>
    obtain ⟨rfl, rfl⟩ := hnil rfl
    have h0 : ys = [] := List.eq_nil_of_length_eq_zero hb.1
    subst h0
    have hrun := run_append_owned_none (P := Tryz.prog) (w := w) base 23 o.type 5 i0 1 Tryz.underlying23 hi _ n (bv xs) hown
    unfold Oper.wp
    simp [execOp, ho, resolve, invoke, builtin, hs, hx, hrun, Result.andThen]
    exact h g cap w (by rw [List.append_nil]; exact hown) ⟨rfl, rfl, rfl, Nat.le_refl _, fun _ _ _ => rfl⟩ (.inl rfl)
  | some ad =>
    obtain ⟨v', w', hr, h2, h3, h4, h5⟩ := run_append_own_at (P := Tryz.prog) w base 23 o.type 5 i0 (.int .u8 0) 1 1 Tryz.underlying23 hi hz0 hz1 hz2 rfl (by decide) _ n (bv xs) hown ad m c (bv ys) (by rw [bv_length, hb.1]; omega) (hb.at.2 ad rfl) (bv_one _) (by unfold maxLen; omega) (by omega) hbase
    unfold Oper.wp
    simp [execOp, ho, resolve, invoke, builtin, hs, hx, hr, Result.andThen]
    rcases h2.2 with ⟨e, _⟩ | ⟨g', c', cur, rfl, _⟩
    · have := (h4.1 e).1
      cases this
    · refine h g' c' w' (by rw [bv_append]; exact h2) h3 ?_
      rcases h5 with h5 | h5
      · simp [Value.ownBlock] at h5
        exact .inl h5
      · simp [Value.ownBlock] at h5
        exact .inr (by omega)

theorem Sp.stored {T : TypeId} {W : World} {B x y n c : Nat} {bs : List UInt8} {v0 v1 : Value} (hx : B ≤ x) (hb : W.heap[x]? = some (.cells #[v0, v1] T (0, 0))) (ho : W.ownsRow B 5 1 (.slice (some ⟨y, 0, none⟩) n c) n (bv bs)) (hl : bs.length = n) (hne : x ≠ y) (K : Nat) :
    Sp T ((W.setCell ⟨x, 0, none⟩ (.slice (some ⟨y, 0, none⟩) n c)).setCell ⟨x, 1, none⟩ (.int .i64 (K : Int))) B x y c bs K := by
  subst hl
  refine ⟨hx, hne, pair_set _ _ hb, own_of_block ho (fun k hk => ?_)⟩
  simp [Value.ownBlock] at hk
  subst hk
  exact (Below.heap_setCell _ _ _ _ hne.symm).trans (Below.heap_setCell _ _ _ _ hne.symm)

/-- What put leaves: a span of the new bytes, its place behind them. -/
structure PutOk (T : TypeId) (w : World) (B x y : Nat) (bs : List UInt8) (K : Nat) (W : World) : Prop where
  sp : ∃ y' c', Sp T W B x y' c' bs K ∧ (y' = y ∨ w.heap.size ≤ y')
  bel : Below B w W
  oth : ∀ k, k < w.heap.size → k ≠ x → k ≠ y → W.heap[k]? = w.heap[k]?

/-- One byte copied into bytes of one's own, in a region that draws. -/
theorem stepP_copy {w : World} {ops : Array Oper} {o : Oper} {a : Act} {K : Act → World → Prop} {Q : Exit → Act → World → Prop} {E : Prop} (hgd : o.guard = none) (d s : Operand)
    (ho : o.op = .call { callee := .builtin .copy, args := #[d, s], argTypes := #[23, 23] }) (B y n c i : Nat) (bs : List UInt8) (u : UInt8) (hown : w.ownsRow B 5 1 (.slice (some ⟨y, 0, none⟩) n c) n (bv bs)) (hi : i < n)
    (dLen dCap : Nat) (hd : a.eval d = .slice (some ⟨y, i, none⟩) dLen dCap) (hdl : 0 < dLen) (z sCap : Nat) (hs : a.eval s = .slice (some ⟨z, 0, none⟩) 1 sCap) (hz : w.cell? ⟨z, 0, none⟩ = some (.int .u8 (u.toNat : Int)))
    (h : ∀ w', w'.ownsRow B 5 1 (.slice (some ⟨y, 0, none⟩) n c) n (bv (bs.set i u)) → (∀ k, k ≠ y → w'.heap[k]? = w.heap[k]?) → w'.heap.size = w.heap.size → Below B w w' → K (a.put o.dst (.int .i64 1)) w') :
    if Region.wanted o (yielded ops a.tmps) = true then Oper.wp Tryz.prog o a w K Q else E := by
  rw [if_pos (by simp [Region.wanted, hgd])]
  rcases hown.2 with ⟨e, _⟩ | ⟨g, cap, cur, e, hB, hg, hnc, hcm, hcs, htake⟩
  · cases e
  · simp only [Value.slice.injEq, Option.some.injEq, Addr.mk.injEq, and_true, true_and] at e
    obtain ⟨rfl, rfl⟩ := e
    have hl := hown.1
    rw [Nat.mul_one] at hl hcs htake
    have hrun := run_copy_row (P := Tryz.prog) w 23 23 o.type 5 y i dLen dCap ⟨z, 0, none⟩ 1 sCap cur 5 [.int .u8 (u.toNat : Int)] Tryz.underlying23 (by kernel_rfl) hg (by show 1 = min 1 dLen; omega) (fun j v hj => by
      match j with
      | 0 =>
        simp at hj
        subst hj
        simpa [Addr.add_mid] using hz
      | j + 1 => simp at hj) (by show i + 1 ≤ _; omega) (by simp [Value.oneCell'])
    unfold Oper.wp
    simp [execOp, ho, resolve, invoke, builtin, hd, hs, hrun, Result.andThen]
    refine h _ ⟨?_, .inr ⟨y, c, _, rfl, hB, setRow_heap w y cur _ _ _ hg, hnc, hcm, ?_, ?_⟩⟩ (fun k hk => setRow_other w y k _ hk) (by simp [World.setRow]) ⟨rfl, rfl, rfl, by simp [World.setRow], fun k hk => setRow_other w y k _ (by omega)⟩
    · rw [bv_length, List.length_set]
      rw [bv_length] at hl
      omega
    · simp
      omega
    · have h2 : bv (bs.set i u) = (bv bs).set i (.int .u8 (u.toNat : Int)) := by simp [bv, List.map_set]
      rw [h2, ← htake, Nat.mul_one]
      have h3 : cur.toList.take i ++ (Value.int .u8 (u.toNat : Int) :: cur.toList.drop (i + 1)) = cur.toList.set i (.int .u8 (u.toNat : Int)) := by
        rw [List.set_eq_take_append_cons_drop, if_pos (by rw [Array.length_toList]; omega)]
      show List.take n (cur.toList.take i ++ (Value.int .u8 (u.toNat : Int) :: cur.toList.drop (i + 1))) = _
      rw [h3, List.take_set]

/-- An append of nothing, in a region that draws. -/
theorem stepF_append {w : World} {ops : Array Oper} {o : Oper} {a : Act} {K : Act → World → Prop} {Q : Exit → Act → World → Prop} {E : Prop} (hgd : o.guard = none) (s x : Operand) (ho : o.op = .call { callee := .builtin .append, args := #[s, x], argTypes := #[23, 23] })
    (base g n cap : Nat) (xs : List UInt8) (hs : a.eval s = .slice (some ⟨g, 0, none⟩) n cap) (hown : w.ownsRow base 5 1 (.slice (some ⟨g, 0, none⟩) n cap) n (bv xs)) (ad : Addr) (c : Nat) (hx : a.eval x = .slice (some ad) 0 c)
    (h : ∀ w', w'.ownsRow base 5 1 (.slice (some ⟨g, 0, none⟩) n cap) n (bv xs) → w.grownBy w' (some g) → K (a.put o.dst (.slice (some ⟨g, 0, none⟩) n cap)) w') :
    if Region.wanted o (yielded ops a.tmps) = true then Oper.wp Tryz.prog o a w K Q else E := by
  rw [if_pos (by simp [Region.wanted, hgd])]
  obtain ⟨i0, hi, hz0, hz1, hz2⟩ := info_parts infoB
  obtain ⟨w', hr, h2, h3⟩ := run_append_fits (P := Tryz.prog) w base 23 o.type 5 i0 1 Tryz.underlying23 hi hz1 g n cap (bv xs) hown ad 0 c [] rfl (fun j u hu => by simp at hu) (fun u hu => by simp at hu) (own_cap hown).1
  unfold Oper.wp
  simp [execOp, ho, resolve, invoke, builtin, hs, hx, hr, Result.andThen]
  rw [Nat.add_zero, List.append_nil] at h2
  exact h w' h2 h3

structure PutIn (T : TypeId) (w : World) (B x y c : Nat) (bs : List UInt8) (K : Nat) (W : World) : Prop where
  sp : Sp T W B x y c bs K
  bel : Below B w W
  oth : ∀ k, k < w.heap.size → k ≠ x → k ≠ y → W.heap[k]? = w.heap[k]?

end Go.Proofs.YteooppjbpekepaaGreatDoor

/- The landed word: putNumber. -/
namespace Go.Proofs.YteooppjbpekepaaGreatDoor
open Go.RowKit
set_option linter.unusedVariables false

/-- Bytes laid over others, from a place on. -/
def ovr (bs : List UInt8) (i : Nat) (l : List UInt8) : List UInt8 := bs.take i ++ l ++ bs.drop (i + l.length)
theorem ovr_nil (bs : List UInt8) (i : Nat) : ovr bs i [] = bs := by simp [ovr]
theorem ovr_end (bs l : List UInt8) : ovr bs bs.length l = bs ++ l := by
  unfold ovr
  rw [List.take_of_length_le (Nat.le_refl _), List.drop_eq_nil_of_le (by omega), List.append_nil]
theorem ovr_len (bs : List UInt8) (i : Nat) (l : List UInt8) (hi : i ≤ bs.length) : (ovr bs i l).length = max bs.length (i + l.length) := by
  unfold ovr
  simp
  omega
/-- One byte more. -/
def put1 (bs : List UInt8) (i : Nat) (u : UInt8) : List UInt8 := if i < bs.length then bs.set i u else bs ++ [u]
theorem ovr_put (bs : List UInt8) (i : Nat) (l : List UInt8) (u : UInt8) (hi : i ≤ bs.length) : put1 (ovr bs i l) (i + l.length) u = ovr bs i (l ++ [u]) := by
  unfold put1
  rw [ovr_len bs i l hi]
  by_cases h : i + l.length < bs.length
  · rw [if_pos (by omega)]
    unfold ovr
    have hl : (bs.take i ++ l).length = i + l.length := by simp; omega
    rw [List.set_append_right _ _ (by omega), hl, Nat.sub_self, List.append_assoc (bs.take i), List.append_assoc (bs.take i), List.append_assoc l]
    congr 2
    rw [List.length_append, List.length_singleton]
    rw [← Nat.add_assoc, List.drop_eq_getElem_cons h]
    rfl
  · rw [if_neg (by omega)]
    unfold ovr
    rw [List.drop_eq_nil_of_le (by omega), List.drop_eq_nil_of_le (by simp; omega)]
    simp

structure PutB (T : TypeId) (w : World) (B x y c i n : Nat) (bs : List UInt8) (W : World) : Prop where
  sp : ∃ y' c', Sp T W B x y' c' bs (i + 1) ∧ (y' = y ∨ w.heap.size ≤ y') ∧ (i < n → y' = y ∧ c' = c)
  bel : Below B w W
  oth : ∀ k, k < w.heap.size → k ≠ x → k ≠ y → W.heap[k]? = w.heap[k]?
/-- The byte of a number behind so many others. -/
def byteAt (n : Int) (j : Nat) : UInt8 := UInt8.ofNat ((n % 18446744073709551616).toNat / 256 ^ j)
theorem byteAt_eq (n : Int) (j : Nat) (hj : j < 8) : IntKind.u8.wrap (n / 2 ^ (8 * j)) = ((byteAt n j).toNat : Int) := by
  have hp : (2 : Int) ^ (8 * j) = ((256 ^ j : Nat) : Int) := by
    rw [Int.pow_mul]
    simp
  rw [hp, IntKind.wrap_u8]
  unfold byteAt
  rw [UInt8.toNat_ofNat']
  have : j = 0 ∨ j = 1 ∨ j = 2 ∨ j = 3 ∨ j = 4 ∨ j = 5 ∨ j = 6 ∨ j = 7 := by omega
  rcases this with rfl | rfl | rfl | rfl | rfl | rfl | rfl | rfl <;> (simp; omega)
theorem bytesW_take (m : Nat) (n : Int) (i : Nat) (hi : i < m) : (bytesW m n).take (i + 1) = (bytesW m n).take i ++ [byteAt n (m - 1 - i)] := by
  have key : ∀ (m : Nat) (x i : Nat), i < m → (beK m x)[i]? = some (UInt8.ofNat (x / 256 ^ (m - 1 - i))) := by
    intro m
    induction m with
    | zero => intro x i h; omega
    | succ m ih =>
      intro x i h
      rw [beK_cons]
      match i with
      | 0 => simp
      | i + 1 =>
        rw [List.getElem?_cons_succ, ih x i (by omega)]
        congr 4
        omega
  unfold bytesW
  rw [Int.toNat_natCast, List.take_add_one, key m _ i hi]
  rfl

/-- Between the rounds of putNumber. -/
structure PN (T : TypeId) (w : World) (B x y c i m : Nat) (bs : List UInt8) (n : Int) (k : Nat) (W : World) : Prop where
  sp : ∃ y' c', Sp T W B x y' c' (ovr bs i ((bytesW m n).take k)) (i + k) ∧ (y' = y ∨ w.heap.size ≤ y') ∧ (i + m ≤ bs.length → y' = y ∧ c' = c)
  bel : Below B w W
  oth : ∀ q, q < w.heap.size → q ≠ x → q ≠ y → W.heap[q]? = w.heap[q]?
theorem PN.start {T : TypeId} {w : World} {B x y c i : Nat} {bs : List UInt8} (h : Sp T w B x y c bs i) (m : Nat) (n : Int) : PN T w B x y c i m bs n 0 w :=
  ⟨⟨y, c, by rw [List.take_zero, ovr_nil]; exact h, .inl rfl, fun _ => ⟨rfl, rfl⟩⟩, Below.refl _ _, fun _ _ _ _ => rfl⟩
theorem ovr_room {bs : List UInt8} {i k m : Nat} {n : Int} (hi : i ≤ bs.length) (hk : k < m) (hn : bs.length + 8 ≤ 140737488355328) (hm : m ≤ 8) : (ovr bs i ((bytesW m n).take k)).length + 1 ≤ 140737488355328 ∧ i + k ≤ (ovr bs i ((bytesW m n).take k)).length ∧ ((bytesW m n).take k).length = k := by
  have hl : ((bytesW m n).take k).length = k := by rw [List.length_take, bytesW_len, Int.toNat_natCast]; omega
  rw [ovr_len bs i _ hi, hl]
  omega
end Go.Proofs.YteooppjbpekepaaGreatDoor

/- The landed word: the writer's calls. -/
namespace Go.Proofs.YteooppjbpekepaaGreatDoor
open Go.RowKit
set_option linter.unusedVariables false

end Go.Proofs.YteooppjbpekepaaGreatDoor

/- The landed word: the writer's U, S, Patch (written by mk/mkword8.py); words. -/
namespace Go.Proofs.YteooppjbpekepaaGreatDoor
open Go.RowKit
set_option linter.unusedVariables false

end Go.Proofs.YteooppjbpekepaaGreatDoor
