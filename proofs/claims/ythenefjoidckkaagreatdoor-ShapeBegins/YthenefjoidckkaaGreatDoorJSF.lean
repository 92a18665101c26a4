/- Joined: SjA CpK SjD SjE SjF SjG SjH KdX SjB SjC SjI. -/
import Derived.Test.YthenefjoidckkaaGreatDoorJSA
import Derived.Test.YthenefjoidckkaaGreatDoorJN
import Derived.Test.YthenefjoidckkaaGreatDoorJK4
import Derived.Laws.IdiomCopy
import Derived.Shelf.Spec.SlicesInsert
import Derived.Shelf.Spec.SlicesInsertGrow
import Derived.Laws.OwnMore

/- Layer 11: the frame with which a method begins, as a plain value. -/
namespace Go.Proofs.YthenefjoidckkaaGreatDoor
open Go.RowKit
set_option linter.unusedVariables false

/-- Types as they lie in locals: behind each long one a KTop. -/
def flatL : List Ty → List Ty
  | [] => []
  | t :: l => t :: ((if t.kind = 2 then [ty0] else []) ++ flatL l)
theorem flatL_append (a b : List Ty) : flatL (a ++ b) = flatL a ++ flatL b := by
  induction a with
  | nil => rfl
  | cons t a ih => simp [flatL, ih, List.append_assoc]
theorem flatL_one (t : Ty) : flatL [t] = t :: (if t.kind = 2 then [ty0] else []) := by simp [flatL]
theorem flatL_long {t : Ty} (h : t.kind = 2) : flatL [t] = [t] ++ [ty0] := by rw [flatL_one, if_pos h]; rfl
theorem flatL_short {t : Ty} (h : t.kind ≠ 2) : flatL [t] = [t] := by rw [flatL_one, if_neg h]
theorem flatL_len (l : List Ty) : (flatL l).length = wideN l := by
  induction l with
  | nil => rfl
  | cons t l ih =>
    have e : wideN (t :: l) = wideN [t] + wideN l := wideN_append [t] l
    rw [e, ← ih]
    by_cases h : t.kind = 2
    · simp [flatL, wideN, h]; omega
    · simp [flatL, wideN, h]; omega
theorem flatL_take {l : List Ty} {k : Nat} {t : Ty} (h : l[k]? = some t) : flatL (l.take (k + 1)) = flatL (l.take k) ++ flatL [t] := by
  rw [List.take_add_one, h, flatL_append]; rfl
/-- What a method is handed: itself ahead, if it is not static. -/
def argsB (ac : Int) (nm : List UInt8) (L : List Ty) : List Ty := (if ac = 8 ∨ ac = 40 then [] else [refT nm]) ++ L
/-- Begin: locals and stack. -/
def beginP (ac : Int) (nm : List UInt8) (e : Int) (L : List Ty) (n : Int) : Option (List Ty × List Ty) :=
  if e = 0 ∧ (wideN (argsB ac nm L) : Int) ≤ n ∧ n ≤ 64 then some (flatL (argsB ac nm L) ++ List.replicate (n.toNat - wideN (argsB ac nm L)) ty0, []) else none
theorem beginP_no {ac : Int} {nm : List UInt8} {e : Int} {L : List Ty} {n : Int} (h : ¬ (e = 0 ∧ (wideN (argsB ac nm L) : Int) ≤ n ∧ n ≤ 64)) : beginP ac nm e L n = none := if_neg h
theorem metP_few (L : List Ty) (rest : List UInt8) : (metP L rest).1.length ≤ L.length ∧ ((metP L rest).2.2 = 0 ∨ (metP L rest).2.2 = 3 ∨ (metP L rest).2.2 = 100) := by
  unfold metP
  split
  · split
    · exact ⟨by simp, .inr (.inl rfl)⟩
    · exact ⟨Nat.le_refl _, .inl rfl⟩
  · exact ⟨by simp, .inr (.inr rfl)⟩
theorem replicate_more (k : Nat) : List.replicate k ty0 ++ [ty0] = List.replicate (k + 1) ty0 := by rw [List.replicate_succ']
end Go.Proofs.YthenefjoidckkaaGreatDoor

/- Builtin copy for elements of several cells; rows cut, and a record of a row written. -/
namespace Go.Proofs.YthenefjoidckkaaGreatDoor
open Go.RowKit
set_option linter.unusedVariables false

theorem run_copy_k (w : World) (dT sT ty elem : TypeId) (b o dLen dCap : Nat) (a : Addr) (sLen sCap : Nat) (cs : List Value) (sz : Nat)
    (hu : Tryz.prog.underlying dT = some (.slice elem)) (hs : (Tryz.prog.info? elem).map (·.size) = some sz) (hn : cs.length = Nat.min sLen dLen * sz)
    (hsrc : ∀ j v, cs[j]? = some v → w.cell? (a.add j) = some v) (hc : ∀ j, j < cs.length → (w.cell? ⟨b, o + j, none⟩).isSome = true) (hf : ∀ j, j < cs.length → w.frozen? ⟨b, o + j, none⟩ = false) (h1 : ∀ v ∈ cs, v.oneCell' = true) :
    (Builtin.copy_ #[dT, sT] ty #[.slice (some ⟨b, o, none⟩) dLen dCap, .slice (some a) sLen sCap]).run Tryz.prog w = .ok (goInt (Nat.min sLen dLen : Nat)) (w.setCells b o cs) := by
  have hl := run_loadCells_list (P := Tryz.prog) w a cs hsrc
  have hst := run_storeCells_cells (P := Tryz.prog) b o cs 0 w (by simpa using hc) (by simpa using hf) h1
  cases hq : Tryz.prog.info? elem with
  | none => simp [hq] at hs
  | some i =>
    have hi : i.size = sz := by simpa [hq] using hs
    simp [Builtin.copy_, run_underlying hu, Builtin.lenOf, Builtin.firstCells, sizeOf, typeInfo, hq, hi, ← hn, hl, hst]
/-- A record of a row is written. -/
theorem Orw.setR {α : Type} {cs : α → List Value} {e : TypeId} {sz : Nat} (hl : ∀ x, (cs x).length = sz) {W : World} {base g n c : Nat} {l : List α} (h : Orw cs e sz W base (.slice (some ⟨g, 0, none⟩) n c) l) {k : Nat} (hk : k < n) (x : α) : Orw cs e sz (W.setCells g (k * sz) (cs x)) base (.slice (some ⟨g, 0, none⟩) n c) (l.set k x) := by
  have hln : l.length = n := by obtain ⟨_, _, e', _⟩ := h.form; injection e' with _ e2 _; exact e2.symm
  have hkl : k < l.length := by omega
  have hsp : l = l.take k ++ (l[k] :: l.drop (k + 1)) := by rw [← List.drop_eq_getElem_cons hkl, List.take_append_drop]
  have h' := h
  unfold Orw at h'
  rw [hln] at h'
  obtain ⟨ys, q1, q2⟩ := stored_all (cs x) (k * sz) W _ h'
  have hys := q2 ((l.take k).flatMap cs) (cs l[k]) ((l.drop (k + 1)).flatMap cs) (by
    conv => lhs; rw [hsp]
    rw [List.flatMap_append, List.flatMap_cons]) (by rw [flatR_len hl, List.length_take, Nat.min_eq_left (by omega)]) (by rw [hl, hl])
  have el : l.set k x = l.take k ++ x :: l.drop (k + 1) := List.set_eq_take_append_cons_drop.trans (if_pos hkl)
  unfold Orw
  rw [List.length_set, hln]
  have : (l.set k x).flatMap cs = ys := by rw [hys, el, List.flatMap_append, List.flatMap_cons]
  rw [this]
  exact q1
/-- The block of a row that has records. -/
theorem Orw.blkR {α : Type} {cs : α → List Value} {e : TypeId} {sz : Nat} (hl : ∀ x, (cs x).length = sz) {W : World} {base : Nat} {a : Option Addr} {n c : Nat} {l : List α} (h : Orw cs e sz W base (.slice a n c) l) (hn : n ≠ 0) : ∃ g cur, a = some ⟨g, 0, none⟩ ∧ base ≤ g ∧ W.heap[g]? = some (.cells cur e (0, 0)) ∧ (∀ q, W.frozen? ⟨g, q, none⟩ = false) ∧ ∀ (k : Nat) x, l[k]? = some x → ∀ (q : Nat) (u : Value), (cs x)[q]? = some u → W.cell? ⟨g, k * sz + q, none⟩ = some u := by
  have hln : l.length = n := by obtain ⟨_, _, e', _⟩ := h.form; injection e' with _ e2 _; exact e2.symm
  rcases h.2 with ⟨hv, h0⟩ | ⟨g, cap, cur, hv, hb, hh, hc1, hc2, hsz, htk⟩
  · omega
  · injection hv with ea en ec
    refine ⟨g, cur, ea, hb, hh, fun q => bx_thaw hh q, fun k x hx q u hu => ?_⟩
    have h2 := flatR_at hl l k x hx q u hu
    rw [← htk] at h2
    rw [cell_of_row _ _ _ _ _ _ hh]
    rw [List.getElem?_take] at h2
    split at h2
    · simpa using h2
    · cases h2
end Go.Proofs.YthenefjoidckkaaGreatDoor

/- Builtin copy for elements of several cells. -/
namespace Go.Proofs.YthenefjoidckkaaGreatDoor
open Go.RowKit
set_option linter.unusedVariables false

end Go.Proofs.YthenefjoidckkaaGreatDoor

/- slices.Insert of one type ahead of a row of types: there is room. -/
namespace Go.Proofs.YthenefjoidckkaaGreatDoor
open Go.RowKit
set_option linter.unusedVariables false
set_option maxRecDepth 100000

theorem size_ty : (Tryz.prog.info? 52).map (·.size) = some 2 := by kernel_rfl
theorem sizeOf_ty (w : World) : (sizeOf 52).run Tryz.prog w = .ok 2 w := by
  have h := size_ty
  cases hq : Tryz.prog.info? 52 with
  | none => simp [hq] at h
  | some i =>
    have hi : i.size = 2 := by simpa [hq] using h
    simp [sizeOf, typeInfo, hq, hi]
set_option maxHeartbeats 800000 in
theorem slInsertT_shift (w : World) (b n c vb : Nat) (cs vs : List Value) (hn : 0 < n) (hroom : n + 1 ≤ c) (hc63 : c ≤ 9223372036854775807) (hvb : vb ≠ b) (hcl : cs.length = n * 2) (hvl : vs.length = 2)
    (hcs : ∀ j v, cs[j]? = some v → w.cell? ⟨b, j, none⟩ = some v) (hsp : ∀ j, j < (n + 1) * 2 → (w.cell? ⟨b, j, none⟩).isSome = true) (hfz : ∀ j, w.frozen? ⟨b, j, none⟩ = false) (hvs : ∀ j v, vs[j]? = some v → w.cell? ⟨vb, j, none⟩ = some v) (h1c : ∀ v ∈ cs, v.oneCell' = true) (h1v : ∀ v ∈ vs, v.oneCell' = true)
    (tA tB : TypeId) (kA kB : Nat) (hsa : w.shape? vb = some (tA, kA)) (hsb : w.shape? b = some (tB, kB)) (hkB : kB ≠ 0) (hfa : ∀ j, w.frozen? ⟨vb, j, none⟩ = false) :
    Calls Tryz.prog 24 #[.slice (some ⟨b, 0, none⟩) n c, .int .i64 0, .slice (some ⟨vb, 0, none⟩) 1 1] w fun e w' => e = .returned (.slice (some ⟨b, 0, none⟩) (n + 1) c) ∧ w' = (w.drew.setCells b 2 cs).setCells b 0 vs := by
  have hov : ∀ lb cb, (callFunc 42 #[.slice (some ⟨vb, 0, none⟩) 1 1, .slice (some ⟨b, 2, none⟩) lb cb]).run Tryz.prog w = .ok (.value (.bool false)) w := fun lb cb => by
    rw [run_callFunc_extern Tryz.func42 (by kernel_rfl) (by kernel_rfl) (by kernel_rfl) (e := Extern.SlicesOverlaps.overlaps #[30, 30] #[4]) (by kernel_rfl),
      Lib.run_overlaps_apart w 30 4 52 Tryz.underlying30 2 sizeOf_ty ⟨vb, 0, none⟩ ⟨b, 2, none⟩ 1 1 lb cb hvb tA tB kA kB hsa hsb hkB (hfa 0) (hfa kA)]
    rfl
  have hcp1 : ∀ ty dc sc, (Builtin.copy_ #[30, 30] ty #[.slice (some ⟨b, 2, none⟩) n dc, .slice (some ⟨b, 0, none⟩) (n + 1) sc]).run Tryz.prog w.drew = .ok (goInt (Nat.min (n + 1) n : Nat)) (w.drew.setCells b 2 cs) := fun ty dc sc =>
    run_copy_k w.drew _ _ ty 52 b 2 n dc ⟨b, 0, none⟩ (n + 1) sc cs 2 Tryz.underlying30 size_ty (by rw [hcl, show Nat.min (n + 1) n = n by simp only [Nat.min_def]; split <;> omega])
      (fun j v hj => by rw [Addr.add_lit, Nat.zero_add]; exact hcs j v hj) (fun j hj => hsp _ (by omega)) (fun j hj => hfz _) h1c
  obtain ⟨W1, hW1⟩ : ∃ W1, W1 = w.drew.setCells b 2 cs := ⟨_, rfl⟩
  have hsp1 : ∀ k, k < (n + 1) * 2 → (W1.cell? ⟨b, k, none⟩).isSome = true := fun k hk => by
    rw [hW1]
    exact isSome_setCells b cs 2 w.drew (fun j hj => hsp _ (by rw [hcl] at hj; omega)) _ (hsp k hk)
  have hcp2 : ∀ ty m dc, 1 ≤ m → (Builtin.copy_ #[30, 30] ty #[.slice (some ⟨b, 0, none⟩) m dc, .slice (some ⟨vb, 0, none⟩) 1 1]).run Tryz.prog W1 = .ok (goInt (Nat.min 1 m : Nat)) (W1.setCells b 0 vs) := fun ty m dc hm =>
    run_copy_k W1 _ _ ty 52 b 0 m dc ⟨vb, 0, none⟩ 1 1 vs 2 Tryz.underlying30 size_ty (by rw [hvl, show Nat.min 1 m = 1 by simp only [Nat.min_def]; split <;> omega])
      (fun j v hj => by
        rw [Addr.add_lit, Nat.zero_add, hW1, World.cell?_setCells_out b _ _ _ _ (fun h _ => absurd h hvb)]
        exact hvs j v hj)
      (fun j hj => by rw [Nat.zero_add]; exact hsp1 _ (by omega)) (fun j hj => by rw [hW1, World.frozen?_setCells]; exact hfz _) h1v
  rw [← hW1] at hcp1 ⊢
  clear hW1
  have hz2 : ¬ ((0 : Int) = (n : Int)) := by omega
  have hz3 : ¬ (c : Int) < (n : Int) + 1 := by omega
  have hb2 : ¬ c = 1 := by omega
  have hb4 : ¬ c = 0 := by omega
  have hw1 : IntKind.i64.wrap 1 = 1 := by rw [IntKind.wrap_i64] <;> omega
  have hw0 : (0 : Int) ≤ (n : Int) + 1 := by omega
  have hb1 : (1 : Int) ≤ (n : Int) + 1 := by omega
  have ht1 : (1 : Int).toNat = 1 := rfl
  have mixed : Tryz.prog.follows .mixedOrders = true := by kernel_rfl
  go_enter Tryz.func24, Tryz.ntmps24
  go_wp2_with (simp only [hov])
  go_region_law_o (refine step_copy_runI rfl _ _ 30 30 rfl _ _ (by simp [Act.eval, Act.put]) (by simp [Act.eval, Act.put]) (hcp1 _ _ _) ?_)
  go_wp2_with (at_builtin; refine wpList_copy_runI _ rfl _ _ 30 30 rfl _ _ rfl rfl (hcp2 _ (n + 1) _ (by omega)) ?_)
  go_ret
  exact ⟨rfl, rfl⟩
end Go.Proofs.YthenefjoidckkaaGreatDoor

/- slices.Insert of one type ahead of a row of types: there is no room. -/
namespace Go.Proofs.YthenefjoidckkaaGreatDoor
open Go.RowKit
set_option linter.unusedVariables false
set_option maxRecDepth 100000

set_option maxHeartbeats 800000 in
theorem slInsertT_grow (w : World) (b n c vb : Nat) (cs vs : List Value) (hn : 0 < n) (hnc : n ≤ c) (hroom : c < n + 1) (hbig : (n + 1) * 24 ≤ 140737488355328) (hvb : vb ≠ b) (hcl : cs.length = n * 2) (hvl : vs.length = 2)
    (hcs : ∀ j v, cs[j]? = some v → w.cell? ⟨b, j, none⟩ = some v) (hvs : ∀ j v, vs[j]? = some v → w.cell? ⟨vb, j, none⟩ = some v) (h1c : ∀ v ∈ cs, v.oneCell' = true) (h1v : ∀ v ∈ vs, v.oneCell' = true) :
    Calls Tryz.prog 24 #[.slice (some ⟨b, 0, none⟩) n c, .int .i64 0, .slice (some ⟨vb, 0, none⟩) 1 1] w fun e w' => ∃ (ROW : Array Value) (G : Nat), ROW.size = G * 2 ∧ n + 1 ≤ G ∧ G ≤ 9223372036854775807 ∧ e = .returned (.slice (some ⟨w.heap.size, 0, none⟩) (n + 1) G) ∧ w' = (((w.alloc (.cells ROW 52)).drew.setCells w.heap.size 0 vs).drew.setCells w.heap.size 2 cs) := by
  obtain ⟨i0, hi0, hiz⟩ : ∃ i0, Tryz.prog.info? 52 = some i0 ∧ (i0.zero, i0.size, i0.bytes) = (some (.agg #[.int .i64 0, .string ⟨#[]⟩]), 2, 24) := by
    have h := rkT.info
    cases hq : Tryz.prog.info? 52 with
    | none => simp [hq] at h
    | some i => exact ⟨i, rfl, by simpa [hq] using h⟩
  have hz0 : i0.zero = some (.agg #[.int .i64 0, .string ⟨#[]⟩]) := by injection hiz
  have hzs : i0.size = 2 := by injection hiz with _ h; injection h
  have hzb : i0.bytes = 24 := by injection hiz with _ h; injection h
  have hbw : b < w.heap.size := block_lt_of_cell (hcs 0 _ (List.getElem?_eq_getElem (by omega)))
  have hvw : vb < w.heap.size := block_lt_of_cell (hvs 0 _ (List.getElem?_eq_getElem (by omega)))
  have hold : (Builtin.firstCells i0.size 0 (.slice (some ⟨b, 0, none⟩) 0 c)).run Tryz.prog w.drew = .ok (#[] : Array Value) w.drew := by
    have h := run_loadCells_list (P := Tryz.prog) w.drew ⟨b, 0, none⟩ [] (by simp)
    simpa [Builtin.firstCells] using h
  have hrz : ∀ ty, (Builtin.append_ #[30, 3] ty #[.slice (some ⟨b, 0, none⟩) 0 c, .int .i64 ((n : Int) + 1)]).run Tryz.prog w =
      .ok (.slice (some ⟨w.heap.size, 0, none⟩) (n + 1) (grownCap w (n + 1) c 52)) (w.drew.alloc (.cells ((#[] : Array Value) ++ Builtin.zeroCells (Value.agg #[.int .i64 0, .string ⟨#[]⟩]).cells (n + 1) ++ Builtin.zeroCells (Value.agg #[.int .i64 0, .string ⟨#[]⟩]).cells (grownCap w (n + 1) c 52 - (n + 1))) 52)) := fun ty => by
    have h := Lib.run_append_grow_zeros w 30 3 ty 52 i0 _ .i64 .i64 Tryz.underlying30 Tryz.underlying3 hi0 hz0 (some ⟨b, 0, none⟩) 0 c [] hold (n + 1) (by omega) (by omega) (by omega) (by omega) (by rw [hzb]; omega) (by rw [hzb, Nat.zero_add]; exact growslice_fits hroom hbig)
    rw [Nat.zero_add] at h
    exact h
  have hGn : n + 1 ≤ grownCap w (n + 1) c 52 := grownCap_ge w _ _ _
  have hG63 : grownCap w (n + 1) c 52 ≤ 9223372036854775807 := by
    have := grownCap_le_maxLen w (n + 1) c 52 (by unfold maxLen; omega)
    unfold maxLen at this
    omega
  generalize grownCap w (n + 1) c 52 = G at *
  obtain ⟨ROW, hROW⟩ : ∃ ROW : Array Value, ROW = (#[] : Array Value) ++ Builtin.zeroCells (Value.agg #[.int .i64 0, .string ⟨#[]⟩]).cells (n + 1) ++ Builtin.zeroCells (Value.agg #[.int .i64 0, .string ⟨#[]⟩]).cells (G - (n + 1)) := ⟨_, rfl⟩
  rw [← hROW] at hrz
  have hRl : ROW.size = G * 2 := by
    rw [hROW]
    simp [Builtin.zeroCells, Value.cells]
    omega
  clear hROW hiz hz0 hzs hzb hi0 hold
  obtain ⟨W1, hW1⟩ : ∃ W1, W1 = w.drew.alloc (.cells ROW 52) := ⟨_, rfl⟩
  rw [← hW1] at hrz
  have hN : ∀ j, j < (n + 1) * 2 → (W1.cell? ⟨w.heap.size, j, none⟩).isSome = true := fun j hj => by
    rw [hW1, World.cell?_alloc_at (w := w.drew) ROW _ w.heap.size j rfl, Array.getElem?_eq_getElem (by omega)]; rfl
  have hNf : ∀ j, W1.frozen? ⟨w.heap.size, j, none⟩ = false := fun j => by rw [hW1]; exact World.frozen?_alloc_at (w := w.drew) ROW _ w.heap.size j rfl
  have hOb : ∀ j v, w.cell? ⟨b, j, none⟩ = some v → W1.cell? ⟨b, j, none⟩ = some v := fun j v h => by rw [hW1, World.cell?_alloc_past (w := w.drew) _ b j hbw]; exact h
  have hOv : ∀ j v, w.cell? ⟨vb, j, none⟩ = some v → W1.cell? ⟨vb, j, none⟩ = some v := fun j v h => by rw [hW1, World.cell?_alloc_past (w := w.drew) _ vb j hvw]; exact h
  have hcpA : ∀ (W : World), (∀ x, W.cell? x = W1.cell? x) → (∀ x, W.frozen? x = W1.frozen? x) → ∀ ty dc, (Builtin.copy_ #[30, 30] ty #[.slice (some ⟨w.heap.size, 0, none⟩) (n + 1) dc, .slice (some ⟨vb, 0, none⟩) 1 1]).run Tryz.prog W = .ok (goInt (Nat.min 1 (n + 1) : Nat)) (W.setCells w.heap.size 0 vs) := fun W hWc hWf ty dc =>
    run_copy_k W _ _ ty 52 w.heap.size 0 (n + 1) dc ⟨vb, 0, none⟩ 1 1 vs 2 Tryz.underlying30 size_ty (by rw [hvl, show Nat.min 1 (n + 1) = 1 by simp only [Nat.min_def]; split <;> omega])
      (fun j v hj => by rw [Addr.add_lit, hWc, Nat.zero_add]; exact hOv _ v (hvs j v hj))
      (fun j hj => by rw [hWc, Nat.zero_add]; exact hN _ (by omega)) (fun j hj => by rw [hWf]; exact hNf _) h1v
  have hbN : b ≠ w.heap.size := by omega
  have hcpB : ∀ (W : World), (∀ x, W.cell? x = (W1.setCells w.heap.size 0 vs).cell? x) → (∀ x, W.frozen? x = (W1.setCells w.heap.size 0 vs).frozen? x) → ∀ ty dc sc, (Builtin.copy_ #[30, 30] ty #[.slice (some ⟨w.heap.size, 2, none⟩) n dc, .slice (some ⟨b, 0, none⟩) n sc]).run Tryz.prog W = .ok (goInt (Nat.min n n : Nat)) (W.setCells w.heap.size 2 cs) := fun W hWc hWf ty dc sc =>
    run_copy_k W _ _ ty 52 w.heap.size 2 n dc ⟨b, 0, none⟩ n sc cs 2 Tryz.underlying30 size_ty (by rw [hcl, show Nat.min n n = n by simp only [Nat.min_def]; split <;> omega])
      (fun j v hj => by
        rw [Addr.add_lit, hWc, World.cell?_setCells_out _ _ _ _ _ (fun h _ => absurd h hbN), Nat.zero_add]
        exact hOb _ v (hcs j v hj))
      (fun j hj => by rw [hWc]; exact isSome_setCells _ _ _ _ (fun t ht => hN _ (by omega)) _ (hN _ (by omega)))
      (fun j hj => by rw [hWf, World.frozen?_setCells]; exact hNf _) h1c
  subst hW1
  have hE1 : ∀ x, ((w.alloc (.cells ROW 52)).drew).cell? x = (w.drew.alloc (.cells ROW 52)).cell? x := fun x => rfl
  have hE2 : ∀ x, ((w.alloc (.cells ROW 52)).drew).frozen? x = (w.drew.alloc (.cells ROW 52)).frozen? x := fun x => rfl
  have hF1 : ∀ x, (((w.alloc (.cells ROW 52)).drew.setCells w.heap.size 0 vs).drew).cell? x = ((w.drew.alloc (.cells ROW 52)).setCells w.heap.size 0 vs).cell? x := fun x => rfl
  have hF2 : ∀ x, (((w.alloc (.cells ROW 52)).drew.setCells w.heap.size 0 vs).drew).frozen? x = ((w.drew.alloc (.cells ROW 52)).setCells w.heap.size 0 vs).frozen? x := fun x => rfl
  have hz2 : ¬ ((0 : Int) = (n : Int)) := by omega
  have hz3 : (c : Int) < (n : Int) + 1 := by omega
  have hb2 : ¬ G = 1 := by omega
  have hb4 : ¬ G = 0 := by omega
  have hb5 : ¬ c = 0 := by omega
  have hw1 : IntKind.i64.wrap 1 = 1 := by rw [IntKind.wrap_i64] <;> omega
  have hw0 : (0 : Int) ≤ (n : Int) + 1 := by omega
  have hw2 : (0 : Int) ≤ (n : Int) := by omega
  have hb1 : (1 : Int) ≤ (n : Int) + 1 := by omega
  have ht1 : (1 : Int).toNat = 1 := rfl
  have mixed : Tryz.prog.follows .mixedOrders = true := by kernel_rfl
  go_enter Tryz.func24, Tryz.ntmps24
  go_wp2_with (first
    | (at_builtin; refine Lib.wpList_append_run _ rfl _ _ _ _ rfl _ _ rfl rfl _ _ (hrz _) ?_)
    | (at_builtin; refine wpList_copy_runI _ rfl _ _ 30 30 rfl _ _ rfl rfl (hcpA _ hE1 hE2 _ _) ?_))
  go_region_law_o (refine step_copy_runI rfl _ _ 30 30 rfl (.slice (some ⟨w.heap.size, 2, none⟩) n (G - 1)) (.slice (some ⟨b, 0, none⟩) n c) (by simp [Act.eval, Act.put]) (by simp [Act.eval, Act.put]) (hcpB _ hF1 hF2 3 (G - 1) c) ?_)
  go_wp2
  go_ret
  exact ⟨ROW, G, hRl, hGn, hG63, rfl, rfl⟩
end Go.Proofs.YthenefjoidckkaaGreatDoor

/- A row of cells written over in its middle. -/
namespace Go.Proofs.YthenefjoidckkaaGreatDoor
open Go.RowKit
set_option linter.unusedVariables false

theorem row_cells {R : Nat} {T : TypeId} : ∀ (vs A P Q : List Value) (W : World), W.heap[R]? = some (.cells (A ++ (P ++ Q)).toArray T (0, 0)) → P.length = vs.length → (W.setCells R A.length vs).heap[R]? = some (.cells (A ++ (vs ++ Q)).toArray T (0, 0))
  | [], A, P, Q, W, h, hl => by
    obtain rfl := List.eq_nil_of_length_eq_zero hl
    exact h
  | v :: vs, A, [], Q, W, h, hl => by simp at hl
  | v :: vs, A, p :: P, Q, W, h, hl => by
    have h1 := heap_setCell_same W R A.length _ _ v h
    have e1 : (A ++ (p :: P ++ Q)).toArray.setIfInBounds A.length v = ((A ++ [v]) ++ (P ++ Q)).toArray := by
      apply Array.ext'
      simp
    rw [e1] at h1
    have h2 := row_cells vs (A ++ [v]) P Q _ h1 (by simpa using hl)
    rw [List.length_append, List.length_cons, List.length_nil, List.append_assoc] at h2
    exact h2
/-- Two elements' cells put ahead of a row that has room. -/
theorem row_ahead {R : Nat} {T : TypeId} {W : World} (a b : Value) (cs : List Value) (Z : List Value) (h : W.heap[R]? = some (.cells Z.toArray T (0, 0))) (hZ : cs.length + 2 ≤ Z.length) :
    ∃ Q : List Value, Q.length = Z.length - (cs.length + 2) ∧ ((W.setCells R 2 cs).setCells R 0 [a, b]).heap[R]? = some (.cells ([a, b] ++ (cs ++ Q)).toArray T (0, 0)) := by
  match Z, hZ with
  | x :: y :: Z, hZ =>
    simp only [List.length_cons] at hZ
    have e : x :: y :: Z = [x, y] ++ (Z.take cs.length ++ Z.drop cs.length) := by rw [List.take_append_drop]; rfl
    rw [e] at h
    have h1 := row_cells cs [x, y] (Z.take cs.length) (Z.drop cs.length) W h (by rw [List.length_take]; omega)
    have h2 := row_cells [a, b] [] [x, y] (cs ++ Z.drop cs.length) _ h1 rfl
    exact ⟨Z.drop cs.length, by simp, h2⟩
/-- The same, the two ahead first. -/
theorem row_ahead2 {R : Nat} {T : TypeId} {W : World} (a b : Value) (cs : List Value) (Z : List Value) (h : W.heap[R]? = some (.cells Z.toArray T (0, 0))) (hZ : cs.length + 2 ≤ Z.length) :
    ∃ Q : List Value, Q.length = Z.length - (cs.length + 2) ∧ ((W.setCells R 0 [a, b]).drew.setCells R 2 cs).heap[R]? = some (.cells ([a, b] ++ (cs ++ Q)).toArray T (0, 0)) := by
  match Z, hZ with
  | x :: y :: Z, hZ =>
    simp only [List.length_cons] at hZ
    have h1 : (W.setCells R 0 [a, b]).heap[R]? = some (.cells ([a, b] ++ Z).toArray T (0, 0)) := row_cells [a, b] [] [x, y] Z W h rfl
    have e : [a, b] ++ Z = [a, b] ++ (Z.take cs.length ++ Z.drop cs.length) := by rw [List.take_append_drop]
    rw [e] at h1
    exact ⟨Z.drop cs.length, by simp, row_cells cs [a, b] (Z.take cs.length) (Z.drop cs.length) _ h1 (by rw [List.length_take]; omega)⟩
end Go.Proofs.YthenefjoidckkaaGreatDoor

/- slices.Insert of one type ahead of a row of types of one's own. -/
namespace Go.Proofs.YthenefjoidckkaaGreatDoor
open Go.RowKit
set_option linter.unusedVariables false
set_option maxRecDepth 100000

theorem shape_blk {w : World} {b : Nat} {X : Array Value} {T : TypeId} (h : w.heap[b]? = some (.cells X T (0, 0))) : w.shape? b = some (T, X.size) := by
  unfold World.shape?
  rw [h]
/-- What the row is, when two cells stand ahead of its old ones. -/
theorem orw_ahead {w W : World} {B g cap n : Nat} {A : List Ty} {t : Ty} {Q : List Value} (hB : B ≤ g) (hn : A.length = n) (hc : n + 1 ≤ cap) (hm : cap ≤ 9223372036854775807) (hQ : Q.length = cap * 2 - ((A.flatMap tyc).length + 2)) (hh : W.heap[g]? = some (.cells ([Value.int .i64 t.kind, Value.string ⟨t.name.toArray⟩] ++ (A.flatMap tyc ++ Q)).toArray 52 (0, 0))) : Orw tyc 52 2 W B (.slice (some ⟨g, 0, none⟩) (n + 1) cap) (t :: A) := by
  have hfl : (A.flatMap tyc).length = n * 2 := by rw [flatR_len (sz := 2) (fun _ => rfl), hn]
  have hfl2 : ((t :: A).flatMap tyc).length = (n + 1) * 2 := by rw [flatR_len (sz := 2) (fun _ => rfl), List.length_cons, hn]
  have e : [Value.int .i64 t.kind, .string ⟨t.name.toArray⟩] ++ (A.flatMap tyc ++ Q) = (t :: A).flatMap tyc ++ Q := by
    rw [List.flatMap_cons, List.append_assoc]
    rfl
  rw [e] at hh
  refine ⟨by rw [List.length_cons, hn]; exact hfl2, .inr ⟨g, cap, _, by rw [List.length_cons, hn], hB, hh, by rw [List.length_cons, hn]; exact hc, by unfold maxLen; exact hm, ?_, ?_⟩⟩
  · simp only [List.size_toArray, List.length_append, hfl2, hQ, hfl]
    omega
  · rw [List.length_cons, hn, ← hfl2]
    show List.take ((t :: A).flatMap tyc).length ((t :: A).flatMap tyc ++ Q) = (t :: A).flatMap tyc
    first | exact List.take_left | exact List.take_left _ _ | exact List.take_left' rfl
set_option maxHeartbeats 800000 in
theorem insertT_own (w : World) (B : Nat) (v : Value) (A : List Ty) (t : Ty) (vb : Nat) (hO : Orw tyc 52 2 w B v A) (hv : w.heap[vb]? = some (.cells #[.int .i64 t.kind, .string ⟨t.name.toArray⟩] 52 (0, 0))) (hne : v.ownBlock ≠ some vb) (hB : B ≤ w.heap.size) (hsm : A.length ≤ 1000000000) :
    Calls Tryz.prog 24 #[v, .int .i64 0, .slice (some ⟨vb, 0, none⟩) 1 1] w fun e w' => ∃ v', e = .returned v' ∧ Orw tyc 52 2 w' B v' (t :: A) ∧ Below B w w' := by
  have hvs : ∀ j u, (tyc t)[j]? = some u → w.cell? ⟨vb, j, none⟩ = some u := fun j u hu => bx_cell hv j u (by simpa [tyc] using hu)
  by_cases h0 : A.length = 0
  · have hA0 : A = [] := List.eq_nil_of_length_eq_zero h0
    subst hA0
    obtain ⟨a, c, rfl, _⟩ := hO.form
    have HO := hide hO
    have HL : Hid (Ls 2 tyc w (some ⟨vb, 0, none⟩) 1 [t]) := ⟨rfl, .inr ⟨vb, 0, rfl, lt_of_heap hv, fun k x hx q u hu => by
      cases k with
      | succ k => simp at hx
      | zero =>
        simp at hx
        subst hx
        simp only [Nat.zero_mul, Nat.zero_add]
        exact hvs q u hu⟩⟩
    have HB := hide hB
    clear hO hv hvs hne hB hsm h0
    simp only [List.length_nil]
    go_enter Tryz.func24, Tryz.ntmps24
    go_wp2_with (at_builtin; refine listR_append rkT rfl _ _ rfl B _ [] rfl (unhide HO) _ 1 1 [t] rfl (unhide HL) (fun e => by cases e) (by simp) (by simp) (unhide HB) ?_)
    intro v' w1 o1 g1
    have f1 := hide ((Below.refl B w).grown g1 (unhide HB) (fun q hq => ((unhide HO).lt q hq).1))
    have HO1 := hide o1
    obtain ⟨a1, c1, rfl, _⟩ := o1.form
    clear o1 g1 HO HL
    go_wp2
    go_ret
    exact ⟨_, rfl, unhide HO1, unhide f1⟩
  · have hA0 : 0 < A.length := by omega
    rcases hO.2 with ⟨_, hn⟩ | ⟨g, cap, cur, rfl, hBg, hh, hc1, hc2, hsz, htk⟩
    · exact absurd hn h0
    have hfl : (A.flatMap tyc).length = A.length * 2 := flatR_len (sz := 2) (fun _ => rfl) A
    have hgv : vb ≠ g := fun e => hne (by rw [e]; rfl)
    have hc63 : cap ≤ 9223372036854775807 := by unfold maxLen at hc2; exact hc2
    have hcs : ∀ j u, (A.flatMap tyc)[j]? = some u → w.cell? ⟨g, j, none⟩ = some u := fun j u hu => by
      have hj := (List.getElem?_eq_some_iff.1 hu).1
      refine bx_cell hh j u ?_
      rw [← htk, List.getElem?_take] at hu
      split at hu
      · simpa using hu
      · cases hu
    have hone : ∀ u ∈ A.flatMap tyc, u.oneCell' = true := fun u hu => by
      obtain ⟨y, _, hy⟩ := List.mem_flatMap.1 hu
      exact rkT.one y u hy
    have hcl : cur.toList.length = cap * 2 := by simpa using hsz
    have hcur : w.heap[g]? = some (.cells cur.toList.toArray 52 (0, 0)) := by simpa using hh
    by_cases hroom : A.length + 1 ≤ cap
    · refine (slInsertT_shift w g A.length cap vb (A.flatMap tyc) (tyc t) hA0 hroom hc63 hgv hfl rfl hcs (fun j hj => ?_) (fun j => bx_thaw hh j) hvs hone (rkT.one t) 52 52 2 cur.size (shape_blk hv) (shape_blk hh) (by omega) (fun j => bx_thaw hv j)).mono ?_
      · rw [cell_of_row _ _ _ _ _ _ hh, Array.getElem?_eq_getElem (by omega)]
        rfl
      · rintro e w' ⟨rfl, rfl⟩
        obtain ⟨Q, hQ, hW⟩ := row_ahead (W := w.drew) (.int .i64 t.kind) (.string ⟨t.name.toArray⟩) (A.flatMap tyc) cur.toList hcur (by rw [hcl, hfl]; omega)
        refine ⟨_, rfl, orw_ahead (w := w) hBg rfl hroom hc63 (by rw [hQ, hcl]) hW, ?_⟩
        exact below_cells _ _ (below_cells _ _ (Below.refl B w).drew hBg) hBg
    · refine (slInsertT_grow w g A.length cap vb (A.flatMap tyc) (tyc t) hA0 hc1 (by omega) (by omega) hgv hfl rfl hcs hvs hone (rkT.one t)).mono ?_
      rintro e w' ⟨ROW, G, hR, hG1, hG2, rfl, rfl⟩
      have hrow : ((w.alloc (.cells ROW 52)).drew).heap[w.heap.size]? = some (.cells ROW.toList.toArray 52 (0, 0)) := by
        rw [show ROW.toList.toArray = ROW by simp]
        exact heap_alloc_last w (.cells ROW 52)
      have hrl : ROW.toList.length = G * 2 := by simpa using hR
      obtain ⟨Q, hQ, hW⟩ := row_ahead2 (W := (w.alloc (.cells ROW 52)).drew) (.int .i64 t.kind) (.string ⟨t.name.toArray⟩) (A.flatMap tyc) ROW.toList hrow (by rw [hrl, hfl]; omega)
      refine ⟨_, rfl, orw_ahead (w := w) hB rfl hG1 hG2 (by rw [hQ, hrl]) hW, ?_⟩
      have b0 : Below B w ((w.alloc (.cells ROW 52)).drew) := ((Below.refl B w).alloc hB _).drew
      exact below_cells _ _ (below_cells (tyc t) 0 b0 hB).drew hB
end Go.Proofs.YthenefjoidckkaaGreatDoor

/- The document's Method. -/
namespace Go.Proofs.YthenefjoidckkaaGreatDoor
open Go.RowKit
set_option linter.unusedVariables false
set_option maxRecDepth 100000

theorem size_41 (b : List UInt8) : sizeN (41 :: b) = 0 := by
  rw [sizeN_is]
  rfl
theorem ansP_no {r : List UInt8} (h : r[0]? ≠ some 41) : ansP r = (ty0, 100) := if_neg h
theorem Args.stop {r : List UInt8} {l : List Ty} {rest : List UInt8} (h : Args r l rest) (hz : sizeN r = 0) : l = [] ∧ rest = r := h.at_done hz
theorem drop_at {s : List UInt8} {k : Nat} {c : UInt8} (h : s[k]? = some c) : s.drop k = c :: s.drop (k + 1) := by
  have hk := (List.getElem?_eq_some_iff.1 h).1
  rw [List.drop_eq_getElem_cons hk, (List.getElem?_eq_some_iff.1 h).2]
theorem metP_no {L : List Ty} {r : List UInt8} (h : r[0]? ≠ some 41) : metP L r = ([], ty0, 100) := by
  unfold metP
  rw [ansP_no h]
  simp
set_option maxHeartbeats 800000 in
theorem x10Method_no (w : World) (S : ByteArray) (s : List UInt8) (hS : Str S s) (h : s[0]? ≠ some 40) : Calls Tryz.prog 27 #[.string S] w fun e w' => e = .returned (.tuple #[.slice none 0 0, .agg #[.int .i64 0, .string ⟨#[]⟩], .int .i64 100]) ∧ Below w.heap.size w w' := by
  cases s with
  | nil =>
    obtain rfl : S = ⟨#[]⟩ := hS.eq
    clear hS
    go_enter Tryz.func27, Tryz.ntmps27
    go_wp2
    exact bodyPost_ret (ty_ret3 Tryz.results27 _ w.heap.size _ _ (heap_alloc_last _ _) _ rfl) rfl ⟨rfl, bA (Below.refl _ _) _⟩
  | cons c t =>
    obtain ⟨n1, n2, n3, n4⟩ := hS.txt
    obtain ⟨hk, q0⟩ := hS.at 0 c rfl
    have hc : c ≠ 40 := by simpa using h
    have c1 : ¬ (c.toNat : Int) = 40 := un73 (n := 40) hc (by decide)
    have c2 : ((c.toNat : Int) == 40) = false := by simpa using c1
    have c3 : ((c.toNat : Int) != 40) = true := by simpa using c1
    clear hS h hc
    go_enter Tryz.func27, Tryz.ntmps27
    go_wp2
    exact bodyPost_ret (ty_ret3 Tryz.results27 _ w.heap.size _ _ (heap_alloc_last _ _) _ rfl) rfl ⟨rfl, bA (Below.refl _ _) _⟩
set_option maxHeartbeats 3200000 in
theorem x10Method_yes (w : World) (S : ByteArray) (t : List UInt8) (hS : Str S (40 :: t)) (hs : (40 :: t).length ≤ 1000000) (L : List Ty) (rest : List UInt8) (hA : Args t L rest) : Calls Tryz.prog 27 #[.string S] w fun e w' => ∃ v, e = .returned (.tuple #[v, tyV (metP L rest).2.1, .int .i64 (metP L rest).2.2]) ∧ Orw tyc 52 2 w' w.heap.size v (metP L rest).1 ∧ Below w.heap.size w w' := by
  obtain ⟨n1, n2, n3, n4⟩ := hS.txt
  obtain ⟨hk, q0⟩ := hS.at 0 40 rfl
  have hz := hS.size
  have hlen := hA.len
  obtain ⟨w0, hw0⟩ : ∃ w0, w0 = (w.alloc (.cells #[.int .i64 0, .string ⟨#[]⟩] 52)).alloc (.cells #[] 52) := ⟨_, rfl⟩
  have HB : Hid (Bx2c w0 w.heap.size (.int .i64 0) (.string ⟨#[]⟩)) := by rw [hw0]; exact (Bx2c.made _ _ _).keep (bA (Below.refl _ _) _)
  have F0 : Hid (Below w.heap.size w w0) := by rw [hw0]; exact bA (bA (Below.refl _ _) _) _
  have O0 : Hid (Orw tyc 52 2 w0 (w.heap.size + 1) (.slice (some ⟨w.heap.size + 1, 0, none⟩) 0 0) ([] : List Ty)) := by
    rw [hw0]
    have := Orw.made tyc 52 2 (w.alloc (.cells #[.int .i64 0, .string ⟨#[]⟩] 52)) (w.heap.size + 1) (by simp)
    rw [show (w.alloc (.cells #[.int .i64 0, .string ⟨#[]⟩] 52)).heap.size = w.heap.size + 1 by simp] at this
    exact this
  have HW0 := hide hw0
  clear hw0
  have HS := hide hS
  have HA := hide hA
  clear hS hA
  obtain ⟨n, hn⟩ : ∃ n, n = (40 :: t).length := ⟨_, rfl⟩
  have HNN := hide hn
  rw [← hn] at hz hs
  have hn1 : 1 ≤ n := by rw [hn]; simp
  clear hn
  obtain ⟨MV, hMV⟩ : ∃ MV, MV = metP L rest := ⟨_, rfl⟩
  rw [← hMV]
  have HMV := hide hMV
  clear hMV
  go_enter Tryz.func27, Tryz.ntmps27
  go_wp2
  rw [← unhide HW0]
  go_loopw [5, 6] (fun lv iv wr => ∃ (acc l' : List Ty) (k : Nat), 1 ≤ k ∧ k ≤ n ∧ iv = .int .i64 k ∧ Hid (acc ++ l' = L) ∧ Hid (Args ((40 :: t).drop k) l' rest) ∧ Hid (Orw tyc 52 2 wr (w.heap.size + 1) lv acc) ∧ Hid (Bx2c wr w.heap.size (.int .i64 0) (.string ⟨#[]⟩)) ∧ Hid (Below w.heap.size w wr)) (fun lv iv wr => n - (intOf iv).toNat)
  case atStart => exact ⟨[], L, 1, by omega, by omega, rfl, rfl, HA, O0, HB, F0⟩
  case round =>
    obtain ⟨acc, l', k, hk1, hkn, rfl, HAC, HAR, HO, HBR, HF⟩ := hrel
    have hal : acc.length ≤ L.length := by have := congrArg List.length (unhide HAC); simp at this; omega
    by_cases hlt : k < n
    case neg =>
      obtain rfl : k = n := by omega
      have hr : (40 :: t).drop k = [] := List.drop_of_length_le (by have := unhide HNN; omega)
      have hre := ((unhide HAR).at_done (by rw [hr]; rfl)).2
      rw [hr] at hre
      have hm : MV = ([], ty0, 100) := (unhide HMV).trans (by rw [hre]; exact metP_no (by simp))
      have HM := hide hm
      obtain ⟨k0, k1, k2⟩ := (unhide HBR).cells
      clear hr hre hm
      go_wp2
      refine bodyPost_ret (ty_ret3 Tryz.results27 _ w.heap.size _ _ (ty_set _ _ (unhide HBR).row) _ rfl) rfl ?_
      rw [unhide HM]
      exact ⟨_, rfl, Orw.nil _ _ _ _ _, ty_bel _ _ (unhide HF) (Nat.le_refl _)⟩
    have hlt1 : (k : Int) < (n : Int) := by omega
    obtain ⟨c, hc⟩ : ∃ c, (40 :: t)[k]? = some c := ⟨_, List.getElem?_eq_getElem (by have := unhide HNN; omega)⟩
    obtain ⟨hk2, q1⟩ := (unhide HS).at k c hc
    have hdr := drop_at hc
    by_cases c41 : c = 41
    · subst c41
      have hre := (unhide HAR).at_done (by rw [hdr]; exact size_41 _)
      rw [hdr] at hre
      obtain ⟨K1, hK1⟩ : ∃ K1, K1 = k + 1 := ⟨_, rfl⟩
      have hK1' : (k : Int) + 1 = K1 := by omega
      have hK2 : K1 ≤ n := by omega
      have hK3 : (K1 : Int) ≤ n := by omega
      have hki : ¬ (k : Int) = (n : Int) := by omega
      have hki' : ((k : Int) == (n : Int)) = false := by simp; omega
      have HBS : Hid (Str (S.extract K1 n) ((40 :: t).drop (k + 1))) := by
        have := (unhide HS).sub (k + 1) n
        rw [show ((40 :: t).drop (k + 1)).take (n - (k + 1)) = (40 :: t).drop (k + 1) from List.take_of_length_le (by have := unhide HNN; simp at this ⊢; omega)] at this
        rw [hK1]
        exact this
      have hbl : ((40 :: t).drop (k + 1)).length ≤ 1000000 := by simp at hlen ⊢; have := unhide HNN; simp at this; omega
      have hLac : acc = L := by have := unhide HAC; rw [hre.1, List.append_nil] at this; exact this
      have hrest : rest = 41 :: (40 :: t).drop (k + 1) := hre.2
      clear hre HAR HAC hK1 hc hdr
      generalize (40 :: t).drop (k + 1) = b at *
      subst hLac
      obtain ⟨B, hB⟩ : ∃ B, S.extract K1 n = B := ⟨_, rfl⟩
      rw [hB] at HBS
      have hans : ansP rest = if b = [86] then (ty0, 0) else parP b := by rw [hrest]; exact if_pos rfl
      have HMV2 : Hid (MV = if (ansP rest).2 = 0 then (if 32 < wideN acc then ([], ty0, 3) else (acc, (ansP rest).1, 0)) else ([], ty0, 100)) := unhide HMV
      rw [hans] at HMV2
      clear hans hrest HMV HA
      have HWI : Hid (∀ W va vc, u5 = .slice va acc.length vc → Orw tyc 52 2 W (w.heap.size + 1) u5 acc → Calls Tryz.prog 16 #[u5] W fun e w' => e = .returned (.int .i64 (wideN acc)) ∧ Below W.heap.size W w') := fun W va vc e h => by
        rw [e] at h ⊢
        exact x10Wide_any W va acc.length vc acc (h.ls rkT) (by have hNN := unhide HNN; rw [List.length_cons] at hNN; omega)
      obtain ⟨va, vc, hv, _, _, _⟩ := (unhide HO).form
      have HV := hide hv
      clear hv
      by_cases hbV : b = [86]
      · have hBe : B = ⟨#[86]⟩ := by rw [(unhide HBS).eq, hbV]
        rw [if_pos hbV] at HMV2
        subst hBe
        clear hbV HBS
        have HB1 : Hid (Bx2c (wr.alloc (.cells #[.int .i64 0, .string ⟨#[]⟩] 52)) w.heap.size _ _) := (unhide HBR).keep (bA (Below.refl _ _) _)
        have F1 : Hid (Below w.heap.size w (wr.alloc (.cells #[.int .i64 0, .string ⟨#[]⟩] 52))) := bA (unhide HF) _
        have HY1 : Hid (Bx2c (wr.alloc (.cells #[.int .i64 0, .string ⟨#[]⟩] 52)) wr.heap.size _ _) := Bx2c.made _ _ _
        have HO1 : Hid (Orw tyc 52 2 (wr.alloc (.cells #[.int .i64 0, .string ⟨#[]⟩] 52)) (w.heap.size + 1) u5 acc) := (unhide HO).below (fun j hj => ((Below.refl _ _).alloc (Nat.le_refl _) _).block j ((unhide HO).lt j hj).2)
        have HQ : Hid (wr.heap.size ≠ w.heap.size) := fun e => by have := lt_of_heap (unhide HBR).row; omega
        go_wp2_with fail
        refine (unhide HWI _ va vc (unhide HV) (unhide HO1)).mono ?_
        rintro e w4 ⟨rfl, f4⟩
        have HB4 := hide ((unhide HB1).keep f4)
        have F4 := hide ((unhide F1).trans (f4.mono (unhide F1).size))
        have HY4 := hide ((unhide HY1).keep f4)
        have HO4 : Hid (Orw tyc 52 2 w4 (w.heap.size + 1) u5 acc) := (unhide HO1).below (fun j hj => f4.block j ((unhide HO1).lt j hj).2)
        clear f4
        by_cases h32 : 32 < wideN acc
        · have h32' : (32 : Int) < (wideN acc : Int) := by omega
          have hm : MV = ([], ty0, 3) := (unhide HMV2).trans (by simp [h32])
          have HM := hide hm
          obtain ⟨g0, g1, g2⟩ := (unhide HB4).cells
          clear hm
          go_wp2
          refine bodyPost_ret (ty_ret3 Tryz.results27 _ w.heap.size _ _ (ty_set _ _ (unhide HB4).row) _ rfl) rfl ?_
          rw [unhide HM]
          exact ⟨_, rfl, Orw.nil _ _ _ _ _, ty_bel _ _ (unhide F4) (Nat.le_refl _)⟩
        · have h32' : ¬ (32 : Int) < (wideN acc : Int) := by omega
          have h32'' : (wideN acc : Int) ≤ 32 := by omega
          have hm : MV = (acc, ty0, 0) := (unhide HMV2).trans (by simp [h32])
          have HM := hide hm
          clear hm
          have HBd : Hid (Bx2c w4.drew w.heap.size _ _) := (unhide HB4).keep (Below.refl _ _).drew
          have Fd : Hid (Below w.heap.size w w4.drew) := (unhide F4).drew
          have HOd : Hid (Orw tyc 52 2 w4.drew (w.heap.size + 1) u5 acc) := (unhide HO4).below (fun _ _ => rfl)
          obtain ⟨SS, hSS⟩ : ∃ SS : World → Prop, SS = fun W => Bx2c W wr.heap.size (.int .i64 0) (.string ⟨#[]⟩) := ⟨_, rfl⟩
          have KS : Hid (∀ W, SS W ↔ Bx2c W wr.heap.size (.int .i64 0) (.string ⟨#[]⟩)) := fun W => by rw [hSS]
          clear hSS
          go_wp2
          refine wp_region_txt SS [3] [0, 1, 2, 3, 4] (by kernel_rfl) (by kernel_rfl) ((unhide KS _).2 ((unhide HY4).keep (Below.refl _ _).drew)) ?_
          repeat (first
            | (refine Txt.reads (v := ?_) (by rfl) (by rfl) (by rfl) ?_ ?_; rotate_left; (focus ((intro W hSW; obtain ⟨p0, p1, p2⟩ := ((unhide KS W).1 hSW).cells; go_simp) <;> with_reducible rfl)); simp only [Act.put, List.setIfInBounds_toArray, List.set_cons_zero, List.set_cons_succ]))
          refine Txt.acts (by rfl) (by rfl) (by rfl) (fun K hK => ?_)
          obtain ⟨d0, d1, d2⟩ := (unhide HBd).cells
          obtain ⟨g0, g1, g2⟩ := (unhide HB4).cells
          go_simp
          refine hK.out _ _ ((unhide KS _).2 ⟨?_⟩) ?_
          · have hr := ((unhide HY4).keep (Below.refl _ _).drew).row
            exact (Below.heap_setCell _ _ _ _ (unhide HQ)).trans ((Below.heap_setCell _ _ _ _ (unhide HQ)).trans hr)
          clear hK K
          repeat (first
            | (refine Txt.reads (v := ?_) (by rfl) (by rfl) (by rfl) ?_ ?_; rotate_left; (focus ((intro W hSW; obtain ⟨p0, p1, p2⟩ := ((unhide KS W).1 hSW).cells; go_simp) <;> with_reducible rfl)); simp only [Act.put, List.setIfInBounds_toArray, List.set_cons_zero, List.set_cons_succ]))
          refine Txt.done ?_
          go_wp2
          refine bodyPost_ret (ty_ret3 Tryz.results27 _ w.heap.size _ _ (ty_set _ _ (unhide HBd).row) _ rfl) rfl ?_
          rw [unhide HM]
          refine ⟨u5, rfl, ?_, ty_bel _ _ (unhide Fd) (Nat.le_refl _)⟩
          refine ((unhide HOd).below (fun j hj => ?_)).base (by omega)
          have hne : ¬ j = w.heap.size := fun e => by have := ((unhide HOd).lt j hj).1; omega
          exact (Below.heap_setCell _ _ _ _ hne).trans (Below.heap_setCell _ _ _ _ hne)
      · rw [if_neg hbV] at HMV2
        have i1 : ¬ B.toList = [86] := by rw [(unhide HBS).list]; exact hbV
        have i2 : (B.toList == [86]) = false := by simpa using i1
        have i3 : (B.toList != [86]) = true := by simpa using i1
        have HP : Hid (∀ W, Calls Tryz.prog 45 #[.string B] W fun e w' => e = .returned (.tuple #[tyV (parP b).1, .int .i64 (parP b).2]) ∧ Below W.heap.size W w') := fun W => x10Parse_any W B b (unhide HBS) (by omega)
        have hpe := parP_err b
        generalize parP b = pp at *
        obtain ⟨⟨pk, pn⟩, pe⟩ := pp
        unfold tyV at HP
        simp only at HP hpe HMV2
        obtain ⟨T, hT⟩ : ∃ T : ByteArray, ⟨pn.toArray⟩ = T := ⟨_, rfl⟩
        rw [hT] at HP
        have HT := hide hT
        clear hT hbV HBS
        have HB1 : Hid (Bx2c (wr.alloc (.cells #[.int .i64 0, .string ⟨#[]⟩] 52)) w.heap.size _ _) := (unhide HBR).keep (bA (Below.refl _ _) _)
        have F1 : Hid (Below w.heap.size w (wr.alloc (.cells #[.int .i64 0, .string ⟨#[]⟩] 52))) := bA (unhide HF) _
        have HY1 : Hid (Bx2c (wr.alloc (.cells #[.int .i64 0, .string ⟨#[]⟩] 52)) wr.heap.size _ _) := Bx2c.made _ _ _
        have HO1 : Hid (Orw tyc 52 2 (wr.alloc (.cells #[.int .i64 0, .string ⟨#[]⟩] 52)) (w.heap.size + 1) u5 acc) := (unhide HO).below (fun j hj => ((Below.refl _ _).alloc (Nat.le_refl _) _).block j ((unhide HO).lt j hj).2)
        have HQ : Hid (wr.heap.size ≠ w.heap.size) := fun e => by have := lt_of_heap (unhide HBR).row; omega
        go_wp2_with fail
        refine (unhide HP _).mono ?_
        rintro e w2 ⟨rfl, f2⟩
        have HB2 : Hid (Bx2c (w2.alloc (.cells #[.int .i64 pk, .string T] 52)) w.heap.size _ _) := ((unhide HB1).keep f2).keep (bA (Below.refl _ _) _)
        have F2a := (unhide F1).trans (f2.mono (unhide F1).size)
        have F2 : Hid (Below w.heap.size w (w2.alloc (.cells #[.int .i64 pk, .string T] 52))) := bA F2a _
        have HY2 : Hid (Bx2c (w2.alloc (.cells #[.int .i64 pk, .string T] 52)) wr.heap.size _ _) := ((unhide HY1).keep f2).keep (bA (Below.refl _ _) _)
        have HX2 : Hid (Bx2c (w2.alloc (.cells #[.int .i64 pk, .string T] 52)) w2.heap.size _ _) := Bx2c.made _ _ _
        have O2 : Orw tyc 52 2 w2 (w.heap.size + 1) u5 acc := (unhide HO1).below (fun j hj => f2.block j ((unhide HO1).lt j hj).2)
        have HO2 : Hid (Orw tyc 52 2 (w2.alloc (.cells #[.int .i64 pk, .string T] 52)) (w.heap.size + 1) u5 acc) := O2.below (fun j hj => ((Below.refl _ _).alloc (Nat.le_refl _) _).block j (O2.lt j hj).2)
        clear f2 F2a O2 HP
        rcases hpe with rfl | rfl
        · obtain ⟨y0, y1, y2⟩ := (unhide HY2).cells
          obtain ⟨x0, x1, x2⟩ := (unhide HX2).cells
          have HOn : Hid (∀ j, u5.ownBlock = some j → j ≠ wr.heap.size) := fun j hj e => by
            have h1 := ((unhide HO).lt j hj).2
            omega
          have HB3 : Hid (Bx2c (((w2.alloc (.cells #[.int .i64 pk, .string T] 52)).setCell ⟨wr.heap.size, 0, none⟩ (.int .i64 pk)).setCell ⟨wr.heap.size, 1, none⟩ (.string T)) w.heap.size _ _) := ⟨(Below.heap_setCell _ _ _ _ (fun e => unhide HQ e.symm)).trans ((Below.heap_setCell _ _ _ _ (fun e => unhide HQ e.symm)).trans (unhide HB2).row)⟩
          have F3 : Hid (Below w.heap.size w (((w2.alloc (.cells #[.int .i64 pk, .string T] 52)).setCell ⟨wr.heap.size, 0, none⟩ (.int .i64 pk)).setCell ⟨wr.heap.size, 1, none⟩ (.string T))) := ty_bel _ _ (unhide F2) (unhide HF).size
          have HY3 : Hid (Bx2c (((w2.alloc (.cells #[.int .i64 pk, .string T] 52)).setCell ⟨wr.heap.size, 0, none⟩ (.int .i64 pk)).setCell ⟨wr.heap.size, 1, none⟩ (.string T)) wr.heap.size (.int .i64 pk) (.string T)) := ⟨ty_set _ _ (unhide HY2).row⟩
          have HO3 : Hid (Orw tyc 52 2 (((w2.alloc (.cells #[.int .i64 pk, .string T] 52)).setCell ⟨wr.heap.size, 0, none⟩ (.int .i64 pk)).setCell ⟨wr.heap.size, 1, none⟩ (.string T)) (w.heap.size + 1) u5 acc) := (unhide HO2).below (fun j hj => (Below.heap_setCell _ _ _ _ (unhide HOn j hj)).trans (Below.heap_setCell _ _ _ _ (unhide HOn j hj)))
          go_wp2_with fail
          refine (unhide HWI _ va vc (unhide HV) (unhide HO3)).mono ?_
          rintro e w4 ⟨rfl, f4⟩
          have HB4 := hide ((unhide HB3).keep f4)
          have F4 := hide ((unhide F3).trans (f4.mono (unhide F3).size))
          have HY4 := hide ((unhide HY3).keep f4)
          have HO4 : Hid (Orw tyc 52 2 w4 (w.heap.size + 1) u5 acc) := (unhide HO3).below (fun j hj => f4.block j ((unhide HO3).lt j hj).2)
          clear f4
          by_cases h32 : 32 < wideN acc
          · have h32' : (32 : Int) < (wideN acc : Int) := by omega
            have hm : MV = ([], ty0, 3) := (unhide HMV2).trans (by simp [h32])
            have HM := hide hm
            obtain ⟨g0, g1, g2⟩ := (unhide HB4).cells
            clear hm
            go_wp2
            refine bodyPost_ret (ty_ret3 Tryz.results27 _ w.heap.size _ _ (ty_set _ _ (unhide HB4).row) _ rfl) rfl ?_
            rw [unhide HM]
            exact ⟨_, rfl, Orw.nil _ _ _ _ _, ty_bel _ _ (unhide F4) (Nat.le_refl _)⟩
          · have h32' : ¬ (32 : Int) < (wideN acc : Int) := by omega
            have h32'' : (wideN acc : Int) ≤ 32 := by omega
            have hm : MV = (acc, ⟨pk, pn⟩, 0) := (unhide HMV2).trans (by simp [h32])
            have HM := hide hm
            clear hm
            have HBd : Hid (Bx2c w4.drew w.heap.size _ _) := (unhide HB4).keep (Below.refl _ _).drew
            have Fd : Hid (Below w.heap.size w w4.drew) := (unhide F4).drew
            have HOd : Hid (Orw tyc 52 2 w4.drew (w.heap.size + 1) u5 acc) := (unhide HO4).below (fun _ _ => rfl)
            obtain ⟨SS, hSS⟩ : ∃ SS : World → Prop, SS = fun W => Bx2c W wr.heap.size (.int .i64 pk) (.string T) := ⟨_, rfl⟩
            have KS : Hid (∀ W, SS W ↔ Bx2c W wr.heap.size (.int .i64 pk) (.string T)) := fun W => by rw [hSS]
            clear hSS
            go_wp2
            refine wp_region_txt SS [3] [0, 1, 2, 3, 4] (by kernel_rfl) (by kernel_rfl) ((unhide KS _).2 ((unhide HY4).keep (Below.refl _ _).drew)) ?_
            repeat (first
              | (refine Txt.reads (v := ?_) (by rfl) (by rfl) (by rfl) ?_ ?_; rotate_left; (focus ((intro W hSW; obtain ⟨p0, p1, p2⟩ := ((unhide KS W).1 hSW).cells; go_simp) <;> with_reducible rfl)); simp only [Act.put, List.setIfInBounds_toArray, List.set_cons_zero, List.set_cons_succ]))
            refine Txt.acts (by rfl) (by rfl) (by rfl) (fun K hK => ?_)
            obtain ⟨d0, d1, d2⟩ := (unhide HBd).cells
            obtain ⟨g0, g1, g2⟩ := (unhide HB4).cells
            go_simp
            refine hK.out _ _ ((unhide KS _).2 ⟨?_⟩) ?_
            · have hr := ((unhide HY4).keep (Below.refl _ _).drew).row
              exact (Below.heap_setCell _ _ _ _ (unhide HQ)).trans ((Below.heap_setCell _ _ _ _ (unhide HQ)).trans hr)
            clear hK K
            repeat (first
              | (refine Txt.reads (v := ?_) (by rfl) (by rfl) (by rfl) ?_ ?_; rotate_left; (focus ((intro W hSW; obtain ⟨p0, p1, p2⟩ := ((unhide KS W).1 hSW).cells; go_simp) <;> with_reducible rfl)); simp only [Act.put, List.setIfInBounds_toArray, List.set_cons_zero, List.set_cons_succ]))
            refine Txt.done ?_
            go_wp2
            refine bodyPost_ret (ty_ret3 Tryz.results27 _ w.heap.size _ _ (ty_set _ _ (unhide HBd).row) _ rfl) rfl ?_
            rw [unhide HM]
            refine ⟨u5, by rw [show tyV (acc, (⟨pk, pn⟩ : Ty), (0 : Int)).2.1 = .agg #[.int .i64 pk, .string T] by rw [← unhide HT]; rfl]; rfl, ?_, ty_bel _ _ (unhide Fd) (Nat.le_refl _)⟩
            refine ((unhide HOd).below (fun j hj => ?_)).base (by omega)
            have hne : ¬ j = w.heap.size := fun e => by have := ((unhide HOd).lt j hj).1; omega
            exact (Below.heap_setCell _ _ _ _ hne).trans (Below.heap_setCell _ _ _ _ hne)
        · have hm : MV = ([], ty0, 100) := (unhide HMV2).trans (by simp)
          have HM := hide hm
          obtain ⟨k0, k1, k2⟩ := (unhide HB2).cells
          clear hm
          go_wp2
          refine bodyPost_ret (ty_ret3 Tryz.results27 _ w.heap.size _ _ (ty_set _ _ (unhide HB2).row) _ rfl) rfl ?_
          rw [unhide HM]
          exact ⟨_, rfl, Orw.nil _ _ _ _ _, ty_bel _ _ (unhide F2) (Nat.le_refl _)⟩
    · have d1 : ¬ (c.toNat : Int) = 41 := un73 (n := 41) c41 (by decide)
      have d2 : ((c.toNat : Int) == 41) = false := by simpa using d1
      have d3 : ((c.toNat : Int) != 41) = true := by simpa using d1
      have HRS : Hid (Str (S.extract k n) ((40 :: t).drop k)) := by
        have := (unhide HS).sub k n
        rw [show ((40 :: t).drop k).take (n - k) = (40 :: t).drop k from List.take_of_length_le (by have := unhide HNN; simp at this ⊢; omega)] at this
        exact this
      have hrl : ((40 :: t).drop k).length = n - k := by have := unhide HNN; rw [List.length_drop, ← this]
      have HON : Hid (∀ W, Calls Tryz.prog 44 #[.string (S.extract k n), .int .i64 0] W fun e w' => e = .returned (.tuple #[tyV (oneP ((40 :: t).drop k) 0).1, .int .i64 (oneP ((40 :: t).drop k) 0).2]) ∧ Below W.heap.size W w') := fun W => x10One_any _ W _ 0 (unhide HRS) (by omega) (by omega)
      have hr0 : ((40 :: t).drop k)[0]? ≠ some 41 := by rw [hdr]; simpa using c41
      have hsz := sizeN_is ((40 :: t).drop k)
      have hty := one_type ((40 :: t).drop k) 0
      have hle := one_le ((40 :: t).drop k) 0
      have hdd : ∀ m, ((40 :: t).drop k).drop m = (40 :: t).drop (k + m) := fun m => by rw [List.drop_drop]
      have HRR := hide (unhide HAR).both
      clear hdr hc c41 HRS HAR
      generalize (40 :: t).drop k = r at *
      rcases hop : oneP r 0 with ⟨⟨tk, tn⟩, m⟩
      rw [hop] at HON hsz hty hle
      unfold tyV at HON
      simp only at HON hsz hty hle
      rcases unhide HRR with ⟨hz0, rfl, hre⟩ | ⟨hz1, l2, rfl, hA2⟩
      · have hm0 : m = 0 := by omega
        subst hm0
        have hm : MV = ([], ty0, 100) := (unhide HMV).trans (by rw [hre]; exact metP_no hr0)
        have HM := hide hm
        clear hm hre HRR hty hsz hz0 hop hdd hr0
        go_wp2_with fail
        refine (unhide HON wr).mono ?_
        rintro e w1 ⟨rfl, f1⟩
        have HB1 : Hid (Bx2c (w1.alloc (.cells #[.int .i64 tk, .string ⟨tn.toArray⟩] 52)) w.heap.size _ _) := ((unhide HBR).keep f1).keep (bA (Below.refl _ _) _)
        have F1 : Hid (Below w.heap.size w (w1.alloc (.cells #[.int .i64 tk, .string ⟨tn.toArray⟩] 52))) := bA ((unhide HF).trans (f1.mono (unhide HF).size)) _
        obtain ⟨k0, k1, k2⟩ := (unhide HB1).cells
        clear f1
        go_wp2
        refine bodyPost_ret (ty_ret3 Tryz.results27 _ w.heap.size _ _ (ty_set _ _ (unhide HB1).row) _ rfl) rfl ?_
        rw [unhide HM]
        exact ⟨_, rfl, Orw.nil _ _ _ _ _, ty_bel _ _ (unhide F1) (Nat.le_refl _)⟩
      · have hm1 : 0 < m := by omega
        rw [hsz] at hA2 HAC
        rw [hty hm1] at HAC
        have HA2 := hide hA2
        rw [hdd] at HA2
        have hm2 : ((m : Int) == 0) = false := by simp; omega
        have hm3 : ¬ (m : Int) = 0 := by omega
        obtain ⟨KM, hKM⟩ : ∃ KM, KM = k + m := ⟨_, rfl⟩
        have hKM2 : (k : Int) + m = KM := by omega
        rw [← hKM] at HA2
        have HAC2 : Hid ((acc ++ [⟨tk, tn⟩]) ++ l2 = L) := by rw [List.append_assoc]; exact unhide HAC
        have HKM : Hid (k < KM ∧ KM ≤ n) := by show k < KM ∧ KM ≤ n; omega
        clear hKM hA2 HRR hty hsz hz1 hop hdd hr0 HAC
        go_wp2_with fail
        refine (unhide HON wr).mono ?_
        rintro e w1 ⟨rfl, f1⟩
        have F1 := (unhide HF).trans (f1.mono (unhide HF).size)
        have O1 : Orw tyc 52 2 w1 (w.heap.size + 1) u5 acc := (unhide HO).below (fun j hj => f1.block j ((unhide HO).lt j hj).2)
        have O2 : Orw tyc 52 2 (w1.alloc (.cells #[.int .i64 tk, .string ⟨tn.toArray⟩] 52)) (w.heap.size + 1) u5 acc := O1.below (fun j hj => ((Below.refl _ _).alloc (Nat.le_refl _) _).block j (O1.lt j hj).2)
        have HO3 : Hid (Orw tyc 52 2 ((w1.alloc (.cells #[.int .i64 tk, .string ⟨tn.toArray⟩] 52)).alloc (.cells #[.int .i64 tk, .string ⟨tn.toArray⟩] 52)) (w.heap.size + 1) u5 acc) := O2.below (fun j hj => ((Below.refl _ _).alloc (Nat.le_refl _) _).block j (O2.lt j hj).2)
        have HF3 : Hid (Below w.heap.size w ((w1.alloc (.cells #[.int .i64 tk, .string ⟨tn.toArray⟩] 52)).alloc (.cells #[.int .i64 tk, .string ⟨tn.toArray⟩] 52))) := bA (bA F1 _) _
        have HB3 : Hid (Bx2c ((w1.alloc (.cells #[.int .i64 tk, .string ⟨tn.toArray⟩] 52)).alloc (.cells #[.int .i64 tk, .string ⟨tn.toArray⟩] 52)) w.heap.size _ _) := (((unhide HBR).keep f1).keep (bA (Below.refl _ _) _)).keep (bA (Below.refl _ _) _)
        have hl1 := ls_one (cs := tyc) (sz := 2) (w1.alloc (.cells #[.int .i64 tk, .string ⟨tn.toArray⟩] 52)) #[.int .i64 tk, .string ⟨tn.toArray⟩] 52 ⟨tk, tn⟩ rfl
        rw [show (w1.alloc (.cells #[.int .i64 tk, .string ⟨tn.toArray⟩] 52)).heap.size = w1.heap.size + 1 by simp] at hl1
        have HL1 := hide hl1
        have hlen2 : (acc.length + 1) * 24 ≤ 140737488355328 := by have hNN := unhide HNN; rw [List.length_cons] at hNN; omega
        have hlen3 : acc.length + 1 ≤ 140737488355328 := by omega
        have HL2 := hide hlen2
        have HL3 := hide hlen3
        have HSB : Hid (w.heap.size + 1 ≤ ((w1.alloc (.cells #[.int .i64 tk, .string ⟨tn.toArray⟩] 52)).alloc (.cells #[.int .i64 tk, .string ⟨tn.toArray⟩] 52)).heap.size) := by have := F1.size; show w.heap.size + 1 ≤ _; simp; omega
        have HYb : Hid (Bx2c (w1.alloc (.cells #[.int .i64 tk, .string ⟨tn.toArray⟩] 52)) w1.heap.size _ _) := Bx2c.made _ _ _
        obtain ⟨y0, y1, y2⟩ := (unhide HYb).cells
        clear hlen2 hlen3 O1 O2 F1 f1 hl1 HO HF HBR
        go_wp2_with (first
          | (at_builtin; refine listR_append rkT rfl _ _ rfl (w.heap.size + 1) _ _ rfl (unhide HO3) _ 1 1 [⟨tk, tn⟩] rfl (unhide HL1) (fun e => by cases e) (unhide HL2) (unhide HL3) (unhide HSB) ?_)
          | go_in)
        intro v' w3 o3 g3
        have HO4 := hide o3
        have HF4 : Hid (Below w.heap.size w w3) := (unhide HF3).grown g3 (unhide HF3).size (fun k hk => by have := ((unhide HO3).lt k hk).1; omega)
        have HB4 : Hid (Bx2c w3 w.heap.size (.int .i64 0) (.string ⟨#[]⟩)) := ⟨by
          have hg := (Below.refl (w.heap.size + 1) ((w1.alloc (.cells #[.int .i64 tk, .string ⟨tn.toArray⟩] 52)).alloc (.cells #[.int .i64 tk, .string ⟨tn.toArray⟩] 52))).grown g3 (unhide HSB) (fun k hk => ((unhide HO3).lt k hk).1)
          exact (hg.block w.heap.size (by omega)).trans (unhide HB3).row⟩
        clear o3 g3
        go_wp2
        go_roundw
        case rel => exact ⟨acc ++ [⟨tk, tn⟩], l2, KM, by have := unhide HKM; omega, (unhide HKM).2, rfl, HAC2, HA2, HO4, HB4, HF4⟩
        case measure => have := unhide HKM; simp [intOf]; omega
theorem x10Method_any (w : World) (S : ByteArray) (s : List UInt8) (hS : Str S s) (hs : s.length ≤ 1000000) (L : List Ty) (rest : List UInt8) (hA : ArgsOf s L rest) : Calls Tryz.prog 27 #[.string S] w fun e w' => ∃ v, e = .returned (.tuple #[v, tyV (metP L rest).2.1, .int .i64 (metP L rest).2.2]) ∧ Orw tyc 52 2 w' w.heap.size v (metP L rest).1 ∧ Below w.heap.size w w' := by
  by_cases h1 : s[0]? = some 40
  · obtain ⟨t, rfl⟩ : ∃ t, s = 40 :: t := by
      cases s with
      | nil => simp at h1
      | cons c t => simp at h1; exact ⟨t, by rw [h1]⟩
    exact x10Method_yes w S t hS hs L rest (hA.yes rfl)
  · obtain ⟨rfl, rfl⟩ := hA.no h1
    rw [metP_no (by simp)]
    refine (x10Method_no w S s hS h1).mono ?_
    rintro e w' ⟨rfl, f⟩
    exact ⟨_, rfl, Orw.nil _ _ _ _ _, f⟩
end Go.Proofs.YthenefjoidckkaaGreatDoor

/- Layer 11: the document's Begin. -/
namespace Go.Proofs.YthenefjoidckkaaGreatDoor
open Go.RowKit
set_option linter.unusedVariables false
set_option maxRecDepth 100000

set_option maxHeartbeats 400000 in
theorem q11named_any (W : World) (S : ByteArray) : Calls Tryz.prog 28 #[.string S] W fun e w' => e = .returned (.agg #[.int .i64 4, .string S]) ∧ Below W.heap.size W w' := by
  go_enter Tryz.func28, Tryz.ntmps28
  go_wp2
  exact bodyPost_ret (ty_ret1 Tryz.results28 _ W.heap.size _ _ (heap_alloc_last _ _) _ rfl) rfl ⟨rfl, bA (Below.refl _ _) _⟩
theorem begin_len {A0 ML PP : List Ty} {q : Nat} (t : Ty) (ha : A0.length ≤ 1) (hm : ML.length ≤ 1000000) (hq : q ≤ ML.length) (hP : PP = A0 ++ flatL (ML.take q)) : (PP.length + 1) * 24 ≤ 140737488355328 ∧ PP.length + 1 ≤ 140737488355328 ∧ ((PP ++ [t]).length + 1) * 24 ≤ 140737488355328 ∧ (PP ++ [t]).length + 1 ≤ 140737488355328 := by
  have h1 := flatL_len (ML.take q)
  have h3 : ((ML.take q).countP fun t => decide (t.kind = 2)) ≤ (ML.take q).length := List.countP_le_length
  have h4 : (ML.take q).length ≤ q := List.length_take_le ..
  have h2 : wideN (ML.take q) ≤ 2 * q := by unfold wideN; omega
  have e1 : PP.length = A0.length + (flatL (ML.take q)).length := by rw [hP, List.length_append]
  have e2 : (PP ++ [t]).length = PP.length + 1 := by rw [List.length_append]; rfl
  rw [e2]
  generalize PP.length = p at *
  clear hP e2
  refine ⟨?_, ?_, ?_, ?_⟩ <;> omega
set_option maxHeartbeats 800000 in
theorem q11Begin_any (w : World) (nm : List UInt8) (ac st lo : Int) (mn : ByteArray) (S : ByteArray) (s : List UInt8) (hS : Str S s) (hs : s.length ≤ 1000000) (L : List Ty) (rest : List UInt8) (hA : ArgsOf s L rest) (ba : Option Addr) (bn bc : Nat) (ha : Option Addr) (hn hc : Nat) (ma : Option Addr) (mk mc : Nat) :
    Calls Tryz.prog 9 #[.agg #[.slice none 0 0, .string ⟨nm.toArray⟩, .string ⟨#[]⟩, .slice none 0 0, .slice none 0 0], .agg #[.int .i64 ac, .string mn, .string S, .int .i64 st, .int .i64 lo, .slice ba bn bc, .slice ha hn hc, .slice ma mk mc]] w fun e w' => ∃ l s2 : Sl, e = .returned (.tuple #[.agg #[.slice l.a l.n l.c, .slice s2.a s2.n s2.c], .int .i64 (erV (beginP ac nm (metP L rest).2.2 (metP L rest).1 lo))]) ∧ StV w.heap.size (beginP ac nm (metP L rest).2.2 (metP L rest).1 lo) w' l s2 ∧ Below w.heap.size w w' := by
  obtain ⟨w3, hw3, f3, hz3, hb0, hb1, hb2⟩ := three_blocks w #[.slice none 0 0, .string ⟨nm.toArray⟩, .string ⟨#[]⟩, .slice none 0 0, .slice none 0 0] #[.int .i64 ac, .string mn, .string S, .int .i64 st, .int .i64 lo, .slice ba bn bc, .slice ha hn hc, .slice ma mk mc] #[.slice none 0 0, .slice none 0 0] 38 29 32
  have HM := hide (x10Method_any w3 S s hS hs L rest hA)
  have hlen := hA.len.1
  obtain ⟨hml, hme⟩ := metP_few L rest
  have hml2 : (metP L rest).1.length ≤ 1000000 := by omega
  generalize metP L rest = mp at *
  obtain ⟨ML, ⟨tk, tn⟩, me⟩ := mp
  unfold tyV at HM
  simp only at HM hme hml2 ⊢
  obtain ⟨r, hr⟩ : ∃ r, r = beginP ac nm me ML lo := ⟨_, rfl⟩
  rw [← hr]
  have HR := hide hr
  have HZ := hide hz3
  have KB : Hid (∀ W, Below w3.heap.size w3 W → W.cell? ⟨w.heap.size, 1, none⟩ = some (.string ⟨nm.toArray⟩) ∧ W.cell? ⟨w.heap.size + 1, 0, none⟩ = some (.int .i64 ac) ∧ W.cell? ⟨w.heap.size + 1, 4, none⟩ = some (.int .i64 lo)) := fun W f => by
    have e0 := (f.block _ (lt_of_heap hb0)).trans hb0
    have e1 := (f.block _ (lt_of_heap hb1)).trans hb1
    exact ⟨bx_cell e0 1 _ rfl, bx_cell e1 0 _ rfl, bx_cell e1 4 _ rfl⟩
  have KR : Hid (∀ W, Below w3.heap.size w3 W → W.heap[w.heap.size + 1 + 1]? = some (.cells #[.slice none 0 0, .slice none 0 0] 32 (0, 0))) := fun W f => (f.block _ (lt_of_heap hb2)).trans hb2
  have HW3 := hide hw3
  have F3 := hide f3
  obtain ⟨T, hT⟩ : ∃ T : ByteArray, ⟨tn.toArray⟩ = T := ⟨_, rfl⟩
  rw [hT] at HM
  clear hw3 f3 hz3 hb0 hb1 hb2 hlen hml hr hS hA hT
  go_enter Tryz.func9, Tryz.ntmps9
  go_wp2_with fail
  rw [← unhide HW3]
  refine (unhide HM).mono ?_
  rintro e w4 ⟨v, rfl, ow4, f4⟩
  obtain ⟨va, vc, rfl, hv1, hv2, hv3⟩ := ow4.form
  obtain ⟨w5, hw5⟩ : ∃ w5, w5 = w4.alloc (.cells #[.int .i64 tk, .string T] 52) := ⟨_, rfl⟩
  have f5 : Below w3.heap.size w3 w5 := by rw [hw5]; exact bA f4 _
  have g5 : Below w4.heap.size w4 w5 := by rw [hw5]; exact bA (Below.refl _ _) _
  have hl5 : Ls 2 tyc w5 va ML.length ML := (ow4.below fun j hj => g5.block j (ow4.lt j hj).2).ls rkT
  have HW5 := hide hw5
  have F5 := hide f5
  have HL5 := hide hl5
  clear ow4 f4 g5 hl5 hv1 hv2 hv3 hw5 f5
  go_upto_region 2 with fail
  rw [← unhide HW5]
  clear HW5
  have hbad : me ≠ 0 → r = none := fun h => (unhide HR).trans (beginP_no fun x => h x.1)
  have HE : Hid (∀ W W', Below w3.heap.size w3 W → W' = (W.setCell ⟨w.heap.size + 1 + 1, 0, none⟩ (.slice none 0 0)).setCell ⟨w.heap.size + 1 + 1, 1, none⟩ (.slice none 0 0) → Below w.heap.size w W' ∧ W'.heap[w.heap.size + 1 + 1]? = some (.cells #[.slice none 0 0, .slice none 0 0] 32 (0, 0))) := fun W W' f e => by
    rw [e]
    exact ⟨ty_bel _ _ ((unhide F3).trans (f.mono (unhide F3).size)) (by omega), ty_set _ _ (unhide KR W f)⟩
  by_cases hme0 : me = 0
  case neg =>
    have hrn := hbad hme0
    have m1 : (me == 0) = false := by simpa using hme0
    have m2 : (me != 0) = true := by simpa using hme0
    have hr5 := unhide KR w5 (unhide F5)
    have z0 := bx_cell hr5 0 _ rfl
    have z1 := bx_cell hr5 1 _ rfl
    have zt := fun q => bx_thaw hr5 q
    obtain ⟨hE1, hE2⟩ := unhide HE w5 _ (unhide F5) rfl
    have HE1 := hide hE1
    have HE2 := hide hE2
    have HRN := hide hrn
    clear hr5 hE1 hE2 HE hrn hbad hme
    go_wp2
    refine bodyPost_ret (fr_ret2 Tryz.results9 _ (w.heap.size + 1 + 1) _ _ (unhide HE2) _ rfl) rfl ?_
    rw [unhide HRN]
    exact ⟨⟨none, 0, 0⟩, ⟨none, 0, 0⟩, rfl, ⟨rfl, rfl⟩, unhide HE1⟩
  subst hme0
  clear hbad hme
  have f6 : Below w5.heap.size w5 (w5.alloc (.cells #[] 52)) := bA (Below.refl _ _) _
  have HFW : Hid (∀ W, Below w5.heap.size w5 W → Below w3.heap.size w3 W) := fun W f => (unhide F5).trans (f.mono (unhide F5).size)
  obtain ⟨q1, q2, q3⟩ := unhide KB _ (unhide HFW _ f6)
  have HO6 : Hid (Orw tyc 52 2 (w5.alloc (.cells #[] 52)) w5.heap.size (.slice (some ⟨w5.heap.size, 0, none⟩) 0 0) ([] : List Ty)) := Orw.made tyc 52 2 w5 w5.heap.size (Nat.le_refl _)
  have F6 := hide f6
  clear f6
  obtain ⟨A0, hA0⟩ : ∃ A0, A0 = (if ac = 8 ∨ ac = 40 then [] else [refT nm] : List Ty) := ⟨_, rfl⟩
  have hA0l : A0.length ≤ 1 := by rw [hA0]; split <;> simp
  have HA0 := hide hA0
  clear hA0
  go_upto_region 5 with fail
  obtain ⟨bb, hbb⟩ : ∃ bb : Bool, bb = !decide (ac = 8 ∨ ac = 40) := ⟨_, rfl⟩
  have HBB := hide hbb
  clear hbb
  go_cut [29] from 22 (fun vb wr => vb = .bool bb ∧ wr = w5.alloc (.cells #[] 52))
  case first =>
    clear HO6 F6 HA0
    by_cases h8 : ac = 8 ∨ ac = 40
    · obtain rfl : bb = false := (unhide HBB).trans (by rw [decide_eq_true h8]; rfl)
      clear HBB
      rcases h8 with rfl | rfl
      · go_wp2
        go_meet
        exact ⟨rfl, rfl⟩
      · go_wp2
        go_meet
        exact ⟨rfl, rfl⟩
    · have d1 : ¬ ac = 8 := fun e => h8 (.inl e)
      have d2 : ¬ ac = 40 := fun e => h8 (.inr e)
      have d3 : (ac == 8) = false := by simpa using d1
      have d4 : (ac == 40) = false := by simpa using d2
      have d5 : (ac != 8) = true := by simpa using d1
      have d6 : (ac != 40) = true := by simpa using d2
      obtain rfl : bb = true := (unhide HBB).trans (by rw [decide_eq_false h8]; rfl)
      clear h8 HBB
      go_wp2
      go_meet
      exact ⟨rfl, rfl⟩
  case rest =>
  obtain ⟨rfl, rfl⟩ := hcut
  go_upto_if 29 with fail
  go_cut [9] from 30 (fun vo wr => Orw tyc 52 2 wr w5.heap.size vo A0 ∧ Below w5.heap.size w5 wr)
  case first =>
    by_cases h8 : ac = 8 ∨ ac = 40
    · have ha : A0 = [] := (unhide HA0).trans (if_pos h8)
      have HO7 : Hid (Orw tyc 52 2 (w5.alloc (.cells #[] 52)) w5.heap.size (.slice (some ⟨w5.heap.size, 0, none⟩) 0 0) A0) := by rw [ha]; exact unhide HO6
      obtain rfl : bb = false := (unhide HBB).trans (by rw [decide_eq_true h8]; rfl)
      clear ha HA0 HO6 h8 HBB
      go_wp2
      go_meet
      exact ⟨unhide HO7, unhide F6⟩
    · have ha : A0 = [refT nm] := (unhide HA0).trans (if_neg h8)
      have HA := hide ha
      obtain rfl : bb = true := (unhide HBB).trans (by rw [decide_eq_false h8]; rfl)
      clear h8 ha HA0 HBB
      go_wp2_with fail
      refine (q11named_any _ _).mono ?_
      rintro e w7 ⟨rfl, f7⟩
      have hO7 : Orw tyc 52 2 w7 w5.heap.size (.slice (some ⟨w5.heap.size, 0, none⟩) 0 0) ([] : List Ty) := (unhide HO6).below fun k hk => f7.block k ((unhide HO6).lt k hk).2
      have HO8 : Hid (Orw tyc 52 2 (w7.alloc (.cells #[.int .i64 4, .string ⟨nm.toArray⟩] 52)) w5.heap.size (.slice (some ⟨w5.heap.size, 0, none⟩) 0 0) ([] : List Ty)) := orw_alloc hO7 _
      have F7 := (unhide F6).trans (f7.mono (unhide F6).size)
      have HF8 : Hid (Below w5.heap.size w5 (w7.alloc (.cells #[.int .i64 4, .string ⟨nm.toArray⟩] 52))) := bA F7 _
      have HL1 := hide (ls_one (cs := tyc) (sz := 2) w7 #[.int .i64 4, .string ⟨nm.toArray⟩] 52 (refT nm) rfl)
      clear f7 hO7 F7 HO6 F6
      go_wp2_with (at_builtin; refine listR_append rkT rfl _ _ rfl w5.heap.size _ _ rfl (unhide HO8) _ 1 1 [refT nm] rfl (unhide HL1) (fun e => by cases e) (by simp) (by simp) (unhide HF8).size ?_)
      intro v3 w8 o8 g8
      have HF9 := hide (grown_below (unhide HF8) (unhide HO8) g8)
      have HO9 : Hid (Orw tyc 52 2 w8 w5.heap.size v3 A0) := by rw [unhide HA]; exact o8
      clear o8 g8
      go_wp2
      go_meet
      exact ⟨unhide HO9, unhide HF9⟩
  case rest =>
    obtain ⟨hO1, hF1⟩ := hcut
    have HO3 := hide hO1
    have HF3 := hide hF1
    clear hO1 hF1 q1 q2 q3 HO6 F6
    go_wp2
    go_loopw [9, 10] (fun v k W => ∃ q : Nat, q ≤ ML.length ∧ k = .int .i64 q ∧ Hid (Orw tyc 52 2 W w5.heap.size v (A0 ++ flatL (ML.take q))) ∧ Hid (Below w5.heap.size w5 W)) (fun _ k _ => ML.length - (intOf k).toNat)
    case atStart => exact ⟨0, by omega, rfl, by simpa [flatL] using HO3, HF3⟩
    case round =>
      obtain ⟨q, hq, rfl, HO, HF⟩ := hrel
      by_cases hlt : q < ML.length
      case pos =>
        have hlt1 : (q : Int) < (ML.length : Int) := by omega
        obtain ⟨b1, o1, h1a, h1⟩ := Ls.row (unhide HL5) (w' := w5) (by omega)
        subst h1a
        obtain ⟨t, ht⟩ : ∃ t, ML[q]? = some t := ⟨_, List.getElem?_eq_getElem (by omega)⟩
        have KT : Hid (∀ W, Below w5.heap.size w5 W → W.cell? ⟨b1, o1 + q * 2, none⟩ = some (.int .i64 t.kind) ∧ W.cell? ⟨b1, o1 + q * 2 + 1, none⟩ = some (.string ⟨t.name.toArray⟩)) := fun W f => by
          have q1 := h1 f q t ht
          exact ⟨q1.zero, q1 1 _ rfl⟩
        have htk := flatL_take ht
        obtain ⟨PP, hPP⟩ : ∃ PP, PP = A0 ++ flatL (ML.take q) := ⟨_, rfl⟩
        rw [← hPP] at HO
        have HNX : Hid (A0 ++ flatL (ML.take (q + 1)) = PP ++ flatL [t]) := by rw [htk, hPP, List.append_assoc]; exact rfl
        have HLN := hide (begin_len t hA0l hml2 hq hPP)
        obtain ⟨c0, c1⟩ := unhide KT wr (unhide HF)
        have HO8 : Hid (Orw tyc 52 2 (wr.alloc (.cells #[.int .i64 t.kind, .string ⟨t.name.toArray⟩] 52)) w5.heap.size u9 PP) := orw_alloc (unhide HO) _
        have HF8 : Hid (Below w5.heap.size w5 (wr.alloc (.cells #[.int .i64 t.kind, .string ⟨t.name.toArray⟩] 52))) := bA (unhide HF) _
        have HL1 := hide (ls_one (cs := tyc) (sz := 2) wr #[.int .i64 t.kind, .string ⟨t.name.toArray⟩] 52 t rfl)
        clear ht h1 htk hPP HO HF
        go_wp2_with (at_builtin; refine listR_append rkT rfl _ _ rfl w5.heap.size _ _ rfl (unhide HO8) _ 1 1 [t] rfl (unhide HL1) (fun e => by cases e) (unhide HLN).1 (unhide HLN).2.1 (unhide HF8).size ?_)
        intro v8 w8 o8 g8
        have HF9 := hide (grown_below (unhide HF8) (unhide HO8) g8)
        have HO9 := hide o8
        obtain ⟨c2, c3⟩ := unhide KT w8 (unhide HF9)
        clear o8 g8 c0 c1 HO8 HF8
        by_cases h2 : t.kind = 2
        · have HN2 : Hid (A0 ++ flatL (ML.take (q + 1)) = (PP ++ [t]) ++ [ty0]) := by rw [unhide HNX, flatL_long h2, List.append_assoc]; exact rfl
          rw [h2] at c2
          have HO10 : Hid (Orw tyc 52 2 (w8.alloc (.cells #[.int .i64 0, .string ⟨#[]⟩] 52)) w5.heap.size v8 (PP ++ [t])) := orw_alloc (unhide HO9) _
          have HF10 : Hid (Below w5.heap.size w5 (w8.alloc (.cells #[.int .i64 0, .string ⟨#[]⟩] 52))) := bA (unhide HF9) _
          have HL2 := hide (ls_one (cs := tyc) (sz := 2) w8 #[.int .i64 0, .string ⟨#[]⟩] 52 ty0 rfl)
          clear HO9 HF9 HNX h2
          go_wp2_with (at_builtin; refine listR_append rkT rfl _ _ rfl w5.heap.size _ _ rfl (unhide HO10) _ 1 1 [ty0] rfl (unhide HL2) (fun e => by cases e) (unhide HLN).2.2.1 (unhide HLN).2.2.2 (unhide HF10).size ?_)
          intro v9 w9 o9 g9
          have HF11 := hide (grown_below (unhide HF10) (unhide HO10) g9)
          have HO11 := hide o9
          clear o9 g9 c2 c3 HO10 HF10
          go_wp2
          go_roundw
          case rel => exact ⟨q + 1, by omega, by go_num, by show Orw _ _ _ _ _ _ _; rw [unhide HN2, List.append_assoc]; exact unhide HO11, HF11⟩
          case measure => simp [intOf]; omega
        · have HN2 : Hid (A0 ++ flatL (ML.take (q + 1)) = PP ++ [t]) := by rw [unhide HNX, flatL_short h2]; exact rfl
          have d2 : (t.kind == 2) = false := by simpa using h2
          clear HNX
          go_wp2
          go_roundw
          case rel => exact ⟨q + 1, by omega, by go_num, by show Orw _ _ _ _ _ _ _; rw [unhide HN2]; exact unhide HO9, HF9⟩
          case measure => simp [intOf]; omega
      case neg =>
        obtain rfl : q = ML.length := by omega
        obtain ⟨PP, hPP⟩ : ∃ PP, PP = flatL (argsB ac nm ML) := ⟨_, rfl⟩
        have hPe : A0 ++ flatL (ML.take ML.length) = PP := by
          rw [hPP, List.take_length]
          unfold argsB
          rw [flatL_append, unhide HA0]
          by_cases h8 : ac = 8 ∨ ac = 40
          · rw [if_pos h8]; rfl
          · rw [if_neg h8, flatL_short (t := refT nm) (show (4 : Int) ≠ 2 by decide)]
        rw [hPe] at HO
        have hPl : PP.length = wideN (argsB ac nm ML) := by rw [hPP, flatL_len]
        have HPP := hide hPP
        clear hPP hPe
        obtain ⟨va2, vc2, hv, _, _, _⟩ := (unhide HO).form
        subst hv
        obtain ⟨M, hM⟩ : ∃ M, M = PP.length := ⟨_, rfl⟩
        have HMM := hide hM
        have HRB : Hid (r = if ((M : Int) ≤ lo ∧ lo ≤ 64) then some (PP ++ List.replicate (lo.toNat - M) ty0, []) else none) := by
          show r = _
          rw [unhide HR, hM, hPl, unhide HPP]
          unfold beginP
          by_cases h : (wideN (argsB ac nm ML) : Int) ≤ lo ∧ lo ≤ 64
          · rw [if_pos h, if_pos ⟨rfl, h.1, h.2⟩]
          · rw [if_neg h, if_neg fun x => h x.2]
        rw [← hM] at HO ⊢
        clear hM hPl
        obtain ⟨q1, q2, q3⟩ := unhide KB wr (unhide HFW wr (unhide HF))
        by_cases hok : (M : Int) ≤ lo ∧ lo ≤ 64
        case neg =>
          have HRN : Hid (r = none) := (unhide HRB).trans (if_neg hok)
          have hr5 := unhide KR wr (unhide HFW wr (unhide HF))
          have z0 := bx_cell hr5 0 _ rfl
          have z1 := bx_cell hr5 1 _ rfl
          have zt := fun q => bx_thaw hr5 q
          obtain ⟨hE1, hE2⟩ := unhide HE wr _ (unhide HFW wr (unhide HF)) rfl
          have HE1 := hide hE1
          have HE2 := hide hE2
          clear hr5 hE1 hE2 HE HO HF HRB
          by_cases hl : (M : Int) ≤ lo
          · have h64 : lo > 64 := by omega
            have h1 : ¬ (M : Int) > lo := by omega
            have h2 : ¬ lo < (M : Int) := by omega
            have h3 : (64 : Int) < lo := by omega
            clear hok
            go_wp2
            refine bodyPost_ret (fr_ret2 Tryz.results9 _ (w.heap.size + 1 + 1) _ _ (unhide HE2) _ rfl) rfl ?_
            rw [unhide HRN]
            exact ⟨⟨none, 0, 0⟩, ⟨none, 0, 0⟩, rfl, ⟨rfl, rfl⟩, unhide HE1⟩
          · have h2 : lo < (M : Int) := by omega
            clear hok
            go_wp2
            refine bodyPost_ret (fr_ret2 Tryz.results9 _ (w.heap.size + 1 + 1) _ _ (unhide HE2) _ rfl) rfl ?_
            rw [unhide HRN]
            exact ⟨⟨none, 0, 0⟩, ⟨none, 0, 0⟩, rfl, ⟨rfl, rfl⟩, unhide HE1⟩
        case pos =>
          obtain ⟨n, hn⟩ : ∃ n : Nat, n = lo.toNat := ⟨_, rfl⟩
          obtain rfl : lo = (n : Int) := by omega
          have hMn : M ≤ n := by omega
          have hn64 : n ≤ 64 := by omega
          have h64 : (n : Int) ≤ 64 := by omega
          have h1 : ¬ (n : Int) < (M : Int) := by omega
          have h3 : ¬ (64 : Int) < (n : Int) := by omega
          have HRY : Hid (r = some (PP ++ List.replicate (n - M) ty0, [])) := by
            show r = _
            rw [unhide HRB, if_pos hok]
            rfl
          have HO2 := hide (unhide HO)
          clear HRB hok hn HR HBB HA0 HPP
          go_wp2
          go_loopw [9] (fun v W => ∃ (K : Nat) (a : Option Addr) (c : Nat), v = .slice a K c ∧ M ≤ K ∧ K ≤ n ∧ Hid (Orw tyc 52 2 W w5.heap.size v (PP ++ List.replicate (K - M) ty0)) ∧ Hid (Below w5.heap.size w5 W)) (fun v _ => match v with | .slice _ m _ => n - m | _ => 0)
          case atStart => exact ⟨M, va2, vc2, rfl, Nat.le_refl _, hMn, by show Orw _ _ _ _ _ _ _; rw [Nat.sub_self]; simpa using unhide HO2, HF⟩
          case round =>
            obtain ⟨K, a, c, rfl, hK1, hK2, HOq, HFq⟩ := hrel
            obtain ⟨q1, q2, q3⟩ := unhide KB wr (unhide HFW wr (unhide HFq))
            by_cases hlt : K < n
            case pos =>
              have hlt1 : (K : Int) < (n : Int) := by omega
              obtain ⟨QQ, hQQ⟩ : ∃ QQ, QQ = PP ++ List.replicate (K - M) ty0 := ⟨_, rfl⟩
              have hQl : QQ.length = K := by rw [hQQ, List.length_append, List.length_replicate, ← unhide HMM]; omega
              have HNX : Hid (PP ++ List.replicate (K + 1 - M) ty0 = QQ ++ [ty0]) := by
                show _ = _
                rw [hQQ, List.append_assoc, replicate_more, show K + 1 - M = K - M + 1 by omega]
              rw [← hQQ] at HOq
              have hlen2 : (QQ.length + 1) * 24 ≤ 140737488355328 := by rw [hQl]; omega
              have hlen3 : QQ.length + 1 ≤ 140737488355328 := by rw [hQl]; omega
              have HLN := hide (And.intro hlen2 hlen3)
              have HQL := hide hQl
              have HO8 : Hid (Orw tyc 52 2 (wr.alloc (.cells #[.int .i64 0, .string ⟨#[]⟩] 52)) w5.heap.size (.slice a K c) QQ) := orw_alloc (unhide HOq) _
              have HF8 : Hid (Below w5.heap.size w5 (wr.alloc (.cells #[.int .i64 0, .string ⟨#[]⟩] 52))) := bA (unhide HFq) _
              have HL2 := hide (ls_one (cs := tyc) (sz := 2) wr #[.int .i64 0, .string ⟨#[]⟩] 52 ty0 rfl)
              clear hQQ hQl hlen2 hlen3 HOq HFq
              go_wp2_with (at_builtin; refine listR_append rkT rfl _ _ rfl w5.heap.size _ _ rfl (unhide HO8) _ 1 1 [ty0] rfl (unhide HL2) (fun e => by cases e) (unhide HLN).1 (unhide HLN).2 (unhide HF8).size ?_)
              intro v9 w9 o9 g9
              obtain ⟨a9, c9, hv9, _, _, _⟩ := o9.form
              have e9 : (QQ ++ [ty0]).length = K + 1 := by rw [List.length_append, unhide HQL]; rfl
              rw [e9] at hv9
              subst hv9
              have HF9 := hide (grown_below (unhide HF8) (unhide HO8) g9)
              have HO9 : Hid (Orw tyc 52 2 w9 w5.heap.size (.slice a9 (K + 1) c9) (PP ++ List.replicate (K + 1 - M) ty0)) := by show Orw _ _ _ _ _ _ _; rw [unhide HNX]; exact o9
              clear o9 g9 e9 HO8 HF8 q1 q2 q3
              go_wp2
              go_roundw
              case rel => exact ⟨K + 1, a9, c9, rfl, by omega, by omega, HO9, HF9⟩
              case measure => show n - (K + 1) < n - K; omega
            case neg =>
              obtain rfl : K = n := by omega
              have hKK : ¬ (K : Int) < (K : Int) := by omega
              have hr5 := unhide KR wr (unhide HFW wr (unhide HFq))
              have z0 := bx_cell hr5 0 _ rfl
              have z1 := bx_cell hr5 1 _ rfl
              have zt := fun q => bx_thaw hr5 q
              have HE2 := hide (ty_set (.slice a K c) (.slice none 0 0) hr5)
              have HE1 : Hid (Below w.heap.size w ((wr.setCell ⟨w.heap.size + 1 + 1, 0, none⟩ (.slice a K c)).setCell ⟨w.heap.size + 1 + 1, 1, none⟩ (.slice none 0 0))) := ty_bel _ _ ((unhide F3).trans ((unhide HFW wr (unhide HFq)).mono (unhide F3).size)) (by omega)
              have h5z : w.heap.size + 3 ≤ w5.heap.size := by have h1 := (unhide F5).size; have h2 := unhide HZ; omega
              have HO9 : Hid (Orw tyc 52 2 ((wr.setCell ⟨w.heap.size + 1 + 1, 0, none⟩ (.slice a K c)).setCell ⟨w.heap.size + 1 + 1, 1, none⟩ (.slice none 0 0)) w.heap.size (.slice a K c) (PP ++ List.replicate (K - M) ty0)) := by
                refine ((unhide HOq).below (fun j hj => ?_)).base (by omega)
                have hne : ¬ j = w.heap.size + 1 + 1 := fun e => by have := ((unhide HOq).lt j hj).1; omega
                exact (Below.heap_setCell _ _ _ _ hne).trans (Below.heap_setCell _ _ _ _ hne)
              clear hr5 h5z HOq HFq HE
              go_wp2
              refine bodyPost_ret (fr_ret2 Tryz.results9 _ (w.heap.size + 1 + 1) _ _ (unhide HE2) _ rfl) rfl ?_
              rw [unhide HRY]
              exact ⟨⟨a, K, c⟩, ⟨none, 0, 0⟩, rfl, ⟨unhide HO9, Orw.nil _ _ _ _ _⟩, unhide HE1⟩
end Go.Proofs.YthenefjoidckkaaGreatDoor

/- Layer 11: the landed Begin. -/
namespace Go.Proofs.YthenefjoidckkaaGreatDoor
open Go.RowKit
set_option linter.unusedVariables false
set_option maxRecDepth 100000

set_option maxHeartbeats 400000 in
theorem p11static_any (W : World) (ac : Int) : Calls Tryz.prog 23 #[.int .i64 ac] W fun e w' => e = .returned (.bool (decide (ac = 8 ∨ ac = 40))) ∧ Below W.heap.size W w' := by
  by_cases h : ac = 8 ∨ ac = 40
  · rw [decide_eq_true h]
    rcases h with rfl | rfl
    · go_enter Tryz.func23, Tryz.ntmps23
      go_wp2
      go_ret
      exact ⟨rfl, Below.refl _ _⟩
    · go_enter Tryz.func23, Tryz.ntmps23
      go_wp2
      go_ret
      exact ⟨rfl, Below.refl _ _⟩
  · rw [decide_eq_false h]
    have d1 : ¬ ac = 8 := fun e => h (.inl e)
    have d2 : ¬ ac = 40 := fun e => h (.inr e)
    have d3 : (ac == 8) = false := by simpa using d1
    have d4 : (ac == 40) = false := by simpa using d2
    clear h
    go_enter Tryz.func23, Tryz.ntmps23
    go_wp2
    go_ret
    exact ⟨rfl, Below.refl _ _⟩
theorem flatL_part (A : List Ty) (k : Nat) : (flatL (A.take k)).length ≤ (flatL A).length := by
  have e : flatL A = flatL (A.take k) ++ flatL (A.drop k) := by rw [← flatL_append, List.take_append_drop]
  rw [e, List.length_append]
  omega
/-- The locals between two rounds of the landed Begin: those of the first k arguments, and KTop behind them. -/
def locK (A : List Ty) (k n : Nat) : List Ty := flatL (A.take k) ++ List.replicate (n - (flatL (A.take k)).length) ty0
theorem locK_zero (A : List Ty) (n : Nat) : locK A 0 n = List.replicate n ty0 := by simp [locK, flatL]
theorem locK_all {A : List Ty} (n : Nat) : locK A A.length n = flatL A ++ List.replicate (n - wideN A) ty0 := by rw [locK, List.take_length, flatL_len]
theorem locK_at {A : List Ty} {k n : Nat} {t : Ty} (ht : A[k]? = some t) (hn : wideN A ≤ n) : wideN (A.take k) < n := by
  have h1 := flatL_part A (k + 1)
  rw [flatL_take ht, List.length_append, flatL_len A, flatL_len (A.take k), flatL_one] at h1
  simp only [List.length_cons] at h1
  omega
theorem locK_next {A : List Ty} {k n : Nat} {t : Ty} (ht : A[k]? = some t) (hn : wideN A ≤ n) : (locK A k n).set (wideN (A.take k)) t = locK A (k + 1) n := by
  have h1 := flatL_part A (k + 1)
  rw [flatL_len A] at h1
  unfold locK
  rw [← flatL_len, flatL_take ht] at *
  generalize flatL (A.take k) = F at *
  rw [List.length_append] at h1 ⊢
  rw [List.set_append_right _ _ (Nat.le_refl _), Nat.sub_self, List.append_assoc]
  by_cases h2 : t.kind = 2
  · rw [flatL_long h2] at h1 ⊢
    obtain ⟨m, hm⟩ : ∃ m, n - F.length = m + 2 := ⟨n - F.length - 2, by simp at h1; omega⟩
    have e : n - (F.length + ([t] ++ [ty0]).length) = m := by simp; omega
    rw [hm, e, List.replicate_succ, List.replicate_succ, List.set_cons_zero]
    rfl
  · rw [flatL_short h2] at h1 ⊢
    obtain ⟨m, hm⟩ : ∃ m, n - F.length = m + 1 := ⟨n - F.length - 1, by simp at h1; omega⟩
    have e : n - (F.length + [t].length) = m := by simp; omega
    rw [hm, e, List.replicate_succ, List.set_cons_zero]
    rfl
end Go.Proofs.YthenefjoidckkaaGreatDoor

/- Layer 11: the landed Begin. -/
namespace Go.Proofs.YthenefjoidckkaaGreatDoor
open Go.RowKit
set_option linter.unusedVariables false
set_option maxRecDepth 100000

theorem made_tysB (n : Nat) : (madeCells #[.int .i64 0, .string ⟨#[]⟩] (n * 2)).toList = (List.replicate n ty0).flatMap tyc := by
  apply List.ext_getElem?
  intro j
  have hl : ((List.replicate n ty0).flatMap tyc).length = n * 2 := by rw [flatR_len (sz := 2) (fun _ => rfl), List.length_replicate]
  by_cases hj : j < n * 2
  · have hk : j / 2 < n := by omega
    have h1 : (List.replicate n ty0)[j / 2]? = some ty0 := by rw [List.getElem?_replicate, if_pos hk]
    have hm : (madeCells #[.int .i64 0, .string ⟨#[]⟩] (n * 2)).toList[j]? = some ((#[.int .i64 0, .string ⟨#[]⟩] : Array Value)[j % 2]!) := by simp [madeCells, hj]
    rw [hm]
    rcases Nat.mod_two_eq_zero_or_one j with e | e
    · have h2 := flatR_at (cs := tyc) (sz := 2) (fun _ => rfl) (List.replicate n ty0) (j / 2) ty0 h1 0 (.int .i64 0) rfl
      rw [show j / 2 * 2 + 0 = j by omega] at h2
      rw [h2, e]; rfl
    · have h2 := flatR_at (cs := tyc) (sz := 2) (fun _ => rfl) (List.replicate n ty0) (j / 2) ty0 h1 1 (.string ⟨#[]⟩) rfl
      rw [show j / 2 * 2 + 1 = j by omega] at h2
      rw [h2, e]; rfl
  · rw [List.getElem?_eq_none (by simp [madeCells]; omega), List.getElem?_eq_none (by omega)]
theorem make_tysB (w : World) (base n : Nat) (hn : n ≤ 1000) (hb : base ≤ w.heap.size) :
    ∃ w', (Instr.makeSlice 30 (.int .i64 (n : Int)) (.int .i64 (n : Int))).run Tryz.prog w = .ok (.slice (some ⟨w.heap.size, 0, none⟩) n n) w' ∧ Orw tyc 52 2 w' base (.slice (some ⟨w.heap.size, 0, none⟩) n n) (List.replicate n ty0) ∧ Below w.heap.size w w' := by
  obtain ⟨i0, hi, hz0, hz1, hz2⟩ := info_parts rkT.info
  obtain ⟨w', h1, h2, h3⟩ := run_make_full (P := Tryz.prog) w base 30 52 i0 (.agg #[.int .i64 0, .string ⟨#[]⟩]) 2 Tryz.underlying30 hi hz0 hz1 .i64 .i64 n (by rw [hz2]; omega) (by unfold maxLen; omega) hb
  refine ⟨w', h1, ?_, (Below.refl _ _).grown h3 (Nat.le_refl _) (fun k hk => by cases hk)⟩
  unfold Orw
  rw [List.length_replicate, ← made_tysB]
  exact h2
theorem wide_next {A : List Ty} {k : Nat} {t : Ty} (h : A[k]? = some t) : wideN (A.take (k + 1)) = wideN (A.take k) + wideN [t] := by
  rw [List.take_add_one, h, wideN_append]
  rfl
theorem locK_len {A : List Ty} {k n : Nat} (hn : wideN A ≤ n) : (locK A k n).length = n := by
  have h1 := flatL_part A k
  rw [flatL_len A] at h1
  unfold locK
  rw [List.length_append, List.length_replicate]
  omega
theorem wide_of_len (A : List Ty) : wideN A ≤ 2 * A.length := by
  have h3 : (A.countP fun t => decide (t.kind = 2)) ≤ A.length := List.countP_le_length
  unfold wideN
  omega
theorem orw_keepB {α : Type} {cs : α → List Value} {e : TypeId} {sz : Nat} {w w' : World} {B : Nat} {v : Value} {l : List α} (h : Orw cs e sz w B v l) (f : Below w.heap.size w w') : Orw cs e sz w' B v l := h.below fun k hk => f.block k (h.lt k hk).2
set_option maxHeartbeats 3200000 in
theorem p11Begin_any (w : World) (nm : List UInt8) (ac st lo : Int) (mn : ByteArray) (S : ByteArray) (s : List UInt8) (hS : Str S s) (hs : s.length ≤ 1000000) (L : List Ty) (rest : List UInt8) (hA : ArgsOf s L rest) (ba : Option Addr) (bn bc : Nat) (ha : Option Addr) (hn hc : Nat) (ma : Option Addr) (mk mc : Nat) :
    Calls Tryz.prog 8 #[.agg #[.slice none 0 0, .string ⟨nm.toArray⟩, .string ⟨#[]⟩, .slice none 0 0, .slice none 0 0], .agg #[.int .i64 ac, .string mn, .string S, .int .i64 st, .int .i64 lo, .slice ba bn bc, .slice ha hn hc, .slice ma mk mc]] w fun e w' => ∃ l s2 : Sl, e = .returned (.tuple #[.agg #[.slice l.a l.n l.c, .slice s2.a s2.n s2.c], .int .i64 (erV (beginP ac nm (metP L rest).2.2 (metP L rest).1 lo))]) ∧ StV w.heap.size (beginP ac nm (metP L rest).2.2 (metP L rest).1 lo) w' l s2 ∧ Below w.heap.size w w' := by
  obtain ⟨w3, hw3, f3, hz3, hb0, hb1, hb2⟩ := three_blocks w #[.slice none 0 0, .string ⟨nm.toArray⟩, .string ⟨#[]⟩, .slice none 0 0, .slice none 0 0] #[.int .i64 ac, .string mn, .string S, .int .i64 st, .int .i64 lo, .slice ba bn bc, .slice ha hn hc, .slice ma mk mc] #[.slice none 0 0, .slice none 0 0] 38 29 32
  have HM := hide (yMethod_any w3 S s hS hs L rest hA)
  have hlen := hA.len.1
  obtain ⟨hml, hme⟩ := metP_few L rest
  have hml2 : (metP L rest).1.length ≤ 1000000 := by omega
  generalize metP L rest = mp at *
  obtain ⟨ML, ⟨tk, tn⟩, me⟩ := mp
  unfold tyV at HM
  simp only at HM hme hml2 ⊢
  obtain ⟨r, hr⟩ : ∃ r, r = beginP ac nm me ML lo := ⟨_, rfl⟩
  rw [← hr]
  have HR := hide hr
  have HZ := hide hz3
  have KB : Hid (∀ W, Below w3.heap.size w3 W → W.cell? ⟨w.heap.size, 1, none⟩ = some (.string ⟨nm.toArray⟩) ∧ W.cell? ⟨w.heap.size + 1, 0, none⟩ = some (.int .i64 ac) ∧ W.cell? ⟨w.heap.size + 1, 4, none⟩ = some (.int .i64 lo)) := fun W f => by
    have e0 := (f.block _ (lt_of_heap hb0)).trans hb0
    have e1 := (f.block _ (lt_of_heap hb1)).trans hb1
    exact ⟨bx_cell e0 1 _ rfl, bx_cell e1 0 _ rfl, bx_cell e1 4 _ rfl⟩
  have KR : Hid (∀ W, Below w3.heap.size w3 W → W.heap[w.heap.size + 1 + 1]? = some (.cells #[.slice none 0 0, .slice none 0 0] 32 (0, 0))) := fun W f => (f.block _ (lt_of_heap hb2)).trans hb2
  have HW3 := hide hw3
  have F3 := hide f3
  obtain ⟨T, hT⟩ : ∃ T : ByteArray, ⟨tn.toArray⟩ = T := ⟨_, rfl⟩
  rw [hT] at HM
  clear hw3 f3 hz3 hb0 hb1 hb2 hlen hml hr hS hA hT
  go_enter Tryz.func8, Tryz.ntmps8
  go_wp2_with fail
  rw [← unhide HW3]
  refine (unhide HM).mono ?_
  rintro e w4 ⟨v, rfl, ow4, f4⟩
  obtain ⟨va, vc, rfl, hv1, hv2, hv3⟩ := ow4.form
  obtain ⟨w5, hw5⟩ : ∃ w5, w5 = w4.alloc (.cells #[.int .i64 tk, .string T] 52) := ⟨_, rfl⟩
  have f5 : Below w3.heap.size w3 w5 := by rw [hw5]; exact bA f4 _
  have hO5 : Orw tyc 52 2 w5 w3.heap.size (.slice va ML.length vc) ML := by rw [hw5]; exact orw_alloc ow4 _
  have HW5 := hide hw5
  have F5 := hide f5
  have HO5 := hide hO5
  clear ow4 f4 hO5 hv1 hv2 hv3 hw5 f5
  go_upto_region 2 with fail
  rw [← unhide HW5]
  clear HW5
  have HE : Hid (∀ W W', Below w3.heap.size w3 W → W' = (W.setCell ⟨w.heap.size + 1 + 1, 0, none⟩ (.slice none 0 0)).setCell ⟨w.heap.size + 1 + 1, 1, none⟩ (.slice none 0 0) → Below w.heap.size w W' ∧ W'.heap[w.heap.size + 1 + 1]? = some (.cells #[.slice none 0 0, .slice none 0 0] 32 (0, 0))) := fun W W' f e => by
    rw [e]
    exact ⟨ty_bel _ _ ((unhide F3).trans (f.mono (unhide F3).size)) (by omega), ty_set _ _ (unhide KR W f)⟩
  obtain ⟨AA, hAA⟩ : ∃ AA, AA = argsB ac nm ML := ⟨_, rfl⟩
  have hAl : AA.length ≤ 1000001 := by
    rw [hAA]
    unfold argsB
    split
    · simp; omega
    · simp; omega
  have HAA := hide hAA
  have HAL := hide hAl
  clear hAA hAl
  obtain ⟨q1, q2, q3⟩ := unhide KB _ (unhide F5)
  obtain ⟨D, hD⟩ : ∃ D : Bool, D = decide (ac = 8 ∨ ac = 40) := ⟨_, rfl⟩
  have HSt : Hid (∀ W, Calls Tryz.prog 23 #[.int .i64 ac] W fun e w' => e = .returned (.bool D) ∧ Below W.heap.size W w') := fun W => by rw [hD]; exact p11static_any W ac
  have HD := hide hD
  clear hD
  go_wp2_with fail
  refine (unhide HSt _).mono ?_
  rintro e w6 ⟨rfl, f6⟩
  have F6 := hide ((unhide F5).trans (f6.mono (unhide F5).size))
  have HO6 := hide (orw_keepB (unhide HO5) f6)
  clear f6 q1 q2 q3 HO5 HSt
  go_upto_if 24 with fail
  go_cut [6] from 25 (fun vb wr => Orw tyc 52 2 wr w3.heap.size vb AA ∧ Below w3.heap.size w3 wr)
  case first =>
    cases D with
    | true =>
      have h8 : ac = 8 ∨ ac = 40 := of_decide_eq_true (unhide HD).symm
      have ha : AA = ML := by
        rw [unhide HAA]
        unfold argsB
        rw [if_pos h8]
        rfl
      have HA := hide ha
      clear ha h8
      go_wp2
      go_meet
      exact ⟨by rw [unhide HA]; exact unhide HO6, unhide F6⟩
    | false =>
      have h8 : ¬ (ac = 8 ∨ ac = 40) := of_decide_eq_false (unhide HD).symm
      have ha : AA = refT nm :: ML := by
        rw [unhide HAA]
        unfold argsB
        rw [if_neg h8]
        rfl
      have HA := hide ha
      obtain ⟨q1, q2, q3⟩ := unhide KB _ (unhide F6)
      clear ha h8
      go_wp2_with fail
      refine (p11ref_any _ _).mono ?_
      rintro e w7 ⟨rfl, f7⟩
      have o7 := orw_keepB (unhide HO6) f7
      have g7 := (unhide F6).trans (f7.mono (unhide F6).size)
      have hb7 : Below w3.heap.size w3 (w7.alloc (.cells #[.int .i64 4, .string ⟨nm.toArray⟩] 52)) := bA g7 _
      have HI := hide (insertT_own (w7.alloc (.cells #[.int .i64 4, .string ⟨nm.toArray⟩] 52)) w3.heap.size _ ML (refT nm) w7.heap.size (orw_alloc o7 _) (heap_alloc_last _ _) (fun e => by have := (o7.lt _ e).2; omega) hb7.size (by omega))
      have HB7 := hide hb7
      clear f7 o7 g7 hb7 q1 q2 q3
      go_wp2_with fail
      refine (unhide HI).mono ?_
      rintro e w9 ⟨v9, rfl, o9, f9⟩
      have HO9 : Hid (Orw tyc 52 2 w9 w3.heap.size v9 AA) := by rw [unhide HA]; exact o9
      have HB9 := hide ((unhide HB7).trans f9)
      clear o9 f9 HI HB7
      go_wp2
      go_meet
      exact ⟨unhide HO9, unhide HB9⟩
  case rest =>
  obtain ⟨hO1, hF1⟩ := hcut
  obtain ⟨va2, vc2, hv, hv1, hv2, hv3⟩ := hO1.form
  subst hv
  have HO7 := hide hO1
  have F7 := hide hF1
  have HLA := hide (hO1.ls rkT)
  obtain ⟨q1, q2, q3⟩ := unhide KB _ hF1
  have hr5 := unhide KR _ hF1
  have z0 := bx_cell hr5 0 _ rfl
  have z1 := bx_cell hr5 1 _ rfl
  have zt := fun q => bx_thaw hr5 q
  clear hO1 hF1 hr5 hv1 hv2 hv3 HO6 F6
  by_cases hme0 : me = 0
  case neg =>
    have HRN := hide ((unhide HR).trans (beginP_no fun x => hme0 x.1))
    have m1 : (me == 0) = false := by simpa using hme0
    have m2 : (me != 0) = true := by simpa using hme0
    obtain ⟨hE1, hE2⟩ := unhide HE _ _ (unhide F7) rfl
    have HE1 := hide hE1
    have HE2 := hide hE2
    clear hE1 hE2 HE hme
    go_wp2
    refine bodyPost_ret (fr_ret2 Tryz.results8 _ (w.heap.size + 1 + 1) _ _ (unhide HE2) _ rfl) rfl ?_
    rw [unhide HRN]
    exact ⟨⟨none, 0, 0⟩, ⟨none, 0, 0⟩, rfl, ⟨rfl, rfl⟩, unhide HE1⟩
  subst hme0
  clear hme
  have HWD := hide (yWide_any wc va2 AA.length vc2 AA (unhide HLA) (by have := unhide HAL; omega))
  have hMw := wide_of_len AA
  obtain ⟨M, hM⟩ : ∃ M, M = wideN AA := ⟨_, rfl⟩
  rw [← hM] at HWD hMw
  have HRB : Hid (r = if ((M : Int) ≤ lo ∧ lo ≤ 64) then some (flatL AA ++ List.replicate (lo.toNat - M) ty0, []) else none) := by
    show r = _
    rw [unhide HR, hM, unhide HAA]
    unfold beginP
    by_cases h : (wideN (argsB ac nm ML) : Int) ≤ lo ∧ lo ≤ 64
    · rw [if_pos h, if_pos ⟨rfl, h.1, h.2⟩]
    · rw [if_neg h, if_neg fun x => h x.2]
  have HMM := hide hM
  clear hM
  go_wp2_with fail
  clear q1 q2 q3 z0 z1 zt
  refine (unhide HWD).mono ?_
  rintro e w7 ⟨rfl, f7⟩
  have F77 := hide ((unhide F7).trans (f7.mono (unhide F7).size))
  have HO8 := hide (orw_keepB (unhide HO7) f7)
  have hr5 := unhide KR _ (unhide F77)
  have z0 := bx_cell hr5 0 _ rfl
  have z1 := bx_cell hr5 1 _ rfl
  have zt := fun q => bx_thaw hr5 q
  clear f7 hr5 HWD HO7 HLA F7
  by_cases hok : (M : Int) ≤ lo ∧ lo ≤ 64
  case neg =>
    have HRN : Hid (r = none) := (unhide HRB).trans (if_neg hok)
    obtain ⟨hE1, hE2⟩ := unhide HE _ _ (unhide F77) rfl
    have HE1 := hide hE1
    have HE2 := hide hE2
    clear hE1 hE2 HE HRB
    by_cases hl : (M : Int) ≤ lo
    · have h2 : ¬ lo < (M : Int) := by omega
      have h3 : (64 : Int) < lo := by omega
      clear hok
      go_wp2
      refine bodyPost_ret (fr_ret2 Tryz.results8 _ (w.heap.size + 1 + 1) _ _ (unhide HE2) _ rfl) rfl ?_
      rw [unhide HRN]
      exact ⟨⟨none, 0, 0⟩, ⟨none, 0, 0⟩, rfl, ⟨rfl, rfl⟩, unhide HE1⟩
    · have h2 : lo < (M : Int) := by omega
      clear hok
      go_wp2
      refine bodyPost_ret (fr_ret2 Tryz.results8 _ (w.heap.size + 1 + 1) _ _ (unhide HE2) _ rfl) rfl ?_
      rw [unhide HRN]
      exact ⟨⟨none, 0, 0⟩, ⟨none, 0, 0⟩, rfl, ⟨rfl, rfl⟩, unhide HE1⟩
  case pos =>
  obtain ⟨n, hn⟩ : ∃ n : Nat, n = lo.toNat := ⟨_, rfl⟩
  obtain rfl : lo = (n : Int) := by omega
  have hMn : M ≤ n := by omega
  have hn64 : n ≤ 64 := by omega
  have h64 : (n : Int) ≤ 64 := by omega
  have h1 : ¬ (n : Int) < (M : Int) := by omega
  have h3 : ¬ (64 : Int) < (n : Int) := by omega
  have e1 : decide (n < M) = false := decide_eq_false (by omega)
  have e2 : ¬ n < M := by omega
  have HRY : Hid (r = some (flatL AA ++ List.replicate (n - M) ty0, [])) := by
    show r = _
    rw [unhide HRB, if_pos hok]
    rfl
  obtain ⟨w8, hmk, o8, f8⟩ := make_tysB w7 w7.heap.size n (by omega) (Nat.le_refl _)
  have HMK : Hid (Orw tyc 52 2 w8 w7.heap.size (.slice (some ⟨w7.heap.size, 0, none⟩) n n) (locK AA 0 n)) := by rw [locK_zero]; exact o8
  have HF8 := hide f8
  have HWN : Hid (wideN AA ≤ n) := by rw [← unhide HMM]; exact hMn
  clear HRB hok hn HR HE o8 f8 z0 z1 zt
  go_wp2
  generalize hg7 : w7.heap.size = g7 at *
  go_loopw [11, 51] (fun x i wr => ∃ k : Nat, k ≤ AA.length ∧ x = .int .i64 (wideN (AA.take k) : Nat) ∧ i = .int .i64 (k : Int) ∧ Orw tyc 52 2 wr g7 (.slice (some ⟨g7, 0, none⟩) n n) (locK AA k n) ∧ Below g7 w7 wr) (fun x i _ => AA.length - (intOf i).toNat)
  case atStart => exact ⟨0, by omega, by simp [wideN], rfl, unhide HMK, unhide HF8⟩
  case round =>
    obtain ⟨k, hk, rfl, rfl, hO, hR⟩ := hrel
    have hR' : Below w7.heap.size w7 wr := by rw [hg7]; exact hR
    by_cases hlt : k < AA.length
    · have hlt1 : (k : Int) < (AA.length : Int) := by omega
      have hk0 : (0 : Int) ≤ (k : Int) := by omega
      obtain ⟨t, ht⟩ : ∃ t, AA[k]? = some t := ⟨_, List.getElem?_eq_getElem hlt⟩
      have hat := locK_at ht (unhide HWN)
      have hnx := locK_next ht (unhide HWN)
      have hwn := wide_next ht
      obtain ⟨b1, o1, h1a, h1b⟩ := Ls.row ((orw_keepB (unhide HO8) hR').ls rkT) (w' := wr) (by omega)
      subst h1a
      have qt := h1b (Below.refl _ _) k t ht
      have c0 := qt.zero
      have c1 := qt 1 _ rfl
      have hgr : g7 < wr.heap.size := (hO.lt g7 rfl).2
      obtain ⟨A1, hA1⟩ : ∃ A1, A1 = wideN (AA.take k) := ⟨_, rfl⟩
      rw [← hA1] at hat hnx hwn ⊢
      obtain ⟨B1, hB1⟩ : ∃ B1, B1 = wideN [t] := ⟨_, rfl⟩
      have hB2 : B1 ≤ 2 := by have := wide_of_len [t]; simp at this; omega
      rw [← hB1] at hwn
      have o2 := orw_alloc hO (.cells #[.int .i64 t.kind, .string ⟨t.name.toArray⟩] 52)
      have hsz3 : (wr.setCells g7 (A1 * 2) (tyc t)).heap.size = wr.heap.size := by simp [tyc, World.setCells, World.setCell]
      have hW2 : ∃ W2, W2 = (wr.setCells g7 (A1 * 2) (tyc t)).alloc (.cells #[.int .i64 t.kind, .string ⟨t.name.toArray⟩] 52) ∧ Orw tyc 52 2 W2 g7 (.slice (some ⟨g7, 0, none⟩) n n) (locK AA (k + 1) n) ∧ Below g7 w7 W2 ∧ W2.heap.size = wr.heap.size + 1 ∧ W2.heap[wr.heap.size]? = some (.cells #[.int .i64 t.kind, .string ⟨t.name.toArray⟩] 52 (0, 0)) := by
        refine ⟨_, rfl, ?_, ?_, ?_, ?_⟩
        · have := hO.setR (cs := tyc) (sz := 2) (fun _ => rfl) hat t
          rw [hnx] at this
          exact orw_alloc this _
        · exact (below_cells _ _ hR (Nat.le_refl _)).alloc (by rw [hsz3]; omega) _
        · simp [hsz3]
        · rw [← hsz3]
          exact heap_alloc_last _ _
      obtain ⟨W2, hW2e, o3, b3, hz3, hx3⟩ := hW2
      have hn0 : n ≠ 0 := by omega
      obtain ⟨g', cur, eg, _, _, hz, qc⟩ := Orw.blkR (cs := tyc) (sz := 2) (fun _ => rfl) o2 hn0
      injection eg with eg
      injection eg with eg
      subst eg
      obtain ⟨y, hy⟩ : ∃ y, (locK AA k n)[A1]? = some y := ⟨_, List.getElem?_eq_getElem (by rw [locK_len (unhide HWN)]; exact hat)⟩
      have d0 := qc A1 y hy 0 _ rfl
      have d1 := qc A1 y hy 1 _ rfl
      rw [Nat.add_zero] at d0
      have t0 := hz (A1 * 2)
      have t1 := hz (A1 * 2 + 1)
      have hat1 : (A1 : Int) < (n : Int) := by omega
      have hat0 : (0 : Int) ≤ (A1 : Int) := by omega
      obtain ⟨g2, cur0, eg2, _, hhw, tw, qw⟩ := Orw.blkR (cs := tyc) (sz := 2) (fun _ => rfl) hO hn0
      injection eg2 with eg2
      injection eg2 with eg2
      subst eg2
      have hsw := heap_setCell_same wr g7 (A1 * 2) _ _ (.int .i64 t.kind) hhw
      have hsa := (heap_alloc_old _ (.cells #[.int .i64 t.kind, .string ⟨t.name.toArray⟩] 52) (lt_of_heap hsw)).trans hsw
      have t2 := bx_thaw hsa (A1 * 2 + 1)
      have dw := qw A1 y hy 1 _ rfl
      have hc1 := (cell_of_row _ _ _ _ _ _ hhw).symm.trans dw
      have d2 := bx_cell hsa (A1 * 2 + 1) _ (by rw [Array.getElem?_setIfInBounds_ne (by omega)]; exact hc1)
      have y2 := (heap_alloc_last (wr.setCell ⟨g7, A1 * 2, none⟩ (.int .i64 t.kind)) (.cells #[.int .i64 t.kind, .string ⟨t.name.toArray⟩] 52))
      clear hsw hhw hsa dw hc1 tw qw y2
      have x0 := bx_cell hx3 0 _ rfl
      have x1 := bx_cell hx3 1 _ rfl
      have HL3 := ls_one (cs := tyc) (sz := 2) W2 #[.int .i64 t.kind, .string ⟨t.name.toArray⟩] 52 t rfl
      have HC := hide (yWide_any _ _ 1 1 [t] HL3 (by omega))
      rw [← hB1] at HC
      have HO3 := hide o3
      have HB3 := hide b3
      have HZ3 := hide hz3
      simp only [tyc, World.setCells] at hW2e
      have HWE := hide hW2e
      have hAL := unhide HAL
      have HWN2 := hide hwn
      clear hO hR hR' ht hnx hwn h1b qt o2 o3 b3 hz3 hx3 hz qc hy HL3 hW2e hA1 hB1
      go_wp2_with (rw [← unhide HWE])
      refine (unhide HC).mono ?_
      rintro e w9 ⟨rfl, f9⟩
      have b4 : Below W2.heap.size W2 (W2.alloc (.cells #[.int .i64 t.kind, .string ⟨t.name.toArray⟩] 52)) := bA (Below.refl _ _) _
      have b9 := b4.trans (f9.mono b4.size)
      have HO9 := hide (orw_keepB (unhide HO3) b9)
      have HB9 := hide ((unhide HB3).trans (b9.mono (by have := unhide HZ3; omega)))
      clear f9 b4 b9 c0 c1 d0 d1 d2 t0 t1 t2 x0 x1 HC HO3 HB3 HWE
      go_wp2
      go_roundw
      case rel => exact ⟨k + 1, by omega, by rw [unhide HWN2]; simp, by go_num, unhide HO9, unhide HB9⟩
      case measure => simp [intOf]; omega
    · obtain rfl : k = AA.length := by omega
      have hf3 := (unhide F77).trans (hR'.mono (unhide F77).size)
      have hr5 := unhide KR wr hf3
      have z0 := bx_cell hr5 0 _ rfl
      have z1 := bx_cell hr5 1 _ rfl
      have zt := fun q => bx_thaw hr5 q
      have HE2 := hide (ty_set (.slice (some ⟨g7, 0, none⟩) n n) (.slice none 0 0) hr5)
      have HE1 : Hid (Below w.heap.size w ((wr.setCell ⟨w.heap.size + 1 + 1, 0, none⟩ (.slice (some ⟨g7, 0, none⟩) n n)).setCell ⟨w.heap.size + 1 + 1, 1, none⟩ (.slice none 0 0))) := ty_bel _ _ ((unhide F3).trans (hf3.mono (unhide F3).size)) (by omega)
      have h5z : w.heap.size + 3 ≤ g7 := by have h1 := (unhide F77).size; have h2 := unhide HZ; omega
      have HO9 : Hid (Orw tyc 52 2 ((wr.setCell ⟨w.heap.size + 1 + 1, 0, none⟩ (.slice (some ⟨g7, 0, none⟩) n n)).setCell ⟨w.heap.size + 1 + 1, 1, none⟩ (.slice none 0 0)) w.heap.size (.slice (some ⟨g7, 0, none⟩) n n) (flatL AA ++ List.replicate (n - M) ty0)) := by
        rw [locK_all, ← unhide HMM] at hO
        refine (hO.below (fun j hj => ?_)).base (by omega)
        have hne : ¬ j = w.heap.size + 1 + 1 := fun e => by have := (hO.lt j hj).1; omega
        exact (Below.heap_setCell _ _ _ _ hne).trans (Below.heap_setCell _ _ _ _ hne)
      clear hr5 h5z hO hR hR' hf3
      go_wp2
      refine bodyPost_ret (fr_ret2 Tryz.results8 _ (w.heap.size + 1 + 1) _ _ (unhide HE2) _ rfl) rfl ?_
      rw [unhide HRY]
      exact ⟨⟨some ⟨g7, 0, none⟩, n, n⟩, ⟨none, 0, 0⟩, rfl, ⟨unhide HO9, Orw.nil _ _ _ _ _⟩, unhide HE1⟩
end Go.Proofs.YthenefjoidckkaaGreatDoor
