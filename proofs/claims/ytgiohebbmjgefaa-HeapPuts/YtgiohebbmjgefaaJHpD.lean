/- Layer 15, the landed code: own of values, of objects (written by mk/mkhpd.py). -/
import Derived.Test.YtgiohebbmjgefaaJHpC
import Derived.Laws.OwnMore
import Derived.Shelf.Spec.SlicesInsert

namespace Go.Proofs.Ytgiohebbmjgefaa
open Go.RowKit
set_option linter.unusedVariables false
set_option maxRecDepth 100000

def vl0 : Vl := ⟨0, 0⟩
def ob0 : ObR := ⟨[], ⟨none, 0, 0⟩, []⟩
theorem made_two {α : Type} {cs : α → List Value} {x0 : α} {a b : Value} (hl : ∀ x, (cs x).length = 2) (h : cs x0 = [a, b]) (n : Nat) : (madeCells #[a, b] (n * 2)).toList = (List.replicate n x0).flatMap cs := by
  apply List.ext_getElem?
  intro j
  have hlen : ((List.replicate n x0).flatMap cs).length = n * 2 := by rw [flatR_len hl, List.length_replicate]
  by_cases hj : j < n * 2
  · have hk : j / 2 < n := by omega
    have h1 : (List.replicate n x0)[j / 2]? = some x0 := by rw [List.getElem?_replicate, if_pos hk]
    have hm : (madeCells #[a, b] (n * 2)).toList[j]? = some ((#[a, b] : Array Value)[j % 2]!) := by simp [madeCells, hj]
    rw [hm]
    rcases Nat.mod_two_eq_zero_or_one j with e | e
    · have h2 := flatR_at (cs := cs) (sz := 2) hl (List.replicate n x0) (j / 2) x0 h1 0 a (by rw [h]; rfl)
      rw [show j / 2 * 2 + 0 = j by omega] at h2
      rw [h2, e]; rfl
    · have h2 := flatR_at (cs := cs) (sz := 2) hl (List.replicate n x0) (j / 2) x0 h1 1 b (by rw [h]; rfl)
      rw [show j / 2 * 2 + 1 = j by omega] at h2
      rw [h2, e]; rfl
  · rw [List.getElem?_eq_none (by simp [madeCells]; omega), List.getElem?_eq_none (by omega)]
theorem make_two {α : Type} {cs : α → List Value} {e t : TypeId} {by_ : Nat} {a b : Value} (R : Rk cs e t 2 by_ (.agg #[a, b])) {x0 : α} (h0 : cs x0 = [a, b]) (hca : (Value.agg #[a, b]).cells = #[a, b]) (w : World) (base n : Nat) (hn : by_ * n ≤ 281474976710656) (hm : n ≤ 9223372036854775807) (hb : base ≤ w.heap.size) :
    ∃ w', (Instr.makeSlice t (.int .i64 (n : Int)) (.int .i64 (n : Int))).run Try.prog w = .ok (.slice (some ⟨w.heap.size, 0, none⟩) n n) w' ∧ Orw cs e 2 w' base (.slice (some ⟨w.heap.size, 0, none⟩) n n) (List.replicate n x0) ∧ Below w.heap.size w w' ∧ w.heap.size < w'.heap.size := by
  obtain ⟨i0, hi, hz0, hz1, hz2⟩ := info_parts R.info
  obtain ⟨w', h1, h2, h3⟩ := run_make_full (P := Try.prog) w base t e i0 (.agg #[a, b]) 2 R.sl hi hz0 hz1 .i64 .i64 n (by rw [hz2]; exact hn) (by unfold maxLen; exact hm) hb
  have o1 : Orw cs e 2 w' base (.slice (some ⟨w.heap.size, 0, none⟩) n n) (List.replicate n x0) := by
    unfold Orw
    rw [List.length_replicate, ← made_two R.len h0]
    rw [hca] at h2
    exact h2
  exact ⟨w', h1, o1, (Below.refl _ _).grown h3 (Nat.le_refl _) (fun k hk => by cases hk), (o1.lt _ rfl).2⟩
/-- copy into a new row: what it holds then. -/
theorem copy_two {α : Type} {cs : α → List Value} {e t ty : TypeId} {by_ : Nat} {z : Value} (R : Rk cs e t 2 by_ z) {w : World} {B g n m c : Nat} {a : Option Addr} {l L : List α} (hL : Ls 2 cs w a n l) (hnil : a = none → n = 0 ∧ c = 0) (hO : Orw cs e 2 w B (.slice (some ⟨g, 0, none⟩) m m) L) (hnm : n ≤ m) :
    ∃ w', (Builtin.copy_ #[t, t] ty #[.slice (some ⟨g, 0, none⟩) m m, .slice a n c]).run Try.prog w = .ok (goInt (n : Nat)) w' ∧ Orw cs e 2 w' B (.slice (some ⟨g, 0, none⟩) m m) (l ++ L.drop n) ∧ (∀ W, Below B W w → Below B W w') ∧ ∀ k, k ≠ g → w'.heap[k]? = w.heap[k]? := by
  have hLl : L.length = m := by obtain ⟨_, _, e', _⟩ := hO.form; injection e' with _ e2 _; exact e2.symm
  have hll := hL.1
  obtain ⟨i0, hi, hz0, hz1, hz2⟩ := info_parts R.info
  have hmin : Nat.min n m = n := Nat.min_eq_left hnm
  cases a with
  | none =>
    obtain ⟨rfl, rfl⟩ := hnil rfl
    have h0 : l = [] := List.eq_nil_of_length_eq_zero hll
    subst h0
    refine ⟨w, ?_, by simpa using hO, fun W h => h, fun k _ => rfl⟩
    simp [Builtin.copy_, run_underlying R.sl, Builtin.lenOf, Builtin.firstCells, sizeOf, typeInfo, hi]
    rfl
  | some ad =>
    have hsrc : ∀ j u, (l.flatMap cs)[j]? = some u → w.cell? (ad.add j) = some u := by
      rcases hL.2 with h0 | ⟨b, o, e1, _, hE⟩
      · have : l = [] := List.eq_nil_of_length_eq_zero (by rw [hL.1]; exact h0)
        subst this
        intro j u hu
        simp at hu
      · intro j u hu
        injection e1 with e1
        subst e1
        obtain ⟨k, y, q, h1, h2, rfl⟩ := flatR_of R.len R.pos l j u hu
        have := hE k y h1 q u h2
        rw [Addr.add_mid, ← Nat.add_assoc]
        exact this
    have hB : B ≤ g := (hO.lt g rfl).1
    obtain ⟨g', cap, cur, hv, _, hh, hc1, hc2, hsz, htk⟩ : ∃ g' cap cur, Value.slice (some ⟨g, 0, none⟩) m m = .slice (some ⟨g', 0, none⟩) L.length cap ∧ B ≤ g' ∧ w.heap[g']? = some (.cells cur e (0, 0)) ∧ L.length ≤ cap ∧ cap ≤ maxLen ∧ cur.size = cap * 2 ∧ cur.toList.take (L.length * 2) = L.flatMap cs := by
      rcases hO.2 with ⟨hv, _⟩ | ⟨g', cap, cur, r⟩
      · cases hv
      · exact ⟨g', cap, cur, r⟩
    injection hv with ea en ec
    injection ea with ea
    injection ea with ea
    subst ea ec
    have hfl : (l.flatMap cs).length = n * 2 := by rw [flatR_len R.len, hll]
    have hcell : ∀ j, j < (l.flatMap cs).length → (w.cell? ⟨g, 0 + j, none⟩).isSome = true := fun j hj => by
      rw [hfl] at hj
      rw [cell_of_row _ _ _ _ _ _ hh, Array.getElem?_eq_getElem (by omega)]
      rfl
    have hrun := run_copy_k w t t ty e g 0 m m ad n c (l.flatMap cs) 2 R.sl (by rw [hi]; exact congrArg some hz1) (by rw [hfl, hmin]) hsrc hcell (fun j _ => bx_thaw hh _) (fun v hv => by
      obtain ⟨y, _, hy⟩ := List.mem_flatMap.1 hv
      exact R.one y v hy)
    rw [hmin] at hrun
    have hO' := hO
    unfold Orw at hO'
    rw [hLl] at hO'
    obtain ⟨ys, q1, q2⟩ := stored_all (l.flatMap cs) 0 w _ hO'
    have hys := q2 [] ((L.take n).flatMap cs) ((L.drop n).flatMap cs) (by rw [List.nil_append, ← List.flatMap_append, List.take_append_drop]) rfl (by rw [hfl, flatR_len R.len, List.length_take, Nat.min_eq_left (by omega)])
    refine ⟨_, hrun, ?_, fun W h => below_cells _ _ h hB, fun k hk => heap_cells_other _ _ _ _ _ hk⟩
    unfold Orw
    have hlen : (l ++ L.drop n).length = m := by rw [List.length_append, List.length_drop]; omega
    rw [hlen, List.flatMap_append]
    rw [hys] at q1
    exact q1
set_option maxHeartbeats 800000 in
theorem ownV_any (w : World) (s : Sl) (l : List Vl) (m : Nat) (hL : Ls 2 vlc w s.a s.n l) (hnil : s.a = none → s.n = 0 ∧ s.c = 0) (hnm : s.n ≤ m) (hm : 16 * m ≤ 281474976710656) :
    Calls Try.prog 44 #[s.v, .int .i64 (m : Int)] w fun e w' => ∃ g, e = .returned (.slice (some ⟨g, 0, none⟩) m m) ∧ Orw vlc 33 2 w' w.heap.size (.slice (some ⟨g, 0, none⟩) m m) (l ++ List.replicate (m - s.n) vl0) ∧ Below w.heap.size w w' := by
  obtain ⟨a, n, c⟩ := s
  simp only at hL hnil hnm ⊢
  obtain ⟨w1, hmk, o1, f1, z1⟩ := make_two rkV (x0 := vl0) rfl rfl w w.heap.size m hm (by omega) (Nat.le_refl _)
  obtain ⟨w2, hcp, o2, f2, _⟩ := copy_two (ty := 3) rkV (hL.below f1) hnil o1 hnm
  have HO := hide o2
  have F2 := hide (f2 w f1)
  clear o1 o2 f1 f2 z1 hL hnil
  unfold Sl.v
  simp only
  go_enter Try.func44, Try.ntmps44
  go_wp2_with (at_builtin; refine wpList_copy_runI _ rfl _ _ _ _ rfl _ _ rfl rfl hcp ?_)
  go_wp2
  go_ret
  refine ⟨_, rfl, ?_, unhide F2⟩
  have := unhide HO
  rw [List.drop_replicate] at this
  exact this
set_option maxHeartbeats 800000 in
theorem ownO_any (w : World) (s : Sl) (l : List ObR) (m : Nat) (hL : Ls 2 obc w s.a s.n l) (hnil : s.a = none → s.n = 0 ∧ s.c = 0) (hnm : s.n ≤ m) (hm : 40 * m ≤ 281474976710656) :
    Calls Try.prog 45 #[s.v, .int .i64 (m : Int)] w fun e w' => ∃ g, e = .returned (.slice (some ⟨g, 0, none⟩) m m) ∧ Orw obc 29 2 w' w.heap.size (.slice (some ⟨g, 0, none⟩) m m) (l ++ List.replicate (m - s.n) ob0) ∧ Below w.heap.size w w' := by
  obtain ⟨a, n, c⟩ := s
  simp only at hL hnil hnm ⊢
  obtain ⟨w1, hmk, o1, f1, z1⟩ := make_two rkO (x0 := ob0) rfl rfl w w.heap.size m hm (by omega) (Nat.le_refl _)
  obtain ⟨w2, hcp, o2, f2, _⟩ := copy_two (ty := 3) rkO (hL.below f1) hnil o1 hnm
  have HO := hide o2
  have F2 := hide (f2 w f1)
  clear o1 o2 f1 f2 z1 hL hnil
  unfold Sl.v
  simp only
  go_enter Try.func45, Try.ntmps45
  go_wp2_with (at_builtin; refine wpList_copy_runI _ rfl _ _ _ _ rfl _ _ rfl rfl hcp ?_)
  go_wp2
  go_ret
  refine ⟨_, rfl, ?_, unhide F2⟩
  have := unhide HO
  rw [List.drop_replicate] at this
  exact this
end Go.Proofs.Ytgiohebbmjgefaa
