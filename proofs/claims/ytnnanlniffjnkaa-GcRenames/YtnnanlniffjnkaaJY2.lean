/- Joined: HpI HpN HpT0 HqA. -/
import Derived.Test.YtnnanlniffjnkaaJY1
import Derived.Test.YtnnanlniffjnkaaJX3
import Derived.Test.YtnnanlniffjnkaaJX6

/- Layer 15: an object of a heap of one's own is written over; what Put answers. -/
namespace Go.Proofs.Ytnnanlniffjnkaa
open Go.RowKit
set_option linter.unusedVariables false
set_option maxRecDepth 100000

theorem wordsH_set : ∀ (l : List Ob) (k : Nat) (x : Ob), wordsH (l.set k x) ≤ wordsH l + x.ws.length
  | [], k, x => by simp [wordsH]
  | o :: l, 0, x => by simp only [List.set_cons_zero, wordsH]; omega
  | o :: l, k + 1, x => by
    have := wordsH_set l k x
    simp only [List.set_cons_succ, wordsH]
    omega
theorem firstH_le (f : Ob → Bool) (l : List Ob) : firstH f l ≤ l.length := List.findIdx_le_length
theorem wordsH_put (l : List Ob) (x : Ob) : wordsH (putLH l x) ≤ wordsH l + x.ws.length := by
  unfold putLH
  split
  · exact wordsH_set _ _ _
  · rw [wordsH_append]
    simp [wordsH]
theorem HOwn.set {w W : World} {B g m c k : Nat} {dn : List ObR} {y : ObR} (h : HOwn w B (.slice (some ⟨g, 0, none⟩) m c) dn) (f : Below w.heap.size w W) (hb : B ≤ w.heap.size) (hk : k < m) (ho : Orw vlc 47 2 W w.heap.size y.s.v y.ws) : HOwn (W.setCells g (k * 2) (obc y)) B (.slice (some ⟨g, 0, none⟩) m c) (dn.set k y) := by
  have r4 := orw_on h.row f
  obtain ⟨g', cur, eg, hB, hh, _, _⟩ := r4.blkR rkO.len (by omega)
  injection eg with eg
  injection eg with eg
  subst eg
  refine ⟨r4.setR rkO.len hk y, fun r hr => ?_, ?_⟩
  · rcases List.mem_or_eq_of_mem_set hr with h1 | rfl
    · exact keep_other (orw_on (h.each r h1) f) hh _ _
    · exact keep_other (ho.base hb) hh _ _
  · rw [List.pairwise_iff_getElem]
    intro i j hi hj hij b hbi hbj
    have ap := List.pairwise_iff_getElem.1 h.apart
    rw [List.length_set] at hi hj
    have old : ∀ q (hq : q < dn.length) b, dn[q].s.v.ownBlock = some b → b < w.heap.size := fun q hq b hb => ((h.each _ (List.getElem_mem hq)).lt b hb).2
    have new : ∀ b, y.s.v.ownBlock = some b → w.heap.size ≤ b := fun b hb => (ho.lt b hb).1
    rw [List.getElem_set] at hbi hbj
    split at hbi
    · split at hbj
      · omega
      · have q1 := new b hbi
        have q2 := old j hj b hbj
        omega
    · split at hbj
      · have q1 := new b hbj
        have q2 := old i hi b hbi
        omega
      · exact ap i j hi hj hij b hbi hbj
/-- What Put answers. -/
def putPost (w : World) (l : List Ob) (x : Ob) (e : Ending) (w' : World) : Prop :=
  Below w.heap.size w w' ∧ ((putEH l x ≠ 0 ∧ e = .returned (.tuple #[.slice none 0 0, .int .i64 0, .int .i64 (putEH l x)])) ∨ (putEH l x = 0 ∧ ∃ s rs, HIn w' s rs ∧ rs.map ObR.o = putLH l x ∧ e = .returned (.tuple #[s.v, .int .i64 ((firstH freeO l : Nat) + 1), .int .i64 0])))
theorem putEH_bad {l : List Ob} {x : Ob} (h : ¬ checkH l = true) : putEH l x = 150 := by
  unfold putEH
  rw [if_pos (by simpa using h)]
theorem putEH_arg {l : List Ob} {x : Ob} (h : checkH l = true) (hx : freeO x = true) : putEH l x = 2 := by
  unfold putEH
  rw [if_neg (by simp [h]), if_pos hx]
theorem putEH_full {l : List Ob} {x : Ob} (h : checkH l = true) (hx : ¬ freeO x = true) (hf : firstH freeO l = 4096 ∨ 65536 < wordsH l + x.ws.length) : putEH l x = 4 := by
  unfold putEH
  rw [if_neg (by simp [h]), if_neg hx, if_pos hf]
theorem putEH_ok {l : List Ob} {x : Ob} (h : checkH l = true) (hx : ¬ freeO x = true) (hf : ¬ (firstH freeO l = 4096 ∨ 65536 < wordsH l + x.ws.length)) : putEH l x = 0 := by
  unfold putEH
  rw [if_neg (by simp [h]), if_neg hx, if_neg hf]
theorem put_set (rs : List ObR) (x : Ob) (M : Nat) (hM : M = if firstH freeO (rs.map ObR.o) < rs.length then rs.length else rs.length + 1) : ((rs ++ List.replicate (M - rs.length) ob0).map ObR.o).set (firstH freeO (rs.map ObR.o)) x = putLH (rs.map ObR.o) x := by
  have hle := firstH_le freeO (rs.map ObR.o)
  rw [List.length_map] at hle
  unfold putLH
  rw [List.length_map]
  generalize firstH freeO (rs.map ObR.o) = F at *
  by_cases h : F < rs.length
  · rw [if_pos h] at hM ⊢
    subst hM
    simp
  · rw [if_neg h] at hM ⊢
    subst hM
    obtain rfl : F = rs.length := by omega
    rw [show rs.length + 1 - rs.length = 1 by omega, List.map_append, List.set_append_right _ _ (by rw [List.length_map]; exact Nat.le_refl _), List.length_map, Nat.sub_self]
    rfl
end Go.Proofs.Ytnnanlniffjnkaa

/- Layer 15: values and objects held against one another; light. -/
namespace Go.Proofs.Ytnnanlniffjnkaa
open Go.RowKit
set_option linter.unusedVariables false
set_option maxRecDepth 100000

theorem Vl.eq_iff (x y : Vl) : x = y ↔ x.kind = y.kind ∧ x.n = y.n := by
  obtain ⟨a, b⟩ := x
  obtain ⟨c, d⟩ := y
  simp
theorem val_cmp (w : World) (x y : Vl) :
    (binOp .eql 47 (.agg #[.int .i64 x.kind, .int .i64 x.n]) (.agg #[.int .i64 y.kind, .int .i64 y.n])).run Try.prog w = .ok (.bool (decide (x = y))) w := by
  rw [run_eql_struct]
  go_simp
  have e := Vl.eq_iff x y
  repeat' split
  all_goals
    congr 2
    simp_all
theorem val_cmpN (w : World) (x y : Vl) :
    (binOp .neq 47 (.agg #[.int .i64 x.kind, .int .i64 x.n]) (.agg #[.int .i64 y.kind, .int .i64 y.n])).run Try.prog w = .ok (.bool (!decide (x = y))) w := by
  rw [run_neq_struct]
  have h := val_cmp w x y
  rw [run_eql_struct] at h
  cases hq : (Op.equalIn 10000 47 (.agg #[.int .i64 x.kind, .int .i64 x.n]) (.agg #[.int .i64 y.kind, .int .i64 y.n])).run Try.prog w with
  | ok b w' =>
    rw [hq] at h
    simp only [Result.andThen_ok, Result.ok.injEq, Value.bool.injEq] at h
    obtain ⟨h1, h2⟩ := h
    subst h1 h2
    rfl
  | _ => rw [hq] at h; cases h
set_option maxHeartbeats 1600000 in
theorem SameValues_same (w : World) (s t : Sl) (l : List Vl) (hA : WsIn w s l) (hB : WsIn w t l) :
    Calls Try.prog 21 #[s.v, t.v] w fun e w' => e = .returned (.bool true) ∧ Below w.heap.size w w' := by
  obtain ⟨a, n, c⟩ := s
  obtain ⟨b, m, d⟩ := t
  have hs := hA.small
  have hln := hA.ls.1
  have hlm := hB.ls.1
  simp only at hln hlm hs
  obtain rfl : n = m := by omega
  have hs1 : n ≤ 140737488351232 := by omega
  unfold Sl.v
  simp only
  have HA := hide hA.ls
  have HB := hide hB.ls
  clear hA hB hs
  go_enter Try.func21, Try.ntmps21
  go_wp2
  go_loopw [5] (fun i wr => ∃ k : Nat, k ≤ n ∧ i = .int .i64 k ∧ Below w.heap.size w wr) (fun i _ => n - (intOf i).toNat)
  case atStart => exact ⟨0, by omega, rfl, Below.refl _ _⟩
  case round =>
    obtain ⟨k, hk, rfl, hR⟩ := hrel
    by_cases hlt : k < n
    · have hlt1 : (k : Int) < (n : Int) := by omega
      obtain ⟨b1, o1, h1a, h1⟩ := Ls.row (unhide HA) (w' := w) (by show n ≠ 0; omega)
      obtain ⟨b2, o2, h2a, h2⟩ := Ls.row (unhide HB) (w' := w) (by show n ≠ 0; omega)
      subst h1a h2a
      obtain ⟨r, hr⟩ : ∃ r, l[k]? = some r := ⟨_, List.getElem?_eq_getElem (by omega)⟩
      have q1 := h1 hR k r hr
      have q2 := h2 hR k r hr
      have c0 := q1.zero
      have c1 := q1 1 _ rfl
      have d0 := q2.zero
      have d1 := q2 1 _ rfl
      have JN : ∀ W, (binOp .neq 47 (.agg #[.int .i64 r.kind, .int .i64 r.n]) (.agg #[.int .i64 r.kind, .int .i64 r.n])).run Try.prog W = .ok (.bool false) W := fun W => by have := val_cmpN W r r; rw [decide_eq_true rfl] at this; exact this
      clear q1 q2
      have HR := hide hR
      clear h1 h2 hr hR
      go_wp2
      go_quiet (fail)
      go_wp2
      go_roundw
      case rel => exact ⟨k + 1, by omega, by go_num, below_drewN (unhide HR) _⟩
      case measure => simp [intOf]; omega
    · obtain rfl : k = n := by omega
      have HR := hide hR
      clear hR
      go_wp2
      go_ret
      exact ⟨rfl, unhide HR⟩
set_option maxHeartbeats 1600000 in
theorem SameObjects_same (w : World) (s t : Sl) (l m : List ObR) (hA : HIn w s l) (hB : HIn w t m) (hsame : l.map ObR.o = m.map ObR.o) :
    Calls Try.prog 16 #[s.v, t.v] w fun e w' => e = .returned (.bool true) ∧ Below w.heap.size w w' := by
  obtain ⟨a, n, c⟩ := s
  obtain ⟨b, n2, d⟩ := t
  have hs := hA.small
  have hln := hA.ls.1
  have hlm := hB.ls.1
  have hlen : l.length = m.length := by simpa using congrArg List.length hsame
  simp only at hln hlm hs
  obtain rfl : n = n2 := by omega
  have hs1 : n ≤ 140737488351232 := by omega
  unfold Sl.v
  simp only
  have HA := hide hA
  have HB := hide hB
  have HS := hide hsame
  clear hA hB hs hsame
  go_enter Try.func16, Try.ntmps16
  go_wp2
  go_loopw [5] (fun i wr => ∃ k : Nat, k ≤ n ∧ i = .int .i64 k ∧ Below w.heap.size w wr) (fun i _ => n - (intOf i).toNat)
  case atStart => exact ⟨0, by omega, rfl, Below.refl _ _⟩
  case round =>
    obtain ⟨k, hk, rfl, hR⟩ := hrel
    by_cases hlt : k < n
    · have hlt1 : (k : Int) < (n : Int) := by omega
      have hk0 : (0 : Int) ≤ (k : Int) := by omega
      obtain ⟨x, hx⟩ : ∃ x, l[k]? = some x := ⟨_, List.getElem?_eq_getElem (by omega)⟩
      obtain ⟨y, hy⟩ : ∃ y, m[k]? = some y := ⟨_, List.getElem?_eq_getElem (by omega)⟩
      have hxy : x.o = y.o := by
        have h1 := map_get (f := ObR.o) hx
        have h2 := map_get (f := ObR.o) hy
        rw [unhide HS, h2] at h1
        injection h1 with h1
        exact h1.symm
      obtain ⟨b1, o1, h1a, h1⟩ := memb_row (unhide HA) hx
      obtain ⟨b2, o2, h2a, h2⟩ := memb_row (unhide HB) hy
      simp only at h1a h2a
      subst h1a h2a
      have hwx := (unhide HA).each _ (List.mem_of_getElem? hx)
      have hwy := (unhide HB).each _ (List.mem_of_getElem? hy)
      have KC : Hid (∀ W, Below w.heap.size w W → RowAt W b1 (o1 + k * 2) (obc x) ∧ RowAt W b2 (o2 + k * 2) (obc y)) := fun W f => ⟨h1 f, h2 f⟩
      obtain ⟨ty, ⟨xa, xn, xc⟩, ws⟩ := x
      obtain ⟨ty2, ⟨ya, yn, yc⟩, ws2⟩ := y
      simp only [ObR.o, Ob.mk.injEq] at hxy
      obtain ⟨rfl, rfl⟩ := hxy
      have XT : Hid (∀ W, Below w.heap.size w W → Calls Try.prog 21 #[.slice xa xn xc, .slice ya yn yc] W fun e w' => e = .returned (.bool true) ∧ Below w.heap.size w w') := fun W f => Calls.mono (SameValues_same W ⟨xa, xn, xc⟩ ⟨ya, yn, yc⟩ ws (hwx.below f) (hwy.below f)) (by rintro e w' ⟨rfl, f2⟩; exact ⟨rfl, f.trans (f2.mono f.size)⟩)
      have KD : Hid (∀ W, Below w.heap.size w W → W.cell? ⟨b1, o1 + k * 2, none⟩ = some (.string ⟨ty.toArray⟩) ∧ W.cell? ⟨b1, o1 + k * 2 + 1, none⟩ = some (.slice xa xn xc) ∧ W.cell? ⟨b2, o2 + k * 2, none⟩ = some (.string ⟨ty.toArray⟩) ∧ W.cell? ⟨b2, o2 + k * 2 + 1, none⟩ = some (.slice ya yn yc)) := fun W f => ⟨((unhide KC) W f).1.zero, ((unhide KC) W f).1 1 _ rfl, ((unhide KC) W f).2.zero, ((unhide KC) W f).2 1 _ rfl⟩
      have HR := hide hR
      clear h1 h2 hx hy hR hwx hwy KC
      generalize (⟨ty.toArray⟩ : ByteArray) = st at *
      go_wp2
      refine wp_region_seq (fun W => Below w.heap.size w W) (by kernel_rfl) (by kernel_rfl) ((unhide HR).drew) ?_
      repeat (first
        | (refine SeqDo.skips (by rfl) ?_; simp only [Act.put, List.setIfInBounds_toArray, List.set_cons_zero, List.set_cons_succ])
        | (refine SeqDo.yields (v := ?_) (by rfl) ?_ ?_; rotate_left; (focus ((intro W hSW; obtain ⟨c0, c1, d0, d1⟩ := unhide KD W hSW; go_simp) <;> with_reducible rfl)); simp only [Act.put, List.setIfInBounds_toArray, List.set_cons_zero, List.set_cons_succ])
        | (refine SeqDo.does (v := .bool true) (by rfl) (fun W hSW KK hKK => ?_) ?_; (focus (go_simp; go_wp2_with (go_at_call 21; refine (unhide XT _ hSW).mono ?_; rintro e W' ⟨rfl, fJ⟩); exact hKK.out _ fJ)); simp only [Act.put, List.setIfInBounds_toArray, List.set_cons_zero, List.set_cons_succ]))
      intro W hSW
      have HR2 := hide hSW
      clear hSW XT KD HR
      go_wp2
      go_roundw
      case rel => exact ⟨k + 1, by omega, by go_num, unhide HR2⟩
      case measure => simp [intOf]; omega
    · obtain rfl : k = n := by omega
      have HR := hide hR
      clear hR
      go_wp2
      go_ret
      exact ⟨rfl, unhide HR⟩
def lightB (l : List Ob) : Bool := decide (l.length ≤ 5000) && decide (wordsH l ≤ 70000)
end Go.Proofs.Ytnnanlniffjnkaa

/- Layer 15, the landed code: Live. -/
namespace Go.Proofs.Ytnnanlniffjnkaa
open Go.RowKit
set_option linter.unusedVariables false
set_option maxRecDepth 100000

def i15 (n : Int) : List Value := [.int .i64 n]
theorem rkI15 : Rk i15 3 26 1 8 (.int .i64 0) := ⟨fun _ => rfl, fun x u hu => by simp [i15] at hu; subst hu; rfl, by decide, by kernel_rfl, rfl, Try.underlying26⟩
theorem liveFrom_len : ∀ (l : List Ob) (j : Nat), (liveFrom j l).length ≤ l.length
  | [], j => by simp [liveFrom]
  | o :: l, j => by
    have := liveFrom_len l (j + 1)
    unfold liveFrom
    split <;> simp <;> omega
theorem live_take {rs : List ObR} {k : Nat} {r : ObR} (h : rs[k]? = some r) : liveFrom 0 ((rs.map ObR.o).take (k + 1)) = liveFrom 0 ((rs.map ObR.o).take k) ++ (if r.ty.isEmpty = true then [] else [(k : Int) + 1]) := by
  rw [liveFrom_take _ 0 k _ (map_get (f := ObR.o) h)]
  rw [Nat.zero_add]
  rfl
set_option maxHeartbeats 1600000 in
theorem live_any (w : World) (s : Sl) (rs : List ObR) (h : HIn w s rs) (hn : rs.length ≤ 5000) :
    Calls Try.prog 33 #[s.v] w fun e w' => ∃ v, e = .returned v ∧ Orw i15 3 1 w' w.heap.size v (liveH (rs.map ObR.o)) ∧ Below w.heap.size w w' := by
  obtain ⟨a, n, c⟩ := s
  have hln := h.ls.1
  simp only at hln
  have HI := hide h
  have HE : Hid (liveFrom 0 ((rs.map ObR.o).take n) = liveH (rs.map ObR.o)) := hide (by rw [List.take_of_length_le]; rfl; rw [List.length_map]; omega)
  have HN : Hid (∀ k, (liveFrom 0 ((rs.map ObR.o).take k)).length ≤ 5000) := hide fun k => by
    have h1 := liveFrom_len ((rs.map ObR.o).take k) 0
    rw [List.length_take, List.length_map] at h1
    omega
  have HF := hide (fun W t s => isFree_any W t s)
  clear h
  unfold Sl.v at *
  simp only
  go_enter Try.func33, Try.ntmps33
  go_wp2
  go_loopw [3, 8] (fun m i wr => ∃ k : Nat, k ≤ n ∧ i = .int .i64 k ∧ Orw i15 3 1 wr w.heap.size m (liveFrom 0 ((rs.map ObR.o).take k)) ∧ Below w.heap.size w wr) (fun m i _ => n - (intOf i).toNat)
  case atStart => exact ⟨0, by omega, rfl, Orw.nil _ _ _ _ _, Below.refl _ _⟩
  case round =>
    obtain ⟨k, hk, rfl, hO, hR⟩ := hrel
    by_cases hlt : k < n
    · have hlt1 : (k : Int) < (n : Int) := by omega
      have hk0 : (0 : Int) ≤ (k : Int) := by omega
      obtain ⟨x, hx⟩ : ∃ x, rs[k]? = some x := ⟨_, List.getElem?_eq_getElem (by omega)⟩
      obtain ⟨b, o, ea, q⟩ := memb_row (unhide HI) hx
      simp only at ea
      subst ea
      have q1 := q hR
      obtain ⟨ty, ⟨sa, sn, sc⟩, ws⟩ := x
      have d0 := q1.zero
      have d1 := q1 1 _ rfl
      have HC := hide (fun W => unhide HF W ty ⟨sa, sn, sc⟩)
      have hs := live_take hx
      have HR := hide hR
      have HO := hide hO
      have hw1 : IntKind.i64.wrap ((k : Int) + 1) = (k : Int) + 1 := by rw [IntKind.wrap_i64]; omega
      obtain ⟨xs, hxs⟩ : ∃ xs, xs = liveFrom 0 ((rs.map ObR.o).take k) := ⟨_, rfl⟩
      have hlen := unhide HN k
      rw [← hxs] at hs HO hlen
      simp only at hs
      have HS := hide hs
      have HL := hide hlen
      clear q q1 hx hR hO hs hxs hlen
      simp only [Sl.v] at d0 d1 HC
      generalize hst : (⟨ty.toArray⟩ : ByteArray) = st at *
      go_wp2_with fail
      refine (unhide HC _).mono ?_
      rintro e w2 ⟨rfl, f2⟩
      have f2' : Below wr.heap.size wr w2 := ((Below.refl wr.heap.size wr).alloc (Nat.le_refl _) _).trans (f2.mono (by simp))
      have O2 := orw_on (unhide HO) f2'
      have F2 := (unhide HR).trans (f2'.mono (unhide HR).size)
      have HO2 := hide O2
      have HF2 := hide F2
      clear f2 f2' O2 F2 HO HR d0 d1
      cases ht : ty.isEmpty with
      | true =>
        have HS1 := unhide HS
        rw [ht, if_pos rfl, List.append_nil] at HS1
        have HS1 := hide HS1
        clear HS
        go_wp2
        go_roundw
        case rel => exact ⟨k + 1, by omega, by go_num, by rw [unhide HS1]; exact unhide HO2, unhide HF2⟩
        case measure => simp [intOf]; omega
      | false =>
        have HS1 := unhide HS
        rw [ht, if_neg (by decide)] at HS1
        have HS1 := hide HS1
        have HO3 := hide (orw_on (unhide HO2) ((Below.refl w2.heap.size w2).alloc (Nat.le_refl _) (.cells #[.int .i64 ((k : Int) + 1)] 3)))
        have HL3 : Hid (Ls 1 i15 (w2.alloc (.cells #[.int .i64 ((k : Int) + 1)] 3)) (some ⟨w2.heap.size, 0, none⟩) 1 [(k : Int) + 1]) := ls_one w2 _ _ _ rfl
        have hb3 := ((unhide HF2).trans (((Below.refl w2.heap.size w2).alloc (Nat.le_refl _) (.cells #[.int .i64 ((k : Int) + 1)] 3)).mono (unhide HF2).size))
        have HB3 := hide hb3
        have hln1 : (xs.length + 1) * 8 ≤ 140737488355328 := by have := unhide HL; omega
        have hln2 : xs.length + 1 ≤ 140737488355328 := by have := unhide HL; omega
        have HLN1 := hide hln1
        have HLN2 := hide hln2
        clear hb3 hln1 hln2 HS
        go_wp2_with (at_builtin; refine listR_append rkI15 rfl _ _ rfl w.heap.size _ _ rfl (unhide HO3) _ 1 1 [_] rfl (unhide HL3) (fun e => by cases e) (unhide HLN1) (unhide HLN2) (unhide HB3).size ?_)
        intro v' w5 o4 g4
        have F5 := hide (grown_below (unhide HB3) (unhide HO3) g4)
        have HO4 := hide o4
        clear o4 g4 HO3 HL3 HB3 HLN1 HLN2 HO2 HF2
        go_wp2
        go_roundw
        case rel => exact ⟨k + 1, by omega, by go_num, by rw [unhide HS1]; exact unhide HO4, unhide F5⟩
        case measure => simp [intOf]; omega
    · obtain rfl : k = n := by omega
      have HR := hide hR
      have HO := hide hO
      clear hR hO
      go_wp2
      go_ret
      exact ⟨_, rfl, by rw [← unhide HE]; exact unhide HO, unhide HR⟩
end Go.Proofs.Ytnnanlniffjnkaa

/- Layer 15, the document's side: Copy. -/
namespace Go.Proofs.Ytnnanlniffjnkaa
open Go.RowKit
set_option linter.unusedVariables false
set_option maxRecDepth 100000

theorem own_type {α : Type} {cs : α → List Value} {e : TypeId} {sz : Nat} {w : World} {B : Nat} {v : Value} {l : List α} (h : Orw cs e sz w B v l) {k : Nat} (hk : v.ownBlock = some k) : ∃ X, w.heap[k]? = some (.cells X e (0, 0)) := by
  rcases h.2 with ⟨hv, _⟩ | ⟨g, cap, cur, hv, hb, hh, _⟩
  · rw [hv] at hk; cases hk
  · rw [hv] at hk
    injection hk with hk
    subst hk
    exact ⟨cur, hh⟩
/-- An object is appended to a heap of one's own. -/
theorem HOwn.push {w W1 W2 : World} {B : Nat} {v v' : Value} {dn : List ObR} {y : ObR} (h : HOwn w B v dn) (f : Below w.heap.size w W1) (hb : B ≤ w.heap.size) (ho : Orw vlc 47 2 W1 w.heap.size y.s.v y.ws) (hr : Orw obc 43 2 W2 B v' (dn ++ [y])) (g : W1.grownBy W2 v.ownBlock) : HOwn W2 B v' (dn ++ [y]) := by
  have h1 := h.below f
  have keep : ∀ {B' : Nat} {s : Value} {ws : List Vl}, Orw vlc 47 2 W1 B' s ws → Orw vlc 47 2 W2 B' s ws := fun {B' s ws} o => o.keep fun k X _ hX => g.block k (lt_of_heap hX) fun e => by
    obtain ⟨Y, hY⟩ := own_type h1.row e.symm
    rw [hX] at hY
    injection hY with hY
    injection hY with _ hY
    cases hY
  refine ⟨hr, fun r hrm => ?_, ?_⟩
  · rcases List.mem_append.1 hrm with h2 | h2
    · exact keep (h1.each r h2)
    · simp at h2
      subst h2
      exact keep (ho.base hb)
  · rw [List.pairwise_append]
    refine ⟨h.apart, by simp, fun a ha b hbm i hi hj => ?_⟩
    simp at hbm
    subst hbm
    have q1 := ((h.each a ha).lt i hi).2
    have q2 := (ho.lt i hj).1
    omega
/-- Between two rounds of Copy. -/
structure Cp15 (w : World) (rs : List ObR) (k : Nat) (v : Value) (W : World) (dn : List ObR) : Prop where
  own : HOwn W w.heap.size v dn
  same : dn.map ObR.o = (rs.take k).map ObR.o
  bel : Below w.heap.size w W
set_option maxHeartbeats 1600000 in
theorem copy_any (w : World) (s : Sl) (rs : List ObR) (h : HIn w s rs) :
    Calls Try.prog 10 #[s.v] w fun e w' => ∃ (g c : Nat) (dn : List ObR), e = .returned (.slice (some ⟨g, 0, none⟩) s.n c) ∧ HOwn w' w.heap.size (.slice (some ⟨g, 0, none⟩) s.n c) dn ∧ dn.map ObR.o = rs.map ObR.o ∧ Below w.heap.size w w' := by
  obtain ⟨a, n, c⟩ := s
  have hln := h.ls.1
  have hsm := h.small
  simp only at hln hsm
  have HI := hide h
  have H0 : Hid (Cp15 w rs 0 (.slice (some ⟨w.heap.size, 0, none⟩) 0 0) (w.alloc (.cells #[] 43)) []) := ⟨⟨Orw.made _ _ _ w _ (Nat.le_refl _), (fun r hr => by simp at hr), List.Pairwise.nil⟩, rfl, (Below.refl _ _).alloc (Nat.le_refl _) _⟩
  clear h
  unfold Sl.v at *
  simp only
  go_enter Try.func10, Try.ntmps10
  go_wp2
  go_loopw [3, 4] (fun v i wr => ∃ k : Nat, k ≤ n ∧ i = .int .i64 k ∧ ∃ (g c' : Nat) (dn : List ObR), v = .slice (some ⟨g, 0, none⟩) k c' ∧ Cp15 w rs k v wr dn) (fun v i _ => n - (intOf i).toNat)
  case atStart => exact ⟨0, by omega, rfl, w.heap.size, 0, [], rfl, unhide H0⟩
  case round =>
    obtain ⟨k, hk, rfl, g, c', dn, rfl, hT⟩ := hrel
    by_cases hlt : k < n
    · have hlt1 : (k : Int) < (n : Int) := by omega
      have hk0 : (0 : Int) ≤ (k : Int) := by omega
      obtain ⟨x, hx⟩ : ∃ x, rs[k]? = some x := ⟨_, List.getElem?_eq_getElem (by omega)⟩
      obtain ⟨b, o, ea, q⟩ := memb_row (unhide HI) hx
      simp only at ea
      subst ea
      have hwx := (unhide HI).each _ (List.mem_of_getElem? hx)
      obtain ⟨ty, ⟨sa, sn, sc⟩, ws⟩ := x
      have KC : Hid (∀ W, Below w.heap.size w W → W.cell? ⟨b, o + k * 2, none⟩ = some (.string ⟨ty.toArray⟩) ∧ W.cell? ⟨b, o + k * 2 + 1, none⟩ = some (.slice sa sn sc)) := fun W f => ⟨(q f).zero, (q f) 1 _ rfl⟩
      have HW := hide hwx
      have hwn := hwx.ls.1
      have hwsm := hwx.small
      simp only at hwn hwsm
      have HX := hide hx
      have HT := hide hT
      have hB := hT.bel
      have HB := hide hB
      clear q hx hT hwx hB
      go_wp2
      refine wp_region_txtn (fun W => Below w.heap.size w W) [6, 12, 14, 15] [0, 1, 2, 3, 4, 5, 7, 8, 9, 10, 11, 6, 12, 13, 14, 15] 16 (by rfl) (by kernel_rfl) (by kernel_rfl) ((unhide HB).drew) ?_
      simp only [List.take_succ_cons, List.take_zero]
      repeat (first
        | (refine Txt.reads (v := ?_) (by rfl) (by rfl) (by rfl) ?_ ?_; rotate_left; (focus ((intro W hSW; obtain ⟨c0, c1⟩ := unhide KC W hSW; go_simp) <;> with_reducible rfl)); simp only [Act.put, List.setIfInBounds_toArray, List.set_cons_zero, List.set_cons_succ]))
      refine Txt.acts (by rfl) (by rfl) (by rfl) (fun K hK => ?_)
      go_simp
      obtain ⟨w1, hw1⟩ : ∃ w1, w1 = (wr.alloc (.cells #[] 47)).drew := ⟨_, rfl⟩
      have f1 : Below wr.heap.size wr w1 := by rw [hw1]; exact ((Below.refl _ _).alloc (Nat.le_refl _) _).drew
      have o1 : Orw vlc 47 2 w1 wr.heap.size (.slice (some ⟨wr.heap.size, 0, none⟩) 0 0) [] := by
        rw [hw1]
        exact (Orw.made vlc 47 2 wr wr.heap.size (Nat.le_refl _)).below fun _ _ => rfl
      have b1 := (unhide HB).trans (f1.mono (unhide HB).size)
      rw [← hw1]
      clear hw1
      refine hK.out _ _ b1 ?_
      clear hK
      refine Txt.acts (by rfl) (by rfl) (by rfl) (fun K hK => ?_)
      have hw := (unhide HW).below b1
      refine wpR_append rkV (.tmp 18) (.tmp 23) rfl wr.heap.size _ [] (by rfl) o1 sa sn sc ws (by rfl) hw.ls hw.nil (by simp; omega) (by simp; omega) f1.size ?_
      intro v2 w2 o2 g2
      rw [List.nil_append] at o2
      have f2 : Below wr.heap.size wr w2 := f1.grown g2 f1.size (fun q hq => (o1.lt q hq).1)
      have b2 := (unhide HB).trans (f2.mono (unhide HB).size)
      obtain ⟨a2, c2, rfl, _⟩ := o2.form
      rw [hwn] at o2 ⊢
      refine hK.out _ _ b2 ?_
      clear hK o1 f1 g2 b1 hw
      have O2 := hide o2
      have F2 := hide f2
      have B2 := hide b2
      clear o2 f2 b2
      repeat (first
        | (refine Txt.reads (v := ?_) (by rfl) (by rfl) (by rfl) ?_ ?_; rotate_left; (focus ((intro W hSW; go_simp) <;> with_reducible rfl)); simp only [Act.put, List.setIfInBounds_toArray, List.set_cons_zero, List.set_cons_succ]))
      refine Txt.acts (by rfl) (by rfl) (by rfl) (fun K hK => ?_)
      go_simp
      obtain ⟨w3, hw3⟩ : ∃ w3, w3 = w2.alloc (.cells #[.string ⟨ty.toArray⟩, .slice a2 sn c2] 43) := ⟨_, rfl⟩
      have f3 : Below w2.heap.size w2 w3 := by rw [hw3]; exact (Below.refl _ _).alloc (Nat.le_refl _) _
      have l3 : Ls 2 obc w3 (some ⟨w2.heap.size, 0, none⟩) 1 [⟨ty, ⟨a2, sn, c2⟩, ws⟩] := by rw [hw3]; exact ls_one (cs := obc) (sz := 2) w2 _ _ (ObR.mk ty ⟨a2, sn, c2⟩ ws) rfl
      have b3 := (unhide B2).trans (f3.mono (unhide B2).size)
      rw [← hw3]
      clear hw3
      refine hK.out _ _ b3 ?_
      clear hK
      refine Txt.acts (by rfl) (by rfl) (by rfl) (fun K hK => ?_)
      have f13 := (unhide F2).trans (f3.mono (unhide F2).size)
      have hrow := orw_on (unhide HT).own.row f13
      have hdl : dn.length = k := by obtain ⟨_, _, e', _⟩ := hrow.form; injection e' with _ e2 _; exact e2.symm
      refine wpR_append rkO (.tmp 12) (.tmp 26) rfl w.heap.size _ dn (by rfl) hrow (some ⟨w2.heap.size, 0, none⟩) 1 1 [⟨ty, ⟨a2, sn, c2⟩, ws⟩] (by rfl) l3 (fun e => by cases e) (by omega) (by omega) b3.size ?_
      intro v4 w4 o4 g4
      have b4 : Below w.heap.size w w4 := b3.grown g4 b3.size (fun q hq => (hrow.lt q hq).1)
      have hown := (unhide HT).own.push (y := ⟨ty, ⟨a2, sn, c2⟩, ws⟩) f13 (unhide HB).size (orw_on (unhide O2) f3) o4 g4
      obtain ⟨a4, c4, rfl, _⟩ := o4.form
      have hl4 : (dn ++ [(⟨ty, ⟨a2, sn, c2⟩, ws⟩ : ObR)]).length = k + 1 := by rw [List.length_append, hdl]; rfl
      rw [hl4] at o4 hown ⊢
      obtain ⟨g5, _, rfl, _⟩ := o4.blkR rkO.len (by omega)
      have hcp : Cp15 w rs (k + 1) (.slice (some ⟨g5, 0, none⟩) (k + 1) c4) w4 (dn ++ [⟨ty, ⟨a2, sn, c2⟩, ws⟩]) := by
        refine ⟨hown, ?_, b4⟩
        rw [List.map_append, (unhide HT).same, List.take_add_one, unhide HX, List.map_append]
        rfl
      refine hK.out _ _ b4 ?_
      have HCP := hide hcp
      clear hK o4 g4 b4 hown hcp hrow f13 f3 l3 b3 hl4 hdl O2 F2 B2 HT HX KC HW HB
      refine Txt.done (thenLast_n (by rfl) (by rfl) (by rfl) (fun KK hKK => ?_))
      go_simp
      refine hKK.out _ _ ?_
      clear hKK
      go_wp2
      go_roundw
      case rel => exact ⟨k + 1, by omega, by simp, g5, c4, _, by simp, by simpa using unhide HCP⟩
      case measure => simp [intOf]; omega
    · obtain rfl : k = n := by omega
      have HT := hide hT
      clear hT
      go_wp2
      go_ret
      have t := unhide HT
      refine ⟨g, c', dn, rfl, t.own, ?_, t.bel⟩
      rw [t.same, List.take_of_length_le (by omega)]
end Go.Proofs.Ytnnanlniffjnkaa
