/- Joined: HpE HpF HpG HpH. -/
import Derived.Test.YtnnanlniffjnkaaJY0

/- Layer 15, the landed code: ownObject, ownHeap. -/
namespace Go.Proofs.Ytnnanlniffjnkaa
open Go.RowKit
set_option linter.unusedVariables false
set_option maxRecDepth 100000

theorem bx_set2 {W : World} {A : Nat} {T : TypeId} {a0 a1 : Value} (c0 c1 : Value) (h : W.heap[A]? = some (.cells #[a0, a1] T)) : ((W.setCell ⟨A, 0, none⟩ c0).setCell ⟨A, 1, none⟩ c1).heap[A]? = some (.cells #[c0, c1] T) := by
  have h0 := heap_setCell_same W A 0 _ _ c0 h
  exact heap_setCell_same _ A 1 _ _ c1 h0
/-- Of a list in a row of one's own the first k have words of their own, the rest is as it came. -/
structure Hm (w : World) (g m : Nat) (L : List ObR) (k : Nat) (W : World) (dn : List ObR) : Prop where
  len : dn.length = k
  same : dn.map ObR.o = (L.take k).map ObR.o
  row : Orw obc 43 2 W w.heap.size (.slice (some ⟨g, 0, none⟩) m m) (dn ++ L.drop k)
  each : ∀ r ∈ dn, Orw vlc 47 2 W w.heap.size r.s.v r.ws
  apart : dn.Pairwise (fun a b => ∀ i, a.s.v.ownBlock = some i → b.s.v.ownBlock ≠ some i)
  bel : Below w.heap.size w W
theorem keep_other {W : World} {B g : Nat} {v : Value} {ws : List Vl} {cur : Array Value} (h : Orw vlc 47 2 W B v ws) (hg : W.heap[g]? = some (.cells cur 43 (0, 0))) (o : Nat) (vs : List Value) : Orw vlc 47 2 (W.setCells g o vs) B v ws := h.keep fun k X _ hX => heap_cells_other g _ _ _ _ (fun e => by
  rw [e, hg] at hX
  injection hX with hX
  injection hX with _ hX
  cases hX)
theorem Hm.next {w W W4 : World} {g m k : Nat} {L dn : List ObR} {x : ObR} (h : Hm w g m L k W dn) (hx : L[k]? = some x) (f : Below W.heap.size W W4) {s : Sl} (ho : Orw vlc 47 2 W4 W.heap.size s.v x.ws) : Hm w g m L (k + 1) (W4.setCells g (k * 2) (obc ⟨x.ty, s, x.ws⟩)) (dn ++ [⟨x.ty, s, x.ws⟩]) := by
  have hk := (List.getElem?_eq_some_iff.1 hx).1
  have hdrop : L.drop k = x :: L.drop (k + 1) := by
    rw [List.drop_eq_getElem_cons hk, (List.getElem?_eq_some_iff.1 hx).2]
  have hln : (dn ++ L.drop k).length = m := by obtain ⟨_, _, e', _⟩ := h.row.form; injection e' with _ e2 _; exact e2.symm
  have hkm : k < m := by
    have := h.len
    rw [← hln, List.length_append, List.length_drop]
    omega
  have r4 := orw_on h.row f
  obtain ⟨g', cur, eg, hB, hh, _, _⟩ := r4.blkR rkO.len (by omega)
  injection eg with eg
  injection eg with eg
  subst eg
  refine ⟨by rw [List.length_append, h.len]; rfl, ?_, ?_, fun r hr => ?_, ?_, below_cells _ _ (h.bel.trans (f.mono h.bel.size)) hB⟩
  · rw [List.map_append, h.same, List.take_add_one, hx, List.map_append]
    rfl
  · have := r4.setR rkO.len hkm ⟨x.ty, s, x.ws⟩
    have e : (dn ++ L.drop k).set k ⟨x.ty, s, x.ws⟩ = dn ++ [⟨x.ty, s, x.ws⟩] ++ L.drop (k + 1) := by
      rw [List.set_append_right _ _ (by rw [h.len]; exact Nat.le_refl _), h.len, Nat.sub_self, hdrop]
      simp
    rw [e] at this
    exact this
  · rcases List.mem_append.1 hr with h1 | h1
    · exact keep_other (orw_on (h.each r h1) f) hh _ _
    · simp at h1
      subst h1
      exact keep_other (ho.base h.bel.size) hh _ _
  · rw [List.pairwise_append]
    refine ⟨h.apart, by simp, fun a ha b hb i hi hj => ?_⟩
    simp at hb
    subst hb
    have q1 := ((h.each a ha).lt i hi).2
    have q2 := (ho.lt i hj).1
    omega
end Go.Proofs.Ytnnanlniffjnkaa

/- Layer 15, the landed code: Words, Check. -/
namespace Go.Proofs.Ytnnanlniffjnkaa
open Go.RowKit
set_option linter.unusedVariables false
set_option maxRecDepth 100000

theorem wordsH_le {M : Nat} : ∀ l : List Ob, (∀ o ∈ l, o.ws.length ≤ M) → wordsH l ≤ l.length * M
  | [], _ => by simp [wordsH]
  | o :: l, h => by
    have h1 := h o (by simp)
    have h2 := wordsH_le l fun x hx => h x (by simp [hx])
    rw [wordsH, List.length_cons, Nat.succ_mul]
    omega
theorem words_few {w : World} {s : Sl} {rs : List ObR} (h : HIn w s rs) (hn : rs.length ≤ 5000) (k : Nat) : wordsH ((rs.map ObR.o).take k) ≤ 44000000000000000 := by
  refine Nat.le_trans (wordsH_take _ _) ?_
  have h1 := wordsH_le (M := 8796093022202) (rs.map ObR.o) fun o ho => by
    obtain ⟨r, hr, rfl⟩ := List.mem_map.1 ho
    have h2 := h.each r hr
    have h3 := h2.ls.1
    have h4 := h2.small
    simp only [ObR.o]
    omega
  rw [List.length_map] at h1
  have h2 : rs.length * 8796093022202 ≤ 5000 * 8796093022202 := Nat.mul_le_mul_right _ hn
  omega
set_option maxHeartbeats 800000 in
theorem words_any (w : World) (s : Sl) (rs : List ObR) (h : HIn w s rs) (hn : rs.length ≤ 5000) :
    Calls Try.prog 47 #[s.v] w fun e w' => e = .returned (.int .i64 (wordsH (rs.map ObR.o) : Nat)) ∧ Below w.heap.size w w' := by
  obtain ⟨a, n, c⟩ := s
  have hln := h.ls.1
  simp only at hln
  have HI := hide h
  have HW := hide (words_few h hn)
  have HZ : Hid (wordsH ((rs.map ObR.o).take 0) = 0) := hide rfl
  have HE : Hid (wordsH ((rs.map ObR.o).take n) = wordsH (rs.map ObR.o)) := hide (by rw [List.take_of_length_le]; rw [List.length_map]; omega)
  clear h
  unfold Sl.v at *
  simp only
  go_enter Try.func47, Try.ntmps47
  go_wp2
  go_loopw [3, 8] (fun m i wr => ∃ k : Nat, k ≤ n ∧ m = .int .i64 (wordsH ((rs.map ObR.o).take k) : Nat) ∧ i = .int .i64 k ∧ Below w.heap.size w wr) (fun m i _ => n - (intOf i).toNat)
  case atStart => exact ⟨0, by omega, by rw [unhide HZ]; rfl, rfl, Below.refl _ _⟩
  case round =>
    obtain ⟨k, hk, rfl, rfl, hR⟩ := hrel
    by_cases hlt : k < n
    · have hlt1 : (k : Int) < (n : Int) := by omega
      have hk0 : (0 : Int) ≤ (k : Int) := by omega
      obtain ⟨x, hx⟩ : ∃ x, rs[k]? = some x := ⟨_, List.getElem?_eq_getElem (by omega)⟩
      obtain ⟨b, o, ea, q⟩ := memb_row (unhide HI) hx
      simp only at ea
      subst ea
      have q1 := q hR
      have hwl := ((unhide HI).each _ (List.mem_of_getElem? hx)).ls.1
      have d0 := q1.zero
      have d1 := q1 1 _ rfl
      have hs := wordsH_succ (map_get (f := ObR.o) hx)
      have hw1 := unhide HW (k + 1)
      obtain ⟨ty, ⟨sa, sn, sc⟩, ws⟩ := x
      simp only [ObR.o, Sl.v] at hs d0 d1 hwl
      have HR := hide hR
      have HX := hide hx
      generalize hS : wordsH ((rs.map ObR.o).take k) = S at *
      have hwr : IntKind.i64.wrap ((S : Int) + (sn : Int)) = (S : Int) + sn := by rw [IntKind.wrap_i64]; omega
      have HS := hide (show wordsH ((rs.map ObR.o).take (k + 1)) = S + sn by rw [hs, hwl])
      clear q q1 hx hR hs hw1 hwl hS
      generalize (⟨ty.toArray⟩ : ByteArray) = st at *
      go_wp2
      go_roundw
      case rel => exact ⟨k + 1, by omega, by rw [unhide HS]; simp, by go_num, (unhide HR).trans (((Below.refl _ _).alloc (Nat.le_refl _) _).mono (unhide HR).size)⟩
      case measure => simp [intOf]; omega
    · obtain rfl : k = n := by omega
      have HR := hide hR
      clear hR
      go_wp2
      go_ret
      exact ⟨by rw [← unhide HE]; rfl, unhide HR⟩
theorem all_first (f : Ob → Bool) (l : List Ob) : (l.all fun o => !f o) = !decide (firstH f l < l.length) := by
  unfold firstH
  rw [Bool.eq_iff_iff]
  simp only [List.all_eq_true, Bool.not_eq_true', decide_eq_false_iff_not, List.findIdx_lt_length]
  constructor
  · rintro h ⟨x, hx, e⟩
    have := h x hx
    rw [e] at this
    cases this
  · intro h x hx
    cases e : f x with
    | false => rfl
    | true => exact absurd ⟨x, hx, e⟩ h
def checkE (l : List Ob) : Int := if checkH l = true then 0 else 150
set_option maxHeartbeats 1600000 in
theorem check_any (w : World) (s : Sl) (rs : List ObR) (h : HIn w s rs) :
    Calls Try.prog 42 #[s.v] w fun e w' => e = .returned (.int .i64 (checkE (rs.map ObR.o))) ∧ Below w.heap.size w w' := by
  obtain ⟨a, n, c⟩ := s
  have hln := h.ls.1
  have hsm := h.small
  simp only at hln hsm
  have hC : checkH (rs.map ObR.o) = (decide (n ≤ 4096) && decide (wordsH (rs.map ObR.o) ≤ 65536) && !endsH (rs.map ObR.o) && !decide (firstH freeW (rs.map ObR.o) < n)) := by
    unfold checkH
    rw [all_first, List.length_map, hln]
  have HW := hide (fun (W : World) (f : Below w.heap.size w W) (hn : rs.length ≤ 5000) => words_any W ⟨a, n, c⟩ rs (h.below f) hn)
  have HE := hide (fun (W : World) (f : Below w.heap.size w W) => endsFree_any W ⟨a, n, c⟩ rs (h.below f))
  have HF := hide (fun (W : World) (f : Below w.heap.size w W) => firstW_any W ⟨a, n, c⟩ rs (h.below f))
  have hV : checkE (rs.map ObR.o) = if checkH (rs.map ObR.o) = true then 0 else 150 := rfl
  rw [hC] at hV
  clear hC
  generalize checkE (rs.map ObR.o) = V at *
  generalize wordsH (rs.map ObR.o) = S at *
  generalize endsH (rs.map ObR.o) = E at *
  generalize firstH freeW (rs.map ObR.o) = F at *
  have HC := hide hV
  clear h hV
  unfold Sl.v at *
  simp only at HW HE HF ⊢
  by_cases h1 : n ≤ 4096
  · have g1 : ¬ (4096 : Int) < (n : Int) := by omega
    have HW1 := hide (unhide HW w (Below.refl _ _) (by omega))
    go_enter Try.func42, Try.ntmps42
    go_wp2_with fail
    refine (unhide HW1).mono ?_
    rintro e w1 ⟨rfl, f1⟩
    have F1 := hide f1
    clear f1
    by_cases h2 : S ≤ 65536
    · have g2 : ¬ (65536 : Int) < (S : Int) := by omega
      go_wp2_with fail
      refine (unhide HE _ (unhide F1)).mono ?_
      rintro e w2 ⟨rfl, f2⟩
      have F2 := hide ((unhide F1).trans (f2.mono (unhide F1).size))
      clear f2
      cases E with
      | true =>
        go_wp2
        go_ret
        have := unhide HC
        exact ⟨by rw [this]; simp, unhide F2⟩
      | false =>
        go_wp2_with fail
        refine (unhide HF _ (unhide F2)).mono ?_
        rintro e w3 ⟨rfl, f3⟩
        have F3 := hide ((unhide F2).trans (f3.mono (unhide F2).size))
        clear f3
        by_cases h3 : F < n
        · have g3 : (F : Int) < (n : Int) := by omega
          go_wp2
          go_ret
          have := unhide HC
          exact ⟨by rw [this]; simp [h3], unhide F3⟩
        · have g3 : ¬ (F : Int) < (n : Int) := by omega
          go_wp2
          go_ret
          have := unhide HC
          exact ⟨by rw [this]; simp [h1, h2, h3], unhide F3⟩
    · have g2 : (65536 : Int) < (S : Int) := by omega
      go_wp2
      go_ret
      have := unhide HC
      exact ⟨by rw [this]; simp [h2], unhide F1⟩
  · have g1 : (4096 : Int) < (n : Int) := by omega
    go_enter Try.func42, Try.ntmps42
    go_wp2
    go_ret
    have := unhide HC
    exact ⟨by rw [this]; simp [h1], Below.refl _ _⟩
end Go.Proofs.Ytnnanlniffjnkaa

/- Layer 15, the landed code: find, Get, Word. -/
namespace Go.Proofs.Ytnnanlniffjnkaa
open Go.RowKit
set_option linter.unusedVariables false
set_option maxRecDepth 100000

theorem checkE_yes {l : List Ob} (h : checkH l = true) : checkE l = 0 := by simp [checkE, h]
theorem checkE_no {l : List Ob} (h : ¬ checkH l = true) : checkE l = 150 := by simp [checkE, h]
theorem check_len {l : List Ob} (h : checkH l = true) : l.length ≤ 4096 ∧ wordsH l ≤ 65536 := by
  simp only [checkH, Bool.and_eq_true, decide_eq_true_eq] at h
  exact h.1.1
/-- What find answers. -/
def findPost (w : World) (rs : List ObR) (n : Int) (e : Ending) (w' : World) : Prop :=
  Below w.heap.size w w' ∧ ((getH (rs.map ObR.o) n = none ∧ e = .returned (.tuple #[.agg #[.string ⟨#[]⟩, .slice none 0 0], .int .i64 150])) ∨ ∃ r, getH (rs.map ObR.o) n = some r.o ∧ 1 ≤ n ∧ n ≤ (rs.length : Int) ∧ rs[(n - 1).toNat]? = some r ∧ checkH (rs.map ObR.o) = true ∧ e = .returned (.tuple #[.agg #[.string ⟨r.ty.toArray⟩, r.s.v], .int .i64 0]))
theorem getH_bad {l : List Ob} {n : Int} (h : ¬ checkH l = true) : getH l n = none := by
  unfold getH
  rw [if_neg (fun e => h e.1)]
theorem getH_out {l : List Ob} {n : Int} (h : ¬ (1 ≤ n ∧ n ≤ (l.length : Int))) : getH l n = none := by
  unfold getH
  rw [if_neg (fun e => h e.2)]
theorem getH_at {rs : List ObR} {n : Int} {r : ObR} (hc : checkH (rs.map ObR.o) = true) (h : 1 ≤ n ∧ n ≤ (rs.length : Int)) (hr : rs[(n - 1).toNat]? = some r) : getH (rs.map ObR.o) n = if r.ty.isEmpty = true then none else some r.o := by
  unfold getH
  rw [if_pos ⟨hc, by simpa using h⟩, map_get hr]
  rfl
end Go.Proofs.Ytnnanlniffjnkaa

/- Layer 15, the landed code: Get, Word. -/
namespace Go.Proofs.Ytnnanlniffjnkaa
open Go.RowKit
set_option linter.unusedVariables false
set_option maxRecDepth 100000

/-- What Get answers; what Word answers. -/
def getPost (w : World) (l : List Ob) (n : Int) (e : Ending) (w' : World) : Prop :=
  Below w.heap.size w w' ∧ ((getH l n = none ∧ e = .returned (.tuple #[.agg #[.string ⟨#[]⟩, .slice none 0 0], .int .i64 150])) ∨ ∃ o s, getH l n = some o ∧ WsIn w' s o.ws ∧ e = .returned (.tuple #[.agg #[.string ⟨o.ty.toArray⟩, s.v], .int .i64 0]))
def wordPost (w : World) (l : List Ob) (n k : Int) (e : Ending) (w' : World) : Prop :=
  Below w.heap.size w w' ∧ ((wordH l n k = none ∧ e = .returned (.tuple #[.agg #[.int .i64 0, .int .i64 0], .int .i64 150])) ∨ ∃ v, wordH l n k = some v ∧ e = .returned (.tuple #[.agg #[.int .i64 v.kind, .int .i64 v.n], .int .i64 0]))
theorem wordH_none {l : List Ob} {n k : Int} (h : getH l n = none) : wordH l n k = none := by
  unfold wordH
  rw [h]
  rfl
theorem wordH_some {l : List Ob} {n k : Int} {o : Ob} (h : getH l n = some o) : wordH l n k = if 0 ≤ k then o.ws[k.toNat]? else none := by
  unfold wordH
  rw [h]
  rfl
end Go.Proofs.Ytnnanlniffjnkaa
