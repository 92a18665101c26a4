/- Layer 16, the landed gc: a walk in memory; to what a value leads. -/
import Derived.Test.YtnnanlniffjnkaaJUaA
import Derived.Test.YtnnanlniffjnkaaJY2
import Derived.Maps.OwnSet

namespace Go.Proofs.Ytnnanlniffjnkaa
open Go.RowKit Go.Maps
set_option linter.unusedVariables false
set_option maxRecDepth 100000

theorem klaw16 : Keyed Try.prog 3 := int_keyed Try.underlying3
theorem kzero16 (w : World) : (zeroValue 3).run Try.prog w = .ok (.int .i64 0) w := by kernel_rfl
theorem wf16 {n : Int} (h : fitI n) : (Lit.int .i64 n).wf = true := by
  have h1 := wrap64_wf n
  have h2 : wrap64 n = n := by unfold wrap64; unfold fitI at h; omega
  rw [h2] at h1
  exact h1
theorem kkey16 {n : Int} (h : fitI n) : keyOf Try.prog 3 (.int .i64 n) = some (.int .i64 n) := keyOf_int_mk Try.underlying3 (wf16 h)
/-- The new number of any number. -/
def posZ (q : List Nat) (n : Int) : Int := if 0 ≤ n then (posQ q n.toNat : Int) else 0
/-- What the map of new numbers tells. -/
def PX (q : List Nat) (D : DataW Unit) : Prop := ∀ n : Int, D.atKey (.int .i64 n) (.lit (.int .i64 0)) = .lit (.int .i64 (posZ q n))
theorem posQ_nil (n : Nat) : posQ [] n = 0 := rfl
theorem posQ_new {q : List Nat} {n : Nat} (h : n ∉ q) : posQ (q ++ [n]) n = q.length + 1 := by
  unfold posQ
  rw [if_pos (by simp), List.idxOf_append, if_neg h]
  simp
theorem posQ_old {q : List Nat} {n m : Nat} (h : m ≠ n) : posQ (q ++ [n]) m = posQ q m := by
  unfold posQ
  by_cases hm : m ∈ q
  · rw [if_pos (by simp [hm]), if_pos hm, List.idxOf_append, if_pos hm]
  · rw [if_neg (by simp [hm, h]), if_neg hm]
theorem posQ_zero {q : List Nat} {n : Nat} : posQ q n = 0 ↔ n ∉ q := by
  unfold posQ
  split
  · simp_all
  · simp_all
theorem posQ_le (q : List Nat) (n : Nat) : posQ q n ≤ q.length := by
  unfold posQ
  split
  next h => have := List.idxOf_lt_length_of_mem h; omega
  next => omega
theorem posZ_fit {q : List Nat} (hq : q.length ≤ 1000000) (n : Int) : fitI (posZ q n) := by
  unfold posZ fitI
  have := posQ_le q n.toNat
  split <;> omega
theorem px_nil : PX [] (.map []) := fun n => by
  have e : posZ [] n = 0 := by unfold posZ; rw [posQ_nil]; split <;> rfl
  rw [e]
  rfl
theorem PX.put {q : List Nat} {D : DataW Unit} (h : PX q D) (hm : IsMap D) {n : Nat} (hn : n ∉ q) : PX (q ++ [n]) (D.put (.int .i64 (n : Int)) (.lit (.int .i64 ((q.length : Int) + 1)))) := fun m => by
  by_cases e : m = (n : Int)
  · subst e
    rw [Maps.atKey_put_same hm (k := .int .i64 (n : Int)) True.intro]
    unfold posZ
    rw [if_pos (by omega), Int.toNat_natCast, posQ_new hn]
    rfl
  · rw [Maps.atKey_put_other (fun e2 => e (by injection e2)), h m]
    unfold posZ
    split
    · rw [posQ_old (by omega)]
    · rfl
/-- A queue as the numbers that lie in memory. -/
def qi (q : List Nat) : List Int := q.map fun (n : Nat) => (n : Int)
theorem qi_len (q : List Nat) : (qi q).length = q.length := by simp [qi]
theorem qi_append (q : List Nat) (n : Nat) : qi (q ++ [n]) = qi q ++ [(n : Int)] := by simp [qi]
/-- A walk: its block p, its map m; s: the heap that it goes through; v: the queue's slice. -/
structure Wa (B p m : Nat) (s : Sl) (v : Value) (N : Nat) (D : DataW Unit) (q : List Nat) (w : World) : Prop where
  hp : B ≤ p
  hm : B ≤ m
  blk : w.heap[p]? = some (.cells #[s.v, v, .map (some m)] 59 (0, 0))
  row : Orw i15 3 1 w B v (qi q)
  map : w.ownsMap Try.prog 3 (plainElem (H := Unit) Try.prog 3) m N D
  room : N ≤ q.length
  px : PX q D
variable {B p m N : Nat} {s : Sl} {v : Value} {D : DataW Unit} {q : List Nat} {w w' : World}
theorem Wa.c0 (h : Wa B p m s v N D q w) : w.cell? ⟨p, 0, none⟩ = some s.v := bx_cell h.blk 0 _ rfl
theorem Wa.c1 (h : Wa B p m s v N D q w) : w.cell? ⟨p, 1, none⟩ = some v := bx_cell h.blk 1 _ rfl
theorem Wa.c2 (h : Wa B p m s v N D q w) : w.cell? ⟨p, 2, none⟩ = some (.map (some m)) := bx_cell h.blk 2 _ rfl
theorem Wa.fz (h : Wa B p m s v N D q w) (j : Nat) : w.frozen? ⟨p, j, none⟩ = false := frozen_of_row _ _ _ _ _ h.blk
theorem Wa.plt (h : Wa B p m s v N D q w) : p < w.heap.size := lt_of_heap h.blk
theorem Wa.vp (h : Wa B p m s v N D q w) : v.ownBlock ≠ some p := fun e => by
  obtain ⟨X, hX⟩ := own_type h.row e
  rw [h.blk] at hX
  injection hX with hX
  injection hX with _ hX
  cases hX
theorem map_blk {w : World} {m N : Nat} {D : DataW Unit} (h : w.ownsMap Try.prog 3 (plainElem (H := Unit) Try.prog 3) m N D) : ∃ es c, w.heap[m]? = some (.map es c) := by
  obtain ⟨es, clock, h1, _⟩ := h
  exact ⟨es, clock, h1⟩
theorem Wa.vm (h : Wa B p m s v N D q w) : v.ownBlock ≠ some m := fun e => by
  obtain ⟨X, hX⟩ := own_type h.row e
  obtain ⟨es, c, h2⟩ := map_blk h.map
  rw [h2] at hX
  cases hX
theorem Wa.pm (h : Wa B p m s v N D q w) : p ≠ m := fun e => by
  obtain ⟨es, c, h2⟩ := map_blk h.map
  have := h.blk
  rw [e, h2] at this
  cases this
theorem map_keep {w w' : World} {m N : Nat} {D : DataW Unit} (h : w.ownsMap Try.prog 3 (plainElem (H := Unit) Try.prog 3) m N D) (e : w'.heap[m]? = w.heap[m]?) : w'.ownsMap Try.prog 3 (plainElem (H := Unit) Try.prog 3) m N D := by
  obtain ⟨es, clock, h1, h2⟩ := h
  exact ⟨es, clock, e.trans h1, h2⟩
theorem Wa.keep (h : Wa B p m s v N D q w) (hk : ∀ k, (k = p ∨ k = m ∨ v.ownBlock = some k) → w'.heap[k]? = w.heap[k]?) : Wa B p m s v N D q w' :=
  ⟨h.hp, h.hm, (hk p (.inl rfl)).trans h.blk, h.row.below (fun k e => hk k (.inr (.inr e))), map_keep h.map (hk m (.inr (.inl rfl))), h.room, h.px⟩
theorem Wa.below (h : Wa B p m s v N D q w) (f : Below w.heap.size w w') : Wa B p m s v N D q w' :=
  h.keep (fun k hk => by
    rcases hk with rfl | rfl | hk
    · exact f.block _ h.plt
    · exact f.block _ h.map.lt
    · exact f.block _ (h.row.lt k hk).2)
theorem Wa.look (h : Wa B p m s v N D q w) {n : Int} (hn : fitI n) : (Instr.lookup 57 (.map (some m)) (.int .i64 n) false).run Try.prog w = .ok (.int .i64 (posZ q n)) w := by
  obtain ⟨c, h1, h2, _⟩ := h.map.lookup_int klaw16 Try.underlying57 Try.underlying3 (kzero16 w) (kkey16 hn)
  rw [h.px n] at h2
  injection h2 with h2
  injection h2 with _ h2
  rw [h1, h2]

theorem leadsB (l : List Ob) (x : Vl) : decide (leadsN l x ≠ 0) = (decide (x.kind = 4) && decide (0 < x.n) && decide (x.n ≤ (l.length : Int)) && ((l[(x.n - 1).toNat]?).map fun o => !freeO o).getD false) := by
  unfold leadsN
  by_cases hk : x.kind = 4
  · by_cases hn : 0 < x.n
    · have e : x.n.toNat - 1 = (x.n - 1).toNat := by omega
      by_cases hle : x.n ≤ (l.length : Int)
      · unfold liveN
        rw [e]
        have h1 : 1 ≤ x.n.toNat := by omega
        have h2 : x.n.toNat ≠ 0 := by omega
        have h3 : 1 ≤ x.n := by omega
        cases hb : ((l[(x.n - 1).toNat]?).map fun o => !freeO o).getD false <;> simp [hk, hn, hle, h1, h2, h3] <;> omega
      · have hl : liveN l x.n.toNat = false := by
          cases hb : liveN l x.n.toNat with
          | false => rfl
          | true => have := (liveN_le hb).2.1; omega
        simp [hk, hn, hle, hl]
    · have : ¬ 1 ≤ x.n := by omega
      simp [hn, this]
  · simp [hk]
set_option maxHeartbeats 800000 in
theorem leads_any (w0 w : World) (s : Sl) (rs : List ObR) (h : HIn w0 s rs) (f : Below w0.heap.size w0 w) (hw : Wa B p m s v N D q w) (x : Vl) :
    Calls Try.prog 51 #[.pointer (some ⟨p, 0, none⟩), .agg #[.int .i64 x.kind, .int .i64 x.n]] w fun e w' => e = .returned (.bool (decide (leadsN (rs.map ObR.o) x ≠ 0))) ∧ Below w.heap.size w w' := by
  rw [leadsB]
  obtain ⟨sa, sn, sc⟩ := s
  obtain ⟨xk, xn⟩ := x
  have hln : rs.length = sn := h.ls.1
  have hc0 := hw.c0
  have hplt := hw.plt
  simp only [Sl.v] at hc0
  have hlen : (rs.map ObR.o).length = sn := by rw [List.length_map]; omega
  have HW := hide hw
  have HI := hide h
  have HF := hide f
  clear hw h f
  have HBX : Hid (∀ W, Below (w.alloc (.cells #[.int .i64 xk, .int .i64 xn] 47)).heap.size (w.alloc (.cells #[.int .i64 xk, .int .i64 xn] 47)) W → W.cell? ⟨w.heap.size, 0, none⟩ = some (.int .i64 xk) ∧ W.cell? ⟨w.heap.size, 1, none⟩ = some (.int .i64 xn) ∧ W.cell? ⟨p, 0, none⟩ = some (.slice sa sn sc)) := fun W g => by
    obtain ⟨b0, b1⟩ := stands2 (t := 47) w (.int .i64 xk) (.int .i64 xn) W g
    exact ⟨b0, b1, (g.cell (by simp; omega)).trans ((((Below.refl _ w).alloc (Nat.le_refl _) (.cells #[.int .i64 xk, .int .i64 xn] 47)).cell hplt).trans hc0)⟩
  have HB : Hid (Below w.heap.size w (w.alloc (.cells #[.int .i64 xk, .int .i64 xn] 47))) := (Below.refl _ _).alloc (Nat.le_refl _) _
  rw [hlen]
  by_cases hk : xk = 4
  case neg =>
    have k1 : (xk == 4) = false := by simpa using hk
    have k2 : decide (xk = 4) = false := by simpa using hk
    go_enter Try.func51, Try.ntmps51
    go_wp2
    refine wp_region_seq (fun W => Below (w.alloc (.cells #[.int .i64 xk, .int .i64 xn] 47)).heap.size (w.alloc (.cells #[.int .i64 xk, .int .i64 xn] 47)) W) (by kernel_rfl) (by kernel_rfl) (Below.refl _ _).drew ?_
    repeat (first
      | (refine SeqDo.skips (by rfl) ?_; simp only [Act.put, List.setIfInBounds_toArray, List.set_cons_zero, List.set_cons_succ])
      | (refine SeqDo.yields (v := ?_) (by rfl) ?_ ?_; rotate_left; (focus ((intro W hSW; obtain ⟨c0, c1, c2⟩ := unhide HBX W hSW; go_simp; (try rw [k2])) <;> with_reducible rfl)); simp only [Act.put, List.setIfInBounds_toArray, List.set_cons_zero, List.set_cons_succ]))
    intro W hSW
    have HS := hide hSW
    clear hSW
    go_wp2
    go_ret
    refine ⟨by rw [k2]; simp, (unhide HB).trans ((unhide HS).mono (unhide HB).size)⟩
  subst hk
  by_cases hn : 0 < xn
  case neg =>
    have k2 : decide (0 < xn) = false := by simpa using hn
    go_enter Try.func51, Try.ntmps51
    go_wp2
    refine wp_region_seq (fun W => Below (w.alloc (.cells #[.int .i64 4, .int .i64 xn] 47)).heap.size (w.alloc (.cells #[.int .i64 4, .int .i64 xn] 47)) W) (by kernel_rfl) (by kernel_rfl) (Below.refl _ _).drew ?_
    repeat (first
      | (refine SeqDo.skips (by rfl) ?_; simp only [Act.put, List.setIfInBounds_toArray, List.set_cons_zero, List.set_cons_succ])
      | (refine SeqDo.yields (v := ?_) (by rfl) ?_ ?_; rotate_left; (focus ((intro W hSW; obtain ⟨c0, c1, c2⟩ := unhide HBX W hSW; go_simp; (try rw [k2])) <;> with_reducible rfl)); simp only [Act.put, List.setIfInBounds_toArray, List.set_cons_zero, List.set_cons_succ]))
    intro W hSW
    have HS := hide hSW
    clear hSW
    go_wp2
    go_ret
    refine ⟨by rw [k2]; simp, (unhide HB).trans ((unhide HS).mono (unhide HB).size)⟩
  have kp : decide (0 < xn) = true := by simpa using hn
  by_cases hle : xn ≤ (sn : Int)
  case neg =>
    have k2 : decide (xn ≤ (sn : Int)) = false := by simpa using hle
    go_enter Try.func51, Try.ntmps51
    go_wp2
    refine wp_region_seq (fun W => Below (w.alloc (.cells #[.int .i64 4, .int .i64 xn] 47)).heap.size (w.alloc (.cells #[.int .i64 4, .int .i64 xn] 47)) W) (by kernel_rfl) (by kernel_rfl) (Below.refl _ _).drew ?_
    repeat (first
      | (refine SeqDo.skips (by rfl) ?_; simp only [Act.put, List.setIfInBounds_toArray, List.set_cons_zero, List.set_cons_succ])
      | (refine SeqDo.yields (v := ?_) (by rfl) ?_ ?_; rotate_left; (focus ((intro W hSW; obtain ⟨c0, c1, c2⟩ := unhide HBX W hSW; go_simp; (try rw [kp]); (try rw [k2])) <;> with_reducible rfl)); simp only [Act.put, List.setIfInBounds_toArray, List.set_cons_zero, List.set_cons_succ]))
    intro W hSW
    have HS := hide hSW
    clear hSW
    go_wp2
    go_ret
    refine ⟨by rw [k2]; simp, (unhide HB).trans ((unhide HS).mono (unhide HB).size)⟩
  have kq : decide (xn ≤ (sn : Int)) = true := by simpa using hle
  obtain ⟨j, hj⟩ : ∃ j : Nat, xn = (j : Int) + 1 := ⟨(xn - 1).toNat, by omega⟩
  subst hj
  obtain ⟨r, hr⟩ : ∃ r, rs[j]? = some r := ⟨_, List.getElem?_eq_getElem (by omega)⟩
  obtain ⟨b, o, ea, qq⟩ := memb_row (unhide HI) hr
  simp only at ea
  subst ea
  have hj1 : ((j : Int) + 1 - 1).toNat = j := by omega
  have hob := map_get (f := ObR.o) hr
  have hfit := (unhide HI).small
  simp only at hfit
  have hw1 : IntKind.i64.wrap (j : Int) = (j : Int) := by rw [IntKind.wrap_i64]; omega
  have hj2 : (0 : Int) ≤ (j : Int) := by omega
  have hj3 : (j : Int) < (sn : Int) := by omega
  have hj4 : ((j : Int)).toNat = j := by omega
  rw [hj1, hob]
  have HR : Hid (∀ W, Below w0.heap.size w0 W → W.cell? ⟨b, o + j * 2, none⟩ = some (.string ⟨r.ty.toArray⟩)) := fun W g => (qq g).zero
  have HTN := ty_nil r.ty
  have HO : freeO r.o = r.ty.isEmpty := rfl
  generalize hst : (⟨r.ty.toArray⟩ : ByteArray) = st at *
  have hfb := (unhide HF)
  have HB0 : Hid (Below w0.heap.size w0 (w.alloc (.cells #[.int .i64 4, .int .i64 ((j : Int) + 1)] 47))) := (unhide HF).trans ((unhide HB).mono (unhide HF).size)
  have ki : st.toList.isEmpty = r.ty.isEmpty := HTN
  clear hfb qq hob HTN
  go_enter Try.func51, Try.ntmps51
  go_wp2
  refine wp_region_seq (fun W => Below (w.alloc (.cells #[.int .i64 4, .int .i64 ((j : Int) + 1)] 47)).heap.size (w.alloc (.cells #[.int .i64 4, .int .i64 ((j : Int) + 1)] 47)) W) (by kernel_rfl) (by kernel_rfl) (Below.refl _ _).drew ?_
  repeat (first
    | (refine SeqDo.skips (by rfl) ?_; simp only [Act.put, List.setIfInBounds_toArray, List.set_cons_zero, List.set_cons_succ])
    | (refine SeqDo.yields (v := ?_) (by rfl) ?_ ?_; rotate_left; (focus ((intro W hSW; obtain ⟨c0, c1, c2⟩ := unhide HBX W hSW; have c3 := unhide HR W ((unhide HB0).trans (hSW.mono (unhide HB0).size)); go_simp; (try rw [kp]); (try rw [kq]); (try rw [hw1])) <;> with_reducible rfl)); simp only [Act.put, List.setIfInBounds_toArray, List.set_cons_zero, List.set_cons_succ]))
  intro W hSW
  have HS := hide hSW
  clear hSW
  go_wp2
  go_ret
  refine ⟨by rw [kp, kq]; simp [HO], (unhide HB).trans ((unhide HS).mono (unhide HB).size)⟩
end Go.Proofs.Ytnnanlniffjnkaa
