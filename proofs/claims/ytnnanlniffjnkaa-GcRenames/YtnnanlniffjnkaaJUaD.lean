/- Layer 16, the landed gc: the iterator over the reached objects. -/
import Derived.Test.YtnnanlniffjnkaaJUaC
import Derived.Test.YtnnanlniffjnkaaJX6
import Derived.Shelf.Abstract
import Derived.Shelf.RegionOpen
import Derived.WalkKit
import Derived.OwnWalkIn
import Derived.TacticsInMore
import Derived.LoopNIn
import Derived.LoopIn
import Derived.Maps.AppendAt

namespace Go.Proofs.Ytnnanlniffjnkaa
open Go.RowKit Go.Maps Go.Shelf
set_option linter.unusedVariables false
set_option maxRecDepth 100000
attribute [local go_sem] Oper.semAt_some

/-- The walk between two rounds. -/
def Wq (w0 : World) (B p m : Nat) (s : Sl) (l : List Ob) (q : List Nat) (W : World) : Prop := InQ l q ∧ Below w0.heap.size w0 W ∧ ∃ v N D, Wa B p m s v N D q W
def mEnc (x : Nat × ObR) : Array Value := #[.int .i64 (x.1 : Int), .agg #[.string ⟨x.2.ty.toArray⟩, x.2.s.v]]
/-- What the iterator tells of what it hands out. -/
def EQ (w0 : World) (B p m : Nat) (s : Sl) (rs : List ObR) (pre : List (Nat × ObR)) (x : Nat × ObR) (W : World) : Prop := ∃ q, Wq w0 B p m s (rs.map ObR.o) q W ∧ q[pre.length]? = some x.1 ∧ rs[x.1 - 1]? = some x.2
/-- .. where it ends. -/
def SQ (w0 : World) (B p m : Nat) (s : Sl) (rs : List ObR) (xs : List (Nat × ObR)) (W : World) : Prop := ∃ q, Wq w0 B p m s (rs.map ObR.o) q W ∧ q.length ≤ xs.length
/-- What a round keeps. -/
def KQ (w0 : World) (B p m : Nat) (s : Sl) (rs : List ObR) (W W' : World) : Prop := ∀ q, Wq w0 B p m s (rs.map ObR.o) q W → ∃ q', Wq w0 B p m s (rs.map ObR.o) q' W' ∧ q.length ≤ q'.length
variable {B p m : Nat} {s : Sl}
theorem kq_trans {w0 : World} {rs : List ObR} {X Y Z : World} (h : KQ w0 B p m s rs X Y) (k : KQ w0 B p m s rs Y Z) : KQ w0 B p m s rs X Z := fun q hq => by
  obtain ⟨q1, h1, h2⟩ := h q hq
  obtain ⟨q2, h3, h4⟩ := k q1 h1
  exact ⟨q2, h3, Nat.le_trans h2 h4⟩
theorem wq_put {w0 w : World} {l : List Ob} {q : List Nat} (hm : m < w.heap.size) (h0 : w0.heap.size ≤ w.heap.size) : Put0 w.heap.size (Wq w0 B p m s l q) := fun A i o o' h hi hio ho => by
  obtain ⟨h1, h2, v, N, D, h3⟩ := h
  have hc : ∀ (k : Nat) X T, A.heap[k]? = some (.cells X T (0, 0)) → (A.putObj i o').heap[k]? = A.heap[k]? := fun k X T hk => World.putObj_heap_other (fun e => by
    rw [← e, hk] at hio
    injection hio with hk
    rw [← hk] at ho
    cases ho)
  refine ⟨h1, h2.trans ((Below.refl _ A).grown (grownBy_putObj' A i o') h2.size (fun k e => by cases e; omega)), v, N, D, h3.keep fun k hk => ?_⟩
  rcases hk with rfl | rfl | hk
  · exact hc _ _ _ h3.blk
  · exact World.putObj_heap_other (by omega)
  · obtain ⟨X, hX⟩ := own_type h3.row hk
    exact hc _ _ _ hX
theorem orwI_uniq {w : World} {v : Value} {x y : List Int} (h : Orw i15 3 1 w B v x) (k : Orw i15 3 1 w B v y) : x = y := by
  obtain ⟨a, c, e1, _⟩ := h.form
  obtain ⟨a', c', e2, _⟩ := k.form
  rw [e1] at e2
  injection e2 with ea el ec
  subst ea ec
  rw [e1] at h k
  have hx := Orw.ls rkI15 h
  have hy := Orw.ls rkI15 k
  by_cases h0 : x.length = 0
  · have h1 : y.length = 0 := by omega
    rw [List.eq_nil_of_length_eq_zero h0, List.eq_nil_of_length_eq_zero h1]
  · obtain ⟨b, o, ea, qx⟩ := Ls.row hx (w' := w) h0
    obtain ⟨b', o', ea', qy⟩ := Ls.row hy (w' := w) h0
    rw [ea] at ea'
    injection ea' with ea'
    injection ea' with eb eo
    subst eb eo
    apply List.ext_getElem? 
    intro i
    by_cases hi : i < x.length
    · obtain ⟨u, hu⟩ : ∃ u, x[i]? = some u := ⟨_, List.getElem?_eq_getElem hi⟩
      obtain ⟨z, hz⟩ : ∃ z, y[i]? = some z := ⟨_, List.getElem?_eq_getElem (by omega)⟩
      have h1 := (qx (Below.refl _ _) i u hu).zero
      have h2 := (qy (Below.refl _ _) i z hz).zero
      rw [h1] at h2
      injection h2 with h2
      injection h2 with _ h2
      rw [hu, hz, h2]
    · rw [List.getElem?_eq_none (by omega), List.getElem?_eq_none (by omega)]
theorem qi_inj {x y : List Nat} (h : qi x = qi y) : x = y := by
  apply List.ext_getElem?
  intro i
  have := congrArg (fun l => l[i]?) h
  simp only [qi, List.getElem?_map] at this
  cases hx : x[i]? <;> cases hy : y[i]? <;> rw [hx, hy] at this <;> simp at this ⊢
  omega
theorem wq_uniq {w0 w0' w : World} {l : List Ob} {q q' : List Nat} (h : Wq w0 B p m s l q w) (h' : Wq w0' B p m s l q' w) : q = q' := by
  obtain ⟨_, _, v, N, D, h1⟩ := h
  obtain ⟨_, _, v', N', D', h2⟩ := h'
  have e : v = v' := by
    have := h1.c1
    rw [h2.c1] at this
    injection this with this
    exact this.symm
  subst e
  exact qi_inj (orwI_uniq h1.row h2.row)
theorem queue_at {w : World} {v : Value} {N : Nat} {D : DataW Unit} {q : List Nat} (h : Wa B p m s v N D q w) {k n : Nat} (hk : q[k]? = some n) : ∃ b c, v = .slice (some ⟨b, 0, none⟩) q.length c ∧ ∀ W, Below w.heap.size w W → W.cell? ⟨b, k, none⟩ = some (.int .i64 (n : Int)) := by
  obtain ⟨a, c, e1, _⟩ := h.row.form
  have hlt := (List.getElem?_eq_some_iff.1 hk).1
  have hr := h.row
  rw [e1] at hr
  obtain ⟨g, c', e2, _⟩ := hr.blkR rkI15.len (by rw [qi_len]; omega)
  subst e2
  rw [qi_len] at e1 hr
  obtain ⟨b, o, ea, qx⟩ := Ls.row (Orw.ls rkI15 hr) (w' := w) (by omega)
  injection ea with ea
  injection ea with eb eo
  subst eb eo
  refine ⟨g, c, e1, fun W f => ?_⟩
  have hq : (qi q)[k]? = some (n : Int) := by simp [qi, hk]
  have := (qx f k _ hq).zero
  simpa using this
set_option maxHeartbeats 1000000 in
theorem members_in (N lp : Nat) (hN : 1 ≤ N) (w0 W : World) (rs : List ObR) (h : HIn w0 s rs) (hrl : rs.length ≤ 100000) (J Jx : List (Nat × ObR) → World → Prop)
    (hY : ∀ pre x W1, J pre W1 → EQ w0 B p m s rs pre x W1 → YieldAt Fence.wide (N - 1) Try.prog lp (mEnc x) W1 fun e W' => (e = .returned (.bool true) ∧ J (pre ++ [x]) W' ∧ KQ w0 B p m s rs W1 W') ∨ (e = .returned (.bool false) ∧ Jx (pre ++ [x]) W'))
    (q0 : List Nat) (hq : Wq w0 B p m s (rs.map ObR.o) q0 W) (h0 : J [] W) :
    CallsIn Fence.wide N Try.prog 31 #[.pointer (some ⟨p, 0, none⟩), .func (.yield lp) #[] #[]] W fun e W' => (∃ v, e = .returned v) ∧ ((∃ xs, SQ w0 B p m s rs xs W' ∧ J xs W') ∨ (∃ pre, True ∧ Jx pre W')) := by
  refine callsIn_of_wp Try.func31 rfl trivial ?_ rfl
  simp only [Try.ntmps31, List.size_toArray, List.length_cons, List.length_nil, Nat.reduceAdd, Nat.reduceSub, Array.replicate_succ, Array.replicate_zero, List.push_toArray, List.append_toArray, List.nil_append, List.cons_append]
  obtain ⟨sa, sn, sc⟩ := s
  have hln : rs.length = sn := h.ls.1
  have HI := hide h
  have HY := hide hY
  have HQ := hide hq
  have HJ := hide h0
  have HM : Hid ((rs.map ObR.o).length ≤ 100000) := by rw [List.length_map]; exact hrl
  clear h hY hq h0
  gi_wp2
  gi_loopw [4] (fun i wr => ∃ (pre : List (Nat × ObR)) (q : List Nat), i = .int .i64 (pre.length : Int) ∧ pre.length ≤ q.length ∧ Wq w0 B p m ⟨sa, sn, sc⟩ (rs.map ObR.o) q wr ∧ J pre wr) (fun i _ => (rs.map ObR.o).length - (intOf i).toNat)
  case atStart => exact ⟨[], q0, rfl, by simp, unhide HQ, unhide HJ⟩
  case round =>
    obtain ⟨pre, q, rfl, hpq, hW, hJ⟩ := hrel
    obtain ⟨hin, hbel, v, N5, D, hwa⟩ := hW
    have hqm := hin.le
    have hc1 := hwa.c1
    have hc0 := hwa.c0
    obtain ⟨va, vc, hvv, _⟩ := hwa.row.form
    rw [qi_len] at hvv
    by_cases hlt : pre.length < q.length
    · obtain ⟨n, hn⟩ : ∃ n, q[pre.length]? = some n := ⟨_, List.getElem?_eq_getElem hlt⟩
      have hlv := liveN_le (hin.2 n (List.mem_of_getElem? hn))
      rw [List.length_map] at hlv
      obtain ⟨j, rfl⟩ : ∃ j, n = j + 1 := ⟨n - 1, by omega⟩
      obtain ⟨r, hr⟩ : ∃ r, rs[j]? = some r := ⟨_, List.getElem?_eq_getElem (by omega)⟩
      obtain ⟨b, o, ea, qq⟩ := memb_row (unhide HI) hr
      simp only at ea
      subst ea
      obtain ⟨g, gc, e2, hg⟩ := queue_at hwa hn
      rw [hvv] at e2
      injection e2 with e2 _ e3
      subst e2 e3 hvv
      have cg := hg wr (Below.refl _ _)
      have d0 := (qq hbel).zero
      have d1 : wr.cell? ⟨b, o + j * 2 + 1, none⟩ = some r.s.v := (qq hbel) 1 _ rfl
      have hEQ : Hid (EQ w0 B p m ⟨some ⟨b, o, none⟩, sn, sc⟩ rs pre (j + 1, r) wr) := ⟨q, ⟨hin, hbel, _, _, _, hwa⟩, hn, by simpa using hr⟩
      have HKQ : Hid (∀ W', KQ w0 B p m ⟨some ⟨b, o, none⟩, sn, sc⟩ rs wr W' → ∃ q', Wq w0 B p m ⟨some ⟨b, o, none⟩, sn, sc⟩ (rs.map ObR.o) q' W' ∧ q.length ≤ q'.length) := fun W' k => k q ⟨hin, hbel, _, _, _, hwa⟩
      have HJ1 := hide hJ
      obtain ⟨kp, hkp⟩ : ∃ kp, kp = pre.length := ⟨_, rfl⟩
      have HKP := hide hkp
      rw [← hkp] at hlt cg ⊢
      have hqmx := unhide HM
      have hlt1 : (kp : Int) < (q.length : Int) := by omega
      have hj3 : (j : Int) < (sn : Int) := by omega
      have hj2 : (0 : Int) ≤ (j : Int) := by omega
      have hw1 : IntKind.i64.wrap (j : Int) = (j : Int) := by rw [IntKind.wrap_i64]; omega
      rw [show (((j + 1 : Nat)) : Int) = (j : Int) + 1 by omega] at cg
      have HLM : Hid (kp < (rs.map ObR.o).length) := by unfold Hid; omega
      simp only [Sl.v] at hc0
      clear hkp hin hbel hwa hn hg qq hlv hr hJ hpq
      obtain ⟨fn, tmps, assign, body, hy, hRR⟩ := unhide HY pre (j + 1, r) _ (unhide HJ1) (unhide hEQ)
      have HRR := hide hRR
      simp only [mEnc] at hy
      rw [show (((j + 1 : Nat)) : Int) = (j : Int) + 1 by omega] at hy

      generalize r.s.v = rsv at *
      generalize (⟨r.ty.toArray⟩ : ByteArray) = st at *
      clear hRR
      gi_wp2
      refine (unhide HRR).mono ?_
      rintro e W3 (⟨rfl, hJ3, hk3⟩ | ⟨rfl, hJx3⟩)
      · have HN : Hid (∃ q', Wq w0 B p m ⟨some ⟨b, o, none⟩, sn, sc⟩ (rs.map ObR.o) q' W3 ∧ q.length ≤ q'.length) := unhide HKQ _ hk3
        have HJ6 := hide hJ3
        clear hJ3 hk3 HRR hy
        gi_wp2
        go_roundw
        case rel =>
          obtain ⟨q', h1, h2⟩ := unhide HN
          exact ⟨pre ++ [(j + 1, r)], q', by rw [List.length_append, ← unhide HKP]; go_num, by rw [List.length_append, ← unhide HKP]; simp; omega, h1, unhide HJ6⟩
        case measure =>
          have := unhide HLM
          simp only [intOf]
          simp
          simp at this
          omega
      · have HJX := hide hJx3
        clear hJx3 HRR hy
        gi_wp2
        refine bodyPost_ret (results_none rfl _ _ _) rfl ?_
        exact ⟨⟨_, rfl⟩, .inr ⟨_, trivial, unhide HJX⟩⟩
    · have hqe : q.length = pre.length := by omega
      have HR : Hid (∃ xs, SQ w0 B p m ⟨sa, sn, sc⟩ rs xs wr ∧ J xs wr) := ⟨pre, ⟨q, ⟨hin, hbel, _, _, _, hwa⟩, by omega⟩, hJ⟩
      have hc3 : ¬ (pre.length : Int) < (q.length : Int) := by omega
      subst hvv
      simp only [Sl.v] at hc0
      clear hin hbel hwa hJ
      generalize pre.length = kp at *
      gi_wp2
      go_end0
      exact ⟨⟨_, rfl⟩, .inl (unhide HR)⟩
end Go.Proofs.Ytnnanlniffjnkaa
