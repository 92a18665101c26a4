/- Two lists of instructions, of numbers, held against one another by the laws: the same. -/
import Derived.Test.YtpmhcignenfhgaaDoorJV

namespace Go.Proofs.YtpmhcignenfhgaaDoor
open Go.RowKit
set_option linter.unusedVariables false
set_option maxRecDepth 100000

set_option maxHeartbeats 1600000 in
theorem SameInts_ic (w : World) (a b : Option Addr) (n c d : Nat) (x : List Int) (hA : Ls 1 ic w a n x) (hB : Ls 1 ic w b n x) (hs : n ≤ 9000000000000) :
    Calls Tryd.prog 21 #[.slice a n c, .slice b n d] w fun e w' => e = .returned (.bool true) ∧ Below w.heap.size w w' := by
  have hln := hA.1
  have HA := hide hA
  have HB := hide hB
  clear hA hB
  go_enter Tryd.func21, Tryd.ntmps21
  go_wp2
  go_loopw [5] (fun i wr => ∃ k : Nat, k ≤ n ∧ i = .int .i64 k ∧ Below w.heap.size w wr) (fun i _ => n - (intOf i).toNat)
  case atStart => exact ⟨0, by omega, rfl, Below.refl _ _⟩
  case round =>
    obtain ⟨k, hk, rfl, hR⟩ := hrel
    by_cases hlt : k < n
    · have hlt1 : (k : Int) < (n : Int) := by omega
      obtain ⟨b1, o1, h1a, h1⟩ := Ls.row (unhide HA) (w' := wr) (by omega)
      obtain ⟨b2, o2, h2a, h2⟩ := Ls.row (unhide HB) (w' := wr) (by omega)
      subst h1a h2a
      obtain ⟨r, hr⟩ : ∃ r, x[k]? = some r := ⟨_, List.getElem?_eq_getElem (by omega)⟩
      have c0 := (h1 hR k r hr).zero
      have d0 := (h2 hR k r hr).zero
      rw [Nat.mul_one] at c0 d0
      have HR := hide hR
      clear h1 h2 hr hR
      go_wp2
      go_quiet (fail)
      go_wp2
      go_roundw
      case rel => exact ⟨k + 1, by omega, by go_num, below_drewN (unhide HR) _⟩
      case measure => simp [intOf]; omega
    · obtain rfl : k = n := by omega
      have HR := hide hR
      clear hR
      go_wp2
      go_ret
      exact ⟨rfl, unhide HR⟩
set_option maxHeartbeats 4000000 in
theorem SameInstrs_same (w : World) (a b : Option Addr) (n c d : Nat) (rs qs : List InR) (hA : Ls 5 inc w a n rs) (hB : Ls 5 inc w b n qs) (he : rs.map InR.x = qs.map InR.x) (hr : ∀ r ∈ rs, Ls 2 cac w r.s.a r.s.n r.x.cs) (hq : ∀ r ∈ qs, Ls 2 cac w r.s.a r.s.n r.x.cs) (hs : n ≤ 1000000000000) (hs2 : ∀ r ∈ rs, r.s.n ≤ 10000000000000) :
    Calls Tryd.prog 12 #[.slice a n c, .slice b n d] w fun e w' => e = .returned (.bool true) ∧ Below w.heap.size w w' := by
  have hl1 := hA.1
  have hl2 := hB.1
  have HA := hide hA
  have HB := hide hB
  have HR0 := hide hr
  have HQ0 := hide hq
  have HE0 := hide he
  have HS2 := hide hs2
  clear hA hB hr hq he hs2
  go_enter Tryd.func12, Tryd.ntmps12
  go_wp2
  go_loopw [5] (fun i wr => ∃ k : Nat, k ≤ n ∧ i = .int .i64 k ∧ Below w.heap.size w wr) (fun i _ => n - (intOf i).toNat)
  case atStart => exact ⟨0, by omega, rfl, Below.refl _ _⟩
  case round =>
    obtain ⟨k, hk, rfl, hR⟩ := hrel
    by_cases hlt : k < n
    · have hlt1 : (k : Int) < (n : Int) := by omega
      obtain ⟨b1, o1, h1a, h1⟩ := Ls.row (unhide HA) (w' := wr) (by omega)
      obtain ⟨b2, o2, h2a, h2⟩ := Ls.row (unhide HB) (w' := wr) (by omega)
      subst h1a h2a
      obtain ⟨r, hr⟩ : ∃ r, rs[k]? = some r := ⟨_, List.getElem?_eq_getElem (by omega)⟩
      obtain ⟨q, hq⟩ : ∃ q, qs[k]? = some q := ⟨_, List.getElem?_eq_getElem (by omega)⟩
      have hrx := unhide HR0 r (List.mem_of_getElem? hr)
      have hqx := unhide HQ0 q (List.mem_of_getElem? hq)
      have hsn := unhide HS2 r (List.mem_of_getElem? hr)
      have hxy : r.x = q.x := by
        have h3 : (rs.map InR.x)[k]? = some r.x := by rw [List.getElem?_map, hr]; rfl
        have h4 : (qs.map InR.x)[k]? = some q.x := by rw [List.getElem?_map, hq]; rfl
        rw [unhide HE0, h4] at h3
        injection h3 with h3
        exact h3.symm
      have KE0 : ∀ W, Below w.heap.size w W → (W.cell? ⟨b1, o1 + k * 5, none⟩ = some (.int .i64 r.x.at_) ∧ W.cell? ⟨b1, o1 + k * 5 + 1, none⟩ = some (.int .i64 r.x.op) ∧ W.cell? ⟨b1, o1 + k * 5 + 2, none⟩ = some (.int .i64 r.x.a) ∧ W.cell? ⟨b1, o1 + k * 5 + 3, none⟩ = some (.int .i64 r.x.b) ∧ W.cell? ⟨b1, o1 + k * 5 + 4, none⟩ = some r.s.v) ∧ (W.cell? ⟨b2, o2 + k * 5, none⟩ = some (.int .i64 q.x.at_) ∧ W.cell? ⟨b2, o2 + k * 5 + 1, none⟩ = some (.int .i64 q.x.op) ∧ W.cell? ⟨b2, o2 + k * 5 + 2, none⟩ = some (.int .i64 q.x.a) ∧ W.cell? ⟨b2, o2 + k * 5 + 3, none⟩ = some (.int .i64 q.x.b) ∧ W.cell? ⟨b2, o2 + k * 5 + 4, none⟩ = some q.s.v) := fun W f => ⟨⟨(h1 f k r hr).zero, (h1 f k r hr) 1 _ rfl, (h1 f k r hr) 2 _ rfl, (h1 f k r hr) 3 _ rfl, (h1 f k r hr) 4 _ rfl⟩, ⟨(h2 f k q hq).zero, (h2 f k q hq) 1 _ rfl, (h2 f k q hq) 2 _ rfl, (h2 f k q hq) 3 _ rfl, (h2 f k q hq) 4 _ rfl⟩⟩
      obtain ⟨SS, hSS⟩ : ∃ SS : World → Prop, SS = fun W => Below w.heap.size w W := ⟨_, rfl⟩
      have KI : Hid (∀ W, Below w.heap.size w W → SS W) := fun W f => by rw [hSS]; exact f
      have KB : Hid (∀ W, SS W → Below w.heap.size w W) := fun W f => by rw [hSS] at f; exact f
      obtain ⟨⟨at1, op1, a1, c1, cs1⟩, ⟨sa, sn, sc⟩⟩ := r
      obtain ⟨⟨at2, op2, a2, c2, cs2⟩, ⟨ta, tn, tc⟩⟩ := q
      simp only at hrx hqx hxy hsn
      injection hxy with g1 g2 g3 g4 g5
      subst g1 g2 g3 g4 g5
      have hst : sn = tn := by have := hrx.1; have := hqx.1; omega
      subst hst
      unfold Sl.v at KE0
      simp only at KE0
      have KE := hide (fun W (h : SS W) => KE0 W (unhide KB W h))
      have hcl := hrx.1
      have HC1 := hide hrx
      have HC2 := hide hqx
      have HR := hide hR
      clear h1 h2 hr hq hR hrx hqx KE0 hSS
      go_wp2
      refine wp_region_seq SS (by kernel_rfl) (by kernel_rfl) (unhide KI _ (Below.drew (unhide HR))) ?_
      repeat (first
        | (refine SeqDo.skips (by rfl) ?_; simp only [Act.put, List.setIfInBounds_toArray, List.set_cons_zero, List.set_cons_succ])
        | (refine SeqDo.yields (v := ?_) (by rfl) ?_ ?_; rotate_left; (focus ((intro W hSW; obtain ⟨⟨p0, p1, p2, p3, p4⟩, ⟨q0, q1, q2, q3, q4⟩⟩ := unhide KE W hSW; go_simp) <;> with_reducible rfl)); simp only [Act.put, List.setIfInBounds_toArray, List.set_cons_zero, List.set_cons_succ]))
      intro W hSW
      obtain ⟨⟨p0, p1, p2, p3, p4⟩, ⟨q0, q1, q2, q3, q4⟩⟩ := unhide KE W hSW
      go_wp2
      go_loopw [6] (fun j V => ∃ m : Nat, m ≤ sn ∧ j = .int .i64 m ∧ SS V) (fun j _ => sn - (intOf j).toNat)
      case atStart => exact ⟨0, by omega, rfl, hSW⟩
      case round =>
        obtain ⟨m, hm, rfl, hV⟩ := hrel
        have HV := hide (unhide KB _ hV)
        clear p0 p1 p2 p3 p4 q0 q1 q2 q3 q4
        obtain ⟨⟨p0, p1, p2, p3, p4⟩, ⟨q0, q1, q2, q3, q4⟩⟩ := unhide KE wr hV
        by_cases hml : m < sn
        · have hml1 : (m : Int) < (sn : Int) := by omega
          obtain ⟨e1, f1, h3a, h3⟩ := Ls.row (unhide HC1) (w' := wr) (by omega)
          obtain ⟨e2, f2, h4a, h4⟩ := Ls.row (unhide HC2) (w' := wr) (by omega)
          subst h3a h4a
          obtain ⟨x, hx⟩ : ∃ x, cs1[m]? = some x := ⟨_, List.getElem?_eq_getElem (by omega)⟩
          have KC : Hid (∀ V, SS V → V.cell? ⟨e1, f1 + m * 2, none⟩ = some (.int .i64 x.key) ∧ V.cell? ⟨e1, f1 + m * 2 + 1, none⟩ = some (.int .i64 x.to_) ∧ V.cell? ⟨e2, f2 + m * 2, none⟩ = some (.int .i64 x.key) ∧ V.cell? ⟨e2, f2 + m * 2 + 1, none⟩ = some (.int .i64 x.to_)) := fun V hv => ⟨(h3 (unhide KB V hv) m x hx).zero, (h3 (unhide KB V hv) m x hx) 1 _ rfl, (h4 (unhide KB V hv) m x hx).zero, (h4 (unhide KB V hv) m x hx) 1 _ rfl⟩
          have JN : ∀ W, (binOp .neq 51 (.agg #[.int .i64 x.key, .int .i64 x.to_]) (.agg #[.int .i64 x.key, .int .i64 x.to_])).run Tryd.prog W = .ok (.bool false) W := fun W => by have := cas_cmpN W x x; rw [decide_eq_true rfl] at this; exact this
          clear h3 h4 hx
          go_wp2
          refine wp_region_seq SS (by kernel_rfl) (by kernel_rfl) (unhide KI _ (Below.drew (unhide HV))) ?_
          repeat (refine SeqDo.yields (v := ?_) (by rfl) ?_ ?_; rotate_left; (focus ((intro W hSW; obtain ⟨⟨p0, p1, p2, p3, p4⟩, ⟨q0, q1, q2, q3, q4⟩⟩ := unhide KE W hSW; obtain ⟨c0, c1, d0, d1⟩ := unhide KC W hSW; go_simp) <;> with_reducible rfl)); simp only [Act.put, List.setIfInBounds_toArray, List.set_cons_zero, List.set_cons_succ])
          intro V hSV
          go_wp2
          go_roundw
          case rel => exact ⟨m + 1, by omega, by go_num, hSV⟩
          case measure => simp [intOf]; omega
        · obtain rfl : m = sn := by omega
          go_wp2
          go_roundw
          case rel => exact ⟨k + 1, by omega, by go_num, unhide HV⟩
          case measure => simp [intOf]; omega
    · obtain rfl : k = n := by omega
      have HR := hide hR
      clear hR
      go_wp2
      go_ret
      exact ⟨rfl, unhide HR⟩
end Go.Proofs.YtpmhcignenfhgaaDoor
