/- Joined: CgE CgF CgG. -/
import Derived.Test.YtpmhcignenfhgaaDoorJU

/- The landed code: same. -/
namespace Go.Proofs.YtpmhcignenfhgaaDoor
open Go.RowKit
set_option linter.unusedVariables false
set_option maxRecDepth 100000

theorem Cas.eq_iff (x y : Cas) : x = y ↔ x.key = y.key ∧ x.to_ = y.to_ := by
  obtain ⟨a, b⟩ := x
  obtain ⟨c, d⟩ := y
  simp
theorem cas_cmp (w : World) (x y : Cas) :
    (binOp .eql 51 (.agg #[.int .i64 x.key, .int .i64 x.to_]) (.agg #[.int .i64 y.key, .int .i64 y.to_])).run Tryd.prog w = .ok (.bool (decide (x = y))) w := by
  rw [run_eql_struct]
  go_simp
  have e := Cas.eq_iff x y
  repeat' split
  all_goals
    congr 2
    simp_all
theorem cas_cmpN (w : World) (x y : Cas) :
    (binOp .neq 51 (.agg #[.int .i64 x.key, .int .i64 x.to_]) (.agg #[.int .i64 y.key, .int .i64 y.to_])).run Tryd.prog w = .ok (.bool (!decide (x = y))) w := by
  rw [run_neq_struct]
  have h := cas_cmp w x y
  rw [run_eql_struct] at h
  cases hq : (Op.equalIn 10000 51 (.agg #[.int .i64 x.key, .int .i64 x.to_]) (.agg #[.int .i64 y.key, .int .i64 y.to_])).run Tryd.prog w with
  | ok b w' =>
    rw [hq] at h
    simp only [Result.andThen_ok, Result.ok.injEq, Value.bool.injEq] at h
    obtain ⟨h1, h2⟩ := h
    subst h1 h2
    rfl
  | _ => rw [hq] at h; cases h
theorem list_eq_pt {α : Type} {l m : List α} (hl : l.length = m.length) (h : ∀ (j : Nat) x y, l[j]? = some x → m[j]? = some y → x = y) : l = m := by
  apply List.ext_getElem?
  intro j
  by_cases hj : j < l.length
  · rw [List.getElem?_eq_getElem hj, List.getElem?_eq_getElem (by omega)]
    rw [h j _ _ (List.getElem?_eq_getElem hj) (List.getElem?_eq_getElem (by omega))]
  · rw [List.getElem?_eq_none (by omega), List.getElem?_eq_none (by omega)]
set_option maxHeartbeats 1600000 in
theorem eqC_any (w : World) (a b : Option Addr) (n c m d : Nat) (l1 l2 : List Cas) (h1 : Ls 2 cac w a n l1) (h2 : Ls 2 cac w b m l2) (hn : n ≤ 1000000000000) :
    Calls Tryd.prog 44 #[.slice a n c, .slice b m d] w fun e w' => e = .returned (.bool (decide (l1 = l2))) ∧ Below w.heap.size w w' := by
  have hl1 := h1.1
  have hl2 := h2.1
  have H1 := hide h1
  have H2 := hide h2
  clear h1 h2
  by_cases hnm : n = m
  case neg =>
    have e1 : decide (l1 = l2) = false := by simp; intro e; rw [e] at hl1; omega
    have e2 : ((n : Int) != (m : Int)) = true := by simp; omega
    have e3 : ¬ (n : Int) = (m : Int) := by omega
    rw [e1]
    go_enter Tryd.func44, Tryd.ntmps44
    go_wp2
    go_ret
    exact ⟨rfl, Below.refl _ _⟩
  subst hnm
  obtain ⟨D, hD⟩ : ∃ D, D = decide (l1 = l2) := ⟨_, rfl⟩
  rw [← hD]
  have HD := hide hD
  clear hD
  go_enter Tryd.func44, Tryd.ntmps44
  go_wp2
  go_loopw [13] (fun vk W => ∃ k : Nat, k ≤ n ∧ vk = .int .i64 k ∧ Below w.heap.size w W ∧ Hid (∀ (j : Nat) x y, j < k → l1[j]? = some x → l2[j]? = some y → x = y)) (fun vk _ => n - (intOf vk).toNat)
  case atStart => exact ⟨0, by omega, rfl, Below.refl _ _, fun j x y h => by omega⟩
  case round =>
    obtain ⟨k, hk, rfl, hR, HQ⟩ := hrel
    by_cases hlt : k < n
    · have hlt1 : (k : Int) < (n : Int) := by omega
      obtain ⟨b1, o1, h1a, g1⟩ := Ls.row (unhide H1) (w' := wr) (by omega)
      obtain ⟨b2, o2, h2a, g2⟩ := Ls.row (unhide H2) (w' := wr) (by omega)
      subst h1a h2a
      obtain ⟨x, hx⟩ : ∃ x, l1[k]? = some x := ⟨_, List.getElem?_eq_getElem (by omega)⟩
      obtain ⟨y, hy⟩ : ∃ y, l2[k]? = some y := ⟨_, List.getElem?_eq_getElem (by omega)⟩
      have c0 := (g1 hR k x hx).zero
      have c1 := (g1 hR k x hx) 1 _ rfl
      have d0 := (g2 hR k y hy).zero
      have d1 := (g2 hR k y hy) 1 _ rfl
      have JN : ∀ W, (binOp .neq 51 (.agg #[.int .i64 x.key, .int .i64 x.to_]) (.agg #[.int .i64 y.key, .int .i64 y.to_])).run Tryd.prog W = .ok (.bool (!decide (x = y))) W := fun W => cas_cmpN W x y
      have HR := hide hR
      by_cases hxy : x = y
      · have HQ' : Hid (∀ (j : Nat) x y, j < k + 1 → l1[j]? = some x → l2[j]? = some y → x = y) := fun j x' y' hj hx' hy' => by
          by_cases hjk : j = k
          · subst hjk
            rw [hx] at hx'
            rw [hy] at hy'
            injection hx' with hx'
            injection hy' with hy'
            rw [← hx', ← hy']
            exact hxy
          · exact unhide HQ j x' y' (by omega) hx' hy'
        rw [decide_eq_true hxy] at JN
        clear g1 g2 hx hy hR hxy HQ
        go_wp2
        go_quiet (fail)
        go_wp2
        go_roundw
        case rel => exact ⟨k + 1, by omega, by go_num, below_drewN (unhide HR) _, HQ'⟩
        case measure => simp [intOf]; omega
      · have HDF : Hid (D = false) := by
          show D = false
          rw [unhide HD, decide_eq_false_iff_not]
          intro e
          subst e
          rw [hx] at hy
          injection hy with hy
          exact hxy hy
        rw [decide_eq_false hxy] at JN
        clear g1 g2 hx hy hR hxy HQ
        go_wp2
        go_quiet (fail)
        go_wp2
        go_ret
        exact ⟨ret_b (unhide HDF).symm, below_drewN (unhide HR) _⟩
    · obtain rfl : k = n := by omega
      have HDT : Hid (D = true) := by
        show D = true
        rw [unhide HD, decide_eq_true_iff]
        exact list_eq_pt (by omega) fun j x y hx hy => unhide HQ j x y (by have := (List.getElem?_eq_some_iff.1 hx).1; omega) hx hy
      have HR := hide hR
      clear hR HQ
      go_wp2
      go_ret
      exact ⟨ret_b (unhide HDT).symm, unhide HR⟩
end Go.Proofs.YtpmhcignenfhgaaDoor

/- The landed code: same, two lists of instructions held against one another. -/
namespace Go.Proofs.YtpmhcignenfhgaaDoor
open Go.RowKit
set_option linter.unusedVariables false
set_option maxRecDepth 100000

theorem Ins.eq_iff (x y : Ins) : x = y ↔ x.at_ = y.at_ ∧ x.op = y.op ∧ x.a = y.a ∧ x.b = y.b ∧ x.cs = y.cs := by
  obtain ⟨a, b, c, d, e⟩ := x
  obtain ⟨a', b', c', d', e'⟩ := y
  simp
set_option maxHeartbeats 1600000 in
theorem h9same_any (w : World) (r q : InR) (h1 : Ls 2 cac w r.s.a r.s.n r.x.cs) (h2 : Ls 2 cac w q.s.a q.s.n q.x.cs) (hn : r.s.n ≤ 1000000000000) :
    Calls Tryd.prog 31 #[.agg (inc r).toArray, .agg (inc q).toArray] w fun e w' => e = .returned (.bool (decide (r.x = q.x))) ∧ Below w.heap.size w w' := by
  have F0 : Below w.heap.size w ((w.alloc (.cells (inc r).toArray 38)).alloc (.cells (inc q).toArray 38)) := bA (bA (Below.refl _ _) _) _
  have HE := hide (eqC_any _ r.s.a q.s.a r.s.n r.s.c q.s.n q.s.c r.x.cs q.x.cs (h1.below F0) (h2.below F0) hn)
  have HF0 := hide F0
  have hiff := Ins.eq_iff r.x q.x
  obtain ⟨D, hD⟩ : ∃ D, D = decide (r.x = q.x) := ⟨_, rfl⟩
  rw [← hD]
  have hD' : D = decide (r.x.at_ = q.x.at_ ∧ r.x.op = q.x.op ∧ r.x.a = q.x.a ∧ r.x.b = q.x.b ∧ r.x.cs = q.x.cs) := by rw [hD]; exact decide_eq_decide.2 hiff
  clear hD hiff
  obtain ⟨⟨at1, op1, a1, b1, cs1⟩, ⟨sa, sn, sc⟩⟩ := r
  obtain ⟨⟨at2, op2, a2, b2, cs2⟩, ⟨ta, tn, tc⟩⟩ := q
  unfold inc Sl.v at *
  simp only at *
  have HD := hide hD'
  clear h1 h2 F0 hD'
  by_cases e1 : at1 = at2
  case neg =>
    have f1 : (at1 == at2) = false := by simpa using e1
    have HR : Hid (D = false) := by show D = false; rw [unhide HD]; simp [e1]
    go_enter Tryd.func31, Tryd.ntmps31
    go_wp2
    go_ret
    exact ⟨ret_b (unhide HR).symm, unhide HF0⟩
  subst e1
  by_cases e2 : op1 = op2
  case neg =>
    have f1 : (op1 == op2) = false := by simpa using e2
    have HR : Hid (D = false) := by show D = false; rw [unhide HD]; simp [e2]
    go_enter Tryd.func31, Tryd.ntmps31
    go_wp2
    go_ret
    exact ⟨ret_b (unhide HR).symm, unhide HF0⟩
  subst e2
  by_cases e3 : a1 = a2
  case neg =>
    have f1 : (a1 == a2) = false := by simpa using e3
    have HR : Hid (D = false) := by show D = false; rw [unhide HD]; simp [e3]
    go_enter Tryd.func31, Tryd.ntmps31
    go_wp2
    go_ret
    exact ⟨ret_b (unhide HR).symm, unhide HF0⟩
  subst e3
  by_cases e4 : b1 = b2
  case neg =>
    have f1 : (b1 == b2) = false := by simpa using e4
    have HR : Hid (D = false) := by show D = false; rw [unhide HD]; simp [e4]
    go_enter Tryd.func31, Tryd.ntmps31
    go_wp2
    go_ret
    exact ⟨ret_b (unhide HR).symm, unhide HF0⟩
  subst e4
  have HR : Hid (D = decide (cs1 = cs2)) := by show D = _; rw [unhide HD]; simp
  generalize decide (cs1 = cs2) = dc at *
  go_enter Tryd.func31, Tryd.ntmps31
  go_wp2_with fail
  refine (unhide HE).mono ?_
  rintro e w1 ⟨rfl, f1⟩
  have HF1 := hide ((unhide HF0).trans (f1.mono (unhide HF0).size))
  clear f1 HE
  go_wp2
  go_ret
  exact ⟨ret_b (unhide HR).symm, unhide HF1⟩
set_option maxHeartbeats 1600000 in
theorem eqI_any (w : World) (a b : Option Addr) (n c m d : Nat) (rs qs : List InR) (h1 : Ls 5 inc w a n rs) (h2 : Ls 5 inc w b m qs) (hr : ∀ r ∈ rs, Ls 2 cac w r.s.a r.s.n r.x.cs ∧ r.s.n ≤ 1000000000000) (hq : ∀ r ∈ qs, Ls 2 cac w r.s.a r.s.n r.x.cs) (hn : n ≤ 100000000000000) :
    Calls Tryd.prog 30 #[.slice a n c, .slice b m d, .func (.func 31) #[] #[]] w fun e w' => e = .returned (.bool (decide (rs.map InR.x = qs.map InR.x))) ∧ Below w.heap.size w w' := by
  have hl1 := h1.1
  have hl2 := h2.1
  have H1 := hide h1
  have H2 := hide h2
  have HRR := hide hr
  have HQQ := hide hq
  clear h1 h2 hr hq
  by_cases hnm : n = m
  case neg =>
    have e1 : decide (rs.map InR.x = qs.map InR.x) = false := by
      rw [decide_eq_false_iff_not]
      intro e
      have := congrArg List.length e
      simp at this
      omega
    have e2 : ((n : Int) != (m : Int)) = true := by simp; omega
    have e3 : ¬ (n : Int) = (m : Int) := by omega
    rw [e1]
    go_enter Tryd.func30, Tryd.ntmps30
    go_wp2
    go_ret
    exact ⟨rfl, Below.refl _ _⟩
  subst hnm
  obtain ⟨D, hD⟩ : ∃ D, D = decide (rs.map InR.x = qs.map InR.x) := ⟨_, rfl⟩
  rw [← hD]
  have HD := hide hD
  clear hD
  go_enter Tryd.func30, Tryd.ntmps30
  go_wp2
  go_loopw [17] (fun vk W => ∃ k : Nat, k ≤ n ∧ vk = .int .i64 k ∧ Below w.heap.size w W ∧ Hid (∀ (j : Nat) r q, j < k → rs[j]? = some r → qs[j]? = some q → r.x = q.x)) (fun vk _ => n - (intOf vk).toNat)
  case atStart => exact ⟨0, by omega, rfl, Below.refl _ _, fun j x y h => by omega⟩
  case round =>
    obtain ⟨k, hk, rfl, hR, HQ⟩ := hrel
    by_cases hlt : k < n
    · have hlt1 : (k : Int) < (n : Int) := by omega
      obtain ⟨b1, o1, h1a, g1⟩ := Ls.row (unhide H1) (w' := wr) (by omega)
      obtain ⟨b2, o2, h2a, g2⟩ := Ls.row (unhide H2) (w' := wr) (by omega)
      subst h1a h2a
      obtain ⟨r, hr⟩ : ∃ r, rs[k]? = some r := ⟨_, List.getElem?_eq_getElem (by omega)⟩
      obtain ⟨q, hq⟩ : ∃ q, qs[k]? = some q := ⟨_, List.getElem?_eq_getElem (by omega)⟩
      have c0 := (g1 hR k r hr).zero
      have c1 := (g1 hR k r hr) 1 _ rfl
      have c2 := (g1 hR k r hr) 2 _ rfl
      have c3 := (g1 hR k r hr) 3 _ rfl
      have c4 := (g1 hR k r hr) 4 _ rfl
      have d0 := (g2 hR k q hq).zero
      have d1 := (g2 hR k q hq) 1 _ rfl
      have d2 := (g2 hR k q hq) 2 _ rfl
      have d3 := (g2 hR k q hq) 3 _ rfl
      have d4 := (g2 hR k q hq) 4 _ rfl
      have F1 : Below w.heap.size w (wr.alloc (.cells (inc r).toArray 38)) := bA hR _
      have dd : ∀ j v, wr.cell? ⟨b2, o2 + k * 5 + j, none⟩ = some v → (wr.alloc (.cells (inc r).toArray 38)).cell? ⟨b2, o2 + k * 5 + j, none⟩ = some v := fun j v h => ((bA (Below.refl _ _) _ : Below wr.heap.size wr _).cell (World.block_lt_of_cell? wr _ h)).trans h
      have D0 := dd 0 _ d0
      have D1 := dd 1 _ d1
      have D2 := dd 2 _ d2
      have D3 := dd 3 _ d3
      have D4 := dd 4 _ d4
      rw [Nat.add_zero] at D0
      have F2 : Below w.heap.size w ((wr.alloc (.cells (inc r).toArray 38)).alloc (.cells (inc q).toArray 38)) := bA F1 _
      have hrl := unhide HRR r (List.mem_of_getElem? hr)
      have hql := unhide HQQ q (List.mem_of_getElem? hq)
      have HS := hide (h9same_any _ r q (hrl.1.below F2) (hql.below F2) hrl.2)
      have HF2 := hide F2
      have HX : Hid (r.x = q.x → ∀ (j : Nat) r q, j < k + 1 → rs[j]? = some r → qs[j]? = some q → r.x = q.x) := fun hxy j r' q' hj hr' hq' => by
        by_cases hjk : j = k
        · subst hjk
          rw [hr] at hr'
          rw [hq] at hq'
          injection hr' with hr'
          injection hq' with hq'
          rw [← hr', ← hq']
          exact hxy
        · exact unhide HQ j r' q' (by omega) hr' hq'
      have HY : Hid (r.x ≠ q.x → D = false) := fun hxy => by
        rw [unhide HD, decide_eq_false_iff_not]
        intro e
        have h1 : (rs.map InR.x)[k]? = some r.x := by rw [List.getElem?_map, hr]; rfl
        have h2 : (qs.map InR.x)[k]? = some q.x := by rw [List.getElem?_map, hq]; rfl
        rw [e, h2] at h1
        injection h1 with h1
        exact hxy h1.symm
      clear g1 g2 hr hq hR F1 F2 dd hrl hql HQ d0 d1 d2 d3 d4
      unfold inc Sl.v at *
      obtain ⟨⟨at1, op1, a1, b1', cs1⟩, ⟨sa, sn, sc⟩⟩ := r
      obtain ⟨⟨at2, op2, a2, b2', cs2⟩, ⟨ta, tn, tc⟩⟩ := q
      simp only at *
      by_cases hxy : (⟨at1, op1, a1, b1', cs1⟩ : Ins) = ⟨at2, op2, a2, b2', cs2⟩
      · have HX' := hide (unhide HX hxy)
        rw [decide_eq_true hxy] at HS
        clear HX HY hxy
        go_wp2_with fail
        refine (unhide HS).mono ?_
        rintro e w3 ⟨rfl, f3⟩
        have HF3 := hide ((unhide HF2).trans (f3.mono (unhide HF2).size))
        clear f3 HS
        go_wp2
        go_roundw
        case rel => exact ⟨k + 1, by omega, by go_num, unhide HF3, HX'⟩
        case measure => simp [intOf]; omega
      · have HY' := hide (unhide HY hxy)
        rw [decide_eq_false hxy] at HS
        clear HX HY hxy
        go_wp2_with fail
        refine (unhide HS).mono ?_
        rintro e w3 ⟨rfl, f3⟩
        have HF3 := hide ((unhide HF2).trans (f3.mono (unhide HF2).size))
        clear f3 HS
        go_wp2
        go_ret
        exact ⟨ret_b (unhide HY').symm, unhide HF3⟩
    · obtain rfl : k = n := by omega
      have HDT : Hid (D = true) := by
        show D = true
        rw [unhide HD, decide_eq_true_iff]
        refine list_eq_pt (by simp; omega) fun j x y hx hy => ?_
        rw [List.getElem?_map] at hx hy
        obtain ⟨r, hr, rfl⟩ := Option.map_eq_some_iff.1 hx
        obtain ⟨q, hq, rfl⟩ := Option.map_eq_some_iff.1 hy
        exact unhide HQ j r q (by have := (List.getElem?_eq_some_iff.1 hr).1; omega) hr hq
      have HR := hide hR
      clear hR HQ
      go_wp2
      go_ret
      exact ⟨ret_b (unhide HDT).symm, unhide HR⟩
end Go.Proofs.YtpmhcignenfhgaaDoor

/- The landed code: Encode. -/
namespace Go.Proofs.YtpmhcignenfhgaaDoor
open Go.RowKit
set_option linter.unusedVariables false
set_option maxRecDepth 100000

theorem own_below9 {w W : World} {B : Nat} {e : TypeId} {sz : Nat} {v : Value} {n : Nat} {xs : List Value} (h : w.ownsRow B e sz v n xs) (f : Below w.heap.size w W) : W.ownsRow B e sz v n xs := by
  refine ⟨h.1, ?_⟩
  rcases h.2 with hv | ⟨g, cap, cur, hv, hb, hh, r⟩
  · exact .inl hv
  · exact .inr ⟨g, cap, cur, hv, hb, (f.block g (lt_of_heap hh)).trans hh, r⟩
/-- What Encode answers. -/
def enc_post (l : List Ins) (w : World) (e : Ending) (w' : World) : Prop :=
  ∃ (v : Value) (bs : List UInt8) (er : Int), e = .returned (.tuple #[v, .int .i64 er]) ∧ w'.ownsRow w.heap.size 5 1 v bs.length (bv bs) ∧ Below w.heap.size w w' ∧
    ((er = 0 ∧ bs = allW l [] ∧ bs.length ≤ 4096 ∧ codeP bs = some l) ∨ (bs = [] ∧ er = 90 ∧ codeP (allW l []) ≠ some l) ∨ (bs = [] ∧ er = 3 ∧ 4096 < (allW l []).length ∧ codeP (allW l []) = some l))
set_option maxHeartbeats 1600000 in
theorem hEncode_any (w : World) (a : Option Addr) (n c : Nat) (rs : List InR) (hL : Ls 5 inc w a n rs) (hI : ∀ r ∈ rs, InArg w r) (hs : sizesR rs ≤ 100000000000) (hT : Tab9 w) :
    Calls Tryd.prog 17 #[.slice a n c] w (enc_post (rs.map InR.x) w) := by
  have HB := hide (h9bytesOf_any w a n c rs hL hI (by omega) hT)
  have hln := hL.1
  have HL := hide hL
  have HI := hide hI
  have HT := hide hT
  have hnn : 16 * n ≤ 100000000000 := by have := sizesR_ge rs; omega
  have hsn : ∀ r ∈ rs, r.s.n ≤ 1000000000000 := fun r hr => by
    obtain ⟨k, hk⟩ := List.getElem?_of_mem hr
    have h1 := sizesR_take hk
    have h2 := sizesR_le rs (k + 1)
    omega
  have HSN := hide hsn
  clear hL hI hT hsn
  go_enter Tryd.func17, Tryd.ntmps17
  go_wp2_with fail
  refine (unhide HB).mono ?_
  rintro e w1 ⟨v, rfl, o1, l1, f1⟩
  obtain ⟨bs, hbs⟩ : ∃ bs, bs = allW (rs.map InR.x) [] := ⟨_, rfl⟩
  rw [← hbs] at o1 l1
  obtain ⟨va, vc, hv, hvn, hvl, hvm⟩ : ∃ a c, v = .slice a bs.length c ∧ (a = none → bs.length = 0 ∧ c = 0) ∧ bs.length ≤ c ∧ c ≤ 9223372036854775807 := by
    rcases o1.2 with ⟨hv, hn⟩ | ⟨g, cap, cur, hv, _, _, h1, h2, _⟩
    · exact ⟨none, 0, by rw [hn]; exact hv, fun _ => ⟨hn, rfl⟩, by omega, by omega⟩
    · exact ⟨_, cap, hv, (fun e => by cases e), h1, by unfold maxLen at h2; exact h2⟩
  subst hv
  have harg : Arg w1 va bs.length vc bs := arg_of_own rfl o1
  have HN := hide (h9instrsOf_any w1 va bs.length vc bs harg (by omega) ((unhide HT).below f1))
  have HO1 := hide (And.intro o1 f1)
  obtain ⟨m, hm⟩ : ∃ m, m = bs.length := ⟨_, rfl⟩
  have HBS := hide hbs
  rw [← hm] at HN HO1 ⊢
  have HM := hide hm
  clear o1 f1 HB harg hvn hvl hvm hbs hm
  go_wp2_with fail
  refine (unhide HN).mono ?_
  rintro e w2 ⟨⟨sa, sn, sc⟩, qs, b, rfl, o2, e2, l2, t2, f2, B2⟩
  unfold Sl.v at o2 ⊢
  have hB2 : Below w.heap.size w w2 := (unhide HO1).2.trans (B2.mono (unhide HO1).2.size)
  cases b with
  | false =>
    have HEND : Hid (enc_post (rs.map InR.x) w (.returned (.tuple #[.slice none 0 0, .int .i64 90])) w2) := ⟨_, [], 90, rfl, World.ownsRow_nil _ _ _ _, hB2, .inr (.inl ⟨rfl, rfl, by rw [← unhide HBS, f2 rfl]; simp⟩)⟩
    clear o2 e2 l2 t2 f2 B2 hB2 HN
    go_wp2
    go_ret2
    exact unhide HEND
  | true =>
    have ht2 := t2 rfl
    have HQ := hide (eqI_any w2 a sa n c sn sc rs qs ((unhide HL).below hB2) (o2.ls rkN9) (fun r hr => ⟨(unhide HI r hr).ls.below hB2, unhide HSN r hr⟩) (fun r hr => (e2 r hr).ls.1) (by omega))
    have HX2 := hide (And.intro ht2 (And.intro B2 hB2))
    clear o2 e2 l2 t2 f2 B2 hB2 HN ht2
    by_cases heq : rs.map InR.x = qs.map InR.x
    case neg =>
      rw [decide_eq_false heq] at HQ
      have HNE := hide heq
      clear heq
      go_wp2_with fail
      refine (unhide HQ).mono ?_
      rintro e w3 ⟨rfl, f3⟩
      have HEND : Hid (enc_post (rs.map InR.x) w (.returned (.tuple #[.slice none 0 0, .int .i64 90])) w3) := ⟨_, [], 90, rfl, World.ownsRow_nil _ _ _ _, (unhide HX2).2.2.trans (f3.mono (unhide HX2).2.2.size), .inr (.inl ⟨rfl, rfl, by
        rw [← unhide HBS, (unhide HX2).1]
        intro e
        injection e with e
        exact unhide HNE e.symm⟩)⟩
      clear f3 HQ
      go_wp2
      go_ret2
      exact unhide HEND
    rw [decide_eq_true heq] at HQ
    have HEQ := hide heq
    clear heq
    go_wp2_with fail
    refine (unhide HQ).mono ?_
    rintro e w3 ⟨rfl, f3⟩
    have B3 : Below w1.heap.size w1 w3 := (unhide HX2).2.1.trans (f3.mono (unhide HX2).2.1.size)
    have hcode : codeP (allW (rs.map InR.x) []) = some (rs.map InR.x) := by rw [← unhide HBS, (unhide HX2).1, unhide HEQ]
    have hB3 : Below w.heap.size w w3 := (unhide HO1).2.trans (B3.mono (unhide HO1).2.size)
    by_cases hlg : 4096 < m
    · have hlg1 : (4096 : Int) < (m : Int) := by omega
      have HEND : Hid (enc_post (rs.map InR.x) w (.returned (.tuple #[.slice none 0 0, .int .i64 3])) w3) := ⟨_, [], 3, rfl, World.ownsRow_nil _ _ _ _, hB3, .inr (.inr ⟨rfl, rfl, by rw [← unhide HBS, ← unhide HM]; exact hlg, hcode⟩)⟩
      clear f3 HQ B3 hB3 hcode
      go_wp2
      go_ret2
      exact unhide HEND
    · have hlg1 : ¬ (4096 : Int) < (m : Int) := by omega
      have HEND : Hid (enc_post (rs.map InR.x) w (.returned (.tuple #[.slice va m vc, .int .i64 0])) w3) := ⟨_, bs, 0, rfl, by
        have := own_below9 (unhide HO1).1 B3
        rw [← unhide HM]
        exact this, hB3, .inl ⟨rfl, unhide HBS, by rw [← unhide HM]; omega, by rw [unhide HBS]; exact hcode⟩⟩
      clear f3 HQ B3 hB3 hcode
      go_wp2
      go_ret2
      exact unhide HEND
end Go.Proofs.YtpmhcignenfhgaaDoor
