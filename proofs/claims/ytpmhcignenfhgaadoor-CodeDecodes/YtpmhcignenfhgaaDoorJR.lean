/- Joined: CfI CfJ CfK CfGp. -/
import Derived.Test.YtpmhcignenfhgaaDoorJP
import Derived.Test.YtpmhcignenfhgaaDoorJQ

/- The landed code: Targets. -/
namespace Go.Proofs.YtpmhcignenfhgaaDoor
open Go.RowKit
set_option linter.unusedVariables false
set_option maxRecDepth 100000

def ic (n : Int) : List Value := [.int .i64 n]
theorem rkI : Rk ic 3 41 1 8 (.int .i64 0) := ⟨fun _ => rfl, fun x u hu => by simp [ic] at hu; subst hu; rfl, by decide, by kernel_rfl, rfl, Tryd.underlying41⟩
theorem orw_al9 {α : Type} {cs : α → List Value} {e : TypeId} {sz : Nat} {w : World} {base : Nat} {v : Value} {l : List α} (h : Orw cs e sz w base v l) (o : Obj) : Orw cs e sz (w.alloc o) base v l := h.below fun k hk => ((Below.refl _ _).alloc (Nat.le_refl _) _).block k (h.lt k hk).2
set_option maxHeartbeats 1600000 in
theorem hTargets_any (w : World) (at0 op a b : Int) (s : Sl) (cs : List Cas) (hL : Ls 2 cac w s.a s.n cs) (hn : s.n ≤ 8796093022208) (hT : Tab9 w) :
    Calls Tryd.prog 22 #[.agg #[.int .i64 at0, .int .i64 op, .int .i64 a, .int .i64 b, s.v]] w fun e w' => ∃ v, e = .returned v ∧ Orw ic 3 1 w' w.heap.size v (targP ⟨at0, op, a, b, cs⟩) ∧ Below w.heap.size w w' := by
  obtain ⟨sa, sn, sc⟩ := s
  unfold Sl.v
  simp only at hL hn
  have HL := hide hL
  obtain ⟨w0, hw0, hb0, f0⟩ : ∃ w0, w0 = w.alloc (.cells #[.int .i64 at0, .int .i64 op, .int .i64 a, .int .i64 b, .slice sa sn sc] 38) ∧ w0.heap[w.heap.size]? = some (.cells #[.int .i64 at0, .int .i64 op, .int .i64 a, .int .i64 b, .slice sa sn sc] 38 (0, 0)) ∧ Below w.heap.size w w0 := ⟨_, rfl, heap_alloc_last _ _, bA (Below.refl _ _) _⟩
  have HF := hide (h9formOf_any w0 op (hT.below f0))
  have HW0 := hide hw0
  have F0 := hide f0
  have HB0 := hide hb0
  have KB : Hid (∀ W, Below w0.heap.size w0 W → W.cell? ⟨w.heap.size, 2, none⟩ = some (.int .i64 a) ∧ W.cell? ⟨w.heap.size, 4, none⟩ = some (.slice sa sn sc)) := fun W f => by
    have := (f.block _ (lt_of_heap hb0)).trans hb0
    exact ⟨bx_cell this 2 _ rfl, bx_cell this 4 _ rfl⟩
  have HTP : targP ⟨at0, op, a, b, cs⟩ = if formP op = 7 then [a] else if formP op = 8 ∨ formP op = 9 then a :: cs.map Cas.to_ else [] := rfl
  generalize targP ⟨at0, op, a, b, cs⟩ = T at *
  generalize formP op = f at *
  have HS : Hid (∀ W : World, Ls 1 ic (W.alloc (.cells #[.int .i64 a] 3)) (some ⟨W.heap.size, 0, none⟩) 1 [a]) := fun W => ls_one W _ _ a rfl
  clear hw0 f0 hb0 hL hT
  by_cases h7 : f = 7
  · subst h7
    rw [if_pos rfl] at HTP
    have HTP := hide HTP
    have HFo : Hid (Calls Tryd.prog 35 #[.int .i64 op] w0 fun e w' => e = .returned (.int .i64 7) ∧ Below w0.heap.size w0 w') := HF
    clear HF
    go_enter Tryd.func22, Tryd.ntmps22
    go_wp2_with fail
    rw [← unhide HW0]
    refine (unhide HFo).mono ?_
    rintro e w1 ⟨rfl, f1⟩
    obtain ⟨c2, c4⟩ := unhide KB w1 f1
    have F1 := hide ((unhide F0).trans (f1.mono (unhide F0).size))
    have HO : Hid (Orw ic 3 1 (w1.alloc (.cells #[.int .i64 a] 3)) w.heap.size (.slice none 0 0) ([] : List Int)) := Orw.nil _ _ _ _ _
    have HF2 : Hid (Below w.heap.size w (w1.alloc (.cells #[.int .i64 a] 3))) := bA (unhide F1) _
    clear f1 HFo
    go_wp2_with (at_builtin; refine listR_append rkI rfl _ _ rfl w.heap.size _ _ rfl (unhide HO) _ 1 1 [a] rfl (unhide HS _) (fun e => by cases e) (by simp) (by simp) (unhide HF2).size ?_)
    intro v3 w3 o3 g3
    have HF3 := hide (grown_below (unhide HF2) (unhide HO) g3)
    have HO3 := hide o3
    clear o3 g3
    go_wp2
    go_ret
    exact ⟨_, rfl, by rw [unhide HTP]; exact unhide HO3, unhide HF3⟩
  rw [if_neg h7] at HTP
  by_cases h8 : f = 8 ∨ f = 9
  · rw [if_pos h8] at HTP
    have HTP := hide HTP
    have e7 : ((f : Int) == 7) = false := by simp; omega
    have e89 : ((f : Int) == 8) = true ∨ ((f : Int) == 8) = false ∧ ((f : Int) == 9) = true := by
      rcases h8 with rfl | rfl
      · exact .inl rfl
      · exact .inr ⟨rfl, rfl⟩
    generalize hfi : (f : Int) = fi at *
    have HFF := hide hfi
    clear hfi h8
    have HO0 : Hid (∀ W : World, Orw ic 3 1 W w.heap.size (.slice none 0 0) ([] : List Int)) := fun W => Orw.nil _ _ _ _ _
    go_enter Tryd.func22, Tryd.ntmps22
    go_wp2_with fail
    rw [← unhide HW0]
    refine (unhide HF).mono ?_
    rintro e w1 ⟨rfl, f1⟩
    obtain ⟨c2, c4⟩ := unhide KB w1 f1
    have F1 := hide ((unhide F0).trans (f1.mono (unhide F0).size))
    have HF2 : Hid (Below w.heap.size w (w1.alloc (.cells #[.int .i64 a] 3))) := bA (unhide F1) _
    have HX1 := hide f1
    clear f1 HF
    rcases e89 with e8 | ⟨e8, e9⟩
    all_goals
    go_wp2_with (at_builtin; refine listR_append rkI rfl _ _ rfl w.heap.size _ _ rfl (unhide HO0 _) _ 1 1 [a] rfl (unhide HS _) (fun e => by cases e) (by simp) (by simp) (unhide HF2).size ?_)
    intro v3 w3 o3 g3
    have HF1 := hide (grown_below (unhide HF2) (unhide HO0 _) g3)
    have HO1 : Hid (Orw ic 3 1 w3 w.heap.size v3 [a]) := o3
    have c4' : w3.cell? ⟨w.heap.size, 4, none⟩ = some (.slice sa sn sc) := (unhide KB w3 ((bA (unhide HX1) _).grown g3 (bA (unhide HX1) _).size (fun k hk => by cases hk))).2
    clear o3 g3 c2 c4
    go_wp2
    go_loopw [3, 27] (fun v k W => ∃ q : Nat, q ≤ sn ∧ k = .int .i64 q ∧ Orw ic 3 1 W w.heap.size v (a :: (cs.take q).map Cas.to_) ∧ Below w.heap.size w W) (fun _ k _ => sn - (intOf k).toNat)
    case atStart => exact ⟨0, by omega, rfl, by simpa using unhide HO1, unhide HF1⟩
    case round =>
      obtain ⟨q, hq, rfl, hO, hF⟩ := hrel
      obtain ⟨va, vc, rfl, _, _, _⟩ := hO.form
      obtain ⟨L, hLL⟩ : ∃ L, L = (a :: (cs.take q).map Cas.to_).length := ⟨_, rfl⟩
      rw [← hLL] at hO ⊢
      have HLL := hide hLL
      clear hLL
      have HO := hide hO
      have HF := hide hF
      by_cases hlt : q < sn
      · have hlt1 : (q : Int) < (sn : Int) := by omega
        obtain ⟨b1, o1, h1a, h1⟩ := Ls.row (unhide HL) (w' := wr) (by omega)
        subst h1a
        obtain ⟨x, hx⟩ : ∃ x, cs[q]? = some x := ⟨_, List.getElem?_eq_getElem (by have := (unhide HL).1; omega)⟩
        have c0 := (h1 hF q x hx).zero
        have c1 := (h1 hF q x hx) 1 _ rfl
        have hst : (cs.take (q + 1)).map Cas.to_ = (cs.take q).map Cas.to_ ++ [x.to_] := by
          obtain ⟨hk, e⟩ := List.getElem?_eq_some_iff.1 hx
          rw [List.take_succ_eq_append_getElem hk, e]
          simp
        have HST := hide hst
        have hll : (a :: (cs.take q).map Cas.to_).length ≤ sn + 1 := by simp; omega
        have hl1 : ((a :: (cs.take q).map Cas.to_).length + 1) * 8 ≤ 140737488355328 := by omega
        have hl2 : (a :: (cs.take q).map Cas.to_).length + 1 ≤ 140737488355328 := by omega
        have HL1 := hide hl1
        have HL2 := hide hl2
        have HO2 : Hid (Orw ic 3 1 ((wr.alloc (.cells #[.int .i64 x.key, .int .i64 x.to_] 51)).alloc (.cells #[.int .i64 x.to_] 3)) w.heap.size (.slice va L vc) (a :: (cs.take q).map Cas.to_)) := orw_al9 (orw_al9 hO _) _
        have HF2 : Hid (Below w.heap.size w ((wr.alloc (.cells #[.int .i64 x.key, .int .i64 x.to_] 51)).alloc (.cells #[.int .i64 x.to_] 3))) := bA (bA hF _) _
        have HS : Hid (Ls 1 ic ((wr.alloc (.cells #[.int .i64 x.key, .int .i64 x.to_] 51)).alloc (.cells #[.int .i64 x.to_] 3)) (some ⟨wr.heap.size + 1, 0, none⟩) 1 [x.to_]) := by
          have := ls_one (cs := ic) (sz := 1) (wr.alloc (.cells #[.int .i64 x.key, .int .i64 x.to_] 51)) #[.int .i64 x.to_] 3 x.to_ rfl
          rw [show (wr.alloc (.cells #[.int .i64 x.key, .int .i64 x.to_] 51)).heap.size = wr.heap.size + 1 by simp] at this
          exact this
        clear h1 hx hst hll hl1 hl2 hO hF
        go_wp2_with (at_builtin; refine listR_append rkI rfl _ _ rfl w.heap.size _ _ rfl (unhide HO2) _ 1 1 [x.to_] rfl (unhide HS) (fun e => by cases e) (unhide HL1) (unhide HL2) (unhide HF2).size ?_)
        intro v3 w3 o3 g3
        have HF3 := hide (grown_below (unhide HF2) (unhide HO2) g3)
        have HO3 : Hid (Orw ic 3 1 w3 w.heap.size v3 (a :: (cs.take (q + 1)).map Cas.to_)) := by
          show Orw ic 3 1 w3 w.heap.size v3 _
          rw [unhide HST, List.map_take]
          exact o3
        clear o3 g3
        go_wp2
        go_roundw
        case rel => exact ⟨q + 1, by omega, by go_num, unhide HO3, unhide HF3⟩
        case measure => simp [intOf]; omega
      · obtain rfl : q = sn := by omega
        have HO3 : Hid (Orw ic 3 1 wr w.heap.size (.slice va L vc) (a :: cs.map Cas.to_)) := by
          have := unhide HO
          rw [List.take_of_length_le (by have := (unhide HL).1; omega)] at this
          exact this
        clear hO hF
        go_wp2
        go_ret
        exact ⟨_, rfl, by rw [unhide HTP]; exact unhide HO3, unhide HF⟩
  · rw [if_neg h8] at HTP
    have HTP := hide HTP
    have e7 : ((f : Int) == 7) = false := by simp; omega
    have e8 : ((f : Int) == 8) = false := by simp; omega
    have e9 : ((f : Int) == 9) = false := by simp; omega
    generalize hfi : (f : Int) = fi at *
    have HFF := hide hfi
    clear hfi h8
    go_enter Tryd.func22, Tryd.ntmps22
    go_wp2_with fail
    rw [← unhide HW0]
    refine (unhide HF).mono ?_
    rintro e w1 ⟨rfl, f1⟩
    have F1 := hide ((unhide F0).trans (f1.mono (unhide F0).size))
    clear f1 HF
    go_wp2
    go_ret
    exact ⟨_, rfl, by rw [unhide HTP]; exact Orw.nil _ _ _ _ _, unhide F1⟩
end Go.Proofs.YtpmhcignenfhgaaDoor

/- The landed code: a search in instructions that stand in order. -/
namespace Go.Proofs.YtpmhcignenfhgaaDoor
open Go.RowKit
set_option linter.unusedVariables false
set_option maxRecDepth 100000

/-- An instruction, and where its cases lie. -/
structure InR where
  x : Ins
  s : Sl
def inc (r : InR) : List Value := [.int .i64 r.x.at_, .int .i64 r.x.op, .int .i64 r.x.a, .int .i64 r.x.b, r.s.v]
theorem rkN9 : Rk inc 38 24 5 56 (.agg #[.int .i64 0, .int .i64 0, .int .i64 0, .int .i64 0, .slice none 0 0]) := ⟨fun _ => rfl, fun x u hu => by simp [inc, Sl.v] at hu; rcases hu with rfl | rfl | rfl | rfl | rfl <;> rfl, by decide, by kernel_rfl, rfl, Tryd.underlying24⟩
def cmpI (a b : Int) : Int := if a < b then -1 else if b < a then 1 else 0
theorem nan_any (w : World) (a : Int) : Calls Tryd.prog 94 #[.int .i64 a] w fun e w' => e = .returned (.bool false) ∧ w' = w := by
  go_enter Tryd.func94, Tryd.ntmps94
  go_wp2
  go_ret
  exact ⟨rfl, rfl⟩
set_option maxHeartbeats 800000 in
theorem cmp_any (w : World) (a b : Int) : Calls Tryd.prog 85 #[.int .i64 a, .int .i64 b] w fun e w' => e = .returned (.int .i64 (cmpI a b)) ∧ w' = w := by
  have HA := hide (nan_any w a)
  have HB := hide (nan_any w b)
  unfold cmpI
  by_cases h1 : a < b
  · rw [if_pos h1]
    go_enter Tryd.func85, Tryd.ntmps85
    go_wp2_with fail
    refine (unhide HA).mono ?_
    rintro e w1 ⟨rfl, rfl⟩
    go_wp2_with fail
    refine (unhide HB).mono ?_
    rintro e w1 ⟨rfl, rfl⟩
    go_wp2
    go_ret
    exact ⟨rfl, rfl⟩
  · rw [if_neg h1]
    have h1' : decide (a < b) = false := by simpa using h1
    by_cases h2 : b < a
    · rw [if_pos h2]
      go_enter Tryd.func85, Tryd.ntmps85
      go_wp2_with fail
      refine (unhide HA).mono ?_
      rintro e w1 ⟨rfl, rfl⟩
      go_wp2_with fail
      refine (unhide HB).mono ?_
      rintro e w1 ⟨rfl, rfl⟩
      go_wp2
      go_ret
      exact ⟨rfl, rfl⟩
    · rw [if_neg h2]
      have h2' : decide (b < a) = false := by simpa using h2
      go_enter Tryd.func85, Tryd.ntmps85
      go_wp2_with fail
      refine (unhide HA).mono ?_
      rintro e w1 ⟨rfl, rfl⟩
      go_wp2_with fail
      refine (unhide HB).mono ?_
      rintro e w1 ⟨rfl, rfl⟩
      go_wp2
      go_ret
      exact ⟨rfl, rfl⟩
theorem begins1_any (w : World) (at0 op a b to_ : Int) (v : Value) (hv : ∃ s : Sl, v = s.v) : Calls Tryd.prog 84 #[.agg #[.int .i64 at0, .int .i64 op, .int .i64 a, .int .i64 b, v], .int .i64 to_] w fun e w' => e = .returned (.int .i64 (cmpI at0 to_)) ∧ Below w.heap.size w w' := by
  obtain ⟨⟨sa, sn, sc⟩, rfl⟩ := hv
  unfold Sl.v
  have HC := hide (fun W => cmp_any W at0 to_)
  go_enter Tryd.func84, Tryd.ntmps84
  go_wp2_with fail
  refine (unhide HC _).mono ?_
  rintro e w1 ⟨rfl, rfl⟩
  go_wp2
  go_ret
  exact ⟨rfl, bA (Below.refl _ _) _⟩
/-- In order. -/
def Rising (l : List Ins) : Prop := ∀ (p q : Nat) (x y : Ins), p < q → l[p]? = some x → l[q]? = some y → x.at_ < y.at_
set_option maxHeartbeats 1600000 in
theorem bsearch_any (w : World) (a : Option Addr) (n c : Nat) (rs : List InR) (hL : Ls 5 inc w a n rs) (hn : n ≤ 1000000000000) (to_ : Int) (hR : Rising (rs.map InR.x)) :
    Calls Tryd.prog 83 #[.slice a n c, .int .i64 to_, .func (.func 84) #[] #[]] w fun e w' => ∃ k, e = .returned (.tuple #[.int .i64 k, .bool ((rs.map InR.x).any fun y => decide (y.at_ = to_))]) ∧ Below w.heap.size w w' := by
  have hln := hL.1
  have HL := hide hL
  have HRI := hide hR
  obtain ⟨R, hRR⟩ : ∃ R, R = ((rs.map InR.x).any fun y => decide (y.at_ = to_)) := ⟨_, rfl⟩
  rw [← hRR]
  have HRR := hide hRR
  clear hRR
  have HC : Hid (∀ W (r : InR), Calls Tryd.prog 84 #[.agg #[.int .i64 r.x.at_, .int .i64 r.x.op, .int .i64 r.x.a, .int .i64 r.x.b, r.s.v], .int .i64 to_] W fun e w' => e = .returned (.int .i64 (cmpI r.x.at_ to_)) ∧ Below W.heap.size W w') := fun W r => begins1_any W _ _ _ _ to_ _ ⟨r.s, rfl⟩
  clear hL hR
  go_enter Tryd.func83, Tryd.ntmps83
  go_wp2
  go_loopw [9, 10] (fun vi vj W => ∃ lo hi : Nat, lo ≤ hi ∧ hi ≤ n ∧ vi = .int .i64 lo ∧ vj = .int .i64 hi ∧ Below w.heap.size w W ∧ Hid (∀ (p : Nat) (r : InR), rs[p]? = some r → (p < lo → r.x.at_ < to_) ∧ (hi ≤ p → to_ ≤ r.x.at_))) (fun vi vj _ => (intOf vj).toNat - (intOf vi).toNat)
  case atStart => exact ⟨0, n, by omega, Nat.le_refl _, rfl, rfl, Below.refl _ _, fun p r hp => ⟨by omega, fun h => by have := (List.getElem?_eq_some_iff.1 hp).1; omega⟩⟩
  case round =>
    obtain ⟨lo, hi, h1, h2, rfl, rfl, hF, HQ⟩ := hrel
    by_cases hlt : lo < hi
    · have hlt1 : (lo : Int) < (hi : Int) := by omega
      obtain ⟨H, hH1, hH2⟩ : ∃ H : Nat, 2 * H ≤ lo + hi ∧ lo + hi < 2 * H + 2 := ⟨(lo + hi) / 2, by omega, by omega⟩
      have e1 : ((lo : Int) + (hi : Int)) / 2 = (H : Int) := by omega
      have e2 : (H : Int) < (n : Int) := by omega
      obtain ⟨b1, o1, h1a, g1⟩ := Ls.row (unhide HL) (w' := wr) (by omega)
      subst h1a
      obtain ⟨r, hr⟩ : ∃ r, rs[H]? = some r := ⟨_, List.getElem?_eq_getElem (by omega)⟩
      have g := g1 hF H r hr
      have c0 := g.zero
      have c1 := g 1 _ rfl
      have c2 := g 2 _ rfl
      have c3 := g 3 _ rfl
      have c4 := g 4 _ rfl
      have HHR := hide hr
      have HF := hide hF
      have HC0 := unhide HC wr r
      have HCC := hide HC0
      clear g1 g hr hF HC0
      obtain ⟨x, ⟨sa, sn, sc⟩⟩ := r
      unfold Sl.v at HCC c4
      simp only at HCC c0 c1 c2 c3 c4
      go_wp2_with fail
      refine (unhide HCC).mono ?_
      rintro e w1 ⟨rfl, f1⟩
      have HF1 := hide ((unhide HF).trans (f1.mono (unhide HF).size))
      clear f1 HCC
      by_cases hx : x.at_ < to_
      · have ec : cmpI x.at_ to_ = -1 := if_pos hx
        rw [ec]
        have HQ' : Hid (∀ (p : Nat) (r : InR), rs[p]? = some r → (p < H + 1 → r.x.at_ < to_) ∧ (hi ≤ p → to_ ≤ r.x.at_)) := fun p r hp => ⟨fun hpH => by
          by_cases hpe : p = H
          · subst hpe
            rw [unhide HHR] at hp
            injection hp with hp
            rw [← hp]
            exact hx
          · have := unhide HRI p H r.x x (by omega) (by rw [List.getElem?_map, hp]; rfl) (by rw [List.getElem?_map, unhide HHR]; rfl)
            omega, (unhide HQ p r hp).2⟩
        clear HQ HHR ec
        go_wp2
        go_roundw
        case rel => exact ⟨H + 1, hi, by omega, by omega, by go_num, rfl, unhide HF1, HQ'⟩
        case measure => simp [intOf]; omega
      · have ec : (cmpI x.at_ to_ < 0) = False := by
          unfold cmpI
          rw [if_neg hx]
          split <;> simp
        have ec2 : decide (cmpI x.at_ to_ < 0) = false := by simp [ec]
        have ec3 : ¬ cmpI x.at_ to_ < 0 := by simp [ec]
        have HQ' : Hid (∀ (p : Nat) (r : InR), rs[p]? = some r → (p < lo → r.x.at_ < to_) ∧ (H ≤ p → to_ ≤ r.x.at_)) := fun p r hp => ⟨(unhide HQ p r hp).1, fun hpH => by
          by_cases hpe : p = H
          · subst hpe
            rw [unhide HHR] at hp
            injection hp with hp
            rw [← hp]
            exact Int.not_lt.1 hx
          · have := unhide HRI H p x r.x (by omega) (by rw [List.getElem?_map, unhide HHR]; rfl) (by rw [List.getElem?_map, hp]; rfl)
            omega⟩
        generalize cmpI x.at_ to_ = cv at *
        clear HQ HHR
        go_wp2
        go_roundw
        case rel => exact ⟨lo, H, by omega, by omega, rfl, rfl, unhide HF1, HQ'⟩
        case measure => simp [intOf]; omega
    · obtain rfl : lo = hi := by omega
      have hlt1 : ¬ (lo : Int) < (lo : Int) := by omega
      have HF := hide hF
      clear hF
      by_cases hn2 : lo < n
      · have hn3 : (lo : Int) < (n : Int) := by omega
        obtain ⟨b1, o1, h1a, g1⟩ := Ls.row (unhide HL) (w' := wr) (by omega)
        subst h1a
        obtain ⟨r, hr⟩ : ∃ r, rs[lo]? = some r := ⟨_, List.getElem?_eq_getElem (by omega)⟩
        have g := g1 (unhide HF) lo r hr
        have c0 := g.zero
        have c1 := g 1 _ rfl
        have c2 := g 2 _ rfl
        have c3 := g 3 _ rfl
        have c4 := g 4 _ rfl
        have HCC := hide (unhide HC wr r)
        have hres : decide (cmpI r.x.at_ to_ = 0) = R := by
          rw [unhide HRR]
          have hge := (unhide HQ lo r hr).2 (Nat.le_refl _)
          have hz : cmpI r.x.at_ to_ = 0 ↔ r.x.at_ = to_ := by
            unfold cmpI
            repeat' split
            all_goals omega
          rw [Bool.eq_iff_iff, decide_eq_true_iff, hz, List.any_eq_true]
          constructor
          · intro h
            exact ⟨r.x, List.mem_map_of_mem (List.mem_of_getElem? hr), by simpa using h⟩
          · rintro ⟨y, hy, he⟩
            obtain ⟨r', hr', rfl⟩ := List.mem_map.1 hy
            obtain ⟨p, hp⟩ := List.getElem?_of_mem hr'
            have he' : r'.x.at_ = to_ := by simpa using he
            have hq := unhide HQ p r' hp
            by_cases hpl : p < lo
            · have := hq.1 hpl; omega
            · by_cases hpe : p = lo
              · subst hpe
                rw [hr] at hp
                injection hp with hp
                rw [hp]
                exact he'
              · have := unhide HRI lo p r.x r'.x (by omega) (by rw [List.getElem?_map, hr]; rfl) (by rw [List.getElem?_map, hp]; rfl)
                omega
        have HRES := hide hres
        clear g1 g hr HQ hres
        clear HRR
        obtain ⟨x, ⟨sa, sn, sc⟩⟩ := r
        unfold Sl.v at HCC c4
        simp only at HCC c0 c1 c2 c3 c4 HRES
        go_wp2_with fail
        refine (unhide HCC).mono ?_
        rintro e w1 ⟨rfl, f1⟩
        have HF1 := hide ((unhide HF).trans (f1.mono (unhide HF).size))
        clear f1 HCC
        generalize cmpI x.at_ to_ = cv at *
        by_cases hcv : cv = 0
        · subst hcv
          have : R = true := by rw [← unhide HRES]; rfl
          subst this
          go_wp2
          go_ret2
          exact ⟨_, rfl, unhide HF1⟩
        · have : R = false := by rw [← unhide HRES]; simpa using hcv
          subst this
          have hcv1 : (cv == 0) = false := by simpa using hcv
          go_wp2
          go_ret2
          exact ⟨_, rfl, unhide HF1⟩
      · have hn3 : ¬ (lo : Int) < (n : Int) := by omega
        have hres : R = false := by
          rw [unhide HRR, List.any_eq_false]
          intro y hy
          obtain ⟨r', hr', rfl⟩ := List.mem_map.1 hy
          obtain ⟨p, hp⟩ := List.getElem?_of_mem hr'
          have hq := unhide HQ p r' hp
          have hpl := (List.getElem?_eq_some_iff.1 hp).1
          have := hq.1 (by omega)
          simp
          omega
        subst hres
        clear HQ HRR
        go_wp2
        go_ret2
        first | exact ⟨_, rfl, unhide HF⟩ | (simp; exact unhide HF) | exact unhide HF
set_option maxHeartbeats 800000 in
theorem h9begins_any (w : World) (a : Option Addr) (n c : Nat) (rs : List InR) (hL : Ls 5 inc w a n rs) (hn : n ≤ 1000000000000) (to_ : Int) (hR : Rising (rs.map InR.x)) :
    Calls Tryd.prog 62 #[.slice a n c, .int .i64 to_] w fun e w' => e = .returned (.bool ((rs.map InR.x).any fun y => decide (y.at_ = to_))) ∧ Below w.heap.size w w' := by
  have HB := hide (bsearch_any w a n c rs hL hn to_ hR)
  clear hL hR
  generalize ((rs.map InR.x).any fun y => decide (y.at_ = to_)) = R at *
  go_enter Tryd.func62, Tryd.ntmps62
  go_wp2_with fail
  refine (unhide HB).mono ?_
  rintro e w1 ⟨k, rfl, f1⟩
  have F1 := hide f1
  clear f1 HB
  go_wp2
  go_ret
  exact ⟨rfl, unhide F1⟩
end Go.Proofs.YtpmhcignenfhgaaDoor

/- The landed code: staysWithin. -/
namespace Go.Proofs.YtpmhcignenfhgaaDoor
open Go.RowKit
set_option linter.unusedVariables false
set_option maxRecDepth 100000

set_option maxHeartbeats 1600000 in
theorem h9stays_any (w : World) (a : Option Addr) (n c : Nat) (rs : List InR) (hL : Ls 5 inc w a n rs) (hC : ∀ r ∈ rs, Ls 2 cac w r.s.a r.s.n r.x.cs ∧ r.s.n ≤ 100000000000) (hn : n ≤ 1000000000000) (hR : Rising (rs.map InR.x)) (hT : Tab9 w) :
    Calls Tryd.prog 39 #[.slice a n c] w fun e w' => e = .returned (.bool (leadsP (rs.map InR.x))) ∧ Below w.heap.size w w' := by
  have hln := hL.1
  have HL := hide hL
  have HCC := hide hC
  have HT := hide hT
  have HRI := hide hR
  have HBE : Hid (∀ W to_, Below w.heap.size w W → Calls Tryd.prog 62 #[.slice a n c, .int .i64 to_] W fun e w' => e = .returned (.bool ((rs.map InR.x).any fun y => decide (y.at_ = to_))) ∧ Below W.heap.size W w') := fun W to_ f => h9begins_any W a n c rs (hL.below f) hn to_ hR
  obtain ⟨PO, hPO⟩ : ∃ PO : Ending → World → Prop, PO = fun e w' => e = .returned (.bool (leadsP (rs.map InR.x))) ∧ Below w.heap.size w w' := ⟨_, rfl⟩
  rw [← hPO]
  have HY : Hid (∀ W, (∀ r ∈ rs, ∀ t ∈ targP r.x, ((rs.map InR.x).any fun y => decide (y.at_ = t)) = true) → Below w.heap.size w W → PO (.returned (.bool true)) W) := fun W h f => by
    rw [hPO]
    refine ⟨?_, f⟩
    have : leadsP (rs.map InR.x) = true := by
      unfold leadsP
      rw [List.all_eq_true]
      intro x hx
      obtain ⟨r, hr, rfl⟩ := List.mem_map.1 hx
      rw [List.all_eq_true]
      exact fun t ht => h r hr t ht
    rw [this]
  have HN : Hid (∀ W r t, r ∈ rs → t ∈ targP r.x → ((rs.map InR.x).any fun y => decide (y.at_ = t)) = false → Below w.heap.size w W → PO (.returned (.bool false)) W) := fun W r t hr ht h f => by
    rw [hPO]
    refine ⟨?_, f⟩
    have : leadsP (rs.map InR.x) = false := by
      cases hc : leadsP (rs.map InR.x) with
      | false => rfl
      | true =>
        unfold leadsP at hc
        rw [List.all_eq_true] at hc
        have := hc r.x (List.mem_map_of_mem hr)
        rw [List.all_eq_true] at this
        have := this t ht
        rw [h] at this
        cases this
    rw [this]
  clear hL hC hR hT hPO
  go_enter Tryd.func39, Tryd.ntmps39
  go_wp2
  go_loopw [9] (fun vk W => ∃ k : Nat, k ≤ n ∧ vk = .int .i64 k ∧ Below w.heap.size w W ∧ Hid (∀ (p : Nat) r, p < k → rs[p]? = some r → ∀ t ∈ targP r.x, ((rs.map InR.x).any fun y => decide (y.at_ = t)) = true)) (fun vk _ => n - (intOf vk).toNat)
  case atStart => exact ⟨0, by omega, rfl, Below.refl _ _, fun p r h => by omega⟩
  case round =>
    obtain ⟨k, hk, rfl, hF, HQ⟩ := hrel
    have HF := hide hF
    clear hF
    by_cases hlt : k < n
    · have hlt1 : (k : Int) < (n : Int) := by omega
      obtain ⟨b1, o1, h1a, g1⟩ := Ls.row (unhide HL) (w' := wr) (by omega)
      obtain ⟨r, hr⟩ : ∃ r, rs[k]? = some r := ⟨_, List.getElem?_eq_getElem (by omega)⟩
      have g := g1 (unhide HF) k r hr
      have c0 := g.zero
      have c1 := g 1 _ rfl
      have c2 := g 2 _ rfl
      have c3 := g 3 _ rfl
      have c4 := g 4 _ rfl
      have hmem := List.mem_of_getElem? hr
      have b2 : Below w.heap.size w (wr.alloc (.cells #[.int .i64 r.x.at_, .int .i64 r.x.op, .int .i64 r.x.a, .int .i64 r.x.b, r.s.v] 38)) := bA (unhide HF) _
      obtain ⟨hc1, hc2⟩ := unhide HCC r hmem
      have HTG := hide (hTargets_any _ r.x.at_ r.x.op r.x.a r.x.b r.s r.x.cs (hc1.below b2) (by have := hc2; omega) ((unhide HT).below b2))
      have HF2 := hide b2
      have HHR := hide hr
      have HMEM := hide hmem
      clear g1 g hr hc1 hc2 b2 hmem
      obtain ⟨x, ⟨sa, sn, sc⟩⟩ := r
      unfold Sl.v at HTG c4 HF2
      simp only at HTG c0 c1 c2 c3 c4 HF2
      subst h1a
      go_wp2_with fail
      refine (unhide HTG).mono ?_
      rintro e w1 ⟨v, rfl, o1', f1⟩
      obtain ⟨va, vc, rfl, _, _, _⟩ := o1'.form
      have HLT := hide (o1'.ls rkI)
      have HF1 := hide ((unhide HF2).trans (f1.mono (unhide HF2).size))
      have hTT : targP ⟨x.at_, x.op, x.a, x.b, x.cs⟩ = targP x := rfl
      rw [hTT] at HLT ⊢
      obtain ⟨T, hT⟩ : ∃ T, T = targP x := ⟨_, rfl⟩
      rw [← hT] at HLT ⊢
      have HTX := hide hT
      obtain ⟨m, hm⟩ : ∃ m, m = T.length := ⟨_, rfl⟩
      rw [← hm] at HLT ⊢
      have HM := hide hm
      have hmb : m ≤ 1000000000000 := by
        have h1 := (unhide HCC _ (unhide HMEM))
        have h2 := h1.1.1
        have h3 := h1.2
        simp only at h2 h3
        rw [hm, hT]
        unfold targP
        split
        · simp
        · split
          · simp; omega
          · simp
      clear f1 o1' HTG hTT hT hm
      go_wp2
      go_loopw [16] (fun vj W => ∃ j : Nat, j ≤ m ∧ vj = .int .i64 j ∧ Below w1.heap.size w1 W ∧ Hid (∀ (p : Nat) t, p < j → T[p]? = some t → ((rs.map InR.x).any fun y => decide (y.at_ = t)) = true)) (fun vj _ => m - (intOf vj).toNat)
      case atStart => exact ⟨0, by omega, rfl, Below.refl _ _, fun p r h => by omega⟩
      case round =>
        obtain ⟨j, hj, rfl, hG, HQ2⟩ := hrel
        have HG := hide hG
        have HW := hide ((unhide HF1).trans (hG.mono (unhide HF1).size))
        by_cases hjm : j < m
        · have hjm1 : (j : Int) < (m : Int) := by omega
          obtain ⟨b3, o3, h3a, g3⟩ := Ls.row (unhide HLT) (w' := wr) (by omega)
          subst h3a
          obtain ⟨t, ht⟩ : ∃ t, T[j]? = some t := ⟨_, List.getElem?_eq_getElem (by have := unhide HM; omega)⟩
          have d0 := (g3 hG j t ht).zero
          rw [Nat.mul_one] at d0
          have HB := hide (unhide HBE wr t (unhide HW))
          have HTM : Hid (t ∈ targP x) := by show t ∈ targP x; rw [← unhide HTX]; exact List.mem_of_getElem? ht
          have HHT := hide ht
          clear g3 hG ht
          generalize hany : ((rs.map InR.x).any fun y => decide (y.at_ = t)) = R at *
          have HANY := hide hany
          clear hany
          go_wp2_with fail
          refine (unhide HB).mono ?_
          rintro e w4 ⟨rfl, f4⟩
          have HG4 := hide ((unhide HG).trans (f4.mono (unhide HG).size))
          have HW4 := hide ((unhide HW).trans (f4.mono (unhide HW).size))
          clear f4 HB
          cases R with
          | true =>
            have HQ3 : Hid (∀ (p : Nat) t, p < j + 1 → T[p]? = some t → ((rs.map InR.x).any fun y => decide (y.at_ = t)) = true) := fun p t' hp ht' => by
              by_cases hpe : p = j
              · subst hpe
                rw [unhide HHT] at ht'
                injection ht' with ht'
                rw [← ht']
                exact unhide HANY
              · exact unhide HQ2 p t' (by omega) ht'
            clear HQ2 HHT HANY
            go_wp2
            go_roundw
            case rel => exact ⟨j + 1, by omega, by go_num, unhide HG4, HQ3⟩
            case measure => simp [intOf]; omega
          | false =>
            have HEND := hide (unhide HN w4 _ t (unhide HMEM) (unhide HTM) (unhide HANY) (unhide HW4))
            clear HQ2 HHT HANY
            go_wp2
            exact unhide HEND
        · obtain rfl : j = m := by omega
          have HQ' : Hid (∀ (p : Nat) r, p < k + 1 → rs[p]? = some r → ∀ t ∈ targP r.x, ((rs.map InR.x).any fun y => decide (y.at_ = t)) = true) := fun p r' hp hr' t ht => by
            by_cases hpe : p = k
            · subst hpe
              rw [unhide HHR] at hr'
              injection hr' with hr'
              subst hr'
              simp only at ht
              rw [← unhide HTX] at ht
              obtain ⟨q, hq⟩ := List.getElem?_of_mem ht
              exact unhide HQ2 q t (by have := (List.getElem?_eq_some_iff.1 hq).1; have := unhide HM; omega) hq
            · exact unhide HQ p r' (by omega) hr' t ht
          clear HQ HQ2 hG
          go_wp2
          go_roundw
          case rel => exact ⟨k + 1, by omega, by go_num, unhide HW, HQ'⟩
          case measure => simp [intOf]; omega
    · obtain rfl : k = n := by omega
      have HEND := hide (unhide HY wr (fun r hr t ht => by
        obtain ⟨p, hp⟩ := List.getElem?_of_mem hr
        exact unhide HQ p r (by have := (List.getElem?_eq_some_iff.1 hp).1; omega) hp t ht) (unhide HF))
      clear HQ
      go_wp2
      exact unhide HEND
end Go.Proofs.YtpmhcignenfhgaaDoor

/- The landed code: an instruction read, as plain values by its form. -/
namespace Go.Proofs.YtpmhcignenfhgaaDoor
open Go.RowKit
set_option linter.unusedVariables false
set_option maxRecDepth 100000

/-- What comes behind the Op, by its form. -/
def insK (bs : List UInt8) (i : Nat) (f : Nat) (op : Int) (j : Nat) : Option (Ins × Nat) :=
  if f = 1 then some (⟨i, op, 0, 0, []⟩, j)
  else if f = 2 then (gR bs j 1 true).bind fun x => some (⟨i, op, x.1, 0, []⟩, x.2)
  else if f = 3 then (gR bs j 2 true).bind fun x => some (⟨i, op, x.1, 0, []⟩, x.2)
  else if f = 4 then (gR bs j 1 false).bind fun x => some (⟨i, op, x.1, 0, []⟩, x.2)
  else if f = 5 then (gR bs j 2 false).bind fun x => some (⟨i, op, x.1, 0, []⟩, x.2)
  else if f = 6 then (gR bs j 1 false).bind fun x => (gR bs x.2 1 true).bind fun y => some (⟨i, op, x.1, y.1, []⟩, y.2)
  else if f = 7 then (gR bs j 2 true).bind fun x => some (⟨i, op, i + x.1, 0, []⟩, x.2)
  else if f = 8 then (padG bs j).bind fun q => (gR bs q.2 4 true).bind fun x => (gR bs x.2 4 true).bind fun y => (tabG bs i y.1 y.2).bind fun r => some (⟨i, op, i + x.1, y.1, r.1⟩, r.2)
  else if f = 9 then (padG bs j).bind fun q => (gR bs q.2 4 true).bind fun x => (seaG bs i x.2).bind fun r => some (⟨i, op, i + x.1, 0, r.1⟩, r.2)
  else none
theorem insR_K (bs : List UInt8) (i : Nat) : insR bs i = (gR bs i 1 false).bind fun o => insK bs i (formP o.1) o.1 o.2 := by
  unfold insR
  cases gR bs i 1 false with
  | none => rfl
  | some o =>
    simp only [Option.bind_some]
    unfold insK padG tabG seaG
    generalize formP o.1 = f
    by_cases h8 : f = 8
    · subst h8
      simp only [show ¬ (8 = 1) by decide, show ¬ (8 = 2) by decide, show ¬ (8 = 3) by decide, show ¬ (8 = 4) by decide, show ¬ (8 = 5) by decide, show ¬ (8 = 6) by decide, show ¬ (8 = 7) by decide, if_true, if_false]
      cases padR bs 3 o.2 with
      | none => rfl
      | some q =>
        simp only [Option.bind_some]
        cases gR bs q 4 true with
        | none => rfl
        | some x =>
          simp only [Option.bind_some]
          cases gR bs x.2 4 true with
          | none => rfl
          | some y =>
            simp only [Option.bind_some]
            cases gR bs y.2 4 true with
            | none => rfl
            | some z =>
              simp only [Option.bind_some]
              split <;> rfl
    by_cases h9 : f = 9
    · subst h9
      simp only [show ¬ (9 = 1) by decide, show ¬ (9 = 2) by decide, show ¬ (9 = 3) by decide, show ¬ (9 = 4) by decide, show ¬ (9 = 5) by decide, show ¬ (9 = 6) by decide, show ¬ (9 = 7) by decide, show ¬ (9 = 8) by decide, if_true, if_false]
      cases padR bs 3 o.2 with
      | none => rfl
      | some q =>
        simp only [Option.bind_some]
        cases gR bs q 4 true with
        | none => rfl
        | some x =>
          simp only [Option.bind_some]
          cases gR bs x.2 4 false with
          | none => rfl
          | some y =>
            simp only [Option.bind_some]
            split
            · cases seaR bs i y.1.toNat y.2 with
              | none => rfl
              | some r =>
                simp only [Option.bind_some]
                split <;> rfl
            · rfl
    rw [if_neg h8, if_neg h9]
    simp only [if_neg h8, if_neg h9]
theorem formP_le (op : Int) : formP op ≤ 9 := by
  unfold formP
  repeat' split
  all_goals omega
def InsFit (x : Ins) : Prop := (-9000000000000000000 ≤ x.at_ ∧ x.at_ ≤ 9000000000000000000) ∧ (-9000000000000000000 ≤ x.op ∧ x.op ≤ 9000000000000000000) ∧ (-9000000000000000000 ≤ x.a ∧ x.a ≤ 9000000000000000000) ∧ (-9000000000000000000 ≤ x.b ∧ x.b ≤ 9000000000000000000) ∧ (∀ c ∈ x.cs, CasFit c) ∧ x.cs.length ≤ 256
end Go.Proofs.YtpmhcignenfhgaaDoor
