/- The walk of FrameWrites. -/
import Derived.Test.YtnkmcndbbapeoaaDoorFrTurned
namespace Go.Proofs.YtnkmcndbbapeoaaDoor
open Go.RowKit
set_option linter.unusedVariables false

/-- Records that came in. -/
structure RArg (w : World) (a : Option Addr) (n cap : Nat) (rs : List Rec) : Prop where
  ok : Rs w a n rs
  room : n ≤ cap
  most : n ≤ 5864062014806
  lid : cap ≤ 9223372036854775807
  nil : a = none → n = 0 ∧ cap = 0
  fit : ∀ r ∈ rs, recFit r
theorem RArg.below {w w' : World} {a : Option Addr} {n cap : Nat} {rs : List Rec} (h : RArg w a n cap rs) (f : Below w.heap.size w w') : RArg w' a n cap rs := ⟨h.ok.below f, h.room, h.most, h.lid, h.nil, h.fit⟩
theorem RArg.get {w : World} {a : Option Addr} {n cap : Nat} {rs : List Rec} (h : RArg w a n cap rs) {k : Nat} (hk : k < n) : ∃ b o r, a = some ⟨b, o, none⟩ ∧ rs[k]? = some r ∧ recFit r ∧ w.cell? ⟨b, o + k * 2, none⟩ = some (.int .i64 r.epoch) ∧ w.cell? ⟨b, o + k * 2 + 1, none⟩ = some (.string ⟨r.data.toArray⟩) := by
  obtain ⟨b, o, rfl, hb⟩ := h.ok.2.resolve_left (by omega)
  have hl := h.ok.1
  obtain ⟨r, hr⟩ : ∃ r, rs[k]? = some r := ⟨_, List.getElem?_eq_getElem (by omega)⟩
  obtain ⟨c0, c1⟩ := recs_get hb hr
  exact ⟨b, o, r, rfl, hr, h.fit r (List.mem_of_getElem? hr), c0, c1⟩

/-- Records appended to records of one's own. -/
theorem append_recs {w : World} {ops : Array Oper} {rest : List Oper} {o : Oper} {a : Act} {Q : Exit → Act → World → Prop} (hgd : o.guard = none) (s x : Operand)
    (ho : o.op = .call { callee := .builtin .append, args := #[s, x], argTypes := #[22, 22] }) (w0 : World) (v : Value) (m : Nat) (pre : List Rec)
    (hs : a.eval s = v) (hown : w.ownsRow w0.heap.size 24 2 v m (rv pre)) (f : Below w0.heap.size w0 w)
    (b : Option Addr) (n c : Nat) (rs : List Rec) (hx : a.eval x = .slice b n c) (hA : Rs w b n rs) (hnil : b = none → n = 0 ∧ c = 0) (hmax : m + n ≤ 1000000)
    (h : ∀ v' w', w'.ownsRow w0.heap.size 24 2 v' (m + n) (rv (pre ++ rs)) → Below w0.heap.size w0 w' → wpList Tryd.prog ops Q rest (a.put o.dst v') w') : wpList Tryd.prog ops Q (o :: rest) a w := by
  obtain ⟨i0, hi, hz0, hz1, hz2⟩ := info_parts infoR
  cases b with
  | none =>
    obtain ⟨rfl, rfl⟩ := hnil rfl
    have : rs = [] := List.eq_nil_of_length_eq_zero hA.1
    subst this
    rw [List.append_nil] at h
    exact wpList_append_own_none hgd s x 22 ho w0.heap.size 24 i0 2 Tryd.underlying22 hi _ _ _ hs hown hx (h _ _ hown f)
  | some ad =>
    have hsrc : ∀ j u, (rv rs)[j]? = some u → w.cell? (ad.add j) = some u := by
      rcases hA.2 with h0 | ⟨b, o, e, hb⟩
      · have : rs = [] := List.eq_nil_of_length_eq_zero (by rw [hA.1]; exact h0)
        subst this
        intro j u hu
        simp [rv] at hu
      · exact fun j u hu => hb ad (by rw [← e]) j u hu
    refine wpList_append_own _ hgd s x 22 ho w0.heap.size 24 i0 (.agg #[.int .i64 0, .string ⟨#[]⟩]) 2 24 Tryd.underlying22 hi hz0 hz1 hz2 rfl (by decide) _ _ _ hs hown ad n c (rv rs) hx (by rw [rv_len, hA.1]) hsrc (rv_one _) (by unfold maxLen; omega) (by omega) f.size ?_
    intro v' w' ho' hg' _
    rw [← rv_append] at ho'
    exact h v' w' ho' (f.grown hg' f.size (fun k hk => (hown.lt k hk).1))
theorem recs_none (w : World) : (w.alloc (.cells #[] 24)).ownsRow w.heap.size 24 2 (.slice (some ⟨w.heap.size, 0, none⟩) 0 0) 0 (rv []) := World.ownsRow_made w #[] 0 (Nat.le_refl _) (by simp) rfl
theorem own2_base {w : World} {base base' n : Nat} {v : Value} {xs : List Value} (h : w.ownsRow base 24 2 v n xs) (hb : base' ≤ base) : w.ownsRow base' 24 2 v n xs :=
  ⟨h.1, h.2.elim .inl (fun ⟨g, cap, cur, hv, hg, r⟩ => .inr ⟨g, cap, cur, hv, Nat.le_trans hb hg, r⟩)⟩
theorem gAll {T : World → Prop} (F : Frames T) {w W : World} {a : Option Addr} {n cap : Nat} {rs : List Rec} (hT : T w) (f : Below w.heap.size w W) (h : Rs W a n rs) (hf : ∀ r ∈ rs, recFit r) (hn : n ≤ 1000) :
    Calls Tryd.prog 8 #[.slice a n cap] W fun e w' => ∃ a1 c1, e = .returned (.tuple #[.slice a1 (allB rs).length c1, .int .i64 (allErr rs)]) ∧ Arg w' a1 (allB rs).length c1 (allB rs) ∧ Below w.heap.size w w' ∧ Below W.heap.size W w' := by
  refine (F.all W a n cap rs (F.below _ _ hT f) h hf hn).mono ?_
  rintro e w' ⟨v, rfl, o, f'⟩
  obtain ⟨a1, c1, rfl, _⟩ := own_form o
  exact ⟨a1, c1, rfl, arg_of_own rfl o, f.trans (f'.mono f.size), f'⟩
theorem gzAll {w W : World} {a : Option Addr} {n cap : Nat} {rs : List Rec} (f : Below w.heap.size w W) (h : Rs W a n rs) (hn : n ≤ 1000) :
    Calls Tryd.prog 9 #[.slice a n cap] W fun e w' => ∃ a1 c1, e = .returned (.tuple #[.slice a1 (allB rs).length c1, .int .i64 (allErr rs)]) ∧ Arg w' a1 (allB rs).length c1 (allB rs) ∧ Below w.heap.size w w' ∧ Below W.heap.size W w' := by
  refine (zAll_any W a n cap rs h (by omega)).mono ?_
  rintro e w' ⟨v, rfl, o, f'⟩
  obtain ⟨a1, c1, rfl, _⟩ := own_form o
  exact ⟨a1, c1, rfl, arg_of_own rfl o, f.trans (f'.mono f.size), f'⟩
theorem gzWrite {w W : World} {r : Rec} (f : Below w.heap.size w W) :
    Calls Tryd.prog 12 #[recV r] W fun e w' => ∃ a1 c1, e = .returned (.tuple #[.slice a1 (writeL r).length c1, .int .i64 (writeE r)]) ∧ Arg w' a1 (writeL r).length c1 (writeL r) ∧ Below w.heap.size w w' ∧ Below W.heap.size W w' := by
  refine (zWrite_any W r).mono ?_
  rintro e w' ⟨v, rfl, o, f'⟩
  obtain ⟨a1, c1, rfl, _⟩ := own_form o
  exact ⟨a1, c1, rfl, arg_of_own rfl o, f.trans (f'.mono f.size), f'⟩
theorem gSize {T : World → Prop} (F : Frames T) {w W : World} {r : Rec} (hT : T w) (f : Below w.heap.size w W) (hr : recFit r) :
    Calls Tryd.prog 13 #[recV r] W fun e w' => e = .returned (.int .i64 ((writeL r).length : Int)) ∧ Below w.heap.size w w' ∧ Below W.heap.size W w' := by
  refine (F.size W r (F.below _ _ hT f) hr).mono ?_
  rintro e w' ⟨rfl, f'⟩
  exact ⟨rfl, f.trans (f'.mono f.size), f'⟩

set_option maxHeartbeats 3200000 in
set_option maxRecDepth 100000 in
theorem writes_walk {T : World → Prop} (F : Frames T) (w : World) (a : Option Addr) (n cap : Nat) (rs : List Rec) (hT : T w) (hA : RArg w a n cap rs) :
    Calls Tryd.prog 3 #[.slice a n cap] w fun e w' => e = .returned (.bool true) ∧ Below w.heap.size w w' := by
  have HT := hide hT
  have HA := hide hA
  have hmost := hA.most
  clear hT hA
  go_enter Tryd.func3, Tryd.ntmps3
  go_wp2
  go_loopw [3, 4] (fun s i wr => ∃ k z : Nat, k ≤ n ∧ i = .int .i64 k ∧ s = .int .i64 z ∧ z ≤ 5000 * k ∧ Below w.heap.size w wr) (fun _ i _ => n - (intOf i).toNat)
  case atStart => exact ⟨0, 0, by omega, rfl, rfl, by omega, Below.refl _ _⟩
  case round =>
    obtain ⟨k, z, hk, rfl, rfl, hz, hR⟩ := hrel
    by_cases hlt : k < n
    · have hlt1 : (k : Int) < (n : Int) := by omega
      obtain ⟨b, o, r, rfl, hr, hfit, c0, c1⟩ := ((unhide HA).below hR).get hlt
      have hd : ((⟨r.data.toArray⟩ : ByteArray)).size = r.data.length := by simp [ByteArray.size]
      have HR := hide hR
      have hdl := hfit.2.2
      clear hR hr hfit
      go_wp2
      go_roundw
      case rel =>
        refine ⟨k + 1, z + min r.data.length 5000, by omega, by go_num, congrArg (Value.int .i64) ?_, by omega, unhide HR⟩
        split <;> omega
      case measure => simp [intOf]; omega
    · obtain rfl : k = n := by omega
      have HR := hide hR
      by_cases h1 : 12000 < z
      · have g1 : decide ((12000 : Int) < (z : Int)) = true := by simp; omega
        clear hR
        go_wp2
        go_ret
        exact ⟨rfl, unhide HR⟩
      · have g1 : decide ((12000 : Int) < (z : Int)) = false := by simp; omega
        by_cases h2 : 100 < k
        · have g2 : decide ((100 : Int) < (k : Int)) = true := by simp; omega
          clear hR
          go_wp2
          go_ret
          exact ⟨rfl, unhide HR⟩
        · have g2 : decide ((100 : Int) < (k : Int)) = false := by simp; omega
          have f0 : Below w.heap.size w (wr.alloc (.cells #[] 24)) := hR.alloc hR.size _
          have hA0 := (unhide HA).below f0
          have hown := own2_base (recs_none wr) hR.size
          have hst := hA0.ok
          have hnil := hA0.nil
          clear hR HR
          go_wp2_with (at_builtin; refine append_recs rfl (.tmp 37) (.tmp 38) rfl w _ 0 [] rfl hown f0 a k cap rs rfl hst hnil (by omega) ?_)
          intro v1 w1 o1 f1
          obtain ⟨a1, c1, rfl⟩ := own2_form o1
          have H1 := hide (gAll F (unhide HT) f1 (rs_of_own o1) (unhide HA).fit (cap := c1) (by omega))
          clear o1 f0 hA0 hown hst hnil
          generalize hab : allB rs = ab at *
          generalize hae : allErr rs = ae at *
          go_wp2_with fail
          refine (unhide H1).mono ?_
          rintro e w2 ⟨a2, c2, rfl, A2, f2, _⟩
          have H2 := gzAll (cap := cap) f2 ((unhide HA).below f2).ok (by omega)
          rw [hab, hae] at H2
          have H2 := hide H2
          have AA2 := hide A2
          clear A2 f2 H1
          go_wp2_with fail
          refine (unhide H2).mono ?_
          rintro e w3 ⟨a3, c3, rfl, A3, f3, b3⟩
          have H3 := hide (SameBytes_same w3 a2 a3 ab _ c2 c3 ((unhide AA2).below b3).bs A3.bs)
          have F3 := hide f3
          clear A3 f3 b3 AA2 H2 f1
          go_wp2_with fail
          refine (unhide H3).mono ?_
          rintro e w4 ⟨rfl, rfl⟩
          clear H3
          go_wp2
          go_loopw [9] (fun i W => ∃ j : Nat, j ≤ k ∧ i = .int .i64 j ∧ Below w.heap.size w W) (fun i _ => k - (intOf i).toNat)
          case atStart => exact ⟨0, by omega, rfl, unhide F3⟩
          case round =>
            clear F3
            obtain ⟨j, hj, rfl, hR⟩ := hrel
            by_cases hlt : j < k
            · have hlt1 : (j : Int) < (k : Int) := by omega
              obtain ⟨b, o, r, rfl, hr, hfit, d0, d1⟩ := ((unhide HA).below hR).get hlt
              have H4 := gWrite F (unhide HT) hR hfit
              unfold recV at H4
              have hwl := writeL_len r
              have H4 := hide H4
              have HFIT := hide hfit
              have HR := hide hR
              have K : Hid (∀ W, Below w.heap.size w W → W.cell? ⟨b, o + j * 2, none⟩ = some (.int .i64 r.epoch) ∧ W.cell? ⟨b, o + j * 2 + 1, none⟩ = some (.string ⟨r.data.toArray⟩)) := fun W f => by
                obtain ⟨b', o', r', e', hr', _, q0, q1⟩ := ((unhide HA).below f).get hlt
                injection e' with e'
                injection e' with e1 e2
                subst e1
                subst e2
                rw [hr] at hr'
                injection hr' with e3
                subst e3
                exact ⟨q0, q1⟩
              clear hR hfit hr
              go_wp2_with fail
              refine (unhide H4).mono ?_
              rintro e W4 ⟨a4, c4, rfl, o4, f4, _⟩
              have A4 := arg_of_own rfl o4
              have p0 := (unhide K W4 f4).1
              have p1 := (unhide K W4 f4).2
              have H5 := gzWrite (r := r) f4
              unfold recV at H5
              have H5 := hide H5
              have AA4 := hide A4
              clear A4 o4 f4 H4 d0 d1
              go_wp2_with fail
              refine (unhide H5).mono ?_
              rintro e W5 ⟨a5, c5, rfl, A5, f5, b5⟩
              have q0 := (unhide K W5 f5).1
              have q1 := (unhide K W5 f5).2
              have H6 := hide (SameBytes_same W5 a4 a5 (writeL r) _ c4 c5 ((unhide AA4).below b5).bs A5.bs)
              have H7 := gSize F (unhide HT) f5 (unhide HFIT)
              unfold recV at H7
              have H7 := hide H7
              clear A5 f5 b5 AA4 H5 p0 p1
              generalize writeE r = we at *
              generalize writeL r = wl at *
              go_wp2_with fail
              refine (unhide H6).mono ?_
              rintro e W6 ⟨rfl, rfl⟩
              clear H6
              go_wp2_with fail
              refine (unhide H7).mono ?_
              rintro e W7 ⟨rfl, f7, _⟩
              have F7 := hide f7
              clear f7 H7 q0 q1
              go_wp2
              go_roundw
              case rel => exact ⟨j + 1, by omega, by go_num, unhide F7⟩
              case measure => simp [intOf]; omega
            · obtain rfl : j = k := by omega
              have H8 := hide (gWorks3 F (unhide HT) hR)
              clear hR
              go_wp2_with fail
              refine (unhide H8).mono ?_
              rintro e w9 ⟨rfl, f9, _⟩
              have F9 := hide f9
              clear f9 H8
              go_wp2
              go_ret
              exact ⟨rfl, unhide F9⟩

end Go.Proofs.YtnkmcndbbapeoaaDoor
