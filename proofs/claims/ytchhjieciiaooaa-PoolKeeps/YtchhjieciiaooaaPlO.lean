/- The document's own pool: text, utf, add. -/
import Derived.Test.YtchhjieciiaooaaPlN
namespace Go.Proofs.Ytchhjieciiaooaa
open Go.RowKit
set_option linter.unusedVariables false

theorem strI (l : List UInt8) (i : Nat) (b : UInt8) (h : l[i]? = some b) : ∀ w, (Instr.index 9 (.string ⟨l.toArray⟩) (.int .i64 (i : Int))).run Try.prog w = .ok (.int .u8 (b.toNat : Int)) w := fun w => by
  have hl : i < l.length := (List.getElem?_eq_some_iff.1 h).1
  have hb := (List.getElem?_eq_some_iff.1 h).2
  have hs : (⟨l.toArray⟩ : ByteArray).size = l.length := by simp [ByteArray.size]
  have := run_index_string (P := Try.prog) (w := w) 9 ⟨l.toArray⟩ .i64 (i : Int) (by kernel_rfl)
  rw [dif_pos ⟨by omega, by rw [hs]; omega⟩] at this
  rw [this]
  have e : (⟨l.toArray⟩ : ByteArray)[(i : Int).toNat]'(by rw [hs]; omega) = b := by
    rw [← hb]
    rfl
  rw [e]
def okB (x : UInt8) : Bool := decide (33 ≤ x.toNat) && decide (x.toNat ≤ 126)
theorem textB_eq (s : List UInt8) : textB s = (s.all okB && decide (s.length ≤ 255)) := rfl

set_option maxHeartbeats 1600000 in
theorem jtext_any (w : World) (s : List UInt8) (hs : s.length ≤ 140737488355328) :
    Calls Try.prog 39 #[.string ⟨s.toArray⟩] w fun e w' => e = .returned (.bool (textB s)) ∧ w' = w := by
  have hsz : (⟨s.toArray⟩ : ByteArray).size = s.length := by simp [ByteArray.size]
  have H := hide (fun k (hk : k < s.length) => strI s k s[k] (List.getElem?_eq_getElem hk))
  obtain ⟨T, hT⟩ : ∃ T, T = textB s := ⟨_, rfl⟩
  rw [← hT]
  have HT := hide hT
  generalize (⟨s.toArray⟩ : ByteArray) = st at *
  clear hT
  go_enter Try.func39, Try.ntmps39
  go_wp2
  go_loopw [3] (fun i wr => ∃ k : Nat, k ≤ s.length ∧ i = .int .i64 k ∧ (∀ j b, j < k → s[j]? = some b → okB b = true) ∧ wr = w) (fun i _ => s.length - (intOf i).toNat)
  case atStart => exact ⟨0, by omega, rfl, fun j b h => by omega, rfl⟩
  case round =>
    obtain ⟨k, hk, rfl, hall, e0⟩ := hrel
    have e0' := e0.symm
    clear e0
    subst e0'
    by_cases hlt : k < s.length
    · have hlt1 : (k : Int) < (s.length : Int) := by omega
      have hidx := unhide H k hlt
      have hks : s[k]? = some s[k] := List.getElem?_eq_getElem hlt
      obtain ⟨b, hb⟩ : ∃ b, b = s[k] := ⟨_, rfl⟩
      rw [← hb] at hidx hks
      by_cases h1 : b.toNat < 33
      · have e1 : Hid (T = false) := by
          rw [unhide HT, textB_eq]
          have : s.all okB = false := by
            rw [List.all_eq_false]
            exact ⟨b, List.mem_of_getElem? hks, by unfold okB; simp; omega⟩
          rw [this]
          rfl
        have h1' : (b.toNat : Int) < 33 := by omega
        clear hall hks hb h1
        generalize b.toNat = B at *
        go_wp2
        go_ret
        exact ⟨by rw [unhide e1]; rfl, rfl⟩
      · by_cases h2 : 126 < b.toNat
        · have e1 : Hid (T = false) := by
            rw [unhide HT, textB_eq]
            have : s.all okB = false := by
              rw [List.all_eq_false]
              exact ⟨b, List.mem_of_getElem? hks, by unfold okB; simp; omega⟩
            rw [this]
            rfl
          have h1' : ¬ (b.toNat : Int) < 33 := by omega
          have h2' : (126 : Int) < (b.toNat : Int) := by omega
          clear hall hks hb h1 h2
          generalize b.toNat = B at *
          go_wp2
          go_ret
          exact ⟨by rw [unhide e1]; rfl, rfl⟩
        · have HA : Hid (∀ j b, j < k + 1 → s[j]? = some b → okB b = true) := fun j b' hj hb' => by
            by_cases hjk : j = k
            · subst hjk
              rw [hks] at hb'
              injection hb' with hb'
              subst hb'
              unfold okB
              simp
              omega
            · exact hall j b' (by omega) hb'
          have h1' : ¬ (b.toNat : Int) < 33 := by omega
          have h2' : ¬ (126 : Int) < (b.toNat : Int) := by omega
          clear hall hks hb h1 h2
          generalize b.toNat = B at *
          go_wp2
          go_roundw
          case rel => exact ⟨k + 1, by omega, by go_num, unhide HA, by first | rfl | trivial⟩
          case measure => simp [intOf]; omega
    · obtain rfl : k = s.length := by omega
      have e1 : Hid (T = decide ((s.length : Int) ≤ 255)) := by
        rw [unhide HT, textB_eq]
        have : s.all okB = true := by
          rw [List.all_eq_true]
          intro x hx
          obtain ⟨j, hj⟩ := List.mem_iff_getElem?.1 hx
          exact hall j x ((List.getElem?_eq_some_iff.1 hj).1) hj
        rw [this, Bool.true_and]
        congr 1
        simp
        omega
      clear hall H
      generalize s.length = n at *
      go_wp2
      go_ret
      exact ⟨by rw [unhide e1]; rfl, rfl⟩

theorem es_of_block {w : World} {q : Nat} {l : List Ent} {e : TypeId} {f : Nat × Nat} (h : w.heap[q]? = some (.cells (ev l).toArray e f)) : EntsAt w (some ⟨q, 0, none⟩) l := fun ad e j u hu => by
  injection e with e
  subst e
  rw [Addr.add_mid, Nat.zero_add, cell_of_row _ _ _ _ _ _ h]
  simpa using hu
theorem wpE_append {w : World} {o : Oper} {a : Act} {K : Act → World → Prop} {Q : Exit → Act → World → Prop} (s x : Operand) (ho : o.op = .call { callee := .builtin .append, args := #[s, x], argTypes := #[29, 29] })
    (base : Nat) (v : Value) (n : Nat) (xs : List Ent) (hs : a.eval s = v) (hown : w.ownsRow base 67 5 v n (ev xs)) (src : Option Addr) (m c : Nat) (ys : List Ent) (hx : a.eval x = .slice src m c) (hb : Es w src m ys) (hnil : src = none → m = 0 ∧ c = 0)
    (hsm : (n + m) * 48 ≤ 140737488355328) (hbase : base ≤ w.heap.size) (h : ∀ v' w', w'.ownsRow base 67 5 v' (n + m) (ev (xs ++ ys)) → w.grownBy w' v.ownBlock → K (a.put o.dst v') w') : o.wp Try.prog a w K Q := by
  obtain ⟨i0, hi, hz0, hz1, hz2⟩ := info_parts infoE
  cases src with
  | none =>
    obtain ⟨rfl, rfl⟩ := hnil rfl
    have h0 : ys = [] := List.eq_nil_of_length_eq_zero hb.1
    subst h0
    have hrun := run_append_owned_none (P := Try.prog) (w := w) base 29 o.type 67 i0 5 Try.underlying29 hi v n (ev xs) hown
    unfold Oper.wp
    simp [execOp, ho, resolve, invoke, builtin, hs, hx, hrun, Result.andThen]
    exact h v w (by rw [List.append_nil]; exact hown) ⟨rfl, rfl, rfl, Nat.le_refl _, fun _ _ _ => rfl⟩
  | some ad =>
    have hsrc : ∀ j u, (ev ys)[j]? = some u → w.cell? (ad.add j) = some u := by
      rcases hb.2 with h0 | ⟨b, o, e, hE⟩
      · have : ys = [] := List.eq_nil_of_length_eq_zero (by rw [hb.1]; exact h0)
        subst this
        intro j u hu
        simp [ev] at hu
      · exact fun j u hu => hE ad (by rw [← e]) j u hu
    refine wp_append_own w s x 29 ho base 67 i0 (.agg #[.int .i64 0, .string ⟨#[]⟩, .int .i64 0, .int .i64 0, .int .i64 0]) 5 48 Try.underlying29 hi hz0 hz1 hz2 rfl (by decide) v n (ev xs) hs hown ad m c (ev ys) hx (by rw [ev_len, hb.1]) hsrc (ev_one _) (by unfold maxLen; omega) hsm hbase ?_
    intro v' w' h1 h2 _
    exact h v' w' (by rw [ev_append]; exact h1) h2
theorem listE_append {w : World} {ops : Array Oper} {rest : List Oper} {o : Oper} {a : Act} {Q : Exit → Act → World → Prop} (hgd : o.guard = none) (s x : Operand) (ho : o.op = .call { callee := .builtin .append, args := #[s, x], argTypes := #[29, 29] })
    (base : Nat) (v : Value) (n : Nat) (xs : List Ent) (hs : a.eval s = v) (hown : w.ownsRow base 67 5 v n (ev xs)) (src : Option Addr) (m c : Nat) (ys : List Ent) (hx : a.eval x = .slice src m c) (hb : Es w src m ys) (hnil : src = none → m = 0 ∧ c = 0)
    (hsm : (n + m) * 48 ≤ 140737488355328) (hbase : base ≤ w.heap.size) (h : ∀ v' w', w'.ownsRow base 67 5 v' (n + m) (ev (xs ++ ys)) → w.grownBy w' v.ownBlock → wpList Try.prog ops Q rest (a.put o.dst v') w') : wpList Try.prog ops Q (o :: rest) a w :=
  wpList_plain hgd fun K hK => wpE_append s x ho base v n xs hs hown src m c ys hx hb hnil hsm hbase (fun v' w' h1 h2 => hK _ _ (h v' w' h1 h2))
theorem stepE_append {w : World} {ops : Array Oper} {o : Oper} {a : Act} {K : Act → World → Prop} {Q : Exit → Act → World → Prop} {E : Prop} (hgd : o.guard = none) (s x : Operand) (ho : o.op = .call { callee := .builtin .append, args := #[s, x], argTypes := #[29, 29] })
    (base : Nat) (v : Value) (n : Nat) (xs : List Ent) (hs : a.eval s = v) (hown : w.ownsRow base 67 5 v n (ev xs)) (src : Option Addr) (m c : Nat) (ys : List Ent) (hx : a.eval x = .slice src m c) (hb : Es w src m ys) (hnil : src = none → m = 0 ∧ c = 0)
    (hsm : (n + m) * 48 ≤ 140737488355328) (hbase : base ≤ w.heap.size) (h : ∀ v' w', w'.ownsRow base 67 5 v' (n + m) (ev (xs ++ ys)) → w.grownBy w' v.ownBlock → K (a.put o.dst v') w') :
    if Region.wanted o (yielded ops a.tmps) = true then Oper.wp Try.prog o a w K Q else E := by
  rw [if_pos (by simp [Region.wanted, hgd])]
  exact wpE_append s x ho base v n xs hs hown src m c ys hx hb hnil hsm hbase h
theorem ents_none (w : World) (B : Nat) (hB : B ≤ w.heap.size) : (w.alloc (.cells #[] 67)).ownsRow B 67 5 (.slice (some ⟨w.heap.size, 0, none⟩) 0 0) 0 (ev []) := World.ownsRow_made w #[] 0 hB (by simp) rfl

set_option maxHeartbeats 1600000 in
theorem own7_any (w : World) (a : Option Addr) (n c : Nat) (l : List Ent) (h : EArg w a n c l) (hn : n * 48 ≤ 140737488351232) :
    Calls Try.prog 18 #[.slice a n c] w fun e w' => ∃ v, e = .returned v ∧ w'.ownsRow w.heap.size 67 5 v n (ev l) ∧ Below w.heap.size w w' := by
  have hown := ents_none w w.heap.size (Nat.le_refl _)
  have HB := hide (h.es.below ((Below.refl _ _).alloc (Nat.le_refl _) (.cells #[] 67)))
  have HN := hide h.nil
  clear h
  go_enter Try.func18, Try.ntmps18
  go_wp2_with (at_builtin; refine listE_append rfl _ _ rfl w.heap.size _ 0 [] rfl hown a n c l rfl (unhide HB) (unhide HN) (by omega) (by simp) ?_)
  intro v' w1 o1 g1
  have hb1 : Below w.heap.size w w1 := ((Below.refl _ _).alloc (Nat.le_refl _) _).grown g1 (by simp) (fun k hk => by simp [Value.ownBlock] at hk; omega)
  have HO := hide o1
  have HB1 := hide hb1
  clear o1 g1 hb1 hown HB HN
  go_wp2
  go_ret
  exact ⟨_, rfl, unhide HO, unhide HB1⟩

theorem entC {w : World} {q : Nat} {x : Ent} {T : TypeId} {f : Nat × Nat} (h : w.heap[q]? = some (.cells #[.int .i64 x.tag, .string ⟨x.text.toArray⟩, .int .i64 x.n, .int .i64 x.a, .int .i64 x.b] T f)) :
    w.cell? ⟨q, 0, none⟩ = some (.int .i64 x.tag) ∧ w.cell? ⟨q, 1, none⟩ = some (.string ⟨x.text.toArray⟩) ∧ w.cell? ⟨q, 2, none⟩ = some (.int .i64 x.n) ∧ w.cell? ⟨q, 3, none⟩ = some (.int .i64 x.a) ∧ w.cell? ⟨q, 4, none⟩ = some (.int .i64 x.b) :=
  ⟨by rw [cell_of_row _ _ _ _ _ _ h]; rfl, by rw [cell_of_row _ _ _ _ _ _ h]; rfl, by rw [cell_of_row _ _ _ _ _ _ h]; rfl, by rw [cell_of_row _ _ _ _ _ _ h]; rfl, by rw [cell_of_row _ _ _ _ _ _ h]; rfl⟩

theorem grown_keep {W W' : World} {B q : Nat} {v : Value} {n : Nat} {xs : List Value} {T : TypeId} (ho : W.ownsRow B T 5 v n xs) (hq : q < B) (hqs : q < W.heap.size) (o : Obj) (g : (W.alloc o).grownBy W' v.ownBlock) : W'.heap[q]? = W.heap[q]? :=
  (g.block q (by simp; omega) (fun e => by have := (ho.lt q e.symm).1; omega)).trans (heap_alloc_old _ _ hqs)
theorem grown_bel {w W W' : World} {n : Nat} {v : Value} {xs : List Value} {T : TypeId} (f : Below w.heap.size w W) (ho : W.ownsRow w.heap.size T 5 v n xs) (o : Obj) (g : (W.alloc o).grownBy W' v.ownBlock) : Below w.heap.size w W' :=
  (f.alloc f.size o).grown g (Nat.le_trans f.size (by simp)) (fun k hk => (ho.lt k hk).1)
theorem own5_base {w : World} {base base' n : Nat} {v : Value} {xs : List Value} {T : TypeId} (h : w.ownsRow base T 5 v n xs) (hb : base' ≤ base) : w.ownsRow base' T 5 v n xs :=
  ⟨h.1, h.2.elim .inl (fun ⟨g, cap, cur, hv, hg, r⟩ => .inr ⟨g, cap, cur, hv, Nat.le_trans hb hg, r⟩)⟩
theorem own5_form {w : World} {base : Nat} {e : TypeId} {v : Value} {n : Nat} {xs : List Value} (h : w.ownsRow base e 5 v n xs) : ∃ a c, v = .slice a n c := by
  rcases h.2 with ⟨rfl, rfl⟩ | ⟨g, cap, cur, rfl, _⟩
  · exact ⟨_, _, rfl⟩
  · exact ⟨_, _, rfl⟩

set_option maxHeartbeats 1600000 in
theorem jadd_any (w : World) (a : Option Addr) (n c : Nat) (l : List Ent) (h : EArg w a n c l) (x : Ent) (hn : n ≤ 100000) :
    Calls Try.prog 51 #[.slice a n c, entV x] w fun e w' => ∃ a' c', e = .returned (.tuple #[.slice a' (addE l x).1.length c', .int .i64 ((addE l x).2 : Int)]) ∧ EArg w' a' (addE l x).1.length c' (addE l x).1 ∧ Below w.heap.size w w' := by
  have hln := h.es.1
  have b0 : Below w.heap.size w (w.alloc (.cells #[.int .i64 x.tag, .string ⟨x.text.toArray⟩, .int .i64 x.n, .int .i64 x.a, .int .i64 x.b] 67)) := (Below.refl _ _).alloc (Nat.le_refl _) _
  have hl0 := heap_alloc_last w (.cells #[.int .i64 x.tag, .string ⟨x.text.toArray⟩, .int .i64 x.n, .int .i64 x.a, .int .i64 x.b] 67)
  have HA := hide (h.below b0)
  have HF := hide (jfind_any _ a n c l (h.below b0).es x (by omega))
  unfold entV at *
  clear h
  have B0 := hide b0
  have HL0 := hide hl0
  clear b0 hl0
  go_enter Try.func51, Try.ntmps51
  go_wp2_with fail
  generalize w.alloc (.cells #[.int .i64 x.tag, .string ⟨x.text.toArray⟩, .int .i64 x.n, .int .i64 x.a, .int .i64 x.b] 67) = w0 at *
  refine (unhide HF).mono ?_
  rintro e w1 ⟨rfl, f1⟩
  by_cases h0 : findE l x = 0
  · have e1 : Hid (addE l x = (withE l x, l.length)) := if_pos h0
    rw [h0]
    have hA1 := (unhide HA).below f1
    have hx1 : w1.heap[w.heap.size]? = _ := (f1.block w.heap.size (lt_of_heap (unhide HL0))).trans (unhide HL0)
    obtain ⟨d0, d1, d2, d3, d4⟩ := entC hx1
    have F1 := hide ((unhide B0).trans (f1.mono (unhide B0).size))
    have HA1 := hide hA1
    have HX1 := hide hx1
    clear HF HA HL0 B0 f1 hA1 hx1
    go_wp2
    have hqB := lt_of_heap (unhide HX1)
    have hown1 := ents_none w1 w1.heap.size (Nat.le_refl _)
    have hown2 := hown1.alloc (.cells #[.int .i64 x.tag, .string ⟨x.text.toArray⟩, .int .i64 x.n, .int .i64 x.a, .int .i64 x.b] 67)
    have hown3 : ((w1.alloc (.cells #[.int .i64 x.tag, .string ⟨x.text.toArray⟩, .int .i64 x.n, .int .i64 x.a, .int .i64 x.b] 67)).alloc (.cells #[] 67)).ownsRow w1.heap.size 67 5 (.slice (some ⟨w1.heap.size + 1, 0, none⟩) 0 0) 0 (ev []) := by
      have := ents_none (w1.alloc (.cells #[.int .i64 x.tag, .string ⟨x.text.toArray⟩, .int .i64 x.n, .int .i64 x.a, .int .i64 x.b] 67)) w1.heap.size (by simp)
      simpa using this
    have HX2 : Hid (∀ (D : Nat) w6, (((w1.alloc (.cells #[] 67)).alloc (.cells #[.int .i64 x.tag, .string ⟨x.text.toArray⟩, .int .i64 x.n, .int .i64 x.a, .int .i64 x.b] 67)).drewN D).grownBy w6 (some w1.heap.size) → Es w6 (some ⟨w1.heap.size + 1, 0, none⟩) 1 [x]) := fun D w6 g6 => by
      have hb := (g6.block (w1.heap.size + 1) (by simp) (by simp)).trans (heap_alloc2_new w1 _ _)
      exact ⟨rfl, .inr ⟨_, _, rfl, es_of_block hb⟩⟩
    have HX3 : Hid (∀ (D : Nat) w6, (((w1.alloc (.cells #[.int .i64 x.tag, .string ⟨x.text.toArray⟩, .int .i64 x.n, .int .i64 x.a, .int .i64 x.b] 67)).alloc (.cells #[] 67)).drewN D).grownBy w6 (some (w1.heap.size + 1)) → Es w6 (some ⟨w1.heap.size, 0, none⟩) 1 [x]) := fun D w6 g6 => by
      have hb := (g6.block w1.heap.size (by simp; omega) (by simp)).trans ((heap_alloc_old _ _ (by simp)).trans (heap_alloc_last w1 _))
      exact ⟨rfl, .inr ⟨_, _, rfl, es_of_block hb⟩⟩
    have hsrc : Hid (∀ W, Below w1.heap.size w1 W → Es W a n l) := fun W f => (unhide HA1).es.below f
    have hnil := hide (unhide HA1).nil
    go_region_held_law (fun W => W.cell? ⟨w.heap.size, 0, none⟩ = some (.int .i64 x.tag) ∧ W.cell? ⟨w.heap.size, 1, none⟩ = some (.string ⟨x.text.toArray⟩) ∧ W.cell? ⟨w.heap.size, 2, none⟩ = some (.int .i64 x.n) ∧ W.cell? ⟨w.heap.size, 3, none⟩ = some (.int .i64 x.a) ∧ W.cell? ⟨w.heap.size, 4, none⟩ = some (.int .i64 x.b)) (go_keep)
      (first
        | (have ox := o6; clear ox; refine stepE_append rfl (.tmp 19) (.tmp 21) rfl w1.heap.size v6 n l (by rfl) (by first | exact o6 | exact (o6.alloc _)) _ 1 1 [x] (by rfl) (by first | exact X6 | exact ⟨rfl, .inr ⟨_, _, rfl, es_of_block (heap_alloc_last _ _)⟩⟩) (fun e => by cases e) (by omega) (by first | exact f6.size | exact Nat.le_trans f6.size (by simp)) ?_; intro v7 w7 o7 g7; have f7 : Below w1.heap.size w1 w7 := (by first | exact grown_bel f6 o6 _ (by exact g7) | exact f6.grown (by exact g7) f6.size (fun k hk => (o6.lt k hk).1)); obtain ⟨k70, k71, k72, k73, k74⟩ := entC ((f7.block w.heap.size hqB).trans (unhide HX1)))
        | (refine stepE_append rfl (.tmp 17) (.tmp 18) rfl w1.heap.size _ 0 [] (by rfl) (by first | exact hown1 | exact hown2 | exact hown3) a n c l (by rfl) (by exact unhide hsrc _ (by repeat (first | exact Below.refl _ _ | refine Below.drew ?_ | refine Below.alloc ?_ (by first | exact Nat.le_refl _ | (simp; done) | (simp; omega)) _))) (unhide hnil) (by omega) (by first | exact Nat.le_refl _ | (simp; done) | (simp; omega)) ?_; intro v6 w6 o6 g6; rw [Nat.zero_add, List.nil_append] at o6; have f6 : Below w1.heap.size w1 w6 := Below.grown (by repeat (first | exact Below.refl _ _ | refine Below.drew ?_ | refine Below.alloc ?_ (by first | exact Nat.le_refl _ | (simp; done) | (simp; omega)) _)) g6 (by first | exact Nat.le_refl _ | (simp; done) | (simp; omega)) (fun k hk => by first | exact (hown1.lt k hk).1 | exact (hown2.lt k hk).1 | exact (hown3.lt k hk).1); obtain ⟨k60, k61, k62, k63, k64⟩ := entC ((f6.block w.heap.size hqB).trans (unhide HX1)); first | have X6 := unhide HX2 1 w6 (by exact g6) | have X6 := unhide HX3 1 w6 (by exact g6) | skip))
    all_goals
      have O7 : Hid (w7.ownsRow w1.heap.size 67 5 v7 (n + 1) (ev (l ++ [x]))) := by exact o7
      have F7 := hide ((unhide F1).trans (f7.mono (unhide F1).size))
      have hs7 := f7.size
      clear o6 o7 g6 g7 k60 k61 k62 k63 k64 f6 f7 hown1 hown2 hown3 hsrc HX2 HX3 HA1 HX1 d0 d1 d2 d3 d4 hnil F1 k71 k72 k73 k74
      by_cases h5 : x.tag = 5
      · have e2 : Hid (withE l x = l ++ [x, ent0]) := if_pos h5
        rw [h5] at k70
        have hown8 := (unhide O7).alloc (.cells (ev [ent0]).toArray 67)
        have hsrc8 : Es (w7.alloc (.cells (ev [ent0]).toArray 67)) (some ⟨w7.heap.size, 0, none⟩) 1 [ent0] := ⟨rfl, .inr ⟨_, _, rfl, es_of_block (heap_alloc_last _ _)⟩⟩
        go_wp2_with (at_builtin; refine listE_append rfl _ _ rfl w1.heap.size v7 (n + 1) (l ++ [x]) rfl (by exact hown8) (some ⟨w7.heap.size, 0, none⟩) 1 1 [ent0] rfl (by exact hsrc8) (fun e => by cases e) (by omega) (Nat.le_trans hs7 (by simp)) ?_)
        intro v8 w8 o8 g8
        have f8 := grown_bel (T := 67) (n := n + 1) (unhide F7) (own5_base (unhide O7) (Nat.le_of_lt hqB)) _ g8
        have O8 := hide o8
        have F8 := hide f8
        clear o8 g8 f8 hown8 hsrc8
        go_wp2
        go_ret2
        obtain ⟨a8, c8, rfl⟩ := own5_form (unhide O8)
        rw [unhide e1]
        have hl2 : (withE l x).length = n + 1 + 1 := by rw [unhide e2]; simp [hln]
        refine ⟨a8, c8, ?_, ?_, unhide F8⟩
        · rw [hl2, hln]; rfl
        · rw [hl2, unhide e2]
          exact earg_of_own (unhide O8)
      · have e2 : Hid (withE l x = l ++ [x]) := if_neg h5
        have h5' : (x.tag == 5) = false := by simpa using h5
        have hl2 : Hid ((withE l x).length = n + 1) := by
          show (withE l x).length = n + 1
          rw [unhide e2]
          simp [hln]
        clear h5
        go_wp2
        go_ret2
        obtain ⟨a7, c7, rfl⟩ := own5_form (unhide O7)
        rw [unhide e1]
        refine ⟨a7, c7, ?_, ?_, unhide F7⟩
        · rw [unhide hl2, hln]; rfl
        · rw [unhide hl2, unhide e2]
          exact earg_of_own (unhide O7)
  · have e1 : Hid (addE l x = (l, findE l x)) := if_neg h0
    have hpos : 1 ≤ findE l x := by omega
    have hp : (0 : Int) < (findE l x : Int) := by omega
    have HR := hide ((unhide HA).below f1)
    have F1 := hide ((unhide B0).trans (f1.mono (unhide B0).size))
    generalize findE l x = K at *
    clear HF HA HL0 B0 f1 h0
    go_wp2
    go_ret2
    rw [unhide e1, hln]
    exact ⟨_, _, rfl, unhide HR, unhide F1⟩

end Go.Proofs.Ytchhjieciiaooaa
