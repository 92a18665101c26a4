/- An append of bytes within a region that draws; the document's reader: Bytes. -/
import Derived.Test.YtkmcpedhcdgnoaaWdG
import Derived.Laws.AppendOwnNone
import Derived.Deep.AppendLies
namespace Go.Proofs.Ytkmcpedhcdgnoaa
open Go.RowKit
set_option linter.unusedVariables false

theorem wpB_append {w : World} {o : Oper} {a : Act} {K : Act → World → Prop} {Q : Exit → Act → World → Prop} (s x : Operand) (ho : o.op = .call { callee := .builtin .append, args := #[s, x], argTypes := #[22, 22] })
    (base : Nat) (v : Value) (n : Nat) (xs : List UInt8) (hs : a.eval s = v) (hown : w.ownsRow base 5 1 v n (bv xs)) (src : Option Addr) (m c : Nat) (ys : List UInt8) (hx : a.eval x = .slice src m c) (hb : Bs w src m ys) (hnil : src = none → m = 0 ∧ c = 0)
    (hsm : n + m ≤ 140737488355328) (hbase : base ≤ w.heap.size) (h : ∀ v' w', w'.ownsRow base 5 1 v' (n + m) (bv (xs ++ ys)) → w.grownBy w' v.ownBlock → K (a.put o.dst v') w') : o.wp Try.prog a w K Q := by
  obtain ⟨i0, hi, hz0, hz1, hz2⟩ := info_parts infoB
  cases src with
  | none =>
    obtain ⟨rfl, rfl⟩ := hnil rfl
    have h0 : ys = [] := List.eq_nil_of_length_eq_zero hb.1
    subst h0
    have hrun := run_append_owned_none (P := Try.prog) (w := w) base 22 o.type 5 i0 1 Try.underlying22 hi v n (bv xs) hown
    unfold Oper.wp
    simp [execOp, ho, resolve, invoke, builtin, hs, hx, hrun, Result.andThen]
    exact h v w (by rw [List.append_nil]; exact hown) ⟨rfl, rfl, rfl, Nat.le_refl _, fun _ _ _ => rfl⟩
  | some ad =>
    refine wp_append_own w s x 22 ho base 5 i0 (.int .u8 0) 1 1 Try.underlying22 hi hz0 hz1 hz2 rfl (by decide) v n (bv xs) hs hown ad m c (bv ys) hx (by rw [bv_length, hb.1]; omega) (hb.at.2 ad rfl) (bv_one _) (by unfold maxLen; omega) (by omega) hbase ?_
    intro v' w' h1 h2 _
    exact h v' w' (by rw [bv_append]; exact h1) h2
theorem stepB_append {w : World} {ops : Array Oper} {o : Oper} {a : Act} {K : Act → World → Prop} {Q : Exit → Act → World → Prop} {E : Prop} (hgd : o.guard = none) (s x : Operand) (ho : o.op = .call { callee := .builtin .append, args := #[s, x], argTypes := #[22, 22] })
    (base : Nat) (v : Value) (n : Nat) (xs : List UInt8) (hs : a.eval s = v) (hown : w.ownsRow base 5 1 v n (bv xs)) (src : Option Addr) (m c : Nat) (ys : List UInt8) (hx : a.eval x = .slice src m c) (hb : Bs w src m ys) (hnil : src = none → m = 0 ∧ c = 0)
    (hsm : n + m ≤ 140737488355328) (hbase : base ≤ w.heap.size) (h : ∀ v' w', w'.ownsRow base 5 1 v' (n + m) (bv (xs ++ ys)) → w.grownBy w' v.ownBlock → K (a.put o.dst v') w') :
    if Region.wanted o (yielded ops a.tmps) = true then Oper.wp Try.prog o a w K Q else E := by
  rw [if_pos (by simp [Region.wanted, hgd])]
  exact wpB_append s x ho base v n xs hs hown src m c ys hx hb hnil hsm hbase h

/-- W is w, the reader's block at z written anew, and perhaps new blocks. -/
structure Rv (z : Nat) (w W : World) (cs : Array Value) : Prop where
  blk : W.heap[z]? = some (.cells cs 29 (0, 0))
  oth : ∀ k, k < w.heap.size → k ≠ z → W.heap[k]? = w.heap[k]?
  bel : Below z w W
theorem Rw.v {z : Nat} {w W : World} {cs : Array Value} (h : Rw z w W cs) : Rv z w W cs := ⟨h.blk, fun k _ hk => h.oth k hk, h.bel⟩
theorem Rv.below {z : Nat} {w W W' : World} {cs : Array Value} (h : Rv z w W cs) (f : Below W.heap.size W W') : Rv z w W' cs :=
  ⟨(f.block z (lt_of_heap h.blk)).trans h.blk, fun k hk hz => (f.block k (Nat.lt_of_lt_of_le hk h.bel.size)).trans (h.oth k hk hz), h.bel.trans (f.mono (Nat.le_of_lt (lt_of_heap h.blk)))⟩

set_option maxHeartbeats 3200000 in
set_option maxRecDepth 100000 in
theorem hRBytes_any (w : World) (z : Nat) (a : Option Addr) (n c i : Nat) (bs : List UInt8) (hb : Arg w a n c bs) (hn : n ≤ 140737488355328) (hi : i ≤ n) (hz : w.heap[z]? = some (.cells #[.slice a n c, .int .i64 (i : Int)] 29 (0, 0))) (hfar : ∀ b o, a = some ⟨b, o, none⟩ → 0 < n → b ≠ z) (k : Int) (hk : -9223372036854775808 ≤ k ∧ k ≤ 9223372036854775807) :
    Calls Try.prog 15 #[.pointer (some ⟨z, 0, none⟩), .int .i64 k] w fun e w' => ∃ v, e = .returned (.tuple #[v, .int .i64 (takeW bs i k).2.1]) ∧ w'.ownsRow w.heap.size 5 1 v (takeW bs i k).1.length (bv (takeW bs i k).1) ∧ Rv z w w' #[.slice a n c, .int .i64 ((takeW bs i k).2.2 : Int)] := by
  have c0 : w.cell? ⟨z, 0, none⟩ = some (.slice a n c) := by rw [cell_of_row _ _ _ _ _ _ hz]; rfl
  have c1 : w.cell? ⟨z, 1, none⟩ = some (.int .i64 (i : Int)) := by rw [cell_of_row _ _ _ _ _ _ hz]; rfl
  have hf : w.frozen? ⟨z, 1, none⟩ = false := frozen_of_row _ _ _ _ _ hz
  have hlen := hb.bs.1
  have R0 : Hid (Rw z w w #[.slice a n c, .int .i64 (i : Int)]) := ⟨hz, fun _ _ => rfl, Below.refl _ _⟩
  by_cases h0 : k < 0
  · have e1 : Hid (takeW bs i k = ([], 2, i)) := by
      show takeW bs i k = _
      unfold takeW
      rw [if_pos h0]
    clear hb hz hlen
    go_enter Try.func15, Try.ntmps15
    go_wp2
    go_ret2
    exact ⟨_, by rw [unhide e1]; rfl, by rw [unhide e1]; exact World.ownsRow_nil _ _ _ _, by rw [unhide e1]; exact (unhide R0).v⟩
  by_cases hs : (n : Int) - i < k
  · have e1 : Hid (takeW bs i k = ([], 7, i)) := by
      show takeW bs i k = _
      unfold takeW
      rw [if_neg h0, hlen, if_pos hs]
    have y1 : IntKind.i64.wrap ((n : Int) - i) = (n : Int) - i := by rw [IntKind.wrap_i64]; omega
    clear hb hz hlen
    go_enter Try.func15, Try.ntmps15
    go_wp2_with fail
    go_quiet (fail)
    go_wp2
    go_ret2
    exact ⟨_, by rw [unhide e1]; rfl, by rw [unhide e1]; exact World.ownsRow_nil _ _ _ _, by rw [unhide e1]; exact ((unhide R0).drewN _).v⟩
  · obtain ⟨m, rfl⟩ : ∃ m : Nat, k = m := ⟨k.toNat, by omega⟩
    obtain ⟨K, hK⟩ : ∃ K, K = i + m := ⟨_, rfl⟩
    have k1 : (i : Int) + (m : Int) = (K : Int) := by omega
    have k1' : (K : Int) - (m : Int) = (i : Int) := by omega
    have k2 : (K : Int) ≤ (n : Int) := by omega
    have hcap := hb.room
    have hmost := hb.most
    have k3 : (K : Int) ≤ (c : Int) := by omega
    have k4 : (i : Int) ≤ (K : Int) := by omega
    have k5 : K - i = m := by omega
    have y1 : IntKind.i64.wrap ((n : Int) - i) = (n : Int) - i := by rw [IntKind.wrap_i64]; omega
    have y2 : IntKind.i64.wrap (i : Int) = (i : Int) := by rw [IntKind.wrap_i64]; omega
    have e1 : Hid (takeW bs i (m : Int) = ((bs.take K).drop i, 0, K)) := by
      show takeW bs i (m : Int) = _
      unfold takeW
      rw [if_neg h0, hlen, if_neg hs, Int.toNat_natCast, hK, List.take_drop]
    obtain ⟨AD, hAd⟩ : ∃ AD, (if c = i then a else Option.map (fun x => x.add i) a) = AD := ⟨_, rfl⟩
    have hbs := sub_bs hb i K (by omega) (by omega)
    rw [hAd, k5] at hbs
    have hnil : AD = none → m = 0 ∧ c - i = 0 := fun e => by
      rw [← hAd] at e
      have ha : a = none := by
        split at e
        · exact e
        · exact Option.map_eq_none_iff.1 e
      obtain ⟨h1, h2⟩ := hb.nil ha
      omega
    have hbf : ∀ W, (∀ q, q < w.heap.size → q ≠ z → W.heap[q]? = w.heap[q]?) → Bs W AD m ((bs.take K).drop i) := fun W hW => by
      refine ⟨hbs.1, ?_⟩
      by_cases hm0 : m = 0
      · exact .inl hm0
      · obtain ⟨b, o, e, hB⟩ := hbs.2.resolve_left hm0
        refine .inr ⟨b, o, e, (fun e => by cases e), fun ad e2 j u hu => ?_⟩
        have hcell := hB.2 ad e2 j u hu
        injection e2 with e2
        subst e2
        have hbz : b ≠ z := by
          obtain ⟨b', o', e3, _⟩ := hb.bs.2.resolve_left (by omega)
          rw [← hAd, if_neg (by omega), e3] at e
          simp [Addr.add_mid] at e
          have := hfar b' o' e3 (by omega)
          omega
        rw [Addr.add_mid] at hcell ⊢
        have hlt := World.block_lt_of_cell? w _ hcell
        exact (World.cell?_of_block (a := ⟨b, o + j, none⟩) (hW b hlt hbz)).trans hcell
    have HBF := hide hbf
    have HNL := hide hnil
    have hzl := lt_of_heap hz
    clear hb hbs hbf hnil hlen hz hK hfar
    go_enter Try.func15, Try.ntmps15
    go_wp2_with fail
    go_quiet (fail)
    go_upto_region 6 with fail
    have R5 : Rw z w ((w.drewN nq).setCell ⟨z, 1, none⟩ (.int .i64 (K : Int))) #[.slice a n c, .int .i64 (K : Int)] := ((unhide R0).drewN nq).set 1 (.int .i64 (K : Int))
    generalize (w.drewN nq).setCell ⟨z, 1, none⟩ (.int .i64 (K : Int)) = W5 at *
    have d0 : W5.cell? ⟨z, 0, none⟩ = some (.slice a n c) := by rw [cell_of_row _ _ _ _ _ _ R5.blk]; rfl
    have d1 : W5.cell? ⟨z, 1, none⟩ = some (.int .i64 (K : Int)) := by rw [cell_of_row _ _ _ _ _ _ R5.blk]; rfl
    have HLM : Hid (((bs.take K).drop i).length = m) := (unhide HBF w (fun _ _ _ => rfl)).1
    have hszw : w.heap.size ≤ W5.heap.size := R5.bel.size
    have hown : (W5.alloc (.cells #[] 5)).ownsRow W5.heap.size 5 1 (.slice (some ⟨W5.heap.size, 0, none⟩) 0 0) 0 (bv []) := World.ownsRow_made W5 #[] 0 (Nat.le_refl _) (by simp) rfl
    have hbW : Bs (W5.alloc (.cells #[] 5)) AD m ((bs.take K).drop i) := unhide HBF _ (fun q hq hqz => (heap_alloc_old W5 _ (Nat.lt_of_lt_of_le hq hszw)).trans (R5.oth q hqz))
    have hszW : W5.heap.size ≤ (W5.alloc (.cells #[] 5)).heap.size := by simp
    have HRV : Hid (∀ w6, (W5.alloc (.cells #[] 5)).drew.grownBy w6 (Value.slice (some ⟨W5.heap.size, 0, none⟩) 0 0).ownBlock → Rv z w w6 #[.slice a n c, .int .i64 (K : Int)]) := fun w6 g6 => by
      have fb : Below W5.heap.size W5 w6 := (((Below.refl _ _).alloc (Nat.le_refl _) _).drew).grown g6 hszW (fun x hx => by simp [Value.ownBlock] at hx; omega)
      exact R5.v.below fb
    have HST : Hid (∀ w6, (W5.alloc (.cells #[] 5)).drew.grownBy w6 (Value.slice (some ⟨W5.heap.size, 0, none⟩) 0 0).ownBlock → w6.cell? ⟨z, 0, none⟩ = some (.slice a n c) ∧ w6.cell? ⟨z, 1, none⟩ = some (.int .i64 (K : Int))) := fun w6 g6 => by
      have h := (unhide HRV w6 g6).blk
      exact ⟨by rw [cell_of_row _ _ _ _ _ _ h]; rfl, by rw [cell_of_row _ _ _ _ _ _ h]; rfl⟩
    have R5H := hide R5
    clear c0 c1 hf R5
    go_region_held_law (fun W => W.cell? ⟨z, 0, none⟩ = some (.slice a n c) ∧ W.cell? ⟨z, 1, none⟩ = some (.int .i64 (K : Int))) (go_keep)
      (first | (refine stepB_append rfl (.tmp 28) (.tmp 43) rfl W5.heap.size (.slice (some ⟨W5.heap.size, 0, none⟩) 0 0) 0 [] rfl (by exact hown) AD m (c - i) ((bs.take K).drop i) (by first | rfl | simp [Act.eval, hAd, k5]) (by exact hbW) (unhide HNL) (by omega) (by exact hszW) ?_; intro v6 w6 o6 g6; have k60 := (unhide HST w6 g6).1; have k61 := (unhide HST w6 g6).2))
    have hf6 : Rv z w w6 #[.slice a n c, .int .i64 (K : Int)] := unhide HRV w6 (by exact g6)
    have ho6 : w6.ownsRow w.heap.size 5 1 v6 (0 + m) (bv ([] ++ (bs.take K).drop i)) := own_base o6 (unhide R5H).bel.size
    have HF6 := hide hf6
    have HO6 := hide ho6
    clear g6 o6 k60 k61 hf6 ho6 HST HRV hown hbW d0 d1
    go_simp
    go_wp2
    go_ret2
    refine ⟨v6, by rw [unhide e1]; rfl, ?_, ?_⟩
    · rw [unhide e1]
      have h := unhide HO6
      rw [Nat.zero_add, List.nil_append] at h
      show w6.ownsRow w.heap.size 5 1 v6 ((bs.take K).drop i).length _
      rw [unhide HLM]
      exact h
    · rw [unhide e1]
      exact (unhide HF6).below (by first | exact Below.refl _ _ | exact (Below.refl _ _).drew | exact below_drewN (Below.refl _ _) _)

end Go.Proofs.Ytkmcpedhcdgnoaa
