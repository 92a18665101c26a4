/- The document's own pool: text, utf, add. -/
import Derived.Test.YtjhiflhmefhogaaPlN
namespace Go.Proofs.Ytjhiflhmefhogaa
open Go.RowKit
set_option linter.unusedVariables false

theorem strI (l : List UInt8) (i : Nat) (b : UInt8) (h : l[i]? = some b) : ∀ w, (Instr.index 9 (.string ⟨l.toArray⟩) (.int .i64 (i : Int))).run Try.prog w = .ok (.int .u8 (b.toNat : Int)) w := fun w => by
  have hl : i < l.length := (List.getElem?_eq_some_iff.1 h).1
  have hb := (List.getElem?_eq_some_iff.1 h).2
  have hs : (⟨l.toArray⟩ : ByteArray).size = l.length := by simp [ByteArray.size]
  have := run_index_string (P := Try.prog) (w := w) 9 ⟨l.toArray⟩ .i64 (i : Int) (by kernel_rfl)
  rw [dif_pos ⟨by omega, by rw [hs]; omega⟩] at this
  rw [this]
  have e : (⟨l.toArray⟩ : ByteArray)[(i : Int).toNat]'(by rw [hs]; omega) = b := by
    rw [← hb]
    rfl
  rw [e]
def okB (x : UInt8) : Bool := decide (33 ≤ x.toNat) && decide (x.toNat ≤ 126)
theorem textB_eq (s : List UInt8) : textB s = (s.all okB && decide (s.length ≤ 255)) := rfl

theorem es_of_block {w : World} {q : Nat} {l : List Ent} {e : TypeId} {f : Nat × Nat} (h : w.heap[q]? = some (.cells (ev l).toArray e f)) : EntsAt w (some ⟨q, 0, none⟩) l := fun ad e j u hu => by
  injection e with e
  subst e
  rw [Addr.add_mid, Nat.zero_add, cell_of_row _ _ _ _ _ _ h]
  simpa using hu
theorem wpE_append {w : World} {o : Oper} {a : Act} {K : Act → World → Prop} {Q : Exit → Act → World → Prop} (s x : Operand) (ho : o.op = .call { callee := .builtin .append, args := #[s, x], argTypes := #[48, 48] })
    (base : Nat) (v : Value) (n : Nat) (xs : List Ent) (hs : a.eval s = v) (hown : w.ownsRow base 98 5 v n (ev xs)) (src : Option Addr) (m c : Nat) (ys : List Ent) (hx : a.eval x = .slice src m c) (hb : Es w src m ys) (hnil : src = none → m = 0 ∧ c = 0)
    (hsm : (n + m) * 48 ≤ 140737488355328) (hbase : base ≤ w.heap.size) (h : ∀ v' w', w'.ownsRow base 98 5 v' (n + m) (ev (xs ++ ys)) → w.grownBy w' v.ownBlock → K (a.put o.dst v') w') : o.wp Try.prog a w K Q := by
  obtain ⟨i0, hi, hz0, hz1, hz2⟩ := info_parts infoE
  cases src with
  | none =>
    obtain ⟨rfl, rfl⟩ := hnil rfl
    have h0 : ys = [] := List.eq_nil_of_length_eq_zero hb.1
    subst h0
    have hrun := run_append_owned_none (P := Try.prog) (w := w) base 48 o.type 98 i0 5 Try.underlying48 hi v n (ev xs) hown
    unfold Oper.wp
    simp [execOp, ho, resolve, invoke, builtin, hs, hx, hrun, Result.andThen]
    exact h v w (by rw [List.append_nil]; exact hown) ⟨rfl, rfl, rfl, Nat.le_refl _, fun _ _ _ => rfl⟩
  | some ad =>
    have hsrc : ∀ j u, (ev ys)[j]? = some u → w.cell? (ad.add j) = some u := by
      rcases hb.2 with h0 | ⟨b, o, e, hE⟩
      · have : ys = [] := List.eq_nil_of_length_eq_zero (by rw [hb.1]; exact h0)
        subst this
        intro j u hu
        simp [ev] at hu
      · exact fun j u hu => hE ad (by rw [← e]) j u hu
    refine wp_append_own w s x 48 ho base 98 i0 (.agg #[.int .i64 0, .string ⟨#[]⟩, .int .i64 0, .int .i64 0, .int .i64 0]) 5 48 Try.underlying48 hi hz0 hz1 hz2 rfl (by decide) v n (ev xs) hs hown ad m c (ev ys) hx (by rw [ev_len, hb.1]) hsrc (ev_one _) (by unfold maxLen; omega) hsm hbase ?_
    intro v' w' h1 h2 _
    exact h v' w' (by rw [ev_append]; exact h1) h2
theorem listE_append {w : World} {ops : Array Oper} {rest : List Oper} {o : Oper} {a : Act} {Q : Exit → Act → World → Prop} (hgd : o.guard = none) (s x : Operand) (ho : o.op = .call { callee := .builtin .append, args := #[s, x], argTypes := #[48, 48] })
    (base : Nat) (v : Value) (n : Nat) (xs : List Ent) (hs : a.eval s = v) (hown : w.ownsRow base 98 5 v n (ev xs)) (src : Option Addr) (m c : Nat) (ys : List Ent) (hx : a.eval x = .slice src m c) (hb : Es w src m ys) (hnil : src = none → m = 0 ∧ c = 0)
    (hsm : (n + m) * 48 ≤ 140737488355328) (hbase : base ≤ w.heap.size) (h : ∀ v' w', w'.ownsRow base 98 5 v' (n + m) (ev (xs ++ ys)) → w.grownBy w' v.ownBlock → wpList Try.prog ops Q rest (a.put o.dst v') w') : wpList Try.prog ops Q (o :: rest) a w :=
  wpList_plain hgd fun K hK => wpE_append s x ho base v n xs hs hown src m c ys hx hb hnil hsm hbase (fun v' w' h1 h2 => hK _ _ (h v' w' h1 h2))
theorem stepE_append {w : World} {ops : Array Oper} {o : Oper} {a : Act} {K : Act → World → Prop} {Q : Exit → Act → World → Prop} {E : Prop} (hgd : o.guard = none) (s x : Operand) (ho : o.op = .call { callee := .builtin .append, args := #[s, x], argTypes := #[48, 48] })
    (base : Nat) (v : Value) (n : Nat) (xs : List Ent) (hs : a.eval s = v) (hown : w.ownsRow base 98 5 v n (ev xs)) (src : Option Addr) (m c : Nat) (ys : List Ent) (hx : a.eval x = .slice src m c) (hb : Es w src m ys) (hnil : src = none → m = 0 ∧ c = 0)
    (hsm : (n + m) * 48 ≤ 140737488355328) (hbase : base ≤ w.heap.size) (h : ∀ v' w', w'.ownsRow base 98 5 v' (n + m) (ev (xs ++ ys)) → w.grownBy w' v.ownBlock → K (a.put o.dst v') w') :
    if Region.wanted o (yielded ops a.tmps) = true then Oper.wp Try.prog o a w K Q else E := by
  rw [if_pos (by simp [Region.wanted, hgd])]
  exact wpE_append s x ho base v n xs hs hown src m c ys hx hb hnil hsm hbase h
theorem ents_none (w : World) (B : Nat) (hB : B ≤ w.heap.size) : (w.alloc (.cells #[] 98)).ownsRow B 98 5 (.slice (some ⟨w.heap.size, 0, none⟩) 0 0) 0 (ev []) := World.ownsRow_made w #[] 0 hB (by simp) rfl

theorem entC {w : World} {q : Nat} {x : Ent} {T : TypeId} {f : Nat × Nat} (h : w.heap[q]? = some (.cells #[.int .i64 x.tag, .string ⟨x.text.toArray⟩, .int .i64 x.n, .int .i64 x.a, .int .i64 x.b] T f)) :
    w.cell? ⟨q, 0, none⟩ = some (.int .i64 x.tag) ∧ w.cell? ⟨q, 1, none⟩ = some (.string ⟨x.text.toArray⟩) ∧ w.cell? ⟨q, 2, none⟩ = some (.int .i64 x.n) ∧ w.cell? ⟨q, 3, none⟩ = some (.int .i64 x.a) ∧ w.cell? ⟨q, 4, none⟩ = some (.int .i64 x.b) :=
  ⟨by rw [cell_of_row _ _ _ _ _ _ h]; rfl, by rw [cell_of_row _ _ _ _ _ _ h]; rfl, by rw [cell_of_row _ _ _ _ _ _ h]; rfl, by rw [cell_of_row _ _ _ _ _ _ h]; rfl, by rw [cell_of_row _ _ _ _ _ _ h]; rfl⟩

theorem grown_keep {W W' : World} {B q : Nat} {v : Value} {n : Nat} {xs : List Value} {T : TypeId} (ho : W.ownsRow B T 5 v n xs) (hq : q < B) (hqs : q < W.heap.size) (o : Obj) (g : (W.alloc o).grownBy W' v.ownBlock) : W'.heap[q]? = W.heap[q]? :=
  (g.block q (by simp; omega) (fun e => by have := (ho.lt q e.symm).1; omega)).trans (heap_alloc_old _ _ hqs)
theorem grown_bel {w W W' : World} {n : Nat} {v : Value} {xs : List Value} {T : TypeId} (f : Below w.heap.size w W) (ho : W.ownsRow w.heap.size T 5 v n xs) (o : Obj) (g : (W.alloc o).grownBy W' v.ownBlock) : Below w.heap.size w W' :=
  (f.alloc f.size o).grown g (Nat.le_trans f.size (by simp)) (fun k hk => (ho.lt k hk).1)
theorem own5_base {w : World} {base base' n : Nat} {v : Value} {xs : List Value} {T : TypeId} (h : w.ownsRow base T 5 v n xs) (hb : base' ≤ base) : w.ownsRow base' T 5 v n xs :=
  ⟨h.1, h.2.elim .inl (fun ⟨g, cap, cur, hv, hg, r⟩ => .inr ⟨g, cap, cur, hv, Nat.le_trans hb hg, r⟩)⟩
theorem own5_form {w : World} {base : Nat} {e : TypeId} {v : Value} {n : Nat} {xs : List Value} (h : w.ownsRow base e 5 v n xs) : ∃ a c, v = .slice a n c := by
  rcases h.2 with ⟨rfl, rfl⟩ | ⟨g, cap, cur, rfl, _⟩
  · exact ⟨_, _, rfl⟩
  · exact ⟨_, _, rfl⟩

end Go.Proofs.Ytjhiflhmefhogaa
