/- Joined: BsZ LsA. -/
import Derived.Test.YthenefjoidckkaaGreatDoorJB
import Derived.Test.YthenefjoidckkaaGreatDoorJL1
import Derived.Test.YthenefjoidckkaaGreatDoorJL3
import Derived.Maps.AppendAt

/- append of so many noughts onto bytes of one's own (append(b, make([]byte, n)...)). -/
namespace Go.Proofs.YthenefjoidckkaaGreatDoor
open Go.RowKit
set_option linter.unusedVariables false

end Go.Proofs.YthenefjoidckkaaGreatDoor

/- Lists of records, whatever they are, in rows of one's own: made, appended to, read. -/
namespace Go.Proofs.YthenefjoidckkaaGreatDoor
open Go.RowKit
set_option linter.unusedVariables false
set_option maxRecDepth 100000

/-- What is asked of a kind of record: its type, its slice's type, its cells. -/
structure Rk {α : Type} (cs : α → List Value) (e t : TypeId) (sz by_ : Nat) (z : Value) : Prop where
  len : ∀ x, (cs x).length = sz
  one : ∀ x, ∀ u ∈ cs x, u.oneCell' = true
  pos : 0 < sz
  info : (Tryz.prog.info? e).map (fun i => (i.zero, i.size, i.bytes)) = some (some z, sz, by_)
  zero : z.cells.size = sz
  sl : Tryz.prog.underlying t = some (.slice e)
theorem flatR_len {α : Type} {cs : α → List Value} {sz : Nat} (h : ∀ x, (cs x).length = sz) : ∀ l : List α, (l.flatMap cs).length = l.length * sz
  | [] => by simp
  | x :: l => by rw [List.flatMap_cons, List.length_append, h, flatR_len h l, List.length_cons, Nat.succ_mul]; omega
theorem flatR_at {α : Type} {cs : α → List Value} {sz : Nat} (h : ∀ x, (cs x).length = sz) : ∀ (l : List α) (k : Nat) (x : α), l[k]? = some x → ∀ (q : Nat) (u : Value), (cs x)[q]? = some u → (l.flatMap cs)[k * sz + q]? = some u
  | [], k, x, hx, _, _, _ => by simp at hx
  | y :: l, 0, x, hx, q, u, hu => by
    simp at hx
    subst hx
    rw [List.flatMap_cons, Nat.zero_mul, Nat.zero_add, List.getElem?_append_left (List.getElem?_eq_some_iff.1 hu).1]
    exact hu
  | y :: l, k + 1, x, hx, q, u, hu => by
    have ih := flatR_at h l k x (by simpa using hx) q u hu
    rw [List.flatMap_cons, List.getElem?_append_right (by rw [h, Nat.succ_mul]; omega), h, Nat.succ_mul, show k * sz + sz + q - sz = k * sz + q by omega]
    exact ih
theorem flatR_of {α : Type} {cs : α → List Value} {sz : Nat} (h : ∀ x, (cs x).length = sz) (hp : 0 < sz) : ∀ (l : List α) (j : Nat) (u : Value), (l.flatMap cs)[j]? = some u → ∃ k x q, l[k]? = some x ∧ (cs x)[q]? = some u ∧ j = k * sz + q
  | [], j, u, hu => by simp at hu
  | y :: l, j, u, hu => by
    rw [List.flatMap_cons] at hu
    by_cases hj : j < sz
    · rw [List.getElem?_append_left (by rw [h]; exact hj)] at hu
      exact ⟨0, y, j, rfl, hu, by omega⟩
    · rw [List.getElem?_append_right (by rw [h]; omega), h] at hu
      obtain ⟨k, x, q, h1, h2, h3⟩ := flatR_of h hp l (j - sz) u hu
      exact ⟨k + 1, x, q, by simpa using h1, h2, by rw [Nat.succ_mul]; omega⟩
/-- A row of one's own of such records. -/
def Orw {α : Type} (cs : α → List Value) (e : TypeId) (sz : Nat) (w : World) (base : Nat) (v : Value) (l : List α) : Prop := w.ownsRow base e sz v l.length (l.flatMap cs)
theorem Orw.form {α : Type} {cs : α → List Value} {e : TypeId} {sz : Nat} {w : World} {base : Nat} {v : Value} {l : List α} (h : Orw cs e sz w base v l) : ∃ a c, v = .slice a l.length c ∧ (a = none → l.length = 0 ∧ c = 0) ∧ l.length ≤ c ∧ c ≤ 9223372036854775807 := by
  rcases h.2 with ⟨hv, hn⟩ | ⟨g, cap, cur, hv, _, _, h1, h2, _⟩
  · exact ⟨none, 0, by rw [hn]; exact hv, fun _ => ⟨hn, rfl⟩, by omega, by omega⟩
  · exact ⟨_, cap, hv, (fun e => by cases e), h1, by unfold maxLen at h2; exact h2⟩
theorem Orw.ls {α : Type} {cs : α → List Value} {e t : TypeId} {sz by_ : Nat} {z : Value} (R : Rk cs e t sz by_ z) {w : World} {base : Nat} {a : Option Addr} {n c : Nat} {l : List α} (h : Orw cs e sz w base (.slice a n c) l) : Ls sz cs w a n l := by
  obtain ⟨a', c', e1, h1, _⟩ := h.form
  injection e1 with ea en ec
  subst ea en ec
  refine ⟨rfl, ?_⟩
  rcases h.2 with ⟨hv, hn⟩ | ⟨g, cap, cur, hv, hb, hh, hc1, hc2, hsz, htk⟩
  · exact .inl hn
  · injection hv with ea en ec
    refine .inr ⟨g, 0, ea, lt_of_heap hh, fun k x hx q u hu => ?_⟩
    rw [cell_of_row _ _ _ _ _ _ hh, Nat.zero_add]
    have h2 := flatR_at R.len l k x hx q u hu
    rw [← htk] at h2
    have hlt := (List.getElem?_eq_some_iff.1 h2).1
    rw [List.getElem?_take] at h2
    split at h2
    · simpa using h2
    · cases h2
theorem Orw.below {α : Type} {cs : α → List Value} {e : TypeId} {sz : Nat} {w w' : World} {base : Nat} {v : Value} {l : List α} (h : Orw cs e sz w base v l) (f : ∀ k, v.ownBlock = some k → w'.heap[k]? = w.heap[k]?) : Orw cs e sz w' base v l := by
  refine ⟨h.1, ?_⟩
  rcases h.2 with hv | ⟨g, cap, cur, hv, hb, hh, r⟩
  · exact .inl hv
  · exact .inr ⟨g, cap, cur, hv, hb, (f g (by rw [hv]; rfl)).trans hh, r⟩
theorem Orw.lt {α : Type} {cs : α → List Value} {e : TypeId} {sz : Nat} {w : World} {base : Nat} {v : Value} {l : List α} (h : Orw cs e sz w base v l) : ∀ k, v.ownBlock = some k → base ≤ k ∧ k < w.heap.size := fun k hk => by
  rcases h.2 with ⟨hv, _⟩ | ⟨g, cap, cur, hv, hb, hh, r⟩
  · rw [hv] at hk; cases hk
  · rw [hv] at hk
    injection hk with hk
    subst hk
    exact ⟨hb, lt_of_heap hh⟩
theorem Orw.base {α : Type} {cs : α → List Value} {e : TypeId} {sz : Nat} {w : World} {base base' : Nat} {v : Value} {l : List α} (h : Orw cs e sz w base v l) (hb : base' ≤ base) : Orw cs e sz w base' v l :=
  ⟨h.1, h.2.elim .inl (fun ⟨g, cap, cur, hv, hg, r⟩ => .inr ⟨g, cap, cur, hv, Nat.le_trans hb hg, r⟩)⟩
theorem Orw.nil {α : Type} (cs : α → List Value) (e : TypeId) (sz : Nat) (w : World) (base : Nat) : Orw cs e sz w base (.slice none 0 0) [] := ⟨by simp, .inl ⟨rfl, rfl⟩⟩
theorem Orw.made {α : Type} (cs : α → List Value) (e : TypeId) (sz : Nat) (w : World) (base : Nat) (hb : base ≤ w.heap.size) : Orw cs e sz (w.alloc (.cells #[] e)) base (.slice (some ⟨w.heap.size, 0, none⟩) 0 0) ([] : List α) := World.ownsRow_made w #[] 0 hb (by simp) (by simp)
theorem grown_below {α : Type} {cs : α → List Value} {e : TypeId} {sz : Nat} {w W w' : World} {v : Value} {l : List α} (f : Below w.heap.size w W) (h : Orw cs e sz W w.heap.size v l) (g : W.grownBy w' v.ownBlock) : Below w.heap.size w w' := f.grown g f.size (fun k hk => (h.lt k hk).1)

theorem wpR_append {α : Type} {cs : α → List Value} {e t : TypeId} {sz by_ : Nat} {z : Value} (R : Rk cs e t sz by_ z) {w : World} {o : Oper} {a : Act} {K : Act → World → Prop} {Q : Exit → Act → World → Prop} (s x : Operand) (ho : o.op = .call { callee := .builtin .append, args := #[s, x], argTypes := #[t, t] })
    (base : Nat) (v : Value) (xs : List α) (hs : a.eval s = v) (hown : Orw cs e sz w base v xs) (src : Option Addr) (m c : Nat) (ys : List α) (hx : a.eval x = .slice src m c) (hb : Ls sz cs w src m ys) (hnil : src = none → m = 0 ∧ c = 0)
    (hsm : (xs.length + m) * by_ ≤ 140737488355328) (hmx : xs.length + m ≤ 140737488355328) (hbase : base ≤ w.heap.size) (h : ∀ v' w', Orw cs e sz w' base v' (xs ++ ys) → w.grownBy w' v.ownBlock → K (a.put o.dst v') w') : o.wp Tryz.prog a w K Q := by
  obtain ⟨i0, hi, hz0, hz1, hz2⟩ := info_parts R.info
  cases src with
  | none =>
    obtain ⟨rfl, rfl⟩ := hnil rfl
    have h0 : ys = [] := List.eq_nil_of_length_eq_zero hb.1
    subst h0
    have hrun := run_append_owned_none (P := Tryz.prog) (w := w) base t o.type e i0 sz R.sl hi v xs.length (xs.flatMap cs) hown
    unfold Oper.wp
    simp [execOp, ho, resolve, invoke, builtin, hs, hx, hrun, Result.andThen]
    exact h v w (by rw [List.append_nil]; exact hown) ⟨rfl, rfl, rfl, Nat.le_refl _, fun _ _ _ => rfl⟩
  | some ad =>
    have hsrc : ∀ j u, (ys.flatMap cs)[j]? = some u → w.cell? (ad.add j) = some u := by
      rcases hb.2 with h0 | ⟨b, o, e1, _, hE⟩
      · have : ys = [] := List.eq_nil_of_length_eq_zero (by rw [hb.1]; exact h0)
        subst this
        intro j u hu
        simp at hu
      · intro j u hu
        injection e1 with e1
        subst e1
        obtain ⟨k, y, q, h1, h2, rfl⟩ := flatR_of R.len R.pos ys j u hu
        have := hE k y h1 q u h2
        rw [Addr.add_mid, ← Nat.add_assoc]
        exact this
    refine wp_append_own w s x t ho base e i0 z sz by_ R.sl hi hz0 hz1 hz2 R.zero R.pos v xs.length (xs.flatMap cs) hs hown ad m c (ys.flatMap cs) hx (by rw [flatR_len R.len, hb.1]) hsrc (fun u hu => by
      obtain ⟨y, _, hy⟩ := List.mem_flatMap.1 hu
      exact R.one y u hy) (by unfold maxLen; omega) hsm hbase ?_
    intro v' w' h1 h2 _
    refine h v' w' ?_ h2
    unfold Orw
    rw [List.length_append, hb.1, List.flatMap_append]
    exact h1
theorem listR_append {α : Type} {cs : α → List Value} {e t : TypeId} {sz by_ : Nat} {z : Value} (R : Rk cs e t sz by_ z) {w : World} {ops : Array Oper} {rest : List Oper} {o : Oper} {a : Act} {Q : Exit → Act → World → Prop} (hgd : o.guard = none) (s x : Operand) (ho : o.op = .call { callee := .builtin .append, args := #[s, x], argTypes := #[t, t] })
    (base : Nat) (v : Value) (xs : List α) (hs : a.eval s = v) (hown : Orw cs e sz w base v xs) (src : Option Addr) (m c : Nat) (ys : List α) (hx : a.eval x = .slice src m c) (hb : Ls sz cs w src m ys) (hnil : src = none → m = 0 ∧ c = 0)
    (hsm : (xs.length + m) * by_ ≤ 140737488355328) (hmx : xs.length + m ≤ 140737488355328) (hbase : base ≤ w.heap.size) (h : ∀ v' w', Orw cs e sz w' base v' (xs ++ ys) → w.grownBy w' v.ownBlock → wpList Tryz.prog ops Q rest (a.put o.dst v') w') : wpList Tryz.prog ops Q (o :: rest) a w :=
  wpList_plain hgd fun K hK => wpR_append R s x ho base v xs hs hown src m c ys hx hb hnil hsm hmx hbase (fun v' w' h1 h2 => hK _ _ (h v' w' h1 h2))
/-- One record in a block of its own. -/
theorem ls_one {α : Type} {cs : α → List Value} {sz : Nat} (w : World) (X : Array Value) (T : TypeId) (x : α) (hX : X.toList = cs x) : Ls sz cs (w.alloc (.cells X T)) (some ⟨w.heap.size, 0, none⟩) 1 [x] := by
  refine ⟨rfl, .inr ⟨_, _, rfl, by simp, fun k y hy q u hu => ?_⟩⟩
  cases k with
  | zero =>
    simp at hy
    subst hy
    rw [cell_of_row _ _ _ _ _ _ (heap_alloc_last w (.cells X T)), Nat.zero_mul, Nat.add_zero, Nat.zero_add]
    rw [← hX] at hu
    simpa using hu
  | succ k => simp at hy
theorem rkT : Rk tyc 52 30 2 24 (.agg #[.int .i64 0, .string ⟨#[]⟩]) := ⟨fun _ => rfl, fun x u hu => by simp [tyc] at hu; rcases hu with rfl | rfl <;> rfl, by decide, by kernel_rfl, rfl, Tryz.underlying30⟩
end Go.Proofs.YthenefjoidckkaaGreatDoor
