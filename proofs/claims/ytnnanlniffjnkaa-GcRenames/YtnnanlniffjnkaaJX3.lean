/- Joined: ClD BsZ LsA CkA ClK ClG SqA TxA PlR0. -/
import Derived.Test.YtnnanlniffjnkaaJX2
import Derived.Test.YtnnanlniffjnkaaJX0
import Derived.Test.YtnnanlniffjnkaaJX1
import Derived.Maps.AppendAt
import Derived.Deep.RegionHeld

/- Classes held against one another: SameFields, SameHandlers, SameTypes, SameMaps. -/
namespace Go.Proofs.Ytnnanlniffjnkaa
open Go.RowKit
set_option linter.unusedVariables false

/-- The cells of record k. -/
def RowAt (w : World) (b o : Nat) (vs : List Value) : Prop := ∀ (q : Nat) (u : Value), vs[q]? = some u → w.cell? ⟨b, o + q, none⟩ = some u
theorem RowAt.zero {w : World} {b o : Nat} {v : Value} {vs : List Value} (h : RowAt w b o (v :: vs)) : w.cell? ⟨b, o, none⟩ = some v := h 0 v rfl
theorem Ls.row {α : Type} {sz : Nat} {cs : α → List Value} {w w' : World} {a : Option Addr} {n : Nat} {l : List α} (h : Ls sz cs w a n l) (hn : n ≠ 0) : ∃ b o, a = some ⟨b, o, none⟩ ∧ ∀ {w' : World}, Below w.heap.size w w' → ∀ (k : Nat) (x : α), l[k]? = some x → RowAt w' b (o + k * sz) (cs x) := by
  rcases h.2 with h0 | ⟨b, o, e, hb, hc⟩
  · exact absurd h0 hn
  · exact ⟨b, o, e, fun f k x hx q u hu => (f.cell hb).trans (hc k x hx q u hu)⟩

end Go.Proofs.Ytnnanlniffjnkaa

/- append of so many noughts onto bytes of one's own (append(b, make([]byte, n)...)). -/
namespace Go.Proofs.Ytnnanlniffjnkaa
open Go.RowKit
set_option linter.unusedVariables false

def zv (m : Nat) : List Value := List.replicate m (.int .u8 0)
theorem zeroCells_u8 (m : Nat) : Builtin.zeroCells #[Value.int .u8 0] m = (zv m).toArray := by
  apply Array.ext'
  apply List.ext_getElem?
  intro j
  unfold Builtin.zeroCells zv
  simp only [Array.toList_map, Array.toList_range, List.getElem?_map, List.getElem?_replicate]
  by_cases hj : j < m
  · simp [hj, Nat.mod_one]
  · simp [hj]

end Go.Proofs.Ytnnanlniffjnkaa

/- Lists of records, whatever they are, in rows of one's own: made, appended to, read. -/
namespace Go.Proofs.Ytnnanlniffjnkaa
open Go.RowKit
set_option linter.unusedVariables false
set_option maxRecDepth 100000

/-- What is asked of a kind of record: its type, its slice's type, its cells. -/
structure Rk {α : Type} (cs : α → List Value) (e t : TypeId) (sz by_ : Nat) (z : Value) : Prop where
  len : ∀ x, (cs x).length = sz
  one : ∀ x, ∀ u ∈ cs x, u.oneCell' = true
  pos : 0 < sz
  info : (Try.prog.info? e).map (fun i => (i.zero, i.size, i.bytes)) = some (some z, sz, by_)
  zero : z.cells.size = sz
  sl : Try.prog.underlying t = some (.slice e)
theorem flatR_len {α : Type} {cs : α → List Value} {sz : Nat} (h : ∀ x, (cs x).length = sz) : ∀ l : List α, (l.flatMap cs).length = l.length * sz
  | [] => by simp
  | x :: l => by rw [List.flatMap_cons, List.length_append, h, flatR_len h l, List.length_cons, Nat.succ_mul]; omega
theorem flatR_at {α : Type} {cs : α → List Value} {sz : Nat} (h : ∀ x, (cs x).length = sz) : ∀ (l : List α) (k : Nat) (x : α), l[k]? = some x → ∀ (q : Nat) (u : Value), (cs x)[q]? = some u → (l.flatMap cs)[k * sz + q]? = some u
  | [], k, x, hx, _, _, _ => by simp at hx
  | y :: l, 0, x, hx, q, u, hu => by
    simp at hx
    subst hx
    rw [List.flatMap_cons, Nat.zero_mul, Nat.zero_add, List.getElem?_append_left (List.getElem?_eq_some_iff.1 hu).1]
    exact hu
  | y :: l, k + 1, x, hx, q, u, hu => by
    have ih := flatR_at h l k x (by simpa using hx) q u hu
    rw [List.flatMap_cons, List.getElem?_append_right (by rw [h, Nat.succ_mul]; omega), h, Nat.succ_mul, show k * sz + sz + q - sz = k * sz + q by omega]
    exact ih
theorem flatR_of {α : Type} {cs : α → List Value} {sz : Nat} (h : ∀ x, (cs x).length = sz) (hp : 0 < sz) : ∀ (l : List α) (j : Nat) (u : Value), (l.flatMap cs)[j]? = some u → ∃ k x q, l[k]? = some x ∧ (cs x)[q]? = some u ∧ j = k * sz + q
  | [], j, u, hu => by simp at hu
  | y :: l, j, u, hu => by
    rw [List.flatMap_cons] at hu
    by_cases hj : j < sz
    · rw [List.getElem?_append_left (by rw [h]; exact hj)] at hu
      exact ⟨0, y, j, rfl, hu, by omega⟩
    · rw [List.getElem?_append_right (by rw [h]; omega), h] at hu
      obtain ⟨k, x, q, h1, h2, h3⟩ := flatR_of h hp l (j - sz) u hu
      exact ⟨k + 1, x, q, by simpa using h1, h2, by rw [Nat.succ_mul]; omega⟩
/-- A row of one's own of such records. -/
def Orw {α : Type} (cs : α → List Value) (e : TypeId) (sz : Nat) (w : World) (base : Nat) (v : Value) (l : List α) : Prop := w.ownsRow base e sz v l.length (l.flatMap cs)
theorem Orw.form {α : Type} {cs : α → List Value} {e : TypeId} {sz : Nat} {w : World} {base : Nat} {v : Value} {l : List α} (h : Orw cs e sz w base v l) : ∃ a c, v = .slice a l.length c ∧ (a = none → l.length = 0 ∧ c = 0) ∧ l.length ≤ c ∧ c ≤ 9223372036854775807 := by
  rcases h.2 with ⟨hv, hn⟩ | ⟨g, cap, cur, hv, _, _, h1, h2, _⟩
  · exact ⟨none, 0, by rw [hn]; exact hv, fun _ => ⟨hn, rfl⟩, by omega, by omega⟩
  · exact ⟨_, cap, hv, (fun e => by cases e), h1, by unfold maxLen at h2; exact h2⟩
theorem Orw.ls {α : Type} {cs : α → List Value} {e t : TypeId} {sz by_ : Nat} {z : Value} (R : Rk cs e t sz by_ z) {w : World} {base : Nat} {a : Option Addr} {n c : Nat} {l : List α} (h : Orw cs e sz w base (.slice a n c) l) : Ls sz cs w a n l := by
  obtain ⟨a', c', e1, h1, _⟩ := h.form
  injection e1 with ea en ec
  subst ea en ec
  refine ⟨rfl, ?_⟩
  rcases h.2 with ⟨hv, hn⟩ | ⟨g, cap, cur, hv, hb, hh, hc1, hc2, hsz, htk⟩
  · exact .inl hn
  · injection hv with ea en ec
    refine .inr ⟨g, 0, ea, lt_of_heap hh, fun k x hx q u hu => ?_⟩
    rw [cell_of_row _ _ _ _ _ _ hh, Nat.zero_add]
    have h2 := flatR_at R.len l k x hx q u hu
    rw [← htk] at h2
    have hlt := (List.getElem?_eq_some_iff.1 h2).1
    rw [List.getElem?_take] at h2
    split at h2
    · simpa using h2
    · cases h2
theorem Orw.below {α : Type} {cs : α → List Value} {e : TypeId} {sz : Nat} {w w' : World} {base : Nat} {v : Value} {l : List α} (h : Orw cs e sz w base v l) (f : ∀ k, v.ownBlock = some k → w'.heap[k]? = w.heap[k]?) : Orw cs e sz w' base v l := by
  refine ⟨h.1, ?_⟩
  rcases h.2 with hv | ⟨g, cap, cur, hv, hb, hh, r⟩
  · exact .inl hv
  · exact .inr ⟨g, cap, cur, hv, hb, (f g (by rw [hv]; rfl)).trans hh, r⟩
theorem Orw.lt {α : Type} {cs : α → List Value} {e : TypeId} {sz : Nat} {w : World} {base : Nat} {v : Value} {l : List α} (h : Orw cs e sz w base v l) : ∀ k, v.ownBlock = some k → base ≤ k ∧ k < w.heap.size := fun k hk => by
  rcases h.2 with ⟨hv, _⟩ | ⟨g, cap, cur, hv, hb, hh, r⟩
  · rw [hv] at hk; cases hk
  · rw [hv] at hk
    injection hk with hk
    subst hk
    exact ⟨hb, lt_of_heap hh⟩
theorem Orw.base {α : Type} {cs : α → List Value} {e : TypeId} {sz : Nat} {w : World} {base base' : Nat} {v : Value} {l : List α} (h : Orw cs e sz w base v l) (hb : base' ≤ base) : Orw cs e sz w base' v l :=
  ⟨h.1, h.2.elim .inl (fun ⟨g, cap, cur, hv, hg, r⟩ => .inr ⟨g, cap, cur, hv, Nat.le_trans hb hg, r⟩)⟩
theorem Orw.nil {α : Type} (cs : α → List Value) (e : TypeId) (sz : Nat) (w : World) (base : Nat) : Orw cs e sz w base (.slice none 0 0) [] := ⟨by simp, .inl ⟨rfl, rfl⟩⟩
theorem Orw.made {α : Type} (cs : α → List Value) (e : TypeId) (sz : Nat) (w : World) (base : Nat) (hb : base ≤ w.heap.size) : Orw cs e sz (w.alloc (.cells #[] e)) base (.slice (some ⟨w.heap.size, 0, none⟩) 0 0) ([] : List α) := World.ownsRow_made w #[] 0 hb (by simp) (by simp)
theorem grown_below {α : Type} {cs : α → List Value} {e : TypeId} {sz : Nat} {w W w' : World} {v : Value} {l : List α} (f : Below w.heap.size w W) (h : Orw cs e sz W w.heap.size v l) (g : W.grownBy w' v.ownBlock) : Below w.heap.size w w' := f.grown g f.size (fun k hk => (h.lt k hk).1)

theorem wpR_append {α : Type} {cs : α → List Value} {e t : TypeId} {sz by_ : Nat} {z : Value} (R : Rk cs e t sz by_ z) {w : World} {o : Oper} {a : Act} {K : Act → World → Prop} {Q : Exit → Act → World → Prop} (s x : Operand) (ho : o.op = .call { callee := .builtin .append, args := #[s, x], argTypes := #[t, t] })
    (base : Nat) (v : Value) (xs : List α) (hs : a.eval s = v) (hown : Orw cs e sz w base v xs) (src : Option Addr) (m c : Nat) (ys : List α) (hx : a.eval x = .slice src m c) (hb : Ls sz cs w src m ys) (hnil : src = none → m = 0 ∧ c = 0)
    (hsm : (xs.length + m) * by_ ≤ 140737488355328) (hmx : xs.length + m ≤ 140737488355328) (hbase : base ≤ w.heap.size) (h : ∀ v' w', Orw cs e sz w' base v' (xs ++ ys) → w.grownBy w' v.ownBlock → K (a.put o.dst v') w') : o.wp Try.prog a w K Q := by
  obtain ⟨i0, hi, hz0, hz1, hz2⟩ := info_parts R.info
  cases src with
  | none =>
    obtain ⟨rfl, rfl⟩ := hnil rfl
    have h0 : ys = [] := List.eq_nil_of_length_eq_zero hb.1
    subst h0
    have hrun := run_append_owned_none (P := Try.prog) (w := w) base t o.type e i0 sz R.sl hi v xs.length (xs.flatMap cs) hown
    unfold Oper.wp
    simp [execOp, ho, resolve, invoke, builtin, hs, hx, hrun, Result.andThen]
    exact h v w (by rw [List.append_nil]; exact hown) ⟨rfl, rfl, rfl, Nat.le_refl _, fun _ _ _ => rfl⟩
  | some ad =>
    have hsrc : ∀ j u, (ys.flatMap cs)[j]? = some u → w.cell? (ad.add j) = some u := by
      rcases hb.2 with h0 | ⟨b, o, e1, _, hE⟩
      · have : ys = [] := List.eq_nil_of_length_eq_zero (by rw [hb.1]; exact h0)
        subst this
        intro j u hu
        simp at hu
      · intro j u hu
        injection e1 with e1
        subst e1
        obtain ⟨k, y, q, h1, h2, rfl⟩ := flatR_of R.len R.pos ys j u hu
        have := hE k y h1 q u h2
        rw [Addr.add_mid, ← Nat.add_assoc]
        exact this
    refine wp_append_own w s x t ho base e i0 z sz by_ R.sl hi hz0 hz1 hz2 R.zero R.pos v xs.length (xs.flatMap cs) hs hown ad m c (ys.flatMap cs) hx (by rw [flatR_len R.len, hb.1]) hsrc (fun u hu => by
      obtain ⟨y, _, hy⟩ := List.mem_flatMap.1 hu
      exact R.one y u hy) (by unfold maxLen; omega) hsm hbase ?_
    intro v' w' h1 h2 _
    refine h v' w' ?_ h2
    unfold Orw
    rw [List.length_append, hb.1, List.flatMap_append]
    exact h1
theorem listR_append {α : Type} {cs : α → List Value} {e t : TypeId} {sz by_ : Nat} {z : Value} (R : Rk cs e t sz by_ z) {w : World} {ops : Array Oper} {rest : List Oper} {o : Oper} {a : Act} {Q : Exit → Act → World → Prop} (hgd : o.guard = none) (s x : Operand) (ho : o.op = .call { callee := .builtin .append, args := #[s, x], argTypes := #[t, t] })
    (base : Nat) (v : Value) (xs : List α) (hs : a.eval s = v) (hown : Orw cs e sz w base v xs) (src : Option Addr) (m c : Nat) (ys : List α) (hx : a.eval x = .slice src m c) (hb : Ls sz cs w src m ys) (hnil : src = none → m = 0 ∧ c = 0)
    (hsm : (xs.length + m) * by_ ≤ 140737488355328) (hmx : xs.length + m ≤ 140737488355328) (hbase : base ≤ w.heap.size) (h : ∀ v' w', Orw cs e sz w' base v' (xs ++ ys) → w.grownBy w' v.ownBlock → wpList Try.prog ops Q rest (a.put o.dst v') w') : wpList Try.prog ops Q (o :: rest) a w :=
  wpList_plain hgd fun K hK => wpR_append R s x ho base v xs hs hown src m c ys hx hb hnil hsm hmx hbase (fun v' w' h1 h2 => hK _ _ (h v' w' h1 h2))
/-- One record in a block of its own. -/
theorem ls_one {α : Type} {cs : α → List Value} {sz : Nat} (w : World) (X : Array Value) (T : TypeId) (x : α) (hX : X.toList = cs x) : Ls sz cs (w.alloc (.cells X T)) (some ⟨w.heap.size, 0, none⟩) 1 [x] := by
  refine ⟨rfl, .inr ⟨_, _, rfl, by simp, fun k y hy q u hu => ?_⟩⟩
  cases k with
  | zero =>
    simp at hy
    subst hy
    rw [cell_of_row _ _ _ _ _ _ (heap_alloc_last w (.cells X T)), Nat.zero_mul, Nat.add_zero, Nat.zero_add]
    rw [← hX] at hu
    simpa using hu
  | succ k => simp at hy
end Go.Proofs.Ytnnanlniffjnkaa

/- The landed class: what its functions judge, as plain values. -/
namespace Go.Proofs.Ytnnanlniffjnkaa
open Go.RowKit
set_option linter.unusedVariables false

/-- At most so many, and each right. -/
def areB {α : Type} (p : α → Bool) (most : Nat) (l : List α) : Bool := decide (l.length ≤ most) && l.all p
def upB (most : Int) (l : List Int) : Bool := l.all fun n => decide (0 ≤ n ∧ n ≤ most)
def longsB : List Ty → Bool
  | [] => true
  | [t] => !decide (t.kind = 2)
  | t :: z :: r => (!decide (t.kind = 2) || decide (z.kind = 0)) && longsB (z :: r)
def riseB : Int → List Mp → Bool
  | _, [] => true
  | last, m :: r => decide (last < m.at_) && riseB m.at_ r
def mapOk (l : List Ent) (m : Mp) : Bool := upB 65535 [m.at_] && (areB (okT l) 64 m.loc && (longsB m.loc && areB (okT l) 64 m.stk))
def accB (n : Int) : Bool := decide (n = 0 ∨ n = 8 ∨ n = 32 ∨ n = 40)

theorem goT_false (l : List Ent) : ∀ ts, goT l false ts = ts.all (okT l)
  | [] => rfl
  | [t] => by simp [goT]
  | t :: z :: r => by
    have ih := goT_false l (z :: r)
    simp [goT, ih]
theorem longsB_top (z : Ty) (hz : z.kind = 0) : ∀ r, longsB (z :: r) = longsB r
  | [] => by simp [longsB, hz]
  | y :: r => by simp [longsB, hz]
theorem okT_top (l : List Ent) (z : Ty) : (okT l z && decide (z.kind = 0)) = decide (z = ⟨0, []⟩) := by
  obtain ⟨k, nm⟩ := z
  rw [Bool.eq_iff_iff]
  simp only [Bool.and_eq_true, decide_eq_true_eq, okT]
  constructor
  · rintro ⟨⟨_, h2⟩, rfl⟩
    simp at h2
    rw [h2]
  · intro h
    injection h with h1 h2
    subst h1 h2
    simp
theorem goT_true (l : List Ent) : ∀ (n : Nat) (ts : List Ty), ts.length ≤ n → goT l true ts = (ts.all (okT l) && longsB ts) := by
  intro n
  induction n with
  | zero => intro ts h; obtain rfl : ts = [] := List.length_eq_zero_iff.1 (by omega); rfl
  | succ n ih =>
    intro ts h
    match ts, h with
    | [], _ => rfl
    | [t], _ => simp [goT, longsB]
    | t :: z :: r, h =>
      have i1 := ih r (by simp at h; omega)
      have i2 := ih (z :: r) (by simp at h ⊢; omega)
      unfold goT longsB
      by_cases hk : t.kind = 2
      · rw [if_pos ⟨rfl, hk⟩, i1]
        have e := okT_top l z
        rw [← e]
        simp only [hk, decide_true, Bool.not_true, Bool.false_or, List.all_cons]
        by_cases hz : z.kind = 0
        · rw [longsB_top z hz]
          simp only [hz, decide_true, Bool.and_true, Bool.true_and]
          cases okT l t <;> cases okT l z <;> cases r.all (okT l) <;> rfl
        · simp [hz]
      · rw [if_neg (fun h => hk h.2), i2]
        simp only [hk, decide_false, Bool.not_false, Bool.true_or, Bool.true_and, List.all_cons]
        cases okT l t <;> cases okT l z <;> cases r.all (okT l) <;> rfl
theorem rightT_loc (l : List Ent) (ts : List Ty) : rightT l true ts = (areB (okT l) 64 ts && longsB ts) := by
  unfold rightT areB
  rw [goT_true l _ ts (Nat.le_refl _), Bool.and_assoc]
theorem rightT_stk (l : List Ent) (ts : List Ty) : rightT l false ts = areB (okT l) 64 ts := by
  unfold rightT areB
  rw [goT_false]
theorem rightM_all (l : List Ent) : ∀ (ms : List Mp) (last : Int), -1 ≤ last → rightM l last ms = (ms.all (mapOk l) && riseB last ms)
  | [], _, _ => rfl
  | m :: r, last, h => by
    unfold rightM riseB
    rw [List.all_cons, rightT_loc, rightT_stk]
    by_cases h1 : last < m.at_
    · rw [rightM_all l r m.at_ (by omega)]
      generalize r.all (mapOk l) = A
      unfold mapOk upB
      simp only [List.all_cons, List.all_nil, Bool.and_true]
      have e : decide (last < m.at_ ∧ m.at_ ≤ 65535) = decide (0 ≤ m.at_ ∧ m.at_ ≤ 65535) := by
        congr 1
        exact propext ⟨fun h => by omega, fun h => by omega⟩
      rw [e]
      simp only [h1, decide_true, Bool.true_and]
      cases decide (0 ≤ m.at_ ∧ m.at_ ≤ 65535) <;> cases areB (okT l) 64 m.loc <;> cases longsB m.loc <;> cases areB (okT l) 64 m.stk <;> cases A <;> cases riseB m.at_ r <;> rfl
    · simp [h1]
theorem rightH_is (l : List Ent) (h : Hd) : rightH l h = (upB 65535 [h.frm, h.to_, h.at_] && (decide (h.cls = 0) || decide (tagE l h.cls = 7))) := by
  unfold rightH upB in16
  have e : decide (h.cls = 0 ∨ 0 < h.cls ∧ h.cls < l.length ∧ tagE l h.cls = 7) = (decide (h.cls = 0) || decide (tagE l h.cls = 7)) := by
    rw [Bool.eq_iff_iff]
    simp only [Bool.or_eq_true, decide_eq_true_eq]
    constructor
    · rintro (h | ⟨_, _, h⟩)
      · exact .inl h
      · exact .inr h
    · rintro (h1 | h1)
      · exact .inl h1
      · by_cases h0 : h.cls = 0
        · exact .inl h0
        · refine .inr ?_
          unfold tagE atE at h1
          by_cases hp : 0 ≤ h.cls
          · rw [if_pos hp] at h1
            have : h.cls.toNat < l.length := by
              cases hl : l[h.cls.toNat]? with
              | none => rw [hl] at h1; simp [ent0] at h1
              | some x => exact (List.getElem?_eq_some_iff.1 hl).1
            refine ⟨by omega, by omega, ?_⟩
            unfold tagE atE
            rw [if_pos hp]
            exact h1
          · rw [if_neg hp] at h1
            simp [ent0] at h1
  rw [e]
  simp only [List.all_cons, List.all_nil, Bool.and_true]
  cases (decide (h.cls = 0) || decide (tagE l h.cls = 7)) <;> cases decide (0 ≤ h.frm ∧ h.frm ≤ 65535) <;> cases decide (0 ≤ h.to_ ∧ h.to_ ≤ 65535) <;> cases decide (0 ≤ h.at_ ∧ h.at_ ≤ 65535) <;> rfl
def codeOk (l : List Ent) (c : Cd) : Bool :=
  upB 64 [c.stack, c.locals] && (decide (0 < c.bytes.length) && (decide (c.bytes.length ≤ 4096) && (areB (rightH l) 256 c.hs && ((decide (c.maps.length = 0) || decide (utfN l sMaps ≠ 0)) && (areB (mapOk l) 256 c.maps && riseB (-1) c.maps)))))
theorem rightD_is (l : List Ent) (c : Cd) : rightD l c = codeOk l c := by
  unfold rightD codeOk
  rw [rightM_all l _ _ (by omega)]
  unfold areB upB
  rw [Bool.eq_iff_iff]
  simp only [Bool.and_eq_true, Bool.or_eq_true, decide_eq_true_eq, List.all_cons, List.all_nil, and_true, List.length_eq_zero_iff]
  constructor
  · rintro ⟨⟨⟨⟨a1, a2, a3, a4, a5, a6, a7, a8⟩, h2⟩, h3⟩, h4, h5⟩
    exact ⟨⟨⟨a1, a2⟩, a3, a4⟩, by omega, a6, ⟨a7, h2⟩, h3, ⟨a8, h4⟩, h5⟩
  · rintro ⟨⟨⟨a1, a2⟩, a3, a4⟩, a5, a6, ⟨a7, h2⟩, h3, ⟨a8, h4⟩, h5⟩
    exact ⟨⟨⟨⟨a1, a2, a3, a4, by omega, a6, a7, a8⟩, h2⟩, h3⟩, h4, h5⟩
def textsB (l : List Ent) (ss : List (List UInt8)) : Bool := ss.all fun s => decide (utfN l s ≠ 0)
theorem rightF_is (l : List Ent) (f : Fd) : rightF l f = (decide (f.acc = 0 ∨ f.acc = 8) && textsB l [f.name, f.type]) := by
  unfold rightF textsB
  rw [Bool.eq_iff_iff]
  simp
theorem rightMd_is (l : List Ent) (m : Md) : rightMd l m = (accB m.acc && (textsB l [m.name, m.type, sCode] && codeOk l m.code)) := by
  unfold rightMd textsB accB
  rw [rightD_is, Bool.eq_iff_iff]
  simp [and_assoc]
theorem rightK_is (c : Cl) : rightK c = (checkP c.pool && (decide (clsN c.pool c.name ≠ 0) && ((decide (c.super = []) || decide (clsN c.pool c.super ≠ 0)) && (areB (rightF c.pool) 256 c.fields && areB (rightMd c.pool) 256 c.methods)))) := by
  unfold rightK areB
  rw [Bool.eq_iff_iff]
  simp only [Bool.and_eq_true, Bool.or_eq_true, decide_eq_true_eq]
  constructor
  · rintro ⟨⟨⟨⟨h1, h2, h3⟩, h4, h5⟩, h6⟩, h7⟩
    exact ⟨h1, h4, h5, ⟨h2, h6⟩, h3, h7⟩
  · rintro ⟨h1, h4, h5, ⟨h2, h6⟩, h3, h7⟩
    exact ⟨⟨⟨⟨h1, h2, h3⟩, h4, h5⟩, h6⟩, h7⟩
/-- By places. -/
theorem longsB_at : ∀ (l : List Ty), longsB l = true ↔ ∀ (i : Nat) (t : Ty), l[i]? = some t → t.kind = 2 → ∃ z, l[i + 1]? = some z ∧ z.kind = 0
  | [] => by simp [longsB]
  | [t] => by
    simp only [longsB, Bool.not_eq_true', decide_eq_false_iff_not]
    constructor
    · intro h i x hx h2
      cases i with
      | zero => simp at hx; subst hx; exact absurd h2 h
      | succ i => simp at hx
    · intro h h2
      obtain ⟨z, hz, _⟩ := h 0 t rfl h2
      simp at hz
  | t :: y :: r => by
    have ih := longsB_at (y :: r)
    unfold longsB
    rw [Bool.and_eq_true, ih]
    constructor
    · rintro ⟨h1, h2⟩ i x hx hk
      cases i with
      | zero =>
        simp at hx
        subst hx
        simp [hk] at h1
        exact ⟨y, rfl, h1⟩
      | succ i => exact h2 i x (by simpa using hx) hk
    · intro h
      refine ⟨?_, fun i x hx hk => h (i + 1) x (by simpa using hx) hk⟩
      by_cases hk : t.kind = 2
      · obtain ⟨z, hz, hz0⟩ := h 0 t rfl hk
        simp at hz
        subst hz
        simp [hz0]
      · simp [hk]
theorem riseB_take : ∀ (ms : List Mp) (last : Int) (k : Nat) (m : Mp), ms[k]? = some m → riseB last (ms.take k) = true → (riseB last (ms.take (k + 1)) = decide ((((ms.take k).map Mp.at_).getLast?.getD last) < m.at_))
  | [], _, _, _, h, _ => by simp at h
  | x :: r, last, 0, m, h, _ => by
    simp at h
    subst h
    simp [riseB]
  | x :: r, last, k + 1, m, h, h2 => by
    simp only [List.take_succ_cons, riseB, Bool.and_eq_true] at h2 ⊢
    rw [riseB_take r x.at_ k m (by simpa using h) h2.2]
    have h21 : decide (last < x.at_) = true := h2.1
    rw [h21, Bool.true_and]
    simp only [List.map_cons, List.getLast?_cons, Option.getD_some]
theorem riseB_false : ∀ (ms : List Mp) (last : Int) (k : Nat), riseB last (ms.take k) = false → riseB last ms = false
  | [], _, k, h => by simp [riseB] at h
  | x :: r, last, 0, h => by simp [riseB] at h
  | x :: r, last, k + 1, h => by
    simp only [List.take_succ_cons, riseB, Bool.and_eq_false_iff] at h ⊢
    rcases h with h | h
    · exact .inl h
    · exact .inr (riseB_false r _ k h)
end Go.Proofs.Ytnnanlniffjnkaa

/- What the walks of stage 8's laws ask of the program's class; works8. -/
namespace Go.Proofs.Ytnnanlniffjnkaa
open Go.RowKit
set_option linter.unusedVariables false
set_option maxRecDepth 100000

/-- The error of a class; its bytes, where there is none. -/
def errK (c : Cl) : Int := if rightK c = false then 80 else if 32768 < (bytesK c).length then 3 else 0
def printK (c : Cl) : List UInt8 := if errK c = 0 then bytesK c else []
def cl0 : Cl := ⟨[], [], [], [], []⟩
def parseK (bs : List UInt8) : Cl × Int := if 32768 < bs.length then (cl0, 3) else match readK bs with
  | none => (cl0, 80)
  | some c => if rightK c = true ∧ bytesK c = bs then (c, 0) else (cl0, 80)
/-- The place of the first method with that name and that type. -/
def findK (ms : List Md) (s t : List UInt8) : Int × Int := match ms.findIdx? (fun m => decide (m.name = s ∧ m.type = t)) with
  | some i => ((i : Int), 0)
  | none => (0, 5)
def plEx : List Ent := [ent0, eUtf [97], ⟨7, [], 0, 1, 0⟩]
def clEx : Cl := ⟨plEx, [97], [], [], []⟩
def bytesEx : List UInt8 := [202, 254, 186, 190, 0, 0, 0, 52, 0, 3, 1, 0, 1, 97, 7, 0, 1, 0, 33, 0, 2, 0, 0, 0, 0, 0, 0, 0, 0, 0, 0]
theorem errEx : errK clEx = 0 := by decide +kernel
theorem printEx : printK clEx = bytesEx := by decide +kernel

/-- The chapter's class in memory. -/
def exR (z : Nat) : ClR := ⟨clEx, ⟨some ⟨z, 0, none⟩, 3, 3⟩, ⟨none, 0, 0⟩, ⟨none, 0, 0⟩, []⟩
theorem lin_none {α : Type} {sz by_ : Nat} {cs : α → List Value} {ok : α → Prop} {w : World} : LIn sz by_ cs ok w ⟨none, 0, 0⟩ [] :=
  ⟨⟨rfl, .inl rfl⟩, Nat.le_refl _, by decide, fun _ => ⟨rfl, rfl⟩, by simp, fun x hx => by cases hx⟩
end Go.Proofs.Ytnnanlniffjnkaa

/- The document's class: the number of a text, of a class. -/
namespace Go.Proofs.Ytnnanlniffjnkaa
open Go.RowKit
set_option linter.unusedVariables false

/-- A class of a right pool leads to a text. -/
theorem class_leads {l : List Ent} (hc : checkP l = true) {k : Nat} {y : Ent} (hy : l[k]? = some y) (h7 : y.tag = 7) : ∃ ka : Nat, y.a = ka ∧ ∃ z, l[ka]? = some z := by
  have hk := (List.getElem?_eq_some_iff.1 hy).1
  have h := ((checkP_all l).1 hc).2 k hk
  have ha : atE l (k : Int) = y := by rw [atE_nat, hy]; rfl
  have ho : okE l y = true := by
    unfold rightAt at h
    rw [ha] at h
    split at h
    · have h0 := of_decide_eq_true h
      rw [h0] at h7
      exact absurd h7 (by decide)
    · rw [Bool.and_eq_true] at h
      exact h.1
  unfold okE at ho
  simp only [h7] at ho
  simp at ho
  have hin := tagE_in (l := l) (i := y.a) (by rw [ho.1]; decide)
  exact ⟨y.a.toNat, by omega, _, List.getElem?_eq_getElem (by omega)⟩

end Go.Proofs.Ytnnanlniffjnkaa

/- Regions that draw their order, walked once, in the text's order: each operation yields one value in every world that meets S, and keeps S; it may call, store, or be skipped by its guard. -/
namespace Go.Proofs.Ytnnanlniffjnkaa
open Go.RowKit
set_option linter.unusedVariables false

section
variable {P : Program} {ops : Array Oper} {Q : Exit → Act → World → Prop} {S : World → Prop}

/-- In state a, in every world that meets S, o leaves v in its temporary, and S holds behind it. -/
def DoesIf (P : Program) (ops : Array Oper) (S : World → Prop) (o : Oper) (v : Value) (a : Act) : Prop :=
  (Region.wanted o (yielded ops a.tmps) = true ∧ ∀ w, S w → ∀ K : Act → World → Prop, Shut (∀ w', S w' → K (a.put o.dst v) w') → Oper.wp P o a w K (fun _ _ _ => False)) ∨
  (Region.wanted o (yielded ops a.tmps) = false ∧ v = undef)
def SeqDo (P : Program) (ops : Array Oper) (Q : Exit → Act → World → Prop) (S : World → Prop) : List Oper → Act → Prop
  | [], a => ∀ w, S w → Q .normal a w
  | o :: rest, a => ∃ v, DoesIf P ops S o v a ∧ SeqDo P ops Q S rest (a.put o.dst v)

theorem put_size (a : Act) (d : Option Tmp) (v : Value) : (a.put d v).tmps.size = a.tmps.size := by cases d <;> simp [Act.put]
theorem put_same {a a' : Act} {d : Option Tmp} {u v : Value} (hs : a'.tmps.size = a.tmps.size) (h : a.put d u = a.put d v) : a'.put d u = a'.put d v := by
  cases d with
  | none => rfl
  | some d =>
    by_cases hd : d < a.tmps.size
    · have e : (a.put (some d) u).tmps[d]? = (a.put (some d) v).tmps[d]? := by rw [h]
      simp [Act.put, hd] at e
      rw [e]
    · have hd' : ¬ d < a'.tmps.size := fun h => hd (hs ▸ h)
      simp [Act.put, Array.setIfInBounds, hd']
theorem DoesIf.op {i : Nat} {o : Oper} {v : Value} {a a' : Act} (hi : ops[i]? = some o) (hd : DoesIf P ops S o v a) (he : execOp a'.eval o = execOp a.eval o)
    (hw : Region.wanted o (yielded ops a'.tmps) = Region.wanted o (yielded ops a.tmps)) (hsz : a'.tmps.size = a.tmps.size) {K : Act → World → Prop} {w : World} (hS : S w)
    (h : ∀ w', S w' → K (a'.put o.dst v) w') : wpOp P ops Q i K a' w := by
  unfold wpOp
  simp only [hi]
  rw [hw]
  rcases hd with ⟨h1, h2⟩ | ⟨h1, rfl⟩
  · rw [if_pos h1]
    refine .inl ?_
    have h3 := h2 w hS (fun a2 w2 => a2 = a.put o.dst v ∧ S w2) (fun w' hw' => ⟨rfl, hw'⟩)
    clear h2
    unfold Oper.wp at h3 ⊢
    rw [he]
    generalize (execOp a.eval o).run P w = r at *
    cases r with
    | ok n w' =>
      cases n <;> simp only [Oper.upon] at h3 ⊢
      case value u => rw [put_same hsz h3.1]; exact h _ h3.2
      case skip => rw [put_same hsz h3.1]; exact h _ h3.2
      case defer d =>
        exfalso
        have e := congrArg Act.defers h3.1
        have e1 : ∀ (b : Act) (x : Option Tmp) (u : Value), (b.put x u).defers = b.defers := fun b x u => by cases x <;> rfl
        rw [e1, e1] at e
        have := congrArg List.length e
        simp at this
      case enter f args =>
        refine Calls.mono h3 fun e w'' he => ?_
        cases e with
        | returned u =>
          have h5 : K (a'.put o.dst u) w'' := by rw [put_same hsz he.1]; exact h _ he.2
          exact h5
        | panicked c => exact he.elim
        | outgrown =>
          obtain ⟨_, _, hf⟩ := he
          exact hf.elim
      case row row args => exact Rows.mono h3 fun u w'' he => by rw [put_same hsz he.1]; exact h _ he.2
    | halt x w' => cases x <;> simp only [Oper.upon] at h3
  · rw [if_neg (by rw [h1]; simp)]
    exact h _ hS

theorem same_looks {o : Oper} {a a' : Act} (hs : ∀ cs b, o.op ≠ .select cs b) (h : ∀ t, t ∈ o.looksAt ops → a'.tmps[t]? = a.tmps[t]?) :
    execOp a'.eval o = execOp a.eval o ∧ Region.wanted o (yielded ops a'.tmps) = Region.wanted o (yielded ops a.tmps) := by
  constructor
  · refine execOp_congr o hs fun x hx => ?_
    cases x with
    | tmp t =>
      have := h t (List.mem_append_left _ (List.mem_filterMap.2 ⟨.tmp t, by simpa using hx, rfl⟩))
      simp [Act.eval, this]
    | _ => rfl
  · unfold Region.wanted
    cases hg : o.guard with
    | none => rfl
    | some gw =>
      obtain ⟨g, want⟩ := gw
      have hy : yielded ops a'.tmps g = yielded ops a.tmps g := by
        unfold yielded
        cases ht : (ops[g]?).bind (·.dst) with
        | none => rfl
        | some t =>
          have := h t (by simp [Oper.looksAt, hg, ht])
          simp [this]
      simp only [hy]

def dstAt (ops : Array Oper) (j : Nat) : Option Tmp := (ops[j]?).bind (·.dst)
def putI (ops : Array Oper) (vs : List Value) (js : List Nat) (a : Act) : Act := js.foldl (fun a j => a.put (dstAt ops j) (vs.getD j undef)) a
theorem putI_size (vs : List Value) : ∀ (js : List Nat) (a : Act), (putI ops vs js a).tmps.size = a.tmps.size
  | [], a => rfl
  | j :: js, a => by
    show (putI ops vs js _).tmps.size = _
    rw [putI_size vs js, put_size]
theorem putI_at (vs : List Value) (t : Nat) : ∀ (js : List Nat) (a : Act), (∀ j ∈ js, dstAt ops j ≠ some t) → (putI ops vs js a).tmps[t]? = a.tmps[t]?
  | [], a, _ => rfl
  | j :: js, a, h => by
    show (putI ops vs js (a.put (dstAt ops j) (vs.getD j undef))).tmps[t]? = _
    rw [putI_at vs t js _ (fun k hk => h k (List.mem_cons_of_mem _ hk))]
    have hj := h j (List.mem_cons_self ..)
    revert hj
    generalize dstAt ops j = d
    intro hj
    cases d with
    | none => rfl
    | some d =>
      show (a.tmps.setIfInBounds d _)[t]? = _
      rw [Array.getElem?_setIfInBounds_ne (fun e => hj (by rw [e]))]
theorem putI_pull (vs : List Value) (i : Nat) : ∀ (js : List Nat) (a : Act), js.Nodup → i ∈ js → (∀ j ∈ js, j ≠ i → ∀ d, dstAt ops i = some d → dstAt ops j ≠ some d) →
    putI ops vs js a = putI ops vs (js.filter (fun j => decide (j ≠ i))) (a.put (dstAt ops i) (vs.getD i undef))
  | [], a, _, h, _ => by simp at h
  | j :: js, a, hn, hm, hd => by
    obtain ⟨hn1, hn2⟩ := List.nodup_cons.1 hn
    show putI ops vs js (a.put (dstAt ops j) (vs.getD j undef)) = _
    by_cases e : j = i
    · subst e
      have hf : (j :: js).filter (fun k => decide (k ≠ j)) = js := by
        rw [List.filter_cons_of_neg (by simp)]
        exact List.filter_eq_self.2 (fun k hk => by simp; intro e; subst e; exact hn1 hk)
      rw [hf]
    · have hm' : i ∈ js := (List.mem_cons.1 hm).resolve_left (fun e' => e e'.symm)
      rw [List.filter_cons_of_pos (by simpa using e), putI_pull vs i js _ hn2 hm' (fun k hk => hd k (List.mem_cons_of_mem _ hk))]
      show _ = putI ops vs (js.filter _) ((a.put (dstAt ops i) _).put (dstAt ops j) _)
      rw [Act.put_comm a _ _ (fun d hd' e' => hd j (List.mem_cons_self ..) e d e' hd')]

/-- What the law asks of a region's text. -/
def seqOk (ops : Array Oper) : Bool := (List.range ops.size).all fun i => match ops[i]? with
  | none => true
  | some o => (match o.op with | .select .. => false | _ => true) && o.after.all (fun e => !Region.binds .any e || decide (e.on < i)) &&
    (List.range ops.size).all fun j => match dstAt ops j with
      | none => true
      | some d => (!(o.looksAt ops).contains d || (decide (j < i) && o.after.any (fun e => Region.binds .any e && e.on == j))) && (j == i || o.dst != some d)
theorem seqOk_spec (h : seqOk ops = true) {i : Nat} {o : Oper} (ho : ops[i]? = some o) :
    (∀ cs b, o.op ≠ .select cs b) ∧ (∀ e ∈ o.after, Region.binds .any e = true → e.on < i) ∧
    ∀ j d, dstAt ops j = some d → (d ∈ o.looksAt ops → j < i ∧ ∃ e ∈ o.after, Region.binds .any e = true ∧ e.on = j) ∧ (j ≠ i → o.dst ≠ some d) := by
  have hi : i < ops.size := (Array.getElem?_eq_some_iff.1 ho).1
  have h1 := List.all_eq_true.1 h i (List.mem_range.2 hi)
  simp only [ho, Bool.and_eq_true] at h1
  obtain ⟨⟨h2, h3⟩, h4⟩ := h1
  refine ⟨fun cs b e => ?_, fun e he hb => ?_, fun j d hj => ?_⟩
  · rw [e] at h2
    cases h2
  · have := (Array.all_eq_true_iff_forall_mem.1 h3) e he
    simpa [hb] using this
  · have hjs : j < ops.size := by
      unfold dstAt at hj
      cases hoj : ops[j]? with
      | none => rw [hoj] at hj; cases hj
      | some x => exact (Array.getElem?_eq_some_iff.1 hoj).1
    have h5 := List.all_eq_true.1 h4 j (List.mem_range.2 hjs)
    simp only [hj, Bool.and_eq_true] at h5
    refine ⟨fun hd => ?_, fun hne => ?_⟩
    · have h6 := h5.1
      rw [List.contains_iff_mem.2 hd] at h6
      simp only [Bool.not_true, Bool.false_or, Bool.and_eq_true, decide_eq_true_eq] at h6
      refine ⟨h6.1, ?_⟩
      obtain ⟨e, he, h7⟩ : ∃ e ∈ o.after, (Region.binds .any e && e.on == j) = true := by
        obtain ⟨q, hq, h8⟩ := Array.any_eq_true.1 h6.2
        exact ⟨_, Array.getElem_mem hq, h8⟩
      simp only [Bool.and_eq_true, beq_iff_eq] at h7
      exact ⟨e, he, h7.1, h7.2⟩
    · have h6 := h5.2
      simp only [Bool.or_eq_true, beq_iff_eq, bne_iff_ne] at h6
      exact h6.resolve_left hne

theorem seq_vals : ∀ (l : List Oper) (k : Nat) (a : Act), (∀ i o, l[i]? = some o → ops[k + i]? = some o) → SeqDo P ops Q S l a →
    ∃ vs : List Value, (∀ i o, l[i]? = some o → DoesIf P ops S o (vs.getD (k + i) undef) (putI ops vs (List.range' k i) a)) ∧ ∀ w, S w → Q .normal (putI ops vs (List.range' k l.length) a) w
  | [], k, a, _, h => ⟨[], fun i o ho => by simp at ho, h⟩
  | o :: l, k, a, hl, ⟨v, h1, h2⟩ => by
    have hk : ops[k]? = some o := hl 0 o rfl
    obtain ⟨vs, h3, h4⟩ := seq_vals l (k + 1) _ (fun i x hx => by rw [show k + 1 + i = k + (i + 1) by omega]; exact hl (i + 1) x (by simpa using hx)) h2
    let us := (List.range k).map (fun _ => undef) ++ v :: vs.drop (k + 1)
    have hu : us.getD k undef = v := by simp [us, List.getD_eq_getElem?_getD]
    have hus : ∀ j, k < j → us.getD j undef = vs.getD j undef := fun j hj => by
      simp only [us, List.getD_eq_getElem?_getD]
      rw [List.getElem?_append_right (by simp; omega)]
      simp only [List.length_map, List.length_range]
      obtain ⟨m, rfl⟩ : ∃ m, j = k + 1 + m := ⟨j - (k + 1), by omega⟩
      rw [show k + 1 + m - k = m + 1 by omega, List.getElem?_cons_succ, List.getElem?_drop]
    have hput : ∀ js a, (∀ j ∈ js, k < j) → putI ops us js a = putI ops vs js a := by
      intro js
      induction js with
      | nil => intro a _; rfl
      | cons j js ih =>
        intro a hj
        show putI ops us js (a.put _ (us.getD j undef)) = putI ops vs js (a.put _ (vs.getD j undef))
        rw [hus j (hj j (List.mem_cons_self ..)), ih _ (fun q hq => hj q (List.mem_cons_of_mem _ hq))]
    have hfirst : ∀ m a, putI ops us (List.range' k (m + 1)) a = putI ops vs (List.range' (k + 1) m) (a.put o.dst v) := fun m a => by
      rw [List.range'_succ]
      show putI ops us _ (a.put (dstAt ops k) (us.getD k undef)) = _
      rw [hu, hput _ _ (fun j hj => by have := List.mem_range'_1.1 hj; omega)]
      unfold dstAt
      rw [hk]
      rfl
    refine ⟨us, fun i x hx => ?_, fun w hw => ?_⟩
    · cases i with
      | zero =>
        simp at hx
        subst hx
        show DoesIf P ops S o (us.getD k undef) a
        rw [hu]
        exact h1
      | succ i =>
        rw [hfirst, show k + (i + 1) = k + 1 + i by omega, hus _ (by omega)]
        exact h3 i x (by simpa using hx)
    · rw [List.length_cons, hfirst]
      exact h4 w hw

theorem un_set {listed : Array Bool} {i n : Nat} (hi : i < listed.size) :
    ((List.range n).filter fun j => (listed.setIfInBounds i true).getD j true == false) = ((List.range n).filter fun j => listed.getD j true == false).filter (fun j => decide (j ≠ i)) := by
  rw [List.filter_filter]
  congr 1
  funext j
  by_cases e : j = i
  · subst e
    simp [hi]
  · rw [getD_set_ne true (fun h => e h.symm)]
    simp [e]

theorem seq_any (hok : seqOk ops = true) (vs : List Value) (a0 : Act) (hdo : ∀ i o, ops[i]? = some o → DoesIf P ops S o (vs.getD i undef) (putI ops vs (List.range i) a0))
    (hfin : ∀ w, S w → Q .normal (putI ops vs (List.range ops.size) a0) w) :
    ∀ (fuel : Nat) (listed : Array Bool) (a : Act) (w : World), listed.size = ops.size → ((List.range ops.size).filter fun j => listed.getD j true == false).length ≤ fuel →
      putI ops vs ((List.range ops.size).filter fun j => listed.getD j true == false) a = putI ops vs (List.range ops.size) a0 → S w → wpAny P .any ops Q fuel listed a w := by
  have key : ∀ (listed : Array Bool) (a : Act) (w : World), listed.size = ops.size → putI ops vs ((List.range ops.size).filter fun j => listed.getD j true == false) a = putI ops vs (List.range ops.size) a0 → S w →
      Region.ready .any ops listed = [] → Q .normal a w := fun listed a w hsz hp hS hr => by
    have hnil : ((List.range ops.size).filter fun j => listed.getD j true == false) = [] := by
      cases hc : ((List.range ops.size).filter fun j => listed.getD j true == false) with
      | nil => rfl
      | cons i rest =>
        exfalso
        have hmem : i ∈ ((List.range ops.size).filter fun j => listed.getD j true == false) := by rw [hc]; exact List.mem_cons_self ..
        have hmin : ∀ j ∈ ((List.range ops.size).filter fun j => listed.getD j true == false), i ≤ j := by
          have hsorted : ((List.range ops.size).filter fun j => listed.getD j true == false).Pairwise (· < ·) := List.Pairwise.filter _ List.pairwise_lt_range
          rw [hc] at hsorted ⊢
          intro j hj
          rcases List.mem_cons.1 hj with rfl | hj
          · exact Nat.le_refl _
          · exact Nat.le_of_lt ((List.pairwise_cons.1 hsorted).1 j hj)
        rw [List.mem_filter, List.mem_range] at hmem
        have ho : ops[i]? = some ops[i] := Array.getElem?_eq_getElem hmem.1
        have hready : i ∈ Region.ready .any ops listed := by
          refine mem_ready.2 ⟨by simpa using hmem.2, _, ho, fun e he hb => ?_⟩
          have hlt := (seqOk_spec hok ho).2.1 e he hb
          have hes : e.on < listed.size := by omega
          cases hl : listed.getD e.on false with
          | true => rfl
          | false =>
            exfalso
            have : e.on ∈ ((List.range ops.size).filter fun j => listed.getD j true == false) := by
              rw [List.mem_filter, List.mem_range]
              refine ⟨by omega, ?_⟩
              simp [hes] at hl ⊢
              exact hl
            have := hmin _ this
            omega
        rw [hr] at hready
        cases hready
    rw [hnil] at hp
    have hp' : a = putI ops vs (List.range ops.size) a0 := hp
    rw [hp']
    exact hfin w hS
  intro fuel
  induction fuel with
  | zero =>
    intro listed a w hsz hlen hp hS
    have hr : Region.ready .any ops listed = [] := by
      cases hc : Region.ready .any ops listed with
      | nil => rfl
      | cons i rest =>
        exfalso
        have hi : i ∈ Region.ready .any ops listed := by rw [hc]; exact List.mem_cons_self ..
        obtain ⟨h0, o, ho, _⟩ := mem_ready.1 hi
        have : i ∈ ((List.range ops.size).filter fun j => listed.getD j true == false) := by
          rw [List.mem_filter, List.mem_range]
          exact ⟨(Array.getElem?_eq_some_iff.1 ho).1, by rw [h0]; rfl⟩
        rw [List.eq_nil_of_length_eq_zero (Nat.le_zero.1 hlen)] at this
        cases this
    exact ⟨hr, key listed a w hsz hp hS hr⟩
  | succ fuel ih =>
    intro listed a w hsz hlen hp hS
    refine ⟨key listed a w hsz hp hS, fun i hi => ?_⟩
    obtain ⟨h0, o, ho, hall⟩ := mem_ready.1 hi
    have hin : i < ops.size := (Array.getElem?_eq_some_iff.1 ho).1
    obtain ⟨hs1, hs2, hs3⟩ := seqOk_spec hok ho
    have hun : i ∈ ((List.range ops.size).filter fun j => listed.getD j true == false) := by
      rw [List.mem_filter, List.mem_range]
      exact ⟨hin, by rw [h0]; rfl⟩
    have hsize : a.tmps.size = (putI ops vs (List.range i) a0).tmps.size := by
      rw [putI_size]
      have := congrArg (fun x => x.tmps.size) hp
      simpa only [putI_size] using this
    have hN : putI ops vs (List.range ops.size) a0 = putI ops vs (List.range' i (ops.size - i)) (putI ops vs (List.range i) a0) := by
      unfold putI
      rw [← List.foldl_append]
      congr 1
      rw [List.range_eq_range', List.range_eq_range']
      have := List.range'_append (s := 0) (m := i) (n := ops.size - i) (step := 1)
      rw [Nat.zero_add, Nat.one_mul, show i + (ops.size - i) = ops.size by omega] at this
      exact this.symm
    have hlook : ∀ t, t ∈ o.looksAt ops → a.tmps[t]? = (putI ops vs (List.range i) a0).tmps[t]? := fun t ht => by
      have e1 : (putI ops vs ((List.range ops.size).filter fun j => listed.getD j true == false) a).tmps[t]? = a.tmps[t]? := putI_at vs t _ a (fun j hj hd => by
        obtain ⟨e, he, hb, hon⟩ := ((hs3 j t hd).1 ht).2
        have := hall e he hb
        rw [List.mem_filter, List.mem_range] at hj
        have hj2 : listed.getD j true = false := by simpa using hj.2
        rw [hon] at this
        have hjs : j < listed.size := by omega
        simp [hjs] at this hj2
        rw [this] at hj2
        cases hj2)
      have e2 : (putI ops vs (List.range' i (ops.size - i)) (putI ops vs (List.range i) a0)).tmps[t]? = (putI ops vs (List.range i) a0).tmps[t]? := putI_at vs t _ _ (fun j hj hd => by
        have h1 := ((hs3 j t hd).1 ht).1
        have h2 := (List.mem_range'_1.1 hj).1
        omega)
      rw [← e1, hp, hN, e2]
    obtain ⟨he, hw⟩ := same_looks hs1 hlook
    refine (hdo i o ho).op ho he hw hsize hS (fun w' hS' => ?_)
    have hdst : dstAt ops i = o.dst := by unfold dstAt; rw [ho]; rfl
    have hnd : ((List.range ops.size).filter fun j => listed.getD j true == false).Nodup := List.Pairwise.filter _ List.nodup_range
    refine ih (listed.setIfInBounds i true) _ w' (by simpa using hsz) ?_ ?_ hS'
    · rw [un_set (by omega)]
      have : (((List.range ops.size).filter fun j => listed.getD j true == false).filter (fun j => decide (j ≠ i))).length < ((List.range ops.size).filter fun j => listed.getD j true == false).length :=
        List.length_filter_lt_length_iff_exists.2 ⟨i, hun, by simp⟩
      omega
    · rw [un_set (by omega), ← hp, putI_pull vs i _ a hnd hun (fun j hj hne d hd => fun hd2 => by
        rw [hdst] at hd
        exact (hs3 j d hd2).2 hne hd), hdst]

/-- The law. -/
theorem wp_region_seq {id : Nat} {l : List Oper} {a : Act} {w : World} (S : World → Prop) (hm : P.follows .mixedOrders = true) (hok : seqOk l.toArray = true) (hS : S w.drew)
    (h : SeqDo P l.toArray Q S l a) : (Code.region id l.toArray true).wp P Q a w := by
  refine wp_region_any hm ?_
  obtain ⟨vs, h1, h2⟩ := seq_vals (ops := l.toArray) l 0 a (fun i o ho => by simpa using ho) h
  have hfil : ((List.range l.toArray.size).filter fun j => (Array.replicate l.toArray.size false).getD j true == false) = List.range l.toArray.size := by
    refine List.filter_eq_self.2 (fun j hj => ?_)
    have := List.mem_range.1 hj
    simp at this
    simp [this]
  refine seq_any hok vs a (fun i o ho => ?_) (fun w hw => ?_) _ _ a _ (by simp) ?_ ?_ hS
  · have := h1 i o (by simpa using ho)
    rw [Nat.zero_add, ← List.range_eq_range'] at this
    exact this
  · have := h2 w hw
    rw [← List.range_eq_range'] at this
    simpa using this
  · rw [hfil]
    simp
  · rw [hfil]

/-- One step: the operation is wanted. -/
theorem SeqDo.does {o : Oper} {l : List Oper} {a : Act} {v : Value} (hw : Region.wanted o (yielded ops a.tmps) = true)
    (hd : ∀ w, S w → ∀ K : Act → World → Prop, Shut (∀ w', S w' → K (a.put o.dst v) w') → Oper.wp P o a w K (fun _ _ _ => False)) (h : SeqDo P ops Q S l (a.put o.dst v)) : SeqDo P ops Q S (o :: l) a := ⟨v, .inl ⟨hw, hd⟩, h⟩
/-- .. and only reads. -/
theorem SeqDo.yields {o : Oper} {l : List Oper} {a : Act} {v : Value} (hw : Region.wanted o (yielded ops a.tmps) = true)
    (hd : ∀ w, S w → (execOp a.eval o).run P w = .ok (.value v) w) (h : SeqDo P ops Q S l (a.put o.dst v)) : SeqDo P ops Q S (o :: l) a :=
  ⟨v, .inl ⟨hw, fun w hS K hK => by
    unfold Oper.wp
    rw [hd w hS]
    exact hK.out _ hS⟩, h⟩
/-- .. its guard skips it. -/
theorem SeqDo.skips {o : Oper} {l : List Oper} {a : Act} (hw : Region.wanted o (yielded ops a.tmps) = false) (h : SeqDo P ops Q S l (a.put o.dst undef)) : SeqDo P ops Q S (o :: l) a := ⟨undef, .inr ⟨hw, rfl⟩, h⟩

end
end Go.Proofs.Ytnnanlniffjnkaa

/- Regions that draw their order, walked once, in an order of one's own choice: what only reads yields one value in every world that meets I; what acts (calls, makes, stores) depends on all acts ahead of it, and all that comes behind an act in that order depends on it. -/
namespace Go.Proofs.Ytnnanlniffjnkaa
open Go.RowKit
set_option linter.unusedVariables false

section
variable {P : Program} {ops : Array Oper} {Q : Exit → Act → World → Prop} {I : World → Prop} {ef : Nat → Bool}

def noPanic : Exit → Act → World → Prop := fun _ _ _ => False
/-- In state a o yields v, in every world that meets I; or it is skipped. -/
def ReadIf (P : Program) (ops : Array Oper) (I : World → Prop) (o : Oper) (v : Value) (a : Act) : Prop :=
  (Region.wanted o (yielded ops a.tmps) = true ∧ ∀ w, I w → (execOp a.eval o).run P w = .ok (.value v) w) ∨ (Region.wanted o (yielded ops a.tmps) = false ∧ v = undef)
def Txt (P : Program) (ops : Array Oper) (Q : Exit → Act → World → Prop) (I : World → Prop) (ef : Nat → Bool) : List Nat → Act → World → Prop
  | [], a, w => Q .normal a w
  | i :: l, a, w => ∃ o, ops[i]? = some o ∧ (ef i = false → ∃ v, ReadIf P ops I o v a ∧ Txt P ops Q I ef l (a.put o.dst v) w) ∧
      (ef i = true → (Region.wanted o (yielded ops a.tmps) = true → Oper.wp P o a w (fun a' w' => I w' ∧ Txt P ops Q I ef l a' w') noPanic) ∧ (Region.wanted o (yielded ops a.tmps) = false → Txt P ops Q I ef l (a.put o.dst undef) w))

theorem looks_put {o : Oper} {a : Act} {d : Option Tmp} {v : Value} (hs : ∀ cs b, o.op ≠ .select cs b) (h : ∀ t, d = some t → t ∉ o.looksAt ops) :
    execOp (a.put d v).eval o = execOp a.eval o ∧ Region.wanted o (yielded ops (a.put d v).tmps) = Region.wanted o (yielded ops a.tmps) :=
  same_looks hs fun t ht => by
    cases d with
    | none => rfl
    | some d =>
      show (a.tmps.setIfInBounds d v)[t]? = a.tmps[t]?
      rw [Array.getElem?_setIfInBounds_ne (fun e => h d rfl (by rw [e]; exact ht))]
theorem ReadIf.put {o : Oper} {a : Act} {d : Option Tmp} {u v : Value} (hs : ∀ cs b, o.op ≠ .select cs b) (h : ∀ t, d = some t → t ∉ o.looksAt ops) : ReadIf P ops I o v (a.put d u) ↔ ReadIf P ops I o v a := by
  obtain ⟨h1, h2⟩ := looks_put (a := a) (v := u) hs h
  unfold ReadIf
  rw [h1, h2]
theorem wp_put {o : Oper} {a : Act} {w : World} {d : Option Tmp} {u : Value} {K K' : Act → World → Prop} (hs : ∀ cs b, o.op ≠ .select cs b) (h : ∀ t, d = some t → t ∉ o.looksAt ops) (hd : ∀ t, d = some t → o.dst ≠ some t)
    (hh : Oper.wp P o (a.put d u) w K noPanic) (hK : ∀ a' w', K (a'.put d u) w' → K' a' w') : Oper.wp P o a w K' noPanic := by
  unfold Oper.wp at hh ⊢
  rw [(looks_put (a := a) (v := u) hs h).1] at hh
  have comm : ∀ (b : Act) (x : Value), (b.put d u).put o.dst x = (b.put o.dst x).put d u := fun b x => Act.put_comm b _ _ (fun t ht e => hd t ht e)
  generalize (execOp a.eval o).run P w = r at *
  cases r with
  | ok n w' =>
    cases n <;> simp only [Oper.upon] at hh ⊢
    case value x => exact hK _ _ (by rw [← comm]; exact hh)
    case skip => exact hK _ _ (by rw [← comm]; exact hh)
    case defer x =>
      refine hK _ _ ?_
      rw [← comm]
      cases d <;> exact hh
    case enter f args =>
      refine Calls.mono hh fun e w'' he => ?_
      cases e with
      | returned x => exact hK _ _ (by rw [← comm]; exact he)
      | panicked c => exact he.elim
      | outgrown => exact he
    case row row args => exact Rows.mono hh fun x w'' he => hK _ _ (by rw [← comm]; exact he)
  | halt x w' => cases x <;> first | exact hh | exact hh.elim

/-- What may stand ahead of i though i is done before it. -/
def Ahead (ops : Array Oper) (ef : Nat → Bool) (i : Nat) (o : Oper) (j : Nat) : Prop :=
  ef j = false ∧ (∀ t, dstAt ops j = some t → t ∉ o.looksAt ops ∧ o.dst ≠ some t) ∧ ∀ oj, ops[j]? = some oj → (∀ cs b, oj.op ≠ .select cs b) ∧ ∀ t, o.dst = some t → t ∉ oj.looksAt ops

theorem Txt.pull {i : Nat} {o : Oper} {post : List Nat} {w : World} (ho : ops[i]? = some o) (hs : ∀ cs b, o.op ≠ .select cs b) : ∀ (pre : List Nat) (a : Act), (∀ j ∈ pre, Ahead ops ef i o j) → Txt P ops Q I ef (pre ++ i :: post) a w →
    (ef i = false → ∃ v, ReadIf P ops I o v a ∧ Txt P ops Q I ef (pre ++ post) (a.put o.dst v) w) ∧
    (ef i = true → (Region.wanted o (yielded ops a.tmps) = true → Oper.wp P o a w (fun a' w' => I w' ∧ Txt P ops Q I ef (pre ++ post) a' w') noPanic) ∧ (Region.wanted o (yielded ops a.tmps) = false → Txt P ops Q I ef (pre ++ post) (a.put o.dst undef) w))
  | [], a, _, h => by
    obtain ⟨o', ho', h1, h2⟩ := h
    rw [ho] at ho'
    injection ho' with ho'
    subst ho'
    exact ⟨h1, h2⟩
  | j :: pre, a, hp, h => by
    obtain ⟨oj, hoj, h1, _⟩ := h
    obtain ⟨hj1, hj2, hj3⟩ := hp j (List.mem_cons_self ..)
    obtain ⟨hj4, hj5⟩ := hj3 oj hoj
    have hdst : dstAt ops j = oj.dst := by unfold dstAt; rw [hoj]; rfl
    rw [hdst] at hj2
    obtain ⟨u, hu, hT⟩ := h1 hj1
    obtain ⟨i1, i2⟩ := Txt.pull ho hs pre _ (fun k hk => hp k (List.mem_cons_of_mem _ hk)) hT
    have comm : ∀ x, (a.put oj.dst u).put o.dst x = (a.put o.dst x).put oj.dst u := fun x => Act.put_comm a _ _ (fun t ht e => (hj2 t ht).2 e)
    have hl1 : ∀ t, oj.dst = some t → t ∉ o.looksAt ops := fun t ht => (hj2 t ht).1
    have hback : ∀ (b : Act) (w' : World), ReadIf P ops I oj u b → Txt P ops Q I ef (pre ++ post) (b.put oj.dst u) w' → Txt P ops Q I ef (j :: pre ++ post) b w' := fun b w' g1 g2 =>
      ⟨oj, hoj, fun _ => ⟨u, g1, g2⟩, fun e => by rw [hj1] at e; cases e⟩
    refine ⟨fun e => ?_, fun e => ⟨fun hw => ?_, fun hw => ?_⟩⟩
    · obtain ⟨v, hv, hT2⟩ := i1 e
      rw [comm] at hT2
      exact ⟨v, (ReadIf.put hs hl1).1 hv, hback _ _ ((ReadIf.put hj4 hj5).2 hu) hT2⟩
    · have hw' : Region.wanted o (yielded ops (a.put oj.dst u).tmps) = true := by rw [(looks_put hs hl1).2]; exact hw
      have h3 := (i2 e).1 hw'
      unfold Oper.wp at h3 ⊢
      rw [(looks_put hs hl1).1] at h3
      generalize (execOp a.eval o).run P w = r at *
      have key : ∀ x w', I w' ∧ Txt P ops Q I ef (pre ++ post) ((a.put oj.dst u).put o.dst x) w' → I w' ∧ Txt P ops Q I ef (j :: pre ++ post) (a.put o.dst x) w' := fun x w' hx => by
        rw [comm] at hx
        exact ⟨hx.1, hback _ _ ((ReadIf.put hj4 hj5).2 hu) hx.2⟩
      cases r with
      | ok n w' =>
        cases n <;> simp only [Oper.upon] at h3 ⊢
        case value x => exact key _ _ h3
        case skip => exact key _ _ h3
        case defer x =>
          have comm2 : ({ a.put oj.dst u with defers := x :: (a.put oj.dst u).defers } : Act).put o.dst undef = (({ a with defers := x :: a.defers } : Act).put o.dst undef).put oj.dst u := by
            rw [← Act.put_comm _ _ _ (fun t ht e => (hj2 t ht).2 e)]
            cases oj.dst <;> rfl
          rw [comm2] at h3
          refine ⟨h3.1, hback _ _ ?_ h3.2⟩
          refine (ReadIf.put hj4 hj5).2 ?_
          exact hu
        case enter f args =>
          refine Calls.mono h3 fun e w'' he => ?_
          cases e with
          | returned x => exact key _ _ he
          | panicked c => exact he.elim
          | outgrown => exact he
        case row row args => exact Rows.mono h3 fun x w'' he => key _ _ he
      | halt x w' => cases x <;> first | exact h3 | exact h3.elim
    · have hw' : Region.wanted o (yielded ops (a.put oj.dst u).tmps) = false := by rw [(looks_put hs hl1).2]; exact hw
      have h3 := (i2 e).2 hw'
      rw [comm] at h3
      exact hback _ _ ((ReadIf.put hj4 hj5).2 hu) h3

/-- What is asked of the order: each operation behind what it waits for; whatever comes behind an act waits for it. -/
def depsOn (ops : Array Oper) (i : Nat) (s : List Nat) : Bool := match ops[i]? with
  | none => false
  | some o => o.after.any fun e => Region.binds .any e && s.contains e.on
def segOk (ops : Array Oper) (ef : Nat → Bool) : List Nat → List Nat → List Nat → Bool
  | _, _, [] => true
  | E, seg, i :: l => (match E with | [] => true | e :: _ => depsOn ops i (e :: seg)) && (if ef i then segOk ops ef (i :: E) [] l else segOk ops ef E (i :: seg) l)
def opOk (ops : Array Oper) (i : Nat) : Bool := match ops[i]? with
  | none => false
  | some o => (match o.op with | .select .. => false | _ => true) &&
    (List.range ops.size).all fun j => match dstAt ops j with
      | none => true
      | some d => (!(o.looksAt ops).contains d || o.after.any (fun e => Region.binds .any e && e.on == j)) && (j == i || o.dst != some d)
def topOk (ops : Array Oper) : List Nat → List Nat → Bool
  | _, [] => true
  | seen, i :: l => (match ops[i]? with | none => false | some o => o.after.all fun e => !Region.binds .any e || seen.contains e.on) && topOk ops (i :: seen) l
def txtOk (ops : Array Oper) (ef : Nat → Bool) (π : List Nat) : Bool :=
  decide (π.length = ops.size ∧ π.Nodup) && π.all (fun i => decide (i < ops.size)) && (List.range ops.size).all (fun i => π.contains i && opOk ops i) && segOk ops ef [] [] π && topOk ops [] π

/-- Done operations, closed under what they wait for. -/
def Closed (ops : Array Oper) (L : Nat → Prop) : Prop := ∀ i o, ops[i]? = some o → L i → ∀ e ∈ o.after, Region.binds .any e = true → L e.on
def Waits (ops : Array Oper) (L : Nat → Prop) (i : Nat) : Prop := ∀ o, ops[i]? = some o → ∀ e ∈ o.after, Region.binds .any e = true → L e.on
theorem depsOn_spec {i : Nat} {s : List Nat} {L : Nat → Prop} (h : depsOn ops i s = true) (hw : Waits ops L i) : ∃ k ∈ s, L k := by
  unfold depsOn at h
  cases ho : ops[i]? with
  | none => rw [ho] at h; cases h
  | some o =>
    simp only [ho] at h
    obtain ⟨q, hq, h8⟩ := Array.any_eq_true.1 h
    rw [Bool.and_eq_true] at h8
    exact ⟨_, List.contains_iff_mem.1 h8.2, hw o ho _ (Array.getElem_mem hq) h8.1⟩
theorem segOk_spec {L : Nat → Prop} (hc : Closed ops L) : ∀ (l E seg : List Nat), segOk ops ef E seg l = true → (∀ k ∈ seg, L k → ∀ e ∈ E, L e) → (∀ e E', E = e :: E' → L e → ∀ x ∈ E', L x) →
    ∀ pre i post, l = pre ++ i :: post → Waits ops L i → (∀ e ∈ E, L e) ∧ ∀ j ∈ pre, ef j = true → L j
  | [], E, seg, _, _, _, pre, i, post, e, _ => by cases pre <;> cases e
  | x :: l, E, seg, h, h1, h2, pre, i, post, e, hw => by
    unfold segOk at h
    rw [Bool.and_eq_true] at h
    have head : Waits ops L x → ∀ e ∈ E, L e := fun hx => by
      cases E with
      | nil => intro e he; cases he
      | cons e0 E' =>
        obtain ⟨k, hk, hL⟩ := depsOn_spec h.1 hx
        rcases List.mem_cons.1 hk with rfl | hk
        · intro e he
          rcases List.mem_cons.1 he with rfl | he
          · exact hL
          · exact h2 _ _ rfl hL e he
        · exact h1 k hk hL
    have hwx : L x → Waits ops L x := fun hx o ho => hc x o ho hx
    cases pre with
    | nil =>
      simp at e
      obtain ⟨rfl, rfl⟩ := e
      exact ⟨head hw, fun j hj => by cases hj⟩
    | cons y pre =>
      simp at e
      obtain ⟨rfl, rfl⟩ := e
      by_cases hx : ef x = true
      · have h3 := h.2
        rw [if_pos hx] at h3
        obtain ⟨g1, g2⟩ := segOk_spec hc _ _ _ h3 (fun k hk => by cases hk) (fun e E' he hL => by injection he with he1 he2; subst he1 he2; exact head (hwx hL)) pre i post rfl hw
        refine ⟨fun e he => g1 e (List.mem_cons_of_mem _ he), fun j hj hj2 => ?_⟩
        rcases List.mem_cons.1 hj with rfl | hj
        · exact g1 _ (List.mem_cons_self ..)
        · exact g2 j hj hj2
      · have h3 := h.2
        rw [if_neg hx] at h3
        obtain ⟨g1, g2⟩ := segOk_spec hc _ _ _ h3 (fun k hk hL => by
          rcases List.mem_cons.1 hk with rfl | hk
          · exact head (hwx hL)
          · exact h1 k hk hL) h2 pre i post rfl hw
        refine ⟨g1, fun j hj hj2 => ?_⟩
        rcases List.mem_cons.1 hj with rfl | hj
        · exact absurd hj2 hx
        · exact g2 j hj hj2
theorem topOk_spec : ∀ (l seen : List Nat), topOk ops seen l = true → ∀ pre i post, l = pre ++ i :: post → ∀ o, ops[i]? = some o → ∀ e ∈ o.after, Region.binds .any e = true → e.on ∈ pre ∨ e.on ∈ seen
  | [], seen, _, pre, i, post, e, _, _, _, _, _ => by cases pre <;> cases e
  | x :: l, seen, h, pre, i, post, e, o, ho, q, hq, hb => by
    unfold topOk at h
    rw [Bool.and_eq_true] at h
    cases pre with
    | nil =>
      simp at e
      obtain ⟨rfl, rfl⟩ := e
      have h1 := h.1
      simp only [ho] at h1
      have := (Array.all_eq_true_iff_forall_mem.1 h1) q hq
      rw [hb] at this
      exact .inr (List.contains_iff_mem.1 (by simpa using this))
    | cons y pre =>
      simp at e
      obtain ⟨rfl, rfl⟩ := e
      rcases topOk_spec _ (x :: seen) h.2 pre i post rfl o ho q hq hb with g | g
      · exact .inl (List.mem_cons_of_mem _ g)
      · rcases List.mem_cons.1 g with g | g
        · exact .inl (by rw [g]; exact List.mem_cons_self ..)
        · exact .inr g
theorem opOk_spec {i : Nat} {o : Oper} (h : opOk ops i = true) (ho : ops[i]? = some o) :
    (∀ cs b, o.op ≠ .select cs b) ∧ ∀ j d, dstAt ops j = some d → (d ∈ o.looksAt ops → ∃ e ∈ o.after, Region.binds .any e = true ∧ e.on = j) ∧ (j ≠ i → o.dst ≠ some d) := by
  unfold opOk at h
  simp only [ho, Bool.and_eq_true] at h
  obtain ⟨h2, h4⟩ := h
  refine ⟨fun cs b e => ?_, fun j d hj => ?_⟩
  · rw [e] at h2
    cases h2
  · have hjs : j < ops.size := by
      unfold dstAt at hj
      cases hoj : ops[j]? with
      | none => rw [hoj] at hj; cases hj
      | some x => exact (Array.getElem?_eq_some_iff.1 hoj).1
    have h5 := List.all_eq_true.1 h4 j (List.mem_range.2 hjs)
    simp only [hj, Bool.and_eq_true] at h5
    refine ⟨fun hd => ?_, fun hne => ?_⟩
    · have h6 := h5.1
      rw [List.contains_iff_mem.2 hd] at h6
      simp only [Bool.not_true, Bool.false_or] at h6
      obtain ⟨q, hq, h8⟩ := Array.any_eq_true.1 h6
      simp only [Bool.and_eq_true, beq_iff_eq] at h8
      exact ⟨_, Array.getElem_mem hq, h8.1, h8.2⟩
    · have h6 := h5.2
      simp only [Bool.or_eq_true, beq_iff_eq, bne_iff_ne] at h6
      exact h6.resolve_left hne

def remT (π : List Nat) (listed : Array Bool) : List Nat := π.filter fun j => listed.getD j true == false
theorem remT_set {π : List Nat} {listed : Array Bool} {i : Nat} (hi : i < listed.size) : remT π (listed.setIfInBounds i true) = (remT π listed).filter (fun j => decide (j ≠ i)) := by
  unfold remT
  rw [List.filter_filter]
  congr 1
  funext j
  by_cases e : j = i
  · subst e
    simp [hi]
  · rw [getD_set_ne true (fun h => e h.symm)]
    simp [e]
theorem listed_iff {listed : Array Bool} {j : Nat} (hj : j < listed.size) : listed.getD j true = listed.getD j false := by simp [hj]

theorem txt_any {π : List Nat} (hok : txtOk ops ef π = true) : ∀ (fuel : Nat) (listed : Array Bool) (a : Act) (w : World), listed.size = ops.size → (remT π listed).length ≤ fuel → Closed ops (fun j => listed.getD j false = true) → Txt P ops Q I ef (remT π listed) a w → I w → wpAny P .any ops Q fuel listed a w := by
  unfold txtOk at hok
  simp only [Bool.and_eq_true, decide_eq_true_eq] at hok
  obtain ⟨⟨⟨⟨⟨hlen, hnd⟩, hltb⟩, hall⟩, hseg⟩, htop⟩ := hok
  have hmem : ∀ i, i < ops.size → i ∈ π ∧ opOk ops i = true := fun i hi => by
    have := List.all_eq_true.1 hall i (List.mem_range.2 hi)
    rw [Bool.and_eq_true] at this
    exact ⟨List.contains_iff_mem.1 this.1, this.2⟩
  have hlt : ∀ i ∈ π, i < ops.size := fun i hi => by simpa using List.all_eq_true.1 hltb i hi
  have hrem : ∀ (listed : Array Bool) i, listed.size = ops.size → (i ∈ remT π listed ↔ i < ops.size ∧ listed.getD i true = false) := fun listed i hsz => by
    unfold remT
    rw [List.mem_filter]
    constructor
    · rintro ⟨h1, h2⟩
      exact ⟨hlt i h1, by simpa using h2⟩
    · rintro ⟨h1, h2⟩
      exact ⟨(hmem i h1).1, by simpa using h2⟩
  -- the first that is left is ready
  have hfirst : ∀ (listed : Array Bool), listed.size = ops.size → Region.ready .any ops listed = [] → remT π listed = [] := fun listed hsz hr => by
    cases hc : remT π listed with
    | nil => rfl
    | cons i rest =>
      exfalso
      have hi := (hrem listed i hsz).1 (by rw [hc]; exact List.mem_cons_self ..)
      obtain ⟨pre, post, hpp, hpre⟩ : ∃ pre post, π = pre ++ i :: post ∧ ∀ j ∈ pre, listed.getD j true = true := by
        have := List.filter_eq_cons_iff.1 hc
        obtain ⟨l1, l2, e, h1, h2, _⟩ := this
        exact ⟨l1, l2, e, fun j hj => by simpa using h1 j hj⟩
      have ho : ops[i]? = some ops[i] := Array.getElem?_eq_getElem hi.1
      have hready : i ∈ Region.ready .any ops listed := by
        refine mem_ready.2 ⟨hi.2, _, ho, fun e he hb => ?_⟩
        rcases topOk_spec π [] htop pre i post hpp _ ho e he hb with g | g
        · have h1 := hpre _ g
          have h2 : e.on < listed.size := by rw [hsz]; exact hlt _ (by rw [hpp]; exact List.mem_append_left _ g)
          rw [← listed_iff h2]
          exact h1
        · cases g
      rw [hr] at hready
      cases hready
  intro fuel
  induction fuel with
  | zero =>
    intro listed a w hsz hl hcl hT hI
    have hn : remT π listed = [] := List.eq_nil_of_length_eq_zero (Nat.le_zero.1 hl)
    have hr : Region.ready .any ops listed = [] := by
      cases hc : Region.ready .any ops listed with
      | nil => rfl
      | cons i rest =>
        exfalso
        have hi : i ∈ Region.ready .any ops listed := by rw [hc]; exact List.mem_cons_self ..
        obtain ⟨h0, o, ho, _⟩ := mem_ready.1 hi
        have := (hrem listed i hsz).2 ⟨(Array.getElem?_eq_some_iff.1 ho).1, h0⟩
        rw [hn] at this
        cases this
    rw [hn] at hT
    exact ⟨hr, hT⟩
  | succ fuel ih =>
    intro listed a w hsz hl hcl hT hI
    refine ⟨fun hr => by rw [hfirst listed hsz hr] at hT; exact hT, fun i hi => ?_⟩
    obtain ⟨h0, o, ho, hw⟩ := mem_ready.1 hi
    have hin : i < ops.size := (Array.getElem?_eq_some_iff.1 ho).1
    have hir := (hrem listed i hsz).2 ⟨hin, h0⟩
    obtain ⟨hs1, hs2⟩ := opOk_spec (hmem i hin).2 ho
    -- around i
    obtain ⟨p1, p2, hpp⟩ := List.append_of_mem (hmem i hin).1
    have hrs : remT π listed = remT p1 listed ++ i :: remT p2 listed := by
      unfold remT
      rw [hpp, List.filter_append, List.filter_cons_of_pos (by rw [h0]; rfl)]
    have hni : i ∉ p1 ∧ i ∉ p2 := by
      have := hnd
      rw [hpp] at this
      have h1 := List.nodup_append.1 this
      have h2 := List.nodup_cons.1 h1.2.1
      exact ⟨fun h => h1.2.2 i h i (List.mem_cons_self ..) rfl, h2.1⟩
    have hwait : Waits ops (fun j => listed.getD j false = true) i := fun o' ho' e he hb => by
      rw [ho] at ho'
      injection ho' with ho'
      subst ho'
      exact hw e he hb
    obtain ⟨_, hact⟩ := segOk_spec hcl π [] [] hseg (fun k hk => by cases hk) (fun e E' h => by cases h) p1 i p2 hpp hwait
    have hahead : ∀ j ∈ remT p1 listed, Ahead ops ef i o j := fun j hj => by
      have hj1 : j ∈ p1 := (List.mem_filter.1 hj).1
      have hj2 : listed.getD j true = false := by simpa using (List.mem_filter.1 hj).2
      have hjs : j < ops.size := hlt j (by rw [hpp]; exact List.mem_append_left _ hj1)
      have hjn : j ≠ i := fun e => hni.1 (e ▸ hj1)
      have hjl : ¬ listed.getD j false = true := by rw [← listed_iff (by omega), hj2]; simp
      refine ⟨?_, fun t ht => ⟨fun hl => ?_, (hs2 j t ht).2 hjn⟩, fun oj hoj => ?_⟩
      · cases hef : ef j with
        | false => rfl
        | true => exact absurd (hact j hj1 hef) hjl
      · obtain ⟨e, he, hb, hon⟩ := (hs2 j t ht).1 hl
        have := hw e he hb
        rw [hon] at this
        exact hjl this
      · obtain ⟨g1, g2⟩ := opOk_spec (hmem j hjs).2 hoj
        refine ⟨g1, fun t ht hl => ?_⟩
        obtain ⟨e, he, hb, hon⟩ := (g2 i t (by unfold dstAt; rw [ho]; exact ht)).1 hl
        obtain ⟨q1, q2, hq⟩ := List.append_of_mem hj1
        rcases topOk_spec π [] htop q1 j (q2 ++ i :: p2) (by rw [hpp, hq]; simp) oj hoj e he hb with g | g
        · rw [hon] at g
          exact hni.1 (by rw [hq]; exact List.mem_append_left _ g)
        · cases g
    rw [hrs] at hT
    obtain ⟨hR, hE⟩ := Txt.pull ho hs1 _ a hahead hT
    have hcl' : Closed ops (fun j => (listed.setIfInBounds i true).getD j false = true) := fun k ok hok hk e he hb => by
      have hup : ∀ j, listed.getD j false = true → (listed.setIfInBounds i true).getD j false = true := fun j hj => by
        by_cases ej : j = i
        · subst ej
          have : j < listed.size := by omega
          simp [this]
        · rw [getD_set_ne false (fun h => ej h.symm)]
          exact hj
      by_cases ek : k = i
      · subst ek
        exact hup _ (hwait ok hok e he hb)
      · have hk' : listed.getD k false = true := by
          have h5 : (listed.setIfInBounds i true).getD k false = true := hk
          rw [getD_set_ne false (fun h => ek h.symm)] at h5
          exact h5
        exact hup _ (hcl k ok hok hk' e he hb)
    have hnext : ∀ a' w', I w' → Txt P ops Q I ef (remT p1 listed ++ remT p2 listed) a' w' → wpAny P .any ops Q fuel (listed.setIfInBounds i true) a' w' := fun a' w' hI' hT' => by
      have e1 : remT π (listed.setIfInBounds i true) = remT p1 listed ++ remT p2 listed := by
        rw [remT_set (by omega), hrs, List.filter_append, List.filter_cons_of_neg (by simp)]
        congr 1
        · exact List.filter_eq_self.2 (fun j hj => by simp; exact fun e => hni.1 (e ▸ (List.mem_filter.1 hj).1))
        · exact List.filter_eq_self.2 (fun j hj => by simp; exact fun e => hni.2 (e ▸ (List.mem_filter.1 hj).1))
      refine ih _ a' w' (by simpa using hsz) ?_ hcl' (by rw [e1]; exact hT') hI'
      rw [e1]
      rw [hrs] at hl
      simp at hl ⊢
      omega
    unfold wpOp
    simp only [ho]
    cases hef : ef i with
    | false =>
      obtain ⟨v, hv, hT2⟩ := hR hef
      rcases hv with ⟨h1, h2⟩ | ⟨h1, rfl⟩
      · rw [if_pos h1]
        refine .inl ?_
        unfold Oper.wp
        rw [h2 w hI]
        exact hnext _ _ hI hT2
      · rw [if_neg (by rw [h1]; simp)]
        exact hnext _ _ hI hT2
    | true =>
      obtain ⟨g1, g2⟩ := hE hef
      cases hwt : Region.wanted o (yielded ops a.tmps) with
      | true =>
        rw [if_pos rfl]
        refine .inl ?_
        have h3 := g1 hwt
        unfold Oper.wp at h3 ⊢
        generalize (execOp a.eval o).run P w = r at *
        cases r with
        | ok n w' =>
          cases n <;> simp only [Oper.upon] at h3 ⊢
          case value x => exact hnext _ _ h3.1 h3.2
          case skip => exact hnext _ _ h3.1 h3.2
          case defer x => exact hnext _ _ h3.1 h3.2
          case enter f args =>
            refine Calls.mono h3 fun e w'' he => ?_
            cases e with
            | returned x => exact hnext _ _ he.1 he.2
            | panicked c => exact he.elim
            | outgrown =>
              obtain ⟨_, _, hf⟩ := he
              exact hf.elim
          case row row args => exact Rows.mono h3 fun x w'' he => hnext _ _ he.1 he.2
        | halt x w' => cases x <;> first | exact h3 | exact h3.elim
      | false =>
        rw [if_neg (by simp)]
        exact hnext _ _ hI (g2 hwt)

/-- The law. acts: the numbers of the operations that act; π: the order. -/
theorem wp_region_txt {id : Nat} {l : List Oper} {a : Act} {w : World} (I : World → Prop) (acts π : List Nat) (hm : P.follows .mixedOrders = true) (hok : txtOk l.toArray (fun i => acts.contains i) π = true) (hI : I w.drew)
    (h : Txt P l.toArray Q I (fun i => acts.contains i) π a w.drew) : (Code.region id l.toArray true).wp P Q a w := by
  refine wp_region_any hm ?_
  have hall : remT π (Array.replicate l.toArray.size false) = π := by
    have hok' := hok
    unfold txtOk at hok'
    simp only [Bool.and_eq_true, decide_eq_true_eq] at hok'
    obtain ⟨⟨⟨⟨_, hltb⟩, _⟩, _⟩, _⟩ := hok'
    refine List.filter_eq_self.2 (fun j hj => ?_)
    have : j < l.toArray.size := by simpa using List.all_eq_true.1 hltb j hj
    simp at this
    simp [this]
  refine txt_any hok _ _ a _ (by simp) ?_ (fun i o ho hi => ?_) (by rw [hall]; exact h) hI
  · rw [hall]
    unfold txtOk at hok
    simp only [Bool.and_eq_true, decide_eq_true_eq] at hok
    exact Nat.le_of_eq hok.1.1.1.1.1
  · exfalso
    have hlt := (Array.getElem?_eq_some_iff.1 ho).1
    simp at hlt
    simp [hlt] at hi

/-- One step: it only reads. -/
theorem Txt.reads {i : Nat} {o : Oper} {ol : List Oper} {l : List Nat} {a : Act} {w : World} {v : Value} (ho : ol[i]? = some o) (he : ef i = false) (hw : Region.wanted o (yielded ol.toArray a.tmps) = true)
    (hd : ∀ w, I w → (execOp a.eval o).run P w = .ok (.value v) w) (h : Txt P ol.toArray Q I ef l (a.put o.dst v) w) : Txt P ol.toArray Q I ef (i :: l) a w :=
  ⟨o, by simpa using ho, fun _ => ⟨v, .inl ⟨hw, hd⟩, h⟩, fun e => (by rw [he] at e; cases e)⟩
/-- .. its guard skips it. -/
theorem Txt.skips {i : Nat} {o : Oper} {ol : List Oper} {l : List Nat} {a : Act} {w : World} (ho : ol[i]? = some o) (hw : Region.wanted o (yielded ol.toArray a.tmps) = false) (h : Txt P ol.toArray Q I ef l (a.put o.dst undef) w) : Txt P ol.toArray Q I ef (i :: l) a w :=
  ⟨o, by simpa using ho, fun _ => ⟨undef, .inr ⟨hw, rfl⟩, h⟩, fun _ => ⟨fun e => (by rw [hw] at e; cases e), fun _ => h⟩⟩
/-- .. it acts. -/
theorem Txt.acts {i : Nat} {o : Oper} {ol : List Oper} {l : List Nat} {a : Act} {w : World} (ho : ol[i]? = some o) (he : ef i = true) (hw : Region.wanted o (yielded ol.toArray a.tmps) = true)
    (h : ∀ K : Act → World → Prop, Shut (∀ a' w', I w' → Txt P ol.toArray Q I ef l a' w' → K a' w') → Oper.wp P o a w K noPanic) : Txt P ol.toArray Q I ef (i :: l) a w :=
  ⟨o, by simpa using ho, fun e => (by rw [he] at e; cases e), fun _ => ⟨fun _ => h _ (fun a' w' h1 h2 => ⟨h1, h2⟩), fun e => (by rw [hw] at e; cases e)⟩⟩
theorem Txt.done {a : Act} {w : World} (h : Q .normal a w) : Txt P ops Q I ef [] a w := h

end
end Go.Proofs.Ytnnanlniffjnkaa

/- Five cells written; blocks that are new. -/
namespace Go.Proofs.Ytnnanlniffjnkaa
open Go.RowKit
set_option linter.unusedVariables false

theorem five_set {W : World} {A : Nat} {T : TypeId} {a0 a1 a2 a3 a4 : Value} (c0 c1 c2 c3 c4 : Value) (h : W.heap[A]? = some (.cells #[a0, a1, a2, a3, a4] T (0, 0))) :
    (((((W.setCell ⟨A, 0, none⟩ c0).setCell ⟨A, 1, none⟩ c1).setCell ⟨A, 2, none⟩ c2).setCell ⟨A, 3, none⟩ c3).setCell ⟨A, 4, none⟩ c4).heap[A]? = some (.cells #[c0, c1, c2, c3, c4] T (0, 0)) := by
  have h0 := heap_setCell_same W A 0 _ _ c0 h
  have h1 := heap_setCell_same _ A 1 _ _ c1 h0
  have h2 := heap_setCell_same _ A 2 _ _ c2 h1
  have h3 := heap_setCell_same _ A 3 _ _ c3 h2
  exact heap_setCell_same _ A 4 _ _ c4 h3
theorem five_bel {B A : Nat} {w W : World} (c0 c1 c2 c3 c4 : Value) (h : Below B w W) (hA : B ≤ A) : Below B w (((((W.setCell ⟨A, 0, none⟩ c0).setCell ⟨A, 1, none⟩ c1).setCell ⟨A, 2, none⟩ c2).setCell ⟨A, 3, none⟩ c3).setCell ⟨A, 4, none⟩ c4) :=
  ((((h.setCell (p := ⟨A, 0, none⟩) hA _).setCell (p := ⟨A, 1, none⟩) hA _).setCell (p := ⟨A, 2, none⟩) hA _).setCell (p := ⟨A, 3, none⟩) hA _).setCell (p := ⟨A, 4, none⟩) hA _
theorem five_far {W : World} {A : Nat} {p : Addr} (c0 c1 c2 c3 c4 : Value) (h : ¬ p.block = A) : (((((W.setCell ⟨A, 0, none⟩ c0).setCell ⟨A, 1, none⟩ c1).setCell ⟨A, 2, none⟩ c2).setCell ⟨A, 3, none⟩ c3).setCell ⟨A, 4, none⟩ c4).cell? p = W.cell? p :=
  World.cell?_of_block (by rw [Below.heap_setCell _ _ _ _ h, Below.heap_setCell _ _ _ _ h, Below.heap_setCell _ _ _ _ h, Below.heap_setCell _ _ _ _ h, Below.heap_setCell _ _ _ _ h])
theorem drew_cell (X : World) (p : Addr) : X.drew.cell? p = X.cell? p := rfl
theorem five_farD {W : World} {A : Nat} {p : Addr} (c0 c1 c2 c3 c4 : Value) (h : ¬ p.block = A) : (((((W.setCell ⟨A, 0, none⟩ c0).setCell ⟨A, 1, none⟩ c1).setCell ⟨A, 2, none⟩ c2).setCell ⟨A, 3, none⟩ c3).setCell ⟨A, 4, none⟩ c4).drew.cell? p = W.cell? p := (drew_cell _ _).trans (five_far c0 c1 c2 c3 c4 h)
theorem two_heap (w : World) (X Y : Obj) : ((w.alloc X).alloc Y).heap[w.heap.size]? = some X := (heap_alloc_old _ _ (by simp)).trans (heap_alloc_last w X)
theorem two_bel (w : World) (X Y : Obj) : Below w.heap.size w ((w.alloc X).alloc Y) := ((Below.refl _ _).alloc (Nat.le_refl _) _).alloc (by simp) _

end Go.Proofs.Ytnnanlniffjnkaa
