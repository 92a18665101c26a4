/- Joined: BsB PlM PlZ0 PlN PlO PlP SqA PlR0. -/
import Derived.Test.YthenefjoidckkaaGreatDoorJA
import Derived.Laws.BitsAllLaws
import Derived.Deep.RegionHeld

/- Slices of bytes that came in, or are one's own: read, copied, cut. -/
namespace Go.Proofs.YthenefjoidckkaaGreatDoor
open Go.RowKit
set_option linter.unusedVariables false

theorem bA {a w : World} (h : Below a.heap.size a w) (o : Obj) : Below a.heap.size a (w.alloc o) := h.alloc h.size o
/-- A slice of the bytes l. -/
def Bs (w : World) (a : Option Addr) (n : Nat) (l : List UInt8) : Prop := l.length = n ∧ (n = 0 ∨ ∃ b o, a = some ⟨b, o, none⟩ ∧ BytesAt w (some ⟨b, o, none⟩) l)

theorem Bs.below {w w' : World} {a : Option Addr} {n : Nat} {l : List UInt8} (h : Bs w a n l) (f : Below w.heap.size w w') : Bs w' a n l := by
  rcases h with ⟨h1, h2 | ⟨b, o, e, h2⟩⟩
  · exact ⟨h1, .inl h2⟩
  · exact ⟨h1, .inr ⟨b, o, e, h2.below f⟩⟩

theorem Bs.at {w : World} {a : Option Addr} {n : Nat} {l : List UInt8} (h : Bs w a n l) : BytesAt w a l := by
  rcases h with ⟨h1, h2 | ⟨b, o, e, h2⟩⟩
  · have : l = [] := List.eq_nil_of_length_eq_zero (by omega)
    subst this
    exact ⟨fun _ => rfl, fun ad e j u hu => by simp [bv] at hu⟩
  · rw [e]; exact h2

/-- A slice of bytes that came in. -/
structure Arg (w : World) (a : Option Addr) (n cap : Nat) (l : List UInt8) : Prop where
  bs : Bs w a n l
  room : n ≤ cap
  most : cap ≤ 9223372036854775807
  nil : a = none → n = 0 ∧ cap = 0

theorem Arg.below {w w' : World} {a : Option Addr} {n cap : Nat} {l : List UInt8} (h : Arg w a n cap l) (f : Below w.heap.size w w') : Arg w' a n cap l := ⟨h.bs.below f, h.room, h.most, h.nil⟩

theorem own_base {w : World} {base base' n : Nat} {v : Value} {xs : List Value} (h : w.ownsRow base 5 1 v n xs) (hb : base' ≤ base) : w.ownsRow base' 5 1 v n xs :=
  ⟨h.1, h.2.elim .inl (fun ⟨g, cap, cur, hv, hg, r⟩ => .inr ⟨g, cap, cur, hv, Nat.le_trans hb hg, r⟩)⟩

end Go.Proofs.YthenefjoidckkaaGreatDoor

/- Entries in memory. -/
namespace Go.Proofs.YthenefjoidckkaaGreatDoor
open Go.RowKit
set_option linter.unusedVariables false

/-- An entry's five cells. -/
def ec (x : Ent) : List Value := [.int .i64 x.tag, .string ⟨x.text.toArray⟩, .int .i64 x.n, .int .i64 x.a, .int .i64 x.b]
def ev (l : List Ent) : List Value := l.flatMap ec
theorem ec_len (x : Ent) : (ec x).length = 5 := rfl
theorem ev_len (l : List Ent) : (ev l).length = l.length * 5 := by
  induction l with
  | nil => rfl
  | cons x l ih =>
    have : ev (x :: l) = ec x ++ ev l := rfl
    rw [this, List.length_append, ih, ec_len, List.length_cons]
    omega
theorem ev_get {l : List Ent} {k : Nat} {x : Ent} (h : l[k]? = some x) (q : Nat) (hq : q < 5) : (ev l)[5 * k + q]? = (ec x)[q]? := by
  induction l generalizing k with
  | nil => simp at h
  | cons y l ih =>
    have e : ev (y :: l) = ec y ++ ev l := rfl
    rw [e]
    cases k with
    | zero =>
      simp at h
      subst h
      rw [Nat.mul_zero, Nat.zero_add, List.getElem?_append_left (by rw [ec_len]; exact hq)]
    | succ k =>
      rw [List.getElem?_append_right (by rw [ec_len]; omega), ec_len, show 5 * (k + 1) + q - 5 = 5 * k + q by omega]
      exact ih (by simpa using h)
/-- Entries that lie in memory. -/
def EntsAt (w : World) (a : Option Addr) (l : List Ent) : Prop := ∀ ad, a = some ad → ∀ j u, (ev l)[j]? = some u → w.cell? (ad.add j) = some u
def Es (w : World) (a : Option Addr) (n : Nat) (l : List Ent) : Prop := l.length = n ∧ (n = 0 ∨ ∃ b o, a = some ⟨b, o, none⟩ ∧ EntsAt w (some ⟨b, o, none⟩) l)
theorem EntsAt.below {w w' : World} {a : Option Addr} {l : List Ent} (h : EntsAt w a l) (f : Below w.heap.size w w') : EntsAt w' a l := fun ad e j u hu => by
  have h1 := h ad e j u hu
  exact (f.cell (World.block_lt_of_cell? w _ h1)).trans h1
theorem Es.below {w w' : World} {a : Option Addr} {n : Nat} {l : List Ent} (h : Es w a n l) (f : Below w.heap.size w w') : Es w' a n l := by
  rcases h with ⟨h1, h2 | ⟨b, o, e, h2⟩⟩
  · exact ⟨h1, .inl h2⟩
  · exact ⟨h1, .inr ⟨b, o, e, h2.below f⟩⟩
theorem ents_get {w : World} {b o : Nat} {l : List Ent} (h : EntsAt w (some ⟨b, o, none⟩) l) {k : Nat} {x : Ent} (hk : l[k]? = some x) :
    w.cell? ⟨b, o + k * 5, none⟩ = some (.int .i64 x.tag) ∧ w.cell? ⟨b, o + k * 5 + 1, none⟩ = some (.string ⟨x.text.toArray⟩) ∧ w.cell? ⟨b, o + k * 5 + 2, none⟩ = some (.int .i64 x.n) ∧ w.cell? ⟨b, o + k * 5 + 3, none⟩ = some (.int .i64 x.a) ∧ w.cell? ⟨b, o + k * 5 + 4, none⟩ = some (.int .i64 x.b) := by
  have key : ∀ q u, q < 5 → (ec x)[q]? = some u → w.cell? ⟨b, o + k * 5 + q, none⟩ = some u := fun q u hq hu => by
    have h1 := h _ rfl (5 * k + q) u (by rw [ev_get hk q hq]; exact hu)
    rw [Addr.add_mid, show o + (5 * k + q) = o + k * 5 + q by omega] at h1
    exact h1
  exact ⟨key 0 _ (by omega) rfl, key 1 _ (by omega) rfl, key 2 _ (by omega) rfl, key 3 _ (by omega) rfl, key 4 _ (by omega) rfl⟩
theorem es_of_own {w : World} {base n : Nat} {a : Option Addr} {c : Nat} {l : List Ent} (h : w.ownsRow base 136 5 (.slice a n c) n (ev l)) : Es w a n l := by
  have hl := h.1
  rw [ev_len] at hl
  have hl' : l.length = n := by omega
  rcases h.2 with ⟨e, h0⟩ | ⟨q, cap, cur, e, _⟩
  · exact ⟨hl', .inl h0⟩
  · injection e with e
    subst e
    exact ⟨hl', .inr ⟨q, 0, rfl, fun ad e => by injection e with e; subst e; exact h.cells (g := q) rfl⟩⟩
/-- A slice of entries that came in. -/
structure EArg (w : World) (a : Option Addr) (n cap : Nat) (l : List Ent) : Prop where
  es : Es w a n l
  room : n ≤ cap
  most : cap ≤ 9223372036854775807
  nil : a = none → n = 0 ∧ cap = 0
theorem EArg.below {w w' : World} {a : Option Addr} {n cap : Nat} {l : List Ent} (h : EArg w a n cap l) (f : Below w.heap.size w w') : EArg w' a n cap l := ⟨h.es.below f, h.room, h.most, h.nil⟩
theorem own_capE {w : World} {base n c : Nat} {a : Option Addr} {xs : List Value} {e : TypeId} (h : w.ownsRow base e 5 (.slice a n c) n xs) : n ≤ c ∧ c ≤ 9223372036854775807 := by
  rcases h.2 with ⟨e, h0⟩ | ⟨q, cap, cur, e, _, _, h1, h2, _⟩
  · injection e with _ _ e
    omega
  · injection e with _ _ e
    subst e
    unfold maxLen at h2
    exact ⟨h1, h2⟩
theorem earg_of_own {w : World} {base n c : Nat} {a : Option Addr} {l : List Ent} (h : w.ownsRow base 136 5 (.slice a n c) n (ev l)) : EArg w a n c l := by
  refine ⟨es_of_own h, (own_capE h).1, (own_capE h).2, fun e => ?_⟩
  rcases h.2 with ⟨e1, h0⟩ | ⟨q, cap, cur, e1, _⟩
  · injection e1 with _ e2 e3
    exact ⟨h0, e3⟩
  · injection e1 with e1
    rw [e] at e1
    cases e1

end Go.Proofs.YthenefjoidckkaaGreatDoor

/- What Put answers. -/
namespace Go.Proofs.YthenefjoidckkaaGreatDoor
open Go.RowKit
set_option linter.unusedVariables false

/-- What Put answers. -/
structure PutE (w : World) (R : List Ent × Int × Int) (e : Ending) (W : World) : Prop where
  ex : ∃ a c, e = .returned (.tuple #[.slice a R.1.length c, .int .i64 R.2.1, .int .i64 R.2.2]) ∧ EArg W a R.1.length c R.1
  bel : Below w.heap.size w W
end Go.Proofs.YthenefjoidckkaaGreatDoor

/- Entries held against one another; the document's find. -/
namespace Go.Proofs.YthenefjoidckkaaGreatDoor
open Go.RowKit
set_option linter.unusedVariables false

theorem str_eq (s t : List UInt8) : ((⟨s.toArray⟩ : ByteArray).toList = (⟨t.toArray⟩ : ByteArray).toList) ↔ s = t := by
  rw [ByteArray.toList_eq, ByteArray.toList_eq]
theorem ent_cmp (w : World) (x y : Ent) :
    (binOp .eql 136 (.agg #[.int .i64 x.tag, .string ⟨x.text.toArray⟩, .int .i64 x.n, .int .i64 x.a, .int .i64 x.b]) (.agg #[.int .i64 y.tag, .string ⟨y.text.toArray⟩, .int .i64 y.n, .int .i64 y.a, .int .i64 y.b])).run Tryz.prog w = .ok (.bool (decide (x = y))) w := by
  rw [run_eql_struct]
  go_simp
  have e := Ent.eq_iff x y
  have es := str_eq x.text y.text
  repeat' split
  all_goals
    congr 2
    simp only [Bool.true_eq, Bool.false_eq, decide_eq_true_eq, decide_eq_false_iff_not, ← e, ← es]
    simp_all
def entV (x : Ent) : Value := .agg #[.int .i64 x.tag, .string ⟨x.text.toArray⟩, .int .i64 x.n, .int .i64 x.a, .int .i64 x.b]
end Go.Proofs.YthenefjoidckkaaGreatDoor

/- The document's own pool: text, utf, add. -/
namespace Go.Proofs.YthenefjoidckkaaGreatDoor
open Go.RowKit
set_option linter.unusedVariables false

theorem strI (l : List UInt8) (i : Nat) (b : UInt8) (h : l[i]? = some b) : ∀ w, (Instr.index 9 (.string ⟨l.toArray⟩) (.int .i64 (i : Int))).run Tryz.prog w = .ok (.int .u8 (b.toNat : Int)) w := fun w => by
  have hl : i < l.length := (List.getElem?_eq_some_iff.1 h).1
  have hb := (List.getElem?_eq_some_iff.1 h).2
  have hs : (⟨l.toArray⟩ : ByteArray).size = l.length := by simp [ByteArray.size]
  have := run_index_string (P := Tryz.prog) (w := w) 9 ⟨l.toArray⟩ .i64 (i : Int) (by kernel_rfl)
  rw [dif_pos ⟨by omega, by rw [hs]; omega⟩] at this
  rw [this]
  have e : (⟨l.toArray⟩ : ByteArray)[(i : Int).toNat]'(by rw [hs]; omega) = b := by
    rw [← hb]
    rfl
  rw [e]
def okB (x : UInt8) : Bool := decide (33 ≤ x.toNat) && decide (x.toNat ≤ 126)
theorem textB_eq (s : List UInt8) : textB s = (s.all okB && decide (s.length ≤ 255)) := rfl

end Go.Proofs.YthenefjoidckkaaGreatDoor

/- The document's own pool: utf, right. -/
namespace Go.Proofs.YthenefjoidckkaaGreatDoor
open Go.RowKit
set_option linter.unusedVariables false

def cstV (c : Cst) : Value := .agg #[.int .i64 c.tag, .int .i64 c.n, .string ⟨c.cls.toArray⟩, .string ⟨c.name.toArray⟩, .string ⟨c.type.toArray⟩]
theorem cstC {w : World} {q : Nat} {x : Cst} {T : TypeId} {f : Nat × Nat} (h : w.heap[q]? = some (.cells #[.int .i64 x.tag, .int .i64 x.n, .string ⟨x.cls.toArray⟩, .string ⟨x.name.toArray⟩, .string ⟨x.type.toArray⟩] T f)) :
    w.cell? ⟨q, 0, none⟩ = some (.int .i64 x.tag) ∧ w.cell? ⟨q, 1, none⟩ = some (.int .i64 x.n) ∧ w.cell? ⟨q, 2, none⟩ = some (.string ⟨x.cls.toArray⟩) ∧ w.cell? ⟨q, 3, none⟩ = some (.string ⟨x.name.toArray⟩) ∧ w.cell? ⟨q, 4, none⟩ = some (.string ⟨x.type.toArray⟩) :=
  ⟨by rw [cell_of_row _ _ _ _ _ _ h]; rfl, by rw [cell_of_row _ _ _ _ _ _ h]; rfl, by rw [cell_of_row _ _ _ _ _ _ h]; rfl, by rw [cell_of_row _ _ _ _ _ _ h]; rfl, by rw [cell_of_row _ _ _ _ _ _ h]; rfl⟩
end Go.Proofs.YthenefjoidckkaaGreatDoor

/- Regions that draw their order, walked once, in the text's order: each operation yields one value in every world that meets S, and keeps S; it may call, store, or be skipped by its guard. -/
namespace Go.Proofs.YthenefjoidckkaaGreatDoor
open Go.RowKit
set_option linter.unusedVariables false

section
variable {P : Program} {ops : Array Oper} {Q : Exit → Act → World → Prop} {S : World → Prop}

/-- In state a, in every world that meets S, o leaves v in its temporary, and S holds behind it. -/
def DoesIf (P : Program) (ops : Array Oper) (S : World → Prop) (o : Oper) (v : Value) (a : Act) : Prop :=
  (Region.wanted o (yielded ops a.tmps) = true ∧ ∀ w, S w → ∀ K : Act → World → Prop, Shut (∀ w', S w' → K (a.put o.dst v) w') → Oper.wp P o a w K (fun _ _ _ => False)) ∨
  (Region.wanted o (yielded ops a.tmps) = false ∧ v = undef)
def SeqDo (P : Program) (ops : Array Oper) (Q : Exit → Act → World → Prop) (S : World → Prop) : List Oper → Act → Prop
  | [], a => ∀ w, S w → Q .normal a w
  | o :: rest, a => ∃ v, DoesIf P ops S o v a ∧ SeqDo P ops Q S rest (a.put o.dst v)

theorem put_size (a : Act) (d : Option Tmp) (v : Value) : (a.put d v).tmps.size = a.tmps.size := by cases d <;> simp [Act.put]
theorem put_same {a a' : Act} {d : Option Tmp} {u v : Value} (hs : a'.tmps.size = a.tmps.size) (h : a.put d u = a.put d v) : a'.put d u = a'.put d v := by
  cases d with
  | none => rfl
  | some d =>
    by_cases hd : d < a.tmps.size
    · have e : (a.put (some d) u).tmps[d]? = (a.put (some d) v).tmps[d]? := by rw [h]
      simp [Act.put, hd] at e
      rw [e]
    · have hd' : ¬ d < a'.tmps.size := fun h => hd (hs ▸ h)
      simp [Act.put, Array.setIfInBounds, hd']
theorem DoesIf.op {i : Nat} {o : Oper} {v : Value} {a a' : Act} (hi : ops[i]? = some o) (hd : DoesIf P ops S o v a) (he : execOp a'.eval o = execOp a.eval o)
    (hw : Region.wanted o (yielded ops a'.tmps) = Region.wanted o (yielded ops a.tmps)) (hsz : a'.tmps.size = a.tmps.size) {K : Act → World → Prop} {w : World} (hS : S w)
    (h : ∀ w', S w' → K (a'.put o.dst v) w') : wpOp P ops Q i K a' w := by
  unfold wpOp
  simp only [hi]
  rw [hw]
  rcases hd with ⟨h1, h2⟩ | ⟨h1, rfl⟩
  · rw [if_pos h1]
    refine .inl ?_
    have h3 := h2 w hS (fun a2 w2 => a2 = a.put o.dst v ∧ S w2) (fun w' hw' => ⟨rfl, hw'⟩)
    clear h2
    unfold Oper.wp at h3 ⊢
    rw [he]
    generalize (execOp a.eval o).run P w = r at *
    cases r with
    | ok n w' =>
      cases n <;> simp only [Oper.upon] at h3 ⊢
      case value u => rw [put_same hsz h3.1]; exact h _ h3.2
      case skip => rw [put_same hsz h3.1]; exact h _ h3.2
      case defer d =>
        exfalso
        have e := congrArg Act.defers h3.1
        have e1 : ∀ (b : Act) (x : Option Tmp) (u : Value), (b.put x u).defers = b.defers := fun b x u => by cases x <;> rfl
        rw [e1, e1] at e
        have := congrArg List.length e
        simp at this
      case enter f args =>
        refine Calls.mono h3 fun e w'' he => ?_
        cases e with
        | returned u =>
          have h5 : K (a'.put o.dst u) w'' := by rw [put_same hsz he.1]; exact h _ he.2
          exact h5
        | panicked c => exact he.elim
        | outgrown =>
          obtain ⟨_, _, hf⟩ := he
          exact hf.elim
      case row row args => exact Rows.mono h3 fun u w'' he => by rw [put_same hsz he.1]; exact h _ he.2
    | halt x w' => cases x <;> simp only [Oper.upon] at h3
  · rw [if_neg (by rw [h1]; simp)]
    exact h _ hS

theorem same_looks {o : Oper} {a a' : Act} (hs : ∀ cs b, o.op ≠ .select cs b) (h : ∀ t, t ∈ o.looksAt ops → a'.tmps[t]? = a.tmps[t]?) :
    execOp a'.eval o = execOp a.eval o ∧ Region.wanted o (yielded ops a'.tmps) = Region.wanted o (yielded ops a.tmps) := by
  constructor
  · refine execOp_congr o hs fun x hx => ?_
    cases x with
    | tmp t =>
      have := h t (List.mem_append_left _ (List.mem_filterMap.2 ⟨.tmp t, by simpa using hx, rfl⟩))
      simp [Act.eval, this]
    | _ => rfl
  · unfold Region.wanted
    cases hg : o.guard with
    | none => rfl
    | some gw =>
      obtain ⟨g, want⟩ := gw
      have hy : yielded ops a'.tmps g = yielded ops a.tmps g := by
        unfold yielded
        cases ht : (ops[g]?).bind (·.dst) with
        | none => rfl
        | some t =>
          have := h t (by simp [Oper.looksAt, hg, ht])
          simp [this]
      simp only [hy]

def dstAt (ops : Array Oper) (j : Nat) : Option Tmp := (ops[j]?).bind (·.dst)
def putI (ops : Array Oper) (vs : List Value) (js : List Nat) (a : Act) : Act := js.foldl (fun a j => a.put (dstAt ops j) (vs.getD j undef)) a
theorem putI_size (vs : List Value) : ∀ (js : List Nat) (a : Act), (putI ops vs js a).tmps.size = a.tmps.size
  | [], a => rfl
  | j :: js, a => by
    show (putI ops vs js _).tmps.size = _
    rw [putI_size vs js, put_size]
theorem putI_at (vs : List Value) (t : Nat) : ∀ (js : List Nat) (a : Act), (∀ j ∈ js, dstAt ops j ≠ some t) → (putI ops vs js a).tmps[t]? = a.tmps[t]?
  | [], a, _ => rfl
  | j :: js, a, h => by
    show (putI ops vs js (a.put (dstAt ops j) (vs.getD j undef))).tmps[t]? = _
    rw [putI_at vs t js _ (fun k hk => h k (List.mem_cons_of_mem _ hk))]
    have hj := h j (List.mem_cons_self ..)
    revert hj
    generalize dstAt ops j = d
    intro hj
    cases d with
    | none => rfl
    | some d =>
      show (a.tmps.setIfInBounds d _)[t]? = _
      rw [Array.getElem?_setIfInBounds_ne (fun e => hj (by rw [e]))]
theorem putI_pull (vs : List Value) (i : Nat) : ∀ (js : List Nat) (a : Act), js.Nodup → i ∈ js → (∀ j ∈ js, j ≠ i → ∀ d, dstAt ops i = some d → dstAt ops j ≠ some d) →
    putI ops vs js a = putI ops vs (js.filter (fun j => decide (j ≠ i))) (a.put (dstAt ops i) (vs.getD i undef))
  | [], a, _, h, _ => by simp at h
  | j :: js, a, hn, hm, hd => by
    obtain ⟨hn1, hn2⟩ := List.nodup_cons.1 hn
    show putI ops vs js (a.put (dstAt ops j) (vs.getD j undef)) = _
    by_cases e : j = i
    · subst e
      have hf : (j :: js).filter (fun k => decide (k ≠ j)) = js := by
        rw [List.filter_cons_of_neg (by simp)]
        exact List.filter_eq_self.2 (fun k hk => by simp; intro e; subst e; exact hn1 hk)
      rw [hf]
    · have hm' : i ∈ js := (List.mem_cons.1 hm).resolve_left (fun e' => e e'.symm)
      rw [List.filter_cons_of_pos (by simpa using e), putI_pull vs i js _ hn2 hm' (fun k hk => hd k (List.mem_cons_of_mem _ hk))]
      show _ = putI ops vs (js.filter _) ((a.put (dstAt ops i) _).put (dstAt ops j) _)
      rw [Act.put_comm a _ _ (fun d hd' e' => hd j (List.mem_cons_self ..) e d e' hd')]

/-- What the law asks of a region's text. -/
def seqOk (ops : Array Oper) : Bool := (List.range ops.size).all fun i => match ops[i]? with
  | none => true
  | some o => (match o.op with | .select .. => false | _ => true) && o.after.all (fun e => !Region.binds .any e || decide (e.on < i)) &&
    (List.range ops.size).all fun j => match dstAt ops j with
      | none => true
      | some d => (!(o.looksAt ops).contains d || (decide (j < i) && o.after.any (fun e => Region.binds .any e && e.on == j))) && (j == i || o.dst != some d)
theorem seqOk_spec (h : seqOk ops = true) {i : Nat} {o : Oper} (ho : ops[i]? = some o) :
    (∀ cs b, o.op ≠ .select cs b) ∧ (∀ e ∈ o.after, Region.binds .any e = true → e.on < i) ∧
    ∀ j d, dstAt ops j = some d → (d ∈ o.looksAt ops → j < i ∧ ∃ e ∈ o.after, Region.binds .any e = true ∧ e.on = j) ∧ (j ≠ i → o.dst ≠ some d) := by
  have hi : i < ops.size := (Array.getElem?_eq_some_iff.1 ho).1
  have h1 := List.all_eq_true.1 h i (List.mem_range.2 hi)
  simp only [ho, Bool.and_eq_true] at h1
  obtain ⟨⟨h2, h3⟩, h4⟩ := h1
  refine ⟨fun cs b e => ?_, fun e he hb => ?_, fun j d hj => ?_⟩
  · rw [e] at h2
    cases h2
  · have := (Array.all_eq_true_iff_forall_mem.1 h3) e he
    simpa [hb] using this
  · have hjs : j < ops.size := by
      unfold dstAt at hj
      cases hoj : ops[j]? with
      | none => rw [hoj] at hj; cases hj
      | some x => exact (Array.getElem?_eq_some_iff.1 hoj).1
    have h5 := List.all_eq_true.1 h4 j (List.mem_range.2 hjs)
    simp only [hj, Bool.and_eq_true] at h5
    refine ⟨fun hd => ?_, fun hne => ?_⟩
    · have h6 := h5.1
      rw [List.contains_iff_mem.2 hd] at h6
      simp only [Bool.not_true, Bool.false_or, Bool.and_eq_true, decide_eq_true_eq] at h6
      refine ⟨h6.1, ?_⟩
      obtain ⟨e, he, h7⟩ : ∃ e ∈ o.after, (Region.binds .any e && e.on == j) = true := by
        obtain ⟨q, hq, h8⟩ := Array.any_eq_true.1 h6.2
        exact ⟨_, Array.getElem_mem hq, h8⟩
      simp only [Bool.and_eq_true, beq_iff_eq] at h7
      exact ⟨e, he, h7.1, h7.2⟩
    · have h6 := h5.2
      simp only [Bool.or_eq_true, beq_iff_eq, bne_iff_ne] at h6
      exact h6.resolve_left hne

theorem seq_vals : ∀ (l : List Oper) (k : Nat) (a : Act), (∀ i o, l[i]? = some o → ops[k + i]? = some o) → SeqDo P ops Q S l a →
    ∃ vs : List Value, (∀ i o, l[i]? = some o → DoesIf P ops S o (vs.getD (k + i) undef) (putI ops vs (List.range' k i) a)) ∧ ∀ w, S w → Q .normal (putI ops vs (List.range' k l.length) a) w
  | [], k, a, _, h => ⟨[], fun i o ho => by simp at ho, h⟩
  | o :: l, k, a, hl, ⟨v, h1, h2⟩ => by
    have hk : ops[k]? = some o := hl 0 o rfl
    obtain ⟨vs, h3, h4⟩ := seq_vals l (k + 1) _ (fun i x hx => by rw [show k + 1 + i = k + (i + 1) by omega]; exact hl (i + 1) x (by simpa using hx)) h2
    let us := (List.range k).map (fun _ => undef) ++ v :: vs.drop (k + 1)
    have hu : us.getD k undef = v := by simp [us, List.getD_eq_getElem?_getD]
    have hus : ∀ j, k < j → us.getD j undef = vs.getD j undef := fun j hj => by
      simp only [us, List.getD_eq_getElem?_getD]
      rw [List.getElem?_append_right (by simp; omega)]
      simp only [List.length_map, List.length_range]
      obtain ⟨m, rfl⟩ : ∃ m, j = k + 1 + m := ⟨j - (k + 1), by omega⟩
      rw [show k + 1 + m - k = m + 1 by omega, List.getElem?_cons_succ, List.getElem?_drop]
    have hput : ∀ js a, (∀ j ∈ js, k < j) → putI ops us js a = putI ops vs js a := by
      intro js
      induction js with
      | nil => intro a _; rfl
      | cons j js ih =>
        intro a hj
        show putI ops us js (a.put _ (us.getD j undef)) = putI ops vs js (a.put _ (vs.getD j undef))
        rw [hus j (hj j (List.mem_cons_self ..)), ih _ (fun q hq => hj q (List.mem_cons_of_mem _ hq))]
    have hfirst : ∀ m a, putI ops us (List.range' k (m + 1)) a = putI ops vs (List.range' (k + 1) m) (a.put o.dst v) := fun m a => by
      rw [List.range'_succ]
      show putI ops us _ (a.put (dstAt ops k) (us.getD k undef)) = _
      rw [hu, hput _ _ (fun j hj => by have := List.mem_range'_1.1 hj; omega)]
      unfold dstAt
      rw [hk]
      rfl
    refine ⟨us, fun i x hx => ?_, fun w hw => ?_⟩
    · cases i with
      | zero =>
        simp at hx
        subst hx
        show DoesIf P ops S o (us.getD k undef) a
        rw [hu]
        exact h1
      | succ i =>
        rw [hfirst, show k + (i + 1) = k + 1 + i by omega, hus _ (by omega)]
        exact h3 i x (by simpa using hx)
    · rw [List.length_cons, hfirst]
      exact h4 w hw

theorem un_set {listed : Array Bool} {i n : Nat} (hi : i < listed.size) :
    ((List.range n).filter fun j => (listed.setIfInBounds i true).getD j true == false) = ((List.range n).filter fun j => listed.getD j true == false).filter (fun j => decide (j ≠ i)) := by
  rw [List.filter_filter]
  congr 1
  funext j
  by_cases e : j = i
  · subst e
    simp [hi]
  · rw [getD_set_ne true (fun h => e h.symm)]
    simp [e]

theorem seq_any (hok : seqOk ops = true) (vs : List Value) (a0 : Act) (hdo : ∀ i o, ops[i]? = some o → DoesIf P ops S o (vs.getD i undef) (putI ops vs (List.range i) a0))
    (hfin : ∀ w, S w → Q .normal (putI ops vs (List.range ops.size) a0) w) :
    ∀ (fuel : Nat) (listed : Array Bool) (a : Act) (w : World), listed.size = ops.size → ((List.range ops.size).filter fun j => listed.getD j true == false).length ≤ fuel →
      putI ops vs ((List.range ops.size).filter fun j => listed.getD j true == false) a = putI ops vs (List.range ops.size) a0 → S w → wpAny P .any ops Q fuel listed a w := by
  have key : ∀ (listed : Array Bool) (a : Act) (w : World), listed.size = ops.size → putI ops vs ((List.range ops.size).filter fun j => listed.getD j true == false) a = putI ops vs (List.range ops.size) a0 → S w →
      Region.ready .any ops listed = [] → Q .normal a w := fun listed a w hsz hp hS hr => by
    have hnil : ((List.range ops.size).filter fun j => listed.getD j true == false) = [] := by
      cases hc : ((List.range ops.size).filter fun j => listed.getD j true == false) with
      | nil => rfl
      | cons i rest =>
        exfalso
        have hmem : i ∈ ((List.range ops.size).filter fun j => listed.getD j true == false) := by rw [hc]; exact List.mem_cons_self ..
        have hmin : ∀ j ∈ ((List.range ops.size).filter fun j => listed.getD j true == false), i ≤ j := by
          have hsorted : ((List.range ops.size).filter fun j => listed.getD j true == false).Pairwise (· < ·) := List.Pairwise.filter _ List.pairwise_lt_range
          rw [hc] at hsorted ⊢
          intro j hj
          rcases List.mem_cons.1 hj with rfl | hj
          · exact Nat.le_refl _
          · exact Nat.le_of_lt ((List.pairwise_cons.1 hsorted).1 j hj)
        rw [List.mem_filter, List.mem_range] at hmem
        have ho : ops[i]? = some ops[i] := Array.getElem?_eq_getElem hmem.1
        have hready : i ∈ Region.ready .any ops listed := by
          refine mem_ready.2 ⟨by simpa using hmem.2, _, ho, fun e he hb => ?_⟩
          have hlt := (seqOk_spec hok ho).2.1 e he hb
          have hes : e.on < listed.size := by omega
          cases hl : listed.getD e.on false with
          | true => rfl
          | false =>
            exfalso
            have : e.on ∈ ((List.range ops.size).filter fun j => listed.getD j true == false) := by
              rw [List.mem_filter, List.mem_range]
              refine ⟨by omega, ?_⟩
              simp [hes] at hl ⊢
              exact hl
            have := hmin _ this
            omega
        rw [hr] at hready
        cases hready
    rw [hnil] at hp
    have hp' : a = putI ops vs (List.range ops.size) a0 := hp
    rw [hp']
    exact hfin w hS
  intro fuel
  induction fuel with
  | zero =>
    intro listed a w hsz hlen hp hS
    have hr : Region.ready .any ops listed = [] := by
      cases hc : Region.ready .any ops listed with
      | nil => rfl
      | cons i rest =>
        exfalso
        have hi : i ∈ Region.ready .any ops listed := by rw [hc]; exact List.mem_cons_self ..
        obtain ⟨h0, o, ho, _⟩ := mem_ready.1 hi
        have : i ∈ ((List.range ops.size).filter fun j => listed.getD j true == false) := by
          rw [List.mem_filter, List.mem_range]
          exact ⟨(Array.getElem?_eq_some_iff.1 ho).1, by rw [h0]; rfl⟩
        rw [List.eq_nil_of_length_eq_zero (Nat.le_zero.1 hlen)] at this
        cases this
    exact ⟨hr, key listed a w hsz hp hS hr⟩
  | succ fuel ih =>
    intro listed a w hsz hlen hp hS
    refine ⟨key listed a w hsz hp hS, fun i hi => ?_⟩
    obtain ⟨h0, o, ho, hall⟩ := mem_ready.1 hi
    have hin : i < ops.size := (Array.getElem?_eq_some_iff.1 ho).1
    obtain ⟨hs1, hs2, hs3⟩ := seqOk_spec hok ho
    have hun : i ∈ ((List.range ops.size).filter fun j => listed.getD j true == false) := by
      rw [List.mem_filter, List.mem_range]
      exact ⟨hin, by rw [h0]; rfl⟩
    have hsize : a.tmps.size = (putI ops vs (List.range i) a0).tmps.size := by
      rw [putI_size]
      have := congrArg (fun x => x.tmps.size) hp
      simpa only [putI_size] using this
    have hN : putI ops vs (List.range ops.size) a0 = putI ops vs (List.range' i (ops.size - i)) (putI ops vs (List.range i) a0) := by
      unfold putI
      rw [← List.foldl_append]
      congr 1
      rw [List.range_eq_range', List.range_eq_range']
      have := List.range'_append (s := 0) (m := i) (n := ops.size - i) (step := 1)
      rw [Nat.zero_add, Nat.one_mul, show i + (ops.size - i) = ops.size by omega] at this
      exact this.symm
    have hlook : ∀ t, t ∈ o.looksAt ops → a.tmps[t]? = (putI ops vs (List.range i) a0).tmps[t]? := fun t ht => by
      have e1 : (putI ops vs ((List.range ops.size).filter fun j => listed.getD j true == false) a).tmps[t]? = a.tmps[t]? := putI_at vs t _ a (fun j hj hd => by
        obtain ⟨e, he, hb, hon⟩ := ((hs3 j t hd).1 ht).2
        have := hall e he hb
        rw [List.mem_filter, List.mem_range] at hj
        have hj2 : listed.getD j true = false := by simpa using hj.2
        rw [hon] at this
        have hjs : j < listed.size := by omega
        simp [hjs] at this hj2
        rw [this] at hj2
        cases hj2)
      have e2 : (putI ops vs (List.range' i (ops.size - i)) (putI ops vs (List.range i) a0)).tmps[t]? = (putI ops vs (List.range i) a0).tmps[t]? := putI_at vs t _ _ (fun j hj hd => by
        have h1 := ((hs3 j t hd).1 ht).1
        have h2 := (List.mem_range'_1.1 hj).1
        omega)
      rw [← e1, hp, hN, e2]
    obtain ⟨he, hw⟩ := same_looks hs1 hlook
    refine (hdo i o ho).op ho he hw hsize hS (fun w' hS' => ?_)
    have hdst : dstAt ops i = o.dst := by unfold dstAt; rw [ho]; rfl
    have hnd : ((List.range ops.size).filter fun j => listed.getD j true == false).Nodup := List.Pairwise.filter _ List.nodup_range
    refine ih (listed.setIfInBounds i true) _ w' (by simpa using hsz) ?_ ?_ hS'
    · rw [un_set (by omega)]
      have : (((List.range ops.size).filter fun j => listed.getD j true == false).filter (fun j => decide (j ≠ i))).length < ((List.range ops.size).filter fun j => listed.getD j true == false).length :=
        List.length_filter_lt_length_iff_exists.2 ⟨i, hun, by simp⟩
      omega
    · rw [un_set (by omega), ← hp, putI_pull vs i _ a hnd hun (fun j hj hne d hd => fun hd2 => by
        rw [hdst] at hd
        exact (hs3 j d hd2).2 hne hd), hdst]

/-- The law. -/
theorem wp_region_seq {id : Nat} {l : List Oper} {a : Act} {w : World} (S : World → Prop) (hm : P.follows .mixedOrders = true) (hok : seqOk l.toArray = true) (hS : S w.drew)
    (h : SeqDo P l.toArray Q S l a) : (Code.region id l.toArray true).wp P Q a w := by
  refine wp_region_any hm ?_
  obtain ⟨vs, h1, h2⟩ := seq_vals (ops := l.toArray) l 0 a (fun i o ho => by simpa using ho) h
  have hfil : ((List.range l.toArray.size).filter fun j => (Array.replicate l.toArray.size false).getD j true == false) = List.range l.toArray.size := by
    refine List.filter_eq_self.2 (fun j hj => ?_)
    have := List.mem_range.1 hj
    simp at this
    simp [this]
  refine seq_any hok vs a (fun i o ho => ?_) (fun w hw => ?_) _ _ a _ (by simp) ?_ ?_ hS
  · have := h1 i o (by simpa using ho)
    rw [Nat.zero_add, ← List.range_eq_range'] at this
    exact this
  · have := h2 w hw
    rw [← List.range_eq_range'] at this
    simpa using this
  · rw [hfil]
    simp
  · rw [hfil]

/-- One step: the operation is wanted. -/
theorem SeqDo.does {o : Oper} {l : List Oper} {a : Act} {v : Value} (hw : Region.wanted o (yielded ops a.tmps) = true)
    (hd : ∀ w, S w → ∀ K : Act → World → Prop, Shut (∀ w', S w' → K (a.put o.dst v) w') → Oper.wp P o a w K (fun _ _ _ => False)) (h : SeqDo P ops Q S l (a.put o.dst v)) : SeqDo P ops Q S (o :: l) a := ⟨v, .inl ⟨hw, hd⟩, h⟩
/-- .. and only reads. -/
theorem SeqDo.yields {o : Oper} {l : List Oper} {a : Act} {v : Value} (hw : Region.wanted o (yielded ops a.tmps) = true)
    (hd : ∀ w, S w → (execOp a.eval o).run P w = .ok (.value v) w) (h : SeqDo P ops Q S l (a.put o.dst v)) : SeqDo P ops Q S (o :: l) a :=
  ⟨v, .inl ⟨hw, fun w hS K hK => by
    unfold Oper.wp
    rw [hd w hS]
    exact hK.out _ hS⟩, h⟩
/-- .. its guard skips it. -/
theorem SeqDo.skips {o : Oper} {l : List Oper} {a : Act} (hw : Region.wanted o (yielded ops a.tmps) = false) (h : SeqDo P ops Q S l (a.put o.dst undef)) : SeqDo P ops Q S (o :: l) a := ⟨undef, .inr ⟨hw, rfl⟩, h⟩

end
end Go.Proofs.YthenefjoidckkaaGreatDoor

/- Five cells written; blocks that are new. -/
namespace Go.Proofs.YthenefjoidckkaaGreatDoor
open Go.RowKit
set_option linter.unusedVariables false

theorem sizeCst : (Tryz.prog.info? 120).map (·.size) = some 5 := by kernel_rfl
theorem five_set {W : World} {A : Nat} {T : TypeId} {a0 a1 a2 a3 a4 : Value} (c0 c1 c2 c3 c4 : Value) (h : W.heap[A]? = some (.cells #[a0, a1, a2, a3, a4] T (0, 0))) :
    (((((W.setCell ⟨A, 0, none⟩ c0).setCell ⟨A, 1, none⟩ c1).setCell ⟨A, 2, none⟩ c2).setCell ⟨A, 3, none⟩ c3).setCell ⟨A, 4, none⟩ c4).heap[A]? = some (.cells #[c0, c1, c2, c3, c4] T (0, 0)) := by
  have h0 := heap_setCell_same W A 0 _ _ c0 h
  have h1 := heap_setCell_same _ A 1 _ _ c1 h0
  have h2 := heap_setCell_same _ A 2 _ _ c2 h1
  have h3 := heap_setCell_same _ A 3 _ _ c3 h2
  exact heap_setCell_same _ A 4 _ _ c4 h3
theorem five_bel {B A : Nat} {w W : World} (c0 c1 c2 c3 c4 : Value) (h : Below B w W) (hA : B ≤ A) : Below B w (((((W.setCell ⟨A, 0, none⟩ c0).setCell ⟨A, 1, none⟩ c1).setCell ⟨A, 2, none⟩ c2).setCell ⟨A, 3, none⟩ c3).setCell ⟨A, 4, none⟩ c4) :=
  ((((h.setCell (p := ⟨A, 0, none⟩) hA _).setCell (p := ⟨A, 1, none⟩) hA _).setCell (p := ⟨A, 2, none⟩) hA _).setCell (p := ⟨A, 3, none⟩) hA _).setCell (p := ⟨A, 4, none⟩) hA _
theorem two_heap (w : World) (X Y : Obj) : ((w.alloc X).alloc Y).heap[w.heap.size]? = some X := (heap_alloc_old _ _ (by simp)).trans (heap_alloc_last w X)
theorem two_bel (w : World) (X Y : Obj) : Below w.heap.size w ((w.alloc X).alloc Y) := ((Below.refl _ _).alloc (Nat.le_refl _) _).alloc (by simp) _

end Go.Proofs.YthenefjoidckkaaGreatDoor
