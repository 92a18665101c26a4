/- Entries in memory. -/
import Derived.Test.YtjhiflhmefhogaaPlA
import Derived.Test.YtjhiflhmefhogaaBsB
namespace Go.Proofs.Ytjhiflhmefhogaa
open Go.RowKit
set_option linter.unusedVariables false

/-- An entry's five cells. -/
def ec (x : Ent) : List Value := [.int .i64 x.tag, .string ⟨x.text.toArray⟩, .int .i64 x.n, .int .i64 x.a, .int .i64 x.b]
def ev (l : List Ent) : List Value := l.flatMap ec
theorem ec_len (x : Ent) : (ec x).length = 5 := rfl
theorem ev_len (l : List Ent) : (ev l).length = l.length * 5 := by
  induction l with
  | nil => rfl
  | cons x l ih =>
    have : ev (x :: l) = ec x ++ ev l := rfl
    rw [this, List.length_append, ih, ec_len, List.length_cons]
    omega
theorem ev_append (a b : List Ent) : ev (a ++ b) = ev a ++ ev b := by simp [ev]
theorem ev_one (l : List Ent) : ∀ v ∈ ev l, v.oneCell' = true := by
  intro v hv
  simp only [ev, ec, List.mem_flatMap, List.mem_cons, List.not_mem_nil, or_false] at hv
  obtain ⟨x, _, rfl | rfl | rfl | rfl | rfl⟩ := hv <;> rfl
theorem ev_get {l : List Ent} {k : Nat} {x : Ent} (h : l[k]? = some x) (q : Nat) (hq : q < 5) : (ev l)[5 * k + q]? = (ec x)[q]? := by
  induction l generalizing k with
  | nil => simp at h
  | cons y l ih =>
    have e : ev (y :: l) = ec y ++ ev l := rfl
    rw [e]
    cases k with
    | zero =>
      simp at h
      subst h
      rw [Nat.mul_zero, Nat.zero_add, List.getElem?_append_left (by rw [ec_len]; exact hq)]
    | succ k =>
      rw [List.getElem?_append_right (by rw [ec_len]; omega), ec_len, show 5 * (k + 1) + q - 5 = 5 * k + q by omega]
      exact ih (by simpa using h)
theorem infoE : (Try.prog.info? 98).map (fun i => (i.zero, i.size, i.bytes)) = some (some (.agg #[.int .i64 0, .string ⟨#[]⟩, .int .i64 0, .int .i64 0, .int .i64 0]), 5, 48) := by kernel_rfl

/-- Entries that lie in memory. -/
def EntsAt (w : World) (a : Option Addr) (l : List Ent) : Prop := ∀ ad, a = some ad → ∀ j u, (ev l)[j]? = some u → w.cell? (ad.add j) = some u
def Es (w : World) (a : Option Addr) (n : Nat) (l : List Ent) : Prop := l.length = n ∧ (n = 0 ∨ ∃ b o, a = some ⟨b, o, none⟩ ∧ EntsAt w (some ⟨b, o, none⟩) l)
theorem EntsAt.below {w w' : World} {a : Option Addr} {l : List Ent} (h : EntsAt w a l) (f : Below w.heap.size w w') : EntsAt w' a l := fun ad e j u hu => by
  have h1 := h ad e j u hu
  exact (f.cell (World.block_lt_of_cell? w _ h1)).trans h1
theorem Es.below {w w' : World} {a : Option Addr} {n : Nat} {l : List Ent} (h : Es w a n l) (f : Below w.heap.size w w') : Es w' a n l := by
  rcases h with ⟨h1, h2 | ⟨b, o, e, h2⟩⟩
  · exact ⟨h1, .inl h2⟩
  · exact ⟨h1, .inr ⟨b, o, e, h2.below f⟩⟩
theorem ents_get {w : World} {b o : Nat} {l : List Ent} (h : EntsAt w (some ⟨b, o, none⟩) l) {k : Nat} {x : Ent} (hk : l[k]? = some x) :
    w.cell? ⟨b, o + k * 5, none⟩ = some (.int .i64 x.tag) ∧ w.cell? ⟨b, o + k * 5 + 1, none⟩ = some (.string ⟨x.text.toArray⟩) ∧ w.cell? ⟨b, o + k * 5 + 2, none⟩ = some (.int .i64 x.n) ∧ w.cell? ⟨b, o + k * 5 + 3, none⟩ = some (.int .i64 x.a) ∧ w.cell? ⟨b, o + k * 5 + 4, none⟩ = some (.int .i64 x.b) := by
  have key : ∀ q u, q < 5 → (ec x)[q]? = some u → w.cell? ⟨b, o + k * 5 + q, none⟩ = some u := fun q u hq hu => by
    have h1 := h _ rfl (5 * k + q) u (by rw [ev_get hk q hq]; exact hu)
    rw [Addr.add_mid, show o + (5 * k + q) = o + k * 5 + q by omega] at h1
    exact h1
  exact ⟨key 0 _ (by omega) rfl, key 1 _ (by omega) rfl, key 2 _ (by omega) rfl, key 3 _ (by omega) rfl, key 4 _ (by omega) rfl⟩
theorem es_of_own {w : World} {base n : Nat} {a : Option Addr} {c : Nat} {l : List Ent} (h : w.ownsRow base 98 5 (.slice a n c) n (ev l)) : Es w a n l := by
  have hl := h.1
  rw [ev_len] at hl
  have hl' : l.length = n := by omega
  rcases h.2 with ⟨e, h0⟩ | ⟨q, cap, cur, e, _⟩
  · exact ⟨hl', .inl h0⟩
  · injection e with e
    subst e
    exact ⟨hl', .inr ⟨q, 0, rfl, fun ad e => by injection e with e; subst e; exact h.cells (g := q) rfl⟩⟩
/-- A slice of entries that came in. -/
structure EArg (w : World) (a : Option Addr) (n cap : Nat) (l : List Ent) : Prop where
  es : Es w a n l
  room : n ≤ cap
  most : cap ≤ 9223372036854775807
  nil : a = none → n = 0 ∧ cap = 0
theorem EArg.below {w w' : World} {a : Option Addr} {n cap : Nat} {l : List Ent} (h : EArg w a n cap l) (f : Below w.heap.size w w') : EArg w' a n cap l := ⟨h.es.below f, h.room, h.most, h.nil⟩
theorem own_capE {w : World} {base n c : Nat} {a : Option Addr} {xs : List Value} {e : TypeId} (h : w.ownsRow base e 5 (.slice a n c) n xs) : n ≤ c ∧ c ≤ 9223372036854775807 := by
  rcases h.2 with ⟨e, h0⟩ | ⟨q, cap, cur, e, _, _, h1, h2, _⟩
  · injection e with _ _ e
    omega
  · injection e with _ _ e
    subst e
    unfold maxLen at h2
    exact ⟨h1, h2⟩
theorem earg_of_own {w : World} {base n c : Nat} {a : Option Addr} {l : List Ent} (h : w.ownsRow base 98 5 (.slice a n c) n (ev l)) : EArg w a n c l := by
  refine ⟨es_of_own h, (own_capE h).1, (own_capE h).2, fun e => ?_⟩
  rcases h.2 with ⟨e1, h0⟩ | ⟨q, cap, cur, e1, _⟩
  · injection e1 with _ e2 e3
    exact ⟨h0, e3⟩
  · injection e1 with e1
    rw [e] at e1
    cases e1

end Go.Proofs.Ytjhiflhmefhogaa
