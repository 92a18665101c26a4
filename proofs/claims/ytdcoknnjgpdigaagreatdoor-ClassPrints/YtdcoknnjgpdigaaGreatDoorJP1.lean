/- Joined: PlM PlB PlC PlD. -/
import Derived.Test.YtdcoknnjgpdigaaGreatDoorJP0

/- Entries in memory. -/
namespace Go.Proofs.YtdcoknnjgpdigaaGreatDoor
open Go.RowKit
set_option linter.unusedVariables false

/-- An entry's five cells. -/
def ec (x : Ent) : List Value := [.int .i64 x.tag, .string ⟨x.text.toArray⟩, .int .i64 x.n, .int .i64 x.a, .int .i64 x.b]
def ev (l : List Ent) : List Value := l.flatMap ec
theorem ec_len (x : Ent) : (ec x).length = 5 := rfl
theorem ev_len (l : List Ent) : (ev l).length = l.length * 5 := by
  induction l with
  | nil => rfl
  | cons x l ih =>
    have : ev (x :: l) = ec x ++ ev l := rfl
    rw [this, List.length_append, ih, ec_len, List.length_cons]
    omega
theorem ev_get {l : List Ent} {k : Nat} {x : Ent} (h : l[k]? = some x) (q : Nat) (hq : q < 5) : (ev l)[5 * k + q]? = (ec x)[q]? := by
  induction l generalizing k with
  | nil => simp at h
  | cons y l ih =>
    have e : ev (y :: l) = ec y ++ ev l := rfl
    rw [e]
    cases k with
    | zero =>
      simp at h
      subst h
      rw [Nat.mul_zero, Nat.zero_add, List.getElem?_append_left (by rw [ec_len]; exact hq)]
    | succ k =>
      rw [List.getElem?_append_right (by rw [ec_len]; omega), ec_len, show 5 * (k + 1) + q - 5 = 5 * k + q by omega]
      exact ih (by simpa using h)
/-- Entries that lie in memory. -/
def EntsAt (w : World) (a : Option Addr) (l : List Ent) : Prop := ∀ ad, a = some ad → ∀ j u, (ev l)[j]? = some u → w.cell? (ad.add j) = some u
def Es (w : World) (a : Option Addr) (n : Nat) (l : List Ent) : Prop := l.length = n ∧ (n = 0 ∨ ∃ b o, a = some ⟨b, o, none⟩ ∧ EntsAt w (some ⟨b, o, none⟩) l)
theorem EntsAt.below {w w' : World} {a : Option Addr} {l : List Ent} (h : EntsAt w a l) (f : Below w.heap.size w w') : EntsAt w' a l := fun ad e j u hu => by
  have h1 := h ad e j u hu
  exact (f.cell (World.block_lt_of_cell? w _ h1)).trans h1
theorem Es.below {w w' : World} {a : Option Addr} {n : Nat} {l : List Ent} (h : Es w a n l) (f : Below w.heap.size w w') : Es w' a n l := by
  rcases h with ⟨h1, h2 | ⟨b, o, e, h2⟩⟩
  · exact ⟨h1, .inl h2⟩
  · exact ⟨h1, .inr ⟨b, o, e, h2.below f⟩⟩
theorem ents_get {w : World} {b o : Nat} {l : List Ent} (h : EntsAt w (some ⟨b, o, none⟩) l) {k : Nat} {x : Ent} (hk : l[k]? = some x) :
    w.cell? ⟨b, o + k * 5, none⟩ = some (.int .i64 x.tag) ∧ w.cell? ⟨b, o + k * 5 + 1, none⟩ = some (.string ⟨x.text.toArray⟩) ∧ w.cell? ⟨b, o + k * 5 + 2, none⟩ = some (.int .i64 x.n) ∧ w.cell? ⟨b, o + k * 5 + 3, none⟩ = some (.int .i64 x.a) ∧ w.cell? ⟨b, o + k * 5 + 4, none⟩ = some (.int .i64 x.b) := by
  have key : ∀ q u, q < 5 → (ec x)[q]? = some u → w.cell? ⟨b, o + k * 5 + q, none⟩ = some u := fun q u hq hu => by
    have h1 := h _ rfl (5 * k + q) u (by rw [ev_get hk q hq]; exact hu)
    rw [Addr.add_mid, show o + (5 * k + q) = o + k * 5 + q by omega] at h1
    exact h1
  exact ⟨key 0 _ (by omega) rfl, key 1 _ (by omega) rfl, key 2 _ (by omega) rfl, key 3 _ (by omega) rfl, key 4 _ (by omega) rfl⟩
theorem es_of_own {w : World} {base n : Nat} {a : Option Addr} {c : Nat} {l : List Ent} (h : w.ownsRow base 55 5 (.slice a n c) n (ev l)) : Es w a n l := by
  have hl := h.1
  rw [ev_len] at hl
  have hl' : l.length = n := by omega
  rcases h.2 with ⟨e, h0⟩ | ⟨q, cap, cur, e, _⟩
  · exact ⟨hl', .inl h0⟩
  · injection e with e
    subst e
    exact ⟨hl', .inr ⟨q, 0, rfl, fun ad e => by injection e with e; subst e; exact h.cells (g := q) rfl⟩⟩
/-- A slice of entries that came in. -/
structure EArg (w : World) (a : Option Addr) (n cap : Nat) (l : List Ent) : Prop where
  es : Es w a n l
  room : n ≤ cap
  most : cap ≤ 9223372036854775807
  nil : a = none → n = 0 ∧ cap = 0
theorem EArg.below {w w' : World} {a : Option Addr} {n cap : Nat} {l : List Ent} (h : EArg w a n cap l) (f : Below w.heap.size w w') : EArg w' a n cap l := ⟨h.es.below f, h.room, h.most, h.nil⟩
theorem own_capE {w : World} {base n c : Nat} {a : Option Addr} {xs : List Value} {e : TypeId} (h : w.ownsRow base e 5 (.slice a n c) n xs) : n ≤ c ∧ c ≤ 9223372036854775807 := by
  rcases h.2 with ⟨e, h0⟩ | ⟨q, cap, cur, e, _, _, h1, h2, _⟩
  · injection e with _ _ e
    omega
  · injection e with _ _ e
    subst e
    unfold maxLen at h2
    exact ⟨h1, h2⟩
theorem earg_of_own {w : World} {base n c : Nat} {a : Option Addr} {l : List Ent} (h : w.ownsRow base 55 5 (.slice a n c) n (ev l)) : EArg w a n c l := by
  refine ⟨es_of_own h, (own_capE h).1, (own_capE h).2, fun e => ?_⟩
  rcases h.2 with ⟨e1, h0⟩ | ⟨q, cap, cur, e1, _⟩
  · injection e1 with _ e2 e3
    exact ⟨h0, e3⟩
  · injection e1 with e1
    rw [e] at e1
    cases e1

theorem jtag_any (w : World) (a : Option Addr) (n c : Nat) (l : List Ent) (h : Es w a n l) (i : Int) (hi : -9223372036854775808 ≤ i ∧ i ≤ 9223372036854775807) (hn : n ≤ 140737488351232) :
    Calls Tryz.prog 66 #[.slice a n c, .int .i64 i] w fun e w' => e = .returned (.int .i64 (tagE l i)) ∧ w' = w := by
  by_cases h0 : i < 0
  · have e1 : tagE l i = 0 := by unfold tagE atE; rw [if_neg (by omega)]; rfl
    rw [e1]
    clear e1 h
    go_enter Tryz.func66, Tryz.ntmps66
    go_wp2
    go_ret
    exact ⟨rfl, rfl⟩
  · by_cases h1 : (n : Int) ≤ i
    · have e1 : tagE l i = 0 := by
        unfold tagE atE
        rw [if_pos (by omega), List.getElem?_eq_none (by rw [h.1]; omega)]
        rfl
      rw [e1]
      clear e1 h
      go_enter Tryz.func66, Tryz.ntmps66
      go_wp2
      go_ret
      exact ⟨rfl, rfl⟩
    · obtain ⟨k, rfl⟩ : ∃ k : Nat, i = k := ⟨i.toNat, by omega⟩
      obtain ⟨b, o, rfl, hE⟩ := h.2.resolve_left (by omega)
      obtain ⟨x, hx⟩ : ∃ x, l[k]? = some x := ⟨_, List.getElem?_eq_getElem (by rw [h.1]; omega)⟩
      obtain ⟨c0, _, _, _, _⟩ := ents_get hE hx
      have e1 : tagE l (k : Int) = x.tag := by
        unfold tagE atE
        rw [if_pos (by omega), Int.toNat_natCast, hx]
        rfl
      rw [e1]
      generalize x.tag = T at *
      clear e1 hE hx h
      go_enter Tryz.func66, Tryz.ntmps66
      go_wp2
      go_ret
      exact ⟨rfl, rfl⟩

end Go.Proofs.YtdcoknnjgpdigaaGreatDoor

/- Pools as plain values: what is written is read. -/
namespace Go.Proofs.YtdcoknnjgpdigaaGreatDoor
open Go.RowKit
set_option linter.unusedVariables false

def EntFit (x : Ent) : Prop := (-9223372036854775808 ≤ x.tag ∧ x.tag ≤ 9223372036854775807) ∧ (-9223372036854775808 ≤ x.n ∧ x.n ≤ 9223372036854775807) ∧ (-9223372036854775808 ≤ x.a ∧ x.a ≤ 9223372036854775807) ∧ (-9223372036854775808 ≤ x.b ∧ x.b ≤ 9223372036854775807)
theorem tagE_in {l : List Ent} {i : Int} (h : tagE l i ≠ 0) : 0 ≤ i ∧ i < l.length := by
  unfold tagE atE at h
  by_cases h0 : 0 ≤ i
  · rw [if_pos h0] at h
    refine ⟨h0, ?_⟩
    by_cases h1 : i.toNat < l.length
    · omega
    · rw [List.getElem?_eq_none (by omega)] at h
      exact absurd rfl h
  · rw [if_neg h0] at h
    exact absurd rfl h
theorem fits2 {n : Int} (h : 0 ≤ n ∧ n < 65536) : fitsW 2 n false := by
  refine ⟨by unfold wide; omega, ?_⟩
  rw [if_neg (by decide), if_neg (by decide)]
  simp
  omega
theorem fits4 {n : Int} (h : -2147483648 ≤ n ∧ n ≤ 2147483647) : fitsW 4 n true := by
  refine ⟨by unfold wide; omega, ?_⟩
  rw [if_neg (by decide), if_pos rfl]
  simp
  omega
theorem fits8 (n : Int) : fitsW 8 n true := ⟨by unfold wide; omega, by rw [if_pos rfl]; exact .inl rfl⟩

/-- An entry's tag is one of seven. -/
theorem okE_tag {l : List Ent} {x : Ent} (h : okE l x = true) : x.tag = 1 ∨ x.tag = 3 ∨ x.tag = 5 ∨ x.tag = 7 ∨ x.tag = 12 ∨ x.tag = 9 ∨ x.tag = 10 := by
  unfold okE at h
  repeat (split at h; omega)
  cases h

end Go.Proofs.YtdcoknnjgpdigaaGreatDoor

/- Pools as plain values: a right pool's bytes are read as it. -/
namespace Go.Proofs.YtdcoknnjgpdigaaGreatDoor
open Go.RowKit
set_option linter.unusedVariables false

theorem withE_len (l : List Ent) (x : Ent) : l.length + 1 ≤ (withE l x).length := by
  unfold withE
  split <;> simp
theorem checkP_iff {l : List Ent} : checkP l = true ↔ (1 ≤ l.length ∧ l.length ≤ 1024) ∧ l[0]? = some ent0 ∧ goE l (l.drop 1) = true := by
  unfold checkP
  simp [and_assoc]
end Go.Proofs.YtdcoknnjgpdigaaGreatDoor

/- Pools as plain values: what is read is written as it was. -/
namespace Go.Proofs.YtdcoknnjgpdigaaGreatDoor
open Go.RowKit
set_option linter.unusedVariables false

end Go.Proofs.YtdcoknnjgpdigaaGreatDoor
