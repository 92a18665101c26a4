/- Joined: PkH PkI PkJ PkK PkL PkM PkN. -/
import Derived.Test.YtjpimcglojneaaaJC
import Derived.Test.YtjpimcglojneaaaJD
import Derived.Test.YtjpimcglojneaaaJA
import Derived.Test.YtjpimcglojneaaaJB
import Derived.Maps.OwnSet

/- The landed pool: a pool that grows, in memory; put. -/
namespace Go.Proofs.Ytjpimcglojneaaa
open Go.RowKit
set_option linter.unusedVariables false

/-- A map of the first number of each text, of the first k entries. -/
structure TX (l : List Ent) (k : Nat) (D : DataW Unit) : Prop where
  no : ∀ s : List UInt8, Maps.has D (.string s) = false → ∀ j, j < k → l[j]? ≠ some (eUtf s)
  yes : ∀ s : List UInt8, Maps.has D (.string s) = true → ∃ j : Nat, D.atKey (.string s) (.lit (.int .i64 0)) = .lit (.int .i64 (j : Int)) ∧ j < k ∧ l[j]? = some (eUtf s) ∧ ∀ i, i < j → l[i]? ≠ some (eUtf s)
theorem eUtf_inj {s t : List UInt8} (h : eUtf s = eUtf t) : s = t := by
  injection h
theorem TX.start (l : List Ent) : TX l 0 (.map []) := ⟨fun s _ j hj => by omega, fun s h => by cases h⟩
theorem TX.skip {l : List Ent} {k : Nat} {D : DataW Unit} (h : TX l k D) (hk : ∀ s, l[k]? ≠ some (eUtf s)) : TX l (k + 1) D := by
  refine ⟨fun s hs j hj => ?_, fun s hs => ?_⟩
  · by_cases e : j = k
    · subst e; exact hk s
    · exact h.no s hs j (by omega)
  · obtain ⟨j, h1, h2, h3, h4⟩ := h.yes s hs
    exact ⟨j, h1, by omega, h3, h4⟩
theorem TX.there {l : List Ent} {k : Nat} {D : DataW Unit} {s0 : List UInt8} (h : TX l k D) (h0 : Maps.has D (.string s0) = true) (hk : l[k]? = some (eUtf s0)) : TX l (k + 1) D := by
  refine ⟨fun s hs j hj => ?_, fun s hs => ?_⟩
  · by_cases e : j = k
    · subst e
      rw [hk]
      intro e
      injection e with e
      rw [eUtf_inj e] at h0
      rw [h0] at hs
      cases hs
    · exact h.no s hs j (by omega)
  · obtain ⟨j, h1, h2, h3, h4⟩ := h.yes s hs
    exact ⟨j, h1, by omega, h3, h4⟩
theorem TX.new {l : List Ent} {k : Nat} {D : DataW Unit} {s0 : List UInt8} (h : TX l k D) (hm : Maps.IsMap D) (h0 : Maps.has D (.string s0) = false) (hk : l[k]? = some (eUtf s0)) : TX l (k + 1) (D.put (.string s0) (.lit (.int .i64 (k : Int)))) := by
  refine ⟨fun s hs j hj => ?_, fun s hs => ?_⟩
  · by_cases es : s = s0
    · subst es
      rw [Maps.has_put_same hm (k := .string s) True.intro] at hs
      cases hs
    · rw [Maps.has_put_other (fun e => es (by injection e))] at hs
      by_cases e : j = k
      · subst e
        rw [hk]
        intro e
        injection e with e
        exact es (eUtf_inj e).symm
      · exact h.no s hs j (by omega)
  · by_cases es : s = s0
    · subst es
      exact ⟨k, Maps.atKey_put_same hm (k := .string s) True.intro _ _, by omega, hk, fun i hi => h.no s h0 i hi⟩
    · rw [Maps.has_put_other (fun e => es (by injection e))] at hs
      obtain ⟨j, h1, h2, h3, h4⟩ := h.yes s hs
      exact ⟨j, by rw [Maps.atKey_put_other (fun e => es (by injection e))]; exact h1, by omega, h3, h4⟩
theorem TX.find {l : List Ent} {D : DataW Unit} (h : TX l l.length D) (h0 : l[0]? = some ent0) (s : List UInt8) :
    (Maps.has D (.string s) = false → findE l (eUtf s) = 0) ∧ (Maps.has D (.string s) = true → D.atKey (.string s) (.lit (.int .i64 0)) = .lit (.int .i64 (findE l (eUtf s) : Int)) ∧ findE l (eUtf s) ≠ 0) := by
  constructor
  · intro hs
    by_cases hf : findE l (eUtf s) = 0
    · exact hf
    · obtain ⟨h1, h2, h3⟩ := findE_some hf
      exact absurd h3 (h.no s hs _ h2)
  · intro hs
    obtain ⟨j, h1, h2, h3, h4⟩ := h.yes s hs
    have hj : 1 ≤ j := by
      cases j with
      | zero =>
        rw [h0] at h3
        injection h3 with h3
        have := congrArg Ent.tag h3
        simp [ent0, eUtf] at this
      | succ j => omega
    have e : findE l (eUtf s) = j := first_eq (p := fun i => decide (l[i]? = some (eUtf s))) hj h2 (by simpa using h3) (fun i _ hi => by simpa using h4 i hi)
    rw [e]
    exact ⟨h1, by omega⟩
theorem TX.more {l e : List Ent} {D : DataW Unit} (h : TX l l.length D) (he : ∀ s, eUtf s ∉ e) : TX (l ++ e) (l ++ e).length D := by
  refine ⟨fun s hs j hj => ?_, fun s hs => ?_⟩
  · by_cases hjl : j < l.length
    · rw [List.getElem?_append_left hjl]
      exact h.no s hs j hjl
    · intro e1
      rw [List.getElem?_append_right (by omega)] at e1
      exact he s (List.mem_of_getElem? e1)
  · obtain ⟨j, h1, h2, h3, h4⟩ := h.yes s hs
    refine ⟨j, h1, by simp; omega, by rw [List.getElem?_append_left h2]; exact h3, fun i hi => ?_⟩
    rw [List.getElem?_append_left (by omega)]
    exact h4 i hi
theorem TX.text {l : List Ent} {D : DataW Unit} {s0 : List UInt8} (h : TX l l.length D) (hm : Maps.IsMap D) (h0 : Maps.has D (.string s0) = false) : TX (l ++ [eUtf s0]) (l ++ [eUtf s0]).length (D.put (.string s0) (.lit (.int .i64 (l.length : Int)))) := by
  have h1 : TX (l ++ [eUtf s0]) l.length D := by
    refine ⟨fun s hs j hj => ?_, fun s hs => ?_⟩
    · rw [List.getElem?_append_left hj]
      exact h.no s hs j hj
    · obtain ⟨j, h1, h2, h3, h4⟩ := h.yes s hs
      refine ⟨j, h1, h2, by rw [List.getElem?_append_left h2]; exact h3, fun i hi => ?_⟩
      rw [List.getElem?_append_left (by omega)]
      exact h4 i hi
  have := h1.new hm h0 (by rw [List.getElem?_append_right (Nat.le_refl _), Nat.sub_self]; rfl)
  simpa using this

/-- A growing pool: its block g, its map m, its entries v. -/
structure GrR (w : World) (B g m : Nat) (v : Value) (N : Nat) (D : DataW Unit) (l : List Ent) : Prop where
  hg : B ≤ g
  hm : B ≤ m
  gm : g ≠ m
  vg : v.ownBlock ≠ some g
  vm : v.ownBlock ≠ some m
  blk : w.heap[g]? = some (.cells #[v, .map (some m)] 85 (0, 0))
  row : w.ownsRow B 67 5 v l.length (ev l)
  map : w.ownsMap Try.prog 9 (plainElem (H := Unit) Try.prog 3) m N D
  room : N ≤ l.length
theorem GrR.c0 {w : World} {B g m N : Nat} {v : Value} {D : DataW Unit} {l : List Ent} (h : GrR w B g m v N D l) : w.cell? ⟨g, 0, none⟩ = some v := by rw [cell_of_row _ _ _ _ _ _ h.blk]; rfl
theorem GrR.c1 {w : World} {B g m N : Nat} {v : Value} {D : DataW Unit} {l : List Ent} (h : GrR w B g m v N D l) : w.cell? ⟨g, 1, none⟩ = some (.map (some m)) := by rw [cell_of_row _ _ _ _ _ _ h.blk]; rfl
theorem GrR.fz {w : World} {B g m N : Nat} {v : Value} {D : DataW Unit} {l : List Ent} (h : GrR w B g m v N D l) (j : Nat) : w.frozen? ⟨g, j, none⟩ = false := frozen_of_row _ _ _ _ _ h.blk
theorem GrR.glt {w : World} {B g m N : Nat} {v : Value} {D : DataW Unit} {l : List Ent} (h : GrR w B g m v N D l) : g < w.heap.size := lt_of_heap h.blk
theorem ownsMap_keep {w w' : World} {m N : Nat} {D : DataW Unit} (h : w.ownsMap Try.prog 9 (plainElem (H := Unit) Try.prog 3) m N D) (e : w'.heap[m]? = w.heap[m]?) : w'.ownsMap Try.prog 9 (plainElem (H := Unit) Try.prog 3) m N D := by
  obtain ⟨es, clock, h1, h2⟩ := h
  exact ⟨es, clock, e.trans h1, h2⟩
theorem GrR.keep {w w' : World} {B g m N : Nat} {v : Value} {D : DataW Unit} {l : List Ent} (h : GrR w B g m v N D l) (hk : ∀ k, (k = g ∨ k = m ∨ v.ownBlock = some k) → w'.heap[k]? = w.heap[k]?) : GrR w' B g m v N D l :=
  ⟨h.hg, h.hm, h.gm, h.vg, h.vm, (hk g (.inl rfl)).trans h.blk, own_of_block h.row (fun k e => hk k (.inr (.inr e))), ownsMap_keep h.map (hk m (.inr (.inl rfl))), h.room⟩
theorem GrR.below {w w' : World} {B g m N : Nat} {v : Value} {D : DataW Unit} {l : List Ent} (h : GrR w B g m v N D l) (f : Below w.heap.size w w') : GrR w' B g m v N D l :=
  h.keep (fun k hk => by
    rcases hk with rfl | rfl | hk
    · exact f.block _ h.glt
    · exact f.block _ h.map.lt
    · exact f.block _ (h.row.lt k hk).2)

/-- What put leaves. -/
def Put1 (w : World) (B g m : Nat) (v : Value) (N : Nat) (D : DataW Unit) (l : List Ent) (x : Ent) (w' : World) : Prop :=
  ∃ v', GrR w' B g m v' N D (withE l x) ∧ (v'.ownBlock = v.ownBlock ∨ ∀ k, v'.ownBlock = some k → w.heap.size ≤ k) ∧ Fr6 (fun k => k = g ∨ k = m ∨ v.ownBlock = some k) B w w'

theorem put_step {w W w7 : World} {B g m N q cap H : Nat} {v : Value} {D : DataW Unit} {l : List Ent} {x : Ent} (h : GrR w B g m v N D l) (hB : B ≤ w.heap.size) (f : Below w.heap.size w W)
    (o7 : w7.ownsRow B 67 5 (.slice (some ⟨q, 0, none⟩) (l.length + 1) cap) (l.length + 1) (ev l ++ ev [x])) (g7 : W.grownBy w7 v.ownBlock) (hat : v.ownBlock = some q ∨ q = H) (hH : w.heap.size ≤ H) :
    GrR (w7.setCell ⟨g, 0, none⟩ (.slice (some ⟨q, 0, none⟩) (l.length + 1) cap)) B g m (.slice (some ⟨q, 0, none⟩) (l.length + 1) cap) N D (l ++ [x]) ∧ (Value.ownBlock (.slice (some ⟨q, 0, none⟩) (l.length + 1) cap) = v.ownBlock ∨ ∀ k, Value.ownBlock (.slice (some ⟨q, 0, none⟩) (l.length + 1) cap) = some k → w.heap.size ≤ k) ∧
      Fr6 (fun k => k = g ∨ k = m ∨ v.ownBlock = some k) B w (w7.setCell ⟨g, 0, none⟩ (.slice (some ⟨q, 0, none⟩) (l.length + 1) cap)) := by
  have glt := h.glt
  have mlt := h.map.lt
  have hqg : q ≠ g := fun e => by
    subst e
    rcases hat with e | e
    · exact h.vg e
    · omega
  have hqm : q ≠ m := fun e => by
    subst e
    rcases hat with e | e
    · exact h.vm e
    · omega
  have hold : ∀ k, k < w.heap.size → v.ownBlock ≠ some k → w7.heap[k]? = w.heap[k]? := fun k hk hv => (g7.block k (Nat.lt_of_lt_of_le hk f.size) (fun e => hv e.symm)).trans (f.block k hk)
  have hset : ∀ k, k ≠ g → (w7.setCell ⟨g, 0, none⟩ (.slice (some ⟨q, 0, none⟩) (l.length + 1) cap)).heap[k]? = w7.heap[k]? := fun k hk => Below.heap_setCell _ _ _ _ hk
  have e8 : ev (l ++ [x]) = ev l ++ ev [x] := ev_append l [x]
  have hb7 : Below B w w7 := (f.mono hB).grown g7 (Nat.le_trans hB f.size) (fun k hk => (h.row.lt k hk).1)
  refine ⟨⟨h.hg, h.hm, h.gm, ?_, ?_, ?_, ?_, ?_, by have := h.room; simp; omega⟩, ?_, ?_, ?_⟩
  · simp only [Value.ownBlock]
    intro e
    injection e with e
    exact hqg e
  · simp only [Value.ownBlock]
    intro e
    injection e with e
    exact hqm e
  · exact heap_setCell_same w7 g 0 _ _ _ ((hold g glt h.vg).trans h.blk)
  · rw [e8, List.length_append]
    refine own_of_block o7 (fun k hk => hset k (fun e => ?_))
    simp only [Value.ownBlock] at hk
    injection hk with hk
    omega
  · exact ownsMap_keep h.map ((hset m (fun e => h.gm e.symm)).trans (hold m mlt h.vm))
  · rcases hat with e | e
    · left
      rw [e]
      rfl
    · right
      intro k hk
      simp only [Value.ownBlock] at hk
      injection hk with hk
      omega
  · exact hb7.setCell (p := ⟨g, 0, none⟩) h.hg _
  · intro k hk hF
    rw [hset k (fun e => hF (.inl e))]
    exact hold k hk (fun e => hF (.inr (.inr e)))

theorem put_old {w W w7 : World} {B g m N : Nat} {v : Value} {D : DataW Unit} {l : List Ent} (h : GrR w B g m v N D l) (f : Below w.heap.size w W) (g7 : W.grownBy w7 v.ownBlock) :
    w7.cell? ⟨g, 0, none⟩ = some v ∧ w7.frozen? ⟨g, 0, none⟩ = false := by
  have hb : w7.heap[g]? = some (.cells #[v, .map (some m)] 85 (0, 0)) := (g7.block g (Nat.lt_of_lt_of_le h.glt f.size) (fun e => h.vg e.symm)).trans ((f.block g h.glt).trans h.blk)
  exact ⟨by rw [cell_of_row _ _ _ _ _ _ hb]; rfl, frozen_of_row _ _ _ _ _ hb⟩
theorem put_box {w w0 W w7 : World} {B g m N : Nat} {v : Value} {D : DataW Unit} {l : List Ent} {X : Obj} (h : GrR w B g m v N D l) (h0 : w0.heap[w.heap.size]? = some X) (f : Below w0.heap.size w0 W) (g7 : W.grownBy w7 v.ownBlock) : w7.heap[w.heap.size]? = some X :=
  (g7.block _ (Nat.lt_of_lt_of_le (lt_of_heap h0) f.size) (fun e => by have := (h.row.lt _ e.symm).2; omega)).trans ((f.block _ (lt_of_heap h0)).trans h0)
theorem fr6_trans {F F1 : Nat → Prop} {B : Nat} {w w1 w2 : World} (f1 : Fr6 F B w w1) (f2 : Fr6 F1 B w1 w2) (hF : ∀ k, F1 k → F k ∨ w.heap.size ≤ k) : Fr6 F B w w2 :=
  ⟨f1.below.trans f2.below, fun k hk hn => (f2.other k (Nat.lt_of_lt_of_le hk f1.below.size) (fun h => (hF k h).elim hn (fun h => by omega))).trans (f1.other k hk hn)⟩
theorem stepE_lies {w : World} {ops : Array Oper} {o : Oper} {a : Act} {K : Act → World → Prop} {Q : Exit → Act → World → Prop} {E : Prop} (hgd : o.guard = none) (s x : Operand) (ho : o.op = .call { callee := .builtin .append, args := #[s, x], argTypes := #[29, 29] })
    (base : Nat) (v : Value) (n : Nat) (xs : List Ent) (hs : a.eval s = v) (hown : w.ownsRow base 67 5 v n (ev xs)) (src : Addr) (y : Ent) (hx : a.eval x = .slice (some src) 1 1) (hb : EntsAt w (some src) [y])
    (hsm : (n + 1) * 48 ≤ 140737488355328) (hbase : base ≤ w.heap.size) (H : Nat) (hH : w.heap.size = H) (h : ∀ q cap w', w'.ownsRow base 67 5 (.slice (some ⟨q, 0, none⟩) (n + 1) cap) (n + 1) (ev xs ++ ev [y]) → w.grownBy w' v.ownBlock → (v.ownBlock = some q ∨ q = H) → K (a.put o.dst (.slice (some ⟨q, 0, none⟩) (n + 1) cap)) w') :
    if Region.wanted o (yielded ops a.tmps) = true then Oper.wp Try.prog o a w K Q else E := by
  rw [if_pos (by simp [Region.wanted, hgd])]
  obtain ⟨i0, hi, hz0, hz1, hz2⟩ := info_parts infoE
  refine wp_append_lies w s x 29 ho base 67 i0 (.agg #[.int .i64 0, .string ⟨#[]⟩, .int .i64 0, .int .i64 0, .int .i64 0]) 5 48 Try.underlying29 hi hz0 hz1 hz2 rfl (by decide) v n (ev xs) hs hown src 1 1 (ev [y]) hx rfl (hb src rfl) (ev_one _) (by omega) (by unfold maxLen; omega) hsm hbase H hH ?_
  intro q cap w' h1 h2 h3 h4
  exact h q cap w' h1 h2 h3
theorem listE_lies {w : World} {ops : Array Oper} {rest : List Oper} {o : Oper} {a : Act} {Q : Exit → Act → World → Prop} (hgd : o.guard = none) (s x : Operand) (ho : o.op = .call { callee := .builtin .append, args := #[s, x], argTypes := #[29, 29] })
    (base : Nat) (v : Value) (n : Nat) (xs : List Ent) (hs : a.eval s = v) (hown : w.ownsRow base 67 5 v n (ev xs)) (src : Addr) (y : Ent) (hx : a.eval x = .slice (some src) 1 1) (hb : EntsAt w (some src) [y])
    (hsm : (n + 1) * 48 ≤ 140737488355328) (hbase : base ≤ w.heap.size) (H : Nat) (hH : w.heap.size = H) (h : ∀ q cap w', w'.ownsRow base 67 5 (.slice (some ⟨q, 0, none⟩) (n + 1) cap) (n + 1) (ev xs ++ ev [y]) → w.grownBy w' v.ownBlock → (v.ownBlock = some q ∨ q = H) → wpList Try.prog ops Q rest (a.put o.dst (.slice (some ⟨q, 0, none⟩) (n + 1) cap)) w') :
    wpList Try.prog ops Q (o :: rest) a w := by
  obtain ⟨i0, hi, hz0, hz1, hz2⟩ := info_parts infoE
  refine wpList_plain hgd fun K hK => wp_append_lies w s x 29 ho base 67 i0 (.agg #[.int .i64 0, .string ⟨#[]⟩, .int .i64 0, .int .i64 0, .int .i64 0]) 5 48 Try.underlying29 hi hz0 hz1 hz2 rfl (by decide) v n (ev xs) hs hown src 1 1 (ev [y]) hx rfl (hb src rfl) (ev_one _) (by omega) (by unfold maxLen; omega) hsm hbase H hH ?_
  intro q cap w' h1 h2 h3 h4
  exact hK _ _ (h q cap w' h1 h2 h3)

set_option maxHeartbeats 3200000 in
set_option maxRecDepth 100000 in
theorem kgput_any (w : World) (B g m N : Nat) (v : Value) (D : DataW Unit) (l : List Ent) (h : GrR w B g m v N D l) (x : Ent) (hl : l.length ≤ 10000) (hB : B ≤ w.heap.size) :
    Calls Try.prog 71 #[.pointer (some ⟨g, 0, none⟩), entV x] w fun e w' => e = .returned (.int .i64 (l.length : Int)) ∧ Put1 w B g m v N D l x w' := by
  have b0 : Below w.heap.size w (w.alloc (.cells #[.int .i64 x.tag, .string ⟨x.text.toArray⟩, .int .i64 x.n, .int .i64 x.a, .int .i64 x.b] 67)) := (Below.refl _ _).alloc (Nat.le_refl _) _
  have hl0 := heap_alloc_last w (.cells #[.int .i64 x.tag, .string ⟨x.text.toArray⟩, .int .i64 x.n, .int .i64 x.a, .int .i64 x.b] 67)
  have h0 := h.below b0
  have c0 := h0.c0
  have fz := h0.fz 0
  have glt := h.glt
  obtain ⟨a, c, rfl⟩ := own5_form h.row
  obtain ⟨d0, d1, d2, d3, d4⟩ := entC hl0
  unfold entV
  have ne0 : ¬ g = w.heap.size := by omega
  have ne0' : ¬ w.heap.size = g := by omega
  have HG0 := hide h0
  have HL0 := hide hl0
  have B0 := hide b0
  have HG := hide h
  clear b0 hl0 h0 h
  go_enter Try.func71, Try.ntmps71
  go_wp2
  generalize w.alloc (.cells #[.int .i64 x.tag, .string ⟨x.text.toArray⟩, .int .i64 x.n, .int .i64 x.a, .int .i64 x.b] 67) = w0 at *
  have own0 := (unhide HG0).row
  have hsz0 : B ≤ w0.heap.size := Nat.le_trans hB (unhide B0).size
  have KF : Hid (∀ W, Below w0.heap.size w0 W → Below w.heap.size w W) := fun W f => (unhide B0).trans (f.mono (unhide B0).size)
  have hw0 : w.heap.size + 1 ≤ w0.heap.size := lt_of_heap (unhide HL0)
  have cA : ∀ X, (w0.alloc X).cell? ⟨g, 0, none⟩ = some (.slice a l.length c) := fun X => cell_alloc c0 X
  have dA0 : ∀ X, (w0.alloc X).cell? ⟨w.heap.size, 0, none⟩ = some (.int .i64 x.tag) := fun X => cell_alloc d0 X
  have HN : Hid (∀ W, Calls Try.prog 54 #[.int .i64 x.tag] W fun e w' => e = .returned (.int .i64 (if x.tag = 5 then 2 else 1)) ∧ w' = W) := fun W => knumbers_any W x.tag
  go_region_law (first
    | (refine stepE_lies rfl (.tmp 15) (.tmp 17) rfl B _ l.length l (by rfl) (by first | exact own0.alloc _ | exact (own0.alloc _).drew) _ x (by rfl) (by exact es_of_block (heap_alloc_last _ _)) (by omega) (by first | exact Nat.le_trans hsz0 (by simp) | exact hsz0) _ rfl ?_; intro q7 cap7 w7 o7 g7 hat7; have P7 := hide (put_step (unhide HG) hB (unhide KF _ (by repeat (first | exact Below.refl _ _ | refine Below.drew ?_ | refine Below.alloc ?_ (by first | exact Nat.le_refl _ | (simp; done)) _))) o7 g7 hat7 (by simp; omega)); obtain ⟨kg7, fz7⟩ := put_old (unhide HG) (unhide KF _ (by repeat (first | exact Below.refl _ _ | refine Below.drew ?_ | refine Below.alloc ?_ (by first | exact Nat.le_refl _ | (simp; done)) _))) g7; have X7 := hide (put_box (unhide HG) (unhide HL0) (by repeat (first | exact Below.refl _ _ | refine Below.drew ?_ | refine Below.alloc ?_ (by first | exact Nat.le_refl _ | (simp; done)) _)) g7)))
  all_goals
    obtain ⟨p8, hat8, fr8⟩ := unhide P7
    have hx8 : (w7.setCell ⟨g, 0, none⟩ (.slice (some ⟨q7, 0, none⟩) (l.length + 1) cap7)).heap[w.heap.size]? = _ := (Below.heap_setCell _ _ _ _ ne0').trans (unhide X7)
    generalize w7.setCell ⟨g, 0, none⟩ (.slice (some ⟨q7, 0, none⟩) (l.length + 1) cap7) = w8 at *
    obtain ⟨k0, _, _, _, _⟩ := entC hx8
    have c8 := p8.c0
    have z8 := p8.fz 0
    have HX8 := hide hx8
    have HP8 := hide p8
    have HF8 := hide fr8
    have HA8 := hide hat8
    clear P7 X7 kg7 fz7 hat7 g7 o7 p8 hat8 fr8 hx8 cA dA0 d0 d1 d2 d3 d4 c0 fz own0 KF HL0 HG0
    by_cases h5 : x.tag = 5
    · have hw5 : withE l x = l ++ [x] ++ [ent0] := by unfold withE; rw [if_pos h5]; simp
      have HW5 := hide hw5
      rw [h5] at HN k0
      clear hw5
      go_wp2_with fail
      refine (unhide HN w8).mono ?_
      rintro e w9 ⟨rfl, e0⟩
      have e0' := e0.symm
      clear e0
      subst e0'
      have own9 := (unhide HP8).row.alloc (.cells (ev [ent0]).toArray 67)
      have b9 : Below w8.heap.size w8 (w8.alloc (.cells (ev [ent0]).toArray 67)) := (Below.refl _ _).alloc (Nat.le_refl _) _
      have hs8 : B ≤ w8.heap.size := Nat.le_trans hB (unhide HF8).below.size
      have hl8 : (l ++ [x]).length = l.length + 1 := by simp
      rw [hl8] at own9
      have src9 : EntsAt (w8.alloc (.cells (ev [ent0]).toArray 67)) (some ⟨w8.heap.size, 0, none⟩) [ent0] := es_of_block (heap_alloc_last _ _)
      go_wp2_with (at_builtin; refine listE_lies rfl _ _ rfl B _ (l.length + 1) (l ++ [x]) rfl (by exact own9) ⟨w8.heap.size, 0, none⟩ ent0 rfl (by exact src9) (by omega) (Nat.le_trans hs8 (by simp)) _ rfl ?_)
      intro q9 cap9 w9 o9 g9 hat9
      have P10 := put_step (x := ent0) (cap := cap9) (unhide HP8) hs8 b9 (by rw [hl8]; exact o9) g9 hat9 (by simp)
      obtain ⟨kg9, fz9⟩ := put_old (unhide HP8) b9 g9
      have Q10 := hide P10
      clear P10 own9 b9 src9 o9 g9 hat9
      go_wp2
      go_ret
      obtain ⟨p10, hat10, fr10⟩ := unhide Q10
      rw [hl8] at p10 hat10 fr10
      refine ⟨rfl, _, by rw [unhide HW5]; exact p10, ?_, fr6_trans (unhide HF8) fr10 (fun k hk => ?_)⟩
      · rcases hat10 with e | e
        · rw [e]
          exact unhide HA8
        · exact .inr (fun k hk => Nat.le_trans (unhide HF8).below.size (e k hk))
      · rcases hk with e | e | e
        · exact .inl (.inl e)
        · exact .inl (.inr (.inl e))
        · rcases unhide HA8 with e1 | e1
          · rw [e1] at e
            exact .inl (.inr (.inr e))
          · exact .inr (e1 k e)
    · have hw5 : withE l x = l ++ [x] := by unfold withE; rw [if_neg h5]
      have HW5 := hide hw5
      rw [if_neg h5] at HN
      clear hw5 h5
      go_wp2_with fail
      refine (unhide HN w8).mono ?_
      rintro e w9 ⟨rfl, e0⟩
      have e0' := e0.symm
      clear e0
      subst e0'
      go_wp2
      go_ret
      exact ⟨rfl, _, by rw [unhide HW5]; exact unhide HP8, unhide HA8, unhide HF8⟩

end Go.Proofs.Ytjpimcglojneaaa

/- The landed pool: a pool that grows: text. -/
namespace Go.Proofs.Ytjpimcglojneaaa
open Go.RowKit Go.Maps
set_option linter.unusedVariables false

theorem klaw : Keyed Try.prog 9 := string_keyed Try.underlying9
theorem kzero (w : World) : (zeroValue 3).run Try.prog w = .ok (.int .i64 0) w := by kernel_rfl
theorem kkey {s : List UInt8} (h : s.length ≤ 140737488355328) : keyOf Try.prog 9 (.string ⟨s.toArray⟩) = some (.string s) := by
  have := WideMaps.keyOf_string_mk (P := Try.prog) (s := ⟨s.toArray⟩) Try.underlying9 (by unfold maxLen; simp [ByteArray.size]; omega)
  simpa using this

theorem int_wf {n : Int} (h : -9223372036854775808 ≤ n ∧ n ≤ 9223372036854775807) : (Lit.int .i64 n).wf = true := by
  have h1 := wrap64_wf n
  have h2 : wrap64 n = n := by unfold wrap64; omega
  rw [h2] at h1
  exact h1

/-- What a step of a growing pool leaves. -/
def GrTo (w : World) (B g m : Nat) (v : Value) (L : List Ent) (w' : World) : Prop :=
  ∃ v' N' D', GrR w' B g m v' N' D' L ∧ TX L L.length D' ∧ (v'.ownBlock = v.ownBlock ∨ ∀ k, v'.ownBlock = some k → w.heap.size ≤ k) ∧ Fr6 (fun k => k = g ∨ k = m ∨ v.ownBlock = some k) B w w'
theorem GrTo.refl {w : World} {B g m N : Nat} {v : Value} {D : DataW Unit} {l : List Ent} (h : GrR w B g m v N D l) (tx : TX l l.length D) : GrTo w B g m v l w := ⟨v, N, D, h, tx, .inl rfl, Below.refl _ _, fun _ _ _ => rfl⟩
theorem grTo_trans {w w1 w2 : World} {B g m : Nat} {v v1 : Value} {L : List Ent} (f : Fr6 (fun k => k = g ∨ k = m ∨ v.ownBlock = some k) B w w1) (hv : v1.ownBlock = v.ownBlock ∨ ∀ k, v1.ownBlock = some k → w.heap.size ≤ k) (h : GrTo w1 B g m v1 L w2) : GrTo w B g m v L w2 := by
  obtain ⟨v', N', D', h1, h2, h3, h4⟩ := h
  refine ⟨v', N', D', h1, h2, ?_, fr6_trans f h4 (fun k hk => ?_)⟩
  · rcases h3 with e | e
    · rw [e]
      exact hv
    · exact .inr (fun k hk => Nat.le_trans f.below.size (e k hk))
  · rcases hk with e | e | e
    · exact .inl (.inl e)
    · exact .inl (.inr (.inl e))
    · rcases hv with e1 | e1
      · rw [e1] at e
        exact .inl (.inr (.inr e))
      · exact .inr (e1 k e)
/-- Behind a step that turns nothing that was there. -/
theorem grTo_below {w w0 w2 : World} {B g m : Nat} {v : Value} {L : List Ent} (f : Below w.heap.size w w0) (hB : B ≤ w.heap.size) (h : GrTo w0 B g m v L w2) : GrTo w B g m v L w2 := grTo_trans (Fr6.of_below f hB) (.inl rfl) h

set_option maxHeartbeats 1600000 in
theorem kgtext_any (w : World) (B g m N : Nat) (v : Value) (D : DataW Unit) (l : List Ent) (h : GrR w B g m v N D l) (tx : TX l l.length D) (h0 : l[0]? = some ent0) (s : List UInt8) (hs : s.length ≤ 140737488355328) (hl : l.length ≤ 10000) (hB : B ≤ w.heap.size) :
    Calls Try.prog 70 #[.pointer (some ⟨g, 0, none⟩), .string ⟨s.toArray⟩] w fun e w' => e = .returned (.int .i64 ((addE l (eUtf s)).2 : Int)) ∧ GrTo w B g m v (addE l (eUtf s)).1 w' := by
  have c1 := h.c1
  have hkey := kkey hs
  obtain ⟨hno, hyes⟩ := tx.find h0 s
  cases hh : has D (.string s)
  case true =>
    obtain ⟨hat, hf⟩ := hyes hh
    have e1 : Hid (addE l (eUtf s) = (l, findE l (eUtf s))) := if_neg hf
    have HG := hide (GrTo.refl h tx)
    have hown := h.map
    generalize (⟨s.toArray⟩ : ByteArray) = st at *
    clear h tx hno hyes hf
    go_enter Try.func70, Try.ntmps70
    go_wp2_with (first
      | (at_lookup; refine wpList_lookup_own_ok_int _ rfl _ _ 83 rfl 9 3 .i64 klaw Try.underlying83 Try.underlying3 (kzero _) m N D rfl hown _ _ rfl hkey ?_; intro cc hcc hwc; rw [hat] at hcc; injection hcc with hcc; injection hcc with _ hcc; subst hcc; rw [hh])
      | go_in)
    go_ret
    rw [unhide e1]
    exact ⟨rfl, unhide HG⟩
  case false =>
    have hf := hno hh
    have hw : withE l (eUtf s) = l ++ [eUtf s] := rfl
    have e1 : addE l (eUtf s) = (l ++ [eUtf s], l.length) := if_pos hf
    rw [e1]
    have HP := hide (kgput_any w B g m N v D l h (eUtf s) hl hB)
    have HT := hide (tx.text (s0 := s) h.map.isMap hh)
    have hown := h.map
    have hN := h.room
    clear h tx hno hyes hf e1
    unfold entV at HP
    have HS : Hid ((⟨s.toArray⟩ : ByteArray) = ⟨s.toArray⟩) := rfl
    go_enter Try.func70, Try.ntmps70
    go_wp2_with (first
      | (at_lookup; refine wpList_lookup_own_ok_int _ rfl _ _ 83 rfl 9 3 .i64 klaw Try.underlying83 Try.underlying3 (kzero _) m N D rfl hown _ _ rfl hkey ?_; intro cc hcc hwc; clear hcc; rw [hh])
      | fail)
    refine (unhide HP).mono ?_
    rintro e w1 ⟨rfl, v1, p1, hv1, f1⟩
    rw [hw] at p1
    have c11 := p1.c1
    have hown1 := p1.map
    have hN1 : N < maxLen := by unfold maxLen; omega
    have P1 := hide p1
    have F1 := hide f1
    have V1 := hide hv1
    clear p1 f1 hv1 HP c1 hown hw HS
    have hval := plainElem_int (H := Unit) (P := Try.prog) Try.underlying3 (a := (l.length : Int)) (q := .i64) (int_wf (by omega))
    go_wp2_with (first
      | (at_mapUpdate; refine wpList_mapUpdate_own _ rfl _ _ _ 83 rfl 9 3 klaw Try.underlying83 _ m N D rfl hown1 hN1 _ _ _ rfl rfl hkey _ [] hval ?_)
      | fail)
    intro w2 hown2 hg2
    have hb2 : ∀ k, k < w1.heap.size → k ≠ m → w2.heap[k]? = w1.heap[k]? := fun k hk hkm => hg2.block k hk (fun e => hkm (by injection e))
    have Q2 : Hid (GrTo w B g m v (l ++ [eUtf s]) w2) := by
      have p1 := unhide P1
      refine grTo_trans (unhide F1) (unhide V1) ⟨v1, N + 1, _, ⟨p1.hg, p1.hm, p1.gm, p1.vg, p1.vm, (hb2 g p1.glt p1.gm).trans p1.blk, ?_, hown2, by simp; omega⟩, unhide HT, .inl rfl, ?_, fun k hk hF => hb2 k hk (fun e => hF (.inr (.inl e)))⟩
      · refine own_of_block p1.row (fun k hk => hb2 k (p1.row.lt k hk).2 (fun e => ?_))
        subst e
        exact p1.vm hk
      · exact (Below.refl B w1).grown hg2 (Nat.le_trans hB (unhide F1).below.size) (fun k hk => by injection hk with hk; subst hk; exact p1.hm)
    clear hown2 hg2 hb2 P1 F1 V1 HT hown1 c11
    go_wp2
    go_ret
    exact ⟨rfl, unhide Q2⟩

end Go.Proofs.Ytjpimcglojneaaa

/- The landed pool: a pool that grows: what stands between the steps of number. -/
namespace Go.Proofs.Ytjpimcglojneaaa
open Go.RowKit Go.Maps
set_option linter.unusedVariables false

theorem put_to {w w' : World} {B g m N : Nat} {v : Value} {D : DataW Unit} {l : List Ent} {x : Ent} (h : Put1 w B g m v N D l x w') (tx : TX l l.length D) (hx : x.tag ≠ 1) : GrTo w B g m v (withE l x) w' := by
  obtain ⟨v', h1, h2, h3⟩ := h
  refine ⟨v', N, D, h1, ?_, h2, h3⟩
  have hu : ∀ s, eUtf s ≠ x := fun s e => hx (by rw [← e]; rfl)
  have h0 : ∀ s, eUtf s ≠ ent0 := fun s e => by
    have := congrArg Ent.tag e
    simp [eUtf, ent0] at this
  have := tx.more (e := if x.tag = 5 then [x, ent0] else [x]) (fun s hs => by
    split at hs
    · simp at hs
      rcases hs with e | e
      · exact hu s e
      · exact h0 s e
    · simp at hs
      exact hu s hs)
  rw [← withE_eq] at this
  exact this

/-- What lies beside a growing pool while number runs. -/
structure Beside (w : World) (h4 B g m : Nat) (v : Value) (C X : Nat) : Prop where
  hB : B ≤ w.heap.size
  g : g < w.heap.size
  m : m < w.heap.size
  v : ∀ k, v.ownBlock = some k → k < w.heap.size
  c1 : w.heap.size ≤ C
  c2 : C < h4
  x1 : w.heap.size ≤ X
  x2 : X < h4
  ne : X ≠ C
structure NS (w : World) (h4 B g m : Nat) (v : Value) (C X : Nat) (cs xs : Array Value) (v1 : Value) (N1 : Nat) (D1 : DataW Unit) (L : List Ent) (W : World) : Prop where
  gr : GrR W B g m v1 N1 D1 L
  tx : TX L L.length D1
  own : v1.ownBlock = v.ownBlock ∨ ∀ k, v1.ownBlock = some k → h4 ≤ k
  fr : Fr6 (fun k => k = g ∨ k = m ∨ v.ownBlock = some k) B w W
  cb : W.heap[C]? = some (.cells cs 50 (0, 0))
  xb : W.heap[X]? = some (.cells xs 67 (0, 0))
  h4 : h4 ≤ W.heap.size
theorem NS.out {w W : World} {h4 B g m C X N1 : Nat} {v v1 : Value} {cs xs : Array Value} {D1 : DataW Unit} {L : List Ent} (b : Beside w h4 B g m v C X) (h : NS w h4 B g m v C X cs xs v1 N1 D1 L W) {k : Nat} (hk : k = C ∨ k = X) : ¬ (k = g ∨ k = m ∨ v1.ownBlock = some k) := by
  have hkw : w.heap.size ≤ k := by
    rcases hk with rfl | rfl
    · exact b.c1
    · exact b.x1
  have hk4 : k < h4 := by
    rcases hk with rfl | rfl
    · exact b.c2
    · exact b.x2
  have b1 := b.g
  have b2 := b.m
  rintro (e | e | e)
  · omega
  · omega
  · rcases h.own with e1 | e1
    · rw [e1] at e
      have := b.v k e
      omega
    · have := e1 k e
      omega
theorem NS.call {w W W2 : World} {h4 B g m C X N1 : Nat} {v v1 : Value} {cs xs : Array Value} {D1 : DataW Unit} {L L2 : List Ent} (b : Beside w h4 B g m v C X) (h : NS w h4 B g m v C X cs xs v1 N1 D1 L W) (c : GrTo W B g m v1 L2 W2) :
    ∃ v2 N2 D2, NS w h4 B g m v C X cs xs v2 N2 D2 L2 W2 := by
  obtain ⟨v2, N2, D2, g2, t2, o2, f2⟩ := c
  refine ⟨v2, N2, D2, g2, t2, ?_, fr6_trans h.fr f2 (fun k hk => ?_), ?_, ?_, Nat.le_trans h.h4 f2.below.size⟩
  · rcases o2 with e | e
    · rw [e]
      exact h.own
    · exact .inr (fun k hk => Nat.le_trans h.h4 (e k hk))
  · rcases hk with e | e | e
    · exact .inl (.inl e)
    · exact .inl (.inr (.inl e))
    · rcases h.own with e1 | e1
      · rw [e1] at e
        exact .inl (.inr (.inr e))
      · have := e1 k e
        have := b.c1
        have := b.c2
        exact .inr (by omega)
  · exact (f2.other C (Nat.lt_of_lt_of_le b.c2 h.h4) (h.out b (.inl rfl))).trans h.cb
  · exact (f2.other X (Nat.lt_of_lt_of_le b.x2 h.h4) (h.out b (.inr rfl))).trans h.xb
theorem NS.below {w W W2 : World} {h4 B g m C X N1 : Nat} {v v1 : Value} {cs xs : Array Value} {D1 : DataW Unit} {L : List Ent} (b : Beside w h4 B g m v C X) (h : NS w h4 B g m v C X cs xs v1 N1 D1 L W) (f : Below W.heap.size W W2) : NS w h4 B g m v C X cs xs v1 N1 D1 L W2 :=
  ⟨h.gr.below f, h.tx, h.own, fr6_trans (F1 := fun _ => False) h.fr (Fr6.of_below f (Nat.le_trans b.hB h.fr.below.size)) (fun k hk => hk.elim), (f.block C (Nat.lt_of_lt_of_le b.c2 h.h4)).trans h.cb, (f.block X (Nat.lt_of_lt_of_le b.x2 h.h4)).trans h.xb, Nat.le_trans h.h4 f.size⟩
theorem NS.set {w W : World} {h4 B g m C X N1 : Nat} {v v1 : Value} {cs xs : Array Value} {D1 : DataW Unit} {L : List Ent} (b : Beside w h4 B g m v C X) (h : NS w h4 B g m v C X cs xs v1 N1 D1 L W) (j : Nat) (u : Value) (ys : Array Value) (hy : xs.setIfInBounds j u = ys) :
    NS w h4 B g m v C X cs ys v1 N1 D1 L (W.setCell ⟨X, j, none⟩ u) := by
  have hset : ∀ k, k ≠ X → (W.setCell ⟨X, j, none⟩ u).heap[k]? = W.heap[k]? := fun k hk => Below.heap_setCell _ _ _ _ hk
  have ho := h.out b (k := X) (.inr rfl)
  refine ⟨h.gr.keep (fun k hk => hset k (fun e => ho (e ▸ hk))), h.tx, h.own, ⟨h.fr.below.setCell (p := ⟨X, j, none⟩) (Nat.le_trans b.hB b.x1) _, fun k hk hF => (hset k (by have := b.x1; omega)).trans (h.fr.other k hk hF)⟩, (hset C b.ne.symm).trans h.cb, ?_, by simpa using h.h4⟩
  rw [← hy]
  exact heap_setCell_same W X j _ _ u h.xb
theorem NS.done {w W : World} {h4 B g m C X N1 : Nat} {v v1 : Value} {cs xs : Array Value} {D1 : DataW Unit} {L : List Ent} (b : Beside w h4 B g m v C X) (h : NS w h4 B g m v C X cs xs v1 N1 D1 L W) : GrTo w B g m v L W :=
  ⟨v1, N1, D1, h.gr, h.tx, h.own.imp id (fun e k hk => by have := e k hk; have := b.c1; have := b.c2; omega), h.fr⟩

end Go.Proofs.Ytjpimcglojneaaa

/- The landed pool: a pool that grows: number, of a class, of a name, of a number. -/
namespace Go.Proofs.Ytjpimcglojneaaa
open Go.RowKit Go.Maps
set_option linter.unusedVariables false

theorem kaddE_len (l : List Ent) (x : Ent) : (addE l x).1.length ≤ l.length + 2 := by
  unfold addE
  split
  · show (withE l x).length ≤ _
    rw [withE_eq, List.length_append]
    split <;> simp
  · show l.length ≤ _
    omega
theorem addE_zero {l : List Ent} (x : Ent) (h : l[0]? = some ent0) : (addE l x).1[0]? = some ent0 := by
  unfold addE
  split
  · show (withE l x)[0]? = _
    rw [withE_eq, List.getElem?_append_left (by have := (List.getElem?_eq_some_iff.1 h).1; exact this)]
    exact h
  · exact h

set_option maxHeartbeats 12800000 in
set_option maxRecDepth 100000 in
theorem knumber_class (w : World) (B g m N : Nat) (v : Value) (D : DataW Unit) (l : List Ent) (h : GrR w B g m v N D l) (tx : TX l l.length D) (hr : rightL l) (s : List UInt8) (hs : s.length ≤ 140737488355328) (hl : l.length ≤ 2000) (hB : B ≤ w.heap.size) :
    Calls Try.prog 49 #[.pointer (some ⟨g, 0, none⟩), cstV ⟨7, 0, s, ([] : List UInt8), ([] : List UInt8)⟩] w fun e w' => e = .returned (.int .i64 ((clsK l s).2 : Int)) ∧ GrTo w B g m v (clsK l s).1 w' := by
  have hlen := right_len hr
  have HM : Hid (∀ W a n c x, Es W a n l → n ≤ 140737488351232 → (x.tag = 0 ∨ okE l x = true) → Calls Try.prog 45 #[.slice a n c, entV x] W fun e w' => e = .returned (cstV (meanN l x)) ∧ Below W.heap.size W w') := fun W a n c x hE hn hx => kmeaning_any W a n c l hE hr x hx hn
  have HCC : Hid (∀ W x, (binOp .eql 50 (cstV (meanN l x)) (cstV ⟨7, 0, s, ([] : List UInt8), ([] : List UInt8)⟩)).run Try.prog W = .ok (.bool (decide (meanN l x = ⟨7, 0, s, ([] : List UInt8), ([] : List UInt8)⟩))) W) := fun W x => cst_cmp W _ _
  have HFOUND : Hid (∀ k : Nat, k < l.length → meanN l (atE l (k : Int)) = ⟨7, 0, s, ([] : List UInt8), ([] : List UInt8)⟩ → (∀ j : Nat, j < k → meanN l (atE l (j : Int)) ≠ ⟨7, 0, s, ([] : List UInt8), ([] : List UInt8)⟩) → firstN l ⟨7, 0, s, ([] : List UInt8), ([] : List UInt8)⟩ = k ∧ clsK l s = (l, k)) := fun k hk h1 h2 => by
    have hk1 : 1 ≤ k := by
      cases k with
      | zero =>
        have e0 : atE l ((0 : Nat) : Int) = ent0 := by rw [atE_nat, hr.1]; rfl
        have := congrArg Cst.tag h1
        rw [meanN_tag, e0] at this
        simp [ent0] at this
      | succ k => omega
    have e := firstN_eq hk1 hk h1 (fun j hj hjk => h2 j hjk)
    refine ⟨e, ?_⟩
    unfold clsK cCls
    rw [e, if_neg (by omega)]
  have HNONE : Hid ((∀ j : Nat, j < l.length → meanN l (atE l (j : Int)) ≠ ⟨7, 0, s, ([] : List UInt8), ([] : List UInt8)⟩) → firstN l ⟨7, 0, s, ([] : List UInt8), ([] : List UInt8)⟩ = 0) := fun h1 => by
    by_cases e : firstN l ⟨7, 0, s, ([] : List UInt8), ([] : List UInt8)⟩ = 0
    · exact e
    · obtain ⟨_, e2, e3⟩ := firstN_some e
      exact absurd e3 (h1 _ e2)
  have b0 : Below w.heap.size w (w.alloc (.cells #[.int .i64 7, .int .i64 0, .string ⟨s.toArray⟩, .string ⟨([] : List UInt8).toArray⟩, .string ⟨([] : List UInt8).toArray⟩] 50)) := (Below.refl _ _).alloc (Nat.le_refl _) _
  have hc0 := heap_alloc_last w (.cells #[.int .i64 7, .int .i64 0, .string ⟨s.toArray⟩, .string ⟨([] : List UInt8).toArray⟩, .string ⟨([] : List UInt8).toArray⟩] 50)
  have h0 := h.below b0
  obtain ⟨a, c, rfl⟩ := own5_form h.row
  have c0 := h0.c0
  have HMK : Hid (∀ W, Below w.heap.size w W → GrR W B g m (.slice a l.length c) N D l) := fun W f => h.below f
  have HTX := hide tx
  have BS : Hid (g < w.heap.size ∧ m < w.heap.size ∧ ∀ k, (Value.slice a l.length c).ownBlock = some k → k < w.heap.size) := ⟨h.glt, h.map.lt, fun k hk => (h.row.lt k hk).2⟩
  have hgne : ¬ g = w.heap.size := by have := h.glt; omega
  unfold cstV
  simp only
  have HRT := hide hr
  have HC0 := hide hc0
  have B0 := hide b0
  clear b0 hc0 h0 h tx hr
  generalize hz1 : (⟨s.toArray⟩ : ByteArray) = z1 at *
  have HZ1 := hide hz1
  clear hz1
  go_enter Try.func49, Try.ntmps49
  go_wp2
  generalize w.alloc (.cells #[.int .i64 7, .int .i64 0, .string z1, .string ⟨#[]⟩, .string ⟨#[]⟩] 50) = w0 at *
  go_loopw [13] (fun i wr => ∃ k : Nat, k ≤ l.length ∧ i = .int .i64 k ∧ (∀ j : Nat, j < k → meanN l (atE l (j : Int)) ≠ ⟨7, 0, s, ([] : List UInt8), ([] : List UInt8)⟩) ∧ Below w0.heap.size w0 wr) (fun i _ => l.length - (intOf i).toNat)
  case atStart => exact ⟨0, by omega, rfl, fun j hj => by omega, Below.refl _ _⟩
  case round =>
    obtain ⟨k, hk, rfl, hall, hBl⟩ := hrel
    have HALL := hide hall
    have FW : Hid (Below w.heap.size w wr) := (unhide B0).trans (hBl.mono (unhide B0).size)
    have HBL := hide hBl
    have hcr : wr.heap[w.heap.size]? = some (.cells #[.int .i64 7, .int .i64 0, .string z1, .string ⟨#[]⟩, .string ⟨#[]⟩] 50 (0, 0)) := (hBl.block w.heap.size (lt_of_heap (unhide HC0))).trans (unhide HC0)
    have HCR := hide hcr
    have hszr : w.heap.size + 1 ≤ wr.heap.size := lt_of_heap hcr
    clear hall hBl hcr
    by_cases hlt : k < l.length
    · have hlt1 : (k : Int) < (l.length : Int) := by omega
      have gr := unhide HMK wr (unhide FW)
      have es := es_of_own gr.row
      obtain ⟨b, o, rfl, hE⟩ := es.2.resolve_left (by omega)
      obtain ⟨q0, q1, q2, q3, q4⟩ := ents_at hE hlt
      have HX2 : Hid (∀ W, Below wr.heap.size wr W → Calls Try.prog 45 #[.slice (some ⟨b, o, none⟩) l.length c, entV (atE l (k : Int))] W fun e w' => e = .returned (cstV (meanN l (atE l (k : Int)))) ∧ Below W.heap.size W w') := fun W f => unhide HM W _ _ _ _ (es.below f) (by omega) (right_or (unhide HRT) _)
      have HJ := hide (fun W => unhide HCC W (atE l (k : Int)))
      have HD : Hid (∀ X, decide (meanN l (atE l (k : Int)) = ⟨7, 0, s, ([] : List UInt8), ([] : List UInt8)⟩) = X → (X = true → firstN l ⟨7, 0, s, ([] : List UInt8), ([] : List UInt8)⟩ = k ∧ clsK l s = (l, k)) ∧ (X = false → ∀ j : Nat, j < k + 1 → meanN l (atE l (j : Int)) ≠ ⟨7, 0, s, ([] : List UInt8), ([] : List UInt8)⟩)) := fun X hX => by
        constructor
        · intro e
          rw [e] at hX
          exact unhide HFOUND k hlt (by simpa using hX) (unhide HALL)
        · intro e j hj
          rw [e] at hX
          by_cases ejk : j = k
          · subst ejk
            simpa using hX
          · exact unhide HALL j (by omega)
      obtain ⟨dd, hdd⟩ : ∃ dd, decide (meanN l (atE l (k : Int)) = ⟨7, 0, s, ([] : List UInt8), ([] : List UInt8)⟩) = dd := ⟨_, rfl⟩
      have HD1 := hide (unhide HD dd hdd)
      have J2 := unhide HJ
      rw [hdd] at J2
      generalize hmm : meanN l (atE l (k : Int)) = mm at *
      generalize atE l (k : Int) = xx at *
      obtain ⟨xt, xtx, xn, xa, xb⟩ := xx
      obtain ⟨mt, mn, m1, m2, m3⟩ := mm
      unfold entV cstV at *
      simp only at q0 q1 q2 q3 q4 J2 HX2
      simp only [unhide HZ1] at J2
      generalize (⟨xtx.toArray⟩ : ByteArray) = xs at *
      generalize (⟨m1.toArray⟩ : ByteArray) = y1 at *
      generalize (⟨m2.toArray⟩ : ByteArray) = y2 at *
      generalize (⟨m3.toArray⟩ : ByteArray) = y3 at *
      have g0 := gr.c0
      have hgr : g < wr.heap.size := gr.glt
      have GR := hide gr
      clear HJ HD HM HCC hmm hdd gr es hE HFOUND HNONE c0
      go_wp2
      have hb1 : Below wr.heap.size wr (wr.alloc (.cells #[.int .i64 xt, .string xs, .int .i64 xn, .int .i64 xa, .int .i64 xb] 67)) := (Below.refl _ _).alloc (Nat.le_refl _) _
      have hx1 := heap_alloc_last wr (.cells #[.int .i64 xt, .string xs, .int .i64 xn, .int .i64 xa, .int .i64 xb] 67)
      obtain ⟨SS, hSS⟩ : ∃ SS : World → Prop, SS = fun W => Below wr.heap.size wr W ∧ W.heap[wr.heap.size]? = some (.cells #[.int .i64 xt, .string xs, .int .i64 xn, .int .i64 xa, .int .i64 xb] 67 (0, 0)) := ⟨_, rfl⟩
      have KI : Hid (SS (wr.alloc (.cells #[.int .i64 xt, .string xs, .int .i64 xn, .int .i64 xa, .int .i64 xb] 67)).drew) := by
        show SS _
        rw [hSS]
        exact ⟨hb1.drew, hx1⟩
      have KW : Hid (∀ W, SS W → Below wr.heap.size wr W) := fun W h => by
        rw [hSS] at h
        exact h.1
      have KE : Hid (∀ W, SS W → W.cell? ⟨g, 0, none⟩ = some (.slice (some ⟨b, o, none⟩) l.length c) ∧ (W.cell? ⟨wr.heap.size, 0, none⟩ = some (.int .i64 xt) ∧ W.cell? ⟨wr.heap.size, 1, none⟩ = some (.string xs) ∧ W.cell? ⟨wr.heap.size, 2, none⟩ = some (.int .i64 xn) ∧ W.cell? ⟨wr.heap.size, 3, none⟩ = some (.int .i64 xa) ∧ W.cell? ⟨wr.heap.size, 4, none⟩ = some (.int .i64 xb)) ∧ (W.cell? ⟨w.heap.size, 0, none⟩ = some (.int .i64 7) ∧ W.cell? ⟨w.heap.size, 1, none⟩ = some (.int .i64 0) ∧ W.cell? ⟨w.heap.size, 2, none⟩ = some (.string z1) ∧ W.cell? ⟨w.heap.size, 3, none⟩ = some (.string ⟨#[]⟩) ∧ W.cell? ⟨w.heap.size, 4, none⟩ = some (.string ⟨#[]⟩))) := fun W h => by
        rw [hSS] at h
        have hc := (h.1.block w.heap.size hszr).trans (unhide HCR)
        have hx := h.2
        exact ⟨((unhide GR).below h.1).c0, ⟨by rw [cell_of_row _ _ _ _ _ _ hx]; rfl, by rw [cell_of_row _ _ _ _ _ _ hx]; rfl, by rw [cell_of_row _ _ _ _ _ _ hx]; rfl, by rw [cell_of_row _ _ _ _ _ _ hx]; rfl, by rw [cell_of_row _ _ _ _ _ _ hx]; rfl⟩, ⟨by rw [cell_of_row _ _ _ _ _ _ hc]; rfl, by rw [cell_of_row _ _ _ _ _ _ hc]; rfl, by rw [cell_of_row _ _ _ _ _ _ hc]; rfl, by rw [cell_of_row _ _ _ _ _ _ hc]; rfl, by rw [cell_of_row _ _ _ _ _ _ hc]; rfl⟩⟩
      have KS : Hid (∀ W W', SS W → Below W.heap.size W W' → SS W') := fun W W' h f => by
        rw [hSS] at h ⊢
        exact ⟨h.1.trans (f.mono h.1.size), (f.block _ (lt_of_heap h.2)).trans h.2⟩
      clear hSS hb1 hx1 q0 q1 q2 q3 q4 g0
      generalize wr.alloc (.cells #[.int .i64 xt, .string xs, .int .i64 xn, .int .i64 xa, .int .i64 xb] 67) = w1 at *
      refine wp_region_seq SS (by kernel_rfl) (by kernel_rfl) (unhide KI) ?_
      repeat (first
        | (refine SeqDo.yields (v := ?_) (by rfl) ?_ ?_; rotate_left; (focus ((intro W hSW; obtain ⟨p0, ⟨p1, p2, p3, p4, p5⟩, ⟨p6, p7, p8, p9, p10⟩⟩ := unhide KE W hSW; go_simp) <;> with_reducible rfl)); simp only [Act.put, List.setIfInBounds_toArray, List.set_cons_zero, List.set_cons_succ])
        | (refine SeqDo.does (v := .agg #[.int .i64 mt, .int .i64 mn, .string y1, .string y2, .string y3]) (by rfl) (fun W hSW KK hKK => ?_) ?_; (focus (go_simp; go_wp2_with (go_at_call 45; refine (unhide HX2 _ (unhide KW _ hSW)).mono ?_; rintro e W' ⟨rfl, fJ⟩); exact hKK.out _ (unhide KS _ _ hSW fJ))); simp only [Act.put, List.setIfInBounds_toArray, List.set_cons_zero, List.set_cons_succ]))
      intro W hSW
      have fW := unhide KW W hSW
      have FW2 : Hid (Below w.heap.size w W) := (unhide FW).trans (fW.mono (unhide FW).size)
      have FB2 : Hid (Below w0.heap.size w0 W) := (unhide HBL).trans (fW.mono (unhide HBL).size)
      clear fW KI KW KE KS hSW HX2 J2
      cases dd
      case true =>
        go_wp2
        go_ret
        obtain ⟨_, e2⟩ := (unhide HD1).1 (by first | rfl | trivial)
        rw [e2]
        exact ⟨rfl, grTo_below (unhide FW2) hB (GrTo.refl (unhide HMK W (unhide FW2)) (unhide HTX))⟩
      case false =>
        go_wp2
        go_roundw
        case rel => exact ⟨k + 1, by omega, by go_num, (unhide HD1).2 (by first | rfl | trivial), unhide FB2⟩
        case measure => simp [intOf]; omega
    · have hkl : ¬ (k : Int) < (l.length : Int) := by omega
      have hf := unhide HNONE (fun j hj => unhide HALL j (by omega))
      have HF := hide hf
      have gr := unhide HMK wr (unhide FW)
      have HGR := hide gr
      have c0r : wr.cell? ⟨w.heap.size, 0, none⟩ = some (.int .i64 7) := by rw [cell_of_row _ _ _ _ _ _ (unhide HCR)]; rfl
      have c1r : wr.cell? ⟨w.heap.size, 1, none⟩ = some (.int .i64 0) := by rw [cell_of_row _ _ _ _ _ _ (unhide HCR)]; rfl
      have c2r : wr.cell? ⟨w.heap.size, 2, none⟩ = some (.string z1) := by rw [cell_of_row _ _ _ _ _ _ (unhide HCR)]; rfl
      have c3r : wr.cell? ⟨w.heap.size, 3, none⟩ = some (.string ⟨#[]⟩) := by rw [cell_of_row _ _ _ _ _ _ (unhide HCR)]; rfl
      have c4r : wr.cell? ⟨w.heap.size, 4, none⟩ = some (.string ⟨#[]⟩) := by rw [cell_of_row _ _ _ _ _ _ (unhide HCR)]; rfl
      have c0s := fun X => cell_alloc c0r X
      have c1s := fun X => cell_alloc c1r X
      have c2s := fun X => cell_alloc c2r X
      have c3s := fun X => cell_alloc c3r X
      have c4s := fun X => cell_alloc c4r X
      have b4 : Below wr.heap.size wr (wr.alloc (.cells #[.int .i64 7, .string ⟨#[]⟩, .int .i64 0, .int .i64 0, .int .i64 0] 67)) := (Below.refl _ _).alloc (Nat.le_refl _) _
      have BE : Hid (Beside w (wr.heap.size + 1) B g m (.slice a l.length c) w.heap.size wr.heap.size) := ⟨hB, (unhide BS).1, (unhide BS).2.1, (unhide BS).2.2, Nat.le_refl _, by omega, by omega, by omega, by omega⟩
      have NS0 : Hid (NS w (wr.heap.size + 1) B g m (.slice a l.length c) w.heap.size wr.heap.size #[.int .i64 7, .int .i64 0, .string z1, .string ⟨#[]⟩, .string ⟨#[]⟩] #[.int .i64 7, .string ⟨#[]⟩, .int .i64 0, .int .i64 0, .int .i64 0] (.slice a l.length c) N D l (wr.alloc (.cells #[.int .i64 7, .string ⟨#[]⟩, .int .i64 0, .int .i64 0, .int .i64 0] 67))) :=
        ⟨gr.below b4, unhide HTX, .inl rfl, Fr6.of_below ((unhide FW).trans (b4.mono (unhide FW).size)) hB, (b4.block _ (by omega)).trans (unhide HCR), heap_alloc_last wr _, by simp⟩
      clear hf gr b4 HM HCC HFOUND HNONE HALL HBL HC0 B0 HMK HTX BS c0
      go_wp2_with fail
      generalize wr.alloc (.cells #[.int .i64 7, .string ⟨#[]⟩, .int .i64 0, .int .i64 0, .int .i64 0] 67) = w4 at *
      have n0 := unhide NS0
      have hB0 : B ≤ w4.heap.size := Nat.le_trans hB n0.fr.below.size
      have r0 : l[0]? = some ent0 := (unhide HRT).1
      clear NS0 c0r c1r c2r c3r c4r HGR c0s c1s c2s c3s c4s
      have hl1 := kaddE_len l (eUtf s)
      have HT := kgtext_any w4 B g m N (.slice a l.length c) D l n0.gr n0.tx r0 s hs (by omega) hB0
      rw [unhide HZ1] at HT
      refine HT.mono ?_
      rintro e w5 ⟨rfl, tw5⟩
      obtain ⟨vw5, Nw5, Dw5, n5⟩ := n0.call (unhide BE) tw5
      clear HT tw5
      have e1 : Hid (clsK l s = (withE (addE l (eUtf s)).1 ⟨7, [], 0, ((addE l (eUtf s)).2 : Int), 0⟩, (addE l (eUtf s)).1.length)) := if_pos (unhide HF)
      generalize hL : (addE l (eUtf s)).1 = L at *
      generalize hK : (addE l (eUtf s)).2 = K at *
      clear hL hK
      have xfw5 : ∀ j, w5.frozen? ⟨wr.heap.size, j, none⟩ = false := fun j => frozen_of_row _ _ _ _ _ n5.xb
      have x0w5 : w5.cell? ⟨wr.heap.size, 0, none⟩ = some (.int .i64 7) := by rw [cell_of_row _ _ _ _ _ _ n5.xb]; rfl
      have x1w5 : w5.cell? ⟨wr.heap.size, 1, none⟩ = some (.string ⟨#[]⟩) := by rw [cell_of_row _ _ _ _ _ _ n5.xb]; rfl
      have x2w5 : w5.cell? ⟨wr.heap.size, 2, none⟩ = some (.int .i64 0) := by rw [cell_of_row _ _ _ _ _ _ n5.xb]; rfl
      have x3w5 : w5.cell? ⟨wr.heap.size, 3, none⟩ = some (.int .i64 0) := by rw [cell_of_row _ _ _ _ _ _ n5.xb]; rfl
      have x4w5 : w5.cell? ⟨wr.heap.size, 4, none⟩ = some (.int .i64 0) := by rw [cell_of_row _ _ _ _ _ _ n5.xb]; rfl
      have k0w5 : w5.cell? ⟨w.heap.size, 0, none⟩ = some (.int .i64 7) := by rw [cell_of_row _ _ _ _ _ _ n5.cb]; rfl
      have k1w5 : w5.cell? ⟨w.heap.size, 1, none⟩ = some (.int .i64 0) := by rw [cell_of_row _ _ _ _ _ _ n5.cb]; rfl
      have k2w5 : w5.cell? ⟨w.heap.size, 2, none⟩ = some (.string z1) := by rw [cell_of_row _ _ _ _ _ _ n5.cb]; rfl
      have k3w5 : w5.cell? ⟨w.heap.size, 3, none⟩ = some (.string ⟨#[]⟩) := by rw [cell_of_row _ _ _ _ _ _ n5.cb]; rfl
      have k4w5 : w5.cell? ⟨w.heap.size, 4, none⟩ = some (.string ⟨#[]⟩) := by rw [cell_of_row _ _ _ _ _ _ n5.cb]; rfl
      have n6 := n5.set (unhide BE) 3 (.int .i64 (K : Int)) #[.int .i64 7, .string ⟨#[]⟩, .int .i64 0, .int .i64 (K : Int), .int .i64 0] rfl
      go_wp2_with fail
      have HPT := kgput_any _ B g m Nw5 vw5 Dw5 L n6.gr ⟨7, [], 0, (K : Int), 0⟩ (by omega) (Nat.le_trans hB n6.fr.below.size)
      unfold entV at HPT
      refine HPT.mono ?_
      rintro e w7 ⟨rfl, pw7⟩
      have tw7 := put_to pw7 n6.tx (by simp)
      obtain ⟨vw7, Nw7, Dw7, n7⟩ := n6.call (unhide BE) tw7
      have Qw7 := hide (n7.done (unhide BE))
      clear HPT pw7 tw7 n7
      go_wp2
      go_ret
      rw [unhide e1]
      exact ⟨rfl, unhide Qw7⟩
set_option maxHeartbeats 12800000 in
set_option maxRecDepth 100000 in
theorem knumber_name (w : World) (B g m N : Nat) (v : Value) (D : DataW Unit) (l : List Ent) (h : GrR w B g m v N D l) (tx : TX l l.length D) (hr : rightL l) (s t : List UInt8) (hs : s.length ≤ 140737488355328) (ht : t.length ≤ 140737488355328) (hl : l.length ≤ 2000) (hB : B ≤ w.heap.size) :
    Calls Try.prog 49 #[.pointer (some ⟨g, 0, none⟩), cstV ⟨12, 0, ([] : List UInt8), s, t⟩] w fun e w' => e = .returned (.int .i64 ((namK l s t).2 : Int)) ∧ GrTo w B g m v (namK l s t).1 w' := by
  have hlen := right_len hr
  have HM : Hid (∀ W a n c x, Es W a n l → n ≤ 140737488351232 → (x.tag = 0 ∨ okE l x = true) → Calls Try.prog 45 #[.slice a n c, entV x] W fun e w' => e = .returned (cstV (meanN l x)) ∧ Below W.heap.size W w') := fun W a n c x hE hn hx => kmeaning_any W a n c l hE hr x hx hn
  have HCC : Hid (∀ W x, (binOp .eql 50 (cstV (meanN l x)) (cstV ⟨12, 0, ([] : List UInt8), s, t⟩)).run Try.prog W = .ok (.bool (decide (meanN l x = ⟨12, 0, ([] : List UInt8), s, t⟩))) W) := fun W x => cst_cmp W _ _
  have HFOUND : Hid (∀ k : Nat, k < l.length → meanN l (atE l (k : Int)) = ⟨12, 0, ([] : List UInt8), s, t⟩ → (∀ j : Nat, j < k → meanN l (atE l (j : Int)) ≠ ⟨12, 0, ([] : List UInt8), s, t⟩) → firstN l ⟨12, 0, ([] : List UInt8), s, t⟩ = k ∧ namK l s t = (l, k)) := fun k hk h1 h2 => by
    have hk1 : 1 ≤ k := by
      cases k with
      | zero =>
        have e0 : atE l ((0 : Nat) : Int) = ent0 := by rw [atE_nat, hr.1]; rfl
        have := congrArg Cst.tag h1
        rw [meanN_tag, e0] at this
        simp [ent0] at this
      | succ k => omega
    have e := firstN_eq hk1 hk h1 (fun j hj hjk => h2 j hjk)
    refine ⟨e, ?_⟩
    unfold namK cNam
    rw [e, if_neg (by omega)]
  have HNONE : Hid ((∀ j : Nat, j < l.length → meanN l (atE l (j : Int)) ≠ ⟨12, 0, ([] : List UInt8), s, t⟩) → firstN l ⟨12, 0, ([] : List UInt8), s, t⟩ = 0) := fun h1 => by
    by_cases e : firstN l ⟨12, 0, ([] : List UInt8), s, t⟩ = 0
    · exact e
    · obtain ⟨_, e2, e3⟩ := firstN_some e
      exact absurd e3 (h1 _ e2)
  have b0 : Below w.heap.size w (w.alloc (.cells #[.int .i64 12, .int .i64 0, .string ⟨([] : List UInt8).toArray⟩, .string ⟨s.toArray⟩, .string ⟨t.toArray⟩] 50)) := (Below.refl _ _).alloc (Nat.le_refl _) _
  have hc0 := heap_alloc_last w (.cells #[.int .i64 12, .int .i64 0, .string ⟨([] : List UInt8).toArray⟩, .string ⟨s.toArray⟩, .string ⟨t.toArray⟩] 50)
  have h0 := h.below b0
  obtain ⟨a, c, rfl⟩ := own5_form h.row
  have c0 := h0.c0
  have HMK : Hid (∀ W, Below w.heap.size w W → GrR W B g m (.slice a l.length c) N D l) := fun W f => h.below f
  have HTX := hide tx
  have BS : Hid (g < w.heap.size ∧ m < w.heap.size ∧ ∀ k, (Value.slice a l.length c).ownBlock = some k → k < w.heap.size) := ⟨h.glt, h.map.lt, fun k hk => (h.row.lt k hk).2⟩
  have hgne : ¬ g = w.heap.size := by have := h.glt; omega
  unfold cstV
  simp only
  have HRT := hide hr
  have HC0 := hide hc0
  have B0 := hide b0
  clear b0 hc0 h0 h tx hr
  generalize hz2 : (⟨s.toArray⟩ : ByteArray) = z2 at *
  have HZ2 := hide hz2
  clear hz2
  generalize hz3 : (⟨t.toArray⟩ : ByteArray) = z3 at *
  have HZ3 := hide hz3
  clear hz3
  go_enter Try.func49, Try.ntmps49
  go_wp2
  generalize w.alloc (.cells #[.int .i64 12, .int .i64 0, .string ⟨#[]⟩, .string z2, .string z3] 50) = w0 at *
  go_loopw [13] (fun i wr => ∃ k : Nat, k ≤ l.length ∧ i = .int .i64 k ∧ (∀ j : Nat, j < k → meanN l (atE l (j : Int)) ≠ ⟨12, 0, ([] : List UInt8), s, t⟩) ∧ Below w0.heap.size w0 wr) (fun i _ => l.length - (intOf i).toNat)
  case atStart => exact ⟨0, by omega, rfl, fun j hj => by omega, Below.refl _ _⟩
  case round =>
    obtain ⟨k, hk, rfl, hall, hBl⟩ := hrel
    have HALL := hide hall
    have FW : Hid (Below w.heap.size w wr) := (unhide B0).trans (hBl.mono (unhide B0).size)
    have HBL := hide hBl
    have hcr : wr.heap[w.heap.size]? = some (.cells #[.int .i64 12, .int .i64 0, .string ⟨#[]⟩, .string z2, .string z3] 50 (0, 0)) := (hBl.block w.heap.size (lt_of_heap (unhide HC0))).trans (unhide HC0)
    have HCR := hide hcr
    have hszr : w.heap.size + 1 ≤ wr.heap.size := lt_of_heap hcr
    clear hall hBl hcr
    by_cases hlt : k < l.length
    · have hlt1 : (k : Int) < (l.length : Int) := by omega
      have gr := unhide HMK wr (unhide FW)
      have es := es_of_own gr.row
      obtain ⟨b, o, rfl, hE⟩ := es.2.resolve_left (by omega)
      obtain ⟨q0, q1, q2, q3, q4⟩ := ents_at hE hlt
      have HX2 : Hid (∀ W, Below wr.heap.size wr W → Calls Try.prog 45 #[.slice (some ⟨b, o, none⟩) l.length c, entV (atE l (k : Int))] W fun e w' => e = .returned (cstV (meanN l (atE l (k : Int)))) ∧ Below W.heap.size W w') := fun W f => unhide HM W _ _ _ _ (es.below f) (by omega) (right_or (unhide HRT) _)
      have HJ := hide (fun W => unhide HCC W (atE l (k : Int)))
      have HD : Hid (∀ X, decide (meanN l (atE l (k : Int)) = ⟨12, 0, ([] : List UInt8), s, t⟩) = X → (X = true → firstN l ⟨12, 0, ([] : List UInt8), s, t⟩ = k ∧ namK l s t = (l, k)) ∧ (X = false → ∀ j : Nat, j < k + 1 → meanN l (atE l (j : Int)) ≠ ⟨12, 0, ([] : List UInt8), s, t⟩)) := fun X hX => by
        constructor
        · intro e
          rw [e] at hX
          exact unhide HFOUND k hlt (by simpa using hX) (unhide HALL)
        · intro e j hj
          rw [e] at hX
          by_cases ejk : j = k
          · subst ejk
            simpa using hX
          · exact unhide HALL j (by omega)
      obtain ⟨dd, hdd⟩ : ∃ dd, decide (meanN l (atE l (k : Int)) = ⟨12, 0, ([] : List UInt8), s, t⟩) = dd := ⟨_, rfl⟩
      have HD1 := hide (unhide HD dd hdd)
      have J2 := unhide HJ
      rw [hdd] at J2
      generalize hmm : meanN l (atE l (k : Int)) = mm at *
      generalize atE l (k : Int) = xx at *
      obtain ⟨xt, xtx, xn, xa, xb⟩ := xx
      obtain ⟨mt, mn, m1, m2, m3⟩ := mm
      unfold entV cstV at *
      simp only at q0 q1 q2 q3 q4 J2 HX2
      simp only [unhide HZ2] at J2
      simp only [unhide HZ3] at J2
      generalize (⟨xtx.toArray⟩ : ByteArray) = xs at *
      generalize (⟨m1.toArray⟩ : ByteArray) = y1 at *
      generalize (⟨m2.toArray⟩ : ByteArray) = y2 at *
      generalize (⟨m3.toArray⟩ : ByteArray) = y3 at *
      have g0 := gr.c0
      have hgr : g < wr.heap.size := gr.glt
      have GR := hide gr
      clear HJ HD HM HCC hmm hdd gr es hE HFOUND HNONE c0
      go_wp2
      have hb1 : Below wr.heap.size wr (wr.alloc (.cells #[.int .i64 xt, .string xs, .int .i64 xn, .int .i64 xa, .int .i64 xb] 67)) := (Below.refl _ _).alloc (Nat.le_refl _) _
      have hx1 := heap_alloc_last wr (.cells #[.int .i64 xt, .string xs, .int .i64 xn, .int .i64 xa, .int .i64 xb] 67)
      obtain ⟨SS, hSS⟩ : ∃ SS : World → Prop, SS = fun W => Below wr.heap.size wr W ∧ W.heap[wr.heap.size]? = some (.cells #[.int .i64 xt, .string xs, .int .i64 xn, .int .i64 xa, .int .i64 xb] 67 (0, 0)) := ⟨_, rfl⟩
      have KI : Hid (SS (wr.alloc (.cells #[.int .i64 xt, .string xs, .int .i64 xn, .int .i64 xa, .int .i64 xb] 67)).drew) := by
        show SS _
        rw [hSS]
        exact ⟨hb1.drew, hx1⟩
      have KW : Hid (∀ W, SS W → Below wr.heap.size wr W) := fun W h => by
        rw [hSS] at h
        exact h.1
      have KE : Hid (∀ W, SS W → W.cell? ⟨g, 0, none⟩ = some (.slice (some ⟨b, o, none⟩) l.length c) ∧ (W.cell? ⟨wr.heap.size, 0, none⟩ = some (.int .i64 xt) ∧ W.cell? ⟨wr.heap.size, 1, none⟩ = some (.string xs) ∧ W.cell? ⟨wr.heap.size, 2, none⟩ = some (.int .i64 xn) ∧ W.cell? ⟨wr.heap.size, 3, none⟩ = some (.int .i64 xa) ∧ W.cell? ⟨wr.heap.size, 4, none⟩ = some (.int .i64 xb)) ∧ (W.cell? ⟨w.heap.size, 0, none⟩ = some (.int .i64 12) ∧ W.cell? ⟨w.heap.size, 1, none⟩ = some (.int .i64 0) ∧ W.cell? ⟨w.heap.size, 2, none⟩ = some (.string ⟨#[]⟩) ∧ W.cell? ⟨w.heap.size, 3, none⟩ = some (.string z2) ∧ W.cell? ⟨w.heap.size, 4, none⟩ = some (.string z3))) := fun W h => by
        rw [hSS] at h
        have hc := (h.1.block w.heap.size hszr).trans (unhide HCR)
        have hx := h.2
        exact ⟨((unhide GR).below h.1).c0, ⟨by rw [cell_of_row _ _ _ _ _ _ hx]; rfl, by rw [cell_of_row _ _ _ _ _ _ hx]; rfl, by rw [cell_of_row _ _ _ _ _ _ hx]; rfl, by rw [cell_of_row _ _ _ _ _ _ hx]; rfl, by rw [cell_of_row _ _ _ _ _ _ hx]; rfl⟩, ⟨by rw [cell_of_row _ _ _ _ _ _ hc]; rfl, by rw [cell_of_row _ _ _ _ _ _ hc]; rfl, by rw [cell_of_row _ _ _ _ _ _ hc]; rfl, by rw [cell_of_row _ _ _ _ _ _ hc]; rfl, by rw [cell_of_row _ _ _ _ _ _ hc]; rfl⟩⟩
      have KS : Hid (∀ W W', SS W → Below W.heap.size W W' → SS W') := fun W W' h f => by
        rw [hSS] at h ⊢
        exact ⟨h.1.trans (f.mono h.1.size), (f.block _ (lt_of_heap h.2)).trans h.2⟩
      clear hSS hb1 hx1 q0 q1 q2 q3 q4 g0
      generalize wr.alloc (.cells #[.int .i64 xt, .string xs, .int .i64 xn, .int .i64 xa, .int .i64 xb] 67) = w1 at *
      refine wp_region_seq SS (by kernel_rfl) (by kernel_rfl) (unhide KI) ?_
      repeat (first
        | (refine SeqDo.yields (v := ?_) (by rfl) ?_ ?_; rotate_left; (focus ((intro W hSW; obtain ⟨p0, ⟨p1, p2, p3, p4, p5⟩, ⟨p6, p7, p8, p9, p10⟩⟩ := unhide KE W hSW; go_simp) <;> with_reducible rfl)); simp only [Act.put, List.setIfInBounds_toArray, List.set_cons_zero, List.set_cons_succ])
        | (refine SeqDo.does (v := .agg #[.int .i64 mt, .int .i64 mn, .string y1, .string y2, .string y3]) (by rfl) (fun W hSW KK hKK => ?_) ?_; (focus (go_simp; go_wp2_with (go_at_call 45; refine (unhide HX2 _ (unhide KW _ hSW)).mono ?_; rintro e W' ⟨rfl, fJ⟩); exact hKK.out _ (unhide KS _ _ hSW fJ))); simp only [Act.put, List.setIfInBounds_toArray, List.set_cons_zero, List.set_cons_succ]))
      intro W hSW
      have fW := unhide KW W hSW
      have FW2 : Hid (Below w.heap.size w W) := (unhide FW).trans (fW.mono (unhide FW).size)
      have FB2 : Hid (Below w0.heap.size w0 W) := (unhide HBL).trans (fW.mono (unhide HBL).size)
      clear fW KI KW KE KS hSW HX2 J2
      cases dd
      case true =>
        go_wp2
        go_ret
        obtain ⟨_, e2⟩ := (unhide HD1).1 (by first | rfl | trivial)
        rw [e2]
        exact ⟨rfl, grTo_below (unhide FW2) hB (GrTo.refl (unhide HMK W (unhide FW2)) (unhide HTX))⟩
      case false =>
        go_wp2
        go_roundw
        case rel => exact ⟨k + 1, by omega, by go_num, (unhide HD1).2 (by first | rfl | trivial), unhide FB2⟩
        case measure => simp [intOf]; omega
    · have hkl : ¬ (k : Int) < (l.length : Int) := by omega
      have hf := unhide HNONE (fun j hj => unhide HALL j (by omega))
      have HF := hide hf
      have gr := unhide HMK wr (unhide FW)
      have HGR := hide gr
      have c0r : wr.cell? ⟨w.heap.size, 0, none⟩ = some (.int .i64 12) := by rw [cell_of_row _ _ _ _ _ _ (unhide HCR)]; rfl
      have c1r : wr.cell? ⟨w.heap.size, 1, none⟩ = some (.int .i64 0) := by rw [cell_of_row _ _ _ _ _ _ (unhide HCR)]; rfl
      have c2r : wr.cell? ⟨w.heap.size, 2, none⟩ = some (.string ⟨#[]⟩) := by rw [cell_of_row _ _ _ _ _ _ (unhide HCR)]; rfl
      have c3r : wr.cell? ⟨w.heap.size, 3, none⟩ = some (.string z2) := by rw [cell_of_row _ _ _ _ _ _ (unhide HCR)]; rfl
      have c4r : wr.cell? ⟨w.heap.size, 4, none⟩ = some (.string z3) := by rw [cell_of_row _ _ _ _ _ _ (unhide HCR)]; rfl
      have c0s := fun X => cell_alloc c0r X
      have c1s := fun X => cell_alloc c1r X
      have c2s := fun X => cell_alloc c2r X
      have c3s := fun X => cell_alloc c3r X
      have c4s := fun X => cell_alloc c4r X
      have b4 : Below wr.heap.size wr (wr.alloc (.cells #[.int .i64 12, .string ⟨#[]⟩, .int .i64 0, .int .i64 0, .int .i64 0] 67)) := (Below.refl _ _).alloc (Nat.le_refl _) _
      have BE : Hid (Beside w (wr.heap.size + 1) B g m (.slice a l.length c) w.heap.size wr.heap.size) := ⟨hB, (unhide BS).1, (unhide BS).2.1, (unhide BS).2.2, Nat.le_refl _, by omega, by omega, by omega, by omega⟩
      have NS0 : Hid (NS w (wr.heap.size + 1) B g m (.slice a l.length c) w.heap.size wr.heap.size #[.int .i64 12, .int .i64 0, .string ⟨#[]⟩, .string z2, .string z3] #[.int .i64 12, .string ⟨#[]⟩, .int .i64 0, .int .i64 0, .int .i64 0] (.slice a l.length c) N D l (wr.alloc (.cells #[.int .i64 12, .string ⟨#[]⟩, .int .i64 0, .int .i64 0, .int .i64 0] 67))) :=
        ⟨gr.below b4, unhide HTX, .inl rfl, Fr6.of_below ((unhide FW).trans (b4.mono (unhide FW).size)) hB, (b4.block _ (by omega)).trans (unhide HCR), heap_alloc_last wr _, by simp⟩
      clear hf gr b4 HM HCC HFOUND HNONE HALL HBL HC0 B0 HMK HTX BS c0
      go_wp2_with fail
      generalize wr.alloc (.cells #[.int .i64 12, .string ⟨#[]⟩, .int .i64 0, .int .i64 0, .int .i64 0] 67) = w4 at *
      have n0 := unhide NS0
      have hB0 : B ≤ w4.heap.size := Nat.le_trans hB n0.fr.below.size
      have r0 : l[0]? = some ent0 := (unhide HRT).1
      clear NS0 c0r c1r c2r c3r c4r HGR c0s c1s c2s c3s c4s
      have hl1 := kaddE_len l (eUtf s)
      have hl2 := kaddE_len (addE l (eUtf s)).1 (eUtf t)
      have r1 := addE_zero (eUtf s) r0
      have HT := kgtext_any w4 B g m N (.slice a l.length c) D l n0.gr n0.tx r0 s hs (by omega) hB0
      rw [unhide HZ2] at HT
      refine HT.mono ?_
      rintro e w5 ⟨rfl, tw5⟩
      obtain ⟨vw5, Nw5, Dw5, n5⟩ := n0.call (unhide BE) tw5
      clear HT tw5
      have e1 : Hid (namK l s t = (withE (addE (addE l (eUtf s)).1 (eUtf t)).1 ⟨12, [], 0, ((addE l (eUtf s)).2 : Int), ((addE (addE l (eUtf s)).1 (eUtf t)).2 : Int)⟩, (addE (addE l (eUtf s)).1 (eUtf t)).1.length)) := if_pos (unhide HF)
      generalize hL : (addE l (eUtf s)).1 = L at *
      generalize hK : (addE l (eUtf s)).2 = K at *
      clear hL hK
      have xfw5 : ∀ j, w5.frozen? ⟨wr.heap.size, j, none⟩ = false := fun j => frozen_of_row _ _ _ _ _ n5.xb
      have x0w5 : w5.cell? ⟨wr.heap.size, 0, none⟩ = some (.int .i64 12) := by rw [cell_of_row _ _ _ _ _ _ n5.xb]; rfl
      have x1w5 : w5.cell? ⟨wr.heap.size, 1, none⟩ = some (.string ⟨#[]⟩) := by rw [cell_of_row _ _ _ _ _ _ n5.xb]; rfl
      have x2w5 : w5.cell? ⟨wr.heap.size, 2, none⟩ = some (.int .i64 0) := by rw [cell_of_row _ _ _ _ _ _ n5.xb]; rfl
      have x3w5 : w5.cell? ⟨wr.heap.size, 3, none⟩ = some (.int .i64 0) := by rw [cell_of_row _ _ _ _ _ _ n5.xb]; rfl
      have x4w5 : w5.cell? ⟨wr.heap.size, 4, none⟩ = some (.int .i64 0) := by rw [cell_of_row _ _ _ _ _ _ n5.xb]; rfl
      have k0w5 : w5.cell? ⟨w.heap.size, 0, none⟩ = some (.int .i64 12) := by rw [cell_of_row _ _ _ _ _ _ n5.cb]; rfl
      have k1w5 : w5.cell? ⟨w.heap.size, 1, none⟩ = some (.int .i64 0) := by rw [cell_of_row _ _ _ _ _ _ n5.cb]; rfl
      have k2w5 : w5.cell? ⟨w.heap.size, 2, none⟩ = some (.string ⟨#[]⟩) := by rw [cell_of_row _ _ _ _ _ _ n5.cb]; rfl
      have k3w5 : w5.cell? ⟨w.heap.size, 3, none⟩ = some (.string z2) := by rw [cell_of_row _ _ _ _ _ _ n5.cb]; rfl
      have k4w5 : w5.cell? ⟨w.heap.size, 4, none⟩ = some (.string z3) := by rw [cell_of_row _ _ _ _ _ _ n5.cb]; rfl
      have n6 := n5.set (unhide BE) 3 (.int .i64 (K : Int)) #[.int .i64 12, .string ⟨#[]⟩, .int .i64 0, .int .i64 (K : Int), .int .i64 0] rfl
      go_wp2_with fail
      generalize w5.setCell ⟨wr.heap.size, 3, none⟩ (.int .i64 (K : Int)) = w6 at *
      have hBw6 : B ≤ w6.heap.size := Nat.le_trans hB n6.fr.below.size
      clear xfw5 x0w5 x1w5 x2w5 x3w5 x4w5 k0w5 k1w5 k2w5 k3w5 k4w5
      have HT := kgtext_any w6 B g m Nw5 vw5 Dw5 L n6.gr n6.tx r1 t ht (by omega) hBw6
      rw [unhide HZ3] at HT
      refine HT.mono ?_
      rintro e w7 ⟨rfl, tw7⟩
      obtain ⟨vw7, Nw7, Dw7, n7⟩ := n6.call (unhide BE) tw7
      clear HT tw7
      generalize hL : (addE L (eUtf t)).1 = L2 at *
      generalize hK : (addE L (eUtf t)).2 = K2 at *
      clear hL hK
      have xfw7 : ∀ j, w7.frozen? ⟨wr.heap.size, j, none⟩ = false := fun j => frozen_of_row _ _ _ _ _ n7.xb
      have x0w7 : w7.cell? ⟨wr.heap.size, 0, none⟩ = some (.int .i64 12) := by rw [cell_of_row _ _ _ _ _ _ n7.xb]; rfl
      have x1w7 : w7.cell? ⟨wr.heap.size, 1, none⟩ = some (.string ⟨#[]⟩) := by rw [cell_of_row _ _ _ _ _ _ n7.xb]; rfl
      have x2w7 : w7.cell? ⟨wr.heap.size, 2, none⟩ = some (.int .i64 0) := by rw [cell_of_row _ _ _ _ _ _ n7.xb]; rfl
      have x3w7 : w7.cell? ⟨wr.heap.size, 3, none⟩ = some (.int .i64 (K : Int)) := by rw [cell_of_row _ _ _ _ _ _ n7.xb]; rfl
      have x4w7 : w7.cell? ⟨wr.heap.size, 4, none⟩ = some (.int .i64 0) := by rw [cell_of_row _ _ _ _ _ _ n7.xb]; rfl
      have k0w7 : w7.cell? ⟨w.heap.size, 0, none⟩ = some (.int .i64 12) := by rw [cell_of_row _ _ _ _ _ _ n7.cb]; rfl
      have k1w7 : w7.cell? ⟨w.heap.size, 1, none⟩ = some (.int .i64 0) := by rw [cell_of_row _ _ _ _ _ _ n7.cb]; rfl
      have k2w7 : w7.cell? ⟨w.heap.size, 2, none⟩ = some (.string ⟨#[]⟩) := by rw [cell_of_row _ _ _ _ _ _ n7.cb]; rfl
      have k3w7 : w7.cell? ⟨w.heap.size, 3, none⟩ = some (.string z2) := by rw [cell_of_row _ _ _ _ _ _ n7.cb]; rfl
      have k4w7 : w7.cell? ⟨w.heap.size, 4, none⟩ = some (.string z3) := by rw [cell_of_row _ _ _ _ _ _ n7.cb]; rfl
      have n8 := n7.set (unhide BE) 4 (.int .i64 (K2 : Int)) #[.int .i64 12, .string ⟨#[]⟩, .int .i64 0, .int .i64 (K : Int), .int .i64 (K2 : Int)] rfl
      go_wp2_with fail
      have HPT := kgput_any _ B g m Nw7 vw7 Dw7 L2 n8.gr ⟨12, [], 0, (K : Int), (K2 : Int)⟩ (by omega) (Nat.le_trans hB n8.fr.below.size)
      unfold entV at HPT
      refine HPT.mono ?_
      rintro e w9 ⟨rfl, pw9⟩
      have tw9 := put_to pw9 n8.tx (by simp)
      obtain ⟨vw9, Nw9, Dw9, n9⟩ := n8.call (unhide BE) tw9
      have Qw9 := hide (n9.done (unhide BE))
      clear HPT pw9 tw9 n9
      go_wp2
      go_ret
      rw [unhide e1]
      exact ⟨rfl, unhide Qw9⟩

set_option maxHeartbeats 12800000 in
set_option maxRecDepth 100000 in
theorem knumber_num3 (w : World) (B g m N : Nat) (v : Value) (D : DataW Unit) (l : List Ent) (h : GrR w B g m v N D l) (tx : TX l l.length D) (hr : rightL l) (nn : Int) (hl : l.length ≤ 2000) (hB : B ≤ w.heap.size) :
    Calls Try.prog 49 #[.pointer (some ⟨g, 0, none⟩), cstV ⟨3, nn, ([] : List UInt8), ([] : List UInt8), ([] : List UInt8)⟩] w fun e w' => e = .returned (.int .i64 ((numK l ⟨3, nn, [], [], []⟩).2 : Int)) ∧ GrTo w B g m v (numK l ⟨3, nn, [], [], []⟩).1 w' := by
  have hlen := right_len hr
  have HM : Hid (∀ W a n c x, Es W a n l → n ≤ 140737488351232 → (x.tag = 0 ∨ okE l x = true) → Calls Try.prog 45 #[.slice a n c, entV x] W fun e w' => e = .returned (cstV (meanN l x)) ∧ Below W.heap.size W w') := fun W a n c x hE hn hx => kmeaning_any W a n c l hE hr x hx hn
  have HCC : Hid (∀ W x, (binOp .eql 50 (cstV (meanN l x)) (cstV ⟨3, nn, ([] : List UInt8), ([] : List UInt8), ([] : List UInt8)⟩)).run Try.prog W = .ok (.bool (decide (meanN l x = ⟨3, nn, ([] : List UInt8), ([] : List UInt8), ([] : List UInt8)⟩))) W) := fun W x => cst_cmp W _ _
  have HFOUND : Hid (∀ k : Nat, k < l.length → meanN l (atE l (k : Int)) = ⟨3, nn, ([] : List UInt8), ([] : List UInt8), ([] : List UInt8)⟩ → (∀ j : Nat, j < k → meanN l (atE l (j : Int)) ≠ ⟨3, nn, ([] : List UInt8), ([] : List UInt8), ([] : List UInt8)⟩) → firstN l ⟨3, nn, ([] : List UInt8), ([] : List UInt8), ([] : List UInt8)⟩ = k ∧ numK l ⟨3, nn, [], [], []⟩ = (l, k)) := fun k hk h1 h2 => by
    have hk1 : 1 ≤ k := by
      cases k with
      | zero =>
        have e0 : atE l ((0 : Nat) : Int) = ent0 := by rw [atE_nat, hr.1]; rfl
        have := congrArg Cst.tag h1
        rw [meanN_tag, e0] at this
        simp [ent0] at this
      | succ k => omega
    have e := firstN_eq hk1 hk h1 (fun j hj hjk => h2 j hjk)
    refine ⟨e, ?_⟩
    unfold numK
    rw [e, if_pos (by omega)]
  have HNONE : Hid ((∀ j : Nat, j < l.length → meanN l (atE l (j : Int)) ≠ ⟨3, nn, ([] : List UInt8), ([] : List UInt8), ([] : List UInt8)⟩) → firstN l ⟨3, nn, ([] : List UInt8), ([] : List UInt8), ([] : List UInt8)⟩ = 0) := fun h1 => by
    by_cases e : firstN l ⟨3, nn, ([] : List UInt8), ([] : List UInt8), ([] : List UInt8)⟩ = 0
    · exact e
    · obtain ⟨_, e2, e3⟩ := firstN_some e
      exact absurd e3 (h1 _ e2)
  have b0 : Below w.heap.size w (w.alloc (.cells #[.int .i64 3, .int .i64 nn, .string ⟨([] : List UInt8).toArray⟩, .string ⟨([] : List UInt8).toArray⟩, .string ⟨([] : List UInt8).toArray⟩] 50)) := (Below.refl _ _).alloc (Nat.le_refl _) _
  have hc0 := heap_alloc_last w (.cells #[.int .i64 3, .int .i64 nn, .string ⟨([] : List UInt8).toArray⟩, .string ⟨([] : List UInt8).toArray⟩, .string ⟨([] : List UInt8).toArray⟩] 50)
  have h0 := h.below b0
  obtain ⟨a, c, rfl⟩ := own5_form h.row
  have c0 := h0.c0
  have HMK : Hid (∀ W, Below w.heap.size w W → GrR W B g m (.slice a l.length c) N D l) := fun W f => h.below f
  have HTX := hide tx
  have BS : Hid (g < w.heap.size ∧ m < w.heap.size ∧ ∀ k, (Value.slice a l.length c).ownBlock = some k → k < w.heap.size) := ⟨h.glt, h.map.lt, fun k hk => (h.row.lt k hk).2⟩
  have hgne : ¬ g = w.heap.size := by have := h.glt; omega
  unfold cstV
  simp only
  have HRT := hide hr
  have HC0 := hide hc0
  have B0 := hide b0
  clear b0 hc0 h0 h tx hr
  go_enter Try.func49, Try.ntmps49
  go_wp2
  generalize w.alloc (.cells #[.int .i64 3, .int .i64 nn, .string ⟨#[]⟩, .string ⟨#[]⟩, .string ⟨#[]⟩] 50) = w0 at *
  go_loopw [13] (fun i wr => ∃ k : Nat, k ≤ l.length ∧ i = .int .i64 k ∧ (∀ j : Nat, j < k → meanN l (atE l (j : Int)) ≠ ⟨3, nn, ([] : List UInt8), ([] : List UInt8), ([] : List UInt8)⟩) ∧ Below w0.heap.size w0 wr) (fun i _ => l.length - (intOf i).toNat)
  case atStart => exact ⟨0, by omega, rfl, fun j hj => by omega, Below.refl _ _⟩
  case round =>
    obtain ⟨k, hk, rfl, hall, hBl⟩ := hrel
    have HALL := hide hall
    have FW : Hid (Below w.heap.size w wr) := (unhide B0).trans (hBl.mono (unhide B0).size)
    have HBL := hide hBl
    have hcr : wr.heap[w.heap.size]? = some (.cells #[.int .i64 3, .int .i64 nn, .string ⟨#[]⟩, .string ⟨#[]⟩, .string ⟨#[]⟩] 50 (0, 0)) := (hBl.block w.heap.size (lt_of_heap (unhide HC0))).trans (unhide HC0)
    have HCR := hide hcr
    have hszr : w.heap.size + 1 ≤ wr.heap.size := lt_of_heap hcr
    clear hall hBl hcr
    by_cases hlt : k < l.length
    · have hlt1 : (k : Int) < (l.length : Int) := by omega
      have gr := unhide HMK wr (unhide FW)
      have es := es_of_own gr.row
      obtain ⟨b, o, rfl, hE⟩ := es.2.resolve_left (by omega)
      obtain ⟨q0, q1, q2, q3, q4⟩ := ents_at hE hlt
      have HX2 : Hid (∀ W, Below wr.heap.size wr W → Calls Try.prog 45 #[.slice (some ⟨b, o, none⟩) l.length c, entV (atE l (k : Int))] W fun e w' => e = .returned (cstV (meanN l (atE l (k : Int)))) ∧ Below W.heap.size W w') := fun W f => unhide HM W _ _ _ _ (es.below f) (by omega) (right_or (unhide HRT) _)
      have HJ := hide (fun W => unhide HCC W (atE l (k : Int)))
      have HD : Hid (∀ X, decide (meanN l (atE l (k : Int)) = ⟨3, nn, ([] : List UInt8), ([] : List UInt8), ([] : List UInt8)⟩) = X → (X = true → firstN l ⟨3, nn, ([] : List UInt8), ([] : List UInt8), ([] : List UInt8)⟩ = k ∧ numK l ⟨3, nn, [], [], []⟩ = (l, k)) ∧ (X = false → ∀ j : Nat, j < k + 1 → meanN l (atE l (j : Int)) ≠ ⟨3, nn, ([] : List UInt8), ([] : List UInt8), ([] : List UInt8)⟩)) := fun X hX => by
        constructor
        · intro e
          rw [e] at hX
          exact unhide HFOUND k hlt (by simpa using hX) (unhide HALL)
        · intro e j hj
          rw [e] at hX
          by_cases ejk : j = k
          · subst ejk
            simpa using hX
          · exact unhide HALL j (by omega)
      obtain ⟨dd, hdd⟩ : ∃ dd, decide (meanN l (atE l (k : Int)) = ⟨3, nn, ([] : List UInt8), ([] : List UInt8), ([] : List UInt8)⟩) = dd := ⟨_, rfl⟩
      have HD1 := hide (unhide HD dd hdd)
      have J2 := unhide HJ
      rw [hdd] at J2
      generalize hmm : meanN l (atE l (k : Int)) = mm at *
      generalize atE l (k : Int) = xx at *
      obtain ⟨xt, xtx, xn, xa, xb⟩ := xx
      obtain ⟨mt, mn, m1, m2, m3⟩ := mm
      unfold entV cstV at *
      simp only at q0 q1 q2 q3 q4 J2 HX2
      generalize (⟨xtx.toArray⟩ : ByteArray) = xs at *
      generalize (⟨m1.toArray⟩ : ByteArray) = y1 at *
      generalize (⟨m2.toArray⟩ : ByteArray) = y2 at *
      generalize (⟨m3.toArray⟩ : ByteArray) = y3 at *
      have g0 := gr.c0
      have hgr : g < wr.heap.size := gr.glt
      have GR := hide gr
      clear HJ HD HM HCC hmm hdd gr es hE HFOUND HNONE c0
      go_wp2
      have hb1 : Below wr.heap.size wr (wr.alloc (.cells #[.int .i64 xt, .string xs, .int .i64 xn, .int .i64 xa, .int .i64 xb] 67)) := (Below.refl _ _).alloc (Nat.le_refl _) _
      have hx1 := heap_alloc_last wr (.cells #[.int .i64 xt, .string xs, .int .i64 xn, .int .i64 xa, .int .i64 xb] 67)
      obtain ⟨SS, hSS⟩ : ∃ SS : World → Prop, SS = fun W => Below wr.heap.size wr W ∧ W.heap[wr.heap.size]? = some (.cells #[.int .i64 xt, .string xs, .int .i64 xn, .int .i64 xa, .int .i64 xb] 67 (0, 0)) := ⟨_, rfl⟩
      have KI : Hid (SS (wr.alloc (.cells #[.int .i64 xt, .string xs, .int .i64 xn, .int .i64 xa, .int .i64 xb] 67)).drew) := by
        show SS _
        rw [hSS]
        exact ⟨hb1.drew, hx1⟩
      have KW : Hid (∀ W, SS W → Below wr.heap.size wr W) := fun W h => by
        rw [hSS] at h
        exact h.1
      have KE : Hid (∀ W, SS W → W.cell? ⟨g, 0, none⟩ = some (.slice (some ⟨b, o, none⟩) l.length c) ∧ (W.cell? ⟨wr.heap.size, 0, none⟩ = some (.int .i64 xt) ∧ W.cell? ⟨wr.heap.size, 1, none⟩ = some (.string xs) ∧ W.cell? ⟨wr.heap.size, 2, none⟩ = some (.int .i64 xn) ∧ W.cell? ⟨wr.heap.size, 3, none⟩ = some (.int .i64 xa) ∧ W.cell? ⟨wr.heap.size, 4, none⟩ = some (.int .i64 xb)) ∧ (W.cell? ⟨w.heap.size, 0, none⟩ = some (.int .i64 3) ∧ W.cell? ⟨w.heap.size, 1, none⟩ = some (.int .i64 nn) ∧ W.cell? ⟨w.heap.size, 2, none⟩ = some (.string ⟨#[]⟩) ∧ W.cell? ⟨w.heap.size, 3, none⟩ = some (.string ⟨#[]⟩) ∧ W.cell? ⟨w.heap.size, 4, none⟩ = some (.string ⟨#[]⟩))) := fun W h => by
        rw [hSS] at h
        have hc := (h.1.block w.heap.size hszr).trans (unhide HCR)
        have hx := h.2
        exact ⟨((unhide GR).below h.1).c0, ⟨by rw [cell_of_row _ _ _ _ _ _ hx]; rfl, by rw [cell_of_row _ _ _ _ _ _ hx]; rfl, by rw [cell_of_row _ _ _ _ _ _ hx]; rfl, by rw [cell_of_row _ _ _ _ _ _ hx]; rfl, by rw [cell_of_row _ _ _ _ _ _ hx]; rfl⟩, ⟨by rw [cell_of_row _ _ _ _ _ _ hc]; rfl, by rw [cell_of_row _ _ _ _ _ _ hc]; rfl, by rw [cell_of_row _ _ _ _ _ _ hc]; rfl, by rw [cell_of_row _ _ _ _ _ _ hc]; rfl, by rw [cell_of_row _ _ _ _ _ _ hc]; rfl⟩⟩
      have KS : Hid (∀ W W', SS W → Below W.heap.size W W' → SS W') := fun W W' h f => by
        rw [hSS] at h ⊢
        exact ⟨h.1.trans (f.mono h.1.size), (f.block _ (lt_of_heap h.2)).trans h.2⟩
      clear hSS hb1 hx1 q0 q1 q2 q3 q4 g0
      generalize wr.alloc (.cells #[.int .i64 xt, .string xs, .int .i64 xn, .int .i64 xa, .int .i64 xb] 67) = w1 at *
      refine wp_region_seq SS (by kernel_rfl) (by kernel_rfl) (unhide KI) ?_
      repeat (first
        | (refine SeqDo.yields (v := ?_) (by rfl) ?_ ?_; rotate_left; (focus ((intro W hSW; obtain ⟨p0, ⟨p1, p2, p3, p4, p5⟩, ⟨p6, p7, p8, p9, p10⟩⟩ := unhide KE W hSW; go_simp) <;> with_reducible rfl)); simp only [Act.put, List.setIfInBounds_toArray, List.set_cons_zero, List.set_cons_succ])
        | (refine SeqDo.does (v := .agg #[.int .i64 mt, .int .i64 mn, .string y1, .string y2, .string y3]) (by rfl) (fun W hSW KK hKK => ?_) ?_; (focus (go_simp; go_wp2_with (go_at_call 45; refine (unhide HX2 _ (unhide KW _ hSW)).mono ?_; rintro e W' ⟨rfl, fJ⟩); exact hKK.out _ (unhide KS _ _ hSW fJ))); simp only [Act.put, List.setIfInBounds_toArray, List.set_cons_zero, List.set_cons_succ]))
      intro W hSW
      have fW := unhide KW W hSW
      have FW2 : Hid (Below w.heap.size w W) := (unhide FW).trans (fW.mono (unhide FW).size)
      have FB2 : Hid (Below w0.heap.size w0 W) := (unhide HBL).trans (fW.mono (unhide HBL).size)
      clear fW KI KW KE KS hSW HX2 J2
      cases dd
      case true =>
        go_wp2
        go_ret
        obtain ⟨_, e2⟩ := (unhide HD1).1 (by first | rfl | trivial)
        rw [e2]
        exact ⟨rfl, grTo_below (unhide FW2) hB (GrTo.refl (unhide HMK W (unhide FW2)) (unhide HTX))⟩
      case false =>
        go_wp2
        go_roundw
        case rel => exact ⟨k + 1, by omega, by go_num, (unhide HD1).2 (by first | rfl | trivial), unhide FB2⟩
        case measure => simp [intOf]; omega
    · have hkl : ¬ (k : Int) < (l.length : Int) := by omega
      have hf := unhide HNONE (fun j hj => unhide HALL j (by omega))
      have HF := hide hf
      have gr := unhide HMK wr (unhide FW)
      have HGR := hide gr
      have c0r : wr.cell? ⟨w.heap.size, 0, none⟩ = some (.int .i64 3) := by rw [cell_of_row _ _ _ _ _ _ (unhide HCR)]; rfl
      have c1r : wr.cell? ⟨w.heap.size, 1, none⟩ = some (.int .i64 nn) := by rw [cell_of_row _ _ _ _ _ _ (unhide HCR)]; rfl
      have c2r : wr.cell? ⟨w.heap.size, 2, none⟩ = some (.string ⟨#[]⟩) := by rw [cell_of_row _ _ _ _ _ _ (unhide HCR)]; rfl
      have c3r : wr.cell? ⟨w.heap.size, 3, none⟩ = some (.string ⟨#[]⟩) := by rw [cell_of_row _ _ _ _ _ _ (unhide HCR)]; rfl
      have c4r : wr.cell? ⟨w.heap.size, 4, none⟩ = some (.string ⟨#[]⟩) := by rw [cell_of_row _ _ _ _ _ _ (unhide HCR)]; rfl
      have c0s := fun X => cell_alloc c0r X
      have c1s := fun X => cell_alloc c1r X
      have c2s := fun X => cell_alloc c2r X
      have c3s := fun X => cell_alloc c3r X
      have c4s := fun X => cell_alloc c4r X
      have b4 : Below wr.heap.size wr (wr.alloc (.cells #[.int .i64 3, .string ⟨#[]⟩, .int .i64 nn, .int .i64 0, .int .i64 0] 67)) := (Below.refl _ _).alloc (Nat.le_refl _) _
      have BE : Hid (Beside w (wr.heap.size + 1) B g m (.slice a l.length c) w.heap.size wr.heap.size) := ⟨hB, (unhide BS).1, (unhide BS).2.1, (unhide BS).2.2, Nat.le_refl _, by omega, by omega, by omega, by omega⟩
      have NS0 : Hid (NS w (wr.heap.size + 1) B g m (.slice a l.length c) w.heap.size wr.heap.size #[.int .i64 3, .int .i64 nn, .string ⟨#[]⟩, .string ⟨#[]⟩, .string ⟨#[]⟩] #[.int .i64 3, .string ⟨#[]⟩, .int .i64 nn, .int .i64 0, .int .i64 0] (.slice a l.length c) N D l (wr.alloc (.cells #[.int .i64 3, .string ⟨#[]⟩, .int .i64 nn, .int .i64 0, .int .i64 0] 67))) :=
        ⟨gr.below b4, unhide HTX, .inl rfl, Fr6.of_below ((unhide FW).trans (b4.mono (unhide FW).size)) hB, (b4.block _ (by omega)).trans (unhide HCR), heap_alloc_last wr _, by simp⟩
      clear hf gr b4 HM HCC HFOUND HNONE HALL HBL HC0 B0 HMK HTX BS c0
      go_wp2_with fail
      generalize wr.alloc (.cells #[.int .i64 3, .string ⟨#[]⟩, .int .i64 nn, .int .i64 0, .int .i64 0] 67) = w4 at *
      have n0 := unhide NS0
      have hB0 : B ≤ w4.heap.size := Nat.le_trans hB n0.fr.below.size
      have r0 : l[0]? = some ent0 := (unhide HRT).1
      clear NS0 c0r c1r c2r c3r c4r HGR c0s c1s c2s c3s c4s
      have HPT := kgput_any _ B g m N (.slice a l.length c) D l n0.gr ⟨3, [], nn, 0, 0⟩ (by omega) (Nat.le_trans hB n0.fr.below.size)
      unfold entV at HPT
      refine HPT.mono ?_
      rintro e w7 ⟨rfl, pw7⟩
      have tw7 := put_to pw7 n0.tx (by simp)
      obtain ⟨vw7, Nw7, Dw7, n7⟩ := n0.call (unhide BE) tw7
      have Qw7 := hide (n7.done (unhide BE))
      clear HPT pw7 tw7 n7
      go_wp2
      go_ret
      have e1 : numK l ⟨3, nn, [], [], []⟩ = (withE l ⟨3, [], nn, 0, 0⟩, l.length) := by
        unfold numK
        rw [if_neg (by rw [unhide HF]; simp), if_pos (by simp)]
      rw [e1]
      exact ⟨rfl, unhide Qw7⟩

set_option maxHeartbeats 12800000 in
set_option maxRecDepth 100000 in
theorem knumber_num5 (w : World) (B g m N : Nat) (v : Value) (D : DataW Unit) (l : List Ent) (h : GrR w B g m v N D l) (tx : TX l l.length D) (hr : rightL l) (nn : Int) (hl : l.length ≤ 2000) (hB : B ≤ w.heap.size) :
    Calls Try.prog 49 #[.pointer (some ⟨g, 0, none⟩), cstV ⟨5, nn, ([] : List UInt8), ([] : List UInt8), ([] : List UInt8)⟩] w fun e w' => e = .returned (.int .i64 ((numK l ⟨5, nn, [], [], []⟩).2 : Int)) ∧ GrTo w B g m v (numK l ⟨5, nn, [], [], []⟩).1 w' := by
  have hlen := right_len hr
  have HM : Hid (∀ W a n c x, Es W a n l → n ≤ 140737488351232 → (x.tag = 0 ∨ okE l x = true) → Calls Try.prog 45 #[.slice a n c, entV x] W fun e w' => e = .returned (cstV (meanN l x)) ∧ Below W.heap.size W w') := fun W a n c x hE hn hx => kmeaning_any W a n c l hE hr x hx hn
  have HCC : Hid (∀ W x, (binOp .eql 50 (cstV (meanN l x)) (cstV ⟨5, nn, ([] : List UInt8), ([] : List UInt8), ([] : List UInt8)⟩)).run Try.prog W = .ok (.bool (decide (meanN l x = ⟨5, nn, ([] : List UInt8), ([] : List UInt8), ([] : List UInt8)⟩))) W) := fun W x => cst_cmp W _ _
  have HFOUND : Hid (∀ k : Nat, k < l.length → meanN l (atE l (k : Int)) = ⟨5, nn, ([] : List UInt8), ([] : List UInt8), ([] : List UInt8)⟩ → (∀ j : Nat, j < k → meanN l (atE l (j : Int)) ≠ ⟨5, nn, ([] : List UInt8), ([] : List UInt8), ([] : List UInt8)⟩) → firstN l ⟨5, nn, ([] : List UInt8), ([] : List UInt8), ([] : List UInt8)⟩ = k ∧ numK l ⟨5, nn, [], [], []⟩ = (l, k)) := fun k hk h1 h2 => by
    have hk1 : 1 ≤ k := by
      cases k with
      | zero =>
        have e0 : atE l ((0 : Nat) : Int) = ent0 := by rw [atE_nat, hr.1]; rfl
        have := congrArg Cst.tag h1
        rw [meanN_tag, e0] at this
        simp [ent0] at this
      | succ k => omega
    have e := firstN_eq hk1 hk h1 (fun j hj hjk => h2 j hjk)
    refine ⟨e, ?_⟩
    unfold numK
    rw [e, if_pos (by omega)]
  have HNONE : Hid ((∀ j : Nat, j < l.length → meanN l (atE l (j : Int)) ≠ ⟨5, nn, ([] : List UInt8), ([] : List UInt8), ([] : List UInt8)⟩) → firstN l ⟨5, nn, ([] : List UInt8), ([] : List UInt8), ([] : List UInt8)⟩ = 0) := fun h1 => by
    by_cases e : firstN l ⟨5, nn, ([] : List UInt8), ([] : List UInt8), ([] : List UInt8)⟩ = 0
    · exact e
    · obtain ⟨_, e2, e3⟩ := firstN_some e
      exact absurd e3 (h1 _ e2)
  have b0 : Below w.heap.size w (w.alloc (.cells #[.int .i64 5, .int .i64 nn, .string ⟨([] : List UInt8).toArray⟩, .string ⟨([] : List UInt8).toArray⟩, .string ⟨([] : List UInt8).toArray⟩] 50)) := (Below.refl _ _).alloc (Nat.le_refl _) _
  have hc0 := heap_alloc_last w (.cells #[.int .i64 5, .int .i64 nn, .string ⟨([] : List UInt8).toArray⟩, .string ⟨([] : List UInt8).toArray⟩, .string ⟨([] : List UInt8).toArray⟩] 50)
  have h0 := h.below b0
  obtain ⟨a, c, rfl⟩ := own5_form h.row
  have c0 := h0.c0
  have HMK : Hid (∀ W, Below w.heap.size w W → GrR W B g m (.slice a l.length c) N D l) := fun W f => h.below f
  have HTX := hide tx
  have BS : Hid (g < w.heap.size ∧ m < w.heap.size ∧ ∀ k, (Value.slice a l.length c).ownBlock = some k → k < w.heap.size) := ⟨h.glt, h.map.lt, fun k hk => (h.row.lt k hk).2⟩
  have hgne : ¬ g = w.heap.size := by have := h.glt; omega
  unfold cstV
  simp only
  have HRT := hide hr
  have HC0 := hide hc0
  have B0 := hide b0
  clear b0 hc0 h0 h tx hr
  go_enter Try.func49, Try.ntmps49
  go_wp2
  generalize w.alloc (.cells #[.int .i64 5, .int .i64 nn, .string ⟨#[]⟩, .string ⟨#[]⟩, .string ⟨#[]⟩] 50) = w0 at *
  go_loopw [13] (fun i wr => ∃ k : Nat, k ≤ l.length ∧ i = .int .i64 k ∧ (∀ j : Nat, j < k → meanN l (atE l (j : Int)) ≠ ⟨5, nn, ([] : List UInt8), ([] : List UInt8), ([] : List UInt8)⟩) ∧ Below w0.heap.size w0 wr) (fun i _ => l.length - (intOf i).toNat)
  case atStart => exact ⟨0, by omega, rfl, fun j hj => by omega, Below.refl _ _⟩
  case round =>
    obtain ⟨k, hk, rfl, hall, hBl⟩ := hrel
    have HALL := hide hall
    have FW : Hid (Below w.heap.size w wr) := (unhide B0).trans (hBl.mono (unhide B0).size)
    have HBL := hide hBl
    have hcr : wr.heap[w.heap.size]? = some (.cells #[.int .i64 5, .int .i64 nn, .string ⟨#[]⟩, .string ⟨#[]⟩, .string ⟨#[]⟩] 50 (0, 0)) := (hBl.block w.heap.size (lt_of_heap (unhide HC0))).trans (unhide HC0)
    have HCR := hide hcr
    have hszr : w.heap.size + 1 ≤ wr.heap.size := lt_of_heap hcr
    clear hall hBl hcr
    by_cases hlt : k < l.length
    · have hlt1 : (k : Int) < (l.length : Int) := by omega
      have gr := unhide HMK wr (unhide FW)
      have es := es_of_own gr.row
      obtain ⟨b, o, rfl, hE⟩ := es.2.resolve_left (by omega)
      obtain ⟨q0, q1, q2, q3, q4⟩ := ents_at hE hlt
      have HX2 : Hid (∀ W, Below wr.heap.size wr W → Calls Try.prog 45 #[.slice (some ⟨b, o, none⟩) l.length c, entV (atE l (k : Int))] W fun e w' => e = .returned (cstV (meanN l (atE l (k : Int)))) ∧ Below W.heap.size W w') := fun W f => unhide HM W _ _ _ _ (es.below f) (by omega) (right_or (unhide HRT) _)
      have HJ := hide (fun W => unhide HCC W (atE l (k : Int)))
      have HD : Hid (∀ X, decide (meanN l (atE l (k : Int)) = ⟨5, nn, ([] : List UInt8), ([] : List UInt8), ([] : List UInt8)⟩) = X → (X = true → firstN l ⟨5, nn, ([] : List UInt8), ([] : List UInt8), ([] : List UInt8)⟩ = k ∧ numK l ⟨5, nn, [], [], []⟩ = (l, k)) ∧ (X = false → ∀ j : Nat, j < k + 1 → meanN l (atE l (j : Int)) ≠ ⟨5, nn, ([] : List UInt8), ([] : List UInt8), ([] : List UInt8)⟩)) := fun X hX => by
        constructor
        · intro e
          rw [e] at hX
          exact unhide HFOUND k hlt (by simpa using hX) (unhide HALL)
        · intro e j hj
          rw [e] at hX
          by_cases ejk : j = k
          · subst ejk
            simpa using hX
          · exact unhide HALL j (by omega)
      obtain ⟨dd, hdd⟩ : ∃ dd, decide (meanN l (atE l (k : Int)) = ⟨5, nn, ([] : List UInt8), ([] : List UInt8), ([] : List UInt8)⟩) = dd := ⟨_, rfl⟩
      have HD1 := hide (unhide HD dd hdd)
      have J2 := unhide HJ
      rw [hdd] at J2
      generalize hmm : meanN l (atE l (k : Int)) = mm at *
      generalize atE l (k : Int) = xx at *
      obtain ⟨xt, xtx, xn, xa, xb⟩ := xx
      obtain ⟨mt, mn, m1, m2, m3⟩ := mm
      unfold entV cstV at *
      simp only at q0 q1 q2 q3 q4 J2 HX2
      generalize (⟨xtx.toArray⟩ : ByteArray) = xs at *
      generalize (⟨m1.toArray⟩ : ByteArray) = y1 at *
      generalize (⟨m2.toArray⟩ : ByteArray) = y2 at *
      generalize (⟨m3.toArray⟩ : ByteArray) = y3 at *
      have g0 := gr.c0
      have hgr : g < wr.heap.size := gr.glt
      have GR := hide gr
      clear HJ HD HM HCC hmm hdd gr es hE HFOUND HNONE c0
      go_wp2
      have hb1 : Below wr.heap.size wr (wr.alloc (.cells #[.int .i64 xt, .string xs, .int .i64 xn, .int .i64 xa, .int .i64 xb] 67)) := (Below.refl _ _).alloc (Nat.le_refl _) _
      have hx1 := heap_alloc_last wr (.cells #[.int .i64 xt, .string xs, .int .i64 xn, .int .i64 xa, .int .i64 xb] 67)
      obtain ⟨SS, hSS⟩ : ∃ SS : World → Prop, SS = fun W => Below wr.heap.size wr W ∧ W.heap[wr.heap.size]? = some (.cells #[.int .i64 xt, .string xs, .int .i64 xn, .int .i64 xa, .int .i64 xb] 67 (0, 0)) := ⟨_, rfl⟩
      have KI : Hid (SS (wr.alloc (.cells #[.int .i64 xt, .string xs, .int .i64 xn, .int .i64 xa, .int .i64 xb] 67)).drew) := by
        show SS _
        rw [hSS]
        exact ⟨hb1.drew, hx1⟩
      have KW : Hid (∀ W, SS W → Below wr.heap.size wr W) := fun W h => by
        rw [hSS] at h
        exact h.1
      have KE : Hid (∀ W, SS W → W.cell? ⟨g, 0, none⟩ = some (.slice (some ⟨b, o, none⟩) l.length c) ∧ (W.cell? ⟨wr.heap.size, 0, none⟩ = some (.int .i64 xt) ∧ W.cell? ⟨wr.heap.size, 1, none⟩ = some (.string xs) ∧ W.cell? ⟨wr.heap.size, 2, none⟩ = some (.int .i64 xn) ∧ W.cell? ⟨wr.heap.size, 3, none⟩ = some (.int .i64 xa) ∧ W.cell? ⟨wr.heap.size, 4, none⟩ = some (.int .i64 xb)) ∧ (W.cell? ⟨w.heap.size, 0, none⟩ = some (.int .i64 5) ∧ W.cell? ⟨w.heap.size, 1, none⟩ = some (.int .i64 nn) ∧ W.cell? ⟨w.heap.size, 2, none⟩ = some (.string ⟨#[]⟩) ∧ W.cell? ⟨w.heap.size, 3, none⟩ = some (.string ⟨#[]⟩) ∧ W.cell? ⟨w.heap.size, 4, none⟩ = some (.string ⟨#[]⟩))) := fun W h => by
        rw [hSS] at h
        have hc := (h.1.block w.heap.size hszr).trans (unhide HCR)
        have hx := h.2
        exact ⟨((unhide GR).below h.1).c0, ⟨by rw [cell_of_row _ _ _ _ _ _ hx]; rfl, by rw [cell_of_row _ _ _ _ _ _ hx]; rfl, by rw [cell_of_row _ _ _ _ _ _ hx]; rfl, by rw [cell_of_row _ _ _ _ _ _ hx]; rfl, by rw [cell_of_row _ _ _ _ _ _ hx]; rfl⟩, ⟨by rw [cell_of_row _ _ _ _ _ _ hc]; rfl, by rw [cell_of_row _ _ _ _ _ _ hc]; rfl, by rw [cell_of_row _ _ _ _ _ _ hc]; rfl, by rw [cell_of_row _ _ _ _ _ _ hc]; rfl, by rw [cell_of_row _ _ _ _ _ _ hc]; rfl⟩⟩
      have KS : Hid (∀ W W', SS W → Below W.heap.size W W' → SS W') := fun W W' h f => by
        rw [hSS] at h ⊢
        exact ⟨h.1.trans (f.mono h.1.size), (f.block _ (lt_of_heap h.2)).trans h.2⟩
      clear hSS hb1 hx1 q0 q1 q2 q3 q4 g0
      generalize wr.alloc (.cells #[.int .i64 xt, .string xs, .int .i64 xn, .int .i64 xa, .int .i64 xb] 67) = w1 at *
      refine wp_region_seq SS (by kernel_rfl) (by kernel_rfl) (unhide KI) ?_
      repeat (first
        | (refine SeqDo.yields (v := ?_) (by rfl) ?_ ?_; rotate_left; (focus ((intro W hSW; obtain ⟨p0, ⟨p1, p2, p3, p4, p5⟩, ⟨p6, p7, p8, p9, p10⟩⟩ := unhide KE W hSW; go_simp) <;> with_reducible rfl)); simp only [Act.put, List.setIfInBounds_toArray, List.set_cons_zero, List.set_cons_succ])
        | (refine SeqDo.does (v := .agg #[.int .i64 mt, .int .i64 mn, .string y1, .string y2, .string y3]) (by rfl) (fun W hSW KK hKK => ?_) ?_; (focus (go_simp; go_wp2_with (go_at_call 45; refine (unhide HX2 _ (unhide KW _ hSW)).mono ?_; rintro e W' ⟨rfl, fJ⟩); exact hKK.out _ (unhide KS _ _ hSW fJ))); simp only [Act.put, List.setIfInBounds_toArray, List.set_cons_zero, List.set_cons_succ]))
      intro W hSW
      have fW := unhide KW W hSW
      have FW2 : Hid (Below w.heap.size w W) := (unhide FW).trans (fW.mono (unhide FW).size)
      have FB2 : Hid (Below w0.heap.size w0 W) := (unhide HBL).trans (fW.mono (unhide HBL).size)
      clear fW KI KW KE KS hSW HX2 J2
      cases dd
      case true =>
        go_wp2
        go_ret
        obtain ⟨_, e2⟩ := (unhide HD1).1 (by first | rfl | trivial)
        rw [e2]
        exact ⟨rfl, grTo_below (unhide FW2) hB (GrTo.refl (unhide HMK W (unhide FW2)) (unhide HTX))⟩
      case false =>
        go_wp2
        go_roundw
        case rel => exact ⟨k + 1, by omega, by go_num, (unhide HD1).2 (by first | rfl | trivial), unhide FB2⟩
        case measure => simp [intOf]; omega
    · have hkl : ¬ (k : Int) < (l.length : Int) := by omega
      have hf := unhide HNONE (fun j hj => unhide HALL j (by omega))
      have HF := hide hf
      have gr := unhide HMK wr (unhide FW)
      have HGR := hide gr
      have c0r : wr.cell? ⟨w.heap.size, 0, none⟩ = some (.int .i64 5) := by rw [cell_of_row _ _ _ _ _ _ (unhide HCR)]; rfl
      have c1r : wr.cell? ⟨w.heap.size, 1, none⟩ = some (.int .i64 nn) := by rw [cell_of_row _ _ _ _ _ _ (unhide HCR)]; rfl
      have c2r : wr.cell? ⟨w.heap.size, 2, none⟩ = some (.string ⟨#[]⟩) := by rw [cell_of_row _ _ _ _ _ _ (unhide HCR)]; rfl
      have c3r : wr.cell? ⟨w.heap.size, 3, none⟩ = some (.string ⟨#[]⟩) := by rw [cell_of_row _ _ _ _ _ _ (unhide HCR)]; rfl
      have c4r : wr.cell? ⟨w.heap.size, 4, none⟩ = some (.string ⟨#[]⟩) := by rw [cell_of_row _ _ _ _ _ _ (unhide HCR)]; rfl
      have c0s := fun X => cell_alloc c0r X
      have c1s := fun X => cell_alloc c1r X
      have c2s := fun X => cell_alloc c2r X
      have c3s := fun X => cell_alloc c3r X
      have c4s := fun X => cell_alloc c4r X
      have b4 : Below wr.heap.size wr (wr.alloc (.cells #[.int .i64 5, .string ⟨#[]⟩, .int .i64 nn, .int .i64 0, .int .i64 0] 67)) := (Below.refl _ _).alloc (Nat.le_refl _) _
      have BE : Hid (Beside w (wr.heap.size + 1) B g m (.slice a l.length c) w.heap.size wr.heap.size) := ⟨hB, (unhide BS).1, (unhide BS).2.1, (unhide BS).2.2, Nat.le_refl _, by omega, by omega, by omega, by omega⟩
      have NS0 : Hid (NS w (wr.heap.size + 1) B g m (.slice a l.length c) w.heap.size wr.heap.size #[.int .i64 5, .int .i64 nn, .string ⟨#[]⟩, .string ⟨#[]⟩, .string ⟨#[]⟩] #[.int .i64 5, .string ⟨#[]⟩, .int .i64 nn, .int .i64 0, .int .i64 0] (.slice a l.length c) N D l (wr.alloc (.cells #[.int .i64 5, .string ⟨#[]⟩, .int .i64 nn, .int .i64 0, .int .i64 0] 67))) :=
        ⟨gr.below b4, unhide HTX, .inl rfl, Fr6.of_below ((unhide FW).trans (b4.mono (unhide FW).size)) hB, (b4.block _ (by omega)).trans (unhide HCR), heap_alloc_last wr _, by simp⟩
      clear hf gr b4 HM HCC HFOUND HNONE HALL HBL HC0 B0 HMK HTX BS c0
      go_wp2_with fail
      generalize wr.alloc (.cells #[.int .i64 5, .string ⟨#[]⟩, .int .i64 nn, .int .i64 0, .int .i64 0] 67) = w4 at *
      have n0 := unhide NS0
      have hB0 : B ≤ w4.heap.size := Nat.le_trans hB n0.fr.below.size
      have r0 : l[0]? = some ent0 := (unhide HRT).1
      clear NS0 c0r c1r c2r c3r c4r HGR c0s c1s c2s c3s c4s
      have HPT := kgput_any _ B g m N (.slice a l.length c) D l n0.gr ⟨5, [], nn, 0, 0⟩ (by omega) (Nat.le_trans hB n0.fr.below.size)
      unfold entV at HPT
      refine HPT.mono ?_
      rintro e w7 ⟨rfl, pw7⟩
      have tw7 := put_to pw7 n0.tx (by simp)
      obtain ⟨vw7, Nw7, Dw7, n7⟩ := n0.call (unhide BE) tw7
      have Qw7 := hide (n7.done (unhide BE))
      clear HPT pw7 tw7 n7
      go_wp2
      go_ret
      have e1 : numK l ⟨5, nn, [], [], []⟩ = (withE l ⟨5, [], nn, 0, 0⟩, l.length) := by
        unfold numK
        rw [if_neg (by rw [unhide HF]; simp), if_pos (by simp)]
      rw [e1]
      exact ⟨rfl, unhide Qw7⟩

end Go.Proofs.Ytjpimcglojneaaa

/- The landed pool: a pool that grows: number, of a field, of a method. -/
namespace Go.Proofs.Ytjpimcglojneaaa
open Go.RowKit Go.Maps
set_option linter.unusedVariables false

theorem withE_len2 (l : List Ent) (x : Ent) : (withE l x).length ≤ l.length + 2 := by
  rw [withE_eq, List.length_append]
  split <;> simp
theorem clsK_len (l : List Ent) (s : List UInt8) : (clsK l s).1.length ≤ l.length + 4 := by
  unfold clsK
  split
  · simp only
    have h1 := withE_len2 (addE l (eUtf s)).1 ⟨7, [], 0, ((addE l (eUtf s)).2 : Int), 0⟩
    have h2 := kaddE_len l (eUtf s)
    omega
  · show l.length ≤ _
    omega
theorem namK_len (l : List Ent) (s t : List UInt8) : (namK l s t).1.length ≤ l.length + 6 := by
  unfold namK
  split
  · simp only
    have h1 := withE_len2 (addE (addE l (eUtf s)).1 (eUtf t)).1 ⟨12, [], 0, ((addE l (eUtf s)).2 : Int), ((addE (addE l (eUtf s)).1 (eUtf t)).2 : Int)⟩
    have h2 := kaddE_len l (eUtf s)
    have h3 := kaddE_len (addE l (eUtf s)).1 (eUtf t)
    omega
  · show l.length ≤ _
    omega


set_option maxHeartbeats 12800000 in
set_option maxRecDepth 100000 in
theorem knumber_ref9 (w : World) (B g m N : Nat) (v : Value) (D : DataW Unit) (l : List Ent) (h : GrR w B g m v N D l) (tx : TX l l.length D) (hr : rightL l) (s1 s2 s3 : List UInt8) (hs1 : s1.length ≤ 140737488355328) (hs2 : s2.length ≤ 140737488355328) (hs3 : s3.length ≤ 140737488355328) (hb1 : textB s1 = true) (hl : l.length ≤ 1900) (hB : B ≤ w.heap.size) :
    Calls Try.prog 49 #[.pointer (some ⟨g, 0, none⟩), cstV ⟨9, 0, s1, s2, s3⟩] w fun e w' => e = .returned (.int .i64 ((numK l ⟨9, 0, s1, s2, s3⟩).2 : Int)) ∧ GrTo w B g m v (numK l ⟨9, 0, s1, s2, s3⟩).1 w' := by
  have hlen := right_len hr
  have HM : Hid (∀ W a n c x, Es W a n l → n ≤ 140737488351232 → (x.tag = 0 ∨ okE l x = true) → Calls Try.prog 45 #[.slice a n c, entV x] W fun e w' => e = .returned (cstV (meanN l x)) ∧ Below W.heap.size W w') := fun W a n c x hE hn hx => kmeaning_any W a n c l hE hr x hx hn
  have HCC : Hid (∀ W x, (binOp .eql 50 (cstV (meanN l x)) (cstV ⟨9, 0, s1, s2, s3⟩)).run Try.prog W = .ok (.bool (decide (meanN l x = ⟨9, 0, s1, s2, s3⟩))) W) := fun W x => cst_cmp W _ _
  have HFOUND : Hid (∀ k : Nat, k < l.length → meanN l (atE l (k : Int)) = ⟨9, 0, s1, s2, s3⟩ → (∀ j : Nat, j < k → meanN l (atE l (j : Int)) ≠ ⟨9, 0, s1, s2, s3⟩) → firstN l ⟨9, 0, s1, s2, s3⟩ = k ∧ numK l ⟨9, 0, s1, s2, s3⟩ = (l, k)) := fun k hk h1 h2 => by
    have hk1 : 1 ≤ k := by
      cases k with
      | zero =>
        have e0 : atE l ((0 : Nat) : Int) = ent0 := by rw [atE_nat, hr.1]; rfl
        have := congrArg Cst.tag h1
        rw [meanN_tag, e0] at this
        simp [ent0] at this
      | succ k => omega
    have e := firstN_eq hk1 hk h1 (fun j hj hjk => h2 j hjk)
    refine ⟨e, ?_⟩
    unfold numK
    rw [e, if_pos (by omega)]
  have HNONE : Hid ((∀ j : Nat, j < l.length → meanN l (atE l (j : Int)) ≠ ⟨9, 0, s1, s2, s3⟩) → firstN l ⟨9, 0, s1, s2, s3⟩ = 0) := fun h1 => by
    by_cases e : firstN l ⟨9, 0, s1, s2, s3⟩ = 0
    · exact e
    · obtain ⟨_, e2, e3⟩ := firstN_some e
      exact absurd e3 (h1 _ e2)
  have b0 : Below w.heap.size w (w.alloc (.cells #[.int .i64 9, .int .i64 0, .string ⟨s1.toArray⟩, .string ⟨s2.toArray⟩, .string ⟨s3.toArray⟩] 50)) := (Below.refl _ _).alloc (Nat.le_refl _) _
  have hc0 := heap_alloc_last w (.cells #[.int .i64 9, .int .i64 0, .string ⟨s1.toArray⟩, .string ⟨s2.toArray⟩, .string ⟨s3.toArray⟩] 50)
  have h0 := h.below b0
  obtain ⟨a, c, rfl⟩ := own5_form h.row
  have c0 := h0.c0
  have HMK : Hid (∀ W, Below w.heap.size w W → GrR W B g m (.slice a l.length c) N D l) := fun W f => h.below f
  have HTX := hide tx
  have BS : Hid (g < w.heap.size ∧ m < w.heap.size ∧ ∀ k, (Value.slice a l.length c).ownBlock = some k → k < w.heap.size) := ⟨h.glt, h.map.lt, fun k hk => (h.row.lt k hk).2⟩
  have hgne : ¬ g = w.heap.size := by have := h.glt; omega
  unfold cstV
  simp only
  have HRT := hide hr
  have HC0 := hide hc0
  have B0 := hide b0
  clear b0 hc0 h0 h tx hr
  generalize hz1 : (⟨s1.toArray⟩ : ByteArray) = z1 at *
  have HZ1 := hide hz1
  clear hz1
  generalize hz2 : (⟨s2.toArray⟩ : ByteArray) = z2 at *
  have HZ2 := hide hz2
  clear hz2
  generalize hz3 : (⟨s3.toArray⟩ : ByteArray) = z3 at *
  have HZ3 := hide hz3
  clear hz3
  go_enter Try.func49, Try.ntmps49
  go_wp2
  generalize w.alloc (.cells #[.int .i64 9, .int .i64 0, .string z1, .string z2, .string z3] 50) = w0 at *
  go_loopw [13] (fun i wr => ∃ k : Nat, k ≤ l.length ∧ i = .int .i64 k ∧ (∀ j : Nat, j < k → meanN l (atE l (j : Int)) ≠ ⟨9, 0, s1, s2, s3⟩) ∧ Below w0.heap.size w0 wr) (fun i _ => l.length - (intOf i).toNat)
  case atStart => exact ⟨0, by omega, rfl, fun j hj => by omega, Below.refl _ _⟩
  case round =>
    obtain ⟨k, hk, rfl, hall, hBl⟩ := hrel
    have HALL := hide hall
    have FW : Hid (Below w.heap.size w wr) := (unhide B0).trans (hBl.mono (unhide B0).size)
    have HBL := hide hBl
    have hcr : wr.heap[w.heap.size]? = some (.cells #[.int .i64 9, .int .i64 0, .string z1, .string z2, .string z3] 50 (0, 0)) := (hBl.block w.heap.size (lt_of_heap (unhide HC0))).trans (unhide HC0)
    have HCR := hide hcr
    have hszr : w.heap.size + 1 ≤ wr.heap.size := lt_of_heap hcr
    clear hall hBl hcr
    by_cases hlt : k < l.length
    · have hlt1 : (k : Int) < (l.length : Int) := by omega
      have gr := unhide HMK wr (unhide FW)
      have es := es_of_own gr.row
      obtain ⟨b, o, rfl, hE⟩ := es.2.resolve_left (by omega)
      obtain ⟨q0, q1, q2, q3, q4⟩ := ents_at hE hlt
      have HX2 : Hid (∀ W, Below wr.heap.size wr W → Calls Try.prog 45 #[.slice (some ⟨b, o, none⟩) l.length c, entV (atE l (k : Int))] W fun e w' => e = .returned (cstV (meanN l (atE l (k : Int)))) ∧ Below W.heap.size W w') := fun W f => unhide HM W _ _ _ _ (es.below f) (by omega) (right_or (unhide HRT) _)
      have HJ := hide (fun W => unhide HCC W (atE l (k : Int)))
      have HD : Hid (∀ X, decide (meanN l (atE l (k : Int)) = ⟨9, 0, s1, s2, s3⟩) = X → (X = true → firstN l ⟨9, 0, s1, s2, s3⟩ = k ∧ numK l ⟨9, 0, s1, s2, s3⟩ = (l, k)) ∧ (X = false → ∀ j : Nat, j < k + 1 → meanN l (atE l (j : Int)) ≠ ⟨9, 0, s1, s2, s3⟩)) := fun X hX => by
        constructor
        · intro e
          rw [e] at hX
          exact unhide HFOUND k hlt (by simpa using hX) (unhide HALL)
        · intro e j hj
          rw [e] at hX
          by_cases ejk : j = k
          · subst ejk
            simpa using hX
          · exact unhide HALL j (by omega)
      obtain ⟨dd, hdd⟩ : ∃ dd, decide (meanN l (atE l (k : Int)) = ⟨9, 0, s1, s2, s3⟩) = dd := ⟨_, rfl⟩
      have HD1 := hide (unhide HD dd hdd)
      have J2 := unhide HJ
      rw [hdd] at J2
      generalize hmm : meanN l (atE l (k : Int)) = mm at *
      generalize atE l (k : Int) = xx at *
      obtain ⟨xt, xtx, xn, xa, xb⟩ := xx
      obtain ⟨mt, mn, m1, m2, m3⟩ := mm
      unfold entV cstV at *
      simp only at q0 q1 q2 q3 q4 J2 HX2
      simp only [unhide HZ1] at J2
      simp only [unhide HZ2] at J2
      simp only [unhide HZ3] at J2
      generalize (⟨xtx.toArray⟩ : ByteArray) = xs at *
      generalize (⟨m1.toArray⟩ : ByteArray) = y1 at *
      generalize (⟨m2.toArray⟩ : ByteArray) = y2 at *
      generalize (⟨m3.toArray⟩ : ByteArray) = y3 at *
      have g0 := gr.c0
      have hgr : g < wr.heap.size := gr.glt
      have GR := hide gr
      clear HJ HD HM HCC hmm hdd gr es hE HFOUND HNONE c0
      go_wp2
      have hb1 : Below wr.heap.size wr (wr.alloc (.cells #[.int .i64 xt, .string xs, .int .i64 xn, .int .i64 xa, .int .i64 xb] 67)) := (Below.refl _ _).alloc (Nat.le_refl _) _
      have hx1 := heap_alloc_last wr (.cells #[.int .i64 xt, .string xs, .int .i64 xn, .int .i64 xa, .int .i64 xb] 67)
      obtain ⟨SS, hSS⟩ : ∃ SS : World → Prop, SS = fun W => Below wr.heap.size wr W ∧ W.heap[wr.heap.size]? = some (.cells #[.int .i64 xt, .string xs, .int .i64 xn, .int .i64 xa, .int .i64 xb] 67 (0, 0)) := ⟨_, rfl⟩
      have KI : Hid (SS (wr.alloc (.cells #[.int .i64 xt, .string xs, .int .i64 xn, .int .i64 xa, .int .i64 xb] 67)).drew) := by
        show SS _
        rw [hSS]
        exact ⟨hb1.drew, hx1⟩
      have KW : Hid (∀ W, SS W → Below wr.heap.size wr W) := fun W h => by
        rw [hSS] at h
        exact h.1
      have KE : Hid (∀ W, SS W → W.cell? ⟨g, 0, none⟩ = some (.slice (some ⟨b, o, none⟩) l.length c) ∧ (W.cell? ⟨wr.heap.size, 0, none⟩ = some (.int .i64 xt) ∧ W.cell? ⟨wr.heap.size, 1, none⟩ = some (.string xs) ∧ W.cell? ⟨wr.heap.size, 2, none⟩ = some (.int .i64 xn) ∧ W.cell? ⟨wr.heap.size, 3, none⟩ = some (.int .i64 xa) ∧ W.cell? ⟨wr.heap.size, 4, none⟩ = some (.int .i64 xb)) ∧ (W.cell? ⟨w.heap.size, 0, none⟩ = some (.int .i64 9) ∧ W.cell? ⟨w.heap.size, 1, none⟩ = some (.int .i64 0) ∧ W.cell? ⟨w.heap.size, 2, none⟩ = some (.string z1) ∧ W.cell? ⟨w.heap.size, 3, none⟩ = some (.string z2) ∧ W.cell? ⟨w.heap.size, 4, none⟩ = some (.string z3))) := fun W h => by
        rw [hSS] at h
        have hc := (h.1.block w.heap.size hszr).trans (unhide HCR)
        have hx := h.2
        exact ⟨((unhide GR).below h.1).c0, ⟨by rw [cell_of_row _ _ _ _ _ _ hx]; rfl, by rw [cell_of_row _ _ _ _ _ _ hx]; rfl, by rw [cell_of_row _ _ _ _ _ _ hx]; rfl, by rw [cell_of_row _ _ _ _ _ _ hx]; rfl, by rw [cell_of_row _ _ _ _ _ _ hx]; rfl⟩, ⟨by rw [cell_of_row _ _ _ _ _ _ hc]; rfl, by rw [cell_of_row _ _ _ _ _ _ hc]; rfl, by rw [cell_of_row _ _ _ _ _ _ hc]; rfl, by rw [cell_of_row _ _ _ _ _ _ hc]; rfl, by rw [cell_of_row _ _ _ _ _ _ hc]; rfl⟩⟩
      have KS : Hid (∀ W W', SS W → Below W.heap.size W W' → SS W') := fun W W' h f => by
        rw [hSS] at h ⊢
        exact ⟨h.1.trans (f.mono h.1.size), (f.block _ (lt_of_heap h.2)).trans h.2⟩
      clear hSS hb1 hx1 q0 q1 q2 q3 q4 g0
      generalize wr.alloc (.cells #[.int .i64 xt, .string xs, .int .i64 xn, .int .i64 xa, .int .i64 xb] 67) = w1 at *
      refine wp_region_seq SS (by kernel_rfl) (by kernel_rfl) (unhide KI) ?_
      repeat (first
        | (refine SeqDo.yields (v := ?_) (by rfl) ?_ ?_; rotate_left; (focus ((intro W hSW; obtain ⟨p0, ⟨p1, p2, p3, p4, p5⟩, ⟨p6, p7, p8, p9, p10⟩⟩ := unhide KE W hSW; go_simp) <;> with_reducible rfl)); simp only [Act.put, List.setIfInBounds_toArray, List.set_cons_zero, List.set_cons_succ])
        | (refine SeqDo.does (v := .agg #[.int .i64 mt, .int .i64 mn, .string y1, .string y2, .string y3]) (by rfl) (fun W hSW KK hKK => ?_) ?_; (focus (go_simp; go_wp2_with (go_at_call 45; refine (unhide HX2 _ (unhide KW _ hSW)).mono ?_; rintro e W' ⟨rfl, fJ⟩); exact hKK.out _ (unhide KS _ _ hSW fJ))); simp only [Act.put, List.setIfInBounds_toArray, List.set_cons_zero, List.set_cons_succ]))
      intro W hSW
      have fW := unhide KW W hSW
      have FW2 : Hid (Below w.heap.size w W) := (unhide FW).trans (fW.mono (unhide FW).size)
      have FB2 : Hid (Below w0.heap.size w0 W) := (unhide HBL).trans (fW.mono (unhide HBL).size)
      clear fW KI KW KE KS hSW HX2 J2
      cases dd
      case true =>
        go_wp2
        go_ret
        obtain ⟨_, e2⟩ := (unhide HD1).1 (by first | rfl | trivial)
        rw [e2]
        exact ⟨rfl, grTo_below (unhide FW2) hB (GrTo.refl (unhide HMK W (unhide FW2)) (unhide HTX))⟩
      case false =>
        go_wp2
        go_roundw
        case rel => exact ⟨k + 1, by omega, by go_num, (unhide HD1).2 (by first | rfl | trivial), unhide FB2⟩
        case measure => simp [intOf]; omega
    · have hkl : ¬ (k : Int) < (l.length : Int) := by omega
      have hf := unhide HNONE (fun j hj => unhide HALL j (by omega))
      have HF := hide hf
      have gr := unhide HMK wr (unhide FW)
      have HGR := hide gr
      have c0r : wr.cell? ⟨w.heap.size, 0, none⟩ = some (.int .i64 9) := by rw [cell_of_row _ _ _ _ _ _ (unhide HCR)]; rfl
      have c1r : wr.cell? ⟨w.heap.size, 1, none⟩ = some (.int .i64 0) := by rw [cell_of_row _ _ _ _ _ _ (unhide HCR)]; rfl
      have c2r : wr.cell? ⟨w.heap.size, 2, none⟩ = some (.string z1) := by rw [cell_of_row _ _ _ _ _ _ (unhide HCR)]; rfl
      have c3r : wr.cell? ⟨w.heap.size, 3, none⟩ = some (.string z2) := by rw [cell_of_row _ _ _ _ _ _ (unhide HCR)]; rfl
      have c4r : wr.cell? ⟨w.heap.size, 4, none⟩ = some (.string z3) := by rw [cell_of_row _ _ _ _ _ _ (unhide HCR)]; rfl
      have c0s := fun X => cell_alloc c0r X
      have c1s := fun X => cell_alloc c1r X
      have c2s := fun X => cell_alloc c2r X
      have c3s := fun X => cell_alloc c3r X
      have c4s := fun X => cell_alloc c4r X
      have b4 : Below wr.heap.size wr (wr.alloc (.cells #[.int .i64 9, .string ⟨#[]⟩, .int .i64 0, .int .i64 0, .int .i64 0] 67)) := (Below.refl _ _).alloc (Nat.le_refl _) _
      have BE : Hid (Beside w (wr.heap.size + 1) B g m (.slice a l.length c) w.heap.size wr.heap.size) := ⟨hB, (unhide BS).1, (unhide BS).2.1, (unhide BS).2.2, Nat.le_refl _, by omega, by omega, by omega, by omega⟩
      have NS0 : Hid (NS w (wr.heap.size + 1) B g m (.slice a l.length c) w.heap.size wr.heap.size #[.int .i64 9, .int .i64 0, .string z1, .string z2, .string z3] #[.int .i64 9, .string ⟨#[]⟩, .int .i64 0, .int .i64 0, .int .i64 0] (.slice a l.length c) N D l (wr.alloc (.cells #[.int .i64 9, .string ⟨#[]⟩, .int .i64 0, .int .i64 0, .int .i64 0] 67))) :=
        ⟨gr.below b4, unhide HTX, .inl rfl, Fr6.of_below ((unhide FW).trans (b4.mono (unhide FW).size)) hB, (b4.block _ (by omega)).trans (unhide HCR), heap_alloc_last wr _, by simp⟩
      clear hf gr b4 HM HCC HFOUND HNONE HALL HBL HC0 B0 HMK HTX BS c0
      go_wp2_with fail
      generalize wr.alloc (.cells #[.int .i64 9, .string ⟨#[]⟩, .int .i64 0, .int .i64 0, .int .i64 0] 67) = w4 at *
      have n0 := unhide NS0
      have hB0 : B ≤ w4.heap.size := Nat.le_trans hB n0.fr.below.size
      have r0 : l[0]? = some ent0 := (unhide HRT).1
      clear NS0 c0r c1r c2r c3r c4r HGR c0s c1s c2s c3s c4s
      have hl1 := clsK_len l s1
      have hl2 := namK_len (clsK l s1).1 s2 s3
      have gc : GN l (clsK l s1).1 (clsK l s1).2 (cCls s1) (fun t => t = 1 ∨ t = 7 ∨ t = 0) := clsK_fine (unhide HRT) hb1
      have r1 := gc.ext.right
      clear gc
      have HT := knumber_class w4 B g m N (.slice a l.length c) D l n0.gr n0.tx (unhide HRT) s1 hs1 (by omega) hB0
      unfold cstV at HT
      simp only at HT
      rw [unhide HZ1] at HT
      refine HT.mono ?_
      rintro e w5 ⟨rfl, tw5⟩
      obtain ⟨vw5, Nw5, Dw5, n5⟩ := n0.call (unhide BE) tw5
      clear HT tw5
      have e1 : Hid (numK l ⟨9, 0, s1, s2, s3⟩ = (withE (namK (clsK l s1).1 s2 s3).1 ⟨9, [], 0, ((clsK l s1).2 : Int), ((namK (clsK l s1).1 s2 s3).2 : Int)⟩, (namK (clsK l s1).1 s2 s3).1.length)) := by
        show numK l _ = _
        unfold numK
        rw [if_neg (by rw [unhide HF]; simp), if_neg (by simp), if_neg (by simp)]
        rfl
      generalize hL : (clsK l s1).1 = L at *
      generalize hK : (clsK l s1).2 = K at *
      clear hL hK
      have xfw5 : ∀ j, w5.frozen? ⟨wr.heap.size, j, none⟩ = false := fun j => frozen_of_row _ _ _ _ _ n5.xb
      have x0w5 : w5.cell? ⟨wr.heap.size, 0, none⟩ = some (.int .i64 9) := by rw [cell_of_row _ _ _ _ _ _ n5.xb]; rfl
      have x1w5 : w5.cell? ⟨wr.heap.size, 1, none⟩ = some (.string ⟨#[]⟩) := by rw [cell_of_row _ _ _ _ _ _ n5.xb]; rfl
      have x2w5 : w5.cell? ⟨wr.heap.size, 2, none⟩ = some (.int .i64 0) := by rw [cell_of_row _ _ _ _ _ _ n5.xb]; rfl
      have x3w5 : w5.cell? ⟨wr.heap.size, 3, none⟩ = some (.int .i64 0) := by rw [cell_of_row _ _ _ _ _ _ n5.xb]; rfl
      have x4w5 : w5.cell? ⟨wr.heap.size, 4, none⟩ = some (.int .i64 0) := by rw [cell_of_row _ _ _ _ _ _ n5.xb]; rfl
      have k0w5 : w5.cell? ⟨w.heap.size, 0, none⟩ = some (.int .i64 9) := by rw [cell_of_row _ _ _ _ _ _ n5.cb]; rfl
      have k1w5 : w5.cell? ⟨w.heap.size, 1, none⟩ = some (.int .i64 0) := by rw [cell_of_row _ _ _ _ _ _ n5.cb]; rfl
      have k2w5 : w5.cell? ⟨w.heap.size, 2, none⟩ = some (.string z1) := by rw [cell_of_row _ _ _ _ _ _ n5.cb]; rfl
      have k3w5 : w5.cell? ⟨w.heap.size, 3, none⟩ = some (.string z2) := by rw [cell_of_row _ _ _ _ _ _ n5.cb]; rfl
      have k4w5 : w5.cell? ⟨w.heap.size, 4, none⟩ = some (.string z3) := by rw [cell_of_row _ _ _ _ _ _ n5.cb]; rfl
      have n6 := n5.set (unhide BE) 3 (.int .i64 (K : Int)) #[.int .i64 9, .string ⟨#[]⟩, .int .i64 0, .int .i64 (K : Int), .int .i64 0] rfl
      go_wp2_with fail
      generalize w5.setCell ⟨wr.heap.size, 3, none⟩ (.int .i64 (K : Int)) = w6 at *
      have hBw6 : B ≤ w6.heap.size := Nat.le_trans hB n6.fr.below.size
      clear xfw5 x0w5 x1w5 x2w5 x3w5 x4w5 k0w5 k1w5 k2w5 k3w5 k4w5
      have HT := knumber_name w6 B g m Nw5 vw5 Dw5 L n6.gr n6.tx r1 s2 s3 hs2 hs3 (by omega) hBw6
      unfold cstV at HT
      simp only at HT
      rw [unhide HZ2, unhide HZ3] at HT
      refine HT.mono ?_
      rintro e w7 ⟨rfl, tw7⟩
      obtain ⟨vw7, Nw7, Dw7, n7⟩ := n6.call (unhide BE) tw7
      clear HT tw7
      generalize hL : (namK L s2 s3).1 = L2 at *
      generalize hK : (namK L s2 s3).2 = K2 at *
      clear hL hK
      have xfw7 : ∀ j, w7.frozen? ⟨wr.heap.size, j, none⟩ = false := fun j => frozen_of_row _ _ _ _ _ n7.xb
      have x0w7 : w7.cell? ⟨wr.heap.size, 0, none⟩ = some (.int .i64 9) := by rw [cell_of_row _ _ _ _ _ _ n7.xb]; rfl
      have x1w7 : w7.cell? ⟨wr.heap.size, 1, none⟩ = some (.string ⟨#[]⟩) := by rw [cell_of_row _ _ _ _ _ _ n7.xb]; rfl
      have x2w7 : w7.cell? ⟨wr.heap.size, 2, none⟩ = some (.int .i64 0) := by rw [cell_of_row _ _ _ _ _ _ n7.xb]; rfl
      have x3w7 : w7.cell? ⟨wr.heap.size, 3, none⟩ = some (.int .i64 (K : Int)) := by rw [cell_of_row _ _ _ _ _ _ n7.xb]; rfl
      have x4w7 : w7.cell? ⟨wr.heap.size, 4, none⟩ = some (.int .i64 0) := by rw [cell_of_row _ _ _ _ _ _ n7.xb]; rfl
      have k0w7 : w7.cell? ⟨w.heap.size, 0, none⟩ = some (.int .i64 9) := by rw [cell_of_row _ _ _ _ _ _ n7.cb]; rfl
      have k1w7 : w7.cell? ⟨w.heap.size, 1, none⟩ = some (.int .i64 0) := by rw [cell_of_row _ _ _ _ _ _ n7.cb]; rfl
      have k2w7 : w7.cell? ⟨w.heap.size, 2, none⟩ = some (.string z1) := by rw [cell_of_row _ _ _ _ _ _ n7.cb]; rfl
      have k3w7 : w7.cell? ⟨w.heap.size, 3, none⟩ = some (.string z2) := by rw [cell_of_row _ _ _ _ _ _ n7.cb]; rfl
      have k4w7 : w7.cell? ⟨w.heap.size, 4, none⟩ = some (.string z3) := by rw [cell_of_row _ _ _ _ _ _ n7.cb]; rfl
      have n8 := n7.set (unhide BE) 4 (.int .i64 (K2 : Int)) #[.int .i64 9, .string ⟨#[]⟩, .int .i64 0, .int .i64 (K : Int), .int .i64 (K2 : Int)] rfl
      go_wp2_with fail
      have HPT := kgput_any _ B g m Nw7 vw7 Dw7 L2 n8.gr ⟨9, [], 0, (K : Int), (K2 : Int)⟩ (by omega) (Nat.le_trans hB n8.fr.below.size)
      unfold entV at HPT
      refine HPT.mono ?_
      rintro e w9 ⟨rfl, pw9⟩
      have tw9 := put_to pw9 n8.tx (by simp)
      obtain ⟨vw9, Nw9, Dw9, n9⟩ := n8.call (unhide BE) tw9
      have Qw9 := hide (n9.done (unhide BE))
      clear HPT pw9 tw9 n9
      go_wp2
      go_ret
      rw [unhide e1]
      exact ⟨rfl, unhide Qw9⟩

set_option maxHeartbeats 12800000 in
set_option maxRecDepth 100000 in
theorem knumber_ref10 (w : World) (B g m N : Nat) (v : Value) (D : DataW Unit) (l : List Ent) (h : GrR w B g m v N D l) (tx : TX l l.length D) (hr : rightL l) (s1 s2 s3 : List UInt8) (hs1 : s1.length ≤ 140737488355328) (hs2 : s2.length ≤ 140737488355328) (hs3 : s3.length ≤ 140737488355328) (hb1 : textB s1 = true) (hl : l.length ≤ 1900) (hB : B ≤ w.heap.size) :
    Calls Try.prog 49 #[.pointer (some ⟨g, 0, none⟩), cstV ⟨10, 0, s1, s2, s3⟩] w fun e w' => e = .returned (.int .i64 ((numK l ⟨10, 0, s1, s2, s3⟩).2 : Int)) ∧ GrTo w B g m v (numK l ⟨10, 0, s1, s2, s3⟩).1 w' := by
  have hlen := right_len hr
  have HM : Hid (∀ W a n c x, Es W a n l → n ≤ 140737488351232 → (x.tag = 0 ∨ okE l x = true) → Calls Try.prog 45 #[.slice a n c, entV x] W fun e w' => e = .returned (cstV (meanN l x)) ∧ Below W.heap.size W w') := fun W a n c x hE hn hx => kmeaning_any W a n c l hE hr x hx hn
  have HCC : Hid (∀ W x, (binOp .eql 50 (cstV (meanN l x)) (cstV ⟨10, 0, s1, s2, s3⟩)).run Try.prog W = .ok (.bool (decide (meanN l x = ⟨10, 0, s1, s2, s3⟩))) W) := fun W x => cst_cmp W _ _
  have HFOUND : Hid (∀ k : Nat, k < l.length → meanN l (atE l (k : Int)) = ⟨10, 0, s1, s2, s3⟩ → (∀ j : Nat, j < k → meanN l (atE l (j : Int)) ≠ ⟨10, 0, s1, s2, s3⟩) → firstN l ⟨10, 0, s1, s2, s3⟩ = k ∧ numK l ⟨10, 0, s1, s2, s3⟩ = (l, k)) := fun k hk h1 h2 => by
    have hk1 : 1 ≤ k := by
      cases k with
      | zero =>
        have e0 : atE l ((0 : Nat) : Int) = ent0 := by rw [atE_nat, hr.1]; rfl
        have := congrArg Cst.tag h1
        rw [meanN_tag, e0] at this
        simp [ent0] at this
      | succ k => omega
    have e := firstN_eq hk1 hk h1 (fun j hj hjk => h2 j hjk)
    refine ⟨e, ?_⟩
    unfold numK
    rw [e, if_pos (by omega)]
  have HNONE : Hid ((∀ j : Nat, j < l.length → meanN l (atE l (j : Int)) ≠ ⟨10, 0, s1, s2, s3⟩) → firstN l ⟨10, 0, s1, s2, s3⟩ = 0) := fun h1 => by
    by_cases e : firstN l ⟨10, 0, s1, s2, s3⟩ = 0
    · exact e
    · obtain ⟨_, e2, e3⟩ := firstN_some e
      exact absurd e3 (h1 _ e2)
  have b0 : Below w.heap.size w (w.alloc (.cells #[.int .i64 10, .int .i64 0, .string ⟨s1.toArray⟩, .string ⟨s2.toArray⟩, .string ⟨s3.toArray⟩] 50)) := (Below.refl _ _).alloc (Nat.le_refl _) _
  have hc0 := heap_alloc_last w (.cells #[.int .i64 10, .int .i64 0, .string ⟨s1.toArray⟩, .string ⟨s2.toArray⟩, .string ⟨s3.toArray⟩] 50)
  have h0 := h.below b0
  obtain ⟨a, c, rfl⟩ := own5_form h.row
  have c0 := h0.c0
  have HMK : Hid (∀ W, Below w.heap.size w W → GrR W B g m (.slice a l.length c) N D l) := fun W f => h.below f
  have HTX := hide tx
  have BS : Hid (g < w.heap.size ∧ m < w.heap.size ∧ ∀ k, (Value.slice a l.length c).ownBlock = some k → k < w.heap.size) := ⟨h.glt, h.map.lt, fun k hk => (h.row.lt k hk).2⟩
  have hgne : ¬ g = w.heap.size := by have := h.glt; omega
  unfold cstV
  simp only
  have HRT := hide hr
  have HC0 := hide hc0
  have B0 := hide b0
  clear b0 hc0 h0 h tx hr
  generalize hz1 : (⟨s1.toArray⟩ : ByteArray) = z1 at *
  have HZ1 := hide hz1
  clear hz1
  generalize hz2 : (⟨s2.toArray⟩ : ByteArray) = z2 at *
  have HZ2 := hide hz2
  clear hz2
  generalize hz3 : (⟨s3.toArray⟩ : ByteArray) = z3 at *
  have HZ3 := hide hz3
  clear hz3
  go_enter Try.func49, Try.ntmps49
  go_wp2
  generalize w.alloc (.cells #[.int .i64 10, .int .i64 0, .string z1, .string z2, .string z3] 50) = w0 at *
  go_loopw [13] (fun i wr => ∃ k : Nat, k ≤ l.length ∧ i = .int .i64 k ∧ (∀ j : Nat, j < k → meanN l (atE l (j : Int)) ≠ ⟨10, 0, s1, s2, s3⟩) ∧ Below w0.heap.size w0 wr) (fun i _ => l.length - (intOf i).toNat)
  case atStart => exact ⟨0, by omega, rfl, fun j hj => by omega, Below.refl _ _⟩
  case round =>
    obtain ⟨k, hk, rfl, hall, hBl⟩ := hrel
    have HALL := hide hall
    have FW : Hid (Below w.heap.size w wr) := (unhide B0).trans (hBl.mono (unhide B0).size)
    have HBL := hide hBl
    have hcr : wr.heap[w.heap.size]? = some (.cells #[.int .i64 10, .int .i64 0, .string z1, .string z2, .string z3] 50 (0, 0)) := (hBl.block w.heap.size (lt_of_heap (unhide HC0))).trans (unhide HC0)
    have HCR := hide hcr
    have hszr : w.heap.size + 1 ≤ wr.heap.size := lt_of_heap hcr
    clear hall hBl hcr
    by_cases hlt : k < l.length
    · have hlt1 : (k : Int) < (l.length : Int) := by omega
      have gr := unhide HMK wr (unhide FW)
      have es := es_of_own gr.row
      obtain ⟨b, o, rfl, hE⟩ := es.2.resolve_left (by omega)
      obtain ⟨q0, q1, q2, q3, q4⟩ := ents_at hE hlt
      have HX2 : Hid (∀ W, Below wr.heap.size wr W → Calls Try.prog 45 #[.slice (some ⟨b, o, none⟩) l.length c, entV (atE l (k : Int))] W fun e w' => e = .returned (cstV (meanN l (atE l (k : Int)))) ∧ Below W.heap.size W w') := fun W f => unhide HM W _ _ _ _ (es.below f) (by omega) (right_or (unhide HRT) _)
      have HJ := hide (fun W => unhide HCC W (atE l (k : Int)))
      have HD : Hid (∀ X, decide (meanN l (atE l (k : Int)) = ⟨10, 0, s1, s2, s3⟩) = X → (X = true → firstN l ⟨10, 0, s1, s2, s3⟩ = k ∧ numK l ⟨10, 0, s1, s2, s3⟩ = (l, k)) ∧ (X = false → ∀ j : Nat, j < k + 1 → meanN l (atE l (j : Int)) ≠ ⟨10, 0, s1, s2, s3⟩)) := fun X hX => by
        constructor
        · intro e
          rw [e] at hX
          exact unhide HFOUND k hlt (by simpa using hX) (unhide HALL)
        · intro e j hj
          rw [e] at hX
          by_cases ejk : j = k
          · subst ejk
            simpa using hX
          · exact unhide HALL j (by omega)
      obtain ⟨dd, hdd⟩ : ∃ dd, decide (meanN l (atE l (k : Int)) = ⟨10, 0, s1, s2, s3⟩) = dd := ⟨_, rfl⟩
      have HD1 := hide (unhide HD dd hdd)
      have J2 := unhide HJ
      rw [hdd] at J2
      generalize hmm : meanN l (atE l (k : Int)) = mm at *
      generalize atE l (k : Int) = xx at *
      obtain ⟨xt, xtx, xn, xa, xb⟩ := xx
      obtain ⟨mt, mn, m1, m2, m3⟩ := mm
      unfold entV cstV at *
      simp only at q0 q1 q2 q3 q4 J2 HX2
      simp only [unhide HZ1] at J2
      simp only [unhide HZ2] at J2
      simp only [unhide HZ3] at J2
      generalize (⟨xtx.toArray⟩ : ByteArray) = xs at *
      generalize (⟨m1.toArray⟩ : ByteArray) = y1 at *
      generalize (⟨m2.toArray⟩ : ByteArray) = y2 at *
      generalize (⟨m3.toArray⟩ : ByteArray) = y3 at *
      have g0 := gr.c0
      have hgr : g < wr.heap.size := gr.glt
      have GR := hide gr
      clear HJ HD HM HCC hmm hdd gr es hE HFOUND HNONE c0
      go_wp2
      have hb1 : Below wr.heap.size wr (wr.alloc (.cells #[.int .i64 xt, .string xs, .int .i64 xn, .int .i64 xa, .int .i64 xb] 67)) := (Below.refl _ _).alloc (Nat.le_refl _) _
      have hx1 := heap_alloc_last wr (.cells #[.int .i64 xt, .string xs, .int .i64 xn, .int .i64 xa, .int .i64 xb] 67)
      obtain ⟨SS, hSS⟩ : ∃ SS : World → Prop, SS = fun W => Below wr.heap.size wr W ∧ W.heap[wr.heap.size]? = some (.cells #[.int .i64 xt, .string xs, .int .i64 xn, .int .i64 xa, .int .i64 xb] 67 (0, 0)) := ⟨_, rfl⟩
      have KI : Hid (SS (wr.alloc (.cells #[.int .i64 xt, .string xs, .int .i64 xn, .int .i64 xa, .int .i64 xb] 67)).drew) := by
        show SS _
        rw [hSS]
        exact ⟨hb1.drew, hx1⟩
      have KW : Hid (∀ W, SS W → Below wr.heap.size wr W) := fun W h => by
        rw [hSS] at h
        exact h.1
      have KE : Hid (∀ W, SS W → W.cell? ⟨g, 0, none⟩ = some (.slice (some ⟨b, o, none⟩) l.length c) ∧ (W.cell? ⟨wr.heap.size, 0, none⟩ = some (.int .i64 xt) ∧ W.cell? ⟨wr.heap.size, 1, none⟩ = some (.string xs) ∧ W.cell? ⟨wr.heap.size, 2, none⟩ = some (.int .i64 xn) ∧ W.cell? ⟨wr.heap.size, 3, none⟩ = some (.int .i64 xa) ∧ W.cell? ⟨wr.heap.size, 4, none⟩ = some (.int .i64 xb)) ∧ (W.cell? ⟨w.heap.size, 0, none⟩ = some (.int .i64 10) ∧ W.cell? ⟨w.heap.size, 1, none⟩ = some (.int .i64 0) ∧ W.cell? ⟨w.heap.size, 2, none⟩ = some (.string z1) ∧ W.cell? ⟨w.heap.size, 3, none⟩ = some (.string z2) ∧ W.cell? ⟨w.heap.size, 4, none⟩ = some (.string z3))) := fun W h => by
        rw [hSS] at h
        have hc := (h.1.block w.heap.size hszr).trans (unhide HCR)
        have hx := h.2
        exact ⟨((unhide GR).below h.1).c0, ⟨by rw [cell_of_row _ _ _ _ _ _ hx]; rfl, by rw [cell_of_row _ _ _ _ _ _ hx]; rfl, by rw [cell_of_row _ _ _ _ _ _ hx]; rfl, by rw [cell_of_row _ _ _ _ _ _ hx]; rfl, by rw [cell_of_row _ _ _ _ _ _ hx]; rfl⟩, ⟨by rw [cell_of_row _ _ _ _ _ _ hc]; rfl, by rw [cell_of_row _ _ _ _ _ _ hc]; rfl, by rw [cell_of_row _ _ _ _ _ _ hc]; rfl, by rw [cell_of_row _ _ _ _ _ _ hc]; rfl, by rw [cell_of_row _ _ _ _ _ _ hc]; rfl⟩⟩
      have KS : Hid (∀ W W', SS W → Below W.heap.size W W' → SS W') := fun W W' h f => by
        rw [hSS] at h ⊢
        exact ⟨h.1.trans (f.mono h.1.size), (f.block _ (lt_of_heap h.2)).trans h.2⟩
      clear hSS hb1 hx1 q0 q1 q2 q3 q4 g0
      generalize wr.alloc (.cells #[.int .i64 xt, .string xs, .int .i64 xn, .int .i64 xa, .int .i64 xb] 67) = w1 at *
      refine wp_region_seq SS (by kernel_rfl) (by kernel_rfl) (unhide KI) ?_
      repeat (first
        | (refine SeqDo.yields (v := ?_) (by rfl) ?_ ?_; rotate_left; (focus ((intro W hSW; obtain ⟨p0, ⟨p1, p2, p3, p4, p5⟩, ⟨p6, p7, p8, p9, p10⟩⟩ := unhide KE W hSW; go_simp) <;> with_reducible rfl)); simp only [Act.put, List.setIfInBounds_toArray, List.set_cons_zero, List.set_cons_succ])
        | (refine SeqDo.does (v := .agg #[.int .i64 mt, .int .i64 mn, .string y1, .string y2, .string y3]) (by rfl) (fun W hSW KK hKK => ?_) ?_; (focus (go_simp; go_wp2_with (go_at_call 45; refine (unhide HX2 _ (unhide KW _ hSW)).mono ?_; rintro e W' ⟨rfl, fJ⟩); exact hKK.out _ (unhide KS _ _ hSW fJ))); simp only [Act.put, List.setIfInBounds_toArray, List.set_cons_zero, List.set_cons_succ]))
      intro W hSW
      have fW := unhide KW W hSW
      have FW2 : Hid (Below w.heap.size w W) := (unhide FW).trans (fW.mono (unhide FW).size)
      have FB2 : Hid (Below w0.heap.size w0 W) := (unhide HBL).trans (fW.mono (unhide HBL).size)
      clear fW KI KW KE KS hSW HX2 J2
      cases dd
      case true =>
        go_wp2
        go_ret
        obtain ⟨_, e2⟩ := (unhide HD1).1 (by first | rfl | trivial)
        rw [e2]
        exact ⟨rfl, grTo_below (unhide FW2) hB (GrTo.refl (unhide HMK W (unhide FW2)) (unhide HTX))⟩
      case false =>
        go_wp2
        go_roundw
        case rel => exact ⟨k + 1, by omega, by go_num, (unhide HD1).2 (by first | rfl | trivial), unhide FB2⟩
        case measure => simp [intOf]; omega
    · have hkl : ¬ (k : Int) < (l.length : Int) := by omega
      have hf := unhide HNONE (fun j hj => unhide HALL j (by omega))
      have HF := hide hf
      have gr := unhide HMK wr (unhide FW)
      have HGR := hide gr
      have c0r : wr.cell? ⟨w.heap.size, 0, none⟩ = some (.int .i64 10) := by rw [cell_of_row _ _ _ _ _ _ (unhide HCR)]; rfl
      have c1r : wr.cell? ⟨w.heap.size, 1, none⟩ = some (.int .i64 0) := by rw [cell_of_row _ _ _ _ _ _ (unhide HCR)]; rfl
      have c2r : wr.cell? ⟨w.heap.size, 2, none⟩ = some (.string z1) := by rw [cell_of_row _ _ _ _ _ _ (unhide HCR)]; rfl
      have c3r : wr.cell? ⟨w.heap.size, 3, none⟩ = some (.string z2) := by rw [cell_of_row _ _ _ _ _ _ (unhide HCR)]; rfl
      have c4r : wr.cell? ⟨w.heap.size, 4, none⟩ = some (.string z3) := by rw [cell_of_row _ _ _ _ _ _ (unhide HCR)]; rfl
      have c0s := fun X => cell_alloc c0r X
      have c1s := fun X => cell_alloc c1r X
      have c2s := fun X => cell_alloc c2r X
      have c3s := fun X => cell_alloc c3r X
      have c4s := fun X => cell_alloc c4r X
      have b4 : Below wr.heap.size wr (wr.alloc (.cells #[.int .i64 10, .string ⟨#[]⟩, .int .i64 0, .int .i64 0, .int .i64 0] 67)) := (Below.refl _ _).alloc (Nat.le_refl _) _
      have BE : Hid (Beside w (wr.heap.size + 1) B g m (.slice a l.length c) w.heap.size wr.heap.size) := ⟨hB, (unhide BS).1, (unhide BS).2.1, (unhide BS).2.2, Nat.le_refl _, by omega, by omega, by omega, by omega⟩
      have NS0 : Hid (NS w (wr.heap.size + 1) B g m (.slice a l.length c) w.heap.size wr.heap.size #[.int .i64 10, .int .i64 0, .string z1, .string z2, .string z3] #[.int .i64 10, .string ⟨#[]⟩, .int .i64 0, .int .i64 0, .int .i64 0] (.slice a l.length c) N D l (wr.alloc (.cells #[.int .i64 10, .string ⟨#[]⟩, .int .i64 0, .int .i64 0, .int .i64 0] 67))) :=
        ⟨gr.below b4, unhide HTX, .inl rfl, Fr6.of_below ((unhide FW).trans (b4.mono (unhide FW).size)) hB, (b4.block _ (by omega)).trans (unhide HCR), heap_alloc_last wr _, by simp⟩
      clear hf gr b4 HM HCC HFOUND HNONE HALL HBL HC0 B0 HMK HTX BS c0
      go_wp2_with fail
      generalize wr.alloc (.cells #[.int .i64 10, .string ⟨#[]⟩, .int .i64 0, .int .i64 0, .int .i64 0] 67) = w4 at *
      have n0 := unhide NS0
      have hB0 : B ≤ w4.heap.size := Nat.le_trans hB n0.fr.below.size
      have r0 : l[0]? = some ent0 := (unhide HRT).1
      clear NS0 c0r c1r c2r c3r c4r HGR c0s c1s c2s c3s c4s
      have hl1 := clsK_len l s1
      have hl2 := namK_len (clsK l s1).1 s2 s3
      have gc : GN l (clsK l s1).1 (clsK l s1).2 (cCls s1) (fun t => t = 1 ∨ t = 7 ∨ t = 0) := clsK_fine (unhide HRT) hb1
      have r1 := gc.ext.right
      clear gc
      have HT := knumber_class w4 B g m N (.slice a l.length c) D l n0.gr n0.tx (unhide HRT) s1 hs1 (by omega) hB0
      unfold cstV at HT
      simp only at HT
      rw [unhide HZ1] at HT
      refine HT.mono ?_
      rintro e w5 ⟨rfl, tw5⟩
      obtain ⟨vw5, Nw5, Dw5, n5⟩ := n0.call (unhide BE) tw5
      clear HT tw5
      have e1 : Hid (numK l ⟨10, 0, s1, s2, s3⟩ = (withE (namK (clsK l s1).1 s2 s3).1 ⟨10, [], 0, ((clsK l s1).2 : Int), ((namK (clsK l s1).1 s2 s3).2 : Int)⟩, (namK (clsK l s1).1 s2 s3).1.length)) := by
        show numK l _ = _
        unfold numK
        rw [if_neg (by rw [unhide HF]; simp), if_neg (by simp), if_neg (by simp)]
        rfl
      generalize hL : (clsK l s1).1 = L at *
      generalize hK : (clsK l s1).2 = K at *
      clear hL hK
      have xfw5 : ∀ j, w5.frozen? ⟨wr.heap.size, j, none⟩ = false := fun j => frozen_of_row _ _ _ _ _ n5.xb
      have x0w5 : w5.cell? ⟨wr.heap.size, 0, none⟩ = some (.int .i64 10) := by rw [cell_of_row _ _ _ _ _ _ n5.xb]; rfl
      have x1w5 : w5.cell? ⟨wr.heap.size, 1, none⟩ = some (.string ⟨#[]⟩) := by rw [cell_of_row _ _ _ _ _ _ n5.xb]; rfl
      have x2w5 : w5.cell? ⟨wr.heap.size, 2, none⟩ = some (.int .i64 0) := by rw [cell_of_row _ _ _ _ _ _ n5.xb]; rfl
      have x3w5 : w5.cell? ⟨wr.heap.size, 3, none⟩ = some (.int .i64 0) := by rw [cell_of_row _ _ _ _ _ _ n5.xb]; rfl
      have x4w5 : w5.cell? ⟨wr.heap.size, 4, none⟩ = some (.int .i64 0) := by rw [cell_of_row _ _ _ _ _ _ n5.xb]; rfl
      have k0w5 : w5.cell? ⟨w.heap.size, 0, none⟩ = some (.int .i64 10) := by rw [cell_of_row _ _ _ _ _ _ n5.cb]; rfl
      have k1w5 : w5.cell? ⟨w.heap.size, 1, none⟩ = some (.int .i64 0) := by rw [cell_of_row _ _ _ _ _ _ n5.cb]; rfl
      have k2w5 : w5.cell? ⟨w.heap.size, 2, none⟩ = some (.string z1) := by rw [cell_of_row _ _ _ _ _ _ n5.cb]; rfl
      have k3w5 : w5.cell? ⟨w.heap.size, 3, none⟩ = some (.string z2) := by rw [cell_of_row _ _ _ _ _ _ n5.cb]; rfl
      have k4w5 : w5.cell? ⟨w.heap.size, 4, none⟩ = some (.string z3) := by rw [cell_of_row _ _ _ _ _ _ n5.cb]; rfl
      have n6 := n5.set (unhide BE) 3 (.int .i64 (K : Int)) #[.int .i64 10, .string ⟨#[]⟩, .int .i64 0, .int .i64 (K : Int), .int .i64 0] rfl
      go_wp2_with fail
      generalize w5.setCell ⟨wr.heap.size, 3, none⟩ (.int .i64 (K : Int)) = w6 at *
      have hBw6 : B ≤ w6.heap.size := Nat.le_trans hB n6.fr.below.size
      clear xfw5 x0w5 x1w5 x2w5 x3w5 x4w5 k0w5 k1w5 k2w5 k3w5 k4w5
      have HT := knumber_name w6 B g m Nw5 vw5 Dw5 L n6.gr n6.tx r1 s2 s3 hs2 hs3 (by omega) hBw6
      unfold cstV at HT
      simp only at HT
      rw [unhide HZ2, unhide HZ3] at HT
      refine HT.mono ?_
      rintro e w7 ⟨rfl, tw7⟩
      obtain ⟨vw7, Nw7, Dw7, n7⟩ := n6.call (unhide BE) tw7
      clear HT tw7
      generalize hL : (namK L s2 s3).1 = L2 at *
      generalize hK : (namK L s2 s3).2 = K2 at *
      clear hL hK
      have xfw7 : ∀ j, w7.frozen? ⟨wr.heap.size, j, none⟩ = false := fun j => frozen_of_row _ _ _ _ _ n7.xb
      have x0w7 : w7.cell? ⟨wr.heap.size, 0, none⟩ = some (.int .i64 10) := by rw [cell_of_row _ _ _ _ _ _ n7.xb]; rfl
      have x1w7 : w7.cell? ⟨wr.heap.size, 1, none⟩ = some (.string ⟨#[]⟩) := by rw [cell_of_row _ _ _ _ _ _ n7.xb]; rfl
      have x2w7 : w7.cell? ⟨wr.heap.size, 2, none⟩ = some (.int .i64 0) := by rw [cell_of_row _ _ _ _ _ _ n7.xb]; rfl
      have x3w7 : w7.cell? ⟨wr.heap.size, 3, none⟩ = some (.int .i64 (K : Int)) := by rw [cell_of_row _ _ _ _ _ _ n7.xb]; rfl
      have x4w7 : w7.cell? ⟨wr.heap.size, 4, none⟩ = some (.int .i64 0) := by rw [cell_of_row _ _ _ _ _ _ n7.xb]; rfl
      have k0w7 : w7.cell? ⟨w.heap.size, 0, none⟩ = some (.int .i64 10) := by rw [cell_of_row _ _ _ _ _ _ n7.cb]; rfl
      have k1w7 : w7.cell? ⟨w.heap.size, 1, none⟩ = some (.int .i64 0) := by rw [cell_of_row _ _ _ _ _ _ n7.cb]; rfl
      have k2w7 : w7.cell? ⟨w.heap.size, 2, none⟩ = some (.string z1) := by rw [cell_of_row _ _ _ _ _ _ n7.cb]; rfl
      have k3w7 : w7.cell? ⟨w.heap.size, 3, none⟩ = some (.string z2) := by rw [cell_of_row _ _ _ _ _ _ n7.cb]; rfl
      have k4w7 : w7.cell? ⟨w.heap.size, 4, none⟩ = some (.string z3) := by rw [cell_of_row _ _ _ _ _ _ n7.cb]; rfl
      have n8 := n7.set (unhide BE) 4 (.int .i64 (K2 : Int)) #[.int .i64 10, .string ⟨#[]⟩, .int .i64 0, .int .i64 (K : Int), .int .i64 (K2 : Int)] rfl
      go_wp2_with fail
      have HPT := kgput_any _ B g m Nw7 vw7 Dw7 L2 n8.gr ⟨10, [], 0, (K : Int), (K2 : Int)⟩ (by omega) (Nat.le_trans hB n8.fr.below.size)
      unfold entV at HPT
      refine HPT.mono ?_
      rintro e w9 ⟨rfl, pw9⟩
      have tw9 := put_to pw9 n8.tx (by simp)
      obtain ⟨vw9, Nw9, Dw9, n9⟩ := n8.call (unhide BE) tw9
      have Qw9 := hide (n9.done (unhide BE))
      clear HPT pw9 tw9 n9
      go_wp2
      go_ret
      rw [unhide e1]
      exact ⟨rfl, unhide Qw9⟩

end Go.Proofs.Ytjpimcglojneaaa

/- The landed pool: growingFrom. -/
namespace Go.Proofs.Ytjpimcglojneaaa
open Go.RowKit Go.Maps
set_option linter.unusedVariables false

set_option maxHeartbeats 1600000 in
theorem kclone_any (w : World) (a : Option Addr) (n c : Nat) (l : List Ent) (h : EArg w a n c l) (hn : n * 48 ≤ 140737488351232) (h1 : 1 ≤ n) :
    Calls Try.prog 69 #[.slice a n c] w fun e w' => ∃ v, e = .returned v ∧ w'.ownsRow w.heap.size 67 5 v n (ev l) ∧ Below w.heap.size w w' := by
  obtain ⟨b, o, rfl, hE⟩ := h.es.2.resolve_left (by omega)
  have hown := ents_none w w.heap.size (Nat.le_refl _)
  have HB := hide (h.es.below ((Below.refl _ _).alloc (Nat.le_refl _) (.cells #[] 67)))
  have HN := hide h.nil
  have q : ∀ (w : World) (a : Option Addr) (n c n' c' : Nat), (binOp .eql 29 (.slice a n c) (.slice none n' c')).run Try.prog w = .ok (.bool a.isNone) w := fun w a n c n' c' => Lib.run_eql_slice_nil w _ _ a n c n' c' Try.underlying29
  clear h hE
  go_enter Try.func69, Try.ntmps69
  go_wp2_with (at_builtin; refine listE_append rfl _ _ rfl w.heap.size _ 0 [] rfl hown _ n c l rfl (unhide HB) (unhide HN) (by omega) (by simp) ?_)
  intro v' w1 o1 g1
  have hb1 : Below w.heap.size w w1 := ((Below.refl _ _).alloc (Nat.le_refl _) _).grown g1 (by simp) (fun k hk => by simp [Value.ownBlock] at hk; omega)
  have HO := hide o1
  have HB1 := hide hb1
  clear o1 g1 hb1 hown HB HN
  go_wp2
  go_ret
  exact ⟨_, rfl, unhide HO, unhide HB1⟩

theorem eUtf_of {l : List Ent} (hr : rightL l) {k : Nat} (hk : k < l.length) (ht : (atE l (k : Int)).tag = 1) : l[k]? = some (eUtf (atE l (k : Int)).text) := by
  have ho := right_ok hr (i := (k : Int)) (by omega)
  have e : l[k]? = some (atE l (k : Int)) := by rw [atE_nat, List.getElem?_eq_getElem hk]; rfl
  rw [e]
  unfold okE at ho
  simp [ht] at ho
  exact congrArg some ho.2
theorem not_eUtf {l : List Ent} {k : Nat} (hk : k < l.length) (ht : (atE l (k : Int)).tag ≠ 1) : ∀ s, l[k]? ≠ some (eUtf s) := fun s e => by
  have e2 : l[k]? = some (atE l (k : Int)) := by rw [atE_nat, List.getElem?_eq_getElem hk]; rfl
  rw [e2] at e
  injection e with e
  rw [e] at ht
  exact ht rfl

set_option maxHeartbeats 6400000 in
set_option maxRecDepth 100000 in
theorem kfrom_any (w : World) (a : Option Addr) (n c : Nat) (l : List Ent) (h : EArg w a n c l) (hn : n * 48 ≤ 140737488351232) (hr : rightL l) (hT : ∀ x ∈ l, x.text.length ≤ 140737488355328) :
    Calls Try.prog 48 #[.slice a n c] w fun e w' => ∃ g m v N D, e = .returned (.pointer (some ⟨g, 0, none⟩)) ∧ GrR w' w.heap.size g m v N D l ∧ TX l l.length D ∧ Below w.heap.size w w' := by
  have hln := h.es.1
  have hlen := right_len hr
  have HC := hide (kclone_any w a n c l h hn (by omega))
  have HA := hide h
  have hmm := @run_makeMap Try.prog
  clear h
  go_enter Try.func48, Try.ntmps48
  go_wp2_with fail
  refine (unhide HC).mono ?_
  rintro e w1 ⟨v, rfl, o1, f1⟩
  obtain ⟨a1, c1, rfl⟩ := own5_form o1
  have O1 := hide o1
  have F1 := hide f1
  clear o1 f1 HC
  go_wp2
  have b2 : Below w1.heap.size w1 ((w1.alloc (.map #[] 0)).alloc (.cells #[.slice a1 n c1, .map (some w1.heap.size)] 85)) := ((Below.refl _ _).alloc (Nat.le_refl _) _).alloc (by simp) _
  have f2 := (unhide F1).trans (b2.mono (unhide F1).size)
  have G0 : Hid (GrR ((w1.alloc (.map #[] 0)).alloc (.cells #[.slice a1 n c1, .map (some w1.heap.size)] 85)) w.heap.size (w1.heap.size + 1) w1.heap.size (.slice a1 n c1) 0 (.map []) l) := by
    have o1 := unhide O1
    have hlt : ∀ k, (Value.slice a1 n c1).ownBlock = some k → k < w1.heap.size := fun k hk => (o1.lt k hk).2
    have hs1 := (unhide F1).size
    refine ⟨by omega, hs1, by omega, fun e => ?_, fun e => ?_, heap_alloc2_new w1 _ _, ?_, ?_, by omega⟩
    · have := hlt _ e; omega
    · have := hlt _ e; omega
    · rw [hln]
      exact own_of_block o1 (fun k hk => b2.block k (hlt k hk))
    · have := World.ownsMap_made (H := Unit) w1 Try.prog 9 (plainElem Try.prog 3)
      exact ownsMap_keep this (heap_alloc_old _ _ (by simp))
  have F2 := hide f2
  have hsz : w.heap.size ≤ ((w1.alloc (.map #[] 0)).alloc (.cells #[.slice a1 n c1, .map (some w1.heap.size)] 85)).heap.size := f2.size
  clear b2 f2 O1 F1 hmm hsz
  generalize hgg : w1.heap.size + 1 = g at *
  generalize hm0 : w1.heap.size = m at *
  generalize (w1.alloc (.map #[] 0)).alloc (.cells #[.slice a1 n c1, .map (some m)] 85) = w2 at *
  clear hgg hm0
  go_loopw [15] (fun i wr => ∃ (k : Nat) (D : DataW Unit), k ≤ n ∧ i = .int .i64 k ∧ GrR wr w.heap.size g m (.slice a1 n c1) k D l ∧ TX l k D ∧ Below w.heap.size w wr) (fun i _ => n - (intOf i).toNat)
  case atStart => exact ⟨0, .map [], by omega, rfl, unhide G0, TX.start l, unhide F2⟩
  case round =>
    obtain ⟨k, D, hk, rfl, hG, hTX, hBl⟩ := hrel
    by_cases hlt : k < n
    case neg =>
      have hkn : k = n := by omega
      subst hkn
      have R : Hid (∃ g' m' v' N' D', Value.pointer (some ⟨g, 0, none⟩) = .pointer (some ⟨g', 0, none⟩) ∧ GrR wr w.heap.size g' m' v' N' D' l ∧ TX l l.length D' ∧ Below w.heap.size w wr) := ⟨g, m, _, _, D, rfl, hG, by rw [hln]; exact hTX, hBl⟩
      clear hG hTX hBl G0 F2 HA
      go_wp2
      go_ret
      obtain ⟨g', m', v', N', D', e1, e2, e3, e4⟩ := unhide R
      exact ⟨g', m', v', N', D', congrArg Ending.returned e1, e2, e3, e4⟩
    case pos =>
      have hlt1 : (k : Int) < (n : Int) := by omega
      have hk0 : (0 : Int) ≤ (k : Int) := by omega
      have es := (unhide HA).es.below hBl
      obtain ⟨b, o, rfl, hE⟩ := es.2.resolve_left (by omega)
      obtain ⟨q0, q1, q2, q3, q4⟩ := ents_at hE (k := k) (by omega)
      have hxm := List.mem_of_getElem? (es.at hlt)
      have hkey := kkey (hT _ hxm)
      have HU : Hid ((atE l (k : Int)).tag = 1 → l[k]? = some (eUtf (atE l (k : Int)).text)) := fun ht => eUtf_of hr (by omega) ht
      have HN : Hid ((atE l (k : Int)).tag ≠ 1 → ∀ s, l[k]? ≠ some (eUtf s)) := fun ht => not_eUtf (by omega) ht
      generalize atE l (k : Int) = xx at *
      obtain ⟨xt, xtx, xn, xa, xb⟩ := xx
      simp only at q0 q1 q2 q3 q4 hkey HU HN
      have hc1 := hG.c1
      have hglt := hG.glt
      have hmlt := hG.map.lt
      have HG := hide hG
      have HBL := hide hBl
      have HTX := hide hTX
      obtain ⟨xs, hxs⟩ : ∃ xs, (⟨xtx.toArray⟩ : ByteArray) = xs := ⟨_, rfl⟩
      rw [hxs] at q1 hkey
      have HXS := hide hxs
      obtain ⟨cc, hcr, hcat, _⟩ := hG.map.lookup_int klaw Try.underlying83 Try.underlying3 (kzero _) hkey
      have HCA := hide hcat
      obtain ⟨hh, hhh⟩ : ∃ hh, has D (.string xtx) = hh := ⟨_, rfl⟩
      have HHH := hide hhh
      clear hG hTX hBl es hE hxm hcr hcat hhh hxs
      go_wp2
      have hb1 : Below wr.heap.size wr (wr.alloc (.cells #[.int .i64 xt, .string xs, .int .i64 xn, .int .i64 xa, .int .i64 xb] 67)) := (Below.refl _ _).alloc (Nat.le_refl _) _
      have hx1 := heap_alloc_last wr (.cells #[.int .i64 xt, .string xs, .int .i64 xn, .int .i64 xa, .int .i64 xb] 67)
      have HB1 := hide hb1
      have HX1 := hide hx1
      have hgne : ¬ g = wr.heap.size := by omega
      have hmne : ¬ m = wr.heap.size := by omega
      clear q0 q1 q2 q3 q4 hc1 hb1 hx1
      generalize wr.alloc (.cells #[.int .i64 xt, .string xs, .int .i64 xn, .int .i64 xa, .int .i64 xb] 67) = w3 at *
      have g3 := (unhide HG).below (unhide HB1)
      obtain ⟨SS, hSS⟩ : ∃ SS : World → Prop, SS = fun W => Below w3.heap.size w3 W := ⟨_, rfl⟩
      have KI : Hid (SS w3.drew) := by
        show SS _
        rw [hSS]
        exact (Below.refl _ _).drew
      have KW : Hid (∀ W, SS W → Below w3.heap.size w3 W) := fun W h => by
        rw [hSS] at h
        exact h
      have KE : Hid (∀ W, SS W → W.cell? ⟨g, 1, none⟩ = some (.map (some m)) ∧ (W.cell? ⟨wr.heap.size, 0, none⟩ = some (.int .i64 xt) ∧ W.cell? ⟨wr.heap.size, 1, none⟩ = some (.string xs)) ∧ (Instr.lookup 83 (.map (some m)) (.string xs) true).run Try.prog W = .ok (.tuple #[.int .i64 cc, .bool hh]) W) := fun W h => by
        rw [hSS] at h
        have hx := (h.block _ (lt_of_heap (unhide HX1))).trans (unhide HX1)
        refine ⟨(g3.below h).c1, ⟨by rw [cell_of_row _ _ _ _ _ _ hx]; rfl, by rw [cell_of_row _ _ _ _ _ _ hx]; rfl⟩, ?_⟩
        obtain ⟨vv, ps, hrun, hv⟩ := (g3.below h).map.look_ok klaw Try.underlying83 (kzero _) (plainElem_int Try.underlying3 (int_wf (n := 0) (by omega))) hkey
        obtain ⟨c2, rfl, hc2, _⟩ := plainElem_int_inv Try.underlying3 hv
        have hc3 := congrArg Prod.fst hc2
        have hc4 : DataW.lit (Lit.int .i64 cc) = DataW.lit (Lit.int .i64 c2) := (unhide HCA).symm.trans hc3
        injection hc4 with hc4
        injection hc4 with _ hc4
        rw [hrun, unhide HHH, hc4]
      clear hSS
      refine wp_region_seq SS (by kernel_rfl) (by kernel_rfl) (unhide KI) ?_
      repeat (first
        | (refine SeqDo.yields (v := ?_) (by rfl) ?_ ?_; rotate_left; (focus ((intro W hSW; obtain ⟨p0, ⟨p1, p2⟩, p3⟩ := unhide KE W hSW; go_simp) <;> with_reducible rfl)); simp only [Act.put, List.setIfInBounds_toArray, List.set_cons_zero, List.set_cons_succ]))
      intro W hSW
      obtain ⟨p0, ⟨p1, p2⟩, _⟩ := unhide KE W hSW
      have fW := unhide KW W hSW
      have g4 := g3.below fW
      have hx4 := (fW.block _ (lt_of_heap (unhide HX1))).trans (unhide HX1)
      have f4 := (unhide HBL).trans (((unhide HB1).trans (fW.mono (unhide HB1).size)).mono (unhide HBL).size)
      have G4 := hide g4
      have F4 := hide f4
      have HX4 := hide hx4
      clear KI KW KE hSW fW g3 g4 f4 hx4 HB1 HX1
      by_cases ht : xt = 1
      case neg =>
        have ht' : (xt == 1) = false := by simpa using ht
        have T5 := hide ((unhide HTX).skip (unhide HN ht))
        clear ht
        go_wp2
        go_roundw
        case rel => exact ⟨k + 1, D, by omega, by go_num, ⟨(unhide G4).hg, (unhide G4).hm, (unhide G4).gm, (unhide G4).vg, (unhide G4).vm, (unhide G4).blk, (unhide G4).row, (unhide G4).map.mono (by omega), by omega⟩, unhide T5, unhide F4⟩
        case measure => simp [intOf]; omega
      case pos =>
        subst ht
        cases hh
        case true =>
          have T5 := hide ((unhide HTX).there (unhide HHH) (unhide HU rfl))
          go_wp2
          go_roundw
          case rel => exact ⟨k + 1, D, by omega, by go_num, ⟨(unhide G4).hg, (unhide G4).hm, (unhide G4).gm, (unhide G4).vg, (unhide G4).vm, (unhide G4).blk, (unhide G4).row, (unhide G4).map.mono (by omega), by omega⟩, unhide T5, unhide F4⟩
          case measure => simp [intOf]; omega
        case false =>
          have T5 := hide ((unhide HTX).new (unhide G4).map.isMap (unhide HHH) (unhide HU rfl))
          have hkN : k < maxLen := by unfold maxLen; omega
          obtain ⟨w5, hrun5, own5, gr5⟩ := ((unhide G4).map.drew).update klaw Try.underlying83 hkN hkey (plainElem_int (H := Unit) (P := Try.prog) Try.underlying3 (a := (k : Int)) (q := .i64) (int_wf (by omega)))
          have hb5 : ∀ j, j < W.heap.size → j ≠ m → w5.heap[j]? = W.heap[j]? := fun j hj hjm => gr5.block j hj (fun e => hjm (by injection e))
          have g5 : GrR w5 w.heap.size g m (.slice a1 n c1) (k + 1) (D.put (.string xtx) (.lit (.int .i64 (k : Int)))) l := by
            have p := unhide G4
            refine ⟨p.hg, p.hm, p.gm, p.vg, p.vm, (hb5 g p.glt p.gm).trans p.blk, ?_, own5, by omega⟩
            refine own_of_block p.row (fun j hj => hb5 j (p.row.lt j hj).2 (fun e => ?_))
            subst e
            exact p.vm hj
          have f5 : Below w.heap.size w w5 := (unhide F4).trans (((Below.refl w.heap.size W).drew).grown gr5 (unhide F4).size (fun j hj => by injection hj with hj; subst hj; exact (unhide G4).hm))
          have hx5 := (hb5 wr.heap.size (lt_of_heap (unhide HX4)) (fun e => hmne e.symm)).trans (unhide HX4)
          have s0 := g5.c1
          have s1 : w5.cell? ⟨wr.heap.size, 1, none⟩ = some (.string xs) := by rw [cell_of_row _ _ _ _ _ _ hx5]; rfl
          have G5 := hide g5
          have F5 := hide f5
          clear own5 gr5 hb5 g5 f5 hx5
          go_wp2
          go_region_held (fun W' => W'.cell? ⟨g, 1, none⟩ = some (.map (some m)) ∧ W'.cell? ⟨wr.heap.size, 1, none⟩ = some (.string xs)) (go_keep) (fail)
          go_wp2
          go_roundw
          case rel => exact ⟨k + 1, _, by omega, by go_num, unhide G5, unhide T5, unhide F5⟩
          case measure => simp [intOf]; omega

end Go.Proofs.Ytjpimcglojneaaa

/- The landed pool: Put. -/
namespace Go.Proofs.Ytjpimcglojneaaa
open Go.RowKit Go.Maps
set_option linter.unusedVariables false

theorem knumber_any (w : World) (B g m N : Nat) (v : Value) (D : DataW Unit) (l : List Ent) (h : GrR w B g m v N D l) (tx : TX l l.length D) (hr : rightL l) (k : Cst) (hk : CstFit k) (hc : rightC k = true) (hl : l.length ≤ 1024) (hB : B ≤ w.heap.size) :
    Calls Try.prog 49 #[.pointer (some ⟨g, 0, none⟩), cstV k] w fun e w' => e = .returned (.int .i64 ((numK l k).2 : Int)) ∧ GrTo w B g m v (numK l k).1 w' := by
  obtain ⟨tag, n, s1, s2, s3⟩ := k
  obtain ⟨hk0, hk1, hk2, hk3, hk4⟩ := hk
  simp only at hk0 hk1 hk2 hk3 hk4
  have ht := rightC_tags hc
  simp only at ht
  rcases ht with rfl | rfl | rfl | rfl | rfl
  · have e : s1 = [] ∧ s2 = [] ∧ s3 = [] := by
      unfold rightC at hc
      simp at hc
      exact hc.1
    obtain ⟨rfl, rfl, rfl⟩ := e
    exact knumber_num3 w B g m N v D l h tx hr n (by omega) hB
  · have e : s1 = [] ∧ s2 = [] ∧ s3 = [] := by
      unfold rightC at hc
      simp at hc
      exact hc
    obtain ⟨rfl, rfl, rfl⟩ := e
    exact knumber_num5 w B g m N v D l h tx hr n (by omega) hB
  · have e : n = 0 ∧ s2 = [] ∧ s3 = [] := by
      unfold rightC at hc
      simp at hc
      exact hc.1
    obtain ⟨rfl, rfl, rfl⟩ := e
    have hn : numK l ⟨7, 0, s1, [], []⟩ = clsK l s1 := by
      unfold numK clsK cCls
      by_cases h0 : firstN l ⟨7, 0, s1, [], []⟩ = 0
      · rw [if_neg (by rw [h0]; simp), if_neg (by simp), if_pos rfl, if_pos h0]
      · rw [if_pos h0, if_neg h0]
    rw [hn]
    exact knumber_class w B g m N v D l h tx hr s1 hk2 (by omega) hB
  · have e : n = 0 ∧ textB s1 = true := by
      unfold rightC at hc
      simp at hc
      exact hc.1.1
    obtain ⟨rfl, hb⟩ := e
    exact knumber_ref9 w B g m N v D l h tx hr s1 s2 s3 hk2 hk3 hk4 hb (by omega) hB
  · have e : n = 0 ∧ textB s1 = true := by
      unfold rightC at hc
      simp at hc
      exact hc.1.1
    obtain ⟨rfl, hb⟩ := e
    exact knumber_ref10 w B g m N v D l h tx hr s1 s2 s3 hk2 hk3 hk4 hb (by omega) hB

theorem numK_len {l : List Ent} {k : Cst} : (numK l k).1.length ≤ l.length + 20 := by
  unfold numK
  repeat' split
  · show l.length ≤ _
    omega
  · simp only
    have h1 := withE_len2 l ⟨k.tag, [], k.n, 0, 0⟩
    omega
  · have := clsK_len l k.cls
    omega
  · unfold refK
    simp only
    have h1 := clsK_len l k.cls
    have h2 := namK_len (clsK l k.cls).1 k.name k.type
    have h3 := withE_len2 (namK (clsK l k.cls).1 k.name k.type).1 ⟨k.tag, [], 0, ((clsK l k.cls).2 : Int), ((namK (clsK l k.cls).1 k.name k.type).2 : Int)⟩
    omega

set_option maxHeartbeats 6400000 in
set_option maxRecDepth 100000 in
theorem kPut_any (w : World) (a : Option Addr) (n c : Nat) (l : List Ent) (h : EArg w a n c l) (k : Cst) (hk : CstFit k) (hn : n * 48 ≤ 140737488351232) (hf : (∀ x ∈ l, x.text.length ≤ 140737488355328) ∧ ∀ x ∈ l, EntFit x) :
    Calls Try.prog 29 #[.slice a n c, cstV k] w (PutE w (putK l k)) := by
  have b0 : Below w.heap.size w (w.alloc (.cells #[.int .i64 k.tag, .int .i64 k.n, .string ⟨k.cls.toArray⟩, .string ⟨k.name.toArray⟩, .string ⟨k.type.toArray⟩] 50)) := (Below.refl _ _).alloc (Nat.le_refl _) _
  have hc0 := heap_alloc_last w (.cells #[.int .i64 k.tag, .int .i64 k.n, .string ⟨k.cls.toArray⟩, .string ⟨k.name.toArray⟩, .string ⟨k.type.toArray⟩] 50)
  have HC := hide (kCheck_any _ a n c l (h.below b0).es (by omega) hf)
  have KC : Hid (∀ W, Below (w.alloc (.cells #[.int .i64 k.tag, .int .i64 k.n, .string ⟨k.cls.toArray⟩, .string ⟨k.name.toArray⟩, .string ⟨k.type.toArray⟩] 50)).heap.size (w.alloc (.cells #[.int .i64 k.tag, .int .i64 k.n, .string ⟨k.cls.toArray⟩, .string ⟨k.name.toArray⟩, .string ⟨k.type.toArray⟩] 50)) W → W.cell? ⟨w.heap.size, 0, none⟩ = some (.int .i64 k.tag) ∧ W.cell? ⟨w.heap.size, 1, none⟩ = some (.int .i64 k.n) ∧ W.cell? ⟨w.heap.size, 2, none⟩ = some (.string ⟨k.cls.toArray⟩) ∧ W.cell? ⟨w.heap.size, 3, none⟩ = some (.string ⟨k.name.toArray⟩) ∧ W.cell? ⟨w.heap.size, 4, none⟩ = some (.string ⟨k.type.toArray⟩)) := fun W f => cstC ((f.block _ (lt_of_heap hc0)).trans hc0)
  have B0 := hide b0
  by_cases hc : checkP l = true
  case neg =>
    have e1 : putK l k = ([], 0, 70) := if_pos (by simpa using hc)
    rw [if_neg hc] at HC
    rw [e1]
    unfold cstV
    clear h e1 hc b0 hc0 KC
    generalize (⟨k.cls.toArray⟩ : ByteArray) = s1 at *
    generalize (⟨k.name.toArray⟩ : ByteArray) = s2 at *
    generalize (⟨k.type.toArray⟩ : ByteArray) = s3 at *
    go_enter Try.func29, Try.ntmps29
    go_wp2_with fail
    generalize w.alloc (.cells #[.int .i64 k.tag, .int .i64 k.n, .string s1, .string s2, .string s3] 50) = w0 at *
    refine (unhide HC).mono ?_
    rintro e w1 ⟨rfl, f1⟩
    have F1 := hide ((unhide B0).trans (f1.mono (unhide B0).size))
    clear f1 HC B0
    go_wp2
    go_ret3
    exact ⟨⟨none, 0, rfl, earg_nil _⟩, unhide F1⟩
  rw [if_pos hc] at HC
  have hrt := (checkP_right.1 hc).2
  have hlen := (checkP_right.1 hc).1
  have HM : Hid (∀ W, Calls Try.prog 47 #[cstV k] W fun e w' => e = .returned (.bool (rightC k)) ∧ Below W.heap.size W w') := fun W => kcanMean_any W k hk
  by_cases hrc : rightC k = true
  case neg =>
    have hrc' : rightC k = false := by simpa using hrc
    have e1 : putK l k = ([], 0, 2) := by
      unfold putK
      rw [if_neg (by rw [hc]; simp), if_pos hrc']
    rw [e1]
    rw [hrc'] at HM
    unfold cstV at *
    clear h e1 hc b0 hc0 hrc hrc' hrt
    generalize (⟨k.cls.toArray⟩ : ByteArray) = s1 at *
    generalize (⟨k.name.toArray⟩ : ByteArray) = s2 at *
    generalize (⟨k.type.toArray⟩ : ByteArray) = s3 at *
    go_enter Try.func29, Try.ntmps29
    go_wp2_with fail
    generalize w.alloc (.cells #[.int .i64 k.tag, .int .i64 k.n, .string s1, .string s2, .string s3] 50) = w0 at *
    refine (unhide HC).mono ?_
    rintro e w1 ⟨rfl, f1⟩
    obtain ⟨q0, q1, q2, q3, q4⟩ := unhide KC w1 f1
    have F1 := hide ((unhide B0).trans (f1.mono (unhide B0).size))
    clear f1 HC B0 KC
    go_wp2_with fail
    refine (unhide HM w1).mono ?_
    rintro e w2 ⟨rfl, f2⟩
    have F2 := hide ((unhide F1).trans (f2.mono (unhide F1).size))
    clear f2 HM F1 q0 q1 q2 q3 q4
    go_wp2
    go_ret3
    exact ⟨⟨none, 0, rfl, earg_nil _⟩, unhide F2⟩
  rw [hrc] at HM
  have hln := h.es.1
  have HF : Hid (∀ W, Below w.heap.size w W → Calls Try.prog 48 #[.slice a n c] W fun e w' => ∃ g m v N D, e = .returned (.pointer (some ⟨g, 0, none⟩)) ∧ GrR w' W.heap.size g m v N D l ∧ TX l l.length D ∧ Below W.heap.size W w') := fun W f => kfrom_any W a n c l (h.below f) hn hrt hf.1
  have HK : Hid (∀ W B g m v N D, GrR W B g m v N D l → TX l l.length D → B ≤ W.heap.size → Calls Try.prog 49 #[.pointer (some ⟨g, 0, none⟩), cstV k] W fun e w' => e = .returned (.int .i64 ((numK l k).2 : Int)) ∧ GrTo W B g m v (numK l k).1 w') := fun W B g m v N D h1 h2 h3 => knumber_any W B g m N v D l h1 h2 hrt k hk hrc (by omega) h3
  have e1 : putK l k = if 1024 < (numK l k).1.length then ([], 0, 3) else ((numK l k).1, ((numK l k).2 : Int), 0) := by
    unfold putK
    rw [if_neg (by rw [hc]; simp), if_neg (by rw [hrc]; simp)]
  have hnl := numK_len (l := l) (k := k)
  obtain ⟨PR, hPR⟩ : ∃ PR, PR = putK l k := ⟨_, rfl⟩
  rw [← hPR]
  rw [e1] at hPR
  have HPR := hide hPR
  generalize hL : (numK l k).1 = L at *
  generalize hKK : (numK l k).2 = K at *
  unfold cstV at *
  clear h e1 hc b0 hc0 hrc hrt hL hKK hPR
  generalize (⟨k.cls.toArray⟩ : ByteArray) = s1 at *
  generalize (⟨k.name.toArray⟩ : ByteArray) = s2 at *
  generalize (⟨k.type.toArray⟩ : ByteArray) = s3 at *
  go_enter Try.func29, Try.ntmps29
  go_wp2_with fail
  generalize w.alloc (.cells #[.int .i64 k.tag, .int .i64 k.n, .string s1, .string s2, .string s3] 50) = w0 at *
  refine (unhide HC).mono ?_
  rintro e w1 ⟨rfl, f1⟩
  obtain ⟨q0, q1, q2, q3, q4⟩ := unhide KC w1 f1
  have F0 := hide f1
  clear f1 HC
  go_wp2_with fail
  refine (unhide HM w1).mono ?_
  rintro e w2 ⟨rfl, f2⟩
  have F2 := hide ((unhide F0).trans (f2.mono (unhide F0).size))
  clear f2 HM F0 q0 q1 q2 q3 q4
  have HF2 := hide (unhide HF w2 ((unhide B0).trans ((unhide F2).mono (unhide B0).size)))
  clear HF
  go_wp2_with fail
  refine (unhide HF2).mono ?_
  rintro e w3 ⟨g, m, v, N, D, rfl, g3, t3, f3⟩
  have f3' := (unhide F2).trans (f3.mono (unhide F2).size)
  obtain ⟨q0, q1, q2, q3, q4⟩ := unhide KC w3 f3'
  have F3 := hide f3'
  have HK3 := hide (unhide HK w3 _ g m v N D g3 t3 f3.size)
  have hsz2 : w.heap.size ≤ w2.heap.size := Nat.le_trans (unhide B0).size (unhide F2).size
  clear HK HF2 KC f3 f3' g3 t3
  go_wp2_with fail
  refine (unhide HK3).mono ?_
  rintro e w4 ⟨rfl, v4, N4, D4, g4, t4, o4, fr4⟩
  have f4 := (unhide B0).trans (((unhide F3).mono (unhide B0).size).trans (fr4.below.mono hsz2))
  have hr4 := g4.row
  obtain ⟨a4, c4, rfl⟩ := own5_form hr4
  have d0 := g4.c0
  have E4 := hide (earg_of_own hr4)
  have F4 := hide f4
  clear HK3 F3 q0 q1 q2 q3 q4 g4 t4 o4 fr4 f4 hr4
  by_cases hbig : 1024 < L.length
  · have hbig' : (1024 : Int) < (L.length : Int) := by omega
    go_wp2
    go_ret3
    rw [unhide HPR, if_pos hbig]
    exact ⟨⟨none, 0, rfl, earg_nil _⟩, unhide F4⟩
  · have hbig' : ¬ (1024 : Int) < (L.length : Int) := by omega
    go_wp2
    go_ret3
    rw [unhide HPR, if_neg hbig]
    exact ⟨⟨a4, c4, rfl, unhide E4⟩, unhide F4⟩

end Go.Proofs.Ytjpimcglojneaaa
