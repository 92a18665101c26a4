/- The landed pool: a pool that grows, in memory; put. -/
import Derived.Test.YtchhjieciiaooaaPkG
import Derived.Test.YtchhjieciiaooaaWdQ
import Derived.Maps.OwnSet
namespace Go.Proofs.Ytchhjieciiaooaa
open Go.RowKit
set_option linter.unusedVariables false

/-- A map of the first number of each text, of the first k entries. -/
structure TX (l : List Ent) (k : Nat) (D : DataW Unit) : Prop where
  no : ∀ s : List UInt8, Maps.has D (.string s) = false → ∀ j, j < k → l[j]? ≠ some (eUtf s)
  yes : ∀ s : List UInt8, Maps.has D (.string s) = true → ∃ j : Nat, D.atKey (.string s) (.lit (.int .i64 0)) = .lit (.int .i64 (j : Int)) ∧ j < k ∧ l[j]? = some (eUtf s) ∧ ∀ i, i < j → l[i]? ≠ some (eUtf s)
theorem eUtf_inj {s t : List UInt8} (h : eUtf s = eUtf t) : s = t := by
  injection h
theorem TX.start (l : List Ent) : TX l 0 (.map []) := ⟨fun s _ j hj => by omega, fun s h => by cases h⟩
theorem TX.skip {l : List Ent} {k : Nat} {D : DataW Unit} (h : TX l k D) (hk : ∀ s, l[k]? ≠ some (eUtf s)) : TX l (k + 1) D := by
  refine ⟨fun s hs j hj => ?_, fun s hs => ?_⟩
  · by_cases e : j = k
    · subst e; exact hk s
    · exact h.no s hs j (by omega)
  · obtain ⟨j, h1, h2, h3, h4⟩ := h.yes s hs
    exact ⟨j, h1, by omega, h3, h4⟩
theorem TX.there {l : List Ent} {k : Nat} {D : DataW Unit} {s0 : List UInt8} (h : TX l k D) (h0 : Maps.has D (.string s0) = true) (hk : l[k]? = some (eUtf s0)) : TX l (k + 1) D := by
  refine ⟨fun s hs j hj => ?_, fun s hs => ?_⟩
  · by_cases e : j = k
    · subst e
      rw [hk]
      intro e
      injection e with e
      rw [eUtf_inj e] at h0
      rw [h0] at hs
      cases hs
    · exact h.no s hs j (by omega)
  · obtain ⟨j, h1, h2, h3, h4⟩ := h.yes s hs
    exact ⟨j, h1, by omega, h3, h4⟩
theorem TX.new {l : List Ent} {k : Nat} {D : DataW Unit} {s0 : List UInt8} (h : TX l k D) (hm : Maps.IsMap D) (h0 : Maps.has D (.string s0) = false) (hk : l[k]? = some (eUtf s0)) : TX l (k + 1) (D.put (.string s0) (.lit (.int .i64 (k : Int)))) := by
  refine ⟨fun s hs j hj => ?_, fun s hs => ?_⟩
  · by_cases es : s = s0
    · subst es
      rw [Maps.has_put_same hm (k := .string s) True.intro] at hs
      cases hs
    · rw [Maps.has_put_other (fun e => es (by injection e))] at hs
      by_cases e : j = k
      · subst e
        rw [hk]
        intro e
        injection e with e
        exact es (eUtf_inj e).symm
      · exact h.no s hs j (by omega)
  · by_cases es : s = s0
    · subst es
      exact ⟨k, Maps.atKey_put_same hm (k := .string s) True.intro _ _, by omega, hk, fun i hi => h.no s h0 i hi⟩
    · rw [Maps.has_put_other (fun e => es (by injection e))] at hs
      obtain ⟨j, h1, h2, h3, h4⟩ := h.yes s hs
      exact ⟨j, by rw [Maps.atKey_put_other (fun e => es (by injection e))]; exact h1, by omega, h3, h4⟩
theorem TX.find {l : List Ent} {D : DataW Unit} (h : TX l l.length D) (h0 : l[0]? = some ent0) (s : List UInt8) :
    (Maps.has D (.string s) = false → findE l (eUtf s) = 0) ∧ (Maps.has D (.string s) = true → D.atKey (.string s) (.lit (.int .i64 0)) = .lit (.int .i64 (findE l (eUtf s) : Int)) ∧ findE l (eUtf s) ≠ 0) := by
  constructor
  · intro hs
    by_cases hf : findE l (eUtf s) = 0
    · exact hf
    · obtain ⟨h1, h2, h3⟩ := findE_some hf
      exact absurd h3 (h.no s hs _ h2)
  · intro hs
    obtain ⟨j, h1, h2, h3, h4⟩ := h.yes s hs
    have hj : 1 ≤ j := by
      cases j with
      | zero =>
        rw [h0] at h3
        injection h3 with h3
        have := congrArg Ent.tag h3
        simp [ent0, eUtf] at this
      | succ j => omega
    have e : findE l (eUtf s) = j := first_eq (p := fun i => decide (l[i]? = some (eUtf s))) hj h2 (by simpa using h3) (fun i _ hi => by simpa using h4 i hi)
    rw [e]
    exact ⟨h1, by omega⟩
theorem TX.more {l e : List Ent} {D : DataW Unit} (h : TX l l.length D) (he : ∀ s, eUtf s ∉ e) : TX (l ++ e) (l ++ e).length D := by
  refine ⟨fun s hs j hj => ?_, fun s hs => ?_⟩
  · by_cases hjl : j < l.length
    · rw [List.getElem?_append_left hjl]
      exact h.no s hs j hjl
    · intro e1
      rw [List.getElem?_append_right (by omega)] at e1
      exact he s (List.mem_of_getElem? e1)
  · obtain ⟨j, h1, h2, h3, h4⟩ := h.yes s hs
    refine ⟨j, h1, by simp; omega, by rw [List.getElem?_append_left h2]; exact h3, fun i hi => ?_⟩
    rw [List.getElem?_append_left (by omega)]
    exact h4 i hi
theorem TX.text {l : List Ent} {D : DataW Unit} {s0 : List UInt8} (h : TX l l.length D) (hm : Maps.IsMap D) (h0 : Maps.has D (.string s0) = false) : TX (l ++ [eUtf s0]) (l ++ [eUtf s0]).length (D.put (.string s0) (.lit (.int .i64 (l.length : Int)))) := by
  have h1 : TX (l ++ [eUtf s0]) l.length D := by
    refine ⟨fun s hs j hj => ?_, fun s hs => ?_⟩
    · rw [List.getElem?_append_left hj]
      exact h.no s hs j hj
    · obtain ⟨j, h1, h2, h3, h4⟩ := h.yes s hs
      refine ⟨j, h1, h2, by rw [List.getElem?_append_left h2]; exact h3, fun i hi => ?_⟩
      rw [List.getElem?_append_left (by omega)]
      exact h4 i hi
  have := h1.new hm h0 (by rw [List.getElem?_append_right (Nat.le_refl _), Nat.sub_self]; rfl)
  simpa using this

/-- A growing pool: its block g, its map m, its entries v. -/
structure GrR (w : World) (B g m : Nat) (v : Value) (N : Nat) (D : DataW Unit) (l : List Ent) : Prop where
  hg : B ≤ g
  hm : B ≤ m
  gm : g ≠ m
  vg : v.ownBlock ≠ some g
  vm : v.ownBlock ≠ some m
  blk : w.heap[g]? = some (.cells #[v, .map (some m)] 85 (0, 0))
  row : w.ownsRow B 67 5 v l.length (ev l)
  map : w.ownsMap Try.prog 9 (plainElem (H := Unit) Try.prog 3) m N D
  room : N ≤ l.length
theorem GrR.c0 {w : World} {B g m N : Nat} {v : Value} {D : DataW Unit} {l : List Ent} (h : GrR w B g m v N D l) : w.cell? ⟨g, 0, none⟩ = some v := by rw [cell_of_row _ _ _ _ _ _ h.blk]; rfl
theorem GrR.c1 {w : World} {B g m N : Nat} {v : Value} {D : DataW Unit} {l : List Ent} (h : GrR w B g m v N D l) : w.cell? ⟨g, 1, none⟩ = some (.map (some m)) := by rw [cell_of_row _ _ _ _ _ _ h.blk]; rfl
theorem GrR.fz {w : World} {B g m N : Nat} {v : Value} {D : DataW Unit} {l : List Ent} (h : GrR w B g m v N D l) (j : Nat) : w.frozen? ⟨g, j, none⟩ = false := frozen_of_row _ _ _ _ _ h.blk
theorem GrR.glt {w : World} {B g m N : Nat} {v : Value} {D : DataW Unit} {l : List Ent} (h : GrR w B g m v N D l) : g < w.heap.size := lt_of_heap h.blk
theorem ownsMap_keep {w w' : World} {m N : Nat} {D : DataW Unit} (h : w.ownsMap Try.prog 9 (plainElem (H := Unit) Try.prog 3) m N D) (e : w'.heap[m]? = w.heap[m]?) : w'.ownsMap Try.prog 9 (plainElem (H := Unit) Try.prog 3) m N D := by
  obtain ⟨es, clock, h1, h2⟩ := h
  exact ⟨es, clock, e.trans h1, h2⟩
theorem GrR.keep {w w' : World} {B g m N : Nat} {v : Value} {D : DataW Unit} {l : List Ent} (h : GrR w B g m v N D l) (hk : ∀ k, (k = g ∨ k = m ∨ v.ownBlock = some k) → w'.heap[k]? = w.heap[k]?) : GrR w' B g m v N D l :=
  ⟨h.hg, h.hm, h.gm, h.vg, h.vm, (hk g (.inl rfl)).trans h.blk, own_of_block h.row (fun k e => hk k (.inr (.inr e))), ownsMap_keep h.map (hk m (.inr (.inl rfl))), h.room⟩
theorem GrR.below {w w' : World} {B g m N : Nat} {v : Value} {D : DataW Unit} {l : List Ent} (h : GrR w B g m v N D l) (f : Below w.heap.size w w') : GrR w' B g m v N D l :=
  h.keep (fun k hk => by
    rcases hk with rfl | rfl | hk
    · exact f.block _ h.glt
    · exact f.block _ h.map.lt
    · exact f.block _ (h.row.lt k hk).2)

/-- What put leaves. -/
def Put1 (w : World) (B g m : Nat) (v : Value) (N : Nat) (D : DataW Unit) (l : List Ent) (x : Ent) (w' : World) : Prop :=
  ∃ v', GrR w' B g m v' N D (withE l x) ∧ (v'.ownBlock = v.ownBlock ∨ ∀ k, v'.ownBlock = some k → w.heap.size ≤ k) ∧ Fr6 (fun k => k = g ∨ k = m ∨ v.ownBlock = some k) B w w'

theorem put_step {w W w7 : World} {B g m N q cap H : Nat} {v : Value} {D : DataW Unit} {l : List Ent} {x : Ent} (h : GrR w B g m v N D l) (hB : B ≤ w.heap.size) (f : Below w.heap.size w W)
    (o7 : w7.ownsRow B 67 5 (.slice (some ⟨q, 0, none⟩) (l.length + 1) cap) (l.length + 1) (ev l ++ ev [x])) (g7 : W.grownBy w7 v.ownBlock) (hat : v.ownBlock = some q ∨ q = H) (hH : w.heap.size ≤ H) :
    GrR (w7.setCell ⟨g, 0, none⟩ (.slice (some ⟨q, 0, none⟩) (l.length + 1) cap)) B g m (.slice (some ⟨q, 0, none⟩) (l.length + 1) cap) N D (l ++ [x]) ∧ (Value.ownBlock (.slice (some ⟨q, 0, none⟩) (l.length + 1) cap) = v.ownBlock ∨ ∀ k, Value.ownBlock (.slice (some ⟨q, 0, none⟩) (l.length + 1) cap) = some k → w.heap.size ≤ k) ∧
      Fr6 (fun k => k = g ∨ k = m ∨ v.ownBlock = some k) B w (w7.setCell ⟨g, 0, none⟩ (.slice (some ⟨q, 0, none⟩) (l.length + 1) cap)) := by
  have glt := h.glt
  have mlt := h.map.lt
  have hqg : q ≠ g := fun e => by
    subst e
    rcases hat with e | e
    · exact h.vg e
    · omega
  have hqm : q ≠ m := fun e => by
    subst e
    rcases hat with e | e
    · exact h.vm e
    · omega
  have hold : ∀ k, k < w.heap.size → v.ownBlock ≠ some k → w7.heap[k]? = w.heap[k]? := fun k hk hv => (g7.block k (Nat.lt_of_lt_of_le hk f.size) (fun e => hv e.symm)).trans (f.block k hk)
  have hset : ∀ k, k ≠ g → (w7.setCell ⟨g, 0, none⟩ (.slice (some ⟨q, 0, none⟩) (l.length + 1) cap)).heap[k]? = w7.heap[k]? := fun k hk => Below.heap_setCell _ _ _ _ hk
  have e8 : ev (l ++ [x]) = ev l ++ ev [x] := ev_append l [x]
  have hb7 : Below B w w7 := (f.mono hB).grown g7 (Nat.le_trans hB f.size) (fun k hk => (h.row.lt k hk).1)
  refine ⟨⟨h.hg, h.hm, h.gm, ?_, ?_, ?_, ?_, ?_, by have := h.room; simp; omega⟩, ?_, ?_, ?_⟩
  · simp only [Value.ownBlock]
    intro e
    injection e with e
    exact hqg e
  · simp only [Value.ownBlock]
    intro e
    injection e with e
    exact hqm e
  · exact heap_setCell_same w7 g 0 _ _ _ ((hold g glt h.vg).trans h.blk)
  · rw [e8, List.length_append]
    refine own_of_block o7 (fun k hk => hset k (fun e => ?_))
    simp only [Value.ownBlock] at hk
    injection hk with hk
    omega
  · exact ownsMap_keep h.map ((hset m (fun e => h.gm e.symm)).trans (hold m mlt h.vm))
  · rcases hat with e | e
    · left
      rw [e]
      rfl
    · right
      intro k hk
      simp only [Value.ownBlock] at hk
      injection hk with hk
      omega
  · exact hb7.setCell (p := ⟨g, 0, none⟩) h.hg _
  · intro k hk hF
    rw [hset k (fun e => hF (.inl e))]
    exact hold k hk (fun e => hF (.inr (.inr e)))

theorem put_old {w W w7 : World} {B g m N : Nat} {v : Value} {D : DataW Unit} {l : List Ent} (h : GrR w B g m v N D l) (f : Below w.heap.size w W) (g7 : W.grownBy w7 v.ownBlock) :
    w7.cell? ⟨g, 0, none⟩ = some v ∧ w7.frozen? ⟨g, 0, none⟩ = false := by
  have hb : w7.heap[g]? = some (.cells #[v, .map (some m)] 85 (0, 0)) := (g7.block g (Nat.lt_of_lt_of_le h.glt f.size) (fun e => h.vg e.symm)).trans ((f.block g h.glt).trans h.blk)
  exact ⟨by rw [cell_of_row _ _ _ _ _ _ hb]; rfl, frozen_of_row _ _ _ _ _ hb⟩
theorem put_box {w w0 W w7 : World} {B g m N : Nat} {v : Value} {D : DataW Unit} {l : List Ent} {X : Obj} (h : GrR w B g m v N D l) (h0 : w0.heap[w.heap.size]? = some X) (f : Below w0.heap.size w0 W) (g7 : W.grownBy w7 v.ownBlock) : w7.heap[w.heap.size]? = some X :=
  (g7.block _ (Nat.lt_of_lt_of_le (lt_of_heap h0) f.size) (fun e => by have := (h.row.lt _ e.symm).2; omega)).trans ((f.block _ (lt_of_heap h0)).trans h0)
theorem fr6_trans {F F1 : Nat → Prop} {B : Nat} {w w1 w2 : World} (f1 : Fr6 F B w w1) (f2 : Fr6 F1 B w1 w2) (hF : ∀ k, F1 k → F k ∨ w.heap.size ≤ k) : Fr6 F B w w2 :=
  ⟨f1.below.trans f2.below, fun k hk hn => (f2.other k (Nat.lt_of_lt_of_le hk f1.below.size) (fun h => (hF k h).elim hn (fun h => by omega))).trans (f1.other k hk hn)⟩
theorem stepE_lies {w : World} {ops : Array Oper} {o : Oper} {a : Act} {K : Act → World → Prop} {Q : Exit → Act → World → Prop} {E : Prop} (hgd : o.guard = none) (s x : Operand) (ho : o.op = .call { callee := .builtin .append, args := #[s, x], argTypes := #[29, 29] })
    (base : Nat) (v : Value) (n : Nat) (xs : List Ent) (hs : a.eval s = v) (hown : w.ownsRow base 67 5 v n (ev xs)) (src : Addr) (y : Ent) (hx : a.eval x = .slice (some src) 1 1) (hb : EntsAt w (some src) [y])
    (hsm : (n + 1) * 48 ≤ 140737488355328) (hbase : base ≤ w.heap.size) (H : Nat) (hH : w.heap.size = H) (h : ∀ q cap w', w'.ownsRow base 67 5 (.slice (some ⟨q, 0, none⟩) (n + 1) cap) (n + 1) (ev xs ++ ev [y]) → w.grownBy w' v.ownBlock → (v.ownBlock = some q ∨ q = H) → K (a.put o.dst (.slice (some ⟨q, 0, none⟩) (n + 1) cap)) w') :
    if Region.wanted o (yielded ops a.tmps) = true then Oper.wp Try.prog o a w K Q else E := by
  rw [if_pos (by simp [Region.wanted, hgd])]
  obtain ⟨i0, hi, hz0, hz1, hz2⟩ := info_parts infoE
  refine wp_append_lies w s x 29 ho base 67 i0 (.agg #[.int .i64 0, .string ⟨#[]⟩, .int .i64 0, .int .i64 0, .int .i64 0]) 5 48 Try.underlying29 hi hz0 hz1 hz2 rfl (by decide) v n (ev xs) hs hown src 1 1 (ev [y]) hx rfl (hb src rfl) (ev_one _) (by omega) (by unfold maxLen; omega) hsm hbase H hH ?_
  intro q cap w' h1 h2 h3 h4
  exact h q cap w' h1 h2 h3
theorem listE_lies {w : World} {ops : Array Oper} {rest : List Oper} {o : Oper} {a : Act} {Q : Exit → Act → World → Prop} (hgd : o.guard = none) (s x : Operand) (ho : o.op = .call { callee := .builtin .append, args := #[s, x], argTypes := #[29, 29] })
    (base : Nat) (v : Value) (n : Nat) (xs : List Ent) (hs : a.eval s = v) (hown : w.ownsRow base 67 5 v n (ev xs)) (src : Addr) (y : Ent) (hx : a.eval x = .slice (some src) 1 1) (hb : EntsAt w (some src) [y])
    (hsm : (n + 1) * 48 ≤ 140737488355328) (hbase : base ≤ w.heap.size) (H : Nat) (hH : w.heap.size = H) (h : ∀ q cap w', w'.ownsRow base 67 5 (.slice (some ⟨q, 0, none⟩) (n + 1) cap) (n + 1) (ev xs ++ ev [y]) → w.grownBy w' v.ownBlock → (v.ownBlock = some q ∨ q = H) → wpList Try.prog ops Q rest (a.put o.dst (.slice (some ⟨q, 0, none⟩) (n + 1) cap)) w') :
    wpList Try.prog ops Q (o :: rest) a w := by
  obtain ⟨i0, hi, hz0, hz1, hz2⟩ := info_parts infoE
  refine wpList_plain hgd fun K hK => wp_append_lies w s x 29 ho base 67 i0 (.agg #[.int .i64 0, .string ⟨#[]⟩, .int .i64 0, .int .i64 0, .int .i64 0]) 5 48 Try.underlying29 hi hz0 hz1 hz2 rfl (by decide) v n (ev xs) hs hown src 1 1 (ev [y]) hx rfl (hb src rfl) (ev_one _) (by omega) (by unfold maxLen; omega) hsm hbase H hH ?_
  intro q cap w' h1 h2 h3 h4
  exact hK _ _ (h q cap w' h1 h2 h3)

set_option maxHeartbeats 3200000 in
set_option maxRecDepth 100000 in
theorem kgput_any (w : World) (B g m N : Nat) (v : Value) (D : DataW Unit) (l : List Ent) (h : GrR w B g m v N D l) (x : Ent) (hl : l.length ≤ 10000) (hB : B ≤ w.heap.size) :
    Calls Try.prog 71 #[.pointer (some ⟨g, 0, none⟩), entV x] w fun e w' => e = .returned (.int .i64 (l.length : Int)) ∧ Put1 w B g m v N D l x w' := by
  have b0 : Below w.heap.size w (w.alloc (.cells #[.int .i64 x.tag, .string ⟨x.text.toArray⟩, .int .i64 x.n, .int .i64 x.a, .int .i64 x.b] 67)) := (Below.refl _ _).alloc (Nat.le_refl _) _
  have hl0 := heap_alloc_last w (.cells #[.int .i64 x.tag, .string ⟨x.text.toArray⟩, .int .i64 x.n, .int .i64 x.a, .int .i64 x.b] 67)
  have h0 := h.below b0
  have c0 := h0.c0
  have fz := h0.fz 0
  have glt := h.glt
  obtain ⟨a, c, rfl⟩ := own5_form h.row
  obtain ⟨d0, d1, d2, d3, d4⟩ := entC hl0
  unfold entV
  have ne0 : ¬ g = w.heap.size := by omega
  have ne0' : ¬ w.heap.size = g := by omega
  have HG0 := hide h0
  have HL0 := hide hl0
  have B0 := hide b0
  have HG := hide h
  clear b0 hl0 h0 h
  go_enter Try.func71, Try.ntmps71
  go_wp2
  generalize w.alloc (.cells #[.int .i64 x.tag, .string ⟨x.text.toArray⟩, .int .i64 x.n, .int .i64 x.a, .int .i64 x.b] 67) = w0 at *
  have own0 := (unhide HG0).row
  have hsz0 : B ≤ w0.heap.size := Nat.le_trans hB (unhide B0).size
  have KF : Hid (∀ W, Below w0.heap.size w0 W → Below w.heap.size w W) := fun W f => (unhide B0).trans (f.mono (unhide B0).size)
  have hw0 : w.heap.size + 1 ≤ w0.heap.size := lt_of_heap (unhide HL0)
  have cA : ∀ X, (w0.alloc X).cell? ⟨g, 0, none⟩ = some (.slice a l.length c) := fun X => cell_alloc c0 X
  have dA0 : ∀ X, (w0.alloc X).cell? ⟨w.heap.size, 0, none⟩ = some (.int .i64 x.tag) := fun X => cell_alloc d0 X
  have HN : Hid (∀ W, Calls Try.prog 54 #[.int .i64 x.tag] W fun e w' => e = .returned (.int .i64 (if x.tag = 5 then 2 else 1)) ∧ w' = W) := fun W => knumbers_any W x.tag
  go_region_law (first
    | (refine stepE_lies rfl (.tmp 15) (.tmp 17) rfl B _ l.length l (by rfl) (by first | exact own0.alloc _ | exact (own0.alloc _).drew) _ x (by rfl) (by exact es_of_block (heap_alloc_last _ _)) (by omega) (by first | exact Nat.le_trans hsz0 (by simp) | exact hsz0) _ rfl ?_; intro q7 cap7 w7 o7 g7 hat7; have P7 := hide (put_step (unhide HG) hB (unhide KF _ (by repeat (first | exact Below.refl _ _ | refine Below.drew ?_ | refine Below.alloc ?_ (by first | exact Nat.le_refl _ | (simp; done)) _))) o7 g7 hat7 (by simp; omega)); obtain ⟨kg7, fz7⟩ := put_old (unhide HG) (unhide KF _ (by repeat (first | exact Below.refl _ _ | refine Below.drew ?_ | refine Below.alloc ?_ (by first | exact Nat.le_refl _ | (simp; done)) _))) g7; have X7 := hide (put_box (unhide HG) (unhide HL0) (by repeat (first | exact Below.refl _ _ | refine Below.drew ?_ | refine Below.alloc ?_ (by first | exact Nat.le_refl _ | (simp; done)) _)) g7)))
  all_goals
    obtain ⟨p8, hat8, fr8⟩ := unhide P7
    have hx8 : (w7.setCell ⟨g, 0, none⟩ (.slice (some ⟨q7, 0, none⟩) (l.length + 1) cap7)).heap[w.heap.size]? = _ := (Below.heap_setCell _ _ _ _ ne0').trans (unhide X7)
    generalize w7.setCell ⟨g, 0, none⟩ (.slice (some ⟨q7, 0, none⟩) (l.length + 1) cap7) = w8 at *
    obtain ⟨k0, _, _, _, _⟩ := entC hx8
    have c8 := p8.c0
    have z8 := p8.fz 0
    have HX8 := hide hx8
    have HP8 := hide p8
    have HF8 := hide fr8
    have HA8 := hide hat8
    clear P7 X7 kg7 fz7 hat7 g7 o7 p8 hat8 fr8 hx8 cA dA0 d0 d1 d2 d3 d4 c0 fz own0 KF HL0 HG0
    by_cases h5 : x.tag = 5
    · have hw5 : withE l x = l ++ [x] ++ [ent0] := by unfold withE; rw [if_pos h5]; simp
      have HW5 := hide hw5
      rw [h5] at HN k0
      clear hw5
      go_wp2_with fail
      refine (unhide HN w8).mono ?_
      rintro e w9 ⟨rfl, e0⟩
      have e0' := e0.symm
      clear e0
      subst e0'
      have own9 := (unhide HP8).row.alloc (.cells (ev [ent0]).toArray 67)
      have b9 : Below w8.heap.size w8 (w8.alloc (.cells (ev [ent0]).toArray 67)) := (Below.refl _ _).alloc (Nat.le_refl _) _
      have hs8 : B ≤ w8.heap.size := Nat.le_trans hB (unhide HF8).below.size
      have hl8 : (l ++ [x]).length = l.length + 1 := by simp
      rw [hl8] at own9
      have src9 : EntsAt (w8.alloc (.cells (ev [ent0]).toArray 67)) (some ⟨w8.heap.size, 0, none⟩) [ent0] := es_of_block (heap_alloc_last _ _)
      go_wp2_with (at_builtin; refine listE_lies rfl _ _ rfl B _ (l.length + 1) (l ++ [x]) rfl (by exact own9) ⟨w8.heap.size, 0, none⟩ ent0 rfl (by exact src9) (by omega) (Nat.le_trans hs8 (by simp)) _ rfl ?_)
      intro q9 cap9 w9 o9 g9 hat9
      have P10 := put_step (x := ent0) (cap := cap9) (unhide HP8) hs8 b9 (by rw [hl8]; exact o9) g9 hat9 (by simp)
      obtain ⟨kg9, fz9⟩ := put_old (unhide HP8) b9 g9
      have Q10 := hide P10
      clear P10 own9 b9 src9 o9 g9 hat9
      go_wp2
      go_ret
      obtain ⟨p10, hat10, fr10⟩ := unhide Q10
      rw [hl8] at p10 hat10 fr10
      refine ⟨rfl, _, by rw [unhide HW5]; exact p10, ?_, fr6_trans (unhide HF8) fr10 (fun k hk => ?_)⟩
      · rcases hat10 with e | e
        · rw [e]
          exact unhide HA8
        · exact .inr (fun k hk => Nat.le_trans (unhide HF8).below.size (e k hk))
      · rcases hk with e | e | e
        · exact .inl (.inl e)
        · exact .inl (.inr (.inl e))
        · rcases unhide HA8 with e1 | e1
          · rw [e1] at e
            exact .inl (.inr (.inr e))
          · exact .inr (e1 k e)
    · have hw5 : withE l x = l ++ [x] := by unfold withE; rw [if_neg h5]
      have HW5 := hide hw5
      rw [if_neg h5] at HN
      clear hw5 h5
      go_wp2_with fail
      refine (unhide HN w8).mono ?_
      rintro e w9 ⟨rfl, e0⟩
      have e0' := e0.symm
      clear e0
      subst e0'
      go_wp2
      go_ret
      exact ⟨rfl, _, by rw [unhide HW5]; exact unhide HP8, unhide HA8, unhide HF8⟩

end Go.Proofs.Ytchhjieciiaooaa
