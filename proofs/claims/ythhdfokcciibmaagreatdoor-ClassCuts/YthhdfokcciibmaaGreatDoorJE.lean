/- Joined: PkH PkI PkJ PkK PkL PkM PkN. -/
import Derived.Test.YthhdfokcciibmaaGreatDoorJC
import Derived.Test.YthhdfokcciibmaaGreatDoorJD
import Derived.Test.YthhdfokcciibmaaGreatDoorJA
import Derived.Test.YthhdfokcciibmaaGreatDoorJB
import Derived.Maps.OwnSet

/- The landed pool: a pool that grows, in memory; put. -/
namespace Go.Proofs.YthhdfokcciibmaaGreatDoor
open Go.RowKit
set_option linter.unusedVariables false

/-- A map of the first number of each text, of the first k entries. -/
structure TX (l : List Ent) (k : Nat) (D : DataW Unit) : Prop where
  no : ∀ s : List UInt8, Maps.has D (.string s) = false → ∀ j, j < k → l[j]? ≠ some (eUtf s)
  yes : ∀ s : List UInt8, Maps.has D (.string s) = true → ∃ j : Nat, D.atKey (.string s) (.lit (.int .i64 0)) = .lit (.int .i64 (j : Int)) ∧ j < k ∧ l[j]? = some (eUtf s) ∧ ∀ i, i < j → l[i]? ≠ some (eUtf s)
theorem eUtf_inj {s t : List UInt8} (h : eUtf s = eUtf t) : s = t := by
  injection h
theorem TX.start (l : List Ent) : TX l 0 (.map []) := ⟨fun s _ j hj => by omega, fun s h => by cases h⟩
theorem TX.skip {l : List Ent} {k : Nat} {D : DataW Unit} (h : TX l k D) (hk : ∀ s, l[k]? ≠ some (eUtf s)) : TX l (k + 1) D := by
  refine ⟨fun s hs j hj => ?_, fun s hs => ?_⟩
  · by_cases e : j = k
    · subst e; exact hk s
    · exact h.no s hs j (by omega)
  · obtain ⟨j, h1, h2, h3, h4⟩ := h.yes s hs
    exact ⟨j, h1, by omega, h3, h4⟩
theorem TX.there {l : List Ent} {k : Nat} {D : DataW Unit} {s0 : List UInt8} (h : TX l k D) (h0 : Maps.has D (.string s0) = true) (hk : l[k]? = some (eUtf s0)) : TX l (k + 1) D := by
  refine ⟨fun s hs j hj => ?_, fun s hs => ?_⟩
  · by_cases e : j = k
    · subst e
      rw [hk]
      intro e
      injection e with e
      rw [eUtf_inj e] at h0
      rw [h0] at hs
      cases hs
    · exact h.no s hs j (by omega)
  · obtain ⟨j, h1, h2, h3, h4⟩ := h.yes s hs
    exact ⟨j, h1, by omega, h3, h4⟩
theorem TX.new {l : List Ent} {k : Nat} {D : DataW Unit} {s0 : List UInt8} (h : TX l k D) (hm : Maps.IsMap D) (h0 : Maps.has D (.string s0) = false) (hk : l[k]? = some (eUtf s0)) : TX l (k + 1) (D.put (.string s0) (.lit (.int .i64 (k : Int)))) := by
  refine ⟨fun s hs j hj => ?_, fun s hs => ?_⟩
  · by_cases es : s = s0
    · subst es
      rw [Maps.has_put_same hm (k := .string s) True.intro] at hs
      cases hs
    · rw [Maps.has_put_other (fun e => es (by injection e))] at hs
      by_cases e : j = k
      · subst e
        rw [hk]
        intro e
        injection e with e
        exact es (eUtf_inj e).symm
      · exact h.no s hs j (by omega)
  · by_cases es : s = s0
    · subst es
      exact ⟨k, Maps.atKey_put_same hm (k := .string s) True.intro _ _, by omega, hk, fun i hi => h.no s h0 i hi⟩
    · rw [Maps.has_put_other (fun e => es (by injection e))] at hs
      obtain ⟨j, h1, h2, h3, h4⟩ := h.yes s hs
      exact ⟨j, by rw [Maps.atKey_put_other (fun e => es (by injection e))]; exact h1, by omega, h3, h4⟩
theorem TX.find {l : List Ent} {D : DataW Unit} (h : TX l l.length D) (h0 : l[0]? = some ent0) (s : List UInt8) :
    (Maps.has D (.string s) = false → findE l (eUtf s) = 0) ∧ (Maps.has D (.string s) = true → D.atKey (.string s) (.lit (.int .i64 0)) = .lit (.int .i64 (findE l (eUtf s) : Int)) ∧ findE l (eUtf s) ≠ 0) := by
  constructor
  · intro hs
    by_cases hf : findE l (eUtf s) = 0
    · exact hf
    · obtain ⟨h1, h2, h3⟩ := findE_some hf
      exact absurd h3 (h.no s hs _ h2)
  · intro hs
    obtain ⟨j, h1, h2, h3, h4⟩ := h.yes s hs
    have hj : 1 ≤ j := by
      cases j with
      | zero =>
        rw [h0] at h3
        injection h3 with h3
        have := congrArg Ent.tag h3
        simp [ent0, eUtf] at this
      | succ j => omega
    have e : findE l (eUtf s) = j := first_eq (p := fun i => decide (l[i]? = some (eUtf s))) hj h2 (by simpa using h3) (fun i _ hi => by simpa using h4 i hi)
    rw [e]
    exact ⟨h1, by omega⟩
theorem TX.more {l e : List Ent} {D : DataW Unit} (h : TX l l.length D) (he : ∀ s, eUtf s ∉ e) : TX (l ++ e) (l ++ e).length D := by
  refine ⟨fun s hs j hj => ?_, fun s hs => ?_⟩
  · by_cases hjl : j < l.length
    · rw [List.getElem?_append_left hjl]
      exact h.no s hs j hjl
    · intro e1
      rw [List.getElem?_append_right (by omega)] at e1
      exact he s (List.mem_of_getElem? e1)
  · obtain ⟨j, h1, h2, h3, h4⟩ := h.yes s hs
    refine ⟨j, h1, by simp; omega, by rw [List.getElem?_append_left h2]; exact h3, fun i hi => ?_⟩
    rw [List.getElem?_append_left (by omega)]
    exact h4 i hi
theorem TX.text {l : List Ent} {D : DataW Unit} {s0 : List UInt8} (h : TX l l.length D) (hm : Maps.IsMap D) (h0 : Maps.has D (.string s0) = false) : TX (l ++ [eUtf s0]) (l ++ [eUtf s0]).length (D.put (.string s0) (.lit (.int .i64 (l.length : Int)))) := by
  have h1 : TX (l ++ [eUtf s0]) l.length D := by
    refine ⟨fun s hs j hj => ?_, fun s hs => ?_⟩
    · rw [List.getElem?_append_left hj]
      exact h.no s hs j hj
    · obtain ⟨j, h1, h2, h3, h4⟩ := h.yes s hs
      refine ⟨j, h1, h2, by rw [List.getElem?_append_left h2]; exact h3, fun i hi => ?_⟩
      rw [List.getElem?_append_left (by omega)]
      exact h4 i hi
  have := h1.new hm h0 (by rw [List.getElem?_append_right (Nat.le_refl _), Nat.sub_self]; rfl)
  simpa using this

theorem ownsMap_keep {w w' : World} {m N : Nat} {D : DataW Unit} (h : w.ownsMap Tryz.prog 9 (plainElem (H := Unit) Tryz.prog 3) m N D) (e : w'.heap[m]? = w.heap[m]?) : w'.ownsMap Tryz.prog 9 (plainElem (H := Unit) Tryz.prog 3) m N D := by
  obtain ⟨es, clock, h1, h2⟩ := h
  exact ⟨es, clock, e.trans h1, h2⟩
theorem fr6_trans {F F1 : Nat → Prop} {B : Nat} {w w1 w2 : World} (f1 : Fr6 F B w w1) (f2 : Fr6 F1 B w1 w2) (hF : ∀ k, F1 k → F k ∨ w.heap.size ≤ k) : Fr6 F B w w2 :=
  ⟨f1.below.trans f2.below, fun k hk hn => (f2.other k (Nat.lt_of_lt_of_le hk f1.below.size) (fun h => (hF k h).elim hn (fun h => by omega))).trans (f1.other k hk hn)⟩
theorem stepE_lies {w : World} {ops : Array Oper} {o : Oper} {a : Act} {K : Act → World → Prop} {Q : Exit → Act → World → Prop} {E : Prop} (hgd : o.guard = none) (s x : Operand) (ho : o.op = .call { callee := .builtin .append, args := #[s, x], argTypes := #[22, 22] })
    (base : Nat) (v : Value) (n : Nat) (xs : List Ent) (hs : a.eval s = v) (hown : w.ownsRow base 55 5 v n (ev xs)) (src : Addr) (y : Ent) (hx : a.eval x = .slice (some src) 1 1) (hb : EntsAt w (some src) [y])
    (hsm : (n + 1) * 48 ≤ 140737488355328) (hbase : base ≤ w.heap.size) (H : Nat) (hH : w.heap.size = H) (h : ∀ q cap w', w'.ownsRow base 55 5 (.slice (some ⟨q, 0, none⟩) (n + 1) cap) (n + 1) (ev xs ++ ev [y]) → w.grownBy w' v.ownBlock → (v.ownBlock = some q ∨ q = H) → K (a.put o.dst (.slice (some ⟨q, 0, none⟩) (n + 1) cap)) w') :
    if Region.wanted o (yielded ops a.tmps) = true then Oper.wp Tryz.prog o a w K Q else E := by
  rw [if_pos (by simp [Region.wanted, hgd])]
  obtain ⟨i0, hi, hz0, hz1, hz2⟩ := info_parts infoE
  refine wp_append_lies w s x 22 ho base 55 i0 (.agg #[.int .i64 0, .string ⟨#[]⟩, .int .i64 0, .int .i64 0, .int .i64 0]) 5 48 Tryz.underlying22 hi hz0 hz1 hz2 rfl (by decide) v n (ev xs) hs hown src 1 1 (ev [y]) hx rfl (hb src rfl) (ev_one _) (by omega) (by unfold maxLen; omega) hsm hbase H hH ?_
  intro q cap w' h1 h2 h3 h4
  exact h q cap w' h1 h2 h3
theorem listE_lies {w : World} {ops : Array Oper} {rest : List Oper} {o : Oper} {a : Act} {Q : Exit → Act → World → Prop} (hgd : o.guard = none) (s x : Operand) (ho : o.op = .call { callee := .builtin .append, args := #[s, x], argTypes := #[22, 22] })
    (base : Nat) (v : Value) (n : Nat) (xs : List Ent) (hs : a.eval s = v) (hown : w.ownsRow base 55 5 v n (ev xs)) (src : Addr) (y : Ent) (hx : a.eval x = .slice (some src) 1 1) (hb : EntsAt w (some src) [y])
    (hsm : (n + 1) * 48 ≤ 140737488355328) (hbase : base ≤ w.heap.size) (H : Nat) (hH : w.heap.size = H) (h : ∀ q cap w', w'.ownsRow base 55 5 (.slice (some ⟨q, 0, none⟩) (n + 1) cap) (n + 1) (ev xs ++ ev [y]) → w.grownBy w' v.ownBlock → (v.ownBlock = some q ∨ q = H) → wpList Tryz.prog ops Q rest (a.put o.dst (.slice (some ⟨q, 0, none⟩) (n + 1) cap)) w') :
    wpList Tryz.prog ops Q (o :: rest) a w := by
  obtain ⟨i0, hi, hz0, hz1, hz2⟩ := info_parts infoE
  refine wpList_plain hgd fun K hK => wp_append_lies w s x 22 ho base 55 i0 (.agg #[.int .i64 0, .string ⟨#[]⟩, .int .i64 0, .int .i64 0, .int .i64 0]) 5 48 Tryz.underlying22 hi hz0 hz1 hz2 rfl (by decide) v n (ev xs) hs hown src 1 1 (ev [y]) hx rfl (hb src rfl) (ev_one _) (by omega) (by unfold maxLen; omega) hsm hbase H hH ?_
  intro q cap w' h1 h2 h3 h4
  exact hK _ _ (h q cap w' h1 h2 h3)

end Go.Proofs.YthhdfokcciibmaaGreatDoor

/- The landed pool: a pool that grows: text. -/
namespace Go.Proofs.YthhdfokcciibmaaGreatDoor
open Go.RowKit Go.Maps
set_option linter.unusedVariables false

theorem klaw : Keyed Tryz.prog 9 := string_keyed Tryz.underlying9
theorem kzero (w : World) : (zeroValue 3).run Tryz.prog w = .ok (.int .i64 0) w := by kernel_rfl
theorem kkey {s : List UInt8} (h : s.length ≤ 140737488355328) : keyOf Tryz.prog 9 (.string ⟨s.toArray⟩) = some (.string s) := by
  have := WideMaps.keyOf_string_mk (P := Tryz.prog) (s := ⟨s.toArray⟩) Tryz.underlying9 (by unfold maxLen; simp [ByteArray.size]; omega)
  simpa using this

theorem int_wf {n : Int} (h : -9223372036854775808 ≤ n ∧ n ≤ 9223372036854775807) : (Lit.int .i64 n).wf = true := by
  have h1 := wrap64_wf n
  have h2 : wrap64 n = n := by unfold wrap64; omega
  rw [h2] at h1
  exact h1

end Go.Proofs.YthhdfokcciibmaaGreatDoor

/- The landed pool: a pool that grows: what stands between the steps of number. -/
namespace Go.Proofs.YthhdfokcciibmaaGreatDoor
open Go.RowKit Go.Maps
set_option linter.unusedVariables false

/-- What lies beside a growing pool while number runs. -/
structure Beside (w : World) (h4 B g m : Nat) (v : Value) (C X : Nat) : Prop where
  hB : B ≤ w.heap.size
  g : g < w.heap.size
  m : m < w.heap.size
  v : ∀ k, v.ownBlock = some k → k < w.heap.size
  c1 : w.heap.size ≤ C
  c2 : C < h4
  x1 : w.heap.size ≤ X
  x2 : X < h4
  ne : X ≠ C
end Go.Proofs.YthhdfokcciibmaaGreatDoor

/- The landed pool: a pool that grows: number, of a class, of a name, of a number. -/
namespace Go.Proofs.YthhdfokcciibmaaGreatDoor
open Go.RowKit Go.Maps
set_option linter.unusedVariables false

theorem kaddE_len (l : List Ent) (x : Ent) : (addE l x).1.length ≤ l.length + 2 := by
  unfold addE
  split
  · show (withE l x).length ≤ _
    rw [withE_eq, List.length_append]
    split <;> simp
  · show l.length ≤ _
    omega
theorem addE_zero {l : List Ent} (x : Ent) (h : l[0]? = some ent0) : (addE l x).1[0]? = some ent0 := by
  unfold addE
  split
  · show (withE l x)[0]? = _
    rw [withE_eq, List.getElem?_append_left (by have := (List.getElem?_eq_some_iff.1 h).1; exact this)]
    exact h
  · exact h

end Go.Proofs.YthhdfokcciibmaaGreatDoor

/- The landed pool: a pool that grows: number, of a field, of a method. -/
namespace Go.Proofs.YthhdfokcciibmaaGreatDoor
open Go.RowKit Go.Maps
set_option linter.unusedVariables false

theorem withE_len2 (l : List Ent) (x : Ent) : (withE l x).length ≤ l.length + 2 := by
  rw [withE_eq, List.length_append]
  split <;> simp
theorem clsK_len (l : List Ent) (s : List UInt8) : (clsK l s).1.length ≤ l.length + 4 := by
  unfold clsK
  split
  · simp only
    have h1 := withE_len2 (addE l (eUtf s)).1 ⟨7, [], 0, ((addE l (eUtf s)).2 : Int), 0⟩
    have h2 := kaddE_len l (eUtf s)
    omega
  · show l.length ≤ _
    omega
theorem namK_len (l : List Ent) (s t : List UInt8) : (namK l s t).1.length ≤ l.length + 6 := by
  unfold namK
  split
  · simp only
    have h1 := withE_len2 (addE (addE l (eUtf s)).1 (eUtf t)).1 ⟨12, [], 0, ((addE l (eUtf s)).2 : Int), ((addE (addE l (eUtf s)).1 (eUtf t)).2 : Int)⟩
    have h2 := kaddE_len l (eUtf s)
    have h3 := kaddE_len (addE l (eUtf s)).1 (eUtf t)
    omega
  · show l.length ≤ _
    omega


end Go.Proofs.YthhdfokcciibmaaGreatDoor

/- The landed pool: growingFrom. -/
namespace Go.Proofs.YthhdfokcciibmaaGreatDoor
open Go.RowKit Go.Maps
set_option linter.unusedVariables false

set_option maxHeartbeats 1600000 in
theorem kclone_any (w : World) (a : Option Addr) (n c : Nat) (l : List Ent) (h : EArg w a n c l) (hn : n * 48 ≤ 140737488351232) (h1 : 1 ≤ n) :
    Calls Tryz.prog 19 #[.slice a n c] w fun e w' => ∃ v, e = .returned v ∧ w'.ownsRow w.heap.size 55 5 v n (ev l) ∧ Below w.heap.size w w' := by
  obtain ⟨b, o, rfl, hE⟩ := h.es.2.resolve_left (by omega)
  have hown := ents_none w w.heap.size (Nat.le_refl _)
  have HB := hide (h.es.below ((Below.refl _ _).alloc (Nat.le_refl _) (.cells #[] 55)))
  have HN := hide h.nil
  have q : ∀ (w : World) (a : Option Addr) (n c n' c' : Nat), (binOp .eql 22 (.slice a n c) (.slice none n' c')).run Tryz.prog w = .ok (.bool a.isNone) w := fun w a n c n' c' => Lib.run_eql_slice_nil w _ _ a n c n' c' Tryz.underlying22
  clear h hE
  go_enter Tryz.func19, Tryz.ntmps19
  go_wp2_with (at_builtin; refine listE_append rfl _ _ rfl w.heap.size _ 0 [] rfl hown _ n c l rfl (unhide HB) (unhide HN) (by omega) (by simp) ?_)
  intro v' w1 o1 g1
  have hb1 : Below w.heap.size w w1 := ((Below.refl _ _).alloc (Nat.le_refl _) _).grown g1 (by simp) (fun k hk => by simp [Value.ownBlock] at hk; omega)
  have HO := hide o1
  have HB1 := hide hb1
  clear o1 g1 hb1 hown HB HN
  go_wp2
  go_ret
  exact ⟨_, rfl, unhide HO, unhide HB1⟩

theorem eUtf_of {l : List Ent} (hr : rightL l) {k : Nat} (hk : k < l.length) (ht : (atE l (k : Int)).tag = 1) : l[k]? = some (eUtf (atE l (k : Int)).text) := by
  have ho := right_ok hr (i := (k : Int)) (by omega)
  have e : l[k]? = some (atE l (k : Int)) := by rw [atE_nat, List.getElem?_eq_getElem hk]; rfl
  rw [e]
  unfold okE at ho
  simp [ht] at ho
  exact congrArg some ho.2
theorem not_eUtf {l : List Ent} {k : Nat} (hk : k < l.length) (ht : (atE l (k : Int)).tag ≠ 1) : ∀ s, l[k]? ≠ some (eUtf s) := fun s e => by
  have e2 : l[k]? = some (atE l (k : Int)) := by rw [atE_nat, List.getElem?_eq_getElem hk]; rfl
  rw [e2] at e
  injection e with e
  rw [e] at ht
  exact ht rfl

end Go.Proofs.YthhdfokcciibmaaGreatDoor

/- The landed pool: Put. -/
namespace Go.Proofs.YthhdfokcciibmaaGreatDoor
open Go.RowKit Go.Maps
set_option linter.unusedVariables false

theorem numK_len {l : List Ent} {k : Cst} : (numK l k).1.length ≤ l.length + 20 := by
  unfold numK
  repeat' split
  · show l.length ≤ _
    omega
  · simp only
    have h1 := withE_len2 l ⟨k.tag, [], k.n, 0, 0⟩
    omega
  · have := clsK_len l k.cls
    omega
  · unfold refK
    simp only
    have h1 := clsK_len l k.cls
    have h2 := namK_len (clsK l k.cls).1 k.name k.type
    have h3 := withE_len2 (namK (clsK l k.cls).1 k.name k.type).1 ⟨k.tag, [], 0, ((clsK l k.cls).2 : Int), ((namK (clsK l k.cls).1 k.name k.type).2 : Int)⟩
    omega

end Go.Proofs.YthhdfokcciibmaaGreatDoor
