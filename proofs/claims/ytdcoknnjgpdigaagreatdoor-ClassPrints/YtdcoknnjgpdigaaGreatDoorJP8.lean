/- Joined: ClG SqA TxA PlR0. -/
import Derived.Test.YtdcoknnjgpdigaaGreatDoorJP5
import Derived.Test.YtdcoknnjgpdigaaGreatDoorJP3
import Derived.Test.YtdcoknnjgpdigaaGreatDoorJP0
import Derived.Test.YtdcoknnjgpdigaaGreatDoorJP4
import Derived.Deep.RegionHeld

/- The document's class: the number of a text, of a class. -/
namespace Go.Proofs.YtdcoknnjgpdigaaGreatDoor
open Go.RowKit
set_option linter.unusedVariables false

set_option maxHeartbeats 1600000 in
theorem gutf_any (w : World) (a : Option Addr) (n c : Nat) (l : List Ent) (h : Es w a n l) (s : List UInt8) (hn : n ≤ 140737488351232) :
    Calls Tryz.prog 69 #[.slice a n c, .string ⟨s.toArray⟩] w fun e w' => e = .returned (.int .i64 (utfN l s : Int)) ∧ Below w.heap.size w w' := by
  have hln := h.1
  have HE := hide h
  obtain ⟨x, hx⟩ : ∃ x, x = eUtf s := ⟨_, rfl⟩
  have HX := hide hx
  have hu : utfN l s = findE l x := by rw [hx]; rfl
  rw [hu]
  clear h hx hu
  go_enter Tryz.func69, Tryz.ntmps69
  go_wp2
  go_loopw [5] (fun i wr => ∃ k : Nat, 1 ≤ k ∧ (k ≤ n ∨ k = 1) ∧ i = .int .i64 k ∧ (∀ j, 1 ≤ j → j < k → l[j]? ≠ some x) ∧ Below w.heap.size w wr) (fun i _ => n - (intOf i).toNat)
  case atStart => exact ⟨1, by omega, .inr rfl, rfl, fun j h1 h2 => by omega, Below.refl _ _⟩
  case round =>
    obtain ⟨k, hk1, hk, rfl, hno, hB⟩ := hrel
    have HNO := hide hno
    have HBl := hide hB
    by_cases hlt : k < n
    · have hlt1 : (k : Int) < (n : Int) := by omega
      obtain ⟨b, o, rfl, hE⟩ := ((unhide HE).below hB).2.resolve_left (by omega)
      obtain ⟨y, hy⟩ : ∃ y, l[k]? = some y := ⟨_, List.getElem?_eq_getElem (by omega)⟩
      obtain ⟨c0, c1, c2, c3, c4⟩ := ents_get hE hy
      by_cases hyx : y = x
      · have hys : y = eUtf s := hyx.trans (unhide HX)
        have e7 : (.string ⟨y.text.toArray⟩ : Value) = .string ⟨s.toArray⟩ := by rw [hys]; rfl
        have q0 : y.tag = 1 := by rw [hys]; rfl
        have q2 : y.n = 0 := by rw [hys]; rfl
        have q3 : y.a = 0 := by rw [hys]; rfl
        have q4 : y.b = 0 := by rw [hys]; rfl
        rw [q0] at c0
        rw [e7] at c1
        rw [q2] at c2
        rw [q3] at c3
        rw [q4] at c4
        clear hys e7 q0 q2 q3 q4
        subst hyx
        have e1 : Hid (findE l y = k) := by
          show findE l y = k
          exact first_eq (p := fun i => decide (l[i]? = some y)) hk1 (by omega) (by simpa using hy) (fun j h1 h2 => by simpa using hno j h1 h2)
        clear hno hB hE hy
        go_wp2
        go_ret
        exact ⟨by rw [unhide e1]; rfl, unhide HBl⟩
      · have HCf : ∀ W, (binOp .eql 55 (.agg #[.int .i64 y.tag, .string ⟨y.text.toArray⟩, .int .i64 y.n, .int .i64 y.a, .int .i64 y.b]) (.agg #[.int .i64 1, .string ⟨s.toArray⟩, .int .i64 0, .int .i64 0, .int .i64 0])).run Tryz.prog W = .ok (.bool false) W := fun W => by
          have := ent_cmp W y (eUtf s)
          rw [decide_eq_false (by rw [← unhide HX]; exact hyx)] at this
          exact this
        clear hno hB hE
        have HN2 : Hid (∀ j, 1 ≤ j → j < k + 1 → l[j]? ≠ some x) := fun j h1 h2 => by
          by_cases hjk : j = k
          · subst hjk
            rw [hy]
            exact fun e => hyx (by injection e)
          · exact unhide HNO j h1 (by omega)
        clear hy hyx
        go_wp2
        go_roundw
        case rel => exact ⟨k + 1, by omega, by omega, by go_num, unhide HN2, unhide HBl⟩
        case measure => simp [intOf]; omega
    · have e1 : Hid (findE l x = 0) := by
        show findE l x = 0
        by_cases h0 : findE l x = 0
        · exact h0
        · obtain ⟨h1, h2, h3⟩ := findE_some h0
          exact absurd h3 (hno _ h1 (by omega))
      clear hno hB
      go_wp2
      go_ret
      exact ⟨by rw [unhide e1]; rfl, unhide HBl⟩

/-- A class of a right pool leads to a text. -/
theorem class_leads {l : List Ent} (hc : checkP l = true) {k : Nat} {y : Ent} (hy : l[k]? = some y) (h7 : y.tag = 7) : ∃ ka : Nat, y.a = ka ∧ ∃ z, l[ka]? = some z := by
  have hk := (List.getElem?_eq_some_iff.1 hy).1
  have h := ((checkP_all l).1 hc).2 k hk
  have ha : atE l (k : Int) = y := by rw [atE_nat, hy]; rfl
  have ho : okE l y = true := by
    unfold rightAt at h
    rw [ha] at h
    split at h
    · have h0 := of_decide_eq_true h
      rw [h0] at h7
      exact absurd h7 (by decide)
    · rw [Bool.and_eq_true] at h
      exact h.1
  unfold okE at ho
  simp only [h7] at ho
  simp at ho
  have hin := tagE_in (l := l) (i := y.a) (by rw [ho.1]; decide)
  exact ⟨y.a.toNat, by omega, _, List.getElem?_eq_getElem (by omega)⟩

set_option maxHeartbeats 1600000 in
theorem gclass_any (w : World) (a : Option Addr) (n c : Nat) (l : List Ent) (h : Es w a n l) (hc : checkP l = true) (s : List UInt8) (hn : n ≤ 140737488351232) :
    Calls Tryz.prog 68 #[.slice a n c, .string ⟨s.toArray⟩] w fun e w' => e = .returned (.int .i64 (clsN l s : Int)) ∧ Below w.heap.size w w' := by
  have hln := h.1
  have HE := hide h
  have HCK := hide hc
  obtain ⟨zs, hzs⟩ : ∃ zs : ByteArray, zs = ⟨s.toArray⟩ := ⟨_, rfl⟩
  rw [← hzs]
  have HZ := hide hzs
  clear h hc hzs
  go_enter Tryz.func68, Tryz.ntmps68
  go_wp2
  go_loopw [5] (fun i wr => ∃ k : Nat, 1 ≤ k ∧ (k ≤ n ∨ k = 1) ∧ i = .int .i64 k ∧ (∀ j, 1 ≤ j → j < k → ¬ ((atE l (j : Int)).tag = 7 ∧ (atE l (atE l (j : Int)).a).text = s)) ∧ Below w.heap.size w wr) (fun i _ => n - (intOf i).toNat)
  case atStart => exact ⟨1, by omega, .inr rfl, rfl, fun j h1 h2 => by omega, Below.refl _ _⟩
  case round =>
    obtain ⟨k, hk1, hk, rfl, hno, hB⟩ := hrel
    have HNO := hide hno
    have HBl := hide hB
    by_cases hlt : k < n
    · have hlt1 : (k : Int) < (n : Int) := by omega
      obtain ⟨b, o, rfl, hE⟩ := ((unhide HE).below hB).2.resolve_left (by omega)
      obtain ⟨y, hy⟩ : ∃ y, l[k]? = some y := ⟨_, List.getElem?_eq_getElem (by omega)⟩
      have ha : atE l (k : Int) = y := by rw [atE_nat, hy]; rfl
      obtain ⟨c0, c1, c2, c3, c4⟩ := ents_get hE hy
      have next : ¬ (y.tag = 7 ∧ (atE l y.a).text = s) → Hid (∀ j, 1 ≤ j → j < k + 1 → ¬ ((atE l (j : Int)).tag = 7 ∧ (atE l (atE l (j : Int)).a).text = s)) := fun hq j h1 h2 => by
        by_cases hjk : j = k
        · subst hjk
          rw [ha]
          exact hq
        · exact unhide HNO j h1 (by omega)
      have NX := hide next
      clear next
      by_cases h7 : y.tag = 7
      · obtain ⟨ka, hka, z, hz⟩ := class_leads (unhide HCK) hy h7
        have hkl := (List.getElem?_eq_some_iff.1 hz).1
        have haz : atE l y.a = z := by rw [hka, atE_nat, hz]; rfl
        obtain ⟨d0, d1, d2, d3, d4⟩ := ents_get hE hz
        rw [h7] at c0
        rw [hka] at c3
        have hka1 : (ka : Int) < (n : Int) := by omega
        obtain ⟨zt, hzt⟩ : ∃ zt : ByteArray, zt = ⟨z.text.toArray⟩ := ⟨_, rfl⟩
        rw [← hzt] at d1
        have i1 : zt.toList = zs.toList ↔ z.text = s := by rw [hzt, unhide HZ]; exact str_eq _ _
        have i2 : zt = zs ↔ z.text = s := by rw [hzt, unhide HZ]; simp
        have I1 := hide i1
        have I2 := hide i2
        by_cases hts : z.text = s
        · have e1 : Hid (clsN l s = k) := first_eq (p := fun (i : Nat) => decide ((atE l (i : Int)).tag = 7 ∧ (atE l (atE l (i : Int)).a).text = s)) hk1 (by omega) (by rw [ha, haz]; simp [h7, hts]) (fun j h1 h2 => by simpa using hno j h1 h2)
          have e2 : zt = zs := i2.2 hts
          clear hno hB hE hy ha NX I1 I2 i1 i2 hzt haz hz hka h7 d0 d2 d3 d4 c1 c2 c4 hts
          subst e2
          go_wp2
          go_ret
          exact ⟨by rw [unhide e1]; rfl, unhide HBl⟩
        · have HN2 := unhide NX (fun h => hts (by rw [← haz]; exact h.2))
          have hb : ¬ zt.toList = zs.toList := fun h => hts (i1.1 h)
          have hb2 : (zt.toList == zs.toList) = false := by simpa using hb
          clear hno hB hE hy ha NX I1 I2 i1 i2 hzt haz hz hka h7 d0 d2 d3 d4 c1 c2 c4 hts HNO
          go_wp2
          go_roundw
          case rel => exact ⟨k + 1, by omega, by omega, by go_num, unhide HN2, unhide HBl⟩
          case measure => simp [intOf]; omega
      · have HN2 := unhide NX (fun h => h7 h.1)
        have hb : (y.tag == 7) = false := by simpa using h7
        clear hno hB hE hy ha NX c1 c2 c3 c4 HNO
        go_wp2
        go_roundw
        case rel => exact ⟨k + 1, by omega, by omega, by go_num, unhide HN2, unhide HBl⟩
        case measure => simp [intOf]; omega
    · have e1 : Hid (clsN l s = 0) := by
        show clsN l s = 0
        by_cases h0 : clsN l s = 0
        · exact h0
        · obtain ⟨h1, h2, h3⟩ := clsN_some h0
          exact absurd h3 (hno _ h1 (by omega))
      clear hno hB
      go_wp2
      go_ret
      exact ⟨by rw [unhide e1]; rfl, unhide HBl⟩

end Go.Proofs.YtdcoknnjgpdigaaGreatDoor

/- Regions that draw their order, walked once, in the text's order: each operation yields one value in every world that meets S, and keeps S; it may call, store, or be skipped by its guard. -/
namespace Go.Proofs.YtdcoknnjgpdigaaGreatDoor
open Go.RowKit
set_option linter.unusedVariables false

section
variable {P : Program} {ops : Array Oper} {Q : Exit → Act → World → Prop} {S : World → Prop}

/-- In state a, in every world that meets S, o leaves v in its temporary, and S holds behind it. -/
def DoesIf (P : Program) (ops : Array Oper) (S : World → Prop) (o : Oper) (v : Value) (a : Act) : Prop :=
  (Region.wanted o (yielded ops a.tmps) = true ∧ ∀ w, S w → ∀ K : Act → World → Prop, Shut (∀ w', S w' → K (a.put o.dst v) w') → Oper.wp P o a w K (fun _ _ _ => False)) ∨
  (Region.wanted o (yielded ops a.tmps) = false ∧ v = undef)
def SeqDo (P : Program) (ops : Array Oper) (Q : Exit → Act → World → Prop) (S : World → Prop) : List Oper → Act → Prop
  | [], a => ∀ w, S w → Q .normal a w
  | o :: rest, a => ∃ v, DoesIf P ops S o v a ∧ SeqDo P ops Q S rest (a.put o.dst v)

theorem put_size (a : Act) (d : Option Tmp) (v : Value) : (a.put d v).tmps.size = a.tmps.size := by cases d <;> simp [Act.put]
theorem put_same {a a' : Act} {d : Option Tmp} {u v : Value} (hs : a'.tmps.size = a.tmps.size) (h : a.put d u = a.put d v) : a'.put d u = a'.put d v := by
  cases d with
  | none => rfl
  | some d =>
    by_cases hd : d < a.tmps.size
    · have e : (a.put (some d) u).tmps[d]? = (a.put (some d) v).tmps[d]? := by rw [h]
      simp [Act.put, hd] at e
      rw [e]
    · have hd' : ¬ d < a'.tmps.size := fun h => hd (hs ▸ h)
      simp [Act.put, Array.setIfInBounds, hd']
theorem DoesIf.op {i : Nat} {o : Oper} {v : Value} {a a' : Act} (hi : ops[i]? = some o) (hd : DoesIf P ops S o v a) (he : execOp a'.eval o = execOp a.eval o)
    (hw : Region.wanted o (yielded ops a'.tmps) = Region.wanted o (yielded ops a.tmps)) (hsz : a'.tmps.size = a.tmps.size) {K : Act → World → Prop} {w : World} (hS : S w)
    (h : ∀ w', S w' → K (a'.put o.dst v) w') : wpOp P ops Q i K a' w := by
  unfold wpOp
  simp only [hi]
  rw [hw]
  rcases hd with ⟨h1, h2⟩ | ⟨h1, rfl⟩
  · rw [if_pos h1]
    refine .inl ?_
    have h3 := h2 w hS (fun a2 w2 => a2 = a.put o.dst v ∧ S w2) (fun w' hw' => ⟨rfl, hw'⟩)
    clear h2
    unfold Oper.wp at h3 ⊢
    rw [he]
    generalize (execOp a.eval o).run P w = r at *
    cases r with
    | ok n w' =>
      cases n <;> simp only [Oper.upon] at h3 ⊢
      case value u => rw [put_same hsz h3.1]; exact h _ h3.2
      case skip => rw [put_same hsz h3.1]; exact h _ h3.2
      case defer d =>
        exfalso
        have e := congrArg Act.defers h3.1
        have e1 : ∀ (b : Act) (x : Option Tmp) (u : Value), (b.put x u).defers = b.defers := fun b x u => by cases x <;> rfl
        rw [e1, e1] at e
        have := congrArg List.length e
        simp at this
      case enter f args =>
        refine Calls.mono h3 fun e w'' he => ?_
        cases e with
        | returned u =>
          have h5 : K (a'.put o.dst u) w'' := by rw [put_same hsz he.1]; exact h _ he.2
          exact h5
        | panicked c => exact he.elim
        | outgrown =>
          obtain ⟨_, _, hf⟩ := he
          exact hf.elim
      case row row args => exact Rows.mono h3 fun u w'' he => by rw [put_same hsz he.1]; exact h _ he.2
    | halt x w' => cases x <;> simp only [Oper.upon] at h3
  · rw [if_neg (by rw [h1]; simp)]
    exact h _ hS

theorem same_looks {o : Oper} {a a' : Act} (hs : ∀ cs b, o.op ≠ .select cs b) (h : ∀ t, t ∈ o.looksAt ops → a'.tmps[t]? = a.tmps[t]?) :
    execOp a'.eval o = execOp a.eval o ∧ Region.wanted o (yielded ops a'.tmps) = Region.wanted o (yielded ops a.tmps) := by
  constructor
  · refine execOp_congr o hs fun x hx => ?_
    cases x with
    | tmp t =>
      have := h t (List.mem_append_left _ (List.mem_filterMap.2 ⟨.tmp t, by simpa using hx, rfl⟩))
      simp [Act.eval, this]
    | _ => rfl
  · unfold Region.wanted
    cases hg : o.guard with
    | none => rfl
    | some gw =>
      obtain ⟨g, want⟩ := gw
      have hy : yielded ops a'.tmps g = yielded ops a.tmps g := by
        unfold yielded
        cases ht : (ops[g]?).bind (·.dst) with
        | none => rfl
        | some t =>
          have := h t (by simp [Oper.looksAt, hg, ht])
          simp [this]
      simp only [hy]

def dstAt (ops : Array Oper) (j : Nat) : Option Tmp := (ops[j]?).bind (·.dst)
def putI (ops : Array Oper) (vs : List Value) (js : List Nat) (a : Act) : Act := js.foldl (fun a j => a.put (dstAt ops j) (vs.getD j undef)) a
theorem putI_size (vs : List Value) : ∀ (js : List Nat) (a : Act), (putI ops vs js a).tmps.size = a.tmps.size
  | [], a => rfl
  | j :: js, a => by
    show (putI ops vs js _).tmps.size = _
    rw [putI_size vs js, put_size]
theorem putI_at (vs : List Value) (t : Nat) : ∀ (js : List Nat) (a : Act), (∀ j ∈ js, dstAt ops j ≠ some t) → (putI ops vs js a).tmps[t]? = a.tmps[t]?
  | [], a, _ => rfl
  | j :: js, a, h => by
    show (putI ops vs js (a.put (dstAt ops j) (vs.getD j undef))).tmps[t]? = _
    rw [putI_at vs t js _ (fun k hk => h k (List.mem_cons_of_mem _ hk))]
    have hj := h j (List.mem_cons_self ..)
    revert hj
    generalize dstAt ops j = d
    intro hj
    cases d with
    | none => rfl
    | some d =>
      show (a.tmps.setIfInBounds d _)[t]? = _
      rw [Array.getElem?_setIfInBounds_ne (fun e => hj (by rw [e]))]
theorem putI_pull (vs : List Value) (i : Nat) : ∀ (js : List Nat) (a : Act), js.Nodup → i ∈ js → (∀ j ∈ js, j ≠ i → ∀ d, dstAt ops i = some d → dstAt ops j ≠ some d) →
    putI ops vs js a = putI ops vs (js.filter (fun j => decide (j ≠ i))) (a.put (dstAt ops i) (vs.getD i undef))
  | [], a, _, h, _ => by simp at h
  | j :: js, a, hn, hm, hd => by
    obtain ⟨hn1, hn2⟩ := List.nodup_cons.1 hn
    show putI ops vs js (a.put (dstAt ops j) (vs.getD j undef)) = _
    by_cases e : j = i
    · subst e
      have hf : (j :: js).filter (fun k => decide (k ≠ j)) = js := by
        rw [List.filter_cons_of_neg (by simp)]
        exact List.filter_eq_self.2 (fun k hk => by simp; intro e; subst e; exact hn1 hk)
      rw [hf]
    · have hm' : i ∈ js := (List.mem_cons.1 hm).resolve_left (fun e' => e e'.symm)
      rw [List.filter_cons_of_pos (by simpa using e), putI_pull vs i js _ hn2 hm' (fun k hk => hd k (List.mem_cons_of_mem _ hk))]
      show _ = putI ops vs (js.filter _) ((a.put (dstAt ops i) _).put (dstAt ops j) _)
      rw [Act.put_comm a _ _ (fun d hd' e' => hd j (List.mem_cons_self ..) e d e' hd')]

/-- What the law asks of a region's text. -/
def seqOk (ops : Array Oper) : Bool := (List.range ops.size).all fun i => match ops[i]? with
  | none => true
  | some o => (match o.op with | .select .. => false | _ => true) && o.after.all (fun e => !Region.binds .any e || decide (e.on < i)) &&
    (List.range ops.size).all fun j => match dstAt ops j with
      | none => true
      | some d => (!(o.looksAt ops).contains d || (decide (j < i) && o.after.any (fun e => Region.binds .any e && e.on == j))) && (j == i || o.dst != some d)
theorem seqOk_spec (h : seqOk ops = true) {i : Nat} {o : Oper} (ho : ops[i]? = some o) :
    (∀ cs b, o.op ≠ .select cs b) ∧ (∀ e ∈ o.after, Region.binds .any e = true → e.on < i) ∧
    ∀ j d, dstAt ops j = some d → (d ∈ o.looksAt ops → j < i ∧ ∃ e ∈ o.after, Region.binds .any e = true ∧ e.on = j) ∧ (j ≠ i → o.dst ≠ some d) := by
  have hi : i < ops.size := (Array.getElem?_eq_some_iff.1 ho).1
  have h1 := List.all_eq_true.1 h i (List.mem_range.2 hi)
  simp only [ho, Bool.and_eq_true] at h1
  obtain ⟨⟨h2, h3⟩, h4⟩ := h1
  refine ⟨fun cs b e => ?_, fun e he hb => ?_, fun j d hj => ?_⟩
  · rw [e] at h2
    cases h2
  · have := (Array.all_eq_true_iff_forall_mem.1 h3) e he
    simpa [hb] using this
  · have hjs : j < ops.size := by
      unfold dstAt at hj
      cases hoj : ops[j]? with
      | none => rw [hoj] at hj; cases hj
      | some x => exact (Array.getElem?_eq_some_iff.1 hoj).1
    have h5 := List.all_eq_true.1 h4 j (List.mem_range.2 hjs)
    simp only [hj, Bool.and_eq_true] at h5
    refine ⟨fun hd => ?_, fun hne => ?_⟩
    · have h6 := h5.1
      rw [List.contains_iff_mem.2 hd] at h6
      simp only [Bool.not_true, Bool.false_or, Bool.and_eq_true, decide_eq_true_eq] at h6
      refine ⟨h6.1, ?_⟩
      obtain ⟨e, he, h7⟩ : ∃ e ∈ o.after, (Region.binds .any e && e.on == j) = true := by
        obtain ⟨q, hq, h8⟩ := Array.any_eq_true.1 h6.2
        exact ⟨_, Array.getElem_mem hq, h8⟩
      simp only [Bool.and_eq_true, beq_iff_eq] at h7
      exact ⟨e, he, h7.1, h7.2⟩
    · have h6 := h5.2
      simp only [Bool.or_eq_true, beq_iff_eq, bne_iff_ne] at h6
      exact h6.resolve_left hne

theorem seq_vals : ∀ (l : List Oper) (k : Nat) (a : Act), (∀ i o, l[i]? = some o → ops[k + i]? = some o) → SeqDo P ops Q S l a →
    ∃ vs : List Value, (∀ i o, l[i]? = some o → DoesIf P ops S o (vs.getD (k + i) undef) (putI ops vs (List.range' k i) a)) ∧ ∀ w, S w → Q .normal (putI ops vs (List.range' k l.length) a) w
  | [], k, a, _, h => ⟨[], fun i o ho => by simp at ho, h⟩
  | o :: l, k, a, hl, ⟨v, h1, h2⟩ => by
    have hk : ops[k]? = some o := hl 0 o rfl
    obtain ⟨vs, h3, h4⟩ := seq_vals l (k + 1) _ (fun i x hx => by rw [show k + 1 + i = k + (i + 1) by omega]; exact hl (i + 1) x (by simpa using hx)) h2
    let us := (List.range k).map (fun _ => undef) ++ v :: vs.drop (k + 1)
    have hu : us.getD k undef = v := by simp [us, List.getD_eq_getElem?_getD]
    have hus : ∀ j, k < j → us.getD j undef = vs.getD j undef := fun j hj => by
      simp only [us, List.getD_eq_getElem?_getD]
      rw [List.getElem?_append_right (by simp; omega)]
      simp only [List.length_map, List.length_range]
      obtain ⟨m, rfl⟩ : ∃ m, j = k + 1 + m := ⟨j - (k + 1), by omega⟩
      rw [show k + 1 + m - k = m + 1 by omega, List.getElem?_cons_succ, List.getElem?_drop]
    have hput : ∀ js a, (∀ j ∈ js, k < j) → putI ops us js a = putI ops vs js a := by
      intro js
      induction js with
      | nil => intro a _; rfl
      | cons j js ih =>
        intro a hj
        show putI ops us js (a.put _ (us.getD j undef)) = putI ops vs js (a.put _ (vs.getD j undef))
        rw [hus j (hj j (List.mem_cons_self ..)), ih _ (fun q hq => hj q (List.mem_cons_of_mem _ hq))]
    have hfirst : ∀ m a, putI ops us (List.range' k (m + 1)) a = putI ops vs (List.range' (k + 1) m) (a.put o.dst v) := fun m a => by
      rw [List.range'_succ]
      show putI ops us _ (a.put (dstAt ops k) (us.getD k undef)) = _
      rw [hu, hput _ _ (fun j hj => by have := List.mem_range'_1.1 hj; omega)]
      unfold dstAt
      rw [hk]
      rfl
    refine ⟨us, fun i x hx => ?_, fun w hw => ?_⟩
    · cases i with
      | zero =>
        simp at hx
        subst hx
        show DoesIf P ops S o (us.getD k undef) a
        rw [hu]
        exact h1
      | succ i =>
        rw [hfirst, show k + (i + 1) = k + 1 + i by omega, hus _ (by omega)]
        exact h3 i x (by simpa using hx)
    · rw [List.length_cons, hfirst]
      exact h4 w hw

theorem un_set {listed : Array Bool} {i n : Nat} (hi : i < listed.size) :
    ((List.range n).filter fun j => (listed.setIfInBounds i true).getD j true == false) = ((List.range n).filter fun j => listed.getD j true == false).filter (fun j => decide (j ≠ i)) := by
  rw [List.filter_filter]
  congr 1
  funext j
  by_cases e : j = i
  · subst e
    simp [hi]
  · rw [getD_set_ne true (fun h => e h.symm)]
    simp [e]

theorem seq_any (hok : seqOk ops = true) (vs : List Value) (a0 : Act) (hdo : ∀ i o, ops[i]? = some o → DoesIf P ops S o (vs.getD i undef) (putI ops vs (List.range i) a0))
    (hfin : ∀ w, S w → Q .normal (putI ops vs (List.range ops.size) a0) w) :
    ∀ (fuel : Nat) (listed : Array Bool) (a : Act) (w : World), listed.size = ops.size → ((List.range ops.size).filter fun j => listed.getD j true == false).length ≤ fuel →
      putI ops vs ((List.range ops.size).filter fun j => listed.getD j true == false) a = putI ops vs (List.range ops.size) a0 → S w → wpAny P .any ops Q fuel listed a w := by
  have key : ∀ (listed : Array Bool) (a : Act) (w : World), listed.size = ops.size → putI ops vs ((List.range ops.size).filter fun j => listed.getD j true == false) a = putI ops vs (List.range ops.size) a0 → S w →
      Region.ready .any ops listed = [] → Q .normal a w := fun listed a w hsz hp hS hr => by
    have hnil : ((List.range ops.size).filter fun j => listed.getD j true == false) = [] := by
      cases hc : ((List.range ops.size).filter fun j => listed.getD j true == false) with
      | nil => rfl
      | cons i rest =>
        exfalso
        have hmem : i ∈ ((List.range ops.size).filter fun j => listed.getD j true == false) := by rw [hc]; exact List.mem_cons_self ..
        have hmin : ∀ j ∈ ((List.range ops.size).filter fun j => listed.getD j true == false), i ≤ j := by
          have hsorted : ((List.range ops.size).filter fun j => listed.getD j true == false).Pairwise (· < ·) := List.Pairwise.filter _ List.pairwise_lt_range
          rw [hc] at hsorted ⊢
          intro j hj
          rcases List.mem_cons.1 hj with rfl | hj
          · exact Nat.le_refl _
          · exact Nat.le_of_lt ((List.pairwise_cons.1 hsorted).1 j hj)
        rw [List.mem_filter, List.mem_range] at hmem
        have ho : ops[i]? = some ops[i] := Array.getElem?_eq_getElem hmem.1
        have hready : i ∈ Region.ready .any ops listed := by
          refine mem_ready.2 ⟨by simpa using hmem.2, _, ho, fun e he hb => ?_⟩
          have hlt := (seqOk_spec hok ho).2.1 e he hb
          have hes : e.on < listed.size := by omega
          cases hl : listed.getD e.on false with
          | true => rfl
          | false =>
            exfalso
            have : e.on ∈ ((List.range ops.size).filter fun j => listed.getD j true == false) := by
              rw [List.mem_filter, List.mem_range]
              refine ⟨by omega, ?_⟩
              simp [hes] at hl ⊢
              exact hl
            have := hmin _ this
            omega
        rw [hr] at hready
        cases hready
    rw [hnil] at hp
    have hp' : a = putI ops vs (List.range ops.size) a0 := hp
    rw [hp']
    exact hfin w hS
  intro fuel
  induction fuel with
  | zero =>
    intro listed a w hsz hlen hp hS
    have hr : Region.ready .any ops listed = [] := by
      cases hc : Region.ready .any ops listed with
      | nil => rfl
      | cons i rest =>
        exfalso
        have hi : i ∈ Region.ready .any ops listed := by rw [hc]; exact List.mem_cons_self ..
        obtain ⟨h0, o, ho, _⟩ := mem_ready.1 hi
        have : i ∈ ((List.range ops.size).filter fun j => listed.getD j true == false) := by
          rw [List.mem_filter, List.mem_range]
          exact ⟨(Array.getElem?_eq_some_iff.1 ho).1, by rw [h0]; rfl⟩
        rw [List.eq_nil_of_length_eq_zero (Nat.le_zero.1 hlen)] at this
        cases this
    exact ⟨hr, key listed a w hsz hp hS hr⟩
  | succ fuel ih =>
    intro listed a w hsz hlen hp hS
    refine ⟨key listed a w hsz hp hS, fun i hi => ?_⟩
    obtain ⟨h0, o, ho, hall⟩ := mem_ready.1 hi
    have hin : i < ops.size := (Array.getElem?_eq_some_iff.1 ho).1
    obtain ⟨hs1, hs2, hs3⟩ := seqOk_spec hok ho
    have hun : i ∈ ((List.range ops.size).filter fun j => listed.getD j true == false) := by
      rw [List.mem_filter, List.mem_range]
      exact ⟨hin, by rw [h0]; rfl⟩
    have hsize : a.tmps.size = (putI ops vs (List.range i) a0).tmps.size := by
      rw [putI_size]
      have := congrArg (fun x => x.tmps.size) hp
      simpa only [putI_size] using this
    have hN : putI ops vs (List.range ops.size) a0 = putI ops vs (List.range' i (ops.size - i)) (putI ops vs (List.range i) a0) := by
      unfold putI
      rw [← List.foldl_append]
      congr 1
      rw [List.range_eq_range', List.range_eq_range']
      have := List.range'_append (s := 0) (m := i) (n := ops.size - i) (step := 1)
      rw [Nat.zero_add, Nat.one_mul, show i + (ops.size - i) = ops.size by omega] at this
      exact this.symm
    have hlook : ∀ t, t ∈ o.looksAt ops → a.tmps[t]? = (putI ops vs (List.range i) a0).tmps[t]? := fun t ht => by
      have e1 : (putI ops vs ((List.range ops.size).filter fun j => listed.getD j true == false) a).tmps[t]? = a.tmps[t]? := putI_at vs t _ a (fun j hj hd => by
        obtain ⟨e, he, hb, hon⟩ := ((hs3 j t hd).1 ht).2
        have := hall e he hb
        rw [List.mem_filter, List.mem_range] at hj
        have hj2 : listed.getD j true = false := by simpa using hj.2
        rw [hon] at this
        have hjs : j < listed.size := by omega
        simp [hjs] at this hj2
        rw [this] at hj2
        cases hj2)
      have e2 : (putI ops vs (List.range' i (ops.size - i)) (putI ops vs (List.range i) a0)).tmps[t]? = (putI ops vs (List.range i) a0).tmps[t]? := putI_at vs t _ _ (fun j hj hd => by
        have h1 := ((hs3 j t hd).1 ht).1
        have h2 := (List.mem_range'_1.1 hj).1
        omega)
      rw [← e1, hp, hN, e2]
    obtain ⟨he, hw⟩ := same_looks hs1 hlook
    refine (hdo i o ho).op ho he hw hsize hS (fun w' hS' => ?_)
    have hdst : dstAt ops i = o.dst := by unfold dstAt; rw [ho]; rfl
    have hnd : ((List.range ops.size).filter fun j => listed.getD j true == false).Nodup := List.Pairwise.filter _ List.nodup_range
    refine ih (listed.setIfInBounds i true) _ w' (by simpa using hsz) ?_ ?_ hS'
    · rw [un_set (by omega)]
      have : (((List.range ops.size).filter fun j => listed.getD j true == false).filter (fun j => decide (j ≠ i))).length < ((List.range ops.size).filter fun j => listed.getD j true == false).length :=
        List.length_filter_lt_length_iff_exists.2 ⟨i, hun, by simp⟩
      omega
    · rw [un_set (by omega), ← hp, putI_pull vs i _ a hnd hun (fun j hj hne d hd => fun hd2 => by
        rw [hdst] at hd
        exact (hs3 j d hd2).2 hne hd), hdst]

/-- The law. -/
theorem wp_region_seq {id : Nat} {l : List Oper} {a : Act} {w : World} (S : World → Prop) (hm : P.follows .mixedOrders = true) (hok : seqOk l.toArray = true) (hS : S w.drew)
    (h : SeqDo P l.toArray Q S l a) : (Code.region id l.toArray true).wp P Q a w := by
  refine wp_region_any hm ?_
  obtain ⟨vs, h1, h2⟩ := seq_vals (ops := l.toArray) l 0 a (fun i o ho => by simpa using ho) h
  have hfil : ((List.range l.toArray.size).filter fun j => (Array.replicate l.toArray.size false).getD j true == false) = List.range l.toArray.size := by
    refine List.filter_eq_self.2 (fun j hj => ?_)
    have := List.mem_range.1 hj
    simp at this
    simp [this]
  refine seq_any hok vs a (fun i o ho => ?_) (fun w hw => ?_) _ _ a _ (by simp) ?_ ?_ hS
  · have := h1 i o (by simpa using ho)
    rw [Nat.zero_add, ← List.range_eq_range'] at this
    exact this
  · have := h2 w hw
    rw [← List.range_eq_range'] at this
    simpa using this
  · rw [hfil]
    simp
  · rw [hfil]

/-- One step: the operation is wanted. -/
theorem SeqDo.does {o : Oper} {l : List Oper} {a : Act} {v : Value} (hw : Region.wanted o (yielded ops a.tmps) = true)
    (hd : ∀ w, S w → ∀ K : Act → World → Prop, Shut (∀ w', S w' → K (a.put o.dst v) w') → Oper.wp P o a w K (fun _ _ _ => False)) (h : SeqDo P ops Q S l (a.put o.dst v)) : SeqDo P ops Q S (o :: l) a := ⟨v, .inl ⟨hw, hd⟩, h⟩
/-- .. and only reads. -/
theorem SeqDo.yields {o : Oper} {l : List Oper} {a : Act} {v : Value} (hw : Region.wanted o (yielded ops a.tmps) = true)
    (hd : ∀ w, S w → (execOp a.eval o).run P w = .ok (.value v) w) (h : SeqDo P ops Q S l (a.put o.dst v)) : SeqDo P ops Q S (o :: l) a :=
  ⟨v, .inl ⟨hw, fun w hS K hK => by
    unfold Oper.wp
    rw [hd w hS]
    exact hK.out _ hS⟩, h⟩
/-- .. its guard skips it. -/
theorem SeqDo.skips {o : Oper} {l : List Oper} {a : Act} (hw : Region.wanted o (yielded ops a.tmps) = false) (h : SeqDo P ops Q S l (a.put o.dst undef)) : SeqDo P ops Q S (o :: l) a := ⟨undef, .inr ⟨hw, rfl⟩, h⟩

end
end Go.Proofs.YtdcoknnjgpdigaaGreatDoor

/- Regions that draw their order, walked once, in an order of one's own choice: what only reads yields one value in every world that meets I; what acts (calls, makes, stores) depends on all acts ahead of it, and all that comes behind an act in that order depends on it. -/
namespace Go.Proofs.YtdcoknnjgpdigaaGreatDoor
open Go.RowKit
set_option linter.unusedVariables false

section
variable {P : Program} {ops : Array Oper} {Q : Exit → Act → World → Prop} {I : World → Prop} {ef : Nat → Bool}

def noPanic : Exit → Act → World → Prop := fun _ _ _ => False
/-- In state a o yields v, in every world that meets I; or it is skipped. -/
def ReadIf (P : Program) (ops : Array Oper) (I : World → Prop) (o : Oper) (v : Value) (a : Act) : Prop :=
  (Region.wanted o (yielded ops a.tmps) = true ∧ ∀ w, I w → (execOp a.eval o).run P w = .ok (.value v) w) ∨ (Region.wanted o (yielded ops a.tmps) = false ∧ v = undef)
def Txt (P : Program) (ops : Array Oper) (Q : Exit → Act → World → Prop) (I : World → Prop) (ef : Nat → Bool) : List Nat → Act → World → Prop
  | [], a, w => Q .normal a w
  | i :: l, a, w => ∃ o, ops[i]? = some o ∧ (ef i = false → ∃ v, ReadIf P ops I o v a ∧ Txt P ops Q I ef l (a.put o.dst v) w) ∧
      (ef i = true → (Region.wanted o (yielded ops a.tmps) = true → Oper.wp P o a w (fun a' w' => I w' ∧ Txt P ops Q I ef l a' w') noPanic) ∧ (Region.wanted o (yielded ops a.tmps) = false → Txt P ops Q I ef l (a.put o.dst undef) w))

theorem looks_put {o : Oper} {a : Act} {d : Option Tmp} {v : Value} (hs : ∀ cs b, o.op ≠ .select cs b) (h : ∀ t, d = some t → t ∉ o.looksAt ops) :
    execOp (a.put d v).eval o = execOp a.eval o ∧ Region.wanted o (yielded ops (a.put d v).tmps) = Region.wanted o (yielded ops a.tmps) :=
  same_looks hs fun t ht => by
    cases d with
    | none => rfl
    | some d =>
      show (a.tmps.setIfInBounds d v)[t]? = a.tmps[t]?
      rw [Array.getElem?_setIfInBounds_ne (fun e => h d rfl (by rw [e]; exact ht))]
theorem ReadIf.put {o : Oper} {a : Act} {d : Option Tmp} {u v : Value} (hs : ∀ cs b, o.op ≠ .select cs b) (h : ∀ t, d = some t → t ∉ o.looksAt ops) : ReadIf P ops I o v (a.put d u) ↔ ReadIf P ops I o v a := by
  obtain ⟨h1, h2⟩ := looks_put (a := a) (v := u) hs h
  unfold ReadIf
  rw [h1, h2]
/-- What may stand ahead of i though i is done before it. -/
def Ahead (ops : Array Oper) (ef : Nat → Bool) (i : Nat) (o : Oper) (j : Nat) : Prop :=
  ef j = false ∧ (∀ t, dstAt ops j = some t → t ∉ o.looksAt ops ∧ o.dst ≠ some t) ∧ ∀ oj, ops[j]? = some oj → (∀ cs b, oj.op ≠ .select cs b) ∧ ∀ t, o.dst = some t → t ∉ oj.looksAt ops

theorem Txt.pull {i : Nat} {o : Oper} {post : List Nat} {w : World} (ho : ops[i]? = some o) (hs : ∀ cs b, o.op ≠ .select cs b) : ∀ (pre : List Nat) (a : Act), (∀ j ∈ pre, Ahead ops ef i o j) → Txt P ops Q I ef (pre ++ i :: post) a w →
    (ef i = false → ∃ v, ReadIf P ops I o v a ∧ Txt P ops Q I ef (pre ++ post) (a.put o.dst v) w) ∧
    (ef i = true → (Region.wanted o (yielded ops a.tmps) = true → Oper.wp P o a w (fun a' w' => I w' ∧ Txt P ops Q I ef (pre ++ post) a' w') noPanic) ∧ (Region.wanted o (yielded ops a.tmps) = false → Txt P ops Q I ef (pre ++ post) (a.put o.dst undef) w))
  | [], a, _, h => by
    obtain ⟨o', ho', h1, h2⟩ := h
    rw [ho] at ho'
    injection ho' with ho'
    subst ho'
    exact ⟨h1, h2⟩
  | j :: pre, a, hp, h => by
    obtain ⟨oj, hoj, h1, _⟩ := h
    obtain ⟨hj1, hj2, hj3⟩ := hp j (List.mem_cons_self ..)
    obtain ⟨hj4, hj5⟩ := hj3 oj hoj
    have hdst : dstAt ops j = oj.dst := by unfold dstAt; rw [hoj]; rfl
    rw [hdst] at hj2
    obtain ⟨u, hu, hT⟩ := h1 hj1
    obtain ⟨i1, i2⟩ := Txt.pull ho hs pre _ (fun k hk => hp k (List.mem_cons_of_mem _ hk)) hT
    have comm : ∀ x, (a.put oj.dst u).put o.dst x = (a.put o.dst x).put oj.dst u := fun x => Act.put_comm a _ _ (fun t ht e => (hj2 t ht).2 e)
    have hl1 : ∀ t, oj.dst = some t → t ∉ o.looksAt ops := fun t ht => (hj2 t ht).1
    have hback : ∀ (b : Act) (w' : World), ReadIf P ops I oj u b → Txt P ops Q I ef (pre ++ post) (b.put oj.dst u) w' → Txt P ops Q I ef (j :: pre ++ post) b w' := fun b w' g1 g2 =>
      ⟨oj, hoj, fun _ => ⟨u, g1, g2⟩, fun e => by rw [hj1] at e; cases e⟩
    refine ⟨fun e => ?_, fun e => ⟨fun hw => ?_, fun hw => ?_⟩⟩
    · obtain ⟨v, hv, hT2⟩ := i1 e
      rw [comm] at hT2
      exact ⟨v, (ReadIf.put hs hl1).1 hv, hback _ _ ((ReadIf.put hj4 hj5).2 hu) hT2⟩
    · have hw' : Region.wanted o (yielded ops (a.put oj.dst u).tmps) = true := by rw [(looks_put hs hl1).2]; exact hw
      have h3 := (i2 e).1 hw'
      unfold Oper.wp at h3 ⊢
      rw [(looks_put hs hl1).1] at h3
      generalize (execOp a.eval o).run P w = r at *
      have key : ∀ x w', I w' ∧ Txt P ops Q I ef (pre ++ post) ((a.put oj.dst u).put o.dst x) w' → I w' ∧ Txt P ops Q I ef (j :: pre ++ post) (a.put o.dst x) w' := fun x w' hx => by
        rw [comm] at hx
        exact ⟨hx.1, hback _ _ ((ReadIf.put hj4 hj5).2 hu) hx.2⟩
      cases r with
      | ok n w' =>
        cases n <;> simp only [Oper.upon] at h3 ⊢
        case value x => exact key _ _ h3
        case skip => exact key _ _ h3
        case defer x =>
          have comm2 : ({ a.put oj.dst u with defers := x :: (a.put oj.dst u).defers } : Act).put o.dst undef = (({ a with defers := x :: a.defers } : Act).put o.dst undef).put oj.dst u := by
            rw [← Act.put_comm _ _ _ (fun t ht e => (hj2 t ht).2 e)]
            cases oj.dst <;> rfl
          rw [comm2] at h3
          refine ⟨h3.1, hback _ _ ?_ h3.2⟩
          refine (ReadIf.put hj4 hj5).2 ?_
          exact hu
        case enter f args =>
          refine Calls.mono h3 fun e w'' he => ?_
          cases e with
          | returned x => exact key _ _ he
          | panicked c => exact he.elim
          | outgrown => exact he
        case row row args => exact Rows.mono h3 fun x w'' he => key _ _ he
      | halt x w' => cases x <;> first | exact h3 | exact h3.elim
    · have hw' : Region.wanted o (yielded ops (a.put oj.dst u).tmps) = false := by rw [(looks_put hs hl1).2]; exact hw
      have h3 := (i2 e).2 hw'
      rw [comm] at h3
      exact hback _ _ ((ReadIf.put hj4 hj5).2 hu) h3

/-- What is asked of the order: each operation behind what it waits for; whatever comes behind an act waits for it. -/
def depsOn (ops : Array Oper) (i : Nat) (s : List Nat) : Bool := match ops[i]? with
  | none => false
  | some o => o.after.any fun e => Region.binds .any e && s.contains e.on
def segOk (ops : Array Oper) (ef : Nat → Bool) : List Nat → List Nat → List Nat → Bool
  | _, _, [] => true
  | E, seg, i :: l => (match E with | [] => true | e :: _ => depsOn ops i (e :: seg)) && (if ef i then segOk ops ef (i :: E) [] l else segOk ops ef E (i :: seg) l)
def opOk (ops : Array Oper) (i : Nat) : Bool := match ops[i]? with
  | none => false
  | some o => (match o.op with | .select .. => false | _ => true) &&
    (List.range ops.size).all fun j => match dstAt ops j with
      | none => true
      | some d => (!(o.looksAt ops).contains d || o.after.any (fun e => Region.binds .any e && e.on == j)) && (j == i || o.dst != some d)
def topOk (ops : Array Oper) : List Nat → List Nat → Bool
  | _, [] => true
  | seen, i :: l => (match ops[i]? with | none => false | some o => o.after.all fun e => !Region.binds .any e || seen.contains e.on) && topOk ops (i :: seen) l
def txtOk (ops : Array Oper) (ef : Nat → Bool) (π : List Nat) : Bool :=
  decide (π.length = ops.size ∧ π.Nodup) && π.all (fun i => decide (i < ops.size)) && (List.range ops.size).all (fun i => π.contains i && opOk ops i) && segOk ops ef [] [] π && topOk ops [] π

/-- Done operations, closed under what they wait for. -/
def Closed (ops : Array Oper) (L : Nat → Prop) : Prop := ∀ i o, ops[i]? = some o → L i → ∀ e ∈ o.after, Region.binds .any e = true → L e.on
def Waits (ops : Array Oper) (L : Nat → Prop) (i : Nat) : Prop := ∀ o, ops[i]? = some o → ∀ e ∈ o.after, Region.binds .any e = true → L e.on
theorem depsOn_spec {i : Nat} {s : List Nat} {L : Nat → Prop} (h : depsOn ops i s = true) (hw : Waits ops L i) : ∃ k ∈ s, L k := by
  unfold depsOn at h
  cases ho : ops[i]? with
  | none => rw [ho] at h; cases h
  | some o =>
    simp only [ho] at h
    obtain ⟨q, hq, h8⟩ := Array.any_eq_true.1 h
    rw [Bool.and_eq_true] at h8
    exact ⟨_, List.contains_iff_mem.1 h8.2, hw o ho _ (Array.getElem_mem hq) h8.1⟩
theorem segOk_spec {L : Nat → Prop} (hc : Closed ops L) : ∀ (l E seg : List Nat), segOk ops ef E seg l = true → (∀ k ∈ seg, L k → ∀ e ∈ E, L e) → (∀ e E', E = e :: E' → L e → ∀ x ∈ E', L x) →
    ∀ pre i post, l = pre ++ i :: post → Waits ops L i → (∀ e ∈ E, L e) ∧ ∀ j ∈ pre, ef j = true → L j
  | [], E, seg, _, _, _, pre, i, post, e, _ => by cases pre <;> cases e
  | x :: l, E, seg, h, h1, h2, pre, i, post, e, hw => by
    unfold segOk at h
    rw [Bool.and_eq_true] at h
    have head : Waits ops L x → ∀ e ∈ E, L e := fun hx => by
      cases E with
      | nil => intro e he; cases he
      | cons e0 E' =>
        obtain ⟨k, hk, hL⟩ := depsOn_spec h.1 hx
        rcases List.mem_cons.1 hk with rfl | hk
        · intro e he
          rcases List.mem_cons.1 he with rfl | he
          · exact hL
          · exact h2 _ _ rfl hL e he
        · exact h1 k hk hL
    have hwx : L x → Waits ops L x := fun hx o ho => hc x o ho hx
    cases pre with
    | nil =>
      simp at e
      obtain ⟨rfl, rfl⟩ := e
      exact ⟨head hw, fun j hj => by cases hj⟩
    | cons y pre =>
      simp at e
      obtain ⟨rfl, rfl⟩ := e
      by_cases hx : ef x = true
      · have h3 := h.2
        rw [if_pos hx] at h3
        obtain ⟨g1, g2⟩ := segOk_spec hc _ _ _ h3 (fun k hk => by cases hk) (fun e E' he hL => by injection he with he1 he2; subst he1 he2; exact head (hwx hL)) pre i post rfl hw
        refine ⟨fun e he => g1 e (List.mem_cons_of_mem _ he), fun j hj hj2 => ?_⟩
        rcases List.mem_cons.1 hj with rfl | hj
        · exact g1 _ (List.mem_cons_self ..)
        · exact g2 j hj hj2
      · have h3 := h.2
        rw [if_neg hx] at h3
        obtain ⟨g1, g2⟩ := segOk_spec hc _ _ _ h3 (fun k hk hL => by
          rcases List.mem_cons.1 hk with rfl | hk
          · exact head (hwx hL)
          · exact h1 k hk hL) h2 pre i post rfl hw
        refine ⟨g1, fun j hj hj2 => ?_⟩
        rcases List.mem_cons.1 hj with rfl | hj
        · exact absurd hj2 hx
        · exact g2 j hj hj2
theorem topOk_spec : ∀ (l seen : List Nat), topOk ops seen l = true → ∀ pre i post, l = pre ++ i :: post → ∀ o, ops[i]? = some o → ∀ e ∈ o.after, Region.binds .any e = true → e.on ∈ pre ∨ e.on ∈ seen
  | [], seen, _, pre, i, post, e, _, _, _, _, _ => by cases pre <;> cases e
  | x :: l, seen, h, pre, i, post, e, o, ho, q, hq, hb => by
    unfold topOk at h
    rw [Bool.and_eq_true] at h
    cases pre with
    | nil =>
      simp at e
      obtain ⟨rfl, rfl⟩ := e
      have h1 := h.1
      simp only [ho] at h1
      have := (Array.all_eq_true_iff_forall_mem.1 h1) q hq
      rw [hb] at this
      exact .inr (List.contains_iff_mem.1 (by simpa using this))
    | cons y pre =>
      simp at e
      obtain ⟨rfl, rfl⟩ := e
      rcases topOk_spec _ (x :: seen) h.2 pre i post rfl o ho q hq hb with g | g
      · exact .inl (List.mem_cons_of_mem _ g)
      · rcases List.mem_cons.1 g with g | g
        · exact .inl (by rw [g]; exact List.mem_cons_self ..)
        · exact .inr g
theorem opOk_spec {i : Nat} {o : Oper} (h : opOk ops i = true) (ho : ops[i]? = some o) :
    (∀ cs b, o.op ≠ .select cs b) ∧ ∀ j d, dstAt ops j = some d → (d ∈ o.looksAt ops → ∃ e ∈ o.after, Region.binds .any e = true ∧ e.on = j) ∧ (j ≠ i → o.dst ≠ some d) := by
  unfold opOk at h
  simp only [ho, Bool.and_eq_true] at h
  obtain ⟨h2, h4⟩ := h
  refine ⟨fun cs b e => ?_, fun j d hj => ?_⟩
  · rw [e] at h2
    cases h2
  · have hjs : j < ops.size := by
      unfold dstAt at hj
      cases hoj : ops[j]? with
      | none => rw [hoj] at hj; cases hj
      | some x => exact (Array.getElem?_eq_some_iff.1 hoj).1
    have h5 := List.all_eq_true.1 h4 j (List.mem_range.2 hjs)
    simp only [hj, Bool.and_eq_true] at h5
    refine ⟨fun hd => ?_, fun hne => ?_⟩
    · have h6 := h5.1
      rw [List.contains_iff_mem.2 hd] at h6
      simp only [Bool.not_true, Bool.false_or] at h6
      obtain ⟨q, hq, h8⟩ := Array.any_eq_true.1 h6
      simp only [Bool.and_eq_true, beq_iff_eq] at h8
      exact ⟨_, Array.getElem_mem hq, h8.1, h8.2⟩
    · have h6 := h5.2
      simp only [Bool.or_eq_true, beq_iff_eq, bne_iff_ne] at h6
      exact h6.resolve_left hne

def remT (π : List Nat) (listed : Array Bool) : List Nat := π.filter fun j => listed.getD j true == false
theorem remT_set {π : List Nat} {listed : Array Bool} {i : Nat} (hi : i < listed.size) : remT π (listed.setIfInBounds i true) = (remT π listed).filter (fun j => decide (j ≠ i)) := by
  unfold remT
  rw [List.filter_filter]
  congr 1
  funext j
  by_cases e : j = i
  · subst e
    simp [hi]
  · rw [getD_set_ne true (fun h => e h.symm)]
    simp [e]
theorem listed_iff {listed : Array Bool} {j : Nat} (hj : j < listed.size) : listed.getD j true = listed.getD j false := by simp [hj]

theorem txt_any {π : List Nat} (hok : txtOk ops ef π = true) : ∀ (fuel : Nat) (listed : Array Bool) (a : Act) (w : World), listed.size = ops.size → (remT π listed).length ≤ fuel → Closed ops (fun j => listed.getD j false = true) → Txt P ops Q I ef (remT π listed) a w → I w → wpAny P .any ops Q fuel listed a w := by
  unfold txtOk at hok
  simp only [Bool.and_eq_true, decide_eq_true_eq] at hok
  obtain ⟨⟨⟨⟨⟨hlen, hnd⟩, hltb⟩, hall⟩, hseg⟩, htop⟩ := hok
  have hmem : ∀ i, i < ops.size → i ∈ π ∧ opOk ops i = true := fun i hi => by
    have := List.all_eq_true.1 hall i (List.mem_range.2 hi)
    rw [Bool.and_eq_true] at this
    exact ⟨List.contains_iff_mem.1 this.1, this.2⟩
  have hlt : ∀ i ∈ π, i < ops.size := fun i hi => by simpa using List.all_eq_true.1 hltb i hi
  have hrem : ∀ (listed : Array Bool) i, listed.size = ops.size → (i ∈ remT π listed ↔ i < ops.size ∧ listed.getD i true = false) := fun listed i hsz => by
    unfold remT
    rw [List.mem_filter]
    constructor
    · rintro ⟨h1, h2⟩
      exact ⟨hlt i h1, by simpa using h2⟩
    · rintro ⟨h1, h2⟩
      exact ⟨(hmem i h1).1, by simpa using h2⟩
  -- the first that is left is ready
  have hfirst : ∀ (listed : Array Bool), listed.size = ops.size → Region.ready .any ops listed = [] → remT π listed = [] := fun listed hsz hr => by
    cases hc : remT π listed with
    | nil => rfl
    | cons i rest =>
      exfalso
      have hi := (hrem listed i hsz).1 (by rw [hc]; exact List.mem_cons_self ..)
      obtain ⟨pre, post, hpp, hpre⟩ : ∃ pre post, π = pre ++ i :: post ∧ ∀ j ∈ pre, listed.getD j true = true := by
        have := List.filter_eq_cons_iff.1 hc
        obtain ⟨l1, l2, e, h1, h2, _⟩ := this
        exact ⟨l1, l2, e, fun j hj => by simpa using h1 j hj⟩
      have ho : ops[i]? = some ops[i] := Array.getElem?_eq_getElem hi.1
      have hready : i ∈ Region.ready .any ops listed := by
        refine mem_ready.2 ⟨hi.2, _, ho, fun e he hb => ?_⟩
        rcases topOk_spec π [] htop pre i post hpp _ ho e he hb with g | g
        · have h1 := hpre _ g
          have h2 : e.on < listed.size := by rw [hsz]; exact hlt _ (by rw [hpp]; exact List.mem_append_left _ g)
          rw [← listed_iff h2]
          exact h1
        · cases g
      rw [hr] at hready
      cases hready
  intro fuel
  induction fuel with
  | zero =>
    intro listed a w hsz hl hcl hT hI
    have hn : remT π listed = [] := List.eq_nil_of_length_eq_zero (Nat.le_zero.1 hl)
    have hr : Region.ready .any ops listed = [] := by
      cases hc : Region.ready .any ops listed with
      | nil => rfl
      | cons i rest =>
        exfalso
        have hi : i ∈ Region.ready .any ops listed := by rw [hc]; exact List.mem_cons_self ..
        obtain ⟨h0, o, ho, _⟩ := mem_ready.1 hi
        have := (hrem listed i hsz).2 ⟨(Array.getElem?_eq_some_iff.1 ho).1, h0⟩
        rw [hn] at this
        cases this
    rw [hn] at hT
    exact ⟨hr, hT⟩
  | succ fuel ih =>
    intro listed a w hsz hl hcl hT hI
    refine ⟨fun hr => by rw [hfirst listed hsz hr] at hT; exact hT, fun i hi => ?_⟩
    obtain ⟨h0, o, ho, hw⟩ := mem_ready.1 hi
    have hin : i < ops.size := (Array.getElem?_eq_some_iff.1 ho).1
    have hir := (hrem listed i hsz).2 ⟨hin, h0⟩
    obtain ⟨hs1, hs2⟩ := opOk_spec (hmem i hin).2 ho
    -- around i
    obtain ⟨p1, p2, hpp⟩ := List.append_of_mem (hmem i hin).1
    have hrs : remT π listed = remT p1 listed ++ i :: remT p2 listed := by
      unfold remT
      rw [hpp, List.filter_append, List.filter_cons_of_pos (by rw [h0]; rfl)]
    have hni : i ∉ p1 ∧ i ∉ p2 := by
      have := hnd
      rw [hpp] at this
      have h1 := List.nodup_append.1 this
      have h2 := List.nodup_cons.1 h1.2.1
      exact ⟨fun h => h1.2.2 i h i (List.mem_cons_self ..) rfl, h2.1⟩
    have hwait : Waits ops (fun j => listed.getD j false = true) i := fun o' ho' e he hb => by
      rw [ho] at ho'
      injection ho' with ho'
      subst ho'
      exact hw e he hb
    obtain ⟨_, hact⟩ := segOk_spec hcl π [] [] hseg (fun k hk => by cases hk) (fun e E' h => by cases h) p1 i p2 hpp hwait
    have hahead : ∀ j ∈ remT p1 listed, Ahead ops ef i o j := fun j hj => by
      have hj1 : j ∈ p1 := (List.mem_filter.1 hj).1
      have hj2 : listed.getD j true = false := by simpa using (List.mem_filter.1 hj).2
      have hjs : j < ops.size := hlt j (by rw [hpp]; exact List.mem_append_left _ hj1)
      have hjn : j ≠ i := fun e => hni.1 (e ▸ hj1)
      have hjl : ¬ listed.getD j false = true := by rw [← listed_iff (by omega), hj2]; simp
      refine ⟨?_, fun t ht => ⟨fun hl => ?_, (hs2 j t ht).2 hjn⟩, fun oj hoj => ?_⟩
      · cases hef : ef j with
        | false => rfl
        | true => exact absurd (hact j hj1 hef) hjl
      · obtain ⟨e, he, hb, hon⟩ := (hs2 j t ht).1 hl
        have := hw e he hb
        rw [hon] at this
        exact hjl this
      · obtain ⟨g1, g2⟩ := opOk_spec (hmem j hjs).2 hoj
        refine ⟨g1, fun t ht hl => ?_⟩
        obtain ⟨e, he, hb, hon⟩ := (g2 i t (by unfold dstAt; rw [ho]; exact ht)).1 hl
        obtain ⟨q1, q2, hq⟩ := List.append_of_mem hj1
        rcases topOk_spec π [] htop q1 j (q2 ++ i :: p2) (by rw [hpp, hq]; simp) oj hoj e he hb with g | g
        · rw [hon] at g
          exact hni.1 (by rw [hq]; exact List.mem_append_left _ g)
        · cases g
    rw [hrs] at hT
    obtain ⟨hR, hE⟩ := Txt.pull ho hs1 _ a hahead hT
    have hcl' : Closed ops (fun j => (listed.setIfInBounds i true).getD j false = true) := fun k ok hok hk e he hb => by
      have hup : ∀ j, listed.getD j false = true → (listed.setIfInBounds i true).getD j false = true := fun j hj => by
        by_cases ej : j = i
        · subst ej
          have : j < listed.size := by omega
          simp [this]
        · rw [getD_set_ne false (fun h => ej h.symm)]
          exact hj
      by_cases ek : k = i
      · subst ek
        exact hup _ (hwait ok hok e he hb)
      · have hk' : listed.getD k false = true := by
          have h5 : (listed.setIfInBounds i true).getD k false = true := hk
          rw [getD_set_ne false (fun h => ek h.symm)] at h5
          exact h5
        exact hup _ (hcl k ok hok hk' e he hb)
    have hnext : ∀ a' w', I w' → Txt P ops Q I ef (remT p1 listed ++ remT p2 listed) a' w' → wpAny P .any ops Q fuel (listed.setIfInBounds i true) a' w' := fun a' w' hI' hT' => by
      have e1 : remT π (listed.setIfInBounds i true) = remT p1 listed ++ remT p2 listed := by
        rw [remT_set (by omega), hrs, List.filter_append, List.filter_cons_of_neg (by simp)]
        congr 1
        · exact List.filter_eq_self.2 (fun j hj => by simp; exact fun e => hni.1 (e ▸ (List.mem_filter.1 hj).1))
        · exact List.filter_eq_self.2 (fun j hj => by simp; exact fun e => hni.2 (e ▸ (List.mem_filter.1 hj).1))
      refine ih _ a' w' (by simpa using hsz) ?_ hcl' (by rw [e1]; exact hT') hI'
      rw [e1]
      rw [hrs] at hl
      simp at hl ⊢
      omega
    unfold wpOp
    simp only [ho]
    cases hef : ef i with
    | false =>
      obtain ⟨v, hv, hT2⟩ := hR hef
      rcases hv with ⟨h1, h2⟩ | ⟨h1, rfl⟩
      · rw [if_pos h1]
        refine .inl ?_
        unfold Oper.wp
        rw [h2 w hI]
        exact hnext _ _ hI hT2
      · rw [if_neg (by rw [h1]; simp)]
        exact hnext _ _ hI hT2
    | true =>
      obtain ⟨g1, g2⟩ := hE hef
      cases hwt : Region.wanted o (yielded ops a.tmps) with
      | true =>
        rw [if_pos rfl]
        refine .inl ?_
        have h3 := g1 hwt
        unfold Oper.wp at h3 ⊢
        generalize (execOp a.eval o).run P w = r at *
        cases r with
        | ok n w' =>
          cases n <;> simp only [Oper.upon] at h3 ⊢
          case value x => exact hnext _ _ h3.1 h3.2
          case skip => exact hnext _ _ h3.1 h3.2
          case defer x => exact hnext _ _ h3.1 h3.2
          case enter f args =>
            refine Calls.mono h3 fun e w'' he => ?_
            cases e with
            | returned x => exact hnext _ _ he.1 he.2
            | panicked c => exact he.elim
            | outgrown =>
              obtain ⟨_, _, hf⟩ := he
              exact hf.elim
          case row row args => exact Rows.mono h3 fun x w'' he => hnext _ _ he.1 he.2
        | halt x w' => cases x <;> first | exact h3 | exact h3.elim
      | false =>
        rw [if_neg (by simp)]
        exact hnext _ _ hI (g2 hwt)

/-- The law. acts: the numbers of the operations that act; π: the order. -/
theorem wp_region_txt {id : Nat} {l : List Oper} {a : Act} {w : World} (I : World → Prop) (acts π : List Nat) (hm : P.follows .mixedOrders = true) (hok : txtOk l.toArray (fun i => acts.contains i) π = true) (hI : I w.drew)
    (h : Txt P l.toArray Q I (fun i => acts.contains i) π a w.drew) : (Code.region id l.toArray true).wp P Q a w := by
  refine wp_region_any hm ?_
  have hall : remT π (Array.replicate l.toArray.size false) = π := by
    have hok' := hok
    unfold txtOk at hok'
    simp only [Bool.and_eq_true, decide_eq_true_eq] at hok'
    obtain ⟨⟨⟨⟨_, hltb⟩, _⟩, _⟩, _⟩ := hok'
    refine List.filter_eq_self.2 (fun j hj => ?_)
    have : j < l.toArray.size := by simpa using List.all_eq_true.1 hltb j hj
    simp at this
    simp [this]
  refine txt_any hok _ _ a _ (by simp) ?_ (fun i o ho hi => ?_) (by rw [hall]; exact h) hI
  · rw [hall]
    unfold txtOk at hok
    simp only [Bool.and_eq_true, decide_eq_true_eq] at hok
    exact Nat.le_of_eq hok.1.1.1.1.1
  · exfalso
    have hlt := (Array.getElem?_eq_some_iff.1 ho).1
    simp at hlt
    simp [hlt] at hi

/-- One step: it only reads. -/
theorem Txt.reads {i : Nat} {o : Oper} {ol : List Oper} {l : List Nat} {a : Act} {w : World} {v : Value} (ho : ol[i]? = some o) (he : ef i = false) (hw : Region.wanted o (yielded ol.toArray a.tmps) = true)
    (hd : ∀ w, I w → (execOp a.eval o).run P w = .ok (.value v) w) (h : Txt P ol.toArray Q I ef l (a.put o.dst v) w) : Txt P ol.toArray Q I ef (i :: l) a w :=
  ⟨o, by simpa using ho, fun _ => ⟨v, .inl ⟨hw, hd⟩, h⟩, fun e => (by rw [he] at e; cases e)⟩
/-- .. its guard skips it. -/
theorem Txt.skips {i : Nat} {o : Oper} {ol : List Oper} {l : List Nat} {a : Act} {w : World} (ho : ol[i]? = some o) (hw : Region.wanted o (yielded ol.toArray a.tmps) = false) (h : Txt P ol.toArray Q I ef l (a.put o.dst undef) w) : Txt P ol.toArray Q I ef (i :: l) a w :=
  ⟨o, by simpa using ho, fun _ => ⟨undef, .inr ⟨hw, rfl⟩, h⟩, fun _ => ⟨fun e => (by rw [hw] at e; cases e), fun _ => h⟩⟩
/-- .. it acts. -/
theorem Txt.acts {i : Nat} {o : Oper} {ol : List Oper} {l : List Nat} {a : Act} {w : World} (ho : ol[i]? = some o) (he : ef i = true) (hw : Region.wanted o (yielded ol.toArray a.tmps) = true)
    (h : ∀ K : Act → World → Prop, Shut (∀ a' w', I w' → Txt P ol.toArray Q I ef l a' w' → K a' w') → Oper.wp P o a w K noPanic) : Txt P ol.toArray Q I ef (i :: l) a w :=
  ⟨o, by simpa using ho, fun e => (by rw [he] at e; cases e), fun _ => ⟨fun _ => h _ (fun a' w' h1 h2 => ⟨h1, h2⟩), fun e => (by rw [hw] at e; cases e)⟩⟩
theorem Txt.done {a : Act} {w : World} (h : Q .normal a w) : Txt P ops Q I ef [] a w := h

end
end Go.Proofs.YtdcoknnjgpdigaaGreatDoor

/- Five cells written; blocks that are new. -/
namespace Go.Proofs.YtdcoknnjgpdigaaGreatDoor
open Go.RowKit
set_option linter.unusedVariables false

theorem two_bel (w : World) (X Y : Obj) : Below w.heap.size w ((w.alloc X).alloc Y) := ((Below.refl _ _).alloc (Nat.le_refl _) _).alloc (by simp) _

end Go.Proofs.YtdcoknnjgpdigaaGreatDoor
