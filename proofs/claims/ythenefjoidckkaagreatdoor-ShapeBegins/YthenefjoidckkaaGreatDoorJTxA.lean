/- Regions that draw their order, walked once, in an order of one's own choice: what only reads yields one value in every world that meets I; what acts (calls, makes, stores) depends on all acts ahead of it, and all that comes behind an act in that order depends on it. -/
import Derived.Test.YthenefjoidckkaaGreatDoorJB

namespace Go.Proofs.YthenefjoidckkaaGreatDoor
open Go.RowKit
set_option linter.unusedVariables false

section
variable {P : Program} {ops : Array Oper} {Q : Exit → Act → World → Prop} {I : World → Prop} {ef : Nat → Bool}

def noPanic : Exit → Act → World → Prop := fun _ _ _ => False
/-- In state a o yields v, in every world that meets I; or it is skipped. -/
def ReadIf (P : Program) (ops : Array Oper) (I : World → Prop) (o : Oper) (v : Value) (a : Act) : Prop :=
  (Region.wanted o (yielded ops a.tmps) = true ∧ ∀ w, I w → (execOp a.eval o).run P w = .ok (.value v) w) ∨ (Region.wanted o (yielded ops a.tmps) = false ∧ v = undef)
def Txt (P : Program) (ops : Array Oper) (Q : Exit → Act → World → Prop) (I : World → Prop) (ef : Nat → Bool) : List Nat → Act → World → Prop
  | [], a, w => Q .normal a w
  | i :: l, a, w => ∃ o, ops[i]? = some o ∧ (ef i = false → ∃ v, ReadIf P ops I o v a ∧ Txt P ops Q I ef l (a.put o.dst v) w) ∧
      (ef i = true → (Region.wanted o (yielded ops a.tmps) = true → Oper.wp P o a w (fun a' w' => I w' ∧ Txt P ops Q I ef l a' w') noPanic) ∧ (Region.wanted o (yielded ops a.tmps) = false → Txt P ops Q I ef l (a.put o.dst undef) w))

theorem looks_put {o : Oper} {a : Act} {d : Option Tmp} {v : Value} (hs : ∀ cs b, o.op ≠ .select cs b) (h : ∀ t, d = some t → t ∉ o.looksAt ops) :
    execOp (a.put d v).eval o = execOp a.eval o ∧ Region.wanted o (yielded ops (a.put d v).tmps) = Region.wanted o (yielded ops a.tmps) :=
  same_looks hs fun t ht => by
    cases d with
    | none => rfl
    | some d =>
      show (a.tmps.setIfInBounds d v)[t]? = a.tmps[t]?
      rw [Array.getElem?_setIfInBounds_ne (fun e => h d rfl (by rw [e]; exact ht))]
theorem ReadIf.put {o : Oper} {a : Act} {d : Option Tmp} {u v : Value} (hs : ∀ cs b, o.op ≠ .select cs b) (h : ∀ t, d = some t → t ∉ o.looksAt ops) : ReadIf P ops I o v (a.put d u) ↔ ReadIf P ops I o v a := by
  obtain ⟨h1, h2⟩ := looks_put (a := a) (v := u) hs h
  unfold ReadIf
  rw [h1, h2]
/-- What may stand ahead of i though i is done before it. -/
def Ahead (ops : Array Oper) (ef : Nat → Bool) (i : Nat) (o : Oper) (j : Nat) : Prop :=
  ef j = false ∧ (∀ t, dstAt ops j = some t → t ∉ o.looksAt ops ∧ o.dst ≠ some t) ∧ ∀ oj, ops[j]? = some oj → (∀ cs b, oj.op ≠ .select cs b) ∧ ∀ t, o.dst = some t → t ∉ oj.looksAt ops

theorem Txt.pull {i : Nat} {o : Oper} {post : List Nat} {w : World} (ho : ops[i]? = some o) (hs : ∀ cs b, o.op ≠ .select cs b) : ∀ (pre : List Nat) (a : Act), (∀ j ∈ pre, Ahead ops ef i o j) → Txt P ops Q I ef (pre ++ i :: post) a w →
    (ef i = false → ∃ v, ReadIf P ops I o v a ∧ Txt P ops Q I ef (pre ++ post) (a.put o.dst v) w) ∧
    (ef i = true → (Region.wanted o (yielded ops a.tmps) = true → Oper.wp P o a w (fun a' w' => I w' ∧ Txt P ops Q I ef (pre ++ post) a' w') noPanic) ∧ (Region.wanted o (yielded ops a.tmps) = false → Txt P ops Q I ef (pre ++ post) (a.put o.dst undef) w))
  | [], a, _, h => by
    obtain ⟨o', ho', h1, h2⟩ := h
    rw [ho] at ho'
    injection ho' with ho'
    subst ho'
    exact ⟨h1, h2⟩
  | j :: pre, a, hp, h => by
    obtain ⟨oj, hoj, h1, _⟩ := h
    obtain ⟨hj1, hj2, hj3⟩ := hp j (List.mem_cons_self ..)
    obtain ⟨hj4, hj5⟩ := hj3 oj hoj
    have hdst : dstAt ops j = oj.dst := by unfold dstAt; rw [hoj]; rfl
    rw [hdst] at hj2
    obtain ⟨u, hu, hT⟩ := h1 hj1
    obtain ⟨i1, i2⟩ := Txt.pull ho hs pre _ (fun k hk => hp k (List.mem_cons_of_mem _ hk)) hT
    have comm : ∀ x, (a.put oj.dst u).put o.dst x = (a.put o.dst x).put oj.dst u := fun x => Act.put_comm a _ _ (fun t ht e => (hj2 t ht).2 e)
    have hl1 : ∀ t, oj.dst = some t → t ∉ o.looksAt ops := fun t ht => (hj2 t ht).1
    have hback : ∀ (b : Act) (w' : World), ReadIf P ops I oj u b → Txt P ops Q I ef (pre ++ post) (b.put oj.dst u) w' → Txt P ops Q I ef (j :: pre ++ post) b w' := fun b w' g1 g2 =>
      ⟨oj, hoj, fun _ => ⟨u, g1, g2⟩, fun e => by rw [hj1] at e; cases e⟩
    refine ⟨fun e => ?_, fun e => ⟨fun hw => ?_, fun hw => ?_⟩⟩
    · obtain ⟨v, hv, hT2⟩ := i1 e
      rw [comm] at hT2
      exact ⟨v, (ReadIf.put hs hl1).1 hv, hback _ _ ((ReadIf.put hj4 hj5).2 hu) hT2⟩
    · have hw' : Region.wanted o (yielded ops (a.put oj.dst u).tmps) = true := by rw [(looks_put hs hl1).2]; exact hw
      have h3 := (i2 e).1 hw'
      unfold Oper.wp at h3 ⊢
      rw [(looks_put hs hl1).1] at h3
      generalize (execOp a.eval o).run P w = r at *
      have key : ∀ x w', I w' ∧ Txt P ops Q I ef (pre ++ post) ((a.put oj.dst u).put o.dst x) w' → I w' ∧ Txt P ops Q I ef (j :: pre ++ post) (a.put o.dst x) w' := fun x w' hx => by
        rw [comm] at hx
        exact ⟨hx.1, hback _ _ ((ReadIf.put hj4 hj5).2 hu) hx.2⟩
      cases r with
      | ok n w' =>
        cases n <;> simp only [Oper.upon] at h3 ⊢
        case value x => exact key _ _ h3
        case skip => exact key _ _ h3
        case defer x =>
          have comm2 : ({ a.put oj.dst u with defers := x :: (a.put oj.dst u).defers } : Act).put o.dst undef = (({ a with defers := x :: a.defers } : Act).put o.dst undef).put oj.dst u := by
            rw [← Act.put_comm _ _ _ (fun t ht e => (hj2 t ht).2 e)]
            cases oj.dst <;> rfl
          rw [comm2] at h3
          refine ⟨h3.1, hback _ _ ?_ h3.2⟩
          refine (ReadIf.put hj4 hj5).2 ?_
          exact hu
        case enter f args =>
          refine Calls.mono h3 fun e w'' he => ?_
          cases e with
          | returned x => exact key _ _ he
          | panicked c => exact he.elim
          | outgrown => exact he
        case row row args => exact Rows.mono h3 fun x w'' he => key _ _ he
      | halt x w' => cases x <;> first | exact h3 | exact h3.elim
    · have hw' : Region.wanted o (yielded ops (a.put oj.dst u).tmps) = false := by rw [(looks_put hs hl1).2]; exact hw
      have h3 := (i2 e).2 hw'
      rw [comm] at h3
      exact hback _ _ ((ReadIf.put hj4 hj5).2 hu) h3

/-- What is asked of the order: each operation behind what it waits for; whatever comes behind an act waits for it. -/
def depsOn (ops : Array Oper) (i : Nat) (s : List Nat) : Bool := match ops[i]? with
  | none => false
  | some o => o.after.any fun e => Region.binds .any e && s.contains e.on
def segOk (ops : Array Oper) (ef : Nat → Bool) : List Nat → List Nat → List Nat → Bool
  | _, _, [] => true
  | E, seg, i :: l => (match E with | [] => true | e :: _ => depsOn ops i (e :: seg)) && (if ef i then segOk ops ef (i :: E) [] l else segOk ops ef E (i :: seg) l)
def opOk (ops : Array Oper) (i : Nat) : Bool := match ops[i]? with
  | none => false
  | some o => (match o.op with | .select .. => false | _ => true) &&
    (List.range ops.size).all fun j => match dstAt ops j with
      | none => true
      | some d => (!(o.looksAt ops).contains d || o.after.any (fun e => Region.binds .any e && e.on == j)) && (j == i || o.dst != some d)
def topOk (ops : Array Oper) : List Nat → List Nat → Bool
  | _, [] => true
  | seen, i :: l => (match ops[i]? with | none => false | some o => o.after.all fun e => !Region.binds .any e || seen.contains e.on) && topOk ops (i :: seen) l
def txtOk (ops : Array Oper) (ef : Nat → Bool) (π : List Nat) : Bool :=
  decide (π.length = ops.size ∧ π.Nodup) && π.all (fun i => decide (i < ops.size)) && (List.range ops.size).all (fun i => π.contains i && opOk ops i) && segOk ops ef [] [] π && topOk ops [] π

/-- Done operations, closed under what they wait for. -/
def Closed (ops : Array Oper) (L : Nat → Prop) : Prop := ∀ i o, ops[i]? = some o → L i → ∀ e ∈ o.after, Region.binds .any e = true → L e.on
def Waits (ops : Array Oper) (L : Nat → Prop) (i : Nat) : Prop := ∀ o, ops[i]? = some o → ∀ e ∈ o.after, Region.binds .any e = true → L e.on
theorem depsOn_spec {i : Nat} {s : List Nat} {L : Nat → Prop} (h : depsOn ops i s = true) (hw : Waits ops L i) : ∃ k ∈ s, L k := by
  unfold depsOn at h
  cases ho : ops[i]? with
  | none => rw [ho] at h; cases h
  | some o =>
    simp only [ho] at h
    obtain ⟨q, hq, h8⟩ := Array.any_eq_true.1 h
    rw [Bool.and_eq_true] at h8
    exact ⟨_, List.contains_iff_mem.1 h8.2, hw o ho _ (Array.getElem_mem hq) h8.1⟩
theorem segOk_spec {L : Nat → Prop} (hc : Closed ops L) : ∀ (l E seg : List Nat), segOk ops ef E seg l = true → (∀ k ∈ seg, L k → ∀ e ∈ E, L e) → (∀ e E', E = e :: E' → L e → ∀ x ∈ E', L x) →
    ∀ pre i post, l = pre ++ i :: post → Waits ops L i → (∀ e ∈ E, L e) ∧ ∀ j ∈ pre, ef j = true → L j
  | [], E, seg, _, _, _, pre, i, post, e, _ => by cases pre <;> cases e
  | x :: l, E, seg, h, h1, h2, pre, i, post, e, hw => by
    unfold segOk at h
    rw [Bool.and_eq_true] at h
    have head : Waits ops L x → ∀ e ∈ E, L e := fun hx => by
      cases E with
      | nil => intro e he; cases he
      | cons e0 E' =>
        obtain ⟨k, hk, hL⟩ := depsOn_spec h.1 hx
        rcases List.mem_cons.1 hk with rfl | hk
        · intro e he
          rcases List.mem_cons.1 he with rfl | he
          · exact hL
          · exact h2 _ _ rfl hL e he
        · exact h1 k hk hL
    have hwx : L x → Waits ops L x := fun hx o ho => hc x o ho hx
    cases pre with
    | nil =>
      simp at e
      obtain ⟨rfl, rfl⟩ := e
      exact ⟨head hw, fun j hj => by cases hj⟩
    | cons y pre =>
      simp at e
      obtain ⟨rfl, rfl⟩ := e
      by_cases hx : ef x = true
      · have h3 := h.2
        rw [if_pos hx] at h3
        obtain ⟨g1, g2⟩ := segOk_spec hc _ _ _ h3 (fun k hk => by cases hk) (fun e E' he hL => by injection he with he1 he2; subst he1 he2; exact head (hwx hL)) pre i post rfl hw
        refine ⟨fun e he => g1 e (List.mem_cons_of_mem _ he), fun j hj hj2 => ?_⟩
        rcases List.mem_cons.1 hj with rfl | hj
        · exact g1 _ (List.mem_cons_self ..)
        · exact g2 j hj hj2
      · have h3 := h.2
        rw [if_neg hx] at h3
        obtain ⟨g1, g2⟩ := segOk_spec hc _ _ _ h3 (fun k hk hL => by
          rcases List.mem_cons.1 hk with rfl | hk
          · exact head (hwx hL)
          · exact h1 k hk hL) h2 pre i post rfl hw
        refine ⟨g1, fun j hj hj2 => ?_⟩
        rcases List.mem_cons.1 hj with rfl | hj
        · exact absurd hj2 hx
        · exact g2 j hj hj2
theorem topOk_spec : ∀ (l seen : List Nat), topOk ops seen l = true → ∀ pre i post, l = pre ++ i :: post → ∀ o, ops[i]? = some o → ∀ e ∈ o.after, Region.binds .any e = true → e.on ∈ pre ∨ e.on ∈ seen
  | [], seen, _, pre, i, post, e, _, _, _, _, _ => by cases pre <;> cases e
  | x :: l, seen, h, pre, i, post, e, o, ho, q, hq, hb => by
    unfold topOk at h
    rw [Bool.and_eq_true] at h
    cases pre with
    | nil =>
      simp at e
      obtain ⟨rfl, rfl⟩ := e
      have h1 := h.1
      simp only [ho] at h1
      have := (Array.all_eq_true_iff_forall_mem.1 h1) q hq
      rw [hb] at this
      exact .inr (List.contains_iff_mem.1 (by simpa using this))
    | cons y pre =>
      simp at e
      obtain ⟨rfl, rfl⟩ := e
      rcases topOk_spec _ (x :: seen) h.2 pre i post rfl o ho q hq hb with g | g
      · exact .inl (List.mem_cons_of_mem _ g)
      · rcases List.mem_cons.1 g with g | g
        · exact .inl (by rw [g]; exact List.mem_cons_self ..)
        · exact .inr g
theorem opOk_spec {i : Nat} {o : Oper} (h : opOk ops i = true) (ho : ops[i]? = some o) :
    (∀ cs b, o.op ≠ .select cs b) ∧ ∀ j d, dstAt ops j = some d → (d ∈ o.looksAt ops → ∃ e ∈ o.after, Region.binds .any e = true ∧ e.on = j) ∧ (j ≠ i → o.dst ≠ some d) := by
  unfold opOk at h
  simp only [ho, Bool.and_eq_true] at h
  obtain ⟨h2, h4⟩ := h
  refine ⟨fun cs b e => ?_, fun j d hj => ?_⟩
  · rw [e] at h2
    cases h2
  · have hjs : j < ops.size := by
      unfold dstAt at hj
      cases hoj : ops[j]? with
      | none => rw [hoj] at hj; cases hj
      | some x => exact (Array.getElem?_eq_some_iff.1 hoj).1
    have h5 := List.all_eq_true.1 h4 j (List.mem_range.2 hjs)
    simp only [hj, Bool.and_eq_true] at h5
    refine ⟨fun hd => ?_, fun hne => ?_⟩
    · have h6 := h5.1
      rw [List.contains_iff_mem.2 hd] at h6
      simp only [Bool.not_true, Bool.false_or] at h6
      obtain ⟨q, hq, h8⟩ := Array.any_eq_true.1 h6
      simp only [Bool.and_eq_true, beq_iff_eq] at h8
      exact ⟨_, Array.getElem_mem hq, h8.1, h8.2⟩
    · have h6 := h5.2
      simp only [Bool.or_eq_true, beq_iff_eq, bne_iff_ne] at h6
      exact h6.resolve_left hne

def remT (π : List Nat) (listed : Array Bool) : List Nat := π.filter fun j => listed.getD j true == false
theorem remT_set {π : List Nat} {listed : Array Bool} {i : Nat} (hi : i < listed.size) : remT π (listed.setIfInBounds i true) = (remT π listed).filter (fun j => decide (j ≠ i)) := by
  unfold remT
  rw [List.filter_filter]
  congr 1
  funext j
  by_cases e : j = i
  · subst e
    simp [hi]
  · rw [getD_set_ne true (fun h => e h.symm)]
    simp [e]
theorem listed_iff {listed : Array Bool} {j : Nat} (hj : j < listed.size) : listed.getD j true = listed.getD j false := by simp [hj]

theorem txt_any {π : List Nat} (hok : txtOk ops ef π = true) : ∀ (fuel : Nat) (listed : Array Bool) (a : Act) (w : World), listed.size = ops.size → (remT π listed).length ≤ fuel → Closed ops (fun j => listed.getD j false = true) → Txt P ops Q I ef (remT π listed) a w → I w → wpAny P .any ops Q fuel listed a w := by
  unfold txtOk at hok
  simp only [Bool.and_eq_true, decide_eq_true_eq] at hok
  obtain ⟨⟨⟨⟨⟨hlen, hnd⟩, hltb⟩, hall⟩, hseg⟩, htop⟩ := hok
  have hmem : ∀ i, i < ops.size → i ∈ π ∧ opOk ops i = true := fun i hi => by
    have := List.all_eq_true.1 hall i (List.mem_range.2 hi)
    rw [Bool.and_eq_true] at this
    exact ⟨List.contains_iff_mem.1 this.1, this.2⟩
  have hlt : ∀ i ∈ π, i < ops.size := fun i hi => by simpa using List.all_eq_true.1 hltb i hi
  have hrem : ∀ (listed : Array Bool) i, listed.size = ops.size → (i ∈ remT π listed ↔ i < ops.size ∧ listed.getD i true = false) := fun listed i hsz => by
    unfold remT
    rw [List.mem_filter]
    constructor
    · rintro ⟨h1, h2⟩
      exact ⟨hlt i h1, by simpa using h2⟩
    · rintro ⟨h1, h2⟩
      exact ⟨(hmem i h1).1, by simpa using h2⟩
  -- the first that is left is ready
  have hfirst : ∀ (listed : Array Bool), listed.size = ops.size → Region.ready .any ops listed = [] → remT π listed = [] := fun listed hsz hr => by
    cases hc : remT π listed with
    | nil => rfl
    | cons i rest =>
      exfalso
      have hi := (hrem listed i hsz).1 (by rw [hc]; exact List.mem_cons_self ..)
      obtain ⟨pre, post, hpp, hpre⟩ : ∃ pre post, π = pre ++ i :: post ∧ ∀ j ∈ pre, listed.getD j true = true := by
        have := List.filter_eq_cons_iff.1 hc
        obtain ⟨l1, l2, e, h1, h2, _⟩ := this
        exact ⟨l1, l2, e, fun j hj => by simpa using h1 j hj⟩
      have ho : ops[i]? = some ops[i] := Array.getElem?_eq_getElem hi.1
      have hready : i ∈ Region.ready .any ops listed := by
        refine mem_ready.2 ⟨hi.2, _, ho, fun e he hb => ?_⟩
        rcases topOk_spec π [] htop pre i post hpp _ ho e he hb with g | g
        · have h1 := hpre _ g
          have h2 : e.on < listed.size := by rw [hsz]; exact hlt _ (by rw [hpp]; exact List.mem_append_left _ g)
          rw [← listed_iff h2]
          exact h1
        · cases g
      rw [hr] at hready
      cases hready
  intro fuel
  induction fuel with
  | zero =>
    intro listed a w hsz hl hcl hT hI
    have hn : remT π listed = [] := List.eq_nil_of_length_eq_zero (Nat.le_zero.1 hl)
    have hr : Region.ready .any ops listed = [] := by
      cases hc : Region.ready .any ops listed with
      | nil => rfl
      | cons i rest =>
        exfalso
        have hi : i ∈ Region.ready .any ops listed := by rw [hc]; exact List.mem_cons_self ..
        obtain ⟨h0, o, ho, _⟩ := mem_ready.1 hi
        have := (hrem listed i hsz).2 ⟨(Array.getElem?_eq_some_iff.1 ho).1, h0⟩
        rw [hn] at this
        cases this
    rw [hn] at hT
    exact ⟨hr, hT⟩
  | succ fuel ih =>
    intro listed a w hsz hl hcl hT hI
    refine ⟨fun hr => by rw [hfirst listed hsz hr] at hT; exact hT, fun i hi => ?_⟩
    obtain ⟨h0, o, ho, hw⟩ := mem_ready.1 hi
    have hin : i < ops.size := (Array.getElem?_eq_some_iff.1 ho).1
    have hir := (hrem listed i hsz).2 ⟨hin, h0⟩
    obtain ⟨hs1, hs2⟩ := opOk_spec (hmem i hin).2 ho
    -- around i
    obtain ⟨p1, p2, hpp⟩ := List.append_of_mem (hmem i hin).1
    have hrs : remT π listed = remT p1 listed ++ i :: remT p2 listed := by
      unfold remT
      rw [hpp, List.filter_append, List.filter_cons_of_pos (by rw [h0]; rfl)]
    have hni : i ∉ p1 ∧ i ∉ p2 := by
      have := hnd
      rw [hpp] at this
      have h1 := List.nodup_append.1 this
      have h2 := List.nodup_cons.1 h1.2.1
      exact ⟨fun h => h1.2.2 i h i (List.mem_cons_self ..) rfl, h2.1⟩
    have hwait : Waits ops (fun j => listed.getD j false = true) i := fun o' ho' e he hb => by
      rw [ho] at ho'
      injection ho' with ho'
      subst ho'
      exact hw e he hb
    obtain ⟨_, hact⟩ := segOk_spec hcl π [] [] hseg (fun k hk => by cases hk) (fun e E' h => by cases h) p1 i p2 hpp hwait
    have hahead : ∀ j ∈ remT p1 listed, Ahead ops ef i o j := fun j hj => by
      have hj1 : j ∈ p1 := (List.mem_filter.1 hj).1
      have hj2 : listed.getD j true = false := by simpa using (List.mem_filter.1 hj).2
      have hjs : j < ops.size := hlt j (by rw [hpp]; exact List.mem_append_left _ hj1)
      have hjn : j ≠ i := fun e => hni.1 (e ▸ hj1)
      have hjl : ¬ listed.getD j false = true := by rw [← listed_iff (by omega), hj2]; simp
      refine ⟨?_, fun t ht => ⟨fun hl => ?_, (hs2 j t ht).2 hjn⟩, fun oj hoj => ?_⟩
      · cases hef : ef j with
        | false => rfl
        | true => exact absurd (hact j hj1 hef) hjl
      · obtain ⟨e, he, hb, hon⟩ := (hs2 j t ht).1 hl
        have := hw e he hb
        rw [hon] at this
        exact hjl this
      · obtain ⟨g1, g2⟩ := opOk_spec (hmem j hjs).2 hoj
        refine ⟨g1, fun t ht hl => ?_⟩
        obtain ⟨e, he, hb, hon⟩ := (g2 i t (by unfold dstAt; rw [ho]; exact ht)).1 hl
        obtain ⟨q1, q2, hq⟩ := List.append_of_mem hj1
        rcases topOk_spec π [] htop q1 j (q2 ++ i :: p2) (by rw [hpp, hq]; simp) oj hoj e he hb with g | g
        · rw [hon] at g
          exact hni.1 (by rw [hq]; exact List.mem_append_left _ g)
        · cases g
    rw [hrs] at hT
    obtain ⟨hR, hE⟩ := Txt.pull ho hs1 _ a hahead hT
    have hcl' : Closed ops (fun j => (listed.setIfInBounds i true).getD j false = true) := fun k ok hok hk e he hb => by
      have hup : ∀ j, listed.getD j false = true → (listed.setIfInBounds i true).getD j false = true := fun j hj => by
        by_cases ej : j = i
        · subst ej
          have : j < listed.size := by omega
          simp [this]
        · rw [getD_set_ne false (fun h => ej h.symm)]
          exact hj
      by_cases ek : k = i
      · subst ek
        exact hup _ (hwait ok hok e he hb)
      · have hk' : listed.getD k false = true := by
          have h5 : (listed.setIfInBounds i true).getD k false = true := hk
          rw [getD_set_ne false (fun h => ek h.symm)] at h5
          exact h5
        exact hup _ (hcl k ok hok hk' e he hb)
    have hnext : ∀ a' w', I w' → Txt P ops Q I ef (remT p1 listed ++ remT p2 listed) a' w' → wpAny P .any ops Q fuel (listed.setIfInBounds i true) a' w' := fun a' w' hI' hT' => by
      have e1 : remT π (listed.setIfInBounds i true) = remT p1 listed ++ remT p2 listed := by
        rw [remT_set (by omega), hrs, List.filter_append, List.filter_cons_of_neg (by simp)]
        congr 1
        · exact List.filter_eq_self.2 (fun j hj => by simp; exact fun e => hni.1 (e ▸ (List.mem_filter.1 hj).1))
        · exact List.filter_eq_self.2 (fun j hj => by simp; exact fun e => hni.2 (e ▸ (List.mem_filter.1 hj).1))
      refine ih _ a' w' (by simpa using hsz) ?_ hcl' (by rw [e1]; exact hT') hI'
      rw [e1]
      rw [hrs] at hl
      simp at hl ⊢
      omega
    unfold wpOp
    simp only [ho]
    cases hef : ef i with
    | false =>
      obtain ⟨v, hv, hT2⟩ := hR hef
      rcases hv with ⟨h1, h2⟩ | ⟨h1, rfl⟩
      · rw [if_pos h1]
        refine .inl ?_
        unfold Oper.wp
        rw [h2 w hI]
        exact hnext _ _ hI hT2
      · rw [if_neg (by rw [h1]; simp)]
        exact hnext _ _ hI hT2
    | true =>
      obtain ⟨g1, g2⟩ := hE hef
      cases hwt : Region.wanted o (yielded ops a.tmps) with
      | true =>
        rw [if_pos rfl]
        refine .inl ?_
        have h3 := g1 hwt
        unfold Oper.wp at h3 ⊢
        generalize (execOp a.eval o).run P w = r at *
        cases r with
        | ok n w' =>
          cases n <;> simp only [Oper.upon] at h3 ⊢
          case value x => exact hnext _ _ h3.1 h3.2
          case skip => exact hnext _ _ h3.1 h3.2
          case defer x => exact hnext _ _ h3.1 h3.2
          case enter f args =>
            refine Calls.mono h3 fun e w'' he => ?_
            cases e with
            | returned x => exact hnext _ _ he.1 he.2
            | panicked c => exact he.elim
            | outgrown =>
              obtain ⟨_, _, hf⟩ := he
              exact hf.elim
          case row row args => exact Rows.mono h3 fun x w'' he => hnext _ _ he.1 he.2
        | halt x w' => cases x <;> first | exact h3 | exact h3.elim
      | false =>
        rw [if_neg (by simp)]
        exact hnext _ _ hI (g2 hwt)

/-- The law. acts: the numbers of the operations that act; π: the order. -/
theorem wp_region_txt {id : Nat} {l : List Oper} {a : Act} {w : World} (I : World → Prop) (acts π : List Nat) (hm : P.follows .mixedOrders = true) (hok : txtOk l.toArray (fun i => acts.contains i) π = true) (hI : I w.drew)
    (h : Txt P l.toArray Q I (fun i => acts.contains i) π a w.drew) : (Code.region id l.toArray true).wp P Q a w := by
  refine wp_region_any hm ?_
  have hall : remT π (Array.replicate l.toArray.size false) = π := by
    have hok' := hok
    unfold txtOk at hok'
    simp only [Bool.and_eq_true, decide_eq_true_eq] at hok'
    obtain ⟨⟨⟨⟨_, hltb⟩, _⟩, _⟩, _⟩ := hok'
    refine List.filter_eq_self.2 (fun j hj => ?_)
    have : j < l.toArray.size := by simpa using List.all_eq_true.1 hltb j hj
    simp at this
    simp [this]
  refine txt_any hok _ _ a _ (by simp) ?_ (fun i o ho hi => ?_) (by rw [hall]; exact h) hI
  · rw [hall]
    unfold txtOk at hok
    simp only [Bool.and_eq_true, decide_eq_true_eq] at hok
    exact Nat.le_of_eq hok.1.1.1.1.1
  · exfalso
    have hlt := (Array.getElem?_eq_some_iff.1 ho).1
    simp at hlt
    simp [hlt] at hi

/-- One step: it only reads. -/
theorem Txt.reads {i : Nat} {o : Oper} {ol : List Oper} {l : List Nat} {a : Act} {w : World} {v : Value} (ho : ol[i]? = some o) (he : ef i = false) (hw : Region.wanted o (yielded ol.toArray a.tmps) = true)
    (hd : ∀ w, I w → (execOp a.eval o).run P w = .ok (.value v) w) (h : Txt P ol.toArray Q I ef l (a.put o.dst v) w) : Txt P ol.toArray Q I ef (i :: l) a w :=
  ⟨o, by simpa using ho, fun _ => ⟨v, .inl ⟨hw, hd⟩, h⟩, fun e => (by rw [he] at e; cases e)⟩
/-- .. its guard skips it. -/
theorem Txt.skips {i : Nat} {o : Oper} {ol : List Oper} {l : List Nat} {a : Act} {w : World} (ho : ol[i]? = some o) (hw : Region.wanted o (yielded ol.toArray a.tmps) = false) (h : Txt P ol.toArray Q I ef l (a.put o.dst undef) w) : Txt P ol.toArray Q I ef (i :: l) a w :=
  ⟨o, by simpa using ho, fun _ => ⟨undef, .inr ⟨hw, rfl⟩, h⟩, fun _ => ⟨fun e => (by rw [hw] at e; cases e), fun _ => h⟩⟩
/-- .. it acts. -/
theorem Txt.acts {i : Nat} {o : Oper} {ol : List Oper} {l : List Nat} {a : Act} {w : World} (ho : ol[i]? = some o) (he : ef i = true) (hw : Region.wanted o (yielded ol.toArray a.tmps) = true)
    (h : ∀ K : Act → World → Prop, Shut (∀ a' w', I w' → Txt P ol.toArray Q I ef l a' w' → K a' w') → Oper.wp P o a w K noPanic) : Txt P ol.toArray Q I ef (i :: l) a w :=
  ⟨o, by simpa using ho, fun e => (by rw [he] at e; cases e), fun _ => ⟨fun _ => h _ (fun a' w' h1 h2 => ⟨h1, h2⟩), fun e => (by rw [hw] at e; cases e)⟩⟩
theorem Txt.done {a : Act} {w : World} (h : Q .normal a w) : Txt P ops Q I ef [] a w := h

end
end Go.Proofs.YthenefjoidckkaaGreatDoor
