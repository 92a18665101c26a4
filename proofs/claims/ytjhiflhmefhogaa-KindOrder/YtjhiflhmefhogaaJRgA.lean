/- A loop over an iterator that writes cells of its own between the rounds: G says what it does there. -/
import Derived.Test.YtjhiflhmefhogaaJA
import Derived.RangeFuncNested
import Derived.RangeFuncBound
import Derived.RangeFuncCalls
import Derived.RangeFuncLeaves
import Derived.RangeFuncBox

namespace Go.Proofs.Ytjhiflhmefhogaa
open Go.RowKit
set_option linter.unusedVariables false

section
variable {F : Fence} {n : Nat} {P : Program} {α : Type}

/-- An iterator whose caller's facts stay through G. -/
def Iter (F : Fence) (n : Nat) (P : Program) (g : Nat) (lb : Array Value) (encs : α → Array Value) (G Kp : World → World → Prop) (S Sp : List α → Prop) (N : Nat) (w : World) : Prop :=
  ∀ (l : Nat) (J Jx : List α → World → Prop) (W : World), Below w.heap.size w W → (∀ s A B, J s A → G A B → J s B) → (∀ s A B, Jx s A → G A B → Jx s B) →
    (∀ pre x W1, J pre W1 → pre.length < N → YieldAt F (n - 1) P l (encs x) W1 fun e W' => (e = .returned (.bool true) ∧ J (pre ++ [x]) W' ∧ Kp W1 W') ∨ (e = .returned (.bool false) ∧ Jx (pre ++ [x]) W')) →
    J [] W → CallsIn F n P g (#[.func (.yield l) #[] #[]] ++ lb) W fun e W' => (∃ v, e = .returned v) ∧ ((∃ xs, S xs ∧ J xs W') ∨ (∃ pre, Sp pre ∧ Jx pre W'))

/-- The caller's facts: they stay through G, through new blocks, and through writes to what is no cells. -/
structure Stays (B : Nat) (G : World → World → Prop) (I : List α → World → Prop) : Prop where
  through : ∀ s A C, I s A → G A C → I s C
  put : ∀ s (A : World) (l : Nat) (o o' : Obj), I s A → B ≤ l → A.heap[l]? = some o → o.isCells = false → I s (A.putObj l o')
  more : ∀ s A o, I s A → I s (A.alloc o)

/-- The loop's own record, and the block of what its rounds put off. -/
def Rec (W : World) (l D : Nat) (r : Loop) : Prop := W.heap[l]? = some (.loop r) ∧ W.heap[D]? = some (.deferred (some []))

theorem range_over {g : Operand} {ps : Array Tmp} {assign body : Code} {Q : Exit → Act → World → Prop} {a : Act} {w : World} (hro : F.round = none) (h1 : 1 ≤ n)
    {gf : Nat} {lb : Array Value} (hg : a.eval g = .func (.func gf) #[] lb) (hFg : F.fn gf) (eg : ∀ args w, (callFunc gf args).run P w = .ok (.enter gf args) w)
    {encs : α → Array Value} (hps : ∀ x, (encs x).size = ps.size) {G Kp : World → World → Prop} {S Sp : List α → Prop} {N : Nat}
    (hG : ∀ (A C : World) (k : Nat) (o : Obj), G A C → A.heap[k]? = some o → o.isCells = false → C.heap[k]? = some o)
    (hKt : ∀ {A B C : World}, Kp A B → Kp B C → Kp A C) (hKb : ∀ (W : World) (l : Nat) (o o' : Obj), w.heap.size ≤ l → W.heap[l]? = some o → o.isCells = false → Kp W (W.putObj l o'))
    (hseq : Iter F (n - 1) P gf lb encs G Kp S Sp N w) (I : List α → World → Prop) (Ix : Code → List α → World → Prop) (hI : Stays w.heap.size G I) (hX : ∀ c, Stays w.heap.size G (Ix c)) (h0 : I [] w)
    (a1 : α → Act)
    (hassign : ∀ (l : Nat) (x : α) (W : World) (K : Act → World → Prop), K (a1 x) W → assign.wpIn (F.inRound l) (n - 1 - 1) P (Exit.then K (fun _ _ _ => False)) { tmps := (ps.zip (encs x)).foldl (fun t (p, v) => t.setIfInBounds p v) a.tmps, defers := [] } W)
    (hbody : ∀ (l : Nat) (pre : List α) (x : α) (W : World), I pre W → pre.length < N → body.wpIn (F.inRound l) (n - 1 - 1) P (ownPostG w.heap.size Kp I Ix (pre ++ [x]) W) (a1 x) W)
    (hdone : ∀ (D : Nat) (xs : List α) (W : World), w.heap.size ≤ D → S xs → I xs W → W.heap[D]? = some (.deferred (some [])) → Q .normal { a with defers := { target := .collected D, args := #[] } :: a.defers } W)
    (hstop : ∀ (D : Nat) (c : Code) (pre : List α) (W : World), w.heap.size ≤ D → Sp pre → Ix c pre W → W.heap[D]? = some (.deferred (some [])) → c.wpIn F n P Q { a with defers := { target := .collected D, args := #[] } :: a.defers } W) :
    (Code.rangeFunc g ps assign body).wpIn F n P Q a w := by
  refine wpIn_rangeFunc fun fn hfn => ?_
  obtain ⟨D, hD⟩ : ∃ D, D = w.heap.size := ⟨_, rfl⟩
  obtain ⟨l, hl⟩ : ∃ l, l = w.heap.size + 1 := ⟨_, rfl⟩
  let rd (st : LoopState) (pe : Option Code) : Loop := { state := st, pending := pe, fn, tmps := a.tmps, params := ps, assign, body, defers := D }
  obtain ⟨W1, hW1⟩ : ∃ W1, W1 = (w.alloc (.deferred (some []))).alloc (.loop (rd .ready none)) := ⟨_, rfl⟩
  have r1 : Rec W1 l D (rd .ready none) := by
    rw [hW1]
    refine ⟨?_, ?_⟩
    · have t := heap_alloc_last (w.alloc (.deferred (some []))) (.loop (rd .ready none))
      rw [show (w.alloc (.deferred (some []))).heap.size = l by rw [hl]; simp] at t
      exact t
    · rw [hD]
      exact (heap_alloc_old _ _ (by simp)).trans (heap_alloc_last w _)
  have i1 : I [] W1 := by rw [hW1]; exact hI.more _ _ _ (hI.more _ _ _ h0)
  have b1 : Below w.heap.size w W1 := by rw [hW1]; exact ((Below.refl _ _).alloc (Nat.le_refl _) _).alloc (by simp) _
  have recG : ∀ {A C : World} {r : Loop}, Rec A l D r → G A C → Rec C l D r := fun h g => ⟨hG _ _ _ _ g h.1 rfl, hG _ _ _ _ g h.2 rfl⟩
  have hlD : ¬ D = l := by omega
  have recP : ∀ {A : World} {r r' : Loop}, Rec A l D r → Rec (A.putObj l (.loop r')) l D r' := fun h => ⟨World.putObj_heap_same (Array.getElem?_eq_some_iff.1 h.1).1, (World.putObj_heap_other hlD).trans h.2⟩
  refine ⟨l, [{ target := .collected D, args := #[] }], W1, { target := .fn (.func gf) lb, args := #[.func (.yield l) #[] #[]] }, W1, gf, #[.func (.yield l) #[] #[]] ++ lb, W1, ?_, ?_, ?_, ?_, fun _ => h1, ?_⟩
  · rw [hro, hW1]
    have t := run_enterLoop_outer (P := P) (w := w) fn a.tmps ps assign body
    rw [← hl, ← hD] at t
    exact t
  · simp only [resolve, hg]
    simp [go_sem]
  · intro f' hf'
    simp [Target.leads] at hf'
    rw [← hf']
    exact hFg
  · simp [invoke, go_sem, eg]
  refine (hseq l (fun pre W => I pre W ∧ Rec W l D (rd .ready none)) (fun pre W => ∃ c, Ix c pre W ∧ Rec W l D (rd .done (some c))) W1 b1 (fun s A C h g => ⟨hI.through s A C h.1 g, recG h.2 g⟩) (fun s A C h g => h.elim fun c hc => ⟨c, (hX c).through s A C hc.1 g, recG hc.2 g⟩) ?_ ⟨i1, r1⟩).mono ?_
  · rintro pre x W ⟨hi, hr⟩ hlen
    refine ⟨fn, _, assign, body, run_yield hr.1 (hps x), roundIn_of_wpIn hfn (hassign l x W _ ⟨_, run_beginRound hr.1 rfl, ?_⟩)⟩
    have hr2 : Rec (W.putObj l (.loop { rd .ready none with state := .busy })) l D (rd .busy none) := recP hr
    have hk2 : Kp W (W.putObj l (.loop { rd .ready none with state := .busy })) := hKb _ _ _ _ (by omega) hr.1 rfl
    refine wpIn_mono (hbody l pre x _ (hI.put _ _ _ _ _ hi (by omega) hr.1 rfl) hlen) ?_
    generalize W.putObj l (.loop { rd .ready none with state := .busy }) = W2 at *
    intro e a3 W3 hp
    have out : ∀ (j : Option Code), KeepsFrom w.heap.size W2 W3 → Rec W3 l D (rd .busy none) ∧ (Instr.endRound l j).run P W3 = .ok (.bool j.isNone) (W3.putObj l (.loop (rd (if j.isNone then .ready else .done) j))) := fun j hk => by
      have hr3 : Rec W3 l D (rd .busy none) := ⟨hk.same _ _ (by omega) hr2.1 rfl, hk.same _ _ (by omega) hr2.2 rfl⟩
      exact ⟨hr3, run_endRound j hr3.1⟩
    cases e with
    | normal =>
      obtain ⟨hr3, he⟩ := out none hp.1
      exact ⟨_, _, he, .inl ⟨rfl, ⟨hI.put _ _ _ _ _ hp.2.2 (by omega) hr3.1 rfl, recP hr3⟩, hKt hk2 (hKt hp.2.1 (hKb _ _ _ _ (by omega) hr3.1 rfl))⟩⟩
    | ret =>
      obtain ⟨hr3, he⟩ := out (some .ret) hp.1
      exact ⟨_, _, he, .inr ⟨rfl, .ret, (hX _).put _ _ _ _ _ hp.2 (by omega) hr3.1 rfl, recP hr3⟩⟩
    | exit id =>
      obtain ⟨hr3, he⟩ := out (some (.exit id)) hp.1
      exact ⟨_, _, he, .inr ⟨rfl, .exit id, (hX _).put _ _ _ _ _ hp.2 (by omega) hr3.1 rfl, recP hr3⟩⟩
    | goto t =>
      obtain ⟨hr3, he⟩ := out (some (.goto t)) hp.1
      exact ⟨_, _, he, .inr ⟨rfl, .goto t, (hX _).put _ _ _ _ _ hp.2 (by omega) hr3.1 rfl, recP hr3⟩⟩
    | panic ch => exact hp.elim
    | outgrown => exact hp.elim
  · rintro e W2 ⟨⟨v, rfl⟩, (⟨xs, hS, hi, hr⟩ | ⟨pre, hSp, c, hi, hr⟩)⟩
    · exact ⟨none, _, run_endLoop hr.1 (by simp [rd]), hdone D xs _ (by omega) hS (hI.put _ _ _ _ _ hi (by omega) hr.1 rfl) ((World.putObj_heap_other hlD).trans hr.2)⟩
    · exact ⟨some c, _, run_endLoop hr.1 (by simp [rd]), hstop D c pre _ (by omega) hSp ((hX c).put _ _ _ _ _ hi (by omega) hr.1 rfl) ((World.putObj_heap_other hlD).trans hr.2)⟩
end
end Go.Proofs.Ytjhiflhmefhogaa
