/- Joined: KsA KsB KsC RgA KsD KsE. -/
import Derived.Test.YthenefjoidckkaaGreatDoorJK4
import Derived.Test.YthenefjoidckkaaGreatDoorJTxA
import Derived.Test.YthenefjoidckkaaGreatDoorJA
import Derived.RangeFuncNested
import Derived.RangeFuncBound
import Derived.RangeFuncCalls
import Derived.RangeFuncLeaves
import Derived.RangeFuncBox
import Derived.Shelf.Abstract
import Derived.Shelf.RegionOpen
import Derived.WalkKit
import Derived.OwnWalkIn
import Derived.TacticsInMore
import Derived.LoopNIn
import Derived.LoopIn
import Derived.Maps.AppendAt

/- Classes by their names: a list of them in memory, the first one of a name. -/
namespace Go.Proofs.YthenefjoidckkaaGreatDoor
open Go.RowKit
set_option linter.unusedVariables false
set_option maxRecDepth 100000

/-- A class: its name, and its Super. -/
structure Nc where
  name : List UInt8
  sup : List UInt8
deriving DecidableEq
def ncc (c : Nc) : List Value := [.slice none 0 0, .string ⟨c.name.toArray⟩, .string ⟨c.sup.toArray⟩, .slice none 0 0, .slice none 0 0]
def nc2 (c : Nc) : List Value := [.string ⟨c.name.toArray⟩, .string ⟨c.sup.toArray⟩]
theorem rkN : Rk ncc 38 42 5 104 (.agg #[.slice none 0 0, .string ⟨#[]⟩, .string ⟨#[]⟩, .slice none 0 0, .slice none 0 0]) := ⟨fun _ => rfl, fun x u hu => by simp [ncc] at hu; rcases hu with rfl | rfl | rfl | rfl <;> rfl, by decide, by kernel_rfl, rfl, Tryz.underlying42⟩
/-- The place of the first class of a name. -/
def fstN (l : List Nc) (nm : List UInt8) : Option Nat := l.findIdx? (fun c => decide (c.name = nm))
theorem fstN_some {l : List Nc} {nm : List UInt8} {k : Nat} (h : fstN l nm = some k) : ∃ c, l[k]? = some c ∧ c.name = nm ∧ k < l.length := by
  unfold fstN at h
  rw [List.findIdx?_eq_some_iff_getElem] at h
  obtain ⟨hk, h1, _⟩ := h
  exact ⟨l[k], List.getElem?_eq_getElem hk, by simpa using h1, hk⟩
theorem fstN_at {l : List Nc} {nm : List UInt8} {k : Nat} (c : Nc) (h1 : l[k]? = some c) (h2 : c.name = nm) (h3 : ∀ (j : Nat) c, j < k → l[j]? = some c → c.name ≠ nm) : fstN l nm = some k := by
  unfold fstN
  rw [List.findIdx?_eq_some_iff_getElem]
  obtain ⟨hk, e⟩ := List.getElem?_eq_some_iff.1 h1
  refine ⟨hk, by rw [e]; simpa using h2, fun j hj => ?_⟩
  have := h3 j _ hj (List.getElem?_eq_getElem (by omega))
  simpa using this
theorem fstN_none {l : List Nc} {nm : List UInt8} (h : ∀ (j : Nat) c, l[j]? = some c → c.name ≠ nm) : fstN l nm = none := by
  unfold fstN
  rw [List.findIdx?_eq_none_iff]
  intro c hc
  obtain ⟨j, hj⟩ := List.getElem?_of_mem hc
  simpa using h j c hj
def fstI (l : List Nc) (nm : List UInt8) : Int := match fstN l nm with | some k => k | none => -1
theorem str_ne {A B : ByteArray} {a b : List UInt8} (hA : Str A a) (hB : Str B b) (h : a ≠ b) : ¬ A.toList = B.toList ∧ (A.toList == B.toList) = false ∧ ¬ A = B := by
  refine ⟨by rw [hA.list, hB.list]; exact h, by rw [hA.list, hB.list]; simpa using h, fun e => h ?_⟩
  rw [← hA.list, ← hB.list, e]
set_option maxHeartbeats 800000 in
theorem yfirstOf_any (w : World) (a : Option Addr) (n c : Nat) (l : List Nc) (h : Ls 5 ncc w a n l) (hn : n ≤ 100000) (N : ByteArray) (nm : List UInt8) (hN : Str N nm) :
    Calls Tryz.prog 133 #[.slice a n c, .string N] w fun e w' => e = .returned (.int .i64 (fstI l nm)) ∧ Below w.heap.size w w' := by
  have hln := h.1
  have HL := hide h
  have HN := hide hN
  clear h hN
  go_enter Tryz.func133, Tryz.ntmps133
  go_wp2
  go_loopw [8] (fun i wr => ∃ k : Nat, k ≤ n ∧ i = .int .i64 k ∧ wr = w ∧ Hid (∀ (j : Nat) c, j < k → l[j]? = some c → c.name ≠ nm)) (fun i _ => n - (intOf i).toNat)
  case atStart => exact ⟨0, by omega, rfl, rfl, fun j c h => by omega⟩
  case round =>
    obtain ⟨k, hk, rfl, rfl, HR⟩ := hrel
    by_cases hlt : k < n
    · have hlt1 : (k : Int) < (n : Int) := by omega
      obtain ⟨b1, o1, h1a, h1⟩ := Ls.row (unhide HL) (w' := wr) (by omega)
      subst h1a
      obtain ⟨r, hr⟩ : ∃ r, l[k]? = some r := ⟨_, List.getElem?_eq_getElem (by omega)⟩
      have q1 := (h1 (Below.refl _ _) k r hr) 1 _ rfl
      have HHR := hide hr
      clear h1 hr
      by_cases he : r.name = nm
      · have HF : Hid (fstI l nm = k) := by
          show fstI l nm = k
          unfold fstI
          rw [fstN_at r (unhide HHR) he (unhide HR)]
        have e1 : (⟨r.name.toArray⟩ : ByteArray) = N := by rw [he, (unhide HN).eq]
        rw [e1] at q1
        clear he e1 HR HHR
        go_wp2
        go_ret
        exact ⟨ret_int (unhide HF).symm, Below.refl _ _⟩
      · obtain ⟨s1, s2, s3⟩ := str_ne (A := ⟨r.name.toArray⟩) (B := N) ⟨rfl⟩ (unhide HN) he
        have HR' : Hid (∀ (j : Nat) c, j < k + 1 → l[j]? = some c → c.name ≠ nm) := fun j c hj hc => by
          by_cases hjk : j = k
          · subst hjk
            rw [unhide HHR] at hc
            injection hc with hc
            rw [← hc]
            exact he
          · exact unhide HR j c (by omega) hc
        generalize (⟨r.name.toArray⟩ : ByteArray) = X at *
        clear he HR HHR
        go_wp2
        go_roundw
        case rel => exact ⟨k + 1, by omega, by go_num, (by first | rfl | trivial), HR'⟩
        case measure => simp [intOf]; omega
    · obtain rfl : k = n := by omega
      have HF : Hid (fstI l nm = -1) := by
        show fstI l nm = -1
        unfold fstI
        rw [fstN_none (fun j c hc => unhide HR j c (by have := (List.getElem?_eq_some_iff.1 hc).1; omega) hc)]
      clear HR
      go_wp2
      go_ret
      exact ⟨ret_int (unhide HF).symm, Below.refl _ _⟩
end Go.Proofs.YthenefjoidckkaaGreatDoor

/- The landed kind: finder and what it answers; upwards; the classes of a law. -/
namespace Go.Proofs.YthenefjoidckkaaGreatDoor
open Go.RowKit
set_option linter.unusedVariables false
set_option maxRecDepth 100000

set_option maxHeartbeats 800000 in
theorem yfinder_any (w : World) (a : Option Addr) (n c : Nat) (hn : n ≤ 64) :
    Calls Tryz.prog 116 #[.slice a n c] w fun e w' => e = .returned (.func (.func 132) #[] #[.pointer (some ⟨w.heap.size, 0, none⟩)]) ∧ w' = w.alloc (.cells #[.slice a n c] 42) := by
  have h1 : (n : Int) ≤ 64 := by omega
  go_enter Tryz.func116, Tryz.ntmps116
  go_wp2
  go_ret
  exact ⟨rfl, rfl⟩
set_option maxHeartbeats 800000 in
theorem yfinder1_any (w : World) (B : Nat) (a : Option Addr) (n c : Nat) (hB : w.cell? ⟨B, 0, none⟩ = some (.slice a n c)) (l : List Nc) (h : Ls 5 ncc w a n l) (hn : n ≤ 100000) (N : ByteArray) (nm : List UInt8) (hN : Str N nm) :
    Calls Tryz.prog 132 #[.string N, .pointer (some ⟨B, 0, none⟩)] w fun e w' => e = .returned (.int .i64 (fstI l nm)) ∧ Below w.heap.size w w' := by
  have HF := hide (yfirstOf_any w a n c l h hn N nm hN)
  clear h hN
  go_enter Tryz.func132, Tryz.ntmps132
  go_wp2_with fail
  refine (unhide HF).mono ?_
  rintro e w1 ⟨rfl, f1⟩
  have F1 := hide f1
  clear f1
  go_wp2
  go_ret
  exact ⟨rfl, unhide F1⟩
set_option maxHeartbeats 800000 in
theorem yupwards_any (w : World) (a : Option Addr) (n c : Nat) (N : ByteArray) :
    Calls Tryz.prog 65 #[.slice a n c, .string N] w fun e w' => e = .returned (.func (.func 115) #[] #[.pointer (some ⟨w.heap.size, 0, none⟩), .pointer (some ⟨w.heap.size + 1, 0, none⟩)]) ∧ w' = (w.alloc (.cells #[.slice a n c] 42)).alloc (.cells #[.string N] 9) := by
  go_enter Tryz.func65, Tryz.ntmps65
  go_wp2
  go_ret
  exact ⟨rfl, rfl⟩
theorem stepN_append {w : World} {ops : Array Oper} {o : Oper} {a : Act} {K : Act → World → Prop} {Q : Exit → Act → World → Prop} {E : Prop} (hgd : o.guard = none) (s x : Operand) (ho : o.op = .call { callee := .builtin .append, args := #[s, x], argTypes := #[42, 42] })
    (base : Nat) (v : Value) (xs : List Nc) (hs : a.eval s = v) (hown : Orw ncc 38 5 w base v xs) (src : Option Addr) (m c : Nat) (ys : List Nc) (hx : a.eval x = .slice src m c) (hb : Ls 5 ncc w src m ys) (hnil : src = none → m = 0 ∧ c = 0)
    (hsm : (xs.length + m) * 104 ≤ 140737488355328) (hmx : xs.length + m ≤ 140737488355328) (hbase : base ≤ w.heap.size) (h : ∀ v' w', Orw ncc 38 5 w' base v' (xs ++ ys) → w.grownBy w' v.ownBlock → K (a.put o.dst v') w') :
    if Region.wanted o (yielded ops a.tmps) = true then Oper.wp Tryz.prog o a w K Q else E := by
  rw [if_pos (by simp [Region.wanted, hgd])]
  exact wpR_append rkN s x ho base v xs hs hown src m c ys hx hb hnil hsm hmx hbase h
theorem orw_drew {α : Type} {cs : α → List Value} {e : TypeId} {sz : Nat} {w : World} {base : Nat} {v : Value} {l : List α} (h : Orw cs e sz w base v l) : Orw cs e sz w.drew base v l := h.below fun _ _ => rfl
theorem orw_alloc {α : Type} {cs : α → List Value} {e : TypeId} {sz : Nat} {w : World} {base : Nat} {v : Value} {l : List α} (h : Orw cs e sz w base v l) (o : Obj) : Orw cs e sz (w.alloc o) base v l := h.below fun k hk => ((Below.refl _ _).alloc (Nat.le_refl _) _).block k (h.lt k hk).2
theorem ls_drew {α : Type} {cs : α → List Value} {sz : Nat} {w : World} {a : Option Addr} {n : Nat} {l : List α} (h : Ls sz cs w a n l) : Ls sz cs w.drew a n l := h.below (Below.refl _ _).drew
end Go.Proofs.YthenefjoidckkaaGreatDoor

/- Going up through classes, as plain values. -/
namespace Go.Proofs.YthenefjoidckkaaGreatDoor
open Go.RowKit
set_option linter.unusedVariables false

def supAt (l : List Nc) (p : Nat) : List UInt8 := (l[p]?.map Nc.sup).getD []
/-- The names above, from a place on, with the places that were met. -/
def upF (l : List Nc) : Nat → List Nat → Option Nat → List (List UInt8)
  | 0, _, _ => []
  | _ + 1, _, none => []
  | f + 1, met, some p => if supAt l p = [] then [] else match fstN l (supAt l p) with
    | none => [supAt l p]
    | some q => if q ∈ p :: met then [] else supAt l p :: upF l f (p :: met) (some q)
def upL (l : List Nc) (nm : List UInt8) : List (List UInt8) := upF l (l.length + 1) [] (fstN l nm)
theorem nodup_le : ∀ (met : List Nat) (n : Nat), met.Nodup → (∀ p ∈ met, p < n) → met.length ≤ n := fun met n hd hl => by
  have h := List.Nodup.length_le_of_subset hd (l₂ := List.range n) (fun p hp => List.mem_range.2 (hl p hp))
  simpa using h
/-- Between two rounds: what was met, where it stands, what came. -/
structure UR (l : List Nc) (nm : List UInt8) (met : List Nat) (at_ : Option Nat) (pre : List (List UInt8)) : Prop where
  eq : upL l nm = pre ++ upF l (l.length + 1 - met.length) met at_
  nd : met.Nodup
  lt : ∀ p ∈ met, p < l.length
  here : ∀ p, at_ = some p → p < l.length ∧ p ∉ met
  len : pre.length = met.length
theorem UR.start (l : List Nc) (nm : List UInt8) : UR l nm [] (fstN l nm) [] := by
  refine ⟨rfl, List.nodup_nil, fun p h => by simp at h, fun p h => ?_, rfl⟩
  obtain ⟨_, _, _, hk⟩ := fstN_some h
  exact ⟨hk, by simp⟩
theorem UR.few {l : List Nc} {nm : List UInt8} {met : List Nat} {at_ : Option Nat} {pre : List (List UInt8)} (h : UR l nm met at_ pre) : pre.length ≤ l.length := by
  rw [h.len]; exact nodup_le met _ h.nd h.lt
theorem UR.fuel {l : List Nc} {nm : List UInt8} {met : List Nat} {at_ : Option Nat} {pre : List (List UInt8)} (h : UR l nm met at_ pre) : ∃ f, l.length + 1 - met.length = f + 1 ∧ f = l.length + 1 - (met.length + 1) := by
  have := nodup_le met _ h.nd h.lt
  exact ⟨l.length - met.length, by omega, by omega⟩
theorem UR.none {l : List Nc} {nm : List UInt8} {met : List Nat} {pre : List (List UInt8)} (h : UR l nm met .none pre) : upL l nm = pre := by
  obtain ⟨f, hf, _⟩ := h.fuel
  have := h.eq
  rw [hf] at this
  simpa [upF] using this
theorem UR.ends {l : List Nc} {nm : List UInt8} {met : List Nat} {p : Nat} {pre : List (List UInt8)} (h : UR l nm met (some p) pre) (hs : supAt l p = []) : upL l nm = pre := by
  obtain ⟨f, hf, _⟩ := h.fuel
  have := h.eq
  rw [hf] at this
  simpa [upF, hs] using this
theorem UR.ring {l : List Nc} {nm : List UInt8} {met : List Nat} {p q : Nat} {pre : List (List UInt8)} (h : UR l nm met (some p) pre) (hs : supAt l p ≠ []) (hq : fstN l (supAt l p) = some q) (hm : q ∈ p :: met) : upL l nm = pre := by
  obtain ⟨f, hf, _⟩ := h.fuel
  have := h.eq
  rw [hf] at this
  unfold upF at this
  rw [if_neg hs, hq] at this
  simp only at this
  rw [if_pos hm, List.append_nil] at this
  exact this
theorem UR.next {l : List Nc} {nm : List UInt8} {met : List Nat} {p : Nat} {pre : List (List UInt8)} (h : UR l nm met (some p) pre) (hs : supAt l p ≠ []) (hm : ∀ q, fstN l (supAt l p) = some q → q ∉ p :: met) : UR l nm (p :: met) (fstN l (supAt l p)) (pre ++ [supAt l p]) := by
  obtain ⟨f, hf, hf2⟩ := h.fuel
  obtain ⟨hp1, hp2⟩ := h.here p rfl
  have h1 := h.eq
  rw [hf] at h1
  unfold upF at h1
  rw [if_neg hs] at h1
  have hnd : (p :: met).Nodup := List.nodup_cons.2 ⟨hp2, h.nd⟩
  have hlt : ∀ x ∈ p :: met, x < l.length := fun x hx => by
    rcases List.mem_cons.1 hx with rfl | hx
    · exact hp1
    · exact h.lt x hx
  refine ⟨?_, hnd, hlt, fun q hq => ?_, by simp [h.len]⟩
  · rw [List.length_cons, ← hf2, h1, List.append_assoc]
    congr 1
    cases hq : fstN l (supAt l p) with
    | none => cases f <;> simp [upF]
    | some q =>
      simp only
      rw [if_neg (hm q hq)]
      rfl
  · obtain ⟨_, _, _, hk⟩ := fstN_some hq
    exact ⟨hk, hm q hq⟩
/-- What came is a beginning. -/
theorem UR.front {l : List Nc} {nm : List UInt8} {met : List Nat} {at_ : Option Nat} {pre : List (List UInt8)} (h : UR l nm met at_ pre) : ∃ rest, upL l nm = pre ++ rest := ⟨_, h.eq⟩
theorem supAt_is {l : List Nc} {p : Nat} {c : Nc} (h : l[p]? = some c) : supAt l p = c.sup := by simp [supAt, h]
end Go.Proofs.YthenefjoidckkaaGreatDoor

/- A loop over an iterator that writes cells of its own between the rounds: G says what it does there. -/
namespace Go.Proofs.YthenefjoidckkaaGreatDoor
open Go.RowKit
set_option linter.unusedVariables false

section
variable {F : Fence} {n : Nat} {P : Program} {α : Type}

/-- An iterator whose caller's facts stay through G. -/
def Iter (F : Fence) (n : Nat) (P : Program) (g : Nat) (lb : Array Value) (encs : α → Array Value) (G Kp : World → World → Prop) (S Sp : List α → Prop) (N : Nat) (w : World) : Prop :=
  ∀ (l : Nat) (J Jx : List α → World → Prop) (W : World), Below w.heap.size w W → (∀ s A B, J s A → G A B → J s B) → (∀ s A B, Jx s A → G A B → Jx s B) →
    (∀ pre x W1, J pre W1 → pre.length < N → YieldAt F (n - 1) P l (encs x) W1 fun e W' => (e = .returned (.bool true) ∧ J (pre ++ [x]) W' ∧ Kp W1 W') ∨ (e = .returned (.bool false) ∧ Jx (pre ++ [x]) W')) →
    J [] W → CallsIn F n P g (#[.func (.yield l) #[] #[]] ++ lb) W fun e W' => (∃ v, e = .returned v) ∧ ((∃ xs, S xs ∧ J xs W') ∨ (∃ pre, Sp pre ∧ Jx pre W'))

/-- The caller's facts: they stay through G, through new blocks, and through writes to what is no cells. -/
structure Stays (B : Nat) (G : World → World → Prop) (I : List α → World → Prop) : Prop where
  through : ∀ s A C, I s A → G A C → I s C
  put : ∀ s (A : World) (l : Nat) (o o' : Obj), I s A → B ≤ l → A.heap[l]? = some o → o.isCells = false → I s (A.putObj l o')
  more : ∀ s A o, I s A → I s (A.alloc o)

/-- The loop's own record, and the block of what its rounds put off. -/
def Rec (W : World) (l D : Nat) (r : Loop) : Prop := W.heap[l]? = some (.loop r) ∧ W.heap[D]? = some (.deferred (some []))

theorem range_over {g : Operand} {ps : Array Tmp} {assign body : Code} {Q : Exit → Act → World → Prop} {a : Act} {w : World} (hro : F.round = none) (h1 : 1 ≤ n)
    {gf : Nat} {lb : Array Value} (hg : a.eval g = .func (.func gf) #[] lb) (hFg : F.fn gf) (eg : ∀ args w, (callFunc gf args).run P w = .ok (.enter gf args) w)
    {encs : α → Array Value} (hps : ∀ x, (encs x).size = ps.size) {G Kp : World → World → Prop} {S Sp : List α → Prop} {N : Nat}
    (hG : ∀ (A C : World) (k : Nat) (o : Obj), G A C → A.heap[k]? = some o → o.isCells = false → C.heap[k]? = some o)
    (hKt : ∀ {A B C : World}, Kp A B → Kp B C → Kp A C) (hKb : ∀ (W : World) (l : Nat) (o o' : Obj), w.heap.size ≤ l → W.heap[l]? = some o → o.isCells = false → Kp W (W.putObj l o'))
    (hseq : Iter F (n - 1) P gf lb encs G Kp S Sp N w) (I : List α → World → Prop) (Ix : Code → List α → World → Prop) (hI : Stays w.heap.size G I) (hX : ∀ c, Stays w.heap.size G (Ix c)) (h0 : I [] w)
    (a1 : α → Act)
    (hassign : ∀ (l : Nat) (x : α) (W : World) (K : Act → World → Prop), K (a1 x) W → assign.wpIn (F.inRound l) (n - 1 - 1) P (Exit.then K (fun _ _ _ => False)) { tmps := (ps.zip (encs x)).foldl (fun t (p, v) => t.setIfInBounds p v) a.tmps, defers := [] } W)
    (hbody : ∀ (l : Nat) (pre : List α) (x : α) (W : World), I pre W → pre.length < N → body.wpIn (F.inRound l) (n - 1 - 1) P (ownPostG w.heap.size Kp I Ix (pre ++ [x]) W) (a1 x) W)
    (hdone : ∀ (D : Nat) (xs : List α) (W : World), w.heap.size ≤ D → S xs → I xs W → W.heap[D]? = some (.deferred (some [])) → Q .normal { a with defers := { target := .collected D, args := #[] } :: a.defers } W)
    (hstop : ∀ (D : Nat) (c : Code) (pre : List α) (W : World), w.heap.size ≤ D → Sp pre → Ix c pre W → W.heap[D]? = some (.deferred (some [])) → c.wpIn F n P Q { a with defers := { target := .collected D, args := #[] } :: a.defers } W) :
    (Code.rangeFunc g ps assign body).wpIn F n P Q a w := by
  refine wpIn_rangeFunc fun fn hfn => ?_
  obtain ⟨D, hD⟩ : ∃ D, D = w.heap.size := ⟨_, rfl⟩
  obtain ⟨l, hl⟩ : ∃ l, l = w.heap.size + 1 := ⟨_, rfl⟩
  let rd (st : LoopState) (pe : Option Code) : Loop := { state := st, pending := pe, fn, tmps := a.tmps, params := ps, assign, body, defers := D }
  obtain ⟨W1, hW1⟩ : ∃ W1, W1 = (w.alloc (.deferred (some []))).alloc (.loop (rd .ready none)) := ⟨_, rfl⟩
  have r1 : Rec W1 l D (rd .ready none) := by
    rw [hW1]
    refine ⟨?_, ?_⟩
    · have t := heap_alloc_last (w.alloc (.deferred (some []))) (.loop (rd .ready none))
      rw [show (w.alloc (.deferred (some []))).heap.size = l by rw [hl]; simp] at t
      exact t
    · rw [hD]
      exact (heap_alloc_old _ _ (by simp)).trans (heap_alloc_last w _)
  have i1 : I [] W1 := by rw [hW1]; exact hI.more _ _ _ (hI.more _ _ _ h0)
  have b1 : Below w.heap.size w W1 := by rw [hW1]; exact ((Below.refl _ _).alloc (Nat.le_refl _) _).alloc (by simp) _
  have recG : ∀ {A C : World} {r : Loop}, Rec A l D r → G A C → Rec C l D r := fun h g => ⟨hG _ _ _ _ g h.1 rfl, hG _ _ _ _ g h.2 rfl⟩
  have hlD : ¬ D = l := by omega
  have recP : ∀ {A : World} {r r' : Loop}, Rec A l D r → Rec (A.putObj l (.loop r')) l D r' := fun h => ⟨World.putObj_heap_same (Array.getElem?_eq_some_iff.1 h.1).1, (World.putObj_heap_other hlD).trans h.2⟩
  refine ⟨l, [{ target := .collected D, args := #[] }], W1, { target := .fn (.func gf) lb, args := #[.func (.yield l) #[] #[]] }, W1, gf, #[.func (.yield l) #[] #[]] ++ lb, W1, ?_, ?_, ?_, ?_, fun _ => h1, ?_⟩
  · rw [hro, hW1]
    have t := run_enterLoop_outer (P := P) (w := w) fn a.tmps ps assign body
    rw [← hl, ← hD] at t
    exact t
  · simp only [resolve, hg]
    simp [go_sem]
  · intro f' hf'
    simp [Target.leads] at hf'
    rw [← hf']
    exact hFg
  · simp [invoke, go_sem, eg]
  refine (hseq l (fun pre W => I pre W ∧ Rec W l D (rd .ready none)) (fun pre W => ∃ c, Ix c pre W ∧ Rec W l D (rd .done (some c))) W1 b1 (fun s A C h g => ⟨hI.through s A C h.1 g, recG h.2 g⟩) (fun s A C h g => h.elim fun c hc => ⟨c, (hX c).through s A C hc.1 g, recG hc.2 g⟩) ?_ ⟨i1, r1⟩).mono ?_
  · rintro pre x W ⟨hi, hr⟩ hlen
    refine ⟨fn, _, assign, body, run_yield hr.1 (hps x), roundIn_of_wpIn hfn (hassign l x W _ ⟨_, run_beginRound hr.1 rfl, ?_⟩)⟩
    have hr2 : Rec (W.putObj l (.loop { rd .ready none with state := .busy })) l D (rd .busy none) := recP hr
    have hk2 : Kp W (W.putObj l (.loop { rd .ready none with state := .busy })) := hKb _ _ _ _ (by omega) hr.1 rfl
    refine wpIn_mono (hbody l pre x _ (hI.put _ _ _ _ _ hi (by omega) hr.1 rfl) hlen) ?_
    generalize W.putObj l (.loop { rd .ready none with state := .busy }) = W2 at *
    intro e a3 W3 hp
    have out : ∀ (j : Option Code), KeepsFrom w.heap.size W2 W3 → Rec W3 l D (rd .busy none) ∧ (Instr.endRound l j).run P W3 = .ok (.bool j.isNone) (W3.putObj l (.loop (rd (if j.isNone then .ready else .done) j))) := fun j hk => by
      have hr3 : Rec W3 l D (rd .busy none) := ⟨hk.same _ _ (by omega) hr2.1 rfl, hk.same _ _ (by omega) hr2.2 rfl⟩
      exact ⟨hr3, run_endRound j hr3.1⟩
    cases e with
    | normal =>
      obtain ⟨hr3, he⟩ := out none hp.1
      exact ⟨_, _, he, .inl ⟨rfl, ⟨hI.put _ _ _ _ _ hp.2.2 (by omega) hr3.1 rfl, recP hr3⟩, hKt hk2 (hKt hp.2.1 (hKb _ _ _ _ (by omega) hr3.1 rfl))⟩⟩
    | ret =>
      obtain ⟨hr3, he⟩ := out (some .ret) hp.1
      exact ⟨_, _, he, .inr ⟨rfl, .ret, (hX _).put _ _ _ _ _ hp.2 (by omega) hr3.1 rfl, recP hr3⟩⟩
    | exit id =>
      obtain ⟨hr3, he⟩ := out (some (.exit id)) hp.1
      exact ⟨_, _, he, .inr ⟨rfl, .exit id, (hX _).put _ _ _ _ _ hp.2 (by omega) hr3.1 rfl, recP hr3⟩⟩
    | goto t =>
      obtain ⟨hr3, he⟩ := out (some (.goto t)) hp.1
      exact ⟨_, _, he, .inr ⟨rfl, .goto t, (hX _).put _ _ _ _ _ hp.2 (by omega) hr3.1 rfl, recP hr3⟩⟩
    | panic ch => exact hp.elim
    | outgrown => exact hp.elim
  · rintro e W2 ⟨⟨v, rfl⟩, (⟨xs, hS, hi, hr⟩ | ⟨pre, hSp, c, hi, hr⟩)⟩
    · exact ⟨none, _, run_endLoop hr.1 (by simp [rd]), hdone D xs _ (by omega) hS (hI.put _ _ _ _ _ hi (by omega) hr.1 rfl) ((World.putObj_heap_other hlD).trans hr.2)⟩
    · exact ⟨some c, _, run_endLoop hr.1 (by simp [rd]), hstop D c pre _ (by omega) hSp ((hX c).put _ _ _ _ _ hi (by omega) hr.1 rfl) ((World.putObj_heap_other hlD).trans hr.2)⟩
end
end Go.Proofs.YthenefjoidckkaaGreatDoor

/- The landed iterator over the classes above. -/
namespace Go.Proofs.YthenefjoidckkaaGreatDoor
open Go.RowKit Go.Shelf
set_option linter.unusedVariables false
set_option maxRecDepth 100000
attribute [local go_sem] Oper.semAt_some

/-- A block that is no list of bools. -/
def NoB (o : Obj) : Prop := ∀ X fr, o ≠ .cells X 4 fr
/-- What the iterator does between two rounds: what lay below n₀, and all but bools, stays. -/
def GU (n₀ : Nat) (A C : World) : Prop := Below n₀ A C ∧ ∀ (k : Nat) (o : Obj), A.heap[k]? = some o → NoB o → C.heap[k]? = some o
/-- What a round keeps: what lay below n₀, bools, and boxes of lists of classes. -/
def KU (n₀ : Nat) (A C : World) : Prop := Below n₀ A C ∧ ∀ (k : Nat) X T fr, (T = 4 ∨ T = 42) → A.heap[k]? = some (.cells X T fr) → C.heap[k]? = some (.cells X T fr)
theorem gu_of_below {n₀ : Nat} {A C : World} (h : Below A.heap.size A C) (hn : n₀ ≤ A.heap.size) : GU n₀ A C := ⟨h.mono hn, fun k o hk _ => (h.block k (lt_of_heap hk)).trans hk⟩
abbrev encN (x : List UInt8) : Array Value := #[.string ⟨x.toArray⟩]
def metB (n : Nat) (met : List Nat) : List Value := (List.range n).map fun k => .bool (decide (k ∈ met))
theorem infoBo : (Tryz.prog.info? 4).map (fun i => (i.zero, i.size, i.bytes)) = some (some (.bool false), 1, 1) := by kernel_rfl
theorem makeBo (w : World) (n : Nat) (hn : n ≤ 1000) : (Instr.makeSlice 117 (.int .i64 (n : Int)) (.int .i64 (n : Int))).run Tryz.prog w = .ok (.slice (some ⟨w.heap.size, 0, none⟩) n n) (w.alloc (.cells (metB n []).toArray 4)) := by
  obtain ⟨i0, hi, hz0, hz1, hz2⟩ := info_parts infoBo
  have := run_make (P := Tryz.prog) w 117 4 i0 (.bool false) Tryz.underlying117 hi hz0 .i64 .i64 (n : Int) (n : Int) (by omega) (by omega) (by rw [hz2]; omega) (by omega)
  rw [this, hz1]
  have e : madeCells (Value.bool false).cells (Int.toNat (n : Int) * 1) = (metB n []).toArray := by
    apply Array.toList_inj.1
    rw [Int.toNat_natCast, Nat.mul_one]
    show (madeCells #[Value.bool false] n).toList = _
    rw [toList_madeCells_one]
    unfold metB
    apply List.ext_getElem?
    intro i
    simp [List.getElem?_replicate]
    by_cases h : i < n <;> simp [h]
  rw [e, Int.toNat_natCast]
theorem metB_at {n : Nat} {met : List Nat} {q : Nat} (h : q < n) : (metB n met)[q]? = some (.bool (decide (q ∈ met))) := by
  unfold metB
  rw [List.getElem?_map, List.getElem?_range h]
  rfl
theorem metB_set {n : Nat} {met : List Nat} {p : Nat} (h : p < n) : (metB n met).toArray.setIfInBounds p (.bool true) = (metB n (p :: met)).toArray := by
  apply Array.toList_inj.1
  rw [Array.toList_setIfInBounds]
  apply List.ext_getElem?
  intro i
  rw [List.getElem?_set]
  by_cases hi : i < n
  · by_cases hp : p = i
    · subst hp
      rw [if_pos rfl, if_pos (by unfold metB; simpa using h)]
      show _ = (metB n (p :: met))[p]?
      rw [metB_at hi]
      simp
    · rw [if_neg hp]
      show (metB n met)[i]? = (metB n (p :: met))[i]?
      rw [metB_at hi, metB_at hi]
      congr 2
      rw [decide_eq_decide]
      constructor
      · intro h; exact List.mem_cons_of_mem _ h
      · intro h; rcases List.mem_cons.1 h with rfl | h
        · exact absurd rfl hp
        · exact h
  · have e1 : (metB n (p :: met))[i]? = none := List.getElem?_eq_none (by unfold metB; simp; omega)
    have e2 : (metB n met)[i]? = none := List.getElem?_eq_none (by unfold metB; simp; omega)
    show _ = (metB n (p :: met))[i]?
    rw [e1, if_neg (by omega)]
    exact e2
def isT : Value → Bool
  | .bool true => true
  | _ => false
def trueN (W : World) (B : Nat) : Nat := match W.heap[B]? with
  | some (.cells X _ _) => X.toList.countP isT
  | _ => 0
theorem metB_count {n : Nat} {met : List Nat} {p : Nat} (hp : p < n) (hm : p ∉ met) : (metB n (p :: met)).countP isT = (metB n met).countP isT + 1 := by
  have e : metB n (p :: met) = (metB n met).set p (.bool true) := by
    have := congrArg Array.toList (metB_set (n := n) (met := met) hp)
    rw [Array.toList_setIfInBounds] at this
    exact this.symm
  have hl : p < (metB n met).length := by unfold metB; simpa using hp
  have hv : (metB n met)[p] = .bool false := by
    have := (List.getElem?_eq_some_iff.1 (metB_at (met := met) hp)).2
    rw [this]
    simp [hm]
  rw [e, List.countP_set hl, hv]
  simp [isT]
theorem metB_le (n : Nat) (met : List Nat) : (metB n met).countP isT ≤ n := by
  refine Nat.le_trans List.countP_le_length ?_
  unfold metB
  simp
def atI : Option Nat → Int
  | some k => k
  | none => -1
theorem fstI_is (l : List Nc) (nm : List UInt8) : fstI l nm = atI (fstN l nm) := by
  unfold fstI atI
  cases fstN l nm <;> rfl
/-- The iterator's own memory: two boxes of the list, and which places were met. -/
structure UM (w wr : World) (Bl Bf Bm : Nat) (a : Option Addr) (n cap : Nat) (met : List Nat) : Prop where
  bl : wr.heap[Bl]? = some (.cells #[.slice a n cap] 42 (0, 0))
  bf : wr.heap[Bf]? = some (.cells #[.slice a n cap] 42 (0, 0))
  bm : wr.heap[Bm]? = some (.cells (metB n met).toArray 4 (0, 0))
  bel : Below w.heap.size w wr
  hi : w.heap.size ≤ Bm
theorem UM.below {w wr wr' : World} {Bl Bf Bm : Nat} {a : Option Addr} {n cap : Nat} {met : List Nat} (h : UM w wr Bl Bf Bm a n cap met) (f : Below wr.heap.size wr wr') : UM w wr' Bl Bf Bm a n cap met :=
  ⟨(f.block _ (lt_of_heap h.bl)).trans h.bl, (f.block _ (lt_of_heap h.bf)).trans h.bf, (f.block _ (lt_of_heap h.bm)).trans h.bm, h.bel.trans (f.mono h.bel.size), h.hi⟩
theorem UM.round {w wr wr' : World} {Bl Bf Bm : Nat} {a : Option Addr} {n cap : Nat} {met : List Nat} (h : UM w wr Bl Bf Bm a n cap met) (f : KU w.heap.size wr wr') : UM w wr' Bl Bf Bm a n cap met :=
  ⟨f.2 _ _ _ _ (.inr rfl) h.bl, f.2 _ _ _ _ (.inr rfl) h.bf, f.2 _ _ _ _ (.inl rfl) h.bm, h.bel.trans f.1, h.hi⟩
theorem UM.cells {w wr : World} {Bl Bf Bm : Nat} {a : Option Addr} {n cap : Nat} {met : List Nat} (h : UM w wr Bl Bf Bm a n cap met) : wr.cell? ⟨Bl, 0, none⟩ = some (.slice a n cap) ∧ wr.cell? ⟨Bf, 0, none⟩ = some (.slice a n cap) ∧ (∀ q, q < n → wr.cell? ⟨Bm, q, none⟩ = some (.bool (decide (q ∈ met)))) ∧ ∀ q, wr.frozen? ⟨Bm, q, none⟩ = false :=
  ⟨by rw [cell_of_row _ _ _ _ _ _ h.bl]; rfl, by rw [cell_of_row _ _ _ _ _ _ h.bf]; rfl, fun q hq => by rw [cell_of_row _ _ _ _ _ _ h.bm]; simpa using metB_at hq, fun q => frozen_of_row _ _ _ _ _ h.bm⟩
theorem UM.mark {w wr : World} {Bl Bf Bm : Nat} {a : Option Addr} {n cap : Nat} {met : List Nat} (h : UM w wr Bl Bf Bm a n cap met) {p : Nat} (hp : p < n) : UM w (wr.setCell ⟨Bm, p, none⟩ (.bool true)) Bl Bf Bm a n cap (p :: met) ∧ GU w.heap.size wr (wr.setCell ⟨Bm, p, none⟩ (.bool true)) := by
  have hne : ∀ k X, wr.heap[k]? = some (.cells X 42 (0, 0)) → k ≠ Bm := fun k X hk e => by
    subst e
    rw [h.bm] at hk
    injection hk with hk
    injection hk with _ hk
    cases hk
  refine ⟨⟨(Below.heap_setCell _ _ _ _ (hne _ _ h.bl)).trans h.bl, (Below.heap_setCell _ _ _ _ (hne _ _ h.bf)).trans h.bf, ?_, h.bel.setCell (p := ⟨Bm, p, none⟩) h.hi _, h.hi⟩, (Below.refl _ _).setCell (p := ⟨Bm, p, none⟩) h.hi _, fun k o hk ho => ?_⟩
  · rw [heap_setCell_same wr Bm p _ _ _ h.bm, metB_set hp]
  · refine (Below.heap_setCell _ _ _ _ (fun e => ?_)).trans hk
    have e' : k = Bm := e
    subst e'
    rw [h.bm] at hk
    injection hk with hk
    exact ho _ _ hk.symm
theorem meas {w wr W3 : World} {Bl Bf Bm : Nat} {a : Option Addr} {n cap p : Nat} {met : List Nat} (h : UM w wr Bl Bf Bm a n cap met) (h' : UM w W3 Bl Bf Bm a n cap (p :: met)) (hp : p < n) (hm : p ∉ met) : n - trueN W3 Bm < n - trueN wr Bm := by
  have e1 : trueN wr Bm = (metB n met).countP isT := by unfold trueN; rw [h.bm]
  have e2 : trueN W3 Bm = (metB n (p :: met)).countP isT := by unfold trueN; rw [h'.bm]
  rw [e1, e2, metB_count hp hm]
  have := metB_le n (p :: met)
  rw [metB_count hp hm] at this
  omega
set_option maxHeartbeats 2000000 in
theorem upwards1_in (N lp Bl Bn : Nat) (hN : 1 ≤ N) (w W : World) (a : Option Addr) (n cap : Nat) (l : List Nc) (hL : Ls 5 ncc w a n l) (hn : n ≤ 40) (NM : ByteArray) (nm : List UInt8) (hNM : Str NM nm) (J Jx : List (List UInt8) → World → Prop)
    (hY : ∀ pre x W1, J pre W1 → pre.length < n + 1 → YieldAt Fence.wide (N - 1) Tryz.prog lp (encN x) W1 fun e W' =>
      (e = .returned (.bool true) ∧ J (pre ++ [x]) W' ∧ KU w.heap.size W1 W') ∨ (e = .returned (.bool false) ∧ Jx (pre ++ [x]) W'))
    (hJ : ∀ s A C, J s A → GU w.heap.size A C → J s C) (hW : Below w.heap.size w W) (hB : W.heap[Bl]? = some (.cells #[.slice a n cap] 42 (0, 0))) (hB2 : W.cell? ⟨Bn, 0, none⟩ = some (.string NM)) (h0 : J [] W) :
    CallsIn Fence.wide N Tryz.prog 115 #[.func (.yield lp) #[] #[], .pointer (some ⟨Bl, 0, none⟩), .pointer (some ⟨Bn, 0, none⟩)] W fun e W' => (∃ v, e = .returned v) ∧
      ((∃ xs, xs = upL l nm ∧ J xs W') ∨ (∃ pre, (∃ rest, upL l nm = pre ++ rest) ∧ Jx pre W')) := by
  have cB : W.cell? ⟨Bl, 0, none⟩ = some (.slice a n cap) := by rw [cell_of_row _ _ _ _ _ _ hB]; rfl
  refine callsIn_of_wp Tryz.func115 rfl trivial ?_ rfl
  simp only [Tryz.ntmps115, List.size_toArray, List.length_cons, List.length_nil, Nat.reduceAdd, Nat.reduceSub, Array.replicate_succ, Array.replicate_zero, List.push_toArray, List.append_toArray, List.nil_append, List.cons_append]
  have hln := hL.1
  have HL := hide hL
  have HNM := hide hNM
  have HJ := hide hJ
  have HY := hide hY
  clear hL hNM hJ hY
  gi_wp2_with fail
  refine ⟨trivial, (callsIn_wide.2 (yfinder_any W a n cap (by omega))).mono ?_⟩
  rintro e w1 ⟨rfl, hw1⟩
  have f1 : Below W.heap.size W w1 := by rw [hw1]; exact bA (Below.refl _ _) _
  have hF1 : w1.heap[W.heap.size]? = some (.cells #[.slice a n cap] 42 (0, 0)) := by rw [hw1]; exact heap_alloc_last _ _
  have hB1 := (f1.block _ (lt_of_heap hB)).trans hB
  have cB1 : w1.cell? ⟨Bl, 0, none⟩ = some (.slice a n cap) := by rw [cell_of_row _ _ _ _ _ _ hB1]; rfl
  have cN1 : w1.cell? ⟨Bn, 0, none⟩ = some (.string NM) := (f1.cell (World.block_lt_of_cell? W _ hB2)).trans hB2
  clear hw1 cB hB hB2
  have hmk := makeBo w1 n (by omega)
  have g2 : Below w1.heap.size w1 (w1.alloc (.cells (metB n []).toArray 4)) := bA (Below.refl _ _) _
  have F2 := hW.trans ((f1.trans (g2.mono f1.size)).mono hW.size)
  have M2 : Hid (UM w (w1.alloc (.cells (metB n []).toArray 4)) Bl W.heap.size w1.heap.size a n cap []) := ⟨(g2.block _ (lt_of_heap hB1)).trans hB1, (g2.block _ (lt_of_heap hF1)).trans hF1, heap_alloc_last _ _, F2, Nat.le_trans hW.size f1.size⟩
  have cN2 : (w1.alloc (.cells (metB n []).toArray 4)).cell? ⟨Bn, 0, none⟩ = some (.string NM) := (g2.cell (World.block_lt_of_cell? w1 _ cN1)).trans cN1
  have HJ2 := hide (unhide HJ _ _ _ h0 (gu_of_below (f1.trans (g2.mono f1.size)) hW.size))
  have HFD : Hid (∀ wr X x met, UM w wr Bl W.heap.size w1.heap.size a n cap met → Str X x → CallsIn Fence.wide (N - 1) Tryz.prog 132 #[.string X, .pointer (some ⟨W.heap.size, 0, none⟩)] wr fun e w' => e = .returned (.int .i64 (fstI l x)) ∧ Below wr.heap.size wr w') := fun wr X x met hM hX => callsIn_wide.2 (yfinder1_any wr _ a n cap hM.cells.2.1 l ((unhide HL).below hM.bel) (by omega) X x hX)
  clear g2 F2 hB1 hF1 f1 h0 hW
  gi_wp2_with fail
  refine ⟨trivial, (unhide HFD _ NM nm [] (unhide M2) (unhide HNM)).mono ?_⟩
  rintro e w3 ⟨rfl, f3⟩
  rw [fstI_is]
  have M3 := hide ((unhide M2).below f3)
  have HJ3 := hide (unhide HJ _ _ _ (unhide HJ2) (gu_of_below f3 (unhide M2).bel.size))
  have HU3 := hide (UR.start l nm)
  obtain ⟨at0, hat0⟩ : ∃ at0, at0 = atI (fstN l nm) := ⟨_, rfl⟩
  rw [← hat0]
  have HAT := hide hat0
  clear hat0
  clear f3 M2 HJ2 cN2 hmk cN1 cB1
  gi_wp2
  gi_loopw [6] (fun av wr => ∃ (met : List Nat) (at_ : Option Nat) (pre : List (List UInt8)), av = .int .i64 (atI at_) ∧ Hid (UR l nm met at_ pre) ∧ Hid (UM w wr Bl W.heap.size w1.heap.size a n cap met) ∧ Hid (J pre wr)) (fun av wr => n - trueN wr w1.heap.size)
  case atStart => exact ⟨[], fstN l nm, [], by rw [unhide HAT], HU3, M3, HJ3⟩
  case round =>
    clear HU3 M3 HJ3
    obtain ⟨met, at_, pre, rfl, HU, HM, HJ0⟩ := hrel
    cases at_ with
    | none =>
      have HE := hide (unhide HU).none
      unfold atI
      gi_wp2
      go_end0
      exact ⟨⟨_, rfl⟩, .inl ⟨pre, (unhide HE).symm, unhide HJ0⟩⟩
    | some p =>
      obtain ⟨hp1, hp2⟩ := (unhide HU).here p rfl
      rw [hln] at hp1
      unfold atI
      obtain ⟨b1, o1, h1a, h1⟩ := Ls.row (unhide HL) (w' := w) (by omega)
      subst h1a
      obtain ⟨c, hc⟩ : ∃ c, l[p]? = some c := ⟨_, List.getElem?_eq_getElem (by omega)⟩
      have hsp := supAt_is hc
      have hp0 : (0 : Int) ≤ (p : Int) := by omega
      have hpn : (p : Int) < (n : Int) := by omega
      have HROW : Hid (∀ wx, Below w.heap.size w wx → wx.cell? ⟨b1, o1 + p * 5 + 2, none⟩ = some (.string ⟨c.sup.toArray⟩)) := fun wx f => (h1 f p c hc) 2 _ rfl
      obtain ⟨k1, k2, k3, k4⟩ := (unhide HM).cells
      have r2 := unhide HROW wr (unhide HM).bel
      have K3 := hide k3
      clear h1 k3
      have HK := hide ((unhide HM).mark hp1)
      obtain ⟨m1, m2, m3, m4⟩ := (unhide HK).1.cells
      have r3 := unhide HROW _ (unhide HK).1.bel
      have k3p := unhide K3 p hp1
      have M3' := hide m3
      clear m3
      by_cases hsup : c.sup = []
      · have e1 : (⟨c.sup.toArray⟩ : ByteArray) = ⟨#[]⟩ := by rw [hsup]
        rw [e1] at r2
        have HE := hide ((unhide HU).ends (by rw [hsp]; exact hsup))
        clear e1 r3 m1 m2 m4
        gi_wp2
        go_end0
        exact ⟨⟨_, rfl⟩, .inl ⟨pre, (unhide HE).symm, unhide HJ0⟩⟩
      · obtain ⟨X, hX⟩ := Str.of c.sup
        rw [← hX.eq] at r2 r3
        have x1 : ¬ X.toList = [] := by rw [hX.list]; exact hsup
        have x2 : X.toList.isEmpty = false := by rw [hX.list]; cases hcs : c.sup with | nil => exact absurd hcs hsup | cons _ _ => rfl
        have x3 : (X.toList == []) = false := by simpa using x1
        have x4 : (X.toList != []) = true := by simpa using x1
        have HX := hide hX
        clear hX
        gi_wp2_with fail
        refine ⟨trivial, (unhide HFD _ X c.sup (p :: met) (unhide HK).1 (unhide HX)).mono ?_⟩
        rintro e w5 ⟨rfl, f5⟩
        rw [fstI_is]
        have M5 := hide ((unhide HK).1.below f5)
        have HJ5 := hide (unhide HJ _ _ _ (unhide HJ _ _ _ (unhide HJ0) (unhide HK).2) (gu_of_below f5 (unhide HK).1.bel.size))
        have hfew : pre.length < n + 1 := by have := (unhide HU).few; omega
        have HYX : Hid (∀ W1, J pre W1 → YieldAt Fence.wide (N - 1) Tryz.prog lp #[.string X] W1 fun e W' => (e = .returned (.bool true) ∧ J (pre ++ [c.sup]) W' ∧ KU w.heap.size W1 W') ∨ (e = .returned (.bool false) ∧ Jx (pre ++ [c.sup]) W')) := fun W1 hj => by
          have := unhide HY pre c.sup W1 hj hfew
          rw [(unhide HX).eq]
          exact this
        obtain ⟨n1, n2, n3, n4⟩ := (unhide M5).cells
        have N3 := hide n3
        clear n3 k1 k2 k4 r2 m1 m2 m4 r3 k3p f5
        have hfn : fstN l c.sup = fstN l (supAt l p) := by rw [hsp]
        cases hq : fstN l c.sup with
        | none =>
          have HNX : Hid (Hid (UR l nm (p :: met) (fstN l c.sup) (pre ++ [c.sup]))) := by
            have := (unhide HU).next (by rw [hsp]; exact hsup) (fun q h => by rw [← hfn, hq] at h; cases h)
            rw [hsp] at this
            exact this
          unfold atI
          obtain ⟨fn, tmps, assign, body, hy, hRR⟩ := unhide HYX _ (unhide HJ5)
          have HRR := hide hRR
          clear hRR
          gi_wp2
          refine (unhide HRR).mono ?_
          rintro e W3 (⟨rfl, hJ3, hk3⟩ | ⟨rfl, hJx3⟩)
          · have HM6 := hide ((unhide M5).round hk3)
            have HJ6 := hide hJ3
            clear hJ3 hk3 HRR hy
            gi_wp2
            go_roundw
            case rel => exact ⟨p :: met, fstN l c.sup, pre ++ [c.sup], by rw [hq], unhide HNX, HM6, HJ6⟩
            case measure => exact meas (unhide HM) (unhide HM6) hp1 hp2
          · have HJX := hide hJx3
            clear hJx3 HRR hy
            gi_wp2
            refine bodyPost_ret (results_none rfl _ _ _) rfl ?_
            exact ⟨⟨_, rfl⟩, .inr ⟨_, (unhide HNX).front, unhide HJX⟩⟩
        | some q =>
          obtain ⟨_, _, _, hql⟩ := fstN_some hq
          have hqn : q < n := by omega
          have hq0 : (0 : Int) ≤ (q : Int) := by omega
          have hqn' : (q : Int) < (n : Int) := by omega
          have cq := unhide N3 q hqn
          unfold atI
          by_cases hmem : q ∈ p :: met
          · rw [decide_eq_true hmem] at cq
            have HE := hide ((unhide HU).ring (by rw [hsp]; exact hsup) (by rw [← hfn]; exact hq) hmem)
            gi_wp2
            refine ⟨(fun f hf => by cases hf), ?_⟩
            gi_wp2
            refine bodyPost_ret (results_none rfl _ _ _) rfl ?_
            exact ⟨⟨_, rfl⟩, .inl ⟨pre, (unhide HE).symm, unhide HJ5⟩⟩
          · rw [decide_eq_false hmem] at cq
            have HNX : Hid (Hid (UR l nm (p :: met) (fstN l c.sup) (pre ++ [c.sup]))) := by
              have := (unhide HU).next (by rw [hsp]; exact hsup) (fun q' h => by rw [← hfn, hq] at h; injection h with h; rw [← h]; exact hmem)
              rw [hsp] at this
              exact this
            obtain ⟨fn, tmps, assign, body, hy, hRR⟩ := unhide HYX _ (unhide HJ5)
            have HRR := hide hRR
            clear hRR
            gi_wp2
            refine (unhide HRR).mono ?_
            rintro e W3 (⟨rfl, hJ3, hk3⟩ | ⟨rfl, hJx3⟩)
            · have HM6 := hide ((unhide M5).round hk3)
              have HJ6 := hide hJ3
              clear hJ3 hk3 HRR hy
              gi_wp2
              go_roundw
              case rel => exact ⟨p :: met, fstN l c.sup, pre ++ [c.sup], by rw [hq], unhide HNX, HM6, HJ6⟩
              case measure => exact meas (unhide HM) (unhide HM6) hp1 hp2
            · have HJX := hide hJx3
              clear hJx3 HRR hy
              gi_wp2
              refine bodyPost_ret (results_none rfl _ _ _) rfl ?_
              exact ⟨⟨_, rfl⟩, .inr ⟨_, (unhide HNX).front, unhide HJX⟩⟩
end Go.Proofs.YthenefjoidckkaaGreatDoor

/- The landed Above: what the iterator gives, collected. -/
namespace Go.Proofs.YthenefjoidckkaaGreatDoor
open Go.RowKit Go.Shelf
set_option linter.unusedVariables false
set_option maxRecDepth 100000
attribute [local go_sem] Oper.semAt_some

theorem ku_t {n₀ : Nat} {X Y Z : World} (h : KU n₀ X Y) (k : KU n₀ Y Z) : KU n₀ X Z := ⟨h.1.trans k.1, fun q V T fr hT hq => k.2 q V T fr hT (h.2 q V T fr hT hq)⟩
theorem gu_cells {n₀ : Nat} (A C : World) (k : Nat) (o : Obj) (h : GU n₀ A C) (hk : A.heap[k]? = some o) (ho : o.isCells = false) : C.heap[k]? = some o :=
  h.2 k o hk (fun X fr e => by rw [e] at ho; cases ho)
theorem put_other {W : World} {l k : Nat} {o o' o2 : Obj} (hl : W.heap[l]? = some o) (ho : o.isCells = false) (hk : W.heap[k]? = some o2) (h2 : o2.isCells = true) : (W.putObj l o').heap[k]? = some o2 := by
  refine (World.putObj_heap_other (fun e => ?_)).trans hk
  subst e
  rw [hk] at hl
  injection hl with hl
  rw [hl, ho] at h2
  cases h2
theorem ku_b {n₀ : Nat} {w : World} (hn : n₀ ≤ w.heap.size) (W : World) (l : Nat) (o o' : Obj) (hl : w.heap.size ≤ l) (h : W.heap[l]? = some o) (h1 : o.isCells = false) : KU n₀ W (W.putObj l o') :=
  ⟨(Below.refl n₀ W).grown (grownBy_putObj' W l o') (by have := lt_of_heap h; omega) (fun k e => by cases e; omega), fun k X T fr hT hk => put_other h h1 hk rfl⟩
def stc (x : List UInt8) : List Value := [.string ⟨x.toArray⟩]
theorem rkS : Rk stc 9 77 1 16 (.string ⟨#[]⟩) := ⟨fun _ => rfl, fun x u hu => by simp [stc] at hu; subst hu; rfl, by decide, by kernel_rfl, rfl, Tryz.underlying77⟩
end Go.Proofs.YthenefjoidckkaaGreatDoor
