/- Layer 15: values and objects as plain values, and in memory; what the document says of heaps. -/
import Derived.Test.YtgiohebbmjgefaaJH5

namespace Go.Proofs.Ytgiohebbmjgefaa
open Go.RowKit
set_option linter.unusedVariables false
set_option maxRecDepth 100000

structure Vl where
  kind : Int
  n : Int
deriving DecidableEq
def vlc (v : Vl) : List Value := [.int .i64 v.kind, .int .i64 v.n]
structure Ob where
  ty : List UInt8
  ws : List Vl
/-- An object as it lies in memory: its words by their slice. -/
structure ObR where
  ty : List UInt8
  s : Sl
  ws : List Vl
def ObR.o (r : ObR) : Ob := ⟨r.ty, r.ws⟩
def obc (r : ObR) : List Value := [.string ⟨r.ty.toArray⟩, r.s.v]
theorem rkV : Rk vlc 33 27 2 16 (.agg #[.int .i64 0, .int .i64 0]) := ⟨fun _ => rfl, fun x u hu => by simp [vlc] at hu; rcases hu with rfl | rfl <;> rfl, by decide, by kernel_rfl, rfl, Try.underlying27⟩
theorem rkO : Rk obc 29 22 2 40 (.agg #[.string ⟨#[]⟩, .slice none 0 0]) := ⟨fun _ => rfl, fun x u hu => by simp [obc, Sl.v] at hu; rcases hu with rfl | rfl <;> rfl, by decide, by kernel_rfl, rfl, Try.underlying22⟩
def WsIn (w : World) (s : Sl) (ws : List Vl) : Prop := LIn 2 16 vlc (fun _ => True) w s ws
def HIn (w : World) (s : Sl) (rs : List ObR) : Prop := LIn 2 40 obc (fun r => WsIn w r.s r.ws) w s rs
theorem WsIn.below {w w' : World} {s : Sl} {ws : List Vl} (h : WsIn w s ws) (f : Below w.heap.size w w') : WsIn w' s ws := LIn.mono h f (fun _ h => h)
theorem HIn.below {w w' : World} {s : Sl} {rs : List ObR} (h : HIn w s rs) (f : Below w.heap.size w w') : HIn w' s rs := LIn.mono h f (fun _ h => h.below f)
theorem wsIn_nil (w : World) : WsIn w ⟨none, 0, 0⟩ [] := ⟨⟨rfl, .inl rfl⟩, by simp, by simp, fun _ => ⟨rfl, rfl⟩, by simp, fun _ h => by cases h⟩
theorem hIn_nil (w : World) : HIn w ⟨none, 0, 0⟩ [] := ⟨⟨rfl, .inl rfl⟩, by simp, by simp, fun _ => ⟨rfl, rfl⟩, by simp, fun _ h => by cases h⟩
theorem Orw.linR {α : Type} {cs : α → List Value} {e t : TypeId} {sz by_ : Nat} {z : Value} (R : Rk cs e t sz by_ z) {ok : α → Prop} {w : World} {base : Nat} {s : Sl} {l : List α} (h : Orw cs e sz w base s.v l) (hs : l.length * by_ ≤ 140737488351232) (he : ∀ x ∈ l, ok x) : LIn sz by_ cs ok w s l := by
  obtain ⟨a, n, c⟩ := s
  obtain ⟨a', c', e1, h1, h2, h3⟩ := h.form
  injection e1 with ea en ec
  subst ea en ec
  exact ⟨Orw.ls R h, h2, h3, h1, hs, he⟩
/-- A heap whose list, and whose words, are rows of one's own, each apart. -/
structure HOwn (w : World) (B : Nat) (v : Value) (rs : List ObR) : Prop where
  row : Orw obc 29 2 w B v rs
  each : ∀ r ∈ rs, Orw vlc 33 2 w B r.s.v r.ws
  apart : rs.Pairwise (fun a b => ∀ i, a.s.v.ownBlock = some i → b.s.v.ownBlock ≠ some i)
theorem orw_on {α : Type} {cs : α → List Value} {e : TypeId} {sz : Nat} {w w' : World} {B : Nat} {v : Value} {l : List α} (h : Orw cs e sz w B v l) (f : Below w.heap.size w w') : Orw cs e sz w' B v l := h.below fun k hk => f.block k (h.lt k hk).2
theorem HOwn.below {w w' : World} {B : Nat} {v : Value} {rs : List ObR} (h : HOwn w B v rs) (f : Below w.heap.size w w') : HOwn w' B v rs := ⟨orw_on h.row f, fun r hr => orw_on (h.each r hr) f, h.apart⟩
theorem HOwn.base {w : World} {B B' : Nat} {v : Value} {rs : List ObR} (h : HOwn w B v rs) (hb : B' ≤ B) : HOwn w B' v rs := ⟨h.row.base hb, fun r hr => (h.each r hr).base hb, h.apart⟩
/-- How many words all objects have. -/
def wordsH : List Ob → Nat
  | [] => 0
  | o :: l => o.ws.length + wordsH l
theorem wordsH_append : ∀ l m : List Ob, wordsH (l ++ m) = wordsH l + wordsH m
  | [], m => by simp [wordsH]
  | o :: l, m => by rw [List.cons_append, wordsH, wordsH, wordsH_append l m]; omega
theorem wordsH_mem : ∀ {l : List Ob} {o : Ob}, o ∈ l → o.ws.length ≤ wordsH l
  | x :: l, o, h => by
    rcases List.mem_cons.1 h with rfl | h
    · simp [wordsH]
    · have := wordsH_mem h
      simp only [wordsH]
      omega
theorem wordsH_take : ∀ (l : List Ob) (k : Nat), wordsH (l.take k) ≤ wordsH l
  | [], k => by simp [wordsH]
  | o :: l, 0 => by simp [wordsH]
  | o :: l, k + 1 => by
    have := wordsH_take l k
    simp only [List.take_succ_cons, wordsH]
    omega
theorem wordsH_succ {l : List Ob} {k : Nat} {o : Ob} (h : l[k]? = some o) : wordsH (l.take (k + 1)) = wordsH (l.take k) + o.ws.length := by
  rw [List.take_add_one, h, wordsH_append]
  simp [wordsH]
theorem HOwn.hin {w : World} {B : Nat} {s : Sl} {rs : List ObR} (h : HOwn w B s.v rs) (hn : rs.length ≤ 100000) (hw : wordsH (rs.map ObR.o) ≤ 1000000) : HIn w s rs :=
  h.row.linR rkO (by omega) fun r hr => (h.each r hr).linR rkV (by
    have := wordsH_mem (List.mem_map_of_mem (f := ObR.o) hr)
    simp only [ObR.o] at this
    omega) (fun _ _ => trivial)
def freeO (o : Ob) : Bool := o.ty.isEmpty
def freeW (o : Ob) : Bool := freeO o && decide (0 < o.ws.length)
def zeroO : Ob := ⟨[], []⟩
/-- Is the last one free? -/
def endsH (l : List Ob) : Bool := (l.getLast?.map freeO).getD false
/-- 15.1: is a heap right? -/
def checkH (l : List Ob) : Bool := decide (l.length ≤ 4096) && decide (wordsH l ≤ 65536) && !endsH l && l.all fun o => !freeW o
/-- The place of the first free one; behind all, if none is. -/
def firstH (f : Ob → Bool) (l : List Ob) : Nat := l.findIdx f
/-- 15.2: Put: what is told; the heap. -/
def putEH (l : List Ob) (x : Ob) : Int := if checkH l = false then 150 else if freeO x then 2 else if firstH freeO l = 4096 ∨ 65536 < wordsH l + x.ws.length then 4 else 0
def putLH (l : List Ob) (x : Ob) : List Ob := if firstH freeO l < l.length then l.set (firstH freeO l) x else l ++ [x]
/-- 15.2: Get, Word, Set, Free. -/
def getH (l : List Ob) (n : Int) : Option Ob := if checkH l = true ∧ 1 ≤ n ∧ n ≤ (l.length : Int) then (l[(n - 1).toNat]?).bind fun o => if freeO o then none else some o else none
def wordH (l : List Ob) (n k : Int) : Option Vl := (getH l n).bind fun o => if 0 ≤ k then o.ws[k.toNat]? else none
def setOb (o : Ob) (k : Nat) (v : Vl) : Ob := ⟨o.ty, o.ws.set k v⟩
def setH (l : List Ob) (n k : Int) (v : Vl) : Option (List Ob) := (wordH l n k).bind fun u => if u.kind = v.kind then (l[(n - 1).toNat]?).map fun o => l.set (n - 1).toNat (setOb o k.toNat v) else none
/-- Free ones at the end go. -/
def trimH : List Ob → List Ob
  | [] => []
  | o :: l => match trimH l with
    | [] => if freeO o then [] else [o]
    | x :: m => o :: x :: m
def freeH (l : List Ob) (n : Int) : Option (List Ob) := (getH l n).map fun _ => trimH (l.set (n - 1).toNat zeroO)
theorem trimH_keep : ∀ {l : List Ob}, endsH l = false → trimH l = l
  | [], _ => rfl
  | [o], h => by
    simp [endsH] at h
    simp [trimH, h]
  | o :: x :: l, h => by
    have ih : trimH (x :: l) = x :: l := trimH_keep (by simpa [endsH, List.getLast?_cons_cons] using h)
    rw [trimH, ih]
theorem trimH_append : ∀ (l : List Ob) (o : Ob), freeO o = true → trimH (l ++ [o]) = trimH l
  | [], o, h => by simp [trimH, h]
  | x :: l, o, h => by rw [List.cons_append, trimH, trimH_append l o h, trimH]
theorem trimH_take {l : List Ob} (h : endsH l = true) : trimH l = trimH (l.take (l.length - 1)) ∧ l.length ≠ 0 := by
  obtain ⟨o, ho, hf⟩ : ∃ o, l.getLast? = some o ∧ freeO o = true := by
    unfold endsH at h
    cases hl : l.getLast? with
    | none => simp [hl] at h
    | some o => exact ⟨o, rfl, by simpa [hl] using h⟩
  have hne : l ≠ [] := fun e => by rw [e] at ho; cases ho
  obtain ⟨m, rfl⟩ : ∃ m, l = m ++ [o] := by
    obtain ⟨h1, h2⟩ := List.getLast?_eq_some_iff.1 ho
    exact ⟨h1, h2⟩
  refine ⟨?_, by simp⟩
  rw [trimH_append _ _ hf]
  simp
/-- 15.3: Array. -/
def wordKindH (t : List UInt8) : Int := if t = [91, 73] ∨ t = [91, 66] then 1 else if t = [91, 74] then 2 else 4
def arrEH (t : List UInt8) (n : Int) : Int := if t = [] ∨ n < 0 then 2 else if 65536 < n then 4 else 0
/-- 15.1: Live. -/
def liveFrom : Nat → List Ob → List Int
  | _, [] => []
  | k, o :: l => if freeO o then liveFrom (k + 1) l else ((k : Int) + 1) :: liveFrom (k + 1) l
def liveH (l : List Ob) : List Int := liveFrom 0 l
theorem liveFrom_take : ∀ (l : List Ob) (j k : Nat) (o : Ob), l[k]? = some o → liveFrom j (l.take (k + 1)) = liveFrom j (l.take k) ++ (if freeO o then [] else [((j + k : Nat) : Int) + 1])
  | x :: l, j, 0, o, h => by
    simp at h
    subst h
    by_cases hf : freeO x <;> simp [liveFrom, hf]
  | x :: l, j, k + 1, o, h => by
    have ih := liveFrom_take l (j + 1) k o (by simpa using h)
    have e : j + 1 + k = j + (k + 1) := by omega
    rw [e] at ih
    by_cases hf : freeO x
    · simp only [List.take_succ_cons, liveFrom, hf, if_true, ih]
    · simp only [List.take_succ_cons, liveFrom, hf, ih, List.cons_append, Bool.false_eq_true, if_false]
end Go.Proofs.Ytgiohebbmjgefaa
