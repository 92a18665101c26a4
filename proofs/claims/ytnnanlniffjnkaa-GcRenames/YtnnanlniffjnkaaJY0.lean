/- Joined: HpA HpB HpC HpD. -/
import Derived.Test.YtnnanlniffjnkaaJX5
import Derived.Laws.OwnMore
import Derived.Shelf.Spec.SlicesInsert

/- Layer 15: values and objects as plain values, and in memory; what the document says of heaps. -/
namespace Go.Proofs.Ytnnanlniffjnkaa
open Go.RowKit
set_option linter.unusedVariables false
set_option maxRecDepth 100000

structure Vl where
  kind : Int
  n : Int
deriving DecidableEq
def vlc (v : Vl) : List Value := [.int .i64 v.kind, .int .i64 v.n]
structure Ob where
  ty : List UInt8
  ws : List Vl
/-- An object as it lies in memory: its words by their slice. -/
structure ObR where
  ty : List UInt8
  s : Sl
  ws : List Vl
def ObR.o (r : ObR) : Ob := ⟨r.ty, r.ws⟩
def obc (r : ObR) : List Value := [.string ⟨r.ty.toArray⟩, r.s.v]
theorem rkV : Rk vlc 47 23 2 16 (.agg #[.int .i64 0, .int .i64 0]) := ⟨fun _ => rfl, fun x u hu => by simp [vlc] at hu; rcases hu with rfl | rfl <;> rfl, by decide, by kernel_rfl, rfl, Try.underlying23⟩
theorem rkO : Rk obc 43 22 2 40 (.agg #[.string ⟨#[]⟩, .slice none 0 0]) := ⟨fun _ => rfl, fun x u hu => by simp [obc, Sl.v] at hu; rcases hu with rfl | rfl <;> rfl, by decide, by kernel_rfl, rfl, Try.underlying22⟩
def WsIn (w : World) (s : Sl) (ws : List Vl) : Prop := LIn 2 16 vlc (fun _ => True) w s ws
def HIn (w : World) (s : Sl) (rs : List ObR) : Prop := LIn 2 40 obc (fun r => WsIn w r.s r.ws) w s rs
theorem WsIn.below {w w' : World} {s : Sl} {ws : List Vl} (h : WsIn w s ws) (f : Below w.heap.size w w') : WsIn w' s ws := LIn.mono h f (fun _ h => h)
theorem HIn.below {w w' : World} {s : Sl} {rs : List ObR} (h : HIn w s rs) (f : Below w.heap.size w w') : HIn w' s rs := LIn.mono h f (fun _ h => h.below f)
theorem wsIn_nil (w : World) : WsIn w ⟨none, 0, 0⟩ [] := ⟨⟨rfl, .inl rfl⟩, by simp, by simp, fun _ => ⟨rfl, rfl⟩, by simp, fun _ h => by cases h⟩
theorem hIn_nil (w : World) : HIn w ⟨none, 0, 0⟩ [] := ⟨⟨rfl, .inl rfl⟩, by simp, by simp, fun _ => ⟨rfl, rfl⟩, by simp, fun _ h => by cases h⟩
theorem Orw.linR {α : Type} {cs : α → List Value} {e t : TypeId} {sz by_ : Nat} {z : Value} (R : Rk cs e t sz by_ z) {ok : α → Prop} {w : World} {base : Nat} {s : Sl} {l : List α} (h : Orw cs e sz w base s.v l) (hs : l.length * by_ ≤ 140737488351232) (he : ∀ x ∈ l, ok x) : LIn sz by_ cs ok w s l := by
  obtain ⟨a, n, c⟩ := s
  obtain ⟨a', c', e1, h1, h2, h3⟩ := h.form
  injection e1 with ea en ec
  subst ea en ec
  exact ⟨Orw.ls R h, h2, h3, h1, hs, he⟩
/-- A heap whose list, and whose words, are rows of one's own, each apart. -/
structure HOwn (w : World) (B : Nat) (v : Value) (rs : List ObR) : Prop where
  row : Orw obc 43 2 w B v rs
  each : ∀ r ∈ rs, Orw vlc 47 2 w B r.s.v r.ws
  apart : rs.Pairwise (fun a b => ∀ i, a.s.v.ownBlock = some i → b.s.v.ownBlock ≠ some i)
theorem orw_on {α : Type} {cs : α → List Value} {e : TypeId} {sz : Nat} {w w' : World} {B : Nat} {v : Value} {l : List α} (h : Orw cs e sz w B v l) (f : Below w.heap.size w w') : Orw cs e sz w' B v l := h.below fun k hk => f.block k (h.lt k hk).2
theorem HOwn.below {w w' : World} {B : Nat} {v : Value} {rs : List ObR} (h : HOwn w B v rs) (f : Below w.heap.size w w') : HOwn w' B v rs := ⟨orw_on h.row f, fun r hr => orw_on (h.each r hr) f, h.apart⟩
theorem HOwn.base {w : World} {B B' : Nat} {v : Value} {rs : List ObR} (h : HOwn w B v rs) (hb : B' ≤ B) : HOwn w B' v rs := ⟨h.row.base hb, fun r hr => (h.each r hr).base hb, h.apart⟩
/-- How many words all objects have. -/
def wordsH : List Ob → Nat
  | [] => 0
  | o :: l => o.ws.length + wordsH l
theorem wordsH_append : ∀ l m : List Ob, wordsH (l ++ m) = wordsH l + wordsH m
  | [], m => by simp [wordsH]
  | o :: l, m => by rw [List.cons_append, wordsH, wordsH, wordsH_append l m]; omega
theorem wordsH_mem : ∀ {l : List Ob} {o : Ob}, o ∈ l → o.ws.length ≤ wordsH l
  | x :: l, o, h => by
    rcases List.mem_cons.1 h with rfl | h
    · simp [wordsH]
    · have := wordsH_mem h
      simp only [wordsH]
      omega
theorem wordsH_take : ∀ (l : List Ob) (k : Nat), wordsH (l.take k) ≤ wordsH l
  | [], k => by simp [wordsH]
  | o :: l, 0 => by simp [wordsH]
  | o :: l, k + 1 => by
    have := wordsH_take l k
    simp only [List.take_succ_cons, wordsH]
    omega
theorem wordsH_succ {l : List Ob} {k : Nat} {o : Ob} (h : l[k]? = some o) : wordsH (l.take (k + 1)) = wordsH (l.take k) + o.ws.length := by
  rw [List.take_add_one, h, wordsH_append]
  simp [wordsH]
theorem HOwn.hin {w : World} {B : Nat} {s : Sl} {rs : List ObR} (h : HOwn w B s.v rs) (hn : rs.length ≤ 100000) (hw : wordsH (rs.map ObR.o) ≤ 1000000) : HIn w s rs :=
  h.row.linR rkO (by omega) fun r hr => (h.each r hr).linR rkV (by
    have := wordsH_mem (List.mem_map_of_mem (f := ObR.o) hr)
    simp only [ObR.o] at this
    omega) (fun _ _ => trivial)
def freeO (o : Ob) : Bool := o.ty.isEmpty
def freeW (o : Ob) : Bool := freeO o && decide (0 < o.ws.length)
def zeroO : Ob := ⟨[], []⟩
/-- Is the last one free? -/
def endsH (l : List Ob) : Bool := (l.getLast?.map freeO).getD false
/-- 15.1: is a heap right? -/
def checkH (l : List Ob) : Bool := decide (l.length ≤ 4096) && decide (wordsH l ≤ 65536) && !endsH l && l.all fun o => !freeW o
/-- The place of the first free one; behind all, if none is. -/
def firstH (f : Ob → Bool) (l : List Ob) : Nat := l.findIdx f
/-- 15.2: Put: what is told; the heap. -/
def putEH (l : List Ob) (x : Ob) : Int := if checkH l = false then 150 else if freeO x then 2 else if firstH freeO l = 4096 ∨ 65536 < wordsH l + x.ws.length then 4 else 0
def putLH (l : List Ob) (x : Ob) : List Ob := if firstH freeO l < l.length then l.set (firstH freeO l) x else l ++ [x]
/-- 15.2: Get, Word, Set, Free. -/
def getH (l : List Ob) (n : Int) : Option Ob := if checkH l = true ∧ 1 ≤ n ∧ n ≤ (l.length : Int) then (l[(n - 1).toNat]?).bind fun o => if freeO o then none else some o else none
def wordH (l : List Ob) (n k : Int) : Option Vl := (getH l n).bind fun o => if 0 ≤ k then o.ws[k.toNat]? else none
def setOb (o : Ob) (k : Nat) (v : Vl) : Ob := ⟨o.ty, o.ws.set k v⟩
def setH (l : List Ob) (n k : Int) (v : Vl) : Option (List Ob) := (wordH l n k).bind fun u => if u.kind = v.kind then (l[(n - 1).toNat]?).map fun o => l.set (n - 1).toNat (setOb o k.toNat v) else none
/-- Free ones at the end go. -/
def trimH : List Ob → List Ob
  | [] => []
  | o :: l => match trimH l with
    | [] => if freeO o then [] else [o]
    | x :: m => o :: x :: m
def freeH (l : List Ob) (n : Int) : Option (List Ob) := (getH l n).map fun _ => trimH (l.set (n - 1).toNat zeroO)
theorem trimH_keep : ∀ {l : List Ob}, endsH l = false → trimH l = l
  | [], _ => rfl
  | [o], h => by
    simp [endsH] at h
    simp [trimH, h]
  | o :: x :: l, h => by
    have ih : trimH (x :: l) = x :: l := trimH_keep (by simpa [endsH, List.getLast?_cons_cons] using h)
    rw [trimH, ih]
theorem trimH_append : ∀ (l : List Ob) (o : Ob), freeO o = true → trimH (l ++ [o]) = trimH l
  | [], o, h => by simp [trimH, h]
  | x :: l, o, h => by rw [List.cons_append, trimH, trimH_append l o h, trimH]
theorem trimH_take {l : List Ob} (h : endsH l = true) : trimH l = trimH (l.take (l.length - 1)) ∧ l.length ≠ 0 := by
  obtain ⟨o, ho, hf⟩ : ∃ o, l.getLast? = some o ∧ freeO o = true := by
    unfold endsH at h
    cases hl : l.getLast? with
    | none => simp [hl] at h
    | some o => exact ⟨o, rfl, by simpa [hl] using h⟩
  have hne : l ≠ [] := fun e => by rw [e] at ho; cases ho
  obtain ⟨m, rfl⟩ : ∃ m, l = m ++ [o] := by
    obtain ⟨h1, h2⟩ := List.getLast?_eq_some_iff.1 ho
    exact ⟨h1, h2⟩
  refine ⟨?_, by simp⟩
  rw [trimH_append _ _ hf]
  simp
/-- 15.3: Array. -/
def wordKindH (t : List UInt8) : Int := if t = [91, 73] ∨ t = [91, 66] then 1 else if t = [91, 74] then 2 else 4
def arrEH (t : List UInt8) (n : Int) : Int := if t = [] ∨ n < 0 then 2 else if 65536 < n then 4 else 0
/-- 15.1: Live. -/
def liveFrom : Nat → List Ob → List Int
  | _, [] => []
  | k, o :: l => if freeO o then liveFrom (k + 1) l else ((k : Int) + 1) :: liveFrom (k + 1) l
def liveH (l : List Ob) : List Int := liveFrom 0 l
theorem liveFrom_take : ∀ (l : List Ob) (j k : Nat) (o : Ob), l[k]? = some o → liveFrom j (l.take (k + 1)) = liveFrom j (l.take k) ++ (if freeO o then [] else [((j + k : Nat) : Int) + 1])
  | x :: l, j, 0, o, h => by
    simp at h
    subst h
    by_cases hf : freeO x <;> simp [liveFrom, hf]
  | x :: l, j, k + 1, o, h => by
    have ih := liveFrom_take l (j + 1) k o (by simpa using h)
    have e : j + 1 + k = j + (k + 1) := by omega
    rw [e] at ih
    by_cases hf : freeO x
    · simp only [List.take_succ_cons, liveFrom, hf, if_true, ih]
    · simp only [List.take_succ_cons, liveFrom, hf, ih, List.cons_append, Bool.false_eq_true, if_false]
end Go.Proofs.Ytnnanlniffjnkaa

/- Layer 15, the landed code: isFree, isFreeWithWords, member, endsFree. -/
namespace Go.Proofs.Ytnnanlniffjnkaa
open Go.RowKit
set_option linter.unusedVariables false
set_option maxRecDepth 100000

theorem ty_nil (t : List UInt8) : (⟨t.toArray⟩ : ByteArray).toList.isEmpty = t.isEmpty := by
  cases t <;> simp
theorem ty_eq (t u : List UInt8) : (⟨t.toArray⟩ : ByteArray).toList = t := by simp
set_option maxHeartbeats 400000 in
theorem isFree_any (w : World) (t : List UInt8) (s : Sl) :
    Calls Try.prog 46 #[.agg #[.string ⟨t.toArray⟩, s.v]] w fun e w' => e = .returned (.bool t.isEmpty) ∧ Below w.heap.size w w' := by
  obtain ⟨a, n, c⟩ := s
  unfold Sl.v
  simp only
  have h1 := ty_nil t
  generalize (⟨t.toArray⟩ : ByteArray) = st at *
  go_enter Try.func46, Try.ntmps46
  go_wp2
  go_ret
  exact ⟨by simp, (Below.refl _ _).alloc (Nat.le_refl _) _⟩
set_option maxHeartbeats 400000 in
theorem isFreeW_any (w : World) (t : List UInt8) (s : Sl) :
    Calls Try.prog 50 #[.agg #[.string ⟨t.toArray⟩, s.v]] w fun e w' => e = .returned (.bool (t.isEmpty && decide (0 < s.n))) ∧ Below w.heap.size w w' := by
  obtain ⟨a, n, c⟩ := s
  have HF := hide (fun W => isFree_any W t ⟨a, n, c⟩)
  unfold Sl.v at *
  simp only at HF ⊢
  generalize (⟨t.toArray⟩ : ByteArray) = st at *
  go_enter Try.func50, Try.ntmps50
  go_wp2_with fail
  refine (unhide HF _).mono ?_
  rintro e w1 ⟨rfl, f1⟩
  have HB := hide (((Below.refl _ _).alloc (Nat.le_refl _) _).trans (f1.mono (by simp)))
  have k0 : w1.heap[w.heap.size]? = some (.cells #[.string st, .slice a n c] 43 (0, 0)) := (f1.block _ (by simp)).trans (heap_alloc_last _ _)
  have k1 := bx_cell k0 1 _ rfl
  clear f1 k0
  cases ht : t.isEmpty
  · go_wp2
    go_ret
    exact ⟨by simp at ht ⊢; simp [ht], unhide HB⟩
  · go_wp2
    go_ret
    exact ⟨by simp at ht ⊢; simp [ht], unhide HB⟩
theorem memb_row {α : Type} {sz by_ : Nat} {cs : α → List Value} {ok : α → Prop} {w : World} {s : Sl} {l : List α} (h : LIn sz by_ cs ok w s l) {k : Nat} {x : α} (hx : l[k]? = some x) : ∃ b o, s.a = some ⟨b, o, none⟩ ∧ ∀ {w' : World}, Below w.heap.size w w' → RowAt w' b (o + k * sz) (cs x) := by
  have hn : s.n ≠ 0 := by
    have := h.ls.1
    have := (List.getElem?_eq_some_iff.1 hx).1
    omega
  obtain ⟨b, o, e, q⟩ := Ls.row h.ls (w' := w) hn
  exact ⟨b, o, e, fun f => q f k x hx⟩
theorem res_ct {fn : Func} {p u : Tmp} {ty : TypeId} (h : fn.results = #[.cell p ty, .tmp u]) (tmps : Array Value) (w : World) (g : Nat) (t : TypeId) (cs : Array Value) (fr : Nat × Nat) (fs : Array Field)
    (hp : tmps.getD p undef = .pointer (some ⟨g, 0, none⟩)) (hg : w.heap[g]? = some (.cells cs t fr))
    (hu : Try.prog.underlying ty = some (.struct fs)) (hi : (Try.prog.info? ty).map (·.size) = some cs.size) :
    (results fn tmps).run Try.prog w = .ok (.tuple #[.agg cs, tmps.getD u undef]) w := by
  have hp' : tmps[p]?.getD undef = .pointer (some ⟨g, 0, none⟩) := by simpa using hp
  simp [results, h, hp', asAddr, run_loadVar_row w g t ty cs fr _ hg hu rfl hi, Result.andThen]
theorem sizeOb : (Try.prog.info? 43).map (·.size) = some 2 := by kernel_rfl
theorem sizeVl : (Try.prog.info? 47).map (·.size) = some 2 := by kernel_rfl
theorem res_ot {fn : Func} {p u : Tmp} (h : fn.results = #[.cell p 43, .tmp u]) (W : World) (r : Nat) (x y : Value) (hb : W.heap[r]? = some (.cells #[x, y] 43 (0, 0))) (tmps : Array Value) (hp : tmps.getD p undef = .pointer (some ⟨r, 0, none⟩)) :
    (results fn tmps).run Try.prog W = .ok (.tuple #[.agg #[x, y], tmps.getD u undef]) W := res_ct h _ _ r 43 _ (0, 0) _ hp hb Try.underlying43 sizeOb
theorem res_o {fn : Func} {p : Tmp} (h : fn.results = #[.cell p 43]) (W : World) (r : Nat) (x y : Value) (hb : W.heap[r]? = some (.cells #[x, y] 43 (0, 0))) (tmps : Array Value) (hp : tmps.getD p undef = .pointer (some ⟨r, 0, none⟩)) :
    (results fn tmps).run Try.prog W = .ok (.agg #[x, y]) W := results_cell_row h _ _ r 43 _ (0, 0) _ hp hb Try.underlying43 rfl sizeOb
theorem res_vt {fn : Func} {p u : Tmp} (h : fn.results = #[.cell p 47, .tmp u]) (W : World) (r : Nat) (x y : Value) (hb : W.heap[r]? = some (.cells #[x, y] 47 (0, 0))) (tmps : Array Value) (hp : tmps.getD p undef = .pointer (some ⟨r, 0, none⟩)) :
    (results fn tmps).run Try.prog W = .ok (.tuple #[.agg #[x, y], tmps.getD u undef]) W := res_ct h _ _ r 47 _ (0, 0) _ hp hb Try.underlying47 sizeVl
theorem res_v {fn : Func} {p : Tmp} (h : fn.results = #[.cell p 47]) (W : World) (r : Nat) (x y : Value) (hb : W.heap[r]? = some (.cells #[x, y] 47 (0, 0))) (tmps : Array Value) (hp : tmps.getD p undef = .pointer (some ⟨r, 0, none⟩)) :
    (results fn tmps).run Try.prog W = .ok (.agg #[x, y]) W := results_cell_row h _ _ r 47 _ (0, 0) _ hp hb Try.underlying47 rfl sizeVl
def memO (w : World) (n : Nat) (rs : List ObR) (k : Int) (e : Ending) (w' : World) : Prop := Below w.heap.size w w' ∧ ((0 ≤ k ∧ k < (n : Int) ∧ ∃ r, rs[k.toNat]? = some r ∧ e = .returned (.tuple #[.agg #[.string ⟨r.ty.toArray⟩, r.s.v], .int .i64 0])) ∨ (¬ (0 ≤ k ∧ k < (n : Int)) ∧ e = .returned (.tuple #[.agg #[.string ⟨#[]⟩, .slice none 0 0], .int .i64 150])))
set_option maxHeartbeats 800000 in
theorem memberO_any (w : World) (s : Sl) (rs : List ObR) (h : HIn w s rs) (k : Int) (hk : fitI k) :
    Calls Try.prog 52 #[s.v, .int .i64 k] w (memO w s.n rs k) := by
  obtain ⟨a, n, c⟩ := s
  have hln := h.ls.1
  have hsm := h.small
  simp only at hln hsm
  have r0 : (w.alloc (.cells #[.string ⟨#[]⟩, .slice none 0 0] 43)).heap[w.heap.size]? = some (.cells #[.string ⟨#[]⟩, .slice none 0 0] 43 (0, 0)) := heap_alloc_last _ _
  have j0 := bx_cell r0 0 _ rfl
  have j1 := bx_cell r0 1 _ rfl
  have y0 := bx_thaw r0 0
  have y1 := bx_thaw r0 1
  by_cases hin : 0 ≤ k ∧ k < (n : Int)
  · obtain ⟨h0, h1⟩ := hin
    obtain ⟨j, rfl⟩ : ∃ j : Nat, k = (j : Int) := ⟨k.toNat, by omega⟩
    obtain ⟨x, hx⟩ : ∃ x, rs[j]? = some x := ⟨_, List.getElem?_eq_getElem (by omega)⟩
    obtain ⟨b, o, ea, q⟩ := memb_row h hx
    simp only at ea
    subst ea
    have q1 := q ((Below.refl w.heap.size w).alloc (Nat.le_refl _) (.cells #[.string ⟨#[]⟩, .slice none 0 0] 43))
    obtain ⟨ty, ⟨sa, sn, sc⟩, ws⟩ := x
    have d0 := q1.zero
    have d1 := q1 1 _ rfl
    simp only [Sl.v] at d0 d1 ⊢
    have HX : Hid (rs[j]? = some _) := hide hx
    have hlt0 : ¬ ((j : Int) < 0) := by omega
    clear h q q1 hx hk r0
    generalize hst : (⟨ty.toArray⟩ : ByteArray) = st at *
    go_enter Try.func52, Try.ntmps52
    go_wp2
    refine bodyPost_ret (res_ot Try.results52 _ w.heap.size _ _ (heap_alloc_last _ _) _ rfl) rfl ⟨(Below.refl _ _).alloc (Nat.le_refl _) _, ?_⟩
    refine .inl ⟨h0, h1, _, unhide HX, ?_⟩
    simp only [← hst]
    rfl
  · unfold Sl.v
    simp only
    clear h r0
    go_enter Try.func52, Try.ntmps52
    by_cases h0 : k < 0
    · go_wp2
      refine bodyPost_ret (res_ot Try.results52 _ w.heap.size _ _ ?_ _ rfl) rfl ⟨?_, .inr ⟨hin, rfl⟩⟩
      · exact (heap_alloc_old _ _ (by simp)).trans (heap_alloc_last _ _)
      · exact ((Below.refl _ _).alloc (Nat.le_refl _) _).alloc (by simp) _
    · have h1 : (n : Int) ≤ k := by omega
      go_wp2
      refine bodyPost_ret (res_ot Try.results52 _ w.heap.size _ _ ?_ _ rfl) rfl ⟨?_, .inr ⟨hin, rfl⟩⟩
      · exact (heap_alloc_old _ _ (by simp)).trans (heap_alloc_last _ _)
      · exact ((Below.refl _ _).alloc (Nat.le_refl _) _).alloc (by simp) _
def memV (w : World) (n : Nat) (rs : List Vl) (k : Int) (e : Ending) (w' : World) : Prop := Below w.heap.size w w' ∧ ((0 ≤ k ∧ k < (n : Int) ∧ ∃ r, rs[k.toNat]? = some r ∧ e = .returned (.tuple #[.agg #[.int .i64 r.kind, .int .i64 r.n], .int .i64 0])) ∨ (¬ (0 ≤ k ∧ k < (n : Int)) ∧ e = .returned (.tuple #[.agg #[.int .i64 0, .int .i64 0], .int .i64 150])))
/-- A struct of two cells that stands in memory. -/
theorem stands2 {t : TypeId} (w1 : World) (x y : Value) : ∀ (W : World), Below (w1.alloc (.cells #[x, y] t)).heap.size (w1.alloc (.cells #[x, y] t)) W → W.cell? ⟨w1.heap.size, 0, none⟩ = some x ∧ W.cell? ⟨w1.heap.size, 1, none⟩ = some y := fun W f => by
  have h := (f.block w1.heap.size (by simp)).trans (heap_alloc_last w1 (.cells #[x, y] t))
  exact ⟨bx_cell h 0 _ rfl, bx_cell h 1 _ rfl⟩
end Go.Proofs.Ytnnanlniffjnkaa

/- Layer 15, the landed code: endsFree, first (written by mk/mkhpc.py). -/
namespace Go.Proofs.Ytnnanlniffjnkaa
open Go.RowKit
set_option linter.unusedVariables false
set_option maxRecDepth 100000

theorem map_get {α β : Type} {f : α → β} {l : List α} {k : Nat} {x : α} (h : l[k]? = some x) : (l.map f)[k]? = some (f x) := by rw [List.getElem?_map, h]; rfl
theorem ends_at {rs : List ObR} {r : ObR} (h : rs[rs.length - 1]? = some r) : endsH (rs.map ObR.o) = r.ty.isEmpty := by
  unfold endsH
  rw [List.getLast?_eq_getElem?, List.length_map, map_get h]
  rfl
theorem ends_nil {rs : List ObR} (h : rs.length = 0) : endsH (rs.map ObR.o) = false := by
  rw [List.eq_nil_of_length_eq_zero h]
  rfl
set_option maxHeartbeats 800000 in
theorem endsFree_any (w : World) (s : Sl) (rs : List ObR) (h : HIn w s rs) :
    Calls Try.prog 48 #[s.v] w fun e w' => e = .returned (.bool (endsH (rs.map ObR.o))) ∧ Below w.heap.size w w' := by
  obtain ⟨a, n, c⟩ := s
  have hln := h.ls.1
  have hsm := h.small
  simp only at hln hsm
  have HM := hide (memberO_any w ⟨a, n, c⟩ rs h ((n : Int) - 1) (by unfold fitI; omega))
  have HF := hide (fun W t s => isFree_any W t s)
  have hE0 : n = 0 → endsH (rs.map ObR.o) = false := fun e => ends_nil (by omega)
  have hE1 : ∀ r, rs[n - 1]? = some r → endsH (rs.map ObR.o) = r.ty.isEmpty := fun r hr => ends_at (by rw [hln]; exact hr)
  generalize endsH (rs.map ObR.o) = E at *
  have HE0 := hide hE0
  have HE1 := hide hE1
  clear h hE0 hE1
  have hwrap : IntKind.i64.wrap ((n : Int) - 1) = (n : Int) - 1 := by rw [IntKind.wrap_i64]; omega
  unfold Sl.v at *
  simp only at HM ⊢
  go_enter Try.func48, Try.ntmps48
  go_wp2_with fail
  refine (unhide HM).mono ?_
  rintro e w1 ⟨f1, ⟨h0, h1, r, hr, rfl⟩ | ⟨hno, rfl⟩⟩
  · obtain ⟨ty, ⟨sa, sn, sc⟩, ws⟩ := r
    have hj : ((n : Int) - 1).toNat = n - 1 := by omega
    rw [hj] at hr
    have HT := hide (unhide HE1 _ hr)
    simp only at HT
    have HC := fun W => unhide HF W ty ⟨sa, sn, sc⟩
    have HC := hide HC
    have FB := hide f1
    clear f1 hr HM HF HE0 HE1
    unfold Sl.v at *
    simp only at HC
    generalize (⟨ty.toArray⟩ : ByteArray) = st at *
    go_wp2_with fail
    refine (unhide HC _).mono ?_
    rintro e w2 ⟨rfl, f2⟩
    have F2 := hide ((unhide FB).trans ((((Below.refl _ _).alloc (Nat.le_refl _) _).trans (f2.mono (by simp))).mono (unhide FB).size))
    clear f2
    go_wp2
    go_ret
    exact ⟨by rw [unhide HT]; rfl, unhide F2⟩
  · have hn0 : n = 0 := by omega
    have HE := hide (unhide HE0 hn0)
    have FB := hide f1
    clear f1 HM HF HE0 HE1 hno
    go_wp2
    go_ret
    exact ⟨by rw [unhide HE]; rfl, (unhide FB).trans (((Below.refl _ _).alloc (Nat.le_refl _) _).mono (unhide FB).size)⟩
set_option maxHeartbeats 800000 in
theorem firstF_any (w : World) (s : Sl) (rs : List ObR) (h : HIn w s rs) :
    Calls Try.prog 49 #[s.v, .func (.func 46) #[] #[]] w fun e w' => e = .returned (.int .i64 (firstH freeO (rs.map ObR.o) : Nat)) ∧ Below w.heap.size w w' := by
  obtain ⟨a, n, c⟩ := s
  have hln := h.ls.1
  have hsm := h.small
  simp only at hln hsm
  have HI := hide h
  have HF := hide (fun W t s => isFree_any W t s)
  have HK : Hid (∀ k r, rs[k]? = some r → freeO r.o = true → (∀ j r', j < k → rs[j]? = some r' → freeO r'.o = false) → firstH freeO (rs.map ObR.o) = k) := hide fun k r hr hp hf => by
    have hk := (List.getElem?_eq_some_iff.1 hr).1
    unfold firstH
    rw [List.findIdx_eq (by rw [List.length_map]; exact hk)]
    refine ⟨by rw [List.getElem_map, (List.getElem?_eq_some_iff.1 hr).2]; exact hp, fun j hj => ?_⟩
    rw [List.getElem_map]
    exact hf j _ hj (List.getElem?_eq_getElem (by omega))
  have HN : Hid ((∀ j r', j < n → rs[j]? = some r' → freeO r'.o = false) → firstH freeO (rs.map ObR.o) = n) := hide fun hf => by
    unfold firstH
    rw [← hln, ← List.length_map (f := ObR.o), List.findIdx_eq_length]
    intro x hx
    obtain ⟨r, hr, rfl⟩ := List.mem_map.1 hx
    obtain ⟨j, hj⟩ := List.mem_iff_getElem?.1 hr
    exact hf j r (by have := (List.getElem?_eq_some_iff.1 hj).1; omega) hj
  generalize firstH freeO (rs.map ObR.o) = E at *
  clear h
  unfold Sl.v at *
  simp only
  go_enter Try.func49, Try.ntmps49
  go_wp2
  go_loopw [9] (fun i wr => ∃ k : Nat, k ≤ n ∧ i = .int .i64 k ∧ Below w.heap.size w wr ∧ ∀ j r', j < k → rs[j]? = some r' → freeO r'.o = false) (fun i _ => n - (intOf i).toNat)
  case atStart => exact ⟨0, by omega, rfl, Below.refl _ _, fun j r' hj => absurd hj (by omega)⟩
  case round =>
    obtain ⟨k, hk, rfl, hR, hF⟩ := hrel
    by_cases hlt : k < n
    · have hlt1 : (k : Int) < (n : Int) := by omega
      have hk0 : (0 : Int) ≤ (k : Int) := by omega
      obtain ⟨x, hx⟩ : ∃ x, rs[k]? = some x := ⟨_, List.getElem?_eq_getElem (by omega)⟩
      obtain ⟨b, o, ea, q⟩ := memb_row (unhide HI) hx
      simp only at ea
      subst ea
      have q1 := q hR
      obtain ⟨ty, ⟨sa, sn, sc⟩, ws⟩ := x
      have d0 := q1.zero
      have d1 := q1 1 _ rfl
      have HC := fun W => unhide HF W ty ⟨sa, sn, sc⟩
      have HC := hide HC
      have HR := hide hR
      have HX := hide hx
      have HG := hide hF
      skip
      clear q q1 hx hR hF HF
      unfold Sl.v at *
      simp only at HC d0 d1
      have HK1 := hide (unhide HK k _ (unhide HX))
      simp only [ObR.o] at HK1
      generalize hst : (⟨ty.toArray⟩ : ByteArray) = st at *
      go_wp2_with fail
      refine (unhide HC _).mono ?_
      rintro e w2 ⟨rfl, f2⟩
      have F2 := hide ((unhide HR).trans ((((Below.refl _ _).alloc (Nat.le_refl _) _).trans (f2.mono (by simp))).mono (unhide HR).size))
      clear f2
      cases ht : ty.isEmpty
      · go_wp2
        go_roundw
        case rel =>
          refine ⟨k + 1, by omega, by go_num, unhide F2, fun j r' hj hr' => ?_⟩
          by_cases hjk : j < k
          · exact unhide HG j r' hjk hr'
          · obtain rfl : j = k := by omega
            rw [unhide HX] at hr'
            injection hr' with hr'
            subst hr'
            exact ht
        case measure => simp [intOf]; omega
      · go_wp2
        go_ret
        refine ⟨?_, unhide F2⟩
        have hp : freeO (ObR.o ⟨ty, ⟨sa, sn, sc⟩, ws⟩) = true := by
          exact ht
        rw [unhide HK1 hp (unhide HG)]
        rfl
    · obtain rfl : k = n := by omega
      have HR := hide hR
      have HE := hide (unhide HN hF)
      clear hR hF
      go_wp2
      go_ret
      exact ⟨by rw [unhide HE]; rfl, unhide HR⟩
set_option maxHeartbeats 800000 in
theorem firstW_any (w : World) (s : Sl) (rs : List ObR) (h : HIn w s rs) :
    Calls Try.prog 49 #[s.v, .func (.func 50) #[] #[]] w fun e w' => e = .returned (.int .i64 (firstH freeW (rs.map ObR.o) : Nat)) ∧ Below w.heap.size w w' := by
  obtain ⟨a, n, c⟩ := s
  have hln := h.ls.1
  have hsm := h.small
  simp only at hln hsm
  have HI := hide h
  have HF := hide (fun W t s => isFreeW_any W t s)
  have HK : Hid (∀ k r, rs[k]? = some r → freeW r.o = true → (∀ j r', j < k → rs[j]? = some r' → freeW r'.o = false) → firstH freeW (rs.map ObR.o) = k) := hide fun k r hr hp hf => by
    have hk := (List.getElem?_eq_some_iff.1 hr).1
    unfold firstH
    rw [List.findIdx_eq (by rw [List.length_map]; exact hk)]
    refine ⟨by rw [List.getElem_map, (List.getElem?_eq_some_iff.1 hr).2]; exact hp, fun j hj => ?_⟩
    rw [List.getElem_map]
    exact hf j _ hj (List.getElem?_eq_getElem (by omega))
  have HN : Hid ((∀ j r', j < n → rs[j]? = some r' → freeW r'.o = false) → firstH freeW (rs.map ObR.o) = n) := hide fun hf => by
    unfold firstH
    rw [← hln, ← List.length_map (f := ObR.o), List.findIdx_eq_length]
    intro x hx
    obtain ⟨r, hr, rfl⟩ := List.mem_map.1 hx
    obtain ⟨j, hj⟩ := List.mem_iff_getElem?.1 hr
    exact hf j r (by have := (List.getElem?_eq_some_iff.1 hj).1; omega) hj
  generalize firstH freeW (rs.map ObR.o) = E at *
  clear h
  unfold Sl.v at *
  simp only
  go_enter Try.func49, Try.ntmps49
  go_wp2
  go_loopw [9] (fun i wr => ∃ k : Nat, k ≤ n ∧ i = .int .i64 k ∧ Below w.heap.size w wr ∧ ∀ j r', j < k → rs[j]? = some r' → freeW r'.o = false) (fun i _ => n - (intOf i).toNat)
  case atStart => exact ⟨0, by omega, rfl, Below.refl _ _, fun j r' hj => absurd hj (by omega)⟩
  case round =>
    obtain ⟨k, hk, rfl, hR, hF⟩ := hrel
    by_cases hlt : k < n
    · have hlt1 : (k : Int) < (n : Int) := by omega
      have hk0 : (0 : Int) ≤ (k : Int) := by omega
      obtain ⟨x, hx⟩ : ∃ x, rs[k]? = some x := ⟨_, List.getElem?_eq_getElem (by omega)⟩
      obtain ⟨b, o, ea, q⟩ := memb_row (unhide HI) hx
      simp only at ea
      subst ea
      have q1 := q hR
      obtain ⟨ty, ⟨sa, sn, sc⟩, ws⟩ := x
      have d0 := q1.zero
      have d1 := q1 1 _ rfl
      have HC := fun W => unhide HF W ty ⟨sa, sn, sc⟩
      have HC := hide HC
      have HR := hide hR
      have HX := hide hx
      have HG := hide hF
      have hwl := (unhide HI).each _ (List.mem_of_getElem? hx) |>.ls.1
      clear q q1 hx hR hF HF
      unfold Sl.v at *
      simp only at HC d0 d1
      have HK1 := hide (unhide HK k _ (unhide HX))
      simp only [ObR.o] at HK1
      generalize hst : (⟨ty.toArray⟩ : ByteArray) = st at *
      go_wp2_with fail
      refine (unhide HC _).mono ?_
      rintro e w2 ⟨rfl, f2⟩
      have F2 := hide ((unhide HR).trans ((((Below.refl _ _).alloc (Nat.le_refl _) _).trans (f2.mono (by simp))).mono (unhide HR).size))
      clear f2
      cases ht : (ty.isEmpty && decide (0 < sn))
      · go_wp2
        go_roundw
        case rel =>
          refine ⟨k + 1, by omega, by go_num, unhide F2, fun j r' hj hr' => ?_⟩
          by_cases hjk : j < k
          · exact unhide HG j r' hjk hr'
          · obtain rfl : j = k := by omega
            rw [unhide HX] at hr'
            injection hr' with hr'
            subst hr'
            simpa [freeW, ObR.o, freeO, hwl] using ht
        case measure => simp [intOf]; omega
      · go_wp2
        go_ret
        refine ⟨?_, unhide F2⟩
        have hp : freeW (ObR.o ⟨ty, ⟨sa, sn, sc⟩, ws⟩) = true := by
          simpa [freeW, ObR.o, freeO, hwl] using ht
        rw [unhide HK1 hp (unhide HG)]
        rfl
    · obtain rfl : k = n := by omega
      have HR := hide hR
      have HE := hide (unhide HN hF)
      clear hR hF
      go_wp2
      go_ret
      exact ⟨by rw [unhide HE]; rfl, unhide HR⟩
end Go.Proofs.Ytnnanlniffjnkaa

/- Layer 15, the landed code: own of values, of objects (written by mk/mkhpd.py). -/
namespace Go.Proofs.Ytnnanlniffjnkaa
open Go.RowKit
set_option linter.unusedVariables false
set_option maxRecDepth 100000

def vl0 : Vl := ⟨0, 0⟩
def ob0 : ObR := ⟨[], ⟨none, 0, 0⟩, []⟩
theorem made_two {α : Type} {cs : α → List Value} {x0 : α} {a b : Value} (hl : ∀ x, (cs x).length = 2) (h : cs x0 = [a, b]) (n : Nat) : (madeCells #[a, b] (n * 2)).toList = (List.replicate n x0).flatMap cs := by
  apply List.ext_getElem?
  intro j
  have hlen : ((List.replicate n x0).flatMap cs).length = n * 2 := by rw [flatR_len hl, List.length_replicate]
  by_cases hj : j < n * 2
  · have hk : j / 2 < n := by omega
    have h1 : (List.replicate n x0)[j / 2]? = some x0 := by rw [List.getElem?_replicate, if_pos hk]
    have hm : (madeCells #[a, b] (n * 2)).toList[j]? = some ((#[a, b] : Array Value)[j % 2]!) := by simp [madeCells, hj]
    rw [hm]
    rcases Nat.mod_two_eq_zero_or_one j with e | e
    · have h2 := flatR_at (cs := cs) (sz := 2) hl (List.replicate n x0) (j / 2) x0 h1 0 a (by rw [h]; rfl)
      rw [show j / 2 * 2 + 0 = j by omega] at h2
      rw [h2, e]; rfl
    · have h2 := flatR_at (cs := cs) (sz := 2) hl (List.replicate n x0) (j / 2) x0 h1 1 b (by rw [h]; rfl)
      rw [show j / 2 * 2 + 1 = j by omega] at h2
      rw [h2, e]; rfl
  · rw [List.getElem?_eq_none (by simp [madeCells]; omega), List.getElem?_eq_none (by omega)]
theorem make_two {α : Type} {cs : α → List Value} {e t : TypeId} {by_ : Nat} {a b : Value} (R : Rk cs e t 2 by_ (.agg #[a, b])) {x0 : α} (h0 : cs x0 = [a, b]) (hca : (Value.agg #[a, b]).cells = #[a, b]) (w : World) (base n : Nat) (hn : by_ * n ≤ 281474976710656) (hm : n ≤ 9223372036854775807) (hb : base ≤ w.heap.size) :
    ∃ w', (Instr.makeSlice t (.int .i64 (n : Int)) (.int .i64 (n : Int))).run Try.prog w = .ok (.slice (some ⟨w.heap.size, 0, none⟩) n n) w' ∧ Orw cs e 2 w' base (.slice (some ⟨w.heap.size, 0, none⟩) n n) (List.replicate n x0) ∧ Below w.heap.size w w' ∧ w.heap.size < w'.heap.size := by
  obtain ⟨i0, hi, hz0, hz1, hz2⟩ := info_parts R.info
  obtain ⟨w', h1, h2, h3⟩ := run_make_full (P := Try.prog) w base t e i0 (.agg #[a, b]) 2 R.sl hi hz0 hz1 .i64 .i64 n (by rw [hz2]; exact hn) (by unfold maxLen; exact hm) hb
  have o1 : Orw cs e 2 w' base (.slice (some ⟨w.heap.size, 0, none⟩) n n) (List.replicate n x0) := by
    unfold Orw
    rw [List.length_replicate, ← made_two R.len h0]
    rw [hca] at h2
    exact h2
  exact ⟨w', h1, o1, (Below.refl _ _).grown h3 (Nat.le_refl _) (fun k hk => by cases hk), (o1.lt _ rfl).2⟩
/-- copy into a new row: what it holds then. -/
theorem copy_two {α : Type} {cs : α → List Value} {e t ty : TypeId} {by_ : Nat} {z : Value} (R : Rk cs e t 2 by_ z) {w : World} {B g n m c : Nat} {a : Option Addr} {l L : List α} (hL : Ls 2 cs w a n l) (hnil : a = none → n = 0 ∧ c = 0) (hO : Orw cs e 2 w B (.slice (some ⟨g, 0, none⟩) m m) L) (hnm : n ≤ m) :
    ∃ w', (Builtin.copy_ #[t, t] ty #[.slice (some ⟨g, 0, none⟩) m m, .slice a n c]).run Try.prog w = .ok (goInt (n : Nat)) w' ∧ Orw cs e 2 w' B (.slice (some ⟨g, 0, none⟩) m m) (l ++ L.drop n) ∧ (∀ W, Below B W w → Below B W w') ∧ ∀ k, k ≠ g → w'.heap[k]? = w.heap[k]? := by
  have hLl : L.length = m := by obtain ⟨_, _, e', _⟩ := hO.form; injection e' with _ e2 _; exact e2.symm
  have hll := hL.1
  obtain ⟨i0, hi, hz0, hz1, hz2⟩ := info_parts R.info
  have hmin : Nat.min n m = n := Nat.min_eq_left hnm
  cases a with
  | none =>
    obtain ⟨rfl, rfl⟩ := hnil rfl
    have h0 : l = [] := List.eq_nil_of_length_eq_zero hll
    subst h0
    refine ⟨w, ?_, by simpa using hO, fun W h => h, fun k _ => rfl⟩
    simp [Builtin.copy_, run_underlying R.sl, Builtin.lenOf, Builtin.firstCells, sizeOf, typeInfo, hi]
    rfl
  | some ad =>
    have hsrc : ∀ j u, (l.flatMap cs)[j]? = some u → w.cell? (ad.add j) = some u := by
      rcases hL.2 with h0 | ⟨b, o, e1, _, hE⟩
      · have : l = [] := List.eq_nil_of_length_eq_zero (by rw [hL.1]; exact h0)
        subst this
        intro j u hu
        simp at hu
      · intro j u hu
        injection e1 with e1
        subst e1
        obtain ⟨k, y, q, h1, h2, rfl⟩ := flatR_of R.len R.pos l j u hu
        have := hE k y h1 q u h2
        rw [Addr.add_mid, ← Nat.add_assoc]
        exact this
    have hB : B ≤ g := (hO.lt g rfl).1
    obtain ⟨g', cap, cur, hv, _, hh, hc1, hc2, hsz, htk⟩ : ∃ g' cap cur, Value.slice (some ⟨g, 0, none⟩) m m = .slice (some ⟨g', 0, none⟩) L.length cap ∧ B ≤ g' ∧ w.heap[g']? = some (.cells cur e (0, 0)) ∧ L.length ≤ cap ∧ cap ≤ maxLen ∧ cur.size = cap * 2 ∧ cur.toList.take (L.length * 2) = L.flatMap cs := by
      rcases hO.2 with ⟨hv, _⟩ | ⟨g', cap, cur, r⟩
      · cases hv
      · exact ⟨g', cap, cur, r⟩
    injection hv with ea en ec
    injection ea with ea
    injection ea with ea
    subst ea ec
    have hfl : (l.flatMap cs).length = n * 2 := by rw [flatR_len R.len, hll]
    have hcell : ∀ j, j < (l.flatMap cs).length → (w.cell? ⟨g, 0 + j, none⟩).isSome = true := fun j hj => by
      rw [hfl] at hj
      rw [cell_of_row _ _ _ _ _ _ hh, Array.getElem?_eq_getElem (by omega)]
      rfl
    have hrun := run_copy_k w t t ty e g 0 m m ad n c (l.flatMap cs) 2 R.sl (by rw [hi]; exact congrArg some hz1) (by rw [hfl, hmin]) hsrc hcell (fun j _ => bx_thaw hh _) (fun v hv => by
      obtain ⟨y, _, hy⟩ := List.mem_flatMap.1 hv
      exact R.one y v hy)
    rw [hmin] at hrun
    have hO' := hO
    unfold Orw at hO'
    rw [hLl] at hO'
    obtain ⟨ys, q1, q2⟩ := stored_all (l.flatMap cs) 0 w _ hO'
    have hys := q2 [] ((L.take n).flatMap cs) ((L.drop n).flatMap cs) (by rw [List.nil_append, ← List.flatMap_append, List.take_append_drop]) rfl (by rw [hfl, flatR_len R.len, List.length_take, Nat.min_eq_left (by omega)])
    refine ⟨_, hrun, ?_, fun W h => below_cells _ _ h hB, fun k hk => heap_cells_other _ _ _ _ _ hk⟩
    unfold Orw
    have hlen : (l ++ L.drop n).length = m := by rw [List.length_append, List.length_drop]; omega
    rw [hlen, List.flatMap_append]
    rw [hys] at q1
    exact q1
end Go.Proofs.Ytnnanlniffjnkaa
