/- Lists of records in memory, whatever they are; a class in memory, and one that came in. -/
import Derived.Test.YtpmhcignenfhgaaDoorJF
import Derived.Test.YtpmhcignenfhgaaDoorJArC
import Derived.Test.YtpmhcignenfhgaaDoorJClA

namespace Go.Proofs.YtpmhcignenfhgaaDoor
open Go.ChangeShapes Go.WideShapes Go.ChangeAt Go.RowKit
set_option linter.unusedVariables false
set_option maxRecDepth 100000

/-- A slice as a value. -/
structure Sl where
  a : Option Addr
  n : Nat
  c : Nat
def Sl.v (s : Sl) : Value := .slice s.a s.n s.c
/-- Records of sz cells each that lie in memory. -/
def Ls {α : Type} (sz : Nat) (cs : α → List Value) (w : World) (a : Option Addr) (n : Nat) (l : List α) : Prop :=
  l.length = n ∧ (n = 0 ∨ ∃ b o, a = some ⟨b, o, none⟩ ∧ b < w.heap.size ∧ ∀ (k : Nat) (x : α), l[k]? = some x → ∀ (q : Nat) (u : Value), (cs x)[q]? = some u → w.cell? ⟨b, o + k * sz + q, none⟩ = some u)
theorem Ls.below {α : Type} {sz : Nat} {cs : α → List Value} {w w' : World} {a : Option Addr} {n : Nat} {l : List α} (h : Ls sz cs w a n l) (f : Below w.heap.size w w') : Ls sz cs w' a n l := by
  rcases h with ⟨h1, h2 | ⟨b, o, e, hb, h2⟩⟩
  · exact ⟨h1, .inl h2⟩
  · exact ⟨h1, .inr ⟨b, o, e, Nat.lt_of_lt_of_le hb f.size, fun k x hx q u hu => (f.cell hb).trans (h2 k x hx q u hu)⟩⟩
/-- A slice of such records that came in. -/
structure LIn {α : Type} (sz by_ : Nat) (cs : α → List Value) (ok : α → Prop) (w : World) (s : Sl) (l : List α) : Prop where
  ls : Ls sz cs w s.a s.n l
  room : s.n ≤ s.c
  most : s.c ≤ 9223372036854775807
  nil : s.a = none → s.n = 0 ∧ s.c = 0
  small : s.n * by_ ≤ 140737488351232
  each : ∀ x ∈ l, ok x
def fitI (n : Int) : Prop := -9223372036854775808 ≤ n ∧ n ≤ 9223372036854775807
def fitS (s : List UInt8) : Prop := s.length ≤ 140737488355328
def tyc (t : Ty) : List Value := [.int .i64 t.kind, .string ⟨t.name.toArray⟩]
def TyFit (t : Ty) : Prop := fitI t.kind ∧ fitS t.name
def hdc (h : Hd) : List Value := [.int .i64 h.frm, .int .i64 h.to_, .int .i64 h.at_, .int .i64 h.cls]
def HdFit (h : Hd) : Prop := fitI h.frm ∧ fitI h.to_ ∧ fitI h.at_ ∧ fitI h.cls
def fdc (f : Fd) : List Value := [.int .i64 f.acc, .string ⟨f.name.toArray⟩, .string ⟨f.type.toArray⟩]
def FdFit (f : Fd) : Prop := fitI f.acc ∧ fitS f.name ∧ fitS f.type
/-- A map, a method as it lies in memory: its lists by their slices. -/
structure MpR where
  m : Mp
  loc : Sl
  stk : Sl
def mpc (r : MpR) : List Value := [.int .i64 r.m.at_, r.loc.v, r.stk.v]
def TysIn (w : World) (s : Sl) (l : List Ty) : Prop := LIn 2 24 tyc TyFit w s l
structure MpIn (w : World) (r : MpR) : Prop where
  fit : fitI r.m.at_
  loc : TysIn w r.loc r.m.loc
  stk : TysIn w r.stk r.m.stk
structure MdR where
  m : Md
  bs : Sl
  hs : Sl
  maps : Sl
  mr : List MpR
def mdc (r : MdR) : List Value := [.int .i64 r.m.acc, .string ⟨r.m.name.toArray⟩, .string ⟨r.m.type.toArray⟩, .int .i64 r.m.code.stack, .int .i64 r.m.code.locals, r.bs.v, r.hs.v, r.maps.v]
structure MdIn (w : World) (r : MdR) : Prop where
  acc : fitI r.m.acc
  name : fitS r.m.name
  type : fitS r.m.type
  stack : fitI r.m.code.stack
  locals : fitI r.m.code.locals
  bs : Arg w r.bs.a r.bs.n r.bs.c r.m.code.bytes
  few : r.bs.n ≤ 140737488351232
  hs : LIn 4 32 hdc HdFit w r.hs r.m.code.hs
  maps : LIn 3 56 mpc (MpIn w) w r.maps r.mr
  same : r.m.code.maps = r.mr.map MpR.m
/-- A class as it lies in memory. -/
structure ClR where
  c : Cl
  pool : Sl
  fields : Sl
  methods : Sl
  mr : List MdR
def ClR.v (r : ClR) : Value := .agg #[r.pool.v, .string ⟨r.c.name.toArray⟩, .string ⟨r.c.super.toArray⟩, r.fields.v, r.methods.v]
structure CIn (w : World) (r : ClR) : Prop where
  pool : EIn w r.pool.a r.pool.n r.pool.c r.c.pool
  name : fitS r.c.name
  super : fitS r.c.super
  fields : LIn 3 40 fdc FdFit w r.fields r.c.fields
  methods : LIn 8 128 mdc (MdIn w) w r.methods r.mr
  same : r.c.methods = r.mr.map MdR.m

theorem LIn.mono {α : Type} {sz by_ : Nat} {cs : α → List Value} {ok ok' : α → Prop} {w w' : World} {s : Sl} {l : List α} (h : LIn sz by_ cs ok w s l) (f : Below w.heap.size w w') (g : ∀ x, ok x → ok' x) : LIn sz by_ cs ok' w' s l :=
  ⟨h.ls.below f, h.room, h.most, h.nil, h.small, fun x hx => g x (h.each x hx)⟩
theorem MpIn.below {w w' : World} {r : MpR} (h : MpIn w r) (f : Below w.heap.size w w') : MpIn w' r := ⟨h.fit, h.loc.mono f (fun _ h => h), h.stk.mono f (fun _ h => h)⟩
theorem MdIn.below {w w' : World} {r : MdR} (h : MdIn w r) (f : Below w.heap.size w w') : MdIn w' r :=
  ⟨h.acc, h.name, h.type, h.stack, h.locals, h.bs.below f, h.few, h.hs.mono f (fun _ h => h), h.maps.mono f (fun _ h => h.below f), h.same⟩
theorem CIn.below {w w' : World} {r : ClR} (h : CIn w r) (f : Below w.heap.size w w') : CIn w' r :=
  ⟨h.pool.below f, h.name, h.super, h.fields.mono f (fun _ h => h), h.methods.mono f (fun _ h => h.below f), h.same⟩

/-- A field of a struct that came in. -/
theorem st_field {H : Type} {enc : TypeId × Value → H} {w : World} {base n : Nat} {T : TypeId} {fs : Array Field} {cs : List Value} {x : DataW H × List MemPlace} (hT : Tryd.prog.underlying T = some (.struct fs))
    (h : DataW.trod enc Tryd.prog w base (fun _ => true) true n T cs = some x) (hw : ∀ m ∈ x.1.weights Tryd.prog T, m ≤ reachBytes) {i : Nat} {f : Field} (hf : fs[i]? = some f) :
    ∃ m y, DataW.trod enc Tryd.prog w base (fun _ => true) true m f.type ((cs.drop f.offset).take (Tryd.prog.cellsOf f.type)) = some y ∧ ∀ k ∈ y.1.weights Tryd.prog f.type, k ≤ reachBytes := by
  obtain ⟨xs, m, _, rfl, hl, hlen, hg⟩ := DataW.trod_struct hT h
  have g := hg i f hf
  have hi : i < xs.length := by rw [hlen]; exact (Array.getElem?_eq_some_iff.1 hf).1
  rw [List.getElem?_eq_getElem hi] at g
  refine ⟨m, _, g, fun k hk => hw k ?_⟩
  simp only [DataW.weights, hT]
  refine DataW.weights_mem_each (j := i) (t := f.type) (d := xs[i].1) ?_ ?_ _ hk
  · simp [hf]
  · rw [List.getElem?_map, List.getElem?_eq_getElem hi]; rfl
theorem int_leaf {H : Type} {enc : TypeId × Value → H} {w : World} {base m o : Nat} {cs : List Value} {y : DataW H × List MemPlace}
    (h : DataW.trod enc Tryd.prog w base (fun _ => true) true m 3 ((cs.drop o).take (Tryd.prog.cellsOf 3)) = some y) : ∃ n : Int, cs[o]? = some (.int .i64 n) ∧ fitI n := by
  rw [cellsI] at h
  obtain ⟨n0, e0, _, w0⟩ := DataW.trod_int Tryd.underlying3 h
  exact ⟨n0, take_one e0, bounds_i64 w0⟩
theorem str_leaf {H : Type} {enc : TypeId × Value → H} {w : World} {base m o : Nat} {cs : List Value} {y : DataW H × List MemPlace}
    (h : DataW.trod enc Tryd.prog w base (fun _ => true) true m 9 ((cs.drop o).take (Tryd.prog.cellsOf 9)) = some y) (hw : ∀ k ∈ y.1.weights Tryd.prog 9, k ≤ reachBytes) : ∃ s : List UInt8, cs[o]? = some (.string ⟨s.toArray⟩) ∧ fitS s := by
  rw [cellsS7] at h
  obtain ⟨s, e1, hx1, hs⟩ := DataW.trod_string Tryd.underlying9 h
  refine ⟨s.data.toList, ?_, ?_⟩
  · rw [take_one e1]
  · have hm := hw s.data.toList.length (by rw [hx1]; simp [DataW.weights])
    exact str_len (H := H) hm
theorem sl_leaf {H : Type} {enc : TypeId × Value → H} {w : World} {base m o : Nat} {cs : List Value} {y : DataW H × List MemPlace} {t e : TypeId} (ht : Tryd.prog.underlying t = some (.slice e)) (hc : Tryd.prog.cellsOf t = 1)
    (h : DataW.trod enc Tryd.prog w base (fun _ => true) true m t ((cs.drop o).take (Tryd.prog.cellsOf t)) = some y) : ∃ s : Sl, cs[o]? = some s.v ∧ DataW.Trod enc Tryd.prog w base (fun _ => true) true t s.v y.1 y.2 := by
  rw [hc] at h
  have key : ∃ s : Sl, (cs.drop o).take 1 = [s.v] := by
    rcases Go.Deep.open_slice ht h with ⟨hcs, _⟩ | ⟨ad, len', cap', _, _, _, _, hcs, _⟩
    · exact ⟨⟨none, 0, 0⟩, hcs⟩
    · exact ⟨⟨some ad, len', cap'⟩, hcs⟩
  obtain ⟨s, hs⟩ := key
  exact ⟨s, take_one hs, m, by rw [hs] at h; simpa [Value.cells, Sl.v] using h⟩
theorem lin_open {α : Type} {H : Type} {enc : TypeId × Value → H} {w : World} {base : Nat} {T e : TypeId} {size by_ : Nat} (hT : Tryd.prog.underlying T = some (.slice e)) (hsz : Tryd.prog.cellsOf e = size) (hby : Tryd.prog.bytesOf e = by_) (hpos : 0 < size) {ok : α → Prop} {val : α → List Value} (hval : ∀ y, (val y).length = size) (hone : ∀ y, ∃ v, (val y)[0]? = some v)
    (hop : ∀ (n : Nat) (cs : List Value) (x : DataW H × List MemPlace), DataW.trod enc Tryd.prog w base (fun _ => true) true n e cs = some x → (∀ m ∈ x.1.weights Tryd.prog e, m ≤ reachBytes) → ∃ y, cs = val y ∧ ok y)
    {s : Sl} {d : DataW H} {p : List MemPlace} (h : DataW.Trod enc Tryd.prog w base (fun _ => true) true T s.v d p) (hw : ∀ m ∈ d.weights Tryd.prog T, m ≤ reachBytes) : ∃ l : List α, LIn size by_ val ok w s l := by
  obtain ⟨l, h1, h2, h3, h4, h5, h6, h7⟩ := open_list hT hsz hpos hval hone hop h hw
  rw [hby] at h4
  unfold reachBytes at h4
  exact ⟨l, ⟨h1, h7⟩, h2, h3, h5, by omega, h6⟩
end Go.Proofs.YtpmhcignenfhgaaDoor
