/- Joined: ClA ClB ClC. -/
import Derived.Test.YthenefjoidckkaaGreatDoorJA
import Derived.Test.YthenefjoidckkaaGreatDoorJF
import Derived.Test.YthenefjoidckkaaGreatDoorJArC
import Derived.ChangeMaps5

/- Classes as plain values: right, told in bytes, read from bytes; what is told is read. -/
namespace Go.Proofs.YthenefjoidckkaaGreatDoor
open Go.RowKit
set_option linter.unusedVariables false

structure Ty where
  kind : Int
  name : List UInt8
deriving DecidableEq
structure Mp where
  at_ : Int
  loc : List Ty
  stk : List Ty
structure Hd where
  frm : Int
  to_ : Int
  at_ : Int
  cls : Int
structure Cd where
  stack : Int
  locals : Int
  bytes : List UInt8
  hs : List Hd
  maps : List Mp
structure Fd where
  acc : Int
  name : List UInt8
  type : List UInt8
structure Md where
  acc : Int
  name : List UInt8
  type : List UInt8
  code : Cd
structure Cl where
  pool : List Ent
  name : List UInt8
  super : List UInt8
  fields : List Fd
  methods : List Md

end Go.Proofs.YthenefjoidckkaaGreatDoor

/- Lists of records in memory, whatever they are; a class in memory, and one that came in. -/
namespace Go.Proofs.YthenefjoidckkaaGreatDoor
open Go.ChangeShapes Go.WideShapes Go.ChangeAt Go.RowKit
set_option linter.unusedVariables false
set_option maxRecDepth 100000

/-- A slice as a value. -/
structure Sl where
  a : Option Addr
  n : Nat
  c : Nat
def Sl.v (s : Sl) : Value := .slice s.a s.n s.c
/-- Records of sz cells each that lie in memory. -/
def Ls {α : Type} (sz : Nat) (cs : α → List Value) (w : World) (a : Option Addr) (n : Nat) (l : List α) : Prop :=
  l.length = n ∧ (n = 0 ∨ ∃ b o, a = some ⟨b, o, none⟩ ∧ b < w.heap.size ∧ ∀ (k : Nat) (x : α), l[k]? = some x → ∀ (q : Nat) (u : Value), (cs x)[q]? = some u → w.cell? ⟨b, o + k * sz + q, none⟩ = some u)
theorem Ls.below {α : Type} {sz : Nat} {cs : α → List Value} {w w' : World} {a : Option Addr} {n : Nat} {l : List α} (h : Ls sz cs w a n l) (f : Below w.heap.size w w') : Ls sz cs w' a n l := by
  rcases h with ⟨h1, h2 | ⟨b, o, e, hb, h2⟩⟩
  · exact ⟨h1, .inl h2⟩
  · exact ⟨h1, .inr ⟨b, o, e, Nat.lt_of_lt_of_le hb f.size, fun k x hx q u hu => (f.cell hb).trans (h2 k x hx q u hu)⟩⟩
/-- A slice of such records that came in. -/
structure LIn {α : Type} (sz by_ : Nat) (cs : α → List Value) (ok : α → Prop) (w : World) (s : Sl) (l : List α) : Prop where
  ls : Ls sz cs w s.a s.n l
  room : s.n ≤ s.c
  most : s.c ≤ 9223372036854775807
  nil : s.a = none → s.n = 0 ∧ s.c = 0
  small : s.n * by_ ≤ 140737488351232
  each : ∀ x ∈ l, ok x
def fitI (n : Int) : Prop := -9223372036854775808 ≤ n ∧ n ≤ 9223372036854775807
def fitS (s : List UInt8) : Prop := s.length ≤ 140737488355328
def tyc (t : Ty) : List Value := [.int .i64 t.kind, .string ⟨t.name.toArray⟩]
def TyFit (t : Ty) : Prop := fitI t.kind ∧ fitS t.name
def hdc (h : Hd) : List Value := [.int .i64 h.frm, .int .i64 h.to_, .int .i64 h.at_, .int .i64 h.cls]
def HdFit (h : Hd) : Prop := fitI h.frm ∧ fitI h.to_ ∧ fitI h.at_ ∧ fitI h.cls
def fdc (f : Fd) : List Value := [.int .i64 f.acc, .string ⟨f.name.toArray⟩, .string ⟨f.type.toArray⟩]
def FdFit (f : Fd) : Prop := fitI f.acc ∧ fitS f.name ∧ fitS f.type
/-- A map, a method as it lies in memory: its lists by their slices. -/
structure MpR where
  m : Mp
  loc : Sl
  stk : Sl
def mpc (r : MpR) : List Value := [.int .i64 r.m.at_, r.loc.v, r.stk.v]
def TysIn (w : World) (s : Sl) (l : List Ty) : Prop := LIn 2 24 tyc TyFit w s l
structure MpIn (w : World) (r : MpR) : Prop where
  fit : fitI r.m.at_
  loc : TysIn w r.loc r.m.loc
  stk : TysIn w r.stk r.m.stk
structure MdR where
  m : Md
  bs : Sl
  hs : Sl
  maps : Sl
  mr : List MpR
def mdc (r : MdR) : List Value := [.int .i64 r.m.acc, .string ⟨r.m.name.toArray⟩, .string ⟨r.m.type.toArray⟩, .int .i64 r.m.code.stack, .int .i64 r.m.code.locals, r.bs.v, r.hs.v, r.maps.v]
structure MdIn (w : World) (r : MdR) : Prop where
  acc : fitI r.m.acc
  name : fitS r.m.name
  type : fitS r.m.type
  stack : fitI r.m.code.stack
  locals : fitI r.m.code.locals
  bs : Arg w r.bs.a r.bs.n r.bs.c r.m.code.bytes
  few : r.bs.n ≤ 140737488351232
  hs : LIn 4 32 hdc HdFit w r.hs r.m.code.hs
  maps : LIn 3 56 mpc (MpIn w) w r.maps r.mr
  same : r.m.code.maps = r.mr.map MpR.m
/-- A class as it lies in memory. -/
structure ClR where
  c : Cl
  pool : Sl
  fields : Sl
  methods : Sl
  mr : List MdR
def ClR.v (r : ClR) : Value := .agg #[r.pool.v, .string ⟨r.c.name.toArray⟩, .string ⟨r.c.super.toArray⟩, r.fields.v, r.methods.v]
structure CIn (w : World) (r : ClR) : Prop where
  pool : EIn w r.pool.a r.pool.n r.pool.c r.c.pool
  name : fitS r.c.name
  super : fitS r.c.super
  fields : LIn 3 40 fdc FdFit w r.fields r.c.fields
  methods : LIn 8 128 mdc (MdIn w) w r.methods r.mr
  same : r.c.methods = r.mr.map MdR.m

theorem LIn.mono {α : Type} {sz by_ : Nat} {cs : α → List Value} {ok ok' : α → Prop} {w w' : World} {s : Sl} {l : List α} (h : LIn sz by_ cs ok w s l) (f : Below w.heap.size w w') (g : ∀ x, ok x → ok' x) : LIn sz by_ cs ok' w' s l :=
  ⟨h.ls.below f, h.room, h.most, h.nil, h.small, fun x hx => g x (h.each x hx)⟩
theorem MpIn.below {w w' : World} {r : MpR} (h : MpIn w r) (f : Below w.heap.size w w') : MpIn w' r := ⟨h.fit, h.loc.mono f (fun _ h => h), h.stk.mono f (fun _ h => h)⟩
theorem MdIn.below {w w' : World} {r : MdR} (h : MdIn w r) (f : Below w.heap.size w w') : MdIn w' r :=
  ⟨h.acc, h.name, h.type, h.stack, h.locals, h.bs.below f, h.few, h.hs.mono f (fun _ h => h), h.maps.mono f (fun _ h => h.below f), h.same⟩
theorem CIn.below {w w' : World} {r : ClR} (h : CIn w r) (f : Below w.heap.size w w') : CIn w' r :=
  ⟨h.pool.below f, h.name, h.super, h.fields.mono f (fun _ h => h), h.methods.mono f (fun _ h => h.below f), h.same⟩

/-- A field of a struct that came in. -/
theorem st_field {H : Type} {enc : TypeId × Value → H} {w : World} {base n : Nat} {T : TypeId} {fs : Array Field} {cs : List Value} {x : DataW H × List MemPlace} (hT : Tryz.prog.underlying T = some (.struct fs))
    (h : DataW.trod enc Tryz.prog w base (fun _ => true) true n T cs = some x) (hw : ∀ m ∈ x.1.weights Tryz.prog T, m ≤ reachBytes) {i : Nat} {f : Field} (hf : fs[i]? = some f) :
    ∃ m y, DataW.trod enc Tryz.prog w base (fun _ => true) true m f.type ((cs.drop f.offset).take (Tryz.prog.cellsOf f.type)) = some y ∧ ∀ k ∈ y.1.weights Tryz.prog f.type, k ≤ reachBytes := by
  obtain ⟨xs, m, _, rfl, hl, hlen, hg⟩ := DataW.trod_struct hT h
  have g := hg i f hf
  have hi : i < xs.length := by rw [hlen]; exact (Array.getElem?_eq_some_iff.1 hf).1
  rw [List.getElem?_eq_getElem hi] at g
  refine ⟨m, _, g, fun k hk => hw k ?_⟩
  simp only [DataW.weights, hT]
  refine DataW.weights_mem_each (j := i) (t := f.type) (d := xs[i].1) ?_ ?_ _ hk
  · simp [hf]
  · rw [List.getElem?_map, List.getElem?_eq_getElem hi]; rfl
theorem int_leaf {H : Type} {enc : TypeId × Value → H} {w : World} {base m o : Nat} {cs : List Value} {y : DataW H × List MemPlace}
    (h : DataW.trod enc Tryz.prog w base (fun _ => true) true m 3 ((cs.drop o).take (Tryz.prog.cellsOf 3)) = some y) : ∃ n : Int, cs[o]? = some (.int .i64 n) ∧ fitI n := by
  rw [cellsI] at h
  obtain ⟨n0, e0, _, w0⟩ := DataW.trod_int Tryz.underlying3 h
  exact ⟨n0, take_one e0, bounds_i64 w0⟩
theorem str_leaf {H : Type} {enc : TypeId × Value → H} {w : World} {base m o : Nat} {cs : List Value} {y : DataW H × List MemPlace}
    (h : DataW.trod enc Tryz.prog w base (fun _ => true) true m 9 ((cs.drop o).take (Tryz.prog.cellsOf 9)) = some y) (hw : ∀ k ∈ y.1.weights Tryz.prog 9, k ≤ reachBytes) : ∃ s : List UInt8, cs[o]? = some (.string ⟨s.toArray⟩) ∧ fitS s := by
  rw [cellsS7] at h
  obtain ⟨s, e1, hx1, hs⟩ := DataW.trod_string Tryz.underlying9 h
  refine ⟨s.data.toList, ?_, ?_⟩
  · rw [take_one e1]
  · have hm := hw s.data.toList.length (by rw [hx1]; simp [DataW.weights])
    exact str_len (H := H) hm
theorem sl_leaf {H : Type} {enc : TypeId × Value → H} {w : World} {base m o : Nat} {cs : List Value} {y : DataW H × List MemPlace} {t e : TypeId} (ht : Tryz.prog.underlying t = some (.slice e)) (hc : Tryz.prog.cellsOf t = 1)
    (h : DataW.trod enc Tryz.prog w base (fun _ => true) true m t ((cs.drop o).take (Tryz.prog.cellsOf t)) = some y) : ∃ s : Sl, cs[o]? = some s.v ∧ DataW.Trod enc Tryz.prog w base (fun _ => true) true t s.v y.1 y.2 := by
  rw [hc] at h
  have key : ∃ s : Sl, (cs.drop o).take 1 = [s.v] := by
    rcases Go.Deep.open_slice ht h with ⟨hcs, _⟩ | ⟨ad, len', cap', _, _, _, _, hcs, _⟩
    · exact ⟨⟨none, 0, 0⟩, hcs⟩
    · exact ⟨⟨some ad, len', cap'⟩, hcs⟩
  obtain ⟨s, hs⟩ := key
  exact ⟨s, take_one hs, m, by rw [hs] at h; simpa [Value.cells, Sl.v] using h⟩
theorem lin_open {α : Type} {H : Type} {enc : TypeId × Value → H} {w : World} {base : Nat} {T e : TypeId} {size by_ : Nat} (hT : Tryz.prog.underlying T = some (.slice e)) (hsz : Tryz.prog.cellsOf e = size) (hby : Tryz.prog.bytesOf e = by_) (hpos : 0 < size) {ok : α → Prop} {val : α → List Value} (hval : ∀ y, (val y).length = size) (hone : ∀ y, ∃ v, (val y)[0]? = some v)
    (hop : ∀ (n : Nat) (cs : List Value) (x : DataW H × List MemPlace), DataW.trod enc Tryz.prog w base (fun _ => true) true n e cs = some x → (∀ m ∈ x.1.weights Tryz.prog e, m ≤ reachBytes) → ∃ y, cs = val y ∧ ok y)
    {s : Sl} {d : DataW H} {p : List MemPlace} (h : DataW.Trod enc Tryz.prog w base (fun _ => true) true T s.v d p) (hw : ∀ m ∈ d.weights Tryz.prog T, m ≤ reachBytes) : ∃ l : List α, LIn size by_ val ok w s l := by
  obtain ⟨l, h1, h2, h3, h4, h5, h6, h7⟩ := open_list hT hsz hpos hval hone hop h hw
  rw [hby] at h4
  unfold reachBytes at h4
  exact ⟨l, ⟨h1, h7⟩, h2, h3, h5, by omega, h6⟩
end Go.Proofs.YthenefjoidckkaaGreatDoor

/- The records of a class that came in, opened. -/
namespace Go.Proofs.YthenefjoidckkaaGreatDoor
open Go.ChangeShapes Go.WideShapes Go.ChangeAt Go.RowKit
set_option linter.unusedVariables false
set_option maxRecDepth 100000

theorem st_len {H : Type} {enc : TypeId × Value → H} {w : World} {base n k : Nat} {T : TypeId} {fs : Array Field} {cs : List Value} {x : DataW H × List MemPlace} (hT : Tryz.prog.underlying T = some (.struct fs)) (hk : Tryz.prog.cellsOf T = k)
    (h : DataW.trod enc Tryz.prog w base (fun _ => true) true n T cs = some x) : cs.length = k := by
  obtain ⟨xs, m, _, rfl, hl, hlen, hg⟩ := DataW.trod_struct hT h
  rw [hl, hk]
theorem ty_cells {H : Type} {enc : TypeId × Value → H} {w : World} {base : Nat} (n : Nat) (cs : List Value) (x : DataW H × List MemPlace)
    (h : DataW.trod enc Tryz.prog w base (fun _ => true) true n 52 cs = some x) (hw : ∀ m ∈ x.1.weights Tryz.prog 52, m ≤ reachBytes) :
    ∃ y : Ty, cs = tyc y ∧ TyFit y := by
  have hl : cs.length = 2 := st_len Tryz.underlying52 (by kernel_rfl) h
  obtain ⟨_, y0, g0, w0⟩ := st_field Tryz.underlying52 h hw (i := 0) rfl
  obtain ⟨v0, c0, f0⟩ := int_leaf (o := 0) g0
  obtain ⟨_, y1, g1, w1⟩ := st_field Tryz.underlying52 h hw (i := 1) rfl
  obtain ⟨v1, c1, f1⟩ := str_leaf (o := 1) g1 w1
  refine ⟨⟨v0, v1⟩, ?_, ⟨f0, f1⟩⟩
  apply List.ext_getElem?
  intro i
  match i with
  | 0 => rw [c0]; rfl
  | 1 => rw [c1]; rfl
  | k + 2 => rw [List.getElem?_eq_none (by omega)]; rfl
theorem hd_cells {H : Type} {enc : TypeId × Value → H} {w : World} {base : Nat} (n : Nat) (cs : List Value) (x : DataW H × List MemPlace)
    (h : DataW.trod enc Tryz.prog w base (fun _ => true) true n 159 cs = some x) (hw : ∀ m ∈ x.1.weights Tryz.prog 159, m ≤ reachBytes) :
    ∃ y : Hd, cs = hdc y ∧ HdFit y := by
  have hl : cs.length = 4 := st_len Tryz.underlying159 (by kernel_rfl) h
  obtain ⟨_, y0, g0, w0⟩ := st_field Tryz.underlying159 h hw (i := 0) rfl
  obtain ⟨v0, c0, f0⟩ := int_leaf (o := 0) g0
  obtain ⟨_, y1, g1, w1⟩ := st_field Tryz.underlying159 h hw (i := 1) rfl
  obtain ⟨v1, c1, f1⟩ := int_leaf (o := 1) g1
  obtain ⟨_, y2, g2, w2⟩ := st_field Tryz.underlying159 h hw (i := 2) rfl
  obtain ⟨v2, c2, f2⟩ := int_leaf (o := 2) g2
  obtain ⟨_, y3, g3, w3⟩ := st_field Tryz.underlying159 h hw (i := 3) rfl
  obtain ⟨v3, c3, f3⟩ := int_leaf (o := 3) g3
  refine ⟨⟨v0, v1, v2, v3⟩, ?_, ⟨f0, f1, f2, f3⟩⟩
  apply List.ext_getElem?
  intro i
  match i with
  | 0 => rw [c0]; rfl
  | 1 => rw [c1]; rfl
  | 2 => rw [c2]; rfl
  | 3 => rw [c3]; rfl
  | k + 4 => rw [List.getElem?_eq_none (by omega)]; rfl
theorem tys_open {H : Type} {enc : TypeId × Value → H} {w : World} {base : Nat} {s : Sl} {d : DataW H} {p : List MemPlace} (h : DataW.Trod enc Tryz.prog w base (fun _ => true) true 30 s.v d p) (hw : ∀ m ∈ d.weights Tryz.prog 30, m ≤ reachBytes) : ∃ l, TysIn w s l :=
  lin_open (size := 2) Tryz.underlying30 (by kernel_rfl) (by kernel_rfl) (by decide) (fun _ => rfl) (fun _ => ⟨_, rfl⟩) ty_cells h hw
theorem mp_cells {H : Type} {enc : TypeId × Value → H} {w : World} {base : Nat} (n : Nat) (cs : List Value) (x : DataW H × List MemPlace)
    (h : DataW.trod enc Tryz.prog w base (fun _ => true) true n 161 cs = some x) (hw : ∀ m ∈ x.1.weights Tryz.prog 161, m ≤ reachBytes) :
    ∃ y : MpR, cs = mpc y ∧ MpIn w y := by
  have hl : cs.length = 3 := st_len Tryz.underlying161 (by kernel_rfl) h
  obtain ⟨_, y0, g0, w0⟩ := st_field Tryz.underlying161 h hw (i := 0) rfl
  obtain ⟨v0, c0, f0⟩ := int_leaf (o := 0) g0
  obtain ⟨_, y1, g1, w1⟩ := st_field Tryz.underlying161 h hw (i := 1) rfl
  obtain ⟨v1, c1, t1⟩ := sl_leaf (o := 1) Tryz.underlying30 (by kernel_rfl) g1
  obtain ⟨_, y2, g2, w2⟩ := st_field Tryz.underlying161 h hw (i := 2) rfl
  obtain ⟨v2, c2, t2⟩ := sl_leaf (o := 2) Tryz.underlying30 (by kernel_rfl) g2
  obtain ⟨l1, h1⟩ := tys_open t1 w1
  obtain ⟨l2, h2⟩ := tys_open t2 w2
  refine ⟨⟨⟨v0, l1, l2⟩, v1, v2⟩, ?_, ⟨f0, h1, h2⟩⟩
  apply List.ext_getElem?
  intro i
  match i with
  | 0 => rw [c0]; rfl
  | 1 => rw [c1]; rfl
  | 2 => rw [c2]; rfl
  | k + 3 => rw [List.getElem?_eq_none (by omega)]; rfl
theorem cd_cells {H : Type} {enc : TypeId × Value → H} {w : World} {base : Nat} (n : Nat) (cs : List Value) (x : DataW H × List MemPlace)
    (h : DataW.trod enc Tryz.prog w base (fun _ => true) true n 27 cs = some x) (hw : ∀ m ∈ x.1.weights Tryz.prog 27, m ≤ reachBytes) :
    ∃ (st lo : Int) (b hh mm : Sl) (lb : List UInt8) (lh : List Hd) (lm : List MpR), cs[0]? = some (.int .i64 st) ∧ cs[1]? = some (.int .i64 lo) ∧ cs[2]? = some b.v ∧ cs[3]? = some hh.v ∧ cs[4]? = some mm.v ∧ fitI st ∧ fitI lo ∧ Arg w b.a b.n b.c lb ∧ b.n ≤ 140737488351232 ∧ LIn 4 32 hdc HdFit w hh lh ∧ LIn 3 56 mpc (MpIn w) w mm lm := by
  obtain ⟨_, y0, g0, w0⟩ := st_field Tryz.underlying27 h hw (i := 0) rfl
  obtain ⟨v0, c0, f0⟩ := int_leaf (o := 0) g0
  obtain ⟨_, y1, g1, w1⟩ := st_field Tryz.underlying27 h hw (i := 1) rfl
  obtain ⟨v1, c1, f1⟩ := int_leaf (o := 1) g1
  obtain ⟨_, y2, g2, w2⟩ := st_field Tryz.underlying27 h hw (i := 2) rfl
  obtain ⟨v2, c2, t2⟩ := sl_leaf (o := 2) Tryz.underlying23 (by kernel_rfl) g2
  obtain ⟨_, y3, g3, w3⟩ := st_field Tryz.underlying27 h hw (i := 3) rfl
  obtain ⟨v3, c3, t3⟩ := sl_leaf (o := 3) Tryz.underlying24 (by kernel_rfl) g3
  obtain ⟨_, y4, g4, w4⟩ := st_field Tryz.underlying27 h hw (i := 4) rfl
  obtain ⟨v4, c4, t4⟩ := sl_leaf (o := 4) Tryz.underlying25 (by kernel_rfl) g4
  obtain ⟨lb, h2, h2n⟩ := arg6 t2 w2
  obtain ⟨lh, h3⟩ := lin_open (size := 4) Tryz.underlying24 (by kernel_rfl) (by kernel_rfl) (by decide) (fun _ => rfl) (fun _ => ⟨_, rfl⟩) hd_cells t3 w3
  obtain ⟨lm, h4⟩ := lin_open (size := 3) Tryz.underlying25 (by kernel_rfl) (by kernel_rfl) (by decide) (fun _ => rfl) (fun _ => ⟨_, rfl⟩) mp_cells t4 w4
  exact ⟨v0, v1, v2, v3, v4, lb, lh, lm, c0, c1, c2, c3, c4, f0, f1, h2, h2n, h3, h4⟩
theorem md_cells {H : Type} {enc : TypeId × Value → H} {w : World} {base : Nat} (n : Nat) (cs : List Value) (x : DataW H × List MemPlace)
    (h : DataW.trod enc Tryz.prog w base (fun _ => true) true n 29 cs = some x) (hw : ∀ m ∈ x.1.weights Tryz.prog 29, m ≤ reachBytes) :
    ∃ y : MdR, cs = mdc y ∧ MdIn w y := by
  have hl : cs.length = 8 := st_len Tryz.underlying29 (by kernel_rfl) h
  obtain ⟨_, y0, g0, w0⟩ := st_field Tryz.underlying29 h hw (i := 0) rfl
  obtain ⟨v0, c0, f0⟩ := int_leaf (o := 0) g0
  obtain ⟨_, y1, g1, w1⟩ := st_field Tryz.underlying29 h hw (i := 1) rfl
  obtain ⟨v1, c1, f1⟩ := str_leaf (o := 1) g1 w1
  obtain ⟨_, y2, g2, w2⟩ := st_field Tryz.underlying29 h hw (i := 2) rfl
  obtain ⟨v2, c2, f2⟩ := str_leaf (o := 2) g2 w2
  obtain ⟨_, y3, g3, w3⟩ := st_field Tryz.underlying29 h hw (i := 3) rfl
  obtain ⟨st, lo, b, hh, mm, lb, lh, lm, d0, d1, d2, d3, d4, e0, e1, e2, e3, e4, e5⟩ := cd_cells _ _ _ g3 w3
  have hc : Tryz.prog.cellsOf 27 = 5 := by kernel_rfl
  have key : ∀ j, j < 5 → ((cs.drop 3).take (Tryz.prog.cellsOf 27))[j]? = cs[3 + j]? := fun j hj => by
    rw [hc, List.getElem?_take_of_lt hj, List.getElem?_drop]
  have c3 := (key 0 (by decide)).symm.trans d0
  have c4 := (key 1 (by decide)).symm.trans d1
  have c5 := (key 2 (by decide)).symm.trans d2
  have c6 := (key 3 (by decide)).symm.trans d3
  have c7 := (key 4 (by decide)).symm.trans d4
  refine ⟨⟨⟨v0, v1, v2, ⟨st, lo, lb, lh, lm.map MpR.m⟩⟩, b, hh, mm, lm⟩, ?_, ⟨f0, f1, f2, e0, e1, e2, e3, e4, e5, rfl⟩⟩
  apply List.ext_getElem?
  intro i
  match i with
  | 0 => rw [c0]; rfl
  | 1 => rw [c1]; rfl
  | 2 => rw [c2]; rfl
  | 3 => rw [c3]; rfl
  | 4 => rw [c4]; rfl
  | 5 => rw [c5]; rfl
  | 6 => rw [c6]; rfl
  | 7 => rw [c7]; rfl
  | k + 8 => rw [List.getElem?_eq_none (by omega)]; rfl
/-- A text that came in. -/
theorem str_arg {H : Type} {enc : TypeId × Value → H} {W : World} {base b2 : Nat} {v : Value} {d : DataW H} {p : List MemPlace} (hv : Value.okWide Tryz.prog W .any b2 9 v)
    (h : DataW.Trod enc Tryz.prog W base (fun _ => true) true 9 v d p) (hw : ∀ m ∈ d.weights Tryz.prog 9, m ≤ reachBytes) : ∃ s : List UInt8, v = .string ⟨s.toArray⟩ ∧ fitS s := by
  obtain ⟨s, rfl, rfl, _, _⟩ := Go.ChangeMaps.open_string Tryz.underlying9 hv h
  have hm := hw s.data.toList.length (by simp [DataW.weights])
  exact ⟨s.data.toList, rfl, str_len (H := H) hm⟩

end Go.Proofs.YthenefjoidckkaaGreatDoor
