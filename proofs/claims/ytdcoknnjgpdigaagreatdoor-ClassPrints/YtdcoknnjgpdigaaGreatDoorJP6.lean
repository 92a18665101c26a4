/- Joined: ClB ClC PlT ClD. -/
import Derived.Test.YtdcoknnjgpdigaaGreatDoorJP5
import Derived.Test.YtdcoknnjgpdigaaGreatDoorJP4
import Derived.ChangeMaps5

/- Lists of records in memory, whatever they are; a class in memory, and one that came in. -/
namespace Go.Proofs.YtdcoknnjgpdigaaGreatDoor
open Go.ChangeShapes Go.WideShapes Go.ChangeAt Go.RowKit
set_option linter.unusedVariables false
set_option maxRecDepth 100000

/-- A slice as a value. -/
structure Sl where
  a : Option Addr
  n : Nat
  c : Nat
def Sl.v (s : Sl) : Value := .slice s.a s.n s.c
/-- Records of sz cells each that lie in memory. -/
def Ls {α : Type} (sz : Nat) (cs : α → List Value) (w : World) (a : Option Addr) (n : Nat) (l : List α) : Prop :=
  l.length = n ∧ (n = 0 ∨ ∃ b o, a = some ⟨b, o, none⟩ ∧ b < w.heap.size ∧ ∀ (k : Nat) (x : α), l[k]? = some x → ∀ (q : Nat) (u : Value), (cs x)[q]? = some u → w.cell? ⟨b, o + k * sz + q, none⟩ = some u)
theorem Ls.below {α : Type} {sz : Nat} {cs : α → List Value} {w w' : World} {a : Option Addr} {n : Nat} {l : List α} (h : Ls sz cs w a n l) (f : Below w.heap.size w w') : Ls sz cs w' a n l := by
  rcases h with ⟨h1, h2 | ⟨b, o, e, hb, h2⟩⟩
  · exact ⟨h1, .inl h2⟩
  · exact ⟨h1, .inr ⟨b, o, e, Nat.lt_of_lt_of_le hb f.size, fun k x hx q u hu => (f.cell hb).trans (h2 k x hx q u hu)⟩⟩
/-- A slice of such records that came in. -/
structure LIn {α : Type} (sz by_ : Nat) (cs : α → List Value) (ok : α → Prop) (w : World) (s : Sl) (l : List α) : Prop where
  ls : Ls sz cs w s.a s.n l
  room : s.n ≤ s.c
  most : s.c ≤ 9223372036854775807
  nil : s.a = none → s.n = 0 ∧ s.c = 0
  small : s.n * by_ ≤ 140737488351232
  each : ∀ x ∈ l, ok x
def fitI (n : Int) : Prop := -9223372036854775808 ≤ n ∧ n ≤ 9223372036854775807
def fitS (s : List UInt8) : Prop := s.length ≤ 140737488355328
def tyc (t : Ty) : List Value := [.int .i64 t.kind, .string ⟨t.name.toArray⟩]
def TyFit (t : Ty) : Prop := fitI t.kind ∧ fitS t.name
def hdc (h : Hd) : List Value := [.int .i64 h.frm, .int .i64 h.to_, .int .i64 h.at_, .int .i64 h.cls]
def HdFit (h : Hd) : Prop := fitI h.frm ∧ fitI h.to_ ∧ fitI h.at_ ∧ fitI h.cls
def fdc (f : Fd) : List Value := [.int .i64 f.acc, .string ⟨f.name.toArray⟩, .string ⟨f.type.toArray⟩]
def FdFit (f : Fd) : Prop := fitI f.acc ∧ fitS f.name ∧ fitS f.type
/-- A map, a method as it lies in memory: its lists by their slices. -/
structure MpR where
  m : Mp
  loc : Sl
  stk : Sl
def mpc (r : MpR) : List Value := [.int .i64 r.m.at_, r.loc.v, r.stk.v]
def TysIn (w : World) (s : Sl) (l : List Ty) : Prop := LIn 2 24 tyc TyFit w s l
structure MpIn (w : World) (r : MpR) : Prop where
  fit : fitI r.m.at_
  loc : TysIn w r.loc r.m.loc
  stk : TysIn w r.stk r.m.stk
structure MdR where
  m : Md
  bs : Sl
  hs : Sl
  maps : Sl
  mr : List MpR
def mdc (r : MdR) : List Value := [.int .i64 r.m.acc, .string ⟨r.m.name.toArray⟩, .string ⟨r.m.type.toArray⟩, .int .i64 r.m.code.stack, .int .i64 r.m.code.locals, r.bs.v, r.hs.v, r.maps.v]
structure MdIn (w : World) (r : MdR) : Prop where
  acc : fitI r.m.acc
  name : fitS r.m.name
  type : fitS r.m.type
  stack : fitI r.m.code.stack
  locals : fitI r.m.code.locals
  bs : Arg w r.bs.a r.bs.n r.bs.c r.m.code.bytes
  few : r.bs.n ≤ 140737488351232
  hs : LIn 4 32 hdc HdFit w r.hs r.m.code.hs
  maps : LIn 3 56 mpc (MpIn w) w r.maps r.mr
  same : r.m.code.maps = r.mr.map MpR.m
/-- A class as it lies in memory. -/
structure ClR where
  c : Cl
  pool : Sl
  fields : Sl
  methods : Sl
  mr : List MdR
def ClR.v (r : ClR) : Value := .agg #[r.pool.v, .string ⟨r.c.name.toArray⟩, .string ⟨r.c.super.toArray⟩, r.fields.v, r.methods.v]
structure CIn (w : World) (r : ClR) : Prop where
  pool : EIn w r.pool.a r.pool.n r.pool.c r.c.pool
  name : fitS r.c.name
  super : fitS r.c.super
  fields : LIn 3 40 fdc FdFit w r.fields r.c.fields
  methods : LIn 8 128 mdc (MdIn w) w r.methods r.mr
  same : r.c.methods = r.mr.map MdR.m

theorem LIn.mono {α : Type} {sz by_ : Nat} {cs : α → List Value} {ok ok' : α → Prop} {w w' : World} {s : Sl} {l : List α} (h : LIn sz by_ cs ok w s l) (f : Below w.heap.size w w') (g : ∀ x, ok x → ok' x) : LIn sz by_ cs ok' w' s l :=
  ⟨h.ls.below f, h.room, h.most, h.nil, h.small, fun x hx => g x (h.each x hx)⟩
theorem MpIn.below {w w' : World} {r : MpR} (h : MpIn w r) (f : Below w.heap.size w w') : MpIn w' r := ⟨h.fit, h.loc.mono f (fun _ h => h), h.stk.mono f (fun _ h => h)⟩
theorem MdIn.below {w w' : World} {r : MdR} (h : MdIn w r) (f : Below w.heap.size w w') : MdIn w' r :=
  ⟨h.acc, h.name, h.type, h.stack, h.locals, h.bs.below f, h.few, h.hs.mono f (fun _ h => h), h.maps.mono f (fun _ h => h.below f), h.same⟩
theorem CIn.below {w w' : World} {r : ClR} (h : CIn w r) (f : Below w.heap.size w w') : CIn w' r :=
  ⟨h.pool.below f, h.name, h.super, h.fields.mono f (fun _ h => h), h.methods.mono f (fun _ h => h.below f), h.same⟩

/-- A field of a struct that came in. -/
theorem st_field {H : Type} {enc : TypeId × Value → H} {w : World} {base n : Nat} {T : TypeId} {fs : Array Field} {cs : List Value} {x : DataW H × List MemPlace} (hT : Tryz.prog.underlying T = some (.struct fs))
    (h : DataW.trod enc Tryz.prog w base (fun _ => true) true n T cs = some x) (hw : ∀ m ∈ x.1.weights Tryz.prog T, m ≤ reachBytes) {i : Nat} {f : Field} (hf : fs[i]? = some f) :
    ∃ m y, DataW.trod enc Tryz.prog w base (fun _ => true) true m f.type ((cs.drop f.offset).take (Tryz.prog.cellsOf f.type)) = some y ∧ ∀ k ∈ y.1.weights Tryz.prog f.type, k ≤ reachBytes := by
  obtain ⟨xs, m, _, rfl, hl, hlen, hg⟩ := DataW.trod_struct hT h
  have g := hg i f hf
  have hi : i < xs.length := by rw [hlen]; exact (Array.getElem?_eq_some_iff.1 hf).1
  rw [List.getElem?_eq_getElem hi] at g
  refine ⟨m, _, g, fun k hk => hw k ?_⟩
  simp only [DataW.weights, hT]
  refine DataW.weights_mem_each (j := i) (t := f.type) (d := xs[i].1) ?_ ?_ _ hk
  · simp [hf]
  · rw [List.getElem?_map, List.getElem?_eq_getElem hi]; rfl
theorem int_leaf {H : Type} {enc : TypeId × Value → H} {w : World} {base m o : Nat} {cs : List Value} {y : DataW H × List MemPlace}
    (h : DataW.trod enc Tryz.prog w base (fun _ => true) true m 3 ((cs.drop o).take (Tryz.prog.cellsOf 3)) = some y) : ∃ n : Int, cs[o]? = some (.int .i64 n) ∧ fitI n := by
  rw [cellsI] at h
  obtain ⟨n0, e0, _, w0⟩ := DataW.trod_int Tryz.underlying3 h
  exact ⟨n0, take_one e0, bounds_i64 w0⟩
theorem str_leaf {H : Type} {enc : TypeId × Value → H} {w : World} {base m o : Nat} {cs : List Value} {y : DataW H × List MemPlace}
    (h : DataW.trod enc Tryz.prog w base (fun _ => true) true m 9 ((cs.drop o).take (Tryz.prog.cellsOf 9)) = some y) (hw : ∀ k ∈ y.1.weights Tryz.prog 9, k ≤ reachBytes) : ∃ s : List UInt8, cs[o]? = some (.string ⟨s.toArray⟩) ∧ fitS s := by
  rw [cellsS7] at h
  obtain ⟨s, e1, hx1, hs⟩ := DataW.trod_string Tryz.underlying9 h
  refine ⟨s.data.toList, ?_, ?_⟩
  · rw [take_one e1]
  · have hm := hw s.data.toList.length (by rw [hx1]; simp [DataW.weights])
    exact str_len (H := H) hm
theorem sl_leaf {H : Type} {enc : TypeId × Value → H} {w : World} {base m o : Nat} {cs : List Value} {y : DataW H × List MemPlace} {t e : TypeId} (ht : Tryz.prog.underlying t = some (.slice e)) (hc : Tryz.prog.cellsOf t = 1)
    (h : DataW.trod enc Tryz.prog w base (fun _ => true) true m t ((cs.drop o).take (Tryz.prog.cellsOf t)) = some y) : ∃ s : Sl, cs[o]? = some s.v ∧ DataW.Trod enc Tryz.prog w base (fun _ => true) true t s.v y.1 y.2 := by
  rw [hc] at h
  have key : ∃ s : Sl, (cs.drop o).take 1 = [s.v] := by
    rcases Go.Deep.open_slice ht h with ⟨hcs, _⟩ | ⟨ad, len', cap', _, _, _, _, hcs, _⟩
    · exact ⟨⟨none, 0, 0⟩, hcs⟩
    · exact ⟨⟨some ad, len', cap'⟩, hcs⟩
  obtain ⟨s, hs⟩ := key
  exact ⟨s, take_one hs, m, by rw [hs] at h; simpa [Value.cells, Sl.v] using h⟩
theorem lin_open {α : Type} {H : Type} {enc : TypeId × Value → H} {w : World} {base : Nat} {T e : TypeId} {size by_ : Nat} (hT : Tryz.prog.underlying T = some (.slice e)) (hsz : Tryz.prog.cellsOf e = size) (hby : Tryz.prog.bytesOf e = by_) (hpos : 0 < size) {ok : α → Prop} {val : α → List Value} (hval : ∀ y, (val y).length = size) (hone : ∀ y, ∃ v, (val y)[0]? = some v)
    (hop : ∀ (n : Nat) (cs : List Value) (x : DataW H × List MemPlace), DataW.trod enc Tryz.prog w base (fun _ => true) true n e cs = some x → (∀ m ∈ x.1.weights Tryz.prog e, m ≤ reachBytes) → ∃ y, cs = val y ∧ ok y)
    {s : Sl} {d : DataW H} {p : List MemPlace} (h : DataW.Trod enc Tryz.prog w base (fun _ => true) true T s.v d p) (hw : ∀ m ∈ d.weights Tryz.prog T, m ≤ reachBytes) : ∃ l : List α, LIn size by_ val ok w s l := by
  obtain ⟨l, h1, h2, h3, h4, h5, h6, h7⟩ := open_list hT hsz hpos hval hone hop h hw
  rw [hby] at h4
  unfold reachBytes at h4
  exact ⟨l, ⟨h1, h7⟩, h2, h3, h5, by omega, h6⟩
end Go.Proofs.YtdcoknnjgpdigaaGreatDoor

/- The records of a class that came in, opened. -/
namespace Go.Proofs.YtdcoknnjgpdigaaGreatDoor
open Go.ChangeShapes Go.WideShapes Go.ChangeAt Go.RowKit
set_option linter.unusedVariables false
set_option maxRecDepth 100000

theorem st_len {H : Type} {enc : TypeId × Value → H} {w : World} {base n k : Nat} {T : TypeId} {fs : Array Field} {cs : List Value} {x : DataW H × List MemPlace} (hT : Tryz.prog.underlying T = some (.struct fs)) (hk : Tryz.prog.cellsOf T = k)
    (h : DataW.trod enc Tryz.prog w base (fun _ => true) true n T cs = some x) : cs.length = k := by
  obtain ⟨xs, m, _, rfl, hl, hlen, hg⟩ := DataW.trod_struct hT h
  rw [hl, hk]
theorem ty_cells {H : Type} {enc : TypeId × Value → H} {w : World} {base : Nat} (n : Nat) (cs : List Value) (x : DataW H × List MemPlace)
    (h : DataW.trod enc Tryz.prog w base (fun _ => true) true n 143 cs = some x) (hw : ∀ m ∈ x.1.weights Tryz.prog 143, m ≤ reachBytes) :
    ∃ y : Ty, cs = tyc y ∧ TyFit y := by
  have hl : cs.length = 2 := st_len Tryz.underlying143 (by kernel_rfl) h
  obtain ⟨_, y0, g0, w0⟩ := st_field Tryz.underlying143 h hw (i := 0) rfl
  obtain ⟨v0, c0, f0⟩ := int_leaf (o := 0) g0
  obtain ⟨_, y1, g1, w1⟩ := st_field Tryz.underlying143 h hw (i := 1) rfl
  obtain ⟨v1, c1, f1⟩ := str_leaf (o := 1) g1 w1
  refine ⟨⟨v0, v1⟩, ?_, ⟨f0, f1⟩⟩
  apply List.ext_getElem?
  intro i
  match i with
  | 0 => rw [c0]; rfl
  | 1 => rw [c1]; rfl
  | k + 2 => rw [List.getElem?_eq_none (by omega)]; rfl
theorem hd_cells {H : Type} {enc : TypeId × Value → H} {w : World} {base : Nat} (n : Nat) (cs : List Value) (x : DataW H × List MemPlace)
    (h : DataW.trod enc Tryz.prog w base (fun _ => true) true n 93 cs = some x) (hw : ∀ m ∈ x.1.weights Tryz.prog 93, m ≤ reachBytes) :
    ∃ y : Hd, cs = hdc y ∧ HdFit y := by
  have hl : cs.length = 4 := st_len Tryz.underlying93 (by kernel_rfl) h
  obtain ⟨_, y0, g0, w0⟩ := st_field Tryz.underlying93 h hw (i := 0) rfl
  obtain ⟨v0, c0, f0⟩ := int_leaf (o := 0) g0
  obtain ⟨_, y1, g1, w1⟩ := st_field Tryz.underlying93 h hw (i := 1) rfl
  obtain ⟨v1, c1, f1⟩ := int_leaf (o := 1) g1
  obtain ⟨_, y2, g2, w2⟩ := st_field Tryz.underlying93 h hw (i := 2) rfl
  obtain ⟨v2, c2, f2⟩ := int_leaf (o := 2) g2
  obtain ⟨_, y3, g3, w3⟩ := st_field Tryz.underlying93 h hw (i := 3) rfl
  obtain ⟨v3, c3, f3⟩ := int_leaf (o := 3) g3
  refine ⟨⟨v0, v1, v2, v3⟩, ?_, ⟨f0, f1, f2, f3⟩⟩
  apply List.ext_getElem?
  intro i
  match i with
  | 0 => rw [c0]; rfl
  | 1 => rw [c1]; rfl
  | 2 => rw [c2]; rfl
  | 3 => rw [c3]; rfl
  | k + 4 => rw [List.getElem?_eq_none (by omega)]; rfl
theorem fd_cells {H : Type} {enc : TypeId × Value → H} {w : World} {base : Nat} (n : Nat) (cs : List Value) (x : DataW H × List MemPlace)
    (h : DataW.trod enc Tryz.prog w base (fun _ => true) true n 58 cs = some x) (hw : ∀ m ∈ x.1.weights Tryz.prog 58, m ≤ reachBytes) :
    ∃ y : Fd, cs = fdc y ∧ FdFit y := by
  have hl : cs.length = 3 := st_len Tryz.underlying58 (by kernel_rfl) h
  obtain ⟨_, y0, g0, w0⟩ := st_field Tryz.underlying58 h hw (i := 0) rfl
  obtain ⟨v0, c0, f0⟩ := int_leaf (o := 0) g0
  obtain ⟨_, y1, g1, w1⟩ := st_field Tryz.underlying58 h hw (i := 1) rfl
  obtain ⟨v1, c1, f1⟩ := str_leaf (o := 1) g1 w1
  obtain ⟨_, y2, g2, w2⟩ := st_field Tryz.underlying58 h hw (i := 2) rfl
  obtain ⟨v2, c2, f2⟩ := str_leaf (o := 2) g2 w2
  refine ⟨⟨v0, v1, v2⟩, ?_, ⟨f0, f1, f2⟩⟩
  apply List.ext_getElem?
  intro i
  match i with
  | 0 => rw [c0]; rfl
  | 1 => rw [c1]; rfl
  | 2 => rw [c2]; rfl
  | k + 3 => rw [List.getElem?_eq_none (by omega)]; rfl
theorem tys_open {H : Type} {enc : TypeId × Value → H} {w : World} {base : Nat} {s : Sl} {d : DataW H} {p : List MemPlace} (h : DataW.Trod enc Tryz.prog w base (fun _ => true) true 50 s.v d p) (hw : ∀ m ∈ d.weights Tryz.prog 50, m ≤ reachBytes) : ∃ l, TysIn w s l :=
  lin_open (size := 2) Tryz.underlying50 (by kernel_rfl) (by kernel_rfl) (by decide) (fun _ => rfl) (fun _ => ⟨_, rfl⟩) ty_cells h hw
theorem mp_cells {H : Type} {enc : TypeId × Value → H} {w : World} {base : Nat} (n : Nat) (cs : List Value) (x : DataW H × List MemPlace)
    (h : DataW.trod enc Tryz.prog w base (fun _ => true) true n 52 cs = some x) (hw : ∀ m ∈ x.1.weights Tryz.prog 52, m ≤ reachBytes) :
    ∃ y : MpR, cs = mpc y ∧ MpIn w y := by
  have hl : cs.length = 3 := st_len Tryz.underlying52 (by kernel_rfl) h
  obtain ⟨_, y0, g0, w0⟩ := st_field Tryz.underlying52 h hw (i := 0) rfl
  obtain ⟨v0, c0, f0⟩ := int_leaf (o := 0) g0
  obtain ⟨_, y1, g1, w1⟩ := st_field Tryz.underlying52 h hw (i := 1) rfl
  obtain ⟨v1, c1, t1⟩ := sl_leaf (o := 1) Tryz.underlying50 (by kernel_rfl) g1
  obtain ⟨_, y2, g2, w2⟩ := st_field Tryz.underlying52 h hw (i := 2) rfl
  obtain ⟨v2, c2, t2⟩ := sl_leaf (o := 2) Tryz.underlying50 (by kernel_rfl) g2
  obtain ⟨l1, h1⟩ := tys_open t1 w1
  obtain ⟨l2, h2⟩ := tys_open t2 w2
  refine ⟨⟨⟨v0, l1, l2⟩, v1, v2⟩, ?_, ⟨f0, h1, h2⟩⟩
  apply List.ext_getElem?
  intro i
  match i with
  | 0 => rw [c0]; rfl
  | 1 => rw [c1]; rfl
  | 2 => rw [c2]; rfl
  | k + 3 => rw [List.getElem?_eq_none (by omega)]; rfl
theorem cd_cells {H : Type} {enc : TypeId × Value → H} {w : World} {base : Nat} (n : Nat) (cs : List Value) (x : DataW H × List MemPlace)
    (h : DataW.trod enc Tryz.prog w base (fun _ => true) true n 47 cs = some x) (hw : ∀ m ∈ x.1.weights Tryz.prog 47, m ≤ reachBytes) :
    ∃ (st lo : Int) (b hh mm : Sl) (lb : List UInt8) (lh : List Hd) (lm : List MpR), cs[0]? = some (.int .i64 st) ∧ cs[1]? = some (.int .i64 lo) ∧ cs[2]? = some b.v ∧ cs[3]? = some hh.v ∧ cs[4]? = some mm.v ∧ fitI st ∧ fitI lo ∧ Arg w b.a b.n b.c lb ∧ b.n ≤ 140737488351232 ∧ LIn 4 32 hdc HdFit w hh lh ∧ LIn 3 56 mpc (MpIn w) w mm lm := by
  obtain ⟨_, y0, g0, w0⟩ := st_field Tryz.underlying47 h hw (i := 0) rfl
  obtain ⟨v0, c0, f0⟩ := int_leaf (o := 0) g0
  obtain ⟨_, y1, g1, w1⟩ := st_field Tryz.underlying47 h hw (i := 1) rfl
  obtain ⟨v1, c1, f1⟩ := int_leaf (o := 1) g1
  obtain ⟨_, y2, g2, w2⟩ := st_field Tryz.underlying47 h hw (i := 2) rfl
  obtain ⟨v2, c2, t2⟩ := sl_leaf (o := 2) Tryz.underlying29 (by kernel_rfl) g2
  obtain ⟨_, y3, g3, w3⟩ := st_field Tryz.underlying47 h hw (i := 3) rfl
  obtain ⟨v3, c3, t3⟩ := sl_leaf (o := 3) Tryz.underlying44 (by kernel_rfl) g3
  obtain ⟨_, y4, g4, w4⟩ := st_field Tryz.underlying47 h hw (i := 4) rfl
  obtain ⟨v4, c4, t4⟩ := sl_leaf (o := 4) Tryz.underlying45 (by kernel_rfl) g4
  obtain ⟨lb, h2, h2n⟩ := arg6 t2 w2
  obtain ⟨lh, h3⟩ := lin_open (size := 4) Tryz.underlying44 (by kernel_rfl) (by kernel_rfl) (by decide) (fun _ => rfl) (fun _ => ⟨_, rfl⟩) hd_cells t3 w3
  obtain ⟨lm, h4⟩ := lin_open (size := 3) Tryz.underlying45 (by kernel_rfl) (by kernel_rfl) (by decide) (fun _ => rfl) (fun _ => ⟨_, rfl⟩) mp_cells t4 w4
  exact ⟨v0, v1, v2, v3, v4, lb, lh, lm, c0, c1, c2, c3, c4, f0, f1, h2, h2n, h3, h4⟩
theorem md_cells {H : Type} {enc : TypeId × Value → H} {w : World} {base : Nat} (n : Nat) (cs : List Value) (x : DataW H × List MemPlace)
    (h : DataW.trod enc Tryz.prog w base (fun _ => true) true n 49 cs = some x) (hw : ∀ m ∈ x.1.weights Tryz.prog 49, m ≤ reachBytes) :
    ∃ y : MdR, cs = mdc y ∧ MdIn w y := by
  have hl : cs.length = 8 := st_len Tryz.underlying49 (by kernel_rfl) h
  obtain ⟨_, y0, g0, w0⟩ := st_field Tryz.underlying49 h hw (i := 0) rfl
  obtain ⟨v0, c0, f0⟩ := int_leaf (o := 0) g0
  obtain ⟨_, y1, g1, w1⟩ := st_field Tryz.underlying49 h hw (i := 1) rfl
  obtain ⟨v1, c1, f1⟩ := str_leaf (o := 1) g1 w1
  obtain ⟨_, y2, g2, w2⟩ := st_field Tryz.underlying49 h hw (i := 2) rfl
  obtain ⟨v2, c2, f2⟩ := str_leaf (o := 2) g2 w2
  obtain ⟨_, y3, g3, w3⟩ := st_field Tryz.underlying49 h hw (i := 3) rfl
  obtain ⟨st, lo, b, hh, mm, lb, lh, lm, d0, d1, d2, d3, d4, e0, e1, e2, e3, e4, e5⟩ := cd_cells _ _ _ g3 w3
  have hc : Tryz.prog.cellsOf 47 = 5 := by kernel_rfl
  have key : ∀ j, j < 5 → ((cs.drop 3).take (Tryz.prog.cellsOf 47))[j]? = cs[3 + j]? := fun j hj => by
    rw [hc, List.getElem?_take_of_lt hj, List.getElem?_drop]
  have c3 := (key 0 (by decide)).symm.trans d0
  have c4 := (key 1 (by decide)).symm.trans d1
  have c5 := (key 2 (by decide)).symm.trans d2
  have c6 := (key 3 (by decide)).symm.trans d3
  have c7 := (key 4 (by decide)).symm.trans d4
  refine ⟨⟨⟨v0, v1, v2, ⟨st, lo, lb, lh, lm.map MpR.m⟩⟩, b, hh, mm, lm⟩, ?_, ⟨f0, f1, f2, e0, e1, e2, e3, e4, e5, rfl⟩⟩
  apply List.ext_getElem?
  intro i
  match i with
  | 0 => rw [c0]; rfl
  | 1 => rw [c1]; rfl
  | 2 => rw [c2]; rfl
  | 3 => rw [c3]; rfl
  | 4 => rw [c4]; rfl
  | 5 => rw [c5]; rfl
  | 6 => rw [c6]; rfl
  | 7 => rw [c7]; rfl
  | k + 8 => rw [List.getElem?_eq_none (by omega)]; rfl
/-- A class that came in. -/
theorem class_arg {H : Type} {enc : TypeId × Value → H} {W : World} {base b2 : Nat} {v : Value} {d : DataW H} {p : List MemPlace} (hv : Value.okWide Tryz.prog W .any b2 26 v)
    (h0 : DataW.Trod enc Tryz.prog W base (fun _ => true) true 26 v d p) (hw : ∀ m ∈ d.weights Tryz.prog 26, m ≤ reachBytes) : ∃ r : ClR, v = r.v ∧ CIn W r := by
  obtain ⟨fuel, h⟩ := h0
  simp only [Value.okWide, Tryz.underlying26] at hv
  obtain ⟨cs0, rfl, _⟩ := hv
  have hl := st_len Tryz.underlying26 (k := 5) (by kernel_rfl) h
  obtain ⟨_, y0, g0, w0⟩ := st_field Tryz.underlying26 h hw (i := 0) rfl
  obtain ⟨v0, c0, t0⟩ := sl_leaf (o := 0) Tryz.underlying22 (by kernel_rfl) g0
  obtain ⟨_, y1, g1, w1⟩ := st_field Tryz.underlying26 h hw (i := 1) rfl
  obtain ⟨v1, c1, f1⟩ := str_leaf (o := 1) g1 w1
  obtain ⟨_, y2, g2, w2⟩ := st_field Tryz.underlying26 h hw (i := 2) rfl
  obtain ⟨v2, c2, f2⟩ := str_leaf (o := 2) g2 w2
  obtain ⟨_, y3, g3, w3⟩ := st_field Tryz.underlying26 h hw (i := 3) rfl
  obtain ⟨v3, c3, t3⟩ := sl_leaf (o := 3) Tryz.underlying23 (by kernel_rfl) g3
  obtain ⟨_, y4, g4, w4⟩ := st_field Tryz.underlying26 h hw (i := 4) rfl
  obtain ⟨v4, c4, t4⟩ := sl_leaf (o := 4) Tryz.underlying24 (by kernel_rfl) g4
  obtain ⟨l0, h0⟩ := ents_arg t0 w0
  obtain ⟨l3, h3⟩ := lin_open (size := 3) Tryz.underlying23 (by kernel_rfl) (by kernel_rfl) (by decide) (fun _ => rfl) (fun _ => ⟨_, rfl⟩) fd_cells t3 w3
  obtain ⟨l4, h4⟩ := lin_open (size := 8) Tryz.underlying24 (by kernel_rfl) (by kernel_rfl) (by decide) (fun _ => rfl) (fun _ => ⟨_, rfl⟩) md_cells t4 w4
  refine ⟨⟨⟨l0, v1, v2, l3, l4.map MdR.m⟩, v0, v3, v4, l4⟩, ?_, ⟨h0, f1, f2, h3, h4, rfl⟩⟩
  unfold ClR.v
  congr 1
  apply Array.toList_inj.1
  have hcs : (Value.agg cs0).cells.toList = cs0.toList := by simp [Value.cells]
  rw [hcs] at c0 c1 c2 c3 c4 hl
  apply List.ext_getElem?
  intro i
  match i with
  | 0 => rw [c0]; rfl
  | 1 => rw [c1]; rfl
  | 2 => rw [c2]; rfl
  | 3 => rw [c3]; rfl
  | 4 => rw [c4]; rfl
  | k + 5 => rw [List.getElem?_eq_none (by omega)]; rfl
end Go.Proofs.YtdcoknnjgpdigaaGreatDoor

/- SameEntries. -/
namespace Go.Proofs.YtdcoknnjgpdigaaGreatDoor
open Go.RowKit
set_option linter.unusedVariables false

set_option maxHeartbeats 1600000 in
theorem SameEntries_same (w : World) (a b : Option Addr) (n c d : Nat) (x : List Ent) (hA : Es w a n x) (hB : Es w b n x) (hs : n ≤ 140737488351232) :
    Calls Tryz.prog 32 #[.slice a n c, .slice b n d] w fun e w' => e = .returned (.bool true) ∧ Below w.heap.size w w' := by
  have hln := hA.1
  have HA := hide hA
  have HB := hide hB
  clear hA hB
  go_enter Tryz.func32, Tryz.ntmps32
  go_wp2
  go_loopw [5] (fun i wr => ∃ k : Nat, k ≤ n ∧ i = .int .i64 k ∧ Below w.heap.size w wr) (fun i _ => n - (intOf i).toNat)
  case atStart => exact ⟨0, by omega, rfl, Below.refl _ _⟩
  case round =>
    obtain ⟨k, hk, rfl, hR⟩ := hrel
    by_cases hlt : k < n
    · have hlt1 : (k : Int) < (n : Int) := by omega
      obtain ⟨b1, o1, rfl, h1⟩ := (unhide HA).2.resolve_left (by omega)
      obtain ⟨b2, o2, rfl, h2⟩ := (unhide HB).2.resolve_left (by omega)
      obtain ⟨r, hr⟩ : ∃ r, x[k]? = some r := ⟨_, List.getElem?_eq_getElem (by omega)⟩
      obtain ⟨c0, c1, c2, c3, c4⟩ := ents_get (h1.below hR) hr
      obtain ⟨d0, d1, d2, d3, d4⟩ := ents_get (h2.below hR) hr
      generalize r.tag = tg at *
      generalize r.n = rn at *
      generalize r.a = ra at *
      generalize r.b = rb at *
      generalize (⟨r.text.toArray⟩ : ByteArray) = st at *
      have HR := hide hR
      clear h1 h2 hr hR
      go_wp2
      go_quiet (fail)
      go_wp2
      go_roundw
      case rel => exact ⟨k + 1, by omega, by go_num, below_drewN (unhide HR) _⟩
      case measure => simp [intOf]; omega
    · obtain rfl : k = n := by omega
      have HR := hide hR
      clear hR
      go_wp2
      go_ret
      exact ⟨rfl, unhide HR⟩

end Go.Proofs.YtdcoknnjgpdigaaGreatDoor

/- Classes held against one another: SameFields, SameHandlers, SameTypes, SameMaps. -/
namespace Go.Proofs.YtdcoknnjgpdigaaGreatDoor
open Go.RowKit
set_option linter.unusedVariables false

/-- The cells of record k. -/
def RowAt (w : World) (b o : Nat) (vs : List Value) : Prop := ∀ (q : Nat) (u : Value), vs[q]? = some u → w.cell? ⟨b, o + q, none⟩ = some u
theorem RowAt.zero {w : World} {b o : Nat} {v : Value} {vs : List Value} (h : RowAt w b o (v :: vs)) : w.cell? ⟨b, o, none⟩ = some v := h 0 v rfl
theorem Ls.row {α : Type} {sz : Nat} {cs : α → List Value} {w w' : World} {a : Option Addr} {n : Nat} {l : List α} (h : Ls sz cs w a n l) (hn : n ≠ 0) : ∃ b o, a = some ⟨b, o, none⟩ ∧ ∀ {w' : World}, Below w.heap.size w w' → ∀ (k : Nat) (x : α), l[k]? = some x → RowAt w' b (o + k * sz) (cs x) := by
  rcases h.2 with h0 | ⟨b, o, e, hb, hc⟩
  · exact absurd h0 hn
  · exact ⟨b, o, e, fun f k x hx q u hu => (f.cell hb).trans (hc k x hx q u hu)⟩

set_option maxHeartbeats 1600000 in
theorem SameFields_same (w : World) (s t : Sl) (l : List Fd) (hA : LIn 3 40 fdc FdFit w s l) (hB : LIn 3 40 fdc FdFit w t l) :
    Calls Tryz.prog 33 #[s.v, t.v] w fun e w' => e = .returned (.bool true) ∧ Below w.heap.size w w' := by
  obtain ⟨a, n, c⟩ := s
  obtain ⟨b, m, d⟩ := t
  have hs := hA.small
  have hln := hA.ls.1
  have hlm := hB.ls.1
  simp only at hln hlm hs
  obtain rfl : n = m := by omega
  have hs1 : n ≤ 140737488351232 := by omega
  unfold Sl.v
  simp only
  have HA := hide hA.ls
  have HB := hide hB.ls
  clear hA hB hs
  go_enter Tryz.func33, Tryz.ntmps33
  go_wp2
  go_loopw [5] (fun i wr => ∃ k : Nat, k ≤ n ∧ i = .int .i64 k ∧ Below w.heap.size w wr) (fun i _ => n - (intOf i).toNat)
  case atStart => exact ⟨0, by omega, rfl, Below.refl _ _⟩
  case round =>
    obtain ⟨k, hk, rfl, hR⟩ := hrel
    by_cases hlt : k < n
    · have hlt1 : (k : Int) < (n : Int) := by omega
      obtain ⟨b1, o1, h1a, h1⟩ := Ls.row (unhide HA) (w' := w) (by show n ≠ 0; omega)
      obtain ⟨b2, o2, h2a, h2⟩ := Ls.row (unhide HB) (w' := w) (by show n ≠ 0; omega)
      subst h1a h2a
      obtain ⟨r, hr⟩ : ∃ r, l[k]? = some r := ⟨_, List.getElem?_eq_getElem (by omega)⟩
      have q1 := h1 hR k r hr
      have q2 := h2 hR k r hr
      have c0 := q1.zero
      have c1 := q1 1 _ rfl
      have c2 := q1 2 _ rfl
      have d0 := q2.zero
      have d1 := q2 1 _ rfl
      have d2 := q2 2 _ rfl
      clear q1 q2
      generalize r.acc = ra at *
      generalize (⟨r.name.toArray⟩ : ByteArray) = s1 at *
      generalize (⟨r.type.toArray⟩ : ByteArray) = s2 at *
      have HR := hide hR
      clear h1 h2 hr hR
      go_wp2
      go_quiet (fail)
      go_wp2
      go_roundw
      case rel => exact ⟨k + 1, by omega, by go_num, below_drewN (unhide HR) _⟩
      case measure => simp [intOf]; omega
    · obtain rfl : k = n := by omega
      have HR := hide hR
      clear hR
      go_wp2
      go_ret
      exact ⟨rfl, unhide HR⟩
set_option maxHeartbeats 1600000 in
theorem SameHandlers_same (w : World) (s t : Sl) (l : List Hd) (hA : LIn 4 32 hdc HdFit w s l) (hB : LIn 4 32 hdc HdFit w t l) :
    Calls Tryz.prog 34 #[s.v, t.v] w fun e w' => e = .returned (.bool true) ∧ Below w.heap.size w w' := by
  obtain ⟨a, n, c⟩ := s
  obtain ⟨b, m, d⟩ := t
  have hs := hA.small
  have hln := hA.ls.1
  have hlm := hB.ls.1
  simp only at hln hlm hs
  obtain rfl : n = m := by omega
  have hs1 : n ≤ 140737488351232 := by omega
  unfold Sl.v
  simp only
  have HA := hide hA.ls
  have HB := hide hB.ls
  clear hA hB hs
  go_enter Tryz.func34, Tryz.ntmps34
  go_wp2
  go_loopw [5] (fun i wr => ∃ k : Nat, k ≤ n ∧ i = .int .i64 k ∧ Below w.heap.size w wr) (fun i _ => n - (intOf i).toNat)
  case atStart => exact ⟨0, by omega, rfl, Below.refl _ _⟩
  case round =>
    obtain ⟨k, hk, rfl, hR⟩ := hrel
    by_cases hlt : k < n
    · have hlt1 : (k : Int) < (n : Int) := by omega
      obtain ⟨b1, o1, h1a, h1⟩ := Ls.row (unhide HA) (w' := w) (by show n ≠ 0; omega)
      obtain ⟨b2, o2, h2a, h2⟩ := Ls.row (unhide HB) (w' := w) (by show n ≠ 0; omega)
      subst h1a h2a
      obtain ⟨r, hr⟩ : ∃ r, l[k]? = some r := ⟨_, List.getElem?_eq_getElem (by omega)⟩
      have q1 := h1 hR k r hr
      have q2 := h2 hR k r hr
      have c0 := q1.zero
      have c1 := q1 1 _ rfl
      have c2 := q1 2 _ rfl
      have c3 := q1 3 _ rfl
      have d0 := q2.zero
      have d1 := q2 1 _ rfl
      have d2 := q2 2 _ rfl
      have d3 := q2 3 _ rfl
      clear q1 q2
      generalize r.frm = r1 at *
      generalize r.to_ = r2 at *
      generalize r.at_ = r3 at *
      generalize r.cls = r4 at *
      have HR := hide hR
      clear h1 h2 hr hR
      go_wp2
      go_quiet (fail)
      go_wp2
      go_roundw
      case rel => exact ⟨k + 1, by omega, by go_num, below_drewN (unhide HR) _⟩
      case measure => simp [intOf]; omega
    · obtain rfl : k = n := by omega
      have HR := hide hR
      clear hR
      go_wp2
      go_ret
      exact ⟨rfl, unhide HR⟩
set_option maxHeartbeats 1600000 in
theorem SameTypes_same (w : World) (s t : Sl) (l : List Ty) (hA : LIn 2 24 tyc TyFit w s l) (hB : LIn 2 24 tyc TyFit w t l) :
    Calls Tryz.prog 71 #[s.v, t.v] w fun e w' => e = .returned (.bool true) ∧ Below w.heap.size w w' := by
  obtain ⟨a, n, c⟩ := s
  obtain ⟨b, m, d⟩ := t
  have hs := hA.small
  have hln := hA.ls.1
  have hlm := hB.ls.1
  simp only at hln hlm hs
  obtain rfl : n = m := by omega
  have hs1 : n ≤ 140737488351232 := by omega
  unfold Sl.v
  simp only
  have HA := hide hA.ls
  have HB := hide hB.ls
  clear hA hB hs
  go_enter Tryz.func71, Tryz.ntmps71
  go_wp2
  go_loopw [5] (fun i wr => ∃ k : Nat, k ≤ n ∧ i = .int .i64 k ∧ Below w.heap.size w wr) (fun i _ => n - (intOf i).toNat)
  case atStart => exact ⟨0, by omega, rfl, Below.refl _ _⟩
  case round =>
    obtain ⟨k, hk, rfl, hR⟩ := hrel
    by_cases hlt : k < n
    · have hlt1 : (k : Int) < (n : Int) := by omega
      obtain ⟨b1, o1, h1a, h1⟩ := Ls.row (unhide HA) (w' := w) (by show n ≠ 0; omega)
      obtain ⟨b2, o2, h2a, h2⟩ := Ls.row (unhide HB) (w' := w) (by show n ≠ 0; omega)
      subst h1a h2a
      obtain ⟨r, hr⟩ : ∃ r, l[k]? = some r := ⟨_, List.getElem?_eq_getElem (by omega)⟩
      have q1 := h1 hR k r hr
      have q2 := h2 hR k r hr
      have c0 := q1.zero
      have c1 := q1 1 _ rfl
      have d0 := q2.zero
      have d1 := q2 1 _ rfl
      clear q1 q2
      generalize r.kind = ra at *
      generalize (⟨r.name.toArray⟩ : ByteArray) = s1 at *
      have HR := hide hR
      clear h1 h2 hr hR
      go_wp2
      go_quiet (fail)
      go_wp2
      go_roundw
      case rel => exact ⟨k + 1, by omega, by go_num, below_drewN (unhide HR) _⟩
      case measure => simp [intOf]; omega
    · obtain rfl : k = n := by omega
      have HR := hide hR
      clear hR
      go_wp2
      go_ret
      exact ⟨rfl, unhide HR⟩
end Go.Proofs.YtdcoknnjgpdigaaGreatDoor
