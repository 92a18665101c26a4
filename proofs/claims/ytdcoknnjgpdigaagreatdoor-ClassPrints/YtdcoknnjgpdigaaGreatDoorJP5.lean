/- Joined: ArB PlAr ArC ClA. -/
import Derived.Test.YtdcoknnjgpdigaaGreatDoorJP4
import Derived.Test.YtdcoknnjgpdigaaGreatDoorJP1
import Derived.Test.YtdcoknnjgpdigaaGreatDoorJP2
import Derived.Deep.Slices
import Derived.SizedLaws

/- A slice that came in, opened, whatever its members are. -/
namespace Go.Proofs.YtdcoknnjgpdigaaGreatDoor
open Go.ChangeShapes Go.WideShapes Go.ChangeAt Go.RowKit
set_option linter.unusedVariables false

theorem open_list {α : Type} {H : Type} {enc : TypeId × Value → H} {w : World} {base : Nat} {T e : TypeId} {size : Nat} (hT : Tryz.prog.underlying T = some (.slice e)) (hsz : Tryz.prog.cellsOf e = size) (hpos : 0 < size) {ok : α → Prop} {val : α → List Value} (hval : ∀ y, (val y).length = size) (hone : ∀ y, ∃ v, (val y)[0]? = some v)
    (hop : ∀ (n : Nat) (cs : List Value) (x : DataW H × List MemPlace), DataW.trod enc Tryz.prog w base (fun _ => true) true n e cs = some x → (∀ m ∈ x.1.weights Tryz.prog e, m ≤ reachBytes) → ∃ y, cs = val y ∧ ok y)
    {a : Option Addr} {len cap : Nat} {d : DataW H} {p : List MemPlace} (h : DataW.Trod enc Tryz.prog w base (fun _ => true) true T (.slice a len cap) d p) (hw : ∀ m ∈ d.weights Tryz.prog T, m ≤ reachBytes) :
    ∃ l : List α, l.length = len ∧ len ≤ cap ∧ cap ≤ 9223372036854775807 ∧ len * Tryz.prog.bytesOf e ≤ reachBytes ∧ (a = none → len = 0 ∧ cap = 0) ∧ (∀ y ∈ l, ok y) ∧
      (len = 0 ∨ ∃ b o, a = some ⟨b, o, none⟩ ∧ b < w.heap.size ∧ ∀ (j : Nat) (y : α), l[j]? = some y → ∀ (i : Nat) (v : Value), (val y)[i]? = some v → w.cell? ⟨b, o + j * size + i, none⟩ = some v) := by
  obtain ⟨fuel, h⟩ := h
  rcases Go.Deep.open_slice hT (by simpa [Value.cells] using h) with ⟨hcs, _⟩ | ⟨ad, len', cap', m, n, D, Pl, hcs, _, hl, hm, hmm, hx, hel⟩
  · simp at hcs
    obtain ⟨rfl, rfl, rfl⟩ := hcs
    exact ⟨[], rfl, by omega, by omega, by simp, fun _ => ⟨rfl, rfl⟩, (fun y hy => by cases hy), .inl rfl⟩
  · simp at hcs
    obtain ⟨rfl, rfl, rfl⟩ := hcs
    unfold maxLen at hm
    have hlm : len ≤ m := by rw [hmm]; split <;> omega
    injection hx with hx _
    have hby : len * Tryz.prog.bytesOf e ≤ reachBytes := by
      have := hw ((((List.range len).map D).length + ((List.range (m - len)).map fun j => D (len + j)).length) * Tryz.prog.bytesOf e) (by
        rw [hx]
        simp [DataW.weights, hT])
      simp only [List.length_map, List.length_range] at this
      exact Nat.le_trans (Nat.mul_le_mul_right _ (by omega)) this
    by_cases h0 : len = 0
    · subst h0
      exact ⟨[], rfl, by omega, by omega, hby, (fun e => by cases e), (fun y hy => by cases hy), .inl rfl⟩
    have hwi : ∀ i, i < len → ∀ k ∈ (D i).weights Tryz.prog e, k ≤ reachBytes := by
      intro i hi k hk
      refine hw k ?_
      rw [hx]
      simp only [DataW.weights, hT]
      refine List.mem_cons_of_mem _ (List.mem_append_left _ (weightsAll_mem hk ?_))
      exact List.mem_map.2 ⟨i, List.mem_range.2 hi, rfl⟩
    have hE : ∀ i, i < len → ∃ y : α, (∀ (j : Nat) (v : Value), (val y)[j]? = some v → w.cell? ((ad.add (i * size)).add j) = some v) ∧ ok y := by
      intro i hi
      obtain ⟨cs', h1, h2⟩ := hel i (by omega)
      rw [hsz] at h1
      obtain ⟨y, hcs, hfit⟩ := hop _ _ _ h2 (hwi i hi)
      have hc := World.cells?_some h1
      refine ⟨y, fun j v hv => ?_, hfit⟩
      have hj := (List.getElem?_eq_some_iff.1 hv).1
      rw [hval] at hj
      have g := hc.2.2 j (by omega)
      rw [hcs, hv] at g
      exact g
    have hsp : ad = ⟨ad.block, ad.off, none⟩ := by
      obtain ⟨y, g, _⟩ := hE 0 (by omega)
      obtain ⟨v, hv⟩ := hone y
      exact spot_none (w := w) (a := ad) (by simpa [Addr.add] using g 0 v hv)
    have hbl : ad.block < w.heap.size := by
      obtain ⟨y, g, _⟩ := hE 0 (by omega)
      obtain ⟨v, hv⟩ := hone y
      exact World.block_lt_of_cell? w ad (by simpa [Addr.add] using g 0 v hv)
    let F : ∀ i, i < len → α := fun i hi => Classical.choose (hE i hi)
    have hF : ∀ i (hi : i < len), (∀ (j : Nat) (v : Value), (val (F i hi))[j]? = some v → w.cell? ((ad.add (i * size)).add j) = some v) ∧ ok (F i hi) := fun i hi => Classical.choose_spec (hE i hi)
    have hget : ∀ (j : Nat) (z : α), (List.ofFn (fun i : Fin len => F i.1 i.2))[j]? = some z → ∃ hj : j < len, z = F j hj := by
      intro j z hz
      have hj : j < len := by have := (List.getElem?_eq_some_iff.1 hz).1; simpa using this
      refine ⟨hj, ?_⟩
      obtain ⟨_, e⟩ := List.getElem?_eq_some_iff.1 hz
      rw [← e]; simp
    refine ⟨List.ofFn (fun i : Fin len => F i.1 i.2), by simp, hl, by omega, hby, (fun e => by cases e), ?_, .inr ⟨ad.block, ad.off, by rw [← hsp], hbl, ?_⟩⟩
    · intro z hz
      obtain ⟨j, hj, e⟩ := List.getElem_of_mem hz
      obtain ⟨hj', rfl⟩ := hget j z (by rw [List.getElem?_eq_getElem hj, e])
      exact (hF j hj').2
    · intro j z hz i v hv
      obtain ⟨hj, rfl⟩ := hget j z hz
      have := (hF j hj).1 i v hv
      rw [hsp, Addr.add_mid, Addr.add_mid] at this
      exact this

end Go.Proofs.YtdcoknnjgpdigaaGreatDoor

/- Entries and constants that came in, opened for the walks. -/
namespace Go.Proofs.YtdcoknnjgpdigaaGreatDoor
open Go.ChangeShapes Go.WideShapes Go.ChangeAt Go.RowKit
set_option linter.unusedVariables false
set_option maxRecDepth 100000

theorem cellsS7 : Tryz.prog.cellsOf 9 = 1 := by kernel_rfl
theorem cellsE7 : Tryz.prog.cellsOf 55 = 5 := by kernel_rfl
theorem bytesE7 : Tryz.prog.bytesOf 55 = 48 := by kernel_rfl
def EntOk (x : Ent) : Prop := x.text.length ≤ 140737488355328 ∧ EntFit x
theorem str_len {H : Type} {s : ByteArray} (hm : s.data.toList.length ≤ reachBytes) : s.data.toList.length ≤ 140737488355328 := by
  unfold reachBytes at hm
  omega
theorem ent_cells {H : Type} {enc : TypeId × Value → H} {w : World} {base : Nat} {n : Nat} {cs : List Value} {x : DataW H × List MemPlace}
    (h : DataW.trod enc Tryz.prog w base (fun _ => true) true n 55 cs = some x) (hw : ∀ m ∈ x.1.weights Tryz.prog 55, m ≤ reachBytes) :
    ∃ y : Ent, cs = ec y ∧ EntOk y := by
  obtain ⟨xs, m, _, rfl, hl, hlen, hf⟩ := DataW.trod_struct Tryz.underlying55 h
  have f0 := hf 0 { name := "Tag", type := 3, offset := 0, embedded := false, tag := "", pkgPath := "", byteOffset := 0 } rfl
  have f1 := hf 1 { name := "Text", type := 9, offset := 1, embedded := false, tag := "", pkgPath := "", byteOffset := 8 } rfl
  have f2 := hf 2 { name := "N", type := 3, offset := 2, embedded := false, tag := "", pkgPath := "", byteOffset := 24 } rfl
  have f3 := hf 3 { name := "A", type := 3, offset := 3, embedded := false, tag := "", pkgPath := "", byteOffset := 32 } rfl
  have f4 := hf 4 { name := "B", type := 3, offset := 4, embedded := false, tag := "", pkgPath := "", byteOffset := 40 } rfl
  simp only [cellsI, cellsS7] at f0 f1 f2 f3 f4
  have l5 : xs.length = 5 := hlen
  rw [cellsE7] at hl
  rw [List.getElem?_eq_getElem (by omega)] at f0 f1 f2 f3 f4
  obtain ⟨n0, e0, _, w0⟩ := DataW.trod_int Tryz.underlying3 f0
  obtain ⟨s, e1, hx1, hs⟩ := DataW.trod_string Tryz.underlying9 f1
  obtain ⟨n2, e2, _, w2⟩ := DataW.trod_int Tryz.underlying3 f2
  obtain ⟨n3, e3, _, w3⟩ := DataW.trod_int Tryz.underlying3 f3
  obtain ⟨n4, e4, _, w4⟩ := DataW.trod_int Tryz.underlying3 f4
  refine ⟨⟨n0, s.data.toList, n2, n3, n4⟩, ?_, ?_, bounds_i64 w0, bounds_i64 w2, bounds_i64 w3, bounds_i64 w4⟩
  · have c0 := take_one e0
    have c1 := take_one e1
    have c2 := take_one e2
    have c3 := take_one e3
    have c4 := take_one e4
    apply List.ext_getElem?
    intro i
    match i with
    | 0 => rw [c0]; rfl
    | 1 => rw [c1]; rfl
    | 2 => rw [c2]; rfl
    | 3 => rw [c3]; rfl
    | 4 => rw [c4]; rfl
    | k + 5 => rw [List.getElem?_eq_none (by omega)]; rfl
  · have hm := hw s.data.toList.length (by
      simp only [DataW.weights, Tryz.underlying55]
      refine DataW.weights_mem_each (j := 1) (t := 9) (d := xs[1].1) rfl ?_ _ ?_
      · rw [List.getElem?_map, List.getElem?_eq_getElem (by omega)]; rfl
      · rw [hx1]
        simp [DataW.weights])
    exact str_len (H := H) hm
theorem ents_arg {H : Type} {enc : TypeId × Value → H} {w : World} {base : Nat} {a : Option Addr} {len cap : Nat} {d : DataW H} {p : List MemPlace}
    (h : DataW.Trod enc Tryz.prog w base (fun _ => true) true 22 (.slice a len cap) d p) (hw : ∀ m ∈ d.weights Tryz.prog 22, m ≤ reachBytes) :
    ∃ l : List Ent, EIn w a len cap l := by
  obtain ⟨l, h1, h2, h3, h4, h5, h6, h7⟩ := open_list Tryz.underlying22 cellsE7 (by decide) (ok := EntOk) (val := ec) ec_len (fun y => ⟨_, rfl⟩) (fun n cs x hx hwx => ent_cells hx hwx) h hw
  rw [bytesE7] at h4
  unfold reachBytes at h4
  refine ⟨l, ⟨⟨h1, ?_⟩, h2, h3, h5⟩, h4, fun y hy => (h6 y hy).1, fun y hy => (h6 y hy).2⟩
  rcases h7 with h0 | ⟨b, o, e, _, hc⟩
  · exact .inl h0
  · refine .inr ⟨b, o, e, fun ad ead j u hu => ?_⟩
    injection ead with ead
    subst ead
    rw [Addr.add_mid]
    have hj := (List.getElem?_eq_some_iff.1 hu).1
    rw [ev_len] at hj
    obtain ⟨y, hy⟩ : ∃ y, l[j / 5]? = some y := ⟨_, List.getElem?_eq_getElem (by omega)⟩
    have hg := ev_get hy (j % 5) (by omega)
    rw [show 5 * (j / 5) + j % 5 = j by omega, hu] at hg
    have := hc (j / 5) y hy (j % 5) u hg.symm
    rw [show o + j / 5 * 5 + j % 5 = o + j by omega] at this
    exact this
end Go.Proofs.YtdcoknnjgpdigaaGreatDoor

/- Bytes that came in, opened for the walks. -/
namespace Go.Proofs.YtdcoknnjgpdigaaGreatDoor
open Go.ChangeShapes Go.WideShapes Go.ChangeAt Go.RowKit
set_option linter.unusedVariables false

theorem cells1B : Tryz.prog.cellsOf 5 = 1 := by kernel_rfl
theorem bytes1B : Tryz.prog.bytesOf 5 = 1 := by kernel_rfl
theorem byte_cells {H : Type} {enc : TypeId × Value → H} {w : World} {base : Nat} (n : Nat) (cs : List Value) (x : DataW H × List MemPlace)
    (h : DataW.trod enc Tryz.prog w base (fun _ => true) true n 5 cs = some x) (hw : ∀ m ∈ x.1.weights Tryz.prog 5, m ≤ reachBytes) : ∃ y : UInt8, cs = [.int .u8 (y.toNat : Int)] ∧ True := by
  obtain ⟨z, e, _, hz⟩ := DataW.trod_int Tryz.underlying5 h
  have b := bounds_u8 hz
  refine ⟨UInt8.ofNat z.toNat, ?_, trivial⟩
  have e2 : ((UInt8.ofNat z.toNat).toNat : Int) = z := by simp; omega
  rw [e2]
  exact e
theorem arg6 {H : Type} {enc : TypeId × Value → H} {w : World} {base : Nat} {a : Option Addr} {len cap : Nat} {d : DataW H} {p : List MemPlace}
    (h : DataW.Trod enc Tryz.prog w base (fun _ => true) true 29 (.slice a len cap) d p) (hw : ∀ m ∈ d.weights Tryz.prog 29, m ≤ reachBytes) :
    ∃ l : List UInt8, Arg w a len cap l ∧ len ≤ 140737488351232 := by
  obtain ⟨l, h1, h2, h3, h4, h5, _, h6⟩ := open_list Tryz.underlying29 cells1B (by omega) (val := fun (y : UInt8) => [.int .u8 (y.toNat : Int)]) (ok := fun _ => True) (fun _ => rfl) (fun y => ⟨_, rfl⟩) byte_cells h hw
  rw [bytes1B] at h4
  unfold reachBytes at h4
  refine ⟨l, ⟨⟨h1, h6.elim .inl fun ⟨b, o, e, _, hc⟩ => .inr ⟨b, o, e, (fun e => by cases e), fun ad e2 j u hu => ?_⟩⟩, h2, h3, h5⟩, by omega⟩
  injection e2 with e2
  subst e2
  rw [Addr.add_mid]
  simp only [bv, List.getElem?_map] at hu
  obtain ⟨y, hy, rfl⟩ := Option.map_eq_some_iff.1 hu
  have := hc j y hy 0 _ rfl
  rw [Nat.mul_one, Nat.add_zero] at this
  exact this

end Go.Proofs.YtdcoknnjgpdigaaGreatDoor

/- Classes as plain values: right, told in bytes, read from bytes; what is told is read. -/
namespace Go.Proofs.YtdcoknnjgpdigaaGreatDoor
open Go.RowKit
set_option linter.unusedVariables false

structure Ty where
  kind : Int
  name : List UInt8
deriving DecidableEq
structure Mp where
  at_ : Int
  loc : List Ty
  stk : List Ty
structure Hd where
  frm : Int
  to_ : Int
  at_ : Int
  cls : Int
structure Cd where
  stack : Int
  locals : Int
  bytes : List UInt8
  hs : List Hd
  maps : List Mp
structure Fd where
  acc : Int
  name : List UInt8
  type : List UInt8
structure Md where
  acc : Int
  name : List UInt8
  type : List UInt8
  code : Cd
structure Cl where
  pool : List Ent
  name : List UInt8
  super : List UInt8
  fields : List Fd
  methods : List Md

def sCode : List UInt8 := [67, 111, 100, 101]
def sMaps : List UInt8 := [83, 116, 97, 99, 107, 77, 97, 112, 84, 97, 98, 108, 101]
/-- The number of a text, of a class; 0: there is none. -/
def utfN (l : List Ent) (s : List UInt8) : Nat := findE l (eUtf s)
def clsN (l : List Ent) (s : List UInt8) : Nat := ((List.range l.length).find? fun (i : Nat) => decide (1 ≤ i) && decide ((atE l (i : Int)).tag = 7 ∧ (atE l (atE l (i : Int)).a).text = s)).getD 0
theorem utfN_some {l : List Ent} {s : List UInt8} (h : utfN l s ≠ 0) : 1 ≤ utfN l s ∧ utfN l s < l.length ∧ atE l (utfN l s : Int) = eUtf s := by
  obtain ⟨h1, h2, h3⟩ := findE_some h
  refine ⟨h1, h2, ?_⟩
  unfold atE utfN
  rw [if_pos (Int.natCast_nonneg _), Int.toNat_natCast, h3]
  rfl
theorem clsN_some {l : List Ent} {s : List UInt8} (h : clsN l s ≠ 0) : 1 ≤ clsN l s ∧ clsN l s < l.length ∧ (atE l (clsN l s : Int)).tag = 7 ∧ (atE l (atE l (clsN l s : Int)).a).text = s := by
  obtain ⟨h1, h2, h3, _⟩ := first_some (k := clsN l s) rfl h
  simp only [decide_eq_true_eq] at h3
  exact ⟨h1, h2, h3⟩

/-- The types that are told: behind a long of the locals none is. -/
def toldT (loc : Bool) : List Ty → List Ty
  | [] => []
  | [t] => [t]
  | t :: z :: r => if loc = true ∧ t.kind = 2 then t :: toldT loc r else t :: toldT loc (z :: r)
def okT (l : List Ent) (t : Ty) : Bool := decide (t.kind = 0 ∨ t.kind = 1 ∨ t.kind = 2 ∨ t.kind = 3 ∨ t.kind = 4) && (if t.kind = 4 then decide (clsN l t.name ≠ 0) else decide (t.name = []))
def goT (l : List Ent) (loc : Bool) : List Ty → Bool
  | [] => true
  | [t] => okT l t && !(loc && decide (t.kind = 2))
  | t :: z :: r => okT l t && (if loc = true ∧ t.kind = 2 then decide (z = ⟨0, []⟩) && goT l loc r else goT l loc (z :: r))
def rightT (l : List Ent) (loc : Bool) (ts : List Ty) : Bool := decide (ts.length ≤ 64) && goT l loc ts
def tyB (l : List Ent) (t : Ty) : List UInt8 := if t.kind = 0 then [0] else if t.kind = 1 then [1] else if t.kind = 2 then [4] else if t.kind = 3 then [5] else 7 :: bytesW 2 (clsN l t.name)
def typesB (l : List Ent) (loc : Bool) (ts : List Ty) : List UInt8 := bytesW 2 (toldT loc ts).length ++ (toldT loc ts).flatMap (tyB l)
def mapB (l : List Ent) (last : Int) (m : Mp) : List UInt8 := 255 :: (bytesW 2 (m.at_ - last - 1) ++ (typesB l true m.loc ++ typesB l false m.stk))
def mpsB (l : List Ent) : Int → List Mp → List UInt8
  | _, [] => []
  | last, m :: r => mapB l last m ++ mpsB l m.at_ r
def rightM (l : List Ent) : Int → List Mp → Bool
  | _, [] => true
  | last, m :: r => decide (last < m.at_ ∧ m.at_ ≤ 65535) && rightT l true m.loc && rightT l false m.stk && rightM l m.at_ r
def mapsB (l : List Ent) (ms : List Mp) : List UInt8 := bytesW 2 ms.length ++ mpsB l (-1) ms
def hdB (h : Hd) : List UInt8 := bytesW 2 h.frm ++ (bytesW 2 h.to_ ++ (bytesW 2 h.at_ ++ bytesW 2 h.cls))
def in16 (n : Int) : Bool := decide (0 ≤ n ∧ n ≤ 65535)
def rightH (l : List Ent) (h : Hd) : Bool := decide (h.cls = 0 ∨ 0 < h.cls ∧ h.cls < l.length ∧ tagE l h.cls = 7) && in16 h.frm && in16 h.to_ && in16 h.at_
def tableB (l : List Ent) (ms : List Mp) : List UInt8 := if ms = [] then bytesW 2 0 else bytesW 2 1 ++ (bytesW 2 (utfN l sMaps) ++ (bytesW 4 (mapsB l ms).length ++ mapsB l ms))
def codeB (l : List Ent) (c : Cd) : List UInt8 := bytesW 2 c.stack ++ (bytesW 2 c.locals ++ (bytesW 4 c.bytes.length ++ (c.bytes ++ (bytesW 2 c.hs.length ++ (c.hs.flatMap hdB ++ tableB l c.maps)))))
def rightD (l : List Ent) (c : Cd) : Bool := decide (0 ≤ c.stack ∧ c.stack ≤ 64 ∧ 0 ≤ c.locals ∧ c.locals ≤ 64 ∧ 1 ≤ c.bytes.length ∧ c.bytes.length ≤ 4096 ∧ c.hs.length ≤ 256 ∧ c.maps.length ≤ 256) && c.hs.all (rightH l) && decide (c.maps = [] ∨ utfN l sMaps ≠ 0) && rightM l (-1) c.maps
def fieldB (l : List Ent) (f : Fd) : List UInt8 := bytesW 2 f.acc ++ (bytesW 2 (utfN l f.name) ++ (bytesW 2 (utfN l f.type) ++ bytesW 2 0))
def rightF (l : List Ent) (f : Fd) : Bool := decide (f.acc = 0 ∨ f.acc = 8) && decide (utfN l f.name ≠ 0 ∧ utfN l f.type ≠ 0)
def methodB (l : List Ent) (m : Md) : List UInt8 := bytesW 2 m.acc ++ (bytesW 2 (utfN l m.name) ++ (bytesW 2 (utfN l m.type) ++ (bytesW 2 1 ++ (bytesW 2 (utfN l sCode) ++ (bytesW 4 (codeB l m.code).length ++ codeB l m.code)))))
def rightMd (l : List Ent) (m : Md) : Bool := decide (m.acc = 0 ∨ m.acc = 8 ∨ m.acc = 32 ∨ m.acc = 40) && decide (utfN l m.name ≠ 0 ∧ utfN l m.type ≠ 0 ∧ utfN l sCode ≠ 0) && rightD l m.code
def superN (l : List Ent) (s : List UInt8) : Nat := if s = [] then 0 else clsN l s
def headK : List UInt8 := [202, 254, 186, 190, 0, 0, 0, 52]
def bodyK (c : Cl) : List UInt8 := bytesW 2 33 ++ (bytesW 2 (clsN c.pool c.name) ++ (bytesW 2 (superN c.pool c.super) ++ (bytesW 2 0 ++ (bytesW 2 c.fields.length ++ (c.fields.flatMap (fieldB c.pool) ++ (bytesW 2 c.methods.length ++ (c.methods.flatMap (methodB c.pool) ++ bytesW 2 0)))))))
def bytesK (c : Cl) : List UInt8 := headK ++ (bytesP c.pool ++ bodyK c)
/-- Right but for its length. -/
def rightK (c : Cl) : Bool := checkP c.pool && decide (c.fields.length ≤ 256 ∧ c.methods.length ≤ 256) && decide (clsN c.pool c.name ≠ 0 ∧ (c.super = [] ∨ clsN c.pool c.super ≠ 0)) && c.fields.all (rightF c.pool) && c.methods.all (rightMd c.pool)

/-- Numbers, one behind the other; none: the bytes end. -/
def uR (k : Nat) (s : List UInt8) : Option (Int × List UInt8) := if k ≤ s.length then some ((numB (s.take k) : Int), s.drop k) else none
theorem fitsU2 {n : Int} (h : 0 ≤ n ∧ n ≤ 65535) : fitsW ((2 : Nat) : Int) n false := ⟨by decide, by simp; omega⟩
theorem fitsU4 {n : Int} (h : 0 ≤ n ∧ n < 4294967296) : fitsW ((4 : Nat) : Int) n false := ⟨by decide, by simp; omega⟩
theorem toldT_le (loc : Bool) : ∀ (n : Nat) (ts : List Ty), ts.length ≤ n → (toldT loc ts).length ≤ ts.length := by
  intro n
  induction n with
  | zero => intro ts h; obtain rfl : ts = [] := List.length_eq_zero_iff.1 (by omega); exact Nat.le_refl _
  | succ n ih =>
    intro ts h
    match ts, h with
    | [], _ => exact Nat.le_refl _
    | [t], _ => exact Nat.le_refl _
    | t :: z :: q, h =>
      unfold toldT
      have h1 := ih q (by simp at h; omega)
      have h2 := ih (z :: q) (by simp at h ⊢; omega)
      split
      · simp only [List.length_cons]; omega
      · simp only [List.length_cons] at h2 ⊢; omega
end Go.Proofs.YtdcoknnjgpdigaaGreatDoor
