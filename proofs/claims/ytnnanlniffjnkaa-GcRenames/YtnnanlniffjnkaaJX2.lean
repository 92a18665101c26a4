/- Joined: PlK ArA ArB PlAr ArC ClA ClB ClC PlT. -/
import Derived.Test.YtnnanlniffjnkaaJX1
import Derived.Test.YtnnanlniffjnkaaJX0
import Derived.ProofKit
import Derived.OpenShut
import Derived.SizedLaws
import Derived.Deep.Slices
import Derived.ChangeMaps5

/- What the walks of stage 7's laws ask of the program's pool; works7. -/
namespace Go.Proofs.Ytnnanlniffjnkaa
open Go.RowKit
set_option linter.unusedVariables false

/-- Entries as they may come in. -/
structure EIn (w : World) (a : Option Addr) (n c : Nat) (l : List Ent) : Prop where
  arg : EArg w a n c l
  small : n * 48 ≤ 140737488351232
  fit : EntsFit7 l
theorem EIn.below {w w' : World} {a : Option Addr} {n c : Nat} {l : List Ent} (h : EIn w a n c l) (f : Below w.heap.size w w') : EIn w' a n c l := ⟨h.arg.below f, h.small, h.fit⟩
def cEx : Cst := ⟨10, 0, [97], [98], [40, 41, 86]⟩
theorem cEx_fit : CstFit cEx := by
  refine ⟨?_, ?_, ?_, ?_, ?_⟩ <;> decide
theorem putEx : putK [ent0] cEx = ([ent0, eUtf [97], ⟨7, [], 0, 1, 0⟩, eUtf [98], eUtf [40, 41, 86], ⟨12, [], 0, 3, 4⟩, ⟨10, [], 0, 2, 5⟩], 6, 0) := by decide +kernel
theorem constEx : constP [ent0, eUtf [97], ⟨7, [], 0, 1, 0⟩, eUtf [98], eUtf [40, 41, 86], ⟨12, [], 0, 3, 4⟩, ⟨10, [], 0, 2, 5⟩] 6 = (cEx, 0) := by decide +kernel

end Go.Proofs.Ytnnanlniffjnkaa

/- What opening arguments needs, whatever the law. -/
namespace Go.Proofs.Ytnnanlniffjnkaa
open Go.ChangeShapes Go.WideShapes Go.ChangeAt Go.RowKit
set_option linter.unusedVariables false

theorem ownKn : ownKnob Try.prog.godebug = none := by kernel_rfl

theorem laidOut : laidOutB Try.prog = true := by kernel_rfl

theorem spot_none {w : World} {a : Addr} {v : Value} (h : w.cell? a = some v) : a = ⟨a.block, a.off, none⟩ := by
  cases hs : a.spot with
  | none => cases a; simp at hs; subst hs; rfl
  | some s =>
    unfold World.cell? at h
    rw [hs] at h
    split at h <;> simp at h

theorem cellsI : Try.prog.cellsOf 3 = 1 := by kernel_rfl

theorem take_one {l : List Value} {j : Nat} {v : Value} (h : (l.drop j).take 1 = [v]) : l[j]? = some v := by
  have h2 : ((l.drop j).take 1)[0]? = some v := by rw [h]; rfl
  simpa [List.getElem?_take] using h2

theorem weightsAll_mem {H : Type} {P : Program} {e : TypeId} {d : DataW H} {n : Nat} (hn : n ∈ d.weights P e) : ∀ {l : List (DataW H)}, d ∈ l → n ∈ DataW.weightsAll P e l
  | d0 :: r, hd => by
    simp only [DataW.weightsAll, List.mem_append]
    rcases List.mem_cons.1 hd with h | h
    · subst h; exact .inl hn
    · exact .inr (weightsAll_mem hn h)

end Go.Proofs.Ytnnanlniffjnkaa

/- A slice that came in, opened, whatever its members are. -/
namespace Go.Proofs.Ytnnanlniffjnkaa
open Go.ChangeShapes Go.WideShapes Go.ChangeAt Go.RowKit
set_option linter.unusedVariables false

theorem open_list {α : Type} {H : Type} {enc : TypeId × Value → H} {w : World} {base : Nat} {T e : TypeId} {size : Nat} (hT : Try.prog.underlying T = some (.slice e)) (hsz : Try.prog.cellsOf e = size) (hpos : 0 < size) {ok : α → Prop} {val : α → List Value} (hval : ∀ y, (val y).length = size) (hone : ∀ y, ∃ v, (val y)[0]? = some v)
    (hop : ∀ (n : Nat) (cs : List Value) (x : DataW H × List MemPlace), DataW.trod enc Try.prog w base (fun _ => true) true n e cs = some x → (∀ m ∈ x.1.weights Try.prog e, m ≤ reachBytes) → ∃ y, cs = val y ∧ ok y)
    {a : Option Addr} {len cap : Nat} {d : DataW H} {p : List MemPlace} (h : DataW.Trod enc Try.prog w base (fun _ => true) true T (.slice a len cap) d p) (hw : ∀ m ∈ d.weights Try.prog T, m ≤ reachBytes) :
    ∃ l : List α, l.length = len ∧ len ≤ cap ∧ cap ≤ 9223372036854775807 ∧ len * Try.prog.bytesOf e ≤ reachBytes ∧ (a = none → len = 0 ∧ cap = 0) ∧ (∀ y ∈ l, ok y) ∧
      (len = 0 ∨ ∃ b o, a = some ⟨b, o, none⟩ ∧ b < w.heap.size ∧ ∀ (j : Nat) (y : α), l[j]? = some y → ∀ (i : Nat) (v : Value), (val y)[i]? = some v → w.cell? ⟨b, o + j * size + i, none⟩ = some v) := by
  obtain ⟨fuel, h⟩ := h
  rcases Go.Deep.open_slice hT (by simpa [Value.cells] using h) with ⟨hcs, _⟩ | ⟨ad, len', cap', m, n, D, Pl, hcs, _, hl, hm, hmm, hx, hel⟩
  · simp at hcs
    obtain ⟨rfl, rfl, rfl⟩ := hcs
    exact ⟨[], rfl, by omega, by omega, by simp, fun _ => ⟨rfl, rfl⟩, (fun y hy => by cases hy), .inl rfl⟩
  · simp at hcs
    obtain ⟨rfl, rfl, rfl⟩ := hcs
    unfold maxLen at hm
    have hlm : len ≤ m := by rw [hmm]; split <;> omega
    injection hx with hx _
    have hby : len * Try.prog.bytesOf e ≤ reachBytes := by
      have := hw ((((List.range len).map D).length + ((List.range (m - len)).map fun j => D (len + j)).length) * Try.prog.bytesOf e) (by
        rw [hx]
        simp [DataW.weights, hT])
      simp only [List.length_map, List.length_range] at this
      exact Nat.le_trans (Nat.mul_le_mul_right _ (by omega)) this
    by_cases h0 : len = 0
    · subst h0
      exact ⟨[], rfl, by omega, by omega, hby, (fun e => by cases e), (fun y hy => by cases hy), .inl rfl⟩
    have hwi : ∀ i, i < len → ∀ k ∈ (D i).weights Try.prog e, k ≤ reachBytes := by
      intro i hi k hk
      refine hw k ?_
      rw [hx]
      simp only [DataW.weights, hT]
      refine List.mem_cons_of_mem _ (List.mem_append_left _ (weightsAll_mem hk ?_))
      exact List.mem_map.2 ⟨i, List.mem_range.2 hi, rfl⟩
    have hE : ∀ i, i < len → ∃ y : α, (∀ (j : Nat) (v : Value), (val y)[j]? = some v → w.cell? ((ad.add (i * size)).add j) = some v) ∧ ok y := by
      intro i hi
      obtain ⟨cs', h1, h2⟩ := hel i (by omega)
      rw [hsz] at h1
      obtain ⟨y, hcs, hfit⟩ := hop _ _ _ h2 (hwi i hi)
      have hc := World.cells?_some h1
      refine ⟨y, fun j v hv => ?_, hfit⟩
      have hj := (List.getElem?_eq_some_iff.1 hv).1
      rw [hval] at hj
      have g := hc.2.2 j (by omega)
      rw [hcs, hv] at g
      exact g
    have hsp : ad = ⟨ad.block, ad.off, none⟩ := by
      obtain ⟨y, g, _⟩ := hE 0 (by omega)
      obtain ⟨v, hv⟩ := hone y
      exact spot_none (w := w) (a := ad) (by simpa [Addr.add] using g 0 v hv)
    have hbl : ad.block < w.heap.size := by
      obtain ⟨y, g, _⟩ := hE 0 (by omega)
      obtain ⟨v, hv⟩ := hone y
      exact World.block_lt_of_cell? w ad (by simpa [Addr.add] using g 0 v hv)
    let F : ∀ i, i < len → α := fun i hi => Classical.choose (hE i hi)
    have hF : ∀ i (hi : i < len), (∀ (j : Nat) (v : Value), (val (F i hi))[j]? = some v → w.cell? ((ad.add (i * size)).add j) = some v) ∧ ok (F i hi) := fun i hi => Classical.choose_spec (hE i hi)
    have hget : ∀ (j : Nat) (z : α), (List.ofFn (fun i : Fin len => F i.1 i.2))[j]? = some z → ∃ hj : j < len, z = F j hj := by
      intro j z hz
      have hj : j < len := by have := (List.getElem?_eq_some_iff.1 hz).1; simpa using this
      refine ⟨hj, ?_⟩
      obtain ⟨_, e⟩ := List.getElem?_eq_some_iff.1 hz
      rw [← e]; simp
    refine ⟨List.ofFn (fun i : Fin len => F i.1 i.2), by simp, hl, by omega, hby, (fun e => by cases e), ?_, .inr ⟨ad.block, ad.off, by rw [← hsp], hbl, ?_⟩⟩
    · intro z hz
      obtain ⟨j, hj, e⟩ := List.getElem_of_mem hz
      obtain ⟨hj', rfl⟩ := hget j z (by rw [List.getElem?_eq_getElem hj, e])
      exact (hF j hj').2
    · intro j z hz i v hv
      obtain ⟨hj, rfl⟩ := hget j z hz
      have := (hF j hj).1 i v hv
      rw [hsp, Addr.add_mid, Addr.add_mid] at this
      exact this

end Go.Proofs.Ytnnanlniffjnkaa

/- Entries and constants that came in, opened for the walks. -/
namespace Go.Proofs.Ytnnanlniffjnkaa
open Go.ChangeShapes Go.WideShapes Go.ChangeAt Go.RowKit
set_option linter.unusedVariables false
set_option maxRecDepth 100000

theorem cellsS7 : Try.prog.cellsOf 9 = 1 := by kernel_rfl
def EntOk (x : Ent) : Prop := x.text.length ≤ 140737488355328 ∧ EntFit x
theorem str_len {H : Type} {s : ByteArray} (hm : s.data.toList.length ≤ reachBytes) : s.data.toList.length ≤ 140737488355328 := by
  unfold reachBytes at hm
  omega
end Go.Proofs.Ytnnanlniffjnkaa

/- Bytes that came in, opened for the walks. -/
namespace Go.Proofs.Ytnnanlniffjnkaa
open Go.ChangeShapes Go.WideShapes Go.ChangeAt Go.RowKit
set_option linter.unusedVariables false

theorem cells1B : Try.prog.cellsOf 5 = 1 := by kernel_rfl
theorem bytes1B : Try.prog.bytesOf 5 = 1 := by kernel_rfl
theorem byte_cells {H : Type} {enc : TypeId × Value → H} {w : World} {base : Nat} (n : Nat) (cs : List Value) (x : DataW H × List MemPlace)
    (h : DataW.trod enc Try.prog w base (fun _ => true) true n 5 cs = some x) (hw : ∀ m ∈ x.1.weights Try.prog 5, m ≤ reachBytes) : ∃ y : UInt8, cs = [.int .u8 (y.toNat : Int)] ∧ True := by
  obtain ⟨z, e, _, hz⟩ := DataW.trod_int Try.underlying5 h
  have b := bounds_u8 hz
  refine ⟨UInt8.ofNat z.toNat, ?_, trivial⟩
  have e2 : ((UInt8.ofNat z.toNat).toNat : Int) = z := by simp; omega
  rw [e2]
  exact e
end Go.Proofs.Ytnnanlniffjnkaa

/- Classes as plain values: right, told in bytes, read from bytes; what is told is read. -/
namespace Go.Proofs.Ytnnanlniffjnkaa
open Go.RowKit
set_option linter.unusedVariables false

structure Ty where
  kind : Int
  name : List UInt8
deriving DecidableEq
structure Mp where
  at_ : Int
  loc : List Ty
  stk : List Ty
structure Hd where
  frm : Int
  to_ : Int
  at_ : Int
  cls : Int
structure Cd where
  stack : Int
  locals : Int
  bytes : List UInt8
  hs : List Hd
  maps : List Mp
structure Fd where
  acc : Int
  name : List UInt8
  type : List UInt8
structure Md where
  acc : Int
  name : List UInt8
  type : List UInt8
  code : Cd
structure Cl where
  pool : List Ent
  name : List UInt8
  super : List UInt8
  fields : List Fd
  methods : List Md

def sCode : List UInt8 := [67, 111, 100, 101]
def sMaps : List UInt8 := [83, 116, 97, 99, 107, 77, 97, 112, 84, 97, 98, 108, 101]
/-- The number of a text, of a class; 0: there is none. -/
def utfN (l : List Ent) (s : List UInt8) : Nat := findE l (eUtf s)
def clsN (l : List Ent) (s : List UInt8) : Nat := ((List.range l.length).find? fun (i : Nat) => decide (1 ≤ i) && decide ((atE l (i : Int)).tag = 7 ∧ (atE l (atE l (i : Int)).a).text = s)).getD 0
theorem utfN_some {l : List Ent} {s : List UInt8} (h : utfN l s ≠ 0) : 1 ≤ utfN l s ∧ utfN l s < l.length ∧ atE l (utfN l s : Int) = eUtf s := by
  obtain ⟨h1, h2, h3⟩ := findE_some h
  refine ⟨h1, h2, ?_⟩
  unfold atE utfN
  rw [if_pos (Int.natCast_nonneg _), Int.toNat_natCast, h3]
  rfl
theorem clsN_some {l : List Ent} {s : List UInt8} (h : clsN l s ≠ 0) : 1 ≤ clsN l s ∧ clsN l s < l.length ∧ (atE l (clsN l s : Int)).tag = 7 ∧ (atE l (atE l (clsN l s : Int)).a).text = s := by
  obtain ⟨h1, h2, h3, _⟩ := first_some (k := clsN l s) rfl h
  simp only [decide_eq_true_eq] at h3
  exact ⟨h1, h2, h3⟩

/-- The types that are told: behind a long of the locals none is. -/
def toldT (loc : Bool) : List Ty → List Ty
  | [] => []
  | [t] => [t]
  | t :: z :: r => if loc = true ∧ t.kind = 2 then t :: toldT loc r else t :: toldT loc (z :: r)
def okT (l : List Ent) (t : Ty) : Bool := decide (t.kind = 0 ∨ t.kind = 1 ∨ t.kind = 2 ∨ t.kind = 3 ∨ t.kind = 4) && (if t.kind = 4 then decide (clsN l t.name ≠ 0) else decide (t.name = []))
def goT (l : List Ent) (loc : Bool) : List Ty → Bool
  | [] => true
  | [t] => okT l t && !(loc && decide (t.kind = 2))
  | t :: z :: r => okT l t && (if loc = true ∧ t.kind = 2 then decide (z = ⟨0, []⟩) && goT l loc r else goT l loc (z :: r))
def rightT (l : List Ent) (loc : Bool) (ts : List Ty) : Bool := decide (ts.length ≤ 64) && goT l loc ts
def tyB (l : List Ent) (t : Ty) : List UInt8 := if t.kind = 0 then [0] else if t.kind = 1 then [1] else if t.kind = 2 then [4] else if t.kind = 3 then [5] else 7 :: bytesW 2 (clsN l t.name)
def typesB (l : List Ent) (loc : Bool) (ts : List Ty) : List UInt8 := bytesW 2 (toldT loc ts).length ++ (toldT loc ts).flatMap (tyB l)
def mapB (l : List Ent) (last : Int) (m : Mp) : List UInt8 := 255 :: (bytesW 2 (m.at_ - last - 1) ++ (typesB l true m.loc ++ typesB l false m.stk))
def mpsB (l : List Ent) : Int → List Mp → List UInt8
  | _, [] => []
  | last, m :: r => mapB l last m ++ mpsB l m.at_ r
def rightM (l : List Ent) : Int → List Mp → Bool
  | _, [] => true
  | last, m :: r => decide (last < m.at_ ∧ m.at_ ≤ 65535) && rightT l true m.loc && rightT l false m.stk && rightM l m.at_ r
def mapsB (l : List Ent) (ms : List Mp) : List UInt8 := bytesW 2 ms.length ++ mpsB l (-1) ms
def hdB (h : Hd) : List UInt8 := bytesW 2 h.frm ++ (bytesW 2 h.to_ ++ (bytesW 2 h.at_ ++ bytesW 2 h.cls))
def in16 (n : Int) : Bool := decide (0 ≤ n ∧ n ≤ 65535)
def rightH (l : List Ent) (h : Hd) : Bool := decide (h.cls = 0 ∨ 0 < h.cls ∧ h.cls < l.length ∧ tagE l h.cls = 7) && in16 h.frm && in16 h.to_ && in16 h.at_
def tableB (l : List Ent) (ms : List Mp) : List UInt8 := if ms = [] then bytesW 2 0 else bytesW 2 1 ++ (bytesW 2 (utfN l sMaps) ++ (bytesW 4 (mapsB l ms).length ++ mapsB l ms))
def codeB (l : List Ent) (c : Cd) : List UInt8 := bytesW 2 c.stack ++ (bytesW 2 c.locals ++ (bytesW 4 c.bytes.length ++ (c.bytes ++ (bytesW 2 c.hs.length ++ (c.hs.flatMap hdB ++ tableB l c.maps)))))
def rightD (l : List Ent) (c : Cd) : Bool := decide (0 ≤ c.stack ∧ c.stack ≤ 64 ∧ 0 ≤ c.locals ∧ c.locals ≤ 64 ∧ 1 ≤ c.bytes.length ∧ c.bytes.length ≤ 4096 ∧ c.hs.length ≤ 256 ∧ c.maps.length ≤ 256) && c.hs.all (rightH l) && decide (c.maps = [] ∨ utfN l sMaps ≠ 0) && rightM l (-1) c.maps
def fieldB (l : List Ent) (f : Fd) : List UInt8 := bytesW 2 f.acc ++ (bytesW 2 (utfN l f.name) ++ (bytesW 2 (utfN l f.type) ++ bytesW 2 0))
def rightF (l : List Ent) (f : Fd) : Bool := decide (f.acc = 0 ∨ f.acc = 8) && decide (utfN l f.name ≠ 0 ∧ utfN l f.type ≠ 0)
def methodB (l : List Ent) (m : Md) : List UInt8 := bytesW 2 m.acc ++ (bytesW 2 (utfN l m.name) ++ (bytesW 2 (utfN l m.type) ++ (bytesW 2 1 ++ (bytesW 2 (utfN l sCode) ++ (bytesW 4 (codeB l m.code).length ++ codeB l m.code)))))
def rightMd (l : List Ent) (m : Md) : Bool := decide (m.acc = 0 ∨ m.acc = 8 ∨ m.acc = 32 ∨ m.acc = 40) && decide (utfN l m.name ≠ 0 ∧ utfN l m.type ≠ 0 ∧ utfN l sCode ≠ 0) && rightD l m.code
def superN (l : List Ent) (s : List UInt8) : Nat := if s = [] then 0 else clsN l s
def headK : List UInt8 := [202, 254, 186, 190, 0, 0, 0, 52]
def bodyK (c : Cl) : List UInt8 := bytesW 2 33 ++ (bytesW 2 (clsN c.pool c.name) ++ (bytesW 2 (superN c.pool c.super) ++ (bytesW 2 0 ++ (bytesW 2 c.fields.length ++ (c.fields.flatMap (fieldB c.pool) ++ (bytesW 2 c.methods.length ++ (c.methods.flatMap (methodB c.pool) ++ bytesW 2 0)))))))
def bytesK (c : Cl) : List UInt8 := headK ++ (bytesP c.pool ++ bodyK c)
/-- Right but for its length. -/
def rightK (c : Cl) : Bool := checkP c.pool && decide (c.fields.length ≤ 256 ∧ c.methods.length ≤ 256) && decide (clsN c.pool c.name ≠ 0 ∧ (c.super = [] ∨ clsN c.pool c.super ≠ 0)) && c.fields.all (rightF c.pool) && c.methods.all (rightMd c.pool)

/-- Numbers, one behind the other; none: the bytes end. -/
def uR (k : Nat) (s : List UInt8) : Option (Int × List UInt8) := if k ≤ s.length then some ((numB (s.take k) : Int), s.drop k) else none
theorem uR_at {k : Nat} {n : Int} (r : List UInt8) (h : fitsW (k : Int) n false) (hk : k ≤ 4) : uR k (bytesW (k : Int) n ++ r) = some (n, r) := by
  have hl : (bytesW (k : Int) n).length = k := by rw [bytesW_len]; simp
  unfold uR
  rw [if_pos (by simp [hl]), List.take_left' hl, List.drop_left' hl]
  have hb : 0 ≤ n ∧ n < ((256 ^ k : Nat) : Int) := by
    unfold fitsW at h
    have h8 : ¬ (k : Int) = 8 := by omega
    rw [if_neg h8, if_neg (by decide), Int.toNat_natCast] at h
    exact h.2
  have hp : 256 ^ k ≤ 256 ^ 4 := Nat.pow_le_pow_right (by decide) hk
  have e : numB (bytesW (k : Int) n) = n.toNat := by
    unfold bytesW
    rw [Int.toNat_natCast, numB_beK]
    have : n % 18446744073709551616 = n := Int.emod_eq_of_lt hb.1 (by omega)
    rw [this, Nat.mod_eq_of_lt (by omega)]
  rw [e, Int.toNat_of_nonneg hb.1]
theorem fitsU2 {n : Int} (h : 0 ≤ n ∧ n ≤ 65535) : fitsW ((2 : Nat) : Int) n false := ⟨by decide, by simp; omega⟩
theorem fitsU4 {n : Int} (h : 0 ≤ n ∧ n < 4294967296) : fitsW ((4 : Nat) : Int) n false := ⟨by decide, by simp; omega⟩
theorem u2_at {n : Int} (r : List UInt8) (h : 0 ≤ n ∧ n ≤ 65535) : uR 2 (bytesW 2 n ++ r) = some (n, r) := uR_at r (fitsU2 h) (by decide)
theorem u4_at {n : Int} (r : List UInt8) (h : 0 ≤ n ∧ n < 4294967296) : uR 4 (bytesW 4 n ++ r) = some (n, r) := uR_at r (fitsU4 h) (by decide)
/-- Four bytes that are not looked at. -/
theorem u4_any (n : Int) (r : List UInt8) : ∃ m, uR 4 (bytesW 4 n ++ r) = some (m, r) := by
  have hl : (bytesW 4 n).length = 4 := by rw [bytesW_len]; rfl
  unfold uR
  rw [if_pos (by simp [hl]), List.take_left' hl, List.drop_left' hl]
  exact ⟨_, rfl⟩
theorem u1_at (x : UInt8) (r : List UInt8) : uR 1 (x :: r) = some ((x.toNat : Int), r) := by
  unfold uR
  rw [if_pos (by simp)]
  simp [numB]

def utfR (l : List Ent) (s : List UInt8) : Option (List UInt8 × List UInt8) := (uR 2 s).bind fun n => if tagE l n.1 = 1 then some ((atE l n.1).text, n.2) else none
def clsR (l : List Ent) (n : Int) : Option (List UInt8) := if tagE l n = 7 then some (atE l (atE l n).a).text else none
def tyR (l : List Ent) (loc : Bool) (s : List UInt8) : Option (List Ty × List UInt8) := (uR 1 s).bind fun k =>
  if k.1 = 0 then some ([⟨0, []⟩], k.2) else if k.1 = 1 then some ([⟨1, []⟩], k.2)
  else if k.1 = 4 then some (if loc then [⟨2, []⟩, ⟨0, []⟩] else [⟨2, []⟩], k.2)
  else if k.1 = 5 then some ([⟨3, []⟩], k.2)
  else if k.1 = 7 then (uR 2 k.2).bind fun n => (clsR l n.1).bind fun x => some ([⟨4, x⟩], n.2)
  else none
def tysR (l : List Ent) (loc : Bool) : Nat → List UInt8 → Option (List Ty × List UInt8)
  | 0, s => some ([], s)
  | n + 1, s => (tyR l loc s).bind fun t => (tysR l loc n t.2).bind fun r => some (t.1 ++ r.1, r.2)
def typesR (l : List Ent) (loc : Bool) (s : List UInt8) : Option (List Ty × List UInt8) := (uR 2 s).bind fun n => tysR l loc n.1.toNat n.2

theorem utfR_at {l : List Ent} {t : List UInt8} (r : List UInt8) (h : utfN l t ≠ 0) (hl : l.length ≤ 1024) : utfR l (bytesW 2 (utfN l t) ++ r) = some (t, r) := by
  obtain ⟨h1, h2, h3⟩ := utfN_some h
  unfold utfR
  rw [u2_at r (by omega), Option.bind_some]
  have ht : tagE l (utfN l t : Int) = 1 := by unfold tagE; rw [h3]; rfl
  have hx : (atE l (utfN l t : Int)).text = t := by rw [h3]; rfl
  simp only
  rw [if_pos ht, hx]
theorem clsR_at {l : List Ent} {t : List UInt8} (h : clsN l t ≠ 0) : clsR l (clsN l t) = some t := by
  obtain ⟨h1, h2, h3, h4⟩ := clsN_some h
  unfold clsR tagE
  rw [if_pos h3, h4]
theorem tyR_at {l : List Ent} {loc : Bool} {t : Ty} (r : List UInt8) (h : okT l t = true) (hl : l.length ≤ 1024) : tyR l loc (tyB l t ++ r) = some (if loc = true ∧ t.kind = 2 then [t, ⟨0, []⟩] else [t], r) := by
  obtain ⟨k, nm⟩ := t
  unfold okT at h
  simp only [Bool.and_eq_true, decide_eq_true_eq] at h
  obtain ⟨hk, hn⟩ := h
  unfold tyR tyB
  rcases hk with rfl | rfl | rfl | rfl | rfl
  all_goals simp at hn
  · subst hn; simp [u1_at]
  · subst hn; simp [u1_at]
  · subst hn; cases loc <;> simp [u1_at]
  · subst hn; simp [u1_at]
  · have hc := clsN_some hn
    simp only [show ¬ ((4 : Int) = 0) by decide, show ¬ ((4 : Int) = 1) by decide, show ¬ ((4 : Int) = 2) by decide, show ¬ ((4 : Int) = 3) by decide, if_false, List.cons_append, u1_at, Option.bind_some, and_false]
    have e : ((7 : UInt8).toNat : Int) = 7 := rfl
    rw [e, if_neg (by decide), if_neg (by decide), if_neg (by decide), if_neg (by decide), if_pos rfl, u2_at r (by omega), Option.bind_some, clsR_at hn, Option.bind_some]
theorem tysR_at {l : List Ent} {loc : Bool} (hl : l.length ≤ 1024) : ∀ (n : Nat) (ts : List Ty) (r : List UInt8), ts.length ≤ n → goT l loc ts = true → tysR l loc (toldT loc ts).length ((toldT loc ts).flatMap (tyB l) ++ r) = some (ts, r) := by
  intro n
  induction n with
  | zero => intro ts r h1 h2; obtain rfl : ts = [] := List.length_eq_zero_iff.1 (by omega); rfl
  | succ n ih =>
    intro ts r h1 h2
    match ts, h1, h2 with
    | [], _, _ => rfl
    | [t], _, h2 =>
      unfold goT at h2
      simp only [Bool.and_eq_true, Bool.not_eq_true', Bool.and_eq_false_iff, decide_eq_false_iff_not] at h2
      have e : ¬ (loc = true ∧ t.kind = 2) := fun ⟨a, b⟩ => by rcases h2.2 with h | h; rw [a] at h; cases h; exact h b
      simp only [toldT, List.flatMap_cons, List.flatMap_nil, List.append_nil, List.length_cons, List.length_nil, Nat.zero_add, tysR]
      rw [tyR_at r h2.1 hl, if_neg e, Option.bind_some, Option.bind_some]
      rfl
    | t :: z :: q, h1, h2 =>
      unfold goT at h2
      rw [Bool.and_eq_true] at h2
      unfold toldT
      by_cases e : loc = true ∧ t.kind = 2
      · rw [if_pos e, Bool.and_eq_true, decide_eq_true_eq] at h2
        obtain ⟨h3, rfl, h5⟩ := h2
        rw [if_pos e, List.length_cons, List.flatMap_cons, tysR, List.append_assoc, tyR_at _ h3 hl, if_pos e, Option.bind_some, ih q r (by simp at h1; omega) h5, Option.bind_some]
        rfl
      · rw [if_neg e] at h2
        rw [if_neg e, List.length_cons, List.flatMap_cons, tysR, List.append_assoc, tyR_at _ h2.1 hl, if_neg e, Option.bind_some, ih (z :: q) r (by simp at h1 ⊢; omega) h2.2, Option.bind_some]
        rfl
theorem toldT_le (loc : Bool) : ∀ (n : Nat) (ts : List Ty), ts.length ≤ n → (toldT loc ts).length ≤ ts.length := by
  intro n
  induction n with
  | zero => intro ts h; obtain rfl : ts = [] := List.length_eq_zero_iff.1 (by omega); exact Nat.le_refl _
  | succ n ih =>
    intro ts h
    match ts, h with
    | [], _ => exact Nat.le_refl _
    | [t], _ => exact Nat.le_refl _
    | t :: z :: q, h =>
      unfold toldT
      have h1 := ih q (by simp at h; omega)
      have h2 := ih (z :: q) (by simp at h ⊢; omega)
      split
      · simp only [List.length_cons]; omega
      · simp only [List.length_cons] at h2 ⊢; omega
theorem typesR_at {l : List Ent} {loc : Bool} {ts : List Ty} (r : List UInt8) (h : rightT l loc ts = true) (hl : l.length ≤ 1024) : typesR l loc (typesB l loc ts ++ r) = some (ts, r) := by
  unfold rightT at h
  rw [Bool.and_eq_true, decide_eq_true_eq] at h
  have := toldT_le loc _ ts (Nat.le_refl _)
  unfold typesR typesB
  rw [List.append_assoc, u2_at _ (by omega), Option.bind_some]
  simp only [Int.toNat_natCast]
  exact tysR_at hl _ ts r (Nat.le_refl _) h.2

def mapR (l : List Ent) (last : Int) (s : List UInt8) : Option (Mp × List UInt8) := (uR 1 s).bind fun x => (uR 2 x.2).bind fun a => (typesR l true a.2).bind fun t => (typesR l false t.2).bind fun q => some (⟨last + 1 + a.1, t.1, q.1⟩, q.2)
def mpsR (l : List Ent) : Nat → Int → List UInt8 → Option (List Mp × List UInt8)
  | 0, _, s => some ([], s)
  | n + 1, last, s => (mapR l last s).bind fun m => (mpsR l n m.1.at_ m.2).bind fun r => some (m.1 :: r.1, r.2)
theorem mpsR_at {l : List Ent} (hl : l.length ≤ 1024) (r : List UInt8) : ∀ (ms : List Mp) (last : Int), -1 ≤ last → rightM l last ms = true → mpsR l ms.length last (mpsB l last ms ++ r) = some (ms, r) := by
  intro ms
  induction ms with
  | nil => intro last _ _; rfl
  | cons m q ih =>
    intro last h0 h
    unfold rightM at h
    simp only [Bool.and_eq_true, decide_eq_true_eq] at h
    obtain ⟨⟨⟨h1, h2⟩, h3⟩, h4⟩ := h
    simp only [List.length_cons, mpsR, mpsB, mapB, mapR, List.cons_append, List.append_assoc]
    rw [u1_at, Option.bind_some]
    simp only
    rw [u2_at _ (by omega), Option.bind_some]
    simp only
    rw [typesR_at _ h2 hl, Option.bind_some]
    simp only
    rw [typesR_at _ h3 hl, Option.bind_some, Option.bind_some]
    simp only
    rw [show last + 1 + (m.at_ - last - 1) = m.at_ by omega, ih m.at_ (by omega) h4, Option.bind_some]
def mapsR (l : List Ent) (s : List UInt8) : Option (List Mp × List UInt8) := (uR 2 s).bind fun k => mpsR l k.1.toNat (-1) k.2
def tableR (l : List Ent) (s : List UInt8) : Option (List Mp × List UInt8) := (uR 2 s).bind fun a => if a.1 = 0 then some ([], a.2) else (utfR l a.2).bind fun x => (uR 4 x.2).bind fun y => mapsR l y.2
theorem tableR_at {l : List Ent} {ms : List Mp} (r : List UInt8) (hl : l.length ≤ 1024) (h1 : ms.length ≤ 256) (h2 : ms = [] ∨ utfN l sMaps ≠ 0) (h3 : rightM l (-1) ms = true) : tableR l (tableB l ms ++ r) = some (ms, r) := by
  unfold tableR tableB
  by_cases e : ms = []
  · subst e
    rw [if_pos rfl, u2_at _ (by decide), Option.bind_some]
    rfl
  · rw [if_neg e, List.append_assoc, u2_at _ (by decide), Option.bind_some]
    simp only [List.append_assoc]
    rw [if_neg (by decide), utfR_at _ (by rcases h2 with h | h; exact absurd h e; exact h) hl, Option.bind_some]
    simp only
    obtain ⟨m, hm⟩ := u4_any ((mapsB l ms).length : Int) (mapsB l ms ++ r)
    rw [hm, Option.bind_some]
    unfold mapsR mapsB
    simp only [List.append_assoc]
    rw [u2_at _ (by omega), Option.bind_some]
    simp only [Int.toNat_natCast]
    exact mpsR_at hl r ms (-1) (by decide) h3
def hdR (s : List UInt8) : Option (Hd × List UInt8) := (uR 2 s).bind fun a => (uR 2 a.2).bind fun b => (uR 2 b.2).bind fun c => (uR 2 c.2).bind fun d => some (⟨a.1, b.1, c.1, d.1⟩, d.2)
def hdsR : Nat → List UInt8 → Option (List Hd × List UInt8)
  | 0, s => some ([], s)
  | n + 1, s => (hdR s).bind fun h => (hdsR n h.2).bind fun r => some (h.1 :: r.1, r.2)
theorem hdsR_at {l : List Ent} (hl : l.length ≤ 1024) (r : List UInt8) : ∀ (hs : List Hd), hs.all (rightH l) = true → hdsR hs.length (hs.flatMap hdB ++ r) = some (hs, r) := by
  intro hs
  induction hs with
  | nil => intro _; rfl
  | cons h q ih =>
    intro hh
    rw [List.all_cons, Bool.and_eq_true] at hh
    obtain ⟨h1, h2⟩ := hh
    unfold rightH in16 at h1
    simp only [Bool.and_eq_true, decide_eq_true_eq] at h1
    obtain ⟨⟨⟨h3, h4⟩, h5⟩, h6⟩ := h1
    simp only [List.length_cons, hdsR, List.flatMap_cons, hdB, hdR, List.append_assoc]
    rw [u2_at _ h4, Option.bind_some]
    simp only
    rw [u2_at _ h5, Option.bind_some]
    simp only
    rw [u2_at _ h6, Option.bind_some]
    simp only
    rw [u2_at _ (by omega), Option.bind_some, Option.bind_some]
    simp only
    rw [ih h2, Option.bind_some]
def takeR (n : Int) (s : List UInt8) : Option (List UInt8 × List UInt8) := if n.toNat ≤ s.length then some (s.take n.toNat, s.drop n.toNat) else none
def codeR (l : List Ent) (s : List UInt8) : Option (Cd × List UInt8) := (uR 2 s).bind fun a => (uR 2 a.2).bind fun b => (uR 4 b.2).bind fun n => (takeR n.1 n.2).bind fun x => (uR 2 x.2).bind fun k => (hdsR k.1.toNat k.2).bind fun h => (tableR l h.2).bind fun t => some (⟨a.1, b.1, x.1, h.1, t.1⟩, t.2)
theorem codeR_at {l : List Ent} {c : Cd} (r : List UInt8) (hl : l.length ≤ 1024) (h : rightD l c = true) : codeR l (codeB l c ++ r) = some (c, r) := by
  unfold rightD at h
  simp only [Bool.and_eq_true, decide_eq_true_eq] at h
  obtain ⟨⟨⟨⟨a1, a2, a3, a4, a5, a6, a7, a8⟩, h2⟩, h3⟩, h4⟩ := h
  unfold codeR codeB
  simp only [List.append_assoc]
  rw [u2_at _ (by omega), Option.bind_some]
  simp only
  rw [u2_at _ (by omega), Option.bind_some]
  simp only
  rw [u4_at _ (by omega), Option.bind_some]
  simp only [takeR, Int.toNat_natCast]
  rw [if_pos (by simp), List.take_left' rfl, List.drop_left' rfl, Option.bind_some]
  simp only
  rw [u2_at _ (by omega), Option.bind_some]
  simp only [Int.toNat_natCast]
  rw [hdsR_at hl _ _ h2, Option.bind_some]
  simp only
  rw [tableR_at r hl a8 h3 h4, Option.bind_some]
def fieldR (l : List Ent) (s : List UInt8) : Option (Fd × List UInt8) := (uR 2 s).bind fun a => (utfR l a.2).bind fun x => (utfR l x.2).bind fun y => (uR 2 y.2).bind fun z => some (⟨a.1, x.1, y.1⟩, z.2)
def fieldsR (l : List Ent) : Nat → List UInt8 → Option (List Fd × List UInt8)
  | 0, s => some ([], s)
  | n + 1, s => (fieldR l s).bind fun h => (fieldsR l n h.2).bind fun r => some (h.1 :: r.1, r.2)
theorem fieldsR_at {l : List Ent} (hl : l.length ≤ 1024) (r : List UInt8) : ∀ (fs : List Fd), fs.all (rightF l) = true → fieldsR l fs.length (fs.flatMap (fieldB l) ++ r) = some (fs, r) := by
  intro fs
  induction fs with
  | nil => intro _; rfl
  | cons h q ih =>
    intro hh
    rw [List.all_cons, Bool.and_eq_true] at hh
    obtain ⟨h1, h2⟩ := hh
    unfold rightF at h1
    simp only [Bool.and_eq_true, decide_eq_true_eq] at h1
    obtain ⟨h3, h4, h5⟩ := h1
    simp only [List.length_cons, fieldsR, List.flatMap_cons, fieldB, fieldR, List.append_assoc]
    rw [u2_at _ (by omega), Option.bind_some]
    simp only
    rw [utfR_at _ h4 hl, Option.bind_some]
    simp only
    rw [utfR_at _ h5 hl, Option.bind_some]
    simp only
    rw [u2_at _ (by decide), Option.bind_some, Option.bind_some]
    simp only
    rw [ih h2, Option.bind_some]
def methodR (l : List Ent) (s : List UInt8) : Option (Md × List UInt8) := (uR 2 s).bind fun a => (utfR l a.2).bind fun x => (utfR l x.2).bind fun y => (uR 2 y.2).bind fun z => (utfR l z.2).bind fun t => (uR 4 t.2).bind fun n => (codeR l n.2).bind fun c => some (⟨a.1, x.1, y.1, c.1⟩, c.2)
def methodsR (l : List Ent) : Nat → List UInt8 → Option (List Md × List UInt8)
  | 0, s => some ([], s)
  | n + 1, s => (methodR l s).bind fun h => (methodsR l n h.2).bind fun r => some (h.1 :: r.1, r.2)
theorem methodsR_at {l : List Ent} (hl : l.length ≤ 1024) (r : List UInt8) : ∀ (fs : List Md), fs.all (rightMd l) = true → methodsR l fs.length (fs.flatMap (methodB l) ++ r) = some (fs, r) := by
  intro fs
  induction fs with
  | nil => intro _; rfl
  | cons h q ih =>
    intro hh
    rw [List.all_cons, Bool.and_eq_true] at hh
    obtain ⟨h1, h2⟩ := hh
    unfold rightMd at h1
    simp only [Bool.and_eq_true, decide_eq_true_eq] at h1
    obtain ⟨⟨h3, h4, h5, h6⟩, h7⟩ := h1
    simp only [List.length_cons, methodsR, List.flatMap_cons, methodB, methodR, List.append_assoc]
    rw [u2_at _ (by omega), Option.bind_some]
    simp only
    rw [utfR_at _ h4 hl, Option.bind_some]
    simp only
    rw [utfR_at _ h5 hl, Option.bind_some]
    simp only
    rw [u2_at _ (by decide), Option.bind_some]
    simp only
    rw [utfR_at _ h6 hl, Option.bind_some]
    simp only
    obtain ⟨m, hm⟩ := u4_any ((codeB l h.code).length : Int) (codeB l h.code ++ (q.flatMap (methodB l) ++ r))
    rw [hm, Option.bind_some]
    simp only
    rw [codeR_at _ hl h7, Option.bind_some, Option.bind_some]
    simp only
    rw [ih h2, Option.bind_some]
/-- A class behind its pool. -/
def restR (l : List Ent) (s : List UInt8) : Option (Cl × List UInt8) := (uR 2 s).bind fun a => (uR 2 a.2).bind fun n => (clsR l n.1).bind fun nm => (uR 2 n.2).bind fun m => (if 0 < m.1 then clsR l m.1 else some []).bind fun sp => (uR 2 m.2).bind fun z => (uR 2 z.2).bind fun k => (fieldsR l k.1.toNat k.2).bind fun f => (uR 2 f.2).bind fun j => (methodsR l j.1.toNat j.2).bind fun ms => some (⟨l, nm, sp, f.1, ms.1⟩, ms.2)
def readK (bs : List UInt8) : Option Cl := if bs.length < 8 then none else if (readP bs 8).2.1 ≠ 0 then none else (restR (readP bs 8).1 (bs.drop (readP bs 8).2.2)).map Prod.fst
theorem restR_at {c : Cl} (r : List UInt8) (hl : c.pool.length ≤ 1024) (h : rightK c = true) : restR c.pool (bodyK c ++ r) = some (c, bytesW 2 0 ++ r) := by
  unfold rightK at h
  simp only [Bool.and_eq_true, decide_eq_true_eq] at h
  obtain ⟨⟨⟨⟨h1, h2, h3⟩, h4, h5⟩, h6⟩, h7⟩ := h
  have hc := clsN_some h4
  unfold restR bodyK
  simp only [List.append_assoc]
  rw [u2_at _ (by decide), Option.bind_some]
  simp only
  rw [u2_at _ (by omega), Option.bind_some]
  simp only
  rw [clsR_at h4, Option.bind_some]
  have hs : (0 : Int) ≤ (superN c.pool c.super : Int) ∧ (superN c.pool c.super : Int) ≤ 65535 := by
    unfold superN
    split
    · decide
    · rename_i e
      have := clsN_some (show clsN c.pool c.super ≠ 0 by rcases h5 with h | h; exact absurd h e; exact h)
      omega
  rw [u2_at _ hs, Option.bind_some]
  simp only
  have hsp : (if (0 : Int) < (superN c.pool c.super : Int) then clsR c.pool (superN c.pool c.super) else some []) = some c.super := by
    unfold superN
    by_cases e : c.super = []
    · rw [if_pos e, if_neg (by decide), e]
    · have e2 : clsN c.pool c.super ≠ 0 := by rcases h5 with h | h; exact absurd h e; exact h
      rw [if_neg e, if_pos (by omega), clsR_at e2]
  rw [hsp, Option.bind_some, u2_at _ (by decide), Option.bind_some]
  simp only
  rw [u2_at _ (by omega), Option.bind_some]
  simp only [Int.toNat_natCast]
  rw [fieldsR_at hl _ _ h6, Option.bind_some]
  simp only
  rw [u2_at _ (by omega), Option.bind_some]
  simp only [Int.toNat_natCast]
  rw [methodsR_at hl _ _ h7, Option.bind_some]
/-- What is told of a class is read as that class, whatever follows. -/
theorem readK_at {c : Cl} (r : List UInt8) (h : rightK c = true) (hf : ∀ x ∈ c.pool, EntFit x) : readK (bytesK c ++ r) = some c := by
  have hp : checkP c.pool = true := by
    unfold rightK at h
    simp only [Bool.and_eq_true] at h
    exact h.1.1.1.1
  have hl : c.pool.length ≤ 1024 := by
    unfold checkP at hp
    simp only [Bool.and_eq_true, decide_eq_true_eq] at hp
    exact hp.1.1.2
  have hr := readP_at headK (bodyK c ++ r) hp hf
  have e : bytesK c ++ r = headK ++ (bytesP c.pool ++ (bodyK c ++ r)) := by unfold bytesK; simp only [List.append_assoc]
  unfold readK
  rw [e]
  have h8 : headK.length = 8 := rfl
  rw [h8] at hr
  rw [if_neg (by simp only [List.length_append, h8]; omega), hr, if_neg (by simp)]
  have hd : (headK ++ (bytesP c.pool ++ (bodyK c ++ r))).drop (8 + (bytesP c.pool).length) = bodyK c ++ r := by
    rw [← List.append_assoc]
    exact List.drop_left' (by simp only [List.length_append, h8])
  simp only
  rw [hd, restR_at r hl h]
  rfl
/-- Two classes with the same bytes are the same, and no class's bytes begin another's. -/
theorem bytesK_front {c d : Cl} {r : List UInt8} (hc : rightK c = true) (hd : rightK d = true) (fc : ∀ x ∈ c.pool, EntFit x) (fd : ∀ x ∈ d.pool, EntFit x) (h : bytesK d = bytesK c ++ r) : d = c ∧ r = [] := by
  have h1 := readK_at r hc fc
  have h2 := readK_at [] hd fd
  rw [List.append_nil, h, h1] at h2
  injection h2 with h2
  subst h2
  exact ⟨rfl, by simpa using h⟩
end Go.Proofs.Ytnnanlniffjnkaa

/- Lists of records in memory, whatever they are; a class in memory, and one that came in. -/
namespace Go.Proofs.Ytnnanlniffjnkaa
open Go.ChangeShapes Go.WideShapes Go.ChangeAt Go.RowKit
set_option linter.unusedVariables false
set_option maxRecDepth 100000

/-- A slice as a value. -/
structure Sl where
  a : Option Addr
  n : Nat
  c : Nat
def Sl.v (s : Sl) : Value := .slice s.a s.n s.c
/-- Records of sz cells each that lie in memory. -/
def Ls {α : Type} (sz : Nat) (cs : α → List Value) (w : World) (a : Option Addr) (n : Nat) (l : List α) : Prop :=
  l.length = n ∧ (n = 0 ∨ ∃ b o, a = some ⟨b, o, none⟩ ∧ b < w.heap.size ∧ ∀ (k : Nat) (x : α), l[k]? = some x → ∀ (q : Nat) (u : Value), (cs x)[q]? = some u → w.cell? ⟨b, o + k * sz + q, none⟩ = some u)
theorem Ls.below {α : Type} {sz : Nat} {cs : α → List Value} {w w' : World} {a : Option Addr} {n : Nat} {l : List α} (h : Ls sz cs w a n l) (f : Below w.heap.size w w') : Ls sz cs w' a n l := by
  rcases h with ⟨h1, h2 | ⟨b, o, e, hb, h2⟩⟩
  · exact ⟨h1, .inl h2⟩
  · exact ⟨h1, .inr ⟨b, o, e, Nat.lt_of_lt_of_le hb f.size, fun k x hx q u hu => (f.cell hb).trans (h2 k x hx q u hu)⟩⟩
/-- A slice of such records that came in. -/
structure LIn {α : Type} (sz by_ : Nat) (cs : α → List Value) (ok : α → Prop) (w : World) (s : Sl) (l : List α) : Prop where
  ls : Ls sz cs w s.a s.n l
  room : s.n ≤ s.c
  most : s.c ≤ 9223372036854775807
  nil : s.a = none → s.n = 0 ∧ s.c = 0
  small : s.n * by_ ≤ 140737488351232
  each : ∀ x ∈ l, ok x
def fitI (n : Int) : Prop := -9223372036854775808 ≤ n ∧ n ≤ 9223372036854775807
def fitS (s : List UInt8) : Prop := s.length ≤ 140737488355328
def tyc (t : Ty) : List Value := [.int .i64 t.kind, .string ⟨t.name.toArray⟩]
def TyFit (t : Ty) : Prop := fitI t.kind ∧ fitS t.name
def hdc (h : Hd) : List Value := [.int .i64 h.frm, .int .i64 h.to_, .int .i64 h.at_, .int .i64 h.cls]
def HdFit (h : Hd) : Prop := fitI h.frm ∧ fitI h.to_ ∧ fitI h.at_ ∧ fitI h.cls
def fdc (f : Fd) : List Value := [.int .i64 f.acc, .string ⟨f.name.toArray⟩, .string ⟨f.type.toArray⟩]
def FdFit (f : Fd) : Prop := fitI f.acc ∧ fitS f.name ∧ fitS f.type
/-- A map, a method as it lies in memory: its lists by their slices. -/
structure MpR where
  m : Mp
  loc : Sl
  stk : Sl
def mpc (r : MpR) : List Value := [.int .i64 r.m.at_, r.loc.v, r.stk.v]
def TysIn (w : World) (s : Sl) (l : List Ty) : Prop := LIn 2 24 tyc TyFit w s l
structure MpIn (w : World) (r : MpR) : Prop where
  fit : fitI r.m.at_
  loc : TysIn w r.loc r.m.loc
  stk : TysIn w r.stk r.m.stk
structure MdR where
  m : Md
  bs : Sl
  hs : Sl
  maps : Sl
  mr : List MpR
def mdc (r : MdR) : List Value := [.int .i64 r.m.acc, .string ⟨r.m.name.toArray⟩, .string ⟨r.m.type.toArray⟩, .int .i64 r.m.code.stack, .int .i64 r.m.code.locals, r.bs.v, r.hs.v, r.maps.v]
structure MdIn (w : World) (r : MdR) : Prop where
  acc : fitI r.m.acc
  name : fitS r.m.name
  type : fitS r.m.type
  stack : fitI r.m.code.stack
  locals : fitI r.m.code.locals
  bs : Arg w r.bs.a r.bs.n r.bs.c r.m.code.bytes
  few : r.bs.n ≤ 140737488351232
  hs : LIn 4 32 hdc HdFit w r.hs r.m.code.hs
  maps : LIn 3 56 mpc (MpIn w) w r.maps r.mr
  same : r.m.code.maps = r.mr.map MpR.m
/-- A class as it lies in memory. -/
structure ClR where
  c : Cl
  pool : Sl
  fields : Sl
  methods : Sl
  mr : List MdR
def ClR.v (r : ClR) : Value := .agg #[r.pool.v, .string ⟨r.c.name.toArray⟩, .string ⟨r.c.super.toArray⟩, r.fields.v, r.methods.v]
structure CIn (w : World) (r : ClR) : Prop where
  pool : EIn w r.pool.a r.pool.n r.pool.c r.c.pool
  name : fitS r.c.name
  super : fitS r.c.super
  fields : LIn 3 40 fdc FdFit w r.fields r.c.fields
  methods : LIn 8 128 mdc (MdIn w) w r.methods r.mr
  same : r.c.methods = r.mr.map MdR.m

theorem LIn.mono {α : Type} {sz by_ : Nat} {cs : α → List Value} {ok ok' : α → Prop} {w w' : World} {s : Sl} {l : List α} (h : LIn sz by_ cs ok w s l) (f : Below w.heap.size w w') (g : ∀ x, ok x → ok' x) : LIn sz by_ cs ok' w' s l :=
  ⟨h.ls.below f, h.room, h.most, h.nil, h.small, fun x hx => g x (h.each x hx)⟩
theorem MpIn.below {w w' : World} {r : MpR} (h : MpIn w r) (f : Below w.heap.size w w') : MpIn w' r := ⟨h.fit, h.loc.mono f (fun _ h => h), h.stk.mono f (fun _ h => h)⟩
theorem MdIn.below {w w' : World} {r : MdR} (h : MdIn w r) (f : Below w.heap.size w w') : MdIn w' r :=
  ⟨h.acc, h.name, h.type, h.stack, h.locals, h.bs.below f, h.few, h.hs.mono f (fun _ h => h), h.maps.mono f (fun _ h => h.below f), h.same⟩
theorem CIn.below {w w' : World} {r : ClR} (h : CIn w r) (f : Below w.heap.size w w') : CIn w' r :=
  ⟨h.pool.below f, h.name, h.super, h.fields.mono f (fun _ h => h), h.methods.mono f (fun _ h => h.below f), h.same⟩

/-- A field of a struct that came in. -/
theorem st_field {H : Type} {enc : TypeId × Value → H} {w : World} {base n : Nat} {T : TypeId} {fs : Array Field} {cs : List Value} {x : DataW H × List MemPlace} (hT : Try.prog.underlying T = some (.struct fs))
    (h : DataW.trod enc Try.prog w base (fun _ => true) true n T cs = some x) (hw : ∀ m ∈ x.1.weights Try.prog T, m ≤ reachBytes) {i : Nat} {f : Field} (hf : fs[i]? = some f) :
    ∃ m y, DataW.trod enc Try.prog w base (fun _ => true) true m f.type ((cs.drop f.offset).take (Try.prog.cellsOf f.type)) = some y ∧ ∀ k ∈ y.1.weights Try.prog f.type, k ≤ reachBytes := by
  obtain ⟨xs, m, _, rfl, hl, hlen, hg⟩ := DataW.trod_struct hT h
  have g := hg i f hf
  have hi : i < xs.length := by rw [hlen]; exact (Array.getElem?_eq_some_iff.1 hf).1
  rw [List.getElem?_eq_getElem hi] at g
  refine ⟨m, _, g, fun k hk => hw k ?_⟩
  simp only [DataW.weights, hT]
  refine DataW.weights_mem_each (j := i) (t := f.type) (d := xs[i].1) ?_ ?_ _ hk
  · simp [hf]
  · rw [List.getElem?_map, List.getElem?_eq_getElem hi]; rfl
theorem int_leaf {H : Type} {enc : TypeId × Value → H} {w : World} {base m o : Nat} {cs : List Value} {y : DataW H × List MemPlace}
    (h : DataW.trod enc Try.prog w base (fun _ => true) true m 3 ((cs.drop o).take (Try.prog.cellsOf 3)) = some y) : ∃ n : Int, cs[o]? = some (.int .i64 n) ∧ fitI n := by
  rw [cellsI] at h
  obtain ⟨n0, e0, _, w0⟩ := DataW.trod_int Try.underlying3 h
  exact ⟨n0, take_one e0, bounds_i64 w0⟩
theorem str_leaf {H : Type} {enc : TypeId × Value → H} {w : World} {base m o : Nat} {cs : List Value} {y : DataW H × List MemPlace}
    (h : DataW.trod enc Try.prog w base (fun _ => true) true m 9 ((cs.drop o).take (Try.prog.cellsOf 9)) = some y) (hw : ∀ k ∈ y.1.weights Try.prog 9, k ≤ reachBytes) : ∃ s : List UInt8, cs[o]? = some (.string ⟨s.toArray⟩) ∧ fitS s := by
  rw [cellsS7] at h
  obtain ⟨s, e1, hx1, hs⟩ := DataW.trod_string Try.underlying9 h
  refine ⟨s.data.toList, ?_, ?_⟩
  · rw [take_one e1]
  · have hm := hw s.data.toList.length (by rw [hx1]; simp [DataW.weights])
    exact str_len (H := H) hm
theorem sl_leaf {H : Type} {enc : TypeId × Value → H} {w : World} {base m o : Nat} {cs : List Value} {y : DataW H × List MemPlace} {t e : TypeId} (ht : Try.prog.underlying t = some (.slice e)) (hc : Try.prog.cellsOf t = 1)
    (h : DataW.trod enc Try.prog w base (fun _ => true) true m t ((cs.drop o).take (Try.prog.cellsOf t)) = some y) : ∃ s : Sl, cs[o]? = some s.v ∧ DataW.Trod enc Try.prog w base (fun _ => true) true t s.v y.1 y.2 := by
  rw [hc] at h
  have key : ∃ s : Sl, (cs.drop o).take 1 = [s.v] := by
    rcases Go.Deep.open_slice ht h with ⟨hcs, _⟩ | ⟨ad, len', cap', _, _, _, _, hcs, _⟩
    · exact ⟨⟨none, 0, 0⟩, hcs⟩
    · exact ⟨⟨some ad, len', cap'⟩, hcs⟩
  obtain ⟨s, hs⟩ := key
  exact ⟨s, take_one hs, m, by rw [hs] at h; simpa [Value.cells, Sl.v] using h⟩
theorem lin_open {α : Type} {H : Type} {enc : TypeId × Value → H} {w : World} {base : Nat} {T e : TypeId} {size by_ : Nat} (hT : Try.prog.underlying T = some (.slice e)) (hsz : Try.prog.cellsOf e = size) (hby : Try.prog.bytesOf e = by_) (hpos : 0 < size) {ok : α → Prop} {val : α → List Value} (hval : ∀ y, (val y).length = size) (hone : ∀ y, ∃ v, (val y)[0]? = some v)
    (hop : ∀ (n : Nat) (cs : List Value) (x : DataW H × List MemPlace), DataW.trod enc Try.prog w base (fun _ => true) true n e cs = some x → (∀ m ∈ x.1.weights Try.prog e, m ≤ reachBytes) → ∃ y, cs = val y ∧ ok y)
    {s : Sl} {d : DataW H} {p : List MemPlace} (h : DataW.Trod enc Try.prog w base (fun _ => true) true T s.v d p) (hw : ∀ m ∈ d.weights Try.prog T, m ≤ reachBytes) : ∃ l : List α, LIn size by_ val ok w s l := by
  obtain ⟨l, h1, h2, h3, h4, h5, h6, h7⟩ := open_list hT hsz hpos hval hone hop h hw
  rw [hby] at h4
  unfold reachBytes at h4
  exact ⟨l, ⟨h1, h7⟩, h2, h3, h5, by omega, h6⟩
end Go.Proofs.Ytnnanlniffjnkaa

/- The records of a class that came in, opened. -/
namespace Go.Proofs.Ytnnanlniffjnkaa
open Go.ChangeShapes Go.WideShapes Go.ChangeAt Go.RowKit
set_option linter.unusedVariables false
set_option maxRecDepth 100000

theorem st_len {H : Type} {enc : TypeId × Value → H} {w : World} {base n k : Nat} {T : TypeId} {fs : Array Field} {cs : List Value} {x : DataW H × List MemPlace} (hT : Try.prog.underlying T = some (.struct fs)) (hk : Try.prog.cellsOf T = k)
    (h : DataW.trod enc Try.prog w base (fun _ => true) true n T cs = some x) : cs.length = k := by
  obtain ⟨xs, m, _, rfl, hl, hlen, hg⟩ := DataW.trod_struct hT h
  rw [hl, hk]
/-- A text that came in. -/
theorem str_arg {H : Type} {enc : TypeId × Value → H} {W : World} {base b2 : Nat} {v : Value} {d : DataW H} {p : List MemPlace} (hv : Value.okWide Try.prog W .any b2 9 v)
    (h : DataW.Trod enc Try.prog W base (fun _ => true) true 9 v d p) (hw : ∀ m ∈ d.weights Try.prog 9, m ≤ reachBytes) : ∃ s : List UInt8, v = .string ⟨s.toArray⟩ ∧ fitS s := by
  obtain ⟨s, rfl, rfl, _, _⟩ := Go.ChangeMaps.open_string Try.underlying9 hv h
  have hm := hw s.data.toList.length (by simp [DataW.weights])
  exact ⟨s.data.toList, rfl, str_len (H := H) hm⟩

end Go.Proofs.Ytnnanlniffjnkaa

/- SameEntries. -/
namespace Go.Proofs.Ytnnanlniffjnkaa
open Go.RowKit
set_option linter.unusedVariables false

end Go.Proofs.Ytnnanlniffjnkaa
