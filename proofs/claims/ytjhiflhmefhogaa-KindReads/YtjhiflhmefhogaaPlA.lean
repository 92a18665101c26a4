/- Pools as plain values: entries, constants; right, read, written, meant, put. -/
import Derived.Test.YtjhiflhmefhogaaWdA
namespace Go.Proofs.Ytjhiflhmefhogaa
open Go.RowKit
set_option linter.unusedVariables false

structure Ent where
  tag : Int
  text : List UInt8
  n : Int
  a : Int
  b : Int
structure Cst where
  tag : Int
  n : Int
  cls : List UInt8
  name : List UInt8
  type : List UInt8
theorem Ent.eq_iff (x y : Ent) : (x.tag = y.tag ∧ x.text = y.text ∧ x.n = y.n ∧ x.a = y.a ∧ x.b = y.b) ↔ x = y := by
  obtain ⟨a, b, c, d, e⟩ := x
  obtain ⟨a', b', c', d', e'⟩ := y
  constructor
  · rintro ⟨h1, h2, h3, h4, h5⟩
    simp only at h1 h2 h3 h4 h5
    subst h1 h2 h3 h4 h5
    rfl
  · intro h
    injection h with h1 h2 h3 h4 h5
    exact ⟨h1, h2, h3, h4, h5⟩
theorem Cst.eq_iff (x y : Cst) : (x.tag = y.tag ∧ x.n = y.n ∧ x.cls = y.cls ∧ x.name = y.name ∧ x.type = y.type) ↔ x = y := by
  obtain ⟨a, b, c, d, e⟩ := x
  obtain ⟨a', b', c', d', e'⟩ := y
  constructor
  · rintro ⟨h1, h2, h3, h4, h5⟩
    simp only at h1 h2 h3 h4 h5
    subst h1 h2 h3 h4 h5
    rfl
  · intro h
    injection h with h1 h2 h3 h4 h5
    exact ⟨h1, h2, h3, h4, h5⟩
instance : DecidableEq Ent := fun x y => decidable_of_iff _ (Ent.eq_iff x y)
instance : DecidableEq Cst := fun x y => decidable_of_iff _ (Cst.eq_iff x y)
def ent0 : Ent := ⟨0, [], 0, 0, 0⟩
def cst0 : Cst := ⟨0, 0, [], [], []⟩
def eUtf (s : List UInt8) : Ent := ⟨1, s, 0, 0, 0⟩
def textB (s : List UInt8) : Bool := s.all (fun x => decide (33 ≤ x.toNat) && decide (x.toNat ≤ 126)) && decide (s.length ≤ 255)
def atE (l : List Ent) (i : Int) : Ent := if 0 ≤ i then l[i.toNat]?.getD ent0 else ent0
def tagE (l : List Ent) (i : Int) : Int := (atE l i).tag
/-- An entry that may stand in a pool. -/
def okE (l : List Ent) (x : Ent) : Bool :=
  if x.tag = 1 then textB x.text && decide (x = eUtf x.text)
  else if x.tag = 3 then decide (-2147483648 ≤ x.n ∧ x.n ≤ 2147483647) && decide (x = ⟨3, [], x.n, 0, 0⟩)
  else if x.tag = 5 then decide (x = ⟨5, [], x.n, 0, 0⟩)
  else if x.tag = 7 then decide (tagE l x.a = 1) && decide (x = ⟨7, [], 0, x.a, 0⟩)
  else if x.tag = 12 then decide (tagE l x.a = 1 ∧ tagE l x.b = 1) && decide (x = ⟨12, [], 0, x.a, x.b⟩)
  else if x.tag = 9 ∨ x.tag = 10 then decide (tagE l x.a = 7 ∧ tagE l x.b = 12) && decide (x = ⟨x.tag, [], 0, x.a, x.b⟩)
  else false
/-- Entries, one behind the other; behind a long a zero entry. -/
def goE (l : List Ent) : List Ent → Bool
  | [] => true
  | [x] => okE l x && decide (x.tag ≠ 5)
  | x :: z :: r => okE l x && (if x.tag = 5 then decide (z = ent0) && goE l r else goE l (z :: r))
def checkP (l : List Ent) : Bool := decide (1 ≤ l.length ∧ l.length ≤ 1024) && decide (l[0]? = some ent0) && goE l (l.drop 1)

/-- An entry's bytes. -/
def bodyE (x : Ent) : List UInt8 :=
  if x.tag = 1 then bytesW 2 x.text.length ++ x.text
  else if x.tag = 3 then bytesW 4 x.n
  else if x.tag = 5 then bytesW 8 x.n
  else if x.tag = 7 then bytesW 2 x.a
  else bytesW 2 x.a ++ bytesW 2 x.b
def bytesE (x : Ent) : List UInt8 := if x.tag = 0 then [] else UInt8.ofNat x.tag.toNat :: bodyE x
def bytesP (l : List Ent) : List UInt8 := bytesW 2 l.length ++ (l.drop 1).flatMap bytesE

/-- The entry whose bytes come: what it is, the error, the place then. -/
def entR (bs : List UInt8) (i : Nat) : Ent × Int × Nat :=
  let g := getW bs i 1 false
  let x : Ent := ⟨g.1, [], 0, 0, 0⟩
  if g.2.1 ≠ 0 then (x, g.2)
  else if g.1 = 1 then
    let k := getW bs g.2.2 2 false
    if k.2.1 ≠ 0 then (x, k.2) else
      let t := takeW bs k.2.2 k.1
      ({ x with text := t.1 }, t.2)
  else if g.1 = 3 then let k := getW bs g.2.2 4 true; ({ x with n := k.1 }, k.2)
  else if g.1 = 5 then let k := getW bs g.2.2 8 true; ({ x with n := k.1 }, k.2)
  else if g.1 = 7 then let k := getW bs g.2.2 2 false; ({ x with a := k.1 }, k.2)
  else if g.1 = 9 ∨ g.1 = 10 ∨ g.1 = 12 then
    let k := getW bs g.2.2 2 false
    if k.2.1 ≠ 0 then ({ x with a := k.1 }, k.2) else
      let m := getW bs k.2.2 2 false
      ({ x with a := k.1, b := m.1 }, m.2)
  else (x, 70, g.2.2)
/-- An entry more, behind a long with its zero. -/
def withE (l : List Ent) (x : Ent) : List Ent := if x.tag = 5 then l ++ [x, ent0] else l ++ [x]
/-- Entries till there are n: the list, the error, the place then. -/
def entsR (bs : List UInt8) (n : Nat) : Nat → List Ent → Nat → List Ent × Int × Nat
  | 0, l, i => (l, 0, i)
  | f + 1, l, i => if n ≤ l.length then (l, 0, i) else
      let x := entR bs i
      if x.2.1 ≠ 0 then (l, x.2) else entsR bs n f (withE l x.1) x.2.2
/-- The pool whose bytes come. -/
def readP (bs : List UInt8) (i : Nat) : List Ent × Int × Nat :=
  let g := getW bs i 2 false
  if g.2.1 ≠ 0 then ([], g.2)
  else if g.1 < 1 ∨ 1024 < g.1 then ([], 70, g.2.2)
  else
    let r := entsR bs g.1.toNat g.1.toNat [ent0] g.2.2
    if r.2.1 ≠ 0 then ([], r.2)
    else if g.1 < r.1.length ∨ checkP r.1 = false then ([], 70, r.2.2)
    else r

/-- What an entry means; none: nothing. -/
def meanP (l : List Ent) (i : Int) : Cst :=
  let x := atE l i
  if x.tag = 3 ∨ x.tag = 5 then ⟨x.tag, x.n, [], [], []⟩
  else if x.tag = 7 then ⟨7, 0, (atE l x.a).text, [], []⟩
  else if x.tag = 9 ∨ x.tag = 10 then ⟨x.tag, 0, (atE l (atE l x.a).a).text, (atE l (atE l x.b).a).text, (atE l (atE l x.b).b).text⟩
  else cst0
def textP (l : List Ent) (i : Int) : List UInt8 × Int := if checkP l = false then ([], 70) else if tagE l i ≠ 1 then ([], 2) else ((atE l i).text, 0)
def constP (l : List Ent) (i : Int) : Cst × Int := if checkP l = false then (cst0, 70) else if (meanP l i).tag = 0 then (cst0, 2) else (meanP l i, 0)
/-- The first number of an entry; 0: there is none. -/
def findE (l : List Ent) (x : Ent) : Nat := ((List.range l.length).find? fun i => decide (1 ≤ i) && decide (l[i]? = some x)).getD 0
def addE (l : List Ent) (x : Ent) : List Ent × Nat := if findE l x = 0 then (withE l x, l.length) else (l, findE l x)
def rightC (c : Cst) : Bool :=
  if c.tag = 3 then decide (c = ⟨3, c.n, [], [], []⟩) && decide (-2147483648 ≤ c.n ∧ c.n ≤ 2147483647)
  else if c.tag = 5 then decide (c = ⟨5, c.n, [], [], []⟩)
  else if c.tag = 7 then decide (c = ⟨7, 0, c.cls, [], []⟩) && textB c.cls
  else if c.tag = 9 ∨ c.tag = 10 then decide (c.n = 0) && textB c.cls && textB c.name && textB c.type
  else false
/-- The first number that means a constant; 0: none does. -/
def meansE (l : List Ent) (c : Cst) : Nat := ((List.range l.length).find? fun (i : Nat) => decide (1 ≤ i) && decide (meanP l (i : Int) = c)).getD 0
/-- A pool with what a constant wants. -/
def growP (l : List Ent) (c : Cst) : List Ent × Nat :=
  if c.tag = 3 ∨ c.tag = 5 then addE l ⟨c.tag, [], c.n, 0, 0⟩
  else if c.tag = 7 then
    let t := addE l (eUtf c.cls)
    addE t.1 ⟨7, [], 0, t.2, 0⟩
  else
    let t := addE l (eUtf c.cls)
    let k := addE t.1 ⟨7, [], 0, t.2, 0⟩
    let n := addE k.1 (eUtf c.name)
    let y := addE n.1 (eUtf c.type)
    let z := addE y.1 ⟨12, [], 0, n.2, y.2⟩
    addE z.1 ⟨c.tag, [], 0, k.2, z.2⟩
def putP (l : List Ent) (c : Cst) : List Ent × Int × Int :=
  if checkP l = false then ([], 0, 70)
  else if rightC c = false then ([], 0, 2)
  else if meansE l c ≠ 0 then (l, meansE l c, 0)
  else if 1024 < (growP l c).1.length then ([], 0, 3)
  else ((growP l c).1, (growP l c).2, 0)

end Go.Proofs.Ytjhiflhmefhogaa
