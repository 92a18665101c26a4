/- Joined: ShA ShP. -/
import Derived.Test.YthenefjoidckkaaGreatDoorJK6
import Derived.Test.YthenefjoidckkaaGreatDoorJN

/- Layer 11: which frame may stand for which. -/
namespace Go.Proofs.YthenefjoidckkaaGreatDoor
open Go.RowKit
set_option linter.unusedVariables false
set_option maxRecDepth 100000

def mayT (l : List Nc) (x y : Ty) : Bool := mayP l x.name.length x y
def allM (l : List Nc) (a b : List Ty) : Bool := decide (a.length = b.length) && (a.zip b).all fun p => mayT l p.1 p.2
theorem allM_true {l : List Nc} {a b : List Ty} (hl : a.length = b.length) (h : ∀ (j : Nat) x y, a[j]? = some x → b[j]? = some y → mayT l x y = true) : allM l a b = true := by
  unfold allM
  rw [Bool.and_eq_true, decide_eq_true_eq, List.all_eq_true]
  refine ⟨hl, fun p hp => ?_⟩
  obtain ⟨j, hj⟩ := List.getElem?_of_mem hp
  rw [List.getElem?_zip_eq_some] at hj
  exact h j _ _ hj.1 hj.2
theorem allM_no {l : List Nc} {a b : List Ty} {j : Nat} {x y : Ty} (hx : a[j]? = some x) (hy : b[j]? = some y) (h : mayT l x y = false) : allM l a b = false := by
  cases hc : allM l a b with
  | false => rfl
  | true =>
    unfold allM at hc
    rw [Bool.and_eq_true, List.all_eq_true] at hc
    have : (x, y) ∈ a.zip b := List.mem_of_getElem? (List.getElem?_zip_eq_some.2 ⟨hx, hy⟩)
    have := hc.2 _ this
    rw [h] at this
    cases this
theorem allM_len {l : List Nc} {a b : List Ty} (h : a.length ≠ b.length) : allM l a b = false := by
  unfold allM
  rw [decide_eq_false h]
  rfl
def nmOk (t : Ty) : Prop := t.name.length ≤ 140737488351232
set_option maxHeartbeats 400000 in
theorem may1_any (w : World) (g : Nat) (a : Option Addr) (n cap : Nat) (l : List Nc) (hg : w.cell? ⟨g, 0, none⟩ = some (.slice a n cap)) (hL : Ls 5 ncc w a n l) (hn : n ≤ 40) (x y : Ty) (hx : nmOk x) (hy : nmOk y) :
    Calls Tryz.prog 30 #[tyV x, tyV y, .pointer (some ⟨g, 0, none⟩)] w fun e w' => e = .returned (.bool (mayT l x y)) ∧ Below w.heap.size w w' := by
  unfold tyV
  obtain ⟨X, hX⟩ : ∃ X : ByteArray, X = ⟨x.name.toArray⟩ := ⟨_, rfl⟩
  obtain ⟨Y, hY⟩ : ∃ Y : ByteArray, Y = ⟨y.name.toArray⟩ := ⟨_, rfl⟩
  rw [← hX, ← hY]
  obtain ⟨w2, hw2⟩ : ∃ w2, w2 = (w.alloc (.cells #[.int .i64 x.kind, .string X] 52)).alloc (.cells #[.int .i64 y.kind, .string Y] 52) := ⟨_, rfl⟩
  have f2 : Below w.heap.size w w2 := by rw [hw2]; exact bA (bA (Below.refl _ _) _) _
  have HM := hide (yMay_any x.name.length w2 a n cap l (hL.below f2) hn X Y x y ⟨hX⟩ ⟨hY⟩ (Nat.le_refl _) hx hy)
  have HW2 := hide hw2
  have F2 := hide f2
  have hg1 := ((bA (Below.refl _ _) (.cells #[.int .i64 x.kind, .string X] 52) : Below w.heap.size w _).cell (World.block_lt_of_cell? w _ hg)).trans hg
  have hg2 := ((bA (bA (Below.refl _ _) (.cells #[.int .i64 x.kind, .string X] 52)) (.cells #[.int .i64 y.kind, .string Y] 52) : Below w.heap.size w _).cell (World.block_lt_of_cell? w _ hg)).trans hg
  have hgl : g < w.heap.size := World.block_lt_of_cell? w _ hg
  have n1 : ¬ g = w.heap.size := by omega
  have n2 : ¬ g = w.heap.size + 1 := by omega
  clear hL hX hY hw2 f2
  go_enter Tryz.func30, Tryz.ntmps30
  go_wp2_with fail
  rw [← unhide HW2]
  refine (unhide HM).mono ?_
  rintro e w3 ⟨rfl, f3⟩
  have F3 := hide ((unhide F2).trans (f3.mono (unhide F2).size))
  clear f3 HM
  go_wp2
  go_ret
  exact ⟨rfl, unhide F3⟩
set_option maxHeartbeats 800000 in
theorem slEqualT_may (w : World) (g : Nat) (a : Option Addr) (n cap : Nat) (l : List Nc) (hg : w.cell? ⟨g, 0, none⟩ = some (.slice a n cap)) (hL : Ls 5 ncc w a n l) (hn : n ≤ 40)
    (a1 a2 : Option Addr) (n1 c1 n2 c2 : Nat) (u v : List Ty) (h1 : Ls 2 tyc w a1 n1 u) (h2 : Ls 2 tyc w a2 n2 v) (hu : ∀ x ∈ u, nmOk x) (hv : ∀ x ∈ v, nmOk x) (hs : n1 ≤ 1000000000000) :
    Calls Tryz.prog 32 #[.slice a1 n1 c1, .slice a2 n2 c2, .func (.func 30) #[] #[.pointer (some ⟨g, 0, none⟩)]] w fun e w' => e = .returned (.bool (allM l u v)) ∧ Below w.heap.size w w' := by
  have hl1 := h1.1
  have hl2 := h2.1
  have H1 := hide h1
  have H2 := hide h2
  by_cases hnm : n1 = n2
  case neg =>
    have e1 : allM l u v = false := allM_len (by omega)
    have e2 : ((n1 : Int) != (n2 : Int)) = true := by simp; omega
    have e3 : ¬ (n1 : Int) = (n2 : Int) := by omega
    rw [e1]
    clear h1 h2 hg hL hu hv
    go_enter Tryz.func32, Tryz.ntmps32
    go_wp2
    go_ret
    exact ⟨rfl, Below.refl _ _⟩
  subst hnm
  have HC : Hid (∀ W, Below w.heap.size w W → ∀ x y, nmOk x → nmOk y → Calls Tryz.prog 30 #[tyV x, tyV y, .pointer (some ⟨g, 0, none⟩)] W fun e w' => e = .returned (.bool (mayT l x y)) ∧ Below W.heap.size W w') := fun W f x y hx hy =>
    may1_any W g a n cap l ((f.cell (World.block_lt_of_cell? w _ hg)).trans hg) (hL.below f) hn x y hx hy
  have HU := hide hu
  have HV := hide hv
  obtain ⟨D, hD⟩ : ∃ D, D = allM l u v := ⟨_, rfl⟩
  rw [← hD]
  have HD := hide hD
  clear h1 h2 hg hL hu hv hD
  go_enter Tryz.func32, Tryz.ntmps32
  go_wp2
  go_loopw [17] (fun vk W => ∃ k : Nat, k ≤ n1 ∧ vk = .int .i64 k ∧ Below w.heap.size w W ∧ Hid (∀ (j : Nat) x y, j < k → u[j]? = some x → v[j]? = some y → mayT l x y = true)) (fun vk _ => n1 - (intOf vk).toNat)
  case atStart => exact ⟨0, by omega, rfl, Below.refl _ _, fun j x y h => by omega⟩
  case round =>
    obtain ⟨k, hk, rfl, hR, HQ⟩ := hrel
    by_cases hlt : k < n1
    · have hlt1 : (k : Int) < (n1 : Int) := by omega
      obtain ⟨b1, o1, h1a, g1⟩ := Ls.row (unhide H1) (w' := wr) (by omega)
      obtain ⟨b2, o2, h2a, g2⟩ := Ls.row (unhide H2) (w' := wr) (by omega)
      subst h1a h2a
      obtain ⟨x, hx⟩ : ∃ x, u[k]? = some x := ⟨_, List.getElem?_eq_getElem (by omega)⟩
      obtain ⟨y, hy⟩ : ∃ y, v[k]? = some y := ⟨_, List.getElem?_eq_getElem (by omega)⟩
      have c0 := (g1 hR k x hx).zero
      have c1 := (g1 hR k x hx) 1 _ rfl
      have d0 := (g2 hR k y hy).zero
      have d1 := (g2 hR k y hy) 1 _ rfl
      have F1 : Below w.heap.size w (wr.alloc (.cells (tyc x).toArray 52)) := bA hR _
      have dd : ∀ j v, wr.cell? ⟨b2, o2 + k * 2 + j, none⟩ = some v → (wr.alloc (.cells (tyc x).toArray 52)).cell? ⟨b2, o2 + k * 2 + j, none⟩ = some v := fun j v h => ((bA (Below.refl _ _) _ : Below wr.heap.size wr _).cell (World.block_lt_of_cell? wr _ h)).trans h
      have D0 := dd 0 _ d0
      have D1 := dd 1 _ d1
      rw [Nat.add_zero] at D0
      have F2 : Below w.heap.size w ((wr.alloc (.cells (tyc x).toArray 52)).alloc (.cells (tyc y).toArray 52)) := bA F1 _
      have HS := hide (unhide HC _ F2 x y (unhide HU x (List.mem_of_getElem? hx)) (unhide HV y (List.mem_of_getElem? hy)))
      have HF2 := hide F2
      have HX : Hid (mayT l x y = true → ∀ (j : Nat) x y, j < k + 1 → u[j]? = some x → v[j]? = some y → mayT l x y = true) := fun hxy j x' y' hj hx' hy' => by
        by_cases hjk : j = k
        · subst hjk
          rw [hx] at hx'
          rw [hy] at hy'
          injection hx' with hx'
          injection hy' with hy'
          rw [← hx', ← hy']
          exact hxy
        · exact unhide HQ j x' y' (by omega) hx' hy'
      have HY : Hid (mayT l x y = false → D = false) := fun hxy => by rw [unhide HD]; exact allM_no hx hy hxy
      clear g1 g2 hx hy hR F1 F2 dd HQ d0 d1
      unfold tyc tyV at *
      generalize mayT l x y = R at *
      cases R with
      | true =>
        have HX' := hide (unhide HX rfl)
        clear HX HY
        go_wp2_with fail
        refine (unhide HS).mono ?_
        rintro e w4 ⟨rfl, f4⟩
        have F4 := hide ((unhide HF2).trans (f4.mono (unhide HF2).size))
        clear f4 HS
        go_wp2
        go_roundw
        case rel => exact ⟨k + 1, by omega, by go_num, unhide F4, HX'⟩
        case measure => simp [intOf]; omega
      | false =>
        have HY' := hide (unhide HY rfl)
        clear HX HY
        go_wp2_with fail
        refine (unhide HS).mono ?_
        rintro e w4 ⟨rfl, f4⟩
        have F4 := hide ((unhide HF2).trans (f4.mono (unhide HF2).size))
        clear f4 HS
        go_wp2
        go_ret
        exact ⟨by rw [unhide HY']; rfl, unhide F4⟩
    · obtain rfl : k = n1 := by omega
      have HT : Hid (D = true) := by
        show D = true
        rw [unhide HD]
        exact allM_true (by omega) fun j x y hx hy => unhide HQ j x y (by have := (List.getElem?_eq_some_iff.1 hx).1; omega) hx hy
      have F4 := hide hR
      clear HQ hR
      go_wp2
      go_ret
      exact ⟨by rw [unhide HT]; rfl, unhide F4⟩
/-- A frame's lists in memory. -/
structure FrIn (w : World) (lo st : Sl) (a b : List Ty) : Prop where
  ll : Ls 2 tyc w lo.a lo.n a
  sl : Ls 2 tyc w st.a st.n b
  lok : ∀ x ∈ a, nmOk x
  sok : ∀ x ∈ b, nmOk x
  lon : lo.n ≤ 1000000000000
  stn : st.n ≤ 1000000000000
theorem FrIn.below {w w' : World} {lo st : Sl} {a b : List Ty} (h : FrIn w lo st a b) (f : Below w.heap.size w w') : FrIn w' lo st a b := ⟨h.ll.below f, h.sl.below f, h.lok, h.sok, h.lon, h.stn⟩
set_option maxHeartbeats 800000 in
theorem p11May_any (w : World) (a : Option Addr) (n cap : Nat) (l : List Nc) (hL : Ls 5 ncc w a n l) (hn : n ≤ 40) (lo st lo2 st2 : Sl) (u1 v1 u2 v2 : List Ty) (h1 : FrIn w lo st u1 v1) (h2 : FrIn w lo2 st2 u2 v2) :
    Calls Tryz.prog 12 #[.slice a n cap, .agg #[lo.v, st.v], .agg #[lo2.v, st2.v]] w fun e w' => e = .returned (.bool (allM l u1 u2 && allM l v1 v2)) ∧ Below w.heap.size w w' := by
  obtain ⟨la, ln, lc⟩ := lo
  obtain ⟨sa, sn, sc⟩ := st
  obtain ⟨la2, ln2, lc2⟩ := lo2
  obtain ⟨sa2, sn2, sc2⟩ := st2
  unfold Sl.v
  obtain ⟨w3, hw3⟩ : ∃ w3, w3 = ((w.alloc (.cells #[.slice a n cap] 42)).alloc (.cells #[.slice la ln lc, .slice sa sn sc] 32)).alloc (.cells #[.slice la2 ln2 lc2, .slice sa2 sn2 sc2] 32) := ⟨_, rfl⟩
  have f3 : Below w.heap.size w w3 := by rw [hw3]; exact bA (bA (bA (Below.refl _ _) _) _) _
  have hz1 : (w.alloc (.cells #[.slice a n cap] 42)).heap.size = w.heap.size + 1 := by simp
  have hb0 : w3.heap[w.heap.size]? = some (.cells #[.slice a n cap] 42 (0, 0)) := by rw [hw3]; exact (heap_alloc_old _ _ (by simp; omega)).trans ((heap_alloc_old _ _ (by simp)).trans (heap_alloc_last _ _))
  have hb1 : w3.heap[w.heap.size + 1]? = some (.cells #[.slice la ln lc, .slice sa sn sc] 32 (0, 0)) := by rw [hw3]; exact (heap_alloc_old _ _ (by simp)).trans (by have := heap_alloc_last (w.alloc (.cells #[.slice a n cap] 42)) (.cells #[.slice la ln lc, .slice sa sn sc] 32); rw [hz1] at this; exact this)
  have hz2 : ((w.alloc (.cells #[.slice a n cap] 42)).alloc (.cells #[.slice la ln lc, .slice sa sn sc] 32)).heap.size = w.heap.size + 1 + 1 := by simp
  have hb2 : w3.heap[w.heap.size + 1 + 1]? = some (.cells #[.slice la2 ln2 lc2, .slice sa2 sn2 sc2] 32 (0, 0)) := by rw [hw3]; have := heap_alloc_last ((w.alloc (.cells #[.slice a n cap] 42)).alloc (.cells #[.slice la ln lc, .slice sa sn sc] 32)) (.cells #[.slice la2 ln2 lc2, .slice sa2 sn2 sc2] 32); rw [hz2] at this; exact this
  have HEQ : Hid (∀ W, Below w3.heap.size w3 W → ∀ (p1 p2 : Option Addr) (m1 k1 m2 k2 : Nat) (u v : List Ty), Ls 2 tyc w p1 m1 u → Ls 2 tyc w p2 m2 v → (∀ x ∈ u, nmOk x) → (∀ x ∈ v, nmOk x) → m1 ≤ 1000000000000 →
    Calls Tryz.prog 32 #[.slice p1 m1 k1, .slice p2 m2 k2, .func (.func 30) #[] #[.pointer (some ⟨w.heap.size, 0, none⟩)]] W fun e w' => e = .returned (.bool (allM l u v)) ∧ Below W.heap.size W w') := fun W f p1 p2 m1 k1 m2 k2 u v hu hv hu2 hv2 hm =>
    have fw : Below w.heap.size w W := f3.trans (f.mono f3.size)
    slEqualT_may W w.heap.size a n cap l (bx_cell ((f.block _ (lt_of_heap hb0)).trans hb0) 0 _ rfl) (hL.below fw) hn p1 p2 m1 k1 m2 k2 u v (hu.below fw) (hv.below fw) hu2 hv2 hm
  have KB : Hid (∀ W, Below w3.heap.size w3 W → W.cell? ⟨w.heap.size + 1, 0, none⟩ = some (.slice la ln lc) ∧ W.cell? ⟨w.heap.size + 1, 1, none⟩ = some (.slice sa sn sc) ∧ W.cell? ⟨w.heap.size + 1 + 1, 0, none⟩ = some (.slice la2 ln2 lc2) ∧ W.cell? ⟨w.heap.size + 1 + 1, 1, none⟩ = some (.slice sa2 sn2 sc2)) := fun W f => by
    have e1 := (f.block _ (lt_of_heap hb1)).trans hb1
    have e2 := (f.block _ (lt_of_heap hb2)).trans hb2
    exact ⟨bx_cell e1 0 _ rfl, bx_cell e1 1 _ rfl, bx_cell e2 0 _ rfl, bx_cell e2 1 _ rfl⟩
  have HL1 := hide h1
  have HL2 := hide h2
  have HW3 := hide hw3
  have F3 := hide f3
  have HE1 := hide (unhide HEQ w3 (Below.refl _ _) la la2 ln lc ln2 lc2 u1 u2 h1.ll h2.ll h1.lok h2.lok h1.lon)
  clear hL h1 h2 f3 hb0 hb1 hb2 hz1 hz2 hw3
  obtain ⟨D, hD⟩ : ∃ D, D = (allM l u1 u2 && allM l v1 v2) := ⟨_, rfl⟩
  rw [← hD]
  go_enter Tryz.func12, Tryz.ntmps12
  go_wp2_with fail
  rw [← unhide HW3]
  refine (unhide HE1).mono ?_
  rintro e w4 ⟨rfl, f4⟩
  have HE2 := hide (unhide HEQ w4 f4 sa sa2 sn sc sn2 sc2 v1 v2 (unhide HL1).sl (unhide HL2).sl (unhide HL1).sok (unhide HL2).sok (unhide HL1).stn)
  obtain ⟨q1, q2, q3, q4⟩ := unhide KB w4 f4
  have F4 := hide ((unhide F3).trans (f4.mono (unhide F3).size))
  clear f4 HE1 HEQ KB
  generalize allM l u1 u2 = A at *
  generalize allM l v1 v2 = B at *
  have HDD := hide hD
  clear hD
  cases A with
  | true =>
    go_wp2_with fail
    refine (unhide HE2).mono ?_
    rintro e w5 ⟨rfl, f5⟩
    have F5 := hide ((unhide F4).trans (f5.mono (unhide F4).size))
    clear f5 HE2
    go_wp2
    go_ret
    exact ⟨by rw [unhide HDD]; rfl, unhide F5⟩
  | false =>
    clear HE2
    go_wp2
    go_ret
    exact ⟨by rw [unhide HDD]; rfl, unhide F4⟩
end Go.Proofs.YthenefjoidckkaaGreatDoor

/- Layer 11: what an instruction does to a frame, as plain values. -/
namespace Go.Proofs.YthenefjoidckkaaGreatDoor
open Go.RowKit
set_option linter.unusedVariables false
set_option maxRecDepth 100000

/-- What a work tells: stack, locals, hand, owner, arguments, what was told. -/
structure Wst where
  st : List Ty
  lo : List Ty
  ha : List Ty
  ow : Ty
  ar : List Ty
  to_ : Ty
abbrev Deed := Wst → Option Wst
def tyI : Ty := ⟨1, []⟩
def tyJ : Ty := ⟨2, []⟩
def tyN : Ty := ⟨3, []⟩
def refT (s : List UInt8) : Ty := ⟨4, s⟩
def isIntB (t : Ty) : Bool := decide (t.kind = 1)
def isLongB (t : Ty) : Bool := decide (t.kind = 2)
def singleB (t : Ty) : Bool := !isLongB t
def isRefB (t : Ty) : Bool := decide (t.kind = 3) || decide (t.kind = 4)
def arrM (t : Ty) : Bool := decide ((elemP t).2 = 0) || decide (t.kind = 3)
def refsM (t : Ty) : Bool := decide ((elemP t).1.kind = 4) || decide (t.kind = 3)
def takeD (fit : Ty → Bool) : Deed := fun x => match x.st.getLast? with
  | none => none
  | some t => if fit t = true then some { x with st := x.st.dropLast, ha := x.ha ++ [t] } else none
def popD (cl : List Nc) (y : Ty) : Deed := takeD fun t => mayT cl t y
def pushD (ys : List Ty) : Deed := fun x => some { x with st := x.st ++ ys }
def popPairD : Deed := fun x => match takeD isLongB x with
  | some y => some y
  | none => (takeD singleB x).bind (takeD singleB)
def popL (cl : List Nc) : List Ty → Deed
  | [], x => some x
  | y :: ys, x => (popD cl y x).bind (popL cl ys)
def popArgsD (cl : List Nc) : Deed := fun x => popL cl x.ar.reverse x
def pushToldD : Deed := fun x => pushD [x.to_] x
def pushFirstD : Deed := fun x => match x.ha.head? with
  | none => none
  | some t => pushD [t] x
def pushLastD : Deed := fun x => match x.ha.getLast? with
  | none => none
  | some t => pushD [t] x
def pushBackD : Deed := fun x => pushD x.ha.reverse x
def pushAnswerD : Deed := fun x => if x.to_.kind = 0 then some x else pushToldD x
def elemOf (t : Ty) : Ty := if (elemP t).2 = 0 then (elemP t).1 else tyN
def pushElementD : Deed := fun x => match x.ha.getLast? with
  | none => none
  | some t => pushD [elemOf t] x
def pushNumbersD (A : Int) : Deed := fun x => if A = 8 then pushD [refT [91, 66]] x else if A = 10 then pushD [refT [91, 73]] x else if A = 11 then pushD [refT [91, 74]] x else none
def pushArrayD : Deed := fun x => if (parP (91 :: (prnP x.to_).1)).2 = 0 then pushD [(parP (91 :: (prnP x.to_).1)).1] x else none
def getD_ (fit : Ty → Bool) (A : Int) : Deed := fun x => if A < 0 then none else match x.lo[A.toNat]? with
  | none => none
  | some t => if fit t = true then some { x with ha := x.ha ++ [t] } else none
def wide1 (t : Ty) : Nat := if t.kind = 2 then 2 else 1
def setL1 (lo : List Ty) (k : Nat) (t : Ty) : List Ty := if t.kind = 2 then (lo.set k t).set (k + 1) ty0 else lo.set k t
def setL (lo : List Ty) (k : Nat) (t : Ty) : List Ty := if 0 < k ∧ ((setL1 lo k t)[k - 1]?.map Ty.kind) = some 2 then (setL1 lo k t).set (k - 1) ty0 else setL1 lo k t
def setLocalD (A : Int) : Deed := fun x => match x.ha.head? with
  | none => none
  | some t => if A < 0 ∨ (x.lo.length : Int) - wide1 t < A then none else some { x with lo := setL x.lo A.toNat t }
def answersD (b : Bool) : Deed := fun x => if b = true then some x else none
/-- What the constant A tells. -/
def findD (e : List Ent) (A : Int) (tag : Int) (f : Cst → Wst → Option Wst) : Deed := fun x => if (constP e A).2 = 0 ∧ (constP e A).1.tag = tag then f (constP e A).1 { x with ow := refT (constP e A).1.cls } else none
noncomputable def argsL (s : List UInt8) : List Ty := (ArgsOf.there s).choose
noncomputable def argsR (s : List UInt8) : List UInt8 := (ArgsOf.there s).choose_spec.choose
theorem args_of (s : List UInt8) : ArgsOf s (argsL s) (argsR s) := (ArgsOf.there s).choose_spec.choose_spec
noncomputable def metD (s : List UInt8) : List Ty × Ty × Int := metP (argsL s) (argsR s)
def findIntD (e : List Ent) (A : Int) : Deed := findD e A 3 fun _ x => some x
def findLongD (e : List Ent) (A : Int) : Deed := findD e A 5 fun _ x => some x
def findFieldD (e : List Ent) (A : Int) : Deed := findD e A 9 fun c x => if (parP c.type).2 = 0 then some { x with to_ := (parP c.type).1 } else none
noncomputable def findMethodD (e : List Ent) (A : Int) : Deed := findD e A 10 fun c x => if (metD c.type).2.2 = 0 then some { x with ar := (metD c.type).1, to_ := (metD c.type).2.1 } else none
def findClassD (e : List Ent) (A : Int) : Deed := findD e A 7 fun c x => if (prnP (refT c.cls)).2 = 0 then some { x with to_ := refT c.cls } else none
def isNoArrayD : Deed := fun x => if clsB x.to_.name = true then some x else none
def popOwnerD (cl : List Nc) : Deed := fun x => popD cl x.ow x
def popToldD (cl : List Nc) : Deed := fun x => popD cl x.to_ x
/-- What stands around: the classes, the pool, what is answered, the instruction. -/
structure Wpl where
  cl : List Nc
  en : List Ent
  bk : Ty
  op : Int
  A : Int
def doD : List Deed → Deed
  | [], x => some x
  | d :: ds, x => (d x).bind (doD ds)
end Go.Proofs.YthenefjoidckkaaGreatDoor
