/- Classes held against one another: SameClass. -/
import Derived.Test.YtdcoknnjgpdigaaGreatDoorJP11
import Derived.Deep.RegionHeld3

namespace Go.Proofs.YtdcoknnjgpdigaaGreatDoor
open Go.RowKit
set_option linter.unusedVariables false
set_option maxRecDepth 100000

/-- A call that answers true in every world behind w. -/
def TrueCall (w : World) (f : FuncId) (v1 v2 : Value) : Prop := ∀ W, Below w.heap.size w W → Calls Tryz.prog f #[v1, v2] W fun e w' => e = .returned (.bool true) ∧ Below w.heap.size w w'
theorem trueCall_mk {w : World} {f : FuncId} {v1 v2 : Value} (h : ∀ W, Below w.heap.size w W → Calls Tryz.prog f #[v1, v2] W fun e w' => e = .returned (.bool true) ∧ Below W.heap.size W w') : TrueCall w f v1 v2 := fun W f =>
  (h W f).mono (by
    rintro e w' ⟨rfl, f'⟩
    exact ⟨rfl, f.trans (f'.mono f.size)⟩)

/-- Two structs that stand in memory as locals. -/
theorem two_locals (w : World) (X Y : Array Value) (t : TypeId) : ∃ w0, (w.alloc (.cells X t)).alloc (.cells Y t) = w0 ∧ Below w.heap.size w w0 ∧ ∀ W, Below w0.heap.size w0 W → (∀ q v, X[q]? = some v → W.cell? ⟨w.heap.size, q, none⟩ = some v) ∧ (∀ q v, Y[q]? = some v → W.cell? ⟨w.heap.size + 1, q, none⟩ = some v) := by
  refine ⟨_, rfl, ((Below.refl _ _).alloc (Nat.le_refl _) _).alloc (by simp) _, fun W f => ?_⟩
  have s0 : (w.alloc (.cells X t)).heap.size = w.heap.size + 1 := by simp
  have s1 : ((w.alloc (.cells X t)).alloc (.cells Y t)).heap.size = w.heap.size + 2 := by simp
  have b0 : ((w.alloc (.cells X t)).alloc (.cells Y t)).heap[w.heap.size]? = some (.cells X t) := by
    rw [Below.heap_alloc _ _ _ (by omega)]
    exact heap_alloc_new w _
  have b1 : ((w.alloc (.cells X t)).alloc (.cells Y t)).heap[w.heap.size + 1]? = some (.cells Y t) := by
    have := heap_alloc_new (w.alloc (.cells X t)) (.cells Y t)
    rwa [s0] at this
  have c0 := (f.block w.heap.size (by omega)).trans b0
  have c1 := (f.block (w.heap.size + 1) (by omega)).trans b1
  exact ⟨fun q v h => by unfold World.cell?; simp [c0, h], fun q v h => by unfold World.cell?; simp [c1, h]⟩

/-- What of two methods that are the same is held against one another by calls. -/
theorem md_calls {w0 : World} {x y : MdR} (d1 : MdIn w0 x) (d2 : MdIn w0 y) (h : y.m = x.m) (w3 : World) (f3 : Below w0.heap.size w0 w3) : TrueCall w3 11 x.bs.v y.bs.v ∧ TrueCall w3 34 x.hs.v y.hs.v ∧ TrueCall w3 35 x.maps.v y.maps.v := by
  replace d1 := d1.below f3
  replace d2 := d2.below f3
  obtain ⟨xm, xB, xH, xM, xr⟩ := x
  obtain ⟨ym, yB, yH, yM, yr⟩ := y
  simp only at h
  subst h
  refine ⟨trueCall_mk fun W f => ?_, trueCall_mk fun W f => ?_, trueCall_mk fun W f => ?_⟩
  · obtain ⟨xBa, xBn, xBc⟩ := xB
    obtain ⟨yBa, yBn, yBc⟩ := yB
    have e1 := (d1.bs.below f).bs
    have e2 := (d2.bs.below f).bs
    have l1 := e1.1
    have l2 := e2.1
    simp only at l1 l2
    obtain rfl : xBn = yBn := by omega
    refine (SameBytes_same W xBa yBa _ xBn xBc yBc e1 e2).mono ?_
    rintro e w' ⟨rfl, rfl⟩
    exact ⟨rfl, Below.refl _ _⟩
  · exact SameHandlers_same W xH yH _ (d1.hs.mono f (fun _ h => h)) (d2.hs.mono f (fun _ h => h))
  · exact SameMaps_same W xM yM xr yr (d1.maps.mono f (fun _ h => h.below f)) (d2.maps.mono f (fun _ h => h.below f)) (by rw [← d1.same]; exact d2.same)
theorem two_locals_drew (w : World) (X Y : Array Value) (t : TypeId) : ∃ w0, ((w.alloc (.cells X t)).alloc (.cells Y t)).drew = w0 ∧ Below w.heap.size w w0 ∧ ∀ W, Below w0.heap.size w0 W → (∀ q v, X[q]? = some v → W.cell? ⟨w.heap.size, q, none⟩ = some v) ∧ (∀ q v, Y[q]? = some v → W.cell? ⟨w.heap.size + 1, q, none⟩ = some v) := by
  obtain ⟨w1, e1, f1, K1⟩ := two_locals w X Y t
  exact ⟨_, rfl, by rw [e1]; exact f1.drew, fun W f => K1 W (by rw [e1] at f; exact (Below.drew (Below.refl _ _)).trans f)⟩

set_option maxHeartbeats 6400000 in
theorem SameClass_same (w : World) (r q : ClR) (hA : CIn w r) (hB : CIn w q) (hc : r.c = q.c) :
    Calls Tryz.prog 13 #[r.v, q.v] w fun e w' => e = .returned (.bool true) ∧ Below w.heap.size w w' := by
  obtain ⟨cc, p1, f1, m1, mr⟩ := r
  obtain ⟨cd, p2, f2, m2, mq⟩ := q
  simp only at hc
  subst hc
  obtain ⟨pl, nm, sp, fl, ml⟩ := cc
  obtain ⟨p1a, p1n, p1c⟩ := p1
  obtain ⟨p2a, p2n, p2c⟩ := p2
  obtain ⟨m1a, m1n, m1c⟩ := m1
  obtain ⟨m2a, m2n, m2c⟩ := m2
  have hpn := hA.pool.arg.es.1
  have hpm := hB.pool.arg.es.1
  simp only at hpn hpm
  obtain rfl : p1n = p2n := by omega
  have hl1 := hA.methods.ls.1
  have hl2 := hB.methods.ls.1
  have hmm : mr.map MdR.m = mq.map MdR.m := by rw [← hA.same]; exact hB.same
  have hll : mr.length = mq.length := by have := congrArg List.length hmm; simpa using this
  have hsm := hA.methods.small
  simp only at hl1 hl2 hsm
  obtain rfl : m1n = m2n := by omega
  have hs1 : m1n ≤ 140737488351232 := by omega
  generalize hn1 : (⟨nm.toArray⟩ : ByteArray) = s1
  generalize hn2 : (⟨sp.toArray⟩ : ByteArray) = s2
  obtain ⟨f1a, f1n, f1c⟩ := f1
  obtain ⟨f2a, f2n, f2c⟩ := f2
  obtain ⟨w0, e0, f0, K0⟩ := two_locals w #[.slice p1a p1n p1c, .string s1, .string s2, .slice f1a f1n f1c, .slice m1a m1n m1c] #[.slice p2a p1n p2c, .string s1, .string s2, .slice f2a f2n f2c, .slice m2a m1n m2c] 26
  have KL : Hid (∀ W, Below w0.heap.size w0 W → W.cell? ⟨w.heap.size, 3, none⟩ = some (.slice f1a f1n f1c) ∧ W.cell? ⟨w.heap.size, 4, none⟩ = some (.slice m1a m1n m1c) ∧ W.cell? ⟨w.heap.size + 1, 3, none⟩ = some (.slice f2a f2n f2c) ∧ W.cell? ⟨w.heap.size + 1, 4, none⟩ = some (.slice m2a m1n m2c)) := fun W f => ⟨(K0 W f).1 3 _ rfl, (K0 W f).1 4 _ rfl, (K0 W f).2 3 _ rfl, (K0 W f).2 4 _ rfl⟩
  clear K0
  replace hA := hA.below f0
  replace hB := hB.below f0
  have F0 := hide f0
  have E0 := hide e0
  clear f0 e0
  have XE : Hid (TrueCall w0 32 (.slice p1a p1n p1c) (.slice p2a p1n p2c)) := trueCall_mk fun W f => SameEntries_same W p1a p2a p1n p1c p2c pl (hA.pool.arg.es.below f) (hB.pool.arg.es.below f) (by have := hA.pool.small; simp only at this; omega)
  have XF : Hid (TrueCall w0 33 (.slice f1a f1n f1c) (.slice f2a f2n f2c)) := trueCall_mk fun W f => SameFields_same W ⟨f1a, f1n, f1c⟩ ⟨f2a, f2n, f2c⟩ fl (hA.fields.mono f (fun _ h => h)) (hB.fields.mono f (fun _ h => h))
  have key : Hid (∀ k x, mr[k]? = some x → ∃ y, mq[k]? = some y ∧ y.m = x.m ∧ MdIn w0 x ∧ MdIn w0 y) := fun k x hr => by
    have hk := (List.getElem?_eq_some_iff.1 hr).1
    obtain ⟨y, hq⟩ : ∃ y, mq[k]? = some y := ⟨_, List.getElem?_eq_getElem (by omega)⟩
    refine ⟨y, hq, ?_, hA.methods.each x (List.mem_of_getElem? hr), hB.methods.each y (List.mem_of_getElem? hq)⟩
    have e := congrArg (·[k]?) hmm
    simp only [List.getElem?_map, hr, hq, Option.map_some] at e
    injection e with e
    exact e.symm
  have HA := hide hA.methods.ls
  have HB := hide hB.methods.ls
  simp only at HA HB
  clear hA hB hmm hsm
  unfold ClR.v Sl.v
  simp only [hn1, hn2]
  clear hn1 hn2
  go_enter Tryz.func13, Tryz.ntmps13
  go_wp2_with fail
  rw [unhide E0]
  refine (unhide XE w0 (Below.refl _ _)).mono ?_
  rintro e w1 ⟨rfl, g1⟩
  obtain ⟨k1, k2, k3, k4⟩ := unhide KL _ g1
  go_wp2_with fail
  refine (unhide XF _ g1).mono ?_
  rintro e w2 ⟨rfl, g2⟩
  clear k1 k2 k3 k4 g1 XE XF
  obtain ⟨k1, k2, k3, k4⟩ := unhide KL _ g2
  have G2 := hide g2
  clear g2 k1 k3
  go_wp2
  clear k2 k4
  go_loopw [5] (fun i wr => ∃ k : Nat, k ≤ m1n ∧ i = .int .i64 k ∧ Below w0.heap.size w0 wr) (fun i _ => m1n - (intOf i).toNat)
  case atStart => exact ⟨0, by omega, rfl, unhide G2⟩
  case round =>
    obtain ⟨k, hk, rfl, hR⟩ := hrel
    obtain ⟨_, k2, _, k4⟩ := unhide KL _ hR
    by_cases hlt : k < m1n
    · have hlt1 : (k : Int) < (m1n : Int) := by omega
      obtain ⟨b1, o1, h1a, h1⟩ := Ls.row (unhide HA) (w' := w) (by omega)
      obtain ⟨b2, o2, h2a, h2⟩ := Ls.row (unhide HB) (w' := w) (by omega)
      subst h1a h2a
      obtain ⟨x, hx⟩ : ∃ x, mr[k]? = some x := ⟨_, List.getElem?_eq_getElem (by omega)⟩
      obtain ⟨y, hy, hyx, d1, d2⟩ := unhide key k x hx
      have q1 := h1 hR k x hx
      have q2 := h2 hR k y hy
      obtain ⟨⟨xa, xn, xt, ⟨xs, xl, xb, xh, xm⟩⟩, xB, xH, xM, xr⟩ := x
      obtain ⟨ym, yB, yH, yM, yr⟩ := y
      simp only at hyx
      subst hyx
      obtain ⟨xBa, xBn, xBc⟩ := xB
      obtain ⟨xHa, xHn, xHc⟩ := xH
      obtain ⟨xMa, xMn, xMc⟩ := xM
      obtain ⟨yBa, yBn, yBc⟩ := yB
      obtain ⟨yHa, yHn, yHc⟩ := yH
      obtain ⟨yMa, yMn, yMc⟩ := yM
      have XALL : Hid _ := md_calls d1 d2 rfl
      simp only [Sl.v] at XALL
      generalize hs3 : (⟨xn.toArray⟩ : ByteArray) = s3 at *
      generalize hs4 : (⟨xt.toArray⟩ : ByteArray) = s4 at *
      have c0 := q1.zero
      have c1 := q1 1 _ rfl
      have c2 := q1 2 _ rfl
      have c3 := q1 3 _ rfl
      have c4 := q1 4 _ rfl
      have c5 := q1 5 _ rfl
      have c6 := q1 6 _ rfl
      have c7 := q1 7 _ rfl
      have e0 := q2.zero
      have e1 := q2 1 _ rfl
      have e2 := q2 2 _ rfl
      have e3 := q2 3 _ rfl
      have e4 := q2 4 _ rfl
      have e5 := q2 5 _ rfl
      have e6 := q2 6 _ rfl
      have e7 := q2 7 _ rfl
      simp only [hs3, hs4, Sl.v] at c0 c1 c2 c3 c4 c5 c6 c7 e0 e1 e2 e3 e4 e5 e6 e7
      have HR := hide hR
      have KC : Hid (∀ W, Below wr.heap.size wr W → W.cell? ⟨w.heap.size, 4, none⟩ = some (.slice (some ⟨b1, o1, none⟩) m1n m1c) ∧ W.cell? ⟨w.heap.size + 1, 4, none⟩ = some (.slice (some ⟨b2, o2, none⟩) m1n m2c) ∧ W.cell? ⟨b1, o1 + k * 8, none⟩ = some (.int .i64 xa) ∧ W.cell? ⟨b1, o1 + k * 8 + 1, none⟩ = some (.string s3) ∧ W.cell? ⟨b1, o1 + k * 8 + 2, none⟩ = some (.string s4) ∧ W.cell? ⟨b1, o1 + k * 8 + 3, none⟩ = some (.int .i64 xs) ∧ W.cell? ⟨b1, o1 + k * 8 + 4, none⟩ = some (.int .i64 xl) ∧ W.cell? ⟨b1, o1 + k * 8 + 5, none⟩ = some (.slice xBa xBn xBc) ∧ W.cell? ⟨b1, o1 + k * 8 + 6, none⟩ = some (.slice xHa xHn xHc) ∧ W.cell? ⟨b1, o1 + k * 8 + 7, none⟩ = some (.slice xMa xMn xMc) ∧ W.cell? ⟨b2, o2 + k * 8, none⟩ = some (.int .i64 xa) ∧ W.cell? ⟨b2, o2 + k * 8 + 1, none⟩ = some (.string s3) ∧ W.cell? ⟨b2, o2 + k * 8 + 2, none⟩ = some (.string s4) ∧ W.cell? ⟨b2, o2 + k * 8 + 3, none⟩ = some (.int .i64 xs) ∧ W.cell? ⟨b2, o2 + k * 8 + 4, none⟩ = some (.int .i64 xl) ∧ W.cell? ⟨b2, o2 + k * 8 + 5, none⟩ = some (.slice yBa yBn yBc) ∧ W.cell? ⟨b2, o2 + k * 8 + 6, none⟩ = some (.slice yHa yHn yHc) ∧ W.cell? ⟨b2, o2 + k * 8 + 7, none⟩ = some (.slice yMa yMn yMc)) := fun W f => by
        have up : ∀ {p : Addr} {v : Value}, wr.cell? p = some v → W.cell? p = some v := fun h => (f.cell (World.block_lt_of_cell? wr _ h)).trans h
        exact ⟨up k2, up k4, up c0, up c1, up c2, up c3, up c4, up c5, up c6, up c7, up e0, up e1, up e2, up e3, up e4, up e5, up e6, up e7⟩
      clear q1 q2 h1 h2 hx hy d1 d2 hR hs3 hs4
      go_wp2_with fail
      clear k2 k4 c0 c1 c2 c3 c4 c5 c6 c7 e0 e1 e2 e3 e4 e5 e6 e7
      go_region_held3 (fun W => W.cell? ⟨w.heap.size, 4, none⟩ = some (.slice (some ⟨b1, o1, none⟩) m1n m1c) ∧ W.cell? ⟨w.heap.size + 1, 4, none⟩ = some (.slice (some ⟨b2, o2, none⟩) m1n m2c) ∧ W.cell? ⟨b1, o1 + k * 8, none⟩ = some (.int .i64 xa) ∧ W.cell? ⟨b1, o1 + k * 8 + 1, none⟩ = some (.string s3) ∧ W.cell? ⟨b1, o1 + k * 8 + 2, none⟩ = some (.string s4) ∧ W.cell? ⟨b1, o1 + k * 8 + 3, none⟩ = some (.int .i64 xs) ∧ W.cell? ⟨b1, o1 + k * 8 + 4, none⟩ = some (.int .i64 xl) ∧ W.cell? ⟨b1, o1 + k * 8 + 5, none⟩ = some (.slice xBa xBn xBc) ∧ W.cell? ⟨b1, o1 + k * 8 + 6, none⟩ = some (.slice xHa xHn xHc) ∧ W.cell? ⟨b1, o1 + k * 8 + 7, none⟩ = some (.slice xMa xMn xMc) ∧ W.cell? ⟨b2, o2 + k * 8, none⟩ = some (.int .i64 xa) ∧ W.cell? ⟨b2, o2 + k * 8 + 1, none⟩ = some (.string s3) ∧ W.cell? ⟨b2, o2 + k * 8 + 2, none⟩ = some (.string s4) ∧ W.cell? ⟨b2, o2 + k * 8 + 3, none⟩ = some (.int .i64 xs) ∧ W.cell? ⟨b2, o2 + k * 8 + 4, none⟩ = some (.int .i64 xl) ∧ W.cell? ⟨b2, o2 + k * 8 + 5, none⟩ = some (.slice yBa yBn yBc) ∧ W.cell? ⟨b2, o2 + k * 8 + 6, none⟩ = some (.slice yHa yHn yHc) ∧ W.cell? ⟨b2, o2 + k * 8 + 7, none⟩ = some (.slice yMa yMn yMc))
        (exact unhide KC _ (by repeat (first | exact Below.refl _ _ | refine Below.drew ?_ | refine Below.alloc ?_ (by simp) _)))
        (fail)
      · obtain ⟨w3, e3, f3, K3⟩ := two_locals_drew wr #[.int .i64 xa, .string s3, .string s4, .int .i64 xs, .int .i64 xl, .slice xBa xBn xBc, .slice xHa xHn xHc, .slice xMa xMn xMc] #[.int .i64 xa, .string s3, .string s4, .int .i64 xs, .int .i64 xl, .slice yBa yBn yBc, .slice yHa yHn yHc, .slice yMa yMn yMc] 49
        have KM : Hid (∀ W, Below w3.heap.size w3 W → W.cell? ⟨wr.heap.size, 0, none⟩ = some (.int .i64 xa) ∧ W.cell? ⟨wr.heap.size, 1, none⟩ = some (.string s3) ∧ W.cell? ⟨wr.heap.size, 2, none⟩ = some (.string s4) ∧ W.cell? ⟨wr.heap.size, 3, none⟩ = some (.int .i64 xs) ∧ W.cell? ⟨wr.heap.size, 4, none⟩ = some (.int .i64 xl) ∧ W.cell? ⟨wr.heap.size, 5, none⟩ = some (.slice xBa xBn xBc) ∧ W.cell? ⟨wr.heap.size, 6, none⟩ = some (.slice xHa xHn xHc) ∧ W.cell? ⟨wr.heap.size, 7, none⟩ = some (.slice xMa xMn xMc) ∧ W.cell? ⟨wr.heap.size + 1, 0, none⟩ = some (.int .i64 xa) ∧ W.cell? ⟨wr.heap.size + 1, 1, none⟩ = some (.string s3) ∧ W.cell? ⟨wr.heap.size + 1, 2, none⟩ = some (.string s4) ∧ W.cell? ⟨wr.heap.size + 1, 3, none⟩ = some (.int .i64 xs) ∧ W.cell? ⟨wr.heap.size + 1, 4, none⟩ = some (.int .i64 xl) ∧ W.cell? ⟨wr.heap.size + 1, 5, none⟩ = some (.slice yBa yBn yBc) ∧ W.cell? ⟨wr.heap.size + 1, 6, none⟩ = some (.slice yHa yHn yHc) ∧ W.cell? ⟨wr.heap.size + 1, 7, none⟩ = some (.slice yMa yMn yMc)) := fun W f => ⟨(K3 W f).1 0 _ rfl, (K3 W f).1 1 _ rfl, (K3 W f).1 2 _ rfl, (K3 W f).1 3 _ rfl, (K3 W f).1 4 _ rfl, (K3 W f).1 5 _ rfl, (K3 W f).1 6 _ rfl, (K3 W f).1 7 _ rfl, (K3 W f).2 0 _ rfl, (K3 W f).2 1 _ rfl, (K3 W f).2 2 _ rfl, (K3 W f).2 3 _ rfl, (K3 W f).2 4 _ rfl, (K3 W f).2 5 _ rfl, (K3 W f).2 6 _ rfl, (K3 W f).2 7 _ rfl⟩
        have E3 := hide e3
        have F3 := hide ((unhide HR).trans (f3.mono (unhide HR).size))
        obtain ⟨XB, XH, XM⟩ := unhide XALL w3 (unhide F3)
        have XB' := hide XB
        have XH' := hide XH
        have XM' := hide XM
        clear XALL XB XH XM e3 f3 K3 KC
        go_wp2_with fail
        rw [unhide E3]
        refine (unhide XB' w3 (Below.refl _ _)).mono ?_
        rintro e w4 ⟨rfl, B4⟩
        obtain ⟨g0 , g1 , g2 , g3 , g4 , g5 , g6 , g7 , l0 , l1 , l2 , l3 , l4 , l5 , l6 , l7⟩ := unhide KM _ B4
        go_wp2_with fail
        refine (unhide XH' _ B4).mono ?_
        rintro e w5 ⟨rfl, B5⟩
        clear g0 g1 g2 g3 g4 g5 g6 g7 l0 l1 l2 l3 l4 l5 l6 l7 B4 XB' XH'
        obtain ⟨g0 , g1 , g2 , g3 , g4 , g5 , g6 , g7 , l0 , l1 , l2 , l3 , l4 , l5 , l6 , l7⟩ := unhide KM _ B5
        go_wp2_with fail
        refine (unhide XM' _ B5).mono ?_
        rintro e w6 ⟨rfl, B6⟩
        clear g0 g1 g2 g3 g4 g5 g6 g7 l0 l1 l2 l3 l4 l5 l6 l7 B5 XM' KM
        have G6 := hide ((unhide F3).trans (B6.mono (unhide F3).size))
        clear B6
        go_wp2
        go_roundw
        case rel => exact ⟨k + 1, by omega, by go_num, unhide G6⟩
        case measure => simp [intOf]; omega
      · obtain ⟨w3, e3, f3, K3⟩ := two_locals_drew wr #[.int .i64 xa, .string s3, .string s4, .int .i64 xs, .int .i64 xl, .slice yBa yBn yBc, .slice yHa yHn yHc, .slice yMa yMn yMc] #[.int .i64 xa, .string s3, .string s4, .int .i64 xs, .int .i64 xl, .slice xBa xBn xBc, .slice xHa xHn xHc, .slice xMa xMn xMc] 49
        have KM : Hid (∀ W, Below w3.heap.size w3 W → W.cell? ⟨wr.heap.size + 1, 0, none⟩ = some (.int .i64 xa) ∧ W.cell? ⟨wr.heap.size + 1, 1, none⟩ = some (.string s3) ∧ W.cell? ⟨wr.heap.size + 1, 2, none⟩ = some (.string s4) ∧ W.cell? ⟨wr.heap.size + 1, 3, none⟩ = some (.int .i64 xs) ∧ W.cell? ⟨wr.heap.size + 1, 4, none⟩ = some (.int .i64 xl) ∧ W.cell? ⟨wr.heap.size + 1, 5, none⟩ = some (.slice xBa xBn xBc) ∧ W.cell? ⟨wr.heap.size + 1, 6, none⟩ = some (.slice xHa xHn xHc) ∧ W.cell? ⟨wr.heap.size + 1, 7, none⟩ = some (.slice xMa xMn xMc) ∧ W.cell? ⟨wr.heap.size, 0, none⟩ = some (.int .i64 xa) ∧ W.cell? ⟨wr.heap.size, 1, none⟩ = some (.string s3) ∧ W.cell? ⟨wr.heap.size, 2, none⟩ = some (.string s4) ∧ W.cell? ⟨wr.heap.size, 3, none⟩ = some (.int .i64 xs) ∧ W.cell? ⟨wr.heap.size, 4, none⟩ = some (.int .i64 xl) ∧ W.cell? ⟨wr.heap.size, 5, none⟩ = some (.slice yBa yBn yBc) ∧ W.cell? ⟨wr.heap.size, 6, none⟩ = some (.slice yHa yHn yHc) ∧ W.cell? ⟨wr.heap.size, 7, none⟩ = some (.slice yMa yMn yMc)) := fun W f => ⟨(K3 W f).2 0 _ rfl, (K3 W f).2 1 _ rfl, (K3 W f).2 2 _ rfl, (K3 W f).2 3 _ rfl, (K3 W f).2 4 _ rfl, (K3 W f).2 5 _ rfl, (K3 W f).2 6 _ rfl, (K3 W f).2 7 _ rfl, (K3 W f).1 0 _ rfl, (K3 W f).1 1 _ rfl, (K3 W f).1 2 _ rfl, (K3 W f).1 3 _ rfl, (K3 W f).1 4 _ rfl, (K3 W f).1 5 _ rfl, (K3 W f).1 6 _ rfl, (K3 W f).1 7 _ rfl⟩
        have E3 := hide e3
        have F3 := hide ((unhide HR).trans (f3.mono (unhide HR).size))
        obtain ⟨XB, XH, XM⟩ := unhide XALL w3 (unhide F3)
        have XB' := hide XB
        have XH' := hide XH
        have XM' := hide XM
        clear XALL XB XH XM e3 f3 K3 KC
        go_wp2_with fail
        rw [unhide E3]
        refine (unhide XB' w3 (Below.refl _ _)).mono ?_
        rintro e w4 ⟨rfl, B4⟩
        obtain ⟨g0 , g1 , g2 , g3 , g4 , g5 , g6 , g7 , l0 , l1 , l2 , l3 , l4 , l5 , l6 , l7⟩ := unhide KM _ B4
        go_wp2_with fail
        refine (unhide XH' _ B4).mono ?_
        rintro e w5 ⟨rfl, B5⟩
        clear g0 g1 g2 g3 g4 g5 g6 g7 l0 l1 l2 l3 l4 l5 l6 l7 B4 XB' XH'
        obtain ⟨g0 , g1 , g2 , g3 , g4 , g5 , g6 , g7 , l0 , l1 , l2 , l3 , l4 , l5 , l6 , l7⟩ := unhide KM _ B5
        go_wp2_with fail
        refine (unhide XM' _ B5).mono ?_
        rintro e w6 ⟨rfl, B6⟩
        clear g0 g1 g2 g3 g4 g5 g6 g7 l0 l1 l2 l3 l4 l5 l6 l7 B5 XM' KM
        have G6 := hide ((unhide F3).trans (B6.mono (unhide F3).size))
        clear B6
        go_wp2
        go_roundw
        case rel => exact ⟨k + 1, by omega, by go_num, unhide G6⟩
        case measure => simp [intOf]; omega
    · obtain rfl : k = m1n := by omega
      have HR := hide hR
      clear hR
      go_wp2
      go_ret
      exact ⟨rfl, (unhide F0).trans ((unhide HR).mono (unhide F0).size)⟩
end Go.Proofs.YtdcoknnjgpdigaaGreatDoor
