/- The walk of PoolKeeps. -/
import Derived.Test.YtjpimcglojneaaaJPlKeeps
import Derived.Test.YtjpimcglojneaaaJPlT
import Derived.Test.YtjpimcglojneaaaJB

namespace Go.Proofs.Ytjpimcglojneaaa
open Go.RowKit
set_option linter.unusedVariables false

/-- What a constant's five cells are. -/
def KCells (w : World) (q : Nat) (t n : Int) (s1 s2 s3 : ByteArray) : Prop := w.cell? ⟨q, 0, none⟩ = some (.int .i64 t) ∧ w.cell? ⟨q, 1, none⟩ = some (.int .i64 n) ∧ w.cell? ⟨q, 2, none⟩ = some (.string s1) ∧ w.cell? ⟨q, 3, none⟩ = some (.string s2) ∧ w.cell? ⟨q, 4, none⟩ = some (.string s3)
theorem kcells {w : World} {q : Nat} {t n : Int} {s1 s2 s3 : ByteArray} {T : TypeId} {f : Nat × Nat} (h : w.heap[q]? = some (.cells #[.int .i64 t, .int .i64 n, .string s1, .string s2, .string s3] T f)) : KCells w q t n s1 s2 s3 :=
  ⟨by rw [cell_of_row _ _ _ _ _ _ h]; rfl, by rw [cell_of_row _ _ _ _ _ _ h]; rfl, by rw [cell_of_row _ _ _ _ _ _ h]; rfl, by rw [cell_of_row _ _ _ _ _ _ h]; rfl, by rw [cell_of_row _ _ _ _ _ _ h]; rfl⟩
theorem KCells.below {w w' : World} {q : Nat} {t n : Int} {s1 s2 s3 : ByteArray} (h : KCells w q t n s1 s2 s3) (f : Below w.heap.size w w') : KCells w' q t n s1 s2 s3 := by
  obtain ⟨h0, h1, h2, h3, h4⟩ := h
  exact ⟨(f.cell (World.block_lt_of_cell? w _ h0)).trans h0, (f.cell (World.block_lt_of_cell? w _ h1)).trans h1, (f.cell (World.block_lt_of_cell? w _ h2)).trans h2, (f.cell (World.block_lt_of_cell? w _ h3)).trans h3, (f.cell (World.block_lt_of_cell? w _ h4)).trans h4⟩
theorem earg_head {W : World} {a : Option Addr} {m c : Nat} {l e : List Ent} (h : EArg W a m c (l ++ e)) : Es W a l.length l := by
  refine ⟨rfl, ?_⟩
  by_cases h0 : l.length = 0
  · exact .inl h0
  · rcases h.es.2 with hm | ⟨b, o, e1, hE⟩
    · have := h.es.1
      simp at this
      omega
    · refine .inr ⟨b, o, e1, fun ad ead j u hu => hE ad ead j u ?_⟩
      rw [ev_append, List.getElem?_append_left ((List.getElem?_eq_some_iff.1 hu).1)]
      exact hu

set_option maxHeartbeats 12800000 in
set_option maxRecDepth 100000 in
theorem keeps_walk (P : Pools) (w : World) (a : Option Addr) (n c : Nat) (l : List Ent) (h : EIn w a n c l) (k d : Cst) (hk : CstFit k) (hd : CstFit d) :
    Calls Try.prog 8 #[.slice a n c, cstV k, cstV d] w fun e w' => e = .returned (.bool true) ∧ Below w.heap.size w w' := by
  have HKV : ∃ t1 n1 s1 s2 s3, cstV k = .agg #[.int .i64 t1, .int .i64 n1, .string s1, .string s2, .string s3] := ⟨_, _, _, _, _, rfl⟩
  have HDV : ∃ t1 n1 s1 s2 s3, cstV d = .agg #[.int .i64 t1, .int .i64 n1, .string s1, .string s2, .string s3] := ⟨_, _, _, _, _, rfl⟩
  obtain ⟨kt, kn, k1, k2, k3, hkv⟩ := HKV
  obtain ⟨dt, dn, d1, d2, d3, hdv⟩ := HDV
  have X1 : Hid (∀ W a n c l, EIn W a n c l → Calls Try.prog 29 #[.slice a n c, .agg #[.int .i64 kt, .int .i64 kn, .string k1, .string k2, .string k3]] W (PutE W (putK l k))) := fun W a n c l h => by
    have := P.put W a n c l k h hk
    rw [hkv] at this
    exact this
  have X2 : Hid (∀ W a n c l, EIn W a n c l → Calls Try.prog 29 #[.slice a n c, .agg #[.int .i64 dt, .int .i64 dn, .string d1, .string d2, .string d3]] W (PutE W (putK l d))) := fun W a n c l h => by
    have := P.put W a n c l d h hd
    rw [hdv] at this
    exact this
  have X3 : Hid (∀ W a n c l (i : Int), EIn W a n c l → (-9223372036854775808 ≤ i ∧ i ≤ 9223372036854775807) → constP l i = (k, 0) → Calls Try.prog 27 #[.slice a n c, .int .i64 i] W fun e w' => e = .returned (.tuple #[.agg #[.int .i64 kt, .int .i64 kn, .string k1, .string k2, .string k3], .int .i64 0]) ∧ Below W.heap.size W w') := fun W a n c l i h hi e => by
    have := P.const W a n c l i h hi
    rw [e, hkv] at this
    exact this
  have X4 : Hid (∀ W a n c l (i : Int), EIn W a n c l → (-9223372036854775808 ≤ i ∧ i ≤ 9223372036854775807) → constP l i = (d, 0) → Calls Try.prog 27 #[.slice a n c, .int .i64 i] W fun e w' => e = .returned (.tuple #[.agg #[.int .i64 dt, .int .i64 dn, .string d1, .string d2, .string d3], .int .i64 0]) ∧ Below W.heap.size W w') := fun W a n c l i h hi e => by
    have := P.const W a n c l i h hi
    rw [e, hdv] at this
    exact this
  rw [hkv, hdv]
  clear hkv hdv
  have hsm : n ≤ 140737488351232 := by have := h.small; omega
  have hln := h.arg.es.1
  have hin0 := h.below (two_bel w (.cells #[.int .i64 kt, .int .i64 kn, .string k1, .string k2, .string k3] 50) (.cells #[.int .i64 dt, .int .i64 dn, .string d1, .string d2, .string d3] 50))
  have hB0 := two_bel w (.cells #[.int .i64 kt, .int .i64 kn, .string k1, .string k2, .string k3] 50) (.cells #[.int .i64 dt, .int .i64 dn, .string d1, .string d2, .string d3] 50)
  have hK0 := kcells (two_heap w (.cells #[.int .i64 kt, .int .i64 kn, .string k1, .string k2, .string k3] 50) (.cells #[.int .i64 dt, .int .i64 dn, .string d1, .string d2, .string d3] 50))
  have hD0 := kcells (heap_alloc2_new w (.cells #[.int .i64 kt, .int .i64 kn, .string k1, .string k2, .string k3] 50) (.cells #[.int .i64 dt, .int .i64 dn, .string d1, .string d2, .string d3] 50))
  have HIN := hide hin0
  have B0 := hide hB0
  have K0 := hide hK0
  have D0 := hide hD0
  have HFT := hide h.fit
  have HSM := hide h.small
  clear h hin0 hB0 hK0 hD0
  go_enter Try.func8, Try.ntmps8
  go_wp2_with fail
  generalize (w.alloc (.cells #[.int .i64 kt, .int .i64 kn, .string k1, .string k2, .string k3] 50)).alloc (.cells #[.int .i64 dt, .int .i64 dn, .string d1, .string d2, .string d3] 50) = w0 at *
  refine (works7_any P w0).mono ?_
  rintro e w1 ⟨rfl, f1⟩
  have F1 := hide f1
  obtain ⟨x0, x1, x2, x3, x4⟩ := (unhide K0).below f1
  clear f1
  go_wp2_with fail
  refine (unhide X1 _ _ _ _ _ ((unhide HIN).below (unhide F1))).mono ?_
  rintro e w2 ⟨⟨a2, c2, rfl, e2⟩, f2⟩
  have herr := putK_err (l := l) (k := k)
  have hfine := putK_fine (l := l) (c := k)
  have hfit2 := putK_fit (unhide HFT) hk
  generalize putK l k = R at *
  obtain ⟨A, N, E⟩ := R
  simp only at herr hfine hfit2 e2 ⊢
  have F2 := hide ((unhide F1).trans (f2.mono (unhide F1).size))
  clear f2 F1 x0 x1 x2 x3 x4
  by_cases hE : E = 0
  case neg =>
    obtain ⟨rfl, rfl⟩ := herr hE
    have hE' : (E != 0) = true := by simpa using hE
    have FW := hide ((unhide B0).trans ((unhide F2).mono (unhide B0).size))
    clear hfine hfit2 e2 B0 F2 K0 D0 HIN HFT HSM X1
    go_wp2
    go_ret
    exact ⟨rfl, unhide FW⟩
  subst hE
  obtain ⟨kk, rfl, hfn, hcl, hrc⟩ := hfine rfl
  have hAl := (checkP_right.1 hfn.right).1.2
  have hst := putK_stays hfn.pos hfn.lt hfn.mean hfn.first hfn.right ⟨[], by simp⟩ hfn.right hrc
  have hkr : -9223372036854775808 ≤ (kk : Int) ∧ (kk : Int) ≤ 9223372036854775807 := by have := hfn.lt; omega
  have IA := hide (show EIn w2 a2 A.length c2 A from ⟨e2, by omega, hfit2⟩)
  obtain ⟨ext, hext⟩ := hfn.ext
  have hnA : n ≤ A.length := by rw [hext, List.length_append]; omega
  have X3a := hide (unhide X3 w2 a2 A.length c2 A kk (unhide IA) hkr hst.1)
  have HFN := hide hfn
  have HEXT := hide hext
  have HRC := hide hrc
  have HST := hide hst
  clear herr hfine hfit2 e2 hst hfn hext hrc hcl
  obtain ⟨LA, hLA⟩ : ∃ LA, A.length = LA := ⟨_, rfl⟩
  rw [hLA] at X3a IA hnA hAl ⊢
  have HLA := hide hLA
  clear hLA
  go_wp2_with fail
  refine (unhide X3a).mono ?_
  rintro e w3 ⟨rfl, f3⟩
  have b3 := (Below.refl w3.heap.size w3).alloc (Nat.le_refl _) (.cells #[.int .i64 kt, .int .i64 kn, .string k1, .string k2, .string k3] 50)
  have f3' := f3.trans (b3.mono f3.size)
  have F3 := hide ((unhide F2).trans (f3'.mono (unhide F2).size))
  have QX := hide (kcells (heap_alloc_last w3 (.cells #[.int .i64 kt, .int .i64 kn, .string k1, .string k2, .string k3] 50)))
  have IA3 := hide ((unhide IA).below f3')
  obtain ⟨y0, y1, y2, y3, y4⟩ := (unhide D0).below (unhide F3)
  clear X3a f3 f3' b3 F2 IA
  go_wp2_with fail
  generalize w3.heap.size = qx at *
  generalize w3.alloc (.cells #[.int .i64 kt, .int .i64 kn, .string k1, .string k2, .string k3] 50) = W3 at *
  refine (unhide X2 _ _ _ _ _ (unhide IA3)).mono ?_
  rintro e w4 ⟨⟨a4, c4, rfl, e4⟩, f4⟩
  have herr := putK_err (l := A) (k := d)
  have hfine := putK_fine (l := A) (c := d)
  have hfit4 := putK_fit (unhide IA3).fit hd
  generalize putK A d = R2 at *
  obtain ⟨Bl, M, G⟩ := R2
  simp only at herr hfine hfit4 e4 ⊢
  have F4 := hide ((unhide F3).trans (f4.mono (unhide F3).size))
  have IA4 := hide ((unhide IA3).below f4)
  obtain ⟨z0, z1, z2, z3, z4⟩ := (unhide QX).below f4
  obtain ⟨u0, u1, u2, u3, u4⟩ := (unhide K0).below (unhide F4)
  have FW4 := hide ((unhide B0).trans ((unhide F4).mono (unhide B0).size))
  have XS := hide (SameEntries_same w4 a2 a n c2 c l (by
    have hh := (unhide IA4).arg
    rw [unhide HEXT] at hh
    have := earg_head hh
    rw [hln] at this
    exact this) ((unhide HIN).below (unhide F4)).arg.es hsm)
  have hnA' : ¬ (LA : Int) < (n : Int) := by omega
  have hnA2 : (n : Int) ≤ (LA : Int) := by omega
  have hcap := (unhide IA4).arg.room
  have hcap2 := (unhide IA4).arg.most
  have hcap3 : (n : Int) ≤ (c2 : Int) := by omega
  have hcap4 : (c2 : Int) ≤ 9223372036854775807 := by omega
  clear f4 F3 IA3 QX y0 y1 y2 y3 y4 X2
  go_wp2_with fail
  refine (unhide XS).mono ?_
  rintro e w5 ⟨rfl, f5⟩
  have F5 := hide ((unhide F4).trans (f5.mono (unhide F4).size))
  have e5 := e4.below f5
  clear f5 XS z0 z1 z2 z3 z4 u0 u1 u2 u3 u4 F4 FW4 e4 IA4
  by_cases hG : G = 0
  case neg =>
    obtain ⟨rfl, rfl⟩ := herr hG
    have hG' : (G != 0) = true := by simpa using hG
    have FW := hide ((unhide B0).trans ((unhide F5).mono (unhide B0).size))
    clear hfine hfit4 e5 B0 F5 K0 D0 HIN HFT HSM X1 X3 X4
    go_wp2
    go_ret
    exact ⟨rfl, unhide FW⟩
  subst hG
  obtain ⟨mm, rfl, hfb, _, hrd⟩ := hfine rfl
  have hBl := (checkP_right.1 hfb.right).1.2
  have hsd := putK_stays hfb.pos hfb.lt hfb.mean hfb.first hfb.right ⟨[], by simp⟩ hfb.right hrd
  have hsc := putK_stays (unhide HFN).pos (unhide HFN).lt (unhide HFN).mean (unhide HFN).first (unhide HFN).right hfb.ext hfb.right (unhide HRC)
  have hmr : -9223372036854775808 ≤ (mm : Int) ∧ (mm : Int) ≤ 9223372036854775807 := by have := hfb.lt; omega
  have IB := hide (show EIn w5 a4 Bl.length c4 Bl from ⟨e5, by omega, hfit4⟩)
  have X3b := hide (unhide X3 w5 a4 Bl.length c4 Bl kk (unhide IB) hkr hsc.1)
  have X4b : Hid (∀ W, Below w5.heap.size w5 W → Calls Try.prog 27 #[.slice a4 Bl.length c4, .int .i64 (mm : Int)] W fun e w' => e = .returned (.tuple #[.agg #[.int .i64 dt, .int .i64 dn, .string d1, .string d2, .string d3], .int .i64 0]) ∧ Below W.heap.size W w') := fun W f => unhide X4 W a4 Bl.length c4 Bl mm ((unhide IB).below f) hmr hsd.1
  have X1b : Hid (∀ W, Below w5.heap.size w5 W → Calls Try.prog 29 #[.slice a4 Bl.length c4, .agg #[.int .i64 kt, .int .i64 kn, .string k1, .string k2, .string k3]] W (PutE W (Bl, (kk : Int), 0))) := fun W f => by
    have := unhide X1 W a4 Bl.length c4 Bl ((unhide IB).below f)
    rw [hsc.2] at this
    exact this
  clear herr hfine hfit4 e5 hfb hsd hsc X1 X3 X4 HFN HRC HEXT HST
  obtain ⟨LB, hLB⟩ : ∃ LB, Bl.length = LB := ⟨_, rfl⟩
  rw [hLB] at X3b X4b IB hBl ⊢
  have HLB := hide hLB
  have X1c : Hid (∀ W, Below w5.heap.size w5 W → Calls Try.prog 29 #[.slice a4 LB c4, .agg #[.int .i64 kt, .int .i64 kn, .string k1, .string k2, .string k3]] W (PutE W (Bl, (kk : Int), 0))) := fun W f => by
    have := unhide X1b W f
    rw [unhide HLB] at this
    exact this
  clear hLB X1b
  go_wp2_with fail
  refine (unhide X3b).mono ?_
  rintro e w6 ⟨rfl, f6⟩
  have b6 := (Below.refl w6.heap.size w6).alloc (Nat.le_refl _) (.cells #[.int .i64 kt, .int .i64 kn, .string k1, .string k2, .string k3] 50)
  have G6 := hide (f6.trans (b6.mono f6.size))
  have QY := hide (kcells (heap_alloc_last w6 (.cells #[.int .i64 kt, .int .i64 kn, .string k1, .string k2, .string k3] 50)))
  clear f6 b6 X3b
  go_wp2_with fail
  generalize w6.heap.size = qy at *
  generalize w6.alloc (.cells #[.int .i64 kt, .int .i64 kn, .string k1, .string k2, .string k3] 50) = W6 at *
  refine (unhide X4b W6 (unhide G6)).mono ?_
  rintro e w7 ⟨rfl, f7⟩
  have b7 := (Below.refl w7.heap.size w7).alloc (Nat.le_refl _) (.cells #[.int .i64 dt, .int .i64 dn, .string d1, .string d2, .string d3] 50)
  have f7' := f7.trans (b7.mono f7.size)
  have G7 := hide ((unhide G6).trans (f7'.mono (unhide G6).size))
  have QY7 := hide ((unhide QY).below f7')
  have QZ := hide (kcells (heap_alloc_last w7 (.cells #[.int .i64 dt, .int .i64 dn, .string d1, .string d2, .string d3] 50)))
  have F7 := hide ((unhide F5).trans ((unhide G7).mono (unhide F5).size))
  obtain ⟨u0, u1, u2, u3, u4⟩ := (unhide K0).below (unhide F7)
  clear f7 f7' b7 X4b G6 QY
  go_wp2_with fail
  generalize w7.heap.size = qz at *
  generalize w7.alloc (.cells #[.int .i64 dt, .int .i64 dn, .string d1, .string d2, .string d3] 50) = W7 at *
  refine (unhide X1c W7 (unhide G7)).mono ?_
  rintro e w8 ⟨⟨a8, c8, rfl, e8⟩, f8⟩
  have G8 := hide ((unhide G7).trans (f8.mono (unhide G7).size))
  have F8 := hide ((unhide F5).trans ((unhide G8).mono (unhide F5).size))
  clear u0 u1 u2 u3 u4
  obtain ⟨u0, u1, u2, u3, u4⟩ := (unhide K0).below (unhide F8)
  obtain ⟨v0, v1, v2, v3, v4⟩ := (unhide D0).below (unhide F8)
  obtain ⟨y0, y1, y2, y3, y4⟩ := (unhide QY7).below f8
  obtain ⟨z0, z1, z2, z3, z4⟩ := (unhide QZ).below f8
  simp only at e8 ⊢
  rw [unhide HLB] at e8 ⊢
  have XE := hide (SameEntries_same w8 a8 a4 LB c8 c4 Bl e8.es ((unhide IB).below (unhide G8)).arg.es (by omega))
  have FW8 := hide ((unhide B0).trans ((unhide F8).mono (unhide B0).size))
  clear f8 e8 X1c G7 QY7 QZ F7 F5 G8 F8 IB
  go_wp2_with fail
  refine (unhide XE).mono ?_
  rintro e w9 ⟨rfl, f9⟩
  have FW9 := hide ((unhide FW8).trans (f9.mono (unhide FW8).size))
  clear f9 FW8 XE
  go_wp2
  go_ret
  exact ⟨rfl, unhide FW9⟩

end Go.Proofs.Ytjpimcglojneaaa
