/- The document's own pool: Read. -/
import Derived.Test.YtjpimcglojneaaaJA
import Derived.Test.YtjpimcglojneaaaJPlW
import Derived.Test.YtjpimcglojneaaaJPlQ

namespace Go.Proofs.Ytjpimcglojneaaa
open Go.RowKit
set_option linter.unusedVariables false

def vlen : Value → Nat
  | .slice _ n _ => n
  | _ => 0
theorem EEnd.trans {w W W' : World} {z : Nat} {a : Option Addr} {n c i j : Nat} (h : EEnd w z a n c i W) (h2 : EEnd W z a n c j W') : EEnd w z a n c j W' :=
  ⟨h2.blk, fun k hk hz => (h2.oth k (Nat.lt_of_lt_of_le hk h.bel.size) hz).trans (h.oth k hk hz), h.bel.trans h2.bel⟩
theorem EEnd.below {w W W' : World} {z : Nat} {a : Option Addr} {n c i : Nat} (h : EEnd w z a n c i W) (f : Below W.heap.size W W') : EEnd w z a n c i W' :=
  ⟨(f.block z (lt_of_heap h.blk)).trans h.blk, fun k hk hz => (f.block k (Nat.lt_of_lt_of_le hk h.bel.size)).trans (h.oth k hk hz), h.bel.trans (f.mono (Nat.le_of_lt (lt_of_heap h.blk)))⟩
theorem EEnd.own {W W' : World} {z B : Nat} {a : Option Addr} {n c j m : Nat} {v : Value} {xs : List Value} {T : TypeId} (h2 : EEnd W z a n c j W') (ho : W.ownsRow B T 5 v m xs) (hz : z < B) : W'.ownsRow B T 5 v m xs :=
  own_of_block ho (fun k hk => h2.oth k (ho.lt k hk).2 (by have := (ho.lt k hk).1; omega))
/-- Between the rounds of Read. -/
structure RI (w : World) (z : Nat) (a : Option Addr) (n c : Nat) (bs : List UInt8) (N : Nat) (F : List Ent × Int × Nat) (v : Value) (W : World) (es : List Ent) (i f : Nat) : Prop where
  own : W.ownsRow w.heap.size 67 5 v es.length (ev es)
  rd : EEnd w z a n c i W
  le : i ≤ n
  fin : entsR bs N f es i = F
  fuel : N ≤ es.length + f
  len : es.length ≤ N + 1
  fit : EntsFit7 es
theorem RI.vlen {w : World} {z : Nat} {a : Option Addr} {n c : Nat} {bs : List UInt8} {N : Nat} {F : List Ent × Int × Nat} {v : Value} {W : World} {es : List Ent} {i f : Nat} (h : RI w z a n c bs N F v W es i f) : ∃ q d, v = .slice q es.length d := own5_form h.own
theorem RI.done {w : World} {z : Nat} {a : Option Addr} {n c : Nat} {bs : List UInt8} {N : Nat} {F : List Ent × Int × Nat} {v : Value} {W : World} {es : List Ent} {i f : Nat} (h : RI w z a n c bs N F v W es i f) (hl : N ≤ es.length) : F = (es, 0, i) := by
  rw [← h.fin]
  cases f with
  | zero => rfl
  | succ f => rw [entsR, if_pos hl]
theorem RI.step {w : World} {z : Nat} {a : Option Addr} {n c : Nat} {bs : List UInt8} {N : Nat} {F : List Ent × Int × Nat} {v : Value} {W : World} {es : List Ent} {i f : Nat} (h : RI w z a n c bs N F v W es i f) (hl : es.length < N) : ∃ f', f = f' + 1 ∧ (if (entR bs i).2.1 ≠ 0 then (es, (entR bs i).2) else entsR bs N f' (withE es (entR bs i).1) (entR bs i).2.2) = F := by
  have := h.fuel
  obtain ⟨f', rfl⟩ : ∃ f', f = f' + 1 := ⟨f - 1, by omega⟩
  refine ⟨f', rfl, ?_⟩
  have e := h.fin
  rw [entsR, if_neg (by omega)] at e
  exact e

set_option maxHeartbeats 6400000 in
set_option maxRecDepth 100000 in
theorem jRead_any (w : World) (z : Nat) (a : Option Addr) (n c i : Nat) (bs : List UInt8) (hb : Arg w a n c bs) (hn : n ≤ 1000000) (hi : i ≤ n) (hz : w.heap[z]? = some (.cells #[.slice a n c, .int .i64 (i : Int)] 28 (0, 0))) (hfar : ∀ b o, a = some ⟨b, o, none⟩ → 0 < n → b ≠ z) :
    Calls Try.prog 12 #[.pointer (some ⟨z, 0, none⟩)] w fun e w' => ∃ v, e = .returned (.tuple #[v, .int .i64 (readP bs i).2.1]) ∧ w'.ownsRow w.heap.size 67 5 v (readP bs i).1.length (ev (readP bs i).1) ∧ EEnd w z a n c (readP bs i).2.2 w' := by
  have hlen := hb.bs.1
  have hzl := lt_of_heap hz
  have HG := hide (hGet_any w z a n c i bs hb (by omega) hi hz 2 (by decide) false)
  have hle := getW_le (bs := bs) (i := i) (k := 2) (sg := false) (by omega)
  have hpos := getW_pos (b := bs) (i := i) (k := 2)
  obtain ⟨X, hX⟩ : ∃ X, readP bs i = X := ⟨_, rfl⟩
  rw [hX]
  have hE := hX.symm
  unfold readP at hE
  simp only at hE
  generalize getW bs i 2 false = g at *
  obtain ⟨g1, g2, g3⟩ := g
  simp only at HG hle hpos hE
  have HB := hide hb
  have HF := hide hfar
  have HX := hide hE
  clear hz hb hfar hX hE
  go_enter Try.func12, Try.ntmps12
  go_wp2_with fail
  refine (unhide HG).mono ?_
  rintro e w1 ⟨rfl, R⟩
  have hE1 : EEnd w z a n c g3 w1 := ⟨R.blk, fun k _ hz => R.oth k hz, R.bel⟩
  have HE1 := hide hE1
  clear HG R hE1
  by_cases h0 : g2 = 0
  case neg =>
    have h0' : (g2 != 0) = true := by simpa using h0
    rw [if_pos h0] at HX
    go_wp2
    go_ret2
    rw [unhide HX]
    exact ⟨_, rfl, World.ownsRow_nil _ _ _ _, unhide HE1⟩
  subst h0
  rw [if_neg (by simp)] at HX
  by_cases h1 : g1 < 1
  case pos =>
    rw [if_pos (.inl h1)] at HX
    go_wp2
    go_ret2
    rw [unhide HX]
    exact ⟨_, rfl, World.ownsRow_nil _ _ _ _, unhide HE1⟩
  by_cases h2 : 1024 < g1
  case pos =>
    rw [if_pos (.inr h2)] at HX
    go_wp2
    go_ret2
    rw [unhide HX]
    exact ⟨_, rfl, World.ownsRow_nil _ _ _ _, unhide HE1⟩
  rw [if_neg (by omega)] at HX
  obtain ⟨N, rfl⟩ : ∃ N : Nat, g1 = N := ⟨g1.toNat, by omega⟩
  rw [Int.toNat_natCast] at HX
  obtain ⟨F, hF⟩ : ∃ F, entsR bs N N [ent0] g3 = F := ⟨_, rfl⟩
  rw [hF] at HX
  have hN : N ≤ 1024 := by omega
  have HI0 : Hid (RI w z a n c bs N F (.slice (some ⟨w1.heap.size, 0, none⟩) 1 1) (w1.alloc (.cells (ev [ent0]).toArray 67)) [ent0] g3 N) := by
    have f1 : Below w1.heap.size w1 (w1.alloc (.cells (ev [ent0]).toArray 67)) := (Below.refl _ _).alloc (Nat.le_refl _) _
    have hs1 := (unhide HE1).bel.size
    refine ⟨?_, (unhide HE1).below f1, by omega, hF, by simp, by simp, ⟨fun y hy => by simp at hy; subst hy; decide, fun y hy => by simp at hy; subst hy; exact fit0⟩⟩
    exact World.ownsRow_lit (base := w.heap.size) w1 (ev [ent0]).toArray 1 hs1 (by unfold maxLen; omega) rfl
  clear hF HE1
  have hNI : (N : Int) ≤ 1024 := by omega
  go_wp2
  go_loopw [6] (fun v wr => ∃ es i f, RI w z a n c bs N F v wr es i f) (fun v _ => N - vlen v)
  case atStart => exact ⟨_, _, _, unhide HI0⟩
  case round =>
    obtain ⟨es, i', f, hI⟩ := hrel
    clear HI0
    obtain ⟨vq, vd, rfl⟩ := hI.vlen
    have hlI := hI.len
    by_cases hlt : es.length < N
    case neg =>
      have hF := hI.done (by omega)
      rw [hF] at HX
      simp only at HX
      rw [if_neg (by simp)] at HX
      have HRD := hide hI.rd
      have HOW := hide hI.own
      by_cases hgt : N < es.length
      case pos =>
        have hgt' : (N : Int) < (es.length : Int) := by omega
        have hlt' : ¬ (es.length : Int) < (N : Int) := by omega
        rw [if_pos (.inl (by omega))] at HX
        clear hI hF HOW
        generalize es.length = L at *
        go_wp2
        go_ret2
        rw [unhide HX]
        exact ⟨_, rfl, World.ownsRow_nil _ _ _ _, unhide HRD⟩
      obtain ⟨L, hL⟩ : ∃ L, es.length = L := ⟨_, rfl⟩
      have HC := hide (jCheck_any wr vq es.length vd es (es_of_own hI.own) (by omega) hI.fit.1 hI.fit.2)
      have hlt' : ¬ (es.length : Int) < (N : Int) := by omega
      have hgt' : ¬ (N : Int) < (es.length : Int) := by omega
      by_cases hc : checkP es = true
      case neg =>
        rw [if_pos (.inr (by simpa using hc))] at HX
        rw [if_neg hc] at HC
        clear hI hF HOW hL
        generalize es.length = L at *
        go_wp2_with fail
        refine (unhide HC).mono ?_
        rintro e w3 ⟨rfl, f3⟩
        have HR3 := hide ((unhide HRD).below f3)
        clear HC f3 HRD
        go_wp2
        go_ret2
        rw [unhide HX]
        exact ⟨_, rfl, World.ownsRow_nil _ _ _ _, unhide HR3⟩
      rw [if_neg (by rw [hc]; simp; omega)] at HX
      rw [if_pos hc] at HC
      rw [hL] at HC HOW hlt' hgt'
      clear hI hF
      rw [hL]
      go_wp2_with fail
      refine (unhide HC).mono ?_
      rintro e w3 ⟨rfl, f3⟩
      have HR3 := hide ((unhide HRD).below f3)
      have HO3 := hide (gen_below (unhide HOW) f3)
      clear HC f3 HRD HOW
      go_wp2
      go_ret2
      rw [unhide HX]
      refine ⟨_, rfl, ?_, unhide HR3⟩
      show World.ownsRow _ _ _ _ _ es.length (ev es)
      rw [hL]
      exact unhide HO3
    have hlt' : (es.length : Int) < (N : Int) := by omega
    obtain ⟨f', rfl, hst⟩ := hI.step hlt
    have hArg := (unhide HB).blocks (unhide HF) hI.rd.oth
    have HJ := hide (jentry_any wr z a n c i' bs hArg hn hI.le hI.rd.blk (unhide HF))
    have hfit := entR_fit (bs := bs) (i := i') (by omega)
    have hile := entR_le (bs := bs) (i := i') (by have := hI.le; omega)
    generalize entR bs i' = y at *
    obtain ⟨y1, y2, y3⟩ := y
    simp only at HJ hst hfit hile
    have HI := hide hI
    clear hI hArg
    obtain ⟨L, hL⟩ : ∃ L, es.length = L := ⟨_, rfl⟩
    rw [hL] at hlt'
    rw [hL]
    have HL := hide hL
    go_wp2_with fail
    refine (unhide HJ).mono ?_
    rintro e w2 ⟨x, rfl, hx, E2⟩
    have ho2 := E2.own (unhide HI).own hzl
    have hr2 := (unhide HI).rd.trans E2
    rw [unhide HL] at ho2
    unfold entV
    by_cases h4 : y2 = 0
    case neg =>
      have h4' : (y2 != 0) = true := by simpa using h4
      rw [if_pos h4] at hst
      rw [← hst] at HX
      simp only at HX
      rw [if_pos h4] at HX
      have HR := hide (hr2.below ((Below.refl _ _).alloc (Nat.le_refl _) (.cells #[.int .i64 x.tag, .string ⟨x.text.toArray⟩, .int .i64 x.n, .int .i64 x.a, .int .i64 x.b] 67)))
      clear HJ E2 ho2 hr2 HI hx hst hL HL
      generalize (⟨x.text.toArray⟩ : ByteArray) = st at *
      go_wp2
      go_ret2
      rw [unhide HX]
      exact ⟨_, rfl, World.ownsRow_nil _ _ _ _, unhide HR⟩
    subst h4
    rw [if_neg (by simp)] at hst
    obtain rfl := hx rfl
    have hs2 : w.heap.size ≤ w2.heap.size := hr2.bel.size
    have hown := (ho2.alloc (.cells #[.int .i64 x.tag, .string ⟨x.text.toArray⟩, .int .i64 x.n, .int .i64 x.a, .int .i64 x.b] 67)).alloc (.cells (ev [x]).toArray 67)
    have hsrc : Es ((w2.alloc (.cells #[.int .i64 x.tag, .string ⟨x.text.toArray⟩, .int .i64 x.n, .int .i64 x.a, .int .i64 x.b] 67)).alloc (.cells (ev [x]).toArray 67)) (some ⟨w2.heap.size + 1, 0, none⟩) 1 [x] := ⟨rfl, .inr ⟨_, _, rfl, es_of_block (heap_alloc2_new w2 _ _)⟩⟩
    have HST : Hid (∀ W, ((w2.alloc (.cells #[.int .i64 x.tag, .string ⟨x.text.toArray⟩, .int .i64 x.n, .int .i64 x.a, .int .i64 x.b] 67)).alloc (.cells (ev [x]).toArray 67)).grownBy W (Value.slice vq L vd).ownBlock → W.heap[w2.heap.size]? = some (.cells #[.int .i64 x.tag, .string ⟨x.text.toArray⟩, .int .i64 x.n, .int .i64 x.a, .int .i64 x.b] 67 (0, 0)) ∧ EEnd w z a n c y3 W) := fun W g => by
      refine ⟨(g.block w2.heap.size (by simp; omega) (fun e => ?_)).trans ((heap_alloc_old _ _ (by simp)).trans (heap_alloc_last w2 _)), ?_⟩
      · have := (ho2.lt w2.heap.size e.symm).2
        omega
      · have e1 := (hr2.below ((Below.refl _ _).alloc (Nat.le_refl _) (.cells #[.int .i64 x.tag, .string ⟨x.text.toArray⟩, .int .i64 x.n, .int .i64 x.a, .int .i64 x.b] 67))).below ((Below.refl _ _).alloc (Nat.le_refl _) (.cells (ev [x]).toArray 67))
        refine ⟨(g.block z (lt_of_heap e1.blk) (fun e => ?_)).trans e1.blk, fun k hk hz => (g.block k (by simp; omega) (fun e => ?_)).trans (e1.oth k hk hz), e1.bel.grown g (by simp; omega) (fun k hk => ?_)⟩
        · have := (ho2.lt z e.symm).1
          omega
        · have := (ho2.lt k e.symm).1
          omega
        · have := (ho2.lt k hk).1
          omega
    have HF' := hide hst
    have HFI := hide hfit
    have hIl := (unhide HI).fuel
    have HFT := hide (unhide HI).fit
    clear HJ E2 ho2 hr2 hx hst hfit
    go_wp2_with (at_builtin; refine listE_append rfl _ _ rfl w.heap.size (.slice vq L vd) L es rfl (by exact hown) (some ⟨w2.heap.size + 1, 0, none⟩) 1 1 [x] rfl (by exact hsrc) (fun e => by cases e) (by omega) (Nat.le_trans hs2 (by simp; omega)) ?_)
    intro v3 w3 o3 g3'
    obtain ⟨hx3, e3⟩ := unhide HST w3 g3'
    obtain ⟨k0, _, _, _, _⟩ := entC (x := x) hx3
    have O3 := hide o3
    have E3 := hide e3
    have hs3 : w.heap.size ≤ w3.heap.size := e3.bel.size
    clear o3 g3' e3 hx3 hown hsrc HST
    by_cases h5 : x.tag = 5
    case pos =>
      rw [h5] at k0
      have e5 : withE es x = es ++ [x, ent0] := if_pos h5
      have hown4 := (unhide O3).alloc (.cells (ev [ent0]).toArray 67)
      have hsrc4 : Es (w3.alloc (.cells (ev [ent0]).toArray 67)) (some ⟨w3.heap.size, 0, none⟩) 1 [ent0] := ⟨rfl, .inr ⟨_, _, rfl, es_of_block (heap_alloc_last _ _)⟩⟩
      have E5 := hide e5
      clear e5 h5
      go_wp2_with (at_builtin; refine listE_append rfl _ _ rfl w.heap.size v3 (L + 1) (es ++ [x]) rfl (by exact hown4) (some ⟨w3.heap.size, 0, none⟩) 1 1 [ent0] rfl (by exact hsrc4) (fun e => by cases e) (by omega) (Nat.le_trans hs3 (by simp)) ?_)
      intro v4 w4 o4 g4
      have HN : Hid (RI w z a n c bs N F v4 w4 (withE es x) y3 f') := by
        have e1 := (unhide E3).below ((Below.refl _ _).alloc (Nat.le_refl _) (.cells (ev [ent0]).toArray 67))
        refine ⟨?_, ?_, by omega, unhide HF', ?_, ?_, (unhide HFT).more (unhide HFI)⟩
        · rw [unhide E5]
          have hl2 : (es ++ [x, ent0]).length = L + 1 + 1 := by simp [unhide HL]
          rw [hl2]
          have := o4
          simpa using this
        · refine ⟨(g4.block z (lt_of_heap e1.blk) (fun e => ?_)).trans e1.blk, fun k hk hz => (g4.block k (by simp; omega) (fun e => ?_)).trans (e1.oth k hk hz), e1.bel.grown g4 (by simp; omega) (fun k hk => ?_)⟩
          · have := ((unhide O3).lt z e.symm).1
            omega
          · have := ((unhide O3).lt k e.symm).1
            omega
          · have := ((unhide O3).lt k hk).1
            omega
        · rw [unhide E5]
          simp
          omega
        · rw [unhide E5]
          simp
          omega
      have HV : Hid (N - vlen v4 < N - L) := by
        show N - vlen v4 < N - L
        obtain ⟨q4, d4, rfl⟩ := (unhide HN).vlen
        show N - (withE es x).length < N - L
        have := withE_len es x
        omega
      clear o4 g4 O3 E3 hown4 hsrc4
      go_wp2
      go_roundw
      case rel => exact ⟨_, _, _, unhide HN⟩
      case measure => exact unhide HV
    have e5 : withE es x = es ++ [x] := if_neg h5
    have h5' : (x.tag == 5) = false := by simpa using h5
    have HN : Hid (RI w z a n c bs N F v3 w3 (withE es x) y3 f') := by
      refine ⟨?_, unhide E3, by omega, unhide HF', ?_, ?_, (unhide HFT).more (unhide HFI)⟩
      · rw [e5]
        have hl2 : (es ++ [x]).length = L + 1 := by simp [unhide HL]
        rw [hl2]
        exact unhide O3
      · rw [e5]
        simp
        omega
      · rw [e5]
        simp
        omega
    have HV : Hid (N - vlen v3 < N - L) := by
      show N - vlen v3 < N - L
      obtain ⟨q4, d4, rfl⟩ := (unhide HN).vlen
      show N - (withE es x).length < N - L
      have := withE_len es x
      omega
    clear O3 E3 e5 h5
    go_wp2
    go_roundw
    case rel => exact ⟨_, _, _, unhide HN⟩
    case measure => exact unhide HV

end Go.Proofs.Ytjpimcglojneaaa
