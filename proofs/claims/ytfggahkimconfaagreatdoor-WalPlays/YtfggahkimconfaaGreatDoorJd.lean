/- Joined: FrQ SmO SmP1 SmP2 FrP1 FrP2 FrP3. -/
import Derived.Test.YtfggahkimconfaaGreatDoorJc
import Derived.ArgAppend
import Derived.Laws.IdiomStrings

/- What the walks of stage 3's laws ask of the program's frames, whatever its inner functions are; an append behind which the old slice is still read. -/
namespace Go.Proofs.YtfggahkimconfaaGreatDoor
open Go.RowKit
set_option linter.unusedVariables false
set_option maxRecDepth 100000

theorem below_cells {B : Nat} {a : World} (b : Nat) (hb : B ≤ b) : ∀ (vs : List Value) (o : Nat) (w : World), Below B a w → Below B a (w.setCells b o vs)
  | [], _, _, h => h
  | v :: vs, o, w, h => below_cells b hb vs (o + 1) _ (h.setCell (p := ⟨b, o, none⟩) hb v)

/-- What comes of bytes of one's own by append, the elder slice beside it. -/
theorem append_both {w : World} {ops : Array Oper} {rest : List Oper} {o : Oper} {a : Act} {Q : Exit → Act → World → Prop} (hgd : o.guard = none) (s x : Operand)
    (ho : o.op = .call { callee := .builtin .append, args := #[s, x], argTypes := #[43, 43] }) (w0 : World) (g n c : Nat) (l : List UInt8)
    (hs : a.eval s = .slice (some ⟨g, 0, none⟩) n c) (hown : w.ownsRow w0.heap.size 5 1 (.slice (some ⟨g, 0, none⟩) n c) n (bv l)) (f : Below w0.heap.size w0 w)
    (ad : Addr) (m c' : Nat) (nw : List UInt8) (hx : a.eval x = .slice (some ad) m c') (hn : nw.length = m) (hsrc : ∀ j u, (bv nw)[j]? = some u → w.cell? (ad.add j) = some u) (hmax : n + m ≤ 1000000)
    (h : ∀ a1 c1 w', Arg w' a1 (n + m) c1 (l ++ nw) → BytesAt w' (some ⟨g, 0, none⟩) l → Below w0.heap.size w0 w' → wpList Tryz.prog ops Q rest (a.put o.dst (.slice a1 (n + m) c1)) w') : wpList Tryz.prog ops Q (o :: rest) a w := by
  obtain ⟨i0, hi, hz0, hz1, hz2⟩ := info_parts infoB
  have hl : l.length = n := by have := hown.1; rw [bv_length] at this; omega
  have hcells := hown.cells (g := g) rfl
  have hold : ∀ j u, (bv l)[j]? = some u → w.cell? ⟨g, 0 + j, none⟩ = some u := fun j u hu => by
    have := hcells j u hu
    rw [Addr.add_mid] at this
    exact this
  rcases hown.2 with ⟨e1, _⟩ | ⟨q, cap, cur, e1, hq, hblk, k1, k2, k3, k4⟩
  · cases e1
  injection e1 with e2 _ e3
  injection e2 with e2
  injection e2 with e2
  subst e2
  subst e3
  have hspare : ∀ j, n + j < c → (w.cell? ⟨g, 0 + n * 1 + j, none⟩).isSome = true ∧ w.frozen? ⟨g, 0 + n * 1 + j, none⟩ = false := fun j hj => by
    refine ⟨?_, frozen_of_row _ _ _ _ _ hblk⟩
    rw [cell_of_row _ _ _ _ _ _ hblk, Array.getElem?_eq_getElem (by omega)]
    rfl
  have hnl : (bv nw).length = m := by rw [bv_length, hn]
  unfold maxLen at k2
  refine wpList_append_arg w hgd s x 43 ho 5 i0 (.int .u8 0) 1 1 Tryz.underlying43 hi hz0 hz1 hz2 rfl (by decide) g 0 n c (bv l) hs (by rw [bv_length]; omega) hold ad m c' (bv nw) hx (by rw [hnl]; omega) hsrc (bv_one _) (fun hr j hj => hspare j (by omega)) (by unfold maxLen; omega) (by omega) ?_ ?_
  · intro hr
    have hout : ∀ j u, (bv l)[j]? = some u → (w.setCells g (0 + n * 1) (bv nw)).cell? ⟨g, 0 + j, none⟩ = some u := fun j u hu => by
      have hj := (List.getElem?_eq_some_iff.1 hu).1
      rw [bv_length] at hj
      rw [World.cell?_setCells_out _ _ _ _ _ (fun _ _ => .inl (by show 0 + j < 0 + n * 1; omega))]
      exact hold j u hu
    have hin := World.cell?_setCells_in g (bv nw) (0 + n * 1) w (fun j hj => (hspare j (by omega)).1)
    have hB : BytesAt (w.setCells g (0 + n * 1) (bv nw)) (some ⟨g, 0, none⟩) l := ⟨(fun e => by cases e), fun ad e j u hu => by
      injection e with e
      subst e
      rw [Addr.add_mid]
      exact hout j u hu⟩
    refine h _ _ _ ⟨⟨by rw [List.length_append]; omega, .inr ⟨g, 0, rfl, ⟨(fun e => by cases e), fun ad e j u hu => ?_⟩⟩⟩, hr, by omega, fun e => by cases e⟩ hB (below_cells g hq _ _ _ f)
    injection e with e
    subst e
    rw [Addr.add_mid]
    rw [bv_append] at hu
    by_cases hj : j < (bv l).length
    · rw [List.getElem?_append_left hj] at hu
      exact hout j u hu
    · rw [List.getElem?_append_right (by omega)] at hu
      rw [bv_length] at hj hu
      have hj2 := (List.getElem?_eq_some_iff.1 hu).1
      rw [show 0 + j = 0 + n * 1 + (j - l.length) by omega, hin (j - l.length) hj2, ← hu, List.getElem?_eq_getElem]
  · intro hr v' w' ho' hg'
    have fb : Below w.heap.size w w' := (Below.refl _ _).grown hg' (Nat.le_refl _) (fun k hk => by cases hk)
    rw [← bv_append] at ho'
    obtain ⟨a1, c1, rfl, _⟩ := own_form ho'
    exact h _ _ _ (arg_of_own (by rw [List.length_append]; omega) ho') (BytesAt.below ⟨(fun e => by cases e), fun ad e j u hu => by
      injection e with e
      subst e
      exact hcells j u hu⟩ fb) (f.trans (fb.mono f.size))

/-- A record that came in. -/
def recFit (r : Rec) : Prop := -9223372036854775808 ≤ r.epoch ∧ r.epoch ≤ 9223372036854775807 ∧ r.data.length ≤ 140737488355328

def recAB : Rec := ⟨1, [97, 98]⟩
theorem recAB_ok : recOk recAB := ⟨by decide, by decide, by decide⟩
theorem recAB_fit : recFit recAB := ⟨by decide, by decide, by decide⟩
theorem recAB_len : (writeL recAB).length = 14 := by rw [writeL_ok (writeE_ok.2 recAB_ok), rec_len]; rfl
theorem recAB_head : (writeL recAB).take 10 = [0, 0, 0, 2, 0, 0, 0, 1, 97, 98] := by rw [writeL_ok (writeE_ok.2 recAB_ok)]; decide +kernel
theorem recAB_scan : scanL (writeL recAB ++ [0]) 0 = ([recAB], 14) := by
  rw [writeL_ok (writeE_ok.2 recAB_ok)]
  have h := scan_all [recAB] 0 [0] ⟨recAB_ok, by decide, trivial⟩
  have e : allL [recAB] = recL recAB := by simp [allL]
  rw [e] at h
  have e2 : scanL [0] (([recAB].getLast?.map Rec.epoch).getD 0) = ([], 0) := scan_no (by rintro ⟨h, _⟩; exact absurd h (by decide))
  rw [h, e2, rec_len]
  rfl

end Go.Proofs.YtfggahkimconfaaGreatDoor

/- Parts of bytes: a row of slices. -/
namespace Go.Proofs.YtfggahkimconfaaGreatDoor
open Go.RowKit
set_option linter.unusedVariables false

/-- Parts: a row of slices of bytes. -/
def PartsAt (w : World) (b o : Nat) (ls : List (List UInt8)) : Prop := ∀ (j : Nat) (l : List UInt8), ls[j]? = some l → l.length ≤ 140737488351232 ∧ ∃ a cap, w.cell? ⟨b, o + j, none⟩ = some (.slice a l.length cap) ∧ Bs w a l.length l
theorem onS_parts (ls : List (List UInt8)) {k : Nat} (hk : k < ls.length) : onS 0 (ls.take (k + 1)).flatten = onS (onS 0 (ls.take k).flatten) ls[k] := by
  rw [List.take_succ_eq_append_getElem hk, List.flatten_append, onS_append]
  simp

end Go.Proofs.YtfggahkimconfaaGreatDoor

/- The program's own sums (this text speaks of the code's inner functions): a half byte's table; On, Of. -/
namespace Go.Proofs.YtfggahkimconfaaGreatDoor
open Go.RowKit
set_option linter.unusedVariables false

theorem split16 (c : Nat) : (16 * (c / 16)) ^^^ (c % 16) = c := by
  have h1 : ((16 * (c / 16)) ^^^ (c % 16)) / 2 ^ 4 = (16 * (c / 16)) / 2 ^ 4 ^^^ (c % 16) / 2 ^ 4 := Nat.xor_div_two_pow
  have h2 : ((16 * (c / 16)) ^^^ (c % 16)) % 2 ^ 4 = (16 * (c / 16)) % 2 ^ 4 ^^^ (c % 16) % 2 ^ 4 := Nat.xor_mod_two_pow
  rw [show (16 * (c / 16)) / 2 ^ 4 = c / 16 by omega, show (c % 16) / 2 ^ 4 = 0 by omega, Nat.xor_zero] at h1
  rw [show (16 * (c / 16)) % 2 ^ 4 = 0 by omega, show (c % 16) % 2 ^ 4 = c % 16 by omega, Nat.zero_xor] at h2
  generalize (16 * (c / 16)) ^^^ (c % 16) = x at *
  omega
theorem stepN4_lin (a b : Nat) : stepN 4 (a ^^^ b) = stepN 4 a ^^^ stepN 4 b := by simp only [stepN, step_lin]
theorem stepN4_16 (u : Nat) : stepN 4 (16 * u) = u := by
  rw [show 16 * u = 2 * (2 * (2 * (2 * u))) by omega]
  simp only [stepN, step_double]
theorem stepN4 (c : Nat) : stepN 4 c = c / 16 ^^^ stepN 4 (c % 16) := by
  have h := stepN4_lin (16 * (c / 16)) (c % 16)
  rw [split16, stepN4_16] at h
  exact h
theorem stepN_8 (c : Nat) : stepN 4 (stepN 4 c) = S8 c := rfl

/-- The table of half bytes stands in memory. -/
def Tab (w : World) : Prop := ∀ i, i < 16 → w.cell? ⟨0, i, none⟩ = some (.int .u32 (stepN 4 i : Int))
theorem Tab.below {w w' : World} (h : Tab w) (f : Below w.heap.size w w') : Tab w' := fun i hi => by
  have h1 := h i hi
  exact (f.cell (World.block_lt_of_cell? w _ h1)).trans h1

theorem and15 (c : Nat) (hc : c < W32) : bits .and .u32 (c : Int) 15 = ((c % 16 : Nat) : Int) := by
  have := u32_and_nat c 15 hc (by decide)
  rw [show (15 : Nat) = 2 ^ 4 - 1 from rfl, Nat.and_two_pow_sub_one_eq_mod] at this
  exact this

theorem half (c : Nat) (hc : c < W32) : bits .xor .u32 ((c : Int) / 16) (stepN 4 (c % 16) : Int) = (stepN 4 c : Int) := by
  have hc' : c < 4294967296 := hc
  have x1 := x32 (c / 16) (stepN 4 (c % 16)) (by show c / 16 < 4294967296; omega) (stepN_lt (by show c % 16 < 4294967296; omega) 4)
  rw [← stepN4, show ((c / 16 : Nat) : Int) = (c : Int) / 16 by omega] at x1
  exact x1

set_option maxHeartbeats 800000 in
theorem pushed_any (w : World) (v : Nat) (x : UInt8) (hv : v < W32) (hT : Tab w) :
    Calls Tryz.prog 111 #[.int .u32 (v : Int), .int .u8 (x.toNat : Int)] w fun e w' => e = .returned (.int .u32 (S8 (v ^^^ x.toNat) : Int)) ∧ w' = w := by
  have hx := x32b v x hv
  have hc := xor_lt hv (byte_lt x)
  generalize v ^^^ x.toNat = c at *
  have a1 := and15 c hc
  have k1 := hT (c % 16) (by omega)
  have hc' : c < 4294967296 := hc
  have x1 := half c hc
  have hd : stepN 4 c < W32 := stepN_lt hc 4
  have hS : S8 c = stepN 4 (stepN 4 c) := rfl
  rw [hS]
  generalize stepN 4 c = d at *
  have a2 := and15 d hd
  have k2 := hT (d % 16) (by omega)
  have hd' : d < 4294967296 := hd
  have x2 := half d hd
  generalize stepN 4 (c % 16) = t1 at *
  generalize stepN 4 (d % 16) = t2 at *
  generalize stepN 4 d = r at *
  clear hT
  go_enter Tryz.func111, Tryz.ntmps111
  go_wp2
  go_ret
  exact ⟨rfl, rfl⟩

theorem not32 (c : Nat) (hc : c < W32) : bits .xor .u32 IntKind.u32.max (c : Int) = ((c ^^^ full : Nat) : Int) := by
  rw [Nat.xor_comm]
  exact x32 full c full_lt hc

set_option maxHeartbeats 800000 in
theorem sOn_at (w : World) (c : Nat) (hc : c < W32) (b o n cap : Nat) (l : List UInt8) (hT : Tab w) (hn : l.length = n) (hs : n ≤ 140737488351232) (h : BytesAt w (some ⟨b, o, none⟩) l) :
    Calls Tryz.prog 110 #[.int .u32 (c : Int), .slice (some ⟨b, o, none⟩) n cap] w fun e w' => e = .returned (.int .u32 (onS c l : Int)) ∧ w' = w := by
  have H := hide (fun k (hk : k < l.length) => bytes_get h hk)
  have hcf := not32 c hc
  have hc2 := xor_lt hc full_lt
  have HC := hide hc2
  have HT := hide (fun (v : Nat) (x : UInt8) (hv : v < W32) => pushed_any w v x hv hT)
  clear h hT
  go_enter Tryz.func110, Tryz.ntmps110
  go_wp2

  go_loopw [5, 12] (fun s i wr => ∃ k : Nat, k ≤ n ∧ i = .int .i64 k ∧ s = .int .u32 (crc (c ^^^ full) (l.take k) : Int) ∧ wr = w) (fun _ i _ => n - (intOf i).toNat)
  case atStart => exact ⟨0, by omega, rfl, rfl, rfl⟩
  case round =>
    obtain ⟨k, hk, rfl, rfl, rfl⟩ := hrel
    have hlt0 := crc_lt (l.take k) (unhide HC)
    generalize hv : crc (c ^^^ full) (l.take k) = v at *
    by_cases hlt : k < n
    · have hkl : k < l.length := by omega
      have hcell := unhide H k hkl
      have hnext := crc_take (c ^^^ full) l hkl
      rw [hv] at hnext
      have HN := hide hnext
      have HY := hide (unhide HT v l[k] hlt0)
      clear hnext hv
      generalize l[k] = bk at *
      go_wp2_with fail
      refine (unhide HY).mono ?_
      rintro e w4 ⟨rfl, rfl⟩
      go_wp2
      go_roundw
      case rel => exact ⟨k + 1, by omega, by go_num, by rw [unhide HN], trivial⟩
      case measure => simp [intOf]; omega
    · obtain rfl : k = n := by omega
      have ht : l.take k = l := List.take_of_length_le (by omega)
      rw [ht] at hv
      have hfin' : bits .xor .u32 IntKind.u32.max (v : Int) = (onS c l : Int) := by
        rw [show onS c l = v ^^^ full by unfold onS; rw [hv]]
        exact not32 v hlt0
      go_wp2
      go_ret
      exact ⟨rfl, rfl⟩

set_option maxHeartbeats 800000 in
theorem sOn_nil (w : World) (c : Nat) (hc : c < W32) (a : Option Addr) (cap : Nat) :
    Calls Tryz.prog 110 #[.int .u32 (c : Int), .slice a 0 cap] w fun e w' => e = .returned (.int .u32 (c : Int)) ∧ w' = w := by
  have hcf := not32 c hc
  have hcg := not32 (c ^^^ full) (xor_lt hc full_lt)
  rw [full_full] at hcg
  go_enter Tryz.func110, Tryz.ntmps110
  go_wp2
  refine wp_loop_rounds 1 ?_
  rw [rounds_succ]
  go_wp2
  go_ret
  exact ⟨rfl, rfl⟩
theorem sOn_any (w : World) (c : Nat) (hc : c < W32) (a : Option Addr) (n cap : Nat) (l : List UInt8) (hT : Tab w) (hs : n ≤ 140737488351232) (h : Bs w a n l) :
    Calls Tryz.prog 110 #[.int .u32 (c : Int), .slice a n cap] w fun e w' => e = .returned (.int .u32 (onS c l : Int)) ∧ Below w.heap.size w w' := by
  rcases h with ⟨h1, h2 | ⟨b, o, rfl, h2⟩⟩
  · subst h2
    have : l = [] := List.eq_nil_of_length_eq_zero h1
    subst this
    rw [onS_nil]
    refine (sOn_nil w c hc a cap).mono ?_
    rintro e w' ⟨rfl, rfl⟩
    exact ⟨rfl, Below.refl _ _⟩
  · refine (sOn_at w c hc b o n cap l hT h1 hs h2).mono ?_
    rintro e w' ⟨rfl, rfl⟩
    exact ⟨rfl, Below.refl _ _⟩

set_option maxHeartbeats 800000 in
theorem sOf_at (w : World) (b o n cap : Nat) (ls : List (List UInt8)) (hT : Tab w) (hn : ls.length = n) (hs : n ≤ 1000000) (h : PartsAt w b o ls) :
    Calls Tryz.prog 108 #[.slice (some ⟨b, o, none⟩) n cap] w fun e w' => e = .returned (.int .u32 (onS 0 ls.flatten : Int)) ∧ Below w.heap.size w w' := by
  have HP := hide h
  have HT := hide hT
  have hcb : 0 < n → b < w.heap.size := fun hp => by
    obtain ⟨_, a, c, hc, _⟩ := h 0 _ (List.getElem?_eq_getElem (by omega))
    exact World.block_lt_of_cell? w _ hc
  have HCB := hide hcb
  clear h hT hcb
  go_enter Tryz.func108, Tryz.ntmps108
  go_wp2

  go_loopw [3, 8] (fun s i wr => ∃ k : Nat, k ≤ n ∧ i = .int .i64 k ∧ s = .int .u32 (onS 0 (ls.take k).flatten : Int) ∧ Below w.heap.size w wr) (fun _ i _ => n - (intOf i).toNat)
  case atStart => exact ⟨0, by omega, rfl, by simp [onS_nil], Below.refl _ _⟩
  case round =>
    obtain ⟨k, hk, rfl, rfl, hR⟩ := hrel
    have hlt0 := onS_lt (ls.take k).flatten zero_lt32
    by_cases hlt : k < n
    · have hkl : k < ls.length := by omega
      obtain ⟨hll, a, c, hc, hb⟩ := unhide HP k _ (List.getElem?_eq_getElem hkl)
      have hc' : wr.cell? ⟨b, o + k, none⟩ = some (.slice a (ls[k]).length c) := (hR.cell (p := ⟨b, o + k, none⟩) (unhide HCB (by omega))).trans hc
      have hnext := onS_parts ls hkl
      have HY := hide (sOn_any wr _ hlt0 a _ c ls[k] ((unhide HT).below hR) hll (hb.below hR))
      have HN := hide hnext
      have HR := hide hR
      clear hnext hb hc hR
      generalize onS 0 (ls.take k).flatten = v at *
      generalize ls[k] = lk at *
      go_wp2_with fail
      refine (unhide HY).mono ?_
      rintro e w4 ⟨rfl, f4⟩
      have R4 := hide ((unhide HR).trans (f4.mono (unhide HR).size))
      clear f4
      go_wp2
      go_roundw
      case rel => exact ⟨k + 1, by omega, by go_num, by rw [unhide HN], unhide R4⟩
      case measure => simp [intOf]; omega
    · obtain rfl : k = n := by omega
      have ht : ls.take k = ls := List.take_of_length_le (by omega)
      rw [ht] at *
      have HR := hide hR
      clear hR
      go_wp2
      go_ret
      exact ⟨rfl, unhide HR⟩

set_option maxHeartbeats 800000 in
theorem sOf_nil (w : World) (a : Option Addr) (cap : Nat) :
    Calls Tryz.prog 108 #[.slice a 0 cap] w fun e w' => e = .returned (.int .u32 0) ∧ Below w.heap.size w w' := by
  go_enter Tryz.func108, Tryz.ntmps108
  go_wp2
  refine wp_loop_rounds 1 ?_
  rw [rounds_succ]
  go_wp2
  go_ret
  exact ⟨rfl, Below.refl _ _⟩

end Go.Proofs.YtfggahkimconfaaGreatDoor

/- The program's own sums, as far as other layers call them: split, Seal, Right. -/
namespace Go.Proofs.YtfggahkimconfaaGreatDoor
open Go.RowKit
set_option linter.unusedVariables false

theorem results_cell_one {fn : Func} {p : Tmp} {ty : TypeId} (h : fn.results = #[.cell p ty]) (tmps : Array Value) (P : Program) (w : World) :
    (results fn tmps).run P w = ((asAddr (tmps.getD p undef)).run P w).andThen fun a w₁ => (loadVar ty a).run P w₁ := by
  simp only [results, h]
  simp [Sem.run_bind, Result.andThen]

/-- A sum's bytes in a place of their own. -/
theorem four_results {fn : Func} (h : fn.results = #[.cell 2 146]) (w : World) (A : Nat) (c0 c1 c2 c3 : Value) (hA : w.heap[A]? = some (.cells #[c0, c1, c2, c3] 146)) (o0 : c0.oneCell' = true) (o1 : c1.oneCell' = true) (o2 : c2.oneCell' = true) (o3 : c3.oneCell' = true) (tmps : Array Value) (hp : tmps.getD 2 undef = .pointer (some ⟨A, 0, none⟩)) :
    (results fn tmps).run Tryz.prog w = .ok (.agg #[c0, c1, c2, c3]) w := by
  have h0 : w.cell? ⟨A, 0, none⟩ = some c0 := by rw [cell_of_row _ _ _ _ _ _ hA]; rfl
  have h1 : w.cell? ⟨A, 1, none⟩ = some c1 := by rw [cell_of_row _ _ _ _ _ _ hA]; rfl
  have h2 : w.cell? ⟨A, 2, none⟩ = some c2 := by rw [cell_of_row _ _ _ _ _ _ hA]; rfl
  have h3 : w.cell? ⟨A, 3, none⟩ = some c3 := by rw [cell_of_row _ _ _ _ _ _ hA]; rfl
  rw [results_cell_one h, hp]
  go_simp

set_option maxHeartbeats 800000 in
theorem split_any (w : World) (s : Nat) (hs : s < W32) :
    Calls Tryz.prog 107 #[.int .u32 (s : Int)] w fun e w' => e = .returned (.agg (bv (be4 s)).toArray) ∧ Below w.heap.size w w' := by
  rw [bv_be4]
  go_enter Tryz.func107, Tryz.ntmps107
  go_wp2
  refine bodyPost_ret (four_results Tryz.results107 _ w.heap.size _ _ _ _ (heap_alloc_last w _) rfl rfl rfl rfl _ rfl) rfl ⟨rfl, (Below.refl _ _).alloc (Nat.le_refl _) _⟩

theorem bytesEqual_any (w : World) (a b : Option Addr) (x y : List UInt8) (n m c d : Nat) (ha : BytesAt w a x) (hb : BytesAt w b y) (hn : x.length = n) (hm : y.length = m) :
    Calls Tryz.prog 109 #[.slice a n c, .slice b m d] w fun e w' => e = .returned (.bool (decide (x = y))) ∧ w' = w := by
  subst hn
  subst hm
  have h1 := conv_bytes w a x c ha
  have h2 := conv_bytes w b y d hb
  clear ha hb
  go_enter Tryz.func109, Tryz.ntmps109
  go_wp2
  go_ret
  refine ⟨?_, rfl⟩
  show Ending.returned (.bool (x == y)) = _
  rw [Bool.beq_eq_decide_eq]

/-- Of one part. -/
theorem tOf_one (w : World) (a : Option Addr) (n cap : Nat) (l : List UInt8) (hT : Tab w) (hs : n ≤ 1000000) (h : Bs w a n l) :
    Calls Tryz.prog 108 #[.slice (some ⟨w.heap.size, 0, none⟩) 1 1] (w.alloc (.cells #[.slice a n cap] 43)) fun e w' => e = .returned (.int .u32 (onS 0 l : Int)) ∧ Below w.heap.size w w' := by
  have b1 : Below w.heap.size w (w.alloc (.cells #[.slice a n cap] 43)) := (Below.refl _ _).alloc (Nat.le_refl _) _
  have hl := heap_alloc_last w (.cells #[.slice a n cap] 43)
  have hn := h.1
  refine (sOf_at _ w.heap.size 0 1 1 [l] (hT.below b1) rfl (by omega) ?_).mono ?_
  · intro j x hx
    match j, hx with
    | 0, hx =>
      cases hx
      refine ⟨by omega, a, cap, ?_, ?_⟩
      · rw [cell_of_row _ _ _ _ _ _ hl, hn]; rfl
      · rw [hn]; exact h.below b1
  · rintro e w' ⟨rfl, f⟩
    refine ⟨by simp, b1.trans (f.mono b1.size)⟩

theorem split_four (w : World) (s : Nat) (hs : s < W32) :
    Calls Tryz.prog 107 #[.int .u32 (s : Int)] w fun e w' => e = .returned (.agg #[.int .u8 ((s : Int) / 16777216 % 256), .int .u8 ((s : Int) / 65536 % 256), .int .u8 ((s : Int) / 256 % 256), .int .u8 ((s : Int) % 256)]) ∧ Below w.heap.size w w' := by
  have h := split_any w s hs
  rw [bv_be4] at h
  exact h

theorem madeRoom (w : World) (n : Nat) (hn : n ≤ 1000000) :
    ∃ w', (Instr.makeSlice 43 (.int .i64 0) (.int .i64 ((n : Int) + 4))).run Tryz.prog w = .ok (.slice (some ⟨w.heap.size, 0, none⟩) 0 (n + 4)) w' ∧
      w'.ownsRow w.heap.size 5 1 (.slice (some ⟨w.heap.size, 0, none⟩) 0 (n + 4)) 0 [] ∧ Below w.heap.size w w' := by
  obtain ⟨i0, hi, hz0, hz1, hz2⟩ := info_parts infoB
  obtain ⟨w', h1, h2, h3⟩ := run_make_own (P := Tryz.prog) w w.heap.size 43 5 i0 (.int .u8 0) 1 Tryz.underlying43 hi hz0 hz1 .i64 .i64 (n + 4) (by rw [hz2]; omega) (by unfold maxLen; omega) (Nat.le_refl _)
  exact ⟨w', h1, h2, (Below.refl _ _).grown h3 (Nat.le_refl _) (fun k hk => by cases hk)⟩

set_option maxHeartbeats 800000 in
theorem sSeal_some (w : World) (ad : Addr) (n cap : Nat) (l : List UInt8) (hT : Tab w) (hs : n ≤ 1000000) (h : Bs w (some ad) n l) :
    Calls Tryz.prog 103 #[.slice (some ad) n cap] w fun e w' => ∃ v, e = .returned v ∧ w'.ownsRow w.heap.size 5 1 v (n + 4) (bv (sealL l)) ∧ Below w.heap.size w w' := by
  have hsl : sealL l = l ++ be4 (onS 0 l) := rfl
  have HSL := hide hsl
  have hlt := hide (onS_lt l zero_lt32)
  obtain ⟨w0, hm, hown, f0⟩ := madeRoom w n hs
  obtain ⟨i0, hi, hz0, hz1, hz2⟩ := info_parts infoB
  have hsrc := (h.below f0).at.2 ad rfl
  have hn := h.1
  have hsz := f0.size
  have HT := hide hT
  have HH := hide h
  have F0 := hide f0
  clear hsl hT h f0
  go_enter Tryz.func103, Tryz.ntmps103
  go_wp2_with (at_builtin; refine wpList_append_own _ rfl (.tmp 9) (.tmp 10) 43 rfl w.heap.size 5 i0 (.int .u8 0) 1 1 Tryz.underlying43 hi hz0 hz1 hz2 rfl (by decide) _ _ _ rfl hown ad n cap (bv l) rfl ?c0 ?c1 ?c2 ?c3 ?c4 ?c5 ?_)
  case c0 => rw [bv_length, hn]; omega
  case c1 => exact hsrc
  case c2 => exact bv_one _
  case c3 => unfold maxLen; omega
  case c4 => omega
  case c5 => exact hsz
  intro v1 w1 hown1 hgrow _
  have f1 : Below w.heap.size w w1 := (unhide F0).grown hgrow hsz (fun k hk => by simp [Value.ownBlock] at hk; omega)
  obtain ⟨a1, c1, rfl, _⟩ := own_form hown1
  have H2 := hide (tOf_one w1 (some ad) n cap l ((unhide HT).below f1) hs ((unhide HH).below f1))
  have F1 := hide f1
  have O1 := hide hown1
  generalize onS 0 l = s at *
  clear hown1 hgrow f1 hown hsrc hm
  go_wp2_with fail
  refine (unhide H2).mono ?_
  rintro e w2 ⟨rfl, f2⟩
  have H3 := hide (split_four w2 s (unhide hlt))
  have O2 := hide (own_below (unhide O1) f2)
  have F2 := hide ((unhide F1).trans (f2.mono (unhide F1).size))
  clear f2 H2 F1 O1
  go_wp2_with fail
  refine (unhide H3).mono ?_
  rintro e w3 ⟨rfl, f3⟩
  have hb3 := (unhide F2).trans (f3.mono (unhide F2).size)
  have hown3 := own_below (own_below (unhide O2) f3) ((Below.refl _ _).alloc (Nat.le_refl _) (.cells (bv (be4 s)).toArray 146))
  have hb4 : Below w.heap.size w (w3.alloc (.cells (bv (be4 s)).toArray 146)) := hb3.alloc hb3.size _
  have hsrc3 : ∀ j u, (bv (be4 s))[j]? = some u → (w3.alloc (.cells (bv (be4 s)).toArray 146)).cell? (Addr.add ⟨w3.heap.size, 0, none⟩ j) = some u := World.news_of_block (heap_alloc_last w3 _)
  have one4 := bv_one (be4 s)
  have hlo := hown3.lt
  have hsz4 := hb4.size
  rw [bv_be4] at hown3 hb4 hsrc3 one4 hsz4
  have HB := hide hb4
  have HLO := hide hlo
  clear f3 H3 F2 O2 hb3 hb4 hlo
  go_wp2_with (at_builtin; refine wpList_append_own _ rfl (.tmp 16) (.tmp 17) 43 rfl w.heap.size 5 i0 (.int .u8 0) 1 1 Tryz.underlying43 hi hz0 hz1 hz2 rfl (by decide) _ _ _ rfl hown3 ⟨w3.heap.size, 0, none⟩ 4 4 [.int .u8 ((s : Int) / 16777216 % 256), .int .u8 ((s : Int) / 65536 % 256), .int .u8 ((s : Int) / 256 % 256), .int .u8 ((s : Int) % 256)] rfl rfl hsrc3 one4 ?c3 ?c4 hsz4 ?_)
  case c3 => unfold maxLen; omega
  case c4 => omega
  intro v4 w4 hown4 hgrow4 _
  have hb5 : Below w.heap.size w w4 := (unhide HB).grown hgrow4 (unhide HB).size (fun k hk => (unhide HLO k hk).1)
  have HO := hide hown4
  have HB5 := hide hb5
  clear hown4 hgrow4 hb5 hown3 hsrc3
  go_wp2
  go_ret
  refine ⟨_, rfl, ?_, unhide HB5⟩
  have := unhide HO
  rw [unhide HSL, bv_append, bv_be4]
  exact this

set_option maxHeartbeats 800000 in
theorem sSeal_none (w : World) (hT : Tab w) :
    Calls Tryz.prog 103 #[.slice none 0 0] w fun e w' => ∃ v, e = .returned v ∧ w'.ownsRow w.heap.size 5 1 v (0 + 4) (bv (sealL [])) ∧ Below w.heap.size w w' := by
  have hsl : sealL [] = [] ++ be4 (onS 0 []) := rfl
  have HSL := hide hsl
  have hlt := hide (onS_lt [] zero_lt32)
  obtain ⟨w0, hm, hown, f0⟩ := madeRoom w 0 (by omega)
  obtain ⟨i0, hi, hz0, hz1, hz2⟩ := info_parts infoB
  have hsz := f0.size
  have HT := hide hT
  have F0 := hide f0
  clear hsl hT f0
  go_enter Tryz.func103, Tryz.ntmps103
  have hm4 : (Instr.makeSlice 43 (.int .i64 0) (.int .i64 4)).run Tryz.prog w = .ok (.slice (some ⟨w.heap.size, 0, none⟩) 0 4) w0 := hm
  have H2 := hide (tOf_one w0 none 0 0 [] ((unhide HT).below (unhide F0)) (by omega) ⟨rfl, .inl rfl⟩)
  have O1 := hide hown
  generalize onS 0 [] = s at *
  go_wp2_with (at_builtin; refine wpList_append_own_none rfl (.tmp 9) (.tmp 10) 43 rfl w.heap.size 5 i0 1 Tryz.underlying43 hi _ _ _ rfl hown rfl ?_)
  refine (unhide H2).mono ?_
  rintro e w2 ⟨rfl, f2⟩
  have H3 := hide (split_four w2 s (unhide hlt))
  have O2 := hide (own_below (unhide O1) f2)
  have F2 := hide ((unhide F0).trans (f2.mono (unhide F0).size))
  clear f2 H2 F0 O1 hown hm hm4
  go_wp2_with fail
  refine (unhide H3).mono ?_
  rintro e w3 ⟨rfl, f3⟩
  have hb3 := (unhide F2).trans (f3.mono (unhide F2).size)
  have hown3 := own_below (own_below (unhide O2) f3) ((Below.refl _ _).alloc (Nat.le_refl _) (.cells (bv (be4 s)).toArray 146))
  have hb4 : Below w.heap.size w (w3.alloc (.cells (bv (be4 s)).toArray 146)) := hb3.alloc hb3.size _
  have hsrc3 : ∀ j u, (bv (be4 s))[j]? = some u → (w3.alloc (.cells (bv (be4 s)).toArray 146)).cell? (Addr.add ⟨w3.heap.size, 0, none⟩ j) = some u := World.news_of_block (heap_alloc_last w3 _)
  have one4 := bv_one (be4 s)
  have hlo := hown3.lt
  have hsz4 := hb4.size
  rw [bv_be4] at hown3 hb4 hsrc3 one4 hsz4
  have HB := hide hb4
  have HLO := hide hlo
  clear f3 H3 F2 O2 hb3 hb4 hlo
  go_wp2_with (at_builtin; refine wpList_append_own _ rfl (.tmp 16) (.tmp 17) 43 rfl w.heap.size 5 i0 (.int .u8 0) 1 1 Tryz.underlying43 hi hz0 hz1 hz2 rfl (by decide) _ _ _ rfl hown3 ⟨w3.heap.size, 0, none⟩ 4 4 [.int .u8 ((s : Int) / 16777216 % 256), .int .u8 ((s : Int) / 65536 % 256), .int .u8 ((s : Int) / 256 % 256), .int .u8 ((s : Int) % 256)] rfl rfl hsrc3 one4 ?c3 ?c4 hsz4 ?_)
  case c3 => unfold maxLen; omega
  case c4 => omega
  intro v4 w4 hown4 hgrow4 _
  have hb5 : Below w.heap.size w w4 := (unhide HB).grown hgrow4 (unhide HB).size (fun k hk => (unhide HLO k hk).1)
  have HO := hide hown4
  have HB5 := hide hb5
  clear hown4 hgrow4 hb5 hown3 hsrc3
  go_wp2
  go_ret
  refine ⟨_, rfl, ?_, unhide HB5⟩
  have := unhide HO
  rw [unhide HSL, bv_append, bv_be4]
  exact this

theorem sSeal_any (w : World) (a : Option Addr) (n cap : Nat) (l : List UInt8) (hT : Tab w) (hs : n ≤ 1000000) (ha : a = none → n = 0 ∧ cap = 0) (h : Bs w a n l) :
    Calls Tryz.prog 103 #[.slice a n cap] w fun e w' => ∃ v, e = .returned v ∧ w'.ownsRow w.heap.size 5 1 v (n + 4) (bv (sealL l)) ∧ Below w.heap.size w w' := by
  cases a with
  | none =>
    obtain ⟨rfl, rfl⟩ := ha rfl
    have : l = [] := List.eq_nil_of_length_eq_zero h.1
    subst this
    exact sSeal_none w hT
  | some ad => exact sSeal_some w ad n cap l hT hs h

set_option maxHeartbeats 800000 in
theorem sRight_lt (w : World) (a : Option Addr) (n cap : Nat) (h : n < 4) :
    Calls Tryz.prog 105 #[.slice a n cap] w fun e w' => e = .returned (.bool false) ∧ Below w.heap.size w w' := by
  have g1 : decide ((n : Int) - 4 < 0) = true := by simp; omega
  go_enter Tryz.func105, Tryz.ntmps105
  go_wp2
  go_ret
  exact ⟨rfl, Below.refl _ _⟩

theorem drop_bytes {W : World} {b o : Nat} {l : List UInt8} (h : BytesAt W (some ⟨b, o, none⟩) l) (k : Nat) : BytesAt W (some ⟨b, o + k, none⟩) (l.drop k) :=
  ⟨(fun e => by cases e), fun ad e i u hu => by
    injection e with e
    subst e
    have hu' : (bv l)[k + i]? = some u := by
      simp only [bv, List.map_drop, List.getElem?_drop] at hu ⊢
      exact hu
    have := h.2 _ rfl (k + i) u hu'
    rw [Addr.add_mid] at this ⊢
    rw [Nat.add_assoc]
    exact this⟩

theorem right_iff (l : List UInt8) (n : Nat) (hn : l.length = n) (h4 : 4 ≤ n) : (be4 (onS 0 (l.take (n - 4))) = l.drop (n - 4)) ↔ sealL (l.take (n - 4)) = l := by
  unfold sealL
  constructor
  · intro h
    rw [h, List.take_append_drop]
  · intro h
    have h2 := congrArg (List.drop (n - 4)) h
    rw [List.drop_append_of_le_length (by simp; omega), List.drop_eq_nil_of_le (by rw [List.length_take]; omega), List.nil_append] at h2
    exact h2

set_option maxHeartbeats 800000 in
theorem sRight_ge (w : World) (b o n cap : Nat) (l : List UInt8) (hT : Tab w) (h4 : 4 ≤ n) (hn : l.length = n) (hc : n ≤ cap) (hcap : cap ≤ 9223372036854775807) (hs : n ≤ 1000000) (h : BytesAt w (some ⟨b, o, none⟩) l) :
    Calls Tryz.prog 105 #[.slice (some ⟨b, o, none⟩) n cap] w fun e w' => e = .returned (.bool (decide (sealL (l.take (n - 4)) = l))) ∧ Below w.heap.size w w' := by
  have g1 : decide (((n - 4 : Nat) : Int) < 0) = false := by simp
  have hn4 : (n : Int) - 4 = ((n - 4 : Nat) : Int) := by omega
  obtain ⟨m, hm⟩ : ∃ m, n - 4 = m := ⟨_, rfl⟩
  have hfin : decide (be4 (onS 0 (l.take (n - 4))) = l.drop (n - 4)) = decide (sealL (l.take (n - 4)) = l) := decide_eq_decide.2 (right_iff l n hn h4)
  rw [hm] at hn4 g1 hfin ⊢
  generalize decide (sealL (l.take m) = l) = ans at *
  have H1 := hide (tOf_one w (some ⟨b, o, none⟩) m cap (l.take m) hT (by omega) ⟨by simp; omega, .inr ⟨b, o, rfl, bytes_take h _⟩⟩)
  have hlt := hide (onS_lt (l.take m) zero_lt32)
  generalize onS 0 (l.take m) = s at *
  have f2 : (m : Int) ≤ (cap : Int) := by omega
  have f2n : (m : Int) ≤ (n : Int) := by omega
  have f3 : (n : Int) - (m : Int) = 4 := by omega
  have f7 : ¬ cap = m := by omega
  have f9 : ¬ cap = 0 := by omega
  have f8 : IntKind.i64.wrap (m : Int) = (m : Int) := by rw [IntKind.wrap_i64]; omega
  have hdl : (l.drop m).length = n - m := by simp; omega
  have HD := hide (drop_bytes h m)
  have HF := hide hfin
  clear h hfin
  go_enter Tryz.func105, Tryz.ntmps105
  go_wp2_with fail
  refine (unhide H1).mono ?_
  rintro e w2 ⟨rfl, f2'⟩
  have H3 := hide (split_four w2 s (unhide hlt))
  have F2 := hide f2'
  clear f2' H1
  go_wp2_with fail
  refine (unhide H3).mono ?_
  rintro e w3 ⟨rfl, f3'⟩
  have F3 := hide ((unhide F2).trans (f3'.mono (unhide F2).size))
  clear f3' F2 H3
  have hW : Below w.heap.size w (w3.alloc (.cells (bv (be4 s)).toArray 146)) := (unhide F3).alloc (unhide F3).size _
  have hA : BytesAt (w3.alloc (.cells (bv (be4 s)).toArray 146)) (some ⟨w3.heap.size, 0, none⟩) (be4 s) := bytes_of_block (heap_alloc_last w3 _)
  have HQ : Hid (∀ V, Below (w3.alloc (.cells (bv (be4 s)).toArray 146)).heap.size (w3.alloc (.cells (bv (be4 s)).toArray 146)) V → ∀ c d, Calls Tryz.prog 109 #[.slice (some ⟨w3.heap.size, 0, none⟩) 4 c, .slice (some ⟨b, o + m, none⟩) (n - m) d] V fun e w' => e = .returned (.bool ans) ∧ w' = V) := fun V f c d => by
    rw [← unhide HF]
    exact bytesEqual_any V _ _ (be4 s) (l.drop m) 4 (n - m) c d (hA.below f) (((unhide HD).below hW).below f) rfl hdl
  rw [bv_be4] at hW HQ
  have HW := hide hW
  clear hA hW F3 HD HF hlt
  go_wp2
  generalize w3.alloc (Obj.cells #[.int .u8 ((s : Int) / 16777216 % 256), .int .u8 ((s : Int) / 65536 % 256), .int .u8 ((s : Int) / 256 % 256), .int .u8 ((s : Int) % 256)] 146) = W at *
  go_region_held (fun _ => True) (trivial) (first | (go_at_call 109; refine (unhide HQ _ (by repeat (first | exact Below.refl _ _ | refine Below.drew ?_)) _ _).mono ?_; rintro e w5 ⟨rfl, rfl⟩))
  all_goals
    go_wp2
    go_ret
    exact ⟨rfl, by repeat (first | exact unhide HW | refine Below.drew ?_)⟩

theorem sRight_any (w : World) (a : Option Addr) (n cap : Nat) (l : List UInt8) (hT : Tab w) (hc : n ≤ cap) (hcap : cap ≤ 9223372036854775807) (hs : n ≤ 1000000) (h : Bs w a n l) :
    Calls Tryz.prog 105 #[.slice a n cap] w fun e w' => e = .returned (.bool (rightL l)) ∧ Below w.heap.size w w' := by
  have hn := h.1
  by_cases h4 : n < 4
  · refine (sRight_lt w a n cap h4).mono ?_
    rintro e w' ⟨rfl, f⟩
    exact ⟨by simp [rightL]; omega, f⟩
  · rcases h with ⟨_, h0 | ⟨b, o, rfl, h⟩⟩
    · omega
    · refine (sRight_ge w b o n cap l hT (by omega) hn hc hcap hs h).mono ?_
      rintro e w' ⟨rfl, f⟩
      refine ⟨?_, f⟩
      unfold rightL
      subst hn
      simp [show 4 ≤ l.length by omega]

end Go.Proofs.YtfggahkimconfaaGreatDoor

/- The program's own frames (this text speaks of the code's inner functions): refusal, Size, split, merged, joined. -/
namespace Go.Proofs.YtfggahkimconfaaGreatDoor
open Go.RowKit
set_option linter.unusedVariables false

set_option maxHeartbeats 800000 in
theorem refusal_any (w : World) (r : Rec) :
    Calls Tryz.prog 100 #[recV r] w fun e w' => e = .returned (.int .i64 (writeE r)) ∧ Below w.heap.size w w' := by
  have FB : Hid (Below w.heap.size w (w.alloc (.cells #[.int .i64 r.epoch, .string ⟨r.data.toArray⟩] 85))) := (Below.refl _ _).alloc (Nat.le_refl _) _
  unfold recV
  by_cases h1 : r.epoch < 0
  · rw [show writeE r = 2 by unfold writeE; rw [if_pos (.inl h1)]]
    have g1 : decide (r.epoch < 0) = true := by simpa using h1
    go_enter Tryz.func100, Tryz.ntmps100
    go_wp2
    go_ret
    exact ⟨rfl, unhide FB⟩
  · have g1 : decide (r.epoch < 0) = false := by simpa using h1
    by_cases h2 : 4294967295 < r.epoch
    · rw [show writeE r = 2 by unfold writeE; rw [if_pos (.inr h2)]]
      have g2 : decide (4294967295 < r.epoch) = true := by simpa using h2
      go_enter Tryz.func100, Tryz.ntmps100
      go_wp2
      go_ret
      exact ⟨rfl, unhide FB⟩
    · have g2 : decide (4294967295 < r.epoch) = false := by simpa using h2
      by_cases h3 : 4096 < r.data.length
      · rw [show writeE r = 3 by unfold writeE; rw [if_neg (by omega), if_pos h3]]
        have g3 : decide ((4096 : Int) < (r.data.length : Int)) = true := by simp; omega
        go_enter Tryz.func100, Tryz.ntmps100
        go_wp2
        go_ret
        exact ⟨rfl, unhide FB⟩
      · rw [show writeE r = 0 by unfold writeE; rw [if_neg (by omega), if_neg h3]]
        have g3 : decide ((4096 : Int) < (r.data.length : Int)) = false := by simp; omega
        go_enter Tryz.func100, Tryz.ntmps100
        go_wp2
        go_ret
        exact ⟨rfl, unhide FB⟩

theorem fsplit_any (w : World) (n : Nat) (hn : n < W32) :
    Calls Tryz.prog 102 #[.int .i64 (n : Int)] w fun e w' => e = .returned (.slice (some ⟨w.heap.size, 0, none⟩) 4 4) ∧ w' = w.alloc (.cells (bv (be4 n)).toArray 5) := by
  have hn' : n < 4294967296 := hn
  have hm : (n : Int) / 16777216 % 256 = (n : Int) / 16777216 := by omega
  rw [bv_be4 n, hm]
  clear hm
  go_enter Tryz.func102, Tryz.ntmps102
  go_wp2
  go_ret
  exact ⟨rfl, rfl⟩

/-- The number of bytes, the highest first. -/
def acc (l : List UInt8) : Nat := l.foldl (fun n x => n * 256 + x.toNat) 0
theorem acc_take (l : List UInt8) {k : Nat} (hk : k < l.length) : acc (l.take (k + 1)) = acc (l.take k) * 256 + l[k].toNat := by
  rw [List.take_succ_eq_append_getElem hk]
  unfold acc
  rw [List.foldl_append]
  rfl
theorem acc_le (l : List UInt8) (hl : l.length = 4) (k : Nat) (hk : k < 4) : acc (l.take k) < 16777216 := by
  match l, hl with
  | [a, b, c, d], _ =>
    have := a.toNat_lt
    have := b.toNat_lt
    have := c.toNat_lt
    match k, hk with
    | 0, _ => simp [acc]
    | 1, _ => simp [acc]; omega
    | 2, _ => simp [acc]; omega
    | 3, _ => simp [acc]; omega
theorem acc_num (l : List UInt8) (hl : l.length = 4) : acc l = num l := by
  match l, hl with
  | [a, b, c, d], _ =>
    simp [acc, num]
    omega
theorem or_byte (v x : Nat) (hv : v < 16777216) (hx : x < 256) : bits .or .i64 ((v : Int) * 256) (x : Int) = (v : Int) * 256 + (x : Int) := by
  have e : (v : Int) * 256 = ((v * 256 : Nat) : Int) := by omega
  rw [e]
  show IntKind.i64.wrap ((BitVec.ofInt 64 ((v * 256 : Nat) : Int) ||| BitVec.ofInt 64 (x : Int)).toNat : Int) = _
  rw [BitVec.toNat_or, ofInt_u64 _ (by omega), ofInt_u64 _ (by omega), nat_join 8 _ _ (by omega) (by omega), IntKind.wrap_i64]
  omega

set_option maxHeartbeats 800000 in
theorem merged_at (w : World) (b o cap : Nat) (l : List UInt8) (hn : l.length = 4) (h : BytesAt w (some ⟨b, o, none⟩) l) :
    Calls Tryz.prog 104 #[.slice (some ⟨b, o, none⟩) 4 cap] w fun e w' => e = .returned (.int .i64 (num l : Int)) ∧ w' = w := by
  have H := hide (fun k (hk : k < l.length) => bytes_get h hk)
  rw [← acc_num l hn]
  clear h
  go_enter Tryz.func104, Tryz.ntmps104
  go_wp2
  go_loopw [3, 8] (fun s i wr => ∃ k : Nat, k ≤ 4 ∧ i = .int .i64 k ∧ s = .int .i64 (acc (l.take k) : Int) ∧ wr = w) (fun _ i _ => 4 - (intOf i).toNat)
  case atStart => exact ⟨0, by omega, rfl, rfl, rfl⟩
  case round =>
    obtain ⟨k, hk, rfl, rfl, rfl⟩ := hrel
    by_cases hlt : k < 4
    · have hkl : k < l.length := by omega
      have hcell := unhide H k hkl
      have hnext : (acc (l.take (k + 1)) : Int) = (acc (l.take k) : Int) * 256 + (l[k].toNat : Int) := by rw [acc_take l hkl]; omega
      have hv := acc_le l hn k hlt
      generalize acc (l.take k) = v at *
      have hx := l[k].toNat_lt
      have hor := or_byte v l[k].toNat hv (by omega)
      have HN := hide hnext
      clear hnext
      generalize l[k] = bk at *
      go_wp2
      go_roundw
      case rel => exact ⟨k + 1, by omega, by go_num, by rw [unhide HN], trivial⟩
      case measure => simp [intOf]; omega
    · obtain rfl : k = 4 := by omega
      have ht : l.take 4 = l := List.take_of_length_le (by omega)
      rw [ht] at *
      go_wp2
      go_ret
      exact ⟨rfl, rfl⟩

/-- Parts: a row of slices of bytes, each somewhere. -/
def PartsS (w : World) (b o : Nat) (ls : List (List UInt8)) : Prop := ∀ (j : Nat) (l : List UInt8), ls[j]? = some l → l.length ≤ 4108 ∧ ∃ ad cap, w.cell? ⟨b, o + j, none⟩ = some (.slice (some ad) l.length cap) ∧ BytesAt w (some ad) l
theorem PartsS.below {w w' : World} {b o : Nat} {ls : List (List UInt8)} (h : PartsS w b o ls) (f : Below w.heap.size w w') : PartsS w' b o ls := fun j l hj => by
  obtain ⟨h1, ad, cap, hc, hb⟩ := h j l hj
  exact ⟨h1, ad, cap, (f.cell (World.block_lt_of_cell? w _ hc)).trans hc, hb.below f⟩
theorem flat_take (ls : List (List UInt8)) {k : Nat} {l : List UInt8} (hk : ls[k]? = some l) : (ls.take (k + 1)).flatten = (ls.take k).flatten ++ l := by
  obtain ⟨hlt, rfl⟩ := List.getElem?_eq_some_iff.1 hk
  rw [List.take_succ_eq_append_getElem hlt, List.flatten_append]
  simp
theorem flat_le (ls : List (List UInt8)) (h : ∀ (j : Nat) (l : List UInt8), ls[j]? = some l → l.length ≤ 4108) : ∀ k, k ≤ ls.length → (ls.take k).flatten.length ≤ k * 4108
  | 0, _ => by simp
  | k + 1, hk => by
    have ih := flat_le ls h k (by omega)
    have hg : ls[k]? = some ls[k] := List.getElem?_eq_getElem (by omega)
    have := h k _ hg
    rw [flat_take ls hg, List.length_append]
    omega

theorem madeN (w : World) (n : Nat) (hn : n ≤ 10000000) :
    ∃ w', (Instr.makeSlice 43 (.int .i64 0) (.int .i64 (n : Int))).run Tryz.prog w = .ok (.slice (some ⟨w.heap.size, 0, none⟩) 0 n) w' ∧
      w'.ownsRow w.heap.size 5 1 (.slice (some ⟨w.heap.size, 0, none⟩) 0 n) 0 [] ∧ Below w.heap.size w w' := by
  obtain ⟨i0, hi, hz0, hz1, hz2⟩ := info_parts infoB
  obtain ⟨w', h1, h2, h3⟩ := run_make_own (P := Tryz.prog) w w.heap.size 43 5 i0 (.int .u8 0) 1 Tryz.underlying43 hi hz0 hz1 .i64 .i64 n (by rw [hz2]; omega) (by unfold maxLen; omega) (Nat.le_refl _)
  exact ⟨w', h1, h2, (Below.refl _ _).grown h3 (Nat.le_refl _) (fun k hk => by cases hk)⟩

/-- Between two rounds of joined. -/
structure JR (w : World) (ls : List (List UInt8)) (k : Nat) (v : Value) (W : World) : Prop where
  le : k ≤ ls.length
  own : W.ownsRow w.heap.size 5 1 v (ls.take k).flatten.length (bv (ls.take k).flatten)
  fr : Below w.heap.size w W
theorem JR.next {w : World} {ls : List (List UInt8)} {k : Nat} {l : List UInt8} {v v2 : Value} {W W2 : World} (h : JR w ls k v W) (hk : ls[k]? = some l) (o : W2.ownsRow w.heap.size 5 1 v2 ((ls.take k).flatten.length + l.length) (bv (ls.take k).flatten ++ bv l)) (f : Below w.heap.size w W2) : JR w ls (k + 1) v2 W2 := by
  refine ⟨(List.getElem?_eq_some_iff.1 hk).1, ?_, f⟩
  rw [flat_take ls hk, List.length_append, bv_append]
  exact o

set_option maxHeartbeats 1600000 in
theorem joined_at (w : World) (b o n cap : Nat) (ls : List (List UInt8)) (hn : ls.length = n) (hs : n ≤ 1000) (h : PartsS w b o ls) :
    Calls Tryz.prog 101 #[.slice (some ⟨b, o, none⟩) n cap] w fun e w' => ∃ v, e = .returned v ∧ w'.ownsRow w.heap.size 5 1 v ls.flatten.length (bv ls.flatten) ∧ Below w.heap.size w w' := by
  have hle := flat_le ls (fun j l hj => (h j l hj).1)
  have HLE := hide hle
  have HP := hide h
  clear h hle
  go_enter Tryz.func101, Tryz.ntmps101
  go_wp2
  go_loopw [3, 11] (fun s i wr => ∃ k : Nat, k ≤ n ∧ i = .int .i64 k ∧ s = .int .i64 ((ls.take k).flatten.length : Int) ∧ wr = w) (fun _ i _ => n - (intOf i).toNat)
  case atStart => exact ⟨0, by omega, rfl, rfl, rfl⟩
  case round =>
    obtain ⟨k, hk, rfl, rfl, hw⟩ := hrel
    have hw' := hw.symm
    subst hw'
    have hb := unhide HLE k (by omega)
    by_cases hlt : k < n
    · have hg : ls[k]? = some ls[k] := List.getElem?_eq_getElem (by omega)
      obtain ⟨hll, ad, c, hc, _⟩ := unhide HP k _ hg
      have hnext : ((ls.take (k + 1)).flatten.length : Int) = ((ls.take k).flatten.length : Int) + (ls[k].length : Int) := by rw [flat_take ls hg, List.length_append]; omega
      have HN := hide hnext
      clear hnext hg
      generalize (ls.take k).flatten.length = L at *
      generalize ls[k] = lk at *
      go_wp2
      go_roundw
      case rel => exact ⟨k + 1, by omega, by go_num, by rw [unhide HN], trivial⟩
      case measure => simp [intOf]; omega
    · obtain rfl : k = n := by omega
      have ht : ls.take k = ls := List.take_of_length_le (by omega)
      rw [ht] at hb ⊢
      clear ht hlt hk
      obtain ⟨w0, hm, hown, f0⟩ := madeN w ls.flatten.length (by omega)
      have hJ0 : JR w ls 0 (.slice (some ⟨w.heap.size, 0, none⟩) 0 ls.flatten.length) w0 := ⟨by omega, hown, f0⟩
      have HJ0 := hide hJ0
      obtain ⟨i0, hi, hz0, hz1, hz2⟩ := info_parts infoB
      generalize hT : ls.flatten.length = T at *
      have HT := hide hT
      clear hJ0 hown f0 hT
      go_wp2
      go_loopw [6, 24] (fun v i wn => ∃ k : Nat, i = .int .i64 k ∧ JR w ls k v wn) (fun _ i _ => k - (intOf i).toNat)
      case atStart => exact ⟨0, rfl, unhide HJ0⟩
      case round =>
        clear HJ0
        obtain ⟨j, rfl, hR⟩ := hrel
        have hj := hR.le
        obtain ⟨oa, oc, rfl, _⟩ := own_form hR.own
        by_cases hlt : j < k
        · have hg : ls[j]? = some ls[j] := List.getElem?_eq_getElem (by omega)
          obtain ⟨hll, ad, c, hc, hbs⟩ := (unhide HP).below hR.fr j _ hg
          have HNX := hide (fun v2 W2 => JR.next (v2 := v2) (W2 := W2) hR hg)
          have hsrc := hbs.2 ad rfl
          have hown := hR.own
          have HLO := hide hown.lt
          have FW := hide hR.fr
          have hsz := hR.fr.size
          have hLb := unhide HLE j (by omega)
          generalize (ls.take j).flatten = al at *
          generalize ls[j] = lj at *
          have hone := bv_one lj
          have hll0 : (bv lj).length = lj.length * 1 := by rw [bv_length]; omega
          have hc3 : al.length + lj.length ≤ maxLen := by unfold maxLen; omega
          clear hg hR hbs
          go_wp2_with (at_builtin; refine wpList_append_own _ rfl (.tmp 28) (.tmp 29) 43 rfl w.heap.size 5 i0 (.int .u8 0) 1 1 Tryz.underlying43 hi hz0 hz1 hz2 rfl (by decide) _ _ _ rfl hown ad lj.length c (bv lj) rfl hll0 hsrc hone hc3 (by omega) hsz ?_)
          intro v3 w3 o3 g3 _
          have f3 : Below w.heap.size w w3 := (unhide FW).grown g3 (unhide FW).size (fun x hx => (unhide HLO x hx).1)
          have HS3 := hide (unhide HNX v3 w3 o3 f3)
          clear o3 g3 f3 hown hsrc HNX HLO FW hone
          go_wp2
          go_roundw
          case rel => exact ⟨j + 1, by go_num, unhide HS3⟩
          case measure => simp [intOf]; omega
        · obtain rfl : j = k := by omega
          have d2 := hR.own
          have ht : ls.take j = ls := List.take_of_length_le (by omega)
          rw [ht] at d2 ⊢
          have D2 := hide d2
          have F2 := hide hR.fr
          clear hR d2 ht
          go_wp2
          go_ret
          exact ⟨_, rfl, unhide D2, unhide F2⟩

end Go.Proofs.YtfggahkimconfaaGreatDoor

/- The program's own Size and First. -/
namespace Go.Proofs.YtfggahkimconfaaGreatDoor
open Go.RowKit
set_option linter.unusedVariables false

set_option maxHeartbeats 800000 in
theorem fFirst_short (w : World) (a : Option Addr) (n cap : Nat) (h8 : n < 8) :
    Calls Tryz.prog 97 #[.slice a n cap] w fun e w' => e = .returned (.tuple #[recV rec0, .int .i64 0, .int .i64 7]) ∧ Below w.heap.size w w' := by
  have g1 : decide ((n : Int) < 8) = true := by simp; omega
  have hl := heap_alloc_last w (.cells #[.int .i64 0, .string ⟨#[]⟩] 85)
  have fb : Below w.heap.size w (w.alloc (.cells #[.int .i64 0, .string ⟨#[]⟩] 85)) := (Below.refl _ _).alloc (Nat.le_refl _) _
  have HL := hide hl
  have FB := hide fb
  clear hl fb
  go_enter Tryz.func97, Tryz.ntmps97
  go_wp2
  refine bodyPost_ret (rec_results Tryz.results97 _ w.heap.size (.int .i64 0) (.string ⟨#[]⟩) ?_ ?_ rfl rfl _ rfl) rfl ⟨rfl, ?_⟩
  · rw [cell_of_row _ _ _ _ _ _ (unhide HL)]; rfl
  · rw [cell_of_row _ _ _ _ _ _ (unhide HL)]; rfl
  · exact unhide FB

set_option maxHeartbeats 1600000 in
theorem fFirst_at (w : World) (b o n cap : Nat) (l : List UInt8) (hT : Tab w) (hn : l.length = n) (h8 : 8 ≤ n) (hc : n ≤ cap) (hcap : cap ≤ 9223372036854775807) (hs : n ≤ 1000000) (h : BytesAt w (some ⟨b, o, none⟩) l) :
    Calls Tryz.prog 97 #[.slice (some ⟨b, o, none⟩) n cap] w fun e w' => e = .returned (.tuple #[recV (firstQ l), .int .i64 (firstN l : Int), .int .i64 (firstE l)]) ∧ Below w.heap.size w w' := by
  have g1 : decide ((n : Int) < 8) = false := by simp; omega
  have g10 : (4 : Int) ≤ (cap : Int) := by omega
  have g11 : ¬ cap = 0 := by omega
  have hl := heap_alloc_last w (.cells #[.int .i64 0, .string ⟨#[]⟩] 85)
  have fb : Below w.heap.size w (w.alloc (.cells #[.int .i64 0, .string ⟨#[]⟩] 85)) := (Below.refl _ _).alloc (Nat.le_refl _) _
  have h1' := merged_at (w.alloc (.cells #[.int .i64 0, .string ⟨#[]⟩] 85)) b o cap (l.take 4) (by rw [List.length_take]; omega) (bytes_take (h.below fb) 4)
  rw [num_take l 4 (Nat.le_refl _)] at h1'
  have H1 := hide h1'
  have hnl := num_le l
  have hnl' : num l < 4294967296 := hnl
  have HL := hide hl
  have FB := hide fb
  have hE : firstE l = if 4096 < num l then 30 else if n < num l + 12 then 7 else if rightL (l.take (num l + 12)) = true then 0 else 30 := by
    unfold firstE
    rw [hn, if_neg (by omega)]
  have HB := hide h
  have HT := hide hT
  clear hl fb hnl h h1' hT
  by_cases h1 : 4096 < num l
  · have e1 : firstE l = 30 := by rw [hE, if_pos h1]
    have e2 : firstQ l = rec0 := by unfold firstQ; rw [if_neg (by rw [e1]; decide)]
    have e3 : firstN l = 0 := by unfold firstN; rw [if_neg (by rw [e1]; decide)]
    rw [e1, e2, e3]
    have g2 : decide ((4096 : Int) < (num l : Int)) = true := by simp; omega
    clear hE e1 e2 e3
    generalize num l = m at *
    go_enter Tryz.func97, Tryz.ntmps97
    go_wp2_with fail
    refine (unhide H1).mono ?_
    rintro e w1 ⟨rfl, rfl⟩
    go_wp2
    refine bodyPost_ret (rec_results Tryz.results97 _ w.heap.size (.int .i64 0) (.string ⟨#[]⟩) ?_ ?_ rfl rfl _ rfl) rfl ⟨rfl, ?_⟩
    · rw [cell_of_row _ _ _ _ _ _ (unhide HL)]; rfl
    · rw [cell_of_row _ _ _ _ _ _ (unhide HL)]; rfl
    · exact unhide FB
  · have g2 : decide ((4096 : Int) < (num l : Int)) = false := by simp; omega
    obtain ⟨K, hK⟩ : ∃ K, K = 8 + num l := ⟨_, rfl⟩
    have hK1 : (8 : Int) + (num l : Int) = (K : Int) := by omega
    obtain ⟨M, hM⟩ : ∃ M, M = num l + 12 := ⟨_, rfl⟩
    have hM1 : (K : Int) + 4 = (M : Int) := by omega
    by_cases h2 : n < num l + 12
    · have e1 : firstE l = 7 := by rw [hE, if_neg h1, if_pos h2]
      have e2 : firstQ l = rec0 := by unfold firstQ; rw [if_neg (by rw [e1]; decide)]
      have e3 : firstN l = 0 := by unfold firstN; rw [if_neg (by rw [e1]; decide)]
      rw [e1, e2, e3]
      have g3 : decide ((n : Int) < (M : Int)) = true := by simp; omega
      clear hE e1 e2 e3
      generalize num l = m at *
      clear hK hM
      go_enter Tryz.func97, Tryz.ntmps97
      go_wp2_with fail
      refine (unhide H1).mono ?_
      rintro e w1 ⟨rfl, rfl⟩
      go_wp2
      refine bodyPost_ret (rec_results Tryz.results97 _ w.heap.size (.int .i64 0) (.string ⟨#[]⟩) ?_ ?_ rfl rfl _ rfl) rfl ⟨rfl, ?_⟩
      · rw [cell_of_row _ _ _ _ _ _ (unhide HL)]; rfl
      · rw [cell_of_row _ _ _ _ _ _ (unhide HL)]; rfl
      · exact unhide FB
    · have g3 : decide ((n : Int) < (M : Int)) = false := by simp; omega
      have g4 : (M : Int) ≤ (cap : Int) := by omega
      have H2 : Hid (∀ W, Below w.heap.size w W → Calls Tryz.prog 105 #[.slice (some ⟨b, o, none⟩) M cap] W fun e w' => e = .returned (.bool (rightL (l.take M))) ∧ Below W.heap.size W w') := fun W f =>
        sRight_any W _ M cap (l.take M) ((unhide HT).below f) (by omega) hcap (by omega) ⟨by simp; omega, .inr ⟨b, o, rfl, bytes_take ((unhide HB).below f) _⟩⟩
      rw [← hM] at hE
      have H2' := hide (unhide H2 _ (unhide FB))
      cases hr : rightL (l.take M) with
      | false =>
        have e1 : firstE l = 30 := by rw [hE, if_neg h1, if_neg (by omega), if_neg (by rw [hr]; decide)]
        have e2 : firstQ l = rec0 := by unfold firstQ; rw [if_neg (by rw [e1]; decide)]
        have e3 : firstN l = 0 := by unfold firstN; rw [if_neg (by rw [e1]; decide)]
        rw [e1, e2, e3]
        rw [hr] at H2'
        clear hE e1 e2 e3 hM hr hK H2
        generalize num l = m at *
        go_enter Tryz.func97, Tryz.ntmps97
        go_wp2_with fail
        refine (unhide H1).mono ?_
        rintro e w1 ⟨rfl, rfl⟩
        go_wp2_with fail
        refine (unhide H2').mono ?_
        rintro e w2 ⟨rfl, f2⟩
        have hW2 : w2.heap[w.heap.size]? = some (.cells #[.int .i64 0, .string ⟨#[]⟩] 85) := (f2.block _ (lt_of_heap (unhide HL))).trans (unhide HL)
        have F2 : Hid (Below w.heap.size w w2) := (unhide FB).trans (f2.mono (unhide FB).size)
        have hc0 : w2.cell? ⟨w.heap.size, 0, none⟩ = some (.int .i64 0) := by rw [cell_of_row _ _ _ _ _ _ hW2]; rfl
        have hc1 : w2.cell? ⟨w.heap.size, 1, none⟩ = some (.string ⟨#[]⟩) := by rw [cell_of_row _ _ _ _ _ _ hW2]; rfl
        have hf0 : w2.frozen? ⟨w.heap.size, 0, none⟩ = false := frozen_of_row _ _ _ _ _ hW2
        have hf1 : w2.frozen? ⟨w.heap.size, 1, none⟩ = false := frozen_of_row _ _ _ _ _ hW2
        have HW2 := hide hW2
        clear f2 hW2 H1 H2'
        go_wp2
        refine bodyPost_ret (rec_results Tryz.results97 _ w.heap.size (.int .i64 0) (.string ⟨#[]⟩) ?_ ?_ rfl rfl _ rfl) rfl ⟨rfl, ?_⟩
        · exact (rec_set _ _ (unhide HW2)).1
        · exact (rec_set _ _ (unhide HW2)).2
        · exact rec_below _ _ (unhide F2) (Nat.le_refl _)
      | true =>
        have e1 : firstE l = 0 := by rw [hE, if_neg h1, if_neg (by omega), if_pos hr]
        have e2 : firstQ l = firstR l := by unfold firstQ; rw [if_pos e1]
        have e3 : firstN l = M := by unfold firstN; rw [if_pos e1, hM]
        rw [e1, e2, e3]
        rw [hr] at H2'
        have hR : recV (firstR l) = .agg #[.int .i64 (num (l.drop 4) : Int), .string ⟨((l.drop 8).take (num l)).toArray⟩] := rfl
        rw [hR]
        have hK2 : IntKind.i64.wrap (K : Int) = (K : Int) := by rw [IntKind.wrap_i64]; omega
        have hK3 : K - 8 = num l := by omega
        have hK4 : (8 : Int) ≤ (K : Int) := by omega
        have hK5 : (K : Int) ≤ (cap : Int) := by omega
        have hM2 : IntKind.i64.wrap (M : Int) = (M : Int) := by rw [IntKind.wrap_i64]; omega
        have g6 : ¬ cap = 4 := by omega
        have g7 : ¬ cap = 8 := by omega
        have g8 : (8 : Int) ≤ (cap : Int) := by omega
        have HCV : Hid (∀ W, Below w.heap.size w W → (convert 43 9 (.slice (some ⟨b, o + 8, none⟩) (num l) (cap - 8))).run Tryz.prog W = .ok (.string ⟨((l.drop 8).take (num l)).toArray⟩) W) := fun W f => conv_piece W b o (cap - 8) l 8 (num l) (by omega) ((unhide HB).below f)
        have H3 : Hid (∀ W, Below w.heap.size w W → Calls Tryz.prog 104 #[.slice (some ⟨b, o + 4, none⟩) 4 (cap - 4)] W fun e w' => e = .returned (.int .i64 (num (l.drop 4) : Int)) ∧ w' = W) := fun W f => by
          have := merged_at W b (o + 4) (cap - 4) ((l.drop 4).take 4) (by rw [List.length_take, List.length_drop]; omega) (bytes_take (bytes_drop ((unhide HB).below f) 4) 4)
          rw [num_take _ 4 (Nat.le_refl _)] at this
          exact this
        clear hE e1 e2 e3 hM hr hR hK H2
        generalize hs : (⟨((l.drop 8).take (num l)).toArray⟩ : ByteArray) = st at *
        clear hs
        generalize num (l.drop 4) = ep at *
        generalize num l = m at *
        go_enter Tryz.func97, Tryz.ntmps97
        go_wp2_with fail
        refine (unhide H1).mono ?_
        rintro e w1 ⟨rfl, rfl⟩
        go_wp2_with fail
        refine (unhide H2').mono ?_
        rintro e w2 ⟨rfl, f2⟩
        have hW2 : w2.heap[w.heap.size]? = some (.cells #[.int .i64 0, .string ⟨#[]⟩] 85) := (f2.block _ (lt_of_heap (unhide HL))).trans (unhide HL)
        have f2' : Below w.heap.size w w2 := (unhide FB).trans (f2.mono (unhide FB).size)
        have F2 := hide f2'
        have hc0 : w2.cell? ⟨w.heap.size, 0, none⟩ = some (.int .i64 0) := by rw [cell_of_row _ _ _ _ _ _ hW2]; rfl
        have hc1 : w2.cell? ⟨w.heap.size, 1, none⟩ = some (.string ⟨#[]⟩) := by rw [cell_of_row _ _ _ _ _ _ hW2]; rfl
        have hf0 : w2.frozen? ⟨w.heap.size, 0, none⟩ = false := frozen_of_row _ _ _ _ _ hW2
        have hf1 : w2.frozen? ⟨w.heap.size, 1, none⟩ = false := frozen_of_row _ _ _ _ _ hW2
        have v1 := unhide HCV w2 f2'
        have v2 := unhide HCV w2.drew f2'.drew
        have v3 := fun (k : Nat) => unhide HCV (w2.drewN k) (below_drewN f2' k)
        have v4 := fun (k : Nat) => unhide HCV (w2.drewN k).drew (below_drewN f2' k).drew
        have HW2 := hide hW2
        clear f2 f2' hW2 H1 H2'
        go_wp2_with fail
        go_region_held (fun _ => True) (trivial)
          (first
            | (go_at_call 104; refine (unhide H3 _ (by repeat (first | exact unhide F2 | refine Below.drew ?_))).mono ?_; rintro e w3 ⟨rfl, rfl⟩))
        all_goals clear v1 v2 v3 v4 hc0 hc1 hf0 hf1
        all_goals go_wp2
        all_goals refine bodyPost_ret (rec_results Tryz.results97 _ w.heap.size (.int .i64 (ep : Int)) (.string st) ?_ ?_ rfl rfl _ rfl) rfl ⟨rfl, ?_⟩
        all_goals first
          | exact (rec_set _ _ (unhide HW2)).1
          | exact (rec_set _ _ (unhide HW2)).2
          | exact (rec_set _ _ (W := w2.drew) (unhide HW2)).1
          | exact (rec_set _ _ (W := w2.drew) (unhide HW2)).2
          | exact rec_below _ _ (unhide F2) (Nat.le_refl _)
          | exact rec_below _ _ (unhide F2).drew (Nat.le_refl _)

theorem fFirst_any (w : World) (a : Option Addr) (n cap : Nat) (l : List UInt8) (hT : Tab w) (hc : n ≤ cap) (hcap : cap ≤ 9223372036854775807) (hs : n ≤ 1000000) (h : Bs w a n l) :
    Calls Tryz.prog 97 #[.slice a n cap] w fun e w' => e = .returned (.tuple #[recV (firstQ l), .int .i64 (firstN l : Int), .int .i64 (firstE l)]) ∧ Below w.heap.size w w' := by
  have hn := h.1
  by_cases h8 : n < 8
  · have e1 : firstE l = 7 := by unfold firstE; rw [if_pos (by omega)]
    have e2 : firstQ l = rec0 := by unfold firstQ; rw [if_neg (by rw [e1]; decide)]
    have e3 : firstN l = 0 := by unfold firstN; rw [if_neg (by rw [e1]; decide)]
    rw [e1, e2, e3]
    exact fFirst_short w a n cap h8
  · rcases h.2 with h0 | ⟨b, o, rfl, hb⟩
    · omega
    · exact fFirst_at w b o n cap l hT hn (by omega) hc hcap hs hb

end Go.Proofs.YtfggahkimconfaaGreatDoor

/- The program's own Write. -/
namespace Go.Proofs.YtfggahkimconfaaGreatDoor
open Go.RowKit
set_option linter.unusedVariables false


/-- A string's bytes, in a place of their own. -/
theorem str_bytes (l : List UInt8) : ∃ (cc : World → Nat) (cw : World → World), (∀ W, (convert 9 43 (.string ⟨l.toArray⟩)).run Tryz.prog W = .ok (.slice (some ⟨W.heap.size, 0, none⟩) l.length (cc W)) (cw W)) ∧
    (∀ W, BytesAt (cw W) (some ⟨W.heap.size, 0, none⟩) l) ∧ (∀ W, Below W.heap.size W (cw W)) := by
  have hsz : ((⟨l.toArray⟩ : ByteArray)).size = l.length := by simp [ByteArray.size]
  refine ⟨fun W => grownCap W l.length 0 5, fun W => W.drew.alloc (.cells (bytesRow ⟨l.toArray⟩ (grownCap W l.length 0 5)) 5 ((bytesRow ⟨l.toArray⟩ (grownCap W l.length 0 5)).size, (bytesRow ⟨l.toArray⟩ (grownCap W l.length 0 5)).size + 1)), fun W => ?_, fun W => ?_, fun W => ?_⟩
  · have := run_bytes_of_string (P := Tryz.prog) W 9 43 5 ⟨l.toArray⟩ Tryz.underlying9 Tryz.underlying43 Tryz.underlying5
    rw [hsz] at this
    exact this
  · refine ⟨(fun e => by cases e), fun ad e j u hu => ?_⟩
    injection e with e
    subst e
    have hj := (List.getElem?_eq_some_iff.1 hu).1
    rw [bv_length] at hj
    rw [Addr.add_mid, Nat.zero_add]
    have h1 := World.cell?_alloc_mark W.drew (bytesRow ⟨l.toArray⟩ (grownCap W l.length 0 5)) 5 ((bytesRow ⟨l.toArray⟩ (grownCap W l.length 0 5)).size, (bytesRow ⟨l.toArray⟩ (grownCap W l.length 0 5)).size + 1) j
    refine h1.trans ?_
    rw [bytesRow_at _ _ j (by simpa using hj), ← hu]
    simp [bv, hj]
  · exact (Below.refl _ W).drew.alloc (Nat.le_refl _) _

theorem fsplit_at (W : World) (n : Nat) (hn : n < W32) :
    Calls Tryz.prog 102 #[.int .i64 (n : Int)] W fun e w' => ∃ q, e = .returned (.slice (some ⟨q, 0, none⟩) 4 4) ∧ BytesAt w' (some ⟨q, 0, none⟩) (be4 n) ∧ Below W.heap.size W w' := by
  refine (fsplit_any W n hn).mono ?_
  rintro e w' ⟨rfl, rfl⟩
  exact ⟨W.heap.size, rfl, bytes_of_block (heap_alloc_last W _), (Below.refl _ _).alloc (Nat.le_refl _) _⟩

theorem joined3 (w1 V : World) (N : Nat) (ad1 ad2 ad3 : Addr) (c1 c2 c3 n3 : Nat) (l1 l2 l3 : List UInt8) (hl1 : l1.length = 4) (hl2 : l2.length = 4) (hl3 : l3.length = n3) (hm : n3 ≤ 4096)
    (hN : V.heap[N]? = some (.cells #[.slice (some ad1) 4 c1, .slice (some ad2) 4 c2, .slice (some ad3) n3 c3] 43)) (h1 : BytesAt V (some ad1) l1) (h2 : BytesAt V (some ad2) l2) (h3 : BytesAt V (some ad3) l3) (hB : Below w1.heap.size w1 V) :
    Calls Tryz.prog 101 #[.slice (some ⟨N, 0, none⟩) 3 3] V fun e w' => ∃ g c, e = .returned (.slice (some ⟨g, 0, none⟩) (n3 + 8) c) ∧ w'.ownsRow w1.heap.size 5 1 (.slice (some ⟨g, 0, none⟩) (n3 + 8) c) (n3 + 8) (bv (l1 ++ (l2 ++ l3))) ∧ Below w1.heap.size w1 w' := by
  have hp : PartsS V N 0 [l1, l2, l3] := fun j l hj => by
    match j, hj with
    | 0, hj =>
      cases hj
      exact ⟨by omega, ad1, c1, by rw [cell_of_row _ _ _ _ _ _ hN, hl1]; rfl, h1⟩
    | 1, hj =>
      cases hj
      exact ⟨by omega, ad2, c2, by rw [cell_of_row _ _ _ _ _ _ hN, hl2]; rfl, h2⟩
    | 2, hj =>
      cases hj
      exact ⟨by omega, ad3, c3, by rw [cell_of_row _ _ _ _ _ _ hN, hl3]; rfl, h3⟩
  refine (joined_at V N 0 3 3 [l1, l2, l3] rfl (by omega) hp).mono ?_
  rintro e w' ⟨v, rfl, o, f⟩
  have hf : [l1, l2, l3].flatten = l1 ++ (l2 ++ l3) := by simp
  have hfl : [l1, l2, l3].flatten.length = n3 + 8 := by rw [hf]; simp; omega
  rw [hfl, hf] at o
  obtain ⟨g, c, rfl, _, _⟩ := o.form (by omega)
  exact ⟨g, c, rfl, own_base o hB.size, bT f hB⟩

set_option maxHeartbeats 1600000 in
theorem fWrite_ok (w : World) (r : Rec) (hT : Tab w) (h : recOk r) :
    Calls Tryz.prog 96 #[recV r] w fun e w' => ∃ v, e = .returned (.tuple #[v, .int .i64 0]) ∧ w'.ownsRow w.heap.size 5 1 v (r.data.length + 12) (bv (recL r)) ∧ Below w.heap.size w w' := by
  obtain ⟨ep, hep⟩ : ∃ ep : Nat, r.epoch = ep := ⟨r.epoch.toNat, by have := h.1; omega⟩
  have he := h.2.1
  have hl := h.2.2
  have hbody : bodyL r = be4 r.data.length ++ (be4 ep ++ r.data) := by unfold bodyL; rw [hep]; rfl
  have hrec : recL r = sealL (bodyL r) := rfl
  have H1 := hide (refusal_any (w.alloc (.cells #[.int .i64 r.epoch, .string ⟨r.data.toArray⟩] 85)) r)
  rw [writeE_ok.2 h] at H1
  unfold recV at H1 ⊢
  rw [hrec, hbody, hep]
  rw [hep] at he H1
  generalize r.data = d at *
  clear hep hbody hrec h
  have hd : ((⟨d.toArray⟩ : ByteArray)).size = d.length := by simp [ByteArray.size]
  have hA := heap_alloc_last w (.cells #[.int .i64 (ep : Int), .string ⟨d.toArray⟩] 85)
  have fb : Below w.heap.size w (w.alloc (.cells #[.int .i64 (ep : Int), .string ⟨d.toArray⟩] 85)) := (Below.refl _ _).alloc (Nat.le_refl _) _
  have HA := hide hA
  have FB := hide fb
  have HT := hide hT
  clear hA fb hT
  go_enter Tryz.func96, Tryz.ntmps96
  go_wp2_with fail
  refine (unhide H1).mono ?_
  rintro e w1 ⟨rfl, f1⟩
  have hA1 := (f1.block _ (lt_of_heap (unhide HA))).trans (unhide HA)
  have F1 := hide ((unhide FB).trans (f1.mono (unhide FB).size))
  have cells : ∀ W, Below w1.heap.size w1 W → W.cell? ⟨w.heap.size, 0, none⟩ = some (.int .i64 (ep : Int)) ∧ W.cell? ⟨w.heap.size, 1, none⟩ = some (.string ⟨d.toArray⟩) := fun W f => by
    have hW := (f.block w.heap.size (lt_of_heap hA1)).trans hA1
    exact ⟨by rw [cell_of_row _ _ _ _ _ _ hW]; rfl, by rw [cell_of_row _ _ _ _ _ _ hW]; rfl⟩
  have HC := hide cells
  have k1 := (cells w1 (Below.refl _ _)).1
  have k2 := (cells w1 (Below.refl _ _)).2
  clear cells f1 hA1 H1
  obtain ⟨cc, cw, kc, hcw, hcb⟩ := str_bytes d
  have HCW := hide hcw
  have HCB := hide hcb
  have S1 := hide (fun (W : World) => fsplit_at W d.length (by show _ < 4294967296; omega))
  have S2 := hide (fun (W : World) => fsplit_at W ep (by show _ < 4294967296; omega))
  clear hcw hcb
  go_upto_region 4 with fail
  go_region_held_law (fun W => W.cell? ⟨w.heap.size, 0, none⟩ = some (.int .i64 (ep : Int)) ∧ W.cell? ⟨w.heap.size, 1, none⟩ = some (.string ⟨d.toArray⟩)) (exact unhide HC _ (by repeat (first | exact f6 | exact Below.refl _ _ | refine Below.drew ?_ | refine bA ?_ _ | refine bT (unhide HCB _) ?_ | refine bT b4 ?_ | refine bT b3 ?_)))
    (first
      | (have ox := b4; clear ox; go_at_call 101; refine (joined3 w1 _ _ _ _ _ _ _ _ _ (be4 d.length) (be4 ep) d rfl rfl rfl hl (by exact heap_alloc_last _ _) (p3.below (by repeat (first | exact Below.refl _ _ | refine Below.drew ?_ | refine bA ?_ _ | refine bT (unhide HCB _) ?_ | refine bT b4 ?_ | refine bT b3 ?_))) (p4.below (by repeat (first | exact Below.refl _ _ | refine Below.drew ?_ | refine bA ?_ _ | refine bT (unhide HCB _) ?_ | refine bT b4 ?_ | refine bT b3 ?_))) (by first | exact (unhide HCW w4).below (by repeat (first | exact Below.refl _ _ | refine Below.drew ?_ | refine bA ?_ _ | refine bT (unhide HCB _) ?_ | refine bT b4 ?_ | refine bT b3 ?_)) | exact (unhide HCW w3).below (by repeat (first | exact Below.refl _ _ | refine Below.drew ?_ | refine bA ?_ _ | refine bT (unhide HCB _) ?_ | refine bT b4 ?_ | refine bT b3 ?_)) | exact (unhide HCW w1.drew).below (by repeat (first | exact Below.refl _ _ | refine Below.drew ?_ | refine bA ?_ _ | refine bT (unhide HCB _) ?_ | refine bT b4 ?_ | refine bT b3 ?_))) (by repeat (first | exact Below.refl _ _ | refine Below.drew ?_ | refine bA ?_ _ | refine bT (unhide HCB _) ?_ | refine bT b4 ?_ | refine bT b3 ?_))).mono ?_; rintro e w6 ⟨g6, c6, rfl, o6, f6⟩)
      | (have fx := b3; clear fx; go_at_call 102; refine (unhide S2 _).mono ?_; rintro e w4 ⟨q4, rfl, p4, b4⟩)
      | (go_at_call 102; refine (unhide S1 _).mono ?_; rintro e w3 ⟨q3, rfl, p3, b3⟩))
  all_goals
    have H7 := hide (sSeal_any w6 (some ⟨g6, 0, none⟩) (d.length + 8) c6 (be4 d.length ++ (be4 ep ++ d)) ((unhide HT).below (bT f6 (unhide F1))) (by omega) (fun e => by cases e) (bs_of_own (by simp [be4_len]; omega) o6))
    have F6 := hide (bT f6 (unhide F1))
    clear o6 f6 b3 b4 p3 p4 kc HCW HCB S1 S2 HC k1 k2
    go_simp
    go_wp2_with fail
    refine (unhide H7).mono ?_
    rintro e w8 ⟨v8, rfl, o8, f8⟩
    have O8 := hide (own_base o8 (unhide F6).size)
    have F8 := hide (bT f8 (unhide F6))
    clear o8 f8 H7 F6
    go_wp2
    go_ret2
    exact ⟨v8, rfl, unhide O8, unhide F8⟩

set_option maxHeartbeats 800000 in
theorem fWrite_bad (w : World) (r : Rec) (h : ¬ writeE r = 0) :
    Calls Tryz.prog 96 #[recV r] w fun e w' => e = .returned (.tuple #[.slice none 0 0, .int .i64 (writeE r)]) ∧ Below w.heap.size w w' := by
  have hb : Below w.heap.size w (w.alloc (.cells #[.int .i64 r.epoch, .string ⟨r.data.toArray⟩] 85)) := (Below.refl _ _).alloc (Nat.le_refl _) _
  have H1 := hide (refusal_any (w.alloc (.cells #[.int .i64 r.epoch, .string ⟨r.data.toArray⟩] 85)) r)
  have FB := hide hb
  clear hb
  unfold recV at H1 ⊢
  generalize (⟨r.data.toArray⟩ : ByteArray) = st at *
  generalize r.epoch = ep at *
  generalize writeE r = we at *
  go_enter Tryz.func96, Tryz.ntmps96
  go_wp2_with fail
  refine (unhide H1).mono ?_
  rintro e w1 ⟨rfl, f1⟩
  have F1 := hide (bT f1 (unhide FB))
  clear f1 H1
  go_wp2
  go_ret2
  exact ⟨rfl, unhide F1⟩

theorem fWrite_any (w : World) (r : Rec) (hT : Tab w) :
    Calls Tryz.prog 96 #[recV r] w fun e w' => ∃ v, e = .returned (.tuple #[v, .int .i64 (writeE r)]) ∧ w'.ownsRow w.heap.size 5 1 v (writeL r).length (bv (writeL r)) ∧ Below w.heap.size w w' := by
  by_cases h : writeE r = 0
  · have hl : (writeL r).length = r.data.length + 12 := by unfold writeL; rw [if_pos h, rec_len]
    rw [hl]
    unfold writeL
    rw [if_pos h, h]
    exact fWrite_ok w r hT (writeE_ok.1 h)
  · refine (fWrite_bad w r h).mono ?_
    rintro e w' ⟨rfl, f⟩
    refine ⟨_, rfl, ?_, f⟩
    unfold writeL
    rw [if_neg h]
    exact World.ownsRow_nil _ _ _ _

end Go.Proofs.YtfggahkimconfaaGreatDoor
