/- What the walks of stage 3's laws ask of the program's frames, whatever its inner functions are; an append behind which the old slice is still read. -/
import Derived.Test.YtnkmcndbbapeoaaDoorFrB
import Derived.ArgAppend
namespace Go.Proofs.YtnkmcndbbapeoaaDoor
open Go.RowKit
set_option linter.unusedVariables false
set_option maxRecDepth 100000

theorem below_cells {B : Nat} {a : World} (b : Nat) (hb : B ≤ b) : ∀ (vs : List Value) (o : Nat) (w : World), Below B a w → Below B a (w.setCells b o vs)
  | [], _, _, h => h
  | v :: vs, o, w, h => below_cells b hb vs (o + 1) _ (h.setCell (p := ⟨b, o, none⟩) hb v)

/-- What comes of bytes of one's own by append, the elder slice beside it. -/
theorem append_both {w : World} {ops : Array Oper} {rest : List Oper} {o : Oper} {a : Act} {Q : Exit → Act → World → Prop} (hgd : o.guard = none) (s x : Operand)
    (ho : o.op = .call { callee := .builtin .append, args := #[s, x], argTypes := #[25, 25] }) (w0 : World) (g n c : Nat) (l : List UInt8)
    (hs : a.eval s = .slice (some ⟨g, 0, none⟩) n c) (hown : w.ownsRow w0.heap.size 5 1 (.slice (some ⟨g, 0, none⟩) n c) n (bv l)) (f : Below w0.heap.size w0 w)
    (ad : Addr) (m c' : Nat) (nw : List UInt8) (hx : a.eval x = .slice (some ad) m c') (hn : nw.length = m) (hsrc : ∀ j u, (bv nw)[j]? = some u → w.cell? (ad.add j) = some u) (hmax : n + m ≤ 1000000)
    (h : ∀ a1 c1 w', Arg w' a1 (n + m) c1 (l ++ nw) → BytesAt w' (some ⟨g, 0, none⟩) l → Below w0.heap.size w0 w' → wpList Tryd.prog ops Q rest (a.put o.dst (.slice a1 (n + m) c1)) w') : wpList Tryd.prog ops Q (o :: rest) a w := by
  obtain ⟨i0, hi, hz0, hz1, hz2⟩ := info_parts infoB
  have hl : l.length = n := by have := hown.1; rw [bv_length] at this; omega
  have hcells := hown.cells (g := g) rfl
  have hold : ∀ j u, (bv l)[j]? = some u → w.cell? ⟨g, 0 + j, none⟩ = some u := fun j u hu => by
    have := hcells j u hu
    rw [Addr.add_mid] at this
    exact this
  rcases hown.2 with ⟨e1, _⟩ | ⟨q, cap, cur, e1, hq, hblk, k1, k2, k3, k4⟩
  · cases e1
  injection e1 with e2 _ e3
  injection e2 with e2
  injection e2 with e2
  subst e2
  subst e3
  have hspare : ∀ j, n + j < c → (w.cell? ⟨g, 0 + n * 1 + j, none⟩).isSome = true ∧ w.frozen? ⟨g, 0 + n * 1 + j, none⟩ = false := fun j hj => by
    refine ⟨?_, frozen_of_row _ _ _ _ _ hblk⟩
    rw [cell_of_row _ _ _ _ _ _ hblk, Array.getElem?_eq_getElem (by omega)]
    rfl
  have hnl : (bv nw).length = m := by rw [bv_length, hn]
  unfold maxLen at k2
  refine wpList_append_arg w hgd s x 25 ho 5 i0 (.int .u8 0) 1 1 Tryd.underlying25 hi hz0 hz1 hz2 rfl (by decide) g 0 n c (bv l) hs (by rw [bv_length]; omega) hold ad m c' (bv nw) hx (by rw [hnl]; omega) hsrc (bv_one _) (fun hr j hj => hspare j (by omega)) (by unfold maxLen; omega) (by omega) ?_ ?_
  · intro hr
    have hout : ∀ j u, (bv l)[j]? = some u → (w.setCells g (0 + n * 1) (bv nw)).cell? ⟨g, 0 + j, none⟩ = some u := fun j u hu => by
      have hj := (List.getElem?_eq_some_iff.1 hu).1
      rw [bv_length] at hj
      rw [World.cell?_setCells_out _ _ _ _ _ (fun _ _ => .inl (by show 0 + j < 0 + n * 1; omega))]
      exact hold j u hu
    have hin := World.cell?_setCells_in g (bv nw) (0 + n * 1) w (fun j hj => (hspare j (by omega)).1)
    have hB : BytesAt (w.setCells g (0 + n * 1) (bv nw)) (some ⟨g, 0, none⟩) l := ⟨(fun e => by cases e), fun ad e j u hu => by
      injection e with e
      subst e
      rw [Addr.add_mid]
      exact hout j u hu⟩
    refine h _ _ _ ⟨⟨by rw [List.length_append]; omega, .inr ⟨g, 0, rfl, ⟨(fun e => by cases e), fun ad e j u hu => ?_⟩⟩⟩, hr, by omega, fun e => by cases e⟩ hB (below_cells g hq _ _ _ f)
    injection e with e
    subst e
    rw [Addr.add_mid]
    rw [bv_append] at hu
    by_cases hj : j < (bv l).length
    · rw [List.getElem?_append_left hj] at hu
      exact hout j u hu
    · rw [List.getElem?_append_right (by omega)] at hu
      rw [bv_length] at hj hu
      have hj2 := (List.getElem?_eq_some_iff.1 hu).1
      rw [show 0 + j = 0 + n * 1 + (j - l.length) by omega, hin (j - l.length) hj2, ← hu, List.getElem?_eq_getElem]
  · intro hr v' w' ho' hg'
    have fb : Below w.heap.size w w' := (Below.refl _ _).grown hg' (Nat.le_refl _) (fun k hk => by cases hk)
    rw [← bv_append] at ho'
    obtain ⟨a1, c1, rfl, _⟩ := own_form ho'
    exact h _ _ _ (arg_of_own (by rw [List.length_append]; omega) ho') (BytesAt.below ⟨(fun e => by cases e), fun ad e j u hu => by
      injection e with e
      subst e
      exact hcells j u hu⟩ fb) (f.trans (fb.mono f.size))

/-- A record that came in. -/
def recFit (r : Rec) : Prop := -9223372036854775808 ≤ r.epoch ∧ r.epoch ≤ 9223372036854775807 ∧ r.data.length ≤ 140737488355328

/-- The contracts of Write, First, Scan, All and Size; T: what of memory the program's tables need. -/
structure Frames (T : World → Prop) : Prop where
  below : ∀ (w w' : World), T w → Below w.heap.size w w' → T w'
  write : ∀ (w : World) (r : Rec), T w → recFit r →
    Calls Tryd.prog 11 #[recV r] w fun e w' => ∃ v, e = .returned (.tuple #[v, .int .i64 (writeE r)]) ∧ w'.ownsRow w.heap.size 5 1 v (writeL r).length (bv (writeL r)) ∧ Below w.heap.size w w'
  first : ∀ (w : World) (a : Option Addr) (n cap : Nat) (l : List UInt8), T w → Arg w a n cap l → n ≤ 20000 →
    Calls Tryd.prog 17 #[.slice a n cap] w fun e w' => e = .returned (.tuple #[recV (firstQ l), .int .i64 (firstN l : Int), .int .i64 (firstE l)]) ∧ Below w.heap.size w w'
  scan : ∀ (w : World) (a : Option Addr) (n cap : Nat) (l : List UInt8), T w → Arg w a n cap l → n ≤ 20000 →
    Calls Tryd.prog 19 #[.slice a n cap] w fun e w' => ∃ v, e = .returned (.tuple #[v, .int .i64 ((scanL l 0).2 : Int)]) ∧ w'.ownsRow w.heap.size 24 2 v (scanL l 0).1.length (rv (scanL l 0).1) ∧ Below w.heap.size w w'
  all : ∀ (w : World) (a : Option Addr) (n cap : Nat) (rs : List Rec), T w → Rs w a n rs → (∀ r ∈ rs, recFit r) → n ≤ 1000 →
    Calls Tryd.prog 8 #[.slice a n cap] w fun e w' => ∃ v, e = .returned (.tuple #[v, .int .i64 (allErr rs)]) ∧ w'.ownsRow w.heap.size 5 1 v (allB rs).length (bv (allB rs)) ∧ Below w.heap.size w w'
  size : ∀ (w : World) (r : Rec), T w → recFit r →
    Calls Tryd.prog 13 #[recV r] w fun e w' => e = .returned (.int .i64 ((writeL r).length : Int)) ∧ Below w.heap.size w w'

def recAB : Rec := ⟨1, [97, 98]⟩
theorem recAB_ok : recOk recAB := ⟨by decide, by decide, by decide⟩
theorem recAB_fit : recFit recAB := ⟨by decide, by decide, by decide⟩
theorem recAB_len : (writeL recAB).length = 14 := by rw [writeL_ok (writeE_ok.2 recAB_ok), rec_len]; rfl
theorem recAB_head : (writeL recAB).take 10 = [0, 0, 0, 2, 0, 0, 0, 1, 97, 98] := by rw [writeL_ok (writeE_ok.2 recAB_ok)]; decide +kernel
theorem recAB_scan : scanL (writeL recAB ++ [0]) 0 = ([recAB], 14) := by
  rw [writeL_ok (writeE_ok.2 recAB_ok)]
  have h := scan_all [recAB] 0 [0] ⟨recAB_ok, by decide, trivial⟩
  have e : allL [recAB] = recL recAB := by simp [allL]
  rw [e] at h
  have e2 : scanL [0] (([recAB].getLast?.map Rec.epoch).getD 0) = ([], 0) := scan_no (by rintro ⟨h, _⟩; exact absurd h (by decide))
  rw [h, e2, rec_len]
  rfl

set_option maxHeartbeats 1600000 in
theorem works3_any {T : World → Prop} (F : Frames T) (w : World) (hT : T w) :
    Calls Tryd.prog 14 #[] w fun e w' => e = .returned (.bool true) ∧ Below w.heap.size w w' := by
  have H1 := F.write w recAB hT recAB_fit
  rw [recAB_len, writeE_ok.2 recAB_ok] at H1
  have H1 := hide H1
  go_enter Tryd.func14, Tryd.ntmps14
  go_wp2_with fail
  refine (unhide H1).mono ?_
  rintro e w1 ⟨v1, rfl, o1, f1⟩
  obtain ⟨g1, c1, rfl, _, _⟩ := o1.form (by omega)
  have hcap := own_cap o1
  have b2 : Below w1.heap.size w1 (w1.alloc (.cells #[.int .u8 0] 5)) := (Below.refl _ _).alloc (Nat.le_refl _) _
  have o2 := own_below o1 b2
  have f2 := f1.trans (b2.mono f1.size)
  have hsrc : ∀ j u, (bv [0])[j]? = some u → (w1.alloc (.cells #[.int .u8 0] 5)).cell? (Addr.add ⟨w1.heap.size, 0, none⟩ j) = some u := World.news_of_block (heap_alloc_last w1 (.cells (bv [0]).toArray 5))
  clear b2 f1 o1 H1
  go_wp2_with (at_builtin; refine append_both rfl (.tmp 11) (.tmp 12) rfl w g1 14 c1 (writeL recAB) rfl o2 f2 ⟨w1.heap.size, 0, none⟩ 1 1 [0] rfl rfl hsrc (by omega) ?_)
  intro a3 c3 w3 A3 B3 f3
  have H4 := F.scan w3 a3 (14 + 1) c3 _ (F.below _ _ hT f3) A3 (by omega)
  rw [recAB_scan] at H4
  have H4 := hide H4
  have BB3 := hide B3
  have F3 := hide f3
  clear A3 B3 f3 o2 f2 hsrc
  go_wp2_with fail
  refine (unhide H4).mono ?_
  rintro e w5 ⟨v5, rfl, o5, f5⟩
  have f5w : Below w.heap.size w w5 := (unhide F3).trans (f5.mono (unhide F3).size)
  obtain ⟨g5, c5, rfl, _, _⟩ := World.ownsRow.form o5 (by simp)
  have hcv := conv_bytes w5 (some ⟨g1, 0, none⟩) ((writeL recAB).take 10) c1 (bytes_take ((unhide BB3).below f5) 10)
  rw [recAB_head] at hcv
  have hcv : (convert 25 9 (.slice (some ⟨g1, 0, none⟩) 10 c1)).run Tryd.prog w5 = .ok (.string ⟨#[0, 0, 0, 2, 0, 0, 0, 1, 97, 98]⟩) w5 := hcv
  have hc5 := o5.cells (g := g5) rfl
  have r0 := hc5 0 (.int .i64 1) rfl
  have r1 := hc5 1 (.string ⟨#[97, 98]⟩) rfl
  rw [Addr.add_mid] at r0 r1
  have k1 : (10 : Int) ≤ (c1 : Int) := by omega
  have k2 : ¬ c1 = 0 := by omega
  have F5 := hide f5w
  clear o5 f5 f5w H4 hc5 hcap
  go_wp2
  go_ret
  exact ⟨rfl, unhide F5⟩

end Go.Proofs.YtnkmcndbbapeoaaDoor
