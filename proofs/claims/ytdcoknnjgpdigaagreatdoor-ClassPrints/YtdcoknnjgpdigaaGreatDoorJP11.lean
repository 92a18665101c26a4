/- Joined: WdQ WdU CkR ClE. -/
import Derived.Test.YtdcoknnjgpdigaaGreatDoorJP10
import Derived.Test.YtdcoknnjgpdigaaGreatDoorJP7
import Derived.Test.YtdcoknnjgpdigaaGreatDoorJP9
import Derived.Test.YtdcoknnjgpdigaaGreatDoorJP6
import Derived.Test.YtdcoknnjgpdigaaGreatDoorJP8

/- What the walks of stage 6's laws ask of the program's reader and writer, whatever their inner functions and their memory are. -/
namespace Go.Proofs.YtdcoknnjgpdigaaGreatDoor
open Go.RowKit
set_option linter.unusedVariables false

/-- Numbers in memory. -/
def Nums (w : World) (a : Option Addr) (n : Nat) (zs : List Int) : Prop := zs.length = n ∧ (n = 0 ∨ ∃ b o, a = some ⟨b, o, none⟩ ∧ ∀ (j : Nat) (z : Int), zs[j]? = some z → w.cell? ⟨b, o + j, none⟩ = some (.int .i64 z))
theorem Nums.below {w w' : World} {a : Option Addr} {n : Nat} {zs : List Int} (h : Nums w a n zs) (f : Below w.heap.size w w') : Nums w' a n zs := by
  rcases h with ⟨h1, h2 | ⟨b, o, e, h2⟩⟩
  · exact ⟨h1, .inl h2⟩
  · exact ⟨h1, .inr ⟨b, o, e, fun j z hz => by
      have h3 := h2 j z hz
      exact (f.cell (World.block_lt_of_cell? w _ h3)).trans h3⟩⟩
theorem Nums.lt {w : World} {a : Option Addr} {n : Nat} {zs : List Int} (h : Nums w a n zs) {b o : Nat} (e : a = some ⟨b, o, none⟩) (hn : 0 < n) : b < w.heap.size := by
  obtain ⟨b', o', e', hc⟩ := h.2.resolve_left (by omega)
  have hl := h.1
  rw [e] at e'
  injection e' with e'
  injection e' with e1 e2
  subst e1
  exact World.block_lt_of_cell? w _ (hc 0 _ (List.getElem?_eq_getElem (by omega)))
theorem nums_one (w : World) (z : Int) : Nums (w.alloc (.cells #[.int .i64 z] 3)) (some ⟨w.heap.size, 0, none⟩) 1 [z] := by
  refine ⟨rfl, .inr ⟨_, _, rfl, fun j y hy => ?_⟩⟩
  have h := heap_alloc_last w (.cells #[.int .i64 z] 3)
  match j with
  | 0 =>
    simp at hy
    subst hy
    rw [cell_of_row _ _ _ _ _ _ h]
    rfl
  | j + 1 => simp at hy
/-- What a step on a reader or a writer (its blocks: F) may turn. -/
structure Fr6 (F : Nat → Prop) (B : Nat) (w w' : World) : Prop where
  below : Below B w w'
  other : ∀ k, k < w.heap.size → ¬ F k → w'.heap[k]? = w.heap[k]?
theorem Fr6.of_below {F : Nat → Prop} {B : Nat} {w w' : World} (f : Below w.heap.size w w') (hB : B ≤ w.heap.size) : Fr6 F B w w' := ⟨f.mono hB, fun k hk _ => f.block k hk⟩

section
variable {RD : (Nat → Prop) → World → Nat → Nat → List UInt8 → Nat → Prop} {WR : (Nat → Prop) → World → Nat → Nat → List UInt8 → Prop}
theorem Arg.len {w : World} {a : Option Addr} {n c : Nat} {bs : List UInt8} (h : Arg w a n c bs) : bs.length = n := h.bs.1

end

end Go.Proofs.YtdcoknnjgpdigaaGreatDoor

/- The document's own writing of numbers: Put. -/
namespace Go.Proofs.YtdcoknnjgpdigaaGreatDoor
open Go.RowKit
set_option linter.unusedVariables false

theorem listB_append {w : World} {ops : Array Oper} {rest : List Oper} {o : Oper} {a : Act} {Q : Exit → Act → World → Prop} (hgd : o.guard = none) (s x : Operand) (ho : o.op = .call { callee := .builtin .append, args := #[s, x], argTypes := #[29, 29] })
    (base : Nat) (v : Value) (n : Nat) (xs : List UInt8) (hs : a.eval s = v) (hown : w.ownsRow base 5 1 v n (bv xs)) (src : Option Addr) (m c : Nat) (ys : List UInt8) (hx : a.eval x = .slice src m c) (hb : Bs w src m ys) (hnil : src = none → m = 0 ∧ c = 0)
    (hsm : n + m ≤ 140737488355328) (hbase : base ≤ w.heap.size) (h : ∀ v' w', w'.ownsRow base 5 1 v' (n + m) (bv (xs ++ ys)) → w.grownBy w' v.ownBlock → wpList Tryz.prog ops Q rest (a.put o.dst v') w') : wpList Tryz.prog ops Q (o :: rest) a w :=
  wpList_plain hgd fun K hK => wpB_append s x ho base v n xs hs hown src m c ys hx hb hnil hsm hbase (fun v' w' h1 h2 => hK _ _ (h v' w' h1 h2))
theorem flat_len (k : Int) (zs : List Int) : (zs.flatMap (bytesW k)).length = zs.length * k.toNat := by
  induction zs with
  | nil => simp
  | cons z zs ih => rw [List.flatMap_cons, List.length_append, ih, bytesW_len, List.length_cons, Nat.add_mul]; omega
theorem putW_ok {bs : List UInt8} {k : Int} {sg : Bool} {zs : List Int} (hw : wide k) (h : ∀ z ∈ zs, fitsW k z sg) : putW bs k sg zs = (bs ++ zs.flatMap (bytesW k), 0) := if_pos ⟨hw, h⟩
theorem putW_no {bs : List UInt8} {k : Int} {sg : Bool} {zs : List Int} (h : ¬ (wide k ∧ ∀ z ∈ zs, fitsW k z sg)) : putW bs k sg zs = (bs, 2) := if_neg h
/-- What Put leaves. -/
def PutR (w : World) (a : Option Addr) (n c : Nat) (R : List UInt8 × Int) (e : Ending) (w' : World) : Prop :=
  ∃ a' n' c', e = .returned (.tuple #[.slice a' n' c', .int .i64 R.2]) ∧ (R.2 = 0 → w'.ownsRow w.heap.size 5 1 (.slice a' n' c') n' (bv R.1)) ∧ (R.2 ≠ 0 → a' = a ∧ n' = n ∧ c' = c) ∧ Below w.heap.size w w'
/-- Between the rounds of Put. -/
structure PU (w : World) (bs : List UInt8) (k : Int) (sg : Bool) (zs : List Int) (i : Nat) (u : Value) (wr : World) : Prop where
  own : wr.ownsRow w.heap.size 5 1 u (bs.length + i * k.toNat) (bv (bs ++ (zs.take i).flatMap (bytesW k)))
  fit : ∀ z ∈ zs.take i, fitsW k z sg
  bel : Below w.heap.size w wr
theorem PU.next {w wr w1 w2 : World} {bs : List UInt8} {k : Int} {sg : Bool} {zs : List Int} {i : Nat} {u u' : Value} {z : Int} (h : PU w bs k sg zs i u wr) (hz : zs[i]? = some z) (hf : fitsW k z sg) (f1 : Below wr.heap.size wr w1) (m : Nat) (hm : m = k.toNat) (ho : w2.ownsRow w.heap.size 5 1 u' (bs.length + i * k.toNat + m) (bv (bs ++ (zs.take i).flatMap (bytesW k) ++ bytesW k z))) (hg : w1.grownBy w2 u.ownBlock) : PU w bs k sg zs (i + 1) u' w2 := by
  have ht : zs.take (i + 1) = zs.take i ++ [z] := by rw [List.take_add_one, hz]; rfl
  refine ⟨?_, ?_, ?_⟩
  · rw [ht, List.flatMap_append, ← List.append_assoc, List.flatMap_singleton, Nat.add_mul, Nat.one_mul, ← Nat.add_assoc, ← hm]
    rw [← hm] at ho
    exact ho
  · intro y hy
    rw [ht, List.mem_append] at hy
    rcases hy with hy | hy
    · exact h.fit y hy
    · simp at hy
      subst hy
      exact hf
  · exact (h.bel.trans (f1.mono h.bel.size)).grown hg (Nat.le_trans h.bel.size f1.size) (fun x hx => (h.own.lt x hx).1)

set_option maxHeartbeats 6400000 in
set_option maxRecDepth 100000 in
theorem hPut_any (w : World) (a : Option Addr) (n c : Nat) (bs : List UInt8) (hb : Arg w a n c bs) (k : Int) (hk : -9223372036854775808 ≤ k ∧ k ≤ 9223372036854775807) (sg : Bool) (la : Option Addr) (ln lc : Nat) (zs : List Int) (hl : Nums w la ln zs) (hz : ∀ z ∈ zs, -9223372036854775808 ≤ z ∧ z ≤ 9223372036854775807) (hs : n + 8 * ln ≤ 140737488351232) :
    Calls Tryz.prog 67 #[.slice a n c, .int .i64 k, .bool sg, .slice la ln lc] w (PutR w a n c (putW bs k sg zs)) := by
  have hbl := hb.len
  have HW := hide (fun W => hwide_any W k)
  have hown : (w.alloc (.cells #[] 5)).ownsRow w.heap.size 5 1 (.slice (some ⟨w.heap.size, 0, none⟩) 0 0) 0 (bv []) := World.ownsRow_made w #[] 0 (Nat.le_refl _) (by simp) rfl
  have b0 : Below w.heap.size w (w.alloc (.cells #[] 5)) := (Below.refl _ _).alloc (Nat.le_refl _) _
  have hb0 := (hb.below b0).bs
  have hnl := hb.nil
  have HL := hide hl
  have HZ := hide hz
  have hzl := hl.1
  clear hb hl hz
  generalize hPO : PutR w a n c (putW bs k sg zs) = PO
  have HPO := hide hPO
  clear hPO
  go_enter Tryz.func67, Tryz.ntmps67
  go_wp2_with (at_builtin; refine listB_append rfl (.tmp 14) (.tmp 15) rfl w.heap.size _ 0 [] rfl hown a n c bs rfl hb0 hnl (by omega) (by simp) ?_)
  intro v1 w1 o1 g1
  have f1 : Below w.heap.size w w1 := b0.grown g1 (by simp) (fun x hx => by simp [Value.ownBlock] at hx; omega)
  have P0 : Hid (PU w bs k sg zs 0 v1 w1) := ⟨by
    rw [Nat.zero_mul, Nat.add_zero, hbl]
    simpa using o1, by simp, f1⟩
  have F1 := hide f1
  clear o1 g1 f1 hown b0 hb0
  by_cases hw : wide k
  · have hdw : decide (wide k) = true := decide_eq_true hw
    rw [hdw] at HW
    have hk8 : k.toNat ≤ 8 := by rcases hw with h | h | h | h <;> omega
    have HWD := hide hw
    have HBL := hide hbl
    have HZL := hide hzl
    clear hw hbl hzl
    go_wp2_with fail
    refine (unhide HW w1).mono ?_
    rintro e w2 ⟨rfl, rfl⟩
    clear HW F1
    go_wp2
    go_loopw [10, 11] (fun u i wr => ∃ j : Nat, j ≤ ln ∧ i = .int .i64 j ∧ PU w bs k sg zs j u wr) (fun _ i _ => ln - (intOf i).toNat)
    case atStart => exact ⟨0, by omega, rfl, unhide P0⟩
    case round =>
      obtain ⟨j, hj, rfl, hP⟩ := hrel
      clear P0
      by_cases hjl : j < ln
      · have hjl' : (j : Int) < (ln : Int) := by omega
        obtain ⟨b, o, rfl, hcz⟩ := (unhide HL).2.resolve_left (by omega)
        obtain ⟨zv, hzv⟩ : ∃ zv, zs[j]? = some zv := ⟨_, List.getElem?_eq_getElem (by have := unhide HZL; omega)⟩
        have hc0 := hcz j zv hzv
        have hcell : wr.cell? ⟨b, o + j, none⟩ = some (.int .i64 zv) := (hP.bel.cell (p := ⟨b, o + j, none⟩) (World.block_lt_of_cell? w _ hc0)).trans hc0
        have hzb := unhide HZ zv (List.mem_of_getElem? hzv)
        have HZV := hide hzv
        have HB := hide (hBytes_any wr k zv hk hzb sg)
        clear hcz hc0 hzv
        by_cases hf : fitsW k zv sg
        · rw [decide_eq_true hf] at HB
          have HP := hide hP
          have hsz : bs.length + j * k.toNat + k.toNat ≤ 140737488355328 := by
            have h1 : k.toNat ≤ 8 := hk8
            have hbl := unhide HBL
            have h2 : (j + 1) * k.toNat ≤ ln * 8 := Nat.mul_le_mul (by omega) h1
            rw [Nat.add_mul] at h2
            omega
          clear hP
          go_wp2_with fail
          refine (unhide HB).mono ?_
          rintro e w3 ⟨xa, xm, xc, rfl, hx, f3⟩
          obtain ⟨hxm, ox⟩ := hx hf
          have hxa := arg_of_own (by rw [bytesW_len, hxm]) ox
          have hou := own_below (unhide HP).own f3
          have hbx := hxa.bs
          have hnx := hxa.nil
          have hbs3 : w.heap.size ≤ w3.heap.size := Nat.le_trans (unhide HP).bel.size f3.size
          have F3 := hide f3
          clear ox hxa hx f3 HB
          generalize hNN : bs.length + j * k.toNat = NN at *
          generalize hLL : bs ++ (zs.take j).flatMap (bytesW k) = LL at *
          have HNN := hide hNN
          have HLL := hide hLL
          have hxs : NN + xm ≤ 140737488355328 := by omega
          have HXM := hide hxm
          clear hNN hLL hxm hsz
          go_wp2_with (at_builtin; refine listB_append rfl (.tmp 40) (.tmp 41) rfl w.heap.size _ _ _ rfl hou xa xm xc (bytesW k zv) rfl hbx hnx hxs hbs3 ?_)
          intro v4 w4 o4 g4
          rw [← unhide HNN, ← unhide HLL] at o4
          have P4 := hide ((unhide HP).next (unhide HZV) hf (unhide F3) xm (unhide HXM) o4 g4)
          clear o4 g4 hou hbx hnx F3 HP
          go_wp2
          go_roundw
          case rel => exact ⟨j + 1, by omega, by go_num, unhide P4⟩
          case measure => simp [intOf]; omega
        · rw [decide_eq_false hf] at HB
          have hno : Hid (putW bs k sg zs = (bs, 2)) := putW_no (fun h => hf (h.2 zv (List.mem_of_getElem? (unhide HZV))))
          have HP := hide hP.bel
          clear hP
          go_wp2_with fail
          refine (unhide HB).mono ?_
          rintro e w3 ⟨xa, xm, xc, rfl, _, f3⟩
          have F3 := hide ((unhide HP).trans (f3.mono (unhide HP).size))
          clear f3 HB HP
          go_wp2
          rw [← unhide HPO, unhide hno]
          exact ⟨a, n, c, rfl, (fun h => by cases h), fun _ => ⟨rfl, rfl, rfl⟩, unhide F3⟩
      · obtain rfl : j = ln := by omega
        have ht : zs.take j = zs := List.take_of_length_le (by have := unhide HZL; omega)
        have hok : Hid (putW bs k sg zs = (bs ++ zs.flatMap (bytesW k), 0)) := putW_ok (unhide HWD) (by have := hP.fit; rw [ht] at this; exact this)
        have ho := hP.own
        rw [ht] at ho
        clear ht
        obtain ⟨ua, uc, rfl, _⟩ := own_form ho
        have HO := hide ho
        have HP := hide hP.bel
        clear hP ho
        go_wp2
        rw [← unhide HPO, unhide hok]
        exact ⟨_, _, _, rfl, fun _ => unhide HO, fun h => absurd rfl h, unhide HP⟩
  · have hdw : decide (wide k) = false := decide_eq_false hw
    rw [hdw] at HW
    have hno : Hid (putW bs k sg zs = (bs, 2)) := putW_no (fun h => hw h.1)
    clear P0
    go_wp2_with fail
    refine (unhide HW w1).mono ?_
    rintro e w2 ⟨rfl, rfl⟩
    clear HW
    go_wp2
    rw [← unhide HPO, unhide hno]
    exact ⟨a, n, c, rfl, (fun h => by cases h), fun _ => ⟨rfl, rfl, rfl⟩, unhide F1⟩

end Go.Proofs.YtdcoknnjgpdigaaGreatDoor

/- The landed class: its lists cloned. -/
namespace Go.Proofs.YtdcoknnjgpdigaaGreatDoor
open Go.RowKit
set_option linter.unusedVariables false
set_option maxRecDepth 100000

theorem rkE : Rk ec 55 22 5 48 (.agg #[.int .i64 0, .string ⟨#[]⟩, .int .i64 0, .int .i64 0, .int .i64 0]) := ⟨fun _ => rfl, fun x u hu => by simp [ec] at hu; rcases hu with rfl | rfl | rfl | rfl | rfl <;> rfl, by decide, by kernel_rfl, rfl, Tryz.underlying22⟩
theorem ls_of_es {w : World} {a : Option Addr} {n : Nat} {l : List Ent} (h : Es w a n l) : Ls 5 ec w a n l := by
  refine ⟨h.1, ?_⟩
  rcases h.2 with h0 | ⟨b, o, e, hE⟩
  · exact .inl h0
  · by_cases hn : n = 0
    · exact .inl hn
    · have key : ∀ (k : Nat) (x : Ent), l[k]? = some x → ∀ (q : Nat) (u : Value), (ec x)[q]? = some u → w.cell? ⟨b, o + k * 5 + q, none⟩ = some u := fun k x hx q u hu => by
        have := hE ⟨b, o, none⟩ rfl (k * 5 + q) u (flatR_at (cs := ec) (fun _ => rfl) l k x hx q u hu)
        rw [Addr.add_mid, ← Nat.add_assoc] at this
        exact this
      obtain ⟨x, hx⟩ : ∃ x, l[0]? = some x := ⟨_, List.getElem?_eq_getElem (by have := h.1; omega)⟩
      have hlt := World.block_lt_of_cell? _ _ (key 0 x hx 0 _ rfl)
      exact .inr ⟨b, o, e, hlt, key⟩
set_option maxHeartbeats 800000 in
theorem slCloneF_any (w : World) (s : Sl) (l : List Fd) (hL : Ls 3 fdc w s.a s.n l) (hnil : s.a = none → s.n = 0 ∧ s.c = 0) (hsm : s.n * 40 ≤ 140737488351232) :
    Calls Tryz.prog 20 #[s.v] w fun e w' => ∃ v, e = .returned v ∧ Orw fdc 58 3 w' w.heap.size v l ∧ Below w.heap.size w w' := by
  obtain ⟨a, n, c⟩ := s
  have q : ∀ (w : World) (a : Option Addr) (n c n' c' : Nat), (binOp .eql 23 (.slice a n c) (.slice none n' c')).run Tryz.prog w = .ok (.bool a.isNone) w := fun w a n c n' c' => Lib.run_eql_slice_nil w _ _ a n c n' c' Tryz.underlying23
  unfold Sl.v
  simp only at hL hnil hsm ⊢
  cases a with
  | none =>
    obtain ⟨rfl, rfl⟩ := hnil rfl
    have hl0 : l = [] := List.eq_nil_of_length_eq_zero hL.1
    subst hl0
    clear hL hnil
    go_enter Tryz.func20, Tryz.ntmps20
    go_wp2
    go_ret
    exact ⟨_, rfl, Orw.nil _ _ _ _ _, Below.refl _ _⟩
  | some ad =>
    have hown : Orw fdc 58 3 (w.alloc (.cells #[] 58)) w.heap.size (.slice (some ⟨w.heap.size, 0, none⟩) 0 0) [] := Orw.made _ _ _ w _ (Nat.le_refl _)
    have HB := hide (hL.below ((Below.refl _ _).alloc (Nat.le_refl _) (.cells #[] 58)))
    have HO0 := hide hown
    have hsm1 : ([] : List Fd).length + n ≤ 140737488355328 := by simp; omega
    have hsm2 : (([] : List Fd).length + n) * 40 ≤ 140737488355328 := by simp; omega
    have HS1 := hide hsm1
    have HS2 := hide hsm2
    clear hL hown hsm1 hsm2 hnil
    go_enter Tryz.func20, Tryz.ntmps20
    go_wp2_with (at_builtin; refine listR_append rkF rfl _ _ rfl w.heap.size _ [] rfl (unhide HO0) (some ad) n c l rfl (unhide HB) (fun e => by cases e) (unhide HS2) (unhide HS1) (by simp) ?_)
    intro v' w1 o1 g1
    try rw [List.nil_append] at o1
    have hb1 : Below w.heap.size w w1 := grown_below ((Below.refl _ _).alloc (Nat.le_refl _) _) (unhide HO0) g1
    obtain ⟨a1, c1, rfl, _⟩ := o1.form
    have HO := hide o1
    have HB1 := hide hb1
    clear o1 g1 hb1
    go_wp2
    go_ret
    exact ⟨_, rfl, unhide HO, unhide HB1⟩

set_option maxHeartbeats 800000 in
theorem slCloneM_any (w : World) (s : Sl) (l : List MdR) (hL : Ls 8 mdc w s.a s.n l) (hnil : s.a = none → s.n = 0 ∧ s.c = 0) (hsm : s.n * 128 ≤ 140737488351232) :
    Calls Tryz.prog 44 #[s.v] w fun e w' => ∃ v, e = .returned v ∧ Orw mdc 49 8 w' w.heap.size v l ∧ Below w.heap.size w w' := by
  obtain ⟨a, n, c⟩ := s
  have q : ∀ (w : World) (a : Option Addr) (n c n' c' : Nat), (binOp .eql 24 (.slice a n c) (.slice none n' c')).run Tryz.prog w = .ok (.bool a.isNone) w := fun w a n c n' c' => Lib.run_eql_slice_nil w _ _ a n c n' c' Tryz.underlying24
  unfold Sl.v
  simp only at hL hnil hsm ⊢
  cases a with
  | none =>
    obtain ⟨rfl, rfl⟩ := hnil rfl
    have hl0 : l = [] := List.eq_nil_of_length_eq_zero hL.1
    subst hl0
    clear hL hnil
    go_enter Tryz.func44, Tryz.ntmps44
    go_wp2
    go_ret
    exact ⟨_, rfl, Orw.nil _ _ _ _ _, Below.refl _ _⟩
  | some ad =>
    have hown : Orw mdc 49 8 (w.alloc (.cells #[] 49)) w.heap.size (.slice (some ⟨w.heap.size, 0, none⟩) 0 0) [] := Orw.made _ _ _ w _ (Nat.le_refl _)
    have HB := hide (hL.below ((Below.refl _ _).alloc (Nat.le_refl _) (.cells #[] 49)))
    have HO0 := hide hown
    have hsm1 : ([] : List MdR).length + n ≤ 140737488355328 := by simp; omega
    have hsm2 : (([] : List MdR).length + n) * 128 ≤ 140737488355328 := by simp; omega
    have HS1 := hide hsm1
    have HS2 := hide hsm2
    clear hL hown hsm1 hsm2 hnil
    go_enter Tryz.func44, Tryz.ntmps44
    go_wp2_with (at_builtin; refine listR_append rkM rfl _ _ rfl w.heap.size _ [] rfl (unhide HO0) (some ad) n c l rfl (unhide HB) (fun e => by cases e) (unhide HS2) (unhide HS1) (by simp) ?_)
    intro v' w1 o1 g1
    try rw [List.nil_append] at o1
    have hb1 : Below w.heap.size w w1 := grown_below ((Below.refl _ _).alloc (Nat.le_refl _) _) (unhide HO0) g1
    obtain ⟨a1, c1, rfl, _⟩ := o1.form
    have HO := hide o1
    have HB1 := hide hb1
    clear o1 g1 hb1
    go_wp2
    go_ret
    exact ⟨_, rfl, unhide HO, unhide HB1⟩

set_option maxHeartbeats 800000 in
theorem slCloneH_any (w : World) (s : Sl) (l : List Hd) (hL : Ls 4 hdc w s.a s.n l) (hnil : s.a = none → s.n = 0 ∧ s.c = 0) (hsm : s.n * 32 ≤ 140737488351232) :
    Calls Tryz.prog 46 #[s.v] w fun e w' => ∃ v, e = .returned v ∧ Orw hdc 93 4 w' w.heap.size v l ∧ Below w.heap.size w w' := by
  obtain ⟨a, n, c⟩ := s
  have q : ∀ (w : World) (a : Option Addr) (n c n' c' : Nat), (binOp .eql 44 (.slice a n c) (.slice none n' c')).run Tryz.prog w = .ok (.bool a.isNone) w := fun w a n c n' c' => Lib.run_eql_slice_nil w _ _ a n c n' c' Tryz.underlying44
  unfold Sl.v
  simp only at hL hnil hsm ⊢
  cases a with
  | none =>
    obtain ⟨rfl, rfl⟩ := hnil rfl
    have hl0 : l = [] := List.eq_nil_of_length_eq_zero hL.1
    subst hl0
    clear hL hnil
    go_enter Tryz.func46, Tryz.ntmps46
    go_wp2
    go_ret
    exact ⟨_, rfl, Orw.nil _ _ _ _ _, Below.refl _ _⟩
  | some ad =>
    have hown : Orw hdc 93 4 (w.alloc (.cells #[] 93)) w.heap.size (.slice (some ⟨w.heap.size, 0, none⟩) 0 0) [] := Orw.made _ _ _ w _ (Nat.le_refl _)
    have HB := hide (hL.below ((Below.refl _ _).alloc (Nat.le_refl _) (.cells #[] 93)))
    have HO0 := hide hown
    have hsm1 : ([] : List Hd).length + n ≤ 140737488355328 := by simp; omega
    have hsm2 : (([] : List Hd).length + n) * 32 ≤ 140737488355328 := by simp; omega
    have HS1 := hide hsm1
    have HS2 := hide hsm2
    clear hL hown hsm1 hsm2 hnil
    go_enter Tryz.func46, Tryz.ntmps46
    go_wp2_with (at_builtin; refine listR_append rkH rfl _ _ rfl w.heap.size _ [] rfl (unhide HO0) (some ad) n c l rfl (unhide HB) (fun e => by cases e) (unhide HS2) (unhide HS1) (by simp) ?_)
    intro v' w1 o1 g1
    try rw [List.nil_append] at o1
    have hb1 : Below w.heap.size w w1 := grown_below ((Below.refl _ _).alloc (Nat.le_refl _) _) (unhide HO0) g1
    obtain ⟨a1, c1, rfl, _⟩ := o1.form
    have HO := hide o1
    have HB1 := hide hb1
    clear o1 g1 hb1
    go_wp2
    go_ret
    exact ⟨_, rfl, unhide HO, unhide HB1⟩

set_option maxHeartbeats 800000 in
theorem slCloneP_any (w : World) (s : Sl) (l : List MpR) (hL : Ls 3 mpc w s.a s.n l) (hnil : s.a = none → s.n = 0 ∧ s.c = 0) (hsm : s.n * 56 ≤ 140737488351232) :
    Calls Tryz.prog 80 #[s.v] w fun e w' => ∃ v, e = .returned v ∧ Orw mpc 52 3 w' w.heap.size v l ∧ Below w.heap.size w w' := by
  obtain ⟨a, n, c⟩ := s
  have q : ∀ (w : World) (a : Option Addr) (n c n' c' : Nat), (binOp .eql 45 (.slice a n c) (.slice none n' c')).run Tryz.prog w = .ok (.bool a.isNone) w := fun w a n c n' c' => Lib.run_eql_slice_nil w _ _ a n c n' c' Tryz.underlying45
  unfold Sl.v
  simp only at hL hnil hsm ⊢
  cases a with
  | none =>
    obtain ⟨rfl, rfl⟩ := hnil rfl
    have hl0 : l = [] := List.eq_nil_of_length_eq_zero hL.1
    subst hl0
    clear hL hnil
    go_enter Tryz.func80, Tryz.ntmps80
    go_wp2
    go_ret
    exact ⟨_, rfl, Orw.nil _ _ _ _ _, Below.refl _ _⟩
  | some ad =>
    have hown : Orw mpc 52 3 (w.alloc (.cells #[] 52)) w.heap.size (.slice (some ⟨w.heap.size, 0, none⟩) 0 0) [] := Orw.made _ _ _ w _ (Nat.le_refl _)
    have HB := hide (hL.below ((Below.refl _ _).alloc (Nat.le_refl _) (.cells #[] 52)))
    have HO0 := hide hown
    have hsm1 : ([] : List MpR).length + n ≤ 140737488355328 := by simp; omega
    have hsm2 : (([] : List MpR).length + n) * 56 ≤ 140737488355328 := by simp; omega
    have HS1 := hide hsm1
    have HS2 := hide hsm2
    clear hL hown hsm1 hsm2 hnil
    go_enter Tryz.func80, Tryz.ntmps80
    go_wp2_with (at_builtin; refine listR_append rkP rfl _ _ rfl w.heap.size _ [] rfl (unhide HO0) (some ad) n c l rfl (unhide HB) (fun e => by cases e) (unhide HS2) (unhide HS1) (by simp) ?_)
    intro v' w1 o1 g1
    try rw [List.nil_append] at o1
    have hb1 : Below w.heap.size w w1 := grown_below ((Below.refl _ _).alloc (Nat.le_refl _) _) (unhide HO0) g1
    obtain ⟨a1, c1, rfl, _⟩ := o1.form
    have HO := hide o1
    have HB1 := hide hb1
    clear o1 g1 hb1
    go_wp2
    go_ret
    exact ⟨_, rfl, unhide HO, unhide HB1⟩

set_option maxHeartbeats 800000 in
theorem slCloneT_any (w : World) (s : Sl) (l : List Ty) (hL : Ls 2 tyc w s.a s.n l) (hnil : s.a = none → s.n = 0 ∧ s.c = 0) (hsm : s.n * 24 ≤ 140737488351232) :
    Calls Tryz.prog 81 #[s.v] w fun e w' => ∃ v, e = .returned v ∧ Orw tyc 143 2 w' w.heap.size v l ∧ Below w.heap.size w w' := by
  obtain ⟨a, n, c⟩ := s
  have q : ∀ (w : World) (a : Option Addr) (n c n' c' : Nat), (binOp .eql 50 (.slice a n c) (.slice none n' c')).run Tryz.prog w = .ok (.bool a.isNone) w := fun w a n c n' c' => Lib.run_eql_slice_nil w _ _ a n c n' c' Tryz.underlying50
  unfold Sl.v
  simp only at hL hnil hsm ⊢
  cases a with
  | none =>
    obtain ⟨rfl, rfl⟩ := hnil rfl
    have hl0 : l = [] := List.eq_nil_of_length_eq_zero hL.1
    subst hl0
    clear hL hnil
    go_enter Tryz.func81, Tryz.ntmps81
    go_wp2
    go_ret
    exact ⟨_, rfl, Orw.nil _ _ _ _ _, Below.refl _ _⟩
  | some ad =>
    have hown : Orw tyc 143 2 (w.alloc (.cells #[] 143)) w.heap.size (.slice (some ⟨w.heap.size, 0, none⟩) 0 0) [] := Orw.made _ _ _ w _ (Nat.le_refl _)
    have HB := hide (hL.below ((Below.refl _ _).alloc (Nat.le_refl _) (.cells #[] 143)))
    have HO0 := hide hown
    have hsm1 : ([] : List Ty).length + n ≤ 140737488355328 := by simp; omega
    have hsm2 : (([] : List Ty).length + n) * 24 ≤ 140737488355328 := by simp; omega
    have HS1 := hide hsm1
    have HS2 := hide hsm2
    clear hL hown hsm1 hsm2 hnil
    go_enter Tryz.func81, Tryz.ntmps81
    go_wp2_with (at_builtin; refine listR_append rkT rfl _ _ rfl w.heap.size _ [] rfl (unhide HO0) (some ad) n c l rfl (unhide HB) (fun e => by cases e) (unhide HS2) (unhide HS1) (by simp) ?_)
    intro v' w1 o1 g1
    try rw [List.nil_append] at o1
    have hb1 : Below w.heap.size w w1 := grown_below ((Below.refl _ _).alloc (Nat.le_refl _) _) (unhide HO0) g1
    obtain ⟨a1, c1, rfl, _⟩ := o1.form
    have HO := hide o1
    have HB1 := hide hb1
    clear o1 g1 hb1
    go_wp2
    go_ret
    exact ⟨_, rfl, unhide HO, unhide HB1⟩

set_option maxHeartbeats 800000 in
theorem slCloneE_any (w : World) (s : Sl) (l : List Ent) (hL : Ls 5 ec w s.a s.n l) (hnil : s.a = none → s.n = 0 ∧ s.c = 0) (hsm : s.n * 48 ≤ 140737488351232) :
    Calls Tryz.prog 19 #[s.v] w fun e w' => ∃ v, e = .returned v ∧ Orw ec 55 5 w' w.heap.size v l ∧ Below w.heap.size w w' := by
  obtain ⟨a, n, c⟩ := s
  have q : ∀ (w : World) (a : Option Addr) (n c n' c' : Nat), (binOp .eql 22 (.slice a n c) (.slice none n' c')).run Tryz.prog w = .ok (.bool a.isNone) w := fun w a n c n' c' => Lib.run_eql_slice_nil w _ _ a n c n' c' Tryz.underlying22
  unfold Sl.v
  simp only at hL hnil hsm ⊢
  cases a with
  | none =>
    obtain ⟨rfl, rfl⟩ := hnil rfl
    have hl0 : l = [] := List.eq_nil_of_length_eq_zero hL.1
    subst hl0
    clear hL hnil
    go_enter Tryz.func19, Tryz.ntmps19
    go_wp2
    go_ret
    exact ⟨_, rfl, Orw.nil _ _ _ _ _, Below.refl _ _⟩
  | some ad =>
    have hown : Orw ec 55 5 (w.alloc (.cells #[] 55)) w.heap.size (.slice (some ⟨w.heap.size, 0, none⟩) 0 0) [] := Orw.made _ _ _ w _ (Nat.le_refl _)
    have HB := hide (hL.below ((Below.refl _ _).alloc (Nat.le_refl _) (.cells #[] 55)))
    have HO0 := hide hown
    have hsm1 : ([] : List Ent).length + n ≤ 140737488355328 := by simp; omega
    have hsm2 : (([] : List Ent).length + n) * 48 ≤ 140737488355328 := by simp; omega
    have HS1 := hide hsm1
    have HS2 := hide hsm2
    clear hL hown hsm1 hsm2 hnil
    go_enter Tryz.func19, Tryz.ntmps19
    go_wp2_with (at_builtin; refine listR_append rkE rfl _ _ rfl w.heap.size _ [] rfl (unhide HO0) (some ad) n c l rfl (unhide HB) (fun e => by cases e) (unhide HS2) (unhide HS1) (by simp) ?_)
    intro v' w1 o1 g1
    try rw [List.nil_append] at o1
    have hb1 : Below w.heap.size w w1 := grown_below ((Below.refl _ _).alloc (Nat.le_refl _) _) (unhide HO0) g1
    obtain ⟨a1, c1, rfl, _⟩ := o1.form
    have HO := hide o1
    have HB1 := hide hb1
    clear o1 g1 hb1
    go_wp2
    go_ret
    exact ⟨_, rfl, unhide HO, unhide HB1⟩

set_option maxHeartbeats 800000 in
theorem slCloneB_any (w : World) (a : Option Addr) (n c : Nat) (l : List UInt8) (h : Arg w a n c l) (hsm : n ≤ 140737488351232) :
    Calls Tryz.prog 45 #[.slice a n c] w fun e w' => ∃ v, e = .returned v ∧ w'.ownsRow w.heap.size 5 1 v n (bv l) ∧ Below w.heap.size w w' := by
  have q : ∀ (w : World) (a : Option Addr) (n c n' c' : Nat), (binOp .eql 29 (.slice a n c) (.slice none n' c')).run Tryz.prog w = .ok (.bool a.isNone) w := fun w a n c n' c' => Lib.run_eql_slice_nil w _ _ a n c n' c' Tryz.underlying29
  cases a with
  | none =>
    obtain ⟨rfl, rfl⟩ := h.nil rfl
    have hl0 : l = [] := List.eq_nil_of_length_eq_zero h.bs.1
    subst hl0
    clear h
    go_enter Tryz.func45, Tryz.ntmps45
    go_wp2
    go_ret
    exact ⟨_, rfl, World.ownsRow_nil _ _ _ _, Below.refl _ _⟩
  | some ad =>
    have hown : (w.alloc (.cells #[] 5)).ownsRow w.heap.size 5 1 (.slice (some ⟨w.heap.size, 0, none⟩) 0 0) 0 (bv []) := World.ownsRow_made w #[] 0 (Nat.le_refl _) (by simp) rfl
    have HB := hide (h.bs.below ((Below.refl _ _).alloc (Nat.le_refl _) (.cells #[] 5)))
    have HO0 := hide hown
    clear h hown
    go_enter Tryz.func45, Tryz.ntmps45
    go_wp2_with (at_builtin; refine listB_append rfl _ _ rfl w.heap.size _ 0 [] rfl (unhide HO0) (some ad) n c l rfl (unhide HB) (fun e => by cases e) (by omega) (by simp) ?_)
    intro v' w1 o1 g1
    try simp only [List.nil_append, Nat.zero_add] at o1
    have hb1 : Below w.heap.size w w1 := ((Below.refl _ _).alloc (Nat.le_refl _) _).grown g1 (by simp) (fun k hk => by simp [Value.ownBlock] at hk; omega)
    obtain ⟨a1, c1, rfl, _⟩ := own_form o1
    have HO := hide o1
    have HB1 := hide hb1
    clear o1 g1 hb1
    go_wp2
    go_ret
    exact ⟨_, rfl, unhide HO, unhide HB1⟩
end Go.Proofs.YtdcoknnjgpdigaaGreatDoor

/- Classes held against one another: SameMaps, SameClass. -/
namespace Go.Proofs.YtdcoknnjgpdigaaGreatDoor
open Go.RowKit
set_option linter.unusedVariables false
set_option maxRecDepth 100000

theorem SameTypes_far {w : World} {s t : Sl} {l : List Ty} (hA : TysIn w s l) (hB : TysIn w t l) (W : World) (f : Below w.heap.size w W) :
    Calls Tryz.prog 71 #[s.v, t.v] W fun e w' => e = .returned (.bool true) ∧ Below w.heap.size w w' :=
  (SameTypes_same W s t l (hA.mono f (fun _ h => h)) (hB.mono f (fun _ h => h))).mono (by
    rintro e w' ⟨rfl, f'⟩
    exact ⟨rfl, f.trans (f'.mono f.size)⟩)

set_option maxHeartbeats 3200000 in
theorem SameMaps_same (w : World) (s t : Sl) (rs ts : List MpR) (hA : LIn 3 56 mpc (MpIn w) w s rs) (hB : LIn 3 56 mpc (MpIn w) w t ts) (hm : rs.map MpR.m = ts.map MpR.m) :
    Calls Tryz.prog 35 #[s.v, t.v] w fun e w' => e = .returned (.bool true) ∧ Below w.heap.size w w' := by
  obtain ⟨a, n, c⟩ := s
  obtain ⟨b, m, d⟩ := t
  have hs := hA.small
  have hln := hA.ls.1
  have hlm := hB.ls.1
  have hll : rs.length = ts.length := by have := congrArg List.length hm; simpa using this
  simp only at hln hlm hs
  obtain rfl : n = m := by omega
  have hs1 : n ≤ 140737488351232 := by omega
  have key : Hid (∀ k r, rs[k]? = some r → ∃ q, ts[k]? = some q ∧ q.m = r.m ∧ MpIn w r ∧ MpIn w q) := fun k r hr => by
    have hk := (List.getElem?_eq_some_iff.1 hr).1
    obtain ⟨q, hq⟩ : ∃ q, ts[k]? = some q := ⟨_, List.getElem?_eq_getElem (by omega)⟩
    refine ⟨q, hq, ?_, hA.each r (List.mem_of_getElem? hr), hB.each q (List.mem_of_getElem? hq)⟩
    have e := congrArg (·[k]?) hm
    simp only [List.getElem?_map, hr, hq, Option.map_some] at e
    injection e with e
    exact e.symm
  unfold Sl.v
  simp only
  have HA := hide hA.ls
  have HB := hide hB.ls
  clear hA hB hs hm
  go_enter Tryz.func35, Tryz.ntmps35
  go_wp2
  go_loopw [5] (fun i wr => ∃ k : Nat, k ≤ n ∧ i = .int .i64 k ∧ Below w.heap.size w wr) (fun i _ => n - (intOf i).toNat)
  case atStart => exact ⟨0, by omega, rfl, Below.refl _ _⟩
  case round =>
    obtain ⟨k, hk, rfl, hR⟩ := hrel
    by_cases hlt : k < n
    · have hlt1 : (k : Int) < (n : Int) := by omega
      obtain ⟨b1, o1, h1a, h1⟩ := Ls.row (unhide HA) (w' := w) (by show n ≠ 0; omega)
      obtain ⟨b2, o2, h2a, h2⟩ := Ls.row (unhide HB) (w' := w) (by show n ≠ 0; omega)
      subst h1a h2a
      obtain ⟨r, hr⟩ : ∃ r, rs[k]? = some r := ⟨_, List.getElem?_eq_getElem (by omega)⟩
      obtain ⟨q, hq, hqr, m1, m2⟩ := unhide key k r hr
      have KC : Hid (∀ W, Below w.heap.size w W → W.cell? ⟨b1, o1 + k * 3, none⟩ = some (.int .i64 r.m.at_) ∧ W.cell? ⟨b1, o1 + k * 3 + 1, none⟩ = some r.loc.v ∧ W.cell? ⟨b1, o1 + k * 3 + 2, none⟩ = some r.stk.v ∧ W.cell? ⟨b2, o2 + k * 3, none⟩ = some (.int .i64 r.m.at_) ∧ W.cell? ⟨b2, o2 + k * 3 + 1, none⟩ = some q.loc.v ∧ W.cell? ⟨b2, o2 + k * 3 + 2, none⟩ = some q.stk.v) := fun W f => by
        have q1 := h1 f k r hr
        have q2 := h2 f k q hq
        refine ⟨q1.zero, q1 1 _ rfl, q1 2 _ rfl, ?_, q2 1 _ rfl, q2 2 _ rfl⟩
        rw [← hqr]
        exact q2.zero
      have XL := hide (SameTypes_far m1.loc (hqr ▸ m2.loc))
      have XS := hide (SameTypes_far m1.stk (hqr ▸ m2.stk))
      have HR := hide hR
      clear h1 h2 hr hR hq hqr m1 m2
      unfold Sl.v at KC XL XS
      generalize r.m.at_ = ra at *
      generalize r.loc = rl at *
      generalize r.stk = rk at *
      generalize q.loc = ql at *
      generalize q.stk = qk at *
      obtain ⟨rl1, rl2, rl3⟩ := rl
      obtain ⟨rk1, rk2, rk3⟩ := rk
      obtain ⟨ql1, ql2, ql3⟩ := ql
      obtain ⟨qk1, qk2, qk3⟩ := qk
      simp only at KC XL XS
      have XT : Hid (∀ W, Below w.heap.size w W → ∀ v1 v2, (v1 = .slice rl1 rl2 rl3 ∧ v2 = .slice ql1 ql2 ql3) ∨ (v1 = .slice rk1 rk2 rk3 ∧ v2 = .slice qk1 qk2 qk3) → Calls Tryz.prog 71 #[v1, v2] W fun e w' => e = .returned (.bool true) ∧ Below w.heap.size w w') := fun W f v1 v2 h => by
        rcases h with ⟨rfl, rfl⟩ | ⟨rfl, rfl⟩
        · exact unhide XL W f
        · exact unhide XS W f
      clear XL XS
      go_wp2
      refine wp_region_seq (fun W => Below w.heap.size w W) (by kernel_rfl) (by kernel_rfl) ((unhide HR).drew) ?_
      repeat (first
        | (refine SeqDo.skips (by rfl) ?_; simp only [Act.put, List.setIfInBounds_toArray, List.set_cons_zero, List.set_cons_succ])
        | (refine SeqDo.yields (v := ?_) (by rfl) ?_ ?_; rotate_left; (focus ((intro W hSW; obtain ⟨c0, c1, c2, d0, d1, d2⟩ := unhide KC W hSW; go_simp) <;> with_reducible rfl)); simp only [Act.put, List.setIfInBounds_toArray, List.set_cons_zero, List.set_cons_succ])
        | (refine SeqDo.does (v := .bool true) (by rfl) (fun W hSW KK hKK => ?_) ?_; (focus (go_simp; go_wp2_with (go_at_call 71; refine (unhide XT _ hSW _ _ (by first | exact .inl ⟨rfl, rfl⟩ | exact .inr ⟨rfl, rfl⟩)).mono ?_; rintro e W' ⟨rfl, fJ⟩); exact hKK.out _ fJ)); simp only [Act.put, List.setIfInBounds_toArray, List.set_cons_zero, List.set_cons_succ]))
      intro W hSW
      have HR2 := hide hSW
      clear hSW XT KC HR
      go_wp2
      go_roundw
      case rel => exact ⟨k + 1, by omega, by go_num, unhide HR2⟩
      case measure => simp [intOf]; omega
    · obtain rfl : k = n := by omega
      have HR := hide hR
      clear hR
      go_wp2
      go_ret
      exact ⟨rfl, unhide HR⟩
end Go.Proofs.YtdcoknnjgpdigaaGreatDoor
