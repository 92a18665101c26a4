/- The document's own writing of numbers: Put. -/
import Derived.Test.YtkmcpedhcdgnoaaWdP
import Derived.Test.YtkmcpedhcdgnoaaWdQ
namespace Go.Proofs.Ytkmcpedhcdgnoaa
open Go.RowKit
set_option linter.unusedVariables false

theorem listB_append {w : World} {ops : Array Oper} {rest : List Oper} {o : Oper} {a : Act} {Q : Exit → Act → World → Prop} (hgd : o.guard = none) (s x : Operand) (ho : o.op = .call { callee := .builtin .append, args := #[s, x], argTypes := #[22, 22] })
    (base : Nat) (v : Value) (n : Nat) (xs : List UInt8) (hs : a.eval s = v) (hown : w.ownsRow base 5 1 v n (bv xs)) (src : Option Addr) (m c : Nat) (ys : List UInt8) (hx : a.eval x = .slice src m c) (hb : Bs w src m ys) (hnil : src = none → m = 0 ∧ c = 0)
    (hsm : n + m ≤ 140737488355328) (hbase : base ≤ w.heap.size) (h : ∀ v' w', w'.ownsRow base 5 1 v' (n + m) (bv (xs ++ ys)) → w.grownBy w' v.ownBlock → wpList Try.prog ops Q rest (a.put o.dst v') w') : wpList Try.prog ops Q (o :: rest) a w :=
  wpList_plain hgd fun K hK => wpB_append s x ho base v n xs hs hown src m c ys hx hb hnil hsm hbase (fun v' w' h1 h2 => hK _ _ (h v' w' h1 h2))
theorem flat_len (k : Int) (zs : List Int) : (zs.flatMap (bytesW k)).length = zs.length * k.toNat := by
  induction zs with
  | nil => simp
  | cons z zs ih => rw [List.flatMap_cons, List.length_append, ih, bytesW_len, List.length_cons, Nat.add_mul]; omega
theorem putW_ok {bs : List UInt8} {k : Int} {sg : Bool} {zs : List Int} (hw : wide k) (h : ∀ z ∈ zs, fitsW k z sg) : putW bs k sg zs = (bs ++ zs.flatMap (bytesW k), 0) := if_pos ⟨hw, h⟩
theorem putW_no {bs : List UInt8} {k : Int} {sg : Bool} {zs : List Int} (h : ¬ (wide k ∧ ∀ z ∈ zs, fitsW k z sg)) : putW bs k sg zs = (bs, 2) := if_neg h
/-- What Put leaves. -/
def PutR (w : World) (a : Option Addr) (n c : Nat) (R : List UInt8 × Int) (e : Ending) (w' : World) : Prop :=
  ∃ a' n' c', e = .returned (.tuple #[.slice a' n' c', .int .i64 R.2]) ∧ (R.2 = 0 → w'.ownsRow w.heap.size 5 1 (.slice a' n' c') n' (bv R.1)) ∧ (R.2 ≠ 0 → a' = a ∧ n' = n ∧ c' = c) ∧ Below w.heap.size w w'
/-- Between the rounds of Put. -/
structure PU (w : World) (bs : List UInt8) (k : Int) (sg : Bool) (zs : List Int) (i : Nat) (u : Value) (wr : World) : Prop where
  own : wr.ownsRow w.heap.size 5 1 u (bs.length + i * k.toNat) (bv (bs ++ (zs.take i).flatMap (bytesW k)))
  fit : ∀ z ∈ zs.take i, fitsW k z sg
  bel : Below w.heap.size w wr
theorem PU.next {w wr w1 w2 : World} {bs : List UInt8} {k : Int} {sg : Bool} {zs : List Int} {i : Nat} {u u' : Value} {z : Int} (h : PU w bs k sg zs i u wr) (hz : zs[i]? = some z) (hf : fitsW k z sg) (f1 : Below wr.heap.size wr w1) (m : Nat) (hm : m = k.toNat) (ho : w2.ownsRow w.heap.size 5 1 u' (bs.length + i * k.toNat + m) (bv (bs ++ (zs.take i).flatMap (bytesW k) ++ bytesW k z))) (hg : w1.grownBy w2 u.ownBlock) : PU w bs k sg zs (i + 1) u' w2 := by
  have ht : zs.take (i + 1) = zs.take i ++ [z] := by rw [List.take_add_one, hz]; rfl
  refine ⟨?_, ?_, ?_⟩
  · rw [ht, List.flatMap_append, ← List.append_assoc, List.flatMap_singleton, Nat.add_mul, Nat.one_mul, ← Nat.add_assoc, ← hm]
    rw [← hm] at ho
    exact ho
  · intro y hy
    rw [ht, List.mem_append] at hy
    rcases hy with hy | hy
    · exact h.fit y hy
    · simp at hy
      subst hy
      exact hf
  · exact (h.bel.trans (f1.mono h.bel.size)).grown hg (Nat.le_trans h.bel.size f1.size) (fun x hx => (h.own.lt x hx).1)

set_option maxHeartbeats 6400000 in
set_option maxRecDepth 100000 in
theorem hPut_any (w : World) (a : Option Addr) (n c : Nat) (bs : List UInt8) (hb : Arg w a n c bs) (k : Int) (hk : -9223372036854775808 ≤ k ∧ k ≤ 9223372036854775807) (sg : Bool) (la : Option Addr) (ln lc : Nat) (zs : List Int) (hl : Nums w la ln zs) (hz : ∀ z ∈ zs, -9223372036854775808 ≤ z ∧ z ≤ 9223372036854775807) (hs : n + 8 * ln ≤ 140737488351232) :
    Calls Try.prog 23 #[.slice a n c, .int .i64 k, .bool sg, .slice la ln lc] w (PutR w a n c (putW bs k sg zs)) := by
  have hbl := hb.len
  have HW := hide (fun W => hwide_any W k)
  have hown : (w.alloc (.cells #[] 5)).ownsRow w.heap.size 5 1 (.slice (some ⟨w.heap.size, 0, none⟩) 0 0) 0 (bv []) := World.ownsRow_made w #[] 0 (Nat.le_refl _) (by simp) rfl
  have b0 : Below w.heap.size w (w.alloc (.cells #[] 5)) := (Below.refl _ _).alloc (Nat.le_refl _) _
  have hb0 := (hb.below b0).bs
  have hnl := hb.nil
  have HL := hide hl
  have HZ := hide hz
  have hzl := hl.1
  clear hb hl hz
  generalize hPO : PutR w a n c (putW bs k sg zs) = PO
  have HPO := hide hPO
  clear hPO
  go_enter Try.func23, Try.ntmps23
  go_wp2_with (at_builtin; refine listB_append rfl (.tmp 14) (.tmp 15) rfl w.heap.size _ 0 [] rfl hown a n c bs rfl hb0 hnl (by omega) (by simp) ?_)
  intro v1 w1 o1 g1
  have f1 : Below w.heap.size w w1 := b0.grown g1 (by simp) (fun x hx => by simp [Value.ownBlock] at hx; omega)
  have P0 : Hid (PU w bs k sg zs 0 v1 w1) := ⟨by
    rw [Nat.zero_mul, Nat.add_zero, hbl]
    simpa using o1, by simp, f1⟩
  have F1 := hide f1
  clear o1 g1 f1 hown b0 hb0
  by_cases hw : wide k
  · have hdw : decide (wide k) = true := decide_eq_true hw
    rw [hdw] at HW
    have hk8 : k.toNat ≤ 8 := by rcases hw with h | h | h | h <;> omega
    have HWD := hide hw
    have HBL := hide hbl
    have HZL := hide hzl
    clear hw hbl hzl
    go_wp2_with fail
    refine (unhide HW w1).mono ?_
    rintro e w2 ⟨rfl, rfl⟩
    clear HW F1
    go_wp2
    go_loopw [10, 11] (fun u i wr => ∃ j : Nat, j ≤ ln ∧ i = .int .i64 j ∧ PU w bs k sg zs j u wr) (fun _ i _ => ln - (intOf i).toNat)
    case atStart => exact ⟨0, by omega, rfl, unhide P0⟩
    case round =>
      obtain ⟨j, hj, rfl, hP⟩ := hrel
      clear P0
      by_cases hjl : j < ln
      · have hjl' : (j : Int) < (ln : Int) := by omega
        obtain ⟨b, o, rfl, hcz⟩ := (unhide HL).2.resolve_left (by omega)
        obtain ⟨zv, hzv⟩ : ∃ zv, zs[j]? = some zv := ⟨_, List.getElem?_eq_getElem (by have := unhide HZL; omega)⟩
        have hc0 := hcz j zv hzv
        have hcell : wr.cell? ⟨b, o + j, none⟩ = some (.int .i64 zv) := (hP.bel.cell (p := ⟨b, o + j, none⟩) (World.block_lt_of_cell? w _ hc0)).trans hc0
        have hzb := unhide HZ zv (List.mem_of_getElem? hzv)
        have HZV := hide hzv
        have HB := hide (hBytes_any wr k zv hk hzb sg)
        clear hcz hc0 hzv
        by_cases hf : fitsW k zv sg
        · rw [decide_eq_true hf] at HB
          have HP := hide hP
          have hsz : bs.length + j * k.toNat + k.toNat ≤ 140737488355328 := by
            have h1 : k.toNat ≤ 8 := hk8
            have hbl := unhide HBL
            have h2 : (j + 1) * k.toNat ≤ ln * 8 := Nat.mul_le_mul (by omega) h1
            rw [Nat.add_mul] at h2
            omega
          clear hP
          go_wp2_with fail
          refine (unhide HB).mono ?_
          rintro e w3 ⟨xa, xm, xc, rfl, hx, f3⟩
          obtain ⟨hxm, ox⟩ := hx hf
          have hxa := arg_of_own (by rw [bytesW_len, hxm]) ox
          have hou := own_below (unhide HP).own f3
          have hbx := hxa.bs
          have hnx := hxa.nil
          have hbs3 : w.heap.size ≤ w3.heap.size := Nat.le_trans (unhide HP).bel.size f3.size
          have F3 := hide f3
          clear ox hxa hx f3 HB
          generalize hNN : bs.length + j * k.toNat = NN at *
          generalize hLL : bs ++ (zs.take j).flatMap (bytesW k) = LL at *
          have HNN := hide hNN
          have HLL := hide hLL
          have hxs : NN + xm ≤ 140737488355328 := by omega
          have HXM := hide hxm
          clear hNN hLL hxm hsz
          go_wp2_with (at_builtin; refine listB_append rfl (.tmp 40) (.tmp 41) rfl w.heap.size _ _ _ rfl hou xa xm xc (bytesW k zv) rfl hbx hnx hxs hbs3 ?_)
          intro v4 w4 o4 g4
          rw [← unhide HNN, ← unhide HLL] at o4
          have P4 := hide ((unhide HP).next (unhide HZV) hf (unhide F3) xm (unhide HXM) o4 g4)
          clear o4 g4 hou hbx hnx F3 HP
          go_wp2
          go_roundw
          case rel => exact ⟨j + 1, by omega, by go_num, unhide P4⟩
          case measure => simp [intOf]; omega
        · rw [decide_eq_false hf] at HB
          have hno : Hid (putW bs k sg zs = (bs, 2)) := putW_no (fun h => hf (h.2 zv (List.mem_of_getElem? (unhide HZV))))
          have HP := hide hP.bel
          clear hP
          go_wp2_with fail
          refine (unhide HB).mono ?_
          rintro e w3 ⟨xa, xm, xc, rfl, _, f3⟩
          have F3 := hide ((unhide HP).trans (f3.mono (unhide HP).size))
          clear f3 HB HP
          go_wp2
          rw [← unhide HPO, unhide hno]
          exact ⟨a, n, c, rfl, (fun h => by cases h), fun _ => ⟨rfl, rfl, rfl⟩, unhide F3⟩
      · obtain rfl : j = ln := by omega
        have ht : zs.take j = zs := List.take_of_length_le (by have := unhide HZL; omega)
        have hok : Hid (putW bs k sg zs = (bs ++ zs.flatMap (bytesW k), 0)) := putW_ok (unhide HWD) (by have := hP.fit; rw [ht] at this; exact this)
        have ho := hP.own
        rw [ht] at ho
        clear ht
        obtain ⟨ua, uc, rfl, _⟩ := own_form ho
        have HO := hide ho
        have HP := hide hP.bel
        clear hP ho
        go_wp2
        rw [← unhide HPO, unhide hok]
        exact ⟨_, _, _, rfl, fun _ => unhide HO, fun h => absurd rfl h, unhide HP⟩
  · have hdw : decide (wide k) = false := decide_eq_false hw
    rw [hdw] at HW
    have hno : Hid (putW bs k sg zs = (bs, 2)) := putW_no (fun h => hw h.1)
    clear P0
    go_wp2_with fail
    refine (unhide HW w1).mono ?_
    rintro e w2 ⟨rfl, rfl⟩
    clear HW
    go_wp2
    rw [← unhide HPO, unhide hno]
    exact ⟨a, n, c, rfl, (fun h => by cases h), fun _ => ⟨rfl, rfl, rfl⟩, unhide F1⟩

end Go.Proofs.Ytkmcpedhcdgnoaa
