/- The landed word: joined, spanOf; the reader's calls. -/
import Derived.Test.YtkmcpedhcdgnoaaWdL2
import Derived.Laws.BitsAllLaws
namespace Go.Proofs.Ytkmcpedhcdgnoaa
open Go.RowKit
set_option linter.unusedVariables false

set_option maxRecDepth 100000 in
theorem or_u64 (v x : Nat) (hv : v * 256 + x < 18446744073709551616) (hx : x < 256) : bits .or .u64 ((v : Int) * 256) (x : Int) = (v : Int) * 256 + (x : Int) := by
  have e : (v : Int) * 256 = ((v * 256 : Nat) : Int) := by omega
  rw [e]
  show IntKind.u64.wrap ((BitVec.ofInt 64 ((v * 256 : Nat) : Int) ||| BitVec.ofInt 64 (x : Int)).toNat : Int) = _
  rw [BitVec.toNat_or, ofInt_u64 _ (by omega), ofInt_u64 _ (by omega), nat_join 8 _ _ (by omega) (by omega), IntKind.wrap_u64]
  omega

set_option maxHeartbeats 1600000 in
theorem djoined_any (w : World) (b o c : Nat) (l : List UInt8) (m : Nat) (hl : l.length = m) (hm : m ≤ 8) (h : BytesAt w (some ⟨b, o, none⟩) l) :
    Calls Try.prog 47 #[.slice (some ⟨b, o, none⟩) m c] w fun e w' => e = .returned (.int .u64 (numB l : Int)) ∧ w' = w := by
  have HB := hide h
  clear h
  go_enter Try.func47, Try.ntmps47
  go_wp2
  go_loopw [3, 8] (fun x i wr => ∃ k : Nat, k ≤ m ∧ i = .int .i64 k ∧ x = .int .u64 (numB (l.take k) : Int) ∧ wr = w) (fun _ i _ => m - (intOf i).toNat)
  case atStart => exact ⟨0, by omega, rfl, rfl, rfl⟩
  case round =>
    obtain ⟨k, hk, rfl, rfl, rfl⟩ := hrel
    by_cases hlt : k < m
    · have hlt1 : (k : Int) < (m : Int) := by omega
      have hkl : k < l.length := by omega
      have c0 := bytes_get (unhide HB) hkl
      have hs := numB_take hkl
      have hb := (l[k]).toNat_lt
      have h7 := numB_small (l := l.take (k + 1)) (k := 8) (m := 0) (by rw [List.length_take]; omega)
      obtain ⟨Q, hQQ⟩ : ∃ Q, Q = numB (l.take (k + 1)) := ⟨_, rfl⟩
      rw [← hQQ] at hs h7
      generalize numB (l.take k) = P at *
      generalize (l[k]).toNat = x at *
      have hQ : (Q : Int) = (P : Int) * 256 + (x : Int) := by omega
      have hor := or_u64 P x (by omega) (by omega)
      have hP2 : IntKind.u64.wrap ((P : Int) * 256) = (P : Int) * 256 := by rw [IntKind.wrap_u64]; omega
      have hP3 : (P : Int) * 256 ≤ 18446744073709551615 := by omega
      have hx2 : (x : Int) ≤ 255 := by omega
      have HQ := hide hQ
      have HQQ := hide hQQ
      clear h7 hQ hQQ hs
      go_wp2
      go_roundw
      case rel => exact ⟨k + 1, by omega, by go_num, by rw [← unhide HQQ, unhide HQ], by first | rfl | trivial⟩
      case measure => simp [intOf]; omega
    · obtain rfl : k = m := by omega
      have ht : l.take k = l := List.take_of_length_le (by omega)
      rw [ht]
      go_wp2
      go_ret
      exact ⟨rfl, rfl⟩

/-- An append to bytes of one's own that are not nil. -/
theorem listN_append {w : World} {ops : Array Oper} {rest : List Oper} {o : Oper} {a : Act} {Q : Exit → Act → World → Prop} (hgd : o.guard = none) (s x : Operand) (ho : o.op = .call { callee := .builtin .append, args := #[s, x], argTypes := #[22, 22] })
    (base g n cap : Nat) (xs : List UInt8) (hs : a.eval s = .slice (some ⟨g, 0, none⟩) n cap) (hown : w.ownsRow base 5 1 (.slice (some ⟨g, 0, none⟩) n cap) n (bv xs)) (src : Option Addr) (m c : Nat) (ys : List UInt8) (hx : a.eval x = .slice src m c) (hb : Bs w src m ys) (hnil : src = none → m = 0 ∧ c = 0)
    (hsm : n + m ≤ 140737488355328) (hbase : base ≤ w.heap.size) (h : ∀ g' c' w', w'.ownsRow base 5 1 (.slice (some ⟨g', 0, none⟩) (n + m) c') (n + m) (bv (xs ++ ys)) → w.grownBy w' (some g) → wpList Try.prog ops Q rest (a.put o.dst (.slice (some ⟨g', 0, none⟩) (n + m) c')) w') : wpList Try.prog ops Q (o :: rest) a w := by
  obtain ⟨i0, hi, hz0, hz1, hz2⟩ := info_parts infoB
  refine wpList_plain hgd fun K hK => ?_
  cases src with
  | none =>
    obtain ⟨rfl, rfl⟩ := hnil rfl
    have h0 : ys = [] := List.eq_nil_of_length_eq_zero hb.1
    subst h0
    have hrun := run_append_owned_none (P := Try.prog) (w := w) base 22 o.type 5 i0 1 Try.underlying22 hi _ n (bv xs) hown
    unfold Oper.wp
    simp [execOp, ho, resolve, invoke, builtin, hs, hx, hrun, Result.andThen]
    exact hK _ _ (h g cap w (by rw [List.append_nil]; exact hown) ⟨rfl, rfl, rfl, Nat.le_refl _, fun _ _ _ => rfl⟩)
  | some ad =>
    refine wp_append_own w s x 22 ho base 5 i0 (.int .u8 0) 1 1 Try.underlying22 hi hz0 hz1 hz2 rfl (by decide) _ n (bv xs) hs hown ad m c (bv ys) hx (by rw [bv_length, hb.1]; omega) (hb.at.2 ad rfl) (bv_one _) (by unfold maxLen; omega) (by omega) hbase ?_
    intro v' w' h1 h2 h3
    rcases h1.2 with ⟨e, _⟩ | ⟨g', c', cur, rfl, _⟩
    · have := (h3.1 e).1
      cases this
    · exact hK _ _ (h g' c' w' (by rw [bv_append]; exact h1) h2)

set_option maxHeartbeats 1600000 in
theorem bClone_any (w : World) (ad : Addr) (n c : Nat) (l : List UInt8) (hb : Bs w (some ad) n l) (hn : n ≤ 140737488351232) :
    Calls Try.prog 37 #[.slice (some ad) n c] w fun e w' => ∃ g d, e = .returned (.slice (some ⟨g, 0, none⟩) n d) ∧ w'.ownsRow w.heap.size 5 1 (.slice (some ⟨g, 0, none⟩) n d) n (bv l) ∧ Below w.heap.size w w' := by
  have q : ∀ (w : World) (a : Option Addr) (n c n' c' : Nat), (binOp .eql 22 (.slice a n c) (.slice none n' c')).run Try.prog w = .ok (.bool a.isNone) w := fun w a n c n' c' => Lib.run_eql_slice_nil w _ _ a n c n' c' Try.underlying22
  have hown : (w.alloc (.cells #[] 5)).ownsRow w.heap.size 5 1 (.slice (some ⟨w.heap.size, 0, none⟩) 0 0) 0 (bv []) := World.ownsRow_made w #[] 0 (Nat.le_refl _) (by simp) rfl
  have HB := hide (hb.below ((Below.refl _ _).alloc (Nat.le_refl _) (.cells #[] 5)))
  clear hb
  go_enter Try.func37, Try.ntmps37
  go_wp2_with (at_builtin; refine listN_append rfl _ _ rfl w.heap.size w.heap.size 0 0 [] rfl hown (some ad) n c l rfl (unhide HB) (fun e => by cases e) (by omega) (by simp) ?_)
  intro g d w1 o1 g1
  have hb1 : Below w.heap.size w w1 := ((Below.refl _ _).alloc (Nat.le_refl _) _).grown g1 (by simp) (fun k hk => by simp at hk; omega)
  have HO := hide o1
  have HB1 := hide hb1
  clear o1 g1 hb1 hown HB
  go_wp2
  go_ret
  exact ⟨g, d, rfl, unhide HO, unhide HB1⟩

theorem pair_set {W : World} {A : Nat} {T : TypeId} {a0 a1 : Value} (c0 c1 : Value) (h : W.heap[A]? = some (.cells #[a0, a1] T (0, 0))) :
    ((W.setCell ⟨A, 0, none⟩ c0).setCell ⟨A, 1, none⟩ c1).heap[A]? = some (.cells #[c0, c1] T (0, 0)) := by
  have h1 := heap_setCell_same W A 0 _ _ c0 h
  exact heap_setCell_same _ A 1 _ _ c1 h1
theorem sizeSp : (Try.prog.info? 59).map (·.size) = some 2 := by kernel_rfl

set_option maxHeartbeats 1600000 in
theorem dspanOf_any (w : World) (a : Option Addr) (n c : Nat) (l : List UInt8) (hb : Arg w a n c l) (hn : n ≤ 140737488351232) :
    Calls Try.prog 30 #[.slice a n c] w fun e w' => ∃ g d, e = .returned (.agg #[.slice (some ⟨g, 0, none⟩) n d, .int .i64 0]) ∧ w'.ownsRow w.heap.size 5 1 (.slice (some ⟨g, 0, none⟩) n d) n (bv l) ∧ Below w.heap.size w w' := by
  have b0 : Below w.heap.size w (w.alloc (.cells #[.slice none 0 0, .int .i64 0] 59)) := (Below.refl _ _).alloc (Nat.le_refl _) _
  have hl0 := heap_alloc_last w (.cells #[.slice none 0 0, .int .i64 0] 59)
  have hown : ((w.alloc (.cells #[.slice none 0 0, .int .i64 0] 59)).alloc (.cells #[] 5)).ownsRow (w.heap.size + 1) 5 1 (.slice (some ⟨w.heap.size + 1, 0, none⟩) 0 0) 0 (bv []) := by
    have := World.ownsRow_made (base := w.heap.size + 1) (e := 5) (size := 1) (w.alloc (.cells #[.slice none 0 0, .int .i64 0] 59)) #[] 0 (by simp) (by simp) rfl
    simpa [bv] using this
  have b1 : Below w.heap.size w ((w.alloc (.cells #[.slice none 0 0, .int .i64 0] 59)).alloc (.cells #[] 5)) := b0.alloc (by simp) _
  have hl1 : ((w.alloc (.cells #[.slice none 0 0, .int .i64 0] 59)).alloc (.cells #[] 5)).heap[w.heap.size]? = _ := (heap_alloc_old _ _ (by simp)).trans hl0
  have hsz : w.heap.size + 1 ≤ ((w.alloc (.cells #[.slice none 0 0, .int .i64 0] 59)).alloc (.cells #[] 5)).heap.size := by simp
  have HB := hide (hb.bs.below b1)
  have HN := hide hb.nil
  have HO0 := hide hown
  have HL1 := hide hl1
  have B1 := hide b1
  have HS := hide hsz
  clear hb hown b0 hl0 b1 hl1 hsz
  go_enter Try.func30, Try.ntmps30
  go_wp2_with (at_builtin; refine listN_append rfl _ _ rfl (w.heap.size + 1) (w.heap.size + 1) 0 0 [] rfl (unhide HO0) a n c l rfl (unhide HB) (unhide HN) (by omega) (unhide HS) ?_)
  intro g d w1 o1 g1
  have hb1 : Below w.heap.size w w1 := (unhide B1).grown g1 (by have := unhide HS; omega) (fun k hk => by simp at hk; omega)
  have hl2 : w1.heap[w.heap.size]? = _ := (g1.block w.heap.size (by have := unhide HS; omega) (by simp)).trans (unhide HL1)
  have hgb := o1.lt g rfl
  have cc0 : w1.cell? ⟨w.heap.size, 0, none⟩ = some (.slice none 0 0) := by rw [cell_of_row _ _ _ _ _ _ hl2]; rfl
  have cc1 : w1.cell? ⟨w.heap.size, 1, none⟩ = some (.int .i64 0) := by rw [cell_of_row _ _ _ _ _ _ hl2]; rfl
  have f0 : ∀ j, w1.frozen? ⟨w.heap.size, j, none⟩ = false := fun j => frozen_of_row _ _ _ _ _ hl2
  have HO := hide o1
  have HB1 := hide hb1
  have HL2 := hide hl2
  clear o1 g1 hb1 hl2 HB HN HO0 HL1 B1 HS
  go_wp2
  refine bodyPost_ret (v := .agg #[.slice (some ⟨g, 0, none⟩) n d, .int .i64 0]) ?_ rfl ⟨g, d, rfl, ?_, ?_⟩
  · exact results_cell_row Try.results30 _ _ w.heap.size 59 _ (0, 0) _ rfl (pair_set _ _ (unhide HL2)) Try.underlying59 rfl sizeSp
  · refine own_of_block (own_base (unhide HO) (by omega)) (fun k hk => ?_)
    simp [Value.ownBlock] at hk
    subst hk
    have hne : g ≠ w.heap.size := by omega
    exact (Below.heap_setCell _ _ _ _ hne).trans (Below.heap_setCell _ _ _ _ hne)
  · exact ((unhide HB1).setCell (p := ⟨w.heap.size, 0, none⟩) (Nat.le_refl _) _).setCell (p := ⟨w.heap.size, 1, none⟩) (Nat.le_refl _) _

end Go.Proofs.Ytkmcpedhcdgnoaa
