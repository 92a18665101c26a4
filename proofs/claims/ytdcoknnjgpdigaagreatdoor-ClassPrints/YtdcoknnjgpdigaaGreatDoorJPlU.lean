/- The document's own pool: Bytes (written by mk/mkbytes.py). -/
import Derived.Test.YtdcoknnjgpdigaaGreatDoorJP4
import Derived.Test.YtdcoknnjgpdigaaGreatDoorJP1
import Derived.Test.YtdcoknnjgpdigaaGreatDoorJP3
import Derived.Test.YtdcoknnjgpdigaaGreatDoorJP11
import Derived.Lib.AppendStr

namespace Go.Proofs.YtdcoknnjgpdigaaGreatDoor
open Go.RowKit
set_option linter.unusedVariables false

theorem bodyE_le {l : List Ent} {x : Ent} (h : okE l x = true) : (bodyE x).length ≤ 260 := by
  have ht := okE_tag h
  unfold bodyE
  unfold okE at h
  rcases ht with t | t | t | t | t | t | t <;> simp [t] at h ⊢ <;> simp [bytesW_len]
  have := h.1
  unfold textB at this
  simp at this
  omega
/-- Numbers put behind bytes of one's own. -/
theorem putOwn (W : World) (a : Option Addr) (n c : Nat) (bs : List UInt8) (k : Int) (sg : Bool) (la : Option Addr) (ln lc : Nat) (zs : List Int) (hb : Arg W a n c bs) (hl : Nums W la ln zs) (hf : ∀ z ∈ zs, fitsW k z sg) (hw : wide k) (hz : ∀ z ∈ zs, -9223372036854775808 ≤ z ∧ z ≤ 9223372036854775807) (hs : n + 8 * ln ≤ 1000000) :
    Calls Tryz.prog 67 #[.slice a n c, .int .i64 k, .bool sg, .slice la ln lc] W fun e w' => ∃ a' n' c', e = .returned (.tuple #[.slice a' n' c', .int .i64 0]) ∧ n' = n + ln * k.toNat ∧ w'.ownsRow W.heap.size 5 1 (.slice a' n' c') n' (bv (bs ++ zs.flatMap (bytesW k))) ∧ Below W.heap.size W w' := by
  refine (hPut_any W a n c bs hb k (by rcases hw with rfl | rfl | rfl | rfl <;> omega) sg la ln lc zs hl hz (by omega)).mono ?_
  rw [putW_ok hw hf]
  rintro e w' ⟨a', n', c', rfl, h1, _, f⟩
  have o := h1 rfl
  refine ⟨a', n', c', rfl, ?_, o, f⟩
  have hl2 := o.1
  rw [bv_length, List.length_append, flat_len, hb.len, hl.1] at hl2
  omega
theorem nums_two (w : World) (x y : Int) : Nums (w.alloc (.cells #[.int .i64 x, .int .i64 y] 3)) (some ⟨w.heap.size, 0, none⟩) 2 [x, y] := by
  refine ⟨rfl, .inr ⟨_, _, rfl, fun j z hz => ?_⟩⟩
  have h := heap_alloc_last w (.cells #[.int .i64 x, .int .i64 y] 3)
  match j with
  | 0 =>
    simp at hz
    subst hz
    rw [cell_of_row _ _ _ _ _ _ h]
    rfl
  | 1 =>
    simp at hz
    subst hz
    rw [cell_of_row _ _ _ _ _ _ h]
    rfl
  | j + 2 => simp at hz

/-- Between the rounds of Bytes. -/
structure BI (w : World) (l : List Ent) (k : Nat) (v : Value) (W : World) : Prop where
  own : W.ownsRow w.heap.size 5 1 v (bytesW 2 l.length ++ ((l.take k).drop 1).flatMap bytesE).length (bv (bytesW 2 l.length ++ ((l.take k).drop 1).flatMap bytesE))
  bel : Below w.heap.size w W
  len : (bytesW 2 l.length ++ ((l.take k).drop 1).flatMap bytesE).length ≤ 2 + 300 * k
theorem take_drop1 {l : List Ent} {k : Nat} {x : Ent} (hk : 1 ≤ k) (hx : l[k]? = some x) : ((l.take (k + 1)).drop 1).flatMap bytesE = ((l.take k).drop 1).flatMap bytesE ++ bytesE x := by
  have hl := (List.getElem?_eq_some_iff.1 hx).1
  rw [List.take_add_one, hx]
  rw [List.drop_append_of_le_length (by rw [List.length_take]; omega), List.flatMap_append]
  simp
theorem BI.next {w W W' : World} {l : List Ent} {k : Nat} {v v' : Value} {x : Ent} (h : BI w l k v W) (hk : 1 ≤ k) (hx : l[k]? = some x) (hle : (bytesE x).length ≤ 300) (n' : Nat) (ho : W'.ownsRow w.heap.size 5 1 v' n' (bv ((bytesW 2 l.length ++ ((l.take k).drop 1).flatMap bytesE) ++ bytesE x))) (f : Below w.heap.size w W') : BI w l (k + 1) v' W' := by
  have hl := h.len
  have e := take_drop1 hk hx
  have e2 : bytesW 2 l.length ++ ((l.take (k + 1)).drop 1).flatMap bytesE = (bytesW 2 l.length ++ ((l.take k).drop 1).flatMap bytesE) ++ bytesE x := by rw [e, List.append_assoc]
  have hn := ho.1
  rw [bv_length, Nat.mul_one] at hn
  refine ⟨?_, f, ?_⟩
  · rw [e2, hn]
    exact ho
  · rw [e2, List.length_append]
    omega

set_option maxHeartbeats 6400000 in
set_option maxRecDepth 100000 in
theorem jBytes_any (w : World) (a : Option Addr) (n c : Nat) (l : List Ent) (h : Es w a n l) (hr : checkP l = true) (hf : ∀ x ∈ l, EntFit x) :
    Calls Tryz.prog 26 #[.slice a n c] w fun e w' => ∃ v, e = .returned v ∧ w'.ownsRow w.heap.size 5 1 v (bytesP l).length (bv (bytesP l)) ∧ Below w.heap.size w w' := by
  have hln := h.1
  obtain ⟨⟨hn1, hn2⟩, hr0, hr2⟩ := checkP_iff.1 hr
  have HE := hide h
  have b0 : Below w.heap.size w (w.alloc (.cells #[.int .i64 (n : Int)] 3)) := (Below.refl _ _).alloc (Nat.le_refl _) _
  have HP := hide (putOwn (w.alloc (.cells #[.int .i64 (n : Int)] 3)) none 0 0 [] 2 false (some ⟨w.heap.size, 0, none⟩) 1 1 [(n : Int)] ⟨⟨rfl, .inl rfl⟩, by omega, by omega, fun _ => ⟨rfl, rfl⟩⟩ (nums_one w n) (by intro z hz; simp at hz; subst hz; exact fits2 (by omega)) (by unfold wide; omega) (by intro z hz; simp at hz; omega) (by omega))
  have B0 := hide b0
  clear h b0
  have hnI : (n : Int) ≤ 1024 := by omega
  go_enter Tryz.func26, Tryz.ntmps26
  go_wp2_with fail
  refine (unhide HP).mono ?_
  rintro e w1 ⟨a1, n1, c1, rfl, hn', o1, f1⟩
  have hI : BI w l 1 (.slice a1 n1 c1) w1 := by
    have e1 : ((l.take 1).drop 1).flatMap bytesE = [] := by
      rw [List.drop_eq_nil_of_le (by rw [List.length_take]; omega)]
      rfl
    have e2 : [] ++ [(n : Int)].flatMap (bytesW 2) = bytesW 2 l.length := by simp [hln]
    rw [e2] at o1
    have e3 : (bytesW 2 (l.length : Int)).length = 2 := by rw [bytesW_len]; rfl
    refine ⟨?_, (unhide B0).trans (f1.mono (unhide B0).size), ?_⟩
    · rw [e1, List.append_nil, e3]
      have e4 : n1 = 2 := by rw [hn']; rfl
      subst e4
      exact own_base o1 (unhide B0).size
    · rw [e1, List.append_nil, e3]
      omega
  have HI := hide hI
  clear HP o1 f1 hI B0 hn'
  go_wp2
  go_loopw [3, 5] (fun v i wr => ∃ k : Nat, 1 ≤ k ∧ k ≤ n ∧ i = .int .i64 k ∧ BI w l k v wr) (fun _ i _ => n - (intOf i).toNat)
  case atStart => exact ⟨1, by omega, by omega, rfl, unhide HI⟩
  case round =>
    obtain ⟨k, hk1, hk, rfl, hI⟩ := hrel
    clear HI
    by_cases hlt : k < n
    case neg =>
      obtain rfl : k = n := by omega
      have hfin : Hid (wr.ownsRow w.heap.size 5 1 u3 (bytesP l).length (bv (bytesP l)) ∧ Below w.heap.size w wr) := by
        have ht : l.take k = l := List.take_of_length_le (by omega)
        have ho := hI.own
        rw [ht] at ho
        exact ⟨ho, hI.bel⟩
      clear hI HE
      go_wp2
      go_ret
      exact ⟨_, rfl, (unhide hfin).1, (unhide hfin).2⟩
    have hlt1 : (k : Int) < (n : Int) := by omega
    obtain ⟨b, o, rfl, hE⟩ := ((unhide HE).below hI.bel).2.resolve_left (by omega)
    obtain ⟨x, hx⟩ : ∃ x, l[k]? = some x := ⟨_, List.getElem?_eq_getElem (by omega)⟩
    obtain ⟨c0, c1, c2, c3, c4⟩ := ents_get hE hx
    have hxF := hf x (List.mem_of_getElem? hx)
    by_cases h0 : x.tag = 0
    case pos =>
      have HN : Hid (BI w l (k + 1) u3 (wr.alloc (.cells #[.int .i64 x.tag, .string ⟨x.text.toArray⟩, .int .i64 x.n, .int .i64 x.a, .int .i64 x.b] 55))) := by
        have e0 : bytesE x = [] := by unfold bytesE; rw [if_pos h0]
        refine hI.next hk1 hx (by rw [e0]; simp) _ (by rw [e0, List.append_nil]; exact hI.own.alloc _) (hI.bel.alloc hI.bel.size _)
      rw [h0] at c0 HN
      generalize (⟨x.text.toArray⟩ : ByteArray) = st at *
      clear hI hE hx hxF HE
      go_wp2
      go_roundw
      case rel => exact ⟨k + 1, by omega, by omega, by go_num, unhide HN⟩
      case measure => simp [intOf]; omega
    have hok := goE_mem _ hr2 x (by
      obtain ⟨k', rfl⟩ : ∃ k', k = k' + 1 := ⟨k - 1, by omega⟩
      refine List.mem_of_getElem? (i := k') ?_
      rw [List.getElem?_drop, Nat.add_comm]
      exact hx) h0
    have hble := bodyE_le hok
    have htag := okE_tag hok
    have hbE : bytesE x = UInt8.ofNat x.tag.toNat :: bodyE x := by unfold bytesE; rw [if_neg h0]
    have hbl : (bytesE x).length ≤ 300 := by rw [hbE, List.length_cons]; omega
    have HNX : Hid (∀ v' n' W', W'.ownsRow w.heap.size 5 1 v' n' (bv ((bytesW 2 l.length ++ ((l.take k).drop 1).flatMap bytesE) ++ bytesE x)) → Below w.heap.size w W' → BI w l (k + 1) v' W') := fun v' n' W' ho f => hI.next hk1 hx hbl n' ho f
    rw [hbE] at HNX
    have hlen := hI.len
    have hown := hI.own
    have hbel := hI.bel
    generalize hP : bytesW 2 l.length ++ ((l.take k).drop 1).flatMap bytesE = P at *
    obtain ⟨tag, text, nn, aa, bb⟩ := x
    simp only at c0 c1 c2 c3 c4 h0 htag HNX
    obtain ⟨ap, cp, rfl, _⟩ := own_form hown
    obtain ⟨tb, htb⟩ : ∃ tb : UInt8, tb = UInt8.ofNat tag.toNat := ⟨_, rfl⟩
    have htv : IntKind.u8.wrap tag = (tb.toNat : Int) := by
      rw [htb, IntKind.wrap_u8]
      simp
      omega
    rw [← htb] at HNX
    have HOK := hide hok
    have HXF := hide hxF
    have hPn : P.length ≤ 307202 := by omega
    clear hI hE hx hxF HE hbE hbl hble hok hP htb hr2 hr0 hf
    have HOWN := hide hown
    have HBEL := hide hbel
    have hszw := hbel.size
    -- the tag's byte
    have hown1 := (hown.alloc (.cells #[.int .i64 tag, .string ⟨text.toArray⟩, .int .i64 nn, .int .i64 aa, .int .i64 bb] 55)).alloc (.cells #[.int .u8 (tb.toNat : Int)] 5)
    have hsrc1 : Bs ((wr.alloc (.cells #[.int .i64 tag, .string ⟨text.toArray⟩, .int .i64 nn, .int .i64 aa, .int .i64 bb] 55)).alloc (.cells #[.int .u8 (tb.toNat : Int)] 5)) (some ⟨wr.heap.size + 1, 0, none⟩) 1 [tb] := by
      have hq := heap_alloc2_new wr (.cells #[.int .i64 tag, .string ⟨text.toArray⟩, .int .i64 nn, .int .i64 aa, .int .i64 bb] 55) (.cells #[.int .u8 (tb.toNat : Int)] 5)
      exact ⟨rfl, .inr ⟨_, _, rfl, bytes_of_block (l := [tb]) hq⟩⟩
    have HST : Hid (∀ W, (((wr.alloc (.cells #[.int .i64 tag, .string ⟨text.toArray⟩, .int .i64 nn, .int .i64 aa, .int .i64 bb] 55)).alloc (.cells #[.int .u8 (tb.toNat : Int)] 5))).grownBy W (Value.slice ap P.length cp).ownBlock → W.heap[wr.heap.size]? = some (.cells #[.int .i64 tag, .string ⟨text.toArray⟩, .int .i64 nn, .int .i64 aa, .int .i64 bb] 55 (0, 0)) ∧ Below w.heap.size w W) := fun W g => by
      refine ⟨(g.block wr.heap.size (by simp; omega) (fun e => ?_)).trans ((heap_alloc_old _ _ (by simp)).trans (heap_alloc_last wr _)), ?_⟩
      · have := ((unhide HOWN).lt wr.heap.size e.symm).2
        omega
      · exact (((unhide HBEL).alloc hszw _).alloc (Nat.le_trans hszw (by simp)) _).grown g (Nat.le_trans hszw (by simp; omega)) (fun q hq => ((unhide HOWN).lt q hq).1)
    clear hown hbel
    rcases htag with t | t | t | t | t | t | t
    · subst t
      have hT : text.length ≤ 255 := by
        have := unhide HOK
        unfold okE textB at this
        simp at this
        omega
      have hsz : (⟨text.toArray⟩ : ByteArray).size = text.length := by simp [ByteArray.size]
      have hcells : Lib.strCells ⟨text.toArray⟩ = bv text := by
        simp [Lib.strCells, bv]
      obtain ⟨i0, hi, hz0, hz1, hz2⟩ := info_parts infoB
      go_wp2_with (at_builtin; refine listB_append rfl _ _ rfl w.heap.size (.slice ap P.length cp) P.length P rfl (by exact hown1) (some ⟨wr.heap.size + 1, 0, none⟩) 1 1 [tb] rfl (by exact hsrc1) (fun e => by cases e) (by omega) (Nat.le_trans hszw (by simp; omega)) ?_)
      intro v2 w2 o2 g2
      obtain ⟨hx2, f2⟩ := unhide HST w2 g2
      obtain ⟨k0, k1, k2, k3, k4⟩ := entC (x := ⟨1, text, nn, aa, bb⟩) hx2
      simp only at k0 k1 k2 k3 k4
      obtain ⟨a2, c2', rfl, _⟩ := own_form o2
      have harg2 : Arg w2 a2 (P.length + 1) c2' (P ++ [tb]) := arg_of_own (by simp) o2
      have hs2 := f2.size
      have HP2 := hide (putOwn (w2.alloc (.cells #[.int .i64 (text.length : Int)] 3)) a2 (P.length + 1) c2' (P ++ [tb]) 2 false (some ⟨w2.heap.size, 0, none⟩) 1 1 [(text.length : Int)] (harg2.below ((Below.refl _ _).alloc (Nat.le_refl _) _)) (nums_one w2 _) (by intro z hz; simp at hz; subst hz; exact fits2 (by omega)) (by unfold wide; omega) (by intro z hz; simp at hz; omega) (by omega))
      have HF2 := hide f2
      clear o2 g2 harg2 f2 hown1 hsrc1 HST HOWN HBEL
      have HX2 := hide hx2
      clear hx2
      go_wp2_with fail
      refine (unhide HP2).mono ?_
      rintro e w3 ⟨a3, n3, c3', rfl, hn3, o3, f3⟩
      have hf3 : Below w.heap.size w w3 := ((unhide HF2).alloc hs2 _).trans (f3.mono (by simp; omega))
      have ho3 := own_base (base' := w.heap.size) o3 (by simp; omega)
      have hx3 : w3.heap[wr.heap.size]? = _ := (f3.block wr.heap.size (by have := lt_of_heap (unhide HX2); simp; omega)).trans ((heap_alloc_old _ _ (lt_of_heap (unhide HX2))).trans (unhide HX2))
      obtain ⟨_, m1, _, _, _⟩ := entC (x := ⟨1, text, nn, aa, bb⟩) hx3
      simp only at m1
      have hn3' : n3 ≤ 400000 := by
        rw [hn3]
        show P.length + 1 + 1 * 2 ≤ 400000
        omega
      have HN3 := hide hn3
      have HF3 := hide hf3
      have HO3 := hide ho3
      have h3s := hf3.size
      clear hx3 o3 f3 hf3 ho3 hn3 HP2 HF2 HX2 k0 k1 k2 k3 k4
      obtain ⟨st, hst⟩ : ∃ st, (⟨text.toArray⟩ : ByteArray) = st := ⟨_, rfl⟩
      rw [hst] at m1 hcells
      rw [hst] at hsz
      have HC := hide hcells
      clear hst hcells
      go_wp2_with (at_builtin; refine Lib.wpList_append_own_string _ rfl _ _ 29 9 rfl w.heap.size 5 i0 Tryz.underlying29 Tryz.underlying9 hi hz0 hz1 hz2 _ n3 _ rfl (unhide HO3) st rfl ?c3 ?c4 ?c5 ?_)
      case c3 => rw [hsz]; unfold maxLen; omega
      case c4 => rw [hsz]; omega
      case c5 => exact h3s
      intro v4 w4 o4 g4 _
      have hf4 : Below w.heap.size w w4 := (unhide HF3).grown g4 h3s (fun q hq => ((unhide HO3).lt q hq).1)
      have HN := hide (unhide HNX v4 _ w4 (by
        have e : bv (P ++ (tb :: bodyE ⟨1, text, nn, aa, bb⟩)) = bv (P ++ tb :: bytesW 2 (text.length : Int)) ++ Lib.strCells st := by
          rw [unhide HC, ← bv_append]
          congr 1
          show P ++ (tb :: (bytesW 2 text.length ++ text)) = _
          simp
        rw [e]
        exact o4) hf4)
      clear o4 g4 hf4 HO3 HF3 HNX HC HN3
      go_wp2
      go_roundw
      case rel => exact ⟨k + 1, by omega, by omega, by go_num, unhide HN⟩
      case measure => simp [intOf]; omega
    · subst t
      have hok3 := unhide HOK
      have hr3 : -2147483648 ≤ nn ∧ nn ≤ 2147483647 := by
        unfold okE at hok3
        simp at hok3
        exact hok3.1
      go_wp2_with (at_builtin; refine listB_append rfl _ _ rfl w.heap.size (.slice ap P.length cp) P.length P rfl (by exact hown1) (some ⟨wr.heap.size + 1, 0, none⟩) 1 1 [tb] rfl (by exact hsrc1) (fun e => by cases e) (by omega) (Nat.le_trans hszw (by simp; omega)) ?_)
      intro v2 w2 o2 g2
      obtain ⟨hx2, f2⟩ := unhide HST w2 g2
      obtain ⟨k0, k1, k2, k3, k4⟩ := entC (x := ⟨3, text, nn, aa, bb⟩) hx2
      simp only at k0 k1 k2 k3 k4
      obtain ⟨a2, c2', rfl, _⟩ := own_form o2
      have harg2 : Arg w2 a2 (P.length + 1) c2' (P ++ [tb]) := arg_of_own (by simp) o2
      have hs2 := f2.size
      have HP2 := hide (putOwn (w2.alloc (.cells #[.int .i64 nn] 3)) a2 (P.length + 1) c2' (P ++ [tb]) 4 true (some ⟨w2.heap.size, 0, none⟩) 1 1 [nn] (harg2.below ((Below.refl _ _).alloc (Nat.le_refl _) _)) (nums_one w2 nn) (by intro z hz; simp at hz; subst hz; exact fits4 hr3) (by unfold wide; omega) (by intro z hz; simp at hz; omega) (by omega))
      have HF2 := hide f2
      clear o2 g2 hx2 harg2 f2 hown1 hsrc1 HST HOWN HBEL
      go_wp2_with fail
      refine (unhide HP2).mono ?_
      rintro e w3 ⟨a3, n3, c3', rfl, hn3, o3, f3⟩
      have hf3 : Below w.heap.size w w3 := ((unhide HF2).alloc hs2 _).trans (f3.mono (by simp; omega))
      have ho3 := own_base (base' := w.heap.size) o3 (by simp; omega)
      have HN := hide (unhide HNX _ n3 w3 (by
        have e : P ++ (tb :: bodyE ⟨3, text, nn, aa, bb⟩) = P ++ [tb] ++ [nn].flatMap (bytesW 4) := by
          show P ++ (tb :: bytesW 4 nn) = _
          simp
        rw [e]
        exact ho3) hf3)
      clear ho3 o3 f3 hf3 HP2 HF2 HNX hn3
      go_wp2
      go_roundw
      case rel => exact ⟨k + 1, by omega, by omega, by go_num, unhide HN⟩
      case measure => simp [intOf]; omega
    · subst t
      have hr5 := (unhide HXF).2.1
      simp only at hr5
      go_wp2_with (at_builtin; refine listB_append rfl _ _ rfl w.heap.size (.slice ap P.length cp) P.length P rfl (by exact hown1) (some ⟨wr.heap.size + 1, 0, none⟩) 1 1 [tb] rfl (by exact hsrc1) (fun e => by cases e) (by omega) (Nat.le_trans hszw (by simp; omega)) ?_)
      intro v2 w2 o2 g2
      obtain ⟨hx2, f2⟩ := unhide HST w2 g2
      obtain ⟨k0, k1, k2, k3, k4⟩ := entC (x := ⟨5, text, nn, aa, bb⟩) hx2
      simp only at k0 k1 k2 k3 k4
      obtain ⟨a2, c2', rfl, _⟩ := own_form o2
      have harg2 : Arg w2 a2 (P.length + 1) c2' (P ++ [tb]) := arg_of_own (by simp) o2
      have hs2 := f2.size
      have HP2 := hide (putOwn (w2.alloc (.cells #[.int .i64 nn] 3)) a2 (P.length + 1) c2' (P ++ [tb]) 8 true (some ⟨w2.heap.size, 0, none⟩) 1 1 [nn] (harg2.below ((Below.refl _ _).alloc (Nat.le_refl _) _)) (nums_one w2 nn) (by intro z hz; simp at hz; subst hz; exact fits8 _) (by unfold wide; omega) (by intro z hz; simp at hz; omega) (by omega))
      have HF2 := hide f2
      clear o2 g2 hx2 harg2 f2 hown1 hsrc1 HST HOWN HBEL
      go_wp2_with fail
      refine (unhide HP2).mono ?_
      rintro e w3 ⟨a3, n3, c3', rfl, hn3, o3, f3⟩
      have hf3 : Below w.heap.size w w3 := ((unhide HF2).alloc hs2 _).trans (f3.mono (by simp; omega))
      have ho3 := own_base (base' := w.heap.size) o3 (by simp; omega)
      have HN := hide (unhide HNX _ n3 w3 (by
        have e : P ++ (tb :: bodyE ⟨5, text, nn, aa, bb⟩) = P ++ [tb] ++ [nn].flatMap (bytesW 8) := by
          show P ++ (tb :: bytesW 8 nn) = _
          simp
        rw [e]
        exact ho3) hf3)
      clear ho3 o3 f3 hf3 HP2 HF2 HNX hn3
      go_wp2
      go_roundw
      case rel => exact ⟨k + 1, by omega, by omega, by go_num, unhide HN⟩
      case measure => simp [intOf]; omega
    · subst t
      have hr7 : 0 ≤ aa ∧ aa < l.length := by
        have h7 := unhide HOK
        unfold okE at h7
        simp at h7
        exact tagE_in (by omega)
      go_wp2_with (at_builtin; refine listB_append rfl _ _ rfl w.heap.size (.slice ap P.length cp) P.length P rfl (by exact hown1) (some ⟨wr.heap.size + 1, 0, none⟩) 1 1 [tb] rfl (by exact hsrc1) (fun e => by cases e) (by omega) (Nat.le_trans hszw (by simp; omega)) ?_)
      intro v2 w2 o2 g2
      obtain ⟨hx2, f2⟩ := unhide HST w2 g2
      obtain ⟨k0, k1, k2, k3, k4⟩ := entC (x := ⟨7, text, nn, aa, bb⟩) hx2
      simp only at k0 k1 k2 k3 k4
      obtain ⟨a2, c2', rfl, _⟩ := own_form o2
      have harg2 : Arg w2 a2 (P.length + 1) c2' (P ++ [tb]) := arg_of_own (by simp) o2
      have hs2 := f2.size
      have HP2 := hide (putOwn (w2.alloc (.cells #[.int .i64 aa] 3)) a2 (P.length + 1) c2' (P ++ [tb]) 2 false (some ⟨w2.heap.size, 0, none⟩) 1 1 [aa] (harg2.below ((Below.refl _ _).alloc (Nat.le_refl _) _)) (nums_one w2 aa) (by intro z hz; simp at hz; subst hz; exact fits2 (by omega)) (by unfold wide; omega) (by intro z hz; simp at hz; omega) (by omega))
      have HF2 := hide f2
      clear o2 g2 hx2 harg2 f2 hown1 hsrc1 HST HOWN HBEL
      go_wp2_with fail
      refine (unhide HP2).mono ?_
      rintro e w3 ⟨a3, n3, c3', rfl, hn3, o3, f3⟩
      have hf3 : Below w.heap.size w w3 := ((unhide HF2).alloc hs2 _).trans (f3.mono (by simp; omega))
      have ho3 := own_base (base' := w.heap.size) o3 (by simp; omega)
      have HN := hide (unhide HNX _ n3 w3 (by
        have e : P ++ (tb :: bodyE ⟨7, text, nn, aa, bb⟩) = P ++ [tb] ++ [aa].flatMap (bytesW 2) := by
          show P ++ (tb :: bytesW 2 aa) = _
          simp
        rw [e]
        exact ho3) hf3)
      clear ho3 o3 f3 hf3 HP2 HF2 HNX hn3
      go_wp2
      go_roundw
      case rel => exact ⟨k + 1, by omega, by omega, by go_num, unhide HN⟩
      case measure => simp [intOf]; omega
    · subst t
      have hrr : (0 ≤ aa ∧ aa < l.length) ∧ (0 ≤ bb ∧ bb < l.length) := by
        have h7 := unhide HOK
        unfold okE at h7
        simp at h7
        exact ⟨tagE_in (by omega), tagE_in (by omega)⟩
      go_wp2_with (at_builtin; refine listB_append rfl _ _ rfl w.heap.size (.slice ap P.length cp) P.length P rfl (by exact hown1) (some ⟨wr.heap.size + 1, 0, none⟩) 1 1 [tb] rfl (by exact hsrc1) (fun e => by cases e) (by omega) (Nat.le_trans hszw (by simp; omega)) ?_)
      intro v2 w2 o2 g2
      obtain ⟨hx2, f2⟩ := unhide HST w2 g2
      obtain ⟨k0, k1, k2, k3, k4⟩ := entC (x := ⟨12, text, nn, aa, bb⟩) hx2
      simp only at k0 k1 k2 k3 k4
      obtain ⟨a2, c2', rfl, _⟩ := own_form o2
      have harg2 : Arg w2 a2 (P.length + 1) c2' (P ++ [tb]) := arg_of_own (by simp) o2
      have hs2 := f2.size
      have HP2 := hide (putOwn (w2.alloc (.cells #[.int .i64 aa, .int .i64 bb] 3)) a2 (P.length + 1) c2' (P ++ [tb]) 2 false (some ⟨w2.heap.size, 0, none⟩) 2 2 [aa, bb] (harg2.below ((Below.refl _ _).alloc (Nat.le_refl _) _)) (nums_two w2 aa bb) (by intro z hz; simp at hz; rcases hz with rfl | rfl <;> exact fits2 (by omega)) (by unfold wide; omega) (by intro z hz; simp at hz; omega) (by omega))
      have HF2 := hide f2
      clear o2 g2 hx2 harg2 f2 hown1 hsrc1 HST HOWN HBEL
      go_wp2_with fail
      refine (unhide HP2).mono ?_
      rintro e w3 ⟨a3, n3, c3', rfl, hn3, o3, f3⟩
      have hf3 : Below w.heap.size w w3 := ((unhide HF2).alloc hs2 _).trans (f3.mono (by simp; omega))
      have ho3 := own_base (base' := w.heap.size) o3 (by simp; omega)
      have HN := hide (unhide HNX _ n3 w3 (by
        have e : P ++ (tb :: bodyE ⟨12, text, nn, aa, bb⟩) = P ++ [tb] ++ [aa, bb].flatMap (bytesW 2) := by
          show P ++ (tb :: (bytesW 2 aa ++ bytesW 2 bb)) = _
          simp
        rw [e]
        exact ho3) hf3)
      clear ho3 o3 f3 hf3 HP2 HF2 HNX hn3
      go_wp2
      go_roundw
      case rel => exact ⟨k + 1, by omega, by omega, by go_num, unhide HN⟩
      case measure => simp [intOf]; omega
    · subst t
      have hrr : (0 ≤ aa ∧ aa < l.length) ∧ (0 ≤ bb ∧ bb < l.length) := by
        have h7 := unhide HOK
        unfold okE at h7
        simp at h7
        exact ⟨tagE_in (by omega), tagE_in (by omega)⟩
      go_wp2_with (at_builtin; refine listB_append rfl _ _ rfl w.heap.size (.slice ap P.length cp) P.length P rfl (by exact hown1) (some ⟨wr.heap.size + 1, 0, none⟩) 1 1 [tb] rfl (by exact hsrc1) (fun e => by cases e) (by omega) (Nat.le_trans hszw (by simp; omega)) ?_)
      intro v2 w2 o2 g2
      obtain ⟨hx2, f2⟩ := unhide HST w2 g2
      obtain ⟨k0, k1, k2, k3, k4⟩ := entC (x := ⟨9, text, nn, aa, bb⟩) hx2
      simp only at k0 k1 k2 k3 k4
      obtain ⟨a2, c2', rfl, _⟩ := own_form o2
      have harg2 : Arg w2 a2 (P.length + 1) c2' (P ++ [tb]) := arg_of_own (by simp) o2
      have hs2 := f2.size
      have HP2 := hide (putOwn (w2.alloc (.cells #[.int .i64 aa, .int .i64 bb] 3)) a2 (P.length + 1) c2' (P ++ [tb]) 2 false (some ⟨w2.heap.size, 0, none⟩) 2 2 [aa, bb] (harg2.below ((Below.refl _ _).alloc (Nat.le_refl _) _)) (nums_two w2 aa bb) (by intro z hz; simp at hz; rcases hz with rfl | rfl <;> exact fits2 (by omega)) (by unfold wide; omega) (by intro z hz; simp at hz; omega) (by omega))
      have HF2 := hide f2
      clear o2 g2 hx2 harg2 f2 hown1 hsrc1 HST HOWN HBEL
      go_wp2_with fail
      refine (unhide HP2).mono ?_
      rintro e w3 ⟨a3, n3, c3', rfl, hn3, o3, f3⟩
      have hf3 : Below w.heap.size w w3 := ((unhide HF2).alloc hs2 _).trans (f3.mono (by simp; omega))
      have ho3 := own_base (base' := w.heap.size) o3 (by simp; omega)
      have HN := hide (unhide HNX _ n3 w3 (by
        have e : P ++ (tb :: bodyE ⟨9, text, nn, aa, bb⟩) = P ++ [tb] ++ [aa, bb].flatMap (bytesW 2) := by
          show P ++ (tb :: (bytesW 2 aa ++ bytesW 2 bb)) = _
          simp
        rw [e]
        exact ho3) hf3)
      clear ho3 o3 f3 hf3 HP2 HF2 HNX hn3
      go_wp2
      go_roundw
      case rel => exact ⟨k + 1, by omega, by omega, by go_num, unhide HN⟩
      case measure => simp [intOf]; omega
    · subst t
      have hrr : (0 ≤ aa ∧ aa < l.length) ∧ (0 ≤ bb ∧ bb < l.length) := by
        have h7 := unhide HOK
        unfold okE at h7
        simp at h7
        exact ⟨tagE_in (by omega), tagE_in (by omega)⟩
      go_wp2_with (at_builtin; refine listB_append rfl _ _ rfl w.heap.size (.slice ap P.length cp) P.length P rfl (by exact hown1) (some ⟨wr.heap.size + 1, 0, none⟩) 1 1 [tb] rfl (by exact hsrc1) (fun e => by cases e) (by omega) (Nat.le_trans hszw (by simp; omega)) ?_)
      intro v2 w2 o2 g2
      obtain ⟨hx2, f2⟩ := unhide HST w2 g2
      obtain ⟨k0, k1, k2, k3, k4⟩ := entC (x := ⟨10, text, nn, aa, bb⟩) hx2
      simp only at k0 k1 k2 k3 k4
      obtain ⟨a2, c2', rfl, _⟩ := own_form o2
      have harg2 : Arg w2 a2 (P.length + 1) c2' (P ++ [tb]) := arg_of_own (by simp) o2
      have hs2 := f2.size
      have HP2 := hide (putOwn (w2.alloc (.cells #[.int .i64 aa, .int .i64 bb] 3)) a2 (P.length + 1) c2' (P ++ [tb]) 2 false (some ⟨w2.heap.size, 0, none⟩) 2 2 [aa, bb] (harg2.below ((Below.refl _ _).alloc (Nat.le_refl _) _)) (nums_two w2 aa bb) (by intro z hz; simp at hz; rcases hz with rfl | rfl <;> exact fits2 (by omega)) (by unfold wide; omega) (by intro z hz; simp at hz; omega) (by omega))
      have HF2 := hide f2
      clear o2 g2 hx2 harg2 f2 hown1 hsrc1 HST HOWN HBEL
      go_wp2_with fail
      refine (unhide HP2).mono ?_
      rintro e w3 ⟨a3, n3, c3', rfl, hn3, o3, f3⟩
      have hf3 : Below w.heap.size w w3 := ((unhide HF2).alloc hs2 _).trans (f3.mono (by simp; omega))
      have ho3 := own_base (base' := w.heap.size) o3 (by simp; omega)
      have HN := hide (unhide HNX _ n3 w3 (by
        have e : P ++ (tb :: bodyE ⟨10, text, nn, aa, bb⟩) = P ++ [tb] ++ [aa, bb].flatMap (bytesW 2) := by
          show P ++ (tb :: (bytesW 2 aa ++ bytesW 2 bb)) = _
          simp
        rw [e]
        exact ho3) hf3)
      clear ho3 o3 f3 hf3 HP2 HF2 HNX hn3
      go_wp2
      go_roundw
      case rel => exact ⟨k + 1, by omega, by omega, by go_num, unhide HN⟩
      case measure => simp [intOf]; omega

end Go.Proofs.YtdcoknnjgpdigaaGreatDoor
