/- The walk of WordBack. -/
import Derived.Test.YtkmcpedhcdgnoaaWdU
namespace Go.Proofs.Ytkmcpedhcdgnoaa
open Go.RowKit
set_option linter.unusedVariables false

theorem flat_drop (k : Int) (zs : List Int) : ∀ i, i ≤ zs.length → (zs.flatMap (bytesW k)).drop (i * k.toNat) = (zs.drop i).flatMap (bytesW k) := by
  induction zs with
  | nil => intro i hi; simp at hi; subst hi; simp
  | cons z zs ih =>
    intro i hi
    cases i with
    | zero => simp
    | succ i =>
      rw [List.flatMap_cons, List.drop_succ_cons, ← ih i (by simp at hi; omega), Nat.add_mul, Nat.one_mul, Nat.add_comm, ← List.drop_drop]
      congr 1
      rw [List.drop_append_of_le_length (by rw [bytesW_len]; omega), List.drop_of_length_le (by rw [bytesW_len]; omega), List.nil_append]
theorem flat_get {k : Int} {sg : Bool} {zs : List Int} {i : Nat} {z : Int} (hw : wide k) (hz : zs[i]? = some z) (hf : fitsW k z sg) (hb : -9223372036854775808 ≤ z ∧ z ≤ 9223372036854775807) : getW (zs.flatMap (bytesW k)) (i * k.toNat) k sg = (z, 0, (i + 1) * k.toNat) := by
  have hil := (List.getElem?_eq_some_iff.1 hz).1
  have hl := flat_len k zs
  have hd := flat_drop k zs i (by omega)
  have hle : (i + 1) * k.toNat ≤ zs.length * k.toNat := Nat.mul_le_mul_right _ (by omega)
  rw [Nat.add_mul, Nat.one_mul] at hle ⊢
  have htk : ((zs.flatMap (bytesW k)).drop (i * k.toNat)).take k.toNat = bytesW k z := by
    rw [hd, List.drop_eq_getElem_cons hil, List.flatMap_cons]
    have e : zs[i] = z := (List.getElem?_eq_some_iff.1 hz).2
    rw [e, List.take_append_of_le_length (by rw [bytesW_len]; omega), List.take_of_length_le (by rw [bytesW_len]; omega)]
  have hk0 : 0 ≤ k := by rcases hw with h | h | h | h <;> omega
  unfold getW
  rw [if_pos hw, if_neg (by rw [hl]; omega), htk, val_bytes hf hb]

section
variable {RD : (Nat → Prop) → World → Nat → Nat → List UInt8 → Nat → Prop} {WR : (Nat → Prop) → World → Nat → Nat → List UInt8 → Prop}
/-- The writer, and a reader of what it wrote. -/
structure BK (RD : (Nat → Prop) → World → Nat → Nat → List UInt8 → Nat → Prop) (WR : (Nat → Prop) → World → Nat → Nat → List UInt8 → Prop) (w : World) (x y : Nat) (bs : List UInt8) (p : Nat) (W : World) : Prop where
  fr : Below w.heap.size w W
  ex : ∃ F G, RD F W w.heap.size y bs p ∧ WR G W w.heap.size x bs ∧ ∀ k, F k → ¬ G k
theorem BK.step (S : Words RD WR) {w : World} {x y : Nat} {bs : List UInt8} {p p' : Nat} {W W' : World} (h : BK RD WR w x y bs p W) (F F' G : Nat → Prop) (hr : RD F W w.heap.size y bs p) (hg : WR G W w.heap.size x bs) (hd : ∀ k, F k → ¬ G k) (hr' : RD F' W' w.heap.size y bs p') (hF : ∀ j, F' j → F j ∨ W.heap.size ≤ j) (f : Fr6 F w.heap.size W W') : BK RD WR w x y bs p' W' :=
  ⟨h.fr.trans f.below, F', G, hr', S.wkeep hg (fun k hk => f.other k (S.wlt hg k hk).2 (fun hf => hd k hf hk)) f.below.size, fun k hk hG => by
    rcases hF k hk with h1 | h1
    · exact hd k h1 hG
    · have := (S.wlt hg k hG).2
      omega⟩

set_option maxHeartbeats 6400000 in
set_option maxRecDepth 100000 in
theorem back_false (S : Words RD WR) (w : World) (k : Int) (hk : -9223372036854775808 ≤ k ∧ k ≤ 9223372036854775807) (a : Option Addr) (n c : Nat) (zs : List Int) (hz : Nums w a n zs) (hzb : ∀ z ∈ zs, -9223372036854775808 ≤ z ∧ z ≤ 9223372036854775807) (hn : 8 * n ≤ 140737488351232) :
    Calls Try.prog 5 #[.int .i64 k, .slice a n c, .bool false] w fun e w' => e = .returned (.bool true) ∧ Below w.heap.size w w' := by
  have H0 := hide (works6_any S w)
  have HZ := hide hz
  have HZB := hide hzb
  have hzl := hz.1
  clear hz hzb
  go_enter Try.func5, Try.ntmps5
  go_wp2_with fail
  refine (unhide H0).mono ?_
  rintro e w1 ⟨rfl, f1⟩
  have HM := hide (S.make w1)
  have F1 := hide f1
  clear H0 f1
  go_wp2_with fail
  refine (unhide HM).mono ?_
  rintro e w2 ⟨x, G, rfl, g2, f2⟩
  have f2' := (unhide F1).trans (f2.mono (unhide F1).size)
  have HU := S.wu G w2 w.heap.size x [] k a n c zs (S.wbase g2 (unhide F1).size) ((unhide HZ).below (f2'.mono (Nat.le_refl _))) (fun b o e hp hG => by
    have h1 := (S.wlt g2 b hG).1
    have h2 := (unhide HZ).lt e hp
    have h3 := (unhide F1).size
    omega) (unhide HZB) (by simp; omega) hk
  by_cases hok : wide k ∧ ∀ z ∈ zs, fitsW k z false
  · rw [putW_ok hok.1 hok.2, List.nil_append] at HU
    have hbl := flat_len k zs
    have hk8 : k.toNat ≤ 8 ∧ (k.toNat : Int) = k := by rcases hok.1 with h | h | h | h <;> omega
    have hM0 : zs.length * k.toNat ≤ n * 8 := by rw [hzl]; exact Nat.mul_le_mul_left _ hk8.1
    obtain ⟨M, hM⟩ : ∃ M, M = zs.length * k.toNat := ⟨_, rfl⟩
    rw [← hM] at hbl hM0
    obtain ⟨BS, hBS⟩ : ∃ BS, BS = zs.flatMap (bytesW k) := ⟨_, rfl⟩
    rw [← hBS] at HU hbl
    have HU := hide HU
    have HBS := hide hBS
    have HM2 := hide hM
    have HBL := hide hbl
    have HZL := hide hzl
    have HOK := hide hok
    have HK8 := hide hk8
    have F2 := hide f2'
    clear g2 f2 f2' F1 HM hBS hM hbl hzl hok hk8
    go_wp2_with fail
    refine (unhide HU).mono ?_
    rintro e w3 ⟨rfl, ⟨G3, g3, _⟩, f3⟩
    have f3' := (unhide F2).trans f3.below
    have HA := hide (S.wall G3 w3 w.heap.size x BS g3 (by have := unhide HBL; omega))
    have G3H := hide g3
    have F3 := hide f3'
    clear g3 f3 f3' HU F2
    go_wp2_with fail
    refine (unhide HA).mono ?_
    rintro e w4 ⟨v4, rfl, o4, f4⟩
    rw [unhide HBL] at o4
    obtain ⟨a4, c4, rfl, _⟩ := own_form o4
    have HR := hide (S.read w4 a4 M c4 BS (arg_of_own (unhide HBL) o4) (by omega))
    have F4 := hide ((unhide F3).trans (f4.mono (unhide F3).size))
    have G4 := hide (S.wbelow (unhide G3H) f4)
    clear o4 f4 HA F3 G3H
    go_wp2_with fail
    refine (unhide HR).mono ?_
    rintro e w5 ⟨y, F, rfl, r5, f5⟩
    have K5 : Hid (BK RD WR w x y BS (0 * k.toNat) w5) := by
      refine ⟨(unhide F4).trans (f5.mono (unhide F4).size), F, G3, ?_, S.wbelow (unhide G4) f5, fun q hq hG => ?_⟩
      · rw [Nat.zero_mul]
        exact S.rbase r5 (unhide F4).size
      · have h1 := (S.rlt r5 q hq).1
        have h2 := (S.wlt (unhide G4) q hG).2
        omega
    clear r5 f5 HR F4 G4
    go_wp2
    go_loopw [10] (fun i wr => ∃ j : Nat, j ≤ n ∧ i = .int .i64 j ∧ BK RD WR w x y BS (j * k.toNat) wr) (fun i _ => n - (intOf i).toNat)
    case atStart => exact ⟨0, by omega, rfl, unhide K5⟩
    case round =>
      obtain ⟨j, hj, rfl, hK⟩ := hrel
      clear K5
      by_cases hjl : j < n
      · have hjl' : (j : Int) < (n : Int) := by omega
        obtain ⟨b, o, rfl, hcz⟩ := (unhide HZ).2.resolve_left (by omega)
        obtain ⟨zv, hzv⟩ : ∃ zv, zs[j]? = some zv := ⟨_, List.getElem?_eq_getElem (by have := unhide HZL; omega)⟩
        have hc0 := hcz j zv hzv
        have hbw := World.block_lt_of_cell? w _ hc0
        have hcell : ∀ W, Below w.heap.size w W → W.cell? ⟨b, o + j, none⟩ = some (.int .i64 zv) := fun W f => (f.cell (p := ⟨b, o + j, none⟩) hbw).trans hc0
        have hget := flat_get (sg := false) (unhide HOK).1 hzv ((unhide HOK).2 zv (List.mem_of_getElem? hzv)) (unhide HZB zv (List.mem_of_getElem? hzv))
        rw [← unhide HBS] at hget
        obtain ⟨F, G, hr, hg, hd⟩ := hK.ex
        have hpl : j * k.toNat ≤ BS.length := by rw [unhide HBL, unhide HM2]; exact Nat.mul_le_mul_right _ (by have := unhide HZL; omega)
        have HG := S.ru F wr w.heap.size y BS (j * k.toNat) k hr (by have := unhide HBL; omega) hpl hk
        rw [hget] at HG
        have HG := hide HG
        have HN : Hid (∀ W' F', RD F' W' w.heap.size y BS ((j + 1) * k.toNat) → (∀ i, F' i → F i ∨ wr.heap.size ≤ i) → Fr6 F w.heap.size wr W' → BK RD WR w x y BS ((j + 1) * k.toNat) W') := fun W' F' h1 h2 h3 => hK.step S F F' G hr hg hd h1 h2 h3
        have HC := hide hcell
        clear hcz hc0 hbw hget hr hg hd hpl hK hcell hzv
        go_wp2_with fail
        refine (unhide HG).mono ?_
        rintro e w6 ⟨rfl, ⟨F6, r6, hF6⟩, f6⟩
        have K6 := unhide HN w6 F6 r6 hF6 f6
        have c6 := unhide HC w6 K6.fr
        have K6H := hide K6
        have hzz : (zv != zv) = false := by simp
        clear HG HN HC r6 hF6 f6 K6
        go_wp2
        go_roundw
        case rel => exact ⟨j + 1, by omega, by go_num, unhide K6H⟩
        case measure => simp [intOf]; omega
      · obtain rfl : j = n := by omega
        obtain ⟨F, G, hr, hg, hd⟩ := hK.ex
        have hbl := unhide HBL
        have hjm : j * k.toNat = M := by rw [unhide HM2, unhide HZL]
        rw [hjm] at hr
        have HL := S.rleft F wr w.heap.size y BS M hr (by omega) (by omega)
        rw [hbl, show (M : Int) - (M : Int) = 0 by omega] at HL
        have HL := hide HL
        have HE : Hid (∀ W, Below wr.heap.size wr W → Calls Try.prog 28 #[.pointer (some ⟨x, 0, none⟩)] W fun e w' => e = .returned (.int .i64 (M : Int)) ∧ Below W.heap.size W w') := fun W f => by
          have := S.wlen G W w.heap.size x BS (S.wbelow hg f) (by omega)
          rw [hbl] at this
          exact this
        have hmul : k * (j : Int) = (M : Int) := by
          rw [← hjm, Int.natCast_mul, (unhide HK8).2, Int.mul_comm]
        have hwr : IntKind.i64.wrap (M : Int) = (M : Int) := by rw [IntKind.wrap_i64]; omega
        have hj' : ¬ (j : Int) < (j : Int) := by omega
        have hMM : ((M : Int) == (M : Int)) = true := by simp
        have HF := hide hK.fr
        clear hr hg hd hK hjm hbl
        go_wp2_with fail
        refine (unhide HL).mono ?_
        rintro e w6 ⟨rfl, f6⟩
        have HE' := hide (unhide HE w6 f6)
        have F6 := hide ((unhide HF).trans (f6.mono (unhide HF).size))
        clear HL HE f6
        go_wp2_with fail
        refine (unhide HE').mono ?_
        rintro e w7 ⟨rfl, f7⟩
        have F7 := hide ((unhide F6).trans (f7.mono (unhide F6).size))
        clear HE' f7 F6
        go_wp2
        go_ret
        exact ⟨rfl, unhide F7⟩
  · rw [putW_no hok] at HU
    have HU := hide HU
    have F2 := hide f2'
    clear g2 f2 f2' F1 HM
    go_wp2_with fail
    refine (unhide HU).mono ?_
    rintro e w3 ⟨rfl, ⟨G3, g3, _⟩, f3⟩
    have HE := hide (S.wlen G3 w3 w.heap.size x [] g3 (by simp))
    have F3 := hide ((unhide F2).trans f3.below)
    clear g3 f3 HU F2
    go_wp2_with fail
    refine (unhide HE).mono ?_
    rintro e w4 ⟨rfl, f4⟩
    have F4 := hide ((unhide F3).trans (f4.mono (unhide F3).size))
    clear HE F3 f4
    go_wp2
    go_ret
    exact ⟨rfl, unhide F4⟩

set_option maxHeartbeats 6400000 in
set_option maxRecDepth 100000 in
theorem back_true (S : Words RD WR) (w : World) (k : Int) (hk : -9223372036854775808 ≤ k ∧ k ≤ 9223372036854775807) (a : Option Addr) (n c : Nat) (zs : List Int) (hz : Nums w a n zs) (hzb : ∀ z ∈ zs, -9223372036854775808 ≤ z ∧ z ≤ 9223372036854775807) (hn : 8 * n ≤ 140737488351232) :
    Calls Try.prog 5 #[.int .i64 k, .slice a n c, .bool true] w fun e w' => e = .returned (.bool true) ∧ Below w.heap.size w w' := by
  have H0 := hide (works6_any S w)
  have HZ := hide hz
  have HZB := hide hzb
  have hzl := hz.1
  clear hz hzb
  go_enter Try.func5, Try.ntmps5
  go_wp2_with fail
  refine (unhide H0).mono ?_
  rintro e w1 ⟨rfl, f1⟩
  have HM := hide (S.make w1)
  have F1 := hide f1
  clear H0 f1
  go_wp2_with fail
  refine (unhide HM).mono ?_
  rintro e w2 ⟨x, G, rfl, g2, f2⟩
  have f2' := (unhide F1).trans (f2.mono (unhide F1).size)
  have HU := S.ws G w2 w.heap.size x [] k a n c zs (S.wbase g2 (unhide F1).size) ((unhide HZ).below (f2'.mono (Nat.le_refl _))) (fun b o e hp hG => by
    have h1 := (S.wlt g2 b hG).1
    have h2 := (unhide HZ).lt e hp
    have h3 := (unhide F1).size
    omega) (unhide HZB) (by simp; omega) hk
  by_cases hok : wide k ∧ ∀ z ∈ zs, fitsW k z true
  · rw [putW_ok hok.1 hok.2, List.nil_append] at HU
    have hbl := flat_len k zs
    have hk8 : k.toNat ≤ 8 ∧ (k.toNat : Int) = k := by rcases hok.1 with h | h | h | h <;> omega
    have hM0 : zs.length * k.toNat ≤ n * 8 := by rw [hzl]; exact Nat.mul_le_mul_left _ hk8.1
    obtain ⟨M, hM⟩ : ∃ M, M = zs.length * k.toNat := ⟨_, rfl⟩
    rw [← hM] at hbl hM0
    obtain ⟨BS, hBS⟩ : ∃ BS, BS = zs.flatMap (bytesW k) := ⟨_, rfl⟩
    rw [← hBS] at HU hbl
    have HU := hide HU
    have HBS := hide hBS
    have HM2 := hide hM
    have HBL := hide hbl
    have HZL := hide hzl
    have HOK := hide hok
    have HK8 := hide hk8
    have F2 := hide f2'
    clear g2 f2 f2' F1 HM hBS hM hbl hzl hok hk8
    go_wp2_with fail
    refine (unhide HU).mono ?_
    rintro e w3 ⟨rfl, ⟨G3, g3, _⟩, f3⟩
    have f3' := (unhide F2).trans f3.below
    have HA := hide (S.wall G3 w3 w.heap.size x BS g3 (by have := unhide HBL; omega))
    have G3H := hide g3
    have F3 := hide f3'
    clear g3 f3 f3' HU F2
    go_wp2_with fail
    refine (unhide HA).mono ?_
    rintro e w4 ⟨v4, rfl, o4, f4⟩
    rw [unhide HBL] at o4
    obtain ⟨a4, c4, rfl, _⟩ := own_form o4
    have HR := hide (S.read w4 a4 M c4 BS (arg_of_own (unhide HBL) o4) (by omega))
    have F4 := hide ((unhide F3).trans (f4.mono (unhide F3).size))
    have G4 := hide (S.wbelow (unhide G3H) f4)
    clear o4 f4 HA F3 G3H
    go_wp2_with fail
    refine (unhide HR).mono ?_
    rintro e w5 ⟨y, F, rfl, r5, f5⟩
    have K5 : Hid (BK RD WR w x y BS (0 * k.toNat) w5) := by
      refine ⟨(unhide F4).trans (f5.mono (unhide F4).size), F, G3, ?_, S.wbelow (unhide G4) f5, fun q hq hG => ?_⟩
      · rw [Nat.zero_mul]
        exact S.rbase r5 (unhide F4).size
      · have h1 := (S.rlt r5 q hq).1
        have h2 := (S.wlt (unhide G4) q hG).2
        omega
    clear r5 f5 HR F4 G4
    go_wp2
    go_loopw [10] (fun i wr => ∃ j : Nat, j ≤ n ∧ i = .int .i64 j ∧ BK RD WR w x y BS (j * k.toNat) wr) (fun i _ => n - (intOf i).toNat)
    case atStart => exact ⟨0, by omega, rfl, unhide K5⟩
    case round =>
      obtain ⟨j, hj, rfl, hK⟩ := hrel
      clear K5
      by_cases hjl : j < n
      · have hjl' : (j : Int) < (n : Int) := by omega
        obtain ⟨b, o, rfl, hcz⟩ := (unhide HZ).2.resolve_left (by omega)
        obtain ⟨zv, hzv⟩ : ∃ zv, zs[j]? = some zv := ⟨_, List.getElem?_eq_getElem (by have := unhide HZL; omega)⟩
        have hc0 := hcz j zv hzv
        have hbw := World.block_lt_of_cell? w _ hc0
        have hcell : ∀ W, Below w.heap.size w W → W.cell? ⟨b, o + j, none⟩ = some (.int .i64 zv) := fun W f => (f.cell (p := ⟨b, o + j, none⟩) hbw).trans hc0
        have hget := flat_get (sg := true) (unhide HOK).1 hzv ((unhide HOK).2 zv (List.mem_of_getElem? hzv)) (unhide HZB zv (List.mem_of_getElem? hzv))
        rw [← unhide HBS] at hget
        obtain ⟨F, G, hr, hg, hd⟩ := hK.ex
        have hpl : j * k.toNat ≤ BS.length := by rw [unhide HBL, unhide HM2]; exact Nat.mul_le_mul_right _ (by have := unhide HZL; omega)
        have HG := S.rs F wr w.heap.size y BS (j * k.toNat) k hr (by have := unhide HBL; omega) hpl hk
        rw [hget] at HG
        have HG := hide HG
        have HN : Hid (∀ W' F', RD F' W' w.heap.size y BS ((j + 1) * k.toNat) → (∀ i, F' i → F i ∨ wr.heap.size ≤ i) → Fr6 F w.heap.size wr W' → BK RD WR w x y BS ((j + 1) * k.toNat) W') := fun W' F' h1 h2 h3 => hK.step S F F' G hr hg hd h1 h2 h3
        have HC := hide hcell
        clear hcz hc0 hbw hget hr hg hd hpl hK hcell hzv
        go_wp2_with fail
        refine (unhide HG).mono ?_
        rintro e w6 ⟨rfl, ⟨F6, r6, hF6⟩, f6⟩
        have K6 := unhide HN w6 F6 r6 hF6 f6
        have c6 := unhide HC w6 K6.fr
        have K6H := hide K6
        have hzz : (zv != zv) = false := by simp
        clear HG HN HC r6 hF6 f6 K6
        go_wp2
        go_roundw
        case rel => exact ⟨j + 1, by omega, by go_num, unhide K6H⟩
        case measure => simp [intOf]; omega
      · obtain rfl : j = n := by omega
        obtain ⟨F, G, hr, hg, hd⟩ := hK.ex
        have hbl := unhide HBL
        have hjm : j * k.toNat = M := by rw [unhide HM2, unhide HZL]
        rw [hjm] at hr
        have HL := S.rleft F wr w.heap.size y BS M hr (by omega) (by omega)
        rw [hbl, show (M : Int) - (M : Int) = 0 by omega] at HL
        have HL := hide HL
        have HE : Hid (∀ W, Below wr.heap.size wr W → Calls Try.prog 28 #[.pointer (some ⟨x, 0, none⟩)] W fun e w' => e = .returned (.int .i64 (M : Int)) ∧ Below W.heap.size W w') := fun W f => by
          have := S.wlen G W w.heap.size x BS (S.wbelow hg f) (by omega)
          rw [hbl] at this
          exact this
        have hmul : k * (j : Int) = (M : Int) := by
          rw [← hjm, Int.natCast_mul, (unhide HK8).2, Int.mul_comm]
        have hwr : IntKind.i64.wrap (M : Int) = (M : Int) := by rw [IntKind.wrap_i64]; omega
        have hj' : ¬ (j : Int) < (j : Int) := by omega
        have hMM : ((M : Int) == (M : Int)) = true := by simp
        have HF := hide hK.fr
        clear hr hg hd hK hjm hbl
        go_wp2_with fail
        refine (unhide HL).mono ?_
        rintro e w6 ⟨rfl, f6⟩
        have HE' := hide (unhide HE w6 f6)
        have F6 := hide ((unhide HF).trans (f6.mono (unhide HF).size))
        clear HL HE f6
        go_wp2_with fail
        refine (unhide HE').mono ?_
        rintro e w7 ⟨rfl, f7⟩
        have F7 := hide ((unhide F6).trans (f7.mono (unhide F6).size))
        clear HE' f7 F6
        go_wp2
        go_ret
        exact ⟨rfl, unhide F7⟩
  · rw [putW_no hok] at HU
    have HU := hide HU
    have F2 := hide f2'
    clear g2 f2 f2' F1 HM
    go_wp2_with fail
    refine (unhide HU).mono ?_
    rintro e w3 ⟨rfl, ⟨G3, g3, _⟩, f3⟩
    have HE := hide (S.wlen G3 w3 w.heap.size x [] g3 (by simp))
    have F3 := hide ((unhide F2).trans f3.below)
    clear g3 f3 HU F2
    go_wp2_with fail
    refine (unhide HE).mono ?_
    rintro e w4 ⟨rfl, f4⟩
    have F4 := hide ((unhide F3).trans (f4.mono (unhide F3).size))
    clear HE F3 f4
    go_wp2
    go_ret
    exact ⟨rfl, unhide F4⟩

theorem back_walk (S : Words RD WR) (w : World) (k : Int) (hk : -9223372036854775808 ≤ k ∧ k ≤ 9223372036854775807) (a : Option Addr) (n c : Nat) (zs : List Int) (hz : Nums w a n zs) (hzb : ∀ z ∈ zs, -9223372036854775808 ≤ z ∧ z ≤ 9223372036854775807) (hn : 8 * n ≤ 140737488351232) (sg : Bool) :
    Calls Try.prog 5 #[.int .i64 k, .slice a n c, .bool sg] w fun e w' => e = .returned (.bool true) ∧ Below w.heap.size w w' := by
  cases sg with
  | false => exact back_false S w k hk a n c zs hz hzb hn
  | true => exact back_true S w k hk a n c zs hz hzb hn
end

end Go.Proofs.Ytkmcpedhcdgnoaa
