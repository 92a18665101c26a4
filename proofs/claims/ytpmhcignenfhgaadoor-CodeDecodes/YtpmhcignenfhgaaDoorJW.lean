/- Joined: CgM CgN CgO. -/
import Derived.Test.YtpmhcignenfhgaaDoorJCgL
import Derived.Test.YtpmhcignenfhgaaDoorJCgJ
import Derived.Test.YtpmhcignenfhgaaDoorRows
import Derived.ProofKit
import Derived.OpenShut
import Derived.LaidMore
import Derived.Stop.Joined
import Derived.ChangeMaps5
import Derived.Deep.Strs

/- The walk of CodeBack. -/
namespace Go.Proofs.YtpmhcignenfhgaaDoor
open Go.RowKit
set_option linter.unusedVariables false
set_option maxRecDepth 100000

def casesN (rs : List InR) : Nat := (rs.map fun r => r.s.n).sum
theorem casesN_take {rs : List InR} {k : Nat} {r : InR} (h : rs[k]? = some r) : casesN (rs.take (k + 1)) = casesN (rs.take k) + r.s.n := by
  obtain ⟨hk, e⟩ := List.getElem?_eq_some_iff.1 h
  unfold casesN
  rw [List.take_succ_eq_append_getElem hk, e]
  simp
theorem sizes_cases : ∀ rs : List InR, sizesR rs = 16 * rs.length + 8 * casesN rs
  | [] => rfl
  | r :: rs => by
    have := sizes_cases rs
    unfold sizesR casesN at *
    simp only [List.map_cons, List.sum_cons, List.length_cons]
    omega
def light_post (n : Nat) (rs : List InR) (w : World) (e : Ending) (w' : World) : Prop := ∃ b, e = .returned (.bool b) ∧ (b = true → n + casesN rs < 6000) ∧ Below w.heap.size w w'
set_option maxHeartbeats 1600000 in
theorem light9_any (w : World) (a : Option Addr) (n c : Nat) (rs : List InR) (hL : Ls 5 inc w a n rs) (hn : n ≤ 140737488355328) (hs : ∀ r ∈ rs, r.s.n ≤ 140737488355328) :
    Calls Tryd.prog 15 #[.slice a n c] w (light_post n rs w) := by
  have hln := hL.1
  have HL := hide hL
  have HS := hide hs
  clear hL hs
  go_enter Tryd.func15, Tryd.ntmps15
  go_wp2
  go_loopw [3, 4] (fun va vi W => ∃ k : Nat, k ≤ n ∧ va = .int .i64 ((n + casesN (rs.take k) : Nat) : Int) ∧ vi = .int .i64 k ∧ W = w ∧ (n + casesN (rs.take k) < 300000000000000)) (fun _ vi _ => n - (intOf vi).toNat)
  case atStart => exact ⟨0, by omega, by simp [casesN], rfl, rfl, by simp [casesN]; omega⟩
  case round =>
    obtain ⟨k, hk, rfl, rfl, rfl, hb⟩ := hrel
    by_cases hlt : k < n
    · have hlt1 : (k : Int) < (n : Int) := by omega
      obtain ⟨A, hA⟩ : ∃ A, A = n + casesN (rs.take k) := ⟨_, rfl⟩
      rw [← hA] at hb ⊢
      have HA := hide hA
      by_cases h6 : A < 6000
      · have h61 : (A : Int) < 6000 := by omega
        obtain ⟨b1, o1, h1a, h1⟩ := Ls.row (unhide HL) (w' := wr) (by omega)
        subst h1a
        obtain ⟨r, hr⟩ : ∃ r, rs[k]? = some r := ⟨_, List.getElem?_eq_getElem (by omega)⟩
        have c4 := (h1 (Below.refl _ _) k r hr) 4 _ rfl
        have hrs := unhide HS r (List.mem_of_getElem? hr)
        have hct := casesN_take hr
        have HCT := hide hct
        clear h1 hr hct hA
        obtain ⟨x, ⟨sa, sn, sc⟩⟩ := r
        unfold Sl.v at c4
        simp only at c4 hrs HCT
        go_wp2
        go_roundw
        case rel => exact ⟨k + 1, by omega, by rw [unhide HCT]; have := unhide HA; go_num, by go_num, (by first | rfl | trivial), by rw [unhide HCT]; have := unhide HA; omega⟩
        case measure => simp [intOf]; omega
      · have h61 : ¬ (A : Int) < 6000 := by omega
        clear hA
        go_wp2
        go_ret
        exact ⟨false, rfl, (fun e => by cases e), Below.refl _ _⟩
    · obtain rfl : k = n := by omega
      have htk : rs.take k = rs := List.take_of_length_le (by omega)
      rw [htk] at hb ⊢
      obtain ⟨A, hA⟩ : ∃ A, A = k + casesN rs := ⟨_, rfl⟩
      rw [← hA] at hb ⊢
      have HA := hide hA
      clear hA htk
      go_wp2
      go_ret
      exact ⟨_, rfl, (fun e => by have := unhide HA; simp at e; omega), Below.refl _ _⟩
theorem InArg.below9 {w w' : World} {r : InR} (h : InArg w r) (f : Below w.heap.size w w') : InArg w' r := ⟨h.ls.below f, h.cs, h.op, h.a, h.b⟩
theorem own_form9 {w : World} {B : Nat} {bs : List UInt8} {v : Value} (h : w.ownsRow B 5 1 v bs.length (bv bs)) : ∃ a c, v = .slice a bs.length c := by
  rcases h.2 with ⟨hv, hn⟩ | ⟨g, cap, cur, hv, _⟩
  · exact ⟨none, 0, by rw [hn]; exact hv⟩
  · exact ⟨_, cap, hv⟩
theorem insL_count {bs : List UInt8} {l : List Ins} (h : insL bs bs.length 0 = some l) : l.length ≤ bs.length := by
  have : ∀ (f i : Nat) (l : List Ins), insL bs f i = some l → i ≤ bs.length → i + l.length ≤ bs.length := by
    intro f
    induction f with
    | zero =>
      intro i l h hi
      unfold insL at h
      split at h
      · injection h with h; subst h; simpa using hi
      · cases h
    | succ f ih =>
      intro i l h hi
      unfold insL at h
      split at h
      · injection h with h; subst h; simpa using hi
      · obtain ⟨⟨x, j⟩, h1, h⟩ := Option.bind_eq_some_iff.1 h
        obtain ⟨r, h2, h⟩ := Option.bind_eq_some_iff.1 h
        injection h with h
        subst h
        have hs := insR_some h1
        have := ih j r h2 hs.2.1
        simp
        omega
  have := this _ 0 l h (Nat.zero_le _)
  omega
set_option maxHeartbeats 8000000 in
theorem cback_walk (w : World) (hT : Tab9 w) (hS : Tab9s w) (a b : Option Addr) (n c m d : Nat) (bs : List UInt8) (hA : Arg w a n c bs) (rs : List InR) (hL : Ls 5 inc w b m rs) (hI : ∀ r ∈ rs, InArg w r) (hm : m ≤ 140737488355328) (hsn : ∀ r ∈ rs, r.s.n ≤ 140737488355328) :
    Calls Tryd.prog 6 #[.slice a n c, .slice b m d] w fun e w' => e = .returned (.bool true) ∧ Below w.heap.size w w' := by
  have hbl := hA.bs.1
  have HW := hide (works9_any w hT hS)
  have HT := hide (And.intro hT hS)
  have HA := hide hA
  have HL := hide hL
  have HI := hide hI
  have HSN := hide hsn
  clear hT hS hA hL hI hsn
  go_enter Tryd.func6, Tryd.ntmps6
  go_wp2_with fail
  refine (unhide HW).mono ?_
  rintro e w1 ⟨rfl, f1⟩
  have F1 := hide f1
  clear HW f1
  by_cases hn : 4096 < n
  · have hn1 : (4096 : Int) < (n : Int) := by omega
    go_wp2
    go_ret
    exact ⟨rfl, unhide F1⟩
  have hn1 : ¬ (4096 : Int) < (n : Int) := by omega
  have HLI := hide (light9_any w1 b m d rs ((unhide HL).below (unhide F1)) hm (unhide HSN))
  go_wp2_with fail
  refine (unhide HLI).mono ?_
  rintro e w2 ⟨lb, rfl, hlb, f2⟩
  have F2 := hide ((unhide F1).trans (f2.mono (unhide F1).size))
  clear HLI f2 F1
  cases lb with
  | false =>
    clear hlb
    go_wp2
    go_ret
    exact ⟨rfl, unhide F2⟩
  | true =>
    have hlight := hlb rfl
    have hsz : sizesR rs ≤ 100000 := by have := sizes_cases rs; have := (unhide HL).1; omega
    have HSZ := hide hsz
    have HD := hide (hDecode_any w2 a n c bs ((unhide HA).below (unhide F2)) ((unhide HT).1.below (unhide F2)))
    clear hlb hsz hlight
    go_wp2_with fail
    refine (unhide HD).mono ?_
    rintro e w3 ⟨⟨sa3, sn3, sc3⟩, qs3, er3, rfl, o3, e3, b3, hc3⟩
    have F3 := hide ((unhide F2).trans (b3.mono (unhide F2).size))
    rcases hc3 with ⟨he3, hl3, hk3⟩ | hno3
    case inr =>
      have hne3 : (er3 == 0) = false := by rcases hno3 with ⟨_, h, _⟩ | ⟨_, h, _⟩ <;> (rw [h]; rfl)
      clear o3 e3 b3 hno3 HD
      unfold Sl.v
      have HE2 := hide (hEncode_any w3 b m d rs ((unhide HL).below (unhide F3)) (fun r hr => (unhide HI r hr).below9 (unhide F3)) (by have := unhide HSZ; omega) ((unhide HT).1.below (unhide F3)))
      go_wp2_with fail
      refine (unhide HE2).mono ?_
      rintro e w7 ⟨v7, b7, er7, rfl, o7, f7, hc7⟩
      obtain ⟨va7, vc7, hv7⟩ := own_form9 o7
      subst hv7
      have F7 := hide ((unhide F3).trans (f7.mono (unhide F3).size))
      rcases hc7 with ⟨he7, hb7, hl7, hk7⟩ | hno7
      case inr =>
        have hb0 : b7 = [] := by rcases hno7 with ⟨h, _⟩ | ⟨h, _⟩ <;> exact h
        subst hb0
        have hne : (er7 != 0) = true := by rcases hno7 with ⟨_, h, _⟩ | ⟨_, h, _⟩ <;> (rw [h]; rfl)
        clear o7 f7 hno7 HE2
        go_wp2
        go_ret
        exact ⟨rfl, unhide F7⟩
      subst he7
      have HA7 := hide (arg_of_own rfl o7)
      have HD7 := hide (hDecode_any w7 va7 b7.length vc7 b7 (unhide HA7) ((unhide HT).1.below (unhide F7)))
      have HK7 := hide (And.intro hl7 hk7)
      clear o7 f7 hb7 hl7 hk7 HE2
      go_wp2_with fail
      refine (unhide HD7).mono ?_
      rintro e w8 ⟨⟨sa, sn, sc⟩, qs, er8, rfl, o8, e8, b8, hc8⟩
      have hr8 : er8 = 0 ∧ qs.map InR.x = rs.map InR.x := by
        obtain ⟨hl7, hk7⟩ := unhide HK7
        rcases hc8 with ⟨h, _, h1⟩ | ⟨_, _, h⟩ | ⟨_, _, _, h⟩
        · rw [hk7] at h1
          injection h1 with h1
          exact ⟨h, h1.symm⟩
        · omega
        · rw [hk7] at h; cases h
      obtain ⟨rfl, hx8⟩ := hr8
      have F8 : Below w.heap.size w w8 := (unhide F7).trans (b8.mono (unhide F7).size)
      have hsn8 : sn = m := by
        obtain ⟨a', c', e', _⟩ := o8.form
        injection e' with _ e2 _
        have := congrArg List.length hx8
        have := (unhide HL).1
        simp at *
        omega
      subst hsn8
      have HSI := hide (SameInstrs_same w8 sa b sn sc d qs rs (o8.ls rkN9) ((unhide HL).below F8) hx8 (fun r hr => (e8 r hr).ls.1) (fun r hr => (unhide HI r hr).ls.below F8) (by have := sizesR_ge rs; have := unhide HSZ; have := (unhide HL).1; omega) (fun r hr => by have := (e8 r hr).ls.2; omega))
      have HF8 := hide F8
      clear o8 e8 b8 hc8 hx8 F8 HD7
      unfold Sl.v
      go_wp2_with fail
      refine (unhide HSI).mono ?_
      rintro e w9 ⟨rfl, f9⟩
      have F9 := hide ((unhide HF8).trans (f9.mono (unhide HF8).size))
      clear f9 HSI
      go_wp2
      go_ret
      exact ⟨rfl, unhide F9⟩
    subst he3
    have hl33 : qs3.length ≤ 4097 := by
      have h1 := (codeP_some hk3).1
      have h2 : ∀ (p q : Nat) x y, p < q → (qs3.map InR.x)[p]? = some x → (qs3.map InR.x)[q]? = some y → x.at_ < y.at_ := fun p q x y hpq hx hy => insL_rise _ _ _ h1 p q x y hpq hx hy
      have h3 := insL_count h1
      simp only [List.length_map] at h3
      omega
    have HE := hide (hEncode_any w3 sa3 sn3 sc3 qs3 (o3.ls rkN9) (fun r hr => (e3 r hr).arg) (by have := InsOk.few e3; omega) ((unhide HT).1.below (unhide F3)))
    have HK3 := hide (And.intro hl3 hk3)
    have HFA : Hid (∀ W, Below w3.heap.size w3 W → Below w.heap.size w W) := fun W f => (unhide F3).trans (f.mono (unhide F3).size)
    clear o3 e3 b3 hl33 HD hl3 hk3
    unfold Sl.v
    go_wp2_with fail
    refine (unhide HE).mono ?_
    rintro e w4 ⟨v4, b4, er4, rfl, o4, f4, hc4⟩
    obtain ⟨va4, vc4, hv4⟩ := own_form9 o4
    subst hv4
    have hr4 : er4 = 0 ∧ b4 = bs := by
      obtain ⟨hl3, hk3⟩ := unhide HK3
      have hbk := code_back (by omega) hk3
      rw [hbk] at hc4
      rcases hc4 with ⟨h, h1, _⟩ | ⟨_, _, h⟩ | ⟨_, _, h, _⟩
      · exact ⟨h, h1⟩
      · exact absurd hk3 h
      · omega
    obtain ⟨rfl, rfl⟩ := hr4
    have F4 := hide (unhide HFA w4 f4)
    have HSB := hide (SameBytes_same w4 va4 a b4 n vc4 c (by have := (arg_of_own rfl o4).bs; rw [hbl] at this; exact this) ((unhide HA).below (unhide F4)).bs)
    clear o4 f4 hc4 HE
    rw [hbl]
    go_wp2_with fail
    refine (unhide HSB).mono ?_
    rintro e w5 ⟨rfl, hw5⟩
    subst hw5
    clear HSB
    have HE2 := hide (hEncode_any w5 b m d rs ((unhide HL).below (unhide F4)) (fun r hr => (unhide HI r hr).below9 (unhide F4)) (by have := unhide HSZ; omega) ((unhide HT).1.below (unhide F4)))
    go_wp2_with fail
    refine (unhide HE2).mono ?_
    rintro e w7 ⟨v7, b7, er7, rfl, o7, f7, hc7⟩
    obtain ⟨va7, vc7, hv7⟩ := own_form9 o7
    subst hv7
    have F7 := hide ((unhide F4).trans (f7.mono (unhide F4).size))
    rcases hc7 with ⟨he7, hb7, hl7, hk7⟩ | hno7
    case inr =>
      have hb0 : b7 = [] := by rcases hno7 with ⟨h, _⟩ | ⟨h, _⟩ <;> exact h
      subst hb0
      have hne : (er7 != 0) = true := by rcases hno7 with ⟨_, h, _⟩ | ⟨_, h, _⟩ <;> (rw [h]; rfl)
      clear o7 f7 hno7 HE2
      go_wp2
      go_ret
      exact ⟨rfl, unhide F7⟩
    subst he7
    have HA7 := hide (arg_of_own rfl o7)
    have HD7 := hide (hDecode_any w7 va7 b7.length vc7 b7 (unhide HA7) ((unhide HT).1.below (unhide F7)))
    have HK7 := hide (And.intro hl7 hk7)
    clear o7 f7 hb7 hl7 hk7 HE2
    go_wp2_with fail
    refine (unhide HD7).mono ?_
    rintro e w8 ⟨⟨sa, sn, sc⟩, qs, er8, rfl, o8, e8, b8, hc8⟩
    have hr8 : er8 = 0 ∧ qs.map InR.x = rs.map InR.x := by
      obtain ⟨hl7, hk7⟩ := unhide HK7
      rcases hc8 with ⟨h, _, h1⟩ | ⟨_, _, h⟩ | ⟨_, _, _, h⟩
      · rw [hk7] at h1
        injection h1 with h1
        exact ⟨h, h1.symm⟩
      · omega
      · rw [hk7] at h; cases h
    obtain ⟨rfl, hx8⟩ := hr8
    have F8 : Below w.heap.size w w8 := (unhide F7).trans (b8.mono (unhide F7).size)
    have hsn8 : sn = m := by
      obtain ⟨a', c', e', _⟩ := o8.form
      injection e' with _ e2 _
      have := congrArg List.length hx8
      have := (unhide HL).1
      simp at *
      omega
    subst hsn8
    have HSI := hide (SameInstrs_same w8 sa b sn sc d qs rs (o8.ls rkN9) ((unhide HL).below F8) hx8 (fun r hr => (e8 r hr).ls.1) (fun r hr => (unhide HI r hr).ls.below F8) (by have := sizesR_ge rs; have := unhide HSZ; have := (unhide HL).1; omega) (fun r hr => by have := (e8 r hr).ls.2; omega))
    have HF8 := hide F8
    clear o8 e8 b8 hc8 hx8 F8 HD7
    unfold Sl.v
    go_wp2_with fail
    refine (unhide HSI).mono ?_
    rintro e w9 ⟨rfl, f9⟩
    have F9 := hide ((unhide HF8).trans (f9.mono (unhide HF8).size))
    clear f9 HSI
    go_wp2
    go_ret
    exact ⟨rfl, unhide F9⟩
end Go.Proofs.YtpmhcignenfhgaaDoor

/- What came in, opened: instructions with their cases; the two tables of the landed code as its text lays them. -/
namespace Go.Proofs.YtpmhcignenfhgaaDoor
open Go.ChangeShapes Go.WideShapes Go.ChangeAt Go.RowKit
set_option linter.unusedVariables false
set_option maxRecDepth 100000

theorem st_len9 {H : Type} {enc : TypeId × Value → H} {w : World} {base n k : Nat} {T : TypeId} {fs : Array Field} {cs : List Value} {x : DataW H × List MemPlace} (hT : Tryd.prog.underlying T = some (.struct fs)) (hk : Tryd.prog.cellsOf T = k)
    (h : DataW.trod enc Tryd.prog w base (fun _ => true) true n T cs = some x) : cs.length = k := by
  obtain ⟨xs, m, _, rfl, hl, hlen, hg⟩ := DataW.trod_struct hT h
  rw [hl, hk]
theorem ca_cells {H : Type} {enc : TypeId × Value → H} {w : World} {base : Nat} (n : Nat) (cs : List Value) (x : DataW H × List MemPlace)
    (h : DataW.trod enc Tryd.prog w base (fun _ => true) true n 51 cs = some x) (hw : ∀ m ∈ x.1.weights Tryd.prog 51, m ≤ reachBytes) :
    ∃ y : Cas, cs = cac y ∧ Rg y.key ∧ Rg y.to_ := by
  have hl : cs.length = 2 := st_len9 Tryd.underlying51 (by kernel_rfl) h
  obtain ⟨_, y0, g0, w0⟩ := st_field Tryd.underlying51 h hw (i := 0) rfl
  obtain ⟨v0, c0, f0⟩ := int_leaf (o := 0) g0
  obtain ⟨_, y1, g1, w1⟩ := st_field Tryd.underlying51 h hw (i := 1) rfl
  obtain ⟨v1, c1, f1⟩ := int_leaf (o := 1) g1
  refine ⟨⟨v0, v1⟩, ?_, ⟨f0, f1⟩⟩
  apply List.ext_getElem?
  intro i
  match i with
  | 0 => rw [c0]; rfl
  | 1 => rw [c1]; rfl
  | k + 2 => rw [List.getElem?_eq_none (by omega)]; rfl
theorem in_cells {H : Type} {enc : TypeId × Value → H} {w : World} {base : Nat} (n : Nat) (cs : List Value) (x : DataW H × List MemPlace)
    (h : DataW.trod enc Tryd.prog w base (fun _ => true) true n 38 cs = some x) (hw : ∀ m ∈ x.1.weights Tryd.prog 38, m ≤ reachBytes) :
    ∃ y : InR, cs = inc y ∧ InArg w y ∧ y.s.n ≤ 140737488355328 := by
  have hl : cs.length = 5 := st_len9 Tryd.underlying38 (by kernel_rfl) h
  obtain ⟨_, y0, g0, w0⟩ := st_field Tryd.underlying38 h hw (i := 0) rfl
  obtain ⟨v0, c0, f0⟩ := int_leaf (o := 0) g0
  obtain ⟨_, y1, g1, w1⟩ := st_field Tryd.underlying38 h hw (i := 1) rfl
  obtain ⟨v1, c1, f1⟩ := int_leaf (o := 1) g1
  obtain ⟨_, y2, g2, w2⟩ := st_field Tryd.underlying38 h hw (i := 2) rfl
  obtain ⟨v2, c2, f2⟩ := int_leaf (o := 2) g2
  obtain ⟨_, y3, g3, w3⟩ := st_field Tryd.underlying38 h hw (i := 3) rfl
  obtain ⟨v3, c3, f3⟩ := int_leaf (o := 3) g3
  obtain ⟨_, y4, g4, w4⟩ := st_field Tryd.underlying38 h hw (i := 4) rfl
  obtain ⟨v4, c4, t4⟩ := sl_leaf (o := 4) Tryd.underlying36 (by kernel_rfl) g4
  obtain ⟨l, h4⟩ := lin_open (size := 2) (by_ := 16) (ok := fun c : Cas => Rg c.key ∧ Rg c.to_) (val := cac) Tryd.underlying36 (by kernel_rfl) (by kernel_rfl) (by decide) (fun _ => rfl) (fun _ => ⟨_, rfl⟩) (fun n cs x h hw => ca_cells n cs x h hw) t4 w4
  refine ⟨⟨⟨v0, v1, v2, v3, l⟩, v4⟩, ?_, ⟨h4.ls, h4.each, f1, f2, f3⟩, (by have := h4.small; omega : v4.n ≤ 140737488355328)⟩
  apply List.ext_getElem?
  intro i
  match i with
  | 0 => rw [c0]; rfl
  | 1 => rw [c1]; rfl
  | 2 => rw [c2]; rfl
  | 3 => rw [c3]; rfl
  | 4 => rw [c4]; rfl
  | k + 5 => rw [List.getElem?_eq_none (by omega)]; rfl
theorem ins_arg {H : Type} {enc : TypeId × Value → H} {W : World} {base : Nat} {a : Option Addr} {n c : Nat} {d : DataW H} {p : List MemPlace}
    (h : DataW.Trod enc Tryd.prog W base (fun _ => true) true 24 (.slice a n c) d p) (hw : ∀ m ∈ d.weights Tryd.prog 24, m ≤ reachBytes) : ∃ l : List InR, Ls 5 inc W a n l ∧ (∀ r ∈ l, InArg W r) ∧ n ≤ 140737488355328 ∧ ∀ r ∈ l, r.s.n ≤ 140737488355328 := by
  obtain ⟨l, h1⟩ := lin_open (s := ⟨a, n, c⟩) (size := 5) (by_ := 56) (ok := fun r : InR => InArg W r ∧ r.s.n ≤ 140737488355328) (val := inc) Tryd.underlying24 (by kernel_rfl) (by kernel_rfl) (by decide) (fun _ => rfl) (fun _ => ⟨_, rfl⟩) (fun n cs x h hw => in_cells n cs x h hw) h hw
  exact ⟨l, h1.ls, fun r hr => (h1.each r hr).1, by have := h1.small; simp only at this; omega, fun r hr => (h1.each r hr).2⟩
theorem chunks9 : ∀ (rows : List (List Value)) (cs : List Value) (k : Nat), cs.length = rows.length * k → (∀ (i : Nat) (r : List Value), rows[i]? = some r → (cs.drop (i * k)).take k = r) → cs = rows.flatten
  | [], cs, k, hl, _ => by
    have : cs.length = 0 := by simpa using hl
    exact List.length_eq_zero_iff.1 this
  | r :: rows, cs, k, hl, h => by
    have h0 := h 0 r rfl
    simp only [Nat.zero_mul, List.drop_zero] at h0
    have ih := chunks9 rows (cs.drop k) k (by rw [List.length_drop, hl, List.length_cons, Nat.succ_mul]; omega) (fun i q hq => by
      have := h (i + 1) q (by simpa using hq)
      rw [List.drop_drop]
      rw [Nat.succ_mul, Nat.add_comm] at this
      exact this)
    rw [List.flatten_cons, ← ih, ← h0, List.take_append_drop]
theorem int9 {enc : TypeId × Value → Unit} {w : World} {base m o : Nat} {sp : Nat → Bool} {hd_ : Bool} {T : TypeId} {cs : List Value} {y : DataW Unit × List MemPlace} {a : Int} (hT : Tryd.prog.underlying T = some (.int .i64)) (hc : Tryd.prog.cellsOf T = 1) (h : DataW.trod enc Tryd.prog w base sp hd_ m T ((cs.drop o).take (Tryd.prog.cellsOf T)) = some y) (hy : y.1 = .lit (.int .i64 a)) : cs[o]? = some (.int .i64 a) := by
  rw [hc] at h
  obtain ⟨n0, e0, hd, _⟩ := DataW.trod_int hT h
  rw [hd] at hy
  injection hy with hy
  injection hy with _ hy
  rw [hy] at e0
  exact take_one e0
theorem fr_cells {enc : TypeId × Value → Unit} {w : World} {base n : Nat} {sp : Nat → Bool} {hd_ : Bool} {cs : List Value} {x : DataW Unit × List MemPlace} {a b c : Int} (h : DataW.trod enc Tryd.prog w base sp hd_ n 89 cs = some x) (hx : x.1 = .agg [.lit (.int .i64 a), .lit (.int .i64 b), .lit (.int .i64 c)]) : cs = [.int .i64 a, .int .i64 b, .int .i64 c] := by
  obtain ⟨xs, m, _, rfl, hl, hlen, hf⟩ := DataW.trod_struct Tryd.underlying89 h
  match xs, hlen with
  | [y0, y1, y2], _ =>
    simp only [List.map_cons, List.map_nil] at hx
    injection hx with hx
    injection hx with e0 hx
    injection hx with e1 hx
    injection hx with e2 hx
    have c0 := int9 (o := 0) Tryd.underlying3 (by kernel_rfl) (hf 0 _ rfl) e0
    have c1 := int9 (o := 1) Tryd.underlying3 (by kernel_rfl) (hf 1 _ rfl) e1
    have c2 := int9 (o := 2) Tryd.underlying62 (by kernel_rfl) (hf 2 _ rfl) e2
    have hl3 : cs.length = 3 := by rw [hl]; kernel_rfl
    apply List.ext_getElem?
    intro i
    match i with
    | 0 => rw [c0]; rfl
    | 1 => rw [c1]; rfl
    | 2 => rw [c2]; rfl
    | k + 3 => rw [List.getElem?_eq_none (by omega)]; rfl
theorem sf_cells {enc : TypeId × Value → Unit} {w : World} {base n : Nat} {sp : Nat → Bool} {hd_ : Bool} {cs : List Value} {x : DataW Unit × List MemPlace} {a b c d : Int} (h : DataW.trod enc Tryd.prog w base sp hd_ n 60 cs = some x) (hx : x.1 = .agg [.lit (.int .i64 a), .lit (.int .i64 b), .lit (.int .i64 c), .lit (.int .i64 d)]) : cs = [.int .i64 a, .int .i64 b, .int .i64 c, .int .i64 d] := by
  obtain ⟨xs, m, _, rfl, hl, hlen, hf⟩ := DataW.trod_struct Tryd.underlying60 h
  match xs, hlen with
  | [y0, y1, y2, y3], _ =>
    simp only [List.map_cons, List.map_nil] at hx
    injection hx with hx
    injection hx with e0 hx
    injection hx with e1 hx
    injection hx with e2 hx
    injection hx with e3 hx
    have c0 := int9 (o := 0) Tryd.underlying3 (by kernel_rfl) (hf 0 _ rfl) e0
    have c1 := int9 (o := 1) Tryd.underlying3 (by kernel_rfl) (hf 1 _ rfl) e1
    have c2 := int9 (o := 2) Tryd.underlying3 (by kernel_rfl) (hf 2 _ rfl) e2
    have c3 := int9 (o := 3) Tryd.underlying3 (by kernel_rfl) (hf 3 _ rfl) e3
    have hl3 : cs.length = 4 := by rw [hl]; kernel_rfl
    apply List.ext_getElem?
    intro i
    match i with
    | 0 => rw [c0]; rfl
    | 1 => rw [c1]; rfl
    | 2 => rw [c2]; rfl
    | 3 => rw [c3]; rfl
    | k + 4 => rw [List.getElem?_eq_none (by omega)]; rfl
theorem gTab9 : Tryd.prog.globalNamed "larch/code.formRows" = some 1 := by kernel_rfl
theorem gTab9s : Tryd.prog.globalNamed "larch/code.shortForms" = some 0 := by kernel_rfl
theorem tTab9 : (Tryd.prog.globals[1]?).map (·.type) = some 90 := by kernel_rfl
theorem tTab9s : (Tryd.prog.globals[0]?).map (·.type) = some 61 := by kernel_rfl
theorem cells9F : Tryd.prog.cellsOf 89 = 3 := by kernel_rfl
theorem cells9S : Tryd.prog.cellsOf 60 = 4 := by kernel_rfl
theorem cells9FF : Tryd.prog.cellsOf 90 = 41 * 3 := by kernel_rfl
theorem cells9SS : Tryd.prog.cellsOf 61 = 8 * 4 := by kernel_rfl
theorem tab9_said : (Rows.laid_larch_code_formRows : DataW Unit) = .agg (formL.map fun r => .agg [.lit (.int .i64 r.1), .lit (.int .i64 r.2.1), .lit (.int .i64 r.2.2)]) := rfl
theorem tab9s_said : (Rows.laid_larch_code_shortForms : DataW Unit) = .agg (shortL.map fun r => .agg [.lit (.int .i64 r.1), .lit (.int .i64 r.2.1), .lit (.int .i64 r.2.2.1), .lit (.int .i64 r.2.2.2)]) := rfl
abbrev laid9 : List (String × DataW Unit) := [("larch/code.formRows", Rows.laid_larch_code_formRows), ("larch/code.shortForms", Rows.laid_larch_code_shortForms)]
theorem var_block9 {w : World} {n : String} {g : Nat} {cs : Array Value} (hg : Tryd.prog.globalNamed n = some g) (h : w.var? Tryd.prog n = some cs) : ∃ t fr, w.heap[g]? = some (.cells cs t fr) := by
  simp only [World.var?, hg, Option.bind_some] at h
  split at h
  · rename_i c t fr hb
    cases h
    exact ⟨t, fr, hb⟩
  · cases h
theorem tab9_of_laid {W : World} (h : laidMetH Tryd.prog laid9 W) : Tab9 W ∧ Tab9s W := by
  have h' : laidMet Tryd.prog laid9 W := h
  obtain ⟨ps, ⟨g, t, cs, fuel, p, q, hg, ht, hvar, hd, ⟨g2, t2, cs2, fuel2, p2, q2, hg2, ht2, hvar2, hd2, _, _⟩, _⟩, _⟩ := h'
  obtain rfl := Option.some.inj (gTab9.symm.trans hg)
  obtain rfl := Option.some.inj (tTab9.symm.trans ht)
  obtain rfl := Option.some.inj (gTab9s.symm.trans hg2)
  obtain rfl := Option.some.inj (tTab9s.symm.trans ht2)
  constructor
  · rw [tab9_said] at hd
    obtain ⟨xs, m, _, hx, hlc, hl, hel⟩ := DataW.trod_array Tryd.underlying90 hd
    injection hx with hx _
    injection hx with hx
    have key : cs.toList = (formL.map fun r => [Value.int .i64 r.1, .int .i64 r.2.1, .int .i64 r.2.2]).flatten := by
      refine chunks9 _ _ 3 (by rw [hlc, cells9FF]; rfl) (fun i r hr => ?_)
      rw [List.getElem?_map] at hr
      obtain ⟨f, hf, rfl⟩ := Option.map_eq_some_iff.1 hr
      have hi : i < 41 := (List.getElem?_eq_some_iff.1 hf).1
      have e := hel i hi
      rw [cells9F, List.getElem?_eq_getElem (by omega)] at e
      refine fr_cells e ?_
      have h1 : (xs.map (·.1))[i]? = some xs[i].1 := by rw [List.getElem?_map, List.getElem?_eq_getElem (by omega)]; rfl
      rw [← hx, List.getElem?_map, hf] at h1
      exact (Option.some.inj h1).symm
    have hcs : cs = formCells := by
      apply Array.toList_inj.1
      rw [key]
      rfl
    obtain ⟨t, fr, hb⟩ := var_block9 gTab9 hvar
    exact ⟨t, fr, by rw [hb, hcs]⟩
  · rw [tab9s_said] at hd2
    obtain ⟨xs, m, _, hx, hlc, hl, hel⟩ := DataW.trod_array Tryd.underlying61 hd2
    injection hx with hx _
    injection hx with hx
    have key : cs2.toList = (shortL.map fun r => [Value.int .i64 r.1, .int .i64 r.2.1, .int .i64 r.2.2.1, .int .i64 r.2.2.2]).flatten := by
      refine chunks9 _ _ 4 (by rw [hlc, cells9SS]; rfl) (fun i r hr => ?_)
      rw [List.getElem?_map] at hr
      obtain ⟨f, hf, rfl⟩ := Option.map_eq_some_iff.1 hr
      have hi : i < 8 := (List.getElem?_eq_some_iff.1 hf).1
      have e := hel i hi
      rw [cells9S, List.getElem?_eq_getElem (by omega)] at e
      refine sf_cells e ?_
      have h1 : (xs.map (·.1))[i]? = some xs[i].1 := by rw [List.getElem?_map, List.getElem?_eq_getElem (by omega)]; rfl
      rw [← hx, List.getElem?_map, hf] at h1
      exact (Option.some.inj h1).symm
    have hcs : cs2 = shortCells := by
      apply Array.toList_inj.1
      rw [key]
      rfl
    obtain ⟨t, fr, hb⟩ := var_block9 gTab9s hvar2
    exact ⟨t, fr, by rw [hb, hcs]⟩
theorem door_met9 (os : Os) (args : Array Value) : laidMetH Tryd.prog laid9 ((World.doorLaid Tryd.prog 600 os).forCall (fun _ _ => 0) ⟨#[], args, []⟩).memory :=
  laidMetH_of_parts3 (fuel := 8) (laidMet_of_run' 8 (by kernel_rfl) (by kernel_rfl)) (by kernel_rfl) (by kernel_rfl)
end Go.Proofs.YtpmhcignenfhgaaDoor

/- CodeFronts: what its loop finds, as plain values. -/
namespace Go.Proofs.YtpmhcignenfhgaaDoor
open Go.RowKit
set_option linter.unusedVariables false
set_option maxRecDepth 100000

theorem arg_take9 {w : World} {a : Option Addr} {n c k : Nat} {l : List UInt8} (h : Arg w a n c l) (h0 : 0 < n) (hk : k ≤ n) : Arg w a k c (l.take k) := by
  have hl := h.bs.1
  refine ⟨⟨by rw [List.length_take]; omega, ?_⟩, Nat.le_trans hk h.room, h.most, fun e => ?_⟩
  · rcases h.bs.2 with h1 | ⟨b, o, e, h1⟩
    · omega
    · refine .inr ⟨b, o, e, (fun e => by cases e), fun ad e2 j u hu => h1.2 ad e2 j u ?_⟩
      unfold bv at hu ⊢
      rw [List.map_take, List.getElem?_take] at hu
      split at hu
      · exact hu
      · cases hu
  · have := h.nil e
    omega
/-- Does a branch of these lead to m or beyond? -/
def outB (m : Nat) (l : List Ins) : Bool := l.any fun x => (targP x).any fun t => decide ((m : Int) ≤ t)
theorem outB_iff {m : Nat} {l : List Ins} : outB m l = true ↔ ∃ x ∈ l, ∃ t ∈ targP x, (m : Int) ≤ t := by
  unfold outB
  simp [List.any_eq_true]
theorem outB_take {m : Nat} {l : List Ins} {k : Nat} {x : Ins} (h : l[k]? = some x) : outB m (l.take (k + 1)) = (outB m (l.take k) || (targP x).any fun t => decide ((m : Int) ≤ t)) := by
  obtain ⟨hk, e⟩ := List.getElem?_eq_some_iff.1 h
  unfold outB
  rw [List.take_succ_eq_append_getElem hk, e, List.any_append]
  simp
theorem any_take9 {m : Nat} {ts : List Int} {j : Nat} {t : Int} (h : ts[j]? = some t) : ((ts.take (j + 1)).any fun t => decide ((m : Int) ≤ t)) = (((ts.take j).any fun t => decide ((m : Int) ≤ t)) || decide ((m : Int) ≤ t)) := by
  obtain ⟨hk, e⟩ := List.getElem?_eq_some_iff.1 h
  rw [List.take_succ_eq_append_getElem hk, e, List.any_append]
  simp
theorem front_is {bs : List UInt8} {l : List Ins} (h : codeP bs = some l) {k : Nat} (hk : 0 < k) (hkl : k ≤ l.length) : codeP (bs.take (cutP bs l k)) = if outB (cutP bs l k) (l.take k) then none else some (l.take k) := by
  rw [codeP_front h hk hkl]
  by_cases ho : outB (cutP bs l k) (l.take k) = true
  · rw [if_pos (outB_iff.1 ho), if_pos ho]
  · rw [if_neg (fun h => ho (outB_iff.2 h)), if_neg ho]
theorem cutP_le {bs : List UInt8} {l : List Ins} (h : codeP bs = some l) (k : Nat) : cutP bs l k ≤ bs.length := by
  unfold cutP
  cases hk : l[k]? with
  | none => exact Nat.le_refl _
  | some x =>
    have := insL_at _ _ _ (codeP_some h).1 x (List.mem_of_getElem? hk)
    simp only
    omega
theorem cutP_at {bs : List UInt8} {l : List Ins} (h : codeP bs = some l) {k : Nat} {x : Ins} (hk : l[k]? = some x) : x.at_ = ((cutP bs l k : Nat) : Int) := by
  unfold cutP
  rw [hk]
  have := insL_at _ _ _ (codeP_some h).1 x (List.mem_of_getElem? hk)
  simp only
  omega
theorem cutP_end {bs : List UInt8} {l : List Ins} {k : Nat} (hk : l.length ≤ k) : cutP bs l k = bs.length := by
  unfold cutP
  rw [List.getElem?_eq_none hk]
theorem Ls.take9 {α : Type} {sz : Nat} {cs : α → List Value} {w : World} {a : Option Addr} {n k : Nat} {l : List α} (h : Ls sz cs w a n l) (hk : k ≤ n) : Ls sz cs w a k (l.take k) := by
  obtain ⟨h1, h2⟩ := h
  refine ⟨by rw [List.length_take]; omega, ?_⟩
  rcases h2 with h2 | ⟨b, o, e, hb, h2⟩
  · left; omega
  · refine .inr ⟨b, o, e, hb, fun i x hx => h2 i x ?_⟩
    rw [List.getElem?_take] at hx
    split at hx
    · exact hx
    · cases hx
end Go.Proofs.YtpmhcignenfhgaaDoor
