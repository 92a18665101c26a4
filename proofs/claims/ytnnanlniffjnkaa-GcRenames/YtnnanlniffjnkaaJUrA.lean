/- Layer 16, the document's side: is a number in a list; to what a value leads (written by mk/mkura.py). -/
import Derived.Test.YtnnanlniffjnkaaJUaA
import Derived.Test.YtnnanlniffjnkaaJY0
import Derived.Test.YtnnanlniffjnkaaJY2

namespace Go.Proofs.Ytnnanlniffjnkaa
open Go.RowKit
set_option linter.unusedVariables false
set_option maxRecDepth 100000

set_option maxHeartbeats 800000 in
theorem v16has_any (w : World) (a : Option Addr) (n c : Nat) (l : List Int) (hA : Ls 1 i15 w a n l) (hn : n ≤ 100000000) (x : Int) :
    Calls Try.prog 34 #[.slice a n c, .int .i64 x] w fun e w' => e = .returned (.bool (decide (x ∈ l))) ∧ w' = w := by
  have hln := hA.1
  have HA := hide hA
  clear hA
  go_enter Try.func34, Try.ntmps34
  go_wp2
  go_loopw [5] (fun i wr => ∃ k : Nat, k ≤ n ∧ i = .int .i64 k ∧ wr = w ∧ Hid (x ∉ l.take k)) (fun i _ => n - (intOf i).toNat)
  case atStart => exact ⟨0, by omega, rfl, rfl, by simp [Hid]⟩
  case round =>
    obtain ⟨k, hk, rfl, rfl, HT⟩ := hrel
    by_cases hlt : k < n
    · have hlt1 : (k : Int) < (n : Int) := by omega
      have hk0 : (0 : Int) ≤ (k : Int) := by omega
      obtain ⟨b, o, ea, hq⟩ := Ls.row (unhide HA) (w' := wr) (by show n ≠ 0; omega)
      subst ea
      obtain ⟨y, hy⟩ : ∃ y, l[k]? = some y := ⟨_, List.getElem?_eq_getElem (by omega)⟩
      have c0 := (hq (Below.refl _ _) k y hy).zero
      simp at c0
      have HY := hide hy
      clear hq hy
      by_cases he : y = x
      · subst he
        have HM : Hid (decide (y ∈ l) = true) := decide_eq_true (List.mem_of_getElem? (unhide HY))
        clear HY
        go_wp2
        go_ret
        exact ⟨by rw [unhide HM]; rfl, rfl⟩
      · have HT2 : Hid (x ∉ l.take (k + 1)) := fun h => by
          rw [List.take_add_one, unhide HY] at h
          rcases List.mem_append.1 h with h | h
          · exact unhide HT h
          · simp at h
            exact he h.symm
        have he2 : (y == x) = false := by simpa using he
        clear HY
        go_wp2
        go_roundw
        case rel => exact ⟨k + 1, by omega, by go_num, trivial, HT2⟩
        case measure => simp [intOf]; omega
    · obtain rfl : k = n := by omega
      have HM : Hid (decide (x ∈ l) = false) := decide_eq_false (by
        have := unhide HT
        rwa [List.take_of_length_le (by omega)] at this)
      go_wp2
      go_ret
      exact ⟨by rw [unhide HM]; rfl, rfl⟩
set_option maxHeartbeats 800000 in
theorem HasInt_any (w : World) (a : Option Addr) (n c : Nat) (l : List Int) (hA : Ls 1 i15 w a n l) (hn : n ≤ 100000000) (x : Int) :
    Calls Try.prog 23 #[.slice a n c, .int .i64 x] w fun e w' => e = .returned (.bool (decide (x ∈ l))) ∧ w' = w := by
  have hln := hA.1
  have HA := hide hA
  clear hA
  go_enter Try.func23, Try.ntmps23
  go_wp2
  go_loopw [5] (fun i wr => ∃ k : Nat, k ≤ n ∧ i = .int .i64 k ∧ wr = w ∧ Hid (x ∉ l.take k)) (fun i _ => n - (intOf i).toNat)
  case atStart => exact ⟨0, by omega, rfl, rfl, by simp [Hid]⟩
  case round =>
    obtain ⟨k, hk, rfl, rfl, HT⟩ := hrel
    by_cases hlt : k < n
    · have hlt1 : (k : Int) < (n : Int) := by omega
      have hk0 : (0 : Int) ≤ (k : Int) := by omega
      obtain ⟨b, o, ea, hq⟩ := Ls.row (unhide HA) (w' := wr) (by show n ≠ 0; omega)
      subst ea
      obtain ⟨y, hy⟩ : ∃ y, l[k]? = some y := ⟨_, List.getElem?_eq_getElem (by omega)⟩
      have c0 := (hq (Below.refl _ _) k y hy).zero
      simp at c0
      have HY := hide hy
      clear hq hy
      by_cases he : y = x
      · subst he
        have HM : Hid (decide (y ∈ l) = true) := decide_eq_true (List.mem_of_getElem? (unhide HY))
        clear HY
        go_wp2
        go_ret
        exact ⟨by rw [unhide HM]; rfl, rfl⟩
      · have HT2 : Hid (x ∉ l.take (k + 1)) := fun h => by
          rw [List.take_add_one, unhide HY] at h
          rcases List.mem_append.1 h with h | h
          · exact unhide HT h
          · simp at h
            exact he h.symm
        have he2 : (y == x) = false := by simpa using he
        clear HY
        go_wp2
        go_roundw
        case rel => exact ⟨k + 1, by omega, by go_num, trivial, HT2⟩
        case measure => simp [intOf]; omega
    · obtain rfl : k = n := by omega
      have HM : Hid (decide (x ∈ l) = false) := decide_eq_false (by
        have := unhide HT
        rwa [List.take_of_length_le (by omega)] at this)
      go_wp2
      go_ret
      exact ⟨by rw [unhide HM]; rfl, rfl⟩
theorem leads_bad {l : List Ob} {x : Vl} (h : ¬ (x.kind = 4 ∧ 1 ≤ x.n ∧ x.n ≤ (l.length : Int))) : leadsN l x = 0 := by
  unfold leadsN
  refine if_neg (fun c => h ⟨c.1, c.2.1, ?_⟩)
  have := (liveN_le c.2.2).2.1
  omega
theorem leads_at {l : List Ob} {j : Nat} {o : Ob} (h : l[j]? = some o) : leadsN l ⟨4, (j : Int) + 1⟩ = if freeO o = true then 0 else j + 1 := by
  unfold leadsN liveN
  have e : ((j : Int) + 1).toNat = j + 1 := by omega
  simp only [e, Nat.add_sub_cancel, h]
  by_cases hf : freeO o = true
  · simp [hf]
  · have hf2 : freeO o = false := by simpa using hf
    simp [hf2]
    omega
set_option maxHeartbeats 800000 in
theorem rleads_any (w : World) (s : Sl) (rs : List ObR) (h : HIn w s rs) (x : Vl) :
    Calls Try.prog 44 #[s.v, .agg #[.int .i64 x.kind, .int .i64 x.n]] w fun e w' => e = .returned (.int .i64 (leadsN (rs.map ObR.o) x : Int)) ∧ Below w.heap.size w w' := by
  obtain ⟨sa, sn, sc⟩ := s
  obtain ⟨xk, xn⟩ := x
  have hln : rs.length = sn := h.ls.1
  have hlen : (rs.map ObR.o).length = sn := by rw [List.length_map]; omega
  have HI := hide h
  clear h
  have hb := stands2 (t := 47) w (.int .i64 xk) (.int .i64 xn) _ (Below.refl _ _)
  obtain ⟨b0, b1⟩ := hb
  have HB : Hid (Below w.heap.size w (w.alloc (.cells #[.int .i64 xk, .int .i64 xn] 47))) := (Below.refl _ _).alloc (Nat.le_refl _) _
  simp only [Sl.v]
  by_cases hg : xk = 4 ∧ 1 ≤ xn ∧ xn ≤ (sn : Int)
  case neg =>
    have HZ : Hid (leadsN (rs.map ObR.o) ⟨xk, xn⟩ = 0) := leads_bad (by rw [hlen]; exact hg)
    by_cases hk : xk = 4
    · subst hk
      by_cases h1 : xn < 1
      · clear hg
        go_enter Try.func44, Try.ntmps44
        go_wp2
        go_ret
        exact ⟨by rw [unhide HZ]; rfl, unhide HB⟩
      · have h2 : (sn : Int) < xn := by
          have : ¬ (1 ≤ xn ∧ xn ≤ (sn : Int)) := fun c => hg ⟨rfl, c⟩
          omega
        clear hg
        go_enter Try.func44, Try.ntmps44
        go_wp2
        go_ret
        exact ⟨by rw [unhide HZ]; rfl, unhide HB⟩
    · have hk2 : (xk == 4) = false := by simpa using hk
      clear hg
      go_enter Try.func44, Try.ntmps44
      go_wp2
      go_ret
      exact ⟨by rw [unhide HZ]; rfl, unhide HB⟩
  obtain ⟨rfl, h1, h2⟩ := hg
  obtain ⟨j, rfl⟩ : ∃ j : Nat, xn = (j : Int) + 1 := ⟨(xn - 1).toNat, by omega⟩
  obtain ⟨r, hr⟩ : ∃ r, rs[j]? = some r := ⟨_, List.getElem?_eq_getElem (by omega)⟩
  obtain ⟨b, o, ea, qq⟩ := memb_row (unhide HI) hr
  simp only at ea
  subst ea
  have HL := hide (leads_at (map_get (f := ObR.o) hr))
  have hfit := (unhide HI).small
  simp only at hfit
  have hw1 : IntKind.i64.wrap (j : Int) = (j : Int) := by rw [IntKind.wrap_i64]; omega
  have hj2 : (0 : Int) ≤ (j : Int) := by omega
  have hj3 : (j : Int) < (sn : Int) := by omega
  have hj4 : ¬ (j : Int) + 1 < 1 := by omega
  have hj5 : ¬ (sn : Int) < (j : Int) + 1 := by omega
  have c0 := (qq (unhide HB)).zero
  have HTN := ty_nil r.ty
  have HO : Hid (freeO r.o = r.ty.isEmpty) := rfl
  generalize (⟨r.ty.toArray⟩ : ByteArray) = st at *
  clear qq hr h1 h2
  cases hf : r.ty.isEmpty with
  | true =>
    rw [hf] at HTN
    have hst : st.toList = [] := by simpa using HTN
    have HZ : Hid (leadsN (rs.map ObR.o) ⟨4, (j : Int) + 1⟩ = 0) := by have := unhide HL; rw [unhide HO, hf, if_pos rfl] at this; exact this
    clear HL HO hf
    go_enter Try.func44, Try.ntmps44
    go_wp2
    go_ret
    exact ⟨by rw [unhide HZ]; rfl, unhide HB⟩
  | false =>
    rw [hf] at HTN
    have hst : ¬ st.toList = [] := by simpa using HTN
    have HZ : Hid (leadsN (rs.map ObR.o) ⟨4, (j : Int) + 1⟩ = j + 1) := by have := unhide HL; rw [unhide HO, hf, if_neg (by decide)] at this; exact this
    clear HL HO hf
    go_enter Try.func44, Try.ntmps44
    go_wp2
    go_ret
    exact ⟨by rw [unhide HZ, show ((j + 1 : Nat) : Int) = (j : Int) + 1 by omega]; rfl, unhide HB⟩
end Go.Proofs.Ytnnanlniffjnkaa
