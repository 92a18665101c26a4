/- Does going up end from each class: the law's own ends. -/
import Derived.Test.YtjhiflhmefhogaaJKsJ

namespace Go.Proofs.Ytjhiflhmefhogaa
open Go.RowKit
set_option linter.unusedVariables false
set_option maxRecDepth 100000

theorem fstN_first {l : List Nc} {nm : List UInt8} {k : Nat} (h : fstN l nm = some k) (j : Nat) (c : Nc) (hj : j < k) (hc : l[j]? = some c) : c.name ≠ nm := by
  unfold fstN at h
  rw [List.findIdx?_eq_some_iff_getElem] at h
  obtain ⟨hk, _, h2⟩ := h
  have := h2 j hj
  rw [(List.getElem?_eq_some_iff.1 hc).2] at this
  simpa using this
theorem up_few (l : List Nc) (nm : List UInt8) : (upL l nm).length ≤ l.length + 1 := by
  have key : ∀ (f : Nat) (met : List Nat) (p : Option Nat), (upF l f met p).length ≤ f := by
    intro f
    induction f with
    | zero => intro met p; simp [upF]
    | succ f ih =>
      intro met p
      cases p with
      | none => simp [upF]
      | some p =>
        unfold upF
        split
        · simp
        · split
          · simp
          · split
            · simp
            · rename_i q _ _
              have := ih (p :: met) (some q)
              simp only [List.length_cons]
              omega
  exact key _ _ _
def EndPost (l : List Nc) (e : Ending) : Prop := ∃ b, e = .returned (.bool b) ∧ (b = true → EndsAll l)
set_option maxHeartbeats 6400000 in
theorem ends10_any (w : World) (a : Option Addr) (n cap : Nat) (l : List Nc) (hL : Ls 5 ncc w a n l) (hn : n ≤ 40) :
    Calls Try.prog 29 #[.slice a n cap] w fun e w' => EndPost l e ∧ Below w.heap.size w w' := by
  have hln := hL.1
  have HL := hide hL
  clear hL
  go_enter Try.func29, Try.ntmps29
  go_wp2
  go_loopw [3] (fun i wr => ∃ k : Nat, k ≤ n ∧ i = .int .i64 k ∧ Hid (Below w.heap.size w wr) ∧ Hid (∀ (j : Nat) c, j < k → l[j]? = some c → nxt l (lastUp l c.name) = none)) (fun i _ => n - (intOf i).toNat)
  case atStart => exact ⟨0, by omega, rfl, Below.refl _ _, fun j c h => by omega⟩
  case round =>
    obtain ⟨k, hk, rfl, HF, HR⟩ := hrel
    by_cases hlt : k < n
    case neg =>
      obtain rfl : k = n := by omega
      have HE : Hid (EndsAll l) := fun c hc => by
        obtain ⟨j, hj⟩ := List.getElem?_of_mem hc
        exact unhide HR j c (by have := (List.getElem?_eq_some_iff.1 hj).1; omega) hj
      clear HR
      go_wp2
      go_ret
      exact ⟨⟨true, rfl, fun _ => unhide HE⟩, unhide HF⟩
    have hlt1 : (k : Int) < (n : Int) := by omega
    obtain ⟨b1, o1, h1a, h1⟩ := Ls.row (unhide HL) (w' := w) (by omega)
    subst h1a
    have HCEL : Hid (∀ wx, Below w.heap.size w wx → ∀ (j : Nat) c, l[j]? = some c → wx.cell? ⟨b1, o1 + j * 5 + 1, none⟩ = some (.string ⟨c.name.toArray⟩) ∧ wx.cell? ⟨b1, o1 + j * 5 + 2, none⟩ = some (.string ⟨c.sup.toArray⟩)) := fun wx f j c hc => ⟨(h1 f j c hc) 1 _ rfl, (h1 f j c hc) 2 _ rfl⟩
    obtain ⟨c, hc⟩ : ∃ c, l[k]? = some c := ⟨_, List.getElem?_eq_getElem (by omega)⟩
    have r1 := (unhide HCEL wr (unhide HF) k c hc).1
    have HHC := hide hc
    have HA := hide (yAbove_any wr (some ⟨b1, o1, none⟩) n cap l ((unhide HL).below (unhide HF)) hn ⟨c.name.toArray⟩ c.name ⟨rfl⟩)
    clear h1 hc
    go_wp2_with fail
    refine (unhide HA).mono ?_
    rintro e w1 ⟨v, rfl, ov, f1⟩
    have HF1 := hide ((unhide HF).trans (f1.mono (unhide HF).size))
    obtain ⟨va, vc, rfl, hv1, hv2, hv3⟩ := ov.form
    have hvl := ov.ls rkS
    have r2 := (unhide HCEL w1 (unhide HF1) k c (unhide HHC)).1
    have hup : (upL l c.name).length ≤ 1000000 := by have := up_few l c.name; omega
    have HLU : Hid (lastUp l c.name = (upL l c.name).getLast?.getD c.name) := rfl
    clear HA r1 ov f1
    by_cases hem : upL l c.name = []
    · rw [hem] at hvl HLU ⊢
      obtain ⟨LS, hLS⟩ : ∃ LS : ByteArray, ⟨c.name.toArray⟩ = LS := ⟨_, rfl⟩
      rw [hLS] at r2
      have HLS : Hid (Str LS (lastUp l c.name)) := ⟨by rw [unhide HLU, ← hLS]; rfl⟩
      generalize hLU : lastUp l c.name = LU at *
      have HLUE := hide hLU
      clear HLU hem hvl hLS hup hv1 hv2 hv3 hLU
      go_wp2
      go_loopw [6] (fun i wx => ∃ k2 : Nat, k2 ≤ n ∧ i = .int .i64 k2 ∧ wx = w1 ∧ Hid (∀ (j : Nat) c', j < k2 → l[j]? = some c' → fstN l LU = some j → c'.sup = [])) (fun i _ => n - (intOf i).toNat)
      case atStart => exact ⟨0, by omega, rfl, rfl, fun j c' h => by omega⟩
      case round =>
        obtain ⟨k2, hk2, rfl, rfl, HQ⟩ := hrel
        by_cases hlt2 : k2 < n
        case neg =>
          obtain rfl : k2 = n := by omega
          have HNX : Hid (nxt l LU = none) := by
            show nxt l LU = none
            unfold nxt
            cases hp : fstN l LU with
            | none => rfl
            | some p =>
              obtain ⟨c', hc', _, hpl⟩ := fstN_some hp
              simp only
              rw [if_pos (by rw [supAt_is hc']; exact unhide HQ p c' (by omega) hc' hp)]
          clear HQ
          go_wp2
          go_roundw
          case rel => exact ⟨k + 1, by omega, by go_num, HF1, fun j c' hj hc' => by
            by_cases hjk : j = k
            · subst hjk
              rw [unhide HHC] at hc'
              injection hc' with hc'
              rw [← hc', unhide HLUE]
              exact unhide HNX
            · exact unhide HR j c' (by omega) hc'⟩
          case measure => simp [intOf]; omega
        have hlt2' : (k2 : Int) < (n : Int) := by omega
        obtain ⟨c2, hc2⟩ : ∃ c2, l[k2]? = some c2 := ⟨_, List.getElem?_eq_getElem (by omega)⟩
        have s1 := (unhide HCEL wr (unhide HF1) k2 c2 hc2).1
        have s2 := (unhide HCEL wr (unhide HF1) k2 c2 hc2).2
        have HC2 := hide hc2
        clear hc2
        by_cases hnm : c2.name = LU
        case neg =>
          obtain ⟨x1, x2, x3⟩ := str_ne (A := ⟨c2.name.toArray⟩) (B := LS) ⟨rfl⟩ (unhide HLS) hnm
          have HQ' : Hid (∀ (j : Nat) c', j < k2 + 1 → l[j]? = some c' → fstN l LU = some j → c'.sup = []) := fun j c' hj hc' hf => by
            by_cases hjk : j = k2
            · subst hjk
              obtain ⟨c3, hc3, hn3, _⟩ := fstN_some hf
              rw [unhide HC2] at hc3
              injection hc3 with hc3
              rw [← hc3] at hn3
              exact absurd hn3 hnm
            · exact unhide HQ j c' (by omega) hc' hf
          generalize (⟨c2.name.toArray⟩ : ByteArray) = N2 at *
          clear HQ HC2 hnm
          go_wp2
          go_roundw
          case rel => exact ⟨k2 + 1, by omega, by go_num, (by first | rfl | trivial), HQ'⟩
          case measure => simp [intOf]; omega
        have e1 : (⟨c2.name.toArray⟩ : ByteArray) = LS := by rw [hnm, (unhide HLS).eq]
        rw [e1] at s1
        by_cases hsp : c2.sup = []
        case pos =>
          have e2 : (⟨c2.sup.toArray⟩ : ByteArray) = ⟨#[]⟩ := by rw [hsp]
          rw [e2] at s2
          have HQ' : Hid (∀ (j : Nat) c', j < k2 + 1 → l[j]? = some c' → fstN l LU = some j → c'.sup = []) := fun j c' hj hc' hf => by
            by_cases hjk : j = k2
            · subst hjk
              rw [unhide HC2] at hc'
              injection hc' with hc'
              rw [← hc']
              exact hsp
            · exact unhide HQ j c' (by omega) hc' hf
          clear HQ HC2 e1 e2
          go_wp2
          go_roundw
          case rel => exact ⟨k2 + 1, by omega, by go_num, (by first | rfl | trivial), HQ'⟩
          case measure => simp [intOf]; omega
        obtain ⟨S2, hS2⟩ := Str.of c2.sup
        rw [← hS2.eq] at s2
        have z1 : ¬ S2.toList = [] := by rw [hS2.list]; exact hsp
        have z2 : S2.toList.isEmpty = false := by rw [hS2.list]; cases hcs : c2.sup with | nil => exact absurd hcs hsp | cons _ _ => rfl
        have z3 : (S2.toList == []) = false := by simpa using z1
        have z4 : (S2.toList != []) = true := by simpa using z1
        clear hS2 e1
        go_wp2
        go_loopw [7, 8] (fun fv i wy => ∃ (j2 : Nat) (fb : Bool), j2 ≤ k2 ∧ i = .int .i64 j2 ∧ wy = wr ∧ fv = .bool fb ∧ Hid (fb = true ↔ (∀ (j : Nat) c', j < j2 → l[j]? = some c' → c'.name ≠ LU))) (fun _ i _ => k2 - (intOf i).toNat)
        case atStart => exact ⟨0, true, by omega, rfl, rfl, rfl, fun _ j c' h => by omega, fun _ => rfl⟩
        case round =>
          obtain ⟨j2, fb, hj2, rfl, rfl, rfl, HFB⟩ := hrel
          by_cases hlt3 : j2 < k2
          · have hlt3' : (j2 : Int) < (k2 : Int) := by omega
            have hlt3'' : (j2 : Int) < (n : Int) := by omega
            obtain ⟨c3, hc3⟩ : ∃ c3, l[j2]? = some c3 := ⟨_, List.getElem?_eq_getElem (by omega)⟩
            have s3 := (unhide HCEL wr (unhide HF1) j2 c3 hc3).1
            have HC3 := hide hc3
            clear hc3
            cases fb
            case true =>
              have hP := (unhide HFB).1 rfl
              by_cases hn3 : c3.name = LU
              · have e3 : (⟨c3.name.toArray⟩ : ByteArray) = LS := by rw [hn3, (unhide HLS).eq]
                rw [e3] at s3
                have HP' : Hid (¬ ∀ (j : Nat) c', j < j2 + 1 → l[j]? = some c' → c'.name ≠ LU) := fun h => h j2 c3 (by omega) (unhide HC3) hn3
                clear hP hn3 e3
                go_wp2
                go_roundw
                case rel => exact ⟨j2 + 1, _, by omega, by go_num, (by first | rfl | trivial), rfl, ⟨fun h => (by cases h), fun h => absurd h (unhide HP')⟩⟩
                case measure => simp [intOf]; omega
              · obtain ⟨x1, x2, x3⟩ := str_ne (A := ⟨c3.name.toArray⟩) (B := LS) ⟨rfl⟩ (unhide HLS) hn3
                have x4 : (((⟨c3.name.toArray⟩ : ByteArray)).toList != LS.toList) = true := by simpa using x1
                have HP' : Hid (∀ (j : Nat) c', j < j2 + 1 → l[j]? = some c' → c'.name ≠ LU) := fun j c' hj hc' => by
                  by_cases hjk : j = j2
                  · subst hjk
                    rw [unhide HC3] at hc'
                    injection hc' with hc'
                    rw [← hc']
                    exact hn3
                  · exact hP j c' (by omega) hc'
                generalize (⟨c3.name.toArray⟩ : ByteArray) = N3 at *
                clear hP hn3
                go_wp2
                go_roundw
                case rel => exact ⟨j2 + 1, _, by omega, by go_num, (by first | rfl | trivial), rfl, ⟨fun _ => unhide HP', fun _ => rfl⟩⟩
                case measure => simp [intOf]; omega
            case false =>
              have hP : ¬ (∀ (j : Nat) c', j < j2 → l[j]? = some c' → c'.name ≠ LU) := fun h => by have := (unhide HFB).2 h; cases this
              have HP' : Hid (¬ ∀ (j : Nat) c', j < j2 + 1 → l[j]? = some c' → c'.name ≠ LU) := fun h => hP fun j c' hj hc' => h j c' (by omega) hc'
              clear hP
              go_wp2
              go_roundw
              case rel => exact ⟨j2 + 1, _, by omega, by go_num, (by first | rfl | trivial), rfl, ⟨fun h => (by cases h), fun h => absurd h (unhide HP')⟩⟩
              case measure => simp [intOf]; omega
          · obtain rfl : j2 = k2 := by omega
            cases fb
            case true =>
              have hP := (unhide HFB).1 rfl
              clear hP
              go_wp2
              go_ret
              exact ⟨⟨false, rfl, fun h => by cases h⟩, unhide HF1⟩
            case false =>
              have hP : ¬ (∀ (j : Nat) c', j < j2 → l[j]? = some c' → c'.name ≠ LU) := fun h => by have := (unhide HFB).2 h; cases this
              have HQ' : Hid (∀ (j : Nat) c', j < j2 + 1 → l[j]? = some c' → fstN l LU = some j → c'.sup = []) := fun j c' hj hc' hf => by
                by_cases hjk : j = j2
                · subst hjk
                  exact absurd (fun i d hi hd => fstN_first hf i d hi hd) hP
                · exact unhide HQ j c' (by omega) hc' hf
              clear hP HQ
              go_wp2
              go_roundw
              case rel => exact ⟨j2 + 1, by omega, by go_num, (by first | rfl | trivial), HQ'⟩
              case measure => simp [intOf]; omega
    · have hpos : 0 < (upL l c.name).length := List.length_pos_iff.2 hem
      obtain ⟨s, hs⟩ : ∃ s, (upL l c.name)[(upL l c.name).length - 1]? = some s := ⟨_, List.getElem?_eq_getElem (by omega)⟩
      have hlu : lastUp l c.name = s := by
        rw [unhide HLU, List.getLast?_eq_getElem?, hs]
        rfl
      obtain ⟨b2, o2, h2a, h2⟩ := Ls.row hvl (w' := w1) (by omega)
      subst h2a
      have q1 := (h2 (Below.refl _ _) _ s hs).zero
      obtain ⟨LS, hLS⟩ : ∃ LS : ByteArray, ⟨s.toArray⟩ = LS := ⟨_, rfl⟩
      rw [hLS] at q1
      have HLS : Hid (Str LS (lastUp l c.name)) := ⟨by rw [hlu, hLS]⟩
      obtain ⟨m, hm⟩ : ∃ m, (upL l c.name).length = m + 1 := ⟨(upL l c.name).length - 1, by omega⟩
      rw [hm] at hvl q1 hup ⊢
      simp only [Nat.add_sub_cancel, Nat.mul_one] at q1
      obtain ⟨M, hM⟩ : ∃ M, m + 1 = M := ⟨_, rfl⟩
      rw [hM] at hvl hup ⊢
      have hM1 : (M : Int) - 1 = m := by omega
      have hM2 : (0 : Int) < (M : Int) := by omega
      have hM3 : (m : Int) < (M : Int) := by omega
      have hM4 : m < M := by omega
      have hM5 : (0 : Int) ≤ (m : Int) := by omega
      generalize hLU : lastUp l c.name = LU at *
      have HLUE := hide hLU
      clear HLU hem hvl hLS hv1 hv2 hv3 hLU h2 hs hlu hm hM hpos
      go_wp2
      go_loopw [6] (fun i wx => ∃ k2 : Nat, k2 ≤ n ∧ i = .int .i64 k2 ∧ wx = w1 ∧ Hid (∀ (j : Nat) c', j < k2 → l[j]? = some c' → fstN l LU = some j → c'.sup = [])) (fun i _ => n - (intOf i).toNat)
      case atStart => exact ⟨0, by omega, rfl, rfl, fun j c' h => by omega⟩
      case round =>
        obtain ⟨k2, hk2, rfl, rfl, HQ⟩ := hrel
        by_cases hlt2 : k2 < n
        case neg =>
          obtain rfl : k2 = n := by omega
          have HNX : Hid (nxt l LU = none) := by
            show nxt l LU = none
            unfold nxt
            cases hp : fstN l LU with
            | none => rfl
            | some p =>
              obtain ⟨c', hc', _, hpl⟩ := fstN_some hp
              simp only
              rw [if_pos (by rw [supAt_is hc']; exact unhide HQ p c' (by omega) hc' hp)]
          clear HQ
          go_wp2
          go_roundw
          case rel => exact ⟨k + 1, by omega, by go_num, HF1, fun j c' hj hc' => by
            by_cases hjk : j = k
            · subst hjk
              rw [unhide HHC] at hc'
              injection hc' with hc'
              rw [← hc', unhide HLUE]
              exact unhide HNX
            · exact unhide HR j c' (by omega) hc'⟩
          case measure => simp [intOf]; omega
        have hlt2' : (k2 : Int) < (n : Int) := by omega
        obtain ⟨c2, hc2⟩ : ∃ c2, l[k2]? = some c2 := ⟨_, List.getElem?_eq_getElem (by omega)⟩
        have s1 := (unhide HCEL wr (unhide HF1) k2 c2 hc2).1
        have s2 := (unhide HCEL wr (unhide HF1) k2 c2 hc2).2
        have HC2 := hide hc2
        clear hc2
        by_cases hnm : c2.name = LU
        case neg =>
          obtain ⟨x1, x2, x3⟩ := str_ne (A := ⟨c2.name.toArray⟩) (B := LS) ⟨rfl⟩ (unhide HLS) hnm
          have HQ' : Hid (∀ (j : Nat) c', j < k2 + 1 → l[j]? = some c' → fstN l LU = some j → c'.sup = []) := fun j c' hj hc' hf => by
            by_cases hjk : j = k2
            · subst hjk
              obtain ⟨c3, hc3, hn3, _⟩ := fstN_some hf
              rw [unhide HC2] at hc3
              injection hc3 with hc3
              rw [← hc3] at hn3
              exact absurd hn3 hnm
            · exact unhide HQ j c' (by omega) hc' hf
          generalize (⟨c2.name.toArray⟩ : ByteArray) = N2 at *
          clear HQ HC2 hnm
          go_wp2
          go_roundw
          case rel => exact ⟨k2 + 1, by omega, by go_num, (by first | rfl | trivial), HQ'⟩
          case measure => simp [intOf]; omega
        have e1 : (⟨c2.name.toArray⟩ : ByteArray) = LS := by rw [hnm, (unhide HLS).eq]
        rw [e1] at s1
        by_cases hsp : c2.sup = []
        case pos =>
          have e2 : (⟨c2.sup.toArray⟩ : ByteArray) = ⟨#[]⟩ := by rw [hsp]
          rw [e2] at s2
          have HQ' : Hid (∀ (j : Nat) c', j < k2 + 1 → l[j]? = some c' → fstN l LU = some j → c'.sup = []) := fun j c' hj hc' hf => by
            by_cases hjk : j = k2
            · subst hjk
              rw [unhide HC2] at hc'
              injection hc' with hc'
              rw [← hc']
              exact hsp
            · exact unhide HQ j c' (by omega) hc' hf
          clear HQ HC2 e1 e2
          go_wp2
          go_roundw
          case rel => exact ⟨k2 + 1, by omega, by go_num, (by first | rfl | trivial), HQ'⟩
          case measure => simp [intOf]; omega
        obtain ⟨S2, hS2⟩ := Str.of c2.sup
        rw [← hS2.eq] at s2
        have z1 : ¬ S2.toList = [] := by rw [hS2.list]; exact hsp
        have z2 : S2.toList.isEmpty = false := by rw [hS2.list]; cases hcs : c2.sup with | nil => exact absurd hcs hsp | cons _ _ => rfl
        have z3 : (S2.toList == []) = false := by simpa using z1
        have z4 : (S2.toList != []) = true := by simpa using z1
        clear hS2 e1
        go_wp2
        go_loopw [7, 8] (fun fv i wy => ∃ (j2 : Nat) (fb : Bool), j2 ≤ k2 ∧ i = .int .i64 j2 ∧ wy = wr ∧ fv = .bool fb ∧ Hid (fb = true ↔ (∀ (j : Nat) c', j < j2 → l[j]? = some c' → c'.name ≠ LU))) (fun _ i _ => k2 - (intOf i).toNat)
        case atStart => exact ⟨0, true, by omega, rfl, rfl, rfl, fun _ j c' h => by omega, fun _ => rfl⟩
        case round =>
          obtain ⟨j2, fb, hj2, rfl, rfl, rfl, HFB⟩ := hrel
          by_cases hlt3 : j2 < k2
          · have hlt3' : (j2 : Int) < (k2 : Int) := by omega
            have hlt3'' : (j2 : Int) < (n : Int) := by omega
            obtain ⟨c3, hc3⟩ : ∃ c3, l[j2]? = some c3 := ⟨_, List.getElem?_eq_getElem (by omega)⟩
            have s3 := (unhide HCEL wr (unhide HF1) j2 c3 hc3).1
            have HC3 := hide hc3
            clear hc3
            cases fb
            case true =>
              have hP := (unhide HFB).1 rfl
              by_cases hn3 : c3.name = LU
              · have e3 : (⟨c3.name.toArray⟩ : ByteArray) = LS := by rw [hn3, (unhide HLS).eq]
                rw [e3] at s3
                have HP' : Hid (¬ ∀ (j : Nat) c', j < j2 + 1 → l[j]? = some c' → c'.name ≠ LU) := fun h => h j2 c3 (by omega) (unhide HC3) hn3
                clear hP hn3 e3
                go_wp2
                go_roundw
                case rel => exact ⟨j2 + 1, _, by omega, by go_num, (by first | rfl | trivial), rfl, ⟨fun h => (by cases h), fun h => absurd h (unhide HP')⟩⟩
                case measure => simp [intOf]; omega
              · obtain ⟨x1, x2, x3⟩ := str_ne (A := ⟨c3.name.toArray⟩) (B := LS) ⟨rfl⟩ (unhide HLS) hn3
                have x4 : (((⟨c3.name.toArray⟩ : ByteArray)).toList != LS.toList) = true := by simpa using x1
                have HP' : Hid (∀ (j : Nat) c', j < j2 + 1 → l[j]? = some c' → c'.name ≠ LU) := fun j c' hj hc' => by
                  by_cases hjk : j = j2
                  · subst hjk
                    rw [unhide HC3] at hc'
                    injection hc' with hc'
                    rw [← hc']
                    exact hn3
                  · exact hP j c' (by omega) hc'
                generalize (⟨c3.name.toArray⟩ : ByteArray) = N3 at *
                clear hP hn3
                go_wp2
                go_roundw
                case rel => exact ⟨j2 + 1, _, by omega, by go_num, (by first | rfl | trivial), rfl, ⟨fun _ => unhide HP', fun _ => rfl⟩⟩
                case measure => simp [intOf]; omega
            case false =>
              have hP : ¬ (∀ (j : Nat) c', j < j2 → l[j]? = some c' → c'.name ≠ LU) := fun h => by have := (unhide HFB).2 h; cases this
              have HP' : Hid (¬ ∀ (j : Nat) c', j < j2 + 1 → l[j]? = some c' → c'.name ≠ LU) := fun h => hP fun j c' hj hc' => h j c' (by omega) hc'
              clear hP
              go_wp2
              go_roundw
              case rel => exact ⟨j2 + 1, _, by omega, by go_num, (by first | rfl | trivial), rfl, ⟨fun h => (by cases h), fun h => absurd h (unhide HP')⟩⟩
              case measure => simp [intOf]; omega
          · obtain rfl : j2 = k2 := by omega
            cases fb
            case true =>
              have hP := (unhide HFB).1 rfl
              clear hP
              go_wp2
              go_ret
              exact ⟨⟨false, rfl, fun h => by cases h⟩, unhide HF1⟩
            case false =>
              have hP : ¬ (∀ (j : Nat) c', j < j2 → l[j]? = some c' → c'.name ≠ LU) := fun h => by have := (unhide HFB).2 h; cases this
              have HQ' : Hid (∀ (j : Nat) c', j < j2 + 1 → l[j]? = some c' → fstN l LU = some j → c'.sup = []) := fun j c' hj hc' hf => by
                by_cases hjk : j = j2
                · subst hjk
                  exact absurd (fun i d hi hd => fstN_first hf i d hi hd) hP
                · exact unhide HQ j c' (by omega) hc' hf
              clear hP HQ
              go_wp2
              go_roundw
              case rel => exact ⟨j2 + 1, by omega, by go_num, (by first | rfl | trivial), HQ'⟩
              case measure => simp [intOf]; omega
end Go.Proofs.Ytjhiflhmefhogaa
