/- Classes by their names: a list of them in memory, the first one of a name. -/
import Derived.Test.YtjhiflhmefhogaaJKdU

namespace Go.Proofs.Ytjhiflhmefhogaa
open Go.RowKit
set_option linter.unusedVariables false
set_option maxRecDepth 100000

/-- A class: its name, and its Super. -/
structure Nc where
  name : List UInt8
  sup : List UInt8
deriving DecidableEq
def ncc (c : Nc) : List Value := [.slice none 0 0, .string ⟨c.name.toArray⟩, .string ⟨c.sup.toArray⟩, .slice none 0 0, .slice none 0 0]
def nc2 (c : Nc) : List Value := [.string ⟨c.name.toArray⟩, .string ⟨c.sup.toArray⟩]
theorem rkN : Rk ncc 52 40 5 104 (.agg #[.slice none 0 0, .string ⟨#[]⟩, .string ⟨#[]⟩, .slice none 0 0, .slice none 0 0]) := ⟨fun _ => rfl, fun x u hu => by simp [ncc] at hu; rcases hu with rfl | rfl | rfl | rfl <;> rfl, by decide, by kernel_rfl, rfl, Try.underlying40⟩
/-- The place of the first class of a name. -/
def fstN (l : List Nc) (nm : List UInt8) : Option Nat := l.findIdx? (fun c => decide (c.name = nm))
theorem fstN_some {l : List Nc} {nm : List UInt8} {k : Nat} (h : fstN l nm = some k) : ∃ c, l[k]? = some c ∧ c.name = nm ∧ k < l.length := by
  unfold fstN at h
  rw [List.findIdx?_eq_some_iff_getElem] at h
  obtain ⟨hk, h1, _⟩ := h
  exact ⟨l[k], List.getElem?_eq_getElem hk, by simpa using h1, hk⟩
theorem fstN_at {l : List Nc} {nm : List UInt8} {k : Nat} (c : Nc) (h1 : l[k]? = some c) (h2 : c.name = nm) (h3 : ∀ (j : Nat) c, j < k → l[j]? = some c → c.name ≠ nm) : fstN l nm = some k := by
  unfold fstN
  rw [List.findIdx?_eq_some_iff_getElem]
  obtain ⟨hk, e⟩ := List.getElem?_eq_some_iff.1 h1
  refine ⟨hk, by rw [e]; simpa using h2, fun j hj => ?_⟩
  have := h3 j _ hj (List.getElem?_eq_getElem (by omega))
  simpa using this
theorem fstN_none {l : List Nc} {nm : List UInt8} (h : ∀ (j : Nat) c, l[j]? = some c → c.name ≠ nm) : fstN l nm = none := by
  unfold fstN
  rw [List.findIdx?_eq_none_iff]
  intro c hc
  obtain ⟨j, hj⟩ := List.getElem?_of_mem hc
  simpa using h j c hj
def fstI (l : List Nc) (nm : List UInt8) : Int := match fstN l nm with | some k => k | none => -1
theorem str_ne {A B : ByteArray} {a b : List UInt8} (hA : Str A a) (hB : Str B b) (h : a ≠ b) : ¬ A.toList = B.toList ∧ (A.toList == B.toList) = false ∧ ¬ A = B := by
  refine ⟨by rw [hA.list, hB.list]; exact h, by rw [hA.list, hB.list]; simpa using h, fun e => h ?_⟩
  rw [← hA.list, ← hB.list, e]
set_option maxHeartbeats 800000 in
theorem yfirstOf_any (w : World) (a : Option Addr) (n c : Nat) (l : List Nc) (h : Ls 5 ncc w a n l) (hn : n ≤ 100000) (N : ByteArray) (nm : List UInt8) (hN : Str N nm) :
    Calls Try.prog 56 #[.slice a n c, .string N] w fun e w' => e = .returned (.int .i64 (fstI l nm)) ∧ Below w.heap.size w w' := by
  have hln := h.1
  have HL := hide h
  have HN := hide hN
  clear h hN
  go_enter Try.func56, Try.ntmps56
  go_wp2
  go_loopw [8] (fun i wr => ∃ k : Nat, k ≤ n ∧ i = .int .i64 k ∧ wr = w ∧ Hid (∀ (j : Nat) c, j < k → l[j]? = some c → c.name ≠ nm)) (fun i _ => n - (intOf i).toNat)
  case atStart => exact ⟨0, by omega, rfl, rfl, fun j c h => by omega⟩
  case round =>
    obtain ⟨k, hk, rfl, rfl, HR⟩ := hrel
    by_cases hlt : k < n
    · have hlt1 : (k : Int) < (n : Int) := by omega
      obtain ⟨b1, o1, h1a, h1⟩ := Ls.row (unhide HL) (w' := wr) (by omega)
      subst h1a
      obtain ⟨r, hr⟩ : ∃ r, l[k]? = some r := ⟨_, List.getElem?_eq_getElem (by omega)⟩
      have q1 := (h1 (Below.refl _ _) k r hr) 1 _ rfl
      have HHR := hide hr
      clear h1 hr
      by_cases he : r.name = nm
      · have HF : Hid (fstI l nm = k) := by
          show fstI l nm = k
          unfold fstI
          rw [fstN_at r (unhide HHR) he (unhide HR)]
        have e1 : (⟨r.name.toArray⟩ : ByteArray) = N := by rw [he, (unhide HN).eq]
        rw [e1] at q1
        clear he e1 HR HHR
        go_wp2
        go_ret
        exact ⟨ret_int (unhide HF).symm, Below.refl _ _⟩
      · obtain ⟨s1, s2, s3⟩ := str_ne (A := ⟨r.name.toArray⟩) (B := N) ⟨rfl⟩ (unhide HN) he
        have HR' : Hid (∀ (j : Nat) c, j < k + 1 → l[j]? = some c → c.name ≠ nm) := fun j c hj hc => by
          by_cases hjk : j = k
          · subst hjk
            rw [unhide HHR] at hc
            injection hc with hc
            rw [← hc]
            exact he
          · exact unhide HR j c (by omega) hc
        generalize (⟨r.name.toArray⟩ : ByteArray) = X at *
        clear he HR HHR
        go_wp2
        go_roundw
        case rel => exact ⟨k + 1, by omega, by go_num, (by first | rfl | trivial), HR'⟩
        case measure => simp [intOf]; omega
    · obtain rfl : k = n := by omega
      have HF : Hid (fstI l nm = -1) := by
        show fstI l nm = -1
        unfold fstI
        rw [fstN_none (fun j c hc => unhide HR j c (by have := (List.getElem?_eq_some_iff.1 hc).1; omega) hc)]
      clear HR
      go_wp2
      go_ret
      exact ⟨ret_int (unhide HF).symm, Below.refl _ _⟩
end Go.Proofs.Ytjhiflhmefhogaa
