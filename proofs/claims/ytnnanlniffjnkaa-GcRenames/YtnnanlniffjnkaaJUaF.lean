/- Layer 16, the landed gc: Clone of values; the greatest number; Reach. -/
import Derived.Test.YtnnanlniffjnkaaJUaE

namespace Go.Proofs.Ytnnanlniffjnkaa
open Go.RowKit Go.Maps Go.Shelf
set_option linter.unusedVariables false
set_option maxRecDepth 100000

set_option maxHeartbeats 800000 in
theorem slCloneV_any (w : World) (s : Sl) (l : List Vl) (hL : Ls 2 vlc w s.a s.n l) (hnil : s.a = none → s.n = 0 ∧ s.c = 0) (hsm : s.n * 16 ≤ 140737488351232) :
    Calls Try.prog 32 #[s.v] w fun e w' => ∃ v, e = .returned v ∧ Orw vlc 47 2 w' w.heap.size v l ∧ Below w.heap.size w w' := by
  obtain ⟨a, n, c⟩ := s
  have q : ∀ (w : World) (a : Option Addr) (n c n' c' : Nat), (binOp .eql 23 (.slice a n c) (.slice none n' c')).run Try.prog w = .ok (.bool a.isNone) w := fun w a n c n' c' => Lib.run_eql_slice_nil w _ _ a n c n' c' Try.underlying23
  unfold Sl.v
  simp only at hL hnil hsm ⊢
  cases a with
  | none =>
    obtain ⟨rfl, rfl⟩ := hnil rfl
    have hl0 : l = [] := List.eq_nil_of_length_eq_zero hL.1
    subst hl0
    clear hL hnil
    go_enter Try.func32, Try.ntmps32
    go_wp2
    go_ret
    exact ⟨_, rfl, Orw.nil _ _ _ _ _, Below.refl _ _⟩
  | some ad =>
    have hown : Orw vlc 47 2 (w.alloc (.cells #[] 47)) w.heap.size (.slice (some ⟨w.heap.size, 0, none⟩) 0 0) [] := Orw.made _ _ _ w _ (Nat.le_refl _)
    have HB := hide (hL.below ((Below.refl _ _).alloc (Nat.le_refl _) (.cells #[] 47)))
    have HO0 := hide hown
    have hsm1 : ([] : List Vl).length + n ≤ 140737488355328 := by simp; omega
    have hsm2 : (([] : List Vl).length + n) * 16 ≤ 140737488355328 := by simp; omega
    have HS1 := hide hsm1
    have HS2 := hide hsm2
    clear hL hown hsm1 hsm2 hnil
    go_enter Try.func32, Try.ntmps32
    go_wp2_with (at_builtin; refine listR_append rkV rfl _ _ rfl w.heap.size _ [] rfl (unhide HO0) (some ad) n c l rfl (unhide HB) (fun e => by cases e) (unhide HS2) (unhide HS1) (by simp) ?_)
    intro v' w1 o1 g1
    try rw [List.nil_append] at o1
    have hb1 : Below w.heap.size w w1 := grown_below ((Below.refl _ _).alloc (Nat.le_refl _) _) (unhide HO0) g1
    obtain ⟨a1, c1, rfl, _⟩ := o1.form
    have HO := hide o1
    have HB1 := hide hb1
    clear o1 g1 hb1
    go_wp2
    go_ret
    exact ⟨_, rfl, unhide HO, unhide HB1⟩

def maxQ (q : List Nat) : Nat := q.foldl max 0
theorem maxQ_take {q : List Nat} {k n : Nat} (h : q[k]? = some n) : maxQ (q.take (k + 1)) = max (maxQ (q.take k)) n := by
  unfold maxQ
  rw [List.take_add_one, h, List.foldl_append]
  rfl
theorem slMaxI_any (w : World) (b c : Nat) (q : List Nat) (hne : q ≠ []) (hl : q.length ≤ 100000) (hb : ∀ n ∈ q, n ≤ 100000) (hq : ∀ k n : Nat, q[k]? = some n → w.cell? ⟨b, k, none⟩ = some (.int .i64 (n : Int))) :
    Calls Try.prog 45 #[.slice (some ⟨b, 0, none⟩) q.length c] w fun e w' => e = .returned (.int .i64 (maxQ q : Int)) ∧ w' = w := by
  have h1 : 1 ≤ q.length := by cases q with | nil => exact absurd rfl hne | cons x q => simp
  obtain ⟨n0, hn0⟩ : ∃ n0, q[0]? = some n0 := ⟨_, List.getElem?_eq_getElem (by omega)⟩
  have c0 := hq 0 n0 hn0
  have HQ := hide hq
  have hg : ¬ (q.length : Int) < 1 := by omega
  have H0 : Hid (maxQ (q.take 1) = n0) := by
    unfold Hid
    rw [maxQ_take hn0]
    simp [maxQ]
  clear hq
  go_enter Try.func45, Try.ntmps45
  go_wp2
  go_loopw [3, 4] (fun m i wr => ∃ k : Nat, 1 ≤ k ∧ k ≤ q.length ∧ i = .int .i64 k ∧ m = .int .i64 (maxQ (q.take k) : Int) ∧ wr = w) (fun _ i _ => q.length - (intOf i).toNat)
  case atStart => exact ⟨1, by omega, by omega, rfl, by rw [unhide H0], rfl⟩
  case round =>
    obtain ⟨k, hk1, hk, rfl, rfl, rfl⟩ := hrel
    by_cases hlt : k < q.length
    · have hlt1 : (k : Int) < (q.length : Int) := by omega
      have hk0 : (0 : Int) ≤ (k : Int) := by omega
      obtain ⟨n, hn⟩ : ∃ n, q[k]? = some n := ⟨_, List.getElem?_eq_getElem hlt⟩
      have cn := unhide HQ k n hn
      have hm := maxQ_take hn
      obtain ⟨mk1, hk1e⟩ : ∃ mk1, mk1 = maxQ (q.take (k + 1)) := ⟨_, rfl⟩
      have HMM := hide hk1e
      have hmx : max ((maxQ (q.take k) : Nat) : Int) (n : Int) = (mk1 : Int) := by rw [hk1e, hm]; omega
      clear hm hk1e
      generalize maxQ (q.take k) = mk at *
      go_wp2
      go_roundw
      case rel => exact ⟨k + 1, by omega, by omega, by go_num, by rw [← unhide HMM], trivial⟩
      case measure => simp [intOf]; omega
    · obtain rfl : k = q.length := by omega
      rw [List.take_of_length_le (by omega)]
      have hlt1 : ¬ (q.length : Int) < (q.length : Int) := by omega
      go_wp2
      go_ret
      exact ⟨rfl, rfl⟩
theorem maxQ_le {q : List Nat} {N : Nat} (h : ∀ n ∈ q, n ≤ N) : maxQ q ≤ N := by
  have : ∀ (q : List Nat) (a : Nat), a ≤ N → (∀ n ∈ q, n ≤ N) → q.foldl max a ≤ N := by
    intro q
    induction q with
    | nil => intro a ha _; exact ha
    | cons x q ih => intro a ha hq; exact ih _ (by have := hq x (List.mem_cons_self ..); omega) (fun n hn => hq n (List.mem_cons_of_mem _ hn))
  exact this q 0 (by omega) h
variable {B p m N : Nat} {s : Sl} {v : Value} {D : DataW Unit} {q : List Nat}
theorem greatest_any (w0 w : World) (l : List Ob) (hl : l.length ≤ 100000) (h : Wq w0 B p m s l q w) : Calls Try.prog 30 #[.pointer (some ⟨p, 0, none⟩)] w fun e w' => e = .returned (.int .i64 (maxQ q : Int)) ∧ w' = w := by
  obtain ⟨hin, _, v, N, D, hw⟩ := h
  have hle := hin.le
  obtain ⟨va, vc, hvv, _⟩ := hw.row.form
  rw [qi_len] at hvv
  have c1 := hw.c1
  by_cases hne : q = []
  · subst hne
    subst hvv
    clear hw hin
    go_enter Try.func30, Try.ntmps30
    go_wp2
    go_ret
    exact ⟨rfl, rfl⟩
  · have h1 : 1 ≤ q.length := by cases q with | nil => exact absurd rfl hne | cons x q => simp
    obtain ⟨n0, hn0⟩ : ∃ n0, q[0]? = some n0 := ⟨_, List.getElem?_eq_getElem (by omega)⟩
    obtain ⟨b, c, e2, _⟩ := queue_at hw hn0
    rw [hvv] at e2
    injection e2 with e2 _ e3
    subst e2 e3 hvv
    have HM := hide (slMaxI_any w b vc q hne (by omega) (fun n hn => by have := (liveN_le (hin.2 n hn)).2.1; omega) (fun k n hk => by
      obtain ⟨b', c', e3, h3⟩ := queue_at hw hk
      injection e3 with e3 _ e4
      injection e3 with e3
      injection e3 with e3
      subst e3 e4
      exact h3 w (Below.refl _ _)))
    have g1 : ¬ (q.length : Int) = 0 := by omega
    clear hw hin hn0
    go_enter Try.func30, Try.ntmps30
    go_wp2_with fail
    refine (unhide HM).mono ?_
    rintro e w' ⟨rfl, rfl⟩
    go_wp2
    go_ret
    exact ⟨rfl, rfl⟩
/-- What Reach answers: the list. -/
def reachV (l : List Ob) (roots : List Vl) : List Nat := if checkE l = 0 then reachH l roots else []
theorem Reach_any (w : World) (rs : List ObR) (h : HIn w s rs) (t : Sl) (vs : List Vl) (hv : WsIn w t vs) :
    Calls Try.prog 11 #[s.v, t.v] w fun e w' => ∃ v, e = .returned (.tuple #[v, .int .i64 (checkE (rs.map ObR.o))]) ∧ Orw i15 3 1 w' w.heap.size v (qi (reachV (rs.map ObR.o) vs)) ∧ Below w.heap.size w w' := by
  have HF := hide (from_any w rs h t vs hv)
  unfold reachV
  obtain ⟨sa, sn, sc⟩ := s
  obtain ⟨ta, tn, tc⟩ := t
  simp only [Sl.v] at HF ⊢
  clear h hv
  generalize checkE (rs.map ObR.o) = ce at *
  go_enter Try.func11, Try.ntmps11
  go_wp2_with fail
  refine (unhide HF).mono ?_
  rintro e w1 ⟨f1, ⟨h0, rfl⟩ | ⟨rfl, p, m, rfl, hq⟩⟩
  · have F1 := hide f1
    clear f1 HF
    go_wp2
    go_ret2
    exact ⟨_, rfl, Orw.nil _ _ _ _ _, unhide F1⟩
  · obtain ⟨hin, hb, v, N, D, hw⟩ := hq
    have c1 := hw.c1
    have F1 := hide f1
    have HR := hide hw.row
    clear f1 HF hw hin hb
    go_wp2
    go_ret2
    exact ⟨_, rfl, unhide HR, unhide F1⟩
end Go.Proofs.Ytnnanlniffjnkaa
