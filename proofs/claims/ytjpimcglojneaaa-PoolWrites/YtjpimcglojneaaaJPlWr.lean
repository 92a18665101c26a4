/- The walk of PoolWrites. -/
import Derived.Test.YtjpimcglojneaaaJH
import Derived.Test.YtjpimcglojneaaaJPlU
import Derived.Test.YtjpimcglojneaaaJPlQ

namespace Go.Proofs.Ytjpimcglojneaaa
open Go.RowKit
set_option linter.unusedVariables false

theorem WR.lt {F : Nat → Prop} {w : World} {B x : Nat} {bs : List UInt8} (h : WR F w B x bs) : ∀ k, F k → B ≤ k ∧ k < w.heap.size := by
  obtain ⟨y, c, rfl, h⟩ := h
  intro k hk
  rcases hk with rfl | rfl
  · exact ⟨h.hx, h.xlt⟩
  · exact h.y
theorem WR.below {F : Nat → Prop} {w w' : World} {B x : Nat} {bs : List UInt8} (h : WR F w B x bs) (f : Below w.heap.size w w') : WR F w' B x bs := by
  obtain ⟨y, c, rfl, h⟩ := h
  exact ⟨y, c, rfl, h.below f⟩
theorem Fr6.es {F : Nat → Prop} {B : Nat} {w w' : World} {a : Option Addr} {n c : Nat} {l : List Ent} (f : Fr6 F B w w') (h : EIn w a n c l) (hB : B ≤ w.heap.size) (hf : ∀ b o, a = some ⟨b, o, none⟩ → 0 < n → ¬ F b) : EIn w' a n c l := by
  refine ⟨⟨⟨h.arg.es.1, ?_⟩, h.arg.room, h.arg.most, h.arg.nil⟩, h.small, h.fit⟩
  rcases h.arg.es.2 with h0 | ⟨b, o, e, hE⟩
  · exact .inl h0
  · by_cases hn : n = 0
    · exact .inl hn
    · refine .inr ⟨b, o, e, fun ad ead j u hu => ?_⟩
      have hc := hE ad ead j u hu
      injection ead with ead
      subst ead
      rw [Addr.add_mid] at hc ⊢
      exact (World.cell?_of_block (a := ⟨b, o + j, none⟩) (f.other b (World.block_lt_of_cell? w _ hc) (hf b o e (by omega)))).trans hc
theorem bytesP_len {l : List Ent} (h : checkP l = true) : (bytesP l).length ≤ 1000000 := by
  obtain ⟨⟨h1, h2⟩, _, h3⟩ := checkP_iff.1 h
  have key : ∀ s : List Ent, (∀ x ∈ s, (bytesE x).length ≤ 300) → (s.flatMap bytesE).length ≤ 300 * s.length := fun s => by
    induction s with
    | nil => intro _; simp
    | cons x s ih =>
      intro hs
      have a1 := hs x (by simp)
      have a2 := ih (fun y hy => hs y (by simp [hy]))
      simp only [List.flatMap_cons, List.length_append, List.length_cons]
      omega
  have hk := key (l.drop 1) (fun x hx => by
    by_cases h0 : x.tag = 0
    · unfold bytesE
      rw [if_pos h0]
      simp
    · have := bodyE_le (goE_mem _ h3 x hx h0)
      unfold bytesE
      rw [if_neg h0, List.length_cons]
      omega)
  unfold bytesP
  rw [List.length_append, bytesW_len]
  simp only [List.length_drop] at hk
  have : (2 : Int).toNat = 2 := rfl
  omega

set_option maxHeartbeats 6400000 in
set_option maxRecDepth 100000 in
theorem writes_walk7 (P : PoolsRW) (w : World) (a : Option Addr) (n c : Nat) (l : List Ent) (h : EIn w a n c l) :
    Calls Try.prog 4 #[.slice a n c] w fun e w' => e = .returned (.bool true) ∧ Below w.heap.size w w' := by
  have HI := hide h
  have hsm : n ≤ 140737488351232 := by have := h.small; omega
  clear h
  go_enter Try.func4, Try.ntmps4
  go_wp2_with fail
  refine (eMake_any w).mono ?_
  rintro e w1 ⟨x, F, rfl, hw1, f1⟩
  have HO := hide (own7_any w1 a n c l ((unhide HI).below f1).arg (unhide HI).small)
  have HW1 := hide hw1
  have F1 := hide f1
  clear hw1 f1
  go_wp2_with fail
  refine (unhide HO).mono ?_
  rintro e w2 ⟨v2, rfl, o2, f2⟩
  obtain ⟨a2, c2, rfl⟩ := own5_form o2
  have hfar2 : ∀ b o, a2 = some ⟨b, o, none⟩ → 0 < n → ¬ F b := fun b o e hn hF => by
    subst e
    have h1 := (o2.lt b rfl).1
    have h2 := ((unhide HW1).lt b hF).2
    omega
  have HW := hide (P.write F w2 w.heap.size x [] a2 n c2 l ((unhide HW1).below f2) (EIn.own o2 (unhide HI).small (unhide HI).fit) hfar2 (by simp))
  have F2 := hide ((unhide F1).trans (f2.mono (unhide F1).size))
  have hFl : Hid (∀ k, F k → w.heap.size ≤ k) := fun k hk => ((unhide HW1).lt k hk).1
  clear o2 f2 F1 HW1 HO hfar2
  obtain ⟨Z, hZ⟩ : ∃ Z : Int, (if checkP l = true then (0 : Int) else 70) = Z := ⟨_, rfl⟩
  rw [hZ] at HW
  have HZ := hide hZ
  clear hZ
  go_wp2_with fail
  refine (unhide HW).mono ?_
  rintro e w3 ⟨rfl, ⟨F3, hw3, hF3⟩, fr3⟩
  have F3' := hide ((unhide F2).trans (fr3.below))
  have XC : Hid (∀ W a c, EIn W a n c l → Calls Try.prog 19 #[.slice a n c] W fun e w' => e = .returned (.int .i64 Z) ∧ Below W.heap.size W w') := fun W a c h => by
    have := P.pools.check W a n c l h
    rw [unhide HZ] at this
    exact this
  have XJ : Hid (∀ W a c, EIn W a n c l → Calls Try.prog 20 #[.slice a n c] W fun e w' => e = .returned (.int .i64 Z) ∧ Below W.heap.size W w') := fun W a c h => by
    have := jCheck_any W a n c l h.arg.es hsm h.fit.1 h.fit.2
    rw [unhide HZ] at this
    exact this
  have HO3 := hide (own7_any w3 a n c l ((unhide HI).below (unhide F3')).arg (unhide HI).small)
  have HW3 := hide hw3
  clear HW hw3 fr3 hF3 F2 hFl
  go_wp2_with fail
  refine (unhide HO3).mono ?_
  rintro e w4 ⟨v4, rfl, o4, f4⟩
  obtain ⟨a4, c4, rfl⟩ := own5_form o4
  have HI4 := hide (EIn.own o4 (unhide HI).small (unhide HI).fit)
  have F4 := hide ((unhide F3').trans (f4.mono (unhide F3').size))
  have HW4 := hide ((unhide HW3).below f4)
  clear o4 f4 HO3 HW3 F3'
  go_wp2_with fail
  refine (unhide XC _ _ _ (unhide HI4)).mono ?_
  rintro e w5 ⟨rfl, f5⟩
  have F5 := hide ((unhide F4).trans (f5.mono (unhide F4).size))
  have HW5 := hide ((unhide HW4).below f5)
  clear f5 F4 HW4 HI4 XC
  go_wp2_with fail
  refine (unhide XJ _ _ _ ((unhide HI).below (unhide F5))).mono ?_
  rintro e w6 ⟨rfl, f6⟩
  have F6 := hide ((unhide F5).trans (f6.mono (unhide F5).size))
  have HW6 := hide ((unhide HW5).below f6)
  clear f6 F5 HW5
  go_wp2_with fail
  refine (unhide XJ _ _ _ ((unhide HI).below (unhide F6))).mono ?_
  rintro e w7 ⟨rfl, f7⟩
  have F7 := hide ((unhide F6).trans (f7.mono (unhide F6).size))
  have HW7 := hide ((unhide HW6).below f7)
  clear f7 F6 HW6 XJ
  by_cases hc : checkP l = true
  case neg =>
    have hz := unhide HZ
    rw [if_neg hc] at hz
    subst hz
    rw [if_neg hc] at HW7
    have XL := hide (eLen_any F3 w7 w.heap.size x [] (unhide HW7))
    clear HZ hc HW7
    go_wp2_with fail
    refine (unhide XL).mono ?_
    rintro e w8 ⟨rfl, f8⟩
    have F8 := hide ((unhide F7).trans (f8.mono (unhide F7).size))
    clear f8 F7 XL
    go_wp2_with fail
    refine (works7_any P.pools w8).mono ?_
    rintro e w9 ⟨rfl, f9⟩
    have F9 := hide ((unhide F8).trans (f9.mono (unhide F8).size))
    clear f9 F8
    go_wp2
    go_ret
    exact ⟨rfl, unhide F9⟩
  have hz := unhide HZ
  rw [if_pos hc] at hz
  subst hz
  rw [if_pos hc, List.nil_append] at HW7
  have hbl := bytesP_len hc
  have XA := hide (eAll_any F3 w7 w.heap.size x (bytesP l) (unhide HW7) (by omega))
  have HCK := hide hc
  clear HZ hc
  go_wp2_with fail
  refine (unhide XA).mono ?_
  rintro e w8 ⟨v8, rfl, o8, f8⟩
  obtain ⟨a8, c8, rfl, _⟩ := own_form o8
  have F8 := hide ((unhide F7).trans (f8.mono (unhide F7).size))
  have XB := hide (jBytes_any w8 a n c l ((unhide HI).below (unhide F8)).arg.es (unhide HCK) (unhide HI).fit.2)
  have O8 := hide o8
  clear o8 f8 F7 XA HW7
  go_wp2_with fail
  refine (unhide XB).mono ?_
  rintro e w9 ⟨v9, rfl, o9, f9⟩
  obtain ⟨a9, c9, rfl, _⟩ := own_form o9
  have F9 := hide ((unhide F8).trans (f9.mono (unhide F8).size))
  have XS := hide (SameBytes_n w9 a8 a9 (bytesP l) (bytesP l) (bytesP l).length (bytesP l).length c8 c9 ((own_bytes (unhide O8)).below f9) (own_bytes o9) rfl rfl)
  clear o9 f9 F8 XB O8
  generalize bytesP l = by_ at *
  go_wp2_with fail
  refine (unhide XS).mono ?_
  rintro e w10 ⟨rfl, e0⟩
  have e0' := e0.symm
  clear e0
  subst e0'
  clear XS
  have hbb : decide (by_ = by_) = true := decide_eq_true rfl
  go_wp2_with fail
  refine (works7_any P.pools _).mono ?_
  rintro e w11 ⟨rfl, f11⟩
  have F11 := hide ((unhide F9).trans (f11.mono (unhide F9).size))
  clear f11 F9
  go_wp2
  go_ret
  exact ⟨rfl, unhide F11⟩

end Go.Proofs.Ytjpimcglojneaaa
