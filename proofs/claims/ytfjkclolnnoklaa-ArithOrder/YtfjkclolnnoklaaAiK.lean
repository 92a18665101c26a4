/- Layer 14: the walks of ArithOrder and ArithDivides (written by mk/mkaik.py). -/
import Derived.Test.YtfjkclolnnoklaaAiI
namespace Go.Proofs.Ytfjkclolnnoklaa
open Go.RowKit
set_option linter.unusedVariables false
set_option maxRecDepth 100000

theorem l14do_any (w : World) (op x y z : Int) (hx : lonA x) (hy : lonA y) (h : lonR op x y = (z, 0)) : Calls Try.prog 21 #[.int .i64 op, .int .i64 x, .int .i64 y] w fun e w' => e = .returned (.int .i64 z) ∧ w' = w := by
  have H1 := hide (i14Long_any w op x y hx hy)
  rw [h] at H1
  simp only at H1
  clear h
  go_enter Try.func21, Try.ntmps21
  go_wp2_with fail
  refine (unhide H1).mono ?_
  rintro e w1 ⟨rfl, rfl⟩
  go_wp2
  go_ret
  exact ⟨rfl, rfl⟩
theorem l14sm_any (w : World) (op x y z : Int) (h : intR op x y = (z, 0)) : Calls Try.prog 22 #[.int .i64 op, .int .i64 x, .int .i64 y] w fun e w' => e = .returned (.int .i64 z) ∧ w' = w := by
  have H1 := hide (i14Int_any w op x y)
  rw [h] at H1
  simp only at H1
  clear h
  go_enter Try.func22, Try.ntmps22
  go_wp2_with fail
  refine (unhide H1).mono ?_
  rintro e w1 ⟨rfl, rfl⟩
  go_wp2
  go_ret
  exact ⟨rfl, rfl⟩
theorem lon97 (x y : Int) : lonR 97 x y = (r64 (x + y), 0) := rfl
theorem lon101 (x y : Int) : lonR 101 x y = (r64 (x - y), 0) := rfl
theorem lon105 (x y : Int) : lonR 105 x y = (r64 (x * y), 0) := rfl
theorem lon109 {x y : Int} (h : y ≠ 0) : lonR 109 x y = (r64 (x.tdiv y), 0) := of2_ok rfl (fun e => h e.2)
theorem lon113 {x y : Int} (h : y ≠ 0) : lonR 113 x y = (x.tmod y, 0) := of2_ok rfl (fun e => h e.2)
theorem lon109z (x : Int) : lonR 109 x 0 = (0, 5) := rfl
theorem lon113z (x : Int) : lonR 113 x 0 = (0, 5) := rfl
theorem int_of {op x y : Int} (hx : intA x) (hy : intA y) : intR op x y = of2 (op32 op x y) (op = 108 ∨ op = 112) y := by unfold intR; rw [if_pos ⟨hx, hy⟩]
theorem int96 {x y : Int} (hx : intA x) (hy : intA y) : intR 96 x y = (rnd (x + y), 0) := by rw [int_of hx hy]; rfl
theorem int100 {x y : Int} (hx : intA x) (hy : intA y) : intR 100 x y = (rnd (x - y), 0) := by rw [int_of hx hy]; rfl
theorem int104 {x y : Int} (hx : intA x) (hy : intA y) : intR 104 x y = (rnd (x * y), 0) := by rw [int_of hx hy]; rfl
theorem int108 {x y : Int} (hx : intA x) (hy : intA y) (h : y ≠ 0) : intR 108 x y = (rnd (x.tdiv y), 0) := by rw [int_of hx hy]; exact of2_ok rfl (fun e => h e.2)
theorem int112 {x y : Int} (hx : intA x) (hy : intA y) (h : y ≠ 0) : intR 112 x y = (x.tmod y, 0) := by rw [int_of hx hy]; exact of2_ok rfl (fun e => h e.2)
theorem int108z {x : Int} (hx : intA x) : intR 108 x 0 = (0, 5) := by rw [int_of hx (by decide)]; rfl
theorem int112z {x : Int} (hx : intA x) : intR 112 x 0 = (0, 5) := by rw [int_of hx (by decide)]; rfl
set_option maxHeartbeats 3200000 in
theorem arithOrder_walk (w : World) (a b c : Int) (ha : lonA a) (hb : lonA b) (hc : lonA c) : Calls Try.prog 8 #[.int .i64 a, .int .i64 b, .int .i64 c] w fun e w' => e = .returned (.bool true) ∧ Below w.heap.size w w' := by
  have HW := hide (works14_any w)
  obtain ⟨m, hm⟩ : ∃ m, m = rnd a := ⟨_, rfl⟩
  obtain ⟨n, hn⟩ : ∃ n, n = rnd b := ⟨_, rfl⟩
  obtain ⟨p, hp⟩ : ∃ p, p = rnd c := ⟨_, rfl⟩
  have im : intA m := by rw [hm]; exact rnd_in a
  have iN : intA n := by rw [hn]; exact rnd_in b
  have ip : intA p := by rw [hp]; exact rnd_in c
  have HM : Hid (∀ W, Calls Try.prog 11 #[.int .i64 a] W fun e w' => e = .returned (.int .i64 m) ∧ w' = W) := fun W => by rw [hm]; exact i14Round_any W a
  have HN : Hid (∀ W, Calls Try.prog 11 #[.int .i64 b] W fun e w' => e = .returned (.int .i64 n) ∧ w' = W) := fun W => by rw [hn]; exact i14Round_any W b
  have HP : Hid (∀ W, Calls Try.prog 11 #[.int .i64 c] W fun e w' => e = .returned (.int .i64 p) ∧ w' = W) := fun W => by rw [hp]; exact i14Round_any W c
  obtain ⟨S, hS⟩ : ∃ S, S = r64 (a + b) := ⟨_, rfl⟩
  obtain ⟨M, hM⟩ : ∃ M, M = r64 (a * b) := ⟨_, rfl⟩
  obtain ⟨N, hN⟩ : ∃ N, N = r64 (a * c) := ⟨_, rfl⟩
  obtain ⟨U, hU⟩ : ∃ U, U = r64 (b + c) := ⟨_, rfl⟩
  obtain ⟨T, hT⟩ : ∃ T, T = r64 (S + c) := ⟨_, rfl⟩
  obtain ⟨V, hV⟩ : ∃ V, V = r64 (a * U) := ⟨_, rfl⟩
  have lS : lonA S := by rw [hS]; exact r64_in _
  have lM : lonA M := by rw [hM]; exact r64_in _
  have lN : lonA N := by rw [hN]; exact r64_in _
  have lU : lonA U := by rw [hU]; exact r64_in _
  have D1 : Hid (∀ W, Calls Try.prog 21 #[.int .i64 97, .int .i64 a, .int .i64 b] W fun e w' => e = .returned (.int .i64 S) ∧ w' = W) := fun W => l14do_any W 97 a b S ha hb (by rw [lon97, hS])
  have D2 : Hid (∀ W, Calls Try.prog 21 #[.int .i64 97, .int .i64 b, .int .i64 a] W fun e w' => e = .returned (.int .i64 S) ∧ w' = W) := fun W => l14do_any W 97 b a S hb ha (by rw [lon97, hS, Int.add_comm])
  have D3 : Hid (∀ W, Calls Try.prog 21 #[.int .i64 105, .int .i64 a, .int .i64 b] W fun e w' => e = .returned (.int .i64 M) ∧ w' = W) := fun W => l14do_any W 105 a b M ha hb (by rw [lon105, hM])
  have D4 : Hid (∀ W, Calls Try.prog 21 #[.int .i64 105, .int .i64 b, .int .i64 a] W fun e w' => e = .returned (.int .i64 M) ∧ w' = W) := fun W => l14do_any W 105 b a M hb ha (by rw [lon105, hM, Int.mul_comm])
  have D5 : Hid (∀ W, Calls Try.prog 21 #[.int .i64 97, .int .i64 S, .int .i64 c] W fun e w' => e = .returned (.int .i64 T) ∧ w' = W) := fun W => l14do_any W 97 S c T lS hc (by rw [lon97, hT])
  have D6 : Hid (∀ W, Calls Try.prog 21 #[.int .i64 97, .int .i64 b, .int .i64 c] W fun e w' => e = .returned (.int .i64 U) ∧ w' = W) := fun W => l14do_any W 97 b c U hb hc (by rw [lon97, hU])
  have D7 : Hid (∀ W, Calls Try.prog 21 #[.int .i64 97, .int .i64 a, .int .i64 U] W fun e w' => e = .returned (.int .i64 T) ∧ w' = W) := fun W => l14do_any W 97 a U T ha lU (by rw [lon97, hT, hS, hU, r64_assoc])
  have D8 : Hid (∀ W, Calls Try.prog 21 #[.int .i64 105, .int .i64 a, .int .i64 U] W fun e w' => e = .returned (.int .i64 V) ∧ w' = W) := fun W => l14do_any W 105 a U V ha lU (by rw [lon105, hV])
  have D9 : Hid (∀ W, Calls Try.prog 21 #[.int .i64 105, .int .i64 a, .int .i64 c] W fun e w' => e = .returned (.int .i64 N) ∧ w' = W) := fun W => l14do_any W 105 a c N ha hc (by rw [lon105, hN])
  have D10 : Hid (∀ W, Calls Try.prog 21 #[.int .i64 97, .int .i64 M, .int .i64 N] W fun e w' => e = .returned (.int .i64 V) ∧ w' = W) := fun W => l14do_any W 97 M N V lM lN (by rw [lon97, hM, hN, hV, hU, r64_over])
  have D11 : Hid (∀ W, Calls Try.prog 21 #[.int .i64 101, .int .i64 S, .int .i64 b] W fun e w' => e = .returned (.int .i64 a) ∧ w' = W) := fun W => l14do_any W 101 S b a lS hb (by rw [lon101, hS, r64_back a b ha])
  obtain ⟨s, hs⟩ : ∃ s, s = rnd (m + n) := ⟨_, rfl⟩
  obtain ⟨x, hx⟩ : ∃ x, x = rnd (m * n) := ⟨_, rfl⟩
  obtain ⟨y, hy⟩ : ∃ y, y = rnd (m * p) := ⟨_, rfl⟩
  obtain ⟨z, hz⟩ : ∃ z, z = rnd (n * p) := ⟨_, rfl⟩
  obtain ⟨u, hu⟩ : ∃ u, u = rnd (n + p) := ⟨_, rfl⟩
  obtain ⟨t, ht⟩ : ∃ t, t = rnd (x * p) := ⟨_, rfl⟩
  obtain ⟨v, hv⟩ : ∃ v, v = rnd (m * u) := ⟨_, rfl⟩
  have is : intA s := by rw [hs]; exact rnd_in _
  have ix : intA x := by rw [hx]; exact rnd_in _
  have iy : intA y := by rw [hy]; exact rnd_in _
  have iz : intA z := by rw [hz]; exact rnd_in _
  have iu : intA u := by rw [hu]; exact rnd_in _
  have E1 : Hid (∀ W, Calls Try.prog 22 #[.int .i64 96, .int .i64 m, .int .i64 n] W fun e w' => e = .returned (.int .i64 s) ∧ w' = W) := fun W => l14sm_any W 96 m n s (by rw [int96 im iN, hs])
  have E2 : Hid (∀ W, Calls Try.prog 22 #[.int .i64 96, .int .i64 n, .int .i64 m] W fun e w' => e = .returned (.int .i64 s) ∧ w' = W) := fun W => l14sm_any W 96 n m s (by rw [int96 iN im, hs, Int.add_comm])
  have E3 : Hid (∀ W, Calls Try.prog 22 #[.int .i64 104, .int .i64 m, .int .i64 n] W fun e w' => e = .returned (.int .i64 x) ∧ w' = W) := fun W => l14sm_any W 104 m n x (by rw [int104 im iN, hx])
  have E4 : Hid (∀ W, Calls Try.prog 22 #[.int .i64 104, .int .i64 x, .int .i64 p] W fun e w' => e = .returned (.int .i64 t) ∧ w' = W) := fun W => l14sm_any W 104 x p t (by rw [int104 ix ip, ht])
  have E5 : Hid (∀ W, Calls Try.prog 22 #[.int .i64 104, .int .i64 n, .int .i64 p] W fun e w' => e = .returned (.int .i64 z) ∧ w' = W) := fun W => l14sm_any W 104 n p z (by rw [int104 iN ip, hz])
  have E6 : Hid (∀ W, Calls Try.prog 22 #[.int .i64 104, .int .i64 m, .int .i64 z] W fun e w' => e = .returned (.int .i64 t) ∧ w' = W) := fun W => l14sm_any W 104 m z t (by rw [int104 im iz, ht, hx, hz, rnd_massoc])
  have E7 : Hid (∀ W, Calls Try.prog 22 #[.int .i64 96, .int .i64 n, .int .i64 p] W fun e w' => e = .returned (.int .i64 u) ∧ w' = W) := fun W => l14sm_any W 96 n p u (by rw [int96 iN ip, hu])
  have E8 : Hid (∀ W, Calls Try.prog 22 #[.int .i64 104, .int .i64 m, .int .i64 u] W fun e w' => e = .returned (.int .i64 v) ∧ w' = W) := fun W => l14sm_any W 104 m u v (by rw [int104 im iu, hv])
  have E9 : Hid (∀ W, Calls Try.prog 22 #[.int .i64 104, .int .i64 m, .int .i64 p] W fun e w' => e = .returned (.int .i64 y) ∧ w' = W) := fun W => l14sm_any W 104 m p y (by rw [int104 im ip, hy])
  have E10 : Hid (∀ W, Calls Try.prog 22 #[.int .i64 96, .int .i64 x, .int .i64 y] W fun e w' => e = .returned (.int .i64 v) ∧ w' = W) := fun W => l14sm_any W 96 x y v (by rw [int96 ix iy, hx, hy, hv, hu, rnd_over])
  have E11 : Hid (∀ W, Calls Try.prog 22 #[.int .i64 100, .int .i64 s, .int .i64 n] W fun e w' => e = .returned (.int .i64 m) ∧ w' = W) := fun W => l14sm_any W 100 s n m (by rw [int100 is iN, hs, rnd_back m n im])
  clear hm hn hp im iN ip hS hM hN hU hT hV lS lM lN lU hs hx hy hz hu ht hv is ix iy iz iu ha hb hc
  go_enter Try.func8, Try.ntmps8
  go_wp2_with fail
  refine (unhide HW).mono ?_
  rintro e w1 ⟨rfl, f1⟩
  have F1 := hide f1
  clear f1 HW
  go_wp2_with fail
  refine (unhide HM _).mono ?_
  rintro e w2 ⟨rfl, rfl⟩
  go_wp2_with fail
  refine (unhide HN _).mono ?_
  rintro e w2 ⟨rfl, rfl⟩
  go_wp2_with fail
  refine (unhide HP _).mono ?_
  rintro e w2 ⟨rfl, rfl⟩
  go_wp2_with fail
  refine (unhide D1 _).mono ?_
  rintro e w2 ⟨rfl, rfl⟩
  go_wp2_with fail
  refine (unhide D2 _).mono ?_
  rintro e w2 ⟨rfl, rfl⟩
  go_wp2_with fail
  refine (unhide D3 _).mono ?_
  rintro e w2 ⟨rfl, rfl⟩
  go_wp2_with fail
  refine (unhide D4 _).mono ?_
  rintro e w2 ⟨rfl, rfl⟩
  go_wp2_with fail
  refine (unhide D1 _).mono ?_
  rintro e w2 ⟨rfl, rfl⟩
  go_wp2_with fail
  refine (unhide D5 _).mono ?_
  rintro e w2 ⟨rfl, rfl⟩
  go_wp2_with fail
  refine (unhide D6 _).mono ?_
  rintro e w2 ⟨rfl, rfl⟩
  go_wp2_with fail
  refine (unhide D7 _).mono ?_
  rintro e w2 ⟨rfl, rfl⟩
  go_wp2_with fail
  refine (unhide D6 _).mono ?_
  rintro e w2 ⟨rfl, rfl⟩
  go_wp2_with fail
  refine (unhide D8 _).mono ?_
  rintro e w2 ⟨rfl, rfl⟩
  go_wp2_with fail
  refine (unhide D3 _).mono ?_
  rintro e w2 ⟨rfl, rfl⟩
  go_wp2_with fail
  refine (unhide D9 _).mono ?_
  rintro e w2 ⟨rfl, rfl⟩
  go_wp2_with fail
  refine (unhide D10 _).mono ?_
  rintro e w2 ⟨rfl, rfl⟩
  go_wp2_with fail
  refine (unhide D1 _).mono ?_
  rintro e w2 ⟨rfl, rfl⟩
  go_wp2_with fail
  refine (unhide D11 _).mono ?_
  rintro e w2 ⟨rfl, rfl⟩
  go_wp2_with fail
  refine (unhide E1 _).mono ?_
  rintro e w2 ⟨rfl, rfl⟩
  go_wp2_with fail
  refine (unhide E2 _).mono ?_
  rintro e w2 ⟨rfl, rfl⟩
  go_wp2_with fail
  refine (unhide E3 _).mono ?_
  rintro e w2 ⟨rfl, rfl⟩
  go_wp2_with fail
  refine (unhide E4 _).mono ?_
  rintro e w2 ⟨rfl, rfl⟩
  go_wp2_with fail
  refine (unhide E5 _).mono ?_
  rintro e w2 ⟨rfl, rfl⟩
  go_wp2_with fail
  refine (unhide E6 _).mono ?_
  rintro e w2 ⟨rfl, rfl⟩
  go_wp2_with fail
  refine (unhide E7 _).mono ?_
  rintro e w2 ⟨rfl, rfl⟩
  go_wp2_with fail
  refine (unhide E8 _).mono ?_
  rintro e w2 ⟨rfl, rfl⟩
  go_wp2_with fail
  refine (unhide E3 _).mono ?_
  rintro e w2 ⟨rfl, rfl⟩
  go_wp2_with fail
  refine (unhide E9 _).mono ?_
  rintro e w2 ⟨rfl, rfl⟩
  go_wp2_with fail
  refine (unhide E10 _).mono ?_
  rintro e w2 ⟨rfl, rfl⟩
  go_wp2_with fail
  refine (unhide E1 _).mono ?_
  rintro e w2 ⟨rfl, rfl⟩
  go_wp2_with fail
  refine (unhide E11 _).mono ?_
  rintro e w2 ⟨rfl, rfl⟩
  go_wp2
  go_ret
  exact ⟨rfl, by first | exact unhide F1 | exact (unhide F1).drew⟩
set_option maxHeartbeats 6400000 in
theorem arithDivides_walk (w : World) (a b : Int) (ha : lonA a) (hb : lonA b) : Calls Try.prog 7 #[.int .i64 a, .int .i64 b] w fun e w' => e = .returned (.bool true) ∧ Below w.heap.size w w' := by
  have HW := hide (works14_any w)
  by_cases hb0 : b = 0
  · subst hb0
    have L1 : Hid (∀ W, Calls Try.prog 14 #[.int .i64 109, .int .i64 a, .int .i64 0] W fun e w' => e = .returned (.tuple #[.int .i64 0, .int .i64 5]) ∧ w' = W) := fun W => by
      have h := i14Long_any W 109 a 0 ha hb
      rw [show lonR 109 a 0 = (0, 5) by exact lon109z a] at h
      exact h
    have L2 : Hid (∀ W, Calls Try.prog 14 #[.int .i64 113, .int .i64 a, .int .i64 0] W fun e w' => e = .returned (.tuple #[.int .i64 0, .int .i64 5]) ∧ w' = W) := fun W => by
      have h := i14Long_any W 113 a 0 ha hb
      rw [show lonR 113 a 0 = (0, 5) by exact lon113z a] at h
      exact h
    clear ha hb
    go_enter Try.func7, Try.ntmps7
    go_wp2_with fail
    refine (unhide HW).mono ?_
    rintro e w1 ⟨rfl, f1⟩
    have F1 := hide f1
    clear f1 HW
    go_wp2_with fail
    refine (unhide L1 _).mono ?_
    rintro e w2 ⟨rfl, rfl⟩
    go_wp2_with fail
    refine (unhide L2 _).mono ?_
    rintro e w2 ⟨rfl, rfl⟩
    go_wp2
    go_ret
    exact ⟨rfl, by first | exact unhide F1 | exact (unhide F1).drew⟩
  have hbn := beq_ne hb0
  obtain ⟨m, hm⟩ : ∃ m, m = rnd a := ⟨_, rfl⟩
  obtain ⟨n, hn⟩ : ∃ n, n = rnd b := ⟨_, rfl⟩
  have im : intA m := by rw [hm]; exact rnd_in a
  have iN : intA n := by rw [hn]; exact rnd_in b
  have HM : Hid (∀ W, Calls Try.prog 11 #[.int .i64 a] W fun e w' => e = .returned (.int .i64 m) ∧ w' = W) := fun W => by rw [hm]; exact i14Round_any W a
  have HN : Hid (∀ W, Calls Try.prog 11 #[.int .i64 b] W fun e w' => e = .returned (.int .i64 n) ∧ w' = W) := fun W => by rw [hn]; exact i14Round_any W b
  obtain ⟨Q, hQ⟩ : ∃ Q, Q = r64 (a.tdiv b) := ⟨_, rfl⟩
  obtain ⟨R, hR⟩ : ∃ R, R = a.tmod b := ⟨_, rfl⟩
  obtain ⟨p, hp⟩ : ∃ p, p = r64 (Q * b) := ⟨_, rfl⟩
  have lQ : lonA Q := by rw [hQ]; exact r64_in _
  have lR : lonA R := by rw [hR]; exact tmod_lon ha
  have lp : lonA p := by rw [hp]; exact r64_in _
  have L1 : Hid (∀ W, Calls Try.prog 14 #[.int .i64 109, .int .i64 a, .int .i64 b] W fun e w' => e = .returned (.tuple #[.int .i64 Q, .int .i64 0]) ∧ w' = W) := fun W => by
    have h := i14Long_any W 109 a b ha hb
    rw [show lonR 109 a b = (Q, 0) by rw [lon109 hb0, hQ]] at h
    exact h
  have L2 : Hid (∀ W, Calls Try.prog 14 #[.int .i64 113, .int .i64 a, .int .i64 b] W fun e w' => e = .returned (.tuple #[.int .i64 R, .int .i64 0]) ∧ w' = W) := fun W => by
    have h := i14Long_any W 113 a b ha hb
    rw [show lonR 113 a b = (R, 0) by rw [lon113 hb0, hR]] at h
    exact h
  have L3 : Hid (∀ W, Calls Try.prog 14 #[.int .i64 105, .int .i64 Q, .int .i64 b] W fun e w' => e = .returned (.tuple #[.int .i64 p, .int .i64 0]) ∧ w' = W) := fun W => by
    have h := i14Long_any W 105 Q b lQ hb
    rw [show lonR 105 Q b = (p, 0) by rw [lon105, hp]] at h
    exact h
  have L4 : Hid (∀ W, Calls Try.prog 14 #[.int .i64 97, .int .i64 p, .int .i64 R] W fun e w' => e = .returned (.tuple #[.int .i64 a, .int .i64 0]) ∧ w' = W) := fun W => by
    have h := i14Long_any W 97 p R lp lR
    rw [show lonR 97 p R = (a, 0) by rw [lon97, hp, hQ, hR, r64_div a b ha]] at h
    exact h
  obtain ⟨t1, t2, t3⟩ := tmod_facts a b hb0
  rw [← hR] at t1 t2 t3
  have hnear : R = 0 ∨ ((R == 0) = false ∧ ((R < 0 ∧ a < 0) ∨ (¬ R < 0 ∧ ¬ a < 0)) ∧ (b = -9223372036854775808 ∨ ((b == -9223372036854775808) = false ∧ ((0 < b ∧ -b < R ∧ R < b) ∨ (b < 0 ∧ b < R ∧ R < -b))))) := by
    by_cases h : R = 0
    · exact .inl h
    · right
      refine ⟨beq_ne h, by omega, ?_⟩
      by_cases hbm : b = -9223372036854775808
      · exact .inl hbm
      · right
        refine ⟨beq_ne hbm, by omega⟩
  obtain ⟨b1, b2⟩ := hb
  have Hq := hide (And.intro im iN)
  clear hm hn im iN hQ hR hp lQ lR lp t1 t2 t3 hb0
  obtain ⟨a1, a2⟩ := ha
  rcases hnear with rfl | ⟨r0, hs, hbb⟩
  ·
    by_cases hn0 : n = 0
    · subst hn0
      have I1 : Hid (∀ W, Calls Try.prog 9 #[.int .i64 108, .int .i64 m, .int .i64 0] W fun e w' => e = .returned (.tuple #[.int .i64 0, .int .i64 5]) ∧ w' = W) := fun W => by
        have h := i14Int_any W 108 m 0
        rw [show intR 108 m 0 = (0, 5) by exact int108z (unhide Hq).1] at h
        exact h
      have I2 : Hid (∀ W, Calls Try.prog 9 #[.int .i64 112, .int .i64 m, .int .i64 0] W fun e w' => e = .returned (.tuple #[.int .i64 0, .int .i64 5]) ∧ w' = W) := fun W => by
        have h := i14Int_any W 112 m 0
        rw [show intR 112 m 0 = (0, 5) by exact int112z (unhide Hq).1] at h
        exact h
      clear Hq
      go_enter Try.func7, Try.ntmps7
      go_wp2_with fail
      refine (unhide HW).mono ?_
      rintro e w1 ⟨rfl, f1⟩
      have F1 := hide f1
      clear f1 HW
      go_wp2_with fail
      refine (unhide L1 _).mono ?_
      rintro e w2 ⟨rfl, rfl⟩
      go_wp2_with fail
      refine (unhide L2 _).mono ?_
      rintro e w2 ⟨rfl, rfl⟩
      go_wp2_with fail
      refine (unhide L3 _).mono ?_
      rintro e w2 ⟨rfl, rfl⟩
      go_wp2_with fail
      refine (unhide L4 _).mono ?_
      rintro e w2 ⟨rfl, rfl⟩
      go_wp2_with fail
      refine (unhide HM _).mono ?_
      rintro e w2 ⟨rfl, rfl⟩
      go_wp2_with fail
      refine (unhide HN _).mono ?_
      rintro e w2 ⟨rfl, rfl⟩
      go_wp2_with fail
      refine (unhide I1 _).mono ?_
      rintro e w2 ⟨rfl, rfl⟩
      go_wp2_with fail
      refine (unhide I2 _).mono ?_
      rintro e w2 ⟨rfl, rfl⟩
      go_wp2
      go_ret
      exact ⟨rfl, by first | exact unhide F1 | exact (unhide F1).drew⟩
    have hnn := beq_ne hn0
    obtain ⟨im, iN⟩ := unhide Hq
    obtain ⟨x, hx⟩ : ∃ x, x = rnd (m.tdiv n) := ⟨_, rfl⟩
    obtain ⟨y, hy⟩ : ∃ y, y = m.tmod n := ⟨_, rfl⟩
    obtain ⟨u, hu⟩ : ∃ u, u = rnd (x * n) := ⟨_, rfl⟩
    have ix : intA x := by rw [hx]; exact rnd_in _
    have iy : intA y := by rw [hy]; exact tmod_int im
    have iu : intA u := by rw [hu]; exact rnd_in _
    have I1 : Hid (∀ W, Calls Try.prog 9 #[.int .i64 108, .int .i64 m, .int .i64 n] W fun e w' => e = .returned (.tuple #[.int .i64 x, .int .i64 0]) ∧ w' = W) := fun W => by
      have h := i14Int_any W 108 m n
      rw [show intR 108 m n = (x, 0) by rw [int108 im iN hn0, hx]] at h
      exact h
    have I2 : Hid (∀ W, Calls Try.prog 9 #[.int .i64 112, .int .i64 m, .int .i64 n] W fun e w' => e = .returned (.tuple #[.int .i64 y, .int .i64 0]) ∧ w' = W) := fun W => by
      have h := i14Int_any W 112 m n
      rw [show intR 112 m n = (y, 0) by rw [int112 im iN hn0, hy]] at h
      exact h
    have I3 : Hid (∀ W, Calls Try.prog 9 #[.int .i64 104, .int .i64 x, .int .i64 n] W fun e w' => e = .returned (.tuple #[.int .i64 u, .int .i64 0]) ∧ w' = W) := fun W => by
      have h := i14Int_any W 104 x n
      rw [show intR 104 x n = (u, 0) by rw [int104 ix iN, hu]] at h
      exact h
    have I4 : Hid (∀ W, Calls Try.prog 9 #[.int .i64 96, .int .i64 u, .int .i64 y] W fun e w' => e = .returned (.tuple #[.int .i64 m, .int .i64 0]) ∧ w' = W) := fun W => by
      have h := i14Int_any W 96 u y
      rw [show intR 96 u y = (m, 0) by rw [int96 iu iy, hu, hx, hy, rnd_div m n im]] at h
      exact h
    clear Hq hx hy hu ix iy iu im iN hn0
    go_enter Try.func7, Try.ntmps7
    go_wp2_with fail
    refine (unhide HW).mono ?_
    rintro e w1 ⟨rfl, f1⟩
    have F1 := hide f1
    clear f1 HW
    go_wp2_with fail
    refine (unhide L1 _).mono ?_
    rintro e w2 ⟨rfl, rfl⟩
    go_wp2_with fail
    refine (unhide L2 _).mono ?_
    rintro e w2 ⟨rfl, rfl⟩
    go_wp2_with fail
    refine (unhide L3 _).mono ?_
    rintro e w2 ⟨rfl, rfl⟩
    go_wp2_with fail
    refine (unhide L4 _).mono ?_
    rintro e w2 ⟨rfl, rfl⟩
    go_wp2_with fail
    refine (unhide HM _).mono ?_
    rintro e w2 ⟨rfl, rfl⟩
    go_wp2_with fail
    refine (unhide HN _).mono ?_
    rintro e w2 ⟨rfl, rfl⟩
    go_wp2_with fail
    refine (unhide I1 _).mono ?_
    rintro e w2 ⟨rfl, rfl⟩
    go_wp2_with fail
    refine (unhide I2 _).mono ?_
    rintro e w2 ⟨rfl, rfl⟩
    go_wp2_with fail
    refine (unhide I3 _).mono ?_
    rintro e w2 ⟨rfl, rfl⟩
    go_wp2_with fail
    refine (unhide I4 _).mono ?_
    rintro e w2 ⟨rfl, rfl⟩
    go_wp2
    go_ret
    exact ⟨rfl, by first | exact unhide F1 | exact (unhide F1).drew⟩
  rcases hs with ⟨s1, s2⟩ | ⟨s1, s2⟩
  · rcases hbb with rfl | ⟨bm, ⟨p1, p2, p3⟩ | ⟨p1, p2, p3⟩⟩
    ·
      by_cases hn0 : n = 0
      · subst hn0
        have I1 : Hid (∀ W, Calls Try.prog 9 #[.int .i64 108, .int .i64 m, .int .i64 0] W fun e w' => e = .returned (.tuple #[.int .i64 0, .int .i64 5]) ∧ w' = W) := fun W => by
          have h := i14Int_any W 108 m 0
          rw [show intR 108 m 0 = (0, 5) by exact int108z (unhide Hq).1] at h
          exact h
        have I2 : Hid (∀ W, Calls Try.prog 9 #[.int .i64 112, .int .i64 m, .int .i64 0] W fun e w' => e = .returned (.tuple #[.int .i64 0, .int .i64 5]) ∧ w' = W) := fun W => by
          have h := i14Int_any W 112 m 0
          rw [show intR 112 m 0 = (0, 5) by exact int112z (unhide Hq).1] at h
          exact h
        clear Hq
        go_enter Try.func7, Try.ntmps7
        go_wp2_with fail
        refine (unhide HW).mono ?_
        rintro e w1 ⟨rfl, f1⟩
        have F1 := hide f1
        clear f1 HW
        go_wp2_with fail
        refine (unhide L1 _).mono ?_
        rintro e w2 ⟨rfl, rfl⟩
        go_wp2_with fail
        refine (unhide L2 _).mono ?_
        rintro e w2 ⟨rfl, rfl⟩
        go_wp2_with fail
        refine (unhide L3 _).mono ?_
        rintro e w2 ⟨rfl, rfl⟩
        go_wp2_with fail
        refine (unhide L4 _).mono ?_
        rintro e w2 ⟨rfl, rfl⟩
        go_wp2_with fail
        refine (unhide HM _).mono ?_
        rintro e w2 ⟨rfl, rfl⟩
        go_wp2_with fail
        refine (unhide HN _).mono ?_
        rintro e w2 ⟨rfl, rfl⟩
        go_wp2_with fail
        refine (unhide I1 _).mono ?_
        rintro e w2 ⟨rfl, rfl⟩
        go_wp2_with fail
        refine (unhide I2 _).mono ?_
        rintro e w2 ⟨rfl, rfl⟩
        go_wp2
        go_ret
        exact ⟨rfl, by first | exact unhide F1 | exact (unhide F1).drew⟩
      have hnn := beq_ne hn0
      obtain ⟨im, iN⟩ := unhide Hq
      obtain ⟨x, hx⟩ : ∃ x, x = rnd (m.tdiv n) := ⟨_, rfl⟩
      obtain ⟨y, hy⟩ : ∃ y, y = m.tmod n := ⟨_, rfl⟩
      obtain ⟨u, hu⟩ : ∃ u, u = rnd (x * n) := ⟨_, rfl⟩
      have ix : intA x := by rw [hx]; exact rnd_in _
      have iy : intA y := by rw [hy]; exact tmod_int im
      have iu : intA u := by rw [hu]; exact rnd_in _
      have I1 : Hid (∀ W, Calls Try.prog 9 #[.int .i64 108, .int .i64 m, .int .i64 n] W fun e w' => e = .returned (.tuple #[.int .i64 x, .int .i64 0]) ∧ w' = W) := fun W => by
        have h := i14Int_any W 108 m n
        rw [show intR 108 m n = (x, 0) by rw [int108 im iN hn0, hx]] at h
        exact h
      have I2 : Hid (∀ W, Calls Try.prog 9 #[.int .i64 112, .int .i64 m, .int .i64 n] W fun e w' => e = .returned (.tuple #[.int .i64 y, .int .i64 0]) ∧ w' = W) := fun W => by
        have h := i14Int_any W 112 m n
        rw [show intR 112 m n = (y, 0) by rw [int112 im iN hn0, hy]] at h
        exact h
      have I3 : Hid (∀ W, Calls Try.prog 9 #[.int .i64 104, .int .i64 x, .int .i64 n] W fun e w' => e = .returned (.tuple #[.int .i64 u, .int .i64 0]) ∧ w' = W) := fun W => by
        have h := i14Int_any W 104 x n
        rw [show intR 104 x n = (u, 0) by rw [int104 ix iN, hu]] at h
        exact h
      have I4 : Hid (∀ W, Calls Try.prog 9 #[.int .i64 96, .int .i64 u, .int .i64 y] W fun e w' => e = .returned (.tuple #[.int .i64 m, .int .i64 0]) ∧ w' = W) := fun W => by
        have h := i14Int_any W 96 u y
        rw [show intR 96 u y = (m, 0) by rw [int96 iu iy, hu, hx, hy, rnd_div m n im]] at h
        exact h
      clear Hq hx hy hu ix iy iu im iN hn0
      go_enter Try.func7, Try.ntmps7
      go_wp2_with fail
      refine (unhide HW).mono ?_
      rintro e w1 ⟨rfl, f1⟩
      have F1 := hide f1
      clear f1 HW
      go_wp2_with fail
      refine (unhide L1 _).mono ?_
      rintro e w2 ⟨rfl, rfl⟩
      go_wp2_with fail
      refine (unhide L2 _).mono ?_
      rintro e w2 ⟨rfl, rfl⟩
      go_wp2_with fail
      refine (unhide L3 _).mono ?_
      rintro e w2 ⟨rfl, rfl⟩
      go_wp2_with fail
      refine (unhide L4 _).mono ?_
      rintro e w2 ⟨rfl, rfl⟩
      go_wp2_with fail
      refine (unhide HM _).mono ?_
      rintro e w2 ⟨rfl, rfl⟩
      go_wp2_with fail
      refine (unhide HN _).mono ?_
      rintro e w2 ⟨rfl, rfl⟩
      go_wp2_with fail
      refine (unhide I1 _).mono ?_
      rintro e w2 ⟨rfl, rfl⟩
      go_wp2_with fail
      refine (unhide I2 _).mono ?_
      rintro e w2 ⟨rfl, rfl⟩
      go_wp2_with fail
      refine (unhide I3 _).mono ?_
      rintro e w2 ⟨rfl, rfl⟩
      go_wp2_with fail
      refine (unhide I4 _).mono ?_
      rintro e w2 ⟨rfl, rfl⟩
      go_wp2
      go_ret
      exact ⟨rfl, by first | exact unhide F1 | exact (unhide F1).drew⟩
    ·
      have g1 : ¬ b < -b := by omega
      have g2 : ¬ b ≤ -b := by omega
      have g3 : -b < b := by omega
      have g4 : ¬ R ≤ -b := by omega
      by_cases hn0 : n = 0
      · subst hn0
        have I1 : Hid (∀ W, Calls Try.prog 9 #[.int .i64 108, .int .i64 m, .int .i64 0] W fun e w' => e = .returned (.tuple #[.int .i64 0, .int .i64 5]) ∧ w' = W) := fun W => by
          have h := i14Int_any W 108 m 0
          rw [show intR 108 m 0 = (0, 5) by exact int108z (unhide Hq).1] at h
          exact h
        have I2 : Hid (∀ W, Calls Try.prog 9 #[.int .i64 112, .int .i64 m, .int .i64 0] W fun e w' => e = .returned (.tuple #[.int .i64 0, .int .i64 5]) ∧ w' = W) := fun W => by
          have h := i14Int_any W 112 m 0
          rw [show intR 112 m 0 = (0, 5) by exact int112z (unhide Hq).1] at h
          exact h
        clear Hq
        go_enter Try.func7, Try.ntmps7
        go_wp2_with fail
        refine (unhide HW).mono ?_
        rintro e w1 ⟨rfl, f1⟩
        have F1 := hide f1
        clear f1 HW
        go_wp2_with fail
        refine (unhide L1 _).mono ?_
        rintro e w2 ⟨rfl, rfl⟩
        go_wp2_with fail
        refine (unhide L2 _).mono ?_
        rintro e w2 ⟨rfl, rfl⟩
        go_wp2_with fail
        refine (unhide L3 _).mono ?_
        rintro e w2 ⟨rfl, rfl⟩
        go_wp2_with fail
        refine (unhide L4 _).mono ?_
        rintro e w2 ⟨rfl, rfl⟩
        go_wp2_with fail
        refine (unhide HM _).mono ?_
        rintro e w2 ⟨rfl, rfl⟩
        go_wp2_with fail
        refine (unhide HN _).mono ?_
        rintro e w2 ⟨rfl, rfl⟩
        go_wp2_with fail
        refine (unhide I1 _).mono ?_
        rintro e w2 ⟨rfl, rfl⟩
        go_wp2_with fail
        refine (unhide I2 _).mono ?_
        rintro e w2 ⟨rfl, rfl⟩
        go_wp2
        go_ret
        exact ⟨rfl, by first | exact unhide F1 | exact (unhide F1).drew⟩
      have hnn := beq_ne hn0
      obtain ⟨im, iN⟩ := unhide Hq
      obtain ⟨x, hx⟩ : ∃ x, x = rnd (m.tdiv n) := ⟨_, rfl⟩
      obtain ⟨y, hy⟩ : ∃ y, y = m.tmod n := ⟨_, rfl⟩
      obtain ⟨u, hu⟩ : ∃ u, u = rnd (x * n) := ⟨_, rfl⟩
      have ix : intA x := by rw [hx]; exact rnd_in _
      have iy : intA y := by rw [hy]; exact tmod_int im
      have iu : intA u := by rw [hu]; exact rnd_in _
      have I1 : Hid (∀ W, Calls Try.prog 9 #[.int .i64 108, .int .i64 m, .int .i64 n] W fun e w' => e = .returned (.tuple #[.int .i64 x, .int .i64 0]) ∧ w' = W) := fun W => by
        have h := i14Int_any W 108 m n
        rw [show intR 108 m n = (x, 0) by rw [int108 im iN hn0, hx]] at h
        exact h
      have I2 : Hid (∀ W, Calls Try.prog 9 #[.int .i64 112, .int .i64 m, .int .i64 n] W fun e w' => e = .returned (.tuple #[.int .i64 y, .int .i64 0]) ∧ w' = W) := fun W => by
        have h := i14Int_any W 112 m n
        rw [show intR 112 m n = (y, 0) by rw [int112 im iN hn0, hy]] at h
        exact h
      have I3 : Hid (∀ W, Calls Try.prog 9 #[.int .i64 104, .int .i64 x, .int .i64 n] W fun e w' => e = .returned (.tuple #[.int .i64 u, .int .i64 0]) ∧ w' = W) := fun W => by
        have h := i14Int_any W 104 x n
        rw [show intR 104 x n = (u, 0) by rw [int104 ix iN, hu]] at h
        exact h
      have I4 : Hid (∀ W, Calls Try.prog 9 #[.int .i64 96, .int .i64 u, .int .i64 y] W fun e w' => e = .returned (.tuple #[.int .i64 m, .int .i64 0]) ∧ w' = W) := fun W => by
        have h := i14Int_any W 96 u y
        rw [show intR 96 u y = (m, 0) by rw [int96 iu iy, hu, hx, hy, rnd_div m n im]] at h
        exact h
      clear Hq hx hy hu ix iy iu im iN hn0
      go_enter Try.func7, Try.ntmps7
      go_wp2_with fail
      refine (unhide HW).mono ?_
      rintro e w1 ⟨rfl, f1⟩
      have F1 := hide f1
      clear f1 HW
      go_wp2_with fail
      refine (unhide L1 _).mono ?_
      rintro e w2 ⟨rfl, rfl⟩
      go_wp2_with fail
      refine (unhide L2 _).mono ?_
      rintro e w2 ⟨rfl, rfl⟩
      go_wp2_with fail
      refine (unhide L3 _).mono ?_
      rintro e w2 ⟨rfl, rfl⟩
      go_wp2_with fail
      refine (unhide L4 _).mono ?_
      rintro e w2 ⟨rfl, rfl⟩
      go_wp2_with fail
      refine (unhide HM _).mono ?_
      rintro e w2 ⟨rfl, rfl⟩
      go_wp2_with fail
      refine (unhide HN _).mono ?_
      rintro e w2 ⟨rfl, rfl⟩
      go_wp2_with fail
      refine (unhide I1 _).mono ?_
      rintro e w2 ⟨rfl, rfl⟩
      go_wp2_with fail
      refine (unhide I2 _).mono ?_
      rintro e w2 ⟨rfl, rfl⟩
      go_wp2_with fail
      refine (unhide I3 _).mono ?_
      rintro e w2 ⟨rfl, rfl⟩
      go_wp2_with fail
      refine (unhide I4 _).mono ?_
      rintro e w2 ⟨rfl, rfl⟩
      go_wp2
      go_ret
      exact ⟨rfl, by first | exact unhide F1 | exact (unhide F1).drew⟩
    ·
      have g1 : b < -b := by omega
      have g2 : b ≤ -b := by omega
      have g3 : ¬ -b < b := by omega
      have g4 : - -b = b := by omega
      have g5 : ¬ R ≤ b := by omega
      have hb9 : ¬ b = -9223372036854775808 := by simpa using bm
      have g6 : -9223372036854775808 ≤ -b ∧ -b ≤ 9223372036854775807 := by omega
      obtain ⟨g7, g8⟩ := g6
      clear hb9
      by_cases hn0 : n = 0
      · subst hn0
        have I1 : Hid (∀ W, Calls Try.prog 9 #[.int .i64 108, .int .i64 m, .int .i64 0] W fun e w' => e = .returned (.tuple #[.int .i64 0, .int .i64 5]) ∧ w' = W) := fun W => by
          have h := i14Int_any W 108 m 0
          rw [show intR 108 m 0 = (0, 5) by exact int108z (unhide Hq).1] at h
          exact h
        have I2 : Hid (∀ W, Calls Try.prog 9 #[.int .i64 112, .int .i64 m, .int .i64 0] W fun e w' => e = .returned (.tuple #[.int .i64 0, .int .i64 5]) ∧ w' = W) := fun W => by
          have h := i14Int_any W 112 m 0
          rw [show intR 112 m 0 = (0, 5) by exact int112z (unhide Hq).1] at h
          exact h
        clear Hq
        go_enter Try.func7, Try.ntmps7
        go_wp2_with fail
        refine (unhide HW).mono ?_
        rintro e w1 ⟨rfl, f1⟩
        have F1 := hide f1
        clear f1 HW
        go_wp2_with fail
        refine (unhide L1 _).mono ?_
        rintro e w2 ⟨rfl, rfl⟩
        go_wp2_with fail
        refine (unhide L2 _).mono ?_
        rintro e w2 ⟨rfl, rfl⟩
        go_wp2_with fail
        refine (unhide L3 _).mono ?_
        rintro e w2 ⟨rfl, rfl⟩
        go_wp2_with fail
        refine (unhide L4 _).mono ?_
        rintro e w2 ⟨rfl, rfl⟩
        go_wp2_with fail
        refine (unhide HM _).mono ?_
        rintro e w2 ⟨rfl, rfl⟩
        go_wp2_with fail
        refine (unhide HN _).mono ?_
        rintro e w2 ⟨rfl, rfl⟩
        go_wp2_with fail
        refine (unhide I1 _).mono ?_
        rintro e w2 ⟨rfl, rfl⟩
        go_wp2_with fail
        refine (unhide I2 _).mono ?_
        rintro e w2 ⟨rfl, rfl⟩
        go_wp2
        go_ret
        exact ⟨rfl, by first | exact unhide F1 | exact (unhide F1).drew⟩
      have hnn := beq_ne hn0
      obtain ⟨im, iN⟩ := unhide Hq
      obtain ⟨x, hx⟩ : ∃ x, x = rnd (m.tdiv n) := ⟨_, rfl⟩
      obtain ⟨y, hy⟩ : ∃ y, y = m.tmod n := ⟨_, rfl⟩
      obtain ⟨u, hu⟩ : ∃ u, u = rnd (x * n) := ⟨_, rfl⟩
      have ix : intA x := by rw [hx]; exact rnd_in _
      have iy : intA y := by rw [hy]; exact tmod_int im
      have iu : intA u := by rw [hu]; exact rnd_in _
      have I1 : Hid (∀ W, Calls Try.prog 9 #[.int .i64 108, .int .i64 m, .int .i64 n] W fun e w' => e = .returned (.tuple #[.int .i64 x, .int .i64 0]) ∧ w' = W) := fun W => by
        have h := i14Int_any W 108 m n
        rw [show intR 108 m n = (x, 0) by rw [int108 im iN hn0, hx]] at h
        exact h
      have I2 : Hid (∀ W, Calls Try.prog 9 #[.int .i64 112, .int .i64 m, .int .i64 n] W fun e w' => e = .returned (.tuple #[.int .i64 y, .int .i64 0]) ∧ w' = W) := fun W => by
        have h := i14Int_any W 112 m n
        rw [show intR 112 m n = (y, 0) by rw [int112 im iN hn0, hy]] at h
        exact h
      have I3 : Hid (∀ W, Calls Try.prog 9 #[.int .i64 104, .int .i64 x, .int .i64 n] W fun e w' => e = .returned (.tuple #[.int .i64 u, .int .i64 0]) ∧ w' = W) := fun W => by
        have h := i14Int_any W 104 x n
        rw [show intR 104 x n = (u, 0) by rw [int104 ix iN, hu]] at h
        exact h
      have I4 : Hid (∀ W, Calls Try.prog 9 #[.int .i64 96, .int .i64 u, .int .i64 y] W fun e w' => e = .returned (.tuple #[.int .i64 m, .int .i64 0]) ∧ w' = W) := fun W => by
        have h := i14Int_any W 96 u y
        rw [show intR 96 u y = (m, 0) by rw [int96 iu iy, hu, hx, hy, rnd_div m n im]] at h
        exact h
      clear Hq hx hy hu ix iy iu im iN hn0
      go_enter Try.func7, Try.ntmps7
      go_wp2_with fail
      refine (unhide HW).mono ?_
      rintro e w1 ⟨rfl, f1⟩
      have F1 := hide f1
      clear f1 HW
      go_wp2_with fail
      refine (unhide L1 _).mono ?_
      rintro e w2 ⟨rfl, rfl⟩
      go_wp2_with fail
      refine (unhide L2 _).mono ?_
      rintro e w2 ⟨rfl, rfl⟩
      go_wp2_with fail
      refine (unhide L3 _).mono ?_
      rintro e w2 ⟨rfl, rfl⟩
      go_wp2_with fail
      refine (unhide L4 _).mono ?_
      rintro e w2 ⟨rfl, rfl⟩
      go_wp2_with fail
      refine (unhide HM _).mono ?_
      rintro e w2 ⟨rfl, rfl⟩
      go_wp2_with fail
      refine (unhide HN _).mono ?_
      rintro e w2 ⟨rfl, rfl⟩
      go_wp2_with fail
      refine (unhide I1 _).mono ?_
      rintro e w2 ⟨rfl, rfl⟩
      go_wp2_with fail
      refine (unhide I2 _).mono ?_
      rintro e w2 ⟨rfl, rfl⟩
      go_wp2_with fail
      refine (unhide I3 _).mono ?_
      rintro e w2 ⟨rfl, rfl⟩
      go_wp2_with fail
      refine (unhide I4 _).mono ?_
      rintro e w2 ⟨rfl, rfl⟩
      go_wp2
      go_ret
      exact ⟨rfl, by first | exact unhide F1 | exact (unhide F1).drew⟩
  · rcases hbb with rfl | ⟨bm, ⟨p1, p2, p3⟩ | ⟨p1, p2, p3⟩⟩
    ·
      by_cases hn0 : n = 0
      · subst hn0
        have I1 : Hid (∀ W, Calls Try.prog 9 #[.int .i64 108, .int .i64 m, .int .i64 0] W fun e w' => e = .returned (.tuple #[.int .i64 0, .int .i64 5]) ∧ w' = W) := fun W => by
          have h := i14Int_any W 108 m 0
          rw [show intR 108 m 0 = (0, 5) by exact int108z (unhide Hq).1] at h
          exact h
        have I2 : Hid (∀ W, Calls Try.prog 9 #[.int .i64 112, .int .i64 m, .int .i64 0] W fun e w' => e = .returned (.tuple #[.int .i64 0, .int .i64 5]) ∧ w' = W) := fun W => by
          have h := i14Int_any W 112 m 0
          rw [show intR 112 m 0 = (0, 5) by exact int112z (unhide Hq).1] at h
          exact h
        clear Hq
        go_enter Try.func7, Try.ntmps7
        go_wp2_with fail
        refine (unhide HW).mono ?_
        rintro e w1 ⟨rfl, f1⟩
        have F1 := hide f1
        clear f1 HW
        go_wp2_with fail
        refine (unhide L1 _).mono ?_
        rintro e w2 ⟨rfl, rfl⟩
        go_wp2_with fail
        refine (unhide L2 _).mono ?_
        rintro e w2 ⟨rfl, rfl⟩
        go_wp2_with fail
        refine (unhide L3 _).mono ?_
        rintro e w2 ⟨rfl, rfl⟩
        go_wp2_with fail
        refine (unhide L4 _).mono ?_
        rintro e w2 ⟨rfl, rfl⟩
        go_wp2_with fail
        refine (unhide HM _).mono ?_
        rintro e w2 ⟨rfl, rfl⟩
        go_wp2_with fail
        refine (unhide HN _).mono ?_
        rintro e w2 ⟨rfl, rfl⟩
        go_wp2_with fail
        refine (unhide I1 _).mono ?_
        rintro e w2 ⟨rfl, rfl⟩
        go_wp2_with fail
        refine (unhide I2 _).mono ?_
        rintro e w2 ⟨rfl, rfl⟩
        go_wp2
        go_ret
        exact ⟨rfl, by first | exact unhide F1 | exact (unhide F1).drew⟩
      have hnn := beq_ne hn0
      obtain ⟨im, iN⟩ := unhide Hq
      obtain ⟨x, hx⟩ : ∃ x, x = rnd (m.tdiv n) := ⟨_, rfl⟩
      obtain ⟨y, hy⟩ : ∃ y, y = m.tmod n := ⟨_, rfl⟩
      obtain ⟨u, hu⟩ : ∃ u, u = rnd (x * n) := ⟨_, rfl⟩
      have ix : intA x := by rw [hx]; exact rnd_in _
      have iy : intA y := by rw [hy]; exact tmod_int im
      have iu : intA u := by rw [hu]; exact rnd_in _
      have I1 : Hid (∀ W, Calls Try.prog 9 #[.int .i64 108, .int .i64 m, .int .i64 n] W fun e w' => e = .returned (.tuple #[.int .i64 x, .int .i64 0]) ∧ w' = W) := fun W => by
        have h := i14Int_any W 108 m n
        rw [show intR 108 m n = (x, 0) by rw [int108 im iN hn0, hx]] at h
        exact h
      have I2 : Hid (∀ W, Calls Try.prog 9 #[.int .i64 112, .int .i64 m, .int .i64 n] W fun e w' => e = .returned (.tuple #[.int .i64 y, .int .i64 0]) ∧ w' = W) := fun W => by
        have h := i14Int_any W 112 m n
        rw [show intR 112 m n = (y, 0) by rw [int112 im iN hn0, hy]] at h
        exact h
      have I3 : Hid (∀ W, Calls Try.prog 9 #[.int .i64 104, .int .i64 x, .int .i64 n] W fun e w' => e = .returned (.tuple #[.int .i64 u, .int .i64 0]) ∧ w' = W) := fun W => by
        have h := i14Int_any W 104 x n
        rw [show intR 104 x n = (u, 0) by rw [int104 ix iN, hu]] at h
        exact h
      have I4 : Hid (∀ W, Calls Try.prog 9 #[.int .i64 96, .int .i64 u, .int .i64 y] W fun e w' => e = .returned (.tuple #[.int .i64 m, .int .i64 0]) ∧ w' = W) := fun W => by
        have h := i14Int_any W 96 u y
        rw [show intR 96 u y = (m, 0) by rw [int96 iu iy, hu, hx, hy, rnd_div m n im]] at h
        exact h
      clear Hq hx hy hu ix iy iu im iN hn0
      go_enter Try.func7, Try.ntmps7
      go_wp2_with fail
      refine (unhide HW).mono ?_
      rintro e w1 ⟨rfl, f1⟩
      have F1 := hide f1
      clear f1 HW
      go_wp2_with fail
      refine (unhide L1 _).mono ?_
      rintro e w2 ⟨rfl, rfl⟩
      go_wp2_with fail
      refine (unhide L2 _).mono ?_
      rintro e w2 ⟨rfl, rfl⟩
      go_wp2_with fail
      refine (unhide L3 _).mono ?_
      rintro e w2 ⟨rfl, rfl⟩
      go_wp2_with fail
      refine (unhide L4 _).mono ?_
      rintro e w2 ⟨rfl, rfl⟩
      go_wp2_with fail
      refine (unhide HM _).mono ?_
      rintro e w2 ⟨rfl, rfl⟩
      go_wp2_with fail
      refine (unhide HN _).mono ?_
      rintro e w2 ⟨rfl, rfl⟩
      go_wp2_with fail
      refine (unhide I1 _).mono ?_
      rintro e w2 ⟨rfl, rfl⟩
      go_wp2_with fail
      refine (unhide I2 _).mono ?_
      rintro e w2 ⟨rfl, rfl⟩
      go_wp2_with fail
      refine (unhide I3 _).mono ?_
      rintro e w2 ⟨rfl, rfl⟩
      go_wp2_with fail
      refine (unhide I4 _).mono ?_
      rintro e w2 ⟨rfl, rfl⟩
      go_wp2
      go_ret
      exact ⟨rfl, by first | exact unhide F1 | exact (unhide F1).drew⟩
    ·
      have g1 : ¬ b < -b := by omega
      have g2 : ¬ b ≤ -b := by omega
      have g3 : -b < b := by omega
      have g4 : ¬ R ≤ -b := by omega
      by_cases hn0 : n = 0
      · subst hn0
        have I1 : Hid (∀ W, Calls Try.prog 9 #[.int .i64 108, .int .i64 m, .int .i64 0] W fun e w' => e = .returned (.tuple #[.int .i64 0, .int .i64 5]) ∧ w' = W) := fun W => by
          have h := i14Int_any W 108 m 0
          rw [show intR 108 m 0 = (0, 5) by exact int108z (unhide Hq).1] at h
          exact h
        have I2 : Hid (∀ W, Calls Try.prog 9 #[.int .i64 112, .int .i64 m, .int .i64 0] W fun e w' => e = .returned (.tuple #[.int .i64 0, .int .i64 5]) ∧ w' = W) := fun W => by
          have h := i14Int_any W 112 m 0
          rw [show intR 112 m 0 = (0, 5) by exact int112z (unhide Hq).1] at h
          exact h
        clear Hq
        go_enter Try.func7, Try.ntmps7
        go_wp2_with fail
        refine (unhide HW).mono ?_
        rintro e w1 ⟨rfl, f1⟩
        have F1 := hide f1
        clear f1 HW
        go_wp2_with fail
        refine (unhide L1 _).mono ?_
        rintro e w2 ⟨rfl, rfl⟩
        go_wp2_with fail
        refine (unhide L2 _).mono ?_
        rintro e w2 ⟨rfl, rfl⟩
        go_wp2_with fail
        refine (unhide L3 _).mono ?_
        rintro e w2 ⟨rfl, rfl⟩
        go_wp2_with fail
        refine (unhide L4 _).mono ?_
        rintro e w2 ⟨rfl, rfl⟩
        go_wp2_with fail
        refine (unhide HM _).mono ?_
        rintro e w2 ⟨rfl, rfl⟩
        go_wp2_with fail
        refine (unhide HN _).mono ?_
        rintro e w2 ⟨rfl, rfl⟩
        go_wp2_with fail
        refine (unhide I1 _).mono ?_
        rintro e w2 ⟨rfl, rfl⟩
        go_wp2_with fail
        refine (unhide I2 _).mono ?_
        rintro e w2 ⟨rfl, rfl⟩
        go_wp2
        go_ret
        exact ⟨rfl, by first | exact unhide F1 | exact (unhide F1).drew⟩
      have hnn := beq_ne hn0
      obtain ⟨im, iN⟩ := unhide Hq
      obtain ⟨x, hx⟩ : ∃ x, x = rnd (m.tdiv n) := ⟨_, rfl⟩
      obtain ⟨y, hy⟩ : ∃ y, y = m.tmod n := ⟨_, rfl⟩
      obtain ⟨u, hu⟩ : ∃ u, u = rnd (x * n) := ⟨_, rfl⟩
      have ix : intA x := by rw [hx]; exact rnd_in _
      have iy : intA y := by rw [hy]; exact tmod_int im
      have iu : intA u := by rw [hu]; exact rnd_in _
      have I1 : Hid (∀ W, Calls Try.prog 9 #[.int .i64 108, .int .i64 m, .int .i64 n] W fun e w' => e = .returned (.tuple #[.int .i64 x, .int .i64 0]) ∧ w' = W) := fun W => by
        have h := i14Int_any W 108 m n
        rw [show intR 108 m n = (x, 0) by rw [int108 im iN hn0, hx]] at h
        exact h
      have I2 : Hid (∀ W, Calls Try.prog 9 #[.int .i64 112, .int .i64 m, .int .i64 n] W fun e w' => e = .returned (.tuple #[.int .i64 y, .int .i64 0]) ∧ w' = W) := fun W => by
        have h := i14Int_any W 112 m n
        rw [show intR 112 m n = (y, 0) by rw [int112 im iN hn0, hy]] at h
        exact h
      have I3 : Hid (∀ W, Calls Try.prog 9 #[.int .i64 104, .int .i64 x, .int .i64 n] W fun e w' => e = .returned (.tuple #[.int .i64 u, .int .i64 0]) ∧ w' = W) := fun W => by
        have h := i14Int_any W 104 x n
        rw [show intR 104 x n = (u, 0) by rw [int104 ix iN, hu]] at h
        exact h
      have I4 : Hid (∀ W, Calls Try.prog 9 #[.int .i64 96, .int .i64 u, .int .i64 y] W fun e w' => e = .returned (.tuple #[.int .i64 m, .int .i64 0]) ∧ w' = W) := fun W => by
        have h := i14Int_any W 96 u y
        rw [show intR 96 u y = (m, 0) by rw [int96 iu iy, hu, hx, hy, rnd_div m n im]] at h
        exact h
      clear Hq hx hy hu ix iy iu im iN hn0
      go_enter Try.func7, Try.ntmps7
      go_wp2_with fail
      refine (unhide HW).mono ?_
      rintro e w1 ⟨rfl, f1⟩
      have F1 := hide f1
      clear f1 HW
      go_wp2_with fail
      refine (unhide L1 _).mono ?_
      rintro e w2 ⟨rfl, rfl⟩
      go_wp2_with fail
      refine (unhide L2 _).mono ?_
      rintro e w2 ⟨rfl, rfl⟩
      go_wp2_with fail
      refine (unhide L3 _).mono ?_
      rintro e w2 ⟨rfl, rfl⟩
      go_wp2_with fail
      refine (unhide L4 _).mono ?_
      rintro e w2 ⟨rfl, rfl⟩
      go_wp2_with fail
      refine (unhide HM _).mono ?_
      rintro e w2 ⟨rfl, rfl⟩
      go_wp2_with fail
      refine (unhide HN _).mono ?_
      rintro e w2 ⟨rfl, rfl⟩
      go_wp2_with fail
      refine (unhide I1 _).mono ?_
      rintro e w2 ⟨rfl, rfl⟩
      go_wp2_with fail
      refine (unhide I2 _).mono ?_
      rintro e w2 ⟨rfl, rfl⟩
      go_wp2_with fail
      refine (unhide I3 _).mono ?_
      rintro e w2 ⟨rfl, rfl⟩
      go_wp2_with fail
      refine (unhide I4 _).mono ?_
      rintro e w2 ⟨rfl, rfl⟩
      go_wp2
      go_ret
      exact ⟨rfl, by first | exact unhide F1 | exact (unhide F1).drew⟩
    ·
      have g1 : b < -b := by omega
      have g2 : b ≤ -b := by omega
      have g3 : ¬ -b < b := by omega
      have g4 : - -b = b := by omega
      have g5 : ¬ R ≤ b := by omega
      have hb9 : ¬ b = -9223372036854775808 := by simpa using bm
      have g6 : -9223372036854775808 ≤ -b ∧ -b ≤ 9223372036854775807 := by omega
      obtain ⟨g7, g8⟩ := g6
      clear hb9
      by_cases hn0 : n = 0
      · subst hn0
        have I1 : Hid (∀ W, Calls Try.prog 9 #[.int .i64 108, .int .i64 m, .int .i64 0] W fun e w' => e = .returned (.tuple #[.int .i64 0, .int .i64 5]) ∧ w' = W) := fun W => by
          have h := i14Int_any W 108 m 0
          rw [show intR 108 m 0 = (0, 5) by exact int108z (unhide Hq).1] at h
          exact h
        have I2 : Hid (∀ W, Calls Try.prog 9 #[.int .i64 112, .int .i64 m, .int .i64 0] W fun e w' => e = .returned (.tuple #[.int .i64 0, .int .i64 5]) ∧ w' = W) := fun W => by
          have h := i14Int_any W 112 m 0
          rw [show intR 112 m 0 = (0, 5) by exact int112z (unhide Hq).1] at h
          exact h
        clear Hq
        go_enter Try.func7, Try.ntmps7
        go_wp2_with fail
        refine (unhide HW).mono ?_
        rintro e w1 ⟨rfl, f1⟩
        have F1 := hide f1
        clear f1 HW
        go_wp2_with fail
        refine (unhide L1 _).mono ?_
        rintro e w2 ⟨rfl, rfl⟩
        go_wp2_with fail
        refine (unhide L2 _).mono ?_
        rintro e w2 ⟨rfl, rfl⟩
        go_wp2_with fail
        refine (unhide L3 _).mono ?_
        rintro e w2 ⟨rfl, rfl⟩
        go_wp2_with fail
        refine (unhide L4 _).mono ?_
        rintro e w2 ⟨rfl, rfl⟩
        go_wp2_with fail
        refine (unhide HM _).mono ?_
        rintro e w2 ⟨rfl, rfl⟩
        go_wp2_with fail
        refine (unhide HN _).mono ?_
        rintro e w2 ⟨rfl, rfl⟩
        go_wp2_with fail
        refine (unhide I1 _).mono ?_
        rintro e w2 ⟨rfl, rfl⟩
        go_wp2_with fail
        refine (unhide I2 _).mono ?_
        rintro e w2 ⟨rfl, rfl⟩
        go_wp2
        go_ret
        exact ⟨rfl, by first | exact unhide F1 | exact (unhide F1).drew⟩
      have hnn := beq_ne hn0
      obtain ⟨im, iN⟩ := unhide Hq
      obtain ⟨x, hx⟩ : ∃ x, x = rnd (m.tdiv n) := ⟨_, rfl⟩
      obtain ⟨y, hy⟩ : ∃ y, y = m.tmod n := ⟨_, rfl⟩
      obtain ⟨u, hu⟩ : ∃ u, u = rnd (x * n) := ⟨_, rfl⟩
      have ix : intA x := by rw [hx]; exact rnd_in _
      have iy : intA y := by rw [hy]; exact tmod_int im
      have iu : intA u := by rw [hu]; exact rnd_in _
      have I1 : Hid (∀ W, Calls Try.prog 9 #[.int .i64 108, .int .i64 m, .int .i64 n] W fun e w' => e = .returned (.tuple #[.int .i64 x, .int .i64 0]) ∧ w' = W) := fun W => by
        have h := i14Int_any W 108 m n
        rw [show intR 108 m n = (x, 0) by rw [int108 im iN hn0, hx]] at h
        exact h
      have I2 : Hid (∀ W, Calls Try.prog 9 #[.int .i64 112, .int .i64 m, .int .i64 n] W fun e w' => e = .returned (.tuple #[.int .i64 y, .int .i64 0]) ∧ w' = W) := fun W => by
        have h := i14Int_any W 112 m n
        rw [show intR 112 m n = (y, 0) by rw [int112 im iN hn0, hy]] at h
        exact h
      have I3 : Hid (∀ W, Calls Try.prog 9 #[.int .i64 104, .int .i64 x, .int .i64 n] W fun e w' => e = .returned (.tuple #[.int .i64 u, .int .i64 0]) ∧ w' = W) := fun W => by
        have h := i14Int_any W 104 x n
        rw [show intR 104 x n = (u, 0) by rw [int104 ix iN, hu]] at h
        exact h
      have I4 : Hid (∀ W, Calls Try.prog 9 #[.int .i64 96, .int .i64 u, .int .i64 y] W fun e w' => e = .returned (.tuple #[.int .i64 m, .int .i64 0]) ∧ w' = W) := fun W => by
        have h := i14Int_any W 96 u y
        rw [show intR 96 u y = (m, 0) by rw [int96 iu iy, hu, hx, hy, rnd_div m n im]] at h
        exact h
      clear Hq hx hy hu ix iy iu im iN hn0
      go_enter Try.func7, Try.ntmps7
      go_wp2_with fail
      refine (unhide HW).mono ?_
      rintro e w1 ⟨rfl, f1⟩
      have F1 := hide f1
      clear f1 HW
      go_wp2_with fail
      refine (unhide L1 _).mono ?_
      rintro e w2 ⟨rfl, rfl⟩
      go_wp2_with fail
      refine (unhide L2 _).mono ?_
      rintro e w2 ⟨rfl, rfl⟩
      go_wp2_with fail
      refine (unhide L3 _).mono ?_
      rintro e w2 ⟨rfl, rfl⟩
      go_wp2_with fail
      refine (unhide L4 _).mono ?_
      rintro e w2 ⟨rfl, rfl⟩
      go_wp2_with fail
      refine (unhide HM _).mono ?_
      rintro e w2 ⟨rfl, rfl⟩
      go_wp2_with fail
      refine (unhide HN _).mono ?_
      rintro e w2 ⟨rfl, rfl⟩
      go_wp2_with fail
      refine (unhide I1 _).mono ?_
      rintro e w2 ⟨rfl, rfl⟩
      go_wp2_with fail
      refine (unhide I2 _).mono ?_
      rintro e w2 ⟨rfl, rfl⟩
      go_wp2_with fail
      refine (unhide I3 _).mono ?_
      rintro e w2 ⟨rfl, rfl⟩
      go_wp2_with fail
      refine (unhide I4 _).mono ?_
      rintro e w2 ⟨rfl, rfl⟩
      go_wp2
      go_ret
      exact ⟨rfl, by first | exact unhide F1 | exact (unhide F1).drew⟩
end Go.Proofs.Ytfjkclolnnoklaa
