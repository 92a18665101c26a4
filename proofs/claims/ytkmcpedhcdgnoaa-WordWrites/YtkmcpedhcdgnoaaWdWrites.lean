/- The walk of WordWrites. -/
import Derived.Test.YtkmcpedhcdgnoaaWdX
namespace Go.Proofs.Ytkmcpedhcdgnoaa
open Go.RowKit
set_option linter.unusedVariables false

theorem putW_le (bs : List UInt8) (k : Int) (sg : Bool) (l : List Int) : (putW bs k sg l).1.length ≤ bs.length + 8 * l.length := by
  unfold putW
  split
  · rename_i h
    have h8 : k.toNat ≤ 8 := by rcases h.1 with h | h | h | h <;> omega
    have h1 : l.length * k.toNat ≤ l.length * 8 := Nat.mul_le_mul_left _ h8
    show (bs ++ l.flatMap (bytesW k)).length ≤ _
    rw [List.length_append, flat_len]
    omega
  · show bs.length ≤ _
    omega
theorem patch_good {bs : List UInt8} {p kn : Nat} {k n : Int} (hf : fitsW k n false) (hk : k = kn) (h : p + kn ≤ bs.length) : patchW bs (p : Int) k n = (bs.take p ++ bytesW k n ++ bs.drop (p + kn), 0) := by
  unfold patchW
  rw [if_pos ⟨hf, by omega, by omega⟩, Int.toNat_natCast, hk, Int.toNat_natCast]
theorem patch_bad {bs : List UInt8} {at_ k n : Int} (h : ¬ (fitsW k n false ∧ 0 ≤ at_ ∧ at_ ≤ (bs.length : Int) - k)) : patchW bs at_ k n = (bs, 2) := if_neg h

section
variable {RD : (Nat → Prop) → World → Nat → Nat → List UInt8 → Nat → Prop} {WR : (Nat → Prop) → World → Nat → Nat → List UInt8 → Prop}
set_option maxHeartbeats 8000000 in
set_option maxRecDepth 100000 in
theorem writes_walk (S : Words RD WR) (w : World) (la : Option Addr) (len lc : Nat) (l : List WAct) (hl : l.length = len) (hlen : len ≤ 9223372036854775807)
    (hA : len = 0 ∨ ∃ b o, la = some ⟨b, o, none⟩ ∧ b < w.heap.size ∧ ∀ (j : Nat) (x : WAct), l[j]? = some x → FullW w b (o + j * 6) x ∧ WOk w x) :
    Calls Try.prog 4 #[.slice la len lc] w fun e w' => e = .returned (.bool true) ∧ Below w.heap.size w w' := by
  have HA := hide hA
  have HM := hide (S.make w)
  clear hA
  go_enter Try.func4, Try.ntmps4
  go_wp2_with fail
  refine (unhide HM).mono ?_
  rintro e w1 ⟨x, G, rfl, g1, f1⟩
  have hR0 : WSh WR w x [] (.slice (some ⟨w1.heap.size, 0, none⟩) 0 0) 0 (w1.alloc (.cells #[] 5)) := by
    have b2 : Below w1.heap.size w1 (w1.alloc (.cells #[] 5)) := (Below.refl _ _).alloc (Nat.le_refl _) _
    refine ⟨f1.trans (b2.mono f1.size), ⟨G, S.wbelow g1 b2, fun k hk hG => ?_⟩, World.ownsRow_made w1 #[] 0 f1.size (by simp) rfl⟩
    have h1 := (S.wlt g1 k hG).2
    simp [Value.ownBlock] at hk
    omega
  have HR0 := hide hR0
  clear HM g1 f1 hR0
  go_wp2
  generalize w1.alloc (.cells #[] 5) = w2 at *
  generalize w1.heap.size = q0 at *
  clear w1
  go_loopg [4, 5] 100 (fun gk bvv i wr => ∃ k : Nat, gk = 100 - k ∧ k ≤ 100 ∧ k ≤ len ∧ i = .int .i64 k ∧ ∃ bs a n c, bvv = .slice a n c ∧ WSh WR w x bs (.slice a n c) n wr ∧ n ≤ 500 * k)
  case atStart => exact ⟨0, by omega, by omega, by omega, rfl, [], _, _, _, rfl, unhide HR0, by omega⟩
  case round =>
    obtain ⟨k, rfl, hk100, hk, rfl, bs, ba, bn, bc, rfl, hR, hbn⟩ := hrel
    clear HR0
    by_cases hlt : k < len ∧ k < 100
    · obtain ⟨hlt, hlt100⟩ := hlt
      obtain ⟨b, o, rfl, hbw, hAA⟩ := (unhide HA).resolve_left (by omega)
      obtain ⟨y, hy⟩ : ∃ y, l[k]? = some y := ⟨_, List.getElem?_eq_getElem (by omega)⟩
      obtain ⟨hF, hPO⟩ := hAA k y hy
      have hkl : (k : Int) < (len : Int) := by omega
      have hk8 : (k : Int) < 100 := by omega
      obtain ⟨c0, c1', c2, c3, c4, c5⟩ := hF.below hbw hR.fr
      have HPO := hide hPO
      have HR := hide hR
      have HBK : Hid (bn ≤ 500 * k ∧ k ≤ 100) := ⟨hbn, by omega⟩
      clear hPO hR hF hy hAA hbw hbn
      go_upto_region 9 with fail
      have hAB := wact_block wr y
      have hact := (unhide HR).act S (.cells #[.int .i64 y.kind, .int .i64 y.k, .int .i64 y.n, .int .i64 y.m, .slice y.la y.l.length y.lc, .slice y.ba y.b.length y.bc] 32)
      generalize wr.alloc (.cells #[.int .i64 y.kind, .int .i64 y.k, .int .i64 y.n, .int .i64 y.m, .slice y.la y.l.length y.lc, .slice y.ba y.b.length y.bc] 32) = wa at *
      generalize wr.heap.size = A at *
      have HAB := hide hAB
      have HS := hide hact
      have a0' := hAB.c0
      have a4' := hAB.c4
      have a5' := hAB.c5
      clear hAB hact c0 c1' c2 c3 c4 c5 HR
      clear wr
      by_cases hskip : 60 < y.l.length ∨ 500 < y.b.length
      · have hsk : ((60 : Int) < (y.l.length : Int)) ∨ (¬ (60 : Int) < (y.l.length : Int) ∧ decide ((60 : Int) < (y.l.length : Int)) = false ∧ (500 : Int) < (y.b.length : Int)) := by
          by_cases h : 60 < y.l.length
          · exact .inl (by omega)
          · exact .inr ⟨by omega, by simp; omega, by omega⟩
        have R := hide (unhide HS).h
        clear HAB HS HPO hskip a0'
        rcases hsk with g1 | ⟨g1, g2, g3⟩
        all_goals
          go_wp2
          go_roundg (100 - (k + 1))
          case measure => omega
          case rel => exact ⟨k + 1, rfl, by omega, by omega, by go_num, bs, _, _, _, rfl, unhide R, by have := (unhide HBK).1; omega⟩
      · have g1 : ¬ (60 : Int) < (y.l.length : Int) := by omega
        have g1' : decide ((60 : Int) < (y.l.length : Int)) = false := by simp; omega
        have g2 : ¬ (500 : Int) < (y.b.length : Int) := by omega
        have g2' : decide ((500 : Int) < (y.b.length : Int)) = false := by simp; omega
        have HLL : Hid (y.l.length ≤ 60 ∧ y.b.length ≤ 500) := ⟨by omega, by omega⟩
        have HAM : Hid (Calls Try.prog 10 #[.int .i64 y.kind, .int .i64 5] wa fun e w' => e = .returned (.int .i64 (among y.kind 5)) ∧ w' = wa) := Among_any wa y.kind 5 (by omega) (by omega)
        go_upto_block 2 with (go_at_call 10; refine (unhide HAM).mono ?_; rintro e w5 ⟨rfl, e5⟩; have e5' := e5.symm; clear e5; subst e5')
        clear HAM a0' a4' a5' hskip g1 g1' g2 g2'
        have hdl := among_lt y.kind 5 (by omega)
        generalize hd : ((among y.kind 5 : Nat) : Int) = d at *
        have hd5 : d = 0 ∨ d = 1 ∨ d = 2 ∨ d = 3 ∨ d = 4 := by omega
        clear hd hdl
        go_cut [4, 7, 8] from 19 to 155 (fun bvv e f wx => ∃ (E : Int) (bs : List UInt8) (a : Option Addr) (n c : Nat), e = .int .i64 E ∧ f = .int .i64 E ∧ bvv = .slice a n c ∧ WSh WR w x bs (.slice a n c) n wx ∧ n ≤ 500 * (k + 1))
        case first =>
          have HBE : Hid (bs.length = bn) := (unhide HS).len
          have HBN : Hid (bs.length ≤ 100000) := by have h1 := unhide HBE; have h2 := unhide HBK; show bs.length ≤ 100000; omega
          rcases hd5 with rfl | rfl | rfl | rfl | rfl
          · have HI : Hid (∀ W', Below wa.heap.size wa W' → Calls Try.prog 22 #[.slice y.la y.l.length y.lc] W' fun e w1 => ∃ a c, e = .returned (.slice a y.l.length c) ∧ Nums w1 a y.l.length y.l ∧ (∀ b o, a = some ⟨b, o, none⟩ → wa.heap.size ≤ b) ∧ Below wa.heap.size wa w1 ∧ ActW w1 A y) := fun W' f => (unhide HS).ints y (unhide HPO) (unhide HLL).1 (unhide HAB) f
            have HU : Hid (∀ w1 a1 c1, Below wa.heap.size wa w1 → Nums w1 a1 y.l.length y.l → (∀ b o, a1 = some ⟨b, o, none⟩ → wa.heap.size ≤ b) → Calls Try.prog 21 #[.pointer (some ⟨x, 0, none⟩), .int .i64 y.k, .slice a1 y.l.length c1] w1 fun e w2 => e = .returned (.int .i64 (putW bs y.k false y.l).2) ∧ ActW w2 A y ∧ WS WR w x (putW bs y.k false y.l).1 bs (.slice ba bn bc) bn A w2) := fun w1 a1 c1 f hz hfar => (unhide HS).put1 S y (unhide HPO) (unhide HLL).1 (unhide HBN) (unhide HAB) f a1 c1 hz hfar false 21 (fun G h1 h2 => S.wu G w1 w.heap.size x bs y.k a1 _ c1 y.l h1 hz h2 (unhide HPO).lb (by have := (unhide HLL).1; have := unhide HBN; omega) (unhide HPO).k)
            have HP : Hid (∀ w2, WS WR w x (putW bs y.k false y.l).1 bs (.slice ba bn bc) bn A w2 → Calls Try.prog 23 #[.slice ba bn bc, .int .i64 y.k, .bool false, .slice y.la y.l.length y.lc] w2 fun e w' => ∃ a' n' c', e = .returned (.tuple #[.slice a' n' c', .int .i64 (putW bs y.k false y.l).2]) ∧ WSh WR w x (putW bs y.k false y.l).1 (.slice a' n' c') n' w' ∧ n' ≤ 500 * (k + 1)) := fun w2 s2 => by
              refine (s2.put2 S y (unhide HPO) (unhide HLL).1 (by have := unhide HBK; omega) false rfl).mono ?_
              rintro e w' ⟨a', n', c', rfl, s'⟩
              refine ⟨a', n', c', rfl, s'.h, ?_⟩
              have h1 := s'.len
              have h2 := putW_le bs y.k false y.l
              have h3 := (unhide HLL).1
              have h4 := unhide HBK
              have h5 := unhide HBE
              omega
            have a1' := (unhide HAB).c1
            have a4' := (unhide HAB).c4
            generalize (putW bs y.k false y.l).2 = E at *
            generalize (putW bs y.k false y.l).1 = bs' at *
            clear HAB HPO HLL HBN HBK HBE HS
            go_wp2_with fail
            go_region_held_law (fun W => W.cell? ⟨A, 1, none⟩ = some (.int .i64 y.k) ∧ W.cell? ⟨A, 4, none⟩ = some (.slice y.la y.l.length y.lc)) (go_keep)
              (first
                | (have ox := f5; clear ox; go_at_call 21; refine (unhide HU _ _ _ (by repeat (first | exact f5 | refine Below.drew ?_)) (by exact z5) far5).mono ?_; rintro e w6 ⟨rfl, ab6, s6⟩; have k61 := ab6.c1; have k64 := ab6.c4)
                | (go_at_call 22; refine (unhide HI _ (by repeat (first | exact Below.refl _ _ | refine Below.drew ?_))).mono ?_; rintro e w5 ⟨a5, c5, rfl, z5, far5, f5, ab5⟩; have k51 := ab5.c1; have k54 := ab5.c4))
            have H6 := hide (unhide HP _ s6)
            clear f5 z5 far5 ab5 k51 k54 ab6 s6 HI HU HP a1' a4'
            go_simp
            go_wp2_with fail
            refine (unhide H6).mono ?_
            rintro e w7 ⟨a7, n7, c7, rfl, s7, hn7⟩
            have S7 := hide s7
            have N7 := hide hn7
            clear H6 s7 hn7 k61 k64
            go_wp2
            go_meet
            exact ⟨_, _, _, _, _, rfl, rfl, rfl, unhide S7, unhide N7⟩
          · have HI : Hid (∀ W', Below wa.heap.size wa W' → Calls Try.prog 22 #[.slice y.la y.l.length y.lc] W' fun e w1 => ∃ a c, e = .returned (.slice a y.l.length c) ∧ Nums w1 a y.l.length y.l ∧ (∀ b o, a = some ⟨b, o, none⟩ → wa.heap.size ≤ b) ∧ Below wa.heap.size wa w1 ∧ ActW w1 A y) := fun W' f => (unhide HS).ints y (unhide HPO) (unhide HLL).1 (unhide HAB) f
            have HU : Hid (∀ w1 a1 c1, Below wa.heap.size wa w1 → Nums w1 a1 y.l.length y.l → (∀ b o, a1 = some ⟨b, o, none⟩ → wa.heap.size ≤ b) → Calls Try.prog 21 #[.pointer (some ⟨x, 0, none⟩), .int .i64 y.k, .slice a1 y.l.length c1] w1 fun e w2 => e = .returned (.int .i64 (putW bs y.k false y.l).2) ∧ ActW w2 A y ∧ WS WR w x (putW bs y.k false y.l).1 bs (.slice ba bn bc) bn A w2) := fun w1 a1 c1 f hz hfar => (unhide HS).put1 S y (unhide HPO) (unhide HLL).1 (unhide HBN) (unhide HAB) f a1 c1 hz hfar false 21 (fun G h1 h2 => S.wu G w1 w.heap.size x bs y.k a1 _ c1 y.l h1 hz h2 (unhide HPO).lb (by have := (unhide HLL).1; have := unhide HBN; omega) (unhide HPO).k)
            have HP : Hid (∀ w2, WS WR w x (putW bs y.k false y.l).1 bs (.slice ba bn bc) bn A w2 → Calls Try.prog 23 #[.slice ba bn bc, .int .i64 y.k, .bool false, .slice y.la y.l.length y.lc] w2 fun e w' => ∃ a' n' c', e = .returned (.tuple #[.slice a' n' c', .int .i64 (putW bs y.k false y.l).2]) ∧ WSh WR w x (putW bs y.k false y.l).1 (.slice a' n' c') n' w' ∧ n' ≤ 500 * (k + 1)) := fun w2 s2 => by
              refine (s2.put2 S y (unhide HPO) (unhide HLL).1 (by have := unhide HBK; omega) false rfl).mono ?_
              rintro e w' ⟨a', n', c', rfl, s'⟩
              refine ⟨a', n', c', rfl, s'.h, ?_⟩
              have h1 := s'.len
              have h2 := putW_le bs y.k false y.l
              have h3 := (unhide HLL).1
              have h4 := unhide HBK
              have h5 := unhide HBE
              omega
            have a1' := (unhide HAB).c1
            have a4' := (unhide HAB).c4
            generalize (putW bs y.k false y.l).2 = E at *
            generalize (putW bs y.k false y.l).1 = bs' at *
            clear HAB HPO HLL HBN HBK HBE HS
            go_wp2_with fail
            go_region_held_law (fun W => W.cell? ⟨A, 1, none⟩ = some (.int .i64 y.k) ∧ W.cell? ⟨A, 4, none⟩ = some (.slice y.la y.l.length y.lc)) (go_keep)
              (first
                | (have ox := f5; clear ox; go_at_call 21; refine (unhide HU _ _ _ (by repeat (first | exact f5 | refine Below.drew ?_)) (by exact z5) far5).mono ?_; rintro e w6 ⟨rfl, ab6, s6⟩; have k61 := ab6.c1; have k64 := ab6.c4)
                | (go_at_call 22; refine (unhide HI _ (by repeat (first | exact Below.refl _ _ | refine Below.drew ?_))).mono ?_; rintro e w5 ⟨a5, c5, rfl, z5, far5, f5, ab5⟩; have k51 := ab5.c1; have k54 := ab5.c4))
            have H6 := hide (unhide HP _ s6)
            clear f5 z5 far5 ab5 k51 k54 ab6 s6 HI HU HP a1' a4'
            go_simp
            go_wp2_with fail
            refine (unhide H6).mono ?_
            rintro e w7 ⟨a7, n7, c7, rfl, s7, hn7⟩
            have S7 := hide s7
            have N7 := hide hn7
            clear H6 s7 hn7 k61 k64
            go_wp2
            go_meet
            exact ⟨_, _, _, _, _, rfl, rfl, rfl, unhide S7, unhide N7⟩
          · have HI : Hid (∀ W', Below wa.heap.size wa W' → Calls Try.prog 22 #[.slice y.la y.l.length y.lc] W' fun e w1 => ∃ a c, e = .returned (.slice a y.l.length c) ∧ Nums w1 a y.l.length y.l ∧ (∀ b o, a = some ⟨b, o, none⟩ → wa.heap.size ≤ b) ∧ Below wa.heap.size wa w1 ∧ ActW w1 A y) := fun W' f => (unhide HS).ints y (unhide HPO) (unhide HLL).1 (unhide HAB) f
            have HU : Hid (∀ w1 a1 c1, Below wa.heap.size wa w1 → Nums w1 a1 y.l.length y.l → (∀ b o, a1 = some ⟨b, o, none⟩ → wa.heap.size ≤ b) → Calls Try.prog 24 #[.pointer (some ⟨x, 0, none⟩), .int .i64 y.k, .slice a1 y.l.length c1] w1 fun e w2 => e = .returned (.int .i64 (putW bs y.k true y.l).2) ∧ ActW w2 A y ∧ WS WR w x (putW bs y.k true y.l).1 bs (.slice ba bn bc) bn A w2) := fun w1 a1 c1 f hz hfar => (unhide HS).put1 S y (unhide HPO) (unhide HLL).1 (unhide HBN) (unhide HAB) f a1 c1 hz hfar true 24 (fun G h1 h2 => S.ws G w1 w.heap.size x bs y.k a1 _ c1 y.l h1 hz h2 (unhide HPO).lb (by have := (unhide HLL).1; have := unhide HBN; omega) (unhide HPO).k)
            have HP : Hid (∀ w2, WS WR w x (putW bs y.k true y.l).1 bs (.slice ba bn bc) bn A w2 → Calls Try.prog 23 #[.slice ba bn bc, .int .i64 y.k, .bool true, .slice y.la y.l.length y.lc] w2 fun e w' => ∃ a' n' c', e = .returned (.tuple #[.slice a' n' c', .int .i64 (putW bs y.k true y.l).2]) ∧ WSh WR w x (putW bs y.k true y.l).1 (.slice a' n' c') n' w' ∧ n' ≤ 500 * (k + 1)) := fun w2 s2 => by
              refine (s2.put2 S y (unhide HPO) (unhide HLL).1 (by have := unhide HBK; omega) true rfl).mono ?_
              rintro e w' ⟨a', n', c', rfl, s'⟩
              refine ⟨a', n', c', rfl, s'.h, ?_⟩
              have h1 := s'.len
              have h2 := putW_le bs y.k true y.l
              have h3 := (unhide HLL).1
              have h4 := unhide HBK
              have h5 := unhide HBE
              omega
            have a1' := (unhide HAB).c1
            have a4' := (unhide HAB).c4
            generalize (putW bs y.k true y.l).2 = E at *
            generalize (putW bs y.k true y.l).1 = bs' at *
            clear HAB HPO HLL HBN HBK HBE HS
            go_wp2_with fail
            go_region_held_law (fun W => W.cell? ⟨A, 1, none⟩ = some (.int .i64 y.k) ∧ W.cell? ⟨A, 4, none⟩ = some (.slice y.la y.l.length y.lc)) (go_keep)
              (first
                | (have ox := f5; clear ox; go_at_call 24; refine (unhide HU _ _ _ (by repeat (first | exact f5 | refine Below.drew ?_)) (by exact z5) far5).mono ?_; rintro e w6 ⟨rfl, ab6, s6⟩; have k61 := ab6.c1; have k64 := ab6.c4)
                | (go_at_call 22; refine (unhide HI _ (by repeat (first | exact Below.refl _ _ | refine Below.drew ?_))).mono ?_; rintro e w5 ⟨a5, c5, rfl, z5, far5, f5, ab5⟩; have k51 := ab5.c1; have k54 := ab5.c4))
            have H6 := hide (unhide HP _ s6)
            clear f5 z5 far5 ab5 k51 k54 ab6 s6 HI HU HP a1' a4'
            go_simp
            go_wp2_with fail
            refine (unhide H6).mono ?_
            rintro e w7 ⟨a7, n7, c7, rfl, s7, hn7⟩
            have S7 := hide s7
            have N7 := hide hn7
            clear H6 s7 hn7 k61 k64
            go_wp2
            go_meet
            exact ⟨_, _, _, _, _, rfl, rfl, rfl, unhide S7, unhide N7⟩
          · have H1 := hide ((unhide HS).bytes1 S y (unhide HPO) (unhide HLL).2 (unhide HBN) (unhide HAB))
            have a5' := (unhide HAB).c5
            have HYB : Hid (∀ W, Below w.heap.size w W → Arg W y.ba y.b.length y.bc y.b) := fun W f => (unhide HPO).b.below f
            have HN : Hid (∀ w2 v' w3 n', WS WR w x (bs ++ y.b) bs (.slice ba bn bc) bn A w2 → Below w2.heap.size w2 w3 → w3.ownsRow w2.heap.size 5 1 v' n' (bv (bs ++ y.b)) → n' = bn + y.b.length → WSh WR w x (bs ++ y.b) v' n' w3 ∧ n' ≤ 500 * (k + 1)) := fun w2 v' w3 n' s2 f ho e => ⟨(s2.moved S f ho).h, by
              have h3 := (unhide HLL).2
              have h4 := unhide HBK
              omega⟩
            have hsm : bn + y.b.length ≤ 140737488355328 := by
              have h3 := (unhide HLL).2
              have h4 := unhide HBK
              omega
            have HBE2 := hide (unhide HBE)
            have hbn6 : bn ≤ 140737488351232 := by have := unhide HBK; omega
            clear HAB HPO HLL HBN HBK HBE HS
            go_wp2_with fail
            refine (unhide H1).mono ?_
            rintro e w5 ⟨oa, oc, rfl, h5⟩
            have H5 := hide h5
            clear H1 h5 a5'
            go_wp2_with fail
            refine (unhide H5).mono ?_
            rintro e w6 ⟨rfl, ab6, s6⟩
            have k65 := ab6.c5
            have HC6 : Hid (∀ W, Below w6.heap.size w6 W → W.cell? ⟨A, 5, none⟩ = some (.slice y.ba y.b.length y.bc)) := fun W f => (ab6.below f).c5
            have HB6 : Hid (∀ W, Below w6.heap.size w6 W → Calls Try.prog 8 #[.slice ba bn bc] W fun e w' => ∃ a3 c3, e = .returned (.slice a3 bn c3) ∧ w'.ownsRow w6.heap.size 5 1 (.slice a3 bn c3) bn (bv bs) ∧ Below w6.heap.size w6 w') := fun W f => by
              refine (bytes_copy (arg_of_own (unhide HBE2) (own_below s6.own f)) hbn6).mono ?_
              rintro e w' ⟨v', rfl, o', f'⟩
              obtain ⟨a3, c3, rfl, _⟩ := own_form o'
              exact ⟨a3, c3, rfl, own_base o' f.size, f.trans (f'.mono f.size)⟩
            have HY6 : Hid (∀ W, Below w6.heap.size w6 W → Arg W y.ba y.b.length y.bc y.b) := fun W f => unhide HYB W (s6.fr.trans (f.mono s6.fr.size))
            have S6 := hide s6
            clear H5 s6 ab6 HYB
            go_wp2_with fail
            go_region_held_law (fun W => W.cell? ⟨A, 5, none⟩ = some (.slice y.ba y.b.length y.bc)) (go_keep)
              (first
                | (have ox := f7; clear ox; refine stepB_append rfl (.tmp 92) (.tmp 94) rfl w6.heap.size _ bn bs rfl (by exact o7) y.ba y.b.length y.bc y.b rfl (by exact (unhide HY6 _ f7).bs) (by exact (unhide HY6 _ f7).nil) hsm (by exact f7.size) ?_; intro v8 w8 o8 g8; have f8 : Below w6.heap.size w6 w8 := Below.grown (by repeat (first | exact f7 | refine Below.drew ?_)) g8 (by exact f7.size) (fun z hz => (o7.lt z hz).1); have k85 := unhide HC6 w8 f8)
                | (go_at_call 8; refine (unhide HB6 _ (by repeat (first | exact Below.refl _ _ | refine Below.drew ?_))).mono ?_; rintro e w7 ⟨a7, c7, rfl, o7, f7⟩; have k75 := unhide HC6 w7 f7))
            obtain ⟨r8, hn8⟩ := unhide HN _ _ _ _ (unhide S6) f8 o8 rfl
            obtain ⟨a8, c8, rfl, _⟩ := own_form o8
            have R8 := hide r8
            have N8 := hide hn8
            clear o7 f7 o8 g8 f8 k65 k75 k85 HC6 HB6 HY6 S6 HN r8 hn8
            go_simp
            go_wp2
            go_meet
            exact ⟨_, _, _, _, _, rfl, rfl, rfl, (unhide R8).below S (by first | exact Below.refl _ _ | exact (Below.refl _ _).drew | exact below_drewN (Below.refl _ _) _), unhide N8⟩
          · have hbe := unhide HBE
            have hbk := unhide HBK
            have hpk := (unhide HPO).k
            have H1 := (unhide HS).patch1 S y (unhide HPO) (unhide HBN) (unhide HAB)
            have a1' := (unhide HAB).c1
            have a2' := (unhide HAB).c2
            have a3' := (unhide HAB).c3
            by_cases hgood : fitsW y.k y.m false ∧ 0 ≤ y.n ∧ y.n ≤ (bn : Int) - y.k
            · obtain ⟨hfit, hp0, hp1⟩ := hgood
              obtain ⟨kn, hkn, hkn8⟩ := wide_nat hfit.1
              obtain ⟨p, hp⟩ : ∃ p : Nat, y.n = p := ⟨y.n.toNat, by omega⟩
              have hpw : patchW bs y.n y.k y.m = (bs.take p ++ bytesW y.k y.m ++ bs.drop (p + kn), 0) := by rw [hp]; exact patch_good hfit hkn (by omega)
              rw [hpw, decide_eq_true hfit] at H1
              have H1 := hide H1
              clear hpw
              obtain ⟨K2, hK2⟩ : ∃ K2, K2 = p + kn := ⟨_, rfl⟩
              have e1 : (p : Int) + (kn : Int) = (K2 : Int) := by omega
              have e2 : (K2 : Int) ≤ (bn : Int) := by omega
              have e3 : (p : Int) ≤ (bn : Int) := by omega
              have e4 : ¬ (bn : Int) - (kn : Int) < (p : Int) := by omega
              have e5 : IntKind.i64.wrap ((bn : Int) - (kn : Int)) = (bn : Int) - (kn : Int) := by rw [IntKind.wrap_i64]; omega
              have e6 : IntKind.i64.wrap (K2 : Int) = (K2 : Int) := by rw [IntKind.wrap_i64]; omega
              have e7 : ¬ (p : Int) < 0 := by omega
              have hK3 : K2 ≤ bn := by omega
              have hpn : p ≤ bn := by omega
              have hkk : y.k.toNat = kn := by rw [hkn, Int.toNat_natCast]
              have HB5 : Hid (bn ≤ 500 * (k + 1) ∧ bn ≤ 60000) := ⟨by omega, by omega⟩
              have HFIT := hide hfit
              rw [← hK2] at H1
              have HK2 := hide hK2
              have HBE2 := hide hbe
              have HKK := hide hkk
              have HKN8 : Hid (kn ≤ 8) := by show kn ≤ 8; omega
              have HKNH := hide hkn
              have HPH := hide hp
              generalize hbw : bytesW y.k y.m = BW at *
              have HBW : Hid (BW.length = kn) := by show BW.length = kn; rw [← hbw, bytesW_len, hkk]
              clear HAB HPO HLL HBN HBK HBE HS hp0 hp1 hfit hK2 hbe hbk hpk hkk hkn8 hbw hkn hp
              go_wp2_with fail
              refine (unhide H1).mono ?_
              rintro e w5 ⟨rfl, ab5, s5, h5⟩
              have k51 := ab5.c1
              have k53 := ab5.c3
              have H5 := hide h5
              clear H1 h5 ab5 s5 a1' a2' a3'
              go_wp2_with fail
              refine (unhide H5).mono ?_
              rintro e w6 ⟨xa, xm, xc, rfl, hx, ab6, s6⟩
              obtain ⟨hxm, ox⟩ := hx (unhide HFIT)
              rw [unhide HKK] at hxm
              subst hxm
              have k61 := ab6.c1
              have k62 := ab6.c2
              rw [unhide HKNH] at k61
              rw [unhide HPH] at k62
              have HC6 : Hid (∀ W, Below w6.heap.size w6 W → W.cell? ⟨A, 1, none⟩ = some (.int .i64 (xm : Int)) ∧ W.cell? ⟨A, 2, none⟩ = some (.int .i64 (p : Int))) := fun W f => by
                have h1 := (ab6.below f).c1
                have h2 := (ab6.below f).c2
                rw [unhide HKNH] at h1
                rw [unhide HPH] at h2
                exact ⟨h1, h2⟩
              have hargB : Arg w6 ba bn bc bs := arg_of_own (unhide HBE2) s6.own
              have hroom := hargB.room
              have hmost := hargB.most
              have e8 : (K2 : Int) ≤ (bc : Int) := by omega
              have e9 : (p : Int) ≤ (bc : Int) := by omega
              have e10 : (bn : Int) ≤ (bc : Int) := by omega
              have HX6 : Hid (∀ W, Below w6.heap.size w6 W → Bs W xa xm BW) := fun W f => (arg_of_own (unhide HBW) (own_below ox f)).bs
              have hxn : xa = none → xm = 0 ∧ xc = 0 := (arg_of_own (unhide HBW) ox).nil
              have HT6 : Hid (∀ W, Below w6.heap.size w6 W → Calls Try.prog 8 #[.slice ba p bc] W fun e w' => ∃ a3 c3, e = .returned (.slice a3 p c3) ∧ w'.ownsRow w6.heap.size 5 1 (.slice a3 p c3) p (bv (bs.take p)) ∧ Below w6.heap.size w6 w') := fun W f => by
                have ha : Arg W ba p bc (bs.take p) := by
                  have hb := hargB.below f
                  refine ⟨⟨by rw [List.length_take]; have := unhide HBE2; omega, ?_⟩, by omega, hb.most, fun e => ⟨?_, (hb.nil e).2⟩⟩
                  · rcases hb.bs.2 with h0 | ⟨b', o', e', hB⟩
                    · exact .inl (by omega)
                    · exact .inr ⟨b', o', e', bytes_take hB p⟩
                  · have := (hb.nil e).1
                    omega
                refine (bytes_copy ha (by have := (unhide HB5).2; omega)).mono ?_
                rintro e w' ⟨v', rfl, o', f'⟩
                obtain ⟨a3, c3, rfl, _⟩ := own_form o'
                exact ⟨a3, c3, rfl, own_base o' f.size, f.trans (f'.mono f.size)⟩
              obtain ⟨AD, hAd⟩ : ∃ AD, (if bc = K2 then ba else Option.map (fun x => x.add K2) ba) = AD := ⟨_, rfl⟩
              have HD6 : Hid (∀ W, Below w6.heap.size w6 W → Bs W AD (bn - K2) (bs.drop K2)) := fun W f => by
                have := sub_bs (hargB.below f) K2 bn hK3 (Nat.le_refl _)
                rw [hAd, List.take_of_length_le (by have := unhide HBE2; omega)] at this
                exact this
              have hdn : AD = none → bn - K2 = 0 ∧ bc - K2 = 0 := fun e => by
                rw [← hAd] at e
                have ha : ba = none := by
                  split at e
                  · exact e
                  · exact Option.map_eq_none_iff.1 e
                have h1 := hargB.nil ha
                omega
              have hs1 : p + xm ≤ 140737488355328 := by have := (unhide HB5).2; have := unhide HKN8; omega
              have hs2 : p + xm + (bn - K2) ≤ 140737488355328 := by have := (unhide HB5).2; have := unhide HKN8; omega
              have HN : Hid (∀ v' w3 n', Below w6.heap.size w6 w3 → w3.ownsRow w6.heap.size 5 1 v' n' (bv (bs.take p ++ BW ++ bs.drop K2)) → n' = p + xm + (bn - K2) → WSh WR w x (bs.take p ++ BW ++ bs.drop K2) v' n' w3 ∧ n' ≤ 500 * (k + 1)) := fun v' w3 n' f ho e => ⟨(s6.moved S f ho).h, by
                have h3 := (unhide HB5).1
                have h4 := unhide HK2
                omega⟩
              have HXN := hide hxn
              have HDN := hide hdn
              clear H5 s6 ab6 ox hx hargB hxn hdn k51 k53 hroom hmost
              go_wp2_with fail
              go_region_held_law (fun W => W.cell? ⟨A, 1, none⟩ = some (.int .i64 (xm : Int)) ∧ W.cell? ⟨A, 2, none⟩ = some (.int .i64 (p : Int))) (go_keep)
                (first
                  | (have ox := f8; clear ox; refine stepB_append rfl (.tmp 137) (.tmp 144) rfl w6.heap.size _ (p + xm) (bs.take p ++ BW) rfl (by exact o8) AD (bn - K2) (bc - K2) (bs.drop K2) (by first | rfl | simp [Act.eval, hAd]) (by exact unhide HD6 _ f8) (unhide HDN) hs2 (by exact f8.size) ?_; intro v9 w9 o9 g9; have f9 : Below w6.heap.size w6 w9 := Below.grown (by repeat (first | exact f8 | refine Below.drew ?_)) g9 (by exact f8.size) (fun z hz => (o8.lt z hz).1); have k91 := (unhide HC6 w9 f9).1; have k92 := (unhide HC6 w9 f9).2)
                  | (have ox := f7; clear ox; refine stepB_append rfl (.tmp 135) (.tmp 136) rfl w6.heap.size _ p (bs.take p) rfl (by exact o7) xa xm xc BW rfl (by exact unhide HX6 _ f7) (unhide HXN) hs1 (by exact f7.size) ?_; intro v8 w8 o8 g8; have f8 : Below w6.heap.size w6 w8 := Below.grown (by repeat (first | exact f7 | refine Below.drew ?_)) g8 (by exact f7.size) (fun z hz => (o7.lt z hz).1); have k81 := (unhide HC6 w8 f8).1; have k82 := (unhide HC6 w8 f8).2)
                  | (go_at_call 8; refine (unhide HT6 _ (by repeat (first | exact Below.refl _ _ | refine Below.drew ?_))).mono ?_; rintro e w7 ⟨a7, c7, rfl, o7, f7⟩; have k71 := (unhide HC6 w7 f7).1; have k72 := (unhide HC6 w7 f7).2))
              obtain ⟨r9, hn9⟩ := unhide HN _ _ _ f9 o9 rfl
              obtain ⟨a9, c9, rfl, _⟩ := own_form o9
              have R9 := hide r9
              have N9 := hide hn9
              clear o7 f7 o8 g8 f8 o9 g9 f9 k61 k62 k71 k72 k81 k82 k91 k92 HC6 HT6 HX6 HD6 HN r9 hn9
              go_simp
              go_wp2
              go_meet
              exact ⟨_, _, _, _, _, rfl, rfl, rfl, (unhide R9).below S (by first | exact Below.refl _ _ | exact (Below.refl _ _).drew | exact below_drewN (Below.refl _ _) _), unhide N9⟩
            · rw [patch_bad (by rw [hbe]; exact hgood)] at H1
              have hsub : (decide (fitsW y.k y.m false) = false) ∨ (decide (fitsW y.k y.m false) = true ∧ (y.n < 0 ∨ (¬ y.n < 0 ∧ decide (y.n < 0) = false ∧ (bn : Int) - y.k < y.n ∧ IntKind.i64.wrap ((bn : Int) - y.k) = (bn : Int) - y.k))) := by
                by_cases hfit : fitsW y.k y.m false
                · refine .inr ⟨decide_eq_true hfit, ?_⟩
                  by_cases h0 : y.n < 0
                  · exact .inl h0
                  · have hkr : 1 ≤ y.k ∧ y.k ≤ 8 := by rcases hfit.1 with h | h | h | h <;> omega
                    refine .inr ⟨h0, by simp; omega, ?_, by rw [IntKind.wrap_i64]; omega⟩
                    by_cases h1 : y.n ≤ (bn : Int) - y.k
                    · exact absurd ⟨hfit, by omega, h1⟩ hgood
                    · omega
                · exact .inl (decide_eq_false hfit)
              have H1 := hide H1
              have HB5 : Hid (bn ≤ 500 * (k + 1)) := by show bn ≤ 500 * (k + 1); omega
              clear HAB HPO HLL HBN HBK HBE HS hgood hbe hbk hpk
              generalize decide (fitsW y.k y.m false) = fit at *
              rcases hsub with rfl | ⟨rfl, h0 | ⟨h0, h0', h1, h2⟩⟩
              all_goals
                go_wp2_with fail
                refine (unhide H1).mono ?_
                rintro e w5 ⟨rfl, ab5, s5, h5⟩
                have k51 := ab5.c1
                have k53 := ab5.c3
                have H5 := hide h5
                clear H1 h5 ab5 s5 a1' a2' a3'
                go_wp2_with fail
                refine (unhide H5).mono ?_
                rintro e w6 ⟨xa, xm, xc, rfl, _, ab6, s6⟩
                have k61 := ab6.c1
                have k62 := ab6.c2
                have R6 := hide s6.h
                clear H5 ab6 s6 k51 k53
                go_wp2
                go_meet
                exact ⟨_, _, _, _, _, rfl, rfl, rfl, unhide R6, unhide HB5⟩
        case rest =>
          obtain ⟨E, bs3, a3, n3, c3, rfl, rfl, rfl, hR3, hn3⟩ := hcut
          obtain ⟨G3, g3, _⟩ := hR3.wr
          have hl3 := hR3.len
          have HL := S.wlen G3 wc w.heap.size x bs3 g3 (by omega)
          rw [hl3] at HL
          have HL := hide HL
          have HR3 := hide hR3
          have N3 := hide hn3
          have q1 : (E != E) = false := by simp
          have q2 : ((n3 : Int) != (n3 : Int)) = false := by simp
          clear hR3 g3 hn3 hl3 HAB HS HPO HLL HBK hd5
          go_wp2_with fail
          refine (unhide HL).mono ?_
          rintro e w5 ⟨rfl, f5⟩
          have R5 := hide ((unhide HR3).below S f5)
          clear HL HR3 f5
          go_wp2
          go_roundg (100 - (k + 1))
          case measure => omega
          case rel => exact ⟨k + 1, rfl, by omega, by omega, by go_num, bs3, _, _, _, rfl, unhide R5, unhide N3⟩
    · have hend : ((k : Int) < (len : Int) ∧ ¬ (k : Int) < 100 ∧ decide ((k : Int) < 100) = false) ∨ (¬ (k : Int) < (len : Int) ∧ decide ((k : Int) < (len : Int)) = false) := by
        by_cases h : k < len
        · exact .inl ⟨by omega, by omega, by simp; omega⟩
        · exact .inr ⟨by omega, by simp; omega⟩
      obtain ⟨G3, g3, hG3⟩ := hR.wr
      have hbl := hR.len
      have hbn6 : bn ≤ 60000 := by omega
      have HALL := S.wall G3 wr w.heap.size x bs g3 (by omega)
      rw [hbl] at HALL
      have HALL := hide HALL
      have HNX : Hid (∀ w1 v1 q, Below wr.heap.size wr w1 → w1.ownsRow wr.heap.size 5 1 v1 bn (bv bs) → v1.ownBlock = some q → ∀ W', Wr6 w1 q bn W' → Below w.heap.size w W' ∧ (Calls Try.prog 29 #[.pointer (some ⟨x, 0, none⟩)] W' fun e w' => ∃ v, e = .returned v ∧ (Calls Try.prog 16 #[v, .slice ba bn bc] w' fun e w'' => e = .returned (.bool true) ∧ w'' = w') ∧ Below W'.heap.size W' w')) := fun w1 v1 q f1 o1 hq W' hW => by
        have hq1 := o1.lt q hq
        have hqG : ¬ G3 q := fun hG => by have := (S.wlt g3 q hG).2; omega
        have g1 := S.wbelow g3 f1
        have hg' : WR G3 W' w.heap.size x bs := S.wkeep g1 (fun j hj => hW.oth j (fun e => hqG (e ▸ hj))) hW.bel.size
        have ho' : W'.ownsRow w.heap.size 5 1 (.slice ba bn bc) bn (bv bs) := own_of_block (own_below hR.own f1) (fun j hj => hW.oth j (fun e => by have := (hR.own.lt j hj).2; omega))
        have hfr : Below w.heap.size w W' := (hR.fr.trans (f1.mono hR.fr.size)).trans (hW.bel.mono (by have := hR.fr.size; omega))
        refine ⟨hfr, ?_⟩
        refine (S.wall G3 W' w.heap.size x bs hg' (by omega)).mono ?_
        rintro e w' ⟨v, rfl, o2, f2⟩
        rw [hbl] at o2
        obtain ⟨a2, c2, rfl, _⟩ := own_form o2
        refine ⟨_, rfl, ?_, f2⟩
        refine (SameBytes_n w' a2 ba bs bs bn bn c2 bc (own_bytes o2) (own_bytes (own_below ho' f2)) hbl hbl).mono ?_
        rintro e w'' ⟨rfl, rfl⟩
        exact ⟨by simp, rfl⟩
      have HZ0 : Hid (∀ W', Below wr.heap.size wr W' → Below w.heap.size w W' ∧ (Calls Try.prog 29 #[.pointer (some ⟨x, 0, none⟩)] W' fun e w' => ∃ v, e = .returned v ∧ (Calls Try.prog 16 #[v, .slice ba bn bc] w' fun e w'' => e = .returned (.bool true) ∧ w'' = w') ∧ Below W'.heap.size W' w')) := fun W' f1 => by
        refine ⟨hR.fr.trans (f1.mono hR.fr.size), ?_⟩
        refine (S.wall G3 W' w.heap.size x bs (S.wbelow g3 f1) (by omega)).mono ?_
        rintro e w' ⟨v, rfl, o2, f2⟩
        rw [hbl] at o2
        obtain ⟨a2, c2, rfl, _⟩ := own_form o2
        refine ⟨_, rfl, ?_, f2⟩
        refine (SameBytes_n w' a2 ba bs bs bn bn c2 bc (own_bytes o2) (own_bytes (own_below (own_below hR.own f1) f2)) hbl hbl).mono ?_
        rintro e w'' ⟨rfl, rfl⟩
        exact ⟨by simp, rfl⟩
      have HSB : Hid (∀ w1 a1 c1, Below wr.heap.size wr w1 → w1.ownsRow wr.heap.size 5 1 (.slice a1 bn c1) bn (bv bs) → Calls Try.prog 16 #[.slice a1 bn c1, .slice ba bn bc] w1 fun e w2 => e = .returned (.bool true) ∧ w2 = w1) := fun w1 a1 c1 f1 o1 => by
        refine (SameBytes_n w1 a1 ba bs bs bn bn c1 bc (own_bytes o1) (own_bytes (own_below hR.own f1)) hbl hbl).mono ?_
        rintro e w2 ⟨rfl, rfl⟩
        exact ⟨by simp, rfl⟩
      clear HA hR hlt g3 hG3 hbl hbn
      rcases hend with ⟨g1, g2, g3⟩ | ⟨g1, g2⟩
      all_goals
        go_wp2_with fail
        refine (unhide HALL).mono ?_
        rintro e w5 ⟨v5, rfl, o5, f5⟩
        obtain ⟨a5, c5, rfl, hform⟩ := own_form o5
        have HS5 := hide (unhide HSB w5 a5 c5 f5 o5)
        have HF5 := hide f5
        have HO5 := hide o5
        clear HALL HSB f5 o5
        go_wp2_with fail
        refine (unhide HS5).mono ?_
        rintro e w6 ⟨rfl, e6⟩
        have e6' := e6.symm
        clear e6
        subst e6'
        clear HS5
        go_wp2
        by_cases hn0 : bn = 0
        · subst hn0
          obtain ⟨hfr, hall⟩ := unhide HZ0 w5 (unhide HF5)
          have HFR := hide hfr
          have HAL := hide hall
          clear hfr hall HZ0 HNX HF5 HO5 hform
          refine wp_loop_rounds 1 ?_
          rw [rounds_succ]
          go_wp2_with fail
          refine (unhide HAL).mono ?_
          rintro e w7 ⟨v7, rfl, h7, f7⟩
          have H7 := hide h7
          have F7 := hide ((unhide HFR).trans (f7.mono (unhide HFR).size))
          clear HAL h7 f7
          go_wp2_with fail
          refine (unhide H7).mono ?_
          rintro e w8 ⟨rfl, e8⟩
          have e8' := e8.symm
          clear e8
          subst e8'
          have HW := hide (works6_any S w7)
          clear H7
          go_wp2_with fail
          refine (unhide HW).mono ?_
          rintro e w9 ⟨rfl, f9⟩
          have F9 := hide ((unhide F7).trans (f9.mono (unhide F7).size))
          clear HW f9
          go_wp2
          go_ret
          exact ⟨rfl, unhide F9⟩
        · obtain ⟨q, rfl, _⟩ := hform (by omega)
          have hwq : Wr6 w5 q bn w5 := by
            rcases (unhide HO5).2 with ⟨e, _⟩ | ⟨g, cap, cur, e, _, hg, h3, _, h4, _⟩
            · cases e
            · injection e with e1 e2 e3
              injection e1 with e1
              injection e1 with e1
              subst e1
              exact ⟨⟨cur, hg, by omega⟩, fun _ _ => rfl, Below.refl _ _⟩
          have WQ := hide hwq
          have HQ := hide (unhide HNX w5 _ q (unhide HF5) (unhide HO5) rfl)
          clear HNX HZ0 HF5 HO5 hwq
          go_loopw [14] (fun i wr => ∃ j : Nat, j ≤ bn ∧ i = .int .i64 j ∧ Wr6 w5 q bn wr) (fun i _ => bn - (intOf i).toNat)
          case atStart => exact ⟨0, by omega, rfl, unhide WQ⟩
          case round =>
            obtain ⟨i, hi, rfl, hW⟩ := hrel
            clear WQ
            by_cases hjl : i < bn
            · have hjl' : (i : Int) < (bn : Int) := by omega
              obtain ⟨⟨u, hu⟩, hf⟩ := hW.cell i hjl
              have HW := hide (hW.set i (.int .u8 202))
              clear hW
              go_wp2
              go_roundw
              case rel => exact ⟨i + 1, by omega, by go_num, unhide HW⟩
              case measure => simp [intOf]; omega
            · have hjl' : ¬ (i : Int) < (bn : Int) := by omega
              obtain ⟨hfr, hall⟩ := unhide HQ _ hW
              have HFR := hide hfr
              have HAL := hide hall
              clear hW hfr hall HQ
              go_wp2_with fail
              refine (unhide HAL).mono ?_
              rintro e w7 ⟨v7, rfl, h7, f7⟩
              have H7 := hide h7
              have F7 := hide ((unhide HFR).trans (f7.mono (unhide HFR).size))
              clear HAL h7 f7
              go_wp2_with fail
              refine (unhide H7).mono ?_
              rintro e w8 ⟨rfl, e8⟩
              have e8' := e8.symm
              clear e8
              subst e8'
              have HW := hide (works6_any S w7)
              clear H7
              go_wp2_with fail
              refine (unhide HW).mono ?_
              rintro e w9 ⟨rfl, f9⟩
              have F9 := hide ((unhide F7).trans (f9.mono (unhide F7).size))
              clear HW f9
              go_wp2
              go_ret
              exact ⟨rfl, unhide F9⟩
end

end Go.Proofs.Ytkmcpedhcdgnoaa
