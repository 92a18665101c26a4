/- Joined: KsN KsO KsP KsQ SjJ. -/
import Derived.Test.YthenefjoidckkaaGreatDoorJK6
import Derived.Test.YthenefjoidckkaaGreatDoorJK3
import Derived.Test.YthenefjoidckkaaGreatDoorJB
import Derived.Test.YthenefjoidckkaaGreatDoorJS1

/- Going up by names, as the document's answer does it: the same list. -/
namespace Go.Proofs.YthenefjoidckkaaGreatDoor
open Go.RowKit
set_option linter.unusedVariables false

/-- What was met by its places is what was met by its names. -/
structure UN (l : List Nc) (nm : List UInt8) (met : List Nat) (cur : List UInt8) (pre : List (List UInt8)) : Prop where
  ur : UR l nm met (fstN l cur) pre
  last : (nm :: pre).getLast? = some cur
  here : ∀ p, p ∈ met → ∃ t ∈ nm :: pre, fstN l t = some p
  back : ∀ t ∈ nm :: pre, t ≠ cur → ∃ p ∈ met, fstN l t = some p
theorem UN.start (l : List Nc) (nm : List UInt8) : UN l nm [] nm [] :=
  ⟨UR.start l nm, rfl, fun p h => by simp at h, fun t ht hne => by simp at ht; exact absurd ht hne⟩
theorem nxt_some {l : List Nc} {nm s : List UInt8} (h : nxt l nm = some s) : ∃ p, fstN l nm = some p ∧ supAt l p = s ∧ s ≠ [] := by
  unfold nxt at h
  cases hp : fstN l nm with
  | none => rw [hp] at h; cases h
  | some p =>
    rw [hp] at h
    simp only at h
    by_cases hs : supAt l p = []
    · rw [if_pos hs] at h; cases h
    · rw [if_neg hs] at h
      injection h with h
      exact ⟨p, rfl, h, by rw [← h]; exact hs⟩
theorem UN.stop {l : List Nc} {nm cur : List UInt8} {met : List Nat} {pre : List (List UInt8)} (h : UN l nm met cur pre) (hn : nxt l cur = none) : upL l nm = pre := by
  have hu := h.ur
  unfold nxt at hn
  cases hp : fstN l cur with
  | none => rw [hp] at hu; exact hu.none
  | some p =>
    rw [hp] at hn hu
    simp only at hn
    by_cases hs : supAt l p = []
    · exact hu.ends hs
    · rw [if_neg hs] at hn; cases hn
theorem UN.ring {l : List Nc} {nm cur s : List UInt8} {met : List Nat} {pre : List (List UInt8)} (h : UN l nm met cur pre) (hn : nxt l cur = some s) (hm : s ∈ nm :: pre) : upL l nm = pre := by
  obtain ⟨p, hp, hs, hne⟩ := nxt_some hn
  have hu := h.ur
  rw [hp] at hu
  by_cases hc : s = cur
  · exact hu.ring (by rw [hs]; exact hne) (q := p) (by rw [hs, hc]; exact hp) (List.mem_cons_self ..)
  · obtain ⟨q, hq, hf⟩ := h.back s hm hc
    exact hu.ring (by rw [hs]; exact hne) (q := q) (by rw [hs]; exact hf) (List.mem_cons_of_mem _ hq)
theorem UN.next {l : List Nc} {nm cur s : List UInt8} {met : List Nat} {pre : List (List UInt8)} (h : UN l nm met cur pre) (hn : nxt l cur = some s) (hm : s ∉ nm :: pre) : ∃ p, UN l nm (p :: met) s (pre ++ [s]) := by
  obtain ⟨p, hp, hs, hne⟩ := nxt_some hn
  have hu := h.ur
  rw [hp] at hu
  have hcur : cur ∈ nm :: pre := List.mem_of_getLast? h.last
  have key : ∀ q, fstN l s = some q → q ∉ p :: met := fun q hq hin => by
    have hname : ∀ t, fstN l t = some q → t = s := fun t ht => by
      obtain ⟨c1, hc1, hn1, _⟩ := fstN_some ht
      obtain ⟨c2, hc2, hn2, _⟩ := fstN_some hq
      rw [hc1] at hc2
      injection hc2 with hc2
      rw [← hn1, hc2, hn2]
    rcases List.mem_cons.1 hin with rfl | hin
    · exact hm (hname cur hp ▸ hcur)
    · obtain ⟨t, ht, hf⟩ := h.here q hin
      exact hm (hname t hf ▸ ht)
  refine ⟨p, ?_, ?_, ?_, ?_⟩
  · have := hu.next (by rw [hs]; exact hne) (fun q hq => key q (by rw [hs] at hq; exact hq))
    rw [hs] at this
    exact this
  · show ((nm :: pre) ++ [s]).getLast? = some s
    rw [List.getLast?_append]
    rfl
  · intro q hq
    rcases List.mem_cons.1 hq with rfl | hq
    · exact ⟨cur, by rw [← List.cons_append]; exact List.mem_append_left _ hcur, hp⟩
    · obtain ⟨t, ht, hf⟩ := h.here q hq
      exact ⟨t, by rw [← List.cons_append]; exact List.mem_append_left _ ht, hf⟩
  · intro t ht hne2
    rw [← List.cons_append] at ht
    rcases List.mem_append.1 ht with ht | ht
    · by_cases hc : t = cur
      · exact ⟨p, List.mem_cons_self .., by rw [hc]; exact hp⟩
      · obtain ⟨q, hq, hf⟩ := h.back t ht hc
        exact ⟨q, List.mem_cons_of_mem _ hq, hf⟩
    · exact absurd (List.mem_singleton.1 ht) hne2
end Go.Proofs.YthenefjoidckkaaGreatDoor

/- The document's Above. -/
namespace Go.Proofs.YthenefjoidckkaaGreatDoor
open Go.RowKit Go.Shelf
set_option linter.unusedVariables false
set_option maxRecDepth 100000

theorem stc_inj : ∀ (a b : List (List UInt8)), a.flatMap stc = b.flatMap stc → a = b
  | [], [], _ => rfl
  | [], y :: b, h => by simp [stc] at h
  | x :: a, [], h => by simp [stc] at h
  | x :: a, y :: b, h => by
    simp only [List.flatMap_cons, stc, List.cons_append, List.nil_append] at h
    injection h with h1 h2
    injection h1 with h1
    injection h1 with h1
    rw [stc_inj a b h2]
    have := congrArg Array.toList h1
    simp at this
    rw [this]
theorem stc_take : ∀ (m : List (List UInt8)) (k : Nat), (m.flatMap stc).take k = (m.take k).flatMap stc
  | [], k => by simp
  | x :: m, 0 => by simp
  | x :: m, k + 1 => by
    simp only [List.flatMap_cons, stc, List.cons_append, List.nil_append, List.take_succ_cons]
    rw [← stc_take m k]
theorem orw_same {W : World} {b1 b2 : Nat} {vo vm : Value} {o m : List (List UInt8)} (h1 : Orw stc 9 1 W b1 vo o) (h2 : Orw stc 9 1 W b2 vm m) {k : Nat} (e1 : vo.ownBlock = some k) (e2 : vm.ownBlock = some k) (hl : o.length ≤ m.length) : o = m.take o.length := by
  rcases h1.2 with ⟨hv, _⟩ | ⟨g, cap, cur, hv, hb, hh, r1, r2, r3, r4⟩
  · rw [hv] at e1; cases e1
  rcases h2.2 with ⟨hv', _⟩ | ⟨g', cap', cur', hv', hb', hh', r1', r2', r3', r4'⟩
  · rw [hv'] at e2; cases e2
  rw [hv] at e1
  rw [hv'] at e2
  injection e1 with e1
  injection e2 with e2
  simp only at e1 e2
  subst e1
  subst e2
  rw [hh] at hh'
  injection hh' with hh'
  injection hh' with hh'
  subst hh'
  apply stc_inj
  rw [← r4, ← stc_take, ← r4', List.take_take, Nat.mul_one, Nat.mul_one, Nat.min_eq_left hl]
/-- Two rows of names, each in its place. -/
structure AB (w : World) (W : World) (vo vm : Value) (o m : List (List UInt8)) : Prop where
  out : Orw stc 9 1 W w.heap.size vo o
  met : Orw stc 9 1 W w.heap.size vm m
  ne : ∀ k, vo.ownBlock = some k → vm.ownBlock ≠ some k
  bel : Below w.heap.size w W
theorem AB.keep {w W : World} {vo vm : Value} {o m : List (List UInt8)} (h : AB w W vo vm o m) (t : Obj) : AB w (W.alloc t) vo vm o m :=
  ⟨orw_alloc h.out t, orw_alloc h.met t, h.ne, bA h.bel t⟩
theorem AB.outs {w W w1 : World} {vo vm vo' : Value} {o m : List (List UInt8)} {s : List UInt8} (h : AB w W vo vm o m) (ho : Orw stc 9 1 w1 w.heap.size vo' (o ++ [s])) (g : W.grownBy w1 vo.ownBlock) (hl : o.length + 1 = m.length) (hn : o ++ [s] ≠ m) : AB w w1 vo' vm (o ++ [s]) m := by
  have hm : Orw stc 9 1 w1 w.heap.size vm m := h.met.below fun k hk => g.block k (h.met.lt k hk).2 (fun e => h.ne k e.symm hk)
  refine ⟨ho, hm, fun k e1 e2 => ?_, grown_below h.bel h.out g⟩
  have := orw_same ho hm e1 e2 (by simp; omega)
  rw [List.take_of_length_le (by simp; omega)] at this
  exact hn this
theorem AB.mets {w W w1 : World} {vo vm vm' : Value} {o m : List (List UInt8)} {s : List UInt8} (h : AB w W vo vm o m) (hm : Orw stc 9 1 w1 w.heap.size vm' (m ++ [s])) (g : W.grownBy w1 vm.ownBlock) (hl : o.length = m.length) (hn : o ≠ m) : AB w w1 vo vm' o (m ++ [s]) := by
  have ho : Orw stc 9 1 w1 w.heap.size vo o := h.out.below fun k hk => g.block k (h.out.lt k hk).2 (fun e => h.ne k hk e.symm)
  refine ⟨ho, hm, fun k e1 e2 => ?_, grown_below h.bel h.met g⟩
  have := orw_same ho hm e1 e2 (by simp; omega)
  rw [hl, List.take_append_of_le_length (Nat.le_refl _), List.take_length] at this
  exact hn this
theorem not_front {nm s : List UInt8} {pre : List (List UInt8)} (h : s ∉ nm :: pre) : pre ++ [s] ≠ nm :: pre := fun e => h (by rw [← e]; simp)
def lenV : Value → Nat
  | .slice _ n _ => n
  | _ => 0
theorem Orw.lenV {α : Type} {cs : α → List Value} {e : TypeId} {sz : Nat} {w : World} {base : Nat} {v : Value} {l : List α} (h : Orw cs e sz w base v l) : lenV v = l.length := by
  obtain ⟨a, c, rfl, _⟩ := h.form
  rfl
/-- The Super of the first class of a name, from a place on. -/
def supD (l : List Nc) (k : Nat) (cur : List UInt8) : List UInt8 := (((l.drop k).find? (fun c => decide (c.name = cur))).map Nc.sup).getD []
theorem supD_end (l : List Nc) (cur : List UInt8) : supD l l.length cur = [] := by simp [supD]
theorem supD_hit {l : List Nc} {k : Nat} {cur : List UInt8} {c : Nc} (h : l[k]? = some c) (e : c.name = cur) : supD l k cur = c.sup := by
  obtain ⟨hk, h⟩ := List.getElem?_eq_some_iff.1 h
  unfold supD
  rw [List.drop_eq_getElem_cons hk, h]
  simp [e]
theorem supD_miss {l : List Nc} {k : Nat} {cur : List UInt8} {c : Nc} (h : l[k]? = some c) (e : c.name ≠ cur) : supD l k cur = supD l (k + 1) cur := by
  obtain ⟨hk, h⟩ := List.getElem?_eq_some_iff.1 h
  unfold supD
  rw [List.drop_eq_getElem_cons hk, h]
  simp [e]
theorem supD_nxt (l : List Nc) (cur : List UInt8) : nxt l cur = if supD l 0 cur = [] then none else some (supD l 0 cur) := by
  unfold nxt supD
  rw [List.drop_zero]
  cases hp : fstN l cur with
  | none =>
    have h0 : l.find? (fun c => decide (c.name = cur)) = none := by
      unfold fstN at hp
      rw [List.findIdx?_eq_none_iff] at hp
      rw [List.find?_eq_none]
      intro c hc
      simpa using hp c hc
    rw [h0]
    rfl
  | some p =>
    have h0 : l.find? (fun c => decide (c.name = cur)) = l[p]? := by
      unfold fstN at hp
      rw [List.findIdx?_eq_some_iff_getElem] at hp
      obtain ⟨hk, h1, h2⟩ := hp
      rw [List.getElem?_eq_getElem hk, List.find?_eq_some_iff_getElem]
      exact ⟨h1, p, hk, rfl, fun j hj => by simpa using h2 j hj⟩
    rw [h0]
    rfl
set_option maxHeartbeats 1600000 in
theorem x10Above_any (w : World) (a : Option Addr) (n c : Nat) (l : List Nc) (h : Ls 5 ncc w a n l) (hn : n ≤ 40) (N : ByteArray) (nm : List UInt8) (hN : Str N nm) :
    Calls Tryz.prog 34 #[.slice a n c, .string N] w fun e w' => ∃ v, e = .returned v ∧ Orw stc 9 1 w' w.heap.size v (upL l nm) ∧ Below w.heap.size w w' := by
  have hln := h.1
  have HL := hide h
  have HLN := hide hln
  obtain ⟨rfl⟩ := hN
  clear h
  generalize hPO : (fun (e : Ending) (w' : World) => ∃ v, e = .returned v ∧ Orw stc 9 1 w' w.heap.size v (upL l nm) ∧ Below w.heap.size w w') = PO
  have HPO : Hid (∀ v w', Orw stc 9 1 w' w.heap.size v (upL l nm) → Below w.heap.size w w' → PO (.returned v) w') := fun v w' h1 h2 => by rw [← hPO]; exact ⟨v, rfl, h1, h2⟩
  clear hPO hln
  go_enter Tryz.func34, Tryz.ntmps34
  go_wp2
  have A0 : Hid (AB w ((w.alloc (.cells #[] 9)).alloc (.cells #[.string ⟨nm.toArray⟩] 9)) (.slice (some ⟨w.heap.size, 0, none⟩) 0 0) (.slice (some ⟨w.heap.size + 1, 0, none⟩) 1 1) [] [nm]) := by
    refine ⟨orw_alloc (Orw.made _ _ _ _ _ (Nat.le_refl _)) _, ⟨rfl, .inr ⟨w.heap.size + 1, 1, #[.string ⟨nm.toArray⟩], rfl, by omega, ?_, by simp, by unfold maxLen; omega, rfl, rfl⟩⟩, fun k e1 e2 => ?_, bA (bA (Below.refl _ _) _) _⟩
    · have t := heap_alloc_last (w.alloc (.cells #[] 9)) (.cells #[.string ⟨nm.toArray⟩] 9)
      rw [show (w.alloc (.cells #[] 9)).heap.size = w.heap.size + 1 by simp] at t
      exact t
    · injection e1 with e1
      injection e2 with e2
      simp only at e1 e2
      omega
  generalize (w.alloc (.cells #[] 9)).alloc (.cells #[.string ⟨nm.toArray⟩] 9) = w0 at *
  go_loopw [1, 5, 6] (fun nmv vo vm wr => ∃ cur met pre, nmv = .string ⟨cur.toArray⟩ ∧ Hid (UN l nm met cur pre) ∧ Hid (AB w wr vo vm pre (nm :: pre))) (fun _ vo _ _ => n + 1 - lenV vo)
  case atStart => exact ⟨nm, [], [], rfl, UN.start l nm, A0⟩
  case round =>
    obtain ⟨cur, met, pre, rfl, HU, HA⟩ := hrel
    obtain ⟨C, hC⟩ := Str.of cur
    rw [← hC.eq]
    have HC := hide hC
    clear hC A0
    go_wp2
    go_loopw [7, 8] (fun sv i W => ∃ k : Nat, k ≤ n ∧ i = .int .i64 ((k : Int) - 1) ∧ sv = .string ⟨(supD l k cur).toArray⟩ ∧ W = wr) (fun _ i _ => (intOf i + 1).toNat)
    case atStart => exact ⟨n, by omega, by go_num, by rw [← unhide HLN, supD_end], rfl⟩
    case round =>
      obtain ⟨k, hk, rfl, rfl, rfl⟩ := hrel
      cases k with
      | succ k =>
        have hk1 : (((k + 1 : Nat) : Int) - 1) = k := by omega
        rw [hk1]
        clear hk1
        obtain ⟨b1, o1, h1a, h1⟩ := Ls.row (unhide HL) (w' := wr) (by omega)
        subst h1a
        obtain ⟨r, hr⟩ : ∃ r, l[k]? = some r := ⟨_, List.getElem?_eq_getElem (by have := unhide HLN; omega)⟩
        have q1 := (h1 (unhide HA).bel k r hr) 1 _ rfl
        have q2 := (h1 (unhide HA).bel k r hr) 2 _ rfl
        have hlt : (k : Int) < (n : Int) := by omega
        have HHR := hide hr
        clear h1 hr
        by_cases he : r.name = cur
        · have e1 : (⟨r.name.toArray⟩ : ByteArray) = C := by rw [he, (unhide HC).eq]
          rw [e1] at q1
          have HS := hide (supD_hit (unhide HHR) he)
          clear he e1 HHR
          go_wp2
          go_roundw
          case rel => exact ⟨k, by omega, by go_num, by rw [unhide HS], (by first | rfl | trivial)⟩
          case measure => simp [intOf]
        · obtain ⟨s1, s2, s3⟩ := str_ne (A := ⟨r.name.toArray⟩) (B := C) ⟨rfl⟩ (unhide HC) he
          have HS := hide (supD_miss (unhide HHR) he)
          generalize (⟨r.name.toArray⟩ : ByteArray) = X at *
          clear he HHR
          go_wp2
          go_roundw
          case rel => exact ⟨k, by omega, by go_num, by rw [unhide HS], (by first | rfl | trivial)⟩
          case measure => simp [intOf]
      | zero =>
        have HX := hide (supD_nxt l cur)
        generalize supD l 0 cur = s at *
        by_cases hs : s = []
        · subst hs
          rw [if_pos rfl] at HX
          have HF := hide ((unhide HU).stop (unhide HX))
          go_wp2
          exact unhide HPO _ _ (by rw [unhide HF]; exact (unhide HA).out) (unhide HA).bel
        · rw [if_neg hs] at HX
          obtain ⟨S, hS⟩ := Str.of s
          rw [← hS.eq]
          have e1 : S.toList.isEmpty = false := by rw [hS.list]; cases s; exact absurd rfl hs; rfl
          have e2 : ¬ S.toList = [] := by rw [hS.list]; exact hs
          have e3 : (S.toList == []) = false := by rw [hS.list]; cases s; exact absurd rfl hs; rfl
          have HSS := hide hS
          clear hS hs
          obtain ⟨am, cm, em, _, hcm, _⟩ := (unhide HA).met.form
          have hml : (nm :: pre).length = pre.length + 1 := rfl
          obtain ⟨M, hM⟩ : ∃ M, M = pre.length + 1 := ⟨_, rfl⟩
          have HM := hide hM
          rw [hml, ← hM] at em
          subst em
          have HLM : Hid (Ls 1 stc wr am M (nm :: pre)) := by
            have := (unhide HA).met.ls rkS
            exact this
          have hM41 : M ≤ 41 := by have := (unhide HU).ur.few; have := unhide HLN; omega
          clear hml hM
          go_wp2
          go_loopw [9] (fun i W => ∃ k : Nat, k ≤ M ∧ i = .int .i64 k ∧ W = wr ∧ Hid (∀ j x, j < k → (nm :: pre)[j]? = some x → x ≠ s)) (fun i _ => M - (intOf i).toNat)
          case atStart => exact ⟨0, by omega, rfl, rfl, fun j x h => by omega⟩
          case round =>
            obtain ⟨k, hk, rfl, rfl, HR⟩ := hrel
            by_cases hlt : k < M
            · have hlt1 : (k : Int) < (M : Int) := by omega
              obtain ⟨b1, o1, h1a, h1⟩ := Ls.row (unhide HLM) (w' := wr) (by omega)
              subst h1a
              obtain ⟨r, hr⟩ : ∃ r, (nm :: pre)[k]? = some r := ⟨_, List.getElem?_eq_getElem (by have := unhide HM; simp; omega)⟩
              have q1 := (h1 (Below.refl _ _) k r hr) 0 _ rfl
              rw [Nat.mul_one, Nat.add_zero] at q1
              have HHR := hide hr
              clear h1 hr
              by_cases he : r = s
              · have e4 : (⟨r.toArray⟩ : ByteArray) = S := by rw [he, (unhide HSS).eq]
                rw [e4] at q1
                have HF := hide ((unhide HU).ring (unhide HX) (by rw [← he]; exact List.mem_of_getElem? (unhide HHR)))
                clear he e4 HR HHR
                go_wp2
                exact unhide HPO _ _ (by rw [unhide HF]; exact (unhide HA).out) (unhide HA).bel
              · obtain ⟨s1, s2, s3⟩ := str_ne (A := ⟨r.toArray⟩) (B := S) ⟨rfl⟩ (unhide HSS) he
                have HR' : Hid (∀ (j : Nat) x, j < k + 1 → (nm :: pre)[j]? = some x → x ≠ s) := fun j x hj hx => by
                  by_cases hjk : j = k
                  · subst hjk
                    rw [unhide HHR] at hx
                    injection hx with hx
                    rw [← hx]
                    exact he
                  · exact unhide HR j x (by omega) hx
                generalize (⟨r.toArray⟩ : ByteArray) = X at *
                clear he HR HHR
                go_wp2
                go_roundw
                case rel => exact ⟨k + 1, by omega, by go_num, (by first | rfl | trivial), HR'⟩
                case measure => simp [intOf]; omega
            · obtain rfl : k = M := by omega
              have HNI : Hid (s ∉ nm :: pre) := fun h => by
                obtain ⟨j, hj⟩ := List.getElem?_of_mem h
                exact unhide HR j s (by have := (List.getElem?_eq_some_iff.1 hj).1; have := unhide HM; simp at *; omega) hj rfl
              obtain ⟨p, hp⟩ := (unhide HU).next (unhide HX) (unhide HNI)
              have HU' := hide hp
              clear HR hp
              have hsm : (pre.length + 1) * 16 ≤ 140737488355328 := by have := unhide HM; omega
              have hsm2 : pre.length + 1 ≤ 140737488355328 := by omega
              have HS1 := hide hsm
              have HS2 := hide hsm2
              have hsm : ((nm :: pre).length + 1) * 16 ≤ 140737488355328 := by have := unhide HM; simp; omega
              have hsm2 : (nm :: pre).length + 1 ≤ 140737488355328 := by simp; omega
              have HS3 := hide hsm
              have HS4 := hide hsm2
              have HNF := hide (not_front (unhide HNI))
              have HLs : Hid (∀ W : World, Ls 1 stc (W.alloc (.cells #[.string S] 9)) (some ⟨W.heap.size, 0, none⟩) 1 [s]) := fun W => ls_one W _ _ s (by rw [(unhide HSS).eq]; rfl)
              clear hsm hsm2 HL HLM
              have HA1 := hide ((unhide HA).keep (.cells #[.string S] 9))
              go_wp2_with (at_builtin; refine listR_append rkS rfl _ _ rfl w.heap.size _ pre rfl (unhide HA1).out _ 1 1 [s] rfl (unhide HLs _) (fun e => by cases e) (unhide HS1) (unhide HS2) (unhide HA1).bel.size ?_)
              intro v1 w1 o1 g1
              have HA2 := hide ((unhide HA1).outs o1 g1 (by simp) (unhide HNF))
              clear o1 g1 HA1
              have HA3 := hide ((unhide HA2).keep (.cells #[.string S] 9))
              go_wp2_with (at_builtin; refine listR_append rkS rfl _ _ rfl w.heap.size _ (nm :: pre) rfl (unhide HA3).met _ 1 1 [s] rfl (unhide HLs _) (fun e => by cases e) (unhide HS3) (unhide HS4) (unhide HA3).bel.size ?_)
              intro v2 w2 o2 g2
              have HA4 := hide ((unhide HA3).mets o2 g2 (by simp) (unhide HNF))
              clear o2 g2 HA3
              go_wp2
              go_roundw
              case rel => exact ⟨s, p :: met, pre ++ [s], by rw [(unhide HSS).eq], HU', HA4⟩
              case measure =>
                have h1 := (unhide HA).out.lenV
                have h2 := (unhide HA2).out.lenV
                have h3 := (unhide HU').ur.few
                have h4 := unhide HLN
                simp at h2 h3 ⊢
                omega
end Go.Proofs.YthenefjoidckkaaGreatDoor

/- The document's May. -/
namespace Go.Proofs.YthenefjoidckkaaGreatDoor
open Go.RowKit Go.Shelf
set_option linter.unusedVariables false
set_option maxRecDepth 100000

def MayRk (f : Nat) : Prop := ∀ (w : World) (a : Option Addr) (n cap : Nat) (l : List Nc), Ls 5 ncc w a n l → n ≤ 40 → ∀ (X Y : ByteArray) (x y : Ty), Str X x.name → Str Y y.name → x.name.length ≤ f → x.name.length ≤ 140737488351232 → y.name.length ≤ 140737488351232 →
  Calls Tryz.prog 47 #[.slice a n cap, .agg #[.int .i64 x.kind, .string X], .agg #[.int .i64 y.kind, .string Y]] w fun e w' => e = .returned (.bool (mayP l f x y)) ∧ Below w.heap.size w w'
theorem elem_ok {t : Ty} (h : (elemP t).1.kind = 4) : (elemP t).2 = 0 := by
  unfold elemP at *
  split at h
  · split at h <;> simp_all
  · simp [ty0] at h
/-- The boxes of the two types. -/
theorem may_boxes (w : World) (kx ky : Int) (X Y : ByteArray) : ∃ w0, w0 = (w.alloc (.cells #[.int .i64 kx, .string X] 52)).alloc (.cells #[.int .i64 ky, .string Y] 52) ∧ Bx2c w0 w.heap.size (.int .i64 kx) (.string X) ∧ Bx2c w0 (w.heap.size + 1) (.int .i64 ky) (.string Y) ∧ Below w.heap.size w w0 := by
  refine ⟨_, rfl, (Bx2c.made _ _ _).keep (bA (Below.refl _ _) _), ?_, bA (bA (Below.refl _ _) _) _⟩
  have t := Bx2c.made (w.alloc (.cells #[.int .i64 kx, .string X] 52)) (.int .i64 ky) (.string Y)
  rw [show (w.alloc (.cells #[.int .i64 kx, .string X] 52)).heap.size = w.heap.size + 1 by simp] at t
  exact t
set_option maxHeartbeats 1600000 in
/-- Of two arrays. -/
theorem x10may_arr (f : Nat) (hM : ∀ g, g < f → MayRk g) (w : World) (a : Option Addr) (n cap : Nat) (l : List Nc) (hL : Ls 5 ncc w a n l) (hn : n ≤ 40) (X Y : ByteArray) (xn yn : List UInt8) (hX : Str X xn) (hY : Str Y yn) (hf : xn.length ≤ f) (hx : xn.length ≤ 140737488351232) (hy : yn.length ≤ 140737488351232) (h0 : 0 < xn.length)
    (JE : ∀ W, (binOp .eql 52 (.agg #[.int .i64 4, .string X]) (.agg #[.int .i64 4, .string Y])).run Tryz.prog W = .ok (.bool false) W) (hO : yn ≠ objN) (hax : arrB xn = true) (hay : arrB yn = true) :
    Calls Tryz.prog 47 #[.slice a n cap, .agg #[.int .i64 4, .string X], .agg #[.int .i64 4, .string Y]] w fun e w' => e = .returned (.bool (arrP l f ⟨4, xn⟩ ⟨4, yn⟩)) ∧ Below w.heap.size w w' := by
  have o1 : ¬ Y.toList = [79, 98, 106, 101, 99, 116] := by rw [hY.list]; exact hO
  have o2 : (Y.toList == [79, 98, 106, 101, 99, 116]) = false := by simpa using o1
  have HAX : Hid (∀ W, Calls Tryz.prog 48 #[.string X] W fun e w' => e = .returned (.bool true) ∧ w' = W) := fun W => by have := x10array_any W X xn hX; rw [hax] at this; exact this
  have HAY : Hid (∀ W, Calls Tryz.prog 48 #[.string Y] W fun e w' => e = .returned (.bool true) ∧ w' = W) := fun W => by have := x10array_any W Y yn hY; rw [hay] at this; exact this
  obtain ⟨g, rfl⟩ : ∃ g, f = g + 1 := ⟨f - 1, by omega⟩
  have HE1 : Hid (∀ W, Calls Tryz.prog 66 #[.agg #[.int .i64 4, .string X]] W fun e w' => e = .returned (.tuple #[tyV (elemP ⟨4, xn⟩).1, .int .i64 (elemP ⟨4, xn⟩).2]) ∧ Below W.heap.size W w') := fun W => x10Elem_any W 4 X xn hX hx
  have HE2 : Hid (∀ W, Calls Tryz.prog 66 #[.agg #[.int .i64 4, .string Y]] W fun e w' => e = .returned (.tuple #[tyV (elemP ⟨4, yn⟩).1, .int .i64 (elemP ⟨4, yn⟩).2]) ∧ Below W.heap.size W w') := fun W => x10Elem_any W 4 Y yn hY hy
  have e1 := elem_len ⟨4, xn⟩
  have e2 := elem_len ⟨4, yn⟩
  have k1 := @elem_ok ⟨4, xn⟩
  have k2 := @elem_ok ⟨4, yn⟩
  simp only at e1 e2
  show Calls _ _ _ _ fun e w' => e = .returned (.bool (decide ((elemP ⟨4, xn⟩).1.kind = 4) && decide ((elemP ⟨4, yn⟩).1.kind = 4) && mayP l g (elemP ⟨4, xn⟩).1 (elemP ⟨4, yn⟩).1)) ∧ Below w.heap.size w w'
  generalize elemP ⟨4, xn⟩ = ex at *
  generalize elemP ⟨4, yn⟩ = ey at *
  obtain ⟨⟨ak, an⟩, ae⟩ := ex
  obtain ⟨⟨bk, bn⟩, be⟩ := ey
  unfold tyV at HE1 HE2
  simp only at HE1 HE2 e1 e2 k1 k2 ⊢
  obtain ⟨A, hA⟩ := Str.of an
  obtain ⟨B, hB⟩ := Str.of bn
  rw [← hA.eq] at HE1
  rw [← hB.eq] at HE2
  have HMY : Hid (∀ W, Below w.heap.size w W → Calls Tryz.prog 47 #[.slice a n cap, .agg #[.int .i64 ak, .string A], .agg #[.int .i64 bk, .string B]] W fun e w' => e = .returned (.bool (mayP l g ⟨ak, an⟩ ⟨bk, bn⟩)) ∧ Below W.heap.size W w') := fun W fW => hM g (by omega) W a n cap l (hL.below fW) hn A B ⟨ak, an⟩ ⟨bk, bn⟩ hA hB (by simp only; omega) (by simp only; omega) (by simp only; omega)
  obtain ⟨R, hR⟩ : ∃ R, R = (decide (ak = 4) && decide (bk = 4) && mayP l g ⟨ak, an⟩ ⟨bk, bn⟩) := ⟨_, rfl⟩
  rw [← hR]
  have HR := hide hR
  clear hM hL hX hY hA hB hR
  generalize mayP l g ⟨ak, an⟩ ⟨bk, bn⟩ = mv at *
  obtain ⟨w0, hw0, hB1, hB2, f0⟩ := may_boxes w 4 4 X Y
  have HW0 := hide hw0
  have BY := hide hB2
  have F0 := hide f0
  obtain ⟨x0, x1, x2⟩ := hB1.cells
  obtain ⟨z0, z1, z2⟩ := hB2.cells
  clear hw0 hB1 hB2 f0
  go_enter Tryz.func47, Tryz.ntmps47
  go_wp2_with fail
  rw [← unhide HW0]
  refine (unhide HAX _).mono ?_
  rintro e w1 ⟨rfl, rfl⟩
  go_wp2_with fail
  refine (unhide HAY _).mono ?_
  rintro e w1 ⟨rfl, rfl⟩
  go_wp2_with fail
  refine (unhide HE1 _).mono ?_
  rintro e w2 ⟨rfl, f1⟩
  have b1 : Bx2c (w2.alloc (.cells #[.int .i64 ak, .string A] 52)) (w.heap.size + 1) (.int .i64 4) (.string Y) := ((unhide BY).keep f1).keep (bA (Below.refl _ _) _)
  have g1 : Below w.heap.size w (w2.alloc (.cells #[.int .i64 ak, .string A] 52)) := bA ((unhide F0).trans (f1.mono (unhide F0).size)) _
  have ba : Bx2c (w2.alloc (.cells #[.int .i64 ak, .string A] 52)) w2.heap.size (.int .i64 ak) (.string A) := Bx2c.made _ _ _
  obtain ⟨y0, y1, y2⟩ := b1.cells
  have BA := hide ba
  have G1 := hide g1
  clear f1 b1 g1 ba x0 x1 x2 z0 z1 z2
  go_wp2_with fail
  refine (unhide HE2 _).mono ?_
  rintro e w3 ⟨rfl, f2⟩
  have ba2 : Bx2c (w3.alloc (.cells #[.int .i64 bk, .string B] 52)) w2.heap.size (.int .i64 ak) (.string A) := ((unhide BA).keep f2).keep (bA (Below.refl _ _) _)
  have bb2 : Bx2c (w3.alloc (.cells #[.int .i64 bk, .string B] 52)) w3.heap.size (.int .i64 bk) (.string B) := Bx2c.made _ _ _
  have g2 : Below w.heap.size w (w3.alloc (.cells #[.int .i64 bk, .string B] 52)) := bA ((unhide G1).trans (f2.mono (unhide G1).size)) _
  clear y0 y1 y2
  obtain ⟨a0, a1, a2⟩ := ba2.cells
  obtain ⟨b0, b1, b2⟩ := bb2.cells
  have G2 := hide g2
  clear f2 ba2 bb2 g2
  by_cases ha : ak = 4
  case neg =>
    have ha1 : (ak == 4) = false := by simpa using ha
    have HRF : Hid (R = false) := by show R = false; rw [unhide HR, decide_eq_false ha]; rfl
    clear k1 k2
    by_cases hae : ae = 0
    · subst hae
      by_cases hbe : be = 0
      · subst hbe
        go_wp2
        go_ret
        exact ⟨congrArg (fun b => Ending.returned (.bool b)) (unhide HRF).symm, unhide G2⟩
      · have hbe1 : (be == 0) = false := by simpa using hbe
        go_wp2
        go_ret
        exact ⟨congrArg (fun b => Ending.returned (.bool b)) (unhide HRF).symm, unhide G2⟩
    · have hae1 : (ae == 0) = false := by simpa using hae
      go_wp2
      go_ret
      exact ⟨congrArg (fun b => Ending.returned (.bool b)) (unhide HRF).symm, unhide G2⟩
  subst ha
  have k1' := k1 rfl
  subst k1'
  clear k1
  by_cases hb : bk = 4
  case neg =>
    have hb1 : (bk == 4) = false := by simpa using hb
    have HRF : Hid (R = false) := by show R = false; rw [unhide HR, decide_eq_false hb]; simp
    clear k2
    by_cases hbe : be = 0
    · subst hbe
      go_wp2
      go_ret
      exact ⟨congrArg (fun b => Ending.returned (.bool b)) (unhide HRF).symm, unhide G2⟩
    · have hbe1 : (be == 0) = false := by simpa using hbe
      go_wp2
      go_ret
      exact ⟨congrArg (fun b => Ending.returned (.bool b)) (unhide HRF).symm, unhide G2⟩
  subst hb
  have k2' := k2 rfl
  subst k2'
  clear k2
  have HRF : Hid (R = mv) := by show R = mv; rw [unhide HR]; simp
  have HM2 := hide (unhide HMY _ (unhide G2))
  go_wp2_with fail
  refine (unhide HM2).mono ?_
  rintro e w4 ⟨rfl, f4⟩
  have G4 := hide ((unhide G2).trans (f4.mono (unhide G2).size))
  clear f4 HM2
  go_wp2
  go_ret
  exact ⟨congrArg (fun b => Ending.returned (.bool b)) (unhide HRF).symm, unhide G4⟩
end Go.Proofs.YthenefjoidckkaaGreatDoor

/- The document's May, whole. -/
namespace Go.Proofs.YthenefjoidckkaaGreatDoor
open Go.RowKit Go.Shelf
set_option linter.unusedVariables false
set_option maxRecDepth 100000

set_option maxHeartbeats 1600000 in
theorem x10may_obj (w : World) (v : Value) (X : ByteArray) (JE : ∀ W, (binOp .eql 52 (.agg #[.int .i64 4, .string X]) (.agg #[.int .i64 4, .string ⟨#[79, 98, 106, 101, 99, 116]⟩])).run Tryz.prog W = .ok (.bool false) W) :
    Calls Tryz.prog 47 #[v, .agg #[.int .i64 4, .string X], .agg #[.int .i64 4, .string ⟨objN.toArray⟩]] w fun e w' => e = .returned (.bool true) ∧ Below w.heap.size w w' := by
  show Calls Tryz.prog 47 #[v, .agg #[.int .i64 4, .string X], .agg #[.int .i64 4, .string ⟨#[79, 98, 106, 101, 99, 116]⟩]] w fun e w' => e = .returned (.bool true) ∧ Below w.heap.size w w'
  go_enter Tryz.func47, Tryz.ntmps47
  go_wp2
  go_ret
  exact ⟨rfl, bA (bA (Below.refl _ _) _) _⟩
set_option maxHeartbeats 1600000 in
/-- An array and a class. -/
theorem x10may_mix (w : World) (v : Value) (X Y : ByteArray) (xn yn : List UInt8) (hX : Str X xn) (hY : Str Y yn)
    (JE : ∀ W, (binOp .eql 52 (.agg #[.int .i64 4, .string X]) (.agg #[.int .i64 4, .string Y])).run Tryz.prog W = .ok (.bool false) W) (hO : yn ≠ objN) (hax : arrB xn ≠ arrB yn) :
    Calls Tryz.prog 47 #[v, .agg #[.int .i64 4, .string X], .agg #[.int .i64 4, .string Y]] w fun e w' => e = .returned (.bool false) ∧ Below w.heap.size w w' := by
  have o1 : ¬ Y.toList = [79, 98, 106, 101, 99, 116] := by rw [hY.list]; exact hO
  have o2 : (Y.toList == [79, 98, 106, 101, 99, 116]) = false := by simpa using o1
  have HAX : Hid (∀ W, Calls Tryz.prog 48 #[.string X] W fun e w' => e = .returned (.bool (arrB xn)) ∧ w' = W) := fun W => x10array_any W X xn hX
  have HAY : Hid (∀ W, Calls Tryz.prog 48 #[.string Y] W fun e w' => e = .returned (.bool (arrB yn)) ∧ w' = W) := fun W => x10array_any W Y yn hY
  clear hX hY hO
  generalize arrB xn = p at *
  generalize arrB yn = q at *
  cases p <;> cases q
  · exact absurd rfl hax
  · go_enter Tryz.func47, Tryz.ntmps47
    go_wp2_with fail
    refine (unhide HAX _).mono ?_
    rintro e w1 ⟨rfl, rfl⟩
    go_wp2_with fail
    refine (unhide HAX _).mono ?_
    rintro e w1 ⟨rfl, rfl⟩
    go_wp2_with fail
    refine (unhide HAY _).mono ?_
    rintro e w1 ⟨rfl, rfl⟩
    go_wp2
    go_ret
    exact ⟨rfl, bA (bA (Below.refl _ _) _) _⟩
  · go_enter Tryz.func47, Tryz.ntmps47
    go_wp2_with fail
    refine (unhide HAX _).mono ?_
    rintro e w1 ⟨rfl, rfl⟩
    go_wp2_with fail
    refine (unhide HAY _).mono ?_
    rintro e w1 ⟨rfl, rfl⟩
    go_wp2_with fail
    refine (unhide HAX _).mono ?_
    rintro e w1 ⟨rfl, rfl⟩
    go_wp2
    go_ret
    exact ⟨rfl, bA (bA (Below.refl _ _) _) _⟩
  · exact absurd rfl hax
theorem upF_few (l : List Nc) : ∀ (f : Nat) (met : List Nat) (p : Option Nat), met.Nodup → (∀ q ∈ met, q < l.length) → (∀ q, p = some q → q < l.length ∧ q ∉ met) → met.length + (upF l f met p).length ≤ l.length
  | 0, met, p, h1, h2, h3 => by simpa [upF] using nodup_le met _ h1 h2
  | f + 1, met, none, h1, h2, h3 => by simpa [upF] using nodup_le met _ h1 h2
  | f + 1, met, some p, h1, h2, h3 => by
    obtain ⟨hp, hpm⟩ := h3 p rfl
    have hnd : (p :: met).Nodup := List.nodup_cons.2 ⟨hpm, h1⟩
    have hlt : ∀ x ∈ p :: met, x < l.length := fun x hx => by
      rcases List.mem_cons.1 hx with rfl | hx
      · exact hp
      · exact h2 x hx
    have hle := nodup_le (p :: met) _ hnd hlt
    simp only [List.length_cons] at hle
    unfold upF
    split
    · simp; omega
    · split
      · simp; omega
      · rename_i q hq
        split
        · simp; omega
        · rename_i hm
          have := upF_few l f (p :: met) (some q) hnd hlt (fun q' e => by
            injection e with e
            subst e
            obtain ⟨_, _, _, hk⟩ := fstN_some hq
            exact ⟨hk, hm⟩)
          simp only [List.length_cons] at this ⊢
          omega
theorem upL_few (l : List Nc) (nm : List UInt8) : (upL l nm).length ≤ l.length := by
  have := upF_few l (l.length + 1) [] (fstN l nm) List.nodup_nil (fun q h => by simp at h) (fun q h => by obtain ⟨_, _, _, hk⟩ := fstN_some h; exact ⟨hk, by simp⟩)
  simpa [upL] using this
set_option maxHeartbeats 1600000 in
/-- Two classes. -/
theorem x10may_cls (w : World) (a : Option Addr) (n cap : Nat) (l : List Nc) (hL : Ls 5 ncc w a n l) (hn : n ≤ 40) (X Y : ByteArray) (xn yn : List UInt8) (hX : Str X xn) (hY : Str Y yn)
    (JE : ∀ W, (binOp .eql 52 (.agg #[.int .i64 4, .string X]) (.agg #[.int .i64 4, .string Y])).run Tryz.prog W = .ok (.bool false) W) (hO : yn ≠ objN) (hax : arrB xn = false) (hay : arrB yn = false) :
    Calls Tryz.prog 47 #[.slice a n cap, .agg #[.int .i64 4, .string X], .agg #[.int .i64 4, .string Y]] w fun e w' => e = .returned (.bool (decide (yn ∈ upL l xn))) ∧ Below w.heap.size w w' := by
  have o1 : ¬ Y.toList = [79, 98, 106, 101, 99, 116] := by rw [hY.list]; exact hO
  have o2 : (Y.toList == [79, 98, 106, 101, 99, 116]) = false := by simpa using o1
  have HAX : Hid (∀ W, Calls Tryz.prog 48 #[.string X] W fun e w' => e = .returned (.bool false) ∧ w' = W) := fun W => by have := x10array_any W X xn hX; rw [hax] at this; exact this
  have HAY : Hid (∀ W, Calls Tryz.prog 48 #[.string Y] W fun e w' => e = .returned (.bool false) ∧ w' = W) := fun W => by have := x10array_any W Y yn hY; rw [hay] at this; exact this
  have HAB : Hid (∀ W, Below w.heap.size w W → Calls Tryz.prog 34 #[.slice a n cap, .string X] W fun e w' => ∃ v, e = .returned v ∧ Orw stc 9 1 w' W.heap.size v (upL l xn) ∧ Below W.heap.size W w') := fun W f => x10Above_any W a n cap l (hL.below f) hn X xn hX
  have HYS := hide hY
  have HMU : Hid ((upL l xn).length ≤ 40) := by have h1 := (UR.start l xn).front; have := hL.1; show (upL l xn).length ≤ 40; exact Nat.le_trans (upL_few l xn) (by omega)
  obtain ⟨w0, hw0, hB1, hB2, f0⟩ := may_boxes w 4 4 X Y
  have HW0 := hide hw0
  have BY := hide hB2
  have F0 := hide f0
  obtain ⟨x0, x1, x2⟩ := hB1.cells
  obtain ⟨z0, z1, z2⟩ := hB2.cells
  clear hw0 hB1 hB2 f0 hL hX hY hO
  generalize hPO : (fun (e : Ending) (w' : World) => e = .returned (.bool (decide (yn ∈ upL l xn))) ∧ Below w.heap.size w w') = PO
  have HPO : Hid (∀ b w', b = decide (yn ∈ upL l xn) → Below w.heap.size w w' → PO (.returned (.bool b)) w') := fun b w' h1 h2 => by rw [← hPO, h1]; exact ⟨rfl, h2⟩
  clear hPO
  generalize upL l xn = U at *
  go_enter Tryz.func47, Tryz.ntmps47
  go_wp2_with fail
  rw [← unhide HW0]
  refine (unhide HAX _).mono ?_
  rintro e w1 ⟨rfl, rfl⟩
  go_wp2_with fail
  refine (unhide HAX _).mono ?_
  rintro e w1 ⟨rfl, rfl⟩
  go_wp2_with fail
  refine (unhide HAY _).mono ?_
  rintro e w1 ⟨rfl, rfl⟩
  go_wp2_with fail
  refine (unhide HAB _ (unhide F0)).mono ?_
  rintro e w2 ⟨v, rfl, hO, f2⟩
  obtain ⟨am, cm, rfl, _, hcm, _⟩ := hO.form
  have hls := hO.ls rkS
  obtain ⟨M, hM⟩ : ∃ M, M = U.length := ⟨_, rfl⟩
  rw [← hM] at hls hcm ⊢
  have HM := hide hM
  have HLS := hide hls
  have BY2 := hide ((unhide BY).keep f2)
  have F2 := hide ((unhide F0).trans (f2.mono (unhide F0).size))
  clear x0 x1 x2 z0 z1 z2 f2 hls hO hM
  go_wp2
  obtain ⟨SS, hSS⟩ : ∃ SS : World → Prop, SS = fun W => Below w2.heap.size w2 W := ⟨_, rfl⟩
  have KI : Hid (∀ W, Below w2.heap.size w2 W → SS W) := fun W f => by rw [hSS]; exact f
  have KB : Hid (∀ W, SS W → Below w2.heap.size w2 W) := fun W h => by rw [hSS] at h; exact h
  have hbd : M ≤ 140737488355328 := by have := unhide HMU; have := unhide HM; omega
  clear hSS
  go_loopw [12] (fun i W => ∃ k : Nat, k ≤ M ∧ i = .int .i64 k ∧ SS W ∧ Hid (∀ j x, j < k → U[j]? = some x → x ≠ yn)) (fun i _ => M - (intOf i).toNat)
  case atStart => exact ⟨0, by omega, rfl, unhide KI _ (Below.refl _ _), fun j x h => by omega⟩
  case round =>
    obtain ⟨k, hk, rfl, hSR, HR⟩ := hrel
    by_cases hlt : k < M
    · have hlt1 : (k : Int) < (M : Int) := by omega
      obtain ⟨b1, o1, h1a, h1⟩ := Ls.row (unhide HLS) (w' := w2) (by omega)
      subst h1a
      obtain ⟨r, hr⟩ : ∃ r, U[k]? = some r := ⟨_, List.getElem?_eq_getElem (by have := unhide HM; omega)⟩
      have HQ : Hid (∀ W, SS W → W.cell? ⟨b1, o1 + k, none⟩ = some (.string ⟨r.toArray⟩) ∧ Bx2c W (w.heap.size + 1) (.int .i64 4) (.string Y)) := fun W hW => by
        have q1 := (h1 (unhide KB W hW) k r hr) 0 _ rfl
        rw [Nat.mul_one, Nat.add_zero] at q1
        exact ⟨q1, (unhide BY2).keep (unhide KB W hW)⟩
      have HHR := hide hr
      clear h1 hr
      by_cases he : r = yn
      · have e4 : (⟨r.toArray⟩ : ByteArray) = Y := by rw [he, (unhide HYS).eq]
        rw [e4] at HQ
        have HF : Hid (true = decide (yn ∈ U)) := by
          show true = _
          symm
          rw [decide_eq_true_iff, ← he]
          exact List.mem_of_getElem? (unhide HHR)
        clear he e4 HR HHR
        go_wp2
        refine wp_region_seq SS (by kernel_rfl) (by kernel_rfl) (unhide KI _ (Below.drew (unhide KB _ hSR))) ?_
        repeat (first
          | (refine SeqDo.yields (v := ?_) (by rfl) ?_ ?_; rotate_left; (focus ((intro W hSW; obtain ⟨q1, q2, q3, q4⟩ := And.intro (unhide HQ W hSW).1 (unhide HQ W hSW).2.cells; go_simp) <;> with_reducible rfl)); simp only [Act.put, List.setIfInBounds_toArray, List.set_cons_zero, List.set_cons_succ]))
        intro W hSW
        have HB := hide ((unhide F2).trans ((unhide KB _ hSW).mono (unhide F2).size))
        go_wp2
        exact unhide HPO _ _ (unhide HF) (unhide HB)
      · obtain ⟨s1, s2, s3⟩ := str_ne (A := ⟨r.toArray⟩) (B := Y) ⟨rfl⟩ (unhide HYS) he
        have HR' : Hid (∀ (j : Nat) x, j < k + 1 → U[j]? = some x → x ≠ yn) := fun j x hj hx => by
          by_cases hjk : j = k
          · subst hjk
            rw [unhide HHR] at hx
            injection hx with hx
            rw [← hx]
            exact he
          · exact unhide HR j x (by omega) hx
        generalize (⟨r.toArray⟩ : ByteArray) = X' at *
        clear he HR HHR
        go_wp2
        refine wp_region_seq SS (by kernel_rfl) (by kernel_rfl) (unhide KI _ (Below.drew (unhide KB _ hSR))) ?_
        repeat (first
          | (refine SeqDo.yields (v := ?_) (by rfl) ?_ ?_; rotate_left; (focus ((intro W hSW; obtain ⟨q1, q2, q3, q4⟩ := And.intro (unhide HQ W hSW).1 (unhide HQ W hSW).2.cells; go_simp) <;> with_reducible rfl)); simp only [Act.put, List.setIfInBounds_toArray, List.set_cons_zero, List.set_cons_succ]))
        intro W hSW
        go_wp2
        go_roundw
        case rel => exact ⟨k + 1, by omega, by go_num, hSW, HR'⟩
        case measure => simp [intOf]; omega
    · obtain rfl : k = M := by omega
      have HF : Hid (false = decide (yn ∈ U)) := by
        show false = _
        symm
        rw [decide_eq_false_iff_not]
        intro h
        obtain ⟨j, hj⟩ := List.getElem?_of_mem h
        exact unhide HR j yn (by have := (List.getElem?_eq_some_iff.1 hj).1; have := unhide HM; omega) hj rfl
      have HB := hide ((unhide F2).trans ((unhide KB _ hSR).mono (unhide F2).size))
      clear HR
      go_wp2
      exact unhide HPO _ _ (unhide HF) (unhide HB)
set_option maxHeartbeats 1600000 in
/-- Not both references, or the same. -/
theorem x10may_flat (w : World) (v : Value) (X Y : ByteArray) (kx ky : Int) (de : Bool)
    (JE : ∀ W, (binOp .eql 52 (.agg #[.int .i64 kx, .string X]) (.agg #[.int .i64 ky, .string Y])).run Tryz.prog W = .ok (.bool de) W) (h : ky = 0 ∨ de = true ∨ ky ≠ 4 ∨ kx ≠ 4) :
    Calls Tryz.prog 47 #[v, .agg #[.int .i64 kx, .string X], .agg #[.int .i64 ky, .string Y]] w fun e w' => e = .returned (.bool (if ky = 0 ∨ de = true then true else if ky ≠ 4 then false else decide (kx = 3))) ∧ Below w.heap.size w w' := by
  have F0 : Hid (Below w.heap.size w ((w.alloc (.cells #[.int .i64 kx, .string X] 52)).alloc (.cells #[.int .i64 ky, .string Y] 52))) := bA (bA (Below.refl _ _) _) _
  by_cases y0 : ky = 0
  · subst y0
    rw [if_pos (.inl rfl)]
    clear h
    go_enter Tryz.func47, Tryz.ntmps47
    go_wp2
    go_ret
    exact ⟨rfl, unhide F0⟩
  have y0' : (ky == 0) = false := by simpa using y0
  cases de
  case true =>
    rw [if_pos (.inr rfl)]
    clear h
    go_enter Tryz.func47, Tryz.ntmps47
    go_wp2
    go_ret
    exact ⟨rfl, unhide F0⟩
  rw [if_neg (fun h => h.elim y0 (fun h => by cases h))]
  by_cases y4 : ky = 4
  case neg =>
    have y4' : (ky == 4) = false := by simpa using y4
    have y4'' : (ky != 4) = true := by simpa using y4
    rw [if_pos y4]
    clear h
    by_cases x3 : kx = 3
    · subst x3
      go_enter Tryz.func47, Tryz.ntmps47
      go_wp2
      go_ret
      exact ⟨rfl, unhide F0⟩
    have x3' : (kx == 3) = false := by simpa using x3
    by_cases x4 : kx = 4
    · subst x4
      go_enter Tryz.func47, Tryz.ntmps47
      go_wp2
      go_ret
      exact ⟨rfl, unhide F0⟩
    have x4' : (kx != 4) = true := by simpa using x4
    go_enter Tryz.func47, Tryz.ntmps47
    go_wp2
    go_ret
    exact ⟨rfl, unhide F0⟩
  subst y4
  rw [if_neg (by simp)]
  have x4 : kx ≠ 4 := by rcases h with h | h | h | h; exact absurd h (by decide); cases h; exact absurd rfl h; exact h
  clear h
  by_cases x3 : kx = 3
  · subst x3
    go_enter Tryz.func47, Tryz.ntmps47
    go_wp2
    go_ret
    exact ⟨rfl, unhide F0⟩
  have x3' : (kx == 3) = false := by simpa using x3
  have x4' : (kx != 4) = true := by simpa using x4
  rw [decide_eq_false x3]
  go_enter Tryz.func47, Tryz.ntmps47
  go_wp2
  go_ret
  exact ⟨rfl, unhide F0⟩
theorem x10may_step (f : Nat) (hM : ∀ g, g < f → MayRk g) : MayRk f := by
  intro w a n cap l hL hn X Y x y hX hY hf hx hy
  rw [mayP_is]
  have JE : ∀ W, (binOp .eql 52 (.agg #[.int .i64 x.kind, .string X]) (.agg #[.int .i64 y.kind, .string Y])).run Tryz.prog W = .ok (.bool (decide (x = y))) W := fun W => by
    rw [ty_cmp]
    congr 2
    rw [decide_eq_decide, hX.eq, hY.eq]
    obtain ⟨xk, xn⟩ := x
    obtain ⟨yk, yn⟩ := y
    simp
  obtain ⟨xk, xn⟩ := x
  obtain ⟨yk, yn⟩ := y
  simp only at *
  by_cases hc : yk = 0 ∨ decide ((⟨xk, xn⟩ : Ty) = ⟨yk, yn⟩) = true ∨ yk ≠ 4 ∨ xk ≠ 4
  · have := x10may_flat w (.slice a n cap) X Y xk yk _ JE hc
    refine this.mono ?_
    rintro e w' ⟨rfl, h⟩
    refine ⟨congrArg (fun b => Ending.returned (.bool b)) ?_, h⟩
    simp only [decide_eq_true_eq] at hc ⊢
    by_cases h1 : yk = 0 ∨ (⟨xk, xn⟩ : Ty) = ⟨yk, yn⟩
    · rw [if_pos h1, if_pos h1]
    · rw [if_neg h1, if_neg h1]
      by_cases h2 : yk ≠ 4
      · rw [if_pos h2, if_pos h2]
      · rw [if_neg h2, if_neg h2, if_pos (by rcases hc with h | h | h | h; exact absurd (.inl h) h1; exact absurd (.inr h) h1; exact absurd h h2; exact h)]
  · have hc' := hc
    simp only [decide_eq_true_eq, not_or, Decidable.not_not] at hc'
    obtain ⟨h1, h2, rfl, rfl⟩ := hc'
    rw [if_neg (fun h => h.elim h1 h2), if_neg (by simp), if_neg (by simp)]
    rw [decide_eq_false h2] at JE
    by_cases hO : yn = objN
    · subst hO
      rw [refP_yes (by rfl)]
      rw [hY.eq] at JE ⊢
      exact x10may_obj w _ X JE
    · by_cases hax : arrB xn = arrB yn
      · cases hx4 : arrB xn
        · rw [refP_cls (by exact hO) (by exact hx4) (by show arrB yn = false; rw [← hax]; exact hx4)]
          exact x10may_cls w a n cap l hL hn X Y xn yn hX hY JE hO hx4 (by rw [← hax]; exact hx4)
        · rw [refP_arr (by exact hO) (by exact hx4) (by show arrB yn = true; rw [← hax]; exact hx4)]
          exact x10may_arr f hM w a n cap l hL hn X Y xn yn hX hY hf hx hy (by obtain ⟨s, hs⟩ := arr_cons hx4; rw [hs]; simp) JE hO hx4 (by rw [← hax]; exact hx4)
      · rw [refP_no (by exact hO) (by exact hax)]
        exact x10may_mix w _ X Y xn yn hX hY JE hO hax
theorem x10May_any (f : Nat) : MayRk f := Nat.strongRecOn f x10may_step
end Go.Proofs.YthenefjoidckkaaGreatDoor

/- Layer 11, the document's side: may a frame stand for another. -/
namespace Go.Proofs.YthenefjoidckkaaGreatDoor
open Go.RowKit
set_option linter.unusedVariables false
set_option maxRecDepth 100000

set_option maxHeartbeats 1600000 in
theorem q11all_any (w : World) (a : Option Addr) (n cap : Nat) (l : List Nc) (hL : Ls 5 ncc w a n l) (hn : n ≤ 40)
    (a1 a2 : Option Addr) (n1 c1 n2 c2 : Nat) (u v : List Ty) (h1 : Ls 2 tyc w a1 n1 u) (h2 : Ls 2 tyc w a2 n2 v) (hu : ∀ x ∈ u, nmOk x) (hv : ∀ x ∈ v, nmOk x) (hs : n1 ≤ 1000000000000) :
    Calls Tryz.prog 33 #[.slice a n cap, .slice a1 n1 c1, .slice a2 n2 c2] w fun e w' => e = .returned (.bool (allM l u v)) ∧ Below w.heap.size w w' := by
  have hl1 := h1.1
  have hl2 := h2.1
  have H1 := hide h1
  have H2 := hide h2
  by_cases hnm : n1 = n2
  case neg =>
    have e1 : allM l u v = false := allM_len (by omega)
    have e2 : ((n1 : Int) != (n2 : Int)) = true := by simp; omega
    have e3 : ¬ (n1 : Int) = (n2 : Int) := by omega
    rw [e1]
    clear h1 h2 hL hu hv
    go_enter Tryz.func33, Tryz.ntmps33
    go_wp2
    go_ret
    exact ⟨rfl, Below.refl _ _⟩
  subst hnm
  have HC : Hid (∀ W, Below w.heap.size w W → ∀ (X Y : ByteArray) x y, X = ⟨x.name.toArray⟩ → Y = ⟨y.name.toArray⟩ → nmOk x → nmOk y → Calls Tryz.prog 47 #[.slice a n cap, .agg #[.int .i64 x.kind, .string X], .agg #[.int .i64 y.kind, .string Y]] W fun e w' => e = .returned (.bool (mayT l x y)) ∧ Below W.heap.size W w') := fun W f X Y x y hX hY hx hy =>
    x10May_any x.name.length W a n cap l (hL.below f) hn X Y x y ⟨hX⟩ ⟨hY⟩ (Nat.le_refl _) hx hy
  have HU := hide hu
  have HV := hide hv
  obtain ⟨D, hD⟩ : ∃ D, D = allM l u v := ⟨_, rfl⟩
  rw [← hD]
  have HD := hide hD
  clear h1 h2 hL hu hv hD
  go_enter Tryz.func33, Tryz.ntmps33
  go_wp2
  go_loopw [7] (fun vk W => ∃ k : Nat, k ≤ n1 ∧ vk = .int .i64 k ∧ Below w.heap.size w W ∧ Hid (∀ (j : Nat) x y, j < k → u[j]? = some x → v[j]? = some y → mayT l x y = true)) (fun vk _ => n1 - (intOf vk).toNat)
  case atStart => exact ⟨0, by omega, rfl, Below.refl _ _, fun j x y h => by omega⟩
  case round =>
    obtain ⟨k, hk, rfl, hR, HQ⟩ := hrel
    by_cases hlt : k < n1
    · have hlt1 : (k : Int) < (n1 : Int) := by omega
      have hk0 : (0 : Int) ≤ (k : Int) := by omega
      obtain ⟨b1, o1, h1a, g1⟩ := Ls.row (unhide H1) (w' := wr) (by omega)
      obtain ⟨b2, o2, h2a, g2⟩ := Ls.row (unhide H2) (w' := wr) (by omega)
      subst h1a h2a
      obtain ⟨x, hx⟩ : ∃ x, u[k]? = some x := ⟨_, List.getElem?_eq_getElem (by omega)⟩
      obtain ⟨y, hy⟩ : ∃ y, v[k]? = some y := ⟨_, List.getElem?_eq_getElem (by omega)⟩
      obtain ⟨X, hX⟩ : ∃ X : ByteArray, X = ⟨x.name.toArray⟩ := ⟨_, rfl⟩
      obtain ⟨Y, hY⟩ : ∃ Y : ByteArray, Y = ⟨y.name.toArray⟩ := ⟨_, rfl⟩
      have KC : Hid (∀ W, Below w.heap.size w W → W.cell? ⟨b1, o1 + k * 2, none⟩ = some (.int .i64 x.kind) ∧ W.cell? ⟨b1, o1 + k * 2 + 1, none⟩ = some (.string X) ∧ W.cell? ⟨b2, o2 + k * 2, none⟩ = some (.int .i64 y.kind) ∧ W.cell? ⟨b2, o2 + k * 2 + 1, none⟩ = some (.string Y)) := fun W f => by
        rw [hX, hY]
        exact ⟨(g1 f k x hx).zero, (g1 f k x hx) 1 _ rfl, (g2 f k y hy).zero, (g2 f k y hy) 1 _ rfl⟩
      have HS : Hid (∀ W, Below w.heap.size w W → Calls Tryz.prog 47 #[.slice a n cap, .agg #[.int .i64 x.kind, .string X], .agg #[.int .i64 y.kind, .string Y]] W fun e w' => e = .returned (.bool (mayT l x y)) ∧ Below W.heap.size W w') := fun W f => unhide HC W f X Y x y hX hY (unhide HU x (List.mem_of_getElem? hx)) (unhide HV y (List.mem_of_getElem? hy))
      have HX : Hid (mayT l x y = true → ∀ (j : Nat) x y, j < k + 1 → u[j]? = some x → v[j]? = some y → mayT l x y = true) := fun hxy j x' y' hj hx' hy' => by
        by_cases hjk : j = k
        · subst hjk
          rw [hx] at hx'
          rw [hy] at hy'
          injection hx' with hx'
          injection hy' with hy'
          rw [← hx', ← hy']
          exact hxy
        · exact unhide HQ j x' y' (by omega) hx' hy'
      have HY : Hid (mayT l x y = false → D = false) := fun hxy => by rw [unhide HD]; exact allM_no hx hy hxy
      have HR := hide hR
      clear g1 g2 hx hy hR HQ hX hY
      generalize hMR : mayT l x y = R at *
      clear hMR
      go_wp2
      refine wp_region_seq (fun W => Below w.heap.size w W) (by kernel_rfl) (by kernel_rfl) ((unhide HR).drew) ?_
      repeat (first
        | (refine SeqDo.yields (v := ?_) (by rfl) ?_ ?_; rotate_left; (focus ((intro W hSW; obtain ⟨c0, c1, d0, d1⟩ := unhide KC W hSW; go_simp) <;> with_reducible rfl)); simp only [Act.put, List.setIfInBounds_toArray, List.set_cons_zero, List.set_cons_succ])
        | (refine SeqDo.does (v := .bool R) (by rfl) (fun W hSW KK hKK => ?_) ?_; (focus (go_simp; go_wp2_with (go_at_call 47; refine (unhide HS _ hSW).mono ?_; rintro e W' ⟨rfl, fJ⟩); exact hKK.out _ (hSW.trans (fJ.mono hSW.size)))); simp only [Act.put, List.setIfInBounds_toArray, List.set_cons_zero, List.set_cons_succ]))
      intro W hSW
      have F4 := hide hSW
      clear hSW KC HS HR
      cases R with
      | true =>
        have HX' := hide (unhide HX rfl)
        clear HX HY
        go_wp2
        go_roundw
        case rel => exact ⟨k + 1, by omega, by go_num, unhide F4, HX'⟩
        case measure => simp [intOf]; omega
      | false =>
        have HY' := hide (unhide HY rfl)
        clear HX HY
        go_wp2
        go_ret
        exact ⟨by rw [unhide HY']; rfl, unhide F4⟩
    · obtain rfl : k = n1 := by omega
      have HT : Hid (D = true) := by
        show D = true
        rw [unhide HD]
        exact allM_true (by omega) fun j x y hx hy => unhide HQ j x y (by have := (List.getElem?_eq_some_iff.1 hx).1; omega) hx hy
      have F4 := hide hR
      clear HQ hR
      go_wp2
      go_ret
      exact ⟨by rw [unhide HT]; rfl, unhide F4⟩
set_option maxHeartbeats 800000 in
theorem q11May_any (w : World) (a : Option Addr) (n cap : Nat) (l : List Nc) (hL : Ls 5 ncc w a n l) (hn : n ≤ 40) (lo st lo2 st2 : Sl) (u1 v1 u2 v2 : List Ty) (h1 : FrIn w lo st u1 v1) (h2 : FrIn w lo2 st2 u2 v2) :
    Calls Tryz.prog 14 #[.slice a n cap, .agg #[lo.v, st.v], .agg #[lo2.v, st2.v]] w fun e w' => e = .returned (.bool (allM l u1 u2 && allM l v1 v2)) ∧ Below w.heap.size w w' := by
  obtain ⟨la, ln, lc⟩ := lo
  obtain ⟨sa, sn, sc⟩ := st
  obtain ⟨la2, ln2, lc2⟩ := lo2
  obtain ⟨sa2, sn2, sc2⟩ := st2
  unfold Sl.v
  obtain ⟨w2, hw2⟩ : ∃ w2, w2 = (w.alloc (.cells #[.slice la ln lc, .slice sa sn sc] 32)).alloc (.cells #[.slice la2 ln2 lc2, .slice sa2 sn2 sc2] 32) := ⟨_, rfl⟩
  have f2 : Below w.heap.size w w2 := by rw [hw2]; exact bA (bA (Below.refl _ _) _) _
  have hz1 : (w.alloc (.cells #[.slice la ln lc, .slice sa sn sc] 32)).heap.size = w.heap.size + 1 := by simp
  have hb0 : w2.heap[w.heap.size]? = some (.cells #[.slice la ln lc, .slice sa sn sc] 32 (0, 0)) := by rw [hw2]; exact (heap_alloc_old _ _ (by simp)).trans (heap_alloc_last _ _)
  have hb1 : w2.heap[w.heap.size + 1]? = some (.cells #[.slice la2 ln2 lc2, .slice sa2 sn2 sc2] 32 (0, 0)) := by rw [hw2]; have t := heap_alloc_last (w.alloc (.cells #[.slice la ln lc, .slice sa sn sc] 32)) (.cells #[.slice la2 ln2 lc2, .slice sa2 sn2 sc2] 32); rw [hz1] at t; exact t
  have KB : Hid (∀ W, Below w2.heap.size w2 W → W.cell? ⟨w.heap.size, 0, none⟩ = some (.slice la ln lc) ∧ W.cell? ⟨w.heap.size, 1, none⟩ = some (.slice sa sn sc) ∧ W.cell? ⟨w.heap.size + 1, 0, none⟩ = some (.slice la2 ln2 lc2) ∧ W.cell? ⟨w.heap.size + 1, 1, none⟩ = some (.slice sa2 sn2 sc2)) := fun W f => by
    have e0 := (f.block _ (lt_of_heap hb0)).trans hb0
    have e1 := (f.block _ (lt_of_heap hb1)).trans hb1
    exact ⟨bx_cell e0 0 _ rfl, bx_cell e0 1 _ rfl, bx_cell e1 0 _ rfl, bx_cell e1 1 _ rfl⟩
  have g1 := h1.below f2
  have g2 := h2.below f2
  have HA1 := hide (q11all_any w2 a n cap l (hL.below f2) hn la la2 ln lc ln2 lc2 u1 u2 g1.ll g2.ll g1.lok g2.lok g1.lon)
  have HA2 : Hid (∀ W, Below w2.heap.size w2 W → Calls Tryz.prog 33 #[.slice a n cap, .slice sa sn sc, .slice sa2 sn2 sc2] W fun e w' => e = .returned (.bool (allM l v1 v2)) ∧ Below W.heap.size W w') := fun W f => q11all_any W a n cap l ((hL.below f2).below f) hn sa sa2 sn sc sn2 sc2 v1 v2 (g1.below f).sl (g2.below f).sl g1.sok g2.sok g1.stn
  have HW2 := hide hw2
  have F2 := hide f2
  obtain ⟨c0, c1, c2, c3⟩ := unhide KB w2 (Below.refl _ _)
  clear h1 h2 g1 g2 hL hw2 f2 hb0 hb1
  generalize allM l u1 u2 = R1 at *
  generalize allM l v1 v2 = R2 at *
  go_enter Tryz.func14, Tryz.ntmps14
  go_upto_region 1 with fail
  rw [← unhide HW2]
  go_wp2_with fail
  clear c0 c1 c2 c3
  refine (unhide HA1).mono ?_
  rintro e w3 ⟨rfl, f3⟩
  have F3 := hide f3
  have F23 := hide ((unhide F2).trans (f3.mono (unhide F2).size))
  obtain ⟨c0, c1, c2, c3⟩ := unhide KB w3 f3
  clear f3 HA1
  cases R1 with
  | false =>
    go_wp2
    go_ret
    exact ⟨rfl, unhide F23⟩
  | true =>
    have HA3 := hide (unhide HA2 w3 (unhide F3))
    go_wp2_with fail
    refine (unhide HA3).mono ?_
    rintro e w4 ⟨rfl, f4⟩
    have F24 := hide ((unhide F23).trans (f4.mono (unhide F23).size))
    clear f4
    go_wp2
    go_ret
    exact ⟨by cases R2 <;> rfl, unhide F24⟩
end Go.Proofs.YthenefjoidckkaaGreatDoor
