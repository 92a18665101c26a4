/- Joined: KsN KsO. -/
import Derived.Test.YthenefjoidckkaaGreatDoorJK6

/- Going up by names, as the document's answer does it: the same list. -/
namespace Go.Proofs.YthenefjoidckkaaGreatDoor
open Go.RowKit
set_option linter.unusedVariables false

/-- What was met by its places is what was met by its names. -/
structure UN (l : List Nc) (nm : List UInt8) (met : List Nat) (cur : List UInt8) (pre : List (List UInt8)) : Prop where
  ur : UR l nm met (fstN l cur) pre
  last : (nm :: pre).getLast? = some cur
  here : ∀ p, p ∈ met → ∃ t ∈ nm :: pre, fstN l t = some p
  back : ∀ t ∈ nm :: pre, t ≠ cur → ∃ p ∈ met, fstN l t = some p
theorem UN.start (l : List Nc) (nm : List UInt8) : UN l nm [] nm [] :=
  ⟨UR.start l nm, rfl, fun p h => by simp at h, fun t ht hne => by simp at ht; exact absurd ht hne⟩
theorem nxt_some {l : List Nc} {nm s : List UInt8} (h : nxt l nm = some s) : ∃ p, fstN l nm = some p ∧ supAt l p = s ∧ s ≠ [] := by
  unfold nxt at h
  cases hp : fstN l nm with
  | none => rw [hp] at h; cases h
  | some p =>
    rw [hp] at h
    simp only at h
    by_cases hs : supAt l p = []
    · rw [if_pos hs] at h; cases h
    · rw [if_neg hs] at h
      injection h with h
      exact ⟨p, rfl, h, by rw [← h]; exact hs⟩
theorem UN.stop {l : List Nc} {nm cur : List UInt8} {met : List Nat} {pre : List (List UInt8)} (h : UN l nm met cur pre) (hn : nxt l cur = none) : upL l nm = pre := by
  have hu := h.ur
  unfold nxt at hn
  cases hp : fstN l cur with
  | none => rw [hp] at hu; exact hu.none
  | some p =>
    rw [hp] at hn hu
    simp only at hn
    by_cases hs : supAt l p = []
    · exact hu.ends hs
    · rw [if_neg hs] at hn; cases hn
theorem UN.ring {l : List Nc} {nm cur s : List UInt8} {met : List Nat} {pre : List (List UInt8)} (h : UN l nm met cur pre) (hn : nxt l cur = some s) (hm : s ∈ nm :: pre) : upL l nm = pre := by
  obtain ⟨p, hp, hs, hne⟩ := nxt_some hn
  have hu := h.ur
  rw [hp] at hu
  by_cases hc : s = cur
  · exact hu.ring (by rw [hs]; exact hne) (q := p) (by rw [hs, hc]; exact hp) (List.mem_cons_self ..)
  · obtain ⟨q, hq, hf⟩ := h.back s hm hc
    exact hu.ring (by rw [hs]; exact hne) (q := q) (by rw [hs]; exact hf) (List.mem_cons_of_mem _ hq)
theorem UN.next {l : List Nc} {nm cur s : List UInt8} {met : List Nat} {pre : List (List UInt8)} (h : UN l nm met cur pre) (hn : nxt l cur = some s) (hm : s ∉ nm :: pre) : ∃ p, UN l nm (p :: met) s (pre ++ [s]) := by
  obtain ⟨p, hp, hs, hne⟩ := nxt_some hn
  have hu := h.ur
  rw [hp] at hu
  have hcur : cur ∈ nm :: pre := List.mem_of_getLast? h.last
  have key : ∀ q, fstN l s = some q → q ∉ p :: met := fun q hq hin => by
    have hname : ∀ t, fstN l t = some q → t = s := fun t ht => by
      obtain ⟨c1, hc1, hn1, _⟩ := fstN_some ht
      obtain ⟨c2, hc2, hn2, _⟩ := fstN_some hq
      rw [hc1] at hc2
      injection hc2 with hc2
      rw [← hn1, hc2, hn2]
    rcases List.mem_cons.1 hin with rfl | hin
    · exact hm (hname cur hp ▸ hcur)
    · obtain ⟨t, ht, hf⟩ := h.here q hin
      exact hm (hname t hf ▸ ht)
  refine ⟨p, ?_, ?_, ?_, ?_⟩
  · have := hu.next (by rw [hs]; exact hne) (fun q hq => key q (by rw [hs] at hq; exact hq))
    rw [hs] at this
    exact this
  · show ((nm :: pre) ++ [s]).getLast? = some s
    rw [List.getLast?_append]
    rfl
  · intro q hq
    rcases List.mem_cons.1 hq with rfl | hq
    · exact ⟨cur, by rw [← List.cons_append]; exact List.mem_append_left _ hcur, hp⟩
    · obtain ⟨t, ht, hf⟩ := h.here q hq
      exact ⟨t, by rw [← List.cons_append]; exact List.mem_append_left _ ht, hf⟩
  · intro t ht hne2
    rw [← List.cons_append] at ht
    rcases List.mem_append.1 ht with ht | ht
    · by_cases hc : t = cur
      · exact ⟨p, List.mem_cons_self .., by rw [hc]; exact hp⟩
      · obtain ⟨q, hq, hf⟩ := h.back t ht hc
        exact ⟨q, List.mem_cons_of_mem _ hq, hf⟩
    · exact absurd (List.mem_singleton.1 ht) hne2
end Go.Proofs.YthenefjoidckkaaGreatDoor

/- The document's Above. -/
namespace Go.Proofs.YthenefjoidckkaaGreatDoor
open Go.RowKit Go.Shelf
set_option linter.unusedVariables false
set_option maxRecDepth 100000

theorem stc_inj : ∀ (a b : List (List UInt8)), a.flatMap stc = b.flatMap stc → a = b
  | [], [], _ => rfl
  | [], y :: b, h => by simp [stc] at h
  | x :: a, [], h => by simp [stc] at h
  | x :: a, y :: b, h => by
    simp only [List.flatMap_cons, stc, List.cons_append, List.nil_append] at h
    injection h with h1 h2
    injection h1 with h1
    injection h1 with h1
    rw [stc_inj a b h2]
    have := congrArg Array.toList h1
    simp at this
    rw [this]
theorem stc_take : ∀ (m : List (List UInt8)) (k : Nat), (m.flatMap stc).take k = (m.take k).flatMap stc
  | [], k => by simp
  | x :: m, 0 => by simp
  | x :: m, k + 1 => by
    simp only [List.flatMap_cons, stc, List.cons_append, List.nil_append, List.take_succ_cons]
    rw [← stc_take m k]
theorem orw_same {W : World} {b1 b2 : Nat} {vo vm : Value} {o m : List (List UInt8)} (h1 : Orw stc 9 1 W b1 vo o) (h2 : Orw stc 9 1 W b2 vm m) {k : Nat} (e1 : vo.ownBlock = some k) (e2 : vm.ownBlock = some k) (hl : o.length ≤ m.length) : o = m.take o.length := by
  rcases h1.2 with ⟨hv, _⟩ | ⟨g, cap, cur, hv, hb, hh, r1, r2, r3, r4⟩
  · rw [hv] at e1; cases e1
  rcases h2.2 with ⟨hv', _⟩ | ⟨g', cap', cur', hv', hb', hh', r1', r2', r3', r4'⟩
  · rw [hv'] at e2; cases e2
  rw [hv] at e1
  rw [hv'] at e2
  injection e1 with e1
  injection e2 with e2
  simp only at e1 e2
  subst e1
  subst e2
  rw [hh] at hh'
  injection hh' with hh'
  injection hh' with hh'
  subst hh'
  apply stc_inj
  rw [← r4, ← stc_take, ← r4', List.take_take, Nat.mul_one, Nat.mul_one, Nat.min_eq_left hl]
/-- Two rows of names, each in its place. -/
structure AB (w : World) (W : World) (vo vm : Value) (o m : List (List UInt8)) : Prop where
  out : Orw stc 9 1 W w.heap.size vo o
  met : Orw stc 9 1 W w.heap.size vm m
  ne : ∀ k, vo.ownBlock = some k → vm.ownBlock ≠ some k
  bel : Below w.heap.size w W
theorem AB.keep {w W : World} {vo vm : Value} {o m : List (List UInt8)} (h : AB w W vo vm o m) (t : Obj) : AB w (W.alloc t) vo vm o m :=
  ⟨orw_alloc h.out t, orw_alloc h.met t, h.ne, bA h.bel t⟩
theorem AB.outs {w W w1 : World} {vo vm vo' : Value} {o m : List (List UInt8)} {s : List UInt8} (h : AB w W vo vm o m) (ho : Orw stc 9 1 w1 w.heap.size vo' (o ++ [s])) (g : W.grownBy w1 vo.ownBlock) (hl : o.length + 1 = m.length) (hn : o ++ [s] ≠ m) : AB w w1 vo' vm (o ++ [s]) m := by
  have hm : Orw stc 9 1 w1 w.heap.size vm m := h.met.below fun k hk => g.block k (h.met.lt k hk).2 (fun e => h.ne k e.symm hk)
  refine ⟨ho, hm, fun k e1 e2 => ?_, grown_below h.bel h.out g⟩
  have := orw_same ho hm e1 e2 (by simp; omega)
  rw [List.take_of_length_le (by simp; omega)] at this
  exact hn this
theorem AB.mets {w W w1 : World} {vo vm vm' : Value} {o m : List (List UInt8)} {s : List UInt8} (h : AB w W vo vm o m) (hm : Orw stc 9 1 w1 w.heap.size vm' (m ++ [s])) (g : W.grownBy w1 vm.ownBlock) (hl : o.length = m.length) (hn : o ≠ m) : AB w w1 vo vm' o (m ++ [s]) := by
  have ho : Orw stc 9 1 w1 w.heap.size vo o := h.out.below fun k hk => g.block k (h.out.lt k hk).2 (fun e => h.ne k hk e.symm)
  refine ⟨ho, hm, fun k e1 e2 => ?_, grown_below h.bel h.met g⟩
  have := orw_same ho hm e1 e2 (by simp; omega)
  rw [hl, List.take_append_of_le_length (Nat.le_refl _), List.take_length] at this
  exact hn this
theorem not_front {nm s : List UInt8} {pre : List (List UInt8)} (h : s ∉ nm :: pre) : pre ++ [s] ≠ nm :: pre := fun e => h (by rw [← e]; simp)
def lenV : Value → Nat
  | .slice _ n _ => n
  | _ => 0
theorem Orw.lenV {α : Type} {cs : α → List Value} {e : TypeId} {sz : Nat} {w : World} {base : Nat} {v : Value} {l : List α} (h : Orw cs e sz w base v l) : lenV v = l.length := by
  obtain ⟨a, c, rfl, _⟩ := h.form
  rfl
/-- The Super of the first class of a name, from a place on. -/
def supD (l : List Nc) (k : Nat) (cur : List UInt8) : List UInt8 := (((l.drop k).find? (fun c => decide (c.name = cur))).map Nc.sup).getD []
theorem supD_end (l : List Nc) (cur : List UInt8) : supD l l.length cur = [] := by simp [supD]
theorem supD_hit {l : List Nc} {k : Nat} {cur : List UInt8} {c : Nc} (h : l[k]? = some c) (e : c.name = cur) : supD l k cur = c.sup := by
  obtain ⟨hk, h⟩ := List.getElem?_eq_some_iff.1 h
  unfold supD
  rw [List.drop_eq_getElem_cons hk, h]
  simp [e]
theorem supD_miss {l : List Nc} {k : Nat} {cur : List UInt8} {c : Nc} (h : l[k]? = some c) (e : c.name ≠ cur) : supD l k cur = supD l (k + 1) cur := by
  obtain ⟨hk, h⟩ := List.getElem?_eq_some_iff.1 h
  unfold supD
  rw [List.drop_eq_getElem_cons hk, h]
  simp [e]
theorem supD_nxt (l : List Nc) (cur : List UInt8) : nxt l cur = if supD l 0 cur = [] then none else some (supD l 0 cur) := by
  unfold nxt supD
  rw [List.drop_zero]
  cases hp : fstN l cur with
  | none =>
    have h0 : l.find? (fun c => decide (c.name = cur)) = none := by
      unfold fstN at hp
      rw [List.findIdx?_eq_none_iff] at hp
      rw [List.find?_eq_none]
      intro c hc
      simpa using hp c hc
    rw [h0]
    rfl
  | some p =>
    have h0 : l.find? (fun c => decide (c.name = cur)) = l[p]? := by
      unfold fstN at hp
      rw [List.findIdx?_eq_some_iff_getElem] at hp
      obtain ⟨hk, h1, h2⟩ := hp
      rw [List.getElem?_eq_getElem hk, List.find?_eq_some_iff_getElem]
      exact ⟨h1, p, hk, rfl, fun j hj => by simpa using h2 j hj⟩
    rw [h0]
    rfl
set_option maxHeartbeats 1600000 in
theorem x10Above_any (w : World) (a : Option Addr) (n c : Nat) (l : List Nc) (h : Ls 5 ncc w a n l) (hn : n ≤ 40) (N : ByteArray) (nm : List UInt8) (hN : Str N nm) :
    Calls Tryz.prog 34 #[.slice a n c, .string N] w fun e w' => ∃ v, e = .returned v ∧ Orw stc 9 1 w' w.heap.size v (upL l nm) ∧ Below w.heap.size w w' := by
  have hln := h.1
  have HL := hide h
  have HLN := hide hln
  obtain ⟨rfl⟩ := hN
  clear h
  generalize hPO : (fun (e : Ending) (w' : World) => ∃ v, e = .returned v ∧ Orw stc 9 1 w' w.heap.size v (upL l nm) ∧ Below w.heap.size w w') = PO
  have HPO : Hid (∀ v w', Orw stc 9 1 w' w.heap.size v (upL l nm) → Below w.heap.size w w' → PO (.returned v) w') := fun v w' h1 h2 => by rw [← hPO]; exact ⟨v, rfl, h1, h2⟩
  clear hPO hln
  go_enter Tryz.func34, Tryz.ntmps34
  go_wp2
  have A0 : Hid (AB w ((w.alloc (.cells #[] 9)).alloc (.cells #[.string ⟨nm.toArray⟩] 9)) (.slice (some ⟨w.heap.size, 0, none⟩) 0 0) (.slice (some ⟨w.heap.size + 1, 0, none⟩) 1 1) [] [nm]) := by
    refine ⟨orw_alloc (Orw.made _ _ _ _ _ (Nat.le_refl _)) _, ⟨rfl, .inr ⟨w.heap.size + 1, 1, #[.string ⟨nm.toArray⟩], rfl, by omega, ?_, by simp, by unfold maxLen; omega, rfl, rfl⟩⟩, fun k e1 e2 => ?_, bA (bA (Below.refl _ _) _) _⟩
    · have t := heap_alloc_last (w.alloc (.cells #[] 9)) (.cells #[.string ⟨nm.toArray⟩] 9)
      rw [show (w.alloc (.cells #[] 9)).heap.size = w.heap.size + 1 by simp] at t
      exact t
    · injection e1 with e1
      injection e2 with e2
      simp only at e1 e2
      omega
  generalize (w.alloc (.cells #[] 9)).alloc (.cells #[.string ⟨nm.toArray⟩] 9) = w0 at *
  go_loopw [1, 5, 6] (fun nmv vo vm wr => ∃ cur met pre, nmv = .string ⟨cur.toArray⟩ ∧ Hid (UN l nm met cur pre) ∧ Hid (AB w wr vo vm pre (nm :: pre))) (fun _ vo _ _ => n + 1 - lenV vo)
  case atStart => exact ⟨nm, [], [], rfl, UN.start l nm, A0⟩
  case round =>
    obtain ⟨cur, met, pre, rfl, HU, HA⟩ := hrel
    obtain ⟨C, hC⟩ := Str.of cur
    rw [← hC.eq]
    have HC := hide hC
    clear hC A0
    go_wp2
    go_loopw [7, 8] (fun sv i W => ∃ k : Nat, k ≤ n ∧ i = .int .i64 ((k : Int) - 1) ∧ sv = .string ⟨(supD l k cur).toArray⟩ ∧ W = wr) (fun _ i _ => (intOf i + 1).toNat)
    case atStart => exact ⟨n, by omega, by go_num, by rw [← unhide HLN, supD_end], rfl⟩
    case round =>
      obtain ⟨k, hk, rfl, rfl, rfl⟩ := hrel
      cases k with
      | succ k =>
        have hk1 : (((k + 1 : Nat) : Int) - 1) = k := by omega
        rw [hk1]
        clear hk1
        obtain ⟨b1, o1, h1a, h1⟩ := Ls.row (unhide HL) (w' := wr) (by omega)
        subst h1a
        obtain ⟨r, hr⟩ : ∃ r, l[k]? = some r := ⟨_, List.getElem?_eq_getElem (by have := unhide HLN; omega)⟩
        have q1 := (h1 (unhide HA).bel k r hr) 1 _ rfl
        have q2 := (h1 (unhide HA).bel k r hr) 2 _ rfl
        have hlt : (k : Int) < (n : Int) := by omega
        have HHR := hide hr
        clear h1 hr
        by_cases he : r.name = cur
        · have e1 : (⟨r.name.toArray⟩ : ByteArray) = C := by rw [he, (unhide HC).eq]
          rw [e1] at q1
          have HS := hide (supD_hit (unhide HHR) he)
          clear he e1 HHR
          go_wp2
          go_roundw
          case rel => exact ⟨k, by omega, by go_num, by rw [unhide HS], (by first | rfl | trivial)⟩
          case measure => simp [intOf]
        · obtain ⟨s1, s2, s3⟩ := str_ne (A := ⟨r.name.toArray⟩) (B := C) ⟨rfl⟩ (unhide HC) he
          have HS := hide (supD_miss (unhide HHR) he)
          generalize (⟨r.name.toArray⟩ : ByteArray) = X at *
          clear he HHR
          go_wp2
          go_roundw
          case rel => exact ⟨k, by omega, by go_num, by rw [unhide HS], (by first | rfl | trivial)⟩
          case measure => simp [intOf]
      | zero =>
        have HX := hide (supD_nxt l cur)
        generalize supD l 0 cur = s at *
        by_cases hs : s = []
        · subst hs
          rw [if_pos rfl] at HX
          have HF := hide ((unhide HU).stop (unhide HX))
          go_wp2
          exact unhide HPO _ _ (by rw [unhide HF]; exact (unhide HA).out) (unhide HA).bel
        · rw [if_neg hs] at HX
          obtain ⟨S, hS⟩ := Str.of s
          rw [← hS.eq]
          have e1 : S.toList.isEmpty = false := by rw [hS.list]; cases s; exact absurd rfl hs; rfl
          have e2 : ¬ S.toList = [] := by rw [hS.list]; exact hs
          have e3 : (S.toList == []) = false := by rw [hS.list]; cases s; exact absurd rfl hs; rfl
          have HSS := hide hS
          clear hS hs
          obtain ⟨am, cm, em, _, hcm, _⟩ := (unhide HA).met.form
          have hml : (nm :: pre).length = pre.length + 1 := rfl
          obtain ⟨M, hM⟩ : ∃ M, M = pre.length + 1 := ⟨_, rfl⟩
          have HM := hide hM
          rw [hml, ← hM] at em
          subst em
          have HLM : Hid (Ls 1 stc wr am M (nm :: pre)) := by
            have := (unhide HA).met.ls rkS
            exact this
          have hM41 : M ≤ 41 := by have := (unhide HU).ur.few; have := unhide HLN; omega
          clear hml hM
          go_wp2
          go_loopw [9] (fun i W => ∃ k : Nat, k ≤ M ∧ i = .int .i64 k ∧ W = wr ∧ Hid (∀ j x, j < k → (nm :: pre)[j]? = some x → x ≠ s)) (fun i _ => M - (intOf i).toNat)
          case atStart => exact ⟨0, by omega, rfl, rfl, fun j x h => by omega⟩
          case round =>
            obtain ⟨k, hk, rfl, rfl, HR⟩ := hrel
            by_cases hlt : k < M
            · have hlt1 : (k : Int) < (M : Int) := by omega
              obtain ⟨b1, o1, h1a, h1⟩ := Ls.row (unhide HLM) (w' := wr) (by omega)
              subst h1a
              obtain ⟨r, hr⟩ : ∃ r, (nm :: pre)[k]? = some r := ⟨_, List.getElem?_eq_getElem (by have := unhide HM; simp; omega)⟩
              have q1 := (h1 (Below.refl _ _) k r hr) 0 _ rfl
              rw [Nat.mul_one, Nat.add_zero] at q1
              have HHR := hide hr
              clear h1 hr
              by_cases he : r = s
              · have e4 : (⟨r.toArray⟩ : ByteArray) = S := by rw [he, (unhide HSS).eq]
                rw [e4] at q1
                have HF := hide ((unhide HU).ring (unhide HX) (by rw [← he]; exact List.mem_of_getElem? (unhide HHR)))
                clear he e4 HR HHR
                go_wp2
                exact unhide HPO _ _ (by rw [unhide HF]; exact (unhide HA).out) (unhide HA).bel
              · obtain ⟨s1, s2, s3⟩ := str_ne (A := ⟨r.toArray⟩) (B := S) ⟨rfl⟩ (unhide HSS) he
                have HR' : Hid (∀ (j : Nat) x, j < k + 1 → (nm :: pre)[j]? = some x → x ≠ s) := fun j x hj hx => by
                  by_cases hjk : j = k
                  · subst hjk
                    rw [unhide HHR] at hx
                    injection hx with hx
                    rw [← hx]
                    exact he
                  · exact unhide HR j x (by omega) hx
                generalize (⟨r.toArray⟩ : ByteArray) = X at *
                clear he HR HHR
                go_wp2
                go_roundw
                case rel => exact ⟨k + 1, by omega, by go_num, (by first | rfl | trivial), HR'⟩
                case measure => simp [intOf]; omega
            · obtain rfl : k = M := by omega
              have HNI : Hid (s ∉ nm :: pre) := fun h => by
                obtain ⟨j, hj⟩ := List.getElem?_of_mem h
                exact unhide HR j s (by have := (List.getElem?_eq_some_iff.1 hj).1; have := unhide HM; simp at *; omega) hj rfl
              obtain ⟨p, hp⟩ := (unhide HU).next (unhide HX) (unhide HNI)
              have HU' := hide hp
              clear HR hp
              have hsm : (pre.length + 1) * 16 ≤ 140737488355328 := by have := unhide HM; omega
              have hsm2 : pre.length + 1 ≤ 140737488355328 := by omega
              have HS1 := hide hsm
              have HS2 := hide hsm2
              have hsm : ((nm :: pre).length + 1) * 16 ≤ 140737488355328 := by have := unhide HM; simp; omega
              have hsm2 : (nm :: pre).length + 1 ≤ 140737488355328 := by simp; omega
              have HS3 := hide hsm
              have HS4 := hide hsm2
              have HNF := hide (not_front (unhide HNI))
              have HLs : Hid (∀ W : World, Ls 1 stc (W.alloc (.cells #[.string S] 9)) (some ⟨W.heap.size, 0, none⟩) 1 [s]) := fun W => ls_one W _ _ s (by rw [(unhide HSS).eq]; rfl)
              clear hsm hsm2 HL HLM
              have HA1 := hide ((unhide HA).keep (.cells #[.string S] 9))
              go_wp2_with (at_builtin; refine listR_append rkS rfl _ _ rfl w.heap.size _ pre rfl (unhide HA1).out _ 1 1 [s] rfl (unhide HLs _) (fun e => by cases e) (unhide HS1) (unhide HS2) (unhide HA1).bel.size ?_)
              intro v1 w1 o1 g1
              have HA2 := hide ((unhide HA1).outs o1 g1 (by simp) (unhide HNF))
              clear o1 g1 HA1
              have HA3 := hide ((unhide HA2).keep (.cells #[.string S] 9))
              go_wp2_with (at_builtin; refine listR_append rkS rfl _ _ rfl w.heap.size _ (nm :: pre) rfl (unhide HA3).met _ 1 1 [s] rfl (unhide HLs _) (fun e => by cases e) (unhide HS3) (unhide HS4) (unhide HA3).bel.size ?_)
              intro v2 w2 o2 g2
              have HA4 := hide ((unhide HA3).mets o2 g2 (by simp) (unhide HNF))
              clear o2 g2 HA3
              go_wp2
              go_roundw
              case rel => exact ⟨s, p :: met, pre ++ [s], by rw [(unhide HSS).eq], HU', HA4⟩
              case measure =>
                have h1 := (unhide HA).out.lenV
                have h2 := (unhide HA2).out.lenV
                have h3 := (unhide HU').ur.few
                have h4 := unhide HLN
                simp at h2 h3 ⊢
                omega
end Go.Proofs.YthenefjoidckkaaGreatDoor
