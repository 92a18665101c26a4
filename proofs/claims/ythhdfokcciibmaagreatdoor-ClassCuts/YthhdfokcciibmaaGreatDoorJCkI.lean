/- The landed class: types are written: writeList, narrow. -/
import Derived.Test.YthhdfokcciibmaaGreatDoorJCkH
import Derived.Test.YthhdfokcciibmaaGreatDoorJLsA

namespace Go.Proofs.YthhdfokcciibmaaGreatDoor
open Go.RowKit
set_option linter.unusedVariables false
set_option maxRecDepth 100000

set_option maxHeartbeats 6400000 in
theorem wlT_any (C : Cx) (F : Nat → Prop) (w : World) (bs : List UInt8) (h : Wt C F w bs) (s : Sl) (xs : List Ty) (M : Nat) (hL : ∀ W, (∃ bs', WtTo C F w bs' W) → Ls 2 tyc W s.a s.n xs) (hE : ∀ x ∈ xs, TyFit x ∧ okT C.l x = true) (hM : ∀ x ∈ xs, (tyB C.l x).length ≤ M) (hn : s.n ≤ 65535) (hbs : bs.length + 2 + s.n * M ≤ 90000000) :
    Calls Tryz.prog 142 #[C.v, s.v, .func (.func 144) #[C.v] #[]] w fun e w' => e = .returned (.tuple #[]) ∧ WtTo C F w (bs ++ (bytesW 2 (s.n : Int) ++ xs.flatMap (tyB C.l))) w' := by
  obtain ⟨a, n, c⟩ := s
  simp only at hL hn hbs ⊢
  have hln := (hL w ⟨_, WtG.start h F⟩).1
  obtain ⟨w1, e1, f1, K1⟩ := one_local w #[.pointer (some ⟨C.x, 0, none⟩), .pointer (some ⟨C.g, 0, none⟩)] 106
  have hW1 := h.below f1
  have S1 := WtG.start hW1 F
  have c0 := K1 w1 (Below.refl _ _) 0 _ rfl
  have hlen : ∀ k, k ≤ n → ((xs.take k).flatMap (tyB C.l)).length ≤ k * M := fun k => by
    induction k with
    | zero => intro _; simp
    | succ k ih =>
      intro hk
      obtain ⟨x, hx⟩ : ∃ x, xs[k]? = some x := ⟨_, List.getElem?_eq_getElem (by omega)⟩
      rw [List.take_add_one, hx, List.flatMap_append, List.length_append]
      have := ih (by omega)
      have := hM x (List.mem_of_getElem? hx)
      simp only [Option.toList, List.flatMap_cons, List.flatMap_nil, List.append_nil]
      rw [Nat.succ_mul]
      omega
  have HU : Hid (Calls Tryz.prog 57 #[.pointer (some ⟨C.x, 0, none⟩), .int .i64 2, .slice (some ⟨w1.heap.size, 0, none⟩) 1 1] (w1.alloc (.cells #[.int .i64 (n : Int)] 3)) fun e w' => e = .returned (.int .i64 0) ∧ WtTo C F w1 (bs ++ bytesW 2 (n : Int)) w') := by
    have := wt_u hW1 (W' := w1.alloc (.cells #[.int .i64 (n : Int)] 3)) ((Below.refl _ _).alloc (Nat.le_refl _) _) [(n : Int)] 1 2 rfl (fun j y hj => ints_at w1 [(n : Int)] _ rfl j y hj) (by decide) (fun y hy => by simp at hy; subst hy; exact fz2 (by omega)) (by omega) (by omega)
    exact hide (by simpa using this)
  have HL1 : Hid (∀ bs' W, WtTo C F w1 bs' W → WtTo C F w bs' W) := fun bs' W hT => WtG.leave h f1 hT (fun j hj => .inl hj)
  have HLL : Hid (∀ bs' W, WtTo C F w1 bs' W → Ls 2 tyc W a n xs) := fun bs' W hT => hL W ⟨_, unhide HL1 _ _ hT⟩
  have HO : Hid (∀ bs' W x, WtTo C F w1 bs' W → x ∈ xs → bs'.length ≤ 90000000 → Calls Tryz.prog 144 #[C.v, .agg #[.int .i64 x.kind, .string ⟨x.name.toArray⟩]] W fun e w' => e = .returned (.tuple #[]) ∧ WtTo C F w1 (bs' ++ tyB C.l x) w') := fun bs' W x hT hxm hb => by
    have hx := hE x hxm
    have hk5 := unhide HL1 _ _ hT
    exact hT.step (P := fun e => e = .returned (.tuple #[])) (fun _ h => h) (fun F1 hF1 => wKind_any C F1 _ _ hF1 x hx.1 hx.2 hb)
  have HLEN := hide hlen
  have E1 := hide e1
  have SS1 := hide S1
  clear h e1 hW1 S1 hlen hL hE hM f1 K1
  unfold Cx.v Sl.v
  simp only
  have e1 := unhide E1
  go_enter Tryz.func142, Tryz.ntmps142
  go_wp2_with fail
  refine (unhide HU).mono ?_
  rintro e w2 ⟨rfl, T2⟩
  have TT2 := hide T2
  clear e1 T2 HU c0
  go_wp2
  go_loopw [16] (fun i wr => ∃ k : Nat, k ≤ n ∧ i = .int .i64 k ∧ WtTo C F w1 (bs ++ (bytesW 2 (n : Int) ++ (xs.take k).flatMap (tyB C.l))) wr) (fun i _ => n - (intOf i).toNat)
  case atStart => exact ⟨0, by omega, rfl, by simpa using unhide TT2⟩
  case round =>
    obtain ⟨k, hk, rfl, hT⟩ := hrel
    by_cases hlt : k < n
    · have hlt1 : (k : Int) < (n : Int) := by omega
      have hk0 : (0 : Int) ≤ (k : Int) := by omega
      have hLs := unhide HLL _ _ hT
      obtain ⟨b1, o1, h1a, h1⟩ := Ls.row hLs (w' := wr) (by omega)
      subst h1a
      obtain ⟨x, hx1⟩ : ∃ x, xs[k]? = some x := ⟨_, List.getElem?_eq_getElem (by omega)⟩
      have q := h1 (Below.refl _ _) k x hx1
      have hstep : Hid (bs ++ (bytesW 2 (n : Int) ++ (xs.take (k + 1)).flatMap (tyB C.l)) = (bs ++ (bytesW 2 (n : Int) ++ (xs.take k).flatMap (tyB C.l))) ++ tyB C.l x) := by
        show bs ++ (bytesW 2 (n : Int) ++ (xs.take (k + 1)).flatMap (tyB C.l)) = _
        rw [List.take_add_one, hx1]
        simp
      have hbl : (bs ++ (bytesW 2 (n : Int) ++ (xs.take k).flatMap (tyB C.l))).length ≤ 90000000 := by
        have := unhide HLEN k (by omega)
        have h2 : (bytesW 2 (n : Int)).length = 2 := bytesW_len _ _
        have h3 : k * M ≤ n * M := Nat.mul_le_mul_right _ (by omega)
        rw [List.length_append, List.length_append, h2]
        omega
      have hxm := List.mem_of_getElem? hx1
      have c0 := q.zero
      have c1 := q 1 _ rfl
      have HP := hide (unhide HO _ (wr.alloc (.cells #[.int .i64 x.kind, .string ⟨x.name.toArray⟩] 143)) _ (hT.below ((Below.refl _ _).alloc (Nat.le_refl _) _)) hxm hbl)
      clear q h1 hx1 hT hLs hbl hxm
      unfold Cx.v at HP
      try simp only [Sl.v] at HP hstep
      generalize (⟨x.name.toArray⟩ : ByteArray) = s1 at *
      go_wp2_with fail
      refine (unhide HP).mono ?_
      rintro e w4 ⟨rfl, T4⟩
      have TT4 := hide T4
      clear HP T4
      go_wp2
      go_roundw
      case rel => exact ⟨k + 1, by omega, by go_num, by rw [unhide hstep]; exact unhide TT4⟩
      case measure => simp [intOf]; omega
    · obtain rfl : k = n := by omega
      rw [List.take_of_length_le (by omega)] at hT
      have TT := hide (unhide HL1 _ _ hT)
      clear hT
      go_wp2
      go_end0
      exact ⟨rfl, unhide TT⟩

/-- The locals that are told. -/
def narA : Bool → List Ty → List Ty
  | _, [] => []
  | skip, t :: r => (if skip then [] else [t]) ++ narA (decide (t.kind = 2)) r
theorem narA_told : ∀ (n : Nat) (ts : List Ty), ts.length ≤ n → longsB ts = true → narA false ts = toldT true ts := by
  intro n
  induction n with
  | zero => intro ts h _; obtain rfl : ts = [] := List.length_eq_zero_iff.1 (by omega); rfl
  | succ n ih =>
    intro ts h hl
    match ts, h, hl with
    | [], _, _ => rfl
    | [t], _, _ => simp [narA, toldT]
    | t :: z :: r, h, hl =>
      unfold longsB at hl
      rw [Bool.and_eq_true] at hl
      by_cases hk : t.kind = 2
      · have hz : z.kind = 0 := by simpa [hk] using hl.1
        have e : toldT true (t :: z :: r) = t :: toldT true r := by
          show (if true = true ∧ t.kind = 2 then t :: toldT true r else t :: toldT true (z :: r)) = _
          rw [if_pos ⟨rfl, hk⟩]
        rw [e, ← ih r (by simp at h; omega) (by rw [longsB_top z hz] at hl; exact hl.2)]
        simp [narA, hk, hz]
      · have e : toldT true (t :: z :: r) = t :: toldT true (z :: r) := by
          show (if true = true ∧ t.kind = 2 then t :: toldT true r else t :: toldT true (z :: r)) = _
          rw [if_neg (fun h => hk h.2)]
        rw [e, ← ih (z :: r) (by simp at h ⊢; omega) hl.2]
        simp [narA, hk]
theorem narA_step : ∀ (ts : List Ty) (skip : Bool) (k : Nat) (t : Ty), ts[k]? = some t → narA skip (ts.take (k + 1)) = narA skip (ts.take k) ++ (if (if k = 0 then skip else decide ((((ts[k - 1]?).map Ty.kind).getD 0) = 2)) then [] else [t])
  | [], _, _, _, h => by simp at h
  | x :: r, skip, 0, t, h => by
    simp at h
    subst h
    simp [narA]
  | x :: r, skip, k + 1, t, h => by
    have ih := narA_step r (decide (x.kind = 2)) k t (by simpa using h)
    simp only [List.take_succ_cons, narA]
    rw [ih, List.append_assoc]
    congr 2
    cases k with
    | zero => simp
    | succ k => simp
theorem narA_len : ∀ (skip : Bool) (ts : List Ty), (narA skip ts).length ≤ ts.length
  | _, [] => by simp [narA]
  | skip, t :: r => by
    have := narA_len (decide (t.kind = 2)) r
    simp only [narA, List.length_append, List.length_cons]
    cases skip <;> simp <;> omega

set_option maxHeartbeats 6400000 in
theorem narrow_any (w : World) (s : Sl) (ts : List Ty) (hA : TysIn w s ts) :
    Calls Tryz.prog 143 #[s.v] w fun e w' => ∃ v, e = .returned v ∧ Orw tyc 143 2 w' w.heap.size v (narA false ts) ∧ Below w.heap.size w w' := by
  obtain ⟨a, n, c⟩ := s
  have hs := hA.small
  have hln := hA.ls.1
  simp only at hln hs
  unfold Sl.v
  simp only
  have HA := hide hA.ls
  have HF := hide hA.each
  clear hA
  go_enter Tryz.func143, Tryz.ntmps143
  go_wp2
  go_loopw [3, 8] (fun v i wr => ∃ k : Nat, k ≤ n ∧ i = .int .i64 k ∧ Orw tyc 143 2 wr w.heap.size v (narA false (ts.take k)) ∧ Below w.heap.size w wr) (fun _ i _ => n - (intOf i).toNat)
  case atStart => exact ⟨0, by omega, rfl, Orw.nil _ _ _ _ _, Below.refl _ _⟩
  case round =>
    obtain ⟨k, hk, rfl, hO, hR⟩ := hrel
    by_cases hlt : k < n
    · have hlt1 : (k : Int) < (n : Int) := by omega
      have hk0 : (0 : Int) ≤ (k : Int) := by omega
      obtain ⟨b1, o1, h1a, h1⟩ := Ls.row (unhide HA) (w' := w) (by show n ≠ 0; omega)
      subst h1a
      obtain ⟨t, ht⟩ : ∃ t, ts[k]? = some t := ⟨_, List.getElem?_eq_getElem (by omega)⟩
      have q := h1 hR k t ht
      have c0 := q.zero
      have c1 := q 1 _ rfl
      have hstep := narA_step ts false k t ht
      have hlen := narA_len false (ts.take k)
      have hlk : (ts.take k).length = k := by rw [List.length_take]; omega
      have hf1 := ((Below.refl wr.heap.size wr).alloc (Nat.le_refl _) (.cells #[.int .i64 t.kind, .string ⟨t.name.toArray⟩] 143))
      have FR1 := hR.trans (hf1.mono hR.size)
      have O1 : Orw tyc 143 2 (wr.alloc (.cells #[.int .i64 t.kind, .string ⟨t.name.toArray⟩] 143)) w.heap.size _ (narA false (ts.take k)) := hO.below (fun j hj => hf1.block j (hO.lt j hj).2)
      have hl1 := ls_one (cs := tyc) (sz := 2) (wr.alloc (.cells #[.int .i64 t.kind, .string ⟨t.name.toArray⟩] 143)) #[.int .i64 t.kind, .string ⟨t.name.toArray⟩] 143 t rfl
      have hsz1 : (wr.alloc (.cells #[.int .i64 t.kind, .string ⟨t.name.toArray⟩] 143)).heap.size = wr.heap.size + 1 := by simp
      rw [hsz1] at hl1
      clear hsz1
      have hlen2 : ((narA false (ts.take k)).length + 1) * 24 ≤ 140737488355328 := by omega
      have hlen3 : (narA false (ts.take k)).length + 1 ≤ 140737488355328 := by omega
      have HL2 := hide hlen2
      have HL3 := hide hlen3
      clear hlen2 hlen3
      have O2 : Orw tyc 143 2 ((wr.alloc (.cells #[.int .i64 t.kind, .string ⟨t.name.toArray⟩] 143)).alloc (.cells #[.int .i64 t.kind, .string ⟨t.name.toArray⟩] 143)) w.heap.size _ (narA false (ts.take k)) := O1.below (fun j hj => ((Below.refl _ _).alloc (Nat.le_refl _) _).block j (O1.lt j hj).2)
      have FR2 : Below w.heap.size w ((wr.alloc (.cells #[.int .i64 t.kind, .string ⟨t.name.toArray⟩] 143)).alloc (.cells #[.int .i64 t.kind, .string ⟨t.name.toArray⟩] 143)) := FR1.alloc FR1.size _
      by_cases h0 : k = 0
      · subst h0
        simp only [Nat.zero_mul, Nat.add_zero] at c0 c1
        have hst : narA false (ts.take (0 + 1)) = narA false (ts.take 0) ++ [t] := by rw [hstep]; rfl
        have HST := hide hst
        have HO2 := hide O2
        have HL1 := hide hl1
        have HF2 := hide FR2
        clear q h1 ht hR hf1 hO O1 O2 hl1 FR1 FR2 hst hstep hlen
        go_wp2_with (first
          | (at_builtin; refine listR_append rkT rfl _ _ rfl w.heap.size _ _ rfl (unhide HO2) _ 1 1 [t] rfl (unhide HL1) (fun e => by cases e) (unhide HL2) (unhide HL3) (unhide HF2).size ?_)
          | go_in)
        intro v' w3 o3 g3
        have HO3 := hide o3
        have HF3 := hide (grown_below (unhide HF2) (unhide HO2) g3)
        clear o3 g3
        go_wp2
        go_roundw
        case rel => exact ⟨1, by omega, by go_num, by rw [show (1 : Nat) = 0 + 1 from rfl, unhide HST]; exact unhide HO3, unhide HF3⟩
        case measure => simp [intOf]; omega
      · have hk1 : ((k : Int) == 0) = false := by simpa using h0
        obtain ⟨y, hy⟩ : ∃ y, ts[k - 1]? = some y := ⟨_, List.getElem?_eq_getElem (by omega)⟩
        have qy := h1 FR1 (k - 1) y hy
        have y0 := qy.zero
        have hkk : (k : Int) - 1 = ((k - 1 : Nat) : Int) := by omega
        obtain ⟨j, hj⟩ : ∃ j, j = k - 1 := ⟨_, rfl⟩
        rw [← hj] at y0 hkk hy
        have hj0 : (0 : Int) ≤ (j : Int) := by omega
        have hj1 : (j : Int) < (n : Int) := by omega
        have hfy := (unhide HF y (List.mem_of_getElem? hy)).1
        unfold fitI at hfy
        rw [if_neg h0, ← hj, hy] at hstep
        simp only [Option.map_some, Option.getD_some] at hstep
        have HST := hide hstep
        have HO2 := hide O2
        have HO1 := hide O1
        have HL1 := hide hl1
        have HF2 := hide FR2
        have HF1 := hide FR1
        have HJ := hide hj
        clear q h1 ht hR hf1 hO O1 O2 hl1 FR1 FR2 hstep qy hy hj hlen
        by_cases hy2 : y.kind = 2
        · have HS2 : Hid (narA false (ts.take (k + 1)) = narA false (ts.take k)) := by
            show narA false (ts.take (k + 1)) = _
            rw [unhide HST]
            simp [hy2]
          have hy3 : (y.kind == 2) = true := by simpa using hy2
          clear HST
          generalize y.kind = yk at *
          subst hy2
          go_wp2
          go_roundw
          case rel => exact ⟨k + 1, by omega, by go_num, by rw [unhide HS2]; exact unhide HO1, unhide HF1⟩
          case measure => simp [intOf]; omega
        · have HS2 : Hid (narA false (ts.take (k + 1)) = narA false (ts.take k) ++ [t]) := by
            show narA false (ts.take (k + 1)) = _
            rw [unhide HST]
            simp [hy2]
          have hy3 : (y.kind == 2) = false := by simpa using hy2
          have hy4 : (y.kind != 2) = true := by simpa using hy2
          clear HST
          go_wp2_with (first
            | (at_builtin; refine listR_append rkT rfl _ _ rfl w.heap.size _ _ rfl (unhide HO2) _ 1 1 [t] rfl (unhide HL1) (fun e => by cases e) (unhide HL2) (unhide HL3) (unhide HF2).size ?_)
            | go_in)
          intro v' w3 o3 g3
          have HO3 := hide o3
          have HF3 := hide (grown_below (unhide HF2) (unhide HO2) g3)
          clear o3 g3
          go_wp2
          go_roundw
          case rel => exact ⟨k + 1, by omega, by go_num, by rw [unhide HS2]; exact unhide HO3, unhide HF3⟩
          case measure => simp [intOf]; omega
    · obtain rfl : k = n := by omega
      rw [List.take_of_length_le (by omega)] at hO
      have HO := hide hO
      have HR := hide hR
      obtain ⟨a3, c3, hv3, _⟩ := hO.form
      clear hO hR
      subst hv3
      go_wp2
      go_ret
      exact ⟨_, rfl, unhide HO, unhide HR⟩
end Go.Proofs.YthhdfokcciibmaaGreatDoor
