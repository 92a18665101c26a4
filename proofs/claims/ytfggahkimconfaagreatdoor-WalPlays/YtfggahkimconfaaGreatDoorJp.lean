/- Joined: VrL VrN. -/
import Derived.Test.YtfggahkimconfaaGreatDoorJo

/- The document's own Open, where a log is: the walk. -/
namespace Go.Proofs.YtfggahkimconfaaGreatDoor
open Go.RowKit
set_option linter.unusedVariables false

set_option maxRecDepth 100000 in
set_option maxHeartbeats 4000000 in
theorem vOpen_ok (A : Nat → Prop) (w : World) (B y : Nat) (D : Dk) (L n' : Nat) (hY : YA A w B y D) (hO : Okd D L n') (hn : n' ≤ 900) (hw : ∀ k, w.heap.size ≤ k → A k) (a n : Nat) (ha : a ≤ 4096) (h2 : 2 ≤ n) (hf : a + n ≤ D.secs.length) (hd : D.dark = false) (b0 : List UInt8) (hb0 : D.lasts[a]? = some b0) (h : Rec) (hr : readS b0 = some h) (h4 : h.data.length = 4) :
    Calls Tryz.prog 10 #[.pointer (some ⟨y, 0, none⟩), .int .i64 (a : Int), .int .i64 (n : Int)] w (VOpn A w B y ((D.found a n h).nxt D (num h.data))) := by
  have hm := hO.most
  have hlen := hO.len
  have hp : placeOk D a n := by unfold placeOk; omega
  have H1 := hide (vPlace_any A w B y D hY L n' hO a n (by omega) (by omega))
  rw [decide_eq_true hp] at H1
  have H2 := hide (yFetch_read A w B y D L n' hY hO a b0 hb0 hd)
  rw [hr] at H2
  obtain ⟨now, hnow⟩ : ∃ now : Nat, h.epoch = now := ⟨h.epoch.toNat, by have := (read_ok hr).1.1; omega⟩
  have hnow2 : now < 4294967296 := by have := (read_ok hr).1.2.1; omega
  have hr0 : recV ((some h : Option Rec).getD rec0) = .agg #[.int .i64 (now : Int), .string ⟨h.data.toArray⟩] := by rw [← hnow]; rfl
  rw [hr0] at H2
  have hsz : ((⟨h.data.toArray⟩ : ByteArray)).size = h.data.length := by simp [ByteArray.size]
  rw [h4] at hsz
  have hfro : num h.data < 4294967296 := num_le _
  have HNB : Hid (∀ W, Calls Tryz.prog 44 #[.string ⟨h.data.toArray⟩] W fun e w' => e = .returned (.int .i64 (num h.data : Int)) ∧ ∃ m, w' = W.drewN m) := fun W => vnumber_any W h.data (by omega)
  have hX : D.found a n h = ⟨a, n, now, num h.data, (scanW (now : Int) (D.dataS a n) 0 (sc0 (num h.data))).L, (scanW (now : Int) (D.dataS a n) 0 (sc0 (num h.data))).used, (scanW (now : Int) (D.dataS a n) 0 (sc0 (num h.data))).L.length, false⟩ := by
    unfold Dk.found sc0
    rw [hnow]
    rfl
  rw [hX]
  generalize num h.data = fro at *
  generalize (⟨h.data.toArray⟩ : ByteArray) = st at *
  have g4 : ((4 : Int) != 4) = false := by decide
  have HYY := hide hY
  have HOO := hide hO
  have HWW := hide hw
  generalize hpo : VOpn A w B y (Lg.nxt ⟨a, n, now, fro, (scanW (now : Int) (D.dataS a n) 0 (sc0 fro)).L, (scanW (now : Int) (D.dataS a n) 0 (sc0 fro)).used, (scanW (now : Int) (D.dataS a n) 0 (sc0 fro)).L.length, false⟩ D fro) = PO
  have HPO := hide hpo
  clear hY hO hw hp hX hr hr0 hnow hb0 hpo h4
  go_enter Tryz.func10, Tryz.ntmps10
  go_wp2_with fail
  refine (unhide H1).mono ?_
  rintro e w1 ⟨rfl, rfl⟩
  go_wp2_with fail
  refine (unhide H2).mono ?_
  rintro e w2 ⟨q, c, rfl, f2, h3⟩
  have H3 := hide h3
  clear H1 H2 f2 h3
  go_wp2_with fail
  refine (unhide H3).mono ?_
  rintro e w3 ⟨rfl, f3⟩
  clear H3
  go_upto_region 7 with fail
  have hq := heap_alloc_last w3 (.cells #[.int .i64 (now : Int), .string st] 85)
  have f4 : Below w1.heap.size w1 (w3.alloc (.cells #[.int .i64 (now : Int), .string st] 85)) := f3.alloc f3.size _
  generalize w3.alloc (.cells #[.int .i64 (now : Int), .string st] 85) = w4 at *
  have k0 : w4.cell? ⟨w3.heap.size, 0, none⟩ = some (.int .i64 (now : Int)) := by rw [cell_of_row _ _ _ _ _ _ hq]; rfl
  have k1 : w4.cell? ⟨w3.heap.size, 1, none⟩ = some (.string st) := by rw [cell_of_row _ _ _ _ _ _ hq]; rfl
  have F4 := hide f4
  have HNC : Hid (∀ W, Below w4.heap.size w4 W → Calls Tryz.prog 44 #[.string st] W fun e w' => e = .returned (.int .i64 (fro : Int)) ∧ w'.cell? ⟨w3.heap.size, 0, none⟩ = some (.int .i64 (now : Int)) ∧ w'.cell? ⟨w3.heap.size, 1, none⟩ = some (.string st) ∧ Below w4.heap.size w4 w') := fun W f => by
    refine (unhide HNB W).mono ?_
    rintro e w' ⟨rfl, j, rfl⟩
    have f' : Below w4.heap.size w4 (W.drewN j) := f.trans (below_drewN (Below.refl _ _) j)
    have hq' := (f'.block _ (lt_of_heap hq)).trans hq
    exact ⟨rfl, by rw [cell_of_row _ _ _ _ _ _ hq']; rfl, by rw [cell_of_row _ _ _ _ _ _ hq']; rfl, f'⟩
  clear f3 f4 hq HNB
  generalize w3.heap.size = q3 at *
  go_upto_region 9 with fail
  go_region_held_law (fun W => W.cell? ⟨q3, 0, none⟩ = some (.int .i64 (now : Int)) ∧ W.cell? ⟨q3, 1, none⟩ = some (.string st)) (go_keep)
    (first
      | (go_at_call 44; refine (unhide HNC _ (by repeat (first | exact Below.refl _ _ | refine Below.drew ?_))).mono ?_; rintro e w5 ⟨rfl, k50, k51, f5⟩))
  have hz := heap_alloc_last w5 (.cells #[.pointer (some ⟨y, 0, none⟩), .int .i64 (a : Int), .int .i64 (n : Int), .int .i64 (now : Int), .int .i64 (fro : Int), .slice none 0 0, .int .i64 0, .int .i64 0, .bool false] 55)
  have f6 : Below w1.heap.size w1 (w5.alloc (.cells #[.pointer (some ⟨y, 0, none⟩), .int .i64 (a : Int), .int .i64 (n : Int), .int .i64 (now : Int), .int .i64 (fro : Int), .slice none 0 0, .int .i64 0, .int .i64 0, .bool false] 55)) := by
    have g5 : Below w1.heap.size w1 w5 := (unhide F4).trans (f5.mono (unhide F4).size)
    exact g5.alloc g5.size _
  have hz5 : w1.heap.size ≤ w5.heap.size := Nat.le_trans (unhide F4).size f5.size
  generalize w5.alloc (.cells #[.pointer (some ⟨y, 0, none⟩), .int .i64 (a : Int), .int .i64 (n : Int), .int .i64 (now : Int), .int .i64 (fro : Int), .slice none 0 0, .int .i64 0, .int .i64 0, .bool false] 55) = w6 at *
  clear k0 k1 k50 k51 f5 HNC F4
  generalize w5.heap.size = z at *
  have HQ0 : Hid (OQ w1 y z D a n now fro 0 (sc0 fro) (.slice none 0 0) w6) := ⟨rfl, by omega, Nat.le_refl _, Nat.le_refl _, by simp [sc0], f6, ⟨hz, ⟨rfl, .inl ⟨rfl, rfl⟩⟩, hz5, ⟨ha, h2, by show n ≤ 4096; omega, hnow2, hfro, Nat.zero_le _, Nat.zero_le _, Nat.zero_le _⟩⟩⟩
  have k4 : w6.cell? ⟨z, 4, none⟩ = some (.int .i64 (fro : Int)) := by rw [cell_of_row _ _ _ _ _ _ hz]; rfl
  clear f6 hz hz5
  obtain ⟨N1, hN1⟩ : ∃ N1, N1 = n - 1 := ⟨_, rfl⟩
  have x1 : (n : Int) - 1 = (N1 : Int) := by omega
  have HEND : Hid (∀ k s v wr W, OQ w1 y z D a n now fro k s v wr → scanW (now : Int) (D.dataS a n) 0 (sc0 fro) = s → Lw z wr W #[.pointer (some ⟨y, 0, none⟩), .int .i64 (a : Int), .int .i64 (n : Int), .int .i64 (now : Int), .int .i64 (fro : Int), v, .int .i64 (s.used : Int), .int .i64 (s.L.length : Int), .bool false] →
      Calls Tryz.prog 45 #[.pointer (some ⟨z, 0, none⟩), .int .i64 (fro : Int)] W fun e w' => ∃ c, e = .returned (.int .i64 c) ∧ PO (.returned (.tuple #[.pointer (some ⟨z, 0, none⟩), .int .i64 c])) w') := fun k s v wr W q hs hW => by
    refine (open_end (unhide HYY) (unhide HOO) hn (unhide HWW) q hW).mono ?_
    rintro e w' ⟨c, rfl, h⟩
    refine ⟨c, rfl, ?_⟩
    rw [← unhide HPO, hs]
    exact h
  clear HWW
  go_simp
  go_wp2
  go_loopw [13, 14, 15, 16] (fun l p o i wr => ∃ (k : Nat) (s : Sc) (v : Value), l = .int .i64 s.last ∧ p = str s.part ∧ o = .bool s.opn ∧ i = .int .i64 k ∧ OQ w1 y z D a n now fro k s v wr) (fun _ _ _ i _ => n - (intOf i).toNat)
  case atStart => exact ⟨0, sc0 fro, _, rfl, rfl, rfl, rfl, unhide HQ0⟩
  case round =>
    clear HQ0 k4
    obtain ⟨k, s, v, rfl, rfl, rfl, rfl, hq⟩ := hrel
    have hle := hq.le
    by_cases hlt : k < N1
    · have hlt1 : (k : Int) < (N1 : Int) := by omega
      obtain ⟨b, hb1, _⟩ := data_get (D := D) (a := a) (n := n) (k := k) h2 hf (by omega)
      have HF := hide (yFetch_read A wr B y D L n' ((unhide HYY).below hq.b) (unhide HOO) (a + 1 + k) b hb1 hd)
      obtain ⟨A1, hA1⟩ : ∃ A1, A1 = a + 1 := ⟨_, rfl⟩
      obtain ⟨K, hK⟩ : ∃ K, K = a + 1 + k := ⟨_, rfl⟩
      rw [← hK] at HF
      have x2 : (a : Int) + 1 = (A1 : Int) := by omega
      have x3 : (A1 : Int) + (k : Int) = (K : Int) := by omega
      have HQ := hide hq
      clear hq
      cases hrd : readS b with
      | none =>
        rw [hrd] at HF
        have hr0 : recV ((none : Option Rec).getD rec0) = .agg #[.int .i64 0, .string ⟨#[]⟩] := rfl
        rw [hr0] at HF
        have hsc : scanW (now : Int) (D.dataS a n) 0 (sc0 fro) = s := (unhide HQ).ends h2 hf (fun _ b' hb' r hr => by rw [hb1] at hb'; injection hb' with hb'; subst hb'; rw [hrd] at hr; cases hr)
        have HSC := hide hsc
        clear hsc hr0 hb1 hA1 hK
        unfold str
        go_wp2_with fail
        refine (unhide HF).mono ?_
        rintro e w7 ⟨q7, c7, rfl, f7, h8⟩
        have H8 := hide h8
        clear HF f7 h8
        go_wp2_with fail
        refine (unhide H8).mono ?_
        rintro e w8 ⟨rfl, f8⟩
        have F8 := hide f8
        clear H8 f8
        go_upto_region 18 with fail
        have f9 : Below wr.heap.size wr (w8.alloc (.cells #[.int .i64 0, .string ⟨#[]⟩] 85)) := (unhide F8).alloc (unhide F8).size _
        generalize w8.alloc (.cells #[.int .i64 0, .string ⟨#[]⟩] 85) = w9 at *
        have HQ9 := hide ((unhide HQ).below f9)
        clear f9 F8 HQ
        obtain ⟨va, vc, rfl⟩ := own_slice (unhide HQ9).vl.own
        obtain ⟨_, _, _, _, d4, d5, _, d7, _, fz⟩ := (unhide HQ9).vl.cells
        have z7 := fz 7
        have HN : Hid (∀ j, Calls Tryz.prog 45 #[.pointer (some ⟨z, 0, none⟩), .int .i64 (fro : Int)] ((w9.drewN j).setCell ⟨z, 7, none⟩ (.int .i64 (s.L.length : Int))) fun e w' => ∃ c, e = .returned (.int .i64 c) ∧ PO (.returned (.tuple #[.pointer (some ⟨z, 0, none⟩), .int .i64 c])) w') := fun j => by
          have q9 := (unhide HQ9).below (below_drewN (Below.refl _ _) j)
          exact unhide HEND k s _ _ _ q9 (unhide HSC) (q9.vl.lw.set 7 (.int .i64 (s.L.length : Int)))
        clear fz HEND HQ9 HSC
        go_wp2
        go_quiet (fail)
        go_wp2_with fail
        refine (unhide HN _).mono ?_
        rintro e w11 ⟨c11, rfl, h11⟩
        have H11 := hide h11
        clear HN h11
        go_wp2
        exact unhide H11
      | some r =>
        rw [hrd] at HF
        have hr0 : recV ((some r : Option Rec).getD rec0) = .agg #[.int .i64 r.epoch, .string ⟨r.data.toArray⟩] := rfl
        rw [hr0] at HF
        have hsz : ((⟨r.data.toArray⟩ : ByteArray)).size = r.data.length := by simp [ByteArray.size]
        have HNR : Hid (4 ≤ r.data.length → ∀ W, Calls Tryz.prog 44 #[.string ⟨r.data.toArray⟩] W fun e w' => e = .returned (.int .i64 (num r.data : Int)) ∧ ∃ m, w' = W.drewN m) := fun h W => vnumber_any W r.data h
        have HIX : Hid (5 ≤ r.data.length → ∀ W, (Instr.index 9 (.string ⟨r.data.toArray⟩) (.int .i64 4)).run Tryz.prog W = .ok (.int .u8 ((r.data.getD 4 0).toNat : Int)) W) := fun h => str_index r.data 4 _ (by rw [List.getElem?_eq_getElem (by omega), List.getD_eq_getElem?_getD, List.getElem?_eq_getElem (by omega)]; rfl)
        have hbits : (r.data.getD 4 0).toNat < 256 := (r.data.getD 4 0).toNat_lt
        have hcs := part_cases (now : Int) k s r
        have HEN : Hid (¬ okPart (now : Int) k s r → scanW (now : Int) (D.dataS a n) 0 (sc0 fro) = s) := fun hno => (unhide HQ).ends h2 hf (fun _ b' hb' r' hr' => by rw [hb1] at hb'; injection hb' with hb'; subst hb'; rw [hrd] at hr'; injection hr' with hr'; subst hr'; exact hno)
        clear hr0 hA1 hK
        unfold str
        go_wp2_with fail
        refine (unhide HF).mono ?_
        rintro e w7 ⟨q7, c7, rfl, f7, h8⟩
        have H8 := hide h8
        clear HF f7 h8
        go_wp2_with fail
        refine (unhide H8).mono ?_
        rintro e w8 ⟨rfl, f8⟩
        have F8 := hide f8
        clear H8 f8
        go_upto_region 18 with fail
        have hq9 := heap_alloc_last w8 (.cells #[.int .i64 r.epoch, .string ⟨r.data.toArray⟩] 85)
        have f9 : Below wr.heap.size wr (w8.alloc (.cells #[.int .i64 r.epoch, .string ⟨r.data.toArray⟩] 85)) := (unhide F8).alloc (unhide F8).size _
        generalize w8.alloc (.cells #[.int .i64 r.epoch, .string ⟨r.data.toArray⟩] 85) = w9 at *
        have HQ9 := hide ((unhide HQ).below f9)
        have k0 : w9.cell? ⟨w8.heap.size, 0, none⟩ = some (.int .i64 r.epoch) := by rw [cell_of_row _ _ _ _ _ _ hq9]; rfl
        have k1 : w9.cell? ⟨w8.heap.size, 1, none⟩ = some (.string ⟨r.data.toArray⟩) := by rw [cell_of_row _ _ _ _ _ _ hq9]; rfl
        have d3 := (unhide HQ9).vl.cells.2.2.2.1
        have HQ9B := hide hq9
        clear f9 F8 HQ hq9
        generalize w8.heap.size = q9 at *
        rcases hcs with hok | h1 | ⟨h1, h2'⟩ | ⟨h1, h2', h3⟩ | ⟨h1, h2', h3, h4⟩ | ⟨h1, h2', h3, h4, h5⟩ | ⟨h1, h2', h3, h4, h5, h6⟩ | ⟨h1, h2', h3, h4, h5, h6, h7, h8⟩
        · have HOK := hide hok
          obtain ⟨h1, h2', h3, h4, h5, h6, h7⟩ := hok
          have g1 : decide ((r.data.length : Int) < 5) = false := by simp; omega
          have i4 := unhide HIX h1
          have nmb := fun j => unhide HNR (by omega) (w9.drewN j)
          have g2 : decide ((236 : Int) < (r.data.length : Int)) = false := by simp; omega
          have g3 : ((num r.data : Int) != (k : Int)) = false := by simp; omega
          have g4 : decide ((1 : Int) < ((r.data.getD 4 0).toNat : Int)) = false := decide_eq_false (by omega)
          have g5 : decide ((now : Int) < r.epoch) = false := by simp; omega
          have g6 : decide (r.epoch < s.last) = false := by simp; omega
          have NB := hide nmb
          clear nmb
          have hpl := (unhide HQ9).part
          have hkn : k ≤ 4096 := by omega
          have hPs : (⟨s.part.toArray⟩ : ByteArray).size = s.part.length := by simp [ByteArray.size]
          have hDs : (⟨(r.data.drop 5).toArray⟩ : ByteArray).size ≤ 231 := by show (r.data.drop 5).toArray.size ≤ 231; rw [List.size_toArray, List.length_drop]; omega
          have hext := drop_ext r.data 5
          have add : ∀ W, (Op.stringOp .add ⟨s.part.toArray⟩ ⟨(r.data.drop 5).toArray⟩).run Tryz.prog W = .ok (.string ⟨(s.part ++ r.data.drop 5).toArray⟩) W := fun W => by
            rw [run_string_add_sum (P := Tryz.prog) W _ _ (by rw [hPs]; omega), join_bytes]
          have l5 : (5 : Int) ≤ (r.data.length : Int) := by omega
          have g7 : s.opn = false ∨ (s.opn = true ∧ (r.epoch != s.last) = false) := by
            cases ho : s.opn with
            | false => exact .inl rfl
            | true => exact .inr ⟨rfl, by simpa using h7 ho⟩
          have hbt : (r.data.getD 4 0).toNat = 0 ∨ (r.data.getD 4 0).toNat = 1 := by omega
          rcases hbt with hb0 | hb0
          · have htk : s.took k r = ⟨r.epoch, true, s.part ++ r.data.drop 5, s.L, s.used⟩ := by unfold Sc.took; rw [if_neg (by omega)]
            have HT : Hid (∀ W, Below w9.heap.size w9 W → ∃ (k' : Nat) (s' : Sc) (v' : Value), Value.int .i64 r.epoch = .int .i64 s'.last ∧ Value.string ⟨(s.part ++ r.data.drop 5).toArray⟩ = str s'.part ∧ Value.bool true = .bool s'.opn ∧ Value.int .i64 ((k + 1 : Nat) : Int) = .int .i64 (k' : Int) ∧ OQ w1 y z D a n now fro k' s' v' W) := fun W f => by
              have q9 := (unhide HQ9).below f
              refine ⟨k + 1, s.took k r, v, by rw [htk], by rw [htk], by rw [htk], rfl, q9.took h2 hf (by omega) hb1 hrd (unhide HOK) q9.b ?_⟩
              rw [htk]
              exact q9.vl
            rw [hb0] at i4 g4
            clear hPs hDs hpl h7 htk HQ9 HEN HIX HNR HQ9B HOK hb0 hbits h1 h2' h3 h4 h5 h6 hrd hb1
            generalize (⟨(s.part ++ r.data.drop 5).toArray⟩ : ByteArray) = ZZ at *
            generalize (⟨(r.data.drop 5).toArray⟩ : ByteArray) = dr at *
            generalize (⟨r.data.toArray⟩ : ByteArray) = st9 at *
            generalize num r.data = nm at *
            generalize r.epoch = ep at *
            rcases g7 with ho | ⟨ho, g7⟩
            all_goals
              rw [ho]
              go_wp2
              go_quiet (first | (go_at_call 44; refine Calls.quiet_of (unhide NB _)))
              go_wp2
              go_quiet (fail)
              go_wp2
              go_roundw
              case rel => exact unhide HT _ (below_drewN (Below.refl _ _) _)
              case measure => simp [intOf]; omega
          · have htk : s.took k r = ⟨r.epoch, false, [], s.L ++ [s.part ++ r.data.drop 5], k + 1⟩ := by unfold Sc.took; rw [if_pos hb0]
            have HP : Hid (∀ W (w6 : World) v' ob, OQ w1 y z D a n now fro k s v W → w6.ownsRow w1.heap.size 9 1 v' (s.L.length + 1) (s.L.map str ++ [.string ⟨(s.part ++ r.data.drop 5).toArray⟩]) → (W.alloc ob).grownBy w6 v.ownBlock → (v'.ownBlock = v.ownBlock ∨ v'.ownBlock = some (W.alloc ob).heap.size) → w6.heap[z]? = W.heap[z]? ∧ ∃ (k' : Nat) (s' : Sc) (v'' : Value), Value.int .i64 r.epoch = .int .i64 s'.last ∧ Value.string ⟨#[]⟩ = str s'.part ∧ Value.bool false = .bool s'.opn ∧ Value.int .i64 ((k + 1 : Nat) : Int) = .int .i64 (k' : Int) ∧ OQ w1 y z D a n now fro k' s' v'' ((w6.setCell ⟨z, 5, none⟩ v').setCell ⟨z, 6, none⟩ (.int .i64 ((k + 1 : Nat) : Int)))) := fun W w6 v' ob q o6 g6 hat => by
              obtain ⟨e1, e2, e3⟩ := open_push (x := s.part ++ r.data.drop 5) (by omega) q o6 g6 hat
              refine ⟨e1, k + 1, s.took k r, v', by rw [htk], by rw [htk], by rw [htk], rfl, q.took h2 hf (by omega) hb1 hrd (unhide HOK) e3 ?_⟩
              rw [htk]
              exact e2
            rw [hb0] at i4 g4
            have hfew := (unhide HQ9).few
            clear hPs hDs hpl h7 htk HEN HIX HNR HQ9B HOK hb0 hbits h1 h2' h3 h4 h5 h6 hrd hb1
            generalize (⟨(s.part ++ r.data.drop 5).toArray⟩ : ByteArray) = ZZ at *
            generalize (⟨(r.data.drop 5).toArray⟩ : ByteArray) = dr at *
            generalize (⟨r.data.toArray⟩ : ByteArray) = st9 at *
            generalize num r.data = nm at *
            generalize r.epoch = ep at *
            obtain ⟨k1', hk1'⟩ : ∃ k1', k1' = k + 1 := ⟨_, rfl⟩
            have hki : (k : Int) + 1 = (k1' : Int) := by omega
            have hki2 : (k1' : Int) ≤ 5000 := by omega
            have hki3 : IntKind.i64.wrap ((k : Int) + 1) = (k1' : Int) := by rw [IntKind.wrap_i64]; omega
            have hki4 : IntKind.i64.wrap (k1' : Int) = (k1' : Int) := by rw [IntKind.wrap_i64]; omega
            rw [← hk1'] at HP
            clear hk1'
            rcases g7 with ho | ⟨ho, g7⟩
            all_goals
              rw [ho]
              go_wp2
              go_quiet (first | (go_at_call 44; refine Calls.quiet_of (unhide NB _)))
              go_wp2
              go_quiet (fail)
              go_upto_region 22 with fail
              generalize hw10 : w9.drewN _ = w10
              have f10 : Below w9.heap.size w9 w10 := by rw [← hw10]; exact below_drewN (Below.refl _ _) _
              have q10 := (unhide HQ9).below f10
              obtain ⟨_, _, _, _, _, e5, e6, _, _, _⟩ := q10.vl.cells
              have HO10 : Hid (w10.ownsRow w1.heap.size 9 1 v s.L.length (s.L.map str)) := q10.vl.own
              have HQ10 := hide q10
              have hb10 : w1.heap.size ≤ w10.heap.size := q10.b.size
              clear q10 f10 hw10 HQ9 d3 k0 k1 i4 add
              obtain ⟨i0, hi, hz0, hz1, hz2⟩ := info_parts infoStr
              have hsrc : ∀ j u, [Value.string ZZ][j]? = some u → (w10.alloc (.cells #[.string ZZ] 9)).cell? ((⟨w10.heap.size, 0, none⟩ : Addr).add j) = some u := cell_one_new w10 (.string ZZ) 9
              have hone : ∀ u ∈ [Value.string ZZ], u.oneCell' = true := fun u hu => by
                rw [List.mem_singleton] at hu
                subst hu
                rfl
              have hc3 : s.L.length + 1 ≤ maxLen := by unfold maxLen; omega
              have hbase : w1.heap.size ≤ (w10.alloc (.cells #[.string ZZ] 9)).heap.size := by simp; omega
              have ho6 := (unhide HO10).alloc (.cells #[.string ZZ] 9)
              go_wp2_with (at_builtin; refine wpList_append_own_at _ rfl (.tmp 155) (.tmp 157) 53 rfl w1.heap.size 9 i0 (.string ⟨#[]⟩) 1 16 Tryz.underlying53 hi hz0 hz1 hz2 rfl (by decide) _ _ _ rfl ho6 ⟨w10.heap.size, 0, none⟩ 1 1 [.string ZZ] rfl rfl hsrc hone hc3 (by omega) hbase ?_)
              intro v' w6 o6 gr6 _ hat
              obtain ⟨hz6, hAft⟩ := unhide HP w10 w6 v' _ (unhide HQ10) o6 gr6 (by simpa using hat)
              obtain ⟨va', vc', rfl⟩ := own_slice o6
              have hz6' := hz6.trans (unhide HQ10).vl.blk
              have k5 : w6.cell? ⟨z, 5, none⟩ = some v := by rw [cell_of_row _ _ _ _ _ _ hz6']; rfl
              have k6 : w6.cell? ⟨z, 6, none⟩ = some (.int .i64 (s.used : Int)) := by rw [cell_of_row _ _ _ _ _ _ hz6']; rfl
              have q5 : w6.frozen? ⟨z, 5, none⟩ = false := frozen_of_row _ _ _ _ _ hz6'
              have q6 : w6.frozen? ⟨z, 6, none⟩ = false := frozen_of_row _ _ _ _ _ hz6'
              have HAF := hide hAft
              clear hAft hz6 hz6' o6 gr6 hat ho6 hbase hsrc hone e5 e6
              go_wp2
              go_roundw
              case rel => exact unhide HAF
              case measure => simp [intOf]; omega
        · have HSC := hide (unhide HEN (fun h => absurd h.1 (by omega)))
          have g1 : decide ((r.data.length : Int) < 5) = true := by simp; omega
          obtain ⟨va, vc, rfl⟩ := own_slice (unhide HQ9).vl.own
          obtain ⟨_, _, _, _, d4, d5, _, d7, _, fz⟩ := (unhide HQ9).vl.cells
          have z7 := fz 7
          have HN : Hid (∀ j, Calls Tryz.prog 45 #[.pointer (some ⟨z, 0, none⟩), .int .i64 (fro : Int)] ((w9.drewN j).setCell ⟨z, 7, none⟩ (.int .i64 (s.L.length : Int))) fun e w' => ∃ c, e = .returned (.int .i64 c) ∧ PO (.returned (.tuple #[.pointer (some ⟨z, 0, none⟩), .int .i64 c])) w') := fun j => by
            have q9 := (unhide HQ9).below (below_drewN (Below.refl _ _) j)
            exact unhide HEND k s _ _ _ q9 (unhide HSC) (q9.vl.lw.set 7 (.int .i64 (s.L.length : Int)))
          clear fz HEND HQ9 HSC
          clear HEN HIX HNR HQ9B
          generalize (⟨r.data.toArray⟩ : ByteArray) = st9 at *
          generalize (r.data.getD 4 0).toNat = bt at *
          generalize num r.data = nm at *
          generalize r.epoch = ep at *
          go_wp2
          go_quiet (fail)
          go_wp2_with fail
          refine (unhide HN _).mono ?_
          rintro e w11 ⟨c11, rfl, h11⟩
          have H11 := hide h11
          clear HN h11
          go_wp2
          exact unhide H11
        · have HSC := hide (unhide HEN (fun h => absurd h.2.1 (by omega)))
          have g1 : decide ((r.data.length : Int) < 5) = false := by simp; omega
          have i4 := unhide HIX h1
          have nmb := fun j => unhide HNR (by omega) (w9.drewN j)
          have g2 : decide ((236 : Int) < (r.data.length : Int)) = true := by simp; omega
          obtain ⟨va, vc, rfl⟩ := own_slice (unhide HQ9).vl.own
          obtain ⟨_, _, _, _, d4, d5, _, d7, _, fz⟩ := (unhide HQ9).vl.cells
          have z7 := fz 7
          have HN : Hid (∀ j, Calls Tryz.prog 45 #[.pointer (some ⟨z, 0, none⟩), .int .i64 (fro : Int)] ((w9.drewN j).setCell ⟨z, 7, none⟩ (.int .i64 (s.L.length : Int))) fun e w' => ∃ c, e = .returned (.int .i64 c) ∧ PO (.returned (.tuple #[.pointer (some ⟨z, 0, none⟩), .int .i64 c])) w') := fun j => by
            have q9 := (unhide HQ9).below (below_drewN (Below.refl _ _) j)
            exact unhide HEND k s _ _ _ q9 (unhide HSC) (q9.vl.lw.set 7 (.int .i64 (s.L.length : Int)))
          clear fz HEND HQ9 HSC
          clear HEN HIX HNR HQ9B
          have NB := hide nmb
          clear nmb
          generalize (⟨r.data.toArray⟩ : ByteArray) = st9 at *
          generalize (r.data.getD 4 0).toNat = bt at *
          generalize num r.data = nm at *
          generalize r.epoch = ep at *
          go_wp2
          go_quiet (first | (go_at_call 44; refine Calls.quiet_of (unhide NB _)))
          go_wp2_with fail
          refine (unhide HN _).mono ?_
          rintro e w11 ⟨c11, rfl, h11⟩
          have H11 := hide h11
          clear HN h11
          go_wp2
          exact unhide H11
        · have HSC := hide (unhide HEN (fun h => h3 h.2.2.1))
          have g1 : decide ((r.data.length : Int) < 5) = false := by simp; omega
          have i4 := unhide HIX h1
          have nmb := fun j => unhide HNR (by omega) (w9.drewN j)
          have g2 : decide ((236 : Int) < (r.data.length : Int)) = false := by simp; omega
          have g3 : ((num r.data : Int) != (k : Int)) = true := by simp; omega
          obtain ⟨va, vc, rfl⟩ := own_slice (unhide HQ9).vl.own
          obtain ⟨_, _, _, _, d4, d5, _, d7, _, fz⟩ := (unhide HQ9).vl.cells
          have z7 := fz 7
          have HN : Hid (∀ j, Calls Tryz.prog 45 #[.pointer (some ⟨z, 0, none⟩), .int .i64 (fro : Int)] ((w9.drewN j).setCell ⟨z, 7, none⟩ (.int .i64 (s.L.length : Int))) fun e w' => ∃ c, e = .returned (.int .i64 c) ∧ PO (.returned (.tuple #[.pointer (some ⟨z, 0, none⟩), .int .i64 c])) w') := fun j => by
            have q9 := (unhide HQ9).below (below_drewN (Below.refl _ _) j)
            exact unhide HEND k s _ _ _ q9 (unhide HSC) (q9.vl.lw.set 7 (.int .i64 (s.L.length : Int)))
          clear fz HEND HQ9 HSC
          clear HEN HIX HNR HQ9B
          have NB := hide nmb
          clear nmb
          generalize (⟨r.data.toArray⟩ : ByteArray) = st9 at *
          generalize (r.data.getD 4 0).toNat = bt at *
          generalize num r.data = nm at *
          generalize r.epoch = ep at *
          go_wp2
          go_quiet (first | (go_at_call 44; refine Calls.quiet_of (unhide NB _)))
          go_wp2_with fail
          refine (unhide HN _).mono ?_
          rintro e w11 ⟨c11, rfl, h11⟩
          have H11 := hide h11
          clear HN h11
          go_wp2
          exact unhide H11
        · have HSC := hide (unhide HEN (fun h => absurd h.2.2.2.1 (by omega)))
          have g1 : decide ((r.data.length : Int) < 5) = false := by simp; omega
          have i4 := unhide HIX h1
          have nmb := fun j => unhide HNR (by omega) (w9.drewN j)
          have g2 : decide ((236 : Int) < (r.data.length : Int)) = false := by simp; omega
          have g3 : ((num r.data : Int) != (k : Int)) = false := by simp; omega
          have g4 : decide ((1 : Int) < ((r.data.getD 4 0).toNat : Int)) = true := decide_eq_true (by omega)
          obtain ⟨va, vc, rfl⟩ := own_slice (unhide HQ9).vl.own
          obtain ⟨_, _, _, _, d4, d5, _, d7, _, fz⟩ := (unhide HQ9).vl.cells
          have z7 := fz 7
          have HN : Hid (∀ j, Calls Tryz.prog 45 #[.pointer (some ⟨z, 0, none⟩), .int .i64 (fro : Int)] ((w9.drewN j).setCell ⟨z, 7, none⟩ (.int .i64 (s.L.length : Int))) fun e w' => ∃ c, e = .returned (.int .i64 c) ∧ PO (.returned (.tuple #[.pointer (some ⟨z, 0, none⟩), .int .i64 c])) w') := fun j => by
            have q9 := (unhide HQ9).below (below_drewN (Below.refl _ _) j)
            exact unhide HEND k s _ _ _ q9 (unhide HSC) (q9.vl.lw.set 7 (.int .i64 (s.L.length : Int)))
          clear fz HEND HQ9 HSC
          clear HEN HIX HNR HQ9B
          have NB := hide nmb
          clear nmb
          generalize (⟨r.data.toArray⟩ : ByteArray) = st9 at *
          generalize (r.data.getD 4 0).toNat = bt at *
          generalize num r.data = nm at *
          generalize r.epoch = ep at *
          go_wp2
          go_quiet (first | (go_at_call 44; refine Calls.quiet_of (unhide NB _)))
          go_wp2_with fail
          refine (unhide HN _).mono ?_
          rintro e w11 ⟨c11, rfl, h11⟩
          have H11 := hide h11
          clear HN h11
          go_wp2
          exact unhide H11
        · have HSC := hide (unhide HEN (fun h => absurd h.2.2.2.2.1 (by omega)))
          have g1 : decide ((r.data.length : Int) < 5) = false := by simp; omega
          have i4 := unhide HIX h1
          have nmb := fun j => unhide HNR (by omega) (w9.drewN j)
          have g2 : decide ((236 : Int) < (r.data.length : Int)) = false := by simp; omega
          have g3 : ((num r.data : Int) != (k : Int)) = false := by simp; omega
          have g4 : decide ((1 : Int) < ((r.data.getD 4 0).toNat : Int)) = false := decide_eq_false (by omega)
          have g5 : decide ((now : Int) < r.epoch) = true := by simp; omega
          obtain ⟨va, vc, rfl⟩ := own_slice (unhide HQ9).vl.own
          obtain ⟨_, _, _, _, d4, d5, _, d7, _, fz⟩ := (unhide HQ9).vl.cells
          have z7 := fz 7
          have HN : Hid (∀ j, Calls Tryz.prog 45 #[.pointer (some ⟨z, 0, none⟩), .int .i64 (fro : Int)] ((w9.drewN j).setCell ⟨z, 7, none⟩ (.int .i64 (s.L.length : Int))) fun e w' => ∃ c, e = .returned (.int .i64 c) ∧ PO (.returned (.tuple #[.pointer (some ⟨z, 0, none⟩), .int .i64 c])) w') := fun j => by
            have q9 := (unhide HQ9).below (below_drewN (Below.refl _ _) j)
            exact unhide HEND k s _ _ _ q9 (unhide HSC) (q9.vl.lw.set 7 (.int .i64 (s.L.length : Int)))
          clear fz HEND HQ9 HSC
          clear HEN HIX HNR HQ9B
          have NB := hide nmb
          clear nmb
          generalize (⟨r.data.toArray⟩ : ByteArray) = st9 at *
          generalize (r.data.getD 4 0).toNat = bt at *
          generalize num r.data = nm at *
          generalize r.epoch = ep at *
          go_wp2
          go_quiet (first | (go_at_call 44; refine Calls.quiet_of (unhide NB _)))
          go_wp2_with fail
          refine (unhide HN _).mono ?_
          rintro e w11 ⟨c11, rfl, h11⟩
          have H11 := hide h11
          clear HN h11
          go_wp2
          exact unhide H11
        · have HSC := hide (unhide HEN (fun h => absurd h.2.2.2.2.2.1 (by omega)))
          have g1 : decide ((r.data.length : Int) < 5) = false := by simp; omega
          have i4 := unhide HIX h1
          have nmb := fun j => unhide HNR (by omega) (w9.drewN j)
          have g2 : decide ((236 : Int) < (r.data.length : Int)) = false := by simp; omega
          have g3 : ((num r.data : Int) != (k : Int)) = false := by simp; omega
          have g4 : decide ((1 : Int) < ((r.data.getD 4 0).toNat : Int)) = false := decide_eq_false (by omega)
          have g5 : decide ((now : Int) < r.epoch) = false := by simp; omega
          have g6 : decide (r.epoch < s.last) = true := by simp; omega
          obtain ⟨va, vc, rfl⟩ := own_slice (unhide HQ9).vl.own
          obtain ⟨_, _, _, _, d4, d5, _, d7, _, fz⟩ := (unhide HQ9).vl.cells
          have z7 := fz 7
          have HN : Hid (∀ j, Calls Tryz.prog 45 #[.pointer (some ⟨z, 0, none⟩), .int .i64 (fro : Int)] ((w9.drewN j).setCell ⟨z, 7, none⟩ (.int .i64 (s.L.length : Int))) fun e w' => ∃ c, e = .returned (.int .i64 c) ∧ PO (.returned (.tuple #[.pointer (some ⟨z, 0, none⟩), .int .i64 c])) w') := fun j => by
            have q9 := (unhide HQ9).below (below_drewN (Below.refl _ _) j)
            exact unhide HEND k s _ _ _ q9 (unhide HSC) (q9.vl.lw.set 7 (.int .i64 (s.L.length : Int)))
          clear fz HEND HQ9 HSC
          clear HEN HIX HNR HQ9B
          have NB := hide nmb
          clear nmb
          generalize (⟨r.data.toArray⟩ : ByteArray) = st9 at *
          generalize (r.data.getD 4 0).toNat = bt at *
          generalize num r.data = nm at *
          generalize r.epoch = ep at *
          go_wp2
          go_quiet (first | (go_at_call 44; refine Calls.quiet_of (unhide NB _)))
          go_wp2_with fail
          refine (unhide HN _).mono ?_
          rintro e w11 ⟨c11, rfl, h11⟩
          have H11 := hide h11
          clear HN h11
          go_wp2
          exact unhide H11
        · have HSC := hide (unhide HEN (fun h => h8 (h.2.2.2.2.2.2 h7)))
          have g1 : decide ((r.data.length : Int) < 5) = false := by simp; omega
          have i4 := unhide HIX h1
          have nmb := fun j => unhide HNR (by omega) (w9.drewN j)
          have g2 : decide ((236 : Int) < (r.data.length : Int)) = false := by simp; omega
          have g3 : ((num r.data : Int) != (k : Int)) = false := by simp; omega
          have g4 : decide ((1 : Int) < ((r.data.getD 4 0).toNat : Int)) = false := decide_eq_false (by omega)
          have g5 : decide ((now : Int) < r.epoch) = false := by simp; omega
          have g6 : decide (r.epoch < s.last) = false := by simp; omega
          have g7 : (r.epoch != s.last) = true := by simpa using h8
          obtain ⟨va, vc, rfl⟩ := own_slice (unhide HQ9).vl.own
          obtain ⟨_, _, _, _, d4, d5, _, d7, _, fz⟩ := (unhide HQ9).vl.cells
          have z7 := fz 7
          have HN : Hid (∀ j, Calls Tryz.prog 45 #[.pointer (some ⟨z, 0, none⟩), .int .i64 (fro : Int)] ((w9.drewN j).setCell ⟨z, 7, none⟩ (.int .i64 (s.L.length : Int))) fun e w' => ∃ c, e = .returned (.int .i64 c) ∧ PO (.returned (.tuple #[.pointer (some ⟨z, 0, none⟩), .int .i64 c])) w') := fun j => by
            have q9 := (unhide HQ9).below (below_drewN (Below.refl _ _) j)
            exact unhide HEND k s _ _ _ q9 (unhide HSC) (q9.vl.lw.set 7 (.int .i64 (s.L.length : Int)))
          clear fz HEND HQ9 HSC
          clear HEN HIX HNR HQ9B
          rw [h7]
          have NB := hide nmb
          clear nmb
          generalize (⟨r.data.toArray⟩ : ByteArray) = st9 at *
          generalize (r.data.getD 4 0).toNat = bt at *
          generalize num r.data = nm at *
          generalize r.epoch = ep at *
          go_wp2
          go_quiet (first | (go_at_call 44; refine Calls.quiet_of (unhide NB _)))
          go_wp2_with fail
          refine (unhide HN _).mono ?_
          rintro e w11 ⟨c11, rfl, h11⟩
          have H11 := hide h11
          clear HN h11
          go_wp2
          exact unhide H11
    · have hge : ¬ (k : Int) < (N1 : Int) := by omega
      have hsc : scanW (now : Int) (D.dataS a n) 0 (sc0 fro) = s := hq.ends h2 hf (fun h => absurd (by omega) hlt)
      obtain ⟨va, vc, rfl⟩ := own_slice hq.vl.own
      obtain ⟨_, _, _, _, d4, d5, _, d7, _, fz⟩ := hq.vl.cells
      have z7 := fz 7
      have hl := hq.vl.lw.set 7 (.int .i64 (s.L.length : Int))
      have d4' : (wr.setCell ⟨z, 7, none⟩ (.int .i64 (s.L.length : Int))).cell? ⟨z, 4, none⟩ = some (.int .i64 (fro : Int)) := by rw [cell_of_row _ _ _ _ _ _ hl.blk]; rfl
      have HN := hide (unhide HEND k s _ wr _ hq hsc hl)
      clear hq hsc hl HEND fz
      unfold str
      go_wp2_with fail
      refine (unhide HN).mono ?_
      rintro e w7 ⟨c7, rfl, h7⟩
      have H7 := hide h7
      clear HN h7
      go_wp2
      exact unhide H7

end Go.Proofs.YtfggahkimconfaaGreatDoor

/- The document's own log: Open, whatever lies there. -/
namespace Go.Proofs.YtfggahkimconfaaGreatDoor
open Go.RowKit
set_option linter.unusedVariables false

/-- What the document's Open leaves: no log, or the log that opn tells. -/
def VOA (A : Nat → Prop) (w : World) (B y : Nat) (R : Dk × Option Lg × Int) (e : Ending) (w' : World) : Prop :=
  (R.2.1 = none ∧ (∃ q, e = .returned (.tuple #[.pointer q, .int .i64 R.2.2])) ∧ YA A w' B y R.1 ∧ Fr3 (fun _ => False) B w w') ∨
  (∃ g z v, R.2.1 = some g ∧ R.2.2 = 0 ∧ e = .returned (.tuple #[.pointer (some ⟨z, 0, none⟩), .int .i64 0]) ∧ w.heap.size ≤ z ∧ (∀ k, v.ownBlock = some k → w.heap.size ≤ k) ∧ VL w' B z y v g ∧ YA (fun k => A k ∧ v.ownBlock ≠ some k) w' B y R.1 ∧ Fr3 (fun _ => False) B w w')
theorem vOpen_any (A : Nat → Prop) (w : World) (B y : Nat) (D : Dk) (L n' : Nat) (hY : YA A w B y D) (hO : Okd D L n') (hn : n' ≤ 900) (hw : ∀ k, w.heap.size ≤ k → A k) (at_ size : Int) (ha : -9223372036854775808 ≤ at_ ∧ at_ ≤ 9223372036854775807) (hs : -9223372036854775808 ≤ size ∧ size ≤ 9223372036854775807) :
    Calls Tryz.prog 10 #[.pointer (some ⟨y, 0, none⟩), .int .i64 at_, .int .i64 size] w (VOA A w B y (D.opn at_ size)) := by
  by_cases hb : ¬ placeOk D at_ size ∨ D.dark = true ∨ D.headAt at_.toNat = none
  · have hnone : (D.opn at_ size).2.1 = none := by
      unfold Dk.opn
      by_cases hp : placeOk D at_ size
      · rw [if_pos hp]
        by_cases hd : D.dark = true
        · rw [if_pos hd]
        · rw [if_neg hd]
          have hh : D.headAt at_.toNat = none := by
            rcases hb with h | h | h
            · exact absurd hp h
            · exact absurd h hd
            · exact h
          rw [hh]
      · rw [if_neg hp]
    refine (vOpen_bad A w B y D L n' hY hO at_ size ha hs hb).mono ?_
    rintro e w' ⟨rfl, h1, h2⟩
    exact .inl ⟨hnone, ⟨none, rfl⟩, h1, h2.three⟩
  · have hp : placeOk D at_ size := Classical.byContradiction fun h => hb (.inl h)
    have hd : D.dark = false := by
      cases h : D.dark with
      | true => exact absurd (.inr (.inl h)) hb
      | false => rfl
    cases hh : D.headAt at_.toNat with
    | none => exact absurd (.inr (.inr hh)) hb
    | some h =>
      have hmost := hO.most
      have hlen := hO.len
      have hp' := hp
      obtain ⟨q1, q2, q3, q4⟩ := hp
      obtain ⟨a, rfl⟩ : ∃ a : Nat, at_ = a := ⟨at_.toNat, by omega⟩
      obtain ⟨n, rfl⟩ : ∃ n : Nat, size = n := ⟨size.toNat, by omega⟩
      rw [Int.toNat_natCast] at hh
      have hex : ∃ b0, D.lasts[a]? = some b0 ∧ readS b0 = some h ∧ h.data.length = 4 := by
        unfold Dk.headAt at hh
        cases hl : D.lasts[a]? with
        | none => rw [hl] at hh; cases hh
        | some l =>
          rw [hl] at hh
          simp only at hh
          cases hr : readS l with
          | none => rw [hr] at hh; cases hh
          | some r =>
            rw [hr] at hh
            simp only at hh
            by_cases h4 : r.data.length = 4
            · rw [if_pos h4] at hh
              cases hh
              exact ⟨l, rfl, hr, h4⟩
            · rw [if_neg h4] at hh
              cases hh
      obtain ⟨b0, hb0, hr, h4⟩ := hex
      have hopn : D.opn (a : Int) (n : Int) = (((D.found a n h).nxt D (num h.data)).1, if ((D.found a n h).nxt D (num h.data)).2.2 = 0 then some ((D.found a n h).nxt D (num h.data)).2.1 else none, ((D.found a n h).nxt D (num h.data)).2.2) := by
        unfold Dk.opn
        rw [if_pos hp', if_neg (by rw [hd]; decide)]
        simp only [Int.toNat_natCast, hh]
      rw [hopn]
      refine (vOpen_ok A w B y D L n' hY hO hn hw a n (by omega) (by omega) (by omega) hd b0 hb0 h hr h4).mono ?_
      rintro e w' ⟨z, v, rfl, hz, hv, hl, hya, hf⟩
      by_cases hc : ((D.found a n h).nxt D (num h.data)).2.2 = 0
      · refine .inr ⟨_, z, v, if_pos hc, hc, by rw [hc], hz, hv, hl, hya, hf⟩
      · exact .inl ⟨if_neg hc, ⟨_, rfl⟩, hya.mono (fun k hk => hk.1), hf⟩

end Go.Proofs.YtfggahkimconfaaGreatDoor
