/- Joined: PlK2 PkQ PkE PkF. -/
import Derived.Test.YtdcoknnjgpdigaaGreatDoorJP4
import Derived.Test.YtdcoknnjgpdigaaGreatDoorJP15
import Derived.Test.YtdcoknnjgpdigaaGreatDoorJP9
import Derived.Deep.RegionLaw
import Derived.Laws.ResultCell

/- What the walks ask of the program's pool besides: its reader and its writer. -/
namespace Go.Proofs.YtdcoknnjgpdigaaGreatDoor
open Go.RowKit
set_option linter.unusedVariables false

end Go.Proofs.YtdcoknnjgpdigaaGreatDoor

/- The landed pool: bytesOf, Write. -/
namespace Go.Proofs.YtdcoknnjgpdigaaGreatDoor
open Go.RowKit
set_option linter.unusedVariables false

theorem kbodyE_le {l : List Ent} {x : Ent} (h : okE l x = true) : (bodyE x).length ≤ 260 := by
  have ht := okE_tag h
  unfold bodyE
  unfold okE at h
  rcases ht with t | t | t | t | t | t | t <;> simp [t] at h ⊢ <;> simp [bytesW_len]
  have := h.1
  unfold textB at this
  simp at this
  omega
/-- Numbers put behind bytes of one's own. -/
theorem kz : bytesE ent0 = [] := rfl
theorem rightAt_or {l : List Ent} {k : Nat} (h : rightAt l k = true) : (gapE l k = true ∧ atE l (k : Int) = ent0) ∨ (gapE l k = false ∧ okE l (atE l (k : Int)) = true) := by
  unfold rightAt at h
  cases hg : gapE l k
  · rw [hg, if_neg (by simp), Bool.and_eq_true] at h
    exact .inr ⟨rfl, h.1⟩
  · rw [hg, if_pos rfl, decide_eq_true_eq] at h
    exact .inl ⟨rfl, h⟩
theorem take_bytes {l : List Ent} {k : Nat} (hk : k < l.length) : (l.take (k + 1)).flatMap bytesE = (l.take k).flatMap bytesE ++ bytesE (atE l (k : Int)) := by
  have e : l[k]? = some (atE l (k : Int)) := by rw [atE_nat, List.getElem?_eq_getElem hk]; rfl
  rw [List.take_add_one, e, List.flatMap_append]
  simp
theorem bytesE_len {l : List Ent} {x : Ent} (h : okE l x = true) : (bytesE x).length ≤ 300 := by
  have h1 := kbodyE_le h
  unfold bytesE
  split
  · simp
  · rw [List.length_cons]
    omega
theorem take_len {l : List Ent} (h : ∀ i, i < l.length → rightAt l i = true) : ∀ k, k ≤ l.length → ((l.take k).flatMap bytesE).length ≤ 300 * k
  | 0, _ => by simp
  | k + 1, hk => by
    rw [take_bytes (by omega), List.length_append]
    have ih := take_len h k (by omega)
    rcases rightAt_or (h k (by omega)) with ⟨_, e⟩ | ⟨_, e⟩
    · rw [e, kz, List.length_nil]
      omega
    · have := bytesE_len e
      omega
theorem all_bytes {l : List Ent} (h0 : l[0]? = some ent0) : bytesW 2 (l.length : Int) ++ (l.take l.length).flatMap bytesE = bytesP l := by
  unfold bytesP
  congr 1
  rw [List.take_length]
  cases l with
  | nil => rfl
  | cons y s =>
    simp at h0
    subst h0
    rw [List.flatMap_cons, kz]
    rfl
theorem kfr_es {F : Nat → Prop} {B : Nat} {w w' : World} {a : Option Addr} {n : Nat} {l : List Ent} (f : Fr6 F B w w') (h : Es w a n l) (hf : ∀ b o, a = some ⟨b, o, none⟩ → 0 < n → ¬ F b) : Es w' a n l := by
  refine ⟨h.1, ?_⟩
  rcases h.2 with h0 | ⟨b, o, e, hE⟩
  · exact .inl h0
  · by_cases hn : n = 0
    · exact .inl hn
    · refine .inr ⟨b, o, e, fun ad ead j u hu => ?_⟩
      have hc := hE ad ead j u hu
      injection ead with ead
      subst ead
      rw [Addr.add_mid] at hc ⊢
      exact (World.cell?_of_block (a := ⟨b, o + j, none⟩) (f.other b (World.block_lt_of_cell? w _ hc) (hf b o e (by omega)))).trans hc

set_option maxHeartbeats 3200000 in
set_option maxRecDepth 100000 in
theorem kbytesOf_any (w : World) (a : Option Addr) (n c : Nat) (l : List Ent) (h : Es w a n l) (hc : checkP l = true) (hf : ∀ x ∈ l, EntFit x) :
    Calls Tryz.prog 89 #[.slice a n c] w fun e w' => ∃ v, e = .returned v ∧ w'.ownsRow w.heap.size 5 1 v (bytesP l).length (bv (bytesP l)) ∧ Below w.heap.size w w' := by
  obtain ⟨⟨hl1, hl2⟩, hall⟩ := (checkP_all l).1 hc
  have hl0 := ((checkP_right.1 hc).2).1
  have hln := h.1
  have HM := hide (eMake_any w)
  have HE := hide h
  have HALL := hide hall
  have HL0 := hide hl0
  clear h hall hl0 hc
  go_enter Tryz.func89, Tryz.ntmps89
  go_wp2_with fail
  refine (unhide HM).mono ?_
  rintro e w1 ⟨x, F, rfl, r1, f1⟩
  have S1 := WS.start r1
  have F1 := hide f1
  have hsz1 := f1.size
  clear r1 f1 HM
  go_wp2_with fail
  refine (ws_u S1 hsz1 2 (n : Int) (by decide) (by unfold fitsW; rw [if_neg (by decide), if_neg (by decide)]; refine ⟨by decide, by omega, ?_⟩; show (n : Int) < 65536; omega) (by unfold Rng; omega) (by simp) (by unfold Rng; omega)).mono ?_
  rintro e w2 ⟨rfl, S2⟩
  rw [List.nil_append] at S2
  have SS2 := hide S2
  clear S1 S2
  go_wp2
  go_loopw [14] (fun i wr => ∃ k : Nat, k ≤ n ∧ i = .int .i64 k ∧ WS F w1 w.heap.size x (bytesW 2 (n : Int) ++ (l.take k).flatMap bytesE) wr) (fun i _ => n - (intOf i).toNat)
  case atStart => exact ⟨0, by omega, rfl, by simpa using unhide SS2⟩
  case round =>
    obtain ⟨k, hk, rfl, hS⟩ := hrel
    have FW : Hid (Below w.heap.size w wr) := (unhide F1).trans hS.fr.below
    have hlenk := take_len (unhide HALL) k (by omega)
    by_cases hlt : k < n
    case neg =>
      have hkn : k = n := by omega
      subst hkn
      have hb : bytesW 2 (k : Int) ++ (l.take k).flatMap bytesE = bytesP l := by
        have := all_bytes (unhide HL0)
        rw [hln] at this
        exact this
      rw [hb] at hS
      obtain ⟨F', r1, r2⟩ := hS.ex
      have hlen : (bytesP l).length ≤ 1000000 := by
        rw [← hb, List.length_append, bytesW_len]
        show 2 + _ ≤ _
        omega
      have HA := hide (eAll_any F' wr w.heap.size x (bytesP l) r1 (by omega))
      clear hS r1 r2 hb HE HALL HL0 SS2
      go_wp2_with fail
      refine (unhide HA).mono ?_
      rintro e w3 ⟨v, rfl, o3, f3⟩
      have O3 := hide (own_base o3 (unhide FW).size)
      have F3 := hide ((unhide FW).trans (f3.mono (unhide FW).size))
      clear o3 f3 HA
      go_wp2
      go_ret
      exact ⟨_, rfl, unhide O3, unhide F3⟩
    case pos =>
      have hlt1 : (k : Int) < (n : Int) := by omega
      have hk0 : (0 : Int) ≤ (k : Int) := by omega
      have es := (unhide HE).below (unhide FW)
      have hGap := kisGap_any
      obtain ⟨b, o, rfl, hE⟩ := es.2.resolve_left (by omega)
      obtain ⟨q0, q1, q2, q3, q4⟩ := ents_at hE (k := k) (by omega)
      have hxm := List.mem_of_getElem? (es.at hlt)
      have hxf := hf _ hxm
      have hro := rightAt_or (unhide HALL k (by omega))
      have htb := take_bytes (l := l) (k := k) (by omega)
      have b0 : Below wr.heap.size wr (wr.alloc (.cells #[.int .i64 (atE l (k : Int)).tag, .string ⟨(atE l (k : Int)).text.toArray⟩, .int .i64 (atE l (k : Int)).n, .int .i64 (atE l (k : Int)).a, .int .i64 (atE l (k : Int)).b] 55)) := (Below.refl _ _).alloc (Nat.le_refl _) _
      have hx0 := heap_alloc_last wr (.cells #[.int .i64 (atE l (k : Int)).tag, .string ⟨(atE l (k : Int)).text.toArray⟩, .int .i64 (atE l (k : Int)).n, .int .i64 (atE l (k : Int)).a, .int .i64 (atE l (k : Int)).b] 55)
      have HG := hide (kisGap_any _ _ n c l (es.below b0) k hlt (by omega))
      have S3 := hide (hS.below hsz1 b0)
      have HX := hide hx0
      clear es hE hS hGap hxm hx0
      rcases hro with ⟨hg, he⟩ | ⟨hg, ho⟩
      · rw [hg] at HG
        rw [he, kz, List.append_nil] at htb
        have HTB := hide htb
        clear htb b0 he
        generalize atE l (k : Int) = y at *
        go_wp2_with fail
        generalize wr.alloc (.cells #[.int .i64 y.tag, .string ⟨y.text.toArray⟩, .int .i64 y.n, .int .i64 y.a, .int .i64 y.b] 55) = w3 at *
        refine (unhide HG).mono ?_
        rintro e w4 ⟨rfl, e0⟩
        have e0' := e0.symm
        clear e0
        subst e0'
        go_wp2
        go_roundw
        case rel => exact ⟨k + 1, by omega, by go_num, by rw [unhide HTB]; exact unhide S3⟩
        case measure => simp [intOf]; omega
      · rw [hg] at HG
        have HTB := hide htb
        obtain ⟨F', r1, r2⟩ := (unhide S3).ex
        have hbl : (bytesW 2 (n : Int) ++ (l.take k).flatMap bytesE).length ≤ 10000000 := by
          rw [List.length_append, bytesW_len]
          show 2 + _ ≤ _
          omega
        have HW := hide (kwriteEntry_any F' _ w.heap.size x _ r1 (Nat.le_trans (unhide FW).size b0.size) hbl l (by omega) (atE l (k : Int)) ho hxf)
        have R2 := hide r2
        clear htb b0 r1 r2
        generalize atE l (k : Int) = y at *
        unfold entV at HW
        go_wp2_with fail
        obtain ⟨d0, d1, d2, d3, d4⟩ := entC (unhide HX)
        generalize wr.alloc (.cells #[.int .i64 y.tag, .string ⟨y.text.toArray⟩, .int .i64 y.n, .int .i64 y.a, .int .i64 y.b] 55) = w3 at *
        refine (unhide HG).mono ?_
        rintro e w4 ⟨rfl, e0⟩
        have e0' := e0.symm
        clear e0
        subst e0'
        clear HG
        go_wp2_with fail
        refine (unhide HW).mono ?_
        rintro e w5 ⟨rfl, S5⟩
        have S6 := hide ((unhide S3).leave hsz1 (unhide R2) (Below.refl _ _) S5)
        clear HW S5 d0 d1 d2 d3 d4
        go_wp2
        go_roundw
        case rel => exact ⟨k + 1, by omega, by go_num, by rw [unhide HTB, ← List.append_assoc]; exact unhide S6⟩
        case measure => simp [intOf]; omega

set_option maxHeartbeats 3200000 in
theorem kWrite_any (F : Nat → Prop) (w : World) (B x : Nat) (bs : List UInt8) (a : Option Addr) (n c : Nat) (l : List Ent) (h : WR F w B x bs) (hI : EIn w a n c l) (hfar : ∀ b o, a = some ⟨b, o, none⟩ → 0 < n → ¬ F b) (hs : bs.length ≤ 1000000) :
    Calls Tryz.prog 58 #[.pointer (some ⟨x, 0, none⟩), .slice a n c] w fun e w' => e = .returned (.int .i64 (if checkP l = true then 0 else 70)) ∧ (∃ F', WR F' w' B x (if checkP l = true then bs ++ bytesP l else bs) ∧ ∀ j, F' j → F j ∨ w.heap.size ≤ j) ∧ Fr6 F B w w' := by
  have hB : B ≤ w.heap.size := by
    obtain ⟨y, d, rfl, h⟩ := h
    exact Nat.le_trans h.hx (Nat.le_of_lt h.xlt)
  have hsm : n ≤ 140737488351232 := by have := hI.small; omega
  have hE := hI.arg.es
  have hfit := hI.fit
  have HB := hide (eBytes_any F w B x bs none 0 0 [] h ⟨⟨rfl, .inl rfl⟩, by omega, by omega, fun _ => ⟨rfl, rfl⟩⟩ (fun b o e => by cases e) (by omega))
  rw [List.append_nil] at HB
  have S0 := hide (WS.start h)
  obtain ⟨T, hT⟩ : ∃ T : Int, T = if checkP l = true then 0 else 70 := ⟨_, rfl⟩
  obtain ⟨R, hR⟩ : ∃ R : List UInt8, R = if checkP l = true then bs ++ bytesP l else bs := ⟨_, rfl⟩
  rw [← hT, ← hR]
  have HTT := hide hT
  have HRR := hide hR
  clear hT hR
  have HE := hide hE
  have HFAR := hide hfar
  clear h hI hfar hE
  go_enter Tryz.func58, Tryz.ntmps58
  go_wp2_with fail
  refine (unhide HB).mono ?_
  rintro e w1 ⟨rfl, ⟨F1, r1, r2⟩, f1⟩
  have S1 := hide ((unhide S0).next (fun j hj => .inl hj) r1 r2 f1)
  have es1 := kfr_es f1 (unhide HE) (unhide HFAR)
  have HC := hide (kCheck_any w1 a n c l es1 hsm hfit)
  have HE1 := hide es1
  clear HB r1 r2 f1 es1 S0 HE HFAR
  by_cases hc : checkP l = true
  case neg =>
    rw [if_neg hc] at HC
    have e1 : Hid (T = 70) := (unhide HTT).trans (if_neg hc)
    have e2 : Hid (R = bs) := (unhide HRR).trans (if_neg hc)
    clear hc HTT HRR
    go_wp2_with fail
    refine (unhide HC).mono ?_
    rintro e w2 ⟨rfl, f2⟩
    have S2 := hide ((unhide S1).below hB f2)
    clear f2 HC S1
    go_wp2
    go_ret
    rw [unhide e1, unhide e2]
    exact ⟨rfl, (unhide S2).ex, (unhide S2).fr⟩
  case pos =>
    rw [if_pos hc] at HC
    have e1 : Hid (T = 0) := (unhide HTT).trans (if_pos hc)
    have e2 : Hid (R = bs ++ bytesP l) := (unhide HRR).trans (if_pos hc)
    clear HTT HRR
    go_wp2_with fail
    refine (unhide HC).mono ?_
    rintro e w2 ⟨rfl, f2⟩
    have S2 := hide ((unhide S1).below hB f2)
    have HO := hide (kbytesOf_any w2 a n c l ((unhide HE1).below f2) hc hfit.2)
    clear f2 HC S1 HE1
    have hlen : (bytesP l).length ≤ 1000000 := by
      obtain ⟨⟨hl1, hl2⟩, hall⟩ := (checkP_all l).1 hc
      have := take_len hall l.length (Nat.le_refl _)
      rw [← all_bytes ((checkP_right.1 hc).2).1, List.length_append, bytesW_len]
      show 2 + _ ≤ _
      omega
    clear hc
    go_wp2_with fail
    refine (unhide HO).mono ?_
    rintro e w3 ⟨v, rfl, o3, f3⟩
    obtain ⟨a3, c3, rfl, _⟩ := own_form o3
    obtain ⟨F2, r1, r2⟩ := (unhide S2).ex
    have r1' := kwr_below r1 f3
    have S3 := (unhide S2).below hB f3
    have HW := hide (eBytes_any F2 w3 B x bs a3 (bytesP l).length c3 (bytesP l) r1' (arg_of_own rfl o3) (fun b o e hn hb => by
      have h1 := (kwr_lt r1 b hb).2
      have h2 := (o3.lt b (by rw [e]; rfl)).1
      omega) (by omega))
    have SS := hide S3
    have R2 := hide r2
    clear HO o3 f3 S2 r1 r1' r2 S3
    generalize (bytesP l).length = m at *
    go_wp2_with fail
    refine (unhide HW).mono ?_
    rintro e w4 ⟨rfl, ⟨F4, q1, q2⟩, f4⟩
    have S4 := hide ((unhide SS).next (unhide R2) q1 q2 f4)
    clear HW q1 q2 f4 SS
    go_wp2
    go_ret
    rw [unhide e1, unhide e2]
    exact ⟨rfl, (unhide S4).ex, (unhide S4).fr⟩

end Go.Proofs.YtdcoknnjgpdigaaGreatDoor

/- The landed pool: meaning. -/
namespace Go.Proofs.YtdcoknnjgpdigaaGreatDoor
open Go.RowKit
set_option linter.unusedVariables false

end Go.Proofs.YtdcoknnjgpdigaaGreatDoor

/- The landed pool: Text, Const. -/
namespace Go.Proofs.YtdcoknnjgpdigaaGreatDoor
open Go.RowKit
set_option linter.unusedVariables false

end Go.Proofs.YtdcoknnjgpdigaaGreatDoor
