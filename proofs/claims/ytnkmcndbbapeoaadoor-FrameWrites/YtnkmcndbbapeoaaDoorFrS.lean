/- Records in memory; the contracts of the document's own Scan and All, and SameRecords. -/
import Derived.Test.YtnkmcndbbapeoaaDoorFrF
namespace Go.Proofs.YtnkmcndbbapeoaaDoor
open Go.RowKit
set_option linter.unusedVariables false

/-- A record's two cells. -/
def rv (rs : List Rec) : List Value := rs.flatMap fun r => [.int .i64 r.epoch, .string ⟨r.data.toArray⟩]
theorem rv_len (rs : List Rec) : (rv rs).length = rs.length * 2 := by
  induction rs with
  | nil => rfl
  | cons r rs ih => simp only [rv, List.flatMap_cons, List.length_append, List.length_cons, List.length_nil] at ih ⊢; omega
theorem rv_append (a b : List Rec) : rv (a ++ b) = rv a ++ rv b := by simp [rv]
theorem rv_one (rs : List Rec) : ∀ v ∈ rv rs, v.oneCell' = true := by
  intro v hv
  simp only [rv, List.mem_flatMap, List.mem_cons, List.not_mem_nil, or_false] at hv
  obtain ⟨r, _, rfl | rfl⟩ := hv <;> rfl
theorem rv_get {rs : List Rec} {k : Nat} {r : Rec} (h : rs[k]? = some r) : (rv rs)[2 * k]? = some (.int .i64 r.epoch) ∧ (rv rs)[2 * k + 1]? = some (.string ⟨r.data.toArray⟩) := by
  induction rs generalizing k with
  | nil => simp at h
  | cons x rs ih =>
    cases k with
    | zero => simp at h; subst h; exact ⟨rfl, rfl⟩
    | succ k =>
      have := ih (by simpa using h)
      have e : rv (x :: rs) = .int .i64 x.epoch :: .string ⟨x.data.toArray⟩ :: rv rs := rfl
      rw [e, show 2 * (k + 1) = 2 * k + 1 + 1 by omega]
      exact this
theorem infoR : (Tryd.prog.info? 24).map (fun i => (i.zero, i.size, i.bytes)) = some (some (.agg #[.int .i64 0, .string ⟨#[]⟩]), 2, 24) := by kernel_rfl

/-- Records that lie in memory. -/
def RecsAt (w : World) (a : Option Addr) (rs : List Rec) : Prop := ∀ ad, a = some ad → ∀ j u, (rv rs)[j]? = some u → w.cell? (ad.add j) = some u
def Rs (w : World) (a : Option Addr) (n : Nat) (rs : List Rec) : Prop := rs.length = n ∧ (n = 0 ∨ ∃ b o, a = some ⟨b, o, none⟩ ∧ RecsAt w (some ⟨b, o, none⟩) rs)
theorem RecsAt.below {w w' : World} {a : Option Addr} {rs : List Rec} (h : RecsAt w a rs) (f : Below w.heap.size w w') : RecsAt w' a rs := fun ad e j u hu => by
  have h1 := h ad e j u hu
  exact (f.cell (World.block_lt_of_cell? w _ h1)).trans h1
theorem Rs.below {w w' : World} {a : Option Addr} {n : Nat} {rs : List Rec} (h : Rs w a n rs) (f : Below w.heap.size w w') : Rs w' a n rs := by
  rcases h with ⟨h1, h2 | ⟨b, o, e, h2⟩⟩
  · exact ⟨h1, .inl h2⟩
  · exact ⟨h1, .inr ⟨b, o, e, h2.below f⟩⟩
theorem recs_get {w : World} {b o : Nat} {rs : List Rec} (h : RecsAt w (some ⟨b, o, none⟩) rs) {k : Nat} {r : Rec} (hk : rs[k]? = some r) : w.cell? ⟨b, o + k * 2, none⟩ = some (.int .i64 r.epoch) ∧ w.cell? ⟨b, o + k * 2 + 1, none⟩ = some (.string ⟨r.data.toArray⟩) := by
  have := rv_get hk
  have h1 := h _ rfl _ _ this.1
  have h2 := h _ rfl _ _ this.2
  rw [Addr.add_mid] at h1 h2
  rw [show o + 2 * k = o + k * 2 by omega] at h1
  rw [show o + (2 * k + 1) = o + k * 2 + 1 by omega] at h2
  exact ⟨h1, h2⟩
theorem rs_of_own {w : World} {base n : Nat} {a : Option Addr} {c : Nat} {rs : List Rec} (h : w.ownsRow base 24 2 (.slice a n c) n (rv rs)) : Rs w a n rs := by
  have hl := h.1
  rw [rv_len] at hl
  have hl' : rs.length = n := by omega
  rcases h.2 with ⟨e, h0⟩ | ⟨q, cap, cur, e, _⟩
  · exact ⟨hl', .inl h0⟩
  · injection e with e
    subst e
    exact ⟨hl', .inr ⟨q, 0, rfl, fun ad e => by injection e with e; subst e; exact h.cells (g := q) rfl⟩⟩

/-- A slice from k on. -/
theorem arg_from {w : World} {a : Option Addr} {n cap : Nat} {l : List UInt8} (h : Arg w a n cap l) (k : Nat) (hk : k ≤ n) : Bs w (if cap = k then a else Option.map (fun x => x.add k) a) (n - k) (l.drop k) := by
  have := sub_bs h k n hk (Nat.le_refl _)
  rw [List.take_of_length_le (by have := h.bs.1; omega)] at this
  exact this
theorem own2_below {w w' : World} {base n : Nat} {e : TypeId} {v : Value} {xs : List Value} (h : w.ownsRow base e 2 v n xs) (f : Below w.heap.size w w') : w'.ownsRow base e 2 v n xs :=
  own_of_block h (fun k hk => f.block k (h.lt k hk).2)
theorem own2_form {w : World} {base n : Nat} {e : TypeId} {v : Value} {xs : List Value} (h : w.ownsRow base e 2 v n xs) : ∃ a c, v = .slice a n c := by
  rcases h.2 with ⟨rfl, rfl⟩ | ⟨q, cap, cur, rfl, _⟩
  · exact ⟨none, 0, rfl⟩
  · exact ⟨_, cap, rfl⟩

/-- Between two rounds of Scan. -/
structure SR (w : World) (l : List UInt8) (n k : Nat) (last : Int) (v : Value) (W : World) : Prop where
  le : k ≤ n
  lo : 0 ≤ last
  hi : last ≤ 4294967295
  ex : ∃ done, scanL l 0 = (done ++ (scanL (l.drop k) last).1, k + (scanL (l.drop k) last).2) ∧ done.length * 12 ≤ k ∧ W.ownsRow w.heap.size 24 2 v done.length (rv done)
  fr : Below w.heap.size w W

theorem first_yes {m : List UInt8} {last : Int} (hc : firstE m = 0 ∧ last ≤ (firstR m).epoch) (hlo : 0 ≤ last) : firstQ m = firstR m ∧ firstN m = num m + 12 ∧ num m + 12 ≤ m.length ∧ 0 ≤ (firstR m).epoch ∧ (firstR m).epoch ≤ 4294967295 := by
  refine ⟨by unfold firstQ; rw [if_pos hc.1], by unfold firstN; rw [if_pos hc.1], first_pos hc.1, Int.le_trans hlo hc.2, ?_⟩
  have : num (m.drop 4) < 4294967296 := num_le _
  have e : (firstR m).epoch = (num (m.drop 4) : Int) := rfl
  rw [e]
  omega
theorem rv_single (r : Rec) : rv [r] = [.int .i64 r.epoch, .string ⟨r.data.toArray⟩] := rfl
/-- A record, and a list of it alone. -/
theorem two_recs (w : World) (ep : Int) (st : ByteArray) :
    Below w.heap.size w ((w.alloc (.cells #[.int .i64 ep, .string st] 24)).alloc (.cells #[.int .i64 ep, .string st] 24)) ∧
    (∀ i u, [Value.int .i64 ep, .string st][i]? = some u → ((w.alloc (.cells #[.int .i64 ep, .string st] 24)).alloc (.cells #[.int .i64 ep, .string st] 24)).cell? (Addr.add ⟨w.heap.size + 1, 0, none⟩ i) = some u) ∧
    ((w.alloc (.cells #[.int .i64 ep, .string st] 24)).alloc (.cells #[.int .i64 ep, .string st] 24)).cell? ⟨w.heap.size, 0, none⟩ = some (.int .i64 ep) := by
  refine ⟨((Below.refl _ _).alloc (Nat.le_refl _) _).alloc (by simp) _, ?_, cell_alloc (by rw [cell_of_row _ _ _ _ _ _ (heap_alloc_last w _)]; rfl) _⟩
  have := World.news_of_block (heap_alloc_last (w.alloc (.cells #[.int .i64 ep, .string st] 24)) (.cells [Value.int .i64 ep, .string st].toArray 24))
  rw [World.size_alloc] at this
  exact this
theorem SR.next {w : World} {l : List UInt8} {n k M : Nat} {last ep : Int} {v3 : Value} {w3 : World} {done : List Rec} {m : List UInt8} (hm : l.drop k = m) (hc : firstE m = 0 ∧ last ≤ (firstR m).epoch) (hM : num m + 12 = M) (hep : (firstR m).epoch = ep) (hkM : k + M ≤ n) (h0 : 0 ≤ last) (h1 : ep ≤ 4294967295)
    (hd : scanL l 0 = (done ++ (scanL m last).1, k + (scanL m last).2)) (hdl : done.length * 12 ≤ k) (o : w3.ownsRow w.heap.size 24 2 v3 (done.length + 1) (rv done ++ rv [firstR m])) (f : Below w.heap.size w w3) : SR w l n (k + M) ep v3 w3 := by
  refine ⟨hkM, by have := hc.2; omega, h1, ⟨done ++ [firstR m], ?_, by simp; omega, ?_⟩, f⟩
  · rw [hd, scan_yes hc, hM, hep]
    have e5 : m.drop M = l.drop (k + M) := by rw [← hm, List.drop_drop]
    rw [e5]
    refine Prod.ext (by simp) ?_
    simp
    omega
  · rw [rv_append, List.length_append]
    exact o

set_option maxHeartbeats 1600000 in
theorem zScan_any (w : World) (a : Option Addr) (n cap : Nat) (l : List UInt8) (hA : Arg w a n cap l) (hs : n ≤ 1000000) :
    Calls Tryd.prog 20 #[.slice a n cap] w fun e w' => ∃ v, e = .returned (.tuple #[v, .int .i64 ((scanL l 0).2 : Int)]) ∧ w'.ownsRow w.heap.size 24 2 v (scanL l 0).1.length (rv (scanL l 0).1) ∧ Below w.heap.size w w' := by
  have hln := hA.bs.1
  have hroom := hA.room
  have hmost := hA.most
  have HA := hide hA
  have hown0 : (w.alloc (.cells #[] 24)).ownsRow w.heap.size 24 2 (.slice (some ⟨w.heap.size, 0, none⟩) 0 0) 0 [] := World.ownsRow_made w #[] 0 (Nat.le_refl _) (by simp) rfl
  have hS0 : SR w l n 0 0 (.slice (some ⟨w.heap.size, 0, none⟩) 0 0) (w.alloc (.cells #[] 24)) := ⟨by omega, by omega, by omega, ⟨[], by simp, by simp, hown0⟩, (Below.refl _ _).alloc (Nat.le_refl _) _⟩
  have HS0 := hide hS0
  obtain ⟨i0, hi, hz0, hz1, hz2⟩ := info_parts infoR
  clear hA hown0 hS0
  generalize hscan : scanL l 0 = sc at *
  go_enter Tryd.func20, Tryd.ntmps20
  go_wp2
  go_loopw [4, 5, 6] (fun v i m wr => ∃ (k : Nat) (last : Int), i = .int .i64 k ∧ m = .int .i64 last ∧ SR w l n k last v wr) (fun _ i _ _ => n - (intOf i).toNat)
  case atStart => exact ⟨0, 0, rfl, rfl, unhide HS0⟩
  case round =>
    clear HS0
    obtain ⟨k, last, rfl, rfl, hR⟩ := hrel
    obtain ⟨done, hd, hdl, ho⟩ := hR.ex
    rw [hscan] at hd
    obtain ⟨oa, oc, rfl⟩ := own2_form ho
    have hk := hR.le
    have hk1 : (k : Int) ≤ (n : Int) := by omega
    have hk2 : (n : Int) ≤ (cap : Int) := by omega
    have hbs := (arg_from (unhide HA) k hk).below hR.fr
    obtain ⟨A, hAd⟩ : ∃ A, (if cap = k then a else Option.map (fun x => x.add k) a) = A := ⟨_, rfl⟩
    rw [hAd] at hbs
    have H1 := hide (zFirst_any wr A (n - k) (cap - k) (l.drop k) (by omega) (by omega) (by omega) hbs)
    have hml : (l.drop k).length = n - k := by rw [List.length_drop]; omega
    have HD := hide hd
    have HR := hide hR
    have HO := hide ho
    generalize hm : l.drop k = m at *
    have HM := hide hm
    clear hbs hd hR ho hm
    by_cases hc : firstE m = 0 ∧ last ≤ (firstR m).epoch
    · obtain ⟨e2, e3, hpos, hlo, hhi⟩ := first_yes hc (unhide HR).lo
      have hck : ¬ cap = k := by omega
      rw [if_neg hck] at hAd
      have hle := hc.2
      rw [hc.1, e2, e3] at H1
      unfold recV at H1
      have hrv := rv_single (firstR m)
      have HNX := hide (fun (v3 : Value) (w3 : World) => SR.next (w := w) (n := n) (v3 := v3) (w3 := w3) (unhide HM) hc rfl rfl (by omega) (unhide HR).lo hhi (hscan.trans (unhide HD)) hdl)
      generalize hM : num m + 12 = M at *
      generalize hep : (firstR m).epoch = ep at *
      have g1 : decide (ep < last) = false := by simp; omega
      obtain ⟨K, hK⟩ : ∃ K, k + M = K := ⟨_, rfl⟩
      have hkM : (k : Int) + (M : Int) = (K : Int) := by omega
      have one := rv_one [firstR m]
      rw [hrv] at one HNX
      rw [hK] at HNX
      clear e2 e3 hc hle hep hrv
      generalize hst : (⟨(firstR m).data.toArray⟩ : ByteArray) = st at *
      clear hst
      have HKK : Hid (k < K) := by show k < K; omega
      have hKn : K ≤ n := by omega
      clear hK HD HM hlo hhi hpos hM
      go_wp2_with fail
      refine (unhide H1).mono ?_
      rintro e w1 ⟨rfl, f1⟩
      have fw : Below w.heap.size w w1 := (unhide HR).fr.trans (f1.mono (unhide HR).fr.size)
      obtain ⟨b2, hsrc, hcr⟩ := two_recs w1 ep st
      have hown1 := own2_below (unhide HO) f1
      have HLT := hide hown1.lt
      have hown := own2_below hown1 b2
      have f2 := fw.trans (b2.mono fw.size)
      have hsz := f2.size
      have F2 := hide f2
      have HLO := hide hown.lt
      have HCR := hide hcr
      have hc4 : (done.length + 1) * 24 ≤ 140737488355328 := by omega
      have hc3 : done.length + 1 ≤ maxLen := by unfold maxLen; omega
      clear f1 fw b2 f2 H1 HO hown1 hcr
      go_wp2_with (at_builtin; refine wpList_append_own _ rfl (.tmp 29) (.tmp 31) 22 rfl w.heap.size 24 i0 (.agg #[.int .i64 0, .string ⟨#[]⟩]) 2 24 Tryd.underlying22 hi hz0 hz1 hz2 rfl (by decide) _ _ _ rfl hown ⟨w1.heap.size + 1, 0, none⟩ 1 1 [.int .i64 ep, .string st] rfl rfl hsrc one hc3 hc4 hsz ?_)
      intro v3 w3 o3 g3 _
      have c3 : w3.cell? ⟨w1.heap.size, 0, none⟩ = some (.int .i64 ep) := g3.cell (unhide HCR) (fun e => by
        have := (unhide HLT _ e.symm).2
        simp at this)
      have f3 : Below w.heap.size w w3 := (unhide F2).grown g3 (unhide F2).size (fun x hx => (unhide HLO x hx).1)
      have HS3 := hide (unhide HNX v3 w3 o3 f3)
      clear o3 g3 f3 hown hsrc HNX F2 HLO HLT HCR one
      go_wp2
      go_roundw
      case rel => exact ⟨K, ep, rfl, rfl, unhide HS3⟩
      case measure => have := unhide HKK; simp [intOf]; omega
    · have hsc := scan_no hc
      have hfin : sc = (done, k) := by rw [unhide HD, hsc]; simp
      subst hfin
      have HF : Hid (wr.ownsRow w.heap.size 24 2 (.slice oa done.length oc) done.length (rv done) ∧ Below w.heap.size w wr) := ⟨unhide HO, (unhide HR).fr⟩
      have hE : firstE m ≠ 0 → ∃ x : Int, firstE m = x ∧ ¬ x = 0 := fun h => ⟨_, rfl, h⟩
      by_cases h0 : firstE m = 0
      · have hlt : (firstR m).epoch < last := by
          have : ¬ last ≤ (firstR m).epoch := fun h => hc ⟨h0, h⟩
          omega
        have hpos := first_pos h0
        have hck : ¬ cap = k := by omega
        rw [if_neg hck] at hAd
        have e2 : firstQ m = firstR m := by unfold firstQ; rw [if_pos h0]
        have g1 : decide ((firstR m).epoch < last) = true := by simpa using hlt
        rw [h0, e2] at H1
        unfold recV at H1
        generalize (firstR m).epoch = ep at *
        generalize (⟨(firstR m).data.toArray⟩ : ByteArray) = st at *
        generalize firstN m = q at *
        clear HD HM HO HR hsc hE hc h0 e2 hpos
        go_wp2_with fail
        refine (unhide H1).mono ?_
        rintro e w1 ⟨rfl, f1⟩
        have F1 : Hid (Below wr.heap.size wr (w1.alloc (.cells #[.int .i64 ep, .string st] 24))) := f1.alloc f1.size _
        clear f1 H1
        go_wp2
        go_ret2
        exact ⟨_, rfl, own2_below (unhide HF).1 (unhide F1), (unhide HF).2.trans ((unhide F1).mono (unhide HF).2.size)⟩
      · obtain ⟨x, hx, hx0⟩ := hE h0
        rw [hx] at H1
        unfold recV at H1
        generalize (firstQ m).epoch = ep at *
        generalize (⟨(firstQ m).data.toArray⟩ : ByteArray) = st at *
        generalize firstN m = q at *
        clear HD HM HO HR hsc hE hc h0 hx
        by_cases hck : cap = k
        · rw [if_pos hck] at hAd
          subst hAd
          obtain rfl : k = n := by omega
          subst hck
          rw [show cap - cap = 0 by omega] at H1
          go_wp2_with fail
          refine (unhide H1).mono ?_
          rintro e w1 ⟨rfl, f1⟩
          have F1 : Hid (Below wr.heap.size wr (w1.alloc (.cells #[.int .i64 ep, .string st] 24))) := f1.alloc f1.size _
          clear f1 H1
          go_wp2
          go_ret2
          exact ⟨_, rfl, own2_below (unhide HF).1 (unhide F1), (unhide HF).2.trans ((unhide F1).mono (unhide HF).2.size)⟩
        · rw [if_neg hck] at hAd
          go_wp2_with fail
          refine (unhide H1).mono ?_
          rintro e w1 ⟨rfl, f1⟩
          have F1 : Hid (Below wr.heap.size wr (w1.alloc (.cells #[.int .i64 ep, .string st] 24))) := f1.alloc f1.size _
          clear f1 H1
          go_wp2
          go_ret2
          exact ⟨_, rfl, own2_below (unhide HF).1 (unhide F1), (unhide HF).2.trans ((unhide F1).mono (unhide HF).2.size)⟩

end Go.Proofs.YtnkmcndbbapeoaaDoor
