/- Joined: CfL CfM. -/
import Derived.Test.YtpmhcignenfhgaaDoorJR
import Derived.Test.YtpmhcignenfhgaaDoorJS
import Derived.Test.YtpmhcignenfhgaaDoorJCdC

/- The landed code: instrsOf. -/
namespace Go.Proofs.YtpmhcignenfhgaaDoor
open Go.RowKit
set_option linter.unusedVariables false
set_option maxRecDepth 100000

theorem insL_fuel {bs : List UInt8} {i f g : Nat} (hi : i ≤ bs.length) (hf : bs.length - i ≤ f) (hg : bs.length - i ≤ g) : insL bs f i = insL bs g i := by
  cases h1 : insL bs f i with
  | some l => exact (insL_fit f i l h1 hi g hg).symm
  | none =>
    cases h2 : insL bs g i with
    | none => rfl
    | some l => rw [insL_fit g i l h2 hi f hf] at h1; cases h1
/-- Between two instructions. -/
structure ML (bs : List UInt8) (xs : List Ins) (j : Nat) (wj : Bool) : Prop where
  no : wj = true → insL bs bs.length 0 = none
  yes : wj = false → insL bs bs.length 0 = (insL bs (bs.length - j) j).bind fun r => some (xs ++ r)
  lenf : wj = false → xs.length ≤ j
  len : xs.length ≤ j + 1
  hj : j ≤ bs.length
theorem ML.start (bs : List UInt8) : ML bs [] 0 false := ⟨(fun e => by cases e), (fun _ => by cases h : insL bs bs.length 0 <;> simp), fun _ => Nat.le_refl _, by simp, Nat.zero_le _⟩
theorem ML.next {bs : List UInt8} {xs : List Ins} {j : Nat} (h : ML bs xs j false) (hlt : j < bs.length) {x : Ins} {j' : Nat} {w' : Bool} (g : G9 (insR bs j) false x j' w') (hle : j ≤ j') (h1 : w' = false → j < j') (hj' : j' ≤ bs.length) : ML bs (xs ++ [x]) j' w' := by
  have h2 := h.yes rfl
  obtain ⟨m, hm⟩ : ∃ m, bs.length - j = m + 1 := ⟨bs.length - j - 1, by omega⟩
  have h3 : insL bs (m + 1) j = (insR bs j).bind fun x => (insL bs m x.2).bind fun r => some (x.1 :: r) := by
    conv => lhs; unfold insL
    rw [if_neg (by omega)]
  rw [hm, h3] at h2
  have hl := h.lenf rfl
  refine ⟨fun e => ?_, fun e => ?_, fun e => by simp; have := h1 e; omega, by simp; omega, hj'⟩
  · rcases g.2 rfl with ⟨_, g2⟩ | ⟨g1, g2⟩
    · rw [g2] at e; cases e
    · rw [h2, g1]; rfl
  · rcases g.2 rfl with ⟨g1, g2⟩ | ⟨g1, g2⟩
    · rw [h2, g1]
      simp only [Option.bind_some]
      have := h1 e
      rw [insL_fuel (i := j') (f := m) (g := bs.length - j') hj' (by omega) (Nat.le_refl _)]
      cases insL bs (bs.length - j') j' with
      | none => rfl
      | some r => simp
    · rw [g2] at e; cases e
theorem ML.code {bs : List UInt8} {xs : List Ins} {j : Nat} {wj : Bool} (h : ML bs xs j wj) (hd : ¬ j < bs.length ∨ wj = true) :
    (wj = false → insL bs bs.length 0 = some xs) ∧ codeP bs = if wj = false ∧ xs ≠ [] ∧ leadsP xs = true then some xs else none := by
  have h1 : wj = false → insL bs bs.length 0 = some xs := fun e => by
    have hj : j = bs.length := by have := hd.resolve_right (by rw [e]; simp); have := h.hj; omega
    rw [h.yes e, hj, Nat.sub_self]
    simp [insL]
  refine ⟨h1, ?_⟩
  unfold codeP
  cases wj with
  | true => rw [h.no rfl]; simp
  | false => rw [h1 rfl]; simp
theorem rising_of {bs : List UInt8} {xs : List Ins} (h : insL bs bs.length 0 = some xs) : Rising xs := fun p q x y hpq hx hy => insL_rise _ _ _ h p q x y hpq hx hy
structure InsOk (w : World) (base : Nat) (r : InR) : Prop where
  own : Orw cac 51 2 w base r.s.v r.x.cs
  fit : InsFit r.x
theorem InsOk.keep {w w' : World} {base : Nat} {r : InR} (h : InsOk w base r) (f : ∀ (k : Nat) (Z : Array Value), w.heap[k]? = some (.cells Z 51 (0, 0)) → w'.heap[k]? = w.heap[k]?) : InsOk w' base r :=
  ⟨h.own.below fun k hk => by
    obtain ⟨X, fr, hX, hfr⟩ := orw_blk0 h.own hk
    subst hfr
    exact f k X hX, h.fit⟩
theorem InsOk.base {w : World} {base base' : Nat} {r : InR} (h : InsOk w base r) (hb : base' ≤ base) : InsOk w base' r := ⟨h.own.base hb, h.fit⟩
theorem InsOk.ls {w : World} {base : Nat} {r : InR} (h : InsOk w base r) : Ls 2 cac w r.s.a r.s.n r.x.cs ∧ r.s.n ≤ 100000000000 := by
  have h1 : Ls 2 cac w r.s.a r.s.n r.x.cs := Orw.ls rkC h.own
  exact ⟨h1, by have := h1.1; have := h.fit.2.2.2.2.2; omega⟩
def mu9b (C : Cr9) (W : World) : Nat := match W.cell? ⟨C.X, 42, none⟩, W.cell? ⟨C.x, 1, none⟩ with
  | some (.bool true), _ => 0
  | _, some (.int _ k) => C.bs.length + 1 - k.toNat
  | _, _ => 0
theorem mu9b_is {C : Cr9} {i : Nat} {bg : Int} {wr : Bool} {W : World} (h : Rd9 C i bg wr W) : mu9b C W = if wr = true then 0 else C.bs.length + 1 - i := by
  obtain ⟨F, y, c, _, h1⟩ := h.rd
  unfold mu9b
  rw [h.cells.2.2.1, h1.c1]
  cases wr <;> simp
theorem h9Left_any (C : Cr9) (i : Nat) (bg : Int) (wr : Bool) (w : World) (h : Rd9 C i bg wr w) : Calls Tryd.prog 37 #[.pointer (some ⟨C.x, 0, none⟩)] w fun e w' => e = .returned (.int .i64 ((C.bs.length : Int) - i)) ∧ Below w.heap.size w w' := by
  obtain ⟨F, hF⟩ := h.rd
  exact dLeft_any F w C.B C.x C.bs i hF h.hi h.len
def instrs_post (bs : List UInt8) (w : World) (e : Ending) (w' : World) : Prop :=
  ∃ (s : Sl) (rs : List InR) (b : Bool), e = .returned (.tuple #[s.v, .bool b]) ∧ Orw inc 38 5 w' w.heap.size s.v rs ∧ (∀ r ∈ rs, InsOk w' w.heap.size r) ∧ rs.length ≤ bs.length + 1 ∧ (b = true → codeP bs = some (rs.map InR.x)) ∧ (b = false → codeP bs = none) ∧ Below w.heap.size w w'
theorem instrs_end {C : Cr9} {w W : World} {va : Option Addr} {L vc : Nat} {rs : List InR} {j : Nat} {wj b : Bool} (hO : Orw inc 38 5 W w.heap.size (.slice va L vc) rs) (hE : ∀ r ∈ rs, InsOk W w.heap.size r) (hM : ML C.bs (rs.map InR.x) j wj) (hd : ¬ j < C.bs.length ∨ wj = true) (hF : Below w.heap.size w W)
    (hb : b = decide (wj = false ∧ rs.map InR.x ≠ [] ∧ leadsP (rs.map InR.x) = true)) : instrs_post C.bs w (.returned (.tuple #[.slice va L vc, .bool b])) W := by
  have hc := (hM.code hd).2
  refine ⟨⟨va, L, vc⟩, rs, b, rfl, hO, hE, ?_, fun e => ?_, fun e => ?_, hF⟩
  · have h1 := hM.len
    have h2 := hM.hj
    simp only [List.length_map] at h1
    omega
  · rw [hb, decide_eq_true_iff] at e
    rw [hc, if_pos e]
  · rw [hb, decide_eq_false_iff_not] at e
    rw [hc, if_neg e]
set_option maxHeartbeats 4000000 in
theorem h9instrsOf_any (w : World) (a : Option Addr) (n c : Nat) (bs : List UInt8) (h : Arg w a n c bs) (hn : n ≤ 1000000000000) (hT : Tab9 w) :
    Calls Tryd.prog 27 #[.slice a n c] w (instrs_post bs w) := by
  have HD := hide (h9readerOf_any w a n c bs h (by omega))
  have hlen := h.bs.1
  have hw2 : 2 ≤ w.heap.size := by obtain ⟨t, fr, hh⟩ := hT; have := lt_of_heap hh; omega
  have HT := hide hT
  have HLEN := hide hlen
  clear h hT hlen
  go_enter Tryd.func27, Tryd.ntmps27
  go_wp2_with fail
  refine (unhide HD).mono ?_
  rintro e w1 ⟨C, rfl, hCB, hCbs, R1, f1⟩
  have hB2 : 2 ≤ C.B := by rw [hCB]; exact hw2
  subst hCbs
  have H1 := hide (And.intro R1 f1)
  have HCB := hide hCB
  have HTF : Hid (∀ W, FX9 C w1 W → Tab9 W) := fun W f => ((unhide HT).below f1).fx f hB2
  clear HD R1 f1 hCB
  go_wp2
  go_loopw [5] (fun v W => ∃ rs j wj bg, Orw inc 38 5 W w1.heap.size v rs ∧ (∀ r ∈ (rs : List InR), InsOk W w1.heap.size r) ∧ ML C.bs (rs.map InR.x) j wj ∧ Rd9 C j bg wj W ∧ FX9 C w1 W) (fun _ W => mu9b C W)
  case atStart => exact ⟨[], 0, false, 0, Orw.nil _ _ _ _ _, (fun r hr => by cases hr), ML.start _, (unhide H1).1, FX9.refl C w1⟩
  case round =>
    obtain ⟨rs, j, wj, bg, hO, hE, hM, hR, hF⟩ := hrel
    obtain ⟨va, vc, rfl, _, _, _⟩ := hO.form
    obtain ⟨L, hLL⟩ : ∃ L, L = rs.length := ⟨_, rfl⟩
    rw [← hLL] at hO ⊢
    have HLL := hide hLL
    have HLF := hide (h9Left_any C j bg wj wr hR)
    have c0 := hR.cells.1
    have HD := hide (And.intro hO (And.intro hE (And.intro hM (And.intro hR hF))))
    have hjl := hM.hj
    have hlen1 := hM.len
    clear hO hE hM hR hF hLL
    go_wp2_with fail
    refine (unhide HLF).mono ?_
    rintro e w2 ⟨rfl, f2⟩
    obtain ⟨hO, hE, hM, hR, hF⟩ := unhide HD
    have R2 := hR.below f2
    have F2 := hF.on f2 (by rw [unhide HCB]; exact (unhide H1).2.size)
    have O2 : Orw inc 38 5 w2 w1.heap.size (.slice va L vc) rs := hO.below fun k hk => f2.block k (hO.lt k hk).2
    have E2 : ∀ r ∈ rs, InsOk w2 w1.heap.size r := fun r hr => (hE r hr).keep fun k Z hk => f2.block k (lt_of_heap hk)
    have hmu : mu9b C w2 = mu9b C wr := by rw [mu9b_is R2, mu9b_is hR]
    have c2 := R2.cells.2.2.1
    have HX2 := hide (And.intro O2 (And.intro E2 (And.intro hM (And.intro R2 F2))))
    have HMU := hide hmu
    clear hO hE hM hR hF R2 F2 O2 E2 hmu HD HLF c0 f2
    by_cases hlt : j < C.bs.length
    · have hlt1 : (0 : Int) < (C.bs.length : Int) - (j : Int) := by omega
      generalize (C.bs.length : Int) - (j : Int) = LJ at *
      cases wj with
      | true =>
        obtain ⟨O2, E2, hM, R2, F2⟩ := unhide HX2
        have HEND := hide (instrs_end (b := false) (O2.base (unhide H1).2.size) (fun r hr => (E2 r hr).base (unhide H1).2.size) hM (.inr rfl) ((unhide H1).2.trans (by have := F2.below; rw [unhide HCB] at this; exact this)) (by simp))
        clear O2 E2 hM R2 F2
        go_wp2
        all_goals
          go_ret2
          exact unhide HEND
      | false =>
        obtain ⟨O2, E2, hM, R2, F2⟩ := unhide HX2
        have HI := hide (h9instr_any C j bg false w2 R2 ((unhide HTF w2 F2)) hB2)
        clear O2 E2 hM R2 F2
        go_wp2_with fail
        refine (unhide HI).mono ?_
        rintro e w3 ⟨x, ⟨sa, sn, sc⟩, j3, wr3, rfl, o3, fit3, g3, le3, lt3, R3, f3⟩
        obtain ⟨O2, E2, hM, R2, F2⟩ := unhide HX2
        have hj3 : j3 ≤ C.bs.length := R3.hi
        have hM3 := hM.next hlt g3 le3 lt3 hj3
        obtain ⟨r, hr⟩ : ∃ r : InR, r = ⟨x, ⟨sa, sn, sc⟩⟩ := ⟨_, rfl⟩
        have b4 : Below w3.heap.size w3 (w3.alloc (.cells #[.int .i64 x.at_, .int .i64 x.op, .int .i64 x.a, .int .i64 x.b, .slice sa sn sc] 38)) := bA (Below.refl _ _) _
        have O3 : Orw inc 38 5 w3 w1.heap.size (.slice va L vc) rs := R2.orw f3 O2 (by decide) (by decide)
        have hsz : w1.heap.size ≤ w2.heap.size := F2.size
        have E3 : ∀ r' ∈ rs ++ [r], InsOk w3 w1.heap.size r' := fun r' hr' => by
          rcases List.mem_append.1 hr' with h | h
          · exact (E2 r' h).keep fun k Z hk => by rw [hk]; exact R2.blks f3 hk (by decide) (by decide)
          · rw [List.mem_singleton.1 h, hr]
            exact ⟨o3.base hsz, fit3⟩
        have F3 := F2.trans f3
        have hB1 : C.B ≤ w1.heap.size := by rw [unhide HCB]; exact (unhide H1).2.size
        have O4 : Orw inc 38 5 (w3.alloc (.cells #[.int .i64 x.at_, .int .i64 x.op, .int .i64 x.a, .int .i64 x.b, .slice sa sn sc] 38)) w1.heap.size (.slice va L vc) rs := O3.below fun k hk => b4.block k (O3.lt k hk).2
        have l4 := ls_one (cs := inc) (sz := 5) w3 #[.int .i64 x.at_, .int .i64 x.op, .int .i64 x.a, .int .i64 x.b, .slice sa sn sc] 38 r (by rw [hr]; rfl)
        have E4 : ∀ r' ∈ rs ++ [r], InsOk (w3.alloc (.cells #[.int .i64 x.at_, .int .i64 x.op, .int .i64 x.a, .int .i64 x.b, .slice sa sn sc] 38)) w1.heap.size r' := fun r' hr' => (E3 r' hr').keep fun k Z hk => b4.block k (lt_of_heap hk)
        have hlb : L ≤ 1000000000001 := by have := unhide HLL; have := unhide HLEN; simp only [List.length_map] at hlen1; omega
        have hln : (rs.length + 1) * 56 ≤ 140737488355328 := by have := unhide HLL; omega
        have hln2 : rs.length + 1 ≤ 140737488355328 := by have := unhide HLL; omega
        have F4 := F3.on b4 hB1
        have hbs : w1.heap.size ≤ (w3.alloc (.cells #[.int .i64 x.at_, .int .i64 x.op, .int .i64 x.a, .int .i64 x.b, .slice sa sn sc] 38)).heap.size := F4.size
        have hM4 : ML C.bs ((rs ++ [r]).map InR.x) j3 wr3 := by
          rw [List.map_append, hr]
          exact hM3
        have hmu3 : ∀ W, Rd9 C j3 (j : Int) wr3 W → mu9b C W < mu9b C wr := fun W hW => by
          rw [← unhide HMU, mu9b_is hW]
          have e2 : mu9b C w2 = C.bs.length + 1 - j := by rw [mu9b_is R2]; rfl
          rw [e2]
          split
          · omega
          · rename_i hc
            have h1 : wr3 = false := by revert hc; cases wr3 <;> simp
            have := lt3 h1
            omega
        have HO4 := hide O4
        have HL4 := hide l4
        have HLN := hide hln
        have HLN2 := hide hln2
        have HBS := hide hbs
        have HMU3 := hide hmu3
        have HX4 := hide (And.intro (R3.below b4) (And.intro F4 (And.intro E4 hM4)))
        clear O2 E2 hM R2 F2 o3 fit3 g3 le3 lt3 R3 f3 hj3 hM3 b4 O3 E3 F3 O4 l4 E4 hln hln2 F4 hbs hM4 hmu3 hr HI
        unfold Sl.v
        go_wp2_with (at_builtin; refine listR_append rkN9 rfl _ _ rfl w1.heap.size _ _ rfl (unhide HO4) _ 1 1 [_] rfl (unhide HL4) (fun e => by cases e) (unhide HLN) (unhide HLN2) (unhide HBS) ?_)
        intro v5 w5 o5 g5
        obtain ⟨R4, F4, E4, hM4⟩ := unhide HX4
        have R5 := R4.grown (unhide HO4) g5 (by decide)
        have F5 : FX9 C w1 w5 := F4.grown hB1 (unhide HO4) g5
        have E5 : ∀ r' ∈ rs ++ [r], InsOk w5 w1.heap.size r' := fun r' hr' => (E4 r' hr').keep fun k Z hk => g5.block k (lt_of_heap hk) fun ek => by
          obtain ⟨X, fr, hX, _⟩ := orw_blk0 (unhide HO4) ek.symm
          rw [hk] at hX
          injection hX with hX
          injection hX with _ hX
          cases hX
        have HZ := hide (And.intro o5 (And.intro E5 (And.intro hM4 (And.intro R5 F5))))
        clear o5 g5 R4 F4 E4 hM4 R5 F5 E5 HX4 HO4 HL4 HLN HLN2 HBS
        go_wp2
        go_roundw
        case rel =>
          obtain ⟨o5, E5, hM4, R5, F5⟩ := unhide HZ
          exact ⟨_, j3, wr3, _, o5, E5, hM4, R5, F5⟩
        case measure => exact unhide HMU3 _ (unhide HZ).2.2.2.1
    · have hlt1 : ¬ (0 : Int) < (C.bs.length : Int) - (j : Int) := by omega
      obtain ⟨O2, E2, hM, R2, F2⟩ := unhide HX2
      have bw2 : Below w.heap.size w w2 := (unhide H1).2.trans (by have := F2.below; rw [unhide HCB] at this; exact this)
      generalize (C.bs.length : Int) - (j : Int) = LJ at *
      cases wj with
      | true =>
        have HEND := hide (instrs_end (b := false) (O2.base (unhide H1).2.size) (fun r hr => (E2 r hr).base (unhide H1).2.size) hM (.inr rfl) bw2 (by simp))
        clear O2 E2 hM R2 F2 bw2
        go_wp2
        all_goals
          go_ret2
          exact unhide HEND
      | false =>
        have hil := (hM.code (.inl hlt)).1 rfl
        have hri := rising_of hil
        have hst := h9stays_any w2 va L vc rs (O2.ls rkN9) (fun r hr => (E2 r hr).ls) (by have h1 := hM.lenf rfl; have := unhide HLL; have := unhide HLEN; simp only [List.length_map] at h1; omega) hri (unhide HTF w2 F2)
        have HST := hide hst
        have HEND : Hid (∀ b W, b = decide (false = false ∧ rs.map InR.x ≠ [] ∧ leadsP (rs.map InR.x) = true) → Below w2.heap.size w2 W → instrs_post C.bs w (.returned (.tuple #[.slice va L vc, .bool b])) W) := fun b W hb f => instrs_end ((O2.base (unhide H1).2.size).below fun k hk => f.block k (O2.lt k hk).2) (fun r hr => ((E2 r hr).base (unhide H1).2.size).keep fun k Z hk => f.block k (lt_of_heap hk)) hM (.inl hlt) (bw2.trans (f.mono bw2.size)) hb
        clear O2 E2 hM R2 F2 bw2 hil hri hst
        by_cases hL0 : 0 < L
        · have hL1 : (0 : Int) < (L : Int) := by omega
          go_wp2_with fail
          refine (unhide HST).mono ?_
          rintro e w6 ⟨rfl, f6⟩
          have HE6 := hide (unhide HEND (leadsP (rs.map InR.x)) w6 (by
            have hne : rs.map InR.x ≠ [] := fun e => by have h1 := congrArg List.length e; simp at h1; have := unhide HLL; rw [h1] at this; simp at this; omega
            cases hc : leadsP (rs.map InR.x) <;> simp [hne]) f6)
          clear f6 HST HEND
          generalize leadsP (rs.map InR.x) = lv at *
          go_wp2
          go_ret2
          exact unhide HE6
        · obtain rfl : L = 0 := by omega
          have HE6 := hide (unhide HEND false w2 (by
            have : rs = [] := List.eq_nil_of_length_eq_zero (unhide HLL).symm
            simp [this]) (Below.refl _ _))
          clear HST HEND
          go_wp2
          go_ret2
          exact unhide HE6
end Go.Proofs.YtpmhcignenfhgaaDoor

/- The landed code: Decode. -/
namespace Go.Proofs.YtpmhcignenfhgaaDoor
open Go.RowKit
set_option linter.unusedVariables false
set_option maxRecDepth 100000

/-- What Decode answers. -/
def dec_post (bs : List UInt8) (w : World) (e : Ending) (w' : World) : Prop :=
  ∃ (s : Sl) (rs : List InR) (er : Int), e = .returned (.tuple #[s.v, .int .i64 er]) ∧ Orw inc 38 5 w' w.heap.size s.v rs ∧ (∀ r ∈ rs, InsOk w' w.heap.size r) ∧ Below w.heap.size w w' ∧
    ((er = 0 ∧ bs.length ≤ 4096 ∧ codeP bs = some (rs.map InR.x)) ∨ (rs = [] ∧ er = 3 ∧ 4096 < bs.length) ∨ (rs = [] ∧ er = 90 ∧ bs.length ≤ 4096 ∧ codeP bs = none))
set_option maxHeartbeats 800000 in
theorem hDecode_any (w : World) (a : Option Addr) (n c : Nat) (bs : List UInt8) (h : Arg w a n c bs) (hT : Tab9 w) :
    Calls Tryd.prog 10 #[.slice a n c] w (dec_post bs w) := by
  have hlen := h.bs.1
  by_cases hl : 4096 < n
  · have hl1 : (4096 : Int) < (n : Int) := by omega
    have HEND : Hid (dec_post bs w (.returned (.tuple #[.slice none 0 0, .int .i64 3])) w) := ⟨⟨none, 0, 0⟩, [], 3, rfl, Orw.nil _ _ _ _ _, (fun r hr => by cases hr), Below.refl _ _, .inr (.inl ⟨rfl, rfl, by omega⟩)⟩
    clear h hT
    go_enter Tryd.func10, Tryd.ntmps10
    go_wp2
    go_ret2
    exact unhide HEND
  · have hl1 : ¬ (4096 : Int) < (n : Int) := by omega
    have HI := hide (h9instrsOf_any w a n c bs h (by omega) hT)
    clear h hT
    go_enter Tryd.func10, Tryd.ntmps10
    go_wp2_with fail
    refine (unhide HI).mono ?_
    rintro e w1 ⟨⟨sa, sn, sc⟩, rs, b, rfl, o1, e1, l1, t1, f1, B1⟩
    unfold Sl.v at o1 ⊢
    cases b with
    | true =>
      have HEND : Hid (dec_post bs w (.returned (.tuple #[.slice sa sn sc, .int .i64 0])) w1) := ⟨⟨sa, sn, sc⟩, rs, 0, rfl, o1, e1, B1, .inl ⟨rfl, by omega, t1 rfl⟩⟩
      clear o1 e1 t1 f1 B1 HI
      go_wp2
      go_ret2
      exact unhide HEND
    | false =>
      have HEND : Hid (dec_post bs w (.returned (.tuple #[.slice none 0 0, .int .i64 90])) w1) := ⟨⟨none, 0, 0⟩, [], 90, rfl, Orw.nil _ _ _ _ _, (fun r hr => by cases hr), B1, .inr (.inr ⟨rfl, rfl, by omega, f1 rfl⟩)⟩
      clear o1 e1 t1 f1 B1 HI
      go_wp2
      go_ret2
      exact unhide HEND
end Go.Proofs.YtpmhcignenfhgaaDoor
