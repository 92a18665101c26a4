/- Joined: VrI VrJ VrK VrM. -/
import Derived.Test.YtfggahkimconfaaGreatDoorJn

/- The document's own Open: where there is no log. -/
namespace Go.Proofs.YtfggahkimconfaaGreatDoor
open Go.RowKit
set_option linter.unusedVariables false

theorem last_256 {D : Dk} {L n i : Nat} {s : Sec} (hO : Okd D L n) (hi : D.secs[i]? = some s) : s.last.length = 256 := Sec.pick_len (hO.ok i s hi) _ (Nat.le_refl _)
set_option maxRecDepth 100000 in
set_option maxHeartbeats 400000 in
/-- rFetch_ok, with what its capacity is bounded by. -/
theorem rFetch_cap (w : World) (B p : Nat) (v : Value) (vals : List Value) (D : Dk) (h : RIs w B p v vals (rof D)) (i : Nat) (s : Sec) (hi : D.secs[i]? = some s) (hdk : D.dark = false) (hl : s.last.length = 256) :
    Calls Tryz.prog 42 #[.pointer (some ⟨p, 0, none⟩), .int .i64 i] w fun e w' => ∃ q c, e = .returned (.tuple #[.slice (some ⟨q, 0, none⟩) 256 c, .int .i64 0]) ∧ BytesAt w' (some ⟨q, 0, none⟩) s.last ∧ (256 ≤ c ∧ c ≤ 9223372036854775807) ∧ Below w.heap.size w w' := by
  obtain ⟨g, gc, _, _, rfl, _⟩ := h.mem i s hi
  obtain ⟨c0, -, -, c3, -⟩ := h.dcells
  rw [hdk] at c3
  have hil := (List.getElem?_eq_some_iff.1 hi).1
  have hd2 : decide ((D.secs.length : Int) ≤ i) = false := by simp; omega
  have HL := hide (rlast_any w B p _ vals D h i s hi)
  have hcv := run_bytes_of_string (P := Tryz.prog) w.drew 9 43 5 ⟨s.last.toArray⟩ Tryz.underlying9 Tryz.underlying43 Tryz.underlying5
  have hsz : (⟨s.last.toArray⟩ : ByteArray).size = 256 := by simp [ByteArray.size, hl]
  rw [hsz] at hcv
  have hB : Hid (∀ C (f : Nat × Nat), (∀ j u, (bv s.last)[j]? = some u → C[j]? = some u) → BytesAt (w.drew.drew.alloc (.cells C 5 f)) (some ⟨w.heap.size, 0, none⟩) s.last) := fun C f hC => by
    refine ⟨(fun e => by cases e), fun ad e j u hu => ?_⟩
    injection e with e
    subst e
    rw [Addr.add_mid, Nat.zero_add]
    exact (World.cell?_alloc_mark w.drew.drew C _ f j).trans (hC j u hu)
  have HR := hide (fun cap j u hu => bytesRow_bv s.last cap j u hu)
  have hcp : Hid (256 ≤ grownCap w.drew 256 0 5 ∧ grownCap w.drew 256 0 5 ≤ 9223372036854775807) := ⟨grownCap_ge _ _ _ _, by
    have := grownCap_le_maxLen w.drew 256 0 5 (by unfold maxLen; omega)
    unfold maxLen at this
    omega⟩
  clear h hi
  go_enter Tryz.func42, Tryz.ntmps42
  go_wp2_with fail
  refine (unhide HL).mono ?_
  rintro e w1 ⟨rfl, rfl⟩
  go_wp2
  go_ret2
  exact ⟨_, _, rfl, unhide hB _ _ (unhide HR _), unhide hcp, (((Below.refl _ _).drew.drew).alloc (Nat.le_refl _) _)⟩
theorem yFetchA (A : Nat → Prop) (w : World) (B y : Nat) (D : Dk) (L n : Nat) (hY : YA A w B y D) (hO : Okd D L n) (i : Nat) (b : List UInt8) (hi : D.lasts[i]? = some b) (hd : D.dark = false) :
    Calls Tryz.prog 42 #[.pointer (some ⟨y, 0, none⟩), .int .i64 (i : Int)] w fun e w' => ∃ q c, e = .returned (.tuple #[.slice (some ⟨q, 0, none⟩) 256 c, .int .i64 0]) ∧ BytesAt w' (some ⟨q, 0, none⟩) b ∧ b.length = 256 ∧ (256 ≤ c ∧ c ≤ 9223372036854775807) ∧ Below w.heap.size w w' := by
  obtain ⟨By, rv, vals, hB, h, hA⟩ := hY
  unfold Dk.lasts at hi
  rw [List.getElem?_map, Option.map_eq_some_iff] at hi
  obtain ⟨s, hs, rfl⟩ := hi
  refine (rFetch_cap w By y rv vals D h i s hs hd (last_256 hO hs)).mono ?_
  rintro e w' ⟨q, c, rfl, hb, hc, f⟩
  exact ⟨q, c, rfl, hb, last_256 hO hs, hc, f⟩
/-- Fetch, then read: a sector's record. -/
theorem yFetch_read (A : Nat → Prop) (w : World) (B y : Nat) (D : Dk) (L n : Nat) (hY : YA A w B y D) (hO : Okd D L n) (i : Nat) (b : List UInt8) (hi : D.lasts[i]? = some b) (hd : D.dark = false) :
    Calls Tryz.prog 42 #[.pointer (some ⟨y, 0, none⟩), .int .i64 (i : Int)] w fun e w' => ∃ q c, e = .returned (.tuple #[.slice (some ⟨q, 0, none⟩) 256 c, .int .i64 0]) ∧ Below w.heap.size w w' ∧ Calls Tryz.prog 43 #[.slice (some ⟨q, 0, none⟩) 256 c] w' fun e w2 => e = .returned (.tuple #[recV ((readS b).getD rec0), .bool (readS b).isSome]) ∧ Below w.heap.size w w2 := by
  refine (yFetchA A w B y D L n hY hO i b hi hd).mono ?_
  rintro e w' ⟨q, c, rfl, hb, hl, hc, f⟩
  refine ⟨q, c, rfl, f, (vread_any w' q 0 c b hl hc.1 hc.2 hb).mono ?_⟩
  rintro e w2 ⟨rfl, f2⟩
  exact ⟨rfl, f.trans (f2.mono f.size)⟩

set_option maxRecDepth 100000 in
set_option maxHeartbeats 1600000 in
theorem vOpen_bad (A : Nat → Prop) (w : World) (B y : Nat) (D : Dk) (L n : Nat) (hY : YA A w B y D) (hO : Okd D L n) (at_ size : Int) (ha : -9223372036854775808 ≤ at_ ∧ at_ ≤ 9223372036854775807) (hs : -9223372036854775808 ≤ size ∧ size ≤ 9223372036854775807) (hb : ¬ placeOk D at_ size ∨ D.dark = true ∨ D.headAt at_.toNat = none) :
    Calls Tryz.prog 10 #[.pointer (some ⟨y, 0, none⟩), .int .i64 at_, .int .i64 size] w fun e w' => e = .returned (.tuple #[.pointer none, .int .i64 (D.opn at_ size).2.2]) ∧ YA A w' B y (D.opn at_ size).1 ∧ Fr2 B w w' := by
  have H1 := hide (vPlace_any A w B y D hY L n hO at_ size ha hs)
  have HY := hide (fun (W : World) (f : Below w.heap.size w W) => And.intro (hY.below f) (Fr2.of_below f hY.bw))
  by_cases hp : placeOk D at_ size
  · have hat : ((at_.toNat : Nat) : Int) = at_ := by have := hp.2.2.1; omega
    have hlt : at_.toNat < D.lasts.length := by rw [lasts_len]; have := hp; unfold placeOk at this; omega
    rw [decide_eq_true hp] at H1
    cases hd : D.dark with
    | true =>
      have e0 : D.opn at_ size = (D, none, 10) := by unfold Dk.opn; rw [if_pos hp, if_pos hd]
      rw [e0]
      have hfe : D.feE at_ = 10 := by
        have : 0 ≤ at_ ∧ at_ < D.secs.length := by have := hp; unfold placeOk at this; omega
        unfold Dk.feE
        rw [if_pos this, if_pos hd]
      have H2 := hide (yFetch_bad w B y D L n hY.y hO at_ (by rw [hd]; simp))
      rw [hfe] at H2
      clear hY hO hp hb hlt hat e0 hfe hd
      go_enter Tryz.func10, Tryz.ntmps10
      go_wp2_with fail
      refine (unhide H1).mono ?_
      rintro e w1 ⟨rfl, rfl⟩
      go_wp2_with fail
      refine (unhide H2).mono ?_
      rintro e w2 ⟨rfl, rfl⟩
      go_wp2
      go_ret2
      exact ⟨rfl, unhide HY _ (Below.refl _ _)⟩
    | false =>
      have hh : D.headAt at_.toNat = none := by
        rcases hb with h | h | h
        · exact absurd hp h
        · rw [hd] at h; cases h
        · exact h
      have e0 : D.opn at_ size = (D, none, 40) := by
        unfold Dk.opn
        rw [if_pos hp, if_neg (by rw [hd]; decide)]
        simp only [hh]
      rw [e0]
      obtain ⟨b, hbb⟩ : ∃ b, D.lasts[at_.toNat]? = some b := ⟨_, List.getElem?_eq_getElem hlt⟩
      have H2 := hide (yFetch_read A w B y D L n hY hO at_.toNat b hbb hd)
      rw [hat] at H2
      have hcase : readS b = none ∨ ∃ r, readS b = some r ∧ ¬ r.data.length = 4 := by
        unfold Dk.headAt at hh
        rw [hbb] at hh
        simp only at hh
        cases hr : readS b with
        | none => exact .inl rfl
        | some r =>
          rw [hr] at hh
          simp only at hh
          refine .inr ⟨r, rfl, fun h => ?_⟩
          rw [if_pos h] at hh
          cases hh
      clear hY hO hp hb hlt hat e0 hh hbb hd
      rcases hcase with hr | ⟨r, hr, h4⟩
      · rw [hr] at H2
        have hr0 : recV ((none : Option Rec).getD rec0) = .agg #[.int .i64 0, .string ⟨#[]⟩] := rfl
        rw [hr0] at H2
        clear hr hr0
        go_enter Tryz.func10, Tryz.ntmps10
        go_wp2_with fail
        refine (unhide H1).mono ?_
        rintro e w1 ⟨rfl, rfl⟩
        go_wp2_with fail
        refine (unhide H2).mono ?_
        rintro e w2 ⟨q, c, rfl, f2, h3⟩
        have H3 := hide h3
        clear H1 H2 f2 h3
        go_wp2_with fail
        refine (unhide H3).mono ?_
        rintro e w3 ⟨rfl, f3⟩
        have F3 := hide f3
        clear H3 f3
        go_wp2
        go_ret2
        exact ⟨rfl, unhide HY _ ((unhide F3).alloc (unhide F3).size _)⟩
      · rw [hr] at H2
        have hr0 : recV ((some r : Option Rec).getD rec0) = .agg #[.int .i64 r.epoch, .string ⟨r.data.toArray⟩] := rfl
        rw [hr0] at H2
        have hsz : ((⟨r.data.toArray⟩ : ByteArray)).size = r.data.length := by simp [ByteArray.size]
        have g4 : ((r.data.length : Int) != 4) = true := by simp; omega
        have g4' : ¬ r.data.length = 4 := h4
        clear hr hr0
        generalize (⟨r.data.toArray⟩ : ByteArray) = st at *
        generalize r.epoch = ep at *
        go_enter Tryz.func10, Tryz.ntmps10
        go_wp2_with fail
        refine (unhide H1).mono ?_
        rintro e w1 ⟨rfl, rfl⟩
        go_wp2_with fail
        refine (unhide H2).mono ?_
        rintro e w2 ⟨q, c, rfl, f2, h3⟩
        have H3 := hide h3
        clear H1 H2 f2 h3
        go_wp2_with fail
        refine (unhide H3).mono ?_
        rintro e w3 ⟨rfl, f3⟩
        have F3 := hide f3
        clear H3 f3
        go_wp2
        go_ret2
        exact ⟨rfl, unhide HY _ ((unhide F3).alloc (unhide F3).size _)⟩
  · have e0 : D.opn at_ size = (D, none, 2) := by unfold Dk.opn; rw [if_neg hp]
    rw [e0]
    rw [decide_eq_false hp] at H1
    clear hY hO hp e0 hb
    go_enter Tryz.func10, Tryz.ntmps10
    go_wp2_with fail
    refine (unhide H1).mono ?_
    rintro e w1 ⟨rfl, rfl⟩
    go_wp2
    go_ret2
    exact ⟨rfl, unhide HY _ (Below.refl _ _)⟩

end Go.Proofs.YtfggahkimconfaaGreatDoor

/- The document's own Open: what holds between the rounds. -/
namespace Go.Proofs.YtfggahkimconfaaGreatDoor
open Go.RowKit
set_option linter.unusedVariables false

def sc0 (fro : Nat) : Sc := ⟨(fro : Int), false, [], [], 0⟩
/-- Behind k rounds: s was read, the rest is to be read; the log x stands at block z with what was read. -/
structure OQ (w : World) (y z : Nat) (D : Dk) (a n now fro : Nat) (k : Nat) (s : Sc) (v : Value) (wr : World) : Prop where
  scan : scanW (now : Int) (D.dataS a n) 0 (sc0 fro) = scanW (now : Int) ((D.dataS a n).drop k) k s
  le : k ≤ n - 1
  used : s.used ≤ k
  few : s.L.length ≤ k
  part : s.part.length ≤ 231 * k
  b : Below w.heap.size w wr
  vl : VL wr w.heap.size z y v ⟨a, n, now, fro, s.L, s.used, 0, false⟩
theorem data_get {D : Dk} {a n k : Nat} (h2 : 2 ≤ n) (hf : a + n ≤ D.secs.length) (hk : k < n - 1) : ∃ b, D.lasts[a + 1 + k]? = some b ∧ (D.dataS a n).drop k = b :: (D.dataS a n).drop (k + 1) := by
  have hl : a + 1 + k < D.lasts.length := by rw [lasts_len]; omega
  have hd : k < (D.dataS a n).length := by rw [data_len h2 hf]; exact hk
  refine ⟨D.lasts[a + 1 + k], List.getElem?_eq_getElem hl, ?_⟩
  rw [List.drop_eq_getElem_cons hd]
  congr 1
  have h1 : (D.dataS a n)[k]? = D.lasts[a + 1 + k]? := by
    unfold Dk.dataS
    rw [List.getElem?_take, if_pos hk, List.getElem?_drop]
  rw [List.getElem?_eq_getElem hd, List.getElem?_eq_getElem hl] at h1
  exact Option.some.inj h1
/-- A sector that is none ends the reading. -/
theorem OQ.ends {w wr : World} {y z : Nat} {D : Dk} {a n now fro k : Nat} {s : Sc} {v : Value} (h : OQ w y z D a n now fro k s v wr) (h2 : 2 ≤ n) (hf : a + n ≤ D.secs.length) (hb : k < n - 1 → ∀ b, D.lasts[a + 1 + k]? = some b → ∀ r, readS b = some r → ¬ okPart (now : Int) k s r) : scanW (now : Int) (D.dataS a n) 0 (sc0 fro) = s := by
  rw [h.scan]
  by_cases hk : k < n - 1
  · obtain ⟨b, hb1, hb2⟩ := data_get h2 hf hk
    rw [hb2]
    exact scanW_no (hb hk b hb1)
  · have hl : (D.dataS a n).length ≤ k := by rw [data_len h2 hf]; omega
    rw [List.drop_eq_nil_of_le hl]
    rfl
/-- A sector that is a part of a record is taken. -/
theorem OQ.took {w wr wr' : World} {y z : Nat} {D : Dk} {a n now fro k : Nat} {s : Sc} {v v' : Value} (h : OQ w y z D a n now fro k s v wr) (h2 : 2 ≤ n) (hf : a + n ≤ D.secs.length) (hk : k < n - 1) {b : List UInt8} {r : Rec} (hb : D.lasts[a + 1 + k]? = some b) (hr : readS b = some r) (ho : okPart (now : Int) k s r) (hbel : Below w.heap.size w wr')
    (hv : VL wr' w.heap.size z y v' ⟨a, n, now, fro, (s.took k r).L, (s.took k r).used, 0, false⟩) : OQ w y z D a n now fro (k + 1) (s.took k r) v' wr' := by
  obtain ⟨b', hb1, hb2⟩ := data_get h2 hf hk
  obtain rfl : b = b' := by rw [hb] at hb1; exact Option.some.inj hb1
  have hl := ho.2.1
  refine ⟨?_, by omega, ?_, ?_, ?_, hbel, hv⟩
  · rw [h.scan, hb2, scanW_yes hr ho]
  · have := h.used
    unfold Sc.took
    split
    · show k + 1 ≤ k + 1; omega
    · show s.used ≤ k + 1; omega
  · have := h.few
    unfold Sc.took
    split
    · show (s.L ++ [s.part ++ r.data.drop 5]).length ≤ k + 1; simp; omega
    · show s.L.length ≤ k + 1; omega
  · have := h.part
    unfold Sc.took
    split
    · simp
    · show (s.part ++ r.data.drop 5).length ≤ 231 * (k + 1)
      rw [List.length_append, List.length_drop]
      omega
/-- Which of the questions of a sector's record is the first one answered against it. -/
theorem part_cases (now : Int) (k : Nat) (s : Sc) (r : Rec) : okPart now k s r ∨ r.data.length < 5 ∨ (5 ≤ r.data.length ∧ 236 < r.data.length) ∨ (5 ≤ r.data.length ∧ r.data.length ≤ 236 ∧ ¬ num r.data = k) ∨
    (5 ≤ r.data.length ∧ r.data.length ≤ 236 ∧ num r.data = k ∧ 1 < (r.data.getD 4 0).toNat) ∨ (5 ≤ r.data.length ∧ r.data.length ≤ 236 ∧ num r.data = k ∧ (r.data.getD 4 0).toNat ≤ 1 ∧ now < r.epoch) ∨
    (5 ≤ r.data.length ∧ r.data.length ≤ 236 ∧ num r.data = k ∧ (r.data.getD 4 0).toNat ≤ 1 ∧ r.epoch ≤ now ∧ r.epoch < s.last) ∨ (5 ≤ r.data.length ∧ r.data.length ≤ 236 ∧ num r.data = k ∧ (r.data.getD 4 0).toNat ≤ 1 ∧ r.epoch ≤ now ∧ s.last ≤ r.epoch ∧ s.opn = true ∧ ¬ r.epoch = s.last) := by
  unfold okPart
  by_cases h1 : 5 ≤ r.data.length
  · by_cases h2 : r.data.length ≤ 236
    · by_cases h3 : num r.data = k
      · by_cases h4 : (r.data.getD 4 0).toNat ≤ 1
        · by_cases h5 : r.epoch ≤ now
          · by_cases h6 : s.last ≤ r.epoch
            · by_cases h7 : s.opn = true → r.epoch = s.last
              · exact .inl ⟨h1, h2, h3, h4, h5, h6, h7⟩
              · have h8 : s.opn = true := Classical.byContradiction (fun h => h7 (fun h' => absurd h' h))
                exact .inr (.inr (.inr (.inr (.inr (.inr (.inr ⟨h1, h2, h3, h4, h5, h6, h8, fun h => h7 (fun _ => h)⟩))))))
            · exact .inr (.inr (.inr (.inr (.inr (.inr (.inl ⟨h1, h2, h3, h4, h5, by omega⟩))))))
          · exact .inr (.inr (.inr (.inr (.inr (.inl ⟨h1, h2, h3, h4, by omega⟩)))))
        · exact .inr (.inr (.inr (.inr (.inl ⟨h1, h2, h3, by omega⟩))))
      · exact .inr (.inr (.inr (.inl ⟨h1, h2, h3⟩)))
    · exact .inr (.inr (.inl ⟨h1, by omega⟩))
  · exact .inr (.inl (by omega))

end Go.Proofs.YtfggahkimconfaaGreatDoor

/- The document's own Open, where a log is. -/
namespace Go.Proofs.YtfggahkimconfaaGreatDoor
open Go.RowKit
set_option linter.unusedVariables false

theorem read_ok {b : List UInt8} {r : Rec} (h : readS b = some r) : recOk r ∧ r.data.length ≤ 244 := by
  unfold readS at h
  split at h
  · rename_i hc
    injection h with h
    subst h
    obtain ⟨h1, h2, h3⟩ := first_ok hc.1
    exact ⟨h1, by rw [h3]; have := hc.2.1; omega⟩
  · cases h
/-- What Open leaves, where a log is. -/
def VOpn (A : Nat → Prop) (w : World) (B y : Nat) (R : Dk × Lg × Int) (e : Ending) (w' : World) : Prop :=
  ∃ z v, e = .returned (.tuple #[.pointer (some ⟨z, 0, none⟩), .int .i64 R.2.2]) ∧ w.heap.size ≤ z ∧ (∀ k, v.ownBlock = some k → w.heap.size ≤ k) ∧ VL w' B z y v R.2.1 ∧ YA (fun k => A k ∧ v.ownBlock ≠ some k) w' B y R.1 ∧ Fr3 (fun _ => False) B w w'
theorem VL.base {w : World} {B B' z y : Nat} {v : Value} {g : Lg} (h : VL w B z y v g) (hB : B' ≤ B) : VL w B' z y v g :=
  ⟨h.blk, ⟨h.own.1, h.own.2.elim .inl (fun ⟨q, cap, cur, hv, hq, r⟩ => .inr ⟨q, cap, cur, hv, Nat.le_trans hB hq, r⟩)⟩, Nat.le_trans hB h.bz, h.small⟩
/-- Behind the rounds: how many there are is written, then the next epoch begins. -/
theorem open_end {A : Nat → Prop} {w wr W : World} {B y z : Nat} {D : Dk} {L n' a n now fro : Nat} {k : Nat} {s : Sc} {v : Value} (hY : YA A w B y D) (hO : Okd D L n') (hn : n' ≤ 900) (hw : ∀ k, w.heap.size ≤ k → A k) (q : OQ w y z D a n now fro k s v wr)
    (hW : Lw z wr W #[.pointer (some ⟨y, 0, none⟩), .int .i64 (a : Int), .int .i64 (n : Int), .int .i64 (now : Int), .int .i64 (fro : Int), v, .int .i64 (s.used : Int), .int .i64 (s.L.length : Int), .bool false]) :
    Calls Tryz.prog 45 #[.pointer (some ⟨z, 0, none⟩), .int .i64 (fro : Int)] W fun e w' => ∃ c, e = .returned (.int .i64 c) ∧ VOpn A w B y (Lg.nxt ⟨a, n, now, fro, s.L, s.used, s.L.length, false⟩ D fro) (.returned (.tuple #[.pointer (some ⟨z, 0, none⟩), .int .i64 c])) w' := by
  have hB := hY.bw
  obtain ⟨t1, t2, t3, t4, t5, t6, t7, t8⟩ := q.vl.small
  have ho := hW.own q.vl
  have hv : VL W w.heap.size z y v ⟨a, n, now, fro, s.L, s.used, s.L.length, false⟩ := Lw.vl q.vl (g' := ⟨a, n, now, fro, s.L, s.used, s.L.length, false⟩) hW ho ⟨t1, t2, t3, t4, t5, t6, t8, t8⟩
  have hbW : Below w.heap.size w W := q.b.trans (hW.bel.mono q.vl.bz)
  have hY1 : YA (fun k => A k ∧ v.ownBlock ≠ some k) W B y D := by
    refine (hY.lt.below hbW).mono (fun k hk => ⟨hk.1, fun e => ?_⟩)
    have h1 := (q.vl.own.lt k e).1
    have h2 := hk.2
    omega
  refine (vnext_any (fun k => A k ∧ v.ownBlock ≠ some k) (fun _ => False) W B y z D L n' v _ hY1 hO hn (fun k hk => ⟨hw k (Nat.le_trans hbW.size hk), fun e => by
    have := (hv.own.lt k e).2
    omega⟩) (hv.base hB) rfl fro (.inr t5)).mono ?_
  rintro e w' ⟨rfl, hY', hV', f'⟩
  exact ⟨_, rfl, z, v, rfl, q.vl.bz, fun k hk => (q.vl.own.lt k hk).1, hV', hY', (Fr3.of_below hbW hB).trans f'⟩

end Go.Proofs.YtfggahkimconfaaGreatDoor

/- The document's own Open: a record that was read to its end is put into the log. -/
namespace Go.Proofs.YtfggahkimconfaaGreatDoor
open Go.RowKit
set_option linter.unusedVariables false

theorem open_push {w wr w6 : World} {y z : Nat} {D : Dk} {a n now fro k : Nat} {s : Sc} {v v' : Value} {x : List UInt8} {ob : Obj} (hkn : k < n - 1) (q : OQ w y z D a n now fro k s v wr)
    (o6 : w6.ownsRow w.heap.size 9 1 v' (s.L.length + 1) (s.L.map str ++ [str x])) (g6 : (wr.alloc ob).grownBy w6 v.ownBlock) (hat : v'.ownBlock = v.ownBlock ∨ v'.ownBlock = some (wr.alloc ob).heap.size) :
    w6.heap[z]? = wr.heap[z]? ∧ VL ((w6.setCell ⟨z, 5, none⟩ v').setCell ⟨z, 6, none⟩ (.int .i64 ((k + 1 : Nat) : Int))) w.heap.size z y v' ⟨a, n, now, fro, s.L ++ [x], k + 1, 0, false⟩ ∧ Below w.heap.size w ((w6.setCell ⟨z, 5, none⟩ v').setCell ⟨z, 6, none⟩ (.int .i64 ((k + 1 : Nat) : Int))) := by
  have hv := q.vl
  have hzv : ∀ k, v.ownBlock = some k → k ≠ z := fun k hk e => by
    subst e
    exact absurd (own_kind hv.own hk hv.blk) (by decide)
  have hsa : (wr.alloc ob).heap.size = wr.heap.size + 1 := by simp
  have old : ∀ k, k < wr.heap.size → v.ownBlock ≠ some k → w6.heap[k]? = wr.heap[k]? := fun k hk hne => by
    have := g6.block k (by omega) (fun e => hne e.symm)
    rw [this]
    exact heap_alloc_old wr ob hk
  have ez : w6.heap[z]? = wr.heap[z]? := old z hv.lt (fun e => hzv z e rfl)
  have hz6 := ez.trans hv.blk
  have hv'z : ∀ k, v'.ownBlock = some k → k ≠ z := fun k hk e => by
    rcases hat with h | h
    · exact hzv k (by rw [← h]; exact hk) e
    · rw [h] at hk
      injection hk with hk
      have := hv.lt
      omega
  have b6 : Below w.heap.size w w6 := by
    have b5a : Below w.heap.size w (wr.alloc ob) := q.b.alloc q.b.size _
    exact b5a.grown g6 (by rw [hsa]; have := q.b.size; omega) (fun x hx => (hv.own.lt x hx).1)
  refine ⟨ez, ⟨?_, ?_, hv.bz, ?_⟩, (b6.setCell (p := ⟨z, 5, none⟩) hv.bz _).setCell (p := ⟨z, 6, none⟩) hv.bz _⟩
  · have h1 := heap_setCell_same w6 z 5 _ _ v' hz6
    have h2 := heap_setCell_same _ z 6 _ _ (.int .i64 ((k + 1 : Nat) : Int)) h1
    rw [h2]
    rfl
  · have e1 : (s.L ++ [x]).length = s.L.length + 1 := by simp
    have e2 : (s.L ++ [x]).map str = s.L.map str ++ [str x] := by simp
    show World.ownsRow _ w.heap.size 9 1 v' (s.L ++ [x]).length ((s.L ++ [x]).map str)
    rw [e1, e2]
    exact own_of_block o6 (fun k hk => (heap_setCell_other _ ⟨z, 6, none⟩ k _ (hv'z k hk)).trans (heap_setCell_other w6 ⟨z, 5, none⟩ k v' (hv'z k hk)))
  · obtain ⟨t1, t2, t3, t4, t5, t6, t7, t8⟩ := hv.small
    have hf := q.few
    exact ⟨t1, t2, t3, t4, t5, by show k + 1 ≤ n - 1; omega, Nat.zero_le _, by show (s.L ++ [x]).length ≤ 100000; simp; have : n ≤ 4096 := t3; omega⟩
theorem OQ.below {w wr W : World} {y z : Nat} {D : Dk} {a n now fro k : Nat} {s : Sc} {v : Value} (h : OQ w y z D a n now fro k s v wr) (f : Below wr.heap.size wr W) : OQ w y z D a n now fro k s v W :=
  ⟨h.scan, h.le, h.used, h.few, h.part, h.b.trans (f.mono h.b.size), h.vl.below f⟩
/-- The bytes behind a part's first five. -/
theorem drop_ext (d : List UInt8) (k : Nat) : (⟨d.toArray⟩ : ByteArray).extract k d.length = ⟨(d.drop k).toArray⟩ := by
  apply ByteArray.ext
  simp only [ByteArray.data_extract]
  apply Array.ext'
  simp only [Array.toList_extract, List.extract_eq_take_drop]
  exact List.take_of_length_le (by simp)
theorem join_bytes (x y : List UInt8) : (⟨x.toArray⟩ : ByteArray) ++ ⟨y.toArray⟩ = ⟨(x ++ y).toArray⟩ := by
  apply ByteArray.ext
  simp

end Go.Proofs.YtfggahkimconfaaGreatDoor
