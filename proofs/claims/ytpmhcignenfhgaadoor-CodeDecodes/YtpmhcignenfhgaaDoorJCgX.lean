/- The document's reader of one instruction. -/
import Derived.Test.YtpmhcignenfhgaaDoorJY
import Derived.Test.YtpmhcignenfhgaaDoorJCeE

namespace Go.Proofs.YtpmhcignenfhgaaDoor
open Go.RowKit
set_option linter.unusedVariables false
set_option maxRecDepth 100000

theorem gR_ok {bs : List UInt8} {i : Nat} (h : i < bs.length) : gR bs i 1 false ≠ none := by
  unfold gR
  rw [if_pos (by omega)]
  have hl : ((bs.drop i).take 1).length = 1 := by rw [List.length_take, List.length_drop]; omega
  unfold valW
  rw [if_neg (by omega), if_neg (by simp)]
  simp
section
variable {bs : List UInt8} {i : Nat} {op : Int} {j : Nat}
theorem insR_f0 (h : gR bs i 1 false = some (op, j)) (hf : formP op = 0) : insR bs i = none := by unfold insR; rw [h]; simp only [Option.bind_some]; rw [hf]; rfl
theorem insR_f1 (h : gR bs i 1 false = some (op, j)) (hf : formP op = 1) : insR bs i = some (⟨i, op, 0, 0, []⟩, j) := by unfold insR; rw [h]; simp only [Option.bind_some]; rw [hf]; rfl
theorem insR_f2 (h : gR bs i 1 false = some (op, j)) (hf : formP op = 2) : insR bs i = (gR bs j 1 true).bind fun x => some (⟨i, op, x.1, 0, []⟩, x.2) := by unfold insR; rw [h]; simp only [Option.bind_some]; rw [hf]; rfl
theorem insR_f3 (h : gR bs i 1 false = some (op, j)) (hf : formP op = 3) : insR bs i = (gR bs j 2 true).bind fun x => some (⟨i, op, x.1, 0, []⟩, x.2) := by unfold insR; rw [h]; simp only [Option.bind_some]; rw [hf]; rfl
theorem insR_f4 (h : gR bs i 1 false = some (op, j)) (hf : formP op = 4) : insR bs i = (gR bs j 1 false).bind fun x => some (⟨i, op, x.1, 0, []⟩, x.2) := by unfold insR; rw [h]; simp only [Option.bind_some]; rw [hf]; rfl
theorem insR_f5 (h : gR bs i 1 false = some (op, j)) (hf : formP op = 5) : insR bs i = (gR bs j 2 false).bind fun x => some (⟨i, op, x.1, 0, []⟩, x.2) := by unfold insR; rw [h]; simp only [Option.bind_some]; rw [hf]; rfl
theorem insR_f6 (h : gR bs i 1 false = some (op, j)) (hf : formP op = 6) : insR bs i = (gR bs j 1 false).bind fun x => (gR bs x.2 1 true).bind fun y => some (⟨i, op, x.1, y.1, []⟩, y.2) := by unfold insR; rw [h]; simp only [Option.bind_some]; rw [hf]; rfl
theorem insR_f7 (h : gR bs i 1 false = some (op, j)) (hf : formP op = 7) : insR bs i = (gR bs j 2 true).bind fun x => some (⟨i, op, i + x.1, 0, []⟩, x.2) := by unfold insR; rw [h]; simp only [Option.bind_some]; rw [hf]; rfl
theorem form_lt (op : Int) : formP op ≤ 9 := by
  unfold formP
  repeat' split
  all_goals omega
end
/-- The answer's place at w, the reader behind it, the instruction's box at I. -/
structure Om (w : World) (I : Nat) (a : Option Addr) (n c j : Nat) (at_ op A B : Int) (W : World) : Prop where
  rd : W.heap[w.heap.size + 1]? = some (.cells #[.slice a n c, .int .i64 (j : Int)] 100 (0, 0))
  bx : W.heap[I]? = some (.cells #[.int .i64 at_, .int .i64 op, .int .i64 A, .int .i64 B, .slice none 0 0] 38 (0, 0))
  rs : W.heap[w.heap.size]? = some (.cells inc0 38 (0, 0))
  bel : Below w.heap.size w W
  hI : w.heap.size + 1 < I
section
variable {w : World} {I : Nat} {a : Option Addr} {n c j : Nat} {at_ op A B : Int} {W : World}
theorem Om.zlt (h : Om w I a n c j at_ op A B W) : w.heap.size + 1 < W.heap.size := lt_of_heap h.rd
theorem Om.rw (h : Om w I a n c j at_ op A B W) {W' : World} {j' : Nat} (r : Rw (w.heap.size + 1) W W' #[.slice a n c, .int .i64 (j' : Int)]) : Om w I a n c j' at_ op A B W' := by
  have h1 := h.hI
  exact ⟨r.blk, (r.oth _ (by omega)).trans h.bx, (r.oth _ (by omega)).trans h.rs, h.bel.trans (r.bel.mono (by omega)), h1⟩
theorem Om.below (h : Om w I a n c j at_ op A B W) {W' : World} (r : Below W.heap.size W W') : Om w I a n c j at_ op A B W' :=
  ⟨(r.block _ (lt_of_heap h.rd)).trans h.rd, (r.block _ (lt_of_heap h.bx)).trans h.bx, (r.block _ (lt_of_heap h.rs)).trans h.rs, h.bel.trans (r.mono h.bel.size), h.hI⟩
theorem Om.get (h : Om w I a n c j at_ op A B W) {bs : List UInt8} (hb : Arg w a n c bs) (hn : n ≤ 4097) (hj : j ≤ n) {k : Nat} (hk : k = 1 ∨ k = 2 ∨ k = 4) (sg : Bool) :
    (∃ x, gR bs j k sg = some (x, j + k) ∧ Calls Tryd.prog 63 #[.pointer (some ⟨w.heap.size + 1, 0, none⟩), .int .i64 (k : Int), .bool sg] W fun e W' => e = .returned (.tuple #[.int .i64 x, .int .i64 0]) ∧ Om w I a n c (j + k) at_ op A B W') ∨
    (gR bs j k sg = none ∧ ∃ er, (er == 0) = false ∧ (er != 0) = true ∧ Calls Tryd.prog 63 #[.pointer (some ⟨w.heap.size + 1, 0, none⟩), .int .i64 (k : Int), .bool sg] W fun e W' => e = .returned (.tuple #[.int .i64 0, .int .i64 er]) ∧ Om w I a n c j at_ op A B W') := by
  have hl := hb.bs.1
  have HG := hGet_any W (w.heap.size + 1) a n c j bs (hb.below h.bel) (by omega) hj h.rd (k : Int) (by omega) sg
  rcases gR_getW (bs := bs) (i := j) (k := k) (sg := sg) hk (by omega) with ⟨x, g1, e1⟩ | ⟨g1, er, hne, e1⟩
  · rw [e1] at HG
    exact .inl ⟨x, g1, HG.mono fun e W' hh => ⟨hh.1, h.rw hh.2⟩⟩
  · rw [e1] at HG
    exact .inr ⟨g1, er, by simpa using hne, by simpa using hne, HG.mono fun e W' hh => ⟨hh.1, h.rw hh.2⟩⟩
theorem Om.setA (h : Om w I a n c j at_ op A B W) (A' : Int) : Om w I a n c j at_ op A' B (W.setCell ⟨I, 2, none⟩ (.int .i64 A')) := by
  have h1 := h.hI
  have ho : ∀ k, k ≠ I → (W.setCell ⟨I, 2, none⟩ (.int .i64 A')).heap[k]? = W.heap[k]? := fun k hk => heap_setCell_other _ _ _ _ hk
  exact ⟨(ho _ (by omega)).trans h.rd, heap_setCell_same W _ 2 _ _ _ h.bx, (ho _ (by omega)).trans h.rs, h.bel.setCell (p := ⟨I, 2, none⟩) (by simp only; omega) _, h1⟩
theorem Om.setB (h : Om w I a n c j at_ op A B W) (B' : Int) : Om w I a n c j at_ op A B' (W.setCell ⟨I, 3, none⟩ (.int .i64 B')) := by
  have h1 := h.hI
  have ho : ∀ k, k ≠ I → (W.setCell ⟨I, 3, none⟩ (.int .i64 B')).heap[k]? = W.heap[k]? := fun k hk => heap_setCell_other _ _ _ _ hk
  exact ⟨(ho _ (by omega)).trans h.rd, heap_setCell_same W _ 3 _ _ _ h.bx, (ho _ (by omega)).trans h.rs, h.bel.setCell (p := ⟨I, 3, none⟩) (by simp only; omega) _, h1⟩
theorem Om.cells (h : Om w I a n c j at_ op A B W) :
    (W.cell? ⟨I, 0, none⟩ = some (.int .i64 at_) ∧ W.cell? ⟨I, 1, none⟩ = some (.int .i64 op) ∧ W.cell? ⟨I, 2, none⟩ = some (.int .i64 A) ∧ W.cell? ⟨I, 3, none⟩ = some (.int .i64 B) ∧ W.cell? ⟨I, 4, none⟩ = some (.slice none 0 0)) ∧
    (W.cell? ⟨w.heap.size, 0, none⟩ = some (.int .i64 0) ∧ W.cell? ⟨w.heap.size, 1, none⟩ = some (.int .i64 0) ∧ W.cell? ⟨w.heap.size, 2, none⟩ = some (.int .i64 0) ∧ W.cell? ⟨w.heap.size, 3, none⟩ = some (.int .i64 0) ∧ W.cell? ⟨w.heap.size, 4, none⟩ = some (.slice none 0 0)) ∧
    W.cell? ⟨w.heap.size + 1, 1, none⟩ = some (.int .i64 (j : Int)) ∧
    (∀ q, W.frozen? ⟨I, q, none⟩ = false) ∧ (∀ q, W.frozen? ⟨w.heap.size, q, none⟩ = false) :=
  ⟨⟨bx_cell h.bx 0 _ rfl, bx_cell h.bx 1 _ rfl, bx_cell h.bx 2 _ rfl, bx_cell h.bx 3 _ rfl, bx_cell h.bx 4 _ rfl⟩, ⟨bx_cell h.rs 0 _ rfl, bx_cell h.rs 1 _ rfl, bx_cell h.rs 2 _ rfl, bx_cell h.rs 3 _ rfl, bx_cell h.rs 4 _ rfl⟩, bx_cell h.rd 1 _ rfl, fun q => bx_thaw h.bx q, fun q => bx_thaw h.rs q⟩
theorem Om.behind (h : Om w I a n c j at_ op A B W) {W' : World} (fr : ∀ k, k < W.heap.size → k ≠ w.heap.size + 1 → W'.heap[k]? = W.heap[k]?) {s : Sl} {cs : List Cas} (row : Orw cac 51 2 W' (W.heap.size + 2) (.slice s.a s.n s.c) cs) :
    W'.heap[w.heap.size]? = some (.cells inc0 38 (0, 0)) ∧ Orw cac 51 2 W' (w.heap.size + 1) (.slice s.a s.n s.c) cs :=
  ⟨(fr _ (lt_of_heap h.rs) (by omega)).trans h.rs, row.base (by have := h.zlt; omega)⟩
end
/-- What the document's one answers. -/
def one_post (bs : List UInt8) (i : Nat) (w : World) (e : Ending) (w' : World) : Prop :=
  ∃ (op A B : Int) (s : Sl) (cs : List Cas) (nx : Int) (ok : Bool), e = .returned (.tuple #[.agg #[.int .i64 (i : Int), .int .i64 op, .int .i64 A, .int .i64 B, .slice s.a s.n s.c], .int .i64 nx, .bool ok]) ∧ Orw cac 51 2 w' (w.heap.size + 1) (.slice s.a s.n s.c) cs ∧ Below w.heap.size w w' ∧
    ((ok = true ∧ ∃ j : Nat, nx = j ∧ insR bs i = some (⟨i, op, A, B, cs⟩, j)) ∨ (ok = false ∧ insR bs i = none))
theorem one_ret {bs : List UInt8} {i : Nat} {w W : World} {op A B : Int} {s : Sl} {cs : List Cas} (hrs : W.heap[w.heap.size]? = some (.cells inc0 38 (0, 0))) (hb : Below w.heap.size w W) (row : Orw cac 51 2 W (w.heap.size + 1) (.slice s.a s.n s.c) cs) {fn : Func} (hf : fn.results = #[.cell 4 38, .tmp 5, .tmp 6]) {tmps : Array Value} (hp : tmps.getD 4 undef = .pointer (some ⟨w.heap.size, 0, none⟩)) {nx : Int} {ok : Bool} (h5 : tmps.getD 5 undef = .int .i64 nx) (h6 : tmps.getD 6 undef = .bool ok)
    (hc : (ok = true ∧ ∃ j : Nat, nx = j ∧ insR bs i = some (⟨i, op, A, B, cs⟩, j)) ∨ (ok = false ∧ insR bs i = none)) :
    bodyPost Tryd.prog fn (one_post bs i w) .ret ⟨tmps, []⟩ (res5 W w.heap.size (.int .i64 (i : Int)) (.int .i64 op) (.int .i64 A) (.int .i64 B) (.slice s.a s.n s.c)) := by
  have hb5 := res5_same (.int .i64 (i : Int)) (.int .i64 op) (.int .i64 A) (.int .i64 B) (.slice s.a s.n s.c) hrs
  have ho : ∀ k, k ≠ w.heap.size → (res5 W w.heap.size (.int .i64 (i : Int)) (.int .i64 op) (.int .i64 A) (.int .i64 B) (.slice s.a s.n s.c)).heap[k]? = W.heap[k]? := fun k hk => res5_other _ _ _ _ _ hk
  refine bodyPost_ret (res5_run hf _ w.heap.size i op A B s.a s.n s.c hb5 tmps hp) rfl ?_
  rw [h5, h6]
  exact ⟨op, A, B, s, cs, nx, ok, rfl, row.below fun k hk => ho k (by have := (row.lt k hk).1; omega), res5_below _ _ _ _ _ hb (Nat.le_refl _), hc⟩
theorem Om.begin {w w2 : World} {a : Option Addr} {n c j : Nat} {i : Nat} {op : Int} (hrs : w2.heap[w.heap.size]? = some (.cells inc0 38 (0, 0))) (hrd : w2.heap[w.heap.size + 1]? = some (.cells #[.slice a n c, .int .i64 (j : Int)] 100 (0, 0))) (hb : Below w.heap.size w w2) :
    Om w w2.heap.size a n c j i op 0 0 (w2.alloc (.cells #[.int .i64 (i : Int), .int .i64 op, .int .i64 0, .int .i64 0, .slice none 0 0] 38)) :=
  ⟨(heap_alloc_old _ _ (lt_of_heap hrd)).trans hrd, heap_alloc_last _ _, (heap_alloc_old _ _ (lt_of_heap hrs)).trans hrs, bA hb _, lt_of_heap hrd⟩
set_option maxHeartbeats 20000000 in
theorem o9one_any (w : World) (a : Option Addr) (n c : Nat) (bs : List UInt8) (hb : Arg w a n c bs) (hn : n ≤ 4097) (i : Nat) (hi : i < n) :
    Calls Tryd.prog 40 #[.slice a n c, .int .i64 (i : Int)] w (one_post bs i w) := by
  have hbl := hb.bs.1
  obtain ⟨w1, hw1, hrs, hrd, hbe⟩ : ∃ w1, w1 = (w.alloc (.cells #[.int .i64 0, .int .i64 0, .int .i64 0, .int .i64 0, .slice none 0 0] 38)).alloc (.cells #[.slice a n c, .int .i64 (i : Int)] 100) ∧ w1.heap[w.heap.size]? = some (.cells inc0 38 (0, 0)) ∧ w1.heap[w.heap.size + 1]? = some (.cells #[.slice a n c, .int .i64 (i : Int)] 100 (0, 0)) ∧ Below w.heap.size w w1 := ⟨_, rfl, (heap_alloc_old _ _ (by simp)).trans (heap_alloc_last _ _), alloc2_last _ _ _, bA (bA (Below.refl _ _) _) _⟩
  have HW1 := hide hw1
  have HB := hide hb
  clear hw1
  generalize hPO : one_post bs i w = PO
  have KR0 : Hid (∀ {W : World} {op A B : Int} (s : Sl) {cs : List Cas} (hrs : W.heap[w.heap.size]? = some (.cells inc0 38 (0, 0))) (hb : Below w.heap.size w W) (row : Orw cac 51 2 W (w.heap.size + 1) (.slice s.a s.n s.c) cs) {tmps : Array Value} (hp : tmps.getD 4 undef = .pointer (some ⟨w.heap.size, 0, none⟩)) {nx : Int} {ok : Bool} (h5 : tmps.getD 5 undef = .int .i64 nx) (h6 : tmps.getD 6 undef = .bool ok)
    (hc : (ok = true ∧ ∃ j : Nat, nx = j ∧ insR bs i = some (⟨i, op, A, B, cs⟩, j)) ∨ (ok = false ∧ insR bs i = none)),
    bodyPost Tryd.prog Tryd.f40 PO .ret ⟨tmps, []⟩ (res5 W w.heap.size (.int .i64 (i : Int)) (.int .i64 op) (.int .i64 A) (.int .i64 B) (.slice s.a s.n s.c))) := by
    intro W op A B s cs hrs hb row tmps hp nx ok h5 h6 hc
    rw [← hPO]
    exact one_ret hrs hb row Tryd.results40 hp h5 h6 hc
  have KR : Hid (∀ {j : Nat} {I : Nat} {op A B : Int} {W : World} (h : Om w I a n c j i op A B W) {tmps : Array Value} (hp : tmps.getD 4 undef = .pointer (some ⟨w.heap.size, 0, none⟩)) {nx : Int} {ok : Bool} (h5 : tmps.getD 5 undef = .int .i64 nx) (h6 : tmps.getD 6 undef = .bool ok)
    (hc : (ok = true ∧ ∃ j : Nat, nx = j ∧ insR bs i = some (⟨i, op, A, B, []⟩, j)) ∨ (ok = false ∧ insR bs i = none)),
    bodyPost Tryd.prog Tryd.f40 PO .ret ⟨tmps, []⟩ (res5 W w.heap.size (.int .i64 (i : Int)) (.int .i64 op) (.int .i64 A) (.int .i64 B) (.slice none 0 0))) := by
    intro j I op A B W h tmps hp nx ok h5 h6 hc
    rw [← hPO]
    exact one_ret (s := ⟨none, 0, 0⟩) h.rs h.bel (Orw.nil _ _ _ _ _) Tryd.results40 hp h5 h6 hc
  clear hPO
  have HQ := hide hbl
  rcases gR_getW (bs := bs) (i := i) (k := 1) (sg := false) (by omega) (by omega) with ⟨op, g0, e0⟩ | ⟨g0, _⟩
  case inr => exact absurd g0 (gR_ok (by omega))
  have HGT := hGet_any w1 (w.heap.size + 1) a n c i bs (hb.below hbe) (by omega) (by omega) hrd 1 (by omega) false
  rw [show ((1 : Int)) = ((1 : Nat) : Int) by rfl, e0] at HGT
  have HGT := hide HGT
  have HG0 := hide g0
  have hop := gR_small (k := 1) (by omega) g0
  have hop1 := hop.1
  have hop2 := hop.2.1
  have HRS := hide hrs
  have HBE := hide hbe
  clear e0 g0 hrd hb hop hrs hbe hbl
  go_enter Tryd.func40, Tryd.ntmps40
  go_wp2_with fail
  rw [← unhide HW1]
  refine (unhide HGT).mono ?_
  rintro e w2 ⟨rfl, r2⟩
  simp only
  have HO2 := hide (Om.begin (i := i) (op := op) ((r2.oth _ (by omega)).trans (unhide HRS)) r2.blk ((unhide HBE).trans (r2.bel.mono (by omega))))
  obtain ⟨I, hI⟩ : ∃ I, I = w2.heap.size := ⟨_, rfl⟩
  obtain ⟨w3, hw3⟩ : ∃ w3, w3 = w2.alloc (.cells #[.int .i64 (i : Int), .int .i64 op, .int .i64 0, .int .i64 0, .slice none 0 0] 38) := ⟨_, rfl⟩
  have HO3 : Hid (Om w I a n c (i + 1) i op 0 0 w3) := by rw [hw3, hI]; exact unhide HO2
  have HW3 := hide hw3
  have HFM := hide (o9Form_any w3 op)
  have HII := hide hI
  clear HO2 hw3 r2 HGT HRS HBE hI
  go_wp2_with fail
  rw [← unhide HW3, ← unhide HII]
  refine (unhide HFM).mono ?_
  rintro e w4 ⟨rfl, b4⟩
  have HO3 := hide ((unhide HO3).below b4)
  clear b4 HW3 HFM HII
  obtain ⟨f, hf⟩ : ∃ f, f = formP op := ⟨_, rfl⟩
  have HF : Hid (formP op = f) := hf.symm
  have hf9 : f ≤ 9 := by rw [hf]; exact form_lt op
  rw [← hf]
  clear hf
  go_upto_block 0 with fail
  go_cut [11, 12] from 13 (fun v11 v12 wr => ∃ (j : Nat) (A B ev fv : Int), v11 = .int .i64 ev ∧ v12 = .int .i64 fv ∧ j ≤ n ∧ Om w I a n c j i op A B wr ∧ ((ev = 0 ∧ fv = 0 ∧ insR bs i = some (⟨i, op, A, B, []⟩, j)) ∨ (((ev == 0) = false ∨ (fv == 0) = false) ∧ insR bs i = none)))
  case first =>
    rcases (show f = 0 ∨ f = 1 ∨ f = 2 ∨ f = 3 ∨ f = 4 ∨ f = 5 ∨ f = 6 ∨ f = 7 ∨ f = 8 ∨ f = 9 by omega) with rfl | rfl | rfl | rfl | rfl | rfl | rfl | rfl | rfl | rfl
    · have HI : Hid (insR bs i = none) := by show _ = _; rw [insR_f0 (unhide HG0) (unhide HF)]
      obtain ⟨⟨c0, c1, c2, c3, c4⟩, ⟨r0, r1, r2, r3, r4⟩, rz, t1, t2⟩ := (unhide HO3).cells
      go_wp2
      exact unhide KR (unhide HO3) rfl rfl rfl (.inr ⟨rfl, unhide HI⟩)
    · have HI : Hid (insR bs i = some (⟨i, op, 0, 0, []⟩, i + 1)) := by show _ = _; rw [insR_f1 (unhide HG0) (unhide HF)]
      go_wp2
      go_meet
      case rel => exact ⟨_, _, _, 0, 0, rfl, rfl, by have := unhide HQ; omega, unhide HO3, .inl ⟨rfl, rfl, unhide HI⟩⟩
    · rcases (unhide HO3).get (unhide HB) hn (by omega) (k := 1) (by omega) true with ⟨x, g1, H1⟩ | ⟨g1, er, he1, he2, H1⟩
      · have HI : Hid (insR bs i = some (⟨i, op, x, 0, []⟩, i + 1 + 1)) := by show _ = _; rw [insR_f2 (unhide HG0) (unhide HF), g1]; rfl
        have hx := gR_small (k := 1) (by omega) g1
        have hx1 := hx.1
        have hx2 := hx.2.1
        have hjn := (gR_some g1).2
        have HC := hide H1
        clear H1 g1 hx
        go_wp2_with fail
        refine (unhide HC).mono ?_
        rintro e w4 ⟨rfl, o4⟩
        obtain ⟨⟨c0, c1, c2, c3, c4⟩, ⟨r0, r1, r2, r3, r4⟩, rz, t1, t2⟩ := o4.cells
        have HO5 := hide (o4.setA x)
        clear o4 HC
        go_wp2
        go_meet
        case rel => exact ⟨_, _, _, 0, 0, rfl, rfl, by have := unhide HQ; omega, unhide HO5, .inl ⟨rfl, rfl, unhide HI⟩⟩
      · have HI : Hid (insR bs i = none) := by show _ = _; rw [insR_f2 (unhide HG0) (unhide HF), g1]; rfl
        have HC := hide H1
        clear H1 g1
        go_wp2_with fail
        refine (unhide HC).mono ?_
        rintro e w4 ⟨rfl, o4⟩
        obtain ⟨⟨c0, c1, c2, c3, c4⟩, ⟨r0, r1, r2, r3, r4⟩, rz, t1, t2⟩ := o4.cells
        have HO5 := hide (o4.setA 0)
        have HER := hide he1
        clear o4 HC he1
        go_wp2
        go_meet
        case rel => exact ⟨_, _, _, er, 0, rfl, rfl, by have := unhide HQ; omega, unhide HO5, .inr ⟨.inl (unhide HER), unhide HI⟩⟩
    · rcases (unhide HO3).get (unhide HB) hn (by omega) (k := 2) (by omega) true with ⟨x, g1, H1⟩ | ⟨g1, er, he1, he2, H1⟩
      · have HI : Hid (insR bs i = some (⟨i, op, x, 0, []⟩, i + 1 + 2)) := by show _ = _; rw [insR_f3 (unhide HG0) (unhide HF), g1]; rfl
        have hx := gR_small (k := 2) (by omega) g1
        have hx1 := hx.1
        have hx2 := hx.2.1
        have hjn := (gR_some g1).2
        have HC := hide H1
        clear H1 g1 hx
        go_wp2_with fail
        refine (unhide HC).mono ?_
        rintro e w4 ⟨rfl, o4⟩
        obtain ⟨⟨c0, c1, c2, c3, c4⟩, ⟨r0, r1, r2, r3, r4⟩, rz, t1, t2⟩ := o4.cells
        have HO5 := hide (o4.setA x)
        clear o4 HC
        go_wp2
        go_meet
        case rel => exact ⟨_, _, _, 0, 0, rfl, rfl, by have := unhide HQ; omega, unhide HO5, .inl ⟨rfl, rfl, unhide HI⟩⟩
      · have HI : Hid (insR bs i = none) := by show _ = _; rw [insR_f3 (unhide HG0) (unhide HF), g1]; rfl
        have HC := hide H1
        clear H1 g1
        go_wp2_with fail
        refine (unhide HC).mono ?_
        rintro e w4 ⟨rfl, o4⟩
        obtain ⟨⟨c0, c1, c2, c3, c4⟩, ⟨r0, r1, r2, r3, r4⟩, rz, t1, t2⟩ := o4.cells
        have HO5 := hide (o4.setA 0)
        have HER := hide he1
        clear o4 HC he1
        go_wp2
        go_meet
        case rel => exact ⟨_, _, _, er, 0, rfl, rfl, by have := unhide HQ; omega, unhide HO5, .inr ⟨.inl (unhide HER), unhide HI⟩⟩
    · rcases (unhide HO3).get (unhide HB) hn (by omega) (k := 1) (by omega) false with ⟨x, g1, H1⟩ | ⟨g1, er, he1, he2, H1⟩
      · have HI : Hid (insR bs i = some (⟨i, op, x, 0, []⟩, i + 1 + 1)) := by show _ = _; rw [insR_f4 (unhide HG0) (unhide HF), g1]; rfl
        have hx := gR_small (k := 1) (by omega) g1
        have hx1 := hx.1
        have hx2 := hx.2.1
        have hjn := (gR_some g1).2
        have HC := hide H1
        clear H1 g1 hx
        go_wp2_with fail
        refine (unhide HC).mono ?_
        rintro e w4 ⟨rfl, o4⟩
        obtain ⟨⟨c0, c1, c2, c3, c4⟩, ⟨r0, r1, r2, r3, r4⟩, rz, t1, t2⟩ := o4.cells
        have HO5 := hide (o4.setA x)
        clear o4 HC
        go_wp2
        go_meet
        case rel => exact ⟨_, _, _, 0, 0, rfl, rfl, by have := unhide HQ; omega, unhide HO5, .inl ⟨rfl, rfl, unhide HI⟩⟩
      · have HI : Hid (insR bs i = none) := by show _ = _; rw [insR_f4 (unhide HG0) (unhide HF), g1]; rfl
        have HC := hide H1
        clear H1 g1
        go_wp2_with fail
        refine (unhide HC).mono ?_
        rintro e w4 ⟨rfl, o4⟩
        obtain ⟨⟨c0, c1, c2, c3, c4⟩, ⟨r0, r1, r2, r3, r4⟩, rz, t1, t2⟩ := o4.cells
        have HO5 := hide (o4.setA 0)
        have HER := hide he1
        clear o4 HC he1
        go_wp2
        go_meet
        case rel => exact ⟨_, _, _, er, 0, rfl, rfl, by have := unhide HQ; omega, unhide HO5, .inr ⟨.inl (unhide HER), unhide HI⟩⟩
    · rcases (unhide HO3).get (unhide HB) hn (by omega) (k := 2) (by omega) false with ⟨x, g1, H1⟩ | ⟨g1, er, he1, he2, H1⟩
      · have HI : Hid (insR bs i = some (⟨i, op, x, 0, []⟩, i + 1 + 2)) := by show _ = _; rw [insR_f5 (unhide HG0) (unhide HF), g1]; rfl
        have hx := gR_small (k := 2) (by omega) g1
        have hx1 := hx.1
        have hx2 := hx.2.1
        have hjn := (gR_some g1).2
        have HC := hide H1
        clear H1 g1 hx
        go_wp2_with fail
        refine (unhide HC).mono ?_
        rintro e w4 ⟨rfl, o4⟩
        obtain ⟨⟨c0, c1, c2, c3, c4⟩, ⟨r0, r1, r2, r3, r4⟩, rz, t1, t2⟩ := o4.cells
        have HO5 := hide (o4.setA x)
        clear o4 HC
        go_wp2
        go_meet
        case rel => exact ⟨_, _, _, 0, 0, rfl, rfl, by have := unhide HQ; omega, unhide HO5, .inl ⟨rfl, rfl, unhide HI⟩⟩
      · have HI : Hid (insR bs i = none) := by show _ = _; rw [insR_f5 (unhide HG0) (unhide HF), g1]; rfl
        have HC := hide H1
        clear H1 g1
        go_wp2_with fail
        refine (unhide HC).mono ?_
        rintro e w4 ⟨rfl, o4⟩
        obtain ⟨⟨c0, c1, c2, c3, c4⟩, ⟨r0, r1, r2, r3, r4⟩, rz, t1, t2⟩ := o4.cells
        have HO5 := hide (o4.setA 0)
        have HER := hide he1
        clear o4 HC he1
        go_wp2
        go_meet
        case rel => exact ⟨_, _, _, er, 0, rfl, rfl, by have := unhide HQ; omega, unhide HO5, .inr ⟨.inl (unhide HER), unhide HI⟩⟩
    · rcases (unhide HO3).get (unhide HB) hn (by omega) (k := 1) (by omega) false with ⟨x, g1, H1⟩ | ⟨g1, er, he1, he2, H1⟩
      · have hjn := (gR_some g1).2
        have HC := hide H1
        have HG1 := hide g1
        clear H1 g1
        go_wp2_with fail
        refine (unhide HC).mono ?_
        rintro e w4 ⟨rfl, o4⟩
        obtain ⟨⟨c0, c1, c2, c3, c4⟩, ⟨r0, r1, r2, r3, r4⟩, rz, t1, t2⟩ := o4.cells
        obtain ⟨w5, hw5⟩ : ∃ w5, w5 = w4.setCell ⟨I, 2, none⟩ (.int .i64 x) := ⟨_, rfl⟩
        have o5 := o4.setA x
        rw [← hw5] at o5
        have HW5 := hide hw5
        clear hw5 o4 HC
        rcases o5.get (unhide HB) hn (by have := unhide HQ; omega) (k := 1) (by omega) true with ⟨y, g2, H2⟩ | ⟨g2, er, he1, he2, H2⟩
        · have HI : Hid (insR bs i = some (⟨i, op, x, y, []⟩, i + 1 + 1 + 1)) := by show _ = _; rw [insR_f6 (unhide HG0) (unhide HF), unhide HG1]; simp only [Option.bind_some]; rw [g2]; rfl
          have hjn2 := (gR_some g2).2
          have HC := hide H2
          clear H2 g2 o5
          go_wp2_with fail
          rw [← unhide HW5]
          refine (unhide HC).mono ?_
          rintro e w6 ⟨rfl, o6⟩
          clear c0 c1 c2 c3 c4 r0 r1 r2 r3 r4 rz t1 t2
          obtain ⟨⟨c0, c1, c2, c3, c4⟩, ⟨r0, r1, r2, r3, r4⟩, rz, t1, t2⟩ := o6.cells
          have HO5 := hide (o6.setB y)
          clear o6 HC
          go_wp2
          go_meet
          case rel => exact ⟨_, _, _, 0, 0, rfl, rfl, by have := unhide HQ; omega, unhide HO5, .inl ⟨rfl, rfl, unhide HI⟩⟩
        · have HI : Hid (insR bs i = none) := by show _ = _; rw [insR_f6 (unhide HG0) (unhide HF), unhide HG1]; simp only [Option.bind_some]; rw [g2]; rfl
          have HC := hide H2
          have HER := hide he1
          clear H2 g2 o5 he1
          go_wp2_with fail
          rw [← unhide HW5]
          refine (unhide HC).mono ?_
          rintro e w6 ⟨rfl, o6⟩
          clear c0 c1 c2 c3 c4 r0 r1 r2 r3 r4 rz t1 t2
          obtain ⟨⟨c0, c1, c2, c3, c4⟩, ⟨r0, r1, r2, r3, r4⟩, rz, t1, t2⟩ := o6.cells
          have HO5 := hide (o6.setB 0)
          clear o6 HC
          go_wp2
          go_meet
          case rel => exact ⟨_, _, _, 0, er, rfl, rfl, by have := unhide HQ; omega, unhide HO5, .inr ⟨.inr (unhide HER), unhide HI⟩⟩
      · have HI : Hid (insR bs i = none) := by show _ = _; rw [insR_f6 (unhide HG0) (unhide HF), g1]; rfl
        have HC := hide H1
        have HER := hide he1
        clear H1 g1 he1
        go_wp2_with fail
        refine (unhide HC).mono ?_
        rintro e w4 ⟨rfl, o4⟩
        obtain ⟨⟨c0, c1, c2, c3, c4⟩, ⟨r0, r1, r2, r3, r4⟩, rz, t1, t2⟩ := o4.cells
        obtain ⟨w5, hw5⟩ : ∃ w5, w5 = w4.setCell ⟨I, 2, none⟩ (.int .i64 0) := ⟨_, rfl⟩
        have o5 := o4.setA 0
        rw [← hw5] at o5
        have HW5 := hide hw5
        clear hw5 o4 HC
        rcases o5.get (unhide HB) hn (by have := unhide HQ; omega) (k := 1) (by omega) true with ⟨y, g2, H2⟩ | ⟨g2, er2, hf1, hf2, H2⟩
        · have hjn2 := (gR_some g2).2
          have HC := hide H2
          clear H2 g2 o5
          go_wp2_with fail
          rw [← unhide HW5]
          refine (unhide HC).mono ?_
          rintro e w6 ⟨rfl, o6⟩
          clear c0 c1 c2 c3 c4 r0 r1 r2 r3 r4 rz t1 t2
          obtain ⟨⟨c0, c1, c2, c3, c4⟩, ⟨r0, r1, r2, r3, r4⟩, rz, t1, t2⟩ := o6.cells
          have HO5 := hide (o6.setB y)
          clear o6 HC
          go_wp2
          go_meet
          case rel => exact ⟨_, _, _, er, 0, rfl, rfl, by have := unhide HQ; omega, unhide HO5, .inr ⟨.inl (unhide HER), unhide HI⟩⟩
        · have HC := hide H2
          clear H2 g2 o5
          go_wp2_with fail
          rw [← unhide HW5]
          refine (unhide HC).mono ?_
          rintro e w6 ⟨rfl, o6⟩
          clear c0 c1 c2 c3 c4 r0 r1 r2 r3 r4 rz t1 t2
          obtain ⟨⟨c0, c1, c2, c3, c4⟩, ⟨r0, r1, r2, r3, r4⟩, rz, t1, t2⟩ := o6.cells
          have HO5 := hide (o6.setB 0)
          clear o6 HC
          go_wp2
          go_meet
          case rel => exact ⟨_, _, _, er, er2, rfl, rfl, by have := unhide HQ; omega, unhide HO5, .inr ⟨.inl (unhide HER), unhide HI⟩⟩
    · rcases (unhide HO3).get (unhide HB) hn (by omega) (k := 2) (by omega) true with ⟨x, g1, H1⟩ | ⟨g1, er, he1, he2, H1⟩
      · have HI : Hid (insR bs i = some (⟨i, op, ((i : Int) + x), 0, []⟩, i + 1 + 2)) := by show _ = _; rw [insR_f7 (unhide HG0) (unhide HF), g1]; rfl
        have hx := gR_small (k := 2) (by omega) g1
        have hx1 := hx.1
        have hx2 := hx.2.1
        have hjn := (gR_some g1).2
        have HC := hide H1
        clear H1 g1 hx
        go_wp2_with fail
        refine (unhide HC).mono ?_
        rintro e w4 ⟨rfl, o4⟩
        obtain ⟨⟨c0, c1, c2, c3, c4⟩, ⟨r0, r1, r2, r3, r4⟩, rz, t1, t2⟩ := o4.cells
        have hcm : IntKind.i64.wrap (x + (i : Int)) = (i : Int) + x := by rw [IntKind.wrap_i64]; omega
        have hcm2 : x + (i : Int) = (i : Int) + x := Int.add_comm _ _
        have HO5 := hide ((o4.setA x).setA ((i : Int) + x))
        have HCM := hide hcm2
        clear o4 HC hcm2
        go_wp2
        go_meet
        case rel => exact ⟨_, _, _, 0, 0, rfl, rfl, by have := unhide HQ; omega, unhide HO5, .inl ⟨rfl, rfl, unhide HI⟩⟩
      · have HI : Hid (insR bs i = none) := by show _ = _; rw [insR_f7 (unhide HG0) (unhide HF), g1]; rfl
        have HC := hide H1
        clear H1 g1
        go_wp2_with fail
        refine (unhide HC).mono ?_
        rintro e w4 ⟨rfl, o4⟩
        obtain ⟨⟨c0, c1, c2, c3, c4⟩, ⟨r0, r1, r2, r3, r4⟩, rz, t1, t2⟩ := o4.cells
        have hcm2 : (0 : Int) + (i : Int) = (i : Int) := Int.zero_add _
        have HO5 := hide ((o4.setA 0).setA (i : Int))
        have HER := hide he1
        clear o4 HC he1
        go_wp2
        go_meet
        case rel => exact ⟨_, _, _, er, 0, rfl, rfl, by have := unhide HQ; omega, unhide HO5, .inr ⟨.inl (unhide HER), unhide HI⟩⟩
    · obtain rfl : op = 170 := form8 (unhide HF)
      have HPD := hide (o9pad_any)
      have hR3 : (4 - (i + 1) % 4) % 4 ≤ 3 := by omega
      obtain ⟨R, hR⟩ : ∃ R : Nat, R = (4 - (i + 1) % 4) % 4 := ⟨_, rfl⟩
      have HR := hide hR
      rw [← hR] at hR3
      clear hR
      have HIC := hide (insR_cas (unhide HG0) (.inl (unhide HF)))
      go_wp2_with fail
      go_loopw [13, 14, 15] (fun vk _ _ W => ∃ k : Nat, k ≤ R ∧ vk = .int .i64 (k : Int) ∧ Om w I a n c (i + 1 + k) i 170 0 0 W ∧ padR bs 3 (i + 1) = padR bs (3 - k) (i + 1 + k) ∧ i + 1 + k ≤ n) (fun vk _ _ _ => R - (intOf vk).toNat)
      case atStart => exact ⟨0, by omega, rfl, unhide HO3, rfl, by omega⟩
      case round =>
        obtain ⟨k, hk, rfl, hO, hP, hkn⟩ := hrel
        have HPW := hide (unhide HPD wr i (by omega))
        by_cases hlt : k < R
        · have hlt1 : (k : Int) < (R : Int) := by omega
          have hpis := padR_is bs i k (R - k) (i + 1 + k) (by have := unhide HR; omega) rfl (by omega)
          rw [if_neg (by omega)] at hpis
          rcases hO.get (unhide HB) hn hkn (k := 1) (by omega) false with ⟨x, g1, H1⟩ | ⟨g1, er, he1, he2, H1⟩
          · rw [g1] at hpis
            simp only [Option.bind_some] at hpis
            have hjn := (gR_some g1).2
            by_cases hx0 : x = 0
            · subst hx0
              rw [if_pos rfl] at hpis
              have HPN : Hid (padR bs 3 (i + 1) = padR bs (3 - (k + 1)) (i + 1 + (k + 1))) := by show _ = _; rw [hP, hpis]; rfl
              have HC := hide H1
              clear H1 g1 hpis hP hO
              go_wp2_with fail
              refine (unhide HPW).mono ?_
              rintro e w4 ⟨rfl, rfl⟩
              rw [← unhide HR]
              go_wp2_with fail
              refine (unhide HC).mono ?_
              rintro e w5 ⟨rfl, o5⟩
              have HO5 := hide o5
              clear o5
              go_wp2
              go_roundw
              case rel =>
                refine ⟨_, _, _, _, _, _, _, _, _, _, _, _, _, _, _, _, _, _, _, _, _, _, _, ?_, rfl⟩
                exact ⟨k + 1, by omega, by go_num, unhide HO5, unhide HPN, by have := unhide HQ; omega⟩
              case measure => simp [intOf]; omega
            · have hx1 : (x == 0) = false := by simpa using hx0
              have hx2 : (x != 0) = true := by simpa using hx0
              rw [if_neg hx0] at hpis
              have HI : Hid (insR bs i = none) := by show _ = _; rw [unhide HIC, hP, hpis]; rfl
              have HC := hide H1
              clear H1 g1 hpis hP hO hx0
              go_wp2_with fail
              refine (unhide HPW).mono ?_
              rintro e w4 ⟨rfl, rfl⟩
              rw [← unhide HR]
              go_wp2_with fail
              refine (unhide HC).mono ?_
              rintro e w5 ⟨rfl, o5⟩
              obtain ⟨⟨c0, c1, c2, c3, c4⟩, ⟨r0, r1, r2, r3, r4⟩, rz, t1, t2⟩ := o5.cells
              have HO5 := hide o5
              clear o5 HC
              go_wp2
              exact unhide KR (unhide HO5) rfl rfl rfl (.inr ⟨rfl, unhide HI⟩)
          · rw [g1] at hpis
            have HI : Hid (insR bs i = none) := by show _ = _; rw [unhide HIC, hP, hpis]; rfl
            have HC := hide H1
            clear H1 g1 hpis hP hO
            go_wp2_with fail
            refine (unhide HPW).mono ?_
            rintro e w4 ⟨rfl, rfl⟩
            rw [← unhide HR]
            go_wp2_with fail
            refine (unhide HC).mono ?_
            rintro e w5 ⟨rfl, o5⟩
            obtain ⟨⟨c0, c1, c2, c3, c4⟩, ⟨r0, r1, r2, r3, r4⟩, rz, t1, t2⟩ := o5.cells
            have HO5 := hide o5
            clear o5 HC
            go_wp2
            exact unhide KR (unhide HO5) rfl rfl rfl (.inr ⟨rfl, unhide HI⟩)
        · obtain rfl : k = R := by omega
          have hpis := padR_is bs i k 0 (i + 1 + k) (by have := unhide HR; omega) rfl (by omega)
          rw [if_pos rfl] at hpis
          have HI2 : Hid (insR bs i = (casO bs i 170 (i + 1 + k)).bind fun r => some (⟨i, 170, r.1, r.2.1, r.2.2.1⟩, r.2.2.2)) := by show _ = _; rw [unhide HIC, hP, hpis]; rfl
          have HC := hide (o9cases_170 w wr hO.bel (w.heap.size + 1) (by omega) hO.zlt a n c bs (unhide HB) hn (i + 1 + k) hkn hO.rd i (by omega))
          obtain ⟨⟨c0, c1, c2, c3, c4⟩, ⟨r0, r1, r2, r3, r4⟩, rz, t1, t2⟩ := hO.cells
          have HO := hide hO
          clear hO hP hpis
          go_wp2_with fail
          refine (unhide HPW).mono ?_
          rintro e w4 ⟨rfl, rfl⟩
          rw [← unhide HR]
          go_wp2_with fail
          refine (unhide HC).mono ?_
          rintro e w5 hp5
          obtain ⟨A, B, ⟨sa, sn, sc⟩, cs, nx, ok, rfl, row5, fr5, bel5, sz5, hc5⟩ := hp5
          simp only at row5
          obtain ⟨rs5, row6⟩ := (unhide HO).behind (s := ⟨sa, sn, sc⟩) fr5 row5
          have HH : Hid ((ok = true ∧ ∃ j : Nat, nx = j ∧ insR bs i = some (⟨i, 170, A, B, cs⟩, j)) ∨ (ok = false ∧ insR bs i = none)) := by
            rcases hc5 with ⟨h1, j, h2, h3⟩ | ⟨h1, h3⟩
            · exact .inl ⟨h1, j, h2, by rw [unhide HI2, h3]; rfl⟩
            · exact .inr ⟨h1, by rw [unhide HI2, h3]; rfl⟩
          have HRS := hide rs5
          have HROW := hide row6
          have HBEL := hide bel5
          clear c0 c1 c2 c3 c4 r0 r1 r2 r3 r4 rz t1 t2 hc5 row5 fr5 bel5 sz5 row6
          have r0 := bx_cell rs5 0 _ rfl
          have r1 := bx_cell rs5 1 _ rfl
          have r2 := bx_cell rs5 2 _ rfl
          have r3 := bx_cell rs5 3 _ rfl
          have r4 := bx_cell rs5 4 _ rfl
          have t2 := fun q => bx_thaw rs5 q
          clear rs5
          go_wp2
          exact unhide KR0 ⟨sa, sn, sc⟩ (unhide HRS) (unhide HBEL) (unhide HROW) rfl rfl rfl (unhide HH)
    · obtain rfl : op = 171 := form9 (unhide HF)
      have HPD := hide (o9pad_any)
      have hR3 : (4 - (i + 1) % 4) % 4 ≤ 3 := by omega
      obtain ⟨R, hR⟩ : ∃ R : Nat, R = (4 - (i + 1) % 4) % 4 := ⟨_, rfl⟩
      have HR := hide hR
      rw [← hR] at hR3
      clear hR
      have HIC := hide (insR_cas (unhide HG0) (.inr (unhide HF)))
      go_wp2_with fail
      go_loopw [13, 14, 15] (fun vk _ _ W => ∃ k : Nat, k ≤ R ∧ vk = .int .i64 (k : Int) ∧ Om w I a n c (i + 1 + k) i 171 0 0 W ∧ padR bs 3 (i + 1) = padR bs (3 - k) (i + 1 + k) ∧ i + 1 + k ≤ n) (fun vk _ _ _ => R - (intOf vk).toNat)
      case atStart => exact ⟨0, by omega, rfl, unhide HO3, rfl, by omega⟩
      case round =>
        obtain ⟨k, hk, rfl, hO, hP, hkn⟩ := hrel
        have HPW := hide (unhide HPD wr i (by omega))
        by_cases hlt : k < R
        · have hlt1 : (k : Int) < (R : Int) := by omega
          have hpis := padR_is bs i k (R - k) (i + 1 + k) (by have := unhide HR; omega) rfl (by omega)
          rw [if_neg (by omega)] at hpis
          rcases hO.get (unhide HB) hn hkn (k := 1) (by omega) false with ⟨x, g1, H1⟩ | ⟨g1, er, he1, he2, H1⟩
          · rw [g1] at hpis
            simp only [Option.bind_some] at hpis
            have hjn := (gR_some g1).2
            by_cases hx0 : x = 0
            · subst hx0
              rw [if_pos rfl] at hpis
              have HPN : Hid (padR bs 3 (i + 1) = padR bs (3 - (k + 1)) (i + 1 + (k + 1))) := by show _ = _; rw [hP, hpis]; rfl
              have HC := hide H1
              clear H1 g1 hpis hP hO
              go_wp2_with fail
              refine (unhide HPW).mono ?_
              rintro e w4 ⟨rfl, rfl⟩
              rw [← unhide HR]
              go_wp2_with fail
              refine (unhide HC).mono ?_
              rintro e w5 ⟨rfl, o5⟩
              have HO5 := hide o5
              clear o5
              go_wp2
              go_roundw
              case rel =>
                refine ⟨_, _, _, _, _, _, _, _, _, _, _, _, _, _, _, _, _, _, _, _, _, _, _, ?_, rfl⟩
                exact ⟨k + 1, by omega, by go_num, unhide HO5, unhide HPN, by have := unhide HQ; omega⟩
              case measure => simp [intOf]; omega
            · have hx1 : (x == 0) = false := by simpa using hx0
              have hx2 : (x != 0) = true := by simpa using hx0
              rw [if_neg hx0] at hpis
              have HI : Hid (insR bs i = none) := by show _ = _; rw [unhide HIC, hP, hpis]; rfl
              have HC := hide H1
              clear H1 g1 hpis hP hO hx0
              go_wp2_with fail
              refine (unhide HPW).mono ?_
              rintro e w4 ⟨rfl, rfl⟩
              rw [← unhide HR]
              go_wp2_with fail
              refine (unhide HC).mono ?_
              rintro e w5 ⟨rfl, o5⟩
              obtain ⟨⟨c0, c1, c2, c3, c4⟩, ⟨r0, r1, r2, r3, r4⟩, rz, t1, t2⟩ := o5.cells
              have HO5 := hide o5
              clear o5 HC
              go_wp2
              exact unhide KR (unhide HO5) rfl rfl rfl (.inr ⟨rfl, unhide HI⟩)
          · rw [g1] at hpis
            have HI : Hid (insR bs i = none) := by show _ = _; rw [unhide HIC, hP, hpis]; rfl
            have HC := hide H1
            clear H1 g1 hpis hP hO
            go_wp2_with fail
            refine (unhide HPW).mono ?_
            rintro e w4 ⟨rfl, rfl⟩
            rw [← unhide HR]
            go_wp2_with fail
            refine (unhide HC).mono ?_
            rintro e w5 ⟨rfl, o5⟩
            obtain ⟨⟨c0, c1, c2, c3, c4⟩, ⟨r0, r1, r2, r3, r4⟩, rz, t1, t2⟩ := o5.cells
            have HO5 := hide o5
            clear o5 HC
            go_wp2
            exact unhide KR (unhide HO5) rfl rfl rfl (.inr ⟨rfl, unhide HI⟩)
        · obtain rfl : k = R := by omega
          have hpis := padR_is bs i k 0 (i + 1 + k) (by have := unhide HR; omega) rfl (by omega)
          rw [if_pos rfl] at hpis
          have HI2 : Hid (insR bs i = (casO bs i 171 (i + 1 + k)).bind fun r => some (⟨i, 171, r.1, r.2.1, r.2.2.1⟩, r.2.2.2)) := by show _ = _; rw [unhide HIC, hP, hpis]; rfl
          have HC := hide (o9cases_171 w wr hO.bel (w.heap.size + 1) (by omega) hO.zlt a n c bs (unhide HB) hn (i + 1 + k) hkn hO.rd i (by omega))
          obtain ⟨⟨c0, c1, c2, c3, c4⟩, ⟨r0, r1, r2, r3, r4⟩, rz, t1, t2⟩ := hO.cells
          have HO := hide hO
          clear hO hP hpis
          go_wp2_with fail
          refine (unhide HPW).mono ?_
          rintro e w4 ⟨rfl, rfl⟩
          rw [← unhide HR]
          go_wp2_with fail
          refine (unhide HC).mono ?_
          rintro e w5 hp5
          obtain ⟨A, B, ⟨sa, sn, sc⟩, cs, nx, ok, rfl, row5, fr5, bel5, sz5, hc5⟩ := hp5
          simp only at row5
          obtain ⟨rs5, row6⟩ := (unhide HO).behind (s := ⟨sa, sn, sc⟩) fr5 row5
          have HH : Hid ((ok = true ∧ ∃ j : Nat, nx = j ∧ insR bs i = some (⟨i, 171, A, B, cs⟩, j)) ∨ (ok = false ∧ insR bs i = none)) := by
            rcases hc5 with ⟨h1, j, h2, h3⟩ | ⟨h1, h3⟩
            · exact .inl ⟨h1, j, h2, by rw [unhide HI2, h3]; rfl⟩
            · exact .inr ⟨h1, by rw [unhide HI2, h3]; rfl⟩
          have HRS := hide rs5
          have HROW := hide row6
          have HBEL := hide bel5
          clear c0 c1 c2 c3 c4 r0 r1 r2 r3 r4 rz t1 t2 hc5 row5 fr5 bel5 sz5 row6
          have r0 := bx_cell rs5 0 _ rfl
          have r1 := bx_cell rs5 1 _ rfl
          have r2 := bx_cell rs5 2 _ rfl
          have r3 := bx_cell rs5 3 _ rfl
          have r4 := bx_cell rs5 4 _ rfl
          have t2 := fun q => bx_thaw rs5 q
          clear rs5
          go_wp2
          exact unhide KR0 ⟨sa, sn, sc⟩ (unhide HRS) (unhide HBEL) (unhide HROW) rfl rfl rfl (unhide HH)
  case rest =>
    obtain ⟨j, A, B, ev, fv, rfl, rfl, hj, hO, hc⟩ := hcut
    have HC7 := hide hO
    have HCC := hide hc
    clear hc
    have KX : Hid (∀ W, (W = wc.drew ∨ W = res5 wc.drew w.heap.size (.int .i64 (i : Int)) (.int .i64 op) (.int .i64 A) (.int .i64 B) (.slice none 0 0)) → (W.cell? ⟨I, 0, none⟩ = some (.int .i64 (i : Int)) ∧ W.cell? ⟨I, 1, none⟩ = some (.int .i64 op) ∧ W.cell? ⟨I, 2, none⟩ = some (.int .i64 A) ∧ W.cell? ⟨I, 3, none⟩ = some (.int .i64 B) ∧ W.cell? ⟨I, 4, none⟩ = some (.slice none 0 0)) ∧ W.cell? ⟨w.heap.size + 1, 1, none⟩ = some (.int .i64 (j : Int))) := by
      intro W hW
      have hI1 := (unhide HC7).hI
      have hb : W.heap[I]? = some (.cells #[.int .i64 (i : Int), .int .i64 op, .int .i64 A, .int .i64 B, .slice none 0 0] 38 (0, 0)) := by
        rcases hW with rfl | rfl
        · exact (unhide HC7).bx
        · exact (res5_other _ _ _ _ _ (by omega)).trans (unhide HC7).bx
      have hr : W.heap[w.heap.size + 1]? = some (.cells #[.slice a n c, .int .i64 (j : Int)] 100 (0, 0)) := by
        rcases hW with rfl | rfl
        · exact (unhide HC7).rd
        · exact (res5_other _ _ _ _ _ (by omega)).trans (unhide HC7).rd
      exact ⟨⟨bx_cell hb 0 _ rfl, bx_cell hb 1 _ rfl, bx_cell hb 2 _ rfl, bx_cell hb 3 _ rfl, bx_cell hb 4 _ rfl⟩, bx_cell hr 1 _ rfl⟩
    have HC8 : Hid (Om w I a n c j i op A B wc.drew) := (unhide HC7).below (Below.refl _ _).drew
    obtain ⟨_, ⟨s0, s1, s2, s3, s4⟩, _, _, t3⟩ := (unhide HC7).cells
    obtain ⟨_, ⟨r0, r1, r2, r3, r4⟩, _, _, t2⟩ := (unhide HC8).cells
    clear hO
    cases he : (ev == 0) with
    | true =>
      obtain ⟨ok, hok⟩ : ∃ ok, ok = (fv == 0) := ⟨_, rfl⟩
      have hok' := hok.symm
      have HH : Hid ((ok = true ∧ ∃ j' : Nat, (j : Int) = j' ∧ insR bs i = some (⟨i, op, A, B, []⟩, j')) ∨ (ok = false ∧ insR bs i = none)) := by
        rcases unhide HCC with ⟨h1, h2, h3⟩ | ⟨h1 | h1, h3⟩
        · exact .inl ⟨by rw [hok, h2]; rfl, j, rfl, h3⟩
        · rw [he] at h1; cases h1
        · exact .inr ⟨by rw [hok]; exact h1, h3⟩
      clear hok HCC
      go_wp2
      refine wp_region_txt (fun W => W = wc.drew ∨ W = res5 wc.drew w.heap.size (.int .i64 (i : Int)) (.int .i64 op) (.int .i64 A) (.int .i64 B) (.slice none 0 0)) [11] (List.range 14) (by kernel_rfl) (by kernel_rfl) (.inl rfl) ?_
      repeat (first
        | (refine Txt.skips (by rfl) (by rfl) ?_; simp only [Act.put, List.setIfInBounds_toArray, List.set_cons_zero, List.set_cons_succ])
        | (refine Txt.reads (v := ?_) (by rfl) (by rfl) (by rfl) ?_ ?_; rotate_left; (focus ((intro W hSW; obtain ⟨⟨p0, p1, p2, p3, p4⟩, p5⟩ := unhide KX W hSW; go_simp) <;> with_reducible rfl)); simp only [Act.put, List.setIfInBounds_toArray, List.set_cons_zero, List.set_cons_succ]))
      refine Txt.acts (by rfl) (by rfl) (by rfl) (fun K hK => ?_)
      go_simp
      refine hK.out _ _ (.inr rfl) ?_
      clear hK K
      repeat (first
        | (refine Txt.reads (v := ?_) (by rfl) (by rfl) (by rfl) ?_ ?_; rotate_left; (focus ((intro W hSW; go_simp) <;> with_reducible rfl)); simp only [Act.put, List.setIfInBounds_toArray, List.set_cons_zero, List.set_cons_succ]))
      refine Txt.done ?_
      go_wp2
      exact unhide KR (unhide HC8) rfl rfl rfl (unhide HH)
    | false =>
      have HH : Hid (insR bs i = none) := by
        rcases unhide HCC with ⟨h1, h2, h3⟩ | ⟨_, h3⟩
        · rw [h1] at he; cases he
        · exact h3
      clear HCC
      go_wp2
      refine wp_region_txt (fun W => W = wc.drew ∨ W = res5 wc.drew w.heap.size (.int .i64 (i : Int)) (.int .i64 op) (.int .i64 A) (.int .i64 B) (.slice none 0 0)) [11] (List.range 14) (by kernel_rfl) (by kernel_rfl) (.inl rfl) ?_
      repeat (first
        | (refine Txt.skips (by rfl) (by rfl) ?_; simp only [Act.put, List.setIfInBounds_toArray, List.set_cons_zero, List.set_cons_succ])
        | (refine Txt.reads (v := ?_) (by rfl) (by rfl) (by rfl) ?_ ?_; rotate_left; (focus ((intro W hSW; obtain ⟨⟨p0, p1, p2, p3, p4⟩, p5⟩ := unhide KX W hSW; go_simp) <;> with_reducible rfl)); simp only [Act.put, List.setIfInBounds_toArray, List.set_cons_zero, List.set_cons_succ]))
      refine Txt.acts (by rfl) (by rfl) (by rfl) (fun K hK => ?_)
      go_simp
      refine hK.out _ _ (.inr rfl) ?_
      clear hK K
      repeat (first
        | (refine Txt.reads (v := ?_) (by rfl) (by rfl) (by rfl) ?_ ?_; rotate_left; (focus ((intro W hSW; go_simp) <;> with_reducible rfl)); simp only [Act.put, List.setIfInBounds_toArray, List.set_cons_zero, List.set_cons_succ]))
      refine Txt.done ?_
      go_wp2
      exact unhide KR (unhide HC8) rfl rfl rfl (.inr ⟨rfl, unhide HH⟩)
end Go.Proofs.YtpmhcignenfhgaaDoor
