/- Joined: WlP1 ShB WlP2 WlP3. -/
import Derived.Test.YtfggahkimconfaaGreatDoorJd
import Derived.Test.YtfggahkimconfaaGreatDoorJk
import Derived.Laws.CopyOwn
import Derived.Shelf.Strings.BuilderK
import Derived.Shelf.LaysM
import Derived.Shelf.Strconv.Clone
import Derived.Ground.Names2Prog
import Derived.Shelf.Slices.Clone

/- The landed log: a sector's bytes: number, numbered, sealed. -/
namespace Go.Proofs.YtfggahkimconfaaGreatDoor
open Go.RowKit
set_option linter.unusedVariables false

set_option maxHeartbeats 400000 in
theorem lnumber_any (w : World) (n : Nat) (hn : n < W32) :
    Calls Tryz.prog 87 #[.int .i64 (n : Int)] w fun e w' => e = .returned (str (be4 n)) ∧ Below w.heap.size w w' := by
  have hn' : n < 4294967296 := hn
  have hcv := conv_bytes (w.alloc (.cells (bv (be4 n)).toArray 5)) (some ⟨w.heap.size, 0, none⟩) (be4 n) 4 (bytes_of_block (heap_alloc_last w _))
  rw [be4_len] at hcv
  have hm : (n : Int) / 16777216 % 256 = (n : Int) / 16777216 := by omega
  have hfb : Below w.heap.size w (w.alloc (.cells (bv (be4 n)).toArray 5)) := (Below.refl _ _).alloc (Nat.le_refl _) _
  unfold str
  generalize (⟨(be4 n).toArray⟩ : ByteArray) = st at *
  rw [bv_be4 n, hm] at hcv hfb
  have FB := hide hfb
  clear hm hfb
  go_enter Tryz.func87, Tryz.ntmps87
  go_wp2
  go_ret
  exact ⟨rfl, unhide FB⟩

set_option maxHeartbeats 800000 in
theorem lnumbered_any (w : World) (l : List UInt8) (h4 : l.length = 4) :
    Calls Tryz.prog 89 #[str l] w fun e w' => e = .returned (.int .i64 (num l : Int)) ∧ w' = w := by
  rw [← acc_num l h4]
  have hsz : (⟨l.toArray⟩ : ByteArray).size = 4 := by simp [ByteArray.size, h4]
  have H := hide (fun k (hk : k < l.length) => str_index l k l[k] (List.getElem?_eq_getElem hk))
  unfold str at *
  generalize (⟨l.toArray⟩ : ByteArray) = st at *
  go_enter Tryz.func89, Tryz.ntmps89
  go_wp2
  go_loopw [3, 7] (fun s i wr => ∃ k : Nat, k ≤ 4 ∧ i = .int .i64 k ∧ s = .int .i64 (acc (l.take k) : Int) ∧ wr = w) (fun _ i _ => 4 - (intOf i).toNat)
  case atStart => exact ⟨0, by omega, rfl, rfl, rfl⟩
  case round =>
    obtain ⟨k, hk, rfl, rfl, rfl⟩ := hrel
    by_cases hlt : k < 4
    · have hkl : k < l.length := by omega
      have hidx := unhide H k hkl
      have hnext : (acc (l.take (k + 1)) : Int) = (acc (l.take k) : Int) * 256 + (l[k].toNat : Int) := by rw [acc_take l hkl]; omega
      have hv := acc_le l h4 k hlt
      generalize acc (l.take k) = v at *
      have hx := l[k].toNat_lt
      have hor := or_byte v l[k].toNat hv (by omega)
      have HN := hide hnext
      clear hnext
      generalize l[k] = bk at *
      go_wp2
      go_roundw
      case rel => exact ⟨k + 1, by omega, by go_num, by rw [unhide HN], trivial⟩
      case measure => simp [intOf]; omega
    · obtain rfl : k = 4 := by omega
      have ht : l.take 4 = l := List.take_of_length_le (by omega)
      rw [ht] at *
      go_wp2
      go_ret
      exact ⟨rfl, rfl⟩

theorem own_sec {W : World} {base g : Nat} {l : List UInt8} {cs : Array Value} (hb : base ≤ g) (h : W.heap[g]? = some (.cells cs 5 (0, 0))) (hl : l.length = 256) (hc : cs.toList = bv l) : W.ownsRow base 5 1 (.slice (some ⟨g, 0, none⟩) 256 256) 256 (bv l) := by
  refine ⟨by rw [bv_length, hl], .inr ⟨g, 256, cs, rfl, hb, h, Nat.le_refl _, by unfold maxLen; omega, ?_, ?_⟩⟩
  · rw [← Array.length_toList, hc, bv_length, hl]
  · rw [hc]
    exact List.take_of_length_le (by rw [bv_length, hl]; omega)

set_option maxRecDepth 100000 in
set_option maxHeartbeats 800000 in
theorem lsealed_any (w : World) (r : Rec) (hT : Tab w) (h : fitS r) :
    Calls Tryz.prog 86 #[.int .i64 r.epoch, str r.data] w fun e w' => ∃ v, e = .returned v ∧ w'.ownsRow w.heap.size 5 1 v 256 (bv (secB r)) ∧ Below w.heap.size w w' := by
  have H1 := hide (fWrite_ok w r hT h.1)
  have hd := h.2
  have hsl := secB_len h
  have hsb := secB_ok h
  obtain ⟨n, hn⟩ : ∃ n, n = r.data.length + 12 := ⟨_, rfl⟩
  rw [← hn] at H1
  have hrl : (recL r).length = n := by rw [rec_len]; omega
  generalize secB r = sb at *
  have HSB : Hid (bv sb = bv (recL r) ++ (bv (zeros 256)).drop n) := by
    show _ = _
    rw [hsb, bv_append]
    congr 1
    unfold bv zeros
    rw [← List.map_drop, List.drop_replicate]
    congr 2
    omega
  have hn1 : n ≤ 256 := by omega
  have hn2 : 12 ≤ n := by omega
  clear hsb hn hd h
  unfold recV str at *
  generalize recL r = l at *
  generalize r.epoch = ep at *
  generalize (⟨r.data.toArray⟩ : ByteArray) = st at *
  go_enter Tryz.func86, Tryz.ntmps86
  go_wp2_with fail
  refine (unhide H1).mono ?_
  rintro e w1 ⟨v1, rfl, o1, f1⟩
  obtain ⟨g1, cap1, rfl, hg1, hnc⟩ := o1.form (by omega)
  have hmk : (Instr.makeSlice 43 (.int .i64 256) (.int .i64 256)).run Tryz.prog w1 = .ok (.slice (some ⟨w1.heap.size, 0, none⟩) 256 256) (w1.alloc (.cells (bv (zeros 256)).toArray 5)) := makeZ w1 256 (by omega)
  have hbb := own_bytes o1
  have hl2 := heap_alloc_last w1 (.cells (bv (zeros 256)).toArray 5)
  have hcs : ∀ j v, (bv l)[j]? = some v → (w1.alloc (.cells (bv (zeros 256)).toArray 5)).cell? ((⟨g1, 0, none⟩ : Addr).add j) = some v := fun j v hj => by
    have := (hbb.2 _ rfl j v hj)
    exact (((Below.refl w1.heap.size w1).alloc (Nat.le_refl _) _).cell (World.block_lt_of_cell? w1 _ this)).trans this
  have hsz1 := f1.size
  have F1 := hide f1
  have HL2 := hide hl2
  have HCS := hide hcs
  clear H1 o1 f1 hbb hl2 hcs
  generalize hlb : (bv (zeros 256)).toArray = lb at *
  have hls : lb.toList = bv (zeros 256) := by rw [← hlb]
  have hlz : lb.size = 256 := by rw [← hlb]; simp [bv_length, zeros]
  generalize hw2 : w1.alloc (.cells lb 5) = w2 at *
  have F2 : Hid (Below w.heap.size w w2) := by
    show Below _ _ _
    rw [← hw2]
    exact (unhide F1).alloc hsz1 _
  clear hlb hw2
  have hnb : (bv l).length = n := by rw [bv_length, hrl]
  go_wp2_with (refine wpList_copy_own rfl (.tmp 16) (.tmp 17) 43 43 rfl 5 Tryz.underlying43 (by kernel_rfl) w1.heap.size 0 256 256 ⟨g1, 0, none⟩ n cap1 rfl rfl lb 5 (unhide HL2) (bv l) (by rw [hnb]; show n = min n 256; omega) (unhide HCS) (by rw [hnb]; omega) (bv_one _) ?_)
  have F3 := hide (below_setRow (unhide F2) hsz1 (bv l ++ List.drop n (bv (zeros 256))).toArray)
  have H3 := hide (setRow_heap w2 w1.heap.size lb (bv l ++ List.drop n (bv (zeros 256))).toArray 5 _ (unhide HL2))
  clear HL2 HCS F2
  go_wp2
  go_ret
  exact ⟨_, rfl, own_sec hsz1 (unhide H3) hsl (unhide HSB).symm, unhide F3⟩

def hdV (now fro : Nat) : Value := .agg #[.int .i64 (now : Int), .int .i64 (fro : Int)]
def pcV (e k : Int) (fin : Bool) (d : List UInt8) : Value := .agg #[.int .i64 e, .int .i64 k, .bool fin, str d]

end Go.Proofs.YtfggahkimconfaaGreatDoor

/- The library's texts (strings.Builder, strings.Clone, slices.Clone), by the library's own contracts. -/
namespace Go.Proofs.YtfggahkimconfaaGreatDoor
open Go.RowKit Go.Shelf
set_option linter.unusedVariables false

def shS_ren : Go.Shelf.Ren := ⟨fun | 169 => 78 | n => n, fun | 0 => 0 | 3 => 3 | 5 => 5 | 9 => 9 | 37 => 43 | 70 => 115 | 72 => 117 | 127 => 134 | n => n, fun | n => n⟩
theorem shS : Go.Proofs.Lays.n169 Tryz.prog shS_ren := {
  mixed := by kernel_rfl
  f169 := Tryz.func78.trans (congrArg some (by kernel_rfl))
  t0 := Tryz.underlying0
  a0 := Tryz.isAgg0
  z0 := Tryz.sizeOf0
  v0 := Tryz.zeroValue0
  t3 := Tryz.underlying3
  a3 := Tryz.isAgg3
  z3 := Tryz.sizeOf3
  v3 := Tryz.zeroValue3
  t9 := Tryz.underlying9
  a9 := Tryz.isAgg9
  z9 := Tryz.sizeOf9
  v9 := Tryz.zeroValue9
  t37 := Tryz.underlying43
  a37 := Tryz.isAgg43
  z37 := Tryz.sizeOf43
  v37 := Tryz.zeroValue43
  t70 := Tryz.underlying115
  a70 := Tryz.isAgg115
  z70 := Tryz.sizeOf115
  v70 := Tryz.zeroValue115
  t72 := Tryz.underlying117
  a72 := Tryz.isAgg117
  z72 := Tryz.sizeOf117
  v72 := Tryz.zeroValue117
  t127 := Tryz.underlying134
  a127 := Tryz.isAgg134
  z127 := Tryz.sizeOf134
  v127 := Tryz.zeroValue134 }
theorem shSx : Builder.Extra Tryz.prog shS_ren := {
  sizeBuilder := by kernel_rfl
  liesBuilder := by kernel_rfl
  t5 := Tryz.underlying5
  a5 := Tryz.isAgg5
  z5 := Tryz.sizeOf5
  v5 := Tryz.zeroValue5
  infoByte := by kernel_rfl
  cellsByte := by kernel_rfl
  sizeByte := by kernel_rfl
  neB5 := by decide }
def shW_ren : Go.Shelf.Ren := ⟨fun | 166 => 77 | 240 => 91 | 276 => 98 | n => n, fun | 0 => 0 | 3 => 3 | 4 => 4 | 5 => 5 | 9 => 9 | 20 => 20 | 37 => 43 | 70 => 115 | 72 => 117 | 75 => 122 | 80 => 68 | 164 => 139 | n => n, fun | n => n⟩
theorem shW : Go.Proofs.Lays.n166 Tryz.prog shW_ren := {
  mixed := by kernel_rfl
  f166 := Tryz.func77.trans (congrArg some (by kernel_rfl))
  f240 := Tryz.func91.trans (congrArg some (by kernel_rfl))
  f276 := Tryz.func98.trans (congrArg some (by kernel_rfl))
  t0 := Tryz.underlying0
  a0 := Tryz.isAgg0
  z0 := Tryz.sizeOf0
  v0 := Tryz.zeroValue0
  t3 := Tryz.underlying3
  a3 := Tryz.isAgg3
  z3 := Tryz.sizeOf3
  v3 := Tryz.zeroValue3
  t4 := Tryz.underlying4
  a4 := Tryz.isAgg4
  z4 := Tryz.sizeOf4
  v4 := Tryz.zeroValue4
  t9 := Tryz.underlying9
  a9 := Tryz.isAgg9
  z9 := Tryz.sizeOf9
  v9 := Tryz.zeroValue9
  t20 := Tryz.underlying20
  a20 := Tryz.isAgg20
  z20 := Tryz.sizeOf20
  v20 := Tryz.zeroValue20
  t37 := Tryz.underlying43
  a37 := Tryz.isAgg43
  z37 := Tryz.sizeOf43
  v37 := Tryz.zeroValue43
  t70 := Tryz.underlying115
  a70 := Tryz.isAgg115
  z70 := Tryz.sizeOf115
  v70 := Tryz.zeroValue115
  t72 := Tryz.underlying117
  a72 := Tryz.isAgg117
  z72 := Tryz.sizeOf117
  v72 := Tryz.zeroValue117
  t75 := Tryz.underlying122
  a75 := Tryz.isAgg122
  z75 := Tryz.sizeOf122
  v75 := Tryz.zeroValue122
  t164 := Tryz.underlying139
  a164 := Tryz.isAgg139
  z164 := Tryz.sizeOf139
  v164 := Tryz.zeroValue139 }
theorem shWx : Builder.Extra Tryz.prog shW_ren := {
  sizeBuilder := by kernel_rfl
  liesBuilder := by kernel_rfl
  t5 := Tryz.underlying5
  a5 := Tryz.isAgg5
  z5 := Tryz.sizeOf5
  v5 := Tryz.zeroValue5
  infoByte := by kernel_rfl
  cellsByte := by kernel_rfl
  sizeByte := by kernel_rfl
  neB5 := by decide }
def shC_ren : Go.Shelf.Ren := ⟨fun | 316 => 84 | n => n, fun | 0 => 0 | 3 => 3 | 4 => 4 | 5 => 5 | 9 => 9 | 37 => 43 | 127 => 134 | n => n, fun | n => n⟩
theorem shC : Go.Proofs.LaysM.n316 Tryz.prog shC_ren := {
  mixed := by kernel_rfl
  f316 := Tryz.func84.trans (congrArg some (by kernel_rfl))
  t0 := Tryz.underlying0
  a0 := Tryz.isAgg0
  z0 := Tryz.sizeOf0
  v0 := Tryz.zeroValue0
  t3 := Tryz.underlying3
  a3 := Tryz.isAgg3
  z3 := Tryz.sizeOf3
  v3 := Tryz.zeroValue3
  t4 := Tryz.underlying4
  a4 := Tryz.isAgg4
  z4 := Tryz.sizeOf4
  v4 := Tryz.zeroValue4
  t9 := Tryz.underlying9
  a9 := Tryz.isAgg9
  z9 := Tryz.sizeOf9
  v9 := Tryz.zeroValue9
  t37 := Tryz.underlying43
  a37 := Tryz.isAgg43
  z37 := Tryz.sizeOf43
  v37 := Tryz.zeroValue43
  t127 := Tryz.underlying134
  a127 := Tryz.isAgg134
  z127 := Tryz.sizeOf134
  v127 := Tryz.zeroValue134
  t5 := Tryz.underlying5
  a5 := Tryz.isAgg5
  z5 := Tryz.sizeOf5
  v5 := Tryz.zeroValue5
  i0 := by kernel_rfl
  i3 := by kernel_rfl
  i4 := by kernel_rfl
  i5 := by kernel_rfl
  i9 := by kernel_rfl
  i37 := by kernel_rfl
  i127 := by kernel_rfl }
def shL_ren : Go.Shelf.Ren := ⟨fun | 16 => 67 | n => n, fun | 4 => 4 | 9 => 9 | 24 => 53 | n => n, fun | n => n⟩
theorem shL : Go.Proofs.Lays2.n16 Tryz.prog shL_ren := {
  mixed := by kernel_rfl
  f16 := Tryz.func67.trans (congrArg some (by kernel_rfl))
  t4 := Tryz.underlying4
  a4 := Tryz.isAgg4
  z4 := Tryz.sizeOf4
  v4 := Tryz.zeroValue4
  t9 := Tryz.underlying9
  a9 := Tryz.isAgg9
  z9 := Tryz.sizeOf9
  v9 := Tryz.zeroValue9
  t24 := Tryz.underlying53
  a24 := Tryz.isAgg53
  z24 := Tryz.sizeOf53
  v24 := Tryz.zeroValue53
  i9 := by kernel_rfl }

theorem bWrite_k (B b : Nat) (bs : List Value) (s : ByteArray) (w : World) (h : Lib.IsBuilderF 117 5 B b bs w) (hlen : bs.length + s.size ≤ 140737488355328) (hBw : B ≤ w.heap.size) :
    Calls Tryz.prog 77 #[.pointer (some ⟨b, 0, none⟩), .string s] w fun e w' => e = .returned (.tuple #[.int .i64 s.size, .nilIface]) ∧ (Lib.BuilderAtF 117 5 B b (.pointer (some ⟨b, 0, none⟩)) (bs ++ Lib.strCells s) w' ∧ Below B w w' ∧ Lib.OthersKept 5 (some b) w w') := Any.Builder_WriteString_k shW shWx B b bs s w h hlen hBw
theorem bString_k (B b : Nat) (l : List UInt8) (w : World) (h : Lib.IsBuilderF 117 5 B b (Lib.byteCells l) w) (hBw : B ≤ w.heap.size) :
    Calls Tryz.prog 78 #[.pointer (some ⟨b, 0, none⟩)] w fun e w' => e = .returned (.string ⟨l.toArray⟩) ∧ (Lib.IsBuilderF 117 5 B b (Lib.byteCells l) w' ∧ Below B w w' ∧ Lib.OthersKept 5 (some b) w w') := Any.Builder_String_any_k shS shSx B b l w h hBw
theorem liteClone_any (s : ByteArray) (w : World) (hlim : s.size ≤ 281474976710656) :
    Calls Tryz.prog 84 #[.string s] w fun e w' => e = .returned (.string s) ∧ Below w.heap.size w w' := Any.stringslite_Clone shC s w hlim
theorem slClone_some (b off n c : Nat) (zs : List ByteArray) (w : World) (hz : n ≤ zs.length) (hbig : n * 16 ≤ 140737488355328) (hc : ∀ j, j < zs.length → w.cell? ⟨b, off + j, none⟩ = some (.string (zs.getD j ByteArray.empty))) :
    Calls Tryz.prog 67 #[.slice (some ⟨b, off, none⟩) n c] w fun e w' => ∃ v', e = .returned v' ∧ w'.ownsRow w.heap.size 9 1 v' n ((zs.take n).map (Value.string)) ∧ v' ≠ .slice none 0 0 ∧ Below w.heap.size w w' := Any.slices_Clone_string shL b off n c zs w hz hbig hc
theorem slClone_none (n c : Nat) (w : World) :
    Calls Tryz.prog 67 #[.slice none n c] w fun e w' => e = .returned (.slice none 0 0) ∧ w' = w := Any.slices_Clone_string_nil shL n c w

end Go.Proofs.YtfggahkimconfaaGreatDoor

/- The landed log: heads and pieces: value, can, start, counts, room. -/
namespace Go.Proofs.YtfggahkimconfaaGreatDoor
open Go.RowKit
set_option linter.unusedVariables false

theorem be4_num {l : List UInt8} (h : 4 ≤ l.length) : be4 (num l) = l.take 4 := by
  match l, h with
  | a :: b :: c :: d :: t, _ =>
    have ha := a.toNat_lt
    have hb := b.toNat_lt
    have hc := c.toNat_lt
    have hd := d.toNat_lt
    have hn : num (a :: b :: c :: d :: t) = a.toNat * 16777216 + b.toNat * 65536 + c.toNat * 256 + d.toNat := rfl
    rw [hn]
    show be4 _ = [a, b, c, d]
    unfold be4
    simp only [List.cons.injEq, and_true]
    refine ⟨?_, ?_, ?_, ?_⟩ <;> (apply UInt8.toNat_inj.1; simp only [UInt8.toNat_ofNat']; omega)
/-- A record that is read is the one that was written. -/
theorem rec_first {l : List UInt8} (h : firstE l = 0) : recL (firstR l) = l.take (num l + 12) := by
  have hk := first_ok h
  have h8 : 8 ≤ l.length := by have := hk.2.1; omega
  have hr : rightL (l.take (num l + 12)) = true := by
    unfold firstE at h
    split at h
    · exact absurd h (by decide)
    · split at h
      · exact absurd h (by decide)
      · split at h
        · exact absurd h (by decide)
        · split at h
          · assumption
          · exact absurd h (by decide)
  unfold rightL at hr
  have hr2 := (of_decide_eq_true hr).2
  have hlen : (l.take (num l + 12)).length = num l + 12 := by rw [List.length_take]; have := hk.2.1; omega
  rw [hlen, List.take_take, show min (num l + 12 - 4) (num l + 12) = num l + 8 by omega] at hr2
  have hb : bodyL (firstR l) = l.take (num l + 8) := by
    unfold bodyL
    rw [hk.2.2, be4_num (by omega)]
    have he : (firstR l).epoch.toNat = num (l.drop 4) := by show ((num (l.drop 4) : Int)).toNat = _; omega
    rw [he, be4_num (by rw [List.length_drop]; omega)]
    show l.take 4 ++ ((l.drop 4).take 4 ++ (l.drop 8).take (num l)) = _
    rw [show num l + 8 = 4 + (4 + num l) by omega, List.take_add, List.take_add, List.drop_drop]
  unfold recL
  rw [hb]
  exact hr2
theorem sec_iff {l : List UInt8} (hl : l.length = 256) (h : firstE l = 0) : secB (firstR l) = l ↔ ∀ x ∈ l.drop (num l + 12), x = 0 := by
  have hk := first_ok h
  have hd : (firstR l).data.length = num l := hk.2.2
  have hfit : fitS (firstR l) := ⟨hk.1, by have := hk.2.1; omega⟩
  rw [secB_ok hfit, rec_first h, hd]
  constructor
  · intro e x hx
    have e2 := congrArg (List.drop (num l + 12)) e
    rw [List.drop_append_of_le_length (by rw [List.length_take]; have := hk.2.1; omega), List.drop_eq_nil_of_le (by rw [List.length_take]; omega), List.nil_append] at e2
    rw [← e2] at hx
    exact List.eq_of_mem_replicate hx
  · intro e
    have e2 : l.drop (num l + 12) = zeros (244 - num l) := by
      unfold zeros
      rw [List.eq_replicate_iff]
      exact ⟨by rw [List.length_drop, hl]; omega, e⟩
    rw [← e2, List.take_append_drop]
/-- The record of a sector, as the program reads it. -/
theorem read_yes {l : List UInt8} (hl : l.length = 256) (h : firstE l = 0) (hz : ∀ x ∈ l.drop (num l + 12), x = 0) : readS l = some (firstR l) := by
  unfold readS
  rw [if_pos ⟨h, by have := (first_ok h).2.1; omega, (sec_iff hl h).2 hz⟩]
theorem read_no {l : List UInt8} (h : firstE l ≠ 0) : readS l = none := by
  unfold readS
  rw [if_neg (fun e => h e.1)]
theorem read_more {l : List UInt8} (hl : l.length = 256) (h : firstE l = 0) {x : UInt8} (hx : x ∈ l.drop (num l + 12)) (h0 : x ≠ 0) : readS l = none := by
  unfold readS
  rw [if_neg (fun e => h0 ((sec_iff hl h).1 e.2.2 x hx))]

set_option maxHeartbeats 800000 in
theorem lcan_any (w : World) (e f : Int) :
    Calls Tryz.prog 70 #[.agg #[.int .i64 e, .int .i64 f]] w fun x w' => x = .returned (.bool (decide (e ≤ 4294967295))) ∧ Below w.heap.size w w' := by
  have FB : Hid (Below w.heap.size w (w.alloc (.cells #[.int .i64 e, .int .i64 f] 75))) := (Below.refl _ _).alloc (Nat.le_refl _) _
  go_enter Tryz.func70, Tryz.ntmps70
  go_wp2
  go_ret
  exact ⟨rfl, unhide FB⟩

set_option maxHeartbeats 800000 in
theorem lroom_any (w : World) (d : Value) (at_ size : Int) (hs : 0 ≤ size ∧ size ≤ 100000) (hd : d.oneCell' = true) :
    Calls Tryz.prog 68 #[.agg #[d, .int .i64 at_, .int .i64 size]] w fun x w' => x = .returned (.int .i64 (size - 1)) ∧ Below w.heap.size w w' := by
  have FB : Hid (Below w.heap.size w (w.alloc (.cells #[d, .int .i64 at_, .int .i64 size] 70))) := (Below.refl _ _).alloc (Nat.le_refl _) _
  go_enter Tryz.func68, Tryz.ntmps68
  go_wp2
  go_ret
  exact ⟨rfl, unhide FB⟩

theorem row_res2 {T : TypeId} {fn : Func} {p u : Tmp} (h : fn.results = #[.cell p T, .tmp u]) (w : World) (A : Nat) (c0 c1 : Value) (hT : T = 75 ∨ T = 85) (h0 : w.cell? ⟨A, 0, none⟩ = some c0) (h1 : w.cell? ⟨A, 1, none⟩ = some c1) (o0 : c0.oneCell' = true) (o1 : c1.oneCell' = true) (tmps : Array Value) (hp : tmps.getD p undef = .pointer (some ⟨A, 0, none⟩)) :
    (results fn tmps).run Tryz.prog w = .ok (.tuple #[.agg #[c0, c1], tmps.getD u undef]) w := by
  rw [results_cell_tmp h, hp]
  rcases hT with rfl | rfl <;> go_simp
theorem row_res3 {fn : Func} {p u : Tmp} (h : fn.results = #[.cell p 70, .tmp u]) (w : World) (A : Nat) (c0 c1 c2 : Value) (h0 : w.cell? ⟨A, 0, none⟩ = some c0) (h1 : w.cell? ⟨A, 1, none⟩ = some c1) (h2 : w.cell? ⟨A, 2, none⟩ = some c2) (o0 : c0.oneCell' = true) (o1 : c1.oneCell' = true) (o2 : c2.oneCell' = true) (tmps : Array Value) (hp : tmps.getD p undef = .pointer (some ⟨A, 0, none⟩)) :
    (results fn tmps).run Tryz.prog w = .ok (.tuple #[.agg #[c0, c1, c2], tmps.getD u undef]) w := by
  rw [results_cell_tmp h, hp]
  go_simp
theorem row_res4 {fn : Func} {p u : Tmp} (h : fn.results = #[.cell p 113, .tmp u]) (w : World) (A : Nat) (c0 c1 c2 c3 : Value) (h0 : w.cell? ⟨A, 0, none⟩ = some c0) (h1 : w.cell? ⟨A, 1, none⟩ = some c1) (h2 : w.cell? ⟨A, 2, none⟩ = some c2) (h3 : w.cell? ⟨A, 3, none⟩ = some c3) (o0 : c0.oneCell' = true) (o1 : c1.oneCell' = true) (o2 : c2.oneCell' = true) (o3 : c3.oneCell' = true) (tmps : Array Value) (hp : tmps.getD p undef = .pointer (some ⟨A, 0, none⟩)) :
    (results fn tmps).run Tryz.prog w = .ok (.tuple #[.agg #[c0, c1, c2, c3], tmps.getD u undef]) w := by
  rw [results_cell_tmp h, hp]
  go_simp
theorem row_res5 {fn : Func} {p u v : Tmp} (h : fn.results = #[.cell p 113, .tmp u, .tmp v]) (w : World) (A : Nat) (c0 c1 c2 c3 : Value) (h0 : w.cell? ⟨A, 0, none⟩ = some c0) (h1 : w.cell? ⟨A, 1, none⟩ = some c1) (h2 : w.cell? ⟨A, 2, none⟩ = some c2) (h3 : w.cell? ⟨A, 3, none⟩ = some c3) (o0 : c0.oneCell' = true) (o1 : c1.oneCell' = true) (o2 : c2.oneCell' = true) (o3 : c3.oneCell' = true) (tmps : Array Value) (hp : tmps.getD p undef = .pointer (some ⟨A, 0, none⟩)) :
    (results fn tmps).run Tryz.prog w = .ok (.tuple #[.agg #[c0, c1, c2, c3], tmps.getD u undef, tmps.getD v undef]) w := by
  rw [results_cell_two h, hp]
  go_simp
theorem row_res1 {fn : Func} {p : Tmp} (h : fn.results = #[.cell p 113]) (w : World) (A : Nat) (c0 c1 c2 c3 : Value) (h0 : w.cell? ⟨A, 0, none⟩ = some c0) (h1 : w.cell? ⟨A, 1, none⟩ = some c1) (h2 : w.cell? ⟨A, 2, none⟩ = some c2) (h3 : w.cell? ⟨A, 3, none⟩ = some c3) (o0 : c0.oneCell' = true) (o1 : c1.oneCell' = true) (o2 : c2.oneCell' = true) (o3 : c3.oneCell' = true) (tmps : Array Value) (hp : tmps.getD p undef = .pointer (some ⟨A, 0, none⟩)) :
    (results fn tmps).run Tryz.prog w = .ok (.agg #[c0, c1, c2, c3]) w := by
  rw [results_cell_one h, hp]
  go_simp

set_option maxHeartbeats 800000 in
theorem lstart_any (w : World) (e f : Int) :
    Calls Tryz.prog 74 #[.agg #[.int .i64 e, .int .i64 f]] w fun x w' => x = .returned (.agg #[.int .i64 f, .int .i64 0, .bool true, .string ⟨#[]⟩]) ∧ Below w.heap.size w w' := by
  have FB : Hid (Below w.heap.size w ((w.alloc (.cells #[.int .i64 e, .int .i64 f] 75)).alloc (.cells #[.int .i64 f, .int .i64 0, .bool true, .string ⟨#[]⟩] 113))) := ((Below.refl _ _).alloc (Nat.le_refl _) _).alloc (by simp) _
  have hA := heap_alloc_last (w.alloc (.cells #[.int .i64 e, .int .i64 f] 75)) (.cells #[.int .i64 f, .int .i64 0, .bool true, .string ⟨#[]⟩] 113)
  have hs : (w.alloc (.cells #[.int .i64 e, .int .i64 f] 75)).heap.size = w.heap.size + 1 := by simp
  rw [hs] at hA
  have HA := hide hA
  clear hA hs
  go_enter Tryz.func74, Tryz.ntmps74
  go_wp2
  exact bodyPost_ret (row_res1 Tryz.results74 _ (w.heap.size + 1) _ _ _ _ (by rw [cell_of_row _ _ _ _ _ _ (unhide HA)]; rfl) (by rw [cell_of_row _ _ _ _ _ _ (unhide HA)]; rfl) (by rw [cell_of_row _ _ _ _ _ _ (unhide HA)]; rfl) (by rw [cell_of_row _ _ _ _ _ _ (unhide HA)]; rfl) rfl rfl rfl rfl _ rfl) rfl ⟨rfl, unhide FB⟩

def countsP (now e1 e2 : Int) (fin : Bool) : Bool := if now < e1 then false else if fin = true then decide (e2 ≤ e1) else decide (e1 = e2)
set_option maxHeartbeats 1600000 in
theorem lcounts_any (w : World) (now fro e1 k1 e2 k2 : Int) (f1 f2 : Bool) (d1 d2 : ByteArray) :
    Calls Tryz.prog 76 #[.agg #[.int .i64 now, .int .i64 fro], .agg #[.int .i64 e1, .int .i64 k1, .bool f1, .string d1], .agg #[.int .i64 e2, .int .i64 k2, .bool f2, .string d2]] w fun x w' => x = .returned (.bool (countsP now e1 e2 f2)) ∧ Below w.heap.size w w' := by
  have FB : Hid (Below w.heap.size w (((w.alloc (.cells #[.int .i64 now, .int .i64 fro] 75)).alloc (.cells #[.int .i64 e1, .int .i64 k1, .bool f1, .string d1] 113)).alloc (.cells #[.int .i64 e2, .int .i64 k2, .bool f2, .string d2] 113))) :=
    (((Below.refl _ _).alloc (Nat.le_refl _) _).alloc (by simp) _).alloc (by simp; omega) _
  unfold countsP
  by_cases h1 : now < e1
  · rw [if_pos h1]
    go_enter Tryz.func76, Tryz.ntmps76
    go_wp2
    go_ret
    exact ⟨rfl, unhide FB⟩
  · rw [if_neg h1]
    have h1' : ¬ e1 > now := h1
    cases f2 with
    | true =>
      go_enter Tryz.func76, Tryz.ntmps76
      go_wp2
      go_ret
      exact ⟨rfl, unhide FB⟩
    | false =>
      go_enter Tryz.func76, Tryz.ntmps76
      go_wp2
      go_ret
      exact ⟨rfl, unhide FB⟩

theorem tab_below {B : Nat} {w w' : World} (h : Tab w) (f : Below B w w') (hB : 1 ≤ B) : Tab w' := fun i hi => by
  have h1 := h i hi
  exact (f.cell (p := ⟨0, i, none⟩) (by show 0 < B; omega)).trans h1
theorem lsealed_at {w : World} (r : Rec) (hT : Tab w) (h1 : 1 ≤ w.heap.size) (h : fitS r) (W : World) (f : Below w.heap.size w W) :
    Calls Tryz.prog 86 #[.int .i64 r.epoch, str r.data] W fun e w' => ∃ v, e = .returned v ∧ w'.ownsRow w.heap.size 5 1 v 256 (bv (secB r)) ∧ Below w.heap.size w w' := by
  refine (lsealed_any W r (tab_below hT f h1) h).mono ?_
  rintro e w' ⟨v, rfl, o, f'⟩
  exact ⟨v, rfl, own_base o f.size, f.trans (f'.mono f.size)⟩

set_option maxHeartbeats 800000 in
theorem lhval_any (w : World) (now fro : Nat) (hT : Tab w) (h1 : 1 ≤ w.heap.size) (hn : now < 4294967296) (hf : fro < 4294967296) :
    Calls Tryz.prog 71 #[.agg #[.int .i64 (now : Int), .int .i64 (fro : Int)]] w fun e w' => ∃ v, e = .returned v ∧ w'.ownsRow w.heap.size 5 1 v 256 (bv (secB (headR now fro))) ∧ Below w.heap.size w w' := by
  have f0 : Below w.heap.size w (w.alloc (.cells #[.int .i64 (now : Int), .int .i64 (fro : Int)] 75)) := (Below.refl _ _).alloc (Nat.le_refl _) _
  have hA := heap_alloc_last w (.cells #[.int .i64 (now : Int), .int .i64 (fro : Int)] 75)
  have hz : w.heap.size < (w.alloc (.cells #[.int .i64 (now : Int), .int .i64 (fro : Int)] 75)).heap.size := by simp
  generalize hwb : w.alloc (.cells #[.int .i64 (now : Int), .int .i64 (fro : Int)] 75) = wb at *
  have c0 : wb.cell? ⟨w.heap.size, 0, none⟩ = some (.int .i64 (now : Int)) := by rw [cell_of_row _ _ _ _ _ _ hA]; rfl
  have c1 : wb.cell? ⟨w.heap.size, 1, none⟩ = some (.int .i64 (fro : Int)) := by rw [cell_of_row _ _ _ _ _ _ hA]; rfl
  have KC : Hid (∀ W, Below wb.heap.size wb W → W.cell? ⟨w.heap.size, 0, none⟩ = some (.int .i64 (now : Int)) ∧ W.cell? ⟨w.heap.size, 1, none⟩ = some (.int .i64 (fro : Int))) := fun W f => ⟨(f.cell (p := ⟨w.heap.size, 0, none⟩) hz).trans c0, (f.cell (p := ⟨w.heap.size, 1, none⟩) hz).trans c1⟩
  have H1 : Hid (∀ W, Below wb.heap.size wb W → Calls Tryz.prog 87 #[.int .i64 (fro : Int)] W fun e w' => e = .returned (str (be4 fro)) ∧ Below wb.heap.size wb w') := fun W f => by
    refine (lnumber_any W fro hf).mono ?_
    rintro e w' ⟨rfl, f'⟩
    exact ⟨rfl, f.trans (f'.mono f.size)⟩
  have FX : Hid (∀ W, Below wb.heap.size wb W → Below w.heap.size w W) := fun W f => f0.trans (f.mono (by omega))
  have H2 : Hid (∀ W : World, Below wb.heap.size wb W → Calls Tryz.prog 86 #[.int .i64 (now : Int), str (be4 fro)] W fun e w' => ∃ v, e = .returned v ∧ w'.ownsRow wb.heap.size 5 1 v 256 (bv (secB (headR now fro))) ∧ Below wb.heap.size wb w') := fun W f => lsealed_at (headR now fro) (tab_below hT f0 h1) (by omega) (head_fit hn) W f
  have HW := hide hwb
  clear f0 hT hA hwb
  unfold str at *
  generalize (⟨(be4 fro).toArray⟩ : ByteArray) = st at *
  generalize secB (headR now fro) = sb at *
  go_enter Tryz.func71, Tryz.ntmps71
  go_wp2_with fail
  rw [unhide HW]
  go_region_held_law (fun W => W.cell? ⟨w.heap.size, 0, none⟩ = some (.int .i64 (now : Int)) ∧ W.cell? ⟨w.heap.size, 1, none⟩ = some (.int .i64 (fro : Int))) (go_keep)
    (first
      | (have fx := f2; clear fx; go_at_call 86; refine (unhide H2 _ (by repeat (first | exact f2 | refine Below.drew ?_))).mono ?_; rintro e w3 ⟨v3, rfl, o3, f3⟩; have k30 := (unhide KC w3 f3).1; have k31 := (unhide KC w3 f3).2)
      | (go_at_call 87; refine (unhide H1 _ (by repeat (first | exact Below.refl _ _ | refine Below.drew ?_))).mono ?_; rintro e w2 ⟨rfl, f2⟩; have k20 := (unhide KC w2 f2).1; have k21 := (unhide KC w2 f2).2))
  have O3 := hide (own_base o3 (show w.heap.size ≤ wb.heap.size by omega))
  have F3 := hide (unhide FX _ f3)
  clear o3 f3 f2 k20 k21 k30 k31 H1 H2 KC
  go_wp2
  go_ret
  exact ⟨_, rfl, unhide O3, unhide F3⟩

end Go.Proofs.YtfggahkimconfaaGreatDoor

/- The landed log: a piece's sector, how many sectors a record takes, a sector's record. -/
namespace Go.Proofs.YtfggahkimconfaaGreatDoor
open Go.RowKit
set_option linter.unusedVariables false

theorem part_bytes2 (e K : Nat) (fin : Bool) (c : List UInt8) : (⟨(be4 K).toArray⟩ : ByteArray) ++ ⟨#[if fin = true then 1 else 0]⟩ ++ ⟨c.toArray⟩ = ⟨(partR e K fin c).data.toArray⟩ := by
  apply ByteArray.ext
  simp [partR]

set_option maxRecDepth 100000 in
set_option maxHeartbeats 1600000 in
theorem lpval_any (w : World) (e k : Nat) (fin : Bool) (d : List UInt8) (hT : Tab w) (h1 : 1 ≤ w.heap.size) (he : e < 4294967296) (hk : k < 4294967296) (hd : d.length ≤ 231) :
    Calls Tryz.prog 83 #[.agg #[.int .i64 (e : Int), .int .i64 (k : Int), .bool fin, str d]] w fun x w' => ∃ v, x = .returned v ∧ w'.ownsRow w.heap.size 5 1 v 256 (bv (secB (partR e k fin d))) ∧ Below w.heap.size w w' := by
  have f0 : Below w.heap.size w (w.alloc (.cells #[.int .i64 (e : Int), .int .i64 (k : Int), .bool fin, str d] 113)) := (Below.refl _ _).alloc (Nat.le_refl _) _
  have hA := heap_alloc_last w (.cells #[.int .i64 (e : Int), .int .i64 (k : Int), .bool fin, str d] 113)
  have hz : w.heap.size < (w.alloc (.cells #[.int .i64 (e : Int), .int .i64 (k : Int), .bool fin, str d] 113)).heap.size := by simp
  generalize hwb : w.alloc (.cells #[.int .i64 (e : Int), .int .i64 (k : Int), .bool fin, str d] 113) = wb at *
  have c0 : wb.cell? ⟨w.heap.size, 0, none⟩ = some (.int .i64 (e : Int)) := by rw [cell_of_row _ _ _ _ _ _ hA]; rfl
  have c1 : wb.cell? ⟨w.heap.size, 1, none⟩ = some (.int .i64 (k : Int)) := by rw [cell_of_row _ _ _ _ _ _ hA]; rfl
  have c2 : wb.cell? ⟨w.heap.size, 2, none⟩ = some (.bool fin) := by rw [cell_of_row _ _ _ _ _ _ hA]; rfl
  have c3 : wb.cell? ⟨w.heap.size, 3, none⟩ = some (str d) := by rw [cell_of_row _ _ _ _ _ _ hA]; rfl
  have KC : Hid (∀ W, Below wb.heap.size wb W → W.cell? ⟨w.heap.size, 0, none⟩ = some (.int .i64 (e : Int)) ∧ W.cell? ⟨w.heap.size, 1, none⟩ = some (.int .i64 (k : Int)) ∧ W.cell? ⟨w.heap.size, 3, none⟩ = some (str d)) := fun W f => ⟨(f.cell (p := ⟨w.heap.size, 0, none⟩) hz).trans c0, (f.cell (p := ⟨w.heap.size, 1, none⟩) hz).trans c1, (f.cell (p := ⟨w.heap.size, 3, none⟩) hz).trans c3⟩
  have H1 : Hid (∀ W, Below wb.heap.size wb W → Calls Tryz.prog 87 #[.int .i64 (k : Int)] W fun e w' => e = .returned (str (be4 k)) ∧ Below wb.heap.size wb w') := fun W f => by
    refine (lnumber_any W k hk).mono ?_
    rintro e w' ⟨rfl, f'⟩
    exact ⟨rfl, f.trans (f'.mono f.size)⟩
  have FX : Hid (∀ W, Below wb.heap.size wb W → Below w.heap.size w W) := fun W f => f0.trans (f.mono (by omega))
  have H2 : Hid (∀ W : World, Below wb.heap.size wb W → Calls Tryz.prog 86 #[.int .i64 (e : Int), .string ((⟨(be4 k).toArray⟩ : ByteArray) ++ ⟨#[if fin = true then 1 else 0]⟩ ++ ⟨d.toArray⟩)] W fun x w' => ∃ v, x = .returned v ∧ w'.ownsRow wb.heap.size 5 1 v 256 (bv (secB (partR e k fin d))) ∧ Below wb.heap.size wb w') := fun W f => by
    rw [part_bytes2 e k fin d]
    exact lsealed_at (partR e k fin d) (tab_below hT f0 h1) (by omega) (part_fit he hd) W f
  have HW := hide hwb
  have hXs : (⟨(be4 k).toArray⟩ : ByteArray).size = 4 := by show (be4 k).toArray.size = 4; simp [be4_len]
  have hps : (⟨d.toArray⟩ : ByteArray).size ≤ 231 := by show d.toArray.size ≤ 231; rw [List.size_toArray]; exact hd
  clear f0 hT hA hwb
  unfold str at *
  generalize secB (partR e k fin d) = sb at *
  generalize (⟨(be4 k).toArray⟩ : ByteArray) = X at *
  generalize (⟨d.toArray⟩ : ByteArray) = pt at *
  obtain ⟨b, hb⟩ : ∃ b : UInt8, (if fin = true then (1 : UInt8) else 0) = b := ⟨_, rfl⟩
  rw [hb] at H2
  have hb1 : (⟨#[b]⟩ : ByteArray).size = 1 := rfl
  have add1 : ∀ W, (Op.stringOp .add X ⟨#[b]⟩).run Tryz.prog W = .ok (.string (X ++ ⟨#[b]⟩)) W := fun W => run_string_add_sum (P := Tryz.prog) W X _ (by omega)
  have add2 : ∀ W, (Op.stringOp .add (X ++ ⟨#[b]⟩) pt).run Tryz.prog W = .ok (.string (X ++ ⟨#[b]⟩ ++ pt)) W := fun W => run_string_add_sum (P := Tryz.prog) W _ pt (by rw [ByteArray.size_append']; omega)
  generalize hZ : X ++ ⟨#[b]⟩ ++ pt = Z at *
  clear hZ
  generalize hYY : X ++ ⟨#[b]⟩ = YY at *
  clear hYY hb1 hXs hps hk hd he
  cases fin
  all_goals
    simp at hb
    subst hb
    go_enter Tryz.func83, Tryz.ntmps83
    go_upto_region 1 with fail
    rw [unhide HW]
    go_upto_region 4 with fail
    go_region_held_law (fun W => W.cell? ⟨w.heap.size, 0, none⟩ = some (.int .i64 (e : Int)) ∧ W.cell? ⟨w.heap.size, 1, none⟩ = some (.int .i64 (k : Int)) ∧ W.cell? ⟨w.heap.size, 3, none⟩ = some (.string pt)) (go_keep)
      (first
        | (have fx := f2; clear fx; go_at_call 86; refine (unhide H2 _ (by repeat (first | exact f2 | refine Below.drew ?_))).mono ?_; rintro e w3 ⟨v3, rfl, o3, f3⟩; have k30 := (unhide KC w3 f3).1; have k31 := (unhide KC w3 f3).2.1; have k32 := (unhide KC w3 f3).2.2)
        | (go_at_call 87; refine (unhide H1 _ (by repeat (first | exact Below.refl _ _ | refine Below.drew ?_))).mono ?_; rintro e w2 ⟨rfl, f2⟩; have k20 := (unhide KC w2 f2).1; have k21 := (unhide KC w2 f2).2.1; have k22 := (unhide KC w2 f2).2.2))
    have O3 := hide (own_base o3 (show w.heap.size ≤ wb.heap.size by omega))
    have F3 := hide (unhide FX _ f3)
    clear o3 f3 f2 k20 k21 k22 k30 k31 k32 H1 H2 KC
    go_wp2
    go_ret
    exact ⟨_, rfl, unhide O3, unhide F3⟩

set_option maxHeartbeats 800000 in
theorem lsectorsOf_any (w : World) (d : List UInt8) (hd : d.length ≤ 4096) :
    Calls Tryz.prog 82 #[str d] w fun x w' => x = .returned (.int .i64 (need d.length : Int)) ∧ w' = w := by
  have hsz : (⟨d.toArray⟩ : ByteArray).size = d.length := by simp [ByteArray.size]
  obtain ⟨n, hn⟩ : ∃ n, n = d.length := ⟨_, rfl⟩
  rw [← hn] at hsz hd ⊢
  unfold str
  generalize (⟨d.toArray⟩ : ByteArray) = st at *
  have hne : need n = max 1 ((n + 230) / 231) := rfl
  clear hn
  generalize need n = N at *
  have HN := hide hne
  clear hne
  go_enter Tryz.func82, Tryz.ntmps82
  go_wp2
  go_ret
  exact ⟨ret_int (by rw [unhide HN]; omega), rfl⟩

set_option maxRecDepth 100000 in
set_option maxHeartbeats 1600000 in
theorem lunsealed_any (w : World) (b o cap : Nat) (l : List UInt8) (hT : Tab w) (h1 : 1 ≤ w.heap.size) (hl : l.length = 256) (hc : 256 ≤ cap) (hcap : cap ≤ 9223372036854775807) (h : BytesAt w (some ⟨b, o, none⟩) l) :
    Calls Tryz.prog 88 #[.slice (some ⟨b, o, none⟩) 256 cap] w fun e w' => e = .returned (.tuple #[recV ((readS l).getD rec0), .bool (readS l).isSome]) ∧ Below w.heap.size w w' := by
  have hA := heap_alloc_last w (.cells #[.int .i64 0, .string ⟨#[]⟩] 85)
  have fb : Below w.heap.size w (w.alloc (.cells #[.int .i64 0, .string ⟨#[]⟩] 85)) := (Below.refl _ _).alloc (Nat.le_refl _) _
  generalize hwb : w.alloc (.cells #[.int .i64 0, .string ⟨#[]⟩] 85) = wb at *
  have hws : wb.heap.size = w.heap.size + 1 := by rw [← hwb]; simp
  have H1 := hide (fFirst_any wb (some ⟨b, o, none⟩) 256 cap l (tab_below hT fb h1) hc hcap (by omega) ⟨hl, .inr ⟨b, o, rfl, h.below fb⟩⟩)
  have FB := hide fb
  have HW := hide hwb
  have HA := hide hA
  have HB := hide h
  clear fb hA hwb h
  by_cases hE : firstE l = 0
  · obtain ⟨hro, hnl, hdl⟩ := first_ok hE
    have e2 : firstQ l = firstR l := by unfold firstQ; rw [if_pos hE]
    obtain ⟨N, hN⟩ : ∃ N, N = num l + 12 := ⟨_, rfl⟩
    have e3 : firstN l = N := by unfold firstN; rw [if_pos hE, hN]
    have hR : recV (firstR l) = .agg #[.int .i64 (num (l.drop 4) : Int), .string ⟨((l.drop 8).take (num l)).toArray⟩] := rfl
    obtain ⟨PO, hPO⟩ : ∃ PO : Ending → World → Prop, PO = fun e w' => e = .returned (.tuple #[recV ((readS l).getD rec0), .bool (readS l).isSome]) ∧ Below w.heap.size w w' := ⟨_, rfl⟩
    have HP1 : Hid (∀ w', (∀ x ∈ l.drop N, x = 0) → Below w.heap.size w w' → PO (.returned (.tuple #[recV (firstR l), .bool true])) w') := fun w' hz f => by
      rw [hPO]
      show _ ∧ _
      rw [read_yes hl hE (hN ▸ hz)]
      exact ⟨rfl, f⟩
    have HP0 : Hid (∀ w' x, x ∈ l.drop N → x ≠ 0 → Below w.heap.size w w' → PO (.returned (.tuple #[.agg #[.int .i64 0, .string ⟨#[]⟩], .bool false])) w') := fun w' x hx h0 f => by
      rw [hPO]
      show _ ∧ _
      rw [read_more hl hE (hN ▸ hx) h0]
      exact ⟨rfl, f⟩
    rw [← hPO]
    rw [hE, e2, e3] at H1
    rw [hR] at H1 HP1
    have hD : (l.drop N).length = 256 - N := by rw [List.length_drop, hl]
    have HG : Hid (∀ W, Below w.heap.size w W → BytesAt W (some ⟨b, o + N, none⟩) (l.drop N)) := fun W f => bytes_drop ((unhide HB).below f) N
    obtain ⟨M, hM⟩ : ∃ M, M = 256 - N := ⟨_, rfl⟩
    have hNM : N + M = 256 := by omega
    have gM : (256 : Int) - (N : Int) = (M : Int) := by omega
    have gN2 : (N : Int) ≤ 256 := by omega
    generalize hs : (⟨((l.drop 8).take (num l)).toArray⟩ : ByteArray) = st at *
    generalize num (l.drop 4) = ep at *
    generalize l.drop N = D at *
    rw [← hM] at hD
    clear hs hR e2 e3 hN hE hro hnl hdl hM hPO HB
    go_enter Tryz.func88, Tryz.ntmps88
    go_upto_region 1 with fail
    rw [unhide HW]
    go_wp2_with fail
    refine (unhide H1).mono ?_
    rintro e w1 ⟨rfl, f1⟩
    have hA1 := (f1.block w.heap.size (by omega)).trans (unhide HA)
    have f1' : Below w.heap.size w w1 := (unhide FB).trans (f1.mono (by omega))
    have hq1 := f1.size
    clear f1 H1
    go_upto_region 2 with fail
    have hA2 := (heap_alloc_old w1 (.cells #[.int .i64 (ep : Int), .string st] 85) (lt_of_heap hA1)).trans hA1
    have hB2 := heap_alloc_last w1 (.cells #[.int .i64 (ep : Int), .string st] 85)
    have f2 : Below w.heap.size w (w1.alloc (.cells #[.int .i64 (ep : Int), .string st] 85)) := f1'.alloc f1'.size _
    generalize w1.alloc (.cells #[.int .i64 (ep : Int), .string st] 85) = w2 at *
    have c0 : w2.cell? ⟨w1.heap.size, 0, none⟩ = some (.int .i64 (ep : Int)) := by rw [cell_of_row _ _ _ _ _ _ hB2]; rfl
    have c1 : w2.cell? ⟨w1.heap.size, 1, none⟩ = some (.string st) := by rw [cell_of_row _ _ _ _ _ _ hB2]; rfl
    have d0 : w2.cell? ⟨w.heap.size, 0, none⟩ = some (.int .i64 0) := by rw [cell_of_row _ _ _ _ _ _ hA2]; rfl
    have d1 : w2.cell? ⟨w.heap.size, 1, none⟩ = some (.string ⟨#[]⟩) := by rw [cell_of_row _ _ _ _ _ _ hA2]; rfl
    have hf0 : w2.frozen? ⟨w.heap.size, 0, none⟩ = false := frozen_of_row _ _ _ _ _ hA2
    have hf1 : w2.frozen? ⟨w.heap.size, 1, none⟩ = false := frozen_of_row _ _ _ _ _ hA2
    have F2 := hide f2
    have HA2 := hide hA2
    clear f1' hA1 hA2 hB2 f2
    go_wp2
    all_goals
      go_loopw [22] (fun i wr => ∃ k : Nat, k ≤ M ∧ i = .int .i64 k ∧ wr = w2 ∧ ∀ x ∈ D.take k, x = 0) (fun i _ => M - (intOf i).toNat)
      case atStart => exact ⟨0, by omega, rfl, rfl, fun x hx => by simp at hx⟩
      case round =>
        obtain ⟨k, hk, rfl, rfl, hz⟩ := hrel
        by_cases hlt : k < M
        · first
          | (exfalso; omega)
          | (have hkl : k < D.length := by omega
             have hcell := bytes_get (unhide HG wr (unhide F2)) hkl
             have hlt1 : (k : Int) < (M : Int) := by omega
             by_cases hb : D[k] = 0
             · have hb0 : (D[k].toNat : Int) = 0 := by rw [hb]; rfl
               rw [hb0] at hcell
               have HZ : Hid (∀ x ∈ D.take (k + 1), x = 0) := fun x hx => by
                 rw [List.take_succ_eq_append_getElem hkl, List.mem_append] at hx
                 rcases hx with hx | hx
                 · exact hz x hx
                 · rw [List.mem_singleton] at hx
                   rw [hx, hb]
               clear hz hb0 hb
               go_wp2
               go_roundw
               case rel => exact ⟨k + 1, by omega, by go_num, trivial, unhide HZ⟩
               case measure => simp [intOf]; omega
             · have hb0 : ((D[k].toNat : Int) != 0) = true := by
                 have : D[k].toNat ≠ 0 := fun e => hb (UInt8.toNat_inj.1 e)
                 simp; omega
               have HP := hide (fun w' => unhide HP0 w' D[k] (List.getElem_mem hkl) hb)
               have hbb := D[k].toNat_lt
               generalize D[k].toNat = bb at *
               clear hb hz HP0 HP1 HG
               go_wp2
               refine bodyPost_ret (row_res2 Tryz.results88 _ w.heap.size (.int .i64 0) (.string ⟨#[]⟩) (.inr rfl) ?_ ?_ rfl rfl _ rfl) rfl (unhide HP _ ?_)
               · exact (rec_set _ _ (unhide HA2)).1
               · exact (rec_set _ _ (unhide HA2)).2
               · exact rec_below _ _ (unhide F2) (Nat.le_refl _))
        · obtain rfl : k = M := by omega
          rw [List.take_of_length_le (by omega)] at hz
          have HP := hide (fun w' => unhide HP1 w' hz)
          clear hz HP1 HP0 HG
          go_wp2
          refine bodyPost_ret (row_res2 Tryz.results88 _ w.heap.size (.int .i64 (ep : Int)) (.string st) (.inr rfl) ?_ ?_ rfl rfl _ rfl) rfl (unhide HP _ ?_)
          · exact (rec_set _ _ (unhide HA2)).1
          · exact (rec_set _ _ (unhide HA2)).2
          · exact rec_below _ _ (unhide F2) (Nat.le_refl _)
  · rw [read_no hE]
    show Calls _ _ _ _ fun e w' => e = .returned (.tuple #[.agg #[.int .i64 0, .string ⟨#[]⟩], .bool false]) ∧ _
    have e2 : firstQ l = rec0 := by unfold firstQ; rw [if_neg hE]
    have e3 : firstN l = 0 := by unfold firstN; rw [if_neg hE]
    rw [e2, e3] at H1
    have hR : recV rec0 = .agg #[.int .i64 0, .string ⟨#[]⟩] := rfl
    rw [hR] at H1
    have gN : (firstE l != 0) = true := by simpa using hE
    clear e2 e3 hR hE
    generalize firstE l = E at *
    go_enter Tryz.func88, Tryz.ntmps88
    go_upto_region 1 with fail
    rw [unhide HW]
    go_wp2_with fail
    refine (unhide H1).mono ?_
    rintro e w1 ⟨rfl, f1⟩
    have hA1 := (f1.block w.heap.size (by omega)).trans (unhide HA)
    have f1' : Below w.heap.size w w1 := (unhide FB).trans (f1.mono (by omega))
    clear f1 H1
    go_upto_region 2 with fail
    have hA2 := (heap_alloc_old w1 (.cells #[.int .i64 0, .string ⟨#[]⟩] 85) (lt_of_heap hA1)).trans hA1
    have f2 : Below w.heap.size w (w1.alloc (.cells #[.int .i64 0, .string ⟨#[]⟩] 85)) := f1'.alloc f1'.size _
    generalize w1.alloc (.cells #[.int .i64 0, .string ⟨#[]⟩] 85) = w2 at *
    have d0 : w2.cell? ⟨w.heap.size, 0, none⟩ = some (.int .i64 0) := by rw [cell_of_row _ _ _ _ _ _ hA2]; rfl
    have d1 : w2.cell? ⟨w.heap.size, 1, none⟩ = some (.string ⟨#[]⟩) := by rw [cell_of_row _ _ _ _ _ _ hA2]; rfl
    have hf0 : w2.frozen? ⟨w.heap.size, 0, none⟩ = false := frozen_of_row _ _ _ _ _ hA2
    have hf1 : w2.frozen? ⟨w.heap.size, 1, none⟩ = false := frozen_of_row _ _ _ _ _ hA2
    have HA2 := hide hA2
    have F2 := hide f2
    clear hA1 hA2 f1' f2
    go_wp2
    refine bodyPost_ret (row_res2 Tryz.results88 _ w.heap.size (.int .i64 0) (.string ⟨#[]⟩) (.inr rfl) ?_ ?_ rfl rfl _ rfl) rfl ⟨rfl, ?_⟩
    · exact (rec_set _ _ (unhide HA2)).1
    · exact (rec_set _ _ (unhide HA2)).2
    · exact rec_below _ _ (unhide F2) (Nat.le_refl _)

end Go.Proofs.YtfggahkimconfaaGreatDoor
