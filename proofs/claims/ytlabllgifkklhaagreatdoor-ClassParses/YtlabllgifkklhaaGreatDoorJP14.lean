/- Joined: PkP PlK2 PkQ PkE PkF. -/
import Derived.Test.YtlabllgifkklhaaGreatDoorJP9
import Derived.Test.YtlabllgifkklhaaGreatDoorJP13
import Derived.Test.YtlabllgifkklhaaGreatDoorJP6
import Derived.Laws.IdiomStrings
import Derived.Deep.RegionLaw
import Derived.Laws.ResultCell
set_option linter.unusedVariables false
set_option maxRecDepth 100000
set_option maxHeartbeats 3200000
namespace Go.Proofs.YtlabllgifkklhaaGreatDoor
open Go.RowKit
theorem kstr_bytes (l:List UInt8) (hl:l.length≤9223372036854775807):∃(cc:World→Nat) (cw:World→World),(∀W,(convert 9 29 (.string ⟨l.toArray⟩)).run Tryz.prog W=.ok (.slice (some ⟨W.heap.size,0,none⟩) l.length (cc W)) (cw W)) ∧
 (∀W,Arg (cw W) (some ⟨W.heap.size,0,none⟩) l.length (cc W) l)∧(∀W,Below W.heap.size W (cw W)):=by
 have hsz:((⟨l.toArray⟩:ByteArray)).size=l.length:=by simp [ByteArray.size]
 refine ⟨fun W=>grownCap W l.length 0 5,fun W=>W.drew.alloc (.cells (bytesRow ⟨l.toArray⟩ (grownCap W l.length 0 5)) 5 ((bytesRow ⟨l.toArray⟩ (grownCap W l.length 0 5)).size,(bytesRow ⟨l.toArray⟩ (grownCap W l.length 0 5)).size+1)),fun W=>?_,fun W=>?_,fun W=>?_⟩
 · have:=run_bytes_of_string (P:=Tryz.prog) W 9 29 5 ⟨l.toArray⟩ Tryz.underlying9 Tryz.underlying29 Tryz.underlying5
   rw [hsz] at this;exact this
 · refine ⟨⟨rfl,.inr ⟨_,_,rfl,(fun e=>by cases e),fun ad e j u hu=>?_⟩⟩,grownCap_ge _ _ _ _,?_,(fun e=>by cases e)⟩
   · injection e with e
     subst e;have hj:=(List.getElem?_eq_some_iff.1 hu).1;rw [bv_length] at hj;rw [Addr.add_mid,Nat.zero_add];have h1:=World.cell?_alloc_mark W.drew (bytesRow ⟨l.toArray⟩ (grownCap W l.length 0 5)) 5 ((bytesRow ⟨l.toArray⟩ (grownCap W l.length 0 5)).size,(bytesRow ⟨l.toArray⟩ (grownCap W l.length 0 5)).size+1) j;refine h1.trans ?_;rw [bytesRow_at _ _ j (by simpa using hj),←hu];simp [bv,hj]
   · have:=grownCap_le_maxLen W l.length 0 5 (by unfold maxLen;exact hl)
     unfold maxLen at this;exact this
 · exact (Below.refl _ W).drew.alloc (Nat.le_refl _) _
structure WS (F0:Nat→Prop) (w0:World) (B x:Nat) (bs:List UInt8) (W:World):Prop where
 ex:∃F,WR F W B x bs∧∀j,F j→F0 j∨w0.heap.size≤j
 fr:Fr6 F0 B w0 W
theorem kwr_lt {F:Nat→Prop} {w:World} {B x:Nat} {bs:List UInt8} (h:WR F w B x bs):∀k,F k→B≤k∧k<w.heap.size:=by
 obtain ⟨y,c,rfl,h⟩:=h;intro k hk
 rcases hk with rfl | rfl
 · exact ⟨h.hx,h.xlt⟩
 · exact h.y
theorem kwr_below {F:Nat→Prop} {w w':World} {B x:Nat} {bs:List UInt8} (h:WR F w B x bs) (f:Below w.heap.size w w'):WR F w' B x bs:=by
 obtain ⟨y,c,rfl,h⟩:=h;exact ⟨y,c,rfl,h.below f⟩
theorem kfr_trans {F F1:Nat→Prop} {B:Nat} {w w1 w2:World} (f1:Fr6 F B w w1) (f2:Fr6 F1 B w1 w2) (hF:∀k,F1 k→F k∨w.heap.size≤k):Fr6 F B w w2:=
 ⟨f1.below.trans f2.below,fun k hk hn=>(f2.other k (Nat.lt_of_lt_of_le hk f1.below.size) (fun h=>(hF k h).elim hn (fun h=>by omega))).trans (f1.other k hk hn)⟩
theorem WS.start {F0:Nat→Prop} {w:World} {B x:Nat} {bs:List UInt8} (h:WR F0 w B x bs):WS F0 w B x bs w:=⟨⟨F0,h,fun j hj=>.inl hj⟩,Below.refl _ _,fun _ _ _=>rfl⟩
theorem WS.below {F0:Nat→Prop} {w0 W W':World} {B x:Nat} {bs:List UInt8} (h:WS F0 w0 B x bs W) (hB:B≤w0.heap.size) (f:Below W.heap.size W W'):WS F0 w0 B x bs W':=by
 obtain ⟨F,h1,h2⟩:=h.ex;exact ⟨⟨F,kwr_below h1 f,h2⟩,kfr_trans (F1:=fun _=>False) h.fr (Fr6.of_below f (Nat.le_trans hB h.fr.below.size)) (fun k hk=>hk.elim)⟩
theorem WS.next {F0 F F':Nat→Prop} {w0 W W':World} {B x:Nat} {bs bs':List UInt8} (h:WS F0 w0 B x bs W) (hF:∀j,F j→F0 j∨w0.heap.size≤j) (h1:WR F' W' B x bs') (h2:∀j,F' j→F j∨W.heap.size≤j) (f:Fr6 F B W W'):WS F0 w0 B x bs' W':=
 ⟨⟨F',h1,fun j hj=>(h2 j hj).elim (fun e=>hF j e) (fun e=>.inr (Nat.le_trans h.fr.below.size e))⟩,kfr_trans h.fr f hF⟩
theorem knums_two (w:World) (y z:Int):Nums (w.alloc (.cells #[.int .i64 y,.int .i64 z] 3)) (some ⟨w.heap.size,0,none⟩) 2 [y,z]:=by
 have h:=heap_alloc_last w (.cells #[.int .i64 y,.int .i64 z] 3);refine ⟨rfl,.inr ⟨_,_,rfl,fun j q hq=>?_⟩⟩
 match j with
 | 0=>
  simp at hq;subst hq;rw [cell_of_row _ _ _ _ _ _ h];rfl
 | 1=>
  simp at hq;subst hq;rw [cell_of_row _ _ _ _ _ _ h];rfl
 | j+2=>simp at hq
def Rng (z:Int):Prop:=-9223372036854775808≤z∧z≤9223372036854775807
theorem ws_u {F0:Nat→Prop} {w0 W:World} {B x:Nat} {bs:List UInt8} (h:WS F0 w0 B x bs W) (hB:B≤w0.heap.size) (k:Int) (z:Int) (hw:wide k) (hz:fitsW k z false) (rz:Rng z) (hs:bs.length≤100000000) (rk:Rng k) :
 Calls Tryz.prog 57 #[.pointer (some ⟨x,0,none⟩),.int .i64 k,.slice (some ⟨W.heap.size,0,none⟩) 1 1] (W.alloc (.cells #[.int .i64 z] 3)) fun e w'=>e=.returned (.int .i64 0)∧WS F0 w0 B x (bs++bytesW k z) w':=by
 have f:Below W.heap.size W (W.alloc (.cells #[.int .i64 z] 3)):=(Below.refl _ _).alloc (Nat.le_refl _) _;have h':=h.below hB f;obtain ⟨F,h1,h2⟩:=h.ex;have h1':=kwr_below h1 f;have hp:putW bs k false [z]=(bs++bytesW k z,0):=by
  rw [putW_ok hw (fun q hq=>by
   simp at hq;subst hq;exact hz)]
  simp
 refine (eU_any F _ B x bs k _ 1 1 [z] h1' (nums_one W z) (fun b o e _ hb=>?_) (fun q hq=>?_) (by omega) rk).mono ?_
 · injection e with e
   injection e with e1
   have:=(kwr_lt h1 b hb).2;omega
 · simp at hq
   subst hq;exact rz
 · rintro e w' ⟨rfl,⟨F',r1,r2⟩,r3⟩
   rw [hp] at r1 ⊢;exact ⟨rfl,h'.next h2 r1 r2 r3⟩
theorem ws_s {F0:Nat→Prop} {w0 W:World} {B x:Nat} {bs:List UInt8} (h:WS F0 w0 B x bs W) (hB:B≤w0.heap.size) (k:Int) (z:Int) (hw:wide k) (hz:fitsW k z true) (rz:Rng z) (hs:bs.length≤100000000) (rk:Rng k) :
 Calls Tryz.prog 139 #[.pointer (some ⟨x,0,none⟩),.int .i64 k,.slice (some ⟨W.heap.size,0,none⟩) 1 1] (W.alloc (.cells #[.int .i64 z] 3)) fun e w'=>e=.returned (.int .i64 0)∧WS F0 w0 B x (bs++bytesW k z) w':=by
 have f:Below W.heap.size W (W.alloc (.cells #[.int .i64 z] 3)):=(Below.refl _ _).alloc (Nat.le_refl _) _;have h':=h.below hB f;obtain ⟨F,h1,h2⟩:=h.ex;have h1':=kwr_below h1 f;have hp:putW bs k true [z]=(bs++bytesW k z,0):=by
  rw [putW_ok hw (fun q hq=>by
   simp at hq;subst hq;exact hz)]
  simp
 refine (eS_any F _ B x bs k _ 1 1 [z] h1' (nums_one W z) (fun b o e _ hb=>?_) (fun q hq=>?_) (by omega) rk).mono ?_
 · injection e with e
   injection e with e1
   have:=(kwr_lt h1 b hb).2;omega
 · simp at hq
   subst hq;exact rz
 · rintro e w' ⟨rfl,⟨F',r1,r2⟩,r3⟩
   rw [hp] at r1 ⊢;exact ⟨rfl,h'.next h2 r1 r2 r3⟩
theorem ws_u2 {F0:Nat→Prop} {w0 W:World} {B x:Nat} {bs:List UInt8} (h:WS F0 w0 B x bs W) (hB:B≤w0.heap.size) (k:Int) (y z:Int) (hw:wide k) (hy:fitsW k y false) (hz:fitsW k z false) (ry:Rng y) (rz:Rng z) (hs:bs.length≤100000000) (rk:Rng k) :
 Calls Tryz.prog 57 #[.pointer (some ⟨x,0,none⟩),.int .i64 k,.slice (some ⟨W.heap.size,0,none⟩) 2 2] (W.alloc (.cells #[.int .i64 y,.int .i64 z] 3)) fun e w'=>e=.returned (.int .i64 0)∧WS F0 w0 B x (bs++(bytesW k y++bytesW k z)) w':=by
 have f:Below W.heap.size W (W.alloc (.cells #[.int .i64 y,.int .i64 z] 3)):=(Below.refl _ _).alloc (Nat.le_refl _) _;have h':=h.below hB f;obtain ⟨F,h1,h2⟩:=h.ex;have h1':=kwr_below h1 f;have hp:putW bs k false [y,z]=(bs++(bytesW k y++bytesW k z),0):=by
  rw [putW_ok hw (fun q hq=>by
   simp at hq
   rcases hq with rfl | rfl
   · exact hy
   · exact hz)]
  simp
 refine (eU_any F _ B x bs k _ 2 2 [y,z] h1' (knums_two W y z) (fun b o e _ hb=>?_) (fun q hq=>?_) (by omega) rk).mono ?_
 · injection e with e
   injection e with e1
   have:=(kwr_lt h1 b hb).2;omega
 · simp at hq
   rcases hq with rfl | rfl
   · exact ry
   · exact rz
 · rintro e w' ⟨rfl,⟨F',r1,r2⟩,r3⟩
   rw [hp] at r1 ⊢;exact ⟨rfl,h'.next h2 r1 r2 r3⟩
theorem ws_bytes {F0:Nat→Prop} {w0 W W':World} {B x:Nat} {bs:List UInt8} (h:WS F0 w0 B x bs W) (hB:B≤w0.heap.size) (f:Below W.heap.size W W') (b c:Nat) (ys:List UInt8) (ha:Arg W' (some ⟨b,0,none⟩) ys.length c ys) (hb:W.heap.size≤b) (hs:bs.length≤100000000) (hy:ys.length≤100000000) :
 Calls Tryz.prog 88 #[.pointer (some ⟨x,0,none⟩),.slice (some ⟨b,0,none⟩) ys.length c] W' fun e w'=>e=.returned (.int .i64 0)∧WS F0 w0 B x (bs++ys) w':=by
 have h':=h.below hB f;obtain ⟨F,h1,h2⟩:=h.ex;have h1':=kwr_below h1 f;refine (eBytes_any F W' B x bs _ ys.length c ys h1' ha (fun b' o e _ hb'=>?_) (by omega)).mono ?_
 · injection e with e
   injection e with e1
   have:=(kwr_lt h1 b' hb').2;omega
 · rintro e w' ⟨rfl,⟨F',r1,r2⟩,r3⟩
   exact ⟨rfl,h'.next h2 r1 r2 r3⟩
theorem bytesW_one {t:Int} (h0:0≤t) (h1:t<256):bytesW 1 t=[UInt8.ofNat t.toNat]:=by
 unfold bytesW;have e:(t%18446744073709551616).toNat=t.toNat:=by omega
 rw [e];show beK 1 t.toNat=_;simp [beK]
theorem fits_tag {t:Int} (h0:0≤t) (h1:t<256):fitsW 1 t false:=by
 unfold fitsW;rw [if_neg (by decide),if_neg (by decide)];exact ⟨by decide,h0,h1⟩
theorem WS.leave {F0 F:Nat→Prop} {w0 w w1 W:World} {B x:Nat} {bs bs':List UInt8} (h:WS F0 w0 B x bs w) (hB:B≤w0.heap.size) (hF:∀j,F j→F0 j∨w0.heap.size≤j) (b:Below w.heap.size w w1) (g:WS F w1 B x bs' W):WS F0 w0 B x bs' W:=by
 obtain ⟨F',h1,h2⟩:=g.ex;have hs:=h.fr.below.size;exact ⟨⟨F',h1,fun j hj=>(h2 j hj).elim (fun e=>hF j e) (fun e=>.inr (Nat.le_trans hs (Nat.le_trans b.size e)))⟩,kfr_trans h.fr (kfr_trans (Fr6.of_below b (Nat.le_trans hB hs)) g.fr (fun k hk=>.inl hk)) hF⟩
theorem WS.box {F:Nat→Prop} {w w1 W:World} {B x:Nat} {bs:List UInt8} {X:Obj} (hF:∀k,F k→B≤k∧k<w.heap.size) (h1:w1.heap[w.heap.size]?=some X) (g:WS F w1 B x bs W):W.heap[w.heap.size]?=some X:=
 (g.fr.other _ (lt_of_heap h1) (fun h=>by have:=(hF _ h).2;omega)).trans h1
theorem kwriteEntry_1 (F:Nat→Prop) (w:World) (B x:Nat) (bs:List UInt8) (h:WR F w B x bs) (hB:B≤w.heap.size) (hs:bs.length≤10000000) (y:Ent) (ht:y.tag=1) (hy:y.text.length≤255) :
 Calls Tryz.prog 121 #[.pointer (some ⟨x,0,none⟩),entV y] w fun e w'=>e=.returned (.tuple #[])∧WS F w B x (bs++bytesE y) w':=by
 have hbe:bytesE y=bytesW 1 1++(bytesW 2 (y.text.length:Int)++y.text):=by
  unfold bytesE bodyE;rw [ht,bytesW_one (by omega) (by omega)];simp
 obtain ⟨tag,text,nn,aa,bb⟩:=y;simp only at ht hbe hy;subst ht;have HBE:=hide hbe;clear hbe;have b0:Below w.heap.size w (w.alloc (.cells #[.int .i64 1,.string ⟨text.toArray⟩,.int .i64 nn,.int .i64 aa,.int .i64 bb] 55)):=(Below.refl _ _).alloc (Nat.le_refl _) _;have hl0:=heap_alloc_last w (.cells #[.int .i64 1,.string ⟨text.toArray⟩,.int .i64 nn,.int .i64 aa,.int .i64 bb] 55);have hF:=kwr_lt h;have S1:=WS.start (kwr_below h b0);have SW:=WS.start h;have HX:=hide hl0;have HW1:Hid ((w.alloc (.cells #[.int .i64 1,.string ⟨text.toArray⟩,.int .i64 nn,.int .i64 aa,.int .i64 bb] 55)).heap.size=w.heap.size+1):=by
  show (w.alloc (.cells #[.int .i64 1,.string ⟨text.toArray⟩,.int .i64 nn,.int .i64 aa,.int .i64 bb] 55)).heap.size=w.heap.size+1;simp
 have B0:=hide b0;have hB1:B≤(w.alloc (.cells #[.int .i64 1,.string ⟨text.toArray⟩,.int .i64 nn,.int .i64 aa,.int .i64 bb] 55)).heap.size:=Nat.le_trans hB b0.size;unfold entV;simp only;obtain ⟨cc,cw,hconv,hArg,hBel⟩:=kstr_bytes text (by omega);have hlen:(⟨text.toArray⟩:ByteArray).size=text.length:=by simp [ByteArray.size]
 have HA:=hide hArg;have HBl:=hide hBel;clear hArg hBel;clear b0 hl0 h;go_enter Tryz.func121,Tryz.ntmps121;go_wp2_with fail;generalize w.alloc (.cells #[.int .i64 1,.string ⟨text.toArray⟩,.int .i64 nn,.int .i64 aa,.int .i64 bb] 55)=w1 at *;have HU:=ws_u S1 hB1 1 1 (by decide) (fits_tag (by omega) (by omega)) (by unfold Rng;omega) (by omega) (by unfold Rng;omega);rw [unhide HW1] at HU;refine HU.mono ?_;rintro e w2 ⟨rfl,Sw2⟩;clear HU;have hl2:(bs++bytesW 1 1).length=bs.length+1:=by rw [List.length_append,bytesW_len];rfl
 have xbw2:=Sw2.box hF (unhide HX);have x0w2:w2.cell? ⟨w.heap.size,0,none⟩=some (.int .i64 1):=by rw [cell_of_row _ _ _ _ _ _ xbw2];rfl
 have x1w2:w2.cell? ⟨w.heap.size,1,none⟩=some (.string ⟨text.toArray⟩):=by rw [cell_of_row _ _ _ _ _ _ xbw2];rfl
 clear xbw2;go_wp2_with fail;refine (ws_u Sw2 hB1 2 (text.length:Int) (by decide) (by unfold fitsW;rw [if_neg (by decide),if_neg (by decide)];refine ⟨by decide,by omega,?_⟩;show (text.length:Int)<65536;omega) (by unfold Rng;omega) (by omega) (by unfold Rng;omega)).mono ?_;rintro e w3 ⟨rfl,Sw3⟩;have hl3:(bs++bytesW 1 1++bytesW 2 (text.length:Int)).length=bs.length+3:=by rw [List.length_append,hl2,bytesW_len];rfl
 have xbw3:=Sw3.box hF (unhide HX);have x1w3:w3.cell? ⟨w.heap.size,1,none⟩=some (.string ⟨text.toArray⟩):=by rw [cell_of_row _ _ _ _ _ _ xbw3];rfl
 clear xbw3;go_wp2_with fail;refine (ws_bytes Sw3 hB1 (unhide HBl w3) w3.heap.size (cc w3) text (unhide HA w3) (Nat.le_refl _) (by omega) (by omega)).mono ?_;rintro e w4 ⟨rfl,Sw4⟩;go_wp2;go_end0;have S9:=SW.leave hB (fun j hj=>.inl hj) (unhide B0) Sw4;refine ⟨rfl,?_⟩;rw [unhide HBE];simp only [←List.append_assoc] at S9 ⊢;exact S9
theorem kwriteEntry_3 (F:Nat→Prop) (w:World) (B x:Nat) (bs:List UInt8) (h:WR F w B x bs) (hB:B≤w.heap.size) (hs:bs.length≤10000000) (y:Ent) (ht:y.tag=3) (hy:-2147483648≤y.n∧y.n≤2147483647) :
 Calls Tryz.prog 121 #[.pointer (some ⟨x,0,none⟩),entV y] w fun e w'=>e=.returned (.tuple #[])∧WS F w B x (bs++bytesE y) w':=by
 have hbe:bytesE y=bytesW 1 3++bytesW 4 y.n:=by
  unfold bytesE bodyE;rw [ht,bytesW_one (by omega) (by omega)];simp
 obtain ⟨tag,text,nn,aa,bb⟩:=y;simp only at ht hbe hy;subst ht;have HBE:=hide hbe;clear hbe;have b0:Below w.heap.size w (w.alloc (.cells #[.int .i64 3,.string ⟨text.toArray⟩,.int .i64 nn,.int .i64 aa,.int .i64 bb] 55)):=(Below.refl _ _).alloc (Nat.le_refl _) _;have hl0:=heap_alloc_last w (.cells #[.int .i64 3,.string ⟨text.toArray⟩,.int .i64 nn,.int .i64 aa,.int .i64 bb] 55);have hF:=kwr_lt h;have S1:=WS.start (kwr_below h b0);have SW:=WS.start h;have HX:=hide hl0;have HW1:Hid ((w.alloc (.cells #[.int .i64 3,.string ⟨text.toArray⟩,.int .i64 nn,.int .i64 aa,.int .i64 bb] 55)).heap.size=w.heap.size+1):=by
  show (w.alloc (.cells #[.int .i64 3,.string ⟨text.toArray⟩,.int .i64 nn,.int .i64 aa,.int .i64 bb] 55)).heap.size=w.heap.size+1;simp
 have B0:=hide b0;have hB1:B≤(w.alloc (.cells #[.int .i64 3,.string ⟨text.toArray⟩,.int .i64 nn,.int .i64 aa,.int .i64 bb] 55)).heap.size:=Nat.le_trans hB b0.size;unfold entV;simp only;clear b0 hl0 h;go_enter Tryz.func121,Tryz.ntmps121;go_wp2_with fail;generalize w.alloc (.cells #[.int .i64 3,.string ⟨text.toArray⟩,.int .i64 nn,.int .i64 aa,.int .i64 bb] 55)=w1 at *;have HU:=ws_u S1 hB1 1 3 (by decide) (fits_tag (by omega) (by omega)) (by unfold Rng;omega) (by omega) (by unfold Rng;omega);rw [unhide HW1] at HU;refine HU.mono ?_;rintro e w2 ⟨rfl,Sw2⟩;clear HU;have hl2:(bs++bytesW 1 3).length=bs.length+1:=by rw [List.length_append,bytesW_len];rfl
 have xbw2:=Sw2.box hF (unhide HX);have x0w2:w2.cell? ⟨w.heap.size,0,none⟩=some (.int .i64 3):=by rw [cell_of_row _ _ _ _ _ _ xbw2];rfl
 have x2w2:w2.cell? ⟨w.heap.size,2,none⟩=some (.int .i64 nn):=by rw [cell_of_row _ _ _ _ _ _ xbw2];rfl
 clear xbw2;go_wp2_with fail;refine (ws_s Sw2 hB1 4 nn (by decide) (by unfold fitsW;rw [if_neg (by decide),if_pos rfl];refine ⟨by decide,?_⟩;show -(4294967296:Int)≤2*nn∧2*nn<4294967296;omega) (by unfold Rng;omega) (by omega) (by unfold Rng;omega)).mono ?_;rintro e w3 ⟨rfl,Sw3⟩;go_wp2;go_end0;have S9:=SW.leave hB (fun j hj=>.inl hj) (unhide B0) Sw3;refine ⟨rfl,?_⟩;rw [unhide HBE];simp only [←List.append_assoc] at S9 ⊢;exact S9
theorem kwriteEntry_5 (F:Nat→Prop) (w:World) (B x:Nat) (bs:List UInt8) (h:WR F w B x bs) (hB:B≤w.heap.size) (hs:bs.length≤10000000) (y:Ent) (ht:y.tag=5) (hy:-9223372036854775808≤y.n∧y.n≤9223372036854775807) :
 Calls Tryz.prog 121 #[.pointer (some ⟨x,0,none⟩),entV y] w fun e w'=>e=.returned (.tuple #[])∧WS F w B x (bs++bytesE y) w':=by
 have hbe:bytesE y=bytesW 1 5++bytesW 8 y.n:=by
  unfold bytesE bodyE;rw [ht,bytesW_one (by omega) (by omega)];simp
 obtain ⟨tag,text,nn,aa,bb⟩:=y;simp only at ht hbe hy;subst ht;have HBE:=hide hbe;clear hbe;have b0:Below w.heap.size w (w.alloc (.cells #[.int .i64 5,.string ⟨text.toArray⟩,.int .i64 nn,.int .i64 aa,.int .i64 bb] 55)):=(Below.refl _ _).alloc (Nat.le_refl _) _;have hl0:=heap_alloc_last w (.cells #[.int .i64 5,.string ⟨text.toArray⟩,.int .i64 nn,.int .i64 aa,.int .i64 bb] 55);have hF:=kwr_lt h;have S1:=WS.start (kwr_below h b0);have SW:=WS.start h;have HX:=hide hl0;have HW1:Hid ((w.alloc (.cells #[.int .i64 5,.string ⟨text.toArray⟩,.int .i64 nn,.int .i64 aa,.int .i64 bb] 55)).heap.size=w.heap.size+1):=by
  show (w.alloc (.cells #[.int .i64 5,.string ⟨text.toArray⟩,.int .i64 nn,.int .i64 aa,.int .i64 bb] 55)).heap.size=w.heap.size+1;simp
 have B0:=hide b0;have hB1:B≤(w.alloc (.cells #[.int .i64 5,.string ⟨text.toArray⟩,.int .i64 nn,.int .i64 aa,.int .i64 bb] 55)).heap.size:=Nat.le_trans hB b0.size;unfold entV;simp only;clear b0 hl0 h;go_enter Tryz.func121,Tryz.ntmps121;go_wp2_with fail;generalize w.alloc (.cells #[.int .i64 5,.string ⟨text.toArray⟩,.int .i64 nn,.int .i64 aa,.int .i64 bb] 55)=w1 at *;have HU:=ws_u S1 hB1 1 5 (by decide) (fits_tag (by omega) (by omega)) (by unfold Rng;omega) (by omega) (by unfold Rng;omega);rw [unhide HW1] at HU;refine HU.mono ?_;rintro e w2 ⟨rfl,Sw2⟩;clear HU;have hl2:(bs++bytesW 1 5).length=bs.length+1:=by rw [List.length_append,bytesW_len];rfl
 have xbw2:=Sw2.box hF (unhide HX);have x0w2:w2.cell? ⟨w.heap.size,0,none⟩=some (.int .i64 5):=by rw [cell_of_row _ _ _ _ _ _ xbw2];rfl
 have x2w2:w2.cell? ⟨w.heap.size,2,none⟩=some (.int .i64 nn):=by rw [cell_of_row _ _ _ _ _ _ xbw2];rfl
 clear xbw2;go_wp2_with fail;refine (ws_s Sw2 hB1 8 nn (by decide) (by unfold fitsW;rw [if_pos rfl];exact ⟨by decide,.inl rfl⟩) (by unfold Rng;omega) (by omega) (by unfold Rng;omega)).mono ?_;rintro e w3 ⟨rfl,Sw3⟩;go_wp2;go_end0;have S9:=SW.leave hB (fun j hj=>.inl hj) (unhide B0) Sw3;refine ⟨rfl,?_⟩;rw [unhide HBE];simp only [←List.append_assoc] at S9 ⊢;exact S9
theorem kwriteEntry_7 (F:Nat→Prop) (w:World) (B x:Nat) (bs:List UInt8) (h:WR F w B x bs) (hB:B≤w.heap.size) (hs:bs.length≤10000000) (y:Ent) (ht:y.tag=7) (hy:0≤y.a∧y.a<65536) :
 Calls Tryz.prog 121 #[.pointer (some ⟨x,0,none⟩),entV y] w fun e w'=>e=.returned (.tuple #[])∧WS F w B x (bs++bytesE y) w':=by
 have hbe:bytesE y=bytesW 1 7++bytesW 2 y.a:=by
  unfold bytesE bodyE;rw [ht,bytesW_one (by omega) (by omega)];simp
 obtain ⟨tag,text,nn,aa,bb⟩:=y;simp only at ht hbe hy;subst ht;have HBE:=hide hbe;clear hbe;have b0:Below w.heap.size w (w.alloc (.cells #[.int .i64 7,.string ⟨text.toArray⟩,.int .i64 nn,.int .i64 aa,.int .i64 bb] 55)):=(Below.refl _ _).alloc (Nat.le_refl _) _;have hl0:=heap_alloc_last w (.cells #[.int .i64 7,.string ⟨text.toArray⟩,.int .i64 nn,.int .i64 aa,.int .i64 bb] 55);have hF:=kwr_lt h;have S1:=WS.start (kwr_below h b0);have SW:=WS.start h;have HX:=hide hl0;have HW1:Hid ((w.alloc (.cells #[.int .i64 7,.string ⟨text.toArray⟩,.int .i64 nn,.int .i64 aa,.int .i64 bb] 55)).heap.size=w.heap.size+1):=by
  show (w.alloc (.cells #[.int .i64 7,.string ⟨text.toArray⟩,.int .i64 nn,.int .i64 aa,.int .i64 bb] 55)).heap.size=w.heap.size+1;simp
 have B0:=hide b0;have hB1:B≤(w.alloc (.cells #[.int .i64 7,.string ⟨text.toArray⟩,.int .i64 nn,.int .i64 aa,.int .i64 bb] 55)).heap.size:=Nat.le_trans hB b0.size;unfold entV;simp only;clear b0 hl0 h;go_enter Tryz.func121,Tryz.ntmps121;go_wp2_with fail;generalize w.alloc (.cells #[.int .i64 7,.string ⟨text.toArray⟩,.int .i64 nn,.int .i64 aa,.int .i64 bb] 55)=w1 at *;have HU:=ws_u S1 hB1 1 7 (by decide) (fits_tag (by omega) (by omega)) (by unfold Rng;omega) (by omega) (by unfold Rng;omega);rw [unhide HW1] at HU;refine HU.mono ?_;rintro e w2 ⟨rfl,Sw2⟩;clear HU;have hl2:(bs++bytesW 1 7).length=bs.length+1:=by rw [List.length_append,bytesW_len];rfl
 have xbw2:=Sw2.box hF (unhide HX);have x0w2:w2.cell? ⟨w.heap.size,0,none⟩=some (.int .i64 7):=by rw [cell_of_row _ _ _ _ _ _ xbw2];rfl
 have x3w2:w2.cell? ⟨w.heap.size,3,none⟩=some (.int .i64 aa):=by rw [cell_of_row _ _ _ _ _ _ xbw2];rfl
 clear xbw2;go_wp2_with fail;refine (ws_u Sw2 hB1 2 aa (by decide) (by unfold fitsW;rw [if_neg (by decide),if_neg (by decide)];refine ⟨by decide,by omega,?_⟩;show aa<65536;omega) (by unfold Rng;omega) (by omega) (by unfold Rng;omega)).mono ?_;rintro e w3 ⟨rfl,Sw3⟩;go_wp2;go_end0;have S9:=SW.leave hB (fun j hj=>.inl hj) (unhide B0) Sw3;refine ⟨rfl,?_⟩;rw [unhide HBE];simp only [←List.append_assoc] at S9 ⊢;exact S9
theorem kwriteEntry_9 (F:Nat→Prop) (w:World) (B x:Nat) (bs:List UInt8) (h:WR F w B x bs) (hB:B≤w.heap.size) (hs:bs.length≤10000000) (y:Ent) (ht:y.tag=9) (hy:(0≤y.a∧y.a<65536)∧(0≤y.b∧y.b<65536)) :
 Calls Tryz.prog 121 #[.pointer (some ⟨x,0,none⟩),entV y] w fun e w'=>e=.returned (.tuple #[])∧WS F w B x (bs++bytesE y) w':=by
 have hbe:bytesE y=bytesW 1 9++(bytesW 2 y.a++bytesW 2 y.b):=by
  unfold bytesE bodyE;rw [ht,bytesW_one (by omega) (by omega)];simp
 obtain ⟨tag,text,nn,aa,bb⟩:=y;simp only at ht hbe hy;subst ht;have HBE:=hide hbe;clear hbe;have b0:Below w.heap.size w (w.alloc (.cells #[.int .i64 9,.string ⟨text.toArray⟩,.int .i64 nn,.int .i64 aa,.int .i64 bb] 55)):=(Below.refl _ _).alloc (Nat.le_refl _) _;have hl0:=heap_alloc_last w (.cells #[.int .i64 9,.string ⟨text.toArray⟩,.int .i64 nn,.int .i64 aa,.int .i64 bb] 55);have hF:=kwr_lt h;have S1:=WS.start (kwr_below h b0);have SW:=WS.start h;have HX:=hide hl0;have HW1:Hid ((w.alloc (.cells #[.int .i64 9,.string ⟨text.toArray⟩,.int .i64 nn,.int .i64 aa,.int .i64 bb] 55)).heap.size=w.heap.size+1):=by
  show (w.alloc (.cells #[.int .i64 9,.string ⟨text.toArray⟩,.int .i64 nn,.int .i64 aa,.int .i64 bb] 55)).heap.size=w.heap.size+1;simp
 have B0:=hide b0;have hB1:B≤(w.alloc (.cells #[.int .i64 9,.string ⟨text.toArray⟩,.int .i64 nn,.int .i64 aa,.int .i64 bb] 55)).heap.size:=Nat.le_trans hB b0.size;unfold entV;simp only;clear b0 hl0 h;go_enter Tryz.func121,Tryz.ntmps121;go_wp2_with fail;generalize w.alloc (.cells #[.int .i64 9,.string ⟨text.toArray⟩,.int .i64 nn,.int .i64 aa,.int .i64 bb] 55)=w1 at *;have HU:=ws_u S1 hB1 1 9 (by decide) (fits_tag (by omega) (by omega)) (by unfold Rng;omega) (by omega) (by unfold Rng;omega);rw [unhide HW1] at HU;refine HU.mono ?_;rintro e w2 ⟨rfl,Sw2⟩;clear HU;have hl2:(bs++bytesW 1 9).length=bs.length+1:=by rw [List.length_append,bytesW_len];rfl
 have xbw2:=Sw2.box hF (unhide HX);have x0w2:w2.cell? ⟨w.heap.size,0,none⟩=some (.int .i64 9):=by rw [cell_of_row _ _ _ _ _ _ xbw2];rfl
 have x3w2:w2.cell? ⟨w.heap.size,3,none⟩=some (.int .i64 aa):=by rw [cell_of_row _ _ _ _ _ _ xbw2];rfl
 have x4w2:w2.cell? ⟨w.heap.size,4,none⟩=some (.int .i64 bb):=by rw [cell_of_row _ _ _ _ _ _ xbw2];rfl
 clear xbw2;go_wp2_with fail;refine (ws_u2 Sw2 hB1 2 aa bb (by decide) (by unfold fitsW;rw [if_neg (by decide),if_neg (by decide)];refine ⟨by decide,by omega,?_⟩;show aa<65536;omega) (by unfold fitsW;rw [if_neg (by decide),if_neg (by decide)];refine ⟨by decide,by omega,?_⟩;show bb<65536;omega) (by unfold Rng;omega) (by unfold Rng;omega) (by omega) (by unfold Rng;omega)).mono ?_;rintro e w3 ⟨rfl,Sw3⟩;go_wp2;go_end0;have S9:=SW.leave hB (fun j hj=>.inl hj) (unhide B0) Sw3;refine ⟨rfl,?_⟩;rw [unhide HBE];simp only [←List.append_assoc] at S9 ⊢;exact S9
theorem kwriteEntry_10 (F:Nat→Prop) (w:World) (B x:Nat) (bs:List UInt8) (h:WR F w B x bs) (hB:B≤w.heap.size) (hs:bs.length≤10000000) (y:Ent) (ht:y.tag=10) (hy:(0≤y.a∧y.a<65536)∧(0≤y.b∧y.b<65536)) :
 Calls Tryz.prog 121 #[.pointer (some ⟨x,0,none⟩),entV y] w fun e w'=>e=.returned (.tuple #[])∧WS F w B x (bs++bytesE y) w':=by
 have hbe:bytesE y=bytesW 1 10++(bytesW 2 y.a++bytesW 2 y.b):=by
  unfold bytesE bodyE;rw [ht,bytesW_one (by omega) (by omega)];simp
 obtain ⟨tag,text,nn,aa,bb⟩:=y;simp only at ht hbe hy;subst ht;have HBE:=hide hbe;clear hbe;have b0:Below w.heap.size w (w.alloc (.cells #[.int .i64 10,.string ⟨text.toArray⟩,.int .i64 nn,.int .i64 aa,.int .i64 bb] 55)):=(Below.refl _ _).alloc (Nat.le_refl _) _;have hl0:=heap_alloc_last w (.cells #[.int .i64 10,.string ⟨text.toArray⟩,.int .i64 nn,.int .i64 aa,.int .i64 bb] 55);have hF:=kwr_lt h;have S1:=WS.start (kwr_below h b0);have SW:=WS.start h;have HX:=hide hl0;have HW1:Hid ((w.alloc (.cells #[.int .i64 10,.string ⟨text.toArray⟩,.int .i64 nn,.int .i64 aa,.int .i64 bb] 55)).heap.size=w.heap.size+1):=by
  show (w.alloc (.cells #[.int .i64 10,.string ⟨text.toArray⟩,.int .i64 nn,.int .i64 aa,.int .i64 bb] 55)).heap.size=w.heap.size+1;simp
 have B0:=hide b0;have hB1:B≤(w.alloc (.cells #[.int .i64 10,.string ⟨text.toArray⟩,.int .i64 nn,.int .i64 aa,.int .i64 bb] 55)).heap.size:=Nat.le_trans hB b0.size;unfold entV;simp only;clear b0 hl0 h;go_enter Tryz.func121,Tryz.ntmps121;go_wp2_with fail;generalize w.alloc (.cells #[.int .i64 10,.string ⟨text.toArray⟩,.int .i64 nn,.int .i64 aa,.int .i64 bb] 55)=w1 at *;have HU:=ws_u S1 hB1 1 10 (by decide) (fits_tag (by omega) (by omega)) (by unfold Rng;omega) (by omega) (by unfold Rng;omega);rw [unhide HW1] at HU;refine HU.mono ?_;rintro e w2 ⟨rfl,Sw2⟩;clear HU;have hl2:(bs++bytesW 1 10).length=bs.length+1:=by rw [List.length_append,bytesW_len];rfl
 have xbw2:=Sw2.box hF (unhide HX);have x0w2:w2.cell? ⟨w.heap.size,0,none⟩=some (.int .i64 10):=by rw [cell_of_row _ _ _ _ _ _ xbw2];rfl
 have x3w2:w2.cell? ⟨w.heap.size,3,none⟩=some (.int .i64 aa):=by rw [cell_of_row _ _ _ _ _ _ xbw2];rfl
 have x4w2:w2.cell? ⟨w.heap.size,4,none⟩=some (.int .i64 bb):=by rw [cell_of_row _ _ _ _ _ _ xbw2];rfl
 clear xbw2;go_wp2_with fail;refine (ws_u2 Sw2 hB1 2 aa bb (by decide) (by unfold fitsW;rw [if_neg (by decide),if_neg (by decide)];refine ⟨by decide,by omega,?_⟩;show aa<65536;omega) (by unfold fitsW;rw [if_neg (by decide),if_neg (by decide)];refine ⟨by decide,by omega,?_⟩;show bb<65536;omega) (by unfold Rng;omega) (by unfold Rng;omega) (by omega) (by unfold Rng;omega)).mono ?_;rintro e w3 ⟨rfl,Sw3⟩;go_wp2;go_end0;have S9:=SW.leave hB (fun j hj=>.inl hj) (unhide B0) Sw3;refine ⟨rfl,?_⟩;rw [unhide HBE];simp only [←List.append_assoc] at S9 ⊢;exact S9
theorem kwriteEntry_12 (F:Nat→Prop) (w:World) (B x:Nat) (bs:List UInt8) (h:WR F w B x bs) (hB:B≤w.heap.size) (hs:bs.length≤10000000) (y:Ent) (ht:y.tag=12) (hy:(0≤y.a∧y.a<65536)∧(0≤y.b∧y.b<65536)) :
 Calls Tryz.prog 121 #[.pointer (some ⟨x,0,none⟩),entV y] w fun e w'=>e=.returned (.tuple #[])∧WS F w B x (bs++bytesE y) w':=by
 have hbe:bytesE y=bytesW 1 12++(bytesW 2 y.a++bytesW 2 y.b):=by
  unfold bytesE bodyE;rw [ht,bytesW_one (by omega) (by omega)];simp
 obtain ⟨tag,text,nn,aa,bb⟩:=y;simp only at ht hbe hy;subst ht;have HBE:=hide hbe;clear hbe;have b0:Below w.heap.size w (w.alloc (.cells #[.int .i64 12,.string ⟨text.toArray⟩,.int .i64 nn,.int .i64 aa,.int .i64 bb] 55)):=(Below.refl _ _).alloc (Nat.le_refl _) _;have hl0:=heap_alloc_last w (.cells #[.int .i64 12,.string ⟨text.toArray⟩,.int .i64 nn,.int .i64 aa,.int .i64 bb] 55);have hF:=kwr_lt h;have S1:=WS.start (kwr_below h b0);have SW:=WS.start h;have HX:=hide hl0;have HW1:Hid ((w.alloc (.cells #[.int .i64 12,.string ⟨text.toArray⟩,.int .i64 nn,.int .i64 aa,.int .i64 bb] 55)).heap.size=w.heap.size+1):=by
  show (w.alloc (.cells #[.int .i64 12,.string ⟨text.toArray⟩,.int .i64 nn,.int .i64 aa,.int .i64 bb] 55)).heap.size=w.heap.size+1;simp
 have B0:=hide b0;have hB1:B≤(w.alloc (.cells #[.int .i64 12,.string ⟨text.toArray⟩,.int .i64 nn,.int .i64 aa,.int .i64 bb] 55)).heap.size:=Nat.le_trans hB b0.size;unfold entV;simp only;clear b0 hl0 h;go_enter Tryz.func121,Tryz.ntmps121;go_wp2_with fail;generalize w.alloc (.cells #[.int .i64 12,.string ⟨text.toArray⟩,.int .i64 nn,.int .i64 aa,.int .i64 bb] 55)=w1 at *;have HU:=ws_u S1 hB1 1 12 (by decide) (fits_tag (by omega) (by omega)) (by unfold Rng;omega) (by omega) (by unfold Rng;omega);rw [unhide HW1] at HU;refine HU.mono ?_;rintro e w2 ⟨rfl,Sw2⟩;clear HU;have hl2:(bs++bytesW 1 12).length=bs.length+1:=by rw [List.length_append,bytesW_len];rfl
 have xbw2:=Sw2.box hF (unhide HX);have x0w2:w2.cell? ⟨w.heap.size,0,none⟩=some (.int .i64 12):=by rw [cell_of_row _ _ _ _ _ _ xbw2];rfl
 have x3w2:w2.cell? ⟨w.heap.size,3,none⟩=some (.int .i64 aa):=by rw [cell_of_row _ _ _ _ _ _ xbw2];rfl
 have x4w2:w2.cell? ⟨w.heap.size,4,none⟩=some (.int .i64 bb):=by rw [cell_of_row _ _ _ _ _ _ xbw2];rfl
 clear xbw2;go_wp2_with fail;refine (ws_u2 Sw2 hB1 2 aa bb (by decide) (by unfold fitsW;rw [if_neg (by decide),if_neg (by decide)];refine ⟨by decide,by omega,?_⟩;show aa<65536;omega) (by unfold fitsW;rw [if_neg (by decide),if_neg (by decide)];refine ⟨by decide,by omega,?_⟩;show bb<65536;omega) (by unfold Rng;omega) (by unfold Rng;omega) (by omega) (by unfold Rng;omega)).mono ?_;rintro e w3 ⟨rfl,Sw3⟩;go_wp2;go_end0;have S9:=SW.leave hB (fun j hj=>.inl hj) (unhide B0) Sw3;refine ⟨rfl,?_⟩;rw [unhide HBE];simp only [←List.append_assoc] at S9 ⊢;exact S9
theorem kwriteEntry_any (F:Nat→Prop) (w:World) (B x:Nat) (bs:List UInt8) (h:WR F w B x bs) (hB:B≤w.heap.size) (hs:bs.length≤10000000) (l:List Ent) (hl:l.length≤1024) (y:Ent) (ho:okE l y=true) (hf:EntFit y) :
 Calls Tryz.prog 121 #[.pointer (some ⟨x,0,none⟩),entV y] w fun e w'=>e=.returned (.tuple #[])∧WS F w B x (bs++bytesE y) w':=by
 have hin:∀i t,tagE l i=t→t≠0→0≤i∧i<65536:=fun i t e h0=>by
  have:=tagE_in (l:=l) (i:=i) (by rw [e];exact h0);omega
 rcases okE_tag ho with t | t | t | t | t | t | t
 · refine kwriteEntry_1 F w B x bs h hB hs y t ?_
   unfold okE at ho;simp [t] at ho;have:=ho.1;unfold textB at this;simp at this;exact this.2
 · refine kwriteEntry_3 F w B x bs h hB hs y t ?_
   unfold okE at ho;simp [t] at ho;exact ho.1
 · exact kwriteEntry_5 F w B x bs h hB hs y t hf.2.1
 · refine kwriteEntry_7 F w B x bs h hB hs y t ?_
   unfold okE at ho;simp [t] at ho;exact hin _ _ ho.1 (by decide)
 · refine kwriteEntry_12 F w B x bs h hB hs y t ?_
   unfold okE at ho;simp [t] at ho;exact ⟨hin _ _ ho.1.1 (by decide),hin _ _ ho.1.2 (by decide)⟩
 · refine kwriteEntry_9 F w B x bs h hB hs y t ?_
   unfold okE at ho;simp [t] at ho;exact ⟨hin _ _ ho.1.1 (by decide),hin _ _ ho.1.2 (by decide)⟩
 · refine kwriteEntry_10 F w B x bs h hB hs y t ?_
   unfold okE at ho;simp [t] at ho;exact ⟨hin _ _ ho.1.1 (by decide),hin _ _ ho.1.2 (by decide)⟩
theorem kbodyE_le {l:List Ent} {x:Ent} (h:okE l x=true):(bodyE x).length≤260:=by
 have ht:=okE_tag h;unfold bodyE;unfold okE at h
 rcases ht with t | t | t | t | t | t | t <;> simp [t] at h ⊢ <;> simp [bytesW_len]
 have:=h.1;unfold textB at this;simp at this;omega
theorem kz:bytesE ent0=[]:=rfl
theorem rightAt_or {l:List Ent} {k:Nat} (h:rightAt l k=true):(gapE l k=true∧atE l (k:Int)=ent0)∨(gapE l k=false∧okE l (atE l (k:Int))=true):=by
 unfold rightAt at h;cases hg:gapE l k
 · rw [hg,if_neg (by simp),Bool.and_eq_true] at h
   exact .inr ⟨rfl,h.1⟩
 · rw [hg,if_pos rfl,decide_eq_true_eq] at h
   exact .inl ⟨rfl,h⟩
theorem take_bytes {l:List Ent} {k:Nat} (hk:k<l.length):(l.take (k+1)).flatMap bytesE=(l.take k).flatMap bytesE++bytesE (atE l (k:Int)):=by
 have e:l[k]?=some (atE l (k:Int)):=by rw [atE_nat,List.getElem?_eq_getElem hk];rfl
 rw [List.take_add_one,e,List.flatMap_append];simp
theorem bytesE_len {l:List Ent} {x:Ent} (h:okE l x=true):(bytesE x).length≤300:=by
 have h1:=kbodyE_le h;unfold bytesE;split
 · simp
 · rw [List.length_cons]
   omega
theorem take_len {l:List Ent} (h:∀i,i<l.length→rightAt l i=true):∀k,k≤l.length→((l.take k).flatMap bytesE).length≤300*k
 | 0,_=>by simp
 | k+1,hk=>by
  rw [take_bytes (by omega),List.length_append];have ih:=take_len h k (by omega)
  rcases rightAt_or (h k (by omega)) with ⟨_,e⟩ | ⟨_,e⟩
  · rw [e,kz,List.length_nil]
    omega
  · have:=bytesE_len e
    omega
theorem all_bytes {l:List Ent} (h0:l[0]?=some ent0):bytesW 2 (l.length:Int)++(l.take l.length).flatMap bytesE=bytesP l:=by
 unfold bytesP
 congr 1
 rw [List.take_length];cases l with
 | nil=>rfl
 | cons y s=>
  simp at h0;subst h0;rw [List.flatMap_cons,kz];rfl
theorem kfr_es {F:Nat→Prop} {B:Nat} {w w':World} {a:Option Addr} {n:Nat} {l:List Ent} (f:Fr6 F B w w') (h:Es w a n l) (hf:∀b o,a=some ⟨b,o,none⟩→0<n→¬F b):Es w' a n l:=by
 refine ⟨h.1,?_⟩
 rcases h.2 with h0 | ⟨b,o,e,hE⟩
 · exact .inl h0
 · by_cases hn:n=0
   · exact .inl hn
   · refine .inr ⟨b,o,e,fun ad ead j u hu=>?_⟩
     have hc:=hE ad ead j u hu;injection ead with ead
     subst ead;rw [Addr.add_mid] at hc ⊢;exact (World.cell?_of_block (a:=⟨b,o+j,none⟩) (f.other b (World.block_lt_of_cell? w _ hc) (hf b o e (by omega)))).trans hc
theorem kbytesOf_any (w:World) (a:Option Addr) (n c:Nat) (l:List Ent) (h:Es w a n l) (hc:checkP l=true) (hf:∀x∈l,EntFit x) :
 Calls Tryz.prog 89 #[.slice a n c] w fun e w'=>∃v,e=.returned v∧w'.ownsRow w.heap.size 5 1 v (bytesP l).length (bv (bytesP l))∧Below w.heap.size w w':=by
 obtain ⟨⟨hl1,hl2⟩,hall⟩:=(checkP_all l).1 hc;have hl0:=((checkP_right.1 hc).2).1;have hln:=h.1;have HM:=hide (eMake_any w);have HE:=hide h;have HALL:=hide hall;have HL0:=hide hl0;clear h hall hl0 hc;go_enter Tryz.func89,Tryz.ntmps89;go_wp2_with fail;refine (unhide HM).mono ?_;rintro e w1 ⟨x,F,rfl,r1,f1⟩;have S1:=WS.start r1;have F1:=hide f1;have hsz1:=f1.size;clear r1 f1 HM;go_wp2_with fail;refine (ws_u S1 hsz1 2 (n:Int) (by decide) (by unfold fitsW;rw [if_neg (by decide),if_neg (by decide)];refine ⟨by decide,by omega,?_⟩;show (n:Int)<65536;omega) (by unfold Rng;omega) (by simp) (by unfold Rng;omega)).mono ?_;rintro e w2 ⟨rfl,S2⟩;rw [List.nil_append] at S2;have SS2:=hide S2;clear S1 S2;go_wp2
 go_loopw [14] (fun i wr=>∃k:Nat,k≤n∧i=.int .i64 k∧WS F w1 w.heap.size x (bytesW 2 (n:Int)++(l.take k).flatMap bytesE) wr) (fun i _=>n-(intOf i).toNat)
 case atStart=>exact ⟨0,by omega,rfl,by simpa using unhide SS2⟩
 case round=>
  obtain ⟨k,hk,rfl,hS⟩:=hrel;have FW:Hid (Below w.heap.size w wr):=(unhide F1).trans hS.fr.below;have hlenk:=take_len (unhide HALL) k (by omega)
  by_cases hlt:k<n
  case neg=>
   have hkn:k=n:=by omega
   subst hkn;have hb:bytesW 2 (k:Int)++(l.take k).flatMap bytesE=bytesP l:=by
    have:=all_bytes (unhide HL0);rw [hln] at this;exact this
   rw [hb] at hS;obtain ⟨F',r1,r2⟩:=hS.ex;have hlen:(bytesP l).length≤1000000:=by
    rw [←hb,List.length_append,bytesW_len];show 2+_≤_;omega
   have HA:=hide (eAll_any F' wr w.heap.size x (bytesP l) r1 (by omega));clear hS r1 r2 hb HE HALL HL0 SS2;go_wp2_with fail;refine (unhide HA).mono ?_;rintro e w3 ⟨v,rfl,o3,f3⟩;have O3:=hide (own_base o3 (unhide FW).size);have F3:=hide ((unhide FW).trans (f3.mono (unhide FW).size));clear o3 f3 HA;go_wp2;go_ret;exact ⟨_,rfl,unhide O3,unhide F3⟩
  case pos=>
   have hlt1:(k:Int)<(n:Int):=by omega
   have hk0:(0:Int)≤(k:Int):=by omega
   have es:=(unhide HE).below (unhide FW);have hGap:=kisGap_any;obtain ⟨b,o,rfl,hE⟩:=es.2.resolve_left (by omega);obtain ⟨q0,q1,q2,q3,q4⟩:=ents_at hE (k:=k) (by omega);have hxm:=List.mem_of_getElem? (es.at hlt);have hxf:=hf _ hxm;have hro:=rightAt_or (unhide HALL k (by omega));have htb:=take_bytes (l:=l) (k:=k) (by omega);have b0:Below wr.heap.size wr (wr.alloc (.cells #[.int .i64 (atE l (k:Int)).tag,.string ⟨(atE l (k:Int)).text.toArray⟩,.int .i64 (atE l (k:Int)).n,.int .i64 (atE l (k:Int)).a,.int .i64 (atE l (k:Int)).b] 55)):=(Below.refl _ _).alloc (Nat.le_refl _) _;have hx0:=heap_alloc_last wr (.cells #[.int .i64 (atE l (k:Int)).tag,.string ⟨(atE l (k:Int)).text.toArray⟩,.int .i64 (atE l (k:Int)).n,.int .i64 (atE l (k:Int)).a,.int .i64 (atE l (k:Int)).b] 55);have HG:=hide (kisGap_any _ _ n c l (es.below b0) k hlt (by omega));have S3:=hide (hS.below hsz1 b0);have HX:=hide hx0;clear es hE hS hGap hxm hx0
   rcases hro with ⟨hg,he⟩ | ⟨hg,ho⟩
   · rw [hg] at HG
     rw [he,kz,List.append_nil] at htb;have HTB:=hide htb;clear htb b0 he;generalize atE l (k:Int)=y at *;go_wp2_with fail;generalize wr.alloc (.cells #[.int .i64 y.tag,.string ⟨y.text.toArray⟩,.int .i64 y.n,.int .i64 y.a,.int .i64 y.b] 55)=w3 at *;refine (unhide HG).mono ?_;rintro e w4 ⟨rfl,e0⟩;have e0':=e0.symm;clear e0;subst e0';go_wp2;go_roundw
     case rel=>exact ⟨k+1,by omega,by go_num,by rw [unhide HTB];exact unhide S3⟩
     case measure=>simp [intOf];omega
   · rw [hg] at HG
     have HTB:=hide htb;obtain ⟨F',r1,r2⟩:=(unhide S3).ex;have hbl:(bytesW 2 (n:Int)++(l.take k).flatMap bytesE).length≤10000000:=by
      rw [List.length_append,bytesW_len];show 2+_≤_;omega
     have HW:=hide (kwriteEntry_any F' _ w.heap.size x _ r1 (Nat.le_trans (unhide FW).size b0.size) hbl l (by omega) (atE l (k:Int)) ho hxf);have R2:=hide r2;clear htb b0 r1 r2;generalize atE l (k:Int)=y at *;unfold entV at HW;go_wp2_with fail;obtain ⟨d0,d1,d2,d3,d4⟩:=entC (unhide HX);generalize wr.alloc (.cells #[.int .i64 y.tag,.string ⟨y.text.toArray⟩,.int .i64 y.n,.int .i64 y.a,.int .i64 y.b] 55)=w3 at *;refine (unhide HG).mono ?_;rintro e w4 ⟨rfl,e0⟩;have e0':=e0.symm;clear e0;subst e0';clear HG;go_wp2_with fail;refine (unhide HW).mono ?_;rintro e w5 ⟨rfl,S5⟩;have S6:=hide ((unhide S3).leave hsz1 (unhide R2) (Below.refl _ _) S5);clear HW S5 d0 d1 d2 d3 d4;go_wp2;go_roundw
     case rel=>exact ⟨k+1,by omega,by go_num,by rw [unhide HTB,←List.append_assoc];exact unhide S6⟩
     case measure=>simp [intOf];omega
theorem kWrite_any (F:Nat→Prop) (w:World) (B x:Nat) (bs:List UInt8) (a:Option Addr) (n c:Nat) (l:List Ent) (h:WR F w B x bs) (hI:EIn w a n c l) (hfar:∀b o,a=some ⟨b,o,none⟩→0<n→¬F b) (hs:bs.length≤1000000) :
 Calls Tryz.prog 58 #[.pointer (some ⟨x,0,none⟩),.slice a n c] w fun e w'=>e=.returned (.int .i64 (if checkP l=true then 0 else 70))∧(∃F',WR F' w' B x (if checkP l=true then bs++bytesP l else bs)∧∀j,F' j→F j∨w.heap.size≤j)∧Fr6 F B w w':=by
 have hB:B≤w.heap.size:=by
  obtain ⟨y,d,rfl,h⟩:=h;exact Nat.le_trans h.hx (Nat.le_of_lt h.xlt)
 have hsm:n≤140737488351232:=by have:=hI.small;omega
 have hE:=hI.arg.es;have hfit:=hI.fit;have HB:=hide (eBytes_any F w B x bs none 0 0 [] h ⟨⟨rfl,.inl rfl⟩,by omega,by omega,fun _=>⟨rfl,rfl⟩⟩ (fun b o e=>by cases e) (by omega));rw [List.append_nil] at HB;have S0:=hide (WS.start h);obtain ⟨T,hT⟩:∃T:Int,T=if checkP l=true then 0 else 70:=⟨_,rfl⟩
 obtain ⟨R,hR⟩:∃R:List UInt8,R=if checkP l=true then bs++bytesP l else bs:=⟨_,rfl⟩
 rw [←hT,←hR];have HTT:=hide hT;have HRR:=hide hR;clear hT hR;have HE:=hide hE;have HFAR:=hide hfar;clear h hI hfar hE;go_enter Tryz.func58,Tryz.ntmps58;go_wp2_with fail;refine (unhide HB).mono ?_;rintro e w1 ⟨rfl,⟨F1,r1,r2⟩,f1⟩;have S1:=hide ((unhide S0).next (fun j hj=>.inl hj) r1 r2 f1);have es1:=kfr_es f1 (unhide HE) (unhide HFAR);have HC:=hide (kCheck_any w1 a n c l es1 hsm hfit);have HE1:=hide es1;clear HB r1 r2 f1 es1 S0 HE HFAR
 by_cases hc:checkP l=true
 case neg=>
  rw [if_neg hc] at HC;have e1:Hid (T=70):=(unhide HTT).trans (if_neg hc);have e2:Hid (R=bs):=(unhide HRR).trans (if_neg hc);clear hc HTT HRR;go_wp2_with fail;refine (unhide HC).mono ?_;rintro e w2 ⟨rfl,f2⟩;have S2:=hide ((unhide S1).below hB f2);clear f2 HC S1;go_wp2;go_ret;rw [unhide e1,unhide e2];exact ⟨rfl,(unhide S2).ex,(unhide S2).fr⟩
 case pos=>
  rw [if_pos hc] at HC;have e1:Hid (T=0):=(unhide HTT).trans (if_pos hc);have e2:Hid (R=bs++bytesP l):=(unhide HRR).trans (if_pos hc);clear HTT HRR;go_wp2_with fail;refine (unhide HC).mono ?_;rintro e w2 ⟨rfl,f2⟩;have S2:=hide ((unhide S1).below hB f2);have HO:=hide (kbytesOf_any w2 a n c l ((unhide HE1).below f2) hc hfit.2);clear f2 HC S1 HE1;have hlen:(bytesP l).length≤1000000:=by
   obtain ⟨⟨hl1,hl2⟩,hall⟩:=(checkP_all l).1 hc;have:=take_len hall l.length (Nat.le_refl _);rw [←all_bytes ((checkP_right.1 hc).2).1,List.length_append,bytesW_len];show 2+_≤_;omega
  clear hc;go_wp2_with fail;refine (unhide HO).mono ?_;rintro e w3 ⟨v,rfl,o3,f3⟩;obtain ⟨a3,c3,rfl,_⟩:=own_form o3;obtain ⟨F2,r1,r2⟩:=(unhide S2).ex;have r1':=kwr_below r1 f3;have S3:=(unhide S2).below hB f3;have HW:=hide (eBytes_any F2 w3 B x bs a3 (bytesP l).length c3 (bytesP l) r1' (arg_of_own rfl o3) (fun b o e hn hb=>by
   have h1:=(kwr_lt r1 b hb).2;have h2:=(o3.lt b (by rw [e];rfl)).1;omega) (by omega))
  have SS:=hide S3;have R2:=hide r2;clear HO o3 f3 S2 r1 r1' r2 S3;generalize (bytesP l).length=m at *;go_wp2_with fail;refine (unhide HW).mono ?_;rintro e w4 ⟨rfl,⟨F4,q1,q2⟩,f4⟩;have S4:=hide ((unhide SS).next (unhide R2) q1 q2 f4);clear HW q1 q2 f4 SS;go_wp2;go_ret;rw [unhide e1,unhide e2];exact ⟨rfl,(unhide S4).ex,(unhide S4).fr⟩
end Go.Proofs.YtlabllgifkklhaaGreatDoor
