/- Joined: CkS CkU CkX WdL1 WdL2. -/
import Derived.Test.YtlabllgifkklhaaGreatDoorJP10
import Derived.Test.YtlabllgifkklhaaGreatDoorJClF
import Derived.Laws.CopyOwn
set_option linter.unusedVariables false
set_option maxRecDepth 100000
set_option maxHeartbeats 1600000
namespace Go.Proofs.YtlabllgifkklhaaGreatDoor
open Go.RowKit
structure MpOwn (w:World) (base:Nat) (r:MpR):Prop where
 loc:Orw tyc 143 2 w base r.loc.v r.m.loc
 stk:Orw tyc 143 2 w base r.stk.v r.m.stk
theorem bx_cell {W:World} {p:Nat} {X:Array Value} {t:TypeId} (h:W.heap[p]?=some (.cells X t)):∀(q:Nat) (v:Value),X[q]?=some v→W.cell? ⟨p,q,none⟩=some v:=fun q v hv=>by unfold World.cell?;simp [h,hv]
theorem bx_thaw {W:World} {p:Nat} {X:Array Value} {t:TypeId} (h:W.heap[p]?=some (.cells X t)) (q:Nat):W.frozen? ⟨p,q,none⟩=false:=frozen_of_row _ _ _ _ _ h
theorem Orw.keep {α:Type} {cs:α→List Value} {e:TypeId} {sz:Nat} {w w':World} {base:Nat} {v:Value} {l:List α} (h:Orw cs e sz w base v l) (f:∀k X,base≤k→w.heap[k]?=some (.cells X e)→w'.heap[k]?=w.heap[k]?):Orw cs e sz w' base v l:=by
 refine ⟨h.1,?_⟩
 rcases h.2 with hv | ⟨g,cap,cur,hv,hb,hh,r⟩
 · exact .inl hv
 · exact .inr ⟨g,cap,cur,hv,hb,(f g cur hb hh).trans hh,r⟩
theorem MpOwn.keep {w w':World} {base:Nat} {r:MpR} (h:MpOwn w base r) (f:∀k X,base≤k→w.heap[k]?=some (.cells X 143)→w'.heap[k]?=w.heap[k]?):MpOwn w' base r:=⟨h.loc.keep f,h.stk.keep f⟩
theorem MpOwn.base {w:World} {base base':Nat} {r:MpR} (h:MpOwn w base r) (hb:base'≤base):MpOwn w base' r:=⟨h.loc.base hb,h.stk.base hb⟩
theorem heap_cells_other (g:Nat):∀(vs:List Value) (o:Nat) (w:World) (k:Nat),k≠g→(w.setCells g o vs).heap[k]?=w.heap[k]?
 | [],_,_,_,_=>rfl
 | u::us,o,w,k,h=>(heap_cells_other g us (o+1) _ k h).trans (Below.heap_setCell _ _ _ _ h)
theorem below_cells {B b:Nat}:∀(vs:List Value) (o:Nat) {w0 w:World},Below B w0 w→B≤b→Below B w0 (w.setCells b o vs)
 | [],_,_,_,h,_=>h
 | v::r,o,_,_,h,hb=>below_cells r (o+1) (h.setCell (p:=⟨b,o,none⟩) hb v) hb
def byc (b:UInt8):List Value:=[.int .u8 (b.toNat:Int)]
theorem byc_bv:∀l:List UInt8,l.flatMap byc=bv l
 | []=>rfl
 | b::l=>by rw [List.flatMap_cons,byc_bv l];rfl
theorem orw_bv {w:World} {B n:Nat} {v:Value} {l:List UInt8} (h:w.ownsRow B 5 1 v n (bv l)) (hn:l.length=n):Orw byc 5 1 w B v l:=by
 unfold Orw;rw [byc_bv,hn];exact h
structure MdOwn (w:World) (base:Nat) (r:MdR):Prop where
 bs:Orw byc 5 1 w base r.bs.v r.m.code.bytes
 hs:Orw hdc 93 4 w base r.hs.v r.m.code.hs
 maps:Orw mpc 52 3 w base r.maps.v r.mr
 each:∀x∈r.mr,MpOwn w base x
 same:r.m.code.maps=r.mr.map MpR.m
theorem MdOwn.base {w:World} {base base':Nat} {r:MdR} (h:MdOwn w base r) (hb:base'≤base):MdOwn w base' r:=⟨h.bs.base hb,h.hs.base hb,h.maps.base hb,fun x hx=>(h.each x hx).base hb,h.same⟩
theorem MdOwn.keepAll {w w':World} {base:Nat} {r:MdR} (h:MdOwn w base r) (f:∀k X t,base≤k→t=5∨t=93∨t=52∨t=143→w.heap[k]?=some (.cells X t)→w'.heap[k]?=w.heap[k]?):MdOwn w' base r:=
 ⟨h.bs.keep fun k X hk hX=>f k X _ hk (.inl rfl) hX,h.hs.keep fun k X hk hX=>f k X _ hk (.inr (.inl rfl)) hX,h.maps.keep fun k X hk hX=>f k X _ hk (.inr (.inr (.inl rfl))) hX,fun x hx=>(h.each x hx).keep fun k X hk hX=>f k X _ hk (.inr (.inr (.inr rfl))) hX,h.same⟩
structure Sp (T:TypeId) (w:World) (B x y c:Nat) (bs:List UInt8) (i:Nat):Prop where
 hx:B≤x
 ne:x≠y
 blk:w.heap[x]?=some (.cells #[.slice (some ⟨y,0,none⟩) bs.length c,.int .i64 (i:Int)] T (0,0))
 row:w.ownsRow B 5 1 (.slice (some ⟨y,0,none⟩) bs.length c) bs.length (bv bs)
theorem Sp.c0 {T:TypeId} {w:World} {B x y c:Nat} {bs:List UInt8} {i:Nat} (h:Sp T w B x y c bs i):w.cell? ⟨x,0,none⟩=some (.slice (some ⟨y,0,none⟩) bs.length c):=by rw [cell_of_row _ _ _ _ _ _ h.blk];rfl
theorem Sp.c1 {T:TypeId} {w:World} {B x y c:Nat} {bs:List UInt8} {i:Nat} (h:Sp T w B x y c bs i):w.cell? ⟨x,1,none⟩=some (.int .i64 (i:Int)):=by rw [cell_of_row _ _ _ _ _ _ h.blk];rfl
theorem Sp.fz {T:TypeId} {w:World} {B x y c:Nat} {bs:List UInt8} {i:Nat} (h:Sp T w B x y c bs i) (j:Nat):w.frozen? ⟨x,j,none⟩=false:=frozen_of_row _ _ _ _ _ h.blk
theorem Sp.xlt {T:TypeId} {w:World} {B x y c:Nat} {bs:List UInt8} {i:Nat} (h:Sp T w B x y c bs i):x<w.heap.size:=lt_of_heap h.blk
theorem Sp.y {T:TypeId} {w:World} {B x y c:Nat} {bs:List UInt8} {i:Nat} (h:Sp T w B x y c bs i):B≤y∧y<w.heap.size:=h.row.lt y rfl
theorem Sp.keep {T:TypeId} {w w':World} {B x y c:Nat} {bs:List UInt8} {i:Nat} (h:Sp T w B x y c bs i) (hx:w'.heap[x]?=w.heap[x]?) (hy:w'.heap[y]?=w.heap[y]?):Sp T w' B x y c bs i:=
 ⟨h.hx,h.ne,hx.trans h.blk,own_of_block h.row (fun k hk=>by
  simp [Value.ownBlock] at hk;subst hk;exact hy)⟩
theorem Sp.below {T:TypeId} {w w':World} {B x y c:Nat} {bs:List UInt8} {i:Nat} (h:Sp T w B x y c bs i) (f:Below w.heap.size w w'):Sp T w' B x y c bs i:=h.keep (f.block x h.xlt) (f.block y h.y.2)
theorem Sp.base {T:TypeId} {w:World} {B B' x y c:Nat} {bs:List UInt8} {i:Nat} (h:Sp T w B x y c bs i) (hB:B'≤B):Sp T w B' x y c bs i:=⟨Nat.le_trans hB h.hx,h.ne,h.blk,own_base h.row hB⟩
theorem Sp.move {T:TypeId} {w:World} {B x y c:Nat} {bs:List UInt8} {i:Nat} (h:Sp T w B x y c bs i) (K:Nat):Sp T (w.setCell ⟨x,1,none⟩ (.int .i64 (K:Int))) B x y c bs K:=
 ⟨h.hx,h.ne,heap_setCell_same w x 1 _ _ _ h.blk,own_of_block h.row (fun k hk=>by
  simp [Value.ownBlock] at hk;subst hk;exact Below.heap_setCell _ _ _ _ h.ne.symm)⟩
def RD (F:Nat→Prop) (w:World) (B x:Nat) (bs:List UInt8) (i:Nat):Prop:=∃y c,F=(fun k=>k=x∨k=y)∧Sp 159 w B x y c bs i
def WR (F:Nat→Prop) (w:World) (B x:Nat) (bs:List UInt8):Prop:=∃y c,F=(fun k=>k=x∨k=y)∧Sp 151 w B x y c bs bs.length
theorem dmade_any (w:World) (B x y c:Nat) (bs:List UInt8) (i:Nat) (h:Sp 159 w B x y c bs i) :
 Calls Tryz.prog 160 #[.pointer (some ⟨x,0,none⟩)] w fun e w'=>e=.returned (.bool true)∧w'=w:=by
 have c0:=h.c0;have q:∀(w:World) (a:Option Addr) (n c:Nat),(binOp .neq 29 (.slice a n c) (.slice none 0 0)).run Tryz.prog w=.ok (.bool (!a.isNone)) w:=fun w a n c=>run_neq_slice_nil_any w _ _ a n c 0 0 Tryz.underlying29
 clear h;go_enter Tryz.func160,Tryz.ntmps160;go_wp2;go_ret;exact ⟨rfl,rfl⟩
theorem emade_any (w:World) (B x y c:Nat) (bs:List UInt8) (i:Nat) (h:Sp 151 w B x y c bs i) :
 Calls Tryz.prog 93 #[.pointer (some ⟨x,0,none⟩)] w fun e w'=>e=.returned (.bool true)∧w'=w:=by
 have c0:=h.c0;have q:∀(w:World) (a:Option Addr) (n c:Nat),(binOp .neq 29 (.slice a n c) (.slice none 0 0)).run Tryz.prog w=.ok (.bool (!a.isNone)) w:=fun w a n c=>run_neq_slice_nil_any w _ _ a n c 0 0 Tryz.underlying29
 clear h;go_enter Tryz.func93,Tryz.ntmps93;go_wp2;go_ret;exact ⟨rfl,rfl⟩
theorem disSize_any (w:World) (k:Int) :
 Calls Tryz.prog 118 #[.int .i64 k] w fun e w'=>e=.returned (.bool (decide (wide k)))∧w'=w:=by
 by_cases h1:k=1
 · subst h1
   go_enter Tryz.func118,Tryz.ntmps118;go_wp2;go_ret;exact ⟨rfl,rfl⟩
 by_cases h2:k=2
 · subst h2
   go_enter Tryz.func118,Tryz.ntmps118;go_wp2;go_ret;exact ⟨rfl,rfl⟩
 by_cases h4:k=4
 · subst h4
   go_enter Tryz.func118,Tryz.ntmps118;go_wp2;go_ret;exact ⟨rfl,rfl⟩
 by_cases h8:k=8
 · subst h8
   go_enter Tryz.func118,Tryz.ntmps118;go_wp2;go_ret;exact ⟨rfl,rfl⟩
 · have b1:(k==1)=false:=by simpa using h1
   have b2:(k==2)=false:=by simpa using h2
   have b4:(k==4)=false:=by simpa using h4
   have b8:(k==8)=false:=by simpa using h8
   have hd:decide (wide k)=false:=decide_eq_false (fun h=>by rcases h with h | h | h | h <;> omega);rw [hd];clear hd;go_enter Tryz.func118,Tryz.ntmps118;go_wp2;go_ret;exact ⟨rfl,rfl⟩
theorem dfitsU_any (w:World) (k n:Int) (hw:wide k) (hn:-9223372036854775808≤n∧n≤9223372036854775807) :
 Calls Tryz.prog 87 #[.int .i64 k,.int .i64 n] w fun e w'=>e=.returned (.bool (decide (fitsW k n false)))∧w'=w:=by
 have key:∀D:Int,(fitsW k n false↔n/D=0)→decide (fitsW k n false)=(n/D==0):=fun D h=>by
  rw [Bool.eq_iff_iff];simpa using h
 rcases hw with rfl | rfl | rfl | rfl
 · rw [key 256 (by
    unfold fitsW;rw [if_neg (by decide),if_neg (by decide)];constructor
    · rintro ⟨_,h1,h2⟩;simp at h2;omega
    · intro h;refine ⟨by unfold wide;omega,?_⟩;simp;omega)]
   go_enter Tryz.func87,Tryz.ntmps87;go_wp2;go_ret;exact ⟨rfl,rfl⟩
 · rw [key 65536 (by
    unfold fitsW;rw [if_neg (by decide),if_neg (by decide)];constructor
    · rintro ⟨_,h1,h2⟩;simp at h2;omega
    · intro h;refine ⟨by unfold wide;omega,?_⟩;simp;omega)]
   go_enter Tryz.func87,Tryz.ntmps87;go_wp2;go_ret;exact ⟨rfl,rfl⟩
 · rw [key 4294967296 (by
    unfold fitsW;rw [if_neg (by decide),if_neg (by decide)];constructor
    · rintro ⟨_,h1,h2⟩;simp at h2;omega
    · intro h;refine ⟨by unfold wide;omega,?_⟩;simp;omega)]
   go_enter Tryz.func87,Tryz.ntmps87;go_wp2;go_ret;exact ⟨rfl,rfl⟩
 · rw [key 18446744073709551616 (by
    unfold fitsW;rw [if_pos rfl];constructor
    · rintro ⟨_,h⟩;simp at h;omega
    · intro h;refine ⟨by unfold wide;omega,?_⟩;simp;omega)]
   go_enter Tryz.func87,Tryz.ntmps87;go_wp2;go_ret;exact ⟨rfl,rfl⟩
theorem fitsS_key {n D:Int} {p:Prop} [Decidable p] (h:p↔(n/D=0∨n/D=-1)):decide p=(n/D==0||n/D==-1):=by
 rw [Bool.eq_iff_iff];simpa using h
theorem dfitsS_any (w:World) (k n:Int) (hw:wide k) (hn:-9223372036854775808≤n∧n≤9223372036854775807) :
 Calls Tryz.prog 151 #[.int .i64 k,.int .i64 n] w fun e w'=>e=.returned (.bool (decide (fitsW k n true)))∧w'=w:=by
 rcases hw with rfl | rfl | rfl | rfl
 · have hk:fitsW 1 n true↔(n/128=0∨n/128=-1):=by
    unfold fitsW;rw [if_neg (by decide),if_pos rfl];constructor
    · rintro ⟨_,h1,h2⟩
      simp at h1 h2;omega
    · intro h
      refine ⟨by unfold wide;omega,?_⟩;simp;omega
   rw [fitsS_key hk];clear hk
   by_cases h0:n/128=0
   · have b0:(n/128==0)=true:=by simpa using h0
     clear h0;go_enter Tryz.func151,Tryz.ntmps151;go_wp2;go_ret;exact ⟨by rw [b0];rfl,rfl⟩
   · have b0:(n/128==0)=false:=by simpa using h0
     clear h0;go_enter Tryz.func151,Tryz.ntmps151;go_wp2;go_ret;exact ⟨by rw [b0];rfl,rfl⟩
 · have hk:fitsW 2 n true↔(n/32768=0∨n/32768=-1):=by
    unfold fitsW;rw [if_neg (by decide),if_pos rfl];constructor
    · rintro ⟨_,h1,h2⟩
      simp at h1 h2;omega
    · intro h
      refine ⟨by unfold wide;omega,?_⟩;simp;omega
   rw [fitsS_key hk];clear hk
   by_cases h0:n/32768=0
   · have b0:(n/32768==0)=true:=by simpa using h0
     clear h0;go_enter Tryz.func151,Tryz.ntmps151;go_wp2;go_ret;exact ⟨by rw [b0];rfl,rfl⟩
   · have b0:(n/32768==0)=false:=by simpa using h0
     clear h0;go_enter Tryz.func151,Tryz.ntmps151;go_wp2;go_ret;exact ⟨by rw [b0];rfl,rfl⟩
 · have hk:fitsW 4 n true↔(n/2147483648=0∨n/2147483648=-1):=by
    unfold fitsW;rw [if_neg (by decide),if_pos rfl];constructor
    · rintro ⟨_,h1,h2⟩
      simp at h1 h2;omega
    · intro h
      refine ⟨by unfold wide;omega,?_⟩;simp;omega
   rw [fitsS_key hk];clear hk
   by_cases h0:n/2147483648=0
   · have b0:(n/2147483648==0)=true:=by simpa using h0
     clear h0;go_enter Tryz.func151,Tryz.ntmps151;go_wp2;go_ret;exact ⟨by rw [b0];rfl,rfl⟩
   · have b0:(n/2147483648==0)=false:=by simpa using h0
     clear h0;go_enter Tryz.func151,Tryz.ntmps151;go_wp2;go_ret;exact ⟨by rw [b0];rfl,rfl⟩
 · have hk:fitsW 8 n true↔(n/9223372036854775808=0∨n/9223372036854775808=-1):=by
    unfold fitsW;rw [if_pos rfl];constructor
    · intro h
      omega
    · intro h
      exact ⟨by unfold wide;omega,.inl rfl⟩
   rw [fitsS_key hk];clear hk
   by_cases h0:n/9223372036854775808=0
   · have b0:(n/9223372036854775808==0)=true:=by simpa using h0
     clear h0;go_enter Tryz.func151,Tryz.ntmps151;go_wp2;go_ret;exact ⟨by rw [b0];rfl,rfl⟩
   · have b0:(n/9223372036854775808==0)=false:=by simpa using h0
     clear h0;go_enter Tryz.func151,Tryz.ntmps151;go_wp2;go_ret;exact ⟨by rw [b0];rfl,rfl⟩
theorem dleft_any (w:World) (x:Nat) (a:Option Addr) (n c i:Nat) (c0:w.cell? ⟨x,0,none⟩=some (.slice a n c)) (c1:w.cell? ⟨x,1,none⟩=some (.int .i64 (i:Int))) (hi:i≤n) (hn:n≤140737488351232) :
 Calls Tryz.prog 161 #[.pointer (some ⟨x,0,none⟩)] w fun e w'=>e=.returned (.int .i64 ((n:Int)-i))∧∃k,w'=w.drewN k:=by
 have y1:IntKind.i64.wrap ((n:Int)-i)=(n:Int)-i:=by rw [IntKind.wrap_i64];omega
 have l1:(i:Int)≤n:=by omega
 have l2:(n:Int)≤140737488351232:=by omega
 clear hi hn;go_enter Tryz.func161,Tryz.ntmps161;go_wp2_with fail
 go_quiet (fail)
 go_wp2;go_ret;exact ⟨rfl,_,rfl⟩
theorem dnext_any (w:World) (x:Nat) (a:Option Addr) (n c i m:Nat) (c0:w.cell? ⟨x,0,none⟩=some (.slice a n c)) (c1:w.cell? ⟨x,1,none⟩=some (.int .i64 (i:Int))) (hi:i+m≤n) (hn:n≤c) (hc:c≤9223372036854775807) :
 Calls Tryz.prog 163 #[.pointer (some ⟨x,0,none⟩),.int .i64 (m:Int)] w fun e w'=>e=.returned (.slice (if c=i then a else Option.map (fun x=>x.add i) a) m (c-i))∧∃k,w'=w.drewN k:=by
 obtain ⟨K,hK⟩:∃K,K=i+m:=⟨_,rfl⟩;have k1:(i:Int)+(m:Int)=(K:Int):=by omega
 have k2:(K:Int)≤(n:Int):=by omega
 have k3:(K:Int)≤(c:Int):=by omega
 have k4:(i:Int)≤(K:Int):=by omega
 have k5:K-i=m:=by omega
 have k7:(c:Int)≤9223372036854775807:=by omega
 have y2:IntKind.i64.wrap (K:Int)=(K:Int):=by rw [IntKind.wrap_i64];omega
 clear hK hi hn hc;obtain ⟨AD,hAd⟩:∃AD,(if c=i then a else Option.map (fun x=>x.add i) a)=AD:=⟨_,rfl⟩;rw [hAd];go_enter Tryz.func163,Tryz.ntmps163;go_wp2_with fail
 go_quiet (fail)
 go_wp2;go_ret;exact ⟨by simp,_,rfl⟩
def sgn (m N:Nat):Int:=if 256^m≤2*N then (N:Int)-((256^m:Nat):Int) else (N:Int)
theorem dwithSign_any (w:World) (m N:Nat) (hm:m=1∨m=2∨m=4∨m=8) (hN:N<256^m) :
 Calls Tryz.prog 168 #[.int .i64 (m:Int),.int .u64 (N:Int)] w fun e w'=>e=.returned (.int .i64 (sgn m N))∧w'=w:=by
 rcases hm with rfl | rfl | rfl | rfl
 · have h1:(N:Int)<256:=by simp at hN;omega
   have y1:IntKind.u64.wrap ((N:Int)*72057594037927936)=(N:Int)*72057594037927936:=by rw [IntKind.wrap_u64];omega
   have y2:wrap64 ((N:Int)*72057594037927936)/72057594037927936=sgn 1 N:=by
    unfold sgn wrap64;split <;> (simp at *;omega)
   generalize sgn 1 N=R at *;clear hN;go_enter Tryz.func168,Tryz.ntmps168;go_wp2;go_ret;exact ⟨by first | rfl | (rw [←y2];rfl) | simp [y2],rfl⟩
 · have h1:(N:Int)<65536:=by simp at hN;omega
   have y1:IntKind.u64.wrap ((N:Int)*281474976710656)=(N:Int)*281474976710656:=by rw [IntKind.wrap_u64];omega
   have y2:wrap64 ((N:Int)*281474976710656)/281474976710656=sgn 2 N:=by
    unfold sgn wrap64;split <;> (simp at *;omega)
   generalize sgn 2 N=R at *;clear hN;go_enter Tryz.func168,Tryz.ntmps168;go_wp2;go_ret;exact ⟨by first | rfl | (rw [←y2];rfl) | simp [y2],rfl⟩
 · have h1:(N:Int)<4294967296:=by simp at hN;omega
   have y1:IntKind.u64.wrap ((N:Int)*4294967296)=(N:Int)*4294967296:=by rw [IntKind.wrap_u64];omega
   have y2:wrap64 ((N:Int)*4294967296)/4294967296=sgn 4 N:=by
    unfold sgn wrap64;split <;> (simp at *;omega)
   generalize sgn 4 N=R at *;clear hN;go_enter Tryz.func168,Tryz.ntmps168;go_wp2;go_ret;exact ⟨by first | rfl | (rw [←y2];rfl) | simp [y2],rfl⟩
 · have h1:(N:Int)<18446744073709551616:=by simp at hN;omega
   have y2:wrap64 (N:Int)=sgn 8 N:=by
    unfold sgn wrap64;split <;> (simp at *;omega)
   generalize sgn 8 N=R at *;clear hN;go_enter Tryz.func168,Tryz.ntmps168;go_wp2;go_ret;exact ⟨by first | rfl | (rw [←y2];rfl) | simp [y2],rfl⟩
end Go.Proofs.YtlabllgifkklhaaGreatDoor
