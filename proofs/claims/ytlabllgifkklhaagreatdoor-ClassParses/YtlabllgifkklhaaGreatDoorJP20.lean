/- Joined: GrA GtA PlS GtB GtC. -/
import Derived.Test.YtlabllgifkklhaaGreatDoorJP11
import Derived.Test.YtlabllgifkklhaaGreatDoorJP10
import Derived.Test.YtlabllgifkklhaaGreatDoorJP8
import Derived.Test.YtlabllgifkklhaaGreatDoorJP12
import Derived.Test.YtlabllgifkklhaaGreatDoorJP19
import Derived.Test.YtlabllgifkklhaaGreatDoorJP5
import Derived.Test.YtlabllgifkklhaaGreatDoorJP17
import Derived.Test.YtlabllgifkklhaaGreatDoorJPlQ
import Derived.Test.YtlabllgifkklhaaGreatDoorJP9
import Derived.Test.YtlabllgifkklhaaGreatDoorJP3
set_option linter.unusedVariables false
set_option maxRecDepth 100000
set_option maxHeartbeats 1600000
namespace Go.Proofs.YtlabllgifkklhaaGreatDoor
open Go.RowKit
structure Gw (X B:Nat) (p:Sl) (b:List UInt8) (bad:Bool) (W:World):Prop where
 hX:B≤X
 blk:∃a c,W.heap[X]?=some (.cells #[.slice p.a p.n p.c,.slice a b.length c,.bool bad] 65 (0,0))∧Orw byc 5 1 W B (.slice a b.length c) b
theorem Gw.X_lt {X B:Nat} {p:Sl} {b:List UInt8} {bad:Bool} {W:World} (h:Gw X B p b bad W):X<W.heap.size:=by
 obtain ⟨a,c,h1,_⟩:=h.blk;exact lt_of_heap h1
theorem Gw.hB {X B:Nat} {p:Sl} {b:List UInt8} {bad:Bool} {W:World} (h:Gw X B p b bad W):B≤W.heap.size:=Nat.le_trans h.hX (Nat.le_of_lt h.X_lt)
theorem Gw.keep {X B:Nat} {p:Sl} {b:List UInt8} {bad:Bool} {W W':World} (h:Gw X B p b bad W) (f:∀(k:Nat) (Z:Array Value) (T:TypeId),B≤k→W.heap[k]?=some (.cells Z T (0,0))→T=65∨T=5→W'.heap[k]?=W.heap[k]?):Gw X B p b bad W':=by
 obtain ⟨a,c,h1,h2⟩:=h.blk;exact ⟨h.hX,a,c,(f _ _ _ h.hX h1 (.inl rfl)).trans h1,h2.keep fun k Z hk hZ=>f k Z _ hk hZ (.inr rfl)⟩
theorem Gw.below {X B:Nat} {p:Sl} {b:List UInt8} {bad:Bool} {W W':World} (h:Gw X B p b bad W) (f:Below W.heap.size W W'):Gw X B p b bad W':=h.keep fun k Z T _ hk _=>f.block k (lt_of_heap hk)
theorem Gw.mark {X B:Nat} {p:Sl} {b:List UInt8} {bad:Bool} {W:World} (h:Gw X B p b bad W) (bad':Bool):Gw X B p b bad' (W.setCell ⟨X,2,none⟩ (.bool bad')):=by
 obtain ⟨a,c,h1,h2⟩:=h.blk;refine ⟨h.hX,a,c,heap_setCell_same W X 2 _ _ _ h1,h2.keep fun k Z _ hk=>Below.heap_setCell _ _ _ _ fun e=>?_⟩;simp only at e;subst e;rw [h1] at hk;injection hk with hk
 injection hk with _ hk
 cases hk
def GF (X B:Nat) (w w':World):Prop:=Kx X w w'∧Below B w w'
theorem GF.trans {X B:Nat} {w w1 w2:World} (f:GF X B w w1) (g:GF X B w1 w2):GF X B w w2:=⟨f.1.trans f.2.size g.1,f.2.trans g.2⟩
theorem GF.of_below {X B:Nat} {w w':World} (f:Below w.heap.size w w') (hB:B≤w.heap.size):GF X B w w':=⟨Kx.of_below f,f.mono hB⟩
theorem GF.size {X B:Nat} {w w':World} (f:GF X B w w'):w.heap.size≤w'.heap.size:=f.2.size
theorem GF.mark {X B:Nat} {p:Sl} {b:List UInt8} {bad:Bool} {W:World} (h:Gw X B p b bad W) (o:Nat) (v:Value):GF X B W (W.setCell ⟨X,o,none⟩ v):=⟨fun k _ hk=>Below.heap_setCell _ _ _ _ hk,(Below.refl _ _).setCell (p:=⟨X,o,none⟩) h.hX _⟩
theorem gwmust_any (X B:Nat) (p:Sl) (b:List UInt8) (bad:Bool) (w:World) (h:Gw X B p b bad w) (is_:Bool) :
 Calls Tryz.prog 29 #[.pointer (some ⟨X,0,none⟩),.bool is_] w fun e w'=>e=.returned (.tuple #[])∧w'=w.setCell ⟨X,2,none⟩ (.bool (bad||!is_)):=by
 obtain ⟨a,c,h1,h2⟩:=h.blk;have c2:w.cell? ⟨X,2,none⟩=some (.bool bad):=bx_cell h1 2 _ rfl;have z2:=bx_thaw h1 2;clear h h1 h2;cases bad with
 | true=>
  go_enter Tryz.func29,Tryz.ntmps29;go_wp2;go_end0;exact ⟨rfl,rfl⟩
 | false=>
  cases is_ with
  | true=>
   go_enter Tryz.func29,Tryz.ntmps29;go_wp2;go_end0;exact ⟨rfl,rfl⟩
  | false=>
   go_enter Tryz.func29,Tryz.ntmps29;go_wp2;go_end0;exact ⟨rfl,rfl⟩
def u_post (X B:Nat) (p:Sl) (w:World) (G:List UInt8×Int) (bad:Bool) (e:Ending) (w':World):Prop:=e=.returned (.tuple #[])∧Gw X B p G.1 (bad||decide (G.2≠0)) w'∧GF X B w w'
theorem gwu_any (X B:Nat) (p:Sl) (b:List UInt8) (bad:Bool) (w:World) (h:Gw X B p b bad w) (k:Int) (hk:0≤k∧k≤8) (la:Option Addr) (ln lc:Nat) (zs:List Int) (hl:Nums w la ln zs) (hz:∀z∈zs,-9223372036854775808≤z∧z≤9223372036854775807) (hs:b.length+8*ln≤140737488351232) :
 Calls Tryz.prog 27 #[.pointer (some ⟨X,0,none⟩),.int .i64 k,.slice la ln lc] w (u_post X B p w (putW b k false zs) bad):=by
 obtain ⟨a,c,h1,h2⟩:=h.blk;have h2':w.ownsRow B 5 1 (.slice a b.length c) b.length (bv b):=by rw [←byc_bv];exact h2
 have HU:=hide (hPut_any w a b.length c b (arg_of_own rfl h2') k (by omega) false la ln lc zs hl hz hs);have c1:w.cell? ⟨X,1,none⟩=some (.slice a b.length c):=bx_cell h1 1 _ rfl;have hput:(putW b k false zs).2≠0→(putW b k false zs).1=b:=by
  unfold putW;split
  · intro e;exact absurd rfl e
  · intro _;rfl
 generalize putW b k false zs=G at *;obtain ⟨b',er⟩:=G;simp only at hput;have hB:=h.hB;have HH:=hide (And.intro h (And.intro h1 h2));clear h h1 h2 h2' hl hz;go_enter Tryz.func27,Tryz.ntmps27;go_wp2_with fail;refine (unhide HU).mono ?_;rintro e w1 ⟨a',n',c',rfl,p1,p2,f1⟩;obtain ⟨h,h1,h2⟩:=unhide HH;simp only at p1 p2;have h1':w1.heap[X]?=some (.cells #[.slice p.a p.n p.c,.slice a b.length c,.bool bad] 65 (0,0)):=(f1.block _ (lt_of_heap h1)).trans h1;have hrow:n'=b'.length∧Orw byc 5 1 w1 B (.slice a' n' c') b':=by
  by_cases he:er=0
  · have o:=p1 he
    have hn':b'.length=n':=by
     have:=congrArg List.length (rfl:bv b'=bv b')
     rcases o.2 with ⟨hv,hn0⟩ | ⟨g,cap,cur,hv,_,hh,_,_,_,htk⟩
     · have:=o.1
       simpa [bv] using this
     · have:=o.1
       simpa [bv] using this
    refine ⟨hn'.symm,Orw.base (orw_bv o hn') hB⟩
  · obtain ⟨rfl,rfl,rfl⟩:=p2 he
    have:=hput he;subst this;exact ⟨rfl,h2.below fun k hk=>f1.block k (h2.lt k hk).2⟩
 obtain ⟨rfl,hrow⟩:=hrow;have d1:w1.cell? ⟨X,1,none⟩=some (.slice a b.length c):=bx_cell h1' 1 _ rfl;have d2:w1.cell? ⟨X,2,none⟩=some (.bool bad):=bx_cell h1' 2 _ rfl;have z1:=bx_thaw h1' 1;have z2:=bx_thaw h1' 2;have hfin:∀bad',Gw X B p b' bad' ((w1.setCell ⟨X,1,none⟩ (.slice a' b'.length c')).setCell ⟨X,2,none⟩ (.bool bad'))∧GF X B w ((w1.setCell ⟨X,1,none⟩ (.slice a' b'.length c')).setCell ⟨X,2,none⟩ (.bool bad')):=fun bad'=>by
  have hs:∀k,k≠X→((w1.setCell ⟨X,1,none⟩ (.slice a' b'.length c')).setCell ⟨X,2,none⟩ (.bool bad')).heap[k]?=w1.heap[k]?:=fun k hk=>(Below.heap_setCell _ _ _ _ hk).trans (Below.heap_setCell _ _ _ _ hk)
  refine ⟨⟨h.hX,a',c',heap_setCell_same _ _ 2 _ _ _ (heap_setCell_same _ _ 1 _ _ _ h1'),hrow.keep fun k Z _ hk=>hs k fun e=>?_⟩,fun k hk hx=>(hs k hx).trans (f1.block k hk),((f1.mono hB).setCell (p:=⟨X,1,none⟩) h.hX _).setCell (p:=⟨X,2,none⟩) h.hX _⟩;subst e;rw [h1'] at hk;injection hk with hk
  injection hk with _ hk
  cases hk
 have HF:=hide hfin;clear h h1 h2 h1' hrow p1 p2 f1 HH HU hput c1 hfin;cases bad with
 | true=>
  go_wp2;go_end0;exact ⟨rfl,by simpa using (unhide HF true).1,(unhide HF true).2⟩
 | false=>
  by_cases he:er=0
  · have he':(er != 0)=false:=by simp [he]
    go_wp2;go_end0;exact ⟨rfl,by simpa [he] using (unhide HF false).1,(unhide HF false).2⟩
  · have he':(er != 0)=true:=by simp [he]
    go_wp2;go_end0;exact ⟨rfl,by simpa [he] using (unhide HF true).1,(unhide HF true).2⟩
structure Gc where
 X:Nat
 B:Nat
 a:Option Addr
 n:Nat
 c:Nat
 bs:List UInt8
 p:Sl
 l:List Ent
structure Gd (C:Gc) (i:Nat) (en:Bool) (W:World):Prop where
 hX:C.B≤C.X
 blk:W.heap[C.X]?=some (.cells #[.slice C.a C.n C.c,.int .i64 (i:Int),.slice C.p.a C.p.n C.p.c,.bool en] 81 (0,0))
 hi:i≤C.n
 arg:Arg W C.a C.n C.c C.bs
 far:∀b o,C.a=some ⟨b,o,none⟩→0<C.n→b≠C.X
 own:W.ownsRow (C.X+1) 55 5 (.slice C.p.a C.p.n C.p.c) C.p.n (ev C.l)
 len:C.n≤1000000
 few:C.p.n≤1024
 fit:EntsFit7 C.l
theorem Gd.X_lt {C:Gc} {i:Nat} {en:Bool} {W:World} (h:Gd C i en W):C.X<W.heap.size:=lt_of_heap h.blk
theorem Gd.hB {C:Gc} {i:Nat} {en:Bool} {W:World} (h:Gd C i en W):C.B≤W.heap.size:=Nat.le_trans h.hX (Nat.le_of_lt h.X_lt)
theorem Gd.bl {C:Gc} {i:Nat} {en:Bool} {W:World} (h:Gd C i en W):C.bs.length=C.n:=h.arg.bs.1
theorem Gd.es {C:Gc} {i:Nat} {en:Bool} {W:World} (h:Gd C i en W):Es W C.p.a C.p.n C.l:=es_of_own h.own
theorem Gd.pl {C:Gc} {i:Nat} {en:Bool} {W:World} (h:Gd C i en W):C.l.length=C.p.n:=h.es.1
theorem Gd.step {C:Gc} {i j:Nat} {en en':Bool} {W W':World} (h:Gd C i en W) (k:Kx C.X W W') (hb:W'.heap[C.X]?=some (.cells #[.slice C.a C.n C.c,.int .i64 (j:Int),.slice C.p.a C.p.n C.p.c,.bool en'] 81 (0,0))) (hj:j≤C.n):Gd C j en' W':=
 ⟨h.hX,hb,hj,h.arg.blocks h.far (fun q hq hz=>k q hq hz),h.far,own_of_block h.own (fun q hq=>k q (h.own.lt q hq).2 (by have:=(h.own.lt q hq).1;omega)),h.len,h.few,h.fit⟩
theorem Gd.below {C:Gc} {i:Nat} {en:Bool} {W W':World} (h:Gd C i en W) (f:Below W.heap.size W W'):Gd C i en W':=h.step (Kx.of_below f) ((f.block _ h.X_lt).trans h.blk) h.hi
theorem Gd.set {C:Gc} {i:Nat} {en:Bool} {W:World} (h:Gd C i en W) (en':Bool):Gd C i en' (W.setCell ⟨C.X,3,none⟩ (.bool en'))∧GF C.X C.B W (W.setCell ⟨C.X,3,none⟩ (.bool en')):=
 ⟨h.step (fun q hq hz=>Below.heap_setCell _ _ _ _ hz) (heap_setCell_same W C.X 3 _ _ _ h.blk) h.hi,fun q hq hz=>Below.heap_setCell _ _ _ _ hz,(Below.refl _ _).setCell (p:=⟨C.X,3,none⟩) h.hX _⟩
theorem Gd.keep {C:Gc} {i:Nat} {en:Bool} {W W':World} (h:Gd C i en W) (f:GF C.X C.B W W') {k:Nat} {Z:Array Value} {T:TypeId} (hk:W.heap[k]?=some (.cells Z T (0,0))) (hT:T≠81):W'.heap[k]?=some (.cells Z T (0,0)):=
 (f.1 k (lt_of_heap hk) fun e=>by
  subst e;rw [h.blk] at hk;injection hk with hk
  injection hk with _ hk
  exact hT hk.symm).trans hk
theorem Gd.orw {C:Gc} {i:Nat} {en:Bool} {W W':World} (h:Gd C i en W) (f:GF C.X C.B W W') {α:Type} {cs:α→List Value} {e:TypeId} {sz base:Nat} {v:Value} {l:List α} (o:Orw cs e sz W base v l) (h1:e≠81):Orw cs e sz W' base v l:=
 o.keep fun k Z _ hk=>(h.keep f hk h1).trans hk.symm
structure Mv (d i:Nat) (en:Bool) (i':Nat) (en':Bool):Prop where
 le:i≤i'
 by_:en'=false→i+d≤i'
 bad:en=true→en'=true∧i'=i
theorem Mv.trans {d d' i i1 i2:Nat} {en e1 e2:Bool} (h:Mv d i en i1 e1) (g:Mv d' i1 e1 i2 e2):Mv (d+d') i en i2 e2:=by
 refine ⟨Nat.le_trans h.le g.le,fun e=>?_,fun e=>?_⟩
 · have h1:e1=false:=by
    cases h2:e1 with
    | false=>rfl
    | true=>
     rw [(g.bad h2).1] at e;cases e
   have:=h.by_ h1;have:=g.by_ e;omega
 · obtain ⟨a,b⟩:=h.bad e
   obtain ⟨c,d⟩:=g.bad a;exact ⟨c,d.trans b⟩
theorem Mv.refl (i:Nat) (en:Bool):Mv 0 i en i en:=⟨Nat.le_refl _,fun _=>Nat.le_refl _,fun e=>⟨e,rfl⟩⟩
theorem Mv.less {d d' i i':Nat} {en en':Bool} (h:Mv d i en i' en') (hd:d'≤d):Mv d' i en i' en':=⟨h.le,fun e=>by have:=h.by_ e;omega,h.bad⟩
def gu_post (C:Gc) (k:Nat) (i:Nat) (en:Bool) (w:World) (e:Ending) (w':World):Prop:=∃(n:Int) (i':Nat) (en':Bool),e=.returned (.int .i64 n)∧(0≤n∧n≤9223372036854775807)∧(k≠8→n<((256^k:Nat):Int)∧n<4294967296∧Got (uR k) C.bs i en n i' en')∧(i≤i'∧(en'=false→i'=i+k)∧(en'=true→n=0))∧(en=true→en'=true∧i'=i)∧Gd C i' en' w'∧GF C.X C.B w w'
theorem getW_end {bs:List UInt8} {i k:Nat} (hk:k=1∨k=2∨k=4∨k=8):i≤(getW bs i (k:Int) false).2.2∧((getW bs i (k:Int) false).2.1=0→(getW bs i (k:Int) false).2.2=i+k)∧((getW bs i (k:Int) false).2.1≠0→(getW bs i (k:Int) false).1=0):=by
 unfold getW;rw [if_pos (by unfold wide;omega)];split
 · simp
 · rw [Int.toNat_natCast]
   cases valW ((bs.drop i).take k) false with
   | none=>simp
   | some v=>simp
theorem gru_any (C:Gc) (i:Nat) (en:Bool) (w:World) (h:Gd C i en w) (k:Nat) (hk:k=1∨k=2∨k=4∨k=8) :
 Calls Tryz.prog 39 #[.pointer (some ⟨C.X,0,none⟩),.int .i64 (k:Int)] w (gu_post C k i en w):=by
 have hlen:=h.len;have hbl:=h.bl;have hi:=h.hi;have d3:w.cell? ⟨C.X,3,none⟩=some (.bool en):=bx_cell h.blk 3 _ rfl;cases en with
 | true=>
  have H:=hide h;clear h;go_enter Tryz.func39,Tryz.ntmps39;go_wp2;go_ret;refine ⟨0,i,true,rfl,by omega,fun h8=>⟨?_,by omega,fun _=>rfl,fun e=>by cases e⟩,⟨by omega,(fun e=>by cases e),fun _=>rfl⟩,fun _=>⟨rfl,rfl⟩,unhide H,GF.of_below (Below.refl _ _) (unhide H).hB⟩;have:0<256^k:=Nat.pow_pos (by decide);omega
 | false=>
  have HG:=hGet_anyE (ex0:=.slice C.p.a C.p.n C.p.c) (ex1:=.bool false) w C.X C.a C.n C.c i C.bs h.arg (by omega) hi h.blk (k:Int) (by omega) false;have hend:=getW_end (bs:=C.bs) (i:=i) hk;have hpos:=getW_pos (b:=C.bs) (i:=i) (k:=(k:Int));have hmost:=getW_most (b:=C.bs) (i:=i) (k:=(k:Int));have hle:=getW_le (bs:=C.bs) (i:=i) (k:=(k:Int)) (sg:=false) (by omega);have hgot:k≠8→(getW C.bs i (k:Int) false).1<((256^k:Nat):Int)∧(getW C.bs i (k:Int) false).1<4294967296∧Got (uR k) C.bs i false (getW C.bs i (k:Int) false).1 (getW C.bs i (k:Int) false).2.2 (decide ((getW C.bs i (k:Int) false).2.1≠0)):=fun h8=>by
   have hk':k=1∨k=2∨k=4:=by omega
   have hs:=getW_small (bs:=C.bs) (i:=i) hk';refine ⟨hs.2.2,hs.2.1,(fun e=>by cases e),fun e v0 r hr=>?_⟩;obtain ⟨h1,h2⟩:=getW_uR hk' hr;rw [h1];exact ⟨rfl,rfl,h2⟩
  generalize getW C.bs i (k:Int) false=G at *;obtain ⟨n,er,j⟩:=G;simp only at HG hend hpos hmost hle hgot;have HGG:=hide HG;have HE:=hide (And.intro hend hgot);have H:=hide h;clear HG hend hgot h;go_enter Tryz.func39,Tryz.ntmps39;go_wp2_with fail;refine (unhide HGG).mono ?_;rintro e w1 ⟨rfl,R⟩;have G1:Gd C j false w1:=(unhide H).step (fun q hq hz=>R.oth q hz) R.blk (by omega);have F1:GF C.X C.B w w1:=⟨fun q hq hz=>R.oth q hz,R.bel.mono (unhide H).hX⟩;have z3:=bx_thaw G1.blk 3;have d3':w1.cell? ⟨C.X,3,none⟩=some (.bool false):=bx_cell G1.blk 3 _ rfl;have HG1:=hide (And.intro G1 F1);clear R G1 F1 HGG d3
  by_cases he:er=0
  · subst he
    go_wp2;go_ret;obtain ⟨G1,F1⟩:=unhide HG1;obtain ⟨G2,F2⟩:=G1.set false;obtain ⟨⟨e1,e2,e3⟩,hgot⟩:=unhide HE;exact ⟨n,j,false,rfl,⟨hpos,hmost⟩,fun h8=>by simpa using hgot h8,⟨e1,fun _=>by simpa using e2,(fun e=>by cases e)⟩,(fun e=>by cases e),G2,F1.trans F2⟩
  · have he':(er != 0)=true:=by simpa using he
    go_wp2;go_ret;obtain ⟨G1,F1⟩:=unhide HG1;obtain ⟨G2,F2⟩:=G1.set true;obtain ⟨⟨e1,e2,e3⟩,hgot⟩:=unhide HE;have hd:decide (er≠0)=true:=decide_eq_true he;exact ⟨n,j,true,rfl,⟨hpos,hmost⟩,fun h8=>by rw [←hd];exact hgot h8,⟨e1,(fun e=>by cases e),fun _=>e3 he⟩,(fun e=>by cases e),G2,F1.trans F2⟩
def EntsFit (l:List Ent):Prop:=(∀x∈l,x.text.length≤140737488355328)∧∀x∈l,EntFit x
theorem jText_any (w:World) (a:Option Addr) (n c:Nat) (l:List Ent) (h:Es w a n l) (i:Int) (hi:-9223372036854775808≤i∧i≤9223372036854775807) (hn:n≤140737488351232) (hf:EntsFit l) :
 Calls Tryz.prog 77 #[.slice a n c,.int .i64 i] w fun e w'=>e=.returned (.tuple #[.string ⟨(textP l i).1.toArray⟩,.int .i64 (textP l i).2])∧Below w.heap.size w w':=by
 have HC:=hide (jCheck_any w a n c l h hn hf.1 hf.2)
 by_cases hc:checkP l=true
 case neg=>
  have e1:textP l i=([],70):=if_pos (by simpa using hc);rw [if_neg hc] at HC;rw [e1];clear h e1 hc;go_enter Tryz.func77,Tryz.ntmps77;go_wp2_with fail;refine (unhide HC).mono ?_;rintro e w1 ⟨rfl,f1⟩;have F1:=hide f1;clear f1 HC;go_wp2;go_ret2;exact ⟨rfl,unhide F1⟩
 rw [if_pos hc] at HC;have HT:Hid (∀W,Below w.heap.size w W→Calls Tryz.prog 66 #[.slice a n c,.int .i64 i] W fun e w'=>e=.returned (.int .i64 (tagE l i))∧w'=W):=fun W f=>jtag_any W a n c l (h.below f) i hi hn
 by_cases ht:tagE l i=1
 case neg=>
  have e1:textP l i=([],2):=by
   unfold textP;rw [if_neg (by rw [hc];simp),if_pos ht]
  have ht':(tagE l i==1)=false:=by simpa using ht
  have ht2:(tagE l i != 1)=true:=by simpa using ht
  rw [e1];generalize tagE l i=T at *;clear h e1 hc ht;go_enter Tryz.func77,Tryz.ntmps77;go_wp2_with fail;refine (unhide HC).mono ?_;rintro e w1 ⟨rfl,f1⟩;have F1:=hide f1;have HT1:=hide (unhide HT w1 f1);clear f1 HC HT;go_wp2_with fail;refine (unhide HT1).mono ?_;rintro e w2 ⟨rfl,e0⟩;have e0':=e0.symm;clear e0;subst e0';clear HT1;go_wp2;go_ret2;exact ⟨rfl,unhide F1⟩
 have e1:textP l i=((atE l i).text,0):=by
  unfold textP;rw [if_neg (by rw [hc];simp),if_neg (by simpa using ht)]
 obtain ⟨k,rfl,hk,hx⟩:=atE_in (l:=l) (i:=i) (by have h2:(atE l i).tag=1:=ht;omega);obtain ⟨b,o,rfl,hE⟩:=h.2.resolve_left (by have:=h.1;omega);have hkn:(k:Int)<(n:Int):=by have:=h.1;omega
 have HE:Hid (∀W,Below w.heap.size w W→W.cell? ⟨b,o+k*5+1,none⟩=some (.string ⟨(atE l (k:Int)).text.toArray⟩)):=fun W f=>(ents_get (hE.below f) hx).2.1
 rw [e1];rw [ht] at HT;generalize (atE l (k:Int)).text=tx at *;clear h e1 hc ht hx hE hk;show Calls _ _ _ _ fun e w'=>e=.returned (.tuple #[.string ⟨tx.toArray⟩,.int .i64 0])∧Below w.heap.size w w'
 generalize (⟨tx.toArray⟩:ByteArray)=st at *;go_enter Tryz.func77,Tryz.ntmps77;go_wp2_with fail;refine (unhide HC).mono ?_;rintro e w1 ⟨rfl,f1⟩;have F1:=hide f1;have HT1:=hide (unhide HT w1 f1);have cc:=unhide HE w1 f1;clear f1 HC HT HE;go_wp2_with fail;refine (unhide HT1).mono ?_;rintro e w2 ⟨rfl,e0⟩;have e0':=e0.symm;clear e0;subst e0';clear HT1;go_wp2;go_ret2;exact ⟨rfl,unhide F1⟩
theorem txt8_at (l:List Ent) (i:Int):Txt8 l (atE l i).text:=by
 unfold atE;split
 · cases h:l[i.toNat]? with
   | none=>exact .inl rfl
   | some x=>exact .inr ⟨x,List.mem_of_getElem? h,rfl⟩
 · exact .inl rfl
theorem txt8_text (l:List Ent) (i:Int):Txt8 l (textP l i).1:=by
 unfold textP;split
 · exact .inl rfl
 · split
   · exact .inl rfl
   · exact txt8_at l i
theorem txt8_const (l:List Ent) (i:Int):Txt8 l (constP l i).1.cls:=by
 unfold constP;split
 · exact .inl rfl
 · split
   · exact .inl rfl
   · show Txt8 l (meanP l i).cls
     unfold meanP;simp only;split
     · exact .inl rfl
     · split
       · exact txt8_at l _
       · split
         · exact txt8_at l _
         · exact .inl rfl
theorem const_cls {l:List Ent} (hck:checkP l=true) {i:Int} {s:List UInt8} (h:clsR l i=some s):(constP l i).2=0∧(constP l i).1.tag=7∧(constP l i).1.cls=s:=by
 unfold clsR at h;split at h
 · rename_i ht
   injection h with h
   have hm:meanP l i=⟨7,0,(atE l (atE l i).a).text,[],[]⟩:=by
    unfold meanP;have ht':(atE l i).tag=7:=ht;simp only;rw [if_neg (by omega),if_pos ht']
   unfold constP;rw [if_neg (by rw [hck];decide),hm];exact ⟨rfl,rfl,h⟩
 · cases h
def gt_post (C:Gc) (d:Nat) (o:List UInt8→Option (List UInt8×List UInt8)) (i:Nat) (en:Bool) (w:World) (e:Ending) (w':World):Prop:=∃s i' en',e=.returned (.string ⟨List.toArray s⟩)∧Txt8 C.l s∧Got o C.bs i en s i' en'∧Mv d i en i' en'∧Gd C i' en' w'∧GF C.X C.B w w'
theorem got_utf {l:List Ent} (hck:checkP l=true) {bs:List UInt8} {i j:Nat} {en ej:Bool} {n:Int} (g:Got (uR 2) bs i en n j ej):Got (utfR l) bs i en (textP l n).1 j (ej||decide ((textP l n).2≠0)):=by
 refine ⟨fun e=>by rw [g.1 e];rfl,fun e v0 r hr=>?_⟩;unfold utfR at hr;obtain ⟨⟨m,s1⟩,ha,hr⟩:=Option.bind_eq_some_iff.1 hr;obtain ⟨rfl,e1,d1⟩:=g.2 e _ _ ha;simp only at hr;split at hr
 · rename_i ht
   injection hr with hr
   injection hr with h1 h2
   have:textP l n=((atE l n).text,0):=by
    unfold textP;rw [if_neg (by rw [hck];decide),if_neg (by rw [ht];decide)]
   rw [this,e1];exact ⟨h1,rfl,d1.trans h2⟩
 · cases hr
theorem grutf_any (C:Gc) (hck:checkP C.l=true) (i:Nat) (en:Bool) (w:World) (h:Gd C i en w) :
 Calls Tryz.prog 42 #[.pointer (some ⟨C.X,0,none⟩)] w (gt_post C 2 (utfR C.l) i en w):=by
 have HN:Hid (∀W,Gd C i en W→Calls Tryz.prog 39 #[.pointer (some ⟨C.X,0,none⟩),.int .i64 2] W (gu_post C 2 i en W)):=hide fun W h=>gru_any C i en W h 2 (by omega)
 have HT:Hid (∀W j ej (n:Int),Gd C j ej W→0≤n∧n≤9223372036854775807→Calls Tryz.prog 77 #[.slice C.p.a C.p.n C.p.c,.int .i64 n] W fun e w'=>e=.returned (.tuple #[.string ⟨(textP C.l n).1.toArray⟩,.int .i64 (textP C.l n).2])∧Below W.heap.size W w'):=hide fun W j ej n g hn=>jText_any W C.p.a C.p.n C.p.c C.l g.es n (by omega) (by have:=g.few;omega) ⟨g.fit.1,g.fit.2⟩
 have H0:=hide h;clear h;go_enter Tryz.func42,Tryz.ntmps42;go_upto_region 1 with fail
 refine wp_region_txt (fun W=>∃j ej,Gd C j ej W) [5,6] (List.range 12) (by kernel_rfl) (by kernel_rfl) ⟨i,en,(unhide H0).below ((Below.refl _ _).drew)⟩ ?_
 repeat (first
  | (refine Txt.reads (v:=?_) (by rfl) (by rfl) (by rfl) ?_ ?_;rotate_left;(focus ((intro W hSW;obtain ⟨j,ej,g⟩:=hSW;have q2:W.cell? ⟨C.X,2,none⟩=some (.slice C.p.a C.p.n C.p.c):=bx_cell g.blk 2 _ rfl;clear g;go_simp) <;> with_reducible rfl));simp only [Act.put,List.setIfInBounds_toArray,List.set_cons_zero,List.set_cons_succ]))
 refine Txt.acts (by rfl) (by rfl) (by rfl) (fun K hK=>?_);go_simp;have hd:=(unhide H0).below ((Below.refl w.heap.size w).drew);refine (unhide HN _ hd).mono ?_;rintro e w2 ⟨n,j,ej,rfl,hn,hg,hm1,hm2,G2,F2⟩;have HG:=hide (And.intro (got_utf hck (hg (by decide)).2.2) (And.intro (Mv.mk hm1.1 (fun e=>by rw [hm1.2.1 e];exact Nat.le_refl _) hm2:Mv 2 i en j ej) (txt8_text C.l n)));have F02:GF C.X C.B w w2:=(GF.of_below ((Below.refl w.heap.size w).drew) (unhide H0).hB).trans F2;have HG2:=hide (And.intro G2 F02);refine hK.out _ _ ⟨j,ej,G2⟩ ?_;clear hK K hg hm1 hm2 G2 F2 F02 HN hd;refine Txt.acts (by rfl) (by rfl) (by rfl) (fun K hK=>?_);go_simp;refine (unhide HT w2 j ej n (unhide HG2).1 hn).mono ?_;rintro e w3 ⟨rfl,f3⟩;have G3:=(unhide HG2).1.below f3;have F3:GF C.X C.B w w3:=(unhide HG2).2.trans (GF.of_below f3 (unhide HG2).1.hB);have HG3:=hide (And.intro G3 F3);refine hK.out _ _ ⟨j,ej,G3⟩ ?_;have d3:w3.cell? ⟨C.X,3,none⟩=some (.bool ej):=bx_cell G3.blk 3 _ rfl;have z3:=bx_thaw G3.blk 3;clear hK K G3 F3 f3 HT HG2 hn;generalize textP C.l n=T at *;obtain ⟨s,er⟩:=T;simp only at HG ⊢
 repeat (first
  | (refine Txt.reads (v:=?_) (by rfl) (by rfl) (by rfl) ?_ ?_;rotate_left;(focus ((intro W hSW;clear hSW;go_simp) <;> with_reducible rfl));simp only [Act.put,List.setIfInBounds_toArray,List.set_cons_zero,List.set_cons_succ]))
 refine Txt.done ?_;cases ej with
 | true=>
  go_wp2;go_ret;obtain ⟨G3,F3⟩:=unhide HG3;obtain ⟨G4,F4⟩:=G3.set true;obtain ⟨g,m,t⟩:=unhide HG;exact ⟨s,j,true,rfl,t,g,m,G4,F3.trans F4⟩
 | false=>
  by_cases he:er=0
  · subst he
    go_wp2;go_ret;obtain ⟨G3,F3⟩:=unhide HG3;obtain ⟨G4,F4⟩:=G3.set false;obtain ⟨g,m,t⟩:=unhide HG;exact ⟨s,j,false,rfl,t,g,m,G4,F3.trans F4⟩
  · have he':(er != 0)=true:=by simpa using he
    go_wp2;go_ret;obtain ⟨G3,F3⟩:=unhide HG3;obtain ⟨G4,F4⟩:=G3.set true;obtain ⟨g,m,t⟩:=unhide HG;have hd:decide (er≠0)=true:=decide_eq_true he;rw [hd] at g;exact ⟨s,j,true,rfl,t,g,⟨m.le,(fun e=>by cases e),fun e=>⟨rfl,(m.bad e).2⟩⟩,G4,F3.trans F4⟩
def JConstOk:Prop:=∀(w:World) (a:Option Addr) (n c:Nat) (l:List Ent),Es w a n l→∀(i:Int),(-9223372036854775808≤i∧i≤9223372036854775807)→n≤140737488351232→(∀x∈l,x.text.length≤140737488355328)→(∀x∈l,EntFit x) →
 Calls Tryz.prog 76 #[.slice a n c,.int .i64 i] w fun e w'=>e=.returned (.tuple #[cstV (constP l i).1,.int .i64 (constP l i).2])∧Below w.heap.size w w'
def gc_post (C:Gc) (n:Int) (i:Nat) (en:Bool) (w:World) (e:Ending) (w':World):Prop:=∃s en',e=.returned (.string ⟨List.toArray s⟩)∧Txt8 C.l s∧(∀v0,en=false→clsR C.l n=some v0→s=v0∧en'=false)∧(en=true→en'=true)∧Gd C i en' w'∧GF C.X C.B w w'
theorem grclass_any (J:JConstOk) (C:Gc) (hck:checkP C.l=true) (i:Nat) (en:Bool) (w:World) (h:Gd C i en w) (n:Int) (hn:0≤n∧n≤9223372036854775807) :
 Calls Tryz.prog 41 #[.pointer (some ⟨C.X,0,none⟩),.int .i64 n] w (gc_post C n i en w):=by
 have HJ:=hide (J w C.p.a C.p.n C.p.c C.l h.es n (by omega) (by have:=h.few;omega) h.fit.1 h.fit.2);have htx:=txt8_const C.l n;have hcl:∀s,clsR C.l n=some s→(constP C.l n).2=0∧(constP C.l n).1.tag=7∧(constP C.l n).1.cls=s:=fun s hs=>const_cls hck hs
 have q2:w.cell? ⟨C.X,2,none⟩=some (.slice C.p.a C.p.n C.p.c):=bx_cell h.blk 2 _ rfl;generalize constP C.l n=T at *;obtain ⟨⟨tag,cn,cls,cnm,cty⟩,er⟩:=T;unfold cstV at HJ;simp only at HJ htx hcl;have HC:=hide (And.intro htx hcl);have H0:=hide h;clear h htx hcl;go_enter Tryz.func41,Tryz.ntmps41;go_wp2_with fail;refine (unhide HJ).mono ?_;rintro e w1 ⟨rfl,f1⟩;have f2:Below w.heap.size w (w1.alloc (.cells #[.int .i64 tag,.int .i64 cn,.string ⟨cls.toArray⟩,.string ⟨cnm.toArray⟩,.string ⟨cty.toArray⟩] 133)):=f1.alloc f1.size _;have y2:=heap_alloc_new w1 (.cells #[.int .i64 tag,.int .i64 cn,.string ⟨cls.toArray⟩,.string ⟨cnm.toArray⟩,.string ⟨cty.toArray⟩] 133);have hXw:C.X<w1.heap.size:=Nat.lt_of_lt_of_le (unhide H0).X_lt f1.size;have G2:=(unhide H0).below f2;have F2:GF C.X C.B w _:=GF.of_below f2 (unhide H0).hB;have HG2:=hide (And.intro G2 F2);clear HJ q2 f1;go_upto_region 2 with fail
 generalize hw2:w1.alloc (.cells #[.int .i64 tag,.int .i64 cn,.string ⟨cls.toArray⟩,.string ⟨cnm.toArray⟩,.string ⟨cty.toArray⟩] 133)=w2 at *;have k0:w2.cell? ⟨w1.heap.size,0,none⟩=some (.int .i64 tag):=bx_cell y2 0 _ rfl;have k2:w2.cell? ⟨w1.heap.size,2,none⟩=some (.string ⟨cls.toArray⟩):=bx_cell y2 2 _ rfl;have d3:w2.cell? ⟨C.X,3,none⟩=some (.bool en):=bx_cell G2.blk 3 _ rfl;have z3:=bx_thaw G2.blk 3;have hne:¬C.X=w1.heap.size:=by omega
 have hne2:¬w1.heap.size=C.X:=by omega
 clear hw2 f2 y2 G2 F2;cases en with
 | true=>
  go_wp2;go_ret;obtain ⟨G3,F3⟩:=unhide HG2;obtain ⟨G4,F4⟩:=G3.set true;exact ⟨cls,true,rfl,(unhide HC).1,(fun v0 e=>by cases e),fun _=>rfl,G4,F3.trans F4⟩
 | false=>
  by_cases he:er=0
  · subst he
    by_cases ht:tag=7
    · subst ht
      go_wp2;go_ret;obtain ⟨G3,F3⟩:=unhide HG2;obtain ⟨G4,F4⟩:=G3.set false;exact ⟨cls,false,rfl,(unhide HC).1,fun v0 _ hv=>⟨((unhide HC).2 v0 hv).2.2,rfl⟩,(fun e=>by cases e),G4,F3.trans F4⟩
    · have ht':(tag != 7)=true:=by simpa using ht
      go_wp2;go_ret;obtain ⟨G3,F3⟩:=unhide HG2;obtain ⟨G4,F4⟩:=G3.set true;exact ⟨cls,true,rfl,(unhide HC).1,fun v0 _ hv=>absurd ((unhide HC).2 v0 hv).2.1 ht,fun _=>rfl,G4,F3.trans F4⟩
  · have he':(er != 0)=true:=by simpa using he
    go_wp2;go_ret;obtain ⟨G3,F3⟩:=unhide HG2;obtain ⟨G4,F4⟩:=G3.set true;exact ⟨cls,true,rfl,(unhide HC).1,fun v0 _ hv=>absurd ((unhide HC).2 v0 hv).1 he,fun _=>rfl,G4,F3.trans F4⟩
end Go.Proofs.YtlabllgifkklhaaGreatDoor
