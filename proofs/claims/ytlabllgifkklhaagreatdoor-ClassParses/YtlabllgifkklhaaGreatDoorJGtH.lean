/- The document's Parse (written by mk/mkgth.py). -/
import Derived.Test.YtlabllgifkklhaaGreatDoorJP24
import Derived.Test.YtlabllgifkklhaaGreatDoorJP27
import Derived.Test.YtlabllgifkklhaaGreatDoorJP28
set_option linter.unusedVariables false
set_option maxRecDepth 100000
set_option maxHeartbeats 6400000
namespace Go.Proofs.YtlabllgifkklhaaGreatDoor
open Go.RowKit
theorem arg_far {w:World} {a:Option Addr} {n c:Nat} {bs:List UInt8} (h:Arg w a n c bs) {X:Nat} (hX:w.heap.size≤X):∀b o,a=some ⟨b,o,none⟩→0<n→b≠X:=fun b o e hn hb=>by
 rcases (ls_of_arg9 h).2 with h0 | ⟨b',o',e',hlt,_⟩
 · omega
 · rw [e] at e'
   injection e' with e'
   injection e' with e1 e2 e3
   omega
theorem own_mono8 {w:World} {base base':Nat} {e:TypeId} {sz:Nat} {v:Value} {n:Nat} {xs:List Value} (h:w.ownsRow base e sz v n xs) (hb:base'≤base):w.ownsRow base' e sz v n xs:=
 ⟨h.1,h.2.imp id fun ⟨g,cap,cur,hv,h1,h2⟩=>⟨g,cap,cur,hv,Nat.le_trans hb h1,h2⟩⟩
theorem Kx.sets {X:Nat} {W0 W:World} (k:Kx X W0 W) {H:Nat} (hH:W0.heap.size≤H) (o:Nat) (vs:List Value):Kx X W0 (W.setCells H o vs):=fun q hq hz=>(heap_cells_other H vs o W q (by omega)).trans (k q hq hz)
theorem Gd.puts {C:Gc} {i0 j:Nat} {en0 ej:Bool} {w W:World} (h0:Gd C i0 en0 w) (g:Gd C j ej W) (F:GF C.X C.B w W) {H:Nat} (hH:w.heap.size≤H) (o:Nat) (vs:List Value):Gd C j ej (W.setCells H o vs)∧GF C.X C.B w (W.setCells H o vs):=by
 have hX:=h0.X_lt;have F':GF C.X C.B w (W.setCells H o vs):=⟨Kx.sets F.1 hH o vs,below_cells vs o F.2 (Nat.le_trans h0.hB hH)⟩;exact ⟨h0.step F'.1 ((heap_cells_other H vs o W C.X (by omega)).trans g.blk) g.hi,F'⟩
theorem MdOk.named {l:List Ent} {W:World} {base:Nat} {c:Cd} {b h p:Sl} {mr:List MpR} (o:MdOk l W base ⟨⟨0,[],[],c⟩,b,h,p,mr⟩) {H:Nat} {Z:Array Value} (hH:W.heap[H]?=some (.cells Z 49 (0,0))) (q:Nat) (vs:List Value) {base':Nat} (hb:base'≤base) {a:Int} {s t:List UInt8} (ha:fitI a) (hs:Txt8 l s) (ht:Txt8 l t):MdOk l (W.setCells H q vs) base' ⟨⟨a,s,t,c⟩,b,h,p,mr⟩:=by
 have o2:MdOk l (W.setCells H q vs) base ⟨⟨0,[],[],c⟩,b,h,p,mr⟩:=o.keep fun k Z' T hk hT=>heap_cells_other H vs q W k fun e=>by
  subst e;rw [hH] at hk;injection hk with hk
  injection hk with _ hk
  subst hk
  rcases hT with h | h | h | h <;> cases h
 have o3:=o2.base hb;exact ⟨⟨o3.own.bs,o3.own.hs,o3.own.maps,o3.own.each,o3.own.same⟩,ha,hs,ht,o3.st,o3.lo,o3.hs,o3.mp,o3.nb,o3.nh,o3.np⟩
theorem zbox8 {W:World} {R:Nat} (rb:W.heap[R]?=some (.cells #[.slice none 0 0,.string ⟨#[]⟩,.string ⟨#[]⟩,.slice none 0 0,.slice none 0 0] 26 (0,0))):(W.cell? ⟨R,0,none⟩=some (.slice none 0 0)∧W.cell? ⟨R,1,none⟩=some (.string ⟨#[]⟩)∧W.cell? ⟨R,2,none⟩=some (.string ⟨#[]⟩)∧W.cell? ⟨R,3,none⟩=some (.slice none 0 0)∧W.cell? ⟨R,4,none⟩=some (.slice none 0 0))∧W.frozen? ⟨R,0,none⟩=false∧W.frozen? ⟨R,1,none⟩=false∧W.frozen? ⟨R,2,none⟩=false∧W.frozen? ⟨R,3,none⟩=false∧W.frozen? ⟨R,4,none⟩=false:=
 ⟨⟨bx_cell rb 0 _ rfl,bx_cell rb 1 _ rfl,bx_cell rb 2 _ rfl,bx_cell rb 3 _ rfl,bx_cell rb 4 _ rfl⟩,bx_thaw rb 0,bx_thaw rb 1,bx_thaw rb 2,bx_thaw rb 3,bx_thaw rb 4⟩
def ZR8 (E:Int):Value:=.tuple #[.agg #[.slice none 0 0,.string ⟨#[]⟩,.string ⟨#[]⟩,.slice none 0 0,.slice none 0 0],.int .i64 E]
theorem refuse8 {w W:World} {bs:List UInt8} {E:Int} (hp:parseK bs=(cl0,E)) (fb:Below w.heap.size w W):parse_post w (parseK bs) (.returned (ZR8 E)) (W.setCells w.heap.size 0 [.slice none 0 0,.string ⟨#[]⟩,.string ⟨#[]⟩,.slice none 0 0,.slice none 0 0]):=
 ⟨⟨clr0,by rw [hp];rfl,by rw [hp];rfl,cin0 _⟩,below_cells [.slice none 0 0,.string ⟨#[]⟩,.string ⟨#[]⟩,.slice none 0 0,.slice none 0 0] 0 fb (Nat.le_refl _)⟩
theorem res8 {W:World} {R:Nat} (rb:W.heap[R]?=some (.cells #[.slice none 0 0,.string ⟨#[]⟩,.string ⟨#[]⟩,.slice none 0 0,.slice none 0 0] 26 (0,0))) (tmps:Array Value) (hp:tmps.getD 2 undef=.pointer (some ⟨R,0,none⟩)):(results Tryz.f17 tmps).run Tryz.prog (W.setCells R 0 [.slice none 0 0,.string ⟨#[]⟩,.string ⟨#[]⟩,.slice none 0 0,.slice none 0 0])=.ok (.tuple #[.agg #[.slice none 0 0,.string ⟨#[]⟩,.string ⟨#[]⟩,.slice none 0 0,.slice none 0 0],tmps.getD 3 undef]) (W.setCells R 0 [.slice none 0 0,.string ⟨#[]⟩,.string ⟨#[]⟩,.slice none 0 0,.slice none 0 0]):=
 kcls_results Tryz.results17 _ R _ rfl (bx_whole [.slice none 0 0,.string ⟨#[]⟩,.string ⟨#[]⟩,.slice none 0 0,.slice none 0 0] [.slice none 0 0,.string ⟨#[]⟩,.string ⟨#[]⟩,.slice none 0 0,.slice none 0 0] rb rfl) tmps hp
theorem read_none8 {bs:List UInt8} (h:bs.length<8):parseK bs=(cl0,80):=parse_no (by omega) fun c hc=>by
 unfold readK at hc;rw [if_pos h] at hc;cases hc
theorem read_noneP {bs:List UInt8} (hl:bs.length≤32768) (h:(readP bs 8).2.1≠0):parseK bs=(cl0,80):=parse_no hl fun c hc=>by
 unfold readK at hc
 by_cases h8:bs.length<8
 · rw [if_pos h8] at hc
   cases hc
 · rw [if_neg h8,if_pos h] at hc
   cases hc
theorem gParse_any (J:JConstOk) (GP:GPrintOk) (w:World) (a:Option Addr) (n c:Nat) (bs:List UInt8) (h:Arg w a n c bs) (hn:n≤6000∨32768<n) (hnn:n≤140737488351232) :
 Calls Tryz.prog 17 #[.slice a n c] w (parse_post w (parseK bs)):=by
 have hbl:bs.length=n:=h.bs.1;obtain ⟨w0,e0,f0,r0⟩:∃w0,w.alloc (.cells #[.slice none 0 0,.string ⟨#[]⟩,.string ⟨#[]⟩,.slice none 0 0,.slice none 0 0] 26)=w0∧Below w.heap.size w w0∧w0.heap[w.heap.size]?=some (.cells #[.slice none 0 0,.string ⟨#[]⟩,.string ⟨#[]⟩,.slice none 0 0,.slice none 0 0] 26 (0,0)):=⟨_,rfl,(Below.refl _ _).alloc (Nat.le_refl _) _,heap_alloc_new w _⟩;have hs0:w0.heap.size=w.heap.size+1:=by rw [←e0];simp
 obtain ⟨PO,hPO⟩:∃PO,PO=parse_post w (parseK bs):=⟨_,rfl⟩;rw [←hPO];have HPO:=hide hPO;clear hPO
 by_cases hlong:32768<n
 · have hlong':(32768:Int)<(n:Int):=by omega
   have H0:=hide (And.intro f0 r0);clear h f0 hn;go_enter Tryz.func17,Tryz.ntmps17;have HP9:Hid (parseK bs=(cl0,3)):=hide (by unfold parseK;rw [if_pos (by omega)]);obtain ⟨⟨q0_,q1_,q2_,q3_,q4_⟩,z0_,z1_,z2_,z3_,z4_⟩:=zbox8 ((unhide H0).2);have HR9:=hide (And.intro ((unhide H0).1) ((unhide H0).2));go_wp2_with fail;refine bodyPost_ret (v:=ZR8 3) ?_ rfl (by rw [unhide HPO];exact refuse8 (unhide HP9) (unhide HR9).1);exact res8 (unhide HR9).2 _ rfl
 · have hlong':¬(32768:Int)<(n:Int):=by omega
   have hn6:n≤6000:=by omega
   obtain ⟨X,hX⟩:∃X,X=w0.heap.size:=⟨_,rfl⟩;have hXw:X=w.heap.size+1:=by omega
   obtain ⟨w1,e1,f1,r1⟩:∃w1,w0.alloc (.cells #[.slice a n c,.int .i64 0,.slice none 0 0,.bool false] 81)=w1∧Below w0.heap.size w0 w1∧w1.heap[X]?=some (.cells #[.slice a n c,.int .i64 0,.slice none 0 0,.bool false] 81 (0,0)):=⟨_,rfl,(Below.refl _ _).alloc (Nat.le_refl _) _,by rw [hX];exact heap_alloc_new w0 _⟩;have hA1:Arg w1 a n c bs:=(h.below f0).below f1;have hfar:=arg_far h (X:=X) (by omega);have G1:Gd ⟨X,X,a,n,c,bs,⟨none,0,0⟩,[]⟩ 0 false w1:=⟨Nat.le_refl _,r1,Nat.zero_le _,hA1,hfar,World.ownsRow_nil _ _ _ _,by show n≤_;omega,Nat.zero_le _,⟨(fun x hx=>by cases hx),(fun x hx=>by cases hx)⟩⟩;have f01:Below w.heap.size w w1:=f0.trans (f1.mono f0.size);have r01:=(f1.block _ (lt_of_heap r0)).trans r0;have HN:Hid (Calls Tryz.prog 39 #[.pointer (some ⟨X,0,none⟩),.int .i64 8] w1 (gu_post ⟨X,X,a,n,c,bs,⟨none,0,0⟩,[]⟩ 8 0 false w1)):=hide (gru_any ⟨X,X,a,n,c,bs,⟨none,0,0⟩,[]⟩ 0 false w1 G1 8 (by omega));have HFA:=hide hfar;have H1:=hide (And.intro f01 r01);clear h f0 r0 f1 r1 hA1 hfar G1 f01 r01 hn;go_enter Tryz.func17,Tryz.ntmps17;go_upto_region 4 with fail
   try rw [e1]
   rw [←hXw];have hlX:w.heap.size<X:=by omega
   clear e1 e0 hX hs0 hXw;go_wp2_with fail;refine (unhide HN).mono ?_;rintro e w2 ⟨n1,j1,e1,rfl,_,_,hm1,hk1,G2,F2⟩;have r2:=(F2.2.block _ hlX).trans (unhide H1).2;have f2:Below w.heap.size w w2:=(unhide H1).1.trans (F2.2.mono (Nat.le_of_lt hlX));clear HN hm1 hk1 F2
   by_cases h8:n<8
   · have h8':(n:Int)<8:=by omega
     clear G2;have HP9:Hid (parseK bs=(cl0,80)):=hide (read_none8 (by omega));obtain ⟨⟨q0_,q1_,q2_,q3_,q4_⟩,z0_,z1_,z2_,z3_,z4_⟩:=zbox8 (r2);have HR9:=hide (And.intro (f2) (r2));go_wp2_with fail;refine bodyPost_ret (v:=ZR8 80) ?_ rfl (by rw [unhide HPO];exact refuse8 (unhide HP9) (unhide HR9).1);exact res8 (unhide HR9).2 _ rfl
   · have h8':¬(n:Int)<8:=by omega
     have x1:w2.cell? ⟨X,1,none⟩=some (.int .i64 (j1:Int)):=bx_cell G2.blk 1 _ rfl;have x3:w2.cell? ⟨X,3,none⟩=some (.bool e1):=bx_cell G2.blk 3 _ rfl;have y1:=bx_thaw G2.blk 1;have y3:=bx_thaw G2.blk 3;have b3:=heap_setCell_same _ X 1 _ _ (.int .i64 8) (heap_setCell_same w2 X 3 _ _ (.bool false) G2.blk);have k3:Kx X w2 ((w2.setCell ⟨X,3,none⟩ (.bool false)).setCell ⟨X,1,none⟩ (.int .i64 8)):=fun q hq hz=>(Below.heap_setCell _ _ _ _ hz).trans (Below.heap_setCell _ _ _ _ hz)
     have G3:Gd ⟨X,X,a,n,c,bs,⟨none,0,0⟩,[]⟩ 8 false ((w2.setCell ⟨X,3,none⟩ (.bool false)).setCell ⟨X,1,none⟩ (.int .i64 8)):=G2.step k3 b3 (by show 8≤n;omega);have f3:Below X w2 ((w2.setCell ⟨X,3,none⟩ (.bool false)).setCell ⟨X,1,none⟩ (.int .i64 8)):=((Below.refl _ _).setCell (p:=⟨X,3,none⟩) (Nat.le_refl _) _).setCell (p:=⟨X,1,none⟩) (Nat.le_refl _) _;obtain ⟨w3,hw3⟩:∃w3,w3=(w2.setCell ⟨X,3,none⟩ (.bool false)).setCell ⟨X,1,none⟩ (.int .i64 8):=⟨_,rfl⟩;rw [←hw3] at G3 f3;have r3:=(f3.block _ hlX).trans r2;have f03:Below w.heap.size w w3:=f2.trans (f3.mono (Nat.le_of_lt hlX));have HJ:=hide (jRead_anyE (ex0:=.slice none 0 0) (ex1:=.bool false) w3 X a n c 8 bs G3.arg (by omega) (by omega) G3.blk (unhide HFA));have hpl:=readP_at_le (bs:=bs) (i:=8) (by omega);have hld:=readP_leads (bs:=bs) (i:=8);have hpf:=readP_fit8 (bs:=bs) (i:=8) (by omega);have hnp:=read_noneP (bs:=bs) (by omega);have hrk:(readP bs 8).2.1=0→readK bs=(restR (readP bs 8).1 (bs.drop (readP bs 8).2.2)).map Prod.fst:=fun h=>by
      unfold readK;rw [if_neg (by omega),if_neg (by simpa using h)]
     generalize readP bs 8=T at *;obtain ⟨l,er,i0⟩:=T;simp only at HJ hpl hld hpf hnp hrk;have HW3:=hide hw3;have H3:=hide (And.intro r3 (And.intro f03 G3));have HL:=hide (And.intro hpl (And.intro hld (And.intro hpf (And.intro hnp hrk))));clear G2 b3 k3 G3 f3 hw3 r2 f2 r3 f03 hpl hld hpf hnp hrk H1;go_upto_region 8 with fail
     rw [←unhide HW3];clear x1 x3 y1 y3 HW3;go_wp2_with fail;refine (unhide HJ).mono ?_;rintro e w4 ⟨v,rfl,o4,E4⟩;obtain ⟨r3,f03,G3⟩:=unhide H3;have f4:Below X w3 w4:=E4.bel;have r4:=(f4.block _ hlX).trans r3;have f04:Below w.heap.size w w4:=f03.trans (f4.mono (Nat.le_of_lt hlX))
     by_cases he:er=0
     case neg=>
      have he':(er != 0)=true:=by simpa using he
      clear HJ o4 E4 G3 f4;have HP9:Hid (parseK bs=(cl0,80)):=hide ((unhide HL).2.2.2.1 he);obtain ⟨⟨q0_,q1_,q2_,q3_,q4_⟩,z0_,z1_,z2_,z3_,z4_⟩:=zbox8 (r4);have HR9:=hide (And.intro (f04) (r4));go_wp2_with fail;refine bodyPost_ret (v:=ZR8 80) ?_ rfl (by rw [unhide HPO];exact refuse8 (unhide HP9) (unhide HR9).1);exact res8 (unhide HR9).2 _ rfl
     subst he;obtain ⟨pa,pc,rfl⟩:=own5_form o4;have hck:checkP l=true:=(unhide HL).2.1 rfl;have hlen:l.length≤1024:=(checkP_cl hck).1;have hX3:X+1≤w3.heap.size:=G3.X_lt;have b5:=heap_setCell_same w4 X 2 _ _ (.slice pa l.length pc) E4.blk;have x2:w4.cell? ⟨X,2,none⟩=some (.slice none 0 0):=bx_cell E4.blk 2 _ rfl;have y2:=bx_thaw E4.blk 2;have f5:Below X w4 (w4.setCell ⟨X,2,none⟩ (.slice pa l.length pc)):=(Below.refl _ _).setCell (p:=⟨X,2,none⟩) (Nat.le_refl _) _;have hA5:Arg (w4.setCell ⟨X,2,none⟩ (.slice pa l.length pc)) a n c bs:=G3.arg.blocks (unhide HFA) fun q hq hz=>(Below.heap_setCell _ _ _ _ hz).trans (E4.oth q hq hz)
     have o5:(w4.setCell ⟨X,2,none⟩ (.slice pa l.length pc)).ownsRow (X+1) 55 5 (.slice pa l.length pc) l.length (ev l):=own_mono8 (own_of_block o4 fun q hq=>Below.heap_setCell w4 ⟨X,2,none⟩ (.slice pa l.length pc) q (by have:=(o4.lt q hq).1;show q≠X;omega)) hX3;obtain ⟨w5,hw5⟩:∃w5,w5=w4.setCell ⟨X,2,none⟩ (.slice pa l.length pc):=⟨_,rfl⟩;rw [←hw5] at b5 f5 hA5 o5;have r5:=(f5.block _ hlX).trans r4;have f05:Below w.heap.size w w5:=f04.trans (f5.mono (Nat.le_of_lt hlX));obtain ⟨C,hC⟩:∃C:Gc,C=⟨X,X,a,n,c,bs,⟨pa,l.length,pc⟩,l⟩:=⟨_,rfl⟩;have hCX:C.X=X:=by rw [hC]
     have hCB:C.B=X:=by rw [hC]
     have hCl:C.l=l:=by rw [hC]
     have hCb:C.bs=bs:=by rw [hC]
     have hCn:C.n=n:=by rw [hC]
     have hCp:C.p.v=.slice pa l.length pc:=by rw [hC];rfl
     have HAC:Hid (C.a=a∧C.n=n∧C.c=c):=hide (by rw [hC];exact ⟨rfl,rfl,rfl⟩);have G5:Gd C i0 false w5:=by
      rw [hC];exact ⟨Nat.le_refl _,b5,by show i0≤n;have:=(unhide HL).1;omega,hA5,unhide HFA,o5,by show n≤_;omega,hlen,(unhide HL).2.2.1⟩
     have hszX:X<w5.heap.size:=by rw [←hCX];exact G5.X_lt
     have b6:Below w5.heap.size w5 (w5.alloc (.cells #[.slice pa l.length pc,.string ⟨#[]⟩,.string ⟨#[]⟩,.slice none 0 0,.slice none 0 0] 26)):=(Below.refl _ _).alloc (Nat.le_refl _) _;have G6:=G5.below b6;have F6:GF C.X C.B w5 _:=GF.of_below b6 G5.hB;have S6:KC C w5 w5.heap.size [] [] ⟨none,0,0⟩ [] ⟨none,0,0⟩ [] i0 false (w5.alloc (.cells #[.slice pa l.length pc,.string ⟨#[]⟩,.string ⟨#[]⟩,.slice none 0 0,.slice none 0 0] 26)):=⟨Nat.le_refl _,by rw [hCp];exact heap_alloc_new w5 _,Orw.nil _ _ _ _ _,Orw.nil _ _ _ _ _,(fun x hx=>by cases hx),G6,F6⟩;obtain ⟨w6,hw6⟩:∃w6,w6=w5.alloc (.cells #[.slice pa l.length pc,.string ⟨#[]⟩,.string ⟨#[]⟩,.slice none 0 0,.slice none 0 0] 26):=⟨_,rfl⟩;rw [←hw6] at S6;obtain ⟨A,hA⟩:∃A,A=w5.heap.size:=⟨_,rfl⟩;rw [←hA] at S6;have HAS:Hid (w.heap.size<A):=hide (by rw [hA];omega);have hA4:w4.heap.size=A:=by rw [hA,hw5];simp
     have HA4:=hide hA4;clear hA4;have H5:=hide (And.intro r5 (And.intro f05 G5));have HS6:=hide S6;have HW5:=hide hw5;have HW6:=hide hw6;have HA:=hide hA;have HRK:=hide ((unhide HL).2.2.2.2 rfl);have HFI:=hide (unhide HL).2.2.1;have HCC:=hide (And.intro hCX (And.intro hCB (And.intro hCl (And.intro hCb (And.intro hCn hCp)))));have HU:Hid (∀W j ej (k:Nat),Gd C j ej W→(k=1∨k=2∨k=4)→Calls Tryz.prog 39 #[.pointer (some ⟨X,0,none⟩),.int .i64 (k:Int)] W (gu_post C k j ej W)):=hide fun W j ej k g hk=>by
      have:=gru_any C j ej W g k (by omega);rw [hCX] at this;exact this
     have hckC:checkP C.l=true:=by rw [hCl];exact hck
     have HUt:Hid (∀W j ej,Gd C j ej W→Calls Tryz.prog 42 #[.pointer (some ⟨X,0,none⟩)] W (gt_post C 2 (utfR C.l) j ej W)):=hide fun W j ej g=>by
      have:=grutf_any C hckC j ej W g;rw [hCX] at this;exact this
     have HCl:Hid (∀W j ej (n:Int),Gd C j ej W→0≤n∧n≤9223372036854775807→Calls Tryz.prog 41 #[.pointer (some ⟨X,0,none⟩),.int .i64 n] W (gc_post C n j ej W)):=hide fun W j ej n g hn=>by
      have:=grclass_any J C hckC j ej W g n hn;rw [hCX] at this;exact this
     have HCo:Hid (∀W j ej,Gd C j ej W→Calls Tryz.prog 43 #[.pointer (some ⟨X,0,none⟩)] W (gcode_post C j ej W)):=hide fun W j ej g=>by
      have:=grcode_any J C hckC j ej W g (by rw [hCn];omega);rw [hCX] at this;exact this
     have HJN:Hid (∀j ej W,Gd C j ej W→j≤n):=hide fun j ej W g=>by have:=g.hi;omega
     clear HJ o4 E4 G3 f4 r4 f04 f03 r3 b5 f5 hA5 o5 r5 f05 G5 b6 G6 F6 S6 hw5 hw6 hA hck hckC hCX hCB hCl hCb hCn hCp HL H3 hC;go_upto_region 13 with fail
     rw [←unhide HW5,←unhide HW6,unhide HA4];clear x2 y2 HW5 HW6;have HN:=hide (unhide HU w6 i0 false 2 (unhide HS6).gd (.inr (.inl rfl)));go_wp2_with fail;refine (unhide HN).mono ?_;rintro e w7 ⟨n7,j7,e7,rfl,hn_,hg_,hm_,hk_,GN,FN⟩;have gN:=(hg_ (by decide)).2.2;have sN:=hg_ (by decide);have mN:Mv 2 i0 false j7 e7:=⟨hm_.1,fun e=>by rw [hm_.2.1 e];exact Nat.le_refl _,hk_⟩;clear HN hg_ hm_ hk_;have HS7:=hide (And.intro gN (And.intro mN ((unhide HS6).call (unhide H5).2.2 GN FN)));clear hn_ sN gN mN GN FN HS6;have HN:=hide (unhide HU w7 j7 e7 2 (unhide HS7).2.2.gd (.inr (.inl rfl)));go_wp2_with fail;refine (unhide HN).mono ?_;rintro e w8 ⟨n8,j8,e8,rfl,hn_,hg_,hm_,hk_,GN,FN⟩;have gN:=(hg_ (by decide)).2.2;have sN:=hg_ (by decide);have mN:Mv 2 j7 e7 j8 e8:=⟨hm_.1,fun e=>by rw [hm_.2.1 e];exact Nat.le_refl _,hk_⟩;clear HN hg_ hm_ hk_;have HS8:=hide (And.intro gN (And.intro mN ((unhide HS7).2.2.call (unhide H5).2.2 GN FN)));have HN:=hide (unhide HCl w8 j8 e8 n8 GN hn_);clear hn_ sN gN mN GN FN;go_wp2_with fail;refine (unhide HN).mono ?_;rintro e w9 ⟨nm,e9,rfl,tn,cn,bn,G9,F9⟩;clear HN;have S9:=(unhide HS8).2.2.call (unhide H5).2.2 G9 F9;have cA:w9.cell? ⟨A,1,none⟩=some (.string ⟨#[]⟩):=bx_cell S9.cb 1 _ rfl;have zA:=bx_thaw S9.cb 1;have S10:=S9.put (unhide H5).2.2 1 (.string ⟨nm.toArray⟩) nm [] rfl;obtain ⟨w10,hw10⟩:∃w10,w10=w9.setCell ⟨A,1,none⟩ (.string ⟨nm.toArray⟩):=⟨_,rfl⟩;rw [←hw10] at S10;have HW10:=hide hw10;have gnm:=got_name (l:=C.l) (unhide HS8).1 (fun v0 h1 h2=>cn v0 h1 h2) bn;have HS10:=hide (And.intro gnm (And.intro tn (And.intro bn S10)));clear tn cn bn G9 F9 S9 S10 hw10 gnm;go_upto_region 15 with fail
     rw [←unhide HW10];clear cA zA HW10;have HN:=hide (unhide HU w10 j8 e9 2 (unhide HS10).2.2.2.gd (.inr (.inl rfl)));go_wp2_with fail;refine (unhide HN).mono ?_;rintro e w11 ⟨n11,j11,e11,rfl,hn_,hg_,hm_,hk_,GN,FN⟩;have gN:=(hg_ (by decide)).2.2;have sN:=hg_ (by decide);have mN:Mv 2 j8 e9 j11 e11:=⟨hm_.1,fun e=>by rw [hm_.2.1 e];exact Nat.le_refl _,hk_⟩;clear HN hg_ hm_ hk_;have HS11:=hide (And.intro hn_ (And.intro gN (And.intro mN ((unhide HS10).2.2.2.call (unhide H5).2.2 GN FN))));clear hn_ sN gN mN GN FN
     go_upto_if 62 with fail
     go_cut [] from 15 (fun wr=>∃(sp:List UInt8) (ej:Bool),Got (superR C.l) C.bs j8 e9 sp j11 ej∧Txt8 C.l sp∧(e11=true→ej=true)∧KC C w5 A nm sp ⟨none,0,0⟩ [] ⟨none,0,0⟩ [] j11 ej wr)
     case first=>
      by_cases hp:0<n11
      · have HN:=hide (unhide HCl w11 j11 e11 n11 (unhide HS11).2.2.2.gd (unhide HS11).1)
        have HP:=hide hp;go_wp2_with fail;refine (unhide HN).mono ?_;rintro e w12 ⟨sp,e12,rfl,tn,cn,bn,G12,F12⟩;clear HN;have S12:=(unhide HS11).2.2.2.call (unhide H5).2.2 G12 F12;have cA:w12.cell? ⟨A,2,none⟩=some (.string ⟨#[]⟩):=bx_cell S12.cb 2 _ rfl;have zA:=bx_thaw S12.cb 2;have S13:=S12.put (unhide H5).2.2 2 (.string ⟨sp.toArray⟩) nm sp rfl;have HZ:=hide (And.intro (got_sup1 (l:=C.l) (unhide HS11).2.1 (by have:=unhide HP;omega) (fun v0 h1 h2=>cn v0 h1 h2) bn) (And.intro tn (And.intro bn S13)));clear tn cn bn G12 F12 S12 S13;go_wp2;go_meet;exact ⟨sp,e12,unhide HZ⟩
      · have HP:=hide hp
        go_wp2;go_meet;exact ⟨[],e11,got_sup0 (l:=C.l) (unhide HS11).2.1 (by have:=unhide HP;omega),.inl rfl,fun h=>h,(unhide HS11).2.2.2⟩
     case rest=>
     obtain ⟨sp,es,gsp,tsp,bsp,Ss⟩:=hcut;have HSS:=hide (And.intro gsp (And.intro tsp (And.intro bsp Ss)));clear gsp tsp bsp Ss;have HN:=hide (unhide HU wc j11 es 2 (unhide HSS).2.2.2.gd (.inr (.inl rfl)));go_wp2_with fail;refine (unhide HN).mono ?_;rintro e w12 ⟨n12,j12,e12,rfl,hn_,hg_,hm_,hk_,GN,FN⟩;have gN:=(hg_ (by decide)).2.2;have sN:=hg_ (by decide);have mN:Mv 2 j11 es j12 e12:=⟨hm_.1,fun e=>by rw [hm_.2.1 e];exact Nat.le_refl _,hk_⟩;clear HN hg_ hm_ hk_;have HS12:=hide (And.intro gN (And.intro mN ((unhide HSS).2.2.2.call (unhide H5).2.2 GN FN)));clear hn_ sN gN mN GN FN;have HN:=hide (unhide HU w12 j12 e12 2 (unhide HS12).2.2.gd (.inr (.inl rfl)));go_wp2_with fail;refine (unhide HN).mono ?_;rintro e w13 ⟨n13,j13,e13,rfl,hn_,hg_,hm_,hk_,GN,FN⟩;have gN:=(hg_ (by decide)).2.2;have sN:=hg_ (by decide);have mN:Mv 2 j12 e12 j13 e13:=⟨hm_.1,fun e=>by rw [hm_.2.1 e];exact Nat.le_refl _,hk_⟩;clear HN hg_ hm_ hk_;obtain ⟨N,rfl⟩:∃N:Nat,n13=N:=⟨n13.toNat,by omega⟩;have hN:N≤65535:=by
      have h9:((256^2:Nat):Int)=65536:=by decide +kernel
      have:=sN.1;omega
     have HS13:=hide (And.intro gN (And.intro mN ((unhide HS12).2.2.call (unhide H5).2.2 GN FN)));clear hn_ sN gN mN GN FN
     go_upto_block 0 with fail
     go_cut [] from 15 (fun wr=>∃(f:Sl) (fs:List Fd) (j:Nat) (ej:Bool),Got (listR (fieldR C.l)) C.bs j12 e12 fs j ej∧(∀x∈fs,fitI x.acc∧Txt8 C.l x.name∧Txt8 C.l x.type)∧fs.length≤(j-j12)+(if ej=true then 1 else 0)∧Mv 2 j12 e12 j ej∧KC C w5 A nm sp f fs ⟨none,0,0⟩ [] j ej wr)
     case first=>
      have HS0:=hide (unhide HS13).2.2;go_wp2
      go_loopw [9] (fun vn wr=>∃(f:Sl) (fs:List Fd) (j:Nat) (ej:Bool),vn=.int .i64 ((N-fs.length:Nat):Int)∧fs.length≤N∧Mid (fieldR C.l) C.bs N e13 (C.bs.drop j13) fs j ej∧(∀x∈fs,fitI x.acc∧Txt8 C.l x.name∧Txt8 C.l x.type)∧fs.length≤(j-j13)+(if ej=true then 1 else 0)∧Mv 0 j13 e13 j ej∧KC C w5 A nm sp f fs ⟨none,0,0⟩ [] j ej wr) (fun vn _=>(intOf vn).toNat)
      case atStart=>exact ⟨⟨none,0,0⟩,[],j13,e13,rfl,Nat.zero_le _,⟨fun e=>e,fun e vs r hr=>⟨e,vs,rfl,hr⟩⟩,(fun x hx=>by cases hx),Nat.zero_le _,Mv.refl _ _,unhide HS0⟩
      case round=>
       clear HS0;obtain ⟨f,fs,j,ej,rfl,hle,hM,hF,hL,hV,S⟩:=hrel;obtain ⟨M,hMM⟩:∃M,N-fs.length=M:=⟨_,rfl⟩;rw [hMM];have HI:=hide (And.intro hle (And.intro hM (And.intro hF (And.intro hL (And.intro hV S)))));have d3:wr.cell? ⟨X,3,none⟩=some (.bool ej):=by rw [←(unhide HCC).1];exact bx_cell S.gd.blk 3 _ rfl
       have KE:Hid ((M=0∨ej=true)→∃(f:Sl) (fs:List Fd) (j:Nat) (ej:Bool),Got (listR (fieldR C.l)) C.bs j12 e12 fs j ej∧(∀x∈fs,fitI x.acc∧Txt8 C.l x.name∧Txt8 C.l x.type)∧fs.length≤(j-j12)+(if ej=true then 1 else 0)∧Mv 2 j12 e12 j ej∧KC C w5 A nm sp f fs ⟨none,0,0⟩ [] j ej wr):=hide fun hx=>by
        obtain ⟨g5,m5,_⟩:=unhide HS13;exact ⟨f,fs,j,ej,Mid.done g5 rfl hM (hx.imp (fun h=>by omega) id),hF,by have:=m5.le;have:=hV.le;omega,m5.trans hV,S⟩
       clear hM hF hL hV S
       by_cases hm0:M=0
       · subst hm0
         go_wp2;go_meet;exact unhide KE (.inl (by first | rfl | trivial))
       · obtain ⟨m,rfl⟩:∃k,M=k+1:=⟨M-1,by omega⟩
         have hm1:(0:Int)<((m+1:Nat):Int):=by omega
         clear hm0;have HMM:=hide hMM;clear hMM;cases ej with
         | true=>
          go_wp2;go_meet;exact unhide KE (.inr (by first | rfl | trivial))
         | false=>
          have S:=(unhide HI).2.2.2.2.2;have HN:=hide (unhide HU wr j false 2 S.gd (.inr (.inl rfl)));clear S KE;go_wp2_with fail;refine (unhide HN).mono ?_;rintro e wa ⟨a1,k1,f1,rfl,hn_,hg_,hm_,hk_,GN,FN⟩;have gN:=(hg_ (by decide)).2.2;have sN:=hg_ (by decide);have mN:Mv 2 j false k1 f1:=⟨hm_.1,fun e=>by rw [hm_.2.1 e];exact Nat.le_refl _,hk_⟩;clear HN hg_ hm_ hk_;have F02:=(unhide HI).2.2.2.2.2.gf.trans FN;have hz2:=FN.size;have b3:Below wa.heap.size wa (wa.alloc (.cells #[.int .i64 a1,.string ⟨#[]⟩,.string ⟨#[]⟩] 58)):=(Below.refl _ _).alloc (Nat.le_refl _) _;have q3:=heap_alloc_new wa (.cells #[.int .i64 a1,.string ⟨#[]⟩,.string ⟨#[]⟩] 58);have G3:=GN.below b3;have F3:GF C.X C.B w5 _:=F02.trans (GF.of_below b3 GN.hB);have K3:Kx C.X wr _:=FN.1.trans FN.size (Kx.of_below b3);have hz:w5.heap.size≤wa.heap.size:=F02.size;have hzr:wr.heap.size≤wa.heap.size:=hz2;have H1:=hide (And.intro hn_ (And.intro sN.2.1 (And.intro gN mN)));clear hn_ sN gN mN GN FN F02 hz2 b3;generalize hHb:wa.heap.size=Hb at *;obtain ⟨wb,hwb⟩:∃wb,wb=wa.alloc (.cells #[.int .i64 a1,.string ⟨#[]⟩,.string ⟨#[]⟩] 58):=⟨_,rfl⟩;rw [←hwb] at q3 G3 F3 K3;have HWB:=hide hwb;have HQ3:=hide (And.intro q3 (And.intro G3 (And.intro F3 K3)));clear hwb q3 G3 F3 K3;go_upto_region 23 with fail
          rw [←unhide HWB];clear hHb;clear d3;have G_:=(unhide HQ3).2.1;have HN:=hide (unhide HUt wb k1 f1 G_);clear G_;go_wp2_with fail;refine (unhide HN).mono ?_;rintro e w9_ ⟨s2,k2,f2,rfl,tN,gN,mN,GN,FN⟩;clear HN;have q_:=(unhide HQ3).2.1.keep FN (unhide HQ3).1 (by decide);have F_:=(unhide HQ3).2.2.1.trans FN;have K_:=(unhide HQ3).2.2.2.trans (Nat.le_trans hzr (by have:=lt_of_heap (unhide HQ3).1;omega)) FN.1;obtain ⟨Gs,Fs⟩:=((unhide H5).2.2).put GN F_ (H:=Hb) hz 1 (.string ⟨s2.toArray⟩);have Ks_:=Kx.set K_ hzr 1 (.string ⟨s2.toArray⟩);have qs:=heap_setCell_same w9_ Hb 1 _ _ (.string ⟨s2.toArray⟩) q_;have c_:w9_.cell? ⟨Hb,1,none⟩=some (.string ⟨#[]⟩):=bx_cell q_ 1 _ rfl;have z_:=bx_thaw q_ 1;have H2:=hide (And.intro tN (And.intro gN mN));obtain ⟨wc_,hw_⟩:∃W',W'=w9_.setCell ⟨Hb,1,none⟩ (.string ⟨s2.toArray⟩):=⟨_,rfl⟩;rw [←hw_] at qs Gs Fs Ks_;have HW_:=hide hw_;have HQ5:=hide (And.intro qs (And.intro Gs (And.intro Fs Ks_)));clear tN gN mN GN FN q_ F_ K_ Gs Fs Ks_ qs hw_ HQ3;go_upto_region 24 with fail
          rw [←unhide HW_];clear c_ z_ HW_;have G_:=(unhide HQ5).2.1;have HN:=hide (unhide HUt wc_ k2 f2 G_);clear G_;go_wp2_with fail;refine (unhide HN).mono ?_;rintro e wd_ ⟨s3,k3,f3,rfl,tN,gN,mN,GN,FN⟩;clear HN;have q_:=(unhide HQ5).2.1.keep FN (unhide HQ5).1 (by decide);have F_:=(unhide HQ5).2.2.1.trans FN;have K_:=(unhide HQ5).2.2.2.trans (Nat.le_trans hzr (by have:=lt_of_heap (unhide HQ5).1;omega)) FN.1;obtain ⟨Gs,Fs⟩:=((unhide H5).2.2).put GN F_ (H:=Hb) hz 2 (.string ⟨s3.toArray⟩);have Ks_:=Kx.set K_ hzr 2 (.string ⟨s3.toArray⟩);have qs:=heap_setCell_same wd_ Hb 2 _ _ (.string ⟨s3.toArray⟩) q_;have c_:wd_.cell? ⟨Hb,2,none⟩=some (.string ⟨#[]⟩):=bx_cell q_ 2 _ rfl;have z_:=bx_thaw q_ 2;have H3:=hide (And.intro tN (And.intro gN mN));obtain ⟨we_,hw_⟩:∃W',W'=wd_.setCell ⟨Hb,2,none⟩ (.string ⟨s3.toArray⟩):=⟨_,rfl⟩;rw [←hw_] at qs Gs Fs Ks_;have HW_:=hide hw_;have HQ7:=hide (And.intro qs (And.intro Gs (And.intro Fs Ks_)));clear tN gN mN GN FN q_ F_ K_ Gs Fs Ks_ qs hw_ HQ5;go_upto_region 25 with fail
          rw [←unhide HW_];clear c_ z_ HW_;have G_:=(unhide HQ7).2.1;have HN:=hide (unhide HU we_ k3 f3 2 G_ (.inr (.inl rfl)));clear G_;go_wp2_with fail;refine (unhide HN).mono ?_;rintro e wf_ ⟨z4,k4,f4,rfl,hn_,hg_,hm_,hk_,GN,FN⟩;have gN:=(hg_ (by decide)).2.2;have sN:=hg_ (by decide);have mN:Mv 2 k3 f3 k4 f4:=⟨hm_.1,fun e=>by rw [hm_.2.1 e];exact Nat.le_refl _,hk_⟩;clear HN hg_ hm_ hk_;have q9:=(unhide HQ7).2.1.keep FN (unhide HQ7).1 (by decide);have F9:=(unhide HQ7).2.2.1.trans FN;have K9:=(unhide HQ7).2.2.2.trans (Nat.le_trans hzr (by have:=lt_of_heap (unhide HQ7).1;omega)) FN.1;have G9:=GN;have H4:=hide (And.intro gN mN);clear hn_ sN gN mN GN FN HQ7;simp only [List.setIfInBounds_toArray,List.set_cons_succ,List.set_cons_zero] at q9;have S9:=KC.kx (unhide H5).2.2 (unhide HI).2.2.2.2.2 G9 F9 K9;have hsl:fs.length≤100000:=by have:=(unhide HI).1;omega
          obtain ⟨o3,l3,s1_,s2_,s3_,hx⟩:=KC.pushF (unhide H5).2.2 S9 (⟨a1,s2,s3⟩:Fd) hsl #[.int .i64 a1,.string ⟨s2.toArray⟩,.string ⟨s3.toArray⟩] rfl;have cA:wf_.cell? ⟨A,3,none⟩=some f.v:=bx_cell S9.cb 3 _ rfl;have y0:wf_.cell? ⟨Hb,0,none⟩=some (.int .i64 a1):=bx_cell q9 0 _ rfl;have y1:wf_.cell? ⟨Hb,1,none⟩=some (.string ⟨s2.toArray⟩):=bx_cell q9 1 _ rfl;have y2:wf_.cell? ⟨Hb,2,none⟩=some (.string ⟨s3.toArray⟩):=bx_cell q9 2 _ rfl;have HO:=hide o3;have HL_:=hide l3;have HSS_:=hide (And.intro s1_ (And.intro s2_ s3_));have HX_:=hide hx;have hgot:=got_fd (l:=C.l) (unhide H1).2.2.1 (unhide H2).2.1 (unhide H3).2.1 (unhide H4).1;have hmv:=(((unhide H1).2.2.2.trans (unhide H2).2.2).trans (unhide H3).2.2).trans (unhide H4).2;have hfit:fitI a1∧Txt8 C.l s2∧Txt8 C.l s3:=⟨by have:=(unhide H1).1;unfold fitI;omega,(unhide H2).1,(unhide H3).1⟩;have HGM:=hide (And.intro hgot (And.intro hmv hfit));clear o3 l3 s1_ s2_ s3_ hx q9 G9 F9 K9 S9 hgot hmv hfit H1 H2 H3 H4 HWB;obtain ⟨ha,hn,hc⟩:=f;unfold Sl.v at cA HX_ HO;simp only at cA HX_ HO
          go_wp2_with (first
           | (at_builtin;refine listR_append rkF rfl _ _ rfl w5.heap.size _ _ rfl (unhide HO) _ 1 1 [_] rfl (unhide HL_) (fun e=>by cases e) (unhide HSS_).1 (unhide HSS_).2.1 (unhide HSS_).2.2 ?_)
           | go_in)
          intro v4 wg o4 g4;obtain ⟨a4',c4',hv4,_⟩:=o4.form;subst hv4;have hln:(fs++[(⟨a1,s2,s3⟩:Fd)]).length=fs.length+1:=by simp
          obtain ⟨cb,S10⟩:=unhide HX_ ⟨a4',(fs++[(⟨a1,s2,s3⟩:Fd)]).length,c4'⟩ wg o4 g4
          try unfold Sl.v at cb S10
          try simp only at cb S10
          have cA':wg.cell? ⟨A,3,none⟩=some (.slice ha hn hc):=bx_cell cb 3 _ rfl;have zA':=bx_thaw cb 3;obtain ⟨hle,hM,hF,hL,hV,_⟩:=unhide HI;obtain ⟨hgot,hmv,hfit⟩:=unhide HGM;rw [hln] at S10
          have HZ:=hide (show ∃(f:Sl) (fs':List Fd) (j:Nat) (ej:Bool),m=N-fs'.length∧fs'.length≤N∧Mid (fieldR C.l) C.bs N e13 (C.bs.drop j13) fs' j ej∧(∀x∈fs',fitI x.acc∧Txt8 C.l x.name∧Txt8 C.l x.type)∧fs'.length≤(j-j13)+(if ej=true then 1 else 0)∧Mv 0 j13 e13 j ej∧KC C w5 A nm sp f fs' ⟨none,0,0⟩ [] j ej (wg.setCell ⟨A,3,none⟩ (.slice a4' (fs.length+1) c4')) from ⟨⟨a4',fs.length+1,c4'⟩,fs++[(⟨a1,s2,s3⟩:Fd)],k4,f4,by have:=unhide HMM;omega,by have:=unhide HMM;omega,hM.next (by have:=unhide HMM;omega) hgot,fun x hx=>by
           rcases List.mem_append.1 hx with hx | hx
           · exact hF x hx
           · simp at hx
             subst hx;exact hfit,by
           have h1:=hV.le;have h2:=hmv.le;rw [if_neg (by decide)] at hL;rw [hln];cases f4 with
           | true=>simp only [if_true];omega
           | false=>
            have:=hmv.by_ rfl;simp;omega,⟨Nat.le_trans hV.le hmv.le,fun e=>Nat.le_trans hV.le hmv.le,fun e=>by have:=(hV.bad e).1;cases this⟩,S10⟩)
          have hmb:m≤65535:=by have:=unhide HMM;omega
          clear o4 g4 cb S10 hle hM hF hL hV hgot hmv hfit hln HO HL_ HSS_ HX_ HGM;go_wp2;go_roundw
          case rel=>
           obtain ⟨f,fs',j,ej,hmm,hz⟩:=unhide HZ;exact ⟨f,fs',j,ej,by rw [←hmm],hz⟩
          case measure=>(simp [intOf] <;> omega)
     case rest=>
     obtain ⟨f,fs,j14,e14,gF,tF,lF,mF,SF⟩:=hcut;have HSF:=hide (And.intro gF (And.intro tF (And.intro lF (And.intro mF SF))));clear gF tF lF mF SF hN N HS13;have HN:=hide (unhide HU wc j14 e14 2 (unhide HSF).2.2.2.2.gd (.inr (.inl rfl)));go_wp2_with fail;refine (unhide HN).mono ?_;rintro e w15 ⟨n15,j15,e15,rfl,hn_,hg_,hm_,hk_,GN,FN⟩;have gN:=(hg_ (by decide)).2.2;have sN:=hg_ (by decide);have mN:Mv 2 j14 e14 j15 e15:=⟨hm_.1,fun e=>by rw [hm_.2.1 e];exact Nat.le_refl _,hk_⟩;clear HN hg_ hm_ hk_;obtain ⟨N,rfl⟩:∃N:Nat,n15=N:=⟨n15.toNat,by omega⟩;have hN:N≤65535:=by
      have h9:((256^2:Nat):Int)=65536:=by decide +kernel
      have:=sN.1;omega
     have HS15:=hide (And.intro gN (And.intro mN ((unhide HSF).2.2.2.2.call (unhide H5).2.2 GN FN)));clear hn_ sN gN mN GN FN
     go_upto_block 2 with fail
     go_cut [] from 15 (fun wr=>∃(m:Sl) (mr:List MdR) (j:Nat) (ej:Bool),Got (listR (methodR C.l)) C.bs j14 e14 (mr.map MdR.m) j ej∧mr.length+((mr.map MdR.m).map methN).sum≤2*(j-j14)+(if ej=true then 8 else 0)∧Mv 2 j14 e14 j ej∧KC C w5 A nm sp f fs m mr j ej wr)
     case first=>
      have HS0:=hide (unhide HS15).2.2;go_wp2
      go_loopw [11] (fun vn wr=>∃(m:Sl) (mr:List MdR) (j:Nat) (ej:Bool),vn=.int .i64 ((N-mr.length:Nat):Int)∧mr.length≤N∧Mid (methodR C.l) C.bs N e15 (C.bs.drop j15) (mr.map MdR.m) j ej∧True∧mr.length+((mr.map MdR.m).map methN).sum≤2*(j-j15)+(if ej=true then 8 else 0)∧Mv 0 j15 e15 j ej∧KC C w5 A nm sp f fs m mr j ej wr) (fun vn _=>(intOf vn).toNat)
      case atStart=>exact ⟨⟨none,0,0⟩,[],j15,e15,rfl,Nat.zero_le _,⟨fun e=>e,fun e vs r hr=>⟨e,vs,rfl,hr⟩⟩,trivial,Nat.zero_le _,Mv.refl _ _,unhide HS0⟩
      case round=>
       clear HS0;obtain ⟨m_,mr,j,ej,rfl,hle,hM,hF,hL,hV,S⟩:=hrel;obtain ⟨M,hMM⟩:∃M,N-mr.length=M:=⟨_,rfl⟩;rw [hMM];have HI:=hide (And.intro hle (And.intro hM (And.intro hF (And.intro hL (And.intro hV S)))));have d3:wr.cell? ⟨X,3,none⟩=some (.bool ej):=by rw [←(unhide HCC).1];exact bx_cell S.gd.blk 3 _ rfl
       have KE:Hid ((M=0∨ej=true)→∃(m:Sl) (mr:List MdR) (j:Nat) (ej:Bool),Got (listR (methodR C.l)) C.bs j14 e14 (mr.map MdR.m) j ej∧mr.length+((mr.map MdR.m).map methN).sum≤2*(j-j14)+(if ej=true then 8 else 0)∧Mv 2 j14 e14 j ej∧KC C w5 A nm sp f fs m mr j ej wr):=hide fun hx=>by
        obtain ⟨g5,m5,_⟩:=unhide HS15;exact ⟨m_,mr,j,ej,Mid.done g5 rfl hM (hx.imp (fun h=>by rw [List.length_map];omega) id),by have:=m5.le;have:=hV.le;omega,m5.trans hV,S⟩
       clear hM hF hL hV S
       by_cases hm0:M=0
       · subst hm0
         go_wp2;go_meet;exact unhide KE (.inl (by first | rfl | trivial))
       · obtain ⟨m,rfl⟩:∃k,M=k+1:=⟨M-1,by omega⟩
         have hm1:(0:Int)<((m+1:Nat):Int):=by omega
         clear hm0;have HMM:=hide hMM;clear hMM;cases ej with
         | true=>
          go_wp2;go_meet;exact unhide KE (.inr (by first | rfl | trivial))
         | false=>
          have S:=(unhide HI).2.2.2.2.2;have HN:=hide (unhide HU wr j false 2 S.gd (.inr (.inl rfl)));clear S KE;go_wp2_with fail;refine (unhide HN).mono ?_;rintro e wa ⟨a1,k1,f1,rfl,hn_,hg_,hm_,hk_,GN,FN⟩;have gN:=(hg_ (by decide)).2.2;have sN:=hg_ (by decide);have mN:Mv 2 j false k1 f1:=⟨hm_.1,fun e=>by rw [hm_.2.1 e];exact Nat.le_refl _,hk_⟩;clear HN hg_ hm_ hk_;have F02:=(unhide HI).2.2.2.2.2.gf.trans FN;have hz2:=FN.size;have b3:Below wa.heap.size wa (wa.alloc (.cells #[.int .i64 a1,.string ⟨#[]⟩,.string ⟨#[]⟩,.int .i64 0,.int .i64 0,.slice none 0 0,.slice none 0 0,.slice none 0 0] 49)):=(Below.refl _ _).alloc (Nat.le_refl _) _;have q3:=heap_alloc_new wa (.cells #[.int .i64 a1,.string ⟨#[]⟩,.string ⟨#[]⟩,.int .i64 0,.int .i64 0,.slice none 0 0,.slice none 0 0,.slice none 0 0] 49);have G3:=GN.below b3;have F3:GF C.X C.B w5 _:=F02.trans (GF.of_below b3 GN.hB);have K3:Kx C.X wr _:=FN.1.trans FN.size (Kx.of_below b3);have hz:w5.heap.size≤wa.heap.size:=F02.size;have hzr:wr.heap.size≤wa.heap.size:=hz2;have H1:=hide (And.intro hn_ (And.intro sN.2.1 (And.intro gN mN)));clear hn_ sN gN mN GN FN F02 hz2 b3;generalize hHb:wa.heap.size=Hb at *;obtain ⟨wb,hwb⟩:∃wb,wb=wa.alloc (.cells #[.int .i64 a1,.string ⟨#[]⟩,.string ⟨#[]⟩,.int .i64 0,.int .i64 0,.slice none 0 0,.slice none 0 0,.slice none 0 0] 49):=⟨_,rfl⟩;rw [←hwb] at q3 G3 F3 K3;have HWB:=hide hwb;have HQ3:=hide (And.intro q3 (And.intro G3 (And.intro F3 K3)));clear hwb q3 G3 F3 K3;go_upto_region 31 with fail
          rw [←unhide HWB];clear hHb;clear d3;have G_:=(unhide HQ3).2.1;have HN:=hide (unhide HUt wb k1 f1 G_);clear G_;go_wp2_with fail;refine (unhide HN).mono ?_;rintro e w9_ ⟨s2,k2,f2,rfl,tN,gN,mN,GN,FN⟩;clear HN;have q_:=(unhide HQ3).2.1.keep FN (unhide HQ3).1 (by decide);have F_:=(unhide HQ3).2.2.1.trans FN;have K_:=(unhide HQ3).2.2.2.trans (Nat.le_trans hzr (by have:=lt_of_heap (unhide HQ3).1;omega)) FN.1;obtain ⟨Gs,Fs⟩:=((unhide H5).2.2).put GN F_ (H:=Hb) hz 1 (.string ⟨s2.toArray⟩);have Ks_:=Kx.set K_ hzr 1 (.string ⟨s2.toArray⟩);have qs:=heap_setCell_same w9_ Hb 1 _ _ (.string ⟨s2.toArray⟩) q_;have c_:w9_.cell? ⟨Hb,1,none⟩=some (.string ⟨#[]⟩):=bx_cell q_ 1 _ rfl;have z_:=bx_thaw q_ 1;have H2:=hide (And.intro tN (And.intro gN mN));obtain ⟨wc_,hw_⟩:∃W',W'=w9_.setCell ⟨Hb,1,none⟩ (.string ⟨s2.toArray⟩):=⟨_,rfl⟩;rw [←hw_] at qs Gs Fs Ks_;have HW_:=hide hw_;have HQ5:=hide (And.intro qs (And.intro Gs (And.intro Fs Ks_)));clear tN gN mN GN FN q_ F_ K_ Gs Fs Ks_ qs hw_ HQ3;go_upto_region 32 with fail
          rw [←unhide HW_];clear c_ z_ HW_;have G_:=(unhide HQ5).2.1;have HN:=hide (unhide HUt wc_ k2 f2 G_);clear G_;go_wp2_with fail;refine (unhide HN).mono ?_;rintro e wd_ ⟨s3,k3,f3,rfl,tN,gN,mN,GN,FN⟩;clear HN;have q_:=(unhide HQ5).2.1.keep FN (unhide HQ5).1 (by decide);have F_:=(unhide HQ5).2.2.1.trans FN;have K_:=(unhide HQ5).2.2.2.trans (Nat.le_trans hzr (by have:=lt_of_heap (unhide HQ5).1;omega)) FN.1;obtain ⟨Gs,Fs⟩:=((unhide H5).2.2).put GN F_ (H:=Hb) hz 2 (.string ⟨s3.toArray⟩);have Ks_:=Kx.set K_ hzr 2 (.string ⟨s3.toArray⟩);have qs:=heap_setCell_same wd_ Hb 2 _ _ (.string ⟨s3.toArray⟩) q_;have c_:wd_.cell? ⟨Hb,2,none⟩=some (.string ⟨#[]⟩):=bx_cell q_ 2 _ rfl;have z_:=bx_thaw q_ 2;have H3:=hide (And.intro tN (And.intro gN mN));obtain ⟨we_,hw_⟩:∃W',W'=wd_.setCell ⟨Hb,2,none⟩ (.string ⟨s3.toArray⟩):=⟨_,rfl⟩;rw [←hw_] at qs Gs Fs Ks_;have HW_:=hide hw_;have HQ7:=hide (And.intro qs (And.intro Gs (And.intro Fs Ks_)));clear tN gN mN GN FN q_ F_ K_ Gs Fs Ks_ qs hw_ HQ5;go_upto_region 33 with fail
          rw [←unhide HW_];clear c_ z_ HW_;have G_:=(unhide HQ7).2.1;have HN:=hide (unhide HU we_ k3 f3 2 G_ (.inr (.inl rfl)));clear G_;go_wp2_with fail;refine (unhide HN).mono ?_;rintro e wf_ ⟨z4,k4,f4,rfl,hn_,hg_,hm_,hk_,GN,FN⟩;have gN:=(hg_ (by decide)).2.2;have sN:=hg_ (by decide);have mN:Mv 2 k3 f3 k4 f4:=⟨hm_.1,fun e=>by rw [hm_.2.1 e];exact Nat.le_refl _,hk_⟩;clear HN hg_ hm_ hk_;have q_:=(unhide HQ7).2.1.keep FN (unhide HQ7).1 (by decide);have F_:=(unhide HQ7).2.2.1.trans FN;have K_:=(unhide HQ7).2.2.2.trans (Nat.le_trans hzr (by have:=lt_of_heap (unhide HQ7).1;omega)) FN.1;have HQ8:=hide (And.intro q_ (And.intro GN (And.intro F_ K_)));have H4:=hide (And.intro gN mN);clear gN mN GN FN q_ F_ K_ HQ7;clear hn_ sN;have G_:=(unhide HQ8).2.1;have HN:=hide (unhide HUt wf_ k4 f4 G_);clear G_;go_wp2_with fail;refine (unhide HN).mono ?_;rintro e wg_ ⟨s5,k5,f5,rfl,tN,gN,mN,GN,FN⟩;clear HN;have q_:=(unhide HQ8).2.1.keep FN (unhide HQ8).1 (by decide);have F_:=(unhide HQ8).2.2.1.trans FN;have K_:=(unhide HQ8).2.2.2.trans (Nat.le_trans hzr (by have:=lt_of_heap (unhide HQ8).1;omega)) FN.1;have HQ9:=hide (And.intro q_ (And.intro GN (And.intro F_ K_)));have H5_:=hide (And.intro gN mN);clear gN mN GN FN q_ F_ K_ HQ8;clear tN;have G_:=(unhide HQ9).2.1;have HN:=hide (unhide HU wg_ k5 f5 4 G_ (.inr (.inr rfl)));clear G_;go_wp2_with fail;refine (unhide HN).mono ?_;rintro e wh_ ⟨z6,k6,f6,rfl,hn_,hg_,hm_,hk_,GN,FN⟩;have gN:=(hg_ (by decide)).2.2;have sN:=hg_ (by decide);have mN:Mv 4 k5 f5 k6 f6:=⟨hm_.1,fun e=>by rw [hm_.2.1 e];exact Nat.le_refl _,hk_⟩;clear HN hg_ hm_ hk_;have q_:=(unhide HQ9).2.1.keep FN (unhide HQ9).1 (by decide);have F_:=(unhide HQ9).2.2.1.trans FN;have K_:=(unhide HQ9).2.2.2.trans (Nat.le_trans hzr (by have:=lt_of_heap (unhide HQ9).1;omega)) FN.1;have HQ10:=hide (And.intro q_ (And.intro GN (And.intro F_ K_)));have H6:=hide (And.intro gN mN);clear gN mN GN FN q_ F_ K_ HQ9;clear hn_ sN;have HN:=hide (unhide HCo wh_ k6 f6 (unhide HQ10).2.1);go_wp2_with fail;refine (unhide HN).mono ?_;rintro e wi_ ⟨cd,cb_,ch_,cp_,cm_,k7,f7,rfl,okN,gN,cntN,mN,GN,FN⟩;clear HN;have hbb:w5.heap.size≤wh_.heap.size:=(unhide HQ10).2.2.1.size;have qi:=(unhide HQ10).2.1.keep FN (unhide HQ10).1 (by decide);simp only [List.setIfInBounds_toArray,List.set_cons_succ,List.set_cons_zero] at qi;have Fi:=(unhide HQ10).2.2.1.trans FN;have Ki:=(unhide HQ10).2.2.2.trans (Nat.le_trans hzr (by have:=lt_of_heap (unhide HQ10).1;omega)) FN.1;obtain ⟨Gj,Fj⟩:=((unhide H5).2.2).puts GN Fi (H:=Hb) hz 3 [.int .i64 cd.stack,.int .i64 cd.locals,.slice cb_.a cb_.n cb_.c,.slice ch_.a ch_.n ch_.c,.slice cp_.a cp_.n cp_.c];have Kj:=Kx.sets Ki hzr 3 [.int .i64 cd.stack,.int .i64 cd.locals,.slice cb_.a cb_.n cb_.c,.slice ch_.a ch_.n ch_.c,.slice cp_.a cp_.n cp_.c];have qj:=bx_cells [.int .i64 cd.stack,.int .i64 cd.locals,.slice cb_.a cb_.n cb_.c,.slice ch_.a ch_.n ch_.c,.slice cp_.a cp_.n cp_.c] [.int .i64 a1,.string ⟨s2.toArray⟩,.string ⟨s3.toArray⟩] [.int .i64 0,.int .i64 0,.slice none 0 0,.slice none 0 0,.slice none 0 0] wi_ qi rfl;have okj:=MdOk.named okN qi 3 [.int .i64 cd.stack,.int .i64 cd.locals,.slice cb_.a cb_.n cb_.c,.slice ch_.a ch_.n ch_.c,.slice cp_.a cp_.n cp_.c] hbb (by have:=(unhide H1).1;unfold fitI;omega:fitI a1) (unhide H2).1 (unhide H3).1;have c3:wi_.cell? ⟨Hb,3,none⟩=some (.int .i64 0):=bx_cell qi 3 _ rfl;have c4:wi_.cell? ⟨Hb,4,none⟩=some (.int .i64 0):=bx_cell qi 4 _ rfl;have c5:wi_.cell? ⟨Hb,5,none⟩=some (.slice none 0 0):=bx_cell qi 5 _ rfl;have c6:wi_.cell? ⟨Hb,6,none⟩=some (.slice none 0 0):=bx_cell qi 6 _ rfl;have c7:wi_.cell? ⟨Hb,7,none⟩=some (.slice none 0 0):=bx_cell qi 7 _ rfl;have z3:=bx_thaw qi 3;have z4_:=bx_thaw qi 4;have z5:=bx_thaw qi 5;have z6_:=bx_thaw qi 6;have z7:=bx_thaw qi 7;obtain ⟨wj_,hwj⟩:∃W',W'=wi_.setCells Hb 3 [.int .i64 cd.stack,.int .i64 cd.locals,.slice cb_.a cb_.n cb_.c,.slice ch_.a ch_.n ch_.c,.slice cp_.a cp_.n cp_.c]:=⟨_,rfl⟩;have hwj3:wi_.setCells Hb ([.int .i64 a1,.string ⟨s2.toArray⟩,.string ⟨s3.toArray⟩]:List Value).length [.int .i64 cd.stack,.int .i64 cd.locals,.slice cb_.a cb_.n cb_.c,.slice ch_.a ch_.n ch_.c,.slice cp_.a cp_.n cp_.c]=wj_:=hwj.symm;rw [hwj3] at qj;rw [←hwj] at Gj Fj Kj okj;have hwj2:wj_=((((wi_.setCell ⟨Hb,3,none⟩ (.int .i64 cd.stack)).setCell ⟨Hb,4,none⟩ (.int .i64 cd.locals)).setCell ⟨Hb,5,none⟩ (.slice cb_.a cb_.n cb_.c)).setCell ⟨Hb,6,none⟩ (.slice ch_.a ch_.n ch_.c)).setCell ⟨Hb,7,none⟩ (.slice cp_.a cp_.n cp_.c):=hwj;have HWJ:=hide hwj2;have HQJ:=hide (And.intro qj (And.intro Gj (And.intro Fj (And.intro Kj okj))));have H7:=hide (And.intro gN (And.intro mN cntN));clear okN gN cntN mN GN FN qi Fi Ki Gj Fj Kj qj okj hwj hwj3 hwj2 HQ10 hbb;unfold Sl.v;simp only;go_upto_region 37 with fail
          rw [←unhide HWJ];clear c3 c4 c5 c6 c7 z3 z4_ z5 z6_ z7 HWJ;obtain ⟨qj,Gj,Fj,Kj,okj⟩:=unhide HQJ;simp only [List.cons_append,List.nil_append] at qj;have S9:=KC.kx (unhide H5).2.2 (unhide HI).2.2.2.2.2 Gj Fj Kj;have hsl:mr.length≤100000:=by have:=(unhide HI).1;omega
          obtain ⟨o3,l3,s1_,s2_,s3_,hx⟩:=KC.pushM (unhide H5).2.2 S9 (⟨⟨a1,s2,s3,cd⟩,cb_,ch_,cp_,cm_⟩:MdR) okj hsl #[.int .i64 a1,.string ⟨s2.toArray⟩,.string ⟨s3.toArray⟩,.int .i64 cd.stack,.int .i64 cd.locals,.slice cb_.a cb_.n cb_.c,.slice ch_.a ch_.n ch_.c,.slice cp_.a cp_.n cp_.c] rfl;have cA:wj_.cell? ⟨A,4,none⟩=some m_.v:=bx_cell S9.cb 4 _ rfl;have y0:wj_.cell? ⟨Hb,0,none⟩=some (.int .i64 a1):=bx_cell qj 0 _ rfl;have y1:wj_.cell? ⟨Hb,1,none⟩=some (.string ⟨s2.toArray⟩):=bx_cell qj 1 _ rfl;have y2:wj_.cell? ⟨Hb,2,none⟩=some (.string ⟨s3.toArray⟩):=bx_cell qj 2 _ rfl;have y3:wj_.cell? ⟨Hb,3,none⟩=some (.int .i64 cd.stack):=bx_cell qj 3 _ rfl;have y4:wj_.cell? ⟨Hb,4,none⟩=some (.int .i64 cd.locals):=bx_cell qj 4 _ rfl;have y5:wj_.cell? ⟨Hb,5,none⟩=some (.slice cb_.a cb_.n cb_.c):=bx_cell qj 5 _ rfl;have y6:wj_.cell? ⟨Hb,6,none⟩=some (.slice ch_.a ch_.n ch_.c):=bx_cell qj 6 _ rfl;have y7:wj_.cell? ⟨Hb,7,none⟩=some (.slice cp_.a cp_.n cp_.c):=bx_cell qj 7 _ rfl;have HO:=hide o3;have HL_:=hide l3;have HSS_:=hide (And.intro s1_ (And.intro s2_ s3_));have HX_:=hide hx;have hgot:=got_md (l:=C.l) (unhide H1).2.2.1 (unhide H2).2.1 (unhide H3).2.1 (unhide H4).1 (unhide H5_).1 (unhide H6).1 (unhide H7).1;have hm6:=((((unhide H1).2.2.2.trans (unhide H2).2.2).trans (unhide H3).2.2).trans (unhide H4).2).trans ((unhide H5_).2.trans (unhide H6).2);have hmv:=hm6.trans (unhide H7).2.1;have hcnt:1+methN ⟨a1,s2,s3,cd⟩≤2*(k7-j)+(if f7=true then 8 else 0):=by
           have h1:methN ⟨a1,s2,s3,cd⟩≤2*(k7-k6)+(if f7=true then 6 else 0):=(unhide H7).2.2;have h2:=hm6.le;have h3:=(unhide H7).2.1.le;cases f7 with
           | true=>simp only [if_true] at h1 ⊢;omega
           | false=>
            have:=hmv.by_ rfl;have h4:f6=false:=by
             cases h:f6 with
             | false=>rfl
             | true=>
              have:=((unhide H7).2.1.bad h).1;cases this
            have:=hm6.by_ h4;simp at h1 ⊢;omega
          have HGM:=hide (And.intro hgot (And.intro (hmv.less (Nat.zero_le _)) hcnt));clear o3 l3 s1_ s2_ s3_ hx qj Gj Fj Kj okj S9 hgot hmv hm6 hcnt H1 H2 H3 H4 H5_ H6 H7 HWB HQJ;obtain ⟨ha,hn,hc⟩:=m_;unfold Sl.v at cA HX_ HO;simp only at cA HX_ HO
          go_wp2_with (first
           | (at_builtin;refine listR_append rkM rfl _ _ rfl w5.heap.size _ _ rfl (unhide HO) _ 1 1 [_] rfl (unhide HL_) (fun e=>by cases e) (unhide HSS_).1 (unhide HSS_).2.1 (unhide HSS_).2.2 ?_)
           | go_in)
          intro v4 wg o4 g4;obtain ⟨a4',c4',hv4,_⟩:=o4.form;subst hv4;have hln:(mr++[(⟨⟨a1,s2,s3,cd⟩,cb_,ch_,cp_,cm_⟩:MdR)]).length=mr.length+1:=by simp
          obtain ⟨cb,S10⟩:=unhide HX_ ⟨a4',(mr++[(⟨⟨a1,s2,s3,cd⟩,cb_,ch_,cp_,cm_⟩:MdR)]).length,c4'⟩ wg o4 g4
          try unfold Sl.v at cb S10
          try simp only at cb S10
          have cA':wg.cell? ⟨A,4,none⟩=some (.slice ha hn hc):=bx_cell cb 4 _ rfl;have zA':=bx_thaw cb 4;obtain ⟨hle,hM,hF,hL,hV,_⟩:=unhide HI;obtain ⟨hgot,hmv,hcnt⟩:=unhide HGM;rw [hln] at S10
          have HZ:=hide (show ∃(m':Sl) (mr':List MdR) (j:Nat) (ej:Bool),m=N-mr'.length∧mr'.length≤N∧Mid (methodR C.l) C.bs N e15 (C.bs.drop j15) (mr'.map MdR.m) j ej∧True∧mr'.length+((mr'.map MdR.m).map methN).sum≤2*(j-j15)+(if ej=true then 8 else 0)∧Mv 0 j15 e15 j ej∧KC C w5 A nm sp f fs m' mr' j ej (wg.setCell ⟨A,4,none⟩ (.slice a4' (mr.length+1) c4')) from ⟨⟨a4',mr.length+1,c4'⟩,mr++[(⟨⟨a1,s2,s3,cd⟩,cb_,ch_,cp_,cm_⟩:MdR)],k7,f7,by have:=unhide HMM;omega,by have:=unhide HMM;omega,by
           rw [List.map_append];exact hM.next (by rw [List.length_map];have:=unhide HMM;omega) hgot,trivial,by
           have h1:=hV.le;have h2:=hmv.le;have h3:(((mr++[(⟨⟨a1,s2,s3,cd⟩,cb_,ch_,cp_,cm_⟩:MdR)]).map MdR.m).map methN).sum=((mr.map MdR.m).map methN).sum+methN ⟨a1,s2,s3,cd⟩:=by simp
           rw [if_neg (by decide)] at hL;rw [hln,h3];omega,⟨Nat.le_trans hV.le hmv.le,fun e=>Nat.le_trans hV.le hmv.le,fun e=>by have:=(hV.bad e).1;cases this⟩,S10⟩)
          have hmb:m≤65535:=by have:=unhide HMM;omega
          clear o4 g4 cb S10 hle hM hF hL hV hgot hmv hcnt hln HO HL_ HSS_ HX_ HGM;go_wp2;go_roundw
          case rel=>
           obtain ⟨m',mr',j,ej,hmm,hz⟩:=unhide HZ;exact ⟨m',mr',j,ej,by rw [←hmm],hz⟩
          case measure=>(simp [intOf] <;> omega)
     case rest=>
     obtain ⟨m,mr,j16,e16,gM,lM,mM,SM⟩:=hcut;have HSM:=hide (And.intro gM (And.intro lM (And.intro mM SM)));clear gM lM mM SM hN N HS15;obtain ⟨fa,fn,fc⟩:=f;obtain ⟨ma,mn,mc⟩:=m;obtain ⟨gM,lM,mM,SM⟩:=unhide HSM;obtain ⟨gF,tF,lF,mF,_⟩:=unhide HSF;obtain ⟨r5,f05,G5⟩:=unhide H5;obtain ⟨hCX,hCB,hCl,hCb,hCn,hCp⟩:=unhide HCC;have hjn:=unhide HJN _ _ _ SM.gd;have hpl:C.l.length=C.p.n:=SM.gd.pl;have hlen:l.length≤1024:=by
      have h1:=SM.gd.few;have h2:=SM.gd.pl;rw [hCl] at h2;omega
     have gAll:=got_rest (l:=C.l) (unhide HS7).1 (unhide HS10).1 (unhide HSS).1 (unhide HS12).1 gF gM;rw [hCl,hCb] at gAll;have hSz:sizeK ⟨l,nm,sp,fs,mr.map MdR.m⟩<14000:=by
      show l.length+fs.length+(mr.map MdR.m).length+((mr.map MdR.m).map methN).sum<14000;rw [List.length_map];have h1:=mF.le;have h2:=mM.le;have h3:(if e14=true then 1 else 0)≤1:=by split <;> omega
      have h4:(if e16=true then 8 else 0)≤8:=by split <;> omega
      omega
     have hfl:fs.length≤6001:=by
      have h1:=mF.le;have h2:=mM.le;have h3:(if e14=true then 1 else 0)≤1:=by split <;> omega
      omega
     have hml:mr.length≤14000:=by
      have h2:=mM.le;have h4:(if e16=true then 8 else 0)≤8:=by split <;> omega
      omega
     have hEF:=unhide HFI;have kC:∀W,KeepC wc W→CIn W ⟨⟨l,nm,sp,fs,mr.map MdR.m⟩,⟨pa,l.length,pc⟩,⟨fa,fn,fc⟩,⟨ma,mn,mc⟩,mr⟩:=fun W hW=>by
      have hoz:∀(k:Nat) (Z:Array Value) (T:TypeId),wc.heap[k]?=some (.cells Z T (0,0))→T≠26→W.heap[k]?=wc.heap[k]?:=hW;have Og:Orw fdc 58 3 W 0 (.slice fa fn fc) fs:=(SM.of.keep fun k Z _ hk=>hoz k Z _ hk (by decide)).base (Nat.zero_le _);have Mg:Orw mdc 49 8 W 0 (.slice ma mn mc) mr:=(SM.om.keep fun k Z _ hk=>hoz k Z _ hk (by decide)).base (Nat.zero_le _);have Dg:∀x∈mr,MdOk l W w5.heap.size x:=fun x hx=>by
       have:=(SM.md x hx).keep fun k Z T hk hT=>hoz k Z T hk (by rcases hT with rfl | rfl | rfl | rfl <;> decide)
       rw [hCl] at this;exact this
      have Po:W.ownsRow (X+1) 55 5 (.slice pa l.length pc) l.length (ev l):=by
       have h1:=SM.gd.own;have h2:C.p.n=l.length:=by rw [←hpl,hCl]
       have h3:Value.slice C.p.a C.p.n C.p.c=.slice pa l.length pc:=hCp;rw [h3,hCX,hCl,h2] at h1;refine own_of_block h1 fun k hk=>?_
       rcases h1.2 with ⟨hv,_⟩ | ⟨g,cap,cur,hv,_,hh,_⟩
       · rw [hv] at hk;cases hk
       · rw [hv] at hk
         injection hk with hk
         subst hk;exact hoz _ _ _ hh (by decide)
      have tn:Txt8 l nm:=by rw [←hCl];exact (unhide HS10).2.1
      have ts:Txt8 l sp:=by rw [←hCl];exact (unhide HSS).2.1
      have tf:∀x∈fs,fitI x.acc∧Txt8 l x.name∧Txt8 l x.type:=by rw [←hCl];exact tF
      exact ⟨EIn.own Po (by show l.length*48≤_;omega) hEF,Txt8.fit tn hEF,Txt8.fit ts hEF,Orw.lin (s:=⟨fa,fn,fc⟩) rkF Og (by show fs.length*40≤_;omega) (fun y hy=>⟨(tf y hy).1,(tf y hy).2.1.fit hEF,(tf y hy).2.2.fit hEF⟩),Orw.lin (s:=⟨ma,mn,mc⟩) rkM Mg (by show mr.length*128≤_;omega) (fun y hy=>(Dg y hy).mdIn hEF),rfl⟩
     have HGP:=hide (GP wc ⟨⟨l,nm,sp,fs,mr.map MdR.m⟩,⟨pa,l.length,pc⟩,⟨fa,fn,fc⟩,⟨ma,mn,mc⟩,mr⟩ (kC wc (KeepC.refl _)) hSz);have hrest:∀c0,readK bs=some c0→⟨l,nm,sp,fs,mr.map MdR.m⟩=c0∧e16=false:=fun c0 hc=>by
      rw [unhide HRK] at hc;obtain ⟨⟨c1,r1⟩,hr,hc1⟩:=Option.map_eq_some_iff.1 hc;obtain ⟨h1,h2,_⟩:=gAll.2 rfl _ _ hr;exact ⟨h1.trans hc1,h2⟩
     have rc:wc.heap[w.heap.size]?=some (.cells #[.slice none 0 0,.string ⟨#[]⟩,.string ⟨#[]⟩,.slice none 0 0,.slice none 0 0] 26 (0,0)):=by
      have hB:w.heap.size<C.B:=by omega
      exact (SM.gf.2.block _ hB).trans r5
     have fc_:Below w.heap.size w wc:=f05.trans (SM.gf.2.mono (by omega));have x0:wc.cell? ⟨A,0,none⟩=some (.slice pa l.length pc):=by rw [←hCp];exact bx_cell SM.cb 0 _ rfl
     have x1:wc.cell? ⟨A,1,none⟩=some (.string ⟨nm.toArray⟩):=bx_cell SM.cb 1 _ rfl;have x2:wc.cell? ⟨A,2,none⟩=some (.string ⟨sp.toArray⟩):=bx_cell SM.cb 2 _ rfl;have x3:wc.cell? ⟨A,3,none⟩=some (.slice fa fn fc):=bx_cell SM.cb 3 _ rfl;have x4:wc.cell? ⟨A,4,none⟩=some (.slice ma mn mc):=bx_cell SM.cb 4 _ rfl;have hbs:Arg wc a n c bs:=by
      have h1:=SM.gd.arg;rw [hCb] at h1;have e1:C.a=a∧C.n=n∧C.c=c:=unhide HAC;rw [e1.1,e1.2.1,e1.2.2] at h1;exact h1
     have kX:wc.heap[X]?=some (.cells #[.slice C.a C.n C.c,.int .i64 (j16:Int),.slice C.p.a C.p.n C.p.c,.bool e16] 81 (0,0)):=by rw [←hCX];exact SM.gd.blk
     have cbA:wc.heap[A]?=some (.cells #[.slice pa l.length pc,.string ⟨nm.toArray⟩,.string ⟨sp.toArray⟩,.slice fa fn fc,.slice ma mn mc] 26 (0,0)):=by rw [←hCp];exact SM.cb
     have HFF:=hide (And.intro rc (And.intro fc_ (And.intro kC (And.intro hrest (And.intro hbs (And.intro kX cbA))))));have HEF:=hide hEF.2;clear gM lM mM SM gF tF lF mF r5 f05 G5 hCX hCB hCl hCb hCn hCp hjn gAll hSz hfl hml hEF kC hrest rc fc_ hbs kX cbA hpl HSM HSF HS7 HS8 HS10 HS11 HSS HS12 HU HUt HCl HCo HJN HCC HRK HFI;unfold ClR.v Sl.v at HGP;simp only at HGP;unfold gprint_post at HGP
     try simp only at HGP
     go_wp2_with fail;refine (unhide HGP).mono ?_;rintro e wp ⟨v,rfl,oP,fP⟩;obtain ⟨rc,fc_,kC,hrest,hbs,kX,cbA⟩:=unhide HFF;have oP2:wp.ownsRow wc.heap.size 5 1 v (printK ⟨l,nm,sp,fs,mr.map MdR.m⟩).length (bv (printK ⟨l,nm,sp,fs,mr.map MdR.m⟩)):=by
      rw [←byc_bv];exact oP
     obtain ⟨va,vc,rfl,_⟩:=own_form oP2;have rp:=(fP.block _ (lt_of_heap rc)).trans rc;have fp:Below w.heap.size w wp:=fc_.trans (fP.mono fc_.size);have kX2:=(fP.block _ (lt_of_heap kX)).trans kX;have cbA2:=(fP.block _ (lt_of_heap cbA)).trans cbA;have d3:wp.cell? ⟨X,3,none⟩=some (.bool e16):=bx_cell kX2 3 _ rfl;have y0:wp.cell? ⟨A,0,none⟩=some (.slice pa l.length pc):=bx_cell cbA2 0 _ rfl;have y1:wp.cell? ⟨A,1,none⟩=some (.string ⟨nm.toArray⟩):=bx_cell cbA2 1 _ rfl;have y2:wp.cell? ⟨A,2,none⟩=some (.string ⟨sp.toArray⟩):=bx_cell cbA2 2 _ rfl;have y3:wp.cell? ⟨A,3,none⟩=some (.slice fa fn fc):=bx_cell cbA2 3 _ rfl;have y4:wp.cell? ⟨A,4,none⟩=some (.slice ma mn mc):=bx_cell cbA2 4 _ rfl;have HSB:=hide (SameBytes_n wp va a (printK ⟨l,nm,sp,fs,mr.map MdR.m⟩) bs _ n vc c (own_bytes oP2) (bs_at8 (hbs.below fP).bs) rfl hbl);have hnA:¬A=w.heap.size:=by
      intro e;rw [e,rc] at cbA;injection cbA with h
      injection h with h
      have:=congrArg (fun z=>z[0]?) h;have h2:=unhide HAS;omega
     have HFP:=hide (And.intro rp (And.intro fp (And.intro (fun W (hW:KeepC wp W)=>kC W ((KeepC.of_below fP).trans hW)) hrest)));clear x0 x1 x2 x3 x4 HGP HFF oP oP2 fP rc fc_ kC hrest hbs kX cbA rp fp kX2 cbA2;cases e16
     case true=>
      have hno:parseK bs=(cl0,80):=parse_no (by omega) fun c0 hc _=>by
       have:=((unhide HFP).2.2.2 c0 hc).2;cases this
      generalize errK ⟨l,nm,sp,fs,mr.map MdR.m⟩=EE at *;generalize printK ⟨l,nm,sp,fs,mr.map MdR.m⟩=PP at *;have HP9:Hid (parseK bs=(cl0,80)):=hide (hno);obtain ⟨⟨q0_,q1_,q2_,q3_,q4_⟩,z0_,z1_,z2_,z3_,z4_⟩:=zbox8 ((unhide HFP).1);have HR9:=hide (And.intro ((unhide HFP).2.1) ((unhide HFP).1));go_wp2_with fail;refine bodyPost_ret (v:=ZR8 80) ?_ rfl (by rw [unhide HPO];exact refuse8 (unhide HP9) (unhide HR9).1);exact res8 (unhide HR9).2 _ rfl
     case false=>
      by_cases hE:errK ⟨l,nm,sp,fs,mr.map MdR.m⟩=0
      · obtain ⟨EE,hEE⟩:∃EE,EE=errK ⟨l,nm,sp,fs,mr.map MdR.m⟩:=⟨_,rfl⟩
        have hE0:EE=0:=hEE.trans hE;rw [←hEE];subst hE0;have HEE:=hide hEE;have HE:=hide hE;clear hE hEE;obtain ⟨PP,hPP⟩:∃PP,PP=printK ⟨l,nm,sp,fs,mr.map MdR.m⟩:=⟨_,rfl⟩;rw [←hPP] at HSB ⊢;have HPP:=hide hPP;clear hPP
        by_cases hq:PP=bs
        · have hyes:parseK bs=(⟨l,nm,sp,fs,mr.map MdR.m⟩,0):=by
           have h2:printK ⟨l,nm,sp,fs,mr.map MdR.m⟩=bytesK ⟨l,nm,sp,fs,mr.map MdR.m⟩:=by unfold printK;rw [if_pos (unhide HE)]
           exact parse_yes (c:=⟨l,nm,sp,fs,mr.map MdR.m⟩) (unhide HE) (by rw [←h2,←unhide HPP];exact hq) (unhide HEF)
          rw [decide_eq_true hq] at HSB;have HY:=hide hyes;clear hq hyes;obtain ⟨⟨q0_,q1_,q2_,q3_,q4_⟩,z0_,z1_,z2_,z3_,z4_⟩:=zbox8 ((unhide HFP).1);go_wp2_with fail;refine (unhide HSB).mono ?_;rintro e wz ⟨rfl,ez⟩;have ez':=ez.symm;clear ez;subst ez';go_wp2_with fail;obtain ⟨rp,fp,kP,_⟩:=unhide HFP;refine bodyPost_ret (v:=.tuple #[.agg #[.slice pa l.length pc,.string ⟨nm.toArray⟩,.string ⟨sp.toArray⟩,.slice fa fn fc,.slice ma mn mc],.int .i64 0]) ?_ rfl (by rw [unhide HPO];exact ⟨⟨⟨⟨l,nm,sp,fs,mr.map MdR.m⟩,⟨pa,l.length,pc⟩,⟨fa,fn,fc⟩,⟨ma,mn,mc⟩,mr⟩,by rw [unhide HY];rfl,by rw [unhide HY],kP _ ((KeepC.refl _).cells rp 0 [.slice pa l.length pc,.string ⟨nm.toArray⟩,.string ⟨sp.toArray⟩,.slice fa fn fc,.slice ma mn mc])⟩,below_cells [.slice pa l.length pc,.string ⟨nm.toArray⟩,.string ⟨sp.toArray⟩,.slice fa fn fc,.slice ma mn mc] 0 fp (Nat.le_refl _)⟩);exact kcls_results Tryz.results17 _ w.heap.size _ rfl (bx_whole [.slice none 0 0,.string ⟨#[]⟩,.string ⟨#[]⟩,.slice none 0 0,.slice none 0 0] [.slice pa l.length pc,.string ⟨nm.toArray⟩,.string ⟨sp.toArray⟩,.slice fa fn fc,.slice ma mn mc] rp rfl) _ rfl
        · have hno:parseK bs=(cl0,80):=parse_no (by omega) fun c0 hc h9=>hq (by
           have h1:=((unhide HFP).2.2.2 c0 hc).1;have h2:printK ⟨l,nm,sp,fs,mr.map MdR.m⟩=bytesK ⟨l,nm,sp,fs,mr.map MdR.m⟩:=by unfold printK;rw [if_pos (unhide HE)]
           rw [unhide HPP,h2,h1];exact h9.2)
          rw [decide_eq_false hq] at HSB;have HNO:=hide hno;clear hq hno;go_wp2_with fail;refine (unhide HSB).mono ?_;rintro e wz ⟨rfl,ez⟩;have ez':=ez.symm;clear ez;subst ez';have HP9:Hid (parseK bs=(cl0,80)):=hide (unhide HNO);obtain ⟨⟨q0_,q1_,q2_,q3_,q4_⟩,z0_,z1_,z2_,z3_,z4_⟩:=zbox8 ((unhide HFP).1);have HR9:=hide (And.intro ((unhide HFP).2.1) ((unhide HFP).1));go_wp2_with fail;refine bodyPost_ret (v:=ZR8 80) ?_ rfl (by rw [unhide HPO];exact refuse8 (unhide HP9) (unhide HR9).1);exact res8 (unhide HR9).2 _ rfl
      · have hno:parseK bs=(cl0,80):=parse_no (by omega) fun c0 hc h9=>hE (by rw [((unhide HFP).2.2.2 c0 hc).1];exact h9.1)
        have hE':(errK ⟨l,nm,sp,fs,mr.map MdR.m⟩ != 0)=true:=by simpa using hE
        have HNO:=hide hno;clear hE hno;generalize errK ⟨l,nm,sp,fs,mr.map MdR.m⟩=EE at *;generalize printK ⟨l,nm,sp,fs,mr.map MdR.m⟩=PP at *;have HP9:Hid (parseK bs=(cl0,80)):=hide (unhide HNO);obtain ⟨⟨q0_,q1_,q2_,q3_,q4_⟩,z0_,z1_,z2_,z3_,z4_⟩:=zbox8 ((unhide HFP).1);have HR9:=hide (And.intro ((unhide HFP).2.1) ((unhide HFP).1));go_wp2_with fail;refine bodyPost_ret (v:=ZR8 80) ?_ rfl (by rw [unhide HPO];exact refuse8 (unhide HP9) (unhide HR9).1);exact res8 (unhide HR9).2 _ rfl
end Go.Proofs.YtlabllgifkklhaaGreatDoor
