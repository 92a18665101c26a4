/- Joined: PkL PkM PkN PkO PkV. -/
import Derived.Test.YtlabllgifkklhaaGreatDoorJP15
import Derived.Test.YtlabllgifkklhaaGreatDoorJP5
import Derived.Test.YtlabllgifkklhaaGreatDoorJP6
import Derived.Test.YtlabllgifkklhaaGreatDoorJP13
import Derived.Test.YtlabllgifkklhaaGreatDoorJP14
set_option linter.unusedVariables false
set_option maxRecDepth 100000
set_option maxHeartbeats 3200000
namespace Go.Proofs.YtlabllgifkklhaaGreatDoor
open Go.RowKit Go.Maps
end Go.Proofs.YtlabllgifkklhaaGreatDoor
namespace Go.Proofs.YtlabllgifkklhaaGreatDoor
open Go.RowKit Go.Maps
end Go.Proofs.YtlabllgifkklhaaGreatDoor
namespace Go.Proofs.YtlabllgifkklhaaGreatDoor
open Go.RowKit Go.Maps
end Go.Proofs.YtlabllgifkklhaaGreatDoor
namespace Go.Proofs.YtlabllgifkklhaaGreatDoor
open Go.ChangeShapes Go.WideShapes Go.ChangeAt Go.RowKit
end Go.Proofs.YtlabllgifkklhaaGreatDoor
namespace Go.Proofs.YtlabllgifkklhaaGreatDoor
open Go.RowKit
theorem readP_nil {bs:List UInt8} {i:Nat} (h:(readP bs i).2.1≠0):(readP bs i).1=[]:=by
 unfold readP at h ⊢;simp only at h ⊢;split
 · rfl
 · rename_i h1
   rw [if_neg h1] at h;split
   · rfl
   · rename_i h2
     rw [if_neg h2] at h;split
     · rfl
     · rename_i h3
       rw [if_neg h3] at h;split
       · rfl
       · rename_i h4
         rw [if_neg h4] at h;have h3':(entsR bs (getW bs i 2 false).1.toNat (getW bs i 2 false).1.toNat [ent0] (getW bs i 2 false).2.2).2.1=0:=by simpa using h3
         exact absurd h3' h
theorem readP_le {bs:List UInt8} {i:Nat} (h:(readP bs i).2.1=0):(readP bs i).1.length≤1024:=by
 unfold readP at h ⊢;simp only at h ⊢;split
 · simp
 · rename_i h1
   rw [if_neg h1] at h;split
   · simp
   · rename_i h2
     rw [if_neg h2] at h;split
     · simp
     · rename_i h3
       rw [if_neg h3] at h;split
       · simp
       · rename_i h4
         omega
def PB (w:World) (a:Option Addr) (c:Nat) (l:List Ent):Prop:=(a=none∧c=0∧l=[])∨∃q,a=some ⟨q,0,none⟩∧c=l.length∧w.heap[q]?=some (.cells (ev l).toArray 55 (0,0))
theorem kRead_all (F:Nat→Prop) (w:World) (B x:Nat) (bs:List UInt8) (i:Nat) (h:RD F w B x bs i) (hs:bs.length≤1000000) (hi:i≤bs.length) :
 Calls Tryz.prog 130 #[.pointer (some ⟨x,0,none⟩)] w fun e w'=>(∃a c,e=.returned (.tuple #[.slice a (readP bs i).1.length c,.int .i64 (readP bs i).2.1])∧EArg w' a (readP bs i).1.length c (readP bs i).1∧PB w' a c (readP bs i).1)∧((readP bs i).2.1=0→∃F',RD F' w' B x bs (readP bs i).2.2∧∀j,F' j→F j∨w.heap.size≤j)∧Fr6 F B w w'∧((readP bs i).2.1≠0→RD F w' B x bs i)∧Kx x w w':=by
 obtain ⟨y,c,rfl,hS⟩:=h;have hxl:=hS.xlt;have hyl:=hS.y;have hxy:=hS.ne;have hBx:=hS.hx;have hB:B≤w.heap.size:=Nat.le_trans hBx (Nat.le_of_lt hxl);have b0:Below w.heap.size w (w.alloc (.cells #[.slice (some ⟨y,0,none⟩) bs.length c,.int .i64 (i:Int)] 159)):=(Below.refl _ _).alloc (Nat.le_refl _) _;have hz0:=heap_alloc_last w (.cells #[.slice (some ⟨y,0,none⟩) bs.length c,.int .i64 (i:Int)] 159)
 have R0:RD (fun k=>k=w.heap.size∨k=y) (w.alloc (.cells #[.slice (some ⟨y,0,none⟩) bs.length c,.int .i64 (i:Int)] 159)) B w.heap.size bs i:=
  ⟨y,c,rfl,hB,by omega,hz0,(hS.below b0).row⟩
 have HP:=hide (kreadPool_any _ _ B w.heap.size bs i R0 (Nat.le_trans hB b0.size) hs hi);have c0:=hS.c0;have c1:=hS.c1;have hsz0:(w.alloc (.cells #[.slice (some ⟨y,0,none⟩) bs.length c,.int .i64 (i:Int)] 159)).heap.size=w.heap.size+1:=by simp
 have HS:=hide hS;have B0:=hide b0;have HSZ:=hide hsz0;clear hS R0 hz0 b0 hsz0;have HNIL:=hide (readP_nil (bs:=bs) (i:=i));have HLE:=hide (readP_le (bs:=bs) (i:=i));generalize readP bs i=RP at *;obtain ⟨L,E,J⟩:=RP;simp only at HP HNIL HLE ⊢
 by_cases h0:E=0
 case neg=>
  have hne:(E==0)=false:=by simpa using h0
  have hne':(E != 0)=true:=by simpa using h0
  have hL:=unhide HNIL h0;subst hL;have HE0:=hide h0;clear h0 HNIL HLE;go_enter Tryz.func130,Tryz.ntmps130;go_wp2_with fail;generalize w.alloc (.cells #[.slice (some ⟨y,0,none⟩) bs.length c,.int .i64 (i:Int)] 159)=w0 at *;refine (unhide HP).mono ?_;rintro e w1 ⟨⟨v,rfl,_⟩,i',S1,_⟩;have fr:Fr6 (fun k=>k=x∨k=y) B w w1:=⟨((unhide B0).mono hB).trans S1.fr.below,fun k hk hn=>(S1.fr.other k (Nat.lt_of_lt_of_le hk (unhide B0).size) (fun e=>e.elim (fun e=>by omega) (fun e=>hn (.inr e)))).trans ((unhide B0).block k hk)⟩;have FR:=hide fr;have hb0:=(unhide B0).size;have RD1:Hid (RD (fun k=>k=x∨k=y) w1 B x bs i):=⟨y,c,rfl,(unhide HS).keep ((S1.kp x (by omega) (by omega)).trans ((unhide B0).block x hxl)) ((S1.kp y (by omega) (by omega)).trans ((unhide B0).block y hyl.2))⟩;have KX:Hid (Kx x w w1):=fun k hk hkx=>(S1.kp k (by omega) (by omega)).trans ((unhide B0).block k hk)
  clear HP S1 fr hb0;go_wp2;go_ret2;exact ⟨⟨none,0,rfl,⟨⟨rfl,.inl rfl⟩,by simp,by omega,fun _=>⟨rfl,rfl⟩⟩,.inl ⟨rfl,rfl,rfl⟩⟩,fun e=>absurd e (unhide HE0),unhide FR,fun _=>unhide RD1,unhide KX⟩
 case pos=>
  subst h0;have hL:=unhide HLE rfl;clear HNIL HLE;go_enter Tryz.func130,Tryz.ntmps130;go_wp2_with fail;generalize w.alloc (.cells #[.slice (some ⟨y,0,none⟩) bs.length c,.int .i64 (i:Int)] 159)=w0 at *;refine (unhide HP).mono ?_;rintro e w1 ⟨⟨v,rfl,hv⟩,i',S1,hi'⟩;obtain ⟨q,rfl,hq,hqb⟩:=hv (by first | rfl | trivial);have hiJ:=hi' (by first | rfl | trivial);subst hiJ;have hsz:=unhide HSZ;obtain ⟨F1,⟨y1,c1',rfl,hS1⟩,hF1⟩:=S1.ex;have z0:=hS1.c0;have z1:=hS1.c1;have hxb:w1.heap[x]?=some (.cells #[.slice (some ⟨y,0,none⟩) bs.length c,.int .i64 (i:Int)] 159 (0,0)):=(S1.fr.other x (by omega) (fun e=>e.elim (fun e=>by omega) (fun e=>hxy e))).trans (((unhide B0).block x hxl).trans (unhide HS).blk);have hxy1:x≠y1:=fun e=>by
   rcases hF1 y1 (.inr rfl) with e1 | e1
   · rcases e1 with e1 | e1
     · exact hS1.ne e1.symm
     · exact hxy (e.trans e1)
   · omega
  have hy1F:∀j,(j=x∨j=y1)→(j=x∨j=y)∨w.heap.size≤j:=fun j hj=>by
   rcases hj with e | e
   · exact .inl (.inl e)
   · rcases hF1 y1 (.inr rfl) with e1 | e1
     · rcases e1 with e1 | e1
       · exact absurd e1.symm hS1.ne
       · exact .inl (.inr (e.trans e1))
     · exact .inr (by omega)
  have d0:w1.cell? ⟨x,0,none⟩=some (.slice (some ⟨y,0,none⟩) bs.length c):=by rw [cell_of_row _ _ _ _ _ _ hxb];rfl
  have d1:w1.cell? ⟨x,1,none⟩=some (.int .i64 (i:Int)):=by rw [cell_of_row _ _ _ _ _ _ hxb];rfl
  have fz:∀j,w1.frozen? ⟨x,j,none⟩=false:=fun j=>frozen_of_row _ _ _ _ _ hxb
  have hset:∀k,k≠x→((w1.setCell ⟨x,0,none⟩ (.slice (some ⟨y1,0,none⟩) bs.length c1')).setCell ⟨x,1,none⟩ (.int .i64 (i':Int))).heap[k]?=w1.heap[k]?:=fun k hk=>by
   rw [Below.heap_setCell _ _ _ _ hk,Below.heap_setCell _ _ _ _ hk]
  have hx2:((w1.setCell ⟨x,0,none⟩ (.slice (some ⟨y1,0,none⟩) bs.length c1')).setCell ⟨x,1,none⟩ (.int .i64 (i':Int))).heap[x]?=some (.cells #[.slice (some ⟨y1,0,none⟩) bs.length c1',.int .i64 (i':Int)] 159 (0,0)):=heap_setCell_same _ x 1 _ _ _ (heap_setCell_same _ x 0 _ _ _ hxb)
  have RD2:Hid (RD (fun k=>k=x∨k=y1) ((w1.setCell ⟨x,0,none⟩ (.slice (some ⟨y1,0,none⟩) bs.length c1')).setCell ⟨x,1,none⟩ (.int .i64 (i':Int))) B x bs i'):=
   ⟨y1,c1',rfl,hBx,hxy1,hx2,own_of_block hS1.row (fun k hk=>hset k (fun e=>by
    simp only [Value.ownBlock] at hk;injection hk with hk
    exact hxy1 (e.symm.trans hk.symm)))⟩
  have FR:Hid (Fr6 (fun k=>k=x∨k=y) B w ((w1.setCell ⟨x,0,none⟩ (.slice (some ⟨y1,0,none⟩) bs.length c1')).setCell ⟨x,1,none⟩ (.int .i64 (i':Int)))):=
   ⟨((((unhide B0).mono hB).trans S1.fr.below).setCell (p:=⟨x,0,none⟩) hBx _).setCell (p:=⟨x,1,none⟩) hBx _,fun k hk hn=>(hset k (fun e=>hn (.inl e))).trans ((S1.fr.other k (by omega) (fun e=>e.elim (fun e=>by omega) (fun e=>hn (.inr e)))).trans ((unhide B0).block k hk))⟩
  have EA:Hid (EArg ((w1.setCell ⟨x,0,none⟩ (.slice (some ⟨y1,0,none⟩) bs.length c1')).setCell ⟨x,1,none⟩ (.int .i64 (i':Int))) (some ⟨q,0,none⟩) L.length L.length L):=
   ⟨⟨rfl,.inr ⟨q,0,rfl,es_of_block ((hset q (by omega)).trans hqb)⟩⟩,Nat.le_refl _,by omega,fun e=>by cases e⟩
  have HY:=hide hy1F;have hb0:=(unhide B0).size;have KX:Hid (Kx x w ((w1.setCell ⟨x,0,none⟩ (.slice (some ⟨y1,0,none⟩) bs.length c1')).setCell ⟨x,1,none⟩ (.int .i64 (i':Int)))):=fun k hk hkx=>(hset k hkx).trans ((S1.kp k (by omega) (by omega)).trans ((unhide B0).block k hk))
  have PQ:Hid (PB ((w1.setCell ⟨x,0,none⟩ (.slice (some ⟨y1,0,none⟩) bs.length c1')).setCell ⟨x,1,none⟩ (.int .i64 (i':Int))) (some ⟨q,0,none⟩) L.length L):=.inr ⟨q,rfl,rfl,(hset q (by omega)).trans hqb⟩;clear hb0;have hxz:¬x=w.heap.size:=by omega
  have hxz':¬w.heap.size=x:=by omega
  clear HP S1 hS1 hF1 hxb hset hx2 hqb hv hi' hy1F hsz;generalize bs.length=N at *;go_wp2;go_ret2;exact ⟨⟨_,_,rfl,unhide EA,unhide PQ⟩,fun _=>⟨_,unhide RD2,unhide HY⟩,unhide FR,fun e=>absurd rfl e,unhide KX⟩
end Go.Proofs.YtlabllgifkklhaaGreatDoor
