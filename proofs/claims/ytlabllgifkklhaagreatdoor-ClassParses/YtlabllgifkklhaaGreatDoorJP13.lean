/- Joined: PkU WdL5 WdL6 WdL7 WdL8. -/
import Derived.Test.YtlabllgifkklhaaGreatDoorJP12
import Derived.Test.YtlabllgifkklhaaGreatDoorJP10
set_option linter.unusedVariables false
set_option maxRecDepth 100000
set_option maxHeartbeats 6400000
namespace Go.Proofs.YtlabllgifkklhaaGreatDoor
open Go.RowKit
theorem entsR_stop {bs:List UInt8} {n f:Nat} {es:List Ent} {j:Nat} (h:n≤es.length):entsR bs n f es j=(es,0,j):=by
 cases f with
 | zero=>rfl
 | succ f=>
  unfold entsR;rw [if_pos h]
theorem entsR_step {bs:List UInt8} {n f:Nat} {es:List Ent} {j:Nat} (h:es.length<n) (h0:(entR bs j).2.1=0):entsR bs n (f+1) es j=entsR bs n f (withE es (entR bs j).1) (entR bs j).2.2:=by
 rw [entsR,if_neg (by omega)];simp only;rw [if_neg (by rw [h0];simp)]
theorem entsR_err {bs:List UInt8} {n f:Nat} {es:List Ent} {j:Nat} (h:es.length<n) (h0:(entR bs j).2.1≠0):entsR bs n (f+1) es j=(es,(entR bs j).2):=by
 rw [entsR,if_neg (by omega)];simp only;rw [if_pos h0]
theorem readP_bad {bs:List UInt8} {i:Nat} (h:(getW bs i 2 false).2.1≠0):readP bs i=([],(getW bs i 2 false).2):=by
 unfold readP;simp only;rw [if_pos h]
theorem readP_none {bs:List UInt8} {i:Nat} (h:(getW bs i 2 false).2.1=0) (hn:(getW bs i 2 false).1<1∨1024<(getW bs i 2 false).1):readP bs i=([],70,(getW bs i 2 false).2.2):=by
 unfold readP;simp only;rw [if_neg (by rw [h];simp),if_pos hn]
theorem readP_err {bs:List UInt8} {i n j:Nat} {es:List Ent} {E:Int×Nat} (h:(getW bs i 2 false).2.1=0) (hn:(getW bs i 2 false).1=(n:Int)) (h1:1≤n) (h2:n≤1024) (he:entsR bs n n [ent0] (getW bs i 2 false).2.2=(es,E)) (h0:E.1≠0):readP bs i=([],E):=by
 unfold readP;simp only;rw [if_neg (by rw [h];simp),if_neg (by omega),hn,Int.toNat_natCast,he,if_pos h0]
theorem readP_end {bs:List UInt8} {i n j:Nat} {es:List Ent} (h:(getW bs i 2 false).2.1=0) (hn:(getW bs i 2 false).1=(n:Int)) (h1:1≤n) (h2:n≤1024) (he:entsR bs n n [ent0] (getW bs i 2 false).2.2=(es,0,j))
 (hl:es.length=n∨es.length=n+1∧(es[n-1]?.getD ent0).tag=5):(checkP (arrE n es)=true→readP bs i=(es,0,j)∧es.length=n∧arrE n es=es)∧(checkP (arrE n es)=false→readP bs i=([],70,j)):=by
 have e1:readP bs i=if (n:Int)<(es.length:Int)∨checkP es=false then ([],70,j) else (es,0,j):=by
  unfold readP;simp only;rw [if_neg (by rw [h];simp),if_neg (by omega),hn,Int.toNat_natCast,he,if_neg (by simp)]
 rcases hl with hl | ⟨hl,h5⟩
 · have ha:=arrE_full hl
   rw [ha];constructor
   · intro hc
     rw [e1,if_neg (by rw [hc,hl];simp)];exact ⟨rfl,hl,rfl⟩
   · intro hc
     rw [e1,if_pos (.inr hc)]
 · have hbad:checkP (arrE n es)=false:=by
    cases hc:checkP (arrE n es) with
    | false=>rfl
    | true=>
     exfalso;have hr:=((checkP_all _).1 hc).2 (n-1) (by rw [arrE_len];omega);have hat:atE (arrE n es) ((n-1:Nat):Int)=es[n-1]?.getD ent0:=by
      rw [atE_nat,arrE_at,if_pos (by omega)];rfl
     unfold rightAt at hr;rw [hat,arrE_len] at hr;split at hr
     · rw [decide_eq_true_eq] at hr
       rw [hr] at h5;simp [ent0] at h5
     · rw [Bool.and_eq_true] at hr
       have:=hr.2;rw [h5] at this;simp at this;omega
   constructor
   · intro hc
     rw [hc] at hbad;cases hbad
   · intro _
     rw [e1,if_pos (.inl (by omega))]
theorem kreadPool_any (F:Nat→Prop) (w:World) (B z:Nat) (bs:List UInt8) (i:Nat) (h:RD F w B z bs i) (hB:B≤w.heap.size) (hs:bs.length≤1000000) (hi:i≤bs.length) :
 Calls Tryz.prog 146 #[.pointer (some ⟨z,0,none⟩)] w fun e w'=>(∃v,e=.returned (.tuple #[v,.int .i64 (readP bs i).2.1])∧((readP bs i).2.1=0→∃q,v=.slice (some ⟨q,0,none⟩) (readP bs i).1.length (readP bs i).1.length∧w.heap.size≤q∧w'.heap[q]?=some (.cells (ev (readP bs i).1).toArray 55 (0,0)))) ∧
  ∃i',RS F w B z bs i' w'∧((readP bs i).2.1=0→i'=(readP bs i).2.2):=by
 have HU:=hide (rs_u (RS.start h) 2 (by omega) hi (by omega));have hle:(getW bs i 2 false).2.2≤bs.length:=getW_le hi
 by_cases h0:(getW bs i 2 false).2.1=0
 case neg=>
  have e1:=readP_bad h0;rw [e1];clear e1;have hne:((getW bs i 2 false).2.1==0)=false:=by simpa using h0
  have hne':((getW bs i 2 false).2.1 != 0)=true:=by simpa using h0
  have HN0:=hide h0;generalize getW bs i 2 false=G at *;obtain ⟨G1,G2,G3⟩:=G;simp only at HU hne hne' HN0 ⊢;clear h h0;go_enter Tryz.func146,Tryz.ntmps146;go_wp2_with fail;refine (unhide HU).mono ?_;rintro e w1 ⟨rfl,S1⟩;have SS1:=hide S1;clear S1 HU;go_wp2;go_ret2;exact ⟨⟨_,rfl,fun e=>absurd e (unhide HN0)⟩,G3,unhide SS1,fun _=>rfl⟩
 by_cases hn:(getW bs i 2 false).1<1∨1024<(getW bs i 2 false).1
 case pos=>
  have e1:=readP_none h0 hn;rw [e1];rw [h0] at HU;clear e1 h0 h;generalize (getW bs i 2 false).1=G1 at *;generalize (getW bs i 2 false).2.2=G3 at *
  rcases hn with hn | hn
  · go_enter Tryz.func146,Tryz.ntmps146
    go_wp2_with fail;refine (unhide HU).mono ?_;rintro e w1 ⟨rfl,S1⟩;have SS1:=hide S1;clear S1 HU;go_wp2;go_ret2;exact ⟨⟨_,rfl,fun e=>absurd e (by simp)⟩,G3,unhide SS1,fun _=>rfl⟩
  · have hn1:¬G1<1:=by omega
    go_enter Tryz.func146,Tryz.ntmps146;go_wp2_with fail;refine (unhide HU).mono ?_;rintro e w1 ⟨rfl,S1⟩;have SS1:=hide S1;clear S1 HU;go_wp2;go_ret2;exact ⟨⟨_,rfl,fun e=>absurd e (by simp)⟩,G3,unhide SS1,fun _=>rfl⟩
 obtain ⟨n,hnn⟩:∃n:Nat,(getW bs i 2 false).1=(n:Int):=⟨(getW bs i 2 false).1.toNat,by omega⟩;have hn1:1≤n:=by omega
 have hn2:n≤1024:=by omega
 have HEND:=hide (fun es j=>readP_end (es:=es) (j:=j) h0 hnn hn1 hn2);have HERR:=hide (fun es E=>readP_err (es:=es) (E:=E) (j:=0) h0 hnn hn1 hn2);rw [h0,hnn] at HU;clear h0 hn hnn h;generalize (getW bs i 2 false).2.2=G3 at *;generalize readP bs i=RP at *;have hm:=make_ents n hn2;have n1:¬(n:Int)<1:=by omega
 have n2:¬(1024:Int)<(n:Int):=by omega
 go_enter Tryz.func146,Tryz.ntmps146;go_wp2_with fail;refine (unhide HU).mono ?_;rintro e w1 ⟨rfl,S1⟩;have b1:Below w1.heap.size w1 (w1.alloc (.cells (ev (List.replicate n ent0)).toArray 55)):=(Below.refl _ _).alloc (Nat.le_refl _) _;have hw1:w.heap.size≤w1.heap.size:=S1.fr.below.size;have Q0:Hid (RQ F w B z bs G3 w1.heap.size (arrE n [ent0]) (w1.alloc (.cells (ev (List.replicate n ent0)).toArray 55))):=by
  obtain ⟨F1,r1,r2⟩:=S1.ex;refine ⟨⟨F1,krd_below r1 b1,fun e=>by have:=(krd_lt r1 _ e).2;omega,r2⟩,(S1.below hB b1).fr,(S1.below hB b1).kp,?_⟩;rw [arrE_zero n hn1];exact heap_alloc_last w1 _
 clear S1 HU b1;go_wp2;generalize w1.alloc (.cells (ev (List.replicate n ent0)).toArray 55)=w2 at *;generalize w1.heap.size=q at *;clear hm
 go_loopw [7] (fun ii wr=>∃(es:List Ent) (f j:Nat),ii=.int .i64 (es.length:Int)∧entsR bs n f es j=entsR bs n n [ent0] G3∧n-es.length≤f∧j≤bs.length∧(es.length≤n∨es.length=n+1∧(es[n-1]?.getD ent0).tag=5)∧1≤es.length∧EntsFit7 es∧RQ F w B z bs j q (arrE n es) wr) (fun ii _=>n+1-(intOf ii).toNat)
 case atStart=>exact ⟨[ent0],n,G3,rfl,rfl,by simp,hle,.inl (by simpa using hn1),by simp,⟨fun y hy=>by simp at hy;subst hy;decide,fun y hy=>by simp at hy;subst hy;exact fit0⟩,unhide Q0⟩
 case round=>
  obtain ⟨es,f,j,rfl,hen,hf,hj,hlen,hpos,hfit,hQ⟩:=hrel
  by_cases hlt:es.length<n
  case neg=>
   have hl2:es.length=n∨es.length=n+1∧(es[n-1]?.getD ent0).tag=5:=by omega
   rw [entsR_stop (by omega)] at hen;obtain ⟨hyes,hno⟩:=unhide HEND es j hen.symm hl2;have hfa:EntsFit7 (arrE n es):=by
    have key:∀y∈arrE n es,y∈es∨y=ent0:=fun y hy=>by
     obtain ⟨k,hk⟩:=List.mem_iff_getElem?.1 hy;rw [arrE_at] at hk;split at hk
     · injection hk with hk
       cases hq:es[k]? with
       | none=>rw [hq] at hk;exact .inr hk.symm
       | some u=>rw [hq] at hk;exact .inl (hk▸List.mem_of_getElem? hq)
     · cases hk
    refine ⟨fun y hy=>?_,fun y hy=>?_⟩
    · rcases key y hy with e | e
      · exact hfit.1 y e
      · rw [e];decide
    · rcases key y hy with e | e
      · exact hfit.2 y e
      · rw [e];exact fit0
   have HC:=hide (kCheck_any wr (some ⟨q,0,none⟩) n n (arrE n es) (hQ.es (arrE_len n es)) (by omega) hfa);have HQ:=hide hQ;have HY:=hide hyes;have HN:=hide hno;have hlt':¬(es.length:Int)<(n:Int):=by omega
   clear hQ hyes hno hen hfa hfit Q0 HEND HERR;cases hc:checkP (arrE n es)
   case true=>
    rw [hc,if_pos rfl] at HC;obtain ⟨e1,e2,e3⟩:=unhide HY hc;have E1:=hide e1;have E2:=hide e2;have E3:=hide e3;clear e1 e2 e3 hc HY HN hl2;generalize es.length=L at *;go_wp2_with fail;refine (unhide HC).mono ?_;rintro e w4 ⟨rfl,f4⟩;have Q4:=hide ((unhide HQ).below hB f4);clear HC f4 HQ;go_wp2;go_ret2;have q4:=unhide Q4;rw [unhide E3] at q4;rw [unhide E1];refine ⟨⟨_,rfl,fun _=>⟨q,?_,hw1,q4.blk⟩⟩,j,q4.done,fun _=>rfl⟩;have hL:es.length=n:=by
     have:=congrArg List.length (unhide E3);rw [arrE_len] at this;exact this.symm
    show Value.slice _ _ _=Value.slice _ es.length es.length;rw [hL]
   case false=>
    rw [hc,if_neg (by simp)] at HC;have E1:=hide (unhide HN hc);clear hc HY HN hl2;generalize es.length=L at *;go_wp2_with fail;refine (unhide HC).mono ?_;rintro e w4 ⟨rfl,f4⟩;have Q4:=hide ((unhide HQ).below hB f4);clear HC f4 HQ;go_wp2;go_ret2;rw [unhide E1];exact ⟨⟨_,rfl,fun e=>absurd e (by simp)⟩,j,(unhide Q4).done,fun _=>rfl⟩
  case pos=>
   have hlt1:(es.length:Int)<(n:Int):=by omega
   obtain ⟨f',rfl⟩:∃f',f=f'+1:=⟨f-1,by omega⟩;obtain ⟨F',r1,r2,r3⟩:=hQ.ex;have HC:=hide (kreadEntry_any F' wr B z bs j r1 (Nat.le_trans hB hQ.fr.below.size) (by omega) hj);have hjl:=entR_le (bs:=bs) hj;have hef:=entR_fit (bs:=bs) (i:=j) hs;have HST:=hide (fun h0=>entsR_step (bs:=bs) (n:=n) (f:=f') (es:=es) (j:=j) hlt h0);have HER:=hide (fun h0=>entsR_err (bs:=bs) (n:=n) (f:=f') (es:=es) (j:=j) hlt h0);have HQ:=hide hQ;have HEN:=hide hen;have HFT:=hide hfit;have hR2:=hide r2;have hR3:=hide r3;clear hQ hen hfit r1 r2 r3 Q0;generalize entR bs j=G at *;obtain ⟨⟨xt,xtx,xn,xa,xb⟩,G2,J2⟩:=G;unfold entV at HC;simp only at HC hjl hef HST HER;obtain ⟨xs,hxs⟩:∃xs,(⟨xtx.toArray⟩:ByteArray)=xs:=⟨_,rfl⟩;rw [hxs] at HC;have HXS:=hide hxs;clear hxs;have HK:Hid (∃K,K=es.length):=⟨_,rfl⟩;obtain ⟨K,hK⟩:=unhide HK;rw [←hK] at hlt1 ⊢;have hK0:(0:Int)≤(K:Int):=by omega
   have HKK:=hide hK;clear hK HK;go_wp2_with fail;refine (unhide HC).mono ?_;rintro e w4 ⟨rfl,S4⟩;have q4:=(unhide HQ).call (unhide hR2) (unhide hR3) S4;have q5:=q4.store hB hw1 K ⟨xt,xtx,xn,xa,xb⟩ (by rw [arrE_len];have:=unhide HKK;omega);simp only at q5;rw [unhide HXS] at q5;have hb4:=q4.blk;have cell:∀t,t<n*5→∃u,w4.cell? ⟨q,t,none⟩=some u:=fun t ht=>by
    rw [cell_of_row _ _ _ _ _ _ hb4];refine ⟨_,Array.getElem?_eq_getElem (by simp [ev_len,arrE_len];omega)⟩
   have hKn:K<n:=by have:=unhide HKK;omega
   obtain ⟨u0,c0⟩:=cell (K*5) (by omega);obtain ⟨u1,c1⟩:=cell (K*5+1) (by omega);obtain ⟨u2,c2⟩:=cell (K*5+2) (by omega);obtain ⟨u3,c3⟩:=cell (K*5+3) (by omega);obtain ⟨u4,c4⟩:=cell (K*5+4) (by omega);have fz:∀t,w4.frozen? ⟨q,t,none⟩=false:=fun t=>frozen_of_row _ _ _ _ _ hb4
   have Q4:=hide q4;have Q5:=hide q5;clear HC S4 q4 q5 hb4 cell HQ hR2 hR3
   by_cases h0:G2=0
   case neg=>
    have hne:(G2==0)=false:=by simpa using h0
    have hne':(G2 != 0)=true:=by simpa using h0
    have E1:=hide (unhide HERR es (G2,J2) ((unhide HEN).symm.trans (unhide HER h0)) h0);have HG0:=hide h0;clear h0 HST HER HEN HEND HERR;go_wp2;go_ret2;rw [unhide E1];exact ⟨⟨_,rfl,fun e=>absurd e (unhide HG0)⟩,J2,(unhide Q5).done,fun _=>rfl⟩
   case pos=>
    subst h0;have HEN2:=hide ((unhide HST rfl).symm.trans (unhide HEN));have HN:Hid (∀W,Calls Tryz.prog 135 #[.int .i64 xt] W fun e w'=>e=.returned (.int .i64 (if xt=5 then 2 else 1))∧w'=W):=fun W=>knumbers_any W xt
    clear HST HER HEN HEND HERR Q4;go_wp2_with fail;have hwe:=withE_eq es ⟨xt,xtx,xn,xa,xb⟩;have hKe:=unhide HKK;have Q6:Hid (RQ F w B z bs J2 q (arrE n (withE es ⟨xt,xtx,xn,xa,xb⟩)) (((((w4.setCell ⟨q,K*5,none⟩ (.int .i64 xt)).setCell ⟨q,K*5+1,none⟩ (.string xs)).setCell ⟨q,K*5+2,none⟩ (.int .i64 xn)).setCell ⟨q,K*5+3,none⟩ (.int .i64 xa)).setCell ⟨q,K*5+4,none⟩ (.int .i64 xb))):=by
     have:=unhide Q5;rw [hKe,←arrE_with (by omega)] at this;rw [hKe];exact this
    have HFT2:=hide ((unhide HFT).more hef);generalize ((((w4.setCell ⟨q,K*5,none⟩ (.int .i64 xt)).setCell ⟨q,K*5+1,none⟩ (.string xs)).setCell ⟨q,K*5+2,none⟩ (.int .i64 xn)).setCell ⟨q,K*5+3,none⟩ (.int .i64 xa)).setCell ⟨q,K*5+4,none⟩ (.int .i64 xb)=w5 at *;have HL5:Hid (xt=5→(withE es ⟨xt,xtx,xn,xa,xb⟩).length=K+2∧((withE es ⟨xt,xtx,xn,xa,xb⟩)[K]?.getD ent0).tag=5):=fun h5=>by
     rw [hwe,if_pos h5,List.length_append,←hKe];refine ⟨rfl,?_⟩;rw [List.getElem?_append_right (by omega),hKe,Nat.sub_self];exact h5
    have HL1:Hid (xt≠5→(withE es ⟨xt,xtx,xn,xa,xb⟩).length=K+1):=fun h5=>by
     rw [hwe,if_neg h5,List.length_append,←hKe];rfl
    generalize withE es ⟨xt,xtx,xn,xa,xb⟩=es' at *;refine (unhide HN w5).mono ?_;rintro e w6 ⟨rfl,e0⟩;have e0':=e0.symm;clear e0;subst e0';clear Q5 HFT hwe hKe c0 c1 c2 c3 c4 fz HN hef;have hf2:n-K≤f'+1:=by have:=unhide HKK;omega
    by_cases h5:xt=5
    · rw [if_pos h5]
      obtain ⟨l1,l2⟩:=unhide HL5 h5;have L1:=hide l1;have L2:=hide l2;clear HL5 HL1 l1 l2 h5;go_wp2;go_roundw
      case rel=>
       have l1:=unhide L1;refine ⟨es',f',J2,?_,unhide HEN2,by omega,hjl,?_,by omega,unhide HFT2,unhide Q6⟩
       · rw [l1]
         first | rfl | go_num
       · by_cases hb:K+2≤n
         · exact .inl (by omega)
         · refine .inr ⟨by omega,?_⟩
           rw [show n-1=K by omega];exact unhide L2
      case measure=>simp [intOf];omega
    · rw [if_neg h5]
      have L1:=hide (unhide HL1 h5);clear HL5 HL1 h5;go_wp2;go_roundw
      case rel=>
       have l1:=unhide L1;refine ⟨es',f',J2,?_,unhide HEN2,by omega,hjl,.inl (by omega),by omega,unhide HFT2,unhide Q6⟩;rw [l1]
       first | rfl | go_num
      case measure=>simp [intOf];omega
theorem step_copy_none {P:Program} {ops:Array Oper} {o:Oper} {a:Act} {w:World} {K:Act→World→Prop} {Q:Exit→Act→World→Prop} {E:Prop} (hgd:o.guard=none) (d s:Operand) (dT sT:TypeId)
 (ho:o.op=.call { callee:=.builtin .copy,args:=#[d,s],argTypes:=#[dT,sT] }) (elem:TypeId) (hu:P.underlying dT=some (.slice elem)) (hsz:(P.info? elem).map (·.size)=some 1)
 (dp sp:Option Addr) (dLen dCap sLen sCap:Nat) (hd:a.eval d=.slice dp dLen dCap) (hs:a.eval s=.slice sp sLen sCap) (hn:Nat.min sLen dLen=0)
 (h:K (a.put o.dst (goInt 0)) w):if Region.wanted o (yielded ops a.tmps)=true then Oper.wp P o a w K Q else E:=by
 rw [if_pos (by simp [Region.wanted,hgd])];have hrun:=run_copy_none (P:=P) w dT sT o.type elem dp sp dLen dCap sLen sCap hu hsz hn;unfold Oper.wp;simp [execOp,ho,resolve,invoke,builtin,hd,hs,hrun,Result.andThen];exact h
theorem stepN6_append {w:World} {ops:Array Oper} {o:Oper} {a:Act} {K:Act→World→Prop} {Q:Exit→Act→World→Prop} {E:Prop} (hgd:o.guard=none) (s x:Operand) (ho:o.op=.call { callee:=.builtin .append,args:=#[s,x],argTypes:=#[29,29] })
 (base g n cap:Nat) (xs:List UInt8) (hs:a.eval s=.slice (some ⟨g,0,none⟩) n cap) (hown:w.ownsRow base 5 1 (.slice (some ⟨g,0,none⟩) n cap) n (bv xs)) (src:Option Addr) (m c:Nat) (ys:List UInt8) (hx:a.eval x=.slice src m c) (hb:Bs w src m ys) (hnil:src=none→m=0∧c=0)
 (hsm:n+m≤140737488355328) (hbase:base≤w.heap.size) (h:∀g' c' w',w'.ownsRow base 5 1 (.slice (some ⟨g',0,none⟩) (n+m) c') (n+m) (bv (xs++ys))→w.grownBy w' (some g)→(g'=g∨w.heap.size≤g')→K (a.put o.dst (.slice (some ⟨g',0,none⟩) (n+m) c')) w') :
 if Region.wanted o (yielded ops a.tmps)=true then Oper.wp Tryz.prog o a w K Q else E:=by
 rw [if_pos (by simp [Region.wanted,hgd])];obtain ⟨i0,hi,hz0,hz1,hz2⟩:=info_parts infoB;cases src with
 | none=>
  obtain ⟨rfl,rfl⟩:=hnil rfl;have h0:ys=[]:=List.eq_nil_of_length_eq_zero hb.1;subst h0;have hrun:=run_append_owned_none (P:=Tryz.prog) (w:=w) base 29 o.type 5 i0 1 Tryz.underlying29 hi _ n (bv xs) hown;unfold Oper.wp;simp [execOp,ho,resolve,invoke,builtin,hs,hx,hrun,Result.andThen];exact h g cap w (by rw [List.append_nil];exact hown) ⟨rfl,rfl,rfl,Nat.le_refl _,fun _ _ _=>rfl⟩ (.inl rfl)
 | some ad=>
  obtain ⟨v',w',hr,h2,h3,h4,h5⟩:=run_append_own_at (P:=Tryz.prog) w base 29 o.type 5 i0 (.int .u8 0) 1 1 Tryz.underlying29 hi hz0 hz1 hz2 rfl (by decide) _ n (bv xs) hown ad m c (bv ys) (by rw [bv_length,hb.1];omega) (hb.at.2 ad rfl) (bv_one _) (by unfold maxLen;omega) (by omega) hbase;unfold Oper.wp;simp [execOp,ho,resolve,invoke,builtin,hs,hx,hr,Result.andThen]
  rcases h2.2 with ⟨e,_⟩ | ⟨g',c',cur,rfl,_⟩
  · have:=(h4.1 e).1
    cases this
  · refine h g' c' w' (by rw [bv_append];exact h2) h3 ?_
    rcases h5 with h5 | h5
    · simp [Value.ownBlock] at h5
      exact .inl h5
    · simp [Value.ownBlock] at h5
      exact .inr (by omega)
theorem Sp.stored {T:TypeId} {W:World} {B x y n c:Nat} {bs:List UInt8} {v0 v1:Value} (hx:B≤x) (hb:W.heap[x]?=some (.cells #[v0,v1] T (0,0))) (ho:W.ownsRow B 5 1 (.slice (some ⟨y,0,none⟩) n c) n (bv bs)) (hl:bs.length=n) (hne:x≠y) (K:Nat) :
 Sp T ((W.setCell ⟨x,0,none⟩ (.slice (some ⟨y,0,none⟩) n c)).setCell ⟨x,1,none⟩ (.int .i64 (K:Int))) B x y c bs K:=by
 subst hl;refine ⟨hx,hne,pair_set _ _ hb,own_of_block ho (fun k hk=>?_)⟩;simp [Value.ownBlock] at hk;subst hk;exact (Below.heap_setCell _ _ _ _ hne.symm).trans (Below.heap_setCell _ _ _ _ hne.symm)
structure PutOk (T:TypeId) (w:World) (B x y:Nat) (bs:List UInt8) (K:Nat) (W:World):Prop where
 sp:∃y' c',Sp T W B x y' c' bs K∧(y'=y∨w.heap.size≤y')
 bel:Below B w W
 oth:∀k,k<w.heap.size→k≠x→k≠y→W.heap[k]?=w.heap[k]?
theorem dput_end (T:TypeId) (w:World) (B x y c:Nat) (bs:List UInt8) (h:Sp T w B x y c bs bs.length) (a:Option Addr) (m d:Nat) (ys:List UInt8) (hb:Arg w a m d ys) (hfar:∀b o,a=some ⟨b,o,none⟩→0<m→b≠x∧b≠y) (hn:bs.length+m≤140737488355328) :
 Calls Tryz.prog 120 #[.pointer (some ⟨x,0,none⟩),.slice a m d] w fun e w'=>e=.returned (.tuple #[])∧PutOk T w B x y (bs++ys) (bs.length+m) w':=by
 have c0:=h.c0;have c1:=h.c1;have hcap:=own_cap h.row;have f0:=h.fz 0;have f1:=h.fz 1;have HS:=hide h;have HA:=hide hb;have hr:=hb.room;have hmo:=hb.most;have hyl:=hb.bs.1;have hBw:B≤w.heap.size:=Nat.le_trans h.hx (Nat.le_of_lt h.xlt);have hxlt:=h.xlt;have hr1:(m:Int)≤(d:Int):=by omega
 have hr2:(d:Int)≤9223372036854775807:=by omega
 have hBx:=h.hx
 have HEND:Hid (∀(j:Nat) (g' c':Nat) (W:World),W.ownsRow B 5 1 (.slice (some ⟨g',0,none⟩) (bs.length+m) c') (bs.length+m) (bv (bs++ys))→(w.drewN j).grownBy W (some y)→(g'=y∨w.heap.size≤g') →
  (W.cell? ⟨x,1,none⟩=some (.int .i64 (bs.length:Int))∧(∀q,W.frozen? ⟨x,q,none⟩=false)∧(∃u,W.cell? ⟨x,0,none⟩=some u)) ∧
  PutOk T w B x y (bs++ys) (bs.length+m) ((W.setCell ⟨x,0,none⟩ (.slice (some ⟨g',0,none⟩) (bs.length+m) c')).setCell ⟨x,1,none⟩ (.int .i64 ((bs.length+m:Nat):Int)))):=fun j g' c' W o1 g1 hat=>by
  have hblk:W.heap[x]?=_:=(g1.block x hxlt (by simpa using h.ne)).trans h.blk;have hne:x≠g':=by
   rcases hat with e | e
   · rw [e];exact h.ne
   · omega
  refine ⟨⟨by rw [cell_of_row _ _ _ _ _ _ hblk];rfl,fun q=>frozen_of_row _ _ _ _ _ hblk,_,by rw [cell_of_row _ _ _ _ _ _ hblk];rfl⟩,⟨g',c',Sp.stored hBx hblk o1 (by rw [List.length_append,hyl]) hne _,hat⟩,?_,fun k hk h1 h2=>?_⟩
  · have f:Below B w W:=((below_drewN (Below.refl _ _) j).grown g1 (by simpa using hBw) (fun k hk=>by simp at hk;rw [←hk];exact h.y.1))
    exact (f.setCell (p:=⟨x,0,none⟩) hBx _).setCell (p:=⟨x,1,none⟩) hBx _
  · exact ((Below.heap_setCell _ _ _ _ h1).trans (Below.heap_setCell _ _ _ _ h1)).trans (g1.block k hk (by simpa using h2))
 have hown:Hid (∀j,(w.drewN j).ownsRow B 5 1 (.slice (some ⟨y,0,none⟩) bs.length c) bs.length (bv bs)):=fun j=>(h.drewN j).row
 have hsrc:Hid (∀j,Bs (w.drewN j) a m ys):=fun j=>hb.bs.below (below_drewN (Below.refl _ _) j)
 have hnl:=hide hb.nil;clear h hb hfar;obtain ⟨M,hM⟩:∃M,M=bs.length+m:=⟨_,rfl⟩;rw [←hM] at HEND;have k1:(bs.length:Int)+(m:Int)=(M:Int):=by omega
 have k2:IntKind.i64.wrap (M:Int)=(M:Int):=by rw [IntKind.wrap_i64];omega
 have k3:(M:Int)≤9223372036854775807:=by omega
 generalize hnb:bs.length=n at *;clear hnb;have l1:(n:Int)≤(c:Int):=by omega
 have l2:(c:Int)≤9223372036854775807:=by omega
 have HM:=hide hM;clear hM;go_enter Tryz.func120,Tryz.ntmps120;go_wp2_with fail
 go_region_held_law (fun W=>W.cell? ⟨x,0,none⟩=some (.slice (some ⟨y,0,none⟩) n c)∧W.cell? ⟨x,1,none⟩=some (.int .i64 (n:Int))) (go_keep)
  (first | (refine step_copy_none rfl (.tmp 13) (.tmp 14) 29 29 rfl 5 Tryz.underlying29 (by kernel_rfl) _ _ _ _ _ _ (by rfl) (by rfl) (by simp) ?_))
 go_simp;go_upto_region 1 with fail
 go_region_law (first | (refine stepN6_append rfl (.tmp 20) (.tmp 23) rfl B y n c bs (by rfl) (by exact unhide hown 2) _ m d ys (by rfl) (by first | exact unhide hsrc 2) (by exact unhide hnl) (by omega) (by first | exact hBw) ?_;intro g6 c6 w6;rw [←unhide HM];intro o6 gr6 hat6;have q6:=unhide HEND 2 g6 c6 w6 o6 gr6 hat6;have k61:=q6.1.1;have k62:=q6.1.2.1 0;have k63:=q6.1.2.1 1;obtain ⟨u6,k60⟩:=q6.1.2.2;have Q6:=hide q6.2;clear q6 o6 gr6 hat6))
 clear HEND hown hsrc hnl c0 c1 f0 f1 HS HA;go_wp2
 all_goals
  go_end0;exact ⟨rfl,by rw [←unhide HM];exact unhide Q6⟩
theorem stepP_copy {w:World} {ops:Array Oper} {o:Oper} {a:Act} {K:Act→World→Prop} {Q:Exit→Act→World→Prop} {E:Prop} (hgd:o.guard=none) (d s:Operand)
 (ho:o.op=.call { callee:=.builtin .copy,args:=#[d,s],argTypes:=#[29,29] }) (B y n c i:Nat) (bs:List UInt8) (u:UInt8) (hown:w.ownsRow B 5 1 (.slice (some ⟨y,0,none⟩) n c) n (bv bs)) (hi:i<n)
 (dLen dCap:Nat) (hd:a.eval d=.slice (some ⟨y,i,none⟩) dLen dCap) (hdl:0<dLen) (z sCap:Nat) (hs:a.eval s=.slice (some ⟨z,0,none⟩) 1 sCap) (hz:w.cell? ⟨z,0,none⟩=some (.int .u8 (u.toNat:Int)))
 (h:∀w',w'.ownsRow B 5 1 (.slice (some ⟨y,0,none⟩) n c) n (bv (bs.set i u))→(∀k,k≠y→w'.heap[k]?=w.heap[k]?)→w'.heap.size=w.heap.size→Below B w w'→K (a.put o.dst (.int .i64 1)) w') :
 if Region.wanted o (yielded ops a.tmps)=true then Oper.wp Tryz.prog o a w K Q else E:=by
 rw [if_pos (by simp [Region.wanted,hgd])]
 rcases hown.2 with ⟨e,_⟩ | ⟨g,cap,cur,e,hB,hg,hnc,hcm,hcs,htake⟩
 · cases e
 · simp only [Value.slice.injEq,Option.some.injEq,Addr.mk.injEq,and_true,true_and] at e
   obtain ⟨rfl,rfl⟩:=e;have hl:=hown.1;rw [Nat.mul_one] at hl hcs htake
   have hrun:=run_copy_row (P:=Tryz.prog) w 29 29 o.type 5 y i dLen dCap ⟨z,0,none⟩ 1 sCap cur 5 [.int .u8 (u.toNat:Int)] Tryz.underlying29 (by kernel_rfl) hg (by show 1=min 1 dLen;omega) (fun j v hj=>by
    match j with
    | 0=>
     simp at hj;subst hj
     simpa [Addr.add_mid] using hz
    | j+1=>simp at hj) (by show i+1≤_;omega) (by simp [Value.oneCell'])
   unfold Oper.wp;simp [execOp,ho,resolve,invoke,builtin,hd,hs,hrun,Result.andThen];refine h _ ⟨?_,.inr ⟨y,c,_,rfl,hB,setRow_heap w y cur _ _ _ hg,hnc,hcm,?_,?_⟩⟩ (fun k hk=>setRow_other w y k _ hk) (by simp [World.setRow]) ⟨rfl,rfl,rfl,by simp [World.setRow],fun k hk=>setRow_other w y k _ (by omega)⟩
   · rw [bv_length,List.length_set]
     rw [bv_length] at hl;omega
   · simp
     omega
   · have h2:bv (bs.set i u)=(bv bs).set i (.int .u8 (u.toNat:Int)):=by simp [bv,List.map_set]
     rw [h2,←htake,Nat.mul_one];have h3:cur.toList.take i++(Value.int .u8 (u.toNat:Int)::cur.toList.drop (i+1))=cur.toList.set i (.int .u8 (u.toNat:Int)):=by
      rw [List.set_eq_take_append_cons_drop,if_pos (by rw [Array.length_toList];omega)]
     show List.take n (cur.toList.take i++(Value.int .u8 (u.toNat:Int)::cur.toList.drop (i+1)))=_;rw [h3,List.take_set]
theorem stepF_append {w:World} {ops:Array Oper} {o:Oper} {a:Act} {K:Act→World→Prop} {Q:Exit→Act→World→Prop} {E:Prop} (hgd:o.guard=none) (s x:Operand) (ho:o.op=.call { callee:=.builtin .append,args:=#[s,x],argTypes:=#[29,29] })
 (base g n cap:Nat) (xs:List UInt8) (hs:a.eval s=.slice (some ⟨g,0,none⟩) n cap) (hown:w.ownsRow base 5 1 (.slice (some ⟨g,0,none⟩) n cap) n (bv xs)) (ad:Addr) (c:Nat) (hx:a.eval x=.slice (some ad) 0 c)
 (h:∀w',w'.ownsRow base 5 1 (.slice (some ⟨g,0,none⟩) n cap) n (bv xs)→w.grownBy w' (some g)→K (a.put o.dst (.slice (some ⟨g,0,none⟩) n cap)) w') :
 if Region.wanted o (yielded ops a.tmps)=true then Oper.wp Tryz.prog o a w K Q else E:=by
 rw [if_pos (by simp [Region.wanted,hgd])];obtain ⟨i0,hi,hz0,hz1,hz2⟩:=info_parts infoB;obtain ⟨w',hr,h2,h3⟩:=run_append_fits (P:=Tryz.prog) w base 29 o.type 5 i0 1 Tryz.underlying29 hi hz1 g n cap (bv xs) hown ad 0 c [] rfl (fun j u hu=>by simp at hu) (fun u hu=>by simp at hu) (own_cap hown).1;unfold Oper.wp;simp [execOp,ho,resolve,invoke,builtin,hs,hx,hr,Result.andThen];rw [Nat.add_zero,List.append_nil] at h2;exact h w' h2 h3
structure PutIn (T:TypeId) (w:World) (B x y c:Nat) (bs:List UInt8) (K:Nat) (W:World):Prop where
 sp:Sp T W B x y c bs K
 bel:Below B w W
 oth:∀k,k<w.heap.size→k≠x→k≠y→W.heap[k]?=w.heap[k]?
theorem dput_in (T:TypeId) (w:World) (B x y c i:Nat) (bs:List UInt8) (h:Sp T w B x y c bs i) (hi:i<bs.length) (z:Nat) (u:UInt8) (hz:w.cell? ⟨z,0,none⟩=some (.int .u8 (u.toNat:Int))) (hn:bs.length≤140737488355328) :
 Calls Tryz.prog 120 #[.pointer (some ⟨x,0,none⟩),.slice (some ⟨z,0,none⟩) 1 1] w fun e w'=>e=.returned (.tuple #[])∧PutIn T w B x y c (bs.set i u) (i+1) w':=by
 have c0:=h.c0;have c1:=h.c1;have hcap:=own_cap h.row;have hBx:=h.hx;have hBw:B≤w.heap.size:=Nat.le_trans h.hx (Nat.le_of_lt h.xlt);have hown:Hid (∀j,(w.drewN j).ownsRow B 5 1 (.slice (some ⟨y,0,none⟩) bs.length c) bs.length (bv bs)):=fun j=>(h.drewN j).row
 have hci:¬c=i:=by omega
 have HA:Hid (∀j (W:World),(∀k,k≠y→W.heap[k]?=(w.drewN j).heap[k]?)→W.cell? ⟨x,0,none⟩=some (.slice (some ⟨y,0,none⟩) bs.length c)∧W.cell? ⟨x,1,none⟩=some (.int .i64 (i:Int))∧W.frozen? ⟨x,0,none⟩=false∧W.frozen? ⟨x,1,none⟩=false):=fun j W hW=>by
  have hblk:W.heap[x]?=_:=(hW x h.ne).trans h.blk;exact ⟨by rw [cell_of_row _ _ _ _ _ _ hblk];rfl,by rw [cell_of_row _ _ _ _ _ _ hblk];rfl,frozen_of_row _ _ _ _ _ hblk,frozen_of_row _ _ _ _ _ hblk⟩
 have HE:Hid (∀(j j':Nat) (W W':World),(∀k,k≠y→W.heap[k]?=(w.drewN j).heap[k]?)→W.heap.size=(w.drewN j).heap.size→Below B (w.drewN j) W→(W.drewN j').grownBy W' (some y)→W'.ownsRow B 5 1 (.slice (some ⟨y,0,none⟩) bs.length c) bs.length (bv (bs.set i u)) →
  W'.cell? ⟨x,0,none⟩=some (.slice (some ⟨y,0,none⟩) bs.length c)∧W'.cell? ⟨x,1,none⟩=some (.int .i64 (i:Int))∧W'.frozen? ⟨x,0,none⟩=false∧W'.frozen? ⟨x,1,none⟩=false ∧
  PutIn T w B x y c (bs.set i u) (i+1) ((W'.setCell ⟨x,0,none⟩ (.slice (some ⟨y,0,none⟩) bs.length c)).setCell ⟨x,1,none⟩ (.int .i64 ((i+1:Nat):Int)))):=fun j j' W W' hW hsz hb g1 o1=>by
  have hlW:∀k,k<w.heap.size→k≠y→W'.heap[k]?=w.heap[k]?:=fun k hk hy=>(g1.block k (by show k<W.heap.size;rw [hsz];exact hk) (by simpa using hy)).trans (hW k hy)
  have hblk:W'.heap[x]?=_:=(hlW x h.xlt h.ne).trans h.blk;refine ⟨by rw [cell_of_row _ _ _ _ _ _ hblk];rfl,by rw [cell_of_row _ _ _ _ _ _ hblk];rfl,frozen_of_row _ _ _ _ _ hblk,frozen_of_row _ _ _ _ _ hblk,?_,?_,fun k hk h1 h2=>?_⟩
  · have:=Sp.stored (bs:=bs.set i u) hBx hblk o1 (by rw [List.length_set]) h.ne (i+1)
    exact this
  · have f1:Below B w W:=(below_drewN (Below.refl _ _) j).trans hb
    have f2:Below B w W':=(below_drewN f1 j').grown g1 (by show B≤W.heap.size;rw [hsz];exact hBw) (fun k hk=>by simp at hk;rw [←hk];exact h.y.1);exact (f2.setCell (p:=⟨x,0,none⟩) hBx _).setCell (p:=⟨x,1,none⟩) hBx _
  · exact ((Below.heap_setCell _ _ _ _ h1).trans (Below.heap_setCell _ _ _ _ h1)).trans (hlW k hk h2)
 have HZ:=hide hz;clear h hz;obtain ⟨M,hM⟩:∃M,M=i+1:=⟨_,rfl⟩;rw [←hM] at HE ⊢;have k1:(i:Int)+1=(M:Int):=by omega
 have k2:IntKind.i64.wrap (M:Int)=(M:Int):=by rw [IntKind.wrap_i64];omega
 have k3:(M:Int)≤9223372036854775807:=by omega
 generalize hnb:bs.length=n at *;have k4:(n:Int)≤(c:Int):=by omega
 have k5:(i:Int)≤(n:Int):=by omega
 have k6:(c:Int)≤9223372036854775807:=by omega
 clear hnb hM;go_enter Tryz.func120,Tryz.ntmps120;go_wp2_with fail
 go_region_held_law (fun W=>W.cell? ⟨x,0,none⟩=some (.slice (some ⟨y,0,none⟩) n c)∧W.cell? ⟨x,1,none⟩=some (.int .i64 (i:Int))) (go_keep)
  (first | (refine stepP_copy rfl (.tmp 13) (.tmp 14) rfl B y n c i bs u (by exact unhide hown 1) hi (n-i) (c-i) (by rfl) (by omega) z 1 (by rfl) (by exact unhide HZ) ?_;intro w5 o5 oth5 sz5 f5;obtain ⟨k50,k51,k52,k53⟩:=unhide HA 1 w5 oth5;have O5:=hide o5;have OT5:=hide oth5;have SZ5:=hide sz5;have F5:=hide f5;clear o5 oth5 sz5 f5))
 clear HA hown HZ c0 c1;go_simp;go_upto_region 1 with fail
 go_region_law (first | (refine stepF_append rfl (.tmp 20) (.tmp 23) rfl B y n c (bs.set i u) (by rfl) (by exact unhide O5) _ 0 (by rfl) ?_;intro w6 o6 g6;obtain ⟨k60,k61,k62,k63,q6⟩:=unhide HE 1 1 w5 w6 (unhide OT5) (unhide SZ5) (unhide F5) g6 o6;have Q6:=hide q6;clear q6 o6 g6))
 clear HE O5 OT5 SZ5 F5 k50 k51 k52 k53;go_wp2;go_end0;exact ⟨rfl,unhide Q6⟩
def ovr (bs:List UInt8) (i:Nat) (l:List UInt8):List UInt8:=bs.take i++l++bs.drop (i+l.length)
theorem ovr_nil (bs:List UInt8) (i:Nat):ovr bs i []=bs:=by simp [ovr]
theorem ovr_end (bs l:List UInt8):ovr bs bs.length l=bs++l:=by
 unfold ovr;rw [List.take_of_length_le (Nat.le_refl _),List.drop_eq_nil_of_le (by omega),List.append_nil]
theorem ovr_len (bs:List UInt8) (i:Nat) (l:List UInt8) (hi:i≤bs.length):(ovr bs i l).length=max bs.length (i+l.length):=by
 unfold ovr;simp;omega
def put1 (bs:List UInt8) (i:Nat) (u:UInt8):List UInt8:=if i<bs.length then bs.set i u else bs++[u]
theorem ovr_put (bs:List UInt8) (i:Nat) (l:List UInt8) (u:UInt8) (hi:i≤bs.length):put1 (ovr bs i l) (i+l.length) u=ovr bs i (l++[u]):=by
 unfold put1;rw [ovr_len bs i l hi]
 by_cases h:i+l.length<bs.length
 · rw [if_pos (by omega)]
   unfold ovr;have hl:(bs.take i++l).length=i+l.length:=by simp;omega
   rw [List.set_append_right _ _ (by omega),hl,Nat.sub_self,List.append_assoc (bs.take i),List.append_assoc (bs.take i),List.append_assoc l]
   congr 2
   rw [List.length_append,List.length_singleton];rw [←Nat.add_assoc,List.drop_eq_getElem_cons h];rfl
 · rw [if_neg (by omega)]
   unfold ovr;rw [List.drop_eq_nil_of_le (by omega),List.drop_eq_nil_of_le (by simp;omega)];simp
structure PutB (T:TypeId) (w:World) (B x y c i n:Nat) (bs:List UInt8) (W:World):Prop where
 sp:∃y' c',Sp T W B x y' c' bs (i+1)∧(y'=y∨w.heap.size≤y')∧(i<n→y'=y∧c'=c)
 bel:Below B w W
 oth:∀k,k<w.heap.size→k≠x→k≠y→W.heap[k]?=w.heap[k]?
theorem dput_one (T:TypeId) (w:World) (B x y c i:Nat) (bs:List UInt8) (h:Sp T w B x y c bs i) (hi:i≤bs.length) (z:Nat) (u:UInt8) (hz:w.cell? ⟨z,0,none⟩=some (.int .u8 (u.toNat:Int))) (hzx:z≠x) (hzy:z≠y) (hn:bs.length+1≤140737488355328) :
 Calls Tryz.prog 120 #[.pointer (some ⟨x,0,none⟩),.slice (some ⟨z,0,none⟩) 1 1] w fun e w'=>e=.returned (.tuple #[])∧PutB T w B x y c i bs.length (put1 bs i u) w':=by
 unfold put1
 by_cases hlt:i<bs.length
 · rw [if_pos hlt]
   refine (dput_in T w B x y c i bs h hlt z u hz (by omega)).mono ?_;rintro e w' ⟨rfl,r⟩;exact ⟨rfl,⟨y,c,r.sp,.inl rfl,fun _=>⟨rfl,rfl⟩⟩,r.bel,r.oth⟩
 · obtain rfl:i=bs.length:=by omega
   rw [if_neg hlt]
   have hb:Arg w (some ⟨z,0,none⟩) 1 1 [u]:=⟨⟨rfl,.inr ⟨z,0,rfl,(fun e=>by cases e),fun ad e j v hv=>by
    injection e with e
    subst e
    match j with
    | 0=>
     simp [bv] at hv;subst hv
     simpa [Addr.add_mid] using hz
    | j+1=>simp [bv] at hv⟩⟩,by omega,by omega,fun e=>by cases e⟩
   refine (dput_end T w B x y c bs h (some ⟨z,0,none⟩) 1 1 [u] hb (fun b o e _=>by
    injection e with e
    injection e with e1
    subst e1;exact ⟨hzx,hzy⟩) hn).mono ?_
   rintro e w' ⟨rfl,r⟩;obtain ⟨y',c',h1,h2⟩:=r.sp;exact ⟨rfl,⟨y',c',h1,h2,fun h=>absurd h hlt⟩,r.bel,r.oth⟩
def byteAt (n:Int) (j:Nat):UInt8:=UInt8.ofNat ((n%18446744073709551616).toNat/256^j)
theorem byteAt_eq (n:Int) (j:Nat) (hj:j<8):IntKind.u8.wrap (n/2^(8*j))=((byteAt n j).toNat:Int):=by
 have hp:(2:Int)^(8*j)=((256^j:Nat):Int):=by
  rw [Int.pow_mul];simp
 rw [hp,IntKind.wrap_u8];unfold byteAt;rw [UInt8.toNat_ofNat'];have:j=0∨j=1∨j=2∨j=3∨j=4∨j=5∨j=6∨j=7:=by omega
 rcases this with rfl | rfl | rfl | rfl | rfl | rfl | rfl | rfl <;> (simp;omega)
theorem bytesW_take (m:Nat) (n:Int) (i:Nat) (hi:i<m):(bytesW m n).take (i+1)=(bytesW m n).take i++[byteAt n (m-1-i)]:=by
 have key:∀(m:Nat) (x i:Nat),i<m→(beK m x)[i]?=some (UInt8.ofNat (x/256^(m-1-i))):=by
  intro m
  induction m with
  | zero=>intro x i h;omega
  | succ m ih=>
   intro x i h;rw [beK_cons]
   match i with
   | 0=>simp
   | i+1=>
    rw [List.getElem?_cons_succ,ih x i (by omega)]
    congr 4
    omega
 unfold bytesW;rw [Int.toNat_natCast,List.take_add_one,key m _ i hi];rfl
structure PN (T:TypeId) (w:World) (B x y c i m:Nat) (bs:List UInt8) (n:Int) (k:Nat) (W:World):Prop where
 sp:∃y' c',Sp T W B x y' c' (ovr bs i ((bytesW m n).take k)) (i+k)∧(y'=y∨w.heap.size≤y')∧(i+m≤bs.length→y'=y∧c'=c)
 bel:Below B w W
 oth:∀q,q<w.heap.size→q≠x→q≠y→W.heap[q]?=w.heap[q]?
theorem PN.start {T:TypeId} {w:World} {B x y c i:Nat} {bs:List UInt8} (h:Sp T w B x y c bs i) (m:Nat) (n:Int):PN T w B x y c i m bs n 0 w:=
 ⟨⟨y,c,by rw [List.take_zero,ovr_nil];exact h,.inl rfl,fun _=>⟨rfl,rfl⟩⟩,Below.refl _ _,fun _ _ _ _=>rfl⟩
theorem ovr_room {bs:List UInt8} {i k m:Nat} {n:Int} (hi:i≤bs.length) (hk:k<m) (hn:bs.length+8≤140737488355328) (hm:m≤8):(ovr bs i ((bytesW m n).take k)).length+1≤140737488355328∧i+k≤(ovr bs i ((bytesW m n).take k)).length∧((bytesW m n).take k).length=k:=by
 have hl:((bytesW m n).take k).length=k:=by rw [List.length_take,bytesW_len,Int.toNat_natCast];omega
 rw [ovr_len bs i _ hi,hl];omega
theorem PN.call {T:TypeId} {w W:World} {B x y c i m:Nat} {bs:List UInt8} {n:Int} {k:Nat} (h:PN T w B x y c i m bs n k W) (hi:i≤bs.length) (hk:k<m) (hm:m≤8) (hn:bs.length+8≤140737488355328) (hBw:B≤w.heap.size) :
 Calls Tryz.prog 120 #[.pointer (some ⟨x,0,none⟩),.slice (some ⟨W.heap.size,0,none⟩) 1 1] (W.alloc (.cells #[.int .u8 ((byteAt n (m-1-k)).toNat:Int)] 5)) fun e w'=>e=.returned (.tuple #[])∧PN T w B x y c i m bs n (k+1) w':=by
 obtain ⟨y',c',hs,hy,hc⟩:=h.sp;obtain ⟨hr1,hr2,hr3⟩:=ovr_room (n:=n) hi hk hn hm;have b1:Below W.heap.size W (W.alloc (.cells #[.int .u8 ((byteAt n (m-1-k)).toNat:Int)] 5)):=(Below.refl _ _).alloc (Nat.le_refl _) _;have hx:=hs.xlt;have hyl:=hs.y.2;refine (dput_one T _ B x y' c' (i+k) _ (hs.below b1) hr2 W.heap.size (byteAt n (m-1-k)) (by rw [cell_of_row _ _ _ _ _ _ (heap_alloc_last W _)];rfl) (by omega) (by omega) hr1).mono ?_;rintro e w' ⟨rfl,r⟩;obtain ⟨y2,c2,h2,h3,h4⟩:=r.sp;have hsz:=h.bel.size;refine ⟨rfl,⟨y2,c2,?_,?_,fun h5=>?_⟩,(h.bel.alloc (Nat.le_trans hBw hsz) _).trans r.bel,fun q hq h5 h6=>?_⟩
 · have e1:=ovr_put bs i ((bytesW m n).take k) (byteAt n (m-1-k)) hi
   rw [hr3,←bytesW_take m n k hk] at e1;rw [←e1];exact h2
 · rcases h3 with e | e
   · rw [e];exact hy
   · right
     simp at e;omega
 · obtain ⟨e1,e2⟩:=hc h5
   obtain ⟨e3,e4⟩:=h4 (by rw [ovr_len bs i _ hi,hr3];omega);exact ⟨e3.trans e1,e4.trans e2⟩
 · have hqW:q<W.heap.size:=by omega
   have hy2:q≠y':=by
    rcases hy with e | e
    · rw [e];exact h6
    · omega
   exact (r.oth q (by simp;omega) h5 hy2).trans ((heap_alloc_old W _ hqW).trans (h.oth q hq h5 h6))
theorem dputN_any (T:TypeId) (w:World) (B x y c i m:Nat) (bs:List UInt8) (h:Sp T w B x y c bs i) (hi:i≤bs.length) (hm:m=1∨m=2∨m=4∨m=8) (n:Int) (hnn:-9223372036854775808≤n∧n≤9223372036854775807) (hn:bs.length+8≤140737488355328) :
 Calls Tryz.prog 119 #[.pointer (some ⟨x,0,none⟩),.int .i64 (m:Int),.int .i64 n] w fun e w'=>e=.returned (.tuple #[])∧PN T w B x y c i m bs n m w':=by
 have HP:=hide (PN.start h m n);have hBw:B≤w.heap.size:=Nat.le_trans h.hx (Nat.le_of_lt h.xlt);have hm8:m≤8:=by omega
 clear h;go_enter Tryz.func119,Tryz.ntmps119;go_wp2
 go_loopw [8] (fun q wr=>∃k:Nat,k≤m∧q=.int .i64 k∧PN T w B x y c i m bs n k wr) (fun q _=>m-(intOf q).toNat)
 case atStart=>exact ⟨0,by omega,rfl,unhide HP⟩
 case round=>
  obtain ⟨k,hk,rfl,hP⟩:=hrel
  by_cases hlt:k<m
  · have HC:=hide (hP.call hi hlt hm8 hn hBw)
    obtain ⟨J,hJ⟩:∃J,J=m-1-k:=⟨_,rfl⟩;rw [←hJ] at HC;have hby:=byteAt_eq n J (by omega);generalize ((byteAt n J).toNat:Int)=by_ at *;obtain ⟨S,hS⟩:∃S,S=8*J:=⟨_,rfl⟩;rw [←hS] at hby;obtain ⟨m1,hm1⟩:∃m1,m=m1+1:=⟨m-1,by omega⟩;have a0:(k:Int)<(m:Int):=by omega
    have a1:(m:Int)-1=(m1:Int):=by omega
    have a2:(m1:Int)-(k:Int)=(J:Int):=by omega
    have a3:8*(J:Int)=(S:Int):=by omega
    have a4:(S:Int)≤64:=by omega
    have a5:(m:Int)≤8:=by omega
    have a6:min S 64=S:=by omega
    clear hP HP hJ hS hm1 hm;go_wp2_with fail;refine (unhide HC).mono ?_;rintro e w1 ⟨rfl,hP1⟩;have HP1:=hide hP1;clear hP1 HC;go_wp2;go_roundw
    case rel=>exact ⟨k+1,by omega,by go_num,unhide HP1⟩
    case measure=>simp [intOf];omega
  · obtain rfl:k=m:=by omega
    have HP2:=hide hP;clear hP HP;go_wp2;go_end0;exact ⟨rfl,unhide HP2⟩
theorem eMake_any (w:World) :
 Calls Tryz.prog 56 #[] w fun e w'=>∃x F,e=.returned (.pointer (some ⟨x,0,none⟩))∧WR F w' w.heap.size x []∧Below w.heap.size w w':=by
 have H1:=hide (dspanOf_any w none 0 0 [] ⟨⟨rfl,.inl rfl⟩,by omega,by omega,fun _=>⟨rfl,rfl⟩⟩ (by omega));go_enter Tryz.func56,Tryz.ntmps56;go_wp2_with fail;refine (unhide H1).mono ?_;rintro e w1 ⟨g,d,rfl,o1,f1⟩;have b2:Below w1.heap.size w1 (w1.alloc (.cells #[.slice (some ⟨g,0,none⟩) 0 d,.int .i64 0] 151)):=(Below.refl _ _).alloc (Nat.le_refl _) _;have hb:=heap_alloc_last w1 (.cells #[.slice (some ⟨g,0,none⟩) 0 d,.int .i64 0] 151);have hg:=o1.lt g rfl;have P1:Hid (∃F,WR F (w1.alloc (.cells #[.slice (some ⟨g,0,none⟩) 0 d,.int .i64 0] 151)) w.heap.size w1.heap.size []):=by
  exact ⟨_,g,d,rfl,f1.size,by omega,hb,own_below o1 b2⟩
 have F1:=hide (f1.trans (b2.mono f1.size));clear o1 f1 b2 hb hg H1;go_wp2;go_ret;obtain ⟨F,hF⟩:=unhide P1;exact ⟨_,F,rfl,hF,unhide F1⟩
theorem eLen_any (F:Nat→Prop) (w:World) (B x:Nat) (bs:List UInt8) (h:WR F w B x bs) :
 Calls Tryz.prog 122 #[.pointer (some ⟨x,0,none⟩)] w fun e w'=>e=.returned (.int .i64 (bs.length:Int))∧Below w.heap.size w w':=by
 obtain ⟨y,c,rfl,h⟩:=h;have HM:=hide (emade_any w B x y c bs _ h);have c1:=h.c1;clear h;go_enter Tryz.func122,Tryz.ntmps122;go_wp2_with fail;refine (unhide HM).mono ?_;rintro e w1 ⟨rfl,e0⟩;have e0':=e0.symm;clear e0;subst e0';go_wp2;go_ret;exact ⟨rfl,Below.refl _ _⟩
theorem eAll_any (F:Nat→Prop) (w:World) (B x:Nat) (bs:List UInt8) (h:WR F w B x bs) (hs:bs.length≤140737488351232) :
 Calls Tryz.prog 64 #[.pointer (some ⟨x,0,none⟩)] w fun e w'=>∃v,e=.returned v∧w'.ownsRow w.heap.size 5 1 v bs.length (bv bs)∧Below w.heap.size w w':=by
 obtain ⟨y,c,rfl,h⟩:=h;have HM:=hide (emade_any w B x y c bs _ h);have c0:=h.c0;have HC:Hid (∀j,Calls Tryz.prog 94 #[.slice (some ⟨y,0,none⟩) bs.length c] (w.drewN j) fun e w'=>∃g d,e=.returned (.slice (some ⟨g,0,none⟩) bs.length d)∧w'.ownsRow w.heap.size 5 1 (.slice (some ⟨g,0,none⟩) bs.length d) bs.length (bv bs)∧Below w.heap.size (w.drewN j) w'):=fun j=>bClone_any (w.drewN j) _ _ c bs (bs_of_own rfl (h.drewN j).row) hs
 clear h;generalize bs.length=n at *;go_enter Tryz.func64,Tryz.ntmps64;go_wp2_with fail;refine (unhide HM).mono ?_;rintro e w1 ⟨rfl,e0⟩;have e0':=e0.symm;clear e0;subst e0';clear HM;go_wp2_with fail;refine (unhide HC 0).mono ?_;rintro e w2 ⟨g,d,rfl,o2,f2⟩;have O2:=hide o2;have F2:=hide f2;clear o2 f2 HC;go_wp2;go_ret;exact ⟨_,rfl,unhide O2,unhide F2⟩
theorem eBytes_any (F:Nat→Prop) (w:World) (B x:Nat) (bs:List UInt8) (a:Option Addr) (n c:Nat) (ys:List UInt8) (h:WR F w B x bs) (hb:Arg w a n c ys) (hfar:∀b o,a=some ⟨b,o,none⟩→0<n→¬F b) (hs:bs.length+n≤140737488351232) :
 Calls Tryz.prog 88 #[.pointer (some ⟨x,0,none⟩),.slice a n c] w fun e w'=>e=.returned (.int .i64 0)∧(∃F',WR F' w' B x (bs++ys)∧∀j,F' j→F j∨w.heap.size≤j)∧Fr6 F B w w':=by
 obtain ⟨y,d,rfl,h⟩:=h;have HM:=hide (emade_any w B x y d bs _ h);have HP:=hide (dput_end 151 w B x y d bs h a n c ys hb (fun b o e hn=>⟨fun e1=>hfar b o e hn (.inl e1),fun e1=>hfar b o e hn (.inr e1)⟩) (by omega));have hyl:=hb.bs.1;have HY:Hid ((bs++ys).length=bs.length+n):=by
  show _=_;rw [List.length_append,hyl]
 clear h hb hfar;go_enter Tryz.func88,Tryz.ntmps88;go_wp2_with fail;refine (unhide HM).mono ?_;rintro e w1 ⟨rfl,e0⟩;have e0':=e0.symm;clear e0;subst e0';clear HM;go_wp2_with fail;refine (unhide HP).mono ?_;rintro e w2 ⟨rfl,r⟩;have R:=hide r;clear r HP;go_wp2;go_ret;obtain ⟨⟨y',c',h1,h2⟩,h3,h4⟩:=unhide R;rw [←unhide HY] at h1;refine ⟨rfl,⟨_,⟨y',c',rfl,h1⟩,fun j hj=>?_⟩,h3,fun k hk hF=>h4 k hk (fun e=>hF (.inl e)) (fun e=>hF (.inr e))⟩
 rcases hj with e | e
 · exact .inl (.inl e)
 · rcases h2 with e2 | e2
   · exact .inl (.inr (e.trans e2))
   · right
     omega
structure WN (w:World) (B x y m:Nat) (bs:List UInt8) (zs:List Int) (i:Nat) (W:World):Prop where
 sp:∃y' c',Sp 151 W B x y' c' (bs++(zs.take i).flatMap (bytesW m)) (bs++(zs.take i).flatMap (bytesW m)).length∧(y'=y∨w.heap.size≤y')
 bel:Below B w W
 oth:∀q,q<w.heap.size→q≠x→q≠y→W.heap[q]?=w.heap[q]?
theorem WN.start {w:World} {B x y d:Nat} {bs:List UInt8} (h:Sp 151 w B x y d bs bs.length) (m:Nat) (zs:List Int):WN w B x y m bs zs 0 w:=
 ⟨⟨y,d,by simpa using h,.inl rfl⟩,Below.refl _ _,fun _ _ _ _=>rfl⟩
theorem WN.call {w W:World} {B x y m:Nat} {bs:List UInt8} {zs:List Int} {i:Nat} {z:Int} (h:WN w B x y m bs zs i W) (hm:m=1∨m=2∨m=4∨m=8) (hz:zs[i]?=some z) (hzr:-9223372036854775808≤z∧z≤9223372036854775807) (hs:bs.length+8*zs.length≤140737488351232) :
 Calls Tryz.prog 119 #[.pointer (some ⟨x,0,none⟩),.int .i64 (m:Int),.int .i64 z] W fun e w'=>e=.returned (.tuple #[])∧WN w B x y m bs zs (i+1) w':=by
 obtain ⟨y',c',hsp,hy⟩:=h.sp;have hil:i<zs.length:=(List.getElem?_eq_some_iff.1 hz).1;have hfl:=flat_len m (zs.take i);rw [List.length_take,Nat.min_eq_left (by omega),Int.toNat_natCast] at hfl;have him:i*m≤8*i:=by
  rw [Nat.mul_comm 8 i];exact Nat.mul_le_mul_left i (by omega)
 refine (dputN_any _ W B x y' c' _ m _ hsp (Nat.le_refl _) hm z hzr (by rw [List.length_append,hfl];omega)).mono ?_;rintro e w' ⟨rfl,r⟩;obtain ⟨y2,c2,h2,h3,_⟩:=r.sp;have hfull:(bytesW m z).take m=bytesW m z:=List.take_of_length_le (by rw [bytesW_len,Int.toNat_natCast];omega);rw [hfull,ovr_end] at h2;have hnext:bs++(zs.take i).flatMap (bytesW m)++bytesW m z=bs++(zs.take (i+1)).flatMap (bytesW m):=by
  rw [List.take_add_one,hz];simp
 have hlen:(bs++(zs.take i).flatMap (bytesW m)).length+m=(bs++(zs.take (i+1)).flatMap (bytesW m)).length:=by
  rw [←hnext,List.length_append (bs:=bytesW m z),bytesW_len,Int.toNat_natCast]
 rw [hnext,hlen] at h2;have hsz:=h.bel.size;refine ⟨rfl,⟨y2,c2,h2,?_⟩,h.bel.trans r.bel,fun q hq h5 h6=>?_⟩
 · rcases h3 with e | e
   · rw [e];exact hy
   · right
     omega
 · have hy2:q≠y':=by
    rcases hy with e | e
    · rw [e];exact h6
    · omega
   exact (r.oth q (by omega) h5 hy2).trans (h.oth q hq h5 h6)
structure WEnd (w:World) (B x y:Nat) (bs:List UInt8) (W:World):Prop where
 sp:∃y' c',Sp 151 W B x y' c' bs bs.length∧(y'=y∨w.heap.size≤y')
 bel:Below B w W
 oth:∀q,q<w.heap.size→q≠x→q≠y→W.heap[q]?=w.heap[q]?
theorem ewriteU_any (w:World) (B x y d:Nat) (bs:List UInt8) (k:Int) (a:Option Addr) (n c:Nat) (zs:List Int)
 (h:Sp 151 w B x y d bs bs.length) (hl:Nums w a n zs) (hfar:∀b o,a=some ⟨b,o,none⟩→0<n→b≠x∧b≠y) (hz:∀z∈zs,-9223372036854775808≤z∧z≤9223372036854775807) (hs:bs.length+8*n≤140737488351232) (hk:-9223372036854775808≤k∧k≤9223372036854775807) :
 Calls Tryz.prog 86 #[.pointer (some ⟨x,0,none⟩),.func (.func 87) #[] #[],.int .i64 k,.slice a n c] w fun e w'=>e=.returned (.int .i64 (putW bs k false zs).2)∧WEnd w B x y (putW bs k false zs).1 w':=by
 have HM:=hide (emade_any w B x y d bs _ h);have HW:=hide (disSize_any w k);have HK:Hid (WEnd w B x y bs w):=⟨⟨y,d,h,.inl rfl⟩,Below.refl _ _,fun _ _ _ _=>rfl⟩
 by_cases hw:wide k
 · rw [decide_eq_true hw] at HW
   obtain ⟨m,rfl,hm⟩:=wide_nat hw;have HF:=hide (fun W z hz=>dfitsU_any W (m:Int) z hw hz);have HS:=hide (WN.start h m zs);have hzl:=hl.1;have HL:=hide hl;clear h hw hl;go_enter Tryz.func86,Tryz.ntmps86;go_wp2_with fail;refine (unhide HM).mono ?_;rintro e w1 ⟨rfl,e0⟩;have e0':=e0.symm;clear e0;subst e0';go_wp2_with fail;refine (unhide HW).mono ?_;rintro e w1 ⟨rfl,e0⟩;have e0':=e0.symm;clear e0;subst e0';clear HM HW;go_wp2
   go_loopw [21] (fun q wr=>∃i:Nat,i≤n∧q=.int .i64 i∧(∀j z,j<i→zs[j]?=some z→fitsW m z false)∧wr=w) (fun q _=>n-(intOf q).toNat)
   case atStart=>exact ⟨0,by omega,rfl,fun j z hj=>by omega,rfl⟩
   case round=>
    obtain ⟨i,hi,rfl,hall,e0⟩:=hrel;have e0':=e0.symm;clear e0;subst e0'
    by_cases hlt:i<n
    · have hlt1:(i:Int)<(n:Int):=by omega
      obtain ⟨z,hzi⟩:∃z,zs[i]?=some z:=⟨_,List.getElem?_eq_getElem (by omega)⟩;obtain ⟨b,o,rfl,hcs⟩:=(unhide HL).2.resolve_left (by omega);have cz:=hcs i z hzi;have HF1:=hide (unhide HF w z (hz z (List.mem_of_getElem? hzi)));have hnb:(n:Int)≤140737488351232:=by omega
      by_cases hfit:fitsW m z false
      · rw [decide_eq_true hfit] at HF1
        have HALL:Hid (∀j z,j<i+1→zs[j]?=some z→fitsW m z false):=fun j z' hj hz'=>by
         by_cases hji:j=i
         · subst hji
           rw [hzi] at hz';injection hz' with hz'
           subst hz';exact hfit
         · exact hall j z' (by omega) hz'
        clear hall hfit hcs HF HL HS HK hz;go_wp2_with fail;refine (unhide HF1).mono ?_;rintro e w1 ⟨rfl,rfl⟩;go_wp2;go_roundw
        case rel=>exact ⟨i+1,by omega,by go_num,unhide HALL,by first | rfl | trivial⟩
        case measure=>simp [intOf];omega
      · rw [decide_eq_false hfit] at HF1
        have e1:Hid (putW bs m false zs=(bs,2)):=putW_no (fun h=>hfit (h.2 z (List.mem_of_getElem? hzi)));clear hall hfit hcs HF HL HS hz;go_wp2_with fail;refine (unhide HF1).mono ?_;rintro e w1 ⟨rfl,rfl⟩;go_wp2;go_ret;rw [unhide e1];exact ⟨rfl,unhide HK⟩
    · obtain rfl:i=n:=by omega
      have e1:Hid (putW bs m false zs=(bs++zs.flatMap (bytesW m),0)):=putW_ok (by rcases hm with rfl | rfl | rfl | rfl <;> (unfold wide;omega)) (fun z hz=>by
       obtain ⟨j,hj⟩:=List.mem_iff_getElem?.1 hz;exact hall j z (by have:=(List.getElem?_eq_some_iff.1 hj).1;omega) hj)
      clear hall HF HK;go_wp2
      go_loopw [33] (fun q W=>∃j:Nat,j≤i∧q=.int .i64 j∧WN w B x y m bs zs j W) (fun q _=>i-(intOf q).toNat)
      case atStart=>exact ⟨0,by omega,rfl,unhide HS⟩
      case round=>
       obtain ⟨j,hj,rfl,hN⟩:=hrel
       by_cases hlt2:j<i
       · have hlt1:(j:Int)<(i:Int):=by omega
         obtain ⟨z,hzi⟩:∃z,zs[j]?=some z:=⟨_,List.getElem?_eq_getElem (by omega)⟩;obtain ⟨b,o,rfl,hcs⟩:=(unhide HL).2.resolve_left (by omega);have cz0:=hcs j z hzi;have hbf:=hfar b o rfl (by omega);have cz:=(World.cell?_of_block (a:=⟨b,o+j,none⟩) (hN.oth b (World.block_lt_of_cell? w _ cz0) hbf.1 hbf.2)).trans cz0;have HC:=hide (hN.call hm hzi (hz z (List.mem_of_getElem? hzi)) (by omega));have hnb:(i:Int)≤140737488351232:=by omega
         clear hN hcs cz0 hbf HL HS hz hfar e1 hm;go_wp2_with fail;refine (unhide HC).mono ?_;rintro e w1 ⟨rfl,hN1⟩;have HN1:=hide hN1;clear HC hN1 cz;go_wp2;go_roundw
         case rel=>exact ⟨j+1,by omega,by go_num,unhide HN1⟩
         case measure=>simp [intOf];omega
       · obtain rfl:j=i:=by omega
         have ht:zs.take j=zs:=List.take_of_length_le (by omega);have HN:Hid (WEnd w B x y (bs++zs.flatMap (bytesW m)) wr):=by
          obtain ⟨h1,h2,h3⟩:=hN;rw [ht] at h1;exact ⟨h1,h2,h3⟩
         clear hN HS HL hz hfar;go_wp2;go_ret;rw [unhide e1];exact ⟨rfl,unhide HN⟩
 · rw [decide_eq_false hw] at HW
   have e1:Hid (putW bs k false zs=(bs,2)):=putW_no (fun h=>hw h.1);clear h hw;go_enter Tryz.func86,Tryz.ntmps86;go_wp2_with fail;refine (unhide HM).mono ?_;rintro e w1 ⟨rfl,e0⟩;have e0':=e0.symm;clear e0;subst e0';go_wp2_with fail;refine (unhide HW).mono ?_;rintro e w1 ⟨rfl,e0⟩;have e0':=e0.symm;clear e0;subst e0';go_wp2;go_ret;rw [unhide e1];exact ⟨rfl,unhide HK⟩
theorem ewriteS_any (w:World) (B x y d:Nat) (bs:List UInt8) (k:Int) (a:Option Addr) (n c:Nat) (zs:List Int)
 (h:Sp 151 w B x y d bs bs.length) (hl:Nums w a n zs) (hfar:∀b o,a=some ⟨b,o,none⟩→0<n→b≠x∧b≠y) (hz:∀z∈zs,-9223372036854775808≤z∧z≤9223372036854775807) (hs:bs.length+8*n≤140737488351232) (hk:-9223372036854775808≤k∧k≤9223372036854775807) :
 Calls Tryz.prog 86 #[.pointer (some ⟨x,0,none⟩),.func (.func 151) #[] #[],.int .i64 k,.slice a n c] w fun e w'=>e=.returned (.int .i64 (putW bs k true zs).2)∧WEnd w B x y (putW bs k true zs).1 w':=by
 have HM:=hide (emade_any w B x y d bs _ h);have HW:=hide (disSize_any w k);have HK:Hid (WEnd w B x y bs w):=⟨⟨y,d,h,.inl rfl⟩,Below.refl _ _,fun _ _ _ _=>rfl⟩
 by_cases hw:wide k
 · rw [decide_eq_true hw] at HW
   obtain ⟨m,rfl,hm⟩:=wide_nat hw;have HF:=hide (fun W z hz=>dfitsS_any W (m:Int) z hw hz);have HS:=hide (WN.start h m zs);have hzl:=hl.1;have HL:=hide hl;clear h hw hl;go_enter Tryz.func86,Tryz.ntmps86;go_wp2_with fail;refine (unhide HM).mono ?_;rintro e w1 ⟨rfl,e0⟩;have e0':=e0.symm;clear e0;subst e0';go_wp2_with fail;refine (unhide HW).mono ?_;rintro e w1 ⟨rfl,e0⟩;have e0':=e0.symm;clear e0;subst e0';clear HM HW;go_wp2
   go_loopw [21] (fun q wr=>∃i:Nat,i≤n∧q=.int .i64 i∧(∀j z,j<i→zs[j]?=some z→fitsW m z true)∧wr=w) (fun q _=>n-(intOf q).toNat)
   case atStart=>exact ⟨0,by omega,rfl,fun j z hj=>by omega,rfl⟩
   case round=>
    obtain ⟨i,hi,rfl,hall,e0⟩:=hrel;have e0':=e0.symm;clear e0;subst e0'
    by_cases hlt:i<n
    · have hlt1:(i:Int)<(n:Int):=by omega
      obtain ⟨z,hzi⟩:∃z,zs[i]?=some z:=⟨_,List.getElem?_eq_getElem (by omega)⟩;obtain ⟨b,o,rfl,hcs⟩:=(unhide HL).2.resolve_left (by omega);have cz:=hcs i z hzi;have HF1:=hide (unhide HF w z (hz z (List.mem_of_getElem? hzi)));have hnb:(n:Int)≤140737488351232:=by omega
      by_cases hfit:fitsW m z true
      · rw [decide_eq_true hfit] at HF1
        have HALL:Hid (∀j z,j<i+1→zs[j]?=some z→fitsW m z true):=fun j z' hj hz'=>by
         by_cases hji:j=i
         · subst hji
           rw [hzi] at hz';injection hz' with hz'
           subst hz';exact hfit
         · exact hall j z' (by omega) hz'
        clear hall hfit hcs HF HL HS HK hz;go_wp2_with fail;refine (unhide HF1).mono ?_;rintro e w1 ⟨rfl,rfl⟩;go_wp2;go_roundw
        case rel=>exact ⟨i+1,by omega,by go_num,unhide HALL,by first | rfl | trivial⟩
        case measure=>simp [intOf];omega
      · rw [decide_eq_false hfit] at HF1
        have e1:Hid (putW bs m true zs=(bs,2)):=putW_no (fun h=>hfit (h.2 z (List.mem_of_getElem? hzi)));clear hall hfit hcs HF HL HS hz;go_wp2_with fail;refine (unhide HF1).mono ?_;rintro e w1 ⟨rfl,rfl⟩;go_wp2;go_ret;rw [unhide e1];exact ⟨rfl,unhide HK⟩
    · obtain rfl:i=n:=by omega
      have e1:Hid (putW bs m true zs=(bs++zs.flatMap (bytesW m),0)):=putW_ok (by rcases hm with rfl | rfl | rfl | rfl <;> (unfold wide;omega)) (fun z hz=>by
       obtain ⟨j,hj⟩:=List.mem_iff_getElem?.1 hz;exact hall j z (by have:=(List.getElem?_eq_some_iff.1 hj).1;omega) hj)
      clear hall HF HK;go_wp2
      go_loopw [33] (fun q W=>∃j:Nat,j≤i∧q=.int .i64 j∧WN w B x y m bs zs j W) (fun q _=>i-(intOf q).toNat)
      case atStart=>exact ⟨0,by omega,rfl,unhide HS⟩
      case round=>
       obtain ⟨j,hj,rfl,hN⟩:=hrel
       by_cases hlt2:j<i
       · have hlt1:(j:Int)<(i:Int):=by omega
         obtain ⟨z,hzi⟩:∃z,zs[j]?=some z:=⟨_,List.getElem?_eq_getElem (by omega)⟩;obtain ⟨b,o,rfl,hcs⟩:=(unhide HL).2.resolve_left (by omega);have cz0:=hcs j z hzi;have hbf:=hfar b o rfl (by omega);have cz:=(World.cell?_of_block (a:=⟨b,o+j,none⟩) (hN.oth b (World.block_lt_of_cell? w _ cz0) hbf.1 hbf.2)).trans cz0;have HC:=hide (hN.call hm hzi (hz z (List.mem_of_getElem? hzi)) (by omega));have hnb:(i:Int)≤140737488351232:=by omega
         clear hN hcs cz0 hbf HL HS hz hfar e1 hm;go_wp2_with fail;refine (unhide HC).mono ?_;rintro e w1 ⟨rfl,hN1⟩;have HN1:=hide hN1;clear HC hN1 cz;go_wp2;go_roundw
         case rel=>exact ⟨j+1,by omega,by go_num,unhide HN1⟩
         case measure=>simp [intOf];omega
       · obtain rfl:j=i:=by omega
         have ht:zs.take j=zs:=List.take_of_length_le (by omega);have HN:Hid (WEnd w B x y (bs++zs.flatMap (bytesW m)) wr):=by
          obtain ⟨h1,h2,h3⟩:=hN;rw [ht] at h1;exact ⟨h1,h2,h3⟩
         clear hN HS HL hz hfar;go_wp2;go_ret;rw [unhide e1];exact ⟨rfl,unhide HN⟩
 · rw [decide_eq_false hw] at HW
   have e1:Hid (putW bs k true zs=(bs,2)):=putW_no (fun h=>hw h.1);clear h hw;go_enter Tryz.func86,Tryz.ntmps86;go_wp2_with fail;refine (unhide HM).mono ?_;rintro e w1 ⟨rfl,e0⟩;have e0':=e0.symm;clear e0;subst e0';go_wp2_with fail;refine (unhide HW).mono ?_;rintro e w1 ⟨rfl,e0⟩;have e0':=e0.symm;clear e0;subst e0';go_wp2;go_ret;rw [unhide e1];exact ⟨rfl,unhide HK⟩
theorem eU_any (F:Nat→Prop) (w:World) (B x:Nat) (bs:List UInt8) (k:Int) (a:Option Addr) (n c:Nat) (zs:List Int) (h:WR F w B x bs) (hl:Nums w a n zs) (hfar:∀b o,a=some ⟨b,o,none⟩→0<n→¬F b) (hz:∀z∈zs,-9223372036854775808≤z∧z≤9223372036854775807) (hs:bs.length+8*n≤140737488351232) (hk:-9223372036854775808≤k∧k≤9223372036854775807) :
 Calls Tryz.prog 57 #[.pointer (some ⟨x,0,none⟩),.int .i64 k,.slice a n c] w fun e w'=>e=.returned (.int .i64 (putW bs k false zs).2)∧(∃F',WR F' w' B x (putW bs k false zs).1∧∀j,F' j→F j∨w.heap.size≤j)∧Fr6 F B w w':=by
 obtain ⟨y,d,rfl,h⟩:=h;have H:=hide (ewriteU_any w B x y d bs k a n c zs h hl (fun b o e hn=>⟨fun e1=>hfar b o e hn (.inl e1),fun e1=>hfar b o e hn (.inr e1)⟩) hz hs hk);clear h hl hfar hz;go_enter Tryz.func57,Tryz.ntmps57;go_wp2_with fail;refine (unhide H).mono ?_;rintro e w1 ⟨rfl,r⟩;have R:=hide r;clear r H;go_wp2;go_ret;obtain ⟨⟨y',c',h1,h2⟩,h3,h4⟩:=unhide R;refine ⟨rfl,⟨_,⟨y',c',rfl,h1⟩,fun j hj=>?_⟩,h3,fun k hk hF=>h4 k hk (fun e=>hF (.inl e)) (fun e=>hF (.inr e))⟩
 rcases hj with e | e
 · exact .inl (.inl e)
 · rcases h2 with e2 | e2
   · exact .inl (.inr (e.trans e2))
   · right
     omega
theorem eS_any (F:Nat→Prop) (w:World) (B x:Nat) (bs:List UInt8) (k:Int) (a:Option Addr) (n c:Nat) (zs:List Int) (h:WR F w B x bs) (hl:Nums w a n zs) (hfar:∀b o,a=some ⟨b,o,none⟩→0<n→¬F b) (hz:∀z∈zs,-9223372036854775808≤z∧z≤9223372036854775807) (hs:bs.length+8*n≤140737488351232) (hk:-9223372036854775808≤k∧k≤9223372036854775807) :
 Calls Tryz.prog 139 #[.pointer (some ⟨x,0,none⟩),.int .i64 k,.slice a n c] w fun e w'=>e=.returned (.int .i64 (putW bs k true zs).2)∧(∃F',WR F' w' B x (putW bs k true zs).1∧∀j,F' j→F j∨w.heap.size≤j)∧Fr6 F B w w':=by
 obtain ⟨y,d,rfl,h⟩:=h;have H:=hide (ewriteS_any w B x y d bs k a n c zs h hl (fun b o e hn=>⟨fun e1=>hfar b o e hn (.inl e1),fun e1=>hfar b o e hn (.inr e1)⟩) hz hs hk);clear h hl hfar hz;go_enter Tryz.func139,Tryz.ntmps139;go_wp2_with fail;refine (unhide H).mono ?_;rintro e w1 ⟨rfl,r⟩;have R:=hide r;clear r H;go_wp2;go_ret;obtain ⟨⟨y',c',h1,h2⟩,h3,h4⟩:=unhide R;refine ⟨rfl,⟨_,⟨y',c',rfl,h1⟩,fun j hj=>?_⟩,h3,fun k hk hF=>h4 k hk (fun e=>hF (.inl e)) (fun e=>hF (.inr e))⟩
 rcases hj with e | e
 · exact .inl (.inl e)
 · rcases h2 with e2 | e2
   · exact .inl (.inr (e.trans e2))
   · right
     omega
theorem ePatch_any (F:Nat→Prop) (w:World) (B x:Nat) (bs:List UInt8) (at_ k n:Int) (h:WR F w B x bs) (hs:bs.length≤140737488351232) (ha:-9223372036854775808≤at_∧at_≤9223372036854775807) (hk:-9223372036854775808≤k∧k≤9223372036854775807) (hn:-9223372036854775808≤n∧n≤9223372036854775807) :
 Calls Tryz.prog 123 #[.pointer (some ⟨x,0,none⟩),.int .i64 at_,.int .i64 k,.int .i64 n] w fun e w'=>e=.returned (.int .i64 (patchW bs at_ k n).2)∧(∃F',WR F' w' B x (patchW bs at_ k n).1∧∀j,F' j→F j∨w.heap.size≤j)∧Fr6 F B w w':=by
 obtain ⟨y,d,rfl,h⟩:=h;have HM:=hide (emade_any w B x y d bs _ h);have HW:=hide (disSize_any w k);have hBw:B≤w.heap.size:=Nat.le_trans h.hx (Nat.le_of_lt h.xlt);have HK:Hid ((∃F',WR F' w B x bs∧∀j,F' j→(j=x∨j=y)∨w.heap.size≤j)∧Fr6 (fun k=>k=x∨k=y) B w w):=⟨⟨_,⟨y,d,rfl,h⟩,fun j hj=>.inl hj⟩,Fr6.of_below (Below.refl _ _) hBw⟩;have c0:=h.c0;have c1:=h.c1
 by_cases hw:wide k
 case neg=>
  rw [decide_eq_false hw] at HW;have e1:Hid (patchW bs at_ k n=(bs,2)):=if_neg (fun h=>hw h.1.1);clear h hw;generalize bs.length=N at *;go_enter Tryz.func123,Tryz.ntmps123;go_wp2_with fail;refine (unhide HM).mono ?_;rintro e w1 ⟨rfl,e0⟩;have e0':=e0.symm;clear e0;subst e0';clear HM;go_wp2_with fail;refine (unhide HW).mono ?_;rintro e w1 ⟨rfl,e0⟩;have e0':=e0.symm;clear e0;subst e0';clear HW;go_wp2;go_ret;rw [unhide e1];exact ⟨rfl,unhide HK⟩
 rw [decide_eq_true hw] at HW;have HF:=hide (dfitsU_any w k n hw hn)
 by_cases hf:fitsW k n false
 case neg=>
  rw [decide_eq_false hf] at HF;have e1:Hid (patchW bs at_ k n=(bs,2)):=if_neg (fun h=>hf h.1);clear h hw hf;generalize bs.length=N at *;go_enter Tryz.func123,Tryz.ntmps123;go_wp2_with fail;refine (unhide HM).mono ?_;rintro e w1 ⟨rfl,e0⟩;have e0':=e0.symm;clear e0;subst e0';clear HM;go_wp2_with fail;refine (unhide HW).mono ?_;rintro e w1 ⟨rfl,e0⟩;have e0':=e0.symm;clear e0;subst e0';clear HW;go_wp2_with fail;refine (unhide HF).mono ?_;rintro e w1 ⟨rfl,e0⟩;have e0':=e0.symm;clear e0;subst e0';clear HF;go_wp2;go_ret;rw [unhide e1];exact ⟨rfl,unhide HK⟩
 rw [decide_eq_true hf] at HF
 by_cases h0:at_<0
 case pos=>
  have e1:Hid (patchW bs at_ k n=(bs,2)):=if_neg (fun h=>by have:=h.2.1;omega);clear h hw hf;generalize bs.length=N at *;go_enter Tryz.func123,Tryz.ntmps123;go_wp2_with fail;refine (unhide HM).mono ?_;rintro e w1 ⟨rfl,e0⟩;have e0':=e0.symm;clear e0;subst e0';clear HM;go_wp2_with fail;refine (unhide HW).mono ?_;rintro e w1 ⟨rfl,e0⟩;have e0':=e0.symm;clear e0;subst e0';clear HW;go_wp2_with fail;refine (unhide HF).mono ?_;rintro e w1 ⟨rfl,e0⟩;have e0':=e0.symm;clear e0;subst e0';clear HF;go_wp2;go_ret;rw [unhide e1];exact ⟨rfl,unhide HK⟩
 obtain ⟨m,rfl,hm⟩:=wide_nat hw;obtain ⟨i,rfl⟩:∃i:Nat,at_=i:=⟨at_.toNat,by omega⟩;have y1:IntKind.i64.wrap ((bs.length:Int)-(m:Int))=(bs.length:Int)-(m:Int):=by rw [IntKind.wrap_i64];omega
 have y2:(m:Int)≤8:=by omega
 have y3:(bs.length:Int)≤140737488351232:=by omega
 by_cases h1:(bs.length:Int)-(m:Int)<(i:Int)
 case pos=>
  have e1:Hid (patchW bs (i:Int) (m:Int) n=(bs,2)):=if_neg (fun h=>by have:=h.2.2;omega);clear h hw hf;generalize bs.length=N at *;go_enter Tryz.func123,Tryz.ntmps123;go_wp2_with fail;refine (unhide HM).mono ?_;rintro e w1 ⟨rfl,e0⟩;have e0':=e0.symm;clear e0;subst e0';clear HM;go_wp2_with fail;refine (unhide HW).mono ?_;rintro e w1 ⟨rfl,e0⟩;have e0':=e0.symm;clear e0;subst e0';clear HW;go_wp2_with fail;refine (unhide HF).mono ?_;rintro e w1 ⟨rfl,e0⟩;have e0':=e0.symm;clear e0;subst e0';clear HF;go_wp2;go_ret;rw [unhide e1];exact ⟨rfl,unhide HK⟩
 case neg=>
  have e1:Hid (patchW bs (i:Int) (m:Int) n=(ovr bs i (bytesW m n),0)):=by
   show patchW bs (i:Int) (m:Int) n=_;unfold patchW;rw [if_pos ⟨hf,by omega,by omega⟩];unfold ovr;rw [bytesW_len,Int.toNat_natCast,Int.toNat_natCast]
  have him:i+m≤bs.length:=by omega
  have b2:Below w.heap.size w (w.alloc (.cells #[.slice (some ⟨y,0,none⟩) bs.length d,.int .i64 (i:Int)] 148)):=(Below.refl _ _).alloc (Nat.le_refl _) _;have hl0:=heap_alloc_last w (.cells #[.slice (some ⟨y,0,none⟩) bs.length d,.int .i64 (i:Int)] 148);have hyl:=h.y;have s2:Sp 148 (w.alloc (.cells #[.slice (some ⟨y,0,none⟩) bs.length d,.int .i64 (i:Int)] 148)) B w.heap.size y d bs i:=⟨hBw,by omega,hl0,own_below h.row b2⟩;have HP:=hide (dputN_any 148 _ B w.heap.size y d i m bs s2 (by omega) hm n hn (by omega));have HEND:Hid (∀W,PN 148 (w.alloc (.cells #[.slice (some ⟨y,0,none⟩) bs.length d,.int .i64 (i:Int)] 148)) B w.heap.size y d i m bs n m W→(∃F',WR F' W B x (ovr bs i (bytesW m n))∧∀j,F' j→(j=x∨j=y)∨w.heap.size≤j)∧Fr6 (fun k=>k=x∨k=y) B w W):=fun W r=>by
   obtain ⟨y',c',h2,_,h3⟩:=r.sp;obtain ⟨rfl,rfl⟩:=h3 him;have hfull:(bytesW m n).take m=bytesW m n:=List.take_of_length_le (by rw [bytesW_len,Int.toNat_natCast];omega);rw [hfull] at h2;have hlen:(ovr bs i (bytesW m n)).length=bs.length:=by rw [ovr_len bs i _ (by omega),bytesW_len,Int.toNat_natCast];omega
   have hxl:=h.xlt;have hsz2:=b2.size;have hoth:∀q,q<w.heap.size→q≠y'→W.heap[q]?=w.heap[q]?:=fun q hq hy=>(r.oth q (by omega) (by omega) hy).trans (b2.block q hq)
   have hblk:W.heap[x]?=_:=(hoth x hxl h.ne).trans h.blk;refine ⟨⟨_,⟨y',c',rfl,h.hx,h.ne,?_,h2.row⟩,fun j hj=>.inl hj⟩,(b2.mono hBw).trans r.bel,fun q hq hF=>hoth q hq (fun e=>hF (.inr e))⟩;rw [hlen];exact hblk
  clear h hw hf hl0 b2 s2 hyl;generalize bs.length=N at *;go_enter Tryz.func123,Tryz.ntmps123;go_wp2_with fail;refine (unhide HM).mono ?_;rintro e w1 ⟨rfl,e0⟩;have e0':=e0.symm;clear e0;subst e0';clear HM;go_wp2_with fail;refine (unhide HW).mono ?_;rintro e w1 ⟨rfl,e0⟩;have e0':=e0.symm;clear e0;subst e0';clear HW;go_wp2_with fail;refine (unhide HF).mono ?_;rintro e w1 ⟨rfl,e0⟩;have e0':=e0.symm;clear e0;subst e0';clear HF;go_wp2_with fail;refine (unhide HP).mono ?_;rintro e w2 ⟨rfl,r⟩;have R:=hide (unhide HEND w2 r);clear r HEND HP;go_wp2;go_ret;rw [unhide e1];exact ⟨rfl,unhide R⟩
end Go.Proofs.YtlabllgifkklhaaGreatDoor
