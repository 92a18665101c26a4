/- Joined: GsE PlZ0 PlG PkA PkA2. -/
import Derived.Test.YtlabllgifkklhaaGreatDoorJP4
import Derived.Test.YtlabllgifkklhaaGreatDoorJP1
import Derived.Test.YtlabllgifkklhaaGreatDoorJPlQ
import Derived.Test.YtlabllgifkklhaaGreatDoorJP2
set_option linter.unusedVariables false
set_option maxRecDepth 100000
set_option maxHeartbeats 6400000
namespace Go.Proofs.YtlabllgifkklhaaGreatDoor
open Go.RowKit
variable {ex0 ex1:Value}
theorem EEndE.trans {w W W':World} {z:Nat} {a:Option Addr} {n c i j:Nat} (h:EEndE ex0 ex1 w z a n c i W) (h2:EEndE ex0 ex1 W z a n c j W'):EEndE ex0 ex1 w z a n c j W':=
 ⟨h2.blk,fun k hk hz=>(h2.oth k (Nat.lt_of_lt_of_le hk h.bel.size) hz).trans (h.oth k hk hz),h.bel.trans h2.bel⟩
theorem EEndE.below {w W W':World} {z:Nat} {a:Option Addr} {n c i:Nat} (h:EEndE ex0 ex1 w z a n c i W) (f:Below W.heap.size W W'):EEndE ex0 ex1 w z a n c i W':=
 ⟨(f.block z (lt_of_heap h.blk)).trans h.blk,fun k hk hz=>(f.block k (Nat.lt_of_lt_of_le hk h.bel.size)).trans (h.oth k hk hz),h.bel.trans (f.mono (Nat.le_of_lt (lt_of_heap h.blk)))⟩
theorem EEndE.own {W W':World} {z B:Nat} {a:Option Addr} {n c j m:Nat} {v:Value} {xs:List Value} {T:TypeId} (h2:EEndE ex0 ex1 W z a n c j W') (ho:W.ownsRow B T 5 v m xs) (hz:z<B):W'.ownsRow B T 5 v m xs:=
 own_of_block ho (fun k hk=>h2.oth k (ho.lt k hk).2 (by have:=(ho.lt k hk).1;omega))
structure RIE (ex0 ex1:Value) (w:World) (z:Nat) (a:Option Addr) (n c:Nat) (bs:List UInt8) (N:Nat) (F:List Ent×Int×Nat) (v:Value) (W:World) (es:List Ent) (i f:Nat):Prop where
 own:W.ownsRow w.heap.size 55 5 v es.length (ev es)
 rd:EEndE ex0 ex1 w z a n c i W
 le:i≤n
 fin:entsR bs N f es i=F
 fuel:N≤es.length+f
 len:es.length≤N+1
 fit:EntsFit7 es
theorem RIE.vlen {w:World} {z:Nat} {a:Option Addr} {n c:Nat} {bs:List UInt8} {N:Nat} {F:List Ent×Int×Nat} {v:Value} {W:World} {es:List Ent} {i f:Nat} (h:RIE ex0 ex1 w z a n c bs N F v W es i f):∃q d,v=.slice q es.length d:=own5_form h.own
theorem RIE.done {w:World} {z:Nat} {a:Option Addr} {n c:Nat} {bs:List UInt8} {N:Nat} {F:List Ent×Int×Nat} {v:Value} {W:World} {es:List Ent} {i f:Nat} (h:RIE ex0 ex1 w z a n c bs N F v W es i f) (hl:N≤es.length):F=(es,0,i):=by
 rw [←h.fin];cases f with
 | zero=>rfl
 | succ f=>rw [entsR,if_pos hl]
theorem RIE.step {w:World} {z:Nat} {a:Option Addr} {n c:Nat} {bs:List UInt8} {N:Nat} {F:List Ent×Int×Nat} {v:Value} {W:World} {es:List Ent} {i f:Nat} (h:RIE ex0 ex1 w z a n c bs N F v W es i f) (hl:es.length<N):∃f',f=f'+1∧(if (entR bs i).2.1≠0 then (es,(entR bs i).2) else entsR bs N f' (withE es (entR bs i).1) (entR bs i).2.2)=F:=by
 have:=h.fuel;obtain ⟨f',rfl⟩:∃f',f=f'+1:=⟨f-1,by omega⟩;refine ⟨f',rfl,?_⟩;have e:=h.fin;rw [entsR,if_neg (by omega)] at e;exact e
theorem jRead_anyE (w:World) (z:Nat) (a:Option Addr) (n c i:Nat) (bs:List UInt8) (hb:Arg w a n c bs) (hn:n≤1000000) (hi:i≤n) (hz:w.heap[z]?=some (.cells #[.slice a n c,.int .i64 (i:Int),ex0,ex1] 81 (0,0))) (hfar:∀b o,a=some ⟨b,o,none⟩→0<n→b≠z) :
 Calls Tryz.prog 40 #[.pointer (some ⟨z,0,none⟩)] w fun e w'=>∃v,e=.returned (.tuple #[v,.int .i64 (readP bs i).2.1])∧w'.ownsRow w.heap.size 55 5 v (readP bs i).1.length (ev (readP bs i).1)∧EEndE ex0 ex1 w z a n c (readP bs i).2.2 w':=by
 have hlen:=hb.bs.1;have hzl:=lt_of_heap hz;have HG:=hide (hGet_anyE w z a n c i bs hb (by omega) hi hz 2 (by decide) false);have hle:=getW_le (bs:=bs) (i:=i) (k:=2) (sg:=false) (by omega);have hpos:=getW_pos (b:=bs) (i:=i) (k:=2);obtain ⟨X,hX⟩:∃X,readP bs i=X:=⟨_,rfl⟩;rw [hX];have hE:=hX.symm;unfold readP at hE;simp only at hE;generalize getW bs i 2 false=g at *;obtain ⟨g1,g2,g3⟩:=g;simp only at HG hle hpos hE;have HB:=hide hb;have HF:=hide hfar;have HX:=hide hE;clear hz hb hfar hX hE;go_enter Tryz.func40,Tryz.ntmps40;go_wp2_with fail;refine (unhide HG).mono ?_;rintro e w1 ⟨rfl,R⟩;have hE1:EEndE ex0 ex1 w z a n c g3 w1:=⟨R.blk,fun k _ hz=>R.oth k hz,R.bel⟩;have HE1:=hide hE1;clear HG R hE1
 by_cases h0:g2=0
 case neg=>
  have h0':(g2 != 0)=true:=by simpa using h0
  rw [if_pos h0] at HX;go_wp2;go_ret2;rw [unhide HX];exact ⟨_,rfl,World.ownsRow_nil _ _ _ _,unhide HE1⟩
 subst h0;rw [if_neg (by simp)] at HX
 by_cases h1:g1<1
 case pos=>
  rw [if_pos (.inl h1)] at HX;go_wp2;go_ret2;rw [unhide HX];exact ⟨_,rfl,World.ownsRow_nil _ _ _ _,unhide HE1⟩
 by_cases h2:1024<g1
 case pos=>
  rw [if_pos (.inr h2)] at HX;go_wp2;go_ret2;rw [unhide HX];exact ⟨_,rfl,World.ownsRow_nil _ _ _ _,unhide HE1⟩
 rw [if_neg (by omega)] at HX;obtain ⟨N,rfl⟩:∃N:Nat,g1=N:=⟨g1.toNat,by omega⟩;rw [Int.toNat_natCast] at HX;obtain ⟨F,hF⟩:∃F,entsR bs N N [ent0] g3=F:=⟨_,rfl⟩;rw [hF] at HX;have hN:N≤1024:=by omega
 have HI0:Hid (RIE ex0 ex1 w z a n c bs N F (.slice (some ⟨w1.heap.size,0,none⟩) 1 1) (w1.alloc (.cells (ev [ent0]).toArray 55)) [ent0] g3 N):=by
  have f1:Below w1.heap.size w1 (w1.alloc (.cells (ev [ent0]).toArray 55)):=(Below.refl _ _).alloc (Nat.le_refl _) _;have hs1:=(unhide HE1).bel.size;refine ⟨?_,(unhide HE1).below f1,by omega,hF,by simp,by simp,⟨fun y hy=>by simp at hy;subst hy;decide,fun y hy=>by simp at hy;subst hy;exact fit0⟩⟩;exact World.ownsRow_lit (base:=w.heap.size) w1 (ev [ent0]).toArray 1 hs1 (by unfold maxLen;omega) rfl
 clear hF HE1;have hNI:(N:Int)≤1024:=by omega
 go_wp2
 go_loopw [6] (fun v wr=>∃es i f,RIE ex0 ex1 w z a n c bs N F v wr es i f) (fun v _=>N-vlen v)
 case atStart=>exact ⟨_,_,_,unhide HI0⟩
 case round=>
  obtain ⟨es,i',f,hI⟩:=hrel;clear HI0;obtain ⟨vq,vd,rfl⟩:=hI.vlen;have hlI:=hI.len
  by_cases hlt:es.length<N
  case neg=>
   have hF:=hI.done (by omega);rw [hF] at HX;simp only at HX;rw [if_neg (by simp)] at HX;have HRD:=hide hI.rd;have HOW:=hide hI.own
   by_cases hgt:N<es.length
   case pos=>
    have hgt':(N:Int)<(es.length:Int):=by omega
    have hlt':¬(es.length:Int)<(N:Int):=by omega
    rw [if_pos (.inl (by omega))] at HX;clear hI hF HOW;generalize es.length=L at *;go_wp2;go_ret2;rw [unhide HX];exact ⟨_,rfl,World.ownsRow_nil _ _ _ _,unhide HRD⟩
   obtain ⟨L,hL⟩:∃L,es.length=L:=⟨_,rfl⟩;have HC:=hide (jCheck_any wr vq es.length vd es (es_of_own hI.own) (by omega) hI.fit.1 hI.fit.2);have hlt':¬(es.length:Int)<(N:Int):=by omega
   have hgt':¬(N:Int)<(es.length:Int):=by omega
   by_cases hc:checkP es=true
   case neg=>
    rw [if_pos (.inr (by simpa using hc))] at HX;rw [if_neg hc] at HC;clear hI hF HOW hL;generalize es.length=L at *;go_wp2_with fail;refine (unhide HC).mono ?_;rintro e w3 ⟨rfl,f3⟩;have HR3:=hide ((unhide HRD).below f3);clear HC f3 HRD;go_wp2;go_ret2;rw [unhide HX];exact ⟨_,rfl,World.ownsRow_nil _ _ _ _,unhide HR3⟩
   rw [if_neg (by rw [hc];simp;omega)] at HX;rw [if_pos hc] at HC;rw [hL] at HC HOW hlt' hgt';clear hI hF;rw [hL];go_wp2_with fail;refine (unhide HC).mono ?_;rintro e w3 ⟨rfl,f3⟩;have HR3:=hide ((unhide HRD).below f3);have HO3:=hide (gen_below (unhide HOW) f3);clear HC f3 HRD HOW;go_wp2;go_ret2;rw [unhide HX];refine ⟨_,rfl,?_,unhide HR3⟩;show World.ownsRow _ _ _ _ _ es.length (ev es);rw [hL];exact unhide HO3
  have hlt':(es.length:Int)<(N:Int):=by omega
  obtain ⟨f',rfl,hst⟩:=hI.step hlt;have hArg:=(unhide HB).blocks (unhide HF) hI.rd.oth;have HJ:=hide (jentry_anyE wr z a n c i' bs hArg hn hI.le hI.rd.blk (unhide HF));have hfit:=entR_fit (bs:=bs) (i:=i') (by omega);have hile:=entR_le (bs:=bs) (i:=i') (by have:=hI.le;omega);generalize entR bs i'=y at *;obtain ⟨y1,y2,y3⟩:=y;simp only at HJ hst hfit hile;have HI:=hide hI;clear hI hArg;obtain ⟨L,hL⟩:∃L,es.length=L:=⟨_,rfl⟩;rw [hL] at hlt';rw [hL];have HL:=hide hL;go_wp2_with fail;refine (unhide HJ).mono ?_;rintro e w2 ⟨x,rfl,hx,E2⟩;have ho2:=E2.own (unhide HI).own hzl;have hr2:=(unhide HI).rd.trans E2;rw [unhide HL] at ho2;unfold entV
  by_cases h4:y2=0
  case neg=>
   have h4':(y2 != 0)=true:=by simpa using h4
   rw [if_pos h4] at hst;rw [←hst] at HX;simp only at HX;rw [if_pos h4] at HX;have HR:=hide (hr2.below ((Below.refl _ _).alloc (Nat.le_refl _) (.cells #[.int .i64 x.tag,.string ⟨x.text.toArray⟩,.int .i64 x.n,.int .i64 x.a,.int .i64 x.b] 55)));clear HJ E2 ho2 hr2 HI hx hst hL HL;generalize (⟨x.text.toArray⟩:ByteArray)=st at *;go_wp2;go_ret2;rw [unhide HX];exact ⟨_,rfl,World.ownsRow_nil _ _ _ _,unhide HR⟩
  subst h4;rw [if_neg (by simp)] at hst;obtain rfl:=hx rfl;have hs2:w.heap.size≤w2.heap.size:=hr2.bel.size;have hown:=(ho2.alloc (.cells #[.int .i64 x.tag,.string ⟨x.text.toArray⟩,.int .i64 x.n,.int .i64 x.a,.int .i64 x.b] 55)).alloc (.cells (ev [x]).toArray 55);have hsrc:Es ((w2.alloc (.cells #[.int .i64 x.tag,.string ⟨x.text.toArray⟩,.int .i64 x.n,.int .i64 x.a,.int .i64 x.b] 55)).alloc (.cells (ev [x]).toArray 55)) (some ⟨w2.heap.size+1,0,none⟩) 1 [x]:=⟨rfl,.inr ⟨_,_,rfl,es_of_block (heap_alloc2_new w2 _ _)⟩⟩;have HST:Hid (∀W,((w2.alloc (.cells #[.int .i64 x.tag,.string ⟨x.text.toArray⟩,.int .i64 x.n,.int .i64 x.a,.int .i64 x.b] 55)).alloc (.cells (ev [x]).toArray 55)).grownBy W (Value.slice vq L vd).ownBlock→W.heap[w2.heap.size]?=some (.cells #[.int .i64 x.tag,.string ⟨x.text.toArray⟩,.int .i64 x.n,.int .i64 x.a,.int .i64 x.b] 55 (0,0))∧EEndE ex0 ex1 w z a n c y3 W):=fun W g=>by
   refine ⟨(g.block w2.heap.size (by simp;omega) (fun e=>?_)).trans ((heap_alloc_old _ _ (by simp)).trans (heap_alloc_last w2 _)),?_⟩
   · have:=(ho2.lt w2.heap.size e.symm).2
     omega
   · have e1:=(hr2.below ((Below.refl _ _).alloc (Nat.le_refl _) (.cells #[.int .i64 x.tag,.string ⟨x.text.toArray⟩,.int .i64 x.n,.int .i64 x.a,.int .i64 x.b] 55))).below ((Below.refl _ _).alloc (Nat.le_refl _) (.cells (ev [x]).toArray 55))
     refine ⟨(g.block z (lt_of_heap e1.blk) (fun e=>?_)).trans e1.blk,fun k hk hz=>(g.block k (by simp;omega) (fun e=>?_)).trans (e1.oth k hk hz),e1.bel.grown g (by simp;omega) (fun k hk=>?_)⟩
     · have:=(ho2.lt z e.symm).1
       omega
     · have:=(ho2.lt k e.symm).1
       omega
     · have:=(ho2.lt k hk).1
       omega
  have HF':=hide hst;have HFI:=hide hfit;have hIl:=(unhide HI).fuel;have HFT:=hide (unhide HI).fit;clear HJ E2 ho2 hr2 hx hst hfit
  go_wp2_with (at_builtin;refine listE_append rfl _ _ rfl w.heap.size (.slice vq L vd) L es rfl (by exact hown) (some ⟨w2.heap.size+1,0,none⟩) 1 1 [x] rfl (by exact hsrc) (fun e=>by cases e) (by omega) (Nat.le_trans hs2 (by simp;omega)) ?_)
  intro v3 w3 o3 g3';obtain ⟨hx3,e3⟩:=unhide HST w3 g3';obtain ⟨k0,_,_,_,_⟩:=entC (x:=x) hx3;have O3:=hide o3;have E3:=hide e3;have hs3:w.heap.size≤w3.heap.size:=e3.bel.size;clear o3 g3' e3 hx3 hown hsrc HST
  by_cases h5:x.tag=5
  case pos=>
   rw [h5] at k0;have e5:withE es x=es++[x,ent0]:=if_pos h5;have hown4:=(unhide O3).alloc (.cells (ev [ent0]).toArray 55);have hsrc4:Es (w3.alloc (.cells (ev [ent0]).toArray 55)) (some ⟨w3.heap.size,0,none⟩) 1 [ent0]:=⟨rfl,.inr ⟨_,_,rfl,es_of_block (heap_alloc_last _ _)⟩⟩;have E5:=hide e5;clear e5 h5
   go_wp2_with (at_builtin;refine listE_append rfl _ _ rfl w.heap.size v3 (L+1) (es++[x]) rfl (by exact hown4) (some ⟨w3.heap.size,0,none⟩) 1 1 [ent0] rfl (by exact hsrc4) (fun e=>by cases e) (by omega) (Nat.le_trans hs3 (by simp)) ?_)
   intro v4 w4 o4 g4;have HN:Hid (RIE ex0 ex1 w z a n c bs N F v4 w4 (withE es x) y3 f'):=by
    have e1:=(unhide E3).below ((Below.refl _ _).alloc (Nat.le_refl _) (.cells (ev [ent0]).toArray 55));refine ⟨?_,?_,by omega,unhide HF',?_,?_,(unhide HFT).more (unhide HFI)⟩
    · rw [unhide E5]
      have hl2:(es++[x,ent0]).length=L+1+1:=by simp [unhide HL]
      rw [hl2];have:=o4
      simpa using this
    · refine ⟨(g4.block z (lt_of_heap e1.blk) (fun e=>?_)).trans e1.blk,fun k hk hz=>(g4.block k (by simp;omega) (fun e=>?_)).trans (e1.oth k hk hz),e1.bel.grown g4 (by simp;omega) (fun k hk=>?_)⟩
      · have:=((unhide O3).lt z e.symm).1
        omega
      · have:=((unhide O3).lt k e.symm).1
        omega
      · have:=((unhide O3).lt k hk).1
        omega
    · rw [unhide E5]
      simp;omega
    · rw [unhide E5]
      simp;omega
   have HV:Hid (N-vlen v4<N-L):=by
    show N-vlen v4<N-L;obtain ⟨q4,d4,rfl⟩:=(unhide HN).vlen;show N-(withE es x).length<N-L;have:=withE_len es x;omega
   clear o4 g4 O3 E3 hown4 hsrc4;go_wp2;go_roundw
   case rel=>exact ⟨_,_,_,unhide HN⟩
   case measure=>exact unhide HV
  have e5:withE es x=es++[x]:=if_neg h5;have h5':(x.tag==5)=false:=by simpa using h5
  have HN:Hid (RIE ex0 ex1 w z a n c bs N F v3 w3 (withE es x) y3 f'):=by
   refine ⟨?_,unhide E3,by omega,unhide HF',?_,?_,(unhide HFT).more (unhide HFI)⟩
   · rw [e5]
     have hl2:(es++[x]).length=L+1:=by simp [unhide HL]
     rw [hl2];exact unhide O3
   · rw [e5]
     simp;omega
   · rw [e5]
     simp;omega
  have HV:Hid (N-vlen v3<N-L):=by
   show N-vlen v3<N-L;obtain ⟨q4,d4,rfl⟩:=(unhide HN).vlen;show N-(withE es x).length<N-L;have:=withE_len es x;omega
  clear O3 E3 e5 h5;go_wp2;go_roundw
  case rel=>exact ⟨_,_,_,unhide HN⟩
  case measure=>exact unhide HV
def gapE (l:List Ent) (i:Nat):Bool:=decide (i=0)||decide ((atE l ((i:Int)-1)).tag=5)
def rightAt (l:List Ent) (i:Nat):Bool:=
 if gapE l i=true then decide (atE l (i:Int)=ent0) else okE l (atE l (i:Int))&&(decide ((atE l (i:Int)).tag≠5)||decide (i+1<l.length))
theorem gapE_succ (l:List Ent) (i:Nat):gapE l (i+1)=decide ((atE l (i:Int)).tag=5):=by
 unfold gapE;rw [show ((i+1:Nat):Int)-1=(i:Int) by omega];simp
theorem drop_atE {l:List Ent} {k:Nat} (h:k<l.length):l.drop k=atE l (k:Int)::l.drop (k+1):=by
 rw [atE_nat,List.getElem?_eq_getElem h];exact List.drop_eq_getElem_cons h
theorem right_fwd {l:List Ent} (h:∀i,i<l.length→rightAt l i=true):∀m k,l.length-k≤m→gapE l k=false→goE l (l.drop k)=true:=by
 intro m
 induction m using Nat.strongRecOn with
 | _ m ih=>
  intro k hm hg
  by_cases hk:k<l.length
  · have h1:=h k hk
    unfold rightAt at h1;rw [if_neg (by rw [hg];simp),Bool.and_eq_true] at h1;rw [drop_atE hk]
    by_cases hk2:k+1<l.length
    · rw [drop_atE hk2]
      by_cases h5:(atE l (k:Int)).tag=5
      · have g1:gapE l (k+1)=true:=by rw [gapE_succ];simpa using h5
        have h2:=h (k+1) hk2;unfold rightAt at h2;rw [if_pos g1,decide_eq_true_eq] at h2;have g2:gapE l (k+1+1)=false:=by
         rw [gapE_succ,h2];rfl
        have:=ih (l.length-(k+1+1)) (by omega) (k+1+1) (Nat.le_refl _) g2;simp only [goE,h1.1,h5,if_true,h2,this];simp
      · have g1:gapE l (k+1)=false:=by rw [gapE_succ];simpa using h5
        have:=ih (l.length-(k+1)) (by omega) (k+1) (Nat.le_refl _) g1;rw [drop_atE hk2] at this;simp only [goE,h1.1,if_neg h5,this];simp
    · rw [List.drop_of_length_le (by omega)]
      have:=h1.2;simp only [goE,h1.1]
      simpa [hk2] using this
  · rw [List.drop_of_length_le (by omega)]
    rfl
theorem right_bwd {l:List Ent}:∀m k,l.length-k≤m→gapE l k=false→goE l (l.drop k)=true→∀i,k≤i→i<l.length→rightAt l i=true:=by
 intro m
 induction m using Nat.strongRecOn with
 | _ m ih=>
  intro k hm hg hgo i hki hi;have hk:k<l.length:=by omega
  rw [drop_atE hk] at hgo
  by_cases hk2:k+1<l.length
  · rw [drop_atE hk2] at hgo
    simp only [goE,Bool.and_eq_true] at hgo;obtain ⟨ho,hgo⟩:=hgo;have hr:rightAt l k=true:=by
     unfold rightAt;rw [if_neg (by rw [hg];simp),ho];simp [hk2]
    by_cases h5:(atE l (k:Int)).tag=5
    · rw [if_pos h5,Bool.and_eq_true,decide_eq_true_eq] at hgo
      have g1:gapE l (k+1)=true:=by rw [gapE_succ];simpa using h5
      have g2:gapE l (k+1+1)=false:=by rw [gapE_succ,hgo.1];rfl
      by_cases e1:i=k
      · subst e1;exact hr
      by_cases e2:i=k+1
      · subst e2
        unfold rightAt;rw [if_pos g1,decide_eq_true_eq];exact hgo.1
      exact ih (l.length-(k+1+1)) (by omega) (k+1+1) (Nat.le_refl _) g2 hgo.2 i (by omega) hi
    · rw [if_neg h5,←drop_atE hk2] at hgo
      have g1:gapE l (k+1)=false:=by rw [gapE_succ];simpa using h5
      by_cases e1:i=k
      · subst e1;exact hr
      exact ih (l.length-(k+1)) (by omega) (k+1) (Nat.le_refl _) g1 hgo i (by omega) hi
  · rw [List.drop_of_length_le (l:=l) (i:=k+1) (by omega)] at hgo
    simp only [goE,Bool.and_eq_true,decide_eq_true_eq] at hgo;have e1:i=k:=by omega
    subst e1;unfold rightAt;rw [if_neg (by rw [hg];simp),hgo.1];simp [hgo.2]
theorem right_all {l:List Ent} (hl:1≤l.length):(∀i,i<l.length→rightAt l i=true)↔rightL l:=by
 have h00:atE l ((0:Nat):Int)=l[0]?.getD ent0:=atE_nat l 0;constructor
 · intro h
   have h0:=h 0 (by omega);unfold rightAt at h0;rw [if_pos (by rfl),decide_eq_true_eq] at h0;have hg:gapE l 1=false:=by rw [gapE_succ,h0];rfl
   refine ⟨?_,right_fwd h _ 1 (Nat.le_refl _) hg⟩;rw [List.getElem?_eq_getElem (by omega)] at h00 ⊢;rw [h00] at h0;exact congrArg some h0
 · rintro ⟨h0,hgo⟩ i hi
   have h0':atE l ((0:Nat):Int)=ent0:=by rw [h00,h0];rfl
   have hg:gapE l 1=false:=by rw [gapE_succ,h0'];rfl
   by_cases e:i=0
   · subst e
     unfold rightAt;rw [if_pos (by rfl),decide_eq_true_eq];exact h0'
   · exact right_bwd _ 1 (Nat.le_refl _) hg hgo i (by omega) hi
theorem checkP_all (l:List Ent):checkP l=true↔(1≤l.length∧l.length≤1024)∧∀i,i<l.length→rightAt l i=true:=by
 rw [checkP_right];constructor
 · rintro ⟨h1,h2⟩
   exact ⟨h1,(right_all h1.1).2 h2⟩
 · rintro ⟨h1,h2⟩
   exact ⟨h1,(right_all h1.1).1 h2⟩
def justE (x:Ent):Ent:=
 if x.tag=1 then ⟨1,x.text,0,0,0⟩
 else if x.tag=3∨x.tag=5 then ⟨x.tag,[],x.n,0,0⟩
 else if x.tag=9∨x.tag=10∨x.tag=12 then ⟨x.tag,[],0,x.a,x.b⟩
 else if x.tag=7 then ⟨7,[],0,x.a,0⟩
 else ent0
def leadsE (l:List Ent) (x:Ent):Bool:=
 if x.tag=9∨x.tag=10 then decide (tagE l x.a=7)&&decide (tagE l x.b=12)
 else if x.tag=12 then decide (tagE l x.b=1)&&decide (tagE l x.a=1)
 else if x.tag=7 then decide (tagE l x.a=1)
 else true
def fitsE (t n:Int):Bool:=decide (t≠3)||decide (-2147483648≤n∧n≤2147483647)
theorem okE_code (l:List Ent) (x:Ent):okE l x=(decide (x.tag≠0)&&decide (x=justE x)&&textB x.text&&leadsE l x&&fitsE x.tag x.n):=by
 obtain ⟨t,s,n,a,b⟩:=x;have hnil:textB []=true:=by decide
 unfold okE justE leadsE fitsE eUtf;simp only
 by_cases h1:t=1
 · subst h1
   simp;rw [Bool.and_comm]
 by_cases h3:t=3
 · subst h3
   simp
   by_cases hs:s=[]
   · subst hs
     rw [hnil];simp;rw [Bool.and_comm]
   · simp [hs]
 by_cases h5:t=5
 · subst h5
   simp
   by_cases hs:s=[]
   · subst hs;rw [hnil];simp
   · simp [hs]
 by_cases h7:t=7
 · subst h7
   simp
   by_cases hs:s=[]
   · subst hs;rw [hnil];simp;rw [Bool.and_comm]
   · simp [hs]
 by_cases h12:t=12
 · subst h12
   simp
   by_cases hs:s=[]
   · subst hs
     rw [hnil];simp;rw [Bool.and_comm]
     congr 1
     rw [Bool.and_comm]
   · simp [hs]
 by_cases h9:t=9∨t=10
 · rcases h9 with rfl | rfl
   · simp
     by_cases hs:s=[]
     · subst hs;rw [hnil];simp;rw [Bool.and_comm]
     · simp [hs]
   · simp
     by_cases hs:s=[]
     · subst hs;rw [hnil];simp;rw [Bool.and_comm]
     · simp [hs]
 · have h9':t≠9:=fun e=>h9 (.inl e)
   have h10:t≠10:=fun e=>h9 (.inr e)
   simp [h1,h3,h5,h7,h12,h9',h10];intro h0;exact fun e=>absurd (congrArg Ent.tag e) h0
def meanN (l:List Ent) (x:Ent):Cst:=
 if x.tag=3∨x.tag=5 then ⟨x.tag,x.n,[],[],[]⟩
 else if x.tag=7 then ⟨7,0,(atE l x.a).text,[],[]⟩
 else if x.tag=9∨x.tag=10 then ⟨x.tag,0,(atE l (atE l x.a).a).text,(atE l (atE l x.b).a).text,(atE l (atE l x.b).b).text⟩
 else if x.tag=12 then ⟨12,0,[],(atE l x.a).text,(atE l x.b).text⟩
 else ⟨x.tag,0,[],[],[]⟩
theorem meanN_tag (l:List Ent) (x:Ent):(meanN l x).tag=x.tag:=by
 unfold meanN
 repeat' split
 all_goals first | rfl | (simp_all;done) | (rename_i h;simp [h])
theorem meanN_keep {l:List Ent} (e:List Ent) (h:rightL l) {x:Ent} (hx:x.tag=0∨okE l x=true):meanN (l++e) x=meanN l x:=by
 unfold meanN
 rcases hx with t | ho
 · simp [t]
 · rcases okE_tag ho with t | t | t | t | t | t | t <;> simp only [t] <;> unfold okE at ho <;> simp [t] at ho ⊢
   · rw [atE_keep e (by have:=ho.1;unfold tagE at this;omega)]
   · obtain ⟨⟨h1,h2⟩,_⟩:=ho
     unfold tagE at h1 h2;rw [atE_keep e (i:=x.a) (by omega),atE_keep e (i:=x.b) (by omega)];exact ⟨rfl,rfl⟩
   all_goals
    obtain ⟨⟨h1,h2⟩,_⟩:=ho;unfold tagE at h1 h2;have o1:=right_ok h (i:=x.a) (by omega);have o2:=right_ok h (i:=x.b) (by omega);rw [atE_keep e (i:=x.a) (by omega),atE_keep e (i:=x.b) (by omega)];unfold okE at o1 o2;simp [h1] at o1;simp [h2] at o2;have q1:=o1.1;have q2:=o2.1.1;have q3:=o2.1.2;unfold tagE at q1 q2 q3;rw [atE_keep e (by omega),atE_keep e (by omega),atE_keep e (by omega)];exact ⟨rfl,rfl,rfl⟩
theorem right_or {l:List Ent} (h:rightL l) (i:Int):(atE l i).tag=0∨okE l (atE l i)=true:=by
 by_cases h0:(atE l i).tag=0
 · exact .inl h0
 · exact .inr (right_ok h h0)
def firstN (l:List Ent) (c:Cst):Nat:=((List.range l.length).find? fun (i:Nat)=>decide (1≤i)&&decide (meanN l (atE l (i:Int))=c)).getD 0
theorem firstN_none {l:List Ent} {c:Cst} (h:firstN l c=0):∀j:Nat,1≤j→j<l.length→meanN l (atE l (j:Int))≠c:=fun j hj hl=>by
 simpa using first_none (p:=fun i=>decide (meanN l (atE l (i:Int))=c)) h j hj hl
structure GN (l L:List Ent) (k:Nat) (c:Cst) (S:Int→Prop):Prop where
 ext:Ext l L S
 pos:1≤k
 lt:k<L.length
 mean:meanN L (atE L (k:Int))=c
theorem right_len {l:List Ent} (h:rightL l):1≤l.length:=by
 cases l with
 | nil=>have:=h.1;simp at this
 | cons y s=>simp
theorem Ext.meanN {l L:List Ent} {S:Int→Prop} (h:Ext l L S) (hr:rightL l) {j:Nat} (hj:j<l.length):meanN L (atE L (j:Int))=meanN l (atE l (j:Int)):=by
 obtain ⟨e,rfl⟩:=h.ext;rw [atE_left e hj];exact meanN_keep e hr (right_or hr _)
theorem withE_ext {L:List Ent} {x:Ent} (h:rightL L) (ho:okE L x=true):Ext L (withE L x) (fun t=>t=x.tag∨t=0)∧L.length<(withE L x).length∧atE (withE L x) (L.length:Int)=x:=by
 have hw:=withE_eq L x;have hlen:=withE_len L x;refine ⟨⟨⟨_,hw⟩,right_with h ho,fun j h1 h2=>?_⟩,by omega,?_⟩
 · rw [hw,atE_nat,List.getElem?_append_right h1]
   by_cases h5:x.tag=5
   · rw [if_pos h5]
     match j-L.length with
     | 0=>exact .inl rfl
     | 1=>exact .inr rfl
     | k+2=>exact .inr rfl
   · rw [if_neg h5]
     match j-L.length with
     | 0=>exact .inl rfl
     | k+1=>exact .inr rfl
 · rw [hw,atE_nat,List.getElem?_append_right (Nat.le_refl _),Nat.sub_self]
   split <;> rfl
theorem GN.new {l L:List Ent} {x:Ent} {c:Cst} {S:Int→Prop} (e:Ext l L S) (ho:okE L x=true) (hm:meanN L x=c) (h0:S 0) (hx:S x.tag):GN l (withE L x) L.length c S:=by
 obtain ⟨w1,w2,w3⟩:=withE_ext e.right ho;have W1:=w1.mono (S':=S) (fun t ht=>by rcases ht with rfl | rfl <;> assumption);refine ⟨e.trans W1,right_len e.right,w2,?_⟩;rw [w3];obtain ⟨ex,hex⟩:=w1.ext;rw [hex,meanN_keep ex e.right (.inr ho)];exact hm
theorem GN.first {l L:List Ent} {c:Cst} {S:Int→Prop} (e:Ext l L S) (hr:rightL l) (hf:firstN l c=0) (hS:∀t,S t→t≠c.tag) {x:Ent} {M:List Ent} (hM:∃z,M=L++z):∀j:Nat,1≤j→j<L.length→meanN M (atE M (j:Int))≠c:=fun j h1 h2=>by
 obtain ⟨z,rfl⟩:=hM;rw [atE_left z h2,meanN_keep z e.right (right_or e.right _)]
 by_cases hj:j<l.length
 · rw [e.meanN hr hj]
   exact firstN_none hf j h1 hj
 · intro he
   have t1:=e.tags j (by omega) h2;have t2:=meanN_tag L (atE L (j:Int));rw [he] at t2;exact hS _ t1 t2.symm
end Go.Proofs.YtlabllgifkklhaaGreatDoor
