/- Joined: CkC CkD CkE CkF CkG. -/
import Derived.Test.YtlabllgifkklhaaGreatDoorJP17
import Derived.Test.YtlabllgifkklhaaGreatDoorJP7
import Derived.Test.YtlabllgifkklhaaGreatDoorJP14
set_option linter.unusedVariables false
set_option maxRecDepth 100000
set_option maxHeartbeats 12800000
namespace Go.Proofs.YtlabllgifkklhaaGreatDoor
open Go.RowKit
theorem nType_any (w:World) (g mt mc:Nat) (p:Sl) (l:List Ent) (h:Nm w g mt mc p l) (t:Ty) (ht:TyFit t) :
 Calls Tryz.prog 137 #[.pointer (some ⟨g,0,none⟩),.agg #[.int .i64 t.kind,.string ⟨t.name.toArray⟩]] w fun e w'=>e=.returned (.bool (okT l t))∧Below w.heap.size w w':=by
 obtain ⟨k,nm⟩:=t;obtain ⟨hk,hn⟩:=ht;simp only at hk hn;obtain ⟨w0,e0,f0,K0⟩:=one_local w #[.int .i64 k,.string ⟨nm.toArray⟩] 143;have q0:=K0 w0 (Below.refl _ _) 0 _ rfl;have q1:=K0 w0 (Below.refl _ _) 1 _ rfl;have HC:=hide (nHasClass_any w0 g mt mc p l (h.below f0) nm hn);have E0:=hide e0;have F0:=hide f0;unfold fitI at hk
 by_cases h4:k=4
 · subst h4
   have hT:okT l ⟨4,nm⟩=decide (clsN l nm≠0):=by simp [okT]
   simp only;rw [hT];generalize decide (clsN l nm≠0)=dd at *;clear h hT K0 e0 f0;generalize (⟨nm.toArray⟩:ByteArray)=st at *;have e0:=unhide E0;go_enter Tryz.func137,Tryz.ntmps137;go_wp2_with fail;refine (unhide HC).mono ?_;rintro e w' ⟨rfl,rfl⟩;clear e0;go_wp2;go_ret;exact ⟨rfl,unhide F0⟩
 · have h4b:(k==4)=false:=by simpa using h4
   by_cases h1:0≤k
   · by_cases h2:k<5
     · have hT:okT l ⟨k,nm⟩=decide (nm=[]):=by
        unfold okT;simp only;rw [if_neg h4,decide_eq_true (by omega:k=0∨k=1∨k=2∨k=3∨k=4),Bool.true_and]
       simp only;rw [hT];obtain ⟨zs,hzs⟩:∃zs:ByteArray,zs=⟨nm.toArray⟩:=⟨_,rfl⟩;have i1:zs=⟨#[]⟩↔nm=[]:=by rw [hzs];simp
       have i2:zs.toList=[]↔nm=[]:=by rw [hzs];simp
       rw [←hzs] at q1 E0 ⊢;clear h hT K0 e0 f0 HC hzs;have e0:=unhide E0
       by_cases hz:nm=[]
       · have hz1:=i1.2 hz
         rw [decide_eq_true hz];subst hz1;clear i1 i2 hz;go_enter Tryz.func137,Tryz.ntmps137;go_wp2;go_ret;exact ⟨rfl,unhide F0⟩
       · have hz2:¬zs.toList=[]:=fun h=>hz (i2.1 h)
         have hz3:(zs.toList==[])=false:=by simpa using hz2
         rw [decide_eq_false hz];clear i1 i2 hz;go_enter Tryz.func137,Tryz.ntmps137;go_wp2;go_ret;exact ⟨by first | rfl | (simp only [hz3];rfl) | simp [hz2,hz3],unhide F0⟩
     · have hT:okT l ⟨k,nm⟩=false:=by
        unfold okT;rw [decide_eq_false (by simp only;omega),Bool.false_and]
       simp only;rw [hT];have h2b:decide (k<5)=false:=by simpa using h2
       clear h hT K0 e0 f0 HC;generalize (⟨nm.toArray⟩:ByteArray)=st at *;have e0:=unhide E0;go_enter Tryz.func137,Tryz.ntmps137;go_wp2;go_ret;exact ⟨rfl,unhide F0⟩
   · have hT:okT l ⟨k,nm⟩=false:=by
      unfold okT;rw [decide_eq_false (by simp only;omega),Bool.false_and]
     simp only;rw [hT];have h1b:decide (0≤k)=false:=by simpa using h1
     clear h hT K0 e0 f0 HC;generalize (⟨nm.toArray⟩:ByteArray)=st at *;have e0:=unhide E0;go_enter Tryz.func137,Tryz.ntmps137;go_wp2;go_ret;exact ⟨rfl,unhide F0⟩
theorem longsWide_any (w:World) (s:Sl) (ts:List Ty) (hA:TysIn w s ts) :
 Calls Tryz.prog 138 #[s.v] w fun e w'=>e=.returned (.bool (longsB ts))∧Below w.heap.size w w':=by
 obtain ⟨a,n,c⟩:=s;have hs:=hA.small;have hln:=hA.ls.1;simp only at hln hs;unfold Sl.v;simp only;have HA:=hide hA.ls;have HF:=hide hA.each;obtain ⟨T,hT⟩:∃T,T=longsB ts:=⟨_,rfl⟩;rw [←hT];have HTT:=hide hT;clear hA hT;go_enter Tryz.func138,Tryz.ntmps138;go_wp2
 go_loopw [7] (fun i wr=>∃k:Nat,k≤n∧i=.int .i64 k∧Below w.heap.size w wr∧∀(j:Nat) (t:Ty),j<k→ts[j]?=some t→t.kind=2→∃z,ts[j+1]?=some z∧z.kind=0) (fun i _=>n-(intOf i).toNat)
 case atStart=>exact ⟨0,by omega,rfl,Below.refl _ _,fun j t hj=>absurd hj (Nat.not_lt_zero _)⟩
 case round=>
  obtain ⟨k,hk,rfl,hR,hgo⟩:=hrel;have HGO:=hide hgo;clear hgo
  by_cases hlt:k<n
  · have hlt1:(k:Int)<(n:Int):=by omega
    have hk0:(0:Int)≤(k:Int):=by omega
    obtain ⟨b1,o1,h1a,h1⟩:=Ls.row (unhide HA) (w':=w) (by show n≠0;omega);subst h1a;obtain ⟨t,ht⟩:∃t,ts[k]?=some t:=⟨_,List.getElem?_eq_getElem (by omega)⟩;have q:=h1 hR k t ht;have c0:=q.zero;have c1:=q 1 _ rfl;have hfit:=(unhide HF t (List.mem_of_getElem? ht)).1;unfold fitI at hfit;have hf1:=((Below.refl wr.heap.size wr).alloc (Nat.le_refl _) (.cells #[.int .i64 t.kind,.string ⟨t.name.toArray⟩] 143));have HR1:=hide (hR.trans (hf1.mono hR.size));have HTk:=hide ht
    by_cases h2:t.kind=2
    · by_cases hend:k+1=n
      · have hbad:Hid (T=false):=by
         show T=false;rw [unhide HTT];cases hb:longsB ts with
         | false=>rfl
         | true=>
          obtain ⟨z,hz,_⟩:=(longsB_at ts).1 hb k t ht h2;have:=(List.getElem?_eq_some_iff.1 hz).1;omega
        have hend1:(k:Int)+1=(n:Int):=by omega
        clear q h1 ht hR hf1;generalize (⟨t.name.toArray⟩:ByteArray)=s1 at *;generalize t.kind=tk at *;subst h2;go_wp2;go_ret;exact ⟨by rw [unhide hbad];rfl,unhide HR1⟩
      · obtain ⟨z,hz⟩:∃z,ts[k+1]?=some z:=⟨_,List.getElem?_eq_getElem (by omega)⟩
        have qz:=h1 (hR.trans (hf1.mono hR.size)) (k+1) z hz;have z0:=qz.zero;have hend1:((k:Int)+1==(n:Int))=false:=by simp;omega
        have hend2:¬((k:Int)+1=(n:Int)):=by omega
        have hk2:(k:Int)+1<(n:Int):=by omega
        have hk3:(0:Int)≤(k:Int)+1:=by omega
        have hk4:((k:Int)+1).toNat=k+1:=by omega
        have hfz:=(unhide HF z (List.mem_of_getElem? hz)).1;unfold fitI at hfz;have hnext:Hid (z.kind=0→∀(j:Nat) (t:Ty),j<k+1→ts[j]?=some t→t.kind=2→∃z,ts[j+1]?=some z∧z.kind=0):=fun hz0 j t' hj ht' hk'=>by
         by_cases e:j<k
         · exact unhide HGO j t' e ht' hk'
         · obtain rfl:j=k:=by omega
           exact ⟨z,hz,hz0⟩
        have hbad:Hid (z.kind≠0→T=false):=fun hz0=>by
         rw [unhide HTT];cases hb:longsB ts with
         | false=>rfl
         | true=>
          obtain ⟨z',hz',hz2⟩:=(longsB_at ts).1 hb k t ht h2;rw [hz] at hz';injection hz' with hz'
          subst hz';exact absurd hz2 hz0
        clear q h1 ht hR hf1 qz hz;generalize (⟨t.name.toArray⟩:ByteArray)=s1 at *;generalize t.kind=tk at *;generalize z.kind=zk at *;subst h2
        by_cases hz0:zk=0
        · subst hz0
          go_wp2;go_roundw
          case rel=>exact ⟨k+1,by omega,by go_num,unhide HR1,unhide hnext (by first | rfl | trivial)⟩
          case measure=>simp [intOf];omega
        · have hz1:(zk != 0)=true:=by simpa using hz0
          have hz2:(zk==0)=false:=by simpa using hz0
          go_wp2;go_ret;exact ⟨by rw [unhide hbad hz0];rfl,unhide HR1⟩
    · have h2b:(t.kind==2)=false:=by simpa using h2
      have hnext:Hid (∀(j:Nat) (t:Ty),j<k+1→ts[j]?=some t→t.kind=2→∃z,ts[j+1]?=some z∧z.kind=0):=fun j t' hj ht' hk'=>by
       by_cases e:j<k
       · exact unhide HGO j t' e ht' hk'
       · obtain rfl:j=k:=by omega
         rw [ht] at ht';injection ht' with ht'
         subst ht';exact absurd hk' h2
      clear q h1 ht hR hf1 h2;generalize (⟨t.name.toArray⟩:ByteArray)=s1 at *;generalize t.kind=tk at *;go_wp2;go_roundw
      case rel=>exact ⟨k+1,by omega,by go_num,unhide HR1,unhide hnext⟩
      case measure=>simp [intOf];omega
  · obtain rfl:k=n:=by omega
    have hT:T=true:=by
     rw [unhide HTT,longsB_at];intro i t ht hk2;exact unhide HGO i t (by have:=(List.getElem?_eq_some_iff.1 ht).1;omega) ht hk2
    subst hT;have HR:=hide hR;clear hR HTT;go_wp2;go_ret;exact ⟨rfl,unhide HR⟩
theorem doRise_any (w:World) (s:Sl) (mr:List MpR) (hA:LIn 3 56 mpc (MpIn w) w s mr) :
 Calls Tryz.prog 117 #[s.v] w fun e w'=>e=.returned (.bool (riseB (-1) (mr.map MpR.m)))∧Below w.heap.size w w':=by
 obtain ⟨a,n,c⟩:=s;have hs:=hA.small;have hln:=hA.ls.1;simp only at hln hs;unfold Sl.v;simp only;have HA:=hide hA.ls;have HF:=hide hA.each;obtain ⟨ms,hms⟩:∃ms,ms=mr.map MpR.m:=⟨_,rfl⟩;rw [←hms];have HMS:=hide hms;obtain ⟨T,hT⟩:∃T,T=riseB (-1) ms:=⟨_,rfl⟩;rw [←hT];have HTT:=hide hT;clear hA hT hms;go_enter Tryz.func117,Tryz.ntmps117;go_wp2
 go_loopw [3,8] (fun av i wr=>∃(k:Nat) (ah:Int),k≤n∧av=.int .i64 ah∧i=.int .i64 k∧Below w.heap.size w wr∧ah=((ms.take k).map Mp.at_).getLast?.getD (-1)∧fitI ah∧riseB (-1) (ms.take k)=true) (fun _ i _=>n-(intOf i).toNat)
 case atStart=>exact ⟨0,-1,by omega,rfl,rfl,Below.refl _ _,rfl,by unfold fitI;omega,rfl⟩
 case round=>
  obtain ⟨k,ah,hk,rfl,rfl,hR,hah,hfa,hri⟩:=hrel;unfold fitI at hfa
  by_cases hlt:k<n
  · have hlt1:(k:Int)<(n:Int):=by omega
    have hk0:(0:Int)≤(k:Int):=by omega
    obtain ⟨b1,o1,h1a,h1⟩:=Ls.row (unhide HA) (w':=w) (by show n≠0;omega);subst h1a;obtain ⟨m,hm⟩:∃m,mr[k]?=some m:=⟨_,List.getElem?_eq_getElem (by omega)⟩;have hmm:ms[k]?=some m.m:=by rw [unhide HMS,List.getElem?_map,hm];rfl
    have q:=h1 hR k m hm;obtain ⟨mm,⟨la,ln,lc⟩,⟨sa,sn,sc⟩⟩:=m;have c0:=q.zero;have c1:=q 1 _ rfl;have c2:=q 2 _ rfl;simp only [Sl.v] at c0 c1 c2;have hfit:=(unhide HF _ (List.mem_of_getElem? hm)).fit;simp only at hfit hmm;unfold fitI at hfit;have hf1:=((Below.refl wr.heap.size wr).alloc (Nat.le_refl _) (.cells #[.int .i64 mm.at_,.slice la ln lc,.slice sa sn sc] 52));have HR1:=hide (hR.trans (hf1.mono hR.size));have hstep:=riseB_take ms (-1) k mm hmm hri;rw [←hah] at hstep;have hlast:((ms.take (k+1)).map Mp.at_).getLast?.getD (-1)=mm.at_:=by
     rw [List.take_add_one,hmm];simp
    have HS:=hide hstep;have HL:=hide hlast;clear q h1 hm hR hf1 hstep hlast hah hri hmm
    by_cases h2:mm.at_≤ah
    · have hbad:Hid (T=false):=(unhide HTT).trans (riseB_false ms (-1) (k+1) ((unhide HS).trans (by simpa using h2)))
      generalize mm.at_=mA at *;go_wp2;go_ret;exact ⟨by rw [unhide hbad];rfl,unhide HR1⟩
    · have hgo:Hid (riseB (-1) (ms.take (k+1))=true):=(unhide HS).trans (by simpa using h2)
      have h2b:decide (mm.at_≤ah)=false:=by simpa using h2
      generalize mm.at_=mA at *;go_wp2;go_roundw
      case rel=>exact ⟨k+1,mA,by omega,rfl,by go_num,unhide HR1,(unhide HL).symm,hfit,unhide hgo⟩
      case measure=>simp [intOf];omega
  · obtain rfl:k=n:=by omega
    have hT:T=true:=by
     rw [unhide HTT,←hri,List.take_of_length_le];rw [unhide HMS,List.length_map];omega
    subst hT;have HR:=hide hR;clear hR HTT hah hri;go_wp2;go_ret;exact ⟨rfl,unhide HR⟩
theorem arT_any (w:World) (g mt mc:Nat) (p:Sl) (l:List Ent) (h:Nm w g mt mc p l) (s:Sl) (xs:List Ty) (hA:LIn 2 24 tyc TyFit w s xs) (most:Nat) (hm:most≤1000) :
 Calls Tryz.prog 136 #[s.v,.int .i64 (most:Int),.func (.func 137) #[.pointer (some ⟨g,0,none⟩)] #[]] w fun e w'=>e=.returned (.bool (areB (okT l) most xs))∧Below w.heap.size w w':=by
 obtain ⟨a,n,c⟩:=s;have hs:=hA.small;have hln:=hA.ls.1;simp only at hln hs;unfold Sl.v;simp only;have HA:=hide hA.ls;have HF:=hide hA.each;have HN:=hide h;obtain ⟨T,hT⟩:∃T,T=areB (okT l) most xs:=⟨_,rfl⟩;rw [←hT];have HTT:Hid (T=(decide (n≤most)&&xs.all (fun x=>okT l x))):=hT.trans (by unfold areB;rw [hln]);clear hA hT h
 by_cases hmo:n≤most
 case neg=>
  have hT:T=false:=by rw [unhide HTT];simp [hmo]
  subst hT;clear HTT;have hmo1:(most:Int)<(n:Int):=by omega
  go_enter Tryz.func136,Tryz.ntmps136;go_wp2;go_ret;exact ⟨rfl,Below.refl _ _⟩
 have hmo1:¬(most:Int)<(n:Int):=by omega
 go_enter Tryz.func136,Tryz.ntmps136;go_wp2
 go_loopw [15] (fun i wr=>∃k:Nat,k≤n∧i=.int .i64 k∧Below w.heap.size w wr∧(xs.take k).all (fun x=>okT l x)=true) (fun i _=>n-(intOf i).toNat)
 case atStart=>exact ⟨0,by omega,rfl,Below.refl _ _,rfl⟩
 case round=>
  obtain ⟨k,hk,rfl,hR,hgo⟩:=hrel
  by_cases hlt:k<n
  · have hlt1:(k:Int)<(n:Int):=by omega
    have hk0:(0:Int)≤(k:Int):=by omega
    obtain ⟨b1,o1,h1a,h1⟩:=Ls.row (unhide HA) (w':=w) (by show n≠0;omega);subst h1a;obtain ⟨x,hx1⟩:∃x,xs[k]?=some x:=⟨_,List.getElem?_eq_getElem (by omega)⟩;have q:=h1 hR k x hx1;have hx:=unhide HF x (List.mem_of_getElem? hx1);have hstep:(xs.take (k+1)).all (fun x=>okT l x)=(okT l x):=by
     rw [List.take_add_one,hx1,List.all_append,hgo];simp
    have hbad:(okT l x)=false→T=false:=fun e=>by
     rw [unhide HTT];have:xs.all (fun x=>okT l x)=false:=List.all_eq_false.2 ⟨x,List.mem_of_getElem? hx1,by simp [e]⟩;rw [this,Bool.and_false]
    have c0:=q.zero;have c1:=q 1 _ rfl;have f0:=(Below.refl wr.heap.size wr).alloc (Nat.le_refl _) (.cells #[.int .i64 x.kind,.string ⟨x.name.toArray⟩] 143);have FB:=hR.trans (f0.mono hR.size);have HP:=hide (nType_any (wr.alloc (.cells #[.int .i64 x.kind,.string ⟨x.name.toArray⟩] 143)) g mt mc p l ((unhide HN).below FB) _ hx);have HB:=hide FB;have HST:=hide hstep;have HBD:=hide hbad;clear q h1 hx1 hR f0 FB hx hstep hbad hgo
    try simp only [Sl.v] at HP HST HBD
    generalize okT l x=bb at *;generalize (⟨x.name.toArray⟩:ByteArray)=s1 at *;go_wp2_with fail;refine (unhide HP).mono ?_;rintro e w4 ⟨rfl,f4⟩;have F4:=hide ((unhide HB).trans (f4.mono (unhide HB).size));clear HP f4 HB;cases bb
    · have hT:T=false:=unhide HBD (by first | rfl | trivial)
      subst hT;go_wp2;go_ret;exact ⟨rfl,unhide F4⟩
    · go_wp2
      go_roundw
      case rel=>exact ⟨k+1,by omega,by go_num,unhide F4,unhide HST⟩
      case measure=>simp [intOf];omega
  · obtain rfl:k=n:=by omega
    have hT:T=true:=by
     rw [unhide HTT,decide_eq_true hmo,Bool.true_and,←hgo,List.take_of_length_le (by omega)]
    subst hT;have HR:=hide hR;clear hR HTT hgo;go_wp2;go_ret;exact ⟨rfl,unhide HR⟩
theorem ints_at (w:World) (zs:List Int) (X:Array Value) (hX:X.toList=zs.map (Value.int .i64)):∀(k:Nat) (z:Int),zs[k]?=some z→(w.alloc (.cells X 3)).cell? ⟨w.heap.size,k,none⟩=some (.int .i64 z):=fun k z hz=>by
 rw [cell_of_row _ _ _ _ _ _ (heap_alloc_last w (.cells X 3))];have:X.toList[k]?=some (.int .i64 z):=by rw [hX,List.getElem?_map,hz];rfl
 simpa using this
theorem strs_at (w:World) (ss:List (List UInt8)) (X:Array Value) (hX:X.toList=ss.map (fun s=>Value.string ⟨s.toArray⟩)):StrsAt (w.alloc (.cells X 9)) w.heap.size ss:=fun k z hz=>by
 rw [cell_of_row _ _ _ _ _ _ (heap_alloc_last w (.cells X 9))];have:X.toList[k]?=some (.string ⟨z.toArray⟩):=by rw [hX,List.getElem?_map,hz];rfl
 simpa using this
theorem nMap_any (w:World) (g mt mc:Nat) (p:Sl) (l:List Ent) (h:Nm w g mt mc p l) (r:MpR) (hr:MpIn w r) :
 Calls Tryz.prog 116 #[.pointer (some ⟨g,0,none⟩),.agg #[.int .i64 r.m.at_,r.loc.v,r.stk.v]] w fun e w'=>e=.returned (.bool (mapOk l r.m))∧Below w.heap.size w w':=by
 obtain ⟨⟨at_,loc,stk⟩,⟨la,ln,lc⟩,⟨sa,sn,sc⟩⟩:=r;obtain ⟨hf,hl,hs⟩:=hr;simp only at hf hl hs;unfold Sl.v;simp only;obtain ⟨w0,e0,f0,K0⟩:=one_local w #[.int .i64 at_,.slice la ln lc,.slice sa sn sc] 52;have KC:Hid (∀W,Below w0.heap.size w0 W→W.cell? ⟨w.heap.size,0,none⟩=some (.int .i64 at_)∧W.cell? ⟨w.heap.size,1,none⟩=some (.slice la ln lc)∧W.cell? ⟨w.heap.size,2,none⟩=some (.slice sa sn sc)):=fun W f=>⟨K0 W f 0 _ rfl,K0 W f 1 _ rfl,K0 W f 2 _ rfl⟩
 have E0:=hide e0;have F0:=hide f0;have HN:=hide (h.below f0);have HL:Hid (TysIn w0 ⟨la,ln,lc⟩ loc):=hl.mono f0 (fun _ h=>h);have HS:Hid (TysIn w0 ⟨sa,sn,sc⟩ stk):=hs.mono f0 (fun _ h=>h);have b1:Below w0.heap.size w0 (w0.alloc (.cells #[.int .i64 at_] 3)):=(Below.refl _ _).alloc (Nat.le_refl _) _;have HU:=hide (isUpTo_any (w0.alloc (.cells #[.int .i64 at_] 3)) w0.heap.size 1 1 65535 [at_] (by omega) rfl (by omega) (ints_at w0 [at_] _ rfl));have B1:=hide b1;obtain ⟨q0,q1,q2⟩:=unhide KC w0 (Below.refl _ _);obtain ⟨T,hT⟩:∃T,T=mapOk l ⟨at_,loc,stk⟩:=⟨_,rfl⟩;rw [←hT];have HTT:Hid (T=(upB 65535 [at_]&&(areB (okT l) 64 loc&&(longsB loc&&areB (okT l) 64 stk)))):=hT;clear h hl hs hf e0 f0 K0 b1 hT;cases u1:upB 65535 [at_]
 · have hT:T=false:=by rw [unhide HTT,u1];rfl
   subst hT;rw [u1] at HU;have e0:=unhide E0;clear HTT u1;go_enter Tryz.func116,Tryz.ntmps116;go_wp2_with fail;refine (unhide HU).mono ?_;rintro e w1 ⟨rfl,e1⟩;subst e1;clear e0;go_wp2;go_ret;exact ⟨rfl,(unhide F0).trans ((unhide B1).mono (unhide F0).size)⟩
 rw [u1] at HU;have HA1:=hide (arT_any _ g mt mc p l ((unhide HN).below (unhide B1)) ⟨la,ln,lc⟩ loc ((unhide HL).mono (unhide B1) (fun _ h=>h)) 64 (by omega));cases u2:areB (okT l) 64 loc
 · have hT:T=false:=by rw [unhide HTT,u1,u2];rfl
   subst hT;rw [u2] at HA1;have e0:=unhide E0;obtain ⟨p0,p1,p2⟩:=unhide KC _ (unhide B1);clear HTT u1 u2;go_enter Tryz.func116,Tryz.ntmps116;go_wp2_with fail;refine (unhide HU).mono ?_;rintro e w1 ⟨rfl,e1⟩;subst e1;clear e0;go_wp2_with fail;refine (unhide HA1).mono ?_;rintro e w2 ⟨rfl,f2⟩;have F2:=hide ((unhide F0).trans (((unhide B1).trans (f2.mono (unhide B1).size)).mono (unhide F0).size));clear f2;go_wp2;go_ret;exact ⟨rfl,unhide F2⟩
 rw [u2] at HA1;obtain ⟨LB,hLB⟩:∃LB,LB=longsB loc:=⟨_,rfl⟩;obtain ⟨SB,hSB⟩:∃SB,SB=areB (okT l) 64 stk:=⟨_,rfl⟩;have HT2:Hid (T=(LB&&SB)):=by show T=_;rw [unhide HTT,u1,u2,←hLB,←hSB];rfl
 have HLW:Hid (∀W,Below w0.heap.size w0 W→Calls Tryz.prog 138 #[.slice la ln lc] W fun e w'=>e=.returned (.bool LB)∧Below W.heap.size W w'):=fun W f=>by rw [hLB];exact longsWide_any W ⟨la,ln,lc⟩ loc ((unhide HL).mono f (fun _ h=>h))
 have HAS:Hid (∀W,Below w0.heap.size w0 W→Calls Tryz.prog 136 #[.slice sa sn sc,.int .i64 64,.func (.func 137) #[.pointer (some ⟨g,0,none⟩)] #[]] W fun e w'=>e=.returned (.bool SB)∧Below W.heap.size W w'):=fun W f=>by rw [hSB];exact arT_any W g mt mc p l ((unhide HN).below f) ⟨sa,sn,sc⟩ stk ((unhide HS).mono f (fun _ h=>h)) 64 (by omega)
 have e0:=unhide E0;obtain ⟨p0,p1,p2⟩:=unhide KC _ (unhide B1);clear HTT u1 u2 hLB hSB HL HS HN;go_enter Tryz.func116,Tryz.ntmps116;go_wp2_with fail;refine (unhide HU).mono ?_;rintro e w1 ⟨rfl,e1⟩;subst e1;clear e0;go_wp2_with fail;refine (unhide HA1).mono ?_;rintro e w2 ⟨rfl,f2⟩;have F2:=hide ((unhide B1).trans (f2.mono (unhide B1).size));obtain ⟨r0,r1,r2⟩:=unhide KC _ (unhide F2);have HLW1:=hide (unhide HLW _ (unhide F2));clear f2 HA1 HU p0 p1 p2 q0 q1 q2;go_wp2_with fail;refine (unhide HLW1).mono ?_;rintro e w3 ⟨rfl,f3⟩;have F3:=hide ((unhide F2).trans (f3.mono (unhide F2).size));obtain ⟨s0,s1,s2⟩:=unhide KC _ (unhide F3);have HAS1:=hide (unhide HAS _ (unhide F3));clear f3 HLW1 r0 r1 r2;cases LB
 · have hT:T=false:=unhide HT2
   subst hT;go_wp2;go_ret;exact ⟨rfl,(unhide F0).trans ((unhide F3).mono (unhide F0).size)⟩
 · have hT:T=SB:=by rw [unhide HT2];rfl
   subst hT;go_wp2_with fail;refine (unhide HAS1).mono ?_;rintro e w4 ⟨rfl,f4⟩;have F4:=hide ((unhide F0).trans (((unhide F3).trans (f4.mono (unhide F3).size)).mono (unhide F0).size));clear f4;go_wp2;go_ret;exact ⟨rfl,unhide F4⟩
theorem arP_any (w:World) (g mt mc:Nat) (p:Sl) (l:List Ent) (h:Nm w g mt mc p l) (s:Sl) (xs:List MpR) (hA:LIn 3 56 mpc (MpIn w) w s xs) (most:Nat) (hm:most≤1000) :
 Calls Tryz.prog 115 #[s.v,.int .i64 (most:Int),.func (.func 116) #[.pointer (some ⟨g,0,none⟩)] #[]] w fun e w'=>e=.returned (.bool (areB (mapOk l) most (xs.map MpR.m)))∧Below w.heap.size w w':=by
 obtain ⟨a,n,c⟩:=s;have hs:=hA.small;have hln:=hA.ls.1;simp only at hln hs;unfold Sl.v;simp only;have HA:=hide hA.ls;have HF:=hide hA.each;have HN:=hide h;obtain ⟨T,hT⟩:∃T,T=areB (mapOk l) most (xs.map MpR.m):=⟨_,rfl⟩;rw [←hT];have HTT:Hid (T=(decide (n≤most)&&xs.all (fun x=>mapOk l x.m))):=hT.trans (by unfold areB;simp only [List.length_map,List.all_map,Function.comp_def];rw [hln]);clear hA hT h
 by_cases hmo:n≤most
 case neg=>
  have hT:T=false:=by rw [unhide HTT];simp [hmo]
  subst hT;clear HTT;have hmo1:(most:Int)<(n:Int):=by omega
  go_enter Tryz.func115,Tryz.ntmps115;go_wp2;go_ret;exact ⟨rfl,Below.refl _ _⟩
 have hmo1:¬(most:Int)<(n:Int):=by omega
 go_enter Tryz.func115,Tryz.ntmps115;go_wp2
 go_loopw [15] (fun i wr=>∃k:Nat,k≤n∧i=.int .i64 k∧Below w.heap.size w wr∧(xs.take k).all (fun x=>mapOk l x.m)=true) (fun i _=>n-(intOf i).toNat)
 case atStart=>exact ⟨0,by omega,rfl,Below.refl _ _,rfl⟩
 case round=>
  obtain ⟨k,hk,rfl,hR,hgo⟩:=hrel
  by_cases hlt:k<n
  · have hlt1:(k:Int)<(n:Int):=by omega
    have hk0:(0:Int)≤(k:Int):=by omega
    obtain ⟨b1,o1,h1a,h1⟩:=Ls.row (unhide HA) (w':=w) (by show n≠0;omega);subst h1a;obtain ⟨x,hx1⟩:∃x,xs[k]?=some x:=⟨_,List.getElem?_eq_getElem (by omega)⟩;have q:=h1 hR k x hx1;have hx:=unhide HF x (List.mem_of_getElem? hx1);have hstep:(xs.take (k+1)).all (fun x=>mapOk l x.m)=(mapOk l x.m):=by
     rw [List.take_add_one,hx1,List.all_append,hgo];simp
    have hbad:(mapOk l x.m)=false→T=false:=fun e=>by
     rw [unhide HTT];have:xs.all (fun x=>mapOk l x.m)=false:=List.all_eq_false.2 ⟨x,List.mem_of_getElem? hx1,by simp [e]⟩;rw [this,Bool.and_false]
    obtain ⟨xm,⟨la,ln,lc⟩,⟨sa,sn,sc⟩⟩:=x;have c0:=q.zero;have c1:=q 1 _ rfl;have c2:=q 2 _ rfl;simp only [Sl.v] at c0 c1 c2;have f0:=(Below.refl wr.heap.size wr).alloc (Nat.le_refl _) (.cells #[.int .i64 xm.at_,.slice la ln lc,.slice sa sn sc] 52);have FB:=hR.trans (f0.mono hR.size);have HP:=hide (nMap_any (wr.alloc (.cells #[.int .i64 xm.at_,.slice la ln lc,.slice sa sn sc] 52)) g mt mc p l ((unhide HN).below FB) _ (hx.below FB));have HB:=hide FB;have HST:=hide hstep;have HBD:=hide hbad;clear q h1 hx1 hR f0 FB hx hstep hbad hgo
    try simp only [Sl.v] at HP HST HBD
    generalize mapOk l xm=bb at *;go_wp2_with fail;refine (unhide HP).mono ?_;rintro e w4 ⟨rfl,f4⟩;have F4:=hide ((unhide HB).trans (f4.mono (unhide HB).size));clear HP f4 HB;cases bb
    · have hT:T=false:=unhide HBD (by first | rfl | trivial)
      subst hT;go_wp2;go_ret;exact ⟨rfl,unhide F4⟩
    · go_wp2
      go_roundw
      case rel=>exact ⟨k+1,by omega,by go_num,unhide F4,unhide HST⟩
      case measure=>simp [intOf];omega
  · obtain rfl:k=n:=by omega
    have hT:T=true:=by
     rw [unhide HTT,decide_eq_true hmo,Bool.true_and,←hgo,List.take_of_length_le (by omega)]
    subst hT;have HR:=hide hR;clear hR HTT hgo;go_wp2;go_ret;exact ⟨rfl,unhide HR⟩
theorem nHandler_any (w:World) (g mt mc:Nat) (p:Sl) (l:List Ent) (h:Nm w g mt mc p l) (x:Hd) (hx:HdFit x) :
 Calls Tryz.prog 114 #[.pointer (some ⟨g,0,none⟩),.agg #[.int .i64 x.frm,.int .i64 x.to_,.int .i64 x.at_,.int .i64 x.cls]] w fun e w'=>e=.returned (.bool (rightH l x))∧Below w.heap.size w w':=by
 obtain ⟨frm,to_,at_,cls⟩:=x;obtain ⟨hf1,hf2,hf3,hf4⟩:=hx;simp only at hf1 hf2 hf3 hf4 ⊢;obtain ⟨w0,e0,f0,K0⟩:=one_local w #[.int .i64 frm,.int .i64 to_,.int .i64 at_,.int .i64 cls] 93;obtain ⟨pa,pn,pc⟩:=p;have hlen:=h.len;have hN0:=h.below f0;obtain ⟨T,hT⟩:∃T,T=rightH l ⟨frm,to_,at_,cls⟩:=⟨_,rfl⟩;rw [←hT];have HTT:=hide (hT.trans (rightH_is l _));simp only at HTT;have KI:Hid (∀W,Below w0.heap.size w0 W→(W.cell? ⟨w.heap.size,0,none⟩=some (.int .i64 frm)∧W.cell? ⟨w.heap.size,1,none⟩=some (.int .i64 to_)∧W.cell? ⟨w.heap.size,2,none⟩=some (.int .i64 at_)∧W.cell? ⟨w.heap.size,3,none⟩=some (.int .i64 cls))∧W.cell? ⟨g,0,none⟩=some (.slice pa pn pc)):=fun W f=>⟨⟨K0 W f 0 _ rfl,K0 W f 1 _ rfl,K0 W f 2 _ rfl,K0 W f 3 _ rfl⟩,(hN0.below f).c0⟩
 have HU:Hid (∀W:World,Calls Tryz.prog 112 #[.int .i64 65535,.slice (some ⟨W.heap.size,0,none⟩) 3 3] (W.alloc (.cells #[.int .i64 frm,.int .i64 to_,.int .i64 at_] 3)).drew fun e w'=>e=.returned (.bool (upB 65535 [frm,to_,at_]))∧w'=(W.alloc (.cells #[.int .i64 frm,.int .i64 to_,.int .i64 at_] 3)).drew):=fun W=>isUpTo_any _ _ 3 3 65535 [frm,to_,at_] (by omega) rfl (by omega) (fun k z hz=>ints_at W [frm,to_,at_] _ rfl k z hz)
 have HG:Hid (∀W,Below w0.heap.size w0 W→Calls Tryz.prog 131 #[.slice pa pn pc,.int .i64 cls] W fun e w'=>e=.returned (.int .i64 (tagE l cls))∧w'=W):=fun W f=>ctagAt_any W pa pn pc l (hN0.below f).pool.arg.es (by have:=(hN0.below f).pool.arg.es.1;simp only at this;omega) cls hf4
 have E0:=hide e0;have F0:=hide f0;clear hT h hN0 e0 f0 K0;unfold fitI at hf4;generalize upB 65535 [frm,to_,at_]=ub at *;obtain ⟨tg,htg⟩:∃tg,tg=tagE l cls:=⟨_,rfl⟩;rw [←htg] at HTT HG;clear htg;have e0:=unhide E0;go_enter Tryz.func114,Tryz.ntmps114;go_wp2;clear e0;obtain ⟨SS,hSS⟩:∃SS:World→Prop,SS=fun W=>Below w0.heap.size w0 W:=⟨_,rfl⟩
 have KS:Hid (∀W,SS W↔Below w0.heap.size w0 W):=fun W=>by rw [hSS]
 clear hSS;have F1:Hid (Below w.heap.size w (w0.alloc (.cells #[.int .i64 frm,.int .i64 to_,.int .i64 at_] 3)).drew):=(unhide F0).trans ((((Below.refl _ _).alloc (Nat.le_refl _) _).drew).mono (unhide F0).size);have G1:Hid (Below w0.heap.size w0 (w0.alloc (.cells #[.int .i64 frm,.int .i64 to_,.int .i64 at_] 3)).drew):=((Below.refl _ _).alloc (Nat.le_refl _) _).drew;cases ub
 case false=>
  have hT:T=false:=by rw [unhide HTT];rfl
  subst hT;refine wp_region_txt SS [6,7,19] (List.range 24) (by kernel_rfl) (by kernel_rfl) ((unhide KS _).2 (Below.refl _ _).drew) ?_
  repeat (first
   | (refine Txt.skips (by rfl) (by rfl) ?_;simp only [Act.put,List.setIfInBounds_toArray,List.set_cons_zero,List.set_cons_succ])
   | (refine Txt.reads (v:=?_) (by rfl) (by rfl) (by rfl) ?_ ?_;rotate_left;(focus ((intro W hSW;obtain ⟨⟨p0,p1,p2,p3⟩,p4⟩:=unhide KI W ((unhide KS W).1 hSW);go_simp) <;> with_reducible rfl));simp only [Act.put,List.setIfInBounds_toArray,List.set_cons_zero,List.set_cons_succ]))
  refine Txt.acts (by rfl) (by rfl) (by rfl) (fun K hK=>?_);go_simp;refine hK.out _ _ ((unhide KS _).2 ((Below.refl _ _).alloc (Nat.le_refl _) _).drew) ?_;clear hK K;refine Txt.acts (by rfl) (by rfl) (by rfl) (fun K hK=>?_);go_simp;refine (unhide HU w0).mono ?_;rintro e w1 ⟨rfl,e1⟩;subst e1;refine hK.out _ _ ((unhide KS _).2 ((Below.refl _ _).alloc (Nat.le_refl _) _).drew) ?_;clear hK K
  try simp only [Act.put,List.setIfInBounds_toArray,List.set_cons_zero,List.set_cons_succ]
  repeat (first
   | (refine Txt.skips (by rfl) (by rfl) ?_;simp only [Act.put,List.setIfInBounds_toArray,List.set_cons_zero,List.set_cons_succ])
   | (refine Txt.reads (v:=?_) (by rfl) (by rfl) (by rfl) ?_ ?_;rotate_left;(focus ((intro W hSW;obtain ⟨⟨p0,p1,p2,p3⟩,p4⟩:=unhide KI W ((unhide KS W).1 hSW);go_simp) <;> with_reducible rfl));simp only [Act.put,List.setIfInBounds_toArray,List.set_cons_zero,List.set_cons_succ]))
  refine Txt.done ?_;go_wp2;go_ret;exact ⟨rfl,unhide F1⟩
 case true=>
  by_cases hz:cls=0
  · subst hz
    have hT:T=true:=by rw [unhide HTT];rfl
    subst hT;refine wp_region_txt SS [6,7,19] (List.range 24) (by kernel_rfl) (by kernel_rfl) ((unhide KS _).2 (Below.refl _ _).drew) ?_
    repeat (first
     | (refine Txt.skips (by rfl) (by rfl) ?_;simp only [Act.put,List.setIfInBounds_toArray,List.set_cons_zero,List.set_cons_succ])
     | (refine Txt.reads (v:=?_) (by rfl) (by rfl) (by rfl) ?_ ?_;rotate_left;(focus ((intro W hSW;obtain ⟨⟨p0,p1,p2,p3⟩,p4⟩:=unhide KI W ((unhide KS W).1 hSW);go_simp) <;> with_reducible rfl));simp only [Act.put,List.setIfInBounds_toArray,List.set_cons_zero,List.set_cons_succ]))
    refine Txt.acts (by rfl) (by rfl) (by rfl) (fun K hK=>?_);go_simp;refine hK.out _ _ ((unhide KS _).2 ((Below.refl _ _).alloc (Nat.le_refl _) _).drew) ?_;clear hK K;refine Txt.acts (by rfl) (by rfl) (by rfl) (fun K hK=>?_);go_simp;refine (unhide HU w0).mono ?_;rintro e w1 ⟨rfl,e1⟩;subst e1;refine hK.out _ _ ((unhide KS _).2 ((Below.refl _ _).alloc (Nat.le_refl _) _).drew) ?_;clear hK K
    try simp only [Act.put,List.setIfInBounds_toArray,List.set_cons_zero,List.set_cons_succ]
    repeat (first
     | (refine Txt.skips (by rfl) (by rfl) ?_;simp only [Act.put,List.setIfInBounds_toArray,List.set_cons_zero,List.set_cons_succ])
     | (refine Txt.reads (v:=?_) (by rfl) (by rfl) (by rfl) ?_ ?_;rotate_left;(focus ((intro W hSW;obtain ⟨⟨p0,p1,p2,p3⟩,p4⟩:=unhide KI W ((unhide KS W).1 hSW);go_simp) <;> with_reducible rfl));simp only [Act.put,List.setIfInBounds_toArray,List.set_cons_zero,List.set_cons_succ]))
    refine Txt.done ?_;go_wp2;go_ret;exact ⟨rfl,unhide F1⟩
  · have hzb:(cls==0)=false:=by simpa using hz
    have hT:T=(tg==7):=by
     rw [unhide HTT,decide_eq_false hz,Bool.true_and,Bool.false_or,Bool.eq_iff_iff];simp
    subst hT;refine wp_region_txt SS [6,7,19] (List.range 24) (by kernel_rfl) (by kernel_rfl) ((unhide KS _).2 (Below.refl _ _).drew) ?_
    repeat (first
     | (refine Txt.skips (by rfl) (by rfl) ?_;simp only [Act.put,List.setIfInBounds_toArray,List.set_cons_zero,List.set_cons_succ])
     | (refine Txt.reads (v:=?_) (by rfl) (by rfl) (by rfl) ?_ ?_;rotate_left;(focus ((intro W hSW;obtain ⟨⟨p0,p1,p2,p3⟩,p4⟩:=unhide KI W ((unhide KS W).1 hSW);go_simp) <;> with_reducible rfl));simp only [Act.put,List.setIfInBounds_toArray,List.set_cons_zero,List.set_cons_succ]))
    refine Txt.acts (by rfl) (by rfl) (by rfl) (fun K hK=>?_);go_simp;refine hK.out _ _ ((unhide KS _).2 ((Below.refl _ _).alloc (Nat.le_refl _) _).drew) ?_;clear hK K;refine Txt.acts (by rfl) (by rfl) (by rfl) (fun K hK=>?_);go_simp;refine (unhide HU w0).mono ?_;rintro e w1 ⟨rfl,e1⟩;subst e1;refine hK.out _ _ ((unhide KS _).2 ((Below.refl _ _).alloc (Nat.le_refl _) _).drew) ?_;clear hK K
    try simp only [Act.put,List.setIfInBounds_toArray,List.set_cons_zero,List.set_cons_succ]
    repeat (first
     | (refine Txt.skips (by rfl) (by rfl) ?_;simp only [Act.put,List.setIfInBounds_toArray,List.set_cons_zero,List.set_cons_succ])
     | (refine Txt.reads (v:=?_) (by rfl) (by rfl) (by rfl) ?_ ?_;rotate_left;(focus ((intro W hSW;obtain ⟨⟨p0,p1,p2,p3⟩,p4⟩:=unhide KI W ((unhide KS W).1 hSW);go_simp) <;> with_reducible rfl));simp only [Act.put,List.setIfInBounds_toArray,List.set_cons_zero,List.set_cons_succ]))
    refine Txt.acts (by rfl) (by rfl) (by rfl) (fun K hK=>?_);go_simp;refine (unhide HG _ (unhide G1)).mono ?_;rintro e w1 ⟨rfl,e1⟩;subst e1;refine hK.out _ _ ((unhide KS _).2 (unhide G1)) ?_;clear hK K
    try simp only [Act.put,List.setIfInBounds_toArray,List.set_cons_zero,List.set_cons_succ]
    repeat (first
     | (refine Txt.skips (by rfl) (by rfl) ?_;simp only [Act.put,List.setIfInBounds_toArray,List.set_cons_zero,List.set_cons_succ])
     | (refine Txt.reads (v:=?_) (by rfl) (by rfl) (by rfl) ?_ ?_;rotate_left;(focus ((intro W hSW;obtain ⟨⟨p0,p1,p2,p3⟩,p4⟩:=unhide KI W ((unhide KS W).1 hSW);go_simp) <;> with_reducible rfl));simp only [Act.put,List.setIfInBounds_toArray,List.set_cons_zero,List.set_cons_succ]))
    refine Txt.done ?_;go_wp2;go_ret;exact ⟨rfl,unhide F1⟩
theorem arH_any (w:World) (g mt mc:Nat) (p:Sl) (l:List Ent) (h:Nm w g mt mc p l) (s:Sl) (xs:List Hd) (hA:LIn 4 32 hdc HdFit w s xs) (most:Nat) (hm:most≤1000) :
 Calls Tryz.prog 113 #[s.v,.int .i64 (most:Int),.func (.func 114) #[.pointer (some ⟨g,0,none⟩)] #[]] w fun e w'=>e=.returned (.bool (areB (rightH l) most xs))∧Below w.heap.size w w':=by
 obtain ⟨a,n,c⟩:=s;have hs:=hA.small;have hln:=hA.ls.1;simp only at hln hs;unfold Sl.v;simp only;have HA:=hide hA.ls;have HF:=hide hA.each;have HN:=hide h;obtain ⟨T,hT⟩:∃T,T=areB (rightH l) most xs:=⟨_,rfl⟩;rw [←hT];have HTT:Hid (T=(decide (n≤most)&&xs.all (fun x=>rightH l x))):=hT.trans (by unfold areB;rw [hln]);clear hA hT h
 by_cases hmo:n≤most
 case neg=>
  have hT:T=false:=by rw [unhide HTT];simp [hmo]
  subst hT;clear HTT;have hmo1:(most:Int)<(n:Int):=by omega
  go_enter Tryz.func113,Tryz.ntmps113;go_wp2;go_ret;exact ⟨rfl,Below.refl _ _⟩
 have hmo1:¬(most:Int)<(n:Int):=by omega
 go_enter Tryz.func113,Tryz.ntmps113;go_wp2
 go_loopw [15] (fun i wr=>∃k:Nat,k≤n∧i=.int .i64 k∧Below w.heap.size w wr∧(xs.take k).all (fun x=>rightH l x)=true) (fun i _=>n-(intOf i).toNat)
 case atStart=>exact ⟨0,by omega,rfl,Below.refl _ _,rfl⟩
 case round=>
  obtain ⟨k,hk,rfl,hR,hgo⟩:=hrel
  by_cases hlt:k<n
  · have hlt1:(k:Int)<(n:Int):=by omega
    have hk0:(0:Int)≤(k:Int):=by omega
    obtain ⟨b1,o1,h1a,h1⟩:=Ls.row (unhide HA) (w':=w) (by show n≠0;omega);subst h1a;obtain ⟨x,hx1⟩:∃x,xs[k]?=some x:=⟨_,List.getElem?_eq_getElem (by omega)⟩;have q:=h1 hR k x hx1;have hx:=unhide HF x (List.mem_of_getElem? hx1);have hstep:(xs.take (k+1)).all (fun x=>rightH l x)=(rightH l x):=by
     rw [List.take_add_one,hx1,List.all_append,hgo];simp
    have hbad:(rightH l x)=false→T=false:=fun e=>by
     rw [unhide HTT];have:xs.all (fun x=>rightH l x)=false:=List.all_eq_false.2 ⟨x,List.mem_of_getElem? hx1,by simp [e]⟩;rw [this,Bool.and_false]
    have c0:=q.zero;have c1:=q 1 _ rfl;have c2:=q 2 _ rfl;have c3:=q 3 _ rfl;have f0:=(Below.refl wr.heap.size wr).alloc (Nat.le_refl _) (.cells #[.int .i64 x.frm,.int .i64 x.to_,.int .i64 x.at_,.int .i64 x.cls] 93);have FB:=hR.trans (f0.mono hR.size);have HP:=hide (nHandler_any (wr.alloc (.cells #[.int .i64 x.frm,.int .i64 x.to_,.int .i64 x.at_,.int .i64 x.cls] 93)) g mt mc p l ((unhide HN).below FB) _ hx);have HB:=hide FB;have HST:=hide hstep;have HBD:=hide hbad;clear q h1 hx1 hR f0 FB hx hstep hbad hgo
    try simp only [Sl.v] at HP HST HBD
    generalize rightH l x=bb at *;go_wp2_with fail;refine (unhide HP).mono ?_;rintro e w4 ⟨rfl,f4⟩;have F4:=hide ((unhide HB).trans (f4.mono (unhide HB).size));clear HP f4 HB;cases bb
    · have hT:T=false:=unhide HBD (by first | rfl | trivial)
      subst hT;go_wp2;go_ret;exact ⟨rfl,unhide F4⟩
    · go_wp2
      go_roundw
      case rel=>exact ⟨k+1,by omega,by go_num,unhide F4,unhide HST⟩
      case measure=>simp [intOf];omega
  · obtain rfl:k=n:=by omega
    have hT:T=true:=by
     rw [unhide HTT,decide_eq_true hmo,Bool.true_and,←hgo,List.take_of_length_le (by omega)]
    subst hT;have HR:=hide hR;clear hR HTT hgo;go_wp2;go_ret;exact ⟨rfl,unhide HR⟩
def cdv (c:Cd) (bs hs maps:Sl):Value:=.agg #[.int .i64 c.stack,.int .i64 c.locals,bs.v,hs.v,maps.v]
theorem nCode_any (w:World) (g mt mc:Nat) (p:Sl) (l:List Ent) (h:Nm w g mt mc p l) (r:MdR) (hr:MdIn w r) :
 Calls Tryz.prog 84 #[.pointer (some ⟨g,0,none⟩),cdv r.m.code r.bs r.hs r.maps] w fun e w'=>e=.returned (.bool (codeOk l r.m.code))∧Below w.heap.size w w':=by
 obtain ⟨⟨acc,nm,ty,⟨st,lo,by_,hh,mm⟩⟩,⟨ba,bn,bc⟩,⟨ha,hn,hc⟩,⟨ma,mn,mcc⟩,mr⟩:=r;obtain ⟨r1,r2,r3,r4,r5,r6,r7,r8,r9,r10⟩:=hr;simp only at r4 r5 r6 r7 r8 r9 r10;have hbn:=r6.bs.1;have hmn:=r9.ls.1;have hms:=r9.small;simp only at hbn hmn hms;unfold cdv Sl.v;simp only;obtain ⟨w0,e0,f0,K0⟩:=one_local w #[.int .i64 st,.int .i64 lo,.slice ba bn bc,.slice ha hn hc,.slice ma mn mcc] 47;have KC:Hid (∀W,Below w0.heap.size w0 W→W.cell? ⟨w.heap.size,2,none⟩=some (.slice ba bn bc)∧W.cell? ⟨w.heap.size,3,none⟩=some (.slice ha hn hc)∧W.cell? ⟨w.heap.size,4,none⟩=some (.slice ma mn mcc)):=fun W f=>⟨K0 W f 2 _ rfl,K0 W f 3 _ rfl,K0 W f 4 _ rfl⟩
 have q0:=K0 w0 (Below.refl _ _) 0 _ rfl;have q1:=K0 w0 (Below.refl _ _) 1 _ rfl;have E0:=hide e0;have F0:=hide f0;have HN:=hide (h.below f0);have b1:Below w0.heap.size w0 (w0.alloc (.cells #[.int .i64 st,.int .i64 lo] 3)):=(Below.refl _ _).alloc (Nat.le_refl _) _;obtain ⟨T,hT⟩:∃T,T=codeOk l ⟨st,lo,by_,hh,mm⟩:=⟨_,rfl⟩;rw [←hT];unfold codeOk at hT;simp only at hT;have hml:mm.length=mn:=by rw [r10,List.length_map];exact hmn
 rw [hbn,hml] at hT;have HU:=isUpTo_any (w0.alloc (.cells #[.int .i64 st,.int .i64 lo] 3)) w0.heap.size 2 2 64 [st,lo] (by omega) rfl (by omega) (ints_at w0 [st,lo] _ rfl);have HH:∀W,Below w0.heap.size w0 W→Calls Tryz.prog 113 #[.slice ha hn hc,.int .i64 256,.func (.func 114) #[.pointer (some ⟨g,0,none⟩)] #[]] W fun e w'=>e=.returned (.bool (areB (rightH l) 256 hh))∧Below W.heap.size W w':=fun W f=>arH_any W g mt mc p l ((unhide HN).below f) ⟨ha,hn,hc⟩ hh (r8.mono (f0.trans (f.mono f0.size)) (fun _ h=>h)) 256 (by omega)
 have HX:∀W,Below w0.heap.size w0 W→Calls Tryz.prog 83 #[.pointer (some ⟨g,0,none⟩),.slice (some ⟨W.heap.size,0,none⟩) 1 1] (W.alloc (.cells #[.string ⟨#[83,116,97,99,107,77,97,112,84,97,98,108,101]⟩] 9)) fun e w'=>e=.returned (.bool (decide (utfN l sMaps≠0)))∧w'=W.alloc (.cells #[.string ⟨#[83,116,97,99,107,77,97,112,84,97,98,108,101]⟩] 9):=fun W f=>by
  have h1:=nHasTexts_any (W.alloc (.cells #[.string ⟨#[83,116,97,99,107,77,97,112,84,97,98,108,101]⟩] 9)) g mt mc p l (((unhide HN).below f).below ((Below.refl _ _).alloc (Nat.le_refl _) _)) W.heap.size 1 1 [sMaps] rfl (by omega) (strs_at W [sMaps] _ rfl) (fun s hs=>by simp at hs;subst hs;unfold fitS;decide);have e:textsB l [sMaps]=decide (utfN l sMaps≠0):=by simp [textsB]
  rw [e] at h1;exact h1
 have HP:∀W,Below w0.heap.size w0 W→Calls Tryz.prog 115 #[.slice ma mn mcc,.int .i64 256,.func (.func 116) #[.pointer (some ⟨g,0,none⟩)] #[]] W fun e w'=>e=.returned (.bool (areB (mapOk l) 256 mm))∧Below W.heap.size W w':=fun W f=>by
  have h1:=arP_any W g mt mc p l ((unhide HN).below f) ⟨ma,mn,mcc⟩ mr (r9.mono (f0.trans (f.mono f0.size)) (fun _ h=>h.below (f0.trans (f.mono f0.size)))) 256 (by omega);rw [←r10] at h1;exact h1
 have HR:∀W,Below w0.heap.size w0 W→Calls Tryz.prog 117 #[.slice ma mn mcc] W fun e w'=>e=.returned (.bool (riseB (-1) mm))∧Below W.heap.size W w':=fun W f=>by
  have h1:=doRise_any W ⟨ma,mn,mcc⟩ mr (r9.mono (f0.trans (f.mono f0.size)) (fun _ h=>h.below (f0.trans (f.mono f0.size))));rw [←r10] at h1;exact h1
 generalize upB 64 [st,lo]=b_u at *;generalize areB (rightH l) 256 hh=b_h at *;generalize decide (utfN l sMaps≠0)=b_s at *;generalize areB (mapOk l) 256 mm=b_m at *;generalize riseB (-1) mm=b_r at *;have B1:=hide b1;have HU1:=hide HU;have HH1:=hide HH;have HX1:=hide HX;have HP1:=hide HP;have HR1:=hide HR;have HTT:=hide hT;clear h e0 f0 K0 b1 hT HU HH HX HP HR r1 r2 r3 r4 r5 r6 r8 r9 r10 hml hmn;have e0:=unhide E0;go_enter Tryz.func84,Tryz.ntmps84;go_wp2_with fail;refine (unhide HU1).mono ?_;rintro e w1 ⟨rfl,e1⟩;have F1:Hid (Below w0.heap.size w0 w1):=by rw [e1];exact unhide B1
 clear e0 e1 HU1 q0 q1 B1;obtain ⟨c2,c3,c4⟩:=unhide KC _ (unhide F1);have FF1:=hide ((unhide F0).trans ((unhide F1).mono (unhide F0).size));cases b_u
 · obtain rfl:T=false:=by rw [unhide HTT];rfl
   go_wp2;go_ret;exact ⟨rfl,unhide FF1⟩
 by_cases hb0:0<bn
 case neg=>
  obtain rfl:bn=0:=by omega
  obtain rfl:T=false:=by rw [unhide HTT];rfl
  go_wp2;go_ret;exact ⟨rfl,unhide FF1⟩
 have hb1:(0:Int)<(bn:Int):=by omega
 have hb1b:decide ((0:Int)<(bn:Int))=true:=by simpa using hb0
 by_cases hb2:bn≤4096
 case neg=>
  obtain rfl:T=false:=by rw [unhide HTT];simp [hb2]
  have hb3:¬(bn:Int)≤4096:=by omega
  have hb3b:decide ((bn:Int)≤4096)=false:=by simpa using hb3
  go_wp2;go_ret;exact ⟨rfl,unhide FF1⟩
 have hb3:(bn:Int)≤4096:=by omega
 have HT2:Hid (T=(b_h&&((decide (mn=0)||b_s)&&(b_m&&b_r)))):=by show T=_;rw [unhide HTT];simp [hb0,hb2]
 have HHc:=hide (unhide HH1 _ (unhide F1));clear HTT HH1;go_wp2_with fail;refine (unhide HHc).mono ?_;rintro e w2 ⟨rfl,f2⟩;have F2:=hide ((unhide F1).trans (f2.mono (unhide F1).size));have FF2:=hide ((unhide F0).trans ((unhide F2).mono (unhide F0).size));obtain ⟨d2,d3,d4⟩:=unhide KC _ (unhide F2);clear f2 HHc c2 c3 c4;cases b_h
 · obtain rfl:T=false:=by rw [unhide HT2];rfl
   go_wp2;go_ret;exact ⟨rfl,unhide FF2⟩
 by_cases hm0:mn=0
 · subst hm0
   have HT3:Hid (T=(b_m&&b_r)):=by show T=_;rw [unhide HT2];rfl
   have HPc:=hide (unhide HP1 _ (unhide F2));clear HT2 HX1;go_wp2_with fail;refine (unhide HPc).mono ?_;rintro e w3 ⟨rfl,f3⟩;have F3:=hide ((unhide F2).trans (f3.mono (unhide F2).size));have FF3:=hide ((unhide F0).trans ((unhide F3).mono (unhide F0).size));obtain ⟨g2,g3,g4⟩:=unhide KC _ (unhide F3);have HRc:=hide (unhide HR1 _ (unhide F3));clear f3 HPc d2 d3 d4;cases b_m
   · obtain rfl:T=false:=by rw [unhide HT3];rfl
     go_wp2;go_ret;exact ⟨rfl,unhide FF3⟩
   obtain rfl:T=b_r:=by rw [unhide HT3];rfl
   go_wp2_with fail;refine (unhide HRc).mono ?_;rintro e w4 ⟨rfl,f4⟩;have FF4:=hide ((unhide F0).trans (((unhide F3).trans (f4.mono (unhide F3).size)).mono (unhide F0).size));clear f4;go_wp2;go_ret;exact ⟨rfl,unhide FF4⟩
 have hm1:((mn:Int)==0)=false:=by simpa using hm0
 have HXc:=hide (unhide HX1 _ (unhide F2));have HT3:Hid (T=(b_s&&(b_m&&b_r))):=by show T=_;rw [unhide HT2];simp [hm0]
 clear HT2 HX1;go_wp2_with fail;refine (unhide HXc).mono ?_;rintro e w3 ⟨rfl,e3⟩;have F3:Hid (Below w0.heap.size w0 w3):=by rw [e3];exact (unhide F2).trans (((Below.refl _ _).alloc (Nat.le_refl _) _).mono (unhide F2).size)
 have FF3:=hide ((unhide F0).trans ((unhide F3).mono (unhide F0).size));obtain ⟨g2,g3,g4⟩:=unhide KC _ (unhide F3);have HPc:=hide (unhide HP1 _ (unhide F3));clear e3 HXc d2 d3 d4;cases b_s
 · obtain rfl:T=false:=by rw [unhide HT3];rfl
   go_wp2;go_ret;exact ⟨rfl,unhide FF3⟩
 go_wp2_with fail;refine (unhide HPc).mono ?_;rintro e w4 ⟨rfl,f4⟩;have F4:=hide ((unhide F3).trans (f4.mono (unhide F3).size));have FF4:=hide ((unhide F0).trans ((unhide F4).mono (unhide F0).size));obtain ⟨i2,i3,i4⟩:=unhide KC _ (unhide F4);have HRc:=hide (unhide HR1 _ (unhide F4));clear f4 HPc g2 g3 g4;cases b_m
 · obtain rfl:T=false:=by rw [unhide HT3];rfl
   go_wp2;go_ret;exact ⟨rfl,unhide FF4⟩
 obtain rfl:T=b_r:=by rw [unhide HT3];rfl
 go_wp2_with fail;refine (unhide HRc).mono ?_;rintro e w5 ⟨rfl,f5⟩;have FF5:=hide ((unhide F0).trans (((unhide F4).trans (f5.mono (unhide F4).size)).mono (unhide F0).size));clear f5;go_wp2;go_ret;exact ⟨rfl,unhide FF5⟩
theorem acc_small:∀n:Fin 41,bits .andNot .i64 ((n.val:Nat):Int) 40=0→accB ((n.val:Nat):Int)=true:=by decide +kernel
theorem acc_bits {n:Int} (h:fitI n):(bits .andNot .i64 n 40==0)=accB n:=by
 unfold fitI at h;rw [Bool.eq_iff_iff,beq_iff_eq];constructor
 · intro hb
   have hz:BitVec.ofInt 64 n &&& ~~~ BitVec.ofInt 64 40=0#64:=by
    have h1:IntKind.i64.wrap ((BitVec.ofInt 64 n &&& ~~~ BitVec.ofInt 64 40).toNat:Int)=0:=hb;rw [IntKind.wrap_i64] at h1;have h2:=(BitVec.ofInt 64 n &&& ~~~ BitVec.ofInt 64 40).isLt;apply BitVec.eq_of_toNat_eq;simp only [BitVec.toNat_ofNat];omega
   have hle:BitVec.ofInt 64 n=BitVec.ofInt 64 n &&& BitVec.ofInt 64 40:=by
    apply BitVec.eq_of_getLsbD_eq;intro i hi;have h3:=congrArg (fun b=>b.getLsbD i) hz;simp only [BitVec.getLsbD_and,BitVec.getLsbD_not,BitVec.getLsbD_zero,hi,decide_true,Bool.true_and] at h3 ⊢;cases h4:(BitVec.ofInt 64 n).getLsbD i <;> cases h5:(BitVec.ofInt 64 40).getLsbD i <;> simp_all
   have h40:(BitVec.ofInt 64 n).toNat≤40:=by
    rw [hle,BitVec.toNat_and];exact Nat.le_trans Nat.and_le_right (by decide)
   rw [BitVec.toNat_ofInt] at h40;obtain ⟨m,rfl⟩:∃m:Nat,n=m:=⟨n.toNat,by omega⟩;exact acc_small ⟨m,by omega⟩ hb
 · intro ha
   unfold accB at ha;simp only [decide_eq_true_eq] at ha
   rcases ha with rfl | rfl | rfl | rfl <;> decide +kernel
theorem nField_any (w:World) (g mt mc:Nat) (p:Sl) (l:List Ent) (h:Nm w g mt mc p l) (x:Fd) (hx:FdFit x) :
 Calls Tryz.prog 53 #[.pointer (some ⟨g,0,none⟩),.agg #[.int .i64 x.acc,.string ⟨x.name.toArray⟩,.string ⟨x.type.toArray⟩]] w fun e w'=>e=.returned (.bool (rightF l x))∧Below w.heap.size w w':=by
 obtain ⟨acc,nm,ty⟩:=x;obtain ⟨h1,h2,h3⟩:=hx;simp only at h1 h2 h3 ⊢;obtain ⟨w0,e0,f0,K0⟩:=one_local w #[.int .i64 acc,.string ⟨nm.toArray⟩,.string ⟨ty.toArray⟩] 58;have q0:=K0 w0 (Below.refl _ _) 0 _ rfl;have q1:=K0 w0 (Below.refl _ _) 1 _ rfl;have q2:=K0 w0 (Below.refl _ _) 2 _ rfl;have b1:Below w0.heap.size w0 (w0.alloc (.cells #[.string ⟨nm.toArray⟩,.string ⟨ty.toArray⟩] 9)):=(Below.refl _ _).alloc (Nat.le_refl _) _;have HX:=nHasTexts_any (w0.alloc (.cells #[.string ⟨nm.toArray⟩,.string ⟨ty.toArray⟩] 9)) g mt mc p l ((h.below f0).below b1) w0.heap.size 2 2 [nm,ty] rfl (by omega) (strs_at w0 [nm,ty] _ rfl) (fun s hs=>by simp at hs;rcases hs with rfl | rfl <;> assumption);obtain ⟨T,hT⟩:∃T,T=rightF l ⟨acc,nm,ty⟩:=⟨_,rfl⟩;rw [←hT];rw [rightF_is] at hT;simp only at hT;generalize textsB l [nm,ty]=b_x at *;have E0:=hide e0;have F0:=hide f0;have FB:=hide (f0.trans (b1.mono f0.size));have HX1:=hide HX;have HTT:=hide hT;unfold fitI at h1;clear h h2 h3 K0 e0 f0 b1 HX hT;generalize (⟨nm.toArray⟩:ByteArray)=s1 at *;generalize (⟨ty.toArray⟩:ByteArray)=s2 at *;have e0:=unhide E0
 by_cases ha:acc=0
 · subst ha
   obtain rfl:T=b_x:=by rw [unhide HTT];rfl
   go_enter Tryz.func53,Tryz.ntmps53;go_wp2_with fail;refine (unhide HX1).mono ?_;rintro e w1 ⟨rfl,e1⟩;have F1:Hid (Below w.heap.size w w1):=by rw [e1];exact unhide FB
   clear e0 e1;go_wp2;go_ret;exact ⟨rfl,unhide F1⟩
 · have hab:(acc==0)=false:=by simpa using ha
   by_cases ha8:acc=8
   · subst ha8
     obtain rfl:T=b_x:=by rw [unhide HTT];rfl
     go_enter Tryz.func53,Tryz.ntmps53;go_wp2_with fail;refine (unhide HX1).mono ?_;rintro e w1 ⟨rfl,e1⟩;have F1:Hid (Below w.heap.size w w1):=by rw [e1];exact unhide FB
     clear e0 e1;go_wp2;go_ret;exact ⟨rfl,unhide F1⟩
   · have ha8b:(acc==8)=false:=by simpa using ha8
     obtain rfl:T=false:=by rw [unhide HTT];simp [ha,ha8]
     go_enter Tryz.func53,Tryz.ntmps53;go_wp2;go_ret;exact ⟨rfl,unhide F0⟩
theorem nMethod_any (w:World) (g mt mc:Nat) (p:Sl) (l:List Ent) (h:Nm w g mt mc p l) (r:MdR) (hr:MdIn w r) :
 Calls Tryz.prog 55 #[.pointer (some ⟨g,0,none⟩),.agg #[.int .i64 r.m.acc,.string ⟨r.m.name.toArray⟩,.string ⟨r.m.type.toArray⟩,.int .i64 r.m.code.stack,.int .i64 r.m.code.locals,r.bs.v,r.hs.v,r.maps.v]] w fun e w'=>e=.returned (.bool (rightMd l r.m))∧Below w.heap.size w w':=by
 have hCd:=fun (W:World) (f:Below w.heap.size w W)=>nCode_any W g mt mc p l (h.below f) r (hr.below f)
 obtain ⟨⟨acc,nm,ty,cd⟩,⟨ba,bn,bc⟩,⟨ha,hn,hc⟩,⟨ma,mn,mcc⟩,mr⟩:=r;have h1:=hr.acc;have h2:=hr.name;have h3:=hr.type;unfold cdv Sl.v at *;simp only at h1 h2 h3 hCd ⊢;obtain ⟨w0,e0,f0,K0⟩:=one_local w #[.int .i64 acc,.string ⟨nm.toArray⟩,.string ⟨ty.toArray⟩,.int .i64 cd.stack,.int .i64 cd.locals,.slice ba bn bc,.slice ha hn hc,.slice ma mn mcc] 49;have q0:=K0 w0 (Below.refl _ _) 0 _ rfl;have q1:=K0 w0 (Below.refl _ _) 1 _ rfl;have q2:=K0 w0 (Below.refl _ _) 2 _ rfl;have b1:Below w0.heap.size w0 (w0.alloc (.cells #[.string ⟨nm.toArray⟩,.string ⟨ty.toArray⟩,.string ⟨#[67,111,100,101]⟩] 9)):=(Below.refl _ _).alloc (Nat.le_refl _) _;have r3:=K0 _ b1 3 _ rfl;have r4:=K0 _ b1 4 _ rfl;have r5:=K0 _ b1 5 _ rfl;have r6:=K0 _ b1 6 _ rfl;have r7:=K0 _ b1 7 _ rfl
 have HX:=nHasTexts_any (w0.alloc (.cells #[.string ⟨nm.toArray⟩,.string ⟨ty.toArray⟩,.string ⟨#[67,111,100,101]⟩] 9)) g mt mc p l ((h.below f0).below b1) w0.heap.size 3 3 [nm,ty,sCode] rfl (by omega) (strs_at w0 [nm,ty,sCode] _ rfl) (fun s hs=>by
  simp at hs
  rcases hs with rfl | rfl | rfl
  · exact h2
  · exact h3
  · unfold fitS;decide)
 obtain ⟨T,hT⟩:∃T,T=rightMd l ⟨acc,nm,ty,cd⟩:=⟨_,rfl⟩;rw [←hT];rw [rightMd_is] at hT;simp only at hT;generalize textsB l [nm,ty,sCode]=b_x at *;have FB:=f0.trans (b1.mono f0.size);have HCc:=hide (hCd _ FB);generalize codeOk l cd=b_c at *;have E0:=hide e0;have F0:=hide f0;have FB1:=hide FB;have HX1:=hide HX;have HTT:=hide hT;unfold fitI at h1;clear h hr h2 h3 K0 e0 f0 b1 HX hT hCd FB;generalize (⟨nm.toArray⟩:ByteArray)=s1 at *;generalize (⟨ty.toArray⟩:ByteArray)=s2 at *;generalize cd.stack=k1 at *;generalize cd.locals=k2 at *;have e0:=unhide E0;have hab:=acc_bits h1;cases hb:accB acc
 · obtain rfl:T=false:=by rw [unhide HTT,hb];rfl
   rw [hb] at hab;have hne:¬bits .andNot .i64 acc 40=0:=by simpa using hab
   clear hb HTT;go_enter Tryz.func55,Tryz.ntmps55;go_wp2;go_ret;exact ⟨rfl,unhide F0⟩
 · have HT2:Hid (T=(b_x&&b_c)):=by show T=_;rw [unhide HTT,hb];rfl
   rw [hb] at hab;have heq:bits .andNot .i64 acc 40=0:=by simpa using hab
   clear hb HTT hab;go_enter Tryz.func55,Tryz.ntmps55;go_wp2_with fail;refine (unhide HX1).mono ?_;rintro e w1 ⟨rfl,e1⟩;clear e0;rw [←e1] at r3 r4 r5 r6 r7 HCc FB1;clear e1 HX1;cases b_x
   · obtain rfl:T=false:=by rw [unhide HT2];rfl
     go_wp2;go_ret;exact ⟨rfl,unhide FB1⟩
   · obtain rfl:T=b_c:=by rw [unhide HT2];rfl
     go_wp2_with fail;refine (unhide HCc).mono ?_;rintro e w2 ⟨rfl,f2⟩;have F2:=hide ((unhide FB1).trans (f2.mono (unhide FB1).size));clear f2 HCc;go_wp2;go_ret;exact ⟨rfl,unhide F2⟩
theorem arF_any (w:World) (g mt mc:Nat) (p:Sl) (l:List Ent) (h:Nm w g mt mc p l) (s:Sl) (xs:List Fd) (hA:LIn 3 40 fdc FdFit w s xs) (most:Nat) (hm:most≤1000) :
 Calls Tryz.prog 52 #[s.v,.int .i64 (most:Int),.func (.func 53) #[.pointer (some ⟨g,0,none⟩)] #[]] w fun e w'=>e=.returned (.bool (areB (rightF l) most xs))∧Below w.heap.size w w':=by
 obtain ⟨a,n,c⟩:=s;have hs:=hA.small;have hln:=hA.ls.1;simp only at hln hs;unfold Sl.v;simp only;have HA:=hide hA.ls;have HF:=hide hA.each;have HN:=hide h;obtain ⟨T,hT⟩:∃T,T=areB (rightF l) most xs:=⟨_,rfl⟩;rw [←hT];have HTT:Hid (T=(decide (n≤most)&&xs.all (fun x=>rightF l x))):=hT.trans (by unfold areB;rw [hln]);clear hA hT h
 by_cases hmo:n≤most
 case neg=>
  have hT:T=false:=by rw [unhide HTT];simp [hmo]
  subst hT;clear HTT;have hmo1:(most:Int)<(n:Int):=by omega
  go_enter Tryz.func52,Tryz.ntmps52;go_wp2;go_ret;exact ⟨rfl,Below.refl _ _⟩
 have hmo1:¬(most:Int)<(n:Int):=by omega
 go_enter Tryz.func52,Tryz.ntmps52;go_wp2
 go_loopw [15] (fun i wr=>∃k:Nat,k≤n∧i=.int .i64 k∧Below w.heap.size w wr∧(xs.take k).all (fun x=>rightF l x)=true) (fun i _=>n-(intOf i).toNat)
 case atStart=>exact ⟨0,by omega,rfl,Below.refl _ _,rfl⟩
 case round=>
  obtain ⟨k,hk,rfl,hR,hgo⟩:=hrel
  by_cases hlt:k<n
  · have hlt1:(k:Int)<(n:Int):=by omega
    have hk0:(0:Int)≤(k:Int):=by omega
    obtain ⟨b1,o1,h1a,h1⟩:=Ls.row (unhide HA) (w':=w) (by show n≠0;omega);subst h1a;obtain ⟨x,hx1⟩:∃x,xs[k]?=some x:=⟨_,List.getElem?_eq_getElem (by omega)⟩;have q:=h1 hR k x hx1;have hx:=unhide HF x (List.mem_of_getElem? hx1);have hstep:(xs.take (k+1)).all (fun x=>rightF l x)=(rightF l x):=by
     rw [List.take_add_one,hx1,List.all_append,hgo];simp
    have hbad:(rightF l x)=false→T=false:=fun e=>by
     rw [unhide HTT];have:xs.all (fun x=>rightF l x)=false:=List.all_eq_false.2 ⟨x,List.mem_of_getElem? hx1,by simp [e]⟩;rw [this,Bool.and_false]
    have c0:=q.zero;have c1:=q 1 _ rfl;have c2:=q 2 _ rfl;have f0:=(Below.refl wr.heap.size wr).alloc (Nat.le_refl _) (.cells #[.int .i64 x.acc,.string ⟨x.name.toArray⟩,.string ⟨x.type.toArray⟩] 58);have FB:=hR.trans (f0.mono hR.size);have HP:=hide (nField_any (wr.alloc (.cells #[.int .i64 x.acc,.string ⟨x.name.toArray⟩,.string ⟨x.type.toArray⟩] 58)) g mt mc p l ((unhide HN).below FB) _ hx);have HB:=hide FB;have HST:=hide hstep;have HBD:=hide hbad;clear q h1 hx1 hR f0 FB hx hstep hbad hgo
    try simp only [Sl.v] at HP HST HBD
    generalize rightF l x=bb at *;generalize (⟨x.name.toArray⟩:ByteArray)=s1 at *;generalize (⟨x.type.toArray⟩:ByteArray)=s2 at *;go_wp2_with fail;refine (unhide HP).mono ?_;rintro e w4 ⟨rfl,f4⟩;have F4:=hide ((unhide HB).trans (f4.mono (unhide HB).size));clear HP f4 HB;cases bb
    · have hT:T=false:=unhide HBD (by first | rfl | trivial)
      subst hT;go_wp2;go_ret;exact ⟨rfl,unhide F4⟩
    · go_wp2
      go_roundw
      case rel=>exact ⟨k+1,by omega,by go_num,unhide F4,unhide HST⟩
      case measure=>simp [intOf];omega
  · obtain rfl:k=n:=by omega
    have hT:T=true:=by
     rw [unhide HTT,decide_eq_true hmo,Bool.true_and,←hgo,List.take_of_length_le (by omega)]
    subst hT;have HR:=hide hR;clear hR HTT hgo;go_wp2;go_ret;exact ⟨rfl,unhide HR⟩
theorem arM_any (w:World) (g mt mc:Nat) (p:Sl) (l:List Ent) (h:Nm w g mt mc p l) (s:Sl) (xs:List MdR) (hA:LIn 8 128 mdc (MdIn w) w s xs) (most:Nat) (hm:most≤1000) :
 Calls Tryz.prog 54 #[s.v,.int .i64 (most:Int),.func (.func 55) #[.pointer (some ⟨g,0,none⟩)] #[]] w fun e w'=>e=.returned (.bool (areB (rightMd l) most (xs.map MdR.m)))∧Below w.heap.size w w':=by
 obtain ⟨a,n,c⟩:=s;have hs:=hA.small;have hln:=hA.ls.1;simp only at hln hs;unfold Sl.v;simp only;have HA:=hide hA.ls;have HF:=hide hA.each;have HN:=hide h;obtain ⟨T,hT⟩:∃T,T=areB (rightMd l) most (xs.map MdR.m):=⟨_,rfl⟩;rw [←hT];have HTT:Hid (T=(decide (n≤most)&&xs.all (fun x=>rightMd l x.m))):=hT.trans (by unfold areB;simp only [List.length_map,List.all_map,Function.comp_def];rw [hln]);clear hA hT h
 by_cases hmo:n≤most
 case neg=>
  have hT:T=false:=by rw [unhide HTT];simp [hmo]
  subst hT;clear HTT;have hmo1:(most:Int)<(n:Int):=by omega
  go_enter Tryz.func54,Tryz.ntmps54;go_wp2;go_ret;exact ⟨rfl,Below.refl _ _⟩
 have hmo1:¬(most:Int)<(n:Int):=by omega
 go_enter Tryz.func54,Tryz.ntmps54;go_wp2
 go_loopw [15] (fun i wr=>∃k:Nat,k≤n∧i=.int .i64 k∧Below w.heap.size w wr∧(xs.take k).all (fun x=>rightMd l x.m)=true) (fun i _=>n-(intOf i).toNat)
 case atStart=>exact ⟨0,by omega,rfl,Below.refl _ _,rfl⟩
 case round=>
  obtain ⟨k,hk,rfl,hR,hgo⟩:=hrel
  by_cases hlt:k<n
  · have hlt1:(k:Int)<(n:Int):=by omega
    have hk0:(0:Int)≤(k:Int):=by omega
    obtain ⟨b1,o1,h1a,h1⟩:=Ls.row (unhide HA) (w':=w) (by show n≠0;omega);subst h1a;obtain ⟨x,hx1⟩:∃x,xs[k]?=some x:=⟨_,List.getElem?_eq_getElem (by omega)⟩;have q:=h1 hR k x hx1;have hx:=unhide HF x (List.mem_of_getElem? hx1);have hstep:(xs.take (k+1)).all (fun x=>rightMd l x.m)=(rightMd l x.m):=by
     rw [List.take_add_one,hx1,List.all_append,hgo];simp
    have hbad:(rightMd l x.m)=false→T=false:=fun e=>by
     rw [unhide HTT];have:xs.all (fun x=>rightMd l x.m)=false:=List.all_eq_false.2 ⟨x,List.mem_of_getElem? hx1,by simp [e]⟩;rw [this,Bool.and_false]
    obtain ⟨xm,⟨ba,bn,bc⟩,⟨ha,hn,hc⟩,⟨ma,mn,mcc⟩,xr⟩:=x;have c0:=q.zero;have c1:=q 1 _ rfl;have c2:=q 2 _ rfl;have c3:=q 3 _ rfl;have c4:=q 4 _ rfl;have c5:=q 5 _ rfl;have c6:=q 6 _ rfl;have c7:=q 7 _ rfl;simp only [Sl.v] at c0 c1 c2 c3 c4 c5 c6 c7;have f0:=(Below.refl wr.heap.size wr).alloc (Nat.le_refl _) (.cells #[.int .i64 xm.acc,.string ⟨xm.name.toArray⟩,.string ⟨xm.type.toArray⟩,.int .i64 xm.code.stack,.int .i64 xm.code.locals,.slice ba bn bc,.slice ha hn hc,.slice ma mn mcc] 49);have FB:=hR.trans (f0.mono hR.size);have HP:=hide (nMethod_any (wr.alloc (.cells #[.int .i64 xm.acc,.string ⟨xm.name.toArray⟩,.string ⟨xm.type.toArray⟩,.int .i64 xm.code.stack,.int .i64 xm.code.locals,.slice ba bn bc,.slice ha hn hc,.slice ma mn mcc] 49)) g mt mc p l ((unhide HN).below FB) _ (hx.below FB));have HB:=hide FB;have HST:=hide hstep;have HBD:=hide hbad;clear q h1 hx1 hR f0 FB hx hstep hbad hgo
    try simp only [Sl.v] at HP HST HBD
    generalize rightMd l xm=bb at *;generalize (⟨xm.name.toArray⟩:ByteArray)=s1 at *;generalize (⟨xm.type.toArray⟩:ByteArray)=s2 at *;go_wp2_with fail;refine (unhide HP).mono ?_;rintro e w4 ⟨rfl,f4⟩;have F4:=hide ((unhide HB).trans (f4.mono (unhide HB).size));clear HP f4 HB;cases bb
    · have hT:T=false:=unhide HBD (by first | rfl | trivial)
      subst hT;go_wp2;go_ret;exact ⟨rfl,unhide F4⟩
    · go_wp2
      go_roundw
      case rel=>exact ⟨k+1,by omega,by go_num,unhide F4,unhide HST⟩
      case measure=>simp [intOf];omega
  · obtain rfl:k=n:=by omega
    have hT:T=true:=by
     rw [unhide HTT,decide_eq_true hmo,Bool.true_and,←hgo,List.take_of_length_le (by omega)]
    subst hT;have HR:=hide hR;clear hR HTT hgo;go_wp2;go_ret;exact ⟨rfl,unhide HR⟩
theorem cisRight_any (w:World) (r:ClR) (hC:CIn w r) :
 Calls Tryz.prog 23 #[r.v] w fun e w'=>e=.returned (.bool (rightK r.c))∧Below w.heap.size w w':=by
 obtain ⟨⟨pl,nm,sp,fl,ml⟩,⟨pa,pn,pc⟩,⟨fa,fn,fc⟩,⟨ma,mn,mcc⟩,mr⟩:=r;obtain ⟨h1,h2,h3,h4,h5,h6⟩:=hC;simp only at h1 h2 h3 h4 h5 h6;unfold ClR.v Sl.v;simp only;obtain ⟨w0,e0,f0,K0⟩:=one_local w #[.slice pa pn pc,.string ⟨nm.toArray⟩,.string ⟨sp.toArray⟩,.slice fa fn fc,.slice ma mn mcc] 26;have KC:Hid (∀W,Below w0.heap.size w0 W→W.cell? ⟨w.heap.size,0,none⟩=some (.slice pa pn pc)∧W.cell? ⟨w.heap.size,1,none⟩=some (.string ⟨nm.toArray⟩)∧W.cell? ⟨w.heap.size,2,none⟩=some (.string ⟨sp.toArray⟩)∧W.cell? ⟨w.heap.size,3,none⟩=some (.slice fa fn fc)∧W.cell? ⟨w.heap.size,4,none⟩=some (.slice ma mn mcc)):=fun W f=>⟨K0 W f 0 _ rfl,K0 W f 1 _ rfl,K0 W f 2 _ rfl,K0 W f 3 _ rfl,K0 W f 4 _ rfl⟩
 obtain ⟨T,hT⟩:∃T,T=rightK ⟨pl,nm,sp,fl,ml⟩:=⟨_,rfl⟩;rw [←hT];rw [rightK_is] at hT;simp only at hT;have HCk:=kCheck_any w0 pa pn pc pl (h1.arg.es.below f0) (by have:=h1.small;omega) h1.fit;obtain ⟨q0,q1,q2,q3,q4⟩:=unhide KC w0 (Below.refl _ _);cases hck:checkP pl
 · obtain rfl:T=false:=by rw [hT,hck];rfl
   rw [hck] at HCk;simp only [Bool.false_eq_true,if_false] at HCk;have HCk1:=hide HCk;have F0:=hide f0;have E0:=hide e0;clear h1 h2 h3 h4 h5 h6 hT f0 K0 HCk hck e0;generalize (⟨nm.toArray⟩:ByteArray)=s1 at *;generalize (⟨sp.toArray⟩:ByteArray)=s2 at *;have e0:=unhide E0;go_enter Tryz.func23,Tryz.ntmps23;go_wp2_with fail;refine (unhide HCk1).mono ?_;rintro e w1 ⟨rfl,f1⟩;have F1:=hide ((unhide F0).trans (f1.mono (unhide F0).size));clear f1 e0;go_wp2;go_ret;exact ⟨rfl,unhide F1⟩
 rw [hck] at HCk hT;simp only [if_true] at HCk;have HNm:∀W,Below w0.heap.size w0 W→Calls Tryz.prog 50 #[.slice pa pn pc] W fun e w'=>∃g mt mc,e=.returned (.pointer (some ⟨g,0,none⟩))∧Nm w' g mt mc ⟨pa,pn,pc⟩ pl∧(W.heap.size≤g∧W.heap.size≤mt∧W.heap.size≤mc)∧Below W.heap.size W w':=fun W f=>nOf_any W ⟨pa,pn,pc⟩ pl (h1.below (f0.trans (f.mono f0.size))) hck
 have HFl:∀W g mt mc,Below w0.heap.size w0 W→Nm W g mt mc ⟨pa,pn,pc⟩ pl→Calls Tryz.prog 52 #[.slice fa fn fc,.int .i64 256,.func (.func 53) #[.pointer (some ⟨g,0,none⟩)] #[]] W fun e w'=>e=.returned (.bool (areB (rightF pl) 256 fl))∧Below W.heap.size W w':=fun W g mt mc f hn=>arF_any W g mt mc _ pl hn ⟨fa,fn,fc⟩ fl (h4.mono (f0.trans (f.mono f0.size)) (fun _ h=>h)) 256 (by omega)
 have HMl:∀W g mt mc,Below w0.heap.size w0 W→Nm W g mt mc ⟨pa,pn,pc⟩ pl→Calls Tryz.prog 54 #[.slice ma mn mcc,.int .i64 256,.func (.func 55) #[.pointer (some ⟨g,0,none⟩)] #[]] W fun e w'=>e=.returned (.bool (areB (rightMd pl) 256 ml))∧Below W.heap.size W w':=fun W g mt mc f hn=>by
  have h7:=arM_any W g mt mc _ pl hn ⟨ma,mn,mcc⟩ mr (h5.mono (f0.trans (f.mono f0.size)) (fun _ h=>h.below (f0.trans (f.mono f0.size)))) 256 (by omega);rw [←h6] at h7;exact h7
 have HHn:∀W g mt mc,Nm W g mt mc ⟨pa,pn,pc⟩ pl→Calls Tryz.prog 51 #[.pointer (some ⟨g,0,none⟩),.string ⟨nm.toArray⟩] W fun e w'=>e=.returned (.bool (decide (clsN pl nm≠0)))∧w'=W:=fun W g mt mc hn=>nHasClass_any W g mt mc _ pl hn nm h2
 have HHs:∀W g mt mc,Nm W g mt mc ⟨pa,pn,pc⟩ pl→Calls Tryz.prog 51 #[.pointer (some ⟨g,0,none⟩),.string ⟨sp.toArray⟩] W fun e w'=>e=.returned (.bool (decide (clsN pl sp≠0)))∧w'=W:=fun W g mt mc hn=>nHasClass_any W g mt mc _ pl hn sp h3
 obtain ⟨zs,hzs⟩:∃zs:ByteArray,zs=⟨sp.toArray⟩:=⟨_,rfl⟩;have i1:zs=⟨#[]⟩↔sp=[]:=by rw [hzs];simp
 have i2:zs.toList=[]↔sp=[]:=by rw [hzs];simp
 rw [←hzs] at KC HHs q2 e0 ⊢;generalize (⟨nm.toArray⟩:ByteArray)=s1 at *;generalize decide (clsN pl nm≠0)=b_n at *;generalize decide (clsN pl sp≠0)=b_s at *;generalize areB (rightF pl) 256 fl=b_f at *;generalize areB (rightMd pl) 256 ml=b_m at *;have HCk1:=hide HCk;have HN1:=hide HNm;have HF1:=hide HFl;have HM1:=hide HMl;have HHn1:=hide HHn;have HHs1:=hide HHs;have HTT:=hide hT;have F0:=hide f0;have E0:=hide e0;have I1:=hide i1;have I2:=hide i2;clear h1 h2 h3 h4 h5 h6 hT f0 K0 HCk hck e0 HNm HFl HMl HHn HHs hzs i1 i2;have e0:=unhide E0;go_enter Tryz.func23,Tryz.ntmps23;go_wp2_with fail;refine (unhide HCk1).mono ?_;rintro e w1 ⟨rfl,f1⟩;have F1:=hide f1;obtain ⟨c0,c1,c2,c3,c4⟩:=unhide KC _ f1;have HNc:=hide (unhide HN1 _ f1);clear f1 e0 HCk1 q0 q1 q2 q3 q4 HN1;go_wp2_with fail;refine (unhide HNc).mono ?_;rintro e w2 ⟨g,mt,mc,rfl,hn,_,f2⟩;have F2:=hide ((unhide F1).trans (f2.mono (unhide F1).size));have FF2:=hide ((unhide F0).trans ((unhide F2).mono (unhide F0).size));obtain ⟨d0,d1,d2,d3,d4⟩:=unhide KC _ (unhide F2);have HHnc:=hide (unhide HHn1 _ _ _ _ hn);have HHsc:=hide (unhide HHs1 _ _ _ _ hn);have HN2:=hide hn;clear f2 HNc c0 c1 c2 c3 c4 hn HHn1 HHs1;go_wp2_with fail;refine (unhide HHnc).mono ?_;rintro e w3 ⟨rfl,e3⟩;have e3':=e3.symm;clear e3 HHnc;subst e3';cases b_n
 · obtain rfl:T=false:=by rw [unhide HTT];rfl
   go_wp2;go_ret;exact ⟨rfl,unhide FF2⟩
 have key:Hid (∀sb,(sb=true→T=(b_f&&b_m))→True):=fun _ _=>trivial
 clear key
 by_cases hsp:sp=[]
 · have hz1:=(unhide I1).2 hsp
   have HT2:Hid (T=(b_f&&b_m)):=by show T=_;rw [unhide HTT,decide_eq_true hsp];rfl
   subst hz1;clear I1 I2 HTT hsp;have HFc:=hide (unhide HF1 _ _ _ _ (unhide F2) (unhide HN2));go_wp2_with fail;refine (unhide HFc).mono ?_;rintro e w4 ⟨rfl,f4⟩;have F4:=hide ((unhide F2).trans (f4.mono (unhide F2).size));have FF4:=hide ((unhide F0).trans ((unhide F4).mono (unhide F0).size));obtain ⟨g0,g1,g2,g3,g4⟩:=unhide KC _ (unhide F4);have HMc:=hide (unhide HM1 _ _ _ _ (unhide F4) ((unhide HN2).below f4));clear f4 HFc d0 d1 d2 d3 d4;cases b_f
   · obtain rfl:T=false:=by rw [unhide HT2];rfl
     go_wp2;go_ret;exact ⟨rfl,unhide FF4⟩
   obtain rfl:T=b_m:=by rw [unhide HT2];rfl
   go_wp2_with fail;refine (unhide HMc).mono ?_;rintro e w5 ⟨rfl,f5⟩;have FF5:=hide ((unhide F0).trans (((unhide F4).trans (f5.mono (unhide F4).size)).mono (unhide F0).size));clear f5;go_wp2;go_ret;exact ⟨rfl,unhide FF5⟩
 · have hz2:¬zs.toList=[]:=fun h=>hsp ((unhide I2).1 h)
   have hz3:(zs.toList==[])=false:=by simpa using hz2
   have HT1:Hid (T=(b_s&&(b_f&&b_m))):=by show T=_;rw [unhide HTT,decide_eq_false hsp];rfl
   clear I1 I2 HTT hsp;go_wp2_with fail;refine (unhide HHsc).mono ?_;rintro e w3 ⟨rfl,e3⟩;have e3':=e3.symm;clear e3 HHsc;subst e3';cases b_s
   · obtain rfl:T=false:=by rw [unhide HT1];rfl
     go_wp2;go_ret;exact ⟨rfl,unhide FF2⟩
   have HT2:Hid (T=(b_f&&b_m)):=by show T=_;rw [unhide HT1];rfl
   have HFc:=hide (unhide HF1 _ _ _ _ (unhide F2) (unhide HN2));go_wp2_with fail;refine (unhide HFc).mono ?_;rintro e w4 ⟨rfl,f4⟩;have F4:=hide ((unhide F2).trans (f4.mono (unhide F2).size));have FF4:=hide ((unhide F0).trans ((unhide F4).mono (unhide F0).size));obtain ⟨g0,g1,g2,g3,g4⟩:=unhide KC _ (unhide F4);have HMc:=hide (unhide HM1 _ _ _ _ (unhide F4) ((unhide HN2).below f4));clear f4 HFc d0 d1 d2 d3 d4;cases b_f
   · obtain rfl:T=false:=by rw [unhide HT2];rfl
     go_wp2;go_ret;exact ⟨rfl,unhide FF4⟩
   obtain rfl:T=b_m:=by rw [unhide HT2];rfl
   go_wp2_with fail;refine (unhide HMc).mono ?_;rintro e w5 ⟨rfl,f5⟩;have FF5:=hide ((unhide F0).trans (((unhide F4).trans (f5.mono (unhide F4).size)).mono (unhide F0).size));clear f5;go_wp2;go_ret;exact ⟨rfl,unhide FF5⟩
def kindB (k:Nat):Int:=if k=0 then 0 else if k=1 then 1 else if k=2 then 4 else if k=3 then 5 else 7
def Tab8 (w:World):Prop:=∀i,i<5→w.cell? ⟨0,i,none⟩=some (.int .i64 (kindB i))
theorem Tab8.below {w w':World} (h:Tab8 w) (f:Below w.heap.size w w'):Tab8 w':=fun i hi=>by
 have h1:=h i hi;exact (f.cell (World.block_lt_of_cell? w _ h1)).trans h1
structure Cx where
 wc:World
 B:Nat
 x:Nat
 g:Nat
 mt:Nat
 mc:Nat
 p:Sl
 l:List Ent
structure Wt (C:Cx) (F:Nat→Prop) (w:World) (bs:List UInt8):Prop where
 wr:WR F w C.B C.x bs
 bel:Below C.wc.heap.size C.wc w
 hB:C.wc.heap.size≤C.B
 nm:Nm w C.g C.mt C.mc C.p C.l
 ng:¬F C.g
 nt:¬F C.mt
 nc:¬F C.mc
 pool:EIn C.wc C.p.a C.p.n C.p.c C.l
 tab:Tab8 C.wc
theorem Wt.lt {C:Cx} {F:Nat→Prop} {w:World} {bs:List UInt8} (h:Wt C F w bs):∀k,F k→C.B≤k∧k<w.heap.size:=kwr_lt h.wr
theorem Wt.base {C:Cx} {F:Nat→Prop} {w:World} {bs:List UInt8} (h:Wt C F w bs):C.B≤w.heap.size:=by
 obtain ⟨y,c,_,h⟩:=h.wr;exact Nat.le_trans h.hx (Nat.le_of_lt h.xlt)
theorem Wt.tb {C:Cx} {F:Nat→Prop} {w:World} {bs:List UInt8} (h:Wt C F w bs):Tab8 w:=h.tab.below h.bel
theorem Wt.below {C:Cx} {F:Nat→Prop} {w w':World} {bs:List UInt8} (h:Wt C F w bs) (f:Below w.heap.size w w'):Wt C F w' bs:=
 ⟨kwr_below h.wr f,h.bel.trans (f.mono h.bel.size),h.hB,h.nm.below f,h.ng,h.nt,h.nc,h.pool,h.tab⟩
theorem Nm.other {w w':World} {g mt mc:Nat} {p:Sl} {l:List Ent} (h:Nm w g mt mc p l) (h1:w'.heap[g]?=w.heap[g]?) (h2:w'.heap[mt]?=w.heap[mt]?) (h3:w'.heap[mc]?=w.heap[mc]?) (h4:EIn w' p.a p.n p.c l):Nm w' g mt mc p l:=
 ⟨h1.trans h.blk,h.texts.keep h2,h.classes.keep h3,h4,h.right⟩
structure WtG (C:Cx) (F G:Nat→Prop) (w0:World) (bs:List UInt8) (W:World):Prop where
 ex:∃F',Wt C F' W bs∧∀j,F' j→F j∨w0.heap.size≤j
 fr:Fr6 G C.B w0 W
abbrev WtTo (C:Cx) (F:Nat→Prop) (w0:World) (bs:List UInt8) (W:World):Prop:=WtG C F F w0 bs W
theorem Wt.next {C:Cx} {F F':Nat→Prop} {w w':World} {bs bs':List UInt8} (h:Wt C F w bs) (h1:WR F' w' C.B C.x bs') (h2:∀j,F' j→F j∨w.heap.size≤j) (f:Fr6 F C.B w w'):WtTo C F w bs' w':=by
 have hb:Below C.wc.heap.size C.wc w':=h.bel.trans (f.below.mono h.hB);have ne:∀k,¬F k→k<w.heap.size→¬F' k:=fun k hk hl hf=>(h2 k hf).elim hk (fun e=>by omega)
 have hg:=h.nm.glt;have ht:=h.nm.texts.lt;have hc:=h.nm.classes.lt;exact ⟨⟨F',⟨h1,hb,h.hB,h.nm.other (f.other _ hg h.ng) (f.other _ ht h.nt) (f.other _ hc h.nc) (h.pool.below hb),ne _ h.ng hg,ne _ h.nt ht,ne _ h.nc hc,h.pool,h.tab⟩,h2⟩,f⟩
theorem WtG.start {C:Cx} {F:Nat→Prop} {w:World} {bs:List UInt8} (h:Wt C F w bs) (G:Nat→Prop):WtG C F G w bs w:=⟨⟨F,h,fun j hj=>.inl hj⟩,Below.refl _ _,fun _ _ _=>rfl⟩
theorem WtG.below {C:Cx} {F G:Nat→Prop} {w0 W W':World} {bs:List UInt8} (h:WtG C F G w0 bs W) (f:Below W.heap.size W W'):WtG C F G w0 bs W':=by
 obtain ⟨F',h1,h2⟩:=h.ex;exact ⟨⟨F',h1.below f,h2⟩,kfr_trans (F1:=fun _=>False) h.fr (Fr6.of_below f h1.base) (fun k hk=>hk.elim)⟩
theorem WtG.keep {C:Cx} {F G:Nat→Prop} {w0 W:World} {bs:List UInt8} (h:WtG C F G w0 bs W) {b:Nat} (hb:b<w0.heap.size) (hG:¬G b) (o:Nat):W.cell? ⟨b,o,none⟩=w0.cell? ⟨b,o,none⟩:=World.cell?_of_block (a:=⟨b,o,none⟩) (h.fr.other b hb hG)
theorem WtG.step {C:Cx} {F G:Nat→Prop} {w0 W W':World} {bs bs':List UInt8} {f:Nat} {args:Array Value} {P:Ending→Prop} (h:WtG C F G w0 bs W) (hG:∀j,F j→G j)
 (hc:∀F1,Wt C F1 W bs→Calls Tryz.prog f args W' fun e w'=>P e∧WtTo C F1 W bs' w'):Calls Tryz.prog f args W' fun e w'=>P e∧WtG C F G w0 bs' w':=by
 obtain ⟨F1,h1,h2⟩:=h.ex;refine (hc F1 h1).mono ?_;rintro e w' ⟨hP,hT⟩;obtain ⟨F2,h3,h4⟩:=hT.ex;refine ⟨hP,⟨F2,h3,fun j hj=>(h4 j hj).elim (h2 j) (fun e=>.inr (Nat.le_trans h.fr.below.size e))⟩,kfr_trans h.fr hT.fr (fun k hk=>(h2 k hk).elim (fun e=>.inl (hG k e)) .inr)⟩
theorem WtG.leave {C:Cx} {F G:Nat→Prop} {w w1 W:World} {bs bs0:List UInt8} (h:Wt C F w bs0) (b:Below w.heap.size w w1) (g:WtG C F G w1 bs W) (hG:∀j,G j→F j∨w.heap.size≤j):WtTo C F w bs W:=by
 obtain ⟨F',h1,h2⟩:=g.ex;exact ⟨⟨F',h1,fun j hj=>(h2 j hj).elim .inl (fun e=>.inr (Nat.le_trans b.size e))⟩,kfr_trans (Fr6.of_below b h.base) g.fr hG⟩
def Cx.v (C:Cx):Value:=.agg #[.pointer (some ⟨C.x,0,none⟩),.pointer (some ⟨C.g,0,none⟩)]
theorem wt_u {C:Cx} {F:Nat→Prop} {W W':World} {bs:List UInt8} (h:Wt C F W bs) (f:Below W.heap.size W W') (zs:List Int) (n:Nat) (k:Int) (hn:zs.length=n) (hz:∀(j:Nat) (z:Int),zs[j]?=some z→W'.cell? ⟨W.heap.size,j,none⟩=some (.int .i64 z)) (hw:wide k) (hf:∀z∈zs,fitsW k z false∧Rng z) (hb:bs.length≤100000000) (hnn:n≤1000) :
 Calls Tryz.prog 57 #[.pointer (some ⟨C.x,0,none⟩),.int .i64 k,.slice (some ⟨W.heap.size,0,none⟩) n n] W' fun e w'=>e=.returned (.int .i64 0)∧WtTo C F W (bs++zs.flatMap (bytesW k)) w':=by
 have h1:=h.below f;have hk:-9223372036854775808≤k∧k≤9223372036854775807:=by rcases hw with rfl | rfl | rfl | rfl <;> omega
 have hp:putW bs k false zs=(bs++zs.flatMap (bytesW k),0):=putW_ok hw (fun z hzz=>(hf z hzz).1);refine (eU_any F W' C.B C.x bs k _ n n zs h1.wr ⟨hn,.inr ⟨_,_,rfl,fun j z hj=>by rw [Nat.zero_add];exact hz j z hj⟩⟩ (fun b o e _ hb=>?_) (fun z hzz=>(hf z hzz).2) (by omega) hk).mono ?_
 · injection e with e
   injection e with e1
   have:=(h.lt b hb).2;omega
 · rintro e w' ⟨rfl,⟨F',r1,r2⟩,r3⟩
   rw [hp] at r1 ⊢;exact ⟨rfl,WtG.leave h f (h1.next r1 r2 r3) (fun j hj=>.inl hj)⟩
theorem wt_bytes {C:Cx} {F:Nat→Prop} {W:World} {bs:List UInt8} (h:Wt C F W bs) (a:Option Addr) (n c:Nat) (ys:List UInt8) (ha:Arg C.wc a n c ys) (hb:bs.length≤100000000) (hn:n≤100000000) :
 Calls Tryz.prog 88 #[.pointer (some ⟨C.x,0,none⟩),.slice a n c] W fun e w'=>e=.returned (.int .i64 0)∧WtTo C F W (bs++ys) w':=by
 refine (eBytes_any F W C.B C.x bs a n c ys h.wr (ha.below h.bel) (fun b o e h0 hb=>?_) (by omega)).mono ?_
 · have hlt:b<C.wc.heap.size:=by
    subst e;obtain ⟨hl,hh⟩:=ha.bs
    rcases hh with hz | ⟨b',o',e',hB⟩
    · omega
    · injection e' with e'
      injection e' with e1 e2
      subst e1 e2;obtain ⟨u,hu⟩:∃u,(bv ys)[0]?=some u:=⟨_,List.getElem?_eq_getElem (by rw [bv_length];omega)⟩;have:=hB.2 ⟨b,o,none⟩ rfl 0 u hu;exact World.block_lt_of_cell? _ _ this
   have:=(h.lt b hb).1;have:=h.hB;omega
 · rintro e w' ⟨rfl,⟨F',r1,r2⟩,r3⟩
   exact ⟨rfl,h.next r1 r2 r3⟩
theorem fz2 {z:Int} (h:0≤z∧z≤65535):fitsW 2 z false∧Rng z:=⟨fitsU2 h,by unfold Rng;omega⟩
theorem fz4 {z:Int} (h:0≤z∧z<4294967296):fitsW 4 z false∧Rng z:=⟨fitsU4 h,by unfold Rng;omega⟩
theorem fz1 {z:Int} (h:0≤z∧z≤255):fitsW 1 z false∧Rng z:=⟨fits_tag h.1 (by omega),by unfold Rng;omega⟩
end Go.Proofs.YtlabllgifkklhaaGreatDoor
