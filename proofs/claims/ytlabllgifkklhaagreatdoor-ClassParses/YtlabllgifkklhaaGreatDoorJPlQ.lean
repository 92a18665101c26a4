/- The document's own pool: Check. -/
import Derived.Test.YtlabllgifkklhaaGreatDoorJP3
import Derived.Deep.RegionLaw
set_option linter.unusedVariables false
set_option maxRecDepth 100000
set_option maxHeartbeats 6400000
namespace Go.Proofs.YtlabllgifkklhaaGreatDoor
open Go.RowKit
theorem goE_drop {l:List Ent} {k:Nat} {x:Ent} (hx:l[k]?=some x):l.drop k=x::l.drop (k+1):=by
 obtain ⟨h,e⟩:=List.getElem?_eq_some_iff.1 hx;rw [List.drop_eq_getElem_cons h,e]
theorem goE_bad {l:List Ent} {k:Nat} {x:Ent} (hx:l[k]?=some x) (h:okE l x=false):goE l (l.drop k)=false:=by
 rw [goE_drop hx];cases l.drop (k+1) with
 | nil=>simp [goE,h]
 | cons z r=>simp [goE,h]
theorem goE_step {l:List Ent} {k:Nat} {x:Ent} (hx:l[k]?=some x) (h:okE l x=true) (h5:x.tag≠5):goE l (l.drop k)=goE l (l.drop (k+1)):=by
 rw [goE_drop hx];cases l.drop (k+1) with
 | nil=>simp [goE,h,h5]
 | cons z r=>simp [goE,h,h5]
theorem goE_long {l:List Ent} {k:Nat} {x:Ent} (hx:l[k]?=some x) (h:okE l x=true) (h5:x.tag=5):goE l (l.drop k)=(decide (l[k+1]?=some ent0)&&goE l (l.drop (k+2))):=by
 rw [goE_drop hx];cases hz:l[k+1]? with
 | none=>
  have:l.drop (k+1)=[]:=List.drop_eq_nil_of_le (List.getElem?_eq_none_iff.1 hz);rw [this];simp [goE,h,h5]
 | some z=>
  rw [goE_drop hz];simp [goE,h,h5]
theorem jCheck_any (w:World) (a:Option Addr) (n c:Nat) (l:List Ent) (h:Es w a n l) (hn:n≤140737488351232) (hT:∀x∈l,x.text.length≤140737488355328) (hF:∀x∈l,EntFit x) :
 Calls Tryz.prog 25 #[.slice a n c] w fun e w'=>e=.returned (.int .i64 (if checkP l=true then 0 else 70))∧Below w.heap.size w w':=by
 have hln:=h.1
 by_cases h1:n<1
 case pos=>
  have e1:checkP l=false:=by
   unfold checkP;rw [decide_eq_false (by omega)];rfl
  have h1':(n:Int)<1:=by omega
  rw [if_neg (by rw [e1];simp)];clear h e1;go_enter Tryz.func25,Tryz.ntmps25;go_wp2;go_ret;exact ⟨rfl,Below.refl _ _⟩
 by_cases h2:1024<n
 case pos=>
  have e1:checkP l=false:=by
   unfold checkP;rw [decide_eq_false (by omega)];rfl
  have h1':¬(n:Int)<1:=by omega
  have h2':(1024:Int)<(n:Int):=by omega
  rw [if_neg (by rw [e1];simp)];clear h e1;go_enter Tryz.func25,Tryz.ntmps25;go_wp2;go_ret;exact ⟨rfl,Below.refl _ _⟩
 have h1':¬(n:Int)<1:=by omega
 have h2':¬(1024:Int)<(n:Int):=by omega
 have h3':(0:Int)<(n:Int):=by omega
 obtain ⟨b,o,rfl,hE⟩:=h.2.resolve_left (by omega);obtain ⟨x0,hx0⟩:∃x,l[0]?=some x:=⟨_,List.getElem?_eq_getElem (by omega)⟩;obtain ⟨c0,c1,c2,c3,c4⟩:=ents_get hE hx0;simp only [Nat.zero_mul,Nat.add_zero] at c0 c1 c2 c3 c4;have HC:∀W,(binOp .neq 55 (.agg #[.int .i64 x0.tag,.string ⟨x0.text.toArray⟩,.int .i64 x0.n,.int .i64 x0.a,.int .i64 x0.b]) (.agg #[.int .i64 0,.string ⟨#[]⟩,.int .i64 0,.int .i64 0,.int .i64 0])).run Tryz.prog W=.ok (.bool (!decide (x0=ent0))) W:=fun W=>ent_cmpN W x0 ent0
 have HE:=hide h
 by_cases hz:x0=ent0
 case neg=>
  have e1:checkP l=false:=by
   unfold checkP;rw [decide_eq_false (p:=l[0]?=some ent0) (by rw [hx0];exact fun e=>hz (by injection e))];simp
  rw [decide_eq_false hz] at HC;rw [if_neg (by rw [e1];simp)];clear h e1 hE hx0 hz;generalize x0.tag=T at *;generalize (⟨x0.text.toArray⟩:ByteArray)=st at *;go_enter Tryz.func25,Tryz.ntmps25;go_wp2;go_ret;exact ⟨rfl,Below.refl _ _⟩
 subst hz;have hchk:checkP l=goE l (l.drop 1):=by
  unfold checkP;rw [decide_eq_true (p:=1≤l.length∧l.length≤1024) (by omega),decide_eq_true hx0];rfl
 rw [hchk];obtain ⟨G,hG⟩:∃G,goE l (l.drop 1)=G:=⟨_,rfl⟩;rw [hG];have HG:=hide hG;clear h hchk HC hE hx0 hG;go_enter Tryz.func25,Tryz.ntmps25;go_wp2;clear c0 c1 c2 c3 c4
 go_loopw [3] (fun i wr=>∃k:Nat,1≤k∧k≤n∧i=.int .i64 k∧goE l (l.drop k)=G∧Below w.heap.size w wr) (fun i _=>n-(intOf i).toNat)
 case atStart=>exact ⟨1,by omega,by omega,rfl,unhide HG,Below.refl _ _⟩
 case round=>
  obtain ⟨k,hk1,hk,rfl,hG,hB⟩:=hrel
  by_cases hlt:k<n
  case neg=>
   obtain rfl:k=n:=by omega
   have e1:G=true:=by
    rw [←hG,List.drop_eq_nil_of_le (by omega)];rfl
   have HB:=hide hB;clear hG hB HG HE;subst e1;go_wp2;go_ret;exact ⟨rfl,unhide HB⟩
  have hlt1:(k:Int)<(n:Int):=by omega
  obtain ⟨b',o',e',hE⟩:=((unhide HE).below hB).2.resolve_left (by omega);injection e' with e'
  injection e' with e1 e2
  subst e1;subst e2;obtain ⟨x,hx⟩:∃x,l[k]?=some x:=⟨_,List.getElem?_eq_getElem (by omega)⟩;obtain ⟨c0,c1,c2,c3,c4⟩:=ents_get hE hx;have HB:=hide hB;have hxT:=hT x (List.mem_of_getElem? hx);have hxF:=hF x (List.mem_of_getElem? hx);obtain ⟨tag,text,nn,aa,bb⟩:=x;obtain ⟨hf0,hf1,hf2,hf3⟩:=hxF;simp only at c0 c1 c2 c3 c4 hxT hf0 hf1 hf2 hf3
  by_cases t1:tag=1
  case pos=>
   subst t1;have hc:∀W,(binOp .neq 55 (.agg #[.int .i64 1,.string ⟨text.toArray⟩,.int .i64 nn,.int .i64 aa,.int .i64 bb]) (.agg #[.int .i64 1,.string ⟨text.toArray⟩,.int .i64 0,.int .i64 0,.int .i64 0])).run Tryz.prog W=.ok (.bool (!decide ((⟨1,text,nn,aa,bb⟩:Ent)=(eUtf text)))) W:=fun W=>ent_cmpN W ⟨1,text,nn,aa,bb⟩ (eUtf text)
   have hok:okE l ⟨1,text,nn,aa,bb⟩=(textB text&&decide ((⟨1,text,nn,aa,bb⟩:Ent)=(eUtf text))):=rfl;have hbad:=goE_bad hx;rw [hok] at hbad;have hnext:=fun h=>goE_step hx h (by simp)
   rw [hok] at hnext;have H1:=hide (fun W=>jtext_any W text hxT);generalize textB text=T1 at *;generalize (decide ((⟨1,text,nn,aa,bb⟩:Ent)=(eUtf text)))=D at *;clear hok hE hx hT hF hxT HG hB;generalize (⟨text.toArray⟩:ByteArray)=st at *;clear HE;cases T1
   case false=>
    have e1:G=false:=by rw [←hG];exact hbad rfl
    subst e1;clear hbad hnext hG;go_wp2_with fail;refine (unhide H1 _).mono ?_;rintro e w1 ⟨rfl,e0⟩;have e0':=e0.symm;clear e0;subst e0';clear H1;go_wp2;go_ret;exact ⟨rfl,(by repeat (first | exact unhide HB | refine Below.drew ?_ | refine Below.alloc ?_ (by have:=(unhide HB).size;first | omega | (simp;omega)) _))⟩
   cases D
   case false=>
    have e1:G=false:=by rw [←hG];exact hbad rfl
    subst e1;clear hbad hnext hG;go_wp2_with fail;refine (unhide H1 _).mono ?_;rintro e w1 ⟨rfl,e0⟩;have e0':=e0.symm;clear e0;subst e0';clear H1;go_wp2;go_ret;exact ⟨rfl,(by repeat (first | exact unhide HB | refine Below.drew ?_ | refine Below.alloc ?_ (by have:=(unhide HB).size;first | omega | (simp;omega)) _))⟩
   case true=>
    have HN:Hid (goE l (l.drop (k+1))=G):=by
     show _=G;rw [←hG];exact (hnext rfl).symm
    clear hbad hnext hG;go_wp2_with fail;refine (unhide H1 _).mono ?_;rintro e w1 ⟨rfl,e0⟩;have e0':=e0.symm;clear e0;subst e0';clear H1;go_wp2;go_roundw
    case rel=>exact ⟨k+1,by omega,by omega,by go_num,unhide HN,(by repeat (first | exact unhide HB | refine Below.drew ?_ | refine Below.alloc ?_ (by have:=(unhide HB).size;first | omega | (simp;omega)) _))⟩
    case measure=>simp [intOf];omega
  by_cases t3:tag=3
  case pos=>
   subst t3;have hc:∀W,(binOp .neq 55 (.agg #[.int .i64 3,.string ⟨text.toArray⟩,.int .i64 nn,.int .i64 aa,.int .i64 bb]) (.agg #[.int .i64 3,.string ⟨#[]⟩,.int .i64 nn,.int .i64 0,.int .i64 0])).run Tryz.prog W=.ok (.bool (!decide ((⟨3,text,nn,aa,bb⟩:Ent)=⟨3,[],nn,0,0⟩))) W:=fun W=>ent_cmpN W ⟨3,text,nn,aa,bb⟩ ⟨3,[],nn,0,0⟩
   have hok:okE l ⟨3,text,nn,aa,bb⟩=(decide (-2147483648≤nn∧nn≤2147483647)&&decide ((⟨3,text,nn,aa,bb⟩:Ent)=⟨3,[],nn,0,0⟩)):=rfl;have hbad:=goE_bad hx;rw [hok] at hbad;have hnext:=fun h=>goE_step hx h (by simp)
   rw [hok] at hnext;generalize (decide ((⟨3,text,nn,aa,bb⟩:Ent)=⟨3,[],nn,0,0⟩))=D at *;clear hok hE hx hT hF hxT HG hB;generalize (⟨text.toArray⟩:ByteArray)=st at *;clear HE
   by_cases r1:nn < -2147483648
   case pos=>
    rw [decide_eq_false (by omega)] at hbad;have e1:G=false:=by rw [←hG];exact hbad rfl
    subst e1;clear hbad hnext hG;go_wp2;go_ret;exact ⟨rfl,(by repeat (first | exact unhide HB | refine Below.drew ?_ | refine Below.alloc ?_ (by have:=(unhide HB).size;first | omega | (simp;omega)) _))⟩
   by_cases r2:2147483647<nn
   case pos=>
    rw [decide_eq_false (by omega)] at hbad;have r3:decide (nn≤2147483647)=false:=decide_eq_false (by omega);have r4:¬nn≤2147483647:=by omega
    have e1:G=false:=by rw [←hG];exact hbad rfl
    subst e1;clear hbad hnext hG;go_wp2;go_ret;exact ⟨rfl,(by repeat (first | exact unhide HB | refine Below.drew ?_ | refine Below.alloc ?_ (by have:=(unhide HB).size;first | omega | (simp;omega)) _))⟩
   rw [decide_eq_true (by omega)] at hbad hnext;have r3:nn≤2147483647:=by omega
   cases D
   case false=>
    have e1:G=false:=by rw [←hG];exact hbad rfl
    subst e1;clear hbad hnext hG;go_wp2;go_ret;exact ⟨rfl,(by repeat (first | exact unhide HB | refine Below.drew ?_ | refine Below.alloc ?_ (by have:=(unhide HB).size;first | omega | (simp;omega)) _))⟩
   case true=>
    have HN:Hid (goE l (l.drop (k+1))=G):=by
     show _=G;rw [←hG];exact (hnext rfl).symm
    clear hbad hnext hG;go_wp2;go_roundw
    case rel=>exact ⟨k+1,by omega,by omega,by go_num,unhide HN,(by repeat (first | exact unhide HB | refine Below.drew ?_ | refine Below.alloc ?_ (by have:=(unhide HB).size;first | omega | (simp;omega)) _))⟩
    case measure=>simp [intOf];omega
  by_cases t5:tag=5
  case pos=>
   subst t5;have hc:∀W,(binOp .neq 55 (.agg #[.int .i64 5,.string ⟨text.toArray⟩,.int .i64 nn,.int .i64 aa,.int .i64 bb]) (.agg #[.int .i64 5,.string ⟨#[]⟩,.int .i64 nn,.int .i64 0,.int .i64 0])).run Tryz.prog W=.ok (.bool (!decide ((⟨5,text,nn,aa,bb⟩:Ent)=⟨5,[],nn,0,0⟩))) W:=fun W=>ent_cmpN W ⟨5,text,nn,aa,bb⟩ ⟨5,[],nn,0,0⟩
   have hok:okE l ⟨5,text,nn,aa,bb⟩=(decide ((⟨5,text,nn,aa,bb⟩:Ent)=⟨5,[],nn,0,0⟩)):=rfl;have hbad:=goE_bad hx;rw [hok] at hbad;have hlong:=fun h=>goE_long hx h rfl
   rw [hok] at hlong
   by_cases h6:k+1<n
   case neg=>
    have hz:l[k+1]?=none:=List.getElem?_eq_none (by omega);have e1:G=false:=by
     rw [←hG];cases hD:decide ((⟨5,text,nn,aa,bb⟩:Ent)=⟨5,[],nn,0,0⟩) with
     | false=>exact hbad hD
     | true=>rw [hlong hD,hz];rfl
    have h6':¬(k:Int)+1<(n:Int):=by omega
    generalize (decide ((⟨5,text,nn,aa,bb⟩:Ent)=⟨5,[],nn,0,0⟩))=D at *;subst e1;clear hok hE hx hT hF hxT HG hB HE hbad hlong hG hz;generalize (⟨text.toArray⟩:ByteArray)=st at *;go_wp2;go_ret;exact ⟨rfl,(by repeat (first | exact unhide HB | refine Below.drew ?_ | refine Below.alloc ?_ (by have:=(unhide HB).size;first | omega | (simp;omega)) _))⟩
   obtain ⟨z,hz⟩:∃z,l[k+1]?=some z:=⟨_,List.getElem?_eq_getElem (by omega)⟩;obtain ⟨z0,z1,z2,z3,z4⟩:=ents_get hE hz;obtain ⟨M,hM⟩:∃M,M=k+1:=⟨_,rfl⟩;have m1:(k:Int)+1=(M:Int):=by omega
   have m2:(M:Int)<(n:Int):=by omega
   rw [←hM] at z0 z1 z2 z3 z4;have y0:=cell_alloc (cell_alloc z0 (.cells #[.int .i64 5,.string ⟨text.toArray⟩,.int .i64 nn,.int .i64 aa,.int .i64 bb] 55)) (.cells #[.int .i64 5,.string ⟨#[]⟩,.int .i64 nn,.int .i64 0,.int .i64 0] 55);have y1:=cell_alloc (cell_alloc z1 (.cells #[.int .i64 5,.string ⟨text.toArray⟩,.int .i64 nn,.int .i64 aa,.int .i64 bb] 55)) (.cells #[.int .i64 5,.string ⟨#[]⟩,.int .i64 nn,.int .i64 0,.int .i64 0] 55);have y2:=cell_alloc (cell_alloc z2 (.cells #[.int .i64 5,.string ⟨text.toArray⟩,.int .i64 nn,.int .i64 aa,.int .i64 bb] 55)) (.cells #[.int .i64 5,.string ⟨#[]⟩,.int .i64 nn,.int .i64 0,.int .i64 0] 55);have y3:=cell_alloc (cell_alloc z3 (.cells #[.int .i64 5,.string ⟨text.toArray⟩,.int .i64 nn,.int .i64 aa,.int .i64 bb] 55)) (.cells #[.int .i64 5,.string ⟨#[]⟩,.int .i64 nn,.int .i64 0,.int .i64 0] 55);have y4:=cell_alloc (cell_alloc z4 (.cells #[.int .i64 5,.string ⟨text.toArray⟩,.int .i64 nn,.int .i64 aa,.int .i64 bb] 55)) (.cells #[.int .i64 5,.string ⟨#[]⟩,.int .i64 nn,.int .i64 0,.int .i64 0] 55);have hq:∀W,(binOp .eql 55 (.agg #[.int .i64 z.tag,.string ⟨z.text.toArray⟩,.int .i64 z.n,.int .i64 z.a,.int .i64 z.b]) (.agg #[.int .i64 0,.string ⟨#[]⟩,.int .i64 0,.int .i64 0,.int .i64 0])).run Tryz.prog W=.ok (.bool (decide (z=ent0))) W:=fun W=>ent_cmp W z ent0
   have hzz:decide (l[k+1]?=some ent0)=decide (z=ent0):=by rw [hz];simp
   rw [hzz] at hlong;have hdead:decide (z=ent0)=false→goE l (l.drop k)=false:=fun hd=>by
    cases hD:decide ((⟨5,text,nn,aa,bb⟩:Ent)=⟨5,[],nn,0,0⟩) with
    | false=>exact hbad hD
    | true=>rw [hlong hD,hd];rfl
   generalize (decide ((⟨5,text,nn,aa,bb⟩:Ent)=⟨5,[],nn,0,0⟩))=D at *;generalize (decide (z=ent0))=D0 at *;have HM:=hide hM;clear hok hE hx hT hF hxT HG hB HE hz hzz z0 z1 z2 z3 z4 hM;generalize (⟨text.toArray⟩:ByteArray)=st at *;generalize (⟨z.text.toArray⟩:ByteArray)=zt at *;generalize z.tag=zg at *;generalize z.n=zn at *;generalize z.a=za at *;generalize z.b=zb at *;cases D0
   case false=>
    have e1:G=false:=by rw [←hG];exact hdead rfl
    subst e1;clear hbad hlong hG hdead;go_wp2;go_ret;exact ⟨rfl,(by repeat (first | exact unhide HB | refine Below.drew ?_ | refine Below.alloc ?_ (by have:=(unhide HB).size;first | omega | (simp;omega)) _))⟩
   cases D
   case false=>
    have e1:G=false:=by rw [←hG];exact hbad rfl
    subst e1;clear hbad hlong hG hdead;go_wp2;go_ret;exact ⟨rfl,(by repeat (first | exact unhide HB | refine Below.drew ?_ | refine Below.alloc ?_ (by have:=(unhide HB).size;first | omega | (simp;omega)) _))⟩
   case true=>
    have HN:Hid (goE l (l.drop (M+1))=G):=by
     show _=G;rw [←hG,hlong rfl,unhide HM];rfl
    have HM2:Hid (M+1≤n):=by
     show M+1≤n;omega
    clear hbad hlong hG hdead;go_wp2;go_roundw
    case rel=>exact ⟨M+1,by omega,unhide HM2,by go_num,unhide HN,(by repeat (first | exact unhide HB | refine Below.drew ?_ | refine Below.alloc ?_ (by have:=(unhide HB).size;first | omega | (simp;omega)) _))⟩
    case measure=>
     have:=unhide HM;simp [intOf];omega
  by_cases t7:tag=7
  case pos=>
   subst t7;have hc:∀W,(binOp .neq 55 (.agg #[.int .i64 7,.string ⟨text.toArray⟩,.int .i64 nn,.int .i64 aa,.int .i64 bb]) (.agg #[.int .i64 7,.string ⟨#[]⟩,.int .i64 0,.int .i64 aa,.int .i64 0])).run Tryz.prog W=.ok (.bool (!decide ((⟨7,text,nn,aa,bb⟩:Ent)=⟨7,[],0,aa,0⟩))) W:=fun W=>ent_cmpN W ⟨7,text,nn,aa,bb⟩ ⟨7,[],0,aa,0⟩
   have hok:okE l ⟨7,text,nn,aa,bb⟩=(decide (tagE l aa=1)&&decide ((⟨7,text,nn,aa,bb⟩:Ent)=⟨7,[],0,aa,0⟩)):=rfl;have hbad:=goE_bad hx;rw [hok] at hbad;have hnext:=fun h=>goE_step hx h (by simp)
   rw [hok] at hnext;have H1:=hide (fun W f=>jtag_any W (some ⟨b,o,none⟩) n c l ((unhide HE).below f) aa hf2 hn);generalize tagE l aa=A1 at *;generalize (decide ((⟨7,text,nn,aa,bb⟩:Ent)=⟨7,[],0,aa,0⟩))=D at *;clear hok hE hx hT hF hxT HG hB;generalize (⟨text.toArray⟩:ByteArray)=st at *
   by_cases a1:A1=1
   case neg=>
    rw [decide_eq_false a1] at hbad;have a1':(A1==1)=false:=by simpa using a1
    have e1:G=false:=by rw [←hG];exact hbad rfl
    subst e1;clear hbad hnext hG;go_wp2_with fail;refine (unhide H1 _ (by repeat (first | exact unhide HB | refine Below.drew ?_ | refine Below.alloc ?_ (by have:=(unhide HB).size;first | omega | (simp;omega)) _))).mono ?_;rintro e w1 ⟨rfl,e0⟩;have e0':=e0.symm;clear e0;subst e0';clear H1;go_wp2;go_ret;exact ⟨rfl,(by repeat (first | exact unhide HB | refine Below.drew ?_ | refine Below.alloc ?_ (by have:=(unhide HB).size;first | omega | (simp;omega)) _))⟩
   rw [decide_eq_true a1] at hbad hnext;subst a1;cases D
   case false=>
    have e1:G=false:=by rw [←hG];exact hbad rfl
    subst e1;clear hbad hnext hG;go_wp2_with fail;refine (unhide H1 _ (by repeat (first | exact unhide HB | refine Below.drew ?_ | refine Below.alloc ?_ (by have:=(unhide HB).size;first | omega | (simp;omega)) _))).mono ?_;rintro e w1 ⟨rfl,e0⟩;have e0':=e0.symm;clear e0;subst e0';clear H1;go_wp2;go_ret;exact ⟨rfl,(by repeat (first | exact unhide HB | refine Below.drew ?_ | refine Below.alloc ?_ (by have:=(unhide HB).size;first | omega | (simp;omega)) _))⟩
   case true=>
    have HN:Hid (goE l (l.drop (k+1))=G):=by
     show _=G;rw [←hG];exact (hnext rfl).symm
    clear hbad hnext hG;go_wp2_with fail;refine (unhide H1 _ (by repeat (first | exact unhide HB | refine Below.drew ?_ | refine Below.alloc ?_ (by have:=(unhide HB).size;first | omega | (simp;omega)) _))).mono ?_;rintro e w1 ⟨rfl,e0⟩;have e0':=e0.symm;clear e0;subst e0';clear H1;go_wp2;go_roundw
    case rel=>exact ⟨k+1,by omega,by omega,by go_num,unhide HN,(by repeat (first | exact unhide HB | refine Below.drew ?_ | refine Below.alloc ?_ (by have:=(unhide HB).size;first | omega | (simp;omega)) _))⟩
    case measure=>simp [intOf];omega
  by_cases t12:tag=12
  case pos=>
   subst t12;have hc:∀W,(binOp .neq 55 (.agg #[.int .i64 12,.string ⟨text.toArray⟩,.int .i64 nn,.int .i64 aa,.int .i64 bb]) (.agg #[.int .i64 12,.string ⟨#[]⟩,.int .i64 0,.int .i64 aa,.int .i64 bb])).run Tryz.prog W=.ok (.bool (!decide ((⟨12,text,nn,aa,bb⟩:Ent)=⟨12,[],0,aa,bb⟩))) W:=fun W=>ent_cmpN W ⟨12,text,nn,aa,bb⟩ ⟨12,[],0,aa,bb⟩
   have hok:okE l ⟨12,text,nn,aa,bb⟩=(decide (tagE l aa=1∧tagE l bb=1)&&decide ((⟨12,text,nn,aa,bb⟩:Ent)=⟨12,[],0,aa,bb⟩)):=rfl;have hbad:=goE_bad hx;rw [hok] at hbad;have hnext:=fun h=>goE_step hx h (by simp)
   rw [hok] at hnext;have H1:=hide (fun W f=>jtag_any W (some ⟨b,o,none⟩) n c l ((unhide HE).below f) aa hf2 hn);have H2:=hide (fun W f=>jtag_any W (some ⟨b,o,none⟩) n c l ((unhide HE).below f) bb hf3 hn);generalize tagE l aa=A1 at *;generalize tagE l bb=B1 at *;generalize (decide ((⟨12,text,nn,aa,bb⟩:Ent)=⟨12,[],0,aa,bb⟩))=D at *;clear hok hE hx hT hF hxT HG hB;generalize (⟨text.toArray⟩:ByteArray)=st at *
   by_cases a1:A1=1
   case neg=>
    rw [decide_eq_false (fun h=>a1 h.1)] at hbad;have a1':(A1==1)=false:=by simpa using a1
    clear H2;have e1:G=false:=by rw [←hG];exact hbad rfl
    subst e1;clear hbad hnext hG;go_wp2
    go_region_law (fail)
    all_goals
     go_wp2_with fail;refine (unhide H1 _ (by repeat (first | exact unhide HB | refine Below.drew ?_ | refine Below.alloc ?_ (by have:=(unhide HB).size;first | omega | (simp;omega)) _))).mono ?_;rintro e w1 ⟨rfl,e0⟩;have e0':=e0.symm;clear e0;subst e0';clear H1;go_wp2;go_ret;exact ⟨rfl,(by repeat (first | exact unhide HB | refine Below.drew ?_ | refine Below.alloc ?_ (by have:=(unhide HB).size;first | omega | (simp;omega)) _))⟩
   subst a1
   by_cases b1:B1=1
   case neg=>
    rw [decide_eq_false (fun h=>b1 h.2)] at hbad;have b1':(B1==1)=false:=by simpa using b1
    have e1:G=false:=by rw [←hG];exact hbad rfl
    subst e1;clear hbad hnext hG;go_wp2
    go_region_law (fail)
    all_goals
     go_wp2_with fail;refine (unhide H1 _ (by repeat (first | exact unhide HB | refine Below.drew ?_ | refine Below.alloc ?_ (by have:=(unhide HB).size;first | omega | (simp;omega)) _))).mono ?_;rintro e w1 ⟨rfl,e0⟩;have e0':=e0.symm;clear e0;subst e0';clear H1;go_wp2_with fail;refine (unhide H2 _ (by repeat (first | exact unhide HB | refine Below.drew ?_ | refine Below.alloc ?_ (by have:=(unhide HB).size;first | omega | (simp;omega)) _))).mono ?_;rintro e w1 ⟨rfl,e0⟩;have e0':=e0.symm;clear e0;subst e0';clear H2;go_wp2;go_ret;exact ⟨rfl,(by repeat (first | exact unhide HB | refine Below.drew ?_ | refine Below.alloc ?_ (by have:=(unhide HB).size;first | omega | (simp;omega)) _))⟩
   subst b1;rw [decide_eq_true ⟨rfl,rfl⟩] at hbad hnext;cases D
   case false=>
    have e1:G=false:=by rw [←hG];exact hbad rfl
    subst e1;clear hbad hnext hG;go_wp2
    go_region_law (fail)
    all_goals
     go_wp2_with fail;refine (unhide H1 _ (by repeat (first | exact unhide HB | refine Below.drew ?_ | refine Below.alloc ?_ (by have:=(unhide HB).size;first | omega | (simp;omega)) _))).mono ?_;rintro e w1 ⟨rfl,e0⟩;have e0':=e0.symm;clear e0;subst e0';clear H1;go_wp2_with fail;refine (unhide H2 _ (by repeat (first | exact unhide HB | refine Below.drew ?_ | refine Below.alloc ?_ (by have:=(unhide HB).size;first | omega | (simp;omega)) _))).mono ?_;rintro e w1 ⟨rfl,e0⟩;have e0':=e0.symm;clear e0;subst e0';clear H2;go_wp2;go_ret;exact ⟨rfl,(by repeat (first | exact unhide HB | refine Below.drew ?_ | refine Below.alloc ?_ (by have:=(unhide HB).size;first | omega | (simp;omega)) _))⟩
   case true=>
    have HN:Hid (goE l (l.drop (k+1))=G):=by
     show _=G;rw [←hG];exact (hnext rfl).symm
    clear hbad hnext hG;go_wp2
    go_region_law (fail)
    all_goals
     go_wp2_with fail;refine (unhide H1 _ (by repeat (first | exact unhide HB | refine Below.drew ?_ | refine Below.alloc ?_ (by have:=(unhide HB).size;first | omega | (simp;omega)) _))).mono ?_;rintro e w1 ⟨rfl,e0⟩;have e0':=e0.symm;clear e0;subst e0';clear H1;go_wp2_with fail;refine (unhide H2 _ (by repeat (first | exact unhide HB | refine Below.drew ?_ | refine Below.alloc ?_ (by have:=(unhide HB).size;first | omega | (simp;omega)) _))).mono ?_;rintro e w1 ⟨rfl,e0⟩;have e0':=e0.symm;clear e0;subst e0';clear H2;go_wp2;go_roundw
     case rel=>exact ⟨k+1,by omega,by omega,by go_num,unhide HN,(by repeat (first | exact unhide HB | refine Below.drew ?_ | refine Below.alloc ?_ (by have:=(unhide HB).size;first | omega | (simp;omega)) _))⟩
     case measure=>simp [intOf];omega
  by_cases t9:tag=9
  case pos=>
   subst t9;have hc:∀W,(binOp .neq 55 (.agg #[.int .i64 9,.string ⟨text.toArray⟩,.int .i64 nn,.int .i64 aa,.int .i64 bb]) (.agg #[.int .i64 9,.string ⟨#[]⟩,.int .i64 0,.int .i64 aa,.int .i64 bb])).run Tryz.prog W=.ok (.bool (!decide ((⟨9,text,nn,aa,bb⟩:Ent)=⟨9,[],0,aa,bb⟩))) W:=fun W=>ent_cmpN W ⟨9,text,nn,aa,bb⟩ ⟨9,[],0,aa,bb⟩
   have hok:okE l ⟨9,text,nn,aa,bb⟩=(decide (tagE l aa=7∧tagE l bb=12)&&decide ((⟨9,text,nn,aa,bb⟩:Ent)=⟨9,[],0,aa,bb⟩)):=rfl;have hbad:=goE_bad hx;rw [hok] at hbad;have hnext:=fun h=>goE_step hx h (by simp)
   rw [hok] at hnext;have H1:=hide (fun W f=>jtag_any W (some ⟨b,o,none⟩) n c l ((unhide HE).below f) aa hf2 hn);have H2:=hide (fun W f=>jtag_any W (some ⟨b,o,none⟩) n c l ((unhide HE).below f) bb hf3 hn);generalize tagE l aa=A1 at *;generalize tagE l bb=B1 at *;generalize (decide ((⟨9,text,nn,aa,bb⟩:Ent)=⟨9,[],0,aa,bb⟩))=D at *;clear hok hE hx hT hF hxT HG hB;generalize (⟨text.toArray⟩:ByteArray)=st at *
   by_cases a1:A1=7
   case neg=>
    rw [decide_eq_false (fun h=>a1 h.1)] at hbad;have a1':(A1==7)=false:=by simpa using a1
    clear H2;have e1:G=false:=by rw [←hG];exact hbad rfl
    subst e1;clear hbad hnext hG;go_wp2
    go_region_law (fail)
    all_goals
     go_wp2_with fail;refine (unhide H1 _ (by repeat (first | exact unhide HB | refine Below.drew ?_ | refine Below.alloc ?_ (by have:=(unhide HB).size;first | omega | (simp;omega)) _))).mono ?_;rintro e w1 ⟨rfl,e0⟩;have e0':=e0.symm;clear e0;subst e0';clear H1;go_wp2;go_ret;exact ⟨rfl,(by repeat (first | exact unhide HB | refine Below.drew ?_ | refine Below.alloc ?_ (by have:=(unhide HB).size;first | omega | (simp;omega)) _))⟩
   subst a1
   by_cases b1:B1=12
   case neg=>
    rw [decide_eq_false (fun h=>b1 h.2)] at hbad;have b1':(B1==12)=false:=by simpa using b1
    have e1:G=false:=by rw [←hG];exact hbad rfl
    subst e1;clear hbad hnext hG;go_wp2
    go_region_law (fail)
    all_goals
     go_wp2_with fail;refine (unhide H1 _ (by repeat (first | exact unhide HB | refine Below.drew ?_ | refine Below.alloc ?_ (by have:=(unhide HB).size;first | omega | (simp;omega)) _))).mono ?_;rintro e w1 ⟨rfl,e0⟩;have e0':=e0.symm;clear e0;subst e0';clear H1;go_wp2_with fail;refine (unhide H2 _ (by repeat (first | exact unhide HB | refine Below.drew ?_ | refine Below.alloc ?_ (by have:=(unhide HB).size;first | omega | (simp;omega)) _))).mono ?_;rintro e w1 ⟨rfl,e0⟩;have e0':=e0.symm;clear e0;subst e0';clear H2;go_wp2;go_ret;exact ⟨rfl,(by repeat (first | exact unhide HB | refine Below.drew ?_ | refine Below.alloc ?_ (by have:=(unhide HB).size;first | omega | (simp;omega)) _))⟩
   subst b1;rw [decide_eq_true ⟨rfl,rfl⟩] at hbad hnext;cases D
   case false=>
    have e1:G=false:=by rw [←hG];exact hbad rfl
    subst e1;clear hbad hnext hG;go_wp2
    go_region_law (fail)
    all_goals
     go_wp2_with fail;refine (unhide H1 _ (by repeat (first | exact unhide HB | refine Below.drew ?_ | refine Below.alloc ?_ (by have:=(unhide HB).size;first | omega | (simp;omega)) _))).mono ?_;rintro e w1 ⟨rfl,e0⟩;have e0':=e0.symm;clear e0;subst e0';clear H1;go_wp2_with fail;refine (unhide H2 _ (by repeat (first | exact unhide HB | refine Below.drew ?_ | refine Below.alloc ?_ (by have:=(unhide HB).size;first | omega | (simp;omega)) _))).mono ?_;rintro e w1 ⟨rfl,e0⟩;have e0':=e0.symm;clear e0;subst e0';clear H2;go_wp2;go_ret;exact ⟨rfl,(by repeat (first | exact unhide HB | refine Below.drew ?_ | refine Below.alloc ?_ (by have:=(unhide HB).size;first | omega | (simp;omega)) _))⟩
   case true=>
    have HN:Hid (goE l (l.drop (k+1))=G):=by
     show _=G;rw [←hG];exact (hnext rfl).symm
    clear hbad hnext hG;go_wp2
    go_region_law (fail)
    all_goals
     go_wp2_with fail;refine (unhide H1 _ (by repeat (first | exact unhide HB | refine Below.drew ?_ | refine Below.alloc ?_ (by have:=(unhide HB).size;first | omega | (simp;omega)) _))).mono ?_;rintro e w1 ⟨rfl,e0⟩;have e0':=e0.symm;clear e0;subst e0';clear H1;go_wp2_with fail;refine (unhide H2 _ (by repeat (first | exact unhide HB | refine Below.drew ?_ | refine Below.alloc ?_ (by have:=(unhide HB).size;first | omega | (simp;omega)) _))).mono ?_;rintro e w1 ⟨rfl,e0⟩;have e0':=e0.symm;clear e0;subst e0';clear H2;go_wp2;go_roundw
     case rel=>exact ⟨k+1,by omega,by omega,by go_num,unhide HN,(by repeat (first | exact unhide HB | refine Below.drew ?_ | refine Below.alloc ?_ (by have:=(unhide HB).size;first | omega | (simp;omega)) _))⟩
     case measure=>simp [intOf];omega
  by_cases t10:tag=10
  case pos=>
   subst t10;have hc:∀W,(binOp .neq 55 (.agg #[.int .i64 10,.string ⟨text.toArray⟩,.int .i64 nn,.int .i64 aa,.int .i64 bb]) (.agg #[.int .i64 10,.string ⟨#[]⟩,.int .i64 0,.int .i64 aa,.int .i64 bb])).run Tryz.prog W=.ok (.bool (!decide ((⟨10,text,nn,aa,bb⟩:Ent)=⟨10,[],0,aa,bb⟩))) W:=fun W=>ent_cmpN W ⟨10,text,nn,aa,bb⟩ ⟨10,[],0,aa,bb⟩
   have hok:okE l ⟨10,text,nn,aa,bb⟩=(decide (tagE l aa=7∧tagE l bb=12)&&decide ((⟨10,text,nn,aa,bb⟩:Ent)=⟨10,[],0,aa,bb⟩)):=rfl;have hbad:=goE_bad hx;rw [hok] at hbad;have hnext:=fun h=>goE_step hx h (by simp)
   rw [hok] at hnext;have H1:=hide (fun W f=>jtag_any W (some ⟨b,o,none⟩) n c l ((unhide HE).below f) aa hf2 hn);have H2:=hide (fun W f=>jtag_any W (some ⟨b,o,none⟩) n c l ((unhide HE).below f) bb hf3 hn);generalize tagE l aa=A1 at *;generalize tagE l bb=B1 at *;generalize (decide ((⟨10,text,nn,aa,bb⟩:Ent)=⟨10,[],0,aa,bb⟩))=D at *;clear hok hE hx hT hF hxT HG hB;generalize (⟨text.toArray⟩:ByteArray)=st at *
   by_cases a1:A1=7
   case neg=>
    rw [decide_eq_false (fun h=>a1 h.1)] at hbad;have a1':(A1==7)=false:=by simpa using a1
    clear H2;have e1:G=false:=by rw [←hG];exact hbad rfl
    subst e1;clear hbad hnext hG;go_wp2
    go_region_law (fail)
    all_goals
     go_wp2_with fail;refine (unhide H1 _ (by repeat (first | exact unhide HB | refine Below.drew ?_ | refine Below.alloc ?_ (by have:=(unhide HB).size;first | omega | (simp;omega)) _))).mono ?_;rintro e w1 ⟨rfl,e0⟩;have e0':=e0.symm;clear e0;subst e0';clear H1;go_wp2;go_ret;exact ⟨rfl,(by repeat (first | exact unhide HB | refine Below.drew ?_ | refine Below.alloc ?_ (by have:=(unhide HB).size;first | omega | (simp;omega)) _))⟩
   subst a1
   by_cases b1:B1=12
   case neg=>
    rw [decide_eq_false (fun h=>b1 h.2)] at hbad;have b1':(B1==12)=false:=by simpa using b1
    have e1:G=false:=by rw [←hG];exact hbad rfl
    subst e1;clear hbad hnext hG;go_wp2
    go_region_law (fail)
    all_goals
     go_wp2_with fail;refine (unhide H1 _ (by repeat (first | exact unhide HB | refine Below.drew ?_ | refine Below.alloc ?_ (by have:=(unhide HB).size;first | omega | (simp;omega)) _))).mono ?_;rintro e w1 ⟨rfl,e0⟩;have e0':=e0.symm;clear e0;subst e0';clear H1;go_wp2_with fail;refine (unhide H2 _ (by repeat (first | exact unhide HB | refine Below.drew ?_ | refine Below.alloc ?_ (by have:=(unhide HB).size;first | omega | (simp;omega)) _))).mono ?_;rintro e w1 ⟨rfl,e0⟩;have e0':=e0.symm;clear e0;subst e0';clear H2;go_wp2;go_ret;exact ⟨rfl,(by repeat (first | exact unhide HB | refine Below.drew ?_ | refine Below.alloc ?_ (by have:=(unhide HB).size;first | omega | (simp;omega)) _))⟩
   subst b1;rw [decide_eq_true ⟨rfl,rfl⟩] at hbad hnext;cases D
   case false=>
    have e1:G=false:=by rw [←hG];exact hbad rfl
    subst e1;clear hbad hnext hG;go_wp2
    go_region_law (fail)
    all_goals
     go_wp2_with fail;refine (unhide H1 _ (by repeat (first | exact unhide HB | refine Below.drew ?_ | refine Below.alloc ?_ (by have:=(unhide HB).size;first | omega | (simp;omega)) _))).mono ?_;rintro e w1 ⟨rfl,e0⟩;have e0':=e0.symm;clear e0;subst e0';clear H1;go_wp2_with fail;refine (unhide H2 _ (by repeat (first | exact unhide HB | refine Below.drew ?_ | refine Below.alloc ?_ (by have:=(unhide HB).size;first | omega | (simp;omega)) _))).mono ?_;rintro e w1 ⟨rfl,e0⟩;have e0':=e0.symm;clear e0;subst e0';clear H2;go_wp2;go_ret;exact ⟨rfl,(by repeat (first | exact unhide HB | refine Below.drew ?_ | refine Below.alloc ?_ (by have:=(unhide HB).size;first | omega | (simp;omega)) _))⟩
   case true=>
    have HN:Hid (goE l (l.drop (k+1))=G):=by
     show _=G;rw [←hG];exact (hnext rfl).symm
    clear hbad hnext hG;go_wp2
    go_region_law (fail)
    all_goals
     go_wp2_with fail;refine (unhide H1 _ (by repeat (first | exact unhide HB | refine Below.drew ?_ | refine Below.alloc ?_ (by have:=(unhide HB).size;first | omega | (simp;omega)) _))).mono ?_;rintro e w1 ⟨rfl,e0⟩;have e0':=e0.symm;clear e0;subst e0';clear H1;go_wp2_with fail;refine (unhide H2 _ (by repeat (first | exact unhide HB | refine Below.drew ?_ | refine Below.alloc ?_ (by have:=(unhide HB).size;first | omega | (simp;omega)) _))).mono ?_;rintro e w1 ⟨rfl,e0⟩;have e0':=e0.symm;clear e0;subst e0';clear H2;go_wp2;go_roundw
     case rel=>exact ⟨k+1,by omega,by omega,by go_num,unhide HN,(by repeat (first | exact unhide HB | refine Below.drew ?_ | refine Below.alloc ?_ (by have:=(unhide HB).size;first | omega | (simp;omega)) _))⟩
     case measure=>simp [intOf];omega
  have hbad:=goE_bad hx (by
   unfold okE;simp [t1,t3,t5,t7,t12,t9,t10])
  have e1:G=false:=by rw [←hG];exact hbad
  subst e1;have b1:(tag==1)=false:=by simpa using t1
  have b3:(tag==3)=false:=by simpa using t3
  have b5:(tag==5)=false:=by simpa using t5
  have b7:(tag==7)=false:=by simpa using t7
  have b12:(tag==12)=false:=by simpa using t12
  have b9:(tag==9)=false:=by simpa using t9
  have b10:(tag==10)=false:=by simpa using t10
  clear hbad hG hE hx hT hF hxT HG hB HE t1 t3 t5 t7 t12 t9 t10;generalize (⟨text.toArray⟩:ByteArray)=st at *;go_wp2;go_ret;exact ⟨rfl,(by repeat (first | exact unhide HB | refine Below.drew ?_ | refine Below.alloc ?_ (by have:=(unhide HB).size;first | omega | (simp;omega)) _))⟩
end Go.Proofs.YtlabllgifkklhaaGreatDoor
