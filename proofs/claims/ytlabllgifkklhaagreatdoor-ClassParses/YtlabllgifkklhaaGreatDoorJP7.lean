/- Joined: ClA ClB ClC PlT ClD. -/
import Derived.Test.YtlabllgifkklhaaGreatDoorJP0
import Derived.Test.YtlabllgifkklhaaGreatDoorJP2
import Derived.Test.YtlabllgifkklhaaGreatDoorJP6
import Derived.ChangeMaps5
set_option linter.unusedVariables false
set_option maxRecDepth 100000
set_option maxHeartbeats 1600000
namespace Go.Proofs.YtlabllgifkklhaaGreatDoor
open Go.RowKit
structure Ty where
 kind:Int
 name:List UInt8
deriving DecidableEq
structure Mp where
 at_:Int
 loc:List Ty
 stk:List Ty
structure Hd where
 frm:Int
 to_:Int
 at_:Int
 cls:Int
structure Cd where
 stack:Int
 locals:Int
 bytes:List UInt8
 hs:List Hd
 maps:List Mp
structure Fd where
 acc:Int
 name:List UInt8
 type:List UInt8
structure Md where
 acc:Int
 name:List UInt8
 type:List UInt8
 code:Cd
structure Cl where
 pool:List Ent
 name:List UInt8
 super:List UInt8
 fields:List Fd
 methods:List Md
def sCode:List UInt8:=[67,111,100,101]
def sMaps:List UInt8:=[83,116,97,99,107,77,97,112,84,97,98,108,101]
def utfN (l:List Ent) (s:List UInt8):Nat:=findE l (eUtf s)
def clsN (l:List Ent) (s:List UInt8):Nat:=((List.range l.length).find? fun (i:Nat)=>decide (1≤i)&&decide ((atE l (i:Int)).tag=7∧(atE l (atE l (i:Int)).a).text=s)).getD 0
theorem utfN_some {l:List Ent} {s:List UInt8} (h:utfN l s≠0):1≤utfN l s∧utfN l s<l.length∧atE l (utfN l s:Int)=eUtf s:=by
 obtain ⟨h1,h2,h3⟩:=findE_some h;refine ⟨h1,h2,?_⟩;unfold atE utfN;rw [if_pos (Int.natCast_nonneg _),Int.toNat_natCast,h3];rfl
theorem clsN_some {l:List Ent} {s:List UInt8} (h:clsN l s≠0):1≤clsN l s∧clsN l s<l.length∧(atE l (clsN l s:Int)).tag=7∧(atE l (atE l (clsN l s:Int)).a).text=s:=by
 obtain ⟨h1,h2,h3,_⟩:=first_some (k:=clsN l s) rfl h;simp only [decide_eq_true_eq] at h3;exact ⟨h1,h2,h3⟩
def toldT (loc:Bool):List Ty→List Ty
 | []=>[]
 | [t]=>[t]
 | t::z::r=>if loc=true∧t.kind=2 then t::toldT loc r else t::toldT loc (z::r)
def okT (l:List Ent) (t:Ty):Bool:=decide (t.kind=0∨t.kind=1∨t.kind=2∨t.kind=3∨t.kind=4)&&(if t.kind=4 then decide (clsN l t.name≠0) else decide (t.name=[]))
def goT (l:List Ent) (loc:Bool):List Ty→Bool
 | []=>true
 | [t]=>okT l t&&!(loc&&decide (t.kind=2))
 | t::z::r=>okT l t&&(if loc=true∧t.kind=2 then decide (z=⟨0,[]⟩)&&goT l loc r else goT l loc (z::r))
def rightT (l:List Ent) (loc:Bool) (ts:List Ty):Bool:=decide (ts.length≤64)&&goT l loc ts
def tyB (l:List Ent) (t:Ty):List UInt8:=if t.kind=0 then [0] else if t.kind=1 then [1] else if t.kind=2 then [4] else if t.kind=3 then [5] else 7::bytesW 2 (clsN l t.name)
def typesB (l:List Ent) (loc:Bool) (ts:List Ty):List UInt8:=bytesW 2 (toldT loc ts).length++(toldT loc ts).flatMap (tyB l)
def mapB (l:List Ent) (last:Int) (m:Mp):List UInt8:=255::(bytesW 2 (m.at_-last-1)++(typesB l true m.loc++typesB l false m.stk))
def mpsB (l:List Ent):Int→List Mp→List UInt8
 | _,[]=>[]
 | last,m::r=>mapB l last m++mpsB l m.at_ r
def rightM (l:List Ent):Int→List Mp→Bool
 | _,[]=>true
 | last,m::r=>decide (last<m.at_∧m.at_≤65535)&&rightT l true m.loc&&rightT l false m.stk&&rightM l m.at_ r
def mapsB (l:List Ent) (ms:List Mp):List UInt8:=bytesW 2 ms.length++mpsB l (-1) ms
def hdB (h:Hd):List UInt8:=bytesW 2 h.frm++(bytesW 2 h.to_++(bytesW 2 h.at_++bytesW 2 h.cls))
def in16 (n:Int):Bool:=decide (0≤n∧n≤65535)
def rightH (l:List Ent) (h:Hd):Bool:=decide (h.cls=0∨0<h.cls∧h.cls<l.length∧tagE l h.cls=7)&&in16 h.frm&&in16 h.to_&&in16 h.at_
def tableB (l:List Ent) (ms:List Mp):List UInt8:=if ms=[] then bytesW 2 0 else bytesW 2 1++(bytesW 2 (utfN l sMaps)++(bytesW 4 (mapsB l ms).length++mapsB l ms))
def codeB (l:List Ent) (c:Cd):List UInt8:=bytesW 2 c.stack++(bytesW 2 c.locals++(bytesW 4 c.bytes.length++(c.bytes++(bytesW 2 c.hs.length++(c.hs.flatMap hdB++tableB l c.maps)))))
def rightD (l:List Ent) (c:Cd):Bool:=decide (0≤c.stack∧c.stack≤64∧0≤c.locals∧c.locals≤64∧1≤c.bytes.length∧c.bytes.length≤4096∧c.hs.length≤256∧c.maps.length≤256)&&c.hs.all (rightH l)&&decide (c.maps=[]∨utfN l sMaps≠0)&&rightM l (-1) c.maps
def fieldB (l:List Ent) (f:Fd):List UInt8:=bytesW 2 f.acc++(bytesW 2 (utfN l f.name)++(bytesW 2 (utfN l f.type)++bytesW 2 0))
def rightF (l:List Ent) (f:Fd):Bool:=decide (f.acc=0∨f.acc=8)&&decide (utfN l f.name≠0∧utfN l f.type≠0)
def methodB (l:List Ent) (m:Md):List UInt8:=bytesW 2 m.acc++(bytesW 2 (utfN l m.name)++(bytesW 2 (utfN l m.type)++(bytesW 2 1++(bytesW 2 (utfN l sCode)++(bytesW 4 (codeB l m.code).length++codeB l m.code)))))
def rightMd (l:List Ent) (m:Md):Bool:=decide (m.acc=0∨m.acc=8∨m.acc=32∨m.acc=40)&&decide (utfN l m.name≠0∧utfN l m.type≠0∧utfN l sCode≠0)&&rightD l m.code
def superN (l:List Ent) (s:List UInt8):Nat:=if s=[] then 0 else clsN l s
def headK:List UInt8:=[202,254,186,190,0,0,0,52]
def bodyK (c:Cl):List UInt8:=bytesW 2 33++(bytesW 2 (clsN c.pool c.name)++(bytesW 2 (superN c.pool c.super)++(bytesW 2 0++(bytesW 2 c.fields.length++(c.fields.flatMap (fieldB c.pool)++(bytesW 2 c.methods.length++(c.methods.flatMap (methodB c.pool)++bytesW 2 0)))))))
def bytesK (c:Cl):List UInt8:=headK++(bytesP c.pool++bodyK c)
def rightK (c:Cl):Bool:=checkP c.pool&&decide (c.fields.length≤256∧c.methods.length≤256)&&decide (clsN c.pool c.name≠0∧(c.super=[]∨clsN c.pool c.super≠0))&&c.fields.all (rightF c.pool)&&c.methods.all (rightMd c.pool)
def uR (k:Nat) (s:List UInt8):Option (Int×List UInt8):=if k≤s.length then some ((numB (s.take k):Int),s.drop k) else none
theorem uR_at {k:Nat} {n:Int} (r:List UInt8) (h:fitsW (k:Int) n false) (hk:k≤4):uR k (bytesW (k:Int) n++r)=some (n,r):=by
 have hl:(bytesW (k:Int) n).length=k:=by rw [bytesW_len];simp
 unfold uR;rw [if_pos (by simp [hl]),List.take_left' hl,List.drop_left' hl];have hb:0≤n∧n<((256^k:Nat):Int):=by
  unfold fitsW at h;have h8:¬(k:Int)=8:=by omega
  rw [if_neg h8,if_neg (by decide),Int.toNat_natCast] at h;exact h.2
 have hp:256^k≤256^4:=Nat.pow_le_pow_right (by decide) hk;have e:numB (bytesW (k:Int) n)=n.toNat:=by
  unfold bytesW;rw [Int.toNat_natCast,numB_beK];have:n%18446744073709551616=n:=Int.emod_eq_of_lt hb.1 (by omega);rw [this,Nat.mod_eq_of_lt (by omega)]
 rw [e,Int.toNat_of_nonneg hb.1]
theorem fitsU2 {n:Int} (h:0≤n∧n≤65535):fitsW ((2:Nat):Int) n false:=⟨by decide,by simp;omega⟩
theorem fitsU4 {n:Int} (h:0≤n∧n<4294967296):fitsW ((4:Nat):Int) n false:=⟨by decide,by simp;omega⟩
theorem u2_at {n:Int} (r:List UInt8) (h:0≤n∧n≤65535):uR 2 (bytesW 2 n++r)=some (n,r):=uR_at r (fitsU2 h) (by decide)
theorem u4_at {n:Int} (r:List UInt8) (h:0≤n∧n<4294967296):uR 4 (bytesW 4 n++r)=some (n,r):=uR_at r (fitsU4 h) (by decide)
theorem u4_any (n:Int) (r:List UInt8):∃m,uR 4 (bytesW 4 n++r)=some (m,r):=by
 have hl:(bytesW 4 n).length=4:=by rw [bytesW_len];rfl
 unfold uR;rw [if_pos (by simp [hl]),List.take_left' hl,List.drop_left' hl];exact ⟨_,rfl⟩
theorem u1_at (x:UInt8) (r:List UInt8):uR 1 (x::r)=some ((x.toNat:Int),r):=by
 unfold uR;rw [if_pos (by simp)];simp [numB]
def utfR (l:List Ent) (s:List UInt8):Option (List UInt8×List UInt8):=(uR 2 s).bind fun n=>if tagE l n.1=1 then some ((atE l n.1).text,n.2) else none
def clsR (l:List Ent) (n:Int):Option (List UInt8):=if tagE l n=7 then some (atE l (atE l n).a).text else none
def tyR (l:List Ent) (loc:Bool) (s:List UInt8):Option (List Ty×List UInt8):=(uR 1 s).bind fun k=>
 if k.1=0 then some ([⟨0,[]⟩],k.2) else if k.1=1 then some ([⟨1,[]⟩],k.2)
 else if k.1=4 then some (if loc then [⟨2,[]⟩,⟨0,[]⟩] else [⟨2,[]⟩],k.2)
 else if k.1=5 then some ([⟨3,[]⟩],k.2)
 else if k.1=7 then (uR 2 k.2).bind fun n=>(clsR l n.1).bind fun x=>some ([⟨4,x⟩],n.2)
 else none
def tysR (l:List Ent) (loc:Bool):Nat→List UInt8→Option (List Ty×List UInt8)
 | 0,s=>some ([],s)
 | n+1,s=>(tyR l loc s).bind fun t=>(tysR l loc n t.2).bind fun r=>some (t.1++r.1,r.2)
def typesR (l:List Ent) (loc:Bool) (s:List UInt8):Option (List Ty×List UInt8):=(uR 2 s).bind fun n=>tysR l loc n.1.toNat n.2
theorem utfR_at {l:List Ent} {t:List UInt8} (r:List UInt8) (h:utfN l t≠0) (hl:l.length≤1024):utfR l (bytesW 2 (utfN l t)++r)=some (t,r):=by
 obtain ⟨h1,h2,h3⟩:=utfN_some h;unfold utfR;rw [u2_at r (by omega),Option.bind_some];have ht:tagE l (utfN l t:Int)=1:=by unfold tagE;rw [h3];rfl
 have hx:(atE l (utfN l t:Int)).text=t:=by rw [h3];rfl
 simp only;rw [if_pos ht,hx]
theorem clsR_at {l:List Ent} {t:List UInt8} (h:clsN l t≠0):clsR l (clsN l t)=some t:=by
 obtain ⟨h1,h2,h3,h4⟩:=clsN_some h;unfold clsR tagE;rw [if_pos h3,h4]
theorem tyR_at {l:List Ent} {loc:Bool} {t:Ty} (r:List UInt8) (h:okT l t=true) (hl:l.length≤1024):tyR l loc (tyB l t++r)=some (if loc=true∧t.kind=2 then [t,⟨0,[]⟩] else [t],r):=by
 obtain ⟨k,nm⟩:=t;unfold okT at h;simp only [Bool.and_eq_true,decide_eq_true_eq] at h;obtain ⟨hk,hn⟩:=h;unfold tyR tyB
 rcases hk with rfl | rfl | rfl | rfl | rfl
 all_goals simp at hn
 · subst hn;simp [u1_at]
 · subst hn;simp [u1_at]
 · subst hn;cases loc <;> simp [u1_at]
 · subst hn;simp [u1_at]
 · have hc:=clsN_some hn
   simp only [show ¬((4:Int)=0) by decide,show ¬((4:Int)=1) by decide,show ¬((4:Int)=2) by decide,show ¬((4:Int)=3) by decide,if_false,List.cons_append,u1_at,Option.bind_some,and_false];have e:((7:UInt8).toNat:Int)=7:=rfl;rw [e,if_neg (by decide),if_neg (by decide),if_neg (by decide),if_neg (by decide),if_pos rfl,u2_at r (by omega),Option.bind_some,clsR_at hn,Option.bind_some]
theorem tysR_at {l:List Ent} {loc:Bool} (hl:l.length≤1024):∀(n:Nat) (ts:List Ty) (r:List UInt8),ts.length≤n→goT l loc ts=true→tysR l loc (toldT loc ts).length ((toldT loc ts).flatMap (tyB l)++r)=some (ts,r):=by
 intro n
 induction n with
 | zero=>intro ts r h1 h2;obtain rfl:ts=[]:=List.length_eq_zero_iff.1 (by omega);rfl
 | succ n ih=>
  intro ts r h1 h2
  match ts,h1,h2 with
  | [],_,_=>rfl
  | [t],_,h2=>
   unfold goT at h2;simp only [Bool.and_eq_true,Bool.not_eq_true',Bool.and_eq_false_iff,decide_eq_false_iff_not] at h2;have e:¬(loc=true∧t.kind=2):=fun ⟨a,b⟩=>by rcases h2.2 with h | h;rw [a] at h;cases h;exact h b
   simp only [toldT,List.flatMap_cons,List.flatMap_nil,List.append_nil,List.length_cons,List.length_nil,Nat.zero_add,tysR];rw [tyR_at r h2.1 hl,if_neg e,Option.bind_some,Option.bind_some];rfl
  | t::z::q,h1,h2=>
   unfold goT at h2;rw [Bool.and_eq_true] at h2;unfold toldT
   by_cases e:loc=true∧t.kind=2
   · rw [if_pos e,Bool.and_eq_true,decide_eq_true_eq] at h2
     obtain ⟨h3,rfl,h5⟩:=h2;rw [if_pos e,List.length_cons,List.flatMap_cons,tysR,List.append_assoc,tyR_at _ h3 hl,if_pos e,Option.bind_some,ih q r (by simp at h1;omega) h5,Option.bind_some];rfl
   · rw [if_neg e] at h2
     rw [if_neg e,List.length_cons,List.flatMap_cons,tysR,List.append_assoc,tyR_at _ h2.1 hl,if_neg e,Option.bind_some,ih (z::q) r (by simp at h1 ⊢;omega) h2.2,Option.bind_some];rfl
theorem toldT_le (loc:Bool):∀(n:Nat) (ts:List Ty),ts.length≤n→(toldT loc ts).length≤ts.length:=by
 intro n
 induction n with
 | zero=>intro ts h;obtain rfl:ts=[]:=List.length_eq_zero_iff.1 (by omega);exact Nat.le_refl _
 | succ n ih=>
  intro ts h
  match ts,h with
  | [],_=>exact Nat.le_refl _
  | [t],_=>exact Nat.le_refl _
  | t::z::q,h=>
   unfold toldT;have h1:=ih q (by simp at h;omega);have h2:=ih (z::q) (by simp at h ⊢;omega);split
   · simp only [List.length_cons];omega
   · simp only [List.length_cons] at h2 ⊢;omega
theorem typesR_at {l:List Ent} {loc:Bool} {ts:List Ty} (r:List UInt8) (h:rightT l loc ts=true) (hl:l.length≤1024):typesR l loc (typesB l loc ts++r)=some (ts,r):=by
 unfold rightT at h;rw [Bool.and_eq_true,decide_eq_true_eq] at h;have:=toldT_le loc _ ts (Nat.le_refl _);unfold typesR typesB;rw [List.append_assoc,u2_at _ (by omega),Option.bind_some];simp only [Int.toNat_natCast];exact tysR_at hl _ ts r (Nat.le_refl _) h.2
def mapR (l:List Ent) (last:Int) (s:List UInt8):Option (Mp×List UInt8):=(uR 1 s).bind fun x=>(uR 2 x.2).bind fun a=>(typesR l true a.2).bind fun t=>(typesR l false t.2).bind fun q=>some (⟨last+1+a.1,t.1,q.1⟩,q.2)
def mpsR (l:List Ent):Nat→Int→List UInt8→Option (List Mp×List UInt8)
 | 0,_,s=>some ([],s)
 | n+1,last,s=>(mapR l last s).bind fun m=>(mpsR l n m.1.at_ m.2).bind fun r=>some (m.1::r.1,r.2)
theorem mpsR_at {l:List Ent} (hl:l.length≤1024) (r:List UInt8):∀(ms:List Mp) (last:Int),-1≤last→rightM l last ms=true→mpsR l ms.length last (mpsB l last ms++r)=some (ms,r):=by
 intro ms
 induction ms with
 | nil=>intro last _ _;rfl
 | cons m q ih=>
  intro last h0 h;unfold rightM at h;simp only [Bool.and_eq_true,decide_eq_true_eq] at h;obtain ⟨⟨⟨h1,h2⟩,h3⟩,h4⟩:=h;simp only [List.length_cons,mpsR,mpsB,mapB,mapR,List.cons_append,List.append_assoc];rw [u1_at,Option.bind_some];simp only;rw [u2_at _ (by omega),Option.bind_some];simp only;rw [typesR_at _ h2 hl,Option.bind_some];simp only;rw [typesR_at _ h3 hl,Option.bind_some,Option.bind_some];simp only;rw [show last+1+(m.at_-last-1)=m.at_ by omega,ih m.at_ (by omega) h4,Option.bind_some]
def mapsR (l:List Ent) (s:List UInt8):Option (List Mp×List UInt8):=(uR 2 s).bind fun k=>mpsR l k.1.toNat (-1) k.2
def tableR (l:List Ent) (s:List UInt8):Option (List Mp×List UInt8):=(uR 2 s).bind fun a=>if a.1=0 then some ([],a.2) else (utfR l a.2).bind fun x=>(uR 4 x.2).bind fun y=>mapsR l y.2
theorem tableR_at {l:List Ent} {ms:List Mp} (r:List UInt8) (hl:l.length≤1024) (h1:ms.length≤256) (h2:ms=[]∨utfN l sMaps≠0) (h3:rightM l (-1) ms=true):tableR l (tableB l ms++r)=some (ms,r):=by
 unfold tableR tableB
 by_cases e:ms=[]
 · subst e
   rw [if_pos rfl,u2_at _ (by decide),Option.bind_some];rfl
 · rw [if_neg e,List.append_assoc,u2_at _ (by decide),Option.bind_some]
   simp only [List.append_assoc];rw [if_neg (by decide),utfR_at _ (by rcases h2 with h | h;exact absurd h e;exact h) hl,Option.bind_some];simp only;obtain ⟨m,hm⟩:=u4_any ((mapsB l ms).length:Int) (mapsB l ms++r);rw [hm,Option.bind_some];unfold mapsR mapsB;simp only [List.append_assoc];rw [u2_at _ (by omega),Option.bind_some];simp only [Int.toNat_natCast];exact mpsR_at hl r ms (-1) (by decide) h3
def hdR (s:List UInt8):Option (Hd×List UInt8):=(uR 2 s).bind fun a=>(uR 2 a.2).bind fun b=>(uR 2 b.2).bind fun c=>(uR 2 c.2).bind fun d=>some (⟨a.1,b.1,c.1,d.1⟩,d.2)
def hdsR:Nat→List UInt8→Option (List Hd×List UInt8)
 | 0,s=>some ([],s)
 | n+1,s=>(hdR s).bind fun h=>(hdsR n h.2).bind fun r=>some (h.1::r.1,r.2)
theorem hdsR_at {l:List Ent} (hl:l.length≤1024) (r:List UInt8):∀(hs:List Hd),hs.all (rightH l)=true→hdsR hs.length (hs.flatMap hdB++r)=some (hs,r):=by
 intro hs
 induction hs with
 | nil=>intro _;rfl
 | cons h q ih=>
  intro hh;rw [List.all_cons,Bool.and_eq_true] at hh;obtain ⟨h1,h2⟩:=hh;unfold rightH in16 at h1;simp only [Bool.and_eq_true,decide_eq_true_eq] at h1;obtain ⟨⟨⟨h3,h4⟩,h5⟩,h6⟩:=h1;simp only [List.length_cons,hdsR,List.flatMap_cons,hdB,hdR,List.append_assoc];rw [u2_at _ h4,Option.bind_some];simp only;rw [u2_at _ h5,Option.bind_some];simp only;rw [u2_at _ h6,Option.bind_some];simp only;rw [u2_at _ (by omega),Option.bind_some,Option.bind_some];simp only;rw [ih h2,Option.bind_some]
def takeR (n:Int) (s:List UInt8):Option (List UInt8×List UInt8):=if n.toNat≤s.length then some (s.take n.toNat,s.drop n.toNat) else none
def codeR (l:List Ent) (s:List UInt8):Option (Cd×List UInt8):=(uR 2 s).bind fun a=>(uR 2 a.2).bind fun b=>(uR 4 b.2).bind fun n=>(takeR n.1 n.2).bind fun x=>(uR 2 x.2).bind fun k=>(hdsR k.1.toNat k.2).bind fun h=>(tableR l h.2).bind fun t=>some (⟨a.1,b.1,x.1,h.1,t.1⟩,t.2)
theorem codeR_at {l:List Ent} {c:Cd} (r:List UInt8) (hl:l.length≤1024) (h:rightD l c=true):codeR l (codeB l c++r)=some (c,r):=by
 unfold rightD at h;simp only [Bool.and_eq_true,decide_eq_true_eq] at h;obtain ⟨⟨⟨⟨a1,a2,a3,a4,a5,a6,a7,a8⟩,h2⟩,h3⟩,h4⟩:=h;unfold codeR codeB;simp only [List.append_assoc];rw [u2_at _ (by omega),Option.bind_some];simp only;rw [u2_at _ (by omega),Option.bind_some];simp only;rw [u4_at _ (by omega),Option.bind_some];simp only [takeR,Int.toNat_natCast];rw [if_pos (by simp),List.take_left' rfl,List.drop_left' rfl,Option.bind_some];simp only;rw [u2_at _ (by omega),Option.bind_some];simp only [Int.toNat_natCast];rw [hdsR_at hl _ _ h2,Option.bind_some];simp only;rw [tableR_at r hl a8 h3 h4,Option.bind_some]
def fieldR (l:List Ent) (s:List UInt8):Option (Fd×List UInt8):=(uR 2 s).bind fun a=>(utfR l a.2).bind fun x=>(utfR l x.2).bind fun y=>(uR 2 y.2).bind fun z=>some (⟨a.1,x.1,y.1⟩,z.2)
def fieldsR (l:List Ent):Nat→List UInt8→Option (List Fd×List UInt8)
 | 0,s=>some ([],s)
 | n+1,s=>(fieldR l s).bind fun h=>(fieldsR l n h.2).bind fun r=>some (h.1::r.1,r.2)
theorem fieldsR_at {l:List Ent} (hl:l.length≤1024) (r:List UInt8):∀(fs:List Fd),fs.all (rightF l)=true→fieldsR l fs.length (fs.flatMap (fieldB l)++r)=some (fs,r):=by
 intro fs
 induction fs with
 | nil=>intro _;rfl
 | cons h q ih=>
  intro hh;rw [List.all_cons,Bool.and_eq_true] at hh;obtain ⟨h1,h2⟩:=hh;unfold rightF at h1;simp only [Bool.and_eq_true,decide_eq_true_eq] at h1;obtain ⟨h3,h4,h5⟩:=h1;simp only [List.length_cons,fieldsR,List.flatMap_cons,fieldB,fieldR,List.append_assoc];rw [u2_at _ (by omega),Option.bind_some];simp only;rw [utfR_at _ h4 hl,Option.bind_some];simp only;rw [utfR_at _ h5 hl,Option.bind_some];simp only;rw [u2_at _ (by decide),Option.bind_some,Option.bind_some];simp only;rw [ih h2,Option.bind_some]
def methodR (l:List Ent) (s:List UInt8):Option (Md×List UInt8):=(uR 2 s).bind fun a=>(utfR l a.2).bind fun x=>(utfR l x.2).bind fun y=>(uR 2 y.2).bind fun z=>(utfR l z.2).bind fun t=>(uR 4 t.2).bind fun n=>(codeR l n.2).bind fun c=>some (⟨a.1,x.1,y.1,c.1⟩,c.2)
def methodsR (l:List Ent):Nat→List UInt8→Option (List Md×List UInt8)
 | 0,s=>some ([],s)
 | n+1,s=>(methodR l s).bind fun h=>(methodsR l n h.2).bind fun r=>some (h.1::r.1,r.2)
theorem methodsR_at {l:List Ent} (hl:l.length≤1024) (r:List UInt8):∀(fs:List Md),fs.all (rightMd l)=true→methodsR l fs.length (fs.flatMap (methodB l)++r)=some (fs,r):=by
 intro fs
 induction fs with
 | nil=>intro _;rfl
 | cons h q ih=>
  intro hh;rw [List.all_cons,Bool.and_eq_true] at hh;obtain ⟨h1,h2⟩:=hh;unfold rightMd at h1;simp only [Bool.and_eq_true,decide_eq_true_eq] at h1;obtain ⟨⟨h3,h4,h5,h6⟩,h7⟩:=h1;simp only [List.length_cons,methodsR,List.flatMap_cons,methodB,methodR,List.append_assoc];rw [u2_at _ (by omega),Option.bind_some];simp only;rw [utfR_at _ h4 hl,Option.bind_some];simp only;rw [utfR_at _ h5 hl,Option.bind_some];simp only;rw [u2_at _ (by decide),Option.bind_some];simp only;rw [utfR_at _ h6 hl,Option.bind_some];simp only;obtain ⟨m,hm⟩:=u4_any ((codeB l h.code).length:Int) (codeB l h.code++(q.flatMap (methodB l)++r));rw [hm,Option.bind_some];simp only;rw [codeR_at _ hl h7,Option.bind_some,Option.bind_some];simp only;rw [ih h2,Option.bind_some]
def restR (l:List Ent) (s:List UInt8):Option (Cl×List UInt8):=(uR 2 s).bind fun a=>(uR 2 a.2).bind fun n=>(clsR l n.1).bind fun nm=>(uR 2 n.2).bind fun m=>(if 0<m.1 then clsR l m.1 else some []).bind fun sp=>(uR 2 m.2).bind fun z=>(uR 2 z.2).bind fun k=>(fieldsR l k.1.toNat k.2).bind fun f=>(uR 2 f.2).bind fun j=>(methodsR l j.1.toNat j.2).bind fun ms=>some (⟨l,nm,sp,f.1,ms.1⟩,ms.2)
def readK (bs:List UInt8):Option Cl:=if bs.length<8 then none else if (readP bs 8).2.1≠0 then none else (restR (readP bs 8).1 (bs.drop (readP bs 8).2.2)).map Prod.fst
theorem restR_at {c:Cl} (r:List UInt8) (hl:c.pool.length≤1024) (h:rightK c=true):restR c.pool (bodyK c++r)=some (c,bytesW 2 0++r):=by
 unfold rightK at h;simp only [Bool.and_eq_true,decide_eq_true_eq] at h;obtain ⟨⟨⟨⟨h1,h2,h3⟩,h4,h5⟩,h6⟩,h7⟩:=h;have hc:=clsN_some h4;unfold restR bodyK;simp only [List.append_assoc];rw [u2_at _ (by decide),Option.bind_some];simp only;rw [u2_at _ (by omega),Option.bind_some];simp only;rw [clsR_at h4,Option.bind_some];have hs:(0:Int)≤(superN c.pool c.super:Int)∧(superN c.pool c.super:Int)≤65535:=by
  unfold superN;split
  · decide
  · rename_i e
    have:=clsN_some (show clsN c.pool c.super≠0 by rcases h5 with h | h;exact absurd h e;exact h);omega
 rw [u2_at _ hs,Option.bind_some];simp only;have hsp:(if (0:Int)<(superN c.pool c.super:Int) then clsR c.pool (superN c.pool c.super) else some [])=some c.super:=by
  unfold superN
  by_cases e:c.super=[]
  · rw [if_pos e,if_neg (by decide),e]
  · have e2:clsN c.pool c.super≠0:=by rcases h5 with h | h;exact absurd h e;exact h
    rw [if_neg e,if_pos (by omega),clsR_at e2]
 rw [hsp,Option.bind_some,u2_at _ (by decide),Option.bind_some];simp only;rw [u2_at _ (by omega),Option.bind_some];simp only [Int.toNat_natCast];rw [fieldsR_at hl _ _ h6,Option.bind_some];simp only;rw [u2_at _ (by omega),Option.bind_some];simp only [Int.toNat_natCast];rw [methodsR_at hl _ _ h7,Option.bind_some]
theorem readK_at {c:Cl} (r:List UInt8) (h:rightK c=true) (hf:∀x∈c.pool,EntFit x):readK (bytesK c++r)=some c:=by
 have hp:checkP c.pool=true:=by
  unfold rightK at h;simp only [Bool.and_eq_true] at h;exact h.1.1.1.1
 have hl:c.pool.length≤1024:=by
  unfold checkP at hp;simp only [Bool.and_eq_true,decide_eq_true_eq] at hp;exact hp.1.1.2
 have hr:=readP_at headK (bodyK c++r) hp hf;have e:bytesK c++r=headK++(bytesP c.pool++(bodyK c++r)):=by unfold bytesK;simp only [List.append_assoc]
 unfold readK;rw [e];have h8:headK.length=8:=rfl;rw [h8] at hr;rw [if_neg (by simp only [List.length_append,h8];omega),hr,if_neg (by simp)];have hd:(headK++(bytesP c.pool++(bodyK c++r))).drop (8+(bytesP c.pool).length)=bodyK c++r:=by
  rw [←List.append_assoc];exact List.drop_left' (by simp only [List.length_append,h8])
 simp only;rw [hd,restR_at r hl h];rfl
end Go.Proofs.YtlabllgifkklhaaGreatDoor
namespace Go.Proofs.YtlabllgifkklhaaGreatDoor
open Go.ChangeShapes Go.WideShapes Go.ChangeAt Go.RowKit
structure Sl where
 a:Option Addr
 n:Nat
 c:Nat
def Sl.v (s:Sl):Value:=.slice s.a s.n s.c
def Ls {α:Type} (sz:Nat) (cs:α→List Value) (w:World) (a:Option Addr) (n:Nat) (l:List α):Prop:=
 l.length=n∧(n=0∨∃b o,a=some ⟨b,o,none⟩∧b<w.heap.size∧∀(k:Nat) (x:α),l[k]?=some x→∀(q:Nat) (u:Value),(cs x)[q]?=some u→w.cell? ⟨b,o+k*sz+q,none⟩=some u)
theorem Ls.below {α:Type} {sz:Nat} {cs:α→List Value} {w w':World} {a:Option Addr} {n:Nat} {l:List α} (h:Ls sz cs w a n l) (f:Below w.heap.size w w'):Ls sz cs w' a n l:=by
 rcases h with ⟨h1,h2 | ⟨b,o,e,hb,h2⟩⟩
 · exact ⟨h1,.inl h2⟩
 · exact ⟨h1,.inr ⟨b,o,e,Nat.lt_of_lt_of_le hb f.size,fun k x hx q u hu=>(f.cell hb).trans (h2 k x hx q u hu)⟩⟩
structure LIn {α:Type} (sz by_:Nat) (cs:α→List Value) (ok:α→Prop) (w:World) (s:Sl) (l:List α):Prop where
 ls:Ls sz cs w s.a s.n l
 room:s.n≤s.c
 most:s.c≤9223372036854775807
 nil:s.a=none→s.n=0∧s.c=0
 small:s.n*by_≤140737488351232
 each:∀x∈l,ok x
def fitI (n:Int):Prop:=-9223372036854775808≤n∧n≤9223372036854775807
def fitS (s:List UInt8):Prop:=s.length≤140737488355328
def tyc (t:Ty):List Value:=[.int .i64 t.kind,.string ⟨t.name.toArray⟩]
def TyFit (t:Ty):Prop:=fitI t.kind∧fitS t.name
def hdc (h:Hd):List Value:=[.int .i64 h.frm,.int .i64 h.to_,.int .i64 h.at_,.int .i64 h.cls]
def HdFit (h:Hd):Prop:=fitI h.frm∧fitI h.to_∧fitI h.at_∧fitI h.cls
def fdc (f:Fd):List Value:=[.int .i64 f.acc,.string ⟨f.name.toArray⟩,.string ⟨f.type.toArray⟩]
def FdFit (f:Fd):Prop:=fitI f.acc∧fitS f.name∧fitS f.type
structure MpR where
 m:Mp
 loc:Sl
 stk:Sl
def mpc (r:MpR):List Value:=[.int .i64 r.m.at_,r.loc.v,r.stk.v]
def TysIn (w:World) (s:Sl) (l:List Ty):Prop:=LIn 2 24 tyc TyFit w s l
structure MpIn (w:World) (r:MpR):Prop where
 fit:fitI r.m.at_
 loc:TysIn w r.loc r.m.loc
 stk:TysIn w r.stk r.m.stk
structure MdR where
 m:Md
 bs:Sl
 hs:Sl
 maps:Sl
 mr:List MpR
def mdc (r:MdR):List Value:=[.int .i64 r.m.acc,.string ⟨r.m.name.toArray⟩,.string ⟨r.m.type.toArray⟩,.int .i64 r.m.code.stack,.int .i64 r.m.code.locals,r.bs.v,r.hs.v,r.maps.v]
structure MdIn (w:World) (r:MdR):Prop where
 acc:fitI r.m.acc
 name:fitS r.m.name
 type:fitS r.m.type
 stack:fitI r.m.code.stack
 locals:fitI r.m.code.locals
 bs:Arg w r.bs.a r.bs.n r.bs.c r.m.code.bytes
 few:r.bs.n≤140737488351232
 hs:LIn 4 32 hdc HdFit w r.hs r.m.code.hs
 maps:LIn 3 56 mpc (MpIn w) w r.maps r.mr
 same:r.m.code.maps=r.mr.map MpR.m
structure ClR where
 c:Cl
 pool:Sl
 fields:Sl
 methods:Sl
 mr:List MdR
def ClR.v (r:ClR):Value:=.agg #[r.pool.v,.string ⟨r.c.name.toArray⟩,.string ⟨r.c.super.toArray⟩,r.fields.v,r.methods.v]
structure CIn (w:World) (r:ClR):Prop where
 pool:EIn w r.pool.a r.pool.n r.pool.c r.c.pool
 name:fitS r.c.name
 super:fitS r.c.super
 fields:LIn 3 40 fdc FdFit w r.fields r.c.fields
 methods:LIn 8 128 mdc (MdIn w) w r.methods r.mr
 same:r.c.methods=r.mr.map MdR.m
theorem LIn.mono {α:Type} {sz by_:Nat} {cs:α→List Value} {ok ok':α→Prop} {w w':World} {s:Sl} {l:List α} (h:LIn sz by_ cs ok w s l) (f:Below w.heap.size w w') (g:∀x,ok x→ok' x):LIn sz by_ cs ok' w' s l:=
 ⟨h.ls.below f,h.room,h.most,h.nil,h.small,fun x hx=>g x (h.each x hx)⟩
theorem MpIn.below {w w':World} {r:MpR} (h:MpIn w r) (f:Below w.heap.size w w'):MpIn w' r:=⟨h.fit,h.loc.mono f (fun _ h=>h),h.stk.mono f (fun _ h=>h)⟩
theorem MdIn.below {w w':World} {r:MdR} (h:MdIn w r) (f:Below w.heap.size w w'):MdIn w' r:=
 ⟨h.acc,h.name,h.type,h.stack,h.locals,h.bs.below f,h.few,h.hs.mono f (fun _ h=>h),h.maps.mono f (fun _ h=>h.below f),h.same⟩
theorem CIn.below {w w':World} {r:ClR} (h:CIn w r) (f:Below w.heap.size w w'):CIn w' r:=
 ⟨h.pool.below f,h.name,h.super,h.fields.mono f (fun _ h=>h),h.methods.mono f (fun _ h=>h.below f),h.same⟩
end Go.Proofs.YtlabllgifkklhaaGreatDoor
namespace Go.Proofs.YtlabllgifkklhaaGreatDoor
open Go.ChangeShapes Go.WideShapes Go.ChangeAt Go.RowKit
end Go.Proofs.YtlabllgifkklhaaGreatDoor
namespace Go.Proofs.YtlabllgifkklhaaGreatDoor
open Go.RowKit
theorem SameEntries_same (w:World) (a b:Option Addr) (n c d:Nat) (x:List Ent) (hA:Es w a n x) (hB:Es w b n x) (hs:n≤140737488351232) :
 Calls Tryz.prog 32 #[.slice a n c,.slice b n d] w fun e w'=>e=.returned (.bool true)∧Below w.heap.size w w':=by
 have hln:=hA.1;have HA:=hide hA;have HB:=hide hB;clear hA hB;go_enter Tryz.func32,Tryz.ntmps32;go_wp2
 go_loopw [5] (fun i wr=>∃k:Nat,k≤n∧i=.int .i64 k∧Below w.heap.size w wr) (fun i _=>n-(intOf i).toNat)
 case atStart=>exact ⟨0,by omega,rfl,Below.refl _ _⟩
 case round=>
  obtain ⟨k,hk,rfl,hR⟩:=hrel
  by_cases hlt:k<n
  · have hlt1:(k:Int)<(n:Int):=by omega
    obtain ⟨b1,o1,rfl,h1⟩:=(unhide HA).2.resolve_left (by omega);obtain ⟨b2,o2,rfl,h2⟩:=(unhide HB).2.resolve_left (by omega);obtain ⟨r,hr⟩:∃r,x[k]?=some r:=⟨_,List.getElem?_eq_getElem (by omega)⟩;obtain ⟨c0,c1,c2,c3,c4⟩:=ents_get (h1.below hR) hr;obtain ⟨d0,d1,d2,d3,d4⟩:=ents_get (h2.below hR) hr;generalize r.tag=tg at *;generalize r.n=rn at *;generalize r.a=ra at *;generalize r.b=rb at *;generalize (⟨r.text.toArray⟩:ByteArray)=st at *;have HR:=hide hR;clear h1 h2 hr hR;go_wp2
    go_quiet (fail)
    go_wp2;go_roundw
    case rel=>exact ⟨k+1,by omega,by go_num,below_drewN (unhide HR) _⟩
    case measure=>simp [intOf];omega
  · obtain rfl:k=n:=by omega
    have HR:=hide hR;clear hR;go_wp2;go_ret;exact ⟨rfl,unhide HR⟩
end Go.Proofs.YtlabllgifkklhaaGreatDoor
namespace Go.Proofs.YtlabllgifkklhaaGreatDoor
open Go.RowKit
def RowAt (w:World) (b o:Nat) (vs:List Value):Prop:=∀(q:Nat) (u:Value),vs[q]?=some u→w.cell? ⟨b,o+q,none⟩=some u
theorem RowAt.zero {w:World} {b o:Nat} {v:Value} {vs:List Value} (h:RowAt w b o (v::vs)):w.cell? ⟨b,o,none⟩=some v:=h 0 v rfl
theorem Ls.row {α:Type} {sz:Nat} {cs:α→List Value} {w w':World} {a:Option Addr} {n:Nat} {l:List α} (h:Ls sz cs w a n l) (hn:n≠0):∃b o,a=some ⟨b,o,none⟩∧∀{w':World},Below w.heap.size w w'→∀(k:Nat) (x:α),l[k]?=some x→RowAt w' b (o+k*sz) (cs x):=by
 rcases h.2 with h0 | ⟨b,o,e,hb,hc⟩
 · exact absurd h0 hn
 · exact ⟨b,o,e,fun f k x hx q u hu=>(f.cell hb).trans (hc k x hx q u hu)⟩
theorem SameFields_same (w:World) (s t:Sl) (l:List Fd) (hA:LIn 3 40 fdc FdFit w s l) (hB:LIn 3 40 fdc FdFit w t l) :
 Calls Tryz.prog 33 #[s.v,t.v] w fun e w'=>e=.returned (.bool true)∧Below w.heap.size w w':=by
 obtain ⟨a,n,c⟩:=s;obtain ⟨b,m,d⟩:=t;have hs:=hA.small;have hln:=hA.ls.1;have hlm:=hB.ls.1;simp only at hln hlm hs;obtain rfl:n=m:=by omega
 have hs1:n≤140737488351232:=by omega
 unfold Sl.v;simp only;have HA:=hide hA.ls;have HB:=hide hB.ls;clear hA hB hs;go_enter Tryz.func33,Tryz.ntmps33;go_wp2
 go_loopw [5] (fun i wr=>∃k:Nat,k≤n∧i=.int .i64 k∧Below w.heap.size w wr) (fun i _=>n-(intOf i).toNat)
 case atStart=>exact ⟨0,by omega,rfl,Below.refl _ _⟩
 case round=>
  obtain ⟨k,hk,rfl,hR⟩:=hrel
  by_cases hlt:k<n
  · have hlt1:(k:Int)<(n:Int):=by omega
    obtain ⟨b1,o1,h1a,h1⟩:=Ls.row (unhide HA) (w':=w) (by show n≠0;omega);obtain ⟨b2,o2,h2a,h2⟩:=Ls.row (unhide HB) (w':=w) (by show n≠0;omega);subst h1a h2a;obtain ⟨r,hr⟩:∃r,l[k]?=some r:=⟨_,List.getElem?_eq_getElem (by omega)⟩;have q1:=h1 hR k r hr;have q2:=h2 hR k r hr;have c0:=q1.zero;have c1:=q1 1 _ rfl;have c2:=q1 2 _ rfl;have d0:=q2.zero;have d1:=q2 1 _ rfl;have d2:=q2 2 _ rfl;clear q1 q2;generalize r.acc=ra at *;generalize (⟨r.name.toArray⟩:ByteArray)=s1 at *;generalize (⟨r.type.toArray⟩:ByteArray)=s2 at *;have HR:=hide hR;clear h1 h2 hr hR;go_wp2
    go_quiet (fail)
    go_wp2;go_roundw
    case rel=>exact ⟨k+1,by omega,by go_num,below_drewN (unhide HR) _⟩
    case measure=>simp [intOf];omega
  · obtain rfl:k=n:=by omega
    have HR:=hide hR;clear hR;go_wp2;go_ret;exact ⟨rfl,unhide HR⟩
theorem SameHandlers_same (w:World) (s t:Sl) (l:List Hd) (hA:LIn 4 32 hdc HdFit w s l) (hB:LIn 4 32 hdc HdFit w t l) :
 Calls Tryz.prog 34 #[s.v,t.v] w fun e w'=>e=.returned (.bool true)∧Below w.heap.size w w':=by
 obtain ⟨a,n,c⟩:=s;obtain ⟨b,m,d⟩:=t;have hs:=hA.small;have hln:=hA.ls.1;have hlm:=hB.ls.1;simp only at hln hlm hs;obtain rfl:n=m:=by omega
 have hs1:n≤140737488351232:=by omega
 unfold Sl.v;simp only;have HA:=hide hA.ls;have HB:=hide hB.ls;clear hA hB hs;go_enter Tryz.func34,Tryz.ntmps34;go_wp2
 go_loopw [5] (fun i wr=>∃k:Nat,k≤n∧i=.int .i64 k∧Below w.heap.size w wr) (fun i _=>n-(intOf i).toNat)
 case atStart=>exact ⟨0,by omega,rfl,Below.refl _ _⟩
 case round=>
  obtain ⟨k,hk,rfl,hR⟩:=hrel
  by_cases hlt:k<n
  · have hlt1:(k:Int)<(n:Int):=by omega
    obtain ⟨b1,o1,h1a,h1⟩:=Ls.row (unhide HA) (w':=w) (by show n≠0;omega);obtain ⟨b2,o2,h2a,h2⟩:=Ls.row (unhide HB) (w':=w) (by show n≠0;omega);subst h1a h2a;obtain ⟨r,hr⟩:∃r,l[k]?=some r:=⟨_,List.getElem?_eq_getElem (by omega)⟩;have q1:=h1 hR k r hr;have q2:=h2 hR k r hr;have c0:=q1.zero;have c1:=q1 1 _ rfl;have c2:=q1 2 _ rfl;have c3:=q1 3 _ rfl;have d0:=q2.zero;have d1:=q2 1 _ rfl;have d2:=q2 2 _ rfl;have d3:=q2 3 _ rfl;clear q1 q2;generalize r.frm=r1 at *;generalize r.to_=r2 at *;generalize r.at_=r3 at *;generalize r.cls=r4 at *;have HR:=hide hR;clear h1 h2 hr hR;go_wp2
    go_quiet (fail)
    go_wp2;go_roundw
    case rel=>exact ⟨k+1,by omega,by go_num,below_drewN (unhide HR) _⟩
    case measure=>simp [intOf];omega
  · obtain rfl:k=n:=by omega
    have HR:=hide hR;clear hR;go_wp2;go_ret;exact ⟨rfl,unhide HR⟩
theorem SameTypes_same (w:World) (s t:Sl) (l:List Ty) (hA:LIn 2 24 tyc TyFit w s l) (hB:LIn 2 24 tyc TyFit w t l) :
 Calls Tryz.prog 71 #[s.v,t.v] w fun e w'=>e=.returned (.bool true)∧Below w.heap.size w w':=by
 obtain ⟨a,n,c⟩:=s;obtain ⟨b,m,d⟩:=t;have hs:=hA.small;have hln:=hA.ls.1;have hlm:=hB.ls.1;simp only at hln hlm hs;obtain rfl:n=m:=by omega
 have hs1:n≤140737488351232:=by omega
 unfold Sl.v;simp only;have HA:=hide hA.ls;have HB:=hide hB.ls;clear hA hB hs;go_enter Tryz.func71,Tryz.ntmps71;go_wp2
 go_loopw [5] (fun i wr=>∃k:Nat,k≤n∧i=.int .i64 k∧Below w.heap.size w wr) (fun i _=>n-(intOf i).toNat)
 case atStart=>exact ⟨0,by omega,rfl,Below.refl _ _⟩
 case round=>
  obtain ⟨k,hk,rfl,hR⟩:=hrel
  by_cases hlt:k<n
  · have hlt1:(k:Int)<(n:Int):=by omega
    obtain ⟨b1,o1,h1a,h1⟩:=Ls.row (unhide HA) (w':=w) (by show n≠0;omega);obtain ⟨b2,o2,h2a,h2⟩:=Ls.row (unhide HB) (w':=w) (by show n≠0;omega);subst h1a h2a;obtain ⟨r,hr⟩:∃r,l[k]?=some r:=⟨_,List.getElem?_eq_getElem (by omega)⟩;have q1:=h1 hR k r hr;have q2:=h2 hR k r hr;have c0:=q1.zero;have c1:=q1 1 _ rfl;have d0:=q2.zero;have d1:=q2 1 _ rfl;clear q1 q2;generalize r.kind=ra at *;generalize (⟨r.name.toArray⟩:ByteArray)=s1 at *;have HR:=hide hR;clear h1 h2 hr hR;go_wp2
    go_quiet (fail)
    go_wp2;go_roundw
    case rel=>exact ⟨k+1,by omega,by go_num,below_drewN (unhide HR) _⟩
    case measure=>simp [intOf];omega
  · obtain rfl:k=n:=by omega
    have HR:=hide hR;clear hR;go_wp2;go_ret;exact ⟨rfl,unhide HR⟩
end Go.Proofs.YtlabllgifkklhaaGreatDoor
