/- Joined: PlD PlE PlX0 BsB PlM. -/
import Derived.Test.YtlabllgifkklhaaGreatDoorJP0
import Derived.Laws.BitsAllLaws
set_option linter.unusedVariables false
set_option maxRecDepth 100000
namespace Go.Proofs.YtlabllgifkklhaaGreatDoor
open Go.RowKit
theorem getW_pos {b:List UInt8} {i:Nat} {k:Int}:0≤(getW b i k false).1:=by
 unfold getW;split
 · split
   · exact Int.le_refl _
   · cases hv:valW ((b.drop i).take k.toNat) false with
     | none=>exact Int.le_refl _
     | some n=>
      show 0≤n;unfold valW at hv;split at hv
      · rw [if_neg (by decide)] at hv
        split at hv
        · injection hv with hv;omega
        · cases hv
      · rw [if_neg (by simp)] at hv
        injection hv with hv
        omega
 · exact Int.le_refl _
theorem getW1_le {b:List UInt8} {i:Nat}:(getW b i 1 false).1≤255:=by
 unfold getW;rw [if_pos (by unfold wide;omega)];split
 · show (0:Int)≤255
   omega
 · have hl:=numB_lt ((b.drop i).take (1:Int).toNat)
   rename_i hs;have hle:((b.drop i).take (1:Int).toNat).length=1:=by rw [List.length_take,List.length_drop];omega
   unfold valW;rw [hle] at hl ⊢;rw [if_neg (by decide),if_neg (by simp)];show ((numB _:Nat):Int)≤255;omega
def rightL (l:List Ent):Prop:=l[0]?=some ent0∧goE l (l.drop 1)=true
theorem checkP_right {l:List Ent}:checkP l=true↔(1≤l.length∧l.length≤1024)∧rightL l:=checkP_iff
theorem atE_nat (l:List Ent) (i:Nat):atE l (i:Int)=l[i]?.getD ent0:=by
 unfold atE;rw [if_pos (by omega),Int.toNat_natCast]
theorem atE_in {l:List Ent} {i:Int} (h:(atE l i).tag≠0):∃j:Nat,i=j∧j<l.length∧l[j]?=some (atE l i):=by
 obtain ⟨h1,h2⟩:=tagE_in (l:=l) (i:=i) h;obtain ⟨j,rfl⟩:∃j:Nat,i=j:=⟨i.toNat,by omega⟩;have hj:j<l.length:=by omega
 refine ⟨j,rfl,hj,?_⟩;rw [atE_nat,List.getElem?_eq_getElem hj];rfl
theorem atE_left {l:List Ent} (e:List Ent) {j:Nat} (h:j<l.length):atE (l++e) (j:Int)=atE l (j:Int):=by rw [atE_nat,atE_nat,List.getElem?_append_left h]
theorem atE_keep {l:List Ent} (e:List Ent) {i:Int} (h:(atE l i).tag≠0):atE (l++e) i=atE l i:=by
 obtain ⟨j,rfl,hj,_⟩:=atE_in h;exact atE_left e hj
theorem tagE_keep {l:List Ent} (e:List Ent) {i t:Int} (h:tagE l i=t) (h0:t≠0):tagE (l++e) i=t:=by
 unfold tagE at h ⊢;rw [atE_keep e (by rw [h];exact h0),h]
theorem okE_keep {l:List Ent} (e:List Ent) {x:Ent} (h:okE l x=true):okE (l++e) x=true:=by
 rcases okE_tag h with t | t | t | t | t | t | t <;> unfold okE at h ⊢ <;> simp [t] at h ⊢
 · exact h
 · exact h
 · exact h
 · exact ⟨tagE_keep e h.1 (by decide),h.2⟩
 · exact ⟨⟨tagE_keep e h.1.1 (by decide),tagE_keep e h.1.2 (by decide)⟩,h.2⟩
 · exact ⟨⟨tagE_keep e h.1.1 (by decide),tagE_keep e h.1.2 (by decide)⟩,h.2⟩
 · exact ⟨⟨tagE_keep e h.1.1 (by decide),tagE_keep e h.1.2 (by decide)⟩,h.2⟩
theorem goE_keep {l:List Ent} (e:List Ent):∀s,goE l s=true→goE (l++e) s=true
 | [],_=>rfl
 | [x],h=>by
  simp only [goE,Bool.and_eq_true,decide_eq_true_eq] at h ⊢;exact ⟨okE_keep e h.1,h.2⟩
 | x::z::s,h=>by
  simp only [goE,Bool.and_eq_true] at h ⊢;refine ⟨okE_keep e h.1,?_⟩;have h2:=h.2;split
  · rename_i h5
    rw [if_pos h5,Bool.and_eq_true] at h2;rw [Bool.and_eq_true];exact ⟨h2.1,goE_keep e s h2.2⟩
  · rename_i h5
    rw [if_neg h5] at h2;exact goE_keep e (z::s) h2
theorem goE_mem {l:List Ent}:∀s,goE l s=true→∀x∈s,x.tag≠0→okE l x=true
 | [],_,x,hx,_=>by simp at hx
 | [y],h,x,hx,_=>by
  simp only [goE,Bool.and_eq_true] at h;simp at hx;subst hx;exact h.1
 | y::z::s,h,x,hx,ht=>by
  simp only [goE,Bool.and_eq_true] at h;have h2:=h.2
  rcases List.mem_cons.1 hx with rfl | hx
  · exact h.1
  · split at h2
    · rw [Bool.and_eq_true,decide_eq_true_eq] at h2
      rcases List.mem_cons.1 hx with rfl | hx
      · rw [h2.1] at ht
        exact absurd rfl ht
      · exact goE_mem s h2.2 x hx ht
    · exact goE_mem (z::s) h2 x hx ht
theorem goE_append {l:List Ent} (t:List Ent):∀s,goE l s=true→goE l t=true→goE l (s++t)=true
 | [],_,h=>h
 | [x],h,ht=>by
  simp only [goE,Bool.and_eq_true,decide_eq_true_eq] at h;cases t with
  | nil=>simp only [List.append_nil,goE,Bool.and_eq_true,decide_eq_true_eq];exact h
  | cons z t=>
   show goE l (x::z::t)=true;simp only [goE,Bool.and_eq_true];refine ⟨h.1,?_⟩;rw [if_neg h.2];exact ht
 | x::z::s,h,ht=>by
  simp only [goE,Bool.and_eq_true] at h;show goE l (x::z::(s++t))=true;simp only [goE,Bool.and_eq_true];refine ⟨h.1,?_⟩;have h2:=h.2;split
  · rename_i h5
    rw [if_pos h5,Bool.and_eq_true] at h2;rw [Bool.and_eq_true];exact ⟨h2.1,goE_append t s h2.2 ht⟩
  · rename_i h5
    rw [if_neg h5] at h2;exact goE_append t (z::s) h2 ht
theorem right_ok {l:List Ent} (h:rightL l) {i:Int} (ht:(atE l i).tag≠0):okE l (atE l i)=true:=by
 obtain ⟨j,rfl,hj,e⟩:=atE_in ht;cases j with
 | zero=>
  rw [h.1] at e;injection e with e
  rw [←e] at ht;exact absurd rfl ht
 | succ j=>
  refine goE_mem _ h.2 _ ?_ ht;refine List.mem_of_getElem? (i:=j) ?_;rw [List.getElem?_drop,Nat.add_comm];exact e
theorem meanP_keep {l:List Ent} (e:List Ent) (h:rightL l) {j:Nat} (hj:j<l.length):meanP (l++e) (j:Int)=meanP l (j:Int):=by
 unfold meanP;rw [atE_left e hj]
 by_cases h0:(atE l (j:Int)).tag=0
 · simp [h0]
 · have ho:=right_ok h h0
   generalize atE l (j:Int)=x at *
   rcases okE_tag ho with t | t | t | t | t | t | t <;> simp only [t] <;> unfold okE at ho <;> simp [t] at ho ⊢
   · rw [atE_keep e (by have:=ho.1;unfold tagE at this;omega)]
   all_goals
    obtain ⟨⟨h1,h2⟩,_⟩:=ho;unfold tagE at h1 h2;have o1:=right_ok h (i:=x.a) (by omega);have o2:=right_ok h (i:=x.b) (by omega);rw [atE_keep e (i:=x.a) (by omega),atE_keep e (i:=x.b) (by omega)];unfold okE at o1 o2;simp [h1] at o1;simp [h2] at o2;have q1:=o1.1;have q2:=o2.1.1;have q3:=o2.1.2;unfold tagE at q1 q2 q3;rw [atE_keep e (by omega),atE_keep e (by omega),atE_keep e (by omega)];exact ⟨rfl,rfl,rfl⟩
theorem withE_eq (l:List Ent) (x:Ent):withE l x=l++(if x.tag=5 then [x,ent0] else [x]):=by
 unfold withE;split <;> rfl
theorem right_with {l:List Ent} {x:Ent} (h:rightL l) (ho:okE l x=true):rightL (withE l x):=by
 rw [withE_eq];have hl:1≤l.length:=by
  cases l with
  | nil=>have:=h.1;simp at this
  | cons y s=>simp
 refine ⟨?_,?_⟩
 · rw [List.getElem?_append_left (by omega)]
   exact h.1
 · rw [List.drop_append_of_le_length hl]
   refine goE_append _ _ (goE_keep _ _ h.2) ?_;have:=okE_keep (if x.tag=5 then [x,ent0] else [x]) ho;split
   · rename_i h5
     simp only [h5,if_true] at this;simp [goE,this,h5]
   · rename_i h5
     simp only [h5,if_false] at this;simp [goE,this,h5]
theorem first_some {n:Nat} {p:Nat→Bool} {k:Nat} (h:((List.range n).find? fun i=>decide (1≤i)&&p i).getD 0=k) (h0:k≠0):1≤k∧k<n∧p k=true∧∀j,1≤j→j<k→p j=false:=by
 cases hf:(List.range n).find? fun i=>decide (1≤i)&&p i with
 | none=>rw [hf] at h;exact absurd h.symm h0
 | some q=>
  rw [hf] at h;have hq:q=k:=h;subst hq;obtain ⟨h1,xs,ys,h2,h3⟩:=List.find?_eq_some_iff_append.1 hf;rw [Bool.and_eq_true,decide_eq_true_eq] at h1;have hm:q∈List.range n:=by rw [h2];simp
  refine ⟨h1.1,List.mem_range.1 hm,h1.2,fun j hj hjk=>?_⟩;have hjas:j∈xs:=by
   have hjm:j∈List.range n:=List.mem_range.2 (Nat.lt_trans hjk (List.mem_range.1 hm));have hlen:xs.length=q:=by
    have e:(List.range n)[xs.length]?=some q:=by rw [h2,List.getElem?_append_right (Nat.le_refl _),Nat.sub_self];rfl
    have hlt:=(List.getElem?_eq_some_iff.1 e).1;rw [List.length_range] at hlt;rw [List.getElem?_range hlt] at e;injection e
   have e:(List.range n)[j]?=xs[j]?:=by rw [h2,List.getElem?_append_left (by omega)]
   rw [List.getElem?_range (List.mem_range.1 hjm)] at e;exact List.mem_of_getElem? e.symm
  have:=h3 j hjas
  simpa [hj] using this
theorem first_none {n:Nat} {p:Nat→Bool} (h:((List.range n).find? fun i=>decide (1≤i)&&p i).getD 0=0):∀j,1≤j→j<n→p j=false:=by
 intro j hj hjn;cases hf:(List.range n).find? fun i=>decide (1≤i)&&p i with
 | none=>
  have:=List.find?_eq_none.1 hf j (List.mem_range.2 hjn)
  simpa [hj] using this
 | some q=>
  rw [hf] at h;have hq:q=0:=h;subst hq;have:=List.find?_some hf;simp at this
theorem first_eq {n:Nat} {p:Nat→Bool} {k:Nat} (h1:1≤k) (h2:k<n) (h3:p k=true) (h4:∀j,1≤j→j<k→p j=false):((List.range n).find? fun i=>decide (1≤i)&&p i).getD 0=k:=by
 obtain ⟨K,hK⟩:∃K,((List.range n).find? fun i=>decide (1≤i)&&p i).getD 0=K:=⟨_,rfl⟩;rw [hK]
 by_cases h0:K=0
 · subst h0
   have:=first_none hK k h1 h2;rw [h3] at this;cases this
 · obtain ⟨a1,a2,a3,a4⟩:=first_some hK h0
   rcases Nat.lt_trichotomy K k with h | h | h
   · rw [h4 K a1 h] at a3
     cases a3
   · exact h
   · rw [a4 k h1 h] at h3
     cases h3
theorem getW_rng {b:List UInt8} {i:Nat} {k:Int} {sg:Bool}:-9223372036854775808≤(getW b i k sg).1∧(getW b i k sg).1≤9223372036854775807:=by
 unfold getW;split
 · rename_i hw
   split
   · show (-9223372036854775808:Int)≤0∧(0:Int)≤_
     omega
   · cases hv:valW ((b.drop i).take k.toNat) sg with
     | none=>
      show (-9223372036854775808:Int)≤0∧(0:Int)≤_;omega
     | some n=>
      show (-9223372036854775808:Int)≤n∧n≤_;have hlt:=numB_lt ((b.drop i).take k.toNat);have hl:((b.drop i).take k.toNat).length≤k.toNat:=by rw [List.length_take];omega
      unfold valW at hv;split at hv
      · rename_i h8
        rw [h8] at hlt;split at hv
        · injection hv with hv
          split at hv <;> omega
        · split at hv
          · injection hv with hv
            omega
          · cases hv
      · rename_i h8
        have h7:((b.drop i).take k.toNat).length≤7:=by
         obtain ⟨m,rfl,hm⟩:=wide_nat hw;omega
        have hp:=Nat.pow_le_pow_right (n:=256) (by omega) h7;split at hv
        · injection hv with hv
          omega
        · injection hv with hv
          omega
 · show (-9223372036854775808:Int)≤0∧(0:Int)≤_
   omega
theorem entR_fit {bs:List UInt8} {i:Nat} (hn:bs.length≤1000000):EntFit (entR bs i).1∧(entR bs i).1.text.length≤1000000:=by
 have r1:=@getW_rng bs i 1 false;have ht:∀(j:Nat) (k:Int),(takeW bs j k).1.length≤1000000:=fun j k=>by
  unfold takeW;split
  · simp
  · split
    · simp
    · simp only [List.length_take,List.length_drop]
      omega
 have z:(-9223372036854775808:Int)≤0∧(0:Int)≤9223372036854775807:=by omega
 unfold entR;simp only
 repeat' split
 all_goals
  refine ⟨⟨?_,?_,?_,?_⟩,?_⟩
  all_goals first | exact r1 | exact z | exact getW_rng | exact ht _ _ | (simp;done)
theorem entR_le {bs:List UInt8} {i:Nat} (hi:i≤bs.length):(entR bs i).2.2≤bs.length:=by
 have g:∀{j:Nat} {k:Int} {sg:Bool},j≤bs.length→(getW bs j k sg).2.2≤bs.length:=fun h=>getW_le h
 unfold entR;simp only
 repeat' split
 all_goals first | exact g hi | exact g (g hi) | exact takeW_le (g (g hi)) | exact g (g (g hi))
def EntsFit7 (l:List Ent):Prop:=(∀x∈l,x.text.length≤140737488355328)∧∀x∈l,EntFit x
theorem fit0:EntFit ent0:=by
 refine ⟨?_,?_,?_,?_⟩ <;> decide
theorem EntsFit7.more {l:List Ent} {x:Ent} (h:EntsFit7 l) (hx:EntFit x∧x.text.length≤1000000):EntsFit7 (withE l x):=by
 rw [withE_eq];refine ⟨fun y hy=>?_,fun y hy=>?_⟩
 · rcases List.mem_append.1 hy with hy | hy
   · exact h.1 y hy
   · split at hy
     · simp at hy
       rcases hy with rfl | rfl
       · omega
       · decide
     · simp at hy
       subst hy;omega
 · rcases List.mem_append.1 hy with hy | hy
   · exact h.2 y hy
   · split at hy
     · simp at hy
       rcases hy with rfl | rfl
       · exact hx.1
       · exact fit0
     · simp at hy
       subst hy;exact hx.1
theorem gen_below {w w':World} {base n size:Nat} {e:TypeId} {v:Value} {xs:List Value} (h:w.ownsRow base e size v n xs) (f:Below w.heap.size w w'):w'.ownsRow base e size v n xs:=
 own_of_block h (fun k hk=>f.block k (h.lt k hk).2)
def Bs (w:World) (a:Option Addr) (n:Nat) (l:List UInt8):Prop:=l.length=n∧(n=0∨∃b o,a=some ⟨b,o,none⟩∧BytesAt w (some ⟨b,o,none⟩) l)
theorem Bs.below {w w':World} {a:Option Addr} {n:Nat} {l:List UInt8} (h:Bs w a n l) (f:Below w.heap.size w w'):Bs w' a n l:=by
 rcases h with ⟨h1,h2 | ⟨b,o,e,h2⟩⟩
 · exact ⟨h1,.inl h2⟩
 · exact ⟨h1,.inr ⟨b,o,e,h2.below f⟩⟩
theorem Bs.at {w:World} {a:Option Addr} {n:Nat} {l:List UInt8} (h:Bs w a n l):BytesAt w a l:=by
 rcases h with ⟨h1,h2 | ⟨b,o,e,h2⟩⟩
 · have:l=[]:=List.eq_nil_of_length_eq_zero (by omega)
   subst this;exact ⟨fun _=>rfl,fun ad e j u hu=>by simp [bv] at hu⟩
 · rw [e];exact h2
theorem bs_of_own {w:World} {base n c:Nat} {a:Option Addr} {l:List UInt8} (hn:l.length=n) (h:w.ownsRow base 5 1 (.slice a n c) n (bv l)):Bs w a n l:=by
 have hb:=own_bytes h
 rcases h.2 with ⟨e,h0⟩ | ⟨q,cap,cur,e,_⟩
 · exact ⟨hn,.inl (by omega)⟩
 · injection e with e
   subst e;exact ⟨hn,.inr ⟨q,0,rfl,hb⟩⟩
theorem bytes_get {w:World} {b o:Nat} {l:List UInt8} (h:BytesAt w (some ⟨b,o,none⟩) l) {k:Nat} (hk:k<l.length):w.cell? ⟨b,o+k,none⟩=some (.int .u8 (l[k].toNat:Int)):=by
 have:=h.2 _ rfl k (.int .u8 (l[k].toNat:Int)) (by simp [bv,hk])
 simpa [Addr.add_mid] using this
theorem bytes_take {w:World} {a:Option Addr} {l:List UInt8} (h:BytesAt w a l) (k:Nat):BytesAt w a (l.take k):=
 ⟨fun e=>by rw [h.1 e];simp,fun ad e j u hu=>h.2 ad e j u (by
  simp only [bv,List.map_take,List.getElem?_take] at hu ⊢;split at hu
  · exact hu
  · cases hu)⟩
theorem own_cap {w:World} {base n c:Nat} {a:Option Addr} {xs:List Value} (h:w.ownsRow base 5 1 (.slice a n c) n xs):n≤c∧c≤9223372036854775807:=by
 rcases h.2 with ⟨e,h0⟩ | ⟨g,cap,cur,e,_,_,h1,h2,_⟩
 · injection e with _ e2 e3
   subst e3;omega
 · injection e with _ _ ec
   subst ec;unfold maxLen at h2;exact ⟨h1,by omega⟩
structure Arg (w:World) (a:Option Addr) (n cap:Nat) (l:List UInt8):Prop where
 bs:Bs w a n l
 room:n≤cap
 most:cap≤9223372036854775807
 nil:a=none→n=0∧cap=0
theorem SameBytes_same (w:World) (a b:Option Addr) (l:List UInt8) (n c d:Nat) (ha:Bs w a n l) (hb:Bs w b n l) :
 Calls Tryz.prog 11 #[.slice a n c,.slice b n d] w fun e w'=>e=.returned (.bool true)∧w'=w:=by
 refine (SameBytes_n w a b l l n n c d ha.at hb.at ha.1 hb.1).mono ?_;rintro e w' ⟨rfl,rfl⟩;exact ⟨by simp,rfl⟩
theorem Arg.below {w w':World} {a:Option Addr} {n cap:Nat} {l:List UInt8} (h:Arg w a n cap l) (f:Below w.heap.size w w'):Arg w' a n cap l:=⟨h.bs.below f,h.room,h.most,h.nil⟩
theorem arg_of_own {w:World} {base n c:Nat} {a:Option Addr} {l:List UInt8} (hn:l.length=n) (h:w.ownsRow base 5 1 (.slice a n c) n (bv l)):Arg w a n c l:=by
 refine ⟨bs_of_own hn h,(own_cap h).1,(own_cap h).2,fun e=>?_⟩
 rcases h.2 with ⟨e1,h0⟩ | ⟨q,cap,cur,e1,_⟩
 · injection e1 with _ e2 e3
   exact ⟨h0,e3⟩
 · injection e1 with e1
   rw [e] at e1;cases e1
theorem own_base {w:World} {base base' n:Nat} {v:Value} {xs:List Value} (h:w.ownsRow base 5 1 v n xs) (hb:base'≤base):w.ownsRow base' 5 1 v n xs:=
 ⟨h.1,h.2.elim .inl (fun ⟨g,cap,cur,hv,hg,r⟩=>.inr ⟨g,cap,cur,hv,Nat.le_trans hb hg,r⟩)⟩
theorem sub_bs {w:World} {a:Option Addr} {n cap:Nat} {l:List UInt8} (h:Arg w a n cap l) (d k:Nat) (hd:d≤k) (hk:k≤n):Bs w (if cap=d then a else Option.map (fun x=>x.add d) a) (k-d) ((l.take k).drop d):=by
 have hl:=h.bs.1;refine ⟨by simp;omega,?_⟩
 by_cases h0:k-d=0
 · exact .inl h0
 · obtain ⟨b,o,rfl,hb⟩:=h.bs.2.resolve_left (by omega)
   have:=h.room;rw [if_neg (by omega)];refine .inr ⟨b,o+d,by simp [Addr.add_mid],⟨(fun e=>by cases e),fun ad e i u hu=>?_⟩⟩;injection e with e
   subst e;have hu':(bv l)[d+i]?=some u:=by
    simp only [bv,List.map_drop,List.map_take,List.getElem?_drop,List.getElem?_take] at hu ⊢;split at hu
    · exact hu
    · cases hu
   have:=hb.2 _ rfl (d+i) u hu';rw [Addr.add_mid] at this ⊢;rw [Nat.add_assoc];exact this
def ec (x:Ent):List Value:=[.int .i64 x.tag,.string ⟨x.text.toArray⟩,.int .i64 x.n,.int .i64 x.a,.int .i64 x.b]
def ev (l:List Ent):List Value:=l.flatMap ec
theorem ec_len (x:Ent):(ec x).length=5:=rfl
theorem ev_len (l:List Ent):(ev l).length=l.length*5:=by
 induction l with
 | nil=>rfl
 | cons x l ih=>
  have:ev (x::l)=ec x++ev l:=rfl;rw [this,List.length_append,ih,ec_len,List.length_cons];omega
theorem ev_append (a b:List Ent):ev (a++b)=ev a++ev b:=by simp [ev]
theorem ev_one (l:List Ent):∀v∈ev l,v.oneCell'=true:=by
 intro v hv;simp only [ev,ec,List.mem_flatMap,List.mem_cons,List.not_mem_nil,or_false] at hv;obtain ⟨x,_,rfl | rfl | rfl | rfl | rfl⟩:=hv <;> rfl
theorem ev_get {l:List Ent} {k:Nat} {x:Ent} (h:l[k]?=some x) (q:Nat) (hq:q<5):(ev l)[5*k+q]?=(ec x)[q]?:=by
 induction l generalizing k with
 | nil=>simp at h
 | cons y l ih=>
  have e:ev (y::l)=ec y++ev l:=rfl;rw [e];cases k with
  | zero=>
   simp at h;subst h;rw [Nat.mul_zero,Nat.zero_add,List.getElem?_append_left (by rw [ec_len];exact hq)]
  | succ k=>
   rw [List.getElem?_append_right (by rw [ec_len];omega),ec_len,show 5*(k+1)+q-5=5*k+q by omega];exact ih (by simpa using h)
theorem infoE:(Tryz.prog.info? 55).map (fun i=>(i.zero,i.size,i.bytes))=some (some (.agg #[.int .i64 0,.string ⟨#[]⟩,.int .i64 0,.int .i64 0,.int .i64 0]),5,48):=by kernel_rfl
def EntsAt (w:World) (a:Option Addr) (l:List Ent):Prop:=∀ad,a=some ad→∀j u,(ev l)[j]?=some u→w.cell? (ad.add j)=some u
def Es (w:World) (a:Option Addr) (n:Nat) (l:List Ent):Prop:=l.length=n∧(n=0∨∃b o,a=some ⟨b,o,none⟩∧EntsAt w (some ⟨b,o,none⟩) l)
theorem EntsAt.below {w w':World} {a:Option Addr} {l:List Ent} (h:EntsAt w a l) (f:Below w.heap.size w w'):EntsAt w' a l:=fun ad e j u hu=>by
 have h1:=h ad e j u hu;exact (f.cell (World.block_lt_of_cell? w _ h1)).trans h1
theorem Es.below {w w':World} {a:Option Addr} {n:Nat} {l:List Ent} (h:Es w a n l) (f:Below w.heap.size w w'):Es w' a n l:=by
 rcases h with ⟨h1,h2 | ⟨b,o,e,h2⟩⟩
 · exact ⟨h1,.inl h2⟩
 · exact ⟨h1,.inr ⟨b,o,e,h2.below f⟩⟩
theorem ents_get {w:World} {b o:Nat} {l:List Ent} (h:EntsAt w (some ⟨b,o,none⟩) l) {k:Nat} {x:Ent} (hk:l[k]?=some x) :
 w.cell? ⟨b,o+k*5,none⟩=some (.int .i64 x.tag)∧w.cell? ⟨b,o+k*5+1,none⟩=some (.string ⟨x.text.toArray⟩)∧w.cell? ⟨b,o+k*5+2,none⟩=some (.int .i64 x.n)∧w.cell? ⟨b,o+k*5+3,none⟩=some (.int .i64 x.a)∧w.cell? ⟨b,o+k*5+4,none⟩=some (.int .i64 x.b):=by
 have key:∀q u,q<5→(ec x)[q]?=some u→w.cell? ⟨b,o+k*5+q,none⟩=some u:=fun q u hq hu=>by
  have h1:=h _ rfl (5*k+q) u (by rw [ev_get hk q hq];exact hu);rw [Addr.add_mid,show o+(5*k+q)=o+k*5+q by omega] at h1;exact h1
 exact ⟨key 0 _ (by omega) rfl,key 1 _ (by omega) rfl,key 2 _ (by omega) rfl,key 3 _ (by omega) rfl,key 4 _ (by omega) rfl⟩
theorem es_of_own {w:World} {base n:Nat} {a:Option Addr} {c:Nat} {l:List Ent} (h:w.ownsRow base 55 5 (.slice a n c) n (ev l)):Es w a n l:=by
 have hl:=h.1;rw [ev_len] at hl;have hl':l.length=n:=by omega
 rcases h.2 with ⟨e,h0⟩ | ⟨q,cap,cur,e,_⟩
 · exact ⟨hl',.inl h0⟩
 · injection e with e
   subst e;exact ⟨hl',.inr ⟨q,0,rfl,fun ad e=>by injection e with e;subst e;exact h.cells (g:=q) rfl⟩⟩
structure EArg (w:World) (a:Option Addr) (n cap:Nat) (l:List Ent):Prop where
 es:Es w a n l
 room:n≤cap
 most:cap≤9223372036854775807
 nil:a=none→n=0∧cap=0
theorem EArg.below {w w':World} {a:Option Addr} {n cap:Nat} {l:List Ent} (h:EArg w a n cap l) (f:Below w.heap.size w w'):EArg w' a n cap l:=⟨h.es.below f,h.room,h.most,h.nil⟩
theorem own_capE {w:World} {base n c:Nat} {a:Option Addr} {xs:List Value} {e:TypeId} (h:w.ownsRow base e 5 (.slice a n c) n xs):n≤c∧c≤9223372036854775807:=by
 rcases h.2 with ⟨e,h0⟩ | ⟨q,cap,cur,e,_,_,h1,h2,_⟩
 · injection e with _ _ e
   omega
 · injection e with _ _ e
   subst e;unfold maxLen at h2;exact ⟨h1,h2⟩
theorem earg_of_own {w:World} {base n c:Nat} {a:Option Addr} {l:List Ent} (h:w.ownsRow base 55 5 (.slice a n c) n (ev l)):EArg w a n c l:=by
 refine ⟨es_of_own h,(own_capE h).1,(own_capE h).2,fun e=>?_⟩
 rcases h.2 with ⟨e1,h0⟩ | ⟨q,cap,cur,e1,_⟩
 · injection e1 with _ e2 e3
   exact ⟨h0,e3⟩
 · injection e1 with e1
   rw [e] at e1;cases e1
theorem jtag_any (w:World) (a:Option Addr) (n c:Nat) (l:List Ent) (h:Es w a n l) (i:Int) (hi:-9223372036854775808≤i∧i≤9223372036854775807) (hn:n≤140737488351232) :
 Calls Tryz.prog 66 #[.slice a n c,.int .i64 i] w fun e w'=>e=.returned (.int .i64 (tagE l i))∧w'=w:=by
 by_cases h0:i<0
 · have e1:tagE l i=0:=by unfold tagE atE;rw [if_neg (by omega)];rfl
   rw [e1];clear e1 h;go_enter Tryz.func66,Tryz.ntmps66;go_wp2;go_ret;exact ⟨rfl,rfl⟩
 · by_cases h1:(n:Int)≤i
   · have e1:tagE l i=0:=by
      unfold tagE atE;rw [if_pos (by omega),List.getElem?_eq_none (by rw [h.1];omega)];rfl
     rw [e1];clear e1 h;go_enter Tryz.func66,Tryz.ntmps66;go_wp2;go_ret;exact ⟨rfl,rfl⟩
   · obtain ⟨k,rfl⟩:∃k:Nat,i=k:=⟨i.toNat,by omega⟩
     obtain ⟨b,o,rfl,hE⟩:=h.2.resolve_left (by omega);obtain ⟨x,hx⟩:∃x,l[k]?=some x:=⟨_,List.getElem?_eq_getElem (by rw [h.1];omega)⟩;obtain ⟨c0,_,_,_,_⟩:=ents_get hE hx;have e1:tagE l (k:Int)=x.tag:=by
      unfold tagE atE;rw [if_pos (by omega),Int.toNat_natCast,hx];rfl
     rw [e1];generalize x.tag=T at *;clear e1 hE hx h;go_enter Tryz.func66,Tryz.ntmps66;go_wp2;go_ret;exact ⟨rfl,rfl⟩
end Go.Proofs.YtlabllgifkklhaaGreatDoor
