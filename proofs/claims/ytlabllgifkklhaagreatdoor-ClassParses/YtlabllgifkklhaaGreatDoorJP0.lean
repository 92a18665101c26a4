/- Joined: BsA WdA PlA PlB PlC. -/
import Derived.Test.YtlabllgifkklhaaGreatDoorProg
import Derived.WalkKit
import Derived.WalkSpells
import Derived.WalkLawsBesides
import Derived.BigQuiet
import Derived.Deep.MidRow
import Derived.Deep.WholeRow
import Derived.Laws.AppendOwnNone
import Derived.Deep.AppendLies
import Derived.Deep.RegionHeldLaw
import Derived.Great.BuildSlice
set_option linter.unusedVariables false
set_option maxRecDepth 100000
set_option maxHeartbeats 400000
namespace Go.Proofs.YtlabllgifkklhaaGreatDoor
open Go.RowKit
theorem hide {p:Prop} (h:p):Hid p:=h
theorem unhide {p:Prop} (h:Hid p):p:=h
theorem cell_alloc {w:World} {a:Addr} {v:Value} (h:w.cell? a=some v) (ob:Obj):(w.alloc ob).cell? a=some v:=by
 rw [World.cell?_alloc_lt _ _ _ (World.block_lt_of_cell? w _ h)];exact h
def bv (l:List UInt8):List Value:=l.map fun b=>Value.int .u8 (b.toNat:Int)
theorem bv_length (l:List UInt8):(bv l).length=l.length:=by simp [bv]
theorem bv_one (l:List UInt8):∀v∈bv l,v.oneCell'=true:=by
 intro v hv;simp only [bv,List.mem_map] at hv;obtain ⟨b,_,rfl⟩:=hv;rfl
theorem bv_append (a b:List UInt8):bv (a++b)=bv a++bv b:=by simp [bv]
theorem lt_of_heap {w:World} {k:Nat} {o:Obj} (h:w.heap[k]?=some o):k<w.heap.size:=(Array.getElem?_eq_some_iff.1 h).1
theorem own_of_block {w w':World} {B:Nat} {e:TypeId} {size n:Nat} {v:Value} {xs:List Value} (h:w.ownsRow B e size v n xs) (hk:∀k,v.ownBlock=some k→w'.heap[k]?=w.heap[k]?):w'.ownsRow B e size v n xs:=by
 refine ⟨h.1,?_⟩
 rcases h.2 with h2 | ⟨q,cap,cur,rfl,hb,hq,r⟩
 · exact .inl h2
 · exact .inr ⟨q,cap,cur,rfl,hb,by rw [hk q rfl];exact hq,r⟩
def among (x:Int) (n:Nat):Nat:=((x%18446744073709551616)%(n:Int)).toNat
def BytesAt (w:World) (a:Option Addr) (l:List UInt8):Prop:=(a=none→l=[])∧∀ad,a=some ad→∀j u,(bv l)[j]?=some u→w.cell? (ad.add j)=some u
theorem foldl_push (l:List UInt8):∀(s:ByteArray),((l.map fun b=>(b.toNat:Int)).foldl (fun r n=>r.push (UInt8.ofNat n.toNat)) s)=⟨s.data++l.toArray⟩:=by
 induction l with
 | nil=>intro s;simp
 | cons x l ih=>
  intro s;simp only [List.map_cons,List.foldl_cons];rw [ih];have:UInt8.ofNat (Int.toNat (x.toNat:Int))=x:=by simp
  rw [this];apply ByteArray.ext;simp [ByteArray.push]
theorem conv_bytes (w:World) (a:Option Addr) (l:List UInt8) (c:Nat) (h:BytesAt w a l):(convert 29 9 (.slice a l.length c)).run Tryz.prog w=.ok (.string ⟨l.toArray⟩) w:=by
 rw [run_convert_bytes_string w 29 9 5 a l.length c Tryz.underlying29 (by kernel_rfl) (by kernel_rfl)];cases a with
 | none=>
  have:=h.1 rfl;subst this;rfl
 | some ad=>
  have hb:bv l=(l.map fun b=>(b.toNat:Int)).map (Value.int .u8):=by simp [bv]
  have hl:=run_loadCells_list (P:=Tryz.prog) w ad (bv l) (h.2 ad rfl);rw [bv_length,hb] at hl;rw [run_bytesToString w ad l.length c (l.map fun b=>(b.toNat:Int)) hl,foldl_push];simp
theorem SameBytes_any (w:World) (a b:Option Addr) (x y:List UInt8) (c d:Nat) (ha:BytesAt w a x) (hb:BytesAt w b y) :
 Calls Tryz.prog 11 #[.slice a x.length c,.slice b y.length d] w fun e w'=>e=.returned (.bool (decide (x=y)))∧w'=w:=by
 have h1:=conv_bytes w a x c ha;have h2:=conv_bytes w b y d hb;clear ha hb;go_enter Tryz.func11,Tryz.ntmps11;go_wp2;go_ret;refine ⟨?_,rfl⟩;show Ending.returned (.bool (x==y))=_;rw [Bool.beq_eq_decide_eq]
theorem SameBytes_n (w:World) (a b:Option Addr) (x y:List UInt8) (n m c d:Nat) (ha:BytesAt w a x) (hb:BytesAt w b y) (hn:x.length=n) (hm:y.length=m) :
 Calls Tryz.prog 11 #[.slice a n c,.slice b m d] w fun e w'=>e=.returned (.bool (decide (x=y)))∧w'=w:=by
 subst hn;subst hm;exact SameBytes_any w a b x y c d ha hb
theorem bytes_of_block {w:World} {q:Nat} {l:List UInt8} {e:TypeId} {f:Nat×Nat} (h:w.heap[q]?=some (.cells (bv l).toArray e f)):BytesAt w (some ⟨q,0,none⟩) l:=
 ⟨(fun h=>by cases h),fun ad e=>by injection e with e;subst e;exact World.news_of_block h⟩
theorem own_form {w:World} {base:Nat} {e:TypeId} {v:Value} {n:Nat} {xs:List Value} (h:w.ownsRow base e 1 v n xs):∃a c,v=.slice a n c∧(0<n→∃q,a=some ⟨q,0,none⟩∧∀j u,xs[j]?=some u→w.cell? ⟨q,j,none⟩=some u):=by
 rcases h.2 with ⟨rfl,rfl⟩ | ⟨q,cap,cur,rfl,_⟩
 · exact ⟨none,0,rfl,fun h=>by omega⟩
 · refine ⟨_,cap,rfl,fun _=>⟨q,rfl,fun j u hu=>?_⟩⟩
   have:=h.cells (g:=q) rfl j u hu;rw [Addr.add_mid,Nat.zero_add] at this;exact this
theorem own_below {w w':World} {base n:Nat} {e:TypeId} {v:Value} {xs:List Value} (h:w.ownsRow base e 1 v n xs) (f:Below w.heap.size w w'):w'.ownsRow base e 1 v n xs:=
 own_of_block h (fun k hk=>f.block k (h.lt k hk).2)
theorem own_bytes {w:World} {base n c:Nat} {a:Option Addr} {l:List UInt8} (h:w.ownsRow base 5 1 (.slice a n c) n (bv l)):BytesAt w a l:=by
 rcases h.2 with ⟨e,h0⟩ | ⟨q,cap,cur,e,_⟩
 · have:=h.1
   rw [bv_length,h0] at this;have e2:l=[]:=List.eq_nil_of_length_eq_zero (by simpa using this);injection e with ea _ _
   subst ea;exact ⟨fun _=>e2,fun ad e3=>by cases e3⟩
 · injection e with ea _ _
   subst ea;refine ⟨(fun e3=>by cases e3),fun ad e3=>?_⟩;injection e3 with e4
   subst e4;exact h.cells (g:=q) rfl
theorem infoB:(Tryz.prog.info? 5).map (fun i=>(i.zero,i.size,i.bytes))=some (some (.int .u8 0),1,1):=by kernel_rfl
theorem Bytes_some (w:World) (ad:Addr) (l:List UInt8) (n c:Nat) (hn:l.length=n) (hs:n≤140737488351232) (h:BytesAt w (some ad) l) :
 Calls Tryz.prog 15 #[.slice (some ad) n c] w fun e w'=>∃v,e=.returned v∧w'.ownsRow w.heap.size 5 1 v n (bv l)∧Below w.heap.size w w':=by
 obtain ⟨i0,hi,hz0,hz1,hz2⟩:=info_parts infoB;have hown:(w.alloc (.cells #[] 5)).ownsRow w.heap.size 5 1 (.slice (some ⟨w.heap.size,0,none⟩) 0 0) 0 []:=World.ownsRow_made w #[] 0 (Nat.le_refl _) (by simp) rfl;have hsrc:=h.2 ad rfl;go_enter Tryz.func15,Tryz.ntmps15
 go_wp2_with (at_builtin;refine wpList_append_own _ rfl (.tmp 3) (.tmp 4) 29 rfl w.heap.size 5 i0 (.int .u8 0) 1 1 Tryz.underlying29 hi hz0 hz1 hz2 rfl (by decide) _ _ _ rfl hown ad n c (bv l) rfl ?c0 ?c1 ?c2 ?c3 ?c4 ?c5 ?_)
 case c0=>rw [bv_length,hn];omega
 case c1=>exact fun j u hu=>cell_alloc (hsrc j u hu) _
 case c2=>exact bv_one _
 case c3=>unfold maxLen;omega
 case c4=>omega
 case c5=>simp
 intro v' w1 hown' hgrow _;have hb:Below w.heap.size w w1:=((Below.refl _ _).alloc (Nat.le_refl _) _).grown hgrow (by simp) (fun k hk=>by simp [Value.ownBlock] at hk;omega);have HO:=hide hown';have HB:=hide hb;clear hown' hgrow hb hown hsrc;go_wp2;go_ret;exact ⟨_,rfl,unhide HO,unhide HB⟩
theorem Bytes_none (w:World) :
 Calls Tryz.prog 15 #[.slice none 0 0] w fun e w'=>∃v,e=.returned v∧w'.ownsRow w.heap.size 5 1 v 0 (bv [])∧Below w.heap.size w w':=by
 obtain ⟨i0,hi,hz0,hz1,hz2⟩:=info_parts infoB;have hown:(w.alloc (.cells #[] 5)).ownsRow w.heap.size 5 1 (.slice (some ⟨w.heap.size,0,none⟩) 0 0) 0 []:=World.ownsRow_made w #[] 0 (Nat.le_refl _) (by simp) rfl;go_enter Tryz.func15,Tryz.ntmps15
 go_wp2_with (at_builtin;refine wpList_append_own_none rfl (.tmp 3) (.tmp 4) 29 rfl w.heap.size 5 i0 1 Tryz.underlying29 hi _ _ _ rfl hown rfl ?_)
 go_ret;exact ⟨_,rfl,hown,(Below.refl _ _).alloc (Nat.le_refl _) _⟩
def BytesOf (w:World) (a:Option Addr) (n c:Nat) (l:List UInt8):Prop:=l.length=n∧n≤c∧c≤9223372036854775807∧((a=none∧n=0∧c=0)∨∃b o,a=some ⟨b,o,none⟩∧BytesAt w (some ⟨b,o,none⟩) l)∨(l.length=n∧n=0∧c≤9223372036854775807∧∃ad,a=some ad)
theorem Bytes_any (w:World) (a:Option Addr) (l:List UInt8) (n c:Nat) (hs:n≤140737488351232) (h:BytesOf w a n c l) :
 Calls Tryz.prog 15 #[.slice a n c] w fun e w'=>∃v,e=.returned v∧w'.ownsRow w.heap.size 5 1 v n (bv l)∧Below w.heap.size w w':=by
 rcases h with ⟨hn,_,_,⟨rfl,rfl,rfl⟩ | ⟨b,o,rfl,h⟩⟩ | ⟨hn,rfl,_,ad,rfl⟩
 · obtain rfl:l=[]:=List.eq_nil_of_length_eq_zero hn
   exact Bytes_none w
 · exact Bytes_some w _ l n c hn hs h
 · obtain rfl:l=[]:=List.eq_nil_of_length_eq_zero hn
   exact Bytes_some w ad [] 0 c rfl hs ⟨(fun e=>by cases e),fun _ _ j u hu=>by simp [bv] at hu⟩
theorem BytesAt.below {w w':World} {a:Option Addr} {l:List UInt8} (h:BytesAt w a l) (hb:Below w.heap.size w w'):BytesAt w' a l:=
 ⟨h.1,fun ad e j u hu=>by
  have h1:=h.2 ad e j u hu;have hlt:=World.block_lt_of_cell? w _ h1;exact (hb.cell hlt).trans h1⟩
theorem BytesOf.at {w:World} {a:Option Addr} {n c:Nat} {l:List UInt8} (h:BytesOf w a n c l):BytesAt w a l:=by
 rcases h with ⟨hn,_,_,⟨rfl,rfl,rfl⟩ | ⟨b,o,rfl,h⟩⟩ | ⟨hn,rfl,_,ad,rfl⟩
 · exact ⟨fun _=>List.eq_nil_of_length_eq_zero hn,fun ad e=>by cases e⟩
 · exact h
 · obtain rfl:l=[]:=List.eq_nil_of_length_eq_zero hn
   exact ⟨fun _=>rfl,fun _ _ j u hu=>by simp [bv] at hu⟩
theorem BytesOf.len {w:World} {a:Option Addr} {n c:Nat} {l:List UInt8} (h:BytesOf w a n c l):l.length=n:=by
 rcases h with h | h
 · exact h.1
 · exact h.1
def numB (l:List UInt8):Nat:=l.foldl (fun a x=>a*256+x.toNat) 0
theorem numB_snoc (l:List UInt8) (x:UInt8):numB (l++[x])=numB l*256+x.toNat:=by
 unfold numB;rw [List.foldl_append];rfl
theorem snoc_ind {P:List UInt8→Prop} (h0:P []) (h1:∀l x,P l→P (l++[x])) (l:List UInt8):P l:=by
 have h:∀l:List UInt8,P l.reverse:=fun l=>by
  induction l with
  | nil=>exact h0
  | cons x l ih=>rw [List.reverse_cons];exact h1 _ _ ih
 have:=h l.reverse
 rwa [List.reverse_reverse] at this
theorem numB_lt (l:List UInt8):numB l<256^l.length:=by
 refine snoc_ind (P:=fun l=>numB l<256^l.length) (by simp [numB]) (fun l x ih=>?_) l
 · rw [numB_snoc,List.length_append,List.length_singleton,Nat.pow_succ]
   have:=x.toNat_lt;omega
def beK:Nat→Nat→List UInt8
 | 0,_=>[]
 | k+1,x=>beK k (x/256)++[UInt8.ofNat x]
theorem beK_len (k:Nat):∀x,(beK k x).length=k:=by
 induction k with
 | zero=>intro x;rfl
 | succ k ih=>intro x;rw [beK,List.length_append,ih,List.length_singleton]
theorem numB_beK (k:Nat):∀x,numB (beK k x)=x%256^k:=by
 induction k with
 | zero=>intro x;rw [beK,Nat.pow_zero,Nat.mod_one];rfl
 | succ k ih=>
  intro x;rw [beK,numB_snoc,ih,Nat.pow_succ,Nat.mul_comm (256^k) 256,Nat.mod_mul];have:(UInt8.ofNat x).toNat=x%256:=by simp
  omega
def wide (k:Int):Prop:=k=1∨k=2∨k=4∨k=8
instance (k:Int):Decidable (wide k):=by unfold wide;infer_instance
def fitsW (k n:Int) (sg:Bool):Prop:=wide k∧(if k=8 then sg=true∨0≤n else if sg=true then -((256^k.toNat:Nat):Int)≤2*n∧2*n<((256^k.toNat:Nat):Int) else 0≤n∧n<((256^k.toNat:Nat):Int))
instance (k n:Int) (sg:Bool):Decidable (fitsW k n sg):=by unfold fitsW;infer_instance
def bytesW (k n:Int):List UInt8:=beK k.toNat (n%18446744073709551616).toNat
theorem bytesW_len (k n:Int):(bytesW k n).length=k.toNat:=beK_len _ _
def valW (l:List UInt8) (sg:Bool):Option Int:=
 if l.length=8 then
  if sg=true then some (if numB l<9223372036854775808 then (numB l:Int) else (numB l:Int)-18446744073709551616)
  else if numB l<9223372036854775808 then some (numB l:Int) else none
 else if sg=true∧256^l.length≤2*numB l then some ((numB l:Int)-((256^l.length:Nat):Int)) else some (numB l:Int)
theorem wide_nat {k:Int} (h:wide k):∃m:Nat,k=m∧(m=1∨m=2∨m=4∨m=8):=by
 rcases h with rfl | rfl | rfl | rfl
 · exact ⟨1,rfl,by simp⟩
 · exact ⟨2,rfl,by simp⟩
 · exact ⟨4,rfl,by simp⟩
 · exact ⟨8,rfl,by simp⟩
theorem val_bytes {k n:Int} {sg:Bool} (h:fitsW k n sg) (hn:-9223372036854775808≤n∧n≤9223372036854775807):valW (bytesW k n) sg=some n:=by
 obtain ⟨hw,hf⟩:=h;unfold valW;rw [bytesW_len];unfold bytesW;rw [numB_beK]
 rcases hw with rfl | rfl | rfl | rfl
 · rw [if_neg (by decide)] at hf
   cases sg with
   | false=>
    simp at hf ⊢;omega
   | true=>
    simp at hf ⊢;split
    · congr 1;omega
    · congr 1;omega
 · rw [if_neg (by decide)] at hf
   cases sg with
   | false=>
    simp at hf ⊢;omega
   | true=>
    simp at hf ⊢;split
    · congr 1;omega
    · congr 1;omega
 · rw [if_neg (by decide)] at hf
   cases sg with
   | false=>
    simp at hf ⊢;omega
   | true=>
    simp at hf ⊢;split
    · congr 1;omega
    · congr 1;omega
 · rw [if_pos rfl] at hf
   cases sg with
   | false=>
    simp at hf ⊢;omega
   | true=>
    simp at hf ⊢;split
    · omega
    · omega
def getW (bs:List UInt8) (i:Nat) (k:Int) (sg:Bool):Int×Int×Nat:=
 if wide k then
  if (bs.length:Int)-i<k then (0,7,i)
  else match valW ((bs.drop i).take k.toNat) sg with
   | none=>(0,3,i)
   | some n=>(n,0,i+k.toNat)
 else (0,2,i)
def takeW (bs:List UInt8) (i:Nat) (n:Int):List UInt8×Int×Nat:=
 if n<0 then ([],2,i) else if (bs.length:Int)-i<n then ([],7,i) else ((bs.drop i).take n.toNat,0,i+n.toNat)
def putW (bs:List UInt8) (k:Int) (sg:Bool) (l:List Int):List UInt8×Int:=
 if wide k∧∀n∈l,fitsW k n sg then (bs++l.flatMap (bytesW k),0) else (bs,2)
def patchW (bs:List UInt8) (at_ k n:Int):List UInt8×Int:=
 if fitsW k n false∧0≤at_∧at_≤(bs.length:Int)-k then (bs.take at_.toNat++bytesW k n++bs.drop (at_.toNat+k.toNat),0) else (bs,2)
theorem getW_le {bs:List UInt8} {i:Nat} {k:Int} {sg:Bool} (h:i≤bs.length):(getW bs i k sg).2.2≤bs.length:=by
 unfold getW;split
 · rename_i hw
   obtain ⟨m,rfl,_⟩:=wide_nat hw;split
   · exact h
   · split
     · exact h
     · show i+(m:Int).toNat≤bs.length
       omega
 · exact h
theorem takeW_le {bs:List UInt8} {i:Nat} {n:Int} (h:i≤bs.length):(takeW bs i n).2.2≤bs.length:=by
 unfold takeW;split
 · exact h
 · split
   · exact h
   · show i+n.toNat≤bs.length
     omega
structure Ent where
 tag:Int
 text:List UInt8
 n:Int
 a:Int
 b:Int
structure Cst where
 tag:Int
 n:Int
 cls:List UInt8
 name:List UInt8
 type:List UInt8
theorem Ent.eq_iff (x y:Ent):(x.tag=y.tag∧x.text=y.text∧x.n=y.n∧x.a=y.a∧x.b=y.b)↔x=y:=by
 obtain ⟨a,b,c,d,e⟩:=x;obtain ⟨a',b',c',d',e'⟩:=y;constructor
 · rintro ⟨h1,h2,h3,h4,h5⟩
   simp only at h1 h2 h3 h4 h5;subst h1 h2 h3 h4 h5;rfl
 · intro h
   injection h with h1 h2 h3 h4 h5
   exact ⟨h1,h2,h3,h4,h5⟩
theorem Cst.eq_iff (x y:Cst):(x.tag=y.tag∧x.n=y.n∧x.cls=y.cls∧x.name=y.name∧x.type=y.type)↔x=y:=by
 obtain ⟨a,b,c,d,e⟩:=x;obtain ⟨a',b',c',d',e'⟩:=y;constructor
 · rintro ⟨h1,h2,h3,h4,h5⟩
   simp only at h1 h2 h3 h4 h5;subst h1 h2 h3 h4 h5;rfl
 · intro h
   injection h with h1 h2 h3 h4 h5
   exact ⟨h1,h2,h3,h4,h5⟩
instance:DecidableEq Ent:=fun x y=>decidable_of_iff _ (Ent.eq_iff x y)
instance:DecidableEq Cst:=fun x y=>decidable_of_iff _ (Cst.eq_iff x y)
def ent0:Ent:=⟨0,[],0,0,0⟩
def cst0:Cst:=⟨0,0,[],[],[]⟩
def eUtf (s:List UInt8):Ent:=⟨1,s,0,0,0⟩
def textB (s:List UInt8):Bool:=s.all (fun x=>decide (33≤x.toNat)&&decide (x.toNat≤126))&&decide (s.length≤255)
def atE (l:List Ent) (i:Int):Ent:=if 0≤i then l[i.toNat]?.getD ent0 else ent0
def tagE (l:List Ent) (i:Int):Int:=(atE l i).tag
def okE (l:List Ent) (x:Ent):Bool:=
 if x.tag=1 then textB x.text&&decide (x=eUtf x.text)
 else if x.tag=3 then decide (-2147483648≤x.n∧x.n≤2147483647)&&decide (x=⟨3,[],x.n,0,0⟩)
 else if x.tag=5 then decide (x=⟨5,[],x.n,0,0⟩)
 else if x.tag=7 then decide (tagE l x.a=1)&&decide (x=⟨7,[],0,x.a,0⟩)
 else if x.tag=12 then decide (tagE l x.a=1∧tagE l x.b=1)&&decide (x=⟨12,[],0,x.a,x.b⟩)
 else if x.tag=9∨x.tag=10 then decide (tagE l x.a=7∧tagE l x.b=12)&&decide (x=⟨x.tag,[],0,x.a,x.b⟩)
 else false
def goE (l:List Ent):List Ent→Bool
 | []=>true
 | [x]=>okE l x&&decide (x.tag≠5)
 | x::z::r=>okE l x&&(if x.tag=5 then decide (z=ent0)&&goE l r else goE l (z::r))
def checkP (l:List Ent):Bool:=decide (1≤l.length∧l.length≤1024)&&decide (l[0]?=some ent0)&&goE l (l.drop 1)
def bodyE (x:Ent):List UInt8:=
 if x.tag=1 then bytesW 2 x.text.length++x.text
 else if x.tag=3 then bytesW 4 x.n
 else if x.tag=5 then bytesW 8 x.n
 else if x.tag=7 then bytesW 2 x.a
 else bytesW 2 x.a++bytesW 2 x.b
def bytesE (x:Ent):List UInt8:=if x.tag=0 then [] else UInt8.ofNat x.tag.toNat::bodyE x
def bytesP (l:List Ent):List UInt8:=bytesW 2 l.length++(l.drop 1).flatMap bytesE
def entR (bs:List UInt8) (i:Nat):Ent×Int×Nat:=
 let g:=getW bs i 1 false
 let x:Ent:=⟨g.1,[],0,0,0⟩
 if g.2.1≠0 then (x,g.2)
 else if g.1=1 then
  let k:=getW bs g.2.2 2 false
  if k.2.1≠0 then (x,k.2) else
   let t:=takeW bs k.2.2 k.1
   ({ x with text:=t.1 },t.2)
 else if g.1=3 then let k:=getW bs g.2.2 4 true;({ x with n:=k.1 },k.2)
 else if g.1=5 then let k:=getW bs g.2.2 8 true;({ x with n:=k.1 },k.2)
 else if g.1=7 then let k:=getW bs g.2.2 2 false;({ x with a:=k.1 },k.2)
 else if g.1=9∨g.1=10∨g.1=12 then
  let k:=getW bs g.2.2 2 false
  if k.2.1≠0 then ({ x with a:=k.1 },k.2) else
   let m:=getW bs k.2.2 2 false
   ({ x with a:=k.1,b:=m.1 },m.2)
 else (x,70,g.2.2)
def withE (l:List Ent) (x:Ent):List Ent:=if x.tag=5 then l++[x,ent0] else l++[x]
def entsR (bs:List UInt8) (n:Nat):Nat→List Ent→Nat→List Ent×Int×Nat
 | 0,l,i=>(l,0,i)
 | f+1,l,i=>if n≤l.length then (l,0,i) else
  let x:=entR bs i
  if x.2.1≠0 then (l,x.2) else entsR bs n f (withE l x.1) x.2.2
def readP (bs:List UInt8) (i:Nat):List Ent×Int×Nat:=
 let g:=getW bs i 2 false
 if g.2.1≠0 then ([],g.2)
 else if g.1<1∨1024<g.1 then ([],70,g.2.2)
 else
  let r:=entsR bs g.1.toNat g.1.toNat [ent0] g.2.2
  if r.2.1≠0 then ([],r.2)
  else if g.1<r.1.length∨checkP r.1=false then ([],70,r.2.2)
  else r
def meanP (l:List Ent) (i:Int):Cst:=
 let x:=atE l i
 if x.tag=3∨x.tag=5 then ⟨x.tag,x.n,[],[],[]⟩
 else if x.tag=7 then ⟨7,0,(atE l x.a).text,[],[]⟩
 else if x.tag=9∨x.tag=10 then ⟨x.tag,0,(atE l (atE l x.a).a).text,(atE l (atE l x.b).a).text,(atE l (atE l x.b).b).text⟩
 else cst0
def textP (l:List Ent) (i:Int):List UInt8×Int:=if checkP l=false then ([],70) else if tagE l i≠1 then ([],2) else ((atE l i).text,0)
def constP (l:List Ent) (i:Int):Cst×Int:=if checkP l=false then (cst0,70) else if (meanP l i).tag=0 then (cst0,2) else (meanP l i,0)
def findE (l:List Ent) (x:Ent):Nat:=((List.range l.length).find? fun i=>decide (1≤i)&&decide (l[i]?=some x)).getD 0
theorem getW_at {p r:List UInt8} {k n:Int} {sg:Bool} (h:fitsW k n sg) (hn:-9223372036854775808≤n∧n≤9223372036854775807):getW (p++(bytesW k n++r)) p.length k sg=(n,0,p.length+k.toNat):=by
 unfold getW;have hl:=bytesW_len k n;have hk:0≤k:=by rcases h.1 with rfl | rfl | rfl | rfl <;> omega
 rw [if_pos h.1,if_neg (by rw [List.length_append,List.length_append,hl];omega),List.drop_left,←hl,List.take_left,val_bytes h hn]
theorem takeW_at (p t r:List UInt8):takeW (p++(t++r)) p.length t.length=(t,0,p.length+t.length):=by
 unfold takeW;rw [if_neg (by omega),if_neg (by rw [List.length_append,List.length_append];omega),Int.toNat_natCast,List.drop_left,List.take_left]
def EntFit (x:Ent):Prop:=(-9223372036854775808≤x.tag∧x.tag≤9223372036854775807)∧(-9223372036854775808≤x.n∧x.n≤9223372036854775807)∧(-9223372036854775808≤x.a∧x.a≤9223372036854775807)∧(-9223372036854775808≤x.b∧x.b≤9223372036854775807)
theorem tagE_in {l:List Ent} {i:Int} (h:tagE l i≠0):0≤i∧i<l.length:=by
 unfold tagE atE at h
 by_cases h0:0≤i
 · rw [if_pos h0] at h
   refine ⟨h0,?_⟩
   by_cases h1:i.toNat<l.length
   · omega
   · rw [List.getElem?_eq_none (by omega)] at h
     exact absurd rfl h
 · rw [if_neg h0] at h
   exact absurd rfl h
theorem bytesE_tag {x:Ent} (h:0≤x.tag∧x.tag≤255) (h0:x.tag≠0):bytesE x=bytesW 1 x.tag++bodyE x:=by
 unfold bytesE;rw [if_neg h0];have:bytesW 1 x.tag=[UInt8.ofNat x.tag.toNat]:=by
  show beK 0 _++[UInt8.ofNat (x.tag%18446744073709551616).toNat]=_;rw [show x.tag%18446744073709551616=x.tag by omega];rfl
 rw [this];rfl
theorem fits2 {n:Int} (h:0≤n∧n<65536):fitsW 2 n false:=by
 refine ⟨by unfold wide;omega,?_⟩;rw [if_neg (by decide),if_neg (by decide)];simp;omega
theorem fits1 {n:Int} (h:0≤n∧n<256):fitsW 1 n false:=by
 refine ⟨by unfold wide;omega,?_⟩;rw [if_neg (by decide),if_neg (by decide)];simp;omega
theorem fits4 {n:Int} (h:-2147483648≤n∧n≤2147483647):fitsW 4 n true:=by
 refine ⟨by unfold wide;omega,?_⟩;rw [if_neg (by decide),if_pos rfl];simp;omega
theorem fits8 (n:Int):fitsW 8 n true:=⟨by unfold wide;omega,by rw [if_pos rfl];exact .inl rfl⟩
theorem okE_tag {l:List Ent} {x:Ent} (h:okE l x=true):x.tag=1∨x.tag=3∨x.tag=5∨x.tag=7∨x.tag=12∨x.tag=9∨x.tag=10:=by
 unfold okE at h
 repeat (split at h;omega)
 cases h
theorem entR_at {l:List Ent} {x:Ent} (p r:List UInt8) (h:okE l x=true) (hl:l.length≤1024) (hf:EntFit x):entR (p++(bytesE x++r)) p.length=(x,0,p.length+(bytesE x).length):=by
 have ht:=okE_tag h;have hb:=bytesE_tag (x:=x) (by omega) (by omega);have hg:getW (p++(bytesE x++r)) p.length 1 false=(x.tag,0,p.length+1):=by
  rw [hb,List.append_assoc];exact getW_at (fits1 (by omega)) (by omega)
 have hlen:(bytesE x).length=1+(bodyE x).length:=by rw [hb,List.length_append,bytesW_len];rfl
 obtain ⟨P,hP⟩:∃P,P=p++bytesW 1 x.tag:=⟨_,rfl⟩;have hPl:P.length=p.length+1:=by rw [hP,List.length_append,bytesW_len];rfl
 have hbs:p++(bytesE x++r)=P++(bodyE x++r):=by rw [hb,hP];simp
 rw [hbs] at hg ⊢;rw [←hPl] at hg;rw [hlen,show p.length+(1+(bodyE x).length)=P.length+(bodyE x).length by omega];clear hb hbs hlen;unfold entR;simp only [hg];rw [if_neg (by simp)];unfold okE at h
 rcases ht with e | e | e | e | e | e | e
 · simp only [e,if_true] at h ⊢
   rw [Bool.and_eq_true,decide_eq_true_eq] at h;obtain ⟨h1,h2⟩:=h;unfold textB at h1;rw [Bool.and_eq_true,decide_eq_true_eq] at h1;have hbody:bodyE x=bytesW 2 x.text.length++x.text:=by unfold bodyE;rw [if_pos e]
   have g2:=getW_at (p:=P) (r:=x.text++r) (k:=2) (n:=x.text.length) (sg:=false) (fits2 (by omega)) (by omega);have t2:=takeW_at (P++bytesW 2 x.text.length) x.text r;have hl2:(P++bytesW 2 x.text.length).length=P.length+2:=by rw [List.length_append,bytesW_len];rfl
   rw [hl2,List.append_assoc] at t2;rw [hbody,List.append_assoc,g2];simp only [ne_eq,not_true_eq_false,if_false];rw [show Int.toNat 2=2 from rfl,t2];refine Prod.ext ?_ (Prod.ext rfl ?_)
   · rw [h2];rfl
   · simp only [List.length_append,bytesW_len]
     show P.length+2+_=P.length+(2+_);omega
 · simp only [e] at h ⊢
   simp only [Bool.and_eq_true,decide_eq_true_eq,if_true,show ¬(3:Int)=1 by decide,if_false] at h ⊢;obtain ⟨h1,h2⟩:=h;have hbody:bodyE x=bytesW 4 x.n:=by unfold bodyE;rw [e];rfl
   rw [hbody,getW_at (fits4 h1) hf.2.1];refine Prod.ext ?_ (Prod.ext rfl (by rw [bytesW_len]));rw [h2]
 · simp only [e] at h ⊢
   simp only [decide_eq_true_eq,if_true,show ¬(5:Int)=1 by decide,show ¬(5:Int)=3 by decide,if_false] at h ⊢;have hbody:bodyE x=bytesW 8 x.n:=by unfold bodyE;rw [e];rfl
   rw [hbody,getW_at (fits8 _) hf.2.1];refine Prod.ext ?_ (Prod.ext rfl (by rw [bytesW_len]));rw [h]
 · simp only [e] at h ⊢
   simp only [Bool.and_eq_true,decide_eq_true_eq,if_true,show ¬(7:Int)=1 by decide,show ¬(7:Int)=3 by decide,show ¬(7:Int)=5 by decide,if_false] at h ⊢;obtain ⟨h1,h2⟩:=h;have hi:=tagE_in (l:=l) (i:=x.a) (by omega);have hbody:bodyE x=bytesW 2 x.a:=by unfold bodyE;rw [e];rfl
   rw [hbody,getW_at (fits2 (by omega)) (by omega)];refine Prod.ext ?_ (Prod.ext rfl (by rw [bytesW_len]));rw [h2]
 all_goals
  have hbody:bodyE x=bytesW 2 x.a++bytesW 2 x.b:=by unfold bodyE;rw [e];rfl
  have hx:(x=⟨x.tag,[],0,x.a,x.b⟩)∧(0≤x.a∧x.a<l.length)∧(0≤x.b∧x.b<l.length):=by
   simp only [e] at h ⊢;simp at h;exact ⟨h.2,tagE_in (by omega),tagE_in (by omega)⟩
  obtain ⟨h1,h2,h3⟩:=hx;have g2:=getW_at (p:=P) (r:=bytesW 2 x.b++r) (k:=2) (n:=x.a) (sg:=false) (fits2 (by omega)) (by omega);have g3:=getW_at (p:=P++bytesW 2 x.a) (r:=r) (k:=2) (n:=x.b) (sg:=false) (fits2 (by omega)) (by omega);have hl2:(P++bytesW 2 x.a).length=P.length+2:=by rw [List.length_append,bytesW_len];rfl
  rw [hl2,List.append_assoc] at g3;rw [hbody,List.append_assoc,g2];simp only [e];rw [show Int.toNat 2=2 from rfl,g3];simp;refine ⟨?_,?_⟩
  · rw [h1,e]
  · simp only [bytesW_len]
    show P.length+2+2=P.length+(2+2);omega
theorem bytesE_zero:bytesE ent0=[]:=rfl
theorem withE_len (l:List Ent) (x:Ent):l.length+1≤(withE l x).length:=by
 unfold withE;split <;> simp
theorem entsR_at {l:List Ent} (hl:l.length≤1024) (r:List UInt8):∀(s pre:List Ent) (p:List UInt8) (f:Nat),goE l s=true→(∀x∈s,EntFit x)→s.length≤f →
 entsR (p++(s.flatMap bytesE++r)) (pre++s).length f pre p.length=(pre++s,0,p.length+(s.flatMap bytesE).length)
 | [],pre,p,f,_,_,_=>by
  cases f with
  | zero=>simp [entsR]
  | succ f=>simp [entsR]
 | [x],pre,p,f,h,hf,hfu=>by
  obtain ⟨f,rfl⟩:∃g,f=g+1:=⟨f-1,by simp at hfu;omega⟩;simp only [goE,Bool.and_eq_true,decide_eq_true_eq] at h;have e1:=entR_at p r h.1 hl (hf x (by simp));have e2:withE pre x=pre++[x]:=by unfold withE;rw [if_neg h.2]
  simp only [List.flatMap_cons,List.flatMap_nil,List.append_nil];rw [entsR,if_neg (by simp),e1];simp only [ne_eq,not_true_eq_false,if_false,e2];cases f with
  | zero=>simp [entsR]
  | succ f=>simp [entsR]
 | x::z::s,pre,p,f,h,hf,hfu=>by
  obtain ⟨f,rfl⟩:∃g,f=g+1:=⟨f-1,by simp at hfu;omega⟩;rw [goE,Bool.and_eq_true] at h;have e1:=entR_at p (((z::s).flatMap bytesE)++r) h.1 hl (hf x (by simp));have hsp:p++((x::z::s).flatMap bytesE++r)=p++(bytesE x++((z::s).flatMap bytesE++r)):=by simp
  have hpl:p.length+(bytesE x).length=(p++bytesE x).length:=by simp
  rw [entsR,if_neg (by simp),hsp,e1];simp only [ne_eq,not_true_eq_false,if_false];rw [hpl,←List.append_assoc p]
  by_cases h5:x.tag=5
  · rw [if_pos h5,Bool.and_eq_true,decide_eq_true_eq] at h
    obtain ⟨_,rfl,h2⟩:=h;have e2:withE pre x=pre++[x,ent0]:=by unfold withE;rw [if_pos h5]
    have ih:=entsR_at hl r s (pre++[x,ent0]) (p++bytesE x) f h2 (fun y hy=>hf y (by simp [hy])) (by simp at hfu;omega);have e3:(ent0::s).flatMap bytesE=s.flatMap bytesE:=by simp [bytesE_zero]
    have e4:pre++[x,ent0]++s=pre++x::ent0::s:=by simp
    rw [e2,e3,←e4,ih];simp [bytesE_zero,Nat.add_assoc]
  · rw [if_neg h5] at h
    have e2:withE pre x=pre++[x]:=by unfold withE;rw [if_neg h5]
    have ih:=entsR_at hl r (z::s) (pre++[x]) (p++bytesE x) f h.2 (fun y hy=>hf y (by simp at hy ⊢;exact .inr hy)) (by simp at hfu ⊢;omega);have e4:pre++[x]++(z::s)=pre++x::z::s:=by simp
    rw [e2,←e4,ih];simp [Nat.add_assoc]
theorem checkP_iff {l:List Ent}:checkP l=true↔(1≤l.length∧l.length≤1024)∧l[0]?=some ent0∧goE l (l.drop 1)=true:=by
 unfold checkP;simp [and_assoc]
theorem readP_at {l:List Ent} (p r:List UInt8) (h:checkP l=true) (hf:∀x∈l,EntFit x):readP (p++(bytesP l++r)) p.length=(l,0,p.length+(bytesP l).length):=by
 obtain ⟨⟨h1,h2⟩,h3,h4⟩:=checkP_iff.1 h;obtain ⟨x,s,rfl⟩:∃x s,l=x::s:=by
  cases l with
  | nil=>simp at h1
  | cons x s=>exact ⟨x,s,rfl⟩
 have hx:x=ent0:=by simpa using h3
 subst hx;have hbp:bytesP (ent0::s)=bytesW 2 ((ent0::s).length:Int)++s.flatMap bytesE:=rfl;have g1:=getW_at (p:=p) (r:=s.flatMap bytesE++r) (k:=2) (n:=((ent0::s).length:Int)) (sg:=false) (fits2 (by omega)) (by omega);have hpl:(p++bytesW 2 ((ent0::s).length:Int)).length=p.length+2:=by rw [List.length_append,bytesW_len];rfl
 have e1:=entsR_at h2 r s [ent0] (p++bytesW 2 ((ent0::s).length:Int)) (ent0::s).length h4 (fun y hy=>hf y (by simp [hy])) (by simp);rw [hpl,List.append_assoc] at e1;unfold readP;rw [hbp,List.append_assoc,g1];simp only [ne_eq,not_true_eq_false,if_false];rw [if_neg (by omega),Int.toNat_natCast,show Int.toNat 2=2 from rfl];have e2:[ent0]++s=ent0::s:=rfl;rw [e2] at e1;rw [e1];simp only [not_true_eq_false,if_false];rw [if_neg (by rw [h];simp)];simp only [List.length_append,bytesW_len,Prod.mk.injEq,true_and];show p.length+2+_=p.length+(2+_);omega
end Go.Proofs.YtlabllgifkklhaaGreatDoor
