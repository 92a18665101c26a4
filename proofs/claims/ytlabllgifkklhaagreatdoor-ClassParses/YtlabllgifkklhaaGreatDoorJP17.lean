/- Joined: CrA CrB CrC CkN ClFi. -/
import Derived.Test.YtlabllgifkklhaaGreatDoorJP16
import Derived.Test.YtlabllgifkklhaaGreatDoorJP11
import Derived.Test.YtlabllgifkklhaaGreatDoorJP7
import Derived.Test.YtlabllgifkklhaaGreatDoorJP1
import Derived.Test.YtlabllgifkklhaaGreatDoorJP10
import Derived.Test.YtlabllgifkklhaaGreatDoorJP8
import Derived.Test.YtlabllgifkklhaaGreatDoorJP9
set_option linter.unusedVariables false
set_option maxRecDepth 100000
set_option maxHeartbeats 6400000
namespace Go.Proofs.YtlabllgifkklhaaGreatDoor
open Go.RowKit
theorem getW_uR {bs:List UInt8} {i k:Nat} {n:Int} {r:List UInt8} (hk:k=1∨k=2∨k=4) (h:uR k (bs.drop i)=some (n,r)):getW bs i (k:Int) false=(n,0,i+k)∧bs.drop (i+k)=r:=by
 unfold uR at h;split at h
 · rename_i hl
   injection h with h
   injection h with h1 h2
   rw [List.length_drop] at hl;have hll:((bs.drop i).take k).length=k:=by rw [List.length_take,List.length_drop];omega
   unfold getW;rw [if_pos (by unfold wide;omega),if_neg (by omega),Int.toNat_natCast];have hv:valW ((bs.drop i).take k) false=some n:=by
    unfold valW;rw [hll,if_neg (by omega),if_neg (by simp),h1]
   rw [hv];exact ⟨rfl,by rw [←h2,List.drop_drop]⟩
 · cases h
theorem getW_small {bs:List UInt8} {i k:Nat} (hk:k=1∨k=2∨k=4):0≤(getW bs i (k:Int) false).1∧(getW bs i (k:Int) false).1<4294967296∧(getW bs i (k:Int) false).1<((256^k:Nat):Int):=by
 unfold getW;rw [if_pos (by unfold wide;omega)];split
 · have h0:0<256^k:=Nat.pow_pos (by decide)
   show (0:Int)≤0∧(0:Int)<4294967296∧(0:Int)<((256^k:Nat):Int);omega
 · have hll:((bs.drop i).take k).length≤4:=by rw [List.length_take];omega
   have hv:valW ((bs.drop i).take (k:Int).toNat) false=some (numB ((bs.drop i).take k):Int):=by
    rw [Int.toNat_natCast];unfold valW;rw [if_neg (by omega),if_neg (by simp)]
   rw [hv];have h1:=numB_lt ((bs.drop i).take k);have h2:256^((bs.drop i).take k).length≤256^4:=Nat.pow_le_pow_right (by decide) hll;have h3:256^((bs.drop i).take k).length≤256^k:=Nat.pow_le_pow_right (by decide) (by rw [List.length_take];omega);generalize 256^k=K at *;simp only;omega
def Got {α:Type} (o:List UInt8→Option (α×List UInt8)) (bs:List UInt8) (i:Nat) (en:Bool) (v:α) (i':Nat) (en':Bool):Prop:=
 (en=true→en'=true)∧(en=false→∀v0 r,o (bs.drop i)=some (v0,r)→v=v0∧en'=false∧bs.drop i'=r)
structure Cr where
 X:Nat
 x:Nat
 B:Nat
 bs:List UInt8
 l:List Ent
def Cr.v (C:Cr):Value:=.pointer (some ⟨C.X,0,none⟩)
structure Rd8 (C:Cr) (i:Nat) (en:Bool) (W:World):Prop where
 ne:C.X≠C.x
 hX:C.B≤C.X
 rd:∃F,RD F W C.B C.x C.bs i
 hi:i≤C.bs.length
 len:C.bs.length≤1000000
 pl:∃a c,W.heap[C.X]?=some (.cells #[.pointer (some ⟨C.x,0,none⟩),.slice a C.l.length c,.bool en] 127 (0,0))∧PB W a c C.l
 few:C.l.length≤1024
 cl:∀i:Int,tagE C.l i=7→tagE C.l (atE C.l i).a=1
 z0:tagE C.l 0≠7
 one:1≤C.B
def FX (C:Cr) (w w':World):Prop:=Fr6 (fun k=>k=C.X∨k=C.x) C.B w w'
theorem FX.refl (C:Cr) (w:World):FX C w w:=⟨Below.refl _ _,fun _ _ _=>rfl⟩
theorem FX.trans {C:Cr} {w w1 w2:World} (f:FX C w w1) (g:FX C w1 w2):FX C w w2:=kfr2_trans f g (fun k hk=>.inl hk)
theorem FX.size {C:Cr} {w w':World} (f:FX C w w'):w.heap.size≤w'.heap.size:=f.below.size
theorem FX.on {C:Cr} {w w1 w2:World} (f:FX C w w1) (g:Below w1.heap.size w1 w2) (hB:C.B≤w.heap.size):FX C w w2:=kfr2_trans (F1:=fun _=>False) f (Fr6.of_below g (Nat.le_trans hB f.size)) (fun k hk=>hk.elim)
theorem Rd8.X_lt {C:Cr} {i:Nat} {en:Bool} {W:World} (h:Rd8 C i en W):C.X<W.heap.size:=by
 obtain ⟨a,c,h1,_⟩:=h.pl;exact lt_of_heap h1
theorem Rd8.x_blk {C:Cr} {i:Nat} {en:Bool} {W:World} (h:Rd8 C i en W):∃Z,W.heap[C.x]?=some (.cells Z 159 (0,0)):=by
 obtain ⟨F,y,c,_,h1⟩:=h.rd;exact ⟨_,h1.blk⟩
theorem Rd8.hB {C:Cr} {i:Nat} {en:Bool} {W:World} (h:Rd8 C i en W):C.B≤W.heap.size:=Nat.le_trans h.hX (Nat.le_of_lt h.X_lt)
theorem Rd8.keep {C:Cr} {i:Nat} {en:Bool} {W W':World} (h:Rd8 C i en W) (f:∀(k:Nat) (Z:Array Value) (T:TypeId),W.heap[k]?=some (.cells Z T (0,0))→T=127∨T=159∨T=5∨T=55→W'.heap[k]?=W.heap[k]?):Rd8 C i en W':=by
 obtain ⟨F,y,c,hF,h1⟩:=h.rd;refine ⟨h.ne,h.hX,⟨F,y,c,hF,h1.keep (f _ _ _ h1.blk (.inr (.inl rfl))) ?_⟩,h.hi,h.len,?_,h.few,h.cl,h.z0,h.one⟩
 · rcases h1.row.2 with ⟨hv,_⟩ | ⟨g,cap,cur,hv,_,hh,_⟩
   · cases hv
   · injection hv with hv
     injection hv with hv
     injection hv with hv
     subst hv;exact f _ _ _ hh (.inr (.inr (.inl rfl)))
 · obtain ⟨a,c,h2,h3⟩:=h.pl
   refine ⟨a,c,(f _ _ _ h2 (.inl rfl)).trans h2,?_⟩
   rcases h3 with h3 | ⟨q,e1,e2,h3⟩
   · exact .inl h3
   · exact .inr ⟨q,e1,e2,(f _ _ _ h3 (.inr (.inr (.inr rfl)))).trans h3⟩
theorem Rd8.below {C:Cr} {i:Nat} {en:Bool} {W W':World} (h:Rd8 C i en W) (f:Below W.heap.size W W'):Rd8 C i en W':=h.keep fun k Z T hk _=>f.block k (lt_of_heap hk)
theorem Rd8.set {C:Cr} {i:Nat} {en:Bool} {W:World} (h:Rd8 C i en W) {R:Nat} {Z:Array Value} {T:TypeId} (hR:W.heap[R]?=some (.cells Z T (0,0))) (hT:¬(T=127∨T=159∨T=5∨T=55)) (j:Nat) (v:Value):Rd8 C i en (W.setCell ⟨R,j,none⟩ v):=
 h.keep fun k Z' T' hk hT'=>Below.heap_setCell _ _ _ _ fun e=>by
  simp only at e;subst e;rw [hR] at hk;injection hk with hk
  injection hk with _ hk
  subst hk;exact hT hT'
theorem Rd8.orw {C:Cr} {i:Nat} {en:Bool} {W W':World} (h:Rd8 C i en W) (f:FX C W W') {α:Type} {cs:α→List Value} {e:TypeId} {sz base:Nat} {v:Value} {l:List α} (o:Orw cs e sz W base v l) (h1:e≠127) (h2:e≠159):Orw cs e sz W' base v l:=
 o.keep fun k Z _ hk=>f.other k (lt_of_heap hk) fun hF=>by
  rcases hF with rfl | rfl
  · obtain ⟨a,c,h3,_⟩:=h.pl
    rw [h3] at hk;injection hk with hk
    injection hk with _ hk
    exact h1 hk.symm
  · obtain ⟨Y,h3⟩:=h.x_blk
    rw [h3] at hk;injection hk with hk
    injection hk with _ hk
    exact h2 hk.symm
theorem Rd8.blk {C:Cr} {i:Nat} {en:Bool} {W W':World} (h:Rd8 C i en W) (f:FX C W W') {k:Nat} {Z:Array Value} {T:TypeId} (hk:W.heap[k]?=some (.cells Z T (0,0))) (h1:T≠127) (h2:T≠159):W'.heap[k]?=some (.cells Z T (0,0)):=
 (f.other k (lt_of_heap hk) fun hF=>by
  rcases hF with rfl | rfl
  · obtain ⟨a,c,h3,_⟩:=h.pl
    rw [h3] at hk;injection hk with hk
    injection hk with _ hk
    exact h1 hk.symm
  · obtain ⟨Y,h3⟩:=h.x_blk
    rw [h3] at hk;injection hk with hk
    injection hk with _ hk
    exact h2 hk.symm).trans hk
theorem Rd8.mark {C:Cr} {i:Nat} {en:Bool} {W:World} (h:Rd8 C i en W) (en':Bool):Rd8 C i en' (W.setCell ⟨C.X,2,none⟩ (.bool en'))∧FX C W (W.setCell ⟨C.X,2,none⟩ (.bool en')):=by
 obtain ⟨a,c,h1,h2⟩:=h.pl;have hs:∀k,k≠C.X→(W.setCell ⟨C.X,2,none⟩ (.bool en')).heap[k]?=W.heap[k]?:=fun k hk=>Below.heap_setCell _ _ _ _ hk
 have hne:∀(k:Nat) (Z:Array Value) (T:TypeId),W.heap[k]?=some (.cells Z T (0,0))→T≠127→k≠C.X:=fun k Z T hk hT e=>by
  subst e;rw [h1] at hk;injection hk with hk
  injection hk with _ hk
  exact hT hk.symm
 obtain ⟨F,y,d,hF,h3⟩:=h.rd;refine ⟨⟨h.ne,h.hX,⟨F,y,d,hF,h3.keep (hs _ (fun e=>h.ne e.symm)) ?_⟩,h.hi,h.len,⟨a,c,heap_setCell_same W _ 2 _ _ _ h1,?_⟩,h.few,h.cl,h.z0,h.one⟩,(Below.refl _ _).setCell (p:=⟨C.X,2,none⟩) h.hX _,fun k _ hk=>hs k (fun e=>hk (.inl e))⟩
 · rcases h3.row.2 with ⟨hv,_⟩ | ⟨g,cap,cur,hv,_,hh,_⟩
   · cases hv
   · injection hv with hv
     injection hv with hv
     injection hv with hv
     subst hv;exact hs _ (hne _ _ _ hh (by decide))
 · rcases h2 with h2 | ⟨q,e1,e2,h2⟩
   · exact .inl h2
   · exact .inr ⟨q,e1,e2,(hs _ (hne _ _ _ h2 (by decide))).trans h2⟩
theorem rNumber_any (C:Cr) (i:Nat) (en:Bool) (w:World) (h:Rd8 C i en w) (k:Nat) (hk:k=1∨k=2∨k=4) :
 Calls Tryz.prog 129 #[.pointer (some ⟨C.X,0,none⟩),.int .i64 (k:Int)] w fun e w'=>∃n i' en',e=.returned (.int .i64 n)∧(0≤n∧n<4294967296∧n<((256^k:Nat):Int))∧Got (uR k) C.bs i en n i' en'∧Rd8 C i' en' w'∧FX C w w':=by
 obtain ⟨F,hF⟩:=h.rd;have hU:=dU_all F w C.B C.x C.bs i (k:Int) hF (by have:=h.len;omega) h.hi (by omega);have hgot:Got (uR k) C.bs i en (getW C.bs i (k:Int) false).1 (getW C.bs i (k:Int) false).2.2 (en||decide ((getW C.bs i (k:Int) false).2.1≠0)):=by
  refine ⟨fun e=>by rw [e];rfl,fun e v0 r hr=>?_⟩;obtain ⟨h1,h2⟩:=getW_uR hk hr;rw [h1,e];exact ⟨rfl,rfl,h2⟩
 have hle:=getW_le (bs:=C.bs) (i:=i) (k:=(k:Int)) (sg:=false) h.hi;have hsm:=getW_small (bs:=C.bs) (i:=i) hk;generalize getW C.bs i (k:Int) false=G at *;obtain ⟨n,er,j⟩:=G;simp only at hU hgot hle hsm;have HST:Hid (∀W,(∃F',RD F' W C.B C.x C.bs j)→Kx C.x w W→Fr6 F C.B w W→Rd8 C j en W∧FX C w W):=fun W h1 h2 h3=>by
  obtain ⟨a,c,q1,q2⟩:=h.pl;have hb:W.heap[C.X]?=_:=(h2 C.X h.X_lt h.ne).trans q1;refine ⟨⟨h.ne,h.hX,h1,hle,h.len,⟨a,c,hb,?_⟩,h.few,h.cl,h.z0,h.one⟩,⟨h3.below,fun k hk hn=>h2 k hk (fun e=>hn (.inr e))⟩⟩
  rcases q2 with q2 | ⟨q,e1,e2,q2⟩
  · exact .inl q2
  · refine .inr ⟨q,e1,e2,(h2 q (lt_of_heap q2) fun e=>?_).trans q2⟩
    subst e;obtain ⟨Z,h4⟩:=h.x_blk;rw [h4] at q2;injection q2 with q2
    injection q2 with _ q2
    cases q2
 have HU:=hide hU;have HG:=hide hgot;have HS:=hide hsm;obtain ⟨a,c,q1,_⟩:=h.pl;have c0:=bx_cell q1 0 _ rfl;clear hU hgot q1 hF h hsm hle hk;go_enter Tryz.func129,Tryz.ntmps129;go_wp2_with fail;refine (unhide HU).mono ?_;rintro e w1 ⟨rfl,⟨F',r1,_⟩,r2,r3⟩;obtain ⟨R1,f1⟩:=unhide HST w1 ⟨F',r1⟩ r3 r2;obtain ⟨a1,c1,q1,_⟩:=R1.pl;have d2:=bx_cell q1 2 _ rfl;have z2:=bx_thaw q1 2;have HR1:=hide R1;have HF1:=hide f1;clear HU HST c0 r1 r2 r3 R1 f1 q1;cases en with
 | true=>
  go_wp2;go_ret;obtain ⟨R2,f2⟩:=(unhide HR1).mark true;exact ⟨n,j,true,rfl,unhide HS,by simpa using unhide HG,R2,(unhide HF1).trans f2⟩
 | false=>
  by_cases he:er=0
  · have he':(er != 0)=false:=by simp [he]
    go_wp2;go_ret;obtain ⟨R2,f2⟩:=(unhide HR1).mark false;exact ⟨n,j,false,rfl,unhide HS,by simpa [he] using unhide HG,R2,(unhide HF1).trans f2⟩
  · have he':(er != 0)=true:=by simp [he]
    go_wp2;go_ret;obtain ⟨R2,f2⟩:=(unhide HR1).mark true;exact ⟨n,j,true,rfl,unhide HS,by simpa [he] using unhide HG,R2,(unhide HF1).trans f2⟩
def passR:List Nat→List UInt8→Option (Unit×List UInt8)
 | [],s=>some ((),s)
 | k::ks,s=>(uR k s).bind fun a=>passR ks a.2
theorem passR_snoc (ks:List Nat) (k:Nat):∀s,passR (ks++[k]) s=(passR ks s).bind fun a=>(uR k a.2).bind fun b=>some ((),b.2):=by
 induction ks with
 | nil=>intro s;rfl
 | cons j ks ih=>
  intro s;simp only [List.cons_append,passR];cases uR j s with
  | none=>rfl
  | some a=>simpa using ih a.2
theorem Got.pass {bs:List UInt8} {i i1 i2:Nat} {en en1 en2:Bool} {ks:List Nat} {k:Nat} {n:Int} (h1:Got (passR ks) bs i en () i1 en1) (h2:Got (uR k) bs i1 en1 n i2 en2):Got (passR (ks++[k])) bs i en () i2 en2:=by
 refine ⟨fun e=>h2.1 (h1.1 e),fun e v0 r hr=>?_⟩;rw [passR_snoc] at hr;obtain ⟨⟨_,s1⟩,ha,hr⟩:=Option.bind_eq_some_iff.1 hr;obtain ⟨⟨m,s2⟩,hb,hr⟩:=Option.bind_eq_some_iff.1 hr;obtain ⟨_,e1,d1⟩:=h1.2 e _ _ ha;simp only at hb;rw [←d1] at hb;obtain ⟨_,e2,d2⟩:=h2.2 e1 _ _ hb;injection hr with hr
 injection hr with _ hr
 exact ⟨rfl,e2,by rw [d2];exact hr⟩
theorem rPass_any (C:Cr) (i:Nat) (en:Bool) (w:World) (h:Rd8 C i en w) (ks:List Nat) (hks:∀k∈ks,k=1∨k=2∨k=4) (g n c:Nat) (hn:ks.length=n) (hs:n≤100) (hg:w.heap[g]?=some (.cells (ks.map fun (k:Nat)=>Value.int .i64 (k:Int)).toArray 3 (0,0))) :
 Calls Tryz.prog 97 #[.pointer (some ⟨C.X,0,none⟩),.slice (some ⟨g,0,none⟩) n c] w fun e w'=>∃i' en',e=.returned (.tuple #[])∧Got (passR ks) C.bs i en () i' en'∧Rd8 C i' en' w'∧FX C w w':=by
 have H0:Hid (Got (passR (ks.take 0)) C.bs i en () i en∧Rd8 C i en w∧FX C w w∧w.heap[g]?=some (.cells (ks.map fun (k:Nat)=>Value.int .i64 (k:Int)).toArray 3 (0,0))):=hide ⟨⟨fun e=>e,fun e v0 r hr=>by injection hr with hr;injection hr with _ hr;exact ⟨rfl,e,hr⟩⟩,h,FX.refl _ _,hg⟩;clear h hg;go_enter Tryz.func97,Tryz.ntmps97;go_wp2
 go_loopw [8] (fun v wr=>∃k:Nat,k≤n∧v=.int .i64 k∧∃j ej,Got (passR (ks.take k)) C.bs i en () j ej∧Rd8 C j ej wr∧FX C w wr∧wr.heap[g]?=some (.cells (ks.map fun (k:Nat)=>Value.int .i64 (k:Int)).toArray 3 (0,0))) (fun v _=>n-(intOf v).toNat)
 case atStart=>exact ⟨0,by omega,rfl,i,en,unhide H0⟩
 case round=>
  obtain ⟨k,hk,rfl,j,ej,hG,hR,hF,hb⟩:=hrel
  by_cases hlt:k<n
  · have hlt1:(k:Int)<(n:Int):=by omega
    have hk0:(0:Int)≤(k:Int):=by omega
    obtain ⟨m,hm⟩:∃m,ks[k]?=some m:=⟨_,List.getElem?_eq_getElem (by omega)⟩;have c0:wr.cell? ⟨g,k,none⟩=some (.int .i64 (m:Int)):=bx_cell hb k _ (by simp [hm]);have HN:=hide (rNumber_any C j ej wr hR m (hks m (List.mem_of_getElem? hm)));have HI:=hide (And.intro hG (And.intro hR (And.intro hF hb)));have hst:ks.take (k+1)=ks.take k++[m]:=by rw [List.take_add_one,hm];rfl
    have HST:=hide hst;clear hG hR hF hb hm hst;go_wp2_with fail;refine (unhide HN).mono ?_;rintro e w1 ⟨v,j1,e1,rfl,_,g1,R1,f1⟩;obtain ⟨hG,hR,hF,hb⟩:=unhide HI;have HI1:Hid (Got (passR (ks.take (k+1))) C.bs i en () j1 e1∧Rd8 C j1 e1 w1∧FX C w w1∧w1.heap[g]?=some (.cells (ks.map fun (k:Nat)=>Value.int .i64 (k:Int)).toArray 3 (0,0))):=hide ⟨by rw [unhide HST];exact hG.pass g1,R1,hF.trans f1,hR.blk f1 hb (by decide) (by decide)⟩;clear HN HI hG hR hF hb g1 R1 f1 c0;go_wp2;go_roundw
    case rel=>exact ⟨k+1,by omega,by go_num,j1,e1,unhide HI1⟩
    case measure=>simp [intOf];omega
  · obtain rfl:k=n:=by omega
    rw [List.take_of_length_le (by omega)] at hG;have HI:=hide (And.intro hG (And.intro hR hF));clear hG hR hF hb;go_wp2;go_end0;obtain ⟨a,b,c⟩:=unhide HI;exact ⟨j,ej,rfl,a,b,c⟩
theorem Rd8.es {C:Cr} {i:Nat} {en:Bool} {W:World} (h:Rd8 C i en W):∃a c,W.heap[C.X]?=some (.cells #[.pointer (some ⟨C.x,0,none⟩),.slice a C.l.length c,.bool en] 127 (0,0))∧Es W a C.l.length C.l:=by
 obtain ⟨a,c,h1,h2⟩:=h.pl;refine ⟨a,c,h1,rfl,?_⟩
 rcases h2 with ⟨_,_,h2⟩ | ⟨q,e1,e2,h2⟩
 · exact .inl (by rw [h2];rfl)
 · exact .inr ⟨q,0,e1,es_of_block h2⟩
theorem rText_any (C:Cr) (i:Nat) (en:Bool) (w:World) (h:Rd8 C i en w) :
 Calls Tryz.prog 132 #[.pointer (some ⟨C.X,0,none⟩)] w fun e w'=>∃s i' en',e=.returned (.string ⟨List.toArray s⟩)∧(s=[]∨∃x∈C.l,s=x.text)∧Got (utfR C.l) C.bs i en s i' en'∧Rd8 C i' en' w'∧FX C w w':=by
 have HN:=hide (rNumber_any C i en w h 2 (by omega));clear h;go_enter Tryz.func132,Tryz.ntmps132;go_wp2_with fail;refine (unhide HN).mono ?_;rintro e w1 ⟨n,j,ej,rfl,hn,g1,R1,f1⟩;obtain ⟨a,c,q1,hE⟩:=R1.es;have c1:=bx_cell q1 1 _ rfl;have HT:=hide (ctagAt_any w1 a C.l.length c C.l hE (by have:=R1.few;omega) n (by unfold fitI;omega));have HG:=hide g1;have HR:=hide (And.intro R1 f1);clear HN g1 R1 f1 q1;go_wp2_with fail;refine (unhide HT).mono ?_;rintro e w2 ⟨rfl,e2⟩;have e2':=e2.symm;clear e2;subst e2'
 by_cases ht:tagE C.l n=1
 · have hin:=tagE_in (l:=C.l) (i:=n) (by rw [ht];decide)
   obtain ⟨k,rfl⟩:∃k:Nat,n=k:=⟨n.toNat,by omega⟩;obtain ⟨b,o,rfl,hE2⟩:=hE.2.resolve_left (by omega);obtain ⟨q0,q1,q2,q3,q4⟩:=ents_at hE2 (k:=k) (by omega);have hk0:(0:Int)≤(k:Int):=by omega
   have hk1:(k:Int)<(C.l.length:Int):=by omega
   have hmem:Hid (∃x∈C.l,(atE C.l (k:Int)).text=x.text):=by
    have hl:k<C.l.length:=by omega
    refine hide ⟨C.l[k],List.getElem_mem hl,?_⟩;unfold atE;rw [if_pos (Int.natCast_nonneg _),Int.toNat_natCast,List.getElem?_eq_getElem hl];rfl
   have HGU:Hid (Got (utfR C.l) C.bs i en (atE C.l (k:Int)).text j ej):=hide ⟨(unhide HG).1,fun e v0 r hr=>by
    unfold utfR at hr;obtain ⟨⟨m,s1⟩,ha,hr⟩:=Option.bind_eq_some_iff.1 hr;obtain ⟨rfl,e1,d1⟩:=(unhide HG).2 e _ _ ha;simp only at hr;rw [if_pos ht] at hr;injection hr with hr
    injection hr with h1 h2
    exact ⟨h1,e1,d1.trans h2⟩⟩
   clear hE hE2 HT HG hn;rw [ht];generalize atE C.l (k:Int)=y at *;go_wp2;go_ret;obtain ⟨x,hx,e⟩:=unhide hmem;exact ⟨_,_,_,rfl,.inr ⟨x,hx,e⟩,unhide HGU,(unhide HR).1,(unhide HR).2⟩
 · have ht':(tagE C.l n != 1)=true:=by simpa using ht
   have HGU:Hid (Got (utfR C.l) C.bs i en [] j ej):=hide ⟨(unhide HG).1,fun e v0 r hr=>by
    unfold utfR at hr;obtain ⟨⟨m,s1⟩,ha,hr⟩:=Option.bind_eq_some_iff.1 hr;obtain ⟨rfl,e1,d1⟩:=(unhide HG).2 e _ _ ha;simp only at hr;rw [if_neg ht] at hr;cases hr⟩
   clear hE HT HG hn ht;generalize tagE C.l n=tt at *;go_wp2;go_ret;exact ⟨[],_,_,rfl,.inl rfl,unhide HGU,(unhide HR).1,(unhide HR).2⟩
def nameR (l:List Ent) (s:List UInt8):Option (List UInt8×List UInt8):=(uR 2 s).bind fun n=>(clsR l n.1).bind fun x=>some (x,n.2)
def superR (l:List Ent) (s:List UInt8):Option (List UInt8×List UInt8):=(uR 2 s).bind fun m=>(if 0<m.1 then clsR l m.1 else some []).bind fun x=>some (x,m.2)
theorem Rd8.drewN {C:Cr} {i:Nat} {en:Bool} {W:World} (h:Rd8 C i en W) (k:Nat):Rd8 C i en (W.drewN k):=h.below (below_drewN (Below.refl _ _) k)
theorem FX.drewN {C:Cr} {w W:World} (f:FX C w W) (hB:C.B≤w.heap.size) (k:Nat):FX C w (W.drewN k):=f.on (below_drewN (Below.refl _ _) k) hB
theorem rName_any (C:Cr) (i:Nat) (en:Bool) (w:World) (h:Rd8 C i en w) :
 Calls Tryz.prog 99 #[.pointer (some ⟨C.X,0,none⟩)] w fun e w'=>∃s i' en',e=.returned (.string ⟨List.toArray s⟩)∧(s=[]∨∃x∈C.l,s=x.text)∧Got (nameR C.l) C.bs i en s i' en'∧Got (superR C.l) C.bs i en s i' en'∧Rd8 C i' en' w'∧FX C w w':=by
 have HN:=hide (rNumber_any C i en w h 2 (by omega));have hB:=h.hB;clear h;go_enter Tryz.func99,Tryz.ntmps99;go_wp2_with fail;refine (unhide HN).mono ?_;rintro e w1 ⟨n,j,ej,rfl,hn,g1,R1,f1⟩;obtain ⟨a,c,q1,hE⟩:=R1.es;have c1:=bx_cell q1 1 _ rfl;have HT:=hide (ctagAt_any w1 a C.l.length c C.l hE (by have:=R1.few;omega) n (by unfold fitI;omega));have HG:=hide g1;have HR:=hide (And.intro R1 f1);clear HN g1 R1 f1 q1;go_wp2_with fail;refine (unhide HT).mono ?_;rintro e w2 ⟨rfl,e2⟩;have e2':=e2.symm;clear e2;subst e2'
 by_cases ht:tagE C.l n=7
 · have hin:=tagE_in (l:=C.l) (i:=n) (by rw [ht];decide)
   have hA:=(unhide HR).1.cl n ht;have hin2:=tagE_in (l:=C.l) (i:=(atE C.l n).a) (by rw [hA];decide);obtain ⟨k,rfl⟩:∃k:Nat,n=k:=⟨n.toNat,by omega⟩;obtain ⟨k2,hk2⟩:∃k2:Nat,(atE C.l (k:Int)).a=k2:=⟨(atE C.l (k:Int)).a.toNat,by omega⟩;obtain ⟨b,o,rfl,hE2⟩:=hE.2.resolve_left (by omega);obtain ⟨q0,q1,q2,q3,q4⟩:=ents_at hE2 (k:=k) (by omega);obtain ⟨r0,r1,r2,r3,r4⟩:=ents_at hE2 (k:=k2) (by omega);rw [hk2] at q3 hin2;have hk0:(0:Int)≤(k:Int):=by omega
   have hk1:(k:Int)<(C.l.length:Int):=by omega
   have hk3:(0:Int)≤(k2:Int):=by omega
   have hk4:(k2:Int)<(C.l.length:Int):=by omega
   have hmem:Hid (∃x∈C.l,(atE C.l (k2:Int)).text=x.text):=by
    have hl:k2<C.l.length:=by omega
    refine hide ⟨C.l[k2],List.getElem_mem hl,?_⟩;unfold atE;rw [if_pos (Int.natCast_nonneg _),Int.toNat_natCast,List.getElem?_eq_getElem hl];rfl
   have hcr:clsR C.l (k:Int)=some (atE C.l (k2:Int)).text:=by
    unfold clsR;rw [if_pos ht,hk2]
   have HGU:Hid (Got (nameR C.l) C.bs i en (atE C.l (k2:Int)).text j ej):=hide ⟨(unhide HG).1,fun e v0 r hr=>by
    unfold nameR at hr;obtain ⟨⟨m,s1⟩,ha,hr⟩:=Option.bind_eq_some_iff.1 hr;obtain ⟨rfl,e1,d1⟩:=(unhide HG).2 e _ _ ha;simp only at hr;rw [hcr,Option.bind_some] at hr;injection hr with hr
    injection hr with h1 h2
    exact ⟨h1,e1,d1.trans h2⟩⟩
   have HGV:Hid (Got (superR C.l) C.bs i en (atE C.l (k2:Int)).text j ej):=hide ⟨(unhide HG).1,fun e v0 r hr=>by
    unfold superR at hr;obtain ⟨⟨m,s1⟩,ha,hr⟩:=Option.bind_eq_some_iff.1 hr;obtain ⟨rfl,e1,d1⟩:=(unhide HG).2 e _ _ ha;simp only at hr;have hz:=(unhide HR).1.z0;have hpos:0<(k:Int):=by
     rcases Nat.eq_zero_or_pos k with h0 | h0
     · rw [h0] at ht
       exact absurd ht hz
     · omega
    rw [if_pos hpos,hcr,Option.bind_some] at hr;injection hr with hr
    injection hr with h1 h2
    exact ⟨h1,e1,d1.trans h2⟩⟩
   clear hE hE2 HT HG hn hA hcr hk2 hin hin2;rw [ht];generalize atE C.l (k:Int)=y at *;generalize atE C.l (k2:Int)=y2 at *;go_wp2
   go_quiet (fail)
   go_wp2;go_ret;obtain ⟨x,hx,e⟩:=unhide hmem;exact ⟨_,_,_,rfl,.inr ⟨x,hx,e⟩,unhide HGU,unhide HGV,(unhide HR).1.drewN _,(unhide HR).2.drewN hB _⟩
 · have ht':(tagE C.l n != 7)=true:=by simpa using ht
   have hcr:clsR C.l n=none:=by
    unfold clsR;rw [if_neg ht]
   have HGU:Hid (Got (nameR C.l) C.bs i en [] j ej):=hide ⟨(unhide HG).1,fun e v0 r hr=>by
    unfold nameR at hr;obtain ⟨⟨m,s1⟩,ha,hr⟩:=Option.bind_eq_some_iff.1 hr;obtain ⟨rfl,e1,d1⟩:=(unhide HG).2 e _ _ ha;simp only at hr;rw [hcr] at hr;cases hr⟩
   have HGV:Hid (Got (superR C.l) C.bs i en [] j ej):=hide ⟨(unhide HG).1,fun e v0 r hr=>by
    unfold superR at hr;obtain ⟨⟨m,s1⟩,ha,hr⟩:=Option.bind_eq_some_iff.1 hr;obtain ⟨rfl,e1,d1⟩:=(unhide HG).2 e _ _ ha;simp only at hr
    by_cases hp:0<n
    · rw [if_pos hp,hcr] at hr
      cases hr
    · rw [if_neg hp,Option.bind_some] at hr
      injection hr with hr
      injection hr with h1 h2
      exact ⟨h1,e1,d1.trans h2⟩⟩
   clear hE HT HG hn ht hcr;generalize tagE C.l n=tt at *;go_wp2;go_ret;exact ⟨[],_,_,rfl,.inl rfl,unhide HGU,unhide HGV,(unhide HR).1,(unhide HR).2⟩
theorem entsR_le {bs:List UInt8} {n:Nat}:∀(f:Nat) (l:List Ent) (i:Nat),i≤bs.length→(entsR bs n f l i).2.2≤bs.length
 | 0,l,i,h=>h
 | f+1,l,i,h=>by
  unfold entsR;split
  · exact h
  · simp only
    split
    · exact entR_le h
    · exact entsR_le f _ _ (entR_le h)
theorem readP_at_le {bs:List UInt8} {i:Nat} (h:i≤bs.length):(readP bs i).2.2≤bs.length:=by
 have hg:=getW_le (bs:=bs) (i:=i) (k:=2) (sg:=false) h;unfold readP;simp only;split
 · exact hg
 · split
   · exact hg
   · have:=entsR_le (bs:=bs) (n:=(getW bs i 2 false).1.toNat) (getW bs i 2 false).1.toNat [ent0] _ hg
     split
     · exact this
     · split
       · exact this
       · exact this
theorem readP_leads {bs:List UInt8} {i:Nat} (h:(readP bs i).2.1=0):checkP (readP bs i).1=true:=by
 unfold readP at h ⊢;simp only at h ⊢;split
 · rename_i h1
   rw [if_pos h1] at h;exact absurd h h1
 · rename_i h1
   rw [if_neg h1] at h;split
   · rename_i h2
     rw [if_pos h2] at h;exact absurd (show (70:Int)=0 from h) (by decide)
   · rename_i h2
     rw [if_neg h2] at h;split
     · rename_i h3
       rw [if_pos h3] at h;exact absurd h h3
     · rename_i h3
       rw [if_neg h3] at h;split
       · rename_i h4
         rw [if_pos h4] at h;exact absurd (show (70:Int)=0 from h) (by decide)
       · rename_i h4
         generalize checkP _=b at *;cases b
         · exact absurd (.inr rfl) h4
         · rfl
theorem checkP_cl {l:List Ent} (h:checkP l=true):l.length≤1024∧(∀i:Int,tagE l i=7→tagE l (atE l i).a=1)∧tagE l 0≠7:=by
 have hc:=(checkP_all l).1 h;refine ⟨hc.1.2,fun i hi=>?_,?_⟩
 · have hin:=tagE_in (l:=l) (i:=i) (by rw [hi];decide)
   obtain ⟨k,rfl⟩:∃k:Nat,i=k:=⟨i.toNat,by omega⟩;have hl:k<l.length:=by omega
   have hr:=hc.2 k hl;have ha:atE l (k:Int)=l[k]:=by rw [atE_nat,List.getElem?_eq_getElem hl];rfl
   have h7:(l[k]).tag=7:=by rw [←ha];exact hi
   rw [ha];have ho:okE l l[k]=true:=by
    unfold rightAt at hr;rw [ha] at hr;split at hr
    · have h0:=of_decide_eq_true hr
      rw [h0] at h7;exact absurd h7 (by decide)
    · rw [Bool.and_eq_true] at hr
      exact hr.1
   unfold okE at ho;simp only [h7] at ho;simp at ho;exact ho.1
 · unfold checkP at h
   simp only [Bool.and_eq_true,decide_eq_true_eq] at h;unfold tagE atE;rw [if_pos (by decide)];show ((l[(0:Int).toNat]?).getD ent0).tag≠7;have:(0:Int).toNat=0:=rfl;rw [this,h.1.2];decide
def PoolPost (X x B:Nat) (bs:List UInt8) (i:Nat) (en:Bool) (G:List Ent×Int×Nat) (w:World) (e:Ending) (w':World):Prop:=
 ∃i' en' l,e=.returned (.tuple #[])∧(en=true→en'=true)∧(en=false→G.2.1=0→l=G.1∧en'=false∧i'=G.2.2)∧(en'=false→G.2.1=0)∧Rd8 ⟨X,x,B,bs,l⟩ i' en' w'∧FX ⟨X,x,B,bs,[]⟩ w w'
theorem rPool_any (C:Cr) (hl:C.l=[]) (i:Nat) (en:Bool) (w:World) (h:Rd8 C i en w) :
 Calls Tryz.prog 98 #[.pointer (some ⟨C.X,0,none⟩)] w (PoolPost C.X C.x C.B C.bs i en (readP C.bs i) w):=by
 obtain ⟨X,x,B,bs,l0⟩:=C;simp only at hl;subst hl;obtain ⟨F,hF⟩:=h.rd;have hU:=kRead_all F w B x bs i hF h.len h.hi;have hck:=readP_leads (bs:=bs) (i:=i);have hnil:=readP_nil (bs:=bs) (i:=i)
 have hst:∀W a c l j e1,Kx x w W→Below B w W→(∃F',RD F' W B x bs j)→j≤bs.length→PB W a c l→(l=[]∨checkP l=true) →
  Rd8 ⟨X,x,B,bs,l⟩ j e1 ((W.setCell ⟨X,1,none⟩ (.slice a l.length c)).setCell ⟨X,2,none⟩ (.bool e1))∧FX ⟨X,x,B,bs,[]⟩ w ((W.setCell ⟨X,1,none⟩ (.slice a l.length c)).setCell ⟨X,2,none⟩ (.bool e1)):=fun W a c l j e1 k1 k2 k3 k4 k5 k6=>by
  have hs:∀k,k≠X→((W.setCell ⟨X,1,none⟩ (.slice a l.length c)).setCell ⟨X,2,none⟩ (.bool e1)).heap[k]?=W.heap[k]?:=fun k hk=>(Below.heap_setCell _ _ _ _ hk).trans (Below.heap_setCell _ _ _ _ hk)
  obtain ⟨a0,c0,q1,_⟩:=h.pl;have hXl:=h.X_lt;have hXb:W.heap[X]?=_:=(k1 X hXl h.ne).trans q1;have hne:∀(k:Nat) (Z:Array Value) (T:TypeId),W.heap[k]?=some (.cells Z T (0,0))→T≠127→k≠X:=fun k Z T hk hT e=>by
   subst e;rw [hXb] at hk;injection hk with hk
   injection hk with _ hk
   exact hT hk.symm
  obtain ⟨F',y,d,hF',h3⟩:=k3;have hcl:l.length≤1024∧(∀i:Int,tagE l i=7→tagE l (atE l i).a=1)∧tagE l 0≠7:=by
   rcases k6 with rfl | k6
   · refine ⟨by simp,fun i hi=>?_,by decide⟩
     have:=tagE_in (l:=[]) (i:=i) (by rw [hi];decide);simp at this;omega
   · exact checkP_cl k6
  refine ⟨⟨h.ne,h.hX,⟨F',y,d,hF',h3.keep (hs _ (fun e=>h.ne e.symm)) ?_⟩,k4,h.len,⟨a,c,heap_setCell_same _ _ 2 _ _ _ (heap_setCell_same _ _ 1 _ _ _ hXb),?_⟩,hcl.1,hcl.2.1,hcl.2.2,h.one⟩,(k2.setCell (p:=⟨X,1,none⟩) h.hX _).setCell (p:=⟨X,2,none⟩) h.hX _,fun k hk hn=>(hs k (fun e=>hn (.inl e))).trans (k1 k hk (fun e=>hn (.inr e)))⟩
  · rcases h3.row.2 with ⟨hv,_⟩ | ⟨g,cap,cur,hv,_,hh,_⟩
    · cases hv
    · injection hv with hv
      injection hv with hv
      injection hv with hv
      subst hv;exact hs _ (hne _ _ _ hh (by decide))
  · rcases k5 with k5 | ⟨q,e1,e2,k5⟩
    · exact .inl k5
    · exact .inr ⟨q,e1,e2,(hs _ (hne _ _ _ k5 (by decide))).trans k5⟩
 have HST:=hide hst;have HCK:=hide hck;have hjl:(readP bs i).2.1=0→(readP bs i).2.2≤bs.length:=fun _=>readP_at_le h.hi
 have HJL:=hide hjl;have HNIL:=hide hnil;have hi:=h.hi;obtain ⟨a,c,q1,_⟩:=h.pl;have c0:=bx_cell q1 0 _ rfl;have z1:=bx_thaw q1 1;have z2:=bx_thaw q1 2;have hXl:=h.X_lt;have hne:=h.ne;have HQ1:=hide q1;have HU:=hide hU;clear hst hck hjl hnil h hU hF q1;generalize readP bs i=G at *;obtain ⟨L,er,jj⟩:=G;simp only at HU HCK HJL HNIL ⊢;go_enter Tryz.func98,Tryz.ntmps98;go_wp2_with fail;refine (unhide HU).mono ?_;rintro e w1 ⟨⟨a1,c1,rfl,_,pb⟩,r1,r2,r3,r4⟩;have hXb:w1.heap[X]?=some (.cells #[.pointer (some ⟨x,0,none⟩),.slice a 0 c,.bool en] 127 (0,0)):=(r4 X hXl hne).trans (unhide HQ1);have d1:=bx_cell hXb 1 _ rfl;have d2:=bx_cell hXb 2 _ rfl;have y1:=bx_thaw hXb 1;have y2:=bx_thaw hXb 2;have PBH:=hide pb;have H1:=hide r1;have H2:=hide r2.below;have H3:=hide r3;have H4:=hide r4;clear HU c0 z1 z2 r1 r2 r3 r4 pb HQ1 hXb
 by_cases he:er=0
 · subst he
   obtain ⟨F',hF',_⟩:=unhide H1 rfl;have HR:=hide (fun e1=>unhide HST w1 a1 c1 L jj e1 (unhide H4) (unhide H2) ⟨F',hF'⟩ (unhide HJL rfl) (unhide PBH) (.inr (unhide HCK rfl)));clear HST HCK HJL HNIL PBH H1 H2 H3 H4 hF';cases en with
   | true=>
    go_wp2;go_end0;exact ⟨jj,true,L,rfl,fun _=>rfl,(fun e=>by cases e),(fun e=>by cases e),(unhide HR true).1,(unhide HR true).2⟩
   | false=>
    go_wp2;go_end0;exact ⟨jj,false,L,rfl,(fun e=>e),fun _ _=>⟨rfl,rfl,rfl⟩,fun _=>rfl,(unhide HR false).1,(unhide HR false).2⟩
 · have hL:=unhide HNIL he
   subst hL;have he':(er != 0)=true:=by simp [he]
   have HR:=hide (unhide HST w1 a1 c1 [] i true (unhide H4) (unhide H2) ⟨F,unhide H3 he⟩ hi (unhide PBH) (.inl rfl));have HE:=hide he;clear HST HCK HJL HNIL PBH H1 H2 H3 H4;simp only [List.length_nil] at *;cases en with
   | true=>
    go_wp2;go_end0;exact ⟨i,true,[],rfl,fun _=>rfl,(fun e=>by cases e),(fun e=>by cases e),(unhide HR).1,(unhide HR).2⟩
   | false=>
    go_wp2;go_end0;exact ⟨i,true,[],rfl,fun _=>rfl,fun _ e=>absurd e (unhide HE),(fun e=>by cases e),(unhide HR).1,(unhide HR).2⟩
end Go.Proofs.YtlabllgifkklhaaGreatDoor
namespace Go.Proofs.YtlabllgifkklhaaGreatDoor
open Go.RowKit Go.Maps
def Fst (q:Nat→Bool) (n i v:Nat):Prop:=(v=0∧∀j,i<j→j<n→q j=false)∨(i<v∧v<n∧q v=true∧∀j,i<j→j<v→q j=false)
theorem Fst.start (q:Nat→Bool) (n:Nat):Fst q n (n-1) 0:=.inl ⟨rfl,fun j h1 h2=>by omega⟩
theorem Fst.hit {q:Nat→Bool} {n i:Nat} (h:q (i+1)=true) (hn:i+1<n):Fst q n i (i+1):=.inr ⟨by omega,hn,h,fun j h1 h2=>by omega⟩
theorem Fst.miss {q:Nat→Bool} {n i v:Nat} (h:Fst q n (i+1) v) (hq:q (i+1)=false):Fst q n i v:=by
 rcases h with ⟨h1,h2⟩ | ⟨h1,h2,h3,h4⟩
 · refine .inl ⟨h1,fun j a b=>?_⟩
   by_cases e:j=i+1
   · subst e;exact hq
   · exact h2 j (by omega) b
 · refine .inr ⟨by omega,h2,h3,fun j a b=>?_⟩
   by_cases e:j=i+1
   · subst e;exact hq
   · exact h4 j (by omega) b
theorem Fst.first {q:Nat→Bool} {n v:Nat} (h:Fst q n 0 v):((List.range n).find? fun i=>decide (1≤i)&&q i).getD 0=v:=by
 rcases h with ⟨rfl,h2⟩ | ⟨h1,h2,h3,h4⟩
 · by_cases e:((List.range n).find? fun i=>decide (1≤i)&&q i).getD 0=0
   · exact e
   · obtain ⟨a,b,c,_⟩:=first_some rfl e
     rw [h2 _ a b] at c;cases c
 · exact first_eq h1 h2 h3 (fun j a b=>h4 j a b)
def qUtf (l:List Ent) (s:List UInt8) (j:Nat):Bool:=decide (l[j]?=some (eUtf s))
def qCls (l:List Ent) (s:List UInt8) (j:Nat):Bool:=decide ((atE l (j:Int)).tag=7∧(atE l (atE l (j:Int)).a).text=s)
def MapF (w:World) (m:Nat) (q:List UInt8→Nat→Bool) (n i:Nat):Prop:=∃N D,N+i<n+1∧w.ownsMap Tryz.prog 9 (plainElem (H:=Unit) Tryz.prog 3) m N D∧∀s,∃v:Nat,D.atKey (.string s) (.lit (.int .i64 0))=.lit (.int .i64 (v:Int))∧Fst (q s) n i v
theorem MapF.keep {w w':World} {m n i:Nat} {q:List UInt8→Nat→Bool} (h:MapF w m q n i) (e:w'.heap[m]?=w.heap[m]?):MapF w' m q n i:=by
 obtain ⟨N,D,h0,⟨es,clock,h1,h2⟩,h3⟩:=h;exact ⟨N,D,h0,⟨es,clock,e.trans h1,h2⟩,h3⟩
theorem MapF.lt {w:World} {m n i:Nat} {q:List UInt8→Nat→Bool} (h:MapF w m q n i):m<w.heap.size:=by
 obtain ⟨N,D,_,h1,_⟩:=h;exact h1.lt
theorem MapF.skip {w:World} {m n i k:Nat} {q:List UInt8→Nat→Bool} (h:MapF w m q n k) (hk:k=i+1) (hq:∀s,q s k=false):MapF w m q n i:=by
 subst hk;obtain ⟨N,D,h0,h1,h2⟩:=h
 exact ⟨N,D,by omega,h1,fun s=>by
  obtain ⟨v,h3,h4⟩:=h2 s;exact ⟨v,h3,h4.miss (hq s)⟩⟩
theorem MapF.put {w:World} {m n i k:Nat} {q:List UInt8→Nat→Bool} (h:MapF w m q n k) (hk:k=i+1) (hn:k<n) (hnn:n≤100000) {s0:List UInt8} (hs:fitS s0) (hq:∀s,q s k=decide (s=s0)) :
 ∃w',(Instr.mapUpdate 109 (.map (some m)) (.string ⟨s0.toArray⟩) (.int .i64 (k:Int))).run Tryz.prog w=.ok () w'∧MapF w' m q n i∧w.grownBy w' (some m):=by
 subst hk;obtain ⟨N,D,h0,h1,h2⟩:=h
 obtain ⟨w',hrun,own,gr⟩:=h1.update nlaw Tryz.underlying109 (by unfold maxLen;omega) (nkey hs) (plainElem_int (H:=Unit) (P:=Tryz.prog) Tryz.underlying3 (a:=((i+1:Nat):Int)) (q:=.i64) (by
  have h1:=wrap64_wf ((i+1:Nat):Int);have h2:wrap64 ((i+1:Nat):Int)=((i+1:Nat):Int):=by unfold wrap64;omega
  rw [h2] at h1;exact h1))
 refine ⟨w',hrun,⟨N+1,_,by omega,own,fun s=>?_⟩,gr⟩
 by_cases e:s=s0
 · subst e
   exact ⟨i+1,Maps.atKey_put_same h1.isMap (k:=.string s) True.intro _ _,Fst.hit (by rw [hq];simp) hn⟩
 · obtain ⟨v,h3,h4⟩:=h2 s
   exact ⟨v,by rw [Maps.atKey_put_other (fun e2=>e (by injection e2))];exact h3,h4.miss (by rw [hq];simpa using e)⟩
theorem MapF.is {w:World} {m n:Nat} {q:List UInt8→Nat→Bool} {f:List UInt8→Nat} (h:MapF w m q n 0) (hf:∀s,f s=((List.range n).find? fun i=>decide (1≤i)&&q s i).getD 0):MapIs w m f:=by
 obtain ⟨N,D,_,h1,h2⟩:=h;exact ⟨N,D,h1,fun s=>by
  obtain ⟨v,h3,h4⟩:=h2 s;rw [h3,hf,h4.first]⟩
theorem MapF.made (w:World) (q:List UInt8→Nat→Bool) (n:Nat) (hn:1≤n):MapF (w.alloc (.map #[] 0)) w.heap.size q n (n-1):=
 ⟨0,.map [],by omega,World.ownsMap_made (H:=Unit) w Tryz.prog 9 (plainElem Tryz.prog 3),fun s=>⟨0,rfl,Fst.start _ _⟩⟩
theorem qUtf_at {l:List Ent} (hr:rightL l) {k:Nat} (hk:k<l.length) (s:List UInt8):qUtf l s k=decide ((atE l (k:Int)).tag=1∧s=(atE l (k:Int)).text):=by
 have e:l[k]?=some (atE l (k:Int)):=by rw [atE_nat,List.getElem?_eq_getElem hk];rfl
 unfold qUtf;rw [Bool.eq_iff_iff,e];simp only [decide_eq_true_eq];constructor
 · intro h
   injection h with h
   rw [h];exact ⟨rfl,rfl⟩
 · rintro ⟨h1,rfl⟩
   have ho:=right_ok hr (i:=(k:Int)) (by omega);unfold okE at ho;simp [h1] at ho;exact congrArg some ho.2
structure NmF (w:World) (B g mt mc:Nat) (p:Sl) (l:List Ent) (n i:Nat) (W:World):Prop where
 blk:W.heap[g]?=some (.cells #[p.v,.map (some mt),.map (some mc)] 111 (0,0))
 hg:B≤g
 ht:B≤mt
 hc:B≤mc
 gt:g≠mt
 gc:g≠mc
 tc:mt≠mc
 texts:MapF W mt (qUtf l) n i
 classes:MapF W mc (qCls l) n i
 bel:Below B w W
theorem NmF.keep {w W W':World} {B g mt mc n i:Nat} {p:Sl} {l:List Ent} (h:NmF w B g mt mc p l n i W) (hB:B≤W.heap.size) (f:Below W.heap.size W W'):NmF w B g mt mc p l n i W':=
 ⟨(f.block g (lt_of_heap h.blk)).trans h.blk,h.hg,h.ht,h.hc,h.gt,h.gc,h.tc,h.texts.keep (f.block mt h.texts.lt),h.classes.keep (f.block mc h.classes.lt),h.bel.trans (f.mono hB)⟩
theorem NmF.c1 {w W:World} {B g mt mc n i:Nat} {p:Sl} {l:List Ent} (h:NmF w B g mt mc p l n i W):W.cell? ⟨g,1,none⟩=some (.map (some mt)):=by rw [cell_of_row _ _ _ _ _ _ h.blk];rfl
theorem NmF.c2 {w W:World} {B g mt mc n i:Nat} {p:Sl} {l:List Ent} (h:NmF w B g mt mc p l n i W):W.cell? ⟨g,2,none⟩=some (.map (some mc)):=by rw [cell_of_row _ _ _ _ _ _ h.blk];rfl
theorem nOf_any (w:World) (p:Sl) (l:List Ent) (h:EIn w p.a p.n p.c l) (hc:checkP l=true) :
 Calls Tryz.prog 50 #[p.v] w fun e w'=>∃g mt mc,e=.returned (.pointer (some ⟨g,0,none⟩))∧Nm w' g mt mc p l∧(w.heap.size≤g∧w.heap.size≤mt∧w.heap.size≤mc)∧Below w.heap.size w w':=by
 obtain ⟨a,n,c⟩:=p;simp only at h;obtain ⟨⟨hl1,hl2⟩,hr⟩:=checkP_right.1 hc;have hln:=h.arg.es.1;have hmm:=@run_makeMap Tryz.prog;obtain ⟨wz,hwz⟩:∃wz,wz=((w.alloc (.map #[] 0)).alloc (.map #[] 0)).alloc (.cells #[.slice a n c,.map (some w.heap.size),.map (some (w.heap.size+1))] 111):=⟨_,rfl⟩;have hz0:NmF w w.heap.size (w.heap.size+2) w.heap.size (w.heap.size+1) ⟨a,n,c⟩ l n (n-1) wz:=by
  have b1:Below w.heap.size w wz:=by
   rw [hwz];exact (((Below.refl _ _).alloc (Nat.le_refl _) _).alloc (by simp) _).alloc (by simp;omega) _
  refine ⟨?_,by omega,by omega,by omega,by omega,by omega,by omega,?_,?_,b1⟩
  · rw [hwz]
    have:=heap_alloc_last ((w.alloc (.map #[] 0)).alloc (.map #[] 0)) (.cells #[.slice a n c,.map (some w.heap.size),.map (some (w.heap.size+1))] 111);have e:((w.alloc (.map #[] 0)).alloc (.map #[] 0)).heap.size=w.heap.size+2:=by simp
    rw [e] at this;exact this
  · rw [hwz]
    exact (MapF.made w (qUtf l) n (by omega)).keep ((heap_alloc_old _ _ (by simp;omega)).trans (heap_alloc_old _ _ (by simp)))
  · rw [hwz]
    have h2:=MapF.made (w.alloc (.map #[] 0)) (qCls l) n (by omega);have e:(w.alloc (.map #[] 0)).heap.size=w.heap.size+1:=by simp
    rw [e] at h2;exact h2.keep (heap_alloc_old _ _ (by simp))
 have HW:=hide hwz;have HZ:=hide hz0;have HA:=hide h;clear hwz hz0 h;unfold Sl.v;simp only;go_enter Tryz.func50,Tryz.ntmps50;go_wp2;rw [←unhide HW];generalize w.heap.size+2=g at *;generalize w.heap.size+1=mc at *;have e1:(n:Int)-1=((n-1:Nat):Int):=by omega
 rw [e1]
 go_loopw [4] (fun i wr=>∃k:Nat,k<n∧i=.int .i64 k∧NmF w w.heap.size g w.heap.size mc ⟨a,n,c⟩ l n k wr) (fun i _=>(intOf i).toNat)
 case atStart=>exact ⟨n-1,by omega,rfl,unhide HZ⟩
 case round=>
  obtain ⟨k,hk,rfl,hF⟩:=hrel;have hsz:w.heap.size≤wr.heap.size:=hF.bel.size
  by_cases hkz:k=0
  · subst hkz
    have HN:Hid (Nm wr g w.heap.size mc ⟨a,n,c⟩ l):=⟨hF.blk,hF.texts.is (fun s=>by unfold utfN findE;rw [hln];rfl),hF.classes.is (fun s=>by unfold clsN;rw [hln];rfl),(unhide HA).below hF.bel,hc⟩;have HB:=hide hF.bel;have HG:=hide (And.intro hF.hg (And.intro hF.ht hF.hc));clear hF;go_wp2;go_ret;exact ⟨g,w.heap.size,mc,rfl,unhide HN,unhide HG,unhide HB⟩
  · obtain ⟨i,hi⟩:∃i,k=i+1:=⟨k-1,by omega⟩
    have hlt1:(k:Int)<(n:Int):=by omega
    have hk0:(0:Int)≤(k:Int):=by omega
    have hkp:(0:Int)<(k:Int):=by omega
    have es:=(unhide HA).arg.es.below hF.bel;obtain ⟨b,o,rfl,hE⟩:=es.2.resolve_left (by omega);obtain ⟨q0,q1,q2,q3,q4⟩:=ents_at hE (k:=k) (by omega);have hq1:=fun s=>qUtf_at hr (k:=k) (by omega) s
    have hq2:∀s,qCls l s k=decide ((atE l (k:Int)).tag=7∧s=(atE l (atE l (k:Int)).a).text):=fun s=>by
     unfold qCls
     congr 1
     exact propext ⟨fun h=>⟨h.1,h.2.symm⟩,fun h=>⟨h.1,h.2.symm⟩⟩
    have hxm:=List.mem_of_getElem? (es.at (k:=k) (by omega));have hfit:=(unhide HA).fit;have hft:fitS (atE l (k:Int)).text:=hfit.1 _ hxm;have b0:Below wr.heap.size wr (wr.alloc (.cells #[.int .i64 (atE l (k:Int)).tag,.string ⟨(atE l (k:Int)).text.toArray⟩,.int .i64 (atE l (k:Int)).n,.int .i64 (atE l (k:Int)).a,.int .i64 (atE l (k:Int)).b] 55)):=(Below.refl _ _).alloc (Nat.le_refl _) _;have hx0:=heap_alloc_last wr (.cells #[.int .i64 (atE l (k:Int)).tag,.string ⟨(atE l (k:Int)).text.toArray⟩,.int .i64 (atE l (k:Int)).n,.int .i64 (atE l (k:Int)).a,.int .i64 (atE l (k:Int)).b] 55);have hF1:=hF.keep hsz b0;have hb5:∀(m:Nat) (w5:World),w.heap.size≤m→(wr.alloc (.cells #[.int .i64 (atE l (k:Int)).tag,.string ⟨(atE l (k:Int)).text.toArray⟩,.int .i64 (atE l (k:Int)).n,.int .i64 (atE l (k:Int)).a,.int .i64 (atE l (k:Int)).b] 55)).drew.grownBy w5 (some m)→Below w.heap.size w w5∧∀j,j<wr.heap.size+1→j≠m→w5.heap[j]?=(wr.alloc (.cells #[.int .i64 (atE l (k:Int)).tag,.string ⟨(atE l (k:Int)).text.toArray⟩,.int .i64 (atE l (k:Int)).n,.int .i64 (atE l (k:Int)).a,.int .i64 (atE l (k:Int)).b] 55)).heap[j]?:=fun m w5 hm gr=>by
     have f:=hF1.bel;refine ⟨f.trans (((Below.refl w.heap.size _).drew).grown gr f.size (fun j hj=>by injection hj with hj;subst hj;exact hm)),fun j hj hjm=>?_⟩;exact gr.block j (by simpa using hj) (fun e=>hjm (by injection e))
    have hglt:g<wr.heap.size:=lt_of_heap hF.blk;have htlt:w.heap.size<wr.heap.size:=hF.texts.lt;have hclt:mc<wr.heap.size:=hF.classes.lt;have HI:=hide hi
    by_cases t1:(atE l (k:Int)).tag=1
    · have hput:=(hF1.texts.keep (w':=(wr.alloc (.cells #[.int .i64 (atE l (k:Int)).tag,.string ⟨(atE l (k:Int)).text.toArray⟩,.int .i64 (atE l (k:Int)).n,.int .i64 (atE l (k:Int)).a,.int .i64 (atE l (k:Int)).b] 55)).drew) rfl)
      obtain ⟨w5,hrun,hm5,gr⟩:=hput.put hi (by omega) (by omega) hft (fun s=>by rw [hq1 s,t1];simp);obtain ⟨f5,h5⟩:=hb5 _ w5 (Nat.le_refl _) gr;have R5:Hid (NmF w w.heap.size g w.heap.size mc ⟨some ⟨b,o,none⟩,n,c⟩ l n i w5):=by
       refine ⟨(h5 g (by omega) hF.gt).trans hF1.blk,hF.hg,hF.ht,hF.hc,hF.gt,hF.gc,hF.tc,hm5,?_,f5⟩;have h6:=hF1.classes.keep (w':=w5) (h5 mc (by omega) (fun e=>hF.tc e.symm));exact h6.skip hi (fun s=>by rw [hq2 s,t1];simp)
      have z1:=hF1.c1;have hx5:=(h5 wr.heap.size (by omega) (by omega)).trans hx0;have z2:w5.cell? ⟨g,1,none⟩=some (.map (some w.heap.size)):=(unhide R5).c1;have z3:w5.cell? ⟨wr.heap.size,1,none⟩=some (.string ⟨(atE l (k:Int)).text.toArray⟩):=by rw [cell_of_row _ _ _ _ _ _ hx5];rfl
      clear hF hF1 hput hm5 gr h5 f5 hb5 hx5 es hE hxm hq1 hq2 b0 hi hfit hft;generalize atE l (k:Int)=xx at *;obtain ⟨xt,xtx,xn,xa,xb⟩:=xx;simp only at q0 q1 q2 q3 q4 hrun z1 z3 t1 hx0;subst t1;generalize (⟨xtx.toArray⟩:ByteArray)=xs at *;clear hx0;go_wp2
      go_region_held (fun W'=>W'.cell? ⟨g,1,none⟩=some (.map (some w.heap.size))∧W'.cell? ⟨wr.heap.size,1,none⟩=some (.string xs)) (go_keep) (fail)
      go_wp2;have hi:=unhide HI;go_roundw
      case rel=>exact ⟨i,by omega,by rw [hi];go_num,unhide R5⟩
      case measure=>simp [intOf];omega
    · have t1b:((atE l (k:Int)).tag==1)=false:=by simpa using t1
      by_cases t7:(atE l (k:Int)).tag=7
      · obtain ⟨j,hj,hjn⟩:∃j:Nat,(atE l (k:Int)).a=(j:Int)∧j<n:=by
         have ho:=right_ok hr (i:=(k:Int)) (by omega);unfold okE at ho;rw [if_neg (by omega),if_neg (by omega),if_neg (by omega),if_pos t7,Bool.and_eq_true,decide_eq_true_eq] at ho;obtain ⟨j,h1,h2,_⟩:=atE_in (l:=l) (i:=(atE l (k:Int)).a) (by have:=ho.1;unfold tagE at this;omega);exact ⟨j,h1,by omega⟩
        obtain ⟨p0,p1,p2,p3,p4⟩:=ents_at hE (k:=j) (by omega);have hft2:fitS (atE l (j:Int)).text:=hfit.1 _ (List.mem_of_getElem? (es.at (k:=j) (by omega)));rw [hj] at hq2;have hput:=(hF1.classes.keep (w':=(wr.alloc (.cells #[.int .i64 (atE l (k:Int)).tag,.string ⟨(atE l (k:Int)).text.toArray⟩,.int .i64 (atE l (k:Int)).n,.int .i64 (atE l (k:Int)).a,.int .i64 (atE l (k:Int)).b] 55)).drew) rfl);obtain ⟨w5,hrun,hm5,gr⟩:=hput.put hi (by omega) (by omega) hft2 (fun s=>by rw [hq2 s,t7];simp);obtain ⟨f5,h5⟩:=hb5 _ w5 hF.hc gr;have R5:Hid (NmF w w.heap.size g w.heap.size mc ⟨some ⟨b,o,none⟩,n,c⟩ l n i w5):=by
         refine ⟨(h5 g (by omega) hF.gc).trans hF1.blk,hF.hg,hF.ht,hF.hc,hF.gt,hF.gc,hF.tc,?_,hm5,f5⟩;have h6:=hF1.texts.keep (w':=w5) (h5 w.heap.size (by omega) hF.tc);exact h6.skip hi (fun s=>by rw [hq1 s,t7];simp)
        have z1:=hF1.c2;have hx5:=(h5 wr.heap.size (by omega) (by omega)).trans hx0;have z2:w5.cell? ⟨g,2,none⟩=some (.map (some mc)):=(unhide R5).c2;have z3:w5.cell? ⟨wr.heap.size,3,none⟩=some (.int .i64 (j:Int)):=by rw [cell_of_row _ _ _ _ _ _ hx5];show some (Value.int _ (atE l (k:Int)).a)=_;rw [hj]
        have f6:=f5;have z4:w5.cell? ⟨b,o+j*5+1,none⟩=some (.string ⟨(atE l (j:Int)).text.toArray⟩):=by
         have es5:=(unhide HA).arg.es.below f6;obtain ⟨b',o',e',hE'⟩:=es5.2.resolve_left (by omega);injection e' with e'
         injection e' with e1' e2'
         subst e1' e2';exact (ents_at hE' (k:=j) (by omega)).2.1
        have hj0:(0:Int)≤(j:Int):=by omega
        have hj1:(j:Int)<(n:Int):=by omega
        clear hF hF1 hput hm5 gr h5 f5 f6 hb5 hx5 es hE hxm hq1 hq2 b0 hi hfit hft hft2;generalize atE l (k:Int)=xx at *;obtain ⟨xt,xtx,xn,xa,xb⟩:=xx;simp only at q0 q1 q2 q3 q4 hrun z1 z3 t7 hx0 hj t1b;subst t7 hj;generalize (⟨xtx.toArray⟩:ByteArray)=xs at *;generalize (⟨(atE l (j:Int)).text.toArray⟩:ByteArray)=ys at *;clear hx0 t1;go_wp2
        go_region_held (fun W'=>W'.cell? ⟨g,2,none⟩=some (.map (some mc))∧W'.cell? ⟨wr.heap.size,3,none⟩=some (.int .i64 (j:Int))∧W'.cell? ⟨b,o+j*5+1,none⟩=some (.string ys)) (go_keep) (fail)
        go_wp2;have hi:=unhide HI;go_roundw
        case rel=>exact ⟨i,by omega,by rw [hi];go_num,unhide R5⟩
        case measure=>simp [intOf];omega
      · have t7b:((atE l (k:Int)).tag==7)=false:=by simpa using t7
        have R5:Hid (NmF w w.heap.size g w.heap.size mc ⟨some ⟨b,o,none⟩,n,c⟩ l n i (wr.alloc (.cells #[.int .i64 (atE l (k:Int)).tag,.string ⟨(atE l (k:Int)).text.toArray⟩,.int .i64 (atE l (k:Int)).n,.int .i64 (atE l (k:Int)).a,.int .i64 (atE l (k:Int)).b] 55))):=by
         have h1:=hF1.texts;have h2:=hF1.classes;exact ⟨hF1.blk,hF.hg,hF.ht,hF.hc,hF.gt,hF.gc,hF.tc,h1.skip hi (fun s=>by rw [hq1 s];simp [t1]),h2.skip hi (fun s=>by rw [hq2 s];simp [t7]),hF1.bel⟩
        clear hF hF1 hb5 es hE hxm hq1 hq2 b0 hi hfit hft hx0 t1 t7;generalize atE l (k:Int)=xx at *;obtain ⟨xt,xtx,xn,xa,xb⟩:=xx;simp only at q0 q1 q2 q3 q4 t1b t7b R5;generalize (⟨xtx.toArray⟩:ByteArray)=xs at *;go_wp2;have hi:=unhide HI;go_roundw
        case rel=>exact ⟨i,by omega,by rw [hi];go_num,unhide R5⟩
        case measure=>simp [intOf];omega
theorem one_local (w:World) (X:Array Value) (t:TypeId):∃w0,w.alloc (.cells X t)=w0∧Below w.heap.size w w0∧∀W,Below w0.heap.size w0 W→∀q v,X[q]?=some v→W.cell? ⟨w.heap.size,q,none⟩=some v:=by
 refine ⟨_,rfl,(Below.refl _ _).alloc (Nat.le_refl _) _,fun W f q v h=>?_⟩;have c0:=(f.block w.heap.size (by simp)).trans (heap_alloc_new w (.cells X t));unfold World.cell?;simp [c0,h]
end Go.Proofs.YtlabllgifkklhaaGreatDoor
