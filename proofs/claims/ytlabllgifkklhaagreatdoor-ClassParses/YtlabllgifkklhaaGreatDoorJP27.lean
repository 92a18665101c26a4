/- Joined: GrE GrG GrH GrK CrQ. -/
import Derived.Test.YtlabllgifkklhaaGreatDoorJGrD
import Derived.Test.YtlabllgifkklhaaGreatDoorJP22
import Derived.Test.YtlabllgifkklhaaGreatDoorJPlQ
import Derived.Test.YtlabllgifkklhaaGreatDoorJP26
import Derived.Test.YtlabllgifkklhaaGreatDoorJP23
set_option linter.unusedVariables false
set_option maxRecDepth 100000
set_option maxHeartbeats 3200000
namespace Go.Proofs.YtlabllgifkklhaaGreatDoor
open Go.RowKit
structure Wr (wc w0:World) (X B:Nat) (p:Sl) (b0:List UInt8) (W:World) (ok:Bool) (bs:List UInt8) (n:Nat):Prop where
 hcB:wc.heap.size≤B
 gw:∃b,Gw X B p b (!ok) W∧(ok=true→b=b0++bs)∧b.length≤b0.length+n
 came:Below wc.heap.size wc W
 bel:Below B w0 W
 ks:Ks X w0 W
section
variable {wc w0:World} {X B:Nat} {p:Sl} {b0:List UInt8} {W W':World} {ok:Bool} {bs:List UInt8} {n:Nat}
theorem Wr.hB (h:Wr wc w0 X B p b0 W ok bs n):B≤W.heap.size:=by
 obtain ⟨b,g,_⟩:=h.gw;exact g.hB
theorem Wr.start {bad:Bool} (h:Gw X B p b0 bad W) (hW:Below wc.heap.size wc W) (hcB:wc.heap.size≤B):Wr wc W X B p b0 W (!bad) [] 0:=⟨hcB,⟨b0,by rw [Bool.not_not];exact h,fun _=>by simp,by omega⟩,hW,Below.refl _ _,fun _ _ _ _ _ h=>h⟩
theorem Wr.on (h:Wr wc w0 X B p b0 W ok bs n) (f:Below W.heap.size W W'):Wr wc w0 X B p b0 W' ok bs n:=by
 have hB:=h.hB;have hcB:=h.hcB;obtain ⟨b,g,g2,g3⟩:=h.gw;exact ⟨hcB,⟨b,g.below f,g2,g3⟩,h.came.trans (f.mono (by omega)),h.bel.trans (f.mono hB),h.ks.trans (Ks.of_below f)⟩
theorem Wr.imp {ok':Bool} {bs':List UInt8} {n':Nat} (h:Wr wc w0 X B p b0 W ok bs n) (h1:ok=ok') (h2:ok'=true→bs=bs') (h3:n≤n'):Wr wc w0 X B p b0 W ok' bs' n':=by
 subst h1;obtain ⟨b,g,g2,g3⟩:=h.gw;exact ⟨h.hcB,⟨b,g,fun e=>by rw [←h2 e];exact g2 e,by omega⟩,h.came,h.bel,h.ks⟩
theorem Wr.step {b b':List UInt8} {ok':Bool} {bs':List UInt8} {n':Nat} (h:Wr wc w0 X B p b0 W ok bs n) (g:Gw X B p b' (!ok') W') (f:Below B W W') (k:Ks X W W') (h1:ok'=true→b'=b0++bs') (h2:b'.length≤b0.length+n'):Wr wc w0 X B p b0 W' ok' bs' n':=
 ⟨h.hcB,⟨b',g,h1,h2⟩,h.came.trans (f.mono h.hcB),h.bel.trans f,h.ks.trans k⟩
def wr_post (wc w0:World) (X B:Nat) (p:Sl) (b0:List UInt8) (W:World) (ok:Bool) (bs:List UInt8) (n:Nat) (e:Ending) (w':World):Prop:=e=.returned (.tuple #[])∧Wr wc w0 X B p b0 w' ok bs n∧Ks X W w'∧Below B W w'
theorem Wr.must (h:Wr wc w0 X B p b0 W ok bs n) (v:Bool):Calls Tryz.prog 29 #[.pointer (some ⟨X,0,none⟩),.bool v] W (wr_post wc w0 X B p b0 W (ok&&v) bs n):=by
 obtain ⟨b,g,g2,g3⟩:=h.gw;refine (gwmust_any X B p b (!ok) W g v).mono ?_;rintro e w' ⟨rfl,rfl⟩;have g4:=g.mark (!ok||!v);have hbb:(!ok||!v)=!(ok&&v):=by cases ok <;> cases v <;> rfl
 have f4:=GF.mark g 2 (.bool (!ok||!v));rw [hbb] at g4 f4 ⊢;exact ⟨rfl,h.step (b:=b) g4 f4.2 (Ks.of_kx f4.1) (fun e=>g2 (by revert e;cases ok <;> simp)) g3,Ks.of_kx f4.1,f4.2⟩
def fitsB (k:Int) (zs:List Int):Bool:=zs.all fun z=>decide (0≤z∧z<((256^k.toNat:Nat):Int))
theorem fitsB_iff {k:Int} (hk:k=1∨k=2∨k=4) (zs:List Int):fitsB k zs=true↔(wide k∧∀z∈zs,fitsW k z false):=by
 have hw:wide k:=by unfold wide;omega
 have h8:¬k=8:=by omega
 unfold fitsB;rw [List.all_eq_true];constructor
 · intro h
   refine ⟨hw,fun z hz=>⟨hw,?_⟩⟩;rw [if_neg h8,if_neg (by simp)]
   simpa using h z hz
 · rintro ⟨_,h⟩ z hz
   have:=(h z hz).2;rw [if_neg h8,if_neg (by simp)] at this
   simpa using this
theorem Wr.u {w1:World} (h:Wr wc w0 X B p b0 W ok bs n) (f:Below W.heap.size W w1) (k:Int) (hk:k=1∨k=2∨k=4) (zs:List Int) (m:Nat) (hm:zs.length=m) (hz:∀(j:Nat) (z:Int),zs[j]?=some z→w1.cell? ⟨W.heap.size,j,none⟩=some (.int .i64 z)) (hr:∀z∈zs,fitI z) (hs:b0.length+n+8*m≤140737488351232) :
 Calls Tryz.prog 27 #[.pointer (some ⟨X,0,none⟩),.int .i64 k,.slice (some ⟨W.heap.size,0,none⟩) m m] w1 (wr_post wc w0 X B p b0 w1 (ok&&fitsB k zs) (bs++zs.flatMap (bytesW k)) (n+m*k.toNat)):=by
 have h1:=h.on f;obtain ⟨b,g,g2,g3⟩:=h1.gw;refine (gwu_any X B p b (!ok) w1 g k (by omega) (some ⟨W.heap.size,0,none⟩) m m zs ⟨hm,.inr ⟨_,0,rfl,fun j z hj=>by rw [Nat.zero_add];exact hz j z hj⟩⟩ hr (by omega)).mono ?_;rintro e w' ⟨rfl,g4,f4⟩;have hi:=fitsB_iff hk zs;cases hf:fitsB k zs with
 | true=>
  obtain ⟨q1,q2⟩:=hi.1 hf;rw [putW_ok q1 q2] at g4;simp only [ne_eq,not_true_eq_false,decide_false,Bool.or_false] at g4;rw [Bool.and_true];refine ⟨rfl,h1.step (b:=b) g4 f4.2 (Ks.of_kx f4.1) (fun e=>by rw [g2 e,List.append_assoc]) ?_,Ks.of_kx f4.1,f4.2⟩;rw [List.length_append,flat_len,hm];omega
 | false=>
  rw [putW_no (fun e=>by rw [hi.2 e] at hf;cases hf)] at g4;have hb:(!ok||decide ((2:Int)≠0))=!false:=by cases ok <;> rfl
  simp only at g4;rw [hb] at g4;rw [Bool.and_false];exact ⟨rfl,h1.step (b:=b) g4 f4.2 (Ks.of_kx f4.1) (fun e=>by cases e) (by omega),Ks.of_kx f4.1,f4.2⟩
theorem Wr.mustK (h:Wr wc w0 X B p b0 W ok bs n) (v:Bool):Calls Tryz.prog 29 #[.pointer (some ⟨X,0,none⟩),.bool v] W (fun e w'=>wr_post wc w0 X B p b0 W (ok&&v) bs n e w'∧Kx X W w'):=by
 obtain ⟨b,g,g2,g3⟩:=h.gw;refine (gwmust_any X B p b (!ok) W g v).mono ?_;rintro e w' ⟨rfl,rfl⟩;have g4:=g.mark (!ok||!v);have hbb:(!ok||!v)=!(ok&&v):=by cases ok <;> cases v <;> rfl
 have f4:=GF.mark g 2 (.bool (!ok||!v));rw [hbb] at g4 f4 ⊢;exact ⟨⟨rfl,h.step (b:=b) g4 f4.2 (Ks.of_kx f4.1) (fun e=>g2 (by revert e;cases ok <;> simp)) g3,Ks.of_kx f4.1,f4.2⟩,f4.1⟩
theorem Wr.uK {w1:World} (h:Wr wc w0 X B p b0 W ok bs n) (f:Below W.heap.size W w1) (k:Int) (hk:k=1∨k=2∨k=4) (zs:List Int) (m:Nat) (hm:zs.length=m) (hz:∀(j:Nat) (z:Int),zs[j]?=some z→w1.cell? ⟨W.heap.size,j,none⟩=some (.int .i64 z)) (hr:∀z∈zs,fitI z) (hs:b0.length+n+8*m≤140737488351232) :
 Calls Tryz.prog 27 #[.pointer (some ⟨X,0,none⟩),.int .i64 k,.slice (some ⟨W.heap.size,0,none⟩) m m] w1 (fun e w'=>wr_post wc w0 X B p b0 w1 (ok&&fitsB k zs) (bs++zs.flatMap (bytesW k)) (n+m*k.toNat) e w'∧Kx X w1 w'):=by
 have h1:=h.on f;obtain ⟨b,g,g2,g3⟩:=h1.gw;refine (gwu_any X B p b (!ok) w1 g k (by omega) (some ⟨W.heap.size,0,none⟩) m m zs ⟨hm,.inr ⟨_,0,rfl,fun j z hj=>by rw [Nat.zero_add];exact hz j z hj⟩⟩ hr (by omega)).mono ?_;rintro e w' ⟨rfl,g4,f4⟩;have hi:=fitsB_iff hk zs;cases hf:fitsB k zs with
 | true=>
  obtain ⟨q1,q2⟩:=hi.1 hf;rw [putW_ok q1 q2] at g4;simp only [ne_eq,not_true_eq_false,decide_false,Bool.or_false] at g4;rw [Bool.and_true];refine ⟨⟨rfl,h1.step (b:=b) g4 f4.2 (Ks.of_kx f4.1) (fun e=>by rw [g2 e,List.append_assoc]) ?_,Ks.of_kx f4.1,f4.2⟩,f4.1⟩;rw [List.length_append,flat_len,hm];omega
 | false=>
  rw [putW_no (fun e=>by rw [hi.2 e] at hf;cases hf)] at g4;have hb:(!ok||decide ((2:Int)≠0))=!false:=by cases ok <;> rfl
  simp only at g4;rw [hb] at g4;rw [Bool.and_false];exact ⟨⟨rfl,h1.step (b:=b) g4 f4.2 (Ks.of_kx f4.1) (fun e=>by cases e) (by omega),Ks.of_kx f4.1,f4.2⟩,f4.1⟩
theorem Wr.utf {l:List Ent} (G:Gx wc B p l) (h:Wr wc w0 X B p b0 W ok bs n) (s:List UInt8) (hs:b0.length+n≤90000000) :
 Calls Tryz.prog 30 #[.pointer (some ⟨X,0,none⟩),.string ⟨s.toArray⟩] W (wr_post wc w0 X B p b0 W (ok&&decide (utfN l s≠0)) (bs++bytesW 2 (utfN l s:Int)) (n+2)):=by
 obtain ⟨b,g,g2,g3⟩:=h.gw;refine (gwutf_any wc X B p l G b (!ok) W h.came g s (by omega)).mono ?_;rintro e w' ⟨rfl,g4,f4⟩;have hb:(!ok||decide (utfN l s=0))=!(ok&&decide (utfN l s≠0)):=by
  by_cases h0:utfN l s=0 <;> cases ok <;> simp [h0]
 rw [hb] at g4;refine ⟨rfl,h.step (b:=b) g4 f4.2 (Ks.of_kx f4.1) (fun e=>by rw [g2 (by revert e;cases ok <;> simp),List.append_assoc]) ?_,Ks.of_kx f4.1,f4.2⟩;rw [List.length_append,bytesW_len];show _+2≤_;omega
theorem Wr.class {l:List Ent} (G:Gx wc B p l) (h:Wr wc w0 X B p b0 W ok bs n) (s:List UInt8) (hs:b0.length+n≤90000000) :
 Calls Tryz.prog 28 #[.pointer (some ⟨X,0,none⟩),.string ⟨s.toArray⟩] W (wr_post wc w0 X B p b0 W (ok&&decide (clsN l s≠0)) (bs++bytesW 2 (clsN l s:Int)) (n+2)):=by
 obtain ⟨b,g,g2,g3⟩:=h.gw;refine (gwclass_any wc X B p l G b (!ok) W h.came g s (by omega)).mono ?_;rintro e w' ⟨rfl,g4,f4⟩;have hb:(!ok||decide (clsN l s=0))=!(ok&&decide (clsN l s≠0)):=by
  by_cases h0:clsN l s=0 <;> cases ok <;> simp [h0]
 rw [hb] at g4;refine ⟨rfl,h.step (b:=b) g4 f4.2 (Ks.of_kx f4.1) (fun e=>by rw [g2 (by revert e;cases ok <;> simp),List.append_assoc]) ?_,Ks.of_kx f4.1,f4.2⟩;rw [List.length_append,bytesW_len];show _+2≤_;omega
theorem Wr.types {l:List Ent} (G:Gx wc B p l) (h:Wr wc w0 X B p b0 W ok bs n) (s:Sl) (ts:List Ty) (loc:Bool) (hL:TysIn wc s ts) (hn:s.n≤14000) (hs:b0.length+n≤40000000) :
 Calls Tryz.prog 70 #[.pointer (some ⟨X,0,none⟩),s.v,.bool loc] W (wr_post wc w0 X B p b0 W (ok&&rightT l loc ts) (bs++typesB l loc ts) (n+(5+3*ts.length))):=by
 obtain ⟨b,g,g2,g3⟩:=h.gw;refine (gwtypes_any wc X B p l G b (!ok) W h.came g s ts loc hL hn (by omega)).mono ?_;rintro e w' ⟨b',rfl,g4,g5,g6,f4,k4⟩;have hb:(!ok||!rightT l loc ts)=!(ok&&rightT l loc ts):=by
  cases rightT l loc ts <;> cases ok <;> rfl
 rw [hb] at g4 g5;refine ⟨rfl,h.step (b:=b) g4 f4 k4 (fun e=>?_) (by omega),k4,f4⟩;rw [g5 (by rw [e];rfl),g2 (by revert e;cases ok <;> simp),List.append_assoc]
end
theorem gw_grown {X B:Nat} {p:Sl} {b:List UInt8} {bad:Bool} {W:World} {a:Option Addr} {c:Nat} (h1:W.heap[X]?=some (.cells #[.slice p.a p.n p.c,.slice a b.length c,.bool bad] 65 (0,0))) (hX:B≤X) (r:Orw byc 5 1 W B (.slice a b.length c) b)
 (q:Nat) (v':Value) (w7:World) (ys:List UInt8) (o7:Orw byc 5 1 w7 B v' (b++ys)) (g7:(W.drewN q).grownBy w7 (Value.slice a b.length c).ownBlock) :
 ∃a7 c7,v'=.slice a7 (b.length+ys.length) c7∧w7.heap[X]?=some (.cells #[.slice p.a p.n p.c,.slice a b.length c,.bool bad] 65 (0,0))∧Gw X B p (b++ys) bad (w7.setCell ⟨X,1,none⟩ v')∧Ks X W (w7.setCell ⟨X,1,none⟩ v')∧Below B W (w7.setCell ⟨X,1,none⟩ v'):=by
 have hX1:X<W.heap.size:=lt_of_heap h1;have hBW:B≤W.heap.size:=by omega
 have hne:∀(k:Nat) (Z:Array Value) (T:TypeId),T≠5→W.heap[k]?=some (.cells Z T (0,0))→w7.heap[k]?=some (.cells Z T (0,0)):=fun k Z T hT9 hk=>by
  have hk2:(W.drewN q).heap[k]?=some (.cells Z T (0,0)):=((below_drewN (Below.refl _ _) q).block k (lt_of_heap hk)).trans hk;refine (grown_other g7 (lt_of_heap hk2) fun e1=>?_).trans hk2;obtain ⟨V,h1⟩:=orw_block r e1;rw [h1] at hk;injection hk with hk
  injection hk with _ hk
  exact hT9 hk.symm
 have x7:=hne _ _ _ (by decide) h1;obtain ⟨a7,c7,e7,_⟩:=o7.form;rw [List.length_append] at e7;have b7:Below B W w7:=Below.grown ((below_drewN (Below.refl W.heap.size W) q).mono hBW) g7 (Nat.le_trans hBW (below_drewN (Below.refl W.heap.size W) q).size) (fun k hk=>(r.lt k hk).1);refine ⟨a7,c7,e7,x7,⟨hX,a7,c7,?_,?_⟩,fun k Z T hx ht hk=>(Below.heap_setCell _ _ _ _ hx).trans (hne k Z T ht hk),b7.setCell (p:=⟨X,1,none⟩) hX _⟩
 · have:=heap_setCell_same w7 X 1 _ _ v' x7
   rw [this,List.length_append,e7];rfl
 · rw [List.length_append,←e7]
   exact o7.keep fun k Z _ hk=>Below.heap_setCell _ _ _ _ fun e=>by
    simp only at e;subst e;rw [x7] at hk;injection hk with hk
    injection hk with _ hk
    cases hk
theorem ls_of_arg9 {w:World} {a:Option Addr} {n c:Nat} {l:List UInt8} (h:Arg w a n c l):Ls 1 byc w a n l:=by
 refine ⟨h.bs.1,?_⟩
 by_cases h0:n=0
 · exact .inl h0
 · rcases h.bs.2 with h1 | ⟨b,o,e,h1⟩
   · exact .inl h1
   · have key:∀(k:Nat) (x:UInt8),l[k]?=some x→∀(q:Nat) (u:Value),(byc x)[q]?=some u→w.cell? ⟨b,o+k*1+q,none⟩=some u:=fun k x hx q u hu=>by
      match q,hu with
      | 0,hu=>
       simp [byc] at hu;have:=h1.2 ⟨b,o,none⟩ rfl k u (by unfold bv;rw [List.getElem?_map,hx];simp [hu]);rw [Addr.add_mid] at this
       simpa using this
     obtain ⟨x,hx⟩:∃x,l[0]?=some x:=⟨_,List.getElem?_eq_getElem (by have:=h.bs.1;omega)⟩;have hlt:=World.block_lt_of_cell? _ _ (key 0 x hx 0 _ rfl);exact .inr ⟨b,o,e,hlt,key⟩
theorem last_cons (a:Int) (m:Mp) (r:List Mp):((m::r).map Mp.at_).getLast?.getD a=(r.map Mp.at_).getLast?.getD m.at_:=by
 cases r with
 | nil=>rfl
 | cons x r=>
  simp only [List.map_cons,List.getLast?_cons_cons];cases h:(x.at_::r.map Mp.at_).getLast? with
  | none=>simp at h
  | some v=>rfl
theorem rightM_snoc (l:List Ent) (m:Mp):∀(ms:List Mp) (a:Int),rightM l a (ms++[m])=(rightM l a ms&&(decide ((ms.map Mp.at_).getLast?.getD a<m.at_∧m.at_≤65535)&&rightT l true m.loc&&rightT l false m.stk))
 | [],a=>by simp [rightM]
 | x::r,a=>by
  rw [last_cons,List.cons_append,rightM,rightM,rightM_snoc l m r x.at_];simp only [Bool.and_assoc]
theorem rightM_last (l:List Ent):∀(ms:List Mp) (a:Int),rightM l a ms=true→a≤(ms.map Mp.at_).getLast?.getD a
 | [],a,_=>by simp
 | x::r,a,h=>by
  rw [rightM] at h;simp only [Bool.and_eq_true,decide_eq_true_eq] at h;have:=rightM_last l r x.at_ h.2;rw [last_cons];omega
theorem clamp9 (at_ last z:Int) (hz:z=max 0 (min (wrap64 (wrap64 (at_-last)-1)) 65535)):(0≤z∧z≤65535)∧(last<at_∧at_≤65535→-1≤last→z=at_-last-1):=by
 unfold wrap64 at hz;constructor
 · omega
 · intro h1 h2
   omega
theorem mpsB_step9 (l:List Ent):∀(ms:List Mp) (last:Int) (k:Nat) (m:Mp),ms[k]?=some m→mpsB l last (ms.take (k+1))=mpsB l last (ms.take k)++mapB l (((ms.take k).map Mp.at_).getLast?.getD last) m
 | [],_,_,_,h=>by simp at h
 | x::r,last,0,m,h=>by
  simp at h;subst h;simp [mpsB]
 | x::r,last,k+1,m,h=>by
  have ih:=mpsB_step9 l r x.at_ k m (by simpa using h);simp only [List.take_succ_cons,mpsB];rw [ih,List.append_assoc]
  congr 2
  simp only [List.map_cons,List.getLast?_cons,Option.getD_some]
theorem fits_small {z:Int} (h:0≤z∧z≤65535):fitsB 2 [z]=true:=by simp [fitsB];omega
theorem fits_some {n:Nat} (h:n≤4294967295):fitsB 4 [(n:Int)]=true:=by simp [fitsB];omega
theorem field_ok (l:List Ent) (f:Fd) (ok:Bool) (z:Int) (hz:z=max 0 f.acc):(((((ok&&decide (f.acc=0∨f.acc=8))&&fitsB 2 [z])&&decide (utfN l f.name≠0))&&decide (utfN l f.type≠0))&&fitsB 2 [0])=(ok&&rightF l f):=by
 have e0:fitsB 2 [0]=true:=by decide
 unfold rightF;rw [e0]
 by_cases h:f.acc=0∨f.acc=8
 · rw [fits_small (z:=z) (by omega),decide_eq_true h]
   simp only [Bool.and_true,Bool.true_and,Bool.and_assoc,Bool.decide_and]
 · rw [decide_eq_false h]
   simp
theorem field_bytes (l:List Ent) (f:Fd) (bs:List UInt8) (z:Int) (hz:z=max 0 f.acc) (h:rightF l f=true):((((bs++[z].flatMap (bytesW 2))++bytesW 2 (utfN l f.name:Int))++bytesW 2 (utfN l f.type:Int))++[(0:Int)].flatMap (bytesW 2))=bs++fieldB l f:=by
 unfold rightF at h;simp only [Bool.and_eq_true,decide_eq_true_eq] at h;have e:z=f.acc:=by omega
 rw [e];unfold fieldB;simp
theorem meth_ok (l:List Ent) (m:Md) (ok:Bool) (z:Int) (hz:z=max 0 m.acc) (n:Nat) (hn:n≤4294967295):((((((((ok&&decide (m.acc=0∨m.acc=8∨m.acc=32∨m.acc=40))&&fitsB 2 [z])&&decide (utfN l m.name≠0))&&decide (utfN l m.type≠0))&&fitsB 2 [1])&&decide (utfN l sCode≠0))&&rightD l m.code)&&fitsB 4 [(n:Int)])=(ok&&rightMd l m):=by
 have e0:fitsB 2 [1]=true:=by decide
 unfold rightMd;rw [e0,fits_some hn]
 by_cases h:m.acc=0∨m.acc=8∨m.acc=32∨m.acc=40
 · rw [fits_small (z:=z) (by omega),decide_eq_true h]
   simp only [Bool.and_true,Bool.true_and,Bool.and_assoc,Bool.decide_and]
 · rw [decide_eq_false h]
   simp
theorem meth_bytes (l:List Ent) (m:Md) (bs bi:List UInt8) (z:Int) (hz:z=max 0 m.acc) (h:rightMd l m=true) (hb:bi=codeB l m.code):(((((((bs++[z].flatMap (bytesW 2))++bytesW 2 (utfN l m.name:Int))++bytesW 2 (utfN l m.type:Int))++[(1:Int)].flatMap (bytesW 2))++bytesW 2 (utfN l sCode:Int))++[(bi.length:Int)].flatMap (bytesW 4))++bi)=bs++methodB l m:=by
 unfold rightMd at h;simp only [Bool.and_eq_true,decide_eq_true_eq] at h;have e:z=m.acc:=by omega
 rw [e,hb];unfold methodB;simp
theorem maps_le (ms:List Mp):(ms.map fun m=>13+3*(m.loc.length+m.stk.length)).sum≤13*mapsN ms:=by
 unfold mapsN
 induction ms with
 | nil=>simp
 | cons x r ih=>
  simp only [List.map_cons,List.sum_cons];omega
theorem maps_each {ms:List Mp} {m:Mp} (h:m∈ms):m.loc.length+m.stk.length≤mapsN ms:=by
 unfold mapsN
 induction ms with
 | nil=>cases h
 | cons x r ih=>
  simp only [List.map_cons,List.sum_cons]
  rcases List.mem_cons.1 h with rfl | h
  · omega
  · have:=ih h
    omega
theorem meth_each {ms:List Md} {m:Md} (h:m∈ms):methN m≤(ms.map methN).sum:=by
 induction ms with
 | nil=>cases h
 | cons x r ih=>
  simp only [List.map_cons,List.sum_cons]
  rcases List.mem_cons.1 h with rfl | h
  · omega
  · have:=ih h
    omega
theorem light_meth {c:Cl} (hc:sizeK c<14000) {m:Md} (h:m∈c.methods):methN m<14000∧∀x∈m.code.maps,x.loc.length≤14000∧x.stk.length≤14000:=by
 have h1:=meth_each h;have h2:methN m<14000:=by unfold sizeK at hc;omega
 refine ⟨h2,fun x hx=>?_⟩;have h3:=maps_each hx;unfold methN at h2;omega
def gprint_post (w:World) (c:Cl) (e:Ending) (w':World):Prop:=∃v,e=.returned (.tuple #[v,.int .i64 (errK c)])∧Orw byc 5 1 w' w.heap.size v (printK c)∧Below w.heap.size w w'
theorem err_no {c:Cl} (h:rightK c=false):errK c=80∧printK c=[]:=by
 have e:errK c=80:=by unfold errK;rw [if_pos h]
 refine ⟨e,?_⟩;unfold printK;rw [e,if_neg (by decide)]
theorem right_no {c:Cl} (h:¬(checkP c.pool=true∧c.fields.length≤256∧c.methods.length≤256)):rightK c=false:=by
 unfold rightK;cases hc:checkP c.pool with
 | false=>simp
 | true=>
  have:decide (c.fields.length≤256∧c.methods.length≤256)=false:=decide_eq_false fun h2=>h ⟨hc,h2⟩
  rw [this];simp
theorem gPrint_no (w:World) (r:ClR) (hC:CIn w r) (hno:¬(checkP r.c.pool=true∧r.c.fields.length≤256∧r.c.methods.length≤256)) :
 Calls Tryz.prog 10 #[r.v] w (gprint_post w r.c):=by
 obtain ⟨h80,hpk⟩:=err_no (right_no hno);unfold gprint_post;rw [h80,hpk];obtain ⟨⟨pl,nm,sp,fl,ml⟩,⟨p1a,p1n,p1c⟩,⟨f1a,f1n,f1c⟩,⟨m1a,m1n,m1c⟩,mr⟩:=r;obtain ⟨w0,e0,f0,K0⟩:=one_local w #[.slice p1a p1n p1c,.string ⟨nm.toArray⟩,.string ⟨sp.toArray⟩,.slice f1a f1n f1c,.slice m1a m1n m1c] 26;have q0:=K0 w0 (Below.refl _ _) 0 _ rfl;have hfl:fl.length=f1n:=hC.fields.ls.1;have hml:ml.length=m1n:=by
  have h1:=hC.same;have h2:=hC.methods.ls.1;simp only at h1 h2;rw [h1,List.length_map];exact h2
 have hP:=hC.pool.below f0;have hpn:p1n≤140737488351232:=by have:=hC.pool.small;simp only at this;omega
 have HK:=hide (jCheck_any w0 p1a p1n p1c pl hP.arg.es (by omega) hP.fit.1 hP.fit.2);have KL:Hid (∀W,Below w0.heap.size w0 W→W.cell? ⟨w.heap.size,3,none⟩=some (.slice f1a f1n f1c)∧W.cell? ⟨w.heap.size,4,none⟩=some (.slice m1a m1n m1c)):=fun W f=>⟨K0 W f 3 _ rfl,K0 W f 4 _ rfl⟩
 have H0:=hide f0;simp only at hno;rw [hfl,hml] at hno;clear hC hP f0 K0;unfold ClR.v Sl.v;simp only
 by_cases hck:checkP pl=true
 · rw [if_pos hck] at HK
   by_cases h3:f1n≤256
   · have h4:¬m1n≤256:=fun h=>hno ⟨hck,h3,h⟩
     have h3b:decide ((256:Int)<(f1n:Int))=false:=decide_eq_false (by omega);have h4b:decide ((256:Int)<(m1n:Int))=true:=decide_eq_true (by omega);have h3c:decide (256<f1n)=false:=decide_eq_false (by omega);have h4c:decide (256<m1n)=true:=decide_eq_true (by omega);go_enter Tryz.func10,Tryz.ntmps10;go_wp2_with fail;refine (unhide HK).mono ?_;rintro e w1 ⟨rfl,f1⟩;obtain ⟨c3,c4⟩:=unhide KL w1 f1;have HF:=hide ((unhide H0).trans (f1.mono (unhide H0).size));clear f1;go_wp2;go_ret2;exact ⟨_,rfl,Orw.nil _ _ _ _ _,unhide HF⟩
   · have h3b:decide ((256:Int)<(f1n:Int))=true:=decide_eq_true (by omega)
     have h3c:decide (256<f1n)=true:=decide_eq_true (by omega);go_enter Tryz.func10,Tryz.ntmps10;go_wp2_with fail;refine (unhide HK).mono ?_;rintro e w1 ⟨rfl,f1⟩;obtain ⟨c3,c4⟩:=unhide KL w1 f1;have HF:=hide ((unhide H0).trans (f1.mono (unhide H0).size));clear f1;go_wp2;go_ret2;exact ⟨_,rfl,Orw.nil _ _ _ _ _,unhide HF⟩
 · rw [if_neg hck] at HK
   go_enter Tryz.func10,Tryz.ntmps10;go_wp2_with fail;refine (unhide HK).mono ?_;rintro e w1 ⟨rfl,f1⟩;obtain ⟨c3,c4⟩:=unhide KL w1 f1;have HF:=hide ((unhide H0).trans (f1.mono (unhide H0).size));clear f1;go_wp2;go_ret2;exact ⟨_,rfl,Orw.nil _ _ _ _ _,unhide HF⟩
def GPrintOk:Prop:=∀(w:World) (r:ClR),CIn w r→sizeK r.c<14000→Calls Tryz.prog 10 #[r.v] w (gprint_post w r.c)
theorem sizeClass9:(Tryz.prog.info? 26).map (·.size)=some 5:=by kernel_rfl
theorem rClass_any (X x B:Nat) (bs:List UInt8) (w:World) (h:Rd8 ⟨X,x,B,bs,[]⟩ 0 false w) (hT:Tab8 w) :
 Calls Tryz.prog 73 #[.pointer (some ⟨X,0,none⟩)] w (class_post X x B bs w):=by
 have hB:B≤w.heap.size:=h.hB;have hB1:1≤B:=h.one;have hlen:bs.length≤1000000:=h.len;obtain ⟨w0,e0,f0,r0⟩:∃w0,w.alloc (.cells #[.slice none 0 0,.string ⟨#[]⟩,.string ⟨#[]⟩,.slice none 0 0,.slice none 0 0] 26)=w0∧Below w.heap.size w w0∧w0.heap[w.heap.size]?=some (.cells #[.slice none 0 0,.string ⟨#[]⟩,.string ⟨#[]⟩,.slice none 0 0,.slice none 0 0] 26 (0,0)):=⟨_,rfl,(Below.refl _ _).alloc (Nat.le_refl _) _,heap_alloc_new w _⟩;have R0:=h.below f0;have F0:FX ⟨X,x,B,bs,[]⟩ w w0:=(FX.refl _ w).on f0 hB;have ba:Below w0.heap.size w0 (w0.alloc (.cells #[.int .i64 4,.int .i64 2,.int .i64 2] 3)):=(Below.refl _ _).alloc (Nat.le_refl _) _;have HN:=hide (rPass_any ⟨X,x,B,bs,[]⟩ 0 false _ (R0.below ba) [4,2,2] (by simp) w0.heap.size 3 3 rfl (by omega) (heap_alloc_new w0 _));have HTW:=hide hT;have H0:=hide (And.intro R0 (And.intro F0 (And.intro r0 (And.intro (hT.below f0) ((FX.refl _ w0).on ba R0.hB)))));have hmf:∀(fn:Fn) (first cap:Array Value) (w:World),(Instr.makeFunc fn first cap).run Tryz.prog w=.ok (.func fn first cap) w:=fun _ _ _ _=>rfl
 clear h f0 r0 R0 F0 hT ba;go_enter Tryz.func73,Tryz.ntmps73;go_wp2_with fail;refine (unhide HN).mono ?_;rintro e w1 ⟨j1,e1,rfl,g1,R1,f1⟩;clear HN e0;obtain ⟨R0,F0,r0,T0,Fa⟩:=unhide H0;have HN:=hide (rPool_any ⟨X,x,B,bs,[]⟩ rfl j1 e1 w1 R1);have H1:=hide (And.intro g1 (And.intro R1 (Fa.trans f1)));clear g1 R1 f1 R0 F0 r0 T0 Fa;go_wp2_with fail;refine (unhide HN).mono ?_;rintro e w2 ⟨j2,e2,l,rfl,m2,m3,m4,R2,f2⟩;clear HN;obtain ⟨R0,F0,r0,T0,Fa⟩:=unhide H0;obtain ⟨g1,R1,fa1⟩:=unhide H1;have f02:=fa1.trans f2;have r2:=R0.blk f02 r0 (by decide) (by decide);have T2:=f02.tab hB1 T0;have F2:=F0.trans f02;obtain ⟨pa,pc,q2,pb2⟩:=R2.pl;have c1:w2.cell? ⟨X,1,none⟩=some (.slice pa l.length pc):=bx_cell q2 1 _ rfl;have HP:=hide (And.intro g1 (And.intro R1.hi (And.intro m2 (And.intro m3 m4))));have H2:=hide (And.intro R2 (And.intro F2 (And.intro r2 (And.intro T2 pb2))));clear R0 F0 r0 T0 Fa g1 R1 fa1 m2 m3 m4 R2 f2 f02 r2 T2 F2 q2 pb2 H1 H0;go_wp2_with fail;clear c1;obtain ⟨R2,F2,r2,T2,pb2⟩:=unhide H2;obtain ⟨w3,e3,b3,l3,s3⟩:∃w3,w2.alloc (.cells #[.slice pa l.length pc,.string ⟨#[]⟩,.string ⟨#[]⟩,.slice none 0 0,.slice none 0 0] 26)=w3∧Below w2.heap.size w2 w3∧w3.heap[w2.heap.size]?=some (.cells #[.slice pa l.length pc,.string ⟨#[]⟩,.string ⟨#[]⟩,.slice none 0 0,.slice none 0 0] 26 (0,0))∧w3.heap.size=w2.heap.size+1:=⟨_,rfl,(Below.refl _ _).alloc (Nat.le_refl _) _,heap_alloc_new w2 _,by simp⟩;rw [e3];have hne:w.heap.size≠w2.heap.size:=by have:=lt_of_heap r2;omega
 have hL:w.heap.size≤w2.heap.size:=Nat.le_of_lt (lt_of_heap r2);obtain ⟨C,hC⟩:∃C:Cr,C=⟨X,x,B,bs,l⟩:=⟨_,rfl⟩;have hCB:C.B≤w.heap.size:=by rw [hC];exact hB
 have hCB1:1≤C.B:=by rw [hC];exact hB1
 have R2':Rd8 C j2 e2 w2:=by rw [hC];exact R2
 have F2':FX C w w2:=by rw [hC];exact F2
 have HC:=hide hC;have HCX:Hid (C.X=X):=hide (by rw [hC]);clear hC;have K3:KS C w w.heap.size w2.heap.size j2 e2 #[.slice pa l.length pc,.string ⟨#[]⟩,.string ⟨#[]⟩,.slice none 0 0,.slice none 0 0] w3:=⟨R2'.below b3,F2'.on b3 hCB,l3,(b3.block _ (lt_of_heap r2)).trans r2⟩;have T3:=T2.below b3;have P3:PB w3 pa pc l:=pb2.keep fun k Z hk=>b3.block k (lt_of_heap hk)
 have b4:Below w3.heap.size w3 (w3.alloc (.cells #[.int .i64 2] 3)):=(Below.refl _ _).alloc (Nat.le_refl _) _;have K4:=K3.on hCB b4;have P4:PB (w3.alloc (.cells #[.int .i64 2] 3)) pa pc l:=P3.keep fun k Z hk=>b4.block k (lt_of_heap hk)
 have T4:=T3.below b4;have i4:(w3.alloc (.cells #[.int .i64 2] 3)).heap[w2.heap.size+1]?=some (.cells #[.int .i64 2] 3 (0,0)):=by
  rw [←s3];exact heap_alloc_new w3 _
 have HN:=hide (rPass_any C j2 e2 _ K4.rd [2] (by simp) (w2.heap.size+1) 1 1 rfl (by omega) i4);rw [unhide HCX] at HN;have H4:=hide (And.intro K4 (And.intro T4 P4));clear R2 F2 r2 T2 pb2 b3 l3 R2' F2' K3 T3 P3 b4 K4 T4 P4 i4 e3 H2;refine (unhide HN).mono ?_;rintro e w5 ⟨j5,e5,rfl,g5,R5,f5⟩;clear HN;obtain ⟨K4,T4,P4⟩:=unhide H4;have K5:=K4.call R5 f5;have T5:=f5.tab hCB1 T4;have P5:PB w5 pa pc l:=P4.keep fun k Z hk=>(K4.rd.blk f5 hk (by decide) (by decide)).trans hk.symm
 have HN:=hide (rName_any C j5 e5 w5 R5);rw [unhide HCX] at HN;have H5:=hide (And.intro g5 (And.intro K5 (And.intro T5 P5)));clear K4 T4 P4 g5 R5 f5 K5 T5 P5 H4;go_wp2_with fail;refine (unhide HN).mono ?_;rintro e w6 ⟨nm,j6,e6,rfl,t6,g6,_,R6,f6⟩;clear HN;obtain ⟨g5,K5,T5,P5⟩:=unhide H5;have K6:=K5.call R6 f6;have T6:=f6.tab hCB1 T5;have P6:PB w6 pa pc l:=P5.keep fun k Z hk=>(K5.rd.blk f6 hk (by decide) (by decide)).trans hk.symm
 obtain ⟨w7,e7⟩:∃w7,w6.setCell ⟨w2.heap.size,1,none⟩ (.string ⟨nm.toArray⟩)=w7:=⟨_,rfl⟩;have K7:KS C w w.heap.size w2.heap.size j6 e6 #[.slice pa l.length pc,.string ⟨nm.toArray⟩,.string ⟨#[]⟩,.slice none 0 0,.slice none 0 0] w7:=by rw [←e7];exact K6.set hCB hL hne 1 _
 have P7:PB w7 pa pc l:=by rw [←e7];exact P6.keep fun k Z hk=>K6.other 1 _ k Z _ hk (by decide)
 have T7:Tab8 w7:=K7.fx.tab hCB1 (unhide HTW);have y0:w6.cell? ⟨w2.heap.size,1,none⟩=some (.string ⟨#[]⟩):=bx_cell K6.lb 1 _ rfl;have y1:=bx_thaw K6.lb 1;have HN:=hide (rName_any C j6 e6 w7 K7.rd);rw [unhide HCX] at HN;have H7:=hide (And.intro g5 (And.intro t6 (And.intro g6 (And.intro K7 (And.intro T7 P7)))));clear g5 K5 T5 P5 t6 g6 R6 f6 K6 T6 P6 K7 P7 T7 H5;go_wp2_with fail;refine (unhide HN).mono ?_;rintro e w8 ⟨sp,j8,e8,rfl,t8,_,g8,R8,f8⟩;clear HN y0 y1 e7;obtain ⟨g5,t6,g6,K7,T7,P7⟩:=unhide H7;have K8:=K7.call R8 f8;have P8:PB w8 pa pc l:=P7.keep fun k Z hk=>(K7.rd.blk f8 hk (by decide) (by decide)).trans hk.symm
 obtain ⟨w9,e9⟩:∃w9,w8.setCell ⟨w2.heap.size,2,none⟩ (.string ⟨sp.toArray⟩)=w9:=⟨_,rfl⟩;have K9:KS C w w.heap.size w2.heap.size j8 e8 #[.slice pa l.length pc,.string ⟨nm.toArray⟩,.string ⟨sp.toArray⟩,.slice none 0 0,.slice none 0 0] w9:=by rw [←e9];exact K8.set hCB hL hne 2 _
 have P9:PB w9 pa pc l:=by rw [←e9];exact P8.keep fun k Z hk=>K8.other 2 _ k Z _ hk (by decide)
 have ba:Below w9.heap.size w9 (w9.alloc (.cells #[.int .i64 2] 3)):=(Below.refl _ _).alloc (Nat.le_refl _) _;have Ka:=K9.on hCB ba;have Pa:PB (w9.alloc (.cells #[.int .i64 2] 3)) pa pc l:=P9.keep fun k Z hk=>ba.block k (lt_of_heap hk)
 have HN:=hide (rPass_any C j8 e8 _ Ka.rd [2] (by simp) w9.heap.size 1 1 rfl (by omega) (heap_alloc_new w9 _));rw [unhide HCX] at HN;have y0:w8.cell? ⟨w2.heap.size,2,none⟩=some (.string ⟨#[]⟩):=bx_cell K8.lb 2 _ rfl;have y1:=bx_thaw K8.lb 2;have H9:=hide (And.intro g5 (And.intro t6 (And.intro g6 (And.intro t8 (And.intro g8 (And.intro Ka Pa))))));clear g5 t6 g6 K7 T7 P7 K8 P8 K9 P9 ba Ka Pa t8 g8 R8 f8 H7;go_wp2_with fail;refine (unhide HN).mono ?_;rintro e wb ⟨jb,eb,rfl,gb,Rb,fb⟩;clear HN y0 y1 e9;obtain ⟨g5,t6,g6,t8,g8,Ka,Pa⟩:=unhide H9;have Kb:=Ka.call Rb fb;have Pb:PB wb pa pc l:=Pa.keep fun k Z hk=>(Ka.rd.blk fb hk (by decide) (by decide)).trans hk.symm
 have HN:=hide (rlF_any C jb eb wb Rb (Kb.fx.tab hCB1 (unhide HTW)));rw [unhide HCX] at HN;have Hb:=hide (And.intro g5 (And.intro t6 (And.intro g6 (And.intro t8 (And.intro g8 (And.intro gb (And.intro Kb Pb)))))));clear g5 t6 g6 t8 g8 Ka Pa gb Rb fb Kb Pb H9;go_wp2_with fail;refine (unhide HN).mono ?_;rintro e wc ⟨⟨fa,fn,fc⟩,fs,jc,ec_,rfl,⟨oc,kc,nc⟩,gc,Rc,fc'⟩;clear HN;obtain ⟨g5,t6,g6,t8,g8,gb,Kb,Pb⟩:=unhide Hb;have Kc:=Kb.call Rc fc';have Pc:PB wc pa pc l:=Pb.keep fun k Z hk=>(Kb.rd.blk fc' hk (by decide) (by decide)).trans hk.symm
 obtain ⟨wd,ed⟩:∃wd,wc.setCell ⟨w2.heap.size,3,none⟩ (.slice fa fn fc)=wd:=⟨_,rfl⟩;have Kd:KS C w w.heap.size w2.heap.size jc ec_ #[.slice pa l.length pc,.string ⟨nm.toArray⟩,.string ⟨sp.toArray⟩,.slice fa fn fc,.slice none 0 0] wd:=by rw [←ed];exact Kc.set hCB hL hne 3 _
 have Pd:PB wd pa pc l:=by rw [←ed];exact Pc.keep fun k Z hk=>Kc.other 3 _ k Z _ hk (by decide)
 have Od:Orw fdc 58 3 wd 0 (.slice fa fn fc) fs:=by rw [←ed];exact (Orw.base oc (Nat.zero_le _)).keep fun k Z _ hk=>Kc.other 3 _ k Z _ hk (by decide)
 have y0:wc.cell? ⟨w2.heap.size,3,none⟩=some (.slice none 0 0):=bx_cell Kc.lb 3 _ rfl;have y1:=bx_thaw Kc.lb 3;have HN:=hide (rlM_any C jc ec_ wd Kd.rd (Kd.fx.tab hCB1 (unhide HTW)));rw [unhide HCX] at HN;have Hd:=hide (And.intro g5 (And.intro t6 (And.intro g6 (And.intro t8 (And.intro g8 (And.intro gb (And.intro kc (And.intro nc (And.intro gc (And.intro Kd (And.intro Pd Od)))))))))));clear g5 t6 g6 t8 g8 gb Kb Pb oc kc nc gc Rc fc' Kc Pc Kd Pd Od Hb;unfold Sl.v;simp only;go_wp2_with fail;refine (unhide HN).mono ?_;rintro e we ⟨⟨ma,mn,mc⟩,mr,je,ee,rfl,⟨oe,ke,ne⟩,ge,Re,fe⟩;clear HN y0 y1 ed;obtain ⟨g5,t6,g6,t8,g8,gb,kc,nc,gc,Kd,Pd,Od⟩:=unhide Hd;have Ke:=Kd.call Re fe;have Pe:PB we pa pc l:=Pd.keep fun k Z hk=>(Kd.rd.blk fe hk (by decide) (by decide)).trans hk.symm
 have Oe:Orw fdc 58 3 we 0 (.slice fa fn fc) fs:=Kd.rd.orw fe Od (by decide) (by decide);obtain ⟨wf,ef⟩:∃wf,we.setCell ⟨w2.heap.size,4,none⟩ (.slice ma mn mc)=wf:=⟨_,rfl⟩;have Kf:KS C w w.heap.size w2.heap.size je ee #[.slice pa l.length pc,.string ⟨nm.toArray⟩,.string ⟨sp.toArray⟩,.slice fa fn fc,.slice ma mn mc] wf:=by rw [←ef];exact Ke.set hCB hL hne 4 _
 have ho:∀(k:Nat) (Z:Array Value) (T:TypeId),we.heap[k]?=some (.cells Z T (0,0))→T≠26→wf.heap[k]?=we.heap[k]?:=fun k Z T hk hT=>by rw [←ef];exact Ke.other 4 _ k Z T hk hT
 have Pf:PB wf pa pc l:=Pe.keep fun k Z hk=>ho k Z _ hk (by decide)
 have Of:Orw fdc 58 3 wf 0 (.slice fa fn fc) fs:=Oe.keep fun k Z _ hk=>ho k Z _ hk (by decide)
 have Mf:Orw mdc 49 8 wf 0 (.slice ma mn mc) mr:=(Orw.base oe (Nat.zero_le _)).keep fun k Z _ hk=>ho k Z _ hk (by decide)
 have Df:∀x∈mr,MdOk C.l wf 0 x:=fun x hx=>((ke x hx).base (Nat.zero_le _)).keep fun k Z T hk hT=>ho k Z T hk (by rcases hT with rfl | rfl | rfl | rfl <;> decide)
 have y0:we.cell? ⟨w2.heap.size,4,none⟩=some (.slice none 0 0):=bx_cell Ke.lb 4 _ rfl;have y1:=bx_thaw Ke.lb 4;have q0:wf.cell? ⟨w.heap.size,0,none⟩=some (.slice none 0 0):=bx_cell Kf.rb 0 _ rfl;have z0:=bx_thaw Kf.rb 0;have d0:wf.cell? ⟨w2.heap.size,0,none⟩=some (.slice pa l.length pc):=bx_cell Kf.lb 0 _ rfl;have q1:wf.cell? ⟨w.heap.size,1,none⟩=some (.string ⟨#[]⟩):=bx_cell Kf.rb 1 _ rfl;have z1:=bx_thaw Kf.rb 1;have d1:wf.cell? ⟨w2.heap.size,1,none⟩=some (.string ⟨nm.toArray⟩):=bx_cell Kf.lb 1 _ rfl;have q2:wf.cell? ⟨w.heap.size,2,none⟩=some (.string ⟨#[]⟩):=bx_cell Kf.rb 2 _ rfl;have z2:=bx_thaw Kf.rb 2;have d2:wf.cell? ⟨w2.heap.size,2,none⟩=some (.string ⟨sp.toArray⟩):=bx_cell Kf.lb 2 _ rfl;have q3:wf.cell? ⟨w.heap.size,3,none⟩=some (.slice none 0 0):=bx_cell Kf.rb 3 _ rfl;have z3:=bx_thaw Kf.rb 3;have d3:wf.cell? ⟨w2.heap.size,3,none⟩=some (.slice fa fn fc):=bx_cell Kf.lb 3 _ rfl;have q4:wf.cell? ⟨w.heap.size,4,none⟩=some (.slice none 0 0):=bx_cell Kf.rb 4 _ rfl;have z4:=bx_thaw Kf.rb 4;have d4:wf.cell? ⟨w2.heap.size,4,none⟩=some (.slice ma mn mc):=bx_cell Kf.lb 4 _ rfl;have Hf:=hide (And.intro g5 (And.intro t6 (And.intro g6 (And.intro t8 (And.intro g8 (And.intro gb (And.intro kc (And.intro nc (And.intro gc (And.intro ge (And.intro ne (And.intro Kf (And.intro Pf (And.intro Of (And.intro Mf Df)))))))))))))));clear g5 t6 g6 t8 g8 gb kc nc gc Kd Pd Od oe ke ne ge Re fe Ke Pe Oe Kf ho Pf Of Mf Df Hd;unfold Sl.v;simp only;go_wp2_with fail;obtain ⟨g5,t6,g6,t8,g8,gb,kc,nc,gc,ge,ne,Kf,Pf,Of,Mf,Df⟩:=unhide Hf;obtain ⟨g1,hj1,m2,m3,m4⟩:=unhide HP;have hC:=unhide HC;subst hC;simp only at g5 g6 g8 gb gc ge t6 t8 kc Df g1;have rg:=bx_whole [.slice none 0 0,.string ⟨#[]⟩,.string ⟨#[]⟩,.slice none 0 0,.slice none 0 0] [.slice pa l.length pc,.string ⟨nm.toArray⟩,.string ⟨sp.toArray⟩,.slice fa fn fc,.slice ma mn mc] Kf.rb rfl;have ho:∀(k:Nat) (Z:Array Value) (T:TypeId),wf.heap[k]?=some (.cells Z T (0,0))→T≠26→(wf.setCells w.heap.size 0 [.slice pa l.length pc,.string ⟨nm.toArray⟩,.string ⟨sp.toArray⟩,.slice fa fn fc,.slice ma mn mc]).heap[k]?=wf.heap[k]?:=fun k Z T hk hT=>heap_cells_other _ _ _ _ _ fun e=>by
  subst e;have:=Kf.rb;rw [this] at hk;injection hk with hk
  injection hk with _ hk
  exact hT hk.symm
 have hback:ee=false→e2=false:=fun h=>by
  have h1:ec_=false:=by cases hh:ec_ with | false=>rfl | true=>rw [ge.1 hh] at h;cases h
  have h2:eb=false:=by cases hh:eb with | false=>rfl | true=>rw [gc.1 hh] at h1;cases h1
  have h3:e8=false:=by cases hh:e8 with | false=>rfl | true=>rw [gb.1 hh] at h2;cases h2
  have h4:e6=false:=by cases hh:e6 with | false=>rfl | true=>rw [g8.1 hh] at h3;cases h3
  have h5:e5=false:=by cases hh:e5 with | false=>rfl | true=>rw [g6.1 hh] at h4;cases h4
  cases hh:e2 with | false=>rfl | true=>rw [g5.1 hh] at h5;cases h5
 have hfit:ee=false→EntsFit7 l:=fun h=>by
  have h2:=hback h;have h1:e1=false:=by cases hh:e1 with | false=>rfl | true=>rw [m2 hh] at h2;cases h2
  rw [(m3 h1 (m4 h2)).1];exact readP_fit8 hlen
 refine bodyPost_ret (v:=.agg #[.slice pa l.length pc,.string ⟨nm.toArray⟩,.string ⟨sp.toArray⟩,.slice fa fn fc,.slice ma mn mc]) ?_ rfl ⟨⟨⟨l,nm,sp,fs,mr.map MdR.m⟩,⟨pa,l.length,pc⟩,⟨fa,fn,fc⟩,⟨ma,mn,mc⟩,mr⟩,l,je,ee,rfl,fun h Wz hWz=>?_,fun c0 hc0=>?_,Kf.rd.cells Kf.rb (by decide) 0 [.slice pa l.length pc,.string ⟨nm.toArray⟩,.string ⟨sp.toArray⟩,.slice fa fn fc,.slice ma mn mc],Kf.fx.cells (Nat.le_refl _) hB 0 [.slice pa l.length pc,.string ⟨nm.toArray⟩,.string ⟨sp.toArray⟩,.slice fa fn fc,.slice ma mn mc]⟩
 · exact results_cell_row Tryz.results73 _ _ w.heap.size 26 _ (0,0) _ rfl rg Tryz.underlying26 rfl sizeClass9
 · have hl:=hfit h
   have hfew:l.length≤1024:=Kf.rd.few;have hoz:∀(k:Nat) (Z:Array Value) (T:TypeId),wf.heap[k]?=some (.cells Z T (0,0))→T≠26→Wz.heap[k]?=wf.heap[k]?:=fun k Z T hk hT=>(hWz k Z T ((ho k Z T hk hT).trans hk) hT).trans (ho k Z T hk hT)
   have Og:Orw fdc 58 3 Wz 0 (.slice fa fn fc) fs:=Of.keep fun k Z _ hk=>hoz k Z _ hk (by decide)
   have Mg:Orw mdc 49 8 Wz 0 (.slice ma mn mc) mr:=Mf.keep fun k Z _ hk=>hoz k Z _ hk (by decide)
   have Dg:∀x∈mr,MdOk l Wz 0 x:=fun x hx=>(Df x hx).keep fun k Z T hk hT=>hoz k Z T hk (by rcases hT with rfl | rfl | rfl | rfl <;> decide)
   have Pg:PB Wz pa pc l:=Pf.keep fun k Z hk=>hoz k Z _ hk (by decide)
   exact ⟨Pg.ein hl hfew,Txt8.fit t6 hl,Txt8.fit t8 hl,Orw.lin (s:=⟨fa,fn,fc⟩) rkF Og (by show fs.length*40≤_;omega) (fun y hy=>⟨(kc y hy).1,(kc y hy).2.1.fit hl,(kc y hy).2.2.fit hl⟩),Orw.lin (s:=⟨ma,mn,mc⟩) rkM Mg (by show mr.length*128≤_;omega) (fun y hy=>(Dg y hy).mdIn hl),rfl⟩
 · unfold readK at hc0
   split at hc0
   · cases hc0
   · rename_i h8
     split at hc0
     · cases hc0
     · rename_i hp
       obtain ⟨_,k1,d1⟩:=g1.2 rfl () (bs.drop 8) (by rw [List.drop_zero];exact passR_422 (by omega));have hj:j1=8:=drop_at hj1 (by omega) d1;subst hj;obtain ⟨h1,h2,h3⟩:=m3 k1 (by simpa using hp);rw [←h1,←h3] at hc0;obtain ⟨⟨c1,r1⟩,hr,hc1⟩:=Option.map_eq_some_iff.1 hc0;simp only at hc1;subst hc1;rw [restR_by] at hr;obtain ⟨⟨m,s⟩,ha,hr⟩:=Option.bind_eq_some_iff.1 hr;obtain ⟨_,k5,d5⟩:=g5.2 h2 () s (by show (uR 2 _).bind _=_;rw [ha];rfl);simp only at hr;rw [←d5] at hr;obtain ⟨k6,hr⟩:=got_bind g6 k5 hr;obtain ⟨k8,hr⟩:=got_bind g8 k6 hr;obtain ⟨⟨m',s'⟩,ha',hr⟩:=Option.bind_eq_some_iff.1 hr;obtain ⟨_,kb,db⟩:=gb.2 k8 () s' (by show (uR 2 _).bind _=_;simp only at ha';rw [ha'];rfl);simp only at hr;rw [←db] at hr;obtain ⟨kc',hr⟩:=got_bind gc kb hr;obtain ⟨ke,hr⟩:=got_bind ge kc' hr;obtain ⟨h4,h5⟩:=got_end hr;exact ⟨h4,ke⟩
end Go.Proofs.YtlabllgifkklhaaGreatDoor
