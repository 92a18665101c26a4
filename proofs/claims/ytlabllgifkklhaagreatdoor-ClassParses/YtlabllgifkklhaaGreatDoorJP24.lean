/- Joined: GtG ClU ClW CkH CkI. -/
import Derived.Test.YtlabllgifkklhaaGreatDoorJGtF
import Derived.Test.YtlabllgifkklhaaGreatDoorJP23
import Derived.Test.YtlabllgifkklhaaGreatDoorJP18
import Derived.Test.YtlabllgifkklhaaGreatDoorJP17
import Derived.Test.YtlabllgifkklhaaGreatDoorJP8
set_option linter.unusedVariables false
set_option maxRecDepth 100000
set_option maxHeartbeats 12800000
namespace Go.Proofs.YtlabllgifkklhaaGreatDoor
open Go.RowKit
theorem MdOk.kx {l:List Ent} {X:Nat} {W0 W':World} {base:Nat} {r:MdR} (h:MdOk l W0 base r) (k:Kx X W0 W') (hX:X<base):MdOk l W' base r:=
 ⟨⟨orw_kx k h.own.bs hX,orw_kx k h.own.hs hX,orw_kx k h.own.maps hX,fun x hx=>⟨orw_kx k (h.own.each x hx).loc hX,orw_kx k (h.own.each x hx).stk hX⟩,h.own.same⟩,h.acc,h.nm,h.ty,h.st,h.lo,h.hs,fun x hx=>(h.mp x hx).kx k hX,h.nb,h.nh,h.np⟩
structure KC (C:Gc) (w:World) (A:Nat) (nm sp:List UInt8) (f:Sl) (fs:List Fd) (m:Sl) (mr:List MdR) (j:Nat) (ej:Bool) (W:World):Prop where
 hA:w.heap.size≤A
 cb:W.heap[A]?=some (.cells #[C.p.v,.string ⟨nm.toArray⟩,.string ⟨sp.toArray⟩,f.v,m.v] 26 (0,0))
 of:Orw fdc 58 3 W w.heap.size f.v fs
 om:Orw mdc 49 8 W w.heap.size m.v mr
 md:∀x∈mr,MdOk C.l W w.heap.size x
 gd:Gd C j ej W
 gf:GF C.X C.B w W
section
variable {C:Gc} {w W W':World} {A i0:Nat} {en0:Bool} {nm sp:List UInt8} {f m:Sl} {fs:List Fd} {mr:List MdR} {j j':Nat} {ej ej':Bool}
theorem KC.kx (h0:Gd C i0 en0 w) (s:KC C w A nm sp f fs m mr j ej W) (g:Gd C j' ej' W') (F:GF C.X C.B w W') (k:Kx C.X W W'):KC C w A nm sp f fs m mr j' ej' W':=by
 have hX:=h0.X_lt;have hA:=s.hA;exact ⟨s.hA,(k _ (lt_of_heap s.cb) (by omega)).trans s.cb,orw_kx k s.of hX,orw_kx k s.om hX,fun x hx=>(s.md x hx).kx k hX,g,F⟩
theorem KC.call (h0:Gd C i0 en0 w) (s:KC C w A nm sp f fs m mr j ej W) (g:Gd C j' ej' W') (F:GF C.X C.B W W'):KC C w A nm sp f fs m mr j' ej' W':=s.kx h0 g (s.gf.trans F) F.1
theorem KC.below (h0:Gd C i0 en0 w) (s:KC C w A nm sp f fs m mr j ej W) (b:Below W.heap.size W W'):KC C w A nm sp f fs m mr j ej W':=s.call h0 (s.gd.below b) (GF.of_below b s.gd.hB)
theorem MdOk.setC {l:List Ent} {W:World} {base:Nat} {r:MdR} (h:MdOk l W base r) {A:Nat} {Z:Array Value} (hA:W.heap[A]?=some (.cells Z 26 (0,0))) (q:Nat) (u:Value):MdOk l (W.setCell ⟨A,q,none⟩ u) base r:=
 h.keep fun k Z' T hk hT=>Below.heap_setCell _ _ _ _ fun e1=>by
  simp only at e1;subst e1;rw [hA] at hk;injection hk with hk
  injection hk with _ hk
  subst hk
  rcases hT with h | h | h | h <;> cases h
theorem KC.put (h0:Gd C i0 en0 w) (s:KC C w A nm sp f fs m mr j ej W) (q:Nat) (u:Value) (nm' sp':List UInt8) (hc:(#[C.p.v,.string ⟨nm.toArray⟩,.string ⟨sp.toArray⟩,f.v,m.v]:Array Value).setIfInBounds q u=#[C.p.v,.string ⟨nm'.toArray⟩,.string ⟨sp'.toArray⟩,f.v,m.v]):KC C w A nm' sp' f fs m mr j ej (W.setCell ⟨A,q,none⟩ u):=by
 obtain ⟨G,F⟩:=h0.put s.gd s.gf (H:=A) s.hA q u;exact ⟨s.hA,by rw [←hc];exact heap_setCell_same W A q _ _ _ s.cb,orw_set s.cb s.of (by decide) _ _,orw_set s.cb s.om (by decide) _ _,fun x hx=>(s.md x hx).setC s.cb _ _,G,F⟩
theorem KC.grown (h0:Gd C i0 en0 w) (s:KC C w A nm sp f fs m mr j ej W) {α:Type} {cs:α→List Value} {e:TypeId} {sz:Nat} {v:Value} {l:List α} (o:Orw cs e sz W w.heap.size v l) (g:W.grownBy W' v.ownBlock) (he:e≠26) :
 W'.heap[A]?=some (.cells #[C.p.v,.string ⟨nm.toArray⟩,.string ⟨sp.toArray⟩,f.v,m.v] 26 (0,0))∧Gd C j ej W'∧GF C.X C.B w W'∧(∀(k:Nat) (Z:Array Value) (T:TypeId),T≠e→W.heap[k]?=some (.cells Z T (0,0))→W'.heap[k]?=W.heap[k]?):=by
 have keep:∀(k:Nat) (Z:Array Value) (T:TypeId),T≠e→W.heap[k]?=some (.cells Z T (0,0))→W'.heap[k]?=W.heap[k]?:=fun k Z T hT hk=>grown_other g (lt_of_heap hk) fun e1=>by
  obtain ⟨Y,h1⟩:=orw_block o e1;rw [h1] at hk;injection hk with hk
  injection hk with _ hk
  exact hT hk.symm
 obtain ⟨G,F⟩:=h0.grown s.gd s.gf o g;exact ⟨(keep _ _ _ (fun e=>he e.symm) s.cb).trans s.cb,G,F,keep⟩
theorem KC.pushF (h0:Gd C i0 en0 w) (s:KC C w A nm sp f fs m mr j ej W) (x:Fd) (hl:fs.length≤100000) (X:Array Value) (hX:X.toList=fdc x) :
 Orw fdc 58 3 (W.alloc (.cells X 58)) w.heap.size f.v fs∧Ls 3 fdc (W.alloc (.cells X 58)) (some ⟨W.heap.size,0,none⟩) 1 [x]∧(fs.length+1)*40≤140737488355328∧fs.length+1≤140737488355328∧w.heap.size≤(W.alloc (.cells X 58)).heap.size ∧
  ∀(f':Sl) w',Orw fdc 58 3 w' w.heap.size f'.v (fs++[x])→(W.alloc (.cells X 58)).grownBy w' f.v.ownBlock→w'.heap[A]?=some (.cells #[C.p.v,.string ⟨nm.toArray⟩,.string ⟨sp.toArray⟩,f.v,m.v] 26 (0,0))∧KC C w A nm sp f' (fs++[x]) m mr j ej (w'.setCell ⟨A,3,none⟩ f'.v):=by
 obtain ⟨o3,l3,s1,s2,s3,_⟩:=rec_push h0 s.gd s.gf rkF s.of X x hX hl (by decide);refine ⟨o3,l3,s1,s2,s3,fun f' w' o g=>?_⟩;have s':=s.below h0 (W':=W.alloc (.cells X 58)) ((Below.refl _ _).alloc (Nat.le_refl _) _);obtain ⟨c1,g1,f1,keep⟩:=s'.grown h0 o3 g (by decide);obtain ⟨G,F⟩:=h0.put g1 f1 (H:=A) s.hA 3 f'.v;refine ⟨c1,s.hA,heap_setCell_same w' A 3 _ _ _ c1,orw_set c1 o (by decide) _ _,?_,fun x hx=>?_,G,F⟩
 · exact orw_set c1 (s'.om.keep fun k Z _ hk=>keep k Z _ (by decide) hk) (by decide) _ _
 · exact ((s'.md x hx).keep fun k Z T hk hT=>keep k Z T (by rcases hT with rfl | rfl | rfl | rfl <;> decide) hk).setC c1 _ _
theorem KC.pushM (h0:Gd C i0 en0 w) (s:KC C w A nm sp f fs m mr j ej W) (x:MdR) (hx:MdOk C.l W w.heap.size x) (hl:mr.length≤100000) (X:Array Value) (hX:X.toList=mdc x) :
 Orw mdc 49 8 (W.alloc (.cells X 49)) w.heap.size m.v mr∧Ls 8 mdc (W.alloc (.cells X 49)) (some ⟨W.heap.size,0,none⟩) 1 [x]∧(mr.length+1)*128≤140737488355328∧mr.length+1≤140737488355328∧w.heap.size≤(W.alloc (.cells X 49)).heap.size ∧
  ∀(m':Sl) w',Orw mdc 49 8 w' w.heap.size m'.v (mr++[x])→(W.alloc (.cells X 49)).grownBy w' m.v.ownBlock→w'.heap[A]?=some (.cells #[C.p.v,.string ⟨nm.toArray⟩,.string ⟨sp.toArray⟩,f.v,m.v] 26 (0,0))∧KC C w A nm sp f fs m' (mr++[x]) j ej (w'.setCell ⟨A,4,none⟩ m'.v):=by
 obtain ⟨o3,l3,s1,s2,s3,_⟩:=rec_push h0 s.gd s.gf rkM s.om X x hX hl (by decide);refine ⟨o3,l3,s1,s2,s3,fun m' w' o g=>?_⟩;have b3:Below W.heap.size W (W.alloc (.cells X 49)):=(Below.refl _ _).alloc (Nat.le_refl _) _;have s':=s.below h0 b3;obtain ⟨c1,g1,f1,keep⟩:=s'.grown h0 o3 g (by decide);obtain ⟨G,F⟩:=h0.put g1 f1 (H:=A) s.hA 4 m'.v;have hx':=hx.kx (Kx.of_below (x:=C.X) b3) h0.X_lt;refine ⟨c1,s.hA,heap_setCell_same w' A 4 _ _ _ c1,?_,orw_set c1 o (by decide) _ _,fun y hy=>?_,G,F⟩
 · exact orw_set c1 (s'.of.keep fun k Z _ hk=>keep k Z _ (by decide) hk) (by decide) _ _
 · have kk:∀(k:Nat) (Z:Array Value) (T:TypeId),(W.alloc (.cells X 49)).heap[k]?=some (.cells Z T (0,0))→T=5∨T=93∨T=52∨T=143→w'.heap[k]?=(W.alloc (.cells X 49)).heap[k]?:=fun k Z T hk hT=>keep k Z T (by rcases hT with rfl | rfl | rfl | rfl <;> decide) hk
   rcases List.mem_append.1 hy with hy | hy
   · exact ((s'.md y hy).keep kk).setC c1 _ _
   · simp at hy
     subst hy;exact (hx'.keep kk).setC c1 _ _
end
theorem got_fd {l:List Ent} {bs:List UInt8} {i j1 j2 j3 j4:Nat} {en e1 e2 e3 e4:Bool} {a z:Int} {x y:List UInt8} (g1:Got (uR 2) bs i en a j1 e1) (g2:Got (utfR l) bs j1 e1 x j2 e2) (g3:Got (utfR l) bs j2 e2 y j3 e3) (g4:Got (uR 2) bs j3 e3 z j4 e4):Got (fieldR l) bs i en ⟨a,x,y⟩ j4 e4:=by
 refine ⟨fun e=>g4.1 (g3.1 (g2.1 (g1.1 e))),fun e v0 r hr=>?_⟩;unfold fieldR at hr;obtain ⟨k1,hr⟩:=got_bind g1 e hr;obtain ⟨k2,hr⟩:=got_bind g2 k1 hr;obtain ⟨k3,hr⟩:=got_bind g3 k2 hr;obtain ⟨k4,hr⟩:=got_bind g4 k3 hr;obtain ⟨h1,h2⟩:=got_end hr;exact ⟨h1,k4,h2⟩
theorem got_md {l:List Ent} {bs:List UInt8} {i j1 j2 j3 j4 j5 j6 j7:Nat} {en e1 e2 e3 e4 e5 e6 e7:Bool} {a z n:Int} {x y t:List UInt8} {c:Cd} (g1:Got (uR 2) bs i en a j1 e1) (g2:Got (utfR l) bs j1 e1 x j2 e2) (g3:Got (utfR l) bs j2 e2 y j3 e3) (g4:Got (uR 2) bs j3 e3 z j4 e4) (g5:Got (utfR l) bs j4 e4 t j5 e5) (g6:Got (uR 4) bs j5 e5 n j6 e6) (g7:Got (codeR l) bs j6 e6 c j7 e7):Got (methodR l) bs i en ⟨a,x,y,c⟩ j7 e7:=by
 refine ⟨fun e=>g7.1 (g6.1 (g5.1 (g4.1 (g3.1 (g2.1 (g1.1 e)))))),fun e v0 r hr=>?_⟩;unfold methodR at hr;obtain ⟨k1,hr⟩:=got_bind g1 e hr;obtain ⟨k2,hr⟩:=got_bind g2 k1 hr;obtain ⟨k3,hr⟩:=got_bind g3 k2 hr;obtain ⟨k4,hr⟩:=got_bind g4 k3 hr;obtain ⟨k5,hr⟩:=got_bind g5 k4 hr;obtain ⟨k6,hr⟩:=got_bind g6 k5 hr;obtain ⟨k7,hr⟩:=got_bind g7 k6 hr;obtain ⟨h1,h2⟩:=got_end hr;exact ⟨h1,k7,h2⟩
theorem got_name {l:List Ent} {bs:List UInt8} {i j1:Nat} {en e1 e2:Bool} {n:Int} {s:List UInt8} (g1:Got (uR 2) bs i en n j1 e1) (g2:∀v0,e1=false→clsR l n=some v0→s=v0∧e2=false) (h2:e1=true→e2=true):Got (nameR l) bs i en s j1 e2:=by
 refine ⟨fun e=>h2 (g1.1 e),fun e v0 r hr=>?_⟩;unfold nameR at hr;obtain ⟨k1,hr⟩:=got_bind g1 e hr;simp only at hr;obtain ⟨x,h3,h4⟩:=Option.bind_eq_some_iff.1 hr;obtain ⟨h5,h6⟩:=got_end h4;obtain ⟨h7,h8⟩:=g2 x k1 h3;exact ⟨h7.trans h5,h8,h6⟩
theorem got_sup1 {l:List Ent} {bs:List UInt8} {i j1:Nat} {en e1 e2:Bool} {n:Int} {s:List UInt8} (g1:Got (uR 2) bs i en n j1 e1) (hn:0<n) (g2:∀v0,e1=false→clsR l n=some v0→s=v0∧e2=false) (h2:e1=true→e2=true):Got (superR l) bs i en s j1 e2:=by
 refine ⟨fun e=>h2 (g1.1 e),fun e v0 r hr=>?_⟩;unfold superR at hr;obtain ⟨k1,hr⟩:=got_bind g1 e hr;simp only at hr;rw [if_pos hn] at hr;obtain ⟨x,h3,h4⟩:=Option.bind_eq_some_iff.1 hr;obtain ⟨h5,h6⟩:=got_end h4;obtain ⟨h7,h8⟩:=g2 x k1 h3;exact ⟨h7.trans h5,h8,h6⟩
theorem got_sup0 {l:List Ent} {bs:List UInt8} {i j1:Nat} {en e1:Bool} {n:Int} (g1:Got (uR 2) bs i en n j1 e1) (hn:¬0<n):Got (superR l) bs i en [] j1 e1:=by
 refine ⟨g1.1,fun e v0 r hr=>?_⟩;unfold superR at hr;obtain ⟨k1,hr⟩:=got_bind g1 e hr;simp only at hr;rw [if_neg hn,Option.bind_some] at hr;obtain ⟨h5,h6⟩:=got_end hr;exact ⟨h5,k1,h6⟩
theorem got_rest {l:List Ent} {bs:List UInt8} {i j1 j2 j3 j4 j5 j6:Nat} {en e1 e2 e3 e4 e5 e6:Bool} {a z:Int} {nm sp:List UInt8} {fs:List Fd} {ms:List Md} (g1:Got (uR 2) bs i en a j1 e1) (g2:Got (nameR l) bs j1 e1 nm j2 e2) (g3:Got (superR l) bs j2 e2 sp j3 e3) (g4:Got (uR 2) bs j3 e3 z j4 e4) (g5:Got (listR (fieldR l)) bs j4 e4 fs j5 e5) (g6:Got (listR (methodR l)) bs j5 e5 ms j6 e6):Got (restR l) bs i en ⟨l,nm,sp,fs,ms⟩ j6 e6:=by
 refine ⟨fun e=>g6.1 (g5.1 (g4.1 (g3.1 (g2.1 (g1.1 e))))),fun e v0 r hr=>?_⟩;rw [restR_by] at hr;obtain ⟨k1,hr⟩:=got_bind g1 e hr;obtain ⟨k2,hr⟩:=got_bind g2 k1 hr;obtain ⟨k3,hr⟩:=got_bind g3 k2 hr;obtain ⟨k4,hr⟩:=got_bind g4 k3 hr;obtain ⟨k5,hr⟩:=got_bind g5 k4 hr;obtain ⟨k6,hr⟩:=got_bind g6 k5 hr;obtain ⟨h1,h2⟩:=got_end hr;exact ⟨h1,k6,h2⟩
theorem Orw.len {α:Type} {cs:α→List Value} {e:TypeId} {sz:Nat} {w:World} {base:Nat} {a:Option Addr} {n c:Nat} {l:List α} (h:Orw cs e sz w base (.slice a n c) l):l.length=n:=by
 obtain ⟨a',c',e1,_⟩:=h.form;injection e1 with ea en ec
 exact en.symm
theorem Orw.most {α:Type} {cs:α→List Value} {e:TypeId} {sz:Nat} {w:World} {base:Nat} {a:Option Addr} {n c:Nat} {l:List α} (h:Orw cs e sz w base (.slice a n c) l):n≤9223372036854775807:=by
 obtain ⟨a',c',e1,_,h2,h3⟩:=h.form;injection e1 with ea en ec
 omega
def PrintOk:Prop:=∀(w:World) (r:ClR),Tab8 w→CIn w r→Calls Tryz.prog 9 #[r.v] w fun e w'=>(∃v,e=.returned (.tuple #[v,.int .i64 (errK r.c)])∧w'.ownsRow w.heap.size 5 1 v (printK r.c).length (bv (printK r.c)))∧Below w.heap.size w w'
def ParseOk:Prop:=∀(w:World) (a:Option Addr) (n c:Nat) (bs:List UInt8),Tab8 w→Arg w a n c bs→n≤140737488351232→Calls Tryz.prog 16 #[.slice a n c] w fun e w'=>(∃r:ClR,e=.returned (.tuple #[r.v,.int .i64 (parseK bs).2])∧r.c=(parseK bs).1∧CIn w' r)∧Below w.heap.size w w'
theorem works8_tab (P:PrintOk) (w:World) (hT:Tab8 w) :
 Calls Tryz.prog 14 #[] w fun e w'=>e=.returned (.bool true)∧Below w.heap.size w w':=by
 have HS:=hide (small8_any w);go_enter Tryz.func14,Tryz.ntmps14;go_wp2_with fail;refine (unhide HS).mono ?_;rintro e w1 ⟨⟨r,rfl,hrc,hin⟩,f1⟩;have HP:=P w1 r (hT.below f1) hin;rw [hrc,errEx,printEx] at HP;have HP1:=hide HP;have F1:=hide f1;clear HP f1 hin hrc HS;go_wp2_with fail;refine (unhide HP1).mono ?_;rintro e w2 ⟨⟨v,rfl,o2⟩,f2⟩;have F2:=hide ((unhide F1).trans (f2.mono (unhide F1).size));obtain ⟨a2,c2,rfl,_⟩:=own_form o2;have hcv:(convert 29 9 (.slice a2 bytesEx.length c2)).run Tryz.prog w2=.ok (.string ⟨bytesEx.toArray⟩) w2:=conv_bytes w2 a2 bytesEx c2 (own_bytes o2);have hcv:(convert 29 9 (.slice a2 31 c2)).run Tryz.prog w2=.ok (.string ⟨#[202,254,186,190,0,0,0,52,0,3,1,0,1,97,7,0,1,0,33,0,2,0,0,0,0,0,0,0,0,0,0]⟩) w2:=hcv;have hL:bytesEx.length=31:=rfl;rw [hL];clear f2 F1 HP1 o2;go_wp2;go_ret;exact ⟨rfl,unhide F2⟩
theorem boxes2 (w:World) (X:Array Value) (T:TypeId) (Y:Array Value) (U:TypeId):∃w1,(w.alloc (.cells X T)).alloc (.cells Y U)=w1∧Below w.heap.size w w1∧w1.heap.size=w.heap.size+2∧(∀q v,X[q]?=some v→w1.cell? ⟨w.heap.size,q,none⟩=some v)∧(∀q v,Y[q]?=some v→w1.cell? ⟨w.heap.size+1,q,none⟩=some v):=by
 refine ⟨_,rfl,((Below.refl _ _).alloc (Nat.le_refl _) _).alloc (by simp) _,by simp,fun q v h=>?_,fun q v h=>?_⟩
 · have h1:((w.alloc (.cells X T)).alloc (.cells Y U)).heap[w.heap.size]?=some (.cells X T (0,0)):=(heap_alloc_old _ _ (by simp)).trans (heap_alloc_last w (.cells X T))
   rw [cell_of_row _ _ _ _ _ _ h1];exact h
 · have h1:=heap_alloc_last (w.alloc (.cells X T)) (.cells Y U)
   have e:(w.alloc (.cells X T)).heap.size=w.heap.size+1:=by simp
   rw [e] at h1;rw [cell_of_row _ _ _ _ _ _ h1];exact h
theorem Wt.box {C:Cx} {F:Nat→Prop} {w w1 W:World} {bs bs':List UInt8} (h:Wt C F w bs) (f:Below w.heap.size w w1) (g:WtTo C F w1 bs' W) {b o:Nat} {v:Value} (hb:w.heap.size≤b) (hv:w1.cell? ⟨b,o,none⟩=some v):W.cell? ⟨b,o,none⟩=some v:=
 (g.keep (World.block_lt_of_cell? _ _ hv) (fun e=>by have:=(h.lt b e).2;omega) o).trans hv
theorem wKind_any (C:Cx) (F:Nat→Prop) (w:World) (bs:List UInt8) (h:Wt C F w bs) (t:Ty) (ht:TyFit t) (hok:okT C.l t=true) (hbs:bs.length≤90000000) :
 Calls Tryz.prog 144 #[C.v,.agg #[.int .i64 t.kind,.string ⟨t.name.toArray⟩]] w fun e w'=>e=.returned (.tuple #[])∧WtTo C F w (bs++tyB C.l t) w':=by
 obtain ⟨k,nm⟩:=t;obtain ⟨_,hnm⟩:=ht;simp only at hnm;obtain ⟨wc,B,x,g,mt,mc,p,l⟩:=C;unfold Cx.v;simp only at hok h ⊢;obtain ⟨w1,e1,f1,z1,K1,K2⟩:=boxes2 w #[.pointer (some ⟨x,0,none⟩),.pointer (some ⟨g,0,none⟩)] 106 #[.int .i64 k,.string ⟨nm.toArray⟩] 143;have hW1:=h.below f1;unfold okT at hok;simp only [Bool.and_eq_true,decide_eq_true_eq] at hok;obtain ⟨hk,hn⟩:=hok;obtain ⟨kn,hkn,hk5⟩:∃kn:Nat,k=(kn:Int)∧kn<5:=⟨k.toNat,by omega,by omega⟩;obtain ⟨SS,hSS⟩:∃SS:World→Prop,SS=fun W=>∃bs',WtTo ⟨wc,B,x,g,mt,mc,p,l⟩ F w1 bs' W:=⟨_,rfl⟩
 have KS:Hid (∀W,SS W↔∃bs',WtTo ⟨wc,B,x,g,mt,mc,p,l⟩ F w1 bs' W):=fun W=>by rw [hSS]
 have KI:Hid (∀W,SS W→(W.cell? ⟨w.heap.size,0,none⟩=some (.pointer (some ⟨x,0,none⟩))∧W.cell? ⟨w.heap.size,1,none⟩=some (.pointer (some ⟨g,0,none⟩))∧W.cell? ⟨w.heap.size+1,0,none⟩=some (.int .i64 k)∧W.cell? ⟨w.heap.size+1,1,none⟩=some (.string ⟨nm.toArray⟩))∧W.cell? ⟨0,kn,none⟩=some (.int .i64 (kindB kn))∧W.cell? ⟨g,2,none⟩=some (.map (some mc)) ∧
  (Instr.lookup 109 (.map (some mc)) (.string ⟨nm.toArray⟩) false).run Tryz.prog W=.ok (.int .i64 (clsN l nm:Int)) W):=fun W hW=>by
  rw [hSS] at hW;obtain ⟨bs',hW⟩:=hW;obtain ⟨F',hF,_⟩:=hW.ex;exact ⟨⟨h.box f1 hW (Nat.le_refl _) (K1 0 _ rfl),h.box f1 hW (Nat.le_refl _) (K1 1 _ rfl),h.box f1 hW (by omega) (K2 0 _ rfl),h.box f1 hW (by omega) (K2 1 _ rfl)⟩,hF.tb kn hk5,hF.nm.c2,hF.nm.classes.look hnm⟩
 have S1:=WtG.start hW1 F;have HU1:Hid (∀W bs' z,WtTo ⟨wc,B,x,g,mt,mc,p,l⟩ F w1 bs' W→bs'.length≤100000000→(0≤z∧z≤255)→Calls Tryz.prog 57 #[.pointer (some ⟨x,0,none⟩),.int .i64 1,.slice (some ⟨W.heap.size,0,none⟩) 1 1] (W.alloc (.cells #[.int .i64 z] 3)).drew fun e w'=>e=.returned (.int .i64 0)∧WtTo ⟨wc,B,x,g,mt,mc,p,l⟩ F w1 (bs'++bytesW 1 z) w'):=fun W bs' z hT hb hz=>by
  have:=hT.step (fun _ h=>h) (fun F1 hF1=>wt_u hF1 (W':=(W.alloc (.cells #[.int .i64 z] 3)).drew) ((Below.refl _ _).alloc (Nat.le_refl _) _).drew [z] 1 1 rfl (fun j y hj=>ints_at W [z] _ rfl j y hj) (by decide) (fun y hy=>by simp at hy;subst hy;exact fz1 hz) hb (by omega))
  simpa using this
 have HU2:Hid (∀W bs' z,WtTo ⟨wc,B,x,g,mt,mc,p,l⟩ F w1 bs' W→bs'.length≤100000000→(0≤z∧z≤65535)→Calls Tryz.prog 57 #[.pointer (some ⟨x,0,none⟩),.int .i64 2,.slice (some ⟨W.heap.size,0,none⟩) 1 1] (W.alloc (.cells #[.int .i64 z] 3)).drew fun e w'=>e=.returned (.int .i64 0)∧WtTo ⟨wc,B,x,g,mt,mc,p,l⟩ F w1 (bs'++bytesW 2 z) w'):=fun W bs' z hT hb hz=>by
  have:=hT.step (fun _ h=>h) (fun F1 hF1=>wt_u hF1 (W':=(W.alloc (.cells #[.int .i64 z] 3)).drew) ((Below.refl _ _).alloc (Nat.le_refl _) _).drew [z] 1 2 rfl (fun j y hj=>ints_at W [z] _ rfl j y hj) (by decide) (fun y hy=>by simp at hy;subst hy;exact fz2 hz) hb (by omega))
  simpa using this
 have HL:Hid (∀bs' W,WtTo ⟨wc,B,x,g,mt,mc,p,l⟩ F w1 bs' W→WtTo ⟨wc,B,x,g,mt,mc,p,l⟩ F w bs' W):=fun bs' W hT=>WtG.leave h f1 hT (fun j hj=>.inl hj)
 have hcl:=h.nm.cls nm;simp only at hcl;have hkb:0≤kindB kn∧kindB kn≤255:=by unfold kindB;split <;> (try split) <;> (try split) <;> (try split) <;> omega
 have HB1:Hid (kn≠4→tyB l ⟨k,nm⟩=bytesW 1 (kindB kn)):=fun hne=>by
  unfold tyB kindB;simp only [hkn];have:kn=0∨kn=1∨kn=2∨kn=3:=by omega
  rcases this with rfl | rfl | rfl | rfl <;> rfl
 have HB2:Hid (kn=4→tyB l ⟨k,nm⟩=bytesW 1 (kindB kn)++bytesW 2 (clsN l nm:Int)):=fun he=>by
  subst he;unfold tyB;simp only [hkn];rfl
 have E1:=hide e1;have SS1:=hide S1;generalize kindB kn=kb at *;generalize tyB l ⟨k,nm⟩=tb at *;generalize (⟨nm.toArray⟩:ByteArray)=st at *;have hkn0:(0:Int)≤(kn:Int):=by omega
 have hkn5:(kn:Int)<5:=by omega
 subst hkn;clear h hSS K1 K2 e1 hW1 S1 hk hn f1 hnm z1;have e1:=unhide E1;go_enter Tryz.func144,Tryz.ntmps144;go_wp2;clear e1;refine wp_region_txt SS [6,7] (List.range 8) (by kernel_rfl) (by kernel_rfl) ((unhide KS _).2 ⟨_,(unhide SS1).below (Below.refl _ _).drew⟩) ?_
 repeat (first
  | (refine Txt.skips (by rfl) (by rfl) ?_;simp only [Act.put,List.setIfInBounds_toArray,List.set_cons_zero,List.set_cons_succ])
  | (refine Txt.reads (v:=?_) (by rfl) (by rfl) (by rfl) ?_ ?_;rotate_left;(focus ((intro W hSW;obtain ⟨⟨p0,p1,p2,p3⟩,p4,p5,p6⟩:=unhide KI W hSW;go_simp) <;> with_reducible rfl));simp only [Act.put,List.setIfInBounds_toArray,List.set_cons_zero,List.set_cons_succ]))
 refine Txt.acts (by rfl) (by rfl) (by rfl) (fun K hK=>?_);go_simp;refine hK.out _ _ ((unhide KS _).2 ⟨_,(unhide SS1).below ((Below.refl _ _).alloc (Nat.le_refl _) _).drew⟩) ?_;clear hK K;refine Txt.acts (by rfl) (by rfl) (by rfl) (fun K hK=>?_);go_simp;refine (unhide HU1 _ _ _ (unhide SS1) (by omega) hkb).mono ?_;rintro e w2 ⟨rfl,T2⟩;refine hK.out _ _ ((unhide KS _).2 ⟨_,T2⟩) ?_;clear hK K;refine Txt.done ?_;have TT2:=hide T2;obtain ⟨⟨p0,p1,p2,p3⟩,_⟩:=unhide KI w2 ((unhide KS _).2 ⟨_,T2⟩);clear T2
 by_cases h4:kn=4
 · subst h4
   have HBB:=hide (unhide HB2 rfl);go_wp2;refine wp_region_txt SS [10,11] (List.range 12) (by kernel_rfl) (by kernel_rfl) ((unhide KS _).2 ⟨_,(unhide TT2).below (Below.refl _ _).drew⟩) ?_
   repeat (first
    | (refine Txt.skips (by rfl) (by rfl) ?_;simp only [Act.put,List.setIfInBounds_toArray,List.set_cons_zero,List.set_cons_succ])
    | (refine Txt.reads (v:=?_) (by rfl) (by rfl) (by rfl) ?_ ?_;rotate_left;(focus ((intro W hSW;obtain ⟨⟨p0,p1,p2,p3⟩,p4,p5,p6⟩:=unhide KI W hSW;go_simp) <;> with_reducible rfl));simp only [Act.put,List.setIfInBounds_toArray,List.set_cons_zero,List.set_cons_succ]))
   refine Txt.acts (by rfl) (by rfl) (by rfl) (fun K hK=>?_);go_simp;refine hK.out _ _ ((unhide KS _).2 ⟨_,(unhide TT2).below ((Below.refl _ _).alloc (Nat.le_refl _) _).drew⟩) ?_;clear hK K;refine Txt.acts (by rfl) (by rfl) (by rfl) (fun K hK=>?_);go_simp;refine (unhide HU2 _ _ _ (unhide TT2) (by simp [bytesW_len];omega) (by omega)).mono ?_;rintro e w3 ⟨rfl,T3⟩;refine hK.out _ _ ((unhide KS _).2 ⟨_,T3⟩) ?_;clear hK K;refine Txt.done ?_;have T4:=hide (unhide HL _ _ T3);clear T3 p0 p1 p2 p3;go_wp2;go_end0;refine ⟨rfl,?_⟩;rw [unhide HBB,←List.append_assoc];exact unhide T4
 · have h4b:((kn:Int)==4)=false:=by simp;omega
   have HBB:=hide (unhide HB1 h4);have T4:=hide (unhide HL _ _ (unhide TT2));go_wp2;go_end0;refine ⟨rfl,?_⟩;rw [unhide HBB];exact unhide T4
theorem wlT_any (C:Cx) (F:Nat→Prop) (w:World) (bs:List UInt8) (h:Wt C F w bs) (s:Sl) (xs:List Ty) (M:Nat) (hL:∀W,(∃bs',WtTo C F w bs' W)→Ls 2 tyc W s.a s.n xs) (hE:∀x∈xs,TyFit x∧okT C.l x=true) (hM:∀x∈xs,(tyB C.l x).length≤M) (hn:s.n≤65535) (hbs:bs.length+2+s.n*M≤90000000) :
 Calls Tryz.prog 142 #[C.v,s.v,.func (.func 144) #[C.v] #[]] w fun e w'=>e=.returned (.tuple #[])∧WtTo C F w (bs++(bytesW 2 (s.n:Int)++xs.flatMap (tyB C.l))) w':=by
 obtain ⟨a,n,c⟩:=s;simp only at hL hn hbs ⊢;have hln:=(hL w ⟨_,WtG.start h F⟩).1;obtain ⟨w1,e1,f1,K1⟩:=one_local w #[.pointer (some ⟨C.x,0,none⟩),.pointer (some ⟨C.g,0,none⟩)] 106;have hW1:=h.below f1;have S1:=WtG.start hW1 F;have c0:=K1 w1 (Below.refl _ _) 0 _ rfl;have hlen:∀k,k≤n→((xs.take k).flatMap (tyB C.l)).length≤k*M:=fun k=>by
  induction k with
  | zero=>intro _;simp
  | succ k ih=>
   intro hk;obtain ⟨x,hx⟩:∃x,xs[k]?=some x:=⟨_,List.getElem?_eq_getElem (by omega)⟩;rw [List.take_add_one,hx,List.flatMap_append,List.length_append];have:=ih (by omega);have:=hM x (List.mem_of_getElem? hx);simp only [Option.toList,List.flatMap_cons,List.flatMap_nil,List.append_nil];rw [Nat.succ_mul];omega
 have HU:Hid (Calls Tryz.prog 57 #[.pointer (some ⟨C.x,0,none⟩),.int .i64 2,.slice (some ⟨w1.heap.size,0,none⟩) 1 1] (w1.alloc (.cells #[.int .i64 (n:Int)] 3)) fun e w'=>e=.returned (.int .i64 0)∧WtTo C F w1 (bs++bytesW 2 (n:Int)) w'):=by
  have:=wt_u hW1 (W':=w1.alloc (.cells #[.int .i64 (n:Int)] 3)) ((Below.refl _ _).alloc (Nat.le_refl _) _) [(n:Int)] 1 2 rfl (fun j y hj=>ints_at w1 [(n:Int)] _ rfl j y hj) (by decide) (fun y hy=>by simp at hy;subst hy;exact fz2 (by omega)) (by omega) (by omega);exact hide (by simpa using this)
 have HL1:Hid (∀bs' W,WtTo C F w1 bs' W→WtTo C F w bs' W):=fun bs' W hT=>WtG.leave h f1 hT (fun j hj=>.inl hj)
 have HLL:Hid (∀bs' W,WtTo C F w1 bs' W→Ls 2 tyc W a n xs):=fun bs' W hT=>hL W ⟨_,unhide HL1 _ _ hT⟩
 have HO:Hid (∀bs' W x,WtTo C F w1 bs' W→x∈xs→bs'.length≤90000000→Calls Tryz.prog 144 #[C.v,.agg #[.int .i64 x.kind,.string ⟨x.name.toArray⟩]] W fun e w'=>e=.returned (.tuple #[])∧WtTo C F w1 (bs'++tyB C.l x) w'):=fun bs' W x hT hxm hb=>by
  have hx:=hE x hxm;have hk5:=unhide HL1 _ _ hT;exact hT.step (P:=fun e=>e=.returned (.tuple #[])) (fun _ h=>h) (fun F1 hF1=>wKind_any C F1 _ _ hF1 x hx.1 hx.2 hb)
 have HLEN:=hide hlen;have E1:=hide e1;have SS1:=hide S1;clear h e1 hW1 S1 hlen hL hE hM f1 K1;unfold Cx.v Sl.v;simp only;have e1:=unhide E1;go_enter Tryz.func142,Tryz.ntmps142;go_wp2_with fail;refine (unhide HU).mono ?_;rintro e w2 ⟨rfl,T2⟩;have TT2:=hide T2;clear e1 T2 HU c0;go_wp2
 go_loopw [16] (fun i wr=>∃k:Nat,k≤n∧i=.int .i64 k∧WtTo C F w1 (bs++(bytesW 2 (n:Int)++(xs.take k).flatMap (tyB C.l))) wr) (fun i _=>n-(intOf i).toNat)
 case atStart=>exact ⟨0,by omega,rfl,by simpa using unhide TT2⟩
 case round=>
  obtain ⟨k,hk,rfl,hT⟩:=hrel
  by_cases hlt:k<n
  · have hlt1:(k:Int)<(n:Int):=by omega
    have hk0:(0:Int)≤(k:Int):=by omega
    have hLs:=unhide HLL _ _ hT;obtain ⟨b1,o1,h1a,h1⟩:=Ls.row hLs (w':=wr) (by omega);subst h1a;obtain ⟨x,hx1⟩:∃x,xs[k]?=some x:=⟨_,List.getElem?_eq_getElem (by omega)⟩;have q:=h1 (Below.refl _ _) k x hx1;have hstep:Hid (bs++(bytesW 2 (n:Int)++(xs.take (k+1)).flatMap (tyB C.l))=(bs++(bytesW 2 (n:Int)++(xs.take k).flatMap (tyB C.l)))++tyB C.l x):=by
     show bs++(bytesW 2 (n:Int)++(xs.take (k+1)).flatMap (tyB C.l))=_;rw [List.take_add_one,hx1];simp
    have hbl:(bs++(bytesW 2 (n:Int)++(xs.take k).flatMap (tyB C.l))).length≤90000000:=by
     have:=unhide HLEN k (by omega);have h2:(bytesW 2 (n:Int)).length=2:=bytesW_len _ _;have h3:k*M≤n*M:=Nat.mul_le_mul_right _ (by omega);rw [List.length_append,List.length_append,h2];omega
    have hxm:=List.mem_of_getElem? hx1;have c0:=q.zero;have c1:=q 1 _ rfl;have HP:=hide (unhide HO _ (wr.alloc (.cells #[.int .i64 x.kind,.string ⟨x.name.toArray⟩] 143)) _ (hT.below ((Below.refl _ _).alloc (Nat.le_refl _) _)) hxm hbl);clear q h1 hx1 hT hLs hbl hxm;unfold Cx.v at HP
    try simp only [Sl.v] at HP hstep
    generalize (⟨x.name.toArray⟩:ByteArray)=s1 at *;go_wp2_with fail;refine (unhide HP).mono ?_;rintro e w4 ⟨rfl,T4⟩;have TT4:=hide T4;clear HP T4;go_wp2;go_roundw
    case rel=>exact ⟨k+1,by omega,by go_num,by rw [unhide hstep];exact unhide TT4⟩
    case measure=>simp [intOf];omega
  · obtain rfl:k=n:=by omega
    rw [List.take_of_length_le (by omega)] at hT;have TT:=hide (unhide HL1 _ _ hT);clear hT;go_wp2;go_end0;exact ⟨rfl,unhide TT⟩
def narA:Bool→List Ty→List Ty
 | _,[]=>[]
 | skip,t::r=>(if skip then [] else [t])++narA (decide (t.kind=2)) r
theorem narA_told:∀(n:Nat) (ts:List Ty),ts.length≤n→longsB ts=true→narA false ts=toldT true ts:=by
 intro n
 induction n with
 | zero=>intro ts h _;obtain rfl:ts=[]:=List.length_eq_zero_iff.1 (by omega);rfl
 | succ n ih=>
  intro ts h hl
  match ts,h,hl with
  | [],_,_=>rfl
  | [t],_,_=>simp [narA,toldT]
  | t::z::r,h,hl=>
   unfold longsB at hl;rw [Bool.and_eq_true] at hl
   by_cases hk:t.kind=2
   · have hz:z.kind=0:=by simpa [hk] using hl.1
     have e:toldT true (t::z::r)=t::toldT true r:=by
      show (if true=true∧t.kind=2 then t::toldT true r else t::toldT true (z::r))=_;rw [if_pos ⟨rfl,hk⟩]
     rw [e,←ih r (by simp at h;omega) (by rw [longsB_top z hz] at hl;exact hl.2)];simp [narA,hk,hz]
   · have e:toldT true (t::z::r)=t::toldT true (z::r):=by
      show (if true=true∧t.kind=2 then t::toldT true r else t::toldT true (z::r))=_;rw [if_neg (fun h=>hk h.2)]
     rw [e,←ih (z::r) (by simp at h ⊢;omega) hl.2];simp [narA,hk]
theorem narA_step:∀(ts:List Ty) (skip:Bool) (k:Nat) (t:Ty),ts[k]?=some t→narA skip (ts.take (k+1))=narA skip (ts.take k)++(if (if k=0 then skip else decide ((((ts[k-1]?).map Ty.kind).getD 0)=2)) then [] else [t])
 | [],_,_,_,h=>by simp at h
 | x::r,skip,0,t,h=>by
  simp at h;subst h;simp [narA]
 | x::r,skip,k+1,t,h=>by
  have ih:=narA_step r (decide (x.kind=2)) k t (by simpa using h);simp only [List.take_succ_cons,narA];rw [ih,List.append_assoc]
  congr 2
  cases k with
  | zero=>simp
  | succ k=>simp
theorem narA_len:∀(skip:Bool) (ts:List Ty),(narA skip ts).length≤ts.length
 | _,[]=>by simp [narA]
 | skip,t::r=>by
  have:=narA_len (decide (t.kind=2)) r;simp only [narA,List.length_append,List.length_cons];cases skip <;> simp <;> omega
theorem narrow_any (w:World) (s:Sl) (ts:List Ty) (hA:TysIn w s ts) :
 Calls Tryz.prog 143 #[s.v] w fun e w'=>∃v,e=.returned v∧Orw tyc 143 2 w' w.heap.size v (narA false ts)∧Below w.heap.size w w':=by
 obtain ⟨a,n,c⟩:=s;have hs:=hA.small;have hln:=hA.ls.1;simp only at hln hs;unfold Sl.v;simp only;have HA:=hide hA.ls;have HF:=hide hA.each;clear hA;go_enter Tryz.func143,Tryz.ntmps143;go_wp2
 go_loopw [3,8] (fun v i wr=>∃k:Nat,k≤n∧i=.int .i64 k∧Orw tyc 143 2 wr w.heap.size v (narA false (ts.take k))∧Below w.heap.size w wr) (fun _ i _=>n-(intOf i).toNat)
 case atStart=>exact ⟨0,by omega,rfl,Orw.nil _ _ _ _ _,Below.refl _ _⟩
 case round=>
  obtain ⟨k,hk,rfl,hO,hR⟩:=hrel
  by_cases hlt:k<n
  · have hlt1:(k:Int)<(n:Int):=by omega
    have hk0:(0:Int)≤(k:Int):=by omega
    obtain ⟨b1,o1,h1a,h1⟩:=Ls.row (unhide HA) (w':=w) (by show n≠0;omega);subst h1a;obtain ⟨t,ht⟩:∃t,ts[k]?=some t:=⟨_,List.getElem?_eq_getElem (by omega)⟩;have q:=h1 hR k t ht;have c0:=q.zero;have c1:=q 1 _ rfl;have hstep:=narA_step ts false k t ht;have hlen:=narA_len false (ts.take k);have hlk:(ts.take k).length=k:=by rw [List.length_take];omega
    have hf1:=((Below.refl wr.heap.size wr).alloc (Nat.le_refl _) (.cells #[.int .i64 t.kind,.string ⟨t.name.toArray⟩] 143));have FR1:=hR.trans (hf1.mono hR.size);have O1:Orw tyc 143 2 (wr.alloc (.cells #[.int .i64 t.kind,.string ⟨t.name.toArray⟩] 143)) w.heap.size _ (narA false (ts.take k)):=hO.below (fun j hj=>hf1.block j (hO.lt j hj).2);have hl1:=ls_one (cs:=tyc) (sz:=2) (wr.alloc (.cells #[.int .i64 t.kind,.string ⟨t.name.toArray⟩] 143)) #[.int .i64 t.kind,.string ⟨t.name.toArray⟩] 143 t rfl;have hsz1:(wr.alloc (.cells #[.int .i64 t.kind,.string ⟨t.name.toArray⟩] 143)).heap.size=wr.heap.size+1:=by simp
    rw [hsz1] at hl1;clear hsz1;have hlen2:((narA false (ts.take k)).length+1)*24≤140737488355328:=by omega
    have hlen3:(narA false (ts.take k)).length+1≤140737488355328:=by omega
    have HL2:=hide hlen2;have HL3:=hide hlen3;clear hlen2 hlen3;have O2:Orw tyc 143 2 ((wr.alloc (.cells #[.int .i64 t.kind,.string ⟨t.name.toArray⟩] 143)).alloc (.cells #[.int .i64 t.kind,.string ⟨t.name.toArray⟩] 143)) w.heap.size _ (narA false (ts.take k)):=O1.below (fun j hj=>((Below.refl _ _).alloc (Nat.le_refl _) _).block j (O1.lt j hj).2);have FR2:Below w.heap.size w ((wr.alloc (.cells #[.int .i64 t.kind,.string ⟨t.name.toArray⟩] 143)).alloc (.cells #[.int .i64 t.kind,.string ⟨t.name.toArray⟩] 143)):=FR1.alloc FR1.size _
    by_cases h0:k=0
    · subst h0
      simp only [Nat.zero_mul,Nat.add_zero] at c0 c1;have hst:narA false (ts.take (0+1))=narA false (ts.take 0)++[t]:=by rw [hstep];rfl
      have HST:=hide hst;have HO2:=hide O2;have HL1:=hide hl1;have HF2:=hide FR2;clear q h1 ht hR hf1 hO O1 O2 hl1 FR1 FR2 hst hstep hlen
      go_wp2_with (first
       | (at_builtin;refine listR_append rkT rfl _ _ rfl w.heap.size _ _ rfl (unhide HO2) _ 1 1 [t] rfl (unhide HL1) (fun e=>by cases e) (unhide HL2) (unhide HL3) (unhide HF2).size ?_)
       | go_in)
      intro v' w3 o3 g3;have HO3:=hide o3;have HF3:=hide (grown_below (unhide HF2) (unhide HO2) g3);clear o3 g3;go_wp2;go_roundw
      case rel=>exact ⟨1,by omega,by go_num,by rw [show (1:Nat)=0+1 from rfl,unhide HST];exact unhide HO3,unhide HF3⟩
      case measure=>simp [intOf];omega
    · have hk1:((k:Int)==0)=false:=by simpa using h0
      obtain ⟨y,hy⟩:∃y,ts[k-1]?=some y:=⟨_,List.getElem?_eq_getElem (by omega)⟩;have qy:=h1 FR1 (k-1) y hy;have y0:=qy.zero;have hkk:(k:Int)-1=((k-1:Nat):Int):=by omega
      obtain ⟨j,hj⟩:∃j,j=k-1:=⟨_,rfl⟩;rw [←hj] at y0 hkk hy;have hj0:(0:Int)≤(j:Int):=by omega
      have hj1:(j:Int)<(n:Int):=by omega
      have hfy:=(unhide HF y (List.mem_of_getElem? hy)).1;unfold fitI at hfy;rw [if_neg h0,←hj,hy] at hstep;simp only [Option.map_some,Option.getD_some] at hstep;have HST:=hide hstep;have HO2:=hide O2;have HO1:=hide O1;have HL1:=hide hl1;have HF2:=hide FR2;have HF1:=hide FR1;have HJ:=hide hj;clear q h1 ht hR hf1 hO O1 O2 hl1 FR1 FR2 hstep qy hy hj hlen
      by_cases hy2:y.kind=2
      · have HS2:Hid (narA false (ts.take (k+1))=narA false (ts.take k)):=by
         show narA false (ts.take (k+1))=_;rw [unhide HST];simp [hy2]
        have hy3:(y.kind==2)=true:=by simpa using hy2
        clear HST;generalize y.kind=yk at *;subst hy2;go_wp2;go_roundw
        case rel=>exact ⟨k+1,by omega,by go_num,by rw [unhide HS2];exact unhide HO1,unhide HF1⟩
        case measure=>simp [intOf];omega
      · have HS2:Hid (narA false (ts.take (k+1))=narA false (ts.take k)++[t]):=by
         show narA false (ts.take (k+1))=_;rw [unhide HST];simp [hy2]
        have hy3:(y.kind==2)=false:=by simpa using hy2
        have hy4:(y.kind != 2)=true:=by simpa using hy2
        clear HST
        go_wp2_with (first
         | (at_builtin;refine listR_append rkT rfl _ _ rfl w.heap.size _ _ rfl (unhide HO2) _ 1 1 [t] rfl (unhide HL1) (fun e=>by cases e) (unhide HL2) (unhide HL3) (unhide HF2).size ?_)
         | go_in)
        intro v' w3 o3 g3;have HO3:=hide o3;have HF3:=hide (grown_below (unhide HF2) (unhide HO2) g3);clear o3 g3;go_wp2;go_roundw
        case rel=>exact ⟨k+1,by omega,by go_num,by rw [unhide HS2];exact unhide HO3,unhide HF3⟩
        case measure=>simp [intOf];omega
  · obtain rfl:k=n:=by omega
    rw [List.take_of_length_le (by omega)] at hO;have HO:=hide hO;have HR:=hide hR;obtain ⟨a3,c3,hv3,_⟩:=hO.form;clear hO hR;subst hv3;go_wp2;go_ret;exact ⟨_,rfl,unhide HO,unhide HR⟩
end Go.Proofs.YtlabllgifkklhaaGreatDoor
