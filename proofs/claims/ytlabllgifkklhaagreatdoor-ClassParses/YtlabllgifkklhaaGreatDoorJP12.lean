/- Joined: WdL3 WdL4 PkR PkS PkT. -/
import Derived.Test.YtlabllgifkklhaaGreatDoorJP11
import Derived.Test.YtlabllgifkklhaaGreatDoorJP9
import Derived.Test.YtlabllgifkklhaaGreatDoorJP1
import Derived.Laws.BitsAllLaws
import Derived.Laws.ResultCell
set_option linter.unusedVariables false
set_option maxRecDepth 100000
set_option maxHeartbeats 3200000
namespace Go.Proofs.YtlabllgifkklhaaGreatDoor
open Go.RowKit
theorem or_u64 (v x:Nat) (hv:v*256+x<18446744073709551616) (hx:x<256):bits .or .u64 ((v:Int)*256) (x:Int)=(v:Int)*256+(x:Int):=by
 have e:(v:Int)*256=((v*256:Nat):Int):=by omega
 rw [e];show IntKind.u64.wrap ((BitVec.ofInt 64 ((v*256:Nat):Int) ||| BitVec.ofInt 64 (x:Int)).toNat:Int)=_;rw [BitVec.toNat_or,ofInt_u64 _ (by omega),ofInt_u64 _ (by omega),nat_join 8 _ _ (by omega) (by omega),IntKind.wrap_u64];omega
theorem djoined_any (w:World) (b o c:Nat) (l:List UInt8) (m:Nat) (hl:l.length=m) (hm:m≤8) (h:BytesAt w (some ⟨b,o,none⟩) l) :
 Calls Tryz.prog 162 #[.slice (some ⟨b,o,none⟩) m c] w fun e w'=>e=.returned (.int .u64 (numB l:Int))∧w'=w:=by
 have HB:=hide h;clear h;go_enter Tryz.func162,Tryz.ntmps162;go_wp2
 go_loopw [3,8] (fun x i wr=>∃k:Nat,k≤m∧i=.int .i64 k∧x=.int .u64 (numB (l.take k):Int)∧wr=w) (fun _ i _=>m-(intOf i).toNat)
 case atStart=>exact ⟨0,by omega,rfl,rfl,rfl⟩
 case round=>
  obtain ⟨k,hk,rfl,rfl,rfl⟩:=hrel
  by_cases hlt:k<m
  · have hlt1:(k:Int)<(m:Int):=by omega
    have hkl:k<l.length:=by omega
    have c0:=bytes_get (unhide HB) hkl;have hs:=numB_take hkl;have hb:=(l[k]).toNat_lt;have h7:=numB_small (l:=l.take (k+1)) (k:=8) (m:=0) (by rw [List.length_take];omega);obtain ⟨Q,hQQ⟩:∃Q,Q=numB (l.take (k+1)):=⟨_,rfl⟩;rw [←hQQ] at hs h7;generalize numB (l.take k)=P at *;generalize (l[k]).toNat=x at *;have hQ:(Q:Int)=(P:Int)*256+(x:Int):=by omega
    have hor:=or_u64 P x (by omega) (by omega);have hP2:IntKind.u64.wrap ((P:Int)*256)=(P:Int)*256:=by rw [IntKind.wrap_u64];omega
    have hP3:(P:Int)*256≤18446744073709551615:=by omega
    have hx2:(x:Int)≤255:=by omega
    have HQ:=hide hQ;have HQQ:=hide hQQ;clear h7 hQ hQQ hs;go_wp2;go_roundw
    case rel=>exact ⟨k+1,by omega,by go_num,by rw [←unhide HQQ,unhide HQ],by first | rfl | trivial⟩
    case measure=>simp [intOf];omega
  · obtain rfl:k=m:=by omega
    have ht:l.take k=l:=List.take_of_length_le (by omega);rw [ht];go_wp2;go_ret;exact ⟨rfl,rfl⟩
theorem listN_append {w:World} {ops:Array Oper} {rest:List Oper} {o:Oper} {a:Act} {Q:Exit→Act→World→Prop} (hgd:o.guard=none) (s x:Operand) (ho:o.op=.call { callee:=.builtin .append,args:=#[s,x],argTypes:=#[29,29] })
 (base g n cap:Nat) (xs:List UInt8) (hs:a.eval s=.slice (some ⟨g,0,none⟩) n cap) (hown:w.ownsRow base 5 1 (.slice (some ⟨g,0,none⟩) n cap) n (bv xs)) (src:Option Addr) (m c:Nat) (ys:List UInt8) (hx:a.eval x=.slice src m c) (hb:Bs w src m ys) (hnil:src=none→m=0∧c=0)
 (hsm:n+m≤140737488355328) (hbase:base≤w.heap.size) (h:∀g' c' w',w'.ownsRow base 5 1 (.slice (some ⟨g',0,none⟩) (n+m) c') (n+m) (bv (xs++ys))→w.grownBy w' (some g)→wpList Tryz.prog ops Q rest (a.put o.dst (.slice (some ⟨g',0,none⟩) (n+m) c')) w'):wpList Tryz.prog ops Q (o::rest) a w:=by
 obtain ⟨i0,hi,hz0,hz1,hz2⟩:=info_parts infoB;refine wpList_plain hgd fun K hK=>?_
 cases src with
 | none=>
  obtain ⟨rfl,rfl⟩:=hnil rfl;have h0:ys=[]:=List.eq_nil_of_length_eq_zero hb.1;subst h0;have hrun:=run_append_owned_none (P:=Tryz.prog) (w:=w) base 29 o.type 5 i0 1 Tryz.underlying29 hi _ n (bv xs) hown;unfold Oper.wp;simp [execOp,ho,resolve,invoke,builtin,hs,hx,hrun,Result.andThen];exact hK _ _ (h g cap w (by rw [List.append_nil];exact hown) ⟨rfl,rfl,rfl,Nat.le_refl _,fun _ _ _=>rfl⟩)
 | some ad=>
  refine wp_append_own w s x 29 ho base 5 i0 (.int .u8 0) 1 1 Tryz.underlying29 hi hz0 hz1 hz2 rfl (by decide) _ n (bv xs) hs hown ad m c (bv ys) hx (by rw [bv_length,hb.1];omega) (hb.at.2 ad rfl) (bv_one _) (by unfold maxLen;omega) (by omega) hbase ?_;intro v' w' h1 h2 h3
  rcases h1.2 with ⟨e,_⟩ | ⟨g',c',cur,rfl,_⟩
  · have:=(h3.1 e).1
    cases this
  · exact hK _ _ (h g' c' w' (by rw [bv_append];exact h1) h2)
theorem bClone_any (w:World) (ad:Addr) (n c:Nat) (l:List UInt8) (hb:Bs w (some ad) n l) (hn:n≤140737488351232) :
 Calls Tryz.prog 94 #[.slice (some ad) n c] w fun e w'=>∃g d,e=.returned (.slice (some ⟨g,0,none⟩) n d)∧w'.ownsRow w.heap.size 5 1 (.slice (some ⟨g,0,none⟩) n d) n (bv l)∧Below w.heap.size w w':=by
 have q:∀(w:World) (a:Option Addr) (n c n' c':Nat),(binOp .eql 29 (.slice a n c) (.slice none n' c')).run Tryz.prog w=.ok (.bool a.isNone) w:=fun w a n c n' c'=>Lib.run_eql_slice_nil w _ _ a n c n' c' Tryz.underlying29
 have hown:(w.alloc (.cells #[] 5)).ownsRow w.heap.size 5 1 (.slice (some ⟨w.heap.size,0,none⟩) 0 0) 0 (bv []):=World.ownsRow_made w #[] 0 (Nat.le_refl _) (by simp) rfl;have HB:=hide (hb.below ((Below.refl _ _).alloc (Nat.le_refl _) (.cells #[] 5)));clear hb;go_enter Tryz.func94,Tryz.ntmps94
 go_wp2_with (at_builtin;refine listN_append rfl _ _ rfl w.heap.size w.heap.size 0 0 [] rfl hown (some ad) n c l rfl (unhide HB) (fun e=>by cases e) (by omega) (by simp) ?_)
 intro g d w1 o1 g1;have hb1:Below w.heap.size w w1:=((Below.refl _ _).alloc (Nat.le_refl _) _).grown g1 (by simp) (fun k hk=>by simp at hk;omega);have HO:=hide o1;have HB1:=hide hb1;clear o1 g1 hb1 hown HB;go_wp2;go_ret;exact ⟨g,d,rfl,unhide HO,unhide HB1⟩
theorem pair_set {W:World} {A:Nat} {T:TypeId} {a0 a1:Value} (c0 c1:Value) (h:W.heap[A]?=some (.cells #[a0,a1] T (0,0))) :
 ((W.setCell ⟨A,0,none⟩ c0).setCell ⟨A,1,none⟩ c1).heap[A]?=some (.cells #[c0,c1] T (0,0)):=by
 have h1:=heap_setCell_same W A 0 _ _ c0 h;exact heap_setCell_same _ A 1 _ _ c1 h1
theorem sizeSp:(Tryz.prog.info? 148).map (·.size)=some 2:=by kernel_rfl
theorem dspanOf_any (w:World) (a:Option Addr) (n c:Nat) (l:List UInt8) (hb:Arg w a n c l) (hn:n≤140737488351232) :
 Calls Tryz.prog 85 #[.slice a n c] w fun e w'=>∃g d,e=.returned (.agg #[.slice (some ⟨g,0,none⟩) n d,.int .i64 0])∧w'.ownsRow w.heap.size 5 1 (.slice (some ⟨g,0,none⟩) n d) n (bv l)∧Below w.heap.size w w':=by
 have b0:Below w.heap.size w (w.alloc (.cells #[.slice none 0 0,.int .i64 0] 148)):=(Below.refl _ _).alloc (Nat.le_refl _) _;have hl0:=heap_alloc_last w (.cells #[.slice none 0 0,.int .i64 0] 148);have hown:((w.alloc (.cells #[.slice none 0 0,.int .i64 0] 148)).alloc (.cells #[] 5)).ownsRow (w.heap.size+1) 5 1 (.slice (some ⟨w.heap.size+1,0,none⟩) 0 0) 0 (bv []):=by
  have:=World.ownsRow_made (base:=w.heap.size+1) (e:=5) (size:=1) (w.alloc (.cells #[.slice none 0 0,.int .i64 0] 148)) #[] 0 (by simp) (by simp) rfl
  simpa [bv] using this
 have b1:Below w.heap.size w ((w.alloc (.cells #[.slice none 0 0,.int .i64 0] 148)).alloc (.cells #[] 5)):=b0.alloc (by simp) _;have hl1:((w.alloc (.cells #[.slice none 0 0,.int .i64 0] 148)).alloc (.cells #[] 5)).heap[w.heap.size]?=_:=(heap_alloc_old _ _ (by simp)).trans hl0;have hsz:w.heap.size+1≤((w.alloc (.cells #[.slice none 0 0,.int .i64 0] 148)).alloc (.cells #[] 5)).heap.size:=by simp
 have HB:=hide (hb.bs.below b1);have HN:=hide hb.nil;have HO0:=hide hown;have HL1:=hide hl1;have B1:=hide b1;have HS:=hide hsz;clear hb hown b0 hl0 b1 hl1 hsz;go_enter Tryz.func85,Tryz.ntmps85
 go_wp2_with (at_builtin;refine listN_append rfl _ _ rfl (w.heap.size+1) (w.heap.size+1) 0 0 [] rfl (unhide HO0) a n c l rfl (unhide HB) (unhide HN) (by omega) (unhide HS) ?_)
 intro g d w1 o1 g1;have hb1:Below w.heap.size w w1:=(unhide B1).grown g1 (by have:=unhide HS;omega) (fun k hk=>by simp at hk;omega);have hl2:w1.heap[w.heap.size]?=_:=(g1.block w.heap.size (by have:=unhide HS;omega) (by simp)).trans (unhide HL1);have hgb:=o1.lt g rfl;have cc0:w1.cell? ⟨w.heap.size,0,none⟩=some (.slice none 0 0):=by rw [cell_of_row _ _ _ _ _ _ hl2];rfl
 have cc1:w1.cell? ⟨w.heap.size,1,none⟩=some (.int .i64 0):=by rw [cell_of_row _ _ _ _ _ _ hl2];rfl
 have f0:∀j,w1.frozen? ⟨w.heap.size,j,none⟩=false:=fun j=>frozen_of_row _ _ _ _ _ hl2
 have HO:=hide o1;have HB1:=hide hb1;have HL2:=hide hl2;clear o1 g1 hb1 hl2 HB HN HO0 HL1 B1 HS;go_wp2;refine bodyPost_ret (v:=.agg #[.slice (some ⟨g,0,none⟩) n d,.int .i64 0]) ?_ rfl ⟨g,d,rfl,?_,?_⟩
 · exact results_cell_row Tryz.results85 _ _ w.heap.size 148 _ (0,0) _ rfl (pair_set _ _ (unhide HL2)) Tryz.underlying148 rfl sizeSp
 · refine own_of_block (own_base (unhide HO) (by omega)) (fun k hk=>?_)
   simp [Value.ownBlock] at hk;subst hk;have hne:g≠w.heap.size:=by omega
   exact (Below.heap_setCell _ _ _ _ hne).trans (Below.heap_setCell _ _ _ _ hne)
 · exact ((unhide HB1).setCell (p:=⟨w.heap.size,0,none⟩) (Nat.le_refl _) _).setCell (p:=⟨w.heap.size,1,none⟩) (Nat.le_refl _) _
theorem Sp.drewN {T:TypeId} {w:World} {B x y c:Nat} {bs:List UInt8} {i:Nat} (h:Sp T w B x y c bs i) (k:Nat):Sp T (w.drewN k) B x y c bs i:=h.below (below_drewN (Below.refl _ _) k)
theorem dRead_any (w:World) (a:Option Addr) (n c:Nat) (bs:List UInt8) (h:Arg w a n c bs) (hn:n≤140737488351232) :
 Calls Tryz.prog 72 #[.slice a n c] w fun e w'=>∃x F,e=.returned (.pointer (some ⟨x,0,none⟩))∧RD F w' w.heap.size x bs 0∧Below w.heap.size w w':=by
 have H1:=hide (dspanOf_any w a n c bs h hn);have hlen:=h.bs.1;clear h;go_enter Tryz.func72,Tryz.ntmps72;go_wp2_with fail;refine (unhide H1).mono ?_;rintro e w1 ⟨g,d,rfl,o1,f1⟩;have b2:Below w1.heap.size w1 (w1.alloc (.cells #[.slice (some ⟨g,0,none⟩) n d,.int .i64 0] 159)):=(Below.refl _ _).alloc (Nat.le_refl _) _;have hb:=heap_alloc_last w1 (.cells #[.slice (some ⟨g,0,none⟩) n d,.int .i64 0] 159);have hg:=o1.lt g rfl;have P1:Hid (∃F,RD F (w1.alloc (.cells #[.slice (some ⟨g,0,none⟩) n d,.int .i64 0] 159)) w.heap.size w1.heap.size bs 0):=by
  refine ⟨_,g,d,rfl,f1.size,by omega,?_,?_⟩
  · rw [hlen];exact hb
  · rw [hlen];exact own_below o1 b2
 have F1:=hide (f1.trans (b2.mono f1.size));clear o1 f1 b2 hb hg H1;go_wp2;go_ret;obtain ⟨F,hF⟩:=unhide P1;exact ⟨_,F,rfl,hF,unhide F1⟩
def lookR (bs:List UInt8) (i:Nat) (k:Int):Nat×Int:=
 if wide k then (if (bs.length:Int)-i<k then (0,7) else (numB ((bs.drop i).take k.toNat),0)) else (0,2)
theorem dlook_any (w:World) (B x y c:Nat) (bs:List UInt8) (i:Nat) (k:Int) (h:Sp 159 w B x y c bs i) (hs:bs.length≤140737488351232) (hi:i≤bs.length) :
 Calls Tryz.prog 152 #[.pointer (some ⟨x,0,none⟩),.int .i64 k] w fun e w'=>e=.returned (.tuple #[.int .u64 ((lookR bs i k).1:Int),.int .i64 (lookR bs i k).2])∧∃j,w'=w.drewN j:=by
 have HM:=hide (dmade_any w B x y c bs i h);have HW:=hide (disSize_any w k);have HLf:Hid (∀j,Calls Tryz.prog 161 #[.pointer (some ⟨x,0,none⟩)] (w.drewN j) fun e w'=>e=.returned (.int .i64 ((bs.length:Int)-i))∧∃k,w'=(w.drewN j).drewN k):=fun j=>dleft_any (w.drewN j) x _ _ c i (h.drewN j).c0 (h.drewN j).c1 hi hs
 by_cases hw:wide k
 · rw [decide_eq_true hw] at HW
   by_cases hsh:(bs.length:Int)-i<k
   · have e1:Hid (lookR bs i k=(0,7)):=by
      show lookR bs i k=_;unfold lookR;rw [if_pos hw,if_pos hsh]
     clear h hw;generalize bs.length=n at *;go_enter Tryz.func152,Tryz.ntmps152;go_wp2_with fail;refine (unhide HM).mono ?_;rintro e w1 ⟨rfl,e0⟩;have e0':=e0.symm;clear e0;subst e0';go_wp2_with fail;refine (unhide HW).mono ?_;rintro e w1 ⟨rfl,e0⟩;have e0':=e0.symm;clear e0;subst e0';clear HM HW;go_wp2_with fail;refine (unhide HLf 0).mono ?_;rintro e w2 ⟨rfl,j,rfl⟩;clear HLf;go_wp2;go_ret2;exact ⟨by rw [unhide e1];rfl,j,rfl⟩
   · obtain ⟨m,rfl,hm⟩:=wide_nat hw
     have hmn:i+m≤bs.length:=by omega
     have e1:Hid (lookR bs i (m:Int)=(numB ((bs.drop i).take m),0)):=by
      show lookR bs i (m:Int)=_;unfold lookR;rw [if_pos hw,if_neg hsh,Int.toNat_natCast]
     have hcap:=own_cap h.row;have HN:Hid (∀j,Calls Tryz.prog 163 #[.pointer (some ⟨x,0,none⟩),.int .i64 (m:Int)] (w.drewN j) fun e w'=>e=.returned (.slice (some ⟨y,i,none⟩) m (c-i))∧∃k,w'=(w.drewN j).drewN k):=fun j=>by
      have:=dnext_any (w.drewN j) x _ _ c i m (h.drewN j).c0 (h.drewN j).c1 hmn hcap.1 hcap.2;rw [if_neg (by omega)] at this
      simpa [Addr.add_mid] using this
     have HJ:Hid (∀j,Calls Tryz.prog 162 #[.slice (some ⟨y,i,none⟩) m (c-i)] (w.drewN j) fun e w'=>e=.returned (.int .u64 (numB ((bs.drop i).take m):Int))∧w'=w.drewN j):=fun j=>by
      refine djoined_any (w.drewN j) y i (c-i) ((bs.drop i).take m) m (by rw [List.length_take,List.length_drop];omega) (by omega) ?_;refine bytes_take ⟨(fun e=>by cases e),fun ad e q u hu=>?_⟩ m;injection e with e
      subst e;have hu':(bv bs)[i+q]?=some u:=by
       simp only [bv,List.map_drop,List.getElem?_drop] at hu ⊢;exact hu
      have:=(own_bytes (h.drewN j).row).2 ⟨y,0,none⟩ rfl (i+q) u hu';rw [Addr.add_mid] at this ⊢;rw [Nat.zero_add] at this;exact this
     clear h hw hcap;generalize numB ((bs.drop i).take m)=N at *;generalize bs.length=n at *;go_enter Tryz.func152,Tryz.ntmps152;go_wp2_with fail;refine (unhide HM).mono ?_;rintro e w1 ⟨rfl,e0⟩;have e0':=e0.symm;clear e0;subst e0';go_wp2_with fail;refine (unhide HW).mono ?_;rintro e w1 ⟨rfl,e0⟩;have e0':=e0.symm;clear e0;subst e0';clear HM HW;go_wp2_with fail;refine (unhide HLf 0).mono ?_;rintro e w2 ⟨rfl,j,rfl⟩;have HN1:=hide (unhide HN j);clear HLf HN;go_wp2_with fail;refine (unhide HN1).mono ?_;rintro e w3 ⟨rfl,j3,rfl⟩;clear HN1;rw [World.drewN_drewN];go_wp2_with fail;refine (unhide HJ _).mono ?_;rintro e w4 ⟨rfl,rfl⟩;clear HJ;go_wp2;go_ret2;exact ⟨by rw [unhide e1];rfl,_,rfl⟩
 · rw [decide_eq_false hw] at HW
   have e1:Hid (lookR bs i k=(0,2)):=by
    show lookR bs i k=_;unfold lookR;rw [if_neg hw]
   clear h hw HLf;go_enter Tryz.func152,Tryz.ntmps152;go_wp2_with fail;refine (unhide HM).mono ?_;rintro e w1 ⟨rfl,e0⟩;have e0':=e0.symm;clear e0;subst e0';go_wp2_with fail;refine (unhide HW).mono ?_;rintro e w1 ⟨rfl,e0⟩;have e0':=e0.symm;clear e0;subst e0';go_wp2;go_ret2;exact ⟨by rw [unhide e1];rfl,0,rfl⟩
def Kx (x:Nat) (w w':World):Prop:=∀k,k<w.heap.size→k≠x→w'.heap[k]?=w.heap[k]?
theorem kx_drewN (x:Nat) (w:World) (q:Nat):Kx x w (w.drewN q):=fun k hk _=>(below_drewN (Below.refl _ _) q).block k hk
theorem Kx.of_below {x:Nat} {w w':World} (f:Below w.heap.size w w'):Kx x w w':=fun k hk _=>f.block k hk
theorem Kx.trans {x:Nat} {w w1 w2:World} (h:Kx x w w1) (hs:w.heap.size≤w1.heap.size) (g:Kx x w1 w2):Kx x w w2:=fun k hk hx=>(g k (Nat.lt_of_lt_of_le hk hs) hx).trans (h k hk hx)
theorem rd_moved {w:World} {B x y c:Nat} {bs:List UInt8} {i:Nat} (h:Sp 159 w B x y c bs i) (q K:Nat) :
 (∃F',RD F' ((w.drewN q).setCell ⟨x,1,none⟩ (.int .i64 (K:Int))) B x bs K∧∀j,F' j→(j=x∨j=y)∨w.heap.size≤j)∧Fr6 (fun k=>k=x∨k=y) B w ((w.drewN q).setCell ⟨x,1,none⟩ (.int .i64 (K:Int)))∧Kx x w ((w.drewN q).setCell ⟨x,1,none⟩ (.int .i64 (K:Int))):=
 ⟨⟨_,⟨y,c,rfl,(h.drewN q).move K⟩,fun j hj=>.inl hj⟩,⟨(below_drewN (Below.refl _ _) q).setCell (p:=⟨x,1,none⟩) h.hx _,fun k _ hF=>Below.heap_setCell _ _ _ _ (fun e=>hF (.inl e))⟩,fun k _ hF=>Below.heap_setCell _ _ _ _ hF⟩
theorem rlen_pow {m:Nat} (l:List UInt8) (h:l.length=m):numB l<256^m:=by rw [←h];exact numB_lt l
theorem lookR_lt (bs:List UInt8) (i:Nat) (k:Int):(lookR bs i k).1<18446744073709551616:=by
 unfold lookR;split
 · rename_i hw
   split
   · show (0:Nat)<_
     omega
   · have h:=numB_small (l:=(bs.drop i).take k.toNat) (k:=8) (m:=0) (by
      rw [List.length_take];obtain ⟨m,rfl,hm⟩:=wide_nat hw;omega)
     show numB _<_;omega
 · show (0:Nat)<_
   omega
theorem dU_all (F:Nat→Prop) (w:World) (B x:Nat) (bs:List UInt8) (i:Nat) (k:Int) (h:RD F w B x bs i) (hs:bs.length≤140737488351232) (hi:i≤bs.length) (hk:-9223372036854775808≤k∧k≤9223372036854775807) :
 Calls Tryz.prog 145 #[.pointer (some ⟨x,0,none⟩),.int .i64 k] w fun e w'=>e=.returned (.tuple #[.int .i64 (getW bs i k false).1,.int .i64 (getW bs i k false).2.1])∧(∃F',RD F' w' B x bs (getW bs i k false).2.2∧∀j,F' j→F j∨w.heap.size≤j)∧Fr6 F B w w'∧Kx x w w':=by
 obtain ⟨y,c,rfl,h⟩:=h;have HK:=hide (dlook_any w B x y c bs i k h hs hi);have HS:=hide h;have keep:∀q,(∃F',RD F' (w.drewN q) B x bs i∧∀j,F' j→(j=x∨j=y)∨w.heap.size≤j)∧Fr6 (fun k=>k=x∨k=y) B w (w.drewN q)∧Kx x w (w.drewN q):=fun q=>⟨⟨_,⟨y,c,rfl,h.drewN q⟩,fun j hj=>.inl hj⟩,Fr6.of_below (below_drewN (Below.refl _ _) q) (Nat.le_trans h.hx (Nat.le_of_lt h.xlt)),kx_drewN _ _ _⟩
 by_cases hw:wide k
 · by_cases hsh:(bs.length:Int)-i<k
   · have e1:lookR bs i k=(0,7):=by unfold lookR;rw [if_pos hw,if_pos hsh]
     have e2:Hid (getW bs i k false=(0,7,i)):=by
      show getW bs i k false=_;unfold getW;rw [if_pos hw,if_pos hsh]
     rw [e1] at HK;have KP:=hide keep;clear e1 h keep hw;go_enter Tryz.func145,Tryz.ntmps145;go_wp2_with fail;refine (unhide HK).mono ?_;rintro e w1 ⟨rfl,q,rfl⟩;go_wp2;go_ret2;rw [unhide e2];exact ⟨rfl,unhide KP q⟩
   · obtain ⟨m,rfl,hm⟩:=wide_nat hw
     have e1:lookR bs i (m:Int)=(numB ((bs.drop i).take m),0):=by unfold lookR;rw [if_pos hw,if_neg hsh,Int.toNat_natCast]
     have hlt:=lookR_lt bs i (m:Int);rw [e1] at HK hlt;have hll:((bs.drop i).take m).length=m:=by rw [List.length_take,List.length_drop];omega
     have hpow:=rlen_pow _ hll;have hval:valW ((bs.drop i).take m) false=if 9223372036854775808≤numB ((bs.drop i).take m) then none else some (numB ((bs.drop i).take m):Int):=by
      unfold valW;rw [hll]
      by_cases h8:m=8
      · rw [if_pos h8,if_neg (by decide)]
        by_cases hb:numB ((bs.drop i).take m)<9223372036854775808
        · rw [if_pos hb,if_neg (by omega)]
        · rw [if_neg hb,if_pos (by omega)]
      · rw [if_neg h8,if_neg (by simp),if_neg]
        have:numB ((bs.drop i).take m)<256^4:=Nat.lt_of_lt_of_le hpow (Nat.pow_le_pow_right (by omega) (by omega));omega
     by_cases hb:9223372036854775808≤numB ((bs.drop i).take m)
     · have e2:Hid (getW bs i (m:Int) false=(0,3,i)):=by
        show getW bs i (m:Int) false=_;unfold getW;rw [if_pos hw,if_neg hsh,Int.toNat_natCast,hval,if_pos hb]
       have KP:=hide keep;clear e1 h keep hw hval hpow hll;generalize numB ((bs.drop i).take m)=N at *;have hN:(9223372036854775807:Int)<(N:Int):=by omega
       go_enter Tryz.func145,Tryz.ntmps145;go_wp2_with fail;refine (unhide HK).mono ?_;rintro e w1 ⟨rfl,q,rfl⟩;go_wp2;go_ret2;rw [unhide e2];exact ⟨rfl,unhide KP q⟩
     · have e2:Hid (getW bs i (m:Int) false=((numB ((bs.drop i).take m):Int),0,i+m)):=by
        show getW bs i (m:Int) false=_;unfold getW;rw [if_pos hw,if_neg hsh,Int.toNat_natCast,hval,if_neg hb]
       have c1:=h.c1;have fz:=h.fz 1;obtain ⟨K,hK⟩:∃K,K=i+m:=⟨_,rfl⟩;rw [←hK] at e2;have k1:(i:Int)+(m:Int)=(K:Int):=by omega
       have k2:IntKind.i64.wrap (K:Int)=(K:Int):=by rw [IntKind.wrap_i64];omega
       have k3:(K:Int)≤9223372036854775807:=by omega
       clear e1 h keep hw hval hpow hll hK;generalize numB ((bs.drop i).take m)=N at *;have hN:¬(9223372036854775807:Int)<(N:Int):=by omega
       have hN2:(N:Int)≤9223372036854775807:=by omega
       go_enter Tryz.func145,Tryz.ntmps145;go_wp2_with fail;refine (unhide HK).mono ?_;rintro e w1 ⟨rfl,q,rfl⟩;clear HK;go_wp2;go_ret2;rw [unhide e2];exact ⟨rfl,rd_moved (unhide HS) q K⟩
 · have e1:lookR bs i k=(0,2):=by unfold lookR;rw [if_neg hw]
   have e2:Hid (getW bs i k false=(0,2,i)):=by
    show getW bs i k false=_;unfold getW;rw [if_neg hw]
   rw [e1] at HK;have KP:=hide keep;clear e1 h keep hw;go_enter Tryz.func145,Tryz.ntmps145;go_wp2_with fail;refine (unhide HK).mono ?_;rintro e w1 ⟨rfl,q,rfl⟩;go_wp2;go_ret2;rw [unhide e2];exact ⟨rfl,unhide KP q⟩
theorem dS_all (F:Nat→Prop) (w:World) (B x:Nat) (bs:List UInt8) (i:Nat) (k:Int) (h:RD F w B x bs i) (hs:bs.length≤140737488351232) (hi:i≤bs.length) (hk:-9223372036854775808≤k∧k≤9223372036854775807) :
 Calls Tryz.prog 165 #[.pointer (some ⟨x,0,none⟩),.int .i64 k] w fun e w'=>e=.returned (.tuple #[.int .i64 (getW bs i k true).1,.int .i64 (getW bs i k true).2.1])∧(∃F',RD F' w' B x bs (getW bs i k true).2.2∧∀j,F' j→F j∨w.heap.size≤j)∧Fr6 F B w w'∧Kx x w w':=by
 obtain ⟨y,c,rfl,h⟩:=h;have HK:=hide (dlook_any w B x y c bs i k h hs hi);have HS:=hide h;have keep:∀q,(∃F',RD F' (w.drewN q) B x bs i∧∀j,F' j→(j=x∨j=y)∨w.heap.size≤j)∧Fr6 (fun k=>k=x∨k=y) B w (w.drewN q)∧Kx x w (w.drewN q):=fun q=>⟨⟨_,⟨y,c,rfl,h.drewN q⟩,fun j hj=>.inl hj⟩,Fr6.of_below (below_drewN (Below.refl _ _) q) (Nat.le_trans h.hx (Nat.le_of_lt h.xlt)),kx_drewN _ _ _⟩
 by_cases hw:wide k
 · by_cases hsh:(bs.length:Int)-i<k
   · have e1:lookR bs i k=(0,7):=by unfold lookR;rw [if_pos hw,if_pos hsh]
     have e2:Hid (getW bs i k true=(0,7,i)):=by
      show getW bs i k true=_;unfold getW;rw [if_pos hw,if_pos hsh]
     rw [e1] at HK;have KP:=hide keep;clear e1 h keep hw;go_enter Tryz.func165,Tryz.ntmps165;go_wp2_with fail;refine (unhide HK).mono ?_;rintro e w1 ⟨rfl,q,rfl⟩;go_wp2;go_ret2;rw [unhide e2];exact ⟨rfl,unhide KP q⟩
   · obtain ⟨m,rfl,hm⟩:=wide_nat hw
     have e1:lookR bs i (m:Int)=(numB ((bs.drop i).take m),0):=by unfold lookR;rw [if_pos hw,if_neg hsh,Int.toNat_natCast]
     have hlt:=lookR_lt bs i (m:Int);rw [e1] at HK hlt;have hll:((bs.drop i).take m).length=m:=by rw [List.length_take,List.length_drop];omega
     have hpow:=rlen_pow _ hll;have hval:valW ((bs.drop i).take m) true=some (sgn m (numB ((bs.drop i).take m))):=by
      unfold valW sgn;rw [hll]
      by_cases h8:m=8
      · rw [if_pos h8,if_pos rfl]
        subst h8;have h256:(256:Nat)^8=18446744073709551616:=by decide
        rw [h256]
        by_cases hb:numB ((bs.drop i).take 8)<9223372036854775808
        · rw [if_pos hb,if_neg (by omega)]
        · rw [if_neg hb,if_pos (by omega)];rfl
      · rw [if_neg h8]
        by_cases hb:256^m≤2*numB ((bs.drop i).take m)
        · rw [if_pos ⟨rfl,hb⟩,if_pos hb]
        · rw [if_neg (fun h=>hb h.2),if_neg hb]
     have e2:Hid (getW bs i (m:Int) true=(sgn m (numB ((bs.drop i).take m)),0,i+m)):=by
      show getW bs i (m:Int) true=_;unfold getW;rw [if_pos hw,if_neg hsh,Int.toNat_natCast,hval]
     have c1:=h.c1;have fz:=h.fz 1;obtain ⟨K,hK⟩:∃K,K=i+m:=⟨_,rfl⟩;rw [←hK] at e2;have k1:(i:Int)+(m:Int)=(K:Int):=by omega
     have k2:IntKind.i64.wrap (K:Int)=(K:Int):=by rw [IntKind.wrap_i64];omega
     have k3:(K:Int)≤9223372036854775807:=by omega
     have HG:Hid (∀W,Calls Tryz.prog 168 #[.int .i64 (m:Int),.int .u64 (numB ((bs.drop i).take m):Int)] W fun e w'=>e=.returned (.int .i64 (sgn m (numB ((bs.drop i).take m))))∧w'=W):=fun W=>dwithSign_any W m _ hm hpow
     clear e1 h keep hw hval hpow hll hK;generalize sgn m (numB ((bs.drop i).take m))=R at *;generalize numB ((bs.drop i).take m)=N at *;go_enter Tryz.func165,Tryz.ntmps165;go_wp2_with fail;refine (unhide HK).mono ?_;rintro e w1 ⟨rfl,q,rfl⟩;clear HK;go_wp2_with fail;refine (unhide HG _).mono ?_;rintro e w2 ⟨rfl,rfl⟩;clear HG;go_wp2;go_ret2;rw [unhide e2];exact ⟨rfl,rd_moved (unhide HS) q K⟩
 · have e1:lookR bs i k=(0,2):=by unfold lookR;rw [if_neg hw]
   have e2:Hid (getW bs i k true=(0,2,i)):=by
    show getW bs i k true=_;unfold getW;rw [if_neg hw]
   rw [e1] at HK;have KP:=hide keep;clear e1 h keep hw;go_enter Tryz.func165,Tryz.ntmps165;go_wp2_with fail;refine (unhide HK).mono ?_;rintro e w1 ⟨rfl,q,rfl⟩;go_wp2;go_ret2;rw [unhide e2];exact ⟨rfl,unhide KP q⟩
theorem dBytes_all (F:Nat→Prop) (w:World) (B x:Nat) (bs:List UInt8) (i:Nat) (n:Int) (h:RD F w B x bs i) (hs:bs.length≤140737488351232) (hi:i≤bs.length) (hn:-9223372036854775808≤n∧n≤9223372036854775807) :
 Calls Tryz.prog 154 #[.pointer (some ⟨x,0,none⟩),.int .i64 n] w fun e w'=>∃v,e=.returned (.tuple #[v,.int .i64 (takeW bs i n).2.1])∧w'.ownsRow w.heap.size 5 1 v (takeW bs i n).1.length (bv (takeW bs i n).1)∧(∃F',RD F' w' B x bs (takeW bs i n).2.2∧(∀j,F' j→F j∨w.heap.size≤j)∧∀j,v.ownBlock=some j→¬F' j)∧Fr6 F B w w'∧Kx x w w':=by
 obtain ⟨y,c,rfl,h⟩:=h;have HM:=hide (dmade_any w B x y c bs i h);have HS:=hide h;have keep:Hid (∀q,w.ownsRow w.heap.size 5 1 (.slice none 0 0) 0 (bv [])∧(∃F',RD F' (w.drewN q) B x bs i∧(∀j,F' j→(j=x∨j=y)∨w.heap.size≤j)∧∀j,(Value.slice none 0 0).ownBlock=some j→¬F' j)∧Fr6 (fun k=>k=x∨k=y) B w (w.drewN q)∧Kx x w (w.drewN q)):=fun q=>⟨World.ownsRow_nil _ _ _ _,⟨_,⟨y,c,rfl,h.drewN q⟩,fun j hj=>.inl hj,fun j hj=>by simp [Value.ownBlock] at hj⟩,Fr6.of_below (below_drewN (Below.refl _ _) q) (Nat.le_trans h.hx (Nat.le_of_lt h.xlt)),kx_drewN _ _ _⟩
 by_cases h0:n<0
 · have e1:Hid (takeW bs i n=([],2,i)):=by
    show takeW bs i n=_;unfold takeW;rw [if_pos h0]
   clear h HS;go_enter Tryz.func154,Tryz.ntmps154;go_wp2_with fail;refine (unhide HM).mono ?_;rintro e w1 ⟨rfl,e0⟩;have e0':=e0.symm;clear e0;subst e0';go_wp2;go_ret2;rw [unhide e1];exact ⟨_,rfl,(unhide keep 0).1,(unhide keep 0).2⟩
 have HL:=hide (dleft_any w x _ _ c i h.c0 h.c1 hi hs)
 by_cases hsh:(bs.length:Int)-i<n
 · have e1:Hid (takeW bs i n=([],7,i)):=by
    show takeW bs i n=_;unfold takeW;rw [if_neg h0,if_pos hsh]
   clear h HS;generalize hnl:bs.length=N at *;clear hnl;go_enter Tryz.func154,Tryz.ntmps154;go_wp2_with fail;refine (unhide HM).mono ?_;rintro e w1 ⟨rfl,e0⟩;have e0':=e0.symm;clear e0;subst e0';go_wp2_with fail;refine (unhide HL).mono ?_;rintro e w1 ⟨rfl,q,rfl⟩;go_wp2;go_ret2;rw [unhide e1];exact ⟨_,rfl,(unhide keep q).1,(unhide keep q).2⟩
 · obtain ⟨m,rfl⟩:∃m:Nat,n=m:=⟨n.toNat,by omega⟩
   obtain ⟨K,hK⟩:∃K,K=i+m:=⟨_,rfl⟩;have e1:Hid (takeW bs i (m:Int)=((bs.take K).drop i,0,K)):=by
    show takeW bs i (m:Int)=_;unfold takeW;rw [if_neg h0,if_neg hsh,Int.toNat_natCast,hK,List.take_drop]
   have hcap:=own_cap h.row;have hbs:=sub_bs (arg_of_own rfl h.row) i K (by omega) (by omega);have hKm:K-i=m:=by omega
   rw [hKm] at hbs;obtain ⟨ad,had⟩:∃ad,(if c=i then some (⟨y,0,none⟩:Addr) else Option.map (fun x=>x.add i) (some (⟨y,0,none⟩:Addr)))=some ad:=by
    split
    · exact ⟨_,rfl⟩
    · exact ⟨_,rfl⟩
   rw [had] at hbs;have HLL:Hid (((bs.take K).drop i).length=m):=hbs.1;have HN:Hid (∀j,Calls Tryz.prog 163 #[.pointer (some ⟨x,0,none⟩),.int .i64 (m:Int)] (w.drewN j) fun e w'=>e=.returned (.slice (some ad) m (c-i))∧∃k,w'=(w.drewN j).drewN k):=fun j=>by
    have:=dnext_any (w.drewN j) x _ _ c i m (h.drewN j).c0 (h.drewN j).c1 (by omega) hcap.1 hcap.2;rw [had] at this;exact this
   have HC:Hid (∀j,Calls Tryz.prog 94 #[.slice (some ad) m (c-i)] (w.drewN j) fun e w'=>∃g d,e=.returned (.slice (some ⟨g,0,none⟩) m d)∧w'.ownsRow w.heap.size 5 1 (.slice (some ⟨g,0,none⟩) m d) m (bv ((bs.take K).drop i))∧Below w.heap.size (w.drewN j) w'):=fun j=>bClone_any (w.drewN j) ad m (c-i) _ (hbs.below (below_drewN (Below.refl _ _) j)) (by omega)
   have k1:(i:Int)+(m:Int)=(K:Int):=by omega
   have k2:IntKind.i64.wrap (K:Int)=(K:Int):=by rw [IntKind.wrap_i64];omega
   have k3:(K:Int)≤9223372036854775807:=by omega
   clear h hbs hcap had hK hKm;generalize (bs.take K).drop i=l at *;generalize hnl:bs.length=N at *;clear hnl;go_enter Tryz.func154,Tryz.ntmps154;go_wp2_with fail;refine (unhide HM).mono ?_;rintro e w1 ⟨rfl,e0⟩;have e0':=e0.symm;clear e0;subst e0';go_wp2_with fail;refine (unhide HL).mono ?_;rintro e w1 ⟨rfl,q,rfl⟩;have HN1:=hide (unhide HN q);clear HM HL HN;go_wp2_with fail;refine (unhide HN1).mono ?_;rintro e w2 ⟨rfl,q2,rfl⟩;clear HN1;rw [World.drewN_drewN];go_wp2_with fail;refine (unhide HC _).mono ?_;rintro e w3 ⟨g,d,rfl,o3,f3⟩;have f3':Below w.heap.size w w3:=(below_drewN (Below.refl _ _) _).trans f3;have h3:=(unhide HS).below f3';have hgl:=o3.lt g rfl;have hxl:=(unhide HS).xlt;have hyl:=(unhide HS).y.2;have d1:=h3.c1;have fz:=h3.fz 1;have hmv:=h3.move K;have HEND:Hid ((w3.setCell ⟨x,1,none⟩ (.int .i64 (K:Int))).ownsRow w.heap.size 5 1 (.slice (some ⟨g,0,none⟩) m d) m (bv l)∧(∃F',RD F' (w3.setCell ⟨x,1,none⟩ (.int .i64 (K:Int))) B x bs K∧(∀j,F' j→(j=x∨j=y)∨w.heap.size≤j)∧∀j,(Value.slice (some ⟨g,0,none⟩) m d).ownBlock=some j→¬F' j)∧Fr6 (fun k=>k=x∨k=y) B w (w3.setCell ⟨x,1,none⟩ (.int .i64 (K:Int)))∧Kx x w (w3.setCell ⟨x,1,none⟩ (.int .i64 (K:Int)))):=by
    have hgx:g≠x:=by omega
    refine ⟨own_of_block o3 (fun k hk=>?_),⟨_,⟨y,c,rfl,hmv⟩,fun j hj=>.inl hj,fun j hj=>?_⟩,⟨(f3'.mono (Nat.le_trans (unhide HS).hx (Nat.le_of_lt hxl))).setCell (p:=⟨x,1,none⟩) (unhide HS).hx _,fun k hk hF=>?_⟩,fun k hk hF=>(Below.heap_setCell _ _ _ _ hF).trans (f3'.block k hk)⟩
    · simp [Value.ownBlock] at hk
      subst hk;exact Below.heap_setCell _ _ _ _ hgx
    · simp [Value.ownBlock] at hj
      subst hj;rintro (e | e) <;> omega
    · exact (Below.heap_setCell _ _ _ _ (fun e=>hF (.inl e))).trans (f3'.block k hk)
   clear HC o3 f3 f3' h3 hgl hxl hyl hmv HS keep;go_wp2;go_ret2;rw [unhide e1];have hE:=unhide HEND;refine ⟨_,rfl,?_,hE.2⟩;show World.ownsRow _ _ _ _ _ l.length (bv l);rw [unhide HLL];exact hE.1
theorem krd_lt {F:Nat→Prop} {w:World} {B x:Nat} {bs:List UInt8} {i:Nat} (h:RD F w B x bs i):∀k,F k→B≤k∧k<w.heap.size:=by
 obtain ⟨y,c,rfl,h⟩:=h;intro k hk
 rcases hk with rfl | rfl
 · exact ⟨h.hx,h.xlt⟩
 · exact h.y
theorem krd_below {F:Nat→Prop} {w w':World} {B x:Nat} {bs:List UInt8} {i:Nat} (h:RD F w B x bs i) (f:Below w.heap.size w w'):RD F w' B x bs i:=by
 obtain ⟨y,c,rfl,h⟩:=h;exact ⟨y,c,rfl,h.below f⟩
theorem kfr2_trans {F F1:Nat→Prop} {B:Nat} {w w1 w2:World} (f1:Fr6 F B w w1) (f2:Fr6 F1 B w1 w2) (hF:∀k,F1 k→F k∨w.heap.size≤k):Fr6 F B w w2:=
 ⟨f1.below.trans f2.below,fun k hk hn=>(f2.other k (Nat.lt_of_lt_of_le hk f1.below.size) (fun h=>(hF k h).elim hn (fun h=>by omega))).trans (f1.other k hk hn)⟩
structure RS (F0:Nat→Prop) (w0:World) (B x:Nat) (bs:List UInt8) (i:Nat) (W:World):Prop where
 ex:∃F,RD F W B x bs i∧∀j,F j→F0 j∨w0.heap.size≤j
 fr:Fr6 F0 B w0 W
 kp:Kx x w0 W
theorem RS.start {F0:Nat→Prop} {w:World} {B x:Nat} {bs:List UInt8} {i:Nat} (h:RD F0 w B x bs i):RS F0 w B x bs i w:=⟨⟨F0,h,fun j hj=>.inl hj⟩,⟨Below.refl _ _,fun _ _ _=>rfl⟩,fun _ _ _=>rfl⟩
theorem RS.below {F0:Nat→Prop} {w0 W W':World} {B x:Nat} {bs:List UInt8} {i:Nat} (h:RS F0 w0 B x bs i W) (hB:B≤w0.heap.size) (f:Below W.heap.size W W'):RS F0 w0 B x bs i W':=by
 obtain ⟨F,h1,h2⟩:=h.ex;exact ⟨⟨F,krd_below h1 f,h2⟩,kfr2_trans (F1:=fun _=>False) h.fr (Fr6.of_below f (Nat.le_trans hB h.fr.below.size)) (fun k hk=>hk.elim),fun k hk hx=>(f.block k (Nat.lt_of_lt_of_le hk h.fr.below.size)).trans (h.kp k hk hx)⟩
theorem RS.next {F0 F F':Nat→Prop} {w0 W W':World} {B x:Nat} {bs:List UInt8} {i i':Nat} (h:RS F0 w0 B x bs i W) (hF:∀j,F j→F0 j∨w0.heap.size≤j) (h1:RD F' W' B x bs i') (h2:∀j,F' j→F j∨W.heap.size≤j) (f:Fr6 F B W W') (kx:Kx x W W'):RS F0 w0 B x bs i' W':=
 ⟨⟨F',h1,fun j hj=>(h2 j hj).elim (fun e=>hF j e) (fun e=>.inr (Nat.le_trans h.fr.below.size e))⟩,kfr2_trans h.fr f hF,fun k hk hx=>(kx k (Nat.lt_of_lt_of_le hk h.fr.below.size) hx).trans (h.kp k hk hx)⟩
theorem RS.leave {F0 F:Nat→Prop} {w0 w w1 W:World} {B x:Nat} {bs:List UInt8} {i i':Nat} (h:RS F0 w0 B x bs i w) (hB:B≤w0.heap.size) (hF:∀j,F j→F0 j∨w0.heap.size≤j) (b:Below w.heap.size w w1) (g:RS F w1 B x bs i' W):RS F0 w0 B x bs i' W:=by
 obtain ⟨F',h1,h2⟩:=g.ex;have hs:=h.fr.below.size;exact ⟨⟨F',h1,fun j hj=>(h2 j hj).elim (fun e=>hF j e) (fun e=>.inr (Nat.le_trans hs (Nat.le_trans b.size e)))⟩,kfr2_trans h.fr (kfr2_trans (Fr6.of_below b (Nat.le_trans hB hs)) g.fr (fun k hk=>.inl hk)) hF,fun k hk hx=>(g.kp k (Nat.lt_of_lt_of_le hk (Nat.le_trans hs b.size)) hx).trans ((b.block k (Nat.lt_of_lt_of_le hk hs)).trans (h.kp k hk hx))⟩
theorem rs_u {F0:Nat→Prop} {w0 W:World} {B x:Nat} {bs:List UInt8} {i:Nat} (h:RS F0 w0 B x bs i W) (k:Int) (hs:bs.length≤140737488351232) (hi:i≤bs.length) (hk:-9223372036854775808≤k∧k≤9223372036854775807) :
 Calls Tryz.prog 145 #[.pointer (some ⟨x,0,none⟩),.int .i64 k] W fun e w'=>e=.returned (.tuple #[.int .i64 (getW bs i k false).1,.int .i64 (getW bs i k false).2.1])∧RS F0 w0 B x bs (getW bs i k false).2.2 w':=by
 obtain ⟨F,h1,h2⟩:=h.ex;refine (dU_all F W B x bs i k h1 hs hi hk).mono ?_;rintro e w' ⟨rfl,⟨F',r1,r2⟩,r3,r4⟩;exact ⟨rfl,h.next h2 r1 r2 r3 r4⟩
theorem rs_s {F0:Nat→Prop} {w0 W:World} {B x:Nat} {bs:List UInt8} {i:Nat} (h:RS F0 w0 B x bs i W) (k:Int) (hs:bs.length≤140737488351232) (hi:i≤bs.length) (hk:-9223372036854775808≤k∧k≤9223372036854775807) :
 Calls Tryz.prog 165 #[.pointer (some ⟨x,0,none⟩),.int .i64 k] W fun e w'=>e=.returned (.tuple #[.int .i64 (getW bs i k true).1,.int .i64 (getW bs i k true).2.1])∧RS F0 w0 B x bs (getW bs i k true).2.2 w':=by
 obtain ⟨F,h1,h2⟩:=h.ex;refine (dS_all F W B x bs i k h1 hs hi hk).mono ?_;rintro e w' ⟨rfl,⟨F',r1,r2⟩,r3,r4⟩;exact ⟨rfl,h.next h2 r1 r2 r3 r4⟩
theorem rs_bytes {F0:Nat→Prop} {w0 W:World} {B x:Nat} {bs:List UInt8} {i:Nat} (h:RS F0 w0 B x bs i W) (n:Int) (hs:bs.length≤140737488351232) (hi:i≤bs.length) (hn:-9223372036854775808≤n∧n≤9223372036854775807) :
 Calls Tryz.prog 154 #[.pointer (some ⟨x,0,none⟩),.int .i64 n] W fun e w'=>∃a c,e=.returned (.tuple #[.slice a (takeW bs i n).1.length c,.int .i64 (takeW bs i n).2.1])∧BytesAt w' a (takeW bs i n).1∧RS F0 w0 B x bs (takeW bs i n).2.2 w':=by
 obtain ⟨F,h1,h2⟩:=h.ex;refine (dBytes_all F W B x bs i n h1 hs hi hn).mono ?_;rintro e w' ⟨v,rfl,o,⟨F',r1,r2,_⟩,r3,r4⟩;obtain ⟨a,c,rfl,_⟩:=own_form o;exact ⟨a,c,rfl,own_bytes o,h.next h2 r1 r2 r3 r4⟩
def textR (bs:List UInt8) (i:Nat):List UInt8×Int×Nat:=
 if (getW bs i 2 false).2.1≠0 then ([],(getW bs i 2 false).2) else takeW bs (getW bs i 2 false).2.2 (getW bs i 2 false).1
def twoR (bs:List UInt8) (i:Nat):Int×Int×Int×Nat:=
 if (getW bs i 2 false).2.1≠0 then (0,0,(getW bs i 2 false).2) else ((getW bs i 2 false).1,(getW bs (getW bs i 2 false).2.2 2 false).1,(getW bs (getW bs i 2 false).2.2 2 false).2)
theorem kgetW_rng {b:List UInt8} {i:Nat} {k:Int} {sg:Bool}:-9223372036854775808≤(getW b i k sg).1∧(getW b i k sg).1≤9223372036854775807:=by
 unfold getW;split
 · rename_i hw
   split
   · show (-9223372036854775808:Int)≤0∧(0:Int)≤_
     omega
   · cases hv:valW ((b.drop i).take k.toNat) sg with
     | none=>
      show (-9223372036854775808:Int)≤0∧(0:Int)≤_;omega
     | some n=>
      show (-9223372036854775808:Int)≤n∧n≤_;have hlt:=numB_lt ((b.drop i).take k.toNat);have hl:((b.drop i).take k.toNat).length≤k.toNat:=by rw [List.length_take];omega
      unfold valW at hv;split at hv
      · rename_i h8
        rw [h8] at hlt;split at hv
        · injection hv with hv
          split at hv <;> omega
        · split at hv
          · injection hv with hv
            omega
          · cases hv
      · rename_i h8
        have h7:((b.drop i).take k.toNat).length≤7:=by
         obtain ⟨m,rfl,hm⟩:=wide_nat hw;omega
        have hp:=Nat.pow_le_pow_right (n:=256) (by omega) h7;split at hv
        · injection hv with hv
          omega
        · injection hv with hv
          omega
 · show (-9223372036854775808:Int)≤0∧(0:Int)≤_
   omega
theorem kreadText_any (F0:Nat→Prop) (w0 w:World) (B x:Nat) (bs:List UInt8) (i:Nat) (h:RS F0 w0 B x bs i w) (hs:bs.length≤140737488351232) (hi:i≤bs.length) :
 Calls Tryz.prog 164 #[.pointer (some ⟨x,0,none⟩)] w fun e w'=>e=.returned (.tuple #[.string ⟨(textR bs i).1.toArray⟩,.int .i64 (textR bs i).2.1])∧RS F0 w0 B x bs (textR bs i).2.2 w':=by
 have HU:=hide (rs_u h 2 hs hi (by omega));have hle:(getW bs i 2 false).2.2≤bs.length:=getW_le hi;have hrg:-9223372036854775808≤(getW bs i 2 false).1∧(getW bs i 2 false).1≤9223372036854775807:=kgetW_rng
 by_cases h0:(getW bs i 2 false).2.1=0
 · have e1:Hid (textR bs i=takeW bs (getW bs i 2 false).2.2 (getW bs i 2 false).1):=if_neg (by rw [h0];simp)
   rw [h0] at HU;generalize (getW bs i 2 false).1=m at *;generalize (getW bs i 2 false).2.2=j at *;clear h h0;go_enter Tryz.func164,Tryz.ntmps164;go_wp2_with fail;refine (unhide HU).mono ?_;rintro e w1 ⟨rfl,S1⟩;have HB:=hide (rs_bytes S1 m hs hle hrg);clear S1 HU;go_wp2_with fail;refine (unhide HB).mono ?_;rintro e w2 ⟨a,c,rfl,hb,S2⟩;have hcv:=conv_bytes w2 a (takeW bs j m).1 c hb;have SS2:=hide S2;clear HB hb S2;generalize takeW bs j m=R at *;obtain ⟨R1,R2,R3⟩:=R;simp only at hcv SS2 ⊢;generalize hl:R1.length=L at *;generalize hst:(⟨R1.toArray⟩:ByteArray)=st at *;have HST:=hide hst;clear hl hst;go_wp2;go_ret2;rw [unhide e1];exact ⟨by rw [unhide HST];rfl,unhide SS2⟩
 · have e1:Hid (textR bs i=([],(getW bs i 2 false).2)):=if_pos h0
   have hne:((getW bs i 2 false).2.1==0)=false:=by simpa using h0
   have hne':((getW bs i 2 false).2.1 != 0)=true:=by simpa using h0
   generalize getW bs i 2 false=R at *;obtain ⟨R1,R2,R3⟩:=R;simp only at HU hne hne' e1;clear h h0;go_enter Tryz.func164,Tryz.ntmps164;go_wp2_with fail;refine (unhide HU).mono ?_;rintro e w1 ⟨rfl,S1⟩;have SS1:=hide S1;clear S1 HU;go_wp2;go_ret2;rw [unhide e1];exact ⟨rfl,unhide SS1⟩
theorem kreadTwo_any (F0:Nat→Prop) (w0 w:World) (B x:Nat) (bs:List UInt8) (i:Nat) (h:RS F0 w0 B x bs i w) (hs:bs.length≤140737488351232) (hi:i≤bs.length) :
 Calls Tryz.prog 166 #[.pointer (some ⟨x,0,none⟩)] w fun e w'=>e=.returned (.tuple #[.int .i64 (twoR bs i).1,.int .i64 (twoR bs i).2.1,.int .i64 (twoR bs i).2.2.1])∧RS F0 w0 B x bs (twoR bs i).2.2.2 w':=by
 have HU:=hide (rs_u h 2 hs hi (by omega));have hle:(getW bs i 2 false).2.2≤bs.length:=getW_le hi
 by_cases h0:(getW bs i 2 false).2.1=0
 · have e1:Hid (twoR bs i=((getW bs i 2 false).1,(getW bs (getW bs i 2 false).2.2 2 false).1,(getW bs (getW bs i 2 false).2.2 2 false).2)):=if_neg (by rw [h0];simp)
   rw [h0] at HU;generalize (getW bs i 2 false).1=m at *;generalize (getW bs i 2 false).2.2=j at *;clear h h0;go_enter Tryz.func166,Tryz.ntmps166;go_wp2_with fail;refine (unhide HU).mono ?_;rintro e w1 ⟨rfl,S1⟩;have HB:=hide (rs_u S1 2 hs hle (by omega));clear S1 HU;generalize getW bs j 2 false=R at *;obtain ⟨R1,R2,R3⟩:=R;simp only at HB e1;go_wp2_with fail;refine (unhide HB).mono ?_;rintro e w2 ⟨rfl,S2⟩;have SS2:=hide S2;clear HB S2;go_wp2
   go_ret3
   rw [unhide e1];exact ⟨rfl,unhide SS2⟩
 · have e1:Hid (twoR bs i=(0,0,(getW bs i 2 false).2)):=if_pos h0
   have hne:((getW bs i 2 false).2.1==0)=false:=by simpa using h0
   have hne':((getW bs i 2 false).2.1 != 0)=true:=by simpa using h0
   generalize getW bs i 2 false=R at *;obtain ⟨R1,R2,R3⟩:=R;simp only at HU hne hne' e1;clear h h0;go_enter Tryz.func166,Tryz.ntmps166;go_wp2_with fail;refine (unhide HU).mono ?_;rintro e w1 ⟨rfl,S1⟩;have SS1:=hide S1;clear S1 HU;go_wp2
   go_ret3
   rw [unhide e1];exact ⟨rfl,unhide SS1⟩
theorem krd_keep {F:Nat→Prop} {w w':World} {B x:Nat} {bs:List UInt8} {i:Nat} (h:RD F w B x bs i) (hk:∀k,F k→w'.heap[k]?=w.heap[k]?):RD F w' B x bs i:=by
 obtain ⟨y,c,rfl,h⟩:=h;exact ⟨y,c,rfl,h.keep (hk x (.inl rfl)) (hk y (.inr rfl))⟩
structure RE (F:Nat→Prop) (w:World) (B x:Nat) (bs:List UInt8) (i R X:Nat) (W:World):Prop where
 ex:∃F3,RD F3 W B x bs i∧¬F3 R∧¬F3 X∧∀j,F3 j→F j∨w.heap.size≤j
 fr:Fr6 F B w W
 kp:Kx x w W
theorem RE.set {F:Nat→Prop} {w W:World} {B x:Nat} {bs:List UInt8} {i R X:Nat} (h:RE F w B x bs i R X W) (hB:B≤w.heap.size) (Y j:Nat) (u:Value) (hY:Y=R∨Y=X) (hw:w.heap.size≤Y):RE F w B x bs i R X (W.setCell ⟨Y,j,none⟩ u):=by
 obtain ⟨F3,h1,h2,h3,h4⟩:=h.ex;have hn:¬F3 Y:=by rcases hY with rfl | rfl <;> assumption
 have hset:∀k,k≠Y→(W.setCell ⟨Y,j,none⟩ u).heap[k]?=W.heap[k]?:=fun k hk=>Below.heap_setCell _ _ _ _ hk
 exact ⟨⟨F3,krd_keep h1 (fun k hk=>hset k (fun e=>hn (e▸hk))),h2,h3,h4⟩,⟨h.fr.below.setCell (p:=⟨Y,j,none⟩) (Nat.le_trans hB hw) _,fun k hk hF=>(hset k (by omega)).trans (h.fr.other k hk hF)⟩,fun k hk hx=>(hset k (by omega)).trans (h.kp k hk hx)⟩
theorem RE.done {F:Nat→Prop} {w W:World} {B x:Nat} {bs:List UInt8} {i R X:Nat} (h:RE F w B x bs i R X W):RS F w B x bs i W:=by
 obtain ⟨F3,h1,h2,h3,h4⟩:=h.ex;exact ⟨⟨F3,h1,h4⟩,h.fr,h.kp⟩
theorem RE.five {F:Nat→Prop} {w W:World} {B x:Nat} {bs:List UInt8} {i R X:Nat} (h:RE F w B x bs i R X W) (hB:B≤w.heap.size) (hw:w.heap.size≤R) (c0 c1 c2 c3 c4:Value) :
 RE F w B x bs i R X (((((W.setCell ⟨R,0,none⟩ c0).setCell ⟨R,1,none⟩ c1).setCell ⟨R,2,none⟩ c2).setCell ⟨R,3,none⟩ c3).setCell ⟨R,4,none⟩ c4):=
 ((((h.set hB R 0 c0 (.inl rfl) hw).set hB R 1 c1 (.inl rfl) hw).set hB R 2 c2 (.inl rfl) hw).set hB R 3 c3 (.inl rfl) hw).set hB R 4 c4 (.inl rfl) hw
theorem kent_results {fn:Func} {p u:Tmp} (h:fn.results=#[.cell p 55,.tmp u]) (W:World) (r:Nat) (cs:Array Value) (hs:cs.size=5) (hb:W.heap[r]?=some (.cells cs 55 (0,0))) (tmps:Array Value) (hp:tmps.getD p undef=.pointer (some ⟨r,0,none⟩)) :
 (results fn tmps).run Tryz.prog W=.ok (.tuple #[.agg cs,tmps.getD u undef]) W:=by
 rw [results_cell_tmp h,hp];simp [asAddr,run_loadVar_row W r 55 55 _ (0,0) _ hb Tryz.underlying55 rfl (by rw [hs];exact sizeEnt)]
theorem getW_zero {bs:List UInt8} {i:Nat} {k:Int} {sg:Bool} (h:(getW bs i k sg).2.1≠0):(getW bs i k sg).1=0:=by
 unfold getW at h ⊢;split
 · rename_i h1
   rw [if_pos h1] at h;split
   · rfl
   · rename_i h2
     rw [if_neg h2] at h;split
     · rfl
     · rename_i n hn
       rw [hn] at h;exact absurd rfl h
 · rfl
theorem entR_1 {bs:List UInt8} {i:Nat} (h0:(getW bs i 1 false).2.1=0) (ht:(getW bs i 1 false).1=1):entR bs i=(⟨1,(textR bs (getW bs i 1 false).2.2).1,0,0,0⟩,(textR bs (getW bs i 1 false).2.2).2):=by
 unfold entR;simp only;rw [if_neg (by rw [h0];simp),ht];rw [if_pos rfl];unfold textR;split
 · rfl
 · rfl
theorem entR_3 {bs:List UInt8} {i:Nat} (h0:(getW bs i 1 false).2.1=0) (ht:(getW bs i 1 false).1=3):entR bs i=(⟨3,[],(getW bs (getW bs i 1 false).2.2 4 true).1,0,0⟩,(getW bs (getW bs i 1 false).2.2 4 true).2):=by
 unfold entR;simp only;rw [if_neg (by rw [h0];simp),ht];rw [if_neg (by decide),if_pos rfl]
theorem entR_5 {bs:List UInt8} {i:Nat} (h0:(getW bs i 1 false).2.1=0) (ht:(getW bs i 1 false).1=5):entR bs i=(⟨5,[],(getW bs (getW bs i 1 false).2.2 8 true).1,0,0⟩,(getW bs (getW bs i 1 false).2.2 8 true).2):=by
 unfold entR;simp only;rw [if_neg (by rw [h0];simp),ht];rw [if_neg (by decide),if_neg (by decide),if_pos rfl]
theorem entR_7 {bs:List UInt8} {i:Nat} (h0:(getW bs i 1 false).2.1=0) (ht:(getW bs i 1 false).1=7):entR bs i=(⟨7,[],0,(getW bs (getW bs i 1 false).2.2 2 false).1,0⟩,(getW bs (getW bs i 1 false).2.2 2 false).2):=by
 unfold entR;simp only;rw [if_neg (by rw [h0];simp),ht];rw [if_neg (by decide),if_neg (by decide),if_neg (by decide),if_pos rfl]
theorem entR_9 {bs:List UInt8} {i:Nat} (h0:(getW bs i 1 false).2.1=0) (ht:(getW bs i 1 false).1=9):entR bs i=(⟨9,[],0,(twoR bs (getW bs i 1 false).2.2).1,(twoR bs (getW bs i 1 false).2.2).2.1⟩,(twoR bs (getW bs i 1 false).2.2).2.2):=by
 unfold entR;simp only;rw [if_neg (by rw [h0];simp),ht];rw [if_neg (by decide),if_neg (by decide),if_neg (by decide),if_neg (by decide),if_pos (by decide)];unfold twoR
 by_cases h1:(getW bs (getW bs i 1 false).2.2 2 false).2.1≠0
 · rw [if_pos h1,if_pos h1,getW_zero h1]
 · rw [if_neg h1,if_neg h1]
theorem entR_10 {bs:List UInt8} {i:Nat} (h0:(getW bs i 1 false).2.1=0) (ht:(getW bs i 1 false).1=10):entR bs i=(⟨10,[],0,(twoR bs (getW bs i 1 false).2.2).1,(twoR bs (getW bs i 1 false).2.2).2.1⟩,(twoR bs (getW bs i 1 false).2.2).2.2):=by
 unfold entR;simp only;rw [if_neg (by rw [h0];simp),ht];rw [if_neg (by decide),if_neg (by decide),if_neg (by decide),if_neg (by decide),if_pos (by decide)];unfold twoR
 by_cases h1:(getW bs (getW bs i 1 false).2.2 2 false).2.1≠0
 · rw [if_pos h1,if_pos h1,getW_zero h1]
 · rw [if_neg h1,if_neg h1]
theorem entR_12 {bs:List UInt8} {i:Nat} (h0:(getW bs i 1 false).2.1=0) (ht:(getW bs i 1 false).1=12):entR bs i=(⟨12,[],0,(twoR bs (getW bs i 1 false).2.2).1,(twoR bs (getW bs i 1 false).2.2).2.1⟩,(twoR bs (getW bs i 1 false).2.2).2.2):=by
 unfold entR;simp only;rw [if_neg (by rw [h0];simp),ht];rw [if_neg (by decide),if_neg (by decide),if_neg (by decide),if_neg (by decide),if_pos (by decide)];unfold twoR
 by_cases h1:(getW bs (getW bs i 1 false).2.2 2 false).2.1≠0
 · rw [if_pos h1,if_pos h1,getW_zero h1]
 · rw [if_neg h1,if_neg h1]
theorem kreadEntry_bad (F:Nat→Prop) (w:World) (B x:Nat) (bs:List UInt8) (i:Nat) (h:RD F w B x bs i) (hB:B≤w.heap.size) (hs:bs.length≤140737488351232) (hi:i≤bs.length) (h0:(getW bs i 1 false).2.1≠0) :
 Calls Tryz.prog 153 #[.pointer (some ⟨x,0,none⟩)] w fun e w'=>e=.returned (.tuple #[entV (entR bs i).1,.int .i64 (entR bs i).2.1])∧RS F w B x bs (entR bs i).2.2 w':=by
 have hle:(getW bs i 1 false).2.2≤bs.length:=getW_le hi;have b0:Below w.heap.size w (w.alloc (.cells #[.int .i64 0,.string ⟨#[]⟩,.int .i64 0,.int .i64 0,.int .i64 0] 55)):=(Below.refl _ _).alloc (Nat.le_refl _) _;have hl0:=heap_alloc_last w (.cells #[.int .i64 0,.string ⟨#[]⟩,.int .i64 0,.int .i64 0,.int .i64 0] 55);have hFl:=krd_lt h;have HU:=hide (rs_u (RS.start (krd_below h b0)) 1 hs hi (by omega));have SW:=hide (RS.start h);have HR0:=hide hl0;have B0:=hide b0;have hB0:B≤(w.alloc (.cells #[.int .i64 0,.string ⟨#[]⟩,.int .i64 0,.int .i64 0,.int .i64 0] 55)).heap.size:=Nat.le_trans hB b0.size;have e1:Hid (entR bs i=(ent0,(getW bs i 1 false).2)):=by
  show entR bs i=_;unfold entR;simp only;rw [if_pos h0,getW_zero h0];rfl
 have hne:((getW bs i 1 false).2.1==0)=false:=by simpa using h0
 have hne':((getW bs i 1 false).2.1 != 0)=true:=by simpa using h0
 generalize getW bs i 1 false=G at *;obtain ⟨G1,G2,G3⟩:=G;simp only at HU hne hne' e1 h0;clear h0;clear b0 hl0 h;go_enter Tryz.func153,Tryz.ntmps153;go_wp2_with fail;generalize w.alloc (.cells #[.int .i64 0,.string ⟨#[]⟩,.int .i64 0,.int .i64 0,.int .i64 0] 55)=w0 at *;refine (unhide HU).mono ?_;rintro e w1 ⟨rfl,S1⟩;obtain ⟨F1,r1,h1⟩:=S1.ex;have hRw:w.heap.size<w0.heap.size:=lt_of_heap (unhide HR0);have hR1:¬F1 w.heap.size:=fun hh=>by
  rcases h1 _ hh with e | e
  · have:=(hFl _ e).2
    omega
  · omega
 have hrb1:w1.heap[w.heap.size]?=some (.cells #[.int .i64 0,.string ⟨#[]⟩,.int .i64 0,.int .i64 0,.int .i64 0] 55 (0,0)):=(S1.fr.other _ hRw (fun e=>by have:=(hFl _ e).2;omega)).trans (unhide HR0);have hw1:w0.heap.size≤w1.heap.size:=S1.fr.below.size;have F1l:=krd_lt r1;have RE1:Hid (RE F w B x bs G3 w.heap.size w.heap.size w1):=⟨⟨F1,r1,hR1,hR1,fun j hj=>(h1 j hj).elim .inl (fun e=>.inr (by omega))⟩,kfr2_trans (Fr6.of_below (unhide B0) hB) S1.fr (fun k hk=>.inl hk),(Kx.of_below (unhide B0)).trans (unhide B0).size S1.kp⟩;have q0:w1.cell? ⟨w.heap.size,0,none⟩=some (.int .i64 0):=by rw [cell_of_row _ _ _ _ _ _ hrb1];rfl
 have q1:w1.cell? ⟨w.heap.size,1,none⟩=some (.string ⟨#[]⟩):=by rw [cell_of_row _ _ _ _ _ _ hrb1];rfl
 have q2:w1.cell? ⟨w.heap.size,2,none⟩=some (.int .i64 0):=by rw [cell_of_row _ _ _ _ _ _ hrb1];rfl
 have q3:w1.cell? ⟨w.heap.size,3,none⟩=some (.int .i64 0):=by rw [cell_of_row _ _ _ _ _ _ hrb1];rfl
 have q4:w1.cell? ⟨w.heap.size,4,none⟩=some (.int .i64 0):=by rw [cell_of_row _ _ _ _ _ _ hrb1];rfl
 have fz:∀j,w1.frozen? ⟨w.heap.size,j,none⟩=false:=fun j=>frozen_of_row _ _ _ _ _ hrb1
 have HRB:=hide hrb1;clear S1 HU hrb1 r1 h1 hR1 F1l;go_wp2;refine bodyPost_ret (kent_results Tryz.results153 _ w.heap.size _ rfl (by exact five_set _ _ _ _ _ (unhide HRB)) _ rfl) rfl ?_;rw [unhide e1];exact ⟨rfl,((unhide RE1).five hB (Nat.le_refl _) _ _ _ _ _).done⟩
theorem kreadEntry_1 (F:Nat→Prop) (w:World) (B x:Nat) (bs:List UInt8) (i:Nat) (h:RD F w B x bs i) (hB:B≤w.heap.size) (hs:bs.length≤140737488351232) (hi:i≤bs.length) (h0:(getW bs i 1 false).2.1=0) (ht:(getW bs i 1 false).1=1) :
 Calls Tryz.prog 153 #[.pointer (some ⟨x,0,none⟩)] w fun e w'=>e=.returned (.tuple #[entV (entR bs i).1,.int .i64 (entR bs i).2.1])∧RS F w B x bs (entR bs i).2.2 w':=by
 have hle:(getW bs i 1 false).2.2≤bs.length:=getW_le hi;have b0:Below w.heap.size w (w.alloc (.cells #[.int .i64 0,.string ⟨#[]⟩,.int .i64 0,.int .i64 0,.int .i64 0] 55)):=(Below.refl _ _).alloc (Nat.le_refl _) _;have hl0:=heap_alloc_last w (.cells #[.int .i64 0,.string ⟨#[]⟩,.int .i64 0,.int .i64 0,.int .i64 0] 55);have hFl:=krd_lt h;have HU:=hide (rs_u (RS.start (krd_below h b0)) 1 hs hi (by omega));have SW:=hide (RS.start h);have HR0:=hide hl0;have B0:=hide b0;have hB0:B≤(w.alloc (.cells #[.int .i64 0,.string ⟨#[]⟩,.int .i64 0,.int .i64 0,.int .i64 0] 55)).heap.size:=Nat.le_trans hB b0.size;have e1:Hid (entR bs i=(⟨1,(textR bs (getW bs i 1 false).2.2).1,0,0,0⟩,(textR bs (getW bs i 1 false).2.2).2)):=entR_1 h0 ht;rw [h0,ht] at HU;clear h0 ht;generalize (getW bs i 1 false).2.2=G3 at *;clear b0 hl0 h;go_enter Tryz.func153,Tryz.ntmps153;go_wp2_with fail;generalize w.alloc (.cells #[.int .i64 0,.string ⟨#[]⟩,.int .i64 0,.int .i64 0,.int .i64 0] 55)=w0 at *;refine (unhide HU).mono ?_;rintro e w1 ⟨rfl,S1⟩;obtain ⟨F1,r1,h1⟩:=S1.ex;have hRw:w.heap.size<w0.heap.size:=lt_of_heap (unhide HR0);have hR1:¬F1 w.heap.size:=fun hh=>by
  rcases h1 _ hh with e | e
  · have:=(hFl _ e).2
    omega
  · omega
 have hrb1:w1.heap[w.heap.size]?=some (.cells #[.int .i64 0,.string ⟨#[]⟩,.int .i64 0,.int .i64 0,.int .i64 0] 55 (0,0)):=(S1.fr.other _ hRw (fun e=>by have:=(hFl _ e).2;omega)).trans (unhide HR0);have hw1:w0.heap.size≤w1.heap.size:=S1.fr.below.size;have F1l:=krd_lt r1;have b2:Below w1.heap.size w1 (w1.alloc (.cells #[.int .i64 1,.string ⟨#[]⟩,.int .i64 0,.int .i64 0,.int .i64 0] 55)):=(Below.refl _ _).alloc (Nat.le_refl _) _;have hx2:=heap_alloc_last w1 (.cells #[.int .i64 1,.string ⟨#[]⟩,.int .i64 0,.int .i64 0,.int .i64 0] 55);have hr2:=(b2.block w.heap.size (by omega)).trans hrb1;have S2:=RS.start (krd_below r1 b2);have fr1:Fr6 F B w w1:=kfr2_trans (Fr6.of_below (unhide B0) hB) S1.fr (fun k hk=>.inl hk);have fr2:Fr6 F B w (w1.alloc (.cells #[.int .i64 1,.string ⟨#[]⟩,.int .i64 0,.int .i64 0,.int .i64 0] 55)):=kfr2_trans (F1:=fun _=>False) fr1 (Fr6.of_below b2 (Nat.le_trans hB fr1.below.size)) (fun k hk=>hk.elim);have hw2:w1.heap.size<(w1.alloc (.cells #[.int .i64 1,.string ⟨#[]⟩,.int .i64 0,.int .i64 0,.int .i64 0] 55)).heap.size:=lt_of_heap hx2;have hX1:¬F1 w1.heap.size:=fun hh=>by have:=(F1l _ hh).2;omega
 have FR2:=hide fr2;have KX2:Hid (Kx x w (w1.alloc (.cells #[.int .i64 1,.string ⟨#[]⟩,.int .i64 0,.int .i64 0,.int .i64 0] 55))):=((Kx.of_below (unhide B0)).trans (unhide B0).size S1.kp).trans fr1.below.size (Kx.of_below b2);have H1:=hide h1;have HX2:=hide hx2;have HR2:=hide hr2;clear S1 HU hrb1 r1 h1 F1l b2 hx2 hr2 fr1 fr2;have HC:=hide (kreadText_any F1 _ _ B x bs G3 S2 hs hle);clear S2;generalize textR bs G3=Q at *;obtain ⟨Q1,Q2,Q3⟩:=Q;simp only at HC e1;generalize hq1:(⟨Q1.toArray⟩:ByteArray)=sq at *;have HQ1:=hide hq1;clear hq1;go_wp2_with fail;generalize w1.alloc (.cells #[.int .i64 1,.string ⟨#[]⟩,.int .i64 0,.int .i64 0,.int .i64 0] 55)=w2 at *;refine (unhide HC).mono ?_;rintro e w3 ⟨rfl,S3⟩;obtain ⟨F3,r3,h3⟩:=S3.ex;have hR3:¬F3 w.heap.size:=fun hh=>(h3 _ hh).elim hR1 (fun e=>by omega)
 have hX3:¬F3 w1.heap.size:=fun hh=>(h3 _ hh).elim hX1 (fun e=>by omega)
 have RE3:Hid (RE F w B x bs Q3 w.heap.size w1.heap.size w3):=⟨⟨F3,r3,hR3,hX3,fun j hj=>(h3 j hj).elim (fun e=>(unhide H1 j e).elim .inl (fun e=>.inr (by omega))) (fun e=>.inr (by omega))⟩,kfr2_trans (unhide FR2) S3.fr (fun k hk=>(unhide H1 k hk).elim .inl (fun e=>.inr (by omega))),(unhide KX2).trans (unhide FR2).below.size S3.kp⟩;have xb3:w3.heap[w1.heap.size]?=_:=(S3.fr.other _ hw2 hX1).trans (unhide HX2);have rb3:w3.heap[w.heap.size]?=_:=(S3.fr.other _ (by omega) hR1).trans (unhide HR2);have x0:w3.cell? ⟨w1.heap.size,0,none⟩=some (.int .i64 1):=by rw [cell_of_row _ _ _ _ _ _ xb3];rfl
 have x1:w3.cell? ⟨w1.heap.size,1,none⟩=some (.string ⟨#[]⟩):=by rw [cell_of_row _ _ _ _ _ _ xb3];rfl
 have x2:w3.cell? ⟨w1.heap.size,2,none⟩=some (.int .i64 0):=by rw [cell_of_row _ _ _ _ _ _ xb3];rfl
 have x3:w3.cell? ⟨w1.heap.size,3,none⟩=some (.int .i64 0):=by rw [cell_of_row _ _ _ _ _ _ xb3];rfl
 have x4:w3.cell? ⟨w1.heap.size,4,none⟩=some (.int .i64 0):=by rw [cell_of_row _ _ _ _ _ _ xb3];rfl
 have q0:w3.cell? ⟨w.heap.size,0,none⟩=some (.int .i64 0):=by rw [cell_of_row _ _ _ _ _ _ rb3];rfl
 have q1:w3.cell? ⟨w.heap.size,1,none⟩=some (.string ⟨#[]⟩):=by rw [cell_of_row _ _ _ _ _ _ rb3];rfl
 have q2:w3.cell? ⟨w.heap.size,2,none⟩=some (.int .i64 0):=by rw [cell_of_row _ _ _ _ _ _ rb3];rfl
 have q3:w3.cell? ⟨w.heap.size,3,none⟩=some (.int .i64 0):=by rw [cell_of_row _ _ _ _ _ _ rb3];rfl
 have q4:w3.cell? ⟨w.heap.size,4,none⟩=some (.int .i64 0):=by rw [cell_of_row _ _ _ _ _ _ rb3];rfl
 have fx:∀j,w3.frozen? ⟨w1.heap.size,j,none⟩=false:=fun j=>frozen_of_row _ _ _ _ _ xb3
 have fr:∀j,w3.frozen? ⟨w.heap.size,j,none⟩=false:=fun j=>frozen_of_row _ _ _ _ _ rb3
 have hne:¬w.heap.size=w1.heap.size:=by omega
 have hne':¬w1.heap.size=w.heap.size:=by omega
 have HRB:=hide rb3;clear S3 HC xb3 rb3 r3 h3 hR3 hX3;go_wp2;refine bodyPost_ret (kent_results Tryz.results153 _ w.heap.size _ rfl (by exact five_set _ _ _ _ _ ((Below.heap_setCell _ _ _ _ hne).trans (unhide HRB))) _ rfl) rfl ?_;rw [unhide e1];unfold entV;simp only;rw [unhide HQ1];exact ⟨rfl,(((unhide RE3).set hB w1.heap.size 1 (.string sq) (.inr rfl) (by omega)).five hB (Nat.le_refl _) _ _ _ _ _).done⟩
theorem kreadEntry_3 (F:Nat→Prop) (w:World) (B x:Nat) (bs:List UInt8) (i:Nat) (h:RD F w B x bs i) (hB:B≤w.heap.size) (hs:bs.length≤140737488351232) (hi:i≤bs.length) (h0:(getW bs i 1 false).2.1=0) (ht:(getW bs i 1 false).1=3) :
 Calls Tryz.prog 153 #[.pointer (some ⟨x,0,none⟩)] w fun e w'=>e=.returned (.tuple #[entV (entR bs i).1,.int .i64 (entR bs i).2.1])∧RS F w B x bs (entR bs i).2.2 w':=by
 have hle:(getW bs i 1 false).2.2≤bs.length:=getW_le hi;have b0:Below w.heap.size w (w.alloc (.cells #[.int .i64 0,.string ⟨#[]⟩,.int .i64 0,.int .i64 0,.int .i64 0] 55)):=(Below.refl _ _).alloc (Nat.le_refl _) _;have hl0:=heap_alloc_last w (.cells #[.int .i64 0,.string ⟨#[]⟩,.int .i64 0,.int .i64 0,.int .i64 0] 55);have hFl:=krd_lt h;have HU:=hide (rs_u (RS.start (krd_below h b0)) 1 hs hi (by omega));have SW:=hide (RS.start h);have HR0:=hide hl0;have B0:=hide b0;have hB0:B≤(w.alloc (.cells #[.int .i64 0,.string ⟨#[]⟩,.int .i64 0,.int .i64 0,.int .i64 0] 55)).heap.size:=Nat.le_trans hB b0.size;have e1:Hid (entR bs i=(⟨3,[],(getW bs (getW bs i 1 false).2.2 4 true).1,0,0⟩,(getW bs (getW bs i 1 false).2.2 4 true).2)):=entR_3 h0 ht;rw [h0,ht] at HU;clear h0 ht;generalize (getW bs i 1 false).2.2=G3 at *;clear b0 hl0 h;go_enter Tryz.func153,Tryz.ntmps153;go_wp2_with fail;generalize w.alloc (.cells #[.int .i64 0,.string ⟨#[]⟩,.int .i64 0,.int .i64 0,.int .i64 0] 55)=w0 at *;refine (unhide HU).mono ?_;rintro e w1 ⟨rfl,S1⟩;obtain ⟨F1,r1,h1⟩:=S1.ex;have hRw:w.heap.size<w0.heap.size:=lt_of_heap (unhide HR0);have hR1:¬F1 w.heap.size:=fun hh=>by
  rcases h1 _ hh with e | e
  · have:=(hFl _ e).2
    omega
  · omega
 have hrb1:w1.heap[w.heap.size]?=some (.cells #[.int .i64 0,.string ⟨#[]⟩,.int .i64 0,.int .i64 0,.int .i64 0] 55 (0,0)):=(S1.fr.other _ hRw (fun e=>by have:=(hFl _ e).2;omega)).trans (unhide HR0);have hw1:w0.heap.size≤w1.heap.size:=S1.fr.below.size;have F1l:=krd_lt r1;have b2:Below w1.heap.size w1 (w1.alloc (.cells #[.int .i64 3,.string ⟨#[]⟩,.int .i64 0,.int .i64 0,.int .i64 0] 55)):=(Below.refl _ _).alloc (Nat.le_refl _) _;have hx2:=heap_alloc_last w1 (.cells #[.int .i64 3,.string ⟨#[]⟩,.int .i64 0,.int .i64 0,.int .i64 0] 55);have hr2:=(b2.block w.heap.size (by omega)).trans hrb1;have S2:=RS.start (krd_below r1 b2);have fr1:Fr6 F B w w1:=kfr2_trans (Fr6.of_below (unhide B0) hB) S1.fr (fun k hk=>.inl hk);have fr2:Fr6 F B w (w1.alloc (.cells #[.int .i64 3,.string ⟨#[]⟩,.int .i64 0,.int .i64 0,.int .i64 0] 55)):=kfr2_trans (F1:=fun _=>False) fr1 (Fr6.of_below b2 (Nat.le_trans hB fr1.below.size)) (fun k hk=>hk.elim);have hw2:w1.heap.size<(w1.alloc (.cells #[.int .i64 3,.string ⟨#[]⟩,.int .i64 0,.int .i64 0,.int .i64 0] 55)).heap.size:=lt_of_heap hx2;have hX1:¬F1 w1.heap.size:=fun hh=>by have:=(F1l _ hh).2;omega
 have FR2:=hide fr2;have KX2:Hid (Kx x w (w1.alloc (.cells #[.int .i64 3,.string ⟨#[]⟩,.int .i64 0,.int .i64 0,.int .i64 0] 55))):=((Kx.of_below (unhide B0)).trans (unhide B0).size S1.kp).trans fr1.below.size (Kx.of_below b2);have H1:=hide h1;have HX2:=hide hx2;have HR2:=hide hr2;clear S1 HU hrb1 r1 h1 F1l b2 hx2 hr2 fr1 fr2;have HC:=hide (rs_s S2 4 hs hle (by omega));clear S2;generalize getW bs G3 4 true=Q at *;obtain ⟨Q1,Q2,Q3⟩:=Q;simp only at HC e1;go_wp2_with fail;generalize w1.alloc (.cells #[.int .i64 3,.string ⟨#[]⟩,.int .i64 0,.int .i64 0,.int .i64 0] 55)=w2 at *;refine (unhide HC).mono ?_;rintro e w3 ⟨rfl,S3⟩;obtain ⟨F3,r3,h3⟩:=S3.ex;have hR3:¬F3 w.heap.size:=fun hh=>(h3 _ hh).elim hR1 (fun e=>by omega)
 have hX3:¬F3 w1.heap.size:=fun hh=>(h3 _ hh).elim hX1 (fun e=>by omega)
 have RE3:Hid (RE F w B x bs Q3 w.heap.size w1.heap.size w3):=⟨⟨F3,r3,hR3,hX3,fun j hj=>(h3 j hj).elim (fun e=>(unhide H1 j e).elim .inl (fun e=>.inr (by omega))) (fun e=>.inr (by omega))⟩,kfr2_trans (unhide FR2) S3.fr (fun k hk=>(unhide H1 k hk).elim .inl (fun e=>.inr (by omega))),(unhide KX2).trans (unhide FR2).below.size S3.kp⟩;have xb3:w3.heap[w1.heap.size]?=_:=(S3.fr.other _ hw2 hX1).trans (unhide HX2);have rb3:w3.heap[w.heap.size]?=_:=(S3.fr.other _ (by omega) hR1).trans (unhide HR2);have x0:w3.cell? ⟨w1.heap.size,0,none⟩=some (.int .i64 3):=by rw [cell_of_row _ _ _ _ _ _ xb3];rfl
 have x1:w3.cell? ⟨w1.heap.size,1,none⟩=some (.string ⟨#[]⟩):=by rw [cell_of_row _ _ _ _ _ _ xb3];rfl
 have x2:w3.cell? ⟨w1.heap.size,2,none⟩=some (.int .i64 0):=by rw [cell_of_row _ _ _ _ _ _ xb3];rfl
 have x3:w3.cell? ⟨w1.heap.size,3,none⟩=some (.int .i64 0):=by rw [cell_of_row _ _ _ _ _ _ xb3];rfl
 have x4:w3.cell? ⟨w1.heap.size,4,none⟩=some (.int .i64 0):=by rw [cell_of_row _ _ _ _ _ _ xb3];rfl
 have q0:w3.cell? ⟨w.heap.size,0,none⟩=some (.int .i64 0):=by rw [cell_of_row _ _ _ _ _ _ rb3];rfl
 have q1:w3.cell? ⟨w.heap.size,1,none⟩=some (.string ⟨#[]⟩):=by rw [cell_of_row _ _ _ _ _ _ rb3];rfl
 have q2:w3.cell? ⟨w.heap.size,2,none⟩=some (.int .i64 0):=by rw [cell_of_row _ _ _ _ _ _ rb3];rfl
 have q3:w3.cell? ⟨w.heap.size,3,none⟩=some (.int .i64 0):=by rw [cell_of_row _ _ _ _ _ _ rb3];rfl
 have q4:w3.cell? ⟨w.heap.size,4,none⟩=some (.int .i64 0):=by rw [cell_of_row _ _ _ _ _ _ rb3];rfl
 have fx:∀j,w3.frozen? ⟨w1.heap.size,j,none⟩=false:=fun j=>frozen_of_row _ _ _ _ _ xb3
 have fr:∀j,w3.frozen? ⟨w.heap.size,j,none⟩=false:=fun j=>frozen_of_row _ _ _ _ _ rb3
 have hne:¬w.heap.size=w1.heap.size:=by omega
 have hne':¬w1.heap.size=w.heap.size:=by omega
 have HRB:=hide rb3;clear S3 HC xb3 rb3 r3 h3 hR3 hX3;go_wp2;refine bodyPost_ret (kent_results Tryz.results153 _ w.heap.size _ rfl (by exact five_set _ _ _ _ _ ((Below.heap_setCell _ _ _ _ hne).trans (unhide HRB))) _ rfl) rfl ?_;rw [unhide e1];exact ⟨rfl,(((unhide RE3).set hB w1.heap.size 2 (.int .i64 Q1) (.inr rfl) (by omega)).five hB (Nat.le_refl _) _ _ _ _ _).done⟩
theorem kreadEntry_5 (F:Nat→Prop) (w:World) (B x:Nat) (bs:List UInt8) (i:Nat) (h:RD F w B x bs i) (hB:B≤w.heap.size) (hs:bs.length≤140737488351232) (hi:i≤bs.length) (h0:(getW bs i 1 false).2.1=0) (ht:(getW bs i 1 false).1=5) :
 Calls Tryz.prog 153 #[.pointer (some ⟨x,0,none⟩)] w fun e w'=>e=.returned (.tuple #[entV (entR bs i).1,.int .i64 (entR bs i).2.1])∧RS F w B x bs (entR bs i).2.2 w':=by
 have hle:(getW bs i 1 false).2.2≤bs.length:=getW_le hi;have b0:Below w.heap.size w (w.alloc (.cells #[.int .i64 0,.string ⟨#[]⟩,.int .i64 0,.int .i64 0,.int .i64 0] 55)):=(Below.refl _ _).alloc (Nat.le_refl _) _;have hl0:=heap_alloc_last w (.cells #[.int .i64 0,.string ⟨#[]⟩,.int .i64 0,.int .i64 0,.int .i64 0] 55);have hFl:=krd_lt h;have HU:=hide (rs_u (RS.start (krd_below h b0)) 1 hs hi (by omega));have SW:=hide (RS.start h);have HR0:=hide hl0;have B0:=hide b0;have hB0:B≤(w.alloc (.cells #[.int .i64 0,.string ⟨#[]⟩,.int .i64 0,.int .i64 0,.int .i64 0] 55)).heap.size:=Nat.le_trans hB b0.size;have e1:Hid (entR bs i=(⟨5,[],(getW bs (getW bs i 1 false).2.2 8 true).1,0,0⟩,(getW bs (getW bs i 1 false).2.2 8 true).2)):=entR_5 h0 ht;rw [h0,ht] at HU;clear h0 ht;generalize (getW bs i 1 false).2.2=G3 at *;clear b0 hl0 h;go_enter Tryz.func153,Tryz.ntmps153;go_wp2_with fail;generalize w.alloc (.cells #[.int .i64 0,.string ⟨#[]⟩,.int .i64 0,.int .i64 0,.int .i64 0] 55)=w0 at *;refine (unhide HU).mono ?_;rintro e w1 ⟨rfl,S1⟩;obtain ⟨F1,r1,h1⟩:=S1.ex;have hRw:w.heap.size<w0.heap.size:=lt_of_heap (unhide HR0);have hR1:¬F1 w.heap.size:=fun hh=>by
  rcases h1 _ hh with e | e
  · have:=(hFl _ e).2
    omega
  · omega
 have hrb1:w1.heap[w.heap.size]?=some (.cells #[.int .i64 0,.string ⟨#[]⟩,.int .i64 0,.int .i64 0,.int .i64 0] 55 (0,0)):=(S1.fr.other _ hRw (fun e=>by have:=(hFl _ e).2;omega)).trans (unhide HR0);have hw1:w0.heap.size≤w1.heap.size:=S1.fr.below.size;have F1l:=krd_lt r1;have b2:Below w1.heap.size w1 (w1.alloc (.cells #[.int .i64 5,.string ⟨#[]⟩,.int .i64 0,.int .i64 0,.int .i64 0] 55)):=(Below.refl _ _).alloc (Nat.le_refl _) _;have hx2:=heap_alloc_last w1 (.cells #[.int .i64 5,.string ⟨#[]⟩,.int .i64 0,.int .i64 0,.int .i64 0] 55);have hr2:=(b2.block w.heap.size (by omega)).trans hrb1;have S2:=RS.start (krd_below r1 b2);have fr1:Fr6 F B w w1:=kfr2_trans (Fr6.of_below (unhide B0) hB) S1.fr (fun k hk=>.inl hk);have fr2:Fr6 F B w (w1.alloc (.cells #[.int .i64 5,.string ⟨#[]⟩,.int .i64 0,.int .i64 0,.int .i64 0] 55)):=kfr2_trans (F1:=fun _=>False) fr1 (Fr6.of_below b2 (Nat.le_trans hB fr1.below.size)) (fun k hk=>hk.elim);have hw2:w1.heap.size<(w1.alloc (.cells #[.int .i64 5,.string ⟨#[]⟩,.int .i64 0,.int .i64 0,.int .i64 0] 55)).heap.size:=lt_of_heap hx2;have hX1:¬F1 w1.heap.size:=fun hh=>by have:=(F1l _ hh).2;omega
 have FR2:=hide fr2;have KX2:Hid (Kx x w (w1.alloc (.cells #[.int .i64 5,.string ⟨#[]⟩,.int .i64 0,.int .i64 0,.int .i64 0] 55))):=((Kx.of_below (unhide B0)).trans (unhide B0).size S1.kp).trans fr1.below.size (Kx.of_below b2);have H1:=hide h1;have HX2:=hide hx2;have HR2:=hide hr2;clear S1 HU hrb1 r1 h1 F1l b2 hx2 hr2 fr1 fr2;have HC:=hide (rs_s S2 8 hs hle (by omega));clear S2;generalize getW bs G3 8 true=Q at *;obtain ⟨Q1,Q2,Q3⟩:=Q;simp only at HC e1;go_wp2_with fail;generalize w1.alloc (.cells #[.int .i64 5,.string ⟨#[]⟩,.int .i64 0,.int .i64 0,.int .i64 0] 55)=w2 at *;refine (unhide HC).mono ?_;rintro e w3 ⟨rfl,S3⟩;obtain ⟨F3,r3,h3⟩:=S3.ex;have hR3:¬F3 w.heap.size:=fun hh=>(h3 _ hh).elim hR1 (fun e=>by omega)
 have hX3:¬F3 w1.heap.size:=fun hh=>(h3 _ hh).elim hX1 (fun e=>by omega)
 have RE3:Hid (RE F w B x bs Q3 w.heap.size w1.heap.size w3):=⟨⟨F3,r3,hR3,hX3,fun j hj=>(h3 j hj).elim (fun e=>(unhide H1 j e).elim .inl (fun e=>.inr (by omega))) (fun e=>.inr (by omega))⟩,kfr2_trans (unhide FR2) S3.fr (fun k hk=>(unhide H1 k hk).elim .inl (fun e=>.inr (by omega))),(unhide KX2).trans (unhide FR2).below.size S3.kp⟩;have xb3:w3.heap[w1.heap.size]?=_:=(S3.fr.other _ hw2 hX1).trans (unhide HX2);have rb3:w3.heap[w.heap.size]?=_:=(S3.fr.other _ (by omega) hR1).trans (unhide HR2);have x0:w3.cell? ⟨w1.heap.size,0,none⟩=some (.int .i64 5):=by rw [cell_of_row _ _ _ _ _ _ xb3];rfl
 have x1:w3.cell? ⟨w1.heap.size,1,none⟩=some (.string ⟨#[]⟩):=by rw [cell_of_row _ _ _ _ _ _ xb3];rfl
 have x2:w3.cell? ⟨w1.heap.size,2,none⟩=some (.int .i64 0):=by rw [cell_of_row _ _ _ _ _ _ xb3];rfl
 have x3:w3.cell? ⟨w1.heap.size,3,none⟩=some (.int .i64 0):=by rw [cell_of_row _ _ _ _ _ _ xb3];rfl
 have x4:w3.cell? ⟨w1.heap.size,4,none⟩=some (.int .i64 0):=by rw [cell_of_row _ _ _ _ _ _ xb3];rfl
 have q0:w3.cell? ⟨w.heap.size,0,none⟩=some (.int .i64 0):=by rw [cell_of_row _ _ _ _ _ _ rb3];rfl
 have q1:w3.cell? ⟨w.heap.size,1,none⟩=some (.string ⟨#[]⟩):=by rw [cell_of_row _ _ _ _ _ _ rb3];rfl
 have q2:w3.cell? ⟨w.heap.size,2,none⟩=some (.int .i64 0):=by rw [cell_of_row _ _ _ _ _ _ rb3];rfl
 have q3:w3.cell? ⟨w.heap.size,3,none⟩=some (.int .i64 0):=by rw [cell_of_row _ _ _ _ _ _ rb3];rfl
 have q4:w3.cell? ⟨w.heap.size,4,none⟩=some (.int .i64 0):=by rw [cell_of_row _ _ _ _ _ _ rb3];rfl
 have fx:∀j,w3.frozen? ⟨w1.heap.size,j,none⟩=false:=fun j=>frozen_of_row _ _ _ _ _ xb3
 have fr:∀j,w3.frozen? ⟨w.heap.size,j,none⟩=false:=fun j=>frozen_of_row _ _ _ _ _ rb3
 have hne:¬w.heap.size=w1.heap.size:=by omega
 have hne':¬w1.heap.size=w.heap.size:=by omega
 have HRB:=hide rb3;clear S3 HC xb3 rb3 r3 h3 hR3 hX3;go_wp2;refine bodyPost_ret (kent_results Tryz.results153 _ w.heap.size _ rfl (by exact five_set _ _ _ _ _ ((Below.heap_setCell _ _ _ _ hne).trans (unhide HRB))) _ rfl) rfl ?_;rw [unhide e1];exact ⟨rfl,(((unhide RE3).set hB w1.heap.size 2 (.int .i64 Q1) (.inr rfl) (by omega)).five hB (Nat.le_refl _) _ _ _ _ _).done⟩
theorem kreadEntry_7 (F:Nat→Prop) (w:World) (B x:Nat) (bs:List UInt8) (i:Nat) (h:RD F w B x bs i) (hB:B≤w.heap.size) (hs:bs.length≤140737488351232) (hi:i≤bs.length) (h0:(getW bs i 1 false).2.1=0) (ht:(getW bs i 1 false).1=7) :
 Calls Tryz.prog 153 #[.pointer (some ⟨x,0,none⟩)] w fun e w'=>e=.returned (.tuple #[entV (entR bs i).1,.int .i64 (entR bs i).2.1])∧RS F w B x bs (entR bs i).2.2 w':=by
 have hle:(getW bs i 1 false).2.2≤bs.length:=getW_le hi;have b0:Below w.heap.size w (w.alloc (.cells #[.int .i64 0,.string ⟨#[]⟩,.int .i64 0,.int .i64 0,.int .i64 0] 55)):=(Below.refl _ _).alloc (Nat.le_refl _) _;have hl0:=heap_alloc_last w (.cells #[.int .i64 0,.string ⟨#[]⟩,.int .i64 0,.int .i64 0,.int .i64 0] 55);have hFl:=krd_lt h;have HU:=hide (rs_u (RS.start (krd_below h b0)) 1 hs hi (by omega));have SW:=hide (RS.start h);have HR0:=hide hl0;have B0:=hide b0;have hB0:B≤(w.alloc (.cells #[.int .i64 0,.string ⟨#[]⟩,.int .i64 0,.int .i64 0,.int .i64 0] 55)).heap.size:=Nat.le_trans hB b0.size;have e1:Hid (entR bs i=(⟨7,[],0,(getW bs (getW bs i 1 false).2.2 2 false).1,0⟩,(getW bs (getW bs i 1 false).2.2 2 false).2)):=entR_7 h0 ht;rw [h0,ht] at HU;clear h0 ht;generalize (getW bs i 1 false).2.2=G3 at *;clear b0 hl0 h;go_enter Tryz.func153,Tryz.ntmps153;go_wp2_with fail;generalize w.alloc (.cells #[.int .i64 0,.string ⟨#[]⟩,.int .i64 0,.int .i64 0,.int .i64 0] 55)=w0 at *;refine (unhide HU).mono ?_;rintro e w1 ⟨rfl,S1⟩;obtain ⟨F1,r1,h1⟩:=S1.ex;have hRw:w.heap.size<w0.heap.size:=lt_of_heap (unhide HR0);have hR1:¬F1 w.heap.size:=fun hh=>by
  rcases h1 _ hh with e | e
  · have:=(hFl _ e).2
    omega
  · omega
 have hrb1:w1.heap[w.heap.size]?=some (.cells #[.int .i64 0,.string ⟨#[]⟩,.int .i64 0,.int .i64 0,.int .i64 0] 55 (0,0)):=(S1.fr.other _ hRw (fun e=>by have:=(hFl _ e).2;omega)).trans (unhide HR0);have hw1:w0.heap.size≤w1.heap.size:=S1.fr.below.size;have F1l:=krd_lt r1;have b2:Below w1.heap.size w1 (w1.alloc (.cells #[.int .i64 7,.string ⟨#[]⟩,.int .i64 0,.int .i64 0,.int .i64 0] 55)):=(Below.refl _ _).alloc (Nat.le_refl _) _;have hx2:=heap_alloc_last w1 (.cells #[.int .i64 7,.string ⟨#[]⟩,.int .i64 0,.int .i64 0,.int .i64 0] 55);have hr2:=(b2.block w.heap.size (by omega)).trans hrb1;have S2:=RS.start (krd_below r1 b2);have fr1:Fr6 F B w w1:=kfr2_trans (Fr6.of_below (unhide B0) hB) S1.fr (fun k hk=>.inl hk);have fr2:Fr6 F B w (w1.alloc (.cells #[.int .i64 7,.string ⟨#[]⟩,.int .i64 0,.int .i64 0,.int .i64 0] 55)):=kfr2_trans (F1:=fun _=>False) fr1 (Fr6.of_below b2 (Nat.le_trans hB fr1.below.size)) (fun k hk=>hk.elim);have hw2:w1.heap.size<(w1.alloc (.cells #[.int .i64 7,.string ⟨#[]⟩,.int .i64 0,.int .i64 0,.int .i64 0] 55)).heap.size:=lt_of_heap hx2;have hX1:¬F1 w1.heap.size:=fun hh=>by have:=(F1l _ hh).2;omega
 have FR2:=hide fr2;have KX2:Hid (Kx x w (w1.alloc (.cells #[.int .i64 7,.string ⟨#[]⟩,.int .i64 0,.int .i64 0,.int .i64 0] 55))):=((Kx.of_below (unhide B0)).trans (unhide B0).size S1.kp).trans fr1.below.size (Kx.of_below b2);have H1:=hide h1;have HX2:=hide hx2;have HR2:=hide hr2;clear S1 HU hrb1 r1 h1 F1l b2 hx2 hr2 fr1 fr2;have HC:=hide (rs_u S2 2 hs hle (by omega));clear S2;generalize getW bs G3 2 false=Q at *;obtain ⟨Q1,Q2,Q3⟩:=Q;simp only at HC e1;go_wp2_with fail;generalize w1.alloc (.cells #[.int .i64 7,.string ⟨#[]⟩,.int .i64 0,.int .i64 0,.int .i64 0] 55)=w2 at *;refine (unhide HC).mono ?_;rintro e w3 ⟨rfl,S3⟩;obtain ⟨F3,r3,h3⟩:=S3.ex;have hR3:¬F3 w.heap.size:=fun hh=>(h3 _ hh).elim hR1 (fun e=>by omega)
 have hX3:¬F3 w1.heap.size:=fun hh=>(h3 _ hh).elim hX1 (fun e=>by omega)
 have RE3:Hid (RE F w B x bs Q3 w.heap.size w1.heap.size w3):=⟨⟨F3,r3,hR3,hX3,fun j hj=>(h3 j hj).elim (fun e=>(unhide H1 j e).elim .inl (fun e=>.inr (by omega))) (fun e=>.inr (by omega))⟩,kfr2_trans (unhide FR2) S3.fr (fun k hk=>(unhide H1 k hk).elim .inl (fun e=>.inr (by omega))),(unhide KX2).trans (unhide FR2).below.size S3.kp⟩;have xb3:w3.heap[w1.heap.size]?=_:=(S3.fr.other _ hw2 hX1).trans (unhide HX2);have rb3:w3.heap[w.heap.size]?=_:=(S3.fr.other _ (by omega) hR1).trans (unhide HR2);have x0:w3.cell? ⟨w1.heap.size,0,none⟩=some (.int .i64 7):=by rw [cell_of_row _ _ _ _ _ _ xb3];rfl
 have x1:w3.cell? ⟨w1.heap.size,1,none⟩=some (.string ⟨#[]⟩):=by rw [cell_of_row _ _ _ _ _ _ xb3];rfl
 have x2:w3.cell? ⟨w1.heap.size,2,none⟩=some (.int .i64 0):=by rw [cell_of_row _ _ _ _ _ _ xb3];rfl
 have x3:w3.cell? ⟨w1.heap.size,3,none⟩=some (.int .i64 0):=by rw [cell_of_row _ _ _ _ _ _ xb3];rfl
 have x4:w3.cell? ⟨w1.heap.size,4,none⟩=some (.int .i64 0):=by rw [cell_of_row _ _ _ _ _ _ xb3];rfl
 have q0:w3.cell? ⟨w.heap.size,0,none⟩=some (.int .i64 0):=by rw [cell_of_row _ _ _ _ _ _ rb3];rfl
 have q1:w3.cell? ⟨w.heap.size,1,none⟩=some (.string ⟨#[]⟩):=by rw [cell_of_row _ _ _ _ _ _ rb3];rfl
 have q2:w3.cell? ⟨w.heap.size,2,none⟩=some (.int .i64 0):=by rw [cell_of_row _ _ _ _ _ _ rb3];rfl
 have q3:w3.cell? ⟨w.heap.size,3,none⟩=some (.int .i64 0):=by rw [cell_of_row _ _ _ _ _ _ rb3];rfl
 have q4:w3.cell? ⟨w.heap.size,4,none⟩=some (.int .i64 0):=by rw [cell_of_row _ _ _ _ _ _ rb3];rfl
 have fx:∀j,w3.frozen? ⟨w1.heap.size,j,none⟩=false:=fun j=>frozen_of_row _ _ _ _ _ xb3
 have fr:∀j,w3.frozen? ⟨w.heap.size,j,none⟩=false:=fun j=>frozen_of_row _ _ _ _ _ rb3
 have hne:¬w.heap.size=w1.heap.size:=by omega
 have hne':¬w1.heap.size=w.heap.size:=by omega
 have HRB:=hide rb3;clear S3 HC xb3 rb3 r3 h3 hR3 hX3;go_wp2;refine bodyPost_ret (kent_results Tryz.results153 _ w.heap.size _ rfl (by exact five_set _ _ _ _ _ ((Below.heap_setCell _ _ _ _ hne).trans (unhide HRB))) _ rfl) rfl ?_;rw [unhide e1];exact ⟨rfl,(((unhide RE3).set hB w1.heap.size 3 (.int .i64 Q1) (.inr rfl) (by omega)).five hB (Nat.le_refl _) _ _ _ _ _).done⟩
theorem kreadEntry_9 (F:Nat→Prop) (w:World) (B x:Nat) (bs:List UInt8) (i:Nat) (h:RD F w B x bs i) (hB:B≤w.heap.size) (hs:bs.length≤140737488351232) (hi:i≤bs.length) (h0:(getW bs i 1 false).2.1=0) (ht:(getW bs i 1 false).1=9) :
 Calls Tryz.prog 153 #[.pointer (some ⟨x,0,none⟩)] w fun e w'=>e=.returned (.tuple #[entV (entR bs i).1,.int .i64 (entR bs i).2.1])∧RS F w B x bs (entR bs i).2.2 w':=by
 have hle:(getW bs i 1 false).2.2≤bs.length:=getW_le hi;have b0:Below w.heap.size w (w.alloc (.cells #[.int .i64 0,.string ⟨#[]⟩,.int .i64 0,.int .i64 0,.int .i64 0] 55)):=(Below.refl _ _).alloc (Nat.le_refl _) _;have hl0:=heap_alloc_last w (.cells #[.int .i64 0,.string ⟨#[]⟩,.int .i64 0,.int .i64 0,.int .i64 0] 55);have hFl:=krd_lt h;have HU:=hide (rs_u (RS.start (krd_below h b0)) 1 hs hi (by omega));have SW:=hide (RS.start h);have HR0:=hide hl0;have B0:=hide b0;have hB0:B≤(w.alloc (.cells #[.int .i64 0,.string ⟨#[]⟩,.int .i64 0,.int .i64 0,.int .i64 0] 55)).heap.size:=Nat.le_trans hB b0.size;have e1:Hid (entR bs i=(⟨9,[],0,(twoR bs (getW bs i 1 false).2.2).1,(twoR bs (getW bs i 1 false).2.2).2.1⟩,(twoR bs (getW bs i 1 false).2.2).2.2)):=entR_9 h0 ht;rw [h0,ht] at HU;clear h0 ht;generalize (getW bs i 1 false).2.2=G3 at *;clear b0 hl0 h;go_enter Tryz.func153,Tryz.ntmps153;go_wp2_with fail;generalize w.alloc (.cells #[.int .i64 0,.string ⟨#[]⟩,.int .i64 0,.int .i64 0,.int .i64 0] 55)=w0 at *;refine (unhide HU).mono ?_;rintro e w1 ⟨rfl,S1⟩;obtain ⟨F1,r1,h1⟩:=S1.ex;have hRw:w.heap.size<w0.heap.size:=lt_of_heap (unhide HR0);have hR1:¬F1 w.heap.size:=fun hh=>by
  rcases h1 _ hh with e | e
  · have:=(hFl _ e).2
    omega
  · omega
 have hrb1:w1.heap[w.heap.size]?=some (.cells #[.int .i64 0,.string ⟨#[]⟩,.int .i64 0,.int .i64 0,.int .i64 0] 55 (0,0)):=(S1.fr.other _ hRw (fun e=>by have:=(hFl _ e).2;omega)).trans (unhide HR0);have hw1:w0.heap.size≤w1.heap.size:=S1.fr.below.size;have F1l:=krd_lt r1;have b2:Below w1.heap.size w1 (w1.alloc (.cells #[.int .i64 9,.string ⟨#[]⟩,.int .i64 0,.int .i64 0,.int .i64 0] 55)):=(Below.refl _ _).alloc (Nat.le_refl _) _;have hx2:=heap_alloc_last w1 (.cells #[.int .i64 9,.string ⟨#[]⟩,.int .i64 0,.int .i64 0,.int .i64 0] 55);have hr2:=(b2.block w.heap.size (by omega)).trans hrb1;have S2:=RS.start (krd_below r1 b2);have fr1:Fr6 F B w w1:=kfr2_trans (Fr6.of_below (unhide B0) hB) S1.fr (fun k hk=>.inl hk);have fr2:Fr6 F B w (w1.alloc (.cells #[.int .i64 9,.string ⟨#[]⟩,.int .i64 0,.int .i64 0,.int .i64 0] 55)):=kfr2_trans (F1:=fun _=>False) fr1 (Fr6.of_below b2 (Nat.le_trans hB fr1.below.size)) (fun k hk=>hk.elim);have hw2:w1.heap.size<(w1.alloc (.cells #[.int .i64 9,.string ⟨#[]⟩,.int .i64 0,.int .i64 0,.int .i64 0] 55)).heap.size:=lt_of_heap hx2;have hX1:¬F1 w1.heap.size:=fun hh=>by have:=(F1l _ hh).2;omega
 have FR2:=hide fr2;have KX2:Hid (Kx x w (w1.alloc (.cells #[.int .i64 9,.string ⟨#[]⟩,.int .i64 0,.int .i64 0,.int .i64 0] 55))):=((Kx.of_below (unhide B0)).trans (unhide B0).size S1.kp).trans fr1.below.size (Kx.of_below b2);have H1:=hide h1;have HX2:=hide hx2;have HR2:=hide hr2;clear S1 HU hrb1 r1 h1 F1l b2 hx2 hr2 fr1 fr2;have HC:=hide (kreadTwo_any F1 _ _ B x bs G3 S2 hs hle);clear S2;generalize twoR bs G3=Q at *;obtain ⟨Q1,Q0,Q2,Q3⟩:=Q;simp only at HC e1;go_wp2_with fail;generalize w1.alloc (.cells #[.int .i64 9,.string ⟨#[]⟩,.int .i64 0,.int .i64 0,.int .i64 0] 55)=w2 at *;refine (unhide HC).mono ?_;rintro e w3 ⟨rfl,S3⟩;obtain ⟨F3,r3,h3⟩:=S3.ex;have hR3:¬F3 w.heap.size:=fun hh=>(h3 _ hh).elim hR1 (fun e=>by omega)
 have hX3:¬F3 w1.heap.size:=fun hh=>(h3 _ hh).elim hX1 (fun e=>by omega)
 have RE3:Hid (RE F w B x bs Q3 w.heap.size w1.heap.size w3):=⟨⟨F3,r3,hR3,hX3,fun j hj=>(h3 j hj).elim (fun e=>(unhide H1 j e).elim .inl (fun e=>.inr (by omega))) (fun e=>.inr (by omega))⟩,kfr2_trans (unhide FR2) S3.fr (fun k hk=>(unhide H1 k hk).elim .inl (fun e=>.inr (by omega))),(unhide KX2).trans (unhide FR2).below.size S3.kp⟩;have xb3:w3.heap[w1.heap.size]?=_:=(S3.fr.other _ hw2 hX1).trans (unhide HX2);have rb3:w3.heap[w.heap.size]?=_:=(S3.fr.other _ (by omega) hR1).trans (unhide HR2);have x0:w3.cell? ⟨w1.heap.size,0,none⟩=some (.int .i64 9):=by rw [cell_of_row _ _ _ _ _ _ xb3];rfl
 have x1:w3.cell? ⟨w1.heap.size,1,none⟩=some (.string ⟨#[]⟩):=by rw [cell_of_row _ _ _ _ _ _ xb3];rfl
 have x2:w3.cell? ⟨w1.heap.size,2,none⟩=some (.int .i64 0):=by rw [cell_of_row _ _ _ _ _ _ xb3];rfl
 have x3:w3.cell? ⟨w1.heap.size,3,none⟩=some (.int .i64 0):=by rw [cell_of_row _ _ _ _ _ _ xb3];rfl
 have x4:w3.cell? ⟨w1.heap.size,4,none⟩=some (.int .i64 0):=by rw [cell_of_row _ _ _ _ _ _ xb3];rfl
 have q0:w3.cell? ⟨w.heap.size,0,none⟩=some (.int .i64 0):=by rw [cell_of_row _ _ _ _ _ _ rb3];rfl
 have q1:w3.cell? ⟨w.heap.size,1,none⟩=some (.string ⟨#[]⟩):=by rw [cell_of_row _ _ _ _ _ _ rb3];rfl
 have q2:w3.cell? ⟨w.heap.size,2,none⟩=some (.int .i64 0):=by rw [cell_of_row _ _ _ _ _ _ rb3];rfl
 have q3:w3.cell? ⟨w.heap.size,3,none⟩=some (.int .i64 0):=by rw [cell_of_row _ _ _ _ _ _ rb3];rfl
 have q4:w3.cell? ⟨w.heap.size,4,none⟩=some (.int .i64 0):=by rw [cell_of_row _ _ _ _ _ _ rb3];rfl
 have fx:∀j,w3.frozen? ⟨w1.heap.size,j,none⟩=false:=fun j=>frozen_of_row _ _ _ _ _ xb3
 have fr:∀j,w3.frozen? ⟨w.heap.size,j,none⟩=false:=fun j=>frozen_of_row _ _ _ _ _ rb3
 have hne:¬w.heap.size=w1.heap.size:=by omega
 have hne':¬w1.heap.size=w.heap.size:=by omega
 have HRB:=hide rb3;clear S3 HC xb3 rb3 r3 h3 hR3 hX3;go_wp2;refine bodyPost_ret (kent_results Tryz.results153 _ w.heap.size _ rfl (by exact five_set _ _ _ _ _ ((Below.heap_setCell _ _ _ _ hne).trans ((Below.heap_setCell _ _ _ _ hne).trans (unhide HRB)))) _ rfl) rfl ?_;rw [unhide e1];exact ⟨rfl,((((unhide RE3).set hB w1.heap.size 3 (.int .i64 Q1) (.inr rfl) (by omega)).set hB w1.heap.size 4 (.int .i64 Q0) (.inr rfl) (by omega)).five hB (Nat.le_refl _) _ _ _ _ _).done⟩
theorem kreadEntry_10 (F:Nat→Prop) (w:World) (B x:Nat) (bs:List UInt8) (i:Nat) (h:RD F w B x bs i) (hB:B≤w.heap.size) (hs:bs.length≤140737488351232) (hi:i≤bs.length) (h0:(getW bs i 1 false).2.1=0) (ht:(getW bs i 1 false).1=10) :
 Calls Tryz.prog 153 #[.pointer (some ⟨x,0,none⟩)] w fun e w'=>e=.returned (.tuple #[entV (entR bs i).1,.int .i64 (entR bs i).2.1])∧RS F w B x bs (entR bs i).2.2 w':=by
 have hle:(getW bs i 1 false).2.2≤bs.length:=getW_le hi;have b0:Below w.heap.size w (w.alloc (.cells #[.int .i64 0,.string ⟨#[]⟩,.int .i64 0,.int .i64 0,.int .i64 0] 55)):=(Below.refl _ _).alloc (Nat.le_refl _) _;have hl0:=heap_alloc_last w (.cells #[.int .i64 0,.string ⟨#[]⟩,.int .i64 0,.int .i64 0,.int .i64 0] 55);have hFl:=krd_lt h;have HU:=hide (rs_u (RS.start (krd_below h b0)) 1 hs hi (by omega));have SW:=hide (RS.start h);have HR0:=hide hl0;have B0:=hide b0;have hB0:B≤(w.alloc (.cells #[.int .i64 0,.string ⟨#[]⟩,.int .i64 0,.int .i64 0,.int .i64 0] 55)).heap.size:=Nat.le_trans hB b0.size;have e1:Hid (entR bs i=(⟨10,[],0,(twoR bs (getW bs i 1 false).2.2).1,(twoR bs (getW bs i 1 false).2.2).2.1⟩,(twoR bs (getW bs i 1 false).2.2).2.2)):=entR_10 h0 ht;rw [h0,ht] at HU;clear h0 ht;generalize (getW bs i 1 false).2.2=G3 at *;clear b0 hl0 h;go_enter Tryz.func153,Tryz.ntmps153;go_wp2_with fail;generalize w.alloc (.cells #[.int .i64 0,.string ⟨#[]⟩,.int .i64 0,.int .i64 0,.int .i64 0] 55)=w0 at *;refine (unhide HU).mono ?_;rintro e w1 ⟨rfl,S1⟩;obtain ⟨F1,r1,h1⟩:=S1.ex;have hRw:w.heap.size<w0.heap.size:=lt_of_heap (unhide HR0);have hR1:¬F1 w.heap.size:=fun hh=>by
  rcases h1 _ hh with e | e
  · have:=(hFl _ e).2
    omega
  · omega
 have hrb1:w1.heap[w.heap.size]?=some (.cells #[.int .i64 0,.string ⟨#[]⟩,.int .i64 0,.int .i64 0,.int .i64 0] 55 (0,0)):=(S1.fr.other _ hRw (fun e=>by have:=(hFl _ e).2;omega)).trans (unhide HR0);have hw1:w0.heap.size≤w1.heap.size:=S1.fr.below.size;have F1l:=krd_lt r1;have b2:Below w1.heap.size w1 (w1.alloc (.cells #[.int .i64 10,.string ⟨#[]⟩,.int .i64 0,.int .i64 0,.int .i64 0] 55)):=(Below.refl _ _).alloc (Nat.le_refl _) _;have hx2:=heap_alloc_last w1 (.cells #[.int .i64 10,.string ⟨#[]⟩,.int .i64 0,.int .i64 0,.int .i64 0] 55);have hr2:=(b2.block w.heap.size (by omega)).trans hrb1;have S2:=RS.start (krd_below r1 b2);have fr1:Fr6 F B w w1:=kfr2_trans (Fr6.of_below (unhide B0) hB) S1.fr (fun k hk=>.inl hk);have fr2:Fr6 F B w (w1.alloc (.cells #[.int .i64 10,.string ⟨#[]⟩,.int .i64 0,.int .i64 0,.int .i64 0] 55)):=kfr2_trans (F1:=fun _=>False) fr1 (Fr6.of_below b2 (Nat.le_trans hB fr1.below.size)) (fun k hk=>hk.elim);have hw2:w1.heap.size<(w1.alloc (.cells #[.int .i64 10,.string ⟨#[]⟩,.int .i64 0,.int .i64 0,.int .i64 0] 55)).heap.size:=lt_of_heap hx2;have hX1:¬F1 w1.heap.size:=fun hh=>by have:=(F1l _ hh).2;omega
 have FR2:=hide fr2;have KX2:Hid (Kx x w (w1.alloc (.cells #[.int .i64 10,.string ⟨#[]⟩,.int .i64 0,.int .i64 0,.int .i64 0] 55))):=((Kx.of_below (unhide B0)).trans (unhide B0).size S1.kp).trans fr1.below.size (Kx.of_below b2);have H1:=hide h1;have HX2:=hide hx2;have HR2:=hide hr2;clear S1 HU hrb1 r1 h1 F1l b2 hx2 hr2 fr1 fr2;have HC:=hide (kreadTwo_any F1 _ _ B x bs G3 S2 hs hle);clear S2;generalize twoR bs G3=Q at *;obtain ⟨Q1,Q0,Q2,Q3⟩:=Q;simp only at HC e1;go_wp2_with fail;generalize w1.alloc (.cells #[.int .i64 10,.string ⟨#[]⟩,.int .i64 0,.int .i64 0,.int .i64 0] 55)=w2 at *;refine (unhide HC).mono ?_;rintro e w3 ⟨rfl,S3⟩;obtain ⟨F3,r3,h3⟩:=S3.ex;have hR3:¬F3 w.heap.size:=fun hh=>(h3 _ hh).elim hR1 (fun e=>by omega)
 have hX3:¬F3 w1.heap.size:=fun hh=>(h3 _ hh).elim hX1 (fun e=>by omega)
 have RE3:Hid (RE F w B x bs Q3 w.heap.size w1.heap.size w3):=⟨⟨F3,r3,hR3,hX3,fun j hj=>(h3 j hj).elim (fun e=>(unhide H1 j e).elim .inl (fun e=>.inr (by omega))) (fun e=>.inr (by omega))⟩,kfr2_trans (unhide FR2) S3.fr (fun k hk=>(unhide H1 k hk).elim .inl (fun e=>.inr (by omega))),(unhide KX2).trans (unhide FR2).below.size S3.kp⟩;have xb3:w3.heap[w1.heap.size]?=_:=(S3.fr.other _ hw2 hX1).trans (unhide HX2);have rb3:w3.heap[w.heap.size]?=_:=(S3.fr.other _ (by omega) hR1).trans (unhide HR2);have x0:w3.cell? ⟨w1.heap.size,0,none⟩=some (.int .i64 10):=by rw [cell_of_row _ _ _ _ _ _ xb3];rfl
 have x1:w3.cell? ⟨w1.heap.size,1,none⟩=some (.string ⟨#[]⟩):=by rw [cell_of_row _ _ _ _ _ _ xb3];rfl
 have x2:w3.cell? ⟨w1.heap.size,2,none⟩=some (.int .i64 0):=by rw [cell_of_row _ _ _ _ _ _ xb3];rfl
 have x3:w3.cell? ⟨w1.heap.size,3,none⟩=some (.int .i64 0):=by rw [cell_of_row _ _ _ _ _ _ xb3];rfl
 have x4:w3.cell? ⟨w1.heap.size,4,none⟩=some (.int .i64 0):=by rw [cell_of_row _ _ _ _ _ _ xb3];rfl
 have q0:w3.cell? ⟨w.heap.size,0,none⟩=some (.int .i64 0):=by rw [cell_of_row _ _ _ _ _ _ rb3];rfl
 have q1:w3.cell? ⟨w.heap.size,1,none⟩=some (.string ⟨#[]⟩):=by rw [cell_of_row _ _ _ _ _ _ rb3];rfl
 have q2:w3.cell? ⟨w.heap.size,2,none⟩=some (.int .i64 0):=by rw [cell_of_row _ _ _ _ _ _ rb3];rfl
 have q3:w3.cell? ⟨w.heap.size,3,none⟩=some (.int .i64 0):=by rw [cell_of_row _ _ _ _ _ _ rb3];rfl
 have q4:w3.cell? ⟨w.heap.size,4,none⟩=some (.int .i64 0):=by rw [cell_of_row _ _ _ _ _ _ rb3];rfl
 have fx:∀j,w3.frozen? ⟨w1.heap.size,j,none⟩=false:=fun j=>frozen_of_row _ _ _ _ _ xb3
 have fr:∀j,w3.frozen? ⟨w.heap.size,j,none⟩=false:=fun j=>frozen_of_row _ _ _ _ _ rb3
 have hne:¬w.heap.size=w1.heap.size:=by omega
 have hne':¬w1.heap.size=w.heap.size:=by omega
 have HRB:=hide rb3;clear S3 HC xb3 rb3 r3 h3 hR3 hX3;go_wp2;refine bodyPost_ret (kent_results Tryz.results153 _ w.heap.size _ rfl (by exact five_set _ _ _ _ _ ((Below.heap_setCell _ _ _ _ hne).trans ((Below.heap_setCell _ _ _ _ hne).trans (unhide HRB)))) _ rfl) rfl ?_;rw [unhide e1];exact ⟨rfl,((((unhide RE3).set hB w1.heap.size 3 (.int .i64 Q1) (.inr rfl) (by omega)).set hB w1.heap.size 4 (.int .i64 Q0) (.inr rfl) (by omega)).five hB (Nat.le_refl _) _ _ _ _ _).done⟩
theorem kreadEntry_12 (F:Nat→Prop) (w:World) (B x:Nat) (bs:List UInt8) (i:Nat) (h:RD F w B x bs i) (hB:B≤w.heap.size) (hs:bs.length≤140737488351232) (hi:i≤bs.length) (h0:(getW bs i 1 false).2.1=0) (ht:(getW bs i 1 false).1=12) :
 Calls Tryz.prog 153 #[.pointer (some ⟨x,0,none⟩)] w fun e w'=>e=.returned (.tuple #[entV (entR bs i).1,.int .i64 (entR bs i).2.1])∧RS F w B x bs (entR bs i).2.2 w':=by
 have hle:(getW bs i 1 false).2.2≤bs.length:=getW_le hi;have b0:Below w.heap.size w (w.alloc (.cells #[.int .i64 0,.string ⟨#[]⟩,.int .i64 0,.int .i64 0,.int .i64 0] 55)):=(Below.refl _ _).alloc (Nat.le_refl _) _;have hl0:=heap_alloc_last w (.cells #[.int .i64 0,.string ⟨#[]⟩,.int .i64 0,.int .i64 0,.int .i64 0] 55);have hFl:=krd_lt h;have HU:=hide (rs_u (RS.start (krd_below h b0)) 1 hs hi (by omega));have SW:=hide (RS.start h);have HR0:=hide hl0;have B0:=hide b0;have hB0:B≤(w.alloc (.cells #[.int .i64 0,.string ⟨#[]⟩,.int .i64 0,.int .i64 0,.int .i64 0] 55)).heap.size:=Nat.le_trans hB b0.size;have e1:Hid (entR bs i=(⟨12,[],0,(twoR bs (getW bs i 1 false).2.2).1,(twoR bs (getW bs i 1 false).2.2).2.1⟩,(twoR bs (getW bs i 1 false).2.2).2.2)):=entR_12 h0 ht;rw [h0,ht] at HU;clear h0 ht;generalize (getW bs i 1 false).2.2=G3 at *;clear b0 hl0 h;go_enter Tryz.func153,Tryz.ntmps153;go_wp2_with fail;generalize w.alloc (.cells #[.int .i64 0,.string ⟨#[]⟩,.int .i64 0,.int .i64 0,.int .i64 0] 55)=w0 at *;refine (unhide HU).mono ?_;rintro e w1 ⟨rfl,S1⟩;obtain ⟨F1,r1,h1⟩:=S1.ex;have hRw:w.heap.size<w0.heap.size:=lt_of_heap (unhide HR0);have hR1:¬F1 w.heap.size:=fun hh=>by
  rcases h1 _ hh with e | e
  · have:=(hFl _ e).2
    omega
  · omega
 have hrb1:w1.heap[w.heap.size]?=some (.cells #[.int .i64 0,.string ⟨#[]⟩,.int .i64 0,.int .i64 0,.int .i64 0] 55 (0,0)):=(S1.fr.other _ hRw (fun e=>by have:=(hFl _ e).2;omega)).trans (unhide HR0);have hw1:w0.heap.size≤w1.heap.size:=S1.fr.below.size;have F1l:=krd_lt r1;have b2:Below w1.heap.size w1 (w1.alloc (.cells #[.int .i64 12,.string ⟨#[]⟩,.int .i64 0,.int .i64 0,.int .i64 0] 55)):=(Below.refl _ _).alloc (Nat.le_refl _) _;have hx2:=heap_alloc_last w1 (.cells #[.int .i64 12,.string ⟨#[]⟩,.int .i64 0,.int .i64 0,.int .i64 0] 55);have hr2:=(b2.block w.heap.size (by omega)).trans hrb1;have S2:=RS.start (krd_below r1 b2);have fr1:Fr6 F B w w1:=kfr2_trans (Fr6.of_below (unhide B0) hB) S1.fr (fun k hk=>.inl hk);have fr2:Fr6 F B w (w1.alloc (.cells #[.int .i64 12,.string ⟨#[]⟩,.int .i64 0,.int .i64 0,.int .i64 0] 55)):=kfr2_trans (F1:=fun _=>False) fr1 (Fr6.of_below b2 (Nat.le_trans hB fr1.below.size)) (fun k hk=>hk.elim);have hw2:w1.heap.size<(w1.alloc (.cells #[.int .i64 12,.string ⟨#[]⟩,.int .i64 0,.int .i64 0,.int .i64 0] 55)).heap.size:=lt_of_heap hx2;have hX1:¬F1 w1.heap.size:=fun hh=>by have:=(F1l _ hh).2;omega
 have FR2:=hide fr2;have KX2:Hid (Kx x w (w1.alloc (.cells #[.int .i64 12,.string ⟨#[]⟩,.int .i64 0,.int .i64 0,.int .i64 0] 55))):=((Kx.of_below (unhide B0)).trans (unhide B0).size S1.kp).trans fr1.below.size (Kx.of_below b2);have H1:=hide h1;have HX2:=hide hx2;have HR2:=hide hr2;clear S1 HU hrb1 r1 h1 F1l b2 hx2 hr2 fr1 fr2;have HC:=hide (kreadTwo_any F1 _ _ B x bs G3 S2 hs hle);clear S2;generalize twoR bs G3=Q at *;obtain ⟨Q1,Q0,Q2,Q3⟩:=Q;simp only at HC e1;go_wp2_with fail;generalize w1.alloc (.cells #[.int .i64 12,.string ⟨#[]⟩,.int .i64 0,.int .i64 0,.int .i64 0] 55)=w2 at *;refine (unhide HC).mono ?_;rintro e w3 ⟨rfl,S3⟩;obtain ⟨F3,r3,h3⟩:=S3.ex;have hR3:¬F3 w.heap.size:=fun hh=>(h3 _ hh).elim hR1 (fun e=>by omega)
 have hX3:¬F3 w1.heap.size:=fun hh=>(h3 _ hh).elim hX1 (fun e=>by omega)
 have RE3:Hid (RE F w B x bs Q3 w.heap.size w1.heap.size w3):=⟨⟨F3,r3,hR3,hX3,fun j hj=>(h3 j hj).elim (fun e=>(unhide H1 j e).elim .inl (fun e=>.inr (by omega))) (fun e=>.inr (by omega))⟩,kfr2_trans (unhide FR2) S3.fr (fun k hk=>(unhide H1 k hk).elim .inl (fun e=>.inr (by omega))),(unhide KX2).trans (unhide FR2).below.size S3.kp⟩;have xb3:w3.heap[w1.heap.size]?=_:=(S3.fr.other _ hw2 hX1).trans (unhide HX2);have rb3:w3.heap[w.heap.size]?=_:=(S3.fr.other _ (by omega) hR1).trans (unhide HR2);have x0:w3.cell? ⟨w1.heap.size,0,none⟩=some (.int .i64 12):=by rw [cell_of_row _ _ _ _ _ _ xb3];rfl
 have x1:w3.cell? ⟨w1.heap.size,1,none⟩=some (.string ⟨#[]⟩):=by rw [cell_of_row _ _ _ _ _ _ xb3];rfl
 have x2:w3.cell? ⟨w1.heap.size,2,none⟩=some (.int .i64 0):=by rw [cell_of_row _ _ _ _ _ _ xb3];rfl
 have x3:w3.cell? ⟨w1.heap.size,3,none⟩=some (.int .i64 0):=by rw [cell_of_row _ _ _ _ _ _ xb3];rfl
 have x4:w3.cell? ⟨w1.heap.size,4,none⟩=some (.int .i64 0):=by rw [cell_of_row _ _ _ _ _ _ xb3];rfl
 have q0:w3.cell? ⟨w.heap.size,0,none⟩=some (.int .i64 0):=by rw [cell_of_row _ _ _ _ _ _ rb3];rfl
 have q1:w3.cell? ⟨w.heap.size,1,none⟩=some (.string ⟨#[]⟩):=by rw [cell_of_row _ _ _ _ _ _ rb3];rfl
 have q2:w3.cell? ⟨w.heap.size,2,none⟩=some (.int .i64 0):=by rw [cell_of_row _ _ _ _ _ _ rb3];rfl
 have q3:w3.cell? ⟨w.heap.size,3,none⟩=some (.int .i64 0):=by rw [cell_of_row _ _ _ _ _ _ rb3];rfl
 have q4:w3.cell? ⟨w.heap.size,4,none⟩=some (.int .i64 0):=by rw [cell_of_row _ _ _ _ _ _ rb3];rfl
 have fx:∀j,w3.frozen? ⟨w1.heap.size,j,none⟩=false:=fun j=>frozen_of_row _ _ _ _ _ xb3
 have fr:∀j,w3.frozen? ⟨w.heap.size,j,none⟩=false:=fun j=>frozen_of_row _ _ _ _ _ rb3
 have hne:¬w.heap.size=w1.heap.size:=by omega
 have hne':¬w1.heap.size=w.heap.size:=by omega
 have HRB:=hide rb3;clear S3 HC xb3 rb3 r3 h3 hR3 hX3;go_wp2;refine bodyPost_ret (kent_results Tryz.results153 _ w.heap.size _ rfl (by exact five_set _ _ _ _ _ ((Below.heap_setCell _ _ _ _ hne).trans ((Below.heap_setCell _ _ _ _ hne).trans (unhide HRB)))) _ rfl) rfl ?_;rw [unhide e1];exact ⟨rfl,((((unhide RE3).set hB w1.heap.size 3 (.int .i64 Q1) (.inr rfl) (by omega)).set hB w1.heap.size 4 (.int .i64 Q0) (.inr rfl) (by omega)).five hB (Nat.le_refl _) _ _ _ _ _).done⟩
theorem kreadEntry_odd (F:Nat→Prop) (w:World) (B x:Nat) (bs:List UInt8) (i:Nat) (h:RD F w B x bs i) (hB:B≤w.heap.size) (hs:bs.length≤140737488351232) (hi:i≤bs.length) (h0:(getW bs i 1 false).2.1=0) (ht:¬((getW bs i 1 false).1=1∨(getW bs i 1 false).1=3∨(getW bs i 1 false).1=5∨(getW bs i 1 false).1=7∨(getW bs i 1 false).1=9∨(getW bs i 1 false).1=10∨(getW bs i 1 false).1=12)) :
 Calls Tryz.prog 153 #[.pointer (some ⟨x,0,none⟩)] w fun e w'=>e=.returned (.tuple #[entV (entR bs i).1,.int .i64 (entR bs i).2.1])∧RS F w B x bs (entR bs i).2.2 w':=by
 have hle:(getW bs i 1 false).2.2≤bs.length:=getW_le hi;have b0:Below w.heap.size w (w.alloc (.cells #[.int .i64 0,.string ⟨#[]⟩,.int .i64 0,.int .i64 0,.int .i64 0] 55)):=(Below.refl _ _).alloc (Nat.le_refl _) _;have hl0:=heap_alloc_last w (.cells #[.int .i64 0,.string ⟨#[]⟩,.int .i64 0,.int .i64 0,.int .i64 0] 55);have hFl:=krd_lt h;have HU:=hide (rs_u (RS.start (krd_below h b0)) 1 hs hi (by omega));have SW:=hide (RS.start h);have HR0:=hide hl0;have B0:=hide b0;have hB0:B≤(w.alloc (.cells #[.int .i64 0,.string ⟨#[]⟩,.int .i64 0,.int .i64 0,.int .i64 0] 55)).heap.size:=Nat.le_trans hB b0.size;have e1:Hid (entR bs i=(⟨(getW bs i 1 false).1,[],0,0,0⟩,70,(getW bs i 1 false).2.2)):=by
  show entR bs i=_;unfold entR;simp only;rw [if_neg (by rw [h0];simp),if_neg (by omega),if_neg (by omega),if_neg (by omega),if_neg (by omega),if_neg (by omega)]
 rw [h0] at HU;clear h0;generalize (getW bs i 1 false).2.2=G3 at *;generalize (getW bs i 1 false).1=G1 at *;have t1:(G1==1)=false:=by rw [beq_eq_false_iff_ne];omega
 have t3:(G1==3)=false:=by rw [beq_eq_false_iff_ne];omega
 have t5:(G1==5)=false:=by rw [beq_eq_false_iff_ne];omega
 have t7:(G1==7)=false:=by rw [beq_eq_false_iff_ne];omega
 have t9:(G1==9)=false:=by rw [beq_eq_false_iff_ne];omega
 have t10:(G1==10)=false:=by rw [beq_eq_false_iff_ne];omega
 have t12:(G1==12)=false:=by rw [beq_eq_false_iff_ne];omega
 clear ht;clear b0 hl0 h;go_enter Tryz.func153,Tryz.ntmps153;go_wp2_with fail;generalize w.alloc (.cells #[.int .i64 0,.string ⟨#[]⟩,.int .i64 0,.int .i64 0,.int .i64 0] 55)=w0 at *;refine (unhide HU).mono ?_;rintro e w1 ⟨rfl,S1⟩;obtain ⟨F1,r1,h1⟩:=S1.ex;have hRw:w.heap.size<w0.heap.size:=lt_of_heap (unhide HR0);have hR1:¬F1 w.heap.size:=fun hh=>by
  rcases h1 _ hh with e | e
  · have:=(hFl _ e).2
    omega
  · omega
 have hrb1:w1.heap[w.heap.size]?=some (.cells #[.int .i64 0,.string ⟨#[]⟩,.int .i64 0,.int .i64 0,.int .i64 0] 55 (0,0)):=(S1.fr.other _ hRw (fun e=>by have:=(hFl _ e).2;omega)).trans (unhide HR0);have hw1:w0.heap.size≤w1.heap.size:=S1.fr.below.size;have F1l:=krd_lt r1;have b2:Below w1.heap.size w1 (w1.alloc (.cells #[.int .i64 G1,.string ⟨#[]⟩,.int .i64 0,.int .i64 0,.int .i64 0] 55)):=(Below.refl _ _).alloc (Nat.le_refl _) _;have hr2:=(b2.block w.heap.size (by omega)).trans hrb1;have RE1:RE F w B x bs G3 w.heap.size w.heap.size (w1.alloc (.cells #[.int .i64 G1,.string ⟨#[]⟩,.int .i64 0,.int .i64 0,.int .i64 0] 55)):=⟨⟨F1,krd_below r1 b2,hR1,hR1,fun j hj=>(h1 j hj).elim .inl (fun e=>.inr (by omega))⟩,kfr2_trans (F1:=fun _=>False) (kfr2_trans (Fr6.of_below (unhide B0) hB) S1.fr (fun k hk=>.inl hk)) (Fr6.of_below b2 (Nat.le_trans hB0 hw1)) (fun k hk=>hk.elim),((Kx.of_below (unhide B0)).trans (unhide B0).size S1.kp).trans (Nat.le_trans (unhide B0).size hw1) (Kx.of_below b2)⟩;have q0:(w1.alloc (.cells #[.int .i64 G1,.string ⟨#[]⟩,.int .i64 0,.int .i64 0,.int .i64 0] 55)).cell? ⟨w.heap.size,0,none⟩=some (.int .i64 0):=by rw [cell_of_row _ _ _ _ _ _ hr2];rfl
 have q1:(w1.alloc (.cells #[.int .i64 G1,.string ⟨#[]⟩,.int .i64 0,.int .i64 0,.int .i64 0] 55)).cell? ⟨w.heap.size,1,none⟩=some (.string ⟨#[]⟩):=by rw [cell_of_row _ _ _ _ _ _ hr2];rfl
 have q2:(w1.alloc (.cells #[.int .i64 G1,.string ⟨#[]⟩,.int .i64 0,.int .i64 0,.int .i64 0] 55)).cell? ⟨w.heap.size,2,none⟩=some (.int .i64 0):=by rw [cell_of_row _ _ _ _ _ _ hr2];rfl
 have q3:(w1.alloc (.cells #[.int .i64 G1,.string ⟨#[]⟩,.int .i64 0,.int .i64 0,.int .i64 0] 55)).cell? ⟨w.heap.size,3,none⟩=some (.int .i64 0):=by rw [cell_of_row _ _ _ _ _ _ hr2];rfl
 have q4:(w1.alloc (.cells #[.int .i64 G1,.string ⟨#[]⟩,.int .i64 0,.int .i64 0,.int .i64 0] 55)).cell? ⟨w.heap.size,4,none⟩=some (.int .i64 0):=by rw [cell_of_row _ _ _ _ _ _ hr2];rfl
 have fz:∀j,(w1.alloc (.cells #[.int .i64 G1,.string ⟨#[]⟩,.int .i64 0,.int .i64 0,.int .i64 0] 55)).frozen? ⟨w.heap.size,j,none⟩=false:=fun j=>frozen_of_row _ _ _ _ _ hr2
 have HRE:=hide RE1;have HRB:=hide hr2;clear S1 HU hrb1 r1 h1 hR1 F1l b2 hr2 RE1;go_wp2;refine bodyPost_ret (kent_results Tryz.results153 _ w.heap.size _ rfl (by exact five_set _ _ _ _ _ (unhide HRB)) _ rfl) rfl ?_;rw [unhide e1];exact ⟨rfl,((unhide HRE).five hB (Nat.le_refl _) _ _ _ _ _).done⟩
theorem kreadEntry_any (F:Nat→Prop) (w:World) (B x:Nat) (bs:List UInt8) (i:Nat) (h:RD F w B x bs i) (hB:B≤w.heap.size) (hs:bs.length≤140737488351232) (hi:i≤bs.length) :
 Calls Tryz.prog 153 #[.pointer (some ⟨x,0,none⟩)] w fun e w'=>e=.returned (.tuple #[entV (entR bs i).1,.int .i64 (entR bs i).2.1])∧RS F w B x bs (entR bs i).2.2 w':=by
 by_cases h0:(getW bs i 1 false).2.1=0
 case neg=>exact kreadEntry_bad F w B x bs i h hB hs hi h0
 by_cases t1:(getW bs i 1 false).1=1
 case pos=>exact kreadEntry_1 F w B x bs i h hB hs hi h0 t1
 by_cases t3:(getW bs i 1 false).1=3
 case pos=>exact kreadEntry_3 F w B x bs i h hB hs hi h0 t3
 by_cases t5:(getW bs i 1 false).1=5
 case pos=>exact kreadEntry_5 F w B x bs i h hB hs hi h0 t5
 by_cases t7:(getW bs i 1 false).1=7
 case pos=>exact kreadEntry_7 F w B x bs i h hB hs hi h0 t7
 by_cases t9:(getW bs i 1 false).1=9
 case pos=>exact kreadEntry_9 F w B x bs i h hB hs hi h0 t9
 by_cases t10:(getW bs i 1 false).1=10
 case pos=>exact kreadEntry_10 F w B x bs i h hB hs hi h0 t10
 by_cases t12:(getW bs i 1 false).1=12
 case pos=>exact kreadEntry_12 F w B x bs i h hB hs hi h0 t12
 exact kreadEntry_odd F w B x bs i h hB hs hi h0 (by omega)
def arrE (n:Nat) (es:List Ent):List Ent:=(es++List.replicate (n-es.length) ent0).take n
theorem arrE_len (n:Nat) (es:List Ent):(arrE n es).length=n:=by
 unfold arrE;rw [List.length_take,List.length_append,List.length_replicate];omega
theorem arrE_full {n:Nat} {es:List Ent} (h:es.length=n):arrE n es=es:=by
 unfold arrE;rw [h,Nat.sub_self,List.replicate_zero,List.append_nil,List.take_of_length_le (by omega)]
theorem arrE_at {n:Nat} {es:List Ent} (k:Nat):(arrE n es)[k]?=if k<n then some (es[k]?.getD ent0) else none:=by
 unfold arrE;rw [List.getElem?_take]
 by_cases hk:k<n
 · rw [if_pos hk,if_pos hk]
   by_cases hl:k<es.length
   · rw [List.getElem?_append_left hl,List.getElem?_eq_getElem hl]
     rfl
   · rw [List.getElem?_append_right (by omega),List.getElem?_replicate,if_pos (by omega),List.getElem?_eq_none (by omega)]
     rfl
 · rw [if_neg hk,if_neg hk]
theorem arrE_with {n:Nat} {es:List Ent} {x:Ent} (h:es.length<n):arrE n (withE es x)=(arrE n es).set es.length x:=by
 apply List.ext_getElem?;intro k;rw [arrE_at,List.getElem?_set,arrE_at,arrE_len,withE_eq]
 by_cases hk:k<n
 · rw [if_pos hk,if_pos hk]
   by_cases e:es.length=k
   · rw [if_pos e,if_pos h,←e,List.getElem?_append_right (Nat.le_refl _),Nat.sub_self]
     split <;> rfl
   · rw [if_neg e]
     by_cases hl:k<es.length
     · rw [List.getElem?_append_left hl]
     · rw [List.getElem?_append_right (by omega),List.getElem?_eq_none (l:=es) (by omega)]
       have:k-es.length≠0:=by omega
       split
       · match hq:k-es.length with
         | 0=>omega
         | 1=>rfl
         | q+2=>rfl
       · match hq:k-es.length with
         | 0=>omega
         | q+1=>rfl
 · rw [if_neg hk,if_neg hk,if_neg (by omega)]
theorem arrE_zero (n:Nat) (h:1≤n):arrE n [ent0]=List.replicate n ent0:=by
 apply List.ext_getElem?;intro k;rw [arrE_at,List.getElem?_replicate]
 by_cases hk:k<n
 · rw [if_pos hk,if_pos hk]
   cases k with
   | zero=>rfl
   | succ k=>simp
 · rw [if_neg hk,if_neg hk]
theorem ev_set {l:List Ent} {k:Nat} (x:Ent) (hk:k<l.length) :
 ((((((ev l).toArray.setIfInBounds (k*5) (.int .i64 x.tag)).setIfInBounds (k*5+1) (.string ⟨x.text.toArray⟩)).setIfInBounds (k*5+2) (.int .i64 x.n)).setIfInBounds (k*5+3) (.int .i64 x.a)).setIfInBounds (k*5+4) (.int .i64 x.b))=(ev (l.set k x)).toArray:=by
 have hl:=ev_len l;apply Array.ext';simp only [Array.toList_setIfInBounds];apply List.ext_getElem?;intro t;simp only [List.getElem?_set,List.length_set];have hs:(l.set k x)[k]?=some x:=by rw [List.getElem?_set];simp [hk]
 have key:∀q,q<5→(ev (l.set k x))[k*5+q]?=(ec x)[q]?:=fun q hq=>by
  have:=ev_get hs q hq;rw [show k*5+q=5*k+q by omega];exact this
 by_cases h4:k*5+4=t
 · subst h4
   rw [key 4 (by omega)];simp [ec,hl];omega
 by_cases h3:k*5+3=t
 · subst h3
   rw [key 3 (by omega)];simp [ec,hl];omega
 by_cases h2:k*5+2=t
 · subst h2
   rw [key 2 (by omega)];simp [ec,hl];omega
 by_cases h1:k*5+1=t
 · subst h1
   rw [key 1 (by omega)];simp [ec,hl];omega
 by_cases h0:k*5=t
 · subst h0
   have:=key 0 (by omega);rw [Nat.add_zero] at this;rw [this];simp [ec,hl];omega
 rw [if_neg h4,if_neg h3,if_neg h2,if_neg h1,if_neg h0]
 by_cases ht:t<l.length*5
 · have hd:t/5<l.length:=by omega
   have hne:¬k=t/5:=by omega
   have e1:l[t/5]?=some l[t/5]:=List.getElem?_eq_getElem hd;have e2:(l.set k x)[t/5]?=some l[t/5]:=by rw [List.getElem?_set,if_neg hne];exact e1
   have g1:=ev_get e1 (t%5) (by omega);have g2:=ev_get e2 (t%5) (by omega);rw [show 5*(t/5)+t%5=t by omega] at g1 g2;rw [g1,g2]
 · have hl2:=ev_len (l.set k x)
   rw [List.length_set] at hl2;rw [List.getElem?_eq_none (by omega),List.getElem?_eq_none (by omega)]
theorem made_ents (n:Nat):madeCells #[.int .i64 0,.string ⟨#[]⟩,.int .i64 0,.int .i64 0,.int .i64 0] (n*5)=(ev (List.replicate n ent0)).toArray:=by
 apply Array.ext';apply List.ext_getElem?;intro t;have hl:=ev_len (List.replicate n ent0);rw [List.length_replicate] at hl
 by_cases ht:t<n*5
 · have hr:(List.replicate n ent0)[t/5]?=some ent0:=by rw [List.getElem?_replicate,if_pos (by omega)]
   have g:=ev_get hr (t%5) (by omega);rw [show 5*(t/5)+t%5=t by omega] at g;rw [List.toList_toArray,g];have h5:t%5<5:=by omega
   have e:(madeCells #[.int .i64 0,.string ⟨#[]⟩,.int .i64 0,.int .i64 0,.int .i64 0] (n*5))[t]?=some (#[Value.int .i64 0,.string ⟨#[]⟩,.int .i64 0,.int .i64 0,.int .i64 0][t%5]!):=by
    unfold madeCells;rw [Array.getElem?_map,Array.getElem?_range,if_pos ht];rfl
   rw [←Array.getElem?_toList] at e;rw [e];generalize t%5=q at *
   match q,h5 with
   | 0,_=>rfl
   | 1,_=>rfl
   | 2,_=>rfl
   | 3,_=>rfl
   | 4,_=>rfl
 · rw [List.getElem?_eq_none (by rw [Array.length_toList,size_madeCells];omega),List.getElem?_eq_none (by rw [List.toList_toArray];omega)]
theorem make_ents (n:Nat) (h:n≤1024) (w:World):(Instr.makeSlice 22 (.int .i64 (n:Int)) (.int .i64 (n:Int))).run Tryz.prog w=.ok (.slice (some ⟨w.heap.size,0,none⟩) n n) (w.alloc (.cells (ev (List.replicate n ent0)).toArray 55)):=by
 obtain ⟨i0,hi,hz0,hz1,hz2⟩:=info_parts infoE;have:=run_make (P:=Tryz.prog) w 22 55 i0 (.agg #[.int .i64 0,.string ⟨#[]⟩,.int .i64 0,.int .i64 0,.int .i64 0]) Tryz.underlying22 hi hz0 .i64 .i64 n n (by omega) (by omega) (by rw [hz2];omega) (by omega);rw [this,hz1,←made_ents];rfl
structure RQ (F:Nat→Prop) (w:World) (B z:Nat) (bs:List UInt8) (j q:Nat) (l:List Ent) (W:World):Prop where
 ex:∃F',RD F' W B z bs j∧¬F' q∧∀k,F' k→F k∨w.heap.size≤k
 fr:Fr6 F B w W
 kp:Kx z w W
 blk:W.heap[q]?=some (.cells (ev l).toArray 55 (0,0))
theorem RQ.below {F:Nat→Prop} {w W W':World} {B z:Nat} {bs:List UInt8} {j q:Nat} {l:List Ent} (h:RQ F w B z bs j q l W) (hB:B≤w.heap.size) (f:Below W.heap.size W W'):RQ F w B z bs j q l W':=by
 obtain ⟨F',h1,h2,h3⟩:=h.ex;exact ⟨⟨F',krd_below h1 f,h2,h3⟩,kfr2_trans (F1:=fun _=>False) h.fr (Fr6.of_below f (Nat.le_trans hB h.fr.below.size)) (fun k hk=>hk.elim),h.kp.trans h.fr.below.size (Kx.of_below f),(f.block q (lt_of_heap h.blk)).trans h.blk⟩
theorem RQ.call {F F':Nat→Prop} {w W W':World} {B z:Nat} {bs:List UInt8} {j j' q:Nat} {l:List Ent} (h:RQ F w B z bs j q l W) (h2:¬F' q) (h3:∀k,F' k→F k∨w.heap.size≤k) (g:RS F' W B z bs j' W'):RQ F w B z bs j' q l W':=by
 obtain ⟨F2,r1,r2⟩:=g.ex;have hq:=lt_of_heap h.blk;exact ⟨⟨F2,r1,fun e=>(r2 q e).elim h2 (fun e=>by omega),fun k hk=>(r2 k hk).elim (h3 k) (fun e=>.inr (Nat.le_trans h.fr.below.size e))⟩,kfr2_trans h.fr g.fr h3,h.kp.trans h.fr.below.size g.kp,(g.fr.other q hq h2).trans h.blk⟩
theorem RQ.store {F:Nat→Prop} {w W:World} {B z:Nat} {bs:List UInt8} {j q:Nat} {l:List Ent} (h:RQ F w B z bs j q l W) (hB:B≤w.heap.size) (hq:w.heap.size≤q) (k:Nat) (x:Ent) (hk:k<l.length) :
 RQ F w B z bs j q (l.set k x) (((((W.setCell ⟨q,k*5,none⟩ (.int .i64 x.tag)).setCell ⟨q,k*5+1,none⟩ (.string ⟨x.text.toArray⟩)).setCell ⟨q,k*5+2,none⟩ (.int .i64 x.n)).setCell ⟨q,k*5+3,none⟩ (.int .i64 x.a)).setCell ⟨q,k*5+4,none⟩ (.int .i64 x.b)):=by
 obtain ⟨F',h1,h2,h3⟩:=h.ex;have hset:∀p,p≠q→(((((W.setCell ⟨q,k*5,none⟩ (.int .i64 x.tag)).setCell ⟨q,k*5+1,none⟩ (.string ⟨x.text.toArray⟩)).setCell ⟨q,k*5+2,none⟩ (.int .i64 x.n)).setCell ⟨q,k*5+3,none⟩ (.int .i64 x.a)).setCell ⟨q,k*5+4,none⟩ (.int .i64 x.b)).heap[p]?=W.heap[p]?:=fun p hp=>by
  rw [Below.heap_setCell _ _ _ _ hp,Below.heap_setCell _ _ _ _ hp,Below.heap_setCell _ _ _ _ hp,Below.heap_setCell _ _ _ _ hp,Below.heap_setCell _ _ _ _ hp]
 have hBq:B≤q:=Nat.le_trans hB hq;refine ⟨⟨F',krd_keep h1 (fun p hp=>hset p (fun e=>h2 (e▸hp))),h2,h3⟩,⟨?_,fun p hp hF=>(hset p (by omega)).trans (h.fr.other p hp hF)⟩,fun p hp hz=>(hset p (by omega)).trans (h.kp p hp hz),?_⟩
 · exact ((((h.fr.below.setCell (p:=⟨q,k*5,none⟩) hBq _).setCell (p:=⟨q,k*5+1,none⟩) hBq _).setCell (p:=⟨q,k*5+2,none⟩) hBq _).setCell (p:=⟨q,k*5+3,none⟩) hBq _).setCell (p:=⟨q,k*5+4,none⟩) hBq _
 · rw [←ev_set x hk]
   exact heap_setCell_same _ q _ _ _ _ (heap_setCell_same _ q _ _ _ _ (heap_setCell_same _ q _ _ _ _ (heap_setCell_same _ q _ _ _ _ (heap_setCell_same _ q _ _ _ _ h.blk))))
theorem RQ.done {F:Nat→Prop} {w W:World} {B z:Nat} {bs:List UInt8} {j q:Nat} {l:List Ent} (h:RQ F w B z bs j q l W):RS F w B z bs j W:=by
 obtain ⟨F',h1,h2,h3⟩:=h.ex;exact ⟨⟨F',h1,h3⟩,h.fr,h.kp⟩
theorem RQ.es {F:Nat→Prop} {w W:World} {B z:Nat} {bs:List UInt8} {j q n:Nat} {l:List Ent} (h:RQ F w B z bs j q l W) (hl:l.length=n):Es W (some ⟨q,0,none⟩) n l:=⟨hl,.inr ⟨q,0,rfl,es_of_block h.blk⟩⟩
end Go.Proofs.YtlabllgifkklhaaGreatDoor
