/- Joined: PlX GsA GsB GsC GsD. -/
import Derived.Test.YtlabllgifkklhaaGreatDoorJP1
import Derived.Test.YtlabllgifkklhaaGreatDoorJP3
import Derived.Test.YtlabllgifkklhaaGreatDoorJPlQ
import Derived.Test.YtlabllgifkklhaaGreatDoorJP2
import Derived.Deep.CutBlock
import Derived.Deep.LoopGhost
import Derived.Deep.RegionHeld3
import Derived.Deep.RegionHeldLaw
import Derived.Laws.AppendOwnNone
import Derived.Deep.AppendLies
import Derived.Laws.ResultCell
set_option linter.unusedVariables false
set_option maxRecDepth 100000
set_option maxHeartbeats 6400000
namespace Go.Proofs.YtlabllgifkklhaaGreatDoor
open Go.RowKit
def vlen:Value→Nat
 | .slice _ n _=>n
 | _=>0
variable {ex0 ex1:Value}
structure RwE (z:Nat) (w W:World) (cs:Array Value):Prop where
 blk:W.heap[z]?=some (.cells cs 81 (0,0))
 oth:∀k,k≠z→W.heap[k]?=w.heap[k]?
 bel:Below z w W
theorem RwE.drew {z:Nat} {w W:World} {cs:Array Value} (h:RwE z w W cs):RwE z w W.drew cs:=⟨h.blk,h.oth,h.bel.drew⟩
theorem RwE.drewN {z:Nat} {w W:World} {cs:Array Value} (h:RwE z w W cs) (n:Nat):RwE z w (W.drewN n) cs:=by
 induction n with
 | zero=>exact h
 | succ n ih=>exact ih.drew
theorem RwE.set {z:Nat} {w W:World} {cs:Array Value} (h:RwE z w W cs) (j:Nat) (u:Value):RwE z w (W.setCell ⟨z,j,none⟩ u) (cs.setIfInBounds j u):=
 ⟨heap_setCell_same W z j cs _ u h.blk,fun k hk=>(Below.heap_setCell _ _ _ _ hk).trans (h.oth k hk),h.bel.setCell (Nat.le_refl _) u⟩
theorem hGet_anyE (w:World) (z:Nat) (a:Option Addr) (n c i:Nat) (bs:List UInt8) (hb:Arg w a n c bs) (hn:n≤4611686018427387904) (hi:i≤n) (hz:w.heap[z]?=some (.cells #[.slice a n c,.int .i64 (i:Int),ex0,ex1] 81 (0,0))) (k:Int) (hk:-9223372036854775808≤k∧k≤9223372036854775807) (sg:Bool) :
 Calls Tryz.prog 74 #[.pointer (some ⟨z,0,none⟩),.int .i64 k,.bool sg] w fun e w'=>e=.returned (.tuple #[.int .i64 (getW bs i k sg).1,.int .i64 (getW bs i k sg).2.1])∧RwE z w w' #[.slice a n c,.int .i64 ((getW bs i k sg).2.2:Int),ex0,ex1]:=by
 have c0:w.cell? ⟨z,0,none⟩=some (.slice a n c):=by rw [cell_of_row _ _ _ _ _ _ hz];rfl
 have c1:w.cell? ⟨z,1,none⟩=some (.int .i64 (i:Int)):=by rw [cell_of_row _ _ _ _ _ _ hz];rfl
 have hf:w.frozen? ⟨z,1,none⟩=false:=frozen_of_row _ _ _ _ _ hz;have hlen:=hb.bs.1;have R0:Hid (RwE z w w #[.slice a n c,.int .i64 (i:Int),ex0,ex1]):=⟨hz,fun _ _=>rfl,Below.refl _ _⟩;have HW:=hide (hwide_any w k);clear hz
 by_cases hw:wide k
 · rw [decide_eq_true hw] at HW
   by_cases hs:(n:Int)-i<k
   · have e1:Hid (getW bs i k sg=(0,7,i)):=by
      show getW bs i k sg=(0,7,i);unfold getW;rw [if_pos hw,hlen,if_pos hs]
     have y1:IntKind.i64.wrap ((n:Int)-i)=(n:Int)-i:=by rw [IntKind.wrap_i64];omega
     clear hb hw hlen;go_enter Tryz.func74,Tryz.ntmps74;go_wp2_with fail;refine (unhide HW).mono ?_;rintro e w1 ⟨rfl,rfl⟩;clear HW;go_wp2_with fail
     go_quiet (fail)
     go_wp2;go_ret2;exact ⟨by rw [unhide e1];rfl,by rw [unhide e1];exact (unhide R0).drewN _⟩
   · obtain ⟨m,rfl,hm⟩:=wide_nat hw
     have hmn:i+m≤n:=by omega
     obtain ⟨b,o,rfl,hbb⟩:=hb.bs.2.resolve_left (by omega);have hcap:=hb.room;have hmost:=hb.most;obtain ⟨K,hK⟩:∃K,K=i+m:=⟨_,rfl⟩;have k1:(i:Int)+(m:Int)=(K:Int):=by omega
     have k2:(K:Int)≤(n:Int):=by omega
     have k3:(K:Int)≤(c:Int):=by omega
     have k4:(i:Int)≤(K:Int):=by omega
     have k5:K-i=m:=by omega
     have k6:¬c=i:=by omega
     have k7:(c:Int)≤9223372036854775807:=by omega
     have y1:IntKind.i64.wrap ((n:Int)-i)=(n:Int)-i:=by rw [IntKind.wrap_i64];omega
     have y2:IntKind.i64.wrap (K:Int)=(K:Int):=by rw [IntKind.wrap_i64];omega
     have hll:((bs.drop i).take m).length=m:=by rw [List.length_take,List.length_drop];omega
     have hbl:BytesAt w (some ⟨b,o+i,none⟩) ((bs.drop i).take m):=by
      refine bytes_take ⟨(fun e=>by cases e),fun ad e j u hu=>?_⟩ m;injection e with e
      subst e;have hu':(bv bs)[i+j]?=some u:=by
       simp only [bv,List.map_drop,List.getElem?_drop] at hu ⊢;exact hu
      have:=hbb.2 ⟨b,o,none⟩ rfl (i+j) u hu';rw [Addr.add_mid] at this ⊢;rw [show o+i+j=o+(i+j) by omega];exact this
     have HN:Hid (∀j,Calls Tryz.prog 104 #[.slice (some ⟨b,o+i,none⟩) m (c-i),.bool sg] (w.drewN j) fun e w'=>e=.returned (.tuple #[.int .i64 (valR ((bs.drop i).take m) sg).1,.int .i64 (valR ((bs.drop i).take m) sg).2])∧w'=w.drewN j):=fun j=>hNumber_any (w.drewN j) b (o+i) (c-i) _ m hll hm sg (by
      refine ⟨(fun e=>by cases e),fun ad e j' u hu=>?_⟩;exact hbl.2 ad e j' u hu)
     have e1:Hid (getW bs i (m:Int) sg=((valR ((bs.drop i).take m) sg).1,(valR ((bs.drop i).take m) sg).2,if (valR ((bs.drop i).take m) sg).2=0 then K else i)):=by
      show getW bs i (m:Int) sg=_;unfold getW valR;rw [if_pos hw,hlen,if_neg hs,Int.toNat_natCast];cases valW ((bs.drop i).take m) sg with
      | none=>rfl
      | some v=>rw [hK];rfl
     have hv:(valR ((bs.drop i).take m) sg).2=0∨((valR ((bs.drop i).take m) sg).2=3∧(valR ((bs.drop i).take m) sg).1=0):=by
      unfold valR;cases valW ((bs.drop i).take m) sg with
      | none=>exact .inr ⟨rfl,rfl⟩
      | some v=>exact .inl rfl
     generalize (valR ((bs.drop i).take m) sg).1=V at *;generalize (valR ((bs.drop i).take m) sg).2=E at *;clear hb hw hlen hbb hbl hll hm hK;go_enter Tryz.func74,Tryz.ntmps74;go_wp2_with fail;refine (unhide HW).mono ?_;rintro e w1 ⟨rfl,e0⟩;have e0':=e0.symm;clear e0;subst e0';clear HW;go_wp2_with fail
     go_quiet (fail)
     go_upto_region 5 with fail
     go_region_held_law (fun W=>W.cell? ⟨z,0,none⟩=some (.slice (some ⟨b,o,none⟩) n c)∧W.cell? ⟨z,1,none⟩=some (.int .i64 (i:Int))) (go_keep)
      (first | (go_at_call 104;refine (unhide HN _).mono ?_;rintro e w2 ⟨rfl,rfl⟩))
     rcases hv with rfl | ⟨rfl,rfl⟩
     · have R1:=hide ((unhide R0).drewN)
       clear R0 HN;go_wp2;go_ret2;refine ⟨by rw [unhide e1];rfl,?_⟩;rw [unhide e1]
       first
        | exact (unhide R1 _).set 1 (.int .i64 (K:Int))
        | exact (unhide R1 _).drew.set 1 (.int .i64 (K:Int))
        | exact (unhide R1 _).drew.drew.set 1 (.int .i64 (K:Int))
     · have R1:=hide ((unhide R0).drewN)
       clear R0 HN;go_wp2;go_ret2;refine ⟨by rw [unhide e1];rfl,?_⟩;rw [unhide e1]
       first
        | exact unhide R1 _
        | exact (unhide R1 _).drew
        | exact (unhide R1 _).drew.drew
 · rw [decide_eq_false hw] at HW
   have e1:Hid (getW bs i k sg=(0,2,i)):=by
    show getW bs i k sg=(0,2,i);unfold getW;rw [if_neg hw]
   clear hb hw;go_enter Tryz.func74,Tryz.ntmps74;go_wp2_with fail;refine (unhide HW).mono ?_;rintro e w1 ⟨rfl,rfl⟩;go_wp2;go_ret2;exact ⟨by rw [unhide e1];rfl,by rw [unhide e1];exact unhide R0⟩
variable {ex0 ex1:Value}
structure RvE (z:Nat) (w W:World) (cs:Array Value):Prop where
 blk:W.heap[z]?=some (.cells cs 81 (0,0))
 oth:∀k,k<w.heap.size→k≠z→W.heap[k]?=w.heap[k]?
 bel:Below z w W
theorem RwE.v {z:Nat} {w W:World} {cs:Array Value} (h:RwE z w W cs):RvE z w W cs:=⟨h.blk,fun k _ hk=>h.oth k hk,h.bel⟩
theorem RvE.below {z:Nat} {w W W':World} {cs:Array Value} (h:RvE z w W cs) (f:Below W.heap.size W W'):RvE z w W' cs:=
 ⟨(f.block z (lt_of_heap h.blk)).trans h.blk,fun k hk hz=>(f.block k (Nat.lt_of_lt_of_le hk h.bel.size)).trans (h.oth k hk hz),h.bel.trans (f.mono (Nat.le_of_lt (lt_of_heap h.blk)))⟩
theorem hRBytes_anyE (w:World) (z:Nat) (a:Option Addr) (n c i:Nat) (bs:List UInt8) (hb:Arg w a n c bs) (hn:n≤140737488355328) (hi:i≤n) (hz:w.heap[z]?=some (.cells #[.slice a n c,.int .i64 (i:Int),ex0,ex1] 81 (0,0))) (hfar:∀b o,a=some ⟨b,o,none⟩→0<n→b≠z) (k:Int) (hk:-9223372036854775808≤k∧k≤9223372036854775807) :
 Calls Tryz.prog 78 #[.pointer (some ⟨z,0,none⟩),.int .i64 k] w fun e w'=>∃v,e=.returned (.tuple #[v,.int .i64 (takeW bs i k).2.1])∧w'.ownsRow w.heap.size 5 1 v (takeW bs i k).1.length (bv (takeW bs i k).1)∧RvE z w w' #[.slice a n c,.int .i64 ((takeW bs i k).2.2:Int),ex0,ex1]:=by
 have c0:w.cell? ⟨z,0,none⟩=some (.slice a n c):=by rw [cell_of_row _ _ _ _ _ _ hz];rfl
 have c1:w.cell? ⟨z,1,none⟩=some (.int .i64 (i:Int)):=by rw [cell_of_row _ _ _ _ _ _ hz];rfl
 have hf:w.frozen? ⟨z,1,none⟩=false:=frozen_of_row _ _ _ _ _ hz;have hlen:=hb.bs.1;have R0:Hid (RwE z w w #[.slice a n c,.int .i64 (i:Int),ex0,ex1]):=⟨hz,fun _ _=>rfl,Below.refl _ _⟩
 by_cases h0:k<0
 · have e1:Hid (takeW bs i k=([],2,i)):=by
    show takeW bs i k=_;unfold takeW;rw [if_pos h0]
   clear hb hz hlen;go_enter Tryz.func78,Tryz.ntmps78;go_wp2;go_ret2;exact ⟨_,by rw [unhide e1];rfl,by rw [unhide e1];exact World.ownsRow_nil _ _ _ _,by rw [unhide e1];exact (unhide R0).v⟩
 by_cases hs:(n:Int)-i<k
 · have e1:Hid (takeW bs i k=([],7,i)):=by
    show takeW bs i k=_;unfold takeW;rw [if_neg h0,hlen,if_pos hs]
   have y1:IntKind.i64.wrap ((n:Int)-i)=(n:Int)-i:=by rw [IntKind.wrap_i64];omega
   clear hb hz hlen;go_enter Tryz.func78,Tryz.ntmps78;go_wp2_with fail
   go_quiet (fail)
   go_wp2;go_ret2;exact ⟨_,by rw [unhide e1];rfl,by rw [unhide e1];exact World.ownsRow_nil _ _ _ _,by rw [unhide e1];exact ((unhide R0).drewN _).v⟩
 · obtain ⟨m,rfl⟩:∃m:Nat,k=m:=⟨k.toNat,by omega⟩
   obtain ⟨K,hK⟩:∃K,K=i+m:=⟨_,rfl⟩;have k1:(i:Int)+(m:Int)=(K:Int):=by omega
   have k1':(K:Int)-(m:Int)=(i:Int):=by omega
   have k2:(K:Int)≤(n:Int):=by omega
   have hcap:=hb.room;have hmost:=hb.most;have k3:(K:Int)≤(c:Int):=by omega
   have k4:(i:Int)≤(K:Int):=by omega
   have k5:K-i=m:=by omega
   have y1:IntKind.i64.wrap ((n:Int)-i)=(n:Int)-i:=by rw [IntKind.wrap_i64];omega
   have y2:IntKind.i64.wrap (i:Int)=(i:Int):=by rw [IntKind.wrap_i64];omega
   have e1:Hid (takeW bs i (m:Int)=((bs.take K).drop i,0,K)):=by
    show takeW bs i (m:Int)=_;unfold takeW;rw [if_neg h0,hlen,if_neg hs,Int.toNat_natCast,hK,List.take_drop]
   obtain ⟨AD,hAd⟩:∃AD,(if c=i then a else Option.map (fun x=>x.add i) a)=AD:=⟨_,rfl⟩;have hbs:=sub_bs hb i K (by omega) (by omega);rw [hAd,k5] at hbs;have hnil:AD=none→m=0∧c-i=0:=fun e=>by
    rw [←hAd] at e;have ha:a=none:=by
     split at e
     · exact e
     · exact Option.map_eq_none_iff.1 e
    obtain ⟨h1,h2⟩:=hb.nil ha;omega
   have hbf:∀W,(∀q,q<w.heap.size→q≠z→W.heap[q]?=w.heap[q]?)→Bs W AD m ((bs.take K).drop i):=fun W hW=>by
    refine ⟨hbs.1,?_⟩
    by_cases hm0:m=0
    · exact .inl hm0
    · obtain ⟨b,o,e,hB⟩:=hbs.2.resolve_left hm0
      refine .inr ⟨b,o,e,(fun e=>by cases e),fun ad e2 j u hu=>?_⟩;have hcell:=hB.2 ad e2 j u hu;injection e2 with e2
      subst e2;have hbz:b≠z:=by
       obtain ⟨b',o',e3,_⟩:=hb.bs.2.resolve_left (by omega);rw [←hAd,if_neg (by omega),e3] at e;simp [Addr.add_mid] at e;have:=hfar b' o' e3 (by omega);omega
      rw [Addr.add_mid] at hcell ⊢;have hlt:=World.block_lt_of_cell? w _ hcell;exact (World.cell?_of_block (a:=⟨b,o+j,none⟩) (hW b hlt hbz)).trans hcell
   have HBF:=hide hbf;have HNL:=hide hnil;have hzl:=lt_of_heap hz;clear hb hbs hbf hnil hlen hz hK hfar;go_enter Tryz.func78,Tryz.ntmps78;go_wp2_with fail
   go_quiet (fail)
   go_upto_region 6 with fail
   have R5:RwE z w ((w.drewN nq).setCell ⟨z,1,none⟩ (.int .i64 (K:Int))) #[.slice a n c,.int .i64 (K:Int),ex0,ex1]:=((unhide R0).drewN nq).set 1 (.int .i64 (K:Int));generalize (w.drewN nq).setCell ⟨z,1,none⟩ (.int .i64 (K:Int))=W5 at *;have d0:W5.cell? ⟨z,0,none⟩=some (.slice a n c):=by rw [cell_of_row _ _ _ _ _ _ R5.blk];rfl
   have d1:W5.cell? ⟨z,1,none⟩=some (.int .i64 (K:Int)):=by rw [cell_of_row _ _ _ _ _ _ R5.blk];rfl
   have HLM:Hid (((bs.take K).drop i).length=m):=(unhide HBF w (fun _ _ _=>rfl)).1;have hszw:w.heap.size≤W5.heap.size:=R5.bel.size;have hown:(W5.alloc (.cells #[] 5)).ownsRow W5.heap.size 5 1 (.slice (some ⟨W5.heap.size,0,none⟩) 0 0) 0 (bv []):=World.ownsRow_made W5 #[] 0 (Nat.le_refl _) (by simp) rfl;have hbW:Bs (W5.alloc (.cells #[] 5)) AD m ((bs.take K).drop i):=unhide HBF _ (fun q hq hqz=>(heap_alloc_old W5 _ (Nat.lt_of_lt_of_le hq hszw)).trans (R5.oth q hqz));have hszW:W5.heap.size≤(W5.alloc (.cells #[] 5)).heap.size:=by simp
   have HRV:Hid (∀w6,(W5.alloc (.cells #[] 5)).drew.grownBy w6 (Value.slice (some ⟨W5.heap.size,0,none⟩) 0 0).ownBlock→RvE z w w6 #[.slice a n c,.int .i64 (K:Int),ex0,ex1]):=fun w6 g6=>by
    have fb:Below W5.heap.size W5 w6:=(((Below.refl _ _).alloc (Nat.le_refl _) _).drew).grown g6 hszW (fun x hx=>by simp [Value.ownBlock] at hx;omega);exact R5.v.below fb
   have HST:Hid (∀w6,(W5.alloc (.cells #[] 5)).drew.grownBy w6 (Value.slice (some ⟨W5.heap.size,0,none⟩) 0 0).ownBlock→w6.cell? ⟨z,0,none⟩=some (.slice a n c)∧w6.cell? ⟨z,1,none⟩=some (.int .i64 (K:Int))):=fun w6 g6=>by
    have h:=(unhide HRV w6 g6).blk;exact ⟨by rw [cell_of_row _ _ _ _ _ _ h];rfl,by rw [cell_of_row _ _ _ _ _ _ h];rfl⟩
   have R5H:=hide R5;clear c0 c1 hf R5
   go_region_held_law (fun W=>W.cell? ⟨z,0,none⟩=some (.slice a n c)∧W.cell? ⟨z,1,none⟩=some (.int .i64 (K:Int))) (go_keep)
    (first | (refine stepB_append rfl (.tmp 28) (.tmp 43) rfl W5.heap.size (.slice (some ⟨W5.heap.size,0,none⟩) 0 0) 0 [] rfl (by exact hown) AD m (c-i) ((bs.take K).drop i) (by first | rfl | simp [Act.eval,hAd,k5]) (by exact hbW) (unhide HNL) (by omega) (by exact hszW) ?_;intro v6 w6 o6 g6;have k60:=(unhide HST w6 g6).1;have k61:=(unhide HST w6 g6).2))
   have hf6:RvE z w w6 #[.slice a n c,.int .i64 (K:Int),ex0,ex1]:=unhide HRV w6 (by exact g6);have ho6:w6.ownsRow w.heap.size 5 1 v6 (0+m) (bv ([]++(bs.take K).drop i)):=own_base o6 (unhide R5H).bel.size;have HF6:=hide hf6;have HO6:=hide ho6;clear g6 o6 k60 k61 hf6 ho6 HST HRV hown hbW d0 d1;go_simp;go_wp2;go_ret2;refine ⟨v6,by rw [unhide e1];rfl,?_,?_⟩
   · rw [unhide e1]
     have h:=unhide HO6;rw [Nat.zero_add,List.nil_append] at h;show w6.ownsRow w.heap.size 5 1 v6 ((bs.take K).drop i).length _;rw [unhide HLM];exact h
   · rw [unhide e1]
     exact (unhide HF6).below (by first | exact Below.refl _ _ | exact (Below.refl _ _).drew | exact below_drewN (Below.refl _ _) _)
variable {ex0 ex1:Value}
structure ESE (ex0 ex1:Value) (w:World) (z:Nat) (a:Option Addr) (n c:Nat) (i r q:Nat) (x:Ent) (W:World):Prop where
 blk:W.heap[z]?=some (.cells #[.slice a n c,.int .i64 (i:Int),ex0,ex1] 81 (0,0))
 oth:∀k,k<w.heap.size→k≠z→W.heap[k]?=w.heap[k]?
 bel:Below z w W
 res:W.heap[r]?=some (.cells #[.int .i64 0,.string ⟨#[]⟩,.int .i64 0,.int .i64 0,.int .i64 0] 55 (0,0))
 ent:W.heap[q]?=some (.cells #[.int .i64 x.tag,.string ⟨x.text.toArray⟩,.int .i64 x.n,.int .i64 x.a,.int .i64 x.b] 55 (0,0))
structure EHE (w:World) (z:Nat) (a:Option Addr) (n c:Nat) (bs:List UInt8) (r q:Nat):Prop where
 arg:Arg w a n c bs
 far:∀b o,a=some ⟨b,o,none⟩→0<n→b≠z
 small:n≤1000000
 zlt:z<w.heap.size
 rge:w.heap.size≤r
 qge:w.heap.size≤q
 rq:r≠q
theorem ESE.get {w W:World} {z:Nat} {a:Option Addr} {n c i r q:Nat} {x:Ent} {bs:List UInt8} (h:ESE ex0 ex1 w z a n c i r q x W) (H:EHE w z a n c bs r q) (hi:i≤n) (k:Int) (hk:-9223372036854775808≤k∧k≤9223372036854775807) (sg:Bool) :
 Calls Tryz.prog 74 #[.pointer (some ⟨z,0,none⟩),.int .i64 k,.bool sg] W fun e w'=>e=.returned (.tuple #[.int .i64 (getW bs i k sg).1,.int .i64 (getW bs i k sg).2.1])∧ESE ex0 ex1 w z a n c (getW bs i k sg).2.2 r q x w':=by
 refine (hGet_anyE W z a n c i bs (H.arg.blocks H.far h.oth) (by have:=H.small;omega) hi h.blk k hk sg).mono ?_;rintro e w' ⟨rfl,R⟩;have hz:=H.zlt;have hr:=H.rge;have hq:=H.qge;exact ⟨rfl,R.blk,fun k hk hz=>(R.oth k hz).trans (h.oth k hk hz),h.bel.trans R.bel,(R.oth r (by omega)).trans h.res,(R.oth q (by omega)).trans h.ent⟩
theorem ESE.take {w W:World} {z:Nat} {a:Option Addr} {n c i r q:Nat} {x:Ent} {bs:List UInt8} (h:ESE ex0 ex1 w z a n c i r q x W) (H:EHE w z a n c bs r q) (hi:i≤n) (k:Int) (hk:-9223372036854775808≤k∧k≤9223372036854775807) :
 Calls Tryz.prog 78 #[.pointer (some ⟨z,0,none⟩),.int .i64 k] W fun e w'=>∃v,e=.returned (.tuple #[v,.int .i64 (takeW bs i k).2.1])∧w'.ownsRow W.heap.size 5 1 v (takeW bs i k).1.length (bv (takeW bs i k).1)∧ESE ex0 ex1 w z a n c (takeW bs i k).2.2 r q x w':=by
 refine (hRBytes_anyE W z a n c i bs (H.arg.blocks H.far h.oth) (by have:=H.small;omega) hi h.blk H.far k hk).mono ?_;rintro e w' ⟨v,rfl,o,R⟩;have hz:=H.zlt;have hr:=H.rge;have hq:=H.qge;have hrl:=lt_of_heap h.res;have hql:=lt_of_heap h.ent;have hsz:=h.bel.size;exact ⟨v,rfl,o,R.blk,fun k hk hz=>(R.oth k (by omega) hz).trans (h.oth k hk hz),h.bel.trans R.bel,(R.oth r hrl (by omega)).trans h.res,(R.oth q hql (by omega)).trans h.ent⟩
theorem ESE.set {w W:World} {z:Nat} {a:Option Addr} {n c i r q:Nat} {x y:Ent} {bs:List UInt8} (h:ESE ex0 ex1 w z a n c i r q x W) (H:EHE w z a n c bs r q) (j:Nat) (v:Value) (hv:(#[Value.int .i64 x.tag,.string ⟨x.text.toArray⟩,.int .i64 x.n,.int .i64 x.a,.int .i64 x.b]:Array Value).setIfInBounds j v=#[.int .i64 y.tag,.string ⟨y.text.toArray⟩,.int .i64 y.n,.int .i64 y.a,.int .i64 y.b]):ESE ex0 ex1 w z a n c i r q y (W.setCell ⟨q,j,none⟩ v):=by
 have hz:=H.zlt;have hq:=H.qge;have hrq:=H.rq;have hne:z≠q:=by omega
 refine ⟨(Below.heap_setCell _ _ _ _ hne).trans h.blk,fun k hk hz=>(Below.heap_setCell _ _ _ _ (by show k≠q;omega)).trans (h.oth k hk hz),h.bel.setCell (p:=⟨q,j,none⟩) (by show z≤q;omega) v,(Below.heap_setCell _ _ _ _ hrq).trans h.res,?_⟩;have:=heap_setCell_same W q j _ _ v h.ent;rw [hv] at this;exact this
theorem ESE.cells {w W:World} {z:Nat} {a:Option Addr} {n c i r q:Nat} {x:Ent} (h:ESE ex0 ex1 w z a n c i r q x W):(W.cell? ⟨q,0,none⟩=some (.int .i64 x.tag)∧W.cell? ⟨q,1,none⟩=some (.string ⟨x.text.toArray⟩)∧W.cell? ⟨q,2,none⟩=some (.int .i64 x.n)∧W.cell? ⟨q,3,none⟩=some (.int .i64 x.a)∧W.cell? ⟨q,4,none⟩=some (.int .i64 x.b))∧(∀j,W.frozen? ⟨q,j,none⟩=false)∧(W.cell? ⟨r,0,none⟩=some (.int .i64 0)∧W.cell? ⟨r,1,none⟩=some (.string ⟨#[]⟩)∧W.cell? ⟨r,2,none⟩=some (.int .i64 0)∧W.cell? ⟨r,3,none⟩=some (.int .i64 0)∧W.cell? ⟨r,4,none⟩=some (.int .i64 0))∧∀j,W.frozen? ⟨r,j,none⟩=false:=
 ⟨entC h.ent,fun j=>frozen_of_row _ _ _ _ _ h.ent,entC (x:=ent0) h.res,fun j=>frozen_of_row _ _ _ _ _ h.res⟩
structure EEndE (ex0 ex1:Value) (w:World) (z:Nat) (a:Option Addr) (n c i:Nat) (W:World):Prop where
 blk:W.heap[z]?=some (.cells #[.slice a n c,.int .i64 (i:Int),ex0,ex1] 81 (0,0))
 oth:∀k,k<w.heap.size→k≠z→W.heap[k]?=w.heap[k]?
 bel:Below z w W
theorem ESE.fin {w W:World} {z:Nat} {a:Option Addr} {n c i r q:Nat} {x:Ent} {bs:List UInt8} (h:ESE ex0 ex1 w z a n c i r q x W) (H:EHE w z a n c bs r q) (c0 c1 c2 c3 c4:Value) :
 EEndE ex0 ex1 w z a n c i (((((W.setCell ⟨r,0,none⟩ c0).setCell ⟨r,1,none⟩ c1).setCell ⟨r,2,none⟩ c2).setCell ⟨r,3,none⟩ c3).setCell ⟨r,4,none⟩ c4)∧(((((W.setCell ⟨r,0,none⟩ c0).setCell ⟨r,1,none⟩ c1).setCell ⟨r,2,none⟩ c2).setCell ⟨r,3,none⟩ c3).setCell ⟨r,4,none⟩ c4).heap[r]?=some (.cells #[c0,c1,c2,c3,c4] 55 (0,0)):=by
 have hz:=H.zlt;have hr:=H.rge;have key:∀k,k≠r→(((((W.setCell ⟨r,0,none⟩ c0).setCell ⟨r,1,none⟩ c1).setCell ⟨r,2,none⟩ c2).setCell ⟨r,3,none⟩ c3).setCell ⟨r,4,none⟩ c4).heap[k]?=W.heap[k]?:=fun k hk=>by
  rw [Below.heap_setCell _ _ _ _ hk,Below.heap_setCell _ _ _ _ hk,Below.heap_setCell _ _ _ _ hk,Below.heap_setCell _ _ _ _ hk,Below.heap_setCell _ _ _ _ hk]
 exact ⟨⟨(key z (by omega)).trans h.blk,fun k hk hz=>(key k (by omega)).trans (h.oth k hk hz),five_bel _ _ _ _ _ h.bel (by omega)⟩,five_set _ _ _ _ _ h.res⟩
variable {ex0 ex1:Value}
theorem jentry_anyE (w:World) (z:Nat) (a:Option Addr) (n c i:Nat) (bs:List UInt8) (hb:Arg w a n c bs) (hn:n≤1000000) (hi:i≤n) (hz:w.heap[z]?=some (.cells #[.slice a n c,.int .i64 (i:Int),ex0,ex1] 81 (0,0))) (hfar:∀b o,a=some ⟨b,o,none⟩→0<n→b≠z) :
 Calls Tryz.prog 75 #[.pointer (some ⟨z,0,none⟩)] w fun e w'=>∃x,e=.returned (.tuple #[entV x,.int .i64 (entR bs i).2.1])∧((entR bs i).2.1=0→x=(entR bs i).1)∧EEndE ex0 ex1 w z a n c (entR bs i).2.2 w':=by
 have hlen:=hb.bs.1;have b0:Below w.heap.size w (w.alloc (.cells #[.int .i64 0,.string ⟨#[]⟩,.int .i64 0,.int .i64 0,.int .i64 0] 55)):=(Below.refl _ _).alloc (Nat.le_refl _) _;have hzl:=lt_of_heap hz;have HG:=hide (hGet_anyE (w.alloc (.cells #[.int .i64 0,.string ⟨#[]⟩,.int .i64 0,.int .i64 0,.int .i64 0] 55)) z a n c i bs (hb.below b0) (by omega) hi ((b0.block z hzl).trans hz) 1 (by decide) false);have hle:=getW_le (bs:=bs) (i:=i) (k:=1) (sg:=false) (by omega);have hpos:=getW_pos (b:=bs) (i:=i) (k:=1);have hmost:=getW1_le (b:=bs) (i:=i);obtain ⟨X,hX⟩:∃X,entR bs i=X:=⟨_,rfl⟩;rw [hX];have hE:=hX.symm;unfold entR at hE;simp only at hE;generalize getW bs i 1 false=g at *;obtain ⟨g1,g2,g3⟩:=g;simp only at HG hle hpos hmost hE;have B0:=hide b0;have HZ:=hide hz;have HB:=hide hb;have HF:=hide hfar;have HX:=hide hE;clear hz hb hfar b0 hX hE;go_enter Tryz.func75,Tryz.ntmps75;go_wp2_with fail;refine (unhide HG).mono ?_;rintro e w1 ⟨rfl,R⟩;have hs1:w.heap.size+1≤w1.heap.size:=by
  have:=R.bel.size
  simpa using this
 have H:EHE w z a n c bs w.heap.size w1.heap.size:=⟨unhide HB,unhide HF,hn,hzl,Nat.le_refl _,by omega,by omega⟩;have hS:ESE ex0 ex1 w z a n c g3 w.heap.size w1.heap.size ⟨g1,[],0,0,0⟩ (w1.alloc (.cells #[.int .i64 g1,.string ⟨#[]⟩,.int .i64 0,.int .i64 0,.int .i64 0] 55)):=by
  have f1:Below w1.heap.size w1 (w1.alloc (.cells #[.int .i64 g1,.string ⟨#[]⟩,.int .i64 0,.int .i64 0,.int .i64 0] 55)):=(Below.refl _ _).alloc (Nat.le_refl _) _;have hne:w.heap.size≠z:=by omega
  refine ⟨(f1.block z (lt_of_heap R.blk)).trans R.blk,fun k hk hz=>?_,?_,?_,heap_alloc_last w1 _⟩
  · exact (f1.block k (by omega)).trans ((R.oth k hz).trans ((unhide B0).block k hk))
  · exact (((unhide B0).mono (Nat.le_of_lt hzl)).trans R.bel).trans (f1.mono (by omega))
  · exact (f1.block _ (by omega)).trans ((R.oth _ hne).trans (heap_alloc_last w _))
 have HS:=hide hS;clear HG R hS B0 HZ HB HF;go_upto_region 3 with fail
 generalize w1.alloc (.cells #[.int .i64 g1,.string ⟨#[]⟩,.int .i64 0,.int .i64 0,.int .i64 0] 55)=W at *;generalize w1.heap.size=q at *
 by_cases h0:g2=0
 case neg=>
  have h0':(g2 != 0)=true:=by simpa using h0
  rw [if_pos h0] at HX;obtain ⟨⟨x0,x1,x2,x3,x4⟩,fx,⟨r0,r1,r2,r3,r4⟩,fr⟩:=(unhide HS).cells;simp only at x0 x1 x2 x3 x4;have E:=hide ((unhide HS).fin H (.int .i64 g1) (.string ⟨#[]⟩) (.int .i64 0) (.int .i64 0) (.int .i64 0));clear HS;go_wp2;refine bodyPost_ret (ent_results Tryz.results75 _ w.heap.size _ _ _ _ _ (by exact (unhide E).2) _ rfl) rfl ?_;rw [unhide HX];exact ⟨⟨g1,[],0,0,0⟩,rfl,fun h=>absurd h h0,(unhide E).1⟩
 subst h0;rw [if_neg (by simp)] at HX
 by_cases t1:g1=1
 case pos=>
  subst t1;rw [if_pos rfl] at HX;have hyp:=getW_pos (b:=bs) (i:=g3) (k:=2);have hym:=getW_most (b:=bs) (i:=g3) (k:=2);have H2:=hide ((unhide HS).get H (by omega) 2 (by decide) false);have hle2:=getW_le (bs:=bs) (i:=g3) (k:=2) (sg:=false) (by omega);generalize getW bs g3 2 false=y at *;obtain ⟨y1,y2,y3⟩:=y;simp only at H2 HX hle2 hyp hym;clear HS;go_wp2_with fail;refine (unhide H2).mono ?_;rintro e w2 ⟨rfl,s2⟩;have S2:=hide s2;clear s2 H2
  by_cases h2:y2=0
  case neg=>
   have h2':(y2 != 0)=true:=by simpa using h2
   rw [if_pos h2] at HX;obtain ⟨⟨x0,x1,x2,x3,x4⟩,fx,⟨r0,r1,r2,r3,r4⟩,fr⟩:=(unhide S2).cells;simp only at x0 x1 x2 x3 x4;have E:=hide ((unhide S2).fin H (.int .i64 1) (.string ⟨#[]⟩) (.int .i64 0) (.int .i64 0) (.int .i64 0));clear S2;go_wp2;refine bodyPost_ret (ent_results Tryz.results75 _ w.heap.size _ _ _ _ _ (by exact (unhide E).2) _ rfl) rfl ?_;rw [unhide HX];exact ⟨⟨1,[],0,0,0⟩,rfl,fun h=>absurd h h2,(unhide E).1⟩
  subst h2;rw [if_neg (by simp)] at HX;have hy1:0≤y1∧y1≤9223372036854775807:=⟨hyp,hym⟩;have H3:=hide ((unhide S2).take H (by omega) y1 (by omega));generalize takeW bs y3 y1=t at *;obtain ⟨t1,t2,t3⟩:=t;simp only at H3 HX;clear S2;go_wp2_with fail;refine (unhide H3).mono ?_;rintro e w3 ⟨v,rfl,ov,s3⟩;obtain ⟨av,cv,rfl,_⟩:=own_form ov;have hcv:=conv_bytes w3 av t1 cv (own_bytes ov);have S3:=hide s3;obtain ⟨⟨x0,x1,x2,x3,x4⟩,fx,⟨r0,r1,r2,r3,r4⟩,fr⟩:=(unhide S3).cells;simp only at x0 x1 x2 x3 x4;have S4:=hide ((unhide S3).set (y:=⟨1,t1,0,0,0⟩) H 1 (.string ⟨t1.toArray⟩) rfl);clear s3 ov H3 S3;generalize hst:(⟨t1.toArray⟩:ByteArray)=st at *;go_upto_region 13 with fail
  generalize w3.setCell ⟨q,1,none⟩ (.string st)=W4 at *;clear x0 x1 x2 x3 x4 fx r0 r1 r2 r3 r4 fr hcv;obtain ⟨⟨x0,x1,x2,x3,x4⟩,fx,⟨r0,r1,r2,r3,r4⟩,fr⟩:=(unhide S4).cells;simp only [hst] at x0 x1 x2 x3 x4;have HST:=hide hst;clear hst;have E:=hide ((unhide S4).fin H (.int .i64 1) (.string st) (.int .i64 0) (.int .i64 0) (.int .i64 0));clear S4;go_wp2;refine bodyPost_ret (ent_results Tryz.results75 _ w.heap.size _ _ _ _ _ (by exact (unhide E).2) _ rfl) rfl ?_;rw [unhide HX];exact ⟨⟨1,t1,0,0,0⟩,by rw [←unhide HST];rfl,fun _=>rfl,(unhide E).1⟩
 by_cases t3:g1=3
 case pos=>
  subst t3;rw [if_neg (by decide),if_pos rfl] at HX;have H2:=hide ((unhide HS).get H (by omega) 4 (by decide) true);have hle2:=getW_le (bs:=bs) (i:=g3) (k:=4) (sg:=true) (by omega);generalize getW bs g3 4 true=y at *;obtain ⟨y1,y2,y3⟩:=y;simp only at H2 HX hle2;clear HS;go_wp2_with fail;refine (unhide H2).mono ?_;rintro e w2 ⟨rfl,s2⟩;have S2:=hide s2;clear s2 H2;obtain ⟨⟨x0,x1,x2,x3,x4⟩,fx,⟨r0,r1,r2,r3,r4⟩,fr⟩:=(unhide S2).cells;simp only at x0 x1 x2 x3 x4;have S3:=hide ((unhide S2).set (y:=⟨3,[],y1,0,0⟩) H 2 (.int .i64 y1) rfl);clear S2;go_upto_region 26 with fail
  generalize w2.setCell ⟨q,2,none⟩ (.int .i64 y1)=W3 at *;clear x0 x1 x2 x3 x4 fx r0 r1 r2 r3 r4 fr;obtain ⟨⟨x0,x1,x2,x3,x4⟩,fx,⟨r0,r1,r2,r3,r4⟩,fr⟩:=(unhide S3).cells;simp only at x0 x1 x2 x3 x4;have E:=hide ((unhide S3).fin H (.int .i64 3) (.string ⟨#[]⟩) (.int .i64 y1) (.int .i64 0) (.int .i64 0));clear S3;go_wp2;refine bodyPost_ret (ent_results Tryz.results75 _ w.heap.size _ _ _ _ _ (by exact (unhide E).2) _ rfl) rfl ?_;rw [unhide HX];exact ⟨⟨3,[],y1,0,0⟩,rfl,fun _=>rfl,(unhide E).1⟩
 by_cases t5:g1=5
 case pos=>
  subst t5;rw [if_neg (by decide),if_neg (by decide),if_pos rfl] at HX;have H2:=hide ((unhide HS).get H (by omega) 8 (by decide) true);have hle2:=getW_le (bs:=bs) (i:=g3) (k:=8) (sg:=true) (by omega);generalize getW bs g3 8 true=y at *;obtain ⟨y1,y2,y3⟩:=y;simp only at H2 HX hle2;clear HS;go_wp2_with fail;refine (unhide H2).mono ?_;rintro e w2 ⟨rfl,s2⟩;have S2:=hide s2;clear s2 H2;obtain ⟨⟨x0,x1,x2,x3,x4⟩,fx,⟨r0,r1,r2,r3,r4⟩,fr⟩:=(unhide S2).cells;simp only at x0 x1 x2 x3 x4;have S3:=hide ((unhide S2).set (y:=⟨5,[],y1,0,0⟩) H 2 (.int .i64 y1) rfl);clear S2;go_upto_region 26 with fail
  generalize w2.setCell ⟨q,2,none⟩ (.int .i64 y1)=W3 at *;clear x0 x1 x2 x3 x4 fx r0 r1 r2 r3 r4 fr;obtain ⟨⟨x0,x1,x2,x3,x4⟩,fx,⟨r0,r1,r2,r3,r4⟩,fr⟩:=(unhide S3).cells;simp only at x0 x1 x2 x3 x4;have E:=hide ((unhide S3).fin H (.int .i64 5) (.string ⟨#[]⟩) (.int .i64 y1) (.int .i64 0) (.int .i64 0));clear S3;go_wp2;refine bodyPost_ret (ent_results Tryz.results75 _ w.heap.size _ _ _ _ _ (by exact (unhide E).2) _ rfl) rfl ?_;rw [unhide HX];exact ⟨⟨5,[],y1,0,0⟩,rfl,fun _=>rfl,(unhide E).1⟩
 by_cases t7:g1=7
 case pos=>
  subst t7;rw [if_neg (by decide),if_neg (by decide),if_neg (by decide),if_pos rfl] at HX;have H2:=hide ((unhide HS).get H (by omega) 2 (by decide) false);have hle2:=getW_le (bs:=bs) (i:=g3) (k:=2) (sg:=false) (by omega);generalize getW bs g3 2 false=y at *;obtain ⟨y1,y2,y3⟩:=y;simp only at H2 HX hle2;clear HS;go_wp2_with fail;refine (unhide H2).mono ?_;rintro e w2 ⟨rfl,s2⟩;have S2:=hide s2;clear s2 H2;obtain ⟨⟨x0,x1,x2,x3,x4⟩,fx,⟨r0,r1,r2,r3,r4⟩,fr⟩:=(unhide S2).cells;simp only at x0 x1 x2 x3 x4;have S3:=hide ((unhide S2).set (y:=⟨7,[],0,y1,0⟩) H 3 (.int .i64 y1) rfl);clear S2;go_upto_region 26 with fail
  generalize w2.setCell ⟨q,3,none⟩ (.int .i64 y1)=W3 at *;clear x0 x1 x2 x3 x4 fx r0 r1 r2 r3 r4 fr;obtain ⟨⟨x0,x1,x2,x3,x4⟩,fx,⟨r0,r1,r2,r3,r4⟩,fr⟩:=(unhide S3).cells;simp only at x0 x1 x2 x3 x4;have E:=hide ((unhide S3).fin H (.int .i64 7) (.string ⟨#[]⟩) (.int .i64 0) (.int .i64 y1) (.int .i64 0));clear S3;go_wp2;refine bodyPost_ret (ent_results Tryz.results75 _ w.heap.size _ _ _ _ _ (by exact (unhide E).2) _ rfl) rfl ?_;rw [unhide HX];exact ⟨⟨7,[],0,y1,0⟩,rfl,fun _=>rfl,(unhide E).1⟩
 by_cases t9:g1=9
 case pos=>
  subst t9;rw [if_neg (by decide),if_neg (by decide),if_neg (by decide),if_neg (by decide),if_pos (by decide)] at HX;have H2:=hide ((unhide HS).get H (by omega) 2 (by decide) false);have hle2:=getW_le (bs:=bs) (i:=g3) (k:=2) (sg:=false) (by omega);generalize getW bs g3 2 false=y at *;obtain ⟨y1,y2,y3⟩:=y;simp only at H2 HX hle2;clear HS;go_wp2_with fail;refine (unhide H2).mono ?_;rintro e w2 ⟨rfl,s2⟩;have S2:=hide s2;clear s2 H2;obtain ⟨⟨x0,x1,x2,x3,x4⟩,fx,⟨r0,r1,r2,r3,r4⟩,fr⟩:=(unhide S2).cells;simp only at x0 x1 x2 x3 x4;have S3:=hide ((unhide S2).set (y:=⟨9,[],0,y1,0⟩) H 3 (.int .i64 y1) rfl);clear S2;go_upto_region 24 with fail
  generalize w2.setCell ⟨q,3,none⟩ (.int .i64 y1)=W3 at *;clear x0 x1 x2 x3 x4 fx r0 r1 r2 r3 r4 fr
  by_cases h2:y2=0
  case neg=>
   have h2':(y2==0)=false:=by simpa using h2
   rw [if_pos h2] at HX;obtain ⟨⟨x0,x1,x2,x3,x4⟩,fx,⟨r0,r1,r2,r3,r4⟩,fr⟩:=(unhide S3).cells;simp only at x0 x1 x2 x3 x4;have E:=hide ((unhide S3).fin H (.int .i64 9) (.string ⟨#[]⟩) (.int .i64 0) (.int .i64 y1) (.int .i64 0));clear S3;go_wp2;refine bodyPost_ret (ent_results Tryz.results75 _ w.heap.size _ _ _ _ _ (by exact (unhide E).2) _ rfl) rfl ?_;rw [unhide HX];exact ⟨⟨9,[],0,y1,0⟩,rfl,fun h=>absurd h h2,(unhide E).1⟩
  subst h2;rw [if_neg (by simp)] at HX;have H4:=hide ((unhide S3).get H (by omega) 2 (by decide) false);generalize getW bs y3 2 false=u at *;obtain ⟨u1,u2,u3⟩:=u;simp only at H4 HX;clear S3;go_wp2_with fail;refine (unhide H4).mono ?_;rintro e w5 ⟨rfl,s5⟩;have S5:=hide s5;clear s5 H4;obtain ⟨⟨x0,x1,x2,x3,x4⟩,fx,⟨r0,r1,r2,r3,r4⟩,fr⟩:=(unhide S5).cells;simp only at x0 x1 x2 x3 x4;have S6:=hide ((unhide S5).set (y:=⟨9,[],0,y1,u1⟩) H 4 (.int .i64 u1) rfl);clear S5;go_upto_region 26 with fail
  generalize w5.setCell ⟨q,4,none⟩ (.int .i64 u1)=W6 at *;clear x0 x1 x2 x3 x4 fx r0 r1 r2 r3 r4 fr;obtain ⟨⟨x0,x1,x2,x3,x4⟩,fx,⟨r0,r1,r2,r3,r4⟩,fr⟩:=(unhide S6).cells;simp only at x0 x1 x2 x3 x4;have E:=hide ((unhide S6).fin H (.int .i64 9) (.string ⟨#[]⟩) (.int .i64 0) (.int .i64 y1) (.int .i64 u1));clear S6;go_wp2;refine bodyPost_ret (ent_results Tryz.results75 _ w.heap.size _ _ _ _ _ (by exact (unhide E).2) _ rfl) rfl ?_;rw [unhide HX];exact ⟨⟨9,[],0,y1,u1⟩,rfl,fun _=>rfl,(unhide E).1⟩
 by_cases t10:g1=10
 case pos=>
  subst t10;rw [if_neg (by decide),if_neg (by decide),if_neg (by decide),if_neg (by decide),if_pos (by decide)] at HX;have H2:=hide ((unhide HS).get H (by omega) 2 (by decide) false);have hle2:=getW_le (bs:=bs) (i:=g3) (k:=2) (sg:=false) (by omega);generalize getW bs g3 2 false=y at *;obtain ⟨y1,y2,y3⟩:=y;simp only at H2 HX hle2;clear HS;go_wp2_with fail;refine (unhide H2).mono ?_;rintro e w2 ⟨rfl,s2⟩;have S2:=hide s2;clear s2 H2;obtain ⟨⟨x0,x1,x2,x3,x4⟩,fx,⟨r0,r1,r2,r3,r4⟩,fr⟩:=(unhide S2).cells;simp only at x0 x1 x2 x3 x4;have S3:=hide ((unhide S2).set (y:=⟨10,[],0,y1,0⟩) H 3 (.int .i64 y1) rfl);clear S2;go_upto_region 24 with fail
  generalize w2.setCell ⟨q,3,none⟩ (.int .i64 y1)=W3 at *;clear x0 x1 x2 x3 x4 fx r0 r1 r2 r3 r4 fr
  by_cases h2:y2=0
  case neg=>
   have h2':(y2==0)=false:=by simpa using h2
   rw [if_pos h2] at HX;obtain ⟨⟨x0,x1,x2,x3,x4⟩,fx,⟨r0,r1,r2,r3,r4⟩,fr⟩:=(unhide S3).cells;simp only at x0 x1 x2 x3 x4;have E:=hide ((unhide S3).fin H (.int .i64 10) (.string ⟨#[]⟩) (.int .i64 0) (.int .i64 y1) (.int .i64 0));clear S3;go_wp2;refine bodyPost_ret (ent_results Tryz.results75 _ w.heap.size _ _ _ _ _ (by exact (unhide E).2) _ rfl) rfl ?_;rw [unhide HX];exact ⟨⟨10,[],0,y1,0⟩,rfl,fun h=>absurd h h2,(unhide E).1⟩
  subst h2;rw [if_neg (by simp)] at HX;have H4:=hide ((unhide S3).get H (by omega) 2 (by decide) false);generalize getW bs y3 2 false=u at *;obtain ⟨u1,u2,u3⟩:=u;simp only at H4 HX;clear S3;go_wp2_with fail;refine (unhide H4).mono ?_;rintro e w5 ⟨rfl,s5⟩;have S5:=hide s5;clear s5 H4;obtain ⟨⟨x0,x1,x2,x3,x4⟩,fx,⟨r0,r1,r2,r3,r4⟩,fr⟩:=(unhide S5).cells;simp only at x0 x1 x2 x3 x4;have S6:=hide ((unhide S5).set (y:=⟨10,[],0,y1,u1⟩) H 4 (.int .i64 u1) rfl);clear S5;go_upto_region 26 with fail
  generalize w5.setCell ⟨q,4,none⟩ (.int .i64 u1)=W6 at *;clear x0 x1 x2 x3 x4 fx r0 r1 r2 r3 r4 fr;obtain ⟨⟨x0,x1,x2,x3,x4⟩,fx,⟨r0,r1,r2,r3,r4⟩,fr⟩:=(unhide S6).cells;simp only at x0 x1 x2 x3 x4;have E:=hide ((unhide S6).fin H (.int .i64 10) (.string ⟨#[]⟩) (.int .i64 0) (.int .i64 y1) (.int .i64 u1));clear S6;go_wp2;refine bodyPost_ret (ent_results Tryz.results75 _ w.heap.size _ _ _ _ _ (by exact (unhide E).2) _ rfl) rfl ?_;rw [unhide HX];exact ⟨⟨10,[],0,y1,u1⟩,rfl,fun _=>rfl,(unhide E).1⟩
 by_cases t12:g1=12
 case pos=>
  subst t12;rw [if_neg (by decide),if_neg (by decide),if_neg (by decide),if_neg (by decide),if_pos (by decide)] at HX;have H2:=hide ((unhide HS).get H (by omega) 2 (by decide) false);have hle2:=getW_le (bs:=bs) (i:=g3) (k:=2) (sg:=false) (by omega);generalize getW bs g3 2 false=y at *;obtain ⟨y1,y2,y3⟩:=y;simp only at H2 HX hle2;clear HS;go_wp2_with fail;refine (unhide H2).mono ?_;rintro e w2 ⟨rfl,s2⟩;have S2:=hide s2;clear s2 H2;obtain ⟨⟨x0,x1,x2,x3,x4⟩,fx,⟨r0,r1,r2,r3,r4⟩,fr⟩:=(unhide S2).cells;simp only at x0 x1 x2 x3 x4;have S3:=hide ((unhide S2).set (y:=⟨12,[],0,y1,0⟩) H 3 (.int .i64 y1) rfl);clear S2;go_upto_region 24 with fail
  generalize w2.setCell ⟨q,3,none⟩ (.int .i64 y1)=W3 at *;clear x0 x1 x2 x3 x4 fx r0 r1 r2 r3 r4 fr
  by_cases h2:y2=0
  case neg=>
   have h2':(y2==0)=false:=by simpa using h2
   rw [if_pos h2] at HX;obtain ⟨⟨x0,x1,x2,x3,x4⟩,fx,⟨r0,r1,r2,r3,r4⟩,fr⟩:=(unhide S3).cells;simp only at x0 x1 x2 x3 x4;have E:=hide ((unhide S3).fin H (.int .i64 12) (.string ⟨#[]⟩) (.int .i64 0) (.int .i64 y1) (.int .i64 0));clear S3;go_wp2;refine bodyPost_ret (ent_results Tryz.results75 _ w.heap.size _ _ _ _ _ (by exact (unhide E).2) _ rfl) rfl ?_;rw [unhide HX];exact ⟨⟨12,[],0,y1,0⟩,rfl,fun h=>absurd h h2,(unhide E).1⟩
  subst h2;rw [if_neg (by simp)] at HX;have H4:=hide ((unhide S3).get H (by omega) 2 (by decide) false);generalize getW bs y3 2 false=u at *;obtain ⟨u1,u2,u3⟩:=u;simp only at H4 HX;clear S3;go_wp2_with fail;refine (unhide H4).mono ?_;rintro e w5 ⟨rfl,s5⟩;have S5:=hide s5;clear s5 H4;obtain ⟨⟨x0,x1,x2,x3,x4⟩,fx,⟨r0,r1,r2,r3,r4⟩,fr⟩:=(unhide S5).cells;simp only at x0 x1 x2 x3 x4;have S6:=hide ((unhide S5).set (y:=⟨12,[],0,y1,u1⟩) H 4 (.int .i64 u1) rfl);clear S5;go_upto_region 26 with fail
  generalize w5.setCell ⟨q,4,none⟩ (.int .i64 u1)=W6 at *;clear x0 x1 x2 x3 x4 fx r0 r1 r2 r3 r4 fr;obtain ⟨⟨x0,x1,x2,x3,x4⟩,fx,⟨r0,r1,r2,r3,r4⟩,fr⟩:=(unhide S6).cells;simp only at x0 x1 x2 x3 x4;have E:=hide ((unhide S6).fin H (.int .i64 12) (.string ⟨#[]⟩) (.int .i64 0) (.int .i64 y1) (.int .i64 u1));clear S6;go_wp2;refine bodyPost_ret (ent_results Tryz.results75 _ w.heap.size _ _ _ _ _ (by exact (unhide E).2) _ rfl) rfl ?_;rw [unhide HX];exact ⟨⟨12,[],0,y1,u1⟩,rfl,fun _=>rfl,(unhide E).1⟩
 rw [if_neg t1,if_neg t3,if_neg t5,if_neg t7,if_neg (by omega)] at HX;have b1:(g1==1)=false:=by simpa using t1
 have b3:(g1==3)=false:=by simpa using t3
 have b5:(g1==5)=false:=by simpa using t5
 have b7:(g1==7)=false:=by simpa using t7
 have b9:(g1==9)=false:=by simpa using t9
 have b10:(g1==10)=false:=by simpa using t10
 have b12:(g1==12)=false:=by simpa using t12
 clear t1 t3 t5 t7 t9 t10 t12;obtain ⟨⟨x0,x1,x2,x3,x4⟩,fx,⟨r0,r1,r2,r3,r4⟩,fr⟩:=(unhide HS).cells;simp only at x0 x1 x2 x3 x4;have E:=hide ((unhide HS).fin H (.int .i64 g1) (.string ⟨#[]⟩) (.int .i64 0) (.int .i64 0) (.int .i64 0));clear HS;go_wp2;refine bodyPost_ret (ent_results Tryz.results75 _ w.heap.size _ _ _ _ _ (by exact (unhide E).2) _ rfl) rfl ?_;rw [unhide HX];exact ⟨⟨g1,[],0,0,0⟩,rfl,fun h=>absurd h (by simp),(unhide E).1⟩
end Go.Proofs.YtlabllgifkklhaaGreatDoor
