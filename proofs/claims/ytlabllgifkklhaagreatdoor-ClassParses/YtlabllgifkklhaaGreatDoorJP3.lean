/- Joined: WdG WdB PlV PlW PlP. -/
import Derived.Test.YtlabllgifkklhaaGreatDoorJP2
import Derived.Test.YtlabllgifkklhaaGreatDoorJP1
import Derived.Deep.CutBlock
import Derived.Deep.LoopGhost
import Derived.Deep.RegionHeld3
import Derived.Deep.RegionHeldLaw
import Derived.Laws.AppendOwnNone
import Derived.Deep.AppendLies
import Derived.Laws.ResultCell
set_option linter.unusedVariables false
set_option maxRecDepth 100000
namespace Go.Proofs.YtlabllgifkklhaaGreatDoor
open Go.RowKit
theorem wpB_append {w:World} {o:Oper} {a:Act} {K:Act→World→Prop} {Q:Exit→Act→World→Prop} (s x:Operand) (ho:o.op=.call { callee:=.builtin .append,args:=#[s,x],argTypes:=#[29,29] })
 (base:Nat) (v:Value) (n:Nat) (xs:List UInt8) (hs:a.eval s=v) (hown:w.ownsRow base 5 1 v n (bv xs)) (src:Option Addr) (m c:Nat) (ys:List UInt8) (hx:a.eval x=.slice src m c) (hb:Bs w src m ys) (hnil:src=none→m=0∧c=0)
 (hsm:n+m≤140737488355328) (hbase:base≤w.heap.size) (h:∀v' w',w'.ownsRow base 5 1 v' (n+m) (bv (xs++ys))→w.grownBy w' v.ownBlock→K (a.put o.dst v') w'):o.wp Tryz.prog a w K Q:=by
 obtain ⟨i0,hi,hz0,hz1,hz2⟩:=info_parts infoB;cases src with
 | none=>
  obtain ⟨rfl,rfl⟩:=hnil rfl;have h0:ys=[]:=List.eq_nil_of_length_eq_zero hb.1;subst h0;have hrun:=run_append_owned_none (P:=Tryz.prog) (w:=w) base 29 o.type 5 i0 1 Tryz.underlying29 hi v n (bv xs) hown;unfold Oper.wp;simp [execOp,ho,resolve,invoke,builtin,hs,hx,hrun,Result.andThen];exact h v w (by rw [List.append_nil];exact hown) ⟨rfl,rfl,rfl,Nat.le_refl _,fun _ _ _=>rfl⟩
 | some ad=>
  refine wp_append_own w s x 29 ho base 5 i0 (.int .u8 0) 1 1 Tryz.underlying29 hi hz0 hz1 hz2 rfl (by decide) v n (bv xs) hs hown ad m c (bv ys) hx (by rw [bv_length,hb.1];omega) (hb.at.2 ad rfl) (bv_one _) (by unfold maxLen;omega) (by omega) hbase ?_;intro v' w' h1 h2 _;exact h v' w' (by rw [bv_append];exact h1) h2
theorem stepB_append {w:World} {ops:Array Oper} {o:Oper} {a:Act} {K:Act→World→Prop} {Q:Exit→Act→World→Prop} {E:Prop} (hgd:o.guard=none) (s x:Operand) (ho:o.op=.call { callee:=.builtin .append,args:=#[s,x],argTypes:=#[29,29] })
 (base:Nat) (v:Value) (n:Nat) (xs:List UInt8) (hs:a.eval s=v) (hown:w.ownsRow base 5 1 v n (bv xs)) (src:Option Addr) (m c:Nat) (ys:List UInt8) (hx:a.eval x=.slice src m c) (hb:Bs w src m ys) (hnil:src=none→m=0∧c=0)
 (hsm:n+m≤140737488355328) (hbase:base≤w.heap.size) (h:∀v' w',w'.ownsRow base 5 1 v' (n+m) (bv (xs++ys))→w.grownBy w' v.ownBlock→K (a.put o.dst v') w') :
 if Region.wanted o (yielded ops a.tmps)=true then Oper.wp Tryz.prog o a w K Q else E:=by
 rw [if_pos (by simp [Region.wanted,hgd])];exact wpB_append s x ho base v n xs hs hown src m c ys hx hb hnil hsm hbase h
theorem Arg.blocks {w W:World} {a:Option Addr} {n c z:Nat} {bs:List UInt8} (h:Arg w a n c bs) (hfar:∀b o,a=some ⟨b,o,none⟩→0<n→b≠z) (hk:∀k,k<w.heap.size→k≠z→W.heap[k]?=w.heap[k]?):Arg W a n c bs:=by
 refine ⟨⟨h.bs.1,?_⟩,h.room,h.most,h.nil⟩
 rcases h.bs.2 with h0 | ⟨b,o,e,hB⟩
 · exact .inl h0
 · by_cases hn:n=0
   · exact .inl hn
   · refine .inr ⟨b,o,e,(fun e=>by cases e),fun ad e2 j u hu=>?_⟩
     have hcell:=hB.2 ad e2 j u hu;injection e2 with e2
     subst e2;rw [Addr.add_mid] at hcell ⊢;exact (World.cell?_of_block (a:=⟨b,o+j,none⟩) (hk b (World.block_lt_of_cell? w _ hcell) (hfar b o e (by omega)))).trans hcell
theorem getW_most {b:List UInt8} {i:Nat} {k:Int}:(getW b i k false).1≤9223372036854775807:=by
 unfold getW;split
 · rename_i hw
   split
   · show (0:Int)≤_
     omega
   · cases hv:valW ((b.drop i).take k.toNat) false with
     | none=>
      show (0:Int)≤_;omega
     | some n=>
      show n≤_;have hlt:=numB_lt ((b.drop i).take k.toNat);have hl:((b.drop i).take k.toNat).length≤k.toNat:=by rw [List.length_take];omega
      unfold valW at hv;split at hv
      · rw [if_neg (by decide)] at hv
        split at hv
        · injection hv with hv
          omega
        · cases hv
      · rename_i h8
        rw [if_neg (by simp)] at hv;injection hv with hv
        have h7:((b.drop i).take k.toNat).length≤7:=by
         obtain ⟨m,rfl,hm⟩:=wide_nat hw;omega
        have:=Nat.pow_le_pow_right (n:=256) (by omega) h7;omega
 · show (0:Int)≤_
   omega
theorem sizeEnt:(Tryz.prog.info? 55).map (·.size)=some 5:=by kernel_rfl
theorem ent_results {fn:Func} (h:fn.results=#[.cell 2 55,.tmp 3]) (W:World) (r:Nat) (c0 c1 c2 c3 c4:Value) (hb:W.heap[r]?=some (.cells #[c0,c1,c2,c3,c4] 55 (0,0))) (tmps:Array Value) (hp:tmps.getD 2 undef=.pointer (some ⟨r,0,none⟩)) :
 (results fn tmps).run Tryz.prog W=.ok (.tuple #[.agg #[c0,c1,c2,c3,c4],tmps.getD 3 undef]) W:=by
 rw [results_cell_tmp h,hp];simp [asAddr,run_loadVar_row W r 55 55 _ (0,0) _ hb Tryz.underlying55 rfl sizeEnt]
def cstV (c:Cst):Value:=.agg #[.int .i64 c.tag,.int .i64 c.n,.string ⟨c.cls.toArray⟩,.string ⟨c.name.toArray⟩,.string ⟨c.type.toArray⟩]
theorem cstC {w:World} {q:Nat} {x:Cst} {T:TypeId} {f:Nat×Nat} (h:w.heap[q]?=some (.cells #[.int .i64 x.tag,.int .i64 x.n,.string ⟨x.cls.toArray⟩,.string ⟨x.name.toArray⟩,.string ⟨x.type.toArray⟩] T f)) :
 w.cell? ⟨q,0,none⟩=some (.int .i64 x.tag)∧w.cell? ⟨q,1,none⟩=some (.int .i64 x.n)∧w.cell? ⟨q,2,none⟩=some (.string ⟨x.cls.toArray⟩)∧w.cell? ⟨q,3,none⟩=some (.string ⟨x.name.toArray⟩)∧w.cell? ⟨q,4,none⟩=some (.string ⟨x.type.toArray⟩):=
 ⟨by rw [cell_of_row _ _ _ _ _ _ h];rfl,by rw [cell_of_row _ _ _ _ _ _ h];rfl,by rw [cell_of_row _ _ _ _ _ _ h];rfl,by rw [cell_of_row _ _ _ _ _ _ h];rfl,by rw [cell_of_row _ _ _ _ _ _ h];rfl⟩
end Go.Proofs.YtlabllgifkklhaaGreatDoor
