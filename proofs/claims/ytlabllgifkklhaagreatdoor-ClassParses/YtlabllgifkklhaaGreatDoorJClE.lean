/- Classes held against one another: SameMaps, SameClass. -/
import Derived.Test.YtlabllgifkklhaaGreatDoorJP7
import Derived.Test.YtlabllgifkklhaaGreatDoorJP9
set_option linter.unusedVariables false
set_option maxRecDepth 100000
set_option maxHeartbeats 3200000
namespace Go.Proofs.YtlabllgifkklhaaGreatDoor
open Go.RowKit
theorem SameTypes_far {w:World} {s t:Sl} {l:List Ty} (hA:TysIn w s l) (hB:TysIn w t l) (W:World) (f:Below w.heap.size w W) :
 Calls Tryz.prog 71 #[s.v,t.v] W fun e w'=>e=.returned (.bool true)∧Below w.heap.size w w':=
 (SameTypes_same W s t l (hA.mono f (fun _ h=>h)) (hB.mono f (fun _ h=>h))).mono (by
  rintro e w' ⟨rfl,f'⟩;exact ⟨rfl,f.trans (f'.mono f.size)⟩)
theorem SameMaps_same (w:World) (s t:Sl) (rs ts:List MpR) (hA:LIn 3 56 mpc (MpIn w) w s rs) (hB:LIn 3 56 mpc (MpIn w) w t ts) (hm:rs.map MpR.m=ts.map MpR.m) :
 Calls Tryz.prog 35 #[s.v,t.v] w fun e w'=>e=.returned (.bool true)∧Below w.heap.size w w':=by
 obtain ⟨a,n,c⟩:=s;obtain ⟨b,m,d⟩:=t;have hs:=hA.small;have hln:=hA.ls.1;have hlm:=hB.ls.1;have hll:rs.length=ts.length:=by have:=congrArg List.length hm;simpa using this
 simp only at hln hlm hs;obtain rfl:n=m:=by omega
 have hs1:n≤140737488351232:=by omega
 have key:Hid (∀k r,rs[k]?=some r→∃q,ts[k]?=some q∧q.m=r.m∧MpIn w r∧MpIn w q):=fun k r hr=>by
  have hk:=(List.getElem?_eq_some_iff.1 hr).1;obtain ⟨q,hq⟩:∃q,ts[k]?=some q:=⟨_,List.getElem?_eq_getElem (by omega)⟩;refine ⟨q,hq,?_,hA.each r (List.mem_of_getElem? hr),hB.each q (List.mem_of_getElem? hq)⟩;have e:=congrArg (·[k]?) hm;simp only [List.getElem?_map,hr,hq,Option.map_some] at e;injection e with e
  exact e.symm
 unfold Sl.v;simp only;have HA:=hide hA.ls;have HB:=hide hB.ls;clear hA hB hs hm;go_enter Tryz.func35,Tryz.ntmps35;go_wp2
 go_loopw [5] (fun i wr=>∃k:Nat,k≤n∧i=.int .i64 k∧Below w.heap.size w wr) (fun i _=>n-(intOf i).toNat)
 case atStart=>exact ⟨0,by omega,rfl,Below.refl _ _⟩
 case round=>
  obtain ⟨k,hk,rfl,hR⟩:=hrel
  by_cases hlt:k<n
  · have hlt1:(k:Int)<(n:Int):=by omega
    obtain ⟨b1,o1,h1a,h1⟩:=Ls.row (unhide HA) (w':=w) (by show n≠0;omega);obtain ⟨b2,o2,h2a,h2⟩:=Ls.row (unhide HB) (w':=w) (by show n≠0;omega);subst h1a h2a;obtain ⟨r,hr⟩:∃r,rs[k]?=some r:=⟨_,List.getElem?_eq_getElem (by omega)⟩;obtain ⟨q,hq,hqr,m1,m2⟩:=unhide key k r hr;have KC:Hid (∀W,Below w.heap.size w W→W.cell? ⟨b1,o1+k*3,none⟩=some (.int .i64 r.m.at_)∧W.cell? ⟨b1,o1+k*3+1,none⟩=some r.loc.v∧W.cell? ⟨b1,o1+k*3+2,none⟩=some r.stk.v∧W.cell? ⟨b2,o2+k*3,none⟩=some (.int .i64 r.m.at_)∧W.cell? ⟨b2,o2+k*3+1,none⟩=some q.loc.v∧W.cell? ⟨b2,o2+k*3+2,none⟩=some q.stk.v):=fun W f=>by
     have q1:=h1 f k r hr;have q2:=h2 f k q hq;refine ⟨q1.zero,q1 1 _ rfl,q1 2 _ rfl,?_,q2 1 _ rfl,q2 2 _ rfl⟩;rw [←hqr];exact q2.zero
    have XL:=hide (SameTypes_far m1.loc (hqr▸m2.loc));have XS:=hide (SameTypes_far m1.stk (hqr▸m2.stk));have HR:=hide hR;clear h1 h2 hr hR hq hqr m1 m2;unfold Sl.v at KC XL XS;generalize r.m.at_=ra at *;generalize r.loc=rl at *;generalize r.stk=rk at *;generalize q.loc=ql at *;generalize q.stk=qk at *;obtain ⟨rl1,rl2,rl3⟩:=rl;obtain ⟨rk1,rk2,rk3⟩:=rk;obtain ⟨ql1,ql2,ql3⟩:=ql;obtain ⟨qk1,qk2,qk3⟩:=qk;simp only at KC XL XS;have XT:Hid (∀W,Below w.heap.size w W→∀v1 v2,(v1=.slice rl1 rl2 rl3∧v2=.slice ql1 ql2 ql3)∨(v1=.slice rk1 rk2 rk3∧v2=.slice qk1 qk2 qk3)→Calls Tryz.prog 71 #[v1,v2] W fun e w'=>e=.returned (.bool true)∧Below w.heap.size w w'):=fun W f v1 v2 h=>by
     rcases h with ⟨rfl,rfl⟩ | ⟨rfl,rfl⟩
     · exact unhide XL W f
     · exact unhide XS W f
    clear XL XS;go_wp2;refine wp_region_seq (fun W=>Below w.heap.size w W) (by kernel_rfl) (by kernel_rfl) ((unhide HR).drew) ?_
    repeat (first
     | (refine SeqDo.skips (by rfl) ?_;simp only [Act.put,List.setIfInBounds_toArray,List.set_cons_zero,List.set_cons_succ])
     | (refine SeqDo.yields (v:=?_) (by rfl) ?_ ?_;rotate_left;(focus ((intro W hSW;obtain ⟨c0,c1,c2,d0,d1,d2⟩:=unhide KC W hSW;go_simp) <;> with_reducible rfl));simp only [Act.put,List.setIfInBounds_toArray,List.set_cons_zero,List.set_cons_succ])
     | (refine SeqDo.does (v:=.bool true) (by rfl) (fun W hSW KK hKK=>?_) ?_;(focus (go_simp;go_wp2_with (go_at_call 71;refine (unhide XT _ hSW _ _ (by first | exact .inl ⟨rfl,rfl⟩ | exact .inr ⟨rfl,rfl⟩)).mono ?_;rintro e W' ⟨rfl,fJ⟩);exact hKK.out _ fJ));simp only [Act.put,List.setIfInBounds_toArray,List.set_cons_zero,List.set_cons_succ]))
    intro W hSW;have HR2:=hide hSW;clear hSW XT KC HR;go_wp2;go_roundw
    case rel=>exact ⟨k+1,by omega,by go_num,unhide HR2⟩
    case measure=>simp [intOf];omega
  · obtain rfl:k=n:=by omega
    have HR:=hide hR;clear hR;go_wp2;go_ret;exact ⟨rfl,unhide HR⟩
end Go.Proofs.YtlabllgifkklhaaGreatDoor
