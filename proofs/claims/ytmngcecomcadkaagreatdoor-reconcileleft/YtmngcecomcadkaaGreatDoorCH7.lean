/- Texts of one layer, one behind the other. -/
import Derived.Test.YtmngcecomcadkaaGreatDoorCH4
import Derived.Test.YtmngcecomcadkaaGreatDoorCH3
import Derived.Deep.RegionHeld3
import Derived.Lib.SliceRun
import Derived.Test.YtmngcecomcadkaaGreatDoorCH6
import Derived.Test.YtmngcecomcadkaaGreatDoorCH1
set_option maxRecDepth 100000
set_option maxHeartbeats 8000000
namespace Go.Proofs.YtmngcecomcadkaaGreatDoor
open Go.RowKit
set_option linter.unusedVariables false
theorem aaK {w:World}{v:Value}{l:List Sm.S}(h:jH w v l):∃ao cap,v=.slice ao l.length cap∧l.length≤cap∧cap≤maxLen∧(ao=none→cap=0):=by
 rcases h with⟨hv,e⟩|⟨ad,cap,hv,h1,h2,_⟩
 ·subst e;exact⟨none,0,hv,by simp,by simp,fun _=>rfl⟩
 ·exact⟨some ad,cap,hv,h1,h2,fun h=>by cases h⟩
theorem Tryz.atu:(Tryz.prog.info? 72).map (fun i=>(i.zero,i.size,i.bytes))=some (some (.agg #[.int .i64 0,.int .i64 0]),2,16):=by kernel_rfl
theorem zq {base base':Nat}{w:World}{v:Value}{l:List Sm.S}(h:jU base w v l)(hb:base'≤base):jU base' w v l:=by
 refine⟨h.1,?_⟩
 rcases h.2 with h|⟨g,cap,cur,hv,h1,r⟩
 ·exact .inl h
 ·exact .inr ⟨g,cap,cur,hv,by omega,r⟩
theorem jr {base:Nat}{w w':World}{v:Value}{l:List Sm.S}(h:jU base w v l)(hb:Below w.heap.size w w'):jU base w' v l:=h.agree fun b hb'=>hb.block b (h.lt b hb').2
theorem pF {w:World}{ops:Array Oper}{rest:List Oper}{o:Oper}{a:Act}{Q:Exit→Act→World→Prop}(hgd:o.guard=none)(s x:Operand)
  (ho:o.op=.call {callee:=.builtin .append,args:=#[s,x],argTypes:=#[24,24]})
  (base:Nat) (v:Value) (l:List Sm.S) (hs:a.eval s=v) (hown:jU base w v l) (vx:Value) (m:List Sm.S) (hx:a.eval x=vx) (his:jH w vx m)
  (hlen:(l.length+m.length)*16≤140737488355328) (hbase:base≤w.heap.size)
  (h:∀v' w',jU base w' v' (l++m)→Below base w w'→w.grownBy w' v.ownBlock→wpList Tryz.prog ops Q rest (a.put o.dst v') w'):wpList Tryz.prog ops Q (o::rest) a w:=
 vU yQ 2 16 yo (by decide) (by decide) (.agg #[.int .i64 0,.int .i64 0]) rfl hgd s x 24 ho 72 base Tryz.underlying24 Tryz.atu v l hs hown vx m hx his (ahi m) hlen hbase
  fun v' w' h1 h2=>h v' w' h1 ((Below.refl _ _).grown h2 hbase fun k hk=>(dM.lt hown k hk).1) h2
theorem zN (w:World)(cs:Array Value)(n:Nat)(l:List Sm.S)(hn:l.length=n)(h:cs.toList=gcells yQ l)(hm:n≤maxLen):
  ∃W,w.alloc (.cells cs 72)=W∧W.heap.size=w.heap.size+1∧Below w.heap.size w W∧jU w.heap.size W (.slice (some ⟨w.heap.size,0,none⟩) n n) l:=rR yQ 2 yo 72 w cs n l hn h hm
theorem aov (va vb:Value)(a b:List Sm.S)(ae be:Int)(w:World)(ha:jH w va a)(hb:jH w vb b)(hla:a.length≤140737488355328)(hlb:b.length≤140737488355328)(oa:Sm.Ok a ae)(ob:Sm.Ok b be):
  Calls Tryz.prog 168 #[va,.int .i64 ae,vb,.int .i64 be] w fun E w'=>∃n,E=.returned (.int .i64 n)∧Sm.Fk a ae b be n∧∃m,w'=w.drewN m:=by
 have oa0:=oa.1
 have oa1:=oa.2.1
 have ob0:=ob.1
 have ob1:=ob.2.1
 have OA:=hide oa
 have OB:=hide ob
 clear oa ob
 by_cases hz:a.length=0∨b.length=0
 ·obtain⟨aa,ca,rfl,_,_⟩:=ha.shape
  obtain⟨ab,cb,rfl,_,_⟩:=hb.shape
  have jl:=(Sm.aee a b ae be).none OA.out OB.out hz
  obtain⟨n,hn⟩:∃n,(if be<ae then be else ae)=n:=⟨_,rfl⟩
  have hmn:min ae be=n:=by rw[←hn];split<;>omega
  rw[hmn]at jl
  have sG:=hide jl
  generalize hp:a.length=p at*
  generalize hq:b.length=q at*
  clear ha hb jl hmn hp hq
  go_enter Tryz.func168,Tryz.ntmps168
  go_wp2
  go_step3
  go_wp2
  go_step3
  go_wp2
  go_loopw [1,3,9,10] (fun av bv iv jv wr=>av=.int .i64 ae∧bv=.int .i64 be∧iv=.int .i64 ((p:Int)-1)∧jv=.int .i64 ((q:Int)-1)∧wr=w) (fun _ _ _ _ _=>0)
  case atStart=>exact⟨rfl,rfl,rfl,rfl,rfl⟩
  case round=>
   obtain⟨rfl,rfl,rfl,rfl,rfl⟩:=hrel
   by_cases hp0:0≤(p:Int)-1
   ·have hq0:¬0≤(q:Int)-1:=by omega
    clear hz
    go_wp2
    try rw[Exit.noGoto_ret]
    go_ret
    exact⟨n,rfl,sG.out,0,rfl⟩
   ·clear hz
    go_wp2
    try rw[Exit.noGoto_ret]
    go_ret
    exact⟨n,rfl,sG.out,0,rfl⟩
 obtain⟨ba,fa,ca,rfl,_,_,hBa,hca⟩:=j6 ha (by omega)
 obtain⟨bb,fb,cb,rfl,_,_,hBb,hcb⟩:=j6 hb (by omega)
 have HA:=hide hca
 have HB:=hide hcb
 have ST:=hide (Sm.aee a b ae be)
 generalize hp:a.length=pa at*
 generalize hq:b.length=qb at*
 have HP:=hide hp
 have HQ:=hide hq
 clear ha hb hca hcb hp hq
 go_enter Tryz.func168,Tryz.ntmps168
 go_wp2
 go_step3
 go_wp2
 go_step3
 go_wp2
 go_loopw [1,3,9,10] (fun av bv iv jv wr=>∃(p q:Nat) (x y:Int) (m:Nat),av=.int .i64 x∧bv=.int .i64 y∧iv=.int .i64 ((p:Int)-1)∧jv=.int .i64 ((q:Int)-1)∧Hid (Sm.Bk a ae b be p x q y)∧wr=w.drewN m) (fun _ _ iv jv _=>(intOf iv+1).toNat+(intOf jv+1).toNat)
 case atStart=>exact⟨pa,qb,ae,be,0,rfl,rfl,rfl,rfl,ST,rfl⟩
 case round=>
  obtain⟨p,q,x,y,m,rfl,rfl,hiv,hjv,BK,rfl⟩:=hrel
  obtain⟨n,hn⟩:∃n,(if y<x then y else x)=n:=⟨_,rfl⟩
  have hmn:min x y=n:=by rw[←hn];split<;>omega
  have hnx:n≤x:=by omega
  have hny:n≤y:=by omega
  have HM:=hide hmn
  clear hmn
  rcases Nat.eq_zero_or_pos p with hp|hp
  ·have jl:=BK.out.none OA.out OB.out (.inl hp)
   rw[HM.out]at jl
   have sG:=hide jl
   subst hp
   subst hiv hjv
   clear jl
   go_wp2
   try rw[Exit.noGoto_ret]
   go_ret
   exact⟨n,rfl,sG.out,m,rfl⟩
  obtain⟨i,rfl⟩:∃i,p=i+1:=⟨p-1,by omega⟩
  rw[show(((i+1:Nat):Int))-1=(i:Int)by omega]at hiv
  subst hiv
  rcases Nat.eq_zero_or_pos q with hq|hq
  ·have jl:=BK.out.none OA.out OB.out (.inr hq)
   rw[HM.out]at jl
   have sG:=hide jl
   subst hq
   subst hjv
   have hi0:(0:Int)≤i:=by omega
   clear jl
   go_wp2
   try rw[Exit.noGoto_ret]
   go_ret
   exact⟨n,rfl,sG.out,m,rfl⟩
  obtain⟨j,rfl⟩:∃j,q=j+1:=⟨q-1,by omega⟩
  rw[show(((j+1:Nat):Int))-1=(j:Int)by omega]at hjv
  subst hjv
  have hpa:=BK.out.pa
  have hqb:=BK.out.qb
  rw[HP.out]at hpa
  rw[HQ.out]at hqb
  obtain⟨s,hs⟩:=kV (l:=a) (k:=i) (by have:=HP.out;omega)
  obtain⟨t,ht⟩:=kV (l:=b) (k:=j) (by have:=HQ.out;omega)
  obtain⟨s0,s1⟩:=HA.out i s hs
  obtain⟨t0,t1⟩:=HB.out j t ht
  have bs:=Sm.uV a ae 0 0 OA.out.2.2.2.1 i s hs
  have bt:=Sm.uV b be 0 0 OB.out.2.2.2.1 j t ht
  obtain⟨_,_,bs1,bs2⟩:=bs
  obtain⟨_,_,bt1,bt2⟩:=bt
  have HS:=hide hs
  have zm:=hide ht
  have hi0:(0:Int)≤i:=by omega
  have hj0:(0:Int)≤j:=by omega
  have hip:(i:Int)<pa:=by omega
  have hjq:(j:Int)<qb:=by omega
  clear hs ht hp hq
  by_cases q1:t.1<s.1
  ·have BK2:=hide (BK.out.drop OA.out OB.out HS.out zm.out (.inl q1))
   clear BK HM HS zm
   go_wp2
   go_quiet (fail)
   go_wp2
   go_roundw
   case rel=>exact⟨i,j+1,s.2-1,y,_,rfl,rfl,rfl,by rw[show(((j+1:Nat):Int))-1=(j:Int)by omega],BK2,rfl⟩
   case measure=>simp[intOf]
  by_cases q2:n<s.2
  ·have BK2:=hide (BK.out.drop OA.out OB.out HS.out zm.out (.inr (by have:=HM.out;omega)))
   clear BK HM HS zm
   go_wp2
   go_quiet (fail)
   go_wp2
   go_roundw
   case rel=>exact⟨i,j+1,s.2-1,y,_,rfl,rfl,rfl,by rw[show(((j+1:Nat):Int))-1=(j:Int)by omega],BK2,rfl⟩
   case measure=>simp[intOf]
  by_cases q3:s.1<t.1
  ·have BK2:=hide (BK.out.swap.drop OB.out OA.out zm.out HS.out (.inl q3)).swap
   clear BK HM HS zm
   go_wp2
   go_quiet (fail)
   go_wp2
   go_quiet (fail)
   go_wp2
   go_roundw
   case rel=>exact⟨i+1,j,x,t.2-1,_,rfl,rfl,by rw[show(((i+1:Nat):Int))-1=(i:Int)by omega],rfl,BK2,rfl⟩
   case measure=>simp[intOf]
  by_cases q4:n<t.2
  ·have BK2:=hide (BK.out.swap.drop OB.out OA.out zm.out HS.out (.inr (by have:=HM.out;omega))).swap
   clear BK HM HS zm
   go_wp2
   go_quiet (fail)
   go_wp2
   go_quiet (fail)
   go_wp2
   go_roundw
   case rel=>exact⟨i+1,j,x,t.2-1,_,rfl,rfl,by rw[show(((i+1:Nat):Int))-1=(i:Int)by omega],rfl,BK2,rfl⟩
   case measure=>simp[intOf]
  have jl:=BK.out.found OA.out OB.out HS.out zm.out q1 q3 (by have:=HM.out;omega) (by have:=HM.out;omega)
  rw[HM.out]at jl
  have sG:=hide jl
  clear jl BK HS zm
  go_wp2
  go_quiet (fail)
  go_wp2
  go_quiet (fail)
  go_wp2
  try rw[Exit.noGoto_ret]
  go_ret
  exact⟨n,rfl,sG.out,_,rfl⟩
theorem Tryz.aum (op:BinOp)(x y:Operand)(xs ys:Array Value)(w:World):(eqGuard op 72 x y (.agg xs) (.agg ys)).run Tryz.prog w=.ok () w:=run_eqGuard_agg w op 72 x y xs ys (by kernel_rfl)
theorem Tryz.axN (a b c d:Int)(w:World):(binOp .neq 72 (.agg #[.int .i64 a,.int .i64 b]) (.agg #[.int .i64 c,.int .i64 d])).run Tryz.prog w=.ok (.bool (!((a==c)&&(b==d)))) w:=by
 rw[run_neq_struct,run_equalIn_agg w 9999 72 _ _ (by kernel_rfl) (by kernel_rfl)]
 unfold Program.fieldsOf
 rw[Tryz.underlying72]
 simp[Op.eqFields,go_sem,Tryz.underlying3]
 by_cases h1:a=c<;>by_cases h2:b=d<;>simp[h1,h2]
theorem ar5 (va vb:Value)(xs ys:List Sm.S)(w:World)(ha:jH w va xs)(hb:jH w vb ys)(hl:xs.length≤140737488355328)(hl':ys.length≤140737488355328):
  Calls Tryz.prog 164 #[va,vb] w fun e w'=>e=.returned (.bool (decide (xs=ys)))∧∃m,w'=w.drewN m:=by
 obtain⟨ans,dU⟩:∃r,decide (xs=ys)=r:=⟨_,rfl⟩
 rw[dU]
 have HA:=hide dU
 clear dU
 by_cases hne:xs.length=ys.length
 ·by_cases hz:0<xs.length
  ·obtain⟨b1,o1,c1,rfl,_,_,hB1,hc1⟩:=j6 ha hz
   obtain⟨b2,o2,c2,rfl,_,_,hB2,hc2⟩:=j6 hb (by omega)
   have ht:((xs.length:Int) !=(ys.length:Int))=false:=by simp;omega
   have HL:=hide hne
   have HC1:=hide hc1
   have HC2:=hide hc2
   clear hne ha hb hc1 hc2
   generalize hn:xs.length=n at*
   generalize hm:ys.length=m at*
   have HN:=hide hn
   have HM:=hide hm
   clear hn hm
   go_enter Tryz.func164,Tryz.ntmps164
   go_wp2
   go_loopw [13] (fun i wr=>∃(k:Nat),k≤n∧i=.int .i64 k∧Hid (xs.take k=ys.take k)∧∃m,wr=w.drewN m) (fun i _=>n-(intOf i).toNat)
   case atStart=>exact⟨0,by omega,rfl,hide rfl,0,rfl⟩
   case round=>
    obtain⟨k,hk,rfl,HT,mm,rfl⟩:=hrel
    by_cases hlt:k<n
    ·obtain⟨o,ho⟩:=kV (l:=xs) (k:=k) (by have:=HN.out;omega)
     obtain⟨q,hq⟩:=kV (l:=ys) (k:=k) (by have:=HM.out;have:=HL.out;omega)
     obtain⟨d0,d1⟩:=HC1.out k o ho
     obtain⟨e0,e1⟩:=HC2.out k q hq
     have hlt':(k:Int)<n:=by omega
     have hlt2:(k:Int)<m:=by have:=HL.out;omega
     have HO:=hide ho
     have HQ:=hide hq
     clear ho hq
     have hnq:=Tryz.axN o.1 o.2 q.1 q.2
     have hgd:=Tryz.aum
     by_cases h1:o=q
     ·have HT2:Hid (xs.take (k+1)=ys.take (k+1)):=hide (by
       rw[List.take_add_one,List.take_add_one,HT.out,HO.out,HQ.out,h1])
      rw[show((o.1==q.1)&&(o.2==q.2))=true by simp[h1]]at hnq
      clear h1
      go_wp2
      go_quiet (fail)
      go_wp2
      go_roundw
      case rel=>exact⟨k+1,by omega,by go_num,HT2,_,rfl⟩
      case measure=>simp[intOf];omega
     ·have hfo:=HA.out
      rw[decide_eq_false fun e=>by
       have h3:=HO.out
       rw[e,HQ.out]at h3
       exact h1 (by rw[Option.some.inj h3])]at hfo
      subst hfo
      rw[show((o.1==q.1)&&(o.2==q.2))=false by
       by_cases e1:o.1=q.1
       ·have:o.2≠q.2:=fun e2=>h1 (Prod.ext e1 e2)
        simp[this]
       ·simp[e1]]at hnq
      clear h1 HA
      go_wp2
      go_quiet (fail)
      go_wp2
      go_ret
      exact⟨rfl,_,by first|rfl|exact World.drewN_drewN _ _ _⟩
    ·have hlt':¬(k:Int)<n:=by omega
     have hfo:=HA.out
     rw[decide_eq_true (by
      have h1:=HT.out
      rw[List.take_of_length_le (by have:=HN.out;omega),List.take_of_length_le (by have:=HN.out;have:=HM.out;have:=HL.out;omega)]at h1
      exact h1)]at hfo
     subst hfo
     clear HA
     go_wp2
     go_ret
     exact⟨rfl,mm,rfl⟩
  ·have hx:xs=[]:=List.eq_nil_of_length_eq_zero (by omega)
   have hy:ys=[]:=List.eq_nil_of_length_eq_zero (by omega)
   subst hx hy
   obtain⟨a1,c1,rfl,_,_⟩:=ha.shape
   obtain⟨a2,c2,rfl,_,_⟩:=hb.shape
   have hfo:=HA.out
   simp at hfo
   subst hfo
   simp only[List.length_nil]
   clear hl hl' hne hz ha hb HA
   go_enter Tryz.func164,Tryz.ntmps164
   go_wp2
   refine wp_loop_rounds 1 ?_
   rw[rounds_succ]
   go_wp2
   go_ret
   exact⟨rfl,0,rfl⟩
 ·obtain⟨a1,c1,rfl,_,_⟩:=ha.shape
  obtain⟨a2,c2,rfl,_,_⟩:=hb.shape
  have ht:((xs.length:Int) !=(ys.length:Int))=true:=by simp;omega
  have hfo:=HA.out
  rw[decide_eq_false fun h=>hne (by rw[h])]at hfo
  subst hfo
  clear hne HA
  go_enter Tryz.func164,Tryz.ntmps164
  go_wp2
  go_ret
  exact⟨rfl,0,rfl⟩
theorem asf (va vb:Value)(r s:List Cw)(w:World)(ha:di w va r)(hb:di w vb s)(fa:dL r)(fb:dL s)(hl:r.length≤140737488355328)(hl':s.length≤140737488355328):
  Calls Tryz.prog 165 #[va,vb,.func (.func 166) #[] #[]] w fun E w'=>E=.returned (.bool (sameV (ay r) (ay s)))∧Below w.heap.size w w':=by
 obtain⟨ans,dU⟩:∃x,sameV (ay r) (ay s)=x:=⟨_,rfl⟩
 rw[dU]
 have HA:=hide dU
 clear dU
 obtain⟨a1,p1,hva,_,_⟩:=ha.1.shape
 obtain⟨a2,p2,hvb,_,_⟩:=hb.1.shape
 by_cases hne:r.length=s.length
 ·have C1:=hide (iP ha)
  have C2:=hide (iP hb)
  have I1:=hide ha.2
  have I2:=hide hb.2
  have F1:=hide fa
  have F2:=hide fb
  have HL:=hide hne
  have ht:((r.length:Int) !=(s.length:Int))=false:=by simp;omega
  subst hva hvb
  generalize hn:r.length=n at*
  generalize hm:s.length=m at*
  have HN:=hide hn
  have HM:=hide hm
  clear ha hb fa fb hne hn hm
  go_enter Tryz.func165,Tryz.ntmps165
  go_wp2
  go_loopw [17] (fun i wr=>∃(k:Nat),k≤n∧i=.int .i64 k∧Hid ((ay r).take k=(ay s).take k)∧Below w.heap.size w wr) (fun i _=>n-(intOf i).toNat)
  case atStart=>exact⟨0,by omega,rfl,hide rfl,Below.refl _ _⟩
  case round=>
   obtain⟨k,hk,rfl,HT,aF⟩:=hrel
   have sz:=aF.size
   by_cases hlt:k<n
   ·obtain⟨b1,o1,c1,hv1,hB1,hc1⟩:=C1.out (by have:=HN.out;omega)
    obtain⟨b2,o2,c2,hv2,hB2,hc2⟩:=C2.out (by have:=HM.out;have:=HL.out;omega)
    simp only[Value.slice.injEq,true_and]at hv1 hv2
    obtain⟨rfl,rfl⟩:=hv1
    obtain⟨rfl,rfl⟩:=hv2
    obtain⟨c,hc⟩:=kV (l:=r) (k:=k) (by have:=HN.out;omega)
    obtain⟨d,hd⟩:=kV (l:=s) (k:=k) (by have:=HM.out;have:=HL.out;omega)
    obtain⟨x0,x1,x2⟩:=vY hc1 aF hB1 hc
    have i1:=(I1.out c (List.mem_of_getElem? hc)).1.below aF
    have i2:=(I2.out d (List.mem_of_getElem? hd)).1.below aF
    have l1:=(F1.out c (List.mem_of_getElem? hc)).2
    have l2:=(F2.out d (List.mem_of_getElem? hd)).2
    have hlt':(k:Int)<n:=by omega
    have hlt2:(k:Int)<m:=by have:=HL.out;omega
    obtain⟨ga,ea,mX,_,_⟩:=i1.shape
    obtain⟨gb,eb,hvd,_,_⟩:=i2.shape
    obtain⟨V,hV,hV2,jX,bf,bV,v0,v1,v2⟩:=fJ wr 35 (.int .i64 0) (.int .i64 0) (.slice none 0 0) (.int .i64 c.e) (.int .i64 c.n) c.v
    have gM:Below w.heap.size w V:=aF.trans (bf.mono (by omega))
    obtain⟨y0,y1,y2⟩:=vY hc2 gM hB2 hd
    obtain⟨U,hU,hU2,szU,am1,bU,u0,u1,u2⟩:=fJ V 35 (.int .i64 0) (.int .i64 0) (.slice none 0 0) (.int .i64 d.e) (.int .i64 d.n) d.v
    rw[jX]at hU u0 u1 u2
    have dN:=(am1.block wr.heap.size (by omega)).trans bV
    have z0:=ai dN 0 rfl
    have z1:=ai dN 1 rfl
    have z2:=ai dN 2 rfl
    have aed:Below wr.heap.size wr U:=bf.trans (am1.mono (by omega))
    have sC:V.setCell ⟨wr.heap.size,2,none⟩ c.v=V:=aJ bV (j:=2) rfl
    have X:=hide (alv c.e c.n _ c.l d.e d.n _ d.l U (i1.below aed) (i2.below aed) (by omega) (by omega))
    have HC:=hide hc
    have HD:=hide hd
    obtain⟨sm,hsm⟩:∃x,iC c.e c.n c.l d.e d.n d.l=x:=⟨_,rfl⟩
    rw[hsm]at X
    have HSM:=hide hsm
    have dE:=aF.trans (aed.mono (by omega))
    have szB:=aed.size
    clear hc hd hc1 hc2 l1 l2 hsm bV dN bU gM aed bf am1 i1 i2 sC
    rw[mX]at x2 hV hV2 v2 z2 X
    rw[hvd]at y2 hU hU2 u2 X
    clear mX hvd
    unfold bK at X
    cases sm
    ·have hfo:=HA.out
     rw[uZ fun e=>by
      have h1:(ay r)[k]? =some c.c:=by rw[kD,HC.out];rfl
      rw[e,kD,HD.out]at h1
      have h2:d.c=c.c:=by simpa using h1
      obtain⟨q1,q2,q3⟩:=ama h2
      have:=HSM.out
      rw[oO.2 ⟨q1.symm,q2.symm,q3.symm⟩]at this
      simp at this]at hfo
     subst hfo
     go_wp2_with (go_at_call 166;refine X.out.mono ?_;rintro E w3 ⟨rfl,aD⟩)
     go_ret
     exact⟨rfl,dE.trans (aD.mono (by omega))⟩
    ·have HT2:Hid ((ay r).take (k+1)=(ay s).take (k+1)):=hide (by
      obtain⟨q1,q2,q3⟩:=oO.1 HSM.out
      rw[List.take_add_one,List.take_add_one,HT.out,kD,kD,HC.out,HD.out]
      simp[Cw.c,q1,q2,q3])
     go_wp2_with (go_at_call 166;refine X.out.mono ?_;rintro E w3 ⟨rfl,aD⟩)
     have zZ:=dE.trans (aD.mono (by omega))
     go_roundw
     case rel=>exact⟨k+1,by omega,by go_num,HT2,zZ⟩
     case measure=>simp[intOf];omega
   ·have hlt':¬(k:Int)<n:=by omega
    have hfo:=HA.out
    rw[lV.2 (by
     have h1:=HT.out
     rw[List.take_of_length_le (by rw[fF,HN.out];omega),List.take_of_length_le (by rw[fF,HM.out];have:=HL.out;omega)]at h1
     exact h1)]at hfo
    subst hfo
    clear HA
    go_wp2
    go_ret
    exact⟨rfl,aF⟩
 ·have ht:((r.length:Int) !=(s.length:Int))=true:=by simp;omega
  have hfo:=HA.out
  rw[uZ fun e=>hne (by rw[←fF r,←fF s,e])]at hfo
  subst hfo hva hvb
  clear hne HA
  go_enter Tryz.func165,Tryz.ntmps165
  go_wp2
  go_ret
  exact⟨rfl,Below.refl _ _⟩
theorem nQ {x y:Int}{ans:Bool}(h:x≠y→ans=false):(x==y)=true∨((x==y)=false∧ans=false):=by
 by_cases e:x=y
 ·exact .inl (by simp[e])
 ·exact .inr ⟨by simpa using e,h e⟩
theorem as6 {a b:Mm.gQ}(h1:(a.k==b.k)=true)(h2:(a.e==b.e)=true)(h3:(a.r==b.r)=true)(h4:(a.n==b.n)=true)(h5:(a.f==b.f)=true)(h6:(a.p==b.p)=true)(h7:decide (a.ss=b.ss)=true):ni a b=sameV a.cs b.cs:=by
 unfold ni
 rw[h1,h2,h3,h4,h5,h6,h7]
 rfl
theorem xw (a b:Mw)(w:World)(ha:fw w a)(hb:fw w b)(fa:dx a)(fb:dx b):
  Calls Tryz.prog 122 #[mv a,mv b] w fun E w'=>E=.returned (.bool (ni a.m b.m))∧Below w.heap.size w w':=by
 obtain⟨ans,dU⟩:∃x,ni a.m b.m=x:=⟨_,rfl⟩
 rw[dU]
 have HA:=hide dU
 have NO:Hid (a.m≠b.m→ans=false):=hide fun h=>by rw[←HA.out];exact avU h
 clear dU
 unfold mv
 obtain⟨w1,hw1,aT,aj,hA⟩:=qB w a
 obtain⟨w2,hw2,dz,au,hB⟩:=qB w1 b
 rw[aT]at hB
 have A2:=hide (hA.below au)
 have B2:=hide hB
 have aL:Below w.heap.size w w2:=aj.trans (au.mono (by omega))
 have IA:=hide (ha.below aL)
 have IB:=hide (hb.below aL)
 have FA:=hide fa
 have FB:=hide fb
 obtain⟨c0,c1,c2,c3,c4,c5,c6,c7⟩:=A2.out.ei
 obtain⟨d0,d1,d2,d3,d4,d5,d6,d7⟩:=B2.out.ei
 have q1:=nQ (x:=a.k) (y:=b.k) (ans:=ans) fun h=>NO.out fun e=>h (congrArg Mm.gQ.k e)
 have q2:=nQ (x:=a.e) (y:=b.e) (ans:=ans) fun h=>NO.out fun e=>h (congrArg Mm.gQ.e e)
 have q3:=nQ (x:=a.r) (y:=b.r) (ans:=ans) fun h=>NO.out fun e=>h (congrArg Mm.gQ.r e)
 have q4:=nQ (x:=a.n) (y:=b.n) (ans:=ans) fun h=>NO.out fun e=>h (congrArg Mm.gQ.n e)
 have q5:=nQ (x:=a.f) (y:=b.f) (ans:=ans) fun h=>NO.out fun e=>h (congrArg Mm.gQ.f e)
 have q6:=nQ (x:=a.p) (y:=b.p) (ans:=ans) fun h=>NO.out fun e=>h (congrArg Mm.gQ.p e)
 obtain⟨ds,hds⟩:∃x,decide (a.ss=b.ss)=x:=⟨_,rfl⟩
 have q7:Hid (ds=false→ans=false):=hide fun h=>NO.out fun e=>by
  rw[h]at hds
  exact of_decide_eq_false hds (congrArg Mm.gQ.ss e)
 have DS:=hide hds
 clear ha hb fa fb hA hB aj au hds
 go_enter Tryz.func122,Tryz.ntmps122
 rcases q1 with q1|⟨q1,rfl⟩
 rotate_left
 ·go_wp2
  go_ret
  exact⟨rfl,aL⟩
 rcases q2 with q2|⟨q2,rfl⟩
 rotate_left
 ·go_wp2
  go_ret
  exact⟨rfl,aL⟩
 rcases q3 with q3|⟨q3,rfl⟩
 rotate_left
 ·go_wp2
  go_ret
  exact⟨rfl,aL⟩
 rcases q4 with q4|⟨q4,rfl⟩
 rotate_left
 ·go_wp2
  go_ret
  exact⟨rfl,aL⟩
 rcases q5 with q5|⟨q5,rfl⟩
 rotate_left
 ·go_wp2
  go_ret
  exact⟨rfl,aL⟩
 rcases q6 with q6|⟨q6,rfl⟩
 rotate_left
 ·go_wp2
  go_ret
  exact⟨rfl,aL⟩
 go_wp2_with fail
 refine(ar5 _ _ a.ss b.ss _ IA.out.s IB.out.s FA.out.ls FB.out.ls).mono ?_
 rintro E w3 ⟨rfl,m,rfl⟩
 rw[DS.out]
 have aD:Below w2.heap.size w2 (w2.drewN m):=below_drewN (Below.refl _ _) m
 generalize w2.drewN m=w3 at*
 have cB:=aD.size
 have aY:=aL.trans (aD.mono (by omega))
 cases ds
 ·obtain rfl:=q7.out rfl
  go_wp2
  go_ret
  exact⟨rfl,aY⟩
 ·clear c0 c1 c2 c3 c4 c5 c6 c7 d0 d1 d2 d3 d4 d5 d6 d7 hw1 hw2
  obtain⟨c0,c1,c2,c3,c4,c5,c6,c7⟩:=(A2.out.below aD).ei
  obtain⟨d0,d1,d2,d3,d4,d5,d6,d7⟩:=(B2.out.below aD).ei
  have hs:ans=sameV (ay a.cs) (ay b.cs):=by
   rw[←HA.out]
   exact as6 (a:=a.m) (b:=b.m) q1 q2 q3 q4 q5 q6 DS.out
  go_wp2_with fail
  refine(asf _ _ a.cs b.cs _ (IA.out.c.below aD) (IB.out.c.below aD) FA.out.fc FB.out.fc FA.out.lc FB.out.lc).mono ?_
  rintro E w4 ⟨rfl,aK⟩
  have dW:=aY.trans (aK.mono (by omega))
  rw[←hs]
  clear hs
  go_wp2
  go_ret
  exact⟨rfl,dW⟩
def zF (m:Mw):Prop:=1≤m.r∧m.r≤3∧Sm.Ok m.ss m.n∧Sm.dH m.ss≤m.e
def ab0 (m:Mw):Prop:=1≤m.f∧m.f≤1048576∧0≤m.p∧m.p≤m.e∧(m.p=0↔m.f=1)∧m.cs.length≤4∧(∀c∈ay m.cs,c.e≤m.e)∧Cm.Good m.p (m.f-1) (ay m.cs)
def oD (ans:Bool) (p:Prop):Prop:=ans=true↔p
theorem oD.no {ans:Bool}{p:Prop}(h:oD ans p)(hp:¬p):ans=false:=by
 cases ans
 ·rfl
 ·exact absurd (h.1 rfl) hp
theorem oD.yes {ans:Bool}{p:Prop}(h:oD ans p)(hp:p):ans=true:=h.2 hp
theorem ae0 (p:Prop):∃ans,oD ans p:=by
 by_cases h:p
 ·exact⟨true,by simp[oD,h]⟩
 ·exact⟨false,by simp[oD,h]⟩
theorem oD.dec {ans:Bool}{p q:Prop}[d:Decidable q](h:oD ans p)(h1:q→p)(h2:p→q):ans=decide q:=by
 by_cases hp:q
 ·rw[h.yes (h1 hp),decide_eq_true hp]
 ·rw[h.no fun k=>hp (h2 k),decide_eq_false hp]
theorem abA (m:Mw)(ans:Bool)(w:World)(hi:fw w m)(hf:dx m)(he:0≤m.e)(h:oD ans (zF m)):
  Calls Tryz.prog 120 #[mv m] w fun E w'=>E=.returned (.bool ans)∧Below w.heap.size w w':=by
 have NO:Hid (¬zF m→ans=false):=hide fun k=>h.no k
 have YE:Hid (zF m→ans=true):=hide fun k=>h.yes k
 have HD:Hid (oD ans (zF m)):=hide h
 unfold mv
 obtain⟨w1,hw1,aT,aj,hA⟩:=qB w m
 have A1:=hide hA
 obtain⟨c0,c1,c2,c3,c4,c5,c6,c7⟩:=hA.ei
 have i1:=hide (hi.s.below aj)
 have hl:=hf.ls
 have X:=hide (fun(W:World) (k:jH W m.vs m.ss)=>uw m.vs m.ss m.n W k hl)
 obtain⟨ck,hck⟩:∃c,Sm.chk m.ss m.n=c:=⟨_,rfl⟩
 rw[hck]at X
 have HC:=hide hck
 clear hck h hA hi
 go_enter Tryz.func120,Tryz.ntmps120
 by_cases h1:m.r<1
 ·obtain rfl:=NO.out fun k=>by have:=k.1;omega
  go_wp2
  go_ret
  exact⟨rfl,aj⟩
 by_cases h2:3<m.r
 ·obtain rfl:=NO.out fun k=>by have:=k.2.1;omega
  go_wp2
  go_ret
  exact⟨rfl,aj⟩
 go_wp2_with fail
 refine(X.out _ i1.out).mono ?_
 rintro E w2 ⟨rfl,au⟩
 have dz:=au.size
 have aL:=aj.trans (au.mono (by omega))
 clear c0 c1 c2 c3 c4 c5 c6 c7
 by_cases h3:ck=0
 ·subst h3
  have hok:=Sm.aO.1 HC.out
  have zf:=hide hok
  clear hok
  obtain⟨c0,c1,c2,c3,c4,c5,c6,c7⟩:=(A1.out.below au).ei
  have i2:=i1.out.below au
  by_cases hz:m.ss.length=0
  ·have hn:m.ss=[]:=List.eq_nil_of_length_eq_zero hz
   obtain rfl:=YE.out ⟨by omega,by omega,zf.out,by rw[hn];exact he⟩
   obtain⟨ao,cap,hv,_,_⟩:=i2.shape
   rw[hv,hz]at c4
   clear hn hz hv i2 hw1
   go_wp2
   go_quiet (fail)
   go_wp2
   go_ret
   exact⟨rfl,below_drewN aL _⟩
  ·obtain⟨b,off,cap,hv,_,_,hB,hc⟩:=j6 i2 (by omega)
   obtain⟨s,hs⟩:=kV (l:=m.ss) (k:=m.ss.length-1) (by omega)
   obtain⟨d0,d1⟩:=hc _ _ hs
   have hq:ans=decide (s.1≤m.e):=HD.out.dec (fun hx=>⟨by omega,by omega,zf.out,by rw[Sm.tV hs];exact hx⟩) (fun k=>by have:=k.2.2.2;rw[Sm.tV hs]at this;exact this)
   subst hq
   rw[hv]at c4
   generalize hn:m.ss.length=n at*
   obtain⟨k,hk⟩:∃k,n-1=k:=⟨_,rfl⟩
   rw[hk]at d0 d1
   have hne:((n:Int)==0)=false:=by simp;omega
   have hsub:(n:Int)-1=(k:Int):=by omega
   have hk1:(k:Int)<(n:Int):=by omega
   clear hv hc hs hn hz NO YE HD i2 hw1 X HC zf hk
   go_wp2
   have hk1:(k:Int)<(n:Int):=by omega
   go_big_quiet (fail)
   go_wp2
   go_ret
   exact⟨rfl,below_drewN aL _⟩
 ·have h3':(ck !=0)=true:=by simpa using h3
  obtain rfl:=NO.out fun k=>h3 (by rw[←HC.out];exact Sm.aO.2 k.2.2.1)
  clear h3
  go_wp2
  go_ret
  exact⟨rfl,aL⟩
theorem ahl:∀(l:List Cm.Cv) (ep nu:Int),Cm.Good ep nu l→ep≤Cm.lastE ep l∧∀c∈l,c.e≤Cm.lastE ep l
 |[],ep,nu,_=>⟨Int.le_refl _,fun c hc=>by simp at hc⟩
 |c::r,ep,nu,⟨h1,h2,h3,h4⟩=>by
  obtain⟨g1,g2⟩:=ahl r c.e c.n h4
  refine⟨Int.le_trans h3 g1,fun d hd=>?_⟩
  rcases List.mem_cons.1 hd with rfl|hd
  ·exact g1
  ·exact g2 d hd
theorem agH:∀(l:List Cm.Cv) (ep:Int) (c:Cm.Cv),l[l.length-1]? =some c→Cm.lastE ep l=c.e
 |[],_,_,h=>by simp at h
 |[x],ep,c,h=>by simp at h;subst h;rfl
 |x::y::r,ep,c,h=>by
  have:=agH (y::r) x.e c (by simpa using h)
  exact this
theorem asL (x y:Int)(z u:Int):((x=z↔y=u)∧∃b,(x==z)=b∧(y==u)=b)∨(¬(x=z↔y=u)∧∃b,(x==z)=b∧(y==u)= !b):=by
 by_cases h1:x=z<;>by_cases h2:y=u
 ·exact .inl ⟨by simp[h1,h2],true,by simp[h1],by simp[h2]⟩
 ·exact .inr ⟨by simp[h1,h2],true,by simp[h1],by simpa using h2⟩
 ·exact .inr ⟨by simp[h1,h2],false,by simpa using h1,by simp[h2]⟩
 ·exact .inl ⟨by simp[h1,h2],false,by simpa using h1,by simpa using h2⟩
theorem adf (m:Mw)(ans:Bool)(w:World)(hi:fw w m)(hf:dx m)(h:oD ans (ab0 m)):
  Calls Tryz.prog 121 #[mv m] w fun E w'=>E=.returned (.bool ans)∧Below w.heap.size w w':=by
 have NO:Hid (¬ab0 m→ans=false):=hide fun k=>h.no k
 have HD:Hid (oD ans (ab0 m)):=hide h
 unfold mv
 obtain⟨w1,hw1,aT,aj,hA⟩:=qB w m
 have A1:=hide hA
 obtain⟨c0,c1,c2,c3,c4,c5,c6,c7⟩:=hA.ei
 have i1:=hide (hi.c.below aj)
 have hl:=hf.lc
 have HF:=hide hf.fc
 have ff:=hf.f
 have X:=hide (fun(W:World) (k:di W m.vc m.cs)=>jA m.p (m.f-1) m.vc m.cs W k HF.out hl)
 have C:=hide (iP i1.out)
 obtain⟨ao,cap,hv,_,_⟩:=i1.out.1.shape
 have i1':Hid (di w1 m.vc m.cs):=i1
 rw[hv]at c7 hw1 X C i1'
 rw[hv]
 have A2:Hid (∀W,Below w1.heap.size w1 W→Ei W w.heap.size (.int .i64 m.k) (.int .i64 m.e) (.int .u8 m.r) (.int .i64 m.n) m.vs (.int .i64 m.f) (.int .i64 m.p) (.slice ao m.cs.length cap)):=hide fun W hb=>by
  have:=(A1.out.below hb).ei
  rw[hv]at this
  exact this
 generalize hn:m.cs.length=n at*
 have HN:=hide hn
 clear h hA hi hf hv i1 A1 hn
 go_enter Tryz.func121,Tryz.ntmps121
 by_cases h1:m.f<1
 ·obtain rfl:=NO.out fun k=>by have:=k.1;omega
  go_wp2
  go_ret
  exact⟨rfl,aj⟩
 by_cases h2:1048576<m.f
 ·obtain rfl:=NO.out fun k=>by have:=k.2.1;omega
  go_wp2
  go_ret
  exact⟨rfl,aj⟩
 by_cases h3:m.p<0
 ·obtain rfl:=NO.out fun k=>by have:=k.2.2.1;omega
  go_wp2
  go_ret
  exact⟨rfl,aj⟩
 by_cases h4:m.e<m.p
 ·obtain rfl:=NO.out fun k=>by have:=k.2.2.2.1;omega
  go_wp2
  go_ret
  exact⟨rfl,aj⟩
 rcases asL m.p m.f 0 1 with⟨hbb,bb,q1,q2⟩|⟨hbb,bb,q1,q2⟩
 rotate_left
 ·obtain rfl:=NO.out fun k=>hbb k.2.2.2.2.1
  clear hbb
  cases bb
  ·have q3:(m.f==1)=true:=q2
   clear q2
   go_wp2
   go_ret
   exact⟨rfl,aj⟩
  ·have q3:(m.f==1)=false:=q2
   clear q2
   go_wp2
   go_ret
   exact⟨rfl,aj⟩
 have HB:=hide hbb
 have hbn:(bb !=bb)=false:=by simp
 clear hbb
 by_cases h5:4<n
 ·obtain rfl:=NO.out fun k=>by have:=k.2.2.2.2.2.1;have:=HN.out;omega
  clear X
  have h5':(4:Int)<n:=by omega
  go_wp2
  go_ret
  exact⟨rfl,aj⟩
 have h5':¬(4:Int)<n:=by omega
 go_wp2_with fail
 refine(X.out _ i1'.out).mono ?_
 rintro E w2 ⟨rfl,au⟩
 have dz:=au.size
 have aL:=aj.trans (au.mono (by omega))
 clear c0 c1 c2 c3 c4 c5 c6 c7 hw1 X
 obtain⟨c0,c1,c2,c3,c4,c5,c6,c7⟩:=A2.out _ au
 clear A2
 have hft:=asg (ay m.cs) m.p (m.f-1)
 have hgd:=Tryz.oG
 unfold rE
 rcases hft with⟨hg,hfo⟩|⟨hg,hfo⟩
 rotate_left
 ·obtain rfl:=NO.out fun k=>hg k.2.2.2.2.2.2.2
  have hnq:=Tryz.zV (Cm.fol m.p (m.f-1) 0 (ay m.cs)).1 (Cm.fol m.p (m.f-1) 0 (ay m.cs)).2 0 0
  rw[show((Cm.fol m.p (m.f-1) 0 (ay m.cs)).1==0&&(Cm.fol m.p (m.f-1) 0 (ay m.cs)).2==0)=false by simp[hfo]]at hnq
  generalize (Cm.fol m.p (m.f-1) 0 (ay m.cs)).1=x1 at*
  generalize (Cm.fol m.p (m.f-1) 0 (ay m.cs)).2=x2 at*
  clear hg hfo
  go_wp2
  go_ret
  exact⟨rfl,aL⟩
 rw[hfo]
 have hnq:=Tryz.zV 0 0 0 0
 rw[show((0:Int)==0&&(0:Int)==0)=true from rfl]at hnq
 have HG:=hide hg
 clear hfo hg
 by_cases hz:n=0
 ·have hn:m.cs=[]:=List.eq_nil_of_length_eq_zero (by have:=HN.out;omega)
  obtain rfl:=HD.out.yes ⟨by omega,by omega,by omega,by omega,HB.out,by have:=HN.out;omega,fun c hc=>by rw[hn]at hc;simp[ay]at hc,HG.out⟩
  have hz':((n:Int)==0)=true:=by simp[hz]
  clear hn hz
  go_wp2
  go_quiet (fail)
  go_wp2
  go_ret
  exact⟨rfl,below_drewN aL _⟩
 ·obtain⟨b,off,cap',hv',hB',hc⟩:=C.out (by have:=HN.out;omega)
  simp only[Value.slice.injEq,true_and]at hv'
  obtain⟨rfl,rfl⟩:=hv'
  obtain⟨s,hs⟩:=kV (l:=m.cs) (k:=n-1) (by have:=HN.out;omega)
  obtain⟨d0,d1,d2⟩:=vY hc au hB' hs
  have hla:Cm.lastE m.p (ay m.cs)=s.e:=agH (ay m.cs) m.p s.c (by rw[fF,HN.out,kD,hs];rfl)
  have hq:ans=decide (s.e≤m.e):=HD.out.dec (fun hx=>⟨by omega,by omega,by omega,by omega,HB.out,by have:=HN.out;omega,fun c hc=>by have:=(ahl _ _ _ HG.out).2 c hc;omega,HG.out⟩) (fun k=>k.2.2.2.2.2.2.1 s.c (by unfold ay;exact List.mem_map_of_mem (List.mem_of_getElem? hs)))
  subst hq
  obtain⟨k,hk⟩:∃k,n-1=k:=⟨_,rfl⟩
  rw[hk]at d0 d1 d2
  have hne:((n:Int)==0)=false:=by simp;omega
  have hsub:(n:Int)-1=(k:Int):=by omega
  have hk1:(k:Int)<(n:Int):=by omega
  clear hc hs hz NO HD HG HB hla hk C i1'
  go_wp2
  have hk1:(k:Int)<(n:Int):=by omega
  go_big_quiet (fail)
  go_wp2
  go_ret
  exact⟨rfl,below_drewN aL _⟩
theorem fq.wQ {w:World}{g:Nat}{m:Mw}{a b:Value}(h:fq w g m)(hs:m.vs=a)(hc:m.vc=b):Ei w g (.int .i64 m.k) (.int .i64 m.e) (.int .u8 m.r) (.int .i64 m.n) a (.int .i64 m.f) (.int .i64 m.p) b:=by
 subst hs hc
 exact h.ei
theorem qP {m:Mw}{a b:Value}(hs:m.vs=a)(hc:m.vc=b):mv m=.agg #[.int .i64 m.k,.int .i64 m.e,.int .u8 m.r,.int .i64 m.n,a,.int .i64 m.f,.int .i64 m.p,b]:=by
 subst hs hc
 rfl
theorem arb {m:Mw}{a b:Value}(hs:m.vs=a)(hc:m.vc=b):mc m=#[.int .i64 m.k,.int .i64 m.e,.int .u8 m.r,.int .i64 m.n,a,.int .i64 m.f,.int .i64 m.p,b]:=by
 subst hs hc
 rfl
theorem axv (w:World)(m:Mw){a b:Value}(hs:m.vs=a)(hc:m.vc=b):
  ∃V,w.alloc (.cells #[.int .i64 m.k,.int .i64 m.e,.int .u8 m.r,.int .i64 m.n,a,.int .i64 m.f,.int .i64 m.p,b] 26)=V∧V.heap.size=w.heap.size+1∧Below w.heap.size w V∧fq V w.heap.size m:=by
 subst hs hc
 exact qB w m
def Kp (m:Mw):Prop:=(m.k=1∧Mm.Hel m.m)∨(m.k=2∧Mm.Shp m.m)∨(m.k=3∧Mm.Ack m.m)
def aX (m:Mw):Mw:=⟨m.k,m.e,m.r,m.n,m.vs,m.ss,0,0,.slice none 0 0,[]⟩
def aP (m:Mw):Mw:=⟨m.k,m.e,0,0,.slice none 0 0,[],m.f,m.p,m.vc,m.cs⟩
def bD (m:Mw):Mw:=⟨m.k,m.e,0,m.n,.slice none 0 0,[],0,0,.slice none 0 0,[]⟩
theorem akx {m:Mw}:ni m.m (aX m).m=true↔m.f=0∧m.p=0∧ay m.cs=[]:=by
 rw[yC]
 constructor
 ·intro e
  exact⟨congrArg Mm.gQ.f e,congrArg Mm.gQ.p e,congrArg Mm.gQ.cs e⟩
 ·rintro⟨h1,h2,h3⟩
  exact Mm.gQ.eq rfl rfl rfl rfl rfl h1 h2 h3
theorem akv {m:Mw}:ni m.m (aP m).m=true↔m.r=0∧m.n=0∧m.ss=[]:=by
 rw[yC]
 constructor
 ·intro e
  exact⟨congrArg Mm.gQ.r e,congrArg Mm.gQ.n e,congrArg Mm.gQ.ss e⟩
 ·rintro⟨h1,h2,h3⟩
  exact Mm.gQ.eq rfl rfl h1 h2 h3 rfl rfl rfl
theorem amw {m:Mw}:ni m.m (bD m).m=true↔m.r=0∧m.ss=[]∧m.f=0∧m.p=0∧ay m.cs=[]:=by
 rw[yC]
 constructor
 ·intro e
  exact⟨congrArg Mm.gQ.r e,congrArg Mm.gQ.ss e,congrArg Mm.gQ.f e,congrArg Mm.gQ.p e,congrArg Mm.gQ.cs e⟩
 ·rintro⟨h1,h2,h3,h4,h5⟩
  exact Mm.gQ.eq rfl rfl h1 rfl h2 h3 h4 h5
theorem ag7 {w:World}{m:Mw}(h:fw w m):fw w (aX m):=⟨h.s,di.nil _⟩
theorem agU {w:World}{m:Mw}(h:fw w m):fw w (aP m):=⟨gP.nil _ _,h.c⟩
theorem asu {w:World}{m:Mw}(h:fw w m):fw w (bD m):=⟨gP.nil _ _,di.nil _⟩
theorem af2 {m:Mw}(h:dx m):dx (aX m):=⟨h.k,h.e,h.r0,h.r1,h.n,dx.no.f,dx.no.p,h.ls,dx.no.fc,dx.no.lc⟩
theorem aeh {m:Mw}(h:dx m):dx (aP m):=⟨h.k,h.e,dx.no.r0,dx.no.r1,dx.no.n,h.f,h.p,dx.no.ls,h.fc,h.lc⟩
theorem amO {m:Mw}(h:dx m):dx (bD m):=⟨h.k,h.e,dx.no.r0,dx.no.r1,h.n,dx.no.f,dx.no.p,dx.no.ls,dx.no.fc,dx.no.lc⟩
theorem zO {a b:Bool}(h:a=true↔b=true):a=b:=by cases a<;>cases b<;>simp_all
theorem ayg {m:Mw}(h:m.k=1):Kp m↔zF (aX m)∧ni m.m (aX m).m=true:=by
 rw[akx]
 constructor
 ·rintro(⟨_,a1,a2,a3,a4,a5,a6,a7⟩|⟨k,_⟩|⟨k,_⟩)
  ·exact⟨⟨a1,a2,a3,a4⟩,a5,a6,a7⟩
  ·omega
  ·omega
 ·rintro⟨⟨a1,a2,a3,a4⟩,a5,a6,a7⟩
  exact .inl ⟨h,a1,a2,a3,a4,a5,a6,a7⟩
theorem ayk {m:Mw}(h:m.k=2):Kp m↔ab0 (aP m)∧ni m.m (aP m).m=true:=by
 rw[akv]
 constructor
 ·rintro(⟨k,_⟩|⟨_,a1,a2,a3,a4,a5,a6,a7,a8,a9,a10,a11⟩|⟨k,_⟩)
  ·omega
  ·exact⟨⟨a1,a2,a3,a4,a5,by have:=a6;simp only[Mw.m,fF]at this;exact this,a7,a8⟩,a9,a10,a11⟩
  ·omega
 ·rintro⟨⟨a1,a2,a3,a4,a5,a6,a7,a8⟩,a9,a10,a11⟩
  exact .inr (.inl ⟨h,a1,a2,a3,a4,a5,by simp only[Mw.m,fF];exact a6,a7,a8,a9,a10,a11⟩)
theorem ayv {m:Mw}(h:m.k=3):Kp m↔(0≤m.n∧m.n≤1048576)∧ni m.m (bD m).m=true:=by
 rw[amw]
 constructor
 ·rintro(⟨k,_⟩|⟨k,_⟩|⟨_,a1,a2,a3,a4,a5,a6,a7⟩)
  ·omega
  ·omega
  ·exact⟨⟨a1,a2⟩,a3,a4,a5,a6,a7⟩
 ·rintro⟨⟨a1,a2⟩,a3,a4,a5,a6,a7⟩
  exact .inr (.inr ⟨h,a1,a2,a3,a4,a5,a6,a7⟩)
theorem agp (m:Mw)(ans:Bool)(w:World)(hi:fw w m)(hf:dx m)(he:1≤m.e)(h:oD ans (Kp m)):
  Calls Tryz.prog 74 #[mv m] w fun E w'=>E=.returned (.bool ans)∧Below w.heap.size w w':=by
 have HD:Hid (oD ans (Kp m)):=hide h
 obtain⟨ao,cap,hvs,_,_⟩:=hi.s.shape
 obtain⟨tK,cap2,mX,_,_⟩:=hi.c.1.shape
 rw[qP hvs mX]
 have ma:=hide hvs
 have qz:=hide mX
 obtain⟨w1,hw1,aT,aj,hA⟩:=axv w m hvs mX
 obtain⟨a0,a1,a2,a3,a4,a5,a6,a7⟩:=hA.wQ hvs mX
 clear hvs mX
 obtain⟨w2,aac,hw2,dz,au,hO,_⟩:=amE w1 26 (.int .i64 0) (.int .i64 0) (.int .u8 0) (.int .i64 0) (.slice none 0 0) (.int .i64 0) (.int .i64 0) (.slice none 0 0) (.int .i64 m.k) (.int .i64 m.e) (.int .u8 0) (.int .i64 0) (.slice none 0 0) (.int .i64 0) (.int .i64 0) (.slice none 0 0)
 rw[aT]at hO aac
 have hA2:=hA.below au
 obtain⟨c0,c1,c2,c3,c4,c5,c6,c7⟩:=hA2.wQ ma.out qz.out
 obtain⟨d0,d1,d2,d3,d4,d5,d6,d7⟩:=kX hO
 have s2:w2.setCell ⟨w.heap.size+1,2,none⟩ (.int .u8 0)=w2:=aJ hO (j:=2) rfl
 have s3:w2.setCell ⟨w.heap.size+1,3,none⟩ (.int .i64 0)=w2:=aJ hO (j:=3) rfl
 have s4:w2.setCell ⟨w.heap.size+1,4,none⟩ (.slice none 0 0)=w2:=aJ hO (j:=4) rfl
 have s5:w2.setCell ⟨w.heap.size+1,5,none⟩ (.int .i64 0)=w2:=aJ hO (j:=5) rfl
 have s6:w2.setCell ⟨w.heap.size+1,6,none⟩ (.int .i64 0)=w2:=aJ hO (j:=6) rfl
 have s7:w2.setCell ⟨w.heap.size+1,7,none⟩ (.slice none 0 0)=w2:=aJ hO (j:=7) rfl
 have f2:=aA hO 2
 have f3:=aA hO 3
 have f4:=aA hO 4
 have f5:=aA hO 5
 have f6:=aA hO 6
 have f7:=aA hO 7
 have aF:Below w.heap.size w w2:=aj.trans (au.mono (by omega))
 have HI:=hide hi
 have HF:=hide hf
 have hlt:w.heap.size<w2.heap.size:=by omega
 clear h hA hi hf aj au
 go_enter Tryz.func74,Tryz.ntmps74
 by_cases h1:m.k=1
 ·have h1':(m.k==1)=true:=by simp[h1]
  have HK:=hide (ayg h1)
  clear h1
  obtain⟨V2,hV2,rV2,gV2,zV2⟩:=putAt hO 2 (.int .u8 m.r)
  have bV2:V2.heap[w.heap.size+1]? =some (.cells #[.int .i64 m.k,.int .i64 m.e,.int .u8 m.r,.int .i64 0,.slice none 0 0,.int .i64 0,.int .i64 0,.slice none 0 0] 26 (0,0)):=rV2
  have szV2:=gV2.size
  have AV2:fq V2 w.heap.size m:=(gV2.block w.heap.size (by omega) (by simp)).trans hA2
  have aqU:=aB aF gV2 (by omega) (by omega)
  obtain⟨l20,l21,l22,l23,l24,l25,l26,l27⟩:=AV2.wQ ma.out qz.out
  obtain⟨y20,y21,y22,y23,y24,y25,y26,y27⟩:=kX bV2
  obtain⟨V3,hV3,rV3,gV3,zV3⟩:=putAt bV2 3 (.int .i64 m.n)
  have bV3:V3.heap[w.heap.size+1]? =some (.cells #[.int .i64 m.k,.int .i64 m.e,.int .u8 m.r,.int .i64 m.n,.slice none 0 0,.int .i64 0,.int .i64 0,.slice none 0 0] 26 (0,0)):=rV3
  have axQ:=gV3.size
  have AV3:fq V3 w.heap.size m:=(gV3.block w.heap.size (by omega) (by simp)).trans AV2
  have rU:=aB aqU gV3 (by omega) (by omega)
  obtain⟨l30,l31,l32,l33,l34,l35,l36,l37⟩:=AV3.wQ ma.out qz.out
  obtain⟨y30,y31,y32,y33,y34,y35,y36,y37⟩:=kX bV3
  obtain⟨V4,hV4,rV4,wR,zV4⟩:=putAt bV3 4 (.slice ao m.ss.length cap)
  have bV4:V4.heap[w.heap.size+1]? =some (.cells #[.int .i64 m.k,.int .i64 m.e,.int .u8 m.r,.int .i64 m.n,.slice ao m.ss.length cap,.int .i64 0,.int .i64 0,.slice none 0 0] 26 (0,0)):=rV4
  have szV4:=wR.size
  have AV4:fq V4 w.heap.size m:=(wR.block w.heap.size (by omega) (by simp)).trans AV3
  have aq1:=aB rU wR (by omega) (by omega)
  obtain⟨Vd,xy⟩:∃X,V4.drew=X:=⟨_,rfl⟩
  have szd:Vd.heap.size=V4.heap.size:=by rw[←xy];rfl
  have AV:Hid (fq Vd w.heap.size m):=hide (by rw[←xy];exact AV4)
  have OV:Hid (fq Vd (w.heap.size+1) (aX m)):=hide (by rw[←xy];unfold fq;rw[arb (m:=aX m) (a:=.slice ao m.ss.length cap) (b:=.slice none 0 0) ma.out rfl];exact bV4)
  have gM:Below w.heap.size w Vd:=by rw[←xy];exact aq1.drew
  clear AV4 bV4 aq1
  clear rV2
  clear rV3
  clear rV4
  clear bV2 AV2 aqU
  clear bV3 AV3 rU
  clear gV2
  clear gV3
  clear wR
  clear hO hA2 aF
  go_wp2
  go_region
  clear hV2 hV3 hV4 xy hw1 hw2 aac s2 s3 s4 s5 s6 s7 f2 f3 f4 f5 f6 f7 a0 a1 a2 a3 a4 a5 a6 a7 c0 c1 c2 c3 c4 c5 c6 c7 d0 d1 d2 d3 d4 d5 d6 d7
  clear l20 l21 l22 l23 l24 l25 l26 l27 y20 y21 y22 y23 y24 y25 y26 y27
  clear l30 l31 l32 l33 l34 l35 l36 l37 y30 y31 y32 y33 y34 y35 y36 y37
  have OE:∀W,fq W (w.heap.size+1) (aX m)→Ei W (w.heap.size+1) (.int .i64 m.k) (.int .i64 m.e) (.int .u8 m.r) (.int .i64 m.n) (.slice ao m.ss.length cap) (.int .i64 0) (.int .i64 0) (.slice none 0 0):=fun W k=>k.wQ ma.out rfl
  have OE:=hide OE
  obtain⟨e0,e1,e2,e3,e4,e5,e6,e7⟩:=OE.out _ OV.out
  obtain⟨hm,hhm⟩:=ae0 (zF (aX m))
  have HM:=hide hhm
  clear hhm
  go_wp2_with fail
  have XX:=abA (aX m) hm Vd (ag7 (HI.out.below gM)) (af2 HF.out) (show(0:Int)≤m.e by omega) HM.out
  rw[qP (m:=aX m) (a:=.slice ao m.ss.length cap) (b:=.slice none 0 0) ma.out rfl]at XX
  refine XX.mono ?_
  clear XX
  rintro E w3 ⟨rfl,aD⟩
  clear e0 e1 e2 e3 e4 e5 e6 e7
  have cB:=aD.size
  have aY:=gM.trans (aD.mono (by omega))
  have hm':oD hm (zF (aX m)):=HM.out
  cases hm
  ·obtain rfl:ans=false:=HD.out.no fun k=>by
    have:=hm'.2 (HK.out.1 k).1
    simp at this
   clear hm'
   go_wp2
   go_ret
   exact⟨rfl,aY⟩
  ·have hs:Hid (ans=ni m.m (aX m).m):=hide (zO (HD.out.trans (HK.out.trans ⟨fun k=>k.2,fun k=>⟨hm'.1 rfl,k⟩⟩)))
   clear hm'
   obtain⟨e0,e1,e2,e3,e4,e5,e6,e7⟩:=OE.out _ (OV.out.below aD)
   obtain⟨x0,x1,x2,x3,x4,x5,x6,x7⟩:=(AV.out.below aD).wQ ma.out qz.out
   go_wp2_with fail
   have XX:=xw m (aX m) w3 (HI.out.below aY) (ag7 (HI.out.below aY)) HF.out (af2 HF.out)
   rw[qP ma.out qz.out,qP (m:=aX m) (a:=.slice ao m.ss.length cap) (b:=.slice none 0 0) ma.out rfl]at XX
   refine XX.mono ?_
   clear XX
   rintro E w4 ⟨rfl,aK⟩
   rw[←hs.out]
   have dW:=aY.trans (aK.mono (by omega))
   go_wp2
   go_ret
   exact⟨rfl,dW⟩
 have h1':(m.k==1)=false:=by simpa using h1
 by_cases h2:m.k=2
 ·have h2':(m.k==2)=true:=by simp[h2]
  have HK:=hide (ayk h2)
  clear h2
  obtain⟨V5,hV5,rV5,wP,zV5⟩:=putAt hO 5 (.int .i64 m.f)
  have bV5:V5.heap[w.heap.size+1]? =some (.cells #[.int .i64 m.k,.int .i64 m.e,.int .u8 0,.int .i64 0,.slice none 0 0,.int .i64 m.f,.int .i64 0,.slice none 0 0] 26 (0,0)):=rV5
  have szV5:=wP.size
  have AV5:fq V5 w.heap.size m:=(wP.block w.heap.size (by omega) (by simp)).trans hA2
  have apY:=aB aF wP (by omega) (by omega)
  obtain⟨l50,l51,l52,l53,l54,l55,l56,l57⟩:=AV5.wQ ma.out qz.out
  obtain⟨y50,y51,y52,y53,y54,y55,y56,y57⟩:=kX bV5
  obtain⟨V6,hV6,rV6,gV6,zV6⟩:=putAt bV5 6 (.int .i64 m.p)
  have bV6:V6.heap[w.heap.size+1]? =some (.cells #[.int .i64 m.k,.int .i64 m.e,.int .u8 0,.int .i64 0,.slice none 0 0,.int .i64 m.f,.int .i64 m.p,.slice none 0 0] 26 (0,0)):=rV6
  have szV6:=gV6.size
  have AV6:fq V6 w.heap.size m:=(gV6.block w.heap.size (by omega) (by simp)).trans AV5
  have aqR:=aB apY gV6 (by omega) (by omega)
  obtain⟨l60,l61,l62,l63,l64,l65,l66,l67⟩:=AV6.wQ ma.out qz.out
  obtain⟨y60,y61,y62,y63,y64,y65,y66,y67⟩:=kX bV6
  obtain⟨V7,hV7,rV7,gV7,zV7⟩:=putAt bV6 7 (.slice tK m.cs.length cap2)
  have bV7:V7.heap[w.heap.size+1]? =some (.cells #[.int .i64 m.k,.int .i64 m.e,.int .u8 0,.int .i64 0,.slice none 0 0,.int .i64 m.f,.int .i64 m.p,.slice tK m.cs.length cap2] 26 (0,0)):=rV7
  have szV7:=gV7.size
  have AV7:fq V7 w.heap.size m:=(gV7.block w.heap.size (by omega) (by simp)).trans AV6
  have aqd:=aB aqR gV7 (by omega) (by omega)
  obtain⟨Vd,xy⟩:∃X,V7.drew=X:=⟨_,rfl⟩
  have szd:Vd.heap.size=V7.heap.size:=by rw[←xy];rfl
  have AV:Hid (fq Vd w.heap.size m):=hide (by rw[←xy];exact AV7)
  have OV:Hid (fq Vd (w.heap.size+1) (aP m)):=hide (by rw[←xy];unfold fq;rw[arb (m:=aP m) (a:=.slice none 0 0) (b:=.slice tK m.cs.length cap2) rfl qz.out];exact bV7)
  have gM:Below w.heap.size w Vd:=by rw[←xy];exact aqd.drew
  clear AV7 bV7 aqd
  clear rV5
  clear rV6
  clear rV7
  clear bV5 AV5 apY
  clear bV6 AV6 aqR
  clear wP
  clear gV6
  clear gV7
  clear hO hA2 aF
  go_wp2
  go_region
  clear hV5 hV6 hV7 xy hw1 hw2 aac s2 s3 s4 s5 s6 s7 f2 f3 f4 f5 f6 f7 a0 a1 a2 a3 a4 a5 a6 a7 c0 c1 c2 c3 c4 c5 c6 c7 d0 d1 d2 d3 d4 d5 d6 d7
  clear l50 l51 l52 l53 l54 l55 l56 l57 y50 y51 y52 y53 y54 y55 y56 y57
  clear l60 l61 l62 l63 l64 l65 l66 l67 y60 y61 y62 y63 y64 y65 y66 y67
  have OE:∀W,fq W (w.heap.size+1) (aP m)→Ei W (w.heap.size+1) (.int .i64 m.k) (.int .i64 m.e) (.int .u8 0) (.int .i64 0) (.slice none 0 0) (.int .i64 m.f) (.int .i64 m.p) (.slice tK m.cs.length cap2):=fun W k=>k.wQ rfl qz.out
  have OE:=hide OE
  obtain⟨e0,e1,e2,e3,e4,e5,e6,e7⟩:=OE.out _ OV.out
  obtain⟨hm,hhm⟩:=ae0 (ab0 (aP m))
  have HM:=hide hhm
  clear hhm
  go_wp2_with fail
  have XX:=adf (aP m) hm Vd (agU (HI.out.below gM)) (aeh HF.out) HM.out
  rw[qP (m:=aP m) (a:=.slice none 0 0) (b:=.slice tK m.cs.length cap2) rfl qz.out]at XX
  refine XX.mono ?_
  clear XX
  rintro E w3 ⟨rfl,aD⟩
  clear e0 e1 e2 e3 e4 e5 e6 e7
  have cB:=aD.size
  have aY:=gM.trans (aD.mono (by omega))
  have hm':oD hm (ab0 (aP m)):=HM.out
  cases hm
  ·obtain rfl:ans=false:=HD.out.no fun k=>by
    have:=hm'.2 (HK.out.1 k).1
    simp at this
   clear hm'
   go_wp2
   go_ret
   exact⟨rfl,aY⟩
  ·have hs:Hid (ans=ni m.m (aP m).m):=hide (zO (HD.out.trans (HK.out.trans ⟨fun k=>k.2,fun k=>⟨hm'.1 rfl,k⟩⟩)))
   clear hm'
   obtain⟨e0,e1,e2,e3,e4,e5,e6,e7⟩:=OE.out _ (OV.out.below aD)
   obtain⟨x0,x1,x2,x3,x4,x5,x6,x7⟩:=(AV.out.below aD).wQ ma.out qz.out
   go_wp2_with fail
   have XX:=xw m (aP m) w3 (HI.out.below aY) (agU (HI.out.below aY)) HF.out (aeh HF.out)
   rw[qP ma.out qz.out,qP (m:=aP m) (a:=.slice none 0 0) (b:=.slice tK m.cs.length cap2) rfl qz.out]at XX
   refine XX.mono ?_
   clear XX
   rintro E w4 ⟨rfl,aK⟩
   rw[←hs.out]
   have dW:=aY.trans (aK.mono (by omega))
   go_wp2
   go_ret
   exact⟨rfl,dW⟩
 have h2':(m.k==2)=false:=by simpa using h2
 by_cases h3:m.k=3
 ·have h3':(m.k==3)=true:=by simp[h3]
  have HK:=hide (ayv h3)
  clear h3
  obtain⟨V3,hV3,rV3,gV3,zV3⟩:=putAt hO 3 (.int .i64 m.n)
  have bV3:V3.heap[w.heap.size+1]? =some (.cells #[.int .i64 m.k,.int .i64 m.e,.int .u8 0,.int .i64 m.n,.slice none 0 0,.int .i64 0,.int .i64 0,.slice none 0 0] 26 (0,0)):=rV3
  have axQ:=gV3.size
  have AV3:fq V3 w.heap.size m:=(gV3.block w.heap.size (by omega) (by simp)).trans hA2
  have rU:=aB aF gV3 (by omega) (by omega)
  obtain⟨x0,x1,x2,x3,x4,x5,x6,x7⟩:=AV3.wQ ma.out qz.out
  obtain⟨e0,e1,e2,e3,e4,e5,e6,e7⟩:=kX bV3
  clear rV3 gV3 bV3 hO hA2 aF
  by_cases p1:0≤m.n
  ·by_cases p2:m.n≤1048576
   ·have hs:Hid (ans=ni m.m (bD m).m):=hide (zO (HD.out.trans (HK.out.trans ⟨fun k=>k.2,fun k=>⟨⟨p1,p2⟩,k⟩⟩)))
    go_wp2_with fail
    have XX:=xw m (bD m) V3 (HI.out.below rU) (asu (HI.out.below rU)) HF.out (amO HF.out)
    rw[qP ma.out qz.out]at XX
    refine XX.mono ?_
    clear XX
    rintro E w4 ⟨rfl,aK⟩
    rw[←hs.out]
    have dW:=rU.trans (aK.mono (by omega))
    go_wp2
    go_ret
    exact⟨rfl,dW⟩
   ·obtain rfl:ans=false:=HD.out.no fun k=>p2 (HK.out.1 k).1.2
    have p3:(1048576:Int)<m.n:=by omega
    go_wp2
    go_ret
    exact⟨rfl,rU⟩
  ·obtain rfl:ans=false:=HD.out.no fun k=>p1 (HK.out.1 k).1.1
   have p3:m.n<0:=by omega
   go_wp2
   go_ret
   exact⟨rfl,rU⟩
 have h3':(m.k==3)=false:=by simpa using h3
 obtain rfl:ans=false:=HD.out.no fun k=>by
  rcases k with⟨k,_⟩|⟨k,_⟩|⟨k,_⟩<;>omega
 go_wp2
 go_ret
 exact⟨rfl,aF⟩
theorem ai4 (m:Mw)(c:Int)(w:World)(hi:fw w m)(hf:dx m)(hc:Mm.Ck m.m c):
  Calls Tryz.prog 29 #[mv m] w fun E w'=>E=.returned (.int .i64 c)∧Below w.heap.size w w':=by
 have HC:=hide hc
 have NO:Hid (¬Mm.Ok m.m→c=2):=hide fun h=>by
  rcases HC.out with⟨_,k⟩|⟨e,_⟩
  ·exact absurd k h
  ·exact e
 unfold mv
 obtain⟨w1,hw1,aT,aj,hA⟩:=qB w m
 obtain⟨a0,a1,a2,a3,a4,a5,a6,a7⟩:=hA.ei
 clear hA hc
 go_enter Tryz.func29,Tryz.ntmps29
 by_cases h1:m.e<1
 ·obtain rfl:=NO.out fun k=>by have:1≤m.e:=k.1;omega
  go_wp2
  go_ret
  exact⟨rfl,aj⟩
 by_cases h2:1048576<m.e
 ·obtain rfl:=NO.out fun k=>by have:m.e≤1048576:=k.2.1;omega
  go_wp2
  go_ret
  exact⟨rfl,aj⟩
 obtain⟨ans,hy⟩:=ae0 (Kp m)
 have HY:=hide hy
 clear hy
 go_wp2_with fail
 refine(agp m ans w1 (hi.below aj) hf (by omega) HY.out).mono ?_
 rintro E w2 ⟨rfl,au⟩
 have aL:=aj.trans (au.mono (by omega))
 have hy:=HY.out
 cases ans
 ·obtain rfl:=NO.out fun k=>by
   have:=hy.2 k.2.2
   simp at this
  clear hy
  go_wp2
  go_ret
  exact⟨rfl,aL⟩
 ·have hk:=hy.1 rfl
  obtain rfl:c=0:=by
   rcases HC.out with⟨e,_⟩|⟨_,k⟩
   ·exact e
   ·exact absurd ⟨by show 1≤m.e;omega,by show m.e≤1048576;omega,hk⟩ k
  clear hy hk
  go_wp2
  go_ret
  exact⟨rfl,aL⟩
end Go.Proofs.YtmngcecomcadkaaGreatDoor
