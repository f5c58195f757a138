/- Texts of one layer, one behind the other. -/
import Derived.Test.YtpifdeoepppadaaGreatDoorG8
import Derived.Lib.SliceRun
import Derived.Shelf.Abstract
import Derived.Test.YtpifdeoepppadaaGreatDoorG7
import Derived.Test.YtpifdeoepppadaaGreatDoorG1
import Derived.Laws.StructEq
set_option maxRecDepth 100000
set_option maxHeartbeats 8000000
namespace Go.Proofs.YtpifdeoepppadaaGreatDoor
open Go.RowKit
set_option linter.unusedVariables false
set_option maxRecDepth 100000
def bK (e:TypeId) (w w':World):Prop:=∀(g:Nat) (cs:Array Value) (t:TypeId) (fr:Nat×Nat),w.heap[g]? =some (.cells cs t fr)→t≠e→w'.heap[g]? =some (.cells cs t fr)
theorem bK.refl (e:TypeId)(w:World):bK e w w:=fun _ _ _ _ h _=>h
theorem bK.trans {e:TypeId}{w w1 w2:World}(h:bK e w w1)(k:bK e w1 w2):bK e w w2:=fun g cs t fr hg ht=>k g cs t fr (h g cs t fr hg ht) ht
theorem bK.of_below {e:TypeId}{w w':World}(h:Below w.heap.size w w'):bK e w w':=fun g cs t fr hg _=>(h.block g (aA hg)).trans hg
theorem Own.akT {k:IntKind}{e:TypeId}{base:Nat}{w:World}{v:Value}{zs:List Int}(h:Own k e base w v zs){g:Nat}(hg:v.ownBlock=some g):∃cs,w.heap[g]? =some (.cells cs e (0,0)):=by
 rcases h.2.2 with⟨rfl,_⟩|⟨g',cap,cur,rfl,_,hh,_⟩
 ·simp[Value.ownBlock]at hg
 ·simp[Value.ownBlock]at hg
  subst hg
  exact⟨_,hh⟩
theorem bK.aT {k:IntKind}{e:TypeId}{base:Nat}{w w':World}{v:Value}{zs:List Int}(h:Own k e base w v zs)(hg:w.grownBy w' v.ownBlock):bK e w w':=by
 intro g cs t fr hc ht
 refine(hg.block g (aA hc) fun e1=>?_).trans hc
 obtain⟨cs',h'⟩:=h.akT e1.symm
 rw[h']at hc
 simp at hc
 exact ht hc.2.1.symm
section
variable {P:Program} {w:World} {ops:Array Oper} {rest:List Oper} {o:Oper} {a:Act} {Q:Exit→Act→World→Prop}
theorem o8 (hgd:o.guard=none)(sl x:Operand)(t u:TypeId)
  (ho:o.op=.call {callee:=.builtin .append,args:=#[sl,x],argTypes:=#[t,u]})
  (e:TypeId) (base:Nat) (ht:P.underlying t=some (.slice e)) (hu:P.underlying u=some .string) (hinfo:(P.info? e).map (fun i=>(i.zero,i.size,i.bytes))=some (some (.int .u8 0),1,1))
  (v:Value) (zs:List Int) (hs:a.eval sl=v) (hown:Own .u8 e base w v zs) (s:ByteArray) (hx:a.eval x=.string s)
  (hlen:zs.length+s.size≤140737488355328) (hbase:base≤w.heap.size)
  (h:∀v' w',Own .u8 e base w' v' (zs++Om.ints s.data.toList)→Below base w w'→bK e w w'→wpList P ops Q rest (a.put o.dst v') w'):wpList P ops Q (o::rest) a w:=by
 obtain⟨i,hi,hz,hsize,hb⟩:=info_parts hinfo
 refine Lib.wpList_append_own_string w hgd sl x t u ho base e i ht hu hi hz hsize hb v zs.length _ hs hown.2 s hx (by unfold maxLen;omega) hlen hbase fun v' w' h1 h2 _=>?_
 refine h v' w' ⟨?_,?_⟩ ((Below.refl _ _).grown h2 hbase fun k' hk=>(hown.2.lt k' hk).1) (bK.aT hown h2)
 ·intro z hz
  rcases List.mem_append.1 hz with hz|hz
  ·exact hown.1 z hz
  ·unfold Om.ints at hz
   obtain⟨c,_,rfl⟩:=List.mem_map.1 hz
   have:=c.toNat_lt
   exact wf_u8 (by omega) (by omega)
 ·have e1:zs.length+s.size=(zs++Om.ints s.data.toList).length:=by rw[List.length_append,Om.jh,Lib.size_eq]
  rw[e1]at h1
  simpa[Lib.strCells_eq,Lib.byteCells,Om.ints,List.map_append,Function.comp_def]using h1
end
theorem anH (vb:Value)(bs:List Int)(w:World)(hb:Is .u8 w vb bs)(hl:bs.length≤140737488355328):
  Calls Tryz.prog 221 #[vb] w fun e w'=>∃v,e=.returned v∧Own .u8 5 w.heap.size w' v bs∧Below w.heap.size w w':=by
 have q:∀(w:World) (a:Option Addr) (n c n' c':Nat),(binOp .eql 71 (.slice a n c) (.slice none n' c')).run Tryz.prog w=.ok (.bool a.isNone) w:=fun w a n c n' c'=>Lib.run_eql_slice_nil w _ _ a n c n' c' Tryz.underlying71
 by_cases hn:vb=.slice none 0 0
 ·subst hn
  have:bs=[]:=by
   rcases hb.2 with⟨_,h⟩|⟨ad,cap,h,_⟩
   ·exact h
   ·simp at h
  subst this
  clear hb hl
  go_enter Tryz.func221,Tryz.ntmps221
  go_wp2
  go_ret
  exact⟨_,rfl,Own.nil _ _ _ _,Below.refl _ _⟩
 ·obtain⟨ad,cap,rfl⟩:∃ad cap,vb=.slice (some ad) bs.length cap:=by
   rcases hb.2 with⟨h,_⟩|⟨ad,cap,h,_⟩
   ·exact absurd h hn
   ·exact⟨ad,cap,h⟩
  clear hn
  obtain⟨w1,hw1,bH,ax,bJ⟩:=lK .u8 5 w #[] 0 [] rfl rfl (by simp[maxLen]) (by simp)
  have hb1:=hb.below ax
  go_enter Tryz.func221,Tryz.ntmps221
  go_wp2_with (at_builtin;refine dA rfl (.tmp 5) (.tmp 6) 71 rfl .u8 5 w.heap.size 1 Tryz.underlying71 Tryz.info5 (by decide) _ [] rfl bJ _ bs rfl hb1 (by simp;omega) (by omega) ?_)
  intro v2 w2 bq aB _
  go_wp2
  go_ret
  exact⟨_,rfl,bq,ax.trans aB⟩
theorem xu (base:Nat)(v:Value)(zs:List Int)(x:Nat)(w:World)(hv:Own .u8 5 base w v zs)(hb:base≤w.heap.size)(hl:zs.length≤140737488355000)(hx:x<128):
  Calls Tryz.prog 222 #[v,.int .i64 x] w fun E w'=>∃v',E=.returned v'∧Own .u8 5 base w' v' (zs++Vm.enc x)∧Below base w w'∧bK 5 w w':=by
 have hz1:(Vm.enc x).length=1:=Vm.iO hx
 go_enter Tryz.func222,Tryz.ntmps222
 go_wp2_with fail
 refine(iG _ [] x _ (Is.nil _ _) (by simp) (by omega) (by omega)).mono ?_
 rintro E w1 ⟨v1,rfl,bJ,ax⟩
 rw[Int.toNat_natCast,List.nil_append]at bJ
 have hb1:=ax.size
 have hv1:=hv.below ax
 have is1:=bJ.is
 go_wp2_with (at_builtin;refine dA rfl (.tmp 5) (.tmp 8) 71 rfl .u8 5 base 1 Tryz.underlying71 Tryz.info5 (by decide) _ zs rfl hv1 _ (Vm.enc x) rfl is1 (by omega) (by omega) ?_)
 intro v2 w2 bq aB gJ
 go_wp2
 go_ret
 exact⟨_,rfl,bq,(ax.mono hb).trans aB,(bK.of_below ax).trans (bK.aT hv1 gJ)⟩
theorem afb (k:ByteArray)(n:Nat):List.take (k.size-n) (List.drop n k.data.toList)=List.drop n k.data.toList:=by
 rw[List.take_of_length_le]
 rw[List.length_drop,←Lib.size_eq]
 exact Nat.le_refl _
theorem ahQ (base:Nat)(v:Value)(zs:List Int)(k:ByteArray)(n:Nat)(w:World)(hv:Own .u8 5 base w v zs)(hb:base≤w.heap.size)(hl:zs.length≤140737488354000)(hk:k.size≤64)(hn:n≤k.size):
  Calls Tryz.prog 235 #[v,.string k,.int .i64 n] w fun E w'=>∃v',E=.returned v'∧Own .u8 5 base w' v' (zs++(Vm.enc n++(Vm.enc (k.size-n)++Om.ints (k.data.toList.drop n))))∧Below base w w'∧bK 5 w w':=by
 have hz1:(Vm.enc n).length=1:=Vm.iO (by omega)
 have hz2:(Vm.enc (k.size-n)).length=1:=Vm.iO (by omega)
 have hsub:(k.size:Int)-n=((k.size-n:Nat):Int):=by omega
 have hdt:=afb k n
 go_enter Tryz.func235,Tryz.ntmps235
 go_wp2_with fail
 refine(xu base v zs n _ hv hb (by omega) (by omega)).mono ?_
 rintro E w1 ⟨v1,rfl,bJ,ax,kp1⟩
 have hb1:=ax.size
 go_wp2_with fail
 refine(xu base v1 _ (k.size-n) _ bJ (by omega) (by simp;omega) (by omega)).mono ?_
 rintro E w2 ⟨v2,rfl,bq,aB,kp2⟩
 have hb2:=aB.size
 have hl2:(zs++Vm.enc n++Vm.enc (k.size-n)).length≤140737488354100:=by rw[List.length_append,List.length_append];omega
 go_wp2_with (at_builtin;refine o8 rfl (.tmp 16) (.tmp 19) 71 9 rfl 5 base Tryz.underlying71 Tryz.underlying9 Tryz.info5 _ _ rfl bq _ rfl ?q1 (by omega) ?_)
 case q1=>simp;simp at hl2;omega
 intro v3 w3 df aH kp3
 go_wp2
 go_ret
 exact⟨_,rfl,df,(ax.trans aB).trans aH,(kp1.trans kp2).trans kp3⟩
theorem Tryz.aes:∀args w,(callFunc 235 args).run Tryz.prog w=.ok (.enter 235 args) w:=enters_of Tryz.func235 (by kernel_rfl) rfl
theorem yS {P:Program}{ops:Array Oper}{o:Oper}{a:Act}{w:World}{K:Act→World→Prop}{Q:Exit→Act→World→Prop}{E:Prop}(hgd:o.guard=none)(f:FuncId)(args:Array Operand)(ts:Array TypeId)
  (ho:o.op=.call {callee:=.value (.func f),args:=args,argTypes:=ts}) (hent:∀args w,(callFunc f args).run P w=.ok (.enter f args) w) (vs:Array Value) (hvs:args.map a.eval=vs)
  {R:Value→World→Prop} (hc:Calls P f vs w fun e w'=>∃v,e=.returned v∧R v w') (h:∀v w',R v w'→K (a.put o.dst v) w'):
  if Region.wanted o (yielded ops a.tmps)=true then Oper.wp P o a w K Q else E:=by
 have hw:Region.wanted o (yielded ops a.tmps)=true:=by simp[Region.wanted,hgd]
 rw[if_pos hw]
 unfold Oper.wp
 simp only[execOp,ho,resolve,invoke,Sem.run_bind,hvs]
 simp only[Act.eval,Deferred.ofValue,Sem.run_pure,Result.andThen_ok,Array.empty_append,hent]
 rw[Oper.upon_enter]
 refine hc.mono ?_
 rintro e w' ⟨v,rfl,hr⟩
 exact h v w' hr
theorem ap8 {ah:List UInt8}{k u:ByteArray}{n:Nat}(hn:Bm.com ah k.data.toList=n):Bm.gy ah ⟨false,k,u⟩=[0]++(Vm.enc n++(Vm.enc (k.size-n)++Om.ints (k.data.toList.drop n))):=by
 unfold Bm.gy Bm.nk Bm.Ov.bit Bm.Ov.kl
 simp only[hn,List.length_drop,←Lib.size_eq]
 rw[if_neg (by simp),if_neg (by simp),Vm.mK (by omega)]
 simp
theorem aq1 {ah:List UInt8}{k u:ByteArray}{n:Nat}(hn:Bm.com ah k.data.toList=n):Bm.gy ah ⟨true,k,u⟩=[1]++(Vm.enc n++(Vm.enc (k.size-n)++Om.ints (k.data.toList.drop n)))++Vm.enc u.size++Om.ints u.data.toList:=by
 unfold Bm.gy Bm.nk Bm.Ov.bit Bm.Ov.kl Bm.Ov.vl Om.cnt
 simp only[hn,List.length_drop,←Lib.size_eq]
 rw[if_pos trivial,if_pos trivial,Vm.mK (by omega)]
 simp
theorem aoH (base:Nat)(v:Value)(zs:List Int)(o:Bm.Ov)(ah:ByteArray)(w:World)(hv:Own .u8 5 base w v zs)(hb:base≤w.heap.size)(hl:zs.length≤140737488353000)(hah:ah.size≤64)(hc:o.c=0):
  Calls Tryz.prog 223 #[v,tu o.p o.k o.v,.string ah] w fun E w'=>∃v',E=.returned v'∧Own .u8 5 base w' v' (zs++Bm.gy ah.data.toList o)∧Below base w w'∧bK 5 w w':=by
 obtain⟨p,k,u⟩:=o
 have hh:=Om.fI hc
 have hcl:=Bm.zh ah.data.toList k.data.toList
 simp only[Bm.Ov.kl,Bm.Ov.vl,←Lib.size_eq]at hh hcl
 clear hc
 unfold tu
 simp only
 obtain⟨n,hn⟩:∃n,Bm.com ah.data.toList k.data.toList=n:=⟨_,rfl⟩
 rw[hn]at hcl
 have hnk:=hcl.2.1
 have hk16:=hh.2.1
 have hu32:=hh.2.2.1
 have hz1:(Vm.enc n).length=1:=Vm.iO (by omega)
 have hz2:(Vm.enc (k.size-n)).length=1:=Vm.iO (by omega)
 have hz3:(Vm.enc u.size).length=1:=Vm.iO (by omega)
 have hz4:(Om.ints (k.data.toList.drop n)).length≤16:=by rw[Om.jh,List.length_drop,←Lib.size_eq];omega
 obtain⟨w0,hw0,tL,dx,agI⟩:=ay w #[.bool p,.string k,.string u] 106
 have c0:=ai agI 0 rfl
 have c1:=ai agI 1 rfl
 have c2:=ai agI 2 rfl
 have HN:=hide hn
 have HB:=hide agI
 clear hn hh agI hcl
 cases p
 ·rw[ap8 HN.out]
  go_enter Tryz.func223,Tryz.ntmps223
  go_wp2_with fail
  refine(wH ah k _ (by omega) (by omega)).mono ?_
  rintro E w1 ⟨rfl,ax⟩
  rw[HN.out]
  have bH:=ax.size
  have d0:=(ax.cell (p:=⟨w.heap.size,0,none⟩) (by simp[tL])).trans c0
  have d1:=(ax.cell (p:=⟨w.heap.size,1,none⟩) (by simp[tL])).trans c1
  have B1:=hide ((ax.block w.heap.size (by omega)).trans HB.out)
  have wP:Below w.heap.size w w1:=dx.trans (ax.mono dx.size)
  have hv1:=hv.below wP
  clear c0 c1 c2 HB dx ax hw0
  obtain⟨w2,hw2,fA,aB,bq⟩:=lK .u8 5 w1 #[.int .u8 0] 1 [0] rfl rfl (by simp[maxLen]) (by simp[wf_u8])
  have e0:=(aB.cell (p:=⟨w.heap.size,0,none⟩) (by simp;omega)).trans d0
  have e1:=(aB.cell (p:=⟨w.heap.size,1,none⟩) (by simp;omega)).trans d1
  have B2:=hide ((aB.block w.heap.size (by omega)).trans B1.out)
  have i1:=fun m=>(hv1.below aB).drewN m
  have i2:=fun m=>bq.is.drewN m
  have HZ:=hide hl
  go_wp2_with fail
  go_region_law (first
   |(refine uY rfl (.tmp 15) (.tmp 16) 71 rfl .u8 5 base 1 Tryz.underlying71 Tryz.info5 (by decide) _ zs (by simp[Act.eval]) (i1 1) _ [0] (by simp[Act.eval]) (i2 1) (by simp;omega) (by simp;omega) ?_;intro v3 w3 df aH gr3;have B3:=bK.aT (i1 1) gr3 _ _ _ _ B2.out (by decide);have f0:=ai B3 0 rfl;have f1:=ai B3 1 rfl;have f2:=ai B3 2 rfl;replace B3:=hide B3)
   |(refine yS rfl 235 #[.tmp 17,.tmp 19,.tmp 20] #[71,9,3] rfl Tryz.aes #[v3,.string k,.int .i64 n] (by simp[Act.eval]) ((ahQ base v3 _ k n _ df (by have:=aH.size;simp at this;omega) (by simp;omega) (by omega) hnk).mono (by rintro E w' ⟨v',rfl,h⟩;exact⟨v',rfl,h⟩)) ?_;rintro v4 w4 ⟨bM,aS,kp4⟩))
  all_goals
   have aX:Below base w w4:=(((wP.mono hb).trans (aB.mono (by omega))).trans ((Below.refl _ _).drew.trans aH)).trans aS
   have kp5:bK 5 w w4:=((((bK.of_below wP).trans (bK.of_below aB)).trans (bK.of_below (below_drewN (Below.refl w2.heap.size w2) 1))).trans (bK.aT (i1 1) gr3)).trans kp4
   have dI:Own .u8 5 base w4 v4 (zs++0::(Vm.enc n++(Vm.enc (k.size-n)++Om.ints (List.drop n k.data.toList)))):=by simpa using bM
   clear i1 i2 bM df gr3 aH aS kp4 f0 f1 f2 e0 e1 d0 d1 B1 B2 B3
   go_wp2
   go_ret
   exact⟨_,rfl,dI,aX,kp5⟩
 ·rw[aq1 HN.out]
  go_enter Tryz.func223,Tryz.ntmps223
  go_wp2_with fail
  refine(wH ah k _ (by omega) (by omega)).mono ?_
  rintro E w1 ⟨rfl,ax⟩
  rw[HN.out]
  have bH:=ax.size
  have d0:=(ax.cell (p:=⟨w.heap.size,0,none⟩) (by simp[tL])).trans c0
  have d1:=(ax.cell (p:=⟨w.heap.size,1,none⟩) (by simp[tL])).trans c1
  have B1:=hide ((ax.block w.heap.size (by omega)).trans HB.out)
  have wP:Below w.heap.size w w1:=dx.trans (ax.mono dx.size)
  have hv1:=hv.below wP
  clear c0 c1 c2 HB dx ax hw0
  obtain⟨w2,hw2,fA,aB,bq⟩:=lK .u8 5 w1 #[.int .u8 1] 1 [1] rfl rfl (by simp[maxLen]) (by simp[wf_u8])
  have e0:=(aB.cell (p:=⟨w.heap.size,0,none⟩) (by simp;omega)).trans d0
  have e1:=(aB.cell (p:=⟨w.heap.size,1,none⟩) (by simp;omega)).trans d1
  have B2:=hide ((aB.block w.heap.size (by omega)).trans B1.out)
  have i1:=fun m=>(hv1.below aB).drewN m
  have i2:=fun m=>bq.is.drewN m
  have HZ:=hide hl
  go_wp2_with fail
  go_region_law (first
   |(refine uY rfl (.tmp 22) (.tmp 23) 71 rfl .u8 5 base 1 Tryz.underlying71 Tryz.info5 (by decide) _ zs (by simp[Act.eval]) (i1 1) _ [1] (by simp[Act.eval]) (i2 1) (by simp;omega) (by simp;omega) ?_;intro v3 w3 df aH gr3;have B3:=bK.aT (i1 1) gr3 _ _ _ _ B2.out (by decide);have f0:=ai B3 0 rfl;have f1:=ai B3 1 rfl;have f2:=ai B3 2 rfl;replace B3:=hide B3)
   |(refine yS rfl 235 #[.tmp 24,.tmp 26,.tmp 27] #[71,9,3] rfl Tryz.aes #[v3,.string k,.int .i64 n] (by simp[Act.eval]) ((ahQ base v3 _ k n _ df (by have:=aH.size;simp at this;omega) (by simp;omega) (by omega) hnk).mono (by rintro E w' ⟨v',rfl,h⟩;exact⟨v',rfl,h⟩)) ?_;rintro v4 w4 ⟨bM,aS,kp4⟩))
  all_goals
   have aX:Below base w w4:=(((wP.mono hb).trans (aB.mono (by omega))).trans ((Below.refl _ _).drew.trans aH)).trans aS
   have kp5:bK 5 w w4:=((((bK.of_below wP).trans (bK.of_below aB)).trans (bK.of_below (below_drewN (Below.refl w2.heap.size w2) 1))).trans (bK.aT (i1 1) gr3)).trans kp4
   have B4:=kp4 _ _ _ _ B3.out (by decide)
   have g2:=ai B4 2 rfl
   have pK:=aX.size
   replace B4:=hide B4
   have hl5:(zs++[1]++(Vm.enc n++(Vm.enc (k.size-n)++Om.ints (List.drop n k.data.toList)))).length≤140737488353100:=by simp only[List.length_append,List.length_cons,List.length_nil];omega
   generalize hz5:zs++[1]++(Vm.enc n++(Vm.enc (k.size-n)++Om.ints (List.drop n k.data.toList)))=z5 at*
   have HZ5:=hide hz5
   clear hz5 i1 i2 df gr3 aH aS kp4 f0 f1 f2 e0 e1 d0 d1 B1 B2 B3
   go_wp2_with fail
   refine(xu base v4 z5 u.size _ bM (by omega) (by omega) (by omega)).mono ?_
   rintro E w6 ⟨v6,rfl,eu,dJ,kp6⟩
   have tC:=dJ.size
   have g3:=ai (kp6 _ _ _ _ B4.out (by decide)) 2 rfl
   go_wp2_with (at_builtin;refine o8 rfl (.tmp 34) (.tmp 36) 71 9 rfl 5 base Tryz.underlying71 Tryz.underlying9 Tryz.info5 _ _ rfl eu u rfl ?q1 (by omega) ?_)
   case q1=>simp only[List.length_append];omega
   intro v7 w7 jO fQ kp7
   have mP:Own .u8 5 base w7 v7 (zs++([1]++(Vm.enc n++(Vm.enc (k.size-n)++Om.ints (List.drop n k.data.toList)))++Vm.enc u.size++Om.ints u.data.toList)):=by
    rw[←HZ5.out]at jO
    simpa using jO
   clear jO eu bM
   go_wp2
   go_ret
   exact⟨_,rfl,by simpa using mP,(aX.trans dJ).trans fQ,(kp5.trans kp6).trans kp7⟩
theorem ahA {l:List Bm.Ov}{k:Nat}{o:Bm.Ov}(ho:l[k]? =some o):l.take (k+1)=l.take k++[o]:=by
 obtain⟨hk,rfl⟩:=List.getElem?_eq_some_iff.1 ho
 exact List.take_succ_eq_append_getElem hk
theorem aoi {l:List Bm.Ov}{k:Nat}{o:Bm.Ov}(ho:l[k]? =some o):Bm.eP [] (l.take (k+1))=Bm.eP [] (l.take k)++Bm.gy (Bm.aj [] (l.take k)) o:=by
 rw[ahA ho,Bm.sP]
theorem akB {l:List Bm.Ov}(hc:Bm.eF l=0)(k:Nat):(Bm.eP [] (l.take k)).length≤420:=by
 obtain⟨h1,h2,h3⟩:=Bm.dM hc
 have h4:∀o∈l.take k,Bm.Ov.c o=0:=fun o ho=>h3 o (List.mem_of_mem_take ho)
 have:=Bm.acZ [] (l.take k) h4
 have:=Bm.aik h4
 have:(l.take k).length≤8:=by rw[List.length_take];omega
 omega
theorem aqY (vb:Value)(bs:List Int)(vl:Value)(l:List Bm.Ov)(w:World)(hb:Is .u8 w vb bs)(hl:bs.length≤140737488351700)(h:dm w vl l)(hf:fG l)(hll:l.length≤140737488355328):
  Calls Tryz.prog 209 #[vb,vl] w fun E w'=>∃v',E=.returned (.tuple #[v',.int .i64 (Bm.eF l)])∧Own .u8 5 w.heap.size w' v' (Bm.ah0 bs l)∧Below w.heap.size w w':=by
 by_cases hc:Bm.eF l=0
 ·rw[hc,Bm.ajc hc]
  obtain⟨h1,h8,h3⟩:=Bm.dM hc
  obtain⟨b1,o1,c1,rfl,_,_,hB,hcell⟩:=h.full (by omega)
  have HC:=hide hc
  have HL:=hide hcell
  have H3:=hide h3
  have HE:=hide (akB hc)
  have hz1:(Vm.enc l.length).length=1:=Vm.iO (by omega)
  have hlen:(l.length:Int)≤8:=by omega
  clear hc hcell h3
  go_enter Tryz.func209,Tryz.ntmps209
  go_wp2_with fail
  refine(mX _ l _ h hf hll).mono ?_
  rintro E w1 ⟨rfl,ax⟩
  rw[HC.out]
  have bH:=ax.size
  have hb1:=hb.below ax
  go_wp2_with fail
  refine(anH _ bs _ hb1 (by omega)).mono ?_
  rintro E w2 ⟨v2,rfl,bq,aB⟩
  have fA:=aB.size
  replace bq:=bq.bz bH
  go_wp2_with fail
  refine(xu w.heap.size v2 bs l.length _ bq (by omega) (by omega) (by omega)).mono ?_
  rintro E w3 ⟨v3,rfl,df,aH,_⟩
  have fZ:=aH.size
  have bP:Below w.heap.size w w3:=(ax.trans (aB.mono bH)).trans aH
  clear bq ax aB aH hb1
  go_wp2
  go_loopw [7,8,24] (fun ov av i wr=>∃(k:Nat) (ah:ByteArray),k≤l.length∧i=.int .i64 k∧av=.string ah∧Hid (ah.data.toList=Bm.aj [] (l.take k))∧ah.size≤64∧Own .u8 5 w.heap.size wr ov (bs++Vm.enc l.length++Bm.eP [] (l.take k))∧Below w.heap.size w wr) (fun _ _ i _=>l.length-(intOf i).toNat)
  case atStart=>exact⟨0,⟨#[]⟩,by omega,rfl,rfl,hide rfl,by simp[ByteArray.size],by simpa[Bm.eP]using df,bP⟩
  case round=>
   obtain⟨k,ah,hk,rfl,rfl,HA,hah,own,aF⟩:=hrel
   have sz:=aF.size
   by_cases hlt:k<l.length
   ·obtain⟨o,ho⟩:∃o,l[k]? =some o:=⟨l[k],by rw[List.getElem?_eq_getElem]⟩
    obtain⟨c0,c1,c2⟩:=HL.out k o ho
    have d0:=(aF.cell (p:=⟨b1,o1+k*3,none⟩) hB).trans c0
    have d1:=(aF.cell (p:=⟨b1,o1+k*3+1,none⟩) hB).trans c1
    have d2:=(aF.cell (p:=⟨b1,o1+k*3+2,none⟩) hB).trans c2
    have HO:=hide ho
    have hoc:=H3.out o (List.mem_of_getElem? ho)
    have pY:o.k.size≤64:=by have:=(Om.fI hoc).2.1;simp only[Bm.Ov.kl,←Lib.size_eq]at this;omega
    have hel:=HE.out k
    have e5:bs++Vm.enc l.length++Bm.eP [] (l.take k)++Bm.gy ah.data.toList o=bs++Vm.enc l.length++Bm.eP [] (l.take (k+1)):=by rw[aoi ho,HA.out,←List.append_assoc]
    have HA2:Hid (o.k.data.toList=Bm.aj [] (l.take (k+1))):=hide (by rw[ahA ho,Bm.nX];rfl)
    have hlz:(bs++Vm.enc l.length++Bm.eP [] (l.take k)).length≤140737488353000:=by simp only[List.length_append];omega
    generalize bs++Vm.enc l.length++Bm.eP [] (l.take k)=zs at*
    have E5:=hide e5
    clear c0 c1 c2 ho e5
    have hlt':(k:Int)<l.length:=by omega
    obtain⟨w4,hw4,pK,aS,agu⟩:=ay wr #[.bool o.p,.string o.k,.string o.v] 106
    have f0:=ai agu 0 rfl
    have f1:=ai agu 1 rfl
    have f2:=ai agu 2 rfl
    have B4:=hide agu
    clear agu
    go_wp2_with fail
    refine(aoH w.heap.size _ zs o ah _ (own.below aS) (by omega) (by omega) hah hoc).mono ?_
    rintro E w5 ⟨v5,rfl,dI,aX,kp5⟩
    rw[E5.out]at dI
    have B5:=kp5 _ _ _ _ B4.out (by decide)
    have g1:=ai B5 1 rfl
    have dJ:Below w.heap.size w w5:=(aF.trans (aS.mono sz)).trans aX
    clear own aS aX kp5 B5 d0 d1 d2 f0 f1 f2 hel hlz
    go_wp2
    go_roundw
    case rel=>exact⟨k+1,o.k,by omega,by go_num,rfl,HA2,pY,dI,dJ⟩
    case measure=>simp[intOf];omega
   ·have hlt':¬(k:Int)<l.length:=by omega
    rw[List.take_of_length_le (by omega),List.append_assoc]at own
    go_wp2
    go_ret2
    exact⟨_,rfl,own,aF⟩
 ·rw[Bm.atT hc]
  obtain⟨c,hcc⟩:∃c,Bm.eF l=c:=⟨_,rfl⟩
  have h0:(c !=0)=true:=by rw[←hcc];simpa using hc
  obtain⟨ao,cp,rfl,_,_⟩:=hb.shape
  rw[hcc]
  have HC:=hide hcc
  clear hc hcc
  go_enter Tryz.func209,Tryz.ntmps209
  go_wp2_with fail
  refine(mX _ l _ h hf hll).mono ?_
  rintro E w1 ⟨rfl,ax⟩
  rw[HC.out]
  go_wp2
  go_ret2
  exact⟨_,rfl,Own.nil _ _ _ _,ax⟩
theorem aV.qz {e base g:Nat}{w w':World}{v:Value}{l:List Bm.Ov}(h:aV e base w v l)(hg:w.grownBy w' (some g))(hb:g<base):aV e base w' v l:=by
 refine h.kept hg ?_
 cases hv:v.ownBlock with
 |none=>exact .inl rfl
 |some b=>
  refine .inr fun e=>?_
  have:=h.block b hv
  simp at e
  omega
section
variable {P:Program} {w:World} {v:Value}
end
structure Cw where
 e:Int
 n:Int
 v:Value
 l:List Bm.Ov
def Cw.c (c:Cw):Cm.Cv:=⟨c.e,c.n,c.l⟩
def aD (r:List Cw):List Cm.Cv:=r.map Cw.c
def cZ (e n:Int) (v:Value):Value:=.agg #[.int .i64 e,.int .i64 n,v]
def gD (c:Cw):List Value:=[.int .i64 c.e,.int .i64 c.n,c.v]
def ccells:List Cw→List Value
 |[]=>[]
 |c::r=>gD c++ccells r
theorem qB:∀(l:List Cw),(ccells l).length=l.length*3
 |[]=>rfl
 |o::r=>by
  have:=qB r
  simp only[ccells,gD,List.length_append,List.length_cons,List.length_nil]
  omega
theorem wK:∀(l m:List Cw),ccells (l++m)=ccells l++ccells m
 |[],_=>rfl
 |o::l,m=>by simp only[List.cons_append,ccells,wK l m,List.append_assoc]
theorem ll:∀(l:List Cw),(∀c∈l,c.v.oneCell'=true)→∀u∈ccells l,u.oneCell'=true
 |[],_,u,h=>by simp[ccells]at h
 |o::r,hv,u,h=>by
  rcases List.mem_append.1 h with h|h
  ·simp only[gD,List.mem_cons,List.not_mem_nil,or_false]at h
   rcases h with rfl|rfl|rfl
   ·rfl
   ·rfl
   ·exact hv o (List.mem_cons_self ..)
  ·exact ll r (fun c hc=>hv c (List.mem_cons_of_mem _ hc)) u h
theorem tO:∀(l:List Cw) (i:Nat) (hi:i<l.length),(ccells l)[i*3]? =some (.int .i64 l[i].e)∧(ccells l)[i*3+1]? =some (.int .i64 l[i].n)∧(ccells l)[i*3+2]? =some l[i].v
 |[],_,hi=>by simp at hi
 |o::r,0,hi=>by simp[ccells,gD]
 |o::r,i+1,hi=>by
  have:=tO r i (by simpa using hi)
  simp only[ccells,gD]
  rw[show(i+1)*3=i*3+3 by omega]
  simpa[List.getElem?_append]using this
theorem uq:∀(l:List Cw) (p:Nat),ccells (l.take p)=(ccells l).take (p*3)
 |[],p=>by simp[ccells]
 |o::l,0=>by simp[ccells]
 |o::l,p+1=>by
  rw[List.take_succ_cons,show(p+1)*3=p*3+3 by omega]
  simp[ccells,gD,uq l p]
theorem aaC:∀(l:List Cw) (p:Nat),ccells (l.drop p)=(ccells l).drop (p*3)
 |[],p=>by simp[ccells]
 |o::l,0=>by simp[ccells]
 |o::l,p+1=>by
  rw[List.drop_succ_cons,show(p+1)*3=p*3+3 by omega]
  simp[ccells,gD,aaC l p]
theorem dm.one {w:World}{v:Value}{l:List Bm.Ov}(h:dm w v l):v.oneCell'=true:=by
 obtain⟨ao,cap,rfl,_⟩:=h.shape
 rfl
def In64 (x:Int):Prop:=-9223372036854775808≤x∧x<9223372036854775808
def InC (w:World) (r:List Cw):Prop:=∀c∈r,dm w c.v c.l∧In64 c.e∧In64 c.n
def fF (r:List Cw):Prop:=∀c∈r,fG c.l∧c.l.length*40≤140737488351232
theorem InC.below {w w':World}{r:List Cw}(h:InC w r)(hb:Below w.heap.size w w'):InC w' r:=fun c hc=>⟨(h c hc).1.below hb,(h c hc).2⟩
theorem InC.take {w:World}{r:List Cw}(h:InC w r)(p:Nat):InC w (r.take p):=fun c hc=>h c (List.mem_of_mem_take hc)
theorem fF.take {r:List Cw}(h:fF r)(p:Nat):fF (r.take p):=fun c hc=>h c (List.mem_of_mem_take hc)
def dZ (w:World) (v:Value) (r:List Cw):Prop:=
 (v=.slice none 0 0∧r=[])∨∃ad cap,v=.slice (some ad) r.length cap∧r.length≤cap∧cap≤maxLen∧∀j u,(ccells r)[j]? =some u→w.cell? (ad.add j)=some u
def fJ (w:World) (v:Value) (r:List Cw):Prop:=dZ w v r∧InC w r
def bG (e:TypeId) (base:Nat) (w:World) (v:Value) (r:List Cw):Prop:=w.ownsRow base e 3 v r.length (ccells r)
theorem dZ.nil (w:World):dZ w (.slice none 0 0) []:=.inl ⟨rfl,rfl⟩
theorem fJ.nil (w:World):fJ w (.slice none 0 0) []:=⟨dZ.nil w,fun c hc=>by simp at hc⟩
theorem bG.nil (e:TypeId)(base:Nat)(w:World):bG e base w (.slice none 0 0) []:=World.ownsRow_nil _ _ _ _
theorem dZ.below {w w':World}{v:Value}{l:List Cw}(h:dZ w v l)(hb:Below w.heap.size w w'):dZ w' v l:=by
 rcases h with h|⟨ad,cap,hv,h1,h2,hc⟩
 ·exact .inl h
 ·refine .inr ⟨ad,cap,hv,h1,h2,fun j u hj=>?_⟩
  have:=hc j u hj
  rw[hb.cell (World.block_lt_of_cell? _ _ this)]
  exact this
theorem fJ.below {w w':World}{v:Value}{l:List Cw}(h:fJ w v l)(hb:Below w.heap.size w w'):fJ w' v l:=⟨h.1.below hb,h.2.below hb⟩
theorem dZ.shape {w:World}{v:Value}{l:List Cw}(h:dZ w v l):∃ao cap,v=.slice ao l.length cap∧l.length≤cap∧cap≤maxLen:=by
 rcases h with⟨hv,e⟩|⟨ad,cap,hv,h1,h2,_⟩
 ·subst e;exact⟨none,0,hv,by simp,by simp⟩
 ·exact⟨some ad,cap,hv,h1,h2⟩
theorem dZ.full {w:World}{v:Value}{l:List Cw}(h:dZ w v l)(hne:0<l.length):
  ∃b off cap,v=.slice (some ⟨b,off,none⟩) l.length cap∧l.length≤cap∧cap≤maxLen∧b<w.heap.size∧
   ∀i c,l[i]? =some c→w.cell? ⟨b,off+i*3,none⟩=some (.int .i64 c.e)∧w.cell? ⟨b,off+i*3+1,none⟩=some (.int .i64 c.n)∧w.cell? ⟨b,off+i*3+2,none⟩=some c.v:=by
 rcases h with⟨_,h⟩|⟨⟨b,off,spot⟩,cap,hv,h1,h2,hc⟩
 ·subst h;simp at hne
 ·have h0:=hc 0 _ (tO l 0 hne).1
  have hspot:spot=none:=by simpa[Addr.add]using World.cell?_spot h0
  subst hspot
  refine⟨b,off,cap,hv,h1,h2,World.block_lt_of_cell? _ _ h0,fun i o jo=>?_⟩
  obtain⟨hi,rfl⟩:=List.getElem?_eq_some_iff.1 jo
  obtain⟨g1,g2,g3⟩:=tO l i hi
  have k1:=hc _ _ g1
  have k2:=hc _ _ g2
  have k3:=hc _ _ g3
  rw[fD]at k1 k2 k3
  exact⟨k1,by rw[Nat.add_assoc];exact k2,by rw[Nat.add_assoc];exact k3⟩
theorem bG.row {e base:Nat}{w:World}{v:Value}{l:List Cw}(h:bG e base w v l):dZ w v l:=by
 rcases h.2 with⟨hv,hn⟩|⟨g,cap,cur,hv,h1,hh,hc,hm,hs,ht⟩
 ·exact .inl ⟨hv,List.eq_nil_of_length_eq_zero hn⟩
 ·refine .inr ⟨⟨g,0,none⟩,cap,hv,hc,hm,fun j u hj=>?_⟩
  exact h.cells (by rw[hv];rfl) j u hj
theorem anP {e base size n:Nat}{w w':World}{v:Value}{xs:List Value}(h:w.ownsRow base e size v n xs)(hb:Below w.heap.size w w'):w'.ownsRow base e size v n xs:=by
 refine⟨h.1,?_⟩
 rcases h.2 with h|⟨g,cap,cur,hv,h1,hh,r⟩
 ·exact .inl h
 ·refine .inr ⟨g,cap,cur,hv,h1,?_,r⟩
  rw[hb.block g (Array.getElem?_eq_some_iff.1 hh).1]
  exact hh
theorem bG.below {e base:Nat}{w w':World}{v:Value}{l:List Cw}(h:bG e base w v l)(hb:Below w.heap.size w w'):bG e base w' v l:=anP h hb
theorem gN (e:TypeId)(w:World)(cs:Array Value)(n:Nat)(l:List Cw)(hn:l.length=n)(h:cs.toList=ccells l)(hm:n≤maxLen):
  ∃W,w.alloc (.cells cs e)=W∧W.heap.size=w.heap.size+1∧Below w.heap.size w W∧bG e w.heap.size W (.slice (some ⟨w.heap.size,0,none⟩) n n) l:=by
 subst hn
 refine⟨_,rfl,by simp,(Below.refl _ _).alloc (Nat.le_refl _) _,?_⟩
 have ho:=World.ownsRow_lit (base:=w.heap.size) (e:=e) (size:=3) w cs l.length (Nat.le_refl _) hm (by have:=congrArg List.length h;rw[qB]at this;simpa using this)
 rw[h]at ho
 exact ho
theorem bK.pI {e base size n:Nat}{w w':World}{v:Value}{xs:List Value}(h:w.ownsRow base e size v n xs)(hg:w.grownBy w' v.ownBlock):bK e w w':=by
 intro g cs t fr hc ht
 refine(hg.block g (aA hc) fun e1=>?_).trans hc
 rcases h.2 with⟨rfl,_⟩|⟨g',cap,cur,rfl,_,hh,_⟩
 ·simp[Value.ownBlock]at e1
 ·simp[Value.ownBlock]at e1
  subst e1
  rw[hh]at hc
  simp at hc
  exact ht hc.2.1.symm
theorem aV.gq {e e' base:Nat}{w w':World}{v:Value}{l:List Bm.Ov}(h:aV e base w v l)(k:bK e' w w')(hne:e≠e'):aV e base w' v l:=by
 refine⟨h.1,?_⟩
 rcases h.2 with h|⟨g,cap,cur,hv,h1,hh,r⟩
 ·exact .inl h
 ·exact .inr ⟨g,cap,cur,hv,h1,k _ _ _ _ hh hne,r⟩
section
variable {P:Program} {w:World} {ops:Array Oper} {rest:List Oper} {o:Oper} {a:Act} {Q:Exit→Act→World→Prop}
theorem jd (hgd:o.guard=none)(s x:Operand)(t:TypeId)
  (ho:o.op=.call {callee:=.builtin .append,args:=#[s,x],argTypes:=#[t,t]})
  (e:TypeId) (base:Nat) (ht:P.underlying t=some (.slice e)) (hinfo:(P.info? e).map (fun i=>(i.zero,i.size,i.bytes))=some (some (.agg #[.int .i64 0,.int .i64 0,.slice none 0 0]),3,40))
  (v:Value) (l:List Cw) (hs:a.eval s=v) (hown:bG e base w v l) (vx:Value) (m:List Cw) (hx:a.eval x=vx) (his:dZ w vx m) (hone:∀c∈m,c.v.oneCell'=true)
  (hlen:(l.length+m.length)*40≤140737488355328) (hbase:base≤w.heap.size)
  (h:∀v' w',bG e base w' v' (l++m)→Below base w w'→bK e w w'→wpList P ops Q rest (a.put o.dst v') w'):wpList P ops Q (o::rest) a w:=by
 obtain⟨i,hi,hz,hsize,hb⟩:=info_parts hinfo
 have hn:l.length+m.length≤140737488355328:=by omega
 rcases his with⟨hv,hy⟩|⟨ad,cap,hv,h1,h2,hc⟩
 ·subst hy
  refine wpList_append_own_none hgd s x t ho base e i 3 ht hi v l.length _ hs hown (hx.trans hv) (h v w (by simpa using hown) (Below.refl _ _) (bK.refl _ _))
 ·refine wpList_append_own w hgd s x t ho base e i _ 3 40 ht hi hz hsize hb rfl (by decide) v l.length _ hs hown ad m.length cap (ccells m) (hx.trans hv) (qB m) hc (ll m hone) (by unfold maxLen;omega) hlen hbase ?_
  intro v' w' ho' hg _
  refine h v' w' (by unfold bG;rw[wK,List.length_append];exact ho') ((Below.refl _ _).grown hg hbase fun k' hk=>?_) (bK.pI hown hg)
  exact(World.ownsRow.lt hown k' hk).1
variable {v:Value}
theorem dZ.jW {l:List Cw}(h:dZ w v l){t:TypeId}(ht:P.underlying t=some (.slice (P.elem t)))(hs:∀wx,(sizeOf (P.elem t)).run P wx=.ok 3 wx)(p:Nat)(hp:p≤l.length):
  ∃vs,(∀wx,(Instr.slice t v none (some (.int .i64 p)) none).run P wx=.ok vs wx)∧dZ w vs (l.take p):=by
 obtain⟨ao,cap,rfl,hcap,hm⟩:=h.shape
 refine⟨.slice ao p cap,fun wx=>?_,?_⟩
 ·rw[run_slice_h wx t ao l.length cap ht .i64 _ (by omega) (by omega),hs]
  simp only[Result.andThen,sliced]
  cases ao<;>simp[Addr.add]
 ·cases ao with
  |none=>
   rcases h with⟨hv,e⟩|⟨ad,cap',hv,_⟩
   ·subst e
    simp at hp hv
    subst hp hv
    exact dZ.nil _
   ·simp at hv
  |some ad=>
   have hl:(l.take p).length=p:=by rw[List.length_take];omega
   rcases h with⟨hv,_⟩|⟨ad',cap',hv,h1,h2,hc⟩
   ·simp at hv
   ·simp at hv
    obtain⟨rfl,rfl⟩:=hv
    refine .inr ⟨ad,cap,by rw[hl],by omega,h2,fun j u hj=>hc j u ?_⟩
    rw[uq,List.getElem?_take]at hj
    split at hj
    ·exact hj
    ·simp at hj
theorem dZ.dP {l:List Cw}(h:dZ w v l){t:TypeId}(ht:P.underlying t=some (.slice (P.elem t)))(hs:∀wx,(sizeOf (P.elem t)).run P wx=.ok 3 wx)(p:Nat)(hp:p<l.length):
  ∃vs,(∀wx,(Instr.slice t v (some (.int .i64 p)) none none).run P wx=.ok vs wx)∧dZ w vs (l.drop p):=by
 obtain⟨b,off,cap,rfl,hcap,hm,hB,hcell⟩:=h.full (by omega)
 refine⟨.slice (some ⟨b,off+p*3,none⟩) (l.length-p) (cap-p),fun wx=>?_,?_⟩
 ·rw[run_slice_l wx t _ l.length cap ht .i64 _ (by omega) (by omega),hs]
  have hne:¬cap=p:=by omega
  simp[Result.andThen,sliced,hne,fD]
 ·rcases h with⟨hv,_⟩|⟨ad',cap',hv,h1,h2,hc⟩
  ·simp at hv
  ·simp at hv
   obtain⟨rfl,rfl⟩:=hv
   refine .inr ⟨⟨b,off+p*3,none⟩,cap-p,by simp,by simp;omega,by omega,fun j u hj=>?_⟩
   rw[aaC,List.getElem?_drop]at hj
   have:=hc _ _ hj
   rw[fD]at this⊢
   rw[Nat.add_assoc]
   exact this
end
theorem Tryz.uB:(Tryz.prog.info? 32).map (fun i=>(i.zero,i.size,i.bytes))=some (some (.agg #[.int .i64 0,.int .i64 0,.slice none 0 0]),3,40):=by kernel_rfl
theorem Tryz.xq:Tryz.prog.underlying 43=some (.slice (Tryz.prog.elem 43)):=by kernel_rfl
theorem Tryz.wM (wx:World):(sizeOf (Tryz.prog.elem 43)).run Tryz.prog wx=.ok 3 wx:=by kernel_rfl
theorem Tryz.ax4 (op:BinOp)(x y:Operand)(xs ys:Array Value)(w:World):(eqGuard op 106 x y (.agg xs) (.agg ys)).run Tryz.prog w=.ok () w:=run_eqGuard_agg w op 106 x y xs ys (by kernel_rfl)
theorem Tryz.aAc (o q:Bm.Ov)(w:World):(binOp .neq 106 (.agg #[.bool o.p,.string o.k,.string o.v]) (.agg #[.bool q.p,.string q.k,.string q.v])).run Tryz.prog w=.ok (.bool (!Bm.eqO o q)) w:=by
 rw[run_neq_struct,run_equalIn_agg w 9999 106 _ _ (by kernel_rfl) (by kernel_rfl)]
 unfold Program.fieldsOf
 rw[Tryz.underlying106]
 simp[Op.eqFields,go_sem,Tryz.underlying4,Tryz.underlying9]
 unfold Bm.eqO Bm.Ov.kl Bm.Ov.vl
 simp only[Lib.toList_data]
 by_cases h1:o.p=q.p<;>by_cases h2:o.k.data.toList=q.k.data.toList<;>by_cases h3:o.v.data.toList=q.v.data.toList<;>simp[h1,h2,h3]
theorem aaL (va vb:Value)(xs ys:List Bm.Ov)(w:World)(ha:dm w va xs)(hb:dm w vb ys)(hl:xs.length≤140737488355328)(hl':ys.length≤140737488355328):
  Calls Tryz.prog 101 #[va,vb] w fun e w'=>e=.returned (.bool (Bm.sameL xs ys))∧∃m,w'=w.drewN m:=by
 by_cases hne:xs.length=ys.length
 ·by_cases hz:0<xs.length
  ·obtain⟨b1,o1,c1,rfl,_,_,hB1,hc1⟩:=ha.full hz
   obtain⟨b2,o2,c2,rfl,_,_,hB2,hc2⟩:=hb.full (by omega)
   have ht:((xs.length:Int) !=(ys.length:Int))=false:=by simp;omega
   have HL:=hide hne
   have HC1:=hide hc1
   have HC2:=hide hc2
   clear hne ha hb hc1 hc2
   generalize hn:xs.length=n at*
   generalize hm:ys.length=m at*
   have HN:=hide hn
   have HM:=hide hm
   clear hn hm
   go_enter Tryz.func101,Tryz.ntmps101
   go_wp2
   go_loopw [5] (fun i wr=>∃(k:Nat),k≤n∧i=.int .i64 k∧Hid (xs.take k=ys.take k)∧∃m,wr=w.drewN m) (fun i _=>n-(intOf i).toNat)
   case atStart=>exact⟨0,by omega,rfl,hide rfl,0,rfl⟩
   case round=>
    obtain⟨k,hk,rfl,HT,mm,rfl⟩:=hrel
    by_cases hlt:k<n
    ·obtain⟨o,ho⟩:∃o,xs[k]? =some o:=⟨xs[k]'(by have:=HN.out;omega),by rw[List.getElem?_eq_getElem]⟩
     obtain⟨q,hq⟩:∃q,ys[k]? =some q:=⟨ys[k]'(by have:=HM.out;have:=HL.out;omega),by rw[List.getElem?_eq_getElem]⟩
     obtain⟨d0,d1,d2⟩:=HC1.out k o ho
     obtain⟨e0,e1,e2⟩:=HC2.out k q hq
     have hlt':(k:Int)<n:=by omega
     have hlt2:(k:Int)<m:=by have:=HL.out;omega
     have HO:=hide ho
     have HQ:=hide hq
     clear ho hq
     have hnq:=Tryz.aAc o q
     have hgd:=Tryz.ax4
     cases hoq:Bm.eqO o q
     ·have HS:Hid (Bm.sameL xs ys=false):=hide (Bm.ahP fun e=>by
       have h1:=HO.out
       rw[e,HQ.out]at h1
       rw[Bm.adI.2 (Option.some.inj h1.symm)]at hoq
       simp at hoq)
      rw[hoq]at hnq
      clear hoq
      go_wp2
      go_quiet (fail)
      go_wp2
      go_ret
      refine⟨?_,_,World.drewN_drewN _ _ _⟩
      rw[HS.out]
      rfl
     ·have HT2:Hid (xs.take (k+1)=ys.take (k+1)):=hide (by
       rw[List.take_add_one,List.take_add_one,HT.out,HO.out,HQ.out,Bm.adI.1 hoq])
      rw[hoq]at hnq
      clear hoq
      go_wp2
      go_quiet (fail)
      go_wp2
      go_roundw
      case rel=>exact⟨k+1,by omega,by go_num,HT2,_,rfl⟩
      case measure=>simp[intOf];omega
    ·have hlt':¬(k:Int)<n:=by omega
     have HS:Hid (Bm.sameL xs ys=true):=hide (Bm.mi.2 (by
      have h1:=HT.out
      rw[List.take_of_length_le (by have:=HN.out;omega),List.take_of_length_le (by have:=HN.out;have:=HM.out;have:=HL.out;omega)]at h1
      exact h1))
     go_wp2
     go_ret
     refine⟨?_,mm,rfl⟩
     rw[HS.out]
     rfl
  ·have hx:xs=[]:=List.eq_nil_of_length_eq_zero (by omega)
   have hy:ys=[]:=List.eq_nil_of_length_eq_zero (by omega)
   subst hx hy
   obtain⟨a1,c1,rfl⟩:=ha.bare
   obtain⟨a2,c2,rfl⟩:=hb.bare
   clear hl hl' hne hz ha hb
   go_enter Tryz.func101,Tryz.ntmps101
   go_wp2
   refine wp_loop_rounds 1 ?_
   rw[rounds_succ]
   go_wp2
   go_ret
   exact⟨by simp[Bm.sameL],0,rfl⟩
 ·obtain⟨a1,c1,rfl,_,_⟩:=ha.shape
  obtain⟨a2,c2,rfl,_,_⟩:=hb.shape
  have ht:((xs.length:Int) !=(ys.length:Int))=true:=by simp;omega
  have HX:Hid (Bm.sameL xs ys=false):=hide (Bm.ahP fun h=>hne (by rw[h]))
  clear hne
  go_enter Tryz.func101,Tryz.ntmps101
  go_wp2
  go_ret
  exact⟨by rw[HX.out];rfl,0,rfl⟩
theorem an2 (va vb:Value)(xs ys:List Bm.Ov)(w:World)(ha:dm w va xs)(hb:dm w vb ys)(hl:xs.length≤140737488355328)(hl':ys.length≤140737488355328):
  Calls Tryz.prog 101 #[va,vb] w fun e w'=>e=.returned (.bool (Bm.sameL xs ys))∧Below w.heap.size w w':=
 (aaL va vb xs ys w ha hb hl hl').mono (by rintro e w' ⟨rfl,m,rfl⟩;exact⟨rfl,below_drewN (Below.refl _ _) m⟩)
end Go.Proofs.YtpifdeoepppadaaGreatDoor
