/- Texts of one layer, one behind the other. -/
import Derived.Test.YtmngcecomcadkaaGreatDoorCH2
import Derived.SizedLaws
import Derived.Lib.SmallJoins
import Derived.Deep.Slices
set_option maxRecDepth 100000
set_option maxHeartbeats 8000000
namespace Go.Proofs.YtmngcecomcadkaaGreatDoor
open Go.RowKit
set_option linter.unusedVariables false
theorem api (vb:Value)(bs:List Int)(p:Bool)(k v:ByteArray)(w:World)(hb:Is .u8 w vb bs)(hl:bs.length≤140737488351232)(hk:k.size≤140737488351232)(hv:v.size≤140737488351232):
  Calls Tryz.prog 241 #[vb,xA p k v] w fun E w'=>∃v',E=.returned (.tuple #[v',.int .i64 (Om.chk p k.data.toList v.data.toList)])∧Own .u8 5 w.heap.size w' v' (Om.afU bs p k.data.toList v.data.toList)∧Below w.heap.size w w':=by
 obtain⟨w0,hw0,qm,dE,cell0⟩:=aix w #[.bool p,.string k,.string v] 111
 have c0:=cell0 0 _ rfl
 have c1:=cell0 1 _ rfl
 have c2:=cell0 2 _ rfl
 clear cell0
 have hb0:=hb.below dE
 unfold xA
 rcases Om.yD p k.data.toList v.data.toList with hc|hc
 ·obtain⟨ao,cap,hshape,_,_⟩:=hb.shape
  subst hshape
  have hle:=Om.vB hc
  have hh:=Om.jf hc
  rw[←Lib.size_eq,←Lib.size_eq]at hh
  have hh1:=hh.2.1
  have hh2:=hh.2.2.1
  obtain⟨i0,hi,hz0,hz1,hz2⟩:=info_parts Tryz.info5
  rw[Om.agO hc,hc]
  have HC:=hide hc
  clear hc hh
  cases p
  ·have pq:k.size≤64:=by omega
   have hv64:v.size≤64:=by omega
   generalize hn:(Om.eG false k.data.toList v.data.toList).length=n at*
   have HN:=hide hn
   clear hn
   go_enter Tryz.func241,Tryz.ntmps241
   go_wp2_with fail
   refine(lN false k v _ hk hv).mono ?_
   rintro E w1 ⟨rfl,aj⟩
   rw[HC.out]
   have d0:=(aj.cell (p:=⟨w.heap.size,0,none⟩) (by simp[qm])).trans c0
   have d1:=(aj.cell (p:=⟨w.heap.size,1,none⟩) (by simp[qm])).trans c1
   have d2:=(aj.cell (p:=⟨w.heap.size,2,none⟩) (by simp[qm])).trans c2
   have hb1:=hb0.below aj
   have aT:=aj.size
   go_wp2_with fail
   refine(acS false k v _ HC.out).mono ?_
   rintro E w2 ⟨rfl,au⟩
   rw[HN.out]
   have dz:=au.size
   have f0:=(au.cell (p:=⟨w.heap.size,0,none⟩) (by simp;omega)).trans d0
   have f1:=(au.cell (p:=⟨w.heap.size,1,none⟩) (by simp;omega)).trans d1
   have f2:=(au.cell (p:=⟨w.heap.size,2,none⟩) (by simp;omega)).trans d2
   have hb2:=hb1.below au
   clear hb1 d0 d1 d2 c0 c1 c2 hb0 hw0
   have aL:Below w.heap.size w w2:=(dE.trans (aj.mono dE.size)).trans (au.mono (by omega))
   clear dE aj au
   go_wp2_with (at_make;refine wpList_make_own _ rfl _ _ 61 rfl (w.heap.size+1) 5 i0 (.int .u8 0) 1 Tryz.underlying61 hi hz0 hz1 _ _ _ (bs.length+n) rfl rfl (by omega) ?b2 ?b3 (by omega) ?_)
   case b2=>rw[hz2];omega
   case b3=>unfold maxLen;omega
   intro w3 hown3 hgrow3
   have aD:Below w2.heap.size w2 w3:=(Below.refl _ _).grown hgrow3 (Nat.le_refl _) (by simp)
   have bD:Own .u8 5 (w.heap.size+1) w3 (.slice (some ⟨w2.heap.size,0,none⟩) 0 (bs.length+n)) []:=⟨by simp,hown3⟩
   have hb3:=hb2.below aD
   have cB:=aD.size
   clear hown3 hgrow3 hb2
   go_wp2_with (at_builtin;refine bP rfl (.tmp 19) (.tmp 20) 61 rfl .u8 5 (w.heap.size+1) 1 Tryz.underlying61 Tryz.info5 (by decide) _ [] rfl bD _ bs rfl hb3 (by simp;omega) (by omega) ?_)
   intro v4 w4 aW aK _
   have lZ:=aK.size
   have g0:=(aK.cell (p:=⟨w.heap.size,0,none⟩) (by simp)).trans ((aD.cell (p:=⟨w.heap.size,0,none⟩) (by simp;omega)).trans f0)
   have g1:=(aK.cell (p:=⟨w.heap.size,1,none⟩) (by simp)).trans ((aD.cell (p:=⟨w.heap.size,1,none⟩) (by simp;omega)).trans f1)
   have g2:=(aK.cell (p:=⟨w.heap.size,2,none⟩) (by simp)).trans ((aD.cell (p:=⟨w.heap.size,2,none⟩) (by simp;omega)).trans f2)
   have dW:Below w.heap.size w w4:=(aL.trans (aD.mono (by omega))).trans (aK.mono (by omega))
   clear f0 f1 f2 hb3 bD aL aD aK
   obtain⟨w5,qU,tQ,aZ,dw⟩:=lF .u8 5 w4 #[.int .u8 0] 1 [0] rfl rfl (by simp[maxLen]) (by simp[wf_u8])
   go_wp2_with (at_builtin;refine bP rfl (.tmp 25) (.tmp 26) 61 rfl .u8 5 (w.heap.size+1) 1 Tryz.underlying61 Tryz.info5 (by decide) _ bs rfl (aW.below aZ) _ [0] rfl dw.is (by simp;omega) (by omega) ?_)
   intro v6 w6 eT eB _
   have mY:=eB.size
   have k0:=(eB.cell (p:=⟨w.heap.size,0,none⟩) (by simp)).trans ((aZ.cell (p:=⟨w.heap.size,0,none⟩) (by simp;omega)).trans g0)
   have k1:=(eB.cell (p:=⟨w.heap.size,1,none⟩) (by simp)).trans ((aZ.cell (p:=⟨w.heap.size,1,none⟩) (by simp;omega)).trans g1)
   have k2:=(eB.cell (p:=⟨w.heap.size,2,none⟩) (by simp)).trans ((aZ.cell (p:=⟨w.heap.size,2,none⟩) (by simp;omega)).trans g2)
   have adJ:Below w.heap.size w w6:=(dW.trans (aZ.mono (by omega))).trans (eB.mono (by omega))
   clear g0 g1 g2 aW dw dW aZ eB qU
   have hl6:(bs++[0]).length≤140737488351300:=by rw[List.length_append];simp;omega
   go_wp2_with fail
   refine(aag (w.heap.size+1) _ _ k _ eT (by omega) (by omega) pq).mono ?_
   rintro E w7 ⟨v7,rfl,je,iV⟩
   have sz7:=iV.size
   have pE:Own .u8 5 w.heap.size w7 v7 (bs++Om.eG false k.data.toList v.data.toList):=by
    have:bs++Om.eG false k.data.toList v.data.toList=bs++[0]++Om.cnt k.data.toList:=by unfold Om.eG;simp
    rw[this]
    exact je.bu (by omega)
   go_wp2
   go_ret2
   exact⟨_,rfl,pE,adJ.trans (iV.mono (by omega))⟩
  ·have pq:k.size≤64:=by omega
   have hv64:v.size≤64:=by omega
   generalize hn:(Om.eG true k.data.toList v.data.toList).length=n at*
   have HN:=hide hn
   clear hn
   go_enter Tryz.func241,Tryz.ntmps241
   go_wp2_with fail
   refine(lN true k v _ hk hv).mono ?_
   rintro E w1 ⟨rfl,aj⟩
   rw[HC.out]
   have d0:=(aj.cell (p:=⟨w.heap.size,0,none⟩) (by simp[qm])).trans c0
   have d1:=(aj.cell (p:=⟨w.heap.size,1,none⟩) (by simp[qm])).trans c1
   have d2:=(aj.cell (p:=⟨w.heap.size,2,none⟩) (by simp[qm])).trans c2
   have hb1:=hb0.below aj
   have aT:=aj.size
   go_wp2_with fail
   refine(acS true k v _ HC.out).mono ?_
   rintro E w2 ⟨rfl,au⟩
   rw[HN.out]
   have dz:=au.size
   have f0:=(au.cell (p:=⟨w.heap.size,0,none⟩) (by simp;omega)).trans d0
   have f1:=(au.cell (p:=⟨w.heap.size,1,none⟩) (by simp;omega)).trans d1
   have f2:=(au.cell (p:=⟨w.heap.size,2,none⟩) (by simp;omega)).trans d2
   have hb2:=hb1.below au
   clear hb1 d0 d1 d2 c0 c1 c2 hb0 hw0
   have aL:Below w.heap.size w w2:=(dE.trans (aj.mono dE.size)).trans (au.mono (by omega))
   clear dE aj au
   go_wp2_with (at_make;refine wpList_make_own _ rfl _ _ 61 rfl (w.heap.size+1) 5 i0 (.int .u8 0) 1 Tryz.underlying61 hi hz0 hz1 _ _ _ (bs.length+n) rfl rfl (by omega) ?b2 ?b3 (by omega) ?_)
   case b2=>rw[hz2];omega
   case b3=>unfold maxLen;omega
   intro w3 hown3 hgrow3
   have aD:Below w2.heap.size w2 w3:=(Below.refl _ _).grown hgrow3 (Nat.le_refl _) (by simp)
   have bD:Own .u8 5 (w.heap.size+1) w3 (.slice (some ⟨w2.heap.size,0,none⟩) 0 (bs.length+n)) []:=⟨by simp,hown3⟩
   have hb3:=hb2.below aD
   have cB:=aD.size
   clear hown3 hgrow3 hb2
   go_wp2_with (at_builtin;refine bP rfl (.tmp 19) (.tmp 20) 61 rfl .u8 5 (w.heap.size+1) 1 Tryz.underlying61 Tryz.info5 (by decide) _ [] rfl bD _ bs rfl hb3 (by simp;omega) (by omega) ?_)
   intro v4 w4 aW aK _
   have lZ:=aK.size
   have g0:=(aK.cell (p:=⟨w.heap.size,0,none⟩) (by simp)).trans ((aD.cell (p:=⟨w.heap.size,0,none⟩) (by simp;omega)).trans f0)
   have g1:=(aK.cell (p:=⟨w.heap.size,1,none⟩) (by simp)).trans ((aD.cell (p:=⟨w.heap.size,1,none⟩) (by simp;omega)).trans f1)
   have g2:=(aK.cell (p:=⟨w.heap.size,2,none⟩) (by simp)).trans ((aD.cell (p:=⟨w.heap.size,2,none⟩) (by simp;omega)).trans f2)
   have dW:Below w.heap.size w w4:=(aL.trans (aD.mono (by omega))).trans (aK.mono (by omega))
   clear f0 f1 f2 hb3 bD aL aD aK
   obtain⟨w5,qU,tQ,aZ,dw⟩:=lF .u8 5 w4 #[.int .u8 1] 1 [1] rfl rfl (by simp[maxLen]) (by simp[wf_u8])
   go_wp2_with (at_builtin;refine bP rfl (.tmp 32) (.tmp 33) 61 rfl .u8 5 (w.heap.size+1) 1 Tryz.underlying61 Tryz.info5 (by decide) _ bs rfl (aW.below aZ) _ [1] rfl dw.is (by simp;omega) (by omega) ?_)
   intro v6 w6 eT eB _
   have mY:=eB.size
   have k0:=(eB.cell (p:=⟨w.heap.size,0,none⟩) (by simp)).trans ((aZ.cell (p:=⟨w.heap.size,0,none⟩) (by simp;omega)).trans g0)
   have k1:=(eB.cell (p:=⟨w.heap.size,1,none⟩) (by simp)).trans ((aZ.cell (p:=⟨w.heap.size,1,none⟩) (by simp;omega)).trans g1)
   have k2:=(eB.cell (p:=⟨w.heap.size,2,none⟩) (by simp)).trans ((aZ.cell (p:=⟨w.heap.size,2,none⟩) (by simp;omega)).trans g2)
   have adJ:Below w.heap.size w w6:=(dW.trans (aZ.mono (by omega))).trans (eB.mono (by omega))
   clear g0 g1 g2 aW dw dW aZ eB qU
   have hl6:(bs++[1]).length≤140737488351300:=by rw[List.length_append];simp;omega
   go_wp2_with fail
   refine(aag (w.heap.size+1) _ _ k _ eT (by omega) (by omega) pq).mono ?_
   rintro E w7 ⟨v7,rfl,je,iV⟩
   have sz7:=iV.size
   have m2:=(iV.cell (p:=⟨w.heap.size,2,none⟩) (by simp)).trans k2
   have hl7:(bs++[1]++Om.cnt k.data.toList).length≤140737488351400:=by
    rw[List.length_append]
    have:=Om.aex (s:=k.data.toList) (by rw[←Lib.size_eq];omega)
    omega
   have axx:Below w.heap.size w w7:=adJ.trans (iV.mono (by omega))
   clear eT adJ iV k0 k1 k2
   go_wp2_with fail
   refine(aag (w.heap.size+1) _ _ v _ je (by omega) (by omega) hv64).mono ?_
   rintro E w8 ⟨v8,rfl,pE,lD⟩
   have abo:Own .u8 5 w.heap.size w8 v8 (bs++Om.eG true k.data.toList v.data.toList):=by
    have:bs++Om.eG true k.data.toList v.data.toList=bs++[1]++Om.cnt k.data.toList++Om.cnt v.data.toList:=by unfold Om.eG;simp
    rw[this]
    exact pE.bu (by omega)
   go_wp2
   go_ret2
   exact⟨_,rfl,abo,axx.trans (lD.mono (by omega))⟩
 ·rw[Om.asa hc,hc]
  have HC:=hide hc
  clear hc
  go_enter Tryz.func241,Tryz.ntmps241
  go_wp2_with fail
  refine(lN p k v _ hk hv).mono ?_
  rintro E w1 ⟨rfl,aj⟩
  rw[HC.out]
  go_wp2
  go_ret2
  exact⟨_,rfl,Own.nil _ _ _ _,dE.trans (aj.mono dE.size)⟩
end Go.Proofs.YtmngcecomcadkaaGreatDoor
namespace Go.Proofs.YtmngcecomcadkaaGreatDoor
open Go.RowKit Go.ChangeShapes Go.WideShapes Go.Deep
set_option linter.unusedVariables false
def opd {H:Type} (o:Bm.Ov):DataW H:=.agg [.lit (.bool o.p),.lit (.string o.k.data.toList),.lit (.string o.v.data.toList)]
theorem aba:∀(l:List Bm.Ov) (j:Nat) (u:Value),(ocells l)[j]? =some u→∃i o,l[i]? =some o∧((j=i*3∧u=.bool o.p)∨(j=i*3+1∧u=.string o.k)∨(j=i*3+2∧u=.string o.v))
 |[],j,u,h=>by simp[ocells]at h
 |o::r,0,u,h=>⟨0,o,rfl,.inl ⟨rfl,by simpa[ocells,pU]using h.symm⟩⟩
 |o::r,1,u,h=>⟨0,o,rfl,.inr (.inl ⟨rfl,by simpa[ocells,pU]using h.symm⟩)⟩
 |o::r,2,u,h=>⟨0,o,rfl,.inr (.inr ⟨rfl,by simpa[ocells,pU]using h.symm⟩)⟩
 |o::r,j+3,u,h=>by
  have h':(ocells r)[j]? =some u:=by simpa[ocells,pU]using h
  obtain⟨i,q,hq,hc⟩:=aba r j u h'
  refine⟨i+1,q,by simpa using hq,?_⟩
  rcases hc with⟨rfl,hu⟩|⟨rfl,hu⟩|⟨rfl,hu⟩
  ·exact .inl ⟨by omega,hu⟩
  ·exact .inr (.inl ⟨by omega,hu⟩)
  ·exact .inr (.inr ⟨by omega,hu⟩)
section
variable {H:Type} {enc:TypeId×Value→H} {P:Program} {w:World} {base:Nat} {spare:Nat→Bool} {held:Bool}
theorem amJ {t e:TypeId}{f0 f1 f2:Field}{fuel:Nat}{v:Value}{x:DataW H×List MemPlace}(ht:P.underlying t=some (.slice e))(he:P.underlying e=some (.struct #[f0,f1,f2]))
  (hone:oneCellFields P #[f0,f1,f2]=true) (ce:P.cellsOf e=3) (u0:P.underlying f0.type=some .bool) (u1:P.underlying f1.type=some .string) (u2:P.underlying f2.type=some .string)
  (h:DataW.trod enc P w base spare held fuel t [v]=some x):∃l:List Bm.Ov,dh w v l∧((x.1=.nil∧l=[])∨∃sp,x.1=.slice (l.map opd) sp):=by
 rcases open_slice ht h with⟨hv,hx⟩|⟨a,len,cap,m,n,D,Pl,hv,hb,hl,hm,hmm,rfl,hx⟩
 ·simp at hv
  subst hv hx
  exact⟨[],dh.nil _,.inl ⟨rfl,rfl⟩⟩
 ·simp at hv
  subst hv
  have hlm:len≤m:=by rw[hmm];split<;>omega
  obtain⟨o0,c0⟩:=hone_of hone 0 f0 rfl
  obtain⟨o1,c1⟩:=hone_of hone 1 f1 rfl
  obtain⟨o2,c2⟩:=hone_of hone 2 f2 rfl
  have each:∀i,i<len→∃o:Bm.Ov,w.cell? (a.add (i*3))=some (.bool o.p)∧w.cell? (a.add (i*3+1))=some (.string o.k)∧w.cell? (a.add (i*3+2))=some (.string o.v)∧D i=opd o:=by
   intro i hi
   obtain⟨cs',h1,h2⟩:=hx i (by omega)
   rw[ce]at h1
   obtain⟨_,hlen,hcell⟩:=World.cells?_some h1
   obtain⟨y0,y1,y2,k,hxy,_,g0,g1,g2⟩:=trod_struct3 he h2
   match cs',hlen with
   |[v0,v1,v2],_=>
    simp[o0,o1,o2,c0,c1,c2]at g0 g1 g2
    obtain⟨p,hp,rfl⟩:=DataW.trod_bool u0 g0
    obtain⟨s,hs,rfl,_⟩:=DataW.trod_string u1 g1
    obtain⟨r,hr,rfl,_⟩:=DataW.trod_string u2 g2
    simp at hp hs hr
    subst hp hs hr
    have e0:=hcell 0 (by omega)
    have e1:=hcell 1 (by omega)
    have e2:=hcell 2 (by omega)
    rw[Go.Deep.add_add]at e0 e1 e2
    simp only[Prod.mk.injEq]at hxy
    exact⟨⟨p,s,r⟩,by simpa using e0,by simpa using e1,by simpa using e2,hxy.1⟩
  have:Inhabited Bm.Ov:=⟨⟨false,⟨#[]⟩,⟨#[]⟩⟩⟩
  obtain⟨f,hf⟩:=choose_lt each
  refine⟨(List.range len).map f,.inr ⟨a,cap,by simp,by simpa using hl,hm,fun j u hj=>?_⟩,.inr ⟨(List.range (m-len)).map fun j=>D (len+j),?_⟩⟩
  ·obtain⟨i,o,ho,hc⟩:=aba _ j u hj
   obtain⟨hi,e⟩:=List.getElem?_eq_some_iff.1 ho
   simp at hi e
   obtain⟨k0,k1,k2,_⟩:=hf i hi
   subst e
   rcases hc with⟨rfl,rfl⟩|⟨rfl,rfl⟩|⟨rfl,rfl⟩
   ·exact k0
   ·exact k1
   ·exact k2
  ·show DataW.slice _ _=DataW.slice _ _
   congr 1
   rw[List.map_map]
   exact List.map_congr_left fun i hi=>(hf i (by simpa using hi)).2.2.2
theorem nZ {e:TypeId}{n:Nat}{d:DataW H}:∀{ds:List (DataW H)},d∈ds→n∈d.weights P e→n∈DataW.weightsAll P e ds
 |[],h,_=>by simp at h
 |q::r,h,hn=>by
  simp only[DataW.weightsAll,List.mem_append]
  rcases List.mem_cons.1 h with rfl|h
  ·exact .inl hn
  ·exact .inr (nZ h hn)
def awi (d:DataW H) (l:List Bm.Ov):Prop:=(d=.nil∧l=[])∨∃sp,d=.slice (l.map opd) sp
theorem ag5 {t e:TypeId}{f0 f1 f2:Field}{l:List Bm.Ov}{d:DataW H}(h:∀n∈d.weights P t,n≤reachBytes)(hd:awi d l)(hu:P.underlying t=some (.slice e))(he:P.underlying e=some (.struct #[f0,f1,f2]))(hb:P.bytesOf e=40):
  iL l∧l.length*40≤140737488351232:=by
 rcases hd with⟨_,rfl⟩|⟨sp,rfl⟩
 ·exact⟨fun o ho=>by simp at ho,by simp⟩
 refine⟨fun o ho=>?_,?_⟩
 ·have key:∀n∈(opd (H:=H) o).weights P e,n≤140737488351232:=by
   intro n hn
   exact h n (by
    simp only[DataW.weights,hu]
    exact List.mem_cons_of_mem _ (List.mem_append_left _ (nZ (List.mem_map_of_mem ho) hn)))
  constructor
  ·have:=key o.k.data.toList.length (by simp[opd,DataW.weights,he,DataW.weightsEach])
   rw[Lib.size_eq];exact this
  ·have:=key o.v.data.toList.length (by simp[opd,DataW.weights,he,DataW.weightsEach])
   rw[Lib.size_eq];exact this
 ·have:=h ((l.map (opd (H:=H))).length+sp.length|>(·*P.bytesOf e)) (by simp[DataW.weights,hu])
  rw[hb]at this
  simp only[List.length_map,reachBytes]at this
  omega
end
end Go.Proofs.YtmngcecomcadkaaGreatDoor
