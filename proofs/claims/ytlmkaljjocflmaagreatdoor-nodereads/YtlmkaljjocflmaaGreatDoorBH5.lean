/- Texts. -/
import Derived.Test.YtlmkaljjocflmaaGreatDoorBH2
set_option maxRecDepth 100000
set_option maxHeartbeats 8000000
set_option linter.unusedVariables false
open Go.Proofs.Tryz
namespace Go.Proofs.YtlmkaljjocflmaaGreatDoor
open Go.RowKit
theorem aoY (vb:Value)(bs:List Int)(p:Bool)(k v:ByteArray)(w:World)(hb:Is .u8 w vb bs)(hl:bs.length≤140737488351232)(hk:k.size≤140737488351232)(hv:v.size≤140737488351232):
  Calls prog 348 #[vb,xP p k v] w fun E w'=>∃v',E=.returned (.tuple #[v',.int .i64 (Om.chk p k.data.toList v.data.toList)])∧Own .u8 5 w.heap.size w' v' (Om.agL bs p k.data.toList v.data.toList)∧Bq w w':=by
 obtain⟨w0,hw0,rP,dh,cell0⟩:=ajB w #[.bool p,.string k,.string v] 71
 have c0:=cell0 0 _ rfl
 have c1:=cell0 1 _ rfl
 have c2:=cell0 2 _ rfl
 clear cell0
 have hb0:=hb.below dh
 unfold xP
 rcases Om.yX p k.data.toList v.data.toList with hc|hc
 ·obtain⟨ao,cap,hshape,_,_⟩:=hb.shape
  subst hshape
  have hle:=Om.uV hc
  have hh:=Om.gU hc
  rw[←Lib.size_eq,←Lib.size_eq]at hh
  have hh1:=hh.2.1
  have hh2:=hh.2.2.1
  obtain⟨i0,hi,hz0,hz1,hz2⟩:=info_parts Tryz.info5
  rw[Om.ail hc,hc]
  have HC:=hide hc
  clear hc hh
  cases p
  ·have oJ:k.size≤64:=by omega
   have hv64:v.size≤64:=by omega
   generalize hn:(Om.eT false k.data.toList v.data.toList).length=n at*
   have HN:=hide hn
   clear hn
   go_enter func348,ntmps348
   go_wp2_with fail
   refine(lX false k v _ hk hv).mono ?_
   rintro E w1 ⟨rfl,aj⟩
   rw[HC.out]
   have d0:=(aj.cell (p:=⟨w.heap.size,0,none⟩) (by simp[rP])).trans c0
   have d1:=(aj.cell (p:=⟨w.heap.size,1,none⟩) (by simp[rP])).trans c1
   have d2:=(aj.cell (p:=⟨w.heap.size,2,none⟩) (by simp[rP])).trans c2
   have hb1:=hb0.below aj
   have aV:=aj.size
   go_wp2_with fail
   refine(ade false k v _ HC.out).mono ?_
   rintro E w2 ⟨rfl,az⟩
   rw[HN.out]
   have dA:=az.size
   have f0:=(az.cell (p:=⟨w.heap.size,0,none⟩) (by simp;omega)).trans d0
   have f1:=(az.cell (p:=⟨w.heap.size,1,none⟩) (by simp;omega)).trans d1
   have f2:=(az.cell (p:=⟨w.heap.size,2,none⟩) (by simp;omega)).trans d2
   have hb2:=hb1.below az
   clear hb1 d0 d1 d2 c0 c1 c2 hb0 hw0
   have aO:Bq w w2:=(dh.trans (aj.mono dh.size)).trans (az.mono (by omega))
   clear dh aj az
   go_wp2_with (at_make;refine wpList_make_own _ rfl _ _ 61 rfl (w.heap.size+1) 5 i0 (.int .u8 0) 1 underlying61 hi hz0 hz1 _ _ _ (bs.length+n) rfl rfl (by omega) ?b2 ?b3 (by omega) ?_)
   case b2=>rw[hz2];omega
   case b3=>unfold maxLen;omega
   intro w3 hown3 hgrow3
   have aC:Bq w2 w3:=(Below.refl _ _).grown hgrow3 (Nat.le_refl _) (by simp)
   have bK:Own .u8 5 (w.heap.size+1) w3 (.slice (some ⟨w2.heap.size,0,none⟩) 0 (bs.length+n)) []:=⟨by simp,hown3⟩
   have hb3:=hb2.below aC
   have bO:=aC.size
   clear hown3 hgrow3 hb2
   go_wp2_with (at_builtin;refine df rfl (.tmp 19) (.tmp 20) 61 rfl .u8 5 (w.heap.size+1) 1 underlying61 Tryz.info5 (by decide) _ [] rfl bK _ bs rfl hb3 (by simp;omega) (by omega) ?_)
   intro v4 w4 bz aL _
   have iK:=aL.size
   have g0:=(aL.cell (p:=⟨w.heap.size,0,none⟩) (by simp)).trans ((aC.cell (p:=⟨w.heap.size,0,none⟩) (by simp;omega)).trans f0)
   have g1:=(aL.cell (p:=⟨w.heap.size,1,none⟩) (by simp)).trans ((aC.cell (p:=⟨w.heap.size,1,none⟩) (by simp;omega)).trans f1)
   have g2:=(aL.cell (p:=⟨w.heap.size,2,none⟩) (by simp)).trans ((aC.cell (p:=⟨w.heap.size,2,none⟩) (by simp;omega)).trans f2)
   have dC:Bq w w4:=(aO.trans (aC.mono (by omega))).trans (aL.mono (by omega))
   clear f0 f1 f2 hb3 bK aO aC aL
   obtain⟨w5,iw,mO,aS,dx⟩:=kF .u8 5 w4 #[.int .u8 0] 1 [0] rfl rfl (by simp[maxLen]) (by simp[wf_u8])
   go_wp2_with (at_builtin;refine df rfl (.tmp 25) (.tmp 26) 61 rfl .u8 5 (w.heap.size+1) 1 underlying61 Tryz.info5 (by decide) _ bs rfl (bz.below aS) _ [0] rfl dx.is (by simp;omega) (by omega) ?_)
   intro v6 w6 eu eH _
   have sP:=eH.size
   have k0:=(eH.cell (p:=⟨w.heap.size,0,none⟩) (by simp)).trans ((aS.cell (p:=⟨w.heap.size,0,none⟩) (by simp;omega)).trans g0)
   have k1:=(eH.cell (p:=⟨w.heap.size,1,none⟩) (by simp)).trans ((aS.cell (p:=⟨w.heap.size,1,none⟩) (by simp;omega)).trans g1)
   have k2:=(eH.cell (p:=⟨w.heap.size,2,none⟩) (by simp)).trans ((aS.cell (p:=⟨w.heap.size,2,none⟩) (by simp;omega)).trans g2)
   have zg:Bq w w6:=(dC.trans (aS.mono (by omega))).trans (eH.mono (by omega))
   clear g0 g1 g2 bz dx dC aS eH iw
   have hl6:(bs++[0]).length≤140737488351300:=by rw[List.length_append];simp;omega
   go_wp2_with fail
   refine(aai (w.heap.size+1) _ _ k _ eu (by omega) (by omega) oJ).mono ?_
   rintro E w7 ⟨v7,rfl,jI,iE⟩
   have sz7:=iE.size
   have vJ:Own .u8 5 w.heap.size w7 v7 (bs++Om.eT false k.data.toList v.data.toList):=by
    have:bs++Om.eT false k.data.toList v.data.toList=bs++[0]++Om.cnt k.data.toList:=by unfold Om.eT;simp
    rw[this]
    exact jI.bn (by omega)
   go_wp2
   go_ret2
   exact⟨_,rfl,vJ,zg.trans (iE.mono (by omega))⟩
  ·have oJ:k.size≤64:=by omega
   have hv64:v.size≤64:=by omega
   generalize hn:(Om.eT true k.data.toList v.data.toList).length=n at*
   have HN:=hide hn
   clear hn
   go_enter func348,ntmps348
   go_wp2_with fail
   refine(lX true k v _ hk hv).mono ?_
   rintro E w1 ⟨rfl,aj⟩
   rw[HC.out]
   have d0:=(aj.cell (p:=⟨w.heap.size,0,none⟩) (by simp[rP])).trans c0
   have d1:=(aj.cell (p:=⟨w.heap.size,1,none⟩) (by simp[rP])).trans c1
   have d2:=(aj.cell (p:=⟨w.heap.size,2,none⟩) (by simp[rP])).trans c2
   have hb1:=hb0.below aj
   have aV:=aj.size
   go_wp2_with fail
   refine(ade true k v _ HC.out).mono ?_
   rintro E w2 ⟨rfl,az⟩
   rw[HN.out]
   have dA:=az.size
   have f0:=(az.cell (p:=⟨w.heap.size,0,none⟩) (by simp;omega)).trans d0
   have f1:=(az.cell (p:=⟨w.heap.size,1,none⟩) (by simp;omega)).trans d1
   have f2:=(az.cell (p:=⟨w.heap.size,2,none⟩) (by simp;omega)).trans d2
   have hb2:=hb1.below az
   clear hb1 d0 d1 d2 c0 c1 c2 hb0 hw0
   have aO:Bq w w2:=(dh.trans (aj.mono dh.size)).trans (az.mono (by omega))
   clear dh aj az
   go_wp2_with (at_make;refine wpList_make_own _ rfl _ _ 61 rfl (w.heap.size+1) 5 i0 (.int .u8 0) 1 underlying61 hi hz0 hz1 _ _ _ (bs.length+n) rfl rfl (by omega) ?b2 ?b3 (by omega) ?_)
   case b2=>rw[hz2];omega
   case b3=>unfold maxLen;omega
   intro w3 hown3 hgrow3
   have aC:Bq w2 w3:=(Below.refl _ _).grown hgrow3 (Nat.le_refl _) (by simp)
   have bK:Own .u8 5 (w.heap.size+1) w3 (.slice (some ⟨w2.heap.size,0,none⟩) 0 (bs.length+n)) []:=⟨by simp,hown3⟩
   have hb3:=hb2.below aC
   have bO:=aC.size
   clear hown3 hgrow3 hb2
   go_wp2_with (at_builtin;refine df rfl (.tmp 19) (.tmp 20) 61 rfl .u8 5 (w.heap.size+1) 1 underlying61 Tryz.info5 (by decide) _ [] rfl bK _ bs rfl hb3 (by simp;omega) (by omega) ?_)
   intro v4 w4 bz aL _
   have iK:=aL.size
   have g0:=(aL.cell (p:=⟨w.heap.size,0,none⟩) (by simp)).trans ((aC.cell (p:=⟨w.heap.size,0,none⟩) (by simp;omega)).trans f0)
   have g1:=(aL.cell (p:=⟨w.heap.size,1,none⟩) (by simp)).trans ((aC.cell (p:=⟨w.heap.size,1,none⟩) (by simp;omega)).trans f1)
   have g2:=(aL.cell (p:=⟨w.heap.size,2,none⟩) (by simp)).trans ((aC.cell (p:=⟨w.heap.size,2,none⟩) (by simp;omega)).trans f2)
   have dC:Bq w w4:=(aO.trans (aC.mono (by omega))).trans (aL.mono (by omega))
   clear f0 f1 f2 hb3 bK aO aC aL
   obtain⟨w5,iw,mO,aS,dx⟩:=kF .u8 5 w4 #[.int .u8 1] 1 [1] rfl rfl (by simp[maxLen]) (by simp[wf_u8])
   go_wp2_with (at_builtin;refine df rfl (.tmp 32) (.tmp 33) 61 rfl .u8 5 (w.heap.size+1) 1 underlying61 Tryz.info5 (by decide) _ bs rfl (bz.below aS) _ [1] rfl dx.is (by simp;omega) (by omega) ?_)
   intro v6 w6 eu eH _
   have sP:=eH.size
   have k0:=(eH.cell (p:=⟨w.heap.size,0,none⟩) (by simp)).trans ((aS.cell (p:=⟨w.heap.size,0,none⟩) (by simp;omega)).trans g0)
   have k1:=(eH.cell (p:=⟨w.heap.size,1,none⟩) (by simp)).trans ((aS.cell (p:=⟨w.heap.size,1,none⟩) (by simp;omega)).trans g1)
   have k2:=(eH.cell (p:=⟨w.heap.size,2,none⟩) (by simp)).trans ((aS.cell (p:=⟨w.heap.size,2,none⟩) (by simp;omega)).trans g2)
   have zg:Bq w w6:=(dC.trans (aS.mono (by omega))).trans (eH.mono (by omega))
   clear g0 g1 g2 bz dx dC aS eH iw
   have hl6:(bs++[1]).length≤140737488351300:=by rw[List.length_append];simp;omega
   go_wp2_with fail
   refine(aai (w.heap.size+1) _ _ k _ eu (by omega) (by omega) oJ).mono ?_
   rintro E w7 ⟨v7,rfl,jI,iE⟩
   have sz7:=iE.size
   have m2:=(iE.cell (p:=⟨w.heap.size,2,none⟩) (by simp)).trans k2
   have hl7:(bs++[1]++Om.cnt k.data.toList).length≤140737488351400:=by
    rw[List.length_append]
    have:=Om.ags (s:=k.data.toList) (by rw[←Lib.size_eq];omega)
    omega
   have azp:Bq w w7:=zg.trans (iE.mono (by omega))
   clear eu zg iE k0 k1 k2
   go_wp2_with fail
   refine(aai (w.heap.size+1) _ _ v _ jI (by omega) (by omega) hv64).mono ?_
   rintro E w8 ⟨v8,rfl,vJ,qm⟩
   have aqA:Own .u8 5 w.heap.size w8 v8 (bs++Om.eT true k.data.toList v.data.toList):=by
    have:bs++Om.eT true k.data.toList v.data.toList=bs++[1]++Om.cnt k.data.toList++Om.cnt v.data.toList:=by unfold Om.eT;simp
    rw[this]
    exact vJ.bn (by omega)
   go_wp2
   go_ret2
   exact⟨_,rfl,aqA,azp.trans (qm.mono (by omega))⟩
 ·rw[Om.auJ hc,hc]
  have HC:=hide hc
  clear hc
  go_enter func348,ntmps348
  go_wp2_with fail
  refine(lX p k v _ hk hv).mono ?_
  rintro E w1 ⟨rfl,aj⟩
  rw[HC.out]
  go_wp2
  go_ret2
  exact⟨_,rfl,Own.nil _ _ _ _,dh.trans (aj.mono dh.size)⟩
end Go.Proofs.YtlmkaljjocflmaaGreatDoor
