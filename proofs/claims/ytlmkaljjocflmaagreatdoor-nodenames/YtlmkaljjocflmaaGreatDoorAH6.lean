/- Texts of one layer, one behind the other. -/
import Derived.Test.YtlmkaljjocflmaaGreatDoorAH4
import Derived.Test.YtlmkaljjocflmaaGreatDoorAH5
import Derived.Test.YtlmkaljjocflmaaGreatDoorAH2
import Derived.Test.YtlmkaljjocflmaaGreatDoorAM2
import Derived.Deep.RegionHeld3
import Derived.Test.YtlmkaljjocflmaaGreatDoorAH1
import Derived.Test.YtlmkaljjocflmaaGreatDoorAH7
set_option maxRecDepth 100000
set_option maxHeartbeats 8000000
namespace Go.Proofs.YtlmkaljjocflmaaGreatDoor
open Go.RowKit
set_option linter.unusedVariables false
theorem aoM (vb:Value)(bs:List Int)(p:Bool)(k v:ByteArray)(w:World)(hb:Is .u8 w vb bs)(hl:bs.length≤140737488351232)(hk:k.size≤140737488351232)(hv:v.size≤140737488351232):
  Calls Tryz.prog 348 #[vb,vQ p k v] w fun E w'=>∃v',E=.returned (.tuple #[v',.int .i64 (Om.chk p k.data.toList v.data.toList)])∧Own .u8 5 w.heap.size w' v' (Om.aem bs p k.data.toList v.data.toList)∧Below w.heap.size w w':=by
 obtain⟨w0,hw0,pY,cZ,cell0⟩:=aiw w #[.bool p,.string k,.string v] 71
 have c0:=cell0 0 _ rfl
 have c1:=cell0 1 _ rfl
 have c2:=cell0 2 _ rfl
 clear cell0
 have hb0:=hb.below cZ
 unfold vQ
 rcases Om.xE p k.data.toList v.data.toList with hc|hc
 ·obtain⟨ao,cap,hshape,_,_⟩:=hb.shape
  subst hshape
  have hle:=Om.sW hc
  have hh:=Om.ic hc
  rw[←Lib.size_eq,←Lib.size_eq]at hh
  have hh1:=hh.2.1
  have hh2:=hh.2.2.1
  obtain⟨i0,hi,hz0,hz1,hz2⟩:=info_parts Tryz.info5
  rw[Om.ag0 hc,hc]
  have HC:=hide hc
  clear hc hh
  cases p
  ·have nD:k.size≤64:=by omega
   have hv64:v.size≤64:=by omega
   generalize hn:(Om.dG false k.data.toList v.data.toList).length=n at*
   have HN:=hide hn
   clear hn
   go_enter Tryz.func348,Tryz.ntmps348
   go_wp2_with fail
   refine(kN false k v _ hk hv).mono ?_
   rintro E w1 ⟨rfl,ak⟩
   rw[HC.out]
   have d0:=(ak.cell (p:=⟨w.heap.size,0,none⟩) (by simp[pY])).trans c0
   have d1:=(ak.cell (p:=⟨w.heap.size,1,none⟩) (by simp[pY])).trans c1
   have d2:=(ak.cell (p:=⟨w.heap.size,2,none⟩) (by simp[pY])).trans c2
   have hb1:=hb0.below ak
   have aT:=ak.size
   go_wp2_with fail
   refine(acA false k v _ HC.out).mono ?_
   rintro E w2 ⟨rfl,az⟩
   rw[HN.out]
   have dm:=az.size
   have f0:=(az.cell (p:=⟨w.heap.size,0,none⟩) (by simp;omega)).trans d0
   have f1:=(az.cell (p:=⟨w.heap.size,1,none⟩) (by simp;omega)).trans d1
   have f2:=(az.cell (p:=⟨w.heap.size,2,none⟩) (by simp;omega)).trans d2
   have hb2:=hb1.below az
   clear hb1 d0 d1 d2 c0 c1 c2 hb0 hw0
   have aO:Below w.heap.size w w2:=(cZ.trans (ak.mono cZ.size)).trans (az.mono (by omega))
   clear cZ ak az
   go_wp2_with (at_make;refine wpList_make_own _ rfl _ _ 61 rfl (w.heap.size+1) 5 i0 (.int .u8 0) 1 Tryz.underlying61 hi hz0 hz1 _ _ _ (bs.length+n) rfl rfl (by omega) ?b2 ?b3 (by omega) ?_)
   case b2=>rw[hz2];omega
   case b3=>unfold maxLen;omega
   intro w3 hown3 hgrow3
   have aC:Below w2.heap.size w2 w3:=(Below.refl _ _).grown hgrow3 (Nat.le_refl _) (by simp)
   have bG:Own .u8 5 (w.heap.size+1) w3 (.slice (some ⟨w2.heap.size,0,none⟩) 0 (bs.length+n)) []:=⟨by simp,hown3⟩
   have hb3:=hb2.below aC
   have bJ:=aC.size
   clear hown3 hgrow3 hb2
   go_wp2_with (at_builtin;refine cK rfl (.tmp 19) (.tmp 20) 61 rfl .u8 5 (w.heap.size+1) 1 Tryz.underlying61 Tryz.info5 (by decide) _ [] rfl bG _ bs rfl hb3 (by simp;omega) (by omega) ?_)
   intro v4 w4 bq aL _
   have iE:=aL.size
   have g0:=(aL.cell (p:=⟨w.heap.size,0,none⟩) (by simp)).trans ((aC.cell (p:=⟨w.heap.size,0,none⟩) (by simp;omega)).trans f0)
   have g1:=(aL.cell (p:=⟨w.heap.size,1,none⟩) (by simp)).trans ((aC.cell (p:=⟨w.heap.size,1,none⟩) (by simp;omega)).trans f1)
   have g2:=(aL.cell (p:=⟨w.heap.size,2,none⟩) (by simp)).trans ((aC.cell (p:=⟨w.heap.size,2,none⟩) (by simp;omega)).trans f2)
   have di:Below w.heap.size w w4:=(aO.trans (aC.mono (by omega))).trans (aL.mono (by omega))
   clear f0 f1 f2 hb3 bG aO aC aL
   obtain⟨w5,gM,lU,aQ,dx⟩:=jQ .u8 5 w4 #[.int .u8 0] 1 [0] rfl rfl (by simp[maxLen]) (by simp[wf_u8])
   go_wp2_with (at_builtin;refine cK rfl (.tmp 25) (.tmp 26) 61 rfl .u8 5 (w.heap.size+1) 1 Tryz.underlying61 Tryz.info5 (by decide) _ bs rfl (bq.below aQ) _ [0] rfl dx.is (by simp;omega) (by omega) ?_)
   intro v6 w6 eY fo _
   have uo:=fo.size
   have k0:=(fo.cell (p:=⟨w.heap.size,0,none⟩) (by simp)).trans ((aQ.cell (p:=⟨w.heap.size,0,none⟩) (by simp;omega)).trans g0)
   have k1:=(fo.cell (p:=⟨w.heap.size,1,none⟩) (by simp)).trans ((aQ.cell (p:=⟨w.heap.size,1,none⟩) (by simp;omega)).trans g1)
   have k2:=(fo.cell (p:=⟨w.heap.size,2,none⟩) (by simp)).trans ((aQ.cell (p:=⟨w.heap.size,2,none⟩) (by simp;omega)).trans g2)
   have wQ:Below w.heap.size w w6:=(di.trans (aQ.mono (by omega))).trans (fo.mono (by omega))
   clear g0 g1 g2 bq dx di aQ fo gM
   have hl6:(bs++[0]).length≤140737488351300:=by rw[List.length_append];simp;omega
   go_wp2_with fail
   refine(yY (w.heap.size+1) _ _ k _ eY (by omega) (by omega) nD).mono ?_
   rintro E w7 ⟨v7,rfl,jw,gT⟩
   have sz7:=gT.size
   have si:Own .u8 5 w.heap.size w7 v7 (bs++Om.dG false k.data.toList v.data.toList):=by
    have:bs++Om.dG false k.data.toList v.data.toList=bs++[0]++Om.cnt k.data.toList:=by unfold Om.dG;simp
    rw[this]
    exact jw.bz (by omega)
   go_wp2
   go_ret2
   exact⟨_,rfl,si,wQ.trans (gT.mono (by omega))⟩
  ·have nD:k.size≤64:=by omega
   have hv64:v.size≤64:=by omega
   generalize hn:(Om.dG true k.data.toList v.data.toList).length=n at*
   have HN:=hide hn
   clear hn
   go_enter Tryz.func348,Tryz.ntmps348
   go_wp2_with fail
   refine(kN true k v _ hk hv).mono ?_
   rintro E w1 ⟨rfl,ak⟩
   rw[HC.out]
   have d0:=(ak.cell (p:=⟨w.heap.size,0,none⟩) (by simp[pY])).trans c0
   have d1:=(ak.cell (p:=⟨w.heap.size,1,none⟩) (by simp[pY])).trans c1
   have d2:=(ak.cell (p:=⟨w.heap.size,2,none⟩) (by simp[pY])).trans c2
   have hb1:=hb0.below ak
   have aT:=ak.size
   go_wp2_with fail
   refine(acA true k v _ HC.out).mono ?_
   rintro E w2 ⟨rfl,az⟩
   rw[HN.out]
   have dm:=az.size
   have f0:=(az.cell (p:=⟨w.heap.size,0,none⟩) (by simp;omega)).trans d0
   have f1:=(az.cell (p:=⟨w.heap.size,1,none⟩) (by simp;omega)).trans d1
   have f2:=(az.cell (p:=⟨w.heap.size,2,none⟩) (by simp;omega)).trans d2
   have hb2:=hb1.below az
   clear hb1 d0 d1 d2 c0 c1 c2 hb0 hw0
   have aO:Below w.heap.size w w2:=(cZ.trans (ak.mono cZ.size)).trans (az.mono (by omega))
   clear cZ ak az
   go_wp2_with (at_make;refine wpList_make_own _ rfl _ _ 61 rfl (w.heap.size+1) 5 i0 (.int .u8 0) 1 Tryz.underlying61 hi hz0 hz1 _ _ _ (bs.length+n) rfl rfl (by omega) ?b2 ?b3 (by omega) ?_)
   case b2=>rw[hz2];omega
   case b3=>unfold maxLen;omega
   intro w3 hown3 hgrow3
   have aC:Below w2.heap.size w2 w3:=(Below.refl _ _).grown hgrow3 (Nat.le_refl _) (by simp)
   have bG:Own .u8 5 (w.heap.size+1) w3 (.slice (some ⟨w2.heap.size,0,none⟩) 0 (bs.length+n)) []:=⟨by simp,hown3⟩
   have hb3:=hb2.below aC
   have bJ:=aC.size
   clear hown3 hgrow3 hb2
   go_wp2_with (at_builtin;refine cK rfl (.tmp 19) (.tmp 20) 61 rfl .u8 5 (w.heap.size+1) 1 Tryz.underlying61 Tryz.info5 (by decide) _ [] rfl bG _ bs rfl hb3 (by simp;omega) (by omega) ?_)
   intro v4 w4 bq aL _
   have iE:=aL.size
   have g0:=(aL.cell (p:=⟨w.heap.size,0,none⟩) (by simp)).trans ((aC.cell (p:=⟨w.heap.size,0,none⟩) (by simp;omega)).trans f0)
   have g1:=(aL.cell (p:=⟨w.heap.size,1,none⟩) (by simp)).trans ((aC.cell (p:=⟨w.heap.size,1,none⟩) (by simp;omega)).trans f1)
   have g2:=(aL.cell (p:=⟨w.heap.size,2,none⟩) (by simp)).trans ((aC.cell (p:=⟨w.heap.size,2,none⟩) (by simp;omega)).trans f2)
   have di:Below w.heap.size w w4:=(aO.trans (aC.mono (by omega))).trans (aL.mono (by omega))
   clear f0 f1 f2 hb3 bG aO aC aL
   obtain⟨w5,gM,lU,aQ,dx⟩:=jQ .u8 5 w4 #[.int .u8 1] 1 [1] rfl rfl (by simp[maxLen]) (by simp[wf_u8])
   go_wp2_with (at_builtin;refine cK rfl (.tmp 32) (.tmp 33) 61 rfl .u8 5 (w.heap.size+1) 1 Tryz.underlying61 Tryz.info5 (by decide) _ bs rfl (bq.below aQ) _ [1] rfl dx.is (by simp;omega) (by omega) ?_)
   intro v6 w6 eY fo _
   have uo:=fo.size
   have k0:=(fo.cell (p:=⟨w.heap.size,0,none⟩) (by simp)).trans ((aQ.cell (p:=⟨w.heap.size,0,none⟩) (by simp;omega)).trans g0)
   have k1:=(fo.cell (p:=⟨w.heap.size,1,none⟩) (by simp)).trans ((aQ.cell (p:=⟨w.heap.size,1,none⟩) (by simp;omega)).trans g1)
   have k2:=(fo.cell (p:=⟨w.heap.size,2,none⟩) (by simp)).trans ((aQ.cell (p:=⟨w.heap.size,2,none⟩) (by simp;omega)).trans g2)
   have wQ:Below w.heap.size w w6:=(di.trans (aQ.mono (by omega))).trans (fo.mono (by omega))
   clear g0 g1 g2 bq dx di aQ fo gM
   have hl6:(bs++[1]).length≤140737488351300:=by rw[List.length_append];simp;omega
   go_wp2_with fail
   refine(yY (w.heap.size+1) _ _ k _ eY (by omega) (by omega) nD).mono ?_
   rintro E w7 ⟨v7,rfl,jw,gT⟩
   have sz7:=gT.size
   have m2:=(gT.cell (p:=⟨w.heap.size,2,none⟩) (by simp)).trans k2
   have hl7:(bs++[1]++Om.cnt k.data.toList).length≤140737488351400:=by
    rw[List.length_append]
    have:=Om.aer (s:=k.data.toList) (by rw[←Lib.size_eq];omega)
    omega
   have avK:Below w.heap.size w w7:=wQ.trans (gT.mono (by omega))
   clear eY wQ gT k0 k1 k2
   go_wp2_with fail
   refine(yY (w.heap.size+1) _ _ v _ jw (by omega) (by omega) hv64).mono ?_
   rintro E w8 ⟨v8,rfl,si,o8⟩
   have uP:Own .u8 5 w.heap.size w8 v8 (bs++Om.dG true k.data.toList v.data.toList):=by
    have:bs++Om.dG true k.data.toList v.data.toList=bs++[1]++Om.cnt k.data.toList++Om.cnt v.data.toList:=by unfold Om.dG;simp
    rw[this]
    exact si.bz (by omega)
   go_wp2
   go_ret2
   exact⟨_,rfl,uP,avK.trans (o8.mono (by omega))⟩
 ·rw[Om.aqt hc,hc]
  have HC:=hide hc
  clear hc
  go_enter Tryz.func348,Tryz.ntmps348
  go_wp2_with fail
  refine(kN p k v _ hk hv).mono ?_
  rintro E w1 ⟨rfl,ak⟩
  rw[HC.out]
  go_wp2
  go_ret2
  exact⟨_,rfl,Own.nil _ _ _ _,cZ.trans (ak.mono cZ.size)⟩
theorem rJ (x:Int)(w:World):Calls Tryz.prog 170 #[.int .i64 x] w fun E w'=>E=.returned (.bool (decide (1≤x∧x≤1048576)))∧w=w':=by
 go_enter Tryz.func170,Tryz.ntmps170
 by_cases h1:1≤x
 ·by_cases h2:x≤1048576
  ·go_wp2
   go_ret
   exact⟨by simp[h1,h2],rfl⟩
  ·go_wp2
   go_ret
   exact⟨by simp;omega,rfl⟩
 ·go_wp2
  go_ret
  exact⟨by simp;omega,rfl⟩
theorem sU (e n:Int)(v:Value)(l:List Bm.Ov)(w:World)(h:dz w v l)(hf:fZ l)(hl:l.length≤140737488355328):
  Calls Tryz.prog 95 #[dF e n v] w fun E w'=>E=.returned (.int .i64 (Cm.chk e n l))∧Below w.heap.size w w':=by
 unfold dF
 obtain⟨w1,hw1,aT,ak,hB⟩:=au w #[.int .i64 e,.int .i64 n,v] 35
 have c0:=ai hB 0 rfl
 have c1:=ai hB 1 rfl
 have c2:=ai hB 2 rfl
 have h1:=h.below ak
 obtain⟨ao,cap,rfl,_,_⟩:=h.shape
 clear hB
 go_enter Tryz.func95,Tryz.ntmps95
 by_cases he:1≤e∧e≤1048576
 ·have he':decide (1≤e∧e≤1048576)=true:=by simp[he]
  by_cases hn:1≤n∧n≤1048576
  ·have hn':decide (1≤n∧n≤1048576)=true:=by simp[hn]
   rw[Cm.aes ⟨he.1,he.2,hn.1,hn.2⟩]
   clear he hn
   go_wp2_with fail
   refine(rJ e _).mono ?_
   rintro E w2 ⟨rfl,rfl⟩
   rw[he']
   go_wp2_with fail
   refine(rJ n _).mono ?_
   rintro E w2 ⟨rfl,rfl⟩
   rw[hn']
   go_wp2_with fail
   refine(jY _ l _ h1 hf hl).mono ?_
   rintro E w3 ⟨rfl,aC⟩
   have aW:=ak.trans (aC.mono (by omega))
   go_wp2
   go_ret
   exact⟨rfl,aW⟩
  ·have hn':decide (1≤n∧n≤1048576)=false:=by simpa using hn
   rw[Cm.abj (by omega)]
   clear he hn
   go_wp2_with fail
   refine(rJ e _).mono ?_
   rintro E w2 ⟨rfl,rfl⟩
   rw[he']
   go_wp2_with fail
   refine(rJ n _).mono ?_
   rintro E w2 ⟨rfl,rfl⟩
   rw[hn']
   go_wp2
   go_ret
   exact⟨rfl,ak⟩
 ·have he':decide (1≤e∧e≤1048576)=false:=by simpa using he
  rw[Cm.abj (by omega)]
  clear he
  go_wp2_with fail
  refine(rJ e _).mono ?_
  rintro E w2 ⟨rfl,rfl⟩
  rw[he']
  go_wp2
  go_ret
  exact⟨rfl,ak⟩
def lH (e n:Int) (l:List Bm.Ov) (e' n':Int) (l':List Bm.Ov):Bool:=(e==e')&&((n==n')&&Bm.sameL l l')
theorem akM (e n:Int)(v:Value)(l:List Bm.Ov)(e' n':Int)(v':Value)(l':List Bm.Ov)(w:World)(h:dz w v l)(h':dz w v' l')(hl:l.length≤140737488355328)(hl':l'.length≤140737488355328):
  Calls Tryz.prog 252 #[dF e n v,dF e' n' v'] w fun E w'=>E=.returned (.bool (lH e n l e' n' l'))∧Below w.heap.size w w':=by
 unfold dF
 obtain⟨w1,hw1,aT,ak,hB⟩:=au w #[.int .i64 e,.int .i64 n,v] 35
 obtain⟨w2,hw2,dm,az,hC⟩:=au w1 #[.int .i64 e',.int .i64 n',v'] 35
 rw[aT]at hC
 have hB2:=(az.block _ (aA hB)).trans hB
 have c0:=ai hB2 0 rfl
 have c1:=ai hB2 1 rfl
 have c2:=ai hB2 2 rfl
 have d0:=ai hC 0 rfl
 have d1:=ai hC 1 rfl
 have d2:=ai hC 2 rfl
 have aO:Below w.heap.size w w2:=ak.trans (az.mono (by omega))
 have i1:=h.below aO
 have i2:=h'.below aO
 obtain⟨ao,cap,rfl,_,_⟩:=h.shape
 obtain⟨ao',cap',rfl,_,_⟩:=h'.shape
 clear hB hC hB2 ak az
 go_enter Tryz.func252,Tryz.ntmps252
 by_cases he:e=e'
 ·have he':(e==e')=true:=by simp[he]
  by_cases hn:n=n'
  ·have hn':(n==n')=true:=by simp[hn]
   have hs:lH e n l e' n' l'=Bm.sameL l l':=by simp[lH,he',hn']
   rw[hs]
   clear he hn hs
   go_wp2_with fail
   refine(akq _ _ l l' _ i1 i2 hl hl').mono ?_
   rintro E w3 ⟨rfl,aC⟩
   have aW:=aO.trans (aC.mono (by omega))
   go_wp2
   go_ret
   exact⟨rfl,aW⟩
  ·have hn':(n==n')=false:=by simpa using hn
   have hs:lH e n l e' n' l'=false:=by simp[lH,hn']
   rw[hs]
   clear he hn hs
   go_wp2
   go_ret
   exact⟨rfl,aO⟩
 ·have he':(e==e')=false:=by simpa using he
  have hs:lH e n l e' n' l'=false:=by simp[lH,he']
  rw[hs]
  clear he hs
  go_wp2
  go_ret
  exact⟨rfl,aO⟩
end Go.Proofs.YtlmkaljjocflmaaGreatDoor
namespace Go.Proofs.YtlmkaljjocflmaaGreatDoor
open Go.RowKit
open Bm (Ov)
set_option linter.unusedVariables false
theorem au1 {a b:ByteArray}(h:Tm.lt b a=true):Op.bytesLess a.toList b.toList=false∧(a.toList==b.toList)=false:=by
 rw[Tm.agJ,Tm.eqk]
 exact⟨Tm.ako h,by simpa using(Tm.tL h).symm⟩
theorem aqT {a b:ByteArray}(h:Tm.lt b a=false):(Op.bytesLess a.toList b.toList=true∧a≠b)∨(Op.bytesLess a.toList b.toList=false∧(a.toList==b.toList)=true):=by
 rw[Tm.agJ,Tm.eqk]
 cases hl:Tm.lt a b with
 |true=>exact .inl ⟨rfl,Tm.tL hl⟩
 |false=>exact .inr ⟨rfl,by simpa using Tm.zw hl h⟩
theorem anH {l:List Ov}{k:Nat}{o:Ov}(h:Rn.may ⟨#[]⟩ (l.take k)=true)(ho:l[k]? =some o)(hc:o.c=0)(hlt:Tm.lt (Rn.qO ⟨#[]⟩ (l.take k)) o.k=true):Rn.may ⟨#[]⟩ (l.take (k+1))=true∧Rn.qO ⟨#[]⟩ (l.take (k+1))=o.k:=by
 obtain⟨h1,rfl⟩:=List.getElem?_eq_some_iff.1 ho
 rw[List.take_succ_eq_append_getElem h1,Rn.abp,Rn.abN,h]
 simp[Rn.may,hc,hlt]
theorem aew {l:List Ov}{k:Nat}{o:Ov}(ho:l[k]? =some o)(h:o.c≠0∨Tm.lt (Rn.qO ⟨#[]⟩ (l.take k)) o.k=false):Rn.may ⟨#[]⟩ l=false:=by
 obtain⟨h1,rfl⟩:=List.getElem?_eq_some_iff.1 ho
 have e:l=l.take k++(l[k]::l.drop (k+1)):=by rw[←List.drop_eq_getElem_cons h1,List.take_append_drop]
 have e2:Rn.may ⟨#[]⟩ l=Rn.may ⟨#[]⟩ (l.take k++(l[k]::l.drop (k+1))):=congrArg _ e
 rw[e2,Rn.abp]
 rcases h with h|h<;>simp[Rn.may,h]
theorem amb (v:Value)(l:List Ov)(w:World)(h:dz w v l)(hf:fZ l)(hl:l.length≤140737488355328):
  Calls Tryz.prog 340 #[v] w fun E w'=>E=.returned (.bool (Rn.may ⟨#[]⟩ l))∧Below w.heap.size w w':=by
 obtain⟨ans,dM⟩:∃x,Rn.may ⟨#[]⟩ l=x:=⟨_,rfl⟩
 rw[dM]
 have HA:=hide dM
 obtain⟨ao,cap,hsv,hcap,_⟩:=h.shape
 have jd:=hide fun(h0:0<l.length)=>h.full h0
 subst hsv
 have HF:=hide hf
 obtain⟨n,hnn⟩:∃n,l.length=n:=⟨_,rfl⟩
 rw[hnn]at jd hcap hl⊢
 have HN:=hide hnn
 clear h hf hnn dM
 go_enter Tryz.func340,Tryz.ntmps340
 go_wp2
 go_loopw [3,8] (fun av i wr=>∃(k:Nat) (ah:ByteArray),k≤n∧i=.int .i64 k∧av=.string ah∧Hid (Rn.may ⟨#[]⟩ (l.take k)=true∧Rn.qO ⟨#[]⟩ (l.take k)=ah)∧Below w.heap.size w wr) (fun _ i _=>n-(intOf i).toNat)
 case atStart=>exact⟨0,⟨#[]⟩,by omega,rfl,rfl,hide ⟨by simp[Rn.may],by simp[Rn.qO]⟩,Below.refl _ _⟩
 case round=>
  obtain⟨k,ah,hk,rfl,rfl,HT,aK⟩:=hrel
  have sz:=aK.size
  by_cases hlt:k<n
  ·obtain⟨o,ho⟩:∃o,l[k]? =some o:=⟨l[k]'(by have:=HN.out;omega),by rw[List.getElem?_eq_getElem]⟩
   obtain⟨b1,o1,cq,fH,_,_,hB,hcell⟩:=jd.out (by omega)
   simp only[Value.slice.injEq,true_and]at fH
   obtain⟨rfl,rfl⟩:=fH
   obtain⟨c0,c1,c2⟩:=hcell k o ho
   have d0:=(aK.cell (p:=⟨b1,o1+k*3,none⟩) hB).trans c0
   have d1:=(aK.cell (p:=⟨b1,o1+k*3+1,none⟩) hB).trans c1
   have d2:=(aK.cell (p:=⟨b1,o1+k*3+2,none⟩) hB).trans c2
   have HO:=hide ho
   clear c0 c1 c2 ho hcell
   have hlt':(k:Int)<n:=by omega
   obtain⟨hk1,hv1⟩:=HF.out o (List.mem_of_getElem? HO.out)
   obtain⟨W1,hW1,aT,rU,B1⟩:=au wr #[.bool o.p,.string o.k,.string o.v] 71
   have e0:=ai B1 0 rfl
   have e1:=ai B1 1 rfl
   have e2:=ai B1 2 rfl
   have b01:Below w.heap.size w W1:=aK.trans (rU.mono sz)
   clear B1 rU
   go_wp2_with fail
   refine(kN o.p o.k o.v _ hk1 hv1).mono ?_
   rintro E w1 ⟨rfl,ak⟩
   have az:Below w.heap.size w w1:=b01.trans (ak.mono (by omega))
   have e1':=(ak.cell (p:=⟨wr.heap.size,1,none⟩) (show wr.heap.size<W1.heap.size by omega)).trans e1
   clear ak d0 d1 d2 e0 e1 e2
   rcases(show Om.chk o.p o.k.data.toList o.v.data.toList=0∨_ from Om.xE _ _ _)with hc|hc
   ·rw[hc]
    have HC:=hide (show o.c=0 from hc)
    clear hc
    cases hlk:Tm.lt ah o.k with
    |true=>
     obtain⟨q1,q2⟩:=au1 hlk
     have HT2:=hide (anH HT.out.1 HO.out HC.out (by rw[HT.out.2];exact hlk))
     clear hlk
     go_wp2
     go_roundw
     case rel=>exact⟨k+1,o.k,by omega,by go_num,rfl,HT2,az⟩
     case measure=>simp[intOf];omega
    |false=>
     have hfo:=HA.out
     rw[aew HO.out (.inr (by rw[HT.out.2];exact hlk))]at hfo
     subst hfo
     rcases aqT hlk with⟨q1,_⟩|⟨q1,q2⟩
     ·clear hlk
      go_wp2
      go_ret
      exact⟨rfl,az⟩
     ·clear hlk
      go_wp2
      go_ret
      exact⟨rfl,az⟩
   ·rw[hc]
    have hfo:=HA.out
    rw[aew HO.out (.inl (show o.c≠0 by unfold Bm.Ov.c Bm.Ov.kl Bm.Ov.vl;rw[hc];simp))]at hfo
    subst hfo
    clear hc
    go_wp2
    go_ret
    exact⟨rfl,az⟩
  ·have hlt':¬(k:Int)<n:=by omega
   have hfo:=HA.out
   have h1:=HT.out.1
   rw[List.take_of_length_le (by have:=HN.out;omega),hfo]at h1
   subst h1
   clear hfo
   go_wp2
   go_ret
   exact⟨rfl,aK⟩
theorem ahB (e n:Int)(v:Value)(l:List Ov)(w:World)(h:dz w v l)(hf:fZ l)(hl:l.length≤140737488355328):
  Calls Tryz.prog 324 #[dF e n v] w fun E w'=>E=.returned (.int .i64 (Rn.chk e n l))∧Below w.heap.size w w':=by
 unfold dF
 obtain⟨w1,hw1,aT,ak,hB⟩:=au w #[.int .i64 e,.int .i64 n,v] 273
 have c0:=ai hB 0 rfl
 have c1:=ai hB 1 rfl
 have c2:=ai hB 2 rfl
 have HM:=hide (amb v l w1 (h.below ak) hf hl)
 obtain⟨ao,cap,rfl,_,_⟩:=h.shape
 obtain⟨ans,dM⟩:∃x,Rn.chk e n l=x:=⟨_,rfl⟩
 rw[dM]
 have HA:=hide dM
 have hlz:l.length=l.length:=rfl
 by_cases hlong:1024<l.length
 ·have hfo:=HA.out
  rw[Rn.am9 hlong]at hfo
  subst hfo
  have auu:(1024:Int)<(l.length:Int):=by omega
  generalize l.length=m at*
  clear HA HM h hf dM hB
  go_enter Tryz.func324,Tryz.ntmps324
  go_wp2
  go_ret
  exact⟨rfl,ak⟩
 have auu:¬(1024:Int)<(l.length:Int):=by omega
 by_cases h1:e<1
 ·have hfo:=HA.out
  rw[Rn.gL hlong fun h=>by omega]at hfo
  subst hfo
  generalize l.length=m at*
  clear HA HM h hf dM hB
  go_enter Tryz.func324,Tryz.ntmps324
  go_wp2
  go_ret
  exact⟨rfl,ak⟩
 by_cases h2:n<e
 ·have hfo:=HA.out
  rw[Rn.gL hlong fun h=>by omega]at hfo
  subst hfo
  generalize l.length=m at*
  clear HA HM h hf dM hB
  go_enter Tryz.func324,Tryz.ntmps324
  go_wp2
  go_ret
  exact⟨rfl,ak⟩
 by_cases h3:(1048576:Int)<n
 ·have hfo:=HA.out
  rw[Rn.gL hlong fun h=>by omega]at hfo
  subst hfo
  generalize l.length=m at*
  clear HA HM h hf dM hB
  go_enter Tryz.func324,Tryz.ntmps324
  go_wp2
  go_ret
  exact⟨rfl,ak⟩
 cases hm:Rn.may ⟨#[]⟩ l with
 |true=>
  have hfo:=HA.out
  rw[Rn.iR hlong ⟨by omega,by omega,by omega,hm⟩]at hfo
  subst hfo
  rw[hm]at HM
  generalize l.length=m at*
  clear HA h hf dM hB hm
  go_enter Tryz.func324,Tryz.ntmps324
  go_wp2_with fail
  refine HM.out.mono ?_
  rintro E w2 ⟨rfl,az⟩
  have aO:=ak.trans (az.mono ak.size)
  go_wp2
  go_ret
  exact⟨rfl,aO⟩
 |false=>
  have hfo:=HA.out
  rw[Rn.gL hlong fun h=>by rw[hm]at h;simp at h]at hfo
  subst hfo
  rw[hm]at HM
  generalize l.length=m at*
  clear HA h hf dM hB hm
  go_enter Tryz.func324,Tryz.ntmps324
  go_wp2_with fail
  refine HM.out.mono ?_
  rintro E w2 ⟨rfl,az⟩
  have aO:=ak.trans (az.mono ak.size)
  go_wp2
  go_ret
  exact⟨rfl,aO⟩
end Go.Proofs.YtlmkaljjocflmaaGreatDoor
namespace Go.Proofs.YtlmkaljjocflmaaGreatDoor
open Go.RowKit
set_option linter.unusedVariables false
theorem dH {V:World}{R:Nat}{t:TypeId}{x y:Value}(hR:V.heap[R]? =some (.cells #[x,y] t (0,0)))(a b:Value):
  ∃V',(V.setCell ⟨R,0,none⟩ a).setCell ⟨R,1,none⟩ b=V'∧V'.heap[R]? =some (.cells #[a,b] t (0,0))∧V.grownBy V' (some R)∧
   (V.cell? ⟨R,0,none⟩=some x∧V.cell? ⟨R,1,none⟩=some y)∧(V.frozen? ⟨R,0,none⟩=false∧V.frozen? ⟨R,1,none⟩=false)∧
   (V'.cell? ⟨R,0,none⟩=some a∧V'.cell? ⟨R,1,none⟩=some b):=by
 have h2:=aG (aG hR 0 a) 1 b
 exact⟨_,rfl,h2,aI (ax V ⟨R,0,none⟩ a) (ax _ ⟨R,1,none⟩ b),⟨ai hR 0 rfl,ai hR 1 rfl⟩,⟨aB hR 0,aB hR 1⟩,⟨ai h2 0 rfl,ai h2 1 rfl⟩⟩
theorem wR (w:World)(t:TypeId)(x y a b:Value):∃V,(((w.alloc (.cells #[x,y] t)).setCell ⟨w.heap.size,0,none⟩ a).setCell ⟨w.heap.size,1,none⟩ b=V)∧w.alloc (.cells #[a,b] t)=V∧V.heap.size=w.heap.size+1∧Below w.heap.size w V∧V.heap[w.heap.size]? =some (.cells #[a,b] t (0,0))∧
  V.cell? ⟨w.heap.size,0,none⟩=some a∧V.cell? ⟨w.heap.size,1,none⟩=some b:=by
 obtain⟨V,h1,h2,h3,h4⟩:=au w #[a,b] t
 refine⟨V,?_,h1,h2,h3,h4,ai h4 0 rfl,ai h4 1 rfl⟩
 rw[←h1]
 simp[go_sem]
def xS (f:Int×Int):Value:=.agg #[.int .i64 f.1,.int .i64 f.2]
theorem Tryz.vE (op:BinOp)(x y:Operand)(xs ys:Array Value)(w:World):(eqGuard op 31 x y (.agg xs) (.agg ys)).run Tryz.prog w=.ok () w:=run_eqGuard_agg w op 31 x y xs ys (by kernel_rfl)
theorem Tryz.adV (a b c d:Int)(w:World):(binOp .neq 31 (.agg #[.int .i64 a,.int .i64 b]) (.agg #[.int .i64 c,.int .i64 d])).run Tryz.prog w=.ok (.bool (!((a==c)&&(b==d)))) w:=by
 rw[run_neq_struct,run_equalIn_agg w 9999 31 _ _ (by kernel_rfl) (by kernel_rfl)]
 unfold Program.fieldsOf
 rw[Tryz.underlying31]
 simp[Op.eqFields,go_sem,Tryz.underlying29,Tryz.underlying3]
 by_cases h1:a=c<;>by_cases h2:b=d<;>simp[h1,h2]
theorem aro (at' ep nu e n:Int)(v:Value)(l:List Bm.Ov)(w:World)(h:dz w v l)(hf:fZ l)(hl:l.length≤140737488355328):
  Calls Tryz.prog 53 #[.int .i64 at',.int .i64 ep,.int .i64 nu,dF e n v] w fun E w'=>E=.returned (xS (Cm.flt at' ep nu ⟨e,n,l⟩))∧Below w.heap.size w w':=by
 unfold dF xS
 obtain⟨fa,hfa⟩:∃f,Cm.flt at' ep nu ⟨e,n,l⟩=f:=⟨_,rfl⟩
 rw[hfa]
 have HF:=hide hfa
 clear hfa
 obtain⟨w1,hw1,aT,ak,hB⟩:=au w #[.int .i64 e,.int .i64 n,v] 35
 obtain⟨w2,hw2,dm,az,hR⟩:=au w1 #[.int .i64 0,.int .i64 0] 31
 rw[aT]at hR
 have aO:Below w.heap.size w w2:=ak.trans (az.mono (by omega))
 have hB2:=(az.block w.heap.size (by omega)).trans hB
 have c0:=ai hB2 0 rfl
 have c1:=ai hB2 1 rfl
 have c2:=ai hB2 2 rfl
 have h2:=h.below aO
 obtain⟨ao,cap,rfl,_,_⟩:=h.shape
 have HB:=hide hB2
 have HR:=hide hR
 clear hB hB2 hR ak az
 go_enter Tryz.func53,Tryz.ntmps53
 go_wp2_with fail
 refine(sU e n _ l _ h2 hf hl).mono ?_
 rintro E w3 ⟨rfl,aC⟩
 have bJ:=aC.size
 have hB3:=(aC.block w.heap.size (by omega)).trans HB.out
 have dC:=(aC.block (w.heap.size+1) (by omega)).trans HR.out
 have aW:=aO.trans (aC.mono (by omega))
 have d0:=ai hB3 0 rfl
 have d1:=ai hB3 1 rfl
 clear c0 c1 c2 HB HR hB3 aO aC h2
 by_cases hc:Cm.chk e n l=0
 ·obtain⟨g1,g2,g3,g4,g5⟩:=Cm.aV hc
  by_cases hq:n-1≠nu∨e<ep
  ·obtain rfl:(15,at')=fa:=(Cm.aa3 (c:=⟨e,n,l⟩) hc hq).symm.trans HF.out
   rw[hc]
   obtain⟨V',hV',fu,dP,⟨a0,a1⟩,⟨f0,f1⟩,⟨z0,z1⟩⟩:=dH dC (.int .i64 15) (.int .i64 at')
   have eG:=aF aW dP (by omega) (by omega)
   clear hc fu dP dC
   by_cases hq1:n-1=nu
   ·have hq2:e<ep:=by omega
    have hq3:(n-1 !=nu)=false:=by simpa using hq1
    clear hq hq1
    go_wp2
    refine bodyPost_ret (v:=.agg #[.int .i64 15,.int .i64 at']) (by simp[results,Tryz.results53,go_sem,z0,z1]) rfl ?_
    exact⟨rfl,eG⟩
   ·have hq3:(n-1 !=nu)=true:=by simpa using hq1
    clear hq hq1
    go_wp2
    refine bodyPost_ret (v:=.agg #[.int .i64 15,.int .i64 at']) (by simp[results,Tryz.results53,go_sem,z0,z1]) rfl ?_
    exact⟨rfl,eG⟩
  ·obtain rfl:(0,0)=fa:=(Cm.ae7 (c:=⟨e,n,l⟩) hc hq).symm.trans HF.out
   rw[hc]
   obtain⟨V',hV',fu,dP,⟨a0,a1⟩,⟨f0,f1⟩,⟨z0,z1⟩⟩:=dH dC (.int .i64 0) (.int .i64 0)
   have eG:=aF aW dP (by omega) (by omega)
   have hq3:(n-1 !=nu)=false:=by simp;omega
   have hq2:¬e<ep:=by omega
   clear hc fu dP dC hq
   go_wp2
   refine bodyPost_ret (v:=.agg #[.int .i64 0,.int .i64 0]) (by simp[results,Tryz.results53,go_sem,z0,z1]) rfl ?_
   exact⟨rfl,eG⟩
 ·have hfo:(Cm.chk e n l,at')=fa:=(Cm.abw (c:=⟨e,n,l⟩) hc).symm.trans HF.out
  have hne:(Cm.chk e n l==0)=false:=by simpa using hc
  generalize Cm.chk e n l=ck at*
  subst hfo
  obtain⟨V',hV',fu,dP,⟨a0,a1⟩,⟨f0,f1⟩,⟨z0,z1⟩⟩:=dH dC (.int .i64 ck) (.int .i64 at')
  have eG:=aF aW dP (by omega) (by omega)
  clear hc fu dP dC
  go_wp2
  refine bodyPost_ret (v:=.agg #[.int .i64 ck,.int .i64 at']) (by simp[results,Tryz.results53,go_sem,z0,z1]) rfl ?_
  exact⟨rfl,eG⟩
theorem anz {r:List Cw}{k:Nat}{c:Cw}(h:r[k]? =some c):(aH r).drop k=c.c::(aH r).drop (k+1):=by
 obtain⟨hk,rfl⟩:=List.getElem?_eq_some_iff.1 h
 unfold aH
 rw[←List.map_drop,←List.map_drop,List.drop_eq_getElem_cons hk,List.map_cons]
theorem oJ (ep0 nu0:Int)(vl:Value)(r:List Cw)(w:World)(h:iy w vl r)(hf:jr r)(hl:r.length≤140737488355328):
  Calls Tryz.prog 10 #[.int .i64 ep0,.int .i64 nu0,vl] w fun E w'=>E=.returned (xS (Cm.fol ep0 nu0 0 (aH r)))∧Below w.heap.size w w':=by
 unfold xS
 obtain⟨fa,hfa⟩:∃f,Cm.fol ep0 nu0 0 (aH r)=f:=⟨_,rfl⟩
 rw[hfa]
 have HF:=hide hfa
 clear hfa
 obtain⟨w1,hw1,aT,ak,hR⟩:=au w #[.int .i64 0,.int .i64 0] 31
 have h1:=h.below ak
 have hR0:=ai hR 0 rfl
 have pq:=ai hR 1 rfl
 by_cases hz:r.length=0
 ·have:r=[]:=List.eq_nil_of_length_eq_zero hz
  subst this
  obtain⟨ao,cap,rfl,_,_⟩:=h.1.shape
  have hfo:=HF.out
  simp only[aH,List.map_nil,Cm.agA]at hfo
  subst hfo
  obtain⟨V',hV',fu,dP,⟨a0,a1⟩,⟨f0,f1⟩,⟨z0,z1⟩⟩:=dH hR (.int .i64 0) (.int .i64 0)
  have eG:=aF ak dP (by omega) (by omega)
  clear h h1 hf hl hz HF fu dP hR
  simp only[List.length_nil]
  go_enter Tryz.func10,Tryz.ntmps10
  go_wp2
  go_loopw [12] (fun iv wr=>iv=.int .i64 0∧wr=w1) (fun _ _=>0)
  case atStart=>exact⟨rfl,rfl⟩
  case round=>
   obtain⟨rfl,rfl⟩:=hrel
   go_wp2
   refine bodyPost_ret (v:=.agg #[.int .i64 0,.int .i64 0]) (by simp[results,Tryz.results10,go_sem,z0,z1]) rfl ?_
   exact⟨rfl,eG⟩
 obtain⟨b1,o1,c1,hvl,_,_,hB,hcell⟩:=h1.1.full (by omega)
 subst hvl
 have HIN:=hide h1.2
 have avW:=hide hf
 have HC:=hide hcell
 have HRR:=hide hR
 generalize hn:r.length=n at*
 have HN:=hide hn
 clear h h1 hcell hf hR hR0 pq hn
 go_enter Tryz.func10,Tryz.ntmps10
 go_wp2
 go_loopw [0,1,12] (fun ev nv iv wr=>∃(k:Nat) (ep nu:Int),k≤n∧iv=.int .i64 k∧ev=.int .i64 ep∧nv=.int .i64 nu∧Hid (Cm.fol ep nu k ((aH r).drop k)=fa)∧Below w1.heap.size w1 wr) (fun _ _ iv _=>n-(intOf iv).toNat)
 case atStart=>exact⟨0,ep0,nu0,by omega,rfl,rfl,rfl,HF,Below.refl _ _⟩
 case round=>
  obtain⟨k,ep,nu,hk,rfl,rfl,rfl,HT,aK⟩:=hrel
  have sz:=aK.size
  by_cases hlt:k<n
  ·obtain⟨c,hc⟩:∃c,r[k]? =some c:=⟨r[k]'(by have:=HN.out;omega),by rw[List.getElem?_eq_getElem]⟩
   obtain⟨e0,e1,e2⟩:=HC.out k c hc
   have d0:=(aK.cell (p:=⟨b1,o1+k*3,none⟩) hB).trans e0
   have d1:=(aK.cell (p:=⟨b1,o1+k*3+1,none⟩) hB).trans e1
   have d2:=(aK.cell (p:=⟨b1,o1+k*3+2,none⟩) hB).trans e2
   have hmem:=List.mem_of_getElem? hc
   obtain⟨i1,_,_⟩:=HIN.out c hmem
   have i2:=i1.below aK
   obtain⟨hfc,hlc⟩:=avW.out c hmem
   have HCD:=hide (anz hc)
   have hlt':(k:Int)<n:=by omega
   obtain⟨ao,cp,hcv,_,_⟩:=i2.shape
   rw[hcv]at d2 i2
   obtain⟨V,hV,hV2,jE,aX,bC,q0,q1,q2⟩:=gG wr 35 (.int .i64 0) (.int .i64 0) (.slice none 0 0) (.int .i64 c.e) (.int .i64 c.n) (.slice ao c.l.length cp)
   have i3:=i2.below aX
   have BC:=hide bC
   clear e0 e1 e2 hc hmem i1 i2 hcv bC
   go_wp2_with fail
   refine(aro k ep nu c.e c.n _ c.l _ i3 hfc (by omega)).mono ?_
   rintro E w3 ⟨rfl,aC⟩
   have bJ:=aC.size
   obtain⟨fl,hfl⟩:∃f,Cm.flt k ep nu ⟨c.e,c.n,c.l⟩=f:=⟨_,rfl⟩
   unfold xS
   rw[hfl]
   have yf:=hide hfl
   clear hfl
   obtain⟨fe,fp⟩:=fl
   simp only
   have bC3:=(aC.block wr.heap.size (by omega)).trans BC.out
   obtain⟨X,hX,hX2,szX,anu,bF,x0,x1⟩:=wR w3 31 (.int .i64 0) (.int .i64 0) (.int .i64 fe) (.int .i64 fp)
   have bCX:=(anu.block wr.heap.size (by omega)).trans bC3
   have u0:=ai bCX 0 rfl
   have u1:=ai bCX 1 rfl
   have iU:Below w1.heap.size w1 X:=((aK.trans (aX.mono (by omega))).trans (aC.mono (by omega))).trans (anu.mono (by omega))
   have zG:=(iU.block w.heap.size (by omega)).trans HRR.out
   have hnq:=Tryz.adV fe fp 0 0
   have hgd:=Tryz.vE
   clear aK aX aC anu BC bC3 bCX bF i3 q0 q1 q2 d0 d1 d2 hV hV2
   by_cases hfe:fe=0
   ·have hz:=Cm.ae0 (a:=k) (ep:=ep) (nu:=nu) (c:=⟨c.e,c.n,c.l⟩) (by rw[yf.out];exact hfe)
    have hfp:fp=0:=by have:=hz.2.2;rw[yf.out]at this;exact this
    have HT2:Hid (Cm.fol c.e c.n (k+1) ((aH r).drop (k+1))=fa):=hide (by
     have:=HT.out
     rw[HCD.out]at this
     rw[←this]
     exact(Cm.anj (c:=c.c) (by rw[show Cm.flt k ep nu c.c=(fe,fp)from yf.out];exact hfe)).symm)
    have hb:(!((fe==0)&&(fp==0)))=false:=by simp[hfe,hfp]
    rw[hb]at hnq
    clear hb hz hfe hfp zG yf HCD HT
    go_wp2_with fail
    go_quiet (fail)
    go_wp2
    go_roundw
    case rel=>exact⟨k+1,c.e,c.n,by omega,by go_num,rfl,rfl,HT2,below_drewN iU _⟩
    case measure=>simp[intOf];omega
   ·have hfo:(fe,fp)=fa:=by
     have:=HT.out
     rw[HCD.out]at this
     rw[←this,Cm.amV (c:=c.c) (by rw[show Cm.flt k ep nu c.c=(fe,fp)from yf.out];exact hfe)]
     exact yf.out.symm
    have hb:(!((fe==0)&&(fp==0)))=true:=by simp[hfe]
    rw[hb]at hnq
    subst hfo
    obtain⟨V',hV',fu,dP,⟨a0,a1⟩,⟨f0,f1⟩,⟨z0,z1⟩⟩:=dH zG (.int .i64 fe) (.int .i64 fp)
    have eG:=aF (ak.trans (iU.mono (by omega))) dP (by omega) (by omega)
    clear hb hfe zG yf HCD HT HF fu dP u0 u1 iU
    go_wp2
    refine bodyPost_ret (v:=.agg #[.int .i64 fe,.int .i64 fp]) (by simp[results,Tryz.results10,go_sem,z0,z1]) rfl ?_
    exact⟨rfl,eG⟩
  ·have hlt':¬(k:Int)<n:=by omega
   have hfo:(0,0)=fa:=by
    have:=HT.out
    rw[List.drop_of_length_le (by unfold aH;rw[List.length_map,HN.out];omega),Cm.agA]at this
    exact this
   subst hfo
   have zG:=(aK.block w.heap.size (by omega)).trans HRR.out
   obtain⟨V',hV',fu,dP,⟨a0,a1⟩,⟨f0,f1⟩,⟨z0,z1⟩⟩:=dH zG (.int .i64 0) (.int .i64 0)
   have eG:=aF (ak.trans (aK.mono (by omega))) dP (by omega) (by omega)
   clear zG HT HF fu dP aK
   go_wp2
   refine bodyPost_ret (v:=.agg #[.int .i64 0,.int .i64 0]) (by simp[results,Tryz.results10,go_sem,z0,z1]) rfl ?_
   exact⟨rfl,eG⟩
theorem aut {c d:Cw}(h:c.c=d.c):c.e=d.e∧c.n=d.n∧c.l=d.l:=by
 unfold Cw.c at h
 simpa using h
theorem amk (r:List Cw)(k:Nat):aH (r.take k)=(aH r).take k:=by unfold aH;rw[List.map_take]
def gP (base:Nat) (w:World) (rs:List Cw):Prop:=∀c∈rs,bu 71 base w c.v c.l
theorem gP.below {base:Nat}{w w':World}{rs:List Cw}(h:gP base w rs)(hb:Below w.heap.size w w'):gP base w' rs:=fun c hc=>(h c hc).below hb
theorem gP.p9 {base:Nat}{w w':World}{rs:List Cw}(h:gP base w rs)(hb:bH 35 w w'):gP base w' rs:=fun c hc=>(h c hc).p9 hb (by decide)
theorem gP.snoc {base:Nat}{w:World}{rs:List Cw}(h:gP base w rs){c:Cw}(hc:bu 71 base w c.v c.l):gP base w (rs++[c]):=fun d hd=>(List.mem_append.1 hd).elim (h d) (fun h=>by rw[List.mem_singleton.1 h];exact hc)
theorem zY {w:World}{b o:Nat}{r:List Cw}(h:∀i c,r[i]? =some c→w.cell? ⟨b,o+i*3,none⟩=some (.int .i64 c.e)∧w.cell? ⟨b,o+i*3+1,none⟩=some (.int .i64 c.n)∧w.cell? ⟨b,o+i*3+2,none⟩=some c.v){w':World}{base:Nat}(hb:Below base w w')(hB:b<base){k:Nat}{c:Cw}(hc:r[k]? =some c):
  w'.cell? ⟨b,o+k*3,none⟩=some (.int .i64 c.e)∧w'.cell? ⟨b,o+k*3+1,none⟩=some (.int .i64 c.n)∧w'.cell? ⟨b,o+k*3+2,none⟩=some c.v:=by
 obtain⟨e0,e1,e2⟩:=h k c hc
 exact⟨(hb.cell (p:=⟨b,o+k*3,none⟩) hB).trans e0,(hb.cell (p:=⟨b,o+k*3+1,none⟩) hB).trans e1,(hb.cell (p:=⟨b,o+k*3+2,none⟩) hB).trans e2⟩
theorem yZ {P:Program}{ops:Array Oper}{o:Oper}{a:Act}{w:World}{K:Act→World→Prop}{Q:Exit→Act→World→Prop}{E:Prop}(hgd:o.guard=none)(s x:Operand)(t:TypeId)
  (ho:o.op=.call {callee:=.builtin .append,args:=#[s,x],argTypes:=#[t,t]})
  (e:TypeId) (base:Nat) (ht:P.underlying t=some (.slice e)) (hinfo:(P.info? e).map (fun i=>(i.zero,i.size,i.bytes))=some (some (.agg #[.int .i64 0,.int .i64 0,.slice none 0 0]),3,40))
  (v:Value) (l:List Cw) (hs:a.eval s=v) (hown:bK e base w v l) (vx:Value) (m:List Cw) (hx:a.eval x=vx) (his:dU w vx m) (hone:∀c∈m,c.v.oneCell'=true)
  (hlen:(l.length+m.length)*40≤140737488355328) (hbase:base≤w.heap.size)
  (h:∀v' w',bK e base w' v' (l++m)→Below base w w'→bH e w w'→K (a.put o.dst v') w'):
  if Region.wanted o (yielded ops a.tmps)=true then Oper.wp P o a w K Q else E:=by
 have hw:Region.wanted o (yielded ops a.tmps)=true:=by simp[Region.wanted,hgd]
 rw[if_pos hw]
 obtain⟨i,hi,hz,hsize,hb⟩:=info_parts hinfo
 have hn:l.length+m.length≤140737488355328:=by omega
 rcases his with⟨hv,hy⟩|⟨ad,cap,hv,h1,h2,hc⟩
 ·subst hy
  have hrun:=run_append_owned_none (P:=P) (w:=w) base t o.type e i 3 ht hi v l.length _ hown
  have hk:=h v w (by simpa using hown) (Below.refl _ _) (bH.refl _ _)
  unfold Oper.wp
  simp[execOp,ho,resolve,invoke,builtin,hs,hx.trans hv,hrun,Result.andThen]
  exact hk
 ·refine wp_append_own w s x t ho base e i _ 3 40 ht hi hz hsize hb rfl (by decide) v l.length _ hs hown ad m.length cap (ccells m) (hx.trans hv) (lL m) hc (ky m hone) (by unfold maxLen;omega) hlen hbase ?_
  intro v' w' ho' hg _
  refine h v' w' (by unfold bK;rw[nX,List.length_append];exact ho') ((Below.refl _ _).grown hg hbase fun k' hk=>?_) (bH.zX hown hg)
  exact(World.ownsRow.lt hown k' hk).1
theorem arD (r:List Cm.Cv)(ep nu:Int):(Cm.Good ep nu r∧Cm.fol ep nu 0 r=(0,0))∨(¬Cm.Good ep nu r∧(Cm.fol ep nu 0 r).1≠0):=by
 by_cases h:Cm.Good ep nu r
 ·have h1:=(Cm.gH r ep nu 0).2 h
  exact .inl ⟨h,Prod.ext h1 (Cm.aaR r ep nu 0 h1)⟩
 ·exact .inr ⟨h,fun h1=>h ((Cm.gH r ep nu 0).1 h1)⟩
def sameV:List Cm.Cv→List Cm.Cv→Bool
 |[],[]=>true
 |c::r,d::s=>lH c.e c.n c.l d.e d.n d.l&&sameV r s
 |_,_=>false
theorem vg {e n e' n':Int}{l l':List Bm.Ov}:lH e n l e' n' l'=true↔e=e'∧n=n'∧l=l':=by
 simp[lH,Bm.nC]
theorem mJ:∀{r s:List Cm.Cv},sameV r s=true↔r=s
 |[],[]=>by simp[sameV]
 |[],_::_=>by simp[sameV]
 |_::_,[]=>by simp[sameV]
 |⟨e,n,l⟩::r,⟨e',n',l'⟩::s=>by
  simp only[sameV,Bool.and_eq_true,vg,mJ (r:=r) (s:=s)]
  simp[and_assoc]
theorem aeW {r s:List Cm.Cv}(h:r≠s):sameV r s=false:=by
 cases hs:sameV r s
 ·rfl
 ·exact absurd (mJ.1 hs) h
theorem ait (r:List Cm.Cv):sameV r r=true:=mJ.2 rfl
theorem dE (r:List Cw):(aH r).length=r.length:=by unfold aH;rw[List.length_map]
theorem ja {w:World}{v:Value}{r:List Cw}(h:iy w v r):0<r.length→∃b1 o1 c1,v=.slice (some ⟨b1,o1,none⟩) r.length c1∧b1<w.heap.size∧∀i c,r[i]? =some c→w.cell? ⟨b1,o1+i*3,none⟩=some (.int .i64 c.e)∧w.cell? ⟨b1,o1+i*3+1,none⟩=some (.int .i64 c.n)∧w.cell? ⟨b1,o1+i*3+2,none⟩=some c.v:=by
 intro hp
 obtain⟨b1,o1,c1,hv,_,_,hB,hc⟩:=h.1.full hp
 exact⟨b1,o1,c1,hv,hB,hc⟩
theorem oF (r:List Cw)(k:Nat):(aH r)[k]? =(r[k]?).map Cw.c:=by unfold aH;rw[List.getElem?_map]
def yw (cs:List Cw):Prop:=∀(i j:Nat) (c d:Cw),i≠j→cs[i]? =some c→cs[j]? =some d→c.v.ownBlock=none∨c.v.ownBlock≠d.v.ownBlock
theorem bK.bz {e base base':Nat}{w:World}{v:Value}{l:List Cw}(h:bK e base w v l)(hb:base'≤base):bK e base' w v l:=by
 refine⟨h.1,?_⟩
 rcases h.2 with h|⟨g,cap,cur,hv,h1,r⟩
 ·exact .inl h
 ·exact .inr ⟨g,cap,cur,hv,by omega,r⟩
theorem ad3 {cs:List Cw}{c:Cw}{N:Nat}(h:yw cs)(h1:∀d∈cs,∀b,d.v.ownBlock=some b→b<N)(h2:∀b,c.v.ownBlock=some b→N≤b):yw (cs++[c]):=by
 intro i j x y hij hx hy
 have hix:=(List.getElem?_eq_some_iff.1 hx).1
 have hjx:=(List.getElem?_eq_some_iff.1 hy).1
 rw[List.length_append,List.length_singleton]at hix hjx
 have key:∀u v:Value,(∀b d,u.ownBlock=some b→v.ownBlock=some d→b≠d)→u.ownBlock=none∨u.ownBlock≠v.ownBlock:=by
  intro u v h
  cases hu:u.ownBlock with
  |none=>exact .inl rfl
  |some b=>exact .inr fun e=>h b b hu e.symm rfl
 by_cases hi:i<cs.length
 ·rw[List.getElem?_append_left hi]at hx
  by_cases hj:j<cs.length
  ·rw[List.getElem?_append_left hj]at hy
   exact h i j x y hij hx hy
  ·have:j=cs.length:=by omega
   subst this
   simp at hy
   subst hy
   exact key _ _ fun b d hb hd=>by have:=h1 x (List.mem_of_getElem? hx) b hb;have:=h2 d hd;omega
 ·have:i=cs.length:=by omega
  subst this
  simp at hx
  subst hx
  rw[List.getElem?_append_left (by omega)]at hy
  exact key _ _ fun b d hb hd=>by have:=h2 b hb;have:=h1 y (List.mem_of_getElem? hy) d hd;omega
section
variable {base:Nat} {w:World} {F:Nat→Prop}
theorem bK.type {e:TypeId}{r:List Cw}{v:Value}(h:bK e base w v r){g:Nat}(hg:v.ownBlock=some g):∃cs,w.heap[g]? =some (.cells cs e (0,0)):=by
 rcases h.2 with⟨rfl,_⟩|⟨g',cap,cur,rfl,_,hh,_⟩
 ·simp[Value.ownBlock]at hg
 ·simp[Value.ownBlock]at hg
  subst hg
  exact⟨_,hh⟩
theorem bu.type {e:TypeId}{r:List Bm.Ov}{v:Value}(h:bu e base w v r){g:Nat}(hg:v.ownBlock=some g):∃cs,w.heap[g]? =some (.cells cs e (0,0)):=by
 rcases h.2 with⟨rfl,_⟩|⟨g',cap,cur,rfl,_,hh,_⟩
 ·simp[Value.ownBlock]at hg
 ·simp[Value.ownBlock]at hg
  subst hg
  exact⟨_,hh⟩
theorem Pk.ty {p:Nat}{st:Dm.Ds}(h:Pk p F w st):∀g,F g→∃cs t fr,w.heap[g]? =some (.cells cs t fr)∧(t=97∨t=5∨t=208):=by
 obtain⟨s,wv,rs,h,rfl⟩:=h
 rintro g (rfl|⟨f,hf,hb⟩|hb|⟨r,hr,hb⟩)
 ·exact⟨_,_,_,h.blk,.inl rfl⟩
 ·obtain⟨cs,hc⟩:=(h.iK.file f hf).type hb
  exact⟨_,_,_,hc,.inr (.inl rfl)⟩
 ·obtain⟨cs,hc⟩:=h.iK.row.type hb
  exact⟨_,_,_,hc,.inr (.inr rfl)⟩
 ·obtain⟨_,cs,fr,hc⟩:=(h.iK.raw r hr).2 g hb
  exact⟨_,_,_,hc,.inr (.inl rfl)⟩
end
theorem dz.out {F:Nat→Prop}{w w':World}{v:Value}{l:List Bm.Ov}(h:dz w v l)(ho:Out F w w')(hF:0<l.length→∀b,v.ownBlock=some b→¬F b):dz w' v l:=by
 rcases h with h|⟨ad,cap,hv,h1,h2,hc⟩
 ·exact .inl h
 ·refine .inr ⟨ad,cap,hv,h1,h2,fun j u hj=>?_⟩
  have hk:=hc j u hj
  have hl:0<l.length:=by
   rcases l with _|⟨x,l⟩
   ·simp[ocells]at hj
   ·simp
  have eb:(ad.add j).block=ad.block:=by unfold Addr.add;split<;>rfl
  have hlt:=World.block_lt_of_cell? _ _ hk
  rw[World.cell?_of_block (ho.block _ hlt (by rw[eb];exact hF hl _ (by rw[hv];rfl)))]
  exact hk
theorem aiT (l:List Cw)(i:Nat)(c:Cw)(hi:i<l.length):(((ccells l).set (i*3) (.int .i64 c.e)).set (i*3+1) (.int .i64 c.n)).set (i*3+2) c.v=ccells (l.set i c):=by
 induction l generalizing i with
 |nil=>simp at hi
 |cons d l ih=>
  cases i with
  |zero=>simp[ccells,jh]
  |succ i=>
   have:=ih i (by simpa using hi)
   rw[show(i+1)*3=i*3+3 by omega]
   simp only[ccells,jh,List.set_cons_succ,List.cons_append,List.nil_append]
   rw[←this]
theorem amI {e base g n cap:Nat}{w:World}{l:List Cw}(h:bK e base w (.slice (some ⟨g,0,none⟩) n cap) l)(hn:l.length=n)(i:Nat)(hi:i<n)(c:Cw):
  ∃W,((w.setCell ⟨g,i*3,none⟩ (.int .i64 c.e)).setCell ⟨g,i*3+1,none⟩ (.int .i64 c.n)).setCell ⟨g,i*3+2,none⟩ c.v=W∧bK e base W (.slice (some ⟨g,0,none⟩) n cap) (l.set i c)∧w.grownBy W (some g):=by
 subst hn
 unfold bK at h
 have s1:=h.stored (i*3) (.int .i64 c.e)
 have s2:=s1.1.stored (i*3+1) (.int .i64 c.n)
 have s3:=s2.1.stored (i*3+2) c.v
 refine⟨_,rfl,?_,aI s1.2 (aI s2.2 s3.2)⟩
 unfold bK
 rw[List.length_set,←aiT l i c hi]
 exact s3.1
theorem agy {e base g n cap:Nat}{w:World}{l:List Cw}(h:bK e base w (.slice (some ⟨g,0,none⟩) n cap) l)(hn:l.length=n)(i:Nat)(c:Cw)(hc:l[i]? =some c):
  (w.cell? ⟨g,i*3,none⟩=some (.int .i64 c.e)∧w.cell? ⟨g,i*3+1,none⟩=some (.int .i64 c.n)∧w.cell? ⟨g,i*3+2,none⟩=some c.v)∧(w.frozen? ⟨g,i*3,none⟩=false∧w.frozen? ⟨g,i*3+1,none⟩=false∧w.frozen? ⟨g,i*3+2,none⟩=false):=by
 subst hn
 unfold bK at h
 obtain⟨hi,rfl⟩:=List.getElem?_eq_some_iff.1 hc
 obtain⟨a0,a1,a2⟩:=qh l i hi
 exact⟨⟨by rw[h.cellAt (i*3) (by omega)];exact a0,by rw[h.cellAt (i*3+1) (by omega)];exact a1,by rw[h.cellAt (i*3+2) (by omega)];exact a2⟩,h.frozenAt _,h.frozenAt _,h.frozenAt _⟩
end Go.Proofs.YtlmkaljjocflmaaGreatDoor
