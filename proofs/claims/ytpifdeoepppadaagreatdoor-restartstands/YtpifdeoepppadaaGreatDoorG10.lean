/- Texts of one layer, one behind the other. -/
import Derived.Test.YtpifdeoepppadaaGreatDoorG8
import Derived.Test.YtpifdeoepppadaaGreatDoorG7
import Derived.Test.YtpifdeoepppadaaGreatDoorG9
import Derived.Deep.RegionHeld3
import Derived.Test.YtpifdeoepppadaaGreatDoorG3
set_option maxRecDepth 100000
set_option maxHeartbeats 8000000
namespace Go.Proofs.YtpifdeoepppadaaGreatDoor
open Go.RowKit
set_option linter.unusedVariables false
theorem arl (vb:Value)(bs:List Int)(p:Bool)(k v:ByteArray)(w:World)(hb:Is .u8 w vb bs)(hl:bs.length≤140737488351232)(hk:k.size≤140737488351232)(hv:v.size≤140737488351232):
  Calls Tryz.prog 218 #[vb,tu p k v] w fun E w'=>∃v',E=.returned (.tuple #[v',.int .i64 (Om.aJ p k.data.toList v.data.toList)])∧Own .u8 5 w.heap.size w' v' (Om.afV bs p k.data.toList v.data.toList)∧Below w.heap.size w w':=by
 obtain⟨w0,hw0,tL,dx,cell0⟩:=alj w #[.bool p,.string k,.string v] 106
 have c0:=cell0 0 _ rfl
 have c1:=cell0 1 _ rfl
 have c2:=cell0 2 _ rfl
 clear cell0
 have hb0:=hb.below dx
 unfold tu
 rcases Om.zV p k.data.toList v.data.toList with hc|hc
 ·obtain⟨ao,cap,hshape,_,_⟩:=hb.shape
  subst hshape
  have hle:=Om.q9 hc
  have hh:=Om.fI hc
  rw[←Lib.size_eq,←Lib.size_eq]at hh
  have hh1:=hh.2.1
  have hh2:=hh.2.2.1
  obtain⟨i0,hi,hz0,hz1,hz2⟩:=info_parts Tryz.info5
  rw[Om.aiQ hc,hc]
  have HC:=hide hc
  clear hc hh
  cases p
  ·have pY:k.size≤64:=by omega
   have hv64:v.size≤64:=by omega
   generalize hn:(Om.dw false k.data.toList v.data.toList).length=n at*
   have HN:=hide hn
   clear hn
   go_enter Tryz.func218,Tryz.ntmps218
   go_wp2_with fail
   refine(mG false k v _ hk hv).mono ?_
   rintro E w1 ⟨rfl,ax⟩
   rw[HC.out]
   have d0:=(ax.cell (p:=⟨w.heap.size,0,none⟩) (by simp[tL])).trans c0
   have d1:=(ax.cell (p:=⟨w.heap.size,1,none⟩) (by simp[tL])).trans c1
   have d2:=(ax.cell (p:=⟨w.heap.size,2,none⟩) (by simp[tL])).trans c2
   have hb1:=hb0.below ax
   have bH:=ax.size
   go_wp2_with fail
   refine(aeo false k v _ HC.out).mono ?_
   rintro E w2 ⟨rfl,aB⟩
   rw[HN.out]
   have fA:=aB.size
   have f0:=(aB.cell (p:=⟨w.heap.size,0,none⟩) (by simp;omega)).trans d0
   have f1:=(aB.cell (p:=⟨w.heap.size,1,none⟩) (by simp;omega)).trans d1
   have f2:=(aB.cell (p:=⟨w.heap.size,2,none⟩) (by simp;omega)).trans d2
   have hb2:=hb1.below aB
   clear hb1 d0 d1 d2 c0 c1 c2 hb0 hw0
   have aY:Below w.heap.size w w2:=(dx.trans (ax.mono dx.size)).trans (aB.mono (by omega))
   clear dx ax aB
   go_wp2_with (at_make;refine wpList_make_own _ rfl _ _ 71 rfl (w.heap.size+1) 5 i0 (.int .u8 0) 1 Tryz.underlying71 hi hz0 hz1 _ _ _ (bs.length+n) rfl rfl (by omega) ?b2 ?b3 (by omega) ?_)
   case b2=>rw[hz2];omega
   case b3=>unfold maxLen;omega
   intro w3 hown3 hgrow3
   have aH:Below w2.heap.size w2 w3:=(Below.refl _ _).grown hgrow3 (Nat.le_refl _) (by simp)
   have df:Own .u8 5 (w.heap.size+1) w3 (.slice (some ⟨w2.heap.size,0,none⟩) 0 (bs.length+n)) []:=⟨by simp,hown3⟩
   have hb3:=hb2.below aH
   have fZ:=aH.size
   clear hown3 hgrow3 hb2
   go_wp2_with (at_builtin;refine dA rfl (.tmp 19) (.tmp 20) 71 rfl .u8 5 (w.heap.size+1) 1 Tryz.underlying71 Tryz.info5 (by decide) _ [] rfl df _ bs rfl hb3 (by simp;omega) (by omega) ?_)
   intro v4 w4 bM aS _
   have pK:=aS.size
   have g0:=(aS.cell (p:=⟨w.heap.size,0,none⟩) (by simp)).trans ((aH.cell (p:=⟨w.heap.size,0,none⟩) (by simp;omega)).trans f0)
   have g1:=(aS.cell (p:=⟨w.heap.size,1,none⟩) (by simp)).trans ((aH.cell (p:=⟨w.heap.size,1,none⟩) (by simp;omega)).trans f1)
   have g2:=(aS.cell (p:=⟨w.heap.size,2,none⟩) (by simp)).trans ((aH.cell (p:=⟨w.heap.size,2,none⟩) (by simp;omega)).trans f2)
   have dF:Below w.heap.size w w4:=(aY.trans (aH.mono (by omega))).trans (aS.mono (by omega))
   clear f0 f1 f2 hb3 df aY aH aS
   obtain⟨w5,kL,pq,aX,dI⟩:=lK .u8 5 w4 #[.int .u8 0] 1 [0] rfl rfl (by simp[maxLen]) (by simp[wf_u8])
   go_wp2_with (at_builtin;refine dA rfl (.tmp 25) (.tmp 26) 71 rfl .u8 5 (w.heap.size+1) 1 Tryz.underlying71 Tryz.info5 (by decide) _ bs rfl (bM.below aX) _ [0] rfl dI.is (by simp;omega) (by omega) ?_)
   intro v6 w6 eu dJ _
   have tC:=dJ.size
   have k0:=(dJ.cell (p:=⟨w.heap.size,0,none⟩) (by simp)).trans ((aX.cell (p:=⟨w.heap.size,0,none⟩) (by simp;omega)).trans g0)
   have k1:=(dJ.cell (p:=⟨w.heap.size,1,none⟩) (by simp)).trans ((aX.cell (p:=⟨w.heap.size,1,none⟩) (by simp;omega)).trans g1)
   have k2:=(dJ.cell (p:=⟨w.heap.size,2,none⟩) (by simp)).trans ((aX.cell (p:=⟨w.heap.size,2,none⟩) (by simp;omega)).trans g2)
   have jr:Below w.heap.size w w6:=(dF.trans (aX.mono (by omega))).trans (dJ.mono (by omega))
   clear g0 g1 g2 bM dI dF aX dJ kL
   have hl6:(bs++[0]).length≤140737488351300:=by rw[List.length_append];simp;omega
   go_wp2_with fail
   refine(abq (w.heap.size+1) _ _ k _ eu (by omega) (by omega) pY).mono ?_
   rintro E w7 ⟨v7,rfl,jO,fQ⟩
   have sz7:=fQ.size
   have mP:Own .u8 5 w.heap.size w7 v7 (bs++Om.dw false k.data.toList v.data.toList):=by
    have:bs++Om.dw false k.data.toList v.data.toList=bs++[0]++Om.cnt k.data.toList:=by unfold Om.dw;simp
    rw[this]
    exact jO.bz (by omega)
   go_wp2
   go_ret2
   exact⟨_,rfl,mP,jr.trans (fQ.mono (by omega))⟩
  ·have pY:k.size≤64:=by omega
   have hv64:v.size≤64:=by omega
   generalize hn:(Om.dw true k.data.toList v.data.toList).length=n at*
   have HN:=hide hn
   clear hn
   go_enter Tryz.func218,Tryz.ntmps218
   go_wp2_with fail
   refine(mG true k v _ hk hv).mono ?_
   rintro E w1 ⟨rfl,ax⟩
   rw[HC.out]
   have d0:=(ax.cell (p:=⟨w.heap.size,0,none⟩) (by simp[tL])).trans c0
   have d1:=(ax.cell (p:=⟨w.heap.size,1,none⟩) (by simp[tL])).trans c1
   have d2:=(ax.cell (p:=⟨w.heap.size,2,none⟩) (by simp[tL])).trans c2
   have hb1:=hb0.below ax
   have bH:=ax.size
   go_wp2_with fail
   refine(aeo true k v _ HC.out).mono ?_
   rintro E w2 ⟨rfl,aB⟩
   rw[HN.out]
   have fA:=aB.size
   have f0:=(aB.cell (p:=⟨w.heap.size,0,none⟩) (by simp;omega)).trans d0
   have f1:=(aB.cell (p:=⟨w.heap.size,1,none⟩) (by simp;omega)).trans d1
   have f2:=(aB.cell (p:=⟨w.heap.size,2,none⟩) (by simp;omega)).trans d2
   have hb2:=hb1.below aB
   clear hb1 d0 d1 d2 c0 c1 c2 hb0 hw0
   have aY:Below w.heap.size w w2:=(dx.trans (ax.mono dx.size)).trans (aB.mono (by omega))
   clear dx ax aB
   go_wp2_with (at_make;refine wpList_make_own _ rfl _ _ 71 rfl (w.heap.size+1) 5 i0 (.int .u8 0) 1 Tryz.underlying71 hi hz0 hz1 _ _ _ (bs.length+n) rfl rfl (by omega) ?b2 ?b3 (by omega) ?_)
   case b2=>rw[hz2];omega
   case b3=>unfold maxLen;omega
   intro w3 hown3 hgrow3
   have aH:Below w2.heap.size w2 w3:=(Below.refl _ _).grown hgrow3 (Nat.le_refl _) (by simp)
   have df:Own .u8 5 (w.heap.size+1) w3 (.slice (some ⟨w2.heap.size,0,none⟩) 0 (bs.length+n)) []:=⟨by simp,hown3⟩
   have hb3:=hb2.below aH
   have fZ:=aH.size
   clear hown3 hgrow3 hb2
   go_wp2_with (at_builtin;refine dA rfl (.tmp 19) (.tmp 20) 71 rfl .u8 5 (w.heap.size+1) 1 Tryz.underlying71 Tryz.info5 (by decide) _ [] rfl df _ bs rfl hb3 (by simp;omega) (by omega) ?_)
   intro v4 w4 bM aS _
   have pK:=aS.size
   have g0:=(aS.cell (p:=⟨w.heap.size,0,none⟩) (by simp)).trans ((aH.cell (p:=⟨w.heap.size,0,none⟩) (by simp;omega)).trans f0)
   have g1:=(aS.cell (p:=⟨w.heap.size,1,none⟩) (by simp)).trans ((aH.cell (p:=⟨w.heap.size,1,none⟩) (by simp;omega)).trans f1)
   have g2:=(aS.cell (p:=⟨w.heap.size,2,none⟩) (by simp)).trans ((aH.cell (p:=⟨w.heap.size,2,none⟩) (by simp;omega)).trans f2)
   have dF:Below w.heap.size w w4:=(aY.trans (aH.mono (by omega))).trans (aS.mono (by omega))
   clear f0 f1 f2 hb3 df aY aH aS
   obtain⟨w5,kL,pq,aX,dI⟩:=lK .u8 5 w4 #[.int .u8 1] 1 [1] rfl rfl (by simp[maxLen]) (by simp[wf_u8])
   go_wp2_with (at_builtin;refine dA rfl (.tmp 32) (.tmp 33) 71 rfl .u8 5 (w.heap.size+1) 1 Tryz.underlying71 Tryz.info5 (by decide) _ bs rfl (bM.below aX) _ [1] rfl dI.is (by simp;omega) (by omega) ?_)
   intro v6 w6 eu dJ _
   have tC:=dJ.size
   have k0:=(dJ.cell (p:=⟨w.heap.size,0,none⟩) (by simp)).trans ((aX.cell (p:=⟨w.heap.size,0,none⟩) (by simp;omega)).trans g0)
   have k1:=(dJ.cell (p:=⟨w.heap.size,1,none⟩) (by simp)).trans ((aX.cell (p:=⟨w.heap.size,1,none⟩) (by simp;omega)).trans g1)
   have k2:=(dJ.cell (p:=⟨w.heap.size,2,none⟩) (by simp)).trans ((aX.cell (p:=⟨w.heap.size,2,none⟩) (by simp;omega)).trans g2)
   have jr:Below w.heap.size w w6:=(dF.trans (aX.mono (by omega))).trans (dJ.mono (by omega))
   clear g0 g1 g2 bM dI dF aX dJ kL
   have hl6:(bs++[1]).length≤140737488351300:=by rw[List.length_append];simp;omega
   go_wp2_with fail
   refine(abq (w.heap.size+1) _ _ k _ eu (by omega) (by omega) pY).mono ?_
   rintro E w7 ⟨v7,rfl,jO,fQ⟩
   have sz7:=fQ.size
   have m2:=(fQ.cell (p:=⟨w.heap.size,2,none⟩) (by simp)).trans k2
   have hl7:(bs++[1]++Om.cnt k.data.toList).length≤140737488351400:=by
    rw[List.length_append]
    have:=Om.af0 (s:=k.data.toList) (by rw[←Lib.size_eq];omega)
    omega
   have ab8:Below w.heap.size w w7:=jr.trans (fQ.mono (by omega))
   clear eu jr fQ k0 k1 k2
   go_wp2_with fail
   refine(abq (w.heap.size+1) _ _ v _ jO (by omega) (by omega) hv64).mono ?_
   rintro E w8 ⟨v8,rfl,mP,lg⟩
   have aqZ:Own .u8 5 w.heap.size w8 v8 (bs++Om.dw true k.data.toList v.data.toList):=by
    have:bs++Om.dw true k.data.toList v.data.toList=bs++[1]++Om.cnt k.data.toList++Om.cnt v.data.toList:=by unfold Om.dw;simp
    rw[this]
    exact mP.bz (by omega)
   go_wp2
   go_ret2
   exact⟨_,rfl,aqZ,ab8.trans (lg.mono (by omega))⟩
 ·rw[Om.au9 hc,hc]
  have HC:=hide hc
  clear hc
  go_enter Tryz.func218,Tryz.ntmps218
  go_wp2_with fail
  refine(mG p k v _ hk hv).mono ?_
  rintro E w1 ⟨rfl,ax⟩
  rw[HC.out]
  go_wp2
  go_ret2
  exact⟨_,rfl,Own.nil _ _ _ _,dx.trans (ax.mono dx.size)⟩
theorem vE (x:Int)(w:World):Calls Tryz.prog 196 #[.int .i64 x] w fun E w'=>E=.returned (.bool (decide (1≤x∧x≤1048576)))∧w=w':=by
 go_enter Tryz.func196,Tryz.ntmps196
 by_cases h1:1≤x
 ·by_cases h2:x≤1048576
  ·go_wp2
   go_ret
   exact⟨by simp[h1,h2],rfl⟩
  ·go_wp2
   go_ret
   exact⟨by simp;omega,rfl⟩
 ·go_wp2
  go_ret
  exact⟨by simp;omega,rfl⟩
theorem wW (e n:Int)(v:Value)(l:List Bm.Ov)(w:World)(h:dm w v l)(hf:fG l)(hl:l.length≤140737488355328):
  Calls Tryz.prog 165 #[cZ e n v] w fun E w'=>E=.returned (.int .i64 (Cm.aJ e n l))∧Below w.heap.size w w':=by
 unfold cZ
 obtain⟨w1,hw1,bH,ax,hB⟩:=ay w #[.int .i64 e,.int .i64 n,v] 32
 have c0:=ai hB 0 rfl
 have c1:=ai hB 1 rfl
 have c2:=ai hB 2 rfl
 have h1:=h.below ax
 obtain⟨ao,cap,rfl,_,_⟩:=h.shape
 clear hB
 go_enter Tryz.func165,Tryz.ntmps165
 by_cases he:1≤e∧e≤1048576
 ·have he':decide (1≤e∧e≤1048576)=true:=by simp[he]
  by_cases hn:1≤n∧n≤1048576
  ·have hn':decide (1≤n∧n≤1048576)=true:=by simp[hn]
   rw[Cm.agJ ⟨he.1,he.2,hn.1,hn.2⟩]
   clear he hn
   go_wp2_with fail
   refine(vE e _).mono ?_
   rintro E w2 ⟨rfl,rfl⟩
   rw[he']
   go_wp2_with fail
   refine(vE n _).mono ?_
   rintro E w2 ⟨rfl,rfl⟩
   rw[hn']
   go_wp2_with fail
   refine(mX _ l _ h1 hf hl).mono ?_
   rintro E w3 ⟨rfl,aH⟩
   have bP:=ax.trans (aH.mono (by omega))
   go_wp2
   go_ret
   exact⟨rfl,bP⟩
  ·have hn':decide (1≤n∧n≤1048576)=false:=by simpa using hn
   rw[Cm.adp (by omega)]
   clear he hn
   go_wp2_with fail
   refine(vE e _).mono ?_
   rintro E w2 ⟨rfl,rfl⟩
   rw[he']
   go_wp2_with fail
   refine(vE n _).mono ?_
   rintro E w2 ⟨rfl,rfl⟩
   rw[hn']
   go_wp2
   go_ret
   exact⟨rfl,ax⟩
 ·have he':decide (1≤e∧e≤1048576)=false:=by simpa using he
  rw[Cm.adp (by omega)]
  clear he
  go_wp2_with fail
  refine(vE e _).mono ?_
  rintro E w2 ⟨rfl,rfl⟩
  rw[he']
  go_wp2
  go_ret
  exact⟨rfl,ax⟩
def nD (e n:Int) (l:List Bm.Ov) (e' n':Int) (l':List Bm.Ov):Bool:=(e==e')&&((n==n')&&Bm.sameL l l')
theorem ajU (e n:Int)(v:Value)(l:List Bm.Ov)(e' n':Int)(v':Value)(l':List Bm.Ov)(w:World)(h:dm w v l)(h':dm w v' l')(hl:l.length≤140737488355328)(hl':l'.length≤140737488355328):
  Calls Tryz.prog 100 #[cZ e n v,cZ e' n' v'] w fun E w'=>E=.returned (.bool (nD e n l e' n' l'))∧Below w.heap.size w w':=by
 unfold cZ
 obtain⟨w1,hw1,bH,ax,hB⟩:=ay w #[.int .i64 e,.int .i64 n,v] 32
 obtain⟨w2,hw2,fA,aB,hC⟩:=ay w1 #[.int .i64 e',.int .i64 n',v'] 32
 rw[bH]at hC
 have hB2:=(aB.block _ (aA hB)).trans hB
 have c0:=ai hB2 0 rfl
 have c1:=ai hB2 1 rfl
 have c2:=ai hB2 2 rfl
 have d0:=ai hC 0 rfl
 have d1:=ai hC 1 rfl
 have d2:=ai hC 2 rfl
 have aY:Below w.heap.size w w2:=ax.trans (aB.mono (by omega))
 have i1:=h.below aY
 have i2:=h'.below aY
 obtain⟨ao,cap,rfl,_,_⟩:=h.shape
 obtain⟨ao',cap',rfl,_,_⟩:=h'.shape
 clear hB hC hB2 ax aB
 go_enter Tryz.func100,Tryz.ntmps100
 by_cases he:e=e'
 ·have he':(e==e')=true:=by simp[he]
  by_cases hn:n=n'
  ·have hn':(n==n')=true:=by simp[hn]
   have hs:nD e n l e' n' l'=Bm.sameL l l':=by simp[nD,he',hn']
   rw[hs]
   clear he hn hs
   go_wp2_with fail
   refine(an2 _ _ l l' _ i1 i2 hl hl').mono ?_
   rintro E w3 ⟨rfl,aH⟩
   have bP:=aY.trans (aH.mono (by omega))
   go_wp2
   go_ret
   exact⟨rfl,bP⟩
  ·have hn':(n==n')=false:=by simpa using hn
   have hs:nD e n l e' n' l'=false:=by simp[nD,hn']
   rw[hs]
   clear he hn hs
   go_wp2
   go_ret
   exact⟨rfl,aY⟩
 ·have he':(e==e')=false:=by simpa using he
  have hs:nD e n l e' n' l'=false:=by simp[nD,he']
  rw[hs]
  clear he hs
  go_wp2
  go_ret
  exact⟨rfl,aY⟩
def behind:Bm.Ov:=⟨true,⟨#[98,101,104,105,110,100]⟩,⟨#[]⟩⟩
theorem an8 (vl:Value)(l:List Bm.Ov)(w:World)(h:dm w vl l)(hl:l.length*40≤140737488355328):
  Calls Tryz.prog 149 #[vl] w fun e w'=>∃v,e=.returned v∧aV 106 w.heap.size w' v l∧Below w.heap.size w w':=by
 obtain⟨w1,hw1,bH,ax,bJ⟩:=lN 106 w #[] 0 [] rfl rfl (by simp[maxLen])
 have h1:=h.below ax
 go_enter Tryz.func149,Tryz.ntmps149
 go_wp2_with (at_builtin;refine iN rfl (.tmp 3) (.tmp 4) 30 rfl 106 w.heap.size Tryz.underlying30 Tryz.nR _ [] rfl bJ _ l rfl h1 (by simp;omega) (by omega) ?_)
 intro v2 w2 bq aB _
 go_wp2
 go_ret
 exact⟨_,rfl,by simpa using bq,ax.trans aB⟩
theorem anW (e n:Int)(v:Value)(l:List Bm.Ov)(w:World)(h:dm w v l)(hl:l.length*40≤140737488351232):
  Calls Tryz.prog 94 #[cZ e n v] w fun E w'=>∃v',E=.returned (cZ e n v')∧aV 106 w.heap.size w' v' l∧Below w.heap.size w w':=by
 unfold cZ
 obtain⟨w1,hw1,bH,ax,hB⟩:=ay w #[.int .i64 e,.int .i64 n,v] 32
 obtain⟨w2,hw2,fA,aB,hR⟩:=ay w1 #[.int .i64 0,.int .i64 0,.slice none 0 0] 32
 rw[bH]at hR
 have hB2:=(aB.block w.heap.size (by omega)).trans hB
 have aY:Below w.heap.size w w2:=ax.trans (aB.mono (by omega))
 have h2:=h.below aY
 obtain⟨ao,cap,rfl,_,_⟩:=h.shape
 have c0:=ai hB2 0 rfl
 have c1:=ai hB2 1 rfl
 have c2:=ai hB2 2 rfl
 have HB:=hide hB2
 have HR:=hide hR
 clear hB hB2 hR ax aB
 go_enter Tryz.func94,Tryz.ntmps94
 go_wp2_with fail
 go_region_held3 (fun w'=>w'.cell? ⟨w.heap.size,0,none⟩=some (.int .i64 e)∧w'.cell? ⟨w.heap.size,1,none⟩=some (.int .i64 n)∧w'.cell? ⟨w.heap.size,2,none⟩=some (.slice ao l.length cap)) (first|exact⟨c0,c1,c2⟩|exact⟨a0,a1,a2⟩|exact⟨b0,b1,b2⟩|go_keep)
  (first
  |(go_at_call 149;refine(an8 _ l _ (h2.drewN 1) (by omega)).mono ?_;rintro E w3 ⟨v3,rfl,df,tQ⟩;have aH:Below w2.heap.size w2 w3:=((Below.refl _ _).drew).trans tQ;have fZ:=aH.size;have hB3:=(aH.block w.heap.size (by omega)).trans HB.out;have j6:=(aH.block (w.heap.size+1) (by omega)).trans HR.out;have a0:=ai hB3 0 rfl;have a1:=ai hB3 1 rfl;have a2:=ai hB3 2 rfl;obtain⟨ah,ch,hv3,_,_⟩:=df.is.shape;subst hv3;obtain⟨V',hV',ic,dK,⟨r0,r1,r2⟩,⟨f0,f1,f2⟩,⟨z0,z1,z2⟩⟩:=dN j6 (.int .i64 e) (.int .i64 n) (.slice ah l.length ch);have eO:=aK (aY.trans (aH.mono (by omega))) dK (by omega) (by omega);have fE:=dK.size;have qi:=(df.qz dK (show w.heap.size+1<w2.drew.heap.size by simp;omega)).bz (base':=w.heap.size) (show w.heap.size≤w2.drew.heap.size by simp;omega);have tZ:=(dK.block w.heap.size (by omega) (by simp)).trans hB3;have b0:=ai tZ 0 rfl;have b1:=ai tZ 1 rfl;have b2:=ai tZ 2 rfl;clear tQ hB3 j6 df ic dK tZ))
 go_wp2
 refine bodyPost_ret (v:=.agg #[.int .i64 e,.int .i64 n,.slice ah l.length ch]) (by simp[results,Tryz.results94,go_sem,z0,z1,z2]) rfl ?_
 exact⟨_,rfl,qi,eO⟩
end Go.Proofs.YtpifdeoepppadaaGreatDoor
namespace Go.Proofs.YtpifdeoepppadaaGreatDoor
open Go.RowKit
open Bm (Ov)
set_option linter.unusedVariables false
theorem Tryz.adD:(Tryz.prog.info? 122).map (fun i=>(i.zero,i.size,i.bytes))=some (some (.agg #[.int .i64 0,.int .i64 0,.slice none 0 0]),3,40):=by kernel_rfl
theorem axF {a b:ByteArray}(h:Tm.lt b a=true):Op.bytesLess a.toList b.toList=false∧(a.toList==b.toList)=false:=by
 rw[Tm.ajC,Tm.eqk]
 exact⟨Tm.amM h,by simpa using(Tm.vS h).symm⟩
theorem auL {a b:ByteArray}(h:Tm.lt b a=false):(Op.bytesLess a.toList b.toList=true∧a≠b)∨(Op.bytesLess a.toList b.toList=false∧(a.toList==b.toList)=true):=by
 rw[Tm.ajC,Tm.eqk]
 cases hl:Tm.lt a b with
 |true=>exact .inl ⟨rfl,Tm.vS hl⟩
 |false=>exact .inr ⟨rfl,by simpa using Tm.abA hl h⟩
theorem aoy {l:List Ov}{k:Nat}{o:Ov}(h:Rn.may ⟨#[]⟩ (l.take k)=true)(ho:l[k]? =some o)(hc:o.c=0)(hlt:Tm.lt (Rn.uk ⟨#[]⟩ (l.take k)) o.k=true):Rn.may ⟨#[]⟩ (l.take (k+1))=true∧Rn.uk ⟨#[]⟩ (l.take (k+1))=o.k:=by
 obtain⟨h1,rfl⟩:=List.getElem?_eq_some_iff.1 ho
 rw[List.take_succ_eq_append_getElem h1,Rn.adK,Rn.ad7,h]
 simp[Rn.may,hc,hlt]
theorem ail {l:List Ov}{k:Nat}{o:Ov}(ho:l[k]? =some o)(h:o.c≠0∨Tm.lt (Rn.uk ⟨#[]⟩ (l.take k)) o.k=false):Rn.may ⟨#[]⟩ l=false:=by
 obtain⟨h1,rfl⟩:=List.getElem?_eq_some_iff.1 ho
 have e:l=l.take k++(l[k]::l.drop (k+1)):=by rw[←List.drop_eq_getElem_cons h1,List.take_append_drop]
 have e2:Rn.may ⟨#[]⟩ l=Rn.may ⟨#[]⟩ (l.take k++(l[k]::l.drop (k+1))):=congrArg _ e
 rw[e2,Rn.adK]
 rcases h with h|h<;>simp[Rn.may,h]
theorem arO (v:Value)(l:List Ov)(w:World)(h:dm w v l)(hf:fG l)(hl:l.length≤140737488355328):
  Calls Tryz.prog 227 #[v] w fun E w'=>E=.returned (.bool (Rn.may ⟨#[]⟩ l))∧Below w.heap.size w w':=by
 obtain⟨ans,eT⟩:∃x,Rn.may ⟨#[]⟩ l=x:=⟨_,rfl⟩
 rw[eT]
 have HA:=hide eT
 obtain⟨ao,cap,hsv,hcap,_⟩:=h.shape
 have jb:=hide fun(h0:0<l.length)=>h.full h0
 subst hsv
 have HF:=hide hf
 obtain⟨n,hnn⟩:∃n,l.length=n:=⟨_,rfl⟩
 rw[hnn]at jb hcap hl⊢
 have HN:=hide hnn
 clear h hf hnn eT
 go_enter Tryz.func227,Tryz.ntmps227
 go_wp2
 go_loopw [3,8] (fun av i wr=>∃(k:Nat) (ah:ByteArray),k≤n∧i=.int .i64 k∧av=.string ah∧Hid (Rn.may ⟨#[]⟩ (l.take k)=true∧Rn.uk ⟨#[]⟩ (l.take k)=ah)∧Below w.heap.size w wr) (fun _ i _=>n-(intOf i).toNat)
 case atStart=>exact⟨0,⟨#[]⟩,by omega,rfl,rfl,hide ⟨by simp[Rn.may],by simp[Rn.uk]⟩,Below.refl _ _⟩
 case round=>
  obtain⟨k,ah,hk,rfl,rfl,HT,aF⟩:=hrel
  have sz:=aF.size
  by_cases hlt:k<n
  ·obtain⟨o,ho⟩:∃o,l[k]? =some o:=⟨l[k]'(by have:=HN.out;omega),by rw[List.getElem?_eq_getElem]⟩
   obtain⟨b1,o1,cq,dL,_,_,hB,hcell⟩:=jb.out (by omega)
   simp only[Value.slice.injEq,true_and]at dL
   obtain⟨rfl,rfl⟩:=dL
   obtain⟨c0,c1,c2⟩:=hcell k o ho
   have d0:=(aF.cell (p:=⟨b1,o1+k*3,none⟩) hB).trans c0
   have d1:=(aF.cell (p:=⟨b1,o1+k*3+1,none⟩) hB).trans c1
   have d2:=(aF.cell (p:=⟨b1,o1+k*3+2,none⟩) hB).trans c2
   have HO:=hide ho
   clear c0 c1 c2 ho hcell
   have hlt':(k:Int)<n:=by omega
   obtain⟨hk1,hv1⟩:=HF.out o (List.mem_of_getElem? HO.out)
   obtain⟨W1,hW1,bH,rq,B1⟩:=ay wr #[.bool o.p,.string o.k,.string o.v] 106
   have e0:=ai B1 0 rfl
   have e1:=ai B1 1 rfl
   have e2:=ai B1 2 rfl
   have b01:Below w.heap.size w W1:=aF.trans (rq.mono sz)
   clear B1 rq
   go_wp2_with fail
   refine(mG o.p o.k o.v _ hk1 hv1).mono ?_
   rintro E w1 ⟨rfl,ax⟩
   have aB:Below w.heap.size w w1:=b01.trans (ax.mono (by omega))
   have e1':=(ax.cell (p:=⟨wr.heap.size,1,none⟩) (show wr.heap.size<W1.heap.size by omega)).trans e1
   clear ax d0 d1 d2 e0 e1 e2
   rcases(show Om.aJ o.p o.k.data.toList o.v.data.toList=0∨_ from Om.zV _ _ _)with hc|hc
   ·rw[hc]
    have HC:=hide (show o.c=0 from hc)
    clear hc
    cases hlk:Tm.lt ah o.k with
    |true=>
     obtain⟨q1,q2⟩:=axF hlk
     have HT2:=hide (aoy HT.out.1 HO.out HC.out (by rw[HT.out.2];exact hlk))
     clear hlk
     go_wp2
     go_roundw
     case rel=>exact⟨k+1,o.k,by omega,by go_num,rfl,HT2,aB⟩
     case measure=>simp[intOf];omega
    |false=>
     have hfo:=HA.out
     rw[ail HO.out (.inr (by rw[HT.out.2];exact hlk))]at hfo
     subst hfo
     rcases auL hlk with⟨q1,_⟩|⟨q1,q2⟩
     ·clear hlk
      go_wp2
      go_ret
      exact⟨rfl,aB⟩
     ·clear hlk
      go_wp2
      go_ret
      exact⟨rfl,aB⟩
   ·rw[hc]
    have hfo:=HA.out
    rw[ail HO.out (.inl (show o.c≠0 by unfold Bm.Ov.c Bm.Ov.kl Bm.Ov.vl;rw[hc];simp))]at hfo
    subst hfo
    clear hc
    go_wp2
    go_ret
    exact⟨rfl,aB⟩
  ·have hlt':¬(k:Int)<n:=by omega
   have hfo:=HA.out
   have h1:=HT.out.1
   rw[List.take_of_length_le (by have:=HN.out;omega),hfo]at h1
   subst h1
   clear hfo
   go_wp2
   go_ret
   exact⟨rfl,aF⟩
theorem acw (e n:Int)(v:Value)(l:List Ov)(w:World)(h:dm w v l)(hf:fG l)(hl:l.length≤140737488355328):
  Calls Tryz.prog 214 #[cZ e n v] w fun E w'=>E=.returned (.int .i64 (Rn.aJ e n l))∧Below w.heap.size w w':=by
 unfold cZ
 obtain⟨w1,hw1,bH,ax,hB⟩:=ay w #[.int .i64 e,.int .i64 n,v] 122
 have c0:=ai hB 0 rfl
 have c1:=ai hB 1 rfl
 have c2:=ai hB 2 rfl
 have HM:=hide (arO v l w1 (h.below ax) hf hl)
 obtain⟨ao,cap,rfl,_,_⟩:=h.shape
 obtain⟨ans,eT⟩:∃x,Rn.aJ e n l=x:=⟨_,rfl⟩
 rw[eT]
 have HA:=hide eT
 have hlz:l.length=l.length:=rfl
 by_cases hlong:1024<l.length
 ·have hfo:=HA.out
  rw[Rn.aoE hlong]at hfo
  subst hfo
  have azp:(1024:Int)<(l.length:Int):=by omega
  generalize l.length=m at*
  clear HA HM h hf eT hB
  go_enter Tryz.func214,Tryz.ntmps214
  go_wp2
  go_ret
  exact⟨rfl,ax⟩
 have azp:¬(1024:Int)<(l.length:Int):=by omega
 by_cases h1:e<1
 ·have hfo:=HA.out
  rw[Rn.iW hlong fun h=>by omega]at hfo
  subst hfo
  generalize l.length=m at*
  clear HA HM h hf eT hB
  go_enter Tryz.func214,Tryz.ntmps214
  go_wp2
  go_ret
  exact⟨rfl,ax⟩
 by_cases h2:n<e
 ·have hfo:=HA.out
  rw[Rn.iW hlong fun h=>by omega]at hfo
  subst hfo
  generalize l.length=m at*
  clear HA HM h hf eT hB
  go_enter Tryz.func214,Tryz.ntmps214
  go_wp2
  go_ret
  exact⟨rfl,ax⟩
 by_cases h3:(1048576:Int)<n
 ·have hfo:=HA.out
  rw[Rn.iW hlong fun h=>by omega]at hfo
  subst hfo
  generalize l.length=m at*
  clear HA HM h hf eT hB
  go_enter Tryz.func214,Tryz.ntmps214
  go_wp2
  go_ret
  exact⟨rfl,ax⟩
 cases hm:Rn.may ⟨#[]⟩ l with
 |true=>
  have hfo:=HA.out
  rw[Rn.iD hlong ⟨by omega,by omega,by omega,hm⟩]at hfo
  subst hfo
  rw[hm]at HM
  generalize l.length=m at*
  clear HA h hf eT hB hm
  go_enter Tryz.func214,Tryz.ntmps214
  go_wp2_with fail
  refine HM.out.mono ?_
  rintro E w2 ⟨rfl,aB⟩
  have aY:=ax.trans (aB.mono ax.size)
  go_wp2
  go_ret
  exact⟨rfl,aY⟩
 |false=>
  have hfo:=HA.out
  rw[Rn.iW hlong fun h=>by rw[hm]at h;simp at h]at hfo
  subst hfo
  rw[hm]at HM
  generalize l.length=m at*
  clear HA h hf eT hB hm
  go_enter Tryz.func214,Tryz.ntmps214
  go_wp2_with fail
  refine HM.out.mono ?_
  rintro E w2 ⟨rfl,aB⟩
  have aY:=ax.trans (aB.mono ax.size)
  go_wp2
  go_ret
  exact⟨rfl,aY⟩
end Go.Proofs.YtpifdeoepppadaaGreatDoor
namespace Go.Proofs.YtpifdeoepppadaaGreatDoor
open Go.RowKit
set_option linter.unusedVariables false
theorem dR {V:World}{R:Nat}{t:TypeId}{x y:Value}(hR:V.heap[R]? =some (.cells #[x,y] t (0,0)))(a b:Value):
  ∃V',(V.setCell ⟨R,0,none⟩ a).setCell ⟨R,1,none⟩ b=V'∧V'.heap[R]? =some (.cells #[a,b] t (0,0))∧V.grownBy V' (some R)∧
   (V.cell? ⟨R,0,none⟩=some x∧V.cell? ⟨R,1,none⟩=some y)∧(V.frozen? ⟨R,0,none⟩=false∧V.frozen? ⟨R,1,none⟩=false)∧
   (V'.cell? ⟨R,0,none⟩=some a∧V'.cell? ⟨R,1,none⟩=some b):=by
 have h2:=aL (aL hR 0 a) 1 b
 exact⟨_,rfl,h2,aO (aC V ⟨R,0,none⟩ a) (aC _ ⟨R,1,none⟩ b),⟨ai hR 0 rfl,ai hR 1 rfl⟩,⟨az hR 0,az hR 1⟩,⟨ai h2 0 rfl,ai h2 1 rfl⟩⟩
theorem adN (w:World)(t:TypeId)(x y a b:Value):∃V,(((w.alloc (.cells #[x,y] t)).setCell ⟨w.heap.size,0,none⟩ a).setCell ⟨w.heap.size,1,none⟩ b=V)∧w.alloc (.cells #[a,b] t)=V∧V.heap.size=w.heap.size+1∧Below w.heap.size w V∧V.heap[w.heap.size]? =some (.cells #[a,b] t (0,0))∧
  V.cell? ⟨w.heap.size,0,none⟩=some a∧V.cell? ⟨w.heap.size,1,none⟩=some b:=by
 obtain⟨V,h1,h2,h3,h4⟩:=ay w #[a,b] t
 refine⟨V,?_,h1,h2,h3,h4,ai h4 0 rfl,ai h4 1 rfl⟩
 rw[←h1]
 simp[go_sem]
def flv (f:Int×Int):Value:=.agg #[.int .i64 f.1,.int .i64 f.2]
theorem Tryz.acE (op:BinOp)(x y:Operand)(xs ys:Array Value)(w:World):(eqGuard op 98 x y (.agg xs) (.agg ys)).run Tryz.prog w=.ok () w:=run_eqGuard_agg w op 98 x y xs ys (by kernel_rfl)
theorem Tryz.aq2 (a b c d:Int)(w:World):(binOp .neq 98 (.agg #[.int .i64 a,.int .i64 b]) (.agg #[.int .i64 c,.int .i64 d])).run Tryz.prog w=.ok (.bool (!((a==c)&&(b==d)))) w:=by
 rw[run_neq_struct,run_equalIn_agg w 9999 98 _ _ (by kernel_rfl) (by kernel_rfl)]
 unfold Program.fieldsOf
 rw[Tryz.underlying98]
 simp[Op.eqFields,go_sem,Tryz.underlying26,Tryz.underlying3]
 by_cases h1:a=c<;>by_cases h2:b=d<;>simp[h1,h2]
theorem avk (at' ep nu e n:Int)(v:Value)(l:List Bm.Ov)(w:World)(h:dm w v l)(hf:fG l)(hl:l.length≤140737488355328):
  Calls Tryz.prog 116 #[.int .i64 at',.int .i64 ep,.int .i64 nu,cZ e n v] w fun E w'=>E=.returned (flv (Cm.flt at' ep nu ⟨e,n,l⟩))∧Below w.heap.size w w':=by
 unfold cZ flv
 obtain⟨fa,hfa⟩:∃f,Cm.flt at' ep nu ⟨e,n,l⟩=f:=⟨_,rfl⟩
 rw[hfa]
 have HF:=hide hfa
 clear hfa
 obtain⟨w1,hw1,bH,ax,hB⟩:=ay w #[.int .i64 e,.int .i64 n,v] 32
 obtain⟨w2,hw2,fA,aB,hR⟩:=ay w1 #[.int .i64 0,.int .i64 0] 98
 rw[bH]at hR
 have aY:Below w.heap.size w w2:=ax.trans (aB.mono (by omega))
 have hB2:=(aB.block w.heap.size (by omega)).trans hB
 have c0:=ai hB2 0 rfl
 have c1:=ai hB2 1 rfl
 have c2:=ai hB2 2 rfl
 have h2:=h.below aY
 obtain⟨ao,cap,rfl,_,_⟩:=h.shape
 have HB:=hide hB2
 have HR:=hide hR
 clear hB hB2 hR ax aB
 go_enter Tryz.func116,Tryz.ntmps116
 go_wp2_with fail
 refine(wW e n _ l _ h2 hf hl).mono ?_
 rintro E w3 ⟨rfl,aH⟩
 have fZ:=aH.size
 have hB3:=(aH.block w.heap.size (by omega)).trans HB.out
 have j6:=(aH.block (w.heap.size+1) (by omega)).trans HR.out
 have bP:=aY.trans (aH.mono (by omega))
 have d0:=ai hB3 0 rfl
 have d1:=ai hB3 1 rfl
 clear c0 c1 c2 HB HR hB3 aY aH h2
 by_cases hc:Cm.aJ e n l=0
 ·obtain⟨g1,g2,g3,g4,g5⟩:=Cm.bu hc
  by_cases hq:n-1≠nu∨e<ep
  ·obtain rfl:(15,at')=fa:=(Cm.adt (c:=⟨e,n,l⟩) hc hq).symm.trans HF.out
   rw[hc]
   obtain⟨V',hV',ic,dK,⟨a0,a1⟩,⟨f0,f1⟩,⟨z0,z1⟩⟩:=dR j6 (.int .i64 15) (.int .i64 at')
   have eO:=aK bP dK (by omega) (by omega)
   clear hc ic dK j6
   by_cases hq1:n-1=nu
   ·have hq2:e<ep:=by omega
    have hq3:(n-1 !=nu)=false:=by simpa using hq1
    clear hq hq1
    go_wp2
    refine bodyPost_ret (v:=.agg #[.int .i64 15,.int .i64 at']) (by simp[results,Tryz.results116,go_sem,z0,z1]) rfl ?_
    exact⟨rfl,eO⟩
   ·have hq3:(n-1 !=nu)=true:=by simpa using hq1
    clear hq hq1
    go_wp2
    refine bodyPost_ret (v:=.agg #[.int .i64 15,.int .i64 at']) (by simp[results,Tryz.results116,go_sem,z0,z1]) rfl ?_
    exact⟨rfl,eO⟩
  ·obtain rfl:(0,0)=fa:=(Cm.agA (c:=⟨e,n,l⟩) hc hq).symm.trans HF.out
   rw[hc]
   obtain⟨V',hV',ic,dK,⟨a0,a1⟩,⟨f0,f1⟩,⟨z0,z1⟩⟩:=dR j6 (.int .i64 0) (.int .i64 0)
   have eO:=aK bP dK (by omega) (by omega)
   have hq3:(n-1 !=nu)=false:=by simp;omega
   have hq2:¬e<ep:=by omega
   clear hc ic dK j6 hq
   go_wp2
   refine bodyPost_ret (v:=.agg #[.int .i64 0,.int .i64 0]) (by simp[results,Tryz.results116,go_sem,z0,z1]) rfl ?_
   exact⟨rfl,eO⟩
 ·have hfo:(Cm.aJ e n l,at')=fa:=(Cm.adx (c:=⟨e,n,l⟩) hc).symm.trans HF.out
  have hne:(Cm.aJ e n l==0)=false:=by simpa using hc
  generalize Cm.aJ e n l=ck at*
  subst hfo
  obtain⟨V',hV',ic,dK,⟨a0,a1⟩,⟨f0,f1⟩,⟨z0,z1⟩⟩:=dR j6 (.int .i64 ck) (.int .i64 at')
  have eO:=aK bP dK (by omega) (by omega)
  clear hc ic dK j6
  go_wp2
  refine bodyPost_ret (v:=.agg #[.int .i64 ck,.int .i64 at']) (by simp[results,Tryz.results116,go_sem,z0,z1]) rfl ?_
  exact⟨rfl,eO⟩
theorem aqE {r:List Cw}{k:Nat}{c:Cw}(h:r[k]? =some c):(aD r).drop k=c.c::(aD r).drop (k+1):=by
 obtain⟨hk,rfl⟩:=List.getElem?_eq_some_iff.1 h
 unfold aD
 rw[←List.map_drop,←List.map_drop,List.drop_eq_getElem_cons hk,List.map_cons]
theorem rR (ep0 nu0:Int)(vl:Value)(r:List Cw)(w:World)(h:fJ w vl r)(hf:fF r)(hl:r.length≤140737488355328):
  Calls Tryz.prog 53 #[.int .i64 ep0,.int .i64 nu0,vl] w fun E w'=>E=.returned (flv (Cm.fol ep0 nu0 0 (aD r)))∧Below w.heap.size w w':=by
 unfold flv
 obtain⟨fa,hfa⟩:∃f,Cm.fol ep0 nu0 0 (aD r)=f:=⟨_,rfl⟩
 rw[hfa]
 have HF:=hide hfa
 clear hfa
 obtain⟨w1,hw1,bH,ax,hR⟩:=ay w #[.int .i64 0,.int .i64 0] 98
 have h1:=h.below ax
 have hR0:=ai hR 0 rfl
 have jc:=ai hR 1 rfl
 by_cases hz:r.length=0
 ·have:r=[]:=List.eq_nil_of_length_eq_zero hz
  subst this
  obtain⟨ao,cap,rfl,_,_⟩:=h.1.shape
  have hfo:=HF.out
  simp only[aD,List.map_nil,Cm.ai8]at hfo
  subst hfo
  obtain⟨V',hV',ic,dK,⟨a0,a1⟩,⟨f0,f1⟩,⟨z0,z1⟩⟩:=dR hR (.int .i64 0) (.int .i64 0)
  have eO:=aK ax dK (by omega) (by omega)
  clear h h1 hf hl hz HF ic dK hR
  simp only[List.length_nil]
  go_enter Tryz.func53,Tryz.ntmps53
  go_wp2
  go_loopw [12] (fun iv wr=>iv=.int .i64 0∧wr=w1) (fun _ _=>0)
  case atStart=>exact⟨rfl,rfl⟩
  case round=>
   obtain⟨rfl,rfl⟩:=hrel
   go_wp2
   refine bodyPost_ret (v:=.agg #[.int .i64 0,.int .i64 0]) (by simp[results,Tryz.results53,go_sem,z0,z1]) rfl ?_
   exact⟨rfl,eO⟩
 obtain⟨b1,o1,c1,hvl,_,_,hB,hcell⟩:=h1.1.full (by omega)
 subst hvl
 have HIN:=hide h1.2
 have aps:=hide hf
 have HC:=hide hcell
 have HRR:=hide hR
 generalize hn:r.length=n at*
 have HN:=hide hn
 clear h h1 hcell hf hR hR0 jc hn
 go_enter Tryz.func53,Tryz.ntmps53
 go_wp2
 go_loopw [0,1,12] (fun ev nv iv wr=>∃(k:Nat) (ep nu:Int),k≤n∧iv=.int .i64 k∧ev=.int .i64 ep∧nv=.int .i64 nu∧Hid (Cm.fol ep nu k ((aD r).drop k)=fa)∧Below w1.heap.size w1 wr) (fun _ _ iv _=>n-(intOf iv).toNat)
 case atStart=>exact⟨0,ep0,nu0,by omega,rfl,rfl,rfl,HF,Below.refl _ _⟩
 case round=>
  obtain⟨k,ep,nu,hk,rfl,rfl,rfl,HT,aF⟩:=hrel
  have sz:=aF.size
  by_cases hlt:k<n
  ·obtain⟨c,hc⟩:∃c,r[k]? =some c:=⟨r[k]'(by have:=HN.out;omega),by rw[List.getElem?_eq_getElem]⟩
   obtain⟨e0,e1,e2⟩:=HC.out k c hc
   have d0:=(aF.cell (p:=⟨b1,o1+k*3,none⟩) hB).trans e0
   have d1:=(aF.cell (p:=⟨b1,o1+k*3+1,none⟩) hB).trans e1
   have d2:=(aF.cell (p:=⟨b1,o1+k*3+2,none⟩) hB).trans e2
   have hmem:=List.mem_of_getElem? hc
   obtain⟨i1,_,_⟩:=HIN.out c hmem
   have i2:=i1.below aF
   obtain⟨hfc,hlc⟩:=aps.out c hmem
   have HCD:=hide (aqE hc)
   have hlt':(k:Int)<n:=by omega
   obtain⟨ao,cp,hcv,_,_⟩:=i2.shape
   rw[hcv]at d2 i2
   obtain⟨V,hV,hV2,fE,bn,bC,q0,q1,q2⟩:=dO wr 32 (.int .i64 0) (.int .i64 0) (.slice none 0 0) (.int .i64 c.e) (.int .i64 c.n) (.slice ao c.l.length cp)
   have i3:=i2.below bn
   have BC:=hide bC
   clear e0 e1 e2 hc hmem i1 i2 hcv bC
   go_wp2_with fail
   refine(avk k ep nu c.e c.n _ c.l _ i3 hfc (by omega)).mono ?_
   rintro E w3 ⟨rfl,aH⟩
   have fZ:=aH.size
   obtain⟨fl,hfl⟩:∃f,Cm.flt k ep nu ⟨c.e,c.n,c.l⟩=f:=⟨_,rfl⟩
   unfold flv
   rw[hfl]
   have kZ:=hide hfl
   clear hfl
   obtain⟨fe,fp⟩:=fl
   simp only
   have bC3:=(aH.block wr.heap.size (by omega)).trans BC.out
   obtain⟨X,hX,hX2,szX,apw,bF,x0,x1⟩:=adN w3 98 (.int .i64 0) (.int .i64 0) (.int .i64 fe) (.int .i64 fp)
   have bCX:=(apw.block wr.heap.size (by omega)).trans bC3
   have u0:=ai bCX 0 rfl
   have u1:=ai bCX 1 rfl
   have rf:Below w1.heap.size w1 X:=((aF.trans (bn.mono (by omega))).trans (aH.mono (by omega))).trans (apw.mono (by omega))
   have xH:=(rf.block w.heap.size (by omega)).trans HRR.out
   have hnq:=Tryz.aq2 fe fp 0 0
   have hgd:=Tryz.acE
   clear aF bn aH apw BC bC3 bCX bF i3 q0 q1 q2 d0 d1 d2 hV hV2
   by_cases hfe:fe=0
   ·have hz:=Cm.agv (a:=k) (ep:=ep) (nu:=nu) (c:=⟨c.e,c.n,c.l⟩) (by rw[kZ.out];exact hfe)
    have hfp:fp=0:=by have:=hz.2.2;rw[kZ.out]at this;exact this
    have HT2:Hid (Cm.fol c.e c.n (k+1) ((aD r).drop (k+1))=fa):=hide (by
     have:=HT.out
     rw[HCD.out]at this
     rw[←this]
     exact(Cm.aoN (c:=c.c) (by rw[show Cm.flt k ep nu c.c=(fe,fp)from kZ.out];exact hfe)).symm)
    have hb:(!((fe==0)&&(fp==0)))=false:=by simp[hfe,hfp]
    rw[hb]at hnq
    clear hb hz hfe hfp xH kZ HCD HT
    go_wp2_with fail
    go_quiet (fail)
    go_wp2
    go_roundw
    case rel=>exact⟨k+1,c.e,c.n,by omega,by go_num,rfl,rfl,HT2,below_drewN rf _⟩
    case measure=>simp[intOf];omega
   ·have hfo:(fe,fp)=fa:=by
     have:=HT.out
     rw[HCD.out]at this
     rw[←this,Cm.ao5 (c:=c.c) (by rw[show Cm.flt k ep nu c.c=(fe,fp)from kZ.out];exact hfe)]
     exact kZ.out.symm
    have hb:(!((fe==0)&&(fp==0)))=true:=by simp[hfe]
    rw[hb]at hnq
    subst hfo
    obtain⟨V',hV',ic,dK,⟨a0,a1⟩,⟨f0,f1⟩,⟨z0,z1⟩⟩:=dR xH (.int .i64 fe) (.int .i64 fp)
    have eO:=aK (ax.trans (rf.mono (by omega))) dK (by omega) (by omega)
    clear hb hfe xH kZ HCD HT HF ic dK u0 u1 rf
    go_wp2
    refine bodyPost_ret (v:=.agg #[.int .i64 fe,.int .i64 fp]) (by simp[results,Tryz.results53,go_sem,z0,z1]) rfl ?_
    exact⟨rfl,eO⟩
  ·have hlt':¬(k:Int)<n:=by omega
   have hfo:(0,0)=fa:=by
    have:=HT.out
    rw[List.drop_of_length_le (by unfold aD;rw[List.length_map,HN.out];omega),Cm.ai8]at this
    exact this
   subst hfo
   have xH:=(aF.block w.heap.size (by omega)).trans HRR.out
   obtain⟨V',hV',ic,dK,⟨a0,a1⟩,⟨f0,f1⟩,⟨z0,z1⟩⟩:=dR xH (.int .i64 0) (.int .i64 0)
   have eO:=aK (ax.trans (aF.mono (by omega))) dK (by omega) (by omega)
   clear xH HT HF ic dK aF
   go_wp2
   refine bodyPost_ret (v:=.agg #[.int .i64 0,.int .i64 0]) (by simp[results,Tryz.results53,go_sem,z0,z1]) rfl ?_
   exact⟨rfl,eO⟩
end Go.Proofs.YtpifdeoepppadaaGreatDoor
