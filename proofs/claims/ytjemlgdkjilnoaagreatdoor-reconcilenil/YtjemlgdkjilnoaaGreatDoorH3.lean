/- Texts of one layer, one behind the other. -/
import Derived.Test.YtjemlgdkjilnoaaGreatDoorH1
import Derived.Laws.StructEq
import Derived.Test.YtjemlgdkjilnoaaGreatDoorH2
import Derived.Test.YtjemlgdkjilnoaaGreatDoorG2
import Derived.Deep.RegionHeld3
set_option maxRecDepth 100000
set_option maxHeartbeats 8000000
namespace Go.Proofs.YtjemlgdkjilnoaaGreatDoor
open Go.RowKit
set_option linter.unusedVariables false
theorem Tryz.ame (op:BinOp)(x y:Operand)(xs ys:Array Value)(w:World):(eqGuard op 92 x y (.agg xs) (.agg ys)).run Tryz.prog w=.ok () w:=run_eqGuard_agg w op 92 x y xs ys (by kernel_rfl)
theorem Tryz.auN (o q:Bm.Ov)(w:World):(binOp .neq 92 (.agg #[.bool o.p,.string o.k,.string o.v]) (.agg #[.bool q.p,.string q.k,.string q.v])).run Tryz.prog w=.ok (.bool (!Bm.eqO o q)) w:=by
 rw[run_neq_struct,run_equalIn_agg w 9999 92 _ _ (by kernel_rfl) (by kernel_rfl)]
 unfold Program.fieldsOf
 rw[Tryz.underlying92]
 simp[Op.eqFields,go_sem,Tryz.underlying4,Tryz.underlying9]
 unfold Bm.eqO Bm.Ov.kl Bm.Ov.vl
 simp only[Lib.toList_data]
 by_cases h1:o.p=q.p<;>by_cases h2:o.k.data.toList=q.k.data.toList<;>by_cases h3:o.v.data.toList=q.v.data.toList<;>simp[h1,h2,h3]
theorem agy (va vb:Value)(xs ys:List Bm.Ov)(w:World)(ha:df w va xs)(hb:df w vb ys)(hl:xs.length≤140737488355328)(hl':ys.length≤140737488355328):
  Calls Tryz.prog 153 #[va,vb] w fun e w'=>e=.returned (.bool (Bm.sameL xs ys))∧∃m,w'=w.drewN m:=by
 by_cases hne:xs.length=ys.length
 ·by_cases hz:0<xs.length
  ·obtain⟨b1,o1,c1,rfl,_,_,hB1,hc1⟩:=ha.full hz
   obtain⟨b2,o2,c2,rfl,_,_,hB2,hc2⟩:=hb.full (by omega)
   have ht:((xs.length:Int) !=(ys.length:Int))=false:=by simp;omega
   have HL:=hide hne
   have HC1:=hide hc1
   have HC2:=hide hc2
   clear hne ha hb hc1 hc2
   generalize hn:xs.length=n at*
   generalize hm:ys.length=m at*
   have HN:=hide hn
   have HM:=hide hm
   clear hn hm
   go_enter Tryz.func153,Tryz.ntmps153
   go_wp2
   go_loopw [5] (fun i wr=>∃(k:Nat),k≤n∧i=.int .i64 k∧Hid (xs.take k=ys.take k)∧∃m,wr=w.drewN m) (fun i _=>n-(intOf i).toNat)
   case atStart=>exact⟨0,by omega,rfl,hide rfl,0,rfl⟩
   case round=>
    obtain⟨k,hk,rfl,HT,mm,rfl⟩:=hrel
    by_cases hlt:k<n
    ·obtain⟨o,ho⟩:∃o,xs[k]? =some o:=⟨xs[k]'(by have:=HN.out;omega),by rw[List.getElem?_eq_getElem]⟩
     obtain⟨q,hq⟩:∃q,ys[k]? =some q:=⟨ys[k]'(by have:=HM.out;have:=HL.out;omega),by rw[List.getElem?_eq_getElem]⟩
     obtain⟨d0,d1,d2⟩:=HC1.out k o ho
     obtain⟨e0,e1,e2⟩:=HC2.out k q hq
     have hlt':(k:Int)<n:=by omega
     have hlt2:(k:Int)<m:=by have:=HL.out;omega
     have HO:=hide ho
     have HQ:=hide hq
     clear ho hq
     have hnq:=Tryz.auN o q
     have hgd:=Tryz.ame
     cases hoq:Bm.eqO o q
     ·have HS:Hid (Bm.sameL xs ys=false):=hide (Bm.uX fun e=>by
       have h1:=HO.out
       rw[e,HQ.out]at h1
       rw[Bm.sj.2 (Option.some.inj h1.symm)]at hoq
       simp at hoq)
      rw[hoq]at hnq
      clear hoq
      go_wp2
      go_quiet (fail)
      go_wp2
      go_ret
      refine⟨?_,_,World.drewN_drewN _ _ _⟩
      rw[HS.out]
      rfl
     ·have HT2:Hid (xs.take (k+1)=ys.take (k+1)):=hide (by
       rw[List.take_add_one,List.take_add_one,HT.out,HO.out,HQ.out,Bm.sj.1 hoq])
      rw[hoq]at hnq
      clear hoq
      go_wp2
      go_quiet (fail)
      go_wp2
      go_roundw
      case rel=>exact⟨k+1,by omega,by go_num,HT2,_,rfl⟩
      case measure=>simp[intOf];omega
    ·have hlt':¬(k:Int)<n:=by omega
     have HS:Hid (Bm.sameL xs ys=true):=hide (Bm.nY.2 (by
      have h1:=HT.out
      rw[List.take_of_length_le (by have:=HN.out;omega),List.take_of_length_le (by have:=HN.out;have:=HM.out;have:=HL.out;omega)]at h1
      exact h1))
     go_wp2
     go_ret
     refine⟨?_,mm,rfl⟩
     rw[HS.out]
     rfl
  ·have hx:xs=[]:=List.eq_nil_of_length_eq_zero (by omega)
   have hy:ys=[]:=List.eq_nil_of_length_eq_zero (by omega)
   subst hx hy
   obtain⟨a1,c1,rfl⟩:=ha.bare
   obtain⟨a2,c2,rfl⟩:=hb.bare
   clear hl hl' hne hz ha hb
   go_enter Tryz.func153,Tryz.ntmps153
   go_wp2
   refine wp_loop_rounds 1 ?_
   rw[rounds_succ]
   go_wp2
   go_ret
   exact⟨by simp[Bm.sameL],0,rfl⟩
 ·obtain⟨a1,c1,rfl,_,_⟩:=ha.shape
  obtain⟨a2,c2,rfl,_,_⟩:=hb.shape
  have ht:((xs.length:Int) !=(ys.length:Int))=true:=by simp;omega
  have HX:Hid (Bm.sameL xs ys=false):=hide (Bm.uX fun h=>hne (by rw[h]))
  clear hne
  go_enter Tryz.func153,Tryz.ntmps153
  go_wp2
  go_ret
  exact⟨by rw[HX.out];rfl,0,rfl⟩
theorem ajN (va vb:Value)(xs ys:List Bm.Ov)(w:World)(ha:df w va xs)(hb:df w vb ys)(hl:xs.length≤140737488355328)(hl':ys.length≤140737488355328):
  Calls Tryz.prog 153 #[va,vb] w fun e w'=>e=.returned (.bool (Bm.sameL xs ys))∧Below w.heap.size w w':=
 (agy va vb xs ys w ha hb hl hl').mono (by rintro e w' ⟨rfl,m,rfl⟩;exact⟨rfl,below_drewN (Below.refl _ _) m⟩)
theorem ad9 (va vb:Value)(xs ys:List Bm.Ov)(w:World)(ha:df w va xs)(hb:df w vb ys)(hl:xs.length≤140737488355328)(hl':ys.length≤140737488355328):
  Calls Tryz.prog 231 #[va,vb] w fun e w'=>e=.returned (.bool (Bm.sameL xs ys))∧∃m,w'=w.drewN m:=by
 by_cases hne:xs.length=ys.length
 ·by_cases hz:0<xs.length
  ·obtain⟨b1,o1,c1,rfl,_,_,hB1,hc1⟩:=ha.full hz
   obtain⟨b2,o2,c2,rfl,_,_,hB2,hc2⟩:=hb.full (by omega)
   have ht:((xs.length:Int) !=(ys.length:Int))=false:=by simp;omega
   have HL:=hide hne
   have HC1:=hide hc1
   have HC2:=hide hc2
   clear hne ha hb hc1 hc2
   generalize hn:xs.length=n at*
   generalize hm:ys.length=m at*
   have HN:=hide hn
   have HM:=hide hm
   clear hn hm
   go_enter Tryz.func231,Tryz.ntmps231
   go_wp2
   go_loopw [13] (fun i wr=>∃(k:Nat),k≤n∧i=.int .i64 k∧Hid (xs.take k=ys.take k)∧∃m,wr=w.drewN m) (fun i _=>n-(intOf i).toNat)
   case atStart=>exact⟨0,by omega,rfl,hide rfl,0,rfl⟩
   case round=>
    obtain⟨k,hk,rfl,HT,mm,rfl⟩:=hrel
    by_cases hlt:k<n
    ·obtain⟨o,ho⟩:∃o,xs[k]? =some o:=⟨xs[k]'(by have:=HN.out;omega),by rw[List.getElem?_eq_getElem]⟩
     obtain⟨q,hq⟩:∃q,ys[k]? =some q:=⟨ys[k]'(by have:=HM.out;have:=HL.out;omega),by rw[List.getElem?_eq_getElem]⟩
     obtain⟨d0,d1,d2⟩:=HC1.out k o ho
     obtain⟨e0,e1,e2⟩:=HC2.out k q hq
     have hlt':(k:Int)<n:=by omega
     have hlt2:(k:Int)<m:=by have:=HL.out;omega
     have HO:=hide ho
     have HQ:=hide hq
     clear ho hq
     have hnq:=Tryz.auN o q
     have hgd:=Tryz.ame
     cases hoq:Bm.eqO o q
     ·have HS:Hid (Bm.sameL xs ys=false):=hide (Bm.uX fun e=>by
       have h1:=HO.out
       rw[e,HQ.out]at h1
       rw[Bm.sj.2 (Option.some.inj h1.symm)]at hoq
       simp at hoq)
      rw[hoq]at hnq
      clear hoq
      go_wp2
      go_quiet (fail)
      go_wp2
      go_ret
      refine⟨?_,_,World.drewN_drewN _ _ _⟩
      rw[HS.out]
      rfl
     ·have HT2:Hid (xs.take (k+1)=ys.take (k+1)):=hide (by
       rw[List.take_add_one,List.take_add_one,HT.out,HO.out,HQ.out,Bm.sj.1 hoq])
      rw[hoq]at hnq
      clear hoq
      go_wp2
      go_quiet (fail)
      go_wp2
      go_roundw
      case rel=>exact⟨k+1,by omega,by go_num,HT2,_,rfl⟩
      case measure=>simp[intOf];omega
    ·have hlt':¬(k:Int)<n:=by omega
     have HS:Hid (Bm.sameL xs ys=true):=hide (Bm.nY.2 (by
      have h1:=HT.out
      rw[List.take_of_length_le (by have:=HN.out;omega),List.take_of_length_le (by have:=HN.out;have:=HM.out;have:=HL.out;omega)]at h1
      exact h1))
     go_wp2
     go_ret
     refine⟨?_,mm,rfl⟩
     rw[HS.out]
     rfl
  ·have hx:xs=[]:=List.eq_nil_of_length_eq_zero (by omega)
   have hy:ys=[]:=List.eq_nil_of_length_eq_zero (by omega)
   subst hx hy
   obtain⟨a1,c1,rfl⟩:=ha.bare
   obtain⟨a2,c2,rfl⟩:=hb.bare
   clear hl hl' hne hz ha hb
   go_enter Tryz.func231,Tryz.ntmps231
   go_wp2
   refine wp_loop_rounds 1 ?_
   rw[rounds_succ]
   go_wp2
   go_ret
   exact⟨by simp[Bm.sameL],0,rfl⟩
 ·obtain⟨a1,c1,rfl,_,_⟩:=ha.shape
  obtain⟨a2,c2,rfl,_,_⟩:=hb.shape
  have ht:((xs.length:Int) !=(ys.length:Int))=true:=by simp;omega
  have HX:Hid (Bm.sameL xs ys=false):=hide (Bm.uX fun h=>hne (by rw[h]))
  clear hne
  go_enter Tryz.func231,Tryz.ntmps231
  go_wp2
  go_ret
  exact⟨by rw[HX.out];rfl,0,rfl⟩
theorem ah2 (va vb:Value)(xs ys:List Bm.Ov)(w:World)(ha:df w va xs)(hb:df w vb ys)(hl:xs.length≤140737488355328)(hl':ys.length≤140737488355328):
  Calls Tryz.prog 231 #[va,vb] w fun e w'=>e=.returned (.bool (Bm.sameL xs ys))∧Below w.heap.size w w':=
 (ad9 va vb xs ys w ha hb hl hl').mono (by rintro e w' ⟨rfl,m,rfl⟩;exact⟨rfl,below_drewN (Below.refl _ _) m⟩)
theorem ake (va vb:Value)(xs ys:List Bm.Ov)(w:World)(ha:df w va xs)(hb:df w vb ys)(hl:xs.length≤140737488355328)(hl':ys.length≤140737488355328):
  Calls Tryz.prog 213 #[va,vb] w fun e w'=>e=.returned (.bool (Bm.sameL xs ys))∧Below w.heap.size w w':=by
 go_enter Tryz.func213,Tryz.ntmps213
 go_wp2_with fail
 refine(ah2 va vb xs ys _ ha hb hl hl').mono ?_
 rintro E w1 ⟨rfl,aj⟩
 go_wp2
 go_ret
 exact⟨rfl,aj⟩
theorem apy (vb:Value)(bs:List Int)(p:Bool)(k v:ByteArray)(w:World)(hb:Is .u8 w vb bs)(hl:bs.length≤140737488351232)(hk:k.size≤140737488351232)(hv:v.size≤140737488351232):
  Calls Tryz.prog 239 #[vb,xG p k v] w fun E w'=>∃v',E=.returned (.tuple #[v',.int .i64 (Om.chk p k.data.toList v.data.toList)])∧Own .u8 5 w.heap.size w' v' (Om.aeC bs p k.data.toList v.data.toList)∧Below w.heap.size w w':=by
 obtain⟨w0,hw0,qo,dB,cell0⟩:=aiL w #[.bool p,.string k,.string v] 92
 have c0:=cell0 0 _ rfl
 have c1:=cell0 1 _ rfl
 have c2:=cell0 2 _ rfl
 clear cell0
 have hb0:=hb.below dB
 unfold xG
 rcases Om.yH p k.data.toList v.data.toList with hc|hc
 ·obtain⟨ao,cap,hshape,_,_⟩:=hb.shape
  subst hshape
  have hle:=Om.uD hc
  have hh:=Om.iJ hc
  rw[←Lib.size_eq,←Lib.size_eq]at hh
  have hh1:=hh.2.1
  have hh2:=hh.2.2.1
  obtain⟨i0,hi,hz0,hz1,hz2⟩:=info_parts Tryz.info5
  rw[Om.ahc hc,hc]
  have HC:=hide hc
  clear hc hh
  cases p
  ·have oM:k.size≤64:=by omega
   have hv64:v.size≤64:=by omega
   generalize hn:(Om.dN false k.data.toList v.data.toList).length=n at*
   have HN:=hide hn
   clear hn
   go_enter Tryz.func239,Tryz.ntmps239
   go_wp2_with fail
   refine(lW false k v _ hk hv).mono ?_
   rintro E w1 ⟨rfl,aj⟩
   rw[HC.out]
   have d0:=(aj.cell (p:=⟨w.heap.size,0,none⟩) (by simp[qo])).trans c0
   have d1:=(aj.cell (p:=⟨w.heap.size,1,none⟩) (by simp[qo])).trans c1
   have d2:=(aj.cell (p:=⟨w.heap.size,2,none⟩) (by simp[qo])).trans c2
   have hb1:=hb0.below aj
   have aW:=aj.size
   go_wp2_with fail
   refine(acB false k v _ HC.out).mono ?_
   rintro E w2 ⟨rfl,au⟩
   rw[HN.out]
   have di:=au.size
   have f0:=(au.cell (p:=⟨w.heap.size,0,none⟩) (by simp;omega)).trans d0
   have f1:=(au.cell (p:=⟨w.heap.size,1,none⟩) (by simp;omega)).trans d1
   have f2:=(au.cell (p:=⟨w.heap.size,2,none⟩) (by simp;omega)).trans d2
   have hb2:=hb1.below au
   clear hb1 d0 d1 d2 c0 c1 c2 hb0 hw0
   have aO:Below w.heap.size w w2:=(dB.trans (aj.mono dB.size)).trans (au.mono (by omega))
   clear dB aj au
   go_wp2_with (at_make;refine wpList_make_own _ rfl _ _ 79 rfl (w.heap.size+1) 5 i0 (.int .u8 0) 1 Tryz.underlying79 hi hz0 hz1 _ _ _ (bs.length+n) rfl rfl (by omega) ?b2 ?b3 (by omega) ?_)
   case b2=>rw[hz2];omega
   case b3=>unfold maxLen;omega
   intro w3 hown3 hgrow3
   have aF:Below w2.heap.size w2 w3:=(Below.refl _ _).grown hgrow3 (Nat.le_refl _) (by simp)
   have bI:Own .u8 5 (w.heap.size+1) w3 (.slice (some ⟨w2.heap.size,0,none⟩) 0 (bs.length+n)) []:=⟨by simp,hown3⟩
   have hb3:=hb2.below aF
   have bP:=aF.size
   clear hown3 hgrow3 hb2
   go_wp2_with (at_builtin;refine cK rfl (.tmp 19) (.tmp 20) 79 rfl .u8 5 (w.heap.size+1) 1 Tryz.underlying79 Tryz.info5 (by decide) _ [] rfl bI _ bs rfl hb3 (by simp;omega) (by omega) ?_)
   intro v4 w4 bf aM _
   have lT:=aM.size
   have g0:=(aM.cell (p:=⟨w.heap.size,0,none⟩) (by simp)).trans ((aF.cell (p:=⟨w.heap.size,0,none⟩) (by simp;omega)).trans f0)
   have g1:=(aM.cell (p:=⟨w.heap.size,1,none⟩) (by simp)).trans ((aF.cell (p:=⟨w.heap.size,1,none⟩) (by simp;omega)).trans f1)
   have g2:=(aM.cell (p:=⟨w.heap.size,2,none⟩) (by simp)).trans ((aF.cell (p:=⟨w.heap.size,2,none⟩) (by simp;omega)).trans f2)
   have dQ:Below w.heap.size w w4:=(aO.trans (aF.mono (by omega))).trans (aM.mono (by omega))
   clear f0 f1 f2 hb3 bI aO aF aM
   obtain⟨w5,sS,sH,bn,dA⟩:=lC .u8 5 w4 #[.int .u8 0] 1 [0] rfl rfl (by simp[maxLen]) (by simp[wf_u8])
   go_wp2_with (at_builtin;refine cK rfl (.tmp 25) (.tmp 26) 79 rfl .u8 5 (w.heap.size+1) 1 Tryz.underlying79 Tryz.info5 (by decide) _ bs rfl (bf.below bn) _ [0] rfl dA.is (by simp;omega) (by omega) ?_)
   intro v6 w6 fZ eZ _
   have lV:=eZ.size
   have k0:=(eZ.cell (p:=⟨w.heap.size,0,none⟩) (by simp)).trans ((bn.cell (p:=⟨w.heap.size,0,none⟩) (by simp;omega)).trans g0)
   have k1:=(eZ.cell (p:=⟨w.heap.size,1,none⟩) (by simp)).trans ((bn.cell (p:=⟨w.heap.size,1,none⟩) (by simp;omega)).trans g1)
   have k2:=(eZ.cell (p:=⟨w.heap.size,2,none⟩) (by simp)).trans ((bn.cell (p:=⟨w.heap.size,2,none⟩) (by simp;omega)).trans g2)
   have ad3:Below w.heap.size w w6:=(dQ.trans (bn.mono (by omega))).trans (eZ.mono (by omega))
   clear g0 g1 g2 bf dA dQ bn eZ sS
   have hl6:(bs++[0]).length≤140737488351300:=by rw[List.length_append];simp;omega
   go_wp2_with fail
   refine(zG (w.heap.size+1) _ _ k _ fZ (by omega) (by omega) oM).mono ?_
   rintro E w7 ⟨v7,rfl,jV,jc⟩
   have sz7:=jc.size
   have oL:Own .u8 5 w.heap.size w7 v7 (bs++Om.dN false k.data.toList v.data.toList):=by
    have:bs++Om.dN false k.data.toList v.data.toList=bs++[0]++Om.cnt k.data.toList:=by unfold Om.dN;simp
    rw[this]
    exact jV.bB (by omega)
   go_wp2
   go_ret2
   exact⟨_,rfl,oL,ad3.trans (jc.mono (by omega))⟩
  ·have oM:k.size≤64:=by omega
   have hv64:v.size≤64:=by omega
   generalize hn:(Om.dN true k.data.toList v.data.toList).length=n at*
   have HN:=hide hn
   clear hn
   go_enter Tryz.func239,Tryz.ntmps239
   go_wp2_with fail
   refine(lW true k v _ hk hv).mono ?_
   rintro E w1 ⟨rfl,aj⟩
   rw[HC.out]
   have d0:=(aj.cell (p:=⟨w.heap.size,0,none⟩) (by simp[qo])).trans c0
   have d1:=(aj.cell (p:=⟨w.heap.size,1,none⟩) (by simp[qo])).trans c1
   have d2:=(aj.cell (p:=⟨w.heap.size,2,none⟩) (by simp[qo])).trans c2
   have hb1:=hb0.below aj
   have aW:=aj.size
   go_wp2_with fail
   refine(acB true k v _ HC.out).mono ?_
   rintro E w2 ⟨rfl,au⟩
   rw[HN.out]
   have di:=au.size
   have f0:=(au.cell (p:=⟨w.heap.size,0,none⟩) (by simp;omega)).trans d0
   have f1:=(au.cell (p:=⟨w.heap.size,1,none⟩) (by simp;omega)).trans d1
   have f2:=(au.cell (p:=⟨w.heap.size,2,none⟩) (by simp;omega)).trans d2
   have hb2:=hb1.below au
   clear hb1 d0 d1 d2 c0 c1 c2 hb0 hw0
   have aO:Below w.heap.size w w2:=(dB.trans (aj.mono dB.size)).trans (au.mono (by omega))
   clear dB aj au
   go_wp2_with (at_make;refine wpList_make_own _ rfl _ _ 79 rfl (w.heap.size+1) 5 i0 (.int .u8 0) 1 Tryz.underlying79 hi hz0 hz1 _ _ _ (bs.length+n) rfl rfl (by omega) ?b2 ?b3 (by omega) ?_)
   case b2=>rw[hz2];omega
   case b3=>unfold maxLen;omega
   intro w3 hown3 hgrow3
   have aF:Below w2.heap.size w2 w3:=(Below.refl _ _).grown hgrow3 (Nat.le_refl _) (by simp)
   have bI:Own .u8 5 (w.heap.size+1) w3 (.slice (some ⟨w2.heap.size,0,none⟩) 0 (bs.length+n)) []:=⟨by simp,hown3⟩
   have hb3:=hb2.below aF
   have bP:=aF.size
   clear hown3 hgrow3 hb2
   go_wp2_with (at_builtin;refine cK rfl (.tmp 19) (.tmp 20) 79 rfl .u8 5 (w.heap.size+1) 1 Tryz.underlying79 Tryz.info5 (by decide) _ [] rfl bI _ bs rfl hb3 (by simp;omega) (by omega) ?_)
   intro v4 w4 bf aM _
   have lT:=aM.size
   have g0:=(aM.cell (p:=⟨w.heap.size,0,none⟩) (by simp)).trans ((aF.cell (p:=⟨w.heap.size,0,none⟩) (by simp;omega)).trans f0)
   have g1:=(aM.cell (p:=⟨w.heap.size,1,none⟩) (by simp)).trans ((aF.cell (p:=⟨w.heap.size,1,none⟩) (by simp;omega)).trans f1)
   have g2:=(aM.cell (p:=⟨w.heap.size,2,none⟩) (by simp)).trans ((aF.cell (p:=⟨w.heap.size,2,none⟩) (by simp;omega)).trans f2)
   have dQ:Below w.heap.size w w4:=(aO.trans (aF.mono (by omega))).trans (aM.mono (by omega))
   clear f0 f1 f2 hb3 bI aO aF aM
   obtain⟨w5,sS,sH,bn,dA⟩:=lC .u8 5 w4 #[.int .u8 1] 1 [1] rfl rfl (by simp[maxLen]) (by simp[wf_u8])
   go_wp2_with (at_builtin;refine cK rfl (.tmp 32) (.tmp 33) 79 rfl .u8 5 (w.heap.size+1) 1 Tryz.underlying79 Tryz.info5 (by decide) _ bs rfl (bf.below bn) _ [1] rfl dA.is (by simp;omega) (by omega) ?_)
   intro v6 w6 fZ eZ _
   have lV:=eZ.size
   have k0:=(eZ.cell (p:=⟨w.heap.size,0,none⟩) (by simp)).trans ((bn.cell (p:=⟨w.heap.size,0,none⟩) (by simp;omega)).trans g0)
   have k1:=(eZ.cell (p:=⟨w.heap.size,1,none⟩) (by simp)).trans ((bn.cell (p:=⟨w.heap.size,1,none⟩) (by simp;omega)).trans g1)
   have k2:=(eZ.cell (p:=⟨w.heap.size,2,none⟩) (by simp)).trans ((bn.cell (p:=⟨w.heap.size,2,none⟩) (by simp;omega)).trans g2)
   have ad3:Below w.heap.size w w6:=(dQ.trans (bn.mono (by omega))).trans (eZ.mono (by omega))
   clear g0 g1 g2 bf dA dQ bn eZ sS
   have hl6:(bs++[1]).length≤140737488351300:=by rw[List.length_append];simp;omega
   go_wp2_with fail
   refine(zG (w.heap.size+1) _ _ k _ fZ (by omega) (by omega) oM).mono ?_
   rintro E w7 ⟨v7,rfl,jV,jc⟩
   have sz7:=jc.size
   have m2:=(jc.cell (p:=⟨w.heap.size,2,none⟩) (by simp)).trans k2
   have hl7:(bs++[1]++Om.cnt k.data.toList).length≤140737488351400:=by
    rw[List.length_append]
    have:=Om.afi (s:=k.data.toList) (by rw[←Lib.size_eq];omega)
    omega
   have awV:Below w.heap.size w w7:=ad3.trans (jc.mono (by omega))
   clear fZ ad3 jc k0 k1 k2
   go_wp2_with fail
   refine(zG (w.heap.size+1) _ _ v _ jV (by omega) (by omega) hv64).mono ?_
   rintro E w8 ⟨v8,rfl,oL,lF⟩
   have abI:Own .u8 5 w.heap.size w8 v8 (bs++Om.dN true k.data.toList v.data.toList):=by
    have:bs++Om.dN true k.data.toList v.data.toList=bs++[1]++Om.cnt k.data.toList++Om.cnt v.data.toList:=by unfold Om.dN;simp
    rw[this]
    exact oL.bB (by omega)
   go_wp2
   go_ret2
   exact⟨_,rfl,abI,awV.trans (lF.mono (by omega))⟩
 ·rw[Om.arq hc,hc]
  have HC:=hide hc
  clear hc
  go_enter Tryz.func239,Tryz.ntmps239
  go_wp2_with fail
  refine(lW p k v _ hk hv).mono ?_
  rintro E w1 ⟨rfl,aj⟩
  rw[HC.out]
  go_wp2
  go_ret2
  exact⟨_,rfl,Own.nil _ _ _ _,dB.trans (aj.mono dB.size)⟩
theorem tq (x:Int)(w:World):Calls Tryz.prog 145 #[.int .i64 x] w fun E w'=>E=.returned (.bool (decide (1≤x∧x≤1048576)))∧w=w':=by
 go_enter Tryz.func145,Tryz.ntmps145
 by_cases h1:1≤x
 ·by_cases h2:x≤1048576
  ·go_wp2
   go_ret
   exact⟨by simp[h1,h2],rfl⟩
  ·go_wp2
   go_ret
   exact⟨by simp;omega,rfl⟩
 ·go_wp2
  go_ret
  exact⟨by simp;omega,rfl⟩
theorem vC (e n:Int)(v:Value)(l:List Bm.Ov)(w:World)(h:df w v l)(hf:iR l)(hl:l.length≤140737488355328):
  Calls Tryz.prog 98 #[bT e n v] w fun E w'=>E=.returned (.int .i64 (Cm.chk e n l))∧Below w.heap.size w w':=by
 unfold bT
 obtain⟨w1,hw1,aW,aj,hB⟩:=ak w #[.int .i64 e,.int .i64 n,v] 65
 have c0:=ai hB 0 rfl
 have c1:=ai hB 1 rfl
 have c2:=ai hB 2 rfl
 have h1:=h.below aj
 obtain⟨ao,cap,rfl,_,_⟩:=h.shape
 clear hB
 go_enter Tryz.func98,Tryz.ntmps98
 by_cases he:1≤e∧e≤1048576
 ·have he':decide (1≤e∧e≤1048576)=true:=by simp[he]
  by_cases hn:1≤n∧n≤1048576
  ·have hn':decide (1≤n∧n≤1048576)=true:=by simp[hn]
   rw[Cm.mD ⟨he.1,he.2,hn.1,hn.2⟩]
   clear he hn
   go_wp2_with fail
   refine(tq e _).mono ?_
   rintro E w2 ⟨rfl,rfl⟩
   rw[he']
   go_wp2_with fail
   refine(tq n _).mono ?_
   rintro E w2 ⟨rfl,rfl⟩
   rw[hn']
   go_wp2_with fail
   refine(mG _ l _ h1 hf hl).mono ?_
   rintro E w3 ⟨rfl,aF⟩
   have bg:=aj.trans (aF.mono (by omega))
   go_wp2
   go_ret
   exact⟨rfl,bg⟩
  ·have hn':decide (1≤n∧n≤1048576)=false:=by simpa using hn
   rw[Cm.abD (by omega)]
   clear he hn
   go_wp2_with fail
   refine(tq e _).mono ?_
   rintro E w2 ⟨rfl,rfl⟩
   rw[he']
   go_wp2_with fail
   refine(tq n _).mono ?_
   rintro E w2 ⟨rfl,rfl⟩
   rw[hn']
   go_wp2
   go_ret
   exact⟨rfl,aj⟩
 ·have he':decide (1≤e∧e≤1048576)=false:=by simpa using he
  rw[Cm.abD (by omega)]
  clear he
  go_wp2_with fail
  refine(tq e _).mono ?_
  rintro E w2 ⟨rfl,rfl⟩
  rw[he']
  go_wp2
  go_ret
  exact⟨rfl,aj⟩
def iE (e n:Int) (l:List Bm.Ov) (e' n':Int) (l':List Bm.Ov):Bool:=(e==e')&&((n==n')&&Bm.sameL l l')
theorem akD (e n:Int)(v:Value)(l:List Bm.Ov)(e' n':Int)(v':Value)(l':List Bm.Ov)(w:World)(h:df w v l)(h':df w v' l')(hl:l.length≤140737488355328)(hl':l'.length≤140737488355328):
  Calls Tryz.prog 192 #[bT e n v,bT e' n' v'] w fun E w'=>E=.returned (.bool (iE e n l e' n' l'))∧Below w.heap.size w w':=by
 unfold bT
 obtain⟨w1,hw1,aW,aj,hB⟩:=ak w #[.int .i64 e,.int .i64 n,v] 65
 obtain⟨w2,hw2,di,au,hC⟩:=ak w1 #[.int .i64 e',.int .i64 n',v'] 65
 rw[aW]at hC
 have hB2:=(au.block _ (ax hB)).trans hB
 have c0:=ai hB2 0 rfl
 have c1:=ai hB2 1 rfl
 have c2:=ai hB2 2 rfl
 have d0:=ai hC 0 rfl
 have d1:=ai hC 1 rfl
 have d2:=ai hC 2 rfl
 have aO:Below w.heap.size w w2:=aj.trans (au.mono (by omega))
 have i1:=h.below aO
 have i2:=h'.below aO
 obtain⟨ao,cap,rfl,_,_⟩:=h.shape
 obtain⟨ao',cap',rfl,_,_⟩:=h'.shape
 clear hB hC hB2 aj au
 go_enter Tryz.func192,Tryz.ntmps192
 by_cases he:e=e'
 ·have he':(e==e')=true:=by simp[he]
  by_cases hn:n=n'
  ·have hn':(n==n')=true:=by simp[hn]
   have hs:iE e n l e' n' l'=Bm.sameL l l':=by simp[iE,he',hn']
   rw[hs]
   clear he hn hs
   go_wp2_with fail
   refine(ake _ _ l l' _ i1 i2 hl hl').mono ?_
   rintro E w3 ⟨rfl,aF⟩
   have bg:=aO.trans (aF.mono (by omega))
   go_wp2
   go_ret
   exact⟨rfl,bg⟩
  ·have hn':(n==n')=false:=by simpa using hn
   have hs:iE e n l e' n' l'=false:=by simp[iE,hn']
   rw[hs]
   clear he hn hs
   go_wp2
   go_ret
   exact⟨rfl,aO⟩
 ·have he':(e==e')=false:=by simpa using he
  have hs:iE e n l e' n' l'=false:=by simp[iE,he']
  rw[hs]
  clear he hs
  go_wp2
  go_ret
  exact⟨rfl,aO⟩
theorem ahH (e n:Int)(v:Value)(l:List Bm.Ov)(e' n':Int)(v':Value)(l':List Bm.Ov)(w:World)(h:df w v l)(h':df w v' l')(hl:l.length≤140737488355328)(hl':l'.length≤140737488355328):
  Calls Tryz.prog 109 #[bT e n v,bT e' n' v'] w fun E w'=>E=.returned (.bool (iE e n l e' n' l'))∧Below w.heap.size w w':=by
 unfold bT
 obtain⟨w1,hw1,aW,aj,hB⟩:=ak w #[.int .i64 e,.int .i64 n,v] 65
 obtain⟨w2,hw2,di,au,hC⟩:=ak w1 #[.int .i64 e',.int .i64 n',v'] 65
 rw[aW]at hC
 have hB2:=(au.block _ (ax hB)).trans hB
 have c0:=ai hB2 0 rfl
 have c1:=ai hB2 1 rfl
 have c2:=ai hB2 2 rfl
 have d0:=ai hC 0 rfl
 have d1:=ai hC 1 rfl
 have d2:=ai hC 2 rfl
 have aO:Below w.heap.size w w2:=aj.trans (au.mono (by omega))
 have i1:=h.below aO
 have i2:=h'.below aO
 obtain⟨ao,cap,rfl,_,_⟩:=h.shape
 obtain⟨ao',cap',rfl,_,_⟩:=h'.shape
 clear hB hC hB2 aj au
 go_enter Tryz.func109,Tryz.ntmps109
 by_cases he:e=e'
 ·have he':(e==e')=true:=by simp[he]
  by_cases hn:n=n'
  ·have hn':(n==n')=true:=by simp[hn]
   have hs:iE e n l e' n' l'=Bm.sameL l l':=by simp[iE,he',hn']
   rw[hs]
   clear he hn hs
   go_wp2_with fail
   refine(ajN _ _ l l' _ i1 i2 hl hl').mono ?_
   rintro E w3 ⟨rfl,aF⟩
   have bg:=aO.trans (aF.mono (by omega))
   go_wp2
   go_ret
   exact⟨rfl,bg⟩
  ·have hn':(n==n')=false:=by simpa using hn
   have hs:iE e n l e' n' l'=false:=by simp[iE,hn']
   rw[hs]
   clear he hn hs
   go_wp2
   go_ret
   exact⟨rfl,aO⟩
 ·have he':(e==e')=false:=by simpa using he
  have hs:iE e n l e' n' l'=false:=by simp[iE,he']
  rw[hs]
  clear he hs
  go_wp2
  go_ret
  exact⟨rfl,aO⟩
theorem dE {V:World}{R:Nat}{t:TypeId}{x y:Value}(hR:V.heap[R]? =some (.cells #[x,y] t (0,0)))(a b:Value):
  ∃V',(V.setCell ⟨R,0,none⟩ a).setCell ⟨R,1,none⟩ b=V'∧V'.heap[R]? =some (.cells #[a,b] t (0,0))∧V.grownBy V' (some R)∧
   (V.cell? ⟨R,0,none⟩=some x∧V.cell? ⟨R,1,none⟩=some y)∧(V.frozen? ⟨R,0,none⟩=false∧V.frozen? ⟨R,1,none⟩=false)∧
   (V'.cell? ⟨R,0,none⟩=some a∧V'.cell? ⟨R,1,none⟩=some b):=by
 have h2:=aI (aI hR 0 a) 1 b
 exact⟨_,rfl,h2,aH (aB V ⟨R,0,none⟩ a) (aB _ ⟨R,1,none⟩ b),⟨ai hR 0 rfl,ai hR 1 rfl⟩,⟨aC hR 0,aC hR 1⟩,⟨ai h2 0 rfl,ai h2 1 rfl⟩⟩
theorem pX (w:World)(t:TypeId)(x y a b:Value):∃V,(((w.alloc (.cells #[x,y] t)).setCell ⟨w.heap.size,0,none⟩ a).setCell ⟨w.heap.size,1,none⟩ b=V)∧w.alloc (.cells #[a,b] t)=V∧V.heap.size=w.heap.size+1∧Below w.heap.size w V∧V.heap[w.heap.size]? =some (.cells #[a,b] t (0,0))∧
  V.cell? ⟨w.heap.size,0,none⟩=some a∧V.cell? ⟨w.heap.size,1,none⟩=some b:=by
 obtain⟨V,h1,h2,h3,h4⟩:=ak w #[a,b] t
 refine⟨V,?_,h1,h2,h3,h4,ai h4 0 rfl,ai h4 1 rfl⟩
 rw[←h1]
 simp[go_sem]
def q9 (f:Int×Int):Value:=.agg #[.int .i64 f.1,.int .i64 f.2]
theorem Tryz.sP (op:BinOp)(x y:Operand)(xs ys:Array Value)(w:World):(eqGuard op 61 x y (.agg xs) (.agg ys)).run Tryz.prog w=.ok () w:=run_eqGuard_agg w op 61 x y xs ys (by kernel_rfl)
theorem Tryz.acd (a b c d:Int)(w:World):(binOp .neq 61 (.agg #[.int .i64 a,.int .i64 b]) (.agg #[.int .i64 c,.int .i64 d])).run Tryz.prog w=.ok (.bool (!((a==c)&&(b==d)))) w:=by
 rw[run_neq_struct,run_equalIn_agg w 9999 61 _ _ (by kernel_rfl) (by kernel_rfl)]
 unfold Program.fieldsOf
 rw[Tryz.underlying61]
 simp[Op.eqFields,go_sem,Tryz.underlying28,Tryz.underlying3]
 by_cases h1:a=c<;>by_cases h2:b=d<;>simp[h1,h2]
theorem ars (at' ep nu e n:Int)(v:Value)(l:List Bm.Ov)(w:World)(h:df w v l)(hf:iR l)(hl:l.length≤140737488355328):
  Calls Tryz.prog 44 #[.int .i64 at',.int .i64 ep,.int .i64 nu,bT e n v] w fun E w'=>E=.returned (q9 (Cm.flt at' ep nu ⟨e,n,l⟩))∧Below w.heap.size w w':=by
 unfold bT q9
 obtain⟨fa,hfa⟩:∃f,Cm.flt at' ep nu ⟨e,n,l⟩=f:=⟨_,rfl⟩
 rw[hfa]
 have HF:=hide hfa
 clear hfa
 obtain⟨w1,hw1,aW,aj,hB⟩:=ak w #[.int .i64 e,.int .i64 n,v] 65
 obtain⟨w2,hw2,di,au,hR⟩:=ak w1 #[.int .i64 0,.int .i64 0] 61
 rw[aW]at hR
 have aO:Below w.heap.size w w2:=aj.trans (au.mono (by omega))
 have hB2:=(au.block w.heap.size (by omega)).trans hB
 have c0:=ai hB2 0 rfl
 have c1:=ai hB2 1 rfl
 have c2:=ai hB2 2 rfl
 have h2:=h.below aO
 obtain⟨ao,cap,rfl,_,_⟩:=h.shape
 have HB:=hide hB2
 have HR:=hide hR
 clear hB hB2 hR aj au
 go_enter Tryz.func44,Tryz.ntmps44
 go_wp2_with fail
 refine(vC e n _ l _ h2 hf hl).mono ?_
 rintro E w3 ⟨rfl,aF⟩
 have bP:=aF.size
 have hB3:=(aF.block w.heap.size (by omega)).trans HB.out
 have bN:=(aF.block (w.heap.size+1) (by omega)).trans HR.out
 have bg:=aO.trans (aF.mono (by omega))
 have d0:=ai hB3 0 rfl
 have d1:=ai hB3 1 rfl
 clear c0 c1 c2 HB HR hB3 aO aF h2
 by_cases hc:Cm.chk e n l=0
 ·obtain⟨g1,g2,g3,g4,g5⟩:=Cm.aQ hc
  by_cases hq:n-1≠nu∨e<ep
  ·obtain rfl:(15,at')=fa:=(Cm.ab6 (c:=⟨e,n,l⟩) hc hq).symm.trans HF.out
   rw[hc]
   obtain⟨V',hV',dG,bQ,⟨a0,a1⟩,⟨f0,f1⟩,⟨z0,z1⟩⟩:=dE bN (.int .i64 15) (.int .i64 at')
   have fB:=aD bg bQ (by omega) (by omega)
   clear hc dG bQ bN
   by_cases hq1:n-1=nu
   ·have hq2:e<ep:=by omega
    have hq3:(n-1 !=nu)=false:=by simpa using hq1
    clear hq hq1
    go_wp2
    refine bodyPost_ret (v:=.agg #[.int .i64 15,.int .i64 at']) (by simp[results,Tryz.results44,go_sem,z0,z1]) rfl ?_
    exact⟨rfl,fB⟩
   ·have hq3:(n-1 !=nu)=true:=by simpa using hq1
    clear hq hq1
    go_wp2
    refine bodyPost_ret (v:=.agg #[.int .i64 15,.int .i64 at']) (by simp[results,Tryz.results44,go_sem,z0,z1]) rfl ?_
    exact⟨rfl,fB⟩
  ·obtain rfl:(0,0)=fa:=(Cm.aeQ (c:=⟨e,n,l⟩) hc hq).symm.trans HF.out
   rw[hc]
   obtain⟨V',hV',dG,bQ,⟨a0,a1⟩,⟨f0,f1⟩,⟨z0,z1⟩⟩:=dE bN (.int .i64 0) (.int .i64 0)
   have fB:=aD bg bQ (by omega) (by omega)
   have hq3:(n-1 !=nu)=false:=by simp;omega
   have hq2:¬e<ep:=by omega
   clear hc dG bQ bN hq
   go_wp2
   refine bodyPost_ret (v:=.agg #[.int .i64 0,.int .i64 0]) (by simp[results,Tryz.results44,go_sem,z0,z1]) rfl ?_
   exact⟨rfl,fB⟩
 ·have hfo:(Cm.chk e n l,at')=fa:=(Cm.abU (c:=⟨e,n,l⟩) hc).symm.trans HF.out
  have hne:(Cm.chk e n l==0)=false:=by simpa using hc
  generalize Cm.chk e n l=ck at*
  subst hfo
  obtain⟨V',hV',dG,bQ,⟨a0,a1⟩,⟨f0,f1⟩,⟨z0,z1⟩⟩:=dE bN (.int .i64 ck) (.int .i64 at')
  have fB:=aD bg bQ (by omega) (by omega)
  clear hc dG bQ bN
  go_wp2
  refine bodyPost_ret (v:=.agg #[.int .i64 ck,.int .i64 at']) (by simp[results,Tryz.results44,go_sem,z0,z1]) rfl ?_
  exact⟨rfl,fB⟩
theorem amT {r:List Cw}{k:Nat}{c:Cw}(h:r[k]? =some c):(az r).drop k=c.c::(az r).drop (k+1):=by
 obtain⟨hk,rfl⟩:=List.getElem?_eq_some_iff.1 h
 unfold az
 rw[←List.map_drop,←List.map_drop,List.drop_eq_getElem_cons hk,List.map_cons]
theorem jY (ep0 nu0:Int)(vl:Value)(r:List Cw)(w:World)(h:dJ w vl r)(hf:dV r)(hl:r.length≤140737488355328):
  Calls Tryz.prog 16 #[.int .i64 ep0,.int .i64 nu0,vl] w fun E w'=>E=.returned (q9 (Cm.fol ep0 nu0 0 (az r)))∧Below w.heap.size w w':=by
 unfold q9
 obtain⟨fa,hfa⟩:∃f,Cm.fol ep0 nu0 0 (az r)=f:=⟨_,rfl⟩
 rw[hfa]
 have HF:=hide hfa
 clear hfa
 obtain⟨w1,hw1,aW,aj,hR⟩:=ak w #[.int .i64 0,.int .i64 0] 61
 have h1:=h.below aj
 have hR0:=ai hR 0 rfl
 have jE:=ai hR 1 rfl
 by_cases hz:r.length=0
 ·have:r=[]:=List.eq_nil_of_length_eq_zero hz
  subst this
  obtain⟨ao,cap,rfl,_,_⟩:=h.1.shape
  have hfo:=HF.out
  simp only[az,List.map_nil,Cm.ahu]at hfo
  subst hfo
  obtain⟨V',hV',dG,bQ,⟨a0,a1⟩,⟨f0,f1⟩,⟨z0,z1⟩⟩:=dE hR (.int .i64 0) (.int .i64 0)
  have fB:=aD aj bQ (by omega) (by omega)
  clear h h1 hf hl hz HF dG bQ hR
  simp only[List.length_nil]
  go_enter Tryz.func16,Tryz.ntmps16
  go_wp2
  go_loopw [12] (fun iv wr=>iv=.int .i64 0∧wr=w1) (fun _ _=>0)
  case atStart=>exact⟨rfl,rfl⟩
  case round=>
   obtain⟨rfl,rfl⟩:=hrel
   go_wp2
   refine bodyPost_ret (v:=.agg #[.int .i64 0,.int .i64 0]) (by simp[results,Tryz.results16,go_sem,z0,z1]) rfl ?_
   exact⟨rfl,fB⟩
 obtain⟨b1,o1,c1,hvl,_,_,hB,hcell⟩:=h1.1.full (by omega)
 subst hvl
 have HIN:=hide h1.2
 have aoH:=hide hf
 have HC:=hide hcell
 have HRR:=hide hR
 generalize hn:r.length=n at*
 have HN:=hide hn
 clear h h1 hcell hf hR hR0 jE hn
 go_enter Tryz.func16,Tryz.ntmps16
 go_wp2
 go_loopw [0,1,12] (fun ev nv iv wr=>∃(k:Nat) (ep nu:Int),k≤n∧iv=.int .i64 k∧ev=.int .i64 ep∧nv=.int .i64 nu∧Hid (Cm.fol ep nu k ((az r).drop k)=fa)∧Below w1.heap.size w1 wr) (fun _ _ iv _=>n-(intOf iv).toNat)
 case atStart=>exact⟨0,ep0,nu0,by omega,rfl,rfl,rfl,HF,Below.refl _ _⟩
 case round=>
  obtain⟨k,ep,nu,hk,rfl,rfl,rfl,HT,aG⟩:=hrel
  have sz:=aG.size
  by_cases hlt:k<n
  ·obtain⟨c,hc⟩:∃c,r[k]? =some c:=⟨r[k]'(by have:=HN.out;omega),by rw[List.getElem?_eq_getElem]⟩
   obtain⟨e0,e1,e2⟩:=HC.out k c hc
   have d0:=(aG.cell (p:=⟨b1,o1+k*3,none⟩) hB).trans e0
   have d1:=(aG.cell (p:=⟨b1,o1+k*3+1,none⟩) hB).trans e1
   have d2:=(aG.cell (p:=⟨b1,o1+k*3+2,none⟩) hB).trans e2
   have hmem:=List.mem_of_getElem? hc
   obtain⟨i1,_,_⟩:=HIN.out c hmem
   have i2:=i1.below aG
   obtain⟨hfc,hlc⟩:=aoH.out c hmem
   have HCD:=hide (amT hc)
   have hlt':(k:Int)<n:=by omega
   obtain⟨ao,cp,hcv,_,_⟩:=i2.shape
   rw[hcv]at d2 i2
   obtain⟨V,hV,hV2,kg,bu,bC,q0,q1,q2⟩:=fH wr 65 (.int .i64 0) (.int .i64 0) (.slice none 0 0) (.int .i64 c.e) (.int .i64 c.n) (.slice ao c.l.length cp)
   have i3:=i2.below bu
   have BC:=hide bC
   clear e0 e1 e2 hc hmem i1 i2 hcv bC
   go_wp2_with fail
   refine(ars k ep nu c.e c.n _ c.l _ i3 hfc (by omega)).mono ?_
   rintro E w3 ⟨rfl,aF⟩
   have bP:=aF.size
   obtain⟨fl,hfl⟩:∃f,Cm.flt k ep nu ⟨c.e,c.n,c.l⟩=f:=⟨_,rfl⟩
   unfold q9
   rw[hfl]
   have zi:=hide hfl
   clear hfl
   obtain⟨fe,fp⟩:=fl
   simp only
   have bC3:=(aF.block wr.heap.size (by omega)).trans BC.out
   obtain⟨X,hX,hX2,szX,am4,bF,x0,x1⟩:=pX w3 61 (.int .i64 0) (.int .i64 0) (.int .i64 fe) (.int .i64 fp)
   have bCX:=(am4.block wr.heap.size (by omega)).trans bC3
   have u0:=ai bCX 0 rfl
   have u1:=ai bCX 1 rfl
   have gT:Below w1.heap.size w1 X:=((aG.trans (bu.mono (by omega))).trans (aF.mono (by omega))).trans (am4.mono (by omega))
   have vF:=(gT.block w.heap.size (by omega)).trans HRR.out
   have hnq:=Tryz.acd fe fp 0 0
   have hgd:=Tryz.sP
   clear aG bu aF am4 BC bC3 bCX bF i3 q0 q1 q2 d0 d1 d2 hV hV2
   by_cases hfe:fe=0
   ·have hz:=Cm.aeT (a:=k) (ep:=ep) (nu:=nu) (c:=⟨c.e,c.n,c.l⟩) (by rw[zi.out];exact hfe)
    have hfp:fp=0:=by have:=hz.2.2;rw[zi.out]at this;exact this
    have HT2:Hid (Cm.fol c.e c.n (k+1) ((az r).drop (k+1))=fa):=hide (by
     have:=HT.out
     rw[HCD.out]at this
     rw[←this]
     exact(Cm.apc (c:=c.c) (by rw[show Cm.flt k ep nu c.c=(fe,fp)from zi.out];exact hfe)).symm)
    have hb:(!((fe==0)&&(fp==0)))=false:=by simp[hfe,hfp]
    rw[hb]at hnq
    clear hb hz hfe hfp vF zi HCD HT
    go_wp2_with fail
    go_quiet (fail)
    go_wp2
    go_roundw
    case rel=>exact⟨k+1,c.e,c.n,by omega,by go_num,rfl,rfl,HT2,below_drewN gT _⟩
    case measure=>simp[intOf];omega
   ·have hfo:(fe,fp)=fa:=by
     have:=HT.out
     rw[HCD.out]at this
     rw[←this,Cm.amQ (c:=c.c) (by rw[show Cm.flt k ep nu c.c=(fe,fp)from zi.out];exact hfe)]
     exact zi.out.symm
    have hb:(!((fe==0)&&(fp==0)))=true:=by simp[hfe]
    rw[hb]at hnq
    subst hfo
    obtain⟨V',hV',dG,bQ,⟨a0,a1⟩,⟨f0,f1⟩,⟨z0,z1⟩⟩:=dE vF (.int .i64 fe) (.int .i64 fp)
    have fB:=aD (aj.trans (gT.mono (by omega))) bQ (by omega) (by omega)
    clear hb hfe vF zi HCD HT HF dG bQ u0 u1 gT
    go_wp2
    refine bodyPost_ret (v:=.agg #[.int .i64 fe,.int .i64 fp]) (by simp[results,Tryz.results16,go_sem,z0,z1]) rfl ?_
    exact⟨rfl,fB⟩
  ·have hlt':¬(k:Int)<n:=by omega
   have hfo:(0,0)=fa:=by
    have:=HT.out
    rw[List.drop_of_length_le (by unfold az;rw[List.length_map,HN.out];omega),Cm.ahu]at this
    exact this
   subst hfo
   have vF:=(aG.block w.heap.size (by omega)).trans HRR.out
   obtain⟨V',hV',dG,bQ,⟨a0,a1⟩,⟨f0,f1⟩,⟨z0,z1⟩⟩:=dE vF (.int .i64 0) (.int .i64 0)
   have fB:=aD (aj.trans (aG.mono (by omega))) bQ (by omega) (by omega)
   clear vF HT HF dG bQ aG
   go_wp2
   refine bodyPost_ret (v:=.agg #[.int .i64 0,.int .i64 0]) (by simp[results,Tryz.results16,go_sem,z0,z1]) rfl ?_
   exact⟨rfl,fB⟩
def zx (s:Sm.S):List Value:=[.int .i64 s.1,.int .i64 s.2]
theorem yK (s:Sm.S):(zx s).length=2:=rfl
abbrev jJ (w:World) (v:Value) (l:List Sm.S):Prop:=ig zx w v l
abbrev mK (base:Nat) (w:World) (v:Value) (l:List Sm.S):Prop:=dW zx 2 106 base w v l
theorem ag4:∀(l:List Sm.S),∀u∈gcells zx l,u.oneCell'=true
 |[],u,h=>by simp[gcells]at h
 |s::r,u,h=>by
  rcases List.mem_append.1 h with h|h
  ·simp only[zx,List.mem_cons,List.not_mem_nil,or_false]at h
   rcases h with rfl|rfl<;>rfl
  ·exact ag4 r u h
theorem ky {w:World}{v:Value}{l:List Sm.S}(h:jJ w v l)(hne:0<l.length):
  ∃b off cap,v=.slice (some ⟨b,off,none⟩) l.length cap∧l.length≤cap∧cap≤maxLen∧b<w.heap.size∧∀(i:Nat) (s:Sm.S),l[i]? =some s→w.cell? ⟨b,off+i*2,none⟩=some (.int .i64 s.1)∧w.cell? ⟨b,off+i*2+1,none⟩=some (.int .i64 s.2):=by
 obtain⟨b,off,cap,h1,h2,h3,h4,h5⟩:=h.full yK (by decide) hne
 exact⟨b,off,cap,h1,h2,h3,h4,fun i s hs=>⟨h5 i s hs 0 _ rfl,h5 i s hs 1 _ rfl⟩⟩
theorem aja {w:World}{v:Value}{l:List Sm.S}(h:jJ w v l)(n:Nat):jJ (w.drewN n) v l:=h.agree fun _ _=>rfl
theorem alO (v:Value)(l:List Sm.S)(w:World)(h:jJ w v l)(hl:l.length≤140737488355328):
  Calls Tryz.prog 147 #[v] w fun E w'=>E=.returned (.int .i64 (Sm.ay l))∧w'=w:=by
 by_cases hz:l.length=0
 ·have:l=[]:=List.eq_nil_of_length_eq_zero hz
  subst this
  obtain⟨ao,cap,rfl,_,_⟩:=h.shape
  simp only[List.length_nil]
  clear h hl hz
  go_enter Tryz.func147,Tryz.ntmps147
  go_wp2
  go_ret
  exact⟨rfl,rfl⟩
 ·obtain⟨b,off,cap,rfl,_,_,hB,hc⟩:=ky h (by omega)
  obtain⟨s,hs⟩:=kX (l:=l) (k:=l.length-1) (by omega)
  obtain⟨c0,c1⟩:=hc _ _ hs
  rw[Sm.tF hs]
  generalize hn:l.length=n at*
  obtain⟨k,rfl⟩:∃k,n=k+1:=⟨n-1,by omega⟩
  simp only[Nat.add_sub_cancel]at c0 c1
  clear h hc hs hn
  have hne:((((k+1:Nat):Int))==0)=false:=by simp;omega
  have hsub:(((k+1:Nat):Int))-1=(k:Int):=by omega
  go_enter Tryz.func147,Tryz.ntmps147
  go_wp2
  go_ret
  exact⟨rfl,rfl⟩
def aai (en:Int) (l:List Sm.S):Bool:=Sm.upb en 0 0 l&&decide ((l.map Prod.snd).headD 1=1)
theorem aak {en:Int}{l:List Sm.S}:aai en l=true↔Sm.Up en 0 0 l∧(l.map Prod.snd).headD 1=1:=by
 unfold aai
 rw[Bool.and_eq_true,Sm.ab2,decide_eq_true_iff]
theorem abY {en:Int}{l:List Sm.S}(h:¬(Sm.Up en 0 0 l∧(l.map Prod.snd).headD 1=1)):aai en l=false:=by
 cases hu:aai en l with
 |false=>rfl
 |true=>exact absurd (aak.1 hu) h
theorem agU {l:List Sm.S}{s:Sm.S}(h:l[0]? =some s):(l.map Prod.snd).headD 1=s.2:=by
 cases l with
 |nil=>simp at h
 |cons t r=>simp at h;subst h;rfl
theorem aoa (v:Value)(l:List Sm.S)(en:Int)(w:World)(h:jJ w v l)(hl:l.length≤140737488355328):
  Calls Tryz.prog 207 #[v,.int .i64 en] w fun E w'=>E=.returned (.bool (aai en l))∧Below w.heap.size w w':=by
 obtain⟨ans,dO⟩:∃r,aai en l=r:=⟨_,rfl⟩
 rw[dO]
 have HA:=hide dO
 clear dO
 obtain⟨w1,hw1,aW,aj,hR⟩:=ak w #[.int .i64 0,.int .i64 0] 106
 have h1:=h.below aj
 by_cases hz:l.length=0
 ·have:l=[]:=List.eq_nil_of_length_eq_zero hz
  subst this
  obtain⟨ao,cap,rfl,_,_⟩:=h.shape
  have hfo:=HA.out
  have hfe:aai en []=true:=rfl
  rw[hfe]at hfo
  subst hfo
  clear h h1 hl hz HA hR
  simp only[List.length_nil]
  go_enter Tryz.func207,Tryz.ntmps207
  go_wp2
  go_loopw [10] (fun iv wr=>iv=.int .i64 0∧wr=w1) (fun _ _=>0)
  case atStart=>exact⟨rfl,rfl⟩
  case round=>
   obtain⟨rfl,rfl⟩:=hrel
   go_wp2
   go_ret
   exact⟨rfl,aj⟩
 obtain⟨b,off,cap,hvl,_,_,hB,hc⟩:=ky h (by omega)
 subst hvl
 obtain⟨s0,hs0⟩:=kX (l:=l) (k:=0) (by omega)
 have HC:=hide hc
 have H0:=hide hs0
 generalize hn:l.length=n at*
 have HN:=hide hn
 clear h h1 hc hn hs0
 go_enter Tryz.func207,Tryz.ntmps207
 go_wp2
 go_loopw [10] (fun iv wr=>∃(k:Nat) (e f:Int),k≤n∧iv=.int .i64 k∧Hid (Sm.Up en 0 0 l↔Sm.Up en e f (l.drop k))∧Below w.heap.size w wr∧wr.heap[w.heap.size]? =some (.cells #[.int .i64 e,.int .i64 f] 106 (0,0))) (fun iv _=>n-(intOf iv).toNat)
 case atStart=>exact⟨0,0,0,by omega,rfl,hide (by simp),aj,hR⟩
 case round=>
  obtain⟨k,e,f,hk,rfl,HT,aG,hG⟩:=hrel
  have sz:=aG.size
  have szG:=ax hG
  by_cases hlt:k<n
  ·obtain⟨s,hs⟩:=kX (l:=l) (k:=k) (by have:=HN.out;omega)
   obtain⟨e0,e1⟩:=HC.out k s hs
   have d0:=(aG.cell (p:=⟨b,off+k*2,none⟩) hB).trans e0
   have d1:=(aG.cell (p:=⟨b,off+k*2+1,none⟩) hB).trans e1
   have HU:=hide (HT.out.trans (Sm.ary (en:=en) (e:=e) (f:=f) hs))
   have hlt':(k:Int)<n:=by omega
   obtain⟨V,hV,hV2,kg,bu,bC,q0,q1⟩:=pX wr 106 (.int .i64 0) (.int .i64 0) (.int .i64 s.1) (.int .i64 s.2)
   have hGV:=(bu.block w.heap.size (by omega)).trans hG
   have g0:=ai hGV 0 rfl
   have g1:=ai hGV 1 rfl
   have gT:Below w.heap.size w V:=aG.trans (bu.mono (by omega))
   clear e0 e1 hs hG HT bC bu aG hw1
   by_cases hg:e<s.1∧s.1≤1048576∧f<s.2∧s.2≤en
   ·have p1:¬s.1≤e:=by omega
    have p2:¬(1048576:Int)<s.1:=by omega
    have p3:¬s.2≤f:=by omega
    have p4:¬en<s.2:=by omega
    obtain⟨V',hV',dG,bQ,⟨a0,a1⟩,⟨f0,f1⟩,⟨z0,z1⟩⟩:=dE hGV (.int .i64 s.1) (.int .i64 s.2)
    have fB:=aD gT bQ (by omega) (by omega)
    have HT2:Hid (Sm.Up en 0 0 l↔Sm.Up en s.1 s.2 (l.drop (k+1))):=hide (by
     rw[HU.out]
     constructor
     ·rintro⟨_,_,_,_,h⟩;exact h
     ·intro h;exact⟨hg.1,hg.2.1,hg.2.2.1,hg.2.2.2,h⟩)
    clear hg HU bQ gT hGV
    go_wp2
    go_roundw
    case rel=>exact⟨k+1,s.1,s.2,by omega,by go_num,HT2,fB,dG⟩
    case measure=>simp[intOf];omega
   ·have hfo:=HA.out
    have hno:¬Sm.Up en 0 0 l:=fun h=>hg ⟨(HU.out.1 h).1,(HU.out.1 h).2.1,(HU.out.1 h).2.2.1,(HU.out.1 h).2.2.2.1⟩
    rw[abY (fun h=>hno h.1)]at hfo
    subst hfo
    have hq:s.1≤e∨(¬s.1≤e∧(1048576:Int)<s.1)∨(¬s.1≤e∧¬(1048576:Int)<s.1∧s.2≤f)∨(¬s.1≤e∧¬(1048576:Int)<s.1∧¬s.2≤f∧en<s.2):=by omega
    clear hg HU hGV hno HA
    rcases hq with p|⟨p1,p⟩|⟨p1,p2,p⟩|⟨p1,p2,p3,p⟩<;>(go_wp2;go_ret;exact⟨rfl,gT⟩)
  ·have hlt':¬(k:Int)<n:=by omega
   have hkn:k=n:=by omega
   have hup:Sm.Up en 0 0 l:=HT.out.2 (by rw[List.drop_of_length_le (by have:=HN.out;omega)];trivial)
   have hfo:=HA.out
   obtain⟨c0,c1⟩:=HC.out 0 s0 H0.out
   have d1:=(aG.cell (p:=⟨b,off+0*2+1,none⟩) hB).trans c1
   simp only[Nat.zero_mul,Nat.add_zero]at d1
   have hne:((n:Int)==0)=false:=by simp;omega
   by_cases hq:s0.2=1
   ·rw[aak.2 ⟨hup,(agU H0.out).trans hq⟩]at hfo
    subst hfo
    rw[hq]at d1
    clear HA hup c0 c1 hG HT
    go_wp2
    go_ret
    exact⟨rfl,aG⟩
   ·rw[abY (fun h=>hq ((agU H0.out).symm.trans h.2))]at hfo
    subst hfo
    have hq':(s0.2==1)=false:=by simpa using hq
    clear HA hup c0 c1 hG HT hq
    go_wp2
    go_ret
    exact⟨rfl,aG⟩
theorem amn {n:Nat}{en:Int}(h:n=0↔en=0):∃b:Bool,((n:Int)==0)=b∧(en==0)=b:=by
 by_cases hn:n=0
 ·exact⟨true,by simp[hn],by simp[h.1 hn]⟩
 ·exact⟨false,by simp;omega,by simp;exact fun e=>hn (h.2 e)⟩
theorem amM {n:Nat}{en:Int}(h:¬(n=0↔en=0)):(((n:Int)==0)=true∧(en==0)=false)∨(((n:Int)==0)=false∧(en==0)=true):=by
 by_cases hn:n=0
 ·exact .inl ⟨by simp[hn],by simp;exact fun e=>h ⟨fun _=>e,fun _=>hn⟩⟩
 ·refine .inr ⟨by simp;omega,?_⟩
  simp
  rcases Classical.em (en=0)with g|g
  ·exact g
  ·exact absurd ⟨fun k=>absurd k hn,fun k=>absurd k g⟩ h
theorem uV (v:Value)(l:List Sm.S)(en:Int)(w:World)(h:jJ w v l)(hl:l.length≤140737488355328):
  Calls Tryz.prog 173 #[v,.int .i64 en] w fun E w'=>E=.returned (.int .i64 (Sm.chk l en))∧Below w.heap.size w w':=by
 have X:=hide (aoa v l en w h hl)
 obtain⟨ao,cap,rfl,_,_⟩:=h.shape
 obtain⟨ans,dO⟩:∃r,Sm.chk l en=r:=⟨_,rfl⟩
 rw[dO]
 have HA:=hide dO
 have HL:=hide hl
 generalize hn:l.length=n at*
 have HN:=hide hn
 clear h dO hl hn
 have no:∀{p:Prop},(Sm.Ok l en→False)→ans=5:=fun h=>by rw[←HA.out];exact Sm.iD h
 have NO:Hid ((Sm.Ok l en→False)→ans=5):=hide fun h=>no (p:=True) h
 clear no
 by_cases h1:en<0
 ·obtain rfl:=NO.out fun h=>by have:=h.1;omega
  clear HA NO X
  go_enter Tryz.func173,Tryz.ntmps173
  go_wp2
  go_ret
  exact⟨rfl,Below.refl _ _⟩
 by_cases h2:(1048576:Int)<en
 ·obtain rfl:=NO.out fun h=>by have:=h.2.1;omega
  clear HA NO X
  go_enter Tryz.func173,Tryz.ntmps173
  go_wp2
  go_ret
  exact⟨rfl,Below.refl _ _⟩
 by_cases h3:n=0↔en=0
 ·obtain⟨bb,n0,e0⟩:=amn h3
  have HI:=hide h3
  by_cases h4:Sm.Up en 0 0 l∧(l.map Prod.snd).headD 1=1
  ·have hfo:=HA.out
   rw[Sm.ib ⟨by omega,by omega,by rw[HN.out];exact h3,h4.1,h4.2⟩]at hfo
   subst hfo
   rw[aak.2 h4]at X
   clear HA NO h4 h3 HI
   go_enter Tryz.func173,Tryz.ntmps173
   go_wp2_with fail
   refine X.out.mono ?_
   rintro E w2 ⟨rfl,au⟩
   go_wp2
   go_ret
   exact⟨rfl,au⟩
  ·obtain rfl:=NO.out fun h=>h4 ⟨h.2.2.2.1,h.2.2.2.2⟩
   rw[abY h4]at X
   clear HA NO h4 h3 HI
   go_enter Tryz.func173,Tryz.ntmps173
   go_wp2_with fail
   refine X.out.mono ?_
   rintro E w2 ⟨rfl,au⟩
   go_wp2
   go_ret
   exact⟨rfl,au⟩
 ·obtain rfl:=NO.out fun h=>h3 (by rw[←HN.out];exact h.2.2.1)
  have hq:=amM h3
  clear HA NO X h3
  go_enter Tryz.func173,Tryz.ntmps173
  rcases hq with⟨n0,e0⟩|⟨n0,e0⟩<;>(go_wp2;go_ret;exact⟨rfl,Below.refl _ _⟩)
def behind:Bm.Ov:=⟨true,⟨#[98,101,104,105,110,100]⟩,⟨#[]⟩⟩
theorem ajr {c d:Cw}(h:c.c=d.c):c.e=d.e∧c.n=d.n∧c.l=d.l:=by
 unfold Cw.c at h
 simpa using h
theorem afu (r:List Cw)(k:Nat):az (r.take k)=(az r).take k:=by unfold az;rw[List.map_take]
theorem amA {rs r:List Cw}{k:Nat}{c d:Cw}(h:az rs=az (r.take k))(hd:r[k]? =some d)(he:c.c=d.c):az (rs++[c])=az (r.take (k+1)):=by
 obtain⟨hk,rfl⟩:=List.getElem?_eq_some_iff.1 hd
 rw[List.take_succ_eq_append_getElem hk]
 unfold az at h⊢
 rw[List.map_append,List.map_append,h]
 simp[he]
def dZ (base:Nat) (w:World) (rs:List Cw):Prop:=∀c∈rs,bz 92 base w c.v c.l
theorem dZ.below {base:Nat}{w w':World}{rs:List Cw}(h:dZ base w rs)(hb:Below w.heap.size w w'):dZ base w' rs:=fun c hc=>(h c hc).below hb
theorem dZ.iN {base:Nat}{w w':World}{rs:List Cw}(h:dZ base w rs)(hb:bK 65 w w'):dZ base w' rs:=fun c hc=>(h c hc).iN hb (by decide)
theorem dZ.snoc {base:Nat}{w:World}{rs:List Cw}(h:dZ base w rs){c:Cw}(hc:bz 92 base w c.v c.l):dZ base w (rs++[c]):=fun d hd=>(List.mem_append.1 hd).elim (h d) (fun h=>by rw[List.mem_singleton.1 h];exact hc)
theorem xH {w:World}{b o:Nat}{r:List Cw}(h:∀i c,r[i]? =some c→w.cell? ⟨b,o+i*3,none⟩=some (.int .i64 c.e)∧w.cell? ⟨b,o+i*3+1,none⟩=some (.int .i64 c.n)∧w.cell? ⟨b,o+i*3+2,none⟩=some c.v){w':World}{base:Nat}(hb:Below base w w')(hB:b<base){k:Nat}{c:Cw}(hc:r[k]? =some c):
  w'.cell? ⟨b,o+k*3,none⟩=some (.int .i64 c.e)∧w'.cell? ⟨b,o+k*3+1,none⟩=some (.int .i64 c.n)∧w'.cell? ⟨b,o+k*3+2,none⟩=some c.v:=by
 obtain⟨e0,e1,e2⟩:=h k c hc
 exact⟨(hb.cell (p:=⟨b,o+k*3,none⟩) hB).trans e0,(hb.cell (p:=⟨b,o+k*3+1,none⟩) hB).trans e1,(hb.cell (p:=⟨b,o+k*3+2,none⟩) hB).trans e2⟩
theorem arn (r:List Cm.Cv)(ep nu:Int):(Cm.Good ep nu r∧Cm.fol ep nu 0 r=(0,0))∨(¬Cm.Good ep nu r∧(Cm.fol ep nu 0 r).1≠0):=by
 by_cases h:Cm.Good ep nu r
 ·have h1:=(Cm.eY r ep nu 0).2 h
  exact .inl ⟨h,Prod.ext h1 (Cm.qm r ep nu 0 h1)⟩
 ·exact .inr ⟨h,fun h1=>h ((Cm.eY r ep nu 0).1 h1)⟩
def sameV:List Cm.Cv→List Cm.Cv→Bool
 |[],[]=>true
 |c::r,d::s=>iE c.e c.n c.l d.e d.n d.l&&sameV r s
 |_,_=>false
theorem nZ {e n e' n':Int}{l l':List Bm.Ov}:iE e n l e' n' l'=true↔e=e'∧n=n'∧l=l':=by
 simp[iE,Bm.nY]
theorem lJ:∀{r s:List Cm.Cv},sameV r s=true↔r=s
 |[],[]=>by simp[sameV]
 |[],_::_=>by simp[sameV]
 |_::_,[]=>by simp[sameV]
 |⟨e,n,l⟩::r,⟨e',n',l'⟩::s=>by
  simp only[sameV,Bool.and_eq_true,nZ,lJ (r:=r) (s:=s)]
  simp[and_assoc]
theorem uP {r s:List Cm.Cv}(h:r≠s):sameV r s=false:=by
 cases hs:sameV r s
 ·rfl
 ·exact absurd (lJ.1 hs) h
theorem aaG (r:List Cm.Cv):sameV r r=true:=lJ.2 rfl
theorem fA (r:List Cw):(az r).length=r.length:=by unfold az;rw[List.length_map]
theorem iW {w:World}{v:Value}{r:List Cw}(h:dJ w v r):0<r.length→∃b1 o1 c1,v=.slice (some ⟨b1,o1,none⟩) r.length c1∧b1<w.heap.size∧∀i c,r[i]? =some c→w.cell? ⟨b1,o1+i*3,none⟩=some (.int .i64 c.e)∧w.cell? ⟨b1,o1+i*3+1,none⟩=some (.int .i64 c.n)∧w.cell? ⟨b1,o1+i*3+2,none⟩=some c.v:=by
 intro hp
 obtain⟨b1,o1,c1,hv,_,_,hB,hc⟩:=h.1.full hp
 exact⟨b1,o1,c1,hv,hB,hc⟩
theorem kE (r:List Cw)(k:Nat):(az r)[k]? =(r[k]?).map Cw.c:=by unfold az;rw[List.getElem?_map]
theorem ahL (va vb:Value)(r s:List Cw)(w:World)(ha:dJ w va r)(hb:dJ w vb s)(fa:dV r)(fb:dV s)(hl:r.length≤140737488355328)(hl':s.length≤140737488355328):
  Calls Tryz.prog 56 #[va,vb] w fun E w'=>E=.returned (.bool (sameV (az r) (az s)))∧Below w.heap.size w w':=by
 obtain⟨ans,dO⟩:∃x,sameV (az r) (az s)=x:=⟨_,rfl⟩
 rw[dO]
 have HA:=hide dO
 clear dO
 obtain⟨a1,p1,hva,_,_⟩:=ha.1.shape
 obtain⟨a2,p2,hvb,_,_⟩:=hb.1.shape
 by_cases hne:r.length=s.length
 ·have C1:=hide (iW ha)
  have C2:=hide (iW hb)
  have I1:=hide ha.2
  have I2:=hide hb.2
  have F1:=hide fa
  have F2:=hide fb
  have HL:=hide hne
  have ht:((r.length:Int) !=(s.length:Int))=false:=by simp;omega
  subst hva hvb
  generalize hn:r.length=n at*
  generalize hm:s.length=m at*
  have HN:=hide hn
  have HM:=hide hm
  clear ha hb fa fb hne hn hm
  go_enter Tryz.func56,Tryz.ntmps56
  go_wp2
  go_loopw [5] (fun i wr=>∃(k:Nat),k≤n∧i=.int .i64 k∧Hid ((az r).take k=(az s).take k)∧Below w.heap.size w wr) (fun i _=>n-(intOf i).toNat)
  case atStart=>exact⟨0,by omega,rfl,hide rfl,Below.refl _ _⟩
  case round=>
   obtain⟨k,hk,rfl,HT,aG⟩:=hrel
   have sz:=aG.size
   by_cases hlt:k<n
   ·obtain⟨b1,o1,c1,hv1,hB1,hc1⟩:=C1.out (by have:=HN.out;omega)
    obtain⟨b2,o2,c2,hv2,hB2,hc2⟩:=C2.out (by have:=HM.out;have:=HL.out;omega)
    simp only[Value.slice.injEq,true_and]at hv1 hv2
    obtain⟨rfl,rfl⟩:=hv1
    obtain⟨rfl,rfl⟩:=hv2
    have hkr:k<r.length:=by have:=HN.out;omega
    have hks:k<s.length:=by have:=HM.out;have:=HL.out;omega
    obtain⟨c,hc⟩:∃c,r[k]? =some c:=⟨r[k],List.getElem?_eq_getElem hkr⟩
    obtain⟨d,hd⟩:∃d,s[k]? =some d:=⟨s[k],List.getElem?_eq_getElem hks⟩
    obtain⟨x0,x1,x2⟩:=xH hc1 aG hB1 hc
    obtain⟨y0,y1,y2⟩:=xH hc2 aG hB2 hd
    have i1:=(I1.out c (List.mem_of_getElem? hc)).1.below aG
    have i2:=(I2.out d (List.mem_of_getElem? hd)).1.below aG
    have l1:=(F1.out c (List.mem_of_getElem? hc)).2
    have l2:=(F2.out d (List.mem_of_getElem? hd)).2
    have hlt':(k:Int)<n:=by omega
    have hlt2:(k:Int)<m:=by have:=HL.out;omega
    have abX:b1<wr.heap.size:=by omega
    have hB2':b2<wr.heap.size:=by omega
    have X:=hide (fun W (h1:df W c.v c.l) (h2:df W d.v d.l)=>ahH c.e c.n _ c.l d.e d.n _ d.l W h1 h2 (by omega) (by omega))
    have HC:=hide hc
    have HD:=hide hd
    obtain⟨sm,hsm⟩:∃x,iE c.e c.n c.l d.e d.n d.l=x:=⟨_,rfl⟩
    rw[hsm]at X
    have HSM:=hide hsm
    clear hc hd hc1 hc2 l1 l2 hsm
    cases sm
    ·have hfo:=HA.out
     rw[uP fun e=>by
      have h1:(az r)[k]? =some c.c:=by rw[kE,HC.out];rfl
      rw[e,kE,HD.out]at h1
      have h2:d.c=c.c:=by simpa using h1
      obtain⟨q1,q2,q3⟩:=ajr h2
      have:=HSM.out
      rw[nZ.2 ⟨q1.symm,q2.symm,q3.symm⟩]at this
      simp at this]at hfo
     subst hfo
     go_wp2_with fail
     go_region_held3 (fun w'=>(w'.cell? ⟨b1,o1+k*3,none⟩=some (.int .i64 c.e)∧w'.cell? ⟨b1,o1+k*3+1,none⟩=some (.int .i64 c.n)∧w'.cell? ⟨b1,o1+k*3+2,none⟩=some c.v)∧(w'.cell? ⟨b2,o2+k*3,none⟩=some (.int .i64 d.e)∧w'.cell? ⟨b2,o2+k*3+1,none⟩=some (.int .i64 d.n)∧w'.cell? ⟨b2,o2+k*3+2,none⟩=some d.v)) (first|exact⟨⟨x0,x1,x2⟩,⟨y0,y1,y2⟩⟩|exact⟨⟨g0,g1,g2⟩,⟨h0,h1,h2⟩⟩|go_keep)
      (first
      |(go_at_call 109;refine(X.out _ (i1.drewN 1) (i2.drewN 1)).mono ?_;rintro E w3 ⟨rfl,aaW⟩;have aF:Below wr.heap.size wr w3:=((Below.refl _ _).drew).trans aaW;have g0:=(aF.cell (p:=⟨b1,o1+k*3,none⟩) abX).trans x0;have g1:=(aF.cell (p:=⟨b1,o1+k*3+1,none⟩) abX).trans x1;have g2:=(aF.cell (p:=⟨b1,o1+k*3+2,none⟩) abX).trans x2;have h0:=(aF.cell (p:=⟨b2,o2+k*3,none⟩) hB2').trans y0;have h1:=(aF.cell (p:=⟨b2,o2+k*3+1,none⟩) hB2').trans y1;have h2:=(aF.cell (p:=⟨b2,o2+k*3+2,none⟩) hB2').trans y2;clear aaW))
     have zS:=aG.trans (aF.mono (by omega))
     go_wp2
     go_ret
     exact⟨rfl,zS⟩
    ·have HT2:Hid ((az r).take (k+1)=(az s).take (k+1)):=hide (by
      obtain⟨q1,q2,q3⟩:=nZ.1 HSM.out
      rw[List.take_add_one,List.take_add_one,HT.out,kE,kE,HC.out,HD.out]
      simp[Cw.c,q1,q2,q3])
     go_wp2_with fail
     go_region_held3 (fun w'=>(w'.cell? ⟨b1,o1+k*3,none⟩=some (.int .i64 c.e)∧w'.cell? ⟨b1,o1+k*3+1,none⟩=some (.int .i64 c.n)∧w'.cell? ⟨b1,o1+k*3+2,none⟩=some c.v)∧(w'.cell? ⟨b2,o2+k*3,none⟩=some (.int .i64 d.e)∧w'.cell? ⟨b2,o2+k*3+1,none⟩=some (.int .i64 d.n)∧w'.cell? ⟨b2,o2+k*3+2,none⟩=some d.v)) (first|exact⟨⟨x0,x1,x2⟩,⟨y0,y1,y2⟩⟩|exact⟨⟨g0,g1,g2⟩,⟨h0,h1,h2⟩⟩|go_keep)
      (first
      |(go_at_call 109;refine(X.out _ (i1.drewN 1) (i2.drewN 1)).mono ?_;rintro E w3 ⟨rfl,aaW⟩;have aF:Below wr.heap.size wr w3:=((Below.refl _ _).drew).trans aaW;have g0:=(aF.cell (p:=⟨b1,o1+k*3,none⟩) abX).trans x0;have g1:=(aF.cell (p:=⟨b1,o1+k*3+1,none⟩) abX).trans x1;have g2:=(aF.cell (p:=⟨b1,o1+k*3+2,none⟩) abX).trans x2;have h0:=(aF.cell (p:=⟨b2,o2+k*3,none⟩) hB2').trans y0;have h1:=(aF.cell (p:=⟨b2,o2+k*3+1,none⟩) hB2').trans y1;have h2:=(aF.cell (p:=⟨b2,o2+k*3+2,none⟩) hB2').trans y2;clear aaW))
     have zS:=aG.trans (aF.mono (by omega))
     clear x0 x1 x2 y0 y1 y2 g0 g1 g2 h0 h1 h2 i1 i2 aF aG
     go_wp2
     go_roundw
     case rel=>exact⟨k+1,by omega,by go_num,HT2,zS⟩
     case measure=>simp[intOf];omega
   ·have hlt':¬(k:Int)<n:=by omega
    have hfo:=HA.out
    rw[lJ.2 (by
     have h1:=HT.out
     rw[List.take_of_length_le (by rw[fA,HN.out];omega),List.take_of_length_le (by rw[fA,HM.out];have:=HL.out;omega)]at h1
     exact h1)]at hfo
    subst hfo
    clear HA
    go_wp2
    go_ret
    exact⟨rfl,aG⟩
 ·have ht:((r.length:Int) !=(s.length:Int))=true:=by simp;omega
  have hfo:=HA.out
  rw[uP fun e=>hne (by rw[←fA r,←fA s,e])]at hfo
  subst hfo hva hvb
  clear hne HA
  go_enter Tryz.func56,Tryz.ntmps56
  go_wp2
  go_ret
  exact⟨rfl,Below.refl _ _⟩
def ApC (cs:List Cw):Prop:=∀(i j:Nat) (c d:Cw),i≠j→cs[i]? =some c→cs[j]? =some d→c.v.ownBlock=none∨c.v.ownBlock≠d.v.ownBlock
theorem ma {e base base' size n:Nat}{w:World}{v:Value}{xs:List Value}(h:w.ownsRow base e size v n xs)(hb:base'≤base):w.ownsRow base' e size v n xs:=by
 refine⟨h.1,?_⟩
 rcases h.2 with k|⟨g,cap,cur,hv,h1,r⟩
 ·exact .inl k
 ·exact .inr ⟨g,cap,cur,hv,Nat.le_trans hb h1,r⟩
theorem aeP {cs:List Cw}{c:Cw}{N:Nat}(h:ApC cs)(h1:∀d∈cs,∀b,d.v.ownBlock=some b→b<N)(h2:∀b,c.v.ownBlock=some b→N≤b):ApC (cs++[c]):=by
 intro i j x y hij hx hy
 have hix:=(List.getElem?_eq_some_iff.1 hx).1
 have hjx:=(List.getElem?_eq_some_iff.1 hy).1
 rw[List.length_append,List.length_singleton]at hix hjx
 have key:∀u v:Value,(∀b d,u.ownBlock=some b→v.ownBlock=some d→b≠d)→u.ownBlock=none∨u.ownBlock≠v.ownBlock:=by
  intro u v h
  cases hu:u.ownBlock with
  |none=>exact .inl rfl
  |some b=>exact .inr fun e=>h b b hu e.symm rfl
 by_cases hi:i<cs.length
 ·rw[List.getElem?_append_left hi]at hx
  by_cases hj:j<cs.length
  ·rw[List.getElem?_append_left hj]at hy
   exact h i j x y hij hx hy
  ·have:j=cs.length:=by omega
   subst this
   simp at hy
   subst hy
   exact key _ _ fun b d hb hd=>by have:=h1 x (List.mem_of_getElem? hx) b hb;have:=h2 d hd;omega
 ·have:i=cs.length:=by omega
  subst this
  simp at hx
  subst hx
  rw[List.getElem?_append_left (by omega)]at hy
  exact key _ _ fun b d hb hd=>by have:=h2 b hb;have:=h1 y (List.mem_of_getElem? hy) d hd;omega
end Go.Proofs.YtjemlgdkjilnoaaGreatDoor
