/- Texts. -/
import Derived.Test.YtlmkaljjocflmaaGreatDoorBH3
import Derived.Laws.StructEq
import Derived.Test.YtlmkaljjocflmaaGreatDoorBH2
import Derived.Test.YtlmkaljjocflmaaGreatDoorBH5
import Derived.Test.YtlmkaljjocflmaaGreatDoorBM2
import Derived.Deep.RegionHeld3
import Derived.Test.YtlmkaljjocflmaaGreatDoorBH1
import Derived.Test.YtlmkaljjocflmaaGreatDoorBH6
set_option maxRecDepth 100000
set_option maxHeartbeats 8000000
set_option linter.unusedVariables false
open Go.Proofs.Tryz
namespace Go.Proofs.YtlmkaljjocflmaaGreatDoor
open Go.RowKit
theorem Tryz.anL (op:BinOp)(x y:Operand)(xs ys:Array Value)(w:World):(eqGuard op 71 x y (.agg xs) (.agg ys)).run prog w=.ok () w:=run_eqGuard_agg w op 71 x y xs ys (by kernel_rfl)
theorem Tryz.ayW (o q:Bm.Ov)(w:World):(binOp .neq 71 (.agg #[.bool o.p,.string o.k,.string o.v]) (.agg #[.bool q.p,.string q.k,.string q.v])).run prog w=.ok (.bool (!Bm.eqO o q)) w:=by
 rw[run_neq_struct,run_equalIn_agg w 9999 71 _ _ (by kernel_rfl) (by kernel_rfl)]
 unfold Program.fieldsOf
 rw[underlying71]
 simp[Op.eqFields,go_sem,underlying4,underlying9]
 unfold Bm.eqO Bm.Ov.kl Bm.Ov.vl
 simp only[Lib.toList_data]
 by_cases h1:o.p=q.p<;>by_cases h2:o.k.data.toList=q.k.data.toList<;>by_cases h3:o.v.data.toList=q.v.data.toList<;>simp[h1,h2,h3]
theorem ahl (va vb:Value)(xs ys:List Bm.Ov)(w:World)(ha:bM w va xs)(hb:bM w vb ys)(hl:xs.length≤140737488355328)(hl':ys.length≤140737488355328):
  Calls prog 92 #[va,vb] w fun e w'=>e=.returned (.bool (Bm.sameL xs ys))∧∃m,w'=w.drewN m:=by
 by_cases hne:xs.length=ys.length
 ·by_cases hz:0<xs.length
  ·obtain⟨b1,o1,c1,rfl,_,_,hB1,hc1⟩:=ha.full hz
   obtain⟨b2,o2,c2,rfl,_,_,hB2,hc2⟩:=hb.full (by omega)
   have ht:((xs.length:Int) !=(ys.length:Int))=false:=by simp;omega
   have HL:=hide hne
   have vT:=hide hc1
   have HC2:=hide hc2
   clear hne ha hb hc1 hc2
   generalize hn:xs.length=n at*
   generalize hm:ys.length=m at*
   have HN:=hide hn
   have HM:=hide hm
   clear hn hm
   go_enter func92,ntmps92
   go_wp2
   go_loopw [5] (fun i wr=>∃(k:Nat),k≤n∧i=.int .i64 k∧Hid (xs.take k=ys.take k)∧∃m,wr=w.drewN m) (fun i _=>n-(intOf i).toNat)
   case atStart=>exact⟨0,by omega,rfl,hide rfl,0,rfl⟩
   case round=>
    obtain⟨k,hk,rfl,HT,mm,rfl⟩:=hrel
    by_cases hlt:k<n
    ·obtain⟨o,ho⟩:∃o,xs[k]? =some o:=⟨xs[k]'(by have:=HN.out;omega),by rw[List.getElem?_eq_getElem]⟩
     obtain⟨q,hq⟩:∃q,ys[k]? =some q:=⟨ys[k]'(by have:=HM.out;have:=HL.out;omega),by rw[List.getElem?_eq_getElem]⟩
     obtain⟨d0,d1,d2⟩:=vT.out k o ho
     obtain⟨e0,e1,e2⟩:=HC2.out k q hq
     have hlt':(k:Int)<n:=by omega
     have hlt2:(k:Int)<m:=by have:=HL.out;omega
     have HO:=hide ho
     have HQ:=hide hq
     clear ho hq
     have hnq:=Tryz.ayW o q
     have hgd:=Tryz.anL
     cases hoq:Bm.eqO o q
     ·have HS:Hid (Bm.sameL xs ys=false):=hide (Bm.uC fun e=>by
       have h1:=HO.out
       rw[e,HQ.out]at h1
       rw[Bm.uh.2 (Option.some.inj h1.symm)]at hoq
       simp at hoq)
      rw[hoq]at hnq
      clear hoq
      go_wp2
      go_quiet (fail)
      go_wp2
      go_ret
      refine⟨?_,_,World.drewN_drewN _ _ _⟩
      rw[HS.out]
      rfl
     ·have HT2:Hid (xs.take (k+1)=ys.take (k+1)):=hide (by
       rw[List.take_add_one,List.take_add_one,HT.out,HO.out,HQ.out,Bm.uh.1 hoq])
      rw[hoq]at hnq
      clear hoq
      go_wp2
      go_quiet (fail)
      go_wp2
      go_roundw
      case rel=>exact⟨k+1,by omega,by go_num,HT2,_,rfl⟩
      case measure=>simp[intOf];omega
    ·have hlt':¬(k:Int)<n:=by omega
     have HS:Hid (Bm.sameL xs ys=true):=hide (Bm.lW.2 (by
      have h1:=HT.out
      rw[List.take_of_length_le (by have:=HN.out;omega),List.take_of_length_le (by have:=HN.out;have:=HM.out;have:=HL.out;omega)]at h1
      exact h1))
     go_wp2
     go_ret
     refine⟨?_,mm,rfl⟩
     rw[HS.out]
     rfl
  ·have hx:xs=[]:=List.eq_nil_of_length_eq_zero (by omega)
   have hy:ys=[]:=List.eq_nil_of_length_eq_zero (by omega)
   subst hx hy
   obtain⟨a1,c1,rfl⟩:=ha.bare
   obtain⟨a2,c2,rfl⟩:=hb.bare
   clear hl hl' hne hz ha hb
   go_enter func92,ntmps92
   go_wp2
   refine wp_loop_rounds 1 ?_
   rw[rounds_succ]
   go_wp2
   go_ret
   exact⟨by simp[Bm.sameL],0,rfl⟩
 ·obtain⟨a1,c1,rfl,_,_⟩:=ha.shape
  obtain⟨a2,c2,rfl,_,_⟩:=hb.shape
  have ht:((xs.length:Int) !=(ys.length:Int))=true:=by simp;omega
  have HX:Hid (Bm.sameL xs ys=false):=hide (Bm.uC fun h=>hne (by rw[h]))
  clear hne
  go_enter func92,ntmps92
  go_wp2
  go_ret
  exact⟨by rw[HX.out];rfl,0,rfl⟩
theorem akM (va vb:Value)(xs ys:List Bm.Ov)(w:World)(ha:bM w va xs)(hb:bM w vb ys)(hl:xs.length≤140737488355328)(hl':ys.length≤140737488355328):
  Calls prog 92 #[va,vb] w fun e w'=>e=.returned (.bool (Bm.sameL xs ys))∧Bq w w':=
 (ahl va vb xs ys w ha hb hl hl').mono (by rintro e w' ⟨rfl,m,rfl⟩;exact⟨rfl,below_drewN (Below.refl _ _) m⟩)
theorem afI (va vb:Value)(xs ys:List Bm.Ov)(w:World)(ha:bM w va xs)(hb:bM w vb ys)(hl:xs.length≤140737488355328)(hl':ys.length≤140737488355328):
  Calls prog 325 #[va,vb] w fun e w'=>e=.returned (.bool (Bm.sameL xs ys))∧∃m,w'=w.drewN m:=by
 by_cases hne:xs.length=ys.length
 ·by_cases hz:0<xs.length
  ·obtain⟨b1,o1,c1,rfl,_,_,hB1,hc1⟩:=ha.full hz
   obtain⟨b2,o2,c2,rfl,_,_,hB2,hc2⟩:=hb.full (by omega)
   have ht:((xs.length:Int) !=(ys.length:Int))=false:=by simp;omega
   have HL:=hide hne
   have vT:=hide hc1
   have HC2:=hide hc2
   clear hne ha hb hc1 hc2
   generalize hn:xs.length=n at*
   generalize hm:ys.length=m at*
   have HN:=hide hn
   have HM:=hide hm
   clear hn hm
   go_enter func325,ntmps325
   go_wp2
   go_loopw [13] (fun i wr=>∃(k:Nat),k≤n∧i=.int .i64 k∧Hid (xs.take k=ys.take k)∧∃m,wr=w.drewN m) (fun i _=>n-(intOf i).toNat)
   case atStart=>exact⟨0,by omega,rfl,hide rfl,0,rfl⟩
   case round=>
    obtain⟨k,hk,rfl,HT,mm,rfl⟩:=hrel
    by_cases hlt:k<n
    ·obtain⟨o,ho⟩:∃o,xs[k]? =some o:=⟨xs[k]'(by have:=HN.out;omega),by rw[List.getElem?_eq_getElem]⟩
     obtain⟨q,hq⟩:∃q,ys[k]? =some q:=⟨ys[k]'(by have:=HM.out;have:=HL.out;omega),by rw[List.getElem?_eq_getElem]⟩
     obtain⟨d0,d1,d2⟩:=vT.out k o ho
     obtain⟨e0,e1,e2⟩:=HC2.out k q hq
     have hlt':(k:Int)<n:=by omega
     have hlt2:(k:Int)<m:=by have:=HL.out;omega
     have HO:=hide ho
     have HQ:=hide hq
     clear ho hq
     have hnq:=Tryz.ayW o q
     have hgd:=Tryz.anL
     cases hoq:Bm.eqO o q
     ·have HS:Hid (Bm.sameL xs ys=false):=hide (Bm.uC fun e=>by
       have h1:=HO.out
       rw[e,HQ.out]at h1
       rw[Bm.uh.2 (Option.some.inj h1.symm)]at hoq
       simp at hoq)
      rw[hoq]at hnq
      clear hoq
      go_wp2
      go_quiet (fail)
      go_wp2
      go_ret
      refine⟨?_,_,World.drewN_drewN _ _ _⟩
      rw[HS.out]
      rfl
     ·have HT2:Hid (xs.take (k+1)=ys.take (k+1)):=hide (by
       rw[List.take_add_one,List.take_add_one,HT.out,HO.out,HQ.out,Bm.uh.1 hoq])
      rw[hoq]at hnq
      clear hoq
      go_wp2
      go_quiet (fail)
      go_wp2
      go_roundw
      case rel=>exact⟨k+1,by omega,by go_num,HT2,_,rfl⟩
      case measure=>simp[intOf];omega
    ·have hlt':¬(k:Int)<n:=by omega
     have HS:Hid (Bm.sameL xs ys=true):=hide (Bm.lW.2 (by
      have h1:=HT.out
      rw[List.take_of_length_le (by have:=HN.out;omega),List.take_of_length_le (by have:=HN.out;have:=HM.out;have:=HL.out;omega)]at h1
      exact h1))
     go_wp2
     go_ret
     refine⟨?_,mm,rfl⟩
     rw[HS.out]
     rfl
  ·have hx:xs=[]:=List.eq_nil_of_length_eq_zero (by omega)
   have hy:ys=[]:=List.eq_nil_of_length_eq_zero (by omega)
   subst hx hy
   obtain⟨a1,c1,rfl⟩:=ha.bare
   obtain⟨a2,c2,rfl⟩:=hb.bare
   clear hl hl' hne hz ha hb
   go_enter func325,ntmps325
   go_wp2
   refine wp_loop_rounds 1 ?_
   rw[rounds_succ]
   go_wp2
   go_ret
   exact⟨by simp[Bm.sameL],0,rfl⟩
 ·obtain⟨a1,c1,rfl,_,_⟩:=ha.shape
  obtain⟨a2,c2,rfl,_,_⟩:=hb.shape
  have ht:((xs.length:Int) !=(ys.length:Int))=true:=by simp;omega
  have HX:Hid (Bm.sameL xs ys=false):=hide (Bm.uC fun h=>hne (by rw[h]))
  clear hne
  go_enter func325,ntmps325
  go_wp2
  go_ret
  exact⟨by rw[HX.out];rfl,0,rfl⟩
theorem ajE (va vb:Value)(xs ys:List Bm.Ov)(w:World)(ha:bM w va xs)(hb:bM w vb ys)(hl:xs.length≤140737488355328)(hl':ys.length≤140737488355328):
  Calls prog 325 #[va,vb] w fun e w'=>e=.returned (.bool (Bm.sameL xs ys))∧Bq w w':=
 (afI va vb xs ys w ha hb hl hl').mono (by rintro e w' ⟨rfl,m,rfl⟩;exact⟨rfl,below_drewN (Below.refl _ _) m⟩)
theorem amU (va vb:Value)(xs ys:List Bm.Ov)(w:World)(ha:bM w va xs)(hb:bM w vb ys)(hl:xs.length≤140737488355328)(hl':ys.length≤140737488355328):
  Calls prog 300 #[va,vb] w fun e w'=>e=.returned (.bool (Bm.sameL xs ys))∧Bq w w':=by
 go_enter func300,ntmps300
 go_wp2_with fail
 refine(ajE va vb xs ys _ ha hb hl hl').mono ?_
 rintro E w1 ⟨rfl,aj⟩
 go_wp2
 go_ret
 exact⟨rfl,aj⟩
theorem tZ (x:Int)(w:World):Calls prog 170 #[.int .i64 x] w fun E w'=>E=.returned (.bool (decide (1≤x∧x≤1048576)))∧w=w':=by
 go_enter func170,ntmps170
 by_cases h1:1≤x
 ·by_cases h2:x≤1048576
  ·go_wp2
   go_ret
   exact⟨by simp[h1,h2],rfl⟩
  ·go_wp2
   go_ret
   exact⟨by simp;omega,rfl⟩
 ·go_wp2
  go_ret
  exact⟨by simp;omega,rfl⟩
theorem uD (e n:Int)(v:Value)(l:List Bm.Ov)(w:World)(h:bM w v l)(hf:dZ l)(hl:l.length≤140737488355328):
  Calls prog 95 #[cK e n v] w fun E w'=>E=.returned (.int .i64 (Cm.chk e n l))∧Bq w w':=by
 unfold cK
 obtain⟨w1,hw1,aV,aj,hB⟩:=au w #[.int .i64 e,.int .i64 n,v] 35
 have c0:=ai hB 0 rfl
 have c1:=ai hB 1 rfl
 have c2:=ai hB 2 rfl
 have h1:=h.below aj
 obtain⟨ao,cap,rfl,_,_⟩:=h.shape
 clear hB
 go_enter func95,ntmps95
 by_cases he:1≤e∧e≤1048576
 ·have he':decide (1≤e∧e≤1048576)=true:=by simp[he]
  by_cases hn:1≤n∧n≤1048576
  ·have hn':decide (1≤n∧n≤1048576)=true:=by simp[hn]
   rw[Cm.aeZ ⟨he.1,he.2,hn.1,hn.2⟩]
   clear he hn
   go_wp2_with fail
   refine(tZ e _).mono ?_
   rintro E w2 ⟨rfl,rfl⟩
   rw[he']
   go_wp2_with fail
   refine(tZ n _).mono ?_
   rintro E w2 ⟨rfl,rfl⟩
   rw[hn']
   go_wp2_with fail
   refine(kN _ l _ h1 hf hl).mono ?_
   rintro E w3 ⟨rfl,aC⟩
   have bq:=aj.trans (aC.mono (by omega))
   go_wp2
   go_ret
   exact⟨rfl,bq⟩
  ·have hn':decide (1≤n∧n≤1048576)=false:=by simpa using hn
   rw[Cm.acb (by omega)]
   clear he hn
   go_wp2_with fail
   refine(tZ e _).mono ?_
   rintro E w2 ⟨rfl,rfl⟩
   rw[he']
   go_wp2_with fail
   refine(tZ n _).mono ?_
   rintro E w2 ⟨rfl,rfl⟩
   rw[hn']
   go_wp2
   go_ret
   exact⟨rfl,aj⟩
 ·have he':decide (1≤e∧e≤1048576)=false:=by simpa using he
  rw[Cm.acb (by omega)]
  clear he
  go_wp2_with fail
  refine(tZ e _).mono ?_
  rintro E w2 ⟨rfl,rfl⟩
  rw[he']
  go_wp2
  go_ret
  exact⟨rfl,aj⟩
def ic (e n:Int) (l:List Bm.Ov) (e' n':Int) (l':List Bm.Ov):Bool:=(e==e')&&((n==n')&&Bm.sameL l l')
theorem ajr (e n:Int)(l:List Bm.Ov):ic e n l e n l=true:=by simp[ic,Bm.akb]
theorem alb (e n:Int)(v:Value)(l:List Bm.Ov)(e' n':Int)(v':Value)(l':List Bm.Ov)(w:World)(h:bM w v l)(h':bM w v' l')(hl:l.length≤140737488355328)(hl':l'.length≤140737488355328):
  Calls prog 252 #[cK e n v,cK e' n' v'] w fun E w'=>E=.returned (.bool (ic e n l e' n' l'))∧Bq w w':=by
 unfold cK
 obtain⟨w1,hw1,aV,aj,hB⟩:=au w #[.int .i64 e,.int .i64 n,v] 35
 obtain⟨w2,hw2,dA,az,hC⟩:=au w1 #[.int .i64 e',.int .i64 n',v'] 35
 rw[aV]at hC
 have hB2:=(az.block _ (ay hB)).trans hB
 have c0:=ai hB2 0 rfl
 have c1:=ai hB2 1 rfl
 have c2:=ai hB2 2 rfl
 have d0:=ai hC 0 rfl
 have d1:=ai hC 1 rfl
 have d2:=ai hC 2 rfl
 have aO:Bq w w2:=aj.trans (az.mono (by omega))
 have i1:=h.below aO
 have i2:=h'.below aO
 obtain⟨ao,cap,rfl,_,_⟩:=h.shape
 obtain⟨ao',cap',rfl,_,_⟩:=h'.shape
 clear hB hC hB2 aj az
 go_enter func252,ntmps252
 by_cases he:e=e'
 ·have he':(e==e')=true:=by simp[he]
  by_cases hn:n=n'
  ·have hn':(n==n')=true:=by simp[hn]
   have hs:ic e n l e' n' l'=Bm.sameL l l':=by simp[ic,he',hn']
   rw[hs]
   clear he hn hs
   go_wp2_with fail
   refine(amU _ _ l l' _ i1 i2 hl hl').mono ?_
   rintro E w3 ⟨rfl,aC⟩
   have bq:=aO.trans (aC.mono (by omega))
   go_wp2
   go_ret
   exact⟨rfl,bq⟩
  ·have hn':(n==n')=false:=by simpa using hn
   have hs:ic e n l e' n' l'=false:=by simp[ic,hn']
   rw[hs]
   clear he hn hs
   go_wp2
   go_ret
   exact⟨rfl,aO⟩
 ·have he':(e==e')=false:=by simpa using he
  have hs:ic e n l e' n' l'=false:=by simp[ic,he']
  rw[hs]
  clear he hs
  go_wp2
  go_ret
  exact⟨rfl,aO⟩
theorem aiU (e n:Int)(v:Value)(l:List Bm.Ov)(e' n':Int)(v':Value)(l':List Bm.Ov)(w:World)(h:bM w v l)(h':bM w v' l')(hl:l.length≤140737488355328)(hl':l'.length≤140737488355328):
  Calls prog 46 #[cK e n v,cK e' n' v'] w fun E w'=>E=.returned (.bool (ic e n l e' n' l'))∧Bq w w':=by
 unfold cK
 obtain⟨w1,hw1,aV,aj,hB⟩:=au w #[.int .i64 e,.int .i64 n,v] 35
 obtain⟨w2,hw2,dA,az,hC⟩:=au w1 #[.int .i64 e',.int .i64 n',v'] 35
 rw[aV]at hC
 have hB2:=(az.block _ (ay hB)).trans hB
 have c0:=ai hB2 0 rfl
 have c1:=ai hB2 1 rfl
 have c2:=ai hB2 2 rfl
 have d0:=ai hC 0 rfl
 have d1:=ai hC 1 rfl
 have d2:=ai hC 2 rfl
 have aO:Bq w w2:=aj.trans (az.mono (by omega))
 have i1:=h.below aO
 have i2:=h'.below aO
 obtain⟨ao,cap,rfl,_,_⟩:=h.shape
 obtain⟨ao',cap',rfl,_,_⟩:=h'.shape
 clear hB hC hB2 aj az
 go_enter func46,ntmps46
 by_cases he:e=e'
 ·have he':(e==e')=true:=by simp[he]
  by_cases hn:n=n'
  ·have hn':(n==n')=true:=by simp[hn]
   have hs:ic e n l e' n' l'=Bm.sameL l l':=by simp[ic,he',hn']
   rw[hs]
   clear he hn hs
   go_wp2_with fail
   refine(akM _ _ l l' _ i1 i2 hl hl').mono ?_
   rintro E w3 ⟨rfl,aC⟩
   have bq:=aO.trans (aC.mono (by omega))
   go_wp2
   go_ret
   exact⟨rfl,bq⟩
  ·have hn':(n==n')=false:=by simpa using hn
   have hs:ic e n l e' n' l'=false:=by simp[ic,hn']
   rw[hs]
   clear he hn hs
   go_wp2
   go_ret
   exact⟨rfl,aO⟩
 ·have he':(e==e')=false:=by simpa using he
  have hs:ic e n l e' n' l'=false:=by simp[ic,he']
  rw[hs]
  clear he hs
  go_wp2
  go_ret
  exact⟨rfl,aO⟩
def behind:Bm.Ov:=⟨true,⟨#[98,101,104,105,110,100]⟩,⟨#[]⟩⟩
end Go.Proofs.YtlmkaljjocflmaaGreatDoor
namespace Go.Proofs.YtlmkaljjocflmaaGreatDoor
open Go.RowKit
open Bm (Ov)
theorem Tryz.ahN:(prog.info? 273).map (fun i=>(i.zero,i.size,i.bytes))=some (some (.agg #[.int .i64 0,.int .i64 0,.slice none 0 0]),3,40):=by kernel_rfl
theorem av8 {a b:ByteArray}(h:Tm.lt b a=true):Op.bytesLess a.toList b.toList=false∧(a.toList==b.toList)=false:=by
 rw[Tm.ahQ,Tm.eqk]
 exact⟨Tm.anG h,by simpa using(Tm.uA h).symm⟩
theorem aul {a b:ByteArray}(h:Tm.lt b a=false):(Op.bytesLess a.toList b.toList=true∧a≠b)∨(Op.bytesLess a.toList b.toList=false∧(a.toList==b.toList)=true):=by
 rw[Tm.ahQ,Tm.eqk]
 cases hl:Tm.lt a b with
 |true=>exact .inl ⟨rfl,Tm.uA hl⟩
 |false=>exact .inr ⟨rfl,by simpa using Tm.abm hl h⟩
theorem apB {l:List Ov}{k:Nat}{o:Ov}(h:Rn.may ⟨#[]⟩ (l.take k)=true)(ho:l[k]? =some o)(hc:o.c=0)(hlt:Tm.lt (Rn.sK ⟨#[]⟩ (l.take k)) o.k=true):Rn.may ⟨#[]⟩ (l.take (k+1))=true∧Rn.sK ⟨#[]⟩ (l.take (k+1))=o.k:=by
 obtain⟨h1,rfl⟩:=List.getElem?_eq_some_iff.1 ho
 rw[List.take_succ_eq_append_getElem h1,Rn.acM,Rn.ac0,h]
 simp[Rn.may,hc,hlt]
theorem af8 {l:List Ov}{k:Nat}{o:Ov}(ho:l[k]? =some o)(h:o.c≠0∨Tm.lt (Rn.sK ⟨#[]⟩ (l.take k)) o.k=false):Rn.may ⟨#[]⟩ l=false:=by
 obtain⟨h1,rfl⟩:=List.getElem?_eq_some_iff.1 ho
 have e:l=l.take k++(l[k]::l.drop (k+1)):=by rw[←List.drop_eq_getElem_cons h1,List.take_append_drop]
 have e2:Rn.may ⟨#[]⟩ l=Rn.may ⟨#[]⟩ (l.take k++(l[k]::l.drop (k+1))):=congrArg _ e
 rw[e2,Rn.acM]
 rcases h with h|h<;>simp[Rn.may,h]
theorem aoQ (v:Value)(l:List Ov)(w:World)(h:bM w v l)(hf:dZ l)(hl:l.length≤140737488355328):
  Calls prog 340 #[v] w fun E w'=>E=.returned (.bool (Rn.may ⟨#[]⟩ l))∧Bq w w':=by
 obtain⟨ans,dL⟩:∃x,Rn.may ⟨#[]⟩ l=x:=⟨_,rfl⟩
 rw[dL]
 have HA:=hide dL
 obtain⟨ao,cap,hsv,hcap,_⟩:=h.shape
 have iR:=hide fun(h0:0<l.length)=>h.full h0
 subst hsv
 have HF:=hide hf
 obtain⟨n,hnn⟩:∃n,l.length=n:=⟨_,rfl⟩
 rw[hnn]at iR hcap hl⊢
 have HN:=hide hnn
 clear h hf hnn dL
 go_enter func340,ntmps340
 go_wp2
 go_loopw [3,8] (fun av i wr=>∃(k:Nat) (ah:ByteArray),k≤n∧i=.int .i64 k∧av=.string ah∧Hid (Rn.may ⟨#[]⟩ (l.take k)=true∧Rn.sK ⟨#[]⟩ (l.take k)=ah)∧Bq w wr) (fun _ i _=>n-(intOf i).toNat)
 case atStart=>exact⟨0,⟨#[]⟩,by omega,rfl,rfl,hide ⟨by simp[Rn.may],by simp[Rn.sK]⟩,Below.refl _ _⟩
 case round=>
  obtain⟨k,ah,hk,rfl,rfl,HT,aI⟩:=hrel
  have sz:=aI.size
  by_cases hlt:k<n
  ·obtain⟨o,ho⟩:∃o,l[k]? =some o:=⟨l[k]'(by have:=HN.out;omega),by rw[List.getElem?_eq_getElem]⟩
   obtain⟨b1,o1,cq,dI,_,_,hB,hcell⟩:=iR.out (by omega)
   simp only[Value.slice.injEq,true_and]at dI
   obtain⟨rfl,rfl⟩:=dI
   obtain⟨c0,c1,c2⟩:=hcell k o ho
   have d0:=(aI.cell (p:=⟨b1,o1+k*3,none⟩) hB).trans c0
   have d1:=(aI.cell (p:=⟨b1,o1+k*3+1,none⟩) hB).trans c1
   have d2:=(aI.cell (p:=⟨b1,o1+k*3+2,none⟩) hB).trans c2
   have HO:=hide ho
   clear c0 c1 c2 ho hcell
   have hlt':(k:Int)<n:=by omega
   obtain⟨hk1,hv1⟩:=HF.out o (List.mem_of_getElem? HO.out)
   obtain⟨W1,hW1,aV,rq,B1⟩:=au wr #[.bool o.p,.string o.k,.string o.v] 71
   have e0:=ai B1 0 rfl
   have e1:=ai B1 1 rfl
   have e2:=ai B1 2 rfl
   have b01:Bq w W1:=aI.trans (rq.mono sz)
   clear B1 rq
   go_wp2_with fail
   refine(lX o.p o.k o.v _ hk1 hv1).mono ?_
   rintro E w1 ⟨rfl,aj⟩
   have az:Bq w w1:=b01.trans (aj.mono (by omega))
   have e1':=(aj.cell (p:=⟨wr.heap.size,1,none⟩) (show wr.heap.size<W1.heap.size by omega)).trans e1
   clear aj d0 d1 d2 e0 e1 e2
   rcases(show Om.chk o.p o.k.data.toList o.v.data.toList=0∨_ from Om.yX _ _ _)with hc|hc
   ·rw[hc]
    have HC:=hide (show o.c=0 from hc)
    clear hc
    cases hlk:Tm.lt ah o.k with
    |true=>
     obtain⟨q1,q2⟩:=av8 hlk
     have HT2:=hide (apB HT.out.1 HO.out HC.out (by rw[HT.out.2];exact hlk))
     clear hlk
     go_wp2
     go_roundw
     case rel=>exact⟨k+1,o.k,by omega,by go_num,rfl,HT2,az⟩
     case measure=>simp[intOf];omega
    |false=>
     have hfo:=HA.out
     rw[af8 HO.out (.inr (by rw[HT.out.2];exact hlk))]at hfo
     subst hfo
     rcases aul hlk with⟨q1,_⟩|⟨q1,q2⟩
     ·clear hlk
      go_wp2
      go_ret
      exact⟨rfl,az⟩
     ·clear hlk
      go_wp2
      go_ret
      exact⟨rfl,az⟩
   ·rw[hc]
    have hfo:=HA.out
    rw[af8 HO.out (.inl (show o.c≠0 by unfold Bm.Ov.c Bm.Ov.kl Bm.Ov.vl;rw[hc];simp))]at hfo
    subst hfo
    clear hc
    go_wp2
    go_ret
    exact⟨rfl,az⟩
  ·have hlt':¬(k:Int)<n:=by omega
   have hfo:=HA.out
   have h1:=HT.out.1
   rw[List.take_of_length_le (by have:=HN.out;omega),hfo]at h1
   subst h1
   clear hfo
   go_wp2
   go_ret
   exact⟨rfl,aI⟩
theorem ajO (e n:Int)(v:Value)(l:List Ov)(w:World)(h:bM w v l)(hf:dZ l)(hl:l.length≤140737488355328):
  Calls prog 324 #[cK e n v] w fun E w'=>E=.returned (.int .i64 (Rn.chk e n l))∧Bq w w':=by
 unfold cK
 obtain⟨w1,hw1,aV,aj,hB⟩:=au w #[.int .i64 e,.int .i64 n,v] 273
 have c0:=ai hB 0 rfl
 have c1:=ai hB 1 rfl
 have c2:=ai hB 2 rfl
 have HM:=hide (aoQ v l w1 (h.below aj) hf hl)
 obtain⟨ao,cap,rfl,_,_⟩:=h.shape
 obtain⟨ans,dL⟩:∃x,Rn.chk e n l=x:=⟨_,rfl⟩
 rw[dL]
 have HA:=hide dL
 have hlz:l.length=l.length:=rfl
 by_cases hlong:1024<l.length
 ·have hfo:=HA.out
  rw[Rn.ao0 hlong]at hfo
  subst hfo
  have awI:(1024:Int)<(l.length:Int):=by omega
  generalize l.length=m at*
  clear HA HM h hf dL hB
  go_enter func324,ntmps324
  go_wp2
  go_ret
  exact⟨rfl,aj⟩
 have awI:¬(1024:Int)<(l.length:Int):=by omega
 by_cases h1:e<1
 ·have hfo:=HA.out
  rw[Rn.iA hlong fun h=>by omega]at hfo
  subst hfo
  generalize l.length=m at*
  clear HA HM h hf dL hB
  go_enter func324,ntmps324
  go_wp2
  go_ret
  exact⟨rfl,aj⟩
 by_cases h2:n<e
 ·have hfo:=HA.out
  rw[Rn.iA hlong fun h=>by omega]at hfo
  subst hfo
  generalize l.length=m at*
  clear HA HM h hf dL hB
  go_enter func324,ntmps324
  go_wp2
  go_ret
  exact⟨rfl,aj⟩
 by_cases h3:(1048576:Int)<n
 ·have hfo:=HA.out
  rw[Rn.iA hlong fun h=>by omega]at hfo
  subst hfo
  generalize l.length=m at*
  clear HA HM h hf dL hB
  go_enter func324,ntmps324
  go_wp2
  go_ret
  exact⟨rfl,aj⟩
 cases hm:Rn.may ⟨#[]⟩ l with
 |true=>
  have hfo:=HA.out
  rw[Rn.iV hlong ⟨by omega,by omega,by omega,hm⟩]at hfo
  subst hfo
  rw[hm]at HM
  generalize l.length=m at*
  clear HA h hf dL hB hm
  go_enter func324,ntmps324
  go_wp2_with fail
  refine HM.out.mono ?_
  rintro E w2 ⟨rfl,az⟩
  have aO:=aj.trans (az.mono aj.size)
  go_wp2
  go_ret
  exact⟨rfl,aO⟩
 |false=>
  have hfo:=HA.out
  rw[Rn.iA hlong fun h=>by rw[hm]at h;simp at h]at hfo
  subst hfo
  rw[hm]at HM
  generalize l.length=m at*
  clear HA h hf dL hB hm
  go_enter func324,ntmps324
  go_wp2_with fail
  refine HM.out.mono ?_
  rintro E w2 ⟨rfl,az⟩
  have aO:=aj.trans (az.mono aj.size)
  go_wp2
  go_ret
  exact⟨rfl,aO⟩
end Go.Proofs.YtlmkaljjocflmaaGreatDoor
namespace Go.Proofs.YtlmkaljjocflmaaGreatDoor
open Go.RowKit
theorem dN {V:World}{R:Nat}{t:TypeId}{x y:Value}(hR:V.heap[R]? =some (.cells #[x,y] t (0,0)))(a b:Value):
  ∃V',(V.setCell ⟨R,0,none⟩ a).setCell ⟨R,1,none⟩ b=V'∧V'.heap[R]? =some (.cells #[a,b] t (0,0))∧V.grownBy V' (some R)∧
   (V.cell? ⟨R,0,none⟩=some x∧V.cell? ⟨R,1,none⟩=some y)∧(V.frozen? ⟨R,0,none⟩=false∧V.frozen? ⟨R,1,none⟩=false)∧
   (V'.cell? ⟨R,0,none⟩=some a∧V'.cell? ⟨R,1,none⟩=some b):=by
 have h2:=aF (aF hR 0 a) 1 b
 exact⟨_,rfl,h2,aH (ax V ⟨R,0,none⟩ a) (ax _ ⟨R,1,none⟩ b),⟨ai hR 0 rfl,ai hR 1 rfl⟩,⟨aA hR 0,aA hR 1⟩,⟨ai h2 0 rfl,ai h2 1 rfl⟩⟩
theorem zt (w:World)(t:TypeId)(x y a b:Value):∃V,(((w.alloc (.cells #[x,y] t)).setCell ⟨w.heap.size,0,none⟩ a).setCell ⟨w.heap.size,1,none⟩ b=V)∧w.alloc (.cells #[a,b] t)=V∧V.heap.size=w.heap.size+1∧Bq w V∧V.heap[w.heap.size]? =some (.cells #[a,b] t (0,0))∧
  V.cell? ⟨w.heap.size,0,none⟩=some a∧V.cell? ⟨w.heap.size,1,none⟩=some b:=by
 obtain⟨V,h1,h2,h3,h4⟩:=au w #[a,b] t
 refine⟨V,?_,h1,h2,h3,h4,ai h4 0 rfl,ai h4 1 rfl⟩
 rw[←h1]
 simp[go_sem]
def zP (f:Int×Int):Value:=.agg #[.int .i64 f.1,.int .i64 f.2]
theorem Tryz.yE (op:BinOp)(x y:Operand)(xs ys:Array Value)(w:World):(eqGuard op 31 x y (.agg xs) (.agg ys)).run prog w=.ok () w:=run_eqGuard_agg w op 31 x y xs ys (by kernel_rfl)
theorem Tryz.agJ (a b c d:Int)(w:World):(binOp .neq 31 (.agg #[.int .i64 a,.int .i64 b]) (.agg #[.int .i64 c,.int .i64 d])).run prog w=.ok (.bool (!((a==c)&&(b==d)))) w:=by
 rw[run_neq_struct,run_equalIn_agg w 9999 31 _ _ (by kernel_rfl) (by kernel_rfl)]
 unfold Program.fieldsOf
 rw[underlying31]
 simp[Op.eqFields,go_sem,underlying29,underlying3]
 by_cases h1:a=c<;>by_cases h2:b=d<;>simp[h1,h2]
theorem auR (at' ep nu e n:Int)(v:Value)(l:List Bm.Ov)(w:World)(h:bM w v l)(hf:dZ l)(hl:l.length≤140737488355328):
  Calls prog 53 #[.int .i64 at',.int .i64 ep,.int .i64 nu,cK e n v] w fun E w'=>E=.returned (zP (Cm.flt at' ep nu ⟨e,n,l⟩))∧Bq w w':=by
 unfold cK zP
 obtain⟨fa,hfa⟩:∃f,Cm.flt at' ep nu ⟨e,n,l⟩=f:=⟨_,rfl⟩
 rw[hfa]
 have HF:=hide hfa
 clear hfa
 obtain⟨w1,hw1,aV,aj,hB⟩:=au w #[.int .i64 e,.int .i64 n,v] 35
 obtain⟨w2,hw2,dA,az,hR⟩:=au w1 #[.int .i64 0,.int .i64 0] 31
 rw[aV]at hR
 have aO:Bq w w2:=aj.trans (az.mono (by omega))
 have hB2:=(az.block w.heap.size (by omega)).trans hB
 have c0:=ai hB2 0 rfl
 have c1:=ai hB2 1 rfl
 have c2:=ai hB2 2 rfl
 have h2:=h.below aO
 obtain⟨ao,cap,rfl,_,_⟩:=h.shape
 have HB:=hide hB2
 have HR:=hide hR
 clear hB hB2 hR aj az
 go_enter func53,ntmps53
 go_wp2_with fail
 refine(uD e n _ l _ h2 hf hl).mono ?_
 rintro E w3 ⟨rfl,aC⟩
 have bO:=aC.size
 have hB3:=(aC.block w.heap.size (by omega)).trans HB.out
 have dP:=(aC.block (w.heap.size+1) (by omega)).trans HR.out
 have bq:=aO.trans (aC.mono (by omega))
 have d0:=ai hB3 0 rfl
 have d1:=ai hB3 1 rfl
 clear c0 c1 c2 HB HR hB3 aO aC h2
 by_cases hc:Cm.chk e n l=0
 ·obtain⟨g1,g2,g3,g4,g5⟩:=Cm.bJ hc
  by_cases hq:n-1≠nu∨e<ep
  ·obtain rfl:(15,at')=fa:=(Cm.acD (c:=⟨e,n,l⟩) hc hq).symm.trans HF.out
   rw[hc]
   obtain⟨V',hV',fI,dO,⟨a0,a1⟩,⟨f0,f1⟩,⟨z0,z1⟩⟩:=dN dP (.int .i64 15) (.int .i64 at')
   have fu:=aG bq dO (by omega) (by omega)
   clear hc fI dO dP
   by_cases hq1:n-1=nu
   ·have hq2:e<ep:=by omega
    have hq3:(n-1 !=nu)=false:=by simpa using hq1
    clear hq hq1
    go_wp2
    refine bodyPost_ret (v:=.agg #[.int .i64 15,.int .i64 at']) (by simp[results,results53,go_sem,z0,z1]) rfl ?_
    exact⟨rfl,fu⟩
   ·have hq3:(n-1 !=nu)=true:=by simpa using hq1
    clear hq hq1
    go_wp2
    refine bodyPost_ret (v:=.agg #[.int .i64 15,.int .i64 at']) (by simp[results,results53,go_sem,z0,z1]) rfl ?_
    exact⟨rfl,fu⟩
  ·obtain rfl:(0,0)=fa:=(Cm.afN (c:=⟨e,n,l⟩) hc hq).symm.trans HF.out
   rw[hc]
   obtain⟨V',hV',fI,dO,⟨a0,a1⟩,⟨f0,f1⟩,⟨z0,z1⟩⟩:=dN dP (.int .i64 0) (.int .i64 0)
   have fu:=aG bq dO (by omega) (by omega)
   have hq3:(n-1 !=nu)=false:=by simp;omega
   have hq2:¬e<ep:=by omega
   clear hc fI dO dP hq
   go_wp2
   refine bodyPost_ret (v:=.agg #[.int .i64 0,.int .i64 0]) (by simp[results,results53,go_sem,z0,z1]) rfl ?_
   exact⟨rfl,fu⟩
 ·have hfo:(Cm.chk e n l,at')=fa:=(Cm.ach (c:=⟨e,n,l⟩) hc).symm.trans HF.out
  have hne:(Cm.chk e n l==0)=false:=by simpa using hc
  generalize Cm.chk e n l=ck at*
  subst hfo
  obtain⟨V',hV',fI,dO,⟨a0,a1⟩,⟨f0,f1⟩,⟨z0,z1⟩⟩:=dN dP (.int .i64 ck) (.int .i64 at')
  have fu:=aG bq dO (by omega) (by omega)
  clear hc fI dO dP
  go_wp2
  refine bodyPost_ret (v:=.agg #[.int .i64 ck,.int .i64 at']) (by simp[results,results53,go_sem,z0,z1]) rfl ?_
  exact⟨rfl,fu⟩
theorem aqg {r:List Cw}{k:Nat}{c:Cw}(h:r[k]? =some c):(aD r).drop k=c.c::(aD r).drop (k+1):=by
 obtain⟨hk,rfl⟩:=List.getElem?_eq_some_iff.1 h
 unfold aD
 rw[←List.map_drop,←List.map_drop,List.drop_eq_getElem_cons hk,List.map_cons]
theorem q9 (ep0 nu0:Int)(vl:Value)(r:List Cw)(w:World)(h:gD w vl r)(hf:jH r)(hl:r.length≤140737488355328):
  Calls prog 10 #[.int .i64 ep0,.int .i64 nu0,vl] w fun E w'=>E=.returned (zP (Cm.fol ep0 nu0 0 (aD r)))∧Bq w w':=by
 unfold zP
 obtain⟨fa,hfa⟩:∃f,Cm.fol ep0 nu0 0 (aD r)=f:=⟨_,rfl⟩
 rw[hfa]
 have HF:=hide hfa
 clear hfa
 obtain⟨w1,hw1,aV,aj,hR⟩:=au w #[.int .i64 0,.int .i64 0] 31
 have h1:=h.below aj
 have hR0:=ai hR 0 rfl
 have qW:=ai hR 1 rfl
 by_cases hz:r.length=0
 ·have:r=[]:=List.eq_nil_of_length_eq_zero hz
  subst this
  obtain⟨ao,cap,rfl,_,_⟩:=h.1.shape
  have hfo:=HF.out
  simp only[aD,List.map_nil,Cm.ahT]at hfo
  subst hfo
  obtain⟨V',hV',fI,dO,⟨a0,a1⟩,⟨f0,f1⟩,⟨z0,z1⟩⟩:=dN hR (.int .i64 0) (.int .i64 0)
  have fu:=aG aj dO (by omega) (by omega)
  clear h h1 hf hl hz HF fI dO hR
  simp only[List.length_nil]
  go_enter func10,ntmps10
  go_wp2
  go_loopw [12] (fun iv wr=>iv=.int .i64 0∧wr=w1) (fun _ _=>0)
  case atStart=>exact⟨rfl,rfl⟩
  case round=>
   obtain⟨rfl,rfl⟩:=hrel
   go_wp2
   refine bodyPost_ret (v:=.agg #[.int .i64 0,.int .i64 0]) (by simp[results,results10,go_sem,z0,z1]) rfl ?_
   exact⟨rfl,fu⟩
 obtain⟨b1,o1,c1,hvl,_,_,hB,hcell⟩:=h1.1.full (by omega)
 subst hvl
 have HIN:=hide h1.2
 have azQ:=hide hf
 have HC:=hide hcell
 have HRR:=hide hR
 generalize hn:r.length=n at*
 have HN:=hide hn
 clear h h1 hcell hf hR hR0 qW hn
 go_enter func10,ntmps10
 go_wp2
 go_loopw [0,1,12] (fun ev nv iv wr=>∃(k:Nat) (ep nu:Int),k≤n∧iv=.int .i64 k∧ev=.int .i64 ep∧nv=.int .i64 nu∧Hid (Cm.fol ep nu k ((aD r).drop k)=fa)∧Bq w1 wr) (fun _ _ iv _=>n-(intOf iv).toNat)
 case atStart=>exact⟨0,ep0,nu0,by omega,rfl,rfl,rfl,HF,Below.refl _ _⟩
 case round=>
  obtain⟨k,ep,nu,hk,rfl,rfl,rfl,HT,aI⟩:=hrel
  have sz:=aI.size
  by_cases hlt:k<n
  ·obtain⟨c,hc⟩:∃c,r[k]? =some c:=⟨r[k]'(by have:=HN.out;omega),by rw[List.getElem?_eq_getElem]⟩
   obtain⟨e0,e1,e2⟩:=HC.out k c hc
   have d0:=(aI.cell (p:=⟨b1,o1+k*3,none⟩) hB).trans e0
   have d1:=(aI.cell (p:=⟨b1,o1+k*3+1,none⟩) hB).trans e1
   have d2:=(aI.cell (p:=⟨b1,o1+k*3+2,none⟩) hB).trans e2
   have hmem:=List.mem_of_getElem? hc
   obtain⟨i1,_,_⟩:=HIN.out c hmem
   have i2:=i1.below aI
   obtain⟨hfc,hlc⟩:=azQ.out c hmem
   have HCD:=hide (aqg hc)
   have hlt':(k:Int)<n:=by omega
   obtain⟨ao,cp,hcv,_,_⟩:=i2.shape
   rw[hcv]at d2 i2
   obtain⟨V,hV,hV2,iy,bg,bC,q0,q1,q2⟩:=eY wr 35 (.int .i64 0) (.int .i64 0) (.slice none 0 0) (.int .i64 c.e) (.int .i64 c.n) (.slice ao c.l.length cp)
   have i3:=i2.below bg
   have BC:=hide bC
   clear e0 e1 e2 hc hmem i1 i2 hcv bC
   go_wp2_with fail
   refine(auR k ep nu c.e c.n _ c.l _ i3 hfc (by omega)).mono ?_
   rintro E w3 ⟨rfl,aC⟩
   have bO:=aC.size
   obtain⟨fl,hfl⟩:∃f,Cm.flt k ep nu ⟨c.e,c.n,c.l⟩=f:=⟨_,rfl⟩
   unfold zP
   rw[hfl]
   have kR:=hide hfl
   clear hfl
   obtain⟨fe,fp⟩:=fl
   simp only
   have bC3:=(aC.block wr.heap.size (by omega)).trans BC.out
   obtain⟨X,hX,hX2,szX,aoZ,bF,x0,x1⟩:=zt w3 31 (.int .i64 0) (.int .i64 0) (.int .i64 fe) (.int .i64 fp)
   have bCX:=(aoZ.block wr.heap.size (by omega)).trans bC3
   have u0:=ai bCX 0 rfl
   have u1:=ai bCX 1 rfl
   have jf:Bq w1 X:=((aI.trans (bg.mono (by omega))).trans (aC.mono (by omega))).trans (aoZ.mono (by omega))
   have wu:=(jf.block w.heap.size (by omega)).trans HRR.out
   have hnq:=Tryz.agJ fe fp 0 0
   have hgd:=Tryz.yE
   clear aI bg aC aoZ BC bC3 bCX bF i3 q0 q1 q2 d0 d1 d2 hV hV2
   by_cases hfe:fe=0
   ·have hz:=Cm.agi (a:=k) (ep:=ep) (nu:=nu) (c:=⟨c.e,c.n,c.l⟩) (by rw[kR.out];exact hfe)
    have hfp:fp=0:=by have:=hz.2.2;rw[kR.out]at this;exact this
    have HT2:Hid (Cm.fol c.e c.n (k+1) ((aD r).drop (k+1))=fa):=hide (by
     have:=HT.out
     rw[HCD.out]at this
     rw[←this]
     exact(Cm.ap9 (c:=c.c) (by rw[show Cm.flt k ep nu c.c=(fe,fp)from kR.out];exact hfe)).symm)
    have hb:(!((fe==0)&&(fp==0)))=false:=by simp[hfe,hfp]
    rw[hb]at hnq
    clear hb hz hfe hfp wu kR HCD HT
    go_wp2_with fail
    go_quiet (fail)
    go_wp2
    go_roundw
    case rel=>exact⟨k+1,c.e,c.n,by omega,by go_num,rfl,rfl,HT2,below_drewN jf _⟩
    case measure=>simp[intOf];omega
   ·have hfo:(fe,fp)=fa:=by
     have:=HT.out
     rw[HCD.out]at this
     rw[←this,Cm.an3 (c:=c.c) (by rw[show Cm.flt k ep nu c.c=(fe,fp)from kR.out];exact hfe)]
     exact kR.out.symm
    have hb:(!((fe==0)&&(fp==0)))=true:=by simp[hfe]
    rw[hb]at hnq
    subst hfo
    obtain⟨V',hV',fI,dO,⟨a0,a1⟩,⟨f0,f1⟩,⟨z0,z1⟩⟩:=dN wu (.int .i64 fe) (.int .i64 fp)
    have fu:=aG (aj.trans (jf.mono (by omega))) dO (by omega) (by omega)
    clear hb hfe wu kR HCD HT HF fI dO u0 u1 jf
    go_wp2
    refine bodyPost_ret (v:=.agg #[.int .i64 fe,.int .i64 fp]) (by simp[results,results10,go_sem,z0,z1]) rfl ?_
    exact⟨rfl,fu⟩
  ·have hlt':¬(k:Int)<n:=by omega
   have hfo:(0,0)=fa:=by
    have:=HT.out
    rw[List.drop_of_length_le (by unfold aD;rw[List.length_map,HN.out];omega),Cm.ahT]at this
    exact this
   subst hfo
   have wu:=(aI.block w.heap.size (by omega)).trans HRR.out
   obtain⟨V',hV',fI,dO,⟨a0,a1⟩,⟨f0,f1⟩,⟨z0,z1⟩⟩:=dN wu (.int .i64 0) (.int .i64 0)
   have fu:=aG (aj.trans (aI.mono (by omega))) dO (by omega) (by omega)
   clear wu HT HF fI dO aI
   go_wp2
   refine bodyPost_ret (v:=.agg #[.int .i64 0,.int .i64 0]) (by simp[results,results10,go_sem,z0,z1]) rfl ?_
   exact⟨rfl,fu⟩
theorem axl {c d:Cw}(h:c.c=d.c):c.e=d.e∧c.n=d.n∧c.l=d.l:=by
 unfold Cw.c at h
 simpa using h
theorem aak (r:List Cw)(k:Nat):aD (r.take k)=(aD r).take k:=by unfold aD;rw[List.map_take]
def gu (base:Nat) (w:World) (rs:List Cw):Prop:=∀c∈rs,aT 71 base w c.v c.l
theorem gu.below {base:Nat}{w w':World}{rs:List Cw}(h:gu base w rs)(hb:Bq w w'):gu base w' rs:=fun c hc=>(h c hc).below hb
theorem gu.lu {base:Nat}{w w':World}{rs:List Cw}(h:gu base w rs)(hb:bH 35 w w'):gu base w' rs:=fun c hc=>(h c hc).lu hb (by decide)
theorem gu.snoc {base:Nat}{w:World}{rs:List Cw}(h:gu base w rs){c:Cw}(hc:aT 71 base w c.v c.l):gu base w (rs++[c]):=fun d hd=>(List.mem_append.1 hd).elim (h d) (fun h=>by rw[List.mem_singleton.1 h];exact hc)
theorem aa0 {w:World}{b o:Nat}{r:List Cw}(h:∀i c,r[i]? =some c→w.cell? ⟨b,o+i*3,none⟩=some (.int .i64 c.e)∧w.cell? ⟨b,o+i*3+1,none⟩=some (.int .i64 c.n)∧w.cell? ⟨b,o+i*3+2,none⟩=some c.v){w':World}{base:Nat}(hb:Below base w w')(hB:b<base){k:Nat}{c:Cw}(hc:r[k]? =some c):
  w'.cell? ⟨b,o+k*3,none⟩=some (.int .i64 c.e)∧w'.cell? ⟨b,o+k*3+1,none⟩=some (.int .i64 c.n)∧w'.cell? ⟨b,o+k*3+2,none⟩=some c.v:=by
 obtain⟨e0,e1,e2⟩:=h k c hc
 exact⟨(hb.cell (p:=⟨b,o+k*3,none⟩) hB).trans e0,(hb.cell (p:=⟨b,o+k*3+1,none⟩) hB).trans e1,(hb.cell (p:=⟨b,o+k*3+2,none⟩) hB).trans e2⟩
theorem aas {P:Program}{ops:Array Oper}{o:Oper}{a:Act}{w:World}{K:Act→World→Prop}{Q:Exit→Act→World→Prop}{E:Prop}(hgd:o.guard=none)(s x:Operand)(t:TypeId)
  (ho:o.op=.call {callee:=.builtin .append,args:=#[s,x],argTypes:=#[t,t]})
  (e:TypeId) (base:Nat) (ht:P.underlying t=some (.slice e)) (hinfo:(P.info? e).map (fun i=>(i.zero,i.size,i.bytes))=some (some (.agg #[.int .i64 0,.int .i64 0,.slice none 0 0]),3,40))
  (v:Value) (l:List Cw) (hs:a.eval s=v) (hown:bD e base w v l) (vx:Value) (m:List Cw) (hx:a.eval x=vx) (his:eD w vx m) (hone:∀c∈m,c.v.oneCell'=true)
  (hlen:(l.length+m.length)*40≤140737488355328) (hbase:base≤w.heap.size)
  (h:∀v' w',bD e base w' v' (l++m)→Below base w w'→bH e w w'→K (a.put o.dst v') w'):
  if Region.wanted o (yielded ops a.tmps)=true then Oper.wp P o a w K Q else E:=by
 have hw:Region.wanted o (yielded ops a.tmps)=true:=by simp[Region.wanted,hgd]
 rw[if_pos hw]
 obtain⟨i,hi,hz,hsize,hb⟩:=info_parts hinfo
 have hn:l.length+m.length≤140737488355328:=by omega
 rcases his with⟨hv,hy⟩|⟨ad,cap,hv,h1,h2,hc⟩
 ·subst hy
  have hrun:=run_append_owned_none (P:=P) (w:=w) base t o.type e i 3 ht hi v l.length _ hown
  have hk:=h v w (by simpa using hown) (Below.refl _ _) (bH.refl _ _)
  unfold Oper.wp
  simp[execOp,ho,resolve,invoke,builtin,hs,hx.trans hv,hrun,Result.andThen]
  exact hk
 ·refine wp_append_own w s x t ho base e i _ 3 40 ht hi hz hsize hb rfl (by decide) v l.length _ hs hown ad m.length cap (ccells m) (hx.trans hv) (mh m) hc (kZ m hone) (by unfold maxLen;omega) hlen hbase ?_
  intro v' w' ho' hg _
  refine h v' w' (by unfold bD;rw[pE,List.length_append];exact ho') ((Below.refl _ _).grown hg hbase fun k' hk=>?_) (bH.sN hown hg)
  exact(World.ownsRow.lt hown k' hk).1
theorem auK (r:List Cm.Cv)(ep nu:Int):(Cm.Good ep nu r∧Cm.fol ep nu 0 r=(0,0))∨(¬Cm.Good ep nu r∧(Cm.fol ep nu 0 r).1≠0):=by
 by_cases h:Cm.Good ep nu r
 ·have h1:=(Cm.iN r ep nu 0).2 h
  exact .inl ⟨h,Prod.ext h1 (Cm.abW r ep nu 0 h1)⟩
 ·exact .inr ⟨h,fun h1=>h ((Cm.iN r ep nu 0).1 h1)⟩
def sameV:List Cm.Cv→List Cm.Cv→Bool
 |[],[]=>true
 |c::r,d::s=>ic c.e c.n c.l d.e d.n d.l&&sameV r s
 |_,_=>false
theorem xC {e n e' n':Int}{l l':List Bm.Ov}:ic e n l e' n' l'=true↔e=e'∧n=n'∧l=l':=by
 simp[ic,Bm.lW]
theorem oD:∀{r s:List Cm.Cv},sameV r s=true↔r=s
 |[],[]=>by simp[sameV]
 |[],_::_=>by simp[sameV]
 |_::_,[]=>by simp[sameV]
 |⟨e,n,l⟩::r,⟨e',n',l'⟩::s=>by
  simp only[sameV,Bool.and_eq_true,xC,oD (r:=r) (s:=s)]
  simp[and_assoc]
theorem af5 {r s:List Cm.Cv}(h:r≠s):sameV r s=false:=by
 cases hs:sameV r s
 ·rfl
 ·exact absurd (oD.1 hs) h
theorem ajQ (r:List Cm.Cv):sameV r r=true:=oD.2 rfl
theorem dJ (r:List Cw):(aD r).length=r.length:=by unfold aD;rw[List.length_map]
theorem jq {w:World}{v:Value}{r:List Cw}(h:gD w v r):0<r.length→∃b1 o1 c1,v=.slice (some ⟨b1,o1,none⟩) r.length c1∧b1<w.heap.size∧∀i c,r[i]? =some c→w.cell? ⟨b1,o1+i*3,none⟩=some (.int .i64 c.e)∧w.cell? ⟨b1,o1+i*3+1,none⟩=some (.int .i64 c.n)∧w.cell? ⟨b1,o1+i*3+2,none⟩=some c.v:=by
 intro hp
 obtain⟨b1,o1,c1,hv,_,_,hB,hc⟩:=h.1.full hp
 exact⟨b1,o1,c1,hv,hB,hc⟩
theorem pQ (r:List Cw)(k:Nat):(aD r)[k]? =(r[k]?).map Cw.c:=by unfold aD;rw[List.getElem?_map]
def qE (cs:List Cw):Prop:=∀(i j:Nat) (c d:Cw),i≠j→cs[i]? =some c→cs[j]? =some d→c.v.ownBlock=none∨c.v.ownBlock≠d.v.ownBlock
theorem bD.bn {e base base':Nat}{w:World}{v:Value}{l:List Cw}(h:bD e base w v l)(hb:base'≤base):bD e base' w v l:=by
 refine⟨h.1,?_⟩
 rcases h.2 with h|⟨g,cap,cur,hv,h1,r⟩
 ·exact .inl h
 ·exact .inr ⟨g,cap,cur,hv,by omega,r⟩
theorem aal {cs:List Cw}{c:Cw}{N:Nat}(h:qE cs)(h1:∀d∈cs,∀b,d.v.ownBlock=some b→b<N)(h2:∀b,c.v.ownBlock=some b→N≤b):qE (cs++[c]):=by
 intro i j x y hij hx hy
 have hix:=(List.getElem?_eq_some_iff.1 hx).1
 have hjx:=(List.getElem?_eq_some_iff.1 hy).1
 rw[List.length_append,List.length_singleton]at hix hjx
 have key:∀u v:Value,(∀b d,u.ownBlock=some b→v.ownBlock=some d→b≠d)→u.ownBlock=none∨u.ownBlock≠v.ownBlock:=by
  intro u v h
  cases hu:u.ownBlock with
  |none=>exact .inl rfl
  |some b=>exact .inr fun e=>h b b hu e.symm rfl
 by_cases hi:i<cs.length
 ·rw[List.getElem?_append_left hi]at hx
  by_cases hj:j<cs.length
  ·rw[List.getElem?_append_left hj]at hy
   exact h i j x y hij hx hy
  ·have:j=cs.length:=by omega
   subst this
   simp at hy
   subst hy
   exact key _ _ fun b d hb hd=>by have:=h1 x (List.mem_of_getElem? hx) b hb;have:=h2 d hd;omega
 ·have:i=cs.length:=by omega
  subst this
  simp at hx
  subst hx
  rw[List.getElem?_append_left (by omega)]at hy
  exact key _ _ fun b d hb hd=>by have:=h2 b hb;have:=h1 y (List.mem_of_getElem? hy) d hd;omega
section
variable {base:Nat} {w:World} {F:Nat→Prop}
theorem bD.type {e:TypeId}{r:List Cw}{v:Value}(h:bD e base w v r){g:Nat}(hg:v.ownBlock=some g):∃cs,w.heap[g]? =some (.cells cs e (0,0)):=by
 rcases h.2 with⟨rfl,_⟩|⟨g',cap,cur,rfl,_,hh,_⟩
 ·simp[Value.ownBlock]at hg
 ·simp[Value.ownBlock]at hg
  subst hg
  exact⟨_,hh⟩
theorem aT.type {e:TypeId}{r:List Bm.Ov}{v:Value}(h:aT e base w v r){g:Nat}(hg:v.ownBlock=some g):∃cs,w.heap[g]? =some (.cells cs e (0,0)):=by
 rcases h.2 with⟨rfl,_⟩|⟨g',cap,cur,rfl,_,hh,_⟩
 ·simp[Value.ownBlock]at hg
 ·simp[Value.ownBlock]at hg
  subst hg
  exact⟨_,hh⟩
theorem Pk.ty {p:Nat}{st:Dm.Ds}(h:Pk p F w st):∀g,F g→∃cs t fr,w.heap[g]? =some (.cells cs t fr)∧(t=97∨t=5∨t=208):=by
 obtain⟨s,wv,rs,h,rfl⟩:=h
 rintro g (rfl|⟨f,hf,hb⟩|hb|⟨r,hr,hb⟩)
 ·exact⟨_,_,_,h.blk,.inl rfl⟩
 ·obtain⟨cs,hc⟩:=(h.ja.file f hf).type hb
  exact⟨_,_,_,hc,.inr (.inl rfl)⟩
 ·obtain⟨cs,hc⟩:=h.ja.row.type hb
  exact⟨_,_,_,hc,.inr (.inr rfl)⟩
 ·obtain⟨_,cs,fr,hc⟩:=(h.ja.raw r hr).2 g hb
  exact⟨_,_,_,hc,.inr (.inl rfl)⟩
end
theorem bM.out {F:Nat→Prop}{w w':World}{v:Value}{l:List Bm.Ov}(h:bM w v l)(ho:Out F w w')(hF:0<l.length→∀b,v.ownBlock=some b→¬F b):bM w' v l:=by
 rcases h with h|⟨ad,cap,hv,h1,h2,hc⟩
 ·exact .inl h
 ·refine .inr ⟨ad,cap,hv,h1,h2,fun j u hj=>?_⟩
  have hk:=hc j u hj
  have hl:0<l.length:=by
   rcases l with _|⟨x,l⟩
   ·simp[ocells]at hj
   ·simp
  have eb:(ad.add j).block=ad.block:=by unfold Addr.add;split<;>rfl
  have hlt:=World.block_lt_of_cell? _ _ hk
  rw[World.cell?_of_block (ho.block _ hlt (by rw[eb];exact hF hl _ (by rw[hv];rfl)))]
  exact hk
theorem aiN (l:List Cw)(i:Nat)(c:Cw)(hi:i<l.length):(((ccells l).set (i*3) (.int .i64 c.e)).set (i*3+1) (.int .i64 c.n)).set (i*3+2) c.v=ccells (l.set i c):=by
 induction l generalizing i with
 |nil=>simp at hi
 |cons d l ih=>
  cases i with
  |zero=>simp[ccells,iF]
  |succ i=>
   have:=ih i (by simpa using hi)
   rw[show(i+1)*3=i*3+3 by omega]
   simp only[ccells,iF,List.set_cons_succ,List.cons_append,List.nil_append]
   rw[←this]
theorem aaP {e base g n cap:Nat}{w:World}{l:List Cw}(h:bD e base w (.slice (some ⟨g,0,none⟩) n cap) l)(hn:l.length=n)(i:Nat)(hi:i<n)(c:Cw):
  ∃W,((w.setCell ⟨g,i*3,none⟩ (.int .i64 c.e)).setCell ⟨g,i*3+1,none⟩ (.int .i64 c.n)).setCell ⟨g,i*3+2,none⟩ c.v=W∧bD e base W (.slice (some ⟨g,0,none⟩) n cap) (l.set i c)∧w.grownBy W (some g):=by
 subst hn
 unfold bD at h
 have s1:=h.stored (i*3) (.int .i64 c.e)
 have s2:=s1.1.stored (i*3+1) (.int .i64 c.n)
 have s3:=s2.1.stored (i*3+2) c.v
 refine⟨_,rfl,?_,aH s1.2 (aH s2.2 s3.2)⟩
 unfold bD
 rw[List.length_set,←aiN l i c hi]
 exact s3.1
theorem pR {e base g n cap:Nat}{w:World}{l:List Cw}(h:bD e base w (.slice (some ⟨g,0,none⟩) n cap) l)(hn:l.length=n)(i:Nat)(c:Cw)(hc:l[i]? =some c):
  (w.cell? ⟨g,i*3,none⟩=some (.int .i64 c.e)∧w.cell? ⟨g,i*3+1,none⟩=some (.int .i64 c.n)∧w.cell? ⟨g,i*3+2,none⟩=some c.v)∧(w.frozen? ⟨g,i*3,none⟩=false∧w.frozen? ⟨g,i*3+1,none⟩=false∧w.frozen? ⟨g,i*3+2,none⟩=false):=by
 subst hn
 unfold bD at h
 obtain⟨hi,rfl⟩:=List.getElem?_eq_some_iff.1 hc
 obtain⟨a0,a1,a2⟩:=rY l i hi
 exact⟨⟨by rw[h.cellAt (i*3) (by omega)];exact a0,by rw[h.cellAt (i*3+1) (by omega)];exact a1,by rw[h.cellAt (i*3+2) (by omega)];exact a2⟩,h.frozenAt _,h.frozenAt _,h.frozenAt _⟩
theorem ae1 (e n:Int)(v:Value)(l:List Bm.Ov)(w:World)(h:bM w v l)(hf:dZ l)(hl:l.length≤140737488355328):
  Calls prog 156 #[cK e n v] w fun E w'=>∃vb,E=.returned (.tuple #[vb,.int .i64 (Cm.chk e n l)])∧Own .u8 5 w.heap.size w' vb (Cm.out e n l)∧Bq w w':=by
 unfold cK
 obtain⟨ch,hch⟩:∃c,Cm.chk e n l=c:=⟨_,rfl⟩
 obtain⟨ou,hou⟩:∃c,Cm.out e n l=c:=⟨_,rfl⟩
 rw[hch,hou]
 have HC:=hide hch
 have HO:=hide hou
 clear hch hou
 obtain⟨w1,hw1,aV,aj,hB⟩:=au w #[.int .i64 e,.int .i64 n,v] 35
 have c0:=ai hB 0 rfl
 have c1:=ai hB 1 rfl
 have c2:=ai hB 2 rfl
 have h1:=h.below aj
 obtain⟨ao,cap,rfl,_,_⟩:=h.shape
 have BB:=hide hB
 clear hB
 go_enter func156,ntmps156
 go_wp2_with fail
 refine(uD e n _ l _ h1 hf hl).mono ?_
 rintro E w2 ⟨rfl,az⟩
 rw[HC.out]
 have dA:=az.size
 have hB2:=(az.block _ (by omega)).trans BB.out
 have d0:=ai hB2 0 rfl
 have d1:=ai hB2 1 rfl
 have d2:=ai hB2 2 rfl
 have h2:=h1.below az
 have aO:=aj.trans (az.mono (by omega))
 have B2:=hide hB2
 clear BB c0 c1 c2 hB2 aj az h1
 by_cases hc:ch=0
 ·subst hc
  have hc:=HC.out
  obtain⟨g1,g2,g3,g4,g5⟩:=Cm.bJ hc
  have hO:=HO.out
  rw[Cm.kX hc,Cm.fA]at hO
  replace HO:=hide hO
  clear hO
  have hs1:=Cm.jr g2
  have hs2:=Cm.jr g4
  clear hc
  go_wp2_with fail
  refine(gL _ [] e _ (Is.nil _ _) (by simp) (by omega) (by omega)).mono ?_
  rintro E w3 ⟨vb,rfl,bK,aC⟩
  have bO:=aC.size
  have hB3:=(aC.block _ (by omega)).trans B2.out
  have f1:=ai hB3 1 rfl
  have h3:=h2.below aC
  have bq:=aO.trans (aC.mono (by omega))
  have B3:=hide hB3
  rw[List.nil_append]at bK
  clear B2 d0 d1 d2 hB3 aC h2 aO
  go_wp2_with fail
  refine(gL _ _ n _ bK.is (by omega) (by omega) (by omega)).mono ?_
  rintro E w4 ⟨vc,rfl,bz,aL⟩
  have iK:=aL.size
  have hB4:=(aL.block _ (by omega)).trans B3.out
  have q2:=ai hB4 2 rfl
  have h4:=h3.below aL
  have dC:=bq.trans (aL.mono (by omega))
  clear B3 f1 hB4 aL h3 bq bK
  go_wp2_with fail
  refine(aqk _ _ _ l _ bz.is (by rw[List.length_append];omega) h4 hf hl).mono ?_
  rintro E w5 ⟨vd,rfl,dx,aS⟩
  rw[g5]
  rw[Bm.aiv g5,List.append_assoc,HO.out]at dx
  have azd:=dx.bn (base':=w.heap.size) (by omega)
  have aer:=dC.trans (aS.mono (by omega))
  clear dx bz h4 dC aS
  go_wp2
  refine bodyPost_ret (v:=.tuple #[vd,.int .i64 0]) (by simp[results,results156,go_sem]) rfl ?_
  exact⟨_,rfl,azd,aer⟩
 ·have hne:(ch==0)=false:=by simpa using hc
  have hO:=HO.out
  rw[Cm.tO (by rw[HC.out];exact hc)]at hO
  subst hO
  clear hc
  go_wp2
  refine bodyPost_ret (v:=.tuple #[.slice none 0 0,.int .i64 ch]) (by simp[results,results156,go_sem]) rfl ?_
  exact⟨_,rfl,Own.nil _ _ _ _,aO⟩
end Go.Proofs.YtlmkaljjocflmaaGreatDoor
