/- Texts of one layer, one behind the other. -/
import Derived.Test.YtlmkaljjocflmaaGreatDoorAH19
import Derived.SizedLaws
import Derived.Lib.SmallJoins
import Derived.Deep.Slices
import Derived.Test.YtlmkaljjocflmaaGreatDoorAH1
import Derived.Test.YtlmkaljjocflmaaGreatDoorAH29
import Derived.Test.YtlmkaljjocflmaaGreatDoorAH20
import Derived.Test.YtlmkaljjocflmaaGreatDoorRows
import Derived.MakeChecks
set_option maxRecDepth 100000
set_option maxHeartbeats 8000000
namespace Go.Proofs.YtlmkaljjocflmaaGreatDoor
open Go.RowKit
set_option linter.unusedVariables false
theorem anZ (vb:Value)(bs:List Int)(w:World)(hb:Is .u8 w vb bs)(hl:bs.length≤140737488355328):
  Calls Tryz.prog 204 #[vb] w fun E w'=>∃(e n g:Int) (v:Value) (l:List Bm.Ov),E=.returned (.tuple #[dF e n v,.int .i64 g])∧bu 71 w.heap.size w' v l∧Cm.abD bs e n l g∧Below w.heap.size w w':=by
 unfold dF
 obtain⟨w1,hw1,aT,ak,hB⟩:=au w #[.int .i64 0,.int .i64 0,.slice none 0 0] 35
 have hb1:=hb.below ak
 obtain⟨ao,cap,rfl,_,_⟩:=hb.shape
 have HB:=hide hB
 clear hB
 go_enter Tryz.func204,Tryz.ntmps204
 go_wp2_with fail
 refine(aj2 _ bs _ hb1 (by omega)).mono ?_
 rintro E w2 ⟨e,n,k,g,vl,l,rfl,nJ,hR,az⟩
 unfold dF
 have dm:=az.size
 have hB2:=(az.block w.heap.size (by omega)).trans HB.out
 have aO:=ak.trans (az.mono (by omega))
 obtain⟨ah,ch,hvl,_,_⟩:=nJ.is.shape
 subst hvl
 obtain⟨V,hV,hV2,jE,aX,bC,c0,c1,c2⟩:=gG w2 35 (.int .i64 0) (.int .i64 0) (.slice none 0 0) (.int .i64 e) (.int .i64 n) (.slice ah l.length ch)
 have hB3:=(aX.block w.heap.size (by omega)).trans hB2
 have xh:=aO.trans (aX.mono (by omega))
 obtain⟨Z,hZ,bZ,gZ,⟨a0,a1,a2⟩,⟨f0,f1,f2⟩,⟨z0,z1,z2⟩⟩:=fI hB3 (.int .i64 0) (.int .i64 0) (.slice none 0 0)
 have qM:=aF xh gZ (Nat.le_refl _) (by omega)
 have H3:=hide hB3
 have HC:=hide bC
 have kK:=nJ.below aX
 clear hB2 hB3 bC bZ gZ ak az aO HB nJ hb1
 rcases hR with⟨rfl,x,y,hx,hy,px,py,hc,hp,rfl,rfl,rfl⟩|⟨rfl,rfl,rfl,rfl,rfl,hno⟩
 ·by_cases hk:Vm.sz x+Vm.sz y+(Bm.dO l).length=bs.length
  ·have HK:=hide hk
   rw[hk]
   have hkk:((bs.length:Int) !=(bs.length:Int))=false:=by simp
   have hfit:=(sK hc).fit
   have hl8:=(Bm.dJ hc).2.1
   have P:Hid (Vm.enc x<+:bs∧Vm.enc y<+:bs.drop (Vm.sz x)∧Bm.cO l=0∧Bm.dO l<+:bs.drop (Vm.sz x+Vm.sz y)):=⟨px,py,hc,hp⟩
   clear hk px py hc hp
   go_wp2_with fail
   refine(sU x y _ l _ kK.is hfit (by omega)).mono ?_
   rintro E w4 ⟨rfl,aL⟩
   obtain⟨px,py,hc,hp⟩:=P.out
   have iE:=aL.size
   have hB4:=(aL.block w.heap.size (by omega)).trans H3.out
   have hC4:=(aL.block w2.heap.size (by omega)).trans HC.out
   have di:=xh.trans (aL.mono (by omega))
   have d0:=ai hC4 0 rfl
   have d1:=ai hC4 1 rfl
   have d2:=ai hC4 2 rfl
   have bq:=kK.below aL
   clear hZ z0 z1 z2 qM a0 a1 a2 f0 f1 f2 c0 c1 c2 hV hV2 aX xh kK H3 HC aL P
   by_cases hck:Cm.chk x y l=0
   ·rw[hck]
    obtain⟨V',hV',fu,dP,⟨a0,a1,a2⟩,⟨f0,f1,f2⟩,⟨z0,z1,z2⟩⟩:=fI hB4 (.int .i64 x) (.int .i64 y) (.slice ah l.length ch)
    have eG:=aF di dP (Nat.le_refl _) (by omega)
    have aij:=(bq.qD dP (by omega)).bz (base':=w.heap.size) (by omega)
    have HR:Hid (Cm.abD bs x y l 0):=hide (.inl ⟨rfl,hck,Cm.alE px py hp HK.out⟩)
    clear px py hc hp fu dP hB4 bq di hck HK hC4
    go_wp2
    refine bodyPost_ret (v:=.tuple #[.agg #[.int .i64 x,.int .i64 y,.slice ah l.length ch],.int .i64 0]) (by simp[results,Tryz.results204,go_sem,z0,z1,z2]) rfl ?_
    exact⟨_,_,_,_,_,rfl,aij,HR.out,eG⟩
   ·have HR:Hid (Cm.abD bs 0 0 [] 5):=hide (.inr ⟨rfl,rfl,rfl,rfl,Cm.agG px py hc hp (.inr hck)⟩)
    have hne:(Cm.chk x y l==0)=false:=by simpa using hck
    obtain⟨V',hV',fu,dP,⟨a0,a1,a2⟩,⟨f0,f1,f2⟩,⟨z0,z1,z2⟩⟩:=fI hB4 (.int .i64 0) (.int .i64 0) (.slice none 0 0)
    have eG:=aF di dP (Nat.le_refl _) (by omega)
    generalize Cm.chk x y l=ck at*
    clear px py hc hp fu dP hB4 bq di hck HK hC4
    go_wp2
    refine bodyPost_ret (v:=.tuple #[.agg #[.int .i64 0,.int .i64 0,.slice none 0 0],.int .i64 5]) (by simp[results,Tryz.results204,go_sem,z0,z1,z2]) rfl ?_
    exact⟨_,_,_,_,_,rfl,bu.nil _ _ _,HR.out,eG⟩
  ·have HR:Hid (Cm.abD bs 0 0 [] 5):=hide (.inr ⟨rfl,rfl,rfl,rfl,Cm.agG px py hc hp (.inl hk)⟩)
   generalize Vm.sz x+Vm.sz y+(Bm.dO l).length=q at*
   have hkk:((q:Int) !=(bs.length:Int))=true:=by simp;omega
   clear hk px py hc hp
   go_wp2
   refine bodyPost_ret (v:=.tuple #[.agg #[.int .i64 0,.int .i64 0,.slice none 0 0],.int .i64 5]) (by simp[results,Tryz.results204,go_sem,z0,z1,z2]) rfl ?_
   exact⟨_,_,_,_,_,rfl,bu.nil _ _ _,HR.out,qM⟩
 ·have HR:Hid (Cm.abD bs 0 0 [] 5):=hide (.inr ⟨rfl,rfl,rfl,rfl,hno⟩)
  clear hno
  simp only[List.length_nil]at hV hV2 c2
  go_wp2
  refine bodyPost_ret (v:=.tuple #[.agg #[.int .i64 0,.int .i64 0,.slice none 0 0],.int .i64 5]) (by simp[results,Tryz.results204,go_sem,z0,z1,z2]) rfl ?_
  exact⟨_,_,_,_,_,rfl,bu.nil _ _ _,HR.out,qM⟩
end Go.Proofs.YtlmkaljjocflmaaGreatDoor
namespace Go.Proofs.YtlmkaljjocflmaaGreatDoor
open Go.RowKit Go.ChangeShapes Go.WideShapes Go.Deep
set_option linter.unusedVariables false
section
variable {H:Type} {enc:TypeId×Value→H} {P:Program} {w:World} {base:Nat} {spare:Nat→Bool} {held:Bool}
end
theorem aur {W : World} (h : laidMetH Tryz.prog [("lagleash/page.most", Rows.laid_lagleash_page_most)] W) : fC W := by
 rw[MakeChecks.laidMetH_plain _ _ _ (by kernel_rfl)]at h
 obtain⟨ps,⟨g,t,cs,fuel,p,q,hg,ht,hv,hd,_,_⟩,_,_⟩:=h
 obtain rfl := Option.some.inj ((show Tryz.prog.globalNamed "lagleash/page.most" = some 0 by kernel_rfl).symm.trans hg)
 obtain rfl:=Option.some.inj ((show(Tryz.prog.globals[0]?).map (·.type)=some 190 by kernel_rfl).symm.trans ht)
 have c3:Tryz.prog.cellsOf 3=1:=by kernel_rfl
 have c49:Tryz.prog.cellsOf 190=6:=by kernel_rfl
 obtain⟨xs,m,_,ex,hlen,hl,hel⟩:=DataW.trod_array Tryz.underlying190 hd
 rw[c49]at hlen
 have hcell:=fun r=>World.var?_cell hg hv r
 obtain⟨l⟩:=cs
 match l,hlen with
 |[a0,a1,a2,a3,a4,a5],_=>
  match xs,hl with
  |[x0,x1,x2,x3,x4,x5],_=>
   have e3:=(DataW.agg.inj (Prod.mk.inj ex).1)
   simp only[List.map_cons,List.map_nil,List.cons.injEq,and_true]at e3
   obtain⟨t0,t1,t2,t3,t4,t5⟩:=e3
   have k0:=hel 0 (by omega);have k1:=hel 1 (by omega);have k2:=hel 2 (by omega);have k3:=hel 3 (by omega);have k4:=hel 4 (by omega);have k5:=hel 5 (by omega)
   rw[c3]at k0 k1 k2 k3 k4 k5
   obtain⟨z0,b0,d0,_⟩:=DataW.trod_int Tryz.underlying3 k0
   obtain⟨z1,b1,d1,_⟩:=DataW.trod_int Tryz.underlying3 k1
   obtain⟨z2,b2,d2,_⟩:=DataW.trod_int Tryz.underlying3 k2
   obtain⟨z3,b3,d3,_⟩:=DataW.trod_int Tryz.underlying3 k3
   obtain⟨z4,b4,d4,_⟩:=DataW.trod_int Tryz.underlying3 k4
   obtain⟨z5,b5,d5,_⟩:=DataW.trod_int Tryz.underlying3 k5
   simp at b0 b1 b2 b3 b4 b5 d0 d1 d2 d3 d4 d5
   subst b0 b1 b2 b3 b4 b5 d0 d1 d2 d3 d4 d5
   simp at t0 t1 t2 t3 t4 t5
   subst t0 t1 t2 t3 t4 t5
   exact⟨hcell 0,hcell 1,hcell 2,hcell 3,hcell 4,hcell 5⟩
end Go.Proofs.YtlmkaljjocflmaaGreatDoor
