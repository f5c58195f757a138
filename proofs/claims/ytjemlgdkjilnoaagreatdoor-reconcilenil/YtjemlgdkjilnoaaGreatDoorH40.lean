/- Texts of one layer, one behind the other. -/
import Derived.Test.YtjemlgdkjilnoaaGreatDoorH11
import Derived.Test.YtjemlgdkjilnoaaGreatDoorH3
import Derived.Deep.RegionHeld3
set_option maxRecDepth 100000
set_option maxHeartbeats 8000000
namespace Go.Proofs.YtjemlgdkjilnoaaGreatDoor
open Go.RowKit
set_option linter.unusedVariables false
theorem ajV {l:List Sw}{k:Nat}{x:Sw}(h:l[k]? =some x):(iO l)[k]? =some x.s:=by unfold iO;rw[List.getElem?_map,h];rfl
theorem aix (va vb:Value)(l m:List Sw)(w:World)(ha:oO w va l)(hb:oO w vb m)(fa:yD l)(fb:yD m)(hl:l.length≤140737488355328)(he:iO l=iO m):
  Calls Tryz.prog 26 #[va,vb] w fun E w'=>E=.returned (.bool true)∧Below w.heap.size w w':=by
 have hlm:m.length=l.length:=by rw[←xZ m,←he,xZ]
 obtain⟨aa,ca,hva,_,_⟩:=ha.shape
 obtain⟨ab,cb,hvb,_,_⟩:=hb.shape
 rw[hlm]at hvb
 have ROW:Hid (∀(k:Nat),k<l.length→∃b1 o1 b2 o2,aa=some ⟨b1,o1,none⟩∧ab=some ⟨b2,o2,none⟩∧∃e f v1 v2,(∀W,Below w.heap.size w W→(W.cell? ⟨b1,o1+k*3,none⟩=some (.int .i64 e)∧W.cell? ⟨b1,o1+k*3+1,none⟩=some (.int .i64 f)∧W.cell? ⟨b1,o1+k*3+2,none⟩=some v1)∧(W.cell? ⟨b2,o2+k*3,none⟩=some (.int .i64 e)∧W.cell? ⟨b2,o2+k*3+1,none⟩=some (.int .i64 f)∧W.cell? ⟨b2,o2+k*3+2,none⟩=some v2))∧
   (∃a n q,v1=.slice a n q)∧(∃a n q,v2=.slice a n q)∧∀W,Below w.heap.size w W→Calls Tryz.prog 56 #[v1,v2] W fun E w'=>E=.returned (.bool true)∧Below W.heap.size W w'):=hide fun k hk=>by
  obtain⟨b1,o1,c1,h1,_,_,hb1,cell1⟩:=ha.full (by omega)
  obtain⟨b2,o2,c2,h2,_,_,hb2,ad6⟩:=hb.full (by omega)
  rw[hva]at h1
  rw[hvb,hlm]at h2
  simp only[Value.slice.injEq,true_and]at h1 h2
  obtain⟨x,hx⟩:∃x,l[k]? =some x:=⟨l[k],List.getElem?_eq_getElem hk⟩
  obtain⟨y,hy⟩:∃y,m[k]? =some y:=⟨m[k]'(by omega),List.getElem?_eq_getElem _⟩
  have hs:x.s=y.s:=by
   have q1:=ajV hx
   have q2:=ajV hy
   rw[he,q2]at q1
   exact(Option.some.inj q1).symm
  obtain⟨d0,d1,d2⟩:=cell1 k x hx
  obtain⟨e0,e1,e2⟩:=ad6 k y hy
  simp only[Sw.s,Orp.Se.mk.injEq]at hs
  obtain⟨s1,s2,s3⟩:=hs
  rw[←s1]at e0
  rw[←s2]at e1
  have mx:=List.mem_of_getElem? hx
  have my:=List.mem_of_getElem? hy
  have ix:=(ha.2 x mx).1
  have iy:=(hb.2 y my).1
  refine⟨b1,o1,b2,o2,h1.1,h2.1,x.e,x.f,x.v,y.v,fun W hW=>⟨⟨(hW.cell (p:=⟨b1,o1+k*3,none⟩) hb1).trans d0,(hW.cell (p:=⟨b1,o1+k*3+1,none⟩) hb1).trans d1,(hW.cell (p:=⟨b1,o1+k*3+2,none⟩) hb1).trans d2⟩,(hW.cell (p:=⟨b2,o2+k*3,none⟩) hb2).trans e0,(hW.cell (p:=⟨b2,o2+k*3+1,none⟩) hb2).trans e1,(hW.cell (p:=⟨b2,o2+k*3+2,none⟩) hb2).trans e2⟩,?_,?_,fun W hW=>?_⟩
  ·obtain⟨a,q,h,_,_⟩:=ix.1.shape;exact⟨a,_,q,h⟩
  ·obtain⟨a,q,h,_,_⟩:=iy.1.shape;exact⟨a,_,q,h⟩
  ·have:=ahL x.v y.v x.rs y.rs W (ix.below hW) (iy.below hW) (fa x mx).1 (fb y my).1 (by have:=(fa x mx).2;omega) (by have:=(fb y my).2;omega)
   rw[s3,aaG]at this
   exact this
 subst hva hvb
 generalize l.length=n at*
 clear ha hb fa fb he hlm
 go_enter Tryz.func26,Tryz.ntmps26
 go_wp2
 go_loopw [5] (fun iv wr=>∃k:Nat,k≤n∧iv=.int .i64 k∧Below w.heap.size w wr) (fun iv _=>n-(intOf iv).toNat)
 case atStart=>exact⟨0,by omega,rfl,Below.refl _ _⟩
 case round=>
  obtain⟨k,hk,rfl,aG⟩:=hrel
  by_cases hlt:k<n
  ·obtain⟨b1,o1,b2,o2,rfl,rfl,e,f,v1,v2,CE,⟨p1,p2,p3,rfl⟩,⟨r1,r2,r3,rfl⟩,SC⟩:=ROW.out k hlt
   have hlt':(k:Int)<n:=by omega
   have hk0:(0:Int)≤(k:Int):=by omega
   have HCE:=hide CE
   have HSC:=hide SC
   obtain⟨⟨d0,d1,d2⟩,⟨e0,e1,e2⟩⟩:=CE wr aG
   have b20:=aG.drew
   have BEL:=hide aG
   clear CE SC
   go_wp2_with fail
   go_region_held3 (fun W=>(W.cell? ⟨b1,o1+k*3,none⟩=some (.int .i64 e)∧W.cell? ⟨b1,o1+k*3+1,none⟩=some (.int .i64 f)∧W.cell? ⟨b1,o1+k*3+2,none⟩=some (.slice p1 p2 p3))∧(W.cell? ⟨b2,o2+k*3,none⟩=some (.int .i64 e)∧W.cell? ⟨b2,o2+k*3+1,none⟩=some (.int .i64 f)∧W.cell? ⟨b2,o2+k*3+2,none⟩=some (.slice r1 r2 r3))) (first|exact⟨⟨d0,d1,d2⟩,⟨e0,e1,e2⟩⟩|exact HCE.out _ b5|go_keep)
    (first|(go_at_call 56;refine(HSC.out _ b20).mono ?_;rintro E w5 ⟨rfl,bn⟩;have b5:Below w.heap.size w w5:=b20.trans (bn.mono b20.size)))
   all_goals
    clear HSC
    go_wp2
    go_roundw
    case rel=>exact⟨k+1,by omega,by go_num,b5⟩
    case measure=>simp[intOf];omega
  ·have hlt':¬(k:Int)<n:=by omega
   go_wp2
   go_ret
   exact⟨rfl,aG⟩
end Go.Proofs.YtjemlgdkjilnoaaGreatDoor
