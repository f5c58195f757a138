/- Texts of one layer, one behind the other. -/
import Derived.Test.YtjemlgdkjilnoaaGreatDoorH24
import Derived.Test.YtjemlgdkjilnoaaGreatDoorH3
import Derived.Test.YtjemlgdkjilnoaaGreatDoorH4
import Derived.Test.YtjemlgdkjilnoaaGreatDoorRows
import Derived.MakeChecks
set_option maxRecDepth 100000
set_option maxHeartbeats 8000000
namespace Go.Proofs.YtjemlgdkjilnoaaGreatDoor
open Go.RowKit Go.ChangeShapes Go.WideShapes Go.Deep
set_option linter.unusedVariables false
section
variable {H:Type} {enc:TypeId×Value→H} {P:Program} {w:World} {base:Nat} {spare:Nat→Bool} {held:Bool}
theorem trod_struct2 {t:TypeId}{f0 f1:Field}{fuel:Nat}{cs:List Value}{x:DataW H×List MemPlace}(ht:P.underlying t=some (.struct #[f0,f1]))(h:DataW.trod enc P w base spare held fuel t cs=some x):
  ∃y0 y1 n,DataW.trod enc P w base spare held n f0.type ((cs.drop f0.offset).take (P.cellsOf f0.type))=some y0∧DataW.trod enc P w base spare held n f1.type ((cs.drop f1.offset).take (P.cellsOf f1.type))=some y1:=by
 obtain⟨xs,n,_,rfl,hl,hlen,hf⟩:=DataW.trod_struct ht h
 match xs,hlen with
 |[y0,y1],_=>exact⟨y0,y1,n,by simpa using hf 0 f0 rfl,by simpa using hf 1 f1 rfl⟩
theorem aoV {t e:TypeId}{f0 f1:Field}{fuel:Nat}{v:Value}{x:DataW H×List MemPlace}(ht:P.underlying t=some (.slice e))(he:P.underlying e=some (.struct #[f0,f1]))
  (hone:oneCellFields P #[f0,f1]=true) (ce:P.cellsOf e=2) (u0:P.underlying f0.type=some (.int .i64)) (u1:P.underlying f1.type=some (.int .i64))
  (h:DataW.trod enc P w base spare held fuel t [v]=some x):∃r:List Sm.S,jJ w v r∧((x.1=.nil∧r=[])∨∃ds sp,x.1=.slice ds sp∧ds.length=r.length):=by
 rcases open_slice ht h with⟨hv,hx⟩|⟨a,len,cap,m,n,D,Pl,hv,hb,hl,hm,hmm,rfl,hx⟩
 ·simp at hv
  subst hv hx
  exact⟨[],ig.nil _ _,.inl ⟨rfl,rfl⟩⟩
 ·simp at hv
  subst hv
  have hlm:len≤m:=by rw[hmm];split<;>omega
  obtain⟨o0,c0⟩:=hone_of hone 0 f0 rfl
  obtain⟨o1,c1⟩:=hone_of hone 1 f1 rfl
  have each:∀i,i<len→∃c:Sm.S,∀m u,(zx c)[m]? =some u→w.cell? (a.add (i*2+m))=some u:=by
   intro i hi
   obtain⟨cs',h1,h2⟩:=hx i (by omega)
   rw[ce]at h1
   obtain⟨_,hlen,hcell⟩:=World.cells?_some h1
   obtain⟨y0,y1,k,q0,q1⟩:=trod_struct2 he h2
   match cs',hlen with
   |[v0,v1],_=>
    simp[o0,o1,c0,c1]at q0 q1
    obtain⟨p0,h0,rfl,w0⟩:=DataW.trod_int u0 q0
    obtain⟨p1,h1',rfl,w1⟩:=DataW.trod_int u1 q1
    simp at h0 h1'
    subst h0 h1'
    refine⟨(p0,p1),fun m u hu=>?_⟩
    have hm3:m<2:=(List.getElem?_eq_some_iff.1 hu).1
    have hc:=hcell m (by omega)
    rw[Go.Deep.add_add]at hc
    rw[hc]
    rcases(show m=0∨m=1 by omega)with rfl|rfl<;>simpa[zx]using hu
  have:Inhabited Sm.S:=⟨(0,0)⟩
  obtain⟨f,hf⟩:=choose_lt each
  refine⟨(List.range len).map f,.inr ⟨a,cap,by simp,by simpa using hl,hm,fun j u hj=>?_⟩,.inr ⟨(List.range len).map D,(List.range (m-len)).map fun j=>D (len+j),rfl,by simp⟩⟩
  obtain⟨i,c,m',hic,rfl,hu⟩:=aa1 yK (by decide) _ j u hj
  obtain⟨hi,e⟩:=List.getElem?_eq_some_iff.1 hic
  simp at hi e
  subst e
  exact hf i hi m' u hu
end
end Go.Proofs.YtjemlgdkjilnoaaGreatDoor
namespace Go.Proofs.YtjemlgdkjilnoaaGreatDoor
open Go.RowKit
set_option linter.unusedVariables false
def kO:Bm.Ov:=⟨true,⟨#[107]⟩,⟨#[]⟩⟩
def lg (ep:Int) (n:Nat):List Bool→List Cm.Cv
 |[]=>[]
 |b::r=>⟨if b then ep+2 else ep,(n:Int)+1,[kO]⟩::lg (if b then ep+2 else ep) (n+1) r
theorem qB (x y:Pm.Pg)(w:World):
  Calls Tryz.prog 14 #[vp x,vp y] w fun E w'=>E=.returned (.bool (same x y))∧Below w.heap.size w w':=by
 unfold vp
 obtain⟨w1,hw1,aW,aj,hB⟩:=ak w #[.int .i64 x.e,.int .u8 x.r,.int .i64 x.a,.int .u8 x.p,.int .i64 x.f,.int .i64 x.b] 35
 obtain⟨w2,hw2,di,au,hC⟩:=ak w1 #[.int .i64 y.e,.int .u8 y.r,.int .i64 y.a,.int .u8 y.p,.int .i64 y.f,.int .i64 y.b] 35
 have hB2:=(au.block _ (ax hB)).trans hB
 rw[aW]at hC
 obtain⟨c0,c1,c2,c3,c4,c5⟩:=aN hB2
 obtain⟨d0,d1,d2,d3,d4,d5⟩:=aN hC
 have aG:=aj.trans (au.mono (by omega))
 obtain⟨q,hq⟩:∃q,same x y=q:=⟨_,rfl⟩
 rw[hq]
 unfold same at hq
 clear hB hB2 hC aj au
 go_enter Tryz.func14,Tryz.ntmps14
 cases k0:(x.e==y.e)
 ·simp[k0]at hq
  subst hq
  go_wp2
  go_ret
  exact⟨rfl,aG⟩
 rw[k0]at hq
 cases k1:(x.r==y.r)
 ·simp[k1]at hq
  subst hq
  go_wp2
  go_ret
  exact⟨rfl,aG⟩
 rw[k1]at hq
 cases k2:(x.a==y.a)
 ·simp[k2]at hq
  subst hq
  go_wp2
  go_ret
  exact⟨rfl,aG⟩
 rw[k2]at hq
 cases k3:(x.p==y.p)
 ·simp[k3]at hq
  subst hq
  go_wp2
  go_ret
  exact⟨rfl,aG⟩
 rw[k3]at hq
 cases k4:(x.f==y.f)
 ·simp[k4]at hq
  subst hq
  go_wp2
  go_ret
  exact⟨rfl,aG⟩
 rw[k4]at hq
 cases k5:(x.b==y.b)
 ·simp[k5]at hq
  subst hq
  go_wp2
  go_ret
  exact⟨rfl,aG⟩
 rw[k5]at hq
 simp at hq
 subst hq
 go_wp2
 go_ret
 exact⟨rfl,aG⟩
end Go.Proofs.YtjemlgdkjilnoaaGreatDoor
namespace Go.Proofs.YtjemlgdkjilnoaaGreatDoor
open Go.RowKit Go.ChangeShapes Go.WideShapes Go.Deep
set_option linter.unusedVariables false
section
variable {H:Type} {enc:TypeId×Value→H} {P:Program} {w:World} {base:Nat} {spare:Nat→Bool} {held:Bool}
end
theorem akO {W : World} (h : laidMetH Tryz.prog [("lagleash/page.most", Rows.laid_lagleash_page_most)] W) : fQ W := by
 rw[MakeChecks.laidMetH_plain _ _ _ (by kernel_rfl)]at h
 obtain⟨ps,⟨g,t,cs,fuel,p,q,hg,ht,hv,hd,_,_⟩,_,_⟩:=h
 obtain rfl := Option.some.inj ((show Tryz.prog.globalNamed "lagleash/page.most" = some 0 by kernel_rfl).symm.trans hg)
 obtain rfl:=Option.some.inj ((show(Tryz.prog.globals[0]?).map (·.type)=some 149 by kernel_rfl).symm.trans ht)
 have c3:Tryz.prog.cellsOf 3=1:=by kernel_rfl
 have c49:Tryz.prog.cellsOf 149=6:=by kernel_rfl
 obtain⟨xs,m,_,ex,hlen,hl,hel⟩:=DataW.trod_array Tryz.underlying149 hd
 rw[c49]at hlen
 have hcell:=fun r=>World.var?_cell hg hv r
 obtain⟨l⟩:=cs
 match l,hlen with
 |[a0,a1,a2,a3,a4,a5],_=>
  match xs,hl with
  |[x0,x1,x2,x3,x4,x5],_=>
   have e3:=(DataW.agg.inj (Prod.mk.inj ex).1)
   simp only[List.map_cons,List.map_nil,List.cons.injEq,and_true]at e3
   obtain⟨t0,t1,t2,t3,t4,t5⟩:=e3
   have k0:=hel 0 (by omega);have k1:=hel 1 (by omega);have k2:=hel 2 (by omega);have k3:=hel 3 (by omega);have k4:=hel 4 (by omega);have k5:=hel 5 (by omega)
   rw[c3]at k0 k1 k2 k3 k4 k5
   obtain⟨z0,b0,d0,_⟩:=DataW.trod_int Tryz.underlying3 k0
   obtain⟨z1,b1,d1,_⟩:=DataW.trod_int Tryz.underlying3 k1
   obtain⟨z2,b2,d2,_⟩:=DataW.trod_int Tryz.underlying3 k2
   obtain⟨z3,b3,d3,_⟩:=DataW.trod_int Tryz.underlying3 k3
   obtain⟨z4,b4,d4,_⟩:=DataW.trod_int Tryz.underlying3 k4
   obtain⟨z5,b5,d5,_⟩:=DataW.trod_int Tryz.underlying3 k5
   simp at b0 b1 b2 b3 b4 b5 d0 d1 d2 d3 d4 d5
   subst b0 b1 b2 b3 b4 b5 d0 d1 d2 d3 d4 d5
   simp at t0 t1 t2 t3 t4 t5
   subst t0 t1 t2 t3 t4 t5
   exact⟨hcell 0,hcell 1,hcell 2,hcell 3,hcell 4,hcell 5⟩
end Go.Proofs.YtjemlgdkjilnoaaGreatDoor
