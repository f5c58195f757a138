/- Texts of one layer, one behind the other. -/
import Derived.Test.YtpifdeoepppadaaGreatDoorG8
import Derived.Test.YtpifdeoepppadaaGreatDoorProg
import Derived.Test.YtpifdeoepppadaaGreatDoorG6
import Derived.SizedLaws
import Derived.Lib.SmallJoins
import Derived.Deep.Slices
import Derived.Test.YtpifdeoepppadaaGreatDoorH10
import Derived.Test.YtpifdeoepppadaaGreatDoorRows
import Derived.MakeChecks
set_option maxRecDepth 100000
set_option maxHeartbeats 8000000
namespace Go.Proofs.YtpifdeoepppadaaGreatDoor
open Go.RowKit
set_option linter.unusedVariables false
theorem mM (x y:Pm.Pg)(w:World):
  Calls Tryz.prog 22 #[vp x,vp y] w fun E w'=>E=.returned (.bool (same x y))∧Below w.heap.size w w':=by
 unfold vp
 obtain⟨w1,hw1,bH,ax,hB⟩:=ay w #[.int .i64 x.e,.int .u8 x.r,.int .i64 x.a,.int .u8 x.p,.int .i64 x.f,.int .i64 x.b] 41
 obtain⟨w2,hw2,fA,aB,hC⟩:=ay w1 #[.int .i64 y.e,.int .u8 y.r,.int .i64 y.a,.int .u8 y.p,.int .i64 y.f,.int .i64 y.b] 41
 have hB2:=(aB.block _ (aA hB)).trans hB
 rw[bH]at hC
 obtain⟨c0,c1,c2,c3,c4,c5⟩:=bO hB2
 obtain⟨d0,d1,d2,d3,d4,d5⟩:=bO hC
 have aF:=ax.trans (aB.mono (by omega))
 obtain⟨q,hq⟩:∃q,same x y=q:=⟨_,rfl⟩
 rw[hq]
 unfold same at hq
 clear hB hB2 hC ax aB
 go_enter Tryz.func22,Tryz.ntmps22
 cases k0:(x.e==y.e)
 ·simp[k0]at hq
  subst hq
  go_wp2
  go_ret
  exact⟨rfl,aF⟩
 rw[k0]at hq
 cases k1:(x.r==y.r)
 ·simp[k1]at hq
  subst hq
  go_wp2
  go_ret
  exact⟨rfl,aF⟩
 rw[k1]at hq
 cases k2:(x.a==y.a)
 ·simp[k2]at hq
  subst hq
  go_wp2
  go_ret
  exact⟨rfl,aF⟩
 rw[k2]at hq
 cases k3:(x.p==y.p)
 ·simp[k3]at hq
  subst hq
  go_wp2
  go_ret
  exact⟨rfl,aF⟩
 rw[k3]at hq
 cases k4:(x.f==y.f)
 ·simp[k4]at hq
  subst hq
  go_wp2
  go_ret
  exact⟨rfl,aF⟩
 rw[k4]at hq
 cases k5:(x.b==y.b)
 ·simp[k5]at hq
  subst hq
  go_wp2
  go_ret
  exact⟨rfl,aF⟩
 rw[k5]at hq
 simp at hq
 subst hq
 go_wp2
 go_ret
 exact⟨rfl,aF⟩
theorem aBr (x n:Int)(w:World)(hn:0<n)(hn2:n<9223372036854775808)(hx:-9223372036854775808≤x)(hx2:x<9223372036854775808):
  Calls Tryz.prog 26 #[.int .i64 x,.int .i64 n] w fun e w'=>(∃p:Nat,(p:Int)<n∧e=.returned (.int .i64 p))∧w=w':=by
 have hnz:(n==0)=false:=by simp;omega
 have ht1:x.tmod n<n:=Int.tmod_lt_of_pos x hn
 have ht2:-n<x.tmod n:=Int.lt_tmod_of_pos x hn
 by_cases h:x.tmod n<0
 ·go_enter Tryz.func26,Tryz.ntmps26
  go_wp2
  go_ret
  exact⟨⟨(x.tmod n+n).toNat,by omega,iT (by omega)⟩,rfl⟩
 ·go_enter Tryz.func26,Tryz.ntmps26
  go_wp2
  go_ret
  exact⟨⟨(x.tmod n).toNat,by omega,iT (by omega)⟩,rfl⟩
def I64 (z:Int):Prop:=-9223372036854775808≤z∧z≤9223372036854775807
def pk (x n:Int):Int:=if x.tmod n<0 then x.tmod n+n else x.tmod n
theorem akA (x n:Int)(hn:0<n):0≤pk x n∧pk x n<n:=by
 have ht1:x.tmod n<n:=Int.tmod_lt_of_pos x hn
 have ht2:-n<x.tmod n:=Int.lt_tmod_of_pos x hn
 unfold pk
 split<;>omega
theorem tY (x n:Int)(w:World)(hn:0<n)(hn2:n<9223372036854775808)(hx:I64 x):
  Calls Tryz.prog 26 #[.int .i64 x,.int .i64 n] w fun e w'=>e=.returned (.int .i64 (pk x n))∧w=w':=by
 have hnz:(n==0)=false:=by simp;omega
 obtain⟨hx1,hx2⟩:=hx
 have ht1:x.tmod n<n:=Int.tmod_lt_of_pos x hn
 have ht2:-n<x.tmod n:=Int.lt_tmod_of_pos x hn
 by_cases h:x.tmod n<0
 ·have e:pk x n=x.tmod n+n:=by simp[pk,h]
  rw[e]
  clear e
  go_enter Tryz.func26,Tryz.ntmps26
  go_wp2
  go_ret
  exact⟨iT (by omega),rfl⟩
 ·have e:pk x n=x.tmod n:=by simp[pk,h]
  rw[e]
  clear e
  go_enter Tryz.func26,Tryz.ntmps26
  go_wp2
  go_ret
  exact⟨iT (by omega),rfl⟩
end Go.Proofs.YtpifdeoepppadaaGreatDoor
namespace Go.Proofs.YtpifdeoepppadaaGreatDoor
open Go.RowKit Go.ChangeShapes Go.WideShapes Go.Deep
set_option linter.unusedVariables false
theorem acj {z:Int}(h:(Lit.int .i64 z).wf=true):I64 z:=by
 have:=range_i64 (zs:=[z]) (by simpa using h) 0
 simp at this
 exact⟨by omega,by omega⟩
section
variable {H:Type} {enc:TypeId×Value→H} {P:Program} {w:World} {base:Nat} {spare:Nat→Bool} {held:Bool}
theorem qo {α:Type}{f:α→List Value}{k:Nat}(hk:∀a,(f a).length=k)(h0:0<k):∀(l:List α) (j:Nat) (u:Value),(gcells f l)[j]? =some u→∃i a m,l[i]? =some a∧j=i*k+m∧(f a)[m]? =some u
 |[],j,u,h=>by simp[gcells]at h
 |a::r,j,u,h=>by
  rw[gcells]at h
  by_cases hj:j<k
  ·rw[List.getElem?_append_left (by rw[hk];exact hj)]at h
   exact⟨0,a,j,rfl,by omega,h⟩
  ·rw[List.getElem?_append_right (by rw[hk];omega),hk]at h
   obtain⟨i,b,m,h1,h2,h3⟩:=qo hk h0 r (j-k) u h
   exact⟨i+1,b,m,by simpa using h1,by rw[Nat.add_mul];omega,h3⟩
end
end Go.Proofs.YtpifdeoepppadaaGreatDoor
namespace Go.Proofs.YtpifdeoepppadaaGreatDoor
open Go.RowKit Go.ChangeShapes Go.WideShapes Go.Deep
set_option linter.unusedVariables false
theorem atb {z:Int}(h:(Lit.int .u8 z).wf=true):0≤z∧z<256:=by
 have:=range_u8 (zs:=[z]) (by simpa using h) 0
 simp at this
 omega
theorem avH {a b c d e f:Int}(h0:(Lit.int .i64 a).wf=true)(h1:(Lit.int .u8 b).wf=true)(h2:(Lit.int .i64 c).wf=true)(h3:(Lit.int .u8 d).wf=true)(h4:(Lit.int .i64 e).wf=true)(h5:(Lit.int .i64 f).wf=true):dW ⟨a,b,c,d,e,f⟩:=by
 have g0:=acj h0;have g1:=atb h1;have g2:=acj h2;have g3:=atb h3;have g4:=acj h4;have g5:=acj h5
 unfold I64 at g0 g2 g4 g5
 unfold dW
 simp
 omega
section
variable {H:Type} {enc:TypeId×Value→H} {P:Program} {w:World} {base:Nat} {spare:Nat→Bool} {held:Bool}
theorem agH {t:TypeId}{f0 f1 f2 f3 f4 f5:Field}{fuel:Nat}{cs:List Value}{x:DataW H×List MemPlace}(ht:P.underlying t=some (.struct #[f0,f1,f2,f3,f4,f5]))(h:DataW.trod enc P w base spare held fuel t cs=some x):
  ∃y0 y1 y2 y3 y4 y5 n,DataW.trod enc P w base spare held n f0.type ((cs.drop f0.offset).take (P.cellsOf f0.type))=some y0∧
   DataW.trod enc P w base spare held n f1.type ((cs.drop f1.offset).take (P.cellsOf f1.type))=some y1∧DataW.trod enc P w base spare held n f2.type ((cs.drop f2.offset).take (P.cellsOf f2.type))=some y2∧
   DataW.trod enc P w base spare held n f3.type ((cs.drop f3.offset).take (P.cellsOf f3.type))=some y3∧DataW.trod enc P w base spare held n f4.type ((cs.drop f4.offset).take (P.cellsOf f4.type))=some y4∧
   DataW.trod enc P w base spare held n f5.type ((cs.drop f5.offset).take (P.cellsOf f5.type))=some y5:=by
 obtain⟨xs,n,_,rfl,hl,hlen,hf⟩:=DataW.trod_struct ht h
 match xs,hlen with
 |[y0,y1,y2,y3,y4,y5],_=>exact⟨y0,y1,y2,y3,y4,y5,n,by simpa using hf 0 f0 rfl,by simpa using hf 1 f1 rfl,by simpa using hf 2 f2 rfl,by simpa using hf 3 f3 rfl,by simpa using hf 4 f4 rfl,by simpa using hf 5 f5 rfl⟩
end
theorem acf {W : World} (h : laidMetH Tryz.prog [("lagleash/page.most", Rows.laid_lagleash_page_most)] W) : ib W := by
 rw[MakeChecks.laidMetH_plain _ _ _ (by kernel_rfl)]at h
 obtain⟨ps,⟨g,t,cs,fuel,p,q,hg,ht,hv,hd,_,_⟩,_,_⟩:=h
 obtain rfl := Option.some.inj ((show Tryz.prog.globalNamed "lagleash/page.most" = some 0 by kernel_rfl).symm.trans hg)
 obtain rfl:=Option.some.inj ((show(Tryz.prog.globals[0]?).map (·.type)=some 168 by kernel_rfl).symm.trans ht)
 have c3:Tryz.prog.cellsOf 3=1:=by kernel_rfl
 have c49:Tryz.prog.cellsOf 168=6:=by kernel_rfl
 obtain⟨xs,m,_,ex,hlen,hl,hel⟩:=DataW.trod_array Tryz.underlying168 hd
 rw[c49]at hlen
 have hcell:=fun r=>World.var?_cell hg hv r
 obtain⟨l⟩:=cs
 match l,hlen with
 |[a0,a1,a2,a3,a4,a5],_=>
  match xs,hl with
  |[x0,x1,x2,x3,x4,x5],_=>
   have e3:=(DataW.agg.inj (Prod.mk.inj ex).1)
   simp only[List.map_cons,List.map_nil,List.cons.injEq,and_true]at e3
   obtain⟨t0,t1,t2,t3,t4,t5⟩:=e3
   have k0:=hel 0 (by omega);have k1:=hel 1 (by omega);have k2:=hel 2 (by omega);have k3:=hel 3 (by omega);have k4:=hel 4 (by omega);have k5:=hel 5 (by omega)
   rw[c3]at k0 k1 k2 k3 k4 k5
   obtain⟨z0,b0,d0,_⟩:=DataW.trod_int Tryz.underlying3 k0
   obtain⟨z1,b1,d1,_⟩:=DataW.trod_int Tryz.underlying3 k1
   obtain⟨z2,b2,d2,_⟩:=DataW.trod_int Tryz.underlying3 k2
   obtain⟨z3,b3,d3,_⟩:=DataW.trod_int Tryz.underlying3 k3
   obtain⟨z4,b4,d4,_⟩:=DataW.trod_int Tryz.underlying3 k4
   obtain⟨z5,b5,d5,_⟩:=DataW.trod_int Tryz.underlying3 k5
   simp at b0 b1 b2 b3 b4 b5 d0 d1 d2 d3 d4 d5
   subst b0 b1 b2 b3 b4 b5 d0 d1 d2 d3 d4 d5
   simp at t0 t1 t2 t3 t4 t5
   subst t0 t1 t2 t3 t4 t5
   exact⟨hcell 0,hcell 1,hcell 2,hcell 3,hcell 4,hcell 5⟩
end Go.Proofs.YtpifdeoepppadaaGreatDoor
