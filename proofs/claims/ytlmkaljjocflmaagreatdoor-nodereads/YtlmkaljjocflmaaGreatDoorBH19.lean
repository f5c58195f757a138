/- Texts. -/
import Derived.Test.YtlmkaljjocflmaaGreatDoorBH2
import Derived.Test.YtlmkaljjocflmaaGreatDoorBH13
import Derived.WalkMore
import Derived.Test.YtlmkaljjocflmaaGreatDoorBH25
import Derived.Test.YtlmkaljjocflmaaGreatDoorBH20
import Derived.Test.YtlmkaljjocflmaaGreatDoorRows
import Derived.MakeChecks
set_option maxRecDepth 100000
set_option maxHeartbeats 8000000
set_option linter.unusedVariables false
open Go.Proofs.Tryz
namespace Go.Proofs.YtlmkaljjocflmaaGreatDoor
open Go.RowKit
def fU (w:World):Prop:=Six w 0 (.int .i64 1048576) (.int .i64 3) (.int .i64 1048576) (.int .i64 4) (.int .i64 1048576) (.int .i64 1073741824)
theorem fU.pos {w:World}(h:fU w):0<w.heap.size:=by
 have:=h.c0
 rcases Nat.lt_or_ge 0 w.heap.size with h'|h'
 ·exact h'
 ·have:w.heap[0]? =none:=Array.getElem?_eq_none (by omega)
  have h0:=h.c0
  simp[World.cell?,this]at h0
theorem fU.below {w w':World}(h:fU w)(b:Bq w w'):fU w':=by
 have hp:=h.pos
 have e:∀j,w'.cell? ⟨0,j,none⟩=w.cell? ⟨0,j,none⟩:=fun j=>b.cell (p:=⟨0,j,none⟩) hp
 exact⟨(e 0).trans h.c0,(e 1).trans h.c1,(e 2).trans h.c2,(e 3).trans h.c3,(e 4).trans h.c4,(e 5).trans h.c5⟩
def gQ:List Int:=[1048576,3,1048576,4,1048576,1073741824]
def Up (x:Pm.Pg) (k:Nat):Prop:=∀i,i<k→0≤(Pm.nums x).getD i 0∧(Pm.nums x).getD i 0≤gQ.getD i 0
theorem Up.next {x:Pm.Pg}{k:Nat}(h:Up x k)(h0:0≤(Pm.nums x).getD k 0)(h1:(Pm.nums x).getD k 0≤gQ.getD k 0):Up x (k+1):=by
 intro i hi
 by_cases e:i=k
 ·subst e;exact⟨h0,h1⟩
 ·exact h i (by omega)
def upx (x:Pm.Pg):Bool:=decide (0≤x.e∧x.e≤1048576∧0≤x.r∧x.r≤3∧0≤x.a∧x.a≤1048576∧0≤x.p∧x.p≤4∧0≤x.f∧x.f≤1048576∧0≤x.b∧x.b≤1073741824)
theorem acj {x:Pm.Pg}:upx x=true↔Up x 6:=by
 unfold upx
 rw[decide_eq_true_iff]
 refine⟨fun h i hi=>?_,fun h=>?_⟩
 ·obtain rfl|rfl|rfl|rfl|rfl|rfl:i=0∨i=1∨i=2∨i=3∨i=4∨i=5:=by omega
  all_goals simp[Pm.nums,gQ];omega
 ·have h0:=h 0 (by omega);have h1:=h 1 (by omega);have h2:=h 2 (by omega);have h3:=h 3 (by omega);have h4:=h 4 (by omega);have h5:=h 5 (by omega)
  simp[Pm.nums,gQ]at h0 h1 h2 h3 h4 h5
  omega
theorem jl {x:Pm.Pg}(h:¬Up x 6):upx x=false:=by
 cases hu:upx x with
 |false=>rfl
 |true=>exact absurd (acj.1 hu) h
theorem je {x:Pm.Pg}(h:Up x 6):0≤x.e∧x.e≤1048576∧0≤x.r∧x.r≤3∧0≤x.a∧x.a≤1048576∧0≤x.p∧x.p≤4∧0≤x.f∧x.f≤1048576∧0≤x.b∧x.b≤1073741824:=by
 have h0:=h 0 (by omega);have h1:=h 1 (by omega);have h2:=h 2 (by omega);have h3:=h 3 (by omega);have h4:=h 4 (by omega);have h5:=h 5 (by omega)
 simp[Pm.nums,gQ]at h0 h1 h2 h3 h4 h5
 omega
theorem gK {a b:Bool}(h:b=a):Ending.returned (.bool a)=.returned (.bool b):=by rw[h]
theorem Tryz.axT (a b c d e f:Int)(w:World):(Instr.index 190 (.agg #[.int .i64 a,.int .i64 b,.int .i64 c,.int .i64 d,.int .i64 e,.int .i64 f]) (.int .i64 0)).run prog w=.ok (.int .i64 a) w:=by kernel_rfl
theorem Tryz.axW (a b c d e f:Int)(w:World):(Instr.index 190 (.agg #[.int .i64 a,.int .i64 b,.int .i64 c,.int .i64 d,.int .i64 e,.int .i64 f]) (.int .i64 1)).run prog w=.ok (.int .i64 b) w:=by kernel_rfl
theorem Tryz.axu (a b c d e f:Int)(w:World):(Instr.index 190 (.agg #[.int .i64 a,.int .i64 b,.int .i64 c,.int .i64 d,.int .i64 e,.int .i64 f]) (.int .i64 2)).run prog w=.ok (.int .i64 c) w:=by kernel_rfl
theorem Tryz.axi (a b c d e f:Int)(w:World):(Instr.index 190 (.agg #[.int .i64 a,.int .i64 b,.int .i64 c,.int .i64 d,.int .i64 e,.int .i64 f]) (.int .i64 3)).run prog w=.ok (.int .i64 d) w:=by kernel_rfl
theorem Tryz.avf (a b c d e f:Int)(w:World):(Instr.index 190 (.agg #[.int .i64 a,.int .i64 b,.int .i64 c,.int .i64 d,.int .i64 e,.int .i64 f]) (.int .i64 4)).run prog w=.ok (.int .i64 e) w:=by kernel_rfl
theorem Tryz.avN (a b c d e f:Int)(w:World):(Instr.index 190 (.agg #[.int .i64 a,.int .i64 b,.int .i64 c,.int .i64 d,.int .i64 e,.int .i64 f]) (.int .i64 5)).run prog w=.ok (.int .i64 f) w:=by kernel_rfl
theorem agv (x:Pm.Pg)(w:World)(hx:ig x)(hm:fU w):
  Calls prog 135 #[vn x] w fun E w'=>E=.returned (.bool (upx x))∧Bq w w':=by
 unfold vn
 obtain⟨g1,g2,g3,g4,g5,g6,g7,g8,g9,g10,g11,g12⟩:=hx
 obtain⟨w1,hw1,aV,aj,hB⟩:=au w #[.int .i64 x.e,.int .i64 x.r,.int .i64 x.a,.int .i64 x.p,.int .i64 x.f,.int .i64 x.b] 190
 obtain⟨c0,c1,c2,c3,c4,c5⟩:=aR hB
 obtain⟨m0,m1,m2,m3,m4,m5⟩:=hm.below aj
 obtain⟨r,hr⟩:∃r,upx x=r:=⟨_,rfl⟩
 rw[hr]
 have HR:=hide hr
 clear hB hr hm
 go_enter func135,ntmps135
 go_wp2
 go_loop [6] (fun kk=>∃k:Nat,k≤6∧kk=.int .i64 k∧Hid (Up x k)) (fun kk=>7-(intOf kk).toNat)
 case atStart=>exact⟨0,by omega,rfl,fun i hi=>by omega⟩
 case round=>
  obtain⟨k,hk,rfl,hu⟩:=hrel
  rcases(show k=0∨k=1∨k=2∨k=3∨k=4∨k=5∨k=6 by omega)with rfl|rfl|rfl|rfl|rfl|rfl|rfl
  ·have hix:=Tryz.axT x.e x.r x.a x.p x.f x.b
   by_cases hlo:x.e<0
   ·have hbad:¬Up x 6:=fun h=>by have:=(je h);omega
    go_wp2
    go_ret
    exact⟨gK (by rw[←HR.out];exact jl hbad),aj⟩
   ·by_cases hhi:1048576<x.e
    ·have hbad:¬Up x 6:=fun h=>by have:=(je h);omega
     go_wp2
     go_ret
     exact⟨gK (by rw[←HR.out];exact jl hbad),aj⟩
    ·have hn:Hid (Up x 1):=hu.out.next (by simp[Pm.nums];omega) (by simp[Pm.nums,gQ];omega)
     go_wp2
     go_round
     case rel=>exact⟨1,by omega,rfl,hn⟩
     case measure=>simp[intOf]
  ·have hix:=Tryz.axW x.e x.r x.a x.p x.f x.b
   by_cases hlo:x.r<0
   ·have hbad:¬Up x 6:=fun h=>by have:=(je h);omega
    go_wp2
    go_ret
    exact⟨gK (by rw[←HR.out];exact jl hbad),aj⟩
   ·by_cases hhi:3<x.r
    ·have hbad:¬Up x 6:=fun h=>by have:=(je h);omega
     go_wp2
     go_ret
     exact⟨gK (by rw[←HR.out];exact jl hbad),aj⟩
    ·have hn:Hid (Up x 2):=hu.out.next (by simp[Pm.nums];omega) (by simp[Pm.nums,gQ];omega)
     go_wp2
     go_round
     case rel=>exact⟨2,by omega,rfl,hn⟩
     case measure=>simp[intOf]
  ·have hix:=Tryz.axu x.e x.r x.a x.p x.f x.b
   by_cases hlo:x.a<0
   ·have hbad:¬Up x 6:=fun h=>by have:=(je h);omega
    go_wp2
    go_ret
    exact⟨gK (by rw[←HR.out];exact jl hbad),aj⟩
   ·by_cases hhi:1048576<x.a
    ·have hbad:¬Up x 6:=fun h=>by have:=(je h);omega
     go_wp2
     go_ret
     exact⟨gK (by rw[←HR.out];exact jl hbad),aj⟩
    ·have hn:Hid (Up x 3):=hu.out.next (by simp[Pm.nums];omega) (by simp[Pm.nums,gQ];omega)
     go_wp2
     go_round
     case rel=>exact⟨3,by omega,rfl,hn⟩
     case measure=>simp[intOf]
  ·have hix:=Tryz.axi x.e x.r x.a x.p x.f x.b
   by_cases hlo:x.p<0
   ·have hbad:¬Up x 6:=fun h=>by have:=(je h);omega
    go_wp2
    go_ret
    exact⟨gK (by rw[←HR.out];exact jl hbad),aj⟩
   ·by_cases hhi:4<x.p
    ·have hbad:¬Up x 6:=fun h=>by have:=(je h);omega
     go_wp2
     go_ret
     exact⟨gK (by rw[←HR.out];exact jl hbad),aj⟩
    ·have hn:Hid (Up x 4):=hu.out.next (by simp[Pm.nums];omega) (by simp[Pm.nums,gQ];omega)
     go_wp2
     go_round
     case rel=>exact⟨4,by omega,rfl,hn⟩
     case measure=>simp[intOf]
  ·have hix:=Tryz.avf x.e x.r x.a x.p x.f x.b
   by_cases hlo:x.f<0
   ·have hbad:¬Up x 6:=fun h=>by have:=(je h);omega
    go_wp2
    go_ret
    exact⟨gK (by rw[←HR.out];exact jl hbad),aj⟩
   ·by_cases hhi:1048576<x.f
    ·have hbad:¬Up x 6:=fun h=>by have:=(je h);omega
     go_wp2
     go_ret
     exact⟨gK (by rw[←HR.out];exact jl hbad),aj⟩
    ·have hn:Hid (Up x 5):=hu.out.next (by simp[Pm.nums];omega) (by simp[Pm.nums,gQ];omega)
     go_wp2
     go_round
     case rel=>exact⟨5,by omega,rfl,hn⟩
     case measure=>simp[intOf]
  ·have hix:=Tryz.avN x.e x.r x.a x.p x.f x.b
   by_cases hlo:x.b<0
   ·have hbad:¬Up x 6:=fun h=>by have:=(je h);omega
    go_wp2
    go_ret
    exact⟨gK (by rw[←HR.out];exact jl hbad),aj⟩
   ·by_cases hhi:1073741824<x.b
    ·have hbad:¬Up x 6:=fun h=>by have:=(je h);omega
     go_wp2
     go_ret
     exact⟨gK (by rw[←HR.out];exact jl hbad),aj⟩
    ·have hn:Hid (Up x 6):=hu.out.next (by simp[Pm.nums];omega) (by simp[Pm.nums,gQ];omega)
     go_wp2
     go_round
     case rel=>exact⟨6,by omega,rfl,hn⟩
     case measure=>simp[intOf]
  ·have hg:=hu.out
   go_wp2
   go_ret
   exact⟨gK (by rw[←HR.out];exact acj.2 hg),aj⟩
theorem um {V:World}{R:Nat}{t:TypeId}{cs:Array Value}(hR:V.heap[R]? =some (.cells cs t (0,0)))(j:Nat)(u:Value):
  ∃V',V.setCell ⟨R,j,none⟩ u=V'∧V'.heap[R]? =some (.cells (cs.setIfInBounds j u) t (0,0))∧V.grownBy V' (some R)∧V.frozen? ⟨R,j,none⟩=false:=
 ⟨_,rfl,aF hR j u,ax _ _ _,aA hR j⟩
theorem ay5 {x:Pm.Pg}(h:x.r=1):(x.e==x.e&&x.r==x.r&&x.a==x.a&&x.p==0&&x.f==0&&x.b==0)=decide (Pm.Own x):=by
 rw[Bool.eq_iff_iff,decide_eq_true_iff];unfold Pm.Own;simp only[Bool.and_eq_true,beq_iff_eq,true_and,and_true];constructor<;>intro _<;>omega
theorem azo {x:Pm.Pg}(h:x.r=2):(x.e==x.e&&x.r==x.r&&x.a==0&&x.p==0&&x.f==0&&x.b==0)=decide (Pm.Own x):=by
 rw[Bool.eq_iff_iff,decide_eq_true_iff];unfold Pm.Own;simp only[Bool.and_eq_true,beq_iff_eq,true_and,and_true];constructor<;>intro _<;>omega
theorem azm {x:Pm.Pg}(h:x.r=3)(h':x.p=1):(x.e==x.e&&x.r==x.r&&x.a==0&&x.p==x.p&&x.f==0&&x.b==0)=decide (Pm.Own x):=by
 rw[Bool.eq_iff_iff,decide_eq_true_iff];unfold Pm.Own;simp only[Bool.and_eq_true,beq_iff_eq,true_and,and_true];constructor<;>intro _<;>omega
theorem ay8 {x:Pm.Pg}(h:x.r=3)(h':x.p=2∨x.p=3∨x.p=4):(x.e==x.e&&x.r==x.r&&x.a==0&&x.p==x.p&&x.f==x.f&&x.b==x.b)=decide (Pm.Own x):=by
 rw[Bool.eq_iff_iff,decide_eq_true_iff];unfold Pm.Own;simp only[Bool.and_eq_true,beq_iff_eq,true_and,and_true];constructor<;>intro _<;>omega
theorem azg {x:Pm.Pg}(h:x.r=3)(h2:x.p≠2)(h3:x.p≠3)(h4:x.p≠4)(h1:x.p≠1):false=decide (Pm.Own x):=by
 symm;rw[decide_eq_false_iff_not];unfold Pm.Own;omega
theorem ay7 {x:Pm.Pg}(h1:x.r≠1)(h2:x.r≠2)(h3:x.r≠3):false=decide (Pm.Own x):=by
 symm;rw[decide_eq_false_iff_not];unfold Pm.Own;omega
theorem aeh (x:Pm.Pg)(w:World)(hx:ig x):
  Calls prog 137 #[vp x] w fun E w'=>E=.returned (.bool (decide (Pm.Own x)))∧Bq w w':=by
 unfold vp
 obtain⟨g1,g2,g3,g4,g5,g6,g7,g8,g9,g10,g11,g12⟩:=hx
 obtain⟨w1,hw1,aV,aj,hB⟩:=au w #[.int .i64 x.e,.int .u8 x.r,.int .i64 x.a,.int .u8 x.p,.int .i64 x.f,.int .i64 x.b] 46
 obtain⟨a0,a1,a2,a3,a4,a5⟩:=aR hB
 obtain⟨w2,uR,hw2,dA,az,hC,_⟩:=ng w1 46 (.int .i64 0) (.int .u8 0) (.int .i64 0) (.int .u8 0) (.int .i64 0) (.int .i64 0) (.int .i64 x.e) (.int .u8 x.r) (.int .i64 0) (.int .u8 0) (.int .i64 0) (.int .i64 0)
 have hB2:=(az.block _ (ay hB)).trans hB
 rw[aV]at hC
 rw[aV]at uR
 have aI:=aj.trans (az.mono (by omega))
 obtain⟨c0,c1,c2,c3,c4,c5⟩:=aR hB2
 obtain⟨d0,d1,d2,d3,d4,d5⟩:=aR hC
 have s2:w2.setCell ⟨w.heap.size+1,2,none⟩ (.int .i64 0)=w2:=aK hC (j:=2) rfl
 have s3:w2.setCell ⟨w.heap.size+1,3,none⟩ (.int .u8 0)=w2:=aK hC (j:=3) rfl
 have s4:w2.setCell ⟨w.heap.size+1,4,none⟩ (.int .i64 0)=w2:=aK hC (j:=4) rfl
 have s5:w2.setCell ⟨w.heap.size+1,5,none⟩ (.int .i64 0)=w2:=aK hC (j:=5) rfl
 have f2:=aA hC 2
 have f3:=aA hC 3
 have f4:=aA hC 4
 have f5:=aA hC 5
 obtain⟨r,hr⟩:∃r,decide (Pm.Own x)=r:=⟨_,rfl⟩
 rw[hr]
 have HR:=hide hr
 clear hr
 go_enter func137,ntmps137
 by_cases h1:x.r=1
 ·have h1':(x.r==1)=true:=by simp[h1]
  obtain⟨V,hV,bV,gV,_⟩:=um hC 2 (.int .i64 x.a)
  obtain⟨e0,e1,e2,e3,e4,e5⟩:=aR (show V.heap[w.heap.size+1]? =some (.cells #[.int .i64 x.e,.int .u8 x.r,.int .i64 x.a,.int .u8 0,.int .i64 0,.int .i64 0] 46 (0,0))from bV)
  obtain⟨k0,k1,k2,k3,k4,k5⟩:=aR ((gV.block w.heap.size (by omega) (by simp)).trans hB2)
  have q:=Tryz.ai2 x.e x.r x.a x.p x.f x.b x.e x.r x.a 0 0 0
  rw[ay5 h1,HR.out]at q
  have bg:=aG aI gV (by omega) (by omega)
  clear h1 hB hC hB2 bV gV aI aj az
  go_wp2
  go_ret
  exact⟨rfl,bg⟩
 have h1':(x.r==1)=false:=by simpa using h1
 by_cases h2:x.r=2
 ·have h2':(x.r==2)=true:=by simp[h2]
  have q:=Tryz.ai2 x.e x.r x.a x.p x.f x.b x.e x.r 0 0 0 0
  rw[azo h2,HR.out]at q
  clear h1 h2 hB hC hB2 aj az
  go_wp2
  go_ret
  exact⟨rfl,aI⟩
 have h2':(x.r==2)=false:=by simpa using h2
 by_cases h3:x.r=3
 ·have h3':(x.r==3)=true:=by simp[h3]
  by_cases p1:x.p=1
  ·have p1':(x.p==1)=true:=by simp[p1]
   have p2':(x.p==2)=false:=by simp;omega
   have p3':(x.p==3)=false:=by simp;omega
   have p4':(x.p==4)=false:=by simp;omega
   obtain⟨V,hV,bV,gV,_⟩:=um hC 3 (.int .u8 x.p)
   obtain⟨e0,e1,e2,e3,e4,e5⟩:=aR (show V.heap[w.heap.size+1]? =some (.cells #[.int .i64 x.e,.int .u8 x.r,.int .i64 0,.int .u8 x.p,.int .i64 0,.int .i64 0] 46 (0,0))from bV)
   obtain⟨k0,k1,k2,k3,k4,k5⟩:=aR ((gV.block w.heap.size (by omega) (by simp)).trans hB2)
   have q:=Tryz.ai2 x.e x.r x.a x.p x.f x.b x.e x.r 0 x.p 0 0
   rw[azm h3 p1,HR.out]at q
   have bg:=aG aI gV (by omega) (by omega)
   clear h1 h2 h3 p1 hB hC hB2 bV gV aI aj az
   go_wp2
   go_ret
   exact⟨rfl,bg⟩
  have p1':(x.p==1)=false:=by simpa using p1
  by_cases pp:x.p=2∨x.p=3∨x.p=4
  ·obtain⟨V4,hV4,bV4,xE,_⟩:=um hC 4 (.int .i64 x.f)
   have b4:V4.heap[w.heap.size+1]? =some (.cells #[.int .i64 x.e,.int .u8 x.r,.int .i64 0,.int .u8 0,.int .i64 x.f,.int .i64 0] 46 (0,0)):=bV4
   have hB4:=(xE.block w.heap.size (by omega) (by simp)).trans hB2
   have iK:=xE.size
   obtain⟨l0,l1,l2,l3,l4,l5⟩:=aR hB4
   obtain⟨y0,y1,y2,y3,y4,y5⟩:=aR b4
   obtain⟨V5,xg,zQ,uf,n5⟩:=um b4 5 (.int .i64 x.b)
   have b5:V5.heap[w.heap.size+1]? =some (.cells #[.int .i64 x.e,.int .u8 x.r,.int .i64 0,.int .u8 0,.int .i64 x.f,.int .i64 x.b] 46 (0,0)):=zQ
   have zL:=(uf.block w.heap.size (by omega) (by simp)).trans hB4
   have aL:=aG aI xE (by omega) (by omega)
   have aS:=aG aL uf (by omega) (by omega)
   have mO:=uf.size
   obtain⟨V,hV,bV,gV,n3⟩:=um (V:=V5.drew) b5 3 (.int .u8 x.p)
   obtain⟨e0,e1,e2,e3,e4,e5⟩:=aR (show V.heap[w.heap.size+1]? =some (.cells #[.int .i64 x.e,.int .u8 x.r,.int .i64 0,.int .u8 x.p,.int .i64 x.f,.int .i64 x.b] 46 (0,0))from bV)
   have szd:V5.drew.heap.size=V5.heap.size:=rfl
   obtain⟨k0,k1,k2,k3,k4,k5⟩:=aR ((gV.block w.heap.size (by omega) (by simp)).trans zL)
   have t3:V5.drew.cell? ⟨w.heap.size,3,none⟩=some (.int .u8 x.p):=ai (w:=V5.drew) zL 3 rfl
   have t33:V5.drew.cell? ⟨w.heap.size+1,3,none⟩=some (.int .u8 0):=ai (w:=V5.drew) b5 3 rfl
   have bg:=aG aS.drew gV (by omega) (by omega)
   have HH:=hide (And.intro hV (And.intro n3 (And.intro e0 (And.intro e1 (And.intro e2 (And.intro e3 (And.intro e4 (And.intro e5 (And.intro k0 (And.intro k1 (And.intro k2 (And.intro k3 (And.intro k4 (And.intro k5 (And.intro t3 t33)))))))))))))))
   clear hV n3 e0 e1 e2 e3 e4 e5 k0 k1 k2 k3 k4 k5 t3 t33 bV gV aS
   have q:=Tryz.ai2 x.e x.r x.a x.p x.f x.b x.e x.r 0 x.p x.f x.b
   rw[ay8 h3 pp,HR.out]at q
   rcases pp with pp|pp|pp
   ·have p2':(x.p==2)=true:=by simp[pp]
    clear h1 h2 h3 p1 pp hB hC hB2 bV4 xE b4 hB4 zQ uf b5 zL aI aj az aL
    go_wp2
    go_region
    clear hV4 xg c0 c1 c2 c3 c4 c5 d0 d1 d2 d3 d4 d5 l0 l1 l2 l3 l4 l5 y0 y1 y2 y3 y4 y5 n5
    obtain⟨hV,n3,e0,e1,e2,e3,e4,e5,k0,k1,k2,k3,k4,k5,t3,t33⟩:=HH.out
    clear HH
    go_wp2
    go_ret
    exact⟨rfl,bg⟩
   ·have p2':(x.p==2)=false:=by simp;omega
    have p3':(x.p==3)=true:=by simp[pp]
    clear h1 h2 h3 p1 pp hB hC hB2 bV4 xE b4 hB4 zQ uf b5 zL aI aj az aL
    go_wp2
    go_region
    clear hV4 xg c0 c1 c2 c3 c4 c5 d0 d1 d2 d3 d4 d5 l0 l1 l2 l3 l4 l5 y0 y1 y2 y3 y4 y5 n5
    obtain⟨hV,n3,e0,e1,e2,e3,e4,e5,k0,k1,k2,k3,k4,k5,t3,t33⟩:=HH.out
    clear HH
    go_wp2
    go_ret
    exact⟨rfl,bg⟩
   ·have p2':(x.p==2)=false:=by simp;omega
    have p3':(x.p==3)=false:=by simp;omega
    have p4':(x.p==4)=true:=by simp[pp]
    clear h1 h2 h3 p1 pp hB hC hB2 bV4 xE b4 hB4 zQ uf b5 zL aI aj az aL
    go_wp2
    go_region
    clear hV4 xg c0 c1 c2 c3 c4 c5 d0 d1 d2 d3 d4 d5 l0 l1 l2 l3 l4 l5 y0 y1 y2 y3 y4 y5 n5
    obtain⟨hV,n3,e0,e1,e2,e3,e4,e5,k0,k1,k2,k3,k4,k5,t3,t33⟩:=HH.out
    clear HH
    go_wp2
    go_ret
    exact⟨rfl,bg⟩
  ·have p2':(x.p==2)=false:=by simp;omega
   have p3':(x.p==3)=false:=by simp;omega
   have p4':(x.p==4)=false:=by simp;omega
   have q:=azg h3 (by omega) (by omega) (by omega) p1
   rw[HR.out]at q
   subst q
   clear h1 h2 h3 p1 pp hB hC hB2 aj az HR
   go_wp2
   go_ret
   exact⟨rfl,aI⟩
 ·have h3':(x.r==3)=false:=by simpa using h3
  have q:=ay7 h1 h2 h3
  rw[HR.out]at q
  subst q
  clear h1 h2 h3 hB hC hB2 aj az HR
  go_wp2
  go_ret
  exact⟨rfl,aI⟩
theorem yB (x:Pm.Pg):(x.e<1→Pm.chk x=2)∧(¬Up x 6→Pm.chk x=2)∧(¬Pm.Own x→Pm.chk x=2)∧(¬x.e<1→Up x 6→Pm.Own x→Pm.chk x=0):=by
 refine⟨fun h=>Pm.iA fun ho=>?_,fun h=>Pm.iA fun ho=>h ?_,fun h=>Pm.iA fun ho=>h ho.2,fun h1 h2 h3=>Pm.iV ⟨?_,h3⟩⟩
 ·have:=Pm.pX ho;omega
 ·have:=Pm.pX ho
  intro i hi
  obtain rfl|rfl|rfl|rfl|rfl|rfl:i=0∨i=1∨i=2∨i=3∨i=4∨i=5:=by omega
  all_goals simp[Pm.nums,gQ];omega
 ·have:=je h2
  unfold Pm.Bnd
  omega
theorem ll (x:Pm.Pg)(w:World)(hx:ig x)(hm:fU w):
  Calls prog 61 #[vp x] w fun E w'=>E=.returned (.int .i64 (Pm.chk x))∧Bq w w':=by
 obtain⟨t1,t2,t3,t4⟩:=yB x
 obtain⟨w1,hw1,aV,aj,hB⟩:=au w #[.int .i64 x.e,.int .u8 x.r,.int .i64 x.a,.int .u8 x.p,.int .i64 x.f,.int .i64 x.b] 46
 have HV:Hid (vp x=.agg #[.int .i64 x.e,.int .u8 x.r,.int .i64 x.a,.int .u8 x.p,.int .i64 x.f,.int .i64 x.b]):=rfl
 obtain⟨c0,c1,c2,c3,c4,c5⟩:=aR hB
 have HB:=hide hB
 have HM:=hide (hm.below aj)
 have g:=hx
 obtain⟨ch,hch⟩:∃c,Pm.chk x=c:=⟨_,rfl⟩
 rw[hch]at t1 t2 t3 t4⊢
 have T1:=hide t1;have T2:=hide t2;have T3:=hide t3;have T4:=hide t4
 rw[HV.out]
 clear hB hm hch t1 t2 t3 t4
 obtain⟨g1,g2,g3,g4,g5,g6,g7,g8,g9,g10,g11,g12⟩:=g
 have HX:=hide hx
 clear hx
 go_enter func61,ntmps61
 by_cases h1:x.e<1
 ·have q:=T1.out h1
  subst q
  clear T1 T2 T3 T4
  go_wp2
  go_ret
  exact⟨rfl,aj⟩
 go_wp2_with fail
 refine(vU x _ HX.out).mono ?_
 rintro E w2 ⟨rfl,az⟩
 have dA:=az.size
 have hB2:=(az.block _ (by omega)).trans HB.out
 have HM2:=hide (HM.out.below az)
 have aO:=aj.trans (az.mono (by omega))
 have HB2:=hide hB2
 clear HB HM hB2 c0 c1 c2 c3 c4 c5
 go_wp2_with fail
 refine(agv x _ HX.out HM2.out).mono ?_
 rintro E w3 ⟨rfl,aC⟩
 have bO:=aC.size
 have hB3:=(aC.block _ (by omega)).trans HB2.out
 have bq:=aO.trans (aC.mono (by omega))
 obtain⟨c0,c1,c2,c3,c4,c5⟩:=aR hB3
 clear HB2 hB3 aj az aC aO
 by_cases h2:Up x 6
 ·rw[acj.2 h2]
  have H2:=hide h2
  clear h2
  go_wp2_with fail
  refine(aeh x _ HX.out).mono ?_
  rintro E w4 ⟨rfl,aL⟩
  have dC:=bq.trans (aL.mono (by omega))
  by_cases h3:Pm.Own x
  ·rw[decide_eq_true h3]
   have q:=T4.out h1 H2.out h3
   subst q
   clear h3 T1 T2 T3 T4
   go_wp2
   go_ret
   exact⟨rfl,dC⟩
  ·rw[decide_eq_false h3]
   have q:=T3.out h3
   subst q
   clear h3 T1 T2 T3 T4
   go_wp2
   go_ret
   exact⟨rfl,dC⟩
 ·rw[jl h2]
  have q:=T2.out h2
  subst q
  clear h2 T1 T2 T3 T4
  go_wp2
  go_ret
  exact⟨rfl,bq⟩
def arh (x:Pm.Pg):List Int:=if Pm.Ok x then Pm.enc x else []
theorem kX {x:Pm.Pg}(h:Pm.Ok x):arh x=Pm.enc x:=if_pos h
theorem tO {x:Pm.Pg}(h:¬Pm.Ok x):arh x=[]:=if_neg h
theorem lN (l:List Int)(k:Nat)(h:k<l.length):Pm.encs (l.take k)++Vm.enc (l.getD k 0).toNat=Pm.encs (l.take (k+1)):=by
 rw[List.take_succ_eq_append_getElem h,Pm.jT,List.getD_eq_getElem?_getD,List.getElem?_eq_getElem h]
 simp[Pm.encs]
theorem iQ {x:Pm.Pg}(h:Pm.Ok x)(k:Nat):(Pm.encs ((Pm.nums x).take k)).length≤60:=by
 have h1:=Pm.aci h
 have h2:Pm.nums x=(Pm.nums x).take k++(Pm.nums x).drop k:=(List.take_append_drop _ _).symm
 unfold Pm.enc at h1
 rw[h2,Pm.jT,List.length_append]at h1
 omega
theorem lU (z:Int)(h0:0≤z)(h1:z<9223372036854775808):IntKind.u64.wrap z=z:=by
 rw[IntKind.wrap_u64];omega
theorem ake (x:Pm.Pg)(w:World)(hx:ig x)(hm:fU w):
  Calls prog 186 #[vp x] w fun E w'=>∃vb,E=.returned (.tuple #[vb,.int .i64 (Pm.chk x)])∧Own .u8 5 w.heap.size w' vb (arh x)∧Bq w w':=by
 obtain⟨w1,hw1,aV,aj,hB⟩:=au w #[.int .i64 x.e,.int .u8 x.r,.int .i64 x.a,.int .u8 x.p,.int .i64 x.f,.int .i64 x.b] 46
 have HV:Hid (vp x=.agg #[.int .i64 x.e,.int .u8 x.r,.int .i64 x.a,.int .u8 x.p,.int .i64 x.f,.int .i64 x.b]):=rfl
 obtain⟨c0,c1,c2,c3,c4,c5⟩:=aR hB
 have HB:=hide hB
 have HM:=hide (hm.below aj)
 have HX:=hide hx
 rw[HV.out]
 clear hB hm hx
 go_enter func186,ntmps186
 go_wp2_with fail
 refine(ll x _ HX.out HM.out).mono ?_
 rintro E w2 ⟨rfl,az⟩
 have dA:=az.size
 have hB2:=(az.block _ (by omega)).trans HB.out
 have aO:=aj.trans (az.mono (by omega))
 obtain⟨d0,d1,d2,d3,d4,d5⟩:=aR hB2
 clear HB HM hB2 c0 c1 c2 c3 c4 c5 aj az
 by_cases ho:Pm.Ok x
 ·rw[Pm.iV ho]
  have g:=Pm.pX ho
  obtain⟨g1,g2,g3,g4,g5,g6,g7,g8,g9,g10,g11,g12⟩:=g
  have HO:=hide ho
  clear ho
  go_wp2_with fail
  refine(vU x _ HX.out).mono ?_
  rintro E w3 ⟨rfl,aC⟩
  have bO:=aC.size
  have bq:=aO.trans (aC.mono (by omega))
  have HN:Hid (vn x=.agg #[.int .i64 x.e,.int .i64 x.r,.int .i64 x.a,.int .i64 x.p,.int .i64 x.f,.int .i64 x.b]):=rfl
  rw[HN.out]
  clear d0 d1 d2 d3 d4 d5 aO aC
  go_wp2
  go_loopw [5,15] (fun bb kk wr=>∃k:Nat,k≤6∧kk=.int .i64 k∧Own .u8 5 w.heap.size wr bb (Pm.encs ((Pm.nums x).take k))∧Bq w wr) (fun _ kk _=>7-(intOf kk).toNat)
  case atStart=>exact⟨0,by omega,rfl,Own.nil _ _ _ _,bq⟩
  case round=>
   obtain⟨k,hk,rfl,own,gP⟩:=hrel
   have szr:=gP.size
   rcases(show k=0∨k=1∨k=2∨k=3∨k=4∨k=5∨k=6 by omega)with rfl|rfl|rfl|rfl|rfl|rfl|rfl
   ·have hix:=Tryz.axT x.e x.r x.a x.p x.f x.b
    have hwr:=lU x.e (by omega) (by omega)
    have hln:=iQ HO.out 0
    go_wp2_with fail
    refine(gL _ _ x.e _ own.is (by omega) (by omega) (by omega)).mono ?_
    rintro E w4 ⟨v4,rfl,bz,aL⟩
    have e:Pm.encs ((Pm.nums x).take 0)++Vm.enc x.e.toNat=Pm.encs ((Pm.nums x).take 1):=lN (Pm.nums x) 0 (by simp[Pm.nums])
    rw[e]at bz
    have dx:=bz.bn (base':=w.heap.size) (by omega)
    have aS:=gP.trans (aL.mono (by omega))
    clear own bz e aL
    go_wp2
    go_roundw
    case rel=>exact⟨1,by omega,rfl,dx,aS⟩
    case measure=>simp[intOf]
   ·have hix:=Tryz.axW x.e x.r x.a x.p x.f x.b
    have hwr:=lU x.r (by omega) (by omega)
    have hln:=iQ HO.out 1
    go_wp2_with fail
    refine(gL _ _ x.r _ own.is (by omega) (by omega) (by omega)).mono ?_
    rintro E w4 ⟨v4,rfl,bz,aL⟩
    have e:Pm.encs ((Pm.nums x).take 1)++Vm.enc x.r.toNat=Pm.encs ((Pm.nums x).take 2):=lN (Pm.nums x) 1 (by simp[Pm.nums])
    rw[e]at bz
    have dx:=bz.bn (base':=w.heap.size) (by omega)
    have aS:=gP.trans (aL.mono (by omega))
    clear own bz e aL
    go_wp2
    go_roundw
    case rel=>exact⟨2,by omega,rfl,dx,aS⟩
    case measure=>simp[intOf]
   ·have hix:=Tryz.axu x.e x.r x.a x.p x.f x.b
    have hwr:=lU x.a (by omega) (by omega)
    have hln:=iQ HO.out 2
    go_wp2_with fail
    refine(gL _ _ x.a _ own.is (by omega) (by omega) (by omega)).mono ?_
    rintro E w4 ⟨v4,rfl,bz,aL⟩
    have e:Pm.encs ((Pm.nums x).take 2)++Vm.enc x.a.toNat=Pm.encs ((Pm.nums x).take 3):=lN (Pm.nums x) 2 (by simp[Pm.nums])
    rw[e]at bz
    have dx:=bz.bn (base':=w.heap.size) (by omega)
    have aS:=gP.trans (aL.mono (by omega))
    clear own bz e aL
    go_wp2
    go_roundw
    case rel=>exact⟨3,by omega,rfl,dx,aS⟩
    case measure=>simp[intOf]
   ·have hix:=Tryz.axi x.e x.r x.a x.p x.f x.b
    have hwr:=lU x.p (by omega) (by omega)
    have hln:=iQ HO.out 3
    go_wp2_with fail
    refine(gL _ _ x.p _ own.is (by omega) (by omega) (by omega)).mono ?_
    rintro E w4 ⟨v4,rfl,bz,aL⟩
    have e:Pm.encs ((Pm.nums x).take 3)++Vm.enc x.p.toNat=Pm.encs ((Pm.nums x).take 4):=lN (Pm.nums x) 3 (by simp[Pm.nums])
    rw[e]at bz
    have dx:=bz.bn (base':=w.heap.size) (by omega)
    have aS:=gP.trans (aL.mono (by omega))
    clear own bz e aL
    go_wp2
    go_roundw
    case rel=>exact⟨4,by omega,rfl,dx,aS⟩
    case measure=>simp[intOf]
   ·have hix:=Tryz.avf x.e x.r x.a x.p x.f x.b
    have hwr:=lU x.f (by omega) (by omega)
    have hln:=iQ HO.out 4
    go_wp2_with fail
    refine(gL _ _ x.f _ own.is (by omega) (by omega) (by omega)).mono ?_
    rintro E w4 ⟨v4,rfl,bz,aL⟩
    have e:Pm.encs ((Pm.nums x).take 4)++Vm.enc x.f.toNat=Pm.encs ((Pm.nums x).take 5):=lN (Pm.nums x) 4 (by simp[Pm.nums])
    rw[e]at bz
    have dx:=bz.bn (base':=w.heap.size) (by omega)
    have aS:=gP.trans (aL.mono (by omega))
    clear own bz e aL
    go_wp2
    go_roundw
    case rel=>exact⟨5,by omega,rfl,dx,aS⟩
    case measure=>simp[intOf]
   ·have hix:=Tryz.avN x.e x.r x.a x.p x.f x.b
    have hwr:=lU x.b (by omega) (by omega)
    have hln:=iQ HO.out 5
    go_wp2_with fail
    refine(gL _ _ x.b _ own.is (by omega) (by omega) (by omega)).mono ?_
    rintro E w4 ⟨v4,rfl,bz,aL⟩
    have e:Pm.encs ((Pm.nums x).take 5)++Vm.enc x.b.toNat=Pm.encs ((Pm.nums x).take 6):=lN (Pm.nums x) 5 (by simp[Pm.nums])
    rw[e]at bz
    have dx:=bz.bn (base':=w.heap.size) (by omega)
    have aS:=gP.trans (aL.mono (by omega))
    clear own bz e aL
    go_wp2
    go_roundw
    case rel=>exact⟨6,by omega,rfl,dx,aS⟩
    case measure=>simp[intOf]
   ·go_wp2
    go_ret2
    exact⟨_,by rw[Pm.iV HO.out];rfl,by rw[kX HO.out];exact own,gP⟩
 ·rw[Pm.iA ho]
  have HO:=hide ho
  clear ho
  go_wp2
  go_ret2
  exact⟨_,by rw[Pm.iA HO.out];rfl,by rw[tO HO.out];exact Own.nil _ _ _ _,aO⟩
def DI (bs:List Int) (w wr:World) (x:Pm.Pg) (k:Nat) (a:Nat):Prop:=
 wr.heap[w.heap.size]? =some (.cells #[.int .i64 0,.int .u8 0,.int .i64 0,.int .u8 0,.int .i64 0,.int .i64 0] 46 (0,0))∧
 wr.heap[w.heap.size+1]? =some (.cells #[.int .i64 x.e,.int .i64 x.r,.int .i64 x.a,.int .i64 x.p,.int .i64 x.f,.int .i64 x.b] 190 (0,0))∧
 Bq w wr∧Pm.encs ((Pm.nums x).take k)<+:bs∧a=(Pm.encs ((Pm.nums x).take k)).length∧Up x k
def LI (bs:List Int) (w wr:World) (L:Nat) (z x:Pm.Pg) (a:Nat):Prop:=
 wr.heap[w.heap.size]? =some (.cells #[.int .i64 0,.int .u8 0,.int .i64 0,.int .u8 0,.int .i64 0,.int .i64 0] 46 (0,0))∧
 wr.heap[L]? =some (.cells #[.int .i64 x.e,.int .u8 x.r,.int .i64 x.a,.int .u8 x.p,.int .i64 x.f,.int .i64 x.b] 46 (0,0))∧
 w.heap.size<L∧Bq w wr∧Pm.Go bs z x a∧ig x
theorem lK (x:Pm.Pg)(w:World):∃w1 w2,w.alloc (.cells #[.int .i64 x.e,.int .u8 x.r,.int .i64 x.a,.int .u8 x.p,.int .i64 x.f,.int .i64 x.b] 46)=w1∧w1.alloc (.cells #[.int .i64 0,.int .u8 0,.int .i64 0,.int .u8 0,.int .i64 0,.int .i64 0] 46)=w2∧w1.heap.size=w.heap.size+1∧w2.heap.size=w.heap.size+2∧Bq w w2∧Six w2 w.heap.size (.int .i64 x.e) (.int .u8 x.r) (.int .i64 x.a) (.int .u8 x.p) (.int .i64 x.f) (.int .i64 x.b)∧Hid (∀W,Bq w2 W→W.heap[w.heap.size]? =some (.cells #[.int .i64 x.e,.int .u8 x.r,.int .i64 x.a,.int .u8 x.p,.int .i64 x.f,.int .i64 x.b] 46 (0,0))∧W.heap[w.heap.size+1]? =some (.cells #[.int .i64 0,.int .u8 0,.int .i64 0,.int .u8 0,.int .i64 0,.int .i64 0] 46 (0,0))∧Bq w W∧w.heap.size+2≤W.heap.size):=by
 obtain⟨w1,h1,s1,b1,p1⟩:=au w #[.int .i64 x.e,.int .u8 x.r,.int .i64 x.a,.int .u8 x.p,.int .i64 x.f,.int .i64 x.b] 46
 obtain⟨w2,h2,s2,b2,p2⟩:=au w1 #[.int .i64 0,.int .u8 0,.int .i64 0,.int .u8 0,.int .i64 0,.int .i64 0] 46
 have q1:=(b2.block w.heap.size (by omega)).trans p1
 rw[s1]at p2
 refine⟨w1,w2,h1,h2,s1,by omega,b1.trans (b2.mono (by omega)),aR q1,hide fun W hW=>⟨?_,?_,(b1.trans (b2.mono (by omega))).trans (hW.mono (by omega)),by have:=hW.size;omega⟩⟩
 ·exact(hW.block w.heap.size (by omega)).trans q1
 ·exact(hW.block (w.heap.size+1) (by omega)).trans p2
theorem fG {V V':World}{g h:Nat}(hg:V.grownBy V' (some g))(hne:h≠g∧h<V.heap.size):V'.heap[h]? =V.heap[h]? :=hg.block h hne.2 (by simp;exact hne.1)
end Go.Proofs.YtlmkaljjocflmaaGreatDoor
namespace Go.Proofs.YtlmkaljjocflmaaGreatDoor
open Go.RowKit Go.ChangeShapes Go.WideShapes Go.Deep
section
variable {H:Type} {enc:TypeId×Value→H} {P:Program} {w:World} {base:Nat} {spare:Nat→Bool} {held:Bool}
end
theorem axE {W : World} (h : laidMetH prog [("lagleash/page.most", Rows.laid_lagleash_page_most)] W) : fU W := by
 rw[MakeChecks.laidMetH_plain _ _ _ (by kernel_rfl)]at h
 obtain⟨ps,⟨g,t,cs,fuel,p,q,hg,ht,hv,hd,_,_⟩,_,_⟩:=h
 obtain rfl := Option.some.inj ((show prog.globalNamed "lagleash/page.most" = some 0 by kernel_rfl).symm.trans hg)
 obtain rfl:=Option.some.inj ((show(prog.globals[0]?).map (·.type)=some 190 by kernel_rfl).symm.trans ht)
 have c3:prog.cellsOf 3=1:=by kernel_rfl
 have c49:prog.cellsOf 190=6:=by kernel_rfl
 obtain⟨xs,m,_,ex,hlen,hl,hel⟩:=DataW.trod_array underlying190 hd
 rw[c49]at hlen
 have hcell:=fun r=>World.var?_cell hg hv r
 obtain⟨l⟩:=cs
 match l,hlen with
 |[a0,a1,a2,a3,a4,a5],_=>
  match xs,hl with
  |[x0,x1,x2,x3,x4,x5],_=>
   have e3:=(DataW.agg.inj (Prod.mk.inj ex).1)
   simp only[List.map_cons,List.map_nil,List.cons.injEq,and_true]at e3
   obtain⟨t0,t1,t2,t3,t4,t5⟩:=e3
   have k0:=hel 0 (by omega);have k1:=hel 1 (by omega);have k2:=hel 2 (by omega);have k3:=hel 3 (by omega);have k4:=hel 4 (by omega);have k5:=hel 5 (by omega)
   rw[c3]at k0 k1 k2 k3 k4 k5
   obtain⟨z0,b0,d0,_⟩:=DataW.trod_int underlying3 k0
   obtain⟨z1,b1,d1,_⟩:=DataW.trod_int underlying3 k1
   obtain⟨z2,b2,d2,_⟩:=DataW.trod_int underlying3 k2
   obtain⟨z3,b3,d3,_⟩:=DataW.trod_int underlying3 k3
   obtain⟨z4,b4,d4,_⟩:=DataW.trod_int underlying3 k4
   obtain⟨z5,b5,d5,_⟩:=DataW.trod_int underlying3 k5
   simp at b0 b1 b2 b3 b4 b5 d0 d1 d2 d3 d4 d5
   subst b0 b1 b2 b3 b4 b5 d0 d1 d2 d3 d4 d5
   simp at t0 t1 t2 t3 t4 t5
   subst t0 t1 t2 t3 t4 t5
   exact⟨hcell 0,hcell 1,hcell 2,hcell 3,hcell 4,hcell 5⟩
end Go.Proofs.YtlmkaljjocflmaaGreatDoor
