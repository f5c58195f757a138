/- Texts of one layer, one behind the other. -/
import Derived.Test.YtlmkaljjocflmaaGreatDoorAH2
import Derived.Test.YtlmkaljjocflmaaGreatDoorAH21
import Derived.WalkMore
import Derived.Test.YtlmkaljjocflmaaGreatDoorAH28
set_option maxRecDepth 100000
set_option maxHeartbeats 8000000
namespace Go.Proofs.YtlmkaljjocflmaaGreatDoor
open Go.RowKit
set_option linter.unusedVariables false
def fC (w:World):Prop:=Six w 0 (.int .i64 1048576) (.int .i64 3) (.int .i64 1048576) (.int .i64 4) (.int .i64 1048576) (.int .i64 1073741824)
theorem fC.pos {w:World}(h:fC w):0<w.heap.size:=by
 have:=h.c0
 rcases Nat.lt_or_ge 0 w.heap.size with h'|h'
 ·exact h'
 ·have:w.heap[0]? =none:=Array.getElem?_eq_none (by omega)
  have h0:=h.c0
  simp[World.cell?,this]at h0
theorem fC.below {w w':World}(h:fC w)(b:Below w.heap.size w w'):fC w':=by
 have hp:=h.pos
 have e:∀j,w'.cell? ⟨0,j,none⟩=w.cell? ⟨0,j,none⟩:=fun j=>b.cell (p:=⟨0,j,none⟩) hp
 exact⟨(e 0).trans h.c0,(e 1).trans h.c1,(e 2).trans h.c2,(e 3).trans h.c3,(e 4).trans h.c4,(e 5).trans h.c5⟩
def gu:List Int:=[1048576,3,1048576,4,1048576,1073741824]
def Up (x:Pm.Pg) (k:Nat):Prop:=∀i,i<k→0≤(Pm.nums x).getD i 0∧(Pm.nums x).getD i 0≤gu.getD i 0
theorem Up.next {x:Pm.Pg}{k:Nat}(h:Up x k)(h0:0≤(Pm.nums x).getD k 0)(h1:(Pm.nums x).getD k 0≤gu.getD k 0):Up x (k+1):=by
 intro i hi
 by_cases e:i=k
 ·subst e;exact⟨h0,h1⟩
 ·exact h i (by omega)
def upx (x:Pm.Pg):Bool:=decide (0≤x.e∧x.e≤1048576∧0≤x.r∧x.r≤3∧0≤x.a∧x.a≤1048576∧0≤x.p∧x.p≤4∧0≤x.f∧x.f≤1048576∧0≤x.b∧x.b≤1073741824)
theorem abF {x:Pm.Pg}:upx x=true↔Up x 6:=by
 unfold upx
 rw[decide_eq_true_iff]
 refine⟨fun h i hi=>?_,fun h=>?_⟩
 ·obtain rfl|rfl|rfl|rfl|rfl|rfl:i=0∨i=1∨i=2∨i=3∨i=4∨i=5:=by omega
  all_goals simp[Pm.nums,gu];omega
 ·have h0:=h 0 (by omega);have h1:=h 1 (by omega);have h2:=h 2 (by omega);have h3:=h 3 (by omega);have h4:=h 4 (by omega);have h5:=h 5 (by omega)
  simp[Pm.nums,gu]at h0 h1 h2 h3 h4 h5
  omega
theorem iP {x:Pm.Pg}(h:¬Up x 6):upx x=false:=by
 cases hu:upx x with
 |false=>rfl
 |true=>exact absurd (abF.1 hu) h
theorem iQ {x:Pm.Pg}(h:Up x 6):0≤x.e∧x.e≤1048576∧0≤x.r∧x.r≤3∧0≤x.a∧x.a≤1048576∧0≤x.p∧x.p≤4∧0≤x.f∧x.f≤1048576∧0≤x.b∧x.b≤1073741824:=by
 have h0:=h 0 (by omega);have h1:=h 1 (by omega);have h2:=h 2 (by omega);have h3:=h 3 (by omega);have h4:=h 4 (by omega);have h5:=h 5 (by omega)
 simp[Pm.nums,gu]at h0 h1 h2 h3 h4 h5
 omega
theorem fJ {a b:Bool}(h:b=a):Ending.returned (.bool a)=.returned (.bool b):=by rw[h]
theorem Tryz.asM (a b c d e f:Int)(w:World):(Instr.index 190 (.agg #[.int .i64 a,.int .i64 b,.int .i64 c,.int .i64 d,.int .i64 e,.int .i64 f]) (.int .i64 0)).run Tryz.prog w=.ok (.int .i64 a) w:=by kernel_rfl
theorem Tryz.asA (a b c d e f:Int)(w:World):(Instr.index 190 (.agg #[.int .i64 a,.int .i64 b,.int .i64 c,.int .i64 d,.int .i64 e,.int .i64 f]) (.int .i64 1)).run Tryz.prog w=.ok (.int .i64 b) w:=by kernel_rfl
theorem Tryz.auq (a b c d e f:Int)(w:World):(Instr.index 190 (.agg #[.int .i64 a,.int .i64 b,.int .i64 c,.int .i64 d,.int .i64 e,.int .i64 f]) (.int .i64 2)).run Tryz.prog w=.ok (.int .i64 c) w:=by kernel_rfl
theorem Tryz.arU (a b c d e f:Int)(w:World):(Instr.index 190 (.agg #[.int .i64 a,.int .i64 b,.int .i64 c,.int .i64 d,.int .i64 e,.int .i64 f]) (.int .i64 3)).run Tryz.prog w=.ok (.int .i64 d) w:=by kernel_rfl
theorem Tryz.att (a b c d e f:Int)(w:World):(Instr.index 190 (.agg #[.int .i64 a,.int .i64 b,.int .i64 c,.int .i64 d,.int .i64 e,.int .i64 f]) (.int .i64 4)).run Tryz.prog w=.ok (.int .i64 e) w:=by kernel_rfl
theorem Tryz.atc (a b c d e f:Int)(w:World):(Instr.index 190 (.agg #[.int .i64 a,.int .i64 b,.int .i64 c,.int .i64 d,.int .i64 e,.int .i64 f]) (.int .i64 5)).run Tryz.prog w=.ok (.int .i64 f) w:=by kernel_rfl
theorem aeL (x:Pm.Pg)(w:World)(hx:gF x)(hm:fC w):
  Calls Tryz.prog 135 #[vn x] w fun E w'=>E=.returned (.bool (upx x))∧Below w.heap.size w w':=by
 unfold vn
 obtain⟨g1,g2,g3,g4,g5,g6,g7,g8,g9,g10,g11,g12⟩:=hx
 obtain⟨w1,hw1,aT,ak,hB⟩:=au w #[.int .i64 x.e,.int .i64 x.r,.int .i64 x.a,.int .i64 x.p,.int .i64 x.f,.int .i64 x.b] 190
 obtain⟨c0,c1,c2,c3,c4,c5⟩:=aR hB
 obtain⟨m0,m1,m2,m3,m4,m5⟩:=hm.below ak
 obtain⟨r,hr⟩:∃r,upx x=r:=⟨_,rfl⟩
 rw[hr]
 have HR:=hide hr
 clear hB hr hm
 go_enter Tryz.func135,Tryz.ntmps135
 go_wp2
 go_loop [6] (fun kk=>∃k:Nat,k≤6∧kk=.int .i64 k∧Hid (Up x k)) (fun kk=>7-(intOf kk).toNat)
 case atStart=>exact⟨0,by omega,rfl,fun i hi=>by omega⟩
 case round=>
  obtain⟨k,hk,rfl,hu⟩:=hrel
  rcases(show k=0∨k=1∨k=2∨k=3∨k=4∨k=5∨k=6 by omega)with rfl|rfl|rfl|rfl|rfl|rfl|rfl
  ·have hix:=Tryz.asM x.e x.r x.a x.p x.f x.b
   by_cases hlo:x.e<0
   ·have hbad:¬Up x 6:=fun h=>by have:=(iQ h);omega
    go_wp2
    go_ret
    exact⟨fJ (by rw[←HR.out];exact iP hbad),ak⟩
   ·by_cases hhi:1048576<x.e
    ·have hbad:¬Up x 6:=fun h=>by have:=(iQ h);omega
     go_wp2
     go_ret
     exact⟨fJ (by rw[←HR.out];exact iP hbad),ak⟩
    ·have hn:Hid (Up x 1):=hu.out.next (by simp[Pm.nums];omega) (by simp[Pm.nums,gu];omega)
     go_wp2
     go_round
     case rel=>exact⟨1,by omega,rfl,hn⟩
     case measure=>simp[intOf]
  ·have hix:=Tryz.asA x.e x.r x.a x.p x.f x.b
   by_cases hlo:x.r<0
   ·have hbad:¬Up x 6:=fun h=>by have:=(iQ h);omega
    go_wp2
    go_ret
    exact⟨fJ (by rw[←HR.out];exact iP hbad),ak⟩
   ·by_cases hhi:3<x.r
    ·have hbad:¬Up x 6:=fun h=>by have:=(iQ h);omega
     go_wp2
     go_ret
     exact⟨fJ (by rw[←HR.out];exact iP hbad),ak⟩
    ·have hn:Hid (Up x 2):=hu.out.next (by simp[Pm.nums];omega) (by simp[Pm.nums,gu];omega)
     go_wp2
     go_round
     case rel=>exact⟨2,by omega,rfl,hn⟩
     case measure=>simp[intOf]
  ·have hix:=Tryz.auq x.e x.r x.a x.p x.f x.b
   by_cases hlo:x.a<0
   ·have hbad:¬Up x 6:=fun h=>by have:=(iQ h);omega
    go_wp2
    go_ret
    exact⟨fJ (by rw[←HR.out];exact iP hbad),ak⟩
   ·by_cases hhi:1048576<x.a
    ·have hbad:¬Up x 6:=fun h=>by have:=(iQ h);omega
     go_wp2
     go_ret
     exact⟨fJ (by rw[←HR.out];exact iP hbad),ak⟩
    ·have hn:Hid (Up x 3):=hu.out.next (by simp[Pm.nums];omega) (by simp[Pm.nums,gu];omega)
     go_wp2
     go_round
     case rel=>exact⟨3,by omega,rfl,hn⟩
     case measure=>simp[intOf]
  ·have hix:=Tryz.arU x.e x.r x.a x.p x.f x.b
   by_cases hlo:x.p<0
   ·have hbad:¬Up x 6:=fun h=>by have:=(iQ h);omega
    go_wp2
    go_ret
    exact⟨fJ (by rw[←HR.out];exact iP hbad),ak⟩
   ·by_cases hhi:4<x.p
    ·have hbad:¬Up x 6:=fun h=>by have:=(iQ h);omega
     go_wp2
     go_ret
     exact⟨fJ (by rw[←HR.out];exact iP hbad),ak⟩
    ·have hn:Hid (Up x 4):=hu.out.next (by simp[Pm.nums];omega) (by simp[Pm.nums,gu];omega)
     go_wp2
     go_round
     case rel=>exact⟨4,by omega,rfl,hn⟩
     case measure=>simp[intOf]
  ·have hix:=Tryz.att x.e x.r x.a x.p x.f x.b
   by_cases hlo:x.f<0
   ·have hbad:¬Up x 6:=fun h=>by have:=(iQ h);omega
    go_wp2
    go_ret
    exact⟨fJ (by rw[←HR.out];exact iP hbad),ak⟩
   ·by_cases hhi:1048576<x.f
    ·have hbad:¬Up x 6:=fun h=>by have:=(iQ h);omega
     go_wp2
     go_ret
     exact⟨fJ (by rw[←HR.out];exact iP hbad),ak⟩
    ·have hn:Hid (Up x 5):=hu.out.next (by simp[Pm.nums];omega) (by simp[Pm.nums,gu];omega)
     go_wp2
     go_round
     case rel=>exact⟨5,by omega,rfl,hn⟩
     case measure=>simp[intOf]
  ·have hix:=Tryz.atc x.e x.r x.a x.p x.f x.b
   by_cases hlo:x.b<0
   ·have hbad:¬Up x 6:=fun h=>by have:=(iQ h);omega
    go_wp2
    go_ret
    exact⟨fJ (by rw[←HR.out];exact iP hbad),ak⟩
   ·by_cases hhi:1073741824<x.b
    ·have hbad:¬Up x 6:=fun h=>by have:=(iQ h);omega
     go_wp2
     go_ret
     exact⟨fJ (by rw[←HR.out];exact iP hbad),ak⟩
    ·have hn:Hid (Up x 6):=hu.out.next (by simp[Pm.nums];omega) (by simp[Pm.nums,gu];omega)
     go_wp2
     go_round
     case rel=>exact⟨6,by omega,rfl,hn⟩
     case measure=>simp[intOf]
  ·have hg:=hu.out
   go_wp2
   go_ret
   exact⟨fJ (by rw[←HR.out];exact abF.2 hg),ak⟩
theorem rG {V:World}{R:Nat}{t:TypeId}{cs:Array Value}(hR:V.heap[R]? =some (.cells cs t (0,0)))(j:Nat)(u:Value):
  ∃V',V.setCell ⟨R,j,none⟩ u=V'∧V'.heap[R]? =some (.cells (cs.setIfInBounds j u) t (0,0))∧V.grownBy V' (some R)∧V.frozen? ⟨R,j,none⟩=false:=
 ⟨_,rfl,aG hR j u,ax _ _ _,aB hR j⟩
theorem avo {x:Pm.Pg}(h:x.r=1):(x.e==x.e&&x.r==x.r&&x.a==x.a&&x.p==0&&x.f==0&&x.b==0)=decide (Pm.Own x):=by
 rw[Bool.eq_iff_iff,decide_eq_true_iff];unfold Pm.Own;simp only[Bool.and_eq_true,beq_iff_eq,true_and,and_true];constructor<;>intro _<;>omega
theorem avG {x:Pm.Pg}(h:x.r=2):(x.e==x.e&&x.r==x.r&&x.a==0&&x.p==0&&x.f==0&&x.b==0)=decide (Pm.Own x):=by
 rw[Bool.eq_iff_iff,decide_eq_true_iff];unfold Pm.Own;simp only[Bool.and_eq_true,beq_iff_eq,true_and,and_true];constructor<;>intro _<;>omega
theorem avN {x:Pm.Pg}(h:x.r=3)(h':x.p=1):(x.e==x.e&&x.r==x.r&&x.a==0&&x.p==x.p&&x.f==0&&x.b==0)=decide (Pm.Own x):=by
 rw[Bool.eq_iff_iff,decide_eq_true_iff];unfold Pm.Own;simp only[Bool.and_eq_true,beq_iff_eq,true_and,and_true];constructor<;>intro _<;>omega
theorem avp {x:Pm.Pg}(h:x.r=3)(h':x.p=2∨x.p=3∨x.p=4):(x.e==x.e&&x.r==x.r&&x.a==0&&x.p==x.p&&x.f==x.f&&x.b==x.b)=decide (Pm.Own x):=by
 rw[Bool.eq_iff_iff,decide_eq_true_iff];unfold Pm.Own;simp only[Bool.and_eq_true,beq_iff_eq,true_and,and_true];constructor<;>intro _<;>omega
theorem avn {x:Pm.Pg}(h:x.r=3)(h2:x.p≠2)(h3:x.p≠3)(h4:x.p≠4)(h1:x.p≠1):false=decide (Pm.Own x):=by
 symm;rw[decide_eq_false_iff_not];unfold Pm.Own;omega
theorem avv {x:Pm.Pg}(h1:x.r≠1)(h2:x.r≠2)(h3:x.r≠3):false=decide (Pm.Own x):=by
 symm;rw[decide_eq_false_iff_not];unfold Pm.Own;omega
theorem ac5 (x:Pm.Pg)(w:World)(hx:gF x):
  Calls Tryz.prog 137 #[vp x] w fun E w'=>E=.returned (.bool (decide (Pm.Own x)))∧Below w.heap.size w w':=by
 unfold vp
 obtain⟨g1,g2,g3,g4,g5,g6,g7,g8,g9,g10,g11,g12⟩:=hx
 obtain⟨w1,hw1,aT,ak,hB⟩:=au w #[.int .i64 x.e,.int .u8 x.r,.int .i64 x.a,.int .u8 x.p,.int .i64 x.f,.int .i64 x.b] 46
 obtain⟨a0,a1,a2,a3,a4,a5⟩:=aR hB
 obtain⟨w2,abl,hw2,dm,az,hC,_⟩:=wo w1 46 (.int .i64 0) (.int .u8 0) (.int .i64 0) (.int .u8 0) (.int .i64 0) (.int .i64 0) (.int .i64 x.e) (.int .u8 x.r) (.int .i64 0) (.int .u8 0) (.int .i64 0) (.int .i64 0)
 have hB2:=(az.block _ (aA hB)).trans hB
 rw[aT]at hC
 rw[aT]at abl
 have aK:=ak.trans (az.mono (by omega))
 obtain⟨c0,c1,c2,c3,c4,c5⟩:=aR hB2
 obtain⟨d0,d1,d2,d3,d4,d5⟩:=aR hC
 have s2:w2.setCell ⟨w.heap.size+1,2,none⟩ (.int .i64 0)=w2:=aM hC (j:=2) rfl
 have s3:w2.setCell ⟨w.heap.size+1,3,none⟩ (.int .u8 0)=w2:=aM hC (j:=3) rfl
 have s4:w2.setCell ⟨w.heap.size+1,4,none⟩ (.int .i64 0)=w2:=aM hC (j:=4) rfl
 have s5:w2.setCell ⟨w.heap.size+1,5,none⟩ (.int .i64 0)=w2:=aM hC (j:=5) rfl
 have f2:=aB hC 2
 have f3:=aB hC 3
 have f4:=aB hC 4
 have f5:=aB hC 5
 obtain⟨r,hr⟩:∃r,decide (Pm.Own x)=r:=⟨_,rfl⟩
 rw[hr]
 have HR:=hide hr
 clear hr
 go_enter Tryz.func137,Tryz.ntmps137
 by_cases h1:x.r=1
 ·have h1':(x.r==1)=true:=by simp[h1]
  obtain⟨V,hV,bV,gV,_⟩:=rG hC 2 (.int .i64 x.a)
  obtain⟨e0,e1,e2,e3,e4,e5⟩:=aR (show V.heap[w.heap.size+1]? =some (.cells #[.int .i64 x.e,.int .u8 x.r,.int .i64 x.a,.int .u8 0,.int .i64 0,.int .i64 0] 46 (0,0))from bV)
  obtain⟨k0,k1,k2,k3,k4,k5⟩:=aR ((gV.block w.heap.size (by omega) (by simp)).trans hB2)
  have q:=Tryz.aiL x.e x.r x.a x.p x.f x.b x.e x.r x.a 0 0 0
  rw[avo h1,HR.out]at q
  have aX:=aF aK gV (by omega) (by omega)
  clear h1 hB hC hB2 bV gV aK ak az
  go_wp2
  go_ret
  exact⟨rfl,aX⟩
 have h1':(x.r==1)=false:=by simpa using h1
 by_cases h2:x.r=2
 ·have h2':(x.r==2)=true:=by simp[h2]
  have q:=Tryz.aiL x.e x.r x.a x.p x.f x.b x.e x.r 0 0 0 0
  rw[avG h2,HR.out]at q
  clear h1 h2 hB hC hB2 ak az
  go_wp2
  go_ret
  exact⟨rfl,aK⟩
 have h2':(x.r==2)=false:=by simpa using h2
 by_cases h3:x.r=3
 ·have h3':(x.r==3)=true:=by simp[h3]
  by_cases p1:x.p=1
  ·have p1':(x.p==1)=true:=by simp[p1]
   have p2':(x.p==2)=false:=by simp;omega
   have p3':(x.p==3)=false:=by simp;omega
   have p4':(x.p==4)=false:=by simp;omega
   obtain⟨V,hV,bV,gV,_⟩:=rG hC 3 (.int .u8 x.p)
   obtain⟨e0,e1,e2,e3,e4,e5⟩:=aR (show V.heap[w.heap.size+1]? =some (.cells #[.int .i64 x.e,.int .u8 x.r,.int .i64 0,.int .u8 x.p,.int .i64 0,.int .i64 0] 46 (0,0))from bV)
   obtain⟨k0,k1,k2,k3,k4,k5⟩:=aR ((gV.block w.heap.size (by omega) (by simp)).trans hB2)
   have q:=Tryz.aiL x.e x.r x.a x.p x.f x.b x.e x.r 0 x.p 0 0
   rw[avN h3 p1,HR.out]at q
   have aX:=aF aK gV (by omega) (by omega)
   clear h1 h2 h3 p1 hB hC hB2 bV gV aK ak az
   go_wp2
   go_ret
   exact⟨rfl,aX⟩
  have p1':(x.p==1)=false:=by simpa using p1
  by_cases pp:x.p=2∨x.p=3∨x.p=4
  ·obtain⟨V4,hV4,bV4,vK,_⟩:=rG hC 4 (.int .i64 x.f)
   have b4:V4.heap[w.heap.size+1]? =some (.cells #[.int .i64 x.e,.int .u8 x.r,.int .i64 0,.int .u8 0,.int .i64 x.f,.int .i64 0] 46 (0,0)):=bV4
   have hB4:=(vK.block w.heap.size (by omega) (by simp)).trans hB2
   have iE:=vK.size
   obtain⟨l0,l1,l2,l3,l4,l5⟩:=aR hB4
   obtain⟨y0,y1,y2,y3,y4,y5⟩:=aR b4
   obtain⟨V5,uK,xY,rF,n5⟩:=rG b4 5 (.int .i64 x.b)
   have b5:V5.heap[w.heap.size+1]? =some (.cells #[.int .i64 x.e,.int .u8 x.r,.int .i64 0,.int .u8 0,.int .i64 x.f,.int .i64 x.b] 46 (0,0)):=xY
   have xZ:=(rF.block w.heap.size (by omega) (by simp)).trans hB4
   have aL:=aF aK vK (by omega) (by omega)
   have aQ:=aF aL rF (by omega) (by omega)
   have lU:=rF.size
   obtain⟨V,hV,bV,gV,n3⟩:=rG (V:=V5.drew) b5 3 (.int .u8 x.p)
   obtain⟨e0,e1,e2,e3,e4,e5⟩:=aR (show V.heap[w.heap.size+1]? =some (.cells #[.int .i64 x.e,.int .u8 x.r,.int .i64 0,.int .u8 x.p,.int .i64 x.f,.int .i64 x.b] 46 (0,0))from bV)
   have szd:V5.drew.heap.size=V5.heap.size:=rfl
   obtain⟨k0,k1,k2,k3,k4,k5⟩:=aR ((gV.block w.heap.size (by omega) (by simp)).trans xZ)
   have t3:V5.drew.cell? ⟨w.heap.size,3,none⟩=some (.int .u8 x.p):=ai (w:=V5.drew) xZ 3 rfl
   have t33:V5.drew.cell? ⟨w.heap.size+1,3,none⟩=some (.int .u8 0):=ai (w:=V5.drew) b5 3 rfl
   have aX:=aF aQ.drew gV (by omega) (by omega)
   have HH:=hide (And.intro hV (And.intro n3 (And.intro e0 (And.intro e1 (And.intro e2 (And.intro e3 (And.intro e4 (And.intro e5 (And.intro k0 (And.intro k1 (And.intro k2 (And.intro k3 (And.intro k4 (And.intro k5 (And.intro t3 t33)))))))))))))))
   clear hV n3 e0 e1 e2 e3 e4 e5 k0 k1 k2 k3 k4 k5 t3 t33 bV gV aQ
   have q:=Tryz.aiL x.e x.r x.a x.p x.f x.b x.e x.r 0 x.p x.f x.b
   rw[avp h3 pp,HR.out]at q
   rcases pp with pp|pp|pp
   ·have p2':(x.p==2)=true:=by simp[pp]
    clear h1 h2 h3 p1 pp hB hC hB2 bV4 vK b4 hB4 xY rF b5 xZ aK ak az aL
    go_wp2
    go_region
    clear hV4 uK c0 c1 c2 c3 c4 c5 d0 d1 d2 d3 d4 d5 l0 l1 l2 l3 l4 l5 y0 y1 y2 y3 y4 y5 n5
    obtain⟨hV,n3,e0,e1,e2,e3,e4,e5,k0,k1,k2,k3,k4,k5,t3,t33⟩:=HH.out
    clear HH
    go_wp2
    go_ret
    exact⟨rfl,aX⟩
   ·have p2':(x.p==2)=false:=by simp;omega
    have p3':(x.p==3)=true:=by simp[pp]
    clear h1 h2 h3 p1 pp hB hC hB2 bV4 vK b4 hB4 xY rF b5 xZ aK ak az aL
    go_wp2
    go_region
    clear hV4 uK c0 c1 c2 c3 c4 c5 d0 d1 d2 d3 d4 d5 l0 l1 l2 l3 l4 l5 y0 y1 y2 y3 y4 y5 n5
    obtain⟨hV,n3,e0,e1,e2,e3,e4,e5,k0,k1,k2,k3,k4,k5,t3,t33⟩:=HH.out
    clear HH
    go_wp2
    go_ret
    exact⟨rfl,aX⟩
   ·have p2':(x.p==2)=false:=by simp;omega
    have p3':(x.p==3)=false:=by simp;omega
    have p4':(x.p==4)=true:=by simp[pp]
    clear h1 h2 h3 p1 pp hB hC hB2 bV4 vK b4 hB4 xY rF b5 xZ aK ak az aL
    go_wp2
    go_region
    clear hV4 uK c0 c1 c2 c3 c4 c5 d0 d1 d2 d3 d4 d5 l0 l1 l2 l3 l4 l5 y0 y1 y2 y3 y4 y5 n5
    obtain⟨hV,n3,e0,e1,e2,e3,e4,e5,k0,k1,k2,k3,k4,k5,t3,t33⟩:=HH.out
    clear HH
    go_wp2
    go_ret
    exact⟨rfl,aX⟩
  ·have p2':(x.p==2)=false:=by simp;omega
   have p3':(x.p==3)=false:=by simp;omega
   have p4':(x.p==4)=false:=by simp;omega
   have q:=avn h3 (by omega) (by omega) (by omega) p1
   rw[HR.out]at q
   subst q
   clear h1 h2 h3 p1 pp hB hC hB2 ak az HR
   go_wp2
   go_ret
   exact⟨rfl,aK⟩
 ·have h3':(x.r==3)=false:=by simpa using h3
  have q:=avv h1 h2 h3
  rw[HR.out]at q
  subst q
  clear h1 h2 h3 hB hC hB2 ak az HR
  go_wp2
  go_ret
  exact⟨rfl,aK⟩
theorem qG (x:Pm.Pg):(x.e<1→Pm.chk x=2)∧(¬Up x 6→Pm.chk x=2)∧(¬Pm.Own x→Pm.chk x=2)∧(¬x.e<1→Up x 6→Pm.Own x→Pm.chk x=0):=by
 refine⟨fun h=>Pm.gL fun ho=>?_,fun h=>Pm.gL fun ho=>h ?_,fun h=>Pm.gL fun ho=>h ho.2,fun h1 h2 h3=>Pm.iR ⟨?_,h3⟩⟩
 ·have:=Pm.jm ho;omega
 ·have:=Pm.jm ho
  intro i hi
  obtain rfl|rfl|rfl|rfl|rfl|rfl:i=0∨i=1∨i=2∨i=3∨i=4∨i=5:=by omega
  all_goals simp[Pm.nums,gu];omega
 ·have:=iQ h2
  unfold Pm.Bnd
  omega
theorem jo (x:Pm.Pg)(w:World)(hx:gF x)(hm:fC w):
  Calls Tryz.prog 61 #[vp x] w fun E w'=>E=.returned (.int .i64 (Pm.chk x))∧Below w.heap.size w w':=by
 obtain⟨t1,t2,t3,t4⟩:=qG x
 obtain⟨w1,hw1,aT,ak,hB⟩:=au w #[.int .i64 x.e,.int .u8 x.r,.int .i64 x.a,.int .u8 x.p,.int .i64 x.f,.int .i64 x.b] 46
 have HV:Hid (vp x=.agg #[.int .i64 x.e,.int .u8 x.r,.int .i64 x.a,.int .u8 x.p,.int .i64 x.f,.int .i64 x.b]):=rfl
 obtain⟨c0,c1,c2,c3,c4,c5⟩:=aR hB
 have HB:=hide hB
 have HM:=hide (hm.below ak)
 have g:=hx
 obtain⟨ch,hch⟩:∃c,Pm.chk x=c:=⟨_,rfl⟩
 rw[hch]at t1 t2 t3 t4⊢
 have T1:=hide t1;have T2:=hide t2;have T3:=hide t3;have T4:=hide t4
 rw[HV.out]
 clear hB hm hch t1 t2 t3 t4
 obtain⟨g1,g2,g3,g4,g5,g6,g7,g8,g9,g10,g11,g12⟩:=g
 have HX:=hide hx
 clear hx
 go_enter Tryz.func61,Tryz.ntmps61
 by_cases h1:x.e<1
 ·have q:=T1.out h1
  subst q
  clear T1 T2 T3 T4
  go_wp2
  go_ret
  exact⟨rfl,ak⟩
 go_wp2_with fail
 refine(uk x _ HX.out).mono ?_
 rintro E w2 ⟨rfl,az⟩
 have dm:=az.size
 have hB2:=(az.block _ (by omega)).trans HB.out
 have HM2:=hide (HM.out.below az)
 have aO:=ak.trans (az.mono (by omega))
 have HB2:=hide hB2
 clear HB HM hB2 c0 c1 c2 c3 c4 c5
 go_wp2_with fail
 refine(aeL x _ HX.out HM2.out).mono ?_
 rintro E w3 ⟨rfl,aC⟩
 have bJ:=aC.size
 have hB3:=(aC.block _ (by omega)).trans HB2.out
 have aW:=aO.trans (aC.mono (by omega))
 obtain⟨c0,c1,c2,c3,c4,c5⟩:=aR hB3
 clear HB2 hB3 ak az aC aO
 by_cases h2:Up x 6
 ·rw[abF.2 h2]
  have H2:=hide h2
  clear h2
  go_wp2_with fail
  refine(ac5 x _ HX.out).mono ?_
  rintro E w4 ⟨rfl,aL⟩
  have di:=aW.trans (aL.mono (by omega))
  by_cases h3:Pm.Own x
  ·rw[decide_eq_true h3]
   have q:=T4.out h1 H2.out h3
   subst q
   clear h3 T1 T2 T3 T4
   go_wp2
   go_ret
   exact⟨rfl,di⟩
  ·rw[decide_eq_false h3]
   have q:=T3.out h3
   subst q
   clear h3 T1 T2 T3 T4
   go_wp2
   go_ret
   exact⟨rfl,di⟩
 ·rw[iP h2]
  have q:=T2.out h2
  subst q
  clear h2 T1 T2 T3 T4
  go_wp2
  go_ret
  exact⟨rfl,aW⟩
def an9 (x:Pm.Pg):List Int:=if Pm.Ok x then Pm.enc x else []
theorem jS {x:Pm.Pg}(h:Pm.Ok x):an9 x=Pm.enc x:=if_pos h
theorem oO {x:Pm.Pg}(h:¬Pm.Ok x):an9 x=[]:=if_neg h
theorem kT (l:List Int)(k:Nat)(h:k<l.length):Pm.encs (l.take k)++Vm.enc (l.getD k 0).toNat=Pm.encs (l.take (k+1)):=by
 rw[List.take_succ_eq_append_getElem h,Pm.iI,List.getD_eq_getElem?_getD,List.getElem?_eq_getElem h]
 simp[Pm.encs]
theorem iC {x:Pm.Pg}(h:Pm.Ok x)(k:Nat):(Pm.encs ((Pm.nums x).take k)).length≤60:=by
 have h1:=Pm.abx h
 have h2:Pm.nums x=(Pm.nums x).take k++(Pm.nums x).drop k:=(List.take_append_drop _ _).symm
 unfold Pm.enc at h1
 rw[h2,Pm.iI,List.length_append]at h1
 omega
theorem kR (z:Int)(h0:0≤z)(h1:z<9223372036854775808):IntKind.u64.wrap z=z:=by
 rw[IntKind.wrap_u64];omega
theorem aiD (x:Pm.Pg)(w:World)(hx:gF x)(hm:fC w):
  Calls Tryz.prog 186 #[vp x] w fun E w'=>∃vb,E=.returned (.tuple #[vb,.int .i64 (Pm.chk x)])∧Own .u8 5 w.heap.size w' vb (an9 x)∧Below w.heap.size w w':=by
 obtain⟨w1,hw1,aT,ak,hB⟩:=au w #[.int .i64 x.e,.int .u8 x.r,.int .i64 x.a,.int .u8 x.p,.int .i64 x.f,.int .i64 x.b] 46
 have HV:Hid (vp x=.agg #[.int .i64 x.e,.int .u8 x.r,.int .i64 x.a,.int .u8 x.p,.int .i64 x.f,.int .i64 x.b]):=rfl
 obtain⟨c0,c1,c2,c3,c4,c5⟩:=aR hB
 have HB:=hide hB
 have HM:=hide (hm.below ak)
 have HX:=hide hx
 rw[HV.out]
 clear hB hm hx
 go_enter Tryz.func186,Tryz.ntmps186
 go_wp2_with fail
 refine(jo x _ HX.out HM.out).mono ?_
 rintro E w2 ⟨rfl,az⟩
 have dm:=az.size
 have hB2:=(az.block _ (by omega)).trans HB.out
 have aO:=ak.trans (az.mono (by omega))
 obtain⟨d0,d1,d2,d3,d4,d5⟩:=aR hB2
 clear HB HM hB2 c0 c1 c2 c3 c4 c5 ak az
 by_cases ho:Pm.Ok x
 ·rw[Pm.iR ho]
  have g:=Pm.jm ho
  obtain⟨g1,g2,g3,g4,g5,g6,g7,g8,g9,g10,g11,g12⟩:=g
  have HO:=hide ho
  clear ho
  go_wp2_with fail
  refine(uk x _ HX.out).mono ?_
  rintro E w3 ⟨rfl,aC⟩
  have bJ:=aC.size
  have aW:=aO.trans (aC.mono (by omega))
  have HN:Hid (vn x=.agg #[.int .i64 x.e,.int .i64 x.r,.int .i64 x.a,.int .i64 x.p,.int .i64 x.f,.int .i64 x.b]):=rfl
  rw[HN.out]
  clear d0 d1 d2 d3 d4 d5 aO aC
  go_wp2
  go_loopw [5,15] (fun bb kk wr=>∃k:Nat,k≤6∧kk=.int .i64 k∧Own .u8 5 w.heap.size wr bb (Pm.encs ((Pm.nums x).take k))∧Below w.heap.size w wr) (fun _ kk _=>7-(intOf kk).toNat)
  case atStart=>exact⟨0,by omega,rfl,Own.nil _ _ _ _,aW⟩
  case round=>
   obtain⟨k,hk,rfl,own,gm⟩:=hrel
   have szr:=gm.size
   rcases(show k=0∨k=1∨k=2∨k=3∨k=4∨k=5∨k=6 by omega)with rfl|rfl|rfl|rfl|rfl|rfl|rfl
   ·have hix:=Tryz.asM x.e x.r x.a x.p x.f x.b
    have hwr:=kR x.e (by omega) (by omega)
    have hln:=iC HO.out 0
    go_wp2_with fail
    refine(fK _ _ x.e _ own.is (by omega) (by omega) (by omega)).mono ?_
    rintro E w4 ⟨v4,rfl,bq,aL⟩
    have e:Pm.encs ((Pm.nums x).take 0)++Vm.enc x.e.toNat=Pm.encs ((Pm.nums x).take 1):=kT (Pm.nums x) 0 (by simp[Pm.nums])
    rw[e]at bq
    have dx:=bq.bz (base':=w.heap.size) (by omega)
    have aQ:=gm.trans (aL.mono (by omega))
    clear own bq e aL
    go_wp2
    go_roundw
    case rel=>exact⟨1,by omega,rfl,dx,aQ⟩
    case measure=>simp[intOf]
   ·have hix:=Tryz.asA x.e x.r x.a x.p x.f x.b
    have hwr:=kR x.r (by omega) (by omega)
    have hln:=iC HO.out 1
    go_wp2_with fail
    refine(fK _ _ x.r _ own.is (by omega) (by omega) (by omega)).mono ?_
    rintro E w4 ⟨v4,rfl,bq,aL⟩
    have e:Pm.encs ((Pm.nums x).take 1)++Vm.enc x.r.toNat=Pm.encs ((Pm.nums x).take 2):=kT (Pm.nums x) 1 (by simp[Pm.nums])
    rw[e]at bq
    have dx:=bq.bz (base':=w.heap.size) (by omega)
    have aQ:=gm.trans (aL.mono (by omega))
    clear own bq e aL
    go_wp2
    go_roundw
    case rel=>exact⟨2,by omega,rfl,dx,aQ⟩
    case measure=>simp[intOf]
   ·have hix:=Tryz.auq x.e x.r x.a x.p x.f x.b
    have hwr:=kR x.a (by omega) (by omega)
    have hln:=iC HO.out 2
    go_wp2_with fail
    refine(fK _ _ x.a _ own.is (by omega) (by omega) (by omega)).mono ?_
    rintro E w4 ⟨v4,rfl,bq,aL⟩
    have e:Pm.encs ((Pm.nums x).take 2)++Vm.enc x.a.toNat=Pm.encs ((Pm.nums x).take 3):=kT (Pm.nums x) 2 (by simp[Pm.nums])
    rw[e]at bq
    have dx:=bq.bz (base':=w.heap.size) (by omega)
    have aQ:=gm.trans (aL.mono (by omega))
    clear own bq e aL
    go_wp2
    go_roundw
    case rel=>exact⟨3,by omega,rfl,dx,aQ⟩
    case measure=>simp[intOf]
   ·have hix:=Tryz.arU x.e x.r x.a x.p x.f x.b
    have hwr:=kR x.p (by omega) (by omega)
    have hln:=iC HO.out 3
    go_wp2_with fail
    refine(fK _ _ x.p _ own.is (by omega) (by omega) (by omega)).mono ?_
    rintro E w4 ⟨v4,rfl,bq,aL⟩
    have e:Pm.encs ((Pm.nums x).take 3)++Vm.enc x.p.toNat=Pm.encs ((Pm.nums x).take 4):=kT (Pm.nums x) 3 (by simp[Pm.nums])
    rw[e]at bq
    have dx:=bq.bz (base':=w.heap.size) (by omega)
    have aQ:=gm.trans (aL.mono (by omega))
    clear own bq e aL
    go_wp2
    go_roundw
    case rel=>exact⟨4,by omega,rfl,dx,aQ⟩
    case measure=>simp[intOf]
   ·have hix:=Tryz.att x.e x.r x.a x.p x.f x.b
    have hwr:=kR x.f (by omega) (by omega)
    have hln:=iC HO.out 4
    go_wp2_with fail
    refine(fK _ _ x.f _ own.is (by omega) (by omega) (by omega)).mono ?_
    rintro E w4 ⟨v4,rfl,bq,aL⟩
    have e:Pm.encs ((Pm.nums x).take 4)++Vm.enc x.f.toNat=Pm.encs ((Pm.nums x).take 5):=kT (Pm.nums x) 4 (by simp[Pm.nums])
    rw[e]at bq
    have dx:=bq.bz (base':=w.heap.size) (by omega)
    have aQ:=gm.trans (aL.mono (by omega))
    clear own bq e aL
    go_wp2
    go_roundw
    case rel=>exact⟨5,by omega,rfl,dx,aQ⟩
    case measure=>simp[intOf]
   ·have hix:=Tryz.atc x.e x.r x.a x.p x.f x.b
    have hwr:=kR x.b (by omega) (by omega)
    have hln:=iC HO.out 5
    go_wp2_with fail
    refine(fK _ _ x.b _ own.is (by omega) (by omega) (by omega)).mono ?_
    rintro E w4 ⟨v4,rfl,bq,aL⟩
    have e:Pm.encs ((Pm.nums x).take 5)++Vm.enc x.b.toNat=Pm.encs ((Pm.nums x).take 6):=kT (Pm.nums x) 5 (by simp[Pm.nums])
    rw[e]at bq
    have dx:=bq.bz (base':=w.heap.size) (by omega)
    have aQ:=gm.trans (aL.mono (by omega))
    clear own bq e aL
    go_wp2
    go_roundw
    case rel=>exact⟨6,by omega,rfl,dx,aQ⟩
    case measure=>simp[intOf]
   ·go_wp2
    go_ret2
    exact⟨_,by rw[Pm.iR HO.out];rfl,by rw[jS HO.out];exact own,gm⟩
 ·rw[Pm.gL ho]
  have HO:=hide ho
  clear ho
  go_wp2
  go_ret2
  exact⟨_,by rw[Pm.gL HO.out];rfl,by rw[oO HO.out];exact Own.nil _ _ _ _,aO⟩
def DI (bs:List Int) (w wr:World) (x:Pm.Pg) (k:Nat) (a:Nat):Prop:=
 wr.heap[w.heap.size]? =some (.cells #[.int .i64 0,.int .u8 0,.int .i64 0,.int .u8 0,.int .i64 0,.int .i64 0] 46 (0,0))∧
 wr.heap[w.heap.size+1]? =some (.cells #[.int .i64 x.e,.int .i64 x.r,.int .i64 x.a,.int .i64 x.p,.int .i64 x.f,.int .i64 x.b] 190 (0,0))∧
 Below w.heap.size w wr∧Pm.encs ((Pm.nums x).take k)<+:bs∧a=(Pm.encs ((Pm.nums x).take k)).length∧Up x k
def LI (bs:List Int) (w wr:World) (L:Nat) (z x:Pm.Pg) (a:Nat):Prop:=
 wr.heap[w.heap.size]? =some (.cells #[.int .i64 0,.int .u8 0,.int .i64 0,.int .u8 0,.int .i64 0,.int .i64 0] 46 (0,0))∧
 wr.heap[L]? =some (.cells #[.int .i64 x.e,.int .u8 x.r,.int .i64 x.a,.int .u8 x.p,.int .i64 x.f,.int .i64 x.b] 46 (0,0))∧
 w.heap.size<L∧Below w.heap.size w wr∧Pm.Go bs z x a∧gF x
theorem jO (x:Pm.Pg)(w:World):∃w1 w2,w.alloc (.cells #[.int .i64 x.e,.int .u8 x.r,.int .i64 x.a,.int .u8 x.p,.int .i64 x.f,.int .i64 x.b] 46)=w1∧w1.alloc (.cells #[.int .i64 0,.int .u8 0,.int .i64 0,.int .u8 0,.int .i64 0,.int .i64 0] 46)=w2∧w1.heap.size=w.heap.size+1∧w2.heap.size=w.heap.size+2∧Below w.heap.size w w2∧Six w2 w.heap.size (.int .i64 x.e) (.int .u8 x.r) (.int .i64 x.a) (.int .u8 x.p) (.int .i64 x.f) (.int .i64 x.b)∧Hid (∀W,Below w2.heap.size w2 W→W.heap[w.heap.size]? =some (.cells #[.int .i64 x.e,.int .u8 x.r,.int .i64 x.a,.int .u8 x.p,.int .i64 x.f,.int .i64 x.b] 46 (0,0))∧W.heap[w.heap.size+1]? =some (.cells #[.int .i64 0,.int .u8 0,.int .i64 0,.int .u8 0,.int .i64 0,.int .i64 0] 46 (0,0))∧Below w.heap.size w W∧w.heap.size+2≤W.heap.size):=by
 obtain⟨w1,h1,s1,b1,p1⟩:=au w #[.int .i64 x.e,.int .u8 x.r,.int .i64 x.a,.int .u8 x.p,.int .i64 x.f,.int .i64 x.b] 46
 obtain⟨w2,h2,s2,b2,p2⟩:=au w1 #[.int .i64 0,.int .u8 0,.int .i64 0,.int .u8 0,.int .i64 0,.int .i64 0] 46
 have q1:=(b2.block w.heap.size (by omega)).trans p1
 rw[s1]at p2
 refine⟨w1,w2,h1,h2,s1,by omega,b1.trans (b2.mono (by omega)),aR q1,hide fun W hW=>⟨?_,?_,(b1.trans (b2.mono (by omega))).trans (hW.mono (by omega)),by have:=hW.size;omega⟩⟩
 ·exact(hW.block w.heap.size (by omega)).trans q1
 ·exact(hW.block (w.heap.size+1) (by omega)).trans p2
theorem qR {V V':World}{g h:Nat}(hg:V.grownBy V' (some g))(hne:h≠g∧h<V.heap.size):V'.heap[h]? =V.heap[h]? :=hg.block h hne.2 (by simp;exact hne.1)
end Go.Proofs.YtlmkaljjocflmaaGreatDoor
