/- Texts of one layer, one behind the other. -/
import Derived.Test.YtpifdeoepppadaaGreatDoorG8
import Derived.Test.YtpifdeoepppadaaGreatDoorG7
import Derived.WalkMore
set_option maxRecDepth 100000
set_option maxHeartbeats 8000000
namespace Go.Proofs.YtpifdeoepppadaaGreatDoor
open Go.RowKit
set_option linter.unusedVariables false
def ib (w:World):Prop:=Six w 0 (.int .i64 1048576) (.int .i64 3) (.int .i64 1048576) (.int .i64 4) (.int .i64 1048576) (.int .i64 1073741824)
theorem ib.pos {w:World}(h:ib w):0<w.heap.size:=by
 have:=h.c0
 rcases Nat.lt_or_ge 0 w.heap.size with h'|h'
 ·exact h'
 ·have:w.heap[0]? =none:=Array.getElem?_eq_none (by omega)
  have h0:=h.c0
  simp[World.cell?,this]at h0
theorem ib.below {w w':World}(h:ib w)(b:Below w.heap.size w w'):ib w':=by
 have hp:=h.pos
 have e:∀j,w'.cell? ⟨0,j,none⟩=w.cell? ⟨0,j,none⟩:=fun j=>b.cell (p:=⟨0,j,none⟩) hp
 exact⟨(e 0).trans h.c0,(e 1).trans h.c1,(e 2).trans h.c2,(e 3).trans h.c3,(e 4).trans h.c4,(e 5).trans h.c5⟩
def gB:List Int:=[1048576,3,1048576,4,1048576,1073741824]
def Up (x:Pm.Pg) (k:Nat):Prop:=∀i,i<k→0≤(Pm.nums x).getD i 0∧(Pm.nums x).getD i 0≤gB.getD i 0
theorem Up.next {x:Pm.Pg}{k:Nat}(h:Up x k)(h0:0≤(Pm.nums x).getD k 0)(h1:(Pm.nums x).getD k 0≤gB.getD k 0):Up x (k+1):=by
 intro i hi
 by_cases e:i=k
 ·subst e;exact⟨h0,h1⟩
 ·exact h i (by omega)
def upx (x:Pm.Pg):Bool:=decide (0≤x.e∧x.e≤1048576∧0≤x.r∧x.r≤3∧0≤x.a∧x.a≤1048576∧0≤x.p∧x.p≤4∧0≤x.f∧x.f≤1048576∧0≤x.b∧x.b≤1073741824)
theorem adU {x:Pm.Pg}:upx x=true↔Up x 6:=by
 unfold upx
 rw[decide_eq_true_iff]
 refine⟨fun h i hi=>?_,fun h=>?_⟩
 ·obtain rfl|rfl|rfl|rfl|rfl|rfl:i=0∨i=1∨i=2∨i=3∨i=4∨i=5:=by omega
  all_goals simp[Pm.nums,gB];omega
 ·have h0:=h 0 (by omega);have h1:=h 1 (by omega);have h2:=h 2 (by omega);have h3:=h 3 (by omega);have h4:=h 4 (by omega);have h5:=h 5 (by omega)
  simp[Pm.nums,gB]at h0 h1 h2 h3 h4 h5
  omega
theorem jE {x:Pm.Pg}(h:¬Up x 6):upx x=false:=by
 cases hu:upx x with
 |false=>rfl
 |true=>exact absurd (adU.1 hu) h
theorem jf {x:Pm.Pg}(h:Up x 6):0≤x.e∧x.e≤1048576∧0≤x.r∧x.r≤3∧0≤x.a∧x.a≤1048576∧0≤x.p∧x.p≤4∧0≤x.f∧x.f≤1048576∧0≤x.b∧x.b≤1073741824:=by
 have h0:=h 0 (by omega);have h1:=h 1 (by omega);have h2:=h 2 (by omega);have h3:=h 3 (by omega);have h4:=h 4 (by omega);have h5:=h 5 (by omega)
 simp[Pm.nums,gB]at h0 h1 h2 h3 h4 h5
 omega
theorem iw {a b:Bool}(h:b=a):Ending.returned (.bool a)=.returned (.bool b):=by rw[h]
theorem Tryz.axL (a b c d e f:Int)(w:World):(Instr.index 168 (.agg #[.int .i64 a,.int .i64 b,.int .i64 c,.int .i64 d,.int .i64 e,.int .i64 f]) (.int .i64 0)).run Tryz.prog w=.ok (.int .i64 a) w:=by kernel_rfl
theorem Tryz.avU (a b c d e f:Int)(w:World):(Instr.index 168 (.agg #[.int .i64 a,.int .i64 b,.int .i64 c,.int .i64 d,.int .i64 e,.int .i64 f]) (.int .i64 1)).run Tryz.prog w=.ok (.int .i64 b) w:=by kernel_rfl
theorem Tryz.avY (a b c d e f:Int)(w:World):(Instr.index 168 (.agg #[.int .i64 a,.int .i64 b,.int .i64 c,.int .i64 d,.int .i64 e,.int .i64 f]) (.int .i64 2)).run Tryz.prog w=.ok (.int .i64 c) w:=by kernel_rfl
theorem Tryz.ayP (a b c d e f:Int)(w:World):(Instr.index 168 (.agg #[.int .i64 a,.int .i64 b,.int .i64 c,.int .i64 d,.int .i64 e,.int .i64 f]) (.int .i64 3)).run Tryz.prog w=.ok (.int .i64 d) w:=by kernel_rfl
theorem Tryz.avR (a b c d e f:Int)(w:World):(Instr.index 168 (.agg #[.int .i64 a,.int .i64 b,.int .i64 c,.int .i64 d,.int .i64 e,.int .i64 f]) (.int .i64 4)).run Tryz.prog w=.ok (.int .i64 e) w:=by kernel_rfl
theorem Tryz.aw0 (a b c d e f:Int)(w:World):(Instr.index 168 (.agg #[.int .i64 a,.int .i64 b,.int .i64 c,.int .i64 d,.int .i64 e,.int .i64 f]) (.int .i64 5)).run Tryz.prog w=.ok (.int .i64 f) w:=by kernel_rfl
theorem ahU (x:Pm.Pg)(w:World)(hx:dW x)(hm:ib w):
  Calls Tryz.prog 132 #[vn x] w fun E w'=>E=.returned (.bool (upx x))∧Below w.heap.size w w':=by
 unfold vn
 obtain⟨g1,g2,g3,g4,g5,g6,g7,g8,g9,g10,g11,g12⟩:=hx
 obtain⟨w1,hw1,bH,ax,hB⟩:=ay w #[.int .i64 x.e,.int .i64 x.r,.int .i64 x.a,.int .i64 x.p,.int .i64 x.f,.int .i64 x.b] 168
 obtain⟨c0,c1,c2,c3,c4,c5⟩:=bO hB
 obtain⟨m0,m1,m2,m3,m4,m5⟩:=hm.below ax
 obtain⟨r,hr⟩:∃r,upx x=r:=⟨_,rfl⟩
 rw[hr]
 have HR:=hide hr
 clear hB hr hm
 go_enter Tryz.func132,Tryz.ntmps132
 go_wp2
 go_loop [6] (fun kk=>∃k:Nat,k≤6∧kk=.int .i64 k∧Hid (Up x k)) (fun kk=>7-(intOf kk).toNat)
 case atStart=>exact⟨0,by omega,rfl,fun i hi=>by omega⟩
 case round=>
  obtain⟨k,hk,rfl,hu⟩:=hrel
  rcases(show k=0∨k=1∨k=2∨k=3∨k=4∨k=5∨k=6 by omega)with rfl|rfl|rfl|rfl|rfl|rfl|rfl
  ·have hix:=Tryz.axL x.e x.r x.a x.p x.f x.b
   by_cases hlo:x.e<0
   ·have hbad:¬Up x 6:=fun h=>by have:=(jf h);omega
    go_wp2
    go_ret
    exact⟨iw (by rw[←HR.out];exact jE hbad),ax⟩
   ·by_cases hhi:1048576<x.e
    ·have hbad:¬Up x 6:=fun h=>by have:=(jf h);omega
     go_wp2
     go_ret
     exact⟨iw (by rw[←HR.out];exact jE hbad),ax⟩
    ·have hn:Hid (Up x 1):=hu.out.next (by simp[Pm.nums];omega) (by simp[Pm.nums,gB];omega)
     go_wp2
     go_round
     case rel=>exact⟨1,by omega,rfl,hn⟩
     case measure=>simp[intOf]
  ·have hix:=Tryz.avU x.e x.r x.a x.p x.f x.b
   by_cases hlo:x.r<0
   ·have hbad:¬Up x 6:=fun h=>by have:=(jf h);omega
    go_wp2
    go_ret
    exact⟨iw (by rw[←HR.out];exact jE hbad),ax⟩
   ·by_cases hhi:3<x.r
    ·have hbad:¬Up x 6:=fun h=>by have:=(jf h);omega
     go_wp2
     go_ret
     exact⟨iw (by rw[←HR.out];exact jE hbad),ax⟩
    ·have hn:Hid (Up x 2):=hu.out.next (by simp[Pm.nums];omega) (by simp[Pm.nums,gB];omega)
     go_wp2
     go_round
     case rel=>exact⟨2,by omega,rfl,hn⟩
     case measure=>simp[intOf]
  ·have hix:=Tryz.avY x.e x.r x.a x.p x.f x.b
   by_cases hlo:x.a<0
   ·have hbad:¬Up x 6:=fun h=>by have:=(jf h);omega
    go_wp2
    go_ret
    exact⟨iw (by rw[←HR.out];exact jE hbad),ax⟩
   ·by_cases hhi:1048576<x.a
    ·have hbad:¬Up x 6:=fun h=>by have:=(jf h);omega
     go_wp2
     go_ret
     exact⟨iw (by rw[←HR.out];exact jE hbad),ax⟩
    ·have hn:Hid (Up x 3):=hu.out.next (by simp[Pm.nums];omega) (by simp[Pm.nums,gB];omega)
     go_wp2
     go_round
     case rel=>exact⟨3,by omega,rfl,hn⟩
     case measure=>simp[intOf]
  ·have hix:=Tryz.ayP x.e x.r x.a x.p x.f x.b
   by_cases hlo:x.p<0
   ·have hbad:¬Up x 6:=fun h=>by have:=(jf h);omega
    go_wp2
    go_ret
    exact⟨iw (by rw[←HR.out];exact jE hbad),ax⟩
   ·by_cases hhi:4<x.p
    ·have hbad:¬Up x 6:=fun h=>by have:=(jf h);omega
     go_wp2
     go_ret
     exact⟨iw (by rw[←HR.out];exact jE hbad),ax⟩
    ·have hn:Hid (Up x 4):=hu.out.next (by simp[Pm.nums];omega) (by simp[Pm.nums,gB];omega)
     go_wp2
     go_round
     case rel=>exact⟨4,by omega,rfl,hn⟩
     case measure=>simp[intOf]
  ·have hix:=Tryz.avR x.e x.r x.a x.p x.f x.b
   by_cases hlo:x.f<0
   ·have hbad:¬Up x 6:=fun h=>by have:=(jf h);omega
    go_wp2
    go_ret
    exact⟨iw (by rw[←HR.out];exact jE hbad),ax⟩
   ·by_cases hhi:1048576<x.f
    ·have hbad:¬Up x 6:=fun h=>by have:=(jf h);omega
     go_wp2
     go_ret
     exact⟨iw (by rw[←HR.out];exact jE hbad),ax⟩
    ·have hn:Hid (Up x 5):=hu.out.next (by simp[Pm.nums];omega) (by simp[Pm.nums,gB];omega)
     go_wp2
     go_round
     case rel=>exact⟨5,by omega,rfl,hn⟩
     case measure=>simp[intOf]
  ·have hix:=Tryz.aw0 x.e x.r x.a x.p x.f x.b
   by_cases hlo:x.b<0
   ·have hbad:¬Up x 6:=fun h=>by have:=(jf h);omega
    go_wp2
    go_ret
    exact⟨iw (by rw[←HR.out];exact jE hbad),ax⟩
   ·by_cases hhi:1073741824<x.b
    ·have hbad:¬Up x 6:=fun h=>by have:=(jf h);omega
     go_wp2
     go_ret
     exact⟨iw (by rw[←HR.out];exact jE hbad),ax⟩
    ·have hn:Hid (Up x 6):=hu.out.next (by simp[Pm.nums];omega) (by simp[Pm.nums,gB];omega)
     go_wp2
     go_round
     case rel=>exact⟨6,by omega,rfl,hn⟩
     case measure=>simp[intOf]
  ·have hg:=hu.out
   go_wp2
   go_ret
   exact⟨iw (by rw[←HR.out];exact adU.2 hg),ax⟩
theorem jT {V:World}{R:Nat}{t:TypeId}{cs:Array Value}(hR:V.heap[R]? =some (.cells cs t (0,0)))(j:Nat)(u:Value):
  ∃V',V.setCell ⟨R,j,none⟩ u=V'∧V'.heap[R]? =some (.cells (cs.setIfInBounds j u) t (0,0))∧V.grownBy V' (some R)∧V.frozen? ⟨R,j,none⟩=false:=
 ⟨_,rfl,aL hR j u,aC _ _ _,az hR j⟩
theorem azP {x:Pm.Pg}(h:x.r=1):(x.e==x.e&&x.r==x.r&&x.a==x.a&&x.p==0&&x.f==0&&x.b==0)=decide (Pm.Own x):=by
 rw[Bool.eq_iff_iff,decide_eq_true_iff];unfold Pm.Own;simp only[Bool.and_eq_true,beq_iff_eq,true_and,and_true];constructor<;>intro _<;>omega
theorem azH {x:Pm.Pg}(h:x.r=2):(x.e==x.e&&x.r==x.r&&x.a==0&&x.p==0&&x.f==0&&x.b==0)=decide (Pm.Own x):=by
 rw[Bool.eq_iff_iff,decide_eq_true_iff];unfold Pm.Own;simp only[Bool.and_eq_true,beq_iff_eq,true_and,and_true];constructor<;>intro _<;>omega
theorem azz {x:Pm.Pg}(h:x.r=3)(h':x.p=1):(x.e==x.e&&x.r==x.r&&x.a==0&&x.p==x.p&&x.f==0&&x.b==0)=decide (Pm.Own x):=by
 rw[Bool.eq_iff_iff,decide_eq_true_iff];unfold Pm.Own;simp only[Bool.and_eq_true,beq_iff_eq,true_and,and_true];constructor<;>intro _<;>omega
theorem azE {x:Pm.Pg}(h:x.r=3)(h':x.p=2∨x.p=3∨x.p=4):(x.e==x.e&&x.r==x.r&&x.a==0&&x.p==x.p&&x.f==x.f&&x.b==x.b)=decide (Pm.Own x):=by
 rw[Bool.eq_iff_iff,decide_eq_true_iff];unfold Pm.Own;simp only[Bool.and_eq_true,beq_iff_eq,true_and,and_true];constructor<;>intro _<;>omega
theorem azB {x:Pm.Pg}(h:x.r=3)(h2:x.p≠2)(h3:x.p≠3)(h4:x.p≠4)(h1:x.p≠1):false=decide (Pm.Own x):=by
 symm;rw[decide_eq_false_iff_not];unfold Pm.Own;omega
theorem azF {x:Pm.Pg}(h1:x.r≠1)(h2:x.r≠2)(h3:x.r≠3):false=decide (Pm.Own x):=by
 symm;rw[decide_eq_false_iff_not];unfold Pm.Own;omega
theorem aeX (x:Pm.Pg)(w:World)(hx:dW x):
  Calls Tryz.prog 134 #[vp x] w fun E w'=>E=.returned (.bool (decide (Pm.Own x)))∧Below w.heap.size w w':=by
 unfold vp
 obtain⟨g1,g2,g3,g4,g5,g6,g7,g8,g9,g10,g11,g12⟩:=hx
 obtain⟨w1,hw1,bH,ax,hB⟩:=ay w #[.int .i64 x.e,.int .u8 x.r,.int .i64 x.a,.int .u8 x.p,.int .i64 x.f,.int .i64 x.b] 41
 obtain⟨a0,a1,a2,a3,a4,a5⟩:=bO hB
 obtain⟨w2,aAs,hw2,fA,aB,hC,_⟩:=aba w1 41 (.int .i64 0) (.int .u8 0) (.int .i64 0) (.int .u8 0) (.int .i64 0) (.int .i64 0) (.int .i64 x.e) (.int .u8 x.r) (.int .i64 0) (.int .u8 0) (.int .i64 0) (.int .i64 0)
 have hB2:=(aB.block _ (aA hB)).trans hB
 rw[bH]at hC
 rw[bH]at aAs
 have aF:=ax.trans (aB.mono (by omega))
 obtain⟨c0,c1,c2,c3,c4,c5⟩:=bO hB2
 obtain⟨d0,d1,d2,d3,d4,d5⟩:=bO hC
 have s2:w2.setCell ⟨w.heap.size+1,2,none⟩ (.int .i64 0)=w2:=aI hC (j:=2) rfl
 have s3:w2.setCell ⟨w.heap.size+1,3,none⟩ (.int .u8 0)=w2:=aI hC (j:=3) rfl
 have s4:w2.setCell ⟨w.heap.size+1,4,none⟩ (.int .i64 0)=w2:=aI hC (j:=4) rfl
 have s5:w2.setCell ⟨w.heap.size+1,5,none⟩ (.int .i64 0)=w2:=aI hC (j:=5) rfl
 have f2:=az hC 2
 have f3:=az hC 3
 have f4:=az hC 4
 have f5:=az hC 5
 obtain⟨r,hr⟩:∃r,decide (Pm.Own x)=r:=⟨_,rfl⟩
 rw[hr]
 have HR:=hide hr
 clear hr
 go_enter Tryz.func134,Tryz.ntmps134
 by_cases h1:x.r=1
 ·have h1':(x.r==1)=true:=by simp[h1]
  obtain⟨V,hV,bV,gV,_⟩:=jT hC 2 (.int .i64 x.a)
  obtain⟨e0,e1,e2,e3,e4,e5⟩:=bO (show V.heap[w.heap.size+1]? =some (.cells #[.int .i64 x.e,.int .u8 x.r,.int .i64 x.a,.int .u8 0,.int .i64 0,.int .i64 0] 41 (0,0))from bV)
  obtain⟨k0,k1,k2,k3,k4,k5⟩:=bO ((gV.block w.heap.size (by omega) (by simp)).trans hB2)
  have q:=Tryz.aj5 x.e x.r x.a x.p x.f x.b x.e x.r x.a 0 0 0
  rw[azP h1,HR.out]at q
  have bn:=aK aF gV (by omega) (by omega)
  clear h1 hB hC hB2 bV gV aF ax aB
  go_wp2
  go_ret
  exact⟨rfl,bn⟩
 have h1':(x.r==1)=false:=by simpa using h1
 by_cases h2:x.r=2
 ·have h2':(x.r==2)=true:=by simp[h2]
  have q:=Tryz.aj5 x.e x.r x.a x.p x.f x.b x.e x.r 0 0 0 0
  rw[azH h2,HR.out]at q
  clear h1 h2 hB hC hB2 ax aB
  go_wp2
  go_ret
  exact⟨rfl,aF⟩
 have h2':(x.r==2)=false:=by simpa using h2
 by_cases h3:x.r=3
 ·have h3':(x.r==3)=true:=by simp[h3]
  by_cases p1:x.p=1
  ·have p1':(x.p==1)=true:=by simp[p1]
   have p2':(x.p==2)=false:=by simp;omega
   have p3':(x.p==3)=false:=by simp;omega
   have p4':(x.p==4)=false:=by simp;omega
   obtain⟨V,hV,bV,gV,_⟩:=jT hC 3 (.int .u8 x.p)
   obtain⟨e0,e1,e2,e3,e4,e5⟩:=bO (show V.heap[w.heap.size+1]? =some (.cells #[.int .i64 x.e,.int .u8 x.r,.int .i64 0,.int .u8 x.p,.int .i64 0,.int .i64 0] 41 (0,0))from bV)
   obtain⟨k0,k1,k2,k3,k4,k5⟩:=bO ((gV.block w.heap.size (by omega) (by simp)).trans hB2)
   have q:=Tryz.aj5 x.e x.r x.a x.p x.f x.b x.e x.r 0 x.p 0 0
   rw[azz h3 p1,HR.out]at q
   have bn:=aK aF gV (by omega) (by omega)
   clear h1 h2 h3 p1 hB hC hB2 bV gV aF ax aB
   go_wp2
   go_ret
   exact⟨rfl,bn⟩
  have p1':(x.p==1)=false:=by simpa using p1
  by_cases pp:x.p=2∨x.p=3∨x.p=4
  ·obtain⟨V4,hV4,bV4,gV4,_⟩:=jT hC 4 (.int .i64 x.f)
   have b4:V4.heap[w.heap.size+1]? =some (.cells #[.int .i64 x.e,.int .u8 x.r,.int .i64 0,.int .u8 0,.int .i64 x.f,.int .i64 0] 41 (0,0)):=bV4
   have hB4:=(gV4.block w.heap.size (by omega) (by simp)).trans hB2
   have pK:=gV4.size
   obtain⟨l0,l1,l2,l3,l4,l5⟩:=bO hB4
   obtain⟨y0,y1,y2,y3,y4,y5⟩:=bO b4
   obtain⟨V5,hV5,bV5,gV5,n5⟩:=jT b4 5 (.int .i64 x.b)
   have b5:V5.heap[w.heap.size+1]? =some (.cells #[.int .i64 x.e,.int .u8 x.r,.int .i64 0,.int .u8 0,.int .i64 x.f,.int .i64 x.b] 41 (0,0)):=bV5
   have hB5:=(gV5.block w.heap.size (by omega) (by simp)).trans hB4
   have aS:=aK aF gV4 (by omega) (by omega)
   have aX:=aK aS gV5 (by omega) (by omega)
   have pq:=gV5.size
   obtain⟨V,hV,bV,gV,n3⟩:=jT (V:=V5.drew) b5 3 (.int .u8 x.p)
   obtain⟨e0,e1,e2,e3,e4,e5⟩:=bO (show V.heap[w.heap.size+1]? =some (.cells #[.int .i64 x.e,.int .u8 x.r,.int .i64 0,.int .u8 x.p,.int .i64 x.f,.int .i64 x.b] 41 (0,0))from bV)
   have szd:V5.drew.heap.size=V5.heap.size:=rfl
   obtain⟨k0,k1,k2,k3,k4,k5⟩:=bO ((gV.block w.heap.size (by omega) (by simp)).trans hB5)
   have t3:V5.drew.cell? ⟨w.heap.size,3,none⟩=some (.int .u8 x.p):=ai (w:=V5.drew) hB5 3 rfl
   have t33:V5.drew.cell? ⟨w.heap.size+1,3,none⟩=some (.int .u8 0):=ai (w:=V5.drew) b5 3 rfl
   have bn:=aK aX.drew gV (by omega) (by omega)
   have HH:=hide (And.intro hV (And.intro n3 (And.intro e0 (And.intro e1 (And.intro e2 (And.intro e3 (And.intro e4 (And.intro e5 (And.intro k0 (And.intro k1 (And.intro k2 (And.intro k3 (And.intro k4 (And.intro k5 (And.intro t3 t33)))))))))))))))
   clear hV n3 e0 e1 e2 e3 e4 e5 k0 k1 k2 k3 k4 k5 t3 t33 bV gV aX
   have q:=Tryz.aj5 x.e x.r x.a x.p x.f x.b x.e x.r 0 x.p x.f x.b
   rw[azE h3 pp,HR.out]at q
   rcases pp with pp|pp|pp
   ·have p2':(x.p==2)=true:=by simp[pp]
    clear h1 h2 h3 p1 pp hB hC hB2 bV4 gV4 b4 hB4 bV5 gV5 b5 hB5 aF ax aB aS
    go_wp2
    go_region
    clear hV4 hV5 c0 c1 c2 c3 c4 c5 d0 d1 d2 d3 d4 d5 l0 l1 l2 l3 l4 l5 y0 y1 y2 y3 y4 y5 n5
    obtain⟨hV,n3,e0,e1,e2,e3,e4,e5,k0,k1,k2,k3,k4,k5,t3,t33⟩:=HH.out
    clear HH
    go_wp2
    go_ret
    exact⟨rfl,bn⟩
   ·have p2':(x.p==2)=false:=by simp;omega
    have p3':(x.p==3)=true:=by simp[pp]
    clear h1 h2 h3 p1 pp hB hC hB2 bV4 gV4 b4 hB4 bV5 gV5 b5 hB5 aF ax aB aS
    go_wp2
    go_region
    clear hV4 hV5 c0 c1 c2 c3 c4 c5 d0 d1 d2 d3 d4 d5 l0 l1 l2 l3 l4 l5 y0 y1 y2 y3 y4 y5 n5
    obtain⟨hV,n3,e0,e1,e2,e3,e4,e5,k0,k1,k2,k3,k4,k5,t3,t33⟩:=HH.out
    clear HH
    go_wp2
    go_ret
    exact⟨rfl,bn⟩
   ·have p2':(x.p==2)=false:=by simp;omega
    have p3':(x.p==3)=false:=by simp;omega
    have p4':(x.p==4)=true:=by simp[pp]
    clear h1 h2 h3 p1 pp hB hC hB2 bV4 gV4 b4 hB4 bV5 gV5 b5 hB5 aF ax aB aS
    go_wp2
    go_region
    clear hV4 hV5 c0 c1 c2 c3 c4 c5 d0 d1 d2 d3 d4 d5 l0 l1 l2 l3 l4 l5 y0 y1 y2 y3 y4 y5 n5
    obtain⟨hV,n3,e0,e1,e2,e3,e4,e5,k0,k1,k2,k3,k4,k5,t3,t33⟩:=HH.out
    clear HH
    go_wp2
    go_ret
    exact⟨rfl,bn⟩
  ·have p2':(x.p==2)=false:=by simp;omega
   have p3':(x.p==3)=false:=by simp;omega
   have p4':(x.p==4)=false:=by simp;omega
   have q:=azB h3 (by omega) (by omega) (by omega) p1
   rw[HR.out]at q
   subst q
   clear h1 h2 h3 p1 pp hB hC hB2 ax aB HR
   go_wp2
   go_ret
   exact⟨rfl,aF⟩
 ·have h3':(x.r==3)=false:=by simpa using h3
  have q:=azF h1 h2 h3
  rw[HR.out]at q
  subst q
  clear h1 h2 h3 hB hC hB2 ax aB HR
  go_wp2
  go_ret
  exact⟨rfl,aF⟩
theorem tF (x:Pm.Pg):(x.e<1→Pm.aJ x=2)∧(¬Up x 6→Pm.aJ x=2)∧(¬Pm.Own x→Pm.aJ x=2)∧(¬x.e<1→Up x 6→Pm.Own x→Pm.aJ x=0):=by
 refine⟨fun h=>Pm.iW fun ho=>?_,fun h=>Pm.iW fun ho=>h ?_,fun h=>Pm.iW fun ho=>h ho.2,fun h1 h2 h3=>Pm.iD ⟨?_,h3⟩⟩
 ·have:=Pm.nM ho;omega
 ·have:=Pm.nM ho
  intro i hi
  obtain rfl|rfl|rfl|rfl|rfl|rfl:i=0∨i=1∨i=2∨i=3∨i=4∨i=5:=by omega
  all_goals simp[Pm.nums,gB];omega
 ·have:=jf h2
  unfold Pm.Bnd
  omega
theorem uj (x:Pm.Pg)(w:World)(hx:dW x)(hm:ib w):
  Calls Tryz.prog 77 #[vp x] w fun E w'=>E=.returned (.int .i64 (Pm.aJ x))∧Below w.heap.size w w':=by
 obtain⟨t1,t2,t3,t4⟩:=tF x
 obtain⟨w1,hw1,bH,ax,hB⟩:=ay w #[.int .i64 x.e,.int .u8 x.r,.int .i64 x.a,.int .u8 x.p,.int .i64 x.f,.int .i64 x.b] 41
 have HV:Hid (vp x=.agg #[.int .i64 x.e,.int .u8 x.r,.int .i64 x.a,.int .u8 x.p,.int .i64 x.f,.int .i64 x.b]):=rfl
 obtain⟨c0,c1,c2,c3,c4,c5⟩:=bO hB
 have HB:=hide hB
 have HM:=hide (hm.below ax)
 have g:=hx
 obtain⟨ch,hch⟩:∃c,Pm.aJ x=c:=⟨_,rfl⟩
 rw[hch]at t1 t2 t3 t4⊢
 have T1:=hide t1;have T2:=hide t2;have T3:=hide t3;have T4:=hide t4
 rw[HV.out]
 clear hB hm hch t1 t2 t3 t4
 obtain⟨g1,g2,g3,g4,g5,g6,g7,g8,g9,g10,g11,g12⟩:=g
 have HX:=hide hx
 clear hx
 go_enter Tryz.func77,Tryz.ntmps77
 by_cases h1:x.e<1
 ·have q:=T1.out h1
  subst q
  clear T1 T2 T3 T4
  go_wp2
  go_ret
  exact⟨rfl,ax⟩
 go_wp2_with fail
 refine(xG x _ HX.out).mono ?_
 rintro E w2 ⟨rfl,aB⟩
 have fA:=aB.size
 have hB2:=(aB.block _ (by omega)).trans HB.out
 have HM2:=hide (HM.out.below aB)
 have aY:=ax.trans (aB.mono (by omega))
 have HB2:=hide hB2
 clear HB HM hB2 c0 c1 c2 c3 c4 c5
 go_wp2_with fail
 refine(ahU x _ HX.out HM2.out).mono ?_
 rintro E w3 ⟨rfl,aH⟩
 have fZ:=aH.size
 have hB3:=(aH.block _ (by omega)).trans HB2.out
 have bP:=aY.trans (aH.mono (by omega))
 obtain⟨c0,c1,c2,c3,c4,c5⟩:=bO hB3
 clear HB2 hB3 ax aB aH aY
 by_cases h2:Up x 6
 ·rw[adU.2 h2]
  have H2:=hide h2
  clear h2
  go_wp2_with fail
  refine(aeX x _ HX.out).mono ?_
  rintro E w4 ⟨rfl,aS⟩
  have dF:=bP.trans (aS.mono (by omega))
  by_cases h3:Pm.Own x
  ·rw[decide_eq_true h3]
   have q:=T4.out h1 H2.out h3
   subst q
   clear h3 T1 T2 T3 T4
   go_wp2
   go_ret
   exact⟨rfl,dF⟩
  ·rw[decide_eq_false h3]
   have q:=T3.out h3
   subst q
   clear h3 T1 T2 T3 T4
   go_wp2
   go_ret
   exact⟨rfl,dF⟩
 ·rw[jE h2]
  have q:=T2.out h2
  subst q
  clear h2 T1 T2 T3 T4
  go_wp2
  go_ret
  exact⟨rfl,bP⟩
def aoX (x:Pm.Pg):List Int:=if Pm.Ok x then Pm.enc x else []
theorem lC {x:Pm.Pg}(h:Pm.Ok x):aoX x=Pm.enc x:=if_pos h
theorem rP {x:Pm.Pg}(h:¬Pm.Ok x):aoX x=[]:=if_neg h
theorem kN (l:List Int)(k:Nat)(h:k<l.length):Pm.encs (l.take k)++Vm.enc (l.getD k 0).toNat=Pm.encs (l.take (k+1)):=by
 rw[List.take_succ_eq_append_getElem h,Pm.si,List.getD_eq_getElem?_getD,List.getElem?_eq_getElem h]
 simp[Pm.encs]
theorem iZ {x:Pm.Pg}(h:Pm.Ok x)(k:Nat):(Pm.encs ((Pm.nums x).take k)).length≤60:=by
 have h1:=Pm.qG h
 have h2:Pm.nums x=(Pm.nums x).take k++(Pm.nums x).drop k:=(List.take_append_drop _ _).symm
 unfold Pm.enc at h1
 rw[h2,Pm.si,List.length_append]at h1
 omega
theorem mr (z:Int)(h0:0≤z)(h1:z<9223372036854775808):IntKind.u64.wrap z=z:=by
 rw[IntKind.wrap_u64];omega
theorem ak1 (x:Pm.Pg)(w:World)(hx:dW x)(hm:ib w):
  Calls Tryz.prog 135 #[vp x] w fun E w'=>∃vb,E=.returned (.tuple #[vb,.int .i64 (Pm.aJ x)])∧Own .u8 5 w.heap.size w' vb (aoX x)∧Below w.heap.size w w':=by
 obtain⟨w1,hw1,bH,ax,hB⟩:=ay w #[.int .i64 x.e,.int .u8 x.r,.int .i64 x.a,.int .u8 x.p,.int .i64 x.f,.int .i64 x.b] 41
 have HV:Hid (vp x=.agg #[.int .i64 x.e,.int .u8 x.r,.int .i64 x.a,.int .u8 x.p,.int .i64 x.f,.int .i64 x.b]):=rfl
 obtain⟨c0,c1,c2,c3,c4,c5⟩:=bO hB
 have HB:=hide hB
 have HM:=hide (hm.below ax)
 have HX:=hide hx
 rw[HV.out]
 clear hB hm hx
 go_enter Tryz.func135,Tryz.ntmps135
 go_wp2_with fail
 refine(uj x _ HX.out HM.out).mono ?_
 rintro E w2 ⟨rfl,aB⟩
 have fA:=aB.size
 have hB2:=(aB.block _ (by omega)).trans HB.out
 have aY:=ax.trans (aB.mono (by omega))
 obtain⟨d0,d1,d2,d3,d4,d5⟩:=bO hB2
 clear HB HM hB2 c0 c1 c2 c3 c4 c5 ax aB
 by_cases ho:Pm.Ok x
 ·rw[Pm.iD ho]
  have g:=Pm.nM ho
  obtain⟨g1,g2,g3,g4,g5,g6,g7,g8,g9,g10,g11,g12⟩:=g
  have HO:=hide ho
  clear ho
  go_wp2_with fail
  refine(xG x _ HX.out).mono ?_
  rintro E w3 ⟨rfl,aH⟩
  have fZ:=aH.size
  have bP:=aY.trans (aH.mono (by omega))
  have HN:Hid (vn x=.agg #[.int .i64 x.e,.int .i64 x.r,.int .i64 x.a,.int .i64 x.p,.int .i64 x.f,.int .i64 x.b]):=rfl
  rw[HN.out]
  clear d0 d1 d2 d3 d4 d5 aY aH
  go_wp2
  go_loopw [5,15] (fun bb kk wr=>∃k:Nat,k≤6∧kk=.int .i64 k∧Own .u8 5 w.heap.size wr bb (Pm.encs ((Pm.nums x).take k))∧Below w.heap.size w wr) (fun _ kk _=>7-(intOf kk).toNat)
  case atStart=>exact⟨0,by omega,rfl,Own.nil _ _ _ _,bP⟩
  case round=>
   obtain⟨k,hk,rfl,own,bN⟩:=hrel
   have ru:=bN.size
   rcases(show k=0∨k=1∨k=2∨k=3∨k=4∨k=5∨k=6 by omega)with rfl|rfl|rfl|rfl|rfl|rfl|rfl
   ·have hix:=Tryz.axL x.e x.r x.a x.p x.f x.b
    have hwr:=mr x.e (by omega) (by omega)
    have hln:=iZ HO.out 0
    go_wp2_with fail
    refine(iG _ _ x.e _ own.is (by omega) (by omega) (by omega)).mono ?_
    rintro E w4 ⟨v4,rfl,bM,aS⟩
    have e:Pm.encs ((Pm.nums x).take 0)++Vm.enc x.e.toNat=Pm.encs ((Pm.nums x).take 1):=kN (Pm.nums x) 0 (by simp[Pm.nums])
    rw[e]at bM
    have dI:=bM.bz (base':=w.heap.size) (by omega)
    have aX:=bN.trans (aS.mono (by omega))
    clear own bM e aS
    go_wp2
    go_roundw
    case rel=>exact⟨1,by omega,rfl,dI,aX⟩
    case measure=>simp[intOf]
   ·have hix:=Tryz.avU x.e x.r x.a x.p x.f x.b
    have hwr:=mr x.r (by omega) (by omega)
    have hln:=iZ HO.out 1
    go_wp2_with fail
    refine(iG _ _ x.r _ own.is (by omega) (by omega) (by omega)).mono ?_
    rintro E w4 ⟨v4,rfl,bM,aS⟩
    have e:Pm.encs ((Pm.nums x).take 1)++Vm.enc x.r.toNat=Pm.encs ((Pm.nums x).take 2):=kN (Pm.nums x) 1 (by simp[Pm.nums])
    rw[e]at bM
    have dI:=bM.bz (base':=w.heap.size) (by omega)
    have aX:=bN.trans (aS.mono (by omega))
    clear own bM e aS
    go_wp2
    go_roundw
    case rel=>exact⟨2,by omega,rfl,dI,aX⟩
    case measure=>simp[intOf]
   ·have hix:=Tryz.avY x.e x.r x.a x.p x.f x.b
    have hwr:=mr x.a (by omega) (by omega)
    have hln:=iZ HO.out 2
    go_wp2_with fail
    refine(iG _ _ x.a _ own.is (by omega) (by omega) (by omega)).mono ?_
    rintro E w4 ⟨v4,rfl,bM,aS⟩
    have e:Pm.encs ((Pm.nums x).take 2)++Vm.enc x.a.toNat=Pm.encs ((Pm.nums x).take 3):=kN (Pm.nums x) 2 (by simp[Pm.nums])
    rw[e]at bM
    have dI:=bM.bz (base':=w.heap.size) (by omega)
    have aX:=bN.trans (aS.mono (by omega))
    clear own bM e aS
    go_wp2
    go_roundw
    case rel=>exact⟨3,by omega,rfl,dI,aX⟩
    case measure=>simp[intOf]
   ·have hix:=Tryz.ayP x.e x.r x.a x.p x.f x.b
    have hwr:=mr x.p (by omega) (by omega)
    have hln:=iZ HO.out 3
    go_wp2_with fail
    refine(iG _ _ x.p _ own.is (by omega) (by omega) (by omega)).mono ?_
    rintro E w4 ⟨v4,rfl,bM,aS⟩
    have e:Pm.encs ((Pm.nums x).take 3)++Vm.enc x.p.toNat=Pm.encs ((Pm.nums x).take 4):=kN (Pm.nums x) 3 (by simp[Pm.nums])
    rw[e]at bM
    have dI:=bM.bz (base':=w.heap.size) (by omega)
    have aX:=bN.trans (aS.mono (by omega))
    clear own bM e aS
    go_wp2
    go_roundw
    case rel=>exact⟨4,by omega,rfl,dI,aX⟩
    case measure=>simp[intOf]
   ·have hix:=Tryz.avR x.e x.r x.a x.p x.f x.b
    have hwr:=mr x.f (by omega) (by omega)
    have hln:=iZ HO.out 4
    go_wp2_with fail
    refine(iG _ _ x.f _ own.is (by omega) (by omega) (by omega)).mono ?_
    rintro E w4 ⟨v4,rfl,bM,aS⟩
    have e:Pm.encs ((Pm.nums x).take 4)++Vm.enc x.f.toNat=Pm.encs ((Pm.nums x).take 5):=kN (Pm.nums x) 4 (by simp[Pm.nums])
    rw[e]at bM
    have dI:=bM.bz (base':=w.heap.size) (by omega)
    have aX:=bN.trans (aS.mono (by omega))
    clear own bM e aS
    go_wp2
    go_roundw
    case rel=>exact⟨5,by omega,rfl,dI,aX⟩
    case measure=>simp[intOf]
   ·have hix:=Tryz.aw0 x.e x.r x.a x.p x.f x.b
    have hwr:=mr x.b (by omega) (by omega)
    have hln:=iZ HO.out 5
    go_wp2_with fail
    refine(iG _ _ x.b _ own.is (by omega) (by omega) (by omega)).mono ?_
    rintro E w4 ⟨v4,rfl,bM,aS⟩
    have e:Pm.encs ((Pm.nums x).take 5)++Vm.enc x.b.toNat=Pm.encs ((Pm.nums x).take 6):=kN (Pm.nums x) 5 (by simp[Pm.nums])
    rw[e]at bM
    have dI:=bM.bz (base':=w.heap.size) (by omega)
    have aX:=bN.trans (aS.mono (by omega))
    clear own bM e aS
    go_wp2
    go_roundw
    case rel=>exact⟨6,by omega,rfl,dI,aX⟩
    case measure=>simp[intOf]
   ·go_wp2
    go_ret2
    exact⟨_,by rw[Pm.iD HO.out];rfl,by rw[lC HO.out];exact own,bN⟩
 ·rw[Pm.iW ho]
  have HO:=hide ho
  clear ho
  go_wp2
  go_ret2
  exact⟨_,by rw[Pm.iW HO.out];rfl,by rw[rP HO.out];exact Own.nil _ _ _ _,aY⟩
def cpl (z:Int):Int:=bits BinOp.xor IntKind.u8 (if IntKind.u8.signed=true then -1 else IntKind.u8.max) z
structure Lists (m bl base:Nat) (w:World) (vs:Nat→Value) (zs:Nat→List Int):Prop where
 cell:∀i,i<m→w.cell? ⟨bl,i,none⟩=some (vs i)
 own:∀i,i<m→Own .u8 5 base w (vs i) (zs i)
 apart:∀i j,i<m→j<m→i≠j→(vs i).ownBlock=none∨(vs i).ownBlock≠(vs j).ownBlock
 table:∀i,i<m→(vs i).ownBlock≠some bl
 lens:∀i,i<m→(zs i).length≤150000000000000
structure Copies (m bl base:Nat) (w0 wr:World) (vs us:Nat→Value) (zs:Nat→List Int) (k:Nat):Prop where
 cell:∀i,i<m→wr.cell? ⟨bl,i,none⟩=some (vs i)
 was:∀i,i<m→wr.cell? ⟨w0.heap.size,i,none⟩=some (us i)
 new:∀i,i<m→Own .u8 5 (w0.heap.size+1) wr (us i) (zs i)
 done:∀i,i<k→i<m→Own .u8 5 base wr (vs i) ((zs i).map cpl)
 left:∀i,k≤i→i<m→Own .u8 5 base wr (vs i) (zs i)
 below:Below base w0 wr
 keep:∀g,g<w0.heap.size→(∀i,i<m→(vs i).ownBlock≠some g)→wr.heap[g]? =w0.heap[g]?
def two {α:Type} (a b:α):Nat→α|0=>a|_=>b
end Go.Proofs.YtpifdeoepppadaaGreatDoor
