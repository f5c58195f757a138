/- Texts of one layer, one behind the other. -/
import Derived.Test.YtpifdeoepppadaaGreatDoorH10
import Derived.Test.YtpifdeoepppadaaGreatDoorH8
import Derived.Test.YtpifdeoepppadaaGreatDoorH1
import Derived.Test.YtpifdeoepppadaaGreatDoorG11
set_option maxRecDepth 100000
set_option maxHeartbeats 8000000
namespace Go.Proofs.YtpifdeoepppadaaGreatDoor
open Go.RowKit
set_option linter.unusedVariables false
def DI (bs:List Int) (w wr:World) (x:Pm.Pg) (k:Nat) (a:Nat):Prop:=
 wr.heap[w.heap.size]? =some (.cells #[.int .i64 0,.int .u8 0,.int .i64 0,.int .u8 0,.int .i64 0,.int .i64 0] 41 (0,0))∧
 wr.heap[w.heap.size+1]? =some (.cells #[.int .i64 x.e,.int .i64 x.r,.int .i64 x.a,.int .i64 x.p,.int .i64 x.f,.int .i64 x.b] 168 (0,0))∧
 Below w.heap.size w wr∧Pm.encs ((Pm.nums x).take k)<+:bs∧a=(Pm.encs ((Pm.nums x).take k)).length∧Up x k
theorem ajr {x:Pm.Pg}{k:Nat}(h:Up x k)(hk:k≤6):∀z∈(Pm.nums x).take k,0≤z:=by
 intro z hz
 obtain⟨i,hi,rfl⟩:=List.getElem_of_mem hz
 rw[List.getElem_take]
 rw[List.length_take]at hi
 have:=(h i (by omega)).1
 rw[List.getD_eq_getElem?_getD,List.getElem?_eq_getElem (by omega),Option.getD_some]at this
 exact this
theorem axO {x:Pm.Pg}(h:Pm.Ok x)(k:Nat)(hk:k<6):(Pm.nums x).getD k 0≤gB.getD k 0:=by
 have:=Pm.nM h
 obtain rfl|rfl|rfl|rfl|rfl|rfl:k=0∨k=1∨k=2∨k=3∨k=4∨k=5:=by omega
 all_goals simp[Pm.nums,gB];omega
theorem DI.bad {bs:List Int}{w wr:World}{x:Pm.Pg}{k a m:Nat}(h:DI bs w wr x k a)(hk:k<6)(hm:gB.getD k 0=m)(hn:∀u:Nat,u≤m→¬Vm.enc u<+:bs.drop a):Pm.Dc bs Pm.no 5:=by
 obtain⟨_,_,_,h4,h5,h6⟩:=h
 rw[h5]at hn
 exact Pm.auG hk (by rw[List.length_take];simp[Pm.nums];omega) (ajr h6 (by omega)) h4 (fun y hy=>by rw[←hm];exact axO hy k hk) hn
theorem DI.next {bs:List Int}{w wr wr':World}{x y:Pm.Pg}{k a u:Nat}(h:DI bs w wr x k a)(hk:k<6)(ht:(Pm.nums y).take k=(Pm.nums x).take k)(hg:(Pm.nums y).getD k 0=u)(hu:(u:Int)≤gB.getD k 0)(hp:Vm.enc u<+:bs.drop a)
  (hw:wr.drewN 1=wr') {V:World} (hV:V.heap[w.heap.size+1]? =some (.cells #[.int .i64 y.e,.int .i64 y.r,.int .i64 y.a,.int .i64 y.p,.int .i64 y.f,.int .i64 y.b] 168 (0,0))) (gV:wr'.grownBy V (some (w.heap.size+1))):
  DI bs w V y (k+1) (a+Vm.sz u):=by
 obtain⟨h1,h2,h3,h4,h5,h6⟩:=h
 subst hw
 have hs:=h3.size
 have hlt:=aA h1
 have e:=kN (Pm.nums y) k (by simp[Pm.nums];omega)
 rw[ht,hg,Int.toNat_natCast]at e
 refine⟨(gV.block w.heap.size hlt (by simp)).trans h1,hV,aK (below_drewN h3 1) gV (by omega) hs,?_,?_,?_⟩
 ·rw[←e]
  rw[h5]at hp
  exact Fm.og h4 hp
 ·rw[←e,List.length_append,←h5];rfl
 ·have hb:Up y k:=fun i hi=>by
   have:=h6 i hi
   have e2:(Pm.nums y).getD i 0=(Pm.nums x).getD i 0:=by
    have q:=congrArg (fun l=>l.getD i 0) ht
    simpa[List.getD_eq_getElem?_getD,List.getElem?_take,hi]using q
   rw[e2]
   exact this
  exact hb.next (by rw[hg];omega) (by rw[hg];exact hu)
theorem DI.le {bs:List Int}{w wr:World}{x:Pm.Pg}{k a:Nat}(h:DI bs w wr x k a):a≤bs.length:=by
 obtain⟨_,_,_,h4,h5,_⟩:=h
 rw[h5]
 exact h4.length_le
theorem ayF {x:Pm.Pg}(h:Up x 6):dW x:=by
 have:=jf h
 unfold dW
 omega
theorem DI.done {bs:List Int}{w wr:World}{x:Pm.Pg}{a:Nat}(h:DI bs w wr x 6 a):(Pm.Ok x→a=bs.length→Pm.Dc bs x 0)∧((¬Pm.Ok x∨a≠bs.length)→Pm.Dc bs Pm.no 5)∧Up x 6:=by
 obtain⟨_,_,_,h4,h5,h6⟩:=h
 have q:=Pm.axB (x:=x) (bs:=bs) (ajr h6 (by omega)) h4
 have e:a=(Pm.enc x).length:=h5
 rw[e]
 exact⟨q.1,q.2,h6⟩
theorem aj1 (vb:Value)(bs:List Int)(w:World)(hb:Is .u8 w vb bs)(hl:bs.length≤150000000000000)(hm:ib w):
  Calls Tryz.prog 192 #[vb] w fun E w'=>∃(y:Pm.Pg) (e:Int),E=.returned (.tuple #[vp y,.int .i64 e])∧Hid (Pm.Dc bs y e)∧dW y∧Below w.heap.size w w':=by
 unfold vp
 obtain⟨w1,hw1,bH,ax,jc⟩:=ay w #[.int .i64 0,.int .u8 0,.int .i64 0,.int .u8 0,.int .i64 0,.int .i64 0] 41
 obtain⟨w2,hw2,fA,aB,zl⟩:=ay w1 #[.int .i64 0,.int .i64 0,.int .i64 0,.int .i64 0,.int .i64 0,.int .i64 0] 168
 have hR2:=(aB.block _ (aA jc)).trans jc
 rw[bH]at zl
 have aY:=ax.trans (aB.mono (by omega))
 have d0:Hid (DI bs w w2 Pm.no 0 0):=⟨hR2,zl,aY,by simp[Pm.encs],by simp[Pm.encs],fun i hi=>by omega⟩
 have p8:=hide hb
 have HM:=hide hm
 have hlen:=hb.adj Tryz.jY
 obtain⟨ao,cap,rfl,_,_⟩:=hb.shape
 clear jc hR2 zl ax aB hm hb
 go_enter Tryz.func192,Tryz.ntmps192
 go_wp2
 go_loopw [5,11] (fun ee kk wr=>∃(k a:Nat) (x:Pm.Pg),k≤6∧kk=.int .i64 k∧ee=.int .i64 a∧Hid (DI bs w wr x k a)) (fun _ kk _=>7-(intOf kk).toNat)
 case atStart=>exact⟨0,0,Pm.no,by omega,rfl,rfl,d0⟩
 case round=>
  obtain⟨k,a,x,hk,rfl,rfl,D⟩:=hrel
  have hal:=D.out.le
  have bN:=D.out.2.2.1
  have ru:=bN.size
  have jD:=aA D.out.1
  have lt1:=aA D.out.2.1
  clear d0 aY
  rcases(show k=0∨k=1∨k=2∨k=3∨k=4∨k=5∨k=6 by omega)with rfl|rfl|rfl|rfl|rfl|rfl|rfl
  ·obtain⟨vs,hsl,dC⟩:=(p8.out.below bN).dP Tryz.jY Tryz.lH a hal
   obtain⟨m0,m1,m2,m3,m4,m5⟩:=HM.out.below bN
   obtain⟨u,i,g,hS⟩:=ig (bs.drop a) ((1048576:Nat):Int)
   have HS:=hide hS
   have ST:=hide (iB (most:=1048576) (by omega) hS)
   have hdl:(bs.drop a).length=bs.length-a:=by rw[List.length_drop]
   clear hS
   go_wp2_with fail
   go_region_with (go_at_call 210;refine(dH _ (bs.drop a) 1048576 u i g _ (dC.drewN 1) (by omega) (by omega) (by omega) HS.out).mono ?_;rintro E w4 ⟨rfl,rfl⟩)
   all_goals
    clear dC hsl m0 m1 m2 m3 m4 m5 HS
    have B0:(wr.drewN 1).heap[w.heap.size]? =some (.cells #[.int .i64 0,.int .u8 0,.int .i64 0,.int .u8 0,.int .i64 0,.int .i64 0] 41 (0,0)):=D.out.1
    have B1:(wr.drewN 1).heap[w.heap.size+1]? =some (.cells #[.int .i64 x.e,.int .i64 x.r,.int .i64 x.a,.int .i64 x.p,.int .i64 x.f,.int .i64 x.b] 168 (0,0)):=D.out.2.1
    rcases ST.out with⟨z,rfl,rfl,rfl,hz,hp⟩|⟨rfl,rfl,rfl,hn⟩
    ·have uo:=Vm.gK (x:=z) (by omega)
     have hwr:=aN ((a:Int)+(Vm.sz z:Int)) (by omega) (by omega)
     obtain⟨V,hV,bV,gV,fz⟩:=jT B1 0 (.int .i64 z)
     have cz:=ai B1 0 rfl
     have DN:Hid (DI bs w V {x with e:=z} 1 (a+Vm.sz z)):=D.out.next (y:={x with e:=z}) (by omega) rfl rfl (by simp[gB];omega) hp rfl bV gV
     clear B0 B1 bV gV hp D ST
     go_wp2
     go_roundw
     case rel=>exact⟨1,a+Vm.sz z,_,by omega,rfl,by go_num,DN⟩
     case measure=>simp[intOf]
    ·have HD:=hide (D.out.bad (by omega) (m:=1048576) rfl hn)
     obtain⟨z0,z1,z2,z3,z4,z5⟩:=bO B0
     have s0:(wr.drewN 1).setCell ⟨w.heap.size,0,none⟩ (.int .i64 0)=wr.drewN 1:=aI B0 (j:=0) rfl
     have s1:(wr.drewN 1).setCell ⟨w.heap.size,1,none⟩ (.int .u8 0)=wr.drewN 1:=aI B0 (j:=1) rfl
     have s2:(wr.drewN 1).setCell ⟨w.heap.size,2,none⟩ (.int .i64 0)=wr.drewN 1:=aI B0 (j:=2) rfl
     have s3:(wr.drewN 1).setCell ⟨w.heap.size,3,none⟩ (.int .u8 0)=wr.drewN 1:=aI B0 (j:=3) rfl
     have s4:(wr.drewN 1).setCell ⟨w.heap.size,4,none⟩ (.int .i64 0)=wr.drewN 1:=aI B0 (j:=4) rfl
     have s5:(wr.drewN 1).setCell ⟨w.heap.size,5,none⟩ (.int .i64 0)=wr.drewN 1:=aI B0 (j:=5) rfl
     have f0:=az B0 0;have f1:=az B0 1;have f2:=az B0 2;have f3:=az B0 3;have f4:=az B0 4;have f5:=az B0 5
     clear B0 B1 hn D ST
     go_wp2
     refine bodyPost_ret (v:=.tuple #[.agg #[.int .i64 0,.int .u8 0,.int .i64 0,.int .u8 0,.int .i64 0,.int .i64 0],.int .i64 5]) (by simp[results,Tryz.results192,go_sem,z0,z1,z2,z3,z4,z5]) rfl ?_
     exact⟨Pm.no,5,rfl,HD,jR,below_drewN bN 1⟩
  ·obtain⟨vs,hsl,dC⟩:=(p8.out.below bN).dP Tryz.jY Tryz.lH a hal
   obtain⟨m0,m1,m2,m3,m4,m5⟩:=HM.out.below bN
   obtain⟨u,i,g,hS⟩:=ig (bs.drop a) ((3:Nat):Int)
   have HS:=hide hS
   have ST:=hide (iB (most:=3) (by omega) hS)
   have hdl:(bs.drop a).length=bs.length-a:=by rw[List.length_drop]
   clear hS
   go_wp2_with fail
   go_region_with (go_at_call 210;refine(dH _ (bs.drop a) 3 u i g _ (dC.drewN 1) (by omega) (by omega) (by omega) HS.out).mono ?_;rintro E w4 ⟨rfl,rfl⟩)
   all_goals
    clear dC hsl m0 m1 m2 m3 m4 m5 HS
    have B0:(wr.drewN 1).heap[w.heap.size]? =some (.cells #[.int .i64 0,.int .u8 0,.int .i64 0,.int .u8 0,.int .i64 0,.int .i64 0] 41 (0,0)):=D.out.1
    have B1:(wr.drewN 1).heap[w.heap.size+1]? =some (.cells #[.int .i64 x.e,.int .i64 x.r,.int .i64 x.a,.int .i64 x.p,.int .i64 x.f,.int .i64 x.b] 168 (0,0)):=D.out.2.1
    rcases ST.out with⟨z,rfl,rfl,rfl,hz,hp⟩|⟨rfl,rfl,rfl,hn⟩
    ·have uo:=Vm.gK (x:=z) (by omega)
     have hwr:=aN ((a:Int)+(Vm.sz z:Int)) (by omega) (by omega)
     obtain⟨V,hV,bV,gV,fz⟩:=jT B1 1 (.int .i64 z)
     have cz:=ai B1 1 rfl
     have DN:Hid (DI bs w V {x with r:=z} 2 (a+Vm.sz z)):=D.out.next (y:={x with r:=z}) (by omega) rfl rfl (by simp[gB];omega) hp rfl bV gV
     clear B0 B1 bV gV hp D ST
     go_wp2
     go_roundw
     case rel=>exact⟨2,a+Vm.sz z,_,by omega,rfl,by go_num,DN⟩
     case measure=>simp[intOf]
    ·have HD:=hide (D.out.bad (by omega) (m:=3) rfl hn)
     obtain⟨z0,z1,z2,z3,z4,z5⟩:=bO B0
     have s0:(wr.drewN 1).setCell ⟨w.heap.size,0,none⟩ (.int .i64 0)=wr.drewN 1:=aI B0 (j:=0) rfl
     have s1:(wr.drewN 1).setCell ⟨w.heap.size,1,none⟩ (.int .u8 0)=wr.drewN 1:=aI B0 (j:=1) rfl
     have s2:(wr.drewN 1).setCell ⟨w.heap.size,2,none⟩ (.int .i64 0)=wr.drewN 1:=aI B0 (j:=2) rfl
     have s3:(wr.drewN 1).setCell ⟨w.heap.size,3,none⟩ (.int .u8 0)=wr.drewN 1:=aI B0 (j:=3) rfl
     have s4:(wr.drewN 1).setCell ⟨w.heap.size,4,none⟩ (.int .i64 0)=wr.drewN 1:=aI B0 (j:=4) rfl
     have s5:(wr.drewN 1).setCell ⟨w.heap.size,5,none⟩ (.int .i64 0)=wr.drewN 1:=aI B0 (j:=5) rfl
     have f0:=az B0 0;have f1:=az B0 1;have f2:=az B0 2;have f3:=az B0 3;have f4:=az B0 4;have f5:=az B0 5
     clear B0 B1 hn D ST
     go_wp2
     refine bodyPost_ret (v:=.tuple #[.agg #[.int .i64 0,.int .u8 0,.int .i64 0,.int .u8 0,.int .i64 0,.int .i64 0],.int .i64 5]) (by simp[results,Tryz.results192,go_sem,z0,z1,z2,z3,z4,z5]) rfl ?_
     exact⟨Pm.no,5,rfl,HD,jR,below_drewN bN 1⟩
  ·obtain⟨vs,hsl,dC⟩:=(p8.out.below bN).dP Tryz.jY Tryz.lH a hal
   obtain⟨m0,m1,m2,m3,m4,m5⟩:=HM.out.below bN
   obtain⟨u,i,g,hS⟩:=ig (bs.drop a) ((1048576:Nat):Int)
   have HS:=hide hS
   have ST:=hide (iB (most:=1048576) (by omega) hS)
   have hdl:(bs.drop a).length=bs.length-a:=by rw[List.length_drop]
   clear hS
   go_wp2_with fail
   go_region_with (go_at_call 210;refine(dH _ (bs.drop a) 1048576 u i g _ (dC.drewN 1) (by omega) (by omega) (by omega) HS.out).mono ?_;rintro E w4 ⟨rfl,rfl⟩)
   all_goals
    clear dC hsl m0 m1 m2 m3 m4 m5 HS
    have B0:(wr.drewN 1).heap[w.heap.size]? =some (.cells #[.int .i64 0,.int .u8 0,.int .i64 0,.int .u8 0,.int .i64 0,.int .i64 0] 41 (0,0)):=D.out.1
    have B1:(wr.drewN 1).heap[w.heap.size+1]? =some (.cells #[.int .i64 x.e,.int .i64 x.r,.int .i64 x.a,.int .i64 x.p,.int .i64 x.f,.int .i64 x.b] 168 (0,0)):=D.out.2.1
    rcases ST.out with⟨z,rfl,rfl,rfl,hz,hp⟩|⟨rfl,rfl,rfl,hn⟩
    ·have uo:=Vm.gK (x:=z) (by omega)
     have hwr:=aN ((a:Int)+(Vm.sz z:Int)) (by omega) (by omega)
     obtain⟨V,hV,bV,gV,fz⟩:=jT B1 2 (.int .i64 z)
     have cz:=ai B1 2 rfl
     have DN:Hid (DI bs w V {x with a:=z} 3 (a+Vm.sz z)):=D.out.next (y:={x with a:=z}) (by omega) rfl rfl (by simp[gB];omega) hp rfl bV gV
     clear B0 B1 bV gV hp D ST
     go_wp2
     go_roundw
     case rel=>exact⟨3,a+Vm.sz z,_,by omega,rfl,by go_num,DN⟩
     case measure=>simp[intOf]
    ·have HD:=hide (D.out.bad (by omega) (m:=1048576) rfl hn)
     obtain⟨z0,z1,z2,z3,z4,z5⟩:=bO B0
     have s0:(wr.drewN 1).setCell ⟨w.heap.size,0,none⟩ (.int .i64 0)=wr.drewN 1:=aI B0 (j:=0) rfl
     have s1:(wr.drewN 1).setCell ⟨w.heap.size,1,none⟩ (.int .u8 0)=wr.drewN 1:=aI B0 (j:=1) rfl
     have s2:(wr.drewN 1).setCell ⟨w.heap.size,2,none⟩ (.int .i64 0)=wr.drewN 1:=aI B0 (j:=2) rfl
     have s3:(wr.drewN 1).setCell ⟨w.heap.size,3,none⟩ (.int .u8 0)=wr.drewN 1:=aI B0 (j:=3) rfl
     have s4:(wr.drewN 1).setCell ⟨w.heap.size,4,none⟩ (.int .i64 0)=wr.drewN 1:=aI B0 (j:=4) rfl
     have s5:(wr.drewN 1).setCell ⟨w.heap.size,5,none⟩ (.int .i64 0)=wr.drewN 1:=aI B0 (j:=5) rfl
     have f0:=az B0 0;have f1:=az B0 1;have f2:=az B0 2;have f3:=az B0 3;have f4:=az B0 4;have f5:=az B0 5
     clear B0 B1 hn D ST
     go_wp2
     refine bodyPost_ret (v:=.tuple #[.agg #[.int .i64 0,.int .u8 0,.int .i64 0,.int .u8 0,.int .i64 0,.int .i64 0],.int .i64 5]) (by simp[results,Tryz.results192,go_sem,z0,z1,z2,z3,z4,z5]) rfl ?_
     exact⟨Pm.no,5,rfl,HD,jR,below_drewN bN 1⟩
  ·obtain⟨vs,hsl,dC⟩:=(p8.out.below bN).dP Tryz.jY Tryz.lH a hal
   obtain⟨m0,m1,m2,m3,m4,m5⟩:=HM.out.below bN
   obtain⟨u,i,g,hS⟩:=ig (bs.drop a) ((4:Nat):Int)
   have HS:=hide hS
   have ST:=hide (iB (most:=4) (by omega) hS)
   have hdl:(bs.drop a).length=bs.length-a:=by rw[List.length_drop]
   clear hS
   go_wp2_with fail
   go_region_with (go_at_call 210;refine(dH _ (bs.drop a) 4 u i g _ (dC.drewN 1) (by omega) (by omega) (by omega) HS.out).mono ?_;rintro E w4 ⟨rfl,rfl⟩)
   all_goals
    clear dC hsl m0 m1 m2 m3 m4 m5 HS
    have B0:(wr.drewN 1).heap[w.heap.size]? =some (.cells #[.int .i64 0,.int .u8 0,.int .i64 0,.int .u8 0,.int .i64 0,.int .i64 0] 41 (0,0)):=D.out.1
    have B1:(wr.drewN 1).heap[w.heap.size+1]? =some (.cells #[.int .i64 x.e,.int .i64 x.r,.int .i64 x.a,.int .i64 x.p,.int .i64 x.f,.int .i64 x.b] 168 (0,0)):=D.out.2.1
    rcases ST.out with⟨z,rfl,rfl,rfl,hz,hp⟩|⟨rfl,rfl,rfl,hn⟩
    ·have uo:=Vm.gK (x:=z) (by omega)
     have hwr:=aN ((a:Int)+(Vm.sz z:Int)) (by omega) (by omega)
     obtain⟨V,hV,bV,gV,fz⟩:=jT B1 3 (.int .i64 z)
     have cz:=ai B1 3 rfl
     have DN:Hid (DI bs w V {x with p:=z} 4 (a+Vm.sz z)):=D.out.next (y:={x with p:=z}) (by omega) rfl rfl (by simp[gB];omega) hp rfl bV gV
     clear B0 B1 bV gV hp D ST
     go_wp2
     go_roundw
     case rel=>exact⟨4,a+Vm.sz z,_,by omega,rfl,by go_num,DN⟩
     case measure=>simp[intOf]
    ·have HD:=hide (D.out.bad (by omega) (m:=4) rfl hn)
     obtain⟨z0,z1,z2,z3,z4,z5⟩:=bO B0
     have s0:(wr.drewN 1).setCell ⟨w.heap.size,0,none⟩ (.int .i64 0)=wr.drewN 1:=aI B0 (j:=0) rfl
     have s1:(wr.drewN 1).setCell ⟨w.heap.size,1,none⟩ (.int .u8 0)=wr.drewN 1:=aI B0 (j:=1) rfl
     have s2:(wr.drewN 1).setCell ⟨w.heap.size,2,none⟩ (.int .i64 0)=wr.drewN 1:=aI B0 (j:=2) rfl
     have s3:(wr.drewN 1).setCell ⟨w.heap.size,3,none⟩ (.int .u8 0)=wr.drewN 1:=aI B0 (j:=3) rfl
     have s4:(wr.drewN 1).setCell ⟨w.heap.size,4,none⟩ (.int .i64 0)=wr.drewN 1:=aI B0 (j:=4) rfl
     have s5:(wr.drewN 1).setCell ⟨w.heap.size,5,none⟩ (.int .i64 0)=wr.drewN 1:=aI B0 (j:=5) rfl
     have f0:=az B0 0;have f1:=az B0 1;have f2:=az B0 2;have f3:=az B0 3;have f4:=az B0 4;have f5:=az B0 5
     clear B0 B1 hn D ST
     go_wp2
     refine bodyPost_ret (v:=.tuple #[.agg #[.int .i64 0,.int .u8 0,.int .i64 0,.int .u8 0,.int .i64 0,.int .i64 0],.int .i64 5]) (by simp[results,Tryz.results192,go_sem,z0,z1,z2,z3,z4,z5]) rfl ?_
     exact⟨Pm.no,5,rfl,HD,jR,below_drewN bN 1⟩
  ·obtain⟨vs,hsl,dC⟩:=(p8.out.below bN).dP Tryz.jY Tryz.lH a hal
   obtain⟨m0,m1,m2,m3,m4,m5⟩:=HM.out.below bN
   obtain⟨u,i,g,hS⟩:=ig (bs.drop a) ((1048576:Nat):Int)
   have HS:=hide hS
   have ST:=hide (iB (most:=1048576) (by omega) hS)
   have hdl:(bs.drop a).length=bs.length-a:=by rw[List.length_drop]
   clear hS
   go_wp2_with fail
   go_region_with (go_at_call 210;refine(dH _ (bs.drop a) 1048576 u i g _ (dC.drewN 1) (by omega) (by omega) (by omega) HS.out).mono ?_;rintro E w4 ⟨rfl,rfl⟩)
   all_goals
    clear dC hsl m0 m1 m2 m3 m4 m5 HS
    have B0:(wr.drewN 1).heap[w.heap.size]? =some (.cells #[.int .i64 0,.int .u8 0,.int .i64 0,.int .u8 0,.int .i64 0,.int .i64 0] 41 (0,0)):=D.out.1
    have B1:(wr.drewN 1).heap[w.heap.size+1]? =some (.cells #[.int .i64 x.e,.int .i64 x.r,.int .i64 x.a,.int .i64 x.p,.int .i64 x.f,.int .i64 x.b] 168 (0,0)):=D.out.2.1
    rcases ST.out with⟨z,rfl,rfl,rfl,hz,hp⟩|⟨rfl,rfl,rfl,hn⟩
    ·have uo:=Vm.gK (x:=z) (by omega)
     have hwr:=aN ((a:Int)+(Vm.sz z:Int)) (by omega) (by omega)
     obtain⟨V,hV,bV,gV,fz⟩:=jT B1 4 (.int .i64 z)
     have cz:=ai B1 4 rfl
     have DN:Hid (DI bs w V {x with f:=z} 5 (a+Vm.sz z)):=D.out.next (y:={x with f:=z}) (by omega) rfl rfl (by simp[gB];omega) hp rfl bV gV
     clear B0 B1 bV gV hp D ST
     go_wp2
     go_roundw
     case rel=>exact⟨5,a+Vm.sz z,_,by omega,rfl,by go_num,DN⟩
     case measure=>simp[intOf]
    ·have HD:=hide (D.out.bad (by omega) (m:=1048576) rfl hn)
     obtain⟨z0,z1,z2,z3,z4,z5⟩:=bO B0
     have s0:(wr.drewN 1).setCell ⟨w.heap.size,0,none⟩ (.int .i64 0)=wr.drewN 1:=aI B0 (j:=0) rfl
     have s1:(wr.drewN 1).setCell ⟨w.heap.size,1,none⟩ (.int .u8 0)=wr.drewN 1:=aI B0 (j:=1) rfl
     have s2:(wr.drewN 1).setCell ⟨w.heap.size,2,none⟩ (.int .i64 0)=wr.drewN 1:=aI B0 (j:=2) rfl
     have s3:(wr.drewN 1).setCell ⟨w.heap.size,3,none⟩ (.int .u8 0)=wr.drewN 1:=aI B0 (j:=3) rfl
     have s4:(wr.drewN 1).setCell ⟨w.heap.size,4,none⟩ (.int .i64 0)=wr.drewN 1:=aI B0 (j:=4) rfl
     have s5:(wr.drewN 1).setCell ⟨w.heap.size,5,none⟩ (.int .i64 0)=wr.drewN 1:=aI B0 (j:=5) rfl
     have f0:=az B0 0;have f1:=az B0 1;have f2:=az B0 2;have f3:=az B0 3;have f4:=az B0 4;have f5:=az B0 5
     clear B0 B1 hn D ST
     go_wp2
     refine bodyPost_ret (v:=.tuple #[.agg #[.int .i64 0,.int .u8 0,.int .i64 0,.int .u8 0,.int .i64 0,.int .i64 0],.int .i64 5]) (by simp[results,Tryz.results192,go_sem,z0,z1,z2,z3,z4,z5]) rfl ?_
     exact⟨Pm.no,5,rfl,HD,jR,below_drewN bN 1⟩
  ·obtain⟨vs,hsl,dC⟩:=(p8.out.below bN).dP Tryz.jY Tryz.lH a hal
   obtain⟨m0,m1,m2,m3,m4,m5⟩:=HM.out.below bN
   obtain⟨u,i,g,hS⟩:=ig (bs.drop a) ((1073741824:Nat):Int)
   have HS:=hide hS
   have ST:=hide (iB (most:=1073741824) (by omega) hS)
   have hdl:(bs.drop a).length=bs.length-a:=by rw[List.length_drop]
   clear hS
   go_wp2_with fail
   go_region_with (go_at_call 210;refine(dH _ (bs.drop a) 1073741824 u i g _ (dC.drewN 1) (by omega) (by omega) (by omega) HS.out).mono ?_;rintro E w4 ⟨rfl,rfl⟩)
   all_goals
    clear dC hsl m0 m1 m2 m3 m4 m5 HS
    have B0:(wr.drewN 1).heap[w.heap.size]? =some (.cells #[.int .i64 0,.int .u8 0,.int .i64 0,.int .u8 0,.int .i64 0,.int .i64 0] 41 (0,0)):=D.out.1
    have B1:(wr.drewN 1).heap[w.heap.size+1]? =some (.cells #[.int .i64 x.e,.int .i64 x.r,.int .i64 x.a,.int .i64 x.p,.int .i64 x.f,.int .i64 x.b] 168 (0,0)):=D.out.2.1
    rcases ST.out with⟨z,rfl,rfl,rfl,hz,hp⟩|⟨rfl,rfl,rfl,hn⟩
    ·have uo:=Vm.gK (x:=z) (by omega)
     have hwr:=aN ((a:Int)+(Vm.sz z:Int)) (by omega) (by omega)
     obtain⟨V,hV,bV,gV,fz⟩:=jT B1 5 (.int .i64 z)
     have cz:=ai B1 5 rfl
     have DN:Hid (DI bs w V {x with b:=z} 6 (a+Vm.sz z)):=D.out.next (y:={x with b:=z}) (by omega) rfl rfl (by simp[gB];omega) hp rfl bV gV
     clear B0 B1 bV gV hp D ST
     go_wp2
     go_roundw
     case rel=>exact⟨6,a+Vm.sz z,_,by omega,rfl,by go_num,DN⟩
     case measure=>simp[intOf]
    ·have HD:=hide (D.out.bad (by omega) (m:=1073741824) rfl hn)
     obtain⟨z0,z1,z2,z3,z4,z5⟩:=bO B0
     have s0:(wr.drewN 1).setCell ⟨w.heap.size,0,none⟩ (.int .i64 0)=wr.drewN 1:=aI B0 (j:=0) rfl
     have s1:(wr.drewN 1).setCell ⟨w.heap.size,1,none⟩ (.int .u8 0)=wr.drewN 1:=aI B0 (j:=1) rfl
     have s2:(wr.drewN 1).setCell ⟨w.heap.size,2,none⟩ (.int .i64 0)=wr.drewN 1:=aI B0 (j:=2) rfl
     have s3:(wr.drewN 1).setCell ⟨w.heap.size,3,none⟩ (.int .u8 0)=wr.drewN 1:=aI B0 (j:=3) rfl
     have s4:(wr.drewN 1).setCell ⟨w.heap.size,4,none⟩ (.int .i64 0)=wr.drewN 1:=aI B0 (j:=4) rfl
     have s5:(wr.drewN 1).setCell ⟨w.heap.size,5,none⟩ (.int .i64 0)=wr.drewN 1:=aI B0 (j:=5) rfl
     have f0:=az B0 0;have f1:=az B0 1;have f2:=az B0 2;have f3:=az B0 3;have f4:=az B0 4;have f5:=az B0 5
     clear B0 B1 hn D ST
     go_wp2
     refine bodyPost_ret (v:=.tuple #[.agg #[.int .i64 0,.int .u8 0,.int .i64 0,.int .u8 0,.int .i64 0,.int .i64 0],.int .i64 5]) (by simp[results,Tryz.results192,go_sem,z0,z1,z2,z3,z4,z5]) rfl ?_
     exact⟨Pm.no,5,rfl,HD,jR,below_drewN bN 1⟩
  ·have hdone:=D.out.done
   have DG:=hide hdone.1
   have DB:=hide hdone.2.1
   have hfit:=ayF hdone.2.2
   have B0:=D.out.1
   obtain⟨c0,c1,c2,c3,c4,c5⟩:=bO D.out.2.1
   have H0:=hide B0
   have HF:=hide hfit
   clear hdone D B0 hfit
   go_wp2_with fail
   refine(ak2 x _ HF.out).mono ?_
   rintro E w5 ⟨rfl,aX⟩
   have HV:Hid (vp x=.agg #[.int .i64 x.e,.int .u8 x.r,.int .i64 x.a,.int .u8 x.p,.int .i64 x.f,.int .i64 x.b]):=rfl
   rw[HV.out]
   have pq:=aX.size
   have H5:=hide ((aX.block _ jD).trans H0.out)
   have qx:=bN.trans (aX.mono (by omega))
   obtain⟨w6,avE,uz,tC,dJ,hP,e0,e1,e2,e3,e4,e5⟩:=aba w5 41 (.int .i64 0) (.int .u8 0) (.int .i64 0) (.int .u8 0) (.int .i64 0) (.int .i64 0) (.int .i64 x.e) (.int .u8 x.r) (.int .i64 x.a) (.int .u8 x.p) (.int .i64 x.f) (.int .i64 x.b)
   have H6:=hide ((dJ.block _ (by omega)).trans H5.out)
   have jr:=qx.trans (dJ.mono (by omega))
   have HP:=hide hP
   have HM6:=hide (HM.out.below jr)
   clear c0 c1 c2 c3 c4 c5 H0 hP aX qx dJ bN
   by_cases ha:a=bs.length
   ·have ha':(bs.length:Int)≤(a:Int):=by omega
    have HA:=hide ha
    clear ha
    go_wp2_with fail
    refine(uj x _ HF.out HM6.out).mono ?_
    rintro E w7 ⟨rfl,fQ⟩
    have sz7:=fQ.size
    have B7:=(fQ.block _ (aA H6.out)).trans H6.out
    have hP7:=(fQ.block _ (aA HP.out)).trans HP.out
    have ab8:=jr.trans (fQ.mono (by omega))
    obtain⟨d0,d1,d2,d3,d4,d5⟩:=bO hP7
    clear H6 HP e0 e1 e2 e3 e4 e5 uz avE hP7 jr fQ
    by_cases ho:Pm.Ok x
    ·rw[Pm.iD ho]
     have HD:=hide (DG.out ho HA.out)
     obtain⟨V,hV,bV,gV,⟨a0,a1,a2,a3,a4,a5⟩,fr,⟨z0,z1,z2,z3,z4,z5⟩⟩:=lL B7 (.int .i64 x.e) (.int .u8 x.r) (.int .i64 x.a) (.int .u8 x.p) (.int .i64 x.f) (.int .i64 x.b)
     have f0:=fr 0;have f1:=fr 1;have f2:=fr 2;have f3:=fr 3;have f4:=fr 4;have f5:=fr 5
     have bn:=aK ab8 gV (by omega) (by omega)
     clear ho B7 bV gV fr ab8 DG DB
     go_wp2
     refine bodyPost_ret (v:=.tuple #[.agg #[.int .i64 x.e,.int .u8 x.r,.int .i64 x.a,.int .u8 x.p,.int .i64 x.f,.int .i64 x.b],.int .i64 0]) (by simp[results,Tryz.results192,go_sem,z0,z1,z2,z3,z4,z5]) rfl ?_
     exact⟨x,0,rfl,HD,HF.out,bn⟩
    ·rw[Pm.iW ho]
     have HD:=hide (DB.out (.inl ho))
     obtain⟨z0,z1,z2,z3,z4,z5⟩:=bO B7
     have s0:w7.setCell ⟨w.heap.size,0,none⟩ (.int .i64 0)=w7:=aI B7 (j:=0) rfl
     have s1:w7.setCell ⟨w.heap.size,1,none⟩ (.int .u8 0)=w7:=aI B7 (j:=1) rfl
     have s2:w7.setCell ⟨w.heap.size,2,none⟩ (.int .i64 0)=w7:=aI B7 (j:=2) rfl
     have s3:w7.setCell ⟨w.heap.size,3,none⟩ (.int .u8 0)=w7:=aI B7 (j:=3) rfl
     have s4:w7.setCell ⟨w.heap.size,4,none⟩ (.int .i64 0)=w7:=aI B7 (j:=4) rfl
     have s5:w7.setCell ⟨w.heap.size,5,none⟩ (.int .i64 0)=w7:=aI B7 (j:=5) rfl
     have f0:=az B7 0;have f1:=az B7 1;have f2:=az B7 2;have f3:=az B7 3;have f4:=az B7 4;have f5:=az B7 5
     clear B7 DG DB
     go_wp2
     refine bodyPost_ret (v:=.tuple #[.agg #[.int .i64 0,.int .u8 0,.int .i64 0,.int .u8 0,.int .i64 0,.int .i64 0],.int .i64 5]) (by simp[results,Tryz.results192,go_sem,z0,z1,z2,z3,z4,z5]) rfl ?_
     exact⟨Pm.no,5,rfl,HD,jR,ab8⟩
   ·have ha':(a:Int)<(bs.length:Int):=by omega
    have HD:=hide (DB.out (.inr ha))
    have B7:=H6.out
    have hlt5:w.heap.size<w5.heap.size:=aA H5.out
    have hne5:w.heap.size≠w5.heap.size:=by omega
    obtain⟨y0,y1,y2,y3,y4,y5⟩:=bO H5.out
    have q0:=az H5.out 0;have q1:=az H5.out 1;have q2:=az H5.out 2;have q3:=az H5.out 3;have q4:=az H5.out 4;have q5:=az H5.out 5
    clear ha H6 HP e0 e1 e2 e3 e4 e5
    obtain⟨z0,z1,z2,z3,z4,z5⟩:=bO B7
    have s0:w6.setCell ⟨w.heap.size,0,none⟩ (.int .i64 0)=w6:=aI B7 (j:=0) rfl
    have s1:w6.setCell ⟨w.heap.size,1,none⟩ (.int .u8 0)=w6:=aI B7 (j:=1) rfl
    have s2:w6.setCell ⟨w.heap.size,2,none⟩ (.int .i64 0)=w6:=aI B7 (j:=2) rfl
    have s3:w6.setCell ⟨w.heap.size,3,none⟩ (.int .u8 0)=w6:=aI B7 (j:=3) rfl
    have s4:w6.setCell ⟨w.heap.size,4,none⟩ (.int .i64 0)=w6:=aI B7 (j:=4) rfl
    have s5:w6.setCell ⟨w.heap.size,5,none⟩ (.int .i64 0)=w6:=aI B7 (j:=5) rfl
    have f0:=az B7 0;have f1:=az B7 1;have f2:=az B7 2;have f3:=az B7 3;have f4:=az B7 4;have f5:=az B7 5
    clear B7 DG DB
    go_wp2
    refine bodyPost_ret (v:=.tuple #[.agg #[.int .i64 0,.int .u8 0,.int .i64 0,.int .u8 0,.int .i64 0,.int .i64 0],.int .i64 5]) (by simp[results,Tryz.results192,go_sem,z0,z1,z2,z3,z4,z5]) rfl ?_
    exact⟨Pm.no,5,rfl,HD,jR,jr⟩
def PRd (bs:List Int) (y:Pm.Pg) (n:Nat) (e:Int):Prop:=
 (e=0∧∃r,Fm.Rd bs r n 0∧Pm.Dc r y 0)∨(e=5∧y=Pm.no∧n=0∧((∃r m,Fm.Rd bs r m 5)∨∃r m q,Fm.Rd bs r m 0∧Pm.Dc r q 5))
theorem aA1 {bs r:List Int}{n:Nat}{e:Int}(h:Fm.Rd bs r n e):(e=0∨e=5)∧r.length≤131072∧n≤bs.length:=by
 rcases h with⟨rfl,h1,h2,h3⟩|⟨rfl,rfl,rfl,_⟩
 ·have:=(Fm.adP h3).2.2
  exact⟨.inl rfl,h1,by omega⟩
 ·exact⟨.inr rfl,by simp,by omega⟩
theorem apZ {bs:List Int}{x:Pm.Pg}{e:Int}(h:Pm.Dc bs x e):(e=0∧Pm.Ok x)∨(e=5∧x=Pm.no):=by
 rcases h with⟨rfl,h1,_⟩|⟨rfl,h1,_⟩
 ·exact .inl ⟨rfl,h1⟩
 ·exact .inr ⟨rfl,h1⟩
theorem al2 (vb:Value)(bs:List Int)(w:World)(hb:Is .u8 w vb bs)(hl:bs.length≤150000000000000)(hm:ib w):
  Calls Tryz.prog 156 #[vb] w fun E w'=>∃(y:Pm.Pg) (n:Nat) (e:Int),E=.returned (.tuple #[vp y,.int .i64 n,.int .i64 e])∧Hid (PRd bs y n e)∧dW y∧Below w.heap.size w w':=by
 unfold vp
 obtain⟨w1,hw1,bH,ax,jc⟩:=ay w #[.int .i64 0,.int .u8 0,.int .i64 0,.int .u8 0,.int .i64 0,.int .i64 0] 41
 have hb1:=hb.below ax
 have HM:=hide hm
 have HB:=hide jc
 obtain⟨ao,cap,rfl,_,_⟩:=hb.shape
 clear jc hm hb
 go_enter Tryz.func156,Tryz.ntmps156
 go_wp2_with fail
 refine(oN _ bs _ hb1 hl).mono ?_
 rintro E w2 ⟨v2,r,n,e,rfl,bq,aB,R2⟩
 have fA:=aB.size
 have B2:=(aB.block _ (aA HB.out)).trans HB.out
 have aY:=ax.trans (aB.mono (by omega))
 obtain⟨he,hrl,hnl⟩:=aA1 R2.out
 clear HB ax aB hb1
 rcases he with rfl|rfl
 ·have HB2:=hide B2
  have M2:=hide (HM.out.below aY)
  obtain⟨bo,bc,rfl,_,_⟩:=bq.is.shape
  clear B2
  go_wp2_with fail
  refine(aj1 _ r _ bq.is (by omega) M2.out).mono ?_
  rintro E w3 ⟨y,e,rfl,D3,aAH,aH⟩
  have fZ:=aH.size
  have HB3:=hide ((aH.block _ (aA HB2.out)).trans HB2.out)
  have bP:=aY.trans (aH.mono (by omega))
  have HV:Hid (vp y=.agg #[.int .i64 y.e,.int .u8 y.r,.int .i64 y.a,.int .u8 y.p,.int .i64 y.f,.int .i64 y.b]):=rfl
  rw[HV.out]
  obtain⟨w4,aAI,hw4,pK,aS,hP,e0,e1,e2,e3,e4,e5⟩:=aba w3 41 (.int .i64 0) (.int .u8 0) (.int .i64 0) (.int .u8 0) (.int .i64 0) (.int .i64 0) (.int .i64 y.e) (.int .u8 y.r) (.int .i64 y.a) (.int .u8 y.p) (.int .i64 y.f) (.int .i64 y.b)
  have B4:=(aS.block _ (aA HB3.out)).trans HB3.out
  have dF:=bP.trans (aS.mono (by omega))
  have hlt:=aA HB3.out
  have hne:w.heap.size≠w3.heap.size:=by omega
  clear HB2 HB3 bq aY aH bP aS hP
  rcases apZ D3.out with⟨rfl,hok⟩|⟨rfl,hno⟩
  ·have PR:Hid (PRd bs y n 0):=.inl ⟨rfl,r,R2.out,D3.out⟩
   obtain⟨V,hV,bV,gV,⟨a0,a1,a2,a3,a4,a5⟩,fr,⟨z0,z1,z2,z3,z4,z5⟩⟩:=lL B4 (.int .i64 y.e) (.int .u8 y.r) (.int .i64 y.a) (.int .u8 y.p) (.int .i64 y.f) (.int .i64 y.b)
   have f0:=fr 0;have f1:=fr 1;have f2:=fr 2;have f3:=fr 3;have f4:=fr 4;have f5:=fr 5
   have bn:=aK dF gV (by omega) (by omega)
   clear hok B4 bV gV fr dF D3 R2
   go_wp2
   refine bodyPost_ret (v:=.tuple #[.agg #[.int .i64 y.e,.int .u8 y.r,.int .i64 y.a,.int .u8 y.p,.int .i64 y.f,.int .i64 y.b],.int .i64 n,.int .i64 0]) (by simp[results,Tryz.results156,go_sem,z0,z1,z2,z3,z4,z5]) rfl ?_
   exact⟨y,n,0,rfl,PR,aAH,bn⟩
  ·have PR:Hid (PRd bs Pm.no 0 5):=.inr ⟨rfl,rfl,rfl,.inr ⟨r,n,_,R2.out,D3.out⟩⟩
   obtain⟨z0,z1,z2,z3,z4,z5⟩:=bO B4
   have s0:w4.setCell ⟨w.heap.size,0,none⟩ (.int .i64 0)=w4:=aI B4 (j:=0) rfl
   have s1:w4.setCell ⟨w.heap.size,1,none⟩ (.int .u8 0)=w4:=aI B4 (j:=1) rfl
   have s2:w4.setCell ⟨w.heap.size,2,none⟩ (.int .i64 0)=w4:=aI B4 (j:=2) rfl
   have s3:w4.setCell ⟨w.heap.size,3,none⟩ (.int .u8 0)=w4:=aI B4 (j:=3) rfl
   have s4:w4.setCell ⟨w.heap.size,4,none⟩ (.int .i64 0)=w4:=aI B4 (j:=4) rfl
   have s5:w4.setCell ⟨w.heap.size,5,none⟩ (.int .i64 0)=w4:=aI B4 (j:=5) rfl
   have f0:=az B4 0;have f1:=az B4 1;have f2:=az B4 2;have f3:=az B4 3;have f4:=az B4 4;have f5:=az B4 5
   clear B4 D3 R2 hno
   go_wp2
   refine bodyPost_ret (v:=.tuple #[.agg #[.int .i64 0,.int .u8 0,.int .i64 0,.int .u8 0,.int .i64 0,.int .i64 0],.int .i64 0,.int .i64 5]) (by simp[results,Tryz.results156,go_sem,z0,z1,z2,z3,z4,z5]) rfl ?_
   exact⟨Pm.no,0,5,rfl,PR,jR,dF⟩
 ·have PR:Hid (PRd bs Pm.no 0 5):=.inr ⟨rfl,rfl,rfl,.inl ⟨r,n,R2.out⟩⟩
  obtain⟨z0,z1,z2,z3,z4,z5⟩:=bO B2
  have s0:w2.setCell ⟨w.heap.size,0,none⟩ (.int .i64 0)=w2:=aI B2 (j:=0) rfl
  have s1:w2.setCell ⟨w.heap.size,1,none⟩ (.int .u8 0)=w2:=aI B2 (j:=1) rfl
  have s2:w2.setCell ⟨w.heap.size,2,none⟩ (.int .i64 0)=w2:=aI B2 (j:=2) rfl
  have s3:w2.setCell ⟨w.heap.size,3,none⟩ (.int .u8 0)=w2:=aI B2 (j:=3) rfl
  have s4:w2.setCell ⟨w.heap.size,4,none⟩ (.int .i64 0)=w2:=aI B2 (j:=4) rfl
  have s5:w2.setCell ⟨w.heap.size,5,none⟩ (.int .i64 0)=w2:=aI B2 (j:=5) rfl
  have f0:=az B2 0;have f1:=az B2 1;have f2:=az B2 2;have f3:=az B2 3;have f4:=az B2 4;have f5:=az B2 5
  clear B2 R2
  go_wp2
  refine bodyPost_ret (v:=.tuple #[.agg #[.int .i64 0,.int .u8 0,.int .i64 0,.int .u8 0,.int .i64 0,.int .i64 0],.int .i64 0,.int .i64 5]) (by simp[results,Tryz.results156,go_sem,z0,z1,z2,z3,z4,z5]) rfl ?_
  exact⟨Pm.no,0,5,rfl,PR,jR,aY⟩
def arC (bs:List Int) (node:Int) (y:Pm.Pg) (n:Nat) (e:Int):Prop:=
 (uT node=0∧e=0∧Pm.Ls bs (fst node) y n)∨(uT node=2∧e=2∧y=Pm.no∧n=0)
theorem auV (n:Int):uT n=0∨uT n=2:=by
 unfold uT
 by_cases h0:n=0
 ·rw[if_pos h0];exact .inl rfl
 ·rw[if_neg h0]
  by_cases h1:n=1
  ·rw[if_pos h1];exact .inl rfl
  ·rw[if_neg h1];exact .inr rfl
def LI (bs:List Int) (w wr:World) (L:Nat) (z x:Pm.Pg) (a:Nat):Prop:=
 wr.heap[w.heap.size]? =some (.cells #[.int .i64 0,.int .u8 0,.int .i64 0,.int .u8 0,.int .i64 0,.int .i64 0] 41 (0,0))∧
 wr.heap[L]? =some (.cells #[.int .i64 x.e,.int .u8 x.r,.int .i64 x.a,.int .u8 x.p,.int .i64 x.f,.int .i64 x.b] 41 (0,0))∧
 w.heap.size<L∧Below w.heap.size w wr∧Pm.Go bs z x a∧dW x
theorem azI {bs:List Int}{y:Pm.Pg}{n:Nat}{e:Int}(h:PRd bs y n e):e=0∨e=5:=by
 rcases h with⟨rfl,_⟩|⟨rfl,_⟩
 ·exact .inl rfl
 ·exact .inr rfl
theorem avQ {bs:List Int}{z x y:Pm.Pg}{n a:Nat}(h:PRd (bs.drop a) y n 0)(hg:Pm.Go bs z x a):Pm.Go bs z y (a+n)∧1≤n∧n≤bs.length:=by
 rcases h with⟨_,r,h1,h2⟩|⟨h,_⟩
 ·obtain⟨q1,q2⟩:=Pm.au0 hg h1 h2
  have:=Pm.akN q1
  exact⟨q1,q2,by omega⟩
 ·cases h
theorem aol {bs:List Int}{z x y:Pm.Pg}{n a:Nat}(h:PRd (bs.drop a) y n 5)(hg:Pm.Go bs z x a):Pm.Ls bs z x a:=by
 rcases h with⟨h,_⟩|⟨_,_,_,⟨r,m,h1⟩|⟨r,m,q,h1,h2⟩⟩
 ·cases h
 ·exact Pm.at6 hg h1
 ·exact Pm.atE hg h1 h2
theorem agq (vb:Value)(bs:List Int)(node:Int)(w:World)(hb:Is .u8 w vb bs)(hl:bs.length≤150000000000000)(hm:ib w):
  Calls Tryz.prog 109 #[vb,.int .i64 node] w fun E w'=>∃(y:Pm.Pg) (n:Nat) (e:Int),E=.returned (.tuple #[vp y,.int .i64 n,.int .i64 e])∧Hid (arC bs node y n e)∧dW y∧Below w.heap.size w w':=by
 unfold vp
 obtain⟨w1,hw1,bH,ax,jc⟩:=ay w #[.int .i64 0,.int .u8 0,.int .i64 0,.int .u8 0,.int .i64 0,.int .i64 0] 41
 have p8:=hide hb
 have HM:=hide hm
 have HB:=hide jc
 obtain⟨ao,cap,rfl,_,_⟩:=hb.shape
 clear jc hm hb
 go_enter Tryz.func109,Tryz.ntmps109
 go_wp2_with fail
 refine(aez node _).mono ?_
 rintro E w2 ⟨rfl,aB⟩
 have fA:=aB.size
 have HB2:=hide ((aB.block _ (aA HB.out)).trans HB.out)
 have aY:=ax.trans (aB.mono (by omega))
 obtain⟨p0,hp0⟩:∃p,fst node=p:=⟨_,rfl⟩
 obtain⟨g0,hg0⟩:∃g,uT node=g:=⟨_,rfl⟩
 have hfit:=ac1 node
 have awU:=auV node
 rw[hp0]at hfit⊢
 rw[hg0]at awU⊢
 have HP0:=hide hp0
 have HG0:=hide hg0
 clear hp0 hg0
 have HV:Hid (vp p0=.agg #[.int .i64 p0.e,.int .u8 p0.r,.int .i64 p0.a,.int .u8 p0.p,.int .i64 p0.f,.int .i64 p0.b]):=rfl
 rw[HV.out]
 obtain⟨w3,aoG,hw3,fZ,aH,hP,e0,e1,e2,e3,e4,e5⟩:=aba w2 41 (.int .i64 0) (.int .u8 0) (.int .i64 0) (.int .u8 0) (.int .i64 0) (.int .i64 0) (.int .i64 p0.e) (.int .u8 p0.r) (.int .i64 p0.a) (.int .u8 p0.p) (.int .i64 p0.f) (.int .i64 p0.b)
 have B3:=(aH.block _ (aA HB2.out)).trans HB2.out
 have bP:=aY.trans (aH.mono (by omega))
 have hlt:=aA HB2.out
 have hne:w.heap.size≠w2.heap.size:=by omega
 clear HB ax aB aY aH
 rcases awU with rfl|rfl
 ·have D0:Hid (LI bs w w3 w2.heap.size p0 p0 0):=⟨B3,hP,hlt,bP,Pm.apS _ _,hfit⟩
  clear B3 hP bP HB2
  go_wp2
  go_loopw [9] (fun ee wr=>∃(a:Nat) (x:Pm.Pg),ee=.int .i64 a∧Hid (LI bs w wr w2.heap.size p0 x a)) (fun ee _=>bs.length-(intOf ee).toNat)
  case atStart=>exact⟨0,p0,rfl,D0⟩
  case round=>
   obtain⟨a,x,rfl,D⟩:=hrel
   have hal:=Pm.akN D.out.2.2.2.2.1
   have bN:=D.out.2.2.2.1
   have ru:=bN.size
   have jD:=aA D.out.1
   have lt1:=aA D.out.2.1
   have hxf:=D.out.2.2.2.2.2
   clear D0 e0 e1 e2 e3 e4 e5 hw3 aoG
   obtain⟨vs,hsl,dC⟩:=(p8.out.below bN).dP Tryz.jY Tryz.lH a hal
   have M3:=hide (HM.out.below bN)
   have hdl:(bs.drop a).length=bs.length-a:=by rw[List.length_drop]
   go_wp2_with fail
   refine(al2 _ (bs.drop a) _ dC (by omega) M3.out).mono ?_
   rintro E w4 ⟨y,n,e,rfl,PR,aA8,aS⟩
   have pK:=aS.size
   have R4:=hide ((aS.block _ jD).trans D.out.1)
   have L4:=hide ((aS.block _ lt1).trans D.out.2.1)
   have dF:=bN.trans (aS.mono (by omega))
   have HW:Hid (vp y=.agg #[.int .i64 y.e,.int .u8 y.r,.int .i64 y.a,.int .u8 y.p,.int .i64 y.f,.int .i64 y.b]):=rfl
   rw[HW.out]
   obtain⟨w5,aBH,kL,pq,aX,hP5,e0,e1,e2,e3,e4,e5⟩:=aba w4 41 (.int .i64 0) (.int .u8 0) (.int .i64 0) (.int .u8 0) (.int .i64 0) (.int .i64 0) (.int .i64 y.e) (.int .u8 y.r) (.int .i64 y.a) (.int .u8 y.p) (.int .i64 y.f) (.int .i64 y.b)
   have R5:=hide ((aX.block _ (aA R4.out)).trans R4.out)
   have L5:=hide ((aX.block _ (aA L4.out)).trans L4.out)
   have qx:=dF.trans (aX.mono (by omega))
   have GO:=hide D.out.2.2.2.2.1
   clear D dC hsl bN aS dF aX hP5
   rcases azI PR.out with rfl|rfl
   ·obtain⟨hgo,hn1,hnl⟩:=avQ PR.out GO.out
    have hnle:=Pm.akN hgo
    have hwr:=aN ((a:Int)+(n:Int)) (by omega) (by omega)
    obtain⟨V,hV,bV,gV,⟨a0,a1,a2,a3,a4,a5⟩,fr,⟨z0,z1,z2,z3,z4,z5⟩⟩:=lL L5.out (.int .i64 y.e) (.int .u8 y.r) (.int .i64 y.a) (.int .u8 y.p) (.int .i64 y.f) (.int .i64 y.b)
    have f0:=fr 0;have f1:=fr 1;have f2:=fr 2;have f3:=fr 3;have f4:=fr 4;have f5:=fr 5
    have DN:Hid (LI bs w V w2.heap.size p0 y (a+n)):=⟨(gV.block _ (aA R5.out) (by simp;omega)).trans R5.out,bV,hlt,aK qx gV (by omega) (by omega),hgo,aA8⟩
    clear hgo bV gV fr R4 L4 R5 L5 qx GO PR
    go_wp2
    go_roundw
    case rel=>exact⟨a+n,y,by go_num,DN⟩
    case measure=>simp[intOf];omega
   ·have LS:=hide (aol PR.out GO.out)
    have LR:Hid (arC bs node x a 0):=.inl ⟨HG0.out,rfl,by rw[HP0.out];exact LS.out⟩
    obtain⟨V,hV,bV,gV,⟨a0,a1,a2,a3,a4,a5⟩,fr,⟨z0,z1,z2,z3,z4,z5⟩⟩:=lL R5.out (.int .i64 x.e) (.int .u8 x.r) (.int .i64 x.a) (.int .u8 x.p) (.int .i64 x.f) (.int .i64 x.b)
    have f0:=fr 0;have f1:=fr 1;have f2:=fr 2;have f3:=fr 3;have f4:=fr 4;have f5:=fr 5
    obtain⟨l0,l1,l2,l3,l4,l5⟩:=bO L5.out
    have bn:=aK qx gV (by omega) (by omega)
    clear bV gV fr R4 L4 R5 L5 qx GO PR LS
    go_wp2
    refine bodyPost_ret (v:=.tuple #[.agg #[.int .i64 x.e,.int .u8 x.r,.int .i64 x.a,.int .u8 x.p,.int .i64 x.f,.int .i64 x.b],.int .i64 a,.int .i64 0]) (by simp[results,Tryz.results109,go_sem,z0,z1,z2,z3,z4,z5]) rfl ?_
    exact⟨x,a,0,rfl,LR,hxf,bn⟩
 ·have LR:Hid (arC bs node Pm.no 0 2):=.inr ⟨HG0.out,rfl,rfl,rfl⟩
  obtain⟨z0,z1,z2,z3,z4,z5⟩:=bO B3
  have s0:w3.setCell ⟨w.heap.size,0,none⟩ (.int .i64 0)=w3:=aI B3 (j:=0) rfl
  have s1:w3.setCell ⟨w.heap.size,1,none⟩ (.int .u8 0)=w3:=aI B3 (j:=1) rfl
  have s2:w3.setCell ⟨w.heap.size,2,none⟩ (.int .i64 0)=w3:=aI B3 (j:=2) rfl
  have s3:w3.setCell ⟨w.heap.size,3,none⟩ (.int .u8 0)=w3:=aI B3 (j:=3) rfl
  have s4:w3.setCell ⟨w.heap.size,4,none⟩ (.int .i64 0)=w3:=aI B3 (j:=4) rfl
  have s5:w3.setCell ⟨w.heap.size,5,none⟩ (.int .i64 0)=w3:=aI B3 (j:=5) rfl
  have f0:=az B3 0;have f1:=az B3 1;have f2:=az B3 2;have f3:=az B3 3;have f4:=az B3 4;have f5:=az B3 5
  clear B3 hP HB2
  go_wp2
  refine bodyPost_ret (v:=.tuple #[.agg #[.int .i64 0,.int .u8 0,.int .i64 0,.int .u8 0,.int .i64 0,.int .i64 0],.int .i64 0,.int .i64 2]) (by simp[results,Tryz.results109,go_sem,z0,z1,z2,z3,z4,z5]) rfl ?_
  exact⟨Pm.no,0,2,rfl,LR,jR,bP⟩
def frd (e n:Int) (l:List Bm.Ov):List Int:=if Cm.aJ e n l=0 then Wl.fr ⟨e,n,l⟩else []
theorem aj8 (e n:Int)(v:Value)(l:List Bm.Ov)(w:World)(h:dm w v l)(hf:fG l)(hl:l.length≤140737488355328):
  Calls Tryz.prog 167 #[cZ e n v] w fun E w'=>∃vb,E=.returned (.tuple #[vb,.int .i64 (Cm.aJ e n l)])∧Own .u8 5 w.heap.size w' vb (frd e n l)∧Below w.heap.size w w':=by
 obtain⟨ao,cap,hv,_,_⟩:=h.shape
 obtain⟨w1,hw1,bH,ax,hB⟩:=ay w #[.int .i64 e,.int .i64 n,v] 32
 have c0:w1.cell? ⟨w.heap.size,0,none⟩=some (.int .i64 e):=ai hB 0 rfl
 have c1:w1.cell? ⟨w.heap.size,1,none⟩=some (.int .i64 n):=ai hB 1 rfl
 have c2:w1.cell? ⟨w.heap.size,2,none⟩=some v:=ai hB 2 rfl
 have HC:=hide (apq e n v l w1 (h.below ax) hf hl)
 unfold cZ at HC⊢
 rw[hv]at hw1 c2 HC⊢
 obtain⟨ch,hch⟩:∃c,Cm.aJ e n l=c:=⟨_,rfl⟩
 have KC:=hide hch
 rw[hch]at HC⊢
 clear h hf hl hB hv hch
 go_enter Tryz.func167,Tryz.ntmps167
 go_wp2_with fail
 refine HC.out.mono ?_
 rintro E w2 ⟨vb,rfl,own,aB⟩
 have aY:=ax.trans (aB.mono ax.size)
 obtain⟨ab,cb,hvb,_,_⟩:=own.is.shape
 by_cases hc0:ch=0
 ·have hz:(Cm.out e n l).length≤430:=Cm.yB e n l
  have HF:=hide (aaR (.slice none 0 0) vb [] (Cm.out e n l) w2 (Is.nil _ _) own.is (by simp) (by omega))
  have ea:ape (Cm.out e n l)=0:=by unfold ape;rw[if_pos (by omega)]
  have ed:apd [] (Cm.out e n l)=frd e n l:=by
   unfold apd frd
   rw[if_pos (by omega),if_pos (by rw[KC.out];exact hc0),Cm.lC (by rw[KC.out];exact hc0)]
   rfl
  rw[ea,ed]at HF
  subst hvb
  subst hc0
  clear own ax aB ea ed hz HC
  go_wp2_with fail
  refine HF.out.mono ?_
  rintro E w3 ⟨vf,rfl,df,aH⟩
  obtain⟨af,cf,hvf,_,_⟩:=df.is.shape
  have O3:=hide (df.bz (base':=w.heap.size) aY.size)
  have B3:=hide (aY.trans (aH.mono aY.size))
  subst hvf
  clear df aH aY HF
  go_wp2
  go_ret2
  exact⟨_,rfl,O3.out,B3.out⟩
 ·have ed:frd e n l=[]:=by unfold frd;rw[if_neg (by rw[KC.out];exact hc0)]
  have ED:=hide ed
  have hne:(ch !=0)=true:=by simp[hc0]
  subst hvb
  clear own ax aB ed HC
  go_wp2
  go_ret2
  exact⟨_,rfl,by rw[ED.out];exact Own.nil _ _ _ _,aY⟩
theorem WkV.put {p q:Nat}{w:World}{l:List Cm.Cv}{bk:Bool}{vc ve:Value}{rs:List Cw}(h:WkV p q w l bk vc ve rs)(b:Bool):WkV p q (w.setCell ⟨p,1,none⟩ (.bool b)) l b vc ve rs∧Out (fun g=>g=p) w (w.setCell ⟨p,1,none⟩ (.bool b)):=by
 have ho:Out (fun g=>g=p) w (w.setCell ⟨p,1,none⟩ (.bool b)):=Out.aT (aC w ⟨p,1,none⟩ (.bool b)) fun g hg=>by simp at hg;exact hg.symm
 refine⟨⟨by rw[aL h.blk];rfl,h.log.agree fun g hg=>ho.block g (h.log.lt g hg) fun e=>?_⟩,ho⟩
 exact h.log.r.ne h.blk (by decide) (by decide) (by decide) (e▸hg)
theorem WW.flag {p q:Nat}{F:Nat→Prop}{w:World}{s:Wl.Ws}(h:WW p q F w s)(b:Bool):ja p q F w (w.setCell ⟨p,1,none⟩ (.bool b)) ⟨s.d,s.l,b⟩:=by
 obtain⟨F1,G1,h1,h2,rfl⟩:=h
 obtain⟨vc,ve,rs,hv,rfl⟩:=h2
 obtain⟨k1,k2⟩:=hv.put b
 have h2:Wk p q (fun g=>g=p∨LB vc ve rs g) w s.l s.bk:=⟨vc,ve,rs,hv,rfl⟩
 refine⟨_,⟨F1,_,h1.out k2 fun g hg e=>oC h2 h1 g (.inl e) hg,⟨vc,ve,rs,k1,rfl⟩,rfl⟩,k2.mono fun g hg=>.inl (.inr (.inl hg)),fun g hg=>.inl hg⟩
theorem yA (p q:Nat)(F:Nat→Prop)(w:World)(s:Wl.Ws)(h:WW p q F w s):
  Calls Tryz.prog 166 #[.pointer (some ⟨p,0,none⟩)] w fun E w'=>(Wl.ask s=true∧E=.returned (.int .i64 6)∧ja p q F w w' (Wl.brk s))∨(Wl.ask s=false∧E=.returned (.int .i64 0)∧w=w'):=by
 have HF:=hide (h.flag true)
 obtain⟨F1,G1,h1,h2,rfl⟩:=h
 obtain⟨vc,ve,rs,hv,rfl⟩:=h2
 have HM:=hide (oQ p q w #[] _ _ _ hv.blk)
 have HO:=hide (yE q F1 w s.d h1)
 have c0:=ai hv.blk 0 rfl
 have c1:=ai hv.blk 1 rfl
 have f1:=az hv.blk 1
 simp only[List.getElem_toArray,List.getElem_cons_zero,List.getElem_cons_succ]at c0 c1
 unfold Wl.ask
 generalize s.d.on=on at HO⊢
 generalize s.bk=bk at c1⊢
 clear hv h1
 cases bk<;>cases on
 ·go_enter Tryz.func166,Tryz.ntmps166
  go_wp2_with fail
  refine HM.out.mono ?_
  rintro E w1 ⟨rfl,rfl⟩
  go_wp2_with fail
  refine HO.out.mono ?_
  rintro E w1 ⟨rfl,rfl⟩
  go_wp2
  go_ret
  exact .inl ⟨rfl,rfl,HF.out⟩
 ·go_enter Tryz.func166,Tryz.ntmps166
  go_wp2_with fail
  refine HM.out.mono ?_
  rintro E w1 ⟨rfl,rfl⟩
  go_wp2_with fail
  refine HO.out.mono ?_
  rintro E w1 ⟨rfl,rfl⟩
  go_wp2
  go_ret
  exact .inr ⟨rfl,rfl,rfl⟩
 ·go_enter Tryz.func166,Tryz.ntmps166
  go_wp2_with fail
  refine HM.out.mono ?_
  rintro E w1 ⟨rfl,rfl⟩
  go_wp2
  go_ret
  exact .inl ⟨rfl,rfl,HF.out⟩
 ·go_enter Tryz.func166,Tryz.ntmps166
  go_wp2_with fail
  refine HM.out.mono ?_
  rintro E w1 ⟨rfl,rfl⟩
  go_wp2
  go_ret
  exact .inl ⟨rfl,rfl,HF.out⟩
theorem ad1 (p q:Nat)(F:Nat→Prop)(w:World)(s:Wl.Ws)(e:Int)(h:WW p q F w s):
  Calls Tryz.prog 169 #[.pointer (some ⟨p,0,none⟩),.int .i64 e] w fun E w'=>E=.returned (.int .i64 e)∧ja p q F w w' ⟨s.d,s.l,e==6⟩:=by
 have HF:=hide (h.flag (e==6))
 obtain⟨F1,G1,h1,h2,rfl⟩:=h
 obtain⟨vc,ve,rs,hv,rfl⟩:=h2
 have c1:=ai hv.blk 1 rfl
 have f1:=az hv.blk 1
 simp only[List.getElem_toArray,List.getElem_cons_zero,List.getElem_cons_succ]at c1
 clear hv h1
 go_enter Tryz.func169,Tryz.ntmps169
 go_wp2
 go_ret
 exact⟨rfl,HF.out⟩
theorem ao6 (p q:Nat)(F:Nat→Prop)(w:World)(s:Wl.Ws)(h:WW p q F w s):
  Calls Tryz.prog 108 #[.pointer (some ⟨p,0,none⟩)] w fun E w'=>E=.returned (.int .i64 s.l.length)∧w=w':=by
 obtain⟨F1,G1,h1,h2,rfl⟩:=h
 obtain⟨vc,ve,rs,hv,rfl⟩:=h2
 have HM:=hide (oQ p q w #[] _ _ _ hv.blk)
 have HE:=hide (lI p 2 w vc rs (ai hv.blk 2 rfl) hv.log.r.row.row)
 rw[hv.log.len]at HE
 clear hv h1
 go_enter Tryz.func108,Tryz.ntmps108
 go_wp2_with fail
 refine HM.out.mono ?_
 rintro E w1 ⟨rfl,rfl⟩
 go_wp2_with fail
 refine HE.out.mono ?_
 rintro E w1 ⟨rfl,rfl⟩
 go_wp2
 go_ret
 exact⟨rfl,rfl⟩
theorem abK (p q:Nat)(F:Nat→Prop)(w:World)(s:Wl.Ws)(h:WW p q F w s):
  Calls Tryz.prog 54 #[.pointer (some ⟨p,0,none⟩)] w fun E w'=>E=.returned (.int .i64 (Cm.lastE 0 s.l))∧∃m,w'=w.drewN m:=by
 obtain⟨F1,G1,h1,h2,rfl⟩:=h
 obtain⟨vc,ve,rs,hv,rfl⟩:=h2
 have HM:=hide (oQ p q w #[] _ _ _ hv.blk)
 have hgl:=eB hv.log.good
 have HE:=hide (acN p 2 w vc rs (ai hv.blk 2 rfl) hv.log.r.row.row (by rw[hv.log.len];exact hgl))
 rw[hv.log.is]at HE
 clear hv h1
 go_enter Tryz.func54,Tryz.ntmps54
 go_wp2_with fail
 refine HM.out.mono ?_
 rintro E w1 ⟨rfl,rfl⟩
 go_wp2_with fail
 refine HE.out.mono ?_
 rintro E w1 ⟨rfl,m,rfl⟩
 go_wp2
 go_ret
 exact⟨rfl,m,rfl⟩
theorem aer (p q:Nat)(w:World)(l:List Cm.Cv)(bk:Bool)(vc ve:Value)(rs:List Cw)(hv:WkV p q w l bk vc ve rs):
  Calls Tryz.prog 154 #[.pointer (some ⟨p,0,none⟩)] w fun E w'=>E=.returned (.int .i64 (Wl.aW l).length)∧∃m,w'=w.drewN m:=by
 have HM:=hide (oQ p q w #[] _ _ _ hv.blk)
 have hgl:=eB hv.log.good
 have HE:Hid (∀n,Calls Tryz.prog 143 #[.pointer (some ⟨p,2,none⟩)] (w.drewN n) fun E w'=>E=.returned (.int .i64 l.length)∧∃m,w'=(w.drewN n).drewN m):=hide fun n=>by
  have:=lI p 2 (w.drewN n) vc rs (ai hv.blk 2 rfl) (hv.log.r.row.row.below (below_drewN (Below.refl _ _) n))
  rw[hv.log.len]at this
  exact this.mono fun E w' h=>⟨h.1,0,by rw[←h.2];rfl⟩
 have HP:Hid (∀n,Calls Tryz.prog 181 #[.pointer (some ⟨p,2,none⟩),.int .i64 l.length] (w.drewN n) fun E w'=>E=.returned (.int .i64 (Wl.aW l).length)∧∃m,w'=(w.drewN n).drewN m):=hide fun n=>by
  have:=ab2 p 2 (w.drewN n) ve l l.length (Nat.le_refl _) hgl (ai hv.blk 3 rfl) (hv.log.r.en.is.drewN n)
  rw[List.take_length]at this
  exact this.mono fun E w' h=>⟨h.1,0,by rw[←h.2];rfl⟩
 clear hv
 go_enter Tryz.func154,Tryz.ntmps154
 go_wp2_with fail
 refine HM.out.mono ?_
 rintro E w1 ⟨rfl,rfl⟩
 go_wp2
 go_quiet (first|(go_at_call 143;refine Calls.quiet_of (HE.out _))|(go_at_call 181;refine Calls.quiet_of (HP.out _)))
 go_wp2
 go_ret
 exact⟨rfl,_,rfl⟩
end Go.Proofs.YtpifdeoepppadaaGreatDoor
