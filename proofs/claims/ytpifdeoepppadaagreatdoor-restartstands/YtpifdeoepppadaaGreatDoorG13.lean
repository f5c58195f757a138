/- Texts of one layer, one behind the other. -/
import Derived.Test.YtpifdeoepppadaaGreatDoorG10
import Derived.Test.YtpifdeoepppadaaGreatDoorG7
import Derived.Test.YtpifdeoepppadaaGreatDoorG12
import Derived.Test.YtpifdeoepppadaaGreatDoorG9
import Derived.Test.YtpifdeoepppadaaGreatDoorG11
set_option maxRecDepth 100000
set_option maxHeartbeats 8000000
namespace Go.Proofs.YtpifdeoepppadaaGreatDoor
open Go.RowKit
open Bm (Ov)
set_option linter.unusedVariables false
theorem Tryz.age:Tryz.prog.underlying 71=some (.slice (Tryz.prog.elem 71)):=by kernel_rfl
theorem Tryz.agP (wx:World):(sizeOf (Tryz.prog.elem 71)).run Tryz.prog wx=.ok 1 wx:=by kernel_rfl
theorem lS {V:World}{R:Nat}{t:TypeId}{cs:Array Value}(hR:V.heap[R]? =some (.cells cs t (0,0)))(j:Nat)(u:Value):
  ∃V',V.setCell ⟨R,j,none⟩ u=V'∧V'.heap[R]? =some (.cells (cs.setIfInBounds j u) t (0,0))∧V.grownBy V' (some R)∧V.frozen? ⟨R,j,none⟩=false:=
 ⟨_,rfl,aL hR j u,aC _ _ _,az hR j⟩
def Nr (bs:List Int) (x y m k a:Nat):Prop:=match k with
 |0=>a=0
 |1=>Vm.enc x<+:bs∧a=Vm.sz x∧x≤1048576
 |2=>Vm.enc x<+:bs∧Vm.enc y<+:bs.drop (Vm.sz x)∧a=Vm.sz x+Vm.sz y∧x≤1048576∧y≤1048576
 |_=>Vm.enc x<+:bs∧Vm.enc y<+:bs.drop (Vm.sz x)∧Vm.enc m<+:bs.drop (Vm.sz x+Vm.sz y)∧a=Vm.sz x+Vm.sz y+Vm.sz m∧x≤1048576∧y≤1048576∧m≤1048576
theorem yc {bs:List Int}{x a:Nat}(h:Vm.enc x<+:bs.drop a)(ha:a≤bs.length):a+Vm.sz x≤bs.length:=by
 have:=h.length_le
 rw[List.length_drop]at this
 have e:(Vm.enc x).length=Vm.sz x:=rfl
 omega
theorem Nr.le {bs:List Int}{x y m k a:Nat}(h:Nr bs x y m k a):a≤bs.length:=by
 unfold Nr at h
 split at h
 ·omega
 ·have:=h.1.length_le
  have e:(Vm.enc x).length=Vm.sz x:=rfl
  omega
 ·obtain⟨h1,h2,h3,_⟩:=h
  have:=h1.length_le
  have e:(Vm.enc x).length=Vm.sz x:=rfl
  have:=yc h2 (by omega)
  omega
 ·obtain⟨h1,h2,h3,h4,_⟩:=h
  have:=h1.length_le
  have e:(Vm.enc x).length=Vm.sz x:=rfl
  have:=yc h2 (by omega)
  have:=yc h3 (by omega)
  omega
def RdR (bs:List Int) (x y:Int) (l:List Ov) (a e:Int):Prop:=
 (e=5∧x=0∧y=0∧l=[]∧a=0∧Rn.No bs)∨
 (e=0∧∃X Y:Nat,x=X∧y=Y∧X≤1048576∧Y≤1048576∧l.length≤1048576∧Vm.enc X<+:bs∧Vm.enc Y<+:bs.drop (Vm.sz X)∧Vm.enc l.length<+:bs.drop (Vm.sz X+Vm.sz Y)∧Rn.dV l<+:bs.drop (Vm.sz X+Vm.sz Y+Vm.sz l.length)∧(∀o∈l,o.c=0)∧a=((Vm.sz X+Vm.sz Y+Vm.sz l.length+(Rn.dV l).length:Nat):Int))
structure yg (bs:List Int) (w wr:World) (x y m a:Nat) (v:Value) (l:List Ov):Prop where
 blk:wr.heap[w.heap.size]? =some (.cells #[.int .i64 x,.int .i64 y,v] 122 (0,0))
 own:aV 106 (w.heap.size+2) wr v l
 aF:Below w.heap.size w wr
 sz:w.heap.size+2≤wr.heap.size
 nr:Nr bs x y m 3 (Vm.sz x+Vm.sz y+Vm.sz m)
 dV:Rn.dV l<+:bs.drop (Vm.sz x+Vm.sz y+Vm.sz m)
 ok:∀o∈l,o.c=0
 a:a=Vm.sz x+Vm.sz y+Vm.sz m+(Rn.dV l).length
theorem yg.le {bs:List Int}{w wr:World}{x y m a:Nat}{v:Value}{l:List Ov}(h:yg bs w wr x y m a v l):a≤bs.length:=by
 have h1:=h.nr.le
 have h2:=h.dV.length_le
 have h3:=h.a
 rw[List.length_drop]at h2
 omega
theorem yg.bad {bs:List Int}{w wr:World}{x y m a:Nat}{v:Value}{l:List Ov}(h:yg bs w wr x y m a v l)(hlt:l.length<m){p:Bool}{k u:List UInt8}{n:Int}(hr:Om.rU (bs.drop a) p k u n 5):Rn.No bs:=by
 obtain⟨h1,h2,h3,_⟩:=h.nr
 refine Rn.no4 h1 h2 h3 h.dV h.ok hlt fun o ho hp=>?_
 rcases hr with⟨h0,_⟩|⟨_,_,_,_,_,hn⟩
 ·cases h0
 ·rw[h.a]at hn
  exact hn o.p o.kl o.vl ho hp
theorem yg.more {bs:List Int}{w wr:World}{x y m a:Nat}{v:Value}{l:List Ov}(h:yg bs w wr x y m a v l){o:Ov}{n:Int}(hr:Om.rU (bs.drop a) o.p o.kl o.vl n 0):
  o.c=0∧Rn.dV (l++[o])<+:bs.drop (Vm.sz x+Vm.sz y+Vm.sz m)∧(∀q∈l++[o],q.c=0)∧∃j:Nat,n=(j:Int)∧a+j=Vm.sz x+Vm.sz y+Vm.sz m+(Rn.dV (l++[o])).length∧j≤51:=by
 rcases hr with⟨_,h1,h2,h3⟩|⟨h0,_⟩
 ·refine⟨h1,?_,fun q hq=>?_,(Om.dw o.p o.kl o.vl).length,h3,?_,Om.q9 h1⟩
  ·rw[Rn.aaP,Bm.bB,List.drop_drop,←h.a]
   exact⟨h.dV,h2⟩
  ·rcases List.mem_append.1 hq with hq|hq
   ·exact h.ok q hq
   ·rw[List.mem_singleton.1 hq];exact h1
  ·rw[Rn.aaP,List.length_append,h.a]
   omega
 ·cases h0
theorem yg.fin {bs:List Int}{w wr:World}{x y m a:Nat}{v:Value}{l:List Ov}(h:yg bs w wr x y m a v l)(hm:l.length=m):RdR bs x y l a 0:=by
 have hn:=h.nr
 have he:=h.dV
 have ha:=h.a
 subst hm
 obtain⟨h1,h2,h3,_,h5,h6,h7⟩:=hn
 exact .inr ⟨rfl,x,y,rfl,rfl,h5,h6,h7,h1,h2,h3,he,h.ok,by rw[ha]⟩
theorem amw (vb:Value)(bs:List Int)(w:World)(hb:Is .u8 w vb bs)(hl:bs.length≤140737488355328):
  Calls Tryz.prog 213 #[vb] w fun E w'=>∃(x y a e:Int) (v:Value) (l:List Ov),E=.returned (.tuple #[cZ x y v,.int .i64 a,.int .i64 e])∧aV 106 w.heap.size w' v l∧Hid (RdR bs x y l a e)∧Below w.heap.size w w':=by
 unfold cZ
 obtain⟨w1,hw1,bH,ax,jc⟩:=ay w #[.int .i64 0,.int .i64 0,.slice none 0 0] 122
 obtain⟨w2,hw2,fA,aB,zl⟩:=ay w1 #[.int .i64 0,.int .i64 0,.int .i64 0] 239
 have hR2:=(aB.block _ (aA jc)).trans jc
 rw[bH]at zl
 have aY:=ax.trans (aB.mono (by omega))
 have p8:=hide hb
 obtain⟨ao,cap,hvb,_,_⟩:=hb.shape
 have D0:Hid (w2.heap[w.heap.size]? =some (.cells #[.int .i64 0,.int .i64 0,.slice none 0 0] 122 (0,0))∧w2.heap[w.heap.size+1]? =some (.cells #[.int .i64 (0:Nat),.int .i64 (0:Nat),.int .i64 (0:Nat)] 239 (0,0))∧Below w.heap.size w w2∧Nr bs 0 0 0 0 0):=hide ⟨hR2,zl,aY,rfl⟩
 subst hvb
 clear jc hR2 zl ax aB hb aY
 go_enter Tryz.func213,Tryz.ntmps213
 go_wp2
 go_loopw [3,13] (fun aa kk wr=>∃(k a x y m:Nat),k≤3∧kk=.int .i64 k∧aa=.int .i64 a∧Hid (wr.heap[w.heap.size]? =some (.cells #[.int .i64 0,.int .i64 0,.slice none 0 0] 122 (0,0))∧wr.heap[w.heap.size+1]? =some (.cells #[.int .i64 x,.int .i64 y,.int .i64 m] 239 (0,0))∧Below w.heap.size w wr∧Nr bs x y m k a)) (fun _ kk _=>4-(intOf kk).toNat)
 case atStart=>exact⟨0,0,0,0,0,by omega,rfl,rfl,D0⟩
 case round=>
  clear D0
  obtain⟨k,a,x,y,m,hk,rfl,rfl,D⟩:=hrel
  obtain⟨B0,B1,bN,hn⟩:=D.out
  have ru:=bN.size
  have hal:=hn.le
  have jD:=aA B0
  have lt1:=aA B1
  by_cases hk3:k<3
  ·obtain⟨vs,hsl,dC⟩:=(p8.out.below bN).dP Tryz.age Tryz.agP a hal
   obtain⟨u,i,g,hS⟩:=ig (bs.drop a) ((1048576:Nat):Int)
   have HS:=hide hS
   have ST:=hide (iB (most:=1048576) (by omega) hS)
   have hdl:(bs.drop a).length=bs.length-a:=by rw[List.length_drop]
   have HN:=hide hn
   have HK:=hide hk3
   have hk3':(k:Int)<3:=by omega
   have hsm:Hid (∀W,Is .u8 W vs (bs.drop a)→Calls Tryz.prog 210 #[vs,.int .i64 1048576] W fun E w'=>E=.returned (.tuple #[.int .i64 u,.int .i64 i,.int .i64 g])∧W=w'):=hide fun W hW=>dH vs (bs.drop a) 1048576 u i g W hW (by omega) (by omega) (by omega) HS.out
   clear hS hn hk3 HS
   go_wp2_with fail
   refine(hsm.out _ dC).mono ?_
   rintro E w4 ⟨rfl,rfl⟩
   clear dC hsl hsm
   rcases ST.out with⟨z,rfl,rfl,rfl,hz,hp⟩|⟨rfl,rfl,rfl,hno⟩
   ·have uo:=Vm.gK (x:=z) (by omega)
    have hwr:=aN ((a:Int)+(Vm.sz z:Int)) (by omega) (by omega)
    rcases(show k=0∨k=1∨k=2 by have:=HK.out;omega)with rfl|rfl|rfl
    ·obtain⟨V,hV,bV,gV,fz⟩:=lS B1 0 (.int .i64 z)
     have cz:=ai B1 0 rfl
     have DN:Hid (V.heap[w.heap.size]? =some (.cells #[.int .i64 0,.int .i64 0,.slice none 0 0] 122 (0,0))∧V.heap[w.heap.size+1]? =some (.cells #[.int .i64 z,.int .i64 y,.int .i64 m] 239 (0,0))∧Below w.heap.size w V∧Nr bs z y m 1 (a+Vm.sz z)):=
      hide ⟨(gV.block _ jD (by simp)).trans B0,bV,aK bN gV (by omega) bN.size,by
       have h0:a=0:=HN.out
       subst h0
       rw[List.drop_zero]at hp
       exact⟨hp,by omega,hz⟩⟩
     clear B0 B1 bV gV hp D ST HN HK
     go_wp2
     go_roundw
     case rel=>exact⟨1,a+Vm.sz z,z,y,m,by omega,rfl,by go_num,DN⟩
     case measure=>simp[intOf]
    ·obtain⟨V,hV,bV,gV,fz⟩:=lS B1 1 (.int .i64 z)
     have cz:=ai B1 1 rfl
     have DN:Hid (V.heap[w.heap.size]? =some (.cells #[.int .i64 0,.int .i64 0,.slice none 0 0] 122 (0,0))∧V.heap[w.heap.size+1]? =some (.cells #[.int .i64 x,.int .i64 z,.int .i64 m] 239 (0,0))∧Below w.heap.size w V∧Nr bs x z m 2 (a+Vm.sz z)):=
      hide ⟨(gV.block _ jD (by simp)).trans B0,bV,aK bN gV (by omega) bN.size,by
       obtain⟨h1,h2,h3⟩:=HN.out
       subst h2
       exact⟨h1,hp,rfl,h3,hz⟩⟩
     clear B0 B1 bV gV hp D ST HN HK
     go_wp2
     go_roundw
     case rel=>exact⟨2,a+Vm.sz z,x,z,m,by omega,rfl,by go_num,DN⟩
     case measure=>simp[intOf]
    ·obtain⟨V,hV,bV,gV,fz⟩:=lS B1 2 (.int .i64 z)
     have cz:=ai B1 2 rfl
     have DN:Hid (V.heap[w.heap.size]? =some (.cells #[.int .i64 0,.int .i64 0,.slice none 0 0] 122 (0,0))∧V.heap[w.heap.size+1]? =some (.cells #[.int .i64 x,.int .i64 y,.int .i64 z] 239 (0,0))∧Below w.heap.size w V∧Nr bs x y z 3 (a+Vm.sz z)):=
      hide ⟨(gV.block _ jD (by simp)).trans B0,bV,aK bN gV (by omega) bN.size,by
       obtain⟨h1,h2,h3,h4,h5⟩:=HN.out
       subst h3
       exact⟨h1,h2,hp,rfl,h4,h5,hz⟩⟩
     clear B0 B1 bV gV hp D ST HN HK
     go_wp2
     go_roundw
     case rel=>exact⟨3,a+Vm.sz z,x,y,z,by omega,rfl,by go_num,DN⟩
     case measure=>simp[intOf]
   ·have yz:Hid (Rn.No bs):=hide (by
     have h0:=HN.out
     rcases(show k=0∨k=1∨k=2 by have:=HK.out;omega)with rfl|rfl|rfl
     ·have ha:a=0:=h0
      subst ha
      exact Rn.no1 (by simpa using hno)
     ·obtain⟨h1,h2,h3⟩:=h0
      subst h2
      exact Rn.no2 h1 hno
     ·obtain⟨h1,h2,h3,h4,h5⟩:=h0
      subst h3
      exact Rn.no3 h1 h2 (by omega) hno)
    obtain⟨z0,z1,z2⟩:wr.cell? ⟨w.heap.size,0,none⟩=some (.int .i64 0)∧wr.cell? ⟨w.heap.size,1,none⟩=some (.int .i64 0)∧wr.cell? ⟨w.heap.size,2,none⟩=some (.slice none 0 0):=⟨ai B0 0 rfl,ai B0 1 rfl,ai B0 2 rfl⟩
    have s0:wr.setCell ⟨w.heap.size,0,none⟩ (.int .i64 0)=wr:=aI B0 (j:=0) rfl
    have s1:wr.setCell ⟨w.heap.size,1,none⟩ (.int .i64 0)=wr:=aI B0 (j:=1) rfl
    have s2:wr.setCell ⟨w.heap.size,2,none⟩ (.slice none 0 0)=wr:=aI B0 (j:=2) rfl
    have f0:=az B0 0;have f1:=az B0 1;have f2:=az B0 2
    clear B0 B1 hno D ST HN HK
    go_wp2
    refine bodyPost_ret (v:=.tuple #[.agg #[.int .i64 0,.int .i64 0,.slice none 0 0],.int .i64 0,.int .i64 5]) (by simp[results,Tryz.results213,go_sem,z0,z1,z2]) rfl ?_
    exact⟨0,0,0,5,_,[],rfl,aV.nil _ _ _,hide (.inl ⟨rfl,rfl,rfl,rfl,rfl,yz.out⟩),bN⟩
  ·obtain rfl:k=3:=by omega
   obtain⟨q0,q1,q2⟩:wr.cell? ⟨w.heap.size+1,0,none⟩=some (.int .i64 x)∧wr.cell? ⟨w.heap.size+1,1,none⟩=some (.int .i64 y)∧wr.cell? ⟨w.heap.size+1,2,none⟩=some (.int .i64 m):=⟨ai B1 0 rfl,ai B1 1 rfl,ai B1 2 rfl⟩
   have f0:=az B0 0;have f1:=az B0 1
   have z0:=ai B0 0 rfl;have z1:=ai B0 1 rfl
   simp only[List.getElem_toArray,List.getElem_cons_zero,List.getElem_cons_succ]at z0 z1
   obtain⟨V,hV,RO,v2⟩:∃V,((wr.setCell ⟨w.heap.size,0,none⟩ (.int .i64 x)).setCell ⟨w.heap.size,1,none⟩ (.int .i64 y)).drew=V∧yg bs w V x y m a (.slice none 0 0) []∧V.cell? ⟨w.heap.size+1,2,none⟩=some (.int .i64 m):=by
    have g2:wr.grownBy ((wr.setCell ⟨w.heap.size,0,none⟩ (.int .i64 x)).setCell ⟨w.heap.size,1,none⟩ (.int .i64 y)) (some w.heap.size):=aO (aC wr ⟨w.heap.size,0,none⟩ (.int .i64 x)) (aC _ ⟨w.heap.size,1,none⟩ (.int .i64 y))
    have ha:a=Vm.sz x+Vm.sz y+Vm.sz m:=hn.2.2.2.1
    refine⟨_,rfl,⟨aL (aL B0 0 _) 1 _,aV.nil _ _ _,(aK bN g2 (Nat.le_refl _) bN.size).drew,Nat.le_trans (show w.heap.size+2≤wr.heap.size by omega) g2.size,by rw[←ha];exact hn,by simp[Rn.dV],by simp,by simp[Rn.dV];exact ha⟩,?_⟩
    exact ai ((g2.block _ lt1 (by simp)).trans B1) 2 rfl
   have HRO:=hide RO
   have hm20:m≤1048576:=hn.2.2.2.2.2.2
   clear B0 B1 D hn RO
   go_wp2
   go_region
   clear hV q0 q1 q2 f0 f1 z0 z1 bN ru jD lt1
   go_wp2
   go_loopw [3,43] (fun aa kk ws=>∃(k a:Nat) (v:Value) (l:List Ov),k≤m∧kk=.int .i64 k∧aa=.int .i64 a∧l.length=k∧Hid (yg bs w ws x y m a v l)) (fun _ kk _=>m-(intOf kk).toNat)
   case atStart=>exact⟨0,a,_,[],by omega,rfl,rfl,rfl,HRO⟩
   case round=>
    clear HRO v2
    obtain⟨k,a,v,l,hk,rfl,rfl,hlk,RO⟩:=hrel
    have hal:=RO.out.le
    have ru:=RO.out.sz
    obtain⟨av,nv,kv,hvv⟩:∃a n k,v=.slice a n k:=by
     obtain⟨a1,k1,h1,_⟩:=RO.out.own.is.shape
     exact⟨a1,_,k1,h1⟩
    subst hvv
    by_cases hkm:k<m
    ·have aBj:(k:Int)<m:=by omega
     obtain⟨vs,hsl,dC⟩:=(p8.out.below RO.out.aF).dP Tryz.age Tryz.agP a hal
     have HRD:=hide (ano vs (bs.drop a) wr dC (by rw[List.length_drop];omega))
     have hdl:(bs.drop a).length=bs.length-a:=by rw[List.length_drop]
     unfold tu at HRD
     clear dC
     go_wp2_with fail
     refine HRD.out.mono ?_
     rintro E w5 ⟨p,ky,vl,n,e,rfl,hor,aX⟩
     have pq:=aX.size
     obtain⟨w6,uz,avE,tC,dJ,b6,x0,x1,x2⟩:=dO w5 106 (.bool false) (.string ⟨#[]⟩) (.string ⟨#[]⟩) (.bool p) (.string ky) (.string vl)
     have qE:=aX.trans (dJ.mono pq)
     have B6:=(qE.block _ (aA RO.out.blk)).trans RO.out.blk
     have eu:=RO.out.own.below qE
     have jr:=RO.out.aF.trans (qE.mono RO.out.aF.size)
     have HOR:=hide hor
     have he:e=0∨e=5:=by
      rcases hor with⟨h,_⟩|⟨h,_⟩
      ·exact .inl h
      ·exact .inr h
     clear hor aX dJ HRD hsl
     rcases he with rfl|rfl
     ·obtain⟨hoc,he1,he2,j,rfl,hj1,hj2⟩:=RO.out.more (o:=⟨p,ky,vl⟩) HOR.out
      have hwr:=aN ((a:Int)+(j:Int)) (by omega) (by omega)
      have y2:=ai B6 2 rfl
      have f2:=az B6 2
      simp only[List.getElem_toArray,List.getElem_cons_zero,List.getElem_cons_succ]at y2
      obtain⟨w7,hw7,sz7,fQ,jO⟩:=lN 106 w6 #[.bool p,.string ky,.string vl] 1 [⟨p,ky,vl⟩] rfl rfl (by simp[maxLen])
      have asU:=eu.below fQ
      have is7:dm w7 (.slice (some ⟨w5.heap.size+1,0,none⟩) 1 1) [⟨p,ky,vl⟩]:=by rw[←tC];exact jO.is
      have B7:=(fQ.block _ (aA B6)).trans B6
      have hz7:w.heap.size+2≤w7.heap.size:=by omega
      have hlen:(l.length+[(⟨p,ky,vl⟩:Ov)].length)*40≤140737488355328:=by simp;omega
      have HOK:=hide (show Rn.dV (l++[⟨p,ky,vl⟩])<+:bs.drop (Vm.sz x+Vm.sz y+Vm.sz m)∧(∀q∈l++[(⟨p,ky,vl⟩:Ov)],q.c=0)∧a+j=Vm.sz x+Vm.sz y+Vm.sz m+(Rn.dV (l++[⟨p,ky,vl⟩])).length from⟨he1,he2,hj1⟩)
      have HB7:=hide (show w7.heap[w.heap.size]? =some (.cells #[.int .i64 x,.int .i64 y,.slice av nv kv] 122 (0,0))∧Below w.heap.size w w7 from⟨B7,jr.trans (fQ.mono jr.size)⟩)
      have c0:=ai B7 2 rfl
      have g0:=az B7 2
      clear jO eu B6 B7 b6 fQ jr he1 he2 hj1 HOR
      go_wp2_with (at_builtin;refine iN rfl (.tmp 58) (.tmp 60) 30 rfl 106 (w.heap.size+2) Tryz.underlying30 Tryz.nR _ l rfl asU _ [⟨p,ky,vl⟩] rfl is7 hlen hz7 ?_)
      rintro v8 w8 mP lg gr8
      obtain⟨a8,n8,k8,hv8⟩:∃a n k,v8=.slice a n k:=by
       obtain⟨a1,k1,h1,_⟩:=mP.is.shape
       exact⟨a1,_,k1,h1⟩
      subst hv8
      have B8:=(lg.block w.heap.size (by omega)).trans HB7.out.1
      have akd:=HB7.out.2.trans (lg.mono (by omega))
      have hz8:=lg.size
      obtain⟨V,hV,bV,gV,fz⟩:=lS B8 2 (.slice a8 n8 k8)
      have cz:=ai B8 2 rfl
      simp only[List.getElem_toArray,List.getElem_cons_zero,List.getElem_cons_succ]at cz
      have RN:Hid (yg bs w V x y m (a+j) (.slice a8 n8 k8) (l++[⟨p,ky,vl⟩])):=hide ⟨bV,mP.kept gV (by
        cases hq:(Value.slice a8 n8 k8).ownBlock with
        |none=>exact .inl rfl
        |some b=>exact .inr (by have:=(mP.block b hq).1;simp;omega)),aK akd gV (Nat.le_refl _) akd.size,by have:=gV.size;omega,RO.out.nr,HOK.out.1,HOK.out.2.1,HOK.out.2.2⟩
      clear mP asU is7 B8 bV gV lg akd gr8 HB7 HOK RO x0 x1 x2 c0 g0 y2 f2
      go_wp2
      go_roundw
      case rel=>
       iterate 29 apply Exists.intro
       refine And.intro ?_ rfl
       exact⟨k+1,a+j,_,_,by omega,by go_num,by go_num,by simp[hlk],RN⟩
      case measure=>simp[intOf];omega
     ·have yz:Hid (Rn.No bs):=hide (RO.out.bad (by omega) HOR.out)
      obtain⟨V,hV,bV,gV,⟨z0,z1,z2⟩,⟨f0,f1,f2⟩,⟨t0,t1,t2⟩⟩:=dN B6 (.int .i64 0) (.int .i64 0) (.slice none 0 0)
      have bn:Below w.heap.size w V:=aK jr gV (Nat.le_refl _) jr.size
      clear B6 bV gV eu jr qE HOR RO b6
      go_wp2
      refine bodyPost_ret (v:=.tuple #[.agg #[.int .i64 0,.int .i64 0,.slice none 0 0],.int .i64 0,.int .i64 5]) (by simp[results,Tryz.results213,go_sem,t0,t1,t2]) rfl ?_
      exact⟨0,0,0,5,_,[],rfl,aV.nil _ _ _,hide (.inl ⟨rfl,rfl,rfl,rfl,rfl,yz.out⟩),bn⟩
    ·have aBj:¬(k:Int)<m:=by omega
     have HF:=hide (RO.out.fin (by omega))
     have B0:=RO.out.blk
     obtain⟨z0,z1,z2⟩:wr.cell? ⟨w.heap.size,0,none⟩=some (.int .i64 x)∧wr.cell? ⟨w.heap.size,1,none⟩=some (.int .i64 y)∧wr.cell? ⟨w.heap.size,2,none⟩=some (.slice av nv kv):=⟨ai B0 0 rfl,ai B0 1 rfl,ai B0 2 rfl⟩
     have s0:wr.setCell ⟨w.heap.size,0,none⟩ (.int .i64 x)=wr:=aI B0 (j:=0) rfl
     have s1:wr.setCell ⟨w.heap.size,1,none⟩ (.int .i64 y)=wr:=aI B0 (j:=1) rfl
     have s2:wr.setCell ⟨w.heap.size,2,none⟩ (.slice av nv kv)=wr:=aI B0 (j:=2) rfl
     have f0:=az B0 0;have f1:=az B0 1;have f2:=az B0 2
     have OW:=hide (RO.out.own.bz (base':=w.heap.size) (by omega))
     have BE:=hide RO.out.aF
     clear B0 RO
     go_wp2
     refine bodyPost_ret (v:=.tuple #[.agg #[.int .i64 x,.int .i64 y,.slice av nv kv],.int .i64 a,.int .i64 0]) (by simp[results,Tryz.results213,go_sem,z0,z1,z2]) rfl ?_
     first|exact⟨x,y,a,0,_,l,rfl,OW.out,HF,BE.out⟩|exact⟨x,y,a,0,_,rfl,l,OW.out,HF,BE.out⟩
end Go.Proofs.YtpifdeoepppadaaGreatDoor
namespace Go.Proofs.YtpifdeoepppadaaGreatDoor
open Go.RowKit
open Bm (Ov)
set_option linter.unusedVariables false
theorem asx {l:List Ov}(h:∀o∈l,o.c=0):fG l:=fun o ho=>by
 obtain⟨_,h2,h3,_⟩:=Om.fI (h o ho)
 have e1:o.k.size=o.k.data.toList.length:=rfl
 have e2:o.v.size=o.v.data.toList.length:=rfl
 have e3:o.kl=o.k.data.toList:=rfl
 have e4:o.vl=o.v.data.toList:=rfl
 rw[e3]at h2
 rw[e4]at h3
 omega
theorem RdR.good {bs:List Int}{x y a:Int}{l:List Ov}(h:RdR bs x y l a 0):(∀o∈l,o.c=0)∧l.length≤1048576∧In64 x∧In64 y∧(0≤a∧a≤bs.length)∧(a=bs.length∧Rn.aJ x y l=0→Rn.Dc bs x y l 0)∧(¬(a=bs.length∧Rn.aJ x y l=0)→Rn.No bs):=by
 rcases h with⟨h0,_⟩|⟨_,X,Y,rfl,rfl,h1,h2,h3,h4,h5,h6,h7,h8,ha⟩
 ·cases h0
 ·have q1:=h4.length_le
  have e1:(Vm.enc X).length=Vm.sz X:=rfl
  have q2:=yc h5 (by omega)
  have q3:=yc h6 (by omega)
  have q4:=h7.length_le
  rw[List.length_drop]at q4
  refine⟨h8,h3,⟨by omega,by omega⟩,⟨by omega,by omega⟩,⟨by omega,by omega⟩,fun h=>.inl ⟨rfl,h.2,Rn.ok5 h4 h5 h6 h7 (by have:=h.1;omega)⟩,fun h=>?_⟩
  refine Rn.no5 h4 h5 h6 h7 h8 ?_
  by_cases hc:Rn.aJ X Y l=0
  ·exact .inl fun e=>h ⟨by omega,hc⟩
  ·exact .inr hc
theorem aqn (vb:Value)(bs:List Int)(w:World)(hb:Is .u8 w vb bs)(hl:bs.length≤140737488355328):
  Calls Tryz.prog 193 #[vb] w fun E w'=>∃(x y g:Int) (v:Value) (l:List Ov),E=.returned (.tuple #[cZ x y v,.int .i64 g])∧aV 106 w.heap.size w' v l∧Hid (Rn.Dc bs x y l g)∧Below w.heap.size w w':=by
 unfold cZ
 obtain⟨w1,hw1,bH,ax,jc⟩:=ay w #[.int .i64 0,.int .i64 0,.slice none 0 0] 122
 have HRD:=hide (amw vb bs w1 (hb.below ax) hl)
 unfold cZ at HRD
 obtain⟨ao,cap,hvb,_,_⟩:=hb.shape
 subst hvb
 clear hb
 go_enter Tryz.func193,Tryz.ntmps193
 go_wp2_with fail
 refine HRD.out.mono ?_
 rintro E w2 ⟨x,y,a,e,v,l,rfl,bq,HR,aB⟩
 have fA:=aB.size
 obtain⟨av,nv,kv,hvv⟩:∃a n k,v=.slice a n k:=by
  obtain⟨a1,k1,h1,_⟩:=bq.is.shape
  exact⟨a1,_,k1,h1⟩
 subst hvv
 obtain⟨w3,hw3,aoG,fZ,aH,b3,x0,x1,x2⟩:=dO w2 122 (.int .i64 0) (.int .i64 0) (.slice none 0 0) (.int .i64 x) (.int .i64 y) (.slice av nv kv)
 have ng:=aB.trans (aH.mono fA)
 have B0:=(ng.block _ (aA jc)).trans jc
 have df:=bq.below aH
 have bP:=ax.trans (ng.mono ax.size)
 clear ax aB aH ng bq HRD jc
 have he:e=0∨e=5:=by
  rcases HR.out with⟨h,_⟩|⟨h,_⟩
  ·exact .inr h
  ·exact .inl h
 have BAD:Hid (Rn.No bs→Rn.Dc bs 0 0 [] 5):=hide fun h=>.inr ⟨rfl,rfl,rfl,rfl,h⟩
 rcases he with rfl|rfl
 ·obtain⟨g1,g2,g3,g4,g5,g6,g7⟩:=HR.out.good
  have HG6:=hide g6
  have HG7:=hide g7
  by_cases ha:a=bs.length
  ·have hne:(a !=(bs.length:Int))=false:=by simp[ha]
   have HA:=hide ha
   have HC:=hide (acw x y (.slice av nv kv) l w3 df.is (asx g1) (by omega))
   unfold cZ at HC
   obtain⟨ck,hck⟩:∃c,Rn.aJ x y l=c:=⟨_,rfl⟩
   rw[hck]at HC
   have HCK:=hide hck
   generalize bs.length=nb at*
   clear g1 g6 g7 ha hck
   go_wp2_with fail
   refine HC.out.mono ?_
   rintro E w4 ⟨rfl,aS⟩
   have pK:=aS.size
   have B4:=(aS.block _ (aA B0)).trans B0
   have C4:=(aS.block _ (aA b3)).trans b3
   have bM:=df.below aS
   have dF:=bP.trans (aS.mono bP.size)
   clear B0 b3 df bP x0 x1 x2 HC aS
   by_cases hc0:ck=0
   ·subst hc0
    have DC:=hide (HG6.out ⟨HA.out,HCK.out⟩)
    obtain⟨V,hV,bV,gV,⟨z0,z1,z2⟩,⟨f0,f1,f2⟩,⟨t0,t1,t2⟩⟩:=dN B4 (.int .i64 x) (.int .i64 y) (.slice av nv kv)
    have y0:=ai C4 0 rfl
    have y1:=ai C4 1 rfl
    have y2:=ai C4 2 rfl
    have OV:=hide ((bM.kept gV (by
     cases hq:(Value.slice av nv kv).ownBlock with
     |none=>exact .inl rfl
     |some b=>exact .inr (by have:=(bM.block b hq).1;simp;omega))).bz (base':=w.heap.size) (by omega))
    have BV:=hide (aK dF gV (Nat.le_refl _) dF.size)
    clear B4 C4 bV gV bM dF HG6 HG7 HR
    go_wp2
    refine bodyPost_ret (v:=.tuple #[.agg #[.int .i64 x,.int .i64 y,.slice av nv kv],.int .i64 0]) (by simp[results,Tryz.results193,go_sem,t0,t1,t2]) rfl ?_
    first|exact⟨x,y,0,_,l,rfl,OV.out,DC,BV.out⟩|exact⟨x,y,0,_,rfl,l,OV.out,DC,BV.out⟩
   ·have DC:=hide (BAD.out (HG7.out fun h=>hc0 (by rw[←HCK.out];exact h.2)))
    have hcb:(ck !=0)=true:=by simp[hc0]
    obtain⟨z0,z1,z2⟩:w4.cell? ⟨w.heap.size,0,none⟩=some (.int .i64 0)∧w4.cell? ⟨w.heap.size,1,none⟩=some (.int .i64 0)∧w4.cell? ⟨w.heap.size,2,none⟩=some (.slice none 0 0):=⟨ai B4 0 rfl,ai B4 1 rfl,ai B4 2 rfl⟩
    have s0:w4.setCell ⟨w.heap.size,0,none⟩ (.int .i64 0)=w4:=aI B4 (j:=0) rfl
    have s1:w4.setCell ⟨w.heap.size,1,none⟩ (.int .i64 0)=w4:=aI B4 (j:=1) rfl
    have s2:w4.setCell ⟨w.heap.size,2,none⟩ (.slice none 0 0)=w4:=aI B4 (j:=2) rfl
    have f0:=az B4 0;have f1:=az B4 1;have f2:=az B4 2
    clear B4 C4 bM HG6 HG7 HR
    go_wp2
    refine bodyPost_ret (v:=.tuple #[.agg #[.int .i64 0,.int .i64 0,.slice none 0 0],.int .i64 5]) (by simp[results,Tryz.results193,go_sem,z0,z1,z2]) rfl ?_
    first|exact⟨0,0,5,_,[],rfl,aV.nil _ _ _,DC,dF⟩|exact⟨0,0,5,_,rfl,[],aV.nil _ _ _,DC,dF⟩
  ·have hne:(a !=(bs.length:Int))=true:=by simp[ha]
   have DC:=hide (BAD.out (HG7.out fun h=>ha h.1))
   generalize bs.length=nb at*
   obtain⟨z0,z1,z2⟩:w3.cell? ⟨w.heap.size,0,none⟩=some (.int .i64 0)∧w3.cell? ⟨w.heap.size,1,none⟩=some (.int .i64 0)∧w3.cell? ⟨w.heap.size,2,none⟩=some (.slice none 0 0):=⟨ai B0 0 rfl,ai B0 1 rfl,ai B0 2 rfl⟩
   have s0:w3.setCell ⟨w.heap.size,0,none⟩ (.int .i64 0)=w3:=aI B0 (j:=0) rfl
   have s1:w3.setCell ⟨w.heap.size,1,none⟩ (.int .i64 0)=w3:=aI B0 (j:=1) rfl
   have s2:w3.setCell ⟨w.heap.size,2,none⟩ (.slice none 0 0)=w3:=aI B0 (j:=2) rfl
   have f0:=az B0 0;have f1:=az B0 1;have f2:=az B0 2
   clear B0 b3 df HG6 HG7 g1 g6 g7 HR ha
   go_wp2
   refine bodyPost_ret (v:=.tuple #[.agg #[.int .i64 0,.int .i64 0,.slice none 0 0],.int .i64 5]) (by simp[results,Tryz.results193,go_sem,z0,z1,z2]) rfl ?_
   first|exact⟨0,0,5,_,[],rfl,aV.nil _ _ _,DC,bP⟩|exact⟨0,0,5,_,rfl,[],aV.nil _ _ _,DC,bP⟩
 ·have DC:=hide (BAD.out (by
   rcases HR.out with⟨_,_,_,_,_,h⟩|⟨h,_⟩
   ·exact h
   ·cases h))
  obtain⟨z0,z1,z2⟩:w3.cell? ⟨w.heap.size,0,none⟩=some (.int .i64 0)∧w3.cell? ⟨w.heap.size,1,none⟩=some (.int .i64 0)∧w3.cell? ⟨w.heap.size,2,none⟩=some (.slice none 0 0):=⟨ai B0 0 rfl,ai B0 1 rfl,ai B0 2 rfl⟩
  have s0:w3.setCell ⟨w.heap.size,0,none⟩ (.int .i64 0)=w3:=aI B0 (j:=0) rfl
  have s1:w3.setCell ⟨w.heap.size,1,none⟩ (.int .i64 0)=w3:=aI B0 (j:=1) rfl
  have s2:w3.setCell ⟨w.heap.size,2,none⟩ (.slice none 0 0)=w3:=aI B0 (j:=2) rfl
  have f0:=az B0 0;have f1:=az B0 1;have f2:=az B0 2
  clear B0 b3 df HR
  go_wp2
  refine bodyPost_ret (v:=.tuple #[.agg #[.int .i64 0,.int .i64 0,.slice none 0 0],.int .i64 5]) (by simp[results,Tryz.results193,go_sem,z0,z1,z2]) rfl ?_
  first|exact⟨0,0,5,_,[],rfl,aV.nil _ _ _,DC,bP⟩|exact⟨0,0,5,_,rfl,[],aV.nil _ _ _,DC,bP⟩
end Go.Proofs.YtpifdeoepppadaaGreatDoor
namespace Go.Proofs.YtpifdeoepppadaaGreatDoor
open Go.RowKit
set_option linter.unusedVariables false
theorem abN (vl:Value)(l:List Bm.Ov)(w:World)(h:dm w vl l)(hl:l.length*40≤140737488351232):
  Calls Tryz.prog 145 #[vl] w fun e w'=>∃v,e=.returned v∧aV 106 w.heap.size w' v l∧Below w.heap.size w w':=by
 have q:∀(w:World) (a:Option Addr) (n c n' c':Nat),(binOp .eql 30 (.slice a n c) (.slice none n' c')).run Tryz.prog w=.ok (.bool a.isNone) w:=fun w a n c n' c'=>Lib.run_eql_slice_nil w _ _ a n c n' c' Tryz.underlying30
 by_cases hn:vl=.slice none 0 0
 ·subst hn
  have:l=[]:=by
   rcases h with⟨_,h⟩|⟨ad,cap,h,_⟩
   ·exact h
   ·simp at h
  subst this
  clear h hl
  go_enter Tryz.func145,Tryz.ntmps145
  go_wp2
  go_ret
  exact⟨_,rfl,aV.nil _ _ _,Below.refl _ _⟩
 ·obtain⟨ad,cap,rfl⟩:∃ad cap,vl=.slice (some ad) l.length cap:=by
   rcases h with⟨h,_⟩|⟨ad,cap,h,_⟩
   ·exact absurd h hn
   ·exact⟨ad,cap,h⟩
  clear hn
  obtain⟨w1,hw1,bH,ax,bJ⟩:=lN 106 w #[] 0 [] rfl rfl (by simp[maxLen])
  have h1:=h.below ax
  go_enter Tryz.func145,Tryz.ntmps145
  go_wp2_with (at_builtin;refine iN rfl (.tmp 5) (.tmp 6) 30 rfl 106 w.heap.size Tryz.underlying30 Tryz.nR _ [] rfl bJ _ l rfl h1 (by simp;omega) (by omega) ?_)
  intro v2 w2 bq aB _
  go_wp2
  go_ret
  exact⟨_,rfl,by simpa using bq,ax.trans aB⟩
theorem wY {l:List Dm.Rw}{k:Nat}{r:Dm.Rw}(h:l[k]? =some r):l.take (k+1)=l.take k++[r]:=by
 obtain⟨hk,rfl⟩:=List.getElem?_eq_some_iff.1 h
 exact List.take_succ_eq_append_getElem hk
theorem zg:∀(l:List Dm.Rw) (k:Nat),Dm.bulk (l.take k)≤Dm.bulk l
 |[],k=>by simp[Dm.bulk]
 |r::l,0=>by simp[Dm.bulk]
 |r::l,k+1=>by
  have:=zg l k
  simp only[List.take_succ_cons,Dm.bulk]
  omega
theorem ado {l:List Dm.Rw}{k:Nat}{r:Dm.Rw}(h:l[k]? =some r):Dm.bulk (l.take k)+r.bytes.length≤Dm.bulk l:=by
 have h1:=zg l (k+1)
 rw[wY h,Dm.vX]at h1
 simp only[Dm.bulk]at h1
 omega
theorem amN {l:List Dm.Rw}{k:Nat}{r:Dm.Rw}(h:l[k]? =some r)(f:Nat)(b:List Int):Dm.hold f b (l.take (k+1))=if r.file=f then Dm.iC (Dm.hold f b (l.take k)) r else Dm.hold f b (l.take k):=by
 rw[wY h,Dm.lV]
theorem wC (base:Nat)(vb:Value)(bs:List Int)(r:Rv)(w:World)(hb:Own .u8 5 base w vb bs)(hbase:base≤w.heap.size)(hv:Is .u8 w r.v r.bytes)(hto:r.cut=true→r.to≤bs.length)(hl:bs.length+r.bytes.length≤140737488355328):
  Calls Tryz.prog 150 #[.agg #[.int .i64 (jq r),.int .i64 r.file,r.v,.int .i64 r.to],vb] w fun E w'=>∃v,E=.returned v∧Own .u8 5 base w' v (Dm.iC bs r.r)∧Out (fun g=>vb.ownBlock=some g) w w'∧∀b,v.ownBlock=some b→vb.ownBlock=some b∨w.heap.size≤b:=by
 cases hc:r.cut
 ·have hk:jq r=0:=by simp[jq,hc]
  have e:Dm.iC bs r.r=bs++r.bytes:=by simp[Dm.iC,Rv.r,hc]
  rw[e,hk]
  obtain⟨w1,hw1,bH,ax,hB⟩:=ay w #[.int .i64 0,.int .i64 r.file,r.v,.int .i64 r.to] 132
  have c0:w1.cell? ⟨w.heap.size,0,none⟩=some (.int .i64 0):=ai hB 0 rfl
  have c2:w1.cell? ⟨w.heap.size,2,none⟩=some r.v:=ai hB 2 rfl
  have hb1:=hb.below ax
  have hv1:=hv.below ax
  have X:Hid (∀ty,∃v' w',(Builtin.append_ #[71,71] ty #[vb,r.v]).run Tryz.prog w1=.ok v' w'∧(Own .u8 5 base w' v' (bs++r.bytes)∧w1.grownBy w' vb.ownBlock∧(v'.ownBlock=vb.ownBlock∨v'.ownBlock=some w1.heap.size))):=hide fun ty=>
   lJ 71 ty .u8 5 base 1 Tryz.underlying71 Tryz.info5 (by decide) vb bs hb1 r.v r.bytes hv1 (by omega) (by omega)
  clear hB hb1 hv1 hto hc e hk
  go_enter Tryz.func150,Tryz.ntmps150
  go_wp2_with (at_builtin;refine jN rfl (.tmp 9) (.tmp 11) 71 rfl vb r.v rfl rfl X.out ?_)
  intro v2 w2 bq gJ at2
  have ho:Out (fun g=>vb.ownBlock=some g) w w2:=(Out.of_below ax).trans (G:=fun g=>vb.ownBlock=some g) (Out.aT gJ fun g hg=>hg) fun g hg=>.inl hg
  have hat:∀b,v2.ownBlock=some b→vb.ownBlock=some b∨w.heap.size≤b:=by
   intro b hb'
   rcases at2 with h|h
   ·exact .inl (by rw[←h];exact hb')
   ·rw[hb']at h
    simp at h
    exact .inr (by omega)
  have HO:=hide ho
  have HAT:=hide hat
  clear ho hat at2 gJ
  go_wp2
  go_ret
  exact⟨_,rfl,bq,HO.out,HAT.out⟩
 ·have hk:jq r=1:=by simp[jq,hc]
  have e:Dm.iC bs r.r=bs.take r.to:=by simp[Dm.iC,Rv.r,hc]
  rw[e,hk]
  have aBc:=hto hc
  obtain⟨w1,hw1,bH,ax,hB⟩:=ay w #[.int .i64 1,.int .i64 r.file,r.v,.int .i64 r.to] 132
  have c0:w1.cell? ⟨w.heap.size,0,none⟩=some (.int .i64 1):=ai hB 0 rfl
  have c3:w1.cell? ⟨w.heap.size,3,none⟩=some (.int .i64 r.to):=ai hB 3 rfl
  obtain⟨vs,hsl,own,hat⟩:=(hb.below ax).jW Tryz.lG Tryz.nC r.to aBc
  have HO:Hid (Out (fun g=>vb.ownBlock=some g) w w1):=hide (Out.of_below ax)
  have HAT:Hid (∀b,vs.ownBlock=some b→vb.ownBlock=some b∨w.heap.size≤b):=hide fun b hb'=>.inl (hat b hb')
  clear hB hat hto hc e hk
  go_enter Tryz.func150,Tryz.ntmps150
  go_wp2
  go_ret
  exact⟨_,rfl,own,HO.out,HAT.out⟩
theorem ahh (p:Nat)(F:Nat→Prop)(w:World)(st:Dm.Ds)(f:Nat)(h:Pk p F w st)(hf:f<4)(hsz:(st.sure f).length+Dm.bulk st.wait≤140737488355000)(hw:st.wait.length≤1000000):
  Calls Tryz.prog 139 #[.pointer (some ⟨p,0,none⟩),.int .i64 f] w fun E w'=>∃v,E=.returned v∧Own .u8 5 w.heap.size w' v (Dm.hold f (st.sure f) st.wait)∧Below w.heap.size w w':=by
 obtain⟨s,wv,rs,h,rfl⟩:=h
 have cf:=h.cf f hf
 have c7:=h.c7
 have hp:=h.lt p (.inl rfl)
 have isf:=(h.fP.file f hf).is
 have hlr:=h.fP.len
 obtain⟨ao,cap,hv,hcap,hcm⟩:=h.fP.row.row.shape
 have hrow:0<rs.length→∃b off c,wv=.slice (some ⟨b,off,none⟩) rs.length c∧b<w.heap.size∧∀i a,rs[i]? =some a→∀j u,(jw a)[j]? =some u→w.cell? ⟨b,off+i*4+j,none⟩=some u:=by
  intro h0
  obtain⟨b,off,c,h1,_,_,h4,h5⟩:=h.fP.row.row.full kF (by decide) h0
  exact⟨b,off,c,h1,h4,h5⟩
 have H:=hide h
 have arU:=hide hrow
 subst hv
 clear h hrow
 have hf0:(0:Int)≤(f:Int):=by omega
 have hf4:(f:Int)<4:=by omega
 go_enter Tryz.func139,Tryz.ntmps139
 go_wp2_with fail
 refine(vN _ _ _ isf (by omega)).mono ?_
 rintro E w1 ⟨v1,rfl,bJ,ax⟩
 have d7:=(ax.cell (p:=⟨p,7,none⟩) hp).trans c7
 clear cf isf
 go_wp2
 go_loopw [5,20] (fun bv iv wr=>∃k:Nat,k≤rs.length∧iv=.int .i64 k∧Hid (Own .u8 5 w.heap.size wr bv (Dm.hold f (st.sure f) (st.wait.take k)))∧Below w.heap.size w wr) (fun _ iv _=>rs.length-(intOf iv).toNat)
 case atStart=>exact⟨0,by omega,rfl,hide (by simpa[Dm.hold]using bJ),ax⟩
 case round=>
  obtain⟨k,hk,rfl,HT,aF⟩:=hrel
  have sz:=aF.size
  by_cases hlt:k<rs.length
  ·obtain⟨b,off,cq,dL,hB,hcell⟩:=arU.out (by omega)
   simp only[Value.slice.injEq,true_and]at dL
   obtain⟨rfl,rfl⟩:=dL
   obtain⟨r,hr⟩:∃r,rs[k]? =some r:=⟨rs[k],by rw[List.getElem?_eq_getElem]⟩
   have e0:wr.cell? ⟨b,off+k*4,none⟩=some (.int .i64 (jq r)):=(aF.cell (p:=⟨b,off+k*4,none⟩) hB).trans (hcell k r hr 0 _ rfl)
   have e1:wr.cell? ⟨b,off+k*4+1,none⟩=some (.int .i64 r.file):=(aF.cell (p:=⟨b,off+k*4+1,none⟩) hB).trans (hcell k r hr 1 _ rfl)
   have e2:wr.cell? ⟨b,off+k*4+2,none⟩=some r.v:=(aF.cell (p:=⟨b,off+k*4+2,none⟩) hB).trans (hcell k r hr 2 _ rfl)
   have e3:wr.cell? ⟨b,off+k*4+3,none⟩=some (.int .i64 r.to):=(aF.cell (p:=⟨b,off+k*4+3,none⟩) hB).trans (hcell k r hr 3 _ rfl)
   obtain⟨V,hV,hV2,fE,bn,bV,x0,x1,x2,x3⟩:=aa5 wr 132 (.int .i64 0) (.int .i64 0) (.slice none 0 0) (.int .i64 0) (.int .i64 (jq r)) (.int .i64 r.file) r.v (.int .i64 r.to)
   have hst:st.wait[k]? =some r.r:=by rw[←H.out.fP.wait,List.getElem?_map,hr];rfl
   have hbl:=ado hst
   have hhl:=Dm.kD (st.wait.take k) (st.sure f) f
   have hfit:=Dm.aa3 H.out.ok hst
   obtain⟨ar,cr,kS,_,_⟩:=(H.out.fP.raw r (List.mem_of_getElem? hr)).1.shape
   have ir:=(((H.out.fP.raw r (List.mem_of_getElem? hr)).1).below aF).below bn
   have HN:=hide (amN hst f (st.sure f))
   have hlt':(k:Int)<rs.length:=by omega
   have hk0:(0:Int)≤(k:Int):=by omega
   have asL:=aF.trans (bn.mono (by omega))
   have HTV:=hide (HT.out.below bn)
   by_cases hff:r.file=f
   ·have hfe:((r.file:Int)==(f:Int))=true:=by simp[hff]
    have hto:r.cut=true→r.to≤(Dm.hold f (st.sure f) (st.wait.take k)).length:=by
     intro hc
     have:=hfit.2.1 hc
     rw[show r.r.file=f from hff,←Dm.eX]at this
     exact this
    have HTO:=hide hto
    have hlen:(Dm.hold f (st.sure f) (st.wait.take k)).length+r.bytes.length≤140737488355328:=by
     have:r.r.bytes=r.bytes:=rfl
     rw[this]at hbl
     omega
    have awJ:r.r.file=f:=hff
    have yN:=hide awJ
    have BI:=hide (fun(v0:Value) (h0:Own .u8 5 w.heap.size V v0 (Dm.hold f (st.sure f) (st.wait.take k)))=>wC w.heap.size v0 _ r V h0 (by omega) ir HTO.out hlen)
    have HB2:=hide bV
    have HRV:=hide kS
    rw[kS]at e2 hV hV2 x2
    rw[kS]at BI
    clear hst hbl hhl hfit hto hff awJ hcell hr HTO hlen ir kS bV
    go_wp2_with fail
    refine(BI.out _ HTV.out).mono ?_
    rintro E w2 ⟨v2,rfl,bq,yD,at2⟩
    have aB:Below w.heap.size V w2:=yD.below (fun g hg=>(HTV.out.block g hg).1) (by omega)
    have HT2:Hid (Own .u8 5 w.heap.size w2 v2 (Dm.hold f (st.sure f) (st.wait.take (k+1)))):=hide (by
     rw[HN.out,if_pos yN.out]
     exact bq)
    have nN:=asL.trans aB
    clear bq aB yD at2
    go_wp2
    go_roundw
    case rel=>exact⟨k+1,by omega,by go_num,HT2,nN⟩
    case measure=>simp[intOf];omega
   ·have hfe:((r.file:Int)==(f:Int))=false:=by simp;omega
    have HT2:=hide (show Own .u8 5 w.heap.size V _ (Dm.hold f (st.sure f) (st.wait.take (k+1)))by rw[HN.out,if_neg (show ¬r.r.file=f from hff)];exact HTV.out)
    rw[kS]at e2 hV hV2 x2
    clear hst hbl hhl hfit hcell hr hff ir kS bV
    go_wp2
    go_roundw
    case rel=>exact⟨k+1,by omega,by go_num,HT2,asL⟩
    case measure=>simp[intOf];omega
  ·have hlt':¬(k:Int)<rs.length:=by omega
   have HT2:=HT.out
   rw[List.take_of_length_le (by omega)]at HT2
   clear HT
   go_wp2
   go_ret
   exact⟨_,rfl,HT2,aF⟩
end Go.Proofs.YtpifdeoepppadaaGreatDoor
