/- Texts of one layer, one behind the other. -/
import Derived.Test.YtjemlgdkjilnoaaGreatDoorH3
import Derived.Test.YtjemlgdkjilnoaaGreatDoorH4
import Derived.Test.YtjemlgdkjilnoaaGreatDoorG3
import Derived.Test.YtjemlgdkjilnoaaGreatDoorG2
import Derived.Test.YtjemlgdkjilnoaaGreatDoorH5
import Derived.Test.YtjemlgdkjilnoaaGreatDoorH9
import Derived.WalkMore
import Derived.Test.YtjemlgdkjilnoaaGreatDoorH1
import Derived.Test.YtjemlgdkjilnoaaGreatDoorH2
import Derived.Deep.RegionHeld3
set_option maxRecDepth 100000
set_option maxHeartbeats 8000000
namespace Go.Proofs.YtjemlgdkjilnoaaGreatDoor
open Go.RowKit
set_option linter.unusedVariables false
def afv (bs:List Int) (e n:Int) (l:List Bm.Ov) (k g:Int):Prop:=
 (g=0∧∃x y:Nat,x≤1048576∧y≤1048576∧Vm.enc x<+:bs∧Vm.enc y<+:bs.drop (Vm.sz x)∧Bm.dY l=0∧Bm.eB l<+:bs.drop (Vm.sz x+Vm.sz y)∧e=x∧n=y∧k=((Vm.sz x+Vm.sz y+(Bm.eB l).length:Nat):Int))∨
 (g=5∧e=0∧n=0∧l=[]∧k=0∧∀e' n' l',Cm.chk e' n' l'=0→Cm.iA e' n' l'≠bs)
theorem aek {bs:List Int}{u i g:Int}(h:aap bs 1048576 u i g):
  (g=0∧∃x s:Nat,x≤1048576∧Vm.enc x<+:bs∧Vm.sz x=s∧u=x∧i=s∧s≤bs.length∧s≤10)∨(g=5∧u=0∧i=0∧Cm.aiX bs):=by
 rcases h with⟨hR,_,h2,rfl⟩|⟨rfl,rfl,rfl,x,n,e,hR,hx⟩
 ·have hb:=Vm.mh hR
  rcases hR with⟨x,h3,h4,rfl,rfl,_⟩|⟨_,_,_,h⟩
  ·exact .inl ⟨rfl,x,_,by omega,h4,rfl,rfl,rfl,by omega,by omega⟩
  ·simp at h
 ·refine .inr ⟨rfl,rfl,rfl,fun y hy hp=>?_⟩
  obtain⟨e1,e2,e3⟩:=Vm.uR hR (by omega) hp
  omega
theorem ak6 (vb:Value)(bs:List Int)(w:World)(hb:Is .u8 w vb bs)(hl:bs.length≤140737488355328):
  Calls Tryz.prog 194 #[vb] w fun E w'=>∃(e n k g:Int) (v:Value) (l:List Bm.Ov),E=.returned (.tuple #[bT e n v,.int .i64 k,.int .i64 g])∧bz 92 w.heap.size w' v l∧afv bs e n l k g∧Below w.heap.size w w':=by
 unfold bT
 obtain⟨w1,hw1,aW,aj,hB⟩:=ak w #[.int .i64 0,.int .i64 0,.slice none 0 0] 65
 have hb1:=hb.below aj
 obtain⟨u,i,g,hS⟩:=ni bs 1048576
 obtain⟨ao,cap,rfl,_,_⟩:=hb.shape
 obtain⟨Z,hZ,bZ,gZ,⟨a0,a1,a2⟩,⟨f0,f1,f2⟩,⟨z0,z1,z2⟩⟩:=dP hB (.int .i64 0) (.int .i64 0) (.slice none 0 0)
 have zU:=aD aj gZ (Nat.le_refl _) (by omega)
 have HB:=hide hB
 have HS:=hide hS
 clear hB bZ gZ
 go_enter Tryz.func194,Tryz.ntmps194
 go_wp2_with fail
 refine(ku _ bs 1048576 u i g _ hb1 (by omega) (by omega) (by omega) HS.out).mono ?_
 rintro E w2 ⟨rfl,rfl⟩
 rcases aek HS.out with⟨rfl,x,s,hx,px,hsx,rfl,rfl,hsl,aoi⟩|⟨rfl,rfl,rfl,hN⟩
 ·obtain⟨vs,hvs,eH⟩:=hb1.gu Tryz.kW Tryz.mq s hsl
  obtain⟨u,i,g,hS2⟩:=ni (bs.drop s) 1048576
  have HX:Hid (Vm.enc x<+:bs∧Vm.sz x=s):=⟨px,hsx⟩
  have HS2:=hide hS2
  clear px hsx hS2 HS
  go_wp2_with fail
  refine(ku _ _ 1048576 u i g _ eH (by rw[List.length_drop];omega) (by omega) (by omega) HS2.out).mono ?_
  rintro E w2 ⟨rfl,rfl⟩
  rcases aek HS2.out with⟨rfl,y,r,hy,py,hsy,rfl,rfl,hrl,hr10⟩|⟨rfl,rfl,rfl,hN⟩
  ·rw[List.length_drop]at hrl
   obtain⟨vr,hvr,isr⟩:=hb1.gu Tryz.kW Tryz.mq (s+r) (by omega)
   have HY:Hid (Vm.enc y<+:bs.drop s∧Vm.sz y=r):=⟨py,hsy⟩
   push_cast at hvr
   clear py hsy HS2
   go_wp2_with fail
   refine(alx vr _ _ isr (by rw[List.length_drop];omega)).mono ?_
   rintro E w3 ⟨vl,l,k,e,rfl,xP,hR,aF⟩
   have bP:=aF.size
   have hB3:=(aF.block w.heap.size (by omega)).trans HB.out
   have bg:=aj.trans (aF.mono (by omega))
   obtain⟨px,hsx⟩:=HX.out
   obtain⟨py,hsy⟩:=HY.out
   clear HX HY hZ a0 a1 a2 f0 f1 f2 z0 z1 z2 zU aj aF hb1 eH isr hvs hvr hb
   rcases hR with⟨rfl,hc,hp,rfl⟩|⟨rfl,rfl,rfl,hno⟩
   ·obtain⟨ah,ch,hvl,_,_⟩:=xP.is.shape
    subst hvl
    have hpl:=hp.length_le
    rw[List.length_drop]at hpl
    obtain⟨V,hV,bV,gV,⟨a0,a1,a2⟩,⟨f0,f1,f2⟩,⟨z0,z1,z2⟩⟩:=dP hB3 (.int .i64 x) (.int .i64 y) (.slice ah l.length ch)
    have bu:=aD bg gV (Nat.le_refl _) (by omega)
    have jH:=(xP.aa5 gV (by omega)).bB (base':=w.heap.size) (by omega)
    have HR:Hid (afv bs x y l ((s+r+(Bm.eB l).length:Nat):Int) 0):=hide (.inl ⟨rfl,x,y,hx,hy,px,by rw[hsx];exact py,hc,by rw[hsx,hsy];exact hp,rfl,rfl,by rw[hsx,hsy]⟩)
    clear px py hsx hsy hc hp bV gV hB3 xP bg
    go_wp2
    refine bodyPost_ret (v:=.tuple #[.agg #[.int .i64 x,.int .i64 y,.slice ah l.length ch],.int .i64 ((s+r+(Bm.eB l).length:Nat):Int),.int .i64 0]) (by simp[results,Tryz.results194,go_sem,z0,z1,z2]) rfl ?_
    exact⟨_,_,_,_,_,_,rfl,jH,HR.out,bu⟩
   ·obtain⟨V,hV,bV,gV,⟨a0,a1,a2⟩,⟨f0,f1,f2⟩,⟨z0,z1,z2⟩⟩:=dP hB3 (.int .i64 0) (.int .i64 0) (.slice none 0 0)
    have bu:=aD bg gV (Nat.le_refl _) (by omega)
    have HR:Hid (afv bs 0 0 [] 0 5):=hide (.inr ⟨rfl,rfl,rfl,rfl,rfl,Cm.anP px (by rw[hsx];exact py) (by rw[hsx,hsy];exact hno)⟩)
    clear px py hsx hsy hno bV gV hB3 xP bg
    go_wp2
    refine bodyPost_ret (v:=.tuple #[.agg #[.int .i64 0,.int .i64 0,.slice none 0 0],.int .i64 0,.int .i64 5]) (by simp[results,Tryz.results194,go_sem,z0,z1,z2]) rfl ?_
    exact⟨_,_,_,_,_,_,rfl,bz.nil _ _ _,HR.out,bu⟩
  ·have HR:Hid (afv bs 0 0 [] 0 5):=hide (.inr ⟨rfl,rfl,rfl,rfl,rfl,Cm.ajR HX.out.1 (by rw[HX.out.2];exact hN)⟩)
   clear hN HS2 HX
   go_wp2
   refine bodyPost_ret (v:=.tuple #[.agg #[.int .i64 0,.int .i64 0,.slice none 0 0],.int .i64 0,.int .i64 5]) (by simp[results,Tryz.results194,go_sem,z0,z1,z2]) rfl ?_
   exact⟨_,_,_,_,_,_,rfl,bz.nil _ _ _,HR.out,zU⟩
 ·have HR:Hid (afv bs 0 0 [] 0 5):=hide (.inr ⟨rfl,rfl,rfl,rfl,rfl,Cm.apj hN⟩)
  clear hN HS
  go_wp2
  refine bodyPost_ret (v:=.tuple #[.agg #[.int .i64 0,.int .i64 0,.slice none 0 0],.int .i64 0,.int .i64 5]) (by simp[results,Tryz.results194,go_sem,z0,z1,z2]) rfl ?_
  exact⟨_,_,_,_,_,_,rfl,bz.nil _ _ _,HR.out,zU⟩
def apF (e n:Int) (l:List Bm.Ov):Prop:=In64 e∧In64 n∧iR l∧l.length≤8
theorem arK {e n:Int}{l:List Bm.Ov}(h:Cm.chk e n l=0):apF e n l:=by
 obtain⟨h1,h2,h3,h4,h5⟩:=Cm.aQ h
 exact⟨⟨by omega,by omega⟩,⟨by omega,by omega⟩,(mZ h5).fit,(Bm.dI h5).2.1⟩
structure gN (b:Nat) (w:World) (vc:Value) (cs:List Cw):Prop where
 c:bD 65 b w vc cs
 o:dZ b w cs
 i:∀c∈cs,In64 c.e∧In64 c.n
 ap:ApC cs
 f:dV cs
theorem gN.nil (b:Nat)(w:World):gN b w (.slice none 0 0) []:=⟨bD.nil _ _ _,fun c hc=>by simp at hc,fun c hc=>by simp at hc,fun i j c d _ hc=>by simp at hc,fun c hc=>by simp at hc⟩
theorem gN.below {b:Nat}{w w':World}{vc:Value}{cs:List Cw}(h:gN b w vc cs)(hb:Below w.heap.size w w'):gN b w' vc cs:=⟨h.c.below hb,h.o.below hb,h.i,h.ap,h.f⟩
theorem gN.out {b:Nat}{w w':World}{vc:Value}{cs:List Cw}{F:Nat→Prop}(h:gN b w vc cs)(ho:Out F w w')(hF:∀i,F i→i<b):gN b w' vc cs:=by
 have k:∀(v:Value),(∀g,v.ownBlock=some g→b≤g∧g<w.heap.size)→∀g,v.ownBlock=some g→w'.heap[g]? =w.heap[g]? :=fun v hv g hg=>ho.block g (hv g hg).2 fun hf=>by have:=hF g hf;have:=(hv g hg).1;omega
 exact⟨dm h.c (k _ (World.ownsRow.lt h.c)),fun c hc=>dm (h.o c hc) (k _ (World.ownsRow.lt (h.o c hc))),h.i,h.ap,h.f⟩
theorem gN.bB {b b':Nat}{w:World}{vc:Value}{cs:List Cw}(h:gN b w vc cs)(hb:b'≤b):gN b' w vc cs:=⟨ma h.c hb,fun c hc=>ma (h.o c hc) hb,h.i,h.ap,h.f⟩
theorem gN.snoc {b:Nat}{w z4:World}{vc v4:Value}{cs:List Cw}{e n:Int}{vl:Value}{l:List Bm.Ov}{N:Nat}(h:gN b w vc cs)(kp:bK 65 w z4)(hc:bD 65 b z4 v4 (cs++[⟨e,n,vl,l⟩]))(ho:bz 92 N w vl l)(hN:b≤N)(hlt:∀d∈cs,∀g,d.v.ownBlock=some g→g<N)(hf:apF e n l):gN b z4 v4 (cs++[⟨e,n,vl,l⟩]):=by
 refine⟨hc,(h.o.iN kp).snoc ((ho.bB hN).iN kp (by decide)),fun c hcc=>?_,aeP h.ap hlt (fun g hg=>(World.ownsRow.lt ho g hg).1),fun c hcc=>?_⟩
 ·rcases List.mem_append.1 hcc with hcc|hcc
  ·exact h.i c hcc
  ·rw[List.mem_singleton.1 hcc];exact⟨hf.1,hf.2.1⟩
 ·rcases List.mem_append.1 hcc with hcc|hcc
  ·exact h.f c hcc
  ·rw[List.mem_singleton.1 hcc];exact⟨hf.2.2.1,by have:=hf.2.2.2;show l.length*40≤_;omega⟩
theorem gN.push {b:Nat}{w w6:World}{v:Value}{cs:List Cw}(h:gN b w v cs)(hbw:b≤w.heap.size)(hb:Below w.heap.size w w6)(c:Cw)(hc:bz 92 w.heap.size w6 c.v c.l)(hf:apF c.e c.n c.l)(hl:cs.length≤2000000):
  ∃V,w6.alloc (.cells #[.int .i64 c.e,.int .i64 c.n,c.v] 65)=V∧Below w6.heap.size w6 V∧V.heap.size=w6.heap.size+1∧∀ty,∃v2 w2,(Builtin.append_ #[26,26] ty #[v,.slice (some ⟨w6.heap.size,0,none⟩) 1 1]).run Tryz.prog V=.ok v2 w2∧gN b w2 v2 (cs++[c])∧V.grownBy w2 v.ownBlock∧∃a n k,v2=.slice a n k:=by
 obtain⟨V,hV,kg,bu,jH⟩:=kC 65 w6 #[.int .i64 c.e,.int .i64 c.n,c.v] 1 [c] rfl rfl (by simp[maxLen])
 have lV:=hb.size
 have vZ:Below w.heap.size w V:=hb.trans (bu.mono lV)
 refine⟨V,hV,bu,kg,fun ty=>?_⟩
 have hV':=h.below vZ
 obtain⟨v2,w2,hr,aT,il,at2⟩:=jX (P:=Tryz.prog) (w:=V) 26 ty 65 b Tryz.underlying26 Tryz.nO v cs hV'.c _ [c] jH.row (fun d hd=>by rw[List.mem_singleton.1 hd];exact hc.is.one) (by simp;omega) (by omega)
 refine⟨v2,w2,hr,?_,il,?_⟩
 ·exact hV'.snoc (N:=w.heap.size) (bK.wU hV'.c il) aT (hc.below bu) hbw (fun d hd g hg=>(bz.block (h.o d hd) g hg).2) hf
 ·obtain⟨a1,k1,h1,_⟩:=aT.row.shape
  exact⟨a1,_,k1,h1⟩
structure Sw where
 e:Int
 f:Int
 v:Value
 rs:List Cw
def Sw.s (x:Sw):Orp.Se:=⟨x.e,x.f,az x.rs⟩
def Sw.c (x:Sw):Cw:=⟨x.e,x.f,x.v,[]⟩
def iO (l:List Sw):List Orp.Se:=l.map Sw.s
def yZ (l:List Sw):List Cw:=l.map Sw.c
def oO (w:World) (v:Value) (l:List Sw):Prop:=eX w v (yZ l)∧∀x∈l,dJ w x.v x.rs∧In64 x.e∧In64 x.f
def yD (l:List Sw):Prop:=∀x∈l,dV x.rs∧x.rs.length*40≤140737488351232
theorem oO.below {w w':World}{v:Value}{l:List Sw}(h:oO w v l)(hb:Below w.heap.size w w'):oO w' v l:=⟨h.1.below hb,fun x hx=>⟨(h.2 x hx).1.below hb,(h.2 x hx).2⟩⟩
theorem yg (l:List Sw):(yZ l).length=l.length:=by unfold yZ;rw[List.length_map]
theorem asS {l:List Sw}{k:Nat}{x:Sw}(h:l[k]? =some x):(yZ l)[k]? =some x.c:=by unfold yZ;rw[List.getElem?_map,h];rfl
theorem xZ (l:List Sw):(iO l).length=l.length:=by unfold iO;rw[List.length_map]
theorem oO.shape {w:World}{v:Value}{l:List Sw}(h:oO w v l):∃ao cap,v=.slice ao l.length cap∧l.length≤cap∧cap≤maxLen:=by
 have:=h.1.shape
 rwa[yg]at this
theorem oO.full {w:World}{v:Value}{l:List Sw}(h:oO w v l)(hne:0<l.length):
  ∃b off cap,v=.slice (some ⟨b,off,none⟩) l.length cap∧l.length≤cap∧cap≤maxLen∧b<w.heap.size∧∀i x,l[i]? =some x→w.cell? ⟨b,off+i*3,none⟩=some (.int .i64 x.e)∧w.cell? ⟨b,off+i*3+1,none⟩=some (.int .i64 x.f)∧w.cell? ⟨b,off+i*3+2,none⟩=some x.v:=by
 obtain⟨b,off,cap,h1,h2,h3,h4,h5⟩:=h.1.full (by rw[yg];exact hne)
 rw[yg]at h1 h2
 exact⟨b,off,cap,h1,h2,h3,h4,fun i x hx=>h5 i x.c (asS hx)⟩
theorem ahl {rs:List Cw}{k:Nat}{c:Cw}(h:rs[k]? =some c):(az rs)[k]? =some c.c:=by
 unfold az
 rw[List.getElem?_map,h]
 rfl
theorem iM (rs:List Cw):(az rs).length=rs.length:=by unfold az;rw[List.length_map]
theorem amS {rs:List Cw}{k:Nat}{c:Cw}(h:rs[k]? =some c)(hk:k+1=rs.length)(ep:Int):Cm.lastE ep (az rs)=c.e:=by
 have h1:=ahl h
 obtain⟨hlt,e⟩:=List.getElem?_eq_some_iff.1 h1
 have h2:az rs=(az rs).take k++[c.c]:=by
  have:(az rs).take (k+1)=az rs:=List.take_of_length_le (by rw[iM];omega)
  rw[←this,List.take_succ_eq_append_getElem hlt,e,List.take_append_of_le_length (by rw[List.length_take];omega),List.take_take,Nat.min_self]
 rw[h2,(Cm.iI _ _ _ 0).1]
 rfl
theorem wY (e f:Int)(v:Value)(rs:List Cw)(w:World)(h:dJ w v rs)(hf:dV rs)(hl:rs.length≤140737488355328):
  Calls Tryz.prog 108 #[bT e f v] w fun E w'=>E=.returned (.int .i64 (Orp.chk ⟨e,f,az rs⟩))∧Below w.heap.size w w':=by
 unfold bT
 obtain⟨w1,hw1,aW,aj,hB⟩:=ak w #[.int .i64 e,.int .i64 f,v] 72
 have c0:w1.cell? ⟨w.heap.size,0,none⟩=some (.int .i64 e):=ai hB 0 rfl
 have c1:w1.cell? ⟨w.heap.size,1,none⟩=some (.int .i64 f):=ai hB 1 rfl
 have c2:w1.cell? ⟨w.heap.size,2,none⟩=some v:=ai hB 2 rfl
 obtain⟨ao,cap,hvl,hcap,hcm⟩:=h.1.shape
 have B1:=hide aj
 by_cases ha:e<1∨1048576<e∨f<0∨rs.length=0
 ·rw[Orp.asa (s:=⟨e,f,az rs⟩) (by rw[show(Orp.Se.mk e f (az rs)).cs=az rs from rfl,iM];exact ha)]
  subst hvl
  clear h hf hB aj
  by_cases q1:e<1
  ·clear ha
   go_enter Tryz.func108,Tryz.ntmps108
   go_wp2
   go_ret
   exact⟨rfl,B1.out⟩
  by_cases q2:1048576<e
  ·clear ha
   go_enter Tryz.func108,Tryz.ntmps108
   go_wp2
   go_ret
   exact⟨rfl,B1.out⟩
  by_cases q3:f<0
  ·clear ha
   go_enter Tryz.func108,Tryz.ntmps108
   go_wp2
   go_ret
   exact⟨rfl,B1.out⟩
  have q4:rs.length=0:=by omega
  rw[q4]at hw1 c2⊢
  clear ha hl hcap
  go_enter Tryz.func108,Tryz.ntmps108
  go_wp2
  go_ret
  exact⟨rfl,B1.out⟩
 have h12:¬((Orp.Se.mk e f (az rs)).e<1∨1048576<(Orp.Se.mk e f (az rs)).e∨(Orp.Se.mk e f (az rs)).f<0∨(Orp.Se.mk e f (az rs)).cs.length=0):=by
  rw[show(Orp.Se.mk e f (az rs)).cs=az rs from rfl,iM];exact ha
 have q1:¬e<1:=by omega
 have q2:¬1048576<e:=by omega
 have q3:¬f<0:=by omega
 have q4:((rs.length:Int)==0)=false:=by rw[beq_eq_false_iff_ne];omega
 have X:=hide (jY 1 f v rs w1 (h.below aj) hf hl)
 unfold q9 at X
 have HB:=hide (fun k=>Orp.arW (s:=⟨e,f,az rs⟩) h12 k)
 have HO:=hide (fun k q=>Orp.ar0 (s:=⟨e,f,az rs⟩) h12 k q)
 have HK:=hide (fun k q=>Orp.ib (s:=⟨e,f,az rs⟩) h12 k q)
 obtain⟨z,hz⟩:∃z,Orp.chk ⟨e,f,az rs⟩=z:=⟨_,rfl⟩
 rw[hz]at HB HO HK⊢
 obtain⟨n,hn⟩:∃n,rs.length=n+1:=⟨rs.length-1,by omega⟩
 obtain⟨b,off,cap',hv,_,_,hb,hcell⟩:=h.1.full (by omega)
 obtain⟨c,hc⟩:∃c,rs[n]? =some c:=⟨rs[n]'(by omega),List.getElem?_eq_getElem _⟩
 have hla:=amS hc hn.symm 1
 have d0:=(aj.cell (p:=⟨b,off+n*3,none⟩) hb).trans (hcell n c hc).1
 have hb1:b<w1.heap.size:=by omega
 simp only at HB HO HK
 rw[hla]at HO HK
 obtain⟨fl,hfl⟩:∃g,Cm.fol 1 f 0 (az rs)=g:=⟨_,rfl⟩
 rw[hfl]at X HB HO HK
 clear hz hfl
 obtain⟨fe,fp⟩:=fl
 simp only at X HB HO HK
 rw[hvl]at hv
 simp only[Value.slice.injEq,true_and]at hv
 obtain⟨hao,hcp⟩:=hv
 subst hao hcp
 have g2:IntKind.i64.wrap ((rs.length:Int)-1)=(n:Int):=by rw[kK _ (by omega) (by omega)];omega
 have g3:(n:Int)<(rs.length:Int):=by omega
 have g4:(0:Int)≤(n:Int):=by omega
 rw[hvl]at X
 subst hvl
 have HBB:=hide hB
 clear h hf hcell hc hn hla h12 ha hB
 go_enter Tryz.func108,Tryz.ntmps108
 go_wp2_with fail
 refine X.out.mono ?_
 rintro E w2 ⟨rfl,au⟩
 obtain⟨w3,hw3,anU,bP,aF,hF,a0,a1⟩:=pX w2 61 (.int .i64 0) (.int .i64 0) (.int .i64 fe) (.int .i64 fp)
 have nI:Below w1.heap.size w1 w3:=au.trans (aF.mono au.size)
 have B3:=hide (B1.out.trans (nI.mono (by omega)))
 have hB3:=(nI.block w.heap.size (by omega)).trans HBB.out
 have k0:=ai hB3 0 rfl
 have k2:=ai hB3 2 rfl
 simp only[List.getElem_toArray,List.getElem_cons_zero,List.getElem_cons_succ]at k0 k2
 have d3:=(nI.cell (p:=⟨b,off+n*3,none⟩) hb1).trans d0
 clear X au aF hF hB3 HBB nI
 by_cases hfe:fe=0
 ·have hb:(fe !=0)=false:=by simp[hfe]
  by_cases h3:e≤c.e
  ·have HE:=hide (HO.out hfe h3)
   clear HO HK HB hfe
   go_wp2_with fail
   go_quiet (fail)
   go_wp2
   go_ret
   exact⟨by rw[HE.out];rfl,below_drewN B3.out _⟩
  ·have HE:=hide (HK.out hfe (by omega))
   clear HO HK HB hfe
   go_wp2_with fail
   go_quiet (fail)
   go_wp2
   go_ret
   exact⟨by rw[HE.out];rfl,below_drewN B3.out _⟩
 ·have hb:(fe !=0)=true:=by simp[hfe]
  have HE:=hide (HB.out hfe)
  clear HO HK HB hfe
  go_wp2
  go_ret
  exact⟨by rw[HE.out];rfl,B3.out⟩
theorem aoR {rs:List Cw}{k:Nat}{c:Cw}(h:rs[k]? =some c):az (rs.take (k+1))=az (rs.take k)++[c.c]:=by
 obtain⟨hk,e⟩:=List.getElem?_eq_some_iff.1 h
 rw[List.take_succ_eq_append_getElem hk,e]
 simp[az]
theorem anl {rs:List Cw}{k:Nat}{c:Cw}(h:rs[k]? =some c):Wl.aR (az (rs.take (k+1)))=Wl.aR (az (rs.take k))++Wl.fr c.c:=by
 rw[aoR h,Wl.jk,Wl.rW]
theorem Tryz.ayk (a b c:Int)(w:World):(Instr.index 201 (.agg #[.int .i64 a,.int .i64 b,.int .i64 c]) (.int .i64 0)).run Tryz.prog w=.ok (.int .i64 a) w:=by kernel_rfl
theorem Tryz.axx (a b c:Int)(w:World):(Instr.index 201 (.agg #[.int .i64 a,.int .i64 b,.int .i64 c]) (.int .i64 1)).run Tryz.prog w=.ok (.int .i64 b) w:=by kernel_rfl
theorem Tryz.ax1 (a b c:Int)(w:World):(Instr.index 201 (.agg #[.int .i64 a,.int .i64 b,.int .i64 c]) (.int .i64 2)).run Tryz.prog w=.ok (.int .i64 c) w:=by kernel_rfl
theorem xD (z:Int)(h0:0≤z)(h1:z<9223372036854775808):IntKind.u64.wrap z=z:=by
 rw[IntKind.wrap_u64];omega
def hd3 (e f:Int) (n:Nat) (k:Nat):List Int:=([Vm.enc e.toNat,Vm.enc f.toNat,Vm.enc n].take k).flatten
theorem aiO (e f:Int)(v:Value)(rs:List Cw)(w:World)(h:eX w v rs)(he:0≤e∧e≤1048576)(hf:0≤f∧f≤1048576)(hl:rs.length≤1048576):
  Calls Tryz.prog 229 #[bT e f v] w fun E w'=>∃vb,E=.returned vb∧Own .u8 5 w.heap.size w' vb (Orp.hdr ⟨e,f,az rs⟩)∧Below w.heap.size w w':=by
 unfold bT
 obtain⟨w1,hw1,aW,aj,hB⟩:=ak w #[.int .i64 e,.int .i64 f,v] 72
 have c0:w1.cell? ⟨w.heap.size,0,none⟩=some (.int .i64 e):=ai hB 0 rfl
 have c1:w1.cell? ⟨w.heap.size,1,none⟩=some (.int .i64 f):=ai hB 1 rfl
 have c2:w1.cell? ⟨w.heap.size,2,none⟩=some v:=ai hB 2 rfl
 obtain⟨ao,cap,hvl,hcap,hcm⟩:=h.shape
 have B1:=hide aj
 have HH:Hid (hd3 e f rs.length 3=Orp.hdr ⟨e,f,az rs⟩):=hide (by
  unfold hd3 Orp.hdr
  simp[iM])
 rw[←HH.out]
 obtain⟨n,hn⟩:∃n,rs.length=n:=⟨_,rfl⟩
 rw[hn]at hvl hl⊢
 subst hvl
 have l1:=Cm.gz (x:=e) (by omega)
 have l2:=Cm.gz (x:=f) (by omega)
 obtain⟨he0,he1⟩:=he
 obtain⟨hf0,hf1⟩:=hf
 clear h hB aj HH hn hcap hcm
 go_enter Tryz.func229,Tryz.ntmps229
 go_wp2
 go_loopw [3,14] (fun bb kk wr=>∃k:Nat,k≤3∧kk=.int .i64 k∧Own .u8 5 w.heap.size wr bb (hd3 e f n k)∧Below w.heap.size w wr) (fun _ kk _=>4-(intOf kk).toNat)
 case atStart=>exact⟨0,by omega,rfl,Own.nil _ _ _ _,B1.out⟩
 case round=>
  obtain⟨k,hk,rfl,own,fw⟩:=hrel
  have szr:=fw.size
  clear c0 c1 c2
  rcases(show k=0∨k=1∨k=2∨k=3 by omega)with rfl|rfl|rfl|rfl
  ·have hix:=Tryz.ayk e f n
   have hwr:=xD e (by omega) (by omega)
   have hln:(hd3 e f n 0).length≤9:=by simp[hd3]
   go_wp2_with fail
   refine(fJ _ _ e _ own.is (by omega) (by omega) (by omega)).mono ?_
   rintro E w4 ⟨v4,rfl,bf,aM⟩
   have e':hd3 e f n 0++Vm.enc (e).toNat=hd3 e f n 1:=by simp[hd3]
   rw[e']at bf
   have dA:=bf.bB (base':=w.heap.size) (by omega)
   have bn:=fw.trans (aM.mono (by omega))
   clear own bf e' aM hln
   go_wp2
   go_roundw
   case rel=>exact⟨1,by omega,rfl,dA,bn⟩
   case measure=>simp[intOf]
  ·have hix:=Tryz.axx e f n
   have hwr:=xD f (by omega) (by omega)
   have hln:(hd3 e f n 1).length≤9:=by simp[hd3];omega
   go_wp2_with fail
   refine(fJ _ _ f _ own.is (by omega) (by omega) (by omega)).mono ?_
   rintro E w4 ⟨v4,rfl,bf,aM⟩
   have e':hd3 e f n 1++Vm.enc (f).toNat=hd3 e f n 2:=by simp[hd3]
   rw[e']at bf
   have dA:=bf.bB (base':=w.heap.size) (by omega)
   have bn:=fw.trans (aM.mono (by omega))
   clear own bf e' aM hln
   go_wp2
   go_roundw
   case rel=>exact⟨2,by omega,rfl,dA,bn⟩
   case measure=>simp[intOf]
  ·have hix:=Tryz.ax1 e f n
   have hwr:=xD (n:Int) (by omega) (by omega)
   have hln:(hd3 e f n 2).length≤9:=by simp[hd3];omega
   go_wp2_with fail
   refine(fJ _ _ (n:Int) _ own.is (by omega) (by omega) (by omega)).mono ?_
   rintro E w4 ⟨v4,rfl,bf,aM⟩
   have e':hd3 e f n 2++Vm.enc ((n:Int)).toNat=hd3 e f n 3:=by simp[hd3]
   rw[e']at bf
   have dA:=bf.bB (base':=w.heap.size) (by omega)
   have bn:=fw.trans (aM.mono (by omega))
   clear own bf e' aM hln
   go_wp2
   go_roundw
   case rel=>exact⟨3,by omega,rfl,dA,bn⟩
   case measure=>simp[intOf]
  ·go_wp2
   go_ret
   exact⟨_,rfl,own,fw⟩
theorem xJ (v:Value)(r:List Int)(w:World)(h:Is .u8 w v r)(hl:r.length≤131072):
  Calls Tryz.prog 228 #[v] w fun E w'=>∃vb,E=.returned vb∧Own .u8 5 w.heap.size w' vb (Fm.cB r)∧Below w.heap.size w w':=by
 have HF:=hide (uy (.slice none 0 0) v [] r w (Is.nil _ _) h (by simp) (by omega))
 rw[show xz r=0 by unfold xz;rw[if_pos hl],show wW [] r=Fm.cB r by unfold wW;rw[if_pos hl];rfl]at HF
 obtain⟨ab,cb,hvb,_,_⟩:=h.shape
 rw[hvb]at HF
 subst hvb
 clear h
 go_enter Tryz.func228,Tryz.ntmps228
 go_wp2_with fail
 refine HF.out.mono ?_
 rintro E w3 ⟨vf,rfl,bI,aF⟩
 obtain⟨af,cf,hvf,_,_⟩:=bI.is.shape
 have O3:=hide bI
 have B3:=hide aF
 subst hvf
 clear bI aF HF
 go_wp2
 go_ret
 exact⟨_,rfl,O3.out,B3.out⟩
theorem alZ (e f:Int)(v:Value)(rs:List Cw)(w:World)(h:dJ w v rs)(hf:dV rs)(hl:rs.length≤140737488355328):
  Calls Tryz.prog 211 #[bT e f v] w fun E w'=>∃vb,E=.returned (.tuple #[vb,.int .i64 (Orp.chk ⟨e,f,az rs⟩)])∧Own .u8 5 w.heap.size w' vb (Orp.out ⟨e,f,az rs⟩)∧Below w.heap.size w w':=by
 obtain⟨w1,hw1,aW,aj,hB⟩:=ak w #[.int .i64 e,.int .i64 f,v] 72
 have c0:w1.cell? ⟨w.heap.size,0,none⟩=some (.int .i64 e):=ai hB 0 rfl
 have c1:w1.cell? ⟨w.heap.size,1,none⟩=some (.int .i64 f):=ai hB 1 rfl
 have c2:w1.cell? ⟨w.heap.size,2,none⟩=some v:=ai hB 2 rfl
 have HM:=hide (wY e f v rs w1 (h.below aj) hf hl)
 obtain⟨ao,cap,hvl,_,_⟩:=h.1.shape
 obtain⟨ch,hch⟩:∃x,Orp.chk ⟨e,f,az rs⟩=x:=⟨_,rfl⟩
 rw[hch]at HM⊢
 have HA:=hide hch
 have HF:=hide hf
 have afQ:Hid (∀W,Below w.heap.size w W→eX W v rs):=hide fun W hW=>(h.below hW).1
 have CE:Hid (∀W,Below w1.heap.size w1 W→W.cell? ⟨w.heap.size,0,none⟩=some (.int .i64 e)∧W.cell? ⟨w.heap.size,1,none⟩=some (.int .i64 f)∧W.cell? ⟨w.heap.size,2,none⟩=some v):=hide fun W hb=>
  ⟨(hb.cell (p:=⟨w.heap.size,0,none⟩) (show w.heap.size<w1.heap.size by omega)).trans c0,(hb.cell (p:=⟨w.heap.size,1,none⟩) (show w.heap.size<w1.heap.size by omega)).trans c1,(hb.cell (p:=⟨w.heap.size,2,none⟩) (show w.heap.size<w1.heap.size by omega)).trans c2⟩
 have FULL:Hid (∀(i:Nat) (W:World),i<rs.length→Below w.heap.size w W→∃b off,v=.slice (some ⟨b,off,none⟩) rs.length cap∧∃c,rs[i]? =some c∧W.cell? ⟨b,off+i*3,none⟩=some (.int .i64 c.e)∧W.cell? ⟨b,off+i*3+1,none⟩=some (.int .i64 c.n)∧W.cell? ⟨b,off+i*3+2,none⟩=some c.v∧df W c.v c.l∧∃a n q,c.v=.slice a n q):=hide fun i W hi hW=>by
  obtain⟨b,off,cap',hv,_,_,hb,hcell⟩:=h.1.full (by omega)
  rw[hvl]at hv
  simp only[Value.slice.injEq,true_and]at hv
  obtain⟨rfl,rfl⟩:=hv
  obtain⟨c,hc⟩:∃c,rs[i]? =some c:=⟨rs[i],List.getElem?_eq_getElem hi⟩
  obtain⟨d0,d1,d2⟩:=hcell i c hc
  have kU:=(h.2 c (List.mem_of_getElem? hc)).1
  obtain⟨a1,q1,ha,_,_⟩:=kU.shape
  exact⟨b,off,hvl,c,hc,(hW.cell (p:=⟨b,off+i*3,none⟩) hb).trans d0,(hW.cell (p:=⟨b,off+i*3+1,none⟩) hb).trans d1,(hW.cell (p:=⟨b,off+i*3+2,none⟩) hb).trans d2,kU.below hW,a1,_,q1,ha⟩
 have B1:=hide aj
 unfold bT at HM⊢
 rw[hvl]at HM CE FULL afQ c2 hw1
 subst hvl
 clear h hf hch hB aj
 go_enter Tryz.func211,Tryz.ntmps211
 go_wp2_with fail
 refine HM.out.mono ?_
 rintro E w2 ⟨rfl,au⟩
 have di:=au.size
 clear c0 c1 c2 HM
 by_cases h0:ch=0
 ·subst h0
  have HZ:=hide (Orp.aQ HA.out)
  obtain⟨g1,g2,g3,g4,g5,g6,_⟩:=HZ.out
  simp only at g1 g2 g3 g4 g5 g6
  rw[iM]at g5 g6
  obtain⟨d0,d1,d2⟩:=CE.out w2 au
  have B2:=hide (B1.out.trans (au.mono (by omega)))
  have HH:=hide (aiO e f _ rs w2 (afQ.out w2 B2.out) ⟨by omega,g2⟩ ⟨g3,g4⟩ g6)
  unfold bT at HH
  clear afQ
  go_wp2_with fail
  refine HH.out.mono ?_
  rintro E w3 ⟨v3,rfl,bI,aF⟩
  have b3:=au.trans (aF.mono di)
  have bP:=b3.size
  obtain⟨a3,k3,hv3,_,_⟩:=bI.is.shape
  have lh:(Orp.hdr ⟨e,f,az rs⟩).length≤9:=Orp.xu HA.out
  have APP:=hide (xJ v3 (Orp.hdr ⟨e,f,az rs⟩) w3 bI.is (by omega))
  rw[hv3]at APP
  subst hv3
  clear d0 d1 d2 au aF bI HH B2
  go_wp2_with fail
  refine APP.out.mono ?_
  rintro E w6 ⟨v6,rfl,fZ,eZ⟩
  have b6:=b3.trans (eZ.mono bP)
  have O6:=hide (fZ.bB (base':=w1.heap.size) (by omega))
  have LF:Hid ((Fm.cB (Orp.hdr ⟨e,f,az rs⟩)).length≤10):=hide (by
   rw[Fm.jF]
   have:Vm.sz (Orp.hdr ⟨e,f,az rs⟩).length≤1:=Vm.nK 0 _ (by omega)
   omega)
  obtain⟨d0,d1,d2⟩:=CE.out w6 b6
  clear fZ eZ b3 APP lh
  go_wp2
  go_loopw [5,21] (fun bb kk wr=>∃k:Nat,k≤rs.length∧kk=.int .i64 k∧Hid (Own .u8 5 w1.heap.size wr bb (Fm.cB (Orp.hdr ⟨e,f,az rs⟩)++Wl.aR (az (rs.take k))))∧Below w1.heap.size w1 wr) (fun _ kk _=>rs.length-(intOf kk).toNat)
  case atStart=>exact⟨0,by omega,rfl,hide (by simpa[az,Wl.aR,Fm.cat]using O6.out),b6⟩
  case round=>
   obtain⟨k,hk,rfl,OK,ahV⟩:=hrel
   have szk:=ahV.size
   have aG:=B1.out.trans (ahV.mono (by omega))
   clear d0 d1 d2 O6 b6
   by_cases hlt:k<rs.length
   ·obtain⟨b,off,jo,c,hc,d0,d1,d2,kU,ca,cn,cq,hcv⟩:=FULL.out k wr hlt aG
    simp only[Value.slice.injEq,and_true]at jo
    have hcm:=List.mem_of_getElem? hc
    have hck:Cm.chk c.e c.n c.l=0:=HZ.out.2.2.2.2.2.2.2.2 c.c (by show c.c∈az rs;exact List.mem_of_getElem? (ahl hc))
    obtain⟨hfo,hfl⟩:=HF.out c hcm
    have LE:Hid ((Fm.cB (Orp.hdr ⟨e,f,az rs⟩)++Wl.aR (az (rs.take k))).length≤1000000000):=hide (by
     have h1:=Orp.xO (l:=az (rs.take k)) fun x hx=>by
      have:x∈az rs:=by
       unfold az at hx⊢
       rw[List.map_take]at hx
       exact List.mem_of_mem_take hx
      exact HZ.out.2.2.2.2.2.2.2.2 x this
     rw[iM,List.length_take]at h1
     have h2:=LF.out
     rw[List.length_append]
     omega)
    have NX:=hide (anl hc)
    obtain⟨wa,hwa,zL,sza,jK,bA,x0,x1,x2⟩:=fH wr 65 (.int .i64 0) (.int .i64 0) (.slice none 0 0) (.int .i64 c.e) (.int .i64 c.n) c.v
    have FR:=hide (aej c.e c.n c.v c.l wa (kU.below jK) hfo (by omega))
    have hcr:Cm.out c.e c.n c.l=Wl.rec ⟨c.e,c.n,c.l⟩:=Cm.jh hck
    rw[hck,hcr]at FR
    have lrc:=Wl.nU (c:=⟨c.e,c.n,c.l⟩) hck
    have lfr:=Wl.lG (c:=⟨c.e,c.n,c.l⟩) hck
    have hlt':(k:Int)<rs.length:=by omega
    unfold bT at FR
    rw[hcv]at d2 FR x2 hwa zL
    have OKa:=hide (OK.out.below jK)
    have ba:=ahV.trans (jK.mono szk)
    subst jo
    clear kU hcm hck hc hcv hfo hfl hcr bA jK OK ahV
    go_wp2_with fail
    refine FR.out.mono ?_
    rintro E w7 ⟨v7,rfl,jV,jc⟩
    obtain⟨a7,k7,hv7,_,_⟩:=jV.is.shape
    have b7:=ba.trans (jc.mono ba.size)
    have OK7:=hide (OKa.out.below jc)
    have FD:=hide (xJ v7 (Wl.rec ⟨c.e,c.n,c.l⟩) w7 jV.is (by omega))
    rw[show Fm.cB (Wl.rec ⟨c.e,c.n,c.l⟩)=Wl.fr ⟨c.e,c.n,c.l⟩from rfl,hv7]at FD
    subst hv7
    clear jV jc FR OKa ba x0 x1 x2 d0 d1 d2 aG
    go_wp2_with fail
    refine FD.out.mono ?_
    rintro E w8 ⟨v8,rfl,oL,lF⟩
    have OKb:=hide (OK7.out.below lF)
    have b8:=b7.trans (lF.mono b7.size)
    have s8:=b8.size
    have I8:=hide oL.is
    have hsum:((Fm.cB (Orp.hdr ⟨e,f,az rs⟩)++Wl.aR (az (rs.take k))).length+(Wl.fr ⟨c.e,c.n,c.l⟩).length)*1≤150000000000000:=by have:=LE.out;omega
    clear oL lF FD OK7 LE lfr lrc b7
    go_wp2_with (at_builtin;refine cK rfl (.tmp 30) (.tmp 32) 79 rfl .u8 5 w1.heap.size 1 Tryz.underlying79 Tryz.info5 (by decide) _ _ rfl OKb.out _ _ rfl I8.out hsum s8 ?_)
    intro v9 w9 abI gJ gr9
    have O9:Hid (Own .u8 5 w1.heap.size w9 v9 (Fm.cB (Orp.hdr ⟨e,f,az rs⟩)++Wl.aR (az (rs.take (k+1))))):=hide (by
     rw[NX.out,aW]
     exact abI)
    rw[←aW]at gJ
    have b9:=b8.trans gJ
    clear abI gJ gr9 b8 OKb I8 NX hsum
    go_wp2
    go_roundw
    case rel=>exact⟨k+1,by omega,by go_num,O9,b9⟩
    case measure=>simp[intOf];omega
   ·have hlt':¬(k:Int)<rs.length:=by omega
    have OW:Hid (Own .u8 5 w.heap.size wr u5 (Orp.out ⟨e,f,az rs⟩)):=hide (by
     rw[Orp.jh HA.out]
     have:=OK.out
     rw[List.take_of_length_le (by omega)]at this
     exact this.bB (by omega))
    clear OK
    go_wp2
    go_ret2
    exact⟨_,rfl,OW.out,aG⟩
 ·have hne:(ch !=0)=true:=by simp[h0]
  have HO:Hid (Orp.out ⟨e,f,az rs⟩=[]):=hide (Orp.nV (by rw[HA.out];exact h0))
  have B2:=B1.out.trans (au.mono (by omega))
  go_wp2
  go_ret2
  exact⟨_,rfl,by rw[HO.out];exact Own.nil _ _ _ _,B2⟩
theorem an4 (vb:Value)(bs:List Int)(w:World)(hb:Is .u8 w vb bs)(hl:bs.length≤140737488355328):
  Calls Tryz.prog 152 #[vb] w fun E w'=>∃(e n g:Int) (v:Value) (l:List Bm.Ov),E=.returned (.tuple #[bT e n v,.int .i64 g])∧bz 92 w.heap.size w' v l∧Cm.oK bs e n l g∧Below w.heap.size w w':=by
 unfold bT
 obtain⟨w1,hw1,aW,aj,hB⟩:=ak w #[.int .i64 0,.int .i64 0,.slice none 0 0] 65
 have hb1:=hb.below aj
 obtain⟨ao,cap,rfl,_,_⟩:=hb.shape
 have HB:=hide hB
 clear hB
 go_enter Tryz.func152,Tryz.ntmps152
 go_wp2_with fail
 refine(ak6 _ bs _ hb1 (by omega)).mono ?_
 rintro E w2 ⟨e,n,k,g,vl,l,rfl,xP,hR,au⟩
 unfold bT
 have di:=au.size
 have hB2:=(au.block w.heap.size (by omega)).trans HB.out
 have aO:=aj.trans (au.mono (by omega))
 obtain⟨ah,ch,hvl,_,_⟩:=xP.is.shape
 subst hvl
 obtain⟨V,hV,hV2,kg,bu,bC,c0,c1,c2⟩:=fH w2 65 (.int .i64 0) (.int .i64 0) (.slice none 0 0) (.int .i64 e) (.int .i64 n) (.slice ah l.length ch)
 have hB3:=(bu.block w.heap.size (by omega)).trans hB2
 have aiF:=aO.trans (bu.mono (by omega))
 obtain⟨Z,hZ,bZ,gZ,⟨a0,a1,a2⟩,⟨f0,f1,f2⟩,⟨z0,z1,z2⟩⟩:=dP hB3 (.int .i64 0) (.int .i64 0) (.slice none 0 0)
 have zU:=aD aiF gZ (Nat.le_refl _) (by omega)
 have H3:=hide hB3
 have HC:=hide bC
 have jH:=xP.below bu
 clear hB2 hB3 bC bZ gZ aj au aO HB xP hb1
 rcases hR with⟨rfl,x,y,hx,hy,px,py,hc,hp,rfl,rfl,rfl⟩|⟨rfl,rfl,rfl,rfl,rfl,hno⟩
 ·by_cases hk:Vm.sz x+Vm.sz y+(Bm.eB l).length=bs.length
  ·have HK:=hide hk
   rw[hk]
   have hkk:((bs.length:Int) !=(bs.length:Int))=false:=by simp
   have hfit:=(mZ hc).fit
   have hl8:=(Bm.dI hc).2.1
   have P:Hid (Vm.enc x<+:bs∧Vm.enc y<+:bs.drop (Vm.sz x)∧Bm.dY l=0∧Bm.eB l<+:bs.drop (Vm.sz x+Vm.sz y)):=⟨px,py,hc,hp⟩
   clear hk px py hc hp
   go_wp2_with fail
   refine(vC x y _ l _ jH.is hfit (by omega)).mono ?_
   rintro E w4 ⟨rfl,aM⟩
   obtain⟨px,py,hc,hp⟩:=P.out
   have lT:=aM.size
   have hB4:=(aM.block w.heap.size (by omega)).trans H3.out
   have hC4:=(aM.block w2.heap.size (by omega)).trans HC.out
   have dQ:=aiF.trans (aM.mono (by omega))
   have d0:=ai hC4 0 rfl
   have d1:=ai hC4 1 rfl
   have d2:=ai hC4 2 rfl
   have bf:=jH.below aM
   clear hZ z0 z1 z2 zU a0 a1 a2 f0 f1 f2 c0 c1 c2 hV hV2 bu aiF jH H3 HC aM P
   by_cases hck:Cm.chk x y l=0
   ·rw[hck]
    obtain⟨V',hV',dG,bQ,⟨a0,a1,a2⟩,⟨f0,f1,f2⟩,⟨z0,z1,z2⟩⟩:=dP hB4 (.int .i64 x) (.int .i64 y) (.slice ah l.length ch)
    have fB:=aD dQ bQ (Nat.le_refl _) (by omega)
    have ahJ:=(bf.aa5 bQ (by omega)).bB (base':=w.heap.size) (by omega)
    have HR:Hid (Cm.oK bs x y l 0):=hide (.inl ⟨rfl,hck,Cm.aj4 px py hp HK.out⟩)
    clear px py hc hp dG bQ hB4 bf dQ hck HK hC4
    go_wp2
    refine bodyPost_ret (v:=.tuple #[.agg #[.int .i64 x,.int .i64 y,.slice ah l.length ch],.int .i64 0]) (by simp[results,Tryz.results152,go_sem,z0,z1,z2]) rfl ?_
    exact⟨_,_,_,_,_,rfl,ahJ,HR.out,fB⟩
   ·have HR:Hid (Cm.oK bs 0 0 [] 5):=hide (.inr ⟨rfl,rfl,rfl,rfl,Cm.agE px py hc hp (.inr hck)⟩)
    have hne:(Cm.chk x y l==0)=false:=by simpa using hck
    obtain⟨V',hV',dG,bQ,⟨a0,a1,a2⟩,⟨f0,f1,f2⟩,⟨z0,z1,z2⟩⟩:=dP hB4 (.int .i64 0) (.int .i64 0) (.slice none 0 0)
    have fB:=aD dQ bQ (Nat.le_refl _) (by omega)
    generalize Cm.chk x y l=ck at*
    clear px py hc hp dG bQ hB4 bf dQ hck HK hC4
    go_wp2
    refine bodyPost_ret (v:=.tuple #[.agg #[.int .i64 0,.int .i64 0,.slice none 0 0],.int .i64 5]) (by simp[results,Tryz.results152,go_sem,z0,z1,z2]) rfl ?_
    exact⟨_,_,_,_,_,rfl,bz.nil _ _ _,HR.out,fB⟩
  ·have HR:Hid (Cm.oK bs 0 0 [] 5):=hide (.inr ⟨rfl,rfl,rfl,rfl,Cm.agE px py hc hp (.inl hk)⟩)
   generalize Vm.sz x+Vm.sz y+(Bm.eB l).length=q at*
   have hkk:((q:Int) !=(bs.length:Int))=true:=by simp;omega
   clear hk px py hc hp
   go_wp2
   refine bodyPost_ret (v:=.tuple #[.agg #[.int .i64 0,.int .i64 0,.slice none 0 0],.int .i64 5]) (by simp[results,Tryz.results152,go_sem,z0,z1,z2]) rfl ?_
   exact⟨_,_,_,_,_,rfl,bz.nil _ _ _,HR.out,zU⟩
 ·have HR:Hid (Cm.oK bs 0 0 [] 5):=hide (.inr ⟨rfl,rfl,rfl,rfl,hno⟩)
  clear hno
  simp only[List.length_nil]at hV hV2 c2
  go_wp2
  refine bodyPost_ret (v:=.tuple #[.agg #[.int .i64 0,.int .i64 0,.slice none 0 0],.int .i64 5]) (by simp[results,Tryz.results152,go_sem,z0,z1,z2]) rfl ?_
  exact⟨_,_,_,_,_,rfl,bz.nil _ _ _,HR.out,zU⟩
def ave (w:World) (bs:List Int) (E:Ending) (w':World):Prop:=
 ∃(x:Sw) (n:Nat) (g:Bool),E=.returned (.tuple #[.agg #[.int .i64 x.e,.int .i64 x.f,x.v],.int .i64 n,.bool g])∧Hid (gN w.heap.size w' x.v x.rs∧In64 x.e∧In64 x.f∧Orp.Rd bs x.s n g∧Below w.heap.size w w')
theorem yh {w w':World}{bs:List Int}(hb:Below w.heap.size w w')(hn:Orp.No bs):ave w bs (.returned (.tuple #[.agg #[.int .i64 0,.int .i64 0,.slice none 0 0],.int .i64 0,.bool false])) w':=
 ⟨⟨0,0,.slice none 0 0,[]⟩,0,false,rfl,hide ⟨gN.nil _ _,by simp[In64],by simp[In64],.inr ⟨rfl,hn⟩,hb⟩⟩
structure MdO (w wr:World) (bs:List Int) (S x y m a:Nat) (v:Value) (cs:List Cw):Prop where
 blk:wr.heap[S]? =some (.cells #[.int .i64 x,.int .i64 y,v] 72 (0,0))
 r0:wr.heap[w.heap.size]? =some (.cells #[.int .i64 0,.int .i64 0,.slice none 0 0] 72 (0,0))
 lt:w.heap.size<S
 sh:gN (S+1) wr v cs
 aG:Below w.heap.size w wr
 hh:Fm.cB (Vm.enc x++(Vm.enc y++Vm.enc m))<+:bs
 hl:Wl.aR (az cs)<+:bs.drop (Fm.cB (Vm.enc x++(Vm.enc y++Vm.enc m))).length
 hc:∀c∈az cs,Cm.chk c.e c.n c.l=0
 at':a=(Fm.cB (Vm.enc x++(Vm.enc y++Vm.enc m))).length+(Wl.aR (az cs)).length
 len:cs.length≤m
 num:x≤1048576∧y≤1048576∧m≤1048576
theorem aef {bs:List Int}{x y m a:Nat}{cs:List Cw}{r:List Int}{n:Nat}{e k:Int}{l:List Bm.Ov}{v':Value}
  (hl:Wl.aR (az cs)<+:bs.drop (Fm.cB (Vm.enc x++(Vm.enc y++Vm.enc m))).length) (hc:∀c∈az cs,Cm.chk c.e c.n c.l=0) (ha:a=(Fm.cB (Vm.enc x++(Vm.enc y++Vm.enc m))).length+(Wl.aR (az cs)).length)
  (hr:Fm.Rd (bs.drop a) r n 0) (hd:Cm.oK r e k l 0):Cm.chk e k l=0∧1≤n∧a+n≤bs.length∧Wl.aR (az (cs++[⟨e,k,v',l⟩]))<+:bs.drop (Fm.cB (Vm.enc x++(Vm.enc y++Vm.enc m))).length∧(∀c∈az (cs++[⟨e,k,v',l⟩]),Cm.chk c.e c.n c.l=0)∧
   a+n=(Fm.cB (Vm.enc x++(Vm.enc y++Vm.enc m))).length+(Wl.aR (az (cs++[⟨e,k,v',l⟩]))).length:=by
 rcases hr with⟨_,_,hn,hp⟩|⟨h1,_⟩
 ·rcases hd with⟨_,hk,he⟩|⟨h1,_⟩
  ·have hcv:az (cs++[⟨e,k,v',l⟩])=az cs++[⟨e,k,l⟩]:=by simp[az,Cw.c]
   have hfr:Wl.fr ⟨e,k,l⟩=Fm.cB r:=by unfold Wl.fr Wl.rec;rw[he]
   have hln:(Fm.cB r).length=n:=by rw[Fm.jF,hn]
   have h1:=Fm.yf r
   have h2:=hp.length_le
   rw[List.length_drop]at h2
   refine⟨hk,by omega,by omega,?_,fun c hcc=>?_,?_⟩
   ·rw[hcv,Wl.jk,Wl.rW,hfr,Bm.bq,List.drop_drop,←ha]
    exact⟨hl,hp⟩
   ·rw[hcv]at hcc
    rcases List.mem_append.1 hcc with hcc|hcc
    ·exact hc c hcc
    ·rw[List.mem_singleton.1 hcc];exact hk
   ·rw[hcv,Wl.jk,Wl.rW,hfr,List.length_append,hln]
    omega
  ·simp at h1
 ·simp at h1
theorem p9 {S:Nat}{t:TypeId}{a b c:Value}(W:World)(h:W.heap[S]? =some (.cells #[a,b,c] t (0,0))):(W.setCell ⟨S,0,none⟩ a=W∧W.setCell ⟨S,1,none⟩ b=W∧W.setCell ⟨S,2,none⟩ c=W)∧(W.frozen? ⟨S,0,none⟩=false∧W.frozen? ⟨S,1,none⟩=false∧W.frozen? ⟨S,2,none⟩=false)∧(W.cell? ⟨S,0,none⟩=some a∧W.cell? ⟨S,1,none⟩=some b∧W.cell? ⟨S,2,none⟩=some c):=
 ⟨⟨aL h (j:=0) rfl,aL h (j:=1) rfl,aL h (j:=2) rfl⟩,⟨aC h 0,aC h 1,aC h 2⟩,ai h 0 rfl,ai h 1 rfl,ai h 2 rfl⟩
theorem afD {V:World}{R:Nat}{t:TypeId}{cs:Array Value}(hR:V.heap[R]? =some (.cells cs t (0,0)))(k:Nat)(c:Value)(hk:k<cs.size):
  ∃V',V.setCell ⟨R,k,none⟩ c=V'∧V'.heap[R]? =some (.cells (cs.setIfInBounds k c) t (0,0))∧V.grownBy V' (some R)∧V.cell? ⟨R,k,none⟩=some cs[k]∧V.frozen? ⟨R,k,none⟩=false:=by
 obtain⟨V',h1,h2,h3,h4⟩:=apP hR k c
 exact⟨V',h1,h2,h3,ai hR k (Array.getElem?_eq_getElem hk),h4⟩
structure HI (bs:List Int) (w wr:World) (k x y m a:Nat):Prop where
 res:wr.heap[w.heap.size]? =some (.cells #[.int .i64 0,.int .i64 0,.slice none 0 0] 72 (0,0))
 num:wr.heap[w.heap.size+1]? =some (.cells #[.int .i64 x,.int .i64 y,.int .i64 m] 201 (0,0))
 aG:Below w.heap.size w wr
 at':a=(if 1≤k then Vm.sz x else 0)+(if 2≤k then Vm.sz y else 0)+(if 3≤k then Vm.sz m else 0)
 h1:1≤k→x≤1048576∧Vm.enc x<+:bs
 h2:2≤k→y≤1048576∧Vm.enc y<+:bs.drop (Vm.sz x)
 h3:3≤k→m≤1048576∧Vm.enc m<+:bs.drop (Vm.sz x+Vm.sz y)
theorem HI.le {bs:List Int}{w wr:World}{k x y m a:Nat}(h:HI bs w wr k x y m a):a≤bs.length:=by
 have e:=h.at'
 by_cases q3:3≤k
 ·have p3:=(h.h3 q3).2.length_le
  have p2:=(h.h2 (by omega)).2.length_le
  have p1:=(h.h1 (by omega)).2.length_le
  rw[if_pos (by omega),if_pos (by omega),if_pos q3]at e
  rw[List.length_drop]at p2 p3
  have e1:=(show(Vm.enc x).length=Vm.sz x from rfl);have e2:=(show(Vm.enc y).length=Vm.sz y from rfl);have e3:=(show(Vm.enc m).length=Vm.sz m from rfl)
  omega
 ·rw[if_neg q3]at e
  by_cases q2:2≤k
  ·have p2:=(h.h2 q2).2.length_le
   have p1:=(h.h1 (by omega)).2.length_le
   rw[if_pos (by omega),if_pos q2]at e
   rw[List.length_drop]at p2
   have e1:=(show(Vm.enc x).length=Vm.sz x from rfl);have e2:=(show(Vm.enc y).length=Vm.sz y from rfl)
   omega
  ·rw[if_neg q2]at e
   by_cases q1:1≤k
   ·have p1:=(h.h1 q1).2.length_le
    rw[if_pos q1]at e
    have e1:=(show(Vm.enc x).length=Vm.sz x from rfl)
    omega
   ·rw[if_neg q1]at e
    omega
theorem HI.base {bs:List Int}{w wr V:World}{k x y m a:Nat}{cs:Array Value}(h:HI bs w wr k x y m a)(hV:V.heap[w.heap.size+1]? =some (.cells cs 201 (0,0)))(gV:wr.grownBy V (some (w.heap.size+1))):
  V.heap[w.heap.size]? =some (.cells #[.int .i64 0,.int .i64 0,.slice none 0 0] 72 (0,0))∧Below w.heap.size w V:=
 ⟨(gV.block _ (ax h.res) (by simp)).trans h.res,aD h.aG gV (by omega) h.aG.size⟩
theorem HI.awz {bs:List Int}{w wr V:World}{x y m a z:Nat}(h:HI bs w wr 0 x y m a)(hz:z≤1048576)(hp:Vm.enc z<+:bs.drop a)(hV:V.heap[w.heap.size+1]? =some (.cells ((#[.int .i64 x,.int .i64 y,.int .i64 m]:Array Value).setIfInBounds 0 (.int .i64 z)) 201 (0,0)))(gV:wr.grownBy V (some (w.heap.size+1))):HI bs w V 1 z y m (a+Vm.sz z):=by
 have e:a=0:=by simpa using h.at'
 subst e
 exact⟨(h.base hV gV).1,hV,(h.base hV gV).2,by simp,fun _=>⟨hz,by simpa using hp⟩,fun q=>by omega,fun q=>by omega⟩
theorem HI.awQ {bs:List Int}{w wr V:World}{x y m a z:Nat}(h:HI bs w wr 1 x y m a)(hz:z≤1048576)(hp:Vm.enc z<+:bs.drop a)(hV:V.heap[w.heap.size+1]? =some (.cells ((#[.int .i64 x,.int .i64 y,.int .i64 m]:Array Value).setIfInBounds 1 (.int .i64 z)) 201 (0,0)))(gV:wr.grownBy V (some (w.heap.size+1))):HI bs w V 2 x z m (a+Vm.sz z):=by
 have e:a=Vm.sz x:=by simpa using h.at'
 subst e
 exact⟨(h.base hV gV).1,hV,(h.base hV gV).2,by simp,fun _=>h.h1 (by omega),fun _=>⟨hz,hp⟩,fun q=>by omega⟩
theorem HI.aw0 {bs:List Int}{w wr V:World}{x y m a z:Nat}(h:HI bs w wr 2 x y m a)(hz:z≤1048576)(hp:Vm.enc z<+:bs.drop a)(hV:V.heap[w.heap.size+1]? =some (.cells ((#[.int .i64 x,.int .i64 y,.int .i64 m]:Array Value).setIfInBounds 2 (.int .i64 z)) 201 (0,0)))(gV:wr.grownBy V (some (w.heap.size+1))):HI bs w V 3 x y z (a+Vm.sz z):=by
 have e:a=Vm.sz x+Vm.sz y:=by simpa using h.at'
 subst e
 exact⟨(h.base hV gV).1,hV,(h.base hV gV).2,by simp,fun _=>h.h1 (by omega),fun _=>h.h2 (by omega),fun _=>⟨hz,hp⟩⟩
theorem HI.no0 {bs:List Int}{w wr:World}{x y m a:Nat}(h:HI bs w wr 0 x y m a)(hn:∀u:Nat,u≤1048576→¬Vm.enc u<+:bs.drop a):Orp.yY bs:=by
 have e:a=0:=by simpa using h.at'
 subst e
 exact Orp.ayq (by simpa using hn)
theorem HI.no1 {bs:List Int}{w wr:World}{x y m a:Nat}(h:HI bs w wr 1 x y m a)(hn:∀u:Nat,u≤1048576→¬Vm.enc u<+:bs.drop a):Orp.yY bs:=by
 have e:a=Vm.sz x:=by simpa using h.at'
 subst e
 exact Orp.axt (h.h1 (by omega)).2 hn
theorem HI.no2 {bs:List Int}{w wr:World}{x y m a:Nat}(h:HI bs w wr 2 x y m a)(hn:∀u:Nat,u≤1048576→¬Vm.enc u<+:bs.drop a):Orp.yY bs:=by
 have e:a=Vm.sz x+Vm.sz y:=by simpa using h.at'
 subst e
 exact Orp.axC (h.h1 (by omega)).2 (h.h2 (by omega)).2 hn
def HdR (bs:List Int) (x y m:Nat) (g:Bool):Prop:=(g=true∧(x≤1048576∧y≤1048576∧m≤1048576)∧Vm.enc x++(Vm.enc y++Vm.enc m)=bs)∨(g=false∧Orp.yY bs)
theorem apb (vb:Value)(bs:List Int)(w:World)(hb:Is .u8 w vb bs)(hl:bs.length≤140737488355328):
  Calls Tryz.prog 106 #[vb] w fun E w'=>∃(x y m:Nat) (g:Bool),E=.returned (.tuple #[.agg #[.int .i64 x,.int .i64 y,.slice none 0 0],.int .i64 m,.bool g])∧Hid (HdR bs x y m g)∧Below w.heap.size w w':=by
 obtain⟨w1,hw1,aW,aj,jE⟩:=ak w #[.int .i64 0,.int .i64 0,.slice none 0 0] 72
 obtain⟨w2,hw2,di,au,hN2⟩:=ak w1 #[.int .i64 0,.int .i64 0,.int .i64 0] 201
 have hR2:=(au.block _ (ax jE)).trans jE
 rw[aW]at hN2
 have aO:=aj.trans (au.mono (by omega))
 have D0:Hid (HI bs w w2 0 0 0 0 0):=hide ⟨hR2,hN2,aO,by simp,fun q=>by omega,fun q=>by omega,fun q=>by omega⟩
 have HB:=hide hb
 have hlen:=hb.agF Tryz.uY
 have ZERO:Hid (∀W:World,W.heap[w.heap.size]? =some (.cells #[.int .i64 0,.int .i64 0,.slice none 0 0] 72 (0,0))→_):=hide fun W h=>p9 W h
 obtain⟨ao,cap,hvb,_,_⟩:=hb.shape
 rw[hvb]at HB
 subst hvb
 clear jE hR2 hN2 aj au aO hb
 go_enter Tryz.func106,Tryz.ntmps106
 go_wp2
 go_loopw [6,11] (fun ee kk wr=>∃(k a x y m:Nat),k≤3∧kk=.int .i64 k∧ee=.int .i64 a∧Hid (HI bs w wr k x y m a)) (fun _ kk _=>4-(intOf kk).toNat)
 case atStart=>exact⟨0,0,0,0,0,by omega,rfl,rfl,D0⟩
 case round=>
  obtain⟨k,a,x,y,m,hk,rfl,rfl,D⟩:=hrel
  have hal:=D.out.le
  have kP:=ax D.out.res
  clear D0
  rcases(show k=0∨k=1∨k=2∨k=3 by omega)with rfl|rfl|rfl|rfl
  ·obtain⟨vs,hsl,eH⟩:=(HB.out.below D.out.aG).gu Tryz.uY Tryz.xV a hal
   obtain⟨u,i,g,hS⟩:=ni (bs.drop a) ((1048576:Nat):Int)
   have SM:=hide (ku vs (bs.drop a) 1048576 u i g wr eH (by rw[List.length_drop];omega) (by omega) (by omega) hS)
   have ST:=hide (rH (most:=1048576) (by omega) hS)
   clear eH hS
   go_wp2_with fail
   refine SM.out.mono ?_
   rintro E w4 ⟨rfl,rfl⟩
   clear hsl SM
   rcases ST.out with⟨z,rfl,rfl,rfl,hz,hp⟩|⟨rfl,rfl,rfl,hn⟩
   ·have aoi:=Vm.kI (x:=z) (by omega)
    have hwr:=aX ((a:Int)+(Vm.sz z:Int)) (by omega) (by omega)
    obtain⟨V,hV,bV,gV,cz,fz⟩:=afD D.out.num 0 (.int .i64 z) (by simp)
    have DN:Hid (HI bs w V 1 z y m (a+Vm.sz z)):=hide (D.out.awz hz hp bV gV)
    clear bV gV hp D ST
    go_wp2
    go_roundw
    case rel=>exact⟨1,a+Vm.sz z,z,y,m,by omega,rfl,by go_num,DN⟩
    case measure=>simp[intOf]
   ·have HN:=hide (D.out.no0 hn)
    obtain⟨⟨s0,s1,s2⟩,⟨f0,f1,f2⟩,z0,z1,z2⟩:=ZERO.out wr D.out.res
    have BB:=hide D.out.aG
    clear hn D ST
    go_wp2
    refine bodyPost_ret (v:=.tuple #[.agg #[.int .i64 0,.int .i64 0,.slice none 0 0],.int .i64 0,.bool false]) (by simp[results,Tryz.results106,go_sem,z0,z1,z2]) rfl ?_
    exact⟨0,0,0,false,rfl,hide (.inr ⟨rfl,HN.out⟩),BB.out⟩
  ·obtain⟨vs,hsl,eH⟩:=(HB.out.below D.out.aG).gu Tryz.uY Tryz.xV a hal
   obtain⟨u,i,g,hS⟩:=ni (bs.drop a) ((1048576:Nat):Int)
   have SM:=hide (ku vs (bs.drop a) 1048576 u i g wr eH (by rw[List.length_drop];omega) (by omega) (by omega) hS)
   have ST:=hide (rH (most:=1048576) (by omega) hS)
   clear eH hS
   go_wp2_with fail
   refine SM.out.mono ?_
   rintro E w4 ⟨rfl,rfl⟩
   clear hsl SM
   rcases ST.out with⟨z,rfl,rfl,rfl,hz,hp⟩|⟨rfl,rfl,rfl,hn⟩
   ·have aoi:=Vm.kI (x:=z) (by omega)
    have hwr:=aX ((a:Int)+(Vm.sz z:Int)) (by omega) (by omega)
    obtain⟨V,hV,bV,gV,cz,fz⟩:=afD D.out.num 1 (.int .i64 z) (by simp)
    have DN:Hid (HI bs w V 2 x z m (a+Vm.sz z)):=hide (D.out.awQ hz hp bV gV)
    clear bV gV hp D ST
    go_wp2
    go_roundw
    case rel=>exact⟨2,a+Vm.sz z,x,z,m,by omega,rfl,by go_num,DN⟩
    case measure=>simp[intOf]
   ·have HN:=hide (D.out.no1 hn)
    obtain⟨⟨s0,s1,s2⟩,⟨f0,f1,f2⟩,z0,z1,z2⟩:=ZERO.out wr D.out.res
    have BB:=hide D.out.aG
    clear hn D ST
    go_wp2
    refine bodyPost_ret (v:=.tuple #[.agg #[.int .i64 0,.int .i64 0,.slice none 0 0],.int .i64 0,.bool false]) (by simp[results,Tryz.results106,go_sem,z0,z1,z2]) rfl ?_
    exact⟨0,0,0,false,rfl,hide (.inr ⟨rfl,HN.out⟩),BB.out⟩
  ·obtain⟨vs,hsl,eH⟩:=(HB.out.below D.out.aG).gu Tryz.uY Tryz.xV a hal
   obtain⟨u,i,g,hS⟩:=ni (bs.drop a) ((1048576:Nat):Int)
   have SM:=hide (ku vs (bs.drop a) 1048576 u i g wr eH (by rw[List.length_drop];omega) (by omega) (by omega) hS)
   have ST:=hide (rH (most:=1048576) (by omega) hS)
   clear eH hS
   go_wp2_with fail
   refine SM.out.mono ?_
   rintro E w4 ⟨rfl,rfl⟩
   clear hsl SM
   rcases ST.out with⟨z,rfl,rfl,rfl,hz,hp⟩|⟨rfl,rfl,rfl,hn⟩
   ·have aoi:=Vm.kI (x:=z) (by omega)
    have hwr:=aX ((a:Int)+(Vm.sz z:Int)) (by omega) (by omega)
    obtain⟨V,hV,bV,gV,cz,fz⟩:=afD D.out.num 2 (.int .i64 z) (by simp)
    have DN:Hid (HI bs w V 3 x y z (a+Vm.sz z)):=hide (D.out.aw0 hz hp bV gV)
    clear bV gV hp D ST
    go_wp2
    go_roundw
    case rel=>exact⟨3,a+Vm.sz z,x,y,z,by omega,rfl,by go_num,DN⟩
    case measure=>simp[intOf]
   ·have HN:=hide (D.out.no2 hn)
    obtain⟨⟨s0,s1,s2⟩,⟨f0,f1,f2⟩,z0,z1,z2⟩:=ZERO.out wr D.out.res
    have BB:=hide D.out.aG
    clear hn D ST
    go_wp2
    refine bodyPost_ret (v:=.tuple #[.agg #[.int .i64 0,.int .i64 0,.slice none 0 0],.int .i64 0,.bool false]) (by simp[results,Tryz.results106,go_sem,z0,z1,z2]) rfl ?_
    exact⟨0,0,0,false,rfl,hide (.inr ⟨rfl,HN.out⟩),BB.out⟩
  ·have e:a=Vm.sz x+Vm.sz y+Vm.sz m:=by simpa using D.out.at'
   by_cases hae:a=bs.length
   ·have hab:((a:Int) !=(bs.length:Int))=false:=by simp[hae]
    have HH:Hid (HdR bs x y m true):=hide (.inl ⟨rfl,⟨(D.out.h1 (by omega)).1,(D.out.h2 (by omega)).1,(D.out.h3 (by omega)).1⟩,Orp.avY (D.out.h1 (by omega)).2 (D.out.h2 (by omega)).2 (D.out.h3 (by omega)).2 (by omega)⟩)
    obtain⟨Z,hZ,bZ,gZ,⟨a0,a1,a2⟩,⟨f0,f1,f2⟩,z0,z1,z2⟩:=dP D.out.res (.int .i64 x) (.int .i64 y) (.slice none 0 0)
    have n0:wr.cell? ⟨w.heap.size+1,0,none⟩=some (.int .i64 x):=ai D.out.num 0 rfl
    have n1:wr.cell? ⟨w.heap.size+1,1,none⟩=some (.int .i64 y):=ai D.out.num 1 rfl
    have n2:wr.cell? ⟨w.heap.size+1,2,none⟩=some (.int .i64 m):=ai D.out.num 2 rfl
    have m2:Z.cell? ⟨w.heap.size+1,2,none⟩=some (.int .i64 m):=ai ((gZ.block _ (ax D.out.num) (by simp)).trans D.out.num) 2 rfl
    have BZ:=hide (aD D.out.aG gZ (Nat.le_refl _) D.out.aG.size)
    clear D ZERO bZ gZ hae e hlen
    go_wp2
    go_region
    go_wp2
    refine bodyPost_ret (v:=.tuple #[.agg #[.int .i64 x,.int .i64 y,.slice none 0 0],.int .i64 m,.bool true]) (by simp[results,Tryz.results106,go_sem,z0,z1,z2]) rfl ?_
    exact⟨x,y,m,true,rfl,HH,below_drewN BZ.out 1⟩
   ·have hab:((a:Int) !=(bs.length:Int))=true:=by simp;omega
    have HN:Hid (Orp.yY bs):=hide (Orp.axl (D.out.h1 (by omega)).2 (D.out.h2 (by omega)).2 (D.out.h3 (by omega)).2 (by omega))
    obtain⟨⟨s0,s1,s2⟩,⟨f0,f1,f2⟩,z0,z1,z2⟩:=ZERO.out wr D.out.res
    have BB:=hide D.out.aG
    clear D ZERO e
    go_wp2
    refine bodyPost_ret (v:=.tuple #[.agg #[.int .i64 0,.int .i64 0,.slice none 0 0],.int .i64 0,.bool false]) (by simp[results,Tryz.results106,go_sem,z0,z1,z2]) rfl ?_
    exact⟨0,0,0,false,rfl,hide (.inr ⟨rfl,HN.out⟩),BB.out⟩
def CmO (w:World) (bs:List Int) (E:Ending) (w':World):Prop:=
 ∃(c:Cw) (n:Nat) (g:Bool),E=.returned (.tuple #[.agg #[.int .i64 c.e,.int .i64 c.n,c.v],.int .i64 n,.bool g])∧Hid (bz 92 w.heap.size w' c.v c.l∧Below w.heap.size w w'∧
  ((g=true∧∃r,Fm.Rd bs r n 0∧Cm.oK r c.e c.n c.l 0)∨(g=false∧((∃r n e,Fm.Rd bs r n e∧e≠0)∨∃r n e k l g,Fm.Rd bs r n 0∧Cm.oK r e k l g∧g≠0))))
theorem anJ (vb:Value)(bs:List Int)(w:World)(hb:Is .u8 w vb bs)(hl:bs.length≤140737488355328):Calls Tryz.prog 107 #[vb] w (CmO w bs):=by
 obtain⟨w1,hw1,aW,aj,jE⟩:=ak w #[.int .i64 0,.int .i64 0,.slice none 0 0] 65
 have F1:=hide (oC vb bs w1 (hb.below aj) (by omega))
 obtain⟨ao,cap,hvb,_,_⟩:=hb.shape
 rw[hvb]at F1
 subst hvb
 have B1:=hide aj
 have R1:=hide jE
 clear hb jE aj
 go_enter Tryz.func107,Tryz.ntmps107
 go_wp2_with fail
 refine F1.out.mono ?_
 rintro E w2 ⟨vh,hs,n0,e0,rfl,lH,au,HRd⟩
 have hR2:=(au.block w.heap.size (by omega)).trans R1.out
 have B2:=hide (B1.out.trans (au.mono B1.out.size))
 obtain⟨ah,ch,vP,_,_⟩:=lH.is.shape
 clear F1
 by_cases he0:e0=0
 ·subst he0
  have CD:=hide (an4 vh hs w2 lH.is (by
   rcases HRd.out with⟨_,h1,_⟩|⟨h1,_⟩
   ·omega
   ·simp at h1))
  rw[vP]at CD
  subst vP
  clear lH
  go_wp2_with fail
  refine CD.out.mono ?_
  rintro E w3 ⟨ce,cn,g,cv,cl,rfl,bI,HCR,aF⟩
  unfold bT
  obtain⟨ca,ck,hcv,_,_⟩:=bI.is.shape
  have bN:=(aF.block _ (ax hR2)).trans hR2
  have B3:=B2.out.trans (aF.mono B2.out.size)
  obtain⟨Z,hZ,bZ,gZ,⟨a0,a1,a2⟩,⟨f0,f1,f2⟩,z0,z1,z2⟩:=dP bN (.int .i64 ce) (.int .i64 cn) cv
  have BZ:=hide (aD B3 gZ (Nat.le_refl _) B3.size)
  have OZ:=hide ((bI.aa5 gZ (ax hR2)).bB (base':=w.heap.size) B2.out.size)
  have CR:=hide HCR
  have ZB:=hide bZ
  obtain⟨⟨s0,s1,s2⟩,⟨g0,g1,g2⟩,_⟩:=p9 Z bZ
  rw[hcv]at hZ z2 OZ ZB s2
  subst hcv
  clear CD aF bI HCR bN B3 gZ bZ au hR2
  by_cases hg:g=0
  ·subst hg
   clear ZB
   go_wp2
   refine bodyPost_ret (v:=.tuple #[.agg #[.int .i64 ce,.int .i64 cn,.slice ca cl.length ck],.int .i64 n0,.bool true]) (by simp[results,Tryz.results107,go_sem,z0,z1,z2]) rfl ?_
   exact⟨⟨ce,cn,.slice ca cl.length ck,cl⟩,n0,true,rfl,hide ⟨OZ.out,BZ.out,.inl ⟨rfl,hs,HRd.out,CR.out⟩⟩⟩
  ·have hgb:(g !=0)=true:=by simp[hg]
   have NO:=hide hg
   obtain⟨Y,hY,bY,gY,_,_,y0,y1,y2⟩:=dP ZB.out (.int .i64 0) (.int .i64 0) (.slice none 0 0)
   have BY:=hide (aD BZ.out gY (Nat.le_refl _) BZ.out.size)
   clear ZB gY bY hg
   go_wp2
   refine bodyPost_ret (v:=.tuple #[.agg #[.int .i64 0,.int .i64 0,.slice none 0 0],.int .i64 0,.bool false]) (by simp[results,Tryz.results107,go_sem,y0,y1,y2]) rfl ?_
   exact⟨⟨0,0,.slice none 0 0,[]⟩,0,false,rfl,hide ⟨bz.nil _ _ _,BY.out,.inr ⟨rfl,.inr ⟨hs,n0,ce,cn,cl,g,HRd.out,CR.out,NO.out⟩⟩⟩⟩
 ·have heb:(e0 !=0)=true:=by simp[he0]
  obtain⟨⟨s0,s1,s2⟩,⟨f0,f1,f2⟩,z0,z1,z2⟩:=p9 w2 hR2
  have NO:=hide he0
  subst vP
  clear lH au hR2 he0
  go_wp2
  refine bodyPost_ret (v:=.tuple #[.agg #[.int .i64 0,.int .i64 0,.slice none 0 0],.int .i64 0,.bool false]) (by simp[results,Tryz.results107,go_sem,z0,z1,z2]) rfl ?_
  exact⟨⟨0,0,.slice none 0 0,[]⟩,0,false,rfl,hide ⟨bz.nil _ _ _,B2.out,.inr ⟨rfl,.inl ⟨hs,n0,e0,HRd.out,NO.out⟩⟩⟩⟩
end Go.Proofs.YtjemlgdkjilnoaaGreatDoor
