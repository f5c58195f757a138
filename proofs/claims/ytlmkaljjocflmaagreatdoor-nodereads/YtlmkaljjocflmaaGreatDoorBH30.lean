/- Texts. -/
import Derived.Test.YtlmkaljjocflmaaGreatDoorBH29
import Derived.Test.YtlmkaljjocflmaaGreatDoorBH17
import Derived.Test.YtlmkaljjocflmaaGreatDoorBH28
import Derived.Test.YtlmkaljjocflmaaGreatDoorBH13
import Derived.Test.YtlmkaljjocflmaaGreatDoorBH1
import Derived.Test.YtlmkaljjocflmaaGreatDoorBH4
set_option maxRecDepth 100000
set_option maxHeartbeats 8000000
set_option linter.unusedVariables false
open Go.Proofs.Tryz
namespace Go.Proofs.YtlmkaljjocflmaaGreatDoor
open Go.RowKit
structure Nl (w0 w:World) (n p q:Nat) (F:Nat→Prop) (x:Ns):Prop where
 nd:Nd n p q F w x
 new:∀g,F g∨g=n→w0.heap.size≤g∧0<g
 aI:Below w0.heap.size w0 w
section
variable {w0 w w':World} {n p q m:Nat} {F:Nat→Prop} {x y:Ns} {e pa:Int}
theorem Nl.below (h:Nl w0 w n p q F x)(hb:Below w.heap.size w w'):Nl w0 w' n p q F x:=⟨h.nd.below hb,h.new,h.aI.trans (hb.mono h.aI.size)⟩
theorem Nl.step (h:Nl w0 w n p q F x)(k:dF n p q F w w' y):∃F',Nl w0 w' n p q F' y:=by
 obtain⟨F',k1,k2,k3⟩:=k
 have hs:=h.aI.size
 refine⟨F',k1,fun g hg=>?_,h.aI.trans (k2.below (fun g hg=>(h.new g hg).1) hs)⟩
 rcases hg with e|e
 ·rcases k3 g e with e|e
  ·exact h.new g (.inl e)
  ·have:=h.nd.st.gQ.pos
   omega
 ·exact h.new g (.inr e)
theorem Nl.n0 (h:Nl w0 w n p q F x):¬F 0:=fun e=>by have:=(h.new 0 (.inl e)).2;omega
theorem yo (h:Nl w0 w n p q F x)(hp:eG m x e pa)(hm:m≤500)(o:Bm.Ov)(ho:dZ [o]):
  ∃V,w.alloc (.cells #[.bool o.p,.string o.k,.string o.v] 71)=V∧Hid (Calls prog 28 #[.pointer (some ⟨n,0,none⟩),.slice (some ⟨w.heap.size,0,none⟩) 1 1] V fun E w'=>E=.returned (.tuple #[.int .i64 (if x.kP [o]=0 then x.s.l.length+1 else 0),.int .i64 (x.kP [o])])∧dF n p q F w w' (x.co [o])):=by
 obtain⟨V,hV,iy,bg,jm⟩:=qO 71 w #[.bool o.p,.string o.k,.string o.v] 1 [o] rfl rfl (by simp[maxLen])
 refine⟨V,hV,hide ?_⟩
 have hl:=h.below bg
 have h6:x.kP [o]≠6:=by
  by_cases hb:x.bar [o]=0
  ·rw[(hp.yes hm hb).1];simp
  ·rw[(hp.no hm hb).1,hp.bar hm]
   rcases Bm.wS [o]with g|g|g<;>rw[g]<;>simp
   split<;>simp
 refine(zI n p q F V x hl.nd (hp.tF hm) hp.t3 h.n0 hp.on _ [o] (fun W hW=>?_) ho (by simp) hp.i64 h6).mono ?_
 ·have k:aT 71 w.heap.size W (.slice (some ⟨w.heap.size,0,none⟩) 1 1) [o]:=dH jm fun g hg=>hW.block g (World.ownsRow.lt jm g hg).2 fun e=>by
   have a1:=(World.ownsRow.lt jm g hg).1
   have a2:=h.nd.lt g (.inl e)
   omega
  exact k.is
 ·rintro E w' ⟨rfl,k⟩
  exact⟨rfl,k.ahead bg⟩
theorem alK (u t:Int)(hu:u=0∨u=1)(ht:1≤t∧t≤16)(hm:fU w0)(w1:World)(hq:w0.heap.size≤q)(h:Pk q (fun g=>g=q) w1 Dm.new)(hb:Below w0.heap.size w0 w1):
  Calls prog 26 #[.int .i64 u,.int .i64 t,.pointer (some ⟨q,0,none⟩)] w1 fun E w'=>∃n p F,E=.returned (.tuple #[.pointer (some ⟨n,0,none⟩),.int .i64 0])∧Hid (Nl w0 w' n p q F (Ns.one u t (jM u))):=by
 have p0:=hm.pos
 refine(apq u t hu ht q w1 h (hm.below hb) (by omega)).mono ?_
 rintro E w' ⟨n,p,F,rfl,X⟩
 obtain⟨k1,k2,k3⟩:=X.out
 have hs:=hb.size
 refine⟨n,p,F,rfl,hide ⟨k1,fun g hg=>?_,hb.trans (k3.below (fun g e=>by omega) hs)⟩⟩
 rcases k2 g hg with e|e<;>omega
end
theorem adT (k v:ByteArray)(w:World):
  Calls prog 29 #[.string k,.string v] w fun E w'=>E=.returned (.agg #[.bool true,.string k,.string v])∧Below w.heap.size w w':=by
 obtain⟨w1,hw1,s1,b1,P1⟩:=au w #[.bool false,.string ⟨#[]⟩,.string ⟨#[]⟩] 71
 obtain⟨V',hV',fI,dO,⟨a0,a1,a2⟩,⟨f0,f1,f2⟩,⟨z0,z1,z2⟩⟩:=gy P1 (.bool true) (.string k) (.string v)
 have BV:=hide (aG b1 dO (Nat.le_refl _) (by omega))
 clear b1 P1 fI dO s1
 go_enter func29,ntmps29
 go_wp2
 refine bodyPost_ret (v:=.agg #[.bool true,.string k,.string v]) (by simp[results,results29,go_sem,z0,z1,z2]) rfl ?_
 exact⟨rfl,BV.out⟩
def oa:Bm.Ov:=⟨true,⟨#[97]⟩,⟨#[49]⟩⟩
def ob:Bm.Ov:=⟨true,⟨#[98]⟩,⟨#[50]⟩⟩
def od:Bm.Ov:=⟨false,⟨#[97]⟩,⟨#[]⟩⟩
theorem auc:dZ [oa]∧dZ [ob]∧dZ [od]:=by
 refine⟨fun o ho=>?_,fun o ho=>?_,fun o ho=>?_⟩<;>rw[List.mem_singleton.1 ho]<;>exact⟨by decide,by decide⟩
theorem atp:Bm.cO [oa]=0∧Bm.cO [ob]=0∧Bm.cO [od]=0:=⟨by decide,by decide,by decide⟩
def n0:Ns:=Ns.one 0 2 (jM 0)
def n1:Ns:=n0.co [oa]
def n2:Ns:=n1.co [ob]
structure Cha:Prop where
 p0:eG 1 n0 1 0
 p1:eG 2 n1 1 0
 p2:eG 3 n2 1 0
 e0:n0.kP [oa]=0
 e1:n1.kP [ob]=0
 e2:n2.kP [od]=8
 x2:n2.co [od]=n2
 l0:n0.s.l.length=0
 l1:n1.s.l.length=1
 l2:n2.s.l.length=2
 a2:n2.a=0
 k2:n2.k=-1
 t2:n2.t=2
 f2:Sto.fold (Rst.aP n2.s)=Tm.app (Tm.app [] [oa]) [ob]
theorem cha:Cha:=by
 have p0:eG 1 n0 1 0:=ahJ 2 (by decide)
 obtain⟨c1,c2,c3⟩:=atp
 have b0:n0.bar [oa]=0:=by
  rw[eG.bar p0 (by omega),if_neg (by rw[c1];simp)]
  rfl
 obtain⟨e0,p1,l1,a1,t1,k1,_,f1⟩:=p0.yes (by omega) b0
 have l1':n1.s.l.length=1:=by show(n0.co [oa]).s.l.length=1;rw[show(n0.co [oa]).s.l=_ from l1,List.length_append];rfl
 have a1:n1.a=0:=a1
 have t1:n1.t=2:=t1
 have k1:n1.k=-1:=k1
 have p1:eG 2 n1 1 0:=p1
 have b1:n1.bar [ob]=0:=by
  rw[p1.bar (by omega),if_neg (by rw[c2];simp),l1',a1,t1]
  rfl
 obtain⟨e1,p2,l2,a2,t2,k2,_,f2⟩:=p1.yes (by omega) b1
 have p2:eG 3 n2 1 0:=p2
 have l2':n2.s.l.length=2:=by
  show(n1.co [ob]).s.l.length=2
  rw[l2,List.length_append,l1']
  rfl
 have a2:n2.a=0:=a2.trans a1
 have t2:n2.t=2:=t2.trans t1
 have k2:n2.k=-1:=k2.trans k1
 have b2:n2.bar [od]=8:=by
  rw[p2.bar (by omega),if_neg (by rw[c3];simp),l2',a2,t2]
  rfl
 have f1:Sto.fold (Rst.aP n1.s)=Tm.app (Sto.fold (Rst.aP n0.s)) [oa]:=f1
 have f2:Sto.fold (Rst.aP n2.s)=Tm.app (Sto.fold (Rst.aP n1.s)) [ob]:=f2
 obtain⟨g1,g2⟩:=p2.no (l:=[od]) (by omega) (by rw[b2];simp)
 exact⟨p0,p1,p2,e0,e1,g1.trans b2,g2,rfl,l1',l2',a2,k2,t2,by rw[f2,f1];rfl⟩
theorem ahe (w:World)(hm:fU w):Calls prog 27 #[] w fun E w'=>E=.returned (.bool true)∧Below w.heap.size w w':=by
 have HM:=hide hm
 have NW:=hide (aik w)
 have CH:=hide cha
 have FO:=hide auc
 clear hm
 go_enter func27,ntmps27
 go_wp2_with fail
 refine NW.out.mono ?_
 rintro E w1 ⟨rfl,K1,B1⟩
 have OP:=hide (alK (w0:=w) 0 2 (.inl rfl) (by decide) HM.out w1 (Nat.le_refl _) K1 B1)
 obtain⟨q,hq⟩:∃q,w.heap.size=q:=⟨_,rfl⟩
 rw[hq]at OP⊢
 clear NW K1 B1
 go_wp2_with fail
 refine OP.out.mono ?_
 rintro E w2 ⟨n,p,F,rfl,L2⟩
 have L2:Hid (Nl w w2 n p q F n0):=L2
 have PT:=hide (adT ⟨#[97]⟩ ⟨#[49]⟩ w2)
 clear OP
 go_wp2_with fail
 refine PT.out.mono ?_
 rintro E w3 ⟨rfl,b3⟩
 have L3:=L2.out.below b3
 obtain⟨V,hV,AD⟩:=yo L3 CH.out.p0 (by omega) oa FO.out.1
 rw[CH.out.e0,if_pos rfl,CH.out.l0]at AD
 simp only[oa]at hV
 have L3:=hide L3
 clear PT L2 b3
 go_wp2_with fail
 refine AD.out.mono ?_
 rintro E w4 ⟨rfl,K4⟩
 obtain⟨F4,L4⟩:=L3.out.step K4
 have L4:Hid (Nl w w4 n p q F4 n1):=hide L4
 have PT:=hide (adT ⟨#[98]⟩ ⟨#[50]⟩ w4)
 clear AD hV K4 L3
 go_wp2_with fail
 refine PT.out.mono ?_
 rintro E w5 ⟨rfl,b5⟩
 have L5:=L4.out.below b5
 obtain⟨V5,xg,AD⟩:=yo L5 CH.out.p1 (by omega) ob FO.out.2.1
 rw[CH.out.e1,if_pos rfl,CH.out.l1]at AD
 simp only[ob]at xg
 have L5:=hide L5
 clear PT L4 b5
 go_wp2_with fail
 refine AD.out.mono ?_
 rintro E w6 ⟨rfl,K6⟩
 obtain⟨F6,L6⟩:=L5.out.step K6
 clear K6 L5
 have L6:Hid (Nl w w6 n p q F6 n2):=hide L6
 obtain⟨V6,hV6,AD⟩:=yo L6.out CH.out.p2 (by omega) od FO.out.2.2
 rw[CH.out.e2,if_neg (by simp),CH.out.x2]at AD
 simp only[od]at hV6
 clear xg
 go_wp2_with fail
 refine AD.out.mono ?_
 rintro E w7 ⟨rfl,K7⟩
 obtain⟨F7,L7⟩:=L6.out.step K7
 clear K7 L6
 have L7:=hide L7
 have KN:=hide (akX n p q F7 w7 n2 L7.out.nd CH.out.k2)
 clear AD hV6
 go_wp2_with fail
 refine KN.out.mono ?_
 rintro E w8 ⟨rfl,rfl⟩
 have RD:=hide (acV n p q F7 w7 n2 L7.out.nd (CH.out.p2.tF (by omega)) CH.out.p2.on (CH.out.p2.rd (by omega)) ⟨#[97]⟩ (by decide))
 rw[CH.out.f2,show gv (Tm.app (Tm.app [] [oa]) [ob]) ⟨#[97]⟩=⟨#[49]⟩from rfl,show gp (Tm.app (Tm.app [] [oa]) [ob]) ⟨#[97]⟩=true from rfl]at RD
 clear KN
 go_wp2_with fail
 refine RD.out.mono ?_
 rintro E w9 ⟨rfl,b9⟩
 have L9:=hide (L7.out.below b9)
 have OU:=hide (aao n p q F7 w9 n2 L9.out.nd (CH.out.p2.tF (by omega)) (by rw[CH.out.p2.pg]))
 rw[CH.out.p2.out (by omega),CH.out.l2,CH.out.a2]at OU
 clear RD L7 b9
 go_wp2_with fail
 refine OU.out.mono ?_
 rintro E wa ⟨rfl,ba⟩
 have LA:=hide (L9.out.below ba)
 clear OU L9 ba
 go_wp2
 go_ret
 exact⟨rfl,LA.out.aI⟩
theorem gm.mP {w:World}{g:Nat}{m:Mw}{a b:Value}(h:gm w g m)(hs:m.vs=a)(hc:m.vc=b):Ei w g (.int .i64 m.k) (.int .i64 m.e) (.int .u8 m.r) (.int .i64 m.n) a (.int .i64 m.f) (.int .i64 m.p) b:=by
 subst hs hc
 exact h.ei
theorem jc {m:Mw}{a b:Value}(hs:m.vs=a)(hc:m.vc=b):mv m=.agg #[.int .i64 m.k,.int .i64 m.e,.int .u8 m.r,.int .i64 m.n,a,.int .i64 m.f,.int .i64 m.p,b]:=by
 subst hs hc
 rfl
theorem akn {m:Mw}{a b:Value}(hs:m.vs=a)(hc:m.vc=b):mc m=#[.int .i64 m.k,.int .i64 m.e,.int .u8 m.r,.int .i64 m.n,a,.int .i64 m.f,.int .i64 m.p,b]:=by
 subst hs hc
 rfl
theorem yI (w:World)(m:Mw){a b:Value}(hs:m.vs=a)(hc:m.vc=b):
  ∃V,w.alloc (.cells #[.int .i64 m.k,.int .i64 m.e,.int .u8 m.r,.int .i64 m.n,a,.int .i64 m.f,.int .i64 m.p,b] 26)=V∧V.heap.size=w.heap.size+1∧Below w.heap.size w V∧gm V w.heap.size m:=by
 subst hs hc
 exact aaD w m
def Kp (m:Mw):Prop:=(m.k=1∧Mm.Hel m.m)∨(m.k=2∧Mm.Shp m.m)∨(m.k=3∧Mm.Ack m.m)
def aX (m:Mw):Mw:=⟨m.k,m.e,m.r,m.n,m.vs,m.ss,0,0,.slice none 0 0,[]⟩
def aW (m:Mw):Mw:=⟨m.k,m.e,0,0,.slice none 0 0,[],m.f,m.p,m.vc,m.cs⟩
def bK (m:Mw):Mw:=⟨m.k,m.e,0,m.n,.slice none 0 0,[],0,0,.slice none 0 0,[]⟩
theorem alP {m:Mw}:mR m.m (aX m).m=true↔m.f=0∧m.p=0∧aD m.cs=[]:=by
 rw[yT]
 constructor
 ·intro e
  exact⟨congrArg Mm.Msg.f e,congrArg Mm.Msg.p e,congrArg Mm.Msg.cs e⟩
 ·rintro⟨h1,h2,h3⟩
  exact Mm.Msg.eq rfl rfl rfl rfl rfl h1 h2 h3
theorem akT {m:Mw}:mR m.m (aW m).m=true↔m.r=0∧m.n=0∧m.ss=[]:=by
 rw[yT]
 constructor
 ·intro e
  exact⟨congrArg Mm.Msg.r e,congrArg Mm.Msg.n e,congrArg Mm.Msg.ss e⟩
 ·rintro⟨h1,h2,h3⟩
  exact Mm.Msg.eq rfl rfl h1 h2 h3 rfl rfl rfl
theorem amG {m:Mw}:mR m.m (bK m).m=true↔m.r=0∧m.ss=[]∧m.f=0∧m.p=0∧aD m.cs=[]:=by
 rw[yT]
 constructor
 ·intro e
  exact⟨congrArg Mm.Msg.r e,congrArg Mm.Msg.ss e,congrArg Mm.Msg.f e,congrArg Mm.Msg.p e,congrArg Mm.Msg.cs e⟩
 ·rintro⟨h1,h2,h3,h4,h5⟩
  exact Mm.Msg.eq rfl rfl h1 rfl h2 h3 h4 h5
theorem ahP {w:World}{m:Mw}(h:ji w m):ji w (aX m):=⟨h.s,gD.nil _⟩
theorem ahA {w:World}{m:Mw}(h:ji w m):ji w (aW m):=⟨fP.nil _ _,h.c⟩
theorem at0 {w:World}{m:Mw}(h:ji w m):ji w (bK m):=⟨fP.nil _ _,gD.nil _⟩
theorem afB {m:Mw}(h:bQ m):bQ (aX m):=⟨h.k,h.e,h.r0,h.r1,h.n,bQ.no.f,bQ.no.p,h.ls,bQ.no.fc,bQ.no.lc⟩
theorem afb {m:Mw}(h:bQ m):bQ (aW m):=⟨h.k,h.e,bQ.no.r0,bQ.no.r1,bQ.no.n,h.f,h.p,bQ.no.ls,h.fc,h.lc⟩
theorem arx {m:Mw}(h:bQ m):bQ (bK m):=⟨h.k,h.e,bQ.no.r0,bQ.no.r1,h.n,bQ.no.f,bQ.no.p,bQ.no.ls,bQ.no.fc,bQ.no.lc⟩
theorem aaM {a b:Bool}(h:a=true↔b=true):a=b:=by cases a<;>cases b<;>simp_all
theorem azH {m:Mw}(h:m.k=1):Kp m↔aaG (aX m)∧mR m.m (aX m).m=true:=by
 rw[alP]
 constructor
 ·rintro(⟨_,a1,a2,a3,a4,a5,a6,a7⟩|⟨k,_⟩|⟨k,_⟩)
  ·exact⟨⟨a1,a2,a3,a4⟩,a5,a6,a7⟩
  ·omega
  ·omega
 ·rintro⟨⟨a1,a2,a3,a4⟩,a5,a6,a7⟩
  exact .inl ⟨h,a1,a2,a3,a4,a5,a6,a7⟩
theorem aAK {m:Mw}(h:m.k=2):Kp m↔acy (aW m)∧mR m.m (aW m).m=true:=by
 rw[akT]
 constructor
 ·rintro(⟨k,_⟩|⟨_,a1,a2,a3,a4,a5,a6,a7,a8,a9,a10,a11⟩|⟨k,_⟩)
  ·omega
  ·exact⟨⟨a1,a2,a3,a4,a5,by have:=a6;simp only[Mw.m,dJ]at this;exact this,a7,a8⟩,a9,a10,a11⟩
  ·omega
 ·rintro⟨⟨a1,a2,a3,a4,a5,a6,a7,a8⟩,a9,a10,a11⟩
  exact .inr (.inl ⟨h,a1,a2,a3,a4,a5,by simp only[Mw.m,dJ];exact a6,a7,a8,a9,a10,a11⟩)
theorem aAb {m:Mw}(h:m.k=3):Kp m↔(0≤m.n∧m.n≤1048576)∧mR m.m (bK m).m=true:=by
 rw[amG]
 constructor
 ·rintro(⟨k,_⟩|⟨k,_⟩|⟨_,a1,a2,a3,a4,a5,a6,a7⟩)
  ·omega
  ·omega
  ·exact⟨⟨a1,a2⟩,a3,a4,a5,a6,a7⟩
 ·rintro⟨⟨a1,a2⟩,a3,a4,a5,a6,a7⟩
  exact .inr (.inr ⟨h,a1,a2,a3,a4,a5,a6,a7⟩)
theorem ahf (m:Mw)(ans:Bool)(w:World)(hi:ji w m)(hf:bQ m)(he:1≤m.e)(h:nM ans (Kp m)):
  Calls prog 126 #[mv m] w fun E w'=>E=.returned (.bool ans)∧Below w.heap.size w w':=by
 have HD:Hid (nM ans (Kp m)):=hide h
 obtain⟨ao,cap,hvs,_,_⟩:=hi.s.shape
 obtain⟨mM,cap2,dz,_,_⟩:=hi.c.1.shape
 rw[jc hvs dz]
 have jL:=hide hvs
 have jS:=hide dz
 obtain⟨w1,hw1,aV,aj,hA⟩:=yI w m hvs dz
 obtain⟨a0,a1,a2,a3,a4,a5,a6,a7⟩:=hA.mP hvs dz
 clear hvs dz
 obtain⟨w2,uR,hw2,dA,az,hO,_⟩:=aox w1 26 (.int .i64 0) (.int .i64 0) (.int .u8 0) (.int .i64 0) (.slice none 0 0) (.int .i64 0) (.int .i64 0) (.slice none 0 0) (.int .i64 m.k) (.int .i64 m.e) (.int .u8 0) (.int .i64 0) (.slice none 0 0) (.int .i64 0) (.int .i64 0) (.slice none 0 0)
 rw[aV]at hO uR
 have hA2:=hA.below az
 obtain⟨c0,c1,c2,c3,c4,c5,c6,c7⟩:=hA2.mP jL.out jS.out
 obtain⟨d0,d1,d2,d3,d4,d5,d6,d7⟩:=dw hO
 have s2:w2.setCell ⟨w.heap.size+1,2,none⟩ (.int .u8 0)=w2:=aK hO (j:=2) rfl
 have s3:w2.setCell ⟨w.heap.size+1,3,none⟩ (.int .i64 0)=w2:=aK hO (j:=3) rfl
 have s4:w2.setCell ⟨w.heap.size+1,4,none⟩ (.slice none 0 0)=w2:=aK hO (j:=4) rfl
 have s5:w2.setCell ⟨w.heap.size+1,5,none⟩ (.int .i64 0)=w2:=aK hO (j:=5) rfl
 have s6:w2.setCell ⟨w.heap.size+1,6,none⟩ (.int .i64 0)=w2:=aK hO (j:=6) rfl
 have s7:w2.setCell ⟨w.heap.size+1,7,none⟩ (.slice none 0 0)=w2:=aK hO (j:=7) rfl
 have f2:=aA hO 2
 have f3:=aA hO 3
 have f4:=aA hO 4
 have f5:=aA hO 5
 have f6:=aA hO 6
 have f7:=aA hO 7
 have aI:Below w.heap.size w w2:=aj.trans (az.mono (by omega))
 have HI:=hide hi
 have HF:=hide hf
 have hlt:w.heap.size<w2.heap.size:=by omega
 clear h hA hi hf aj az
 go_enter func126,ntmps126
 by_cases h1:m.k=1
 ·have h1':(m.k==1)=true:=by simp[h1]
  have HK:=hide (azH h1)
  clear h1
  obtain⟨V2,hV2,rV2,gV2,zV2⟩:=putAt hO 2 (.int .u8 m.r)
  have bV2:V2.heap[w.heap.size+1]? =some (.cells #[.int .i64 m.k,.int .i64 m.e,.int .u8 m.r,.int .i64 0,.slice none 0 0,.int .i64 0,.int .i64 0,.slice none 0 0] 26 (0,0)):=rV2
  have szV2:=gV2.size
  have AV2:gm V2 w.heap.size m:=(gV2.block w.heap.size (by omega) (by simp)).trans hA2
  have arJ:=aG aI gV2 (by omega) (by omega)
  obtain⟨l20,l21,l22,l23,l24,l25,l26,l27⟩:=AV2.mP jL.out jS.out
  obtain⟨y20,y21,y22,y23,y24,y25,y26,y27⟩:=dw bV2
  obtain⟨V3,hV3,rV3,gV3,zV3⟩:=putAt bV2 3 (.int .i64 m.n)
  have bV3:V3.heap[w.heap.size+1]? =some (.cells #[.int .i64 m.k,.int .i64 m.e,.int .u8 m.r,.int .i64 m.n,.slice none 0 0,.int .i64 0,.int .i64 0,.slice none 0 0] 26 (0,0)):=rV3
  have azI:=gV3.size
  have AV3:gm V3 w.heap.size m:=(gV3.block w.heap.size (by omega) (by simp)).trans AV2
  have rO:=aG arJ gV3 (by omega) (by omega)
  obtain⟨l30,l31,l32,l33,l34,l35,l36,l37⟩:=AV3.mP jL.out jS.out
  obtain⟨y30,y31,y32,y33,y34,y35,y36,y37⟩:=dw bV3
  obtain⟨V4,hV4,rV4,xE,zV4⟩:=putAt bV3 4 (.slice ao m.ss.length cap)
  have bV4:V4.heap[w.heap.size+1]? =some (.cells #[.int .i64 m.k,.int .i64 m.e,.int .u8 m.r,.int .i64 m.n,.slice ao m.ss.length cap,.int .i64 0,.int .i64 0,.slice none 0 0] 26 (0,0)):=rV4
  have szV4:=xE.size
  have AV4:gm V4 w.heap.size m:=(xE.block w.heap.size (by omega) (by simp)).trans AV3
  have aso:=aG rO xE (by omega) (by omega)
  obtain⟨Vd,xX⟩:∃X,V4.drew=X:=⟨_,rfl⟩
  have szd:Vd.heap.size=V4.heap.size:=by rw[←xX];rfl
  have AV:Hid (gm Vd w.heap.size m):=hide (by rw[←xX];exact AV4)
  have OV:Hid (gm Vd (w.heap.size+1) (aX m)):=hide (by rw[←xX];unfold gm;rw[akn (m:=aX m) (a:=.slice ao m.ss.length cap) (b:=.slice none 0 0) jL.out rfl];exact bV4)
  have jf:Below w.heap.size w Vd:=by rw[←xX];exact aso.drew
  clear AV4 bV4 aso
  clear rV2
  clear rV3
  clear rV4
  clear bV2 AV2 arJ
  clear bV3 AV3 rO
  clear gV2
  clear gV3
  clear xE
  clear hO hA2 aI
  go_wp2
  go_region
  clear hV2 hV3 hV4 xX hw1 hw2 uR s2 s3 s4 s5 s6 s7 f2 f3 f4 f5 f6 f7 a0 a1 a2 a3 a4 a5 a6 a7 c0 c1 c2 c3 c4 c5 c6 c7 d0 d1 d2 d3 d4 d5 d6 d7
  clear l20 l21 l22 l23 l24 l25 l26 l27 y20 y21 y22 y23 y24 y25 y26 y27
  clear l30 l31 l32 l33 l34 l35 l36 l37 y30 y31 y32 y33 y34 y35 y36 y37
  have OE:∀W,gm W (w.heap.size+1) (aX m)→Ei W (w.heap.size+1) (.int .i64 m.k) (.int .i64 m.e) (.int .u8 m.r) (.int .i64 m.n) (.slice ao m.ss.length cap) (.int .i64 0) (.int .i64 0) (.slice none 0 0):=fun W k=>k.mP jL.out rfl
  have OE:=hide OE
  obtain⟨e0,e1,e2,e3,e4,e5,e6,e7⟩:=OE.out _ OV.out
  obtain⟨hm,hhm⟩:=ae8 (aaG (aX m))
  have HM:=hide hhm
  clear hhm
  go_wp2_with fail
  have XX:=ab4 (aX m) hm Vd (ahP (HI.out.below jf)) (afB HF.out) (show(0:Int)≤m.e by omega) HM.out
  rw[jc (m:=aX m) (a:=.slice ao m.ss.length cap) (b:=.slice none 0 0) jL.out rfl]at XX
  refine XX.mono ?_
  clear XX
  rintro E w3 ⟨rfl,aC⟩
  clear e0 e1 e2 e3 e4 e5 e6 e7
  have bO:=aC.size
  have bq:=jf.trans (aC.mono (by omega))
  have hm':nM hm (aaG (aX m)):=HM.out
  cases hm
  ·obtain rfl:ans=false:=HD.out.no fun k=>by
    have:=hm'.2 (HK.out.1 k).1
    simp at this
   clear hm'
   go_wp2
   go_ret
   exact⟨rfl,bq⟩
  ·have hs:Hid (ans=mR m.m (aX m).m):=hide (aaM (HD.out.trans (HK.out.trans ⟨fun k=>k.2,fun k=>⟨hm'.1 rfl,k⟩⟩)))
   clear hm'
   obtain⟨e0,e1,e2,e3,e4,e5,e6,e7⟩:=OE.out _ (OV.out.below aC)
   obtain⟨x0,x1,x2,x3,x4,x5,x6,x7⟩:=(AV.out.below aC).mP jL.out jS.out
   go_wp2_with fail
   have XX:=wR m (aX m) w3 (HI.out.below bq) (ahP (HI.out.below bq)) HF.out (afB HF.out)
   rw[jc jL.out jS.out,jc (m:=aX m) (a:=.slice ao m.ss.length cap) (b:=.slice none 0 0) jL.out rfl]at XX
   refine XX.mono ?_
   clear XX
   rintro E w4 ⟨rfl,aL⟩
   rw[←hs.out]
   have dC:=bq.trans (aL.mono (by omega))
   go_wp2
   go_ret
   exact⟨rfl,dC⟩
 have h1':(m.k==1)=false:=by simpa using h1
 by_cases h2:m.k=2
 ·have h2':(m.k==2)=true:=by simp[h2]
  have HK:=hide (aAK h2)
  clear h2
  obtain⟨V5,xg,rV5,uf,zV5⟩:=putAt hO 5 (.int .i64 m.f)
  have zQ:V5.heap[w.heap.size+1]? =some (.cells #[.int .i64 m.k,.int .i64 m.e,.int .u8 0,.int .i64 0,.slice none 0 0,.int .i64 m.f,.int .i64 0,.slice none 0 0] 26 (0,0)):=rV5
  have szV5:=uf.size
  have AV5:gm V5 w.heap.size m:=(uf.block w.heap.size (by omega) (by simp)).trans hA2
  have arE:=aG aI uf (by omega) (by omega)
  obtain⟨l50,l51,l52,l53,l54,l55,l56,l57⟩:=AV5.mP jL.out jS.out
  obtain⟨y50,y51,y52,y53,y54,y55,y56,y57⟩:=dw zQ
  obtain⟨V6,hV6,rV6,gV6,zV6⟩:=putAt zQ 6 (.int .i64 m.p)
  have bV6:V6.heap[w.heap.size+1]? =some (.cells #[.int .i64 m.k,.int .i64 m.e,.int .u8 0,.int .i64 0,.slice none 0 0,.int .i64 m.f,.int .i64 m.p,.slice none 0 0] 26 (0,0)):=rV6
  have szV6:=gV6.size
  have AV6:gm V6 w.heap.size m:=(gV6.block w.heap.size (by omega) (by simp)).trans AV5
  have ar6:=aG arE gV6 (by omega) (by omega)
  obtain⟨l60,l61,l62,l63,l64,l65,l66,l67⟩:=AV6.mP jL.out jS.out
  obtain⟨y60,y61,y62,y63,y64,y65,y66,y67⟩:=dw bV6
  obtain⟨V7,hV7,rV7,gV7,zV7⟩:=putAt bV6 7 (.slice mM m.cs.length cap2)
  have bV7:V7.heap[w.heap.size+1]? =some (.cells #[.int .i64 m.k,.int .i64 m.e,.int .u8 0,.int .i64 0,.slice none 0 0,.int .i64 m.f,.int .i64 m.p,.slice mM m.cs.length cap2] 26 (0,0)):=rV7
  have szV7:=gV7.size
  have AV7:gm V7 w.heap.size m:=(gV7.block w.heap.size (by omega) (by simp)).trans AV6
  have asl:=aG ar6 gV7 (by omega) (by omega)
  obtain⟨Vd,xX⟩:∃X,V7.drew=X:=⟨_,rfl⟩
  have szd:Vd.heap.size=V7.heap.size:=by rw[←xX];rfl
  have AV:Hid (gm Vd w.heap.size m):=hide (by rw[←xX];exact AV7)
  have OV:Hid (gm Vd (w.heap.size+1) (aW m)):=hide (by rw[←xX];unfold gm;rw[akn (m:=aW m) (a:=.slice none 0 0) (b:=.slice mM m.cs.length cap2) rfl jS.out];exact bV7)
  have jf:Below w.heap.size w Vd:=by rw[←xX];exact asl.drew
  clear AV7 bV7 asl
  clear rV5
  clear rV6
  clear rV7
  clear zQ AV5 arE
  clear bV6 AV6 ar6
  clear uf
  clear gV6
  clear gV7
  clear hO hA2 aI
  go_wp2
  go_region
  clear xg hV6 hV7 xX hw1 hw2 uR s2 s3 s4 s5 s6 s7 f2 f3 f4 f5 f6 f7 a0 a1 a2 a3 a4 a5 a6 a7 c0 c1 c2 c3 c4 c5 c6 c7 d0 d1 d2 d3 d4 d5 d6 d7
  clear l50 l51 l52 l53 l54 l55 l56 l57 y50 y51 y52 y53 y54 y55 y56 y57
  clear l60 l61 l62 l63 l64 l65 l66 l67 y60 y61 y62 y63 y64 y65 y66 y67
  have OE:∀W,gm W (w.heap.size+1) (aW m)→Ei W (w.heap.size+1) (.int .i64 m.k) (.int .i64 m.e) (.int .u8 0) (.int .i64 0) (.slice none 0 0) (.int .i64 m.f) (.int .i64 m.p) (.slice mM m.cs.length cap2):=fun W k=>k.mP rfl jS.out
  have OE:=hide OE
  obtain⟨e0,e1,e2,e3,e4,e5,e6,e7⟩:=OE.out _ OV.out
  obtain⟨hm,hhm⟩:=ae8 (acy (aW m))
  have HM:=hide hhm
  clear hhm
  go_wp2_with fail
  have XX:=ad3 (aW m) hm Vd (ahA (HI.out.below jf)) (afb HF.out) HM.out
  rw[jc (m:=aW m) (a:=.slice none 0 0) (b:=.slice mM m.cs.length cap2) rfl jS.out]at XX
  refine XX.mono ?_
  clear XX
  rintro E w3 ⟨rfl,aC⟩
  clear e0 e1 e2 e3 e4 e5 e6 e7
  have bO:=aC.size
  have bq:=jf.trans (aC.mono (by omega))
  have hm':nM hm (acy (aW m)):=HM.out
  cases hm
  ·obtain rfl:ans=false:=HD.out.no fun k=>by
    have:=hm'.2 (HK.out.1 k).1
    simp at this
   clear hm'
   go_wp2
   go_ret
   exact⟨rfl,bq⟩
  ·have hs:Hid (ans=mR m.m (aW m).m):=hide (aaM (HD.out.trans (HK.out.trans ⟨fun k=>k.2,fun k=>⟨hm'.1 rfl,k⟩⟩)))
   clear hm'
   obtain⟨e0,e1,e2,e3,e4,e5,e6,e7⟩:=OE.out _ (OV.out.below aC)
   obtain⟨x0,x1,x2,x3,x4,x5,x6,x7⟩:=(AV.out.below aC).mP jL.out jS.out
   go_wp2_with fail
   have XX:=wR m (aW m) w3 (HI.out.below bq) (ahA (HI.out.below bq)) HF.out (afb HF.out)
   rw[jc jL.out jS.out,jc (m:=aW m) (a:=.slice none 0 0) (b:=.slice mM m.cs.length cap2) rfl jS.out]at XX
   refine XX.mono ?_
   clear XX
   rintro E w4 ⟨rfl,aL⟩
   rw[←hs.out]
   have dC:=bq.trans (aL.mono (by omega))
   go_wp2
   go_ret
   exact⟨rfl,dC⟩
 have h2':(m.k==2)=false:=by simpa using h2
 by_cases h3:m.k=3
 ·have h3':(m.k==3)=true:=by simp[h3]
  have HK:=hide (aAb h3)
  clear h3
  obtain⟨V3,hV3,rV3,gV3,zV3⟩:=putAt hO 3 (.int .i64 m.n)
  have bV3:V3.heap[w.heap.size+1]? =some (.cells #[.int .i64 m.k,.int .i64 m.e,.int .u8 0,.int .i64 m.n,.slice none 0 0,.int .i64 0,.int .i64 0,.slice none 0 0] 26 (0,0)):=rV3
  have azI:=gV3.size
  have AV3:gm V3 w.heap.size m:=(gV3.block w.heap.size (by omega) (by simp)).trans hA2
  have rO:=aG aI gV3 (by omega) (by omega)
  obtain⟨x0,x1,x2,x3,x4,x5,x6,x7⟩:=AV3.mP jL.out jS.out
  obtain⟨e0,e1,e2,e3,e4,e5,e6,e7⟩:=dw bV3
  clear rV3 gV3 bV3 hO hA2 aI
  by_cases p1:0≤m.n
  ·by_cases p2:m.n≤1048576
   ·have hs:Hid (ans=mR m.m (bK m).m):=hide (aaM (HD.out.trans (HK.out.trans ⟨fun k=>k.2,fun k=>⟨⟨p1,p2⟩,k⟩⟩)))
    go_wp2_with fail
    have XX:=wR m (bK m) V3 (HI.out.below rO) (at0 (HI.out.below rO)) HF.out (arx HF.out)
    rw[jc jL.out jS.out]at XX
    refine XX.mono ?_
    clear XX
    rintro E w4 ⟨rfl,aL⟩
    rw[←hs.out]
    have dC:=rO.trans (aL.mono (by omega))
    go_wp2
    go_ret
    exact⟨rfl,dC⟩
   ·obtain rfl:ans=false:=HD.out.no fun k=>p2 (HK.out.1 k).1.2
    have p3:(1048576:Int)<m.n:=by omega
    go_wp2
    go_ret
    exact⟨rfl,rO⟩
  ·obtain rfl:ans=false:=HD.out.no fun k=>p1 (HK.out.1 k).1.1
   have p3:m.n<0:=by omega
   go_wp2
   go_ret
   exact⟨rfl,rO⟩
 have h3':(m.k==3)=false:=by simpa using h3
 obtain rfl:ans=false:=HD.out.no fun k=>by
  rcases k with⟨k,_⟩|⟨k,_⟩|⟨k,_⟩<;>omega
 go_wp2
 go_ret
 exact⟨rfl,aI⟩
theorem vN (m:Mw)(c:Int)(w:World)(hi:ji w m)(hf:bQ m)(hc:Mm.Ck m.m c):
  Calls prog 58 #[mv m] w fun E w'=>E=.returned (.int .i64 c)∧Below w.heap.size w w':=by
 have HC:=hide hc
 have NO:Hid (¬Mm.Ok m.m→c=2):=hide fun h=>by
  rcases HC.out with⟨_,k⟩|⟨e,_⟩
  ·exact absurd k h
  ·exact e
 unfold mv
 obtain⟨w1,hw1,aV,aj,hA⟩:=aaD w m
 obtain⟨a0,a1,a2,a3,a4,a5,a6,a7⟩:=hA.ei
 clear hA hc
 go_enter func58,ntmps58
 by_cases h1:m.e<1
 ·obtain rfl:=NO.out fun k=>by have:1≤m.e:=k.1;omega
  go_wp2
  go_ret
  exact⟨rfl,aj⟩
 by_cases h2:1048576<m.e
 ·obtain rfl:=NO.out fun k=>by have:m.e≤1048576:=k.2.1;omega
  go_wp2
  go_ret
  exact⟨rfl,aj⟩
 obtain⟨ans,hy⟩:=ae8 (Kp m)
 have HY:=hide hy
 clear hy
 go_wp2_with fail
 refine(ahf m ans w1 (hi.below aj) hf (by omega) HY.out).mono ?_
 rintro E w2 ⟨rfl,az⟩
 have aO:=aj.trans (az.mono (by omega))
 have hy:=HY.out
 cases ans
 ·obtain rfl:=NO.out fun k=>by
   have:=hy.2 k.2.2
   simp at this
  clear hy
  go_wp2
  go_ret
  exact⟨rfl,aO⟩
 ·have hk:=hy.1 rfl
  obtain rfl:c=0:=by
   rcases HC.out with⟨e,_⟩|⟨_,k⟩
   ·exact e
   ·exact absurd ⟨by show 1≤m.e;omega,by show m.e≤1048576;omega,hk⟩ k
  clear hy hk
  go_wp2
  go_ret
  exact⟨rfl,aO⟩
structure Buf (g:Nat) (w:World) (vb:Value) (bs:List Int):Prop where
 box:w.heap[g]? =some (.cells #[vb] 61 (0,0))
 own:Own .u8 5 (g+1) w vb bs
structure BS (g:Nat) (w:World) (vb:Value) (w':World) (vb':Value) (bs':List Int):Prop where
 buf:Buf g w' vb' bs'
 out:Out (fun i=>i=g∨vb.ownBlock=some i) w w'
 at':∀b,vb'.ownBlock=some b→vb.ownBlock=some b∨w.heap.size≤b
theorem Buf.lt {g:Nat}{w:World}{vb:Value}{bs:List Int}(h:Buf g w vb bs):g<w.heap.size:=ay h.box
theorem Buf.below {g:Nat}{w w':World}{vb:Value}{bs:List Int}(h:Buf g w vb bs)(hb:Below w.heap.size w w'):Buf g w' vb bs:=⟨(hb.block g h.lt).trans h.box,h.own.below hb⟩
theorem BS.refl {g:Nat}{w:World}{vb:Value}{bs:List Int}(h:Buf g w vb bs):BS g w vb w vb bs:=⟨h,Out.refl _ _,fun b hb=>.inl hb⟩
theorem BS.of_below {g:Nat}{w w':World}{vb:Value}{bs:List Int}(h:Buf g w vb bs)(hb:Below w.heap.size w w'):BS g w vb w' vb bs:=⟨h.below hb,Out.of_below hb,fun b hb=>.inl hb⟩
theorem BS.trans {g:Nat}{w w1 w2:World}{v v1 v2:Value}{b1 b2:List Int}(h:BS g w v w1 v1 b1)(k:BS g w1 v1 w2 v2 b2):BS g w v w2 v2 b2:=by
 have hs:=h.out.size
 refine⟨k.buf,h.out.trans k.out fun i hi=>?_,fun b hb=>?_⟩
 ·rcases hi with rfl|hi
  ·exact .inl (.inl rfl)
  ·rcases h.at' i hi with e|e
   ·exact .inl (.inr e)
   ·exact .inr e
 ·rcases k.at' b hb with e|e
  ·exact h.at' b e
  ·exact .inr (by omega)
theorem BS.below {g:Nat}{w w':World}{v v':Value}{bs bs':List Int}(h:BS g w v w' v' bs')(hb:Buf g w v bs):Below g w w':=
 h.out.below (fun i hi=>by
  rcases hi with rfl|hi
  ·exact Nat.le_refl _
  ·have:=(hb.own.2.lt i hi).1;omega) (Nat.le_of_lt hb.lt)
theorem BS.stays {g:Nat}{w w':World}{v v':Value}{bs':List Int}(h:BS g w v w' v' bs'){i:Nat}(hi:i<w.heap.size)(h1:i≠g)(h2:v.ownBlock≠some i):w'.heap[i]? =w.heap[i]? :=
 h.out.block i hi fun k=>k.elim h1 h2
theorem amb {g:Nat}{w w4 w5:World}{vb v':Value}{bs ys:List Int}(h:Buf g w vb bs)(hb:Below w.heap.size w w4)(ho:Own .u8 5 (g+1) w5 v' (bs++ys))(hg:w4.grownBy w5 vb.ownBlock)(ha:v'.ownBlock=vb.ownBlock∨v'.ownBlock=some w4.heap.size):
  BS g w vb (w5.setCell ⟨g,0,none⟩ v') v' (bs++ys)∧w5.cell? ⟨g,0,none⟩=some vb∧w5.frozen? ⟨g,0,none⟩=false:=by
 have hl:=h.lt
 have hs:=hb.size
 have hne:some g≠vb.ownBlock:=fun e=>by have:=(h.own.2.lt g e.symm).1;omega
 have b5:w5.heap[g]? =some (.cells #[vb] 61 (0,0)):=(hg.block g (by omega) hne).trans ((hb.block g hl).trans h.box)
 refine⟨⟨⟨aF b5 0 v',?_⟩,?_,?_⟩,ai b5 0 rfl,aA b5 0⟩
 ·refine ho.kept (ax w5 ⟨g,0,none⟩ v') ?_
  cases e:v'.ownBlock with
  |none=>exact .inl rfl
  |some b=>exact .inr (by have:=(ho.2.lt b e).1;simp;omega)
 ·refine(Out.of_below (F:=fun i=>i=g∨vb.ownBlock=some i) hb).trans (G:=fun i=>i=g∨vb.ownBlock=some i) ?_ (fun i hi=>.inl hi)
  refine(Out.aM (F:=fun i=>i=g∨vb.ownBlock=some i) hg (fun i hi=>.inr hi)).trans (G:=fun i=>i=g) ?_ (fun i hi=>.inl (.inl hi))
  exact Out.aM (ax w5 ⟨g,0,none⟩ v') (fun i hi=>by simpa using hi.symm)
 ·intro b hbb
  rcases ha with e|e
  ·exact .inl (by rw[←e];exact hbb)
  ·rw[e]at hbb
   simp at hbb
   exact .inr (by omega)
theorem Tryz.amY:∀args w,(callFunc 155 args).run prog w=.ok (.enter 155 args) w:=enters_of func155 (by kernel_rfl) rfl
theorem aln (l:List Int)(k:Nat)(x:Int)(h:l[k]? =some x):Pm.encs (l.take (k+1))=Pm.encs (l.take k)++Vm.enc x.toNat:=by
 rw[List.take_add_one,h,Pm.jT]
 simp[Pm.encs]
theorem aiV (l:List Int)(k:Nat)(h:∀z∈l,z<18446744073709551616):(Pm.encs (l.take k)).length≤10*l.length:=by
 have h1:=(Pm.vI (l:=l.take k) (fun z hz=>h z (List.mem_of_mem_take hz))).1
 have:(l.take k).length≤l.length:=List.length_take_le' _ _
 omega
theorem wrap_u64 {x:Int}(h0:0≤x)(h1:x<18446744073709551616):IntKind.u64.wrap x=x:=by
 unfold IntKind.wrap
 simp[IntKind.bits,IntKind.signed]
 omega
theorem atn (vz:Value)(zs:List Int)(g:Nat)(vb:Value)(bs:List Int)(w:World)(hz:Is .i64 w vz zs)(h0:0<zs.length)(hp:∀z∈zs,0≤z)(hb:Buf g w vb bs)(hd:∀b,vz.ownBlock=some b→b≠g∧vb.ownBlock≠some b)(hl:bs.length+10*zs.length≤100000000000000):
  Calls prog 154 #[vz,.pointer (some ⟨g,0,none⟩)] w fun E w'=>E=.returned (.tuple #[])∧∃vb',BS g w vb w' vb' (bs++Pm.encs zs):=by
 obtain⟨b1,o1,c1,hvz,hc1,hm1,hB1,hcell⟩:=hz.full h0
 have hd':=hd b1 (by rw[hvz];rfl)
 have hw64:∀z∈zs,z<18446744073709551616:=fun z hzz=>by
  have:=range_i64 hz.1 (zs.idxOf z)
  have e:zs[zs.idxOf z]?.getD 0=z:=by
   have hlt:=List.idxOf_lt_length_of_mem hzz
   rw[List.getElem?_eq_getElem hlt]
   simp
  rw[e]at this
  have h2:=this.2
  omega
 have HW:=hide hw64
 have HP:=hide hp
 have HCE:=hide hcell
 have HB:=hide hb
 have HX:Hid (BS g w vb w vb (bs++Pm.encs (zs.take 0))):=hide (by simpa[Pm.encs]using BS.refl hb)
 have HL:=hide hl
 subst hvz
 generalize hn:zs.length=n at*
 have HN:=hide hn
 have hn64:n≤10000000000000:=by omega
 clear hz hp hcell hb hd hl hn hw64
 go_enter func154,ntmps154
 go_wp2
 go_loopw [7] (fun i wr=>∃(k:Nat) (v:Value),k≤n∧i=.int .i64 k∧Hid (BS g w vb wr v (bs++Pm.encs (zs.take k)))) (fun i _=>n-(intOf i).toNat)
 case atStart=>exact⟨0,vb,by omega,rfl,HX⟩
 case round=>
  obtain⟨k,v,hk,rfl,HT⟩:=hrel
  have hbw:=HT.out.buf
  by_cases hlt:k<n
  ·obtain⟨x,hx⟩:=mH (l:=zs) (k:=k) (by have:=HN.out;omega)
   have hxm:=List.mem_of_getElem? hx
   have hx0:=HP.out x hxm
   have hx1:=HW.out x hxm
   have d0:wr.cell? ⟨b1,o1+k,none⟩=some (.int .i64 x):=by
    have h1:=HCE.out k hlt
    rw[List.getD_eq_getElem?_getD,hx]at h1
    rw[World.cell?_of_block (HT.out.stays hB1 hd'.1 hd'.2)]
    exact h1
   have hlt':(k:Int)<n:=by omega
   have cb:wr.cell? ⟨g,0,none⟩=some v:=ai hbw.box 0 rfl
   have hwx:=wrap_u64 hx0 hx1
   have hgl:=hbw.lt
   have hsz:=Vm.lY (x:=x.toNat) (by omega)
   unfold Vm.sz at hsz
   have hlen:(bs++Pm.encs (zs.take k)).length+10≤140737488355328:=by
    have h1:=aiV zs k HW.out
    rw[HN.out]at h1
    have h2:=HL.out
    rw[List.length_append]
    omega
   have HLE:=hide hlen
   have HE:=hide (aln zs k x hx)
   have HBW:=hide hbw
   clear hx hxm hbw hlen
   go_wp2_with fail
   go_region_law (first
    |(refine p9 rfl 155 #[.const (.slice none 0 0),.tmp 13] #[61,212] rfl Tryz.amY #[.slice none 0 0,.int .u64 x] (by simp[Act.eval,Act.put]) ((gL _ [] x _ (Is.nil _ _) (by simp) hx0 hx1).mono (by rintro E w' ⟨v',rfl,h⟩;exact⟨v',rfl,h⟩)) ?_;rintro v4 w4 ⟨bz,ar5⟩;have aL:Below wr.heap.size wr w4:=((Below.refl _ _).drew).trans ar5;have cb4:=(aL.cell (p:=⟨g,0,none⟩) hgl).trans cb;clear ar5)
    |(refine dR rfl (.tmp 11) (.tmp 14) 61 rfl v v4 (by simp[Act.eval]) (by simp[Act.eval]) (fun ty=>iL (P:=prog) 61 ty .u8 5 (g+1) 1 underlying61 Tryz.info5 (by decide) _ _ (HBW.out.own.below aL) _ _ bz.is (by rw[List.nil_append];have:=HLE.out;omega) (by have:=aL.size;omega)) ?_;rintro v5 w5 ⟨dx,gr5,at5⟩;rw[List.nil_append]at dx;obtain⟨a5,l5,n5,hv5⟩:=dx.is.form;subst hv5;obtain⟨hbs,cb5,fr5⟩:=amb HBW.out aL dx gr5 at5;have rM:=hide hbs;clear hbs dx gr5 at5))
   all_goals
    go_wp2
    go_roundw
    case rel=>exact⟨k+1,_,by omega,by go_num,hide (by rw[HE.out,←List.append_assoc];exact HT.out.trans rM.out)⟩
    case measure=>simp[intOf];omega
  ·have hlt':¬(k:Int)<n:=by omega
   have HE:Hid (BS g w vb wr v (bs++Pm.encs zs)):=hide (by
    have:=HT.out
    rw[List.take_of_length_le (by rw[HN.out];omega)]at this
    exact this)
   clear HT hbw
   go_wp2
   go_end0
   exact⟨rfl,v,HE.out⟩
theorem aAc {z:Int}(h:In64 z):(Lit.int .i64 z).wf=true:=by
 unfold In64 at h
 simp[Lit.wf,IntKind.min,IntKind.max,IntKind.bits,IntKind.signed]
 omega
theorem lQ (zs:List Int)(n:Nat)(cs:Array Value)(g:Nat)(vb:Value)(bs:List Int)(w W:World)(hW:w.alloc (.cells cs 3)=W)(hn:zs.length=n)(hcs:cs.toList=zs.map (Value.int .i64))(h0:0<n)(hz:∀z∈zs,0≤z∧z<9223372036854775808)(hb:Buf g w vb bs)(hl:bs.length+10*n≤100000000000000):
  Calls prog 154 #[.slice (some ⟨w.heap.size,0,none⟩) n n,.pointer (some ⟨g,0,none⟩)] W fun E w'=>E=.returned (.tuple #[])∧∃vb',BS g w vb w' vb' (bs++Pm.encs zs):=by
 obtain⟨W',hW',sz,aI,own⟩:=kF .i64 3 w cs n zs hn hcs (by unfold maxLen;omega) (fun z hzz=>aAc ⟨by have:=hz z hzz;omega,by have:=hz z hzz;omega⟩)
 rw[hW]at hW'
 subst hW'
 refine(atn _ zs g vb bs W own.is (by omega) (fun z hzz=>(hz z hzz).1) (hb.below aI) ?_ (by rw[hn];exact hl)).mono ?_
 ·intro b he
  simp[Value.ownBlock]at he
  have:=hb.lt
  refine⟨by omega,fun e=>?_⟩
  have:=(hb.own.2.lt b e).2
  omega
 ·rintro E w' ⟨rfl,vb',h⟩
  exact⟨rfl,vb',(BS.of_below hb aI).trans h⟩
theorem aiI {l:List Sm.S}{k:Nat}{s:Sm.S}(h:l[k]? =some s):Mm.fl (l.take (k+1))=Mm.fl (l.take k)++[s.1,s.2]:=by
 rw[List.take_add_one,h,Mm.yF]
 rfl
theorem aom {l:List Cm.Cv}{k:Nat}{c:Cm.Cv}(h:l[k]? =some c):Fm.cat ((l.take (k+1)).map Mm.cb)=Fm.cat ((l.take k).map Mm.cb)++Fm.dK (Mm.cb c):=by
 rw[List.take_add_one,h,List.map_append]
 exact Mm.nk _ _
theorem jE {l:List Int}(h:∀z∈l,z≤1048576):(Pm.encs l).length≤10*l.length:=(Pm.vI (fun z hz=>by have:=h z hz;omega)).1
theorem aot {l:List Sm.S}{k:Nat}(h:∀z∈Mm.fl l,0≤z∧z≤1048576):(Pm.encs (Mm.fl (l.take k))).length≤20*l.length:=by
 have h1:∀z∈Mm.fl (l.take k),z≤1048576:=fun z hz=>(h z (by
  have:Mm.fl l=Mm.fl (l.take k)++Mm.fl (l.drop k):=by rw[←Mm.yF,List.take_append_drop]
  rw[this]
  exact List.mem_append_left _ hz)).2
 have h2:=jE h1
 rw[Mm.tC]at h2
 have:(l.take k).length≤l.length:=List.length_take_le' _ _
 omega
theorem axw {l:List Sm.S}{k:Nat}{s:Sm.S}(h:l[k]? =some s)(hb:∀z∈Mm.fl l,0≤z∧z≤1048576):(0≤s.1∧s.1≤1048576)∧(0≤s.2∧s.2≤1048576):=by
 have:∀z∈Mm.fl (l.take (k+1)),0≤z∧z≤1048576:=fun z hz=>hb z (by
  have:Mm.fl l=Mm.fl (l.take (k+1))++Mm.fl (l.drop (k+1)):=by rw[←Mm.yF,List.take_append_drop]
  rw[this]
  exact List.mem_append_left _ hz)
 rw[aiI h]at this
 exact⟨this s.1 (by simp),this s.2 (by simp)⟩
theorem amA {c:Cm.Cv}(h:Cm.chk c.e c.n c.l=0):(Fm.dK (Mm.cb c)).length≤440:=by
 have h1:(Mm.cb c).length≤430:=Cm.pK h
 have h2:=Fm.bO (n:=(Mm.cb c).length) (by omega)
 rw[Fm.nA]
 omega
theorem xA:∀{l:List Cm.Cv},(∀c∈l,Cm.chk c.e c.n c.l=0)→(Fm.cat (l.map Mm.cb)).length≤440*l.length
 |[],_=>by simp[Fm.cat]
 |c::r,h=>by
  have h1:=xA (l:=r) (fun d hd=>h d (by simp[hd]))
  have h2:=amA (h c (by simp))
  simp only[List.map_cons,Fm.cat,List.length_append,List.length_cons]
  omega
theorem as8 (m:Mw)(w:World)(hi:ji w m)(hf:bQ m)(hok:Mm.Ok m.m)(hk:m.k=3):
  Calls prog 75 #[mv m] w fun E w'=>∃vb,E=.returned vb∧Own .u8 5 w.heap.size w' vb (Mm.enc m.m)∧Below w.heap.size w w':=by
 obtain⟨hbd,_,_,_,_,_,hk1,hk2,hk3⟩:=Mm.gM hok
 have e1:1≤m.e:=hok.1
 have e2:m.e≤1048576:=hok.2.1
 obtain⟨ao,cap,hvs,_,_⟩:=hi.s.shape
 obtain⟨mM,cap2,dz,_,_⟩:=hi.c.1.shape
 rw[jc hvs dz]
 obtain⟨w1,hw1,aV,aj,hA⟩:=yI w m hvs dz
 obtain⟨w2,hw2,dA,az,hB⟩:=au w1 #[.slice none 0 0] 61
 rw[aV]at hB
 have A2:Hid (gm w2 w.heap.size m):=hide (hA.below az)
 have B2:Hid (Buf (w.heap.size+1) w2 (.slice none 0 0) []):=hide ⟨hB,Own.nil _ _ _ _⟩
 have aO:Below w.heap.size w w2:=aj.trans (az.mono (by omega))
 have HE:Hid (∀W,gm W w.heap.size m→Ei W w.heap.size (.int .i64 m.k) (.int .i64 m.e) (.int .u8 m.r) (.int .i64 m.n) (.slice ao m.ss.length cap) (.int .i64 m.f) (.int .i64 m.p) (.slice mM m.cs.length cap2)):=hide fun W k=>k.mP hvs dz
 obtain⟨c0,c1,c2,c3,c4,c5,c6,c7⟩:=HE.out _ A2.out
 have HI:=hide hi
 have si:=hide hok
 have HBD:=hide hbd
 have jL:=hide hvs
 have jS:=hide dz
 obtain⟨w3,hw3,bO,aC,_⟩:=au w2 #[.int .i64 m.k,.int .i64 m.e] 3
 have C3:=hide (lQ [m.k,m.e] 2 #[.int .i64 m.k,.int .i64 m.e] (w.heap.size+1) _ [] w2 w3 hw3 rfl rfl (by omega) (by intro z hz;simp at hz;omega) B2.out (by simp))
 have kQ:∀(fn:Fn) (first cap:Array Value) (w:World),(Instr.makeFunc fn first cap).run prog w=.ok (.func fn first cap) w:=fun _ _ _ _=>rfl
 have HK:=hide hk
 have hq1:(m.k==1)=false:=by simp;omega
 have hq2:(m.k==2)=false:=by simp;omega
 have hq3:(m.k==3)=true:=by simp[hk]
 rw[dA,aV]at C3
 clear hi hok hbd hvs dz hA hB aj az aC hk
 go_enter func75,ntmps75
 go_wp2_with fail
 refine C3.out.mono ?_
 rintro E w4 ⟨rfl,v4,rJ⟩
 have B4:=hide rJ.buf
 have lq:Below (w.heap.size+1) w2 w4:=rJ.below B2.out
 have iK:=rJ.out.size
 have A4:=hide (A2.out.under lq (by omega))
 clear c0 c1 c2 c3 c4 c5 c6 c7 rJ hw1 hw2 hw3 C3
 obtain⟨c0,c1,c2,c3,c4,c5,c6,c7⟩:=HE.out _ A4.out
 obtain⟨w5,iw,mO,aS,_⟩:=au w4 #[.int .i64 m.n] 3
 have hn:0≤m.n∧m.n≤1048576:=HBD.out m.n (by rw[Mm.sJ (show m.m.k=3 from HK.out)];simp[Mw.m])
 have C5:=hide (lQ [m.n] 1 #[.int .i64 m.n] (w.heap.size+1) _ _ w4 w5 iw rfl rfl (by omega) (by intro z hz;simp at hz;omega) B4.out (by have:=jE (l:=[m.k,m.e]) (by intro z hz;simp at hz;have:=HK.out;omega);simp at this⊢;omega))
 go_wp2_with fail
 refine C5.out.mono ?_
 rintro E w6 ⟨rfl,v6,wh⟩
 have B6:=hide wh.buf
 have l7:Below (w.heap.size+1) w4 w6:=wh.below B4.out
 have zg:Below w.heap.size w w6:=(aO.trans ((lq.trans l7).mono (by omega)))
 have eu:=wh.buf.own.bn (base':=w.heap.size) (by omega)
 have hres:[]++Pm.encs [m.k,m.e]++Pm.encs [m.n]=Mm.enc m.m:=by
  unfold Mm.enc
  rw[Mm.sJ (show m.m.k=3 from HK.out)]
  have:m.m.cs=[]:=by
   rcases si.out.2.2 with⟨k,_⟩|⟨k,_⟩|⟨_,h⟩
   ·have:=HK.out;have:m.k=1:=k;omega
   ·have:=HK.out;have:m.k=2:=k;omega
   ·exact h.2.2.2.2.2.2
  rw[this]
  simp[Pm.encs,Fm.cat,Mw.m]
 rw[hres]at eu
 have cb:w6.cell? ⟨w.heap.size+1,0,none⟩=some v6:=ai B6.out.box 0 rfl
 obtain⟨a6,l6,n6,hv6⟩:=eu.is.form
 subst hv6
 clear hres wh C5 c0 c1 c2 c3 c4 c5 c6 c7 iw
 go_wp2
 go_ret
 exact⟨_,rfl,eu,zg⟩
theorem atN (m:Mw)(w:World)(hi:ji w m)(hf:bQ m)(hok:Mm.Ok m.m)(hk:m.k=1):
  Calls prog 75 #[mv m] w fun E w'=>∃vb,E=.returned vb∧Own .u8 5 w.heap.size w' vb (Mm.enc m.m)∧Below w.heap.size w w':=by
 obtain⟨hbd,_,_,_,_,_,hk1,hk2,hk3⟩:=Mm.gM hok
 have e1:1≤m.e:=hok.1
 have e2:m.e≤1048576:=hok.2.1
 obtain⟨ao,cap,hvs,_,_⟩:=hi.s.shape
 obtain⟨mM,cap2,dz,_,_⟩:=hi.c.1.shape
 rw[jc hvs dz]
 obtain⟨w1,hw1,aV,aj,hA⟩:=yI w m hvs dz
 obtain⟨w2,hw2,dA,az,hB⟩:=au w1 #[.slice none 0 0] 61
 rw[aV]at hB
 have A2:Hid (gm w2 w.heap.size m):=hide (hA.below az)
 have B2:Hid (Buf (w.heap.size+1) w2 (.slice none 0 0) []):=hide ⟨hB,Own.nil _ _ _ _⟩
 have aO:Below w.heap.size w w2:=aj.trans (az.mono (by omega))
 have HE:Hid (∀W,gm W w.heap.size m→Ei W w.heap.size (.int .i64 m.k) (.int .i64 m.e) (.int .u8 m.r) (.int .i64 m.n) (.slice ao m.ss.length cap) (.int .i64 m.f) (.int .i64 m.p) (.slice mM m.cs.length cap2)):=hide fun W k=>k.mP hvs dz
 obtain⟨c0,c1,c2,c3,c4,c5,c6,c7⟩:=HE.out _ A2.out
 have HI:=hide hi
 have si:=hide hok
 have HBD:=hide hbd
 have jL:=hide hvs
 have jS:=hide dz
 obtain⟨w3,hw3,bO,aC,_⟩:=au w2 #[.int .i64 m.k,.int .i64 m.e] 3
 have C3:=hide (lQ [m.k,m.e] 2 #[.int .i64 m.k,.int .i64 m.e] (w.heap.size+1) _ [] w2 w3 hw3 rfl rfl (by omega) (by intro z hz;simp at hz;omega) B2.out (by simp))
 have kQ:∀(fn:Fn) (first cap:Array Value) (w:World),(Instr.makeFunc fn first cap).run prog w=.ok (.func fn first cap) w:=fun _ _ _ _=>rfl
 have HK:=hide hk
 have hq1:(m.k==1)=true:=by simp[hk]
 rw[dA,aV]at C3
 clear hi hok hbd hvs dz hA hB aj az aC hk
 go_enter func75,ntmps75
 go_wp2_with fail
 refine C3.out.mono ?_
 rintro E w4 ⟨rfl,v4,rJ⟩
 have B4:=hide rJ.buf
 have lq:Below (w.heap.size+1) w2 w4:=rJ.below B2.out
 have iK:=rJ.out.size
 have A4:=hide (A2.out.under lq (by omega))
 clear c0 c1 c2 c3 c4 c5 c6 c7 rJ hw1 hw2 hw3 C3
 obtain⟨c0,c1,c2,c3,c4,c5,c6,c7⟩:=HE.out _ A4.out
 obtain⟨w5,iw,mO,aS,_⟩:=au w4 #[.int .i64 m.r,.int .i64 m.n,.int .i64 m.ss.length] 3
 have hd1:=Mm.qj (show m.m.k=1 from HK.out)
 have hn:0≤m.n∧m.n≤1048576:=HBD.out m.n (by rw[hd1];simp[Mw.m])
 have hr:0≤m.r∧m.r≤1048576:=HBD.out m.r (by rw[hd1];simp[Mw.m])
 have hs:(0:Int)≤m.ss.length∧(m.ss.length:Int)≤1048576:=HBD.out m.ss.length (by rw[hd1];simp[Mw.m])
 have hr3:m.r≤3:=(hk1 HK.out).2.2.1
 have hss:∀z∈Mm.fl m.ss,0≤z∧z≤1048576:=fun z hz=>HBD.out z (by rw[hd1];exact List.mem_append_right _ hz)
 have HSS:=hide hss
 have hl4:=jE (l:=[m.k,m.e]) (by intro z hz;simp at hz;have:=HK.out;omega)
 have hl5:=jE (l:=[m.r,m.n,(m.ss.length:Int)]) (by intro z hz;simp at hz;omega)
 simp only[List.length_cons,List.length_nil]at hl4 hl5
 have HL4:=hide hl4
 have HL5:=hide hl5
 have C5:=hide (lQ [m.r,m.n,(m.ss.length:Int)] 3 #[.int .i64 m.r,.int .i64 m.n,.int .i64 m.ss.length] (w.heap.size+1) _ _ w4 w5 iw rfl rfl (by omega) (by intro z hz;simp at hz;omega) B4.out (by rw[List.nil_append];omega))
 have hwr:IntKind.i64.wrap m.r=m.r:=aQ _ (by omega) (by omega)
 obtain⟨P0,hP0⟩:∃l,[]++Pm.encs [m.k,m.e]++Pm.encs [m.r,m.n,(m.ss.length:Int)]=l:=⟨_,rfl⟩
 rw[hP0]at C5
 have HP0:=hide hP0
 have hPl:P0.length≤50:=by rw[←hP0,List.nil_append,List.length_append];omega
 clear hd1 hss hk1 hk2 hk3 hl4 hl5 hP0
 go_wp2_with fail
 refine C5.out.mono ?_
 rintro E w6 ⟨rfl,v6,wh⟩
 have B6:=hide wh.buf
 have l7:Below (w.heap.size+1) w4 w6:=wh.below B4.out
 have jK:=lq.trans l7
 have sP:=jK.size
 have A6:=hide (A2.out.under jK (by omega))
 have RW:Hid (0<m.ss.length→∃b o c,(.slice ao m.ss.length cap:Value)=.slice (some ⟨b,o,none⟩) m.ss.length c∧b<w.heap.size∧∀(i:Nat) (s:Sm.S),m.ss[i]? =some s→w.cell? ⟨b,o+i*2,none⟩=some (.int .i64 s.1)∧w.cell? ⟨b,o+i*2+1,none⟩=some (.int .i64 s.2)):=hide fun h=>by
  obtain⟨b,o,c,h1,_,_,h2,h3⟩:=oh HI.out.s h
  exact⟨b,o,c,by rw[←jL.out];exact h1,h2,h3⟩
 clear c0 c1 c2 c3 c4 c5 c6 c7 wh iw C5 l7 B4 A4
 obtain⟨c0,c1,c2,c3,c4,c5,c6,c7⟩:=HE.out _ A6.out
 have HT0:Hid (Buf (w.heap.size+1) w6 v6 (P0++Pm.encs (Mm.fl (m.ss.take 0)))):=hide (by simpa[Mm.fl,Pm.encs]using B6.out)
 generalize hn':m.ss.length=n at*
 have HN:=hide hn'
 clear hn'
 go_wp2
 go_loopw [37] (fun i wr=>∃(k:Nat) (v:Value),k≤n∧i=.int .i64 k∧Below (w.heap.size+1) w2 wr∧Hid (Buf (w.heap.size+1) wr v (P0++Pm.encs (Mm.fl (m.ss.take k))))) (fun i _=>n-(intOf i).toNat)
 case atStart=>exact⟨0,v6,by omega,rfl,jK,HT0⟩
 case round=>
  obtain⟨k,v,hk,rfl,aI,HT⟩:=hrel
  have sz:=aI.size
  have ky:Below w.heap.size w wr:=aO.trans (aI.mono (by omega))
  by_cases hlt:k<n
  ·obtain⟨b1,o1,x1,hv1,hB1,hc1⟩:=RW.out (by omega)
   simp only[Value.slice.injEq,true_and]at hv1
   obtain⟨rfl,rfl⟩:=hv1
   obtain⟨s,hs'⟩:=mH (l:=m.ss) (k:=k) (by have:=HN.out;omega)
   obtain⟨f0,f1⟩:=hc1 k s hs'
   have d0:=(ky.cell (p:=⟨b1,o1+k*2,none⟩) hB1).trans f0
   have d1:=(ky.cell (p:=⟨b1,o1+k*2+1,none⟩) hB1).trans f1
   obtain⟨hb1,hb2⟩:=axw hs' HSS.out
   have hlt':(k:Int)<n:=by omega
   obtain⟨V,hV,hV2,iy,bg,_,y0,y1⟩:=zt wr 119 (.int .i64 0) (.int .i64 0) (.int .i64 s.1) (.int .i64 s.2)
   have BV:=HT.out.below bg
   obtain⟨U,hU,szU,aau,_⟩:=au V #[.int .i64 s.1,.int .i64 s.2] 3
   have hfb:=aot (k:=k) HSS.out
   rw[HN.out]at hfb
   have CU:=hide (lQ [s.1,s.2] 2 #[.int .i64 s.1,.int .i64 s.2] (w.heap.size+1) _ _ V U hU rfl rfl (by omega) (by intro z hz;simp at hz;omega) BV (by rw[List.length_append];omega))
   have HBV:=hide BV
   have HF:=hide (aiI hs')
   have abb:Below (w.heap.size+1) w2 V:=aI.trans (bg.mono (by omega))
   rw[iy]at CU
   clear hs' f0 f1 hc1 hfb BV aau bg szU
   go_wp2_with fail
   refine CU.out.mono ?_
   rintro E w7 ⟨rfl,v7,bs7⟩
   have iE:Below (w.heap.size+1) w2 w7:=abb.trans (bs7.below HBV.out)
   have HT7:Hid (Buf (w.heap.size+1) w7 v7 (P0++Pm.encs (Mm.fl (m.ss.take (k+1))))):=hide (by
    have:=bs7.buf
    rw[HF.out,Pm.jT,←List.append_assoc]
    exact this)
   clear bs7 CU HBV abb
   go_wp2
   go_roundw
   case rel=>exact⟨k+1,v7,by omega,by go_num,iE,HT7⟩
   case measure=>simp[intOf];omega
  ·have hlt':¬(k:Int)<n:=by omega
   have own:=HT.out.own.bn (base':=w.heap.size) (by omega)
   rw[List.take_of_length_le (by rw[HN.out];omega)]at own
   have hres:P0++Pm.encs (Mm.fl m.ss)=Mm.enc m.m:=by
    unfold Mm.enc
    rw[Mm.qj (show m.m.k=1 from HK.out)]
    have:m.m.cs=[]:=by
     rcases si.out.2.2 with⟨_,h⟩|⟨k,_⟩|⟨k,_⟩
     ·exact h.2.2.2.2.2.2
     ·have:=HK.out;have:m.k=2:=k;omega
     ·have:=HK.out;have:m.k=3:=k;omega
    rw[this,←HP0.out,←HN.out]
    simp[Pm.encs,Fm.cat,Mw.m]
   rw[hres]at own
   have cb:wr.cell? ⟨w.heap.size+1,0,none⟩=some v:=ai HT.out.box 0 rfl
   obtain⟨a6,l6,n6,hv6⟩:=own.is.form
   subst hv6
   clear hres HT
   go_wp2
   go_ret
   exact⟨_,rfl,own,ky⟩
end Go.Proofs.YtlmkaljjocflmaaGreatDoor
