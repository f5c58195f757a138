/- Texts of one layer, one behind the other. -/
import Derived.Test.YtlmkaljjocflmaaGreatDoorAH37
set_option maxRecDepth 100000
set_option maxHeartbeats 8000000
namespace Go.Proofs.YtlmkaljjocflmaaGreatDoor
open Go.RowKit
set_option linter.unusedVariables false
def m0:Ns:=Ns.one 1 2 (jI 1)
def g2:Pm.Pg:=⟨2,1,0,0,0,0⟩
def m1:Ns:=Ns.one 1 2 (Rst.bB m0.s g2).2
theorem avD:Rol.fT m0.s.p m0.s.l.length=0∧Rol.pr m0.s.p m0.s.l.length=g2:=by
 have:Rol.fT m0.s.p m0.s.l.length=0:=by decide
 exact⟨this,by unfold Rol.pr;rw[if_pos this];rfl⟩
theorem wY:(Rst.bB m0.s g2).1=0∧(Rst.bB m0.s g2).2.p=g2∧(Rst.bB m0.s g2).2.l=[]∧Rz 2 (Rst.bB m0.s g2).2∧(Rst.bB m0.s g2).2.d.on=true:=by
 have rz:Rz 1 m0.s:=⟨oI.mono (by decide) (by decide),Nat.zero_le _,aai⟩
 obtain⟨e1,e2,e3,e4,e5,e6⟩:=Rst.arv (Rst.aja (fst 1) (by decide)) (s:=m0.s) rfl (q:=g2) (by decide) (by decide)
 exact⟨e1,e3,e4,aud rz g2,e2.on⟩
theorem avz:m0.jK [oa]=11∧m0.co [oa]=m0:=by
 have hb:m0.bar [oa]=11:=by decide
 unfold Ns.jK Ns.co
 rw[hb]
 exact⟨rfl,rfl⟩
theorem avR:iV m0.s∧iV m1.s∧T3 m1.s.d:=⟨abX 1,⟨wY.2.2.2.1.1.mono (by omega) (by omega),by show(Rst.bB m0.s g2).2.l.length≤_;rw[wY.2.2.1];simp⟩,wY.2.2.2.1.2.2⟩
theorem avr:Rol.fT m1.s.p m1.s.l.length=10:=by
 show Rol.fT (Rst.bB m0.s g2).2.p (Rst.bB m0.s g2).2.l.length=10
 rw[wY.2.1,wY.2.2.1]
 decide
def n3:Ns:=n2.kE 0 (kI 1 1)
theorem avI:fA 3 n3 1 0∧n3.a=1∧n3.s=n2.s∧n3.jK [od]=0∧gp (Sto.fold (Rst.gK (n3.co [od]).s)) ⟨#[99]⟩=false∧fA 4 (n3.co [od]) 1 0:=by
 obtain⟨e1,p1,_⟩:=cha.p2.kE (k:=1) (by omega) (by omega)
 have e1:n3=_:=e1
 have p1:fA 3 n3 1 0:=p1
 have s3:n3.s=n2.s:=by rw[e1]
 have t3:n3.t=2:=by rw[e1];exact cha.t2
 have a3:n3.a=1:=by
  rw[e1]
  show bg.kV n2.s.l.length n2.a (max n2.k 1)=1
  rw[cha.l2,cha.a2,cha.k2]
  decide
 have b3:n3.bar [od]=0:=by
  rw[p1.bar (by omega),if_neg (by rw[ahk.2.2];simp),s3,cha.l2,a3,t3]
  rfl
 obtain⟨y1,y2,y3,_,_,_,_,y8⟩:=p1.yes (by omega) b3
 refine⟨p1,a3,s3,y1,?_,y2⟩
 rw[y8,s3,cha.f2]
 rfl
theorem aby (w:World)(hm:fC w):Calls Tryz.prog 4 #[] w fun E w'=>E=.returned (.bool true)∧Below w.heap.size w w':=by
 have HM:=hide hm
 have NW:=hide (q9 w)
 have CH:=hide cha
 have FO:=hide agx
 have N3:=hide avI
 have MM:=hide (And.intro avD (And.intro wY (And.intro avz (And.intro avR avr))))
 clear hm
 go_enter Tryz.func4,Tryz.ntmps4
 go_wp2_with fail
 refine NW.out.mono ?_
 rintro E w1 ⟨rfl,K1,B1⟩
 have OP:=hide (aeS (w0:=w) 0 2 (.inl rfl) (by decide) HM.out w1 (Nat.le_refl _) K1 B1)
 obtain⟨q,hq⟩:∃q,w.heap.size=q:=⟨_,rfl⟩
 rw[hq]at OP⊢
 clear NW K1 B1
 go_wp2_with fail
 refine OP.out.mono ?_
 rintro E w2 ⟨n,p,F,rfl,L2⟩
 have L2:Hid (Nl w w2 n p q F n0):=L2
 have NW:=hide (q9 w2)
 clear OP
 go_wp2_with fail
 refine NW.out.mono ?_
 rintro E w3 ⟨rfl,K3,B3⟩
 have L3:=L2.out.below B3
 have OP:=hide (aeS (w0:=w2) 1 2 (.inr rfl) (by decide) L2.out.nd.st.gu w3 (Nat.le_refl _) K3 B3)
 have J3:Hid (∀w4 n' p' F',Nl w2 w4 n' p' w2.heap.size F' m0→N2 w w4 n p q F n0 n' p' w2.heap.size F' m0):=hide fun w4 n' p' F' k=>by
  have hs:=L2.out.aK.size
  exact⟨L2.out.below k.aK,⟨k.nd,fun g e=>by have:=k.new g e;omega,L2.out.aK.trans (k.aK.mono hs)⟩,fun g e c=>by have:=L2.out.nd.lt g e;have:=(k.new g c).1;omega⟩
 obtain⟨q2,hq2⟩:∃q,w2.heap.size=q:=⟨_,rfl⟩
 rw[hq2]at OP J3⊢
 clear NW K3 B3 L2 L3 hq2
 go_wp2_with fail
 refine OP.out.mono ?_
 rintro E w4 ⟨n',p',F',rfl,L4⟩
 have J4:=hide (J3.out w4 n' p' F' L4.out)
 have LI:=hide (afQ w4 J4.out.a.nd.st.gu)
 clear OP J3 L4
 go_wp2_with fail
 refine LI.out.mono ?_
 rintro E w5 ⟨rfl,b5⟩
 have J5:=hide (J4.out.below b5)
 have PT:=hide (mR ⟨#[97]⟩ ⟨#[49]⟩ w5)
 clear LI J4 b5
 go_wp2_with fail
 refine PT.out.mono ?_
 rintro E w6 ⟨rfl,b6⟩
 have J6:=hide (J5.out.below b6)
 obtain⟨V,hV,AD⟩:=kP J6.out.a CH.out.p0 (by omega) oa FO.out.1
 rw[CH.out.e0,if_pos rfl,CH.out.l0]at AD
 simp only[oa]at hV
 clear PT J5 b6
 go_wp2_with fail
 refine AD.out.mono ?_
 rintro E w7 ⟨rfl,K7⟩
 obtain⟨F7,J7⟩:=J6.out.step K7
 have J7:Hid (N2 w w7 n p q F7 n1 n' p' q2 F' m0):=hide J7
 have PT:=hide (mR ⟨#[98]⟩ ⟨#[50]⟩ w7)
 clear AD hV J6 K7
 go_wp2_with fail
 refine PT.out.mono ?_
 rintro E w8 ⟨rfl,b8⟩
 have J8:=hide (J7.out.below b8)
 obtain⟨V8,hV8,AD⟩:=kP J8.out.a CH.out.p1 (by omega) ob FO.out.2.1
 rw[CH.out.e1,if_pos rfl,CH.out.l1]at AD
 simp only[ob]at hV8
 clear PT J7 b8
 go_wp2_with fail
 refine AD.out.mono ?_
 rintro E w9 ⟨rfl,K9⟩
 obtain⟨F9,J9⟩:=J8.out.step K9
 have J9:Hid (N2 w w9 n p q F9 n2 n' p' q2 F' m0):=hide J9
 have EN:=hide (af6 ⟨3,1,0,1,.slice none 0 0,[],0,0,.slice none 0 0,[]⟩ (Mm.enc (kI 1 1)) 0 w9 ⟨iA.nil _ _,iy.nil _⟩ ⟨by simp[In64],by simp[In64],by simp,by simp,by simp[In64],by simp[In64],by simp[In64],by simp,fun c hc=>by simp at hc,by simp⟩ (.inl ⟨rfl,aek (by decide) (by decide),rfl⟩))
 unfold mv at EN
 clear AD hV8 J8 K9
 go_wp2_with fail
 refine EN.out.mono ?_
 rintro E wa ⟨vb,rfl,Ob,ba⟩
 have Ja:=hide (J9.out.below ba)
 have RC:=at0 Ja.out.a.nd CH.out.p2 (by omega) (by rw[CH.out.k2];simp[In64]) (k:=1) (by decide) vb Ob.is (aqv (by decide) (by decide))
 obtain⟨xo,xn,xc,hvb⟩:∃a n k,vb=.slice a n k:=by
  obtain⟨a,k,e,_,_⟩:=Ob.is.shape
  exact⟨_,_,_,e⟩
 subst hvb
 have RC:=hide RC
 clear EN J9 ba Ob
 go_wp2_with fail
 refine RC.out.mono ?_
 rintro E wb ⟨rfl,Kb⟩
 obtain⟨Fb,Jb⟩:=Ja.out.step Kb
 have Jb:Hid (N2 w wb n p q Fb n3 n' p' q2 F' m0):=hide Jb
 have OU:=hide (adY n p q Fb wb n3 Jb.out.a.nd (N3.out.1.rok (by omega)) (by rw[N3.out.1.pg]))
 rw[N3.out.1.out (by omega),N3.out.2.1,N3.out.2.2.1,CH.out.l2]at OU
 clear RC Ja Kb
 go_wp2_with fail
 refine OU.out.mono ?_
 rintro E wc ⟨rfl,bc⟩
 have Jc:=hide (Jb.out.below bc)
 obtain⟨Vc,hVc,AD⟩:=kP Jc.out.a N3.out.1 (by omega) od FO.out.2.2
 rw[N3.out.2.2.2.1,if_pos rfl,N3.out.2.2.1,CH.out.l2]at AD
 simp only[od]at hVc
 clear OU Jb bc
 go_wp2_with fail
 refine AD.out.mono ?_
 rintro E wd ⟨rfl,Kd⟩
 obtain⟨Fd,Jd⟩:=Jc.out.step Kd
 have Jd:=hide Jd
 have RD:=hide (acD n p q Fd wd _ Jd.out.a.nd (N3.out.2.2.2.2.2.rok (by omega)) N3.out.2.2.2.2.2.on (N3.out.2.2.2.2.2.rd (by omega)) ⟨#[99]⟩ (by decide))
 rw[N3.out.2.2.2.2.1]at RD
 generalize gv (Sto.fold (Rst.gK (n3.co [od]).s)) ⟨#[99]⟩=gvv at RD
 clear AD hVc Jc Kd
 go_wp2_with fail
 refine RD.out.mono ?_
 rintro E we ⟨rfl,be⟩
 have Je:=hide (Jd.out.below be)
 have PT:=hide (mR ⟨#[97]⟩ ⟨#[49]⟩ we)
 clear RD Jd be
 go_wp2_with fail
 refine PT.out.mono ?_
 rintro E wf ⟨rfl,bf⟩
 have Jf:=hide (Je.out.below bf).swap
 obtain⟨V9,hV9,sz9,nE,uP⟩:=sO 71 wf #[.bool true,.string ⟨#[97]⟩,.string ⟨#[49]⟩] 1 [oa] rfl rfl (by simp[maxLen])
 have J9:=hide (Jf.out.below nE)
 have AD:=yg n' p' q2 F' V9 m0 J9.out.a.nd MM.out.2.2.2.1.1 aai J9.out.a.n0 rfl _ [oa] (fun W hW=>by
  have k:bu 71 wf.heap.size W (.slice (some ⟨wf.heap.size,0,none⟩) 1 1) [oa]:=dw uP fun g hg=>hW.block g (World.ownsRow.lt uP g hg).2 fun e=>by
   have a1:=(World.ownsRow.lt uP g hg).1
   have a2:=Jf.out.a.nd.lt g (.inl e)
   omega
  exact k.is) FO.out.1 (by simp) (by simp[In64,m0,Ns.one,jI];decide) (by rw[MM.out.2.2.1.1];simp)
 rw[MM.out.2.2.1.1,MM.out.2.2.1.2,if_neg (by simp)]at AD
 have AD:=hide AD
 clear PT Je bf nE uP sz9
 go_wp2_with fail
 refine AD.out.mono ?_
 rintro E wg ⟨rfl,Kg⟩
 obtain⟨Fg,Jg⟩:=J9.out.step Kg
 have Jg:=hide Jg
 have PR:=vC n' p' q2 Fg wg m0 Jg.out.a.nd MM.out.2.2.2.1.1 aai Jg.out.a.n0 rfl (fun _=>by rw[MM.out.1.2];exact⟨MM.out.2.1.1,MM.out.2.2.2.1.2.1⟩)
 rw[MM.out.1.1,MM.out.1.2,if_pos rfl,if_pos rfl]at PR
 have PR:Hid (Calls Tryz.prog 34 #[.pointer (some ⟨n',0,none⟩)] wg fun E w'=>E=.returned (.tuple #[.int .i64 2,.int .i64 0])∧dA n' p' q2 Fg wg w' m1):=hide PR
 clear AD hV9 J9 Jf Kg
 go_wp2_with fail
 refine PR.out.mono ?_
 rintro E wh ⟨rfl,Kh⟩
 obtain⟨Fh,Jh⟩:=Jg.out.step Kh
 have Jh:=hide Jh
 have PR:=vC n' p' q2 Fh wh m1 Jh.out.a.nd MM.out.2.2.2.1.2.1 MM.out.2.2.2.1.2.2 Jh.out.a.n0 MM.out.2.1.2.2.2.2 (fun k=>by rw[MM.out.2.2.2.2]at k;cases k)
 rw[MM.out.2.2.2.2,if_neg (by simp),if_neg (by simp)]at PR
 have PR:=hide PR
 clear Jg Kh
 go_wp2_with fail
 refine PR.out.mono ?_
 rintro E wi ⟨rfl,Ki⟩
 obtain⟨Fi,Ji⟩:=Jh.out.step Ki
 have BI:=hide Ji.a.aK
 have NW:=hide (q9 wi)
 clear PR Jh Ki Ji
 go_wp2_with fail
 refine NW.out.mono ?_
 rintro E wj ⟨rfl,Kj,bj⟩
 have OP:=hide (ajG wi.heap.size 17 wj (by omega) Kj)
 have HJ:=hide (And.intro BI.out.size bj)
 obtain⟨q3,hq3⟩:∃q,wi.heap.size=q:=⟨_,rfl⟩
 rw[hq3]at OP⊢
 clear NW Kj bj
 go_wp2_with fail
 refine OP.out.mono ?_
 rintro E wk ⟨rfl,ok⟩
 have BK:Hid (Below w.heap.size w wk):=hide (by
  obtain⟨z1,z2⟩:=HJ.out
  have:=z2.size
  exact(BI.out.trans (z2.mono z1)).trans (ok.below (fun g e=>by omega) (by omega)))
 have NW:=hide (q9 wk)
 clear OP ok HJ BI hq3
 go_wp2_with fail
 refine NW.out.mono ?_
 rintro E wl ⟨rfl,Kl,bl⟩
 have OP:=hide (aom wk.heap.size 1 wl Kl)
 have HJ:=hide (And.intro BK.out.size bl)
 obtain⟨q4,hq4⟩:∃q,wk.heap.size=q:=⟨_,rfl⟩
 rw[hq4]at OP⊢
 clear NW Kl bl
 go_wp2_with fail
 refine OP.out.mono ?_
 rintro E wm ⟨rfl,om⟩
 have BM:Hid (Below w.heap.size w wm):=hide (by
  obtain⟨z1,z2⟩:=HJ.out
  have:=z2.size
  exact(BK.out.trans (z2.mono z1)).trans (om.below (fun g e=>by omega) (by omega)))
 have OP:=hide (ano 0 1 wm (.pointer none) (.inl rfl))
 clear om HJ BK hq4
 go_wp2_with fail
 refine OP.out.mono ?_
 rintro E wn ⟨rfl,bn⟩
 have BN:=hide (BM.out.trans (bn.mono BM.out.size))
 clear OP BM bn
 go_wp2
 go_ret
 exact⟨rfl,BN.out⟩
end Go.Proofs.YtlmkaljjocflmaaGreatDoor
