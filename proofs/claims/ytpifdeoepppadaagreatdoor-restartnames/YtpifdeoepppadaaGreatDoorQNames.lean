/- Proved: the worked examples of the chapter on opening a disk come out as they are written. Its condition: the start, in which the variable page.most holds what its text lays (a card). -/
import Derived.Test.YtpifdeoepppadaaGreatDoorH19
import Derived.Test.YtpifdeoepppadaaGreatDoorH23
import Derived.Test.YtpifdeoepppadaaGreatDoorH21
import Derived.Test.YtpifdeoepppadaaGreatDoorH33
import Derived.Test.YtpifdeoepppadaaGreatDoorH28
import Derived.Test.YtpifdeoepppadaaGreatDoorH25
import Derived.Test.YtpifdeoepppadaaGreatDoorCards
import Derived.Test.YtpifdeoepppadaaGreatDoorTie
import Derived.Deep.DeepHandedRow
import Derived.Lib.LaidTab
import Derived.Shelf.LaysM
import Derived.Test.YtpifdeoepppadaaGreatDoorRows
import Derived.ProofKit
import Derived.OpenShut
import Derived.ShutString
import Derived.ChangeOld
import Derived.Below
import Derived.SizedLaws
import Derived.Test.YtpifdeoepppadaaGreatDoorH24
set_option maxRecDepth 100000
set_option maxHeartbeats 8000000
namespace Go.Proofs.YtpifdeoepppadaaGreatDoor
open Go.RowKit
set_option linter.unusedVariables false
theorem ajX (g2 g3 p:Nat)(w:World)(u r:Int)(h2:w.cell? ⟨g2,0,none⟩=some (.pointer (some ⟨p,0,none⟩)))(h3:w.cell? ⟨g3,0,none⟩=some (.int .i64 u))(hs:Calls Tryz.prog 64 #[.pointer (some ⟨p,0,none⟩),.int .i64 u] w fun E w'=>E=.returned (.int .i64 r)∧w=w'):
  Calls Tryz.prog 69 #[.pointer (some ⟨g2,0,none⟩),.pointer (some ⟨g3,0,none⟩)] w fun E w'=>E=.returned (.int .i64 r)∧w=w':=by
 have PC:=hide hs
 clear hs
 go_enter Tryz.func69,Tryz.ntmps69
 go_wp2_with fail
 refine PC.out.mono ?_
 rintro E w' ⟨rfl,rfl⟩
 go_wp2
 go_ret
 exact⟨rfl,rfl⟩
theorem alq (p q:Nat)(F:Nat→Prop)(w:World)(s:Rst.St)(h:PS p q F w s)(hR:yf s)(h3:T3 s.d∧¬F 0)(u:Int)(hu:In64 u)(hx:u<Cm.lastN 0 s.r∨(s.l.length:Int)<u):Calls Tryz.prog 13 #[.pointer (some ⟨p,0,none⟩),.int .i64 u] w fun E w'=>E=.returned (.int .i64 (Rst.lX s u).1)∧iA p q F w w' (Rst.lX s u).2:=by
 have qf:∀(fn:Fn) (first cap:Array Value) (w:World),(Instr.makeFunc fn first cap).run Tryz.prog w=.ok (.func fn first cap) w:=fun _ _ _ _=>rfl
 obtain⟨w1,hw1,s1,b1,P1⟩:=ay w #[.pointer (some ⟨p,0,none⟩)] 25
 obtain⟨w2,hw2,s2,b2,P2⟩:=ay w1 #[.int .i64 u] 3
 obtain⟨w3,hw3,s3,b3,P3⟩:=ay w2 #[.func (.func 51) #[.pointer (some ⟨p,0,none⟩)] #[],.func (.func 69) #[] #[.pointer (some ⟨w.heap.size,0,none⟩),.pointer (some ⟨w.heap.size+1,0,none⟩)],.func (.func 70) #[] #[.pointer (some ⟨w.heap.size,0,none⟩),.pointer (some ⟨w.heap.size+1,0,none⟩)],.func (.func 72) #[] #[.pointer (some ⟨w.heap.size,0,none⟩),.pointer (some ⟨w.heap.size+1,0,none⟩)],.func (.func 49) #[.pointer (some ⟨p,0,none⟩)] #[]] 134
 have z2:w2.heap.size=w.heap.size+2:=by omega
 have z3:w3.heap.size=w.heap.size+3:=by omega
 rw[s1]at P2
 rw[z2]at P3
 have fH:Below w.heap.size w w3:=(b1.trans (b2.mono (by omega))).trans (b3.mono (by omega))
 have c2:w2.cell? ⟨w.heap.size,0,none⟩=some (.pointer (some ⟨p,0,none⟩)):=ai ((b2.block _ (by omega)).trans P1) 0 rfl
 have t3:=(b3.block _ (by omega)).trans ((b2.block _ (by omega)).trans P1)
 have u3:=(b3.block _ (by omega)).trans P2
 have qY:=h.below fH
 have RUN:Run (w.heap.size+2) (QS p q F w (Rst.lX s u)) [.func (.func 51) #[.pointer (some ⟨p,0,none⟩)] #[],.func (.func 69) #[] #[.pointer (some ⟨w.heap.size,0,none⟩),.pointer (some ⟨w.heap.size+1,0,none⟩)],.func (.func 70) #[] #[.pointer (some ⟨w.heap.size,0,none⟩),.pointer (some ⟨w.heap.size+1,0,none⟩)],.func (.func 72) #[] #[.pointer (some ⟨w.heap.size,0,none⟩),.pointer (some ⟨w.heap.size+1,0,none⟩)],.func (.func 49) #[.pointer (some ⟨p,0,none⟩)] #[]] w3:=by
  refine wU qY (iA.same h fH) (fun k=>by unfold Rst.lX;rw[if_pos k]) fun gu=>?_
  have hon:s.d.on=true:=by
   unfold Rst.asked at gu
   revert gu
   cases s.d.on<;>simp
  have hoff:s.off=false:=by
   unfold Rst.asked at gu
   revert gu
   cases s.off<;>simp
  obtain⟨F1,G,h1,⟨pw,pr,ps,Gw,Gr,Gs,lw,bw,br,V,rfl⟩,hd,hm,rfl⟩:=qY
  obtain⟨rfl,rfl,rfl⟩:=V.live hoff
  refine Run.cons (enters_of Tryz.func69 (by kernel_rfl) rfl) (by simp) ((ajX _ _ p w3 u _ (ai t3 0 rfl) (ai u3 0 rfl) (aat p pr q _ w3 _ u _ (ai V.blk 11 rfl) (ai V.blk 9 rfl) (V.rw h1))).mono ?_)
  rintro E w4 ⟨rfl,rfl⟩
  refine⟨_,rfl,rfl,?_⟩
  rw[if_pos hx]
  exact .inl ⟨by decide,QS.no (s1:=s) (by unfold Rst.lX;rw[if_neg (by simp[gu]),if_pos hx]) (by decide) (iA.same h fH)⟩
 have HC:=hide (zo (n:=5) rfl (by omega) P3 RUN)
 generalize Rst.lX s u=r at*
 clear RUN h hR h3 hx hu b1 b2 b3 P1 P2 P3 s2 s3 z3 fH t3 u3 qY
 go_enter Tryz.func13,Tryz.ntmps13
 go_wp2_with fail
 refine HC.out.mono ?_
 rintro E w' ⟨rfl,X⟩
 have X:=hide X
 clear HC
 go_wp2
 go_ret
 exact⟨rfl,X.out⟩
theorem al9 (q:Nat)(F:Nat→Prop)(w:World)(st:Dm.Ds)(node:Int)(h:Pk q F w st)(hm:ib w)(h0:¬F 0)(hB:Big 50000000 500000 st)(hn:node=0∨node=1)(ho:st.on=false):
  Calls Tryz.prog 9 #[.pointer (some ⟨q,0,none⟩),.int .i64 node] w fun E w'=>E=.returned (.tuple #[.pointer none,.int .i64 6])∧Out F w w':=by
 obtain⟨_,fe⟩:=abD hn
 refine(aa2 q F w st node h hm h0 hB (fun P e W=>e=6∧Out F w W) ?_).mono ?_
 ·intro F2 w5 n0 P e1 I5 hP hn0 c1 c2 c3
  have nP:P=n0∨P=P∨P=P+1∨P=P+2:=.inr (.inl rfl)
  refine Run.cons (enters_of Tryz.func39 (by kernel_rfl) rfl) (by simp) ((yl n0 node w5 (ai c1 0 rfl)).mono ?_)
  rintro E W1 ⟨rfl,b1⟩
  have I1:=I5.below h0 hm.pos hP hn0 b1
  refine⟨_,rfl,b1.block _ (I5.nb _ (.inr (.inr (.inr rfl)))).2,.inr ⟨fe,?_⟩⟩
  refine Run.cons (enters_of Tryz.func41 (by kernel_rfl) rfl) (by simp) ((aaw P q F2 W1 st Pm.no _ _ I1.qR (hB.mono (by decide) (by decide)) ((b1.block P (I5.nb P nP).2).trans c3) (I1.nb P nP).1).mono ?_)
  rintro E W2 ⟨m2,rfl,HL,⟨F3,k1,k2,k3⟩,hok⟩
  have I2:=I1.step h0 hm.pos hP hn0 k1 k2 k3
  have eE:gP st m2=6:=by unfold gP;rw[if_pos ho]
  rw[eE]
  exact⟨_,rfl,k2.block _ (I1.nb _ (.inr (.inr (.inr rfl)))).2 (fun e=>e.elim (I1.nb _ (.inr (.inr (.inr rfl)))).1 (by omega)),.inl ⟨by decide,I2.keep _ (.inr (.inl rfl)),rfl,I2.out⟩⟩
 ·rintro E w' ⟨P,e,HX,hE⟩
  obtain⟨rfl,o⟩:=HX.out
  rcases hE with⟨_,rfl⟩|⟨he,_⟩
  ·exact⟨rfl,o⟩
  ·exact absurd he (by decide)
theorem amE (q:Nat)(F:Nat→Prop)(w:World)(st:Dm.Ds)(node:Int)(h:Pk q F w st)(hm:ib w)(h0:¬F 0)(hB:Big 50000000 500000 st)(hn:¬(node=0∨node=1)):
  Calls Tryz.prog 9 #[.pointer (some ⟨q,0,none⟩),.int .i64 node] w fun E w'=>E=.returned (.tuple #[.pointer none,.int .i64 2])∧Out F w w':=by
 have fe:uT node=2:=by
  unfold uT
  rw[if_neg (fun e=>hn (.inl e)),if_neg (fun e=>hn (.inr e))]
 refine(aa2 q F w st node h hm h0 hB (fun P e W=>e=2∧Out F w W) ?_).mono ?_
 ·intro F2 w5 n0 P e1 I5 hP hn0 c1 c2 c3
  refine Run.cons (enters_of Tryz.func39 (by kernel_rfl) rfl) (by simp) ((yl n0 node w5 (ai c1 0 rfl)).mono ?_)
  rintro E W1 ⟨rfl,b1⟩
  have I1:=I5.below h0 hm.pos hP hn0 b1
  rw[fe]
  exact⟨_,rfl,b1.block _ (I5.nb _ (.inr (.inr (.inr rfl)))).2,.inl ⟨by decide,I1.keep _ (.inr (.inl rfl)),rfl,I1.out⟩⟩
 ·rintro E w' ⟨P,e,HX,hE⟩
  obtain⟨rfl,o⟩:=HX.out
  rcases hE with⟨_,rfl⟩|⟨he,_⟩
  ·exact⟨rfl,o⟩
  ·exact absurd he (by decide)
end Go.Proofs.YtpifdeoepppadaaGreatDoor
namespace Go.Proofs.YtpifdeoepppadaaGreatDoor
set_option linter.unusedVariables false
def ly:Rst.St:=(Rst.aR qa 1).2
theorem ajm:Rst.aZ qa=⟨⟨qa.d,[],false⟩,[c11]⟩:=by
 obtain⟨_,h2,_,h4,h5,_⟩:=vg
 show Rst.aZ (Rst.add kK [c11]).2=_
 unfold Rst.aZ
 rw[h4,h5,h2.off]
 rfl
theorem ql:(Rst.aR qa 1).1=0∧Rst.In z0 ly [] []∧ly.p=z0∧ly.l=[c11]∧Cm.lastN 0 ly.r=1∧ly.d.has=false:=by
 obtain⟨_,h2,h3,h4,h5,h6⟩:=vg
 have:=Rst.anR (s:=qa) (u:=1) h2 h6 (by show Cm.lastN 0 (Rst.add kK [c11]).2.r<1;rw[h5];decide) (by show 1≤((Rst.add kK [c11]).2.l.length:Int);rw[h4];decide) (by
  show Rst.snd (Rst.add kK [c11]).2.p (Rst.add kK [c11]).2.l 1 _=true
  rw[h3,h4]
  exact Rst.pG (by decide) (by decide) (by decide) (by decide) rfl) (by rw[ajm];decide)
 obtain⟨k1,k2,k3,k4,k5,k6⟩:=this
 refine⟨k1,k2,k3.trans h3,k4.trans h4,?_,k6⟩
 show Cm.lastN 0 (Rst.aR qa 1).2.r=1
 rw[k5,Rl.dX]
 rfl
theorem afB:Rz 3 ly:=abZ afs.1 1
theorem anG:gv (Sto.fold (Rst.aZ ly)) ⟨#[97]⟩=⟨#[49]⟩∧gp (Sto.fold (Rst.aZ ly)) ⟨#[97]⟩=true:=by
 have e:Sto.fold (Rst.aZ ly)=Sto.fold (Rst.aZ qa):=Rst.aaQ vg.2.1 1
 rw[e,ajm]
 exact⟨by rfl,by rfl⟩
theorem apI:Rst.lX ly 0=(2,ly):=by
 obtain⟨_,h2,h3,h4,h5,h6⟩:=ql
 unfold Rst.lX
 rw[if_neg (by rw[h2.ask];simp),if_pos (.inl (by rw[h5];decide))]
theorem avh:Rst.bQ ly ⟨1,1,2,0,0,0⟩=(5,ly):=by
 obtain⟨_,h2,h3,h4,h5,h6⟩:=ql
 unfold Rst.bQ
 rw[if_neg (by rw[h2.ask];simp),if_neg (by rw[Pm.iD (av7 (by decide) (by decide) (by decide) (by decide))];simp),h2.fine,h4,h5,if_pos (by decide)]
theorem auK:Rst.bQ ly ⟨0,0,0,0,0,0⟩=(2,ly):=by
 obtain⟨_,h2,_⟩:=ql
 have hc:Pm.aJ ⟨0,0,0,0,0,0⟩=2:=Pm.iW fun h=>by have h1:(1:Int)≤0:=h.1.1;omega
 unfold Rst.bQ
 rw[if_neg (by rw[h2.ask];simp),if_pos (by rw[hc];decide),hc]
theorem aun:Rst.add ly [⟨2,2,[sO]⟩]=(5,ly):=by
 obtain⟨_,h2,h3,h4,h5,h6⟩:=ql
 have hf:(Cm.fol (Cm.lastE 0 ly.l) ly.l.length 0 [⟨2,2,[sO]⟩]).1=0:=by
  rw[h4]
  exact(Cm.il _ _ _ 0).2 ⟨zC (by decide),by decide,by decide,trivial⟩
 unfold Rst.add
 rw[if_neg (by rw[h2.ask];simp),if_neg (by rw[hf];simp),h2.fine,h3,h4,h5,if_pos (by decide)]
theorem ap1:Rst.add ly [⟨1,3,[sO]⟩]=(15,ly):=by
 obtain⟨_,h2,h3,h4,h5,h6⟩:=ql
 have hf:(Cm.fol (Cm.lastE 0 ly.l) ly.l.length 0 [⟨1,3,[sO]⟩]).1=15:=by
  rw[h4]
  decide
 unfold Rst.add
 rw[if_neg (by rw[h2.ask];simp),if_pos (by rw[hf];decide),hf]
def lyp:Rst.St:=⟨(Dm.pull ly.d).2,ly.p,ly.l,ly.r,ly.off⟩
theorem vD:(Dm.pull ly.d).1=0∧lyp.d.on=false∧(∀cs,(Rst.add lyp cs).1=6∧(Rst.add lyp cs).2.d=lyp.d)∧Rz 3 lyp:=by
 obtain⟨_,h2,_⟩:=ql
 have hp:Dm.pull ly.d=(0,(Dm.pull ly.d).2)∧(Dm.pull ly.d).2.on=false:=by
  unfold Dm.pull
  rw[if_neg (by simp[h2.on])]
  exact⟨rfl,rfl⟩
 refine⟨by rw[hp.1],hp.2,fun cs=>?_,⟨aot afB.1,afB.2.1,afA afB.2.2 (by show Rst.hf 3 (Dm.pull ly.d).2=_;unfold Dm.pull;split<;>rfl)⟩⟩
 have ha:Rst.asked lyp=true:=by
  unfold Rst.asked
  rw[show lyp.d.on=false from hp.2]
  simp
 unfold Rst.add
 rw[if_pos ha]
 exact⟨rfl,rfl⟩
end Go.Proofs.YtpifdeoepppadaaGreatDoor
namespace Go.Proofs.YtpifdeoepppadaaGreatDoor
open Go.RowKit
set_option linter.unusedVariables false
theorem aab (w:World)(hm:ib w):Calls Tryz.prog 3 #[] w fun E w'=>E=.returned (.bool true)∧Below w.heap.size w w':=by
 have HM:=hide hm
 have h0:=hm.pos
 have LI:=hide (om w hm)
 have E0:Hid ((Rst.add kK [⟨1,1,[sO]⟩]).1=0∧(Rst.add kK [⟨1,1,[sO]⟩]).2=qa∧(Rst.aR qa 1).1=0∧(Rst.aR qa 1).2=ly):=hide ⟨vg.1,rfl,ql.1,rfl⟩
 have R1:=hide afs.1
 have RY:=hide afB
 have IY:=hide ql.2.1
 have CF:Hid (∀e n:Int,1≤e∧e≤1048576∧1≤n∧n≤1048576→adH e n [sO]):=hide fun e n h=>adm (zC h)
 clear hm
 go_enter Tryz.func3,Tryz.ntmps3
 go_wp2_with fail
 refine LI.out.mono ?_
 rintro E w1 ⟨rfl,B1⟩
 have B1:=hide B1
 have NW:=hide (uO w1)
 clear LI
 go_wp2_with fail
 refine NW.out.mono ?_
 rintro E w2 ⟨rfl,K2,B2⟩
 have OP:=hide (vP w1 (HM.out.below B1.out) 0 (.inl rfl) w1.heap.size (Nat.le_refl _) w2 K2 B2)
 have h1:0<w1.heap.size:=by have:=B1.out.size;omega
 obtain⟨q,hq⟩:∃q,w1.heap.size=q:=⟨_,rfl⟩
 rw[hq]at OP⊢
 clear NW K2 B2 hq
 go_wp2_with fail
 refine OP.out.mono ?_
 rintro E w3 ⟨p,F,rfl,L3⟩
 have L3:Hid (Lv w1 w3 p q F kK):=hide L3
 have PT:=hide (mf 1 1 w3)
 clear OP
 go_wp2_with fail
 refine PT.out.mono ?_
 rintro E w4 ⟨a,k,rfl,O4,B4⟩
 obtain⟨V,hV,AD⟩:=ab0 L3.out yP (by omega) O4 B4 (CF.out 1 1 (by decide))
 rw[E0.out.1,E0.out.2.1]at AD
 clear PT O4 B4 L3
 go_wp2_with fail
 refine AD.out.mono ?_
 rintro E w5 ⟨rfl,F5,L5⟩
 have FL:=hide (axw L5 R1.out (by omega) 1 (by simp[In64]))
 rw[E0.out.2.2.1,E0.out.2.2.2]at FL
 clear AD L5 hV
 go_wp2_with fail
 refine FL.out.mono ?_
 rintro E w6 ⟨rfl,F6,L6⟩
 have SH:=hide (alq p q F6 w6 ly L6.st (dD RY.out (by omega)) ⟨RY.out.2.2,L6.n0⟩ 0 (by simp[In64]) (.inl (by rw[ql.2.2.2.2.1];decide)))
 rw[apI]at SH
 have L6:=hide L6
 clear FL
 go_wp2_with fail
 refine SH.out.mono ?_
 rintro E w7 ⟨rfl,S7⟩
 obtain⟨F7,L7⟩:=L6.out.step S7
 have AG:=hide (agD L7 RY.out (by omega) (.inl rfl) IY.out)
 clear SH S7 L6 L7
 go_wp2_with fail
 refine AG.out.mono ?_
 rintro E w8 ⟨t,_,F8,rfl,_,L8,_⟩
 have L8:=hide L8
 have N8:=hide (uO w8)
 clear AG
 go_wp2_with fail
 refine N8.out.mono ?_
 rintro E w9 ⟨rfl,K9,B9⟩
 have L9:=hide (L8.out.below B9)
 have X8:=hide (And.intro L8.out.st.lt (And.intro L8.out.aF.size L8.out.st.gB.pos))
 have O9:=hide (amE w8.heap.size _ w9 Dm.new 2 K9 L9.out.st.gB (by show ¬(0=w8.heap.size);have:=X8.out.2.2;omega) (uw.mono (by omega) (by omega)) (by decide))
 clear N8 K9 B9 L8
 go_wp2_with fail
 refine O9.out.mono ?_
 rintro E wa ⟨rfl,Ba⟩
 have La:=hide (L9.out.outs Ba (fun g hg e=>by have:=X8.out.1 g hg;rw[e]at this;omega) (fun g e=>by have:=X8.out.2;rw[e];exact⟨this.1,this.2⟩))
 have ON:=hide (aeE (.pointer none) wa 0 (.inl rfl))
 clear O9 Ba L9 X8
 go_wp2_with fail
 refine ON.out.mono ?_
 rintro E wb ⟨rfl,Bb⟩
 have Lb:=hide (La.out.below Bb)
 have GE:=hide (wS t q F8 wb ly Lb.out.st (dD RY.out (by omega)) ⟨#[97]⟩ (by decide))
 rw[anG.1,anG.2]at GE
 clear ON Bb La
 go_wp2_with fail
 refine GE.out.mono ?_
 rintro E wc ⟨rfl,Bc⟩
 have S5:=hide (aoc (Lb.out.below Bc) RY.out (by omega) ⟨1,1,2,0,0,0⟩ (by unfold dW;decide))
 rw[avh]at S5
 clear GE Bc Lb
 go_wp2_with fail
 refine S5.out.mono ?_
 rintro E wd ⟨rfl,Fd,Ld⟩
 have S2:=hide (aoc Ld RY.out (by omega) ⟨0,0,0,0,0,0⟩ (by unfold dW;decide))
 rw[auK]at S2
 clear S5 Ld
 go_wp2_with fail
 refine S2.out.mono ?_
 rintro E we ⟨rfl,Fe,Le⟩
 have Le:=hide Le
 have PT:=hide (mf 2 2 we)
 clear S2
 go_wp2_with fail
 refine PT.out.mono ?_
 rintro E wf ⟨a2,k2,rfl,Of,Bf⟩
 obtain⟨V2,hV2,AD⟩:=ab0 Le.out RY.out (by omega) Of Bf (CF.out 2 2 (by decide))
 rw[aun]at AD
 clear PT Of Bf Le
 go_wp2_with fail
 refine AD.out.mono ?_
 rintro E wg ⟨rfl,Fg,Lg⟩
 have Lg:=hide Lg
 have PT:=hide (mf 1 3 wg)
 clear AD hV2
 go_wp2_with fail
 refine PT.out.mono ?_
 rintro E wh ⟨a3,k3,rfl,Oh,Bh⟩
 obtain⟨V3,hV3,AD⟩:=ab0 Lg.out RY.out (by omega) Oh Bh (CF.out 1 3 (by decide))
 rw[ap1]at AD
 clear PT Oh Bh Lg
 go_wp2_with fail
 refine AD.out.mono ?_
 rintro E wi ⟨rfl,Fi,Li⟩
 have PU:Hid (Calls Tryz.prog 16 #[.pointer (some ⟨q,0,none⟩)] wi fun E w'=>E=.returned (.int .i64 0)∧∃F',Lv w1 w' t q F' lyp):=hide (aiG Li fun F1 k=>by
  have:=agE q F1 wi ly.d k
  rw[vD.1]at this
  exact this)
 clear AD hV3 Li
 go_wp2_with fail
 refine PU.out.mono ?_
 rintro E wj ⟨rfl,Fj,Lj⟩
 have Lj:=hide Lj
 have PT:=hide (mf 1 2 wj)
 clear PU
 go_wp2_with fail
 refine PT.out.mono ?_
 rintro E wk ⟨a4,k4,rfl,Ok,Bk⟩
 obtain⟨V4,hV4,AD⟩:=ab0 Lj.out vD.2.2.2 (by omega) Ok Bk (CF.out 1 2 (by decide))
 rw[(vD.2.2.1 _).1]at AD
 clear PT Ok Bk Lj
 go_wp2_with fail
 refine AD.out.mono ?_
 rintro E wl ⟨rfl,Fl,Ll⟩
 have OF:Hid (Calls Tryz.prog 9 #[.pointer (some ⟨q,0,none⟩),.int .i64 0] wl fun E w'=>E=.returned (.tuple #[.pointer none,.int .i64 6])∧Below w.heap.size w w'):=hide (by
  obtain⟨F1,j1,j2,_⟩:=Ll.st.disk fun e=>by have:=(Ll.new 0 e).2;omega
  rw[(vD.2.2.1 _).2]at j1
  refine(al9 q F1 wl lyp.d 0 j1 Ll.st.gB (fun e=>by have:=(Ll.new 0 (j2 0 e)).2;omega) (vD.2.2.2.1.mono (by omega) (by omega)) (.inl rfl) vD.2.1).mono ?_
  rintro E w' ⟨rfl,hb⟩
  have b1:=Ll.aF.trans (hb.below (fun g hg=>(Ll.new g (j2 g hg)).1) Ll.aF.size)
  exact⟨rfl,B1.out.trans (b1.mono B1.out.size)⟩)
 clear AD hV4 Ll
 go_wp2_with fail
 refine OF.out.mono ?_
 rintro E wm ⟨rfl,Bm⟩
 clear OF
 go_wp2
 go_ret
 exact⟨rfl,Bm⟩
end Go.Proofs.YtpifdeoepppadaaGreatDoor
namespace Go.Proofs.YtpifdeoepppadaaGreatDoor
open Go.ChangeShapes Go.WideShapes Go.ChangeAt Go.RowKit
open Go.ChangeMaps (open_string shut_string)
set_option linter.unusedVariables false
namespace restartNamesFrame
theorem own:ownKnob Tryz.prog.godebug=none:=by kernel_rfl
theorem laidOut:laidOutB Tryz.prog=true:=by kernel_rfl
theorem contract (H:Type)(enc:TypeId×Value→H)(W:World)(base:Nat)(args:Array Value)(ds gs:List (DataW H))(before:List MemPlace)
  (hval0:∀(j:Nat) t v,Tryz.f3.params[j]? =some t→args[j]? =some v→Value.okWide Tryz.prog W .any base t v)
  (hW:DataW.Whole enc Tryz.prog Tryz.f3.params.toList Rows.restartNamesSpec.vars false W args.toList ds gs before)
  (hsz0:(DataW.weightsEach Tryz.prog (Tryz.f3.params.toList++Rows.restartNamesSpec.plain.varTypes Tryz.prog) (ds++gs)).all (·≤reachBytes)=true) (hsh:W.ShapedOpen Tryz.prog) (hld:laidMetH Tryz.prog Rows.restartNamesRow.laid W):
  Calls Tryz.prog 3 args W fun e W'=>∃v,e=.returned v∧Rows.restartNamesSpec.post enc Tryz.prog Tryz.f3 false true false false W args v W':=by
 have hsz:(DataW.weightsEach Tryz.prog (Tryz.f3.params.toList++Rows.restartNamesSpec.plain.varTypes Tryz.prog) (ds++gs)).all (·≤reachBytes)=true:=hsz0
 clear hsz0
 have hval:∀(j:Nat) t v,Tryz.f3.params[j]? =some t→args[j]? =some v→Value.okWide Tryz.prog W .any base t v:=hval0
 have hW':=hW
 obtain⟨p,q,yT,hV,rfl,hfz,hnd⟩:=hW
 have hA:DataW.TrodAll enc Tryz.prog W 0 (fun _=>true) true Tryz.f3.params.toList args.toList ds p:=yT
 rw[Tryz.params3]at hA hval hsz
 obtain⟨rfl,rfl,rfl⟩:=trodAll_none hA
 obtain⟨rfl,rfl⟩:=trodVars_none hV
 clear yT hval0
 refine(aab W (acf hld)).mono fun e W' ⟨he,aF⟩=>?_
 subst he
 exact⟨_,rfl,_,_,_,[],[],[],hW',trodAll_mk1 (shut_bool Tryz.underlying4 _),trodAll_mk0,rfl,aF.frame _,fun h=>by cases h⟩
def kC (cs:Array Value):Obj→Obj
 |.cells _ t frozen=>.cells cs t frozen
 |o=>o
theorem lifted (os:Os)(started:os.Started)(H:Type)(enc:TypeId×Value→H)(F:Stop.Interp):
  ReturnsInHanded {} Tryz.checked os 3 .any ((OpenSpec.ofChange Rows.restartNamesSpec).preRow enc Tryz.prog Tryz.f3 Rows.restartNamesRow.domain false Rows.restartNamesRow.laid) (((OpenSpec.ofChange Rows.restartNamesSpec).at F).post enc Tryz.prog Tryz.f3 false true false false):=by
 refine returnsInHanded_of_row (C:=Tryz.checked) (s:=OpenSpec.ofChange Rows.restartNamesSpec) own started (by kernel_rfl) Tryz.func3
  (witness_row_at (enc:=enc) (C:=Tryz.checked) false ({World.holding Tryz.prog os ⟨#[],#[],[]⟩with heap:=((World.holding Tryz.prog os ⟨#[],#[],[]⟩).heap.modify 0 (kC (#[.int .i64 1048576,.int .i64 3,.int .i64 1048576,.int .i64 4,.int .i64 1048576,.int .i64 1073741824])))}:World) #[] rfl (by kernel_rfl) (by kernel_rfl) (by kernel_rfl)
   (OpenSpec.preRow_of_cond 8 (x:=([],[],[])) (by kernel_rfl) (by kernel_rfl) (fun k hk=>by cases hk) (by kernel_rfl) (laidMet_of_run' 8 (by kernel_rfl) (by kernel_rfl)))) ?_
 intro W base args ds gs before hval hW _ _ hsz hld hsh _
 exact contract H enc W base args ds gs before hval hW hsz hsh hld
theorem said:Rows.RestartNamesSaid:=
 OpenClaim.holds_of_cond 3 Tryz.f3 rfl rfl rfl rfl rfl rfl rfl ⟨rfl,rfl,rfl,rfl,rfl⟩ rfl rfl rfl rfl rfl (by kernel_rfl) Tryz.func3 (by kernel_rfl)
  (of_decide_eq_true (by kernel_rfl)) (by unfold Func.isWrapper;first|(rw[if_pos (by decide+kernel)];kernel_rfl)|(rw[if_neg (by decide+kernel)];exact⟨rfl,rfl⟩))
  (fun os started H enc _ F=>by rw[OpenClaim.pre_eq_preRow];exact lifted os started H enc F)
theorem plain (f:FuncId)(fn:Func)(hf:Tryz.pinned.checked.prog.funcNamed Rows.restartNamesRow.func=some f)(hfn:Tryz.pinned.checked.prog.funcs[f]? =some fn):
  false=Tryz.pinned.checked.prog.looks []∧∀(j:Nat) t,fn.params[j]? =some t→Tryz.pinned.checked.prog.wantsStandIn t=false:=by
 obtain rfl:f=3:=Option.some.inj ((show Tryz.prog.funcNamed Rows.restartNamesRow.func=some 3 by kernel_rfl).symm.trans hf)|>.symm
 obtain rfl:fn=Tryz.f3:=(Option.some.inj (Tryz.func3.symm.trans hfn)).symm
 refine⟨by kernel_rfl,fun j t ht=>?_⟩
 rw[Tryz.params3]at ht
 have hm:=Array.mem_of_getElem? ht
 simp at hm
end restartNamesFrame
theorem restartNames_card:Rows.RestartNamesCardSaid:=
 Claim7.holds_tied_plain_at .later [] _ _ _ _ restartNamesFrame.said (fun _ h=>by cases h) (by kernel_rfl) (fun _ h=>by cases h) restartNames_row_tie rfl ⟨rfl,rfl⟩ (by kernel_rfl) rfl restartNamesFrame.plain (by kernel_rfl)
#print axioms restartNames_card
end Go.Proofs.YtpifdeoepppadaaGreatDoor
