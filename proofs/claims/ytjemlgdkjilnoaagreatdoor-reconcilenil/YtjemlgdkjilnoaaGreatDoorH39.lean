/- Texts of one layer, one behind the other. -/
import Derived.Test.YtjemlgdkjilnoaaGreatDoorH36
import Derived.Test.YtjemlgdkjilnoaaGreatDoorM4
import Derived.Test.YtjemlgdkjilnoaaGreatDoorH40
import Derived.Test.YtjemlgdkjilnoaaGreatDoorH35
import Derived.Test.YtjemlgdkjilnoaaGreatDoorH20
import Derived.Deep.RegionHeld3
set_option maxRecDepth 100000
set_option maxHeartbeats 8000000
namespace Go.Proofs.YtjemlgdkjilnoaaGreatDoor
open Go.RowKit
set_option linter.unusedVariables false
def Emp (st:Dm.Ds) (f:Nat):Prop:=lM st f=[]∧kV st f=0
theorem aic (q:Nat)(F:Nat→Prop)(w:World)(st:Dm.Ds)(h:Pk q F w st)(hs:Big 100000000 800000 st)(he:Emp st 0):
  Calls Tryz.prog 78 #[.pointer (some ⟨q,0,none⟩)] w fun E w'=>Below w.heap.size w w'∧∃p G,E=.returned (.tuple #[.pointer (some ⟨p,0,none⟩),.int .i64 0])∧Wk p q G w' [] false∧∀g,G g→w.heap.size≤g:=by
 have HR:=hide (jw q F w st 0 h (fun f=>Nat.le_trans (hs.1.1 f) (by decide)) (Nat.le_trans hs.1.2.1 (by decide)))
 have e1:lM st 0=[]:=he.1
 have e2:kV st 0=0:=he.2
 rw[e1,e2]at HR
 clear h hs he e1 e2
 go_enter Tryz.func78,Tryz.ntmps78
 go_wp2_with fail
 refine HR.out.mono ?_
 rintro E w1 ⟨v,rfl,own,aG⟩
 have HW:=hide (ahM v w1 own.is)
 obtain⟨a,c,hv,_,_⟩:=own.is.shape
 subst hv
 have aW:=aG.size
 clear own HR
 go_wp2_with fail
 refine HW.out.mono ?_
 rintro E w2 ⟨rfl,au⟩
 obtain⟨W,hW,szW,uo,bW⟩:=ak w2 #[.pointer (some ⟨q,0,none⟩),.bool false,.slice none 0 0,.slice none 0 0] 157
 have di:=au.size
 have hv:zw w2.heap.size q W [] false (.slice none 0 0) (.slice none 0 0) []:=⟨bW,Lw.nil _ _⟩
 have b0W:Below w.heap.size w W:=(aG.trans (au.mono aG.size)).trans (uo.mono (by omega))
 have HLen:=hide (akw w2.heap.size q W [] false _ _ [] hv)
 have ge:∀g,(g=w2.heap.size∨LB (.slice none 0 0) (.slice none 0 0) ([]:List Cw) g)→w.heap.size≤g:=by
  rintro g (e|e|e|e)
  ·omega
  ·cases e
  ·cases e
  ·obtain⟨c,hc,_⟩:=e
   cases hc
 have HV:=hide (And.intro hv (And.intro b0W ge))
 clear au uo bW hv HW ge b0W aG
 go_wp2_with fail
 refine HLen.out.mono ?_
 rintro E w3 ⟨rfl,m,rfl⟩
 have W3:Hid (Below w.heap.size w (W.drewN m)∧Wk w2.heap.size q (fun g=>g=w2.heap.size∨LB (.slice none 0 0) (.slice none 0 0) ([]:List Cw) g) (W.drewN m) [] false):=hide ⟨below_drewN HV.out.2.1 m,Wk.below ⟨_,_,[],HV.out.1,rfl⟩ (below_drewN (Below.refl _ _) m)⟩
 clear HLen
 go_wp2
 go_ret2
 exact⟨W3.out.1,_,_,rfl,W3.out.2,HV.out.2.2⟩
theorem ah7 (q:Nat)(F:Nat→Prop)(w:World)(st:Dm.Ds)(h:Pk q F w st)(hs:Big 100000000 800000 st)(he:Emp st 2):
  Calls Tryz.prog 83 #[.pointer (some ⟨q,0,none⟩)] w fun E w'=>Below w.heap.size w w'∧∃p G,E=.returned (.tuple #[.pointer (some ⟨p,0,none⟩),.int .i64 0])∧Rk p q G w' [] false∧∀g,G g→w.heap.size≤g:=by
 have HR:=hide (jw q F w st 2 h (fun f=>Nat.le_trans (hs.1.1 f) (by decide)) (Nat.le_trans hs.1.2.1 (by decide)))
 have e1:lM st 2=[]:=he.1
 have e2:kV st 2=0:=he.2
 rw[e1,e2]at HR
 clear h hs he e1 e2
 go_enter Tryz.func83,Tryz.ntmps83
 go_wp2_with fail
 refine HR.out.mono ?_
 rintro E w1 ⟨v,rfl,own,aG⟩
 have HW:=hide (aiH v [] w1 own.is rfl)
 obtain⟨a,c,hv,_,_⟩:=own.is.shape
 subst hv
 have aW:=aG.size
 clear own HR
 go_wp2_with fail
 refine HW.out.mono ?_
 rintro E w2 ⟨rfl,au⟩
 obtain⟨W,hW,szW,uo,bW⟩:=ak w2 #[.pointer (some ⟨q,0,none⟩),.bool false,.slice none 0 0] 180
 have di:=au.size
 have hv:RkV w2.heap.size q W [] false (.slice none 0 0) []:=⟨bW,Rq.nil _ _⟩
 have b0W:Below w.heap.size w W:=(aG.trans (au.mono aG.size)).trans (uo.mono (by omega))
 have ge:∀g,(g=w2.heap.size∨QB (.slice none 0 0) ([]:List Cw) g)→w.heap.size≤g:=by
  rintro g (e|e|e)
  ·omega
  ·cases e
  ·obtain⟨c,hc,_⟩:=e
   cases hc
 have HV:=hide (And.intro hv (And.intro b0W ge))
 clear au uo bW hv HW ge b0W aG
 go_wp2
 go_ret2
 exact⟨HV.out.2.1,_,_,rfl,⟨_,[],HV.out.1,rfl⟩,HV.out.2.2⟩
theorem aeY (P q:Nat)(F:Nat→Prop)(w:World)(st:Dm.Ds)(x:Pm.Pg)(vr vs:Value)(h:Pk q F w st)(hs:Big 100000000 800000 st)(he:Emp st 0)(hb:w.heap[P]? =some (.cells (eD q false x (.pointer none) 0 vr vs) 56 (0,0)))(hP:¬F P):
  Calls Tryz.prog 33 #[.pointer (some ⟨P,0,none⟩)] w fun E w'=>E=.returned (.int .i64 0)∧Out (fun g=>g=P) w w'∧∃pw Gw,Wk pw q Gw w' [] false∧(∀g,Gw g→w.heap.size≤g)∧w'.heap[P]? =some (.cells (eD q false x (.pointer (some ⟨pw,0,none⟩)) 0 vr vs) 56 (0,0)):=by
 have hpl:=ax hb
 have c0:w.cell? ⟨P,0,none⟩=some (.pointer (some ⟨q,0,none⟩)):=ai hb 0 rfl
 have WO:=hide (aic q F w st h hs he)
 have HB:=hide (And.intro hb h)
 clear h hs hb he
 go_enter Tryz.func33,Tryz.ntmps33
 go_wp2_with fail
 refine WO.out.mono ?_
 rintro E w1 ⟨b1,pw,Gw,rfl,hW,hG⟩
 clear WO
 have hb1:=(b1.block P hpl).trans HB.out.1
 have f8:=aC hb1 8
 have a8:w1.cell? ⟨P,8,none⟩=some (.pointer none):=ai hb1 8 rfl
 obtain⟨V1,V2,hV1,hV2,p1,p2,o1,o2⟩:=arJ hb1 (.pointer (some ⟨pw,0,none⟩)) 0
 have d8:V1.cell? ⟨P,8,none⟩=some (.pointer (some ⟨pw,0,none⟩)):=ai p1 8 rfl
 have d9:V1.cell? ⟨P,9,none⟩=some (.int .i64 0):=ai p1 9 rfl
 have f9:=aC p1 9
 have nG:∀g,Gw g→¬g=P:=fun g hg e=>by have:=hG g hg;omega
 have pk:Pk q F V1 st:=(HB.out.2.below b1).agree fun g hg=>o1.block g ((HB.out.2.below b1).lt g hg) fun e=>hP (e▸hg)
 have HN:=hide (anv pw q _ V1 ⟨st,[],false⟩ ⟨F,Gw,pk,hW.out o1 nG,rfl⟩)
 have R:=hide (show Out (fun g=>g=P) w V2∧∃pw Gw,Wk pw q Gw V2 [] false∧(∀g,Gw g→w.heap.size≤g)∧V2.heap[P]? =some (.cells (eD q false x (.pointer (some ⟨pw,0,none⟩)) 0 vr vs) 56 (0,0))from⟨((Out.of_below (F:=fun g=>g=P) b1).trans o1 fun g hg=>.inl hg).trans o2 fun g hg=>.inl hg,pw,Gw,(hW.out o1 nG).out o2 nG,hG,p2⟩)
 clear hb1 pk p1 p2 o1 o2 HB hP hW hG nG b1
 go_wp2_with fail
 refine HN.out.mono ?_
 rintro E w2 ⟨rfl,rfl⟩
 clear HN
 go_wp2
 go_ret
 exact⟨rfl,R.out⟩
theorem adv (P q:Nat)(F:Nat→Prop)(w:World)(st:Dm.Ds)(x:Pm.Pg)(vw vs:Value)(en:Int)(h:Pk q F w st)(hs:Big 100000000 800000 st)(he:Emp st 2)(hb:w.heap[P]? =some (.cells (eD q false x vw en (.pointer none) vs) 56 (0,0))):
  Calls Tryz.prog 36 #[.pointer (some ⟨P,0,none⟩)] w fun E w'=>E=.returned (.int .i64 0)∧Out (fun g=>g=P) w w'∧∃pr Gr,Rk pr q Gr w' [] false∧(∀g,Gr g→w.heap.size≤g)∧w'.heap[P]? =some (.cells (eD q false x vw en (.pointer (some ⟨pr,0,none⟩)) vs) 56 (0,0)):=by
 have hpl:=ax hb
 have c0:w.cell? ⟨P,0,none⟩=some (.pointer (some ⟨q,0,none⟩)):=ai hb 0 rfl
 have WO:=hide (ah7 q F w st h hs he)
 have HB:=hide hb
 clear h hs hb he
 go_enter Tryz.func36,Tryz.ntmps36
 go_wp2_with fail
 refine WO.out.mono ?_
 rintro E w1 ⟨b1,pr,Gr,rfl,hW,hG⟩
 clear WO
 have hb1:=(b1.block P hpl).trans HB.out
 have f8:=aC hb1 11
 have a8:w1.cell? ⟨P,11,none⟩=some (.pointer none):=ai hb1 11 rfl
 obtain⟨V1,hV1,p1,o1⟩:=arN hb1 (.pointer (some ⟨pr,0,none⟩))
 have nG:∀g,Gr g→¬g=P:=fun g hg e=>by have:=hG g hg;omega
 have R:=hide (show Out (fun g=>g=P) w V1∧∃pr Gr,Rk pr q Gr V1 [] false∧(∀g,Gr g→w.heap.size≤g)∧V1.heap[P]? =some (.cells (eD q false x vw en (.pointer (some ⟨pr,0,none⟩)) vs) 56 (0,0))from⟨(Out.of_below (F:=fun g=>g=P) b1).trans o1 fun g hg=>.inl hg,pr,Gr,hW.out o1 nG,hG,p1⟩)
 clear hb1 p1 o1 HB hW hG nG b1
 go_wp2
 go_ret
 exact⟨rfl,R.out⟩
theorem aas (p:Nat)(w:World)(f n:Int):Calls Tryz.prog 82 #[.pointer (some ⟨p,0,none⟩),.int .i64 f,.int .i64 n,.int .i64 n] w fun E w'=>E=.returned (.int .i64 0)∧Below w.heap.size w w':=by
 obtain⟨w1,hw1,s1,b1,P1⟩:=ak w #[.pointer (some ⟨p,0,none⟩)] 174
 obtain⟨w2,hw2,s2,b2,P2⟩:=ak w1 #[.int .i64 f] 3
 obtain⟨w3,hw3,s3,b3,P3⟩:=ak w2 #[.int .i64 n] 3
 have z2:w2.heap.size=w.heap.size+2:=by omega
 rw[z2]at P3
 have B:=hide (show Below w.heap.size w w3 from b1.trans ((b2.mono (by omega)).trans (b3.mono (by omega))))
 have c3n:w3.cell? ⟨w.heap.size+2,0,none⟩=some (.int .i64 n):=ai P3 0 rfl
 have hq:(n==n)=true:=by simp
 clear b1 b2 b3 P1 P2 P3
 go_enter Tryz.func82,Tryz.ntmps82
 go_wp2
 go_ret
 exact⟨rfl,B.out⟩
theorem acb (P q:Nat)(F:Nat→Prop)(w:World)(st:Dm.Ds)(x:Pm.Pg)(vw vr vs:Value)(en node:Int)(h:Pk q F w st)(hs:Big 100000000 800000 st)(he:Emp st 1)(hb:w.heap[P]? =some (.cells (eD q false x vw en vr vs) 56 (0,0)))(hn:fse node=0):
  Calls Tryz.prog 35 #[.pointer (some ⟨P,0,none⟩),.int .i64 node] w fun E w'=>E=.returned (.int .i64 0)∧Out (fun g=>g=P) w w'∧w'.heap[P]? =some (.cells (eD q false (fst node) vw en vr vs) 56 (0,0)):=by
 have hpl:=ax hb
 have c0:w.cell? ⟨P,0,none⟩=some (.pointer (some ⟨q,0,none⟩)):=ai hb 0 rfl
 have R1:=hide (jw q F w st 1 h (fun f=>Nat.le_trans (hs.1.1 f) (by decide)) (Nat.le_trans hs.1.2.1 (by decide)))
 have r1:lM st 1=[]:=he.1
 have r2:kV st 1=0:=he.2
 rw[r1,r2]at R1
 obtain⟨bs,hbs⟩:∃bs:List Int,bs=[]:=⟨_,rfl⟩
 rw[←hbs]at R1
 have HBS:=hide hbs
 have HH:=hide (And.intro hb hn)
 clear h hs hb r1 r2 he hn hbs
 go_enter Tryz.func35,Tryz.ntmps35
 go_wp2_with fail
 refine R1.out.mono ?_
 rintro E w1 ⟨v,rfl,O1,B1⟩
 obtain⟨ao,cap,hv,_,_⟩:=O1.is.shape
 subst hv
 have LA:=hide (amo _ bs node w1 O1.is HBS.out HH.out.2)
 unfold vp at LA
 have B1:=hide B1
 clear R1 O1
 go_wp2_with fail
 refine LA.out.mono ?_
 rintro E w2 ⟨rfl,B2⟩
 clear LA
 have hb:=HH.out.1
 have b12:=B1.out.trans (B2.mono B1.out.size)
 obtain⟨y,hy⟩:∃p,fst node=p:=⟨_,rfl⟩
 rw[hy]
 have HY:=hide hy
 clear hy
 obtain⟨V,hV,hV',sV,bV,PV,⟨z0,z1,z2,z3,z4,z5⟩⟩:=xA w2 35 (.int .i64 0) (.int .u8 0) (.int .i64 0) (.int .u8 0) (.int .i64 0) (.int .i64 0) (.int .i64 y.e) (.int .u8 y.r) (.int .i64 y.a) (.int .u8 y.p) (.int .i64 y.f) (.int .i64 y.b)
 have b0V:=b12.trans (bV.mono b12.size)
 have pV:=(b0V.block P hpl).trans hb
 obtain⟨_,_,q2,q3,q4,q5,q6,q7,_⟩:=l9 pV
 obtain⟨Z,hZ,pZ,gZ,fr⟩:=afe pV y
 have f2:=fr 2;have f3:=fr 3;have f4:=fr 4;have f5:=fr 5;have f6:=fr 6;have f7:=fr 7
 have oZ:Out (fun g=>g=P) V Z:=Out.aV gZ fun i hi=>by simpa using hi.symm
 have TR:=hide (aas P Z 1 0)
 have R:Hid (∀w',Below Z.heap.size Z w'→Out (fun g=>g=P) w w'∧w'.heap[P]? =some (.cells (eD q false y vw en vr vs) 56 (0,0))):=hide (by
  intro w' k
  exact⟨((Out.of_below (F:=fun g=>g=P) b0V).trans oZ fun g hg=>.inl hg).trans (Out.of_below (F:=fun g=>g=P) k) fun g hg=>.inl hg,(k.block P (ax pZ)).trans pZ⟩)
 have hl0:bs.length=0:=by rw[HBS.out];rfl
 clear hb b12 bV PV b0V pV pZ gZ fr oZ HH B1 B2 sV
 rw[hl0]
 go_wp2_with fail
 refine TR.out.mono ?_
 rintro E w3 ⟨rfl,k⟩
 have RR:=hide (R.out w3 k)
 clear k R TR
 go_wp2
 go_ret
 exact⟨rfl,by rw[HY.out];exact RR.out⟩
theorem adq (P q:Nat)(F:Nat→Prop)(w:World)(st:Dm.Ds)(cs:Array Value)(h:Pk q F w st)(hs:Big 100000000 800000 st)(he:Emp st 3)(hb:w.heap[P]? =some (.cells cs 56 (0,0)))(hc:cs[0]? =some (.pointer (some ⟨q,0,none⟩))):
  Calls Tryz.prog 37 #[.pointer (some ⟨P,0,none⟩)] w fun E w'=>E=.returned (.int .i64 0)∧Below w.heap.size w w':=by
 have c0:w.cell? ⟨P,0,none⟩=some (.pointer (some ⟨q,0,none⟩)):=ai hb 0 hc
 have R1:=hide (jw q F w st 3 h (fun f=>Nat.le_trans (hs.1.1 f) (by decide)) (Nat.le_trans hs.1.2.1 (by decide)))
 have r1:lM st 3=[]:=he.1
 have r2:kV st 3=0:=he.2
 rw[r1,r2]at R1
 obtain⟨bs,hbs⟩:∃bs:List Int,bs=[]:=⟨_,rfl⟩
 rw[←hbs]at R1
 have HL0:Hid (bs.length=0):=hide (by rw[hbs];rfl)
 have hl:bs.length≤1000:=by rw[HL0.out];decide
 clear h hs hb r1 r2 he hbs
 go_enter Tryz.func37,Tryz.ntmps37
 go_wp2_with fail
 refine R1.out.mono ?_
 rintro E w1 ⟨v,rfl,O1,B1⟩
 obtain⟨ao,cap,hv,_,_⟩:=O1.is.shape
 subst hv
 have SC:=hide (pK _ _ w1 O1.is (by omega))
 have B1:=hide B1
 clear R1 O1
 go_wp2_with fail
 refine SC.out.mono ?_
 rintro E w2 ⟨v2,l,n,rfl,X⟩
 clear SC
 obtain⟨_,_,hn,hsn,B2⟩:=X.out
 have b12:=B1.out.trans (B2.mono B1.out.size)
 have hn0:n=0:=by
  have:=hsn.2.1.length_le
  have:=HL0.out
  omega
 subst hn0
 have TR:=hide (aas P w2 3 0)
 have c2:w2.cell? ⟨P,0,none⟩=some (.pointer (some ⟨q,0,none⟩)):=by
  rw[←c0]
  have hP:P<w.heap.size:=by
   rcases Nat.lt_or_ge P w.heap.size with k|k
   ·exact k
   ·rw[World.cell?,Array.getElem?_eq_none k]at c0;cases c0
  have:=b12.block P hP
  simp[World.cell?,this]
 have B:=hide b12
 clear X hn hsn B1 B2 b12
 rw[HL0.out]
 go_wp2_with fail
 refine TR.out.mono ?_
 rintro E w3 ⟨rfl,k⟩
 have RR:=hide (B.out.trans (k.mono B.out.size))
 clear k TR
 go_wp2
 go_ret
 exact⟨rfl,RR.out⟩
theorem tN.own {q n0 P:Nat}{F Fk:Nat→Prop}{w w5 W W':World}{d:Dm.Ds}(h:tN q F w w5 W n0 P Fk d)(h0:¬F 0)(hp:0<w.heap.size)(hP:w.heap.size≤P)(hn:n0<P)(o:Out (fun g=>g=P) W W'):tN q F w w5 W' n0 P Fk d:=
 h.step h0 hp hP hn (h.qy.agree fun g hg=>o.block g (h.qy.lt g hg) fun e=>(h.nb P (.inr (.inl rfl))).1 (e▸hg)) (o.mono fun g hg=>.inl (.inr hg)) fun g hg=>.inl hg
theorem amr (q:Nat)(F F2:Nat→Prop)(w w5:World)(n0 P:Nat)(node:Int)(I5:tN q F w w5 w5 n0 P F2 Dm.new)(h0:¬F 0)(hp:0<w.heap.size)(hP:w.heap.size≤P)(hn:n0<P)(hn0:w5.heap[n0]? =some (.cells #[.int .i64 node] 3 (0,0)))(hP1:w5.heap[P+1]? =some (.cells #[.pointer (some ⟨P,0,none⟩)] 22 (0,0)))(hPb:w5.heap[P]? =some (.cells (eD q false Pm.no (.pointer none) 0 (.pointer none) (.pointer none)) 56 (0,0)))(apK:node=0∨node=1):
  Run (P+2) (fun e W=>W.heap[P+1]? =w5.heap[P+1]?∧e=0∧∃F',(Pk q F' W Dm.new∧Out F w W∧∀g,F' g→F g∨w.heap.size≤g)∧∃G,PO P q G W ⟨Dm.new,fst node,[],[],false⟩∧∀g,G g→w.heap.size≤g∧¬F' g) [.func (.func 31) #[] #[.pointer (some ⟨n0,0,none⟩)],.func (.func 33) #[.pointer (some ⟨P,0,none⟩)] #[],.func (.func 34) #[] #[.pointer (some ⟨P+1,0,none⟩),.pointer (some ⟨n0,0,none⟩)],.func (.func 36) #[.pointer (some ⟨P,0,none⟩)] #[],.func (.func 37) #[.pointer (some ⟨P,0,none⟩)] #[],.func (.func 38) #[] #[.pointer (some ⟨P+1,0,none⟩)],.func (.func 41) #[.pointer (some ⟨P,0,none⟩)] #[]] w5:=by
 obtain⟨oky,fe⟩:=avv apK
 have hB:Big 100000000 800000 Dm.new:=yB.mono (by omega) (by omega)
 have nP:P=n0∨P=P∨P=P+1∨P=P+2:=.inr (.inl rfl)
 have l2:∀{W Fk d},tN q F w w5 W n0 P Fk d→P+2<W.heap.size∧¬(P+2=P):=fun h=>⟨(h.nb _ (.inr (.inr (.inr rfl)))).2,by omega⟩
 have hsn:Rst.snd (fst node) [] (Cm.lastN 0 []) 0=true:=by rcases apK with rfl|rfl<;>decide
 refine Run.cons (enters_of Tryz.func31 (by kernel_rfl) rfl) (by simp) ((amf n0 node w5 (ai hn0 0 rfl)).mono ?_)
 rintro E W1 ⟨rfl,b1⟩
 refine⟨_,rfl,b1.block _ (l2 I5).1,.inr ⟨fe,?_⟩⟩
 have I1:=I5.below h0 hp hP hn b1
 have p1:=(b1.block P (I5.nb P nP).2).trans hPb
 refine Run.cons (enters_of Tryz.func33 (by kernel_rfl) rfl) (by simp) ((aeY P q F2 W1 Dm.new Pm.no _ _ I1.qy hB ⟨rfl,rfl⟩ p1 (I1.nb P nP).1).mono ?_)
 rintro E W2 ⟨rfl,o1,pw,Gw,hW,hGw,p2⟩
 have I2:=I1.own h0 hp hP hn o1
 refine⟨_,rfl,o1.block _ (l2 I1).1 (l2 I1).2,.inr ⟨rfl,?_⟩⟩
 refine Run.cons (enters_of Tryz.func34 (by kernel_rfl) rfl) (by simp) ((alG (P+1) n0 P node 0 W2 (fun e w'=>e=0∧Out (fun g=>g=P) W2 w'∧w'.heap[P]? =some (.cells (eD q false (fst node) (.pointer (some ⟨pw,0,none⟩)) 0 (.pointer none) (.pointer none)) 56 (0,0))) (ai ((I2.keep _ (.inr (.inl rfl))).trans hP1) 0 rfl) (ai ((I2.keep _ (.inl rfl)).trans hn0) 0 rfl) ((acb P q F2 W2 Dm.new Pm.no _ _ _ _ node I2.qy hB ⟨rfl,rfl⟩ p2 fe).mono ?_)).mono ?_)
 ·rintro E w' ⟨rfl,k⟩
  exact⟨_,rfl,rfl,k⟩
 rintro E W3 ⟨_,rfl,rfl,o2,p3⟩
 have I3:=I2.own h0 hp hP hn o2
 have nw:∀g,Gw g→¬g=P:=fun g hg e=>by have:=hGw g hg;have:=(I1.nb P nP).2;omega
 have hW3:=hW.out o2 nw
 refine⟨_,rfl,o2.block _ (l2 I2).1 (l2 I2).2,.inr ⟨rfl,?_⟩⟩
 refine Run.cons (enters_of Tryz.func36 (by kernel_rfl) rfl) (by simp) ((adv P q F2 W3 Dm.new _ _ _ _ I3.qy hB ⟨rfl,rfl⟩ p3).mono ?_)
 rintro E W4 ⟨rfl,o3,pr,Gr,hR,hGr,p4⟩
 have I4:=I3.own h0 hp hP hn o3
 have hW4:=hW3.out o3 nw
 have z1:=o1.size
 have z2:=o2.size
 have z3:=o3.size
 refine⟨_,rfl,o3.block _ (l2 I3).1 (l2 I3).2,.inr ⟨rfl,?_⟩⟩
 refine Run.cons (enters_of Tryz.func37 (by kernel_rfl) rfl) (by simp) ((adq P q F2 W4 Dm.new _ I4.qy hB ⟨rfl,rfl⟩ p4 rfl).mono ?_)
 rintro E W5 ⟨rfl,b5⟩
 have I6:=I4.below h0 hp hP hn b5
 have p5:=(b5.block P (I4.nb P nP).2).trans p4
 refine⟨_,rfl,b5.block _ (l2 I4).1,.inr ⟨rfl,?_⟩⟩
 have SE:=awF P q F2 W5 Dm.new [] I6.qy (yB.mono (by omega) (by omega)) (ai p5 0 rfl) (ax p5) rfl rfl trivial
 refine Run.cons (enters_of Tryz.func38 (by kernel_rfl) rfl) (by simp) ((alb (P+1) P q pw pr _ _ W5 _ (fst node) _ _ _ ⟨Dm.new,[],false⟩ ⟨Dm.new,[],false⟩ (ai ((I6.keep _ (.inr (.inl rfl))).trans hP1) 0 rfl) p5 ⟨F2,Gw,I6.qy,hW4.below b5,rfl⟩ ⟨F2,Gr,I6.qy,hR.below b5,rfl⟩ SE).mono ?_)
 rintro E W6 ⟨rfl,b6⟩
 have hc:ql (fst node) (Cm.lastE 0 []) 0 (Cm.lastN 0 []) 0=true:=(abx oky [] _ _).trans hsn
 have hc:(if ql (fst node) (Cm.lastE 0 []) 0 (Cm.lastN 0 []) ((Orp.secs []).length:Int)=true then(0:Int)else 5)=0:=if_pos hc
 have I7:=I6.below h0 hp hP hn b6
 refine⟨_,rfl,b6.block _ (l2 I6).1,.inr ⟨hc,?_⟩⟩
 have hW6:=(hW4.below b5).below b6
 have mM:=(hR.below b5).below b6
 refine Run.cons (enters_of Tryz.func41 (by kernel_rfl) rfl) (by simp) ((vJ P q pw pr F2 Gw Gr W6 false (fst node) _ Dm.new [] [] ((b6.block P (ax p5)).trans p5) ⟨_,rfl⟩ I7.qy hW6 mM (by decide) (by decide)).mono ?_)
 rintro E W7 ⟨rfl,ps,Gs,hS7,hGs,p7,o7⟩
 have I8:=I7.own h0 hp hP hn o7
 have s1:=I1.out.size
 have lP:=(I1.nb P nP).2
 have z5:=b5.size
 have z6:=b6.size
 have a1:=hW.lt
 have a2:=hR.lt
 have gw:∀g,Gw g→W1.heap.size≤g∧g<W2.heap.size:=fun g hg=>⟨hGw g hg,a1 g hg⟩
 have gr:∀g,Gr g→W3.heap.size≤g∧g<W4.heap.size:=fun g hg=>⟨hGr g hg,a2 g hg⟩
 refine⟨_,rfl,o7.block _ (l2 I7).1 (l2 I7).2,.inr ⟨rfl,I8.keep _ (.inr (.inl rfl)),rfl,F2,⟨I8.qy,I8.out,I8.far⟩,PB P Gw Gr Gs,⟨pw,pr,ps,Gw,Gr,Gs,[],false,false,⟨p7,hW6.out o7 nw,mM.out o7 fun g hg e=>by have:=gr g hg;omega,hS7,rfl,fun _=>⟨rfl,rfl,rfl⟩,oky,oD oky,trivial,show(0:Int)≤0 from Int.le_refl _,⟨fun e=>nw P e rfl,fun e=>by have:=gr P e;omega,fun e=>by have:=hGs P e;omega⟩,fun g hg e=>by have:=gw g hg;have:=gr g e;omega,fun g hg e=>by have:=gw g hg;have:=hGs g e;omega,fun g hg e=>by have:=gr g hg;have:=hGs g e;omega⟩,rfl⟩,?_⟩⟩
 rintro g (rfl|e|e|e)
 ·exact⟨hP,(I8.nb g nP).1⟩
 ·exact⟨by have:=gw g e;omega,uW hW6 I7.qy g e⟩
 ·exact⟨by have:=gr g e;omega,aqQ mM I7.qy g e⟩
 ·exact⟨by have:=hGs g e;omega,fun k=>by have:=hGs g e;have:=I7.qy.lt g k;omega⟩
theorem acJ (q:Nat)(w:World)(h:Pk q (fun g=>g=q) w Dm.new)(hm:fQ w)(hq0:q≠0)(node:Int)(hn:node=0∨node=1):
  Calls Tryz.prog 9 #[.pointer (some ⟨q,0,none⟩),.int .i64 node] w fun E w'=>∃p F,E=.returned (.tuple #[.pointer (some ⟨p,0,none⟩),.int .i64 0])∧PS p q F w' ⟨Dm.new,fst node,[],[],false⟩∧(∀g,F g→g=q∨w.heap.size≤g)∧Out (fun g=>g=q) w w':=by
 have h0:¬(0:Nat)=q:=fun e=>hq0 e.symm
 refine(ao3 q _ w Dm.new node h hm h0 (yB.mono (by omega) (by omega)) (fun P e W=>e=0∧∃F',(Pk q F' W Dm.new∧Out (fun g=>g=q) w W∧∀g,F' g→g=q∨w.heap.size≤g)∧∃G,PO P q G W ⟨Dm.new,fst node,[],[],false⟩∧∀g,G g→w.heap.size≤g∧¬F' g) ?_).mono ?_
 ·intro F2 w5 n0 P e1 I5 hP hn0 c1 c2 c3
  exact amr q _ F2 w w5 n0 P node I5 h0 hm.pos hP hn0 c1 c2 c3 hn
 ·rintro E w' ⟨P,e,HX,hE⟩
  obtain⟨rfl,F',⟨k1,k2,k3⟩,G,k4,k5⟩:=HX.out
  rcases hE with⟨c1,_⟩|⟨_,rfl⟩
  ·exact absurd rfl c1
  ·refine⟨P,_,rfl,⟨F',G,k1,k4,fun g hg=>(k5 g hg).2,gI hm k2 h0,rfl⟩,fun g hg=>?_,k2⟩
   rcases hg with hg|hg
   ·exact k3 g hg
   ·exact .inr (k5 g hg).1
structure iV (w w':World) (p q:Nat) (F:Nat→Prop) (n:Nat) (s:Rst.St) (ss:List Orp.Se):Prop where
 ps:PS p q F w' s
 n0:¬F 0
 qw:dL n s ss
 new:∀g,F g→g=q∨w.heap.size≤g
 out:Out (fun g=>g=q) w w'
section
variable {w w' w2:World} {p q n:Nat} {F:Nat→Prop} {s s2:Rst.St} {ss ss2:List Orp.Se}
theorem iV.below (h:iV w w' p q F n s ss)(hb:Below w'.heap.size w' w2):iV w w2 p q F n s ss:=
 ⟨h.ps.below hb,h.n0,h.qw,h.new,h.out.trans (Out.of_below hb (F:=fun g=>g=q)) fun g e=>.inl e⟩
theorem iV.step {m:Nat}(h:iV w w' p q F n s ss)(k:bM p q F w' w2 s2)(hc:dL m s2 ss2)(hw:0<w'.heap.size):∃F',iV w w2 p q F' m s2 ss2:=by
 obtain⟨F',k1,k2,k3⟩:=k
 have:=h.out.size
 refine⟨F',k1,fun e=>?_,hc,fun g e=>?_,h.out.trans k2 h.new⟩
 ·rcases k3 0 e with e|e
  ·exact h.n0 e
  ·omega
 ·rcases k3 g e with e|e
  ·exact h.new g e
  ·exact .inr (by omega)
end
theorem acO (q:Nat)(w:World)(h:Pk q (fun g=>g=q) w Dm.new)(hm:fQ w)(hq0:q≠0)(v:Value)(rs:List Cw)(hc:∀W,Out (fun g=>g=q) w W→dJ W v rs)(hf:dV rs)(hg:Cm.Good 0 0 (az rs))(hn:rs.length≤30)(h1:Cm.lastE 0 (az rs)≤1)(e:Int)(he:2≤e∧e≤1048576):
  Calls Tryz.prog 6 #[.pointer (some ⟨q,0,none⟩),v,.int .i64 e] w fun E w'=>∃p F s,E=.returned (.pointer (some ⟨p,0,none⟩))∧Hid (iV w w' p q F 66 s []∧s.p=⟨e,3,0,1,0,0⟩∧s.l=az rs):=by
 obtain⟨s0,hs0⟩:∃s0:Rst.St,s0=⟨Dm.new,fst 0,[],[],false⟩:=⟨_,rfl⟩
 have c0:dL 50 s0 []:=by rw[hs0];exact ahk _ (by decide)
 have hcl:(az rs).length≤30:=by unfold az;rw[List.length_map];exact hn
 obtain⟨a1,a2,a3,a4⟩:=c0.add (cs:=az rs) (by rw[hs0];exact hg) (by
  rw[hs0]
  exact Rst.wK (by omega) (by show Cm.lastE 0 ([]++az rs)≤1;exact h1) (by decide) (by show(0:Int)≤_;omega) rfl) hcl
 have a4:(Rst.add s0 (az rs)).2.l=az rs:=by rw[a4,hs0];rfl
 obtain⟨y,hy⟩:∃y:Pm.Pg,y=⟨e,3,0,1,0,0⟩:=⟨_,rfl⟩
 have hyk:Pm.chk y=0:=by
  rw[hy]
  exact Pm.gy.2 ⟨⟨by show 1≤e;omega,he.2,by simp,by simp,by simp,by simp,by simp,by simp⟩,.inr (.inr (.inl ⟨rfl,rfl,rfl,rfl,rfl⟩))⟩
 obtain⟨s1,hs1⟩:∃s1,(Rst.add s0 (az rs)).2=s1:=⟨_,rfl⟩
 rw[hs1]at a2 a3 a4
 obtain⟨b1,b2,b3,b4⟩:=a2.set (q:=y) hyk (by
  rw[a4,hy]
  exact Rst.nC.2 ⟨⟨by omega,by show Cm.lastE 0 (az rs)≤e;omega,fun _=>by show Cm.lastE 0 (az rs)≠e;omega,by show(0:Int)≤_;omega⟩,fun k=>by simp at k⟩)
 obtain⟨s2,hs2⟩:∃s2,(Rst.dh s1 y).2=s2:=⟨_,rfl⟩
 rw[hs2]at b2 b3 b4
 have OP:=hide (acJ q w h hm hq0 0 (.inl rfl))
 rw[←hs0]at OP
 have zn:eT y:=oD (Pm.gy.1 hyk)
 have AD:Hid (∀W p F,iV w W p q F 50 s0 []→Calls Tryz.prog 27 #[.pointer (some ⟨p,0,none⟩),v] W fun E w'=>E=.returned (.int .i64 0)∧∃F',iV w w' p q F' 65 s1 []):=hide fun W p F k=>by
  refine(ani p q F W s0 k.ps (k.qw.wC (by omega)) ⟨k.qw.t3,k.n0⟩ v rs (fun V hV=>hc V (k.out.trans hV k.new)) hf (by omega)).mono ?_
  rintro E w' ⟨rfl,j⟩
  rw[a1]
  rw[hs1]at j
  exact⟨rfl,k.step j a2 k.ps.gG.pos⟩
 have ST:Hid (∀W p F,iV w W p q F 65 s1 []→Calls Tryz.prog 28 #[.pointer (some ⟨p,0,none⟩),vp y] W fun E w'=>E=.returned (.int .i64 0)∧∃F',iV w w' p q F' 66 s2 []):=hide fun W p F k=>by
  refine(afS p q F W s1 k.ps (k.qw.wC (by omega)) ⟨k.qw.t3,k.n0⟩ y zn).mono ?_
  rintro E w' ⟨rfl,j⟩
  rw[b1]
  rw[hs2]at j
  exact⟨rfl,k.step j b2 k.ps.gG.pos⟩
 rw[show vp y=.agg #[.int .i64 e,.int .u8 3,.int .i64 0,.int .u8 1,.int .i64 0,.int .i64 0]by rw[hy];rfl]at ST
 have FIN:Hid (∀W p F,iV w W p q F 66 s2 []→∃p' F s,Ending.returned (.pointer (some ⟨p,0,none⟩))=.returned (.pointer (some ⟨p',0,none⟩))∧Hid (iV w W p' q F 66 s []∧s.p=⟨e,3,0,1,0,0⟩∧s.l=az rs)):=hide fun W p F k=>⟨p,F,s2,rfl,hide ⟨k,by rw[b3,hy],b4.trans a4⟩⟩
 have H0:Hid (∀W p F,PS p q F W s0→(∀g,F g→g=q∨w.heap.size≤g)→Out (fun g=>g=q) w W→iV w W p q F 50 s0 []):=hide fun W p F k1 k2 k3=>⟨k1,fun e=>by
  rcases k2 0 e with e|e
  ·exact hq0 e.symm
  ·have:=hm.pos;omega,c0,k2,k3⟩
 obtain⟨va,vn,vk,rfl⟩:∃a n k,v=.slice a n k:=by
  obtain⟨a,k,e,_,_⟩:=(hc w (Out.refl _ _)).1.shape
  exact⟨_,_,_,e⟩
 clear h hm hq0 hc hf hg hn h1 he c0 hcl a1 a2 a3 a4 hyk b1 b2 b3 b4 zn hy hs0 hs1 hs2
 go_enter Tryz.func6,Tryz.ntmps6
 go_wp2_with fail
 refine OP.out.mono ?_
 rintro E w1 ⟨p,F,rfl,k1,k2,k3⟩
 have A1:=hide (AD.out w1 p F (H0.out w1 p F k1 k2 k3))
 clear OP k1 k2 k3 AD H0
 go_wp2_with fail
 refine A1.out.mono ?_
 rintro E w2 ⟨rfl,F2,k2⟩
 have A2:=hide (ST.out w2 p F2 k2)
 clear A1 ST k2
 go_wp2_with fail
 refine A2.out.mono ?_
 rintro E w3 ⟨rfl,F3,k3⟩
 have X:=hide (FIN.out w3 p F3 k3)
 clear A2 FIN k3
 go_wp2
 go_ret
 exact X.out
def vN:Nat→Pm.Pg|0=>⟨2,3,0,2,2,0⟩|1=>⟨2,3,0,3,2,0⟩|2=>⟨2,3,0,4,2,0⟩|_=>⟨2,2,0,0,0,0⟩
def ssk:Nat→List Orp.Se|0=>[]|_=>[pg 2 2 l3]
def lk:Nat→List Cm.Cv|0=>l3|1=>l3|_=>l3.take 2
def qi (w0 W:World) (p q X k:Nat):Prop:=∃F s,iV w0 W p q F (67+2*k) s (ssk k)∧s.p=vN k∧s.l=lk k∧¬F X∧X<W.heap.size
theorem qi.below {w0 W W':World}{p q X k:Nat}(h:qi w0 W p q X k)(hb:Below W.heap.size W W'):qi w0 W' p q X k:=by
 obtain⟨F,s,h1,h2,h3,h4,h5⟩:=h
 have:=hb.size
 exact⟨F,s,h1.below hb,h2,h3,h4,by omega⟩
theorem ae6:Mm.Ck nT.m 2:=.inr ⟨rfl,fun h=>by have:(1:Int)≤0:=h.1;omega⟩
theorem aoY {w0 W:World}{p q X k:Nat}(h:qi w0 W p q X k)(hk:k<3):Calls Tryz.prog 11 #[.pointer (some ⟨p,0,none⟩),mv nT] W fun E w'=>E=.returned (.tuple #[vp (vN (k+1)),.int .i64 0])∧qi w0 w' p q X (k+1)∧w'.heap[X]? =W.heap[X]? :=by
 obtain⟨F,s,h1,h2,h3,h4,h5⟩:=h
 have key:∀y s2 ss2,dL (67+2*(k+1)) s2 ss2→y=vN (k+1)→ss2=ssk (k+1)→s2.p=y→s2.l=lk (k+1)→Calls Tryz.prog 11 #[.pointer (some ⟨p,0,none⟩),mv nT] W (Stp p q F W y s2)→Calls Tryz.prog 11 #[.pointer (some ⟨p,0,none⟩),mv nT] W fun E w'=>E=.returned (.tuple #[vp (vN (k+1)),.int .i64 0])∧qi w0 w' p q X (k+1)∧w'.heap[X]? =W.heap[X]? :=by
  intro y s2 ss2 hc hy hss hp hl hC
  refine hC.mono ?_
  rintro E w' ⟨rfl,j⟩
  subst hy hss
  refine⟨rfl,?_,?_⟩
  ·have j0:=j
   obtain⟨F',j1,j2,j3⟩:=j
   have hw:=h1.ps.gG.pos
   have ho:=h1.out.size
   have hz:=j2.size
   refine⟨F',s2,⟨j1,fun e=>?_,hc,fun g e=>?_,h1.out.trans j2 h1.new⟩,hp,hl,fun e=>?_,by omega⟩
   ·rcases j3 0 e with e|e
    ·exact h1.n0 e
    ·omega
   ·rcases j3 g e with e|e
    ·exact h1.new g e
    ·exact .inr (by omega)
   ·rcases j3 X e with e|e
    ·exact h4 e
    ·omega
  ·obtain⟨_,_,j2,_⟩:=j
   exact j2.block X h5 h4
 have hi:=gQ.no W
 obtain rfl|rfl|rfl:k=0∨k=1∨k=2:=by omega
 ·have h3:s.l=l3:=h3
  obtain⟨s2,g1,g2,g3,g4⟩:=ai9 (p:=p) (q:=q) h1.ps h1.n0 h1.qw (by omega) (by rw[h3];decide) 2 2 h2 hi dC.no ae6
  rw[h3]at g1 g3
  exact key _ s2 _ g1 rfl rfl g2 g3 g4
 ·have h3:s.l=l3:=h3
  obtain⟨s2,g1,g2,g3,g4⟩:=akC (p:=p) (q:=q) h1.ps h1.n0 h1.qw (by omega) 2 2 0 h2 hi dC.no ae6
  rw[h3]at g3
  exact key _ s2 _ g1 rfl rfl g2 g3 g4
 ·obtain⟨s2,g1,g2,g3,g4⟩:=ajh (p:=p) (q:=q) h1.ps h1.n0 h1.qw (by omega) 2 2 0 h2 hi dC.no ae6
  exact key _ s2 _ (g1.mono (by omega)) rfl rfl g2 (g3.trans h3) g4
def l4:List Cm.Cv:=[⟨1,1,[kv]⟩,⟨1,2,[kv]⟩,⟨2,3,[kv]⟩,⟨2,4,[kv]⟩]
theorem arl:Cm.Good 0 0 l4:=⟨by rw[Cm.mD (by decide)];exact uS,by decide,by decide,by rw[Cm.mD (by decide)];exact uS,by decide,by decide,by rw[Cm.mD (by decide)];exact uS,by decide,by decide,by rw[Cm.mD (by decide)];exact uS,by decide,by decide,trivial⟩
theorem aui:Fr (Sm.told 0 l3) 3 [(1,1),(2,3)] 4 (2:Nat):=by
 have h:=Sm.ald p8 arl (k:=2) (by decide) (by decide) rfl (fun i c d hi hc hd=>by
  have hl:=(List.getElem?_eq_some_iff.1 hc).1
  have hl:i<3:=hl
  obtain rfl:i=2:=by omega
  have hc:c=⟨1,3,[kv]⟩:=(Option.some.inj hc).symm
  have hd:d=⟨2,3,[kv]⟩:=(Option.some.inj hd).symm
  rw[hc,hd]
  show(1:Int)≠2
  decide)
 have e:Sm.told 0 l4=[(1,1),(2,3)]:=by decide
 rw[e]at h
 refine .inl ⟨?_,h⟩
 unfold vH
 have k:Sm.chk (Sm.told 0 l3) 3=0:=Sm.ib (Sm.abR p8)
 rw[if_pos k]
 exact Sm.ib (Sm.yl.1 (by decide))
theorem asl (g:Nat)(x:Pm.Pg)(h1:x.r=3)(h2:x.e=2):xN x (hel g) 0=true:=by
 unfold xN
 rw[decide_eq_true h1,decide_eq_true (show(hel g).r=1 from rfl),decide_eq_true (show(hel g).e=x.e by rw[h2];rfl),decide_eq_true rfl]
 rfl
theorem apA {w0 W:World}{p q g:Nat}{F:Nat→Prop}{s:Rst.St}(h:iV w0 W p q F 66 s [])(hp:s.p=⟨2,3,0,1,0,0⟩)(hl:s.l=l3)(hi:gQ W (hel g)):
  Calls Tryz.prog 11 #[.pointer (some ⟨p,0,none⟩),mv (hel g)] W fun E w'=>E=.returned (.tuple #[vp (vN 0),.int .i64 0])∧∃F' s2,iV w0 w' p q F' 67 s2 []∧s2.p=vN 0∧s2.l=l3:=by
 obtain⟨s2,g1,g2,g3,g4⟩:=aiD (p:=p) (q:=q) h.ps h.n0 h.qw (by omega) 2 hp hi (agJ g) (ams g) (asl g _ (by rw[hp]) (by rw[hp])) 2 (by rw[hl];exact aui) (by rw[hl];decide) (by decide)
 refine g4.mono ?_
 rintro E w' ⟨rfl,j⟩
 obtain⟨F',k⟩:=h.step j g1 h.ps.gG.pos
 exact⟨rfl,F',s2,k,g2,g3.trans hl⟩
theorem ara {w:World}{B:Nat}{e f:Int}{v:Value}{rs:List Cw}(hB:w.heap[B]? =some (.cells #[.int .i64 e,.int .i64 f,v] 72 (0,0)))(h:dJ w v rs)(hf:dV rs)(hl:rs.length≤1000)(he:In64 e)(hff:In64 f):oO w (.slice (some ⟨B,0,none⟩) 1 1) [⟨e,f,v,rs⟩]∧yD [⟨e,f,v,rs⟩]:=by
 refine⟨⟨agH hB,fun x hx=>?_⟩,fun x hx=>?_⟩
 ·rw[List.mem_singleton.1 hx]
  exact⟨h,he,hff⟩
 ·rw[List.mem_singleton.1 hx]
  exact⟨hf,by show rs.length*40≤_;omega⟩
theorem afV:Orp.chk (pg 2 2 l3)=0:=agW (by decide) (by decide) p8 (by decide) (by decide)
theorem aos:(Orp.secs [pg 2 2 l3]).length≤1000000:=by
 rw[Orp.qp]
 have h1:=Orp.aew afV
 have h2:(pg 2 2 l3).cs.length=1:=rfl
 omega
theorem qi.put {w0 W V:World}{p q X k:Nat}(h:qi w0 W p q X k)(hg:W.grownBy V (some X))(hX:w0.heap.size≤X)(hp:0<w0.heap.size):qi w0 V p q X k:=by
 obtain⟨F,s,h1,h2,h3,h4,h5⟩:=h
 have o:Out (fun g=>g=X) W V:=Out.aV hg fun g e=>by simpa using e.symm
 have nX:∀g,F g→g≠X:=fun g e k=>h4 (k▸e)
 refine⟨F,s,⟨h1.ps.agree (fun g e=>o.block g (h1.ps.lt g e) (nX g e)) o.size (gI h1.ps.gG o fun e=>?_),h1.n0,h1.qw,h1.new,h1.out.trans o fun g e=>?_⟩,h2,h3,h4,by have:=o.size;omega⟩
 ·have e:0=X:=e
  omega
 ·have e:g=X:=e
  exact .inr (by omega)
theorem qi.aG {w w0 W:World}{p X k:Nat}(h:qi w0 W p w.heap.size X k)(hb:Below w.heap.size w w0):Below w.heap.size w W:=by
 obtain⟨F,s,h1,_⟩:=h
 exact hb.trans (h1.out.below (fun g e=>by rw[e];exact Nat.le_refl _) hb.size)
theorem zt (w:World)(hm:fQ w):Calls Tryz.prog 10 #[] w fun E w'=>E=.returned (.bool true)∧Below w.heap.size w w':=by
 have ND:=hide (ab1 w)
 have HP:=hide hm
 have hz:=hm.pos
 have HV:Hid (∀y:Pm.Pg,vp y=.agg #[.int .i64 y.e,.int .u8 y.r,.int .i64 y.a,.int .u8 y.p,.int .i64 y.f,.int .i64 y.b]):=hide fun _=>rfl
 clear hm
 go_enter Tryz.func10,Tryz.ntmps10
 go_wp2_with fail
 refine ND.out.mono ?_
 rintro E w1 ⟨rfl,k1,b1⟩
 obtain⟨w2,hw2,s2,b2,P2⟩:=ak w1 #[.int .i64 1,.int .i64 1,.int .i64 1] 3
 have LG:=hide (aah w1.heap.size w2 P2)
 have z1:=b1.size
 have PK:Hid (Pk w.heap.size (fun g=>g=w.heap.size) w2 Dm.new∧Below w.heap.size w w2∧w.heap.size<w2.heap.size):=hide ⟨k1.below b2,b1.trans (b2.mono z1),by have:=k1.lt w.heap.size rfl;omega⟩
 clear ND k1 b1 b2 P2
 go_wp2_with fail
 refine LG.out.mono ?_
 rintro E w3 ⟨la,lk',rfl,L3,b3⟩
 have fo:=PK.out.2.1.trans (b3.mono PK.out.2.1.size)
 have HE:Hid (Calls Tryz.prog 6 #[.pointer (some ⟨w.heap.size,0,none⟩),.slice la 3 lk',.int .i64 2] w3 fun E w'=>∃p F s,E=.returned (.pointer (some ⟨p,0,none⟩))∧Hid (iV w3 w' p w.heap.size F 66 s []∧s.p=⟨2,3,0,1,0,0⟩∧s.l=l3)):=hide (by
  obtain⟨rs,o1,o2,o3⟩:=L3.out
  have hg:Cm.Good 0 0 (az rs):=by rw[o3];exact p8
  have hk:∀c∈az rs,Cm.chk c.e c.n c.l=0:=fun c hc=>(Sto.fV hg c hc).1
  have hrl:rs.length=3:=by have:=congrArg List.length o3;unfold az at this;rw[List.length_map]at this;exact this
  have:=acO w.heap.size w3 (PK.out.1.below b3) (HP.out.below fo) (by omega) _ rs (fun W hW=>(wT (sO o1 o2 hW fun g e=>by rw[e];exact PK.out.2.2).1 (sO o1 o2 hW fun g e=>by rw[e];exact PK.out.2.2).2 hk).1) (wT o1 o2 hk).2 hg (by omega) (by rw[o3];decide) 2 (by omega)
  rw[o3]at this
  exact this)
 have B3:=hide fo
 clear LG L3 b3 fo PK
 go_wp2_with fail
 refine HE.out.mono ?_
 rintro E w4 ⟨p,F,s,rfl,X4⟩
 have B4:Hid (Below w.heap.size w w4):=hide (B3.out.trans (X4.out.1.out.below (fun g e=>by rw[e];exact Nat.le_refl _) B3.out.size))
 have HH:=hide (uq w4)
 clear HE
 go_wp2_with fail
 refine HH.out.mono ?_
 rintro E w5 ⟨hg,rfl,i5,b5⟩
 have S1:=hide (apA (X4.out.1.below b5) X4.out.2.1 X4.out.2.2 i5)
 obtain⟨y0,hy0⟩:∃y,vN 0=y:=⟨_,rfl⟩
 rw[hy0,HV.out]at S1
 have HY0:=hide hy0
 clear hy0
 have B5:=hide (B4.out.trans (b5.mono B4.out.size))
 have OW:=hide (X4.out.1.out.size)
 clear HH i5 b5 X4 B4
 go_wp2_with fail
 refine S1.out.mono ?_
 rintro E w6 ⟨rfl,F6,s6,k6,p6,l6⟩
 obtain⟨w7,hw7,axo,sz7,b7,P7,⟨e0,e1,e2,e3,e4,e5⟩⟩:=xA w6 35 (.int .i64 0) (.int .u8 0) (.int .i64 0) (.int .u8 0) (.int .i64 0) (.int .i64 0) (.int .i64 y0.e) (.int .u8 y0.r) (.int .i64 y0.a) (.int .u8 y0.p) (.int .i64 y0.f) (.int .i64 y0.b)
 have K7:Hid (qi w3 w7 p w.heap.size w6.heap.size 0∧w7.heap[w6.heap.size]? =some (.cells (cp (vN 0)) 35 (0,0))):=hide ⟨⟨F6,s6,k6.below b7,by rw[p6,HY0.out],l6,fun e=>by have:=k6.ps.lt _ e;omega,by omega⟩,by rw[HY0.out];exact P7⟩
 have HX:Hid (w3.heap.size≤w6.heap.size∧0<w3.heap.size):=hide ⟨k6.out.size,by have:=B3.out.size;omega⟩
 have SP:=hide (qB y0 ⟨2,3,0,2,2,0⟩ w7)
 rw[HV.out,HV.out,show same y0 ⟨2,3,0,2,2,0⟩=true by rw[←HY0.out];decide]at SP
 clear S1 b7 P7 k6 p6 l6 B5 OW
 go_wp2_with fail
 refine SP.out.mono ?_
 rintro E w8 ⟨rfl,b8⟩
 have K8:Hid (qi w3 w8 p w.heap.size w6.heap.size 0∧w8.heap[w6.heap.size]? =some (.cells (cp (vN 0)) 35 (0,0))):=hide ⟨K7.out.1.below b8,(b8.block _ (ax K7.out.2)).trans K7.out.2⟩
 have HM:Hid (mv nT=.agg #[.int .i64 0,.int .i64 0,.int .u8 0,.int .i64 0,.slice none 0 0,.int .i64 0,.int .i64 0,.slice none 0 0]):=hide rfl
 obtain⟨X,hX⟩:∃X,w6.heap.size=X:=⟨_,rfl⟩
 rw[hX]at K8 HX
 clear SP K7 b8 e0 e1 e2 e3 e4 e5
 go_wp2_with fail
 clear hX hw7 axo sz7
 go_loopw [4,5] (fun ev iv wr=>∃k:Nat,k≤3∧iv=.int .i64 k∧ev=.int .i64 0∧Hid (qi w3 wr p w.heap.size X k∧wr.heap[X]? =some (.cells (cp (vN k)) 35 (0,0)))) (fun _ iv _=>3-(intOf iv).toNat)
 case atStart=>exact⟨0,by omega,rfl,rfl,K8⟩
 case round=>
  clear K8
  obtain⟨k,hk,rfl,rfl,KR⟩:=hrel
  by_cases hlt:k<3
  ·have ST:=hide (aoY KR.out.1 hlt)
   obtain⟨y,hy⟩:∃y,vN (k+1)=y:=⟨_,rfl⟩
   rw[hy,HV.out y,HM.out]at ST
   have hlt':(k:Int)<3:=by omega
   have HY:=hide hy
   clear hy
   go_wp2_with fail
   refine ST.out.mono ?_
   rintro E w2 ⟨rfl,j1,j2⟩
   obtain⟨V,hV,bV,gV,⟨q0,q1,q2,q3,q4,q5⟩,fr,⟨u0,u1,u2,u3,u4,u5⟩⟩:=dU (j2.trans KR.out.2) (.int .i64 y.e) (.int .u8 y.r) (.int .i64 y.a) (.int .u8 y.p) (.int .i64 y.f) (.int .i64 y.b)
   have f0:=fr 0;have f1:=fr 1;have f2:=fr 2;have f3:=fr 3;have f4:=fr 4;have f5:=fr 5
   have KV:Hid (qi w3 V p w.heap.size X (k+1)∧V.heap[X]? =some (.cells (cp (vN (k+1))) 35 (0,0))):=hide ⟨j1.put gV HX.out.1 HX.out.2,by rw[HY.out];exact bV⟩
   clear ST j1 j2 bV gV fr KR
   go_wp2
   go_roundw
   case rel=>exact⟨k+1,by omega,by go_num,rfl,KV⟩
   case measure=>simp[intOf];omega
  ·obtain rfl:k=3:=by omega
   obtain⟨F9,s9,h1,h2,h3,h4,h5⟩:=KR.out.1
   have b09:=KR.out.1.aG B3.out
   obtain⟨F1,d1,_,_⟩:=h1.ps.disk h1.n0
   have hR:=h1.qw.wC (by omega)
   have DU:=hide (agz w.heap.size F1 wr s9.d 3 d1 (fun f=>Nat.le_trans (hR.1.1.1 f) (by decide)))
   have hdu:duB s9.d 3=Orp.secs [pg 2 2 l3]:=by
    have:=h1.qw.lY.2.2
    unfold duB
    rw[if_neg (by decide)]
    exact this
   rw[hdu]at DU
   have QE:Hid (∀W,Below wr.heap.size wr W→Calls Tryz.prog 25 #[.pointer (some ⟨p,0,none⟩)] W fun E w'=>E=.returned (.int .i64 2)∧Below W.heap.size W w'):=hide fun W hW=>by
    have:=amN p w.heap.size F9 W s9 (h1.ps.below hW) hR
    rw[h3]at this
    exact this
   have X9:Hid (wr.heap[X]? =some (.cells #[.int .i64 2,.int .u8 2,.int .i64 0,.int .u8 0,.int .i64 0,.int .i64 0] 35 (0,0))∧Below w.heap.size w wr):=hide ⟨KR.out.2,b09⟩
   clear KR h1 h2 h3 h4 h5 b09 d1 hR hdu
   go_wp2_with fail
   refine DU.out.mono ?_
   rintro E x1 ⟨vb,rfl,o1,c1⟩
   have SC:=hide (pK vb _ x1 o1.is (by have:=aos;omega))
   have C1:=hide c1
   clear DU o1 c1
   go_wp2_with fail
   refine SC.out.mono ?_
   rintro E x2 ⟨v2,l2,n2,rfl,Y2⟩
   have C2:Hid (Below wr.heap.size wr x2):=hide (C1.out.trans (Y2.out.2.2.2.2.mono C1.out.size))
   have hsw:Hid (iO l2=[pg 2 2 l3]):=hide (Orp.wu Y2.out.2.2.2.1 (Orp.tL ⟨afV,by decide,trivial⟩))
   have hl2:l2.length=1:=by have:=congrArg List.length hsw.out;rw[xZ]at this;exact this
   obtain⟨xg,cp2,hv2,_,_⟩:=Y2.out.1.is.shape
   rw[hl2]at hv2
   subst hv2
   obtain⟨e0,e1,e2,e3,e4,e5⟩:=aN ((C2.out.block _ (ax X9.out.1)).trans X9.out.1)
   have SP:=hide (qB ⟨2,2,0,0,0,0⟩ ⟨2,2,0,0,0,0⟩ x2)
   rw[HV.out,show same ⟨2,2,0,0,0,0⟩ ⟨2,2,0,0,0,0⟩=true by decide]at SP
   have Y:Hid (oO x2 (.slice xg 1 cp2) l2∧yD l2):=hide ⟨Y2.out.1.is,Y2.out.2.1⟩
   have B9:=hide (X9.out.2.trans (C2.out.mono X9.out.2.size))
   clear SC C1 Y2 X9
   go_wp2_with fail
   refine SP.out.mono ?_
   rintro E x3 ⟨rfl,d3⟩
   have Q3:=hide (QE.out x3 (C2.out.trans (d3.mono C2.out.size)))
   have D3:=hide d3
   clear SP d3 QE C2
   go_wp2_with fail
   refine Q3.out.mono ?_
   rintro E x4 ⟨rfl,d4⟩
   have d24:=D3.out.trans (d4.mono D3.out.size)
   obtain⟨x5,hx5,sx5,d5,P5⟩:=ak x4 #[.int .i64 1,.int .i64 1,.int .i64 1] 3
   have LG:=hide (aah x4.heap.size x5 P5)
   have D5:=hide (d24.trans (d5.mono d24.size))
   clear Q3 d4 d24 D3 d5 P5
   go_wp2_with fail
   refine LG.out.mono ?_
   rintro E x6 ⟨la,lk2,rfl,L6,d6⟩
   obtain⟨rs,o1,o2,o3⟩:=L6.out
   have hg:Cm.Good 0 0 (az rs):=by rw[o3];exact p8
   have hk:∀c∈az rs,Cm.chk c.e c.n c.l=0:=fun c hc=>(Sto.fV hg c hc).1
   have hrl:rs.length=3:=by have:=congrArg List.length o3;unfold az at this;rw[List.length_map]at this;exact this
   obtain⟨ic,fc⟩:=wT o1 o2 hk
   obtain⟨vs,hsl,eH⟩:=ic.1.gu Tryz.nM Tryz.nN 2 (by omega)
   obtain⟨ao7,cp7,hvs,_,_⟩:=eH.shape
   have hd1:(rs.drop 2).length=1:=by rw[List.length_drop];omega
   rw[hd1]at hvs
   subst hvs
   have icd:dJ x6 (.slice ao7 1 cp7) (rs.drop 2):=⟨eH,fun c hc=>ic.2 c (List.mem_of_mem_drop hc)⟩
   have fcd:dV (rs.drop 2):=fun c hc=>fc c (List.mem_of_mem_drop hc)
   obtain⟨x7,hx7,sx7,d7,P7⟩:=ak x6 #[.int .i64 2,.int .i64 2,.slice ao7 1 cp7] 72
   obtain⟨s1,s2⟩:=ara P7 (icd.below d7) fcd (by omega) (e:=2) (f:=2) ⟨by omega,by omega⟩ ⟨by omega,by omega⟩
   have d27:Below x2.heap.size x2 x7:=(D5.out.trans (d6.mono D5.out.size)).trans (d7.mono (by have:=D5.out.size;have:=d6.size;omega))
   have SS:=hide (aix _ _ l2 _ x7 (Y.out.1.below d27) s1 Y.out.2 s2 (by omega) (by
    rw[hsw.out]
    show [pg 2 2 l3]=[(⟨2,2,az (rs.drop 2)⟩:Orp.Se)]
    unfold pg az
    rw[List.map_drop]
    have:rs.map Cw.c=l3:=o3
    rw[this]
    rfl))
   have D7:=hide (B9.out.trans (d27.mono B9.out.size))
   have hsl:∀wx,(Instr.slice 26 (.slice la 3 lk2) (some (.int .i64 2)) none none).run Tryz.prog wx=.ok (.slice ao7 1 cp7) wx:=hsl
   clear LG L6 d6 o1 o2 o3 hg hk hrl ic fc eH icd fcd d7 P7 s1 s2 d27 D5 Y hsw hd1
   go_wp2_with fail
   refine SS.out.mono ?_
   rintro E x8 ⟨rfl,d8⟩
   have D8:=hide (D7.out.trans (d8.mono D7.out.size))
   clear SS d8 D7
   go_wp2
   go_ret
   exact⟨rfl,D8.out⟩
end Go.Proofs.YtjemlgdkjilnoaaGreatDoor
