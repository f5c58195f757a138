/- Texts of one layer, one behind the other. -/
import Derived.Test.YtjemlgdkjilnoaaGreatDoorH26
import Derived.Test.YtjemlgdkjilnoaaGreatDoorH1
import Derived.Test.YtjemlgdkjilnoaaGreatDoorH29
import Derived.Test.YtjemlgdkjilnoaaGreatDoorH12
import Derived.Test.YtjemlgdkjilnoaaGreatDoorH30
import Derived.Test.YtjemlgdkjilnoaaGreatDoorH5
import Derived.Test.YtjemlgdkjilnoaaGreatDoorH11
import Derived.Test.YtjemlgdkjilnoaaGreatDoorH32
import Derived.Test.YtjemlgdkjilnoaaGreatDoorH3
set_option maxRecDepth 100000
set_option maxHeartbeats 8000000
namespace Go.Proofs.YtjemlgdkjilnoaaGreatDoor
open Go.RowKit
set_option linter.unusedVariables false
theorem ako (g2 g4 p q:Nat)(F:Nat→Prop)(w:World)(st:Dm.Ds)(h:Pk q F w st)(hs:Big 90000000 700000 st)(ho:st.on=true)(h2:w.cell? ⟨g2,0,none⟩=some (.pointer (some ⟨p,0,none⟩)))(h0:w.cell? ⟨p,0,none⟩=some (.pointer (some ⟨q,0,none⟩)))(h4:w.heap[g4]? =some (.cells #[.slice none 0 0] 79 (0,0))):
  Calls Tryz.prog 175 #[.pointer (some ⟨g2,0,none⟩),.pointer (some ⟨g4,0,none⟩)] w fun E w'=>E=.returned (.int .i64 0)∧∃ao cap,w'.heap[g4]? =some (.cells #[.slice ao (Rst.hf 3 st).length cap] 79 (0,0))∧Out (fun g=>g=g4) w w':=by
 have R1:=hide (jw q F w st 3 h (fun f=>Nat.le_trans (hs.1.1 f) (by decide)) (Nat.le_trans hs.1.2.1 (by decide)))
 obtain⟨r1,r2⟩:=aqx ho 3 (by omega)
 have r1:lM st 3=Rst.hf 3 st:=r1
 have r2:kV st 3=0:=r2
 rw[r1,r2]at R1
 clear h hs r1 r2
 go_enter Tryz.func175,Tryz.ntmps175
 go_wp2_with fail
 refine R1.out.mono ?_
 rintro E w1 ⟨v,rfl,O1,B1⟩
 obtain⟨ao,cap,rfl,_,_⟩:=O1.is.shape
 obtain⟨V',hV',PV,gV,fz⟩:=putAt ((B1.block g4 (ax h4)).trans h4) 0 (.slice ao (Rst.hf 3 st).length cap)
 have X:Hid (∃ao' cap',V'.heap[g4]? =some (.cells #[.slice ao' (Rst.hf 3 st).length cap'] 79 (0,0))∧Out (fun g=>g=g4) w V'):=hide ⟨ao,cap,PV,(Out.of_below B1).trans (Out.aV gV fun g e=>(by simpa using e.symm)) fun g e=>.inl e⟩
 have c4:=ai ((B1.block g4 (ax h4)).trans h4) 0 rfl
 clear R1 O1 B1 gV PV h4
 go_wp2
 go_ret
 exact⟨rfl,X.out⟩
theorem akA (p q:Nat)(F:Nat→Prop)(w:World)(s:Rst.St)(h:PS p q F w s)(hR:o9 s)(dR:Rst.asked s=false):Calls Tryz.prog 138 #[.pointer (some ⟨p,0,none⟩)] w fun E w'=>E=.returned (.tuple #[.int .i64 ((Rst.hf 3 s.d).length:Int),.int .i64 0])∧Below w.heap.size w w':=by
 have qP:∀(fn:Fn) (first cap:Array Value) (w:World),(Instr.makeFunc fn first cap).run Tryz.prog w=.ok (.func fn first cap) w:=fun _ _ _ _=>rfl
 obtain⟨w1,hw1,s1,b1,P1⟩:=ak w #[.pointer (some ⟨p,0,none⟩)] 22
 obtain⟨w2,hw2,s2,b2,P2⟩:=ak w1 #[.slice none 0 0] 79
 obtain⟨w3,hw3,s3,b3,P3⟩:=ak w2 #[.func (.func 58) #[.pointer (some ⟨p,0,none⟩)] #[],.func (.func 175) #[] #[.pointer (some ⟨w.heap.size,0,none⟩),.pointer (some ⟨w.heap.size+1,0,none⟩)]] 132
 have z2:w2.heap.size=w.heap.size+2:=by omega
 have z3:w3.heap.size=w.heap.size+3:=by omega
 rw[s1]at P2
 rw[z2]at P3
 have fo:Below w.heap.size w w3:=(b1.trans (b2.mono (by omega))).trans (b3.mono (by omega))
 have c2:w2.cell? ⟨w.heap.size,0,none⟩=some (.pointer (some ⟨p,0,none⟩)):=ai ((b2.block _ (by omega)).trans P1) 0 rfl
 have t3:=(b3.block _ (by omega)).trans ((b2.block _ (by omega)).trans P1)
 have u3:=(b3.block _ (by omega)).trans P2
 have pq:=h.below fo
 have hon:s.d.on=true:=by
  unfold Rst.asked at dR
  revert dR
  cases s.d.on<;>simp
 obtain⟨F1,G,h1,⟨pw,pr,ps,Gw,Gr,Gs,lw,bw,br,V,rfl⟩,hd,hm,rfl⟩:=pq
 have RUN:Run (w.heap.size+2) (fun e W=>e=0∧∃ao cap,W.heap[w.heap.size+1]? =some (.cells #[.slice ao (Rst.hf 3 s.d).length cap] 79 (0,0))∧Out (fun g=>g=w.heap.size+1) w3 W) [.func (.func 58) #[.pointer (some ⟨p,0,none⟩)] #[],.func (.func 175) #[] #[.pointer (some ⟨w.heap.size,0,none⟩),.pointer (some ⟨w.heap.size+1,0,none⟩)]] w3:=by
  refine Run.cons (enters_of Tryz.func58 (by kernel_rfl) rfl) (by simp) ((abe p q F1 w3 s.d s.off h1 (ai V.blk 0 rfl) (ai V.blk 1 rfl)).mono ?_)
  rintro E w' ⟨rfl,rfl⟩
  have hc':¬(s.off|| !s.d.on)=true:=by rw[show(s.off|| !s.d.on)=Rst.asked s from rfl,dR];simp
  rw[if_neg hc']
  refine⟨_,rfl,rfl,.inr ⟨rfl,?_⟩⟩
  refine Run.cons (enters_of Tryz.func175 (by kernel_rfl) rfl) (by simp) ((ako _ _ p q F1 w3 s.d h1 (hR.1.mono (by decide) (by decide)) hon (ai t3 0 rfl) (ai V.blk 0 rfl) u3).mono ?_)
  rintro E w4 ⟨rfl,ao,cap,k1,k2⟩
  exact⟨_,rfl,k2.block _ (by omega) (by omega),.inr ⟨rfl,rfl,ao,cap,k1,k2⟩⟩
 have HC:=hide (acM (.pointer (some ⟨p,0,none⟩)) p _ 2 _ w3 _ rfl (by omega) P3 RUN (by
  rintro W ⟨e,_⟩
  exact absurd e (by decide)))
 have HX:Hid (∀W,Out (fun g=>g=w.heap.size+1) w3 W→Below w.heap.size w W):=hide fun W k=>fo.trans ((k.below (fun g e=>by omega) (by omega)))
 generalize (Rst.hf 3 s.d).length=n at*
 clear RUN h hR b1 b2 b3 P1 P2 P3 s2 s3 z3 fo t3 u3 V h1 hd hm hon
 go_enter Tryz.func138,Tryz.ntmps138
 go_wp2_with fail
 refine HC.out.mono ?_
 rintro E w' ⟨e,W,rfl,⟨rfl,ao,cap,k1,k2⟩,⟨k,rfl⟩|⟨k,_⟩⟩
 ·have c4:=ai k1 0 rfl
  have B:=hide (HX.out _ k2)
  clear HC HX k1 k2
  go_wp2
  refine bodyPost_ret (results_tmp2 rfl _ _ _) rfl ?_
  exact⟨rfl,B.out⟩
 ·exact absurd k (by decide)
theorem amb (p q:Nat)(F:Nat→Prop)(w:World)(s:Rst.St)(h:PS p q F w s)(hR:o9 s)(dR:Rst.asked s=false)(hg:Cm.Good 0 0 s.l)(x:Pm.Pg)(hx:eT x)(m:Mw)(hi:gQ w m)(hf:dC m)(nf:Int)(hk:Fr (Sm.told 0 s.l) s.l.length m.ss m.n nf)(hnf:I64 nf):
  Calls Tryz.prog 89 #[.pointer (some ⟨p,0,none⟩),vp x,mv m] w fun E w'=>E=.returned (.tuple #[vp (Rol.fk x nf (Rst.hf 3 s.d).length),.int .i64 (Rol.mP x nf (Rst.hf 3 s.d).length)])∧Below w.heap.size w w':=by
 obtain⟨w1,hw1,s1,b1,P1⟩:=ak w (cp x) 35
 obtain⟨w2,hw2,s2,b2,P2⟩:=oN w1 m
 obtain⟨w3,hw3,s3,b3,P3⟩:=ak w2 #[.int .i64 0,.int .u8 0,.int .i64 0,.int .u8 0,.int .i64 0,.int .i64 0] 35
 have z2:w2.heap.size=w.heap.size+2:=by omega
 rw[s1]at P2
 rw[z2]at P3
 have fo:Below w.heap.size w w3:=(b1.trans (b2.mono (by omega))).trans (b3.mono (by omega))
 have KEEP:Hid (∀W,Below w3.heap.size w3 W→W.heap[w.heap.size]? =some (.cells (cp x) 35 (0,0))∧fP W (w.heap.size+1) m∧W.heap[w.heap.size+2]? =some (.cells #[.int .i64 0,.int .u8 0,.int .i64 0,.int .u8 0,.int .i64 0,.int .i64 0] 35 (0,0))∧PS p q F W s∧gQ W m∧Below w.heap.size w W):=hide fun W hW=>by
  have b:=fo.trans (hW.mono (by omega))
  exact⟨(hW.block _ (by omega)).trans ((b3.block _ (by omega)).trans ((b2.block _ (by omega)).trans P1)),(hW.block _ (by omega)).trans ((b3.block _ (by omega)).trans P2),(hW.block _ (by omega)).trans P3,h.below b,hi.below b,b⟩
 have z3:w3.heap.size=w.heap.size+3:=by omega
 have HL:=hide (afp p q F w3 s (h.below fo) hR)
 have HH:=hide (And.intro hR (And.intro dR (And.intro hg (And.intro hx (And.intro hf (And.intro hk hnf))))))
 have hms:∃ao nn cap,m.vs=.slice ao nn cap:=by
  obtain⟨ao,cap,e,_,_⟩:=aa0 hi.s
  exact⟨_,_,_,e⟩
 obtain⟨va,vn,as1,hvs⟩:=hms
 have B3:=hide fo
 have hlen:s.l.length≤2000:=hR.2
 have aaq:w1.alloc (.cells #[.int .i64 m.k,.int .i64 m.e,.int .u8 m.r,.int .i64 m.n,.slice va vn as1,.int .i64 m.f,.int .i64 m.p,m.vc] 40)=w2:=by rw[←hvs];exact hw2
 have HMV:Hid (mv m=.agg #[.int .i64 m.k,.int .i64 m.e,.int .u8 m.r,.int .i64 m.n,.slice va vn as1,.int .i64 m.f,.int .i64 m.p,m.vc]):=hide (by unfold mv;rw[hvs])
 have mO:=hide hvs
 unfold cp at hw1
 rw[HMV.out]
 have HV:Hid (∀y:Pm.Pg,vp y=.agg #[.int .i64 y.e,.int .u8 y.r,.int .i64 y.a,.int .u8 y.p,.int .i64 y.f,.int .i64 y.b]):=hide fun _=>rfl
 obtain⟨bb,hbb⟩:∃bb:Int,((Rst.hf 3 s.d).length:Int)=bb:=⟨_,rfl⟩
 obtain⟨y,hy⟩:∃y,Rol.fk x nf bb=y:=⟨_,rfl⟩
 obtain⟨ye,hye⟩:∃ye,Rol.mP x nf bb=ye:=⟨_,rfl⟩
 rw[hbb,hy,hye,HV.out x,HV.out]
 have HY:=hide (And.intro hbb (And.intro hy hye))
 clear hbb hy hye
 clear h hR dR hg hx hi hf hk hnf b1 b2 b3 P1 P2 P3 fo hw2 hvs
 go_enter Tryz.func89,Tryz.ntmps89
 go_wp2_with fail
 refine HL.out.mono ?_
 rintro E w4 ⟨v4,rs,rfl,sh4,e4,b4⟩
 have hlr:rs.length=s.l.length:=by rw[←e4];unfold az;rw[List.length_map]
 have ic4:dJ w4 v4 rs:=sh4.isC
 have HO:=hide (ark v4 rs w4 ic4 sh4.f (by omega) (by rw[e4];exact HH.out.2.2.1))
 rw[e4]at HO
 obtain⟨a4,k4,hv4,_,_⟩:=ic4.1.shape
 rw[hlr]at hv4
 subst hv4
 have Z4:=hide b4
 obtain⟨ll,hll⟩:∃ll,s.l.length=ll:=⟨_,rfl⟩
 rw[hll]at HO hlen
 have HLL:=hide hll
 rw[hll]
 clear HL sh4 ic4 b4 hlr e4 hll
 go_wp2_with fail
 refine HO.out.mono ?_
 rintro E w5 ⟨v5,fe,fp,rfl,F5,o5,b5⟩
 obtain⟨w6,tO,hw6',s6,b6,P6,f0,f1⟩:=pX w5 61 (.int .i64 0) (.int .i64 0) (.int .i64 fe) (.int .i64 fp)
 have z4:=Z4.out.size
 have b36:Below w3.heap.size w3 w6:=(Z4.out.trans (b5.mono z4)).trans (b6.mono (by have:=b5.size;omega))
 obtain⟨k1,k2,k3,k4,k5,k6⟩:=KEEP.out w6 b36
 obtain⟨c0,c1,c2,c3,c4,c5⟩:=aN k1
 obtain⟨a0,a1,a2,a3,a4',a5,a6,a7⟩:=k2.ei
 rw[mO.out]at a4'
 have r5:jJ w6 v5 (Sm.told 0 s.l):=(pO o5 b6).row
 obtain⟨a5',c5',hv5,_,_⟩:=aa0 r5
 have SF:=hide (ajT v5 m.vs _ _ s.l.length m.n w6 r5 k5.s (by have:=zI s.l 0;have:=HH.out.1.2;omega) (by have:=HH.out.2.2.2.2.1.ls;omega))
 rw[mO.out,HLL.out]at SF
 subst hv5
 have B6:=hide b36
 clear HO o5 b5 b6 P6 b36 k1 k2 k3 k4 k5 k6 r5 F5
 go_wp2_with fail
 refine SF.out.mono ?_
 rintro E w7 ⟨n7,rfl,fr7,b7⟩
 obtain rfl:n7=nf:=oG (by have:=fr7;rw[←HLL.out]at this;exact this) HH.out.2.2.2.2.2.1
 have b37:Below w3.heap.size w3 w7:=B6.out.trans (b7.mono B6.out.size)
 have HB:=hide (akA p q F w7 s (KEEP.out w7 b37).2.2.2.1 HH.out.1 HH.out.2.1)
 have afC:I64 ((Rst.hf 3 s.d).length:Int):=by
  have:=av4 HH.out.1.1 3
  unfold I64
  omega
 rw[HY.out.1]at HB afC
 have B7:=hide b37
 clear SF fr7 b7 b37 B6 c0 c1 c2 c3 c4 c5 a0 a1 a2 a3 a4' a5 a6 a7 f0 f1
 go_wp2_with fail
 refine HB.out.mono ?_
 rintro E w8 ⟨rfl,b8⟩
 have b38:Below w3.heap.size w3 w8:=B7.out.trans (b8.mono B7.out.size)
 obtain⟨k1,k2,k3,k4,k5,k6⟩:=KEEP.out w8 b38
 obtain⟨c0,c1,c2,c3,c4,c5⟩:=aN k1
 have RF:=hide (akF x n7 bb w8 HH.out.2.2.2.1 k4.gG HH.out.2.2.2.2.2.2 afC)
 rw[HY.out.2.1,HY.out.2.2,HV.out x,HV.out]at RF
 have B8:=hide b38
 clear HB b8 b38 B7 k1 k2 k3 k4 k5 k6
 go_wp2_with fail
 refine RF.out.mono ?_
 rintro E w9 ⟨rfl,b9⟩
 obtain⟨k1,k2,k3,k4,k5,k6⟩:=KEEP.out w9 (B8.out.trans (b9.mono B8.out.size))
 obtain⟨V',hV',dG,bQ,⟨q0,q1,q2,q3,q4,q5⟩,fr,⟨u0,u1,u2,u3,u4,u5⟩⟩:=dU k3 (.int .i64 y.e) (.int .u8 y.r) (.int .i64 y.a) (.int .u8 y.p) (.int .i64 y.f) (.int .i64 y.b)
 have g0:=fr 0;have g1:=fr 1;have g2:=fr 2;have g3:=fr 3;have g4:=fr 4;have g5:=fr 5
 have BV:=hide (aD k6 bQ (by omega) k6.size)
 clear RF b9 k1 k2 k3 k4 k5 k6 bQ dG fr B8 c0 c1 c2 c3 c4 c5
 go_wp2
 refine bodyPost_ret (v:=.tuple #[.agg #[.int .i64 y.e,.int .u8 y.r,.int .i64 y.a,.int .u8 y.p,.int .i64 y.f,.int .i64 y.b],.int .i64 ye]) (by simp[results,Tryz.results89,go_sem,u0,u1,u2,u3,u4,u5]) rfl ?_
 exact⟨rfl,BV.out⟩
theorem akW {l cs:List Cm.Cv}(hl:Cm.Good 0 0 l)(h:Cm.Good (Cm.lastE 0 l) l.length cs)(k:Nat)(hk:k<cs.length):Cm.Good 0 0 (l++cs.take k)∧Cm.chk (cs[k]).e (cs[k]).n (cs[k]).l=0∧(cs[k]).n-1=(l++cs.take k).length∧Cm.lastE 0 (l++cs.take k)≤(cs[k]).e:=by
 have h0:Cm.Good 0 0 (l++cs):=(Cm.dX _ _ _ _).2 ⟨hl,by rw[Wl.kL hl];exact h⟩
 rw[←List.take_append_drop k cs,←List.append_assoc]at h0
 obtain⟨h1,h2⟩:=(Cm.dX _ _ _ _).1 h0
 rw[Wl.kL h1,List.drop_eq_getElem_cons hk]at h2
 exact⟨h1,h2.1,h2.2.1,h2.2.2.1⟩
theorem arG {d:Dm.Ds}{l:List Cm.Cv}{c:Cm.Cv}(h1:Cm.chk c.e c.n c.l=0)(h2:c.n-1=l.length)(h3:Cm.lastE 0 l≤c.e):
  Wl.mF ⟨d,l,false⟩ c=if (Dm.write d 0 (Wl.fr c)).1≠0 then(6,⟨(Dm.write d 0 (Wl.fr c)).2,l,true⟩)else(0,⟨(Dm.write d 0 (Wl.fr c)).2,l++[c],false⟩):=by
 unfold Wl.mF
 cases ho:d.on with
 |false=>
  have ha:Wl.ask ⟨d,l,false⟩=true:=by simp[Wl.ask,ho]
  have hw:Dm.write d 0 (Wl.fr c)=(6,d):=by unfold Dm.write;rw[if_pos ho]
  rw[if_pos ha,hw]
  rfl
 |true=>
  have ha:¬Wl.ask ⟨d,l,false⟩=true:=by simp[Wl.ask,ho]
  rw[if_neg ha,if_neg (by simp[h1]),if_neg (by simp only;omega)]
  have e:=acj (st:=d) (Wl.fr c)
  split
  ·rename_i hx
   rcases e with e|e
   ·exact absurd e hx
   ·rw[e]
  ·rfl
theorem aq8 (d:Dm.Ds)(l:List Cm.Cv):∃bk,Wl.rO ⟨d,l,false⟩=((Dm.sync d).1,⟨(Dm.sync d).2,l,bk⟩)∧((Dm.sync d).1=0→bk=false):=by
 unfold Wl.rO
 cases ho:d.on with
 |false=>
  have ha:Wl.ask ⟨d,l,false⟩=true:=by simp[Wl.ask,ho]
  have hw:Dm.sync d=(6,d):=by unfold Dm.sync;rw[if_pos ho]
  rw[if_pos ha,hw]
  exact⟨true,rfl,fun k=>absurd k (by show ¬(6:Int)=0;decide)⟩
 |true=>
  have ha:¬Wl.ask ⟨d,l,false⟩=true:=by simp[Wl.ask,ho]
  rw[if_neg ha]
  exact⟨_,rfl,fun k=>by simp[k]⟩
def ru (pw q:Nat) (FW:Nat→Prop) (w wr:World) (l cs:List Cm.Cv) (d:Dm.Ds) (k:Nat):Prop:=
 ∃Fk dk,WW pw q Fk wr ⟨dk,l++cs.take k,false⟩∧Out FW w wr∧(∀g,Fk g→FW g∨w.heap.size≤g)∧Rst.wrs d cs=Rst.wrs dk (cs.drop k)∧Big (50000000+433*k) (500000+7*k) dk
def ExO (pw q:Nat) (FW:Nat→Prop) (w w':World) (l cs:List Cm.Cv) (d:Dm.Ds):Prop:=
 ∃F' lw bk,WW pw q F' w' ⟨(Rst.fu d cs).2,lw,bk⟩∧l=lw.take l.length∧((Rst.fu d cs).1=0→lw=l++cs∧bk=false)∧Out FW w w'∧∀g,F' g→FW g∨w.heap.size≤g
theorem ru.box {pw q:Nat}{FW:Nat→Prop}{w wr V:World}{l cs:List Cm.Cv}{d:Dm.Ds}{k:Nat}(h:ru pw q FW w wr l cs d k)(hb:Below wr.heap.size wr V):ru pw q FW w V l cs d k:=by
 obtain⟨Fk,dk,h1,h2,h3,h4,h5⟩:=h
 exact⟨Fk,dk,h1.below hb,h2.trans (Out.of_below (F:=fun _=>False) hb) fun g hg=>hg.elim,h3,h4,h5⟩
theorem alf (v:Value)(pw q:Nat)(FW:Nat→Prop)(w V:World)(l:List Cm.Cv)(rs:List Cw)(d:Dm.Ds)(k:Nat)(hk:k<rs.length)(h:ru pw q FW w V l (az rs) d k)(hl:Cm.Good 0 0 l)(hg:Cm.Good (Cm.lastE 0 l) l.length (az rs))(hn:rs.length≤100)(hc:dJ V v rs)(hf:dV rs)(jQ:∀c∈rs,0<c.l.length→∀b,c.v.ownBlock=some b→b<w.heap.size∧¬FW b):
  Calls Tryz.prog 112 #[.pointer (some ⟨pw,0,none⟩),bT (rs[k]).e (rs[k]).n (rs[k]).v] V fun E w'=>∃e,E=.returned (.int .i64 e)∧Out FW w w'∧((e=0∧ru pw q FW w w' l (az rs) d (k+1))∨(e≠0∧e=(Rst.fu d (az rs)).1∧ExO pw q FW w w' l (az rs) d)):=by
 obtain⟨Fk,dk,h1,h2,h3,h4,h5⟩:=h
 have hm:rs[k]∈rs:=List.getElem_mem hk
 have hkc:k<(az rs).length:=by unfold az;simpa using hk
 have hce:(az rs)[k]=(rs[k]).c:=List.getElem_map _
 obtain⟨g1,g2,g3,g4⟩:=akW hl hg k hkc
 rw[hce]at g2 g3 g4
 obtain⟨i1,i2⟩:=hc.2 _ hm
 have hlo:(rs[k]).l.length*40≤140737488351232:=by
  have:=(hf _ hm).2
  omega
 have AP:=agw pw q Fk V ⟨dk,l++(az rs).take k,false⟩ (rs[k]) h1 (h5.mono (by omega) (by omega)) i1 (hf _ hm).1 i2 hlo (fun h0 b hb hF=>by
  obtain⟨q1,q2⟩:=jQ _ hm h0 b hb
  rcases h3 b hF with e|e
  ·exact q2 e
  ·omega)
 rw[arG g2 g3 g4]at AP
 rw[List.drop_eq_getElem_cons hkc,hce,show Rst.wrs dk ((rs[k]).c::(az rs).drop (k+1))=(if (Dm.write dk 0 (Wl.fr (rs[k]).c)).1≠0 then(6,(Dm.write dk 0 (Wl.fr (rs[k]).c)).2)else Rst.wrs (Dm.write dk 0 (Wl.fr (rs[k]).c)).2 ((az rs).drop (k+1)))from rfl]at h4
 have hb:=jZ h5 0 (Wl.fr (rs[k]).c)
 have hfs:=Wl.lG (c:=(rs[k]).c) g2
 have hcn:cnt (Wl.fr (rs[k]).c).length≤7:=by unfold cnt;omega
 refine AP.mono ?_
 rintro E w' ⟨rfl,F',k1,k2,k3⟩
 have o':Out FW w w':=h2.trans k2 h3
 have hs:=h2.size
 have n':∀g,F' g→FW g∨w.heap.size≤g:=fun g hg=>by
  rcases k3 g hg with e|e
  ·exact h3 g e
  ·exact .inr (by omega)
 by_cases he:(Dm.write dk 0 (Wl.fr (rs[k]).c)).1=0
 ·rw[if_neg (by simp[he])]at k1 h4⊢
  refine⟨0,rfl,o',.inl ⟨rfl,F',_,?_,o',n',h4,hb.mono (by omega) (by omega)⟩⟩
  rw[show(az rs).take (k+1)=(az rs).take k++[(rs[k]).c]by rw[List.take_add_one,List.getElem?_eq_getElem hkc,hce];rfl,←List.append_assoc]
  exact k1
 ·rw[if_pos he]at k1 h4⊢
  have hw:Rst.fu d (az rs)=(6,(Dm.write dk 0 (Wl.fr (rs[k]).c)).2):=by unfold Rst.fu;rw[h4];simp
  refine⟨6,rfl,o',.inr ⟨by decide,by rw[hw],F',l++(az rs).take k,true,?_,by simp,fun k=>by rw[hw]at k;exact absurd k (by show ¬(6:Int)=0;decide),o',n'⟩⟩
  rw[hw]
  exact k1
theorem anc (pw q:Nat)(FW:Nat→Prop)(w V:World)(l:List Cm.Cv)(cs:List Cm.Cv)(d:Dm.Ds)(h:ru pw q FW w V l cs d cs.length)(hn:cs.length≤100):
  Calls Tryz.prog 113 #[.pointer (some ⟨pw,0,none⟩)] V fun E w'=>E=.returned (.int .i64 (Rst.fu d cs).1)∧ExO pw q FW w w' l cs d:=by
 obtain⟨Fk,dk,h1,h2,h3,h4,h5⟩:=h
 rw[List.drop_length]at h4
 rw[List.take_length]at h1
 have hw:Rst.fu d cs=((Dm.sync dk).1,(Dm.sync dk).2):=by
  unfold Rst.fu
  rw[h4]
  unfold Rst.wrs
  rw[if_neg (by simp)]
  rcases aay dk with e|e
  ·rw[if_neg (by simp[e]),e]
  ·rw[if_pos (by simp[e]),e]
 obtain⟨bk,e1,e2⟩:=aq8 dk (l++cs)
 have SY:=acV pw q Fk V ⟨dk,l++cs,false⟩ h1 (h5.mono (by omega) (by omega))
 rw[e1]at SY
 refine SY.mono ?_
 rintro E w' ⟨rfl,F',k1,k2,k3⟩
 have hs:=h2.size
 refine⟨by rw[hw],F',l++cs,bk,?_,by simp,fun k=>⟨rfl,e2 (by rw[hw]at k;exact k)⟩,h2.trans k2 h3,fun g hg=>?_⟩
 ·rw[hw];exact k1
 ·rcases k3 g hg with e|e
  ·exact h3 g e
  ·exact .inr (by omega)
end Go.Proofs.YtjemlgdkjilnoaaGreatDoor
