/- Texts of one layer, one behind the other. -/
import Derived.Test.YtmngcecomcadkaaGreatDoorCH28
import Derived.Test.YtmngcecomcadkaaGreatDoorCH29
import Derived.Test.YtmngcecomcadkaaGreatDoorCH16
import Derived.Test.YtmngcecomcadkaaGreatDoorCZRrg
import Derived.Deep.RegionHeld3
import Derived.Test.YtmngcecomcadkaaGreatDoorCH27
set_option maxRecDepth 100000
set_option maxHeartbeats 8000000
namespace Go.Proofs.YtmngcecomcadkaaGreatDoor
open Go.RowKit
set_option linter.unusedVariables false
theorem akD (w:World)(p g3:Nat)(x:Pm.Pg)(ep en rn u:Int)(h3:w.heap[g3]? =some (.cells #[.int .i64 u] 3 (0,0))):Chg w p 180 #[.pointer (some ⟨g3,0,none⟩)] x ep en rn x ep u rn:=by
 intro W g hW hg hP
 show Calls _ _ #[.pointer (some ⟨g,0,none⟩),.pointer (some ⟨g3,0,none⟩)] _ _
 have d0:=ai ((hW.block g3 (ax h3)).trans h3) 0 rfl
 unfold jc at hP⊢
 obtain⟨c0,c1,c2,c3,c4,c5,c6,c7,c8,c9⟩:=mh hP
 have f7:=aA hP 7
 have q7:=aH hP 7 (.int .i64 u)
 have gr:=az W ⟨g,7,none⟩ (.int .i64 u)
 obtain⟨V,hV⟩:∃V,W.setCell ⟨g,7,none⟩ (.int .i64 u)=V:=⟨_,rfl⟩
 rw[hV]at q7 gr
 have R:Hid (V.heap[g]? =some (.cells #[.int .i64 x.e,.int .u8 x.r,.int .i64 x.a,.int .u8 x.p,.int .i64 x.f,.int .i64 x.b,.int .i64 ep,.int .i64 u,.int .i64 rn,.func (.func 109) #[.pointer (some ⟨p,0,none⟩)] #[]] 119 (0,0))∧Out (fun i=>i=g) W V):=hide ⟨q7,Out.aQ gr fun i hi=>by simpa using hi.symm⟩
 clear q7 gr h3 hP
 go_enter Tryz.func180,Tryz.ntmps180
 go_wp2
 go_end0
 exact⟨rfl,R.out⟩
theorem ail (g2 g3 p:Nat)(w:World)(r:Int)(h2:w.cell? ⟨g2,0,none⟩=some (.pointer (some ⟨p,0,none⟩)))(hs:Calls Tryz.prog 62 #[.pointer (some ⟨p,0,none⟩),.func (.func 180) #[] #[.pointer (some ⟨g3,0,none⟩)]] w fun E w'=>E=.returned (.int .i64 r)∧Below w.heap.size w w'):
  Calls Tryz.prog 179 #[.pointer (some ⟨g2,0,none⟩),.pointer (some ⟨g3,0,none⟩)] w fun E w'=>E=.returned (.int .i64 r)∧Below w.heap.size w w':=by
 have rG:∀(fn:Fn) (first cap:Array Value) (w:World),(Instr.makeFunc fn first cap).run Tryz.prog w=.ok (.func fn first cap) w:=fun _ _ _ _=>rfl
 have PC:=hide hs
 clear hs
 go_enter Tryz.func179,Tryz.ntmps179
 go_wp2_with fail
 refine PC.out.mono ?_
 rintro E w' ⟨rfl,b⟩
 have B:=hide b
 clear b PC
 go_wp2
 go_ret
 exact⟨rfl,B.out⟩
theorem aiw (g2 g3 p:Nat)(w:World)(u r:Int)(X:World→Prop)(h2:w.cell? ⟨g2,0,none⟩=some (.pointer (some ⟨p,0,none⟩)))(h3:w.cell? ⟨g3,0,none⟩=some (.int .i64 u))(hs:Calls Tryz.prog 182 #[.pointer (some ⟨p,8,none⟩),.int .i64 u] w.drew fun E w'=>E=.returned (.int .i64 r)∧X w')(hX:∀w',X w'→w'.cell? ⟨g2,0,none⟩=some (.pointer (some ⟨p,0,none⟩))∧w'.cell? ⟨g3,0,none⟩=some (.int .i64 u)):
  Calls Tryz.prog 181 #[.pointer (some ⟨g2,0,none⟩),.pointer (some ⟨g3,0,none⟩)] w fun E w'=>E=.returned (.int .i64 r)∧X w':=by
 have PC:=hide hs
 have HX:=hide hX
 clear hs hX
 go_enter Tryz.func181,Tryz.ntmps181
 go_wp2_with fail
 go_region_held3 (fun w'=>w'.cell? ⟨g2,0,none⟩=some (.pointer (some ⟨p,0,none⟩))∧w'.cell? ⟨g3,0,none⟩=some (.int .i64 u)) (first|exact⟨h2,h3⟩|exact hK|go_keep)
  (first
  |(go_at_call 182;refine PC.out.mono ?_;rintro E w' ⟨rfl,k⟩;have hK:=HX.out _ k;have K:=hide k;clear k))
 go_wp2
 go_ret
 exact⟨rfl,K.out⟩
theorem agl (p q:Nat)(F:Nat→Prop)(w:World)(s:Rst.St)(h:PS p q F w s)(hR:pG s)(h3:T3 s.d∧¬F 0)(dV:Rst.asked s=false)(hrr:s.r=[])(u:Nat)(hu:u≤s.l.length)(hin:(Wl.aR s.l).length≤(Wl.hld s.d).length)(hcut:(Rst.cut s u).1=0)(hch:qA s.p (Cm.lastE 0 s.l) u 0 (Rst.hf 3 s.d).length=true):
  Calls Tryz.prog 130 #[.pointer (some ⟨p,0,none⟩),.int .i64 u] w fun E w'=>E=.returned (.int .i64 0)∧bI p q F w w' ⟨(Rst.cut s u).2,s.p,s.l.take u,s.r,s.off⟩:=by
 have rG:∀(fn:Fn) (first cap:Array Value) (w:World),(Instr.makeFunc fn first cap).run Tryz.prog w=.ok (.func fn first cap) w:=fun _ _ _ _=>rfl
 obtain⟨w1,hw1,s1,b1,P1⟩:=ak w #[.pointer (some ⟨p,0,none⟩)] 41
 obtain⟨w2,hw2,s2,b2,P2⟩:=ak w1 #[.int .i64 u] 3
 obtain⟨w3,hw3,s3,b3,P3⟩:=ak w2 #[.func (.func 58) #[.pointer (some ⟨p,0,none⟩)] #[],.func (.func 177) #[] #[.pointer (some ⟨w.heap.size,0,none⟩),.pointer (some ⟨w.heap.size+1,0,none⟩)],.func (.func 179) #[] #[.pointer (some ⟨w.heap.size,0,none⟩),.pointer (some ⟨w.heap.size+1,0,none⟩)],.func (.func 181) #[] #[.pointer (some ⟨w.heap.size,0,none⟩),.pointer (some ⟨w.heap.size+1,0,none⟩)],.func (.func 56) #[.pointer (some ⟨p,0,none⟩)] #[]] 154
 have z2:w2.heap.size=w.heap.size+2:=by omega
 have z3:w3.heap.size=w.heap.size+3:=by omega
 rw[s1]at P2
 rw[z2]at P3
 have fV:Below w.heap.size w w3:=(b1.trans (b2.mono (by omega))).trans (b3.mono (by omega))
 have c2:w2.cell? ⟨w.heap.size,0,none⟩=some (.pointer (some ⟨p,0,none⟩)):=ai ((b2.block _ (by omega)).trans P1) 0 rfl
 have t3:=(b3.block _ (by omega)).trans ((b2.block _ (by omega)).trans P1)
 have u3:=(b3.block _ (by omega)).trans P2
 have lS:=h.below fV
 have hon:s.d.on=true:=by
  unfold Rst.asked at dV
  revert dV
  cases s.d.on<;>simp
 have hoff:s.off=false:=by
  unfold Rst.asked at dV
  revert dV
  cases s.off<;>simp
 have hr0:Cm.lastN 0 s.r=0:=by rw[hrr];rfl
 obtain⟨r,hr⟩:∃r:Int×Rst.St,r=(0,⟨(Rst.cut s u).2,s.p,s.l.take u,s.r,s.off⟩):=⟨_,rfl⟩
 have RUN:Run (w.heap.size+2) (QS p q F w r) [.func (.func 58) #[.pointer (some ⟨p,0,none⟩)] #[],.func (.func 177) #[] #[.pointer (some ⟨w.heap.size,0,none⟩),.pointer (some ⟨w.heap.size+1,0,none⟩)],.func (.func 179) #[] #[.pointer (some ⟨w.heap.size,0,none⟩),.pointer (some ⟨w.heap.size+1,0,none⟩)],.func (.func 181) #[] #[.pointer (some ⟨w.heap.size,0,none⟩),.pointer (some ⟨w.heap.size+1,0,none⟩)],.func (.func 56) #[.pointer (some ⟨p,0,none⟩)] #[]] w3:=by
  refine uN lS (bI.same h fV) (fun k=>by rw[dV]at k;cases k) fun _=>?_
  obtain⟨F1,G,h1,⟨pw,pr,ps,Gw,Gr,Gs,lw,bw,br,V,rfl⟩,hd,hm,rfl⟩:=lS
  obtain⟨rfl,rfl,rfl⟩:=V.live hoff
  have hb:=V.blk
  refine Run.cons (enters_of Tryz.func177 (by kernel_rfl) rfl) (by simp) ((aiM _ _ p w3 u _ (ai t3 0 rfl) (ai u3 0 rfl) (agn p pr q _ w3 _ u _ (ai hb 11 rfl) (ai hb 9 rfl) (V.rw h1))).mono ?_)
  rintro E w4 ⟨rfl,rfl⟩
  refine⟨_,rfl,rfl,?_⟩
  rw[if_neg (by show ¬((u:Int)<Cm.lastN 0 s.r∨(s.l.length:Int)<u);rw[hr0];omega)]
  refine .inr ⟨rfl,?_⟩
  have SC:=vV p q pw pr _ _ w3 _ _ _ _ _ _ hb (V.ww h1) (V.rw h1) 180 #[.pointer (some ⟨w.heap.size+1,0,none⟩)] (enters_of Tryz.func180 (by kernel_rfl) rfl) s.p _ _ _ (Rst.hf 3 s.d).length (akD w3 p (w.heap.size+1) s.p _ _ _ u u3) (fun _=>ajt p q F1 w3 s.d h1 hR.1 (ai hb 0 rfl) (ax hb) hon h3.1)
  simp only at SC
  rw[hr0,if_pos hch]at SC
  refine Run.cons (enters_of Tryz.func179 (by kernel_rfl) rfl) (by simp) ((ail _ _ p w3 _ (ai t3 0 rfl) SC).mono ?_)
  rintro E w5 ⟨rfl,b5⟩
  have qF:=fV.trans (b5.mono (by omega))
  have z5:=b5.size
  refine⟨_,rfl,b5.block _ (by omega),.inr ⟨rfl,?_⟩⟩
  have t5:=(b5.block _ (by omega)).trans t3
  have u5:=(b5.block _ (by omega)).trans u3
  have b5d:Below w3.heap.size w3 w5.drew:=b5.drew
  have V5:=V.below b5d
  have h15:=h1.below b5d
  have hm5:=hm.below b5d
  have hto:((u:Int)).toNat=u:=by omega
  have hwc:Wl.iM ⟨s.d,s.l,false⟩ u=(0,⟨(Dm.cK s.d 0 (Wl.aR (s.l.take u)).length).2,s.l.take u,false⟩)∧Wl.rY (Wl.iM ⟨s.d,s.l,false⟩ u).2=(0,⟨(Rst.cut s u).2,s.l.take u,false⟩):=by
   unfold Rst.cut at hcut
   rw[hto]at hcut
   split at hcut
   ·exact absurd hcut (by simp)
   rename_i g1
   split at hcut
   ·exact absurd hcut (by simp)
   rename_i g2
   have e0:Wl.iM ⟨s.d,s.l,false⟩ u=(0,⟨(Dm.cK s.d 0 (Wl.aR (s.l.take u)).length).2,s.l.take u,false⟩):=by
    unfold Wl.iM
    rw[if_neg (by simp[Wl.ask,hon]),if_neg (by show ¬((u:Int)<0∨(s.l.length:Int)<u);omega),hto,if_neg g1]
   have on2:(Dm.cK s.d 0 (Wl.aR (s.l.take u)).length).2.on=true:=by
    cases hq:(Dm.cK s.d 0 (Wl.aR (s.l.take u)).length).2.on with
    |true=>rfl
    |false=>
     exfalso
     apply g2
     unfold Dm.sync
     rw[if_pos hq]
     simp
   refine⟨e0,?_⟩
   rw[e0]
   unfold Wl.rY
   rw[if_neg (by simp[Wl.ask,on2])]
   have e1:(Dm.sync (Dm.cK s.d 0 (Wl.aR (s.l.take u)).length).2).1=0:=Classical.byContradiction fun e=>g2 e
   unfold Rst.cut
   rw[hto,if_neg g1,if_neg g2]
   simp[e1]
  have CT:=al9 p q pw _ w5.drew ⟨s.d,s.l,false⟩ u _ V5.blk rfl rfl (V5.ww h15) hR.1 (by
   rintro(e|e)
   ·exact hd p (.inl rfl) e
   ·exact V.np.1 e) hu hR.2 hin (by rw[hwc.1]) (by rw[hwc.2])
  rw[hwc.2]at CT
  have kM:∀g,F1 g∨PB p Gw Gr Gs g→g<w.heap.size:=fun g hg=>h.lt g hg
  obtain⟨XX,hXX⟩:∃XX:World→Prop,XX=fun w'=>∃F',WW pw q F' w' ⟨(Rst.cut s u).2,s.l.take u,false⟩∧w'.heap[p]? =some (.cells (eF q s.off s.p (.pointer (some ⟨pw,0,none⟩)) (u:Int) (.pointer (some ⟨pr,0,none⟩)) (.pointer (some ⟨ps,0,none⟩))) 94 (0,0))∧Out (fun g=>(F1 g∨Gw g)∨g=p) w5.drew w'∧∀g,F' g→(F1 g∨Gw g)∨w5.drew.heap.size≤g:=⟨_,rfl⟩
  have nX:∀g,w.heap.size≤g→¬((F1 g∨Gw g)∨g=p):=by
   rintro g hg ((e|e)|e)
   ·have:=kM g (.inl e);omega
   ·have:=kM g (.inr (.inr (.inl e)));omega
   ·have:=kM p (.inr (.inl rfl));omega
  have hX:∀w',XX w'→∀g,w.heap.size≤g→g<w5.heap.size→w'.heap[g]? =w5.heap[g]? :=by
   intro w' k g g1 g2
   subst hXX
   obtain⟨_,_,_,k,_⟩:=k
   exact k.block g g2 (nX g g1)
  refine Run.cons (enters_of Tryz.func181 (by kernel_rfl) rfl) (by simp) ((aiw _ _ p w5 u 0 XX (ai t5 0 rfl) (ai u5 0 rfl) (by subst hXX;exact CT) (fun w' k=>⟨ai ((hX w' k _ (by omega) (by omega)).trans t5) 0 rfl,ai ((hX w' k _ (by omega) (by omega)).trans u5) 0 rfl⟩)).mono ?_)
  rintro E w6 ⟨rfl,k⟩
  have B6:=hX w6 k (w.heap.size+2) (by omega) (by omega)
  refine⟨_,rfl,B6,.inr ⟨rfl,?_⟩⟩
  subst hXX
  obtain⟨FW,⟨F6,G6,d6,wk6,rfl⟩,pb6,o6,n6⟩:=k
  have d6:Pk q F6 w6 (Rst.cut s u).2:=d6
  have wk6:Wk pw q G6 w6 (s.l.take u) false:=wk6
  have z6:=o6.size
  have z6:w5.heap.size≤w6.heap.size:=z6
  have rk6:Rk pr q Gr w6 s.r false:=V5.run.out o6 (by
   rintro g e ((k|k)|k)
   ·exact hd g (.inr (.inr (.inl e))) k
   ·exact V.wr g k e
   ·exact V.np.2.1 (k▸e))
  have ayW:w6.heap[p]? =some (.cells (eF q s.off s.p (.pointer (some ⟨pw,0,none⟩)) (s.l.take u).length (.pointer (some ⟨pr,0,none⟩)) (.pointer (some ⟨ps,0,none⟩))) 94 (0,0)):=by
   rw[show(((s.l.take u).length:Nat):Int)=u by rw[List.length_take];omega]
   exact pb6
  have hm6:eH w6:=gI hm5 o6 (by
   rintro((e|e)|e)
   ·exact h3.2 (.inl e)
   ·exact h3.2 (.inr (.inr (.inl e)))
   ·exact wE hm V.blk rfl e.symm)
  have OS:=vP p q pw pr F6 G6 Gr w6 s.off s.p _ _ (s.l.take u) s.r ayW ⟨_,rfl⟩ d6 wk6 rk6 (by rw[hr0];omega) (by have:=hR.2;rw[List.length_take];omega)
  refine Run.cons (enters_of Tryz.func56 (by kernel_rfl) rfl) (by simp) (OS.mono ?_)
  rintro E w7 ⟨rfl,ps7,Gs7,sk7,ge7,pb7,o7⟩
  have np6:¬F6 p:=fun e=>by
   rcases n6 p (.inl e)with(k|k)|k
   ·exact hd p (.inl rfl) k
   ·exact V.np.1 k
   ·have k:w5.heap.size≤p:=k
    have:=kM p (.inr (.inl rfl));omega
  have ng6:¬G6 p:=fun e=>by
   rcases n6 p (.inr e)with(k|k)|k
   ·exact hd p (.inl rfl) k
   ·exact V.np.1 k
   ·have k:w5.heap.size≤p:=k
    have:=kM p (.inr (.inl rfl));omega
  refine⟨_,rfl,o7.block _ (by omega) (fun e=>by have:=kM p (.inr (.inl rfl));omega),.inr ⟨rfl,QS.no hr (by decide) ?_⟩⟩
  have ayp:∀g,G6 g→¬F6 g:=fun g e k=>uA wk6 d6 g e k
  have g6:∀g,F6 g∨G6 g→(F1 g∨PB p Gw Gr Gs g)∨w.heap.size≤g:=fun g e=>by
   rcases n6 g e with(k|k)|k
   ·exact .inl (.inl k)
   ·exact .inl (.inr (.inr (.inl k)))
   ·have k:w5.heap.size≤g:=k
    exact .inr (by omega)
  have nr6:∀g,F6 g∨G6 g→¬Gr g:=fun g e j=>by
   rcases n6 g e with(k|k)|k
   ·exact hd g (.inr (.inr (.inl j))) k
   ·exact V.wr g k j
   ·have k:w5.heap.size≤g:=k
    have:=kM g (.inr (.inr (.inr (.inl j))));omega
  have p0:=kM p (.inr (.inl rfl))
  refine⟨fun g=>F6 g∨PB p G6 Gr Gs7 g,⟨F6,PB p G6 Gr Gs7,d6.out o7 fun g e k=>np6 (k▸e),⟨pw,pr,ps7,G6,Gr,Gs7,s.l.take u,false,false,⟨pb7,wk6.out o7 fun g e k=>ng6 (k▸e),rk6.out o7 fun g e k=>V.np.2.1 (k▸e),sk7,List.take_length.symm,fun _=>⟨rfl,rfl,rfl⟩,V.ok,V.fit,?_,?_,⟨ng6,V.np.2.1,fun e=>by have:=ge7 p e;omega⟩,fun g e=>nr6 g (.inr e),fun g e k=>by have:=ge7 g k;have:=wk6.lt g e;omega,fun g e k=>by have:=ge7 g k;have:=kM g (.inr (.inr (.inr (.inl e))));omega⟩,rfl⟩,?_,gI hm6 o7 fun e=>wE hm V.blk rfl e.symm,rfl⟩,?_,?_⟩
  ·show Cm.Good 1 (Cm.lastN 0 s.r) ((s.l.take u).drop (Cm.lastN 0 s.r).toNat)
   have:=V.rest
   rw[hr0]at this⊢
   exact Cm.gL (by simpa using this) u
  ·show Cm.lastN 0 s.r≤((s.l.take u).length:Int)
   rw[hr0]
   omega
  ·rintro g (rfl|e|e|e) k
   ·exact np6 k
   ·exact ayp g e k
   ·exact nr6 g (.inl k) e
   ·have:=ge7 g e;have:=d6.lt g k;omega
  ·refine(((Out.of_below fV).trans (Out.of_below b5d) fun g e=>.inl e).trans (o6.mono fun g e=>?_) fun g e=>.inl e).trans (o7.mono fun g e=>.inl (.inr (.inl e))) fun g e=>.inl e
   rcases e with(e|e)|e
   ·exact .inl (.inl e)
   ·exact .inl (.inr (.inr (.inl e)))
   ·exact .inl (.inr (.inl e))
  ·rintro g (e|rfl|e|e|e)
   ·exact g6 g (.inl e)
   ·exact .inl (.inr (.inl rfl))
   ·exact g6 g (.inr e)
   ·exact .inl (.inr (.inr (.inr (.inl e))))
   ·have:=ge7 g e
    exact .inr (by omega)
 have HC:=hide (xW (n:=5) rfl (by omega) P3 RUN)
 subst hr
 clear RUN h hR h3 hch hcut hin b1 b2 b3 P1 P2 P3 s2 s3 z3 fV t3 u3 lS
 generalize (u:Int)=uu at*
 go_enter Tryz.func130,Tryz.ntmps130
 go_wp2_with fail
 refine HC.out.mono ?_
 rintro E w' ⟨rfl,X⟩
 have X:=hide X
 clear HC
 go_wp2
 go_ret
 exact⟨rfl,X.out⟩
theorem bI.blk {p q R:Nat}{F:Nat→Prop}{w w2:World}{s1:Rst.St}{o:Obj}(k:bI p q F w w2 s1)(hR:w.heap[R]? =some o)(hF:¬F R):w2.heap[R]? =some o:=by
 obtain⟨_,_,k,_⟩:=k
 refine(k.block R ?_ hF).trans hR
 exact(Array.getElem?_eq_some_iff.1 hR).1
theorem apF (p q:Nat)(F:Nat→Prop)(w:World)(s:Rst.St)(h:PS p q F w s)(hR:pG s)(h3:T3 s.d∧¬F 0)(dV:Rst.asked s=false)(hrr:s.r=[])(hin:(Wl.aR s.l).length≤(Wl.hld s.d).length)(x:Pm.Pg)(hx:eU x)(fk:Nat)(hxf:x.f=fk)(jl:fk≤s.l.length)(hcut:(Rst.cut s fk).1=0)(hch:qA s.p (Cm.lastE 0 s.l) fk 0 (Rst.hf 3 s.d).length=true):
  Calls Tryz.prog 81 #[.pointer (some ⟨p,0,none⟩),vp x] w fun E w'=>E=.returned (.tuple #[vp (Rol.nx x 3 4),.int .i64 (Rol.gK x 3)])∧bI p q F w w' ⟨(Rst.cut s fk).2,s.p,s.l.take fk,s.r,s.off⟩:=by
 obtain⟨w1,hw1,s1,b1,P1⟩:=ak w (cp x) 46
 obtain⟨w2,hw2,s2,b2,P2⟩:=ak w1 #[.int .i64 0,.int .u8 0,.int .i64 0,.int .u8 0,.int .i64 0,.int .i64 0] 46
 rw[s1]at P2
 have b02:Below w.heap.size w w2:=b1.trans (b2.mono (by omega))
 have eX:=(b2.block w.heap.size (by omega)).trans P1
 obtain⟨c0,c1,c2,c3,c4,c5⟩:=aN (by unfold cp at eX;exact eX)
 have gN:∀g,F g→g<w.heap.size:=h.lt
 obtain⟨s',hs'⟩:∃s':Rst.St,(⟨(Rst.cut s fk).2,s.p,s.l.take fk,s.r,s.off⟩:Rst.St)=s':=⟨_,rfl⟩
 have SH:Hid (Calls Tryz.prog 130 #[.pointer (some ⟨p,0,none⟩),.int .i64 x.f] w2 fun E w'=>E=.returned (.int .i64 0)∧bI p q F w2 w' s'):=hide (by
  rw[hxf,←hs']
  exact agl p q F w2 s (h.below b02) hR h3 dV hrr fk jl hin hcut hch)
 have KP:Hid (∀W,bI p q F w2 W s'→W.heap[w.heap.size]? =some (.cells (cp x) 46 (0,0))∧W.heap[w.heap.size+1]? =some (.cells #[.int .i64 0,.int .u8 0,.int .i64 0,.int .u8 0,.int .i64 0,.int .i64 0] 46 (0,0))∧eH W):=hide fun W k=>⟨k.blk eX fun e=>by have:=gN _ e;omega,k.blk P2 fun e=>by have:=gN _ e;omega,by obtain⟨_,k,_⟩:=k;exact k.gz⟩
 have PV:Hid (∀W W2 V,bI p q F w2 W s'→Below W.heap.size W W2→W2.grownBy V (some (w.heap.size+1))→bI p q F w V s'):=hide fun W W2 V j1 j2 j3=>bI.res b02 j1 j2 j3 (by omega) (by omega) (fun e=>by have:=gN _ e;omega) h.gz.pos
 have HV:Hid (∀y:Pm.Pg,vp y=.agg #[.int .i64 y.e,.int .u8 y.r,.int .i64 y.a,.int .u8 y.p,.int .i64 y.f,.int .i64 y.b]):=hide fun _=>rfl
 have HX:=hide hx
 obtain⟨y,hy⟩:∃y,Rol.nx x 3 4=y:=⟨_,rfl⟩
 obtain⟨ye,hye⟩:∃ye,Rol.gK x 3=ye:=⟨_,rfl⟩
 rw[hs',hy,hye,HV.out x,HV.out]
 have HY:=hide (And.intro hy hye)
 unfold cp at hw1
 clear h hR h3 dV hrr hin hx hxf jl hcut hch b1 b2 P1 P2 eX b02 gN hs' hy hye
 go_enter Tryz.func81,Tryz.ntmps81
 go_wp2_with fail
 refine SH.out.mono ?_
 rintro E w7 ⟨rfl,k7⟩
 obtain⟨p7,r7,m7⟩:=KP.out w7 k7
 obtain⟨c0,c1,c2,c3,c4,c5⟩:=aN p7
 have RF:=hide (aol x w7 HX.out m7)
 rw[HY.out.1,HY.out.2,HV.out x,HV.out]at RF
 have K7:=hide k7
 have R7:=hide r7
 clear SH k7 r7 m7 KP p7
 go_wp2_with fail
 refine RF.out.mono ?_
 rintro E w9 ⟨rfl,b9⟩
 obtain⟨V',hV',dN,cZ,⟨q0,q1,q2,q3,q4,q5⟩,fr,⟨u0,u1,u2,u3,u4,u5⟩⟩:=eu ((b9.block _ (ax R7.out)).trans R7.out) (.int .i64 y.e) (.int .u8 y.r) (.int .i64 y.a) (.int .u8 y.p) (.int .i64 y.f) (.int .i64 y.b)
 have g0:=fr 0;have g1:=fr 1;have g2:=fr 2;have g3:=fr 3;have g4:=fr 4;have g5:=fr 5
 have BV:=hide (PV.out _ _ _ K7.out b9 cZ)
 clear RF b9 R7 K7 cZ dN fr PV c0 c1 c2 c3 c4 c5
 go_wp2
 refine bodyPost_ret (v:=.tuple #[.agg #[.int .i64 y.e,.int .u8 y.r,.int .i64 y.a,.int .u8 y.p,.int .i64 y.f,.int .i64 y.b],.int .i64 ye]) (by simp[results,Tryz.results81,go_sem,u0,u1,u2,u3,u4,u5]) rfl ?_
 exact⟨rfl,BV.out⟩
theorem aoK (g1 g2 p q:Nat)(F:Nat→Prop)(w:World)(s s1:Rst.St)(x y:Pm.Pg)(m:Mw)(ye:Int)(h:PS p q F w s)(hg:w.cell? ⟨g1,0,none⟩=some (.pointer (some ⟨p,0,none⟩)))(hl:g1<w.heap.size)(hm:fq w g2 m)(hl2:g2<w.heap.size)
  (hd:∀W,Below w.heap.size w W→Calls Tryz.prog 77 #[.pointer (some ⟨p,0,none⟩),vp x,mv m] W fun E w'=>E=.returned (.tuple #[vp y,.int .i64 ye])∧bI p q F W w' s1):
  Calls Tryz.prog 76 #[vp x,.pointer (some ⟨g1,0,none⟩),.pointer (some ⟨g2,0,none⟩)] w fun E w'=>E=.returned (.tuple #[vp y,.int .i64 ye])∧bI p q F w w' s1:=by
 obtain⟨w1,hw1,aT,b1,P1⟩:=ak w (cp x) 46
 obtain⟨w2,hw2,dz,b2,P2⟩:=ak w1 #[.int .i64 0,.int .u8 0,.int .i64 0,.int .u8 0,.int .i64 0,.int .i64 0] 46
 rw[aT]at P2
 have b02:Below w.heap.size w w2:=b1.trans (b2.mono (by omega))
 have eX:=(b2.block w.heap.size (by omega)).trans P1
 obtain⟨c0,c1,c2,c3,c4,c5⟩:=aN (by unfold cp at eX;exact eX)
 have d0:w2.cell? ⟨g1,0,none⟩=some (.pointer (some ⟨p,0,none⟩)):=(b02.cell (p:=⟨g1,0,none⟩) hl).trans hg
 have m2:fq w2 g2 m:=(b02.block g2 hl2).trans hm
 obtain⟨a0,a1,a2,a3,a4,a5,a6,a7⟩:=m2.ei
 unfold mv at hd
 clear m2 hm hl2
 have gN:∀g,F g→g<w.heap.size:=h.lt
 have CD:=hide (hd w2 b02)
 have KP:Hid (∀W,bI p q F w2 W s1→W.heap[w.heap.size+1]? =some (.cells #[.int .i64 0,.int .u8 0,.int .i64 0,.int .u8 0,.int .i64 0,.int .i64 0] 46 (0,0))):=hide fun W k=>k.blk P2 fun e=>by have:=gN _ e;omega
 have PV:Hid (∀W V,bI p q F w2 W s1→W.grownBy V (some (w.heap.size+1))→bI p q F w V s1):=hide fun W V j1 j3=>bI.res b02 j1 (Below.refl _ _) j3 (by omega) (by omega) (fun e=>by have:=gN _ e;omega) h.gz.pos
 have HV:Hid (∀y:Pm.Pg,vp y=.agg #[.int .i64 y.e,.int .u8 y.r,.int .i64 y.a,.int .u8 y.p,.int .i64 y.f,.int .i64 y.b]):=hide fun _=>rfl
 rw[HV.out x,HV.out]at CD⊢
 unfold cp at hw1
 clear h hd hg hl b1 b2 P1 P2 eX b02 gN
 go_enter Tryz.func76,Tryz.ntmps76
 go_wp2_with fail
 refine CD.out.mono ?_
 rintro E w7 ⟨rfl,k7⟩
 obtain⟨V',hV',dN,cZ,⟨q0,q1,q2,q3,q4,q5⟩,fr,⟨u0,u1,u2,u3,u4,u5⟩⟩:=eu (KP.out w7 k7) (.int .i64 y.e) (.int .u8 y.r) (.int .i64 y.a) (.int .u8 y.p) (.int .i64 y.f) (.int .i64 y.b)
 have f0:=fr 0;have f1:=fr 1;have f2:=fr 2;have f3:=fr 3;have f4:=fr 4;have f5:=fr 5
 have BV:=hide (PV.out _ _ k7 cZ)
 clear CD k7 cZ dN fr PV KP
 go_wp2
 refine bodyPost_ret (v:=.tuple #[.agg #[.int .i64 y.e,.int .u8 y.r,.int .i64 y.a,.int .u8 y.p,.int .i64 y.f,.int .i64 y.b],.int .i64 ye]) (by simp[results,Tryz.results76,go_sem,u0,u1,u2,u3,u4,u5]) rfl ?_
 exact⟨rfl,BV.out⟩
theorem apP (g1 p q:Nat)(F:Nat→Prop)(w:World)(s s1:Rst.St)(x y:Pm.Pg)(ye:Int)(h:PS p q F w s)(hg:w.cell? ⟨g1,0,none⟩=some (.pointer (some ⟨p,0,none⟩)))(hl:g1<w.heap.size)
  (hd:∀W,Below w.heap.size w W→Calls Tryz.prog 79 #[.pointer (some ⟨p,0,none⟩),vp x] W fun E w'=>E=.returned (.tuple #[vp y,.int .i64 ye])∧bI p q F W w' s1):
  Calls Tryz.prog 78 #[vp x,.pointer (some ⟨g1,0,none⟩)] w fun E w'=>E=.returned (.tuple #[vp y,.int .i64 ye])∧bI p q F w w' s1:=by
 obtain⟨w1,hw1,aT,b1,P1⟩:=ak w (cp x) 46
 obtain⟨w2,hw2,dz,b2,P2⟩:=ak w1 #[.int .i64 0,.int .u8 0,.int .i64 0,.int .u8 0,.int .i64 0,.int .i64 0] 46
 rw[aT]at P2
 have b02:Below w.heap.size w w2:=b1.trans (b2.mono (by omega))
 have eX:=(b2.block w.heap.size (by omega)).trans P1
 obtain⟨c0,c1,c2,c3,c4,c5⟩:=aN (by unfold cp at eX;exact eX)
 have d0:w2.cell? ⟨g1,0,none⟩=some (.pointer (some ⟨p,0,none⟩)):=(b02.cell (p:=⟨g1,0,none⟩) hl).trans hg
 have gN:∀g,F g→g<w.heap.size:=h.lt
 have CD:=hide (hd w2 b02)
 have KP:Hid (∀W,bI p q F w2 W s1→W.heap[w.heap.size+1]? =some (.cells #[.int .i64 0,.int .u8 0,.int .i64 0,.int .u8 0,.int .i64 0,.int .i64 0] 46 (0,0))):=hide fun W k=>k.blk P2 fun e=>by have:=gN _ e;omega
 have PV:Hid (∀W V,bI p q F w2 W s1→W.grownBy V (some (w.heap.size+1))→bI p q F w V s1):=hide fun W V j1 j3=>bI.res b02 j1 (Below.refl _ _) j3 (by omega) (by omega) (fun e=>by have:=gN _ e;omega) h.gz.pos
 have HV:Hid (∀y:Pm.Pg,vp y=.agg #[.int .i64 y.e,.int .u8 y.r,.int .i64 y.a,.int .u8 y.p,.int .i64 y.f,.int .i64 y.b]):=hide fun _=>rfl
 rw[HV.out x,HV.out]at CD⊢
 unfold cp at hw1
 clear h hd hg hl b1 b2 P1 P2 eX b02 gN
 go_enter Tryz.func78,Tryz.ntmps78
 go_wp2_with fail
 refine CD.out.mono ?_
 rintro E w7 ⟨rfl,k7⟩
 obtain⟨V',hV',dN,cZ,⟨q0,q1,q2,q3,q4,q5⟩,fr,⟨u0,u1,u2,u3,u4,u5⟩⟩:=eu (KP.out w7 k7) (.int .i64 y.e) (.int .u8 y.r) (.int .i64 y.a) (.int .u8 y.p) (.int .i64 y.f) (.int .i64 y.b)
 have f0:=fr 0;have f1:=fr 1;have f2:=fr 2;have f3:=fr 3;have f4:=fr 4;have f5:=fr 5
 have BV:=hide (PV.out _ _ k7 cZ)
 clear CD k7 cZ dN fr PV KP
 go_wp2
 refine bodyPost_ret (v:=.tuple #[.agg #[.int .i64 y.e,.int .u8 y.r,.int .i64 y.a,.int .u8 y.p,.int .i64 y.f,.int .i64 y.b],.int .i64 ye]) (by simp[results,Tryz.results78,go_sem,u0,u1,u2,u3,u4,u5]) rfl ?_
 exact⟨rfl,BV.out⟩
theorem aos (g1 p q:Nat)(F:Nat→Prop)(w:World)(s s1:Rst.St)(x y:Pm.Pg)(ye:Int)(h:PS p q F w s)(hg:w.cell? ⟨g1,0,none⟩=some (.pointer (some ⟨p,0,none⟩)))(hl:g1<w.heap.size)
  (hd:∀W,Below w.heap.size w W→Calls Tryz.prog 81 #[.pointer (some ⟨p,0,none⟩),vp x] W fun E w'=>E=.returned (.tuple #[vp y,.int .i64 ye])∧bI p q F W w' s1):
  Calls Tryz.prog 80 #[vp x,.pointer (some ⟨g1,0,none⟩)] w fun E w'=>E=.returned (.tuple #[vp y,.int .i64 ye])∧bI p q F w w' s1:=by
 obtain⟨w1,hw1,aT,b1,P1⟩:=ak w (cp x) 46
 obtain⟨w2,hw2,dz,b2,P2⟩:=ak w1 #[.int .i64 0,.int .u8 0,.int .i64 0,.int .u8 0,.int .i64 0,.int .i64 0] 46
 rw[aT]at P2
 have b02:Below w.heap.size w w2:=b1.trans (b2.mono (by omega))
 have eX:=(b2.block w.heap.size (by omega)).trans P1
 obtain⟨c0,c1,c2,c3,c4,c5⟩:=aN (by unfold cp at eX;exact eX)
 have d0:w2.cell? ⟨g1,0,none⟩=some (.pointer (some ⟨p,0,none⟩)):=(b02.cell (p:=⟨g1,0,none⟩) hl).trans hg
 have gN:∀g,F g→g<w.heap.size:=h.lt
 have CD:=hide (hd w2 b02)
 have KP:Hid (∀W,bI p q F w2 W s1→W.heap[w.heap.size+1]? =some (.cells #[.int .i64 0,.int .u8 0,.int .i64 0,.int .u8 0,.int .i64 0,.int .i64 0] 46 (0,0))):=hide fun W k=>k.blk P2 fun e=>by have:=gN _ e;omega
 have PV:Hid (∀W V,bI p q F w2 W s1→W.grownBy V (some (w.heap.size+1))→bI p q F w V s1):=hide fun W V j1 j3=>bI.res b02 j1 (Below.refl _ _) j3 (by omega) (by omega) (fun e=>by have:=gN _ e;omega) h.gz.pos
 have HV:Hid (∀y:Pm.Pg,vp y=.agg #[.int .i64 y.e,.int .u8 y.r,.int .i64 y.a,.int .u8 y.p,.int .i64 y.f,.int .i64 y.b]):=hide fun _=>rfl
 rw[HV.out x,HV.out]at CD⊢
 unfold cp at hw1
 clear h hd hg hl b1 b2 P1 P2 eX b02 gN
 go_enter Tryz.func80,Tryz.ntmps80
 go_wp2_with fail
 refine CD.out.mono ?_
 rintro E w7 ⟨rfl,k7⟩
 obtain⟨V',hV',dN,cZ,⟨q0,q1,q2,q3,q4,q5⟩,fr,⟨u0,u1,u2,u3,u4,u5⟩⟩:=eu (KP.out w7 k7) (.int .i64 y.e) (.int .u8 y.r) (.int .i64 y.a) (.int .u8 y.p) (.int .i64 y.f) (.int .i64 y.b)
 have f0:=fr 0;have f1:=fr 1;have f2:=fr 2;have f3:=fr 3;have f4:=fr 4;have f5:=fr 5
 have BV:=hide (PV.out _ _ k7 cZ)
 clear CD k7 cZ dN fr PV KP
 go_wp2
 refine bodyPost_ret (v:=.tuple #[.agg #[.int .i64 y.e,.int .u8 y.r,.int .i64 y.a,.int .u8 y.p,.int .i64 y.f,.int .i64 y.b],.int .i64 ye]) (by simp[results,Tryz.results80,go_sem,u0,u1,u2,u3,u4,u5]) rfl ?_
 exact⟨rfl,BV.out⟩
theorem uB (g1 g2 p q:Nat)(F:Nat→Prop)(w:World)(s s1:Rst.St)(x y:Pm.Pg)(f:FuncId)(cap:Array Value)(eg:∀args w,(callFunc f args).run Tryz.prog w=.ok (.enter f args) w)(h:PS p q F w s)(h0:¬F 0)(h1:w.cell? ⟨g1,0,none⟩=some (.func (.func f) #[] cap))(h2:w.cell? ⟨g2,0,none⟩=some (.pointer (some ⟨p,0,none⟩)))(hl1:g1<w.heap.size)(hl2:g2<w.heap.size)(n2:¬F g2)(hR:pG s1)(h3:T3 s1.d)(hy:eU y)(hs:(Rst.dm s1 y).1=0)
  (hd:∀W,Below w.heap.size w W→Calls Tryz.prog f (#[vp x]++cap) W fun E w'=>E=.returned (.tuple #[vp y,.int .i64 0])∧bI p q F W w' s1):
  Calls Tryz.prog 123 #[vp x,.pointer (some ⟨g1,0,none⟩),.pointer (some ⟨g2,0,none⟩)] w fun E w'=>E=.returned (.tuple #[vp y,.int .i64 0])∧bI p q F w w' (Rst.dm s1 y).2:=by
 obtain⟨w1,hw1,aT,b1,P1⟩:=ak w (cp x) 46
 obtain⟨w2,hw2,dz,b2,P2⟩:=ak w1 #[.int .i64 0,.int .u8 0,.int .i64 0,.int .u8 0,.int .i64 0,.int .i64 0] 46
 rw[aT]at P2
 have b02:Below w.heap.size w w2:=b1.trans (b2.mono (by omega))
 have eX:=(b2.block w.heap.size (by omega)).trans P1
 obtain⟨c0,c1,c2,c3,c4,c5⟩:=aN (by unfold cp at eX;exact eX)
 have d1:w2.cell? ⟨g1,0,none⟩=some (.func (.func f) #[] cap):=(b02.cell (p:=⟨g1,0,none⟩) hl1).trans h1
 have d2:w2.cell? ⟨g2,0,none⟩=some (.pointer (some ⟨p,0,none⟩)):=(b02.cell (p:=⟨g2,0,none⟩) hl2).trans h2
 have gN:∀g,F g→g<w.heap.size:=h.lt
 have CD:=hide (hd w2 b02)
 have HV:Hid (∀y:Pm.Pg,vp y=.agg #[.int .i64 y.e,.int .u8 y.r,.int .i64 y.a,.int .u8 y.p,.int .i64 y.f,.int .i64 y.b]):=hide fun _=>rfl
 have z2:w2.heap.size=w.heap.size+2:=by omega
 obtain⟨s2,hs2⟩:∃s2,(Rst.dm s1 y).2=s2:=⟨_,rfl⟩
 have ST:Hid (∀W W',bI p q F w2 W s1→Below W.heap.size W W'→Calls Tryz.prog 28 #[.pointer (some ⟨p,0,none⟩),vp y] W' fun E w'=>E=.returned (.int .i64 0)∧bI p q F w2 w' s2∧∀g o,W.heap.size≤g→W'.heap[g]? =some o→w'.heap[g]? =some o):=hide fun W W' k hb=>by
  obtain⟨F',k1,k2,k3⟩:=k
  have k2':Out F w2 W':=k2.trans (Out.of_below hb (F:=F)) fun g e=>.inl e
  refine(afN p q F' W' s1 (k1.below hb) hR ⟨h3,fun e=>?_⟩ y hy).mono ?_
  ·rcases k3 0 e with e|e
   ·exact h0 e
   ·omega
  ·rintro E w' ⟨rfl,F2,j1,j2,j3⟩
   rw[hs2]at j1
   refine⟨by rw[hs],⟨F2,j1,k2'.trans j2 k3,fun g e=>(j3 g e).elim (k3 g) fun e=>.inr (by have:=k2'.size;omega)⟩,fun g o g1 g2=>(j2.block g (Array.getElem?_eq_some_iff.1 g2).1 fun e=>?_).trans g2⟩
   have:=k1.lt g e
   omega
 have KP:Hid (∀W,bI p q F w2 W s1→W.heap[g2]? =w2.heap[g2]?):=hide fun W k=>by
  obtain⟨_,_,k,_⟩:=k
  exact k.block g2 (by omega) n2
 have KR:Hid (∀W,bI p q F w2 W s2→W.heap[w.heap.size+1]? =some (.cells #[.int .i64 0,.int .u8 0,.int .i64 0,.int .u8 0,.int .i64 0,.int .i64 0] 46 (0,0))):=hide fun W k=>k.blk P2 fun e=>by have:=gN _ e;omega
 have PV:Hid (∀W V,bI p q F w2 W s2→W.grownBy V (some (w.heap.size+1))→bI p q F w V s2):=hide fun W V j1 j3=>bI.res b02 j1 (Below.refl _ _) j3 (by omega) (by omega) (fun e=>by have:=gN _ e;omega) h.gz.pos
 rw[HV.out x,HV.out]at CD
 rw[HV.out]at ST
 rw[hs2,HV.out x,HV.out]
 have D2:=hide d2
 unfold cp at hw1
 clear h hd h0 h1 h2 hl1 hl2 n2 hR h3 hy hs hs2 b1 b2 P1 P2 eX b02 gN z2
 go_enter Tryz.func123,Tryz.ntmps123
 go_wp2_with fail
 refine CD.out.mono ?_
 rintro E w7 ⟨rfl,k7⟩
 obtain⟨w8,hw8,hw8',sz8,b8,P8,⟨e0,e1,e2,e3,e4,e5⟩⟩:=uG w7 46 (.int .i64 0) (.int .u8 0) (.int .i64 0) (.int .u8 0) (.int .i64 0) (.int .i64 0) (.int .i64 y.e) (.int .u8 y.r) (.int .i64 y.a) (.int .u8 y.p) (.int .i64 y.f) (.int .i64 y.b)
 have g8:w8.cell? ⟨g2,0,none⟩=some (.pointer (some ⟨p,0,none⟩)):=by
  have q:=KP.out w7 k7
  have q2:w7.cell? ⟨g2,0,none⟩=some (.pointer (some ⟨p,0,none⟩)):=by
   have:=D2.out
   simp only[World.cell?]at this⊢
   rw[q]
   exact this
  refine(b8.cell (p:=⟨g2,0,none⟩) ?_).trans q2
  by_cases hh:g2<w7.heap.size
  ·exact hh
  ·exfalso
   have:w7.heap[g2]? =none:=Array.getElem?_eq_none (by omega)
   simp[World.cell?,this]at q2
 have SC:=hide (ST.out w7 w8 k7 b8)
 have P8:=hide P8
 clear CD ST KP k7 b8 D2 d1 d2
 go_wp2_with fail
 refine SC.out.mono ?_
 rintro E w9 ⟨rfl,k9,j9⟩
 obtain⟨e0,e1,e2,e3,e4,e5⟩:=aN (j9 _ _ (Nat.le_refl _) P8.out)
 obtain⟨V',hV',dN,cZ,⟨q0,q1,q2,q3,q4,q5⟩,fr,⟨u0,u1,u2,u3,u4,u5⟩⟩:=eu (KR.out w9 k9) (.int .i64 y.e) (.int .u8 y.r) (.int .i64 y.a) (.int .u8 y.p) (.int .i64 y.f) (.int .i64 y.b)
 have f0:=fr 0;have f1:=fr 1;have f2:=fr 2;have f3:=fr 3;have f4:=fr 4;have f5:=fr 5
 have BV:=hide (PV.out _ _ k9 cZ)
 clear SC k9 j9 cZ dN fr PV KR P8
 go_wp2
 refine bodyPost_ret (v:=.tuple #[.agg #[.int .i64 y.e,.int .u8 y.r,.int .i64 y.a,.int .u8 y.p,.int .i64 y.f,.int .i64 y.b],.int .i64 0]) (by simp[results,Tryz.results123,go_sem,u0,u1,u2,u3,u4,u5]) rfl ?_
 exact⟨rfl,BV.out⟩
end Go.Proofs.YtmngcecomcadkaaGreatDoor
namespace Go.Proofs.YtmngcecomcadkaaGreatDoor
open Go.RowKit Go.Maps
set_option linter.unusedVariables false
def dK (k:Int) (g:Nat):Value:=
 if k=1 then .func (.func 76) #[] #[.pointer (some ⟨g,0,none⟩),.pointer (some ⟨g+1,0,none⟩)]else if k=2 then .func (.func 78) #[] #[.pointer (some ⟨g,0,none⟩)]else if k=3 then .func (.func 80) #[] #[.pointer (some ⟨g,0,none⟩)]else .func (.func 82) #[] #[]
theorem Tryz.alF (w:World):(zeroValue 96).run Tryz.prog w=.ok .nilFunc w:=by kernel_rfl
theorem asD {p base g:Nat}{w:World}{v:Value}(h:PhM p base w (dK 1 g) (dK 2 g) (dK 3 g) (dK 4 g) v)(k:Int)(h1:1≤k)(h4:k≤4):
  ∃gd gs,(Instr.lookup 98 v (.int .u8 k) true).run Tryz.prog w=.ok (.tuple #[jI gd gs,.bool true]) w∧w.heap[gd]? =some (.cells #[dK k g] 96 (0,0))∧w.heap[gs]? =some (.cells #[.pointer (some ⟨p,0,none⟩)] 41 (0,0))∧base≤gd∧base≤gs:=by
 obtain⟨b,u1,u2,u3,u4,rfl,lL,e1,e2,e3,e4⟩:=h
 have key:∀(k:Int) (u d:Value),keyOf Tryz.prog 44 (.int .u8 k)=some (.int .u8 k)→Maps.has (DataW.map (kQ true true true true u1 u2 u3 u4)) (.int .u8 k)=true→(DataW.map (kQ true true true true u1 u2 u3 u4)).atKey (.int .u8 k) (.agg [])=yK u→En p base w u d→∃gd gs,(Instr.lookup 98 (.map (some b)) (.int .u8 k) true).run Tryz.prog w=.ok (.tuple #[jI gd gs,.bool true]) w∧w.heap[gd]? =some (.cells #[d] 96 (0,0))∧w.heap[gs]? =some (.cells #[.pointer (some ⟨p,0,none⟩)] 41 (0,0))∧base≤gd∧base≤gs:=by
  intro k u d hk hh ha hu
  obtain⟨gd,gs,rfl,q1,q2,q3,q4⟩:=hu
  obtain⟨v,ps,hr,hv⟩:=lL.look_ok Tryz.abV Tryz.underlying98 (Tryz.alF w) (zd:=.agg []) (zp:=[]) rfl hk
  rw[ha]at hv
  obtain rfl:v=jI gd gs:=arS hv
  rw[hh]at hr
  exact⟨gd,gs,hr,q1,q2,q3,q4⟩
 obtain rfl|rfl|rfl|rfl:k=1∨k=2∨k=3∨k=4:=by omega
 ·exact key 1 u1 _ (by kernel_rfl) rfl rfl e1
 ·exact key 2 u2 _ (by kernel_rfl) rfl rfl e2
 ·exact key 3 u3 _ (by kernel_rfl) rfl rfl e3
 ·exact key 4 u4 _ (by kernel_rfl) rfl rfl e4
theorem asP {p base:Nat}{w:World}{v d1 d2 d3 d4:Value}(h:PhM p base w d1 d2 d3 d4 v):∃u,(Instr.lookup 98 v (.int .u8 0) true).run Tryz.prog w=.ok (.tuple #[u,.bool false]) w:=by
 obtain⟨b,u1,u2,u3,u4,rfl,lL,_⟩:=h
 obtain⟨v,ps,hr,hv⟩:=lL.look_ok Tryz.abV Tryz.underlying98 (Tryz.alF w) (zd:=.agg []) (zp:=[]) rfl (key:=.int .u8 0) (kl:=.int .u8 0) (by kernel_rfl)
 exact⟨v,hr⟩
theorem om (p q:Nat)(F:Nat→Prop)(w:World)(s:Rst.St)(h:PS p q F w s)(hR:pG s)(he:1≤s.p.e)(lK:0≤s.p.p∧s.p.p≤4)(m:Mw)(c:Int)(hi:fw w m)(hf:dx m)(hc:Mm.Ck m.m c)(RR:Ending→World→Prop)
  (H0:s.p.p=0→∀W,Below w.heap.size w W→RR (.returned (.tuple #[vp Pm.no,.int .i64 2])) W)
  (H4:s.p.p=1→qD s.p m c=false→∀W,Below w.heap.size w W→RR (.returned (.tuple #[vp Pm.no,.int .i64 4])) W)
  (HD:1≤s.p.p→(s.p.p=1→qD s.p m c=true)→∀W g gd gs,Below w.heap.size w W→W.heap[gd]? =some (.cells #[dK s.p.p g] 96 (0,0))→W.heap[gs]? =some (.cells #[.pointer (some ⟨p,0,none⟩)] 41 (0,0))→W.heap[g]? =some (.cells #[.pointer (some ⟨p,0,none⟩)] 41 (0,0))→fq W (g+1) m→(w.heap.size≤g∧w.heap.size≤gd∧w.heap.size≤gs)→Calls Tryz.prog 123 #[vp s.p,.pointer (some ⟨gd,0,none⟩),.pointer (some ⟨gs,0,none⟩)] W fun E w'=>∃y e,E=.returned (.tuple #[vp y,.int .i64 e])∧((∃o,W.heap[w.heap.size+1]? =some o)→w'.heap[w.heap.size+1]? =W.heap[w.heap.size+1]?)∧∀V,w.heap.size+1<W.heap.size→w'.grownBy V (some (w.heap.size+1))→RR (.returned (.tuple #[vp y,.int .i64 e])) V):
  Calls Tryz.prog 13 #[.pointer (some ⟨p,0,none⟩),mv m] w RR:=by
 obtain⟨x,hx⟩:∃x,s.p=x:=⟨_,rfl⟩
 rw[hx]at he lK H0 H4 HD
 obtain⟨w1,hw1,s1,b1,P1⟩:=qB w m
 obtain⟨w2,hw2,s2,b2,P2⟩:=ak w1 #[.int .i64 0,.int .u8 0,.int .i64 0,.int .u8 0,.int .i64 0,.int .i64 0] 46
 rw[s1]at P2
 have b02:Below w.heap.size w w2:=b1.trans (b2.mono (by omega))
 have eX:fq w2 w.heap.size m:=(b2.block w.heap.size (by omega)).trans P1
 have HG:=hide (acJ p q F w2 s (h.below b02) hR)
 rw[hx]at HG
 have HV:Hid (∀y:Pm.Pg,vp y=.agg #[.int .i64 y.e,.int .u8 y.r,.int .i64 y.a,.int .u8 y.p,.int .i64 y.f,.int .i64 y.b]):=hide fun _=>rfl
 have hfx:eU x:=by rw[←hx];exact h.fit
 have KEEP:Hid (∀W,Below w2.heap.size w2 W→fq W w.heap.size m∧W.heap[w.heap.size+1]? =some (.cells #[.int .i64 0,.int .u8 0,.int .i64 0,.int .u8 0,.int .i64 0,.int .i64 0] 46 (0,0))∧fw W m∧Below w.heap.size w W):=hide fun W hW=>by
  have b:=b02.trans (hW.mono (by omega))
  exact⟨(hW.block _ (by omega)).trans eX,(hW.block _ (by omega)).trans P2,hi.below b,b⟩
 have z2:w2.heap.size=w.heap.size+2:=by omega
 have HH:=hide (And.intro hf (And.intro hc (And.intro hfx (And.intro H0 (And.intro H4 HD)))))
 have hz:(x.e==0)=false:=by
  rw[beq_eq_false_iff_ne]
  omega
 have hq:∀W,(binOp .eql 46 (.agg #[.int .i64 x.e,.int .u8 x.r,.int .i64 x.a,.int .u8 x.p,.int .i64 x.f,.int .i64 x.b]) (.agg #[.int .i64 0,.int .u8 0,.int .i64 0,.int .u8 0,.int .i64 0,.int .i64 0])).run Tryz.prog W=.ok (.bool false) W:=fun W=>by
  rw[Tryz.af9,hz]
  simp
 obtain⟨a0,a1,a2,a3,a4,a5,a6,a7⟩:=eX.ei
 have HM:Hid (mv m=.agg #[.int .i64 m.k,.int .i64 m.e,.int .u8 m.r,.int .i64 m.n,m.vs,.int .i64 m.f,.int .i64 m.p,m.vc]):=hide rfl
 rw[HM.out]
 rw[HV.out]at HG
 clear h hR he hi hf hc H0 H4 HD b1 b2 P1 P2 eX b02 hx hfx hz s2
 go_enter Tryz.func13,Tryz.ntmps13
 go_wp2_with fail
 refine HG.out.mono ?_
 rintro E w3 ⟨rfl,b3⟩
 obtain⟨w4,hw4,aue,lZ,b4,P4,⟨e0,e1,e2,e3,e4,e5⟩⟩:=uG w3 46 (.int .i64 0) (.int .u8 0) (.int .i64 0) (.int .u8 0) (.int .i64 0) (.int .i64 0) (.int .i64 x.e) (.int .u8 x.r) (.int .i64 x.a) (.int .u8 x.p) (.int .i64 x.f) (.int .i64 x.b)
 have ng:Below w2.heap.size w2 w4:=b3.trans (b4.mono b3.size)
 obtain⟨k1,k2,k3,k4⟩:=KEEP.out w4 ng
 obtain⟨a0,a1,a2,a3,a4,a5,a6,a7⟩:=k1.ei
 have CP:Hid (Calls Tryz.prog 31 #[.pointer (some ⟨p,0,none⟩),.agg #[.int .i64 m.k,.int .i64 m.e,.int .u8 m.r,.int .i64 m.n,m.vs,.int .i64 m.f,.int .i64 m.p,m.vc]] w4.drew fun E w'=>∃v,E=.returned v∧Hid (PhM p w4.heap.size w' (dK 1 w4.heap.size) (dK 2 w4.heap.size) (dK 3 w4.heap.size) (dK 4 w4.heap.size) v∧w'.heap[w4.heap.size]? =some (.cells #[.pointer (some ⟨p,0,none⟩)] 41 (0,0))∧fq w' (w4.heap.size+1) m∧Below w4.heap.size w4 w')∧(∃u bb,(Instr.lookup 98 v (.int .u8 x.p) true).run Tryz.prog w'=.ok (.tuple #[u,.bool bb]) w'∧Hid (x.p=0∧bb=false∨1≤x.p∧bb=true∧∃gd gs,u=jI gd gs∧w'.heap[gd]? =some (.cells #[dK x.p w4.heap.size] 96 (0,0))∧w'.heap[gs]? =some (.cells #[.pointer (some ⟨p,0,none⟩)] 41 (0,0))∧w4.heap.size≤gd∧w4.heap.size≤gs))∧(w'.cell? ⟨w.heap.size,0,none⟩=some (.int .i64 m.k)∧w'.cell? ⟨w.heap.size,1,none⟩=some (.int .i64 m.e)∧w'.cell? ⟨w.heap.size,2,none⟩=some (.int .u8 m.r)∧w'.cell? ⟨w.heap.size,3,none⟩=some (.int .i64 m.n)∧w'.cell? ⟨w.heap.size,4,none⟩=some m.vs∧w'.cell? ⟨w.heap.size,5,none⟩=some (.int .i64 m.f)∧w'.cell? ⟨w.heap.size,6,none⟩=some (.int .i64 m.p)∧w'.cell? ⟨w.heap.size,7,none⟩=some m.vc)∧w'.cell? ⟨w3.heap.size,3,none⟩=some (.int .u8 x.p)):=hide (by
  have bd:Below w4.heap.size w4 w4.drew:=(Below.refl _ _).drew
  refine(ags p m w4.drew).mono ?_
  rintro E w' ⟨v,rfl,j1,j2,j3,j4⟩
  have b5:Below w4.heap.size w4 w':=bd.trans j4
  have j1:PhM p w4.heap.size w' (dK 1 w4.heap.size) (dK 2 w4.heap.size) (dK 3 w4.heap.size) (dK 4 w4.heap.size) v:=j1
  obtain⟨l1,_,_,_⟩:=KEEP.out w' (ng.trans (b5.mono ng.size))
  obtain⟨c0,c1,c2,c3,c4,c5,c6,c7⟩:=l1.ei
  refine⟨v,rfl,hide ⟨j1,j2,j3,b5⟩,?_,⟨c0,c1,c2,c3,c4,c5,c6,c7⟩,ai ((b5.block _ (by omega)).trans P4) 3 rfl⟩
  by_cases h0:x.p=0
  ·obtain⟨u,hu⟩:=asP j1
   rw[h0]
   exact⟨u,false,hu,hide (.inl ⟨rfl,rfl⟩)⟩
  ·obtain⟨gd,gs,hu,q⟩:=asD j1 x.p (by omega) lK.2
   exact⟨_,true,hu,hide (.inr ⟨by omega,rfl,gd,gs,rfl,q⟩)⟩)
 have qL:=hide ng
 have P4:=hide P4
 clear HG b3 b4 k1 k2 k3 k4 ng
 go_wp2_with fail
 go_region_held3 (fun w'=>(w'.cell? ⟨w.heap.size,0,none⟩=some (.int .i64 m.k)∧w'.cell? ⟨w.heap.size,1,none⟩=some (.int .i64 m.e)∧w'.cell? ⟨w.heap.size,2,none⟩=some (.int .u8 m.r)∧w'.cell? ⟨w.heap.size,3,none⟩=some (.int .i64 m.n)∧w'.cell? ⟨w.heap.size,4,none⟩=some m.vs∧w'.cell? ⟨w.heap.size,5,none⟩=some (.int .i64 m.f)∧w'.cell? ⟨w.heap.size,6,none⟩=some (.int .i64 m.p)∧w'.cell? ⟨w.heap.size,7,none⟩=some m.vc)∧w'.cell? ⟨w3.heap.size,3,none⟩=some (.int .u8 x.p)) (first|exact⟨⟨a0,a1,a2,a3,a4,a5,a6,a7⟩,e3⟩|exact hS5|go_keep)
  (first
  |(go_at_call 31;refine CP.out.mono ?_;rintro E w5 ⟨v,rfl,X5,⟨u,bb,hlk,Y5⟩,hS5⟩))
 have ru:=qL.out.trans (X5.out.2.2.2.mono qL.out.size)
 obtain⟨k1,k2,k3,k4⟩:=KEEP.out w5 ru
 obtain⟨⟨a0,a1,a2,a3,a4,a5,a6,a7⟩,_⟩:=hS5
 obtain⟨e0,e1,e2,e3,e4,e5⟩:=aN ((X5.out.2.2.2.block _ (ax P4.out)).trans P4.out)
 rcases Y5.out with⟨y1,rfl⟩|⟨y1,rfl,gd,gs,rfl,q1,q2,q3,q4⟩
 ·have F0:=hide (HH.out.2.2.2.1 y1 w5 k4)
  clear y1
  have x0:w5.setCell ⟨w.heap.size+1,0,none⟩ (.int .i64 0)=w5:=aJ k2 (j:=0) rfl
  have x1:w5.setCell ⟨w.heap.size+1,1,none⟩ (.int .u8 0)=w5:=aJ k2 (j:=1) rfl
  have x2:w5.setCell ⟨w.heap.size+1,2,none⟩ (.int .i64 0)=w5:=aJ k2 (j:=2) rfl
  have x3:w5.setCell ⟨w.heap.size+1,3,none⟩ (.int .u8 0)=w5:=aJ k2 (j:=3) rfl
  have x4:w5.setCell ⟨w.heap.size+1,4,none⟩ (.int .i64 0)=w5:=aJ k2 (j:=4) rfl
  have x5:w5.setCell ⟨w.heap.size+1,5,none⟩ (.int .i64 0)=w5:=aJ k2 (j:=5) rfl
  obtain⟨r0,r1,r2,r3,r4,r5⟩:=aN k2
  have z0:=aA k2 0;have z1:=aA k2 1;have z3:=aA k2 2;have z4:=aA k2 3;have z5:=aA k2 4;have z6:=aA k2 5
  have FF:=hide (F0.out)
  clear X5 Y5 HH KEEP CP k1 k2 k3 k4 P4 qL
  go_wp2
  refine bodyPost_ret (v:=.tuple #[.agg #[.int .i64 0,.int .u8 0,.int .i64 0,.int .u8 0,.int .i64 0,.int .i64 0],.int .i64 2]) (by simp[results,Tryz.results13,go_sem,r0,r1,r2,r3,r4,r5]) rfl ?_
  exact FF.out
 ·have Q:Hid (w5.heap[gd]? =some (.cells #[dK x.p w4.heap.size] 96 (0,0))∧w5.heap[gs]? =some (.cells #[.pointer (some ⟨p,0,none⟩)] 41 (0,0))∧w5.heap[w4.heap.size]? =some (.cells #[.pointer (some ⟨p,0,none⟩)] 41 (0,0))∧fq w5 (w4.heap.size+1) m∧(w.heap.size≤w4.heap.size∧w.heap.size≤gd∧w.heap.size≤gs)):=hide (by
   have:=qL.out.size
   exact⟨q1,q2,X5.out.2.1,X5.out.2.2.1,by omega,by omega,by omega⟩)
  unfold jI at hlk⊢
  clear q1 q2 q3 q4
  by_cases y2:x.p=1
  ·have y2':(x.p==1)=true:=by simpa using y2
   have FT:=hide (wF x m c w5 k3 HH.out.1 HH.out.2.1)
   rw[HV.out,HM.out]at FT
   cases hft:qD x m c with
   |false=>
    rw[hft]at FT
    have F4:=hide (HH.out.2.2.2.2.1 y2 hft)
    have KK:Hid (∀W,Below w5.heap.size w5 W→W.heap[w.heap.size+1]? =some (.cells #[.int .i64 0,.int .u8 0,.int .i64 0,.int .u8 0,.int .i64 0,.int .i64 0] 46 (0,0))∧Below w.heap.size w W):=hide fun W hW=>⟨(hW.block _ (ax k2)).trans k2,k4.trans (hW.mono k4.size)⟩
    clear y1 y2 hft Q k1 k2 k3 k4 ru
    go_wp2_with fail
    refine FT.out.mono ?_
    rintro E w6 ⟨rfl,b6⟩
    obtain⟨k2,k4⟩:=KK.out w6 b6
    clear FT b6
    have x0:w6.setCell ⟨w.heap.size+1,0,none⟩ (.int .i64 0)=w6:=aJ k2 (j:=0) rfl
    have x1:w6.setCell ⟨w.heap.size+1,1,none⟩ (.int .u8 0)=w6:=aJ k2 (j:=1) rfl
    have x2:w6.setCell ⟨w.heap.size+1,2,none⟩ (.int .i64 0)=w6:=aJ k2 (j:=2) rfl
    have x3:w6.setCell ⟨w.heap.size+1,3,none⟩ (.int .u8 0)=w6:=aJ k2 (j:=3) rfl
    have x4:w6.setCell ⟨w.heap.size+1,4,none⟩ (.int .i64 0)=w6:=aJ k2 (j:=4) rfl
    have x5:w6.setCell ⟨w.heap.size+1,5,none⟩ (.int .i64 0)=w6:=aJ k2 (j:=5) rfl
    obtain⟨r0,r1,r2,r3,r4,r5⟩:=aN k2
    have z0:=aA k2 0;have z1:=aA k2 1;have z3:=aA k2 2;have z4:=aA k2 3;have z5:=aA k2 4;have z6:=aA k2 5
    have FF:=hide (F4.out w6 k4)
    clear X5 Y5 HH KEEP CP k2 k4 P4 qL
    go_wp2
    refine bodyPost_ret (v:=.tuple #[.agg #[.int .i64 0,.int .u8 0,.int .i64 0,.int .u8 0,.int .i64 0,.int .i64 0],.int .i64 4]) (by simp[results,Tryz.results13,go_sem,r0,r1,r2,r3,r4,r5]) rfl ?_
    exact FF.out
   |true=>
    rw[hft]at FT
    have HFT:=hide hft
    have KK:Hid (∀W,Below w5.heap.size w5 W→W.heap[w.heap.size+1]? =some (.cells #[.int .i64 0,.int .u8 0,.int .i64 0,.int .u8 0,.int .i64 0,.int .i64 0] 46 (0,0))∧Below w.heap.size w W∧(W.heap[gd]? =some (.cells #[dK x.p w4.heap.size] 96 (0,0))∧W.heap[gs]? =some (.cells #[.pointer (some ⟨p,0,none⟩)] 41 (0,0))∧W.heap[w4.heap.size]? =some (.cells #[.pointer (some ⟨p,0,none⟩)] 41 (0,0))∧fq W (w4.heap.size+1) m∧(w.heap.size≤w4.heap.size∧w.heap.size≤gd∧w.heap.size≤gs))∧vJ W w3.heap.size (.int .i64 x.e) (.int .u8 x.r) (.int .i64 x.a) (.int .u8 x.p) (.int .i64 x.f) (.int .i64 x.b)):=hide fun W hW=>by
     obtain⟨q1,q2,q3,q4,q5⟩:=Q.out
     have p5:=(X5.out.2.2.2.block _ (ax P4.out)).trans P4.out
     exact⟨(hW.block _ (ax k2)).trans k2,k4.trans (hW.mono k4.size),⟨(hW.block _ (ax q1)).trans q1,(hW.block _ (ax q2)).trans q2,(hW.block _ (ax q3)).trans q3,(hW.block _ (ax q4)).trans q4,q5⟩,aN ((hW.block _ (ax p5)).trans p5)⟩
    clear hft Q k1 k2 k3 k4 ru
    have Y12:=hide (And.intro y1 y2)
    clear y1 y2
    go_wp2_with fail
    refine FT.out.mono ?_
    rintro E w6 ⟨rfl,b6⟩
    obtain⟨k2,k4,q,⟨e0,e1,e2,e3,e4,e5⟩⟩:=KK.out w6 b6
    have Q:=hide q
    have k1:=trivial
    have k3:=trivial
    have y1:=Y12.out.1
    clear FT b6 q
    have CE:=hide (HH.out.2.2.2.2.2 y1 (fun _=>HFT.out) w6 w4.heap.size gd gs k4 Q.out.1 Q.out.2.1 Q.out.2.2.1 Q.out.2.2.2.1 Q.out.2.2.2.2)
    have K2:=hide k2
    rw[HV.out]at CE
    clear X5 Y5 HH KEEP CP k1 k2 k3 k4 P4 qL Q Y12 y1 HFT KK
    go_wp2_with fail
    refine CE.out.mono ?_
    rintro E w7 ⟨y,e,rfl,r7,f7⟩
    have k7:=(r7 ⟨_,K2.out⟩).trans K2.out
    obtain⟨V',hV',dN,cZ,⟨q0,q1,q2,q3,q4,q5⟩,fr,⟨u0,u1,u2,u3,u4,u5⟩⟩:=eu k7 (.int .i64 y.e) (.int .u8 y.r) (.int .i64 y.a) (.int .u8 y.p) (.int .i64 y.f) (.int .i64 y.b)
    have f0:=fr 0;have f1:=fr 1;have f2:=fr 2;have f3:=fr 3;have f4:=fr 4;have f5:=fr 5
    have FF:=hide (f7 V' (ax K2.out) cZ)
    rw[HV.out]at FF⊢
    clear CE r7 f7 k7 cZ dN fr K2
    go_wp2
    refine bodyPost_ret (v:=.tuple #[.agg #[.int .i64 y.e,.int .u8 y.r,.int .i64 y.a,.int .u8 y.p,.int .i64 y.f,.int .i64 y.b],.int .i64 e]) (by simp[results,Tryz.results13,go_sem,u0,u1,u2,u3,u4,u5]) rfl ?_
    exact FF.out
  ·have y2':(x.p==1)=false:=by simpa using y2
   have CE:=hide (HH.out.2.2.2.2.2 y1 (fun e=>absurd e y2) w5 w4.heap.size gd gs k4 Q.out.1 Q.out.2.1 Q.out.2.2.1 Q.out.2.2.2.1 Q.out.2.2.2.2)
   have K2:=hide k2
   rw[HV.out]at CE
   clear X5 Y5 HH KEEP CP k1 k2 k3 k4 P4 qL Q y1 y2 ru
   go_wp2_with fail
   refine CE.out.mono ?_
   rintro E w7 ⟨y,e,rfl,r7,f7⟩
   have k7:=(r7 ⟨_,K2.out⟩).trans K2.out
   obtain⟨V',hV',dN,cZ,⟨q0,q1,q2,q3,q4,q5⟩,fr,⟨u0,u1,u2,u3,u4,u5⟩⟩:=eu k7 (.int .i64 y.e) (.int .u8 y.r) (.int .i64 y.a) (.int .u8 y.p) (.int .i64 y.f) (.int .i64 y.b)
   have f0:=fr 0;have f1:=fr 1;have f2:=fr 2;have f3:=fr 3;have f4:=fr 4;have f5:=fr 5
   have FF:=hide (f7 V' (ax K2.out) cZ)
   rw[HV.out]at FF⊢
   clear CE r7 f7 k7 cZ dN fr K2
   go_wp2
   refine bodyPost_ret (v:=.tuple #[.agg #[.int .i64 y.e,.int .u8 y.r,.int .i64 y.a,.int .u8 y.p,.int .i64 y.f,.int .i64 y.b],.int .i64 e]) (by simp[results,Tryz.results13,go_sem,u0,u1,u2,u3,u4,u5]) rfl ?_
   exact FF.out
end Go.Proofs.YtmngcecomcadkaaGreatDoor
namespace Go.Proofs.YtmngcecomcadkaaGreatDoor
open Go.RowKit
set_option linter.unusedVariables false
structure sJ (q:Nat) (F:Nat→Prop) (w w5 W:World) (n0 P:Nat) (Fk:Nat→Prop) (d:Dm.Ds):Prop where
 qx:Pk q Fk W d
 out:Out F w W
 far:∀g,Fk g→F g∨w.heap.size≤g
 gz:eH W
 nb:∀g,g=n0∨g=P∨g=P+1∨g=P+2→¬Fk g∧g<W.heap.size
 keep:∀g,g=n0∨g=P+1∨g=P+2→W.heap[g]? =w5.heap[g]?
section
variable {q n0 P:Nat} {F Fk F':Nat→Prop} {w w5 W W':World} {d d':Dm.Ds}
theorem sJ.step (h:sJ q F w w5 W n0 P Fk d)(h0:¬F 0)(hp:0<w.heap.size)(hP:w.heap.size≤P)(hn:n0<P)(k1:Pk q F' W' d')(k2:Out (fun g=>Fk g∨g=P) W W')(k3:∀g,F' g→Fk g∨W.heap.size≤g):sJ q F w w5 W' n0 P F' d':=by
 have hs:=h.out.size
 have hz:=k2.size
 refine⟨k1,h.out.trans k2 fun g hg=>?_,fun g hg=>?_,gI h.gz k2 fun e=>?_,fun g hg=>⟨fun e=>?_,?_⟩,fun g hg=>(k2.block g (h.nb g ?_).2 fun e=>?_).trans (h.keep g hg)⟩
 ·rcases hg with e|e
  ·exact h.far g e
  ·exact .inr (by omega)
 ·rcases k3 g hg with e|e
  ·exact h.far g e
  ·exact .inr (by omega)
 ·rcases e with e|e
  ·rcases h.far 0 e with e|e
   ·exact h0 e
   ·omega
  ·omega
 ·rcases k3 g e with e|e
  ·exact(h.nb g hg).1 e
  ·have:=(h.nb g hg).2;omega
 ·have:=(h.nb g hg).2;omega
 ·rcases hg with e|e|e
  ·exact .inl e
  ·exact .inr (.inr (.inl e))
  ·exact .inr (.inr (.inr e))
 ·rcases e with e|e
  ·exact(h.nb g (by rcases hg with e|e|e;exact .inl e;exact .inr (.inr (.inl e));exact .inr (.inr (.inr e)))).1 e
  ·rcases hg with k|k|k<;>omega
theorem sJ.below (h:sJ q F w w5 W n0 P Fk d)(h0:¬F 0)(hp:0<w.heap.size)(hP:w.heap.size≤P)(hn:n0<P)(hb:Below W.heap.size W W'):sJ q F w w5 W' n0 P Fk d:=
 h.step h0 hp hP hn (h.qx.below hb) (Out.of_below hb) fun g hg=>.inl hg
end
theorem axF (p q:Nat)(F:Nat→Prop)(w:World)(st:Dm.Ds)(ss:List Orp.Se)(h:Pk q F w st)(hs:Big 90000000 700000 st)(hp:w.cell? ⟨p,0,none⟩=some (.pointer (some ⟨q,0,none⟩)))(hpl:p<w.heap.size)(ho:st.on=true)(h3:Rst.hf 3 st=Orp.secs ss)(hr:Orp.Ris 0 ss):∀W,Below w.heap.size w W→
  Calls Tryz.prog 109 #[.pointer (some ⟨p,0,none⟩)] W fun E w'=>E=.returned (.int .i64 (Orp.secs ss).length)∧Below W.heap.size W w':=by
 intro W hW
 have e:W.cell? ⟨p,0,none⟩=w.cell? ⟨p,0,none⟩:=by have:=hW.block p hpl;simp[World.cell?,this]
 refine(afM p q F W st (h.below hW) hs (e.trans hp) ho).mono ?_
 rintro E w' ⟨s2,rfl,k,b⟩
 have k:=k.out
 rw[h3]at k
 rw[Orp.sN k (Orp.qc hr)]
 exact⟨rfl,b⟩
end Go.Proofs.YtmngcecomcadkaaGreatDoor
