/- Texts of one layer, one behind the other. -/
import Derived.Test.YtmngcecomcadkaaGreatDoorCH23
import Derived.Test.YtmngcecomcadkaaGreatDoorCH25
import Derived.Test.YtmngcecomcadkaaGreatDoorCH27
import Derived.Test.YtmngcecomcadkaaGreatDoorCH8
import Derived.Test.YtmngcecomcadkaaGreatDoorCH19
import Derived.Test.YtmngcecomcadkaaGreatDoorCH9
import Derived.Test.YtmngcecomcadkaaGreatDoorCH24
import Derived.Deep.RegionHeld3
import Derived.Test.YtmngcecomcadkaaGreatDoorCH26
import Derived.Test.YtmngcecomcadkaaGreatDoorCH2
import Derived.Test.YtmngcecomcadkaaGreatDoorCH1
import Derived.Test.YtmngcecomcadkaaGreatDoorCH20
import Derived.Test.YtmngcecomcadkaaGreatDoorCH6
import Derived.Test.YtmngcecomcadkaaGreatDoorCH12
set_option maxRecDepth 100000
set_option maxHeartbeats 8000000
namespace Go.Proofs.YtmngcecomcadkaaGreatDoor
open Go.RowKit
set_option linter.unusedVariables false
section
variable {p q:Nat} {F:Nat→Prop} {w W:World} {s s1:Rst.St}
theorem PS.at (h:PS p q F w s):F p∧∃vw vr vs,w.heap[p]? =some (.cells (eF q s.off s.p vw s.l.length vr vs) 94 (0,0)):=by
 obtain⟨F1,G,h1,⟨pw,pr,ps,Gw,Gr,Gs,lw,bw,br,V,rfl⟩,h3,hm,rfl⟩:=h
 exact⟨.inr (.inl rfl),_,_,_,V.blk⟩
theorem PS.below (h:PS p q F w s)(hb:Below w.heap.size w W):PS p q F W s:=h.agree (fun g hg=>hb.block g (h.lt g hg)) hb.size (h.gz.below hb)
theorem bI.same (h:PS p q F w s)(hb:Below w.heap.size w W):bI p q F w W s:=⟨F,h.below hb,Out.of_below hb,fun g hg=>.inl hg⟩
theorem wE {cs:Array Value}{t:TypeId}{fr:Nat×Nat}{a:Option Addr}(hm:eH w)(hb:w.heap[p]? =some (.cells cs t fr))(hc:cs[0]? =some (.pointer a)):p≠0:=by
 rintro rfl
 have:=ai hb 0 hc
 rw[hm.c0]at this
 cases this
theorem bI.brk (h:bI p q F w W s1):bI p q F w (W.setCell ⟨p,1,none⟩ (.bool true)) (Rst.brk s1):=by
 obtain⟨F',⟨F1,G,h1,⟨pw,pr,ps,Gw,Gr,Gs,lw,bw,br,V,rfl⟩,h3,hm,rfl⟩,ho,hn⟩:=h
 have hp:p≠0:=wE hm V.blk rfl
 have oZ:Out (fun g=>g=p) W (W.setCell ⟨p,1,none⟩ (.bool true)):=Out.aQ (az W ⟨p,1,none⟩ (.bool true)) fun i hi=>by simpa using hi.symm
 have pz:(W.setCell ⟨p,1,none⟩ (.bool true)).heap[p]? =some (.cells (eF q true s1.p (.pointer (some ⟨pw,0,none⟩)) s1.l.length (.pointer (some ⟨pr,0,none⟩)) (.pointer (some ⟨ps,0,none⟩))) 94 (0,0)):=aH V.blk 1 (.bool true)
 generalize W.setCell ⟨p,1,none⟩ (.bool true)=Z at*
 have hF1:¬F1 p:=h3 p (.inl rfl)
 refine⟨fun g=>F1 g∨PB p Gw Gr Gs g,⟨F1,PB p Gw Gr Gs,h1.agree fun g hg=>oZ.block g (h1.lt g hg) fun e=>hF1 (e▸hg),⟨pw,pr,ps,Gw,Gr,Gs,lw,bw,br,⟨pz,V.wal.out oZ fun g hg e=>V.np.1 (e▸hg),V.run.out oZ fun g hg e=>V.np.2.1 (e▸hg),V.sto.out oZ fun g hg e=>V.np.2.2 (e▸hg),V.log,(fun e=>absurd e (by simp[Rst.brk])),V.ok,V.fit,V.rest,V.le,V.np,V.wr,V.ws,V.rs⟩,rfl⟩,h3,gI hm oZ fun e=>hp e.symm,rfl⟩,ho.trans oZ fun g hg=>?_,hn⟩
 rw[hg]
 exact hn p (.inr (.inl rfl))
theorem ahk {pw pr ps:Nat}{F1 F2 Gw Gr Gs:Nat→Prop}{w5 w6:World}{lw:List Cm.Cv}{bw br:Bool}{x:Pm.Pg}{d':Dm.Ds}(V:pM p q pw pr ps Gw Gr Gs w5 s lw bw br)(hd:∀g,PB p Gw Gr Gs g→¬F1 g)(hm:eH w5)(h0:¬F1 0)(hok:Pm.Ok x)(k1:Pk q F2 w6 d')(k2:w6.heap[p]? =some (.cells (eF q s.off x (.pointer (some ⟨pw,0,none⟩)) s.l.length (.pointer (some ⟨pr,0,none⟩)) (.pointer (some ⟨ps,0,none⟩))) 94 (0,0)))(k3:Out (fun g=>F1 g∨g=p) w5 w6)(k4:∀g,F2 g→F1 g∨w5.heap.size≤g):
  bI p q (fun g=>F1 g∨PB p Gw Gr Gs g) w5 w6 ⟨d',x,s.l,s.r,s.off⟩:=by
 have hp:p≠0:=wE hm V.blk rfl
 have ne:∀g,PB p Gw Gr Gs g→g≠p→¬(F1 g∨g=p):=fun g hg hn e=>e.elim (hd g hg) hn
 refine⟨fun g=>F2 g∨PB p Gw Gr Gs g,⟨F2,PB p Gw Gr Gs,k1,⟨pw,pr,ps,Gw,Gr,Gs,lw,bw,br,⟨k2,V.wal.out k3 fun g hg=>ne g (.inr (.inl hg)) fun e=>V.np.1 (e▸hg),V.run.out k3 fun g hg=>ne g (.inr (.inr (.inl hg))) fun e=>V.np.2.1 (e▸hg),V.sto.out k3 fun g hg=>ne g (.inr (.inr (.inr hg))) fun e=>V.np.2.2 (e▸hg),V.log,V.live,hok,mq hok,V.rest,V.le,V.np,V.wr,V.ws,V.rs⟩,rfl⟩,fun g hg e=>?_,gI hm k3 fun e=>?_,rfl⟩,k3.mono fun g hg=>?_,fun g hg=>?_⟩
 ·rcases k4 g e with e|e
  ·exact hd g hg e
  ·have:=V.lt g hg;omega
 ·rcases e with e|e
  ·exact h0 e
  ·exact hp e.symm
 ·rcases hg with e|e
  ·exact .inl (.inl e)
  ·exact .inl (.inr (.inl e))
 ·rcases hg with e|e
  ·exact(k4 g e).imp Or.inl id
  ·exact .inl (.inr e)
theorem bI.pre (hb:Below w.heap.size w W){W2:World}(k:bI p q F W W2 s):bI p q F w W2 s:=by
 obtain⟨F',k1,k2,k3⟩:=k
 have:=hb.size
 exact⟨F',k1,(Out.of_below hb).trans k2 fun g hg=>.inl hg,fun g hg=>(k3 g hg).imp id fun e=>by omega⟩
def QS (p q:Nat) (F:Nat→Prop) (w:World) (r:Int×Rst.St) (e:Int) (W:World):Prop:=e=r.1∧(e≠6→bI p q F w W r.2)∧(e=6→bI p q F w (W.setCell ⟨p,1,none⟩ (.bool true)) r.2∧∃cs b,W.heap[p]? =some (.cells cs 94 (0,0))∧cs[1]? =some (.bool b))
theorem QS.no {r:Int×Rst.St}{e:Int}(h1:r=(e,s1))(h6:e≠6)(h:bI p q F w W s1):QS p q F w r e W:=by
 subst h1
 exact⟨rfl,fun _=>h,fun k=>absurd k h6⟩
theorem QS.six {r:Int×Rst.St}(h1:r=(6,Rst.brk s1))(h:bI p q F w W s1):QS p q F w r 6 W:=by
 subst h1
 refine⟨rfl,fun k=>absurd rfl k,fun _=>⟨h.brk,?_⟩⟩
 obtain⟨F',h,_⟩:=h
 obtain⟨_,vw,vr,vs,hb⟩:=h.at
 exact⟨_,_,hb,rfl⟩
theorem xW {r:Int×Rst.St}{B n:Nat}{fs:List Value}(hn:fs.length=n)(hl:n≤100)(hB:W.heap[B]? =some (.cells fs.toArray 154 (0,0)))(h:Run B (QS p q F w r) fs W):
  Calls Tryz.prog 57 #[.pointer (some ⟨p,0,none⟩),.slice (some ⟨B,0,none⟩) n n] W fun E w'=>E=.returned (.int .i64 r.1)∧bI p q F w w' r.2:=by
 refine(acy (.pointer (some ⟨p,0,none⟩)) p B n fs W _ hn hl hB h ?_).mono ?_
 ·rintro W ⟨_,_,h⟩
  exact⟨rfl,(h rfl).2⟩
 ·rintro E w' ⟨e,W,rfl,⟨rfl,h2,h3⟩,⟨k,rfl⟩|⟨k,rfl⟩⟩
  ·exact⟨rfl,h2 k⟩
  ·exact⟨rfl,(h3 k).1⟩
theorem uN {r:Int×Rst.St}{B:Nat}{l:List Value}(h:PS p q F W s)(h0:bI p q F w W s)(ha:Rst.asked s=true→r=(6,Rst.brk s))(hr:Rst.asked s=false→Run B (QS p q F w r) l W):Run B (QS p q F w r) (.func (.func 58) #[.pointer (some ⟨p,0,none⟩)] #[]::l) W:=by
 obtain⟨F1,G,h1,⟨pw,pr,ps,Gw,Gr,Gs,lw,bw,br,V,rfl⟩,h3,hm,rfl⟩:=h
 refine Run.cons (enters_of Tryz.func58 (by kernel_rfl) rfl) (by simp) ((abl p q F1 W s.d s.off h1 (ai V.blk 0 rfl) (ai V.blk 1 rfl)).mono ?_)
 rintro E w' ⟨rfl,rfl⟩
 refine⟨_,rfl,rfl,?_⟩
 cases hc:Rst.asked s with
 |true=>
  have hc':(s.off|| !s.d.on)=true:=hc
  rw[if_pos hc',ha hc]
  exact .inl ⟨by decide,QS.six rfl h0⟩
 |false=>
  have hc':¬(s.off|| !s.d.on)=true:=by rw[show(s.off|| !s.d.on)=Rst.asked s from rfl,hc];simp
  rw[if_neg hc']
  exact .inr ⟨rfl,hr hc⟩
end
theorem ajt (p q:Nat)(F:Nat→Prop)(w:World)(st:Dm.Ds)(h:Pk q F w st)(hs:Big 50000000 500000 st)(hp:w.cell? ⟨p,0,none⟩=some (.pointer (some ⟨q,0,none⟩)))(hpl:p<w.heap.size)(ho:st.on=true)(h3:T3 st):∀W,Below w.heap.size w W→
  Calls Tryz.prog 109 #[.pointer (some ⟨p,0,none⟩)] W fun E w'=>E=.returned (.int .i64 (Rst.hf 3 st).length)∧Below W.heap.size W w':=by
 intro W hW
 have e:W.cell? ⟨p,0,none⟩=w.cell? ⟨p,0,none⟩:=by have:=hW.block p hpl;simp[World.cell?,this]
 refine(afM p q F W st (h.below hW) (hs.mono (by decide) (by decide)) (e.trans hp) ho).mono ?_
 rintro E w' ⟨ss,rfl,k,b⟩
 obtain⟨s2,r2,e2⟩:=h3
 have k:=k.out
 rw[e2]at k⊢
 rw[Orp.sN k (Orp.qc r2)]
 exact⟨rfl,b⟩
theorem apK (g:Nat)(x:Pm.Pg)(w:World)(hg:w.heap[g]? =some (.cells (cp x) 46 (0,0)))(hx:eU x)(hm:eH w):
  Calls Tryz.prog 69 #[.pointer (some ⟨g,0,none⟩)] w fun E w'=>E=.returned (.int .i64 (Pm.chk x))∧Below w.heap.size w w':=by
 unfold cp at hg
 obtain⟨c0,c1,c2,c3,c4,c5⟩:=aN hg
 have PC:=hide (iQ x w hx hm)
 unfold vp at PC
 clear hg hx hm
 go_enter Tryz.func69,Tryz.ntmps69
 go_wp2_with fail
 refine PC.out.mono ?_
 rintro E w' ⟨rfl,b⟩
 have B:=hide b
 clear b PC
 go_wp2
 go_ret
 exact⟨rfl,B.out⟩
theorem amU (g2 g3 p:Nat)(w:World)(r:Int)(h2:w.cell? ⟨g2,0,none⟩=some (.pointer (some ⟨p,0,none⟩)))(hs:Calls Tryz.prog 62 #[.pointer (some ⟨p,0,none⟩),.func (.func 71) #[] #[.pointer (some ⟨g3,0,none⟩)]] w fun E w'=>E=.returned (.int .i64 r)∧Below w.heap.size w w'):
  Calls Tryz.prog 70 #[.pointer (some ⟨g2,0,none⟩),.pointer (some ⟨g3,0,none⟩)] w fun E w'=>E=.returned (.int .i64 r)∧Below w.heap.size w w':=by
 have rG:∀(fn:Fn) (first cap:Array Value) (w:World),(Instr.makeFunc fn first cap).run Tryz.prog w=.ok (.func fn first cap) w:=fun _ _ _ _=>rfl
 have PC:=hide hs
 clear hs
 go_enter Tryz.func70,Tryz.ntmps70
 go_wp2_with fail
 refine PC.out.mono ?_
 rintro E w' ⟨rfl,b⟩
 have B:=hide b
 clear b PC
 go_wp2
 go_ret
 exact⟨rfl,B.out⟩
theorem aof (g2 g3 p:Nat)(x:Pm.Pg)(w:World)(R:Ending→World→Prop)(h2:w.cell? ⟨g2,0,none⟩=some (.pointer (some ⟨p,0,none⟩)))(hg:w.heap[g3]? =some (.cells (cp x) 46 (0,0)))(r:Int)(X:World→Prop)(hs:Calls Tryz.prog 73 #[.pointer (some ⟨p,0,none⟩),vp x] w fun E w'=>E=.returned (.int .i64 r)∧X w'):
  Calls Tryz.prog 72 #[.pointer (some ⟨g2,0,none⟩),.pointer (some ⟨g3,0,none⟩)] w fun E w'=>E=.returned (.int .i64 r)∧X w':=by
 unfold cp at hg
 obtain⟨c0,c1,c2,c3,c4,c5⟩:=aN hg
 have PC:=hide hs
 unfold vp at PC
 clear hs hg
 go_enter Tryz.func72,Tryz.ntmps72
 go_wp2_with fail
 refine PC.out.mono ?_
 rintro E w' ⟨rfl,b⟩
 have B:=hide b
 clear b PC
 go_wp2
 go_ret
 exact⟨rfl,B.out⟩
theorem afN (p q:Nat)(F:Nat→Prop)(w:World)(s:Rst.St)(h:PS p q F w s)(hR:pG s)(h3:T3 s.d∧¬F 0)(x:Pm.Pg)(hx:eU x):Calls Tryz.prog 28 #[.pointer (some ⟨p,0,none⟩),vp x] w fun E w'=>E=.returned (.int .i64 (Rst.dm s x).1)∧bI p q F w w' (Rst.dm s x).2:=by
 have rG:∀(fn:Fn) (first cap:Array Value) (w:World),(Instr.makeFunc fn first cap).run Tryz.prog w=.ok (.func fn first cap) w:=fun _ _ _ _=>rfl
 obtain⟨w1,hw1,s1,b1,P1⟩:=ak w #[.pointer (some ⟨p,0,none⟩)] 41
 obtain⟨w2,hw2,s2,b2,P2⟩:=ak w1 (cp x) 46
 obtain⟨w3,hw3,s3,b3,P3⟩:=ak w2 #[.func (.func 58) #[.pointer (some ⟨p,0,none⟩)] #[],.func (.func 69) #[] #[.pointer (some ⟨w.heap.size+1,0,none⟩)],.func (.func 70) #[] #[.pointer (some ⟨w.heap.size,0,none⟩),.pointer (some ⟨w.heap.size+1,0,none⟩)],.func (.func 72) #[] #[.pointer (some ⟨w.heap.size,0,none⟩),.pointer (some ⟨w.heap.size+1,0,none⟩)]] 154
 have z2:w2.heap.size=w.heap.size+2:=by omega
 have z3:w3.heap.size=w.heap.size+3:=by omega
 rw[s1]at P2
 rw[z2]at P3
 have fV:Below w.heap.size w w3:=(b1.trans (b2.mono (by omega))).trans (b3.mono (by omega))
 have c2:w2.cell? ⟨w.heap.size,0,none⟩=some (.pointer (some ⟨p,0,none⟩)):=ai ((b2.block _ (by omega)).trans P1) 0 rfl
 have t3:=(b3.block _ (by omega)).trans ((b2.block _ (by omega)).trans P1)
 have u3:=(b3.block _ (by omega)).trans P2
 have lS:=h.below fV
 have RUN:Run (w.heap.size+2) (QS p q F w (Rst.dm s x)) [.func (.func 58) #[.pointer (some ⟨p,0,none⟩)] #[],.func (.func 69) #[] #[.pointer (some ⟨w.heap.size+1,0,none⟩)],.func (.func 70) #[] #[.pointer (some ⟨w.heap.size,0,none⟩),.pointer (some ⟨w.heap.size+1,0,none⟩)],.func (.func 72) #[] #[.pointer (some ⟨w.heap.size,0,none⟩),.pointer (some ⟨w.heap.size+1,0,none⟩)]] w3:=by
  refine uN lS (bI.same h fV) (fun k=>by unfold Rst.dm;rw[if_pos k]) fun dV=>?_
  have hon:s.d.on=true:=by
   unfold Rst.asked at dV
   revert dV
   cases s.d.on<;>simp
  have hoff:s.off=false:=by
   unfold Rst.asked at dV
   revert dV
   cases s.off<;>simp
  refine Run.cons (enters_of Tryz.func69 (by kernel_rfl) rfl) (by simp) ((apK _ x w3 u3 hx lS.gz).mono ?_)
  rintro E w4 ⟨rfl,b4⟩
  have xE:=fV.trans (b4.mono (by omega))
  refine⟨_,rfl,b4.block _ (by omega),?_⟩
  by_cases hc:Pm.chk x=0
  ·have hok:Pm.Ok x:=Pm.fM.1 hc
   refine .inr ⟨hc,?_⟩
   have hS4:=h.below xE
   have z4:=b4.size
   have t4:=(b4.block _ (by omega)).trans t3
   have u4:=(b4.block _ (by omega)).trans u3
   obtain⟨F1,G,h1,⟨pw,pr,ps,Gw,Gr,Gs,lw,bw,br,V,rfl⟩,hd,hm,rfl⟩:=hS4
   obtain⟨rfl,rfl,rfl⟩:=V.live hoff
   have hb:=V.blk
   have SC:=vV p q pw pr _ _ w4 _ _ _ _ _ _ hb (V.ww h1) (V.rw h1) 71 #[.pointer (some ⟨w.heap.size+1,0,none⟩)] (enters_of Tryz.func71 (by kernel_rfl) rfl) x _ _ _ (Rst.hf 3 s.d).length (asi w4 p (w.heap.size+1) s.p x _ _ _ u4) (fun _=>ajt p q F1 w4 s.d h1 hR.1 (ai hb 0 rfl) (ax hb) hon h3.1)
   simp only at SC
   rw[abn hok]at SC
   refine Run.cons (enters_of Tryz.func70 (by kernel_rfl) rfl) (by simp) ((amU _ _ p w4 _ (ai t4 0 rfl) SC).mono ?_)
   rintro E w5 ⟨rfl,b5⟩
   have qF:=xE.trans (b5.mono (by omega))
   have z5:=b5.size
   refine⟨_,rfl,b5.block _ (by omega),?_⟩
   have hfi:Rst.fine s x s.l (Cm.lastN 0 s.r)=Rst.snd x s.l (Cm.lastN 0 s.r) (Rst.hf 3 s.d).length:=rfl
   cases hsn:Rst.snd x s.l (Cm.lastN 0 s.r) (Rst.hf 3 s.d).length with
   |false=>
    rw[if_neg (by simp)]
    have hr:Rst.dm s x=(5,s):=by
     unfold Rst.dm
     rw[if_neg (by simp[dV]),if_neg (by simp[hc]),if_pos (hfi.trans hsn)]
    exact .inl ⟨by decide,QS.no hr (by decide) (bI.same h qF)⟩
   |true=>
    rw[if_pos rfl]
    refine .inr ⟨rfl,?_⟩
    have V5:=V.below b5
    have h15:=h1.below b5
    have hm5:=hm.below b5
    have TU:=amC p q F1 w5 s.d s.off s.p x _ _ _ _ h15 hR.1 V5.blk (hd p (.inl rfl)) hok hm5
    have hr:Rst.dm s x=if (Rst.ext s.d 1 (Fm.bT (Pm.enc x))).1≠0 then(6,⟨(Rst.ext s.d 1 (Fm.bT (Pm.enc x))).2,s.p,s.l,s.r,true⟩)else(0,⟨(Rst.ext s.d 1 (Fm.bT (Pm.enc x))).2,x,s.l,s.r,s.off⟩):=by
     unfold Rst.dm
     rw[if_neg (by simp[dV]),if_neg (by simp[hc]),if_neg (by rw[hfi,hsn];simp)]
    have hee:(Rst.ext s.d 1 (Fm.bT (Pm.enc x))).1=0∨(Rst.ext s.d 1 (Fm.bT (Pm.enc x))).1=6:=by
     unfold Rst.ext
     split
     ·exact .inr rfl
     ·split
      ·exact .inr rfl
      ·exact .inl rfl
    generalize Rst.ext s.d 1 (Fm.bT (Pm.enc x))=ex at*
    obtain⟨ee,d'⟩:=ex
    simp only at*
    refine Run.cons (enters_of Tryz.func72 (by kernel_rfl) rfl) (by simp) ((aof _ _ p x w5 (fun _ _=>True) (ai ((b5.block _ (by omega)).trans t4) 0 rfl) ((b5.block _ (by omega)).trans u4) _ _ TU).mono ?_)
    rintro E w6 ⟨rfl,F2,k1,k2,k3,k4⟩
    have hsz:=k3.size
    have nF:¬(F1 (w.heap.size+2)∨w.heap.size+2=p):=by
     rintro(e|e)
     ·have:=h.lt _ (.inl e);omega
     ·have:=h.lt _ (.inr (.inl e));omega
    refine⟨_,rfl,k3.block _ (by omega) nF,?_⟩
    rcases hee with rfl|rfl
    ·rw[if_pos rfl]at k2
     rw[if_neg (by simp)]at hr
     exact .inr ⟨rfl,QS.no hr (by decide) ((ahk V5 hd hm5 (fun e=>h3.2 (.inl e)) hok k1 k2 k3 k4).pre qF)⟩
    ·rw[if_neg (by decide)]at k2
     rw[if_pos (by simp)]at hr
     exact .inl ⟨by decide,QS.six (s1:=⟨d',s.p,s.l,s.r,s.off⟩) hr ((ahk V5 hd hm5 (fun e=>h3.2 (.inl e)) V.ok k1 k2 k3 k4).pre qF)⟩
  ·have hr:Rst.dm s x=(Pm.chk x,s):=by
    unfold Rst.dm
    rw[if_neg (by simp[dV]),if_pos hc]
   have h6:Pm.chk x≠6:=by unfold Pm.chk;split<;>decide
   exact .inl ⟨hc,QS.no hr h6 (bI.same h xE)⟩
 have HC:=hide (xW (n:=4) rfl (by omega) P3 RUN)
 generalize Rst.dm s x=r at*
 unfold cp at hw2
 unfold vp
 clear RUN h hR h3 hx b1 b2 b3 P1 P2 P3 s2 s3 z3 fV t3 u3 lS
 go_enter Tryz.func28,Tryz.ntmps28
 go_wp2_with fail
 refine HC.out.mono ?_
 rintro E w' ⟨rfl,X⟩
 have X:=hide X
 clear HC
 go_wp2
 go_ret
 exact⟨rfl,X.out⟩
theorem ajn (n:Int)(w:World):Calls Tryz.prog 47 #[.int .i64 n] w fun E w'=>E=.returned (.int .i64 (fse n))∧Below w.heap.size w w':=by
 have FI:=hide (acL n w)
 unfold vp at FI
 go_enter Tryz.func47,Tryz.ntmps47
 go_wp2_with fail
 refine FI.out.mono ?_
 rintro E w1 ⟨rfl,b1⟩
 clear FI
 obtain⟨V,hV,hV',sV,bV,PV,⟨z0,z1,z2,z3,z4,z5⟩⟩:=uG w1 46 (.int .i64 0) (.int .u8 0) (.int .i64 0) (.int .u8 0) (.int .i64 0) (.int .i64 0) (.int .i64 (fst n).e) (.int .u8 (fst n).r) (.int .i64 (fst n).a) (.int .u8 (fst n).p) (.int .i64 (fst n).f) (.int .i64 (fst n).b)
 have BV:=hide (b1.trans (bV.mono b1.size))
 clear b1 bV PV sV
 go_wp2
 all_goals
  go_ret
  exact⟨rfl,BV.out⟩
theorem ak9 (g:Nat)(n:Int)(w:World)(hg:w.cell? ⟨g,0,none⟩=some (.int .i64 n)):Calls Tryz.prog 46 #[.pointer (some ⟨g,0,none⟩)] w fun E w'=>E=.returned (.int .i64 (fse n))∧Below w.heap.size w w':=by
 have FI:=hide (ajn n w)
 go_enter Tryz.func46,Tryz.ntmps46
 go_wp2_with fail
 refine FI.out.mono ?_
 rintro E w1 ⟨rfl,b1⟩
 have B:=hide b1
 clear FI b1
 go_wp2
 go_ret
 exact⟨rfl,B.out⟩
theorem asr {V:World}{P q:Nat}{off:Bool}{x:Pm.Pg}{vw vr vs:Value}{en:Int}(hP:V.heap[P]? =some (.cells (eF q off x vw en vr vs) 94 (0,0)))(vw':Value)(en':Int):
  ∃V1 V2,V.setCell ⟨P,8,none⟩ vw'=V1∧V1.setCell ⟨P,9,none⟩ (.int .i64 en')=V2∧V1.heap[P]? =some (.cells (eF q off x vw' en vr vs) 94 (0,0))∧V2.heap[P]? =some (.cells (eF q off x vw' en' vr vs) 94 (0,0))∧Out (fun g=>g=P) V V1∧Out (fun g=>g=P) V1 V2:=by
 have q1:(V.setCell ⟨P,8,none⟩ vw').heap[P]? =some (.cells (eF q off x vw' en vr vs) 94 (0,0)):=aH hP 8 vw'
 exact⟨_,_,rfl,rfl,q1,aH q1 9 (.int .i64 en'),Out.aQ (az V ⟨P,8,none⟩ vw') fun i hi=>by simpa using hi.symm,Out.aQ (az _ ⟨P,9,none⟩ (.int .i64 en')) fun i hi=>by simpa using hi.symm⟩
theorem arJ {V:World}{P q:Nat}{off:Bool}{x:Pm.Pg}{vw vr vs:Value}{en:Int}(hP:V.heap[P]? =some (.cells (eF q off x vw en vr vs) 94 (0,0)))(vr':Value):
  ∃V1,V.setCell ⟨P,11,none⟩ vr'=V1∧V1.heap[P]? =some (.cells (eF q off x vw en vr' vs) 94 (0,0))∧Out (fun g=>g=P) V V1:=
 ⟨_,rfl,aH hP 11 vr',Out.aQ (az V ⟨P,11,none⟩ vr') fun i hi=>by simpa using hi.symm⟩
theorem avy {node:Int}(hn:node=0∨node=1):Pm.Ok (fst node)∧fse node=0:=by
 rcases hn with rfl|rfl
 ·exact⟨by unfold fst;rw[if_pos rfl];decide,rfl⟩
 ·exact⟨by unfold fst;rw[if_neg (by decide),if_pos rfl];decide,rfl⟩
theorem aq4 {st:Dm.Ds}(ho:st.on=true)(f:Nat)(hf:f<4):lI st f=Rst.hf f st∧lY st f=0:=by
 have h4:Dm.iW (f:Int)=true:=by unfold Dm.iW;simp;omega
 unfold lI lY
 rw[if_neg (by simp[ho]),if_neg (by simp[h4]),if_neg (by simp[ho]),if_neg (by simp[h4])]
 exact⟨rfl,rfl⟩
theorem auo {st:Dm.Ds}{t u:Nat}(hs:Big t u st)(f:Nat):(Rst.hf f st).length≤t:=by
 have:=Dm.lH st.wait (st.sure f) f
 have:=hs.1.1 f
 unfold Rst.hf
 omega
theorem amx (g0 g1 P:Nat)(n r:Int)(w:World)(X:Int→World→Prop)(h0:w.cell? ⟨g0,0,none⟩=some (.pointer (some ⟨P,0,none⟩)))(h1:w.cell? ⟨g1,0,none⟩=some (.int .i64 n))(hs:Calls Tryz.prog 50 #[.pointer (some ⟨P,0,none⟩),.int .i64 n] w fun E w'=>∃e,E=.returned (.int .i64 e)∧X e w'):
  Calls Tryz.prog 49 #[.pointer (some ⟨g0,0,none⟩),.pointer (some ⟨g1,0,none⟩)] w fun E w'=>∃e,E=.returned (.int .i64 e)∧X e w':=by
 have PC:=hide hs
 clear hs
 go_enter Tryz.func49,Tryz.ntmps49
 go_wp2_with fail
 refine PC.out.mono ?_
 rintro E w' ⟨e,rfl,k⟩
 have K:=hide k
 clear k PC
 go_wp2
 go_ret
 exact⟨e,rfl,K.out⟩
theorem alq (g0 P q pw pr:Nat)(F F':Nat→Prop)(w:World)(off:Bool)(x:Pm.Pg)(en b:Int)(vs:Value)(sw:Wl.Ws)(sr:Rl.Rs)(h0:w.cell? ⟨g0,0,none⟩=some (.pointer (some ⟨P,0,none⟩)))(hb:w.heap[P]? =some (.cells (eF q off x (.pointer (some ⟨pw,0,none⟩)) en (.pointer (some ⟨pr,0,none⟩)) vs) 94 (0,0)))(h1:WW pw q F w sw)(h2:RW pr q F' w sr)(hS:∀W,Below w.heap.size w W→Calls Tryz.prog 109 #[.pointer (some ⟨P,0,none⟩)] W fun E w'=>E=.returned (.int .i64 b)∧Below W.heap.size W w'):
  Calls Tryz.prog 53 #[.pointer (some ⟨g0,0,none⟩)] w fun E w'=>E=.returned (.int .i64 (if qA x (Cm.lastE 0 sw.l) en (Cm.lastN 0 sr.l) b=true then 0 else 5))∧Below w.heap.size w w':=by
 have OL:=hide (yL P q pw pr F F' w off x en vs sw sr hb h1 h2)
 have CK:Hid (∀w1,Below w.heap.size w w1→Calls Tryz.prog 55 #[.agg (jc x (Cm.lastE 0 sw.l) en (Cm.lastN 0 sr.l) P)] w1 fun E w'=>E=.returned (.int .i64 (if qA x (Cm.lastE 0 sw.l) en (Cm.lastN 0 sr.l) b=true then 0 else 5))∧Below w1.heap.size w1 w'):=hide fun w1 k=>aaj P x _ en _ b w1 fun _ W hW=>hS W (k.trans (hW.mono k.size))
 generalize (if qA x (Cm.lastE 0 sw.l) en (Cm.lastN 0 sr.l) b=true then(0:Int)else 5)=r at*
 clear hb h1 h2 hS
 go_enter Tryz.func53,Tryz.ntmps53
 go_wp2_with fail
 refine OL.out.mono ?_
 rintro E w1 ⟨rfl,b1⟩
 have CK1:=hide (CK.out w1 b1)
 have B1:=hide b1
 clear OL CK b1
 go_wp2_with fail
 refine CK1.out.mono ?_
 rintro E w2 ⟨rfl,b2⟩
 have B2:=hide (B1.out.trans (b2.mono B1.out.size))
 clear CK1 b2 B1
 go_wp2
 go_ret
 exact⟨rfl,B2.out⟩
theorem amK (p q:Nat)(F:Nat→Prop)(w:World)(st:Dm.Ds)(b e:Int)(h:Pk q F w st)(hs:Big 90000000 700000 st)(ho:st.on=true)(h3:Rst.hf 3 st=[])(h0:w.cell? ⟨p,0,none⟩=some (.pointer (some ⟨q,0,none⟩)))(h7:∀W,Below w.heap.size w W→W.cell? ⟨p,7,none⟩=some (.int .i64 b))(hb:b≤0)(he:1≤e):
  Calls Tryz.prog 174 #[.pointer (some ⟨p,0,none⟩),.int .i64 0,.int .i64 e] w fun E w'=>E=.returned (.int .i64 0)∧Below w.heap.size w w':=by
 have R1:=hide (ji q F w st 3 h (fun f=>Nat.le_trans (hs.1.1 f) (by decide)) (Nat.le_trans hs.1.2.1 (by decide)))
 obtain⟨r1,r2⟩:=aq4 ho 3 (by omega)
 have r1:lI st 3=[]:=r1.trans h3
 have r2:lY st 3=0:=r2
 rw[r1,r2]at R1
 have H7:=hide h7
 clear h hs r1 r2 h3 ho h7
 go_enter Tryz.func174,Tryz.ntmps174
 go_wp2_with fail
 refine R1.out.mono ?_
 rintro E w1 ⟨v,rfl,O1,B1⟩
 obtain⟨vs,hsl,eQ⟩:=O1.is.jb Tryz.kW Tryz.mG 0 (by simp)
 obtain⟨ao,cap,rfl,_,_⟩:=O1.is.shape
 have S1:=hide (mQ vs _ w1 eQ (by simp))
 have B1:=hide B1
 clear R1 O1 eQ
 have hsl:∀wx,(Instr.slice 61 (.slice ao 0 cap) none (some (.int .i64 0)) none).run Tryz.prog wx=.ok vs wx:=hsl
 simp only[List.length_nil]
 go_wp2_with fail
 refine S1.out.mono ?_
 rintro E w2 ⟨v2,l,n,rfl,X⟩
 obtain⟨x1,x2,x3,x4,x5⟩:=X.out
 have hl:l=[]:=by
  have:=Orp.sN x4 (show Orp.Sn 0 (List.take 0 []) []from Orp.qc (l:=[]) trivial)
  exact List.map_eq_nil_iff.1 this
 subst hl
 obtain rfl:n=0:=by simpa[Orp.secs,iq]using x3
 obtain⟨tK,cap2,rfl,_,_⟩:=x1.is.shape
 have b2:=B1.out.trans (x5.mono B1.out.size)
 have c7:=H7.out w2 b2
 have B2:=hide b2
 clear S1 X x1 x2 x3 x4 x5 b2 H7
 simp only[List.length_nil]
 have L0:∀W,Calls Tryz.prog 201 #[.slice tK 0 cap2] W fun E w'=>E=.returned (.int .i64 0)∧W=w':=fun W=>by
  go_enter Tryz.func201,Tryz.ntmps201
  go_wp2
  go_ret
  exact⟨rfl,rfl⟩
 have h1:¬(0:Int)≥e:=by omega
 have h2:¬(0:Int)<b:=by omega
 go_wp2_with fail
 refine(L0 _).mono ?_
 rintro E w3 ⟨rfl,rfl⟩
 clear L0
 go_wp2
 go_ret
 exact⟨rfl,B2.out⟩
theorem ak6 (g:Nat)(e f:Int)(v:Value)(rs:List Cw)(w:World)(hg:w.heap[g]? =some (.cells #[.int .i64 e,.int .i64 f,v] 52 (0,0)))(h:di w v rs)(hf:dL rs)(hl:rs.length≤2000):
  Calls Tryz.prog 172 #[.pointer (some ⟨g,0,none⟩)] w fun E w'=>E=.returned (.int .i64 (Orp.chk ⟨e,f,ay rs⟩))∧Below w.heap.size w w':=by
 have c0:=ai hg 0 rfl
 have c1:=ai hg 1 rfl
 have c2:=ai hg 2 rfl
 have PC:=hide (vX e f v rs w h hf (by omega))
 unfold bK at PC
 obtain⟨ao,cap,rfl,_,_⟩:=h.1.shape
 clear hg h hf hl
 go_enter Tryz.func172,Tryz.ntmps172
 go_wp2_with fail
 refine PC.out.mono ?_
 rintro E w' ⟨rfl,b⟩
 have B:=hide b
 clear b PC
 go_wp2
 go_ret
 exact⟨rfl,B.out⟩
theorem alu (g3 g4 g5 p:Nat)(e:Int)(w:World)(h3:w.cell? ⟨g3,0,none⟩=some (.pointer (some ⟨p,0,none⟩)))(h4:w.cell? ⟨g4,0,none⟩=some (.int .i64 0))(h5:w.cell? ⟨g5,0,none⟩=some (.int .i64 e))(hs:Calls Tryz.prog 174 #[.pointer (some ⟨p,0,none⟩),.int .i64 0,.int .i64 e] w fun E w'=>E=.returned (.int .i64 0)∧Below w.heap.size w w'):
  Calls Tryz.prog 173 #[.pointer (some ⟨g3,0,none⟩),.pointer (some ⟨g4,0,none⟩),.pointer (some ⟨g5,0,none⟩)] w fun E w'=>E=.returned (.int .i64 0)∧Below w.heap.size w w':=by
 have PC:=hide hs
 clear hs
 go_enter Tryz.func173,Tryz.ntmps173
 go_wp2_with fail
 refine PC.out.mono ?_
 rintro E w' ⟨rfl,b⟩
 have B:=hide b
 clear b PC
 go_wp2
 go_ret
 exact⟨rfl,B.out⟩
theorem akH (g3 g4 g5 p q:Nat)(e f:Int)(ao:Option Addr)(n cap:Nat)(w:World)(X:World→Prop)(h3:w.cell? ⟨g3,0,none⟩=some (.pointer (some ⟨p,0,none⟩)))(h0:w.cell? ⟨p,0,none⟩=some (.pointer (some ⟨q,0,none⟩)))(h4:w.cell? ⟨g4,0,none⟩=some (.int .i64 0))(k0:w.cell? ⟨g5,0,none⟩=some (.int .i64 e))(k1:w.cell? ⟨g5,1,none⟩=some (.int .i64 f))(k2:w.cell? ⟨g5,2,none⟩=some (.slice ao n cap))
  (hs:Calls Tryz.prog 176 #[.pointer (some ⟨q,0,none⟩),.int .i64 0,.agg #[.int .i64 e,.int .i64 f,.slice ao n cap]] w.drew fun E w'=>E=.returned (.int .i64 0)∧X w')
  (hX:∀w',X w'→w'.cell? ⟨g3,0,none⟩=some (.pointer (some ⟨p,0,none⟩))∧w'.cell? ⟨p,0,none⟩=some (.pointer (some ⟨q,0,none⟩))∧w'.cell? ⟨g4,0,none⟩=some (.int .i64 0)∧w'.cell? ⟨g5,0,none⟩=some (.int .i64 e)∧w'.cell? ⟨g5,1,none⟩=some (.int .i64 f)∧w'.cell? ⟨g5,2,none⟩=some (.slice ao n cap)):
  Calls Tryz.prog 175 #[.pointer (some ⟨g3,0,none⟩),.pointer (some ⟨g4,0,none⟩),.pointer (some ⟨g5,0,none⟩)] w fun E w'=>E=.returned (.int .i64 0)∧X w':=by
 have PC:=hide hs
 have HX:=hide hX
 clear hs hX
 go_enter Tryz.func175,Tryz.ntmps175
 go_wp2_with fail
 go_region_held3 (fun w'=>w'.cell? ⟨g3,0,none⟩=some (.pointer (some ⟨p,0,none⟩))∧w'.cell? ⟨p,0,none⟩=some (.pointer (some ⟨q,0,none⟩))∧w'.cell? ⟨g4,0,none⟩=some (.int .i64 0)∧w'.cell? ⟨g5,0,none⟩=some (.int .i64 e)∧w'.cell? ⟨g5,1,none⟩=some (.int .i64 f)∧w'.cell? ⟨g5,2,none⟩=some (.slice ao n cap)) (first|exact⟨h3,h0,h4,k0,k1,k2⟩|exact hK|go_keep)
  (first
  |(go_at_call 176;refine PC.out.mono ?_;rintro E w' ⟨rfl,k⟩;have hK:=HX.out _ k;have K:=hide k;clear k))
 go_wp2
 go_ret
 exact⟨rfl,K.out⟩
theorem akk (p q:Nat)(F:Nat→Prop)(w:World)(s:Rst.St)(h:PS p q F w s)(hR:pG s)(h0:¬F 0)(dV:Rst.asked s=false)(h3:Rst.hf 3 s.d=[])(hpb:s.p.b≤0)(e f:Int)(v:Value)(rs:List Cw)(hc:∀W,Out F w W→di W v rs)(hf:dL rs)(hl:rs.length≤2000)(he:1≤e)(hck:Orp.chk ⟨e,f,ay rs⟩=0)(hwr:(Orp.dX s.d 0 ⟨e,f,ay rs⟩).1=0):
  Calls Tryz.prog 128 #[.pointer (some ⟨p,0,none⟩),.int .i64 0,bK e f v] w fun E w'=>E=.returned (.int .i64 0)∧bI p q F w w' ⟨(Orp.dX s.d 0 ⟨e,f,ay rs⟩).2,s.p,s.l,s.r,s.off⟩:=by
 have rG:∀(fn:Fn) (first cap:Array Value) (w:World),(Instr.makeFunc fn first cap).run Tryz.prog w=.ok (.func fn first cap) w:=fun _ _ _ _=>rfl
 obtain⟨ao,cap,rfl,_,_⟩:=(hc w (Out.refl _ _)).1.shape
 obtain⟨w1,hw1,s1,b1,P1⟩:=ak w #[.pointer (some ⟨p,0,none⟩)] 41
 obtain⟨wa,hwa,sa,ba,Pa⟩:=ak w1 #[.int .i64 0] 3
 obtain⟨w2,hw2,s2,b2,P2⟩:=ak wa #[.int .i64 e,.int .i64 f,.slice ao rs.length cap] 52
 obtain⟨w3,hw3,s3,b3,P3⟩:=ak w2 #[.func (.func 58) #[.pointer (some ⟨p,0,none⟩)] #[],.func (.func 172) #[] #[.pointer (some ⟨w.heap.size+2,0,none⟩)],.func (.func 173) #[] #[.pointer (some ⟨w.heap.size,0,none⟩),.pointer (some ⟨w.heap.size+1,0,none⟩),.pointer (some ⟨w.heap.size+2,0,none⟩)],.func (.func 175) #[] #[.pointer (some ⟨w.heap.size,0,none⟩),.pointer (some ⟨w.heap.size+1,0,none⟩),.pointer (some ⟨w.heap.size+2,0,none⟩)]] 154
 have za:wa.heap.size=w.heap.size+2:=by omega
 have z2:w2.heap.size=w.heap.size+3:=by omega
 have z3:w3.heap.size=w.heap.size+4:=by omega
 rw[s1]at Pa
 rw[za]at P2
 rw[z2]at P3
 have fV:Below w.heap.size w w3:=((b1.trans (ba.mono (by omega))).trans (b2.mono (by omega))).trans (b3.mono (by omega))
 have c2:w2.cell? ⟨w.heap.size,0,none⟩=some (.pointer (some ⟨p,0,none⟩)):=ai ((b2.block _ (by omega)).trans ((ba.block _ (by omega)).trans P1)) 0 rfl
 have t3:=(b3.block _ (by omega)).trans ((b2.block _ (by omega)).trans ((ba.block _ (by omega)).trans P1))
 have y3:=(b3.block _ (by omega)).trans ((b2.block _ (by omega)).trans Pa)
 have u3:=(b3.block _ (by omega)).trans P2
 have lS:=h.below fV
 have hon:s.d.on=true:=by
  unfold Rst.asked at dV
  revert dV
  cases s.d.on<;>simp
 obtain⟨r,hr⟩:∃r:Int×Rst.St,r=(0,⟨(Orp.dX s.d 0 ⟨e,f,ay rs⟩).2,s.p,s.l,s.r,s.off⟩):=⟨_,rfl⟩
 have RUN:Run (w.heap.size+3) (QS p q F w r) [.func (.func 58) #[.pointer (some ⟨p,0,none⟩)] #[],.func (.func 172) #[] #[.pointer (some ⟨w.heap.size+2,0,none⟩)],.func (.func 173) #[] #[.pointer (some ⟨w.heap.size,0,none⟩),.pointer (some ⟨w.heap.size+1,0,none⟩),.pointer (some ⟨w.heap.size+2,0,none⟩)],.func (.func 175) #[] #[.pointer (some ⟨w.heap.size,0,none⟩),.pointer (some ⟨w.heap.size+1,0,none⟩),.pointer (some ⟨w.heap.size+2,0,none⟩)]] w3:=by
  refine uN lS (bI.same h fV) (fun k=>by rw[dV]at k;cases k) fun _=>?_
  refine Run.cons (enters_of Tryz.func172 (by kernel_rfl) rfl) (by simp) ((ak6 _ e f _ rs w3 u3 (hc w3 (Out.of_below fV)) hf hl).mono ?_)
  rintro E w4 ⟨rfl,b4⟩
  have xE:=fV.trans (b4.mono (by omega))
  have z4:=b4.size
  rw[hck]
  refine⟨_,rfl,b4.block _ (by omega),.inr ⟨rfl,?_⟩⟩
  obtain⟨_,vw4,vr4,vs4,hb4⟩:=(h.below xE).at
  have RM:Calls Tryz.prog 174 #[.pointer (some ⟨p,0,none⟩),.int .i64 0,.int .i64 e] w4 fun E w'=>E=.returned (.int .i64 0)∧Below w4.heap.size w4 w':=by
   obtain⟨F1,h1,_⟩:=(h.below xE).disk h0
   exact amK p q F1 w4 s.d s.p.b e h1 (hR.1.mono (by decide) (by decide)) hon h3 (ai hb4 0 rfl) (fun W hW=>ai ((hW.block p (ax hb4)).trans hb4) 7 rfl) hpb he
  refine Run.cons (enters_of Tryz.func173 (by kernel_rfl) rfl) (by simp) ((alu _ _ _ p e w4 (ai ((b4.block _ (by omega)).trans t3) 0 rfl) (ai ((b4.block _ (by omega)).trans y3) 0 rfl) (ai ((b4.block _ (by omega)).trans u3) 0 rfl) RM).mono ?_)
  rintro E w5 ⟨rfl,b5⟩
  have qF:=xE.trans (b5.mono (by omega))
  have z5:=b5.size
  refine⟨_,rfl,b5.block _ (by omega),.inr ⟨rfl,?_⟩⟩
  have b5d:Below w.heap.size w w5.drew:=qF.drew
  obtain⟨_,vw5,vr5,vs5,hb5⟩:=(h.below qF).at
  obtain⟨F2,j1,j2,j3⟩:=(h.below b5d).disk h0
  have WR:=agv q F2 w5.drew s.d 0 e f _ rs (fun W k=>hc W ((Out.of_below b5d).trans (k.mono fun g hg=>.inl (j2 g hg)) fun g hg=>.inl hg)) hf hl j1 _ _ hR.1 (by decide) (by decide)
  rw[hwr]at WR
  unfold bK at WR
  generalize (Orp.dX s.d 0 ⟨e,f,ay rs⟩).2=d' at*
  have kM:∀g,w.heap.size≤g→¬F2 g:=fun g hg k=>by
   have:=h.lt g (j2 g k)
   omega
  have OUT:∀w',aV q F2 w5.drew w' d'→(∀g,w.heap.size≤g→g<w5.heap.size→w'.heap[g]? =w5.heap[g]?)∧w'.cell? ⟨p,0,none⟩=some (.pointer (some ⟨q,0,none⟩)):=fun w' k=>by
   refine⟨?_,?_⟩
   ·obtain⟨_,_,k2,_⟩:=k
    exact fun g h1 h2=>k2.block g h2 (kM g h1)
   ·obtain⟨F3,k,_⟩:=j3 _ _ k
    obtain⟨_,_,_,_,hb⟩:=k.at
    exact ai hb 0 rfl
  have t5:=(b5.block _ (by omega)).trans ((b4.block _ (by omega)).trans t3)
  have y5:=(b5.block _ (by omega)).trans ((b4.block _ (by omega)).trans y3)
  have u5:=(b5.block _ (by omega)).trans ((b4.block _ (by omega)).trans u3)
  refine Run.cons (enters_of Tryz.func175 (by kernel_rfl) rfl) (by simp) ((akH _ _ _ p q e f ao _ cap w5 (fun w'=>aV q F2 w5.drew w' d') (ai t5 0 rfl) (ai hb5 0 rfl) (ai y5 0 rfl) (ai u5 0 rfl) (ai u5 1 rfl) (ai u5 2 rfl) WR (fun w' k=>by
   obtain⟨o1,o2⟩:=OUT w' k
   have t6:=(o1 _ (by omega) (by omega)).trans t5
   have y6:=(o1 _ (by omega) (by omega)).trans y5
   have u6:=(o1 _ (by omega) (by omega)).trans u5
   exact⟨ai t6 0 rfl,o2,ai y6 0 rfl,ai u6 0 rfl,ai u6 1 rfl,ai u6 2 rfl⟩)).mono ?_)
  rintro E w6 ⟨rfl,k⟩
  exact⟨_,rfl,(OUT _ k).1 _ (by omega) (by omega),.inr ⟨rfl,QS.no hr (by decide) ((j3 _ _ k).pre b5d)⟩⟩
 have HC:=hide (xW (n:=4) rfl (by omega) P3 RUN)
 subst hr
 clear RUN h hR h3 hc hf b1 ba b2 b3 P1 Pa P2 P3 s2 s3 z3 fV t3 u3 y3 lS
 unfold bK
 go_enter Tryz.func128,Tryz.ntmps128
 go_wp2_with fail
 refine HC.out.mono ?_
 rintro E w' ⟨rfl,X⟩
 have X:=hide X
 clear HC
 go_wp2
 go_ret
 exact⟨rfl,X.out⟩
theorem agn (p pr q:Nat)(F:Nat→Prop)(w:World)(sr:Rl.Rs)(u en:Int)(h11:w.cell? ⟨p,11,none⟩=some (.pointer (some ⟨pr,0,none⟩)))(h9:w.cell? ⟨p,9,none⟩=some (.int .i64 en))(h:RW pr q F w sr):
  Calls Tryz.prog 178 #[.pointer (some ⟨p,0,none⟩),.int .i64 u] w fun E w'=>E=.returned (.int .i64 (if u<Cm.lastN 0 sr.l∨en<u then 2 else 0))∧w=w':=by
 have HE:=hide (lQ pr q F w sr h)
 clear h
 generalize Cm.lastN 0 sr.l=n at*
 by_cases h1:u<n
 ·rw[if_pos (.inl h1)]
  go_enter Tryz.func178,Tryz.ntmps178
  go_wp2_with fail
  refine HE.out.mono ?_
  rintro E w1 ⟨rfl,rfl⟩
  go_wp2
  go_ret
  exact⟨rfl,rfl⟩
 ·by_cases h2:en<u
  ·rw[if_pos (.inr h2)]
   go_enter Tryz.func178,Tryz.ntmps178
   go_wp2_with fail
   refine HE.out.mono ?_
   rintro E w1 ⟨rfl,rfl⟩
   go_wp2
   go_ret
   exact⟨rfl,rfl⟩
  ·rw[if_neg (by omega)]
   go_enter Tryz.func178,Tryz.ntmps178
   go_wp2_with fail
   refine HE.out.mono ?_
   rintro E w1 ⟨rfl,rfl⟩
   go_wp2
   go_ret
   exact⟨rfl,rfl⟩
theorem aiM (g2 g3 p:Nat)(w:World)(u r:Int)(h2:w.cell? ⟨g2,0,none⟩=some (.pointer (some ⟨p,0,none⟩)))(h3:w.cell? ⟨g3,0,none⟩=some (.int .i64 u))(hs:Calls Tryz.prog 178 #[.pointer (some ⟨p,0,none⟩),.int .i64 u] w fun E w'=>E=.returned (.int .i64 r)∧w=w'):
  Calls Tryz.prog 177 #[.pointer (some ⟨g2,0,none⟩),.pointer (some ⟨g3,0,none⟩)] w fun E w'=>E=.returned (.int .i64 r)∧w=w':=by
 have PC:=hide hs
 clear hs
 go_enter Tryz.func177,Tryz.ntmps177
 go_wp2_with fail
 refine PC.out.mono ?_
 rintro E w' ⟨rfl,rfl⟩
 go_wp2
 go_ret
 exact⟨rfl,rfl⟩
theorem al9 (p q pw:Nat)(F:Nat→Prop)(w:World)(s:Wl.Ws)(tt:Nat)(cs:Array Value)(hb:w.heap[p]? =some (.cells cs 94 (0,0)))(h8:cs[8]? =some (.pointer (some ⟨pw,0,none⟩)))(h9:cs[9]? =some (.int .i64 s.l.length))(h:WW pw q F w s)(hs:Big 50000000 500000 s.d)(hp:¬F p)(hto:tt≤s.l.length)(hl:s.l.length≤2000)
  (hin:(Wl.aR s.l).length≤(Wl.hld s.d).length) (e1:(Wl.iM s tt).1=0) (e2:(Wl.rY (Wl.iM s tt).2).1=0):
  Calls Tryz.prog 182 #[.pointer (some ⟨p,8,none⟩),.int .i64 tt] w fun E w'=>E=.returned (.int .i64 0)∧∃F',WW pw q F' w' (Wl.rY (Wl.iM s tt).2).2∧w'.heap[p]? =some (.cells (cs.setIfInBounds 9 (.int .i64 tt)) 94 (0,0))∧Out (fun g=>F g∨g=p) w w'∧∀g,F' g→F g∨w.heap.size≤g:=by
 have hpl:=ax hb
 have c8:=ai hb 8 h8
 have c9:=ai hb 9 h9
 have hd:Below w.heap.size w w.drew:=(Below.refl _ _).drew
 have HF:Hid (Calls Tryz.prog 34 #[.pointer (some ⟨pw,0,none⟩),.int .i64 (tt+1),.int .i64 s.l.length] w.drew fun E w'=>∃v,E=.returned v∧Below w.heap.size w w'∧w'.cell? ⟨p,8,none⟩=some (.pointer (some ⟨pw,0,none⟩))∧w'.cell? ⟨p,9,none⟩=some (.int .i64 s.l.length)):=hide (by
  refine(wU pw q _ w.drew _ (tt+1) s.l.length (h.below hd)).mono ?_
  rintro E w' ⟨v,rs,rfl,o1,o2,o3,o4,o5⟩
  have o5:Below w.heap.size w w':=hd.trans o5
  exact⟨v,rfl,o5,ai ((o5.block p hpl).trans hb) 8 h8,ai ((o5.block p hpl).trans hb) 9 h9⟩)
 have b1:Big 50000000 500001 (Wl.iM s tt).2.d:=by
  unfold Wl.iM
  split
  ·exact hs.mono (by omega) (by omega)
  ·split
   ·exact hs.mono (by omega) (by omega)
   ·split
    ·exact sS hs 0 _
    ·exact sS hs 0 _
 have HW:=hide (And.intro hb (And.intro h (And.intro hs (And.intro hp (And.intro hin b1)))))
 have hwr:IntKind.i64.wrap ((tt:Int)+1)=tt+1:=aS _ (by omega) (by omega)
 obtain⟨n,hn⟩:∃n:Int,n=(s.l.length:Int):=⟨_,rfl⟩
 rw[←hn]at HF c9
 have h9':cs[9]? =some (.int .i64 n):=by rw[hn];exact h9
 clear hn h9
 clear hb h hs hp hin b1
 go_enter Tryz.func182,Tryz.ntmps182
 go_wp2_with fail
 go_region_held3 (fun w'=>w'.cell? ⟨p,8,none⟩=some (.pointer (some ⟨pw,0,none⟩))∧w'.cell? ⟨p,9,none⟩=some (.int .i64 n)) (first|exact⟨c8,c9⟩|exact⟨d8,d9⟩|go_keep)
  (first
  |(go_at_call 34;refine HF.out.mono ?_;rintro E w3 ⟨vv,rfl,b3,d8,d9⟩;have B3:=hide b3;clear b3))
 clear HF
 have HC:=hide (anu pw q F w3 s tt (HW.out.2.1.below B3.out) (HW.out.2.2.1.mono (by decide) (by decide)) (fun _=>HW.out.2.2.2.2.1))
 rw[e1]at HC
 go_wp2_with fail
 refine HC.out.mono ?_
 rintro E w4 ⟨rfl,S4⟩
 have hb4:w4.heap[p]? =some (.cells cs 94 (0,0)):=by
  obtain⟨_,_,k,_⟩:=S4
  exact(k.block p (by have:=B3.out.size;omega) HW.out.2.2.2.1).trans ((B3.out.block p hpl).trans HW.out.1)
 have a8:=ai hb4 8 h8
 have S4:=hide S4
 obtain⟨F4,k1,k2,k3⟩:=S4.out
 have HY:=hide (acf pw q F4 w4 _ k1 (HW.out.2.2.2.2.2.mono (by decide) (by decide)))
 rw[e2]at HY
 have K:=hide (And.intro k2 k3)
 have H4:=hide hb4
 clear HC k1 k2 k3 hb4 S4
 go_wp2_with fail
 refine HY.out.mono ?_
 rintro E w5 ⟨rfl,F5,m1,m2,m3⟩
 have nF4:¬F4 p:=fun e=>by
  rcases K.out.2 p e with e|e
  ·exact HW.out.2.2.2.1 e
  ·have:=B3.out.size;omega
 have hb5:w5.heap[p]? =some (.cells cs 94 (0,0)):=(m2.block p (ax H4.out) nF4).trans H4.out
 obtain⟨V',hV',PV,gV,fz⟩:=putAt hb5 9 (.int .i64 tt)
 have a9:=ai hb5 9 h9'
 have nF5:¬F5 p:=fun e=>by
  rcases m3 p e with e|e
  ·exact nF4 e
  ·have:=ax H4.out;omega
 have X:Hid (∃F',WW pw q F' V' (Wl.rY (Wl.iM s tt).2).2∧V'.heap[p]? =some (.cells (cs.setIfInBounds 9 (.int .i64 tt)) 94 (0,0))∧Out (fun g=>F g∨g=p) w V'∧∀g,F' g→F g∨w.heap.size≤g):=hide (by
  have z3:=B3.out.size
  have o4:Out F w w4:=(Out.of_below B3.out).trans K.out.1 fun g e=>.inl e
  have o5:Out F w w5:=o4.trans m2 fun g e=>by
   rcases K.out.2 g e with e|e
   ·exact .inl e
   ·exact .inr (by omega)
  have oV:Out (fun g=>g=p) w5 V':=Out.aQ gV fun g e=>by simpa using e.symm
  refine⟨F5,m1.out oV fun g e k=>nF5 (k▸e),PV,(o5.mono fun g e=>.inl (.inl e)).trans oV fun g e=>.inl (.inr e),fun g e=>?_⟩
  rcases m3 g e with e|e
  ·rcases K.out.2 g e with e|e
   ·exact .inl e
   ·exact .inr (by omega)
  ·have:=o4.size
   exact .inr (by omega))
 clear HY m1 m2 m3 gV PV H4 K HW hb5
 go_wp2
 go_ret
 exact⟨rfl,X.out⟩
theorem akl (g2 g4 p q:Nat)(F:Nat→Prop)(w:World)(st:Dm.Ds)(h:Pk q F w st)(hs:Big 90000000 700000 st)(ho:st.on=true)(h2:w.cell? ⟨g2,0,none⟩=some (.pointer (some ⟨p,0,none⟩)))(h0:w.cell? ⟨p,0,none⟩=some (.pointer (some ⟨q,0,none⟩)))(h4:w.heap[g4]? =some (.cells #[.slice none 0 0] 61 (0,0))):
  Calls Tryz.prog 169 #[.pointer (some ⟨g2,0,none⟩),.pointer (some ⟨g4,0,none⟩)] w fun E w'=>E=.returned (.int .i64 0)∧∃ao cap,w'.heap[g4]? =some (.cells #[.slice ao (Rst.hf 3 st).length cap] 61 (0,0))∧Out (fun g=>g=g4) w w':=by
 have R1:=hide (ji q F w st 3 h (fun f=>Nat.le_trans (hs.1.1 f) (by decide)) (Nat.le_trans hs.1.2.1 (by decide)))
 obtain⟨r1,r2⟩:=aq4 ho 3 (by omega)
 have r1:lI st 3=Rst.hf 3 st:=r1
 have r2:lY st 3=0:=r2
 rw[r1,r2]at R1
 clear h hs r1 r2
 go_enter Tryz.func169,Tryz.ntmps169
 go_wp2_with fail
 refine R1.out.mono ?_
 rintro E w1 ⟨v,rfl,O1,B1⟩
 obtain⟨ao,cap,rfl,_,_⟩:=O1.is.shape
 obtain⟨V',hV',PV,gV,fz⟩:=putAt ((B1.block g4 (ax h4)).trans h4) 0 (.slice ao (Rst.hf 3 st).length cap)
 have X:Hid (∃ao' cap',V'.heap[g4]? =some (.cells #[.slice ao' (Rst.hf 3 st).length cap'] 61 (0,0))∧Out (fun g=>g=g4) w V'):=hide ⟨ao,cap,PV,(Out.of_below B1).trans (Out.aQ gV fun g e=>(by simpa using e.symm)) fun g e=>.inl e⟩
 have c4:=ai ((B1.block g4 (ax h4)).trans h4) 0 rfl
 clear R1 O1 B1 gV PV h4
 go_wp2
 go_ret
 exact⟨rfl,X.out⟩
theorem ajM (p q:Nat)(F:Nat→Prop)(w:World)(s:Rst.St)(h:PS p q F w s)(hR:pG s)(dV:Rst.asked s=false):Calls Tryz.prog 126 #[.pointer (some ⟨p,0,none⟩)] w fun E w'=>E=.returned (.tuple #[.int .i64 ((Rst.hf 3 s.d).length:Int),.int .i64 0])∧Below w.heap.size w w':=by
 have rG:∀(fn:Fn) (first cap:Array Value) (w:World),(Instr.makeFunc fn first cap).run Tryz.prog w=.ok (.func fn first cap) w:=fun _ _ _ _=>rfl
 obtain⟨w1,hw1,s1,b1,P1⟩:=ak w #[.pointer (some ⟨p,0,none⟩)] 41
 obtain⟨w2,hw2,s2,b2,P2⟩:=ak w1 #[.slice none 0 0] 61
 obtain⟨w3,hw3,s3,b3,P3⟩:=ak w2 #[.func (.func 58) #[.pointer (some ⟨p,0,none⟩)] #[],.func (.func 169) #[] #[.pointer (some ⟨w.heap.size,0,none⟩),.pointer (some ⟨w.heap.size+1,0,none⟩)]] 154
 have z2:w2.heap.size=w.heap.size+2:=by omega
 have z3:w3.heap.size=w.heap.size+3:=by omega
 rw[s1]at P2
 rw[z2]at P3
 have fV:Below w.heap.size w w3:=(b1.trans (b2.mono (by omega))).trans (b3.mono (by omega))
 have c2:w2.cell? ⟨w.heap.size,0,none⟩=some (.pointer (some ⟨p,0,none⟩)):=ai ((b2.block _ (by omega)).trans P1) 0 rfl
 have t3:=(b3.block _ (by omega)).trans ((b2.block _ (by omega)).trans P1)
 have u3:=(b3.block _ (by omega)).trans P2
 have lS:=h.below fV
 have hon:s.d.on=true:=by
  unfold Rst.asked at dV
  revert dV
  cases s.d.on<;>simp
 obtain⟨F1,G,h1,⟨pw,pr,ps,Gw,Gr,Gs,lw,bw,br,V,rfl⟩,hd,hm,rfl⟩:=lS
 have RUN:Run (w.heap.size+2) (fun e W=>e=0∧∃ao cap,W.heap[w.heap.size+1]? =some (.cells #[.slice ao (Rst.hf 3 s.d).length cap] 61 (0,0))∧Out (fun g=>g=w.heap.size+1) w3 W) [.func (.func 58) #[.pointer (some ⟨p,0,none⟩)] #[],.func (.func 169) #[] #[.pointer (some ⟨w.heap.size,0,none⟩),.pointer (some ⟨w.heap.size+1,0,none⟩)]] w3:=by
  refine Run.cons (enters_of Tryz.func58 (by kernel_rfl) rfl) (by simp) ((abl p q F1 w3 s.d s.off h1 (ai V.blk 0 rfl) (ai V.blk 1 rfl)).mono ?_)
  rintro E w' ⟨rfl,rfl⟩
  have hc':¬(s.off|| !s.d.on)=true:=by rw[show(s.off|| !s.d.on)=Rst.asked s from rfl,dV];simp
  rw[if_neg hc']
  refine⟨_,rfl,rfl,.inr ⟨rfl,?_⟩⟩
  refine Run.cons (enters_of Tryz.func169 (by kernel_rfl) rfl) (by simp) ((akl _ _ p q F1 w3 s.d h1 (hR.1.mono (by decide) (by decide)) hon (ai t3 0 rfl) (ai V.blk 0 rfl) u3).mono ?_)
  rintro E w4 ⟨rfl,ao,cap,k1,k2⟩
  exact⟨_,rfl,k2.block _ (by omega) (by omega),.inr ⟨rfl,rfl,ao,cap,k1,k2⟩⟩
 have HC:=hide (acy (.pointer (some ⟨p,0,none⟩)) p _ 2 _ w3 _ rfl (by omega) P3 RUN (by
  rintro W ⟨e,_⟩
  exact absurd e (by decide)))
 have HX:Hid (∀W,Out (fun g=>g=w.heap.size+1) w3 W→Below w.heap.size w W):=hide fun W k=>fV.trans ((k.below (fun g e=>by omega) (by omega)))
 generalize (Rst.hf 3 s.d).length=n at*
 clear RUN h hR b1 b2 b3 P1 P2 P3 s2 s3 z3 fV t3 u3 V h1 hd hm hon
 go_enter Tryz.func126,Tryz.ntmps126
 go_wp2_with fail
 refine HC.out.mono ?_
 rintro E w' ⟨e,W,rfl,⟨rfl,ao,cap,k1,k2⟩,⟨k,rfl⟩|⟨k,_⟩⟩
 ·have c4:=ai k1 0 rfl
  have B:=hide (HX.out _ k2)
  clear HC HX k1 k2
  go_wp2
  refine bodyPost_ret (results_tmp2 rfl _ _ _) rfl ?_
  exact⟨rfl,B.out⟩
 ·exact absurd k (by decide)
theorem alH (p q:Nat)(F:Nat→Prop)(w:World)(s:Rst.St)(h:PS p q F w s)(hR:pG s)(dV:Rst.asked s=false)(hg:Cm.Good 0 0 s.l)(x:Pm.Pg)(hx:eU x)(m:Mw)(hi:fw w m)(hf:dx m)(nf:Int)(hk:Fr (Sm.told 0 s.l) s.l.length m.ss m.n nf)(hnf:I64 nf):
  Calls Tryz.prog 77 #[.pointer (some ⟨p,0,none⟩),vp x,mv m] w fun E w'=>E=.returned (.tuple #[vp (Rol.fk x nf (Rst.hf 3 s.d).length),.int .i64 (Rol.mZ x nf (Rst.hf 3 s.d).length)])∧Below w.heap.size w w':=by
 obtain⟨w1,hw1,s1,b1,P1⟩:=ak w (cp x) 46
 obtain⟨w2,hw2,s2,b2,P2⟩:=qB w1 m
 obtain⟨w3,hw3,s3,b3,P3⟩:=ak w2 #[.int .i64 0,.int .u8 0,.int .i64 0,.int .u8 0,.int .i64 0,.int .i64 0] 46
 have z2:w2.heap.size=w.heap.size+2:=by omega
 rw[s1]at P2
 rw[z2]at P3
 have fV:Below w.heap.size w w3:=(b1.trans (b2.mono (by omega))).trans (b3.mono (by omega))
 have KEEP:Hid (∀W,Below w3.heap.size w3 W→W.heap[w.heap.size]? =some (.cells (cp x) 46 (0,0))∧fq W (w.heap.size+1) m∧W.heap[w.heap.size+2]? =some (.cells #[.int .i64 0,.int .u8 0,.int .i64 0,.int .u8 0,.int .i64 0,.int .i64 0] 46 (0,0))∧PS p q F W s∧fw W m∧Below w.heap.size w W):=hide fun W hW=>by
  have b:=fV.trans (hW.mono (by omega))
  exact⟨(hW.block _ (by omega)).trans ((b3.block _ (by omega)).trans ((b2.block _ (by omega)).trans P1)),(hW.block _ (by omega)).trans ((b3.block _ (by omega)).trans P2),(hW.block _ (by omega)).trans P3,h.below b,hi.below b,b⟩
 have z3:w3.heap.size=w.heap.size+3:=by omega
 have HL:=hide (aab p q F w3 s (h.below fV) hR)
 have HH:=hide (And.intro hR (And.intro dV (And.intro hg (And.intro hx (And.intro hf (And.intro hk hnf))))))
 have hms:∃ao nn cap,m.vs=.slice ao nn cap:=by
  obtain⟨ao,cap,e,_,_⟩:=aaK hi.s
  exact⟨_,_,_,e⟩
 obtain⟨va,vn,aw7,hvs⟩:=hms
 have B3:=hide fV
 have hlen:s.l.length≤2000:=hR.2
 have aac:w1.alloc (.cells #[.int .i64 m.k,.int .i64 m.e,.int .u8 m.r,.int .i64 m.n,.slice va vn aw7,.int .i64 m.f,.int .i64 m.p,m.vc] 26)=w2:=by rw[←hvs];exact hw2
 have HMV:Hid (mv m=.agg #[.int .i64 m.k,.int .i64 m.e,.int .u8 m.r,.int .i64 m.n,.slice va vn aw7,.int .i64 m.f,.int .i64 m.p,m.vc]):=hide (by unfold mv;rw[hvs])
 have ma:=hide hvs
 unfold cp at hw1
 rw[HMV.out]
 have HV:Hid (∀y:Pm.Pg,vp y=.agg #[.int .i64 y.e,.int .u8 y.r,.int .i64 y.a,.int .u8 y.p,.int .i64 y.f,.int .i64 y.b]):=hide fun _=>rfl
 obtain⟨bb,hbb⟩:∃bb:Int,((Rst.hf 3 s.d).length:Int)=bb:=⟨_,rfl⟩
 obtain⟨y,hy⟩:∃y,Rol.fk x nf bb=y:=⟨_,rfl⟩
 obtain⟨ye,hye⟩:∃ye,Rol.mZ x nf bb=ye:=⟨_,rfl⟩
 rw[hbb,hy,hye,HV.out x,HV.out]
 have HY:=hide (And.intro hbb (And.intro hy hye))
 clear hbb hy hye
 clear h hR dV hg hx hi hf hk hnf b1 b2 b3 P1 P2 P3 fV hw2 hvs
 go_enter Tryz.func77,Tryz.ntmps77
 go_wp2_with fail
 refine HL.out.mono ?_
 rintro E w4 ⟨v4,rs,rfl,sh4,e4,b4⟩
 have hlr:rs.length=s.l.length:=by rw[←e4];unfold ay;rw[List.length_map]
 have ic4:di w4 v4 rs:=sh4.isC
 have HO:=hide (ash v4 rs w4 ic4 sh4.f (by omega) (by rw[e4];exact HH.out.2.2.1))
 rw[e4]at HO
 obtain⟨a4,k4,hv4,_,_⟩:=ic4.1.shape
 rw[hlr]at hv4
 subst hv4
 have Z4:=hide b4
 obtain⟨ll,hll⟩:∃ll,s.l.length=ll:=⟨_,rfl⟩
 rw[hll]at HO hlen
 have HLL:=hide hll
 rw[hll]
 clear HL sh4 ic4 b4 hlr e4 hll
 go_wp2_with fail
 refine HO.out.mono ?_
 rintro E w5 ⟨v5,fe,fp,rfl,F5,o5,b5⟩
 obtain⟨w6,rQ,ato,s6,b6,P6,f0,f1⟩:=nC w5 31 (.int .i64 0) (.int .i64 0) (.int .i64 fe) (.int .i64 fp)
 have z4:=Z4.out.size
 have b36:Below w3.heap.size w3 w6:=(Z4.out.trans (b5.mono z4)).trans (b6.mono (by have:=b5.size;omega))
 obtain⟨k1,k2,k3,k4,k5,k6⟩:=KEEP.out w6 b36
 obtain⟨c0,c1,c2,c3,c4,c5⟩:=aN k1
 obtain⟨a0,a1,a2,a3,a4',a5,a6,a7⟩:=k2.ei
 rw[ma.out]at a4'
 have r5:jH w6 v5 (Sm.told 0 s.l):=(jr o5 b6).row
 obtain⟨a5',c5',hv5,_,_⟩:=aaK r5
 have SF:=hide (akT v5 m.vs _ _ s.l.length m.n w6 r5 k5.s (by have:=qh s.l 0;have:=HH.out.1.2;omega) (by have:=HH.out.2.2.2.2.1.ls;omega))
 rw[ma.out,HLL.out]at SF
 subst hv5
 have B6:=hide b36
 clear HO o5 b5 b6 P6 b36 k1 k2 k3 k4 k5 k6 r5 F5
 go_wp2_with fail
 refine SF.out.mono ?_
 rintro E w7 ⟨n7,rfl,fr7,b7⟩
 obtain rfl:n7=nf:=afO (by have:=fr7;rw[←HLL.out]at this;exact this) HH.out.2.2.2.2.2.1
 have b37:Below w3.heap.size w3 w7:=B6.out.trans (b7.mono B6.out.size)
 have HB:=hide (ajM p q F w7 s (KEEP.out w7 b37).2.2.2.1 HH.out.1 HH.out.2.1)
 have aeB:I64 ((Rst.hf 3 s.d).length:Int):=by
  have:=auo HH.out.1.1 3
  unfold I64
  omega
 rw[HY.out.1]at HB aeB
 have B7:=hide b37
 clear SF fr7 b7 b37 B6 c0 c1 c2 c3 c4 c5 a0 a1 a2 a3 a4' a5 a6 a7 f0 f1
 go_wp2_with fail
 refine HB.out.mono ?_
 rintro E w8 ⟨rfl,b8⟩
 have b38:Below w3.heap.size w3 w8:=B7.out.trans (b8.mono B7.out.size)
 obtain⟨k1,k2,k3,k4,k5,k6⟩:=KEEP.out w8 b38
 obtain⟨c0,c1,c2,c3,c4,c5⟩:=aN k1
 have RF:=hide (ak2 x n7 bb w8 HH.out.2.2.2.1 k4.gz HH.out.2.2.2.2.2.2 aeB)
 rw[HY.out.2.1,HY.out.2.2,HV.out x,HV.out]at RF
 have B8:=hide b38
 clear HB b8 b38 B7 k1 k2 k3 k4 k5 k6
 go_wp2_with fail
 refine RF.out.mono ?_
 rintro E w9 ⟨rfl,b9⟩
 obtain⟨k1,k2,k3,k4,k5,k6⟩:=KEEP.out w9 (B8.out.trans (b9.mono B8.out.size))
 obtain⟨V',hV',dN,cZ,⟨q0,q1,q2,q3,q4,q5⟩,fr,⟨u0,u1,u2,u3,u4,u5⟩⟩:=eu k3 (.int .i64 y.e) (.int .u8 y.r) (.int .i64 y.a) (.int .u8 y.p) (.int .i64 y.f) (.int .i64 y.b)
 have g0:=fr 0;have g1:=fr 1;have g2:=fr 2;have g3:=fr 3;have g4:=fr 4;have g5:=fr 5
 have BV:=hide (aB k6 cZ (by omega) k6.size)
 clear RF b9 k1 k2 k3 k4 k5 k6 cZ dN fr B8 c0 c1 c2 c3 c4 c5
 go_wp2
 refine bodyPost_ret (v:=.tuple #[.agg #[.int .i64 y.e,.int .u8 y.r,.int .i64 y.a,.int .u8 y.p,.int .i64 y.f,.int .i64 y.b],.int .i64 ye]) (by simp[results,Tryz.results77,go_sem,u0,u1,u2,u3,u4,u5]) rfl ?_
 exact⟨rfl,BV.out⟩
end Go.Proofs.YtmngcecomcadkaaGreatDoor
