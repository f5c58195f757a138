/- Texts. -/
import Derived.Test.YtlmkaljjocflmaaGreatDoorBH26
import Derived.Test.YtlmkaljjocflmaaGreatDoorBH21
import Derived.Test.YtlmkaljjocflmaaGreatDoorBH17
import Derived.Test.YtlmkaljjocflmaaGreatDoorBH22
import Derived.Test.YtlmkaljjocflmaaGreatDoorBH19
import Derived.Test.YtlmkaljjocflmaaGreatDoorBH24
import Derived.Test.YtlmkaljjocflmaaGreatDoorBH4
import Derived.Deep.RegionHeld3
import Derived.Test.YtlmkaljjocflmaaGreatDoorBH16
import Derived.Test.YtlmkaljjocflmaaGreatDoorBH11
set_option maxRecDepth 100000
set_option maxHeartbeats 8000000
set_option linter.unusedVariables false
open Go.Proofs.Tryz
namespace Go.Proofs.YtlmkaljjocflmaaGreatDoor
open Go.RowKit
section
variable {p q:Nat} {F:Nat→Prop} {w W:World} {s s1:Rst.St}
theorem PS.at (h:PS p q F w s):F p∧∃vw vr vs,w.heap[p]? =some (.cells (fo q s.off s.p vw s.l.length vr vs) 137 (0,0)):=by
 obtain⟨F1,G,h1,⟨pw,pr,ps,Gw,Gr,Gs,lw,bw,br,V,rfl⟩,h3,hm,rfl⟩:=h
 exact⟨.inr (.inl rfl),_,_,_,V.blk⟩
theorem PS.below (h:PS p q F w s)(hb:Below w.heap.size w W):PS p q F W s:=h.agree (fun g hg=>hb.block g (h.lt g hg)) hb.size (h.gQ.below hb)
theorem iO.same (h:PS p q F w s)(hb:Below w.heap.size w W):iO p q F w W s:=⟨F,h.below hb,Out.of_below hb,fun g hg=>.inl hg⟩
theorem abe {cs:Array Value}{t:TypeId}{fr:Nat×Nat}{a:Option Addr}(hm:fU w)(hb:w.heap[p]? =some (.cells cs t fr))(hc:cs[0]? =some (.pointer a)):p≠0:=by
 rintro rfl
 have:=ai hb 0 hc
 rw[hm.c0]at this
 cases this
theorem iO.brk (h:iO p q F w W s1):iO p q F w (W.setCell ⟨p,1,none⟩ (.bool true)) (Rst.brk s1):=by
 obtain⟨F',⟨F1,G,h1,⟨pw,pr,ps,Gw,Gr,Gs,lw,bw,br,V,rfl⟩,h3,hm,rfl⟩,ho,hn⟩:=h
 have hp:p≠0:=abe hm V.blk rfl
 have oZ:Out (fun g=>g=p) W (W.setCell ⟨p,1,none⟩ (.bool true)):=Out.aM (ax W ⟨p,1,none⟩ (.bool true)) fun i hi=>by simpa using hi.symm
 have pz:(W.setCell ⟨p,1,none⟩ (.bool true)).heap[p]? =some (.cells (fo q true s1.p (.pointer (some ⟨pw,0,none⟩)) s1.l.length (.pointer (some ⟨pr,0,none⟩)) (.pointer (some ⟨ps,0,none⟩))) 137 (0,0)):=aF V.blk 1 (.bool true)
 generalize W.setCell ⟨p,1,none⟩ (.bool true)=Z at*
 have hF1:¬F1 p:=h3 p (.inl rfl)
 refine⟨fun g=>F1 g∨PB p Gw Gr Gs g,⟨F1,PB p Gw Gr Gs,h1.agree fun g hg=>oZ.block g (h1.lt g hg) fun e=>hF1 (e▸hg),⟨pw,pr,ps,Gw,Gr,Gs,lw,bw,br,⟨pz,V.wal.out oZ fun g hg e=>V.np.1 (e▸hg),V.run.out oZ fun g hg e=>V.np.2.1 (e▸hg),V.aP.out oZ fun g hg e=>V.np.2.2 (e▸hg),V.log,(fun e=>absurd e (by simp[Rst.brk])),V.ok,V.fit,V.rest,V.le,V.np,V.wr,V.ws,V.rs⟩,rfl⟩,h3,gz hm oZ fun e=>hp e.symm,rfl⟩,ho.trans oZ fun g hg=>?_,hn⟩
 rw[hg]
 exact hn p (.inr (.inl rfl))
theorem aiH {pw pr ps:Nat}{F1 F2 Gw Gr Gs:Nat→Prop}{w5 w6:World}{lw:List Cm.Cv}{bw br:Bool}{x:Pm.Pg}{d':Dm.Ds}(V:mQ p q pw pr ps Gw Gr Gs w5 s lw bw br)(hd:∀g,PB p Gw Gr Gs g→¬F1 g)(hm:fU w5)(h0:¬F1 0)(hok:Pm.Ok x)(k1:Pk q F2 w6 d')(k2:w6.heap[p]? =some (.cells (fo q s.off x (.pointer (some ⟨pw,0,none⟩)) s.l.length (.pointer (some ⟨pr,0,none⟩)) (.pointer (some ⟨ps,0,none⟩))) 137 (0,0)))(k3:Out (fun g=>F1 g∨g=p) w5 w6)(k4:∀g,F2 g→F1 g∨w5.heap.size≤g):
  iO p q (fun g=>F1 g∨PB p Gw Gr Gs g) w5 w6 ⟨d',x,s.l,s.r,s.off⟩:=by
 have hp:p≠0:=abe hm V.blk rfl
 have ne:∀g,PB p Gw Gr Gs g→g≠p→¬(F1 g∨g=p):=fun g hg hn e=>e.elim (hd g hg) hn
 refine⟨fun g=>F2 g∨PB p Gw Gr Gs g,⟨F2,PB p Gw Gr Gs,k1,⟨pw,pr,ps,Gw,Gr,Gs,lw,bw,br,⟨k2,V.wal.out k3 fun g hg=>ne g (.inr (.inl hg)) fun e=>V.np.1 (e▸hg),V.run.out k3 fun g hg=>ne g (.inr (.inr (.inl hg))) fun e=>V.np.2.1 (e▸hg),V.aP.out k3 fun g hg=>ne g (.inr (.inr (.inr hg))) fun e=>V.np.2.2 (e▸hg),V.log,V.live,hok,wT hok,V.rest,V.le,V.np,V.wr,V.ws,V.rs⟩,rfl⟩,fun g hg e=>?_,gz hm k3 fun e=>?_,rfl⟩,k3.mono fun g hg=>?_,fun g hg=>?_⟩
 ·rcases k4 g e with e|e
  ·exact hd g hg e
  ·have:=V.lt g hg;omega
 ·rcases e with e|e
  ·exact h0 e
  ·exact hp e.symm
 ·rcases hg with e|e
  ·exact .inl (.inl e)
  ·exact .inl (.inr (.inl e))
 ·rcases hg with e|e
  ·exact(k4 g e).imp Or.inl id
  ·exact .inl (.inr e)
theorem iO.pre (hb:Below w.heap.size w W){W2:World}(k:iO p q F W W2 s):iO p q F w W2 s:=by
 obtain⟨F',k1,k2,k3⟩:=k
 have:=hb.size
 exact⟨F',k1,(Out.of_below hb).trans k2 fun g hg=>.inl hg,fun g hg=>(k3 g hg).imp id fun e=>by omega⟩
def QS (p q:Nat) (F:Nat→Prop) (w:World) (r:Int×Rst.St) (e:Int) (W:World):Prop:=e=r.1∧(e≠6→iO p q F w W r.2)∧(e=6→iO p q F w (W.setCell ⟨p,1,none⟩ (.bool true)) r.2∧∃cs b,W.heap[p]? =some (.cells cs 137 (0,0))∧cs[1]? =some (.bool b))
theorem QS.no {r:Int×Rst.St}{e:Int}(h1:r=(e,s1))(h6:e≠6)(h:iO p q F w W s1):QS p q F w r e W:=by
 subst h1
 exact⟨rfl,fun _=>h,fun k=>absurd k h6⟩
theorem QS.six {r:Int×Rst.St}(h1:r=(6,Rst.brk s1))(h:iO p q F w W s1):QS p q F w r 6 W:=by
 subst h1
 refine⟨rfl,fun k=>absurd rfl k,fun _=>⟨h.brk,?_⟩⟩
 obtain⟨F',h,_⟩:=h
 obtain⟨_,vw,vr,vs,hb⟩:=h.at
 exact⟨_,_,hb,rfl⟩
theorem acE {r:Int×Rst.St}{B n:Nat}{fs:List Value}(hn:fs.length=n)(hl:n≤100)(hB:W.heap[B]? =some (.cells fs.toArray 228 (0,0)))(h:Run B (QS p q F w r) fs W):
  Calls prog 109 #[.pointer (some ⟨p,0,none⟩),.slice (some ⟨B,0,none⟩) n n] W fun E w'=>E=.returned (.int .i64 r.1)∧iO p q F w w' r.2:=by
 refine(anr (.pointer (some ⟨p,0,none⟩)) p B n fs W _ hn hl hB h ?_).mono ?_
 ·rintro W ⟨_,_,h⟩
  exact⟨rfl,(h rfl).2⟩
 ·rintro E w' ⟨e,W,rfl,⟨rfl,h2,h3⟩,⟨k,rfl⟩|⟨k,rfl⟩⟩
  ·exact⟨rfl,h2 k⟩
  ·exact⟨rfl,(h3 k).1⟩
theorem aay {r:Int×Rst.St}{B:Nat}{l:List Value}(h:PS p q F W s)(h0:iO p q F w W s)(ha:Rst.asked s=true→r=(6,Rst.brk s))(hr:Rst.asked s=false→Run B (QS p q F w r) l W):Run B (QS p q F w r) (.func (.func 110) #[.pointer (some ⟨p,0,none⟩)] #[]::l) W:=by
 obtain⟨F1,G,h1,⟨pw,pr,ps,Gw,Gr,Gs,lw,bw,br,V,rfl⟩,h3,hm,rfl⟩:=h
 refine Run.cons (enters_of func110 (by kernel_rfl) rfl) (by simp) ((akr p q F1 W s.d s.off h1 (ai V.blk 0 rfl) (ai V.blk 1 rfl)).mono ?_)
 rintro E w' ⟨rfl,rfl⟩
 refine⟨_,rfl,rfl,?_⟩
 cases hc:Rst.asked s with
 |true=>
  have hc':(s.off|| !s.d.on)=true:=hc
  rw[if_pos hc',ha hc]
  exact .inl ⟨by decide,QS.six rfl h0⟩
 |false=>
  have hc':¬(s.off|| !s.d.on)=true:=by rw[show(s.off|| !s.d.on)=Rst.asked s from rfl,hc];simp
  rw[if_neg hc']
  exact .inr ⟨rfl,hr hc⟩
end
theorem akq (p q:Nat)(F:Nat→Prop)(w:World)(st:Dm.Ds)(h:Pk q F w st)(hs:Big 50000000 500000 st)(hp:w.cell? ⟨p,0,none⟩=some (.pointer (some ⟨q,0,none⟩)))(hpl:p<w.heap.size)(ho:st.on=true)(h3:T3 st):∀W,Below w.heap.size w W→
  Calls prog 180 #[.pointer (some ⟨p,0,none⟩)] W fun E w'=>E=.returned (.int .i64 (Rst.hf 3 st).length)∧Below W.heap.size W w':=by
 intro W hW
 have e:W.cell? ⟨p,0,none⟩=w.cell? ⟨p,0,none⟩:=by have:=hW.block p hpl;simp[World.cell?,this]
 rw[show Rst.hf 3 st=[]from h3]
 exact ae9 p q F W st (h.below hW) (hs.mono (by decide) (by decide)) (e.trans hp) ho h3
theorem arf (g:Nat)(x:Pm.Pg)(w:World)(hg:w.heap[g]? =some (.cells (cp x) 46 (0,0)))(hx:ig x)(hm:fU w):
  Calls prog 121 #[.pointer (some ⟨g,0,none⟩)] w fun E w'=>E=.returned (.int .i64 (Pm.chk x))∧Below w.heap.size w w':=by
 unfold cp at hg
 obtain⟨c0,c1,c2,c3,c4,c5⟩:=aR hg
 have PC:=hide (ll x w hx hm)
 unfold vp at PC
 clear hg hx hm
 go_enter func121,ntmps121
 go_wp2_with fail
 refine PC.out.mono ?_
 rintro E w' ⟨rfl,b⟩
 have B:=hide b
 clear b PC
 go_wp2
 go_ret
 exact⟨rfl,B.out⟩
theorem ap2 (g2 g3 p:Nat)(w:World)(r:Int)(h2:w.cell? ⟨g2,0,none⟩=some (.pointer (some ⟨p,0,none⟩)))(hs:Calls prog 114 #[.pointer (some ⟨p,0,none⟩),.func (.func 123) #[] #[.pointer (some ⟨g3,0,none⟩)]] w fun E w'=>E=.returned (.int .i64 r)∧Below w.heap.size w w'):
  Calls prog 122 #[.pointer (some ⟨g2,0,none⟩),.pointer (some ⟨g3,0,none⟩)] w fun E w'=>E=.returned (.int .i64 r)∧Below w.heap.size w w':=by
 have kQ:∀(fn:Fn) (first cap:Array Value) (w:World),(Instr.makeFunc fn first cap).run prog w=.ok (.func fn first cap) w:=fun _ _ _ _=>rfl
 have PC:=hide hs
 clear hs
 go_enter func122,ntmps122
 go_wp2_with fail
 refine PC.out.mono ?_
 rintro E w' ⟨rfl,b⟩
 have B:=hide b
 clear b PC
 go_wp2
 go_ret
 exact⟨rfl,B.out⟩
theorem apK (g2 g3 p:Nat)(x:Pm.Pg)(w:World)(R:Ending→World→Prop)(h2:w.cell? ⟨g2,0,none⟩=some (.pointer (some ⟨p,0,none⟩)))(hg:w.heap[g3]? =some (.cells (cp x) 46 (0,0)))(r:Int)(X:World→Prop)(hs:Calls prog 125 #[.pointer (some ⟨p,0,none⟩),vp x] w fun E w'=>E=.returned (.int .i64 r)∧X w'):
  Calls prog 124 #[.pointer (some ⟨g2,0,none⟩),.pointer (some ⟨g3,0,none⟩)] w fun E w'=>E=.returned (.int .i64 r)∧X w':=by
 unfold cp at hg
 obtain⟨c0,c1,c2,c3,c4,c5⟩:=aR hg
 have PC:=hide hs
 unfold vp at PC
 clear hs hg
 go_enter func124,ntmps124
 go_wp2_with fail
 refine PC.out.mono ?_
 rintro E w' ⟨rfl,b⟩
 have B:=hide b
 clear b PC
 go_wp2
 go_ret
 exact⟨rfl,B.out⟩
theorem aoq (p q:Nat)(F:Nat→Prop)(w:World)(s:Rst.St)(h:PS p q F w s)(hR:iY s)(h3:T3 s.d∧¬F 0)(x:Pm.Pg)(hx:ig x):Calls prog 57 #[.pointer (some ⟨p,0,none⟩),vp x] w fun E w'=>E=.returned (.int .i64 (Rst.dB s x).1)∧iO p q F w w' (Rst.dB s x).2:=by
 have kQ:∀(fn:Fn) (first cap:Array Value) (w:World),(Instr.makeFunc fn first cap).run prog w=.ok (.func fn first cap) w:=fun _ _ _ _=>rfl
 obtain⟨w1,hw1,s1,b1,P1⟩:=au w #[.pointer (some ⟨p,0,none⟩)] 41
 obtain⟨w2,hw2,s2,b2,P2⟩:=au w1 (cp x) 46
 obtain⟨w3,hw3,s3,b3,P3⟩:=au w2 #[.func (.func 110) #[.pointer (some ⟨p,0,none⟩)] #[],.func (.func 121) #[] #[.pointer (some ⟨w.heap.size+1,0,none⟩)],.func (.func 122) #[] #[.pointer (some ⟨w.heap.size,0,none⟩),.pointer (some ⟨w.heap.size+1,0,none⟩)],.func (.func 124) #[] #[.pointer (some ⟨w.heap.size,0,none⟩),.pointer (some ⟨w.heap.size+1,0,none⟩)]] 228
 have z2:w2.heap.size=w.heap.size+2:=by omega
 have z3:w3.heap.size=w.heap.size+3:=by omega
 rw[s1]at P2
 rw[z2]at P3
 have fC:Below w.heap.size w w3:=(b1.trans (b2.mono (by omega))).trans (b3.mono (by omega))
 have c2:w2.cell? ⟨w.heap.size,0,none⟩=some (.pointer (some ⟨p,0,none⟩)):=ai ((b2.block _ (by omega)).trans P1) 0 rfl
 have t3:=(b3.block _ (by omega)).trans ((b2.block _ (by omega)).trans P1)
 have u3:=(b3.block _ (by omega)).trans P2
 have xh:=h.below fC
 have RUN:Run (w.heap.size+2) (QS p q F w (Rst.dB s x)) [.func (.func 110) #[.pointer (some ⟨p,0,none⟩)] #[],.func (.func 121) #[] #[.pointer (some ⟨w.heap.size+1,0,none⟩)],.func (.func 122) #[] #[.pointer (some ⟨w.heap.size,0,none⟩),.pointer (some ⟨w.heap.size+1,0,none⟩)],.func (.func 124) #[] #[.pointer (some ⟨w.heap.size,0,none⟩),.pointer (some ⟨w.heap.size+1,0,none⟩)]] w3:=by
  refine aay xh (iO.same h fC) (fun k=>by unfold Rst.dB;rw[if_pos k]) fun iC=>?_
  have hon:s.d.on=true:=by
   unfold Rst.asked at iC
   revert iC
   cases s.d.on<;>simp
  have hoff:s.off=false:=by
   unfold Rst.asked at iC
   revert iC
   cases s.off<;>simp
  refine Run.cons (enters_of func121 (by kernel_rfl) rfl) (by simp) ((arf _ x w3 u3 hx xh.gQ).mono ?_)
  rintro E w4 ⟨rfl,b4⟩
  have jN:=fC.trans (b4.mono (by omega))
  refine⟨_,rfl,b4.block _ (by omega),?_⟩
  by_cases hc:Pm.chk x=0
  ·have hok:Pm.Ok x:=Pm.qg.1 hc
   refine .inr ⟨hc,?_⟩
   have hS4:=h.below jN
   have z4:=b4.size
   have t4:=(b4.block _ (by omega)).trans t3
   have u4:=(b4.block _ (by omega)).trans u3
   obtain⟨F1,G,h1,⟨pw,pr,ps,Gw,Gr,Gs,lw,bw,br,V,rfl⟩,hd,hm,rfl⟩:=hS4
   obtain⟨rfl,rfl,rfl⟩:=V.live hoff
   have hb:=V.blk
   have SC:=xN p q pw pr _ _ w4 _ _ _ _ _ _ hb (V.ww h1) (V.rw h1) 123 #[.pointer (some ⟨w.heap.size+1,0,none⟩)] (enters_of func123 (by kernel_rfl) rfl) x _ _ _ (Rst.hf 3 s.d).length (auw w4 p (w.heap.size+1) s.p x _ _ _ u4) (fun _=>akq p q F1 w4 s.d h1 hR.1 (ai hb 0 rfl) (ay hb) hon h3.1)
   simp only at SC
   rw[yZ hok]at SC
   refine Run.cons (enters_of func122 (by kernel_rfl) rfl) (by simp) ((ap2 _ _ p w4 _ (ai t4 0 rfl) SC).mono ?_)
   rintro E w5 ⟨rfl,b5⟩
   have nX:=jN.trans (b5.mono (by omega))
   have z5:=b5.size
   refine⟨_,rfl,b5.block _ (by omega),?_⟩
   have hfi:Rst.fine s x s.l (Cm.lastN 0 s.r)=Rst.snd x s.l (Cm.lastN 0 s.r) (Rst.hf 3 s.d).length:=rfl
   cases hsn:Rst.snd x s.l (Cm.lastN 0 s.r) (Rst.hf 3 s.d).length with
   |false=>
    rw[if_neg (by simp)]
    have hr:Rst.dB s x=(5,s):=by
     unfold Rst.dB
     rw[if_neg (by simp[iC]),if_neg (by simp[hc]),if_pos (hfi.trans hsn)]
    exact .inl ⟨by decide,QS.no hr (by decide) (iO.same h nX)⟩
   |true=>
    rw[if_pos rfl]
    refine .inr ⟨rfl,?_⟩
    have V5:=V.below b5
    have h15:=h1.below b5
    have hm5:=hm.below b5
    have TU:=apo p q F1 w5 s.d s.off s.p x _ _ _ _ h15 hR.1 V5.blk (hd p (.inl rfl)) hok hm5
    have hr:Rst.dB s x=if (Rst.ext s.d 1 (Fm.dK (Pm.enc x))).1≠0 then(6,⟨(Rst.ext s.d 1 (Fm.dK (Pm.enc x))).2,s.p,s.l,s.r,true⟩)else(0,⟨(Rst.ext s.d 1 (Fm.dK (Pm.enc x))).2,x,s.l,s.r,s.off⟩):=by
     unfold Rst.dB
     rw[if_neg (by simp[iC]),if_neg (by simp[hc]),if_neg (by rw[hfi,hsn];simp)]
    have hee:(Rst.ext s.d 1 (Fm.dK (Pm.enc x))).1=0∨(Rst.ext s.d 1 (Fm.dK (Pm.enc x))).1=6:=by
     unfold Rst.ext
     split
     ·exact .inr rfl
     ·split
      ·exact .inr rfl
      ·exact .inl rfl
    generalize Rst.ext s.d 1 (Fm.dK (Pm.enc x))=ex at*
    obtain⟨ee,d'⟩:=ex
    simp only at*
    refine Run.cons (enters_of func124 (by kernel_rfl) rfl) (by simp) ((apK _ _ p x w5 (fun _ _=>True) (ai ((b5.block _ (by omega)).trans t4) 0 rfl) ((b5.block _ (by omega)).trans u4) _ _ TU).mono ?_)
    rintro E w6 ⟨rfl,F2,k1,k2,k3,k4⟩
    have hsz:=k3.size
    have nF:¬(F1 (w.heap.size+2)∨w.heap.size+2=p):=by
     rintro(e|e)
     ·have:=h.lt _ (.inl e);omega
     ·have:=h.lt _ (.inr (.inl e));omega
    refine⟨_,rfl,k3.block _ (by omega) nF,?_⟩
    rcases hee with rfl|rfl
    ·rw[if_pos rfl]at k2
     rw[if_neg (by simp)]at hr
     exact .inr ⟨rfl,QS.no hr (by decide) ((aiH V5 hd hm5 (fun e=>h3.2 (.inl e)) hok k1 k2 k3 k4).pre nX)⟩
    ·rw[if_neg (by decide)]at k2
     rw[if_pos (by simp)]at hr
     exact .inl ⟨by decide,QS.six (s1:=⟨d',s.p,s.l,s.r,s.off⟩) hr ((aiH V5 hd hm5 (fun e=>h3.2 (.inl e)) V.ok k1 k2 k3 k4).pre nX)⟩
  ·have hr:Rst.dB s x=(Pm.chk x,s):=by
    unfold Rst.dB
    rw[if_neg (by simp[iC]),if_pos hc]
   have h6:Pm.chk x≠6:=by unfold Pm.chk;split<;>decide
   exact .inl ⟨hc,QS.no hr h6 (iO.same h jN)⟩
 have HC:=hide (acE (n:=4) rfl (by omega) P3 RUN)
 generalize Rst.dB s x=r at*
 unfold cp at hw2
 unfold vp
 clear RUN h hR h3 hx b1 b2 b3 P1 P2 P3 s2 s3 z3 fC t3 u3 xh
 go_enter func57,ntmps57
 go_wp2_with fail
 refine HC.out.mono ?_
 rintro E w' ⟨rfl,X⟩
 have X:=hide X
 clear HC
 go_wp2
 go_ret
 exact⟨rfl,X.out⟩
theorem amF {l cs:List Cm.Cv}(hl:Cm.Good 0 0 l)(h:Cm.Good (Cm.lastE 0 l) l.length cs)(k:Nat)(hk:k<cs.length):Cm.Good 0 0 (l++cs.take k)∧Cm.chk (cs[k]).e (cs[k]).n (cs[k]).l=0∧(cs[k]).n-1=(l++cs.take k).length∧Cm.lastE 0 (l++cs.take k)≤(cs[k]).e:=by
 have h0:Cm.Good 0 0 (l++cs):=(Cm.fB _ _ _ _).2 ⟨hl,by rw[Wl.kH hl];exact h⟩
 rw[←List.take_append_drop k cs,←List.append_assoc]at h0
 obtain⟨h1,h2⟩:=(Cm.fB _ _ _ _).1 h0
 rw[Wl.kH h1,List.drop_eq_getElem_cons hk]at h2
 exact⟨h1,h2.1,h2.2.1,h2.2.2.1⟩
theorem auq {d:Dm.Ds}{l:List Cm.Cv}{c:Cm.Cv}(h1:Cm.chk c.e c.n c.l=0)(h2:c.n-1=l.length)(h3:Cm.lastE 0 l≤c.e):
  Wl.mD ⟨d,l,false⟩ c=if (Dm.write d 0 (Wl.fr c)).1≠0 then(6,⟨(Dm.write d 0 (Wl.fr c)).2,l,true⟩)else(0,⟨(Dm.write d 0 (Wl.fr c)).2,l++[c],false⟩):=by
 unfold Wl.mD
 cases ho:d.on with
 |false=>
  have ha:Wl.ask ⟨d,l,false⟩=true:=by simp[Wl.ask,ho]
  have hw:Dm.write d 0 (Wl.fr c)=(6,d):=by unfold Dm.write;rw[if_pos ho]
  rw[if_pos ha,hw]
  rfl
 |true=>
  have ha:¬Wl.ask ⟨d,l,false⟩=true:=by simp[Wl.ask,ho]
  rw[if_neg ha,if_neg (by simp[h1]),if_neg (by simp only;omega)]
  have e:=yH (st:=d) (Wl.fr c)
  split
  ·rename_i hx
   rcases e with e|e
   ·exact absurd e hx
   ·rw[e]
  ·rfl
theorem atA (d:Dm.Ds)(l:List Cm.Cv):∃bk,Wl.ag3 ⟨d,l,false⟩=((Dm.sync d).1,⟨(Dm.sync d).2,l,bk⟩)∧((Dm.sync d).1=0→bk=false):=by
 unfold Wl.ag3
 cases ho:d.on with
 |false=>
  have ha:Wl.ask ⟨d,l,false⟩=true:=by simp[Wl.ask,ho]
  have hw:Dm.sync d=(6,d):=by unfold Dm.sync;rw[if_pos ho]
  rw[if_pos ha,hw]
  exact⟨true,rfl,fun k=>absurd k (by show ¬(6:Int)=0;decide)⟩
 |true=>
  have ha:¬Wl.ask ⟨d,l,false⟩=true:=by simp[Wl.ask,ho]
  rw[if_neg ha]
  exact⟨_,rfl,fun k=>by simp[k]⟩
def rU (pw q:Nat) (FW:Nat→Prop) (w wr:World) (l cs:List Cm.Cv) (d:Dm.Ds) (k:Nat):Prop:=
 ∃Fk dk,WW pw q Fk wr ⟨dk,l++cs.take k,false⟩∧Out FW w wr∧(∀g,Fk g→FW g∨w.heap.size≤g)∧Rst.wrs d cs=Rst.wrs dk (cs.drop k)∧Big (50000000+433*k) (500000+7*k) dk
def ExO (pw q:Nat) (FW:Nat→Prop) (w w':World) (l cs:List Cm.Cv) (d:Dm.Ds):Prop:=
 ∃F' lw bk,WW pw q F' w' ⟨(Rst.fF d cs).2,lw,bk⟩∧l=lw.take l.length∧((Rst.fF d cs).1=0→lw=l++cs∧bk=false)∧Out FW w w'∧∀g,F' g→FW g∨w.heap.size≤g
theorem rU.box {pw q:Nat}{FW:Nat→Prop}{w wr V:World}{l cs:List Cm.Cv}{d:Dm.Ds}{k:Nat}(h:rU pw q FW w wr l cs d k)(hb:Below wr.heap.size wr V):rU pw q FW w V l cs d k:=by
 obtain⟨Fk,dk,h1,h2,h3,h4,h5⟩:=h
 exact⟨Fk,dk,h1.below hb,h2.trans (Out.of_below (F:=fun _=>False) hb) fun g hg=>hg.elim,h3,h4,h5⟩
theorem alh (v:Value)(pw q:Nat)(FW:Nat→Prop)(w V:World)(l:List Cm.Cv)(rs:List Cw)(d:Dm.Ds)(k:Nat)(hk:k<rs.length)(h:rU pw q FW w V l (aD rs) d k)(hl:Cm.Good 0 0 l)(hg:Cm.Good (Cm.lastE 0 l) l.length (aD rs))(hn:rs.length≤100)(hc:gD V v rs)(hf:jH rs)(jg:∀c∈rs,0<c.l.length→∀b,c.v.ownBlock=some b→b<w.heap.size∧¬FW b):
  Calls prog 183 #[.pointer (some ⟨pw,0,none⟩),cK (rs[k]).e (rs[k]).n (rs[k]).v] V fun E w'=>∃e,E=.returned (.int .i64 e)∧Out FW w w'∧((e=0∧rU pw q FW w w' l (aD rs) d (k+1))∨(e≠0∧e=(Rst.fF d (aD rs)).1∧ExO pw q FW w w' l (aD rs) d)):=by
 obtain⟨Fk,dk,h1,h2,h3,h4,h5⟩:=h
 have hm:rs[k]∈rs:=List.getElem_mem hk
 have hkc:k<(aD rs).length:=by unfold aD;simpa using hk
 have hce:(aD rs)[k]=(rs[k]).c:=List.getElem_map _
 obtain⟨g1,g2,g3,g4⟩:=amF hl hg k hkc
 rw[hce]at g2 g3 g4
 obtain⟨i1,i2⟩:=hc.2 _ hm
 have hlo:(rs[k]).l.length*40≤140737488351232:=by
  have:=(hf _ hm).2
  omega
 have AP:=ahi pw q Fk V ⟨dk,l++(aD rs).take k,false⟩ (rs[k]) h1 (h5.mono (by omega) (by omega)) i1 (hf _ hm).1 i2 hlo (fun h0 b hb hF=>by
  obtain⟨q1,q2⟩:=jg _ hm h0 b hb
  rcases h3 b hF with e|e
  ·exact q2 e
  ·omega)
 rw[auq g2 g3 g4]at AP
 rw[List.drop_eq_getElem_cons hkc,hce,show Rst.wrs dk ((rs[k]).c::(aD rs).drop (k+1))=(if (Dm.write dk 0 (Wl.fr (rs[k]).c)).1≠0 then(6,(Dm.write dk 0 (Wl.fr (rs[k]).c)).2)else Rst.wrs (Dm.write dk 0 (Wl.fr (rs[k]).c)).2 ((aD rs).drop (k+1)))from rfl]at h4
 have hb:=lJ h5 0 (Wl.fr (rs[k]).c)
 have hfs:=Wl.lG (c:=(rs[k]).c) g2
 have hcn:cnt (Wl.fr (rs[k]).c).length≤7:=by unfold cnt;omega
 refine AP.mono ?_
 rintro E w' ⟨rfl,F',k1,k2,k3⟩
 have o':Out FW w w':=h2.trans k2 h3
 have hs:=h2.size
 have n':∀g,F' g→FW g∨w.heap.size≤g:=fun g hg=>by
  rcases k3 g hg with e|e
  ·exact h3 g e
  ·exact .inr (by omega)
 by_cases he:(Dm.write dk 0 (Wl.fr (rs[k]).c)).1=0
 ·rw[if_neg (by simp[he])]at k1 h4⊢
  refine⟨0,rfl,o',.inl ⟨rfl,F',_,?_,o',n',h4,hb.mono (by omega) (by omega)⟩⟩
  rw[show(aD rs).take (k+1)=(aD rs).take k++[(rs[k]).c]by rw[List.take_add_one,List.getElem?_eq_getElem hkc,hce];rfl,←List.append_assoc]
  exact k1
 ·rw[if_pos he]at k1 h4⊢
  have hw:Rst.fF d (aD rs)=(6,(Dm.write dk 0 (Wl.fr (rs[k]).c)).2):=by unfold Rst.fF;rw[h4];simp
  refine⟨6,rfl,o',.inr ⟨by decide,by rw[hw],F',l++(aD rs).take k,true,?_,by simp,fun k=>by rw[hw]at k;exact absurd k (by show ¬(6:Int)=0;decide),o',n'⟩⟩
  rw[hw]
  exact k1
theorem aoJ (pw q:Nat)(FW:Nat→Prop)(w V:World)(l:List Cm.Cv)(cs:List Cm.Cv)(d:Dm.Ds)(h:rU pw q FW w V l cs d cs.length)(hn:cs.length≤100):
  Calls prog 184 #[.pointer (some ⟨pw,0,none⟩)] V fun E w'=>E=.returned (.int .i64 (Rst.fF d cs).1)∧ExO pw q FW w w' l cs d:=by
 obtain⟨Fk,dk,h1,h2,h3,h4,h5⟩:=h
 rw[List.drop_length]at h4
 rw[List.take_length]at h1
 have hw:Rst.fF d cs=((Dm.sync dk).1,(Dm.sync dk).2):=by
  unfold Rst.fF
  rw[h4]
  unfold Rst.wrs
  rw[if_neg (by simp)]
  rcases uj dk with e|e
  ·rw[if_neg (by simp[e]),e]
  ·rw[if_pos (by simp[e]),e]
 obtain⟨bk,e1,e2⟩:=atA dk (l++cs)
 have SY:=amu pw q Fk V ⟨dk,l++cs,false⟩ h1 (h5.mono (by omega) (by omega))
 rw[e1]at SY
 refine SY.mono ?_
 rintro E w' ⟨rfl,F',k1,k2,k3⟩
 have hs:=h2.size
 refine⟨by rw[hw],F',l++cs,bk,?_,by simp,fun k=>⟨rfl,e2 (by rw[hw]at k;exact k)⟩,h2.trans k2 h3,fun g hg=>?_⟩
 ·rw[hw];exact k1
 ·rcases k3 g hg with e|e
  ·exact h3 g e
  ·exact .inr (by omega)
theorem rU.out {pw q:Nat}{FW:Nat→Prop}{w wr:World}{l cs:List Cm.Cv}{d:Dm.Ds}{k:Nat}(h:rU pw q FW w wr l cs d k):Out FW w wr:=by
 obtain⟨_,_,_,h,_⟩:=h
 exact h
theorem ahd (a:Addr)(b:Option Addr)(k:Nat)(w:World):
  Calls prog 118 #[.pointer (some a),.slice b 0 k] w fun E w'=>E=.returned (.int .i64 0)∧w=w':=by
 go_enter func118,ntmps118
 go_wp2
 go_ret
 exact⟨rfl,rfl⟩
theorem alq (a:Addr)(b:Option Addr)(k:Nat)(w:World):
  Calls prog 120 #[.pointer (some a),.slice b 0 k] w fun E w'=>E=.returned (.int .i64 0)∧w=w':=by
 go_enter func120,ntmps120
 go_wp2_with fail
 go_loopw [10] (fun iv wr=>iv=.int .i64 0∧w=wr) (fun _ _=>0)
 case atStart=>exact⟨rfl,rfl⟩
 case round=>
  obtain⟨rfl,rfl⟩:=hrel
  go_wp2
  go_ret
  exact⟨rfl,rfl⟩
theorem aiQ (p q pw:Nat)(FW:Nat→Prop)(w:World)(off:Bool)(x:Pm.Pg)(vr vs:Value)(d:Dm.Ds)(l:List Cm.Cv)(v:Value)(rs:List Cw)(hb:w.heap[p]? =some (.cells (fo q off x (.pointer (some ⟨pw,0,none⟩)) l.length vr vs) 137 (0,0)))(hw:WW pw q FW w ⟨d,l,false⟩)(hpW:¬FW p)(hB:Big 50000000 500000 d)(hll:l.length≤2000)
  (hg:Cm.Good (Cm.lastE 0 l) l.length (aD rs)) (hn:rs.length≤100) (h0:0<rs.length) (hc:∀W,Out FW w W→gD W v rs) (hf:jH rs) (jg:∀c∈rs,0<c.l.length→∀b,c.v.ownBlock=some b→b<w.heap.size∧¬FW b):
  Calls prog 118 #[.pointer (some ⟨p,8,none⟩),v] w fun E w'=>E=.returned (.int .i64 (Rst.fF d (aD rs)).1)∧∃W,ExO pw q FW w W l (aD rs) d∧((Rst.fF d (aD rs)).1≠0∧w'=W∨(Rst.fF d (aD rs)).1=0∧w'=W.setCell ⟨p,9,none⟩ (.int .i64 (l.length+rs.length))):=by
 have hl:Cm.Good 0 0 l:=hw.good
 have hpl:=ay hb
 obtain⟨b1,o1,k1,rfl,_,_⟩:=jq (hc w (Out.refl _ _)) h0
 have oQ:Hid (∀W,Out FW w W→∀i c,rs[i]? =some c→W.cell? ⟨b1,o1+i*3,none⟩=some (.int .i64 c.e)∧W.cell? ⟨b1,o1+i*3+1,none⟩=some (.int .i64 c.n)∧W.cell? ⟨b1,o1+i*3+2,none⟩=some c.v):=hide fun W hW=>by
  obtain⟨b2,o2,k2,e,_,h⟩:=jq (hc W hW) h0
  cases e
  exact h
 have HPB:Hid (∀W,Out FW w W→W.heap[p]? =some (.cells (fo q off x (.pointer (some ⟨pw,0,none⟩)) l.length vr vs) 137 (0,0))):=hide fun W hW=>(hW.block p hpl hpW).trans hb
 have I0:Hid (rU pw q FW w w l (aD rs) d 0):=hide ⟨FW,d,by rw[List.take_zero,List.append_nil];exact hw,Out.refl _ _,fun g hg=>.inl hg,by rw[List.drop_zero],hB.mono (by omega) (by omega)⟩
 have RD:Hid (∀k (hk:k<rs.length) V,rU pw q FW w V l (aD rs) d k→Calls prog 183 #[.pointer (some ⟨pw,0,none⟩),cK (rs[k]).e (rs[k]).n (rs[k]).v] V fun E w'=>∃e,E=.returned (.int .i64 e)∧Out FW w w'∧((e=0∧rU pw q FW w w' l (aD rs) d (k+1))∨(e≠0∧e=(Rst.fF d (aD rs)).1∧ExO pw q FW w w' l (aD rs) d))):=hide fun k hk V h=>alh _ pw q FW w V l rs d k hk h hl hg hn (hc V h.out) hf jg
 have hcl:(aD rs).length=rs.length:=by unfold aD;simp
 have SY:Hid (∀V,rU pw q FW w V l (aD rs) d rs.length→Calls prog 184 #[.pointer (some ⟨pw,0,none⟩)] V fun E w'=>E=.returned (.int .i64 (Rst.fF d (aD rs)).1)∧ExO pw q FW w w' l (aD rs) d):=hide fun V h=>aoJ pw q FW w V l (aD rs) d (by rw[hcl];exact h) (by rw[hcl];exact hn)
 have SH:Hid (∀c∈rs,∃a n k,c.v=.slice a n k):=hide fun c hm=>by
  rcases((hc w (Out.refl _ _)).2 c hm).1 with⟨h,_⟩|⟨a,k,h,_⟩
  ·exact⟨_,_,_,h⟩
  ·exact⟨_,_,_,h⟩
 have EX:Hid (∀W,ExO pw q FW w W l (aD rs) d→Out FW w W):=hide (by rintro W ⟨_,_,_,_,_,_,h,_⟩;exact h)
 obtain⟨ee,hee⟩:∃ee,(Rst.fF d (aD rs)).1=ee:=⟨_,rfl⟩
 rw[hee]at RD SY⊢
 have akJ:¬(rs.length:Int)=0:=by omega
 have hz:((rs.length:Int)==0)=false:=by simpa using akJ
 have hwr:IntKind.i64.wrap ((l.length:Int)+(rs.length:Int))=(l.length:Int)+(rs.length:Int):=aQ _ (by omega) (by omega)
 generalize (l.length:Int)=le at*
 clear hw hb hB hc hf jg hg hl hee hcl akJ
 go_enter func118,ntmps118
 go_wp2_with fail
 go_loopw [14] (fun iv wr=>∃(k:Nat),iv=.int .i64 k∧k≤rs.length∧Hid (rU pw q FW w wr l (aD rs) d k)) (fun iv _=>rs.length-(intOf iv).toNat)
 case atStart=>exact⟨0,rfl,Nat.zero_le _,I0⟩
 case round=>
  obtain⟨k,rfl,hk,IK⟩:=hrel
  by_cases hlt:k<rs.length
  ·obtain⟨c,hcc⟩:∃c,rs[k]=c:=⟨_,rfl⟩
   obtain⟨a0,a1,a2⟩:=oQ.out wr IK.out.out k c (by rw[List.getElem?_eq_getElem hlt,hcc])
   obtain⟨va,vn,vk,hv⟩:=SH.out c (by rw[←hcc];exact List.getElem_mem hlt)
   rw[hv]at a2
   obtain⟨V,hV,hV',sV,bV,PV,v0,v1,v2⟩:=eY wr 35 (.int .i64 0) (.int .i64 0) (.slice none 0 0) (.int .i64 c.e) (.int .i64 c.n) (.slice va vn vk)
   have IV:=IK.out.box bV
   have AP:=RD.out k hlt V.drew (IV.box (Below.refl _ _).drew)
   rw[hcc,hv]at AP
   unfold cK at AP
   have d8:V.cell? ⟨p,8,none⟩=some (.pointer (some ⟨pw,0,none⟩)):=ai (HPB.out V IV.out) 8 rfl
   have AP2:Hid (Calls prog 183 #[.pointer (some ⟨pw,0,none⟩),.agg #[.int .i64 c.e,.int .i64 c.n,.slice va vn vk]] V.drew fun E w'=>∃e,E=.returned (.int .i64 e)∧w'.cell? ⟨p,8,none⟩=some (.pointer (some ⟨pw,0,none⟩))∧Hid ((e=0∧rU pw q FW w w' l (aD rs) d (k+1))∨(e≠0∧e=ee∧ExO pw q FW w w' l (aD rs) d))):=hide (by
    refine AP.mono ?_
    rintro E w' ⟨e,rfl,o,h⟩
    exact⟨e,rfl,ai (HPB.out w' o) 8 rfl,hide h⟩)
   have hlt':(k:Int)<rs.length:=by omega
   clear AP IV hcc hv PV bV sV IK
   go_wp2_with fail
   go_region_with (go_at_call 183;refine AP2.out.mono ?_;rintro E w' ⟨e,rfl,e8,H⟩)
   all_goals
    clear AP2
    by_cases he:e=0
    ·subst he
     have H:=hide (H.out.resolve_right fun k=>k.1 rfl).2
     go_wp2
     go_roundw
     case rel=>exact⟨k+1,by simp,by omega,H⟩
     case measure=>simp[intOf];omega
    ·obtain⟨rfl,hX⟩:=(H.out.resolve_left fun k=>he k.1).2
     have he':(e==0)=false:=by simpa using he
     have HX:=hide (And.intro he hX)
     clear hX H
     go_wp2
     go_ret
     exact⟨rfl,_,HX.out.2,.inl ⟨HX.out.1,rfl⟩⟩
  ·obtain rfl:k=rs.length:=by omega
   have SY2:=hide (SY.out wr IK.out)
   have d8:wr.cell? ⟨p,8,none⟩=some (.pointer (some ⟨pw,0,none⟩)):=ai (HPB.out wr IK.out.out) 8 rfl
   have hlt':¬(rs.length:Int)<rs.length:=by omega
   clear SY RD oQ IK SH I0 hlt hk
   go_wp2_with fail
   refine SY2.out.mono ?_
   rintro E w2 ⟨rfl,hX⟩
   have pb:=HPB.out w2 (EX.out _ hX)
   have d9:w2.cell? ⟨p,9,none⟩=some (.int .i64 le):=ai pb 9 rfl
   have f9:=aA pb 9
   have HX:=hide hX
   clear hX SY2 pb
   by_cases he:ee=0
   ·subst he
    go_wp2
    go_ret
    exact⟨rfl,w2,HX.out,rfl⟩
   ·have he':(ee==0)=false:=by simpa using he
    go_wp2
    go_ret
    exact⟨rfl,w2,HX.out,.inl ⟨he,rfl⟩⟩
theorem aw4 {r:Rl.Rs}{t cs:List Cm.Cv}(h:Cm.Good 1 (Cm.lastN 0 r.l) (t++cs))(hn:∀k,Cm.lastN (Cm.lastN 0 r.l) (t++cs.take k)=Cm.lastN 0 r.l+(t++cs.take k).length)(k:Nat)(hk:k<cs.length):Sto.zO ⟨r,t++cs.take k⟩ cs[k]=(0,⟨r,t++cs.take (k+1)⟩):=by
 rw[←List.take_append_drop k cs,←List.append_assoc]at h
 obtain⟨_,h2⟩:=(Cm.fB _ _ _ _).1 h
 rw[List.drop_eq_getElem_cons hk,hn k]at h2
 have hg:Cm.Good (Cm.lastE 1 (t++cs.take k)) (Sto.fin ⟨r,t++cs.take k⟩) [cs[k]]:=⟨h2.1,h2.2.1,h2.2.2.1,trivial⟩
 have hf:=(Cm.iN [cs[k]] _ _ 0).2 hg
 unfold Sto.zO
 rw[if_neg (by simp only;rw[hf];simp)]
 rw[List.take_add_one,List.getElem?_eq_getElem hk]
 simp
def vV (ps pr q:Nat) (iZ:Nat→Prop) (w wr:World) (r:Rl.Rs) (t cs:List Cm.Cv) (k:Nat):Prop:=
 ∃Fk,SW ps pr q Fk wr ⟨r,t++cs.take k⟩∧Out iZ w wr∧∀g,Fk g→iZ g∨w.heap.size≤g
theorem vV.box {ps pr q:Nat}{iZ:Nat→Prop}{w wr V:World}{r:Rl.Rs}{t cs:List Cm.Cv}{k:Nat}(h:vV ps pr q iZ w wr r t cs k)(hb:Below wr.heap.size wr V):vV ps pr q iZ w V r t cs k:=by
 obtain⟨Fk,h1,h2,h3⟩:=h
 exact⟨Fk,h1.below hb,h2.trans (Out.of_below (F:=fun _=>False) hb) fun g hg=>hg.elim,h3⟩
theorem akc (v:Value)(ps pr q:Nat)(iZ:Nat→Prop)(w V:World)(r:Rl.Rs)(t:List Cm.Cv)(rs:List Cw)(k:Nat)(hk:k<rs.length)(h:vV ps pr q iZ w V r t (aD rs) k)(hg:Cm.Good 1 (Cm.lastN 0 r.l) (t++aD rs))(hnn:∀k,Cm.lastN (Cm.lastN 0 r.l) (t++(aD rs).take k)=Cm.lastN 0 r.l+(t++(aD rs).take k).length)(ht:t.length≤2000)(hn:rs.length≤100)(hc:gD V v rs)(hf:jH rs)(jg:∀c∈rs,0<c.l.length→∀b,c.v.ownBlock=some b→b<w.heap.size∧¬iZ b):
  Calls prog 185 #[.pointer (some ⟨ps,0,none⟩),cK (rs[k]).e (rs[k]).n (rs[k]).v] V fun E w'=>E=.returned (.int .i64 0)∧vV ps pr q iZ w w' r t (aD rs) (k+1):=by
 obtain⟨Fk,h1,h2,h3⟩:=h
 have hm:rs[k]∈rs:=List.getElem_mem hk
 have hkc:k<(aD rs).length:=by unfold aD;simpa using hk
 have hce:(aD rs)[k]=(rs[k]).c:=List.getElem_map _
 obtain⟨i1,i2⟩:=hc.2 _ hm
 have hlo:(rs[k]).l.length*40≤140737488351232:=by
  have:=(hf _ hm).2
  omega
 have hlt:(t++(aD rs).take k).length≤100000:=by
  rw[List.length_append,List.length_take]
  omega
 have AP:=akF ps pr q Fk V ⟨r,t++(aD rs).take k⟩ (rs[k]) h1 i1 (hf _ hm).1 i2 hlo (fun h0 b hb hF=>by
  obtain⟨q1,q2⟩:=jg _ hm h0 b hb
  rcases h3 b hF with e|e
  ·exact q2 e
  ·omega) hlt
 have ag:=aw4 hg hnn k hkc
 rw[hce]at ag
 rw[ag]at AP
 refine AP.mono ?_
 rintro E w' ⟨rfl,F',k1,k2,k3⟩
 have hs:=h2.size
 exact⟨rfl,F',k1,h2.trans k2 h3,fun g hg=>by
  rcases k3 g hg with e|e
  ·exact h3 g e
  ·exact .inr (by omega)⟩
theorem aq0 (p q ps pr:Nat)(iZ:Nat→Prop)(w:World)(off:Bool)(x:Pm.Pg)(en:Int)(vw vr:Value)(r:Rl.Rs)(t:List Cm.Cv)(n1 k1:Nat)(bo:Option Addr)(rs:List Cw)(hb:w.heap[p]? =some (.cells (fo q off x vw en vr (.pointer (some ⟨ps,0,none⟩))) 137 (0,0)))(hw:SW ps pr q iZ w ⟨r,t⟩)(hpW:¬iZ p)
  (hg:Cm.Good 1 (Cm.lastN 0 r.l) (t++aD rs)) (hnn:∀k,Cm.lastN (Cm.lastN 0 r.l) (t++(aD rs).take k)=Cm.lastN 0 r.l+(t++(aD rs).take k).length) (ht:t.length≤2000) (hn:rs.length≤100) (hc:∀W,Out iZ w W→gD W (.slice bo n1 k1) rs) (hf:jH rs) (jg:∀c∈rs,0<c.l.length→∀b,c.v.ownBlock=some b→b<w.heap.size∧¬iZ b):
  Calls prog 120 #[.pointer (some ⟨p,11,none⟩),.slice bo n1 k1] w fun E w'=>E=.returned (.int .i64 0)∧vV ps pr q iZ w w' r t (aD rs) rs.length:=by
 have hpl:=ay hb
 have hn1:n1=rs.length:=by
  rcases(hc w (Out.refl _ _)).1 with⟨h,h'⟩|⟨a,k,h,_⟩
  ·cases h;rw[h'];rfl
  ·cases h;rfl
 subst hn1
 have oQ:Hid (∀W,Out iZ w W→∀i c,rs[i]? =some c→∃b1 o1,bo=some ⟨b1,o1,none⟩∧W.cell? ⟨b1,o1+i*3,none⟩=some (.int .i64 c.e)∧W.cell? ⟨b1,o1+i*3+1,none⟩=some (.int .i64 c.n)∧W.cell? ⟨b1,o1+i*3+2,none⟩=some c.v):=hide fun W hW i c hi=>by
  obtain⟨b2,o2,k2,e,_,h⟩:=jq (hc W hW) (by have:=(List.getElem?_eq_some_iff.1 hi).1;omega)
  cases e
  exact⟨b2,o2,rfl,h i c hi⟩
 have HPB:Hid (∀W,Out iZ w W→W.heap[p]? =some (.cells (fo q off x vw en vr (.pointer (some ⟨ps,0,none⟩))) 137 (0,0))):=hide fun W hW=>(hW.block p hpl hpW).trans hb
 have I0:Hid (vV ps pr q iZ w w r t (aD rs) 0):=hide ⟨iZ,by rw[List.take_zero,List.append_nil];exact hw,Out.refl _ _,fun g hg=>.inl hg⟩
 have OI:Hid (∀W k,vV ps pr q iZ w W r t (aD rs) k→Out iZ w W):=hide (by rintro W k ⟨_,_,h,_⟩;exact h)
 have RD:Hid (∀k (hk:k<rs.length) V,vV ps pr q iZ w V r t (aD rs) k→Calls prog 185 #[.pointer (some ⟨ps,0,none⟩),cK (rs[k]).e (rs[k]).n (rs[k]).v] V fun E w'=>E=.returned (.int .i64 0)∧vV ps pr q iZ w w' r t (aD rs) (k+1)):=hide fun k hk V h=>akc _ ps pr q iZ w V r t rs k hk h hg hnn ht hn (hc V (OI.out _ _ h)) hf jg
 have SH:Hid (∀c∈rs,∃a n k,c.v=.slice a n k):=hide fun c hm=>by
  rcases((hc w (Out.refl _ _)).2 c hm).1 with⟨h,_⟩|⟨a,k,h,_⟩
  ·exact⟨_,_,_,h⟩
  ·exact⟨_,_,_,h⟩
 clear hw hb hc hf jg hg hnn ht
 go_enter func120,ntmps120
 go_wp2_with fail
 go_loopw [10] (fun iv wr=>∃(k:Nat),iv=.int .i64 k∧k≤rs.length∧Hid (vV ps pr q iZ w wr r t (aD rs) k)) (fun iv _=>rs.length-(intOf iv).toNat)
 case atStart=>exact⟨0,rfl,Nat.zero_le _,I0⟩
 case round=>
  obtain⟨k,rfl,hk,IK⟩:=hrel
  by_cases hlt:k<rs.length
  ·obtain⟨c,hcc⟩:∃c,rs[k]=c:=⟨_,rfl⟩
   obtain⟨b1,o1,rfl,a0,a1,a2⟩:=oQ.out wr (OI.out _ _ IK.out) k c (by rw[List.getElem?_eq_getElem hlt,hcc])
   obtain⟨va,vn,vk,hv⟩:=SH.out c (by rw[←hcc];exact List.getElem_mem hlt)
   rw[hv]at a2
   obtain⟨V,hV,hV',sV,bV,PV,v0,v1,v2⟩:=eY wr 35 (.int .i64 0) (.int .i64 0) (.slice none 0 0) (.int .i64 c.e) (.int .i64 c.n) (.slice va vn vk)
   have IV:=IK.out.box bV
   have AP:=RD.out k hlt V.drew (IV.box (Below.refl _ _).drew)
   rw[hcc,hv]at AP
   unfold cK at AP
   have d8:V.cell? ⟨p,12,none⟩=some (.pointer (some ⟨ps,0,none⟩)):=ai (HPB.out V (OI.out _ _ IV)) 12 rfl
   have AP2:Hid (Calls prog 185 #[.pointer (some ⟨ps,0,none⟩),.agg #[.int .i64 c.e,.int .i64 c.n,.slice va vn vk]] V.drew fun E w'=>E=.returned (.int .i64 0)∧w'.cell? ⟨p,12,none⟩=some (.pointer (some ⟨ps,0,none⟩))∧Hid (vV ps pr q iZ w w' r t (aD rs) (k+1))):=hide (by
    refine AP.mono ?_
    rintro E w' ⟨rfl,h⟩
    exact⟨rfl,ai (HPB.out w' (OI.out _ _ h)) 12 rfl,hide h⟩)
   have hlt':(k:Int)<rs.length:=by omega
   clear AP IV hcc hv PV bV sV IK
   go_wp2_with fail
   go_region_with (go_at_call 185;refine AP2.out.mono ?_;rintro E w' ⟨rfl,e8,H⟩)
   all_goals
    clear AP2
    go_wp2
    go_roundw
    case rel=>exact⟨k+1,by simp,by omega,H⟩
    case measure=>simp[intOf];omega
  ·obtain rfl:k=rs.length:=by omega
   have hlt':¬(rs.length:Int)<rs.length:=by omega
   clear RD oQ SH I0 hlt hk
   go_wp2
   go_ret
   exact⟨rfl,IK.out⟩
theorem awe {F:Nat→Prop}{w:World}{v:Value}{l:List Bm.Ov}(h:∀W,Out F w W→bM W v l)(hl:0<l.length):∀b,v.ownBlock=some b→b<w.heap.size∧¬F b:=by
 intro b hb
 obtain⟨b1,off,cap,rfl,_,_,hlt,hc⟩:=(h w (Out.refl _ _)).full hl
 obtain rfl:b1=b:=by simpa[Value.ownBlock]using hb
 refine⟨hlt,fun hF=>?_⟩
 have h0:=(hc 0 l[0] (by rw[List.getElem?_eq_getElem hl])).1
 have o:Out F w (w.setCell ⟨b1,off+0*3,none⟩ (.int .i64 0)):=Out.aM (ax w ⟨b1,off+0*3,none⟩ (.int .i64 0)) fun i hi=>by
  have:b1=i:=by simpa using hi
  rw[←this]
  exact hF
 obtain⟨b2,o2,c2,e,_,_,_,hc2⟩:=(h _ o).full hl
 cases e
 have h1:=(hc2 0 l[0] (by rw[List.getElem?_eq_getElem hl])).1
 unfold World.cell? at h0
 simp only at h0
 split at h0
 ·rename_i cs t fr hg
  have hs:=aF hg (off+0*3) (.int .i64 0)
  have hi:off+0*3<cs.size:=by
   rcases Nat.lt_or_ge (off+0*3) cs.size with k|k
   ·exact k
   ·rw[Array.getElem?_eq_none k]at h0;cases h0
  have hi':off<cs.size:=by omega
  have:=ai hs (off+0*3) (u:=.int .i64 0) (by simp[hi'])
  rw[this]at h1
  cases h1
 ·cases h0
theorem Tryz.azW (a b:Int)(w:World):(Instr.field 31 (.agg #[.int .i64 a,.int .i64 b]) 0).run prog w=.ok (.int .i64 a) w:=by kernel_rfl
theorem aqD (g2 g3 p q pw:Nat)(FW:Nat→Prop)(w:World)(off:Bool)(x:Pm.Pg)(en:Int)(vr vs:Value)(sw:Wl.Ws)(bo:Option Addr)(n1 k1:Nat)(rs:List Cw)(hg2:w.heap[g2]? =some (.cells #[.pointer (some ⟨p,0,none⟩)] 41 (0,0)))(hg3:w.heap[g3]? =some (.cells #[.slice bo n1 k1] 22 (0,0)))(hb:w.heap[p]? =some (.cells (fo q off x (.pointer (some ⟨pw,0,none⟩)) en vr vs) 137 (0,0)))(hw:WW pw q FW w sw)(hc:gD w (.slice bo n1 k1) rs)(hf:jH rs)(hl:rs.length≤100):
  Calls prog 111 #[.pointer (some ⟨g2,0,none⟩),.pointer (some ⟨g3,0,none⟩)] w fun E w'=>E=.returned (.int .i64 (Cm.fol (Cm.lastE 0 sw.l) en 0 (aD rs)).1)∧Below w.heap.size w w':=by
 have hfd:=Tryz.azW
 obtain⟨ss,hss⟩:∃S:World→Prop,S=fun W=>W.cell? ⟨g2,0,none⟩=some (.pointer (some ⟨p,0,none⟩))∧W.cell? ⟨g3,0,none⟩=some (.slice bo n1 k1)∧W.cell? ⟨p,8,none⟩=some (.pointer (some ⟨pw,0,none⟩))∧W.cell? ⟨p,9,none⟩=some (.int .i64 en):=⟨_,rfl⟩
 have HS:Hid (∀W,Below w.heap.size w W→ss W):=hide fun W k=>by
  subst hss
  exact⟨ai ((k.block _ (ay hg2)).trans hg2) 0 rfl,ai ((k.block _ (ay hg3)).trans hg3) 0 rfl,ai ((k.block _ (ay hb)).trans hb) 8 rfl,ai ((k.block _ (ay hb)).trans hb) 9 rfl⟩
 have HE:Hid (∀W,Below w.heap.size w W→Calls prog 112 #[.pointer (some ⟨pw,0,none⟩)] W fun E w'=>E=.returned (.int .i64 (Cm.lastE 0 sw.l))∧Below w.heap.size w w'∧ss w'):=hide fun W k=>by
  refine(abF pw q FW W sw (hw.below k)).mono ?_
  rintro E w' ⟨rfl,m,rfl⟩
  have k':=below_drewN k m
  exact⟨rfl,k',HS.out _ k'⟩
 generalize Cm.lastE 0 sw.l=ep at*
 have HF:Hid (∀W,Below w.heap.size w W→Calls prog 10 #[.int .i64 ep,.int .i64 en,.slice bo n1 k1] W fun E w'=>E=.returned (zP (Cm.fol ep en 0 (aD rs)))∧Below w.heap.size w w'∧ss w'):=hide fun W k=>by
  refine(q9 ep en _ rs W (hc.below k) hf (by omega)).mono ?_
  rintro E w' ⟨rfl,b⟩
  have k':=k.trans (b.mono k.size)
  exact⟨rfl,k',HS.out _ k'⟩
 obtain⟨f1,f2,hfo⟩:∃a b,Cm.fol ep en 0 (aD rs)=(a,b):=⟨_,_,rfl⟩
 rw[hfo]at HF⊢
 unfold zP at HF
 simp only at HF⊢
 have s0:=HS.out w (Below.refl _ _)
 subst hss
 obtain⟨a1,a2,a3,a4⟩:=s0
 clear hg2 hg3 hb hw hc hf hl hfo HS
 go_enter func111,ntmps111
 go_wp2_with fail
 go_region_held3 (fun W=>W.cell? ⟨g2,0,none⟩=some (.pointer (some ⟨p,0,none⟩))∧W.cell? ⟨g3,0,none⟩=some (.slice bo n1 k1)∧W.cell? ⟨p,8,none⟩=some (.pointer (some ⟨pw,0,none⟩))∧W.cell? ⟨p,9,none⟩=some (.int .i64 en)) (first|exact⟨a1,a2,a3,a4⟩|exact sF|exact sE|go_keep)
  (first
  |(go_at_call 112;refine(HE.out _ ((Below.refl _ _).drew)).mono ?_;rintro E w2 ⟨rfl,bE,sE⟩)
  |(go_at_call 10;refine(HF.out _ bE).mono ?_;rintro E w3 ⟨rfl,bF,sF⟩;have BF:=hide bF;clear bF))
 all_goals
  go_wp2
  go_ret
  exact⟨rfl,BF.out⟩
theorem aoC (g2 g3 p:Nat)(w:World)(r:Int)(h2:w.cell? ⟨g2,0,none⟩=some (.pointer (some ⟨p,0,none⟩)))(hs:Calls prog 114 #[.pointer (some ⟨p,0,none⟩),.func (.func 115) #[] #[.pointer (some ⟨g3,0,none⟩)]] w fun E w'=>E=.returned (.int .i64 r)∧Below w.heap.size w w'):
  Calls prog 113 #[.pointer (some ⟨g2,0,none⟩),.pointer (some ⟨g3,0,none⟩)] w fun E w'=>E=.returned (.int .i64 r)∧Below w.heap.size w w':=by
 have kQ:∀(fn:Fn) (first cap:Array Value) (w:World),(Instr.makeFunc fn first cap).run prog w=.ok (.func fn first cap) w:=fun _ _ _ _=>rfl
 have PC:=hide hs
 clear hs
 go_enter func113,ntmps113
 go_wp2_with fail
 refine PC.out.mono ?_
 rintro E w' ⟨rfl,b⟩
 have B:=hide b
 clear b PC
 go_wp2
 go_ret
 exact⟨rfl,B.out⟩
theorem aeQ (g2 g3 p:Nat)(w:World)(bo:Option Addr)(n1 k1:Nat)(r:Int)(X:World→Prop)(h2:w.cell? ⟨g2,0,none⟩=some (.pointer (some ⟨p,0,none⟩)))(h3:w.cell? ⟨g3,0,none⟩=some (.slice bo n1 k1))(hs:Calls prog 118 #[.pointer (some ⟨p,8,none⟩),.slice bo n1 k1] w.drew fun E w'=>E=.returned (.int .i64 r)∧X w'):
  Calls prog 117 #[.pointer (some ⟨g2,0,none⟩),.pointer (some ⟨g3,0,none⟩)] w fun E w'=>E=.returned (.int .i64 r)∧X w':=by
 have PC:=hide hs
 clear hs
 go_enter func117,ntmps117
 go_wp2_with fail
 go_region_with (go_at_call 118;refine PC.out.mono ?_;rintro E w' ⟨rfl,k⟩;have K:=hide k;clear k)
 all_goals
  clear PC
  go_wp2
  go_ret
  exact⟨rfl,K.out⟩
theorem agP (g2 g3 p:Nat)(w:World)(bo:Option Addr)(n1 k1:Nat)(r:Int)(X:World→Prop)(h2:w.cell? ⟨g2,0,none⟩=some (.pointer (some ⟨p,0,none⟩)))(h3:w.cell? ⟨g3,0,none⟩=some (.slice bo n1 k1))(hs:Calls prog 120 #[.pointer (some ⟨p,11,none⟩),.slice bo n1 k1] w.drew fun E w'=>E=.returned (.int .i64 r)∧X w'):
  Calls prog 119 #[.pointer (some ⟨g2,0,none⟩),.pointer (some ⟨g3,0,none⟩)] w fun E w'=>E=.returned (.int .i64 r)∧X w':=by
 have PC:=hide hs
 clear hs
 go_enter func119,ntmps119
 go_wp2_with fail
 go_region_with (go_at_call 120;refine PC.out.mono ?_;rintro E w' ⟨rfl,k⟩;have K:=hide k;clear k)
 all_goals
  clear PC
  go_wp2
  go_ret
  exact⟨rfl,K.out⟩
theorem akp (n:Int)(w:World):Calls prog 99 #[.int .i64 n] w fun E w'=>E=.returned (.int .i64 (fse n))∧Below w.heap.size w w':=by
 have FI:=hide (adY n w)
 unfold vp at FI
 go_enter func99,ntmps99
 go_wp2_with fail
 refine FI.out.mono ?_
 rintro E w1 ⟨rfl,b1⟩
 clear FI
 obtain⟨V,hV,hV',sV,bV,PV,⟨z0,z1,z2,z3,z4,z5⟩⟩:=ng w1 46 (.int .i64 0) (.int .u8 0) (.int .i64 0) (.int .u8 0) (.int .i64 0) (.int .i64 0) (.int .i64 (fst n).e) (.int .u8 (fst n).r) (.int .i64 (fst n).a) (.int .u8 (fst n).p) (.int .i64 (fst n).f) (.int .i64 (fst n).b)
 have BV:=hide (b1.trans (bV.mono b1.size))
 clear b1 bV PV sV
 go_wp2
 all_goals
  go_ret
  exact⟨rfl,BV.out⟩
theorem amy (g:Nat)(n:Int)(w:World)(hg:w.cell? ⟨g,0,none⟩=some (.int .i64 n)):Calls prog 98 #[.pointer (some ⟨g,0,none⟩)] w fun E w'=>E=.returned (.int .i64 (fse n))∧Below w.heap.size w w':=by
 have FI:=hide (akp n w)
 go_enter func98,ntmps98
 go_wp2_with fail
 refine FI.out.mono ?_
 rintro E w1 ⟨rfl,b1⟩
 have B:=hide b1
 clear FI b1
 go_wp2
 go_ret
 exact⟨rfl,B.out⟩
theorem aua {V:World}{P q:Nat}{off:Bool}{x:Pm.Pg}{vw vr vs:Value}{en:Int}(hP:V.heap[P]? =some (.cells (fo q off x vw en vr vs) 137 (0,0)))(vw':Value)(en':Int):
  ∃V1 V2,V.setCell ⟨P,8,none⟩ vw'=V1∧V1.setCell ⟨P,9,none⟩ (.int .i64 en')=V2∧V1.heap[P]? =some (.cells (fo q off x vw' en vr vs) 137 (0,0))∧V2.heap[P]? =some (.cells (fo q off x vw' en' vr vs) 137 (0,0))∧Out (fun g=>g=P) V V1∧Out (fun g=>g=P) V1 V2:=by
 have q1:(V.setCell ⟨P,8,none⟩ vw').heap[P]? =some (.cells (fo q off x vw' en vr vs) 137 (0,0)):=aF hP 8 vw'
 exact⟨_,_,rfl,rfl,q1,aF q1 9 (.int .i64 en'),Out.aM (ax V ⟨P,8,none⟩ vw') fun i hi=>by simpa using hi.symm,Out.aM (ax _ ⟨P,9,none⟩ (.int .i64 en')) fun i hi=>by simpa using hi.symm⟩
theorem at7 {V:World}{P q:Nat}{off:Bool}{x:Pm.Pg}{vw vr vs:Value}{en:Int}(hP:V.heap[P]? =some (.cells (fo q off x vw en vr vs) 137 (0,0)))(vr':Value):
  ∃V1,V.setCell ⟨P,11,none⟩ vr'=V1∧V1.heap[P]? =some (.cells (fo q off x vw en vr' vs) 137 (0,0))∧Out (fun g=>g=P) V V1:=
 ⟨_,rfl,aF hP 11 vr',Out.aM (ax V ⟨P,11,none⟩ vr') fun i hi=>by simpa using hi.symm⟩
theorem axp {node:Int}(hn:node=0∨node=1):Pm.Ok (fst node)∧fse node=0:=by
 rcases hn with rfl|rfl
 ·exact⟨by unfold fst;rw[if_pos rfl];decide,rfl⟩
 ·exact⟨by unfold fst;rw[if_neg (by decide),if_pos rfl];decide,rfl⟩
theorem amd (g0 g1 P:Nat)(n r:Int)(w:World)(X:Int→World→Prop)(h0:w.cell? ⟨g0,0,none⟩=some (.pointer (some ⟨P,0,none⟩)))(h1:w.cell? ⟨g1,0,none⟩=some (.int .i64 n))(hs:Calls prog 102 #[.pointer (some ⟨P,0,none⟩),.int .i64 n] w fun E w'=>∃e,E=.returned (.int .i64 e)∧X e w'):
  Calls prog 101 #[.pointer (some ⟨g0,0,none⟩),.pointer (some ⟨g1,0,none⟩)] w fun E w'=>∃e,E=.returned (.int .i64 e)∧X e w':=by
 have PC:=hide hs
 clear hs
 go_enter func101,ntmps101
 go_wp2_with fail
 refine PC.out.mono ?_
 rintro E w' ⟨e,rfl,k⟩
 have K:=hide k
 clear k PC
 go_wp2
 go_ret
 exact⟨e,rfl,K.out⟩
theorem alv (g0 P q pw pr:Nat)(F F':Nat→Prop)(w:World)(off:Bool)(x:Pm.Pg)(en b:Int)(vs:Value)(sw:Wl.Ws)(sr:Rl.Rs)(h0:w.cell? ⟨g0,0,none⟩=some (.pointer (some ⟨P,0,none⟩)))(hb:w.heap[P]? =some (.cells (fo q off x (.pointer (some ⟨pw,0,none⟩)) en (.pointer (some ⟨pr,0,none⟩)) vs) 137 (0,0)))(h1:WW pw q F w sw)(h2:RW pr q F' w sr)(hS:∀W,Below w.heap.size w W→Calls prog 180 #[.pointer (some ⟨P,0,none⟩)] W fun E w'=>E=.returned (.int .i64 b)∧Below W.heap.size W w'):
  Calls prog 105 #[.pointer (some ⟨g0,0,none⟩)] w fun E w'=>E=.returned (.int .i64 (if vS x (Cm.lastE 0 sw.l) en (Cm.lastN 0 sr.l) b=true then 0 else 5))∧Below w.heap.size w w':=by
 have OL:=hide (zG P q pw pr F F' w off x en vs sw sr hb h1 h2)
 have CK:Hid (∀w1,Below w.heap.size w w1→Calls prog 107 #[.agg (jk x (Cm.lastE 0 sw.l) en (Cm.lastN 0 sr.l) P)] w1 fun E w'=>E=.returned (.int .i64 (if vS x (Cm.lastE 0 sw.l) en (Cm.lastN 0 sr.l) b=true then 0 else 5))∧Below w1.heap.size w1 w'):=hide fun w1 k=>aa8 P x _ en _ b w1 fun _ W hW=>hS W (k.trans (hW.mono k.size))
 generalize (if vS x (Cm.lastE 0 sw.l) en (Cm.lastN 0 sr.l) b=true then(0:Int)else 5)=r at*
 clear hb h1 h2 hS
 go_enter func105,ntmps105
 go_wp2_with fail
 refine OL.out.mono ?_
 rintro E w1 ⟨rfl,b1⟩
 have CK1:=hide (CK.out w1 b1)
 have B1:=hide b1
 clear OL CK b1
 go_wp2_with fail
 refine CK1.out.mono ?_
 rintro E w2 ⟨rfl,b2⟩
 have B2:=hide (B1.out.trans (b2.mono B1.out.size))
 clear CK1 b2 B1
 go_wp2
 go_ret
 exact⟨rfl,B2.out⟩
end Go.Proofs.YtlmkaljjocflmaaGreatDoor
