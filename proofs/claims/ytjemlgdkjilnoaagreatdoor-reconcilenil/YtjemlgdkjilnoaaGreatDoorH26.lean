/- Texts of one layer, one behind the other. -/
import Derived.Test.YtjemlgdkjilnoaaGreatDoorH21
import Derived.Test.YtjemlgdkjilnoaaGreatDoorH19
import Derived.Test.YtjemlgdkjilnoaaGreatDoorH25
import Derived.Test.YtjemlgdkjilnoaaGreatDoorH16
import Derived.Test.YtjemlgdkjilnoaaGreatDoorH4
import Derived.Test.YtjemlgdkjilnoaaGreatDoorH22
import Derived.Test.YtjemlgdkjilnoaaGreatDoorH27
import Derived.Deep.RegionHeld3
import Derived.Test.YtjemlgdkjilnoaaGreatDoorH12
import Derived.Test.YtjemlgdkjilnoaaGreatDoorH29
import Derived.Test.YtjemlgdkjilnoaaGreatDoorH30
import Derived.Test.YtjemlgdkjilnoaaGreatDoorH31
import Derived.Deep.CutRange
import Derived.Test.YtjemlgdkjilnoaaGreatDoorH23
import Derived.Test.YtjemlgdkjilnoaaGreatDoorH20
import Derived.Test.YtjemlgdkjilnoaaGreatDoorH2
set_option maxRecDepth 100000
set_option maxHeartbeats 8000000
namespace Go.Proofs.YtjemlgdkjilnoaaGreatDoor
open Go.RowKit
set_option linter.unusedVariables false
section
variable {p q:Nat} {F:Nat→Prop} {w W:World} {s s1:Rst.St}
theorem PS.at (h:PS p q F w s):F p∧∃vw vr vs,w.heap[p]? =some (.cells (eD q s.off s.p vw s.l.length vr vs) 56 (0,0)):=by
 obtain⟨F1,G,h1,⟨pw,pr,ps,Gw,Gr,Gs,lw,bw,br,V,rfl⟩,h3,hm,rfl⟩:=h
 exact⟨.inr (.inl rfl),_,_,_,V.blk⟩
theorem PS.below (h:PS p q F w s)(hb:Below w.heap.size w W):PS p q F W s:=h.agree (fun g hg=>hb.block g (h.lt g hg)) hb.size (h.gG.below hb)
theorem bM.same (h:PS p q F w s)(hb:Below w.heap.size w W):bM p q F w W s:=⟨F,h.below hb,Out.of_below hb,fun g hg=>.inl hg⟩
theorem vW {cs:Array Value}{t:TypeId}{fr:Nat×Nat}{a:Option Addr}(hm:fQ w)(hb:w.heap[p]? =some (.cells cs t fr))(hc:cs[0]? =some (.pointer a)):p≠0:=by
 rintro rfl
 have:=ai hb 0 hc
 rw[hm.c0]at this
 cases this
theorem bM.brk (h:bM p q F w W s1):bM p q F w (W.setCell ⟨p,1,none⟩ (.bool true)) (Rst.brk s1):=by
 obtain⟨F',⟨F1,G,h1,⟨pw,pr,ps,Gw,Gr,Gs,lw,bw,br,V,rfl⟩,h3,hm,rfl⟩,ho,hn⟩:=h
 have hp:p≠0:=vW hm V.blk rfl
 have oZ:Out (fun g=>g=p) W (W.setCell ⟨p,1,none⟩ (.bool true)):=Out.aV (aB W ⟨p,1,none⟩ (.bool true)) fun i hi=>by simpa using hi.symm
 have pz:(W.setCell ⟨p,1,none⟩ (.bool true)).heap[p]? =some (.cells (eD q true s1.p (.pointer (some ⟨pw,0,none⟩)) s1.l.length (.pointer (some ⟨pr,0,none⟩)) (.pointer (some ⟨ps,0,none⟩))) 56 (0,0)):=aI V.blk 1 (.bool true)
 generalize W.setCell ⟨p,1,none⟩ (.bool true)=Z at*
 have hF1:¬F1 p:=h3 p (.inl rfl)
 refine⟨fun g=>F1 g∨PB p Gw Gr Gs g,⟨F1,PB p Gw Gr Gs,h1.agree fun g hg=>oZ.block g (h1.lt g hg) fun e=>hF1 (e▸hg),⟨pw,pr,ps,Gw,Gr,Gs,lw,bw,br,⟨pz,V.wal.out oZ fun g hg e=>V.np.1 (e▸hg),V.run.out oZ fun g hg e=>V.np.2.1 (e▸hg),V.sto.out oZ fun g hg e=>V.np.2.2 (e▸hg),V.log,(fun e=>absurd e (by simp[Rst.brk])),V.ok,V.fit,V.rest,V.le,V.np,V.wr,V.ws,V.rs⟩,rfl⟩,h3,gI hm oZ fun e=>hp e.symm,rfl⟩,ho.trans oZ fun g hg=>?_,hn⟩
 rw[hg]
 exact hn p (.inr (.inl rfl))
theorem agZ {pw pr ps:Nat}{F1 F2 Gw Gr Gs:Nat→Prop}{w5 w6:World}{lw:List Cm.Cv}{bw br:Bool}{x:Pm.Pg}{d':Dm.Ds}(V:oQ p q pw pr ps Gw Gr Gs w5 s lw bw br)(hd:∀g,PB p Gw Gr Gs g→¬F1 g)(hm:fQ w5)(h0:¬F1 0)(hok:Pm.Ok x)(k1:Pk q F2 w6 d')(k2:w6.heap[p]? =some (.cells (eD q s.off x (.pointer (some ⟨pw,0,none⟩)) s.l.length (.pointer (some ⟨pr,0,none⟩)) (.pointer (some ⟨ps,0,none⟩))) 56 (0,0)))(k3:Out (fun g=>F1 g∨g=p) w5 w6)(k4:∀g,F2 g→F1 g∨w5.heap.size≤g):
  bM p q (fun g=>F1 g∨PB p Gw Gr Gs g) w5 w6 ⟨d',x,s.l,s.r,s.off⟩:=by
 have hp:p≠0:=vW hm V.blk rfl
 have ne:∀g,PB p Gw Gr Gs g→g≠p→¬(F1 g∨g=p):=fun g hg hn e=>e.elim (hd g hg) hn
 refine⟨fun g=>F2 g∨PB p Gw Gr Gs g,⟨F2,PB p Gw Gr Gs,k1,⟨pw,pr,ps,Gw,Gr,Gs,lw,bw,br,⟨k2,V.wal.out k3 fun g hg=>ne g (.inr (.inl hg)) fun e=>V.np.1 (e▸hg),V.run.out k3 fun g hg=>ne g (.inr (.inr (.inl hg))) fun e=>V.np.2.1 (e▸hg),V.sto.out k3 fun g hg=>ne g (.inr (.inr (.inr hg))) fun e=>V.np.2.2 (e▸hg),V.log,V.live,hok,oD hok,V.rest,V.le,V.np,V.wr,V.ws,V.rs⟩,rfl⟩,fun g hg e=>?_,gI hm k3 fun e=>?_,rfl⟩,k3.mono fun g hg=>?_,fun g hg=>?_⟩
 ·rcases k4 g e with e|e
  ·exact hd g hg e
  ·have:=V.lt g hg;omega
 ·rcases e with e|e
  ·exact h0 e
  ·exact hp e.symm
 ·rcases hg with e|e
  ·exact .inl (.inl e)
  ·exact .inl (.inr (.inl e))
 ·rcases hg with e|e
  ·exact(k4 g e).imp Or.inl id
  ·exact .inl (.inr e)
theorem bM.pre (hb:Below w.heap.size w W){W2:World}(k:bM p q F W W2 s):bM p q F w W2 s:=by
 obtain⟨F',k1,k2,k3⟩:=k
 have:=hb.size
 exact⟨F',k1,(Out.of_below hb).trans k2 fun g hg=>.inl hg,fun g hg=>(k3 g hg).imp id fun e=>by omega⟩
def QS (p q:Nat) (F:Nat→Prop) (w:World) (r:Int×Rst.St) (e:Int) (W:World):Prop:=e=r.1∧(e≠6→bM p q F w W r.2)∧(e=6→bM p q F w (W.setCell ⟨p,1,none⟩ (.bool true)) r.2∧∃cs b,W.heap[p]? =some (.cells cs 56 (0,0))∧cs[1]? =some (.bool b))
theorem QS.no {r:Int×Rst.St}{e:Int}(h1:r=(e,s1))(h6:e≠6)(h:bM p q F w W s1):QS p q F w r e W:=by
 subst h1
 exact⟨rfl,fun _=>h,fun k=>absurd k h6⟩
theorem QS.six {r:Int×Rst.St}(h1:r=(6,Rst.brk s1))(h:bM p q F w W s1):QS p q F w r 6 W:=by
 subst h1
 refine⟨rfl,fun k=>absurd rfl k,fun _=>⟨h.brk,?_⟩⟩
 obtain⟨F',h,_⟩:=h
 obtain⟨_,vw,vr,vs,hb⟩:=h.at
 exact⟨_,_,hb,rfl⟩
theorem yn {r:Int×Rst.St}{B n:Nat}{fs:List Value}(hn:fs.length=n)(hl:n≤100)(hB:W.heap[B]? =some (.cells fs.toArray 132 (0,0)))(h:Run B (QS p q F w r) fs W):
  Calls Tryz.prog 57 #[.pointer (some ⟨p,0,none⟩),.slice (some ⟨B,0,none⟩) n n] W fun E w'=>E=.returned (.int .i64 r.1)∧bM p q F w w' r.2:=by
 refine(acM (.pointer (some ⟨p,0,none⟩)) p B n fs W _ hn hl hB h ?_).mono ?_
 ·rintro W ⟨_,_,h⟩
  exact⟨rfl,(h rfl).2⟩
 ·rintro E w' ⟨e,W,rfl,⟨rfl,h2,h3⟩,⟨k,rfl⟩|⟨k,rfl⟩⟩
  ·exact⟨rfl,h2 k⟩
  ·exact⟨rfl,(h3 k).1⟩
theorem vg {r:Int×Rst.St}{B:Nat}{l:List Value}(h:PS p q F W s)(h0:bM p q F w W s)(ha:Rst.asked s=true→r=(6,Rst.brk s))(hr:Rst.asked s=false→Run B (QS p q F w r) l W):Run B (QS p q F w r) (.func (.func 58) #[.pointer (some ⟨p,0,none⟩)] #[]::l) W:=by
 obtain⟨F1,G,h1,⟨pw,pr,ps,Gw,Gr,Gs,lw,bw,br,V,rfl⟩,h3,hm,rfl⟩:=h
 refine Run.cons (enters_of Tryz.func58 (by kernel_rfl) rfl) (by simp) ((abe p q F1 W s.d s.off h1 (ai V.blk 0 rfl) (ai V.blk 1 rfl)).mono ?_)
 rintro E w' ⟨rfl,rfl⟩
 refine⟨_,rfl,rfl,?_⟩
 cases hc:Rst.asked s with
 |true=>
  have hc':(s.off|| !s.d.on)=true:=hc
  rw[if_pos hc',ha hc]
  exact .inl ⟨by decide,QS.six rfl h0⟩
 |false=>
  have hc':¬(s.off|| !s.d.on)=true:=by rw[show(s.off|| !s.d.on)=Rst.asked s from rfl,hc];simp
  rw[if_neg hc']
  exact .inr ⟨rfl,hr hc⟩
end
theorem aiK (p q:Nat)(F:Nat→Prop)(w:World)(st:Dm.Ds)(h:Pk q F w st)(hs:Big 50000000 500000 st)(hp:w.cell? ⟨p,0,none⟩=some (.pointer (some ⟨q,0,none⟩)))(hpl:p<w.heap.size)(ho:st.on=true)(h3:T3 st):∀W,Below w.heap.size w W→
  Calls Tryz.prog 85 #[.pointer (some ⟨p,0,none⟩)] W fun E w'=>E=.returned (.int .i64 (Rst.hf 3 st).length)∧Below W.heap.size W w':=by
 intro W hW
 have e:W.cell? ⟨p,0,none⟩=w.cell? ⟨p,0,none⟩:=by have:=hW.block p hpl;simp[World.cell?,this]
 refine(af1 p q F W st (h.below hW) (hs.mono (by decide) (by decide)) (e.trans hp) ho).mono ?_
 rintro E w' ⟨ss,rfl,k,b⟩
 obtain⟨s2,r2,e2⟩:=h3
 have k:=k.out
 rw[e2]at k⊢
 rw[Orp.wu k (Orp.tL r2)]
 exact⟨rfl,b⟩
theorem ao0 (g:Nat)(x:Pm.Pg)(w:World)(hg:w.heap[g]? =some (.cells (cp x) 35 (0,0)))(hx:eT x)(hm:fQ w):
  Calls Tryz.prog 69 #[.pointer (some ⟨g,0,none⟩)] w fun E w'=>E=.returned (.int .i64 (Pm.chk x))∧Below w.heap.size w w':=by
 unfold cp at hg
 obtain⟨c0,c1,c2,c3,c4,c5⟩:=aN hg
 have PC:=hide (iZ x w hx hm)
 unfold vp at PC
 clear hg hx hm
 go_enter Tryz.func69,Tryz.ntmps69
 go_wp2_with fail
 refine PC.out.mono ?_
 rintro E w' ⟨rfl,b⟩
 have B:=hide b
 clear b PC
 go_wp2
 go_ret
 exact⟨rfl,B.out⟩
theorem aoP (g2 g3 p:Nat)(w:World)(r:Int)(h2:w.cell? ⟨g2,0,none⟩=some (.pointer (some ⟨p,0,none⟩)))(hs:Calls Tryz.prog 62 #[.pointer (some ⟨p,0,none⟩),.func (.func 71) #[] #[.pointer (some ⟨g3,0,none⟩)]] w fun E w'=>E=.returned (.int .i64 r)∧Below w.heap.size w w'):
  Calls Tryz.prog 70 #[.pointer (some ⟨g2,0,none⟩),.pointer (some ⟨g3,0,none⟩)] w fun E w'=>E=.returned (.int .i64 r)∧Below w.heap.size w w':=by
 have qP:∀(fn:Fn) (first cap:Array Value) (w:World),(Instr.makeFunc fn first cap).run Tryz.prog w=.ok (.func fn first cap) w:=fun _ _ _ _=>rfl
 have PC:=hide hs
 clear hs
 go_enter Tryz.func70,Tryz.ntmps70
 go_wp2_with fail
 refine PC.out.mono ?_
 rintro E w' ⟨rfl,b⟩
 have B:=hide b
 clear b PC
 go_wp2
 go_ret
 exact⟨rfl,B.out⟩
theorem anw (g2 g3 p:Nat)(x:Pm.Pg)(w:World)(R:Ending→World→Prop)(h2:w.cell? ⟨g2,0,none⟩=some (.pointer (some ⟨p,0,none⟩)))(hg:w.heap[g3]? =some (.cells (cp x) 35 (0,0)))(r:Int)(X:World→Prop)(hs:Calls Tryz.prog 73 #[.pointer (some ⟨p,0,none⟩),vp x] w fun E w'=>E=.returned (.int .i64 r)∧X w'):
  Calls Tryz.prog 72 #[.pointer (some ⟨g2,0,none⟩),.pointer (some ⟨g3,0,none⟩)] w fun E w'=>E=.returned (.int .i64 r)∧X w':=by
 unfold cp at hg
 obtain⟨c0,c1,c2,c3,c4,c5⟩:=aN hg
 have PC:=hide hs
 unfold vp at PC
 clear hs hg
 go_enter Tryz.func72,Tryz.ntmps72
 go_wp2_with fail
 refine PC.out.mono ?_
 rintro E w' ⟨rfl,b⟩
 have B:=hide b
 clear b PC
 go_wp2
 go_ret
 exact⟨rfl,B.out⟩
theorem afS (p q:Nat)(F:Nat→Prop)(w:World)(s:Rst.St)(h:PS p q F w s)(hR:o9 s)(h3:T3 s.d∧¬F 0)(x:Pm.Pg)(hx:eT x):Calls Tryz.prog 28 #[.pointer (some ⟨p,0,none⟩),vp x] w fun E w'=>E=.returned (.int .i64 (Rst.dh s x).1)∧bM p q F w w' (Rst.dh s x).2:=by
 have qP:∀(fn:Fn) (first cap:Array Value) (w:World),(Instr.makeFunc fn first cap).run Tryz.prog w=.ok (.func fn first cap) w:=fun _ _ _ _=>rfl
 obtain⟨w1,hw1,s1,b1,P1⟩:=ak w #[.pointer (some ⟨p,0,none⟩)] 22
 obtain⟨w2,hw2,s2,b2,P2⟩:=ak w1 (cp x) 35
 obtain⟨w3,hw3,s3,b3,P3⟩:=ak w2 #[.func (.func 58) #[.pointer (some ⟨p,0,none⟩)] #[],.func (.func 69) #[] #[.pointer (some ⟨w.heap.size+1,0,none⟩)],.func (.func 70) #[] #[.pointer (some ⟨w.heap.size,0,none⟩),.pointer (some ⟨w.heap.size+1,0,none⟩)],.func (.func 72) #[] #[.pointer (some ⟨w.heap.size,0,none⟩),.pointer (some ⟨w.heap.size+1,0,none⟩)]] 132
 have z2:w2.heap.size=w.heap.size+2:=by omega
 have z3:w3.heap.size=w.heap.size+3:=by omega
 rw[s1]at P2
 rw[z2]at P3
 have fo:Below w.heap.size w w3:=(b1.trans (b2.mono (by omega))).trans (b3.mono (by omega))
 have c2:w2.cell? ⟨w.heap.size,0,none⟩=some (.pointer (some ⟨p,0,none⟩)):=ai ((b2.block _ (by omega)).trans P1) 0 rfl
 have t3:=(b3.block _ (by omega)).trans ((b2.block _ (by omega)).trans P1)
 have u3:=(b3.block _ (by omega)).trans P2
 have pq:=h.below fo
 have RUN:Run (w.heap.size+2) (QS p q F w (Rst.dh s x)) [.func (.func 58) #[.pointer (some ⟨p,0,none⟩)] #[],.func (.func 69) #[] #[.pointer (some ⟨w.heap.size+1,0,none⟩)],.func (.func 70) #[] #[.pointer (some ⟨w.heap.size,0,none⟩),.pointer (some ⟨w.heap.size+1,0,none⟩)],.func (.func 72) #[] #[.pointer (some ⟨w.heap.size,0,none⟩),.pointer (some ⟨w.heap.size+1,0,none⟩)]] w3:=by
  refine vg pq (bM.same h fo) (fun k=>by unfold Rst.dh;rw[if_pos k]) fun dR=>?_
  have hon:s.d.on=true:=by
   unfold Rst.asked at dR
   revert dR
   cases s.d.on<;>simp
  have hoff:s.off=false:=by
   unfold Rst.asked at dR
   revert dR
   cases s.off<;>simp
  refine Run.cons (enters_of Tryz.func69 (by kernel_rfl) rfl) (by simp) ((ao0 _ x w3 u3 hx pq.gG).mono ?_)
  rintro E w4 ⟨rfl,b4⟩
  have wM:=fo.trans (b4.mono (by omega))
  refine⟨_,rfl,b4.block _ (by omega),?_⟩
  by_cases hc:Pm.chk x=0
  ·have hok:Pm.Ok x:=Pm.gy.1 hc
   refine .inr ⟨hc,?_⟩
   have hS4:=h.below wM
   have z4:=b4.size
   have t4:=(b4.block _ (by omega)).trans t3
   have u4:=(b4.block _ (by omega)).trans u3
   obtain⟨F1,G,h1,⟨pw,pr,ps,Gw,Gr,Gs,lw,bw,br,V,rfl⟩,hd,hm,rfl⟩:=hS4
   obtain⟨rfl,rfl,rfl⟩:=V.live hoff
   have hb:=V.blk
   have SC:=wI p q pw pr _ _ w4 _ _ _ _ _ _ hb (V.ww h1) (V.rw h1) 71 #[.pointer (some ⟨w.heap.size+1,0,none⟩)] (enters_of Tryz.func71 (by kernel_rfl) rfl) x _ _ _ (Rst.hf 3 s.d).length (asf w4 p (w.heap.size+1) s.p x _ _ _ u4) (fun _=>aiK p q F1 w4 s.d h1 hR.1 (ai hb 0 rfl) (ax hb) hon h3.1)
   simp only at SC
   rw[abx hok]at SC
   refine Run.cons (enters_of Tryz.func70 (by kernel_rfl) rfl) (by simp) ((aoP _ _ p w4 _ (ai t4 0 rfl) SC).mono ?_)
   rintro E w5 ⟨rfl,b5⟩
   have qx:=wM.trans (b5.mono (by omega))
   have z5:=b5.size
   refine⟨_,rfl,b5.block _ (by omega),?_⟩
   have hfi:Rst.fine s x s.l (Cm.lastN 0 s.r)=Rst.snd x s.l (Cm.lastN 0 s.r) (Rst.hf 3 s.d).length:=rfl
   cases hsn:Rst.snd x s.l (Cm.lastN 0 s.r) (Rst.hf 3 s.d).length with
   |false=>
    rw[if_neg (by simp)]
    have hr:Rst.dh s x=(5,s):=by
     unfold Rst.dh
     rw[if_neg (by simp[dR]),if_neg (by simp[hc]),if_pos (hfi.trans hsn)]
    exact .inl ⟨by decide,QS.no hr (by decide) (bM.same h qx)⟩
   |true=>
    rw[if_pos rfl]
    refine .inr ⟨rfl,?_⟩
    have V5:=V.below b5
    have h15:=h1.below b5
    have hm5:=hm.below b5
    have TU:=am3 p q F1 w5 s.d s.off s.p x _ _ _ _ h15 hR.1 V5.blk (hd p (.inl rfl)) hok hm5
    have hr:Rst.dh s x=if (Rst.ext s.d 1 (Fm.cB (Pm.enc x))).1≠0 then(6,⟨(Rst.ext s.d 1 (Fm.cB (Pm.enc x))).2,s.p,s.l,s.r,true⟩)else(0,⟨(Rst.ext s.d 1 (Fm.cB (Pm.enc x))).2,x,s.l,s.r,s.off⟩):=by
     unfold Rst.dh
     rw[if_neg (by simp[dR]),if_neg (by simp[hc]),if_neg (by rw[hfi,hsn];simp)]
    have hee:(Rst.ext s.d 1 (Fm.cB (Pm.enc x))).1=0∨(Rst.ext s.d 1 (Fm.cB (Pm.enc x))).1=6:=by
     unfold Rst.ext
     split
     ·exact .inr rfl
     ·split
      ·exact .inr rfl
      ·exact .inl rfl
    generalize Rst.ext s.d 1 (Fm.cB (Pm.enc x))=ex at*
    obtain⟨ee,d'⟩:=ex
    simp only at*
    refine Run.cons (enters_of Tryz.func72 (by kernel_rfl) rfl) (by simp) ((anw _ _ p x w5 (fun _ _=>True) (ai ((b5.block _ (by omega)).trans t4) 0 rfl) ((b5.block _ (by omega)).trans u4) _ _ TU).mono ?_)
    rintro E w6 ⟨rfl,F2,k1,k2,k3,k4⟩
    have hsz:=k3.size
    have nF:¬(F1 (w.heap.size+2)∨w.heap.size+2=p):=by
     rintro(e|e)
     ·have:=h.lt _ (.inl e);omega
     ·have:=h.lt _ (.inr (.inl e));omega
    refine⟨_,rfl,k3.block _ (by omega) nF,?_⟩
    rcases hee with rfl|rfl
    ·rw[if_pos rfl]at k2
     rw[if_neg (by simp)]at hr
     exact .inr ⟨rfl,QS.no hr (by decide) ((agZ V5 hd hm5 (fun e=>h3.2 (.inl e)) hok k1 k2 k3 k4).pre qx)⟩
    ·rw[if_neg (by decide)]at k2
     rw[if_pos (by simp)]at hr
     exact .inl ⟨by decide,QS.six (s1:=⟨d',s.p,s.l,s.r,s.off⟩) hr ((agZ V5 hd hm5 (fun e=>h3.2 (.inl e)) V.ok k1 k2 k3 k4).pre qx)⟩
  ·have hr:Rst.dh s x=(Pm.chk x,s):=by
    unfold Rst.dh
    rw[if_neg (by simp[dR]),if_pos hc]
   have h6:Pm.chk x≠6:=by unfold Pm.chk;split<;>decide
   exact .inl ⟨hc,QS.no hr h6 (bM.same h wM)⟩
 have HC:=hide (yn (n:=4) rfl (by omega) P3 RUN)
 generalize Rst.dh s x=r at*
 unfold cp at hw2
 unfold vp
 clear RUN h hR h3 hx b1 b2 b3 P1 P2 P3 s2 s3 z3 fo t3 u3 pq
 go_enter Tryz.func28,Tryz.ntmps28
 go_wp2_with fail
 refine HC.out.mono ?_
 rintro E w' ⟨rfl,X⟩
 have X:=hide X
 clear HC
 go_wp2
 go_ret
 exact⟨rfl,X.out⟩
theorem ahP (n:Int)(w:World):Calls Tryz.prog 32 #[.int .i64 n] w fun E w'=>E=.returned (.int .i64 (fse n))∧Below w.heap.size w w':=by
 have FI:=hide (adf n w)
 unfold vp at FI
 go_enter Tryz.func32,Tryz.ntmps32
 go_wp2_with fail
 refine FI.out.mono ?_
 rintro E w1 ⟨rfl,b1⟩
 clear FI
 obtain⟨V,hV,hV',sV,bV,PV,⟨z0,z1,z2,z3,z4,z5⟩⟩:=xA w1 35 (.int .i64 0) (.int .u8 0) (.int .i64 0) (.int .u8 0) (.int .i64 0) (.int .i64 0) (.int .i64 (fst n).e) (.int .u8 (fst n).r) (.int .i64 (fst n).a) (.int .u8 (fst n).p) (.int .i64 (fst n).f) (.int .i64 (fst n).b)
 have BV:=hide (b1.trans (bV.mono b1.size))
 clear b1 bV PV sV
 go_wp2
 all_goals
  go_ret
  exact⟨rfl,BV.out⟩
theorem amf (g:Nat)(n:Int)(w:World)(hg:w.cell? ⟨g,0,none⟩=some (.int .i64 n)):Calls Tryz.prog 31 #[.pointer (some ⟨g,0,none⟩)] w fun E w'=>E=.returned (.int .i64 (fse n))∧Below w.heap.size w w':=by
 have FI:=hide (ahP n w)
 go_enter Tryz.func31,Tryz.ntmps31
 go_wp2_with fail
 refine FI.out.mono ?_
 rintro E w1 ⟨rfl,b1⟩
 have B:=hide b1
 clear FI b1
 go_wp2
 go_ret
 exact⟨rfl,B.out⟩
theorem arJ {V:World}{P q:Nat}{off:Bool}{x:Pm.Pg}{vw vr vs:Value}{en:Int}(hP:V.heap[P]? =some (.cells (eD q off x vw en vr vs) 56 (0,0)))(vw':Value)(en':Int):
  ∃V1 V2,V.setCell ⟨P,8,none⟩ vw'=V1∧V1.setCell ⟨P,9,none⟩ (.int .i64 en')=V2∧V1.heap[P]? =some (.cells (eD q off x vw' en vr vs) 56 (0,0))∧V2.heap[P]? =some (.cells (eD q off x vw' en' vr vs) 56 (0,0))∧Out (fun g=>g=P) V V1∧Out (fun g=>g=P) V1 V2:=by
 have q1:(V.setCell ⟨P,8,none⟩ vw').heap[P]? =some (.cells (eD q off x vw' en vr vs) 56 (0,0)):=aI hP 8 vw'
 exact⟨_,_,rfl,rfl,q1,aI q1 9 (.int .i64 en'),Out.aV (aB V ⟨P,8,none⟩ vw') fun i hi=>by simpa using hi.symm,Out.aV (aB _ ⟨P,9,none⟩ (.int .i64 en')) fun i hi=>by simpa using hi.symm⟩
theorem arN {V:World}{P q:Nat}{off:Bool}{x:Pm.Pg}{vw vr vs:Value}{en:Int}(hP:V.heap[P]? =some (.cells (eD q off x vw en vr vs) 56 (0,0)))(vr':Value):
  ∃V1,V.setCell ⟨P,11,none⟩ vr'=V1∧V1.heap[P]? =some (.cells (eD q off x vw en vr' vs) 56 (0,0))∧Out (fun g=>g=P) V V1:=
 ⟨_,rfl,aI hP 11 vr',Out.aV (aB V ⟨P,11,none⟩ vr') fun i hi=>by simpa using hi.symm⟩
theorem avv {node:Int}(hn:node=0∨node=1):Pm.Ok (fst node)∧fse node=0:=by
 rcases hn with rfl|rfl
 ·exact⟨by unfold fst;rw[if_pos rfl];decide,rfl⟩
 ·exact⟨by unfold fst;rw[if_neg (by decide),if_pos rfl];decide,rfl⟩
theorem aqx {st:Dm.Ds}(ho:st.on=true)(f:Nat)(hf:f<4):lM st f=Rst.hf f st∧kV st f=0:=by
 have h4:Dm.iU (f:Int)=true:=by unfold Dm.iU;simp;omega
 unfold lM kV
 rw[if_neg (by simp[ho]),if_neg (by simp[h4]),if_neg (by simp[ho]),if_neg (by simp[h4])]
 exact⟨rfl,rfl⟩
theorem av4 {st:Dm.Ds}{t u:Nat}(hs:Big t u st)(f:Nat):(Rst.hf f st).length≤t:=by
 have:=Dm.kZ st.wait (st.sure f) f
 have:=hs.1.1 f
 unfold Rst.hf
 omega
theorem alG (g0 g1 P:Nat)(n r:Int)(w:World)(X:Int→World→Prop)(h0:w.cell? ⟨g0,0,none⟩=some (.pointer (some ⟨P,0,none⟩)))(h1:w.cell? ⟨g1,0,none⟩=some (.int .i64 n))(hs:Calls Tryz.prog 35 #[.pointer (some ⟨P,0,none⟩),.int .i64 n] w fun E w'=>∃e,E=.returned (.int .i64 e)∧X e w'):
  Calls Tryz.prog 34 #[.pointer (some ⟨g0,0,none⟩),.pointer (some ⟨g1,0,none⟩)] w fun E w'=>∃e,E=.returned (.int .i64 e)∧X e w':=by
 have PC:=hide hs
 clear hs
 go_enter Tryz.func34,Tryz.ntmps34
 go_wp2_with fail
 refine PC.out.mono ?_
 rintro E w' ⟨e,rfl,k⟩
 have K:=hide k
 clear k PC
 go_wp2
 go_ret
 exact⟨e,rfl,K.out⟩
theorem alb (g0 P q pw pr:Nat)(F F':Nat→Prop)(w:World)(off:Bool)(x:Pm.Pg)(en b:Int)(vs:Value)(sw:Wl.Ws)(sr:Rl.Rs)(h0:w.cell? ⟨g0,0,none⟩=some (.pointer (some ⟨P,0,none⟩)))(hb:w.heap[P]? =some (.cells (eD q off x (.pointer (some ⟨pw,0,none⟩)) en (.pointer (some ⟨pr,0,none⟩)) vs) 56 (0,0)))(h1:WW pw q F w sw)(h2:RW pr q F' w sr)(hS:∀W,Below w.heap.size w W→Calls Tryz.prog 85 #[.pointer (some ⟨P,0,none⟩)] W fun E w'=>E=.returned (.int .i64 b)∧Below W.heap.size W w'):
  Calls Tryz.prog 38 #[.pointer (some ⟨g0,0,none⟩)] w fun E w'=>E=.returned (.int .i64 (if ql x (Cm.lastE 0 sw.l) en (Cm.lastN 0 sr.l) b=true then 0 else 5))∧Below w.heap.size w w':=by
 have OL:=hide (zb P q pw pr F F' w off x en vs sw sr hb h1 h2)
 have CK:Hid (∀w1,Below w.heap.size w w1→Calls Tryz.prog 40 #[.agg (jm x (Cm.lastE 0 sw.l) en (Cm.lastN 0 sr.l) P)] w1 fun E w'=>E=.returned (.int .i64 (if ql x (Cm.lastE 0 sw.l) en (Cm.lastN 0 sr.l) b=true then 0 else 5))∧Below w1.heap.size w1 w'):=hide fun w1 k=>abq P x _ en _ b w1 fun _ W hW=>hS W (k.trans (hW.mono k.size))
 generalize (if ql x (Cm.lastE 0 sw.l) en (Cm.lastN 0 sr.l) b=true then(0:Int)else 5)=r at*
 clear hb h1 h2 hS
 go_enter Tryz.func38,Tryz.ntmps38
 go_wp2_with fail
 refine OL.out.mono ?_
 rintro E w1 ⟨rfl,b1⟩
 have CK1:=hide (CK.out w1 b1)
 have B1:=hide b1
 clear OL CK b1
 go_wp2_with fail
 refine CK1.out.mono ?_
 rintro E w2 ⟨rfl,b2⟩
 have B2:=hide (B1.out.trans (b2.mono B1.out.size))
 clear CK1 b2 B1
 go_wp2
 go_ret
 exact⟨rfl,B2.out⟩
theorem am8 (p q:Nat)(F:Nat→Prop)(w:World)(st:Dm.Ds)(b e:Int)(h:Pk q F w st)(hs:Big 90000000 700000 st)(ho:st.on=true)(h3:Rst.hf 3 st=[])(h0:w.cell? ⟨p,0,none⟩=some (.pointer (some ⟨q,0,none⟩)))(h7:∀W,Below w.heap.size w W→W.cell? ⟨p,7,none⟩=some (.int .i64 b))(hb:b≤0)(he:1≤e):
  Calls Tryz.prog 180 #[.pointer (some ⟨p,0,none⟩),.int .i64 0,.int .i64 e] w fun E w'=>E=.returned (.int .i64 0)∧Below w.heap.size w w':=by
 have R1:=hide (jw q F w st 3 h (fun f=>Nat.le_trans (hs.1.1 f) (by decide)) (Nat.le_trans hs.1.2.1 (by decide)))
 obtain⟨r1,r2⟩:=aqx ho 3 (by omega)
 have r1:lM st 3=[]:=r1.trans h3
 have r2:kV st 3=0:=r2
 rw[r1,r2]at R1
 have H7:=hide h7
 clear h hs r1 r2 h3 ho h7
 go_enter Tryz.func180,Tryz.ntmps180
 go_wp2_with fail
 refine R1.out.mono ?_
 rintro E w1 ⟨v,rfl,O1,B1⟩
 obtain⟨vs,hsl,eH⟩:=O1.is.jG Tryz.kW Tryz.mq 0 (by simp)
 obtain⟨ao,cap,rfl,_,_⟩:=O1.is.shape
 have S1:=hide (pK vs _ w1 eH (by simp))
 have B1:=hide B1
 clear R1 O1 eH
 have hsl:∀wx,(Instr.slice 79 (.slice ao 0 cap) none (some (.int .i64 0)) none).run Tryz.prog wx=.ok vs wx:=hsl
 simp only[List.length_nil]
 go_wp2_with fail
 refine S1.out.mono ?_
 rintro E w2 ⟨v2,l,n,rfl,X⟩
 obtain⟨x1,x2,x3,x4,x5⟩:=X.out
 have hl:l=[]:=by
  have:=Orp.wu x4 (show Orp.Sn 0 (List.take 0 []) []from Orp.tL (l:=[]) trivial)
  exact List.map_eq_nil_iff.1 this
 subst hl
 obtain rfl:n=0:=by simpa[Orp.secs,iO]using x3
 obtain⟨xg,cap2,rfl,_,_⟩:=x1.is.shape
 have b2:=B1.out.trans (x5.mono B1.out.size)
 have c7:=H7.out w2 b2
 have B2:=hide b2
 clear S1 X x1 x2 x3 x4 x5 b2 H7
 simp only[List.length_nil]
 have L0:∀W,Calls Tryz.prog 210 #[.slice xg 0 cap2] W fun E w'=>E=.returned (.int .i64 0)∧W=w':=fun W=>by
  go_enter Tryz.func210,Tryz.ntmps210
  go_wp2
  go_ret
  exact⟨rfl,rfl⟩
 have h1:¬(0:Int)≥e:=by omega
 have h2:¬(0:Int)<b:=by omega
 go_wp2_with fail
 refine(L0 _).mono ?_
 rintro E w3 ⟨rfl,rfl⟩
 clear L0
 go_wp2
 go_ret
 exact⟨rfl,B2.out⟩
theorem amj (g:Nat)(e f:Int)(v:Value)(rs:List Cw)(w:World)(hg:w.heap[g]? =some (.cells #[.int .i64 e,.int .i64 f,v] 72 (0,0)))(h:dJ w v rs)(hf:dV rs)(hl:rs.length≤2000):
  Calls Tryz.prog 178 #[.pointer (some ⟨g,0,none⟩)] w fun E w'=>E=.returned (.int .i64 (Orp.chk ⟨e,f,az rs⟩))∧Below w.heap.size w w':=by
 have c0:=ai hg 0 rfl
 have c1:=ai hg 1 rfl
 have c2:=ai hg 2 rfl
 have PC:=hide (wY e f v rs w h hf (by omega))
 unfold bT at PC
 obtain⟨ao,cap,rfl,_,_⟩:=h.1.shape
 clear hg h hf hl
 go_enter Tryz.func178,Tryz.ntmps178
 go_wp2_with fail
 refine PC.out.mono ?_
 rintro E w' ⟨rfl,b⟩
 have B:=hide b
 clear b PC
 go_wp2
 go_ret
 exact⟨rfl,B.out⟩
theorem alQ (g3 g4 g5 p:Nat)(e:Int)(w:World)(h3:w.cell? ⟨g3,0,none⟩=some (.pointer (some ⟨p,0,none⟩)))(h4:w.cell? ⟨g4,0,none⟩=some (.int .i64 0))(h5:w.cell? ⟨g5,0,none⟩=some (.int .i64 e))(hs:Calls Tryz.prog 180 #[.pointer (some ⟨p,0,none⟩),.int .i64 0,.int .i64 e] w fun E w'=>E=.returned (.int .i64 0)∧Below w.heap.size w w'):
  Calls Tryz.prog 179 #[.pointer (some ⟨g3,0,none⟩),.pointer (some ⟨g4,0,none⟩),.pointer (some ⟨g5,0,none⟩)] w fun E w'=>E=.returned (.int .i64 0)∧Below w.heap.size w w':=by
 have PC:=hide hs
 clear hs
 go_enter Tryz.func179,Tryz.ntmps179
 go_wp2_with fail
 refine PC.out.mono ?_
 rintro E w' ⟨rfl,b⟩
 have B:=hide b
 clear b PC
 go_wp2
 go_ret
 exact⟨rfl,B.out⟩
theorem alz (g3 g4 g5 p q:Nat)(e f:Int)(ao:Option Addr)(n cap:Nat)(w:World)(X:World→Prop)(h3:w.cell? ⟨g3,0,none⟩=some (.pointer (some ⟨p,0,none⟩)))(h0:w.cell? ⟨p,0,none⟩=some (.pointer (some ⟨q,0,none⟩)))(h4:w.cell? ⟨g4,0,none⟩=some (.int .i64 0))(k0:w.cell? ⟨g5,0,none⟩=some (.int .i64 e))(k1:w.cell? ⟨g5,1,none⟩=some (.int .i64 f))(k2:w.cell? ⟨g5,2,none⟩=some (.slice ao n cap))
  (hs:Calls Tryz.prog 182 #[.pointer (some ⟨q,0,none⟩),.int .i64 0,.agg #[.int .i64 e,.int .i64 f,.slice ao n cap]] w.drew fun E w'=>E=.returned (.int .i64 0)∧X w')
  (hX:∀w',X w'→w'.cell? ⟨g3,0,none⟩=some (.pointer (some ⟨p,0,none⟩))∧w'.cell? ⟨p,0,none⟩=some (.pointer (some ⟨q,0,none⟩))∧w'.cell? ⟨g4,0,none⟩=some (.int .i64 0)∧w'.cell? ⟨g5,0,none⟩=some (.int .i64 e)∧w'.cell? ⟨g5,1,none⟩=some (.int .i64 f)∧w'.cell? ⟨g5,2,none⟩=some (.slice ao n cap)):
  Calls Tryz.prog 181 #[.pointer (some ⟨g3,0,none⟩),.pointer (some ⟨g4,0,none⟩),.pointer (some ⟨g5,0,none⟩)] w fun E w'=>E=.returned (.int .i64 0)∧X w':=by
 have PC:=hide hs
 have HX:=hide hX
 clear hs hX
 go_enter Tryz.func181,Tryz.ntmps181
 go_wp2_with fail
 go_region_held3 (fun w'=>w'.cell? ⟨g3,0,none⟩=some (.pointer (some ⟨p,0,none⟩))∧w'.cell? ⟨p,0,none⟩=some (.pointer (some ⟨q,0,none⟩))∧w'.cell? ⟨g4,0,none⟩=some (.int .i64 0)∧w'.cell? ⟨g5,0,none⟩=some (.int .i64 e)∧w'.cell? ⟨g5,1,none⟩=some (.int .i64 f)∧w'.cell? ⟨g5,2,none⟩=some (.slice ao n cap)) (first|exact⟨h3,h0,h4,k0,k1,k2⟩|exact hK|go_keep)
  (first
  |(go_at_call 182;refine PC.out.mono ?_;rintro E w' ⟨rfl,k⟩;have hK:=HX.out _ k;have K:=hide k;clear k))
 go_wp2
 go_ret
 exact⟨rfl,K.out⟩
theorem akg (p q:Nat)(F:Nat→Prop)(w:World)(s:Rst.St)(h:PS p q F w s)(hR:o9 s)(h0:¬F 0)(dR:Rst.asked s=false)(h3:Rst.hf 3 s.d=[])(hpb:s.p.b≤0)(e f:Int)(v:Value)(rs:List Cw)(hc:∀W,Out F w W→dJ W v rs)(hf:dV rs)(hl:rs.length≤2000)(he:1≤e)(hck:Orp.chk ⟨e,f,az rs⟩=0)(hwr:(Orp.dM s.d 0 ⟨e,f,az rs⟩).1=0):
  Calls Tryz.prog 140 #[.pointer (some ⟨p,0,none⟩),.int .i64 0,bT e f v] w fun E w'=>E=.returned (.int .i64 0)∧bM p q F w w' ⟨(Orp.dM s.d 0 ⟨e,f,az rs⟩).2,s.p,s.l,s.r,s.off⟩:=by
 have qP:∀(fn:Fn) (first cap:Array Value) (w:World),(Instr.makeFunc fn first cap).run Tryz.prog w=.ok (.func fn first cap) w:=fun _ _ _ _=>rfl
 obtain⟨ao,cap,rfl,_,_⟩:=(hc w (Out.refl _ _)).1.shape
 obtain⟨w1,hw1,s1,b1,P1⟩:=ak w #[.pointer (some ⟨p,0,none⟩)] 22
 obtain⟨wa,hwa,sa,ba,Pa⟩:=ak w1 #[.int .i64 0] 3
 obtain⟨w2,hw2,s2,b2,P2⟩:=ak wa #[.int .i64 e,.int .i64 f,.slice ao rs.length cap] 72
 obtain⟨w3,hw3,s3,b3,P3⟩:=ak w2 #[.func (.func 58) #[.pointer (some ⟨p,0,none⟩)] #[],.func (.func 178) #[] #[.pointer (some ⟨w.heap.size+2,0,none⟩)],.func (.func 179) #[] #[.pointer (some ⟨w.heap.size,0,none⟩),.pointer (some ⟨w.heap.size+1,0,none⟩),.pointer (some ⟨w.heap.size+2,0,none⟩)],.func (.func 181) #[] #[.pointer (some ⟨w.heap.size,0,none⟩),.pointer (some ⟨w.heap.size+1,0,none⟩),.pointer (some ⟨w.heap.size+2,0,none⟩)]] 132
 have za:wa.heap.size=w.heap.size+2:=by omega
 have z2:w2.heap.size=w.heap.size+3:=by omega
 have z3:w3.heap.size=w.heap.size+4:=by omega
 rw[s1]at Pa
 rw[za]at P2
 rw[z2]at P3
 have fo:Below w.heap.size w w3:=((b1.trans (ba.mono (by omega))).trans (b2.mono (by omega))).trans (b3.mono (by omega))
 have c2:w2.cell? ⟨w.heap.size,0,none⟩=some (.pointer (some ⟨p,0,none⟩)):=ai ((b2.block _ (by omega)).trans ((ba.block _ (by omega)).trans P1)) 0 rfl
 have t3:=(b3.block _ (by omega)).trans ((b2.block _ (by omega)).trans ((ba.block _ (by omega)).trans P1))
 have y3:=(b3.block _ (by omega)).trans ((b2.block _ (by omega)).trans Pa)
 have u3:=(b3.block _ (by omega)).trans P2
 have pq:=h.below fo
 have hon:s.d.on=true:=by
  unfold Rst.asked at dR
  revert dR
  cases s.d.on<;>simp
 obtain⟨r,hr⟩:∃r:Int×Rst.St,r=(0,⟨(Orp.dM s.d 0 ⟨e,f,az rs⟩).2,s.p,s.l,s.r,s.off⟩):=⟨_,rfl⟩
 have RUN:Run (w.heap.size+3) (QS p q F w r) [.func (.func 58) #[.pointer (some ⟨p,0,none⟩)] #[],.func (.func 178) #[] #[.pointer (some ⟨w.heap.size+2,0,none⟩)],.func (.func 179) #[] #[.pointer (some ⟨w.heap.size,0,none⟩),.pointer (some ⟨w.heap.size+1,0,none⟩),.pointer (some ⟨w.heap.size+2,0,none⟩)],.func (.func 181) #[] #[.pointer (some ⟨w.heap.size,0,none⟩),.pointer (some ⟨w.heap.size+1,0,none⟩),.pointer (some ⟨w.heap.size+2,0,none⟩)]] w3:=by
  refine vg pq (bM.same h fo) (fun k=>by rw[dR]at k;cases k) fun _=>?_
  refine Run.cons (enters_of Tryz.func178 (by kernel_rfl) rfl) (by simp) ((amj _ e f _ rs w3 u3 (hc w3 (Out.of_below fo)) hf hl).mono ?_)
  rintro E w4 ⟨rfl,b4⟩
  have wM:=fo.trans (b4.mono (by omega))
  have z4:=b4.size
  rw[hck]
  refine⟨_,rfl,b4.block _ (by omega),.inr ⟨rfl,?_⟩⟩
  obtain⟨_,vw4,vr4,vs4,hb4⟩:=(h.below wM).at
  have RM:Calls Tryz.prog 180 #[.pointer (some ⟨p,0,none⟩),.int .i64 0,.int .i64 e] w4 fun E w'=>E=.returned (.int .i64 0)∧Below w4.heap.size w4 w':=by
   obtain⟨F1,h1,_⟩:=(h.below wM).disk h0
   exact am8 p q F1 w4 s.d s.p.b e h1 (hR.1.mono (by decide) (by decide)) hon h3 (ai hb4 0 rfl) (fun W hW=>ai ((hW.block p (ax hb4)).trans hb4) 7 rfl) hpb he
  refine Run.cons (enters_of Tryz.func179 (by kernel_rfl) rfl) (by simp) ((alQ _ _ _ p e w4 (ai ((b4.block _ (by omega)).trans t3) 0 rfl) (ai ((b4.block _ (by omega)).trans y3) 0 rfl) (ai ((b4.block _ (by omega)).trans u3) 0 rfl) RM).mono ?_)
  rintro E w5 ⟨rfl,b5⟩
  have qx:=wM.trans (b5.mono (by omega))
  have z5:=b5.size
  refine⟨_,rfl,b5.block _ (by omega),.inr ⟨rfl,?_⟩⟩
  have b5d:Below w.heap.size w w5.drew:=qx.drew
  obtain⟨_,vw5,vr5,vs5,hb5⟩:=(h.below qx).at
  obtain⟨F2,j1,j2,j3⟩:=(h.below b5d).disk h0
  have WR:=agp q F2 w5.drew s.d 0 e f _ rs (fun W k=>hc W ((Out.of_below b5d).trans (k.mono fun g hg=>.inl (j2 g hg)) fun g hg=>.inl hg)) hf hl j1 _ _ hR.1 (by decide) (by decide)
  rw[hwr]at WR
  unfold bT at WR
  generalize (Orp.dM s.d 0 ⟨e,f,az rs⟩).2=d' at*
  have kP:∀g,w.heap.size≤g→¬F2 g:=fun g hg k=>by
   have:=h.lt g (j2 g k)
   omega
  have OUT:∀w',aY q F2 w5.drew w' d'→(∀g,w.heap.size≤g→g<w5.heap.size→w'.heap[g]? =w5.heap[g]?)∧w'.cell? ⟨p,0,none⟩=some (.pointer (some ⟨q,0,none⟩)):=fun w' k=>by
   refine⟨?_,?_⟩
   ·obtain⟨_,_,k2,_⟩:=k
    exact fun g h1 h2=>k2.block g h2 (kP g h1)
   ·obtain⟨F3,k,_⟩:=j3 _ _ k
    obtain⟨_,_,_,_,hb⟩:=k.at
    exact ai hb 0 rfl
  have t5:=(b5.block _ (by omega)).trans ((b4.block _ (by omega)).trans t3)
  have y5:=(b5.block _ (by omega)).trans ((b4.block _ (by omega)).trans y3)
  have u5:=(b5.block _ (by omega)).trans ((b4.block _ (by omega)).trans u3)
  refine Run.cons (enters_of Tryz.func181 (by kernel_rfl) rfl) (by simp) ((alz _ _ _ p q e f ao _ cap w5 (fun w'=>aY q F2 w5.drew w' d') (ai t5 0 rfl) (ai hb5 0 rfl) (ai y5 0 rfl) (ai u5 0 rfl) (ai u5 1 rfl) (ai u5 2 rfl) WR (fun w' k=>by
   obtain⟨o1,o2⟩:=OUT w' k
   have t6:=(o1 _ (by omega) (by omega)).trans t5
   have y6:=(o1 _ (by omega) (by omega)).trans y5
   have u6:=(o1 _ (by omega) (by omega)).trans u5
   exact⟨ai t6 0 rfl,o2,ai y6 0 rfl,ai u6 0 rfl,ai u6 1 rfl,ai u6 2 rfl⟩)).mono ?_)
  rintro E w6 ⟨rfl,k⟩
  exact⟨_,rfl,(OUT _ k).1 _ (by omega) (by omega),.inr ⟨rfl,QS.no hr (by decide) ((j3 _ _ k).pre b5d)⟩⟩
 have HC:=hide (yn (n:=4) rfl (by omega) P3 RUN)
 subst hr
 clear RUN h hR h3 hc hf b1 ba b2 b3 P1 Pa P2 P3 s2 s3 z3 fo t3 u3 y3 pq
 unfold bT
 go_enter Tryz.func140,Tryz.ntmps140
 go_wp2_with fail
 refine HC.out.mono ?_
 rintro E w' ⟨rfl,X⟩
 have X:=hide X
 clear HC
 go_wp2
 go_ret
 exact⟨rfl,X.out⟩
theorem sO {base:Nat}{F:Nat→Prop}{w w':World}{v:Value}{rs:List Cw}(h1:bD 65 base w v rs)(h2:dZ base w rs)(ho:Out F w w')(hF:∀g,F g→g<base):bD 65 base w' v rs∧dZ base w' rs:=by
 refine⟨dm h1 fun b hb=>?_,fun c hc=>dm (h2 c hc) fun b hb=>?_⟩
 ·have:=World.ownsRow.lt h1 b hb
  exact ho.block b this.2 fun e=>by have:=hF b e;omega
 ·have:=World.ownsRow.lt (h2 c hc) b hb
  exact ho.block b this.2 fun e=>by have:=hF b e;omega
def ajk (B:Nat) (W:World) (l:List Cm.Cv) (x:Pm.Pg) (se sf:Int) (sa:Option Addr) (sn sk:Nat) (sm:Bool):Prop:=
 (x.f=l.length∧sm=false)∨(x.f<l.length∧sm=true∧se=x.e∧sf=x.f∧∃rs,bD 65 B W (.slice sa sn sk) rs∧dZ B W rs∧az rs=l.drop x.f.toNat)
theorem ajk.below {B:Nat}{W W':World}{l:List Cm.Cv}{x:Pm.Pg}{se sf:Int}{sa:Option Addr}{sn sk:Nat}{sm:Bool}(h:ajk B W l x se sf sa sn sk sm)(hb:Below W.heap.size W W'):ajk B W' l x se sf sa sn sk sm:=by
 rcases h with h|⟨h1,h2,h3,h4,rs,h5,h6,h7⟩
 ·exact .inl h
 ·exact .inr ⟨h1,h2,h3,h4,rs,h5.below hb,h6.below hb,h7⟩
theorem bM.res {p q R:Nat}{F:Nat→Prop}{w wc w7 w8 V:World}{s1:Rst.St}(hw:Below w.heap.size w wc)(k:bM p q F wc w7 s1)(hb:Below w7.heap.size w7 w8)(hg:w8.grownBy V (some R))(hR0:w.heap.size≤R)(hR:R<wc.heap.size)(hF:¬F R)(hp:0<w.heap.size):bM p q F w V s1:=by
 obtain⟨F',k1,k2,k3⟩:=k
 have oV:Out (fun g=>g=R) w8 V:=Out.aV hg fun g e=>by simpa using e.symm
 have k8:=k1.below hb
 have o8:Out F w w8:=((Out.of_below hw).trans k2 fun g e=>.inl e).trans (Out.of_below hb (F:=F)) fun g e=>.inl e
 have nR:∀g,F' g→g≠R:=fun g e h=>by
  subst h
  rcases k3 g e with e|e
  ·exact hF e
  ·omega
 refine⟨F',k8.agree (fun g e=>oV.block g (k8.lt g e) (nR g e)) oV.size (gI k8.gG oV fun e=>?_),o8.trans oV fun g e=>.inr (by omega),fun g e=>(k3 g e).imp id fun e=>by have:=hw.size;omega⟩
 have e:0=R:=e
 omega
theorem al4 (p q:Nat)(F:Nat→Prop)(w:World)(s:Rst.St)(h:PS p q F w s)(hR:o9 s)(h0:¬F 0)(dR:Rst.asked s=false)(hg:Cm.Good 0 0 s.l)(hl:s.l.length≤1000)(h3:Rst.hf 3 s.d=[])(as3:s.p.b≤0)(x:Pm.Pg)(hx:eT x)(hxk:Pm.chk x=0)(hp:x.p=2)(hxb:x.b=0)(he:1≤x.e)(hf0:0≤x.f)(jq:x.f≤s.l.length)
  (hck:x.f<s.l.length→Orp.chk ⟨x.e,x.f,s.l.drop x.f.toNat⟩=0∧(Orp.dM s.d 0 ⟨x.e,x.f,s.l.drop x.f.toNat⟩).1=0):
  Calls Tryz.prog 91 #[.pointer (some ⟨p,0,none⟩),vp x] w fun E w'=>E=.returned (.tuple #[vp (Rol.nx x 2 3),.int .i64 (Rol.gP x 2)])∧bM p q F w w' (if x.f<s.l.length then⟨(Orp.dM s.d 0 ⟨x.e,x.f,s.l.drop x.f.toNat⟩).2,s.p,s.l,s.r,s.off⟩else s):=by
 obtain⟨w1,hw1,s1,b1,P1⟩:=ak w (cp x) 35
 obtain⟨w2,hw2,s2,b2,P2⟩:=ak w1 #[.int .i64 0,.int .u8 0,.int .i64 0,.int .u8 0,.int .i64 0,.int .i64 0] 35
 rw[s1]at P2
 have z2:w2.heap.size=w.heap.size+2:=by omega
 have b02:Below w.heap.size w w2:=b1.trans (b2.mono (by omega))
 have fD:=(b2.block w.heap.size (by omega)).trans P1
 have SX:Hid (∀W,Below w2.heap.size w2 W→W.cell? ⟨w.heap.size,0,none⟩=some (.int .i64 x.e)∧W.cell? ⟨w.heap.size,1,none⟩=some (.int .u8 x.r)∧W.cell? ⟨w.heap.size,2,none⟩=some (.int .i64 x.a)∧W.cell? ⟨w.heap.size,3,none⟩=some (.int .u8 x.p)∧W.cell? ⟨w.heap.size,4,none⟩=some (.int .i64 x.f)∧W.cell? ⟨w.heap.size,5,none⟩=some (.int .i64 x.b)):=hide fun W hW=>by
  obtain⟨c0,c1,c2,c3,c4,c5⟩:=aN ((hW.block _ (by omega)).trans fD)
  exact⟨c0,c1,c2,c3,c4,c5⟩
 have HV:Hid (∀y:Pm.Pg,vp y=.agg #[.int .i64 y.e,.int .u8 y.r,.int .i64 y.a,.int .u8 y.p,.int .i64 y.f,.int .i64 y.b]):=hide fun _=>rfl
 obtain⟨LG,hLG⟩:∃LG:World→Option Addr→Nat→Nat→List Cw→Prop,LG=fun W a n k rs=>dJ W (.slice a n k) rs∧dV rs∧az rs=s.l:=⟨_,rfl⟩
 have LGB:Hid (∀W W' a n k rs,LG W a n k rs→Below W.heap.size W W'→LG W' a n k rs):=hide fun W W' a n k rs k1 hb=>by
  subst hLG
  exact⟨k1.1.below hb,k1.2⟩
 obtain⟨LS,hLS⟩:∃LS:World→Int→Int→Option Addr→Nat→Nat→Bool→Prop,LS=fun W se sf sa sn sk sm=>ajk w2.heap.size W s.l x se sf sa sn sk sm:=⟨_,rfl⟩
 have LSB:Hid (∀W W' se sf sa sn sk sm,LS W se sf sa sn sk sm→Below W.heap.size W W'→LS W' se sf sa sn sk sm):=hide fun W W' se sf sa sn sk sm k1 hb=>by
  subst hLS
  exact k1.below hb
 have HL:Hid (∀W,Below w2.heap.size w2 W→Calls Tryz.prog 22 #[.pointer (some ⟨p,0,none⟩)] W fun E w'=>∃a n k rs,E=.returned (.slice a n k)∧LG w' a n k rs∧Below W.heap.size W w'):=hide fun W hW=>by
  subst hLG
  refine(afp p q F W s (h.below (b02.trans (hW.mono (by omega)))) hR).mono ?_
  rintro E w' ⟨v,rs,rfl,sh,e,b⟩
  obtain⟨a,k,hv,_,_⟩:=sh.isC.1.shape
  subst hv
  exact⟨a,_,k,rs,rfl,⟨sh.isC,sh.f,e⟩,b⟩
 have HO:Hid (∀W,Below w2.heap.size w2 W→∀a n k rs,LG W a n k rs→Calls Tryz.prog 21 #[.slice a n k,vp x] W fun E w'=>∃se sf sa sn sk sm,E=.returned (.tuple #[.agg #[.int .i64 se,.int .i64 sf,.slice sa sn sk],.bool sm,.int .i64 0])∧LS w' se sf sa sn sk sm∧Below W.heap.size W w'):=hide fun W hW a n k rs k1=>by
  subst hLG hLS
  obtain⟨k1,k2,k3⟩:=k1
  have hlr:rs.length=s.l.length:=by rw[←k3];unfold az;rw[List.length_map]
  refine(akR _ rs x W k1 k2 (by omega) (by rw[k3];exact hg) hx hxk hp (h.gG.below (b02.trans (hW.mono (by omega)))) hf0 (by omega)).mono ?_
  rintro E w' (⟨e,rfl,b⟩|⟨e,a',n',k',rs',rfl,o,b⟩)
  ·exact⟨_,_,_,_,_,_,rfl,.inl ⟨by omega,rfl⟩,b⟩
  ·refine⟨_,_,_,_,_,_,rfl,.inr ⟨by omega,rfl,rfl,rfl,rs',ma o.out.1 hW.size,fun c hc=>(o.out.2.1 c hc).bB hW.size,?_⟩,b⟩
   rw[o.out.2.2,k3]
 rw[HV.out x]at HO
 have FIN:Hid (∀W X V (cs:Array Value) se sf sa sn sk sm,Below w2.heap.size w2 W→LS W se sf sa sn sk sm→w2.heap.size≤X→W.heap[X]? =some (.cells cs 72 (0,0))→V.heap[X]? =some (.cells #[.int .i64 se,.int .i64 sf,.slice sa sn sk] 72 (0,0))→W.grownBy V (some X)→(V.cell? ⟨w.heap.size,0,none⟩=some (.int .i64 x.e)∧V.cell? ⟨w.heap.size,1,none⟩=some (.int .u8 x.r)∧V.cell? ⟨w.heap.size,2,none⟩=some (.int .i64 x.a)∧V.cell? ⟨w.heap.size,3,none⟩=some (.int .u8 x.p)∧V.cell? ⟨w.heap.size,4,none⟩=some (.int .i64 x.f)∧V.cell? ⟨w.heap.size,5,none⟩=some (.int .i64 x.b))∧Below w2.heap.size w2 V∧LS V se sf sa sn sk sm∧V.heap[X]? =some (.cells #[.int .i64 se,.int .i64 sf,.slice sa sn sk] 72 (0,0))):=hide fun W X V cs se sf sa sn sk sm hW k hX qX pV gV=>by
  have bV:Below w2.heap.size w2 V:=aD hW gV hX hW.size
  refine⟨SX.out V bV,bV,?_,pV⟩
  subst hLS
  rcases k with k|⟨k1,k2,k3,k4,rs,k5,k6,k7⟩
  ·exact .inl k
  ·have kp:bK 72 W V:=wO qX gV
   exact .inr ⟨k1,k2,k3,k4,rs,rq k5 kp (by decide),fun c hc=>(k6 c hc).iN kp (by decide),k7⟩
 have HH:=hide (And.intro h (And.intro hR (And.intro h0 (And.intro dR (And.intro h3 (And.intro as3 (And.intro hx (And.intro hxb (And.intro he hck)))))))))
 have HG:=hide (And.intro hg (And.intro hf0 (And.intro jq hl)))
 have HLS:=hide hLS
 have B2:=hide (And.intro b02 P2)
 obtain⟨y,hy⟩:∃y,Rol.nx x 2 3=y:=⟨_,rfl⟩
 obtain⟨ye,hye⟩:∃ye,Rol.gP x 2=ye:=⟨_,rfl⟩
 obtain⟨s',hs'⟩:∃s',(if x.f<s.l.length then(⟨(Orp.dM s.d 0 ⟨x.e,x.f,s.l.drop x.f.toNat⟩).2,s.p,s.l,s.r,s.off⟩:Rst.St)else s)=s':=⟨_,rfl⟩
 rw[hy,hye,hs',HV.out x,HV.out]
 have HY:=hide (And.intro hy (And.intro hye hs'))
 have afM:Hid (∀W,W.heap[w.heap.size+1]? =some (.cells #[.int .i64 0,.int .u8 0,.int .i64 0,.int .u8 0,.int .i64 0,.int .i64 0] 35 (0,0))→fQ W→Calls Tryz.prog 141 #[vp x] W fun E w'=>E=.returned (.tuple #[vp y,.int .i64 ye])∧Below W.heap.size W w'):=hide fun W _ hm=>by
  rw[←hy,←hye]
  exact ajK x W hx hm
 rw[HV.out x,HV.out]at afM
 unfold cp at hw1
 clear h hR h0 dR h3 as3 hx hxk hp hxb he hck hg hf0 jq hl b1 b2 P1 P2 fD b02 hLG hLS hy hye hs'
 go_enter Tryz.func91,Tryz.ntmps91
 go_wp2_with fail
 go_cut [6,7,8]from 9 to 16 (fun v6 v7 v8 wx=>∃X se sf sa sn sk sm,v6=.pointer (some ⟨X,0,none⟩)∧v7=.bool sm∧v8=.int .i64 0∧Hid (Below w2.heap.size w2 wx∧LS wx se sf sa sn sk sm∧wx.heap[X]? =some (.cells #[.int .i64 se,.int .i64 sf,.slice sa sn sk] 72 (0,0))))
 case first=>
  obtain⟨W0,hW0⟩:∃x,w2.drew=x:=⟨_,rfl⟩
  have D0:Hid (Below w2.heap.size w2 W0):=hide (by rw[←hW0];exact(Below.refl _ _).drew)
  refine mH (ops:=(aA 1 Tryz.f91)) (S:=fun W=>W.cell? ⟨w.heap.size,0,none⟩=some (.int .i64 x.e)∧W.cell? ⟨w.heap.size,1,none⟩=some (.int .u8 x.r)∧W.cell? ⟨w.heap.size,2,none⟩=some (.int .i64 x.a)∧W.cell? ⟨w.heap.size,3,none⟩=some (.int .u8 x.p)∧W.cell? ⟨w.heap.size,4,none⟩=some (.int .i64 x.f)∧W.cell? ⟨w.heap.size,5,none⟩=some (.int .i64 x.b)) (by kernel_rfl) ao6 ?_
  rw[arU,hW0]
  refine aJ (v:=?_) anL (by kernel_rfl) (fun _ _ _ _ _ h=>h) (SX.out _ D0.out) rfl rfl (by rfl) ?_ ?_
  rotate_left 1
  ·intro w hS
   (try dsimp only at hS)
   go_simp
   all_goals with_reducible rfl
  simp only[Act.put,List.setIfInBounds_toArray,List.set_cons_zero,List.set_cons_succ]
  refine aJ (v:=?_) amv (by kernel_rfl) (fun _ _ _ _ _ h=>h) (SX.out _ D0.out) rfl rfl (by rfl) ?_ ?_
  rotate_left 1
  ·intro w hS
   (try dsimp only at hS)
   go_simp
   all_goals with_reducible rfl
  simp only[Act.put,List.setIfInBounds_toArray,List.set_cons_zero,List.set_cons_succ]
  refine iq av3 ?_ ?_
  ·refine aK rfl (by rfl) (fun K hK=>?_)
   go_simp
   refine(HL.out _ D0.out).mono ?_
   rintro E U1 ⟨la,ln,lk,lr,rfl,lg1,bU1⟩
   have D1:=hide (D0.out.trans (bU1.mono D0.out.size))
   have L1:=hide lg1
   clear bU1 lg1
   go_wp2_with fail
   refine hK.out _ _ (SX.out _ D1.out) ?_
   clear hK K
   try simp only[Act.put,List.setIfInBounds_toArray,List.set_cons_zero,List.set_cons_succ]
   refine iq awe ?_ ?_
   ·refine aK rfl (by rfl) (fun K hK=>?_)
    go_simp
    refine(HO.out _ D1.out _ _ _ _ L1.out).mono ?_
    rintro E U2 ⟨se,sf,sa,sn,sk,sm,rfl,ls2,bU2⟩
    have D2:=hide (D1.out.trans (bU2.mono D1.out.size))
    have R2:=hide ls2
    clear bU2 ls2
    go_wp2_with fail
    refine hK.out _ _ (SX.out _ D2.out) ?_
    clear hK K
    try simp only[Act.put,List.setIfInBounds_toArray,List.set_cons_zero,List.set_cons_succ]
    refine aJ (v:=?_) alP (by kernel_rfl) (fun _ _ _ _ _ h=>h) (SX.out _ D2.out) rfl rfl (by rfl) ?_ ?_
    rotate_left 1
    ·intro w hS
     (try dsimp only at hS)
     go_simp
     all_goals with_reducible rfl
    simp only[Act.put,List.setIfInBounds_toArray,List.set_cons_zero,List.set_cons_succ]
    refine aJ (v:=?_) alV (by kernel_rfl) (fun _ _ _ _ _ h=>h) (SX.out _ D2.out) rfl rfl (by rfl) ?_ ?_
    rotate_left 1
    ·intro w hS
     (try dsimp only at hS)
     go_simp
     all_goals with_reducible rfl
    simp only[Act.put,List.setIfInBounds_toArray,List.set_cons_zero,List.set_cons_succ]
    refine aJ (v:=?_) akc (by kernel_rfl) (fun _ _ _ _ _ h=>h) (SX.out _ D2.out) rfl rfl (by rfl) ?_ ?_
    rotate_left 1
    ·intro w hS
     (try dsimp only at hS)
     go_simp
     all_goals with_reducible rfl
    simp only[Act.put,List.setIfInBounds_toArray,List.set_cons_zero,List.set_cons_succ]
    refine aJ (v:=?_) ai6 (by kernel_rfl) (fun _ _ _ _ _ h=>h) (SX.out _ D2.out) rfl rfl (by rfl) ?_ ?_
    rotate_left 1
    ·intro w hS
     (try dsimp only at hS)
     go_simp
     all_goals with_reducible rfl
    simp only[Act.put,List.setIfInBounds_toArray,List.set_cons_zero,List.set_cons_succ]
    refine aS anj ?_
    obtain⟨U3,hU3,sU3,bU3,qU3⟩:=ak U2 #[.int .i64 0,.int .i64 0,.slice none 0 0] 72
    have D3:=hide (D2.out.trans (bU3.mono D2.out.size))
    have R3:=hide (LSB.out _ _ _ _ _ _ _ _ R2.out bU3)
    have Q3:=hide qU3
    have GX:=hide (D2.out.size)
    clear bU3 qU3
    refine aK rfl (by rfl) (fun K hK=>?_)
    go_simp
    go_wp2_with fail
    refine hK.out _ _ (SX.out _ D3.out) ?_
    clear hK K
    try simp only[Act.put,List.setIfInBounds_toArray,List.set_cons_zero,List.set_cons_succ]
    refine aS zZ ?_
    obtain⟨V,hV,pV,gV,⟨y0,y1,y2⟩,⟨z0,z1,z2⟩,u0,u1,u2⟩:=dP Q3.out (.int .i64 se) (.int .i64 sf) (.slice sa sn sk)
    have FV:=hide (FIN.out _ _ _ _ _ _ _ _ _ _ D3.out R3.out GX.out Q3.out pV gV)
    clear gV pV
    refine aK rfl (by rfl) (fun K hK=>?_)
    go_simp
    go_wp2_with fail
    refine hK.out _ _ FV.out.1 ?_
    clear hK K
    try simp only[Act.put,List.setIfInBounds_toArray,List.set_cons_zero,List.set_cons_succ]
    refine aJ (v:=?_) qI (by kernel_rfl) (fun _ _ _ _ _ h=>h) FV.out.1 rfl rfl (by rfl) ?_ ?_
    rotate_left 1
    ·intro w hS
     (try dsimp only at hS)
     go_simp
     all_goals with_reducible rfl
    simp only[Act.put,List.setIfInBounds_toArray,List.set_cons_zero,List.set_cons_succ]
    refine aJ (v:=?_) qA (by kernel_rfl) (fun _ _ _ _ _ h=>h) FV.out.1 rfl rfl (by rfl) ?_ ?_
    rotate_left 1
    ·intro w hS
     (try dsimp only at hS)
     go_simp
     all_goals with_reducible rfl
    simp only[Act.put,List.setIfInBounds_toArray,List.set_cons_zero,List.set_cons_succ]
    refine dz abH ?_
    go_wp2_with fail
    go_meet
    case rel=>exact⟨_,se,sf,sa,sn,sk,sm,rfl,rfl,rfl,hide FV.out.2⟩
   ·obtain⟨U5,hU5,sU5,bU5,qU5⟩:=ak U1 #[.int .i64 0,.int .i64 0,.slice none 0 0] 72
    have D5:=hide (D1.out.trans (bU5.mono D1.out.size))
    have L5:=hide (LGB.out _ _ _ _ _ _ L1.out bU5)
    have Q5:=hide qU5
    have GX:=hide (D1.out.size)
    clear bU5 qU5
    refine aK rfl (by rfl) (fun K hK=>?_)
    go_simp
    go_wp2_with fail
    refine hK.out _ _ (SX.out _ D5.out) ?_
    clear hK K
    try simp only[Act.put,List.setIfInBounds_toArray,List.set_cons_zero,List.set_cons_succ]
    refine aS afG ?_
    refine aK rfl (by rfl) (fun K hK=>?_)
    go_simp
    refine(HO.out _ D5.out _ _ _ _ L5.out).mono ?_
    rintro E U6 ⟨se,sf,sa,sn,sk,sm,rfl,ls6,bU6⟩
    have D6:=hide (D5.out.trans (bU6.mono D5.out.size))
    have Q6:=hide ((bU6.block _ (ax Q5.out)).trans Q5.out)
    have R6:=hide ls6
    clear bU6 ls6
    go_wp2_with fail
    refine hK.out _ _ (SX.out _ D6.out) ?_
    clear hK K
    try simp only[Act.put,List.setIfInBounds_toArray,List.set_cons_zero,List.set_cons_succ]
    refine aJ (v:=?_) aa4 (by kernel_rfl) (fun _ _ _ _ _ h=>h) (SX.out _ D6.out) rfl rfl (by rfl) ?_ ?_
    rotate_left 1
    ·intro w hS
     (try dsimp only at hS)
     go_simp
     all_goals with_reducible rfl
    simp only[Act.put,List.setIfInBounds_toArray,List.set_cons_zero,List.set_cons_succ]
    refine aJ (v:=?_) aba (by kernel_rfl) (fun _ _ _ _ _ h=>h) (SX.out _ D6.out) rfl rfl (by rfl) ?_ ?_
    rotate_left 1
    ·intro w hS
     (try dsimp only at hS)
     go_simp
     all_goals with_reducible rfl
    simp only[Act.put,List.setIfInBounds_toArray,List.set_cons_zero,List.set_cons_succ]
    refine aJ (v:=?_) aaP (by kernel_rfl) (fun _ _ _ _ _ h=>h) (SX.out _ D6.out) rfl rfl (by rfl) ?_ ?_
    rotate_left 1
    ·intro w hS
     (try dsimp only at hS)
     go_simp
     all_goals with_reducible rfl
    simp only[Act.put,List.setIfInBounds_toArray,List.set_cons_zero,List.set_cons_succ]
    refine aJ (v:=?_) aaz (by kernel_rfl) (fun _ _ _ _ _ h=>h) (SX.out _ D6.out) rfl rfl (by rfl) ?_ ?_
    rotate_left 1
    ·intro w hS
     (try dsimp only at hS)
     go_simp
     all_goals with_reducible rfl
    simp only[Act.put,List.setIfInBounds_toArray,List.set_cons_zero,List.set_cons_succ]
    refine aS zZ ?_
    obtain⟨V,hV,pV,gV,⟨y0,y1,y2⟩,⟨z0,z1,z2⟩,u0,u1,u2⟩:=dP Q6.out (.int .i64 se) (.int .i64 sf) (.slice sa sn sk)
    have FV:=hide (FIN.out _ _ _ _ _ _ _ _ _ _ D6.out R6.out GX.out Q6.out pV gV)
    clear gV pV
    refine aK rfl (by rfl) (fun K hK=>?_)
    go_simp
    go_wp2_with fail
    refine hK.out _ _ FV.out.1 ?_
    clear hK K
    try simp only[Act.put,List.setIfInBounds_toArray,List.set_cons_zero,List.set_cons_succ]
    refine aJ (v:=?_) qI (by kernel_rfl) (fun _ _ _ _ _ h=>h) FV.out.1 rfl rfl (by rfl) ?_ ?_
    rotate_left 1
    ·intro w hS
     (try dsimp only at hS)
     go_simp
     all_goals with_reducible rfl
    simp only[Act.put,List.setIfInBounds_toArray,List.set_cons_zero,List.set_cons_succ]
    refine aJ (v:=?_) qA (by kernel_rfl) (fun _ _ _ _ _ h=>h) FV.out.1 rfl rfl (by rfl) ?_ ?_
    rotate_left 1
    ·intro w hS
     (try dsimp only at hS)
     go_simp
     all_goals with_reducible rfl
    simp only[Act.put,List.setIfInBounds_toArray,List.set_cons_zero,List.set_cons_succ]
    refine dz abH ?_
    go_wp2_with fail
    go_meet
    case rel=>exact⟨_,se,sf,sa,sn,sk,sm,rfl,rfl,rfl,hide FV.out.2⟩
  ·obtain⟨U8,hU8,sU8,bU8,qU8⟩:=ak W0 #[.int .i64 0,.int .i64 0,.slice none 0 0] 72
   have D8:=hide (D0.out.trans (bU8.mono D0.out.size))
   have Q8:=hide qU8
   have GX:=hide (D0.out.size)
   clear bU8 qU8
   refine aK rfl (by rfl) (fun K hK=>?_)
   go_simp
   go_wp2_with fail
   refine hK.out _ _ (SX.out _ D8.out) ?_
   clear hK K
   try simp only[Act.put,List.setIfInBounds_toArray,List.set_cons_zero,List.set_cons_succ]
   refine aS aoU ?_
   refine aK rfl (by rfl) (fun K hK=>?_)
   go_simp
   refine(HL.out _ D8.out).mono ?_
   rintro E U9 ⟨la,ln,lk,lr,rfl,lg9,bU9⟩
   have D9:=hide (D8.out.trans (bU9.mono D8.out.size))
   have Q9:=hide ((bU9.block _ (ax Q8.out)).trans Q8.out)
   have L9:=hide lg9
   clear bU9 lg9
   go_wp2_with fail
   refine hK.out _ _ (SX.out _ D9.out) ?_
   clear hK K
   try simp only[Act.put,List.setIfInBounds_toArray,List.set_cons_zero,List.set_cons_succ]
   refine aS afG ?_
   refine aK rfl (by rfl) (fun K hK=>?_)
   go_simp
   refine(HO.out _ D9.out _ _ _ _ L9.out).mono ?_
   rintro E U10 ⟨se,sf,sa,sn,sk,sm,rfl,aur,apz⟩
   have D10:=hide (D9.out.trans (apz.mono D9.out.size))
   have Q10:=hide ((apz.block _ (ax Q9.out)).trans Q9.out)
   have R10:=hide aur
   clear apz aur
   go_wp2_with fail
   refine hK.out _ _ (SX.out _ D10.out) ?_
   clear hK K
   try simp only[Act.put,List.setIfInBounds_toArray,List.set_cons_zero,List.set_cons_succ]
   refine aJ (v:=?_) aa4 (by kernel_rfl) (fun _ _ _ _ _ h=>h) (SX.out _ D10.out) rfl rfl (by rfl) ?_ ?_
   rotate_left 1
   ·intro w hS
    (try dsimp only at hS)
    go_simp
    all_goals with_reducible rfl
   simp only[Act.put,List.setIfInBounds_toArray,List.set_cons_zero,List.set_cons_succ]
   refine aJ (v:=?_) aba (by kernel_rfl) (fun _ _ _ _ _ h=>h) (SX.out _ D10.out) rfl rfl (by rfl) ?_ ?_
   rotate_left 1
   ·intro w hS
    (try dsimp only at hS)
    go_simp
    all_goals with_reducible rfl
   simp only[Act.put,List.setIfInBounds_toArray,List.set_cons_zero,List.set_cons_succ]
   refine aJ (v:=?_) aaP (by kernel_rfl) (fun _ _ _ _ _ h=>h) (SX.out _ D10.out) rfl rfl (by rfl) ?_ ?_
   rotate_left 1
   ·intro w hS
    (try dsimp only at hS)
    go_simp
    all_goals with_reducible rfl
   simp only[Act.put,List.setIfInBounds_toArray,List.set_cons_zero,List.set_cons_succ]
   refine aJ (v:=?_) aaz (by kernel_rfl) (fun _ _ _ _ _ h=>h) (SX.out _ D10.out) rfl rfl (by rfl) ?_ ?_
   rotate_left 1
   ·intro w hS
    (try dsimp only at hS)
    go_simp
    all_goals with_reducible rfl
   simp only[Act.put,List.setIfInBounds_toArray,List.set_cons_zero,List.set_cons_succ]
   refine aS zZ ?_
   obtain⟨V,hV,pV,gV,⟨y0,y1,y2⟩,⟨z0,z1,z2⟩,u0,u1,u2⟩:=dP Q10.out (.int .i64 se) (.int .i64 sf) (.slice sa sn sk)
   have FV:=hide (FIN.out _ _ _ _ _ _ _ _ _ _ D10.out R10.out GX.out Q10.out pV gV)
   clear gV pV
   refine aK rfl (by rfl) (fun K hK=>?_)
   go_simp
   go_wp2_with fail
   refine hK.out _ _ FV.out.1 ?_
   clear hK K
   try simp only[Act.put,List.setIfInBounds_toArray,List.set_cons_zero,List.set_cons_succ]
   refine aJ (v:=?_) qI (by kernel_rfl) (fun _ _ _ _ _ h=>h) FV.out.1 rfl rfl (by rfl) ?_ ?_
   rotate_left 1
   ·intro w hS
    (try dsimp only at hS)
    go_simp
    all_goals with_reducible rfl
   simp only[Act.put,List.setIfInBounds_toArray,List.set_cons_zero,List.set_cons_succ]
   refine aJ (v:=?_) qA (by kernel_rfl) (fun _ _ _ _ _ h=>h) FV.out.1 rfl rfl (by rfl) ?_ ?_
   rotate_left 1
   ·intro w hS
    (try dsimp only at hS)
    go_simp
    all_goals with_reducible rfl
   simp only[Act.put,List.setIfInBounds_toArray,List.set_cons_zero,List.set_cons_succ]
   refine dz abH ?_
   go_wp2_with fail
   go_meet
   case rel=>exact⟨_,se,sf,sa,sn,sk,sm,rfl,rfl,rfl,hide FV.out.2⟩
 case rest=>
  obtain⟨X,se,sf,sa,sn,sk,sm,rfl,rfl,rfl,HC⟩:=hcut
  have ls:=HC.out.2.1
  rw[HLS.out]at ls
  have b0c:=B2.out.1.trans (HC.out.1.mono (by omega))
  obtain⟨c0,c1,c2,c3,c4,c5⟩:=SX.out wc HC.out.1
  have R1:=(HC.out.1.block _ (by omega)).trans B2.out.2
  rcases ls with⟨e1,rfl⟩|⟨e1,rfl,rfl,rfl,rs,o1,o2,o3⟩
  ·have RF:=hide (afM.out wc R1 (HH.out.1.gG.below b0c))
   have PV:Hid (∀W,Below w.heap.size w W→bM p q F w W s'):=hide fun W hW=>by
    rw[←HY.out.2.2,if_neg (by omega)]
    exact bM.same HH.out.1 hW
   have R2:Hid (∀W,Below wc.heap.size wc W→W.heap[w.heap.size+1]? =some (.cells #[.int .i64 0,.int .u8 0,.int .i64 0,.int .u8 0,.int .i64 0,.int .i64 0] 35 (0,0))∧Below w.heap.size w W):=hide fun W hW=>⟨(hW.block _ (ax R1)).trans R1,b0c.trans (hW.mono b0c.size)⟩
   clear afM HC HL HO FIN LGB LSB HG HLS R1 b0c e1
   go_wp2_with fail
   refine RF.out.mono ?_
   rintro E w9 ⟨rfl,b9⟩
   obtain⟨r9,d9⟩:=R2.out w9 b9
   obtain⟨V',hV',dG,bQ,⟨q0,q1,q2,q3,q4,q5⟩,fr,⟨u0,u1,u2,u3,u4,u5⟩⟩:=dU r9 (.int .i64 y.e) (.int .u8 y.r) (.int .i64 y.a) (.int .u8 y.p) (.int .i64 y.f) (.int .i64 y.b)
   have g0:=fr 0;have g1:=fr 1;have g2:=fr 2;have g3:=fr 3;have g4:=fr 4;have g5:=fr 5
   have BV:=hide (PV.out _ (aD d9 bQ (by omega) d9.size))
   clear RF b9 r9 d9 bQ dG fr R2 PV c0 c1 c2 c3 c4 c5
   go_wp2
   refine bodyPost_ret (v:=.tuple #[.agg #[.int .i64 y.e,.int .u8 y.r,.int .i64 y.a,.int .u8 y.p,.int .i64 y.f,.int .i64 y.b],.int .i64 ye]) (by simp[results,Tryz.results91,go_sem,u0,u1,u2,u3,u4,u5]) rfl ?_
   exact⟨rfl,BV.out⟩
  ·obtain⟨k1,k2⟩:=HH.out.2.2.2.2.2.2.2.2.2 e1
   have ik:∀g,F g→g<w.heap.size:=HH.out.1.lt
   have hgd:∀c∈rs,Cm.chk c.e c.n c.l=0:=fun c hc=>by
    have hm:c.c∈s.l.drop x.f.toNat:=by rw[←o3];unfold az;exact List.mem_map.2 ⟨c,hc,rfl⟩
    exact(Sto.fV HG.out.1 c.c (List.mem_of_mem_drop hm)).1
   have hfc:dV rs:=fun c hc=>by
    obtain⟨_,_,_,_,h5⟩:=Cm.aQ (hgd c hc)
    have:=(Bm.dI h5).2.1
    exact⟨(mZ h5).fit,by omega⟩
   have hrl:rs.length≤2000:=by
    have:=congrArg List.length o3
    unfold az at this
    rw[List.length_map,List.length_drop]at this
    have:=HG.out.2.2.2
    omega
   have hic:∀W,Out F wc W→dJ W (.slice sa sn sk) rs:=fun W hW=>by
    obtain⟨j1,j2⟩:=sO o1 o2 hW fun g hg=>by have:=ik g hg;omega
    exact⟨j1.row,fun c hc=>⟨(j2 c hc).is,by
     have:=Cm.aQ (hgd c hc)
     unfold In64
     omega⟩⟩
   have OR:Hid (Calls Tryz.prog 140 #[.pointer (some ⟨p,0,none⟩),.int .i64 x.b,.agg #[.int .i64 x.e,.int .i64 x.f,.slice sa sn sk]] wc fun E w'=>E=.returned (.int .i64 0)∧bM p q F wc w' s'):=hide (by
    rw[HH.out.2.2.2.2.2.2.2.1,←HY.out.2.2,if_pos e1,←o3]
    rw[←o3]at k1 k2
    exact akg p q F wc s (HH.out.1.below b0c) HH.out.2.1 HH.out.2.2.1 HH.out.2.2.2.1 HH.out.2.2.2.2.1 HH.out.2.2.2.2.2.1 x.e x.f _ rs hic hfc hrl HH.out.2.2.2.2.2.2.2.2.1 k1 k2)
   have d0:=ai HC.out.2.2 0 rfl
   have d1:=ai HC.out.2.2 1 rfl
   have d2:=ai HC.out.2.2 2 rfl
   have KP:Hid (∀W,bM p q F wc W s'→W.heap[w.heap.size+1]? =some (.cells #[.int .i64 0,.int .u8 0,.int .i64 0,.int .u8 0,.int .i64 0,.int .i64 0] 35 (0,0))∧fQ W∧(W.cell? ⟨w.heap.size,0,none⟩=some (.int .i64 x.e)∧W.cell? ⟨w.heap.size,1,none⟩=some (.int .u8 x.r)∧W.cell? ⟨w.heap.size,2,none⟩=some (.int .i64 x.a)∧W.cell? ⟨w.heap.size,3,none⟩=some (.int .u8 x.p)∧W.cell? ⟨w.heap.size,4,none⟩=some (.int .i64 x.f)∧W.cell? ⟨w.heap.size,5,none⟩=some (.int .i64 x.b))):=hide fun W k=>by
    obtain⟨F',k1,k2,_⟩:=k
    have zc:=b0c.size
    have e0:W.heap[w.heap.size]? =wc.heap[w.heap.size]? :=k2.block _ (by have:=HC.out.1.size;omega) fun e=>by have:=ik _ e;omega
    have ec:∀j,W.cell? ⟨w.heap.size,j,none⟩=wc.cell? ⟨w.heap.size,j,none⟩:=fun j=>by simp[World.cell?,e0]
    exact⟨(k2.block _ (ax R1) fun e=>by have:=ik _ e;omega).trans R1,k1.gG,(ec 0).trans c0,(ec 1).trans c1,(ec 2).trans c2,(ec 3).trans c3,(ec 4).trans c4,(ec 5).trans c5⟩
   have PV:Hid (∀W W2 V,bM p q F wc W s'→Below W.heap.size W W2→W2.grownBy V (some (w.heap.size+1))→bM p q F w V s'):=hide fun W W2 V j1 j2 j3=>bM.res b0c j1 j2 j3 (by omega) (by have:=HC.out.1.size;omega) (fun e=>by have:=ik _ e;omega) HH.out.1.gG.pos
   clear HC HL HO FIN LGB LSB HG HLS R1 b0c e1 k1 k2 hgd hfc hic o1 o2 o3 hrl
   go_wp2_with fail
   refine OR.out.mono ?_
   rintro E w7 ⟨rfl,k7⟩
   obtain⟨r7,m7,c0,c1,c2,c3,c4,c5⟩:=KP.out w7 k7
   have RF:=hide (afM.out w7 r7 m7)
   have K7:=hide k7
   have R7:=hide r7
   clear OR k7 r7 m7 afM KP
   go_wp2_with fail
   refine RF.out.mono ?_
   rintro E w9 ⟨rfl,b9⟩
   obtain⟨V',hV',dG,bQ,⟨q0,q1,q2,q3,q4,q5⟩,fr,⟨u0,u1,u2,u3,u4,u5⟩⟩:=dU ((b9.block _ (ax R7.out)).trans R7.out) (.int .i64 y.e) (.int .u8 y.r) (.int .i64 y.a) (.int .u8 y.p) (.int .i64 y.f) (.int .i64 y.b)
   have g0:=fr 0;have g1:=fr 1;have g2:=fr 2;have g3:=fr 3;have g4:=fr 4;have g5:=fr 5
   have BV:=hide (PV.out _ _ _ K7.out b9 bQ)
   clear RF b9 R7 K7 bQ dG fr PV c0 c1 c2 c3 c4 c5
   go_wp2
   refine bodyPost_ret (v:=.tuple #[.agg #[.int .i64 y.e,.int .u8 y.r,.int .i64 y.a,.int .u8 y.p,.int .i64 y.f,.int .i64 y.b],.int .i64 ye]) (by simp[results,Tryz.results91,go_sem,u0,u1,u2,u3,u4,u5]) rfl ?_
   exact⟨rfl,BV.out⟩
theorem ags (p pr q:Nat)(F:Nat→Prop)(w:World)(sr:Rl.Rs)(u en:Int)(h11:w.cell? ⟨p,11,none⟩=some (.pointer (some ⟨pr,0,none⟩)))(h9:w.cell? ⟨p,9,none⟩=some (.int .i64 en))(h:RW pr q F w sr):
  Calls Tryz.prog 184 #[.pointer (some ⟨p,0,none⟩),.int .i64 u] w fun E w'=>E=.returned (.int .i64 (if u<Cm.lastN 0 sr.l∨en<u then 2 else 0))∧w=w':=by
 have HE:=hide (l8 pr q F w sr h)
 clear h
 generalize Cm.lastN 0 sr.l=n at*
 by_cases h1:u<n
 ·rw[if_pos (.inl h1)]
  go_enter Tryz.func184,Tryz.ntmps184
  go_wp2_with fail
  refine HE.out.mono ?_
  rintro E w1 ⟨rfl,rfl⟩
  go_wp2
  go_ret
  exact⟨rfl,rfl⟩
 ·by_cases h2:en<u
  ·rw[if_pos (.inr h2)]
   go_enter Tryz.func184,Tryz.ntmps184
   go_wp2_with fail
   refine HE.out.mono ?_
   rintro E w1 ⟨rfl,rfl⟩
   go_wp2
   go_ret
   exact⟨rfl,rfl⟩
  ·rw[if_neg (by omega)]
   go_enter Tryz.func184,Tryz.ntmps184
   go_wp2_with fail
   refine HE.out.mono ?_
   rintro E w1 ⟨rfl,rfl⟩
   go_wp2
   go_ret
   exact⟨rfl,rfl⟩
theorem ajp (g2 g3 p:Nat)(w:World)(u r:Int)(h2:w.cell? ⟨g2,0,none⟩=some (.pointer (some ⟨p,0,none⟩)))(h3:w.cell? ⟨g3,0,none⟩=some (.int .i64 u))(hs:Calls Tryz.prog 184 #[.pointer (some ⟨p,0,none⟩),.int .i64 u] w fun E w'=>E=.returned (.int .i64 r)∧w=w'):
  Calls Tryz.prog 183 #[.pointer (some ⟨g2,0,none⟩),.pointer (some ⟨g3,0,none⟩)] w fun E w'=>E=.returned (.int .i64 r)∧w=w':=by
 have PC:=hide hs
 clear hs
 go_enter Tryz.func183,Tryz.ntmps183
 go_wp2_with fail
 refine PC.out.mono ?_
 rintro E w' ⟨rfl,rfl⟩
 go_wp2
 go_ret
 exact⟨rfl,rfl⟩
end Go.Proofs.YtjemlgdkjilnoaaGreatDoor
