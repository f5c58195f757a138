/- Texts of one layer, one behind the other. -/
import Derived.Test.YtmngcecomcadkaaGreatDoorCH31
import Derived.Test.YtmngcecomcadkaaGreatDoorCM3
set_option maxRecDepth 100000
set_option maxHeartbeats 8000000
namespace Go.Proofs.YtmngcecomcadkaaGreatDoor
open Go.RowKit
set_option linter.unusedVariables false
theorem acu:∀(l:List Cm.Cv) (ep nu:Int),Cm.Good ep nu l→Cm.lastN nu l=nu+l.length
 |[],_,_,_=>by simp[Cm.lastN]
 |c::r,_,nu,h=>by
  have:=acu r c.e c.n h.2.2.2
  show Cm.lastN c.n r=_
  rw[this,List.length_cons]
  have:=h.2.1
  omega
theorem wT (l m:List Cm.Cv)(ep:Int):Cm.lastE ep (l++m)=Cm.lastE (Cm.lastE ep l) m:=by
 induction l generalizing ep with
 |nil=>rfl
 |cons c r ih=>exact ih c.e
theorem ao0 (p q:Nat)(F:Nat→Prop)(w:World)(s:Rst.St)(h:PS p q F w s)(hR:pG s)(h3:T3 s.d∧¬F 0)(v:Value)(rs:List Cw)(hc:∀W,Out F w W→di W v rs)(hf:dL rs)(hl:rs.length≤100):Calls Tryz.prog 27 #[.pointer (some ⟨p,0,none⟩),v] w fun E w'=>E=.returned (.int .i64 (Rst.add s (ay rs)).1)∧bI p q F w w' (Rst.add s (ay rs)).2:=by
 have rG:∀(fn:Fn) (first cap:Array Value) (w:World),(Instr.makeFunc fn first cap).run Tryz.prog w=.ok (.func fn first cap) w:=fun _ _ _ _=>rfl
 obtain⟨bo,n1,k1,rfl⟩:∃a n k,v=.slice a n k:=by
  rcases(hc w (Out.refl _ _)).1 with⟨h,_⟩|⟨a,c,h,_⟩
  ·exact⟨_,_,_,h⟩
  ·exact⟨_,_,_,h⟩
 obtain⟨w1,hw1,s1,b1,P1⟩:=ak w #[.pointer (some ⟨p,0,none⟩)] 41
 obtain⟨w2,hw2,s2,b2,P2⟩:=ak w1 #[.slice bo n1 k1] 22
 obtain⟨w3,hw3,s3,b3,P3⟩:=ak w2 #[.func (.func 58) #[.pointer (some ⟨p,0,none⟩)] #[],.func (.func 59) #[] #[.pointer (some ⟨w.heap.size,0,none⟩),.pointer (some ⟨w.heap.size+1,0,none⟩)],.func (.func 61) #[] #[.pointer (some ⟨w.heap.size,0,none⟩),.pointer (some ⟨w.heap.size+1,0,none⟩)],.func (.func 65) #[] #[.pointer (some ⟨w.heap.size,0,none⟩),.pointer (some ⟨w.heap.size+1,0,none⟩)],.func (.func 67) #[] #[.pointer (some ⟨w.heap.size,0,none⟩),.pointer (some ⟨w.heap.size+1,0,none⟩)]] 154
 have z2:w2.heap.size=w.heap.size+2:=by omega
 have z3:w3.heap.size=w.heap.size+3:=by omega
 rw[s1]at P2
 rw[z2]at P3
 have fV:Below w.heap.size w w3:=(b1.trans (b2.mono (by omega))).trans (b3.mono (by omega))
 have c2:w2.cell? ⟨w.heap.size,0,none⟩=some (.pointer (some ⟨p,0,none⟩)):=ai ((b2.block _ (by omega)).trans P1) 0 rfl
 have t3:=(b3.block _ (by omega)).trans ((b2.block _ (by omega)).trans P1)
 have u3:=(b3.block _ (by omega)).trans P2
 have lS:=h.below fV
 have jN:∀c∈rs,0<c.l.length→∀b,c.v.ownBlock=some b→b<w.heap.size∧¬F b:=fun c hm h0=>atg (fun W hW=>((hc W hW).2 c hm).1) h0
 have RUN:Run (w.heap.size+2) (QS p q F w (Rst.add s (ay rs))) [.func (.func 58) #[.pointer (some ⟨p,0,none⟩)] #[],.func (.func 59) #[] #[.pointer (some ⟨w.heap.size,0,none⟩),.pointer (some ⟨w.heap.size+1,0,none⟩)],.func (.func 61) #[] #[.pointer (some ⟨w.heap.size,0,none⟩),.pointer (some ⟨w.heap.size+1,0,none⟩)],.func (.func 65) #[] #[.pointer (some ⟨w.heap.size,0,none⟩),.pointer (some ⟨w.heap.size+1,0,none⟩)],.func (.func 67) #[] #[.pointer (some ⟨w.heap.size,0,none⟩),.pointer (some ⟨w.heap.size+1,0,none⟩)]] w3:=by
  refine uN lS (bI.same h fV) (fun k=>by unfold Rst.add;rw[if_pos k]) fun dV=>?_
  have hon:s.d.on=true:=by
   unfold Rst.asked at dV
   revert dV
   cases s.d.on<;>simp
  have hoff:s.off=false:=by
   unfold Rst.asked at dV
   revert dV
   cases s.off<;>simp
  obtain⟨F1,G,h1,⟨pw,pr,ps,Gw,Gr,Gs,lw,bw,br,V,rfl⟩,hd,hm,rfl⟩:=lS
  obtain⟨rfl,rfl,rfl⟩:=V.live hoff
  have hgl:Cm.Good 0 0 s.l:=V.wal.good
  have hcl:(ay rs).length=rs.length:=by unfold ay;simp
  refine Run.cons (enters_of Tryz.func59 (by kernel_rfl) rfl) (by simp) ((aor _ _ p q pw _ w3 _ _ _ _ _ _ bo n1 k1 rs t3 u3 V.blk (V.ww h1) (hc w3 (Out.of_below fV)) hf hl).mono ?_)
  rintro E w4 ⟨rfl,b4⟩
  have xE:=fV.trans (b4.mono (by omega))
  have z4:=b4.size
  refine⟨_,rfl,b4.block _ (by omega),?_⟩
  simp only
  by_cases hfo:(Cm.fol (Cm.lastE 0 s.l) s.l.length 0 (ay rs)).1=0
  case neg=>
   have h6:(Cm.fol (Cm.lastE 0 s.l) s.l.length 0 (ay rs)).1≠6:=Rst.yh _ _ _ _
   exact .inl ⟨hfo,QS.no (s1:=s) (by unfold Rst.add;rw[if_neg (by simp[dV]),if_pos hfo]) h6 (bI.same h xE)⟩
  refine .inr ⟨hfo,?_⟩
  have hg:Cm.Good (Cm.lastE 0 s.l) s.l.length (ay rs):=(Cm.dZ _ _ _ 0).1 hfo
  have V4:=V.below b4
  have h14:=h1.below b4
  have t4:=(b4.block _ (by omega)).trans t3
  have u4:=(b4.block _ (by omega)).trans u3
  have hb:=V4.blk
  have SC:=vV p q pw pr _ _ w4 _ _ _ _ _ _ hb (V4.ww h14) (V4.rw h14) 63 #[.pointer (some ⟨w.heap.size+1,0,none⟩)] (enters_of Tryz.func63 (by kernel_rfl) rfl) s.p _ _ _ (Rst.hf 3 s.d).length (asR w4 p (w.heap.size+1) s.p _ _ _ _ rs u4 (fun W hW=>hc W (Out.of_below (xE.trans (hW.mono (by omega))))) (by have:=hR.2;omega) hl) (fun _=>ajt p q F1 w4 s.d h14 hR.1 (ai hb 0 rfl) (ax hb) hon h3.1)
  simp only at SC
  rw[←wT,show(s.l.length:Int)+(rs.length:Int)=((s.l++ay rs).length:Int)by rw[List.length_append,hcl];omega,abn V.ok]at SC
  refine Run.cons (enters_of Tryz.func61 (by kernel_rfl) rfl) (by simp) ((aoo _ _ p w4 _ (ai t4 0 rfl) SC).mono ?_)
  rintro E w5 ⟨rfl,b5⟩
  have qF:=xE.trans (b5.mono (by omega))
  have z5:=b5.size
  refine⟨_,rfl,b5.block _ (by omega),?_⟩
  have hfi:Rst.fine s s.p (s.l++ay rs) (Cm.lastN 0 s.r)=Rst.snd s.p (s.l++ay rs) (Cm.lastN 0 s.r) (Rst.hf 3 s.d).length:=rfl
  cases hsn:Rst.snd s.p (s.l++ay rs) (Cm.lastN 0 s.r) (Rst.hf 3 s.d).length with
  |false=>
   rw[if_neg (by simp)]
   exact .inl ⟨by decide,QS.no (s1:=s) (by unfold Rst.add;rw[if_neg (by simp[dV]),if_neg (by simp[hfo]),if_pos (hfi.trans hsn)]) (by decide) (bI.same h qF)⟩
  |true=>
   rw[if_pos rfl]
   refine .inr ⟨rfl,?_⟩
   have V5:=V4.below b5
   have h15:=h14.below b5
   have hm5:=(hm.below b4).below b5
   have t5:=(b5.block _ (by omega)).trans t4
   have u5:=(b5.block _ (by omega)).trans u4
   have hd5:Below w5.heap.size w5 w5.drew:=(Below.refl _ _).drew
   have hb5:Below w.heap.size w w5.drew:=qF.trans (hd5.mono (by omega))
   have kM:∀g,F1 g∨PB p Gw Gr Gs g→g<w.heap.size:=fun g hg=>h.lt g hg
   have nW:∀g,g=p∨Gr g∨Gs g→¬(F1 g∨Gw g):=by
    rintro g (rfl|e|e) (k|k)
    ·exact hd _ (.inl rfl) k
    ·exact V.np.1 k
    ·exact hd _ (.inr (.inr (.inl e))) k
    ·exact V.wr g k e
    ·exact hd _ (.inr (.inr (.inr e))) k
    ·exact V.ws g k e
   have iW:∀g,F1 g∨Gw g→F1 g∨PB p Gw Gr Gs g:=fun g hg=>hg.imp id fun e=>.inr (.inl e)
   have hgg:Cm.Good 0 0 (s.l++ay rs):=(Cm.fI _ _ _ _).2 ⟨hgl,by rw[Wl.kI hgl];exact hg⟩
   by_cases hne:rs.length=0
   ·
    obtain rfl:rs=[]:=List.eq_nil_of_length_eq_zero hne
    have hr:Rst.add s (ay [])=(0,s):=by
     unfold Rst.add
     rw[if_neg (by simp[dV]),if_neg (by simp[hfo]),if_neg (by rw[hfi,hsn];simp)]
     rfl
    obtain rfl:n1=0:=by
     rcases(hc w (Out.refl _ _)).1 with⟨h,_⟩|⟨a,k,h,_⟩
     ·cases h;rfl
     ·cases h;rfl
    refine Run.cons (enters_of Tryz.func65 (by kernel_rfl) rfl) (by simp) ((aeI _ _ p w5 bo 0 k1 _ _ (ai t5 0 rfl) (ai u5 0 rfl) (agr _ bo k1 w5.drew)).mono ?_)
    rintro E w6 ⟨rfl,rfl⟩
    refine⟨_,rfl,rfl,.inr ⟨rfl,?_⟩⟩
    have t6:=(hd5.block _ (by omega)).trans t5
    have u6:=(hd5.block _ (by omega)).trans u5
    refine Run.cons (enters_of Tryz.func67 (by kernel_rfl) rfl) (by simp) ((afC _ _ p w5.drew bo 0 k1 _ _ (ai t6 0 rfl) (ai u6 0 rfl) (ams _ bo k1 w5.drew.drew)).mono ?_)
    rintro E w7 ⟨rfl,rfl⟩
    exact⟨_,rfl,rfl,.inr ⟨rfl,QS.no hr (by decide) (bI.same h hb5.drew)⟩⟩
   ·have h0:0<rs.length:=by omega
    have EX:=aji p q pw _ w5.drew _ _ _ _ s.d s.l (.slice bo n1 k1) rs ((V5.below hd5).blk) ((V5.below hd5).ww (h15.below hd5)) (nW p (.inl rfl)) hR.1 hR.2 hg hl h0 (fun W hW=>hc W ((Out.of_below hb5).trans hW fun g hg=>.inl (iW g hg))) hf (fun c hm h0 b hb=>by
     obtain⟨q1,q2⟩:=jN c hm h0 b hb
     have:=hb5.size
     exact⟨by omega,fun e=>q2 (iW b e)⟩)
    have hr:Rst.add s (ay rs)=if (Rst.fD s.d (ay rs)).1≠0 then(6,⟨(Rst.fD s.d (ay rs)).2,s.p,s.l,s.r,true⟩)else(0,⟨(Rst.fD s.d (ay rs)).2,s.p,s.l++ay rs,s.r,s.off⟩):=by
     unfold Rst.add
     rw[if_neg (by simp[dV]),if_neg (by simp[hfo]),if_neg (by rw[hfi,hsn];simp),if_neg (by intro e;rw[e]at hcl;simp at hcl;omega)]
    have hee:(Rst.fD s.d (ay rs)).1=0∨(Rst.fD s.d (ay rs)).1=6:=by
     unfold Rst.fD
     split
     ·exact .inr rfl
     ·split
      ·exact .inr rfl
      ·exact .inl rfl
    unfold ExO at EX
    generalize Rst.fD s.d (ay rs)=ws at*
    obtain⟨ee,d'⟩:=ws
    simp only at*
    refine Run.cons (enters_of Tryz.func65 (by kernel_rfl) rfl) (by simp) ((aeI _ _ p w5 bo n1 k1 _ _ (ai t5 0 rfl) (ai u5 0 rfl) EX).mono ?_)
    rintro E w6 ⟨rfl,W,⟨F',lw,bk,⟨rf,vM,k1',k2',rfl⟩,kl,kz,ko,kn⟩,rQ⟩
    have ko:Out (fun g=>F1 g∨Gw g) w5 W:=(Out.of_below hd5).trans ko fun g hg=>.inl hg
    have kn:∀g,rf g∨vM g→(F1 g∨Gw g)∨w5.heap.size≤g:=kn
    have hsW:=ko.size
    have lt5:∀g,F1 g∨PB p Gw Gr Gs g→g<w5.heap.size:=fun g hg=>by have:=kM g hg;omega
    have far:∀g,g=p∨Gr g∨Gs g→¬(rf g∨vM g):=fun g hg e=>by
     rcases kn g e with e|e
     ·exact nW g hg e
     ·have:=lt5 g (.inr (by rcases hg with e|e|e;exact .inl e;exact .inr (.inr (.inl e));exact .inr (.inr (.inr e))));omega
    have hp0:p≠0:=wE hm5 V5.blk rfl
    have mW:eH W:=gI hm5 ko fun e=>h3.2 (iW 0 e)
    have aoc:=(ko.block p (lt5 p (.inr (.inl rfl))) (nW p (.inl rfl))).trans V5.blk
    have awn:Rk pr q Gr W s.r false:=V5.run.out ko fun g hg=>nW g (.inr (.inl hg))
    have atI:Sk ps pr Gs W (s.l.drop (Cm.lastN 0 s.r).toNat):=V5.sto.out ko fun g hg=>nW g (.inr (.inr hg))
    have oW:Out (fun g=>F1 g∨PB p Gw Gr Gs g) w W:=(Out.of_below qF).trans ko fun g hg=>.inl (iW g hg)
    have awV:∀g,w.heap.size≤g→g<w5.heap.size→W.heap[g]? =w5.heap[g]? :=fun g h1 h2=>ko.block g h2 fun e=>by have:=kM g (iW g e);omega
    have nF:∀g,rf g∨PB p vM Gr Gs g→(F1 g∨PB p Gw Gr Gs g)∨w.heap.size≤g:=by
     have n':∀g,rf g∨vM g→(F1 g∨PB p Gw Gr Gs g)∨w.heap.size≤g:=fun g e=>(kn g e).imp (iW g) fun e=>by omega
     rintro g (e|e|e|e|e)
     ·exact n' g (.inl e)
     ·exact .inl (.inr (.inl e))
     ·exact n' g (.inr e)
     ·exact .inl (.inr (.inr (.inr (.inl e))))
     ·exact .inl (.inr (.inr (.inr (.inr e))))
    have dis:∀g,PB p vM Gr Gs g→¬rf g:=by
     rintro g (e|e|e|e) k
     ·exact far g (.inl e) (.inl k)
     ·exact uA k2' k1' g e k
     ·exact far g (.inr (.inl e)) (.inl k)
     ·exact far g (.inr (.inr e)) (.inl k)
    have fp:=far p (.inl rfl)
    rcases hee with rfl|rfl
    ·rw[if_neg (by simp)]at hr
     obtain⟨rfl,rfl⟩:=kz rfl
     rcases rQ with⟨k,_⟩|⟨_,rfl⟩
     ·exact absurd rfl k
     have oP:Out (fun g=>g=p) W (W.setCell ⟨p,9,none⟩ (.int .i64 ((s.l.length:Int)+(rs.length:Int)))):=Out.aQ (az W ⟨p,9,none⟩ _) fun i hi=>by simpa using hi.symm
     have pz:(W.setCell ⟨p,9,none⟩ (.int .i64 ((s.l.length:Int)+(rs.length:Int)))).heap[p]? =some (.cells (eF q s.off s.p (.pointer (some ⟨pw,0,none⟩)) ((s.l.length:Int)+(rs.length:Int)) (.pointer (some ⟨pr,0,none⟩)) (.pointer (some ⟨ps,0,none⟩))) 94 (0,0)):=aH aoc 9 _
     generalize W.setCell ⟨p,9,none⟩ (.int .i64 ((s.l.length:Int)+(rs.length:Int)))=w6 at*
     have hs6:=oP.size
     have aoB:∀g,w.heap.size≤g→g<w5.heap.size→w6.heap[g]? =w5.heap[g]? :=fun g h1 h2=>(oP.block g (by omega) fun e=>by have:=kM p (.inr (.inl rfl));omega).trans (awV g h1 h2)
     refine⟨_,rfl,aoB _ (by omega) (by omega),.inr ⟨rfl,?_⟩⟩
     have h16:Pk q rf w6 d':=k1'.agree fun g hg=>oP.block g (k1'.lt g hg) fun e=>fp (.inl (e▸hg))
     have auN:Wk pw q vM w6 (s.l++ay rs) false:=k2'.out oP fun g hg e=>fp (.inr (e▸hg))
     have ayu:Rk pr q Gr w6 s.r false:=awn.out oP fun g hg e=>V.np.2.1 (e▸hg)
     have aza:=atI.out oP fun g hg e=>V.np.2.2 (e▸hg)
     have o6:Out (fun g=>F1 g∨PB p Gw Gr Gs g) w w6:=oW.trans oP fun g hg=>.inl (.inr (.inl hg))
     have m6:eH w6:=gI mW oP fun e=>hp0 e.symm
     have t6:=(aoB _ (by omega) (by omega)).trans t5
     have u6:=(aoB _ (by omega) (by omega)).trans u5
     have hd6:Below w6.heap.size w6 w6.drew:=(Below.refl _ _).drew
     have nS:∀g,g=p∨vM g→¬((rf g∨Gr g)∨Gs g):=by
      rintro g (rfl|e) ((k|k)|k)
      ·exact fp (.inl k)
      ·exact V.np.2.1 k
      ·exact V.np.2.2 k
      ·exact uA k2' k1' g e k
      ·exact far g (.inr (.inl k)) (.inr e)
      ·exact far g (.inr (.inr k)) (.inr e)
     have inS:∀g,(rf g∨Gr g)∨Gs g→(F1 g∨PB p Gw Gr Gs g)∨w.heap.size≤g:=fun g hg=>by
      rcases hg with(e|e)|e
      ·exact nF g (.inl e)
      ·exact .inl (.inr (.inr (.inr (.inl e))))
      ·exact .inl (.inr (.inr (.inr (.inr e))))
     have hds:∀g,Gs g→¬(rf g∨Gr g):=fun g e k=>k.elim (fun k=>far g (.inr (.inr e)) (.inl k)) fun k=>V.rs g k e
     have SW6:SW ps pr q (fun g=>(rf g∨Gr g)∨Gs g) w6.drew ⟨⟨d',s.r,false⟩,s.l.drop (Cm.lastN 0 s.r).toNat⟩:=⟨_,Gs,⟨rf,Gr,h16.below hd6,ayu.below hd6,rfl⟩,aza.below hd6,hds,⟨V.good,V.rest⟩,rfl⟩
     have hnn:=V.le
     have h0n:0≤Cm.lastN 0 s.r:=(Rl.eO V.good).2.1
     have hdr:(s.l++ay rs).drop (Cm.lastN 0 s.r).toNat=s.l.drop (Cm.lastN 0 s.r).toNat++ay rs:=List.drop_append_of_le_length (by omega)
     have hgd:Cm.Good 1 (Cm.lastN 0 s.r) (s.l.drop (Cm.lastN 0 s.r).toNat++ay rs):=by
      have:=Sto.wK (Rst.aby hgg) (Cm.lastN 0 s.r).toNat (by rw[List.length_append];omega)
      rw[hdr,show(0:Int)+((Cm.lastN 0 s.r).toNat:Int)=Cm.lastN 0 s.r by omega]at this
      exact this
     have TK:=amz p q ps pr _ w6.drew _ _ _ _ _ _ _ n1 k1 bo rs ((hd6.block p (ax pz)).trans pz) SW6 (nS p (.inl rfl)) hgd (fun k=>by
      refine acu _ 1 _ ?_
      rw[←List.take_append_drop k (ay rs),←List.append_assoc]at hgd
      exact((Cm.fI _ _ _ _).1 hgd).1) (by rw[List.length_drop];have:=hR.2;omega) hl (fun X hX=>hc X ((o6.trans (Out.of_below (F:=fun _=>False) hd6) fun g hg=>hg.elim).trans hX inS)) hf (fun c hm h0 b hb=>by
      obtain⟨q1,q2⟩:=jN c hm h0 b hb
      have:=o6.size
      exact⟨by have:=hd6.size;omega,fun e=>(inS b e).elim q2 fun e=>by omega⟩)
     refine Run.cons (enters_of Tryz.func67 (by kernel_rfl) rfl) (by simp) ((afC _ _ p w6 bo n1 k1 _ _ (ai t6 0 rfl) (ai u6 0 rfl) TK).mono ?_)
     rintro E w7 ⟨rfl,Fk,⟨FR,Gs',⟨ajj,Gr',j1,j2,rfl⟩,j3,j4,j5,rfl⟩,o7,n7⟩
     have o7:Out (fun g=>(rf g∨Gr g)∨Gs g) w6 w7:=(Out.of_below hd6).trans o7 fun g hg=>.inl hg
     have n7:∀g,(ajj g∨Gr' g)∨Gs' g→((rf g∨Gr g)∨Gs g)∨w6.heap.size≤g:=n7
     have z6:=o6.size
     refine⟨_,rfl,o7.block _ (by omega) fun e=>by
      rcases e with(e|e)|e
      ·rcases kn _ (.inl e)with e|e
       ·have:=kM _ (iW _ e);omega
       ·omega
      ·have:=kM _ (.inr (.inr (.inr (.inl e))));omega
      ·have:=kM _ (.inr (.inr (.inr (.inr e))));omega,.inr ⟨rfl,QS.no hr (by decide) ?_⟩⟩
     have abS:∀g,g=p∨vM g→¬((ajj g∨Gr' g)∨Gs' g):=fun g hg e=>by
      rcases n7 g e with e|e
      ·exact nS g hg e
      ·have:g<w6.heap.size:=by
        rcases hg with rfl|hg
        ·exact ax pz
        ·exact auN.lt g hg
       omega
     have p7:=(o7.block p (ax pz) (nS p (.inl rfl))).trans pz
     rw[←hcl,List.take_length,←hdr]at j3
     have hlen:((s.l++ay rs).length:Int)=(s.l.length:Int)+(rs.length:Int):=by rw[List.length_append,hcl];omega
     refine⟨_,⟨ajj,PB p vM Gr' Gs',j1,⟨pw,pr,ps,vM,Gr',Gs',s.l++ay rs,false,false,⟨by rw[hlen];exact p7,auN.out o7 fun g hg=>nS g (.inr hg),j2,j3,List.take_length.symm,fun _=>⟨rfl,rfl,rfl⟩,V.ok,V.fit,by rw[hdr];exact hgd,by show Cm.lastN 0 s.r≤((s.l++ay rs).length:Int);omega,⟨fun e=>fp (.inr e),fun e=>abS p (.inl rfl) (.inl (.inr e)),fun e=>abS p (.inl rfl) (.inr e)⟩,fun g hg e=>abS g (.inr hg) (.inl (.inr e)),fun g hg e=>abS g (.inr hg) (.inr e),fun g hg e=>j4 g e (.inr hg)⟩,rfl⟩,?_,gI m6 o7 ?_,rfl⟩,o6.trans o7 inS,?_⟩
     ·rintro g (e|e|e|e) k
      ·exact abS g (.inl e) (.inl (.inl k))
      ·exact abS g (.inr e) (.inl (.inl k))
      ·exact aqb j2 j1 g e k
      ·exact j4 g e (.inl k)
     ·intro e
      rcases inS 0 e with e|e
      ·exact h3.2 e
      ·have:=kM p (.inr (.inl rfl));omega
     ·have n':∀g,(ajj g∨Gr' g)∨Gs' g→(F1 g∨PB p Gw Gr Gs g)∨w.heap.size≤g:=fun g e=>by
       rcases n7 g e with e|e
       ·exact inS g e
       ·exact .inr (by omega)
      rintro g (e|e|e|e|e)
      ·exact n' g (.inl (.inl e))
      ·exact .inl (.inr (.inl e))
      ·exact nF g (.inr (.inr (.inl e)))
      ·exact n' g (.inl (.inr e))
      ·exact n' g (.inr e)
    ·rw[if_pos (by simp)]at hr
     rcases rQ with⟨_,rfl⟩|⟨k,_⟩
     case inr=>exact absurd k (by decide)
     refine⟨_,rfl,awV _ (by omega) (by omega),.inl ⟨by decide,by rw[hr],fun k=>absurd rfl k,fun _=>⟨?_,_,_,aoc,rfl⟩⟩⟩
     have oZ:Out (fun g=>g=p) w6 (w6.setCell ⟨p,1,none⟩ (.bool true)):=Out.aQ (az w6 ⟨p,1,none⟩ (.bool true)) fun i hi=>by simpa using hi.symm
     have pz:(w6.setCell ⟨p,1,none⟩ (.bool true)).heap[p]? =some (.cells (eF q true s.p (.pointer (some ⟨pw,0,none⟩)) s.l.length (.pointer (some ⟨pr,0,none⟩)) (.pointer (some ⟨ps,0,none⟩))) 94 (0,0)):=aH aoc 1 (.bool true)
     generalize w6.setCell ⟨p,1,none⟩ (.bool true)=Z at*
     rw[hr]
     exact⟨_,⟨rf,PB p vM Gr Gs,k1'.agree fun g hg=>oZ.block g (k1'.lt g hg) fun e=>fp (.inl (e▸hg)),⟨pw,pr,ps,vM,Gr,Gs,lw,bk,false,⟨pz,k2'.out oZ fun g hg e=>fp (.inr (e▸hg)),awn.out oZ fun g hg e=>V.np.2.1 (e▸hg),atI.out oZ fun g hg e=>V.np.2.2 (e▸hg),kl,fun e=>absurd e (by simp),V.ok,V.fit,V.rest,V.le,⟨fun e=>fp (.inr e),V.np.2.1,V.np.2.2⟩,fun g hg e=>far g (.inr (.inl e)) (.inr hg),fun g hg e=>far g (.inr (.inr e)) (.inr hg),V.rs⟩,rfl⟩,dis,gI mW oZ fun e=>hp0 e.symm,rfl⟩,oW.trans oZ fun g hg=>.inl (.inr (.inl hg)),nF⟩
 have HC:=hide (xW (n:=5) rfl (by omega) P3 RUN)
 generalize Rst.add s (ay rs)=r at*
 clear RUN h hR h3 hc hf hl jN b1 b2 b3 P1 P2 P3 s2 s3 z3 fV t3 u3 lS
 go_enter Tryz.func27,Tryz.ntmps27
 go_wp2_with fail
 refine HC.out.mono ?_
 rintro E w' ⟨rfl,X⟩
 have X:=hide X
 clear HC
 go_wp2
 go_ret
 exact⟨rfl,X.out⟩
end Go.Proofs.YtmngcecomcadkaaGreatDoor
