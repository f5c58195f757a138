/- Texts of one layer, one behind the other. -/
import Derived.Test.YtlmkaljjocflmaaGreatDoorAH32
import Derived.Test.YtlmkaljjocflmaaGreatDoorAM3
set_option maxRecDepth 100000
set_option maxHeartbeats 8000000
namespace Go.Proofs.YtlmkaljjocflmaaGreatDoor
open Go.RowKit
set_option linter.unusedVariables false
theorem ab7:∀(l:List Cm.Cv) (ep nu:Int),Cm.Good ep nu l→Cm.lastN nu l=nu+l.length
 |[],_,_,_=>by simp[Cm.lastN]
 |c::r,_,nu,h=>by
  have:=ab7 r c.e c.n h.2.2.2
  show Cm.lastN c.n r=_
  rw[this,List.length_cons]
  have:=h.2.1
  omega
theorem uI (l m:List Cm.Cv)(ep:Int):Cm.lastE ep (l++m)=Cm.lastE (Cm.lastE ep l) m:=by
 induction l generalizing ep with
 |nil=>rfl
 |cons c r ih=>exact ih c.e
theorem anc (p q:Nat)(F:Nat→Prop)(w:World)(s:Rst.St)(h:PS p q F w s)(hR:iV s)(h3:T3 s.d∧¬F 0)(v:Value)(rs:List Cw)(hc:∀W,Out F w W→iy W v rs)(hf:jr rs)(hl:rs.length≤100):Calls Tryz.prog 56 #[.pointer (some ⟨p,0,none⟩),v] w fun E w'=>E=.returned (.int .i64 (Rst.add s (aH rs)).1)∧jk p q F w w' (Rst.add s (aH rs)).2:=by
 have kW:∀(fn:Fn) (first cap:Array Value) (w:World),(Instr.makeFunc fn first cap).run Tryz.prog w=.ok (.func fn first cap) w:=fun _ _ _ _=>rfl
 obtain⟨bo,n1,k1,rfl⟩:∃a n k,v=.slice a n k:=by
  rcases(hc w (Out.refl _ _)).1 with⟨h,_⟩|⟨a,c,h,_⟩
  ·exact⟨_,_,_,h⟩
  ·exact⟨_,_,_,h⟩
 obtain⟨w1,hw1,s1,b1,P1⟩:=au w #[.pointer (some ⟨p,0,none⟩)] 41
 obtain⟨w2,hw2,s2,b2,P2⟩:=au w1 #[.slice bo n1 k1] 22
 obtain⟨w3,hw3,s3,b3,P3⟩:=au w2 #[.func (.func 110) #[.pointer (some ⟨p,0,none⟩)] #[],.func (.func 111) #[] #[.pointer (some ⟨w.heap.size,0,none⟩),.pointer (some ⟨w.heap.size+1,0,none⟩)],.func (.func 113) #[] #[.pointer (some ⟨w.heap.size,0,none⟩),.pointer (some ⟨w.heap.size+1,0,none⟩)],.func (.func 117) #[] #[.pointer (some ⟨w.heap.size,0,none⟩),.pointer (some ⟨w.heap.size+1,0,none⟩)],.func (.func 119) #[] #[.pointer (some ⟨w.heap.size,0,none⟩),.pointer (some ⟨w.heap.size+1,0,none⟩)]] 228
 have z2:w2.heap.size=w.heap.size+2:=by omega
 have z3:w3.heap.size=w.heap.size+3:=by omega
 rw[s1]at P2
 rw[z2]at P3
 have iw:Below w.heap.size w w3:=(b1.trans (b2.mono (by omega))).trans (b3.mono (by omega))
 have c2:w2.cell? ⟨w.heap.size,0,none⟩=some (.pointer (some ⟨p,0,none⟩)):=ai ((b2.block _ (by omega)).trans P1) 0 rfl
 have t3:=(b3.block _ (by omega)).trans ((b2.block _ (by omega)).trans P1)
 have u3:=(b3.block _ (by omega)).trans P2
 have hS3:=h.below iw
 have jH:∀c∈rs,0<c.l.length→∀b,c.v.ownBlock=some b→b<w.heap.size∧¬F b:=fun c hm h0=>atz (fun W hW=>((hc W hW).2 c hm).1) h0
 have RUN:Run (w.heap.size+2) (QS p q F w (Rst.add s (aH rs))) [.func (.func 110) #[.pointer (some ⟨p,0,none⟩)] #[],.func (.func 111) #[] #[.pointer (some ⟨w.heap.size,0,none⟩),.pointer (some ⟨w.heap.size+1,0,none⟩)],.func (.func 113) #[] #[.pointer (some ⟨w.heap.size,0,none⟩),.pointer (some ⟨w.heap.size+1,0,none⟩)],.func (.func 117) #[] #[.pointer (some ⟨w.heap.size,0,none⟩),.pointer (some ⟨w.heap.size+1,0,none⟩)],.func (.func 119) #[] #[.pointer (some ⟨w.heap.size,0,none⟩),.pointer (some ⟨w.heap.size+1,0,none⟩)]] w3:=by
  refine aed hS3 (jk.same h iw) (fun k=>by unfold Rst.add;rw[if_pos k]) fun ku=>?_
  have hon:s.d.on=true:=by
   unfold Rst.asked at ku
   revert ku
   cases s.d.on<;>simp
  have hoff:s.off=false:=by
   unfold Rst.asked at ku
   revert ku
   cases s.off<;>simp
  obtain⟨F1,G,h1,⟨pw,pr,ps,Gw,Gr,Gs,lw,bw,br,V,rfl⟩,hd,hm,rfl⟩:=hS3
  obtain⟨rfl,rfl,rfl⟩:=V.live hoff
  have hgl:Cm.Good 0 0 s.l:=V.wal.good
  have hcl:(aH rs).length=rs.length:=by unfold aH;simp
  refine Run.cons (enters_of Tryz.func111 (by kernel_rfl) rfl) (by simp) ((aoC _ _ p q pw _ w3 _ _ _ _ _ _ bo n1 k1 rs t3 u3 V.blk (V.ww h1) (hc w3 (Out.of_below iw)) hf hl).mono ?_)
  rintro E w4 ⟨rfl,b4⟩
  have kZ:=iw.trans (b4.mono (by omega))
  have z4:=b4.size
  refine⟨_,rfl,b4.block _ (by omega),?_⟩
  simp only
  by_cases hfo:(Cm.fol (Cm.lastE 0 s.l) s.l.length 0 (aH rs)).1=0
  case neg=>
   have h6:(Cm.fol (Cm.lastE 0 s.l) s.l.length 0 (aH rs)).1≠6:=Rst.aa5 _ _ _ _
   exact .inl ⟨hfo,QS.no (s1:=s) (by unfold Rst.add;rw[if_neg (by simp[ku]),if_pos hfo]) h6 (jk.same h kZ)⟩
  refine .inr ⟨hfo,?_⟩
  have hg:Cm.Good (Cm.lastE 0 s.l) s.l.length (aH rs):=(Cm.gH _ _ _ 0).1 hfo
  have V4:=V.below b4
  have h14:=h1.below b4
  have t4:=(b4.block _ (by omega)).trans t3
  have u4:=(b4.block _ (by omega)).trans u3
  have hb:=V4.blk
  have SC:=aca p q pw pr _ _ w4 _ _ _ _ _ _ hb (V4.ww h14) (V4.rw h14) 115 #[.pointer (some ⟨w.heap.size+1,0,none⟩)] (enters_of Tryz.func115 (by kernel_rfl) rfl) s.p _ _ _ (Rst.hf 3 s.d).length (aq6 w4 p (w.heap.size+1) s.p _ _ _ _ rs u4 (fun W hW=>hc W (Out.of_below (kZ.trans (hW.mono (by omega))))) (by have:=hR.2;omega) hl) (fun _=>apS p q F1 w4 s.d h14 hR.1 (ai hb 0 rfl) (aA hb) hon h3.1)
  simp only at SC
  rw[←uI,show(s.l.length:Int)+(rs.length:Int)=((s.l++aH rs).length:Int)by rw[List.length_append,hcl];omega,abn V.ok]at SC
  refine Run.cons (enters_of Tryz.func113 (by kernel_rfl) rfl) (by simp) ((am4 _ _ p w4 _ (ai t4 0 rfl) SC).mono ?_)
  rintro E w5 ⟨rfl,b5⟩
  have qE:=kZ.trans (b5.mono (by omega))
  have z5:=b5.size
  refine⟨_,rfl,b5.block _ (by omega),?_⟩
  have hfi:Rst.fine s s.p (s.l++aH rs) (Cm.lastN 0 s.r)=Rst.snd s.p (s.l++aH rs) (Cm.lastN 0 s.r) (Rst.hf 3 s.d).length:=rfl
  cases hsn:Rst.snd s.p (s.l++aH rs) (Cm.lastN 0 s.r) (Rst.hf 3 s.d).length with
  |false=>
   rw[if_neg (by simp)]
   exact .inl ⟨by decide,QS.no (s1:=s) (by unfold Rst.add;rw[if_neg (by simp[ku]),if_neg (by simp[hfo]),if_pos (hfi.trans hsn)]) (by decide) (jk.same h qE)⟩
  |true=>
   rw[if_pos rfl]
   refine .inr ⟨rfl,?_⟩
   have V5:=V4.below b5
   have h15:=h14.below b5
   have hm5:=(hm.below b4).below b5
   have t5:=(b5.block _ (by omega)).trans t4
   have u5:=(b5.block _ (by omega)).trans u4
   have hd5:Below w5.heap.size w5 w5.drew:=(Below.refl _ _).drew
   have hb5:Below w.heap.size w w5.drew:=qE.trans (hd5.mono (by omega))
   have lt0:∀g,F1 g∨PB p Gw Gr Gs g→g<w.heap.size:=fun g hg=>h.lt g hg
   have nW:∀g,g=p∨Gr g∨Gs g→¬(F1 g∨Gw g):=by
    rintro g (rfl|e|e) (k|k)
    ·exact hd _ (.inl rfl) k
    ·exact V.np.1 k
    ·exact hd _ (.inr (.inr (.inl e))) k
    ·exact V.wr g k e
    ·exact hd _ (.inr (.inr (.inr e))) k
    ·exact V.ws g k e
   have jR:∀g,F1 g∨Gw g→F1 g∨PB p Gw Gr Gs g:=fun g hg=>hg.imp id fun e=>.inr (.inl e)
   have hgg:Cm.Good 0 0 (s.l++aH rs):=(Cm.dL _ _ _ _).2 ⟨hgl,by rw[Wl.jT hgl];exact hg⟩
   by_cases hne:rs.length=0
   ·
    obtain rfl:rs=[]:=List.eq_nil_of_length_eq_zero hne
    have hr:Rst.add s (aH [])=(0,s):=by
     unfold Rst.add
     rw[if_neg (by simp[ku]),if_neg (by simp[hfo]),if_neg (by rw[hfi,hsn];simp)]
     rfl
    obtain rfl:n1=0:=by
     rcases(hc w (Out.refl _ _)).1 with⟨h,_⟩|⟨a,k,h,_⟩
     ·cases h;rfl
     ·cases h;rfl
    refine Run.cons (enters_of Tryz.func117 (by kernel_rfl) rfl) (by simp) ((aeY _ _ p w5 bo 0 k1 _ _ (ai t5 0 rfl) (ai u5 0 rfl) (af0 _ bo k1 w5.drew)).mono ?_)
    rintro E w6 ⟨rfl,rfl⟩
    refine⟨_,rfl,rfl,.inr ⟨rfl,?_⟩⟩
    have t6:=(hd5.block _ (by omega)).trans t5
    have u6:=(hd5.block _ (by omega)).trans u5
    refine Run.cons (enters_of Tryz.func119 (by kernel_rfl) rfl) (by simp) ((aej _ _ p w5.drew bo 0 k1 _ _ (ai t6 0 rfl) (ai u6 0 rfl) (ajI _ bo k1 w5.drew.drew)).mono ?_)
    rintro E w7 ⟨rfl,rfl⟩
    exact⟨_,rfl,rfl,.inr ⟨rfl,QS.no hr (by decide) (jk.same h hb5.drew)⟩⟩
   ·have h0:0<rs.length:=by omega
    have EX:=ahZ p q pw _ w5.drew _ _ _ _ s.d s.l (.slice bo n1 k1) rs ((V5.below hd5).blk) ((V5.below hd5).ww (h15.below hd5)) (nW p (.inl rfl)) hR.1 hR.2 hg hl h0 (fun W hW=>hc W ((Out.of_below hb5).trans hW fun g hg=>.inl (jR g hg))) hf (fun c hm h0 b hb=>by
     obtain⟨q1,q2⟩:=jH c hm h0 b hb
     have:=hb5.size
     exact⟨by omega,fun e=>q2 (jR b e)⟩)
    have hr:Rst.add s (aH rs)=if (Rst.eD s.d (aH rs)).1≠0 then(6,⟨(Rst.eD s.d (aH rs)).2,s.p,s.l,s.r,true⟩)else(0,⟨(Rst.eD s.d (aH rs)).2,s.p,s.l++aH rs,s.r,s.off⟩):=by
     unfold Rst.add
     rw[if_neg (by simp[ku]),if_neg (by simp[hfo]),if_neg (by rw[hfi,hsn];simp),if_neg (by intro e;rw[e]at hcl;simp at hcl;omega)]
    have hee:(Rst.eD s.d (aH rs)).1=0∨(Rst.eD s.d (aH rs)).1=6:=by
     unfold Rst.eD
     split
     ·exact .inr rfl
     ·split
      ·exact .inr rfl
      ·exact .inl rfl
    unfold ExO at EX
    generalize Rst.eD s.d (aH rs)=ws at*
    obtain⟨ee,d'⟩:=ws
    simp only at*
    refine Run.cons (enters_of Tryz.func117 (by kernel_rfl) rfl) (by simp) ((aeY _ _ p w5 bo n1 k1 _ _ (ai t5 0 rfl) (ai u5 0 rfl) EX).mono ?_)
    rintro E w6 ⟨rfl,W,⟨F',lw,bk,⟨qo,ui,k1',k2',rfl⟩,kl,kz,ko,kn⟩,kD⟩
    have ko:Out (fun g=>F1 g∨Gw g) w5 W:=(Out.of_below hd5).trans ko fun g hg=>.inl hg
    have kn:∀g,qo g∨ui g→(F1 g∨Gw g)∨w5.heap.size≤g:=kn
    have hsW:=ko.size
    have lt5:∀g,F1 g∨PB p Gw Gr Gs g→g<w5.heap.size:=fun g hg=>by have:=lt0 g hg;omega
    have far:∀g,g=p∨Gr g∨Gs g→¬(qo g∨ui g):=fun g hg e=>by
     rcases kn g e with e|e
     ·exact nW g hg e
     ·have:=lt5 g (.inr (by rcases hg with e|e|e;exact .inl e;exact .inr (.inr (.inl e));exact .inr (.inr (.inr e))));omega
    have hp0:p≠0:=aeb hm5 V5.blk rfl
    have mW:fC W:=gz hm5 ko fun e=>h3.2 (jR 0 e)
    have anp:=(ko.block p (lt5 p (.inr (.inl rfl))) (nW p (.inl rfl))).trans V5.blk
    have asL:Rk pr q Gr W s.r false:=V5.run.out ko fun g hg=>nW g (.inr (.inl hg))
    have as9:Sk ps pr Gs W (s.l.drop (Cm.lastN 0 s.r).toNat):=V5.gK.out ko fun g hg=>nW g (.inr (.inr hg))
    have oW:Out (fun g=>F1 g∨PB p Gw Gr Gs g) w W:=(Out.of_below qE).trans ko fun g hg=>.inl (jR g hg)
    have atM:∀g,w.heap.size≤g→g<w5.heap.size→W.heap[g]? =w5.heap[g]? :=fun g h1 h2=>ko.block g h2 fun e=>by have:=lt0 g (jR g e);omega
    have nF:∀g,qo g∨PB p ui Gr Gs g→(F1 g∨PB p Gw Gr Gs g)∨w.heap.size≤g:=by
     have n':∀g,qo g∨ui g→(F1 g∨PB p Gw Gr Gs g)∨w.heap.size≤g:=fun g e=>(kn g e).imp (jR g) fun e=>by omega
     rintro g (e|e|e|e|e)
     ·exact n' g (.inl e)
     ·exact .inl (.inr (.inl e))
     ·exact n' g (.inr e)
     ·exact .inl (.inr (.inr (.inr (.inl e))))
     ·exact .inl (.inr (.inr (.inr (.inr e))))
    have dis:∀g,PB p ui Gr Gs g→¬qo g:=by
     rintro g (e|e|e|e) k
     ·exact far g (.inl e) (.inl k)
     ·exact wW k2' k1' g e k
     ·exact far g (.inr (.inl e)) (.inl k)
     ·exact far g (.inr (.inr e)) (.inl k)
    have fp:=far p (.inl rfl)
    rcases hee with rfl|rfl
    ·rw[if_neg (by simp)]at hr
     obtain⟨rfl,rfl⟩:=kz rfl
     rcases kD with⟨k,_⟩|⟨_,rfl⟩
     ·exact absurd rfl k
     have oP:Out (fun g=>g=p) W (W.setCell ⟨p,9,none⟩ (.int .i64 ((s.l.length:Int)+(rs.length:Int)))):=Out.aP (ax W ⟨p,9,none⟩ _) fun i hi=>by simpa using hi.symm
     have pz:(W.setCell ⟨p,9,none⟩ (.int .i64 ((s.l.length:Int)+(rs.length:Int)))).heap[p]? =some (.cells (dQ q s.off s.p (.pointer (some ⟨pw,0,none⟩)) ((s.l.length:Int)+(rs.length:Int)) (.pointer (some ⟨pr,0,none⟩)) (.pointer (some ⟨ps,0,none⟩))) 137 (0,0)):=aG anp 9 _
     generalize W.setCell ⟨p,9,none⟩ (.int .i64 ((s.l.length:Int)+(rs.length:Int)))=w6 at*
     have hs6:=oP.size
     have al3:∀g,w.heap.size≤g→g<w5.heap.size→w6.heap[g]? =w5.heap[g]? :=fun g h1 h2=>(oP.block g (by omega) fun e=>by have:=lt0 p (.inr (.inl rfl));omega).trans (atM g h1 h2)
     refine⟨_,rfl,al3 _ (by omega) (by omega),.inr ⟨rfl,?_⟩⟩
     have h16:Pk q qo w6 d':=k1'.agree fun g hg=>oP.block g (k1'.lt g hg) fun e=>fp (.inl (e▸hg))
     have auz:Wk pw q ui w6 (s.l++aH rs) false:=k2'.out oP fun g hg e=>fp (.inr (e▸hg))
     have awS:Rk pr q Gr w6 s.r false:=asL.out oP fun g hg e=>V.np.2.1 (e▸hg)
     have avZ:=as9.out oP fun g hg e=>V.np.2.2 (e▸hg)
     have o6:Out (fun g=>F1 g∨PB p Gw Gr Gs g) w w6:=oW.trans oP fun g hg=>.inl (.inr (.inl hg))
     have m6:fC w6:=gz mW oP fun e=>hp0 e.symm
     have t6:=(al3 _ (by omega) (by omega)).trans t5
     have u6:=(al3 _ (by omega) (by omega)).trans u5
     have hd6:Below w6.heap.size w6 w6.drew:=(Below.refl _ _).drew
     have nS:∀g,g=p∨ui g→¬((qo g∨Gr g)∨Gs g):=by
      rintro g (rfl|e) ((k|k)|k)
      ·exact fp (.inl k)
      ·exact V.np.2.1 k
      ·exact V.np.2.2 k
      ·exact wW k2' k1' g e k
      ·exact far g (.inr (.inl k)) (.inr e)
      ·exact far g (.inr (.inr k)) (.inr e)
     have inS:∀g,(qo g∨Gr g)∨Gs g→(F1 g∨PB p Gw Gr Gs g)∨w.heap.size≤g:=fun g hg=>by
      rcases hg with(e|e)|e
      ·exact nF g (.inl e)
      ·exact .inl (.inr (.inr (.inr (.inl e))))
      ·exact .inl (.inr (.inr (.inr (.inr e))))
     have hds:∀g,Gs g→¬(qo g∨Gr g):=fun g e k=>k.elim (fun k=>far g (.inr (.inr e)) (.inl k)) fun k=>V.rs g k e
     have SW6:SW ps pr q (fun g=>(qo g∨Gr g)∨Gs g) w6.drew ⟨⟨d',s.r,false⟩,s.l.drop (Cm.lastN 0 s.r).toNat⟩:=⟨_,Gs,⟨qo,Gr,h16.below hd6,awS.below hd6,rfl⟩,avZ.below hd6,hds,⟨V.good,V.rest⟩,rfl⟩
     have hnn:=V.le
     have h0n:0≤Cm.lastN 0 s.r:=(Rl.eU V.good).2.1
     have hdr:(s.l++aH rs).drop (Cm.lastN 0 s.r).toNat=s.l.drop (Cm.lastN 0 s.r).toNat++aH rs:=List.drop_append_of_le_length (by omega)
     have hgd:Cm.Good 1 (Cm.lastN 0 s.r) (s.l.drop (Cm.lastN 0 s.r).toNat++aH rs):=by
      have:=Sto.qx (Rst.l8 hgg) (Cm.lastN 0 s.r).toNat (by rw[List.length_append];omega)
      rw[hdr,show(0:Int)+((Cm.lastN 0 s.r).toNat:Int)=Cm.lastN 0 s.r by omega]at this
      exact this
     have TK:=aml p q ps pr _ w6.drew _ _ _ _ _ _ _ n1 k1 bo rs ((hd6.block p (aA pz)).trans pz) SW6 (nS p (.inl rfl)) hgd (fun k=>by
      refine ab7 _ 1 _ ?_
      rw[←List.take_append_drop k (aH rs),←List.append_assoc]at hgd
      exact((Cm.dL _ _ _ _).1 hgd).1) (by rw[List.length_drop];have:=hR.2;omega) hl (fun X hX=>hc X ((o6.trans (Out.of_below (F:=fun _=>False) hd6) fun g hg=>hg.elim).trans hX inS)) hf (fun c hm h0 b hb=>by
      obtain⟨q1,q2⟩:=jH c hm h0 b hb
      have:=o6.size
      exact⟨by have:=hd6.size;omega,fun e=>(inS b e).elim q2 fun e=>by omega⟩)
     refine Run.cons (enters_of Tryz.func119 (by kernel_rfl) rfl) (by simp) ((aej _ _ p w6 bo n1 k1 _ _ (ai t6 0 rfl) (ai u6 0 rfl) TK).mono ?_)
     rintro E w7 ⟨rfl,Fk,⟨FR,Gs',⟨ahJ,Gr',j1,j2,rfl⟩,j3,j4,j5,rfl⟩,o7,n7⟩
     have o7:Out (fun g=>(qo g∨Gr g)∨Gs g) w6 w7:=(Out.of_below hd6).trans o7 fun g hg=>.inl hg
     have n7:∀g,(ahJ g∨Gr' g)∨Gs' g→((qo g∨Gr g)∨Gs g)∨w6.heap.size≤g:=n7
     have z6:=o6.size
     refine⟨_,rfl,o7.block _ (by omega) fun e=>by
      rcases e with(e|e)|e
      ·rcases kn _ (.inl e)with e|e
       ·have:=lt0 _ (jR _ e);omega
       ·omega
      ·have:=lt0 _ (.inr (.inr (.inr (.inl e))));omega
      ·have:=lt0 _ (.inr (.inr (.inr (.inr e))));omega,.inr ⟨rfl,QS.no hr (by decide) ?_⟩⟩
     have aaY:∀g,g=p∨ui g→¬((ahJ g∨Gr' g)∨Gs' g):=fun g hg e=>by
      rcases n7 g e with e|e
      ·exact nS g hg e
      ·have:g<w6.heap.size:=by
        rcases hg with rfl|hg
        ·exact aA pz
        ·exact auz.lt g hg
       omega
     have p7:=(o7.block p (aA pz) (nS p (.inl rfl))).trans pz
     rw[←hcl,List.take_length,←hdr]at j3
     have hlen:((s.l++aH rs).length:Int)=(s.l.length:Int)+(rs.length:Int):=by rw[List.length_append,hcl];omega
     refine⟨_,⟨ahJ,PB p ui Gr' Gs',j1,⟨pw,pr,ps,ui,Gr',Gs',s.l++aH rs,false,false,⟨by rw[hlen];exact p7,auz.out o7 fun g hg=>nS g (.inr hg),j2,j3,List.take_length.symm,fun _=>⟨rfl,rfl,rfl⟩,V.ok,V.fit,by rw[hdr];exact hgd,by show Cm.lastN 0 s.r≤((s.l++aH rs).length:Int);omega,⟨fun e=>fp (.inr e),fun e=>aaY p (.inl rfl) (.inl (.inr e)),fun e=>aaY p (.inl rfl) (.inr e)⟩,fun g hg e=>aaY g (.inr hg) (.inl (.inr e)),fun g hg e=>aaY g (.inr hg) (.inr e),fun g hg e=>j4 g e (.inr hg)⟩,rfl⟩,?_,gz m6 o7 ?_,rfl⟩,o6.trans o7 inS,?_⟩
     ·rintro g (e|e|e|e) k
      ·exact aaY g (.inl e) (.inl (.inl k))
      ·exact aaY g (.inr e) (.inl (.inl k))
      ·exact apA j2 j1 g e k
      ·exact j4 g e (.inl k)
     ·intro e
      rcases inS 0 e with e|e
      ·exact h3.2 e
      ·have:=lt0 p (.inr (.inl rfl));omega
     ·have n':∀g,(ahJ g∨Gr' g)∨Gs' g→(F1 g∨PB p Gw Gr Gs g)∨w.heap.size≤g:=fun g e=>by
       rcases n7 g e with e|e
       ·exact inS g e
       ·exact .inr (by omega)
      rintro g (e|e|e|e|e)
      ·exact n' g (.inl (.inl e))
      ·exact .inl (.inr (.inl e))
      ·exact nF g (.inr (.inr (.inl e)))
      ·exact n' g (.inl (.inr e))
      ·exact n' g (.inr e)
    ·rw[if_pos (by simp)]at hr
     rcases kD with⟨_,rfl⟩|⟨k,_⟩
     case inr=>exact absurd k (by decide)
     refine⟨_,rfl,atM _ (by omega) (by omega),.inl ⟨by decide,by rw[hr],fun k=>absurd rfl k,fun _=>⟨?_,_,_,anp,rfl⟩⟩⟩
     have oZ:Out (fun g=>g=p) w6 (w6.setCell ⟨p,1,none⟩ (.bool true)):=Out.aP (ax w6 ⟨p,1,none⟩ (.bool true)) fun i hi=>by simpa using hi.symm
     have pz:(w6.setCell ⟨p,1,none⟩ (.bool true)).heap[p]? =some (.cells (dQ q true s.p (.pointer (some ⟨pw,0,none⟩)) s.l.length (.pointer (some ⟨pr,0,none⟩)) (.pointer (some ⟨ps,0,none⟩))) 137 (0,0)):=aG anp 1 (.bool true)
     generalize w6.setCell ⟨p,1,none⟩ (.bool true)=Z at*
     rw[hr]
     exact⟨_,⟨qo,PB p ui Gr Gs,k1'.agree fun g hg=>oZ.block g (k1'.lt g hg) fun e=>fp (.inl (e▸hg)),⟨pw,pr,ps,ui,Gr,Gs,lw,bk,false,⟨pz,k2'.out oZ fun g hg e=>fp (.inr (e▸hg)),asL.out oZ fun g hg e=>V.np.2.1 (e▸hg),as9.out oZ fun g hg e=>V.np.2.2 (e▸hg),kl,fun e=>absurd e (by simp),V.ok,V.fit,V.rest,V.le,⟨fun e=>fp (.inr e),V.np.2.1,V.np.2.2⟩,fun g hg e=>far g (.inr (.inl e)) (.inr hg),fun g hg e=>far g (.inr (.inr e)) (.inr hg),V.rs⟩,rfl⟩,dis,gz mW oZ fun e=>hp0 e.symm,rfl⟩,oW.trans oZ fun g hg=>.inl (.inr (.inl hg)),nF⟩
 have HC:=hide (agf (n:=5) rfl (by omega) P3 RUN)
 generalize Rst.add s (aH rs)=r at*
 clear RUN h hR h3 hc hf hl jH b1 b2 b3 P1 P2 P3 s2 s3 z3 iw t3 u3 hS3
 go_enter Tryz.func56,Tryz.ntmps56
 go_wp2_with fail
 refine HC.out.mono ?_
 rintro E w' ⟨rfl,X⟩
 have X:=hide X
 clear HC
 go_wp2
 go_ret
 exact⟨rfl,X.out⟩
end Go.Proofs.YtlmkaljjocflmaaGreatDoor
