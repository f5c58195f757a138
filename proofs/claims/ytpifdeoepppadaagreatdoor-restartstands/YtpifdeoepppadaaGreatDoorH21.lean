/- Texts of one layer, one behind the other. -/
import Derived.Test.YtpifdeoepppadaaGreatDoorH19
import Derived.Test.YtpifdeoepppadaaGreatDoorG4
import Derived.Test.YtpifdeoepppadaaGreatDoorH9
import Derived.Test.YtpifdeoepppadaaGreatDoorH23
import Derived.Test.YtpifdeoepppadaaGreatDoorH18
import Derived.Test.YtpifdeoepppadaaGreatDoorH24
set_option maxRecDepth 100000
set_option maxHeartbeats 8000000
namespace Go.Proofs.YtpifdeoepppadaaGreatDoor
open Go.RowKit
set_option linter.unusedVariables false
theorem aei:∀(l:List Cm.Cv) (ep nu:Int),Cm.Good ep nu l→Cm.lastN nu l=nu+l.length
 |[],_,_,_=>by simp[Cm.lastN]
 |c::r,_,nu,h=>by
  have:=aei r c.e c.n h.2.2.2
  show Cm.lastN c.n r=_
  rw[this,List.length_cons]
  have:=h.2.1
  omega
theorem anE (l m:List Cm.Cv)(ep:Int):Cm.lastE ep (l++m)=Cm.lastE (Cm.lastE ep l) m:=by
 induction l generalizing ep with
 |nil=>rfl
 |cons c r ih=>exact ih c.e
theorem vI (p q:Nat)(F:Nat→Prop)(w:World)(s:Rst.St)(h:PS p q F w s)(hR:yf s)(h3:T3 s.d∧¬F 0)(v:Value)(rs:List Cw)(hc:∀W,Out F w W→fJ W v rs)(hf:fF rs)(hl:rs.length≤100):Calls Tryz.prog 10 #[.pointer (some ⟨p,0,none⟩),v] w fun E w'=>E=.returned (.int .i64 (Rst.add s (aD rs)).1)∧iA p q F w w' (Rst.add s (aD rs)).2:=by
 have qf:∀(fn:Fn) (first cap:Array Value) (w:World),(Instr.makeFunc fn first cap).run Tryz.prog w=.ok (.func fn first cap) w:=fun _ _ _ _=>rfl
 obtain⟨bo,n1,k1,rfl⟩:∃a n k,v=.slice a n k:=by
  rcases(hc w (Out.refl _ _)).1 with⟨h,_⟩|⟨a,c,h,_⟩
  ·exact⟨_,_,_,h⟩
  ·exact⟨_,_,_,h⟩
 obtain⟨w1,hw1,s1,b1,P1⟩:=ay w #[.pointer (some ⟨p,0,none⟩)] 25
 obtain⟨w2,hw2,s2,b2,P2⟩:=ay w1 #[.slice bo n1 k1] 43
 obtain⟨w3,hw3,s3,b3,P3⟩:=ay w2 #[.func (.func 51) #[.pointer (some ⟨p,0,none⟩)] #[],.func (.func 52) #[] #[.pointer (some ⟨w.heap.size,0,none⟩),.pointer (some ⟨w.heap.size+1,0,none⟩)],.func (.func 55) #[] #[.pointer (some ⟨w.heap.size,0,none⟩),.pointer (some ⟨w.heap.size+1,0,none⟩)],.func (.func 59) #[] #[.pointer (some ⟨w.heap.size,0,none⟩),.pointer (some ⟨w.heap.size+1,0,none⟩)],.func (.func 61) #[] #[.pointer (some ⟨w.heap.size,0,none⟩),.pointer (some ⟨w.heap.size+1,0,none⟩)]] 134
 have z2:w2.heap.size=w.heap.size+2:=by omega
 have z3:w3.heap.size=w.heap.size+3:=by omega
 rw[s1]at P2
 rw[z2]at P3
 have fH:Below w.heap.size w w3:=(b1.trans (b2.mono (by omega))).trans (b3.mono (by omega))
 have c2:w2.cell? ⟨w.heap.size,0,none⟩=some (.pointer (some ⟨p,0,none⟩)):=ai ((b2.block _ (by omega)).trans P1) 0 rfl
 have t3:=(b3.block _ (by omega)).trans ((b2.block _ (by omega)).trans P1)
 have u3:=(b3.block _ (by omega)).trans P2
 have qY:=h.below fH
 have jB:∀c∈rs,0<c.l.length→∀b,c.v.ownBlock=some b→b<w.heap.size∧¬F b:=fun c hm h0=>axP (fun W hW=>((hc W hW).2 c hm).1) h0
 have RUN:Run (w.heap.size+2) (QS p q F w (Rst.add s (aD rs))) [.func (.func 51) #[.pointer (some ⟨p,0,none⟩)] #[],.func (.func 52) #[] #[.pointer (some ⟨w.heap.size,0,none⟩),.pointer (some ⟨w.heap.size+1,0,none⟩)],.func (.func 55) #[] #[.pointer (some ⟨w.heap.size,0,none⟩),.pointer (some ⟨w.heap.size+1,0,none⟩)],.func (.func 59) #[] #[.pointer (some ⟨w.heap.size,0,none⟩),.pointer (some ⟨w.heap.size+1,0,none⟩)],.func (.func 61) #[] #[.pointer (some ⟨w.heap.size,0,none⟩),.pointer (some ⟨w.heap.size+1,0,none⟩)]] w3:=by
  refine wU qY (iA.same h fH) (fun k=>by unfold Rst.add;rw[if_pos k]) fun gu=>?_
  have hon:s.d.on=true:=by
   unfold Rst.asked at gu
   revert gu
   cases s.d.on<;>simp
  have hoff:s.off=false:=by
   unfold Rst.asked at gu
   revert gu
   cases s.off<;>simp
  obtain⟨F1,G,h1,⟨pw,pr,ps,Gw,Gr,Gs,lw,bw,br,V,rfl⟩,hd,hm,rfl⟩:=qY
  obtain⟨rfl,rfl,rfl⟩:=V.live hoff
  have hgl:Cm.Good 0 0 s.l:=V.wal.good
  have hcl:(aD rs).length=rs.length:=by unfold aD;simp
  refine Run.cons (enters_of Tryz.func52 (by kernel_rfl) rfl) (by simp) ((aqI _ _ p q pw _ w3 _ _ _ _ _ _ bo n1 k1 rs t3 u3 V.blk (V.ww h1) (hc w3 (Out.of_below fH)) hf hl).mono ?_)
  rintro E w4 ⟨rfl,b4⟩
  have nI:=fH.trans (b4.mono (by omega))
  have z4:=b4.size
  refine⟨_,rfl,b4.block _ (by omega),?_⟩
  simp only
  by_cases hfo:(Cm.fol (Cm.lastE 0 s.l) s.l.length 0 (aD rs)).1=0
  case neg=>
   have h6:(Cm.fol (Cm.lastE 0 s.l) s.l.length 0 (aD rs)).1≠6:=Rst.zA _ _ _ _
   exact .inl ⟨hfo,QS.no (s1:=s) (by unfold Rst.add;rw[if_neg (by simp[gu]),if_pos hfo]) h6 (iA.same h nI)⟩
  refine .inr ⟨hfo,?_⟩
  have hg:Cm.Good (Cm.lastE 0 s.l) s.l.length (aD rs):=(Cm.il _ _ _ 0).1 hfo
  have V4:=V.below b4
  have h14:=h1.below b4
  have t4:=(b4.block _ (by omega)).trans t3
  have u4:=(b4.block _ (by omega)).trans u3
  have hb:=V4.blk
  have SC:=ym p q pw pr _ _ w4 _ _ _ _ _ _ hb (V4.ww h14) (V4.rw h14) 57 #[.pointer (some ⟨w.heap.size+1,0,none⟩)] (enters_of Tryz.func57 (by kernel_rfl) rfl) s.p _ _ _ (Rst.hf 3 s.d).length (avf w4 p (w.heap.size+1) s.p _ _ _ _ rs u4 (fun W hW=>hc W (Out.of_below (nI.trans (hW.mono (by omega))))) (by have:=hR.2;omega) hl) (fun _=>akX p q F1 w4 s.d h14 hR.1 (ai hb 0 rfl) (aA hb) hon h3.1)
  simp only at SC
  rw[←anE,show(s.l.length:Int)+(rs.length:Int)=((s.l++aD rs).length:Int)by rw[List.length_append,hcl];omega,zx V.ok]at SC
  refine Run.cons (enters_of Tryz.func55 (by kernel_rfl) rfl) (by simp) ((aqR _ _ p w4 _ (ai t4 0 rfl) SC).mono ?_)
  rintro E w5 ⟨rfl,b5⟩
  have oH:=nI.trans (b5.mono (by omega))
  have z5:=b5.size
  refine⟨_,rfl,b5.block _ (by omega),?_⟩
  have hfi:Rst.fine s s.p (s.l++aD rs) (Cm.lastN 0 s.r)=Rst.snd s.p (s.l++aD rs) (Cm.lastN 0 s.r) (Rst.hf 3 s.d).length:=rfl
  cases hsn:Rst.snd s.p (s.l++aD rs) (Cm.lastN 0 s.r) (Rst.hf 3 s.d).length with
  |false=>
   rw[if_neg (by simp)]
   exact .inl ⟨by decide,QS.no (s1:=s) (by unfold Rst.add;rw[if_neg (by simp[gu]),if_neg (by simp[hfo]),if_pos (hfi.trans hsn)]) (by decide) (iA.same h oH)⟩
  |true=>
   rw[if_pos rfl]
   refine .inr ⟨rfl,?_⟩
   have V5:=V4.below b5
   have h15:=h14.below b5
   have hm5:=(hm.below b4).below b5
   have t5:=(b5.block _ (by omega)).trans t4
   have u5:=(b5.block _ (by omega)).trans u4
   have hd5:Below w5.heap.size w5 w5.drew:=(Below.refl _ _).drew
   have hb5:Below w.heap.size w w5.drew:=oH.trans (hd5.mono (by omega))
   have jD:∀g,F1 g∨PB p Gw Gr Gs g→g<w.heap.size:=fun g hg=>h.lt g hg
   have nW:∀g,g=p∨Gr g∨Gs g→¬(F1 g∨Gw g):=by
    rintro g (rfl|e|e) (k|k)
    ·exact hd _ (.inl rfl) k
    ·exact V.np.1 k
    ·exact hd _ (.inr (.inr (.inl e))) k
    ·exact V.wr g k e
    ·exact hd _ (.inr (.inr (.inr e))) k
    ·exact V.ws g k e
   have iV:∀g,F1 g∨Gw g→F1 g∨PB p Gw Gr Gs g:=fun g hg=>hg.imp id fun e=>.inr (.inl e)
   have hgg:Cm.Good 0 0 (s.l++aD rs):=(Cm.dG _ _ _ _).2 ⟨hgl,by rw[Wl.kU hgl];exact hg⟩
   by_cases hne:rs.length=0
   ·
    obtain rfl:rs=[]:=List.eq_nil_of_length_eq_zero hne
    have hr:Rst.add s (aD [])=(0,s):=by
     unfold Rst.add
     rw[if_neg (by simp[gu]),if_neg (by simp[hfo]),if_neg (by rw[hfi,hsn];simp)]
     rfl
    obtain rfl:n1=0:=by
     rcases(hc w (Out.refl _ _)).1 with⟨h,_⟩|⟨a,k,h,_⟩
     ·cases h;rfl
     ·cases h;rfl
    refine Run.cons (enters_of Tryz.func59 (by kernel_rfl) rfl) (by simp) ((ah5 _ _ p w5 bo 0 k1 _ _ (ai t5 0 rfl) (ai u5 0 rfl) (aiv _ bo k1 w5.drew)).mono ?_)
    rintro E w6 ⟨rfl,rfl⟩
    refine⟨_,rfl,rfl,.inr ⟨rfl,?_⟩⟩
    have t6:=(hd5.block _ (by omega)).trans t5
    have u6:=(hd5.block _ (by omega)).trans u5
    refine Run.cons (enters_of Tryz.func61 (by kernel_rfl) rfl) (by simp) ((agC _ _ p w5.drew bo 0 k1 _ _ (ai t6 0 rfl) (ai u6 0 rfl) (amJ _ bo k1 w5.drew.drew)).mono ?_)
    rintro E w7 ⟨rfl,rfl⟩
    exact⟨_,rfl,rfl,.inr ⟨rfl,QS.no hr (by decide) (iA.same h hb5.drew)⟩⟩
   ·have h0:0<rs.length:=by omega
    have EX:=ak9 p q pw _ w5.drew _ _ _ _ s.d s.l (.slice bo n1 k1) rs ((V5.below hd5).blk) ((V5.below hd5).ww (h15.below hd5)) (nW p (.inl rfl)) hR.1 hR.2 hg hl h0 (fun W hW=>hc W ((Out.of_below hb5).trans hW fun g hg=>.inl (iV g hg))) hf (fun c hm h0 b hb=>by
     obtain⟨q1,q2⟩:=jB c hm h0 b hb
     have:=hb5.size
     exact⟨by omega,fun e=>q2 (iV b e)⟩)
    have hr:Rst.add s (aD rs)=if (Rst.fK s.d (aD rs)).1≠0 then(6,⟨(Rst.fK s.d (aD rs)).2,s.p,s.l,s.r,true⟩)else(0,⟨(Rst.fK s.d (aD rs)).2,s.p,s.l++aD rs,s.r,s.off⟩):=by
     unfold Rst.add
     rw[if_neg (by simp[gu]),if_neg (by simp[hfo]),if_neg (by rw[hfi,hsn];simp),if_neg (by intro e;rw[e]at hcl;simp at hcl;omega)]
    have qU:(Rst.fK s.d (aD rs)).1=0∨(Rst.fK s.d (aD rs)).1=6:=by
     unfold Rst.fK
     split
     ·exact .inr rfl
     ·split
      ·exact .inr rfl
      ·exact .inl rfl
    unfold ExO at EX
    generalize Rst.fK s.d (aD rs)=ws at*
    obtain⟨ee,d'⟩:=ws
    simp only at*
    refine Run.cons (enters_of Tryz.func59 (by kernel_rfl) rfl) (by simp) ((ah5 _ _ p w5 bo n1 k1 _ _ (ai t5 0 rfl) (ai u5 0 rfl) EX).mono ?_)
    rintro E w6 ⟨rfl,W,⟨F',lw,bk,⟨kM,xO,k1',k2',rfl⟩,kl,kz,ko,kn⟩,uz⟩
    have ko:Out (fun g=>F1 g∨Gw g) w5 W:=(Out.of_below hd5).trans ko fun g hg=>.inl hg
    have kn:∀g,kM g∨xO g→(F1 g∨Gw g)∨w5.heap.size≤g:=kn
    have hsW:=ko.size
    have lt5:∀g,F1 g∨PB p Gw Gr Gs g→g<w5.heap.size:=fun g hg=>by have:=jD g hg;omega
    have far:∀g,g=p∨Gr g∨Gs g→¬(kM g∨xO g):=fun g hg e=>by
     rcases kn g e with e|e
     ·exact nW g hg e
     ·have:=lt5 g (.inr (by rcases hg with e|e|e;exact .inl e;exact .inr (.inr (.inl e));exact .inr (.inr (.inr e))));omega
    have hp0:p≠0:=acB hm5 V5.blk rfl
    have mW:ib W:=gm hm5 ko fun e=>h3.2 (iV 0 e)
    have aoZ:=(ko.block p (lt5 p (.inr (.inl rfl))) (nW p (.inl rfl))).trans V5.blk
    have av6:Rk pr q Gr W s.r false:=V5.run.out ko fun g hg=>nW g (.inr (.inl hg))
    have ayo:Sk ps pr Gs W (s.l.drop (Cm.lastN 0 s.r).toNat):=V5.aZ.out ko fun g hg=>nW g (.inr (.inr hg))
    have oW:Out (fun g=>F1 g∨PB p Gw Gr Gs g) w W:=(Out.of_below oH).trans ko fun g hg=>.inl (iV g hg)
    have aw9:∀g,w.heap.size≤g→g<w5.heap.size→W.heap[g]? =w5.heap[g]? :=fun g h1 h2=>ko.block g h2 fun e=>by have:=jD g (iV g e);omega
    have nF:∀g,kM g∨PB p xO Gr Gs g→(F1 g∨PB p Gw Gr Gs g)∨w.heap.size≤g:=by
     have n':∀g,kM g∨xO g→(F1 g∨PB p Gw Gr Gs g)∨w.heap.size≤g:=fun g e=>(kn g e).imp (iV g) fun e=>by omega
     rintro g (e|e|e|e|e)
     ·exact n' g (.inl e)
     ·exact .inl (.inr (.inl e))
     ·exact n' g (.inr e)
     ·exact .inl (.inr (.inr (.inr (.inl e))))
     ·exact .inl (.inr (.inr (.inr (.inr e))))
    have dis:∀g,PB p xO Gr Gs g→¬kM g:=by
     rintro g (e|e|e|e) k
     ·exact far g (.inl e) (.inl k)
     ·exact oC k2' k1' g e k
     ·exact far g (.inr (.inl e)) (.inl k)
     ·exact far g (.inr (.inr e)) (.inl k)
    have fp:=far p (.inl rfl)
    rcases qU with rfl|rfl
    ·rw[if_neg (by simp)]at hr
     obtain⟨rfl,rfl⟩:=kz rfl
     rcases uz with⟨k,_⟩|⟨_,rfl⟩
     ·exact absurd rfl k
     have oP:Out (fun g=>g=p) W (W.setCell ⟨p,9,none⟩ (.int .i64 ((s.l.length:Int)+(rs.length:Int)))):=Out.aT (aC W ⟨p,9,none⟩ _) fun i hi=>by simpa using hi.symm
     have pz:(W.setCell ⟨p,9,none⟩ (.int .i64 ((s.l.length:Int)+(rs.length:Int)))).heap[p]? =some (.cells (fw q s.off s.p (.pointer (some ⟨pw,0,none⟩)) ((s.l.length:Int)+(rs.length:Int)) (.pointer (some ⟨pr,0,none⟩)) (.pointer (some ⟨ps,0,none⟩))) 60 (0,0)):=aL aoZ 9 _
     generalize W.setCell ⟨p,9,none⟩ (.int .i64 ((s.l.length:Int)+(rs.length:Int)))=w6 at*
     have hs6:=oP.size
     have ao1:∀g,w.heap.size≤g→g<w5.heap.size→w6.heap[g]? =w5.heap[g]? :=fun g h1 h2=>(oP.block g (by omega) fun e=>by have:=jD p (.inr (.inl rfl));omega).trans (aw9 g h1 h2)
     refine⟨_,rfl,ao1 _ (by omega) (by omega),.inr ⟨rfl,?_⟩⟩
     have h16:Pk q kM w6 d':=k1'.agree fun g hg=>oP.block g (k1'.lt g hg) fun e=>fp (.inl (e▸hg))
     have ah1:Wk pw q xO w6 (s.l++aD rs) false:=k2'.out oP fun g hg e=>fp (.inr (e▸hg))
     have az9:Rk pr q Gr w6 s.r false:=av6.out oP fun g hg e=>V.np.2.1 (e▸hg)
     have aBT:=ayo.out oP fun g hg e=>V.np.2.2 (e▸hg)
     have o6:Out (fun g=>F1 g∨PB p Gw Gr Gs g) w w6:=oW.trans oP fun g hg=>.inl (.inr (.inl hg))
     have m6:ib w6:=gm mW oP fun e=>hp0 e.symm
     have t6:=(ao1 _ (by omega) (by omega)).trans t5
     have u6:=(ao1 _ (by omega) (by omega)).trans u5
     have hd6:Below w6.heap.size w6 w6.drew:=(Below.refl _ _).drew
     have nS:∀g,g=p∨xO g→¬((kM g∨Gr g)∨Gs g):=by
      rintro g (rfl|e) ((k|k)|k)
      ·exact fp (.inl k)
      ·exact V.np.2.1 k
      ·exact V.np.2.2 k
      ·exact oC k2' k1' g e k
      ·exact far g (.inr (.inl k)) (.inr e)
      ·exact far g (.inr (.inr k)) (.inr e)
     have inS:∀g,(kM g∨Gr g)∨Gs g→(F1 g∨PB p Gw Gr Gs g)∨w.heap.size≤g:=fun g hg=>by
      rcases hg with(e|e)|e
      ·exact nF g (.inl e)
      ·exact .inl (.inr (.inr (.inr (.inl e))))
      ·exact .inl (.inr (.inr (.inr (.inr e))))
     have hds:∀g,Gs g→¬(kM g∨Gr g):=fun g e k=>k.elim (fun k=>far g (.inr (.inr e)) (.inl k)) fun k=>V.rs g k e
     have SW6:SW ps pr q (fun g=>(kM g∨Gr g)∨Gs g) w6.drew ⟨⟨d',s.r,false⟩,s.l.drop (Cm.lastN 0 s.r).toNat⟩:=⟨_,Gs,⟨kM,Gr,h16.below hd6,az9.below hd6,rfl⟩,aBT.below hd6,hds,⟨V.good,V.rest⟩,rfl⟩
     have hnn:=V.le
     have h0n:0≤Cm.lastN 0 s.r:=(Rl.eB V.good).2.1
     have hdr:(s.l++aD rs).drop (Cm.lastN 0 s.r).toNat=s.l.drop (Cm.lastN 0 s.r).toNat++aD rs:=List.drop_append_of_le_length (by omega)
     have hgd:Cm.Good 1 (Cm.lastN 0 s.r) (s.l.drop (Cm.lastN 0 s.r).toNat++aD rs):=by
      have:=Sto.l8 (Rst.mI hgg) (Cm.lastN 0 s.r).toNat (by rw[List.length_append];omega)
      rw[hdr,show(0:Int)+((Cm.lastN 0 s.r).toNat:Int)=Cm.lastN 0 s.r by omega]at this
      exact this
     have TK:=aqH p q ps pr _ w6.drew _ _ _ _ _ _ _ n1 k1 bo rs ((hd6.block p (aA pz)).trans pz) SW6 (nS p (.inl rfl)) hgd (fun k=>by
      refine aei _ 1 _ ?_
      rw[←List.take_append_drop k (aD rs),←List.append_assoc]at hgd
      exact((Cm.dG _ _ _ _).1 hgd).1) (by rw[List.length_drop];have:=hR.2;omega) hl (fun X hX=>hc X ((o6.trans (Out.of_below (F:=fun _=>False) hd6) fun g hg=>hg.elim).trans hX inS)) hf (fun c hm h0 b hb=>by
      obtain⟨q1,q2⟩:=jB c hm h0 b hb
      have:=o6.size
      exact⟨by have:=hd6.size;omega,fun e=>(inS b e).elim q2 fun e=>by omega⟩)
     refine Run.cons (enters_of Tryz.func61 (by kernel_rfl) rfl) (by simp) ((agC _ _ p w6 bo n1 k1 _ _ (ai t6 0 rfl) (ai u6 0 rfl) TK).mono ?_)
     rintro E w7 ⟨rfl,Fk,⟨FR,rW,⟨akF,ry,j1,j2,rfl⟩,j3,j4,j5,rfl⟩,o7,n7⟩
     have o7:Out (fun g=>(kM g∨Gr g)∨Gs g) w6 w7:=(Out.of_below hd6).trans o7 fun g hg=>.inl hg
     have n7:∀g,(akF g∨ry g)∨rW g→((kM g∨Gr g)∨Gs g)∨w6.heap.size≤g:=n7
     have z6:=o6.size
     refine⟨_,rfl,o7.block _ (by omega) fun e=>by
      rcases e with(e|e)|e
      ·rcases kn _ (.inl e)with e|e
       ·have:=jD _ (iV _ e);omega
       ·omega
      ·have:=jD _ (.inr (.inr (.inr (.inl e))));omega
      ·have:=jD _ (.inr (.inr (.inr (.inr e))));omega,.inr ⟨rfl,QS.no hr (by decide) ?_⟩⟩
     have adb:∀g,g=p∨xO g→¬((akF g∨ry g)∨rW g):=fun g hg e=>by
      rcases n7 g e with e|e
      ·exact nS g hg e
      ·have:g<w6.heap.size:=by
        rcases hg with rfl|hg
        ·exact aA pz
        ·exact ah1.lt g hg
       omega
     have p7:=(o7.block p (aA pz) (nS p (.inl rfl))).trans pz
     rw[←hcl,List.take_length,←hdr]at j3
     have hlen:((s.l++aD rs).length:Int)=(s.l.length:Int)+(rs.length:Int):=by rw[List.length_append,hcl];omega
     refine⟨_,⟨akF,PB p xO ry rW,j1,⟨pw,pr,ps,xO,ry,rW,s.l++aD rs,false,false,⟨by rw[hlen];exact p7,ah1.out o7 fun g hg=>nS g (.inr hg),j2,j3,List.take_length.symm,fun _=>⟨rfl,rfl,rfl⟩,V.ok,V.fit,by rw[hdr];exact hgd,by show Cm.lastN 0 s.r≤((s.l++aD rs).length:Int);omega,⟨fun e=>fp (.inr e),fun e=>adb p (.inl rfl) (.inl (.inr e)),fun e=>adb p (.inl rfl) (.inr e)⟩,fun g hg e=>adb g (.inr hg) (.inl (.inr e)),fun g hg e=>adb g (.inr hg) (.inr e),fun g hg e=>j4 g e (.inr hg)⟩,rfl⟩,?_,gm m6 o7 ?_,rfl⟩,o6.trans o7 inS,?_⟩
     ·rintro g (e|e|e|e) k
      ·exact adb g (.inl e) (.inl (.inl k))
      ·exact adb g (.inr e) (.inl (.inl k))
      ·exact tT j2 j1 g e k
      ·exact j4 g e (.inl k)
     ·intro e
      rcases inS 0 e with e|e
      ·exact h3.2 e
      ·have:=jD p (.inr (.inl rfl));omega
     ·have n':∀g,(akF g∨ry g)∨rW g→(F1 g∨PB p Gw Gr Gs g)∨w.heap.size≤g:=fun g e=>by
       rcases n7 g e with e|e
       ·exact inS g e
       ·exact .inr (by omega)
      rintro g (e|e|e|e|e)
      ·exact n' g (.inl (.inl e))
      ·exact .inl (.inr (.inl e))
      ·exact nF g (.inr (.inr (.inl e)))
      ·exact n' g (.inl (.inr e))
      ·exact n' g (.inr e)
    ·rw[if_pos (by simp)]at hr
     rcases uz with⟨_,rfl⟩|⟨k,_⟩
     case inr=>exact absurd k (by decide)
     refine⟨_,rfl,aw9 _ (by omega) (by omega),.inl ⟨by decide,by rw[hr],fun k=>absurd rfl k,fun _=>⟨?_,_,_,aoZ,rfl⟩⟩⟩
     have oZ:Out (fun g=>g=p) w6 (w6.setCell ⟨p,1,none⟩ (.bool true)):=Out.aT (aC w6 ⟨p,1,none⟩ (.bool true)) fun i hi=>by simpa using hi.symm
     have pz:(w6.setCell ⟨p,1,none⟩ (.bool true)).heap[p]? =some (.cells (fw q true s.p (.pointer (some ⟨pw,0,none⟩)) s.l.length (.pointer (some ⟨pr,0,none⟩)) (.pointer (some ⟨ps,0,none⟩))) 60 (0,0)):=aL aoZ 1 (.bool true)
     generalize w6.setCell ⟨p,1,none⟩ (.bool true)=Z at*
     rw[hr]
     exact⟨_,⟨kM,PB p xO Gr Gs,k1'.agree fun g hg=>oZ.block g (k1'.lt g hg) fun e=>fp (.inl (e▸hg)),⟨pw,pr,ps,xO,Gr,Gs,lw,bk,false,⟨pz,k2'.out oZ fun g hg e=>fp (.inr (e▸hg)),av6.out oZ fun g hg e=>V.np.2.1 (e▸hg),ayo.out oZ fun g hg e=>V.np.2.2 (e▸hg),kl,fun e=>absurd e (by simp),V.ok,V.fit,V.rest,V.le,⟨fun e=>fp (.inr e),V.np.2.1,V.np.2.2⟩,fun g hg e=>far g (.inr (.inl e)) (.inr hg),fun g hg e=>far g (.inr (.inr e)) (.inr hg),V.rs⟩,rfl⟩,dis,gm mW oZ fun e=>hp0 e.symm,rfl⟩,oW.trans oZ fun g hg=>.inl (.inr (.inl hg)),nF⟩
 have HC:=hide (zo (n:=5) rfl (by omega) P3 RUN)
 generalize Rst.add s (aD rs)=r at*
 clear RUN h hR h3 hc hf hl jB b1 b2 b3 P1 P2 P3 s2 s3 z3 fH t3 u3 qY
 go_enter Tryz.func10,Tryz.ntmps10
 go_wp2_with fail
 refine HC.out.mono ?_
 rintro E w' ⟨rfl,X⟩
 have X:=hide X
 clear HC
 go_wp2
 go_ret
 exact⟨rfl,X.out⟩
end Go.Proofs.YtpifdeoepppadaaGreatDoor
namespace Go.Proofs.YtpifdeoepppadaaGreatDoor
end Go.Proofs.YtpifdeoepppadaaGreatDoor
namespace Go.Proofs.YtpifdeoepppadaaGreatDoor
open Go.RowKit
set_option linter.unusedVariables false
structure Lv (w0 w:World) (p q:Nat) (F:Nat→Prop) (s:Rst.St):Prop where
 st:PS p q F w s
 new:∀g,F g→w0.heap.size≤g∧0<g
 aF:Below w0.heap.size w0 w
section
variable {w0 w w':World} {p q:Nat} {F:Nat→Prop} {s s':Rst.St} {z:Pm.Pg} {ps:List Pm.Pg} {ss:List Orp.Se} {n:Nat}
theorem Lv.below (h:Lv w0 w p q F s)(hb:Below w.heap.size w w'):Lv w0 w' p q F s:=
 ⟨h.st.agree (fun g hg=>hb.block g (h.st.lt g hg)) hb.size (h.st.gB.below hb),h.new,h.aF.trans (hb.mono h.aF.size)⟩
theorem Lv.step (h:Lv w0 w p q F s)(k:iA p q F w w' s'):∃F',Lv w0 w' p q F' s':=by
 obtain⟨F',k1,k2,k3⟩:=k
 have hs:=h.aF.size
 refine⟨F',k1,fun g hg=>?_,h.aF.trans (k2.below (fun g hg=>(h.new g hg).1) hs)⟩
 rcases k3 g hg with e|e
 ·exact h.new g e
 ·have:=h.st.gB.pos
  omega
theorem Lv.n0 (h:Lv w0 w p q F s):¬F 0:=fun e=>by have:=(h.new 0 e).2;omega
theorem Lv.outs {G:Nat→Prop}(h:Lv w0 w p q F s)(o:Out G w w')(hd:∀g,F g→¬G g)(hG:∀g,G g→w0.heap.size≤g∧0<g):Lv w0 w' p q F s:=
 ⟨h.st.agree (fun g hg=>o.block g (h.st.lt g hg) (hd g hg)) o.size (gm h.st.gB o fun e=>by have:=(hG 0 e).2;omega),h.new,h.aF.trans (o.below (fun g hg=>(hG g hg).1) h.aF.size)⟩
theorem dD (h:Rz n s)(hn:n≤500):yf s:=⟨h.1.mono (by omega) (by omega),by have:=h.2.1;omega⟩
end
def sO:Bm.Ov:=⟨true,⟨#[97]⟩,⟨#[49]⟩⟩
theorem arM:Bm.eF [sO]=0:=by decide
theorem zC {e n:Int}(h:1≤e∧e≤1048576∧1≤n∧n≤1048576):Cm.aJ e n [sO]=0:=by rw[Cm.agJ h,arM]
theorem mf (e n:Int)(w:World):
  Calls Tryz.prog 11 #[.int .i64 e,.int .i64 n] w fun E w'=>∃a k,E=.returned (.agg #[.int .i64 e,.int .i64 n,.slice a 1 k])∧aV 106 w.heap.size w' (.slice a 1 k) [sO]∧Below w.heap.size w w':=by
 obtain⟨w1,hw1,bH,ax,hR⟩:=ay w #[.int .i64 0,.int .i64 0,.slice none 0 0] 32
 obtain⟨w2,hw2,fA,aB,bq⟩:=lN 106 w1 #[.bool true,.string ⟨#[97]⟩,.string ⟨#[49]⟩] 1 [sO] rfl rfl (by simp[maxLen])
 have hR2:=(aB.block w.heap.size (by omega)).trans hR
 have aY:Below w.heap.size w w2:=ax.trans (aB.mono (by omega))
 rw[bH]at bq
 obtain⟨V',hV',ic,dK,⟨a0,a1,a2⟩,⟨f0,f1,f2⟩,⟨z0,z1,z2⟩⟩:=dN hR2 (.int .i64 e) (.int .i64 n) (.slice (some ⟨w.heap.size+1,0,none⟩) 1 1)
 have eO:=aK aY dK (Nat.le_refl _) (by omega)
 have qi:=(bq.qz dK (by omega)).bz (base':=w.heap.size) (by omega)
 clear hR hR2 ax aB bq ic dK aY
 go_enter Tryz.func11,Tryz.ntmps11
 go_wp2
 refine bodyPost_ret (v:=.agg #[.int .i64 e,.int .i64 n,.slice (some ⟨w.heap.size+1,0,none⟩) 1 1]) (by simp[results,Tryz.results11,go_sem,z0,z1,z2]) rfl ?_
 exact⟨_,_,rfl,qi,eO⟩
theorem qL {b:Nat}{w:World}{v:Value}{cs:List Cw}(h:gL b w v cs):fJ w v cs:=⟨h.c.row,fun c hc=>⟨(h.o c hc).is,h.i c hc⟩⟩
theorem ajv {b:Nat}{w:World}{e n:Int}{v:Value}{l:List Bm.Ov}(ho:aV 106 b w v l)(hb:b≤w.heap.size)(hf:adH e n l):
  ∃V,w.alloc (.cells #[.int .i64 e,.int .i64 n,v] 32)=V∧V.heap.size=w.heap.size+1∧Below w.heap.size w V∧gL b V (.slice (some ⟨w.heap.size,0,none⟩) 1 1) [⟨e,n,v,l⟩]:=by
 obtain⟨V,hV,fE,bn,iE⟩:=gN 32 w #[.int .i64 e,.int .i64 n,v] 1 [⟨e,n,v,l⟩] rfl rfl (by simp[maxLen])
 refine⟨V,hV,fE,bn,kT iE hb,fun c hc=>?_,fun c hc=>?_,fun i j c d hij hi hj=>?_,fun c hc=>?_⟩
 ·rw[List.mem_singleton.1 hc];exact ho.below bn
 ·rw[List.mem_singleton.1 hc];exact⟨hf.1,hf.2.1⟩
 ·have h1:=(List.getElem?_eq_some_iff.1 hi).1
  have h2:=(List.getElem?_eq_some_iff.1 hj).1
  simp only[List.length_singleton]at h1 h2
  omega
 ·rw[List.mem_singleton.1 hc];exact⟨hf.2.2.1,by have:=hf.2.2.2;show l.length*40≤_;omega⟩
def z0:Pm.Pg:=⟨1,1,0,0,0,0⟩
def kK:Rst.St:=⟨Dm.new,z0,[],[],false⟩
def c11:Cm.Cv:=⟨1,1,[sO]⟩
theorem axh:Rst.In z0 kK [] []:=Rst.yK z0 (by decide)
theorem yP:Rz 1 kK:=⟨uw.mono (by omega) (by omega),by simp[kK],acI⟩
theorem vg:(Rst.add kK [c11]).1=0∧Rst.In z0 (Rst.add kK [c11]).2 [] []∧(Rst.add kK [c11]).2.p=z0∧(Rst.add kK [c11]).2.l=[c11]∧(Rst.add kK [c11]).2.r=[]∧(Rst.add kK [c11]).2.d.has=false:=
 Rst.axp axh rfl (cs:=[c11]) ((Cm.il _ _ _ 0).2 ⟨zC (by decide),by decide,by decide,trivial⟩) (Rst.pG (by decide) (by decide) (by decide) (by decide) rfl)
theorem av7 {e a:Int}(h1:1≤e)(h2:e≤1048576)(h3:0≤a)(h4:a≤1048576):Pm.Ok ⟨e,1,a,0,0,0⟩:=⟨⟨h1,h2,h3,h4,by simp,by simp,by simp,by simp⟩,.inl ⟨rfl,rfl,rfl,rfl⟩⟩
def z1:Pm.Pg:=⟨1,1,1,0,0,0⟩
def qa:Rst.St:=(Rst.add kK [c11]).2
def rM:Rst.St:=(Rst.bQ qa z1).2
def uM:Rst.St:=(Rst.aR rM 1).2
theorem acJ:(Rst.bQ qa z1).1=0∧Rst.In z0 rM [z1] []∧rM.p=z1∧rM.l=[c11]∧rM.r=[]∧rM.d.has=false:=by
 obtain⟨_,h2,h3,h4,h5,h6⟩:=vg
 have:=Rst.auJ (q:=z1) h2 h6 (Pm.iD (av7 (by decide) (by decide) (by decide) (by decide))) (by
  rw[h4,h5]
  exact Rst.pG (by decide) (by decide) (by decide) (by decide) rfl)
 rw[h4,h5]at this
 exact this
theorem ajB:Rst.aZ rM=⟨⟨rM.d,[],false⟩,[c11]⟩:=by
 obtain⟨_,h2,_,h4,h5,_⟩:=acJ
 unfold Rst.aZ
 rw[h4,h5,h2.off]
 rfl
theorem ah3:(Rst.aR rM 1).1=0∧Rst.In z0 uM [z1] []∧uM.p=z1∧uM.l=[c11]∧uM.r.length=1∧uM.d.has=false:=by
 obtain⟨_,h2,h3,h4,h5,h6⟩:=acJ
 have:=Rst.anR (u:=1) h2 h6 (by rw[h5];decide) (by rw[h4];decide) (by
  rw[h3,h4]
  exact Rst.pG (by decide) (by decide) (by decide) (by decide) rfl) (by rw[ajB];decide)
 obtain⟨k1,k2,k3,k4,k5,k6⟩:=this
 refine⟨k1,k2,k3.trans h3,k4.trans h4,?_,k6⟩
 show(Rst.aR rM 1).2.r.length=1
 rw[k5,h5]
 rfl
theorem ajl:gv (Sto.fold (Rst.aZ uM)) ⟨#[97]⟩=⟨#[49]⟩∧gp (Sto.fold (Rst.aZ uM)) ⟨#[97]⟩=true:=by
 have e:Sto.fold (Rst.aZ uM)=Sto.fold (Rst.aZ rM):=by
  obtain⟨_,h2,_,h4,h5,_⟩:=acJ
  exact Rst.aaQ h2 1
 rw[e,ajB]
 exact⟨by rfl,by rfl⟩
theorem afs:Rz 2 qa∧Rz 3 rM∧Rz 4 uM:=by
 have h1:=afT yP [c11] (by simp)
 have h2:=an1 h1 z1
 exact⟨h1,h2,abZ h2 1⟩
theorem vP (w:World)(hm:ib w)(node:Int)(hn:node=0∨node=1)(q:Nat)(hq:w.heap.size≤q)(w1:World)(h:Pk q (fun g=>g=q) w1 Dm.new)(hb:Below w.heap.size w w1):
  Calls Tryz.prog 9 #[.pointer (some ⟨q,0,none⟩),.int .i64 node] w1 fun E w'=>∃p F,E=.returned (.tuple #[.pointer (some ⟨p,0,none⟩),.int .i64 0])∧Lv w w' p q F ⟨Dm.new,fst node,[],[],false⟩:=by
 have h0:=hm.pos
 have hz:(fst node).e=1∧(fst node).a=0∧(fst node).p=0∧(fst node).r≠3:=by rcases hn with rfl|rfl<;>decide
 refine(zm q _ w1 Dm.new node h (hm.below hb) (by show ¬(0=q);omega) (uw.mono (by omega) (by omega)) hn rfl (fun m p g r ss SC=>by have e:=((Rst.yK (fst node) hz).again SC).1;rw[e];simp)).mono ?_
 rintro E w' ⟨m,p,g,r,ss,SC,F',⟨k1,k2,k3⟩,hc⟩
 obtain⟨e1,e2,e3,e4,e5,e6⟩:=(Rst.yK (fst node) hz).again SC.out
 subst e1 e2 e3 e4
 rcases hc with⟨c1,_⟩|⟨_,ps,G,rfl,k4,k5⟩
 ·exact absurd e5 c1
 ·rw[e6]at k1 k4
  have hs:=hb.size
  refine⟨ps,_,rfl,⟨F',G,k1,k4,fun g hg=>(k5 g hg).2,gm (hm.below hb) k2 (by show ¬(0=q);omega),rfl⟩,fun g hg=>?_,hb.trans (k2.below (fun g hg=>by rw[hg];exact hq) hs)⟩
  rcases hg with hg|hg
  ·rcases k3 g hg with e|e
   ·rw[e];omega
   ·omega
  ·have:=(k5 g hg).1;omega
theorem om (w:World)(hm:ib w):Calls Tryz.prog 7 #[] w fun E w'=>E=.returned (.bool true)∧Below w.heap.size w w':=by
 have HM:=hide hm
 have NW:=hide (uO w)
 obtain⟨_,R2,R3⟩:=afs
 have R1:=afs.1
 have E0:Hid ((Rst.add kK [c11]).1=0∧(Rst.bQ qa z1).1=0∧(Rst.aR rM 1).1=0):=hide ⟨vg.1,acJ.1,ah3.1⟩
 have RS:=hide (And.intro R1 (And.intro R2 R3))
 clear R1 R2 R3 hm
 go_enter Tryz.func7,Tryz.ntmps7
 go_wp2_with fail
 refine NW.out.mono ?_
 rintro E w1 ⟨rfl,K1,B1⟩
 have OP:=hide (vP w HM.out 0 (.inl rfl) w.heap.size (Nat.le_refl _) w1 K1 B1)
 clear NW K1 B1
 go_wp2_with fail
 refine OP.out.mono ?_
 rintro E w2 ⟨p,F,rfl,L2⟩
 have L2:Hid (Lv w w2 p w.heap.size F kK):=hide L2
 have PG:=hide (lW p _ F w2 kK L2.out.st (dD yP (by omega)))
 have hp0:vp kK.p=.agg #[.int .i64 1,.int .u8 1,.int .i64 0,.int .u8 0,.int .i64 0,.int .i64 0]:=rfl
 rw[hp0]at PG
 clear OP hp0
 go_wp2_with fail
 refine PG.out.mono ?_
 rintro E w3 ⟨rfl,B3⟩
 have L3:=hide (L2.out.below B3)
 have SP:=hide (mM z0 z0 w3)
 unfold vp at SP
 rw[show same z0 z0=true by decide]at SP
 simp only[z0]at SP
 clear PG L2 B3
 go_wp2_with fail
 refine SP.out.mono ?_
 rintro E w4 ⟨rfl,B4⟩
 have L4:=hide (L3.out.below B4)
 have PT:=hide (mf 1 1 w4)
 clear SP L3 B4
 go_wp2_with fail
 refine PT.out.mono ?_
 rintro E w5 ⟨a,k,rfl,O5,B5⟩
 have L5:=L4.out.below B5
 obtain⟨V,hV,fE,bn,shV⟩:=ajv (e:=1) (n:=1) O5 B5.size (adm (zC (by decide)))
 have LV:=hide (L5.below bn)
 have AD:Hid (Calls Tryz.prog 10 #[.pointer (some ⟨p,0,none⟩),.slice (some ⟨w5.heap.size,0,none⟩) 1 1] V fun E w'=>E=.returned (.int .i64 0)∧∃F',Lv w w' p w.heap.size F' qa):=hide (by
  refine(vI p _ F V kK LV.out.st (dD yP (by omega)) ⟨yP.2.2,LV.out.n0⟩ _ [⟨1,1,.slice a 1 k,[sO]⟩] (fun W hW=>qL (shV.out hW fun g hg=>by have:=L4.out.st.lt g hg;omega)) shV.f (by simp)).mono ?_
  rintro E w' ⟨rfl,k1⟩
  have e1:aD [(⟨1,1,.slice a 1 k,[sO]⟩:Cw)]=[c11]:=rfl
  rw[e1]at k1⊢
  rw[E0.out.1]
  exact⟨rfl,LV.out.step k1⟩)
 clear PT L4 L5 B5 O5 shV bn fE LV
 go_wp2_with fail
 refine AD.out.mono ?_
 rintro E w6 ⟨rfl,F6,L6⟩
 have L6:=hide L6
 have ST:Hid (Calls Tryz.prog 15 #[.pointer (some ⟨p,0,none⟩),.agg #[.int .i64 1,.int .u8 1,.int .i64 1,.int .u8 0,.int .i64 0,.int .i64 0]] w6 fun E w'=>E=.returned (.int .i64 0)∧∃F',Lv w w' p w.heap.size F' rM):=hide (by
  refine(aaT p _ F6 w6 qa L6.out.st (dD RS.out.1 (by omega)) ⟨RS.out.1.2.2,L6.out.n0⟩ z1 (by unfold dW z1;decide)).mono ?_
  rintro E w' ⟨rfl,k1⟩
  rw[E0.out.2.1]
  exact⟨rfl,L6.out.step k1⟩)
 clear AD L6
 go_wp2_with fail
 refine ST.out.mono ?_
 rintro E w7 ⟨rfl,F7,L7⟩
 have L7:=hide L7
 have FL:Hid (Calls Tryz.prog 12 #[.pointer (some ⟨p,0,none⟩),.int .i64 1] w7 fun E w'=>E=.returned (.int .i64 0)∧∃F',Lv w w' p w.heap.size F' uM):=hide (by
  refine(qm p _ F7 w7 rM L7.out.st (dD RS.out.2.1 (by omega)) ⟨RS.out.2.1.2.2,L7.out.n0⟩ 1 (by simp[In64])).mono ?_
  rintro E w' ⟨rfl,k1⟩
  rw[E0.out.2.2]
  exact⟨rfl,L7.out.step k1⟩)
 clear ST L7
 go_wp2_with fail
 refine FL.out.mono ?_
 rintro E w8 ⟨rfl,F8,L8⟩
 have L8:=hide L8
 have GE:=hide (wS p _ F8 w8 uM L8.out.st (dD RS.out.2.2 (by omega)) ⟨#[97]⟩ (by decide))
 rw[ajl.1,ajl.2]at GE
 clear FL
 go_wp2_with fail
 refine GE.out.mono ?_
 rintro E w9 ⟨rfl,B9⟩
 have L9:=hide (L8.out.below B9)
 have EN:=hide (aa9 p _ F8 w9 uM L9.out.st (dD RS.out.2.2 (by omega)))
 rw[ah3.2.2.2.1]at EN
 clear GE L8 B9
 go_wp2_with fail
 refine EN.out.mono ?_
 rintro E wa ⟨rfl,Ba⟩
 have La:=hide (L9.out.below Ba)
 have RN:=hide (xX p _ F8 wa uM La.out.st (dD RS.out.2.2 (by omega)))
 clear EN L9 Ba
 go_wp2_with fail
 refine RN.out.mono ?_
 rintro E wb ⟨v,rs,rfl,Q,_,Bb⟩
 have Lb:=hide (La.out.below Bb)
 obtain⟨va,vk,hv,_,_⟩:=Q.row.row.shape
 have hl:rs.length=1:=by
  have:=congrArg List.length Q.is
  rw[ji,ah3.2.2.2.2.1]at this
  exact this
 rw[hl]at hv
 subst hv
 clear RN La Bb Q hl
 go_wp2
 go_ret
 exact⟨rfl,Lb.out.aF⟩
end Go.Proofs.YtpifdeoepppadaaGreatDoor
