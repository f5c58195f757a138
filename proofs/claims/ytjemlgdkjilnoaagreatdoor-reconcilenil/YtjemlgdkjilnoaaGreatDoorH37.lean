/- Texts of one layer, one behind the other. -/
import Derived.Test.YtjemlgdkjilnoaaGreatDoorM4
import Derived.Test.YtjemlgdkjilnoaaGreatDoorH25
import Derived.Test.YtjemlgdkjilnoaaGreatDoorH16
set_option maxRecDepth 100000
set_option maxHeartbeats 8000000
namespace Go.Proofs.YtjemlgdkjilnoaaGreatDoor
set_option linter.unusedVariables false
structure dL (n:Nat) (s:Rst.St) (ss:List Orp.Se):Prop where
 inn:∃z ps,Rst.In z s ps ss
 has:s.d.has=false
 rz:Rz n s
 run:s.r=[]
section
variable {n:Nat} {s:Rst.St} {ss:List Orp.Se}
theorem ahk (z:Pm.Pg)(hz:z.e=1∧z.a=0∧z.p=0∧z.r≠3):dL 50 ⟨Dm.new,z,[],[],false⟩ []:=
 ⟨⟨z,[],Rst.auJ z hz⟩,rfl,⟨yB.mono (by decide) (by decide),Nat.zero_le _,awg⟩,rfl⟩
theorem dL.mono {m:Nat}(h:dL n s ss)(hm:n≤m):dL m s ss:=⟨h.inn,h.has,h.rz.mono hm,h.run⟩
theorem dL.wC (h:dL n s ss)(hn:n≤500):o9 s:=⟨h.rz.1.mono (by omega) (by omega),by have:=h.rz.2.1;omega⟩
theorem dL.t3 (h:dL n s ss):T3 s.d:=h.rz.2.2
theorem dL.ask (h:dL n s ss):Rst.asked s=false:=by
 obtain⟨z,ps,k⟩:=h.inn
 exact k.ask
theorem dL.lY (h:dL n s ss):Rst.hf 3 s.d=Orp.secs ss∧Orp.Ris 0 ss∧s.d.sure 3=Orp.secs ss:=by
 obtain⟨z,ps,k⟩:=h.inn
 exact⟨(Rst.dD k.calm 3).trans k.lY,k.go,k.lY⟩
theorem dL.log (h:dL n s ss):(Wl.hld s.d)=Wl.aR s.l∧Cm.Good 0 0 s.l:=by
 obtain⟨z,ps,k⟩:=h.inn
 exact⟨(Rst.dD k.calm 0).trans k.log,k.gl⟩
theorem dL.set (h:dL n s ss){q:Pm.Pg}(h1:Pm.chk q=0)(h2:Rst.snd q s.l 0 (Orp.secs ss).length=true):
  (Rst.dh s q).1=0∧dL (n+1) (Rst.dh s q).2 ss∧(Rst.dh s q).2.p=q∧(Rst.dh s q).2.l=s.l:=by
 obtain⟨z,ps,k⟩:=h.inn
 obtain⟨e1,e2,e3,e4,e5,e6⟩:=Rst.arx k h.has h1 (by rw[h.run];exact h2)
 exact⟨e1,⟨⟨z,_,e2⟩,e6,awd h.rz q,e5.trans h.run⟩,e3,e4⟩
theorem arf {n:Nat}{s:Rst.St}(h:Rz n s)(cs:List Cm.Cv)(hl:cs.length≤30):Rz (n+15) (Rst.add s cs).2:=by
 have hm:Rz (n+15) s:=h.mono (by omega)
 unfold Rst.add
 split
 ·exact hm
 split
 ·exact hm
 rename_i hc
 split
 ·exact hm
 split
 ·exact hm
 have hg:Cm.Good (Cm.lastE 0 s.l) s.l.length cs:=(Cm.eY _ _ _ 0).1 (by simpa using hc)
 have h1:=ag5 cs h.1 fun c hcc=>(Sto.fV hg c hcc).1
 have h2:=uj h1
 have hb:Big (60000*n+433*cs.length) (1000*n+7*cs.length+1) (Rst.fu s.d cs).2:=by
  unfold Rst.fu
  split
  ·exact h1.mono (by omega) (by omega)
  ·split
   ·exact h2
   ·exact h2
 have ht:=aqV h.2.2 (asR s.d cs 3 (by omega))
 split
 ·exact⟨hb.mono (by omega) (by omega),by have:=h.2.1;show s.l.length≤_;omega,ht⟩
 ·refine⟨hb.mono (by omega) (by omega),?_,ht⟩
  have:=h.2.1
  show(s.l++cs).length≤_
  rw[List.length_append]
  omega
theorem dL.add (h:dL n s ss){cs:List Cm.Cv}(h1:Cm.Good (Cm.lastE 0 s.l) s.l.length cs)(h2:Rst.snd s.p (s.l++cs) 0 (Orp.secs ss).length=true)(hl:cs.length≤30):
  (Rst.add s cs).1=0∧dL (n+15) (Rst.add s cs).2 ss∧(Rst.add s cs).2.p=s.p∧(Rst.add s cs).2.l=s.l++cs:=by
 obtain⟨z,ps,k⟩:=h.inn
 obtain⟨e1,e2,e3,e4,e5,e6⟩:=Rst.au5 k h.has ((Cm.eY _ _ _ 0).2 h1) (by rw[h.run];exact h2)
 exact⟨e1,⟨⟨z,_,e2⟩,e6,arf h.rz cs hl,e5.trans h.run⟩,e3,e4⟩
theorem dL.ayF (h:dL n s ss){x:Orp.Se}{b:Int}(hb:b=(Orp.secs ss).length)(h1:Orp.chk x=0)(h2:ss=[]∨Orp.jT 0 ss<x.e)(h3:s.p.b≤b)(hl:x.cs.length≤100):
  (Rst.dF s b x ss).1=0∧dL (n+1) (Rst.dF s b x ss).2 (ss++[x])∧(Rst.dF s b x ss).2.p=s.p∧(Rst.dF s b x ss).2.l=s.l∧Rst.dF s b x ss=((Orp.dM s.d b x).1,⟨(Orp.dM s.d b x).2,s.p,s.l,s.r,s.off||decide ((Orp.dM s.d b x).1=6)⟩):=by
 obtain⟨z,ps,k⟩:=h.inn
 have ho:=h.lY
 have hE:Rst.xR s b x ss=0:=by
  unfold Rst.xR
  rw[if_neg]
  rintro(e|⟨e1,e2⟩|⟨_,e⟩)
  ·exact e hb.symm
  ·rcases h2 with e|e
   ·exact e1 e
   ·omega
  ·omega
 have hr:Rst.dF s b x ss=((Orp.dM s.d b x).1,⟨(Orp.dM s.d b x).2,s.p,s.l,s.r,s.off||decide ((Orp.dM s.d b x).1=6)⟩):=by
  unfold Rst.dF
  rw[if_neg (by rw[h.ask];simp),if_neg (by rw[h1];simp),if_neg (by rw[ho.1];omega),if_neg (by rw[hE];simp)]
 have hsn:Orp.Sn 0 ((s.d.sure 3).take b.toNat) ss:=by
  rw[ho.2.2,List.take_of_length_le (by omega)]
  exact Orp.tL ho.2.1
 have hrz:Rz (n+1) (Rst.dF s b x ss).2∨¬T3 (Rst.dF s b x ss).2.d:=by
  by_cases ht:T3 (Rst.dF s b x ss).2.d
  ·refine .inl ⟨?_,?_,ht⟩
   ·rw[hr]
    have e1:=Orp.aew h1
    have e2:cnt (Orp.sec x).length≤900:=by unfold cnt;omega
    exact(ar3 h.rz.1 b x).mono (by omega) (by omega)
   ·rw[hr]
    have:=h.rz.2.1
    show s.l.length≤_
    omega
  ·exact .inr ht
 rcases Rst.aj8 k b x hsn with⟨c1,c2,c3⟩|⟨c1,c2,c3,c4,c5,c6,c7⟩|⟨_,_,c2,_⟩
 ·exfalso
  rw[hr]at c1 c2
  have hw:=(Orp.ajZ (st:=s.d) (s:=x) (b0:=Orp.secs ss) k.on h1 (by rw[show Orp.hl s.d=Rst.hf 3 s.d from rfl,ho.1];exact List.prefix_refl _)).1
  rw[←hb]at hw
  rcases hw with⟨e,_⟩|⟨e,_⟩
  ·exact c1 e
  ·exact c2 e
 ·have t3:T3 (Rst.dF s b x ss).2.d:=⟨ss++[x],c3.go,(Rst.dD c3.calm 3).trans c3.lY⟩
  exact⟨c1,⟨⟨z,_,c3⟩,c7 h.has,hrz.resolve_right fun e=>e t3,c6.trans h.run⟩,c4,c5,hr⟩
 ·rw[h.has]at c2;cases c2
theorem dL.short (h:dL n s ss){tt:Nat}(h1:tt≤s.l.length)(h2:Rst.snd s.p (s.l.take tt) 0 (Orp.secs ss).length=true):
  (Rst.cZ s tt).1=0∧dL (n+1) (Rst.cZ s tt).2 ss∧(Rst.cZ s tt).2.p=s.p∧(Rst.cZ s tt).2.l=s.l.take tt∧(Rst.cut s tt).1=0∧Rst.cZ s tt=(0,⟨(Rst.cut s tt).2,s.p,s.l.take tt,s.r,s.off⟩):=by
 obtain⟨z,ps,k⟩:=h.inn
 have hr0:Cm.lastN 0 s.r=0:=by rw[h.run];rfl
 have hx:¬((tt:Int)<Cm.lastN 0 s.r∨(s.l.length:Int)<tt):=by rw[hr0];omega
 have ht:((tt:Int)).toNat=tt:=by omega
 have hfi:Rst.fine s s.p (s.l.take tt) (Cm.lastN 0 s.r)=true:=by rw[k.fine,hr0];exact h2
 have hu:Rst.cZ s tt=if (Rst.cut s tt).1≠0 then(6,⟨(Rst.cut s tt).2,s.p,s.l,s.r,true⟩)else(0,⟨(Rst.cut s tt).2,s.p,s.l.take tt,s.r,s.off⟩):=by
  unfold Rst.cZ
  rw[if_neg (by rw[h.ask];simp),if_neg hx,ht,if_neg (by rw[hfi];simp)]
 rcases Rst.ah9 k tt with⟨c1,c2,c3⟩|⟨c1,_,_,c3,c4,c5,c6,c7⟩|⟨_,c2,_⟩
 ·exfalso
  rw[hu]at c1 c2
  split at c1
  ·rename_i e
   rw[if_pos e]at c2
   exact c2 rfl
  ·exact c1 rfl
 ·have hc:(Rst.cut s tt).1=0:=by
   refine Classical.byContradiction fun e=>?_
   rw[hu,if_pos e]at c1
   cases c1
  have hr:Rst.cZ s tt=(0,⟨(Rst.cut s tt).2,s.p,s.l.take tt,s.r,s.off⟩):=by rw[hu,if_neg (by simp[hc])]
  rw[ht]at c5
  refine⟨c1,⟨⟨z,_,c3⟩,c7 h.has,⟨?_,?_,ss,c3.go,(Rst.dD c3.calm 3).trans c3.lY⟩,c6.trans h.run⟩,c4,c5,hc,hr⟩
  ·rw[hr]
   have b1:=sZ h.rz.1 0 (Wl.aR (s.l.take tt)).length
   have b2:=uj b1
   show Big _ _ (Rst.cut s tt).2
   unfold Rst.cut
   rw[ht]
   split
   ·exact b1.mono (by omega) (by omega)
   ·split
    ·exact b2.mono (by omega) (by omega)
    ·exact b2.mono (by omega) (by omega)
  ·rw[c5,List.length_take]
   have:=h.rz.2.1
   omega
 ·rw[h.has]at c2;cases c2
end
end Go.Proofs.YtjemlgdkjilnoaaGreatDoor
