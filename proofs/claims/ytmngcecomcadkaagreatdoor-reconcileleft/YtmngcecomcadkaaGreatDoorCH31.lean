/- Texts of one layer, one behind the other. -/
import Derived.Test.YtmngcecomcadkaaGreatDoorCH30
import Derived.Test.YtmngcecomcadkaaGreatDoorCH29
import Derived.Test.YtmngcecomcadkaaGreatDoorCH28
import Derived.Test.YtmngcecomcadkaaGreatDoorCH24
import Derived.Test.YtmngcecomcadkaaGreatDoorCH6
import Derived.Deep.RegionHeld3
import Derived.Test.YtmngcecomcadkaaGreatDoorCH25
import Derived.Test.YtmngcecomcadkaaGreatDoorCH4
set_option maxRecDepth 100000
set_option maxHeartbeats 8000000
namespace Go.Proofs.YtmngcecomcadkaaGreatDoor
open Go.RowKit
set_option linter.unusedVariables false
def Stp (p q:Nat) (F:Nat→Prop) (w:World) (y:Pm.Pg) (s2:Rst.St) (E:Ending) (V:World):Prop:=E=.returned (.tuple #[vp y,.int .i64 0])∧bI p q F w V s2
section
variable {p q:Nat} {F:Nat→Prop} {w:World} {s:Rst.St} {n:Nat} {ss:List Orp.Se} {m:Mw} {c:Int}
theorem aaF {W:World}{gd gs:Nat}{x y:Pm.Pg}{s2:Rst.St}(h:PS p q F w s)(hb:Below w.heap.size w W)(hC:Calls Tryz.prog 123 #[vp x,.pointer (some ⟨gd,0,none⟩),.pointer (some ⟨gs,0,none⟩)] W fun E w'=>E=.returned (.tuple #[vp y,.int .i64 0])∧bI p q F W w' s2):
  Calls Tryz.prog 123 #[vp x,.pointer (some ⟨gd,0,none⟩),.pointer (some ⟨gs,0,none⟩)] W fun E w'=>∃y' e,E=.returned (.tuple #[vp y',.int .i64 e])∧((∃o,W.heap[w.heap.size+1]? =some o)→w'.heap[w.heap.size+1]? =W.heap[w.heap.size+1]?)∧∀V,w.heap.size+1<W.heap.size→w'.grownBy V (some (w.heap.size+1))→Stp p q F w y s2 (.returned (.tuple #[vp y',.int .i64 e])) V:=by
 have gN:=h.lt
 have nF:¬F (w.heap.size+1):=fun e=>by have:=gN _ e;omega
 refine hC.mono ?_
 rintro E w' ⟨rfl,k⟩
 refine⟨y,0,rfl,fun⟨o,ho⟩=>(k.blk ho nF).trans ho.symm,fun V hV gV=>⟨rfl,bI.res hb k (Below.refl _ _) gV (by omega) hV nF h.gz.pos⟩⟩
theorem dQ.page (h:PS p q F w s):Pm.Ok s.p∧1≤s.p.e∧0≤s.p.p∧s.p.p≤4:=by
 obtain⟨F1,G,h1,⟨pw,pr,ps,Gw,Gr,Gs,lw,bw,br,V,rfl⟩,hd,hm,rfl⟩:=h
 have:=V.ok
 refine⟨this,?_⟩
 obtain⟨h1,h2⟩:=this
 omega
theorem aim (h:PS p q F w s)(hc:dQ n s ss)(hn:n≤500)(h1:s.p.p=1)(hi:fw w m)(hf:dx m)(hk:Mm.Ck m.m c)(hft:qD s.p m c=false):
  Calls Tryz.prog 13 #[.pointer (some ⟨p,0,none⟩),mv m] w fun E w'=>E=.returned (.tuple #[vp Pm.no,.int .i64 4])∧Below w.heap.size w w':=by
 obtain⟨_,k1,k2⟩:=dQ.page h
 exact om p q F w s h (hc.qR hn) k1 k2 m c hi hf hk _ (fun e=>by omega) (fun _ _ W hW=>⟨rfl,hW⟩) (fun _ e=>by rw[hft]at e;exact absurd (e h1) (by simp))
theorem p9 {e k f b:Int}(h1:1≤e)(h2:e≤1048576)(h3:2≤k)(h4:k≤4)(h5:0≤f)(h6:f≤1048576)(h7:0≤b)(h8:b≤1073741824):Pm.chk ⟨e,3,0,k,f,b⟩=0:=
 Pm.fM.2 ⟨⟨h1,h2,by simp,by simp,h5,h6,h7,h8⟩,.inr (.inr (.inr ⟨rfl,rfl,h3,h4⟩))⟩
theorem asM {e:Int}(h1:1≤e)(h2:e≤1048576):Pm.chk ⟨e,2,0,0,0,0⟩=0:=
 Pm.fM.2 ⟨⟨h1,h2,by simp,by simp,by simp,by simp,by simp,by simp⟩,.inr (.inl ⟨rfl,rfl,rfl,rfl,rfl⟩)⟩
theorem yx {e k f b base:Int}{l:List Cm.Cv}(h1:Cm.lastE 0 l<e)(h2:2≤k)(h3:0≤f)(h4:f≤l.length)(h5:k=4→f=l.length)(h6:b≤base):Rst.snd ⟨e,3,0,k,f,b⟩ l 0 base=true:=
 Rst.nk.2 ⟨⟨by omega,by show Cm.lastE 0 l≤e;omega,fun _=>by show Cm.lastE 0 l≠e;omega,by show(0:Int)≤l.length;omega⟩,fun _=>⟨h3,h4,h5,h6⟩⟩
theorem arO {e base:Int}{l:List Cm.Cv}(h1:Cm.lastE 0 l≤e):Rst.snd ⟨e,2,0,0,0,0⟩ l 0 base=true:=
 Rst.wD (by omega) h1 (by show(2:Int)≠3;decide) (by show(0:Int)≤l.length;omega) rfl
theorem dQ.dep (h:PS p q F w s)(hc:dQ n s ss){e k f b:Int}(hp:s.p=⟨e,3,0,k,f,b⟩):1≤e∧e≤1048576∧Cm.lastE 0 s.l<e∧(s.l.length:Int)≤1048576∧Cm.Good 0 0 s.l∧pG s=pG s∧(2≤k→0≤f∧f≤s.l.length∧b≤(Orp.secs ss).length∧0≤b):=by
 obtain⟨hok,_⟩:=dQ.page h
 obtain⟨z,ps,hin⟩:=hc.inn
 have hsd:=Rst.nk.1 hin.sd
 have hen:=Pm.l9 hok
 rw[hp]at hsd hen
 obtain⟨⟨_,a2,a3,_⟩,a5⟩:=hsd
 have a2:Cm.lastE 0 s.l≤e:=a2
 have a3:Cm.lastE 0 s.l≠e:=a3 rfl
 obtain⟨b1,b2,_,_,_,_,b7,b8,b9,b10,b11,b12⟩:=hen
 have b8:k≤4:=b8
 refine⟨b1,b2,by omega,by have:=eO hin.gl;omega,hin.gl,rfl,fun hk=>?_⟩
 obtain⟨_,c2,_,c4⟩:=a5 (by show k=2∨k=3∨k=4;omega)
 exact⟨b9,c2,c4,b11⟩
theorem aaZ (h:PS p q F w s)(h0:¬F 0)(hc:dQ n s ss)(hn:n≤400)(e:Int)(hp:s.p=⟨e,3,0,1,0,0⟩)(hi:fw w m)(hf:dx m)(hk:Mm.Ck m.m c)(hft:qD s.p m c=true)(nf:Nat)(hfr:Fr (Sm.told 0 s.l) s.l.length m.ss m.n nf)(hnf:nf≤s.l.length)(hb:(Orp.secs ss).length≤1000000):
  ∃s2,dQ (n+1) s2 ss∧s2.p=⟨e,3,0,2,nf,(Orp.secs ss).length⟩∧s2.l=s.l∧Calls Tryz.prog 13 #[.pointer (some ⟨p,0,none⟩),mv m] w (Stp p q F w ⟨e,3,0,2,nf,(Orp.secs ss).length⟩ s2):=by
 obtain⟨hok,k1,k2⟩:=dQ.page h
 obtain⟨d1,d2,d3,d4,d5,_⟩:=dQ.dep h hc hp
 have hxk:Pm.chk s.p=0:=Pm.fM.2 hok
 obtain⟨y,hy⟩:∃y:Pm.Pg,y=⟨e,3,0,2,nf,(Orp.secs ss).length⟩:=⟨_,rfl⟩
 have hyk:Pm.chk y=0:=by rw[hy];exact p9 d1 d2 (by omega) (by omega) (by omega) (by omega) (by omega) (by omega)
 have yN:eU y:=mq (Pm.fM.1 hyk)
 have hsn:Rst.snd y s.l 0 (Orp.secs ss).length=true:=by rw[hy];exact yx d3 (by omega) (by omega) (by omega) (fun e=>by omega) (Int.le_refl _)
 obtain⟨g1,g2,g3,g4⟩:=hc.set hyk hsn
 have hR:=hc.qR (n:=n) (by omega)
 have hb3:((Rst.hf 3 s.d).length:Int)=((Orp.secs ss).length:Int):=by rw[hc.kR.1]
 have efk:Rol.mZ s.p nf (Orp.secs ss).length=0:=by
  unfold Rol.mZ
  rw[if_pos hxk,if_neg (by omega),if_pos (by rw[hp])]
 have ayw:Rol.fk s.p nf (Orp.secs ss).length=y:=by
  unfold Rol.fk
  rw[if_pos efk,hp,hy]
 refine⟨(Rst.dm s y).2,g2,by rw[g3,hy],g4,?_⟩
 rw[←hy]
 refine om p q F w s h hR k1 k2 m c hi hf hk _ (fun e=>by rw[hp]at e;simp at e) (fun _ e=>by rw[hft]at e;cases e) fun _ _ W g gd gs hW q1 q2 q3 q4 q5=>aaF h hW ?_
 have hd1:dK s.p.p g=.func (.func 76) #[] #[.pointer (some ⟨g,0,none⟩),.pointer (some ⟨g+1,0,none⟩)]:=by rw[hp];rfl
 rw[hd1]at q1
 have gN:=h.lt
 refine uB gd gs p q F W s s s.p y _ _ (enters_of Tryz.func76 (by kernel_rfl) rfl) (h.below hW) h0 (ai q1 0 rfl) (ai q2 0 rfl) (ax q1) (ax q2) (fun e=>by have:=gN _ e;omega) hR hc.t3 yN g1 fun W2 hW2=>?_
 have b2:=hW.trans (hW2.mono hW.size)
 have c1:=ai ((hW2.block _ (ax q3)).trans q3) 0 rfl
 have m1:fq W2 (g+1) m:=(hW2.block _ (ax q4)).trans q4
 refine aoK g (g+1) p q F W2 s s s.p y m 0 (h.below b2) c1 (by have:=hW2.size;have:=ax q3;omega) m1 (ax m1) fun W3 hW3=>?_
 have b3:=b2.trans (hW3.mono b2.size)
 refine(alH p q F W3 s (h.below b3) hR hc.ask d5 s.p h.fit m (hi.below b3) hf nf hfr (by unfold I64;omega)).mono ?_
 rintro E w' ⟨rfl,bb⟩
 rw[hb3,efk,ayw]
 exact⟨rfl,bI.same (h.below b3) bb⟩
theorem ahS {l:List Cm.Cv}(h:Cm.Good 0 0 l)(k:Nat):Cm.lastE 0 (l.take k)≤Cm.lastE 0 l:=by
 have e:Cm.lastE 0 l=Cm.lastE (Cm.lastE 0 (l.take k)) (l.drop k):=by rw[←Rst.ano,List.take_append_drop]
 rw[←List.take_append_drop k l]at h
 rw[e]
 exact Sto.aaf ((Cm.fI _ _ _ _).1 h).2
theorem alT {l:List Cm.Cv}{k:Nat}(hk:k<l.length)(a b:Int):Cm.lastE a (l.drop k)=Cm.lastE b l:=by
 rw[rO _ a (by rw[List.length_drop];omega),rO _ b (by omega)]
 congr 1
 rw[List.getElem_drop]
 congr 1
 rw[List.length_drop]
 omega
def jQ (e:Int) (f:Nat) (l:List Cm.Cv):Orp.Se:=⟨e,f,l.drop f⟩
theorem acd {e:Int}{f:Nat}{l:List Cm.Cv}(h1:1≤e)(h2:e≤1048576)(hg:Cm.Good 0 0 l)(hl:Cm.lastE 0 l<e)(hf:f<l.length):Orp.chk (jQ e f l)=0:=by
 refine Orp.fZ ?_ ?_ ?_
 ·show ¬(e<1∨1048576<e∨(f:Int)<0∨(l.drop f).length=0)
  rw[List.length_drop]
  omega
 ·have:=Sto.wK (Rst.aby hg) f (by omega)
  rw[Int.zero_add]at this
  exact(Cm.dZ _ _ _ 0).2 this
 ·show ¬e≤Cm.lastE 1 (l.drop f)
  rw[alT hf 1 0]
  omega
theorem abm (h:PS p q F w s)(h0:¬F 0)(hc:dQ n s [])(hn:n≤400)(hl:s.l.length≤100)(e:Int)(fk:Nat)(hp:s.p=⟨e,3,0,2,fk,0⟩)(hi:fw w m)(hf:dx m)(hk:Mm.Ck m.m c):
  ∃s2,dQ (n+2) s2 (if fk<s.l.length then [jQ e fk s.l]else [])∧s2.p=⟨e,3,0,3,fk,0⟩∧s2.l=s.l∧Calls Tryz.prog 13 #[.pointer (some ⟨p,0,none⟩),mv m] w (Stp p q F w ⟨e,3,0,3,fk,0⟩ s2):=by
 obtain⟨hok,k1,k2⟩:=dQ.page h
 obtain⟨d1,d2,d3,d4,d5,_,d6⟩:=dQ.dep h hc hp
 obtain⟨d6,d7,_⟩:=d6 (by omega)
 have hxk:Pm.chk s.p=0:=Pm.fM.2 hok
 have hR:=hc.qR (n:=n) (by omega)
 obtain⟨y,hy⟩:∃y:Pm.Pg,y=⟨e,3,0,3,fk,0⟩:=⟨_,rfl⟩
 have hyk:Pm.chk y=0:=by rw[hy];exact p9 d1 d2 (by omega) (by omega) (by omega) (by omega) (by omega) (by omega)
 have yN:eU y:=mq (Pm.fM.1 hyk)
 have e1:Rol.gK s.p 2=0:=by
  unfold Rol.gK
  rw[if_pos hxk,if_pos (by rw[hp])]
 have e2:Rol.nx s.p 2 3=y:=by
  unfold Rol.nx
  rw[if_pos e1,hp,hy]
 have h3:Rst.hf 3 s.d=[]:=hc.kR.1
 obtain⟨s1,hs1⟩:∃s1:Rst.St,s1=if s.p.f<s.l.length then⟨(Orp.dX s.d 0 ⟨s.p.e,s.p.f,s.l.drop s.p.f.toNat⟩).2,s.p,s.l,s.r,s.off⟩else s:=⟨_,rfl⟩
 have hse:(⟨s.p.e,s.p.f,s.l.drop s.p.f.toNat⟩:Orp.Se)=jQ e fk s.l:=by
  rw[hp]
  show(⟨e,(fk:Int),s.l.drop ((fk:Int)).toNat⟩:Orp.Se)=_
  rw[show((fk:Int)).toNat=fk by omega]
  rfl
 have key:dQ (n+1) s1 (if fk<s.l.length then [jQ e fk s.l]else [])∧s1.p=s.p∧s1.l=s.l∧(s.p.f<s.l.length→Orp.chk ⟨s.p.e,s.p.f,s.l.drop s.p.f.toNat⟩=0∧(Orp.dX s.d 0 ⟨s.p.e,s.p.f,s.l.drop s.p.f.toNat⟩).1=0):=by
  have hpf:s.p.f=fk:=by rw[hp]
  rw[hse]at hs1⊢
  by_cases hlt:fk<s.l.length
  ·have hck:=acd d1 d2 d5 d3 hlt
   obtain⟨o1,o2,o3,o4,o5⟩:=hc.ayO (x:=jQ e fk s.l) (b:=0) rfl hck (.inl rfl) (by rw[hp];exact Int.le_refl _) (by show(s.l.drop fk).length≤100;rw[List.length_drop];omega)
   rw[o5]at o1 o2 o3 o4
   have o1:(Orp.dX s.d 0 (jQ e fk s.l)).1=0:=o1
   rw[if_pos (by rw[hpf];omega)]at hs1
   rw[if_pos hlt,hs1]
   have hoo:(s.off||decide ((Orp.dX s.d 0 (jQ e fk s.l)).1=6))=s.off:=by rw[o1];simp
   rw[hoo]at o2
   exact⟨o2,rfl,rfl,fun _=>⟨hck,o1⟩⟩
  ·rw[if_neg (by rw[hpf];omega)]at hs1
   rw[if_neg hlt,hs1]
   exact⟨hc.mono (by omega),rfl,rfl,fun e=>absurd e (by rw[hpf];omega)⟩
 obtain⟨hc1,hp1,hl1,hck⟩:=key
 have hsn:Rst.snd y s1.l 0 (Orp.secs (if fk<s.l.length then [jQ e fk s.l]else [])).length=true:=by rw[hy,hl1];exact yx d3 (by omega) (by omega) (by omega) (fun e=>by omega) (by omega)
 obtain⟨g1,g2,g3,g4⟩:=hc1.set hyk hsn
 refine⟨(Rst.dm s1 y).2,g2,by rw[g3,hy],g4.trans hl1,?_⟩
 rw[←hy]
 refine om p q F w s h hR k1 k2 m c hi hf hk _ (fun e=>by rw[hp]at e;simp at e) (fun e=>by rw[hp]at e;simp at e) fun _ _ W g gd gs hW q1 q2 q3 q4 q5=>aaF h hW ?_
 have hd1:dK s.p.p g=.func (.func 78) #[] #[.pointer (some ⟨g,0,none⟩)]:=by rw[hp];rfl
 rw[hd1]at q1
 have gN:=h.lt
 refine uB gd gs p q F W s s1 s.p y _ _ (enters_of Tryz.func78 (by kernel_rfl) rfl) (h.below hW) h0 (ai q1 0 rfl) (ai q2 0 rfl) (ax q1) (ax q2) (fun e=>by have:=gN _ e;omega) (hc1.qR (by omega)) hc1.t3 yN g1 fun W2 hW2=>?_
 have b2:=hW.trans (hW2.mono hW.size)
 have c1:=ai ((hW2.block _ (ax q3)).trans q3) 0 rfl
 refine apP g p q F W2 s s1 s.p y 0 (h.below b2) c1 (by have:=hW2.size;have:=ax q3;omega) fun W3 hW3=>?_
 have b3:=b2.trans (hW3.mono b2.size)
 refine(alD p q F W3 s (h.below b3) hR h0 hc.ask d5 (by omega) h3 (by rw[hp];exact Int.le_refl _) s.p h.fit hxk (by rw[hp]) (by rw[hp]) k1 (by rw[hp];exact d6) (by rw[hp];exact d7) hck).mono ?_
 rintro E w' ⟨rfl,bb⟩
 rw[e1,e2]
 rw[←hs1]at bb
 exact⟨rfl,bb⟩
theorem acT (h:PS p q F w s)(h0:¬F 0)(hc:dQ n s ss)(hn:n≤400)(e:Int)(fk:Nat)(b:Int)(hp:s.p=⟨e,3,0,3,fk,b⟩)(hi:fw w m)(hf:dx m)(hk:Mm.Ck m.m c):
  ∃s2,dQ (n+2) s2 ss∧s2.p=⟨e,3,0,4,fk,b⟩∧s2.l=s.l.take fk∧Calls Tryz.prog 13 #[.pointer (some ⟨p,0,none⟩),mv m] w (Stp p q F w ⟨e,3,0,4,fk,b⟩ s2):=by
 obtain⟨hok,k1,k2⟩:=dQ.page h
 obtain⟨d1,d2,d3,d4,d5,_,d6⟩:=dQ.dep h hc hp
 obtain⟨d6,d7,d8,d9⟩:=d6 (by omega)
 have hxk:Pm.chk s.p=0:=Pm.fM.2 hok
 have anB:b≤1073741824:=by have:=(Pm.l9 hok).2.2.2.2.2.2.2.2.2.2.2;rw[hp]at this;exact this
 have hR:=hc.qR (n:=n) (by omega)
 obtain⟨y,hy⟩:∃y:Pm.Pg,y=⟨e,3,0,4,fk,b⟩:=⟨_,rfl⟩
 have hyk:Pm.chk y=0:=by rw[hy];exact p9 d1 d2 (by omega) (by omega) (by omega) (by omega) d9 anB
 have yN:eU y:=mq (Pm.fM.1 hyk)
 have e1:Rol.gK s.p 3=0:=by
  unfold Rol.gK
  rw[if_pos hxk,if_pos (by rw[hp])]
 have e2:Rol.nx s.p 3 4=y:=by
  unfold Rol.nx
  rw[if_pos e1,hp,hy]
 have htl:((s.l.take fk).length:Int)=fk:=by rw[List.length_take];omega
 have hlt:=ahS d5 fk
 obtain⟨o1,o2,o3,o4,o5,o6⟩:=hc.short (tt:=fk) (by omega) (by rw[hp];exact yx (by omega) (by omega) (by omega) (by omega) (fun e=>by omega) d8)
 obtain⟨s1,hs1⟩:∃s1,(Rst.df s fk).2=s1:=⟨_,rfl⟩
 rw[hs1]at o2 o3 o4
 have ayc:(⟨(Rst.cut s fk).2,s.p,s.l.take fk,s.r,s.off⟩:Rst.St)=s1:=by rw[←hs1,o6]
 have hsn:Rst.snd y s1.l 0 (Orp.secs ss).length=true:=by rw[hy,o4];exact yx (by omega) (by omega) (by omega) (by omega) (fun _=>htl.symm) d8
 obtain⟨g1,g2,g3,g4⟩:=o2.set hyk hsn
 refine⟨(Rst.dm s1 y).2,g2,by rw[g3,hy],g4.trans o4,?_⟩
 rw[←hy]
 refine om p q F w s h hR k1 k2 m c hi hf hk _ (fun e=>by rw[hp]at e;simp at e) (fun e=>by rw[hp]at e;simp at e) fun _ _ W g gd gs hW q1 q2 q3 q4 q5=>aaF h hW ?_
 have hd1:dK s.p.p g=.func (.func 80) #[] #[.pointer (some ⟨g,0,none⟩)]:=by rw[hp];rfl
 rw[hd1]at q1
 have gN:=h.lt
 refine uB gd gs p q F W s s1 s.p y _ _ (enters_of Tryz.func80 (by kernel_rfl) rfl) (h.below hW) h0 (ai q1 0 rfl) (ai q2 0 rfl) (ax q1) (ax q2) (fun e=>by have:=gN _ e;omega) (o2.qR (by omega)) o2.t3 yN g1 fun W2 hW2=>?_
 have b2:=hW.trans (hW2.mono hW.size)
 have c1:=ai ((hW2.block _ (ax q3)).trans q3) 0 rfl
 refine aos g p q F W2 s s1 s.p y 0 (h.below b2) c1 (by have:=hW2.size;have:=ax q3;omega) fun W3 hW3=>?_
 have b3:=b2.trans (hW3.mono b2.size)
 refine(apF p q F W3 s (h.below b3) hR ⟨hc.t3,h0⟩ hc.ask hc.run (by rw[hc.log.1];exact Nat.le_refl _) s.p h.fit fk (by rw[hp]) (by omega) o5 (by
  rw[hp,hc.kR.1]
  unfold qA
  rw[if_neg (by simp),if_pos (by simp)]
  simp only[Bool.and_eq_true,decide_eq_true_eq]
  omega)).mono ?_
 rintro E w' ⟨rfl,bb⟩
 rw[e1,e2]
 rw[ayc]at bb
 exact⟨rfl,bb⟩
theorem aa1 (h:PS p q F w s)(h0:¬F 0)(hc:dQ n s ss)(hn:n≤400)(e f b:Int)(hp:s.p=⟨e,3,0,4,f,b⟩)(hi:fw w m)(hf:dx m)(hk:Mm.Ck m.m c):
  ∃s2,dQ (n+1) s2 ss∧s2.p=⟨e,2,0,0,0,0⟩∧s2.l=s.l∧Calls Tryz.prog 13 #[.pointer (some ⟨p,0,none⟩),mv m] w (Stp p q F w ⟨e,2,0,0,0,0⟩ s2):=by
 obtain⟨hok,k1,k2⟩:=dQ.page h
 obtain⟨d1,d2,d3,d4,d5,_⟩:=dQ.dep h hc hp
 have hxk:Pm.chk s.p=0:=Pm.fM.2 hok
 have hR:=hc.qR (n:=n) (by omega)
 obtain⟨y,hy⟩:∃y:Pm.Pg,y=⟨e,2,0,0,0,0⟩:=⟨_,rfl⟩
 have hyk:Pm.chk y=0:=by rw[hy];exact asM d1 d2
 have yN:eU y:=mq (Pm.fM.1 hyk)
 have e1:Rol.gK s.p 4=0:=by
  unfold Rol.gK
  rw[if_pos hxk,if_pos (by rw[hp])]
 have e2:Rol.rj s.p=y:=by
  unfold Rol.rj
  rw[if_pos e1,hp,hy]
 have hsn:Rst.snd y s.l 0 (Orp.secs ss).length=true:=by rw[hy];exact arO (by omega)
 obtain⟨g1,g2,g3,g4⟩:=hc.set hyk hsn
 refine⟨(Rst.dm s y).2,g2,by rw[g3,hy],g4,?_⟩
 rw[←hy]
 refine om p q F w s h hR k1 k2 m c hi hf hk _ (fun e=>by rw[hp]at e;simp at e) (fun e=>by rw[hp]at e;simp at e) fun _ _ W g gd gs hW q1 q2 q3 q4 q5=>aaF h hW ?_
 have hd1:dK s.p.p g=.func (.func 82) #[] #[]:=by rw[hp];rfl
 rw[hd1]at q1
 have gN:=h.lt
 refine uB gd gs p q F W s s s.p y _ _ (enters_of Tryz.func82 (by kernel_rfl) rfl) (h.below hW) h0 (ai q1 0 rfl) (ai q2 0 rfl) (ax q1) (ax q2) (fun e=>by have:=gN _ e;omega) hR hc.t3 yN g1 fun W2 hW2=>?_
 have b2:=hW.trans (hW2.mono hW.size)
 refine(agw s.p W2 h.fit (h.below b2).gz).mono ?_
 rintro E w' ⟨rfl,bb⟩
 rw[e1,e2]
 exact⟨rfl,bI.same (h.below b2) bb⟩
end
theorem al4 {l cs:List Cm.Cv}(hl:Cm.Good 0 0 l)(h:Cm.Good (Cm.lastE 0 l) l.length cs)(k:Nat)(hk:k<cs.length):Cm.Good 0 0 (l++cs.take k)∧Cm.chk (cs[k]).e (cs[k]).n (cs[k]).l=0∧(cs[k]).n-1=(l++cs.take k).length∧Cm.lastE 0 (l++cs.take k)≤(cs[k]).e:=by
 have h0:Cm.Good 0 0 (l++cs):=(Cm.fI _ _ _ _).2 ⟨hl,by rw[Wl.kI hl];exact h⟩
 rw[←List.take_append_drop k cs,←List.append_assoc]at h0
 obtain⟨h1,h2⟩:=(Cm.fI _ _ _ _).1 h0
 rw[Wl.kI h1,List.drop_eq_getElem_cons hk]at h2
 exact⟨h1,h2.1,h2.2.1,h2.2.2.1⟩
theorem arQ {d:Dm.Ds}{l:List Cm.Cv}{c:Cm.Cv}(h1:Cm.chk c.e c.n c.l=0)(h2:c.n-1=l.length)(h3:Cm.lastE 0 l≤c.e):
  Wl.mO ⟨d,l,false⟩ c=if (Dm.write d 0 (Wl.fr c)).1≠0 then(6,⟨(Dm.write d 0 (Wl.fr c)).2,l,true⟩)else(0,⟨(Dm.write d 0 (Wl.fr c)).2,l++[c],false⟩):=by
 unfold Wl.mO
 cases ho:d.on with
 |false=>
  have ha:Wl.ask ⟨d,l,false⟩=true:=by simp[Wl.ask,ho]
  have hw:Dm.write d 0 (Wl.fr c)=(6,d):=by unfold Dm.write;rw[if_pos ho]
  rw[if_pos ha,hw]
  rfl
 |true=>
  have ha:¬Wl.ask ⟨d,l,false⟩=true:=by simp[Wl.ask,ho]
  rw[if_neg ha,if_neg (by simp[h1]),if_neg (by simp only;omega)]
  have e:=agD (st:=d) (Wl.fr c)
  split
  ·rename_i hx
   rcases e with e|e
   ·exact absurd e hx
   ·rw[e]
  ·rfl
theorem arE (d:Dm.Ds)(l:List Cm.Cv):∃bk,Wl.rY ⟨d,l,false⟩=((Dm.sync d).1,⟨(Dm.sync d).2,l,bk⟩)∧((Dm.sync d).1=0→bk=false):=by
 unfold Wl.rY
 cases ho:d.on with
 |false=>
  have ha:Wl.ask ⟨d,l,false⟩=true:=by simp[Wl.ask,ho]
  have hw:Dm.sync d=(6,d):=by unfold Dm.sync;rw[if_pos ho]
  rw[if_pos ha,hw]
  exact⟨true,rfl,fun k=>absurd k (by show ¬(6:Int)=0;decide)⟩
 |true=>
  have ha:¬Wl.ask ⟨d,l,false⟩=true:=by simp[Wl.ask,ho]
  rw[if_neg ha]
  exact⟨_,rfl,fun k=>by simp[k]⟩
def q9 (pw q:Nat) (FW:Nat→Prop) (w wr:World) (l cs:List Cm.Cv) (d:Dm.Ds) (k:Nat):Prop:=
 ∃Fk dk,WW pw q Fk wr ⟨dk,l++cs.take k,false⟩∧Out FW w wr∧(∀g,Fk g→FW g∨w.heap.size≤g)∧Rst.wrs d cs=Rst.wrs dk (cs.drop k)∧Big (50000000+433*k) (500000+7*k) dk
def ExO (pw q:Nat) (FW:Nat→Prop) (w w':World) (l cs:List Cm.Cv) (d:Dm.Ds):Prop:=
 ∃F' lw bk,WW pw q F' w' ⟨(Rst.fD d cs).2,lw,bk⟩∧l=lw.take l.length∧((Rst.fD d cs).1=0→lw=l++cs∧bk=false)∧Out FW w w'∧∀g,F' g→FW g∨w.heap.size≤g
theorem q9.box {pw q:Nat}{FW:Nat→Prop}{w wr V:World}{l cs:List Cm.Cv}{d:Dm.Ds}{k:Nat}(h:q9 pw q FW w wr l cs d k)(hb:Below wr.heap.size wr V):q9 pw q FW w V l cs d k:=by
 obtain⟨Fk,dk,h1,h2,h3,h4,h5⟩:=h
 exact⟨Fk,dk,h1.below hb,h2.trans (Out.of_below (F:=fun _=>False) hb) fun g hg=>hg.elim,h3,h4,h5⟩
theorem ajA (v:Value)(pw q:Nat)(FW:Nat→Prop)(w V:World)(l:List Cm.Cv)(rs:List Cw)(d:Dm.Ds)(k:Nat)(hk:k<rs.length)(h:q9 pw q FW w V l (ay rs) d k)(hl:Cm.Good 0 0 l)(hg:Cm.Good (Cm.lastE 0 l) l.length (ay rs))(hn:rs.length≤100)(hc:di V v rs)(hf:dL rs)(jN:∀c∈rs,0<c.l.length→∀b,c.v.ownBlock=some b→b<w.heap.size∧¬FW b):
  Calls Tryz.prog 113 #[.pointer (some ⟨pw,0,none⟩),bK (rs[k]).e (rs[k]).n (rs[k]).v] V fun E w'=>∃e,E=.returned (.int .i64 e)∧Out FW w w'∧((e=0∧q9 pw q FW w w' l (ay rs) d (k+1))∨(e≠0∧e=(Rst.fD d (ay rs)).1∧ExO pw q FW w w' l (ay rs) d)):=by
 obtain⟨Fk,dk,h1,h2,h3,h4,h5⟩:=h
 have hm:rs[k]∈rs:=List.getElem_mem hk
 have hkc:k<(ay rs).length:=by unfold ay;simpa using hk
 have hce:(ay rs)[k]=(rs[k]).c:=List.getElem_map _
 obtain⟨g1,g2,g3,g4⟩:=al4 hl hg k hkc
 rw[hce]at g2 g3 g4
 obtain⟨i1,i2⟩:=hc.2 _ hm
 have hlo:(rs[k]).l.length*40≤140737488351232:=by
  have:=(hf _ hm).2
  omega
 have AP:=agx pw q Fk V ⟨dk,l++(ay rs).take k,false⟩ (rs[k]) h1 (h5.mono (by omega) (by omega)) i1 (hf _ hm).1 i2 hlo (fun h0 b hb hF=>by
  obtain⟨q1,q2⟩:=jN _ hm h0 b hb
  rcases h3 b hF with e|e
  ·exact q2 e
  ·omega)
 rw[arQ g2 g3 g4]at AP
 rw[List.drop_eq_getElem_cons hkc,hce,show Rst.wrs dk ((rs[k]).c::(ay rs).drop (k+1))=(if (Dm.write dk 0 (Wl.fr (rs[k]).c)).1≠0 then(6,(Dm.write dk 0 (Wl.fr (rs[k]).c)).2)else Rst.wrs (Dm.write dk 0 (Wl.fr (rs[k]).c)).2 ((ay rs).drop (k+1)))from rfl]at h4
 have hb:=ku h5 0 (Wl.fr (rs[k]).c)
 have hfs:=Wl.nN (c:=(rs[k]).c) g2
 have hcn:cnt (Wl.fr (rs[k]).c).length≤7:=by unfold cnt;omega
 refine AP.mono ?_
 rintro E w' ⟨rfl,F',k1,k2,k3⟩
 have o':Out FW w w':=h2.trans k2 h3
 have hs:=h2.size
 have n':∀g,F' g→FW g∨w.heap.size≤g:=fun g hg=>by
  rcases k3 g hg with e|e
  ·exact h3 g e
  ·exact .inr (by omega)
 by_cases he:(Dm.write dk 0 (Wl.fr (rs[k]).c)).1=0
 ·rw[if_neg (by simp[he])]at k1 h4⊢
  refine⟨0,rfl,o',.inl ⟨rfl,F',_,?_,o',n',h4,hb.mono (by omega) (by omega)⟩⟩
  rw[show(ay rs).take (k+1)=(ay rs).take k++[(rs[k]).c]by rw[List.take_add_one,List.getElem?_eq_getElem hkc,hce];rfl,←List.append_assoc]
  exact k1
 ·rw[if_pos he]at k1 h4⊢
  have hw:Rst.fD d (ay rs)=(6,(Dm.write dk 0 (Wl.fr (rs[k]).c)).2):=by unfold Rst.fD;rw[h4];simp
  refine⟨6,rfl,o',.inr ⟨by decide,by rw[hw],F',l++(ay rs).take k,true,?_,by simp,fun k=>by rw[hw]at k;exact absurd k (by show ¬(6:Int)=0;decide),o',n'⟩⟩
  rw[hw]
  exact k1
theorem aoN (pw q:Nat)(FW:Nat→Prop)(w V:World)(l:List Cm.Cv)(cs:List Cm.Cv)(d:Dm.Ds)(h:q9 pw q FW w V l cs d cs.length)(hn:cs.length≤100):
  Calls Tryz.prog 114 #[.pointer (some ⟨pw,0,none⟩)] V fun E w'=>E=.returned (.int .i64 (Rst.fD d cs).1)∧ExO pw q FW w w' l cs d:=by
 obtain⟨Fk,dk,h1,h2,h3,h4,h5⟩:=h
 rw[List.drop_length]at h4
 rw[List.take_length]at h1
 have hw:Rst.fD d cs=((Dm.sync dk).1,(Dm.sync dk).2):=by
  unfold Rst.fD
  rw[h4]
  unfold Rst.wrs
  rw[if_neg (by simp)]
  rcases aeQ dk with e|e
  ·rw[if_neg (by simp[e]),e]
  ·rw[if_pos (by simp[e]),e]
 obtain⟨bk,e1,e2⟩:=arE dk (l++cs)
 have SY:=acf pw q Fk V ⟨dk,l++cs,false⟩ h1 (h5.mono (by omega) (by omega))
 rw[e1]at SY
 refine SY.mono ?_
 rintro E w' ⟨rfl,F',k1,k2,k3⟩
 have hs:=h2.size
 refine⟨by rw[hw],F',l++cs,bk,?_,by simp,fun k=>⟨rfl,e2 (by rw[hw]at k;exact k)⟩,h2.trans k2 h3,fun g hg=>?_⟩
 ·rw[hw];exact k1
 ·rcases k3 g hg with e|e
  ·exact h3 g e
  ·exact .inr (by omega)
theorem q9.out {pw q:Nat}{FW:Nat→Prop}{w wr:World}{l cs:List Cm.Cv}{d:Dm.Ds}{k:Nat}(h:q9 pw q FW w wr l cs d k):Out FW w wr:=by
 obtain⟨_,_,_,h,_⟩:=h
 exact h
theorem agr (a:Addr)(b:Option Addr)(k:Nat)(w:World):
  Calls Tryz.prog 66 #[.pointer (some a),.slice b 0 k] w fun E w'=>E=.returned (.int .i64 0)∧w=w':=by
 go_enter Tryz.func66,Tryz.ntmps66
 go_wp2
 go_ret
 exact⟨rfl,rfl⟩
theorem ams (a:Addr)(b:Option Addr)(k:Nat)(w:World):
  Calls Tryz.prog 68 #[.pointer (some a),.slice b 0 k] w fun E w'=>E=.returned (.int .i64 0)∧w=w':=by
 go_enter Tryz.func68,Tryz.ntmps68
 go_wp2_with fail
 go_loopw [10] (fun iv wr=>iv=.int .i64 0∧w=wr) (fun _ _=>0)
 case atStart=>exact⟨rfl,rfl⟩
 case round=>
  obtain⟨rfl,rfl⟩:=hrel
  go_wp2
  go_ret
  exact⟨rfl,rfl⟩
theorem aji (p q pw:Nat)(FW:Nat→Prop)(w:World)(off:Bool)(x:Pm.Pg)(vr vs:Value)(d:Dm.Ds)(l:List Cm.Cv)(v:Value)(rs:List Cw)(hb:w.heap[p]? =some (.cells (eF q off x (.pointer (some ⟨pw,0,none⟩)) l.length vr vs) 94 (0,0)))(hw:WW pw q FW w ⟨d,l,false⟩)(hpW:¬FW p)(hB:Big 50000000 500000 d)(hll:l.length≤2000)
  (hg:Cm.Good (Cm.lastE 0 l) l.length (ay rs)) (hn:rs.length≤100) (h0:0<rs.length) (hc:∀W,Out FW w W→di W v rs) (hf:dL rs) (jN:∀c∈rs,0<c.l.length→∀b,c.v.ownBlock=some b→b<w.heap.size∧¬FW b):
  Calls Tryz.prog 66 #[.pointer (some ⟨p,8,none⟩),v] w fun E w'=>E=.returned (.int .i64 (Rst.fD d (ay rs)).1)∧∃W,ExO pw q FW w W l (ay rs) d∧((Rst.fD d (ay rs)).1≠0∧w'=W∨(Rst.fD d (ay rs)).1=0∧w'=W.setCell ⟨p,9,none⟩ (.int .i64 (l.length+rs.length))):=by
 have hl:Cm.Good 0 0 l:=hw.good
 have hpl:=ax hb
 obtain⟨b1,o1,k1,rfl,_,_⟩:=iP (hc w (Out.refl _ _)) h0
 have tq:Hid (∀W,Out FW w W→∀i c,rs[i]? =some c→W.cell? ⟨b1,o1+i*3,none⟩=some (.int .i64 c.e)∧W.cell? ⟨b1,o1+i*3+1,none⟩=some (.int .i64 c.n)∧W.cell? ⟨b1,o1+i*3+2,none⟩=some c.v):=hide fun W hW=>by
  obtain⟨b2,o2,k2,e,_,h⟩:=iP (hc W hW) h0
  cases e
  exact h
 have HPB:Hid (∀W,Out FW w W→W.heap[p]? =some (.cells (eF q off x (.pointer (some ⟨pw,0,none⟩)) l.length vr vs) 94 (0,0))):=hide fun W hW=>(hW.block p hpl hpW).trans hb
 have I0:Hid (q9 pw q FW w w l (ay rs) d 0):=hide ⟨FW,d,by rw[List.take_zero,List.append_nil];exact hw,Out.refl _ _,fun g hg=>.inl hg,by rw[List.drop_zero],hB.mono (by omega) (by omega)⟩
 have RD:Hid (∀k (hk:k<rs.length) V,q9 pw q FW w V l (ay rs) d k→Calls Tryz.prog 113 #[.pointer (some ⟨pw,0,none⟩),bK (rs[k]).e (rs[k]).n (rs[k]).v] V fun E w'=>∃e,E=.returned (.int .i64 e)∧Out FW w w'∧((e=0∧q9 pw q FW w w' l (ay rs) d (k+1))∨(e≠0∧e=(Rst.fD d (ay rs)).1∧ExO pw q FW w w' l (ay rs) d))):=hide fun k hk V h=>ajA _ pw q FW w V l rs d k hk h hl hg hn (hc V h.out) hf jN
 have hcl:(ay rs).length=rs.length:=by unfold ay;simp
 have SY:Hid (∀V,q9 pw q FW w V l (ay rs) d rs.length→Calls Tryz.prog 114 #[.pointer (some ⟨pw,0,none⟩)] V fun E w'=>E=.returned (.int .i64 (Rst.fD d (ay rs)).1)∧ExO pw q FW w w' l (ay rs) d):=hide fun V h=>aoN pw q FW w V l (ay rs) d (by rw[hcl];exact h) (by rw[hcl];exact hn)
 have SH:Hid (∀c∈rs,∃a n k,c.v=.slice a n k):=hide fun c hm=>by
  rcases((hc w (Out.refl _ _)).2 c hm).1 with⟨h,_⟩|⟨a,k,h,_⟩
  ·exact⟨_,_,_,h⟩
  ·exact⟨_,_,_,h⟩
 have EX:Hid (∀W,ExO pw q FW w W l (ay rs) d→Out FW w W):=hide (by rintro W ⟨_,_,_,_,_,_,h,_⟩;exact h)
 obtain⟨ee,hee⟩:∃ee,(Rst.fD d (ay rs)).1=ee:=⟨_,rfl⟩
 rw[hee]at RD SY⊢
 have atS:¬(rs.length:Int)=0:=by omega
 have hz:((rs.length:Int)==0)=false:=by simpa using atS
 have hwr:IntKind.i64.wrap ((l.length:Int)+(rs.length:Int))=(l.length:Int)+(rs.length:Int):=aS _ (by omega) (by omega)
 generalize (l.length:Int)=le at*
 clear hw hb hB hc hf jN hg hl hee hcl atS
 go_enter Tryz.func66,Tryz.ntmps66
 go_wp2_with fail
 go_loopw [14] (fun iv wr=>∃(k:Nat),iv=.int .i64 k∧k≤rs.length∧Hid (q9 pw q FW w wr l (ay rs) d k)) (fun iv _=>rs.length-(intOf iv).toNat)
 case atStart=>exact⟨0,rfl,Nat.zero_le _,I0⟩
 case round=>
  obtain⟨k,rfl,hk,IK⟩:=hrel
  by_cases hlt:k<rs.length
  ·obtain⟨c,hcc⟩:∃c,rs[k]=c:=⟨_,rfl⟩
   obtain⟨a0,a1,a2⟩:=tq.out wr IK.out.out k c (by rw[List.getElem?_eq_getElem hlt,hcc])
   obtain⟨va,vn,vk,hv⟩:=SH.out c (by rw[←hcc];exact List.getElem_mem hlt)
   rw[hv]at a2
   obtain⟨V,hV,hV',sV,bV,PV,v0,v1,v2⟩:=fJ wr 35 (.int .i64 0) (.int .i64 0) (.slice none 0 0) (.int .i64 c.e) (.int .i64 c.n) (.slice va vn vk)
   have IV:=IK.out.box bV
   have AP:=RD.out k hlt V.drew (IV.box (Below.refl _ _).drew)
   rw[hcc,hv]at AP
   unfold bK at AP
   have d8:V.cell? ⟨p,8,none⟩=some (.pointer (some ⟨pw,0,none⟩)):=ai (HPB.out V IV.out) 8 rfl
   have AP2:Hid (Calls Tryz.prog 113 #[.pointer (some ⟨pw,0,none⟩),.agg #[.int .i64 c.e,.int .i64 c.n,.slice va vn vk]] V.drew fun E w'=>∃e,E=.returned (.int .i64 e)∧w'.cell? ⟨p,8,none⟩=some (.pointer (some ⟨pw,0,none⟩))∧Hid ((e=0∧q9 pw q FW w w' l (ay rs) d (k+1))∨(e≠0∧e=ee∧ExO pw q FW w w' l (ay rs) d))):=hide (by
    refine AP.mono ?_
    rintro E w' ⟨e,rfl,o,h⟩
    exact⟨e,rfl,ai (HPB.out w' o) 8 rfl,hide h⟩)
   have hlt':(k:Int)<rs.length:=by omega
   clear AP IV hcc hv PV bV sV IK
   go_wp2_with fail
   go_region_with (go_at_call 113;refine AP2.out.mono ?_;rintro E w' ⟨e,rfl,e8,H⟩)
   all_goals
    clear AP2
    by_cases he:e=0
    ·subst he
     have H:=hide (H.out.resolve_right fun k=>k.1 rfl).2
     go_wp2
     go_roundw
     case rel=>exact⟨k+1,by simp,by omega,H⟩
     case measure=>simp[intOf];omega
    ·obtain⟨rfl,hX⟩:=(H.out.resolve_left fun k=>he k.1).2
     have he':(e==0)=false:=by simpa using he
     have HX:=hide (And.intro he hX)
     clear hX H
     go_wp2
     go_ret
     exact⟨rfl,_,HX.out.2,.inl ⟨HX.out.1,rfl⟩⟩
  ·obtain rfl:k=rs.length:=by omega
   have SY2:=hide (SY.out wr IK.out)
   have d8:wr.cell? ⟨p,8,none⟩=some (.pointer (some ⟨pw,0,none⟩)):=ai (HPB.out wr IK.out.out) 8 rfl
   have hlt':¬(rs.length:Int)<rs.length:=by omega
   clear SY RD tq IK SH I0 hlt hk
   go_wp2_with fail
   refine SY2.out.mono ?_
   rintro E w2 ⟨rfl,hX⟩
   have pb:=HPB.out w2 (EX.out _ hX)
   have d9:w2.cell? ⟨p,9,none⟩=some (.int .i64 le):=ai pb 9 rfl
   have f9:=aA pb 9
   have HX:=hide hX
   clear hX SY2 pb
   by_cases he:ee=0
   ·subst he
    go_wp2
    go_ret
    exact⟨rfl,w2,HX.out,rfl⟩
   ·have he':(ee==0)=false:=by simpa using he
    go_wp2
    go_ret
    exact⟨rfl,w2,HX.out,.inl ⟨he,rfl⟩⟩
theorem aw3 {r:Rl.Rs}{t cs:List Cm.Cv}(h:Cm.Good 1 (Cm.lastN 0 r.l) (t++cs))(hn:∀k,Cm.lastN (Cm.lastN 0 r.l) (t++cs.take k)=Cm.lastN 0 r.l+(t++cs.take k).length)(k:Nat)(hk:k<cs.length):Sto.zk ⟨r,t++cs.take k⟩ cs[k]=(0,⟨r,t++cs.take (k+1)⟩):=by
 rw[←List.take_append_drop k cs,←List.append_assoc]at h
 obtain⟨_,h2⟩:=(Cm.fI _ _ _ _).1 h
 rw[List.drop_eq_getElem_cons hk,hn k]at h2
 have hg:Cm.Good (Cm.lastE 1 (t++cs.take k)) (Sto.fin ⟨r,t++cs.take k⟩) [cs[k]]:=⟨h2.1,h2.2.1,h2.2.2.1,trivial⟩
 have hf:=(Cm.dZ [cs[k]] _ _ 0).2 hg
 unfold Sto.zk
 rw[if_neg (by simp only;rw[hf];simp)]
 rw[List.take_add_one,List.getElem?_eq_getElem hk]
 simp
def vF (ps pr q:Nat) (jk:Nat→Prop) (w wr:World) (r:Rl.Rs) (t cs:List Cm.Cv) (k:Nat):Prop:=
 ∃Fk,SW ps pr q Fk wr ⟨r,t++cs.take k⟩∧Out jk w wr∧∀g,Fk g→jk g∨w.heap.size≤g
theorem vF.box {ps pr q:Nat}{jk:Nat→Prop}{w wr V:World}{r:Rl.Rs}{t cs:List Cm.Cv}{k:Nat}(h:vF ps pr q jk w wr r t cs k)(hb:Below wr.heap.size wr V):vF ps pr q jk w V r t cs k:=by
 obtain⟨Fk,h1,h2,h3⟩:=h
 exact⟨Fk,h1.below hb,h2.trans (Out.of_below (F:=fun _=>False) hb) fun g hg=>hg.elim,h3⟩
theorem aij (v:Value)(ps pr q:Nat)(jk:Nat→Prop)(w V:World)(r:Rl.Rs)(t:List Cm.Cv)(rs:List Cw)(k:Nat)(hk:k<rs.length)(h:vF ps pr q jk w V r t (ay rs) k)(hg:Cm.Good 1 (Cm.lastN 0 r.l) (t++ay rs))(hnn:∀k,Cm.lastN (Cm.lastN 0 r.l) (t++(ay rs).take k)=Cm.lastN 0 r.l+(t++(ay rs).take k).length)(ht:t.length≤2000)(hn:rs.length≤100)(hc:di V v rs)(hf:dL rs)(jN:∀c∈rs,0<c.l.length→∀b,c.v.ownBlock=some b→b<w.heap.size∧¬jk b):
  Calls Tryz.prog 115 #[.pointer (some ⟨ps,0,none⟩),bK (rs[k]).e (rs[k]).n (rs[k]).v] V fun E w'=>E=.returned (.int .i64 0)∧vF ps pr q jk w w' r t (ay rs) (k+1):=by
 obtain⟨Fk,h1,h2,h3⟩:=h
 have hm:rs[k]∈rs:=List.getElem_mem hk
 have hkc:k<(ay rs).length:=by unfold ay;simpa using hk
 have hce:(ay rs)[k]=(rs[k]).c:=List.getElem_map _
 obtain⟨i1,i2⟩:=hc.2 _ hm
 have hlo:(rs[k]).l.length*40≤140737488351232:=by
  have:=(hf _ hm).2
  omega
 have hlt:(t++(ay rs).take k).length≤100000:=by
  rw[List.length_append,List.length_take]
  omega
 have AP:=aiD ps pr q Fk V ⟨r,t++(ay rs).take k⟩ (rs[k]) h1 i1 (hf _ hm).1 i2 hlo (fun h0 b hb hF=>by
  obtain⟨q1,q2⟩:=jN _ hm h0 b hb
  rcases h3 b hF with e|e
  ·exact q2 e
  ·omega) hlt
 have ag:=aw3 hg hnn k hkc
 rw[hce]at ag
 rw[ag]at AP
 refine AP.mono ?_
 rintro E w' ⟨rfl,F',k1,k2,k3⟩
 have hs:=h2.size
 exact⟨rfl,F',k1,h2.trans k2 h3,fun g hg=>by
  rcases k3 g hg with e|e
  ·exact h3 g e
  ·exact .inr (by omega)⟩
theorem amz (p q ps pr:Nat)(jk:Nat→Prop)(w:World)(off:Bool)(x:Pm.Pg)(en:Int)(vw vr:Value)(r:Rl.Rs)(t:List Cm.Cv)(n1 k1:Nat)(bo:Option Addr)(rs:List Cw)(hb:w.heap[p]? =some (.cells (eF q off x vw en vr (.pointer (some ⟨ps,0,none⟩))) 94 (0,0)))(hw:SW ps pr q jk w ⟨r,t⟩)(hpW:¬jk p)
  (hg:Cm.Good 1 (Cm.lastN 0 r.l) (t++ay rs)) (hnn:∀k,Cm.lastN (Cm.lastN 0 r.l) (t++(ay rs).take k)=Cm.lastN 0 r.l+(t++(ay rs).take k).length) (ht:t.length≤2000) (hn:rs.length≤100) (hc:∀W,Out jk w W→di W (.slice bo n1 k1) rs) (hf:dL rs) (jN:∀c∈rs,0<c.l.length→∀b,c.v.ownBlock=some b→b<w.heap.size∧¬jk b):
  Calls Tryz.prog 68 #[.pointer (some ⟨p,11,none⟩),.slice bo n1 k1] w fun E w'=>E=.returned (.int .i64 0)∧vF ps pr q jk w w' r t (ay rs) rs.length:=by
 have hpl:=ax hb
 have hn1:n1=rs.length:=by
  rcases(hc w (Out.refl _ _)).1 with⟨h,h'⟩|⟨a,k,h,_⟩
  ·cases h;rw[h'];rfl
  ·cases h;rfl
 subst hn1
 have tq:Hid (∀W,Out jk w W→∀i c,rs[i]? =some c→∃b1 o1,bo=some ⟨b1,o1,none⟩∧W.cell? ⟨b1,o1+i*3,none⟩=some (.int .i64 c.e)∧W.cell? ⟨b1,o1+i*3+1,none⟩=some (.int .i64 c.n)∧W.cell? ⟨b1,o1+i*3+2,none⟩=some c.v):=hide fun W hW i c hi=>by
  obtain⟨b2,o2,k2,e,_,h⟩:=iP (hc W hW) (by have:=(List.getElem?_eq_some_iff.1 hi).1;omega)
  cases e
  exact⟨b2,o2,rfl,h i c hi⟩
 have HPB:Hid (∀W,Out jk w W→W.heap[p]? =some (.cells (eF q off x vw en vr (.pointer (some ⟨ps,0,none⟩))) 94 (0,0))):=hide fun W hW=>(hW.block p hpl hpW).trans hb
 have I0:Hid (vF ps pr q jk w w r t (ay rs) 0):=hide ⟨jk,by rw[List.take_zero,List.append_nil];exact hw,Out.refl _ _,fun g hg=>.inl hg⟩
 have OI:Hid (∀W k,vF ps pr q jk w W r t (ay rs) k→Out jk w W):=hide (by rintro W k ⟨_,_,h,_⟩;exact h)
 have RD:Hid (∀k (hk:k<rs.length) V,vF ps pr q jk w V r t (ay rs) k→Calls Tryz.prog 115 #[.pointer (some ⟨ps,0,none⟩),bK (rs[k]).e (rs[k]).n (rs[k]).v] V fun E w'=>E=.returned (.int .i64 0)∧vF ps pr q jk w w' r t (ay rs) (k+1)):=hide fun k hk V h=>aij _ ps pr q jk w V r t rs k hk h hg hnn ht hn (hc V (OI.out _ _ h)) hf jN
 have SH:Hid (∀c∈rs,∃a n k,c.v=.slice a n k):=hide fun c hm=>by
  rcases((hc w (Out.refl _ _)).2 c hm).1 with⟨h,_⟩|⟨a,k,h,_⟩
  ·exact⟨_,_,_,h⟩
  ·exact⟨_,_,_,h⟩
 clear hw hb hc hf jN hg hnn ht
 go_enter Tryz.func68,Tryz.ntmps68
 go_wp2_with fail
 go_loopw [10] (fun iv wr=>∃(k:Nat),iv=.int .i64 k∧k≤rs.length∧Hid (vF ps pr q jk w wr r t (ay rs) k)) (fun iv _=>rs.length-(intOf iv).toNat)
 case atStart=>exact⟨0,rfl,Nat.zero_le _,I0⟩
 case round=>
  obtain⟨k,rfl,hk,IK⟩:=hrel
  by_cases hlt:k<rs.length
  ·obtain⟨c,hcc⟩:∃c,rs[k]=c:=⟨_,rfl⟩
   obtain⟨b1,o1,rfl,a0,a1,a2⟩:=tq.out wr (OI.out _ _ IK.out) k c (by rw[List.getElem?_eq_getElem hlt,hcc])
   obtain⟨va,vn,vk,hv⟩:=SH.out c (by rw[←hcc];exact List.getElem_mem hlt)
   rw[hv]at a2
   obtain⟨V,hV,hV',sV,bV,PV,v0,v1,v2⟩:=fJ wr 35 (.int .i64 0) (.int .i64 0) (.slice none 0 0) (.int .i64 c.e) (.int .i64 c.n) (.slice va vn vk)
   have IV:=IK.out.box bV
   have AP:=RD.out k hlt V.drew (IV.box (Below.refl _ _).drew)
   rw[hcc,hv]at AP
   unfold bK at AP
   have d8:V.cell? ⟨p,12,none⟩=some (.pointer (some ⟨ps,0,none⟩)):=ai (HPB.out V (OI.out _ _ IV)) 12 rfl
   have AP2:Hid (Calls Tryz.prog 115 #[.pointer (some ⟨ps,0,none⟩),.agg #[.int .i64 c.e,.int .i64 c.n,.slice va vn vk]] V.drew fun E w'=>E=.returned (.int .i64 0)∧w'.cell? ⟨p,12,none⟩=some (.pointer (some ⟨ps,0,none⟩))∧Hid (vF ps pr q jk w w' r t (ay rs) (k+1))):=hide (by
    refine AP.mono ?_
    rintro E w' ⟨rfl,h⟩
    exact⟨rfl,ai (HPB.out w' (OI.out _ _ h)) 12 rfl,hide h⟩)
   have hlt':(k:Int)<rs.length:=by omega
   clear AP IV hcc hv PV bV sV IK
   go_wp2_with fail
   go_region_with (go_at_call 115;refine AP2.out.mono ?_;rintro E w' ⟨rfl,e8,H⟩)
   all_goals
    clear AP2
    go_wp2
    go_roundw
    case rel=>exact⟨k+1,by simp,by omega,H⟩
    case measure=>simp[intOf];omega
  ·obtain rfl:k=rs.length:=by omega
   have hlt':¬(rs.length:Int)<rs.length:=by omega
   clear RD tq SH I0 hlt hk
   go_wp2
   go_ret
   exact⟨rfl,IK.out⟩
theorem atg {F:Nat→Prop}{w:World}{v:Value}{l:List Bm.Ov}(h:∀W,Out F w W→dh W v l)(hl:0<l.length):∀b,v.ownBlock=some b→b<w.heap.size∧¬F b:=by
 intro b hb
 obtain⟨b1,off,cap,rfl,_,_,hlt,hc⟩:=(h w (Out.refl _ _)).full hl
 obtain rfl:b1=b:=by simpa[Value.ownBlock]using hb
 refine⟨hlt,fun hF=>?_⟩
 have h0:=(hc 0 l[0] (by rw[List.getElem?_eq_getElem hl])).1
 have o:Out F w (w.setCell ⟨b1,off+0*3,none⟩ (.int .i64 0)):=Out.aQ (az w ⟨b1,off+0*3,none⟩ (.int .i64 0)) fun i hi=>by
  have:b1=i:=by simpa using hi
  rw[←this]
  exact hF
 obtain⟨b2,o2,c2,e,_,_,_,hc2⟩:=(h _ o).full hl
 cases e
 have h1:=(hc2 0 l[0] (by rw[List.getElem?_eq_getElem hl])).1
 unfold World.cell? at h0
 simp only at h0
 split at h0
 ·rename_i cs t fr hg
  have hs:=aH hg (off+0*3) (.int .i64 0)
  have hi:off+0*3<cs.size:=by
   rcases Nat.lt_or_ge (off+0*3) cs.size with k|k
   ·exact k
   ·rw[Array.getElem?_eq_none k]at h0;cases h0
  have hi':off<cs.size:=by omega
  have:=ai hs (off+0*3) (u:=.int .i64 0) (by simp[hi'])
  rw[this]at h1
  cases h1
 ·cases h0
theorem Tryz.ay2 (a b:Int)(w:World):(Instr.field 31 (.agg #[.int .i64 a,.int .i64 b]) 0).run Tryz.prog w=.ok (.int .i64 a) w:=by kernel_rfl
theorem aor (g2 g3 p q pw:Nat)(FW:Nat→Prop)(w:World)(off:Bool)(x:Pm.Pg)(en:Int)(vr vs:Value)(sw:Wl.Ws)(bo:Option Addr)(n1 k1:Nat)(rs:List Cw)(hg2:w.heap[g2]? =some (.cells #[.pointer (some ⟨p,0,none⟩)] 41 (0,0)))(hg3:w.heap[g3]? =some (.cells #[.slice bo n1 k1] 22 (0,0)))(hb:w.heap[p]? =some (.cells (eF q off x (.pointer (some ⟨pw,0,none⟩)) en vr vs) 94 (0,0)))(hw:WW pw q FW w sw)(hc:di w (.slice bo n1 k1) rs)(hf:dL rs)(hl:rs.length≤100):
  Calls Tryz.prog 59 #[.pointer (some ⟨g2,0,none⟩),.pointer (some ⟨g3,0,none⟩)] w fun E w'=>E=.returned (.int .i64 (Cm.fol (Cm.lastE 0 sw.l) en 0 (ay rs)).1)∧Below w.heap.size w w':=by
 have hfd:=Tryz.ay2
 obtain⟨ss,hss⟩:∃S:World→Prop,S=fun W=>W.cell? ⟨g2,0,none⟩=some (.pointer (some ⟨p,0,none⟩))∧W.cell? ⟨g3,0,none⟩=some (.slice bo n1 k1)∧W.cell? ⟨p,8,none⟩=some (.pointer (some ⟨pw,0,none⟩))∧W.cell? ⟨p,9,none⟩=some (.int .i64 en):=⟨_,rfl⟩
 have HS:Hid (∀W,Below w.heap.size w W→ss W):=hide fun W k=>by
  subst hss
  exact⟨ai ((k.block _ (ax hg2)).trans hg2) 0 rfl,ai ((k.block _ (ax hg3)).trans hg3) 0 rfl,ai ((k.block _ (ax hb)).trans hb) 8 rfl,ai ((k.block _ (ax hb)).trans hb) 9 rfl⟩
 have HE:Hid (∀W,Below w.heap.size w W→Calls Tryz.prog 60 #[.pointer (some ⟨pw,0,none⟩)] W fun E w'=>E=.returned (.int .i64 (Cm.lastE 0 sw.l))∧Below w.heap.size w w'∧ss w'):=hide fun W k=>by
  refine(aaU pw q FW W sw (hw.below k)).mono ?_
  rintro E w' ⟨rfl,m,rfl⟩
  have k':=below_drewN k m
  exact⟨rfl,k',HS.out _ k'⟩
 generalize Cm.lastE 0 sw.l=ep at*
 have HF:Hid (∀W,Below w.heap.size w W→Calls Tryz.prog 6 #[.int .i64 ep,.int .i64 en,.slice bo n1 k1] W fun E w'=>E=.returned (rE (Cm.fol ep en 0 (ay rs)))∧Below w.heap.size w w'∧ss w'):=hide fun W k=>by
  refine(jA ep en _ rs W (hc.below k) hf (by omega)).mono ?_
  rintro E w' ⟨rfl,b⟩
  have k':=k.trans (b.mono k.size)
  exact⟨rfl,k',HS.out _ k'⟩
 obtain⟨f1,f2,hfo⟩:∃a b,Cm.fol ep en 0 (ay rs)=(a,b):=⟨_,_,rfl⟩
 rw[hfo]at HF⊢
 unfold rE at HF
 simp only at HF⊢
 have s0:=HS.out w (Below.refl _ _)
 subst hss
 obtain⟨a1,a2,a3,a4⟩:=s0
 clear hg2 hg3 hb hw hc hf hl hfo HS
 go_enter Tryz.func59,Tryz.ntmps59
 go_wp2_with fail
 go_region_held3 (fun W=>W.cell? ⟨g2,0,none⟩=some (.pointer (some ⟨p,0,none⟩))∧W.cell? ⟨g3,0,none⟩=some (.slice bo n1 k1)∧W.cell? ⟨p,8,none⟩=some (.pointer (some ⟨pw,0,none⟩))∧W.cell? ⟨p,9,none⟩=some (.int .i64 en)) (first|exact⟨a1,a2,a3,a4⟩|exact sF|exact sE|go_keep)
  (first
  |(go_at_call 60;refine(HE.out _ ((Below.refl _ _).drew)).mono ?_;rintro E w2 ⟨rfl,bE,sE⟩)
  |(go_at_call 6;refine(HF.out _ bE).mono ?_;rintro E w3 ⟨rfl,bF,sF⟩;have BF:=hide bF;clear bF))
 all_goals
  go_wp2
  go_ret
  exact⟨rfl,BF.out⟩
theorem aoo (g2 g3 p:Nat)(w:World)(r:Int)(h2:w.cell? ⟨g2,0,none⟩=some (.pointer (some ⟨p,0,none⟩)))(hs:Calls Tryz.prog 62 #[.pointer (some ⟨p,0,none⟩),.func (.func 63) #[] #[.pointer (some ⟨g3,0,none⟩)]] w fun E w'=>E=.returned (.int .i64 r)∧Below w.heap.size w w'):
  Calls Tryz.prog 61 #[.pointer (some ⟨g2,0,none⟩),.pointer (some ⟨g3,0,none⟩)] w fun E w'=>E=.returned (.int .i64 r)∧Below w.heap.size w w':=by
 have rG:∀(fn:Fn) (first cap:Array Value) (w:World),(Instr.makeFunc fn first cap).run Tryz.prog w=.ok (.func fn first cap) w:=fun _ _ _ _=>rfl
 have PC:=hide hs
 clear hs
 go_enter Tryz.func61,Tryz.ntmps61
 go_wp2_with fail
 refine PC.out.mono ?_
 rintro E w' ⟨rfl,b⟩
 have B:=hide b
 clear b PC
 go_wp2
 go_ret
 exact⟨rfl,B.out⟩
theorem aeI (g2 g3 p:Nat)(w:World)(bo:Option Addr)(n1 k1:Nat)(r:Int)(X:World→Prop)(h2:w.cell? ⟨g2,0,none⟩=some (.pointer (some ⟨p,0,none⟩)))(h3:w.cell? ⟨g3,0,none⟩=some (.slice bo n1 k1))(hs:Calls Tryz.prog 66 #[.pointer (some ⟨p,8,none⟩),.slice bo n1 k1] w.drew fun E w'=>E=.returned (.int .i64 r)∧X w'):
  Calls Tryz.prog 65 #[.pointer (some ⟨g2,0,none⟩),.pointer (some ⟨g3,0,none⟩)] w fun E w'=>E=.returned (.int .i64 r)∧X w':=by
 have PC:=hide hs
 clear hs
 go_enter Tryz.func65,Tryz.ntmps65
 go_wp2_with fail
 go_region_with (go_at_call 66;refine PC.out.mono ?_;rintro E w' ⟨rfl,k⟩;have K:=hide k;clear k)
 all_goals
  clear PC
  go_wp2
  go_ret
  exact⟨rfl,K.out⟩
theorem afC (g2 g3 p:Nat)(w:World)(bo:Option Addr)(n1 k1:Nat)(r:Int)(X:World→Prop)(h2:w.cell? ⟨g2,0,none⟩=some (.pointer (some ⟨p,0,none⟩)))(h3:w.cell? ⟨g3,0,none⟩=some (.slice bo n1 k1))(hs:Calls Tryz.prog 68 #[.pointer (some ⟨p,11,none⟩),.slice bo n1 k1] w.drew fun E w'=>E=.returned (.int .i64 r)∧X w'):
  Calls Tryz.prog 67 #[.pointer (some ⟨g2,0,none⟩),.pointer (some ⟨g3,0,none⟩)] w fun E w'=>E=.returned (.int .i64 r)∧X w':=by
 have PC:=hide hs
 clear hs
 go_enter Tryz.func67,Tryz.ntmps67
 go_wp2_with fail
 go_region_with (go_at_call 68;refine PC.out.mono ?_;rintro E w' ⟨rfl,k⟩;have K:=hide k;clear k)
 all_goals
  clear PC
  go_wp2
  go_ret
  exact⟨rfl,K.out⟩
theorem ahY (st:Dm.Ds):∃e,Dm.write st 0 []=(e,st)∧(e==1)=false:=by
 unfold Dm.write
 split
 ·exact⟨6,rfl,rfl⟩
 ·rw[if_neg (by decide)]
  exact⟨0,rfl,rfl⟩
theorem amN (q:Nat)(F:Nat→Prop)(w:World)(st:Dm.Ds)(node:Int)(h:Pk q F w st)(hm:eH w)(h0:¬F 0)(hB:Big 50000000 500000 st)(X:Nat→Int→World→Prop)
  (hrun:∀F2 w5 n0 P,n0=w.heap.size→sJ q F w w5 w5 n0 P F2 st→w.heap.size≤P→n0<P→w5.heap[n0]? =some (.cells #[.int .i64 node] 3 (0,0))→w5.heap[P+1]? =some (.cells #[.pointer (some ⟨P,0,none⟩)] 41 (0,0))→w5.heap[P]? =some (.cells (eF q false Pm.no (.pointer none) 0 (.pointer none) (.pointer none)) 94 (0,0))→Run (P+2) (fun e W=>W.heap[P+1]? =w5.heap[P+1]?∧X P e W) [.func (.func 46) #[] #[.pointer (some ⟨n0,0,none⟩)],.func (.func 48) #[.pointer (some ⟨P,0,none⟩)] #[],.func (.func 49) #[] #[.pointer (some ⟨P+1,0,none⟩),.pointer (some ⟨n0,0,none⟩)],.func (.func 51) #[.pointer (some ⟨P,0,none⟩)] #[],.func (.func 52) #[.pointer (some ⟨P,0,none⟩)] #[],.func (.func 53) #[] #[.pointer (some ⟨P+1,0,none⟩)],.func (.func 56) #[.pointer (some ⟨P,0,none⟩)] #[]] w5):
  Calls Tryz.prog 26 #[.pointer (some ⟨q,0,none⟩),.int .i64 node] w fun E w'=>∃P e,Hid (X P e w')∧(e≠0∧E=.returned (.tuple #[.pointer none,.int .i64 e])∨e=0∧E=.returned (.tuple #[.pointer (some ⟨P,0,none⟩),.int .i64 0])):=by
 have rG:∀(fn:Fn) (first cap:Array Value) (w:World),(Instr.makeFunc fn first cap).run Tryz.prog w=.ok (.func fn first cap) w:=fun _ _ _ _=>rfl
 have hp:=hm.pos
 obtain⟨w1,hw1,s1,b1,P1⟩:=ak w #[.int .i64 node] 3
 obtain⟨e0,hwe,he0⟩:=ahY st
 have WR:Hid (Calls Tryz.prog 44 #[.pointer (some ⟨q,0,none⟩),.int .i64 0,.slice none 0 0] w1 fun E w'=>E=.returned (.int .i64 e0)∧aV q F w1 w' st):=hide (by
  have:=oQ q F w1 st 0 (.slice none 0 0) [] (h.below b1) (Is.nil _ _) (fun k=>by simp at k) (by simp) (by have:=hB.1.2.1;simp[cnt];omega) hB.2 (by have:=hB.1.2.2;simp[cnt];omega)
  rw[hwe]at this
  exact this)
 have HH:=hide (And.intro h (And.intro hm (And.intro b1 P1)))
 have HR:=hide hrun
 clear h hm hB b1 P1 hwe hrun
 go_enter Tryz.func26,Tryz.ntmps26
 go_wp2_with fail
 refine WR.out.mono ?_
 rintro E w2 ⟨rfl,F2,k1,k2,k3⟩
 clear WR
 obtain⟨h,hm,b1,P1⟩:=HH.out
 have hF:=h.lt
 have z2:=k2.size
 obtain⟨P,hP⟩:∃P,w2.heap.size=P:=⟨_,rfl⟩
 obtain⟨w3,hw3,s3,b3,P3⟩:=ak w2 (eF q false Pm.no (.pointer none) 0 (.pointer none) (.pointer none)) 94
 obtain⟨w4,hw4,aue,s4,b4,P4⟩:=agB w3 41 (.pointer none) (.pointer (some ⟨P,0,none⟩))
 obtain⟨n0,hn0⟩:∃n,w.heap.size=n:=⟨_,rfl⟩
 obtain⟨w5,qU,s5,b5,P5⟩:=ak w4 #[.func (.func 46) #[] #[.pointer (some ⟨n0,0,none⟩)],.func (.func 48) #[.pointer (some ⟨P,0,none⟩)] #[],.func (.func 49) #[] #[.pointer (some ⟨P+1,0,none⟩),.pointer (some ⟨n0,0,none⟩)],.func (.func 51) #[.pointer (some ⟨P,0,none⟩)] #[],.func (.func 52) #[.pointer (some ⟨P,0,none⟩)] #[],.func (.func 53) #[] #[.pointer (some ⟨P+1,0,none⟩)],.func (.func 56) #[.pointer (some ⟨P,0,none⟩)] #[]] 154
 have z3:w3.heap.size=P+1:=by omega
 have z4:w4.heap.size=P+2:=by omega
 have z5:w5.heap.size=P+3:=by omega
 rw[hP]at P3
 rw[z3]at P4
 rw[z4]at P5
 have ru:Below w2.heap.size w2 w5:=(b3.trans (b4.mono (by omega))).trans (b5.mono (by omega))
 have n1:w1.heap.size=n0+1:=by omega
 have nF2:¬F2 n0:=fun e=>by
  rcases k3 n0 e with e|e
  ·have:=hF n0 e;omega
  ·omega
 have lF2:=k1.lt
 have c1:w2.heap[n0]? =some (.cells #[.int .i64 node] 3 (0,0)):=(k2.block n0 (by omega) fun e=>by have:=hF n0 e;omega).trans (by rw[←hn0];exact P1)
 have I5:sJ q F w w5 w5 n0 P F2 st:=by
  refine⟨k1.below ru,((Out.of_below b1).trans k2 fun g hg=>.inl hg).trans (Out.of_below (F:=fun _=>False) ru) fun g hg=>hg.elim,fun g hg=>(k3 g hg).imp id fun e=>by omega,(gI (hm.below b1) k2 h0).below ru,?_,fun g hg=>rfl⟩
  rintro g (rfl|rfl|rfl|rfl)
  ·exact⟨nF2,by omega⟩
  ·exact⟨fun e=>by have:=lF2 _ e;omega,by omega⟩
  ·exact⟨fun e=>by have:=lF2 _ e;omega,by omega⟩
  ·exact⟨fun e=>by have:=lF2 _ e;omega,by omega⟩
 have q1:=(b5.block (P+1) (by omega)).trans P4
 have RUN:=HR.out F2 w5 n0 P hn0.symm I5 (by omega) (by omega) ((ru.block n0 (by omega)).trans c1) q1 ((b5.block P (by omega)).trans ((b4.block P (by omega)).trans P3))
 have Ioq:=hide (rZ (P+2) 7 _ w5 _ rfl (by omega) P5 RUN)
 have Q1:=hide q1
 have c4:w4.cell? ⟨P+1,0,none⟩=some (.pointer (some ⟨P,0,none⟩)):=ai P4 0 rfl
 unfold eF Pm.no at hw3
 simp only at hw3
 rw[hn0]
 clear HR HH RUN I5 q1 P1 P3 P4 P5 b1 b3 b4 b5 ru k1 k2 k3 nF2 lF2 c1 h hm hF n1 z5 s3 s4 s5 z2 hp h0
 go_wp2_with fail
 refine Ioq.out.mono ?_
 rintro E W ⟨e,rfl,hk,hX⟩
 have cW:W.cell? ⟨P+1,0,none⟩=some (.pointer (some ⟨P,0,none⟩)):=ai (hk.trans Q1.out) 0 rfl
 have HX:=hide hX
 clear Ioq Q1 hk hX
 by_cases he:e=0
 ·subst he
  go_wp2
  go_ret2
  exact⟨P,0,HX,.inr ⟨rfl,rfl⟩⟩
 ·have he':(e==0)=false:=by simpa using he
  go_wp2
  go_ret2
  exact⟨P,e,HX,.inl ⟨he,rfl⟩⟩
end Go.Proofs.YtmngcecomcadkaaGreatDoor
