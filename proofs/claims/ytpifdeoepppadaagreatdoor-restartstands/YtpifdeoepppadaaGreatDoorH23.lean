/- Texts of one layer, one behind the other. -/
import Derived.Test.YtpifdeoepppadaaGreatDoorH22
set_option maxRecDepth 100000
set_option maxHeartbeats 8000000
namespace Go.Proofs.YtpifdeoepppadaaGreatDoor
open Go.RowKit
set_option linter.unusedVariables false
structure OpI (q:Nat) (F:Nat→Prop) (w w5 W:World) (n0 P:Nat) (Fk:Nat→Prop) (d:Dm.Ds):Prop where
 qR:Pk q Fk W d
 out:Out F w W
 far:∀g,Fk g→F g∨w.heap.size≤g
 gB:ib W
 nb:∀g,g=n0∨g=P∨g=P+1∨g=P+2→¬Fk g∧g<W.heap.size
 keep:∀g,g=n0∨g=P+1∨g=P+2→W.heap[g]? =w5.heap[g]?
section
variable {q n0 P:Nat} {F Fk F':Nat→Prop} {w w5 W W':World} {d d':Dm.Ds}
theorem OpI.step (h:OpI q F w w5 W n0 P Fk d)(h0:¬F 0)(hp:0<w.heap.size)(hP:w.heap.size≤P)(hn:n0<P)(k1:Pk q F' W' d')(k2:Out (fun g=>Fk g∨g=P) W W')(k3:∀g,F' g→Fk g∨W.heap.size≤g):OpI q F w w5 W' n0 P F' d':=by
 have hs:=h.out.size
 have hz:=k2.size
 refine⟨k1,h.out.trans k2 fun g hg=>?_,fun g hg=>?_,gm h.gB k2 fun e=>?_,fun g hg=>⟨fun e=>?_,?_⟩,fun g hg=>(k2.block g (h.nb g ?_).2 fun e=>?_).trans (h.keep g hg)⟩
 ·rcases hg with e|e
  ·exact h.far g e
  ·exact .inr (by omega)
 ·rcases k3 g hg with e|e
  ·exact h.far g e
  ·exact .inr (by omega)
 ·rcases e with e|e
  ·rcases h.far 0 e with e|e
   ·exact h0 e
   ·omega
  ·omega
 ·rcases k3 g e with e|e
  ·exact(h.nb g hg).1 e
  ·have:=(h.nb g hg).2;omega
 ·have:=(h.nb g hg).2;omega
 ·rcases hg with e|e|e
  ·exact .inl e
  ·exact .inr (.inr (.inl e))
  ·exact .inr (.inr (.inr e))
 ·rcases e with e|e
  ·exact(h.nb g (by rcases hg with e|e|e;exact .inl e;exact .inr (.inr (.inl e));exact .inr (.inr (.inr e)))).1 e
  ·rcases hg with k|k|k<;>omega
theorem OpI.below (h:OpI q F w w5 W n0 P Fk d)(h0:¬F 0)(hp:0<w.heap.size)(hP:w.heap.size≤P)(hn:n0<P)(hb:Below W.heap.size W W'):OpI q F w w5 W' n0 P Fk d:=
 h.step h0 hp hP hn (h.qR.below hb) (Out.of_below hb) fun g hg=>.inl hg
end
def OpQ (q:Nat) (F:Nat→Prop) (w w5:World) (P:Nat) (st:Dm.Ds) (m:List Cm.Cv) (p:Pm.Pg) (g:Nat) (r:List Cm.Cv) (ss:List Orp.Se) (e:Int) (W:World):Prop:=
 e=Rst.gP st m p g r ss∧W.heap[P+1]? =w5.heap[P+1]?∧∃F',(Pk q F' W (Rst.fV st m g r ss)∧Out F w W∧∀g,F' g→F g∨w.heap.size≤g)∧(e=0→∃G,PO P q G W ⟨Rst.fV st m g r ss,p,m,r,false⟩∧∀g,G g→w.heap.size≤g∧¬F' g)
theorem azY (p q:Nat)(F:Nat→Prop)(w:World)(st:Dm.Ds)(ss:List Orp.Se)(h:Pk q F w st)(hs:Big 90000000 700000 st)(hp:w.cell? ⟨p,0,none⟩=some (.pointer (some ⟨q,0,none⟩)))(hpl:p<w.heap.size)(ho:st.on=true)(h3:Rst.hf 3 st=Orp.secs ss)(hr:Orp.Ris 0 ss):∀W,Below w.heap.size w W→
  Calls Tryz.prog 114 #[.pointer (some ⟨p,0,none⟩)] W fun E w'=>E=.returned (.int .i64 (Orp.secs ss).length)∧Below W.heap.size W w':=by
 intro W hW
 have e:W.cell? ⟨p,0,none⟩=w.cell? ⟨p,0,none⟩:=by have:=hW.block p hpl;simp[World.cell?,this]
 refine(ahl p q F W st (h.below hW) hs (e.trans hp) ho).mono ?_
 rintro E w' ⟨s2,rfl,k,b⟩
 have k:=k.out
 rw[h3]at k
 rw[Orp.vC k (Orp.zW hr)]
 exact⟨rfl,b⟩
theorem aoQ (q:Nat)(F F2:Nat→Prop)(w w5:World)(n0 P:Nat)(st:Dm.Ds)(node:Int)(m:List Cm.Cv)(p:Pm.Pg)(g:Nat)(r:List Cm.Cv)(ss:List Orp.Se)(I5:OpI q F w w5 w5 n0 P F2 st)(h0:¬F 0)(hp:0<w.heap.size)(hP:w.heap.size≤P)(hn:n0<P)(hn0:w5.heap[n0]? =some (.cells #[.int .i64 node] 3 (0,0)))(hP1:w5.heap[P+1]? =some (.cells #[.pointer (some ⟨P,0,none⟩)] 25 (0,0)))(hPb:w5.heap[P]? =some (.cells (fw q false Pm.no (.pointer none) 0 (.pointer none) (.pointer none)) 60 (0,0)))
  (SC:Rst.za st (fst node) m p g r ss) (hL:m.length≤100000) (hB:Big 50000000 500000 st) (ho:st.on=true) (afw:node=0∨node=1):Run (P+2) (OpQ q F w w5 P st m p g r ss) [.func (.func 39) #[] #[.pointer (some ⟨n0,0,none⟩)],.func (.func 41) #[.pointer (some ⟨P,0,none⟩)] #[],.func (.func 42) #[] #[.pointer (some ⟨P+1,0,none⟩),.pointer (some ⟨n0,0,none⟩)],.func (.func 44) #[.pointer (some ⟨P,0,none⟩)] #[],.func (.func 45) #[.pointer (some ⟨P,0,none⟩)] #[],.func (.func 46) #[] #[.pointer (some ⟨P+1,0,none⟩)],.func (.func 49) #[.pointer (some ⟨P,0,none⟩)] #[]] w5:=by
 obtain⟨fo,fe⟩:=abD afw
 have nP:P=n0∨P=P∨P=P+1∨P=P+2:=.inr (.inl rfl)
 have l2:∀{W Fk d},OpI q F w w5 W n0 P Fk d→P+2<W.heap.size∧¬(Fk (P+2)∨P+2=P):=fun h=>⟨(h.nb _ (.inr (.inr (.inr rfl)))).2,fun e=>e.elim (h.nb _ (.inr (.inr (.inr rfl)))).1 (by omega)⟩
 refine Run.cons (enters_of Tryz.func39 (by kernel_rfl) rfl) (by simp) ((yl n0 node w5 (ai hn0 0 rfl)).mono ?_)
 rintro E W1 ⟨rfl,b1⟩
 refine⟨_,rfl,b1.block _ (l2 I5).1,.inr ⟨fe,?_⟩⟩
 have I1:=I5.below h0 hp hP hn b1
 have p1:=(b1.block P (I5.nb P nP).2).trans hPb
 refine Run.cons (enters_of Tryz.func41 (by kernel_rfl) rfl) (by simp) ((aaw P q F2 W1 st Pm.no _ _ I1.qR (hB.mono (by decide) (by decide)) p1 (I1.nb P nP).1).mono ?_)
 rintro E W2 ⟨m2,rfl,HL,⟨F3,k1,k2,k3⟩,hok⟩
 obtain rfl:m2=m:=Wl.rA HL.out SC.log
 have eE:gP st m2=(Rst.bT 0 st (Wl.aW m2).length).1:=by unfold gP;rw[if_neg (by simp[ho])];rfl
 have eD:fV st m2=Rst.d1 st m2:=by unfold fV;rw[if_neg (by simp[ho])];rfl
 rw[eE]at hok⊢
 rw[eD]at k1
 have I2:=I1.step h0 hp hP hn k1 k2 k3
 have z12:=k2.size
 refine⟨_,rfl,k2.block _ (l2 I1).1 (l2 I1).2,?_⟩
 obtain⟨c1,o1⟩:=zq st 0 (Wl.aW m2).length ho
 have B1:Big 50000000 500002 (Rst.d1 st m2):=mE 0 _ hB
 rcases c1 with c1|c1
 case inr=>
  rw[c1]
  exact .inl ⟨by decide,by unfold Rst.gP;rw[if_neg (by simp[ho]),if_pos (by simp[c1])],I2.keep _ (.inr (.inl rfl)),F3,⟨by unfold Rst.fV;rw[if_neg (by simp[ho]),if_pos (by simp[c1])];exact k1,I2.out,I2.far⟩,fun e=>absurd e (by decide)⟩
 refine .inr ⟨c1,?_⟩
 have ho1:(Rst.d1 st m2).on=true:=o1 c1
 obtain⟨pw,Gw,hW,hGw,p2⟩:=hok c1
 refine Run.cons (enters_of Tryz.func42 (by kernel_rfl) rfl) (by simp) ((anB (P+1) n0 P node 0 W2 (fun e w'=>∃y n,e=(Rst.bT 1 (Rst.d1 st m2) n).1∧Hid (Pm.Ls (Rst.hf 1 (Rst.d1 st m2)) (fst node) y n)∧(∃F',Pk q F' w' (Rst.bT 1 (Rst.d1 st m2) n).2∧Out (fun g=>F3 g∨g=P) W2 w'∧(∀g,F' g→F3 g∨W2.heap.size≤g))∧w'.heap[P]? =some (.cells (fw q false y (.pointer (some ⟨pw,0,none⟩)) m2.length (.pointer none) (.pointer none)) 60 (0,0))) (ai ((I2.keep _ (.inr (.inl rfl))).trans hP1) 0 rfl) (ai ((I2.keep _ (.inl rfl)).trans hn0) 0 rfl) ((afa P q F3 W2 (Rst.d1 st m2) Pm.no _ _ _ _ node I2.qR (B1.mono (by decide) (by decide)) ho1 p2 (I2.nb P nP).1 I2.gB afw).mono ?_)).mono ?_)
 ·rintro E w' ⟨y,n,rfl,k⟩
  exact⟨_,rfl,y,n,rfl,k⟩
 rintro E W3 ⟨_,rfl,y,n,rfl,HLS,⟨F4,k1,k2,k3⟩,p3⟩
 have hls:=HLS.out
 rw[show Rst.hf 1 (Rst.d1 st m2)=Rst.hf 1 st from vF st 0 _ 1 (by omega)]at hls
 obtain⟨rfl,rfl⟩:=Pm.aby hls SC.ny
 obtain⟨oky,_⟩:=atn hls fo
 have I3:=I2.step h0 hp hP hn k1 k2 k3
 have z23:=k2.size
 have hW3:Wk pw q Gw W3 m2 false:=hW.out k2 fun e he k=>k.elim (oC hW I2.qR e he) fun k=>by have:=hGw e he;have:=(I1.nb P nP).2;omega
 refine⟨_,rfl,k2.block _ (l2 I2).1 (l2 I2).2,?_⟩
 obtain⟨c2,o2⟩:=zq (Rst.d1 st m2) 1 n ho1
 have B2:Big 50000000 500004 (Rst.d2 st m2 n):=mE 1 _ B1
 rcases c2 with c2|c2
 case inr=>
  rw[c2]
  exact .inl ⟨by decide,by unfold Rst.gP;rw[if_neg (by simp[ho]),if_neg (by simp[c1]),if_pos (by simp[c2])],I3.keep _ (.inr (.inl rfl)),F4,⟨by unfold Rst.fV;rw[if_neg (by simp[ho]),if_neg (by simp[c1]),if_pos (by simp[c2])];exact k1,I3.out,I3.far⟩,fun e=>absurd e (by decide)⟩
 refine .inr ⟨c2,?_⟩
 have ho2:(Rst.d2 st m2 n).on=true:=o2 c2
 have k1:Pk q F4 W3 (Rst.d2 st m2 n):=k1
 refine Run.cons (enters_of Tryz.func44 (by kernel_rfl) rfl) (by simp) ((af5 P q F4 W3 (Rst.d2 st m2 n) y _ _ _ k1 (B2.mono (by decide) (by decide)) p3 (I3.nb P nP).1).mono ?_)
 rintro E W4 ⟨r2,rfl,HL2,⟨F5,k1,k2,k3⟩,hok⟩
 have hl2:Rl.Lg 0 (Rst.hf 2 (Rst.d2 st m2 n)) r2:=HL2.out
 rw[show Rst.hf 2 (Rst.d2 st m2 n)=Rst.hf 2 st from(vF _ 1 _ 2 (by omega)).trans (vF st 0 _ 2 (by omega))]at hl2
 obtain rfl:r2=r:=Rl.rA hl2 SC.run
 have eE:lh (Rst.d2 st m2 n) r2=(Rst.bT 2 (Rst.d2 st m2 n) (Rl.aW r2).length).1:=by unfold lh;rw[if_neg (by simp[ho2])];rfl
 have eD:mZ (Rst.d2 st m2 n) r2=Rst.d3 st m2 n r2:=by unfold mZ;rw[if_neg (by simp[ho2])];rfl
 rw[eE]at hok⊢
 rw[eD]at k1
 have I4:=I3.step h0 hp hP hn k1 k2 k3
 have z34:=k2.size
 have hW4:Wk pw q Gw W4 m2 false:=hW3.out k2 fun e he k=>k.elim (oC hW3 I3.qR e he) fun k=>by have:=hGw e he;have:=(I1.nb P nP).2;omega
 refine⟨_,rfl,k2.block _ (l2 I3).1 (l2 I3).2,?_⟩
 obtain⟨c3,o3⟩:=zq (Rst.d2 st m2 n) 2 (Rl.aW r2).length ho2
 have B3:Big 50000000 500006 (Rst.d3 st m2 n r2):=mE 2 _ B2
 rcases c3 with c3|c3
 case inr=>
  rw[c3]
  exact .inl ⟨by decide,by unfold Rst.gP;rw[if_neg (by simp[ho]),if_neg (by simp[c1]),if_neg (by simp[c2]),if_pos (by simp[c3])],I4.keep _ (.inr (.inl rfl)),F5,⟨by unfold Rst.fV;rw[if_neg (by simp[ho]),if_neg (by simp[c1]),if_neg (by simp[c2]),if_pos (by simp[c3])];exact k1,I4.out,I4.far⟩,fun e=>absurd e (by decide)⟩
 refine .inr ⟨c3,?_⟩
 have ho3:(Rst.d3 st m2 n r2).on=true:=o3 c3
 obtain⟨pr,Gr,hR,hGr,p4⟩:=hok c3
 refine Run.cons (enters_of Tryz.func45 (by kernel_rfl) rfl) (by simp) ((ahp P q F5 W4 (Rst.d3 st m2 n r2) _ k1 (B3.mono (by decide) (by decide)) ho3 p4 rfl (I4.nb P nP).1).mono ?_)
 rintro E W5 ⟨s2,rfl,HS2,F6,k1,k2,k3⟩
 have hs2:=HS2.out
 have h33:Rst.hf 3 (Rst.d3 st m2 n r2)=Rst.hf 3 st:=(vF _ 2 _ 3 (by omega)).trans ((vF _ 1 _ 3 (by omega)).trans (vF st 0 _ 3 (by omega)))
 rw[h33]at hs2
 obtain rfl:s2=ss:=Orp.vC hs2 SC.lZ
 have k2':Out (fun g=>F5 g∨g=P) W4 W5:=k2.mono fun g hg=>.inl (.inl hg)
 have I6:=I4.step h0 hp hP hn k1 k2' k3
 have z45:=k2.size
 have hW5:Wk pw q Gw W5 m2 false:=hW4.out k2 fun e he=>oC hW4 I4.qR e he
 have hR5:Rk pr q Gr W5 r2 false:=hR.out k2 fun e he=>tT hR I4.qR e he
 have p5:=(k2.block P (I4.nb P nP).2 (I4.nb P nP).1).trans p4
 refine⟨_,rfl,k2.block _ (l2 I4).1 (fun e=>(l2 I4).2 (.inl e)),?_⟩
 obtain⟨c4,o4⟩:=zq (Rst.d3 st m2 n r2) 3 (Orp.secs s2).length ho3
 have B4:Big 50000000 500008 (Rst.d4 st m2 n r2 s2):=mE 3 _ B3
 have hD4:Rst.fV st m2 n r2 s2=Rst.d4 st m2 n r2 s2:=by unfold Rst.fV;rw[if_neg (by simp[ho]),if_neg (by simp[c1]),if_neg (by simp[c2]),if_neg (by simp[c3])]
 have k1:Pk q F6 W5 (Rst.d4 st m2 n r2 s2):=k1
 rcases c4 with c4|c4
 case inr=>
  rw[c4]
  exact .inl ⟨by decide,by unfold Rst.gP;rw[if_neg (by simp[ho]),if_neg (by simp[c1]),if_neg (by simp[c2]),if_neg (by simp[c3]),if_pos (by simp[c4])],I6.keep _ (.inr (.inl rfl)),F6,⟨by rw[hD4];exact k1,I6.out,I6.far⟩,fun e=>absurd e (by decide)⟩
 refine .inr ⟨c4,?_⟩
 have ho4:(Rst.d4 st m2 n r2 s2).on=true:=o4 c4
 have hE4:Rst.gP st m2 y n r2 s2=if Rst.snd y m2 (Cm.lastN 0 r2) (Orp.secs s2).length=true then 0 else 5:=by
  unfold Rst.gP
  rw[if_neg (by simp[ho]),if_neg (by simp[c1]),if_neg (by simp[c2]),if_neg (by simp[c3]),if_neg (by simp[c4])]
 have h34:Rst.hf 3 (Rst.d4 st m2 n r2 s2)=Orp.secs s2:=by
  have hpre:=hs2.2.1
  have:=apK (Rst.d3 st m2 n r2) 3 (Orp.secs s2).length (by omega) (by rw[h33];exact hpre.length_le) c4 ho3
  rw[h33]at this
  exact this.trans (List.prefix_iff_eq_take.1 hpre).symm
 have SE:=azY P q F6 W5 (Rst.d4 st m2 n r2 s2) s2 k1 (B4.mono (by decide) (by decide)) (ai p5 0 rfl) (aA p5) ho4 h34 hs2.1
 refine Run.cons (enters_of Tryz.func46 (by kernel_rfl) rfl) (by simp) ((amP (P+1) P q pw pr _ _ W5 _ y _ _ _ ⟨Rst.d4 st m2 n r2 s2,m2,false⟩ ⟨Rst.d4 st m2 n r2 s2,r2,false⟩ (ai ((I6.keep _ (.inr (.inl rfl))).trans hP1) 0 rfl) p5 ⟨F6,Gw,k1,hW5,rfl⟩ ⟨F6,Gr,k1,hR5,rfl⟩ SE).mono ?_)
 rintro E W6 ⟨rfl,b6⟩
 simp only
 rw[zx oky,←hE4]
 have I7:=I6.below h0 hp hP hn b6
 refine⟨_,rfl,b6.block _ (l2 I6).1,?_⟩
 cases hsn:Rst.snd y m2 (Cm.lastN 0 r2) (Orp.secs s2).length with
 |false=>
  rw[hsn,if_neg (by simp)]at hE4
  rw[hE4]
  exact .inl ⟨by decide,hE4.symm,I7.keep _ (.inr (.inl rfl)),F6,⟨by rw[hD4];exact I7.qR,I7.out,I7.far⟩,fun e=>absurd e (by decide)⟩
 |true=>
  rw[hsn,if_pos rfl]at hE4
  rw[hE4]
  refine .inr ⟨rfl,?_⟩
  have hle:Cm.lastN 0 r2≤m2.length:=(Rst.uX.1 hsn).1.1
  have hW6:=hW5.below b6
  have hR6:=hR5.below b6
  refine Run.cons (enters_of Tryz.func49 (by kernel_rfl) rfl) (by simp) ((ae1 P q pw pr F6 Gw Gr W6 _ y _ (Rst.d4 st m2 n r2 s2) m2 r2 ((b6.block P (aA p5)).trans p5) rfl I7.qR hW6 hR6 hle hL).mono ?_)
  rintro E W7 ⟨rfl,ps,Gs,hS7,hGs,p7,o7⟩
  have o7':Out (fun g=>F6 g∨g=P) W6 W7:=o7.mono fun g hg=>.inl (.inr hg)
  have nF6:∀g,F6 g→¬g=P:=fun g hg e=>(I7.nb P nP).1 (e▸hg)
  have k7:Pk q F6 W7 (Rst.d4 st m2 n r2 s2):=I7.qR.agree fun g hg=>o7.block g (I7.qR.lt g hg) (nF6 g hg)
  have I8:=I7.step h0 hp hP hn k7 o7' fun g hg=>.inl hg
  have s1:=I1.out.size
  have lP:=(I1.nb P nP).2
  have z56:=b6.size
  have a1:=hW.lt
  have a2:=hR.lt
  have gw:∀g,Gw g→W1.heap.size≤g∧g<W2.heap.size:=fun g hg=>⟨hGw g hg,a1 g hg⟩
  have gr:∀g,Gr g→W3.heap.size≤g∧g<W4.heap.size:=fun g hg=>⟨hGr g hg,a2 g hg⟩
  have hgr:Rl.Good 0 r2:=by
   obtain⟨v,rs,k,_⟩:=hR
   exact k.log.good
  have h0n:0≤Cm.lastN 0 r2:=(Rl.eB hgr).2.1
  have hgd:Cm.Good 1 (Cm.lastN 0 r2) (m2.drop (Cm.lastN 0 r2).toNat):=by
   have:=Sto.l8 (Rst.mI hW.good) (Cm.lastN 0 r2).toNat (by omega)
   rw[show(0:Int)+((Cm.lastN 0 r2).toNat:Int)=Cm.lastN 0 r2 by omega]at this
   exact this
  refine⟨_,rfl,o7.block _ (l2 I7).1 (fun e=>(l2 I7).2 (.inr e)),.inr ⟨rfl,hE4.symm,I8.keep _ (.inr (.inl rfl)),F6,⟨by rw[hD4];exact k7,I8.out,I8.far⟩,fun _=>⟨PB P Gw Gr Gs,⟨pw,pr,ps,Gw,Gr,Gs,m2,false,false,⟨p7,hW6.out o7 fun g hg e=>by have:=gw g hg;omega,hR6.out o7 fun g hg e=>by have:=gr g hg;omega,hS7,List.take_length.symm,fun _=>⟨rfl,rfl,rfl⟩,oky,agL oky,hgd,hle,⟨fun e=>by have:=gw P e;omega,fun e=>by have:=gr P e;omega,fun e=>by have:=hGs P e;omega⟩,fun g hg e=>by have:=gw g hg;have:=gr g e;omega,fun g hg e=>by have:=gw g hg;have:=hGs g e;omega,fun g hg e=>by have:=gr g hg;have:=hGs g e;omega⟩,rfl⟩,?_⟩⟩⟩
  rintro g (rfl|e|e|e)
  ·exact⟨hP,(I8.nb g nP).1⟩
  ·exact⟨by have:=gw g e;omega,oC hW6 I7.qR g e⟩
  ·exact⟨by have:=gr g e;omega,tT hR6 I7.qR g e⟩
  ·exact⟨by have:=hGs g e;omega,fun k=>by have:=hGs g e;have:=I7.qR.lt g k;omega⟩
theorem akW (st:Dm.Ds):∃e,Dm.write st 0 []=(e,st)∧(e==1)=false:=by
 unfold Dm.write
 split
 ·exact⟨6,rfl,rfl⟩
 ·rw[if_neg (by decide)]
  exact⟨0,rfl,rfl⟩
theorem Run.mono {B:Nat}{Q Q':Int→World→Prop}(h:∀e W,Q e W→Q' e W):∀{l:List Value} {w:World},Run B Q l w→Run B Q' l w
 |[],w,k=>h 0 w k
 |v::l,w,k=>by
  obtain⟨f,first,cap,hv,eg,hc⟩:=k
  refine⟨f,first,cap,hv,eg,hc.mono ?_⟩
  rintro E w' ⟨e,hE,hb,hd⟩
  exact⟨e,hE,hb,hd.imp (fun k=>⟨k.1,h _ _ k.2⟩) fun k=>⟨k.1,Run.mono h k.2⟩⟩
theorem aa2 (q:Nat)(F:Nat→Prop)(w:World)(st:Dm.Ds)(node:Int)(h:Pk q F w st)(hm:ib w)(h0:¬F 0)(hB:Big 50000000 500000 st)(X:Nat→Int→World→Prop)
  (hrun:∀F2 w5 n0 P,n0=w.heap.size→OpI q F w w5 w5 n0 P F2 st→w.heap.size≤P→n0<P→w5.heap[n0]? =some (.cells #[.int .i64 node] 3 (0,0))→w5.heap[P+1]? =some (.cells #[.pointer (some ⟨P,0,none⟩)] 25 (0,0))→w5.heap[P]? =some (.cells (fw q false Pm.no (.pointer none) 0 (.pointer none) (.pointer none)) 60 (0,0))→Run (P+2) (fun e W=>W.heap[P+1]? =w5.heap[P+1]?∧X P e W) [.func (.func 39) #[] #[.pointer (some ⟨n0,0,none⟩)],.func (.func 41) #[.pointer (some ⟨P,0,none⟩)] #[],.func (.func 42) #[] #[.pointer (some ⟨P+1,0,none⟩),.pointer (some ⟨n0,0,none⟩)],.func (.func 44) #[.pointer (some ⟨P,0,none⟩)] #[],.func (.func 45) #[.pointer (some ⟨P,0,none⟩)] #[],.func (.func 46) #[] #[.pointer (some ⟨P+1,0,none⟩)],.func (.func 49) #[.pointer (some ⟨P,0,none⟩)] #[]] w5):
  Calls Tryz.prog 9 #[.pointer (some ⟨q,0,none⟩),.int .i64 node] w fun E w'=>∃P e,Hid (X P e w')∧(e≠0∧E=.returned (.tuple #[.pointer none,.int .i64 e])∨e=0∧E=.returned (.tuple #[.pointer (some ⟨P,0,none⟩),.int .i64 0])):=by
 have qf:∀(fn:Fn) (first cap:Array Value) (w:World),(Instr.makeFunc fn first cap).run Tryz.prog w=.ok (.func fn first cap) w:=fun _ _ _ _=>rfl
 have hp:=hm.pos
 obtain⟨w1,hw1,s1,b1,P1⟩:=ay w #[.int .i64 node] 3
 obtain⟨e0,hwe,he0⟩:=akW st
 have WR:Hid (Calls Tryz.prog 37 #[.pointer (some ⟨q,0,none⟩),.int .i64 0,.slice none 0 0] w1 fun E w'=>E=.returned (.int .i64 e0)∧aP q F w1 w' st):=hide (by
  have:=tV q F w1 st 0 (.slice none 0 0) [] (h.below b1) (Is.nil _ _) (fun k=>by simp at k) (by simp) (by have:=hB.1.2.1;simp[cnt];omega) hB.2 (by have:=hB.1.2.2;simp[cnt];omega)
  rw[hwe]at this
  exact this)
 have HH:=hide (And.intro h (And.intro hm (And.intro b1 P1)))
 have HR:=hide hrun
 clear h hm hB b1 P1 hwe hrun
 go_enter Tryz.func9,Tryz.ntmps9
 go_wp2_with fail
 refine WR.out.mono ?_
 rintro E w2 ⟨rfl,F2,k1,k2,k3⟩
 clear WR
 obtain⟨h,hm,b1,P1⟩:=HH.out
 have hF:=h.lt
 have z2:=k2.size
 obtain⟨P,hP⟩:∃P,w2.heap.size=P:=⟨_,rfl⟩
 obtain⟨w3,hw3,s3,b3,P3⟩:=ay w2 (fw q false Pm.no (.pointer none) 0 (.pointer none) (.pointer none)) 60
 obtain⟨w4,hw4,aAI,s4,b4,P4⟩:=ajG w3 25 (.pointer none) (.pointer (some ⟨P,0,none⟩))
 obtain⟨n0,hn0⟩:∃n,w.heap.size=n:=⟨_,rfl⟩
 obtain⟨w5,kL,s5,b5,P5⟩:=ay w4 #[.func (.func 39) #[] #[.pointer (some ⟨n0,0,none⟩)],.func (.func 41) #[.pointer (some ⟨P,0,none⟩)] #[],.func (.func 42) #[] #[.pointer (some ⟨P+1,0,none⟩),.pointer (some ⟨n0,0,none⟩)],.func (.func 44) #[.pointer (some ⟨P,0,none⟩)] #[],.func (.func 45) #[.pointer (some ⟨P,0,none⟩)] #[],.func (.func 46) #[] #[.pointer (some ⟨P+1,0,none⟩)],.func (.func 49) #[.pointer (some ⟨P,0,none⟩)] #[]] 134
 have z3:w3.heap.size=P+1:=by omega
 have z4:w4.heap.size=P+2:=by omega
 have z5:w5.heap.size=P+3:=by omega
 rw[hP]at P3
 rw[z3]at P4
 rw[z4]at P5
 have b25:Below w2.heap.size w2 w5:=(b3.trans (b4.mono (by omega))).trans (b5.mono (by omega))
 have n1:w1.heap.size=n0+1:=by omega
 have nF2:¬F2 n0:=fun e=>by
  rcases k3 n0 e with e|e
  ·have:=hF n0 e;omega
  ·omega
 have lF2:=k1.lt
 have c1:w2.heap[n0]? =some (.cells #[.int .i64 node] 3 (0,0)):=(k2.block n0 (by omega) fun e=>by have:=hF n0 e;omega).trans (by rw[←hn0];exact P1)
 have I5:OpI q F w w5 w5 n0 P F2 st:=by
  refine⟨k1.below b25,((Out.of_below b1).trans k2 fun g hg=>.inl hg).trans (Out.of_below (F:=fun _=>False) b25) fun g hg=>hg.elim,fun g hg=>(k3 g hg).imp id fun e=>by omega,(gm (hm.below b1) k2 h0).below b25,?_,fun g hg=>rfl⟩
  rintro g (rfl|rfl|rfl|rfl)
  ·exact⟨nF2,by omega⟩
  ·exact⟨fun e=>by have:=lF2 _ e;omega,by omega⟩
  ·exact⟨fun e=>by have:=lF2 _ e;omega,by omega⟩
  ·exact⟨fun e=>by have:=lF2 _ e;omega,by omega⟩
 have q1:=(b5.block (P+1) (by omega)).trans P4
 have RUN:=HR.out F2 w5 n0 P hn0.symm I5 (by omega) (by omega) ((b25.block n0 (by omega)).trans c1) q1 ((b5.block P (by omega)).trans ((b4.block P (by omega)).trans P3))
 have Iv:=hide (oz (P+2) 7 _ w5 _ rfl (by omega) P5 RUN)
 have Q1:=hide q1
 have c4:w4.cell? ⟨P+1,0,none⟩=some (.pointer (some ⟨P,0,none⟩)):=ai P4 0 rfl
 unfold fw Pm.no at hw3
 simp only at hw3
 rw[hn0]
 clear HR HH RUN I5 q1 P1 P3 P4 P5 b1 b3 b4 b5 b25 k1 k2 k3 nF2 lF2 c1 h hm hF n1 z5 s3 s4 s5 z2 hp h0
 go_wp2_with fail
 refine Iv.out.mono ?_
 rintro E W ⟨e,rfl,hk,hX⟩
 have cW:W.cell? ⟨P+1,0,none⟩=some (.pointer (some ⟨P,0,none⟩)):=ai (hk.trans Q1.out) 0 rfl
 have HX:=hide hX
 clear Iv Q1 hk hX
 by_cases he:e=0
 ·subst he
  go_wp2
  go_ret2
  exact⟨P,0,HX,.inr ⟨rfl,rfl⟩⟩
 ·have he':(e==0)=false:=by simpa using he
  go_wp2
  go_ret2
  exact⟨P,e,HX,.inl ⟨he,rfl⟩⟩
theorem zm (q:Nat)(F:Nat→Prop)(w:World)(st:Dm.Ds)(node:Int)(h:Pk q F w st)(hm:ib w)(h0:¬F 0)(hB:Big 50000000 500000 st)(hn:node=0∨node=1)(ho:st.on=true)(hL:∀m p g r ss,Rst.za st (fst node) m p g r ss→m.length≤100000):
  Calls Tryz.prog 9 #[.pointer (some ⟨q,0,none⟩),.int .i64 node] w fun E w'=>∃m p g r ss,Hid (Rst.za st (fst node) m p g r ss)∧∃F',(Pk q F' w' (Rst.fV st m g r ss)∧Out F w w'∧∀g,F' g→F g∨w.heap.size≤g)∧
   ((Rst.gP st m p g r ss≠0∧E=.returned (.tuple #[.pointer none,.int .i64 (Rst.gP st m p g r ss)]))∨
    (Rst.gP st m p g r ss=0∧∃ps G,E=.returned (.tuple #[.pointer (some ⟨ps,0,none⟩),.int .i64 0])∧PO ps q G w' ⟨Rst.fV st m g r ss,p,m,r,false⟩∧∀g,G g→w.heap.size≤g∧¬F' g)):=by
 obtain⟨m,p,g,r,ss,SC⟩:=awW q F w st node h hm hB hn ho
 refine(aa2 q F w st node h hm h0 hB (fun P e W=>e=Rst.gP st m p g r ss∧∃F',(Pk q F' W (Rst.fV st m g r ss)∧Out F w W∧∀g,F' g→F g∨w.heap.size≤g)∧(e=0→∃G,PO P q G W ⟨Rst.fV st m g r ss,p,m,r,false⟩∧∀g,G g→w.heap.size≤g∧¬F' g)) ?_).mono ?_
 ·intro F2 w5 n0 P e1 I5 hP hn0 c1 c2 c3
  refine Run.mono ?_ (aoQ q F F2 w w5 n0 P st node m p g r ss I5 h0 hm.pos hP hn0 c1 c2 c3 SC (hL _ _ _ _ _ SC) hB ho hn)
  rintro e W ⟨k1,k2,k3⟩
  exact⟨k2,k1,k3⟩
 ·rintro E w' ⟨P,e,HX,hE⟩
  obtain⟨rfl,F',k1,k2⟩:=HX.out
  refine⟨m,p,g,r,ss,hide SC,F',k1,?_⟩
  rcases hE with⟨he,rfl⟩|⟨he,rfl⟩
  ·exact .inl ⟨he,rfl⟩
  ·obtain⟨G,g1,g2⟩:=k2 he
   exact .inr ⟨he,P,G,rfl,g1,g2⟩
end Go.Proofs.YtpifdeoepppadaaGreatDoor
