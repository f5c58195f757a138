/- Texts of one layer, one behind the other. -/
import Derived.Test.YtlmkaljjocflmaaGreatDoorAH21
import Derived.Test.YtlmkaljjocflmaaGreatDoorAH2
import Derived.Test.YtlmkaljjocflmaaGreatDoorAH7
import Derived.Test.YtlmkaljjocflmaaGreatDoorAH23
import Derived.Test.YtlmkaljjocflmaaGreatDoorAH14
import Derived.Test.YtlmkaljjocflmaaGreatDoorAH1
set_option maxRecDepth 100000
set_option maxHeartbeats 8000000
namespace Go.Proofs.YtlmkaljjocflmaaGreatDoor
open Go.RowKit
set_option linter.unusedVariables false
theorem qf (p q:Nat)(w:World)(hc:w.cell? ⟨p,0,none⟩=some (.pointer (some ⟨q,0,none⟩))):
  Calls Tryz.prog 59 #[.pointer (some ⟨p,0,none⟩)] w fun E w'=>E=.returned (.bool true)∧w=w':=by
 go_enter Tryz.func59,Tryz.ntmps59
 go_wp2
 go_ret
 exact⟨rfl,rfl⟩
theorem ahM (p q:Nat)(F:Nat→Prop)(w:World)(st:Dm.Ds)(off:Bool)(h:Pk q F w st)(h0:w.cell? ⟨p,0,none⟩=some (.pointer (some ⟨q,0,none⟩)))(h1:w.cell? ⟨p,1,none⟩=some (.bool off)):
  Calls Tryz.prog 110 #[.pointer (some ⟨p,0,none⟩)] w fun E w'=>E=.returned (.int .i64 (if (off|| !st.on)=true then 6 else 0))∧w=w':=by
 have HM:=hide (qf p q w h0)
 have HO:=hide (zR q F w st h)
 clear h
 generalize st.on=on at*
 cases off
 ·cases on
  all_goals
   simp only[Bool.false_or,Bool.not_true,Bool.not_false,if_true,Bool.false_eq_true,if_false]
   go_enter Tryz.func110,Tryz.ntmps110
   go_wp2_with fail
   refine HM.out.mono ?_
   rintro E w1 ⟨rfl,rfl⟩
   clear HM
   go_wp2_with fail
   refine HO.out.mono ?_
   rintro E w1 ⟨rfl,rfl⟩
   clear HO
   go_wp2
   go_ret
   exact⟨rfl,rfl⟩
 ·simp only[Bool.true_or,if_true]
  go_enter Tryz.func110,Tryz.ntmps110
  go_wp2_with fail
  refine HM.out.mono ?_
  rintro E w1 ⟨rfl,rfl⟩
  clear HM HO
  go_wp2
  go_ret
  exact⟨rfl,rfl⟩
theorem alu (v:Value)(p B n:Nat)(fs:List Value)(w:World)(Q:Int→World→Prop)(hn:fs.length=n)(hl:n≤100)(hB:w.heap[B]? =some (.cells fs.toArray 228 (0,0)))(h:Run B Q fs w)(hst:∀W,Q 6 W→v=.pointer (some ⟨p,0,none⟩)∧∃cs b,W.heap[p]? =some (.cells cs 137 (0,0))∧cs[1]? =some (.bool b)):
  Calls Tryz.prog 109 #[v,.slice (some ⟨B,0,none⟩) n n] w fun E w'=>∃e W,E=.returned (.int .i64 e)∧Q e W∧((e≠6∧w'=W)∨(e=6∧w'=W.setCell ⟨p,1,none⟩ (.bool true))):=by
 have HO:=hide (qP B n fs w Q hn hl hB h)
 have HS:=hide hst
 clear h hB hst hn hl
 go_enter Tryz.func109,Tryz.ntmps109
 go_wp2_with fail
 refine HO.out.mono ?_
 rintro E W ⟨e,rfl,hq⟩
 clear HO
 by_cases he:e=6
 ·subst he
  obtain⟨rfl,cs,b,x1,x2⟩:=HS.out W hq
  have c1:=ai x1 1 x2
  have f1:=aB x1 1
  have HQ:=hide hq
  clear hq x1 x2 HS
  go_wp2
  go_ret
  exact⟨6,W,rfl,HQ.out,.inr ⟨rfl,rfl⟩⟩
 ·have he':(e==6)=false:=by simpa using he
  have HQ:=hide hq
  clear hq HS
  go_wp2
  go_ret
  exact⟨e,_,rfl,HQ.out,.inl ⟨he,rfl⟩⟩
theorem fF (bs:List Int)(mx a:Nat)(bad:Bool):∃(u a':Nat) (bad':Bool),jB bs mx a bad u a' bad':=by
 cases bad
 ·by_cases h:∃x:Nat,x≤mx∧Vm.enc x<+:bs.drop a
  ·obtain⟨x,h1,h2⟩:=h
   exact⟨x,_,false,.inr (.inr ⟨rfl,rfl,h1,h2,rfl⟩)⟩
  ·exact⟨0,a,true,.inr (.inl ⟨rfl,rfl,rfl,rfl,fun x h1 h2=>h ⟨x,h1,h2⟩⟩)⟩
 ·exact⟨0,a,true,.inl ⟨rfl,rfl,rfl,rfl⟩⟩
theorem ajt {bs:List Int}{mx a u a' v a'':Nat}{bad b' b'':Bool}(h:jB bs mx a bad u a' b')(k:jB bs mx a bad v a'' b''):u=v∧a'=a''∧b'=b'':=by
 rcases h with⟨rfl,rfl,rfl,rfl⟩|⟨rfl,rfl,rfl,rfl,h⟩|⟨rfl,rfl,h1,h2,rfl⟩
 ·rcases k with⟨_,rfl,rfl,rfl⟩|⟨k,_⟩|⟨k,_⟩
  ·exact⟨rfl,rfl,rfl⟩
  ·simp at k
  ·simp at k
 ·rcases k with⟨k,_⟩|⟨_,rfl,rfl,rfl,_⟩|⟨_,_,k1,k2,_⟩
  ·simp at k
  ·exact⟨rfl,rfl,rfl⟩
  ·exact absurd k2 (h _ k1)
 ·rcases k with⟨k,_⟩|⟨_,_,_,_,k⟩|⟨_,rfl,k1,k2,rfl⟩
  ·simp at k
  ·exact absurd h2 (k _ h1)
  ·have:=Vm.cz _ _ _ h2 k2
   subst this
   exact⟨rfl,rfl,rfl⟩
theorem dZ {bs:List Int}{mx a u a':Nat}{b b':Bool}(h:jB bs mx a b u a' b'):u≤mx:=by
 rcases h with⟨_,_,rfl,_⟩|⟨_,_,rfl,_⟩|⟨_,_,h,_⟩
 ·omega
 ·omega
 ·exact h
theorem dK (B:Nat)(w0 w:World)(vb:Value)(bs:List Int)(a:Nat)(bad:Bool)(most u a':Nat)(bad':Bool)(h:Rst B w0 w vb bs a bad)(hl:bs.length≤100000000000000)(hm:most<9223372036854775808)(hS:jB bs most a bad u a' bad'):
  Calls Tryz.prog 273 #[.int .i64 most,.pointer (some ⟨B+3,0,none⟩),.pointer (some ⟨B,0,none⟩),.pointer (some ⟨B+2,0,none⟩)] w fun E w'=>E=.returned (.int .i64 u)∧Hid (Rst B w0 w' vb bs a' bad'∧Out (Wr B) w w'):=by
 refine(aar B w0 w vb bs a bad most h hl hm).mono ?_
 rintro E w' ⟨v,a2,b2,rfl,H⟩
 obtain⟨h1,h2,h3⟩:=H.out
 obtain⟨rfl,rfl,rfl⟩:=ajt hS h2
 exact⟨rfl,hide ⟨h1,h3⟩⟩
structure bP (base:Nat) (w:World) (m:Mw):Prop where
 s:nH base w m.vs m.ss
 c:bK 35 base w m.vc m.cs
 o:gP base w m.cs
 i:∀c∈m.cs,In64 c.e∧In64 c.n
 ap:yw m.cs
theorem bP.is {base:Nat}{w:World}{m:Mw}(h:bP base w m):iY w m:=⟨h.s.row,h.c.row,fun c hc=>⟨(h.o c hc).is,h.i c hc⟩⟩
theorem bP.no (base:Nat)(w:World):bP base w fD:=⟨dI.nil _ _ _ _ _,bK.nil _ _ _,fun c hc=>by simp[fD]at hc,fun c hc=>by simp[fD]at hc,fun i j c d _ hc=>by simp[fD]at hc⟩
theorem bP.bz {base base':Nat}{w:World}{m:Mw}(h:bP base w m)(hb:base'≤base):bP base' w m:=⟨af5 h.s hb,h.c.bz hb,fun c hc=>(h.o c hc).bz hb,h.i,h.ap⟩
theorem bP.below {base:Nat}{w w':World}{m:Mw}(h:bP base w m)(hb:Below w.heap.size w w'):bP base w' m:=⟨tu h.s hb,h.c.below hb,h.o.below hb,h.i,h.ap⟩
theorem bP.out {base:Nat}{w w':World}{m:Mw}{F:Nat→Prop}(h:bP base w m)(ho:Out F w w')(hF:∀i,F i→i<base):bP base w' m:=by
 have k:∀(v:Value),(∀b,v.ownBlock=some b→base≤b∧b<w.heap.size)→∀b,v.ownBlock=some b→w'.heap[b]? =w.heap[b]? :=fun v hv b hb=>ho.block b (hv b hb).2 fun hf=>by have:=hF b hf;have:=(hv b hb).1;omega
 refine⟨h.s.agree (k _ h.s.lt),dw h.c (k _ (World.ownsRow.lt h.c)),fun c hc=>?_,h.i,h.ap⟩
 exact dw (h.o c hc) (k _ (World.ownsRow.lt (h.o c hc)))
def Rdd (bs:List Int) (m:Mm.Msg) (a:Nat) (bad:Bool):Prop:=(Mm.uj bs (Mm.hd m) m.cs a bad∧(bad=false→Mm.Sh m))∨(¬Mm.Ok m∧Mm.Dc bs Mm.no 5)
theorem as2 {bs:List Int}{m:Mm.Msg}{a:Nat}{bad:Bool}(h:Rdd bs m a bad):((bad=false∧a=bs.length∧Mm.Ok m)∧Mm.Dc bs m 0)∨(¬(bad=false∧a=bs.length∧Mm.Ok m)∧Mm.Dc bs Mm.no 5):=by
 rcases h with⟨h1,h2⟩|⟨h1,h2⟩
 ·exact Mm.atg h1 h2
 ·exact .inr ⟨fun k=>h1 k.2.2,h2⟩
structure bM (B:Nat) (w0 w:World) (vb:Value) (bs:List Int) (a:Nat) (bad:Bool) (m:Mw):Prop where
 r:Rst B w0 w vb bs a bad
 f:zB B w
 m:fw w (B+1) m
section
variable {B:Nat} {w0 w w':World} {vb:Value} {bs:List Int} {a a':Nat} {bad bad':Bool} {m:Mw}
theorem bM.lt (h:bM B w0 w vb bs a bad m):B+4<w.heap.size:=aA h.f
theorem bM.below (h:bM B w0 w vb bs a bad m)(hb:Below w.heap.size w w'):bM B w0 w' vb bs a bad m:=⟨h.r.below hb,h.f.below hb,h.m.below hb⟩
theorem bM.step (h:bM B w0 w vb bs a bad m)(hr:Rst B w0 w' vb bs a' bad')(ho:Out (Wr B) w w'):bM B w0 w' vb bs a' bad' m:=
 ⟨hr,h.f.out ho,(ho.block (B+1) h.m.lt (by unfold Wr;omega)).trans h.m⟩
theorem bM.put (h:bM B w0 w vb bs a bad m)(j:Nat)(u:Value)(m':Mw)(hm:(mc m).setIfInBounds j u=mc m'):bM B w0 (w.setCell ⟨B+1,j,none⟩ u) vb bs a bad m':=by
 have hg:=ax w ⟨B+1,j,none⟩ u
 have hl:=h.lt
 refine⟨h.r.other hg (by simp) (by simp) (by simp) (by simp),(hg.block (B+4) (by omega) (by simp)).trans h.f,?_⟩
 unfold fw
 rw[←hm]
 exact aG h.m j u
theorem bM.cf (h:bM B w0 w vb bs a bad m):w.cell? ⟨B+4,0,none⟩=some (.func (.func 273) #[] #[.pointer (some ⟨B+3,0,none⟩),.pointer (some ⟨B,0,none⟩),.pointer (some ⟨B+2,0,none⟩)]):=ai h.f 0 rfl
theorem bM.ca (h:bM B w0 w vb bs a bad m):w.cell? ⟨B+2,0,none⟩=some (.int .i64 a):=ai h.r.at' 0 rfl
theorem bM.ce (h:bM B w0 w vb bs a bad m):w.cell? ⟨B+3,0,none⟩=some (.int .i64 (eT bad)):=ai h.r.er 0 rfl
theorem bM.fm (h:bM B w0 w vb bs a bad m)(j:Nat):w.frozen? ⟨B+1,j,none⟩=false:=aB h.m j
theorem bP.wr (h:bP (B+5) w m)(ho:Out (Wr B) w w'):bP (B+5) w' m:=h.out ho (fun i hi=>by unfold Wr at hi;omega)
theorem bP.set (h:bP (B+5) w m)(j:Nat)(u:Value):bP (B+5) (w.setCell ⟨B+1,j,none⟩ u) m:=h.out (F:=fun i=>i=B+1) (Out.aP (ax w ⟨B+1,j,none⟩ u) (fun i hi=>by simpa using hi.symm)) (fun i hi=>by omega)
end
theorem oz (w:World)(vb:Value)(bs:List Int)(h:Is .u8 w vb bs):
  ∃w1 w2 w3 w4 w5 w6,w.alloc (.cells #[vb] 61)=w1∧w1.alloc (.cells #[.int .i64 0,.int .i64 0,.int .u8 0,.int .i64 0,.slice none 0 0,.int .i64 0,.int .i64 0,.slice none 0 0] 26)=w2∧w2.alloc (.cells #[.int .i64 0] 3)=w3∧w3.alloc (.cells #[.int .i64 0] 29)=w4∧
   w1.heap.size=w.heap.size+1∧w2.heap.size=w.heap.size+2∧w3.heap.size=w.heap.size+3∧w4.heap.size=w.heap.size+4∧
   w4.alloc (.cells #[.nilFunc] 306)=w5∧w5.cell? ⟨w.heap.size+4,0,none⟩=some .nilFunc∧w5.frozen? ⟨w.heap.size+4,0,none⟩=false∧
   w5.setCell ⟨w.heap.size+4,0,none⟩ (.func (.func 273) #[] #[.pointer (some ⟨w.heap.size+3,0,none⟩),.pointer (some ⟨w.heap.size,0,none⟩),.pointer (some ⟨w.heap.size+2,0,none⟩)])=w6∧bM w.heap.size w w6 vb bs 0 false fD:=by
 obtain⟨w1,h1,s1,b1,k1⟩:=au w #[vb] 61
 obtain⟨w2,h2,s2,b2,k2⟩:=au w1 #[.int .i64 0,.int .i64 0,.int .u8 0,.int .i64 0,.slice none 0 0,.int .i64 0,.int .i64 0,.slice none 0 0] 26
 obtain⟨w3,h3,s3,b3,k3⟩:=au w2 #[.int .i64 0] 3
 obtain⟨w4,h4,s4,b4,k4⟩:=au w3 #[.int .i64 0] 29
 obtain⟨w5,h5,s5,b5,k5⟩:=au w4 #[.nilFunc] 306
 have s4':w4.heap.size=w.heap.size+4:=by omega
 rw[s4']at k5
 obtain⟨w6,h6,k6,g6,f6⟩:=putAt k5 0 (.func (.func 273) #[] #[.pointer (some ⟨w.heap.size+3,0,none⟩),.pointer (some ⟨w.heap.size,0,none⟩),.pointer (some ⟨w.heap.size+2,0,none⟩)])
 have oM:Below w.heap.size w w6:=aF ((((b1.trans (b2.mono (by omega))).trans (b3.mono (by omega))).trans (b4.mono (by omega))).trans (b5.mono (by omega))) g6 (by omega) (by omega)
 have q:∀i,i<w4.heap.size→w6.heap[i]? =w4.heap[i]? :=fun i hi=>(g6.block i (by omega) (by simp;omega)).trans (b5.block i hi)
 refine⟨w1,w2,w3,w4,w5,w6,h1,h2,h3,h4,s1,by omega,by omega,by omega,h5,ai k5 0 rfl,f6,h6,⟨h,rfl,oM,?_,?_,?_,by omega⟩,k6,?_⟩
 ·exact(q _ (by omega)).trans ((b4.block _ (by omega)).trans ((b3.block _ (by omega)).trans ((b2.block _ (by omega)).trans k1)))
 ·rw[show w.heap.size+2=w2.heap.size by omega]
  exact(q _ (by omega)).trans ((b4.block _ (by omega)).trans k3)
 ·rw[show w.heap.size+3=w3.heap.size by omega]
  exact(q _ (by omega)).trans k4
 ·unfold fw
  rw[show w.heap.size+1=w1.heap.size by omega]
  exact(q _ (by omega)).trans ((b4.block _ (by omega)).trans ((b3.block _ (by omega)).trans k2))
def zZ (w:World) (bs:List Int) (E:Ending) (w':World):Prop:=
 ∃(m:Mw) (a:Nat) (bad:Bool),E=.returned (.tuple #[mv m,.int .i64 a,.int .i64 (eT bad)])∧Hid (bP w.heap.size w' m∧bQ m∧Rdd bs m.m a bad∧Below w.heap.size w w')
theorem aax {k:Nat}(h:k≤1048576):In64 (k:Int):=⟨by omega,by omega⟩
theorem lZ {k e r n f p:Nat}{vs vc:Value}{ss:List Sm.S}{cs:List Cw}(h1:k≤3)(h2:e≤1048576)(h3:r≤3)(h4:n≤1048576)(h5:f≤1048576)(h6:p≤1048576)(h7:ss.length≤140737488355328)(h8:jr cs)(h9:cs.length≤140737488355328):bQ ⟨k,e,r,n,vs,ss,f,p,vc,cs⟩:=
 ⟨aax (by omega),aax (by omega),by simp,by simp;omega,aax (by omega),aax (by omega),aax (by omega),h7,h8,h9⟩
structure awH (w:World) (B:Nat) (m:Mw) (a:Nat) (e:Int):Prop where
 s0:w.setCell ⟨B+1,0,none⟩ (.int .i64 m.k)=w
 s1:w.setCell ⟨B+1,1,none⟩ (.int .i64 m.e)=w
 s2:w.setCell ⟨B+1,2,none⟩ (.int .u8 m.r)=w
 s3:w.setCell ⟨B+1,3,none⟩ (.int .i64 m.n)=w
 s4:w.setCell ⟨B+1,4,none⟩ m.vs=w
 s5:w.setCell ⟨B+1,5,none⟩ (.int .i64 m.f)=w
 s6:w.setCell ⟨B+1,6,none⟩ (.int .i64 m.p)=w
 s7:w.setCell ⟨B+1,7,none⟩ m.vc=w
 sa:w.setCell ⟨B+2,0,none⟩ (.int .i64 a)=w
 se:w.setCell ⟨B+3,0,none⟩ (.int .i64 e)=w
theorem bM.sam {B:Nat}{w0 w:World}{vb:Value}{bs:List Int}{a:Nat}{bad:Bool}{m:Mw}(h:bM B w0 w vb bs a bad m):awH w B m a (eT bad):=
 ⟨aM h.m (j:=0) rfl,aM h.m (j:=1) rfl,aM h.m (j:=2) rfl,aM h.m (j:=3) rfl,aM h.m (j:=4) rfl,aM h.m (j:=5) rfl,aM h.m (j:=6) rfl,aM h.m (j:=7) rfl,aM h.r.at' (j:=0) rfl,aM h.r.er (j:=0) rfl⟩
theorem bM.drewN {B:Nat}{w0 w:World}{vb:Value}{bs:List Int}{a:Nat}{bad:Bool}{m:Mw}(h:bM B w0 w vb bs a bad m)(n:Nat):bM B w0 (w.drewN n) vb bs a bad m:=h.below (below_drewN (Below.refl _ _) n)
theorem auS (vb:Value)(bs:List Int)(w:World)(hb:Is .u8 w vb bs)(hl:bs.length≤100000000000000)(a1:Nat)(b1:Bool)(S1:jB bs 3 0 false 3 a1 b1):
  Calls Tryz.prog 209 #[vb] w (zZ w bs):=by
 obtain⟨ao,ln,cap,hv⟩:=hb.form
 subst hv
 obtain⟨w1,w2,w3,w4,w5,w6,hw1,hw2,hw3,hw4,aT,dm,bJ,iE,gM,vN,wI,kD,r6⟩:=oz w _ bs hb
 have kW:∀(fn:Fn) (first cap:Array Value) (w:World),(Instr.makeFunc fn first cap).run Tryz.prog w=.ok (.func fn first cap) w:=fun _ _ _ _=>rfl
 have hst:=run_store Tryz.prog w5 ⟨w.heap.size+4,0,none⟩ (.func (.func 273) #[] #[.pointer (some ⟨w.heap.size+3,0,none⟩),.pointer (some ⟨w.heap.size,0,none⟩),.pointer (some ⟨w.heap.size+2,0,none⟩)]) .plain rfl
 simp only[vN,wI,kD]at hst
 simp only[Bool.false_eq_true,if_false]at hst
 obtain⟨u2,a2,b2,S2⟩:=fF bs 1048576 a1 b1
 have hu2:=dZ S2
 have R6:=hide r6
 have cf:=r6.cf
 have X1:=hide S1
 have X2:=hide S2
 have G2:Hid (Mm.Go bs [3,(u2:Int)] a2 b2):=hide (Mm.eu (Mm.eu (Mm.pR bs) S1 Mm.aht) S2 (Mm.aiX _))
 have O6:Hid (bP (w.heap.size+5) w6 fD):=hide (bP.no _ _)
 have C1:=hide (dK w.heap.size w w6 _ bs 0 false 3 3 a1 b1 r6.r hl (by omega) S1)
 clear S1 S2 r6 hb
 go_enter Tryz.func209,Tryz.ntmps209
 go_wp2_with fail
 refine C1.out.mono ?_
 rintro E w7 ⟨rfl,H7⟩
 have R7:=hide (R6.out.step H7.out.1 H7.out.2)
 have O7:=hide (O6.out.wr H7.out.2)
 clear H7 C1 hw1 hw2 hw3 hw4 gM kD R6 O6 cf vN wI hst
 obtain⟨w8,hw8⟩:∃V,w7.setCell ⟨w.heap.size+1,0,none⟩ (.int .i64 3)=V:=⟨_,rfl⟩
 have R8:Hid (bM w.heap.size w w8 (.slice ao ln cap) bs a1 b1 ⟨3,0,0,0,.slice none 0 0,[],0,0,.slice none 0 0,[]⟩):=hide (by rw[←hw8];exact R7.out.put 0 _ _ rfl)
 have O8:Hid (bP (w.heap.size+5) w8 fD):=hide (by rw[←hw8];exact O7.out.set 0 _)
 obtain⟨c0,c1,c2,c3,c4,c5,c6,c7⟩:=df R7.out.m
 have f0:=R7.out.fm 0
 have cf:=R8.out.cf
 have C2:=hide (dK w.heap.size w w8 _ bs a1 b1 1048576 u2 a2 b2 R8.out.r hl (by omega) X2.out)
 clear R7 O7
 go_wp2_with fail
 refine C2.out.mono ?_
 rintro E w9 ⟨rfl,H9⟩
 have R9:=hide (R8.out.step H9.out.1 H9.out.2)
 have O9:=hide (O8.out.wr H9.out.2)
 clear H9 C2 R8 O8 cf hw8 c0 c1 c2 c3 c4 c5 c6 c7 f0
 obtain⟨wA,nQ⟩:∃V,w9.setCell ⟨w.heap.size+1,1,none⟩ (.int .i64 u2)=V:=⟨_,rfl⟩
 have RA:Hid (bM w.heap.size w wA (.slice ao ln cap) bs a2 b2 ⟨3,u2,0,0,.slice none 0 0,[],0,0,.slice none 0 0,[]⟩):=hide (by rw[←nQ];exact R9.out.put 1 _ _ rfl)
 have OA:Hid (bP (w.heap.size+5) wA fD):=hide (by rw[←nQ];exact O9.out.set 1 _)
 obtain⟨c0,c1,c2,c3,c4,c5,c6,c7⟩:=df R9.out.m
 obtain⟨d0,d1,d2,d3,d4,d5,d6,d7⟩:=df RA.out.m
 have f1:=R9.out.fm 1
 obtain⟨u3,a3,b3,S3⟩:=fF bs 1048576 a2 b2
 have hu3:=dZ S3
 have G3:Hid (Mm.Go bs [3,(u2:Int),(u3:Int)] a3 b3):=hide (Mm.eu G2.out S3 (Mm.axB _))
 have cf:=RA.out.cf
 have C3:=hide (dK w.heap.size w wA _ bs a2 b2 1048576 u3 a3 b3 RA.out.r hl (by omega) S3)
 clear R9 O9 S3
 go_wp2_with fail
 refine C3.out.mono ?_
 rintro E wB ⟨rfl,HB⟩
 have RB:=hide (RA.out.step HB.out.1 HB.out.2)
 have OB:=hide (OA.out.wr HB.out.2)
 clear HB C3 RA OA cf nQ c0 c1 c2 c3 c4 c5 c6 c7 d0 d1 d2 d3 d4 d5 d6 d7 f1
 obtain⟨wC,hwC⟩:∃V,wB.setCell ⟨w.heap.size+1,3,none⟩ (.int .i64 u3)=V:=⟨_,rfl⟩
 have RC:Hid (bM w.heap.size w wC (.slice ao ln cap) bs a3 b3 ⟨3,u2,0,u3,.slice none 0 0,[],0,0,.slice none 0 0,[]⟩):=hide (by rw[←hwC];exact RB.out.put 3 _ _ rfl)
 have OC:Hid (bP (w.heap.size+5) wC fD):=hide (by rw[←hwC];exact OB.out.set 3 _)
 obtain⟨c0,c1,c2,c3,c4,c5,c6,c7⟩:=df RB.out.m
 have f3:=RB.out.fm 3
 obtain⟨wZ,mI⟩:∃V,wC.drew=V:=⟨_,rfl⟩
 have RZ:Hid (bM w.heap.size w wZ (.slice ao ln cap) bs a3 b3 ⟨3,u2,0,u3,.slice none 0 0,[],0,0,.slice none 0 0,[]⟩):=hide (by rw[←mI];exact RC.out.drewN 1)
 have HZ:Hid (bP w.heap.size wZ ⟨3,u2,0,u3,.slice none 0 0,[],0,0,.slice none 0 0,[]⟩∧bQ ⟨3,u2,0,u3,.slice none 0 0,[],0,0,.slice none 0 0,[]⟩∧Rdd bs (Mw.m ⟨3,u2,0,u3,.slice none 0 0,[],0,0,.slice none 0 0,[]⟩) a3 b3∧Below w.heap.size w wZ):=by
  refine⟨?_,lZ (k:=3) (r:=0) (f:=0) (p:=0) (by omega) hu2 (by omega) hu3 (by omega) (by omega) (by simp) (fun c hc=>by simp at hc) (by simp),.inl ⟨?_,?_⟩,RZ.out.r.aK⟩
  ·have:=(OC.out.below (below_drewN (Below.refl _ _) 1)).bz (base':=w.heap.size) (by omega)
   rw[←mI]
   exact⟨this.s,this.c,this.o,this.i,this.ap⟩
  ·have h1:=G3.out.c
   rw[Mm.qN rfl]
   exact h1
  ·intro hb
   refine⟨?_,.inr (.inr ⟨rfl,rfl,rfl,rfl,rfl,rfl⟩)⟩
   rw[Mm.qN rfl]
   rcases G3.out with⟨_,h,_⟩|⟨h,_⟩
   ·exact h
   ·rw[hb]at h;simp at h
 obtain⟨e0,e1,e2,e3,e4,e5,e6,e7⟩:=df RZ.out.m
 have ea:=RZ.out.ca
 have ee:=RZ.out.ce
 obtain⟨s0,s1,s2,s3,s4,s5,s6,s7,sa,se⟩:=RZ.out.sam
 have z0:=RZ.out.fm 0
 have z1:=RZ.out.fm 1
 have z2:=RZ.out.fm 2
 have z3:=RZ.out.fm 3
 have z4:=RZ.out.fm 4
 have z5:=RZ.out.fm 5
 have z6:=RZ.out.fm 6
 have z7:=RZ.out.fm 7
 have za:=aB RZ.out.r.at' 0
 have ze:=aB RZ.out.r.er 0
 go_wp2
 go_region
 go_wp2
 refine bodyPost_ret (v:=.tuple #[.agg #[.int .i64 3,.int .i64 u2,.int .u8 0,.int .i64 u3,.slice none 0 0,.int .i64 0,.int .i64 0,.slice none 0 0],.int .i64 a3,.int .i64 (eT b3)]) (by simp[results,Tryz.results209,go_sem,e0,e1,e2,e3,e4,e5,e6,e7,ea,ee]) rfl ?_
 exact⟨⟨3,u2,0,u3,.slice none 0 0,[],0,0,.slice none 0 0,[]⟩,a3,b3,rfl,HZ⟩
theorem asI (vb:Value)(bs:List Int)(w:World)(hb:Is .u8 w vb bs)(hl:bs.length≤100000000000000)(a1:Nat)(b1:Bool)(S1:jB bs 3 0 false 0 a1 b1):
  Calls Tryz.prog 209 #[vb] w (zZ w bs):=by
 obtain⟨ao,ln,cap,hv⟩:=hb.form
 subst hv
 obtain⟨w1,w2,w3,w4,w5,w6,hw1,hw2,hw3,hw4,aT,dm,bJ,iE,gM,vN,wI,kD,r6⟩:=oz w _ bs hb
 have kW:∀(fn:Fn) (first cap:Array Value) (w:World),(Instr.makeFunc fn first cap).run Tryz.prog w=.ok (.func fn first cap) w:=fun _ _ _ _=>rfl
 have hst:=run_store Tryz.prog w5 ⟨w.heap.size+4,0,none⟩ (.func (.func 273) #[] #[.pointer (some ⟨w.heap.size+3,0,none⟩),.pointer (some ⟨w.heap.size,0,none⟩),.pointer (some ⟨w.heap.size+2,0,none⟩)]) .plain rfl
 simp only[vN,wI,kD]at hst
 simp only[Bool.false_eq_true,if_false]at hst
 obtain⟨u2,a2,b2,S2⟩:=fF bs 1048576 a1 b1
 have hu2:=dZ S2
 have R6:=hide r6
 have cf:=r6.cf
 have X1:=hide S1
 have X2:=hide S2
 have G2:Hid (Mm.Go bs [0,(u2:Int)] a2 b2):=hide (Mm.eu (Mm.eu (Mm.pR bs) S1 Mm.aht) S2 (Mm.aiX _))
 have O6:Hid (bP (w.heap.size+5) w6 fD):=hide (bP.no _ _)
 have C1:=hide (dK w.heap.size w w6 _ bs 0 false 3 0 a1 b1 r6.r hl (by omega) S1)
 clear S1 S2 r6 hb
 go_enter Tryz.func209,Tryz.ntmps209
 go_wp2_with fail
 refine C1.out.mono ?_
 rintro E w7 ⟨rfl,H7⟩
 have R7:=hide (R6.out.step H7.out.1 H7.out.2)
 have O7:=hide (O6.out.wr H7.out.2)
 clear H7 C1 hw1 hw2 hw3 hw4 gM kD R6 O6 cf vN wI hst
 obtain⟨w8,hw8⟩:∃V,w7.setCell ⟨w.heap.size+1,0,none⟩ (.int .i64 0)=V:=⟨_,rfl⟩
 have R8:Hid (bM w.heap.size w w8 (.slice ao ln cap) bs a1 b1 ⟨0,0,0,0,.slice none 0 0,[],0,0,.slice none 0 0,[]⟩):=hide (by rw[←hw8];exact R7.out.put 0 _ _ rfl)
 have O8:Hid (bP (w.heap.size+5) w8 fD):=hide (by rw[←hw8];exact O7.out.set 0 _)
 obtain⟨c0,c1,c2,c3,c4,c5,c6,c7⟩:=df R7.out.m
 have f0:=R7.out.fm 0
 have cf:=R8.out.cf
 have C2:=hide (dK w.heap.size w w8 _ bs a1 b1 1048576 u2 a2 b2 R8.out.r hl (by omega) X2.out)
 clear R7 O7
 go_wp2_with fail
 refine C2.out.mono ?_
 rintro E w9 ⟨rfl,H9⟩
 have R9:=hide (R8.out.step H9.out.1 H9.out.2)
 have O9:=hide (O8.out.wr H9.out.2)
 clear H9 C2 R8 O8 cf hw8 c0 c1 c2 c3 c4 c5 c6 c7 f0
 obtain⟨wA,nQ⟩:∃V,w9.setCell ⟨w.heap.size+1,1,none⟩ (.int .i64 u2)=V:=⟨_,rfl⟩
 have RA:Hid (bM w.heap.size w wA (.slice ao ln cap) bs a2 b2 ⟨0,u2,0,0,.slice none 0 0,[],0,0,.slice none 0 0,[]⟩):=hide (by rw[←nQ];exact R9.out.put 1 _ _ rfl)
 have OA:Hid (bP (w.heap.size+5) wA fD):=hide (by rw[←nQ];exact O9.out.set 1 _)
 obtain⟨c0,c1,c2,c3,c4,c5,c6,c7⟩:=df R9.out.m
 obtain⟨d0,d1,d2,d3,d4,d5,d6,d7⟩:=df RA.out.m
 have f1:=R9.out.fm 1
 obtain⟨wZ,mI⟩:∃V,wA.drew=V:=⟨_,rfl⟩
 have RZ:Hid (bM w.heap.size w wZ (.slice ao ln cap) bs a2 b2 ⟨0,u2,0,0,.slice none 0 0,[],0,0,.slice none 0 0,[]⟩):=hide (by rw[←mI];exact RA.out.drewN 1)
 have HZ:Hid (bP w.heap.size wZ ⟨0,u2,0,0,.slice none 0 0,[],0,0,.slice none 0 0,[]⟩∧bQ ⟨0,u2,0,0,.slice none 0 0,[],0,0,.slice none 0 0,[]⟩∧Rdd bs (Mw.m ⟨0,u2,0,0,.slice none 0 0,[],0,0,.slice none 0 0,[]⟩) a2 b2∧Below w.heap.size w wZ):=by
  refine⟨?_,lZ (k:=0) (r:=0) (n:=0) (f:=0) (p:=0) (by omega) hu2 (by omega) (by omega) (by omega) (by omega) (by simp) (fun c hc=>by simp at hc) (by simp),.inr ⟨fun k=>by have:=Mm.vT (Mm.adH k);simp[Mw.m]at this,Mm.aq1 G2.out⟩,RZ.out.r.aK⟩
  ·have:=(OA.out.below (below_drewN (Below.refl _ _) 1)).bz (base':=w.heap.size) (by omega)
   rw[←mI]
   exact⟨this.s,this.c,this.o,this.i,this.ap⟩
 obtain⟨e0,e1,e2,e3,e4,e5,e6,e7⟩:=df RZ.out.m
 have ea:=RZ.out.ca
 have ee:=RZ.out.ce
 obtain⟨s0,s1,s2,s3,s4,s5,s6,s7,sa,se⟩:=RZ.out.sam
 have z0:=RZ.out.fm 0
 have z1:=RZ.out.fm 1
 have z2:=RZ.out.fm 2
 have z3:=RZ.out.fm 3
 have z4:=RZ.out.fm 4
 have z5:=RZ.out.fm 5
 have z6:=RZ.out.fm 6
 have z7:=RZ.out.fm 7
 have za:=aB RZ.out.r.at' 0
 have ze:=aB RZ.out.r.er 0
 go_wp2
 go_region
 go_wp2
 refine bodyPost_ret (v:=.tuple #[.agg #[.int .i64 0,.int .i64 u2,.int .u8 0,.int .i64 0,.slice none 0 0,.int .i64 0,.int .i64 0,.slice none 0 0],.int .i64 a2,.int .i64 (eT b2)]) (by simp[results,Tryz.results209,go_sem,e0,e1,e2,e3,e4,e5,e6,e7,ea,ee]) rfl ?_
 exact⟨⟨0,u2,0,0,.slice none 0 0,[],0,0,.slice none 0 0,[]⟩,a2,b2,rfl,HZ⟩
theorem ahw {P:Program}{ops:Array Oper}{o:Oper}{a:Act}{w:World}{K:Act→World→Prop}{Q:Exit→Act→World→Prop}{E:Prop}(hgd:o.guard=none)(x:Operand)(f:FuncId)(args:Array Operand)(ts:Array TypeId)(cap:Array Value)
  (ho:o.op=.call {callee:=.value x,args:=args,argTypes:=ts}) (hx:a.eval x=.func (.func f) #[] cap) (hent:∀args w,(callFunc f args).run P w=.ok (.enter f args) w) (vs:Array Value) (hvs:args.map a.eval=vs)
  {R:Value→World→Prop} (hc:Calls P f (vs++cap) w fun e w'=>∃v,e=.returned v∧R v w') (h:∀v w',R v w'→K (a.put o.dst v) w'):
  if Region.wanted o (yielded ops a.tmps)=true then Oper.wp P o a w K Q else E:=by
 have hw:Region.wanted o (yielded ops a.tmps)=true:=by simp[Region.wanted,hgd]
 rw[if_pos hw]
 unfold Oper.wp
 simp only[execOp,ho,resolve,invoke,Sem.run_bind,hvs,hx]
 simp only[Deferred.ofValue,Sem.run_pure,Result.andThen_ok,Array.empty_append,hent]
 rw[Oper.upon_enter]
 refine hc.mono ?_
 rintro e w' ⟨v,rfl,hr⟩
 exact h v w' hr
theorem bM.grown {B:Nat}{w0 w w':World}{vb:Value}{bs:List Int}{a:Nat}{bad:Bool}{m:Mw}(h:bM B w0 w vb bs a bad m){row:Option Nat}(hg:w.grownBy w' row)(hr:∀g,row=some g→B+5≤g):bM B w0 w' vb bs a bad m:=by
 have hl:=h.lt
 have k:∀i,i<B+5→w'.heap[i]? =w.heap[i]? :=fun i hi=>hg.block i (by omega) fun e=>by have:=hr i e.symm;omega
 exact⟨⟨h.r.xQ,h.r.hB,h.r.aK.grown hg (by omega) (fun g e=>by have:=hr g e;omega),(k _ (by omega)).trans h.r.bx,(k _ (by omega)).trans h.r.at',(k _ (by omega)).trans h.r.er,h.r.le⟩,(k _ (by omega)).trans h.f,(k _ (by omega)).trans h.m⟩
theorem Tryz.ab6:∀args w,(callFunc 273 args).run Tryz.prog w=.ok (.enter 273 args) w:=enters_of Tryz.func273 (by kernel_rfl) rfl
def axa (B:Nat) (w0:World) (vb:Value) (bs:List Int) (u a':Nat) (bad':Bool) (w:World) (v:Value) (w':World):Prop:=v=.int .i64 u∧Hid (Rst B w0 w' vb bs a' bad'∧Out (Wr B) w w')
theorem abQ (B:Nat)(w0 w:World)(vb:Value)(bs:List Int)(a:Nat)(bad:Bool)(most u a':Nat)(bad':Bool)(h:Rst B w0 w vb bs a bad)(hl:bs.length≤100000000000000)(hm:most<9223372036854775808)(hS:jB bs most a bad u a' bad'):
  Calls Tryz.prog 273 (#[.int .i64 most]++#[.pointer (some ⟨B+3,0,none⟩),.pointer (some ⟨B,0,none⟩),.pointer (some ⟨B+2,0,none⟩)]) w fun E w'=>∃v,E=.returned v∧axa B w0 vb bs u a' bad' w v w':=by
 have:=dK B w0 w vb bs a bad most u a' bad' h hl hm hS
 refine this.mono ?_
 rintro E w' ⟨rfl,H⟩
 exact⟨_,rfl,rfl,H⟩
def hm1 (e r n:Int) (vs:Value) (ss:List Sm.S):Mw:=⟨1,e,r,n,vs,ss,0,0,.slice none 0 0,[]⟩
theorem zC {base:Nat}{w:World}{e r n:Int}{vs:Value}{ss:List Sm.S}(h:nH base w vs ss):bP base w (hm1 e r n vs ss):=⟨h,bK.nil _ _ _,fun c hc=>by simp[hm1]at hc,fun c hc=>by simp[hm1]at hc,fun i j c d _ hc=>by simp[hm1]at hc⟩
theorem atF (vb:Value)(bs:List Int)(w:World)(hb:Is .u8 w vb bs)(hl:bs.length≤100000000000000)(a1:Nat)(b1:Bool)(S1:jB bs 3 0 false 1 a1 b1):
  Calls Tryz.prog 209 #[vb] w (zZ w bs):=by
 obtain⟨ao,ln,cap,hv⟩:=hb.form
 subst hv
 obtain⟨w1,w2,w3,w4,w5,w6,hw1,hw2,hw3,hw4,aT,dm,bJ,iE,gM,vN,wI,kD,r6⟩:=oz w _ bs hb
 have kW:∀(fn:Fn) (first cap:Array Value) (w:World),(Instr.makeFunc fn first cap).run Tryz.prog w=.ok (.func fn first cap) w:=fun _ _ _ _=>rfl
 have hst:=run_store Tryz.prog w5 ⟨w.heap.size+4,0,none⟩ (.func (.func 273) #[] #[.pointer (some ⟨w.heap.size+3,0,none⟩),.pointer (some ⟨w.heap.size,0,none⟩),.pointer (some ⟨w.heap.size+2,0,none⟩)]) .plain rfl
 simp only[vN,wI,kD]at hst
 simp only[Bool.false_eq_true,if_false]at hst
 obtain⟨u2,a2,b2,S2⟩:=fF bs 1048576 a1 b1
 have hu2:=dZ S2
 have R6:=hide r6
 have cf:=r6.cf
 have X1:=hide S1
 have X2:=hide S2
 have G2:Hid (Mm.Go bs [1,(u2:Int)] a2 b2):=hide (Mm.eu (Mm.eu (Mm.pR bs) S1 Mm.aht) S2 (Mm.aiX _))
 have O6:Hid (bP (w.heap.size+5) w6 fD):=hide (bP.no _ _)
 have C1:=hide (dK w.heap.size w w6 _ bs 0 false 3 1 a1 b1 r6.r hl (by omega) S1)
 clear S1 S2 r6 hb
 go_enter Tryz.func209,Tryz.ntmps209
 go_wp2_with fail
 refine C1.out.mono ?_
 rintro E w7 ⟨rfl,H7⟩
 have R7:=hide (R6.out.step H7.out.1 H7.out.2)
 have O7:=hide (O6.out.wr H7.out.2)
 clear H7 C1 hw1 hw2 hw3 hw4 gM kD R6 O6 cf vN wI hst
 obtain⟨w8,hw8⟩:∃V,w7.setCell ⟨w.heap.size+1,0,none⟩ (.int .i64 1)=V:=⟨_,rfl⟩
 have R8:Hid (bM w.heap.size w w8 (.slice ao ln cap) bs a1 b1 ⟨1,0,0,0,.slice none 0 0,[],0,0,.slice none 0 0,[]⟩):=hide (by rw[←hw8];exact R7.out.put 0 _ _ rfl)
 have O8:Hid (bP (w.heap.size+5) w8 fD):=hide (by rw[←hw8];exact O7.out.set 0 _)
 obtain⟨c0,c1,c2,c3,c4,c5,c6,c7⟩:=df R7.out.m
 have f0:=R7.out.fm 0
 have cf:=R8.out.cf
 have C2:=hide (dK w.heap.size w w8 _ bs a1 b1 1048576 u2 a2 b2 R8.out.r hl (by omega) X2.out)
 clear R7 O7
 go_wp2_with fail
 refine C2.out.mono ?_
 rintro E w9 ⟨rfl,H9⟩
 have R9:=hide (R8.out.step H9.out.1 H9.out.2)
 have O9:=hide (O8.out.wr H9.out.2)
 clear H9 C2 R8 O8 cf hw8 c0 c1 c2 c3 c4 c5 c6 c7 f0
 obtain⟨wA,nQ⟩:∃V,w9.setCell ⟨w.heap.size+1,1,none⟩ (.int .i64 u2)=V:=⟨_,rfl⟩
 have RA:Hid (bM w.heap.size w wA (.slice ao ln cap) bs a2 b2 ⟨1,u2,0,0,.slice none 0 0,[],0,0,.slice none 0 0,[]⟩):=hide (by rw[←nQ];exact R9.out.put 1 _ _ rfl)
 have OA:Hid (bP (w.heap.size+5) wA fD):=hide (by rw[←nQ];exact O9.out.set 1 _)
 obtain⟨c0,c1,c2,c3,c4,c5,c6,c7⟩:=df R9.out.m
 obtain⟨d0,d1,d2,d3,d4,d5,d6,d7⟩:=df RA.out.m
 have f1:=R9.out.fm 1
 obtain⟨u3,a3,b3,S3⟩:=fF bs 3 a2 b2
 obtain⟨u4,a4,b4,S4⟩:=fF bs 1048576 a3 b3
 obtain⟨u5,a5,b5,S5⟩:=fF bs 1048576 a4 b4
 have hu3:=dZ S3
 have hu4:=dZ S4
 have hu5:=dZ S5
 have G5:Hid (Mm.Go bs ([1,(u2:Int),(u3:Int),(u4:Int),(u5:Int)]++Mm.fl []) a5 b5):=hide (by
  have:=Mm.eu (Mm.eu (Mm.eu G2.out S3 (Mm.avM _)) S4 (Mm.avF _ _)) S5 (Mm.avQ _ _ _)
  simpa[Mm.fl]using this)
 have X4:=hide S4
 have X5:=hide S5
 have cf:=RA.out.cf
 have C3:=hide (dK w.heap.size w wA _ bs a2 b2 3 u3 a3 b3 RA.out.r hl (by omega) S3)
 have hwr:IntKind.u8.wrap (u3:Int)=u3:=by
  unfold IntKind.wrap
  simp[IntKind.bits,IntKind.signed]
  omega
 clear R9 O9 S3 S4 S5
 go_wp2_with fail
 refine C3.out.mono ?_
 rintro E wB ⟨rfl,HB⟩
 have RB:=hide (RA.out.step HB.out.1 HB.out.2)
 clear HB C3 RA OA cf nQ c0 c1 c2 c3 c4 c5 c6 c7 d0 d1 d2 d3 d4 d5 d6 d7 f1
 obtain⟨wC,hwC⟩:∃V,wB.setCell ⟨w.heap.size+1,2,none⟩ (.int .u8 u3)=V:=⟨_,rfl⟩
 have RC:Hid (bM w.heap.size w wC (.slice ao ln cap) bs a3 b3 (hm1 u2 u3 0 (.slice none 0 0) [])):=hide (by rw[←hwC];exact RB.out.put 2 _ _ rfl)
 obtain⟨c0,c1,c2,c3,c4,c5,c6,c7⟩:=df RB.out.m
 have f2:=RB.out.fm 2
 have cf:=RC.out.cf
 have C4:=hide (dK w.heap.size w wC _ bs a3 b3 1048576 u4 a4 b4 RC.out.r hl (by omega) X4.out)
 clear RB
 go_wp2_with fail
 refine C4.out.mono ?_
 rintro E wD ⟨rfl,HD⟩
 have RD:=hide (RC.out.step HD.out.1 HD.out.2)
 clear HD C4 RC cf hwC c0 c1 c2 c3 c4 c5 c6 c7 f2
 obtain⟨wE,hwE⟩:∃V,wD.setCell ⟨w.heap.size+1,3,none⟩ (.int .i64 u4)=V:=⟨_,rfl⟩
 have RE:Hid (bM w.heap.size w wE (.slice ao ln cap) bs a4 b4 (hm1 u2 u3 u4 (.slice none 0 0) [])):=hide (by rw[←hwE];exact RD.out.put 3 _ _ rfl)
 obtain⟨c0,c1,c2,c3,c4,c5,c6,c7⟩:=df RD.out.m
 have f3:=RD.out.fm 3
 have cf:=RE.out.cf
 have C5:=hide (dK w.heap.size w wE _ bs a4 b4 1048576 u5 a5 b5 RE.out.r hl (by omega) X5.out)
 clear RD
 go_wp2_with fail
 refine C5.out.mono ?_
 rintro E wF ⟨rfl,HF⟩
 have RF:=hide (RE.out.step HF.out.1 HF.out.2)
 clear HF C5 RE cf hwE c0 c1 c2 c3 c4 c5 c6 c7 f3
 go_wp2
 go_loopw [7] (fun lv wr=>∃(left a:Nat) (bad:Bool) (vs:Value) (ss:List Sm.S),lv=.int .i64 left∧left≤1048576∧Hid (ss.length+left=u5)∧Hid (bM w.heap.size w wr (.slice ao ln cap) bs a bad (hm1 u2 u3 u4 vs ss)∧nH (w.heap.size+5) wr vs ss)∧Hid (Mm.Go bs ([1,(u2:Int),(u3:Int),(u4:Int),(u5:Int)]++Mm.fl ss) a bad)) (fun lv _=>(intOf lv).toNat)
 case atStart=>exact⟨u5,a5,b5,_,[],rfl,hu5,hide (by simp),hide ⟨RF.out,dI.nil _ _ _ _ _⟩,G5⟩
 case round=>
  clear RF G5
  obtain⟨left,a,bad,vs,ss,rfl,hlf,HL,HR,HG⟩:=hrel
  have ce:wr.cell? ⟨w.heap.size+3,0,none⟩=some (.int .i64 (eT bad)):=HR.out.1.ce
  obtain⟨xa,xl,xc,hvs⟩:∃x y z,vs=.slice x y z:=by
   obtain⟨x,z,hv,_,_⟩:=HR.out.2.row.shape
   exact⟨x,_,z,hv⟩
  subst hvs
  by_cases hcont:0<left∧bad=false
  ·obtain⟨hlt,rfl⟩:=hcont
   have hlt':(0:Int)<left:=by omega
   have hb0:eT false=0:=rfl
   rw[hb0]at ce
   obtain⟨p,aa,ba,SA⟩:=fF bs 1048576 a false
   obtain⟨q,ab,bb,SB⟩:=fF bs 1048576 aa ba
   have hp:=dZ SA
   have hq:=dZ SB
   have HG2:Hid (Mm.Go bs ([1,(u2:Int),(u3:Int),(u4:Int),(u5:Int)]++Mm.fl (ss++[((p:Int),(q:Int))])) ab bb):=hide (by
    have h1:=Mm.eu HG.out SA (Mm.aqf _ _ _ _ _ (by rw[Mm.qY];have:=HL.out;omega))
    rw[List.append_assoc]at h1
    have h2:=Mm.eu h1 SB (Mm.aqf _ _ _ _ _ (by rw[List.length_append,Mm.qY];have:=HL.out;simp;omega))
    rw[Mm.uL]
    simpa[Mm.fl]using h2)
   have RD1:=hide (HR.out.1.drewN 1)
   have OD1:Hid (nH (w.heap.size+5) (wr.drewN 1) (.slice xa xl xc) ss):=hide (tu HR.out.2 (below_drewN (Below.refl _ _) 1))
   have C1:=hide (abQ w.heap.size w (wr.drewN 1) _ bs a false 1048576 p aa ba RD1.out.r hl (by omega) SA)
   have C2:=hide (fun(W:World) (k:Rst w.heap.size w W (.slice ao ln cap) bs aa ba)=>abQ w.heap.size w W _ bs aa ba 1048576 q ab bb k hl (by omega) SB)
   have cv:wr.cell? ⟨w.heap.size+1,4,none⟩=some (.slice xa xl xc):=HR.out.1.m.ei.c4
   have cf:=HR.out.1.cf
   have hll:=HL.out
   clear SA SB HG
   go_wp2_with fail
   go_region_law (first
    |(refine ahw rfl (.tmp 40) 273 #[.const (.int .i64 1048576)] #[3] #[.pointer (some ⟨w.heap.size+3,0,none⟩),.pointer (some ⟨w.heap.size,0,none⟩),.pointer (some ⟨w.heap.size+2,0,none⟩)] rfl (by simp[Act.eval]) Tryz.ab6 #[.int .i64 1048576] (by simp[Act.eval]) C1.out ?_;rintro v1 z1 ⟨rfl,H1⟩;have R1:=hide (RD1.out.step H1.out.1 H1.out.2);have O1:Hid (nH (w.heap.size+5) z1 (.slice xa xl xc) ss):=hide ((zC (e:=0) (r:=0) (n:=0) OD1.out).wr H1.out.2).s;have cv1:z1.cell? ⟨w.heap.size+1,4,none⟩=some (.slice xa xl xc):=R1.out.m.ei.c4;have cf1:=R1.out.cf;clear H1)
    |(refine ahw rfl (.tmp 42) 273 #[.const (.int .i64 1048576)] #[3] #[.pointer (some ⟨w.heap.size+3,0,none⟩),.pointer (some ⟨w.heap.size,0,none⟩),.pointer (some ⟨w.heap.size+2,0,none⟩)] rfl (by simp[Act.eval]) Tryz.ab6 #[.int .i64 1048576] (by simp[Act.eval]) (C2.out _ R1.out.r) ?_;rintro v2 z2 ⟨rfl,H2⟩;have R2:=hide (R1.out.step H2.out.1 H2.out.2);have O2:Hid (nH (w.heap.size+5) z2 (.slice xa xl xc) ss):=hide ((zC (e:=0) (r:=0) (n:=0) O1.out).wr H2.out.2).s;have cv2:z2.cell? ⟨w.heap.size+1,4,none⟩=some (.slice xa xl xc):=R2.out.m.ei.c4;have cf2:=R2.out.cf;obtain⟨z3,hz3,aon,aC,bG⟩:=amt z2 #[.int .i64 p,.int .i64 q] 1 [((p:Int),(q:Int))] rfl rfl (by simp[maxLen]);have R3:=hide (R2.out.below aC);have O3:=hide (tu O2.out aC);have cv3:z3.cell? ⟨w.heap.size+1,4,none⟩=some (.slice xa xl xc):=R3.out.m.ei.c4;have RW3:=hide bG.row;have hl3:=R3.out.lt;clear H2 bG aC aon)
    |(refine yP lC 2 16 abG (by decide) (by decide) (.agg #[.int .i64 0,.int .i64 0]) rfl rfl (.tmp 39) (.tmp 45) 24 rfl 119 (w.heap.size+5) Tryz.underlying24 Tryz.arb _ ss (by simp[Act.eval]) O3.out _ [((p:Int),(q:Int))] (by simp[Act.eval]) RW3.out (ag2 _) (by simp;omega) (by omega) ?_;intro v4 z4 bq oL;obtain⟨ya,yl,yc,hv4⟩:∃x y z,v4=.slice x y z:=(by obtain⟨x,z,hv,_,_⟩:=bq.row.shape;exact⟨x,_,z,hv⟩);subst hv4;have R4:=hide (R3.out.grown oL (fun g e=>(O3.out.lt g e).1));have O4:=hide bq;have cv4:z4.cell? ⟨w.heap.size+1,4,none⟩=some (.slice xa xl xc):=R4.out.m.ei.c4;have fr4:=R4.out.fm 4;clear bq oL))
   all_goals
    obtain⟨z5,yz⟩:∃V,z4.setCell ⟨w.heap.size+1,4,none⟩ (.slice ya yl yc)=V:=⟨_,rfl⟩
    have R5:Hid (bM w.heap.size w z5 (.slice ao ln cap) bs ab bb (hm1 u2 u3 u4 (.slice ya yl yc) (ss++[((p:Int),(q:Int))]))):=hide (by rw[←yz];exact R4.out.put 4 _ _ rfl)
    have O5:Hid (nH (w.heap.size+5) z5 (.slice ya yl yc) (ss++[((p:Int),(q:Int))])):=hide (by rw[←yz];exact((zC (e:=0) (r:=0) (n:=0) O4.out).set 4 _).s)
    clear R4 O4 R3 O3 R2 O2 R1 O1 C1 C2 RD1 OD1
    go_wp2
    go_roundw
    case rel=>exact⟨left-1,ab,bb,_,_,by rw[show((left-1:Nat):Int)=(left:Int)-1 by omega],by omega,hide (by rw[List.length_append];simp;omega),hide ⟨R5.out,O5.out⟩,HG2⟩
    case measure=>simp[intOf];omega
  ·have hend:Hid (bad=false→left=0):=hide fun h=>by
    rcases Nat.eq_zero_or_pos left with e|e
    ·exact e
    ·exact absurd ⟨e,h⟩ hcont
   have hsl:ss.length≤1048576:=by have:=HL.out;omega
   have RX:=hide HR.out.1
   have OX:Hid (bP (w.heap.size+5) wr (hm1 u2 u3 u4 (.slice xa xl xc) ss)):=hide (zC HR.out.2)
   by_cases hz:left=0
   ·have hz':¬(0:Int)<left:=by omega
    clear hcont
    obtain⟨wZ,mI⟩:∃V,wr.drew=V:=⟨_,rfl⟩
    have RZ:Hid (bM w.heap.size w wZ (.slice ao ln cap) bs a bad ⟨1,u2,u3,u4,.slice xa xl xc,ss,0,0,.slice none 0 0,[]⟩):=hide (by rw[←mI];exact RX.out.drewN 1)
    have HZ:Hid (bP w.heap.size wZ ⟨1,u2,u3,u4,.slice xa xl xc,ss,0,0,.slice none 0 0,[]⟩∧bQ ⟨1,u2,u3,u4,.slice xa xl xc,ss,0,0,.slice none 0 0,[]⟩∧Rdd bs (Mw.m ⟨1,u2,u3,u4,.slice xa xl xc,ss,0,0,.slice none 0 0,[]⟩) a bad∧Below w.heap.size w wZ):=by
     refine⟨?_,lZ (k:=1) (f:=0) (p:=0) (by omega) hu2 hu3 hu4 (by omega) (by omega) (by show ss.length≤_;omega) (fun c hc=>by simp at hc) (by simp),.inl ⟨?_,?_⟩,RZ.out.r.aK⟩
     ·have:=(OX.out.below (below_drewN (Below.refl _ _) 1)).bz (base':=w.heap.size) (by omega)
      rw[←mI]
      exact⟨this.s,this.c,this.o,this.i,this.ap⟩
     ·have h1:=HG.out
      rw[Mm.oK rfl]
      rcases h1 with⟨h2,h3⟩|h2
      ·have hz:=hend.out h2
       have hlz:=HL.out
       rw[hz]at hlz
       have:((ss.length:Int))=(u5:Int):=by omega
       show Mm.uj bs ([1,(u2:Int),(u3:Int),(u4:Int),(ss.length:Int)]++Mm.fl ss) [] a bad
       rw[this]
       exact HG.out.c
      ·exact .inr h2
     ·intro hb
      refine⟨?_,.inl ⟨rfl,rfl,rfl,rfl⟩⟩
      rw[Mm.oK rfl]
      have hz:=hend.out hb
      have hlz:=HL.out
      rw[hz]at hlz
      have:((ss.length:Int))=(u5:Int):=by omega
      show ∀z∈([1,(u2:Int),(u3:Int),(u4:Int),(ss.length:Int)]++Mm.fl ss),0≤z
      rw[this]
      rcases HG.out with⟨_,h,_⟩|⟨h,_⟩
      ·exact h
      ·rw[hb]at h;simp at h
    obtain⟨e0,e1,e2,e3,e4,e5,e6,e7⟩:=df RZ.out.m
    have ea:=RZ.out.ca
    have ee:=RZ.out.ce
    obtain⟨s0,s1,s2,s3,s4,s5,s6,s7,sa,se⟩:=RZ.out.sam
    have z0:=RZ.out.fm 0
    have z1:=RZ.out.fm 1
    have z2:=RZ.out.fm 2
    have z3:=RZ.out.fm 3
    have z4:=RZ.out.fm 4
    have z5:=RZ.out.fm 5
    have z6:=RZ.out.fm 6
    have z7:=RZ.out.fm 7
    have za:=aB RZ.out.r.at' 0
    have ze:=aB RZ.out.r.er 0
    go_wp2
    go_region
    go_wp2
    refine bodyPost_ret (v:=.tuple #[.agg #[.int .i64 1,.int .i64 u2,.int .u8 u3,.int .i64 u4,.slice xa xl xc,.int .i64 0,.int .i64 0,.slice none 0 0],.int .i64 a,.int .i64 (eT bad)]) (by simp[results,Tryz.results209,go_sem,e0,e1,e2,e3,e4,e5,e6,e7,ea,ee]) rfl ?_
    exact⟨⟨1,u2,u3,u4,.slice xa xl xc,ss,0,0,.slice none 0 0,[]⟩,a,bad,rfl,HZ⟩
   ·have hz':(0:Int)<left:=by omega
    have hbt:bad=true:=by
     cases bad
     ·exact absurd ⟨by omega,rfl⟩ hcont
     ·rfl
    subst hbt
    have hb5:eT true=5:=rfl
    rw[hb5]at ce
    clear hcont
    obtain⟨wZ,mI⟩:∃V,wr.drew=V:=⟨_,rfl⟩
    have RZ:Hid (bM w.heap.size w wZ (.slice ao ln cap) bs a true ⟨1,u2,u3,u4,.slice xa xl xc,ss,0,0,.slice none 0 0,[]⟩):=hide (by rw[←mI];exact RX.out.drewN 1)
    have HZ:Hid (bP w.heap.size wZ ⟨1,u2,u3,u4,.slice xa xl xc,ss,0,0,.slice none 0 0,[]⟩∧bQ ⟨1,u2,u3,u4,.slice xa xl xc,ss,0,0,.slice none 0 0,[]⟩∧Rdd bs (Mw.m ⟨1,u2,u3,u4,.slice xa xl xc,ss,0,0,.slice none 0 0,[]⟩) a true∧Below w.heap.size w wZ):=by
     refine⟨?_,lZ (k:=1) (f:=0) (p:=0) (by omega) hu2 hu3 hu4 (by omega) (by omega) (by show ss.length≤_;omega) (fun c hc=>by simp at hc) (by simp),.inl ⟨?_,?_⟩,RZ.out.r.aK⟩
     ·have:=(OX.out.below (below_drewN (Below.refl _ _) 1)).bz (base':=w.heap.size) (by omega)
      rw[←mI]
      exact⟨this.s,this.c,this.o,this.i,this.ap⟩
     ·have h1:=HG.out
      rw[Mm.oK rfl]
      rcases h1 with⟨h2,h3⟩|h2
      ·have hz:=hend.out h2
       have hlz:=HL.out
       rw[hz]at hlz
       have:((ss.length:Int))=(u5:Int):=by omega
       show Mm.uj bs ([1,(u2:Int),(u3:Int),(u4:Int),(ss.length:Int)]++Mm.fl ss) [] a true
       rw[this]
       exact HG.out.c
      ·exact .inr h2
     ·intro hb
      simp at hb
    obtain⟨e0,e1,e2,e3,e4,e5,e6,e7⟩:=df RZ.out.m
    have ea:=RZ.out.ca
    have ee:=RZ.out.ce
    rw[hb5]at ee
    obtain⟨s0,s1,s2,s3,s4,s5,s6,s7,sa,se⟩:=RZ.out.sam
    rw[hb5]at se
    have z0:=RZ.out.fm 0
    have z1:=RZ.out.fm 1
    have z2:=RZ.out.fm 2
    have z3:=RZ.out.fm 3
    have z4:=RZ.out.fm 4
    have z5:=RZ.out.fm 5
    have z6:=RZ.out.fm 6
    have z7:=RZ.out.fm 7
    have za:=aB RZ.out.r.at' 0
    have ze:=aB RZ.out.r.er 0
    go_wp2
    go_region
    go_wp2
    refine bodyPost_ret (v:=.tuple #[.agg #[.int .i64 1,.int .i64 u2,.int .u8 u3,.int .i64 u4,.slice xa xl xc,.int .i64 0,.int .i64 0,.slice none 0 0],.int .i64 a,.int .i64 5]) (by simp[results,Tryz.results209,go_sem,e0,e1,e2,e3,e4,e5,e6,e7,ea,ee]) rfl ?_
    exact⟨⟨1,u2,u3,u4,.slice xa xl xc,ss,0,0,.slice none 0 0,[]⟩,a,true,rfl,HZ⟩
end Go.Proofs.YtlmkaljjocflmaaGreatDoor
