/- Texts of one layer, one behind the other. -/
import Derived.Test.YtpifdeoepppadaaGreatDoorG11
import Derived.Test.YtpifdeoepppadaaGreatDoorG8
import Derived.Test.YtpifdeoepppadaaGreatDoorH25
import Derived.Test.YtpifdeoepppadaaGreatDoorZRts
import Derived.Test.YtpifdeoepppadaaGreatDoorH12
import Derived.Test.YtpifdeoepppadaaGreatDoorH16
import Derived.Test.YtpifdeoepppadaaGreatDoorH15
import Derived.Test.YtpifdeoepppadaaGreatDoorG24
import Derived.Test.YtpifdeoepppadaaGreatDoorProg
set_option maxRecDepth 100000
set_option maxHeartbeats 8000000
namespace Go.Proofs.YtpifdeoepppadaaGreatDoor
open Go.RowKit
set_option linter.unusedVariables false
theorem yx (va vb:Value)(r s:List Cw)(w:World)(ha:fJ w va r)(hb:fJ w vb s)(fa:fF r)(fb:fF s)(hl:r.length≤1048576)(hp:aD s<+:aD r):
  Calls Tryz.prog 30 #[va,vb] w fun E w'=>E=.returned (.bool true)∧Below w.heap.size w w':=by
 have hsl:s.length≤r.length:=by
  have:=hp.length_le
  rwa[cK,cK]at this
 obtain⟨vs,hvs,rows⟩:=ha.1.jW Tryz.xq Tryz.wM s.length hsl
 have SC:=hide (abS vs vb (r.take s.length) s w ⟨rows,ha.2.take _⟩ hb (fa.take _) fb (by rw[List.length_take];omega) (by omega))
 have e:aD (r.take s.length)=aD s:=by
  rw[wN,←cK s]
  obtain⟨t,ht⟩:=hp
  rw[←ht,List.take_left]
 rw[e,wE]at SC
 obtain⟨a1,k1,hva,hk1,_⟩:=ha.1.shape
 obtain⟨a2,k2,hvb,_,_⟩:=hb.1.shape
 have arD:vs=.slice a1 s.length k1:=by
  have:=hvs w
  rw[hva,run_slice_h w 43 a1 r.length k1 Tryz.xq .i64 _ (by omega) (by omega),Tryz.wM]at this
  simp only[Result.andThen,sliced]at this
  cases a1<;>simp[Addr.add]at this<;>exact this.symm
 subst hva hvb arD
 have hle:(s.length:Int)≤(r.length:Int):=by omega
 have hcap:(s.length:Int)≤(k1:Int):=by omega
 clear ha hb fa fb hp rows e hvs
 go_enter Tryz.func30,Tryz.ntmps30
 go_wp2_with fail
 refine SC.out.mono ?_
 rintro E w1 ⟨rfl,b1⟩
 go_wp2
 go_ret
 exact⟨rfl,b1⟩
structure Sam (w:World) (g:Nat) (a b c d e f:Value):Prop where
 s0:w.setCell ⟨g,0,none⟩ a=w
 s1:w.setCell ⟨g,1,none⟩ b=w
 s2:w.setCell ⟨g,2,none⟩ c=w
 s3:w.setCell ⟨g,3,none⟩ d=w
 s4:w.setCell ⟨g,4,none⟩ e=w
 s5:w.setCell ⟨g,5,none⟩ f=w
 f0:w.frozen? ⟨g,0,none⟩=false
 f1:w.frozen? ⟨g,1,none⟩=false
 f2:w.frozen? ⟨g,2,none⟩=false
 f3:w.frozen? ⟨g,3,none⟩=false
 f4:w.frozen? ⟨g,4,none⟩=false
 f5:w.frozen? ⟨g,5,none⟩=false
def pU (w:World) (g:Nat) (x:Pm.Pg):Prop:=w.heap[g]? =some (.cells (cp x) 41 (0,0))
theorem pU.lt {w:World}{g:Nat}{x:Pm.Pg}(h:pU w g x):g<w.heap.size:=aA h
theorem pU.below {w w':World}{g:Nat}{x:Pm.Pg}(h:pU w g x)(b:Below w.heap.size w w'):pU w' g x:=(b.block g h.lt).trans h
theorem pU.six {w:World}{g:Nat}{x:Pm.Pg}(h:pU w g x):Six w g (.int .i64 x.e) (.int .u8 x.r) (.int .i64 x.a) (.int .u8 x.p) (.int .i64 x.f) (.int .i64 x.b):=bO h
def mH (w wr:World) (F:Nat→Prop) (v:Value) (rs:List Cw):Prop:=
 bG 32 w.heap.size wr v rs∧(∀g,v.ownBlock=some g→¬F g)∧∀c∈rs,(aV 106 w.heap.size wr c.v c.l∧∀g,c.v.ownBlock=some g→¬F g)∨dm w c.v c.l
section
variable {w wr w2:World} {F F':Nat→Prop} {v:Value} {rs:List Cw}
theorem mH.below (h:mH w wr F v rs)(hb:Below wr.heap.size wr w2):mH w w2 F v rs:=
 ⟨h.1.below hb,h.2.1,fun c hc=>(h.2.2 c hc).elim (fun k=>.inl ⟨k.1.below hb,k.2⟩) .inr⟩
theorem mH.out {E:Nat→Prop}(h:mH w wr F v rs)(ho:Out E wr w2)(hE:∀g,E g→F g)(hF:∀g,F' g→F g∨wr.heap.size≤g):mH w w2 F' v rs:=by
 have far:∀g,g<wr.heap.size→¬F g→¬F' g:=fun g hg hf hf'=>by
  rcases hF g hf' with e|e
  ·exact hf e
  ·omega
 refine⟨dE h.1 fun g hg=>ho.block g (World.ownsRow.lt h.1 g hg).2 fun e=>h.2.1 g hg (hE g e),fun g hg=>far g (World.ownsRow.lt h.1 g hg).2 (h.2.1 g hg),fun c hc=>?_⟩
 rcases h.2.2 c hc with⟨k1,k2⟩|k
 ·exact .inl ⟨dE k1 fun g hg=>ho.block g (World.ownsRow.lt k1 g hg).2 fun e=>k2 g hg (hE g e),fun g hg=>far g (World.ownsRow.lt k1 g hg).2 (k2 g hg)⟩
 ·exact .inr k
theorem mH.yL (h:mH w wr F v rs)(hb:Below w.heap.size w wr)(hg:Cm.Good 0 0 (aD rs)):fJ wr v rs∧fF rs:=by
 obtain⟨f,g⟩:=abd hg rfl
 refine⟨⟨h.1.row,fun c hc=>⟨?_,(g c hc).1,(g c hc).2.1⟩⟩,f⟩
 rcases h.2.2 c hc with⟨k,_⟩|k
 ·exact k.is
 ·exact k.below hb
theorem adO (hs:w.heap.size≤wr.heap.size)(hlt:∀g,F g→g<wr.heap.size)(hr:bG 32 wr.heap.size w2 v rs)(hc:fC wr.heap.size w2 rs):mH w w2 F v rs:=
 ⟨hr.bz hs,fun g e hf=>by have:=(World.ownsRow.lt hr g e).1;have:=hlt g hf;omega,fun c hd=>.inl ⟨(hc c hd).bz hs,fun g e hf=>by have:=(World.ownsRow.lt (hc c hd) g e).1;have:=hlt g hf;omega⟩⟩
theorem ajL {we:World}{vx:Value}(hs:w.heap.size≤wr.heap.size)(hlt:∀g,F g→g<wr.heap.size)(hb:Below wr.heap.size wr we)(hr:bG 32 wr.heap.size we v rs)(hc:fC wr.heap.size we rs)(hl:rs.length≤1000){c:Cw}(ho:dm w c.v c.l)(hx:iJ gD we vx [c])(ty:TypeId):
  ∃v' w',(Builtin.append_ #[43,43] ty #[v,vx]).run Tryz.prog we=.ok v' w'∧mH w w' F v' (rs++[c])∧Below wr.heap.size wr w'∧∃a k,v'=.slice a (rs.length+1) k:=by
 have hbs:=hb.size
 obtain⟨v',w',hrun,hown,hg,hat⟩:=kE (P:=Tryz.prog) (w:=we) 43 ty gD 3 40 oO (by decide) (by decide) (.agg #[.int .i64 0,.int .i64 0,.slice none 0 0]) rfl 32 wr.heap.size Tryz.underlying43 Tryz.uB v rs (acr.1 hr) _ [c] hx (by
  rw[←wO]
  exact ll [c] fun d hd=>by rw[List.mem_singleton.1 hd];exact ho.one) (by simp;omega) (by omega)
 obtain⟨a,k,hv',_⟩:=hown.row.shape
 have hR:=acr.2 hown
 refine⟨v',w',hrun,⟨hR.bz hs,fun g e hf=>by have:=(World.ownsRow.lt hR g e).1;have:=hlt g hf;omega,fun d hd=>?_⟩,hb.grown hg (by omega) fun g e=>(World.ownsRow.lt hr g e).1,a,k,by rw[hv',List.length_append];rfl⟩
 rcases List.mem_append.1 hd with hd|hd
 ·exact .inl ⟨((hc d hd).gq (bK.pI hr hg) (by decide)).bz hs,fun g e hf=>by have:=(World.ownsRow.lt (hc d hd) g e).1;have:=hlt g hf;omega⟩
 ·rw[List.mem_singleton.1 hd]
  exact .inr ho
def Cbk (g:Nat) (e n:Int) (v:Value) (W:World):Prop:=W.cell? ⟨g,0,none⟩=some (.int .i64 e)∧W.cell? ⟨g,1,none⟩=some (.int .i64 n)∧W.cell? ⟨g,2,none⟩=some v
theorem ahb {g:Nat}{e n:Int}{v:Value}{W:World}(h:W.heap[g]? =some (.cells #[.int .i64 e,.int .i64 n,v] 32 (0,0))):Cbk g e n v W:=⟨ai h 0 rfl,ai h 1 rfl,ai h 2 rfl⟩
theorem as1 {W0:World}{sa:Option Addr}{sk:Nat}{gc:Nat}{c:Cw}(hb:Below w.heap.size w W0)(hlt:∀g,F g→g<W0.heap.size)(su:mH w W0 F (.slice sa rs.length sk) rs)(hg:Cm.Good 0 0 (aD rs))(hl:rs.length≤900)(hc:W0.heap[gc]? =some (.cells #[.int .i64 c.e,.int .i64 c.n,c.v] 32 (0,0)))(ho:dm w c.v c.l):
  (Calls Tryz.prog 27 #[.slice sa rs.length sk] W0 fun E wA=>∃a9 k9,E=.returned (.slice a9 rs.length k9)∧Cbk gc c.e c.n c.v wA∧∃V,wA.alloc (.cells #[.int .i64 c.e,.int .i64 c.n,c.v] 32)=V∧Cbk gc c.e c.n c.v V∧∀ty,∃a8 k8 w8,(Builtin.append_ #[43,43] ty #[.slice a9 rs.length k9,.slice (some ⟨wA.heap.size,0,none⟩) 1 1]).run Tryz.prog V=.ok (.slice a8 (rs.length+1) k8) w8∧Cbk gc c.e c.n c.v w8∧Hid (∃ra,mH w w8 F (.slice a8 (rs.length+1) k8) ra∧aD ra=aD rs++[c.c]∧Below W0.heap.size W0 w8))∧
  ∃V,W0.alloc (.cells #[.int .i64 c.e,.int .i64 c.n,c.v] 32)=V∧Cbk gc c.e c.n c.v V∧Hid (Calls Tryz.prog 27 #[.slice sa rs.length sk] V fun E wA=>∃a9 k9,E=.returned (.slice a9 rs.length k9)∧Cbk gc c.e c.n c.v wA∧∀ty,∃a8 k8 w8,(Builtin.append_ #[43,43] ty #[.slice a9 rs.length k9,.slice (some ⟨W0.heap.size,0,none⟩) 1 1]).run Tryz.prog wA=.ok (.slice a8 (rs.length+1) k8) w8∧Cbk gc c.e c.n c.v w8∧Hid (∃ra,mH w w8 F (.slice a8 (rs.length+1) k8) ra∧aD ra=aD rs++[c.c]∧Below W0.heap.size W0 w8)):=by
 have hs:=hb.size
 have hgc:=aA hc
 have keep:∀W,Below W0.heap.size W0 W→Cbk gc c.e c.n c.v W:=fun W hW=>ahb ((hW.block gc hgc).trans hc)
 have awi:∀r9:List Cw,aD r9=aD rs→r9.length=rs.length:=fun r9 e=>by rw[←cK r9,e,cK]
 constructor
 ·obtain⟨i1,f1⟩:=su.yL hb hg
  refine(xm _ rs W0 i1 f1 (by omega)).mono ?_
  rintro E wA ⟨v9,r9,rfl,o9,e9,p9,b9⟩
  obtain⟨a9,k9,hv9,_,_⟩:=o9.row.shape
  have hl9:=awi r9 e9
  rw[hl9]at hv9
  obtain⟨V,hV,fE,bn,own⟩:=oI gD 3 oO 32 wA #[.int .i64 c.e,.int .i64 c.n,c.v] 1 [c] rfl rfl (by simp[maxLen])
  have bV:=b9.trans (bn.mono b9.size)
  refine⟨a9,k9,by rw[hv9],keep wA b9,V,hV,keep V bV,fun ty=>?_⟩
  obtain⟨v8,w8,h1,h2,h3,a8,k8,h4⟩:=ajL hs hlt bV (o9.below bn) (p9.below bn) (by omega) ho own.row ty
  rw[hl9]at h4
  rw[h4]at h1 h2
  rw[hv9]at h1
  exact⟨a8,k8,w8,h1,keep w8 h3,hide ⟨_,h2,by unfold aD at e9⊢;rw[List.map_append,e9];rfl,h3⟩⟩
 ·obtain⟨V,hV,fE,bn,own⟩:=oI gD 3 oO 32 W0 #[.int .i64 c.e,.int .i64 c.n,c.v] 1 [c] rfl rfl (by simp[maxLen])
  refine⟨V,hV,keep V bn,hide ?_⟩
  obtain⟨i1,f1⟩:=(su.below bn).yL (hb.trans (bn.mono hs)) hg
  refine(xm _ rs V i1 f1 (by omega)).mono ?_
  rintro E wA ⟨v9,r9,rfl,o9,e9,p9,b9⟩
  obtain⟨a9,k9,hv9,_,_⟩:=o9.row.shape
  have hl9:=awi r9 e9
  rw[hl9]at hv9
  have bA:=bn.trans (b9.mono (by omega))
  refine⟨a9,k9,by rw[hv9],keep wA bA,fun ty=>?_⟩
  obtain⟨v8,w8,h1,h2,h3,a8,k8,h4⟩:=ajL hs hlt bA (o9.bz (by omega)) (fun d hd=>(p9 d hd).bz (by omega)) (by omega) ho (own.row.below b9) ty
  rw[hl9]at h4
  rw[h4]at h1 h2
  rw[hv9]at h1
  exact⟨a8,k8,w8,h1,keep w8 h3,hide ⟨_,h2,by unfold aD at e9⊢;rw[List.map_append,e9];rfl,h3⟩⟩
end
structure gz (w wr:World) (p q gp go:Nat) (F:Nat→Prop) (s:Rst.St) (va:Value) (ra:List Cw) (vs:Value) (rs:List Cw) (page other:Pm.Pg):Prop where
 lv:Lv w wr p q F s
 al:mH w wr F va ra
 su:mH w wr F vs rs
 pp:pU wr gp page
 po:pU wr go other
 np:(¬F gp∧¬F go)∧(w.heap.size≤gp∧w.heap.size≤go)∧(0<gp∧0<go)∧gp≠go
 fp:dW page∧dW other
section
variable {w wr w2:World} {p q gp go:Nat} {F:Nat→Prop} {s s':Rst.St} {va vs:Value} {ra rs:List Cw} {page other y:Pm.Pg}
theorem gz.below (h:gz w wr p q gp go F s va ra vs rs page other)(hb:Below wr.heap.size wr w2):gz w w2 p q gp go F s va ra vs rs page other:=
 ⟨h.lv.below hb,h.al.below hb,h.su.below hb,h.pp.below hb,h.po.below hb,h.np,h.fp⟩
theorem gz.step (h:gz w wr p q gp go F s va ra vs rs page other)(k:iA p q F wr w2 s'):∃F',gz w w2 p q gp go F' s' va ra vs rs page other:=by
 obtain⟨F',k1,k2,k3⟩:=k
 have hs:=h.lv.aF.size
 obtain⟨⟨n1,n2⟩,n3,n4,n5⟩:=h.np
 have l1:=h.pp.lt
 have l2:=h.po.lt
 refine⟨F',⟨k1,fun g hg=>?_,h.lv.aF.trans (k2.below (fun g hg=>(h.lv.new g hg).1) hs)⟩,h.al.out k2 (fun g hg=>hg) k3,h.su.out k2 (fun g hg=>hg) k3,(k2.block gp l1 n1).trans h.pp,(k2.block go l2 n2).trans h.po,⟨⟨fun e=>?_,fun e=>?_⟩,n3,n4,n5⟩,h.fp⟩
 ·rcases k3 g hg with e|e
  ·exact h.lv.new g e
  ·have:=h.lv.st.gB.pos;omega
 ·rcases k3 _ e with e|e
  ·exact n1 e
  ·omega
 ·rcases k3 _ e with e|e
  ·exact n2 e
  ·omega
theorem Lv.put {g0:Nat}(h:Lv w wr p q F s)(hg:wr.grownBy w2 (some g0))(h0:¬F g0)(h1:w.heap.size≤g0)(h2:0<g0):Lv w w2 p q F s:=by
 have ho:Out (fun g=>g=g0) wr w2:=Out.aT hg fun g e=>by simp at e;exact e.symm
 exact⟨h.st.agree (fun g e=>ho.block g (h.st.lt g e) fun k=>h0 (k▸e)) ho.size (gm h.st.gB ho fun e=>by omega),h.new,aK h.aF hg h1 h.aF.size⟩
theorem mH.gq {v:Value}(h:mH w wr F v rs)(k:bK 41 wr w2):mH w w2 F v rs:=
 ⟨sM h.1 k (by decide),h.2.1,fun c hc=>(h.2.2 c hc).elim (fun e=>.inl ⟨sM e.1 k (by decide),e.2⟩) .inr⟩
theorem gz.avB (h:gz w wr p q gp go F s va ra vs rs page other)(hg:wr.grownBy w2 (some go))(hP:pU w2 go y)(hy:dW y):gz w w2 p q gp go F s va ra vs rs page y:=by
 obtain⟨⟨n1,n2⟩,n3,n4,n5⟩:=h.np
 have k:=yC h.po hg
 exact⟨h.lv.put hg n2 n3.2 n4.2,h.al.gq k,h.su.gq k,(hg.block gp h.pp.lt (by simp;omega)).trans h.pp,hP,h.np,h.fp.1,hy⟩
theorem gz.bQ (h:gz w wr p q gp go F s va ra vs rs page other)(hg:wr.grownBy w2 (some gp))(hP:pU w2 gp y)(hy:dW y):gz w w2 p q gp go F s va ra vs rs y other:=by
 obtain⟨⟨n1,n2⟩,n3,n4,n5⟩:=h.np
 have k:=yC h.pp hg
 exact⟨h.lv.put hg n1 n3.1 n4.1,h.al.gq k,h.su.gq k,hP,(hg.block go h.po.lt (by simp;omega)).trans h.po,h.np,hy,h.fp.2⟩
variable {n:Nat}
theorem gz.set (h:gz w wr p q gp go F s va ra vs rs page other)(hz:Rz n s)(hn:n≤500)(x:Pm.Pg)(hx:dW x):
  Calls Tryz.prog 15 #[.pointer (some ⟨p,0,none⟩),.agg #[.int .i64 x.e,.int .u8 x.r,.int .i64 x.a,.int .u8 x.p,.int .i64 x.f,.int .i64 x.b]] wr fun E w'=>E=.returned (.int .i64 (Rst.bQ s x).1)∧∃F',gz w w' p q gp go F' (Rst.bQ s x).2 va ra vs rs page other:=by
 refine(aaT p _ F wr s h.lv.st (dD hz hn) ⟨hz.2.2,h.lv.n0⟩ x hx).mono ?_
 rintro E w' ⟨rfl,k1⟩
 exact⟨rfl,h.step k1⟩
theorem gz.aR (h:gz w wr p q gp go F s va ra vs rs page other)(hz:Rz n s)(hn:n≤500)(u:Int)(hu:In64 u):
  Calls Tryz.prog 12 #[.pointer (some ⟨p,0,none⟩),.int .i64 u] wr fun E w'=>E=.returned (.int .i64 (Rst.aR s u).1)∧∃F',gz w w' p q gp go F' (Rst.aR s u).2 va ra vs rs page other:=by
 refine(qm p _ F wr s h.lv.st (dD hz hn) ⟨hz.2.2,h.lv.n0⟩ u hu).mono ?_
 rintro E w' ⟨rfl,k1⟩
 exact⟨rfl,h.step k1⟩
theorem gz.add (h:gz w wr p q gp go F s va ra vs rs page other)(hz:Rz n s)(hn:n≤500){e m:Int}{v:Value}{l:List Bm.Ov}(hv:dm w v l)(hf:fG l)(h40:l.length≤40)(he:In64 e∧In64 m):
  ∃V,wr.alloc (.cells #[.int .i64 e,.int .i64 m,v] 32)=V∧Below wr.heap.size wr V∧Hid (Calls Tryz.prog 10 #[.pointer (some ⟨p,0,none⟩),.slice (some ⟨wr.heap.size,0,none⟩) 1 1] V fun E w'=>E=.returned (.int .i64 (Rst.add s [⟨e,m,l⟩]).1)∧Out F V w'∧∃F',gz w w' p q gp go F' (Rst.add s [⟨e,m,l⟩]).2 va ra vs rs page other):=by
 obtain⟨V,hV,fE,bn,iE⟩:=gN 32 wr #[.int .i64 e,.int .i64 m,v] 1 [⟨e,m,v,l⟩] rfl rfl (by simp[maxLen])
 have hsb:=h.lv.aF.size
 refine⟨V,hV,bn,hide ?_⟩
 have LV:=h.below bn
 have hIC:∀W,Out F V W→fJ W (.slice (some ⟨wr.heap.size,0,none⟩) 1 1) [⟨e,m,v,l⟩]:=fun W hW=>by
  have r1:bG 32 wr.heap.size W (.slice (some ⟨wr.heap.size,0,none⟩) 1 1) [⟨e,m,v,l⟩]:=dE iE fun g hg=>hW.block g (World.ownsRow.lt iE g hg).2 fun hF=>by
   have a1:=(World.ownsRow.lt iE g hg).1
   have a2:=h.lv.st.lt g hF
   omega
  refine⟨r1.row,fun c hc=>?_⟩
  rw[List.mem_singleton.1 hc]
  exact⟨hv.below (LV.lv.aF.trans (hW.below (fun g hg=>(h.lv.new g hg).1) LV.lv.aF.size)),he⟩
 refine(vI p _ F V s LV.lv.st (dD hz hn) ⟨hz.2.2,h.lv.n0⟩ _ [⟨e,m,v,l⟩] hIC (fun c hc=>by rw[List.mem_singleton.1 hc];exact⟨hf,by show l.length*40≤_;omega⟩) (by simp)).mono ?_
 rintro E w' ⟨rfl,k1⟩
 exact⟨rfl,by obtain⟨_,_,o,_⟩:=k1;exact o,LV.step k1⟩
theorem gz.disk (h:gz w wr p q gp go F s va ra vs rs page other){f:FuncId}{args:Array Value}{x:Value}{d':Dm.Ds}(hc:∀F1,Pk q F1 wr s.d→Calls Tryz.prog f args wr fun E w'=>E=.returned x∧aP q F1 wr w' d'):
  Calls Tryz.prog f args wr fun E w'=>E=.returned x∧∃F',gz w w' p q gp go F' ⟨d',s.p,s.l,s.r,s.off⟩ va ra vs rs page other:=by
 obtain⟨F1,k1,k2,k3⟩:=h.lv.st.disk fun e=>by have:=(h.lv.new 0 e).2;omega
 refine(hc F1 k1).mono ?_
 rintro E w' ⟨rfl,k⟩
 exact⟨rfl,h.step (k3 w' d' k)⟩
theorem gz.open (h:gz w wr p q gp go F s va ra vs rs page other)(hB:Big 50000000 500000 s.d)(ho:s.d.on=true)(hL:∀m p g r ss,Rst.za s.d (fst 0) m p g r ss→m.length≤100000):
  Calls Tryz.prog 9 #[.pointer (some ⟨q,0,none⟩),.int .i64 0] wr fun E w'=>∃m pg g r st,Hid (Rst.za s.d (fst 0) m pg g r st)∧(Rst.gP s.d m pg g r st=0→∃p' F2,E=.returned (.tuple #[.pointer (some ⟨p',0,none⟩),.int .i64 0])∧gz w w' p' q gp go F2 ⟨Rst.fV s.d m g r st,pg,m,r,false⟩ va ra vs rs page other):=by
 have n0:¬F 0:=fun e=>by have:=(h.lv.new 0 e).2;omega
 obtain⟨⟨F1,G,h1,h2,h3,hm,hF⟩,hnew,hbel⟩:=h.lv
 have f1:∀g,F1 g→F g:=fun g e=>by rw[hF];exact .inl e
 refine(zm q F1 wr s.d 0 h1 hm (fun e=>n0 (f1 0 e)) hB (.inl rfl) ho hL).mono ?_
 rintro E w' ⟨m,pg,g,r,st,SC,F2,⟨k1,k2,k3⟩,hc⟩
 refine⟨m,pg,g,r,st,SC,fun e0=>?_⟩
 rcases hc with⟨c1,_⟩|⟨_,p',G2,rfl,k4,k5⟩
 ·exact absurd e0 c1
 obtain⟨⟨n1,n2⟩,n3,n4,n5⟩:=h.np
 have l1:=h.pp.lt
 have l2:=h.po.lt
 have hb:=hbel.size
 have hp:=hm.pos
 have hm':=gm hm k2 fun e=>n0 (f1 0 e)
 have aff:=hbel.trans (k2.below (fun g hg=>(hnew g (f1 g hg)).1) hb)
 have far:∀g,F2 g∨G2 g→F g∨wr.heap.size≤g:=fun g hg=>by
  rcases hg with e|e
  ·rcases k3 g e with e|e
   ·exact .inl (f1 g e)
   ·exact .inr e
  ·exact .inr (k5 g e).1
 refine⟨p',fun g=>F2 g∨G2 g,rfl,⟨⟨F2,G2,k1,k4,fun g hg=>(k5 g hg).2,hm',rfl⟩,fun g hg=>?_,aff⟩,h.al.out k2 f1 far,h.su.out k2 f1 far,(k2.block gp l1 fun e=>n1 (f1 gp e)).trans h.pp,(k2.block go l2 fun e=>n2 (f1 go e)).trans h.po,⟨⟨fun e=>?_,fun e=>?_⟩,n3,n4,n5⟩,h.fp⟩
 ·rcases far g hg with e|e
  ·exact hnew g e
  ·omega
 ·rcases far _ e with e|e
  ·exact n1 e
  ·omega
 ·rcases far _ e with e|e
  ·exact n2 e
  ·omega
end
theorem aiZ:Array.replicate 6 false=aj 6 0:=by kernel_rfl
theorem agm:(au 29 Tryz.f5).size=6:=by kernel_rfl
theorem ahZ:Region.free .any (au 29 Tryz.f5) (aj 6 0) 0=true∧(Region.ready .any (au 29 Tryz.f5) (aj 6 0)).contains 0=true∧(aj 6 0).setIfInBounds 0 true=aj 6 1:=⟨by kernel_rfl,by kernel_rfl,by kernel_rfl⟩
theorem agx:Region.free .any (au 29 Tryz.f5) (aj 6 1) 2=true∧(Region.ready .any (au 29 Tryz.f5) (aj 6 1)).contains 2=true∧(aj 6 1).setIfInBounds 2 true=aj 6 5:=⟨by kernel_rfl,by kernel_rfl,by kernel_rfl⟩
theorem alK:Region.ready .any (au 29 Tryz.f5) (aj 6 5)=[1,3]∧(aj 6 5).setIfInBounds 1 true=aj 6 7∧(aj 6 5).setIfInBounds 3 true=aj 6 13:=⟨by kernel_rfl,by kernel_rfl,by kernel_rfl⟩
theorem alO:Region.ready .any (au 29 Tryz.f5) (aj 6 7)=[3]∧(aj 6 7).setIfInBounds 3 true=aj 6 15:=⟨by kernel_rfl,by kernel_rfl⟩
theorem zH:Region.ready .any (au 29 Tryz.f5) (aj 6 15)=[4]∧(aj 6 15).setIfInBounds 4 true=aj 6 31:=⟨by kernel_rfl,by kernel_rfl⟩
theorem tN:Region.free .any (au 29 Tryz.f5) (aj 6 31) 5=true∧(Region.ready .any (au 29 Tryz.f5) (aj 6 31)).contains 5=true∧(aj 6 31).setIfInBounds 5 true=aj 6 63:=⟨by kernel_rfl,by kernel_rfl,by kernel_rfl⟩
theorem zO:Region.ready .any (au 29 Tryz.f5) (aj 6 63)=[]:=by kernel_rfl
theorem aiP:Region.ready .any (au 29 Tryz.f5) (aj 6 13)=[1]∧(aj 6 13).setIfInBounds 1 true=aj 6 15:=⟨by kernel_rfl,by kernel_rfl⟩
theorem ave:Array.replicate 21 false=aj 21 0:=by kernel_rfl
theorem arp:(au 39 Tryz.f5).size=21:=by kernel_rfl
theorem aov:Region.free .any (au 39 Tryz.f5) (aj 21 0) 0=true∧(Region.ready .any (au 39 Tryz.f5) (aj 21 0)).contains 0=true∧(aj 21 0).setIfInBounds 0 true=aj 21 1:=⟨by kernel_rfl,by kernel_rfl,by kernel_rfl⟩
theorem aqm:Region.free .any (au 39 Tryz.f5) (aj 21 1) 1=true∧(Region.ready .any (au 39 Tryz.f5) (aj 21 1)).contains 1=true∧(aj 21 1).setIfInBounds 1 true=aj 21 3:=⟨by kernel_rfl,by kernel_rfl,by kernel_rfl⟩
theorem awX:Region.ready .any (au 39 Tryz.f5) (aj 21 3)=[2]∧(aj 21 3).setIfInBounds 2 true=aj 21 7:=⟨by kernel_rfl,by kernel_rfl⟩
theorem aow:Region.free .any (au 39 Tryz.f5) (aj 21 7) 3=true∧(Region.ready .any (au 39 Tryz.f5) (aj 21 7)).contains 3=true∧(aj 21 7).setIfInBounds 3 true=aj 21 15:=⟨by kernel_rfl,by kernel_rfl,by kernel_rfl⟩
theorem amt:Region.free .any (au 39 Tryz.f5) (aj 21 15) 4=true∧(Region.ready .any (au 39 Tryz.f5) (aj 21 15)).contains 4=true∧(aj 21 15).setIfInBounds 4 true=aj 21 31:=⟨by kernel_rfl,by kernel_rfl,by kernel_rfl⟩
theorem am5:Region.free .any (au 39 Tryz.f5) (aj 21 31) 5=true∧(Region.ready .any (au 39 Tryz.f5) (aj 21 31)).contains 5=true∧(aj 21 31).setIfInBounds 5 true=aj 21 63:=⟨by kernel_rfl,by kernel_rfl,by kernel_rfl⟩
theorem auW:Region.ready .any (au 39 Tryz.f5) (aj 21 63)=[6]∧(aj 21 63).setIfInBounds 6 true=aj 21 127:=⟨by kernel_rfl,by kernel_rfl⟩
theorem aks:Region.free .any (au 39 Tryz.f5) (aj 21 127) 7=true∧(Region.ready .any (au 39 Tryz.f5) (aj 21 127)).contains 7=true∧(aj 21 127).setIfInBounds 7 true=aj 21 255:=⟨by kernel_rfl,by kernel_rfl,by kernel_rfl⟩
theorem alp:Region.free .any (au 39 Tryz.f5) (aj 21 255) 8=true∧(Region.ready .any (au 39 Tryz.f5) (aj 21 255)).contains 8=true∧(aj 21 255).setIfInBounds 8 true=aj 21 511:=⟨by kernel_rfl,by kernel_rfl,by kernel_rfl⟩
theorem akp:Region.free .any (au 39 Tryz.f5) (aj 21 511) 9=true∧(Region.ready .any (au 39 Tryz.f5) (aj 21 511)).contains 9=true∧(aj 21 511).setIfInBounds 9 true=aj 21 1023:=⟨by kernel_rfl,by kernel_rfl,by kernel_rfl⟩
theorem agw:Region.free .any (au 39 Tryz.f5) (aj 21 1023) 11=true∧(Region.ready .any (au 39 Tryz.f5) (aj 21 1023)).contains 11=true∧(aj 21 1023).setIfInBounds 11 true=aj 21 3071:=⟨by kernel_rfl,by kernel_rfl,by kernel_rfl⟩
theorem am1:Region.ready .any (au 39 Tryz.f5) (aj 21 3071)=[10]∧(aj 21 3071).setIfInBounds 10 true=aj 21 4095:=⟨by kernel_rfl,by kernel_rfl⟩
theorem alX:Region.ready .any (au 39 Tryz.f5) (aj 21 4095)=[12]∧(aj 21 4095).setIfInBounds 12 true=aj 21 8191:=⟨by kernel_rfl,by kernel_rfl⟩
theorem agY:Region.free .any (au 39 Tryz.f5) (aj 21 8191) 13=true∧(Region.ready .any (au 39 Tryz.f5) (aj 21 8191)).contains 13=true∧(aj 21 8191).setIfInBounds 13 true=aj 21 16383:=⟨by kernel_rfl,by kernel_rfl,by kernel_rfl⟩
theorem ae7:Region.free .any (au 39 Tryz.f5) (aj 21 16383) 14=true∧(Region.ready .any (au 39 Tryz.f5) (aj 21 16383)).contains 14=true∧(aj 21 16383).setIfInBounds 14 true=aj 21 32767:=⟨by kernel_rfl,by kernel_rfl,by kernel_rfl⟩
theorem ae5:Region.free .any (au 39 Tryz.f5) (aj 21 32767) 15=true∧(Region.ready .any (au 39 Tryz.f5) (aj 21 32767)).contains 15=true∧(aj 21 32767).setIfInBounds 15 true=aj 21 65535:=⟨by kernel_rfl,by kernel_rfl,by kernel_rfl⟩
theorem aeQ:Region.free .any (au 39 Tryz.f5) (aj 21 65535) 16=true∧(Region.ready .any (au 39 Tryz.f5) (aj 21 65535)).contains 16=true∧(aj 21 65535).setIfInBounds 16 true=aj 21 131071:=⟨by kernel_rfl,by kernel_rfl,by kernel_rfl⟩
theorem adl:Region.free .any (au 39 Tryz.f5) (aj 21 131071) 17=true∧(Region.ready .any (au 39 Tryz.f5) (aj 21 131071)).contains 17=true∧(aj 21 131071).setIfInBounds 17 true=aj 21 262143:=⟨by kernel_rfl,by kernel_rfl,by kernel_rfl⟩
theorem adE:Region.free .any (au 39 Tryz.f5) (aj 21 262143) 18=true∧(Region.ready .any (au 39 Tryz.f5) (aj 21 262143)).contains 18=true∧(aj 21 262143).setIfInBounds 18 true=aj 21 524287:=⟨by kernel_rfl,by kernel_rfl,by kernel_rfl⟩
theorem adq:Region.free .any (au 39 Tryz.f5) (aj 21 524287) 19=true∧(Region.ready .any (au 39 Tryz.f5) (aj 21 524287)).contains 19=true∧(aj 21 524287).setIfInBounds 19 true=aj 21 1048575:=⟨by kernel_rfl,by kernel_rfl,by kernel_rfl⟩
theorem abx:Region.free .any (au 39 Tryz.f5) (aj 21 1048575) 20=true∧(Region.ready .any (au 39 Tryz.f5) (aj 21 1048575)).contains 20=true∧(aj 21 1048575).setIfInBounds 20 true=aj 21 2097151:=⟨by kernel_rfl,by kernel_rfl,by kernel_rfl⟩
theorem auP:Region.ready .any (au 39 Tryz.f5) (aj 21 2097151)=[]:=by kernel_rfl
theorem aut:Array.replicate 21 false=aj 21 0:=by kernel_rfl
theorem aqk:(au 39 Tryz.f5).size=21:=by kernel_rfl
theorem aqd:Region.free .any (au 39 Tryz.f5) (aj 21 0) 0=true∧(Region.ready .any (au 39 Tryz.f5) (aj 21 0)).contains 0=true∧(aj 21 0).setIfInBounds 0 true=aj 21 1:=⟨by kernel_rfl,by kernel_rfl,by kernel_rfl⟩
theorem ap7:Region.free .any (au 39 Tryz.f5) (aj 21 1) 1=true∧(Region.ready .any (au 39 Tryz.f5) (aj 21 1)).contains 1=true∧(aj 21 1).setIfInBounds 1 true=aj 21 3:=⟨by kernel_rfl,by kernel_rfl,by kernel_rfl⟩
theorem aze:Region.ready .any (au 39 Tryz.f5) (aj 21 3)=[2]∧(aj 21 3).setIfInBounds 2 true=aj 21 7:=⟨by kernel_rfl,by kernel_rfl⟩
theorem aqu:Region.free .any (au 39 Tryz.f5) (aj 21 7) 3=true∧(Region.ready .any (au 39 Tryz.f5) (aj 21 7)).contains 3=true∧(aj 21 7).setIfInBounds 3 true=aj 21 15:=⟨by kernel_rfl,by kernel_rfl,by kernel_rfl⟩
theorem alW:Region.free .any (au 39 Tryz.f5) (aj 21 15) 4=true∧(Region.ready .any (au 39 Tryz.f5) (aj 21 15)).contains 4=true∧(aj 21 15).setIfInBounds 4 true=aj 21 31:=⟨by kernel_rfl,by kernel_rfl,by kernel_rfl⟩
theorem aml:Region.free .any (au 39 Tryz.f5) (aj 21 31) 5=true∧(Region.ready .any (au 39 Tryz.f5) (aj 21 31)).contains 5=true∧(aj 21 31).setIfInBounds 5 true=aj 21 63:=⟨by kernel_rfl,by kernel_rfl,by kernel_rfl⟩
theorem atC:Region.ready .any (au 39 Tryz.f5) (aj 21 63)=[6]∧(aj 21 63).setIfInBounds 6 true=aj 21 127:=⟨by kernel_rfl,by kernel_rfl⟩
theorem ak4:Region.free .any (au 39 Tryz.f5) (aj 21 127) 7=true∧(Region.ready .any (au 39 Tryz.f5) (aj 21 127)).contains 7=true∧(aj 21 127).setIfInBounds 7 true=aj 21 255:=⟨by kernel_rfl,by kernel_rfl,by kernel_rfl⟩
theorem als:Region.free .any (au 39 Tryz.f5) (aj 21 255) 8=true∧(Region.ready .any (au 39 Tryz.f5) (aj 21 255)).contains 8=true∧(aj 21 255).setIfInBounds 8 true=aj 21 511:=⟨by kernel_rfl,by kernel_rfl,by kernel_rfl⟩
theorem akr:Region.free .any (au 39 Tryz.f5) (aj 21 511) 9=true∧(Region.ready .any (au 39 Tryz.f5) (aj 21 511)).contains 9=true∧(aj 21 511).setIfInBounds 9 true=aj 21 1023:=⟨by kernel_rfl,by kernel_rfl,by kernel_rfl⟩
theorem ahG:Region.free .any (au 39 Tryz.f5) (aj 21 1023) 11=true∧(Region.ready .any (au 39 Tryz.f5) (aj 21 1023)).contains 11=true∧(aj 21 1023).setIfInBounds 11 true=aj 21 3071:=⟨by kernel_rfl,by kernel_rfl,by kernel_rfl⟩
theorem an9:Region.ready .any (au 39 Tryz.f5) (aj 21 3071)=[10]∧(aj 21 3071).setIfInBounds 10 true=aj 21 4095:=⟨by kernel_rfl,by kernel_rfl⟩
theorem amz:Region.ready .any (au 39 Tryz.f5) (aj 21 4095)=[12]∧(aj 21 4095).setIfInBounds 12 true=aj 21 8191:=⟨by kernel_rfl,by kernel_rfl⟩
theorem ahg:Region.free .any (au 39 Tryz.f5) (aj 21 8191) 13=true∧(Region.ready .any (au 39 Tryz.f5) (aj 21 8191)).contains 13=true∧(aj 21 8191).setIfInBounds 13 true=aj 21 16383:=⟨by kernel_rfl,by kernel_rfl,by kernel_rfl⟩
theorem aeU:Region.free .any (au 39 Tryz.f5) (aj 21 16383) 14=true∧(Region.ready .any (au 39 Tryz.f5) (aj 21 16383)).contains 14=true∧(aj 21 16383).setIfInBounds 14 true=aj 21 32767:=⟨by kernel_rfl,by kernel_rfl,by kernel_rfl⟩
theorem ae6:Region.free .any (au 39 Tryz.f5) (aj 21 32767) 16=true∧(Region.ready .any (au 39 Tryz.f5) (aj 21 32767)).contains 16=true∧(aj 21 32767).setIfInBounds 16 true=aj 21 98303:=⟨by kernel_rfl,by kernel_rfl,by kernel_rfl⟩
theorem akk:Region.ready .any (au 39 Tryz.f5) (aj 21 98303)=[15]∧(aj 21 98303).setIfInBounds 15 true=aj 21 131071:=⟨by kernel_rfl,by kernel_rfl⟩
theorem ait:Region.ready .any (au 39 Tryz.f5) (aj 21 131071)=[17]∧(aj 21 131071).setIfInBounds 17 true=aj 21 262143:=⟨by kernel_rfl,by kernel_rfl⟩
theorem adC:Region.free .any (au 39 Tryz.f5) (aj 21 262143) 18=true∧(Region.ready .any (au 39 Tryz.f5) (aj 21 262143)).contains 18=true∧(aj 21 262143).setIfInBounds 18 true=aj 21 524287:=⟨by kernel_rfl,by kernel_rfl,by kernel_rfl⟩
theorem acX:Region.free .any (au 39 Tryz.f5) (aj 21 524287) 19=true∧(Region.ready .any (au 39 Tryz.f5) (aj 21 524287)).contains 19=true∧(aj 21 524287).setIfInBounds 19 true=aj 21 1048575:=⟨by kernel_rfl,by kernel_rfl,by kernel_rfl⟩
theorem ace:Region.free .any (au 39 Tryz.f5) (aj 21 1048575) 20=true∧(Region.ready .any (au 39 Tryz.f5) (aj 21 1048575)).contains 20=true∧(aj 21 1048575).setIfInBounds 20 true=aj 21 2097151:=⟨by kernel_rfl,by kernel_rfl,by kernel_rfl⟩
theorem avm:Region.ready .any (au 39 Tryz.f5) (aj 21 2097151)=[]:=by kernel_rfl
end Go.Proofs.YtpifdeoepppadaaGreatDoor
