/- Texts of one layer, one behind the other. -/
import Derived.Test.YtlmkaljjocflmaaGreatDoorAH33
import Derived.Test.YtlmkaljjocflmaaGreatDoorAH34
import Derived.Test.YtlmkaljjocflmaaGreatDoorAM4
import Derived.Test.YtlmkaljjocflmaaGreatDoorAH31
import Derived.Test.YtlmkaljjocflmaaGreatDoorAH21
import Derived.Test.YtlmkaljjocflmaaGreatDoorAH18
import Derived.Test.YtlmkaljjocflmaaGreatDoorAH23
import Derived.Deep.CutRange
set_option maxRecDepth 100000
set_option maxHeartbeats 8000000
namespace Go.Proofs.YtlmkaljjocflmaaGreatDoor
open Go.RowKit
set_option linter.unusedVariables false
structure fA (m:Nat) (x:Ns) (e pa:Int):Prop where
 inn:∃z ps,Rst.In z x.s ps []
 has:x.s.d.has=false
 rz:Rz m x.s
 pg:x.s.p=⟨e,1,pa,0,0,0⟩
 e:1≤e∧e≤1048576
 t:1≤x.t∧x.t≤16
 a:0≤pa∧pa≤x.a∧x.a≤x.s.l.length
 r:Cm.lastN 0 x.s.r≤x.a
section
variable {m:Nat} {x:Ns} {e pa:Int} {l:List Bm.Ov}
theorem fA.on (h:fA m x e pa):x.s.d.on=true:=by
 obtain⟨z,ps,k⟩:=h.inn
 exact k.on
theorem fA.rok (h:fA m x e pa)(hm:m≤500):iV x.s:=⟨h.rz.1.mono (by omega) (by omega),by have:=h.rz.2.1;omega⟩
theorem fA.t3 (h:fA m x e pa):T3 x.s.d:=h.rz.2.2
theorem fA.ok (h:fA m x e pa)(hm:m≤500):Pm.chk x.s.p=0:=by
 rw[h.pg]
 have h1:=h.e
 have h2:=h.a
 have h3:=h.rz.2.1
 exact Pm.mD.2 ⟨⟨h1.1,h1.2,h2.1,by show pa≤_;omega,by simp,by simp,by simp,by simp⟩,.inl ⟨rfl,rfl,rfl,rfl⟩⟩
theorem fA.rd (h:fA m x e pa)(hm:m≤500):Rol.lN x.s.p=0:=by
 unfold Rol.lN
 rw[if_pos (h.ok hm),h.pg]
 rfl
theorem fA.wr (h:fA m x e pa)(hm:m≤500):Rol.uB x.s.p=0:=by
 unfold Rol.uB
 rw[if_pos (h.ok hm),h.pg]
 rfl
theorem fA.i64 (h:fA m x e pa):In64 x.s.p.e:=by
 rw[h.pg]
 have:=h.e
 simp only[In64]
 omega
theorem fA.out (h:fA m x e pa)(hm:m≤500):bg.oV x.s.l.length x.a=x.s.l.length-x.a:=by
 have h2:=h.a
 have h3:=h.rz.2.1
 unfold bg.oV
 rw[if_pos (by omega)]
theorem fA.bar (h:fA m x e pa)(hm:m≤500):x.bar l=if Bm.cO l≠0 then Bm.cO l else if x.t≤x.s.l.length-x.a then 8 else 0:=by
 have h2:=h.a
 have h3:=h.rz.2.1
 unfold Ns.bar
 split
 ·rfl
 ·rw[if_neg (by rw[h.wr hm];simp)]
  unfold bg.ad
  rw[if_pos h.t,if_pos (by omega)]
  split
  ·rfl
  ·rw[if_neg (by omega)]
theorem fA.no (h:fA m x e pa)(hm:m≤500)(hb:x.bar l≠0):x.jK l=x.bar l∧x.co l=x:=by
 unfold Ns.jK Ns.co
 rw[if_pos hb,if_pos hb]
 exact⟨rfl,rfl⟩
theorem fA.yes (h:fA m x e pa)(hm:m≤500)(hb:x.bar l=0):
  x.jK l=0∧fA (m+1) (x.co l) e pa∧(x.co l).s.l=x.s.l++[⟨e,x.s.l.length+1,l⟩]∧(x.co l).a=x.a∧(x.co l).t=x.t∧(x.co l).k=x.k∧(x.co l).s.r=x.s.r∧Sto.fold (Rst.gK (x.co l).s)=Tm.app (Sto.fold (Rst.gK x.s)) l:=by
 obtain⟨z,ps,k⟩:=h.inn
 have h2:=h.a
 have h3:=h.rz.2.1
 have he:=h.e
 have hc:Bm.cO l=0:=by
  have:=h.bar (l:=l) hm
  rw[hb]at this
  split at this
  ·rename_i g;exact absurd this.symm g
  ·rename_i g;exact Classical.not_not.1 g
 have ec:x.com l=⟨e,x.s.l.length+1,l⟩:=by unfold Ns.com;rw[h.pg]
 have sd:=Rst.xG.1 k.sd
 have le:Cm.lastE 0 x.s.l≤e:=by have:=sd.1.2.1;rw[h.pg]at this;exact this
 have hg:Cm.Good (Cm.lastE 0 x.s.l) x.s.l.length [⟨e,x.s.l.length+1,l⟩]:=⟨by show Cm.chk e ((x.s.l.length:Int)+1) l=0;rw[Cm.aes ⟨he.1,he.2,by omega,by omega⟩,hc],by show(x.s.l.length:Int)+1-1=_;omega,le,trivial⟩
 obtain⟨e1,e2,e3,e4,e5,e6⟩:=Rst.atb k h.has (cs:=[⟨e,x.s.l.length+1,l⟩]) ((Cm.gH _ _ _ 0).2 hg) (by
  rw[h.pg]
  refine Rst.acE ?_ ?_ (by simp) ?_ rfl
  ·have:=h.r;rw[List.length_append];omega
  ·rw[(Cm.iF _ _ _ 0).1];exact Int.le_refl _
  ·show pa≤_;rw[List.length_append];omega)
 have hf:=Rst.fold_add k (c:=⟨e,x.s.l.length+1,l⟩) e1
 unfold Ns.jK Ns.co
 rw[if_neg (by rw[hb];simp),if_neg (by rw[hb];simp),ec]
 refine⟨e1,⟨⟨z,ps,e2⟩,e6,asD h.rz _ (by simp),e3.trans h.pg,he,h.t,?_,?_⟩,e4,rfl,rfl,rfl,e5,hf⟩
 ·show 0≤pa∧pa≤x.a∧x.a≤(Rst.add x.s _).2.l.length
  rw[e4,List.length_append]
  omega
 ·show Cm.lastN 0 (Rst.add x.s _).2.r≤x.a
  rw[e5]
  exact h.r
end
theorem arI (t:Int)(ht:1≤t∧t≤16):fA 1 (Ns.one 0 t (jI 0)) 1 0:=
 ⟨⟨fst 0,[],Rst.aja _ (by decide)⟩,rfl,⟨oI.mono (by decide) (by decide),Nat.zero_le _,aai⟩,rfl,by decide,ht,show(0:Int)≤0∧(0:Int)≤0∧(0:Int)≤((0:Nat):Int)by omega,show(0:Int)≤0 by omega⟩
theorem yg (n p q:Nat)(F:Nat→Prop)(w:World)(x:Ns)(h:Nd n p q F w x)(hR:iV x.s)(h3:T3 x.s.d)(h0:¬F 0)(hon:x.s.d.on=true)(v:Value)(l:List Bm.Ov)(hv:∀W,Out F w W→dz W v l)(hf:fZ l)(hl:l.length*40≤140737488351232)(he:In64 x.s.p.e)(h6:x.jK l≠6):
  Calls Tryz.prog 28 #[.pointer (some ⟨n,0,none⟩),v] w fun E w'=>E=.returned (.tuple #[.int .i64 (if x.jK l=0 then x.s.l.length+1 else 0),.int .i64 (x.jK l)])∧dA n p q F w w' (x.co l):=by
 have kW:∀(fn:Fn) (first cap:Array Value) (w:World),(Instr.makeFunc fn first cap).run Tryz.prog w=.ok (.func fn first cap) w:=fun _ _ _ _=>rfl
 obtain⟨va,vn,vk,rfl⟩:∃a n k,v=.slice a n k:=by
  obtain⟨a,k,e,_,_⟩:=(hv w (Out.refl _ _)).shape
  exact⟨_,_,_,e⟩
 obtain⟨w1,hw1,s1,b1,P1⟩:=au w #[.pointer (some ⟨n,0,none⟩)] 66
 obtain⟨w2,hw2,s2,b2,P2⟩:=au w1 #[.slice va vn vk] 33
 obtain⟨w3,hw3,s3,b3,P3⟩:=au w2 #[.int .i64 0] 3
 rw[s1]at P2
 rw[s2,s1]at P3
 have iw:Below w.heap.size w w3:=(b1.trans (b2.mono (by omega))).trans (b3.mono (by omega))
 have P1:=(b3.block _ (by omega)).trans ((b2.block _ (by omega)).trans P1)
 have P2:=(b3.block _ (by omega)).trans P2
 have lt:=h.lt
 have hw0:=h.st.gu.pos
 obtain⟨ce,hce⟩:∃z,x.jK l=z:=⟨_,rfl⟩
 obtain⟨cn,hcn⟩:∃z,(if ce=0 then(x.s.l.length:Int)+1 else 0)=z:=⟨_,rfl⟩
 obtain⟨cx,hcx⟩:∃z,x.co l=z:=⟨_,rfl⟩
 have CC:=fun W hW=>afP n p q F W x (h.below hW) hR h3 h0 (.slice va vn vk) l (fun V hV=>hv V ((Out.of_below hW).trans hV fun g e=>.inl e)) hf hl he
 rw[hce,hcn,hcx]at CC
 rw[hce]at h6
 rw[hce,hcn,hcx]
 have h6':(ce==6)=false:=by simpa using h6
 have CL:=qK n p q F w3 x (h.below iw) hon 73 #[] #[.pointer (some ⟨w.heap.size,0,none⟩),.pointer (some ⟨w.heap.size+1,0,none⟩),.pointer (some ⟨w.heap.size+1+1,0,none⟩)] _ (enters_of Tryz.func73 (by kernel_rfl) rfl) rfl (fun e W w'=>e=ce∧w'.heap[w.heap.size+1+1]? =some (.cells #[.int .i64 cn] 3 (0,0))∧qF n p q F w W w' cx) (fun W hW=>by
  have q1:=(hW.block _ (by omega)).trans P1
  have q2:=(hW.block _ (by omega)).trans P2
  have q3:=(hW.block _ (by omega)).trans P3
  have d1:W.cell? ⟨w.heap.size,0,none⟩=some (.pointer (some ⟨n,0,none⟩)):=ai q1 0 rfl
  have d2:W.cell? ⟨w.heap.size+1,0,none⟩=some (.slice va vn vk):=ai q2 0 rfl
  have nT:=iw.trans (hW.mono (by omega))
  have zW:=hW.size
  have C1:=hide (CC W nT)
  have FIN:Hid (∀W4,dA n p q F W W4 cx→∃V,W4.setCell ⟨w.heap.size+1+1,0,none⟩ (.int .i64 cn)=V∧W4.cell? ⟨w.heap.size+1+1,0,none⟩=some (.int .i64 0)∧W4.frozen? ⟨w.heap.size+1+1,0,none⟩=false∧Hid (∃e,Ending.returned (.int .i64 ce)=.returned (.int .i64 e)∧(e==6)=false∧(∀g,w3.heap.size≤g→g<W.heap.size→V.heap[g]? =W.heap[g]?)∧W.heap.size≤V.heap.size∧e=ce∧V.heap[w.heap.size+1+1]? =some (.cells #[.int .i64 cn] 3 (0,0))∧qF n p q F w W V cx)):=hide fun W4 k=>by
   have k0:=k
   obtain⟨F',N',o',f'⟩:=k0
   have nl:∀g,w.heap.size≤g→¬(F g∨g=n):=fun g hg e=>by have:=lt g e;omega
   have q4:=(o'.block _ (by omega) (nl _ (by omega))).trans q3
   obtain⟨V,hV,bV,gV,fV⟩:=qI q4 0 (.int .i64 cn)
   refine⟨V,hV,ai q4 0 rfl,fV,hide ⟨ce,rfl,h6',fun g g1 g2=>?_,Nat.le_trans o'.size gV.size,rfl,bV,(k.toQ nT).put lt hw0 ⟨by omega,by omega⟩ gV⟩⟩
   rw[gV.block g (Nat.lt_of_lt_of_le g2 o'.size) (fun e=>by have:=Option.some.inj e;omega)]
   exact o'.block g g2 (nl g (by omega))
  clear q1 q2 q3 nT zW
  clear CC P1 P2 P3 b1 b2 b3 iw s1 s2 s3 hw1 hw2 hw3 h hR h3 h0 hon hv hf hl he h6 hce hcn hcx lt hw0 hW
  go_enter Tryz.func73,Tryz.ntmps73
  go_wp2_with fail
  refine C1.out.mono ?_
  rintro E W4 ⟨rfl,k⟩
  obtain⟨V,hV,e4,f4,RR⟩:=FIN.out W4 k
  clear C1 FIN k
  go_wp2
  go_ret
  exact RR.out)
 have CL:=hide CL
 have FIN:Hid (∀W W1 B w4,Below w3.heap.size w3 W→w3.heap.size≤B∧B<W.heap.size→W1.grownBy w4 (some B)→W1.heap[w.heap.size+1+1]? =some (.cells #[.int .i64 cn] 3 (0,0))→qF n p q F w W W1 cx→w4.heap[w.heap.size+1+1]? =some (.cells #[.int .i64 cn] 3 (0,0))∧dA n p q F w w4 cx):=hide fun W W1 B w4 hW hB g c k=>by
  have zW:=hW.size
  have k0:=k
  obtain⟨F',N',o',f'⟩:=k0
  exact⟨(g.block _ (aA c) (fun e=>by have:=Option.some.inj e;omega)).trans c,(k.put lt hw0 ⟨by omega,hB.2⟩ g).toS (by omega)⟩
 clear CC P2 P3 b1 b2 b3 iw s3 h hR h3 h0 hon hv hf hl he h6 hce hcn hcx lt hw0
 have d1:w3.cell? ⟨w.heap.size,0,none⟩=some (.pointer (some ⟨n,0,none⟩)):=ai P1 0 rfl
 clear P1
 go_enter Tryz.func28,Tryz.ntmps28
 go_wp2_with fail
 refine CL.out.mono ?_
 rintro E w4 ⟨e,rfl,W,W1,B,hW,hB,g,rfl,c,k⟩
 obtain⟨q4,N4⟩:=FIN.out W W1 B w4 hW hB g c k
 have RR:=hide N4
 have e4:w4.cell? ⟨w.heap.size+1+1,0,none⟩=some (.int .i64 cn):=ai q4 0 rfl
 have f4:=aB q4 0
 have u4:w4.setCell ⟨w.heap.size+1+1,0,none⟩ (.int .i64 cn)=w4:=aM q4 (j:=0) rfl
 clear CL FIN hW hB g c k q4 N4
 go_wp2
 refine bodyPost_ret (v:=.tuple #[.int .i64 cn,.int .i64 e]) (by simp[results,Tryz.results28,go_sem,e4]) rfl ?_
 exact⟨rfl,RR.out⟩
structure Nl (w0 w:World) (n p q:Nat) (F:Nat→Prop) (x:Ns):Prop where
 nd:Nd n p q F w x
 new:∀g,F g∨g=n→w0.heap.size≤g∧0<g
 aK:Below w0.heap.size w0 w
section
variable {w0 w w':World} {n p q m:Nat} {F:Nat→Prop} {x y:Ns} {e pa:Int}
theorem Nl.below (h:Nl w0 w n p q F x)(hb:Below w.heap.size w w'):Nl w0 w' n p q F x:=⟨h.nd.below hb,h.new,h.aK.trans (hb.mono h.aK.size)⟩
theorem Nl.step (h:Nl w0 w n p q F x)(k:dA n p q F w w' y):∃F',Nl w0 w' n p q F' y:=by
 obtain⟨F',k1,k2,k3⟩:=k
 have hs:=h.aK.size
 refine⟨F',k1,fun g hg=>?_,h.aK.trans (k2.below (fun g hg=>(h.new g hg).1) hs)⟩
 rcases hg with e|e
 ·rcases k3 g e with e|e
  ·exact h.new g (.inl e)
  ·have:=h.nd.st.gu.pos
   omega
 ·exact h.new g (.inr e)
theorem Nl.n0 (h:Nl w0 w n p q F x):¬F 0:=fun e=>by have:=(h.new 0 (.inl e)).2;omega
theorem kP (h:Nl w0 w n p q F x)(hp:fA m x e pa)(hm:m≤500)(o:Bm.Ov)(ho:fZ [o]):
  ∃V,w.alloc (.cells #[.bool o.p,.string o.k,.string o.v] 71)=V∧Hid (Calls Tryz.prog 28 #[.pointer (some ⟨n,0,none⟩),.slice (some ⟨w.heap.size,0,none⟩) 1 1] V fun E w'=>E=.returned (.tuple #[.int .i64 (if x.jK [o]=0 then x.s.l.length+1 else 0),.int .i64 (x.jK [o])])∧dA n p q F w w' (x.co [o])):=by
 obtain⟨V,hV,jE,aX,kK⟩:=sO 71 w #[.bool o.p,.string o.k,.string o.v] 1 [o] rfl rfl (by simp[maxLen])
 refine⟨V,hV,hide ?_⟩
 have hl:=h.below aX
 have h6:x.jK [o]≠6:=by
  by_cases hb:x.bar [o]=0
  ·rw[(hp.yes hm hb).1];simp
  ·rw[(hp.no hm hb).1,hp.bar hm]
   rcases Bm.acs [o]with g|g|g<;>rw[g]<;>simp
   split<;>simp
 refine(yg n p q F V x hl.nd (hp.rok hm) hp.t3 h.n0 hp.on _ [o] (fun W hW=>?_) ho (by simp) hp.i64 h6).mono ?_
 ·have k:bu 71 w.heap.size W (.slice (some ⟨w.heap.size,0,none⟩) 1 1) [o]:=dw kK fun g hg=>hW.block g (World.ownsRow.lt kK g hg).2 fun e=>by
   have a1:=(World.ownsRow.lt kK g hg).1
   have a2:=h.nd.lt g (.inl e)
   omega
  exact k.is
 ·rintro E w' ⟨rfl,k⟩
  exact⟨rfl,k.ahead aX⟩
theorem aeS (u t:Int)(hu:u=0∨u=1)(ht:1≤t∧t≤16)(hm:fC w0)(w1:World)(hq:w0.heap.size≤q)(h:Pk q (fun g=>g=q) w1 Dm.new)(hb:Below w0.heap.size w0 w1):
  Calls Tryz.prog 26 #[.int .i64 u,.int .i64 t,.pointer (some ⟨q,0,none⟩)] w1 fun E w'=>∃n p F,E=.returned (.tuple #[.pointer (some ⟨n,0,none⟩),.int .i64 0])∧Hid (Nl w0 w' n p q F (Ns.one u t (jI u))):=by
 have p0:=hm.pos
 refine(anR u t hu ht q w1 h (hm.below hb) (by omega)).mono ?_
 rintro E w' ⟨n,p,F,rfl,X⟩
 obtain⟨k1,k2,k3⟩:=X.out
 have hs:=hb.size
 refine⟨n,p,F,rfl,hide ⟨k1,fun g hg=>?_,hb.trans (k3.below (fun g e=>by omega) hs)⟩⟩
 rcases k2 g hg with e|e<;>omega
end
theorem mR (k v:ByteArray)(w:World):
  Calls Tryz.prog 29 #[.string k,.string v] w fun E w'=>E=.returned (.agg #[.bool true,.string k,.string v])∧Below w.heap.size w w':=by
 obtain⟨w1,hw1,s1,b1,P1⟩:=au w #[.bool false,.string ⟨#[]⟩,.string ⟨#[]⟩] 71
 obtain⟨V',hV',fu,dP,⟨a0,a1,a2⟩,⟨f0,f1,f2⟩,⟨z0,z1,z2⟩⟩:=fI P1 (.bool true) (.string k) (.string v)
 have BV:=hide (aF b1 dP (Nat.le_refl _) (by omega))
 clear b1 P1 fu dP s1
 go_enter Tryz.func29,Tryz.ntmps29
 go_wp2
 refine bodyPost_ret (v:=.agg #[.bool true,.string k,.string v]) (by simp[results,Tryz.results29,go_sem,z0,z1,z2]) rfl ?_
 exact⟨rfl,BV.out⟩
def oa:Bm.Ov:=⟨true,⟨#[97]⟩,⟨#[49]⟩⟩
def ob:Bm.Ov:=⟨true,⟨#[98]⟩,⟨#[50]⟩⟩
def od:Bm.Ov:=⟨false,⟨#[97]⟩,⟨#[]⟩⟩
theorem agx:fZ [oa]∧fZ [ob]∧fZ [od]:=by
 refine⟨fun o ho=>?_,fun o ho=>?_,fun o ho=>?_⟩<;>rw[List.mem_singleton.1 ho]<;>exact⟨by decide,by decide⟩
theorem ahk:Bm.cO [oa]=0∧Bm.cO [ob]=0∧Bm.cO [od]=0:=⟨by decide,by decide,by decide⟩
def n0:Ns:=Ns.one 0 2 (jI 0)
def n1:Ns:=n0.co [oa]
def n2:Ns:=n1.co [ob]
structure Cha:Prop where
 p0:fA 1 n0 1 0
 p1:fA 2 n1 1 0
 p2:fA 3 n2 1 0
 e0:n0.jK [oa]=0
 e1:n1.jK [ob]=0
 e2:n2.jK [od]=8
 x2:n2.co [od]=n2
 l0:n0.s.l.length=0
 l1:n1.s.l.length=1
 l2:n2.s.l.length=2
 a2:n2.a=0
 k2:n2.k=-1
 t2:n2.t=2
 f2:Sto.fold (Rst.gK n2.s)=Tm.app (Tm.app [] [oa]) [ob]
theorem cha:Cha:=by
 have p0:fA 1 n0 1 0:=arI 2 (by decide)
 obtain⟨c1,c2,c3⟩:=ahk
 have b0:n0.bar [oa]=0:=by
  rw[fA.bar p0 (by omega),if_neg (by rw[c1];simp)]
  rfl
 obtain⟨e0,p1,l1,a1,t1,k1,_,f1⟩:=p0.yes (by omega) b0
 have l1':n1.s.l.length=1:=by show(n0.co [oa]).s.l.length=1;rw[show(n0.co [oa]).s.l=_ from l1,List.length_append];rfl
 have a1:n1.a=0:=a1
 have t1:n1.t=2:=t1
 have k1:n1.k=-1:=k1
 have p1:fA 2 n1 1 0:=p1
 have b1:n1.bar [ob]=0:=by
  rw[p1.bar (by omega),if_neg (by rw[c2];simp),l1',a1,t1]
  rfl
 obtain⟨e1,p2,l2,a2,t2,k2,_,f2⟩:=p1.yes (by omega) b1
 have p2:fA 3 n2 1 0:=p2
 have l2':n2.s.l.length=2:=by
  show(n1.co [ob]).s.l.length=2
  rw[l2,List.length_append,l1']
  rfl
 have a2:n2.a=0:=a2.trans a1
 have t2:n2.t=2:=t2.trans t1
 have k2:n2.k=-1:=k2.trans k1
 have b2:n2.bar [od]=8:=by
  rw[p2.bar (by omega),if_neg (by rw[c3];simp),l2',a2,t2]
  rfl
 have f1:Sto.fold (Rst.gK n1.s)=Tm.app (Sto.fold (Rst.gK n0.s)) [oa]:=f1
 have f2:Sto.fold (Rst.gK n2.s)=Tm.app (Sto.fold (Rst.gK n1.s)) [ob]:=f2
 obtain⟨g1,g2⟩:=p2.no (l:=[od]) (by omega) (by rw[b2];simp)
 exact⟨p0,p1,p2,e0,e1,g1.trans b2,g2,rfl,l1',l2',a2,k2,t2,by rw[f2,f1];rfl⟩
theorem afQ (w:World)(hm:fC w):Calls Tryz.prog 27 #[] w fun E w'=>E=.returned (.bool true)∧Below w.heap.size w w':=by
 have HM:=hide hm
 have NW:=hide (q9 w)
 have CH:=hide cha
 have FO:=hide agx
 clear hm
 go_enter Tryz.func27,Tryz.ntmps27
 go_wp2_with fail
 refine NW.out.mono ?_
 rintro E w1 ⟨rfl,K1,B1⟩
 have OP:=hide (aeS (w0:=w) 0 2 (.inl rfl) (by decide) HM.out w1 (Nat.le_refl _) K1 B1)
 obtain⟨q,hq⟩:∃q,w.heap.size=q:=⟨_,rfl⟩
 rw[hq]at OP⊢
 clear NW K1 B1
 go_wp2_with fail
 refine OP.out.mono ?_
 rintro E w2 ⟨n,p,F,rfl,L2⟩
 have L2:Hid (Nl w w2 n p q F n0):=L2
 have PT:=hide (mR ⟨#[97]⟩ ⟨#[49]⟩ w2)
 clear OP
 go_wp2_with fail
 refine PT.out.mono ?_
 rintro E w3 ⟨rfl,b3⟩
 have L3:=L2.out.below b3
 obtain⟨V,hV,AD⟩:=kP L3 CH.out.p0 (by omega) oa FO.out.1
 rw[CH.out.e0,if_pos rfl,CH.out.l0]at AD
 simp only[oa]at hV
 have L3:=hide L3
 clear PT L2 b3
 go_wp2_with fail
 refine AD.out.mono ?_
 rintro E w4 ⟨rfl,K4⟩
 obtain⟨F4,L4⟩:=L3.out.step K4
 have L4:Hid (Nl w w4 n p q F4 n1):=hide L4
 have PT:=hide (mR ⟨#[98]⟩ ⟨#[50]⟩ w4)
 clear AD hV K4 L3
 go_wp2_with fail
 refine PT.out.mono ?_
 rintro E w5 ⟨rfl,b5⟩
 have L5:=L4.out.below b5
 obtain⟨V5,uK,AD⟩:=kP L5 CH.out.p1 (by omega) ob FO.out.2.1
 rw[CH.out.e1,if_pos rfl,CH.out.l1]at AD
 simp only[ob]at uK
 have L5:=hide L5
 clear PT L4 b5
 go_wp2_with fail
 refine AD.out.mono ?_
 rintro E w6 ⟨rfl,K6⟩
 obtain⟨F6,L6⟩:=L5.out.step K6
 clear K6 L5
 have L6:Hid (Nl w w6 n p q F6 n2):=hide L6
 obtain⟨V6,hV6,AD⟩:=kP L6.out CH.out.p2 (by omega) od FO.out.2.2
 rw[CH.out.e2,if_neg (by simp),CH.out.x2]at AD
 simp only[od]at hV6
 clear uK
 go_wp2_with fail
 refine AD.out.mono ?_
 rintro E w7 ⟨rfl,K7⟩
 obtain⟨F7,L7⟩:=L6.out.step K7
 clear K7 L6
 have L7:=hide L7
 have KN:=hide (alq n p q F7 w7 n2 L7.out.nd CH.out.k2)
 clear AD hV6
 go_wp2_with fail
 refine KN.out.mono ?_
 rintro E w8 ⟨rfl,rfl⟩
 have RD:=hide (acD n p q F7 w7 n2 L7.out.nd (CH.out.p2.rok (by omega)) CH.out.p2.on (CH.out.p2.rd (by omega)) ⟨#[97]⟩ (by decide))
 rw[CH.out.f2,show gv (Tm.app (Tm.app [] [oa]) [ob]) ⟨#[97]⟩=⟨#[49]⟩from rfl,show gp (Tm.app (Tm.app [] [oa]) [ob]) ⟨#[97]⟩=true from rfl]at RD
 clear KN
 go_wp2_with fail
 refine RD.out.mono ?_
 rintro E w9 ⟨rfl,b9⟩
 have L9:=hide (L7.out.below b9)
 have OU:=hide (adY n p q F7 w9 n2 L9.out.nd (CH.out.p2.rok (by omega)) (by rw[CH.out.p2.pg]))
 rw[CH.out.p2.out (by omega),CH.out.l2,CH.out.a2]at OU
 clear RD L7 b9
 go_wp2_with fail
 refine OU.out.mono ?_
 rintro E wa ⟨rfl,ba⟩
 have LA:=hide (L9.out.below ba)
 clear OU L9 ba
 go_wp2
 go_ret
 exact⟨rfl,LA.out.aK⟩
theorem acV (n p q A B:Nat)(F:Nat→Prop)(w:World)(x:Ns)(h:Nd n p q F w x)(hR:iV x.s)(h3:T3 x.s.d)(h0:¬F 0)(q0:w.heap[A]? =some (.cells #[.pointer (some ⟨n,0,none⟩)] 66 (0,0)))(q1:w.heap[B]? =some (.cells #[.int .i64 0] 3 (0,0)))(hA:¬F A∧A≠n)(hB:¬F B∧B≠n)(hAB:A≠B)
  (hok:Rol.fT x.s.p x.s.l.length=0→(Rst.bB x.s (Rol.pr x.s.p x.s.l.length)).1=0∧iV (Rst.bB x.s (Rol.pr x.s.p x.s.l.length)).2):
  Calls Tryz.prog 82 #[.pointer (some ⟨A,0,none⟩),.pointer (some ⟨B,0,none⟩)] w fun E w'=>E=.returned (.int .i64 (Rol.fT x.s.p x.s.l.length))∧∃W1,w'.heap[B]? =some (.cells #[.int .i64 (if Rol.fT x.s.p x.s.l.length=0 then(Rol.pr x.s.p x.s.l.length).e else 0)] 3 (0,0))∧W1.grownBy w' (some B)∧dA n p q F w W1 (if Rol.fT x.s.p x.s.l.length=0 then Ns.one x.u x.t (Rst.bB x.s (Rol.pr x.s.p x.s.l.length)).2 else x):=by
 obtain⟨y,hy⟩:∃y,x.s.p=y:=⟨_,rfl⟩
 obtain⟨en,hen⟩:∃en:Int,(x.s.l.length:Int)=en:=⟨_,rfl⟩
 have hlen:=hR.2
 have uM:gF y:=by rw[←hy];exact h.st.fit
 obtain⟨z,hz⟩:∃z,Rol.pr y en=z:=⟨_,rfl⟩
 obtain⟨ze,hze⟩:∃z,Rol.fT y en=z:=⟨_,rfl⟩
 have HV:∀y:Pm.Pg,vp y=.agg #[.int .i64 y.e,.int .u8 y.r,.int .i64 y.a,.int .u8 y.p,.int .i64 y.f,.int .i64 y.b]:=fun _=>rfl
 have PG:Hid (∀W,Below w.heap.size w W→Calls Tryz.prog 16 #[.pointer (some ⟨p,0,none⟩)] W fun E w'=>E=.returned (vp y)∧Below W.heap.size W w'):=hide fun W hW=>by
  rw[←hy]
  exact iZ p q F W x.s (h.below hW).st hR
 have EN:Hid (∀W,Below w.heap.size w W→Calls Tryz.prog 24 #[.pointer (some ⟨p,0,none⟩)] W fun E w'=>E=.returned (.int .i64 en)∧Below W.heap.size W w'):=hide fun W hW=>by
  rw[←hen]
  exact tJ p q F W x.s (h.below hW).st hR
 have PM:Hid (∀W,Below w.heap.size w W→Calls Tryz.prog 83 #[vp y,.int .i64 en] W fun E w'=>E=.returned (.tuple #[vp z,.int .i64 ze])∧Below W.heap.size W w'):=hide fun W hW=>by
  rw[←hz,←hze]
  exact ak2 y en W uM (h.below hW).st.gu (by unfold I64;omega)
 have SX:Hid (∀W,Below w.heap.size w W→W.cell? ⟨A,0,none⟩=some (.pointer (some ⟨n,0,none⟩))∧W.cell? ⟨n,3,none⟩=some (.pointer (some ⟨p,0,none⟩))):=hide fun W hW=>⟨ai ((hW.block _ (aA q0)).trans q0) 0 rfl,(h.below hW).cs.c3⟩
 rw[HV,HV]at PM
 rw[HV]at PG
 rw[hy,hen,hz,hze]at hok
 have EE:Hid (ze=0→∀W,Below w.heap.size w W→Calls Tryz.prog 84 #[.pointer (some ⟨n,0,none⟩),.agg #[.int .i64 z.e,.int .u8 z.r,.int .i64 z.a,.int .u8 z.p,.int .i64 z.f,.int .i64 z.b]] W fun E w'=>E=.returned (.int .i64 0)∧Hid (dA n p q F w w' (Ns.one x.u x.t (Rst.bB x.s z).2))∧∀g,g<W.heap.size→¬F g→g≠n→w'.heap[g]? =W.heap[g]?):=hide fun k W hW=>by
  have hfz:gF z:=by
   rw[←hz]
   exact aaO (Rol.atN (hze.trans k)).1
  refine(ahv n p q F W x (h.below hW) hR h3 h0 z hfz (hok k).1 (hok k).2).mono ?_
  rintro E w' ⟨rfl,N⟩
  have N0:=N
  obtain⟨F',a1,a2,a3⟩:=N0
  exact⟨rfl,hide (N.ahead hW),fun g g1 g2 g3=>a2.block g g1 fun e=>e.elim g2 g3⟩
 have SM:Hid (∀W,Below w.heap.size w W→dA n p q F w W x∧W.heap[B]? =some (.cells #[.int .i64 0] 3 (0,0))∧W.cell? ⟨A,0,none⟩=some (.pointer (some ⟨n,0,none⟩))):=hide fun W hW=>⟨dA.same h hW,(hW.block _ (aA q1)).trans q1,ai ((hW.block _ (aA q0)).trans q0) 0 rfl⟩
 have LT:=hide h.lt
 have HB:=hide (And.intro hA (And.intro hB (And.intro hAB (And.intro (aA q0) (aA q1)))))
 rw[hy,hen,hz,hze]
 obtain⟨zn,hzn⟩:∃k,(if ze=0 then z.e else 0)=k:=⟨_,rfl⟩
 obtain⟨zx,hzx⟩:∃k,(if ze=0 then Ns.one x.u x.t (Rst.bB x.s z).2 else x)=k:=⟨_,rfl⟩
 rw[hzn,hzx]
 have HZ:=hide (And.intro hzn hzx)
 clear h hR h3 h0 q0 q1 hA hB hAB hok hy hen hlen uM hz hze HV hzn hzx
 go_enter Tryz.func82,Tryz.ntmps82
 go_wp2_with fail
 go_cut [3,4]from 5 to 20 (fun v3 v4 wx=>∃X,v3=.pointer (some ⟨X,0,none⟩)∧v4=.int .i64 ze∧Hid (wx.heap[X]? =some (.cells (cp z) 46 (0,0))∧Below w.heap.size w wx∧w.heap.size≤X))
 case first=>
  obtain⟨W0,hW0⟩:∃x,w.drew=x:=⟨_,rfl⟩
  have D0:Hid (Below w.heap.size w W0):=hide (by rw[←hW0];exact(Below.refl _ _).drew)
  refine lS (ops:=(ay 1 Tryz.f82)) (S:=fun W=>W.cell? ⟨A,0,none⟩=some (.pointer (some ⟨n,0,none⟩))∧W.cell? ⟨n,3,none⟩=some (.pointer (some ⟨p,0,none⟩))) (by kernel_rfl) amF ?_
  rw[ars,hW0]
  refine aD (v:=?_) aoF (by kernel_rfl) (fun _ _ _ _ _ h=>h) (SX.out _ D0.out) rfl rfl (by rfl) ?_ ?_
  rotate_left 1
  ·intro w hS
   (try dsimp only at hS)
   go_simp
   all_goals with_reducible rfl
  simp only[Act.put,List.setIfInBounds_toArray,List.set_cons_zero,List.set_cons_succ]
  refine aD (v:=?_) amP (by kernel_rfl) (fun _ _ _ _ _ h=>h) (SX.out _ D0.out) rfl rfl (by rfl) ?_ ?_
  rotate_left 1
  ·intro w hS
   (try dsimp only at hS)
   go_simp
   all_goals with_reducible rfl
  simp only[Act.put,List.setIfInBounds_toArray,List.set_cons_zero,List.set_cons_succ]
  refine aD (v:=?_) al6 (by kernel_rfl) (fun _ _ _ _ _ h=>h) (SX.out _ D0.out) rfl rfl (by rfl) ?_ ?_
  rotate_left 1
  ·intro w hS
   (try dsimp only at hS)
   go_simp
   all_goals with_reducible rfl
  simp only[Act.put,List.setIfInBounds_toArray,List.set_cons_zero,List.set_cons_succ]
  refine aD (v:=?_) amN (by kernel_rfl) (fun _ _ _ _ _ h=>h) (SX.out _ D0.out) rfl rfl (by rfl) ?_ ?_
  rotate_left 1
  ·intro w hS
   (try dsimp only at hS)
   go_simp
   all_goals with_reducible rfl
  simp only[Act.put,List.setIfInBounds_toArray,List.set_cons_zero,List.set_cons_succ]
  refine aD (v:=?_) akA (by kernel_rfl) (fun _ _ _ _ _ h=>h) (SX.out _ D0.out) rfl rfl (by rfl) ?_ ?_
  rotate_left 1
  ·intro w hS
   (try dsimp only at hS)
   go_simp
   all_goals with_reducible rfl
  simp only[Act.put,List.setIfInBounds_toArray,List.set_cons_zero,List.set_cons_succ]
  refine aD (v:=?_) akV (by kernel_rfl) (fun _ _ _ _ _ h=>h) (SX.out _ D0.out) rfl rfl (by rfl) ?_ ?_
  rotate_left 1
  ·intro w hS
   (try dsimp only at hS)
   go_simp
   all_goals with_reducible rfl
  simp only[Act.put,List.setIfInBounds_toArray,List.set_cons_zero,List.set_cons_succ]
  refine aD (v:=?_) aiY (by kernel_rfl) (fun _ _ _ _ _ h=>h) (SX.out _ D0.out) rfl rfl (by rfl) ?_ ?_
  rotate_left 1
  ·intro w hS
   (try dsimp only at hS)
   go_simp
   all_goals with_reducible rfl
  simp only[Act.put,List.setIfInBounds_toArray,List.set_cons_zero,List.set_cons_succ]
  refine aD (v:=?_) aiv (by kernel_rfl) (fun _ _ _ _ _ h=>h) (SX.out _ D0.out) rfl rfl (by rfl) ?_ ?_
  rotate_left 1
  ·intro w hS
   (try dsimp only at hS)
   go_simp
   all_goals with_reducible rfl
  simp only[Act.put,List.setIfInBounds_toArray,List.set_cons_zero,List.set_cons_succ]
  refine aD (v:=?_) ahV (by kernel_rfl) (fun _ _ _ _ _ h=>h) (SX.out _ D0.out) rfl rfl (by rfl) ?_ ?_
  rotate_left 1
  ·intro w hS
   (try dsimp only at hS)
   go_simp
   all_goals with_reducible rfl
  simp only[Act.put,List.setIfInBounds_toArray,List.set_cons_zero,List.set_cons_succ]
  refine aD (v:=?_) afW (by kernel_rfl) (fun _ _ _ _ _ h=>h) (SX.out _ D0.out) rfl rfl (by rfl) ?_ ?_
  rotate_left 1
  ·intro w hS
   (try dsimp only at hS)
   go_simp
   all_goals with_reducible rfl
  simp only[Act.put,List.setIfInBounds_toArray,List.set_cons_zero,List.set_cons_succ]
  refine eX ai6 ?_ ?_
  ·refine aJ rfl (by rfl) (fun K hK=>?_)
   go_simp
   refine(PG.out _ D0.out).mono ?_
   rintro E U1 ⟨rfl,bU1⟩
   have D1:=hide (D0.out.trans (bU1.mono D0.out.size))
   clear bU1
   go_wp2_with fail
   refine hK.out _ _ (SX.out _ D1.out) ?_
   clear hK K
   try simp only[Act.put,List.setIfInBounds_toArray,List.set_cons_zero,List.set_cons_succ]
   refine eX ale ?_ ?_
   ·refine aJ rfl (by rfl) (fun K hK=>?_)
    go_simp
    refine(EN.out _ D1.out).mono ?_
    rintro E U2 ⟨rfl,bU2⟩
    have D2:=hide (D1.out.trans (bU2.mono D1.out.size))
    clear bU2
    go_wp2_with fail
    refine hK.out _ _ (SX.out _ D2.out) ?_
    clear hK K
    try simp only[Act.put,List.setIfInBounds_toArray,List.set_cons_zero,List.set_cons_succ]
    refine eX ak4 ?_ ?_
    ·refine aJ rfl (by rfl) (fun K hK=>?_)
     go_simp
     refine(PM.out _ D2.out).mono ?_
     rintro E U3 ⟨rfl,bU3⟩
     have D3:=hide (D2.out.trans (bU3.mono D2.out.size))
     clear bU3
     go_wp2_with fail
     refine hK.out _ _ (SX.out _ D3.out) ?_
     clear hK K
     try simp only[Act.put,List.setIfInBounds_toArray,List.set_cons_zero,List.set_cons_succ]
     refine aD (v:=?_) aeP (by kernel_rfl) (fun _ _ _ _ _ h=>h) (SX.out _ D3.out) rfl rfl (by rfl) ?_ ?_
     rotate_left 1
     ·intro w hS
      (try dsimp only at hS)
      go_simp
      all_goals with_reducible rfl
     simp only[Act.put,List.setIfInBounds_toArray,List.set_cons_zero,List.set_cons_succ]
     refine aD (v:=?_) acT (by kernel_rfl) (fun _ _ _ _ _ h=>h) (SX.out _ D3.out) rfl rfl (by rfl) ?_ ?_
     rotate_left 1
     ·intro w hS
      (try dsimp only at hS)
      go_simp
      all_goals with_reducible rfl
     simp only[Act.put,List.setIfInBounds_toArray,List.set_cons_zero,List.set_cons_succ]
     refine aD (v:=?_) acY (by kernel_rfl) (fun _ _ _ _ _ h=>h) (SX.out _ D3.out) rfl rfl (by rfl) ?_ ?_
     rotate_left 1
     ·intro w hS
      (try dsimp only at hS)
      go_simp
      all_goals with_reducible rfl
     simp only[Act.put,List.setIfInBounds_toArray,List.set_cons_zero,List.set_cons_succ]
     refine aN aiu ?_
     obtain⟨U4,hU4,sU4,bU4,qU4⟩:=au U3 #[.int .i64 0,.int .u8 0,.int .i64 0,.int .u8 0,.int .i64 0,.int .i64 0] 46
     have D4:=hide (D3.out.trans (bU4.mono D3.out.size))
     have Q4:=hide qU4
     have GX:=hide (D3.out.size)
     clear bU4 qU4 sU4
     refine aJ rfl (by rfl) (fun K hK=>?_)
     go_simp
     go_wp2_with fail
     refine hK.out _ _ (SX.out _ D4.out) ?_
     clear hK K
     try simp only[Act.put,List.setIfInBounds_toArray,List.set_cons_zero,List.set_cons_succ]
     refine aN mG ?_
     obtain⟨V,hV,pV,gV,⟨y0,y1,y2,y3,y4,y5⟩,fr,zz⟩:=fq Q4.out (.int .i64 z.e) (.int .u8 z.r) (.int .i64 z.a) (.int .u8 z.p) (.int .i64 z.f) (.int .i64 z.b)
     have f0:=fr 0;have f1:=fr 1;have f2:=fr 2;have f3:=fr 3;have f4:=fr 4;have f5:=fr 5
     have DV:=hide (aF D4.out gV GX.out D4.out.size)
     have PV:=hide pV
     clear gV pV fr zz
     refine aJ rfl (by rfl) (fun K hK=>?_)
     go_simp
     go_wp2_with fail
     refine hK.out _ _ (SX.out _ DV.out) ?_
     clear hK K
     try simp only[Act.put,List.setIfInBounds_toArray,List.set_cons_zero,List.set_cons_succ]
     refine aD (v:=?_) jX (by kernel_rfl) (fun _ _ _ _ _ h=>h) (SX.out _ DV.out) rfl rfl (by rfl) ?_ ?_
     rotate_left 1
     ·intro w hS
      (try dsimp only at hS)
      go_simp
      all_goals with_reducible rfl
     simp only[Act.put,List.setIfInBounds_toArray,List.set_cons_zero,List.set_cons_succ]
     refine bO wP ?_
     go_wp2_with fail
     go_meet
     case rel=>exact⟨_,rfl,rfl,hide ⟨PV.out,DV.out,GX.out⟩⟩
    ·obtain⟨U6,hU6,sU6,bU6,qU6⟩:=au U2 #[.int .i64 0,.int .u8 0,.int .i64 0,.int .u8 0,.int .i64 0,.int .i64 0] 46
     have D6:=hide (D2.out.trans (bU6.mono D2.out.size))
     have Q6:=hide qU6
     have GX:=hide (D2.out.size)
     clear bU6 qU6 sU6
     refine aJ rfl (by rfl) (fun K hK=>?_)
     go_simp
     go_wp2_with fail
     refine hK.out _ _ (SX.out _ D6.out) ?_
     clear hK K
     try simp only[Act.put,List.setIfInBounds_toArray,List.set_cons_zero,List.set_cons_succ]
     refine aN sj ?_
     refine aJ rfl (by rfl) (fun K hK=>?_)
     go_simp
     refine(PM.out _ D6.out).mono ?_
     rintro E U7 ⟨rfl,bU7⟩
     have D7:=hide (D6.out.trans (bU7.mono D6.out.size))
     have Q7:=hide ((bU7.block _ (aA Q6.out)).trans Q6.out)
     clear bU7
     go_wp2_with fail
     refine hK.out _ _ (SX.out _ D7.out) ?_
     clear hK K
     try simp only[Act.put,List.setIfInBounds_toArray,List.set_cons_zero,List.set_cons_succ]
     refine aD (v:=?_) nL (by kernel_rfl) (fun _ _ _ _ _ h=>h) (SX.out _ D7.out) rfl rfl (by rfl) ?_ ?_
     rotate_left 1
     ·intro w hS
      (try dsimp only at hS)
      go_simp
      all_goals with_reducible rfl
     simp only[Act.put,List.setIfInBounds_toArray,List.set_cons_zero,List.set_cons_succ]
     refine aD (v:=?_) nI (by kernel_rfl) (fun _ _ _ _ _ h=>h) (SX.out _ D7.out) rfl rfl (by rfl) ?_ ?_
     rotate_left 1
     ·intro w hS
      (try dsimp only at hS)
      go_simp
      all_goals with_reducible rfl
     simp only[Act.put,List.setIfInBounds_toArray,List.set_cons_zero,List.set_cons_succ]
     refine aD (v:=?_) nM (by kernel_rfl) (fun _ _ _ _ _ h=>h) (SX.out _ D7.out) rfl rfl (by rfl) ?_ ?_
     rotate_left 1
     ·intro w hS
      (try dsimp only at hS)
      go_simp
      all_goals with_reducible rfl
     simp only[Act.put,List.setIfInBounds_toArray,List.set_cons_zero,List.set_cons_succ]
     refine aN mG ?_
     obtain⟨V,hV,pV,gV,⟨y0,y1,y2,y3,y4,y5⟩,fr,zz⟩:=fq Q7.out (.int .i64 z.e) (.int .u8 z.r) (.int .i64 z.a) (.int .u8 z.p) (.int .i64 z.f) (.int .i64 z.b)
     have f0:=fr 0;have f1:=fr 1;have f2:=fr 2;have f3:=fr 3;have f4:=fr 4;have f5:=fr 5
     have DV:=hide (aF D7.out gV GX.out D7.out.size)
     have PV:=hide pV
     clear gV pV fr zz
     refine aJ rfl (by rfl) (fun K hK=>?_)
     go_simp
     go_wp2_with fail
     refine hK.out _ _ (SX.out _ DV.out) ?_
     clear hK K
     try simp only[Act.put,List.setIfInBounds_toArray,List.set_cons_zero,List.set_cons_succ]
     refine aD (v:=?_) jX (by kernel_rfl) (fun _ _ _ _ _ h=>h) (SX.out _ DV.out) rfl rfl (by rfl) ?_ ?_
     rotate_left 1
     ·intro w hS
      (try dsimp only at hS)
      go_simp
      all_goals with_reducible rfl
     simp only[Act.put,List.setIfInBounds_toArray,List.set_cons_zero,List.set_cons_succ]
     refine bO wP ?_
     go_wp2_with fail
     go_meet
     case rel=>exact⟨_,rfl,rfl,hide ⟨PV.out,DV.out,GX.out⟩⟩
   ·obtain⟨U9,hU9,sU9,bU9,qU9⟩:=au U1 #[.int .i64 0,.int .u8 0,.int .i64 0,.int .u8 0,.int .i64 0,.int .i64 0] 46
    have D9:=hide (D1.out.trans (bU9.mono D1.out.size))
    have Q9:=hide qU9
    have GX:=hide (D1.out.size)
    clear bU9 qU9 sU9
    refine aJ rfl (by rfl) (fun K hK=>?_)
    go_simp
    go_wp2_with fail
    refine hK.out _ _ (SX.out _ D9.out) ?_
    clear hK K
    try simp only[Act.put,List.setIfInBounds_toArray,List.set_cons_zero,List.set_cons_succ]
    refine aN aao ?_
    refine aJ rfl (by rfl) (fun K hK=>?_)
    go_simp
    refine(EN.out _ D9.out).mono ?_
    rintro E U10 ⟨rfl,yF⟩
    have D10:=hide (D9.out.trans (yF.mono D9.out.size))
    have Q10:=hide ((yF.block _ (aA Q9.out)).trans Q9.out)
    clear yF
    go_wp2_with fail
    refine hK.out _ _ (SX.out _ D10.out) ?_
    clear hK K
    try simp only[Act.put,List.setIfInBounds_toArray,List.set_cons_zero,List.set_cons_succ]
    refine aN sj ?_
    refine aJ rfl (by rfl) (fun K hK=>?_)
    go_simp
    refine(PM.out _ D10.out).mono ?_
    rintro E U11 ⟨rfl,aoU⟩
    have D11:=hide (D10.out.trans (aoU.mono D10.out.size))
    have Q11:=hide ((aoU.block _ (aA Q10.out)).trans Q10.out)
    clear aoU
    go_wp2_with fail
    refine hK.out _ _ (SX.out _ D11.out) ?_
    clear hK K
    try simp only[Act.put,List.setIfInBounds_toArray,List.set_cons_zero,List.set_cons_succ]
    refine aD (v:=?_) nL (by kernel_rfl) (fun _ _ _ _ _ h=>h) (SX.out _ D11.out) rfl rfl (by rfl) ?_ ?_
    rotate_left 1
    ·intro w hS
     (try dsimp only at hS)
     go_simp
     all_goals with_reducible rfl
    simp only[Act.put,List.setIfInBounds_toArray,List.set_cons_zero,List.set_cons_succ]
    refine aD (v:=?_) nI (by kernel_rfl) (fun _ _ _ _ _ h=>h) (SX.out _ D11.out) rfl rfl (by rfl) ?_ ?_
    rotate_left 1
    ·intro w hS
     (try dsimp only at hS)
     go_simp
     all_goals with_reducible rfl
    simp only[Act.put,List.setIfInBounds_toArray,List.set_cons_zero,List.set_cons_succ]
    refine aD (v:=?_) nM (by kernel_rfl) (fun _ _ _ _ _ h=>h) (SX.out _ D11.out) rfl rfl (by rfl) ?_ ?_
    rotate_left 1
    ·intro w hS
     (try dsimp only at hS)
     go_simp
     all_goals with_reducible rfl
    simp only[Act.put,List.setIfInBounds_toArray,List.set_cons_zero,List.set_cons_succ]
    refine aN mG ?_
    obtain⟨V,hV,pV,gV,⟨y0,y1,y2,y3,y4,y5⟩,fr,zz⟩:=fq Q11.out (.int .i64 z.e) (.int .u8 z.r) (.int .i64 z.a) (.int .u8 z.p) (.int .i64 z.f) (.int .i64 z.b)
    have f0:=fr 0;have f1:=fr 1;have f2:=fr 2;have f3:=fr 3;have f4:=fr 4;have f5:=fr 5
    have DV:=hide (aF D11.out gV GX.out D11.out.size)
    have PV:=hide pV
    clear gV pV fr zz
    refine aJ rfl (by rfl) (fun K hK=>?_)
    go_simp
    go_wp2_with fail
    refine hK.out _ _ (SX.out _ DV.out) ?_
    clear hK K
    try simp only[Act.put,List.setIfInBounds_toArray,List.set_cons_zero,List.set_cons_succ]
    refine aD (v:=?_) jX (by kernel_rfl) (fun _ _ _ _ _ h=>h) (SX.out _ DV.out) rfl rfl (by rfl) ?_ ?_
    rotate_left 1
    ·intro w hS
     (try dsimp only at hS)
     go_simp
     all_goals with_reducible rfl
    simp only[Act.put,List.setIfInBounds_toArray,List.set_cons_zero,List.set_cons_succ]
    refine bO wP ?_
    go_wp2_with fail
    go_meet
    case rel=>exact⟨_,rfl,rfl,hide ⟨PV.out,DV.out,GX.out⟩⟩
  ·obtain⟨U13,hU13,awu,as5,asR⟩:=au W0 #[.int .i64 0,.int .u8 0,.int .i64 0,.int .u8 0,.int .i64 0,.int .i64 0] 46
   have D13:=hide (D0.out.trans (as5.mono D0.out.size))
   have Q13:=hide asR
   have GX:=hide (D0.out.size)
   clear as5 asR awu
   refine aJ rfl (by rfl) (fun K hK=>?_)
   go_simp
   go_wp2_with fail
   refine hK.out _ _ (SX.out _ D13.out) ?_
   clear hK K
   try simp only[Act.put,List.setIfInBounds_toArray,List.set_cons_zero,List.set_cons_succ]
   refine aN ah6 ?_
   refine aJ rfl (by rfl) (fun K hK=>?_)
   go_simp
   refine(PG.out _ D13.out).mono ?_
   rintro E U14 ⟨rfl,amE⟩
   have D14:=hide (D13.out.trans (amE.mono D13.out.size))
   have Q14:=hide ((amE.block _ (aA Q13.out)).trans Q13.out)
   clear amE
   go_wp2_with fail
   refine hK.out _ _ (SX.out _ D14.out) ?_
   clear hK K
   try simp only[Act.put,List.setIfInBounds_toArray,List.set_cons_zero,List.set_cons_succ]
   refine aN aao ?_
   refine aJ rfl (by rfl) (fun K hK=>?_)
   go_simp
   refine(EN.out _ D14.out).mono ?_
   rintro E U15 ⟨rfl,al1⟩
   have D15:=hide (D14.out.trans (al1.mono D14.out.size))
   have Q15:=hide ((al1.block _ (aA Q14.out)).trans Q14.out)
   clear al1
   go_wp2_with fail
   refine hK.out _ _ (SX.out _ D15.out) ?_
   clear hK K
   try simp only[Act.put,List.setIfInBounds_toArray,List.set_cons_zero,List.set_cons_succ]
   refine aN sj ?_
   refine aJ rfl (by rfl) (fun K hK=>?_)
   go_simp
   refine(PM.out _ D15.out).mono ?_
   rintro E U16 ⟨rfl,anE⟩
   have D16:=hide (D15.out.trans (anE.mono D15.out.size))
   have Q16:=hide ((anE.block _ (aA Q15.out)).trans Q15.out)
   clear anE
   go_wp2_with fail
   refine hK.out _ _ (SX.out _ D16.out) ?_
   clear hK K
   try simp only[Act.put,List.setIfInBounds_toArray,List.set_cons_zero,List.set_cons_succ]
   refine aD (v:=?_) nL (by kernel_rfl) (fun _ _ _ _ _ h=>h) (SX.out _ D16.out) rfl rfl (by rfl) ?_ ?_
   rotate_left 1
   ·intro w hS
    (try dsimp only at hS)
    go_simp
    all_goals with_reducible rfl
   simp only[Act.put,List.setIfInBounds_toArray,List.set_cons_zero,List.set_cons_succ]
   refine aD (v:=?_) nI (by kernel_rfl) (fun _ _ _ _ _ h=>h) (SX.out _ D16.out) rfl rfl (by rfl) ?_ ?_
   rotate_left 1
   ·intro w hS
    (try dsimp only at hS)
    go_simp
    all_goals with_reducible rfl
   simp only[Act.put,List.setIfInBounds_toArray,List.set_cons_zero,List.set_cons_succ]
   refine aD (v:=?_) nM (by kernel_rfl) (fun _ _ _ _ _ h=>h) (SX.out _ D16.out) rfl rfl (by rfl) ?_ ?_
   rotate_left 1
   ·intro w hS
    (try dsimp only at hS)
    go_simp
    all_goals with_reducible rfl
   simp only[Act.put,List.setIfInBounds_toArray,List.set_cons_zero,List.set_cons_succ]
   refine aN mG ?_
   obtain⟨V,hV,pV,gV,⟨y0,y1,y2,y3,y4,y5⟩,fr,zz⟩:=fq Q16.out (.int .i64 z.e) (.int .u8 z.r) (.int .i64 z.a) (.int .u8 z.p) (.int .i64 z.f) (.int .i64 z.b)
   have f0:=fr 0;have f1:=fr 1;have f2:=fr 2;have f3:=fr 3;have f4:=fr 4;have f5:=fr 5
   have DV:=hide (aF D16.out gV GX.out D16.out.size)
   have PV:=hide pV
   clear gV pV fr zz
   refine aJ rfl (by rfl) (fun K hK=>?_)
   go_simp
   go_wp2_with fail
   refine hK.out _ _ (SX.out _ DV.out) ?_
   clear hK K
   try simp only[Act.put,List.setIfInBounds_toArray,List.set_cons_zero,List.set_cons_succ]
   refine aD (v:=?_) jX (by kernel_rfl) (fun _ _ _ _ _ h=>h) (SX.out _ DV.out) rfl rfl (by rfl) ?_ ?_
   rotate_left 1
   ·intro w hS
    (try dsimp only at hS)
    go_simp
    all_goals with_reducible rfl
   simp only[Act.put,List.setIfInBounds_toArray,List.set_cons_zero,List.set_cons_succ]
   refine bO wP ?_
   go_wp2_with fail
   go_meet
   case rel=>exact⟨_,rfl,rfl,hide ⟨PV.out,DV.out,GX.out⟩⟩
 case rest=>
 obtain⟨X,rfl,rfl,uF⟩:=hcut
 obtain⟨P1,b1,x1⟩:=uF.out
 obtain⟨N1,B1,a1⟩:=SM.out wc b1
 by_cases hk:ze≠0
 ·have hk':(ze==0)=false:=by simpa using hk
  have RR:Hid (∃W1,wc.heap[B]? =some (.cells #[.int .i64 zn] 3 (0,0))∧W1.grownBy wc (some B)∧dA n p q F w W1 zx):=hide (by
   rw[←HZ.out.1,←HZ.out.2,if_neg hk,if_neg hk]
   exact⟨wc,B1,World.grownBy.refl _ _,N1⟩)
  clear P1 b1 x1 N1 B1 a1 hk uF PG EN PM SX EE SM HB HZ
  go_wp2
  go_ret
  exact⟨rfl,RR.out⟩
 obtain rfl:ze=0:=Classical.not_not.1 hk
 unfold cp at P1
 obtain⟨g0,g1,g2,g3,g4,g5⟩:=aR P1
 have E1:=hide (EE.out rfl wc b1)
 have X1:Hid (X<wc.heap.size∧¬F X∧X≠n∧X≠B):=hide (by
  have hl:=LT.out
  have:=HB.out.2.2.2.2
  exact⟨aA P1,fun e=>by have:=hl X (.inl e);omega,fun e=>by have:=hl X (.inr e);omega,by omega⟩)
 have P1:=hide P1
 have BW:=hide (And.intro B1 b1.size)
 clear uF PG EN PM SX EE SM N1 hk b1 B1 x1
 go_wp2_with fail
 refine E1.out.mono ?_
 rintro E w2 ⟨rfl,N2,K2⟩
 obtain⟨hA,hB,hAB,la,lb⟩:=HB.out
 have zz:=BW.out.2
 have P2:=(K2 X X1.out.1 X1.out.2.1 X1.out.2.2.1).trans P1.out
 have Q2:=(K2 B (by omega) hB.1 hB.2).trans BW.out.1
 obtain⟨V,hV,bV,gV,fV⟩:=qI Q2 0 (.int .i64 z.e)
 have e2:w2.cell? ⟨B,0,none⟩=some (.int .i64 0):=ai Q2 0 rfl
 have g2':w2.cell? ⟨X,0,none⟩=some (.int .i64 z.e):=ai P2 0 rfl
 have RR:Hid (∃W1,V.heap[B]? =some (.cells #[.int .i64 zn] 3 (0,0))∧W1.grownBy V (some B)∧dA n p q F w W1 zx):=hide (by
  have k1:=HZ.out.1
  have k2:=HZ.out.2
  simp only[if_true]at k1 k2
  rw[←k1,←k2]
  exact⟨w2,bV,gV,N2.out⟩)
 clear E1 N2 K2 P1 BW X1 HB HZ zz hA hB hAB la lb P2 Q2 bV gV g0 g1 g2 g3 g4 g5 LT
 go_wp2
 go_ret
 exact⟨rfl,RR.out⟩
theorem vC (n p q:Nat)(F:Nat→Prop)(w:World)(x:Ns)(h:Nd n p q F w x)(hR:iV x.s)(h3:T3 x.s.d)(h0:¬F 0)(hon:x.s.d.on=true)
  (hok:Rol.fT x.s.p x.s.l.length=0→(Rst.bB x.s (Rol.pr x.s.p x.s.l.length)).1=0∧iV (Rst.bB x.s (Rol.pr x.s.p x.s.l.length)).2):
  Calls Tryz.prog 34 #[.pointer (some ⟨n,0,none⟩)] w fun E w'=>E=.returned (.tuple #[.int .i64 (if Rol.fT x.s.p x.s.l.length=0 then(Rol.pr x.s.p x.s.l.length).e else 0),.int .i64 (Rol.fT x.s.p x.s.l.length)])∧dA n p q F w w' (if Rol.fT x.s.p x.s.l.length=0 then Ns.one x.u x.t (Rst.bB x.s (Rol.pr x.s.p x.s.l.length)).2 else x):=by
 have kW:∀(fn:Fn) (first cap:Array Value) (w:World),(Instr.makeFunc fn first cap).run Tryz.prog w=.ok (.func fn first cap) w:=fun _ _ _ _=>rfl
 obtain⟨w1,hw1,s1,b1,P1⟩:=au w #[.pointer (some ⟨n,0,none⟩)] 66
 obtain⟨w2,hw2,s2,b2,P2⟩:=au w1 #[.int .i64 0] 3
 rw[s1]at P2
 have b02:Below w.heap.size w w2:=b1.trans (b2.mono (by omega))
 have P1:=(b2.block _ (by omega)).trans P1
 have lt:=h.lt
 have hw0:=h.st.gu.pos
 have h6:(Rol.fT x.s.p x.s.l.length==6)=false:=by
  have h8:Rol.fT x.s.p x.s.l.length≠6:=by
   unfold Rol.fT
   have:Pm.chk x.s.p=0∨Pm.chk x.s.p=2:=by unfold Pm.chk;split<;>simp
   repeat' split
   all_goals omega
  simpa using h8
 have nl:∀g,w.heap.size≤g→¬F g∧g≠n:=fun g hg=>⟨fun e=>by have:=lt g (.inl e);omega,fun e=>by have:=lt g (.inr e);omega⟩
 have CC:=fun W hW (hA:W.heap[w.heap.size]? =_) hB=>acV n p q w.heap.size (w.heap.size+1) F W x (h.below hW) hR h3 h0 hA hB (nl _ (Nat.le_refl _)) (nl _ (by omega)) (by omega) hok
 generalize (if Rol.fT x.s.p x.s.l.length=0 then(Rol.pr x.s.p x.s.l.length).e else 0)=cn at*
 generalize (if Rol.fT x.s.p x.s.l.length=0 then Ns.one x.u x.t (Rst.bB x.s (Rol.pr x.s.p x.s.l.length)).2 else x)=cx at*
 generalize Rol.fT x.s.p x.s.l.length=ce at*
 have CL:=qK n p q F w2 x (h.below b02) hon 82 #[] #[.pointer (some ⟨w.heap.size,0,none⟩),.pointer (some ⟨w.heap.size+1,0,none⟩)] _ (enters_of Tryz.func82 (by kernel_rfl) rfl) rfl (fun e W w'=>e=ce∧w'.heap[w.heap.size+1]? =some (.cells #[.int .i64 cn] 3 (0,0))∧qF n p q F w W w' cx) (fun W hW=>by
  have zW:=hW.size
  have nT:=b02.trans (hW.mono (by omega))
  refine(CC W nT ((hW.block _ (by omega)).trans P1) ((hW.block _ (by omega)).trans P2)).mono ?_
  rintro E w' ⟨rfl,W1,r1,r2,r3⟩
  have r0:=r3
  obtain⟨F',a1,a2,a3⟩:=r0
  refine⟨ce,rfl,h6,fun g g1 g2=>?_,Nat.le_trans a2.size r2.size,rfl,r1,(r3.toQ nT).put lt hw0 ⟨by omega,by omega⟩ r2⟩
  rw[r2.block g (Nat.lt_of_lt_of_le g2 a2.size) (fun e=>by have:=Option.some.inj e;omega)]
  exact a2.block g g2 fun e=>by have:=nl g (by omega);exact e.elim this.1 this.2)
 have CL:=hide CL
 have FIN:Hid (∀W W1 B w4,Below w2.heap.size w2 W→w2.heap.size≤B∧B<W.heap.size→W1.grownBy w4 (some B)→W1.heap[w.heap.size+1]? =some (.cells #[.int .i64 cn] 3 (0,0))→qF n p q F w W W1 cx→w4.heap[w.heap.size+1]? =some (.cells #[.int .i64 cn] 3 (0,0))∧dA n p q F w w4 cx):=hide fun W W1 B w4 hW hB g c k=>by
  have zW:=hW.size
  exact⟨(g.block _ (aA c) (fun e=>by have:=Option.some.inj e;omega)).trans c,(k.put lt hw0 ⟨by omega,hB.2⟩ g).toS (by omega)⟩
 have d1:w2.cell? ⟨w.heap.size,0,none⟩=some (.pointer (some ⟨n,0,none⟩)):=ai P1 0 rfl
 clear CC P1 P2 b1 b2 b02 s2 h hR h3 h0 hon hok lt hw0 h6 nl
 go_enter Tryz.func34,Tryz.ntmps34
 go_wp2_with fail
 refine CL.out.mono ?_
 rintro E w4 ⟨e,rfl,W,W1,B,hW,hB,g,rfl,c,k⟩
 obtain⟨q4,N4⟩:=FIN.out W W1 B w4 hW hB g c k
 have RR:=hide N4
 have e4:w4.cell? ⟨w.heap.size+1,0,none⟩=some (.int .i64 cn):=ai q4 0 rfl
 have f4:=aB q4 0
 have u4:w4.setCell ⟨w.heap.size+1,0,none⟩ (.int .i64 cn)=w4:=aM q4 (j:=0) rfl
 clear CL FIN hW hB g c k q4 N4
 go_wp2
 refine bodyPost_ret (v:=.tuple #[.int .i64 cn,.int .i64 e]) (by simp[results,Tryz.results34,go_sem,e4]) rfl ?_
 exact⟨rfl,RR.out⟩
end Go.Proofs.YtlmkaljjocflmaaGreatDoor
