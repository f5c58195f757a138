/- Texts. -/
import Derived.Test.YtlmkaljjocflmaaGreatDoorBH31
import Derived.Test.YtlmkaljjocflmaaGreatDoorBH1
set_option maxRecDepth 100000
set_option maxHeartbeats 8000000
set_option linter.unusedVariables false
open Go.Proofs.Tryz
namespace Go.Proofs.YtlmkaljjocflmaaGreatDoor
open Go.RowKit
def aaV (w:World) (bs:List Int) (E:Ending) (w':World):Prop:=
 ∃(m:Mw) (a:Nat) (bad:Bool),E=.returned (.tuple #[mv m,.int .i64 a,.int .i64 (fK bad)])∧Hid (bT w.heap.size w' m∧bQ m∧Rdd bs m.m a bad∧Below w.heap.size w w')
theorem ab2 {k:Nat}(h:k≤1048576):In64 (k:Int):=⟨by omega,by omega⟩
theorem ny {k e r n f p:Nat}{vs vc:Value}{ss:List Sm.S}{cs:List Cw}(h1:k≤3)(h2:e≤1048576)(h3:r≤3)(h4:n≤1048576)(h5:f≤1048576)(h6:p≤1048576)(h7:ss.length≤140737488355328)(h8:jH cs)(h9:cs.length≤140737488355328):bQ ⟨k,e,r,n,vs,ss,f,p,vc,cs⟩:=
 ⟨ab2 (by omega),ab2 (by omega),by simp,by simp;omega,ab2 (by omega),ab2 (by omega),ab2 (by omega),h7,h8,h9⟩
structure aAT (w:World) (B:Nat) (m:Mw) (a:Nat) (e:Int):Prop where
 s0:w.setCell ⟨B+1,0,none⟩ (.int .i64 m.k)=w
 s1:w.setCell ⟨B+1,1,none⟩ (.int .i64 m.e)=w
 s2:w.setCell ⟨B+1,2,none⟩ (.int .u8 m.r)=w
 s3:w.setCell ⟨B+1,3,none⟩ (.int .i64 m.n)=w
 s4:w.setCell ⟨B+1,4,none⟩ m.vs=w
 s5:w.setCell ⟨B+1,5,none⟩ (.int .i64 m.f)=w
 s6:w.setCell ⟨B+1,6,none⟩ (.int .i64 m.p)=w
 s7:w.setCell ⟨B+1,7,none⟩ m.vc=w
 sa:w.setCell ⟨B+2,0,none⟩ (.int .i64 a)=w
 se:w.setCell ⟨B+3,0,none⟩ (.int .i64 e)=w
theorem bP.sam {B:Nat}{w0 w:World}{vb:Value}{bs:List Int}{a:Nat}{bad:Bool}{m:Mw}(h:bP B w0 w vb bs a bad m):aAT w B m a (fK bad):=
 ⟨aK h.m (j:=0) rfl,aK h.m (j:=1) rfl,aK h.m (j:=2) rfl,aK h.m (j:=3) rfl,aK h.m (j:=4) rfl,aK h.m (j:=5) rfl,aK h.m (j:=6) rfl,aK h.m (j:=7) rfl,aK h.r.at' (j:=0) rfl,aK h.r.er (j:=0) rfl⟩
theorem bP.drewN {B:Nat}{w0 w:World}{vb:Value}{bs:List Int}{a:Nat}{bad:Bool}{m:Mw}(h:bP B w0 w vb bs a bad m)(n:Nat):bP B w0 (w.drewN n) vb bs a bad m:=h.below (below_drewN (Below.refl _ _) n)
theorem ayQ (vb:Value)(bs:List Int)(w:World)(hb:Is .u8 w vb bs)(hl:bs.length≤100000000000000)(a1:Nat)(b1:Bool)(S1:jO bs 3 0 false 3 a1 b1):
  Calls prog 209 #[vb] w (aaV w bs):=by
 obtain⟨ao,ln,cap,hv⟩:=hb.form
 subst hv
 obtain⟨w1,w2,w3,w4,w5,w6,hw1,hw2,hw3,hw4,aV,dA,bO,iK,iw,xQ,yh,jY,r6⟩:=pJ w _ bs hb
 have kQ:∀(fn:Fn) (first cap:Array Value) (w:World),(Instr.makeFunc fn first cap).run prog w=.ok (.func fn first cap) w:=fun _ _ _ _=>rfl
 have hst:=run_store prog w5 ⟨w.heap.size+4,0,none⟩ (.func (.func 273) #[] #[.pointer (some ⟨w.heap.size+3,0,none⟩),.pointer (some ⟨w.heap.size,0,none⟩),.pointer (some ⟨w.heap.size+2,0,none⟩)]) .plain rfl
 simp only[xQ,yh,jY]at hst
 simp only[Bool.false_eq_true,if_false]at hst
 obtain⟨u2,a2,b2,S2⟩:=gq bs 1048576 a1 b1
 have hu2:=fD S2
 have R6:=hide r6
 have cf:=r6.cf
 have X1:=hide S1
 have X2:=hide S2
 have G2:Hid (Mm.Go bs [3,(u2:Int)] a2 b2):=hide (Mm.fE (Mm.fE (Mm.uS bs) S1 Mm.ajD) S2 (Mm.ajv _))
 have O6:Hid (bT (w.heap.size+5) w6 fZ):=hide (bT.no _ _)
 have C1:=hide (dX w.heap.size w w6 _ bs 0 false 3 3 a1 b1 r6.r hl (by omega) S1)
 clear S1 S2 r6 hb
 go_enter func209,ntmps209
 go_wp2_with fail
 refine C1.out.mono ?_
 rintro E w7 ⟨rfl,H7⟩
 have R7:=hide (R6.out.step H7.out.1 H7.out.2)
 have O7:=hide (O6.out.wr H7.out.2)
 clear H7 C1 hw1 hw2 hw3 hw4 iw jY R6 O6 cf xQ yh hst
 obtain⟨w8,hw8⟩:∃V,w7.setCell ⟨w.heap.size+1,0,none⟩ (.int .i64 3)=V:=⟨_,rfl⟩
 have R8:Hid (bP w.heap.size w w8 (.slice ao ln cap) bs a1 b1 ⟨3,0,0,0,.slice none 0 0,[],0,0,.slice none 0 0,[]⟩):=hide (by rw[←hw8];exact R7.out.put 0 _ _ rfl)
 have O8:Hid (bT (w.heap.size+5) w8 fZ):=hide (by rw[←hw8];exact O7.out.set 0 _)
 obtain⟨c0,c1,c2,c3,c4,c5,c6,c7⟩:=dw R7.out.m
 have f0:=R7.out.fm 0
 have cf:=R8.out.cf
 have C2:=hide (dX w.heap.size w w8 _ bs a1 b1 1048576 u2 a2 b2 R8.out.r hl (by omega) X2.out)
 clear R7 O7
 go_wp2_with fail
 refine C2.out.mono ?_
 rintro E w9 ⟨rfl,H9⟩
 have R9:=hide (R8.out.step H9.out.1 H9.out.2)
 have O9:=hide (O8.out.wr H9.out.2)
 clear H9 C2 R8 O8 cf hw8 c0 c1 c2 c3 c4 c5 c6 c7 f0
 obtain⟨wA,oL⟩:∃V,w9.setCell ⟨w.heap.size+1,1,none⟩ (.int .i64 u2)=V:=⟨_,rfl⟩
 have RA:Hid (bP w.heap.size w wA (.slice ao ln cap) bs a2 b2 ⟨3,u2,0,0,.slice none 0 0,[],0,0,.slice none 0 0,[]⟩):=hide (by rw[←oL];exact R9.out.put 1 _ _ rfl)
 have OA:Hid (bT (w.heap.size+5) wA fZ):=hide (by rw[←oL];exact O9.out.set 1 _)
 obtain⟨c0,c1,c2,c3,c4,c5,c6,c7⟩:=dw R9.out.m
 obtain⟨d0,d1,d2,d3,d4,d5,d6,d7⟩:=dw RA.out.m
 have f1:=R9.out.fm 1
 obtain⟨u3,a3,b3,S3⟩:=gq bs 1048576 a2 b2
 have hu3:=fD S3
 have G3:Hid (Mm.Go bs [3,(u2:Int),(u3:Int)] a3 b3):=hide (Mm.fE G2.out S3 (Mm.azM _))
 have cf:=RA.out.cf
 have C3:=hide (dX w.heap.size w wA _ bs a2 b2 1048576 u3 a3 b3 RA.out.r hl (by omega) S3)
 clear R9 O9 S3
 go_wp2_with fail
 refine C3.out.mono ?_
 rintro E wB ⟨rfl,HB⟩
 have RB:=hide (RA.out.step HB.out.1 HB.out.2)
 have OB:=hide (OA.out.wr HB.out.2)
 clear HB C3 RA OA cf oL c0 c1 c2 c3 c4 c5 c6 c7 d0 d1 d2 d3 d4 d5 d6 d7 f1
 obtain⟨wC,hwC⟩:∃V,wB.setCell ⟨w.heap.size+1,3,none⟩ (.int .i64 u3)=V:=⟨_,rfl⟩
 have RC:Hid (bP w.heap.size w wC (.slice ao ln cap) bs a3 b3 ⟨3,u2,0,u3,.slice none 0 0,[],0,0,.slice none 0 0,[]⟩):=hide (by rw[←hwC];exact RB.out.put 3 _ _ rfl)
 have OC:Hid (bT (w.heap.size+5) wC fZ):=hide (by rw[←hwC];exact OB.out.set 3 _)
 obtain⟨c0,c1,c2,c3,c4,c5,c6,c7⟩:=dw RB.out.m
 have f3:=RB.out.fm 3
 obtain⟨wZ,nZ⟩:∃V,wC.drew=V:=⟨_,rfl⟩
 have RZ:Hid (bP w.heap.size w wZ (.slice ao ln cap) bs a3 b3 ⟨3,u2,0,u3,.slice none 0 0,[],0,0,.slice none 0 0,[]⟩):=hide (by rw[←nZ];exact RC.out.drewN 1)
 have HZ:Hid (bT w.heap.size wZ ⟨3,u2,0,u3,.slice none 0 0,[],0,0,.slice none 0 0,[]⟩∧bQ ⟨3,u2,0,u3,.slice none 0 0,[],0,0,.slice none 0 0,[]⟩∧Rdd bs (Mw.m ⟨3,u2,0,u3,.slice none 0 0,[],0,0,.slice none 0 0,[]⟩) a3 b3∧Below w.heap.size w wZ):=by
  refine⟨?_,ny (k:=3) (r:=0) (f:=0) (p:=0) (by omega) hu2 (by omega) hu3 (by omega) (by omega) (by simp) (fun c hc=>by simp at hc) (by simp),.inl ⟨?_,?_⟩,RZ.out.r.aI⟩
  ·have:=(OC.out.below (below_drewN (Below.refl _ _) 1)).bn (base':=w.heap.size) (by omega)
   rw[←nZ]
   exact⟨this.s,this.c,this.o,this.i,this.ap⟩
  ·have h1:=G3.out.c
   rw[Mm.sJ rfl]
   exact h1
  ·intro hb
   refine⟨?_,.inr (.inr ⟨rfl,rfl,rfl,rfl,rfl,rfl⟩)⟩
   rw[Mm.sJ rfl]
   rcases G3.out with⟨_,h,_⟩|⟨h,_⟩
   ·exact h
   ·rw[hb]at h;simp at h
 obtain⟨e0,e1,e2,e3,e4,e5,e6,e7⟩:=dw RZ.out.m
 have ea:=RZ.out.ca
 have ee:=RZ.out.ce
 obtain⟨s0,s1,s2,s3,s4,s5,s6,s7,sa,se⟩:=RZ.out.sam
 have z0:=RZ.out.fm 0
 have z1:=RZ.out.fm 1
 have z2:=RZ.out.fm 2
 have z3:=RZ.out.fm 3
 have z4:=RZ.out.fm 4
 have z5:=RZ.out.fm 5
 have z6:=RZ.out.fm 6
 have z7:=RZ.out.fm 7
 have za:=aA RZ.out.r.at' 0
 have ze:=aA RZ.out.r.er 0
 go_wp2
 go_region
 go_wp2
 refine bodyPost_ret (v:=.tuple #[.agg #[.int .i64 3,.int .i64 u2,.int .u8 0,.int .i64 u3,.slice none 0 0,.int .i64 0,.int .i64 0,.slice none 0 0],.int .i64 a3,.int .i64 (fK b3)]) (by simp[results,results209,go_sem,e0,e1,e2,e3,e4,e5,e6,e7,ea,ee]) rfl ?_
 exact⟨⟨3,u2,0,u3,.slice none 0 0,[],0,0,.slice none 0 0,[]⟩,a3,b3,rfl,HZ⟩
theorem awJ (vb:Value)(bs:List Int)(w:World)(hb:Is .u8 w vb bs)(hl:bs.length≤100000000000000)(a1:Nat)(b1:Bool)(S1:jO bs 3 0 false 0 a1 b1):
  Calls prog 209 #[vb] w (aaV w bs):=by
 obtain⟨ao,ln,cap,hv⟩:=hb.form
 subst hv
 obtain⟨w1,w2,w3,w4,w5,w6,hw1,hw2,hw3,hw4,aV,dA,bO,iK,iw,xQ,yh,jY,r6⟩:=pJ w _ bs hb
 have kQ:∀(fn:Fn) (first cap:Array Value) (w:World),(Instr.makeFunc fn first cap).run prog w=.ok (.func fn first cap) w:=fun _ _ _ _=>rfl
 have hst:=run_store prog w5 ⟨w.heap.size+4,0,none⟩ (.func (.func 273) #[] #[.pointer (some ⟨w.heap.size+3,0,none⟩),.pointer (some ⟨w.heap.size,0,none⟩),.pointer (some ⟨w.heap.size+2,0,none⟩)]) .plain rfl
 simp only[xQ,yh,jY]at hst
 simp only[Bool.false_eq_true,if_false]at hst
 obtain⟨u2,a2,b2,S2⟩:=gq bs 1048576 a1 b1
 have hu2:=fD S2
 have R6:=hide r6
 have cf:=r6.cf
 have X1:=hide S1
 have X2:=hide S2
 have G2:Hid (Mm.Go bs [0,(u2:Int)] a2 b2):=hide (Mm.fE (Mm.fE (Mm.uS bs) S1 Mm.ajD) S2 (Mm.ajv _))
 have O6:Hid (bT (w.heap.size+5) w6 fZ):=hide (bT.no _ _)
 have C1:=hide (dX w.heap.size w w6 _ bs 0 false 3 0 a1 b1 r6.r hl (by omega) S1)
 clear S1 S2 r6 hb
 go_enter func209,ntmps209
 go_wp2_with fail
 refine C1.out.mono ?_
 rintro E w7 ⟨rfl,H7⟩
 have R7:=hide (R6.out.step H7.out.1 H7.out.2)
 have O7:=hide (O6.out.wr H7.out.2)
 clear H7 C1 hw1 hw2 hw3 hw4 iw jY R6 O6 cf xQ yh hst
 obtain⟨w8,hw8⟩:∃V,w7.setCell ⟨w.heap.size+1,0,none⟩ (.int .i64 0)=V:=⟨_,rfl⟩
 have R8:Hid (bP w.heap.size w w8 (.slice ao ln cap) bs a1 b1 ⟨0,0,0,0,.slice none 0 0,[],0,0,.slice none 0 0,[]⟩):=hide (by rw[←hw8];exact R7.out.put 0 _ _ rfl)
 have O8:Hid (bT (w.heap.size+5) w8 fZ):=hide (by rw[←hw8];exact O7.out.set 0 _)
 obtain⟨c0,c1,c2,c3,c4,c5,c6,c7⟩:=dw R7.out.m
 have f0:=R7.out.fm 0
 have cf:=R8.out.cf
 have C2:=hide (dX w.heap.size w w8 _ bs a1 b1 1048576 u2 a2 b2 R8.out.r hl (by omega) X2.out)
 clear R7 O7
 go_wp2_with fail
 refine C2.out.mono ?_
 rintro E w9 ⟨rfl,H9⟩
 have R9:=hide (R8.out.step H9.out.1 H9.out.2)
 have O9:=hide (O8.out.wr H9.out.2)
 clear H9 C2 R8 O8 cf hw8 c0 c1 c2 c3 c4 c5 c6 c7 f0
 obtain⟨wA,oL⟩:∃V,w9.setCell ⟨w.heap.size+1,1,none⟩ (.int .i64 u2)=V:=⟨_,rfl⟩
 have RA:Hid (bP w.heap.size w wA (.slice ao ln cap) bs a2 b2 ⟨0,u2,0,0,.slice none 0 0,[],0,0,.slice none 0 0,[]⟩):=hide (by rw[←oL];exact R9.out.put 1 _ _ rfl)
 have OA:Hid (bT (w.heap.size+5) wA fZ):=hide (by rw[←oL];exact O9.out.set 1 _)
 obtain⟨c0,c1,c2,c3,c4,c5,c6,c7⟩:=dw R9.out.m
 obtain⟨d0,d1,d2,d3,d4,d5,d6,d7⟩:=dw RA.out.m
 have f1:=R9.out.fm 1
 obtain⟨wZ,nZ⟩:∃V,wA.drew=V:=⟨_,rfl⟩
 have RZ:Hid (bP w.heap.size w wZ (.slice ao ln cap) bs a2 b2 ⟨0,u2,0,0,.slice none 0 0,[],0,0,.slice none 0 0,[]⟩):=hide (by rw[←nZ];exact RA.out.drewN 1)
 have HZ:Hid (bT w.heap.size wZ ⟨0,u2,0,0,.slice none 0 0,[],0,0,.slice none 0 0,[]⟩∧bQ ⟨0,u2,0,0,.slice none 0 0,[],0,0,.slice none 0 0,[]⟩∧Rdd bs (Mw.m ⟨0,u2,0,0,.slice none 0 0,[],0,0,.slice none 0 0,[]⟩) a2 b2∧Below w.heap.size w wZ):=by
  refine⟨?_,ny (k:=0) (r:=0) (n:=0) (f:=0) (p:=0) (by omega) hu2 (by omega) (by omega) (by omega) (by omega) (by simp) (fun c hc=>by simp at hc) (by simp),.inr ⟨fun k=>by have:=Mm.yA (Mm.aeM k);simp[Mw.m]at this,Mm.atZ G2.out⟩,RZ.out.r.aI⟩
  ·have:=(OA.out.below (below_drewN (Below.refl _ _) 1)).bn (base':=w.heap.size) (by omega)
   rw[←nZ]
   exact⟨this.s,this.c,this.o,this.i,this.ap⟩
 obtain⟨e0,e1,e2,e3,e4,e5,e6,e7⟩:=dw RZ.out.m
 have ea:=RZ.out.ca
 have ee:=RZ.out.ce
 obtain⟨s0,s1,s2,s3,s4,s5,s6,s7,sa,se⟩:=RZ.out.sam
 have z0:=RZ.out.fm 0
 have z1:=RZ.out.fm 1
 have z2:=RZ.out.fm 2
 have z3:=RZ.out.fm 3
 have z4:=RZ.out.fm 4
 have z5:=RZ.out.fm 5
 have z6:=RZ.out.fm 6
 have z7:=RZ.out.fm 7
 have za:=aA RZ.out.r.at' 0
 have ze:=aA RZ.out.r.er 0
 go_wp2
 go_region
 go_wp2
 refine bodyPost_ret (v:=.tuple #[.agg #[.int .i64 0,.int .i64 u2,.int .u8 0,.int .i64 0,.slice none 0 0,.int .i64 0,.int .i64 0,.slice none 0 0],.int .i64 a2,.int .i64 (fK b2)]) (by simp[results,results209,go_sem,e0,e1,e2,e3,e4,e5,e6,e7,ea,ee]) rfl ?_
 exact⟨⟨0,u2,0,0,.slice none 0 0,[],0,0,.slice none 0 0,[]⟩,a2,b2,rfl,HZ⟩
theorem aki {P:Program}{ops:Array Oper}{o:Oper}{a:Act}{w:World}{K:Act→World→Prop}{Q:Exit→Act→World→Prop}{E:Prop}(hgd:o.guard=none)(x:Operand)(f:FuncId)(args:Array Operand)(ts:Array TypeId)(cap:Array Value)
  (ho:o.op=.call {callee:=.value x,args:=args,argTypes:=ts}) (hx:a.eval x=.func (.func f) #[] cap) (hent:∀args w,(callFunc f args).run P w=.ok (.enter f args) w) (vs:Array Value) (hvs:args.map a.eval=vs)
  {R:Value→World→Prop} (hc:Calls P f (vs++cap) w fun e w'=>∃v,e=.returned v∧R v w') (h:∀v w',R v w'→K (a.put o.dst v) w'):
  if Region.wanted o (yielded ops a.tmps)=true then Oper.wp P o a w K Q else E:=by
 have hw:Region.wanted o (yielded ops a.tmps)=true:=by simp[Region.wanted,hgd]
 rw[if_pos hw]
 unfold Oper.wp
 simp only[execOp,ho,resolve,invoke,Sem.run_bind,hvs,hx]
 simp only[Deferred.ofValue,Sem.run_pure,Result.andThen_ok,Array.empty_append,hent]
 rw[Oper.upon_enter]
 refine hc.mono ?_
 rintro e w' ⟨v,rfl,hr⟩
 exact h v w' hr
theorem bP.grown {B:Nat}{w0 w w':World}{vb:Value}{bs:List Int}{a:Nat}{bad:Bool}{m:Mw}(h:bP B w0 w vb bs a bad m){row:Option Nat}(hg:w.grownBy w' row)(hr:∀g,row=some g→B+5≤g):bP B w0 w' vb bs a bad m:=by
 have hl:=h.lt
 have k:∀i,i<B+5→w'.heap[i]? =w.heap[i]? :=fun i hi=>hg.block i (by omega) fun e=>by have:=hr i e.symm;omega
 exact⟨⟨h.r.zX,h.r.hB,h.r.aI.grown hg (by omega) (fun g e=>by have:=hr g e;omega),(k _ (by omega)).trans h.r.bx,(k _ (by omega)).trans h.r.at',(k _ (by omega)).trans h.r.er,h.r.le⟩,(k _ (by omega)).trans h.f,(k _ (by omega)).trans h.m⟩
theorem Tryz.adm:∀args w,(callFunc 273 args).run prog w=.ok (.enter 273 args) w:=enters_of func273 (by kernel_rfl) rfl
def az1 (B:Nat) (w0:World) (vb:Value) (bs:List Int) (u a':Nat) (bad':Bool) (w:World) (v:Value) (w':World):Prop:=v=.int .i64 u∧Hid (Rst B w0 w' vb bs a' bad'∧Out (Wr B) w w')
theorem acU (B:Nat)(w0 w:World)(vb:Value)(bs:List Int)(a:Nat)(bad:Bool)(most u a':Nat)(bad':Bool)(h:Rst B w0 w vb bs a bad)(hl:bs.length≤100000000000000)(hm:most<9223372036854775808)(hS:jO bs most a bad u a' bad'):
  Calls prog 273 (#[.int .i64 most]++#[.pointer (some ⟨B+3,0,none⟩),.pointer (some ⟨B,0,none⟩),.pointer (some ⟨B+2,0,none⟩)]) w fun E w'=>∃v,E=.returned v∧az1 B w0 vb bs u a' bad' w v w':=by
 have:=dX B w0 w vb bs a bad most u a' bad' h hl hm hS
 refine this.mono ?_
 rintro E w' ⟨rfl,H⟩
 exact⟨_,rfl,rfl,H⟩
def hm1 (e r n:Int) (vs:Value) (ss:List Sm.S):Mw:=⟨1,e,r,n,vs,ss,0,0,.slice none 0 0,[]⟩
theorem abj {base:Nat}{w:World}{e r n:Int}{vs:Value}{ss:List Sm.S}(h:oK base w vs ss):bT base w (hm1 e r n vs ss):=⟨h,bD.nil _ _ _,fun c hc=>by simp[hm1]at hc,fun c hc=>by simp[hm1]at hc,fun i j c d _ hc=>by simp[hm1]at hc⟩
theorem avw (vb:Value)(bs:List Int)(w:World)(hb:Is .u8 w vb bs)(hl:bs.length≤100000000000000)(a1:Nat)(b1:Bool)(S1:jO bs 3 0 false 1 a1 b1):
  Calls prog 209 #[vb] w (aaV w bs):=by
 obtain⟨ao,ln,cap,hv⟩:=hb.form
 subst hv
 obtain⟨w1,w2,w3,w4,w5,w6,hw1,hw2,hw3,hw4,aV,dA,bO,iK,iw,xQ,yh,jY,r6⟩:=pJ w _ bs hb
 have kQ:∀(fn:Fn) (first cap:Array Value) (w:World),(Instr.makeFunc fn first cap).run prog w=.ok (.func fn first cap) w:=fun _ _ _ _=>rfl
 have hst:=run_store prog w5 ⟨w.heap.size+4,0,none⟩ (.func (.func 273) #[] #[.pointer (some ⟨w.heap.size+3,0,none⟩),.pointer (some ⟨w.heap.size,0,none⟩),.pointer (some ⟨w.heap.size+2,0,none⟩)]) .plain rfl
 simp only[xQ,yh,jY]at hst
 simp only[Bool.false_eq_true,if_false]at hst
 obtain⟨u2,a2,b2,S2⟩:=gq bs 1048576 a1 b1
 have hu2:=fD S2
 have R6:=hide r6
 have cf:=r6.cf
 have X1:=hide S1
 have X2:=hide S2
 have G2:Hid (Mm.Go bs [1,(u2:Int)] a2 b2):=hide (Mm.fE (Mm.fE (Mm.uS bs) S1 Mm.ajD) S2 (Mm.ajv _))
 have O6:Hid (bT (w.heap.size+5) w6 fZ):=hide (bT.no _ _)
 have C1:=hide (dX w.heap.size w w6 _ bs 0 false 3 1 a1 b1 r6.r hl (by omega) S1)
 clear S1 S2 r6 hb
 go_enter func209,ntmps209
 go_wp2_with fail
 refine C1.out.mono ?_
 rintro E w7 ⟨rfl,H7⟩
 have R7:=hide (R6.out.step H7.out.1 H7.out.2)
 have O7:=hide (O6.out.wr H7.out.2)
 clear H7 C1 hw1 hw2 hw3 hw4 iw jY R6 O6 cf xQ yh hst
 obtain⟨w8,hw8⟩:∃V,w7.setCell ⟨w.heap.size+1,0,none⟩ (.int .i64 1)=V:=⟨_,rfl⟩
 have R8:Hid (bP w.heap.size w w8 (.slice ao ln cap) bs a1 b1 ⟨1,0,0,0,.slice none 0 0,[],0,0,.slice none 0 0,[]⟩):=hide (by rw[←hw8];exact R7.out.put 0 _ _ rfl)
 have O8:Hid (bT (w.heap.size+5) w8 fZ):=hide (by rw[←hw8];exact O7.out.set 0 _)
 obtain⟨c0,c1,c2,c3,c4,c5,c6,c7⟩:=dw R7.out.m
 have f0:=R7.out.fm 0
 have cf:=R8.out.cf
 have C2:=hide (dX w.heap.size w w8 _ bs a1 b1 1048576 u2 a2 b2 R8.out.r hl (by omega) X2.out)
 clear R7 O7
 go_wp2_with fail
 refine C2.out.mono ?_
 rintro E w9 ⟨rfl,H9⟩
 have R9:=hide (R8.out.step H9.out.1 H9.out.2)
 have O9:=hide (O8.out.wr H9.out.2)
 clear H9 C2 R8 O8 cf hw8 c0 c1 c2 c3 c4 c5 c6 c7 f0
 obtain⟨wA,oL⟩:∃V,w9.setCell ⟨w.heap.size+1,1,none⟩ (.int .i64 u2)=V:=⟨_,rfl⟩
 have RA:Hid (bP w.heap.size w wA (.slice ao ln cap) bs a2 b2 ⟨1,u2,0,0,.slice none 0 0,[],0,0,.slice none 0 0,[]⟩):=hide (by rw[←oL];exact R9.out.put 1 _ _ rfl)
 have OA:Hid (bT (w.heap.size+5) wA fZ):=hide (by rw[←oL];exact O9.out.set 1 _)
 obtain⟨c0,c1,c2,c3,c4,c5,c6,c7⟩:=dw R9.out.m
 obtain⟨d0,d1,d2,d3,d4,d5,d6,d7⟩:=dw RA.out.m
 have f1:=R9.out.fm 1
 obtain⟨u3,a3,b3,S3⟩:=gq bs 3 a2 b2
 obtain⟨u4,a4,b4,S4⟩:=gq bs 1048576 a3 b3
 obtain⟨u5,a5,b5,S5⟩:=gq bs 1048576 a4 b4
 have hu3:=fD S3
 have hu4:=fD S4
 have hu5:=fD S5
 have G5:Hid (Mm.Go bs ([1,(u2:Int),(u3:Int),(u4:Int),(u5:Int)]++Mm.fl []) a5 b5):=hide (by
  have:=Mm.fE (Mm.fE (Mm.fE G2.out S3 (Mm.azc _)) S4 (Mm.azk _ _)) S5 (Mm.ayX _ _ _)
  simpa[Mm.fl]using this)
 have X4:=hide S4
 have X5:=hide S5
 have cf:=RA.out.cf
 have C3:=hide (dX w.heap.size w wA _ bs a2 b2 3 u3 a3 b3 RA.out.r hl (by omega) S3)
 have hwr:IntKind.u8.wrap (u3:Int)=u3:=by
  unfold IntKind.wrap
  simp[IntKind.bits,IntKind.signed]
  omega
 clear R9 O9 S3 S4 S5
 go_wp2_with fail
 refine C3.out.mono ?_
 rintro E wB ⟨rfl,HB⟩
 have RB:=hide (RA.out.step HB.out.1 HB.out.2)
 clear HB C3 RA OA cf oL c0 c1 c2 c3 c4 c5 c6 c7 d0 d1 d2 d3 d4 d5 d6 d7 f1
 obtain⟨wC,hwC⟩:∃V,wB.setCell ⟨w.heap.size+1,2,none⟩ (.int .u8 u3)=V:=⟨_,rfl⟩
 have RC:Hid (bP w.heap.size w wC (.slice ao ln cap) bs a3 b3 (hm1 u2 u3 0 (.slice none 0 0) [])):=hide (by rw[←hwC];exact RB.out.put 2 _ _ rfl)
 obtain⟨c0,c1,c2,c3,c4,c5,c6,c7⟩:=dw RB.out.m
 have f2:=RB.out.fm 2
 have cf:=RC.out.cf
 have C4:=hide (dX w.heap.size w wC _ bs a3 b3 1048576 u4 a4 b4 RC.out.r hl (by omega) X4.out)
 clear RB
 go_wp2_with fail
 refine C4.out.mono ?_
 rintro E wD ⟨rfl,HD⟩
 have RD:=hide (RC.out.step HD.out.1 HD.out.2)
 clear HD C4 RC cf hwC c0 c1 c2 c3 c4 c5 c6 c7 f2
 obtain⟨wE,hwE⟩:∃V,wD.setCell ⟨w.heap.size+1,3,none⟩ (.int .i64 u4)=V:=⟨_,rfl⟩
 have RE:Hid (bP w.heap.size w wE (.slice ao ln cap) bs a4 b4 (hm1 u2 u3 u4 (.slice none 0 0) [])):=hide (by rw[←hwE];exact RD.out.put 3 _ _ rfl)
 obtain⟨c0,c1,c2,c3,c4,c5,c6,c7⟩:=dw RD.out.m
 have f3:=RD.out.fm 3
 have cf:=RE.out.cf
 have C5:=hide (dX w.heap.size w wE _ bs a4 b4 1048576 u5 a5 b5 RE.out.r hl (by omega) X5.out)
 clear RD
 go_wp2_with fail
 refine C5.out.mono ?_
 rintro E wF ⟨rfl,HF⟩
 have RF:=hide (RE.out.step HF.out.1 HF.out.2)
 clear HF C5 RE cf hwE c0 c1 c2 c3 c4 c5 c6 c7 f3
 go_wp2
 go_loopw [7] (fun lv wr=>∃(left a:Nat) (bad:Bool) (vs:Value) (ss:List Sm.S),lv=.int .i64 left∧left≤1048576∧Hid (ss.length+left=u5)∧Hid (bP w.heap.size w wr (.slice ao ln cap) bs a bad (hm1 u2 u3 u4 vs ss)∧oK (w.heap.size+5) wr vs ss)∧Hid (Mm.Go bs ([1,(u2:Int),(u3:Int),(u4:Int),(u5:Int)]++Mm.fl ss) a bad)) (fun lv _=>(intOf lv).toNat)
 case atStart=>exact⟨u5,a5,b5,_,[],rfl,hu5,hide (by simp),hide ⟨RF.out,eZ.nil _ _ _ _ _⟩,G5⟩
 case round=>
  clear RF G5
  obtain⟨left,a,bad,vs,ss,rfl,hlf,HL,HR,HG⟩:=hrel
  have ce:wr.cell? ⟨w.heap.size+3,0,none⟩=some (.int .i64 (fK bad)):=HR.out.1.ce
  obtain⟨xa,xl,xc,hvs⟩:∃x y z,vs=.slice x y z:=by
   obtain⟨x,z,hv,_,_⟩:=HR.out.2.row.shape
   exact⟨x,_,z,hv⟩
  subst hvs
  by_cases hcont:0<left∧bad=false
  ·obtain⟨hlt,rfl⟩:=hcont
   have hlt':(0:Int)<left:=by omega
   have hb0:fK false=0:=rfl
   rw[hb0]at ce
   obtain⟨p,aa,ba,SA⟩:=gq bs 1048576 a false
   obtain⟨q,ab,bb,SB⟩:=gq bs 1048576 aa ba
   have hp:=fD SA
   have hq:=fD SB
   have HG2:Hid (Mm.Go bs ([1,(u2:Int),(u3:Int),(u4:Int),(u5:Int)]++Mm.fl (ss++[((p:Int),(q:Int))])) ab bb):=hide (by
    have h1:=Mm.fE HG.out SA (Mm.asP _ _ _ _ _ (by rw[Mm.tC];have:=HL.out;omega))
    rw[List.append_assoc]at h1
    have h2:=Mm.fE h1 SB (Mm.asP _ _ _ _ _ (by rw[List.length_append,Mm.tC];have:=HL.out;simp;omega))
    rw[Mm.yF]
    simpa[Mm.fl]using h2)
   have RD1:=hide (HR.out.1.drewN 1)
   have OD1:Hid (oK (w.heap.size+5) (wr.drewN 1) (.slice xa xl xc) ss):=hide (vQ HR.out.2 (below_drewN (Below.refl _ _) 1))
   have C1:=hide (acU w.heap.size w (wr.drewN 1) _ bs a false 1048576 p aa ba RD1.out.r hl (by omega) SA)
   have C2:=hide (fun(W:World) (k:Rst w.heap.size w W (.slice ao ln cap) bs aa ba)=>acU w.heap.size w W _ bs aa ba 1048576 q ab bb k hl (by omega) SB)
   have cv:wr.cell? ⟨w.heap.size+1,4,none⟩=some (.slice xa xl xc):=HR.out.1.m.ei.c4
   have cf:=HR.out.1.cf
   have hll:=HL.out
   clear SA SB HG
   go_wp2_with fail
   go_region_law (first
    |(refine aki rfl (.tmp 40) 273 #[.const (.int .i64 1048576)] #[3] #[.pointer (some ⟨w.heap.size+3,0,none⟩),.pointer (some ⟨w.heap.size,0,none⟩),.pointer (some ⟨w.heap.size+2,0,none⟩)] rfl (by simp[Act.eval]) Tryz.adm #[.int .i64 1048576] (by simp[Act.eval]) C1.out ?_;rintro v1 z1 ⟨rfl,H1⟩;have R1:=hide (RD1.out.step H1.out.1 H1.out.2);have O1:Hid (oK (w.heap.size+5) z1 (.slice xa xl xc) ss):=hide ((abj (e:=0) (r:=0) (n:=0) OD1.out).wr H1.out.2).s;have cv1:z1.cell? ⟨w.heap.size+1,4,none⟩=some (.slice xa xl xc):=R1.out.m.ei.c4;have cf1:=R1.out.cf;clear H1)
    |(refine aki rfl (.tmp 42) 273 #[.const (.int .i64 1048576)] #[3] #[.pointer (some ⟨w.heap.size+3,0,none⟩),.pointer (some ⟨w.heap.size,0,none⟩),.pointer (some ⟨w.heap.size+2,0,none⟩)] rfl (by simp[Act.eval]) Tryz.adm #[.int .i64 1048576] (by simp[Act.eval]) (C2.out _ R1.out.r) ?_;rintro v2 z2 ⟨rfl,H2⟩;have R2:=hide (R1.out.step H2.out.1 H2.out.2);have O2:Hid (oK (w.heap.size+5) z2 (.slice xa xl xc) ss):=hide ((abj (e:=0) (r:=0) (n:=0) O1.out).wr H2.out.2).s;have cv2:z2.cell? ⟨w.heap.size+1,4,none⟩=some (.slice xa xl xc):=R2.out.m.ei.c4;have cf2:=R2.out.cf;obtain⟨z3,hz3,aoA,aC,bK⟩:=aoH z2 #[.int .i64 p,.int .i64 q] 1 [((p:Int),(q:Int))] rfl rfl (by simp[maxLen]);have R3:=hide (R2.out.below aC);have O3:=hide (vQ O2.out aC);have cv3:z3.cell? ⟨w.heap.size+1,4,none⟩=some (.slice xa xl xc):=R3.out.m.ei.c4;have RW3:=hide bK.row;have hl3:=R3.out.lt;clear H2 bK aC aoA)
    |(refine aaA kY 2 16 yQ (by decide) (by decide) (.agg #[.int .i64 0,.int .i64 0]) rfl rfl (.tmp 39) (.tmp 45) 24 rfl 119 (w.heap.size+5) underlying24 Tryz.atw _ ss (by simp[Act.eval]) O3.out _ [((p:Int),(q:Int))] (by simp[Act.eval]) RW3.out (ahx _) (by simp;omega) (by omega) ?_;intro v4 z4 bz qM;obtain⟨ya,yl,yc,hv4⟩:∃x y z,v4=.slice x y z:=(by obtain⟨x,z,hv,_,_⟩:=bz.row.shape;exact⟨x,_,z,hv⟩);subst hv4;have R4:=hide (R3.out.grown qM (fun g e=>(O3.out.lt g e).1));have O4:=hide bz;have cv4:z4.cell? ⟨w.heap.size+1,4,none⟩=some (.slice xa xl xc):=R4.out.m.ei.c4;have fr4:=R4.out.fm 4;clear bz qM))
   all_goals
    obtain⟨z5,zT⟩:∃V,z4.setCell ⟨w.heap.size+1,4,none⟩ (.slice ya yl yc)=V:=⟨_,rfl⟩
    have R5:Hid (bP w.heap.size w z5 (.slice ao ln cap) bs ab bb (hm1 u2 u3 u4 (.slice ya yl yc) (ss++[((p:Int),(q:Int))]))):=hide (by rw[←zT];exact R4.out.put 4 _ _ rfl)
    have O5:Hid (oK (w.heap.size+5) z5 (.slice ya yl yc) (ss++[((p:Int),(q:Int))])):=hide (by rw[←zT];exact((abj (e:=0) (r:=0) (n:=0) O4.out).set 4 _).s)
    clear R4 O4 R3 O3 R2 O2 R1 O1 C1 C2 RD1 OD1
    go_wp2
    go_roundw
    case rel=>exact⟨left-1,ab,bb,_,_,by rw[show((left-1:Nat):Int)=(left:Int)-1 by omega],by omega,hide (by rw[List.length_append];simp;omega),hide ⟨R5.out,O5.out⟩,HG2⟩
    case measure=>simp[intOf];omega
  ·have hend:Hid (bad=false→left=0):=hide fun h=>by
    rcases Nat.eq_zero_or_pos left with e|e
    ·exact e
    ·exact absurd ⟨e,h⟩ hcont
   have hsl:ss.length≤1048576:=by have:=HL.out;omega
   have RX:=hide HR.out.1
   have OX:Hid (bT (w.heap.size+5) wr (hm1 u2 u3 u4 (.slice xa xl xc) ss)):=hide (abj HR.out.2)
   by_cases hz:left=0
   ·have hz':¬(0:Int)<left:=by omega
    clear hcont
    obtain⟨wZ,nZ⟩:∃V,wr.drew=V:=⟨_,rfl⟩
    have RZ:Hid (bP w.heap.size w wZ (.slice ao ln cap) bs a bad ⟨1,u2,u3,u4,.slice xa xl xc,ss,0,0,.slice none 0 0,[]⟩):=hide (by rw[←nZ];exact RX.out.drewN 1)
    have HZ:Hid (bT w.heap.size wZ ⟨1,u2,u3,u4,.slice xa xl xc,ss,0,0,.slice none 0 0,[]⟩∧bQ ⟨1,u2,u3,u4,.slice xa xl xc,ss,0,0,.slice none 0 0,[]⟩∧Rdd bs (Mw.m ⟨1,u2,u3,u4,.slice xa xl xc,ss,0,0,.slice none 0 0,[]⟩) a bad∧Below w.heap.size w wZ):=by
     refine⟨?_,ny (k:=1) (f:=0) (p:=0) (by omega) hu2 hu3 hu4 (by omega) (by omega) (by show ss.length≤_;omega) (fun c hc=>by simp at hc) (by simp),.inl ⟨?_,?_⟩,RZ.out.r.aI⟩
     ·have:=(OX.out.below (below_drewN (Below.refl _ _) 1)).bn (base':=w.heap.size) (by omega)
      rw[←nZ]
      exact⟨this.s,this.c,this.o,this.i,this.ap⟩
     ·have h1:=HG.out
      rw[Mm.qj rfl]
      rcases h1 with⟨h2,h3⟩|h2
      ·have hz:=hend.out h2
       have hlz:=HL.out
       rw[hz]at hlz
       have:((ss.length:Int))=(u5:Int):=by omega
       show Mm.wm bs ([1,(u2:Int),(u3:Int),(u4:Int),(ss.length:Int)]++Mm.fl ss) [] a bad
       rw[this]
       exact HG.out.c
      ·exact .inr h2
     ·intro hb
      refine⟨?_,.inl ⟨rfl,rfl,rfl,rfl⟩⟩
      rw[Mm.qj rfl]
      have hz:=hend.out hb
      have hlz:=HL.out
      rw[hz]at hlz
      have:((ss.length:Int))=(u5:Int):=by omega
      show ∀z∈([1,(u2:Int),(u3:Int),(u4:Int),(ss.length:Int)]++Mm.fl ss),0≤z
      rw[this]
      rcases HG.out with⟨_,h,_⟩|⟨h,_⟩
      ·exact h
      ·rw[hb]at h;simp at h
    obtain⟨e0,e1,e2,e3,e4,e5,e6,e7⟩:=dw RZ.out.m
    have ea:=RZ.out.ca
    have ee:=RZ.out.ce
    obtain⟨s0,s1,s2,s3,s4,s5,s6,s7,sa,se⟩:=RZ.out.sam
    have z0:=RZ.out.fm 0
    have z1:=RZ.out.fm 1
    have z2:=RZ.out.fm 2
    have z3:=RZ.out.fm 3
    have z4:=RZ.out.fm 4
    have z5:=RZ.out.fm 5
    have z6:=RZ.out.fm 6
    have z7:=RZ.out.fm 7
    have za:=aA RZ.out.r.at' 0
    have ze:=aA RZ.out.r.er 0
    go_wp2
    go_region
    go_wp2
    refine bodyPost_ret (v:=.tuple #[.agg #[.int .i64 1,.int .i64 u2,.int .u8 u3,.int .i64 u4,.slice xa xl xc,.int .i64 0,.int .i64 0,.slice none 0 0],.int .i64 a,.int .i64 (fK bad)]) (by simp[results,results209,go_sem,e0,e1,e2,e3,e4,e5,e6,e7,ea,ee]) rfl ?_
    exact⟨⟨1,u2,u3,u4,.slice xa xl xc,ss,0,0,.slice none 0 0,[]⟩,a,bad,rfl,HZ⟩
   ·have hz':(0:Int)<left:=by omega
    have hbt:bad=true:=by
     cases bad
     ·exact absurd ⟨by omega,rfl⟩ hcont
     ·rfl
    subst hbt
    have hb5:fK true=5:=rfl
    rw[hb5]at ce
    clear hcont
    obtain⟨wZ,nZ⟩:∃V,wr.drew=V:=⟨_,rfl⟩
    have RZ:Hid (bP w.heap.size w wZ (.slice ao ln cap) bs a true ⟨1,u2,u3,u4,.slice xa xl xc,ss,0,0,.slice none 0 0,[]⟩):=hide (by rw[←nZ];exact RX.out.drewN 1)
    have HZ:Hid (bT w.heap.size wZ ⟨1,u2,u3,u4,.slice xa xl xc,ss,0,0,.slice none 0 0,[]⟩∧bQ ⟨1,u2,u3,u4,.slice xa xl xc,ss,0,0,.slice none 0 0,[]⟩∧Rdd bs (Mw.m ⟨1,u2,u3,u4,.slice xa xl xc,ss,0,0,.slice none 0 0,[]⟩) a true∧Below w.heap.size w wZ):=by
     refine⟨?_,ny (k:=1) (f:=0) (p:=0) (by omega) hu2 hu3 hu4 (by omega) (by omega) (by show ss.length≤_;omega) (fun c hc=>by simp at hc) (by simp),.inl ⟨?_,?_⟩,RZ.out.r.aI⟩
     ·have:=(OX.out.below (below_drewN (Below.refl _ _) 1)).bn (base':=w.heap.size) (by omega)
      rw[←nZ]
      exact⟨this.s,this.c,this.o,this.i,this.ap⟩
     ·have h1:=HG.out
      rw[Mm.qj rfl]
      rcases h1 with⟨h2,h3⟩|h2
      ·have hz:=hend.out h2
       have hlz:=HL.out
       rw[hz]at hlz
       have:((ss.length:Int))=(u5:Int):=by omega
       show Mm.wm bs ([1,(u2:Int),(u3:Int),(u4:Int),(ss.length:Int)]++Mm.fl ss) [] a true
       rw[this]
       exact HG.out.c
      ·exact .inr h2
     ·intro hb
      simp at hb
    obtain⟨e0,e1,e2,e3,e4,e5,e6,e7⟩:=dw RZ.out.m
    have ea:=RZ.out.ca
    have ee:=RZ.out.ce
    rw[hb5]at ee
    obtain⟨s0,s1,s2,s3,s4,s5,s6,s7,sa,se⟩:=RZ.out.sam
    rw[hb5]at se
    have z0:=RZ.out.fm 0
    have z1:=RZ.out.fm 1
    have z2:=RZ.out.fm 2
    have z3:=RZ.out.fm 3
    have z4:=RZ.out.fm 4
    have z5:=RZ.out.fm 5
    have z6:=RZ.out.fm 6
    have z7:=RZ.out.fm 7
    have za:=aA RZ.out.r.at' 0
    have ze:=aA RZ.out.r.er 0
    go_wp2
    go_region
    go_wp2
    refine bodyPost_ret (v:=.tuple #[.agg #[.int .i64 1,.int .i64 u2,.int .u8 u3,.int .i64 u4,.slice xa xl xc,.int .i64 0,.int .i64 0,.slice none 0 0],.int .i64 a,.int .i64 5]) (by simp[results,results209,go_sem,e0,e1,e2,e3,e4,e5,e6,e7,ea,ee]) rfl ?_
    exact⟨⟨1,u2,u3,u4,.slice xa xl xc,ss,0,0,.slice none 0 0,[]⟩,a,true,rfl,HZ⟩
theorem bP.base {B:Nat}{w0 w w':World}{vb:Value}{bs:List Int}{a:Nat}{bad:Bool}{m:Mw}(h:bP B w0 w vb bs a bad m)(hb:Below (B+5) w w'):bP B w0 w' vb bs a bad m:=
 ⟨⟨h.r.zX,h.r.hB,h.r.aI.trans (hb.mono (by omega)),(hb.block _ (by omega)).trans h.r.bx,(hb.block _ (by omega)).trans h.r.at',(hb.block _ (by omega)).trans h.r.er,h.r.le⟩,(hb.block _ (by omega)).trans h.f,(hb.block _ (by omega)).trans h.m⟩
def azS (B:Nat) (w0:World) (vb:Value) (bs:List Int) (a:Nat) (bad:Bool) (w:World) (v:Value) (w':World):Prop:=
 ∃(e n:Int) (xa:Option Addr) (xl xc:Nat) (l:List Bm.Ov) (a':Nat) (bad':Bool),v=.agg #[.int .i64 e,.int .i64 n,.slice xa xl xc]∧Hid (aT 71 w.heap.size w' (.slice xa xl xc) l∧Mm.vM bs a bad ⟨e,n,l⟩ a' bad'∧acJ e n l∧Rst B w0 w' vb bs a' bad'∧Out (Wr B) w w')
theorem awV (B:Nat)(w0 w:World)(vb:Value)(bs:List Int)(a:Nat)(bad:Bool)(h:Rst B w0 w vb bs a bad)(hn:Fnb B w)(hl:bs.length≤100000000000000):
  Calls prog 274 (#[]++#[.pointer (some ⟨B+4,0,none⟩),.pointer (some ⟨B,0,none⟩),.pointer (some ⟨B+2,0,none⟩),.pointer (some ⟨B+3,0,none⟩)]) w fun E w'=>∃v,E=.returned v∧azS B w0 vb bs a bad w v w':=by
 refine(aui B w0 w vb bs a bad h hn hl).mono ?_
 rintro E w' ⟨e,n,v,l,a',bad',rfl,H⟩
 obtain⟨xa,xc,hv,_,_⟩:=H.out.1.is.shape
 subst hv
 exact⟨_,rfl,e,n,xa,_,xc,l,a',bad',rfl,H⟩
theorem Tryz.alR:∀args w,(callFunc 274 args).run prog w=.ok (.enter 274 args) w:=enters_of func274 (by kernel_rfl) rfl
def sm2 (e f p:Int) (vc:Value) (cs:List Cw):Mw:=⟨2,e,0,0,.slice none 0 0,[],f,p,vc,cs⟩
theorem ax9 {b:Nat}{w:World}{e f p:Int}{vc:Value}{cs:List Cw}(h:lh b w vc cs):bT b w (sm2 e f p vc cs):=⟨eZ.nil _ _ _ _ _,h.c,h.o,h.i,h.ap⟩
theorem axP (vb:Value)(bs:List Int)(w:World)(hb:Is .u8 w vb bs)(hl:bs.length≤100000000000000)(a1:Nat)(b1:Bool)(S1:jO bs 3 0 false 2 a1 b1):
  Calls prog 209 #[vb] w (aaV w bs):=by
 obtain⟨ao,ln,cap,hv⟩:=hb.form
 subst hv
 obtain⟨w1,w2,w3,w4,w5,w6,hw1,hw2,hw3,hw4,aV,dA,bO,iK,iw,xQ,yh,jY,r6⟩:=pJ w _ bs hb
 have kQ:∀(fn:Fn) (first cap:Array Value) (w:World),(Instr.makeFunc fn first cap).run prog w=.ok (.func fn first cap) w:=fun _ _ _ _=>rfl
 have hst:=run_store prog w5 ⟨w.heap.size+4,0,none⟩ (.func (.func 273) #[] #[.pointer (some ⟨w.heap.size+3,0,none⟩),.pointer (some ⟨w.heap.size,0,none⟩),.pointer (some ⟨w.heap.size+2,0,none⟩)]) .plain rfl
 simp only[xQ,yh,jY]at hst
 simp only[Bool.false_eq_true,if_false]at hst
 obtain⟨u2,a2,b2,S2⟩:=gq bs 1048576 a1 b1
 have hu2:=fD S2
 have R6:=hide r6
 have cf:=r6.cf
 have X1:=hide S1
 have X2:=hide S2
 have G2:Hid (Mm.Go bs [2,(u2:Int)] a2 b2):=hide (Mm.fE (Mm.fE (Mm.uS bs) S1 Mm.ajD) S2 (Mm.ajv _))
 have O6:Hid (bT (w.heap.size+5) w6 fZ):=hide (bT.no _ _)
 have C1:=hide (dX w.heap.size w w6 _ bs 0 false 3 2 a1 b1 r6.r hl (by omega) S1)
 clear S1 S2 r6 hb
 go_enter func209,ntmps209
 go_wp2_with fail
 refine C1.out.mono ?_
 rintro E w7 ⟨rfl,H7⟩
 have R7:=hide (R6.out.step H7.out.1 H7.out.2)
 have O7:=hide (O6.out.wr H7.out.2)
 clear H7 C1 hw1 hw2 hw3 hw4 iw jY R6 O6 cf xQ yh hst
 obtain⟨w8,hw8⟩:∃V,w7.setCell ⟨w.heap.size+1,0,none⟩ (.int .i64 2)=V:=⟨_,rfl⟩
 have R8:Hid (bP w.heap.size w w8 (.slice ao ln cap) bs a1 b1 ⟨2,0,0,0,.slice none 0 0,[],0,0,.slice none 0 0,[]⟩):=hide (by rw[←hw8];exact R7.out.put 0 _ _ rfl)
 have O8:Hid (bT (w.heap.size+5) w8 fZ):=hide (by rw[←hw8];exact O7.out.set 0 _)
 obtain⟨c0,c1,c2,c3,c4,c5,c6,c7⟩:=dw R7.out.m
 have f0:=R7.out.fm 0
 have cf:=R8.out.cf
 have C2:=hide (dX w.heap.size w w8 _ bs a1 b1 1048576 u2 a2 b2 R8.out.r hl (by omega) X2.out)
 clear R7 O7
 go_wp2_with fail
 refine C2.out.mono ?_
 rintro E w9 ⟨rfl,H9⟩
 have R9:=hide (R8.out.step H9.out.1 H9.out.2)
 have O9:=hide (O8.out.wr H9.out.2)
 clear H9 C2 R8 O8 cf hw8 c0 c1 c2 c3 c4 c5 c6 c7 f0
 obtain⟨wA,oL⟩:∃V,w9.setCell ⟨w.heap.size+1,1,none⟩ (.int .i64 u2)=V:=⟨_,rfl⟩
 have RA:Hid (bP w.heap.size w wA (.slice ao ln cap) bs a2 b2 ⟨2,u2,0,0,.slice none 0 0,[],0,0,.slice none 0 0,[]⟩):=hide (by rw[←oL];exact R9.out.put 1 _ _ rfl)
 have OA:Hid (bT (w.heap.size+5) wA fZ):=hide (by rw[←oL];exact O9.out.set 1 _)
 obtain⟨c0,c1,c2,c3,c4,c5,c6,c7⟩:=dw R9.out.m
 obtain⟨d0,d1,d2,d3,d4,d5,d6,d7⟩:=dw RA.out.m
 have f1:=R9.out.fm 1
 obtain⟨u3,a3,b3,S3⟩:=gq bs 1048576 a2 b2
 obtain⟨u4,a4,b4,S4⟩:=gq bs 1048576 a3 b3
 obtain⟨u5,a5,b5,S5⟩:=gq bs 4 a4 b4
 have hu3:=fD S3
 have hu4:=fD S4
 have hu5:=fD S5
 have G5:Hid (Mm.wm bs [2,(u2:Int),(u3:Int),(u4:Int),(u5:Int)] (aD []) a5 b5):=hide (Mm.fE (Mm.fE (Mm.fE G2.out S3 (Mm.ay0 _)) S4 (Mm.aza _ _)) S5 (Mm.ay9 _ _ _)).c
 have X4:=hide S4
 have X5:=hide S5
 have cf:=RA.out.cf
 have C3:=hide (dX w.heap.size w wA _ bs a2 b2 1048576 u3 a3 b3 RA.out.r hl (by omega) S3)
 clear R9 O9 S3 S4 S5
 go_wp2_with fail
 refine C3.out.mono ?_
 rintro E wB ⟨rfl,HB⟩
 have RB:=hide (RA.out.step HB.out.1 HB.out.2)
 clear HB C3 RA OA cf oL c0 c1 c2 c3 c4 c5 c6 c7 d0 d1 d2 d3 d4 d5 d6 d7 f1
 obtain⟨wC,hwC⟩:∃V,wB.setCell ⟨w.heap.size+1,5,none⟩ (.int .i64 u3)=V:=⟨_,rfl⟩
 have RC:Hid (bP w.heap.size w wC (.slice ao ln cap) bs a3 b3 (sm2 u2 u3 0 (.slice none 0 0) [])):=hide (by rw[←hwC];exact RB.out.put 5 _ _ rfl)
 obtain⟨c0,c1,c2,c3,c4,c5,c6,c7⟩:=dw RB.out.m
 have f2:=RB.out.fm 5
 have cf:=RC.out.cf
 have C4:=hide (dX w.heap.size w wC _ bs a3 b3 1048576 u4 a4 b4 RC.out.r hl (by omega) X4.out)
 clear RB
 go_wp2_with fail
 refine C4.out.mono ?_
 rintro E wD ⟨rfl,HD⟩
 have RD:=hide (RC.out.step HD.out.1 HD.out.2)
 clear HD C4 RC cf hwC c0 c1 c2 c3 c4 c5 c6 c7 f2
 obtain⟨wE,hwE⟩:∃V,wD.setCell ⟨w.heap.size+1,6,none⟩ (.int .i64 u4)=V:=⟨_,rfl⟩
 have RE:Hid (bP w.heap.size w wE (.slice ao ln cap) bs a4 b4 (sm2 u2 u3 u4 (.slice none 0 0) [])):=hide (by rw[←hwE];exact RD.out.put 6 _ _ rfl)
 obtain⟨c0,c1,c2,c3,c4,c5,c6,c7⟩:=dw RD.out.m
 have f3:=RD.out.fm 6
 have cf:=RE.out.cf
 have C5:=hide (dX w.heap.size w wE _ bs a4 b4 4 u5 a5 b5 RE.out.r hl (by omega) X5.out)
 clear RD
 go_wp2_with fail
 refine C5.out.mono ?_
 rintro E wF ⟨rfl,HF⟩
 have RF:=hide (RE.out.step HF.out.1 HF.out.2)
 clear HF C5 RE cf hwE c0 c1 c2 c3 c4 c5 c6 c7 f3
 go_wp2
 go_loopw [8] (fun lv wr=>∃(left a:Nat) (bad:Bool) (vc:Value) (cs:List Cw),lv=.int .i64 left∧left≤4∧Hid (cs.length+left=u5)∧Hid (bP w.heap.size w wr (.slice ao ln cap) bs a bad (sm2 u2 u3 u4 vc cs)∧lh (w.heap.size+5) wr vc cs)∧Hid (Mm.wm bs [2,(u2:Int),(u3:Int),(u4:Int),(u5:Int)] (aD cs) a bad)) (fun lv _=>(intOf lv).toNat)
 case atStart=>exact⟨u5,a5,b5,_,[],rfl,hu5,hide (by simp),hide ⟨RF.out,lh.nil _ _⟩,G5⟩
 case round=>
  clear RF G5
  obtain⟨left,a,bad,vc,cs,rfl,hlf,HL,HR,HG⟩:=hrel
  have ce:wr.cell? ⟨w.heap.size+3,0,none⟩=some (.int .i64 (fK bad)):=HR.out.1.ce
  obtain⟨xa,xl,xc,hvs⟩:∃x y z,vc=.slice x y z:=by
   obtain⟨x,z,hv,_,_⟩:=HR.out.2.c.row.shape
   exact⟨x,_,z,hv⟩
  subst hvs
  by_cases hcont:0<left∧bad=false
  ·obtain⟨hlt,rfl⟩:=hcont
   have hlt':(0:Int)<left:=by omega
   have hb0:fK false=0:=rfl
   rw[hb0]at ce
   have RD1:=hide (HR.out.1.drewN 1)
   have OD1:Hid (lh (w.heap.size+5) (wr.drewN 1) (.slice xa xl xc) cs):=hide (HR.out.2.below (below_drewN (Below.refl _ _) 1))
   have C1:=hide (awV w.heap.size w (wr.drewN 1) _ bs a false RD1.out.r RD1.out.f hl)
   have cv:wr.cell? ⟨w.heap.size+1,7,none⟩=some (.slice xa xl xc):=HR.out.1.m.ei.c7
   have hll:=HL.out
   have hl5:=HR.out.1.lt
   have HLT:Hid (∀d∈cs,∀g,d.v.ownBlock=some g→g<(wr.drewN 1).heap.size):=hide fun d hd g hg=>(World.ownsRow.lt (OD1.out.o d hd) g hg).2
   have HL5:Hid (w.heap.size+5≤(wr.drewN 1).heap.size):=hide (by have:=RD1.out.lt;omega)
   go_wp2_with fail
   go_region_law (first
    |(refine aki rfl (.tmp 68) 274 #[] #[] #[.pointer (some ⟨w.heap.size+4,0,none⟩),.pointer (some ⟨w.heap.size,0,none⟩),.pointer (some ⟨w.heap.size+2,0,none⟩),.pointer (some ⟨w.heap.size+3,0,none⟩)] rfl (by simp[Act.eval,Act.put]) Tryz.alR #[] (by simp) C1.out ?_;rintro v1 z1 ⟨e,n,ya,yl,yc,l,a',bad',rfl,H1⟩;have R1:=hide (RD1.out.step H1.out.2.2.2.1 H1.out.2.2.2.2);have O1:=hide (OD1.out.out H1.out.2.2.2.2 (fun i hi=>by unfold Wr at hi;omega));have cv1:z1.cell? ⟨w.heap.size+1,7,none⟩=some (.slice xa xl xc):=R1.out.m.ei.c7;obtain⟨z3,hz3,aoA,aC,bK⟩:=kE 35 z1 #[.int .i64 e,.int .i64 n,.slice ya yl yc] 1 [⟨e,n,.slice ya yl yc,l⟩] rfl rfl (by simp[maxLen]);have R3:=hide (R1.out.below aC);have O3:=hide (O1.out.below aC);have W3:Hid (aT 71 (wr.drewN 1).heap.size z3 (.slice ya yl yc) l):=hide (H1.out.1.below aC);have cv3:z3.cell? ⟨w.heap.size+1,7,none⟩=some (.slice xa xl xc):=R3.out.m.ei.c7;have RW3:=hide bK.row;have hl3:=R3.out.lt;clear bK aC aoA)
    |(refine aas rfl (.tmp 67) (.tmp 70) 22 rfl 35 (w.heap.size+5) underlying22 Tryz.abH _ cs (by simp[Act.eval]) O3.out.c _ [⟨e,n,.slice ya yl yc,l⟩] (by simp[Act.eval]) RW3.out (by intro c hc;rw[List.mem_singleton.1 hc];rfl) (by simp;omega) (by omega) ?_;intro v4 z4 bz aL kp4;obtain⟨qa,ql,qc,hv4⟩:∃x y z,v4=.slice x y z:=(by obtain⟨x,z,hv,_,_⟩:=bz.row.shape;exact⟨x,_,z,hv⟩);subst hv4;have R4:=hide (R3.out.base aL);have O4:=hide (O3.out.snoc kp4 bz W3.out HL5.out HLT.out H1.out.2.2.1);have cv4:z4.cell? ⟨w.heap.size+1,7,none⟩=some (.slice xa xl xc):=R4.out.m.ei.c7;have fr4:=R4.out.fm 7;clear bz aL kp4))
   all_goals
    obtain⟨z5,zT⟩:∃V,z4.setCell ⟨w.heap.size+1,7,none⟩ (.slice qa ql qc)=V:=⟨_,rfl⟩
    have R5:Hid (bP w.heap.size w z5 (.slice ao ln cap) bs a' bad' (sm2 u2 u3 u4 (.slice qa ql qc) (cs++[⟨e,n,.slice ya yl yc,l⟩]))):=hide (by rw[←zT];exact R4.out.put 7 _ _ rfl)
    have O5:Hid (lh (w.heap.size+5) z5 (.slice qa ql qc) (cs++[⟨e,n,.slice ya yl yc,l⟩])):=hide (by rw[←zT];exact O4.out.out (F:=fun i=>i=w.heap.size+1) (Out.aM (ax z4 ⟨w.heap.size+1,7,none⟩ (.slice qa ql qc)) (fun i hi=>by simpa using hi.symm)) (fun i hi=>by omega))
    have HG2:Hid (Mm.wm bs [2,(u2:Int),(u3:Int),(u4:Int),(u5:Int)] (aD (cs++[⟨e,n,.slice ya yl yc,l⟩])) a' bad'):=hide (by
     have:=Mm.aoy HG.out H1.out.2.1 (by rw[dJ];omega)
     simpa[aD,Cw.c]using this)
    clear R4 O4 R3 O3 R1 O1 C1 RD1 OD1 H1 W3 HLT HL5
    go_wp2
    go_roundw
    case rel=>exact⟨left-1,a',bad',_,_,by rw[show((left-1:Nat):Int)=(left:Int)-1 by omega],by omega,hide (by rw[List.length_append];simp;omega),hide ⟨R5.out,O5.out⟩,HG2⟩
    case measure=>simp[intOf];omega
  ·have hend:Hid (bad=false→left=0):=hide fun h=>by
    rcases Nat.eq_zero_or_pos left with e|e
    ·exact e
    ·exact absurd ⟨e,h⟩ hcont
   have hsl:cs.length≤4:=by have:=HL.out;omega
   have RX:=hide HR.out.1
   have OX:Hid (bT (w.heap.size+5) wr (sm2 u2 u3 u4 (.slice xa xl xc) cs)):=hide (ax9 HR.out.2)
   by_cases hz:left=0
   ·have hz':¬(0:Int)<left:=by omega
    clear hcont
    obtain⟨wZ,nZ⟩:∃V,wr.drew=V:=⟨_,rfl⟩
    have RZ:Hid (bP w.heap.size w wZ (.slice ao ln cap) bs a bad ⟨2,u2,0,0,.slice none 0 0,[],u3,u4,.slice xa xl xc,cs⟩):=hide (by rw[←nZ];exact RX.out.drewN 1)
    have HZ:Hid (bT w.heap.size wZ ⟨2,u2,0,0,.slice none 0 0,[],u3,u4,.slice xa xl xc,cs⟩∧bQ ⟨2,u2,0,0,.slice none 0 0,[],u3,u4,.slice xa xl xc,cs⟩∧Rdd bs (Mw.m ⟨2,u2,0,0,.slice none 0 0,[],u3,u4,.slice xa xl xc,cs⟩) a bad∧Below w.heap.size w wZ):=by
     refine⟨?_,ny (k:=2) (r:=0) (n:=0) (by omega) hu2 (by omega) (by omega) hu3 hu4 (by simp) HR.out.2.f (by show cs.length≤_;omega),.inl ⟨?_,?_⟩,RZ.out.r.aI⟩
     ·have:=(OX.out.below (below_drewN (Below.refl _ _) 1)).bn (base':=w.heap.size) (by omega)
      rw[←nZ]
      exact⟨this.s,this.c,this.o,this.i,this.ap⟩
     ·have h1:=HG.out
      rw[Mm.qi rfl]
      show Mm.wm bs [2,(u2:Int),(u3:Int),(u4:Int),((aD cs).length:Int)] (aD cs) a bad
      rcases h1 with⟨h2,h3⟩|h2
      ·have hz:=hend.out h2
       have hlz:=HL.out
       rw[hz]at hlz
       rw[show(((aD cs).length:Int))=(u5:Int)by rw[dJ];omega]
       exact HG.out
      ·exact .inr h2
     ·intro hb
      rcases HG.out with⟨_,h,h',_⟩|⟨h,_⟩
      ·refine⟨?_,.inr (.inl ⟨rfl,rfl,rfl,rfl,h'⟩)⟩
       rw[Mm.qi rfl]
       have hz:=hend.out hb
       have hlz:=HL.out
       rw[hz]at hlz
       show ∀z∈[2,(u2:Int),(u3:Int),(u4:Int),((aD cs).length:Int)],0≤z
       rw[show(((aD cs).length:Int))=(u5:Int)by rw[dJ];omega]
       exact h
      ·rw[hb]at h;simp at h
    obtain⟨e0,e1,e2,e3,e4,e5,e6,e7⟩:=dw RZ.out.m
    have ea:=RZ.out.ca
    have ee:=RZ.out.ce
    obtain⟨s0,s1,s2,s3,s4,s5,s6,s7,sa,se⟩:=RZ.out.sam
    have z0:=RZ.out.fm 0
    have z1:=RZ.out.fm 1
    have z2:=RZ.out.fm 2
    have z3:=RZ.out.fm 3
    have z4:=RZ.out.fm 4
    have z5:=RZ.out.fm 5
    have z6:=RZ.out.fm 6
    have z7:=RZ.out.fm 7
    have za:=aA RZ.out.r.at' 0
    have ze:=aA RZ.out.r.er 0
    go_wp2
    go_region
    go_wp2
    refine bodyPost_ret (v:=.tuple #[.agg #[.int .i64 2,.int .i64 u2,.int .u8 0,.int .i64 0,.slice none 0 0,.int .i64 u3,.int .i64 u4,.slice xa xl xc],.int .i64 a,.int .i64 (fK bad)]) (by simp[results,results209,go_sem,e0,e1,e2,e3,e4,e5,e6,e7,ea,ee]) rfl ?_
    exact⟨⟨2,u2,0,0,.slice none 0 0,[],u3,u4,.slice xa xl xc,cs⟩,a,bad,rfl,HZ⟩
   ·have hz':(0:Int)<left:=by omega
    have hbt:bad=true:=by
     cases bad
     ·exact absurd ⟨by omega,rfl⟩ hcont
     ·rfl
    subst hbt
    have hb5:fK true=5:=rfl
    rw[hb5]at ce
    clear hcont
    obtain⟨wZ,nZ⟩:∃V,wr.drew=V:=⟨_,rfl⟩
    have RZ:Hid (bP w.heap.size w wZ (.slice ao ln cap) bs a true ⟨2,u2,0,0,.slice none 0 0,[],u3,u4,.slice xa xl xc,cs⟩):=hide (by rw[←nZ];exact RX.out.drewN 1)
    have HZ:Hid (bT w.heap.size wZ ⟨2,u2,0,0,.slice none 0 0,[],u3,u4,.slice xa xl xc,cs⟩∧bQ ⟨2,u2,0,0,.slice none 0 0,[],u3,u4,.slice xa xl xc,cs⟩∧Rdd bs (Mw.m ⟨2,u2,0,0,.slice none 0 0,[],u3,u4,.slice xa xl xc,cs⟩) a true∧Below w.heap.size w wZ):=by
     refine⟨?_,ny (k:=2) (r:=0) (n:=0) (by omega) hu2 (by omega) (by omega) hu3 hu4 (by simp) HR.out.2.f (by show cs.length≤_;omega),.inl ⟨?_,?_⟩,RZ.out.r.aI⟩
     ·have:=(OX.out.below (below_drewN (Below.refl _ _) 1)).bn (base':=w.heap.size) (by omega)
      rw[←nZ]
      exact⟨this.s,this.c,this.o,this.i,this.ap⟩
     ·have h1:=HG.out
      rw[Mm.qi rfl]
      show Mm.wm bs [2,(u2:Int),(u3:Int),(u4:Int),((aD cs).length:Int)] (aD cs) a true
      rcases h1 with⟨h2,h3⟩|h2
      ·have hz:=hend.out h2
       have hlz:=HL.out
       rw[hz]at hlz
       rw[show(((aD cs).length:Int))=(u5:Int)by rw[dJ];omega]
       exact HG.out
      ·exact .inr h2
     ·intro hb
      simp at hb
    obtain⟨e0,e1,e2,e3,e4,e5,e6,e7⟩:=dw RZ.out.m
    have ea:=RZ.out.ca
    have ee:=RZ.out.ce
    rw[hb5]at ee
    obtain⟨s0,s1,s2,s3,s4,s5,s6,s7,sa,se⟩:=RZ.out.sam
    rw[hb5]at se
    have z0:=RZ.out.fm 0
    have z1:=RZ.out.fm 1
    have z2:=RZ.out.fm 2
    have z3:=RZ.out.fm 3
    have z4:=RZ.out.fm 4
    have z5:=RZ.out.fm 5
    have z6:=RZ.out.fm 6
    have z7:=RZ.out.fm 7
    have za:=aA RZ.out.r.at' 0
    have ze:=aA RZ.out.r.er 0
    go_wp2
    go_region
    go_wp2
    refine bodyPost_ret (v:=.tuple #[.agg #[.int .i64 2,.int .i64 u2,.int .u8 0,.int .i64 0,.slice none 0 0,.int .i64 u3,.int .i64 u4,.slice xa xl xc],.int .i64 a,.int .i64 5]) (by simp[results,results209,go_sem,e0,e1,e2,e3,e4,e5,e6,e7,ea,ee]) rfl ?_
    exact⟨⟨2,u2,0,0,.slice none 0 0,[],u3,u4,.slice xa xl xc,cs⟩,a,true,rfl,HZ⟩
theorem amE (vb:Value)(bs:List Int)(w:World)(hb:Is .u8 w vb bs)(hl:bs.length≤100000000000000):Calls prog 209 #[vb] w (aaV w bs):=by
 obtain⟨u,a1,b1,S1⟩:=gq bs 3 0 false
 have:=fD S1
 rcases(show u=0∨u=1∨u=2∨u=3 by omega)with rfl|rfl|rfl|rfl
 ·exact awJ vb bs w hb hl a1 b1 S1
 ·exact avw vb bs w hb hl a1 b1 S1
 ·exact axP vb bs w hb hl a1 b1 S1
 ·exact ayQ vb bs w hb hl a1 b1 S1
end Go.Proofs.YtlmkaljjocflmaaGreatDoor
