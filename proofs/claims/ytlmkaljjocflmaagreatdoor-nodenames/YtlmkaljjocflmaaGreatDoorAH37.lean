/- Texts of one layer, one behind the other. -/
import Derived.Test.YtlmkaljjocflmaaGreatDoorAH30
import Derived.Test.YtlmkaljjocflmaaGreatDoorAH35
import Derived.Test.YtlmkaljjocflmaaGreatDoorAH31
import Derived.Test.YtlmkaljjocflmaaGreatDoorAH27
set_option maxRecDepth 100000
set_option maxHeartbeats 8000000
namespace Go.Proofs.YtlmkaljjocflmaaGreatDoor
open Go.RowKit
set_option linter.unusedVariables false
theorem afr (n p q:Nat)(F:Nat→Prop)(w:World)(x:Ns)(h:Nd n p q F w x)(hR:iV x.s)(hon:x.s.d.on=true)(vb:Value)(mm:Mm.Msg)(hb:Is .u8 w vb (Mm.enc mm))(hok:Mm.Ok mm)(hl:(Mm.enc mm).length≤100000000000000)(he:In64 x.s.p.e)(hk:In64 x.k)(hr:x.s.p.r=1)(hm:mm.k=3)(hme:mm.e=x.s.p.e)(hhe:Rol.uC x.s.p x.s.p.e=0):
  Calls Tryz.prog 31 #[.pointer (some ⟨n,0,none⟩),vb] w fun E w'=>E=.returned (.tuple #[.slice none 0 0,.int .i64 0])∧dA n p q F w w' (x.kE 0 mm):=by
 have kW:∀(fn:Fn) (first cap:Array Value) (w:World),(Instr.makeFunc fn first cap).run Tryz.prog w=.ok (.func fn first cap) w:=fun _ _ _ _=>rfl
 obtain⟨va,vn,vk,rfl⟩:∃a n k,vb=.slice a n k:=by
  obtain⟨a,k,e,_,_⟩:=hb.shape
  exact⟨_,_,_,e⟩
 obtain⟨w1,hw1,s1,b1,P1⟩:=au w #[.pointer (some ⟨n,0,none⟩)] 66
 obtain⟨w2,hw2,s2,b2,P2⟩:=au w1 #[.slice va vn vk] 61
 obtain⟨w3,hw3,s3,b3,P3⟩:=au w2 #[.slice none 0 0] 75
 rw[s1]at P2
 rw[s2,s1]at P3
 have iw:Below w.heap.size w w3:=(b1.trans (b2.mono (by omega))).trans (b3.mono (by omega))
 have P1:=(b3.block _ (by omega)).trans ((b2.block _ (by omega)).trans P1)
 have P2:=(b3.block _ (by omega)).trans P2
 have lt:=h.lt
 have hw0:=h.st.gu.pos
 obtain⟨cx,hcx⟩:∃z,x.kE 0 mm=z:=⟨_,rfl⟩
 have CC:=fun W hW=>adO n p q F W x (h.below hW) hR (.slice va vn vk) mm (hb.below hW) hok hl he hk hr hm hme hhe
 rw[hcx]at CC
 rw[hcx]
 have CL:=qK n p q F w3 x (h.below iw) hon 76 #[] #[.pointer (some ⟨w.heap.size,0,none⟩),.pointer (some ⟨w.heap.size+1,0,none⟩),.pointer (some ⟨w.heap.size+1+1,0,none⟩)] _ (enters_of Tryz.func76 (by kernel_rfl) rfl) rfl (fun e W w'=>e=0∧w'.heap[w.heap.size+1+1]? =some (.cells #[.slice none 0 0] 75 (0,0))∧qF n p q F w W w' cx) (fun W hW=>by
  have q1:=(hW.block _ (by omega)).trans P1
  have q2:=(hW.block _ (by omega)).trans P2
  have q3:=(hW.block _ (by omega)).trans P3
  have d1:W.cell? ⟨w.heap.size,0,none⟩=some (.pointer (some ⟨n,0,none⟩)):=ai q1 0 rfl
  have d2:W.cell? ⟨w.heap.size+1,0,none⟩=some (.slice va vn vk):=ai q2 0 rfl
  have nT:=iw.trans (hW.mono (by omega))
  have zW:=hW.size
  have C1:=hide (CC W nT)
  have FIN:Hid (∀W4,dA n p q F W W4 cx→∃V,W4.setCell ⟨w.heap.size+1+1,0,none⟩ (.slice none 0 0)=V∧W4.cell? ⟨w.heap.size+1+1,0,none⟩=some (.slice none 0 0)∧W4.frozen? ⟨w.heap.size+1+1,0,none⟩=false∧Hid (∃e,Ending.returned (.int .i64 0)=.returned (.int .i64 e)∧(e==6)=false∧(∀g,w3.heap.size≤g→g<W.heap.size→V.heap[g]? =W.heap[g]?)∧W.heap.size≤V.heap.size∧e=0∧V.heap[w.heap.size+1+1]? =some (.cells #[.slice none 0 0] 75 (0,0))∧qF n p q F w W V cx)):=hide fun W4 k=>by
   have k0:=k
   obtain⟨F',N',o',f'⟩:=k0
   have nl:∀g,w.heap.size≤g→¬(F g∨g=n):=fun g hg e=>by have:=lt g e;omega
   have q4:=(o'.block _ (by omega) (nl _ (by omega))).trans q3
   obtain⟨V,hV,bV,gV,fV⟩:=qI q4 0 (.slice none 0 0)
   refine⟨V,hV,ai q4 0 rfl,fV,hide ⟨0,rfl,rfl,fun g g1 g2=>?_,Nat.le_trans o'.size gV.size,rfl,bV,(k.toQ nT).put lt hw0 ⟨by omega,by omega⟩ gV⟩⟩
   rw[gV.block g (Nat.lt_of_lt_of_le g2 o'.size) (fun e=>by have:=Option.some.inj e;omega)]
   exact o'.block g g2 (nl g (by omega))
  clear q1 q2 q3 nT zW
  clear CC P1 P2 P3 b1 b2 b3 iw s1 s2 s3 hw1 hw2 hw3 h hR hon hb hok hl he hk hr hm hme hhe hcx lt hw0 hW
  go_enter Tryz.func76,Tryz.ntmps76
  go_wp2_with fail
  refine C1.out.mono ?_
  rintro E W4 ⟨rfl,k⟩
  obtain⟨V,hV,e4,f4,RR⟩:=FIN.out W4 k
  clear C1 FIN k
  go_wp2
  go_ret
  exact RR.out)
 have CL:=hide CL
 have FIN:Hid (∀W W1 B w4,Below w3.heap.size w3 W→w3.heap.size≤B∧B<W.heap.size→W1.grownBy w4 (some B)→W1.heap[w.heap.size+1+1]? =some (.cells #[.slice none 0 0] 75 (0,0))→qF n p q F w W W1 cx→w4.heap[w.heap.size+1+1]? =some (.cells #[.slice none 0 0] 75 (0,0))∧dA n p q F w w4 cx):=hide fun W W1 B w4 hW hB g c k=>by
  have zW:=hW.size
  have k0:=k
  obtain⟨F',N',o',f'⟩:=k0
  exact⟨(g.block _ (aA c) (fun e=>by have:=Option.some.inj e;omega)).trans c,(k.put lt hw0 ⟨by omega,hB.2⟩ g).toS (by omega)⟩
 clear CC P2 P3 b1 b2 b3 iw s3 h hR hon hb hok hl he hk hr hm hme hhe hcx lt hw0
 have d1:w3.cell? ⟨w.heap.size,0,none⟩=some (.pointer (some ⟨n,0,none⟩)):=ai P1 0 rfl
 clear P1
 go_enter Tryz.func31,Tryz.ntmps31
 go_wp2_with fail
 refine CL.out.mono ?_
 rintro E w4 ⟨e,rfl,W,W1,B,hW,hB,g,rfl,c,k⟩
 obtain⟨q4,N4⟩:=FIN.out W W1 B w4 hW hB g c k
 have RR:=hide N4
 have e4:w4.cell? ⟨w.heap.size+1+1,0,none⟩=some (.slice none 0 0):=ai q4 0 rfl
 have f4:=aB q4 0
 have u4:w4.setCell ⟨w.heap.size+1+1,0,none⟩ (.slice none 0 0)=w4:=aM q4 (j:=0) rfl
 clear CL FIN hW hB g c k q4 N4
 go_wp2
 refine bodyPost_ret (v:=.tuple #[.slice none 0 0,.int .i64 0]) (by simp[results,Tryz.results31,go_sem,e4]) rfl ?_
 exact⟨rfl,RR.out⟩
structure N2 (w0 w:World) (n p q:Nat) (F:Nat→Prop) (x:Ns) (n' p' q':Nat) (F':Nat→Prop) (x':Ns):Prop where
 a:Nl w0 w n p q F x
 b:Nl w0 w n' p' q' F' x'
 ap:∀g,F g∨g=n→¬(F' g∨g=n')
section
variable {w0 w w':World} {n p q n' p' q' m:Nat} {F F':Nat→Prop} {x x' y:Ns} {e pa:Int}
theorem N2.swap (h:N2 w0 w n p q F x n' p' q' F' x'):N2 w0 w n' p' q' F' x' n p q F x:=⟨h.b,h.a,fun g e k=>h.ap g k e⟩
theorem N2.below (h:N2 w0 w n p q F x n' p' q' F' x')(hb:Below w.heap.size w w'):N2 w0 w' n p q F x n' p' q' F' x':=⟨h.a.below hb,h.b.below hb,h.ap⟩
theorem N2.step (h:N2 w0 w n p q F x n' p' q' F' x')(k:dA n p q F w w' y):∃F1,N2 w0 w' n p q F1 y n' p' q' F' x':=by
 have hb:=h.b.nd.lt
 obtain⟨F1,L1⟩:=h.a.step k
 obtain⟨F2,k1,k2,k3⟩:=k
 have hs:=h.a.aK.size
 have ob:Below w0.heap.size w0 w':=h.a.aK.trans (k2.below (fun g hg=>(h.a.new g hg).1) hs)
 have n0:¬(F 0∨0=n):=fun e=>by have:=(h.a.new 0 e).2;omega
 refine⟨F2,⟨k1,fun g hg=>?_,ob⟩,⟨h.b.nd.agree (fun g e=>k2.block g (hb g e) fun c=>h.ap g c e) k2.size (gz h.b.nd.st.gu k2 n0),h.b.new,ob⟩,fun g e c=>?_⟩
 ·rcases hg with e|e
  ·rcases k3 g e with e|e
   ·exact h.a.new g (.inl e)
   ·have:=h.a.nd.st.gu.pos;omega
  ·exact h.a.new g (.inr e)
 ·have:=hb g c
  rcases e with e|e
  ·rcases k3 g e with e|e
   ·exact h.ap g (.inl e) c
   ·omega
  ·exact h.ap g (.inr e) c
def kI (e k:Int):Mm.Msg:=⟨3,e,0,k,[],0,0,[]⟩
theorem aek {k:Int}(he:1≤e∧e≤1048576)(hk:0≤k∧k≤1048576):Mm.Ok (kI e k):=⟨he.1,he.2,.inr (.inr ⟨rfl,hk.1,hk.2,rfl,rfl,rfl,rfl,rfl⟩)⟩
theorem aqv {k:Int}(he:1≤e∧e≤1048576)(hk:0≤k∧k≤1048576):(Mm.enc (kI e k)).length≤100000000000000:=by
 have h:=aek (e:=e) he hk
 unfold Mm.enc
 obtain⟨h1,_,_,_,_,_,_,_,h8⟩:=Mm.fU h
 have h2:=jc (l:=Mm.hd (kI e k)) (fun z hz=>(h1 z hz).2)
 have h3:=wJ (Mm.xA h)
 have h4:=h8 rfl
 have h5:(kI e k).cs.length=0:=rfl
 rw[List.length_append]
 omega
theorem fA.kE {k:Int}(h:fA m x e pa)(hm:m≤500)(hk:0≤k):x.kE 0 (kI e k)=⟨x.u,x.t,bg.kV x.s.l.length x.a (max x.k k),max x.k k,x.m,x.s⟩∧fA m (x.kE 0 (kI e k)) e pa∧x.a≤(x.kE 0 (kI e k)).a:=by
 have e0:Tak.uq 0 x.s.p.e (kI e k)=0:=by
  unfold Tak.uq
  rw[if_pos rfl,h.pg]
  show(if e<e then(12:Int)else if e<e then 2 else 0)=0
  rw[if_neg (by omega),if_neg (by omega)]
 have e1:x.kE 0 (kI e k)=⟨x.u,x.t,bg.kV x.s.l.length x.a (max x.k k),max x.k k,x.m,x.s⟩:=by
  unfold Ns.kE Tak.knF Tak.vR
  rw[e0]
  rfl
 have h2:=h.a
 have h3:=h.rz.2.1
 have ka:x.a≤bg.kV x.s.l.length x.a (max x.k k)∧bg.kV x.s.l.length x.a (max x.k k)≤x.s.l.length:=by
  unfold bg.kV
  rw[if_pos (by omega)]
  split
  ·omega
  ·split<;>omega
 refine⟨e1,?_,by rw[e1];exact ka.1⟩
 rw[e1]
 exact⟨h.inn,h.has,h.rz,h.pg,h.e,h.t,⟨h2.1,by show pa≤bg.kV _ _ _;omega,ka.2⟩,Int.le_trans h.r ka.1⟩
theorem at0 (h:Nd n p q F w x)(hp:fA m x e pa)(hm:m≤500)(hk:In64 x.k){k:Int}(hk2:0≤k∧k≤1048576)(vb:Value)(hb:Is .u8 w vb (Mm.enc (kI e k)))(hl:(Mm.enc (kI e k)).length≤100000000000000):
  Calls Tryz.prog 31 #[.pointer (some ⟨n,0,none⟩),vb] w fun E w'=>E=.returned (.tuple #[.slice none 0 0,.int .i64 0])∧dA n p q F w w' (x.kE 0 (kI e k)):=
 afr n p q F w x h (hp.rok hm) hp.on vb (kI e k) hb (aek hp.e hk2) hl hp.i64 hk (by rw[hp.pg]) rfl (by rw[hp.pg];rfl) (by
  unfold Rol.uC
  rw[if_pos (hp.ok hm),hp.pg,if_neg (by show ¬(e<1∨1048576<e);have:=hp.e;omega)])
theorem aom (q:Nat)(t:Int)(w:World)(h:Pk q (fun g=>g=q) w Dm.new):Calls Tryz.prog 26 #[.int .i64 2,.int .i64 t,.pointer (some ⟨q,0,none⟩)] w fun E w'=>E=.returned (.tuple #[.pointer none,.int .i64 2])∧Out (fun g=>g=q) w w':=by
 have WR:=hide (tV q w h)
 clear h
 go_enter Tryz.func26,Tryz.ntmps26
 go_wp2_with fail
 refine WR.out.mono ?_
 rintro E w1 ⟨rfl,F1,k1,o1,f1⟩
 have B:=hide o1
 clear WR k1 o1 f1
 go_wp2
 go_ret2
 exact⟨rfl,B.out⟩
theorem ajG (q:Nat)(t:Int)(w:World)(ht:¬(1≤t∧t≤16))(h:Pk q (fun g=>g=q) w Dm.new):Calls Tryz.prog 26 #[.int .i64 0,.int .i64 t,.pointer (some ⟨q,0,none⟩)] w fun E w'=>E=.returned (.tuple #[.pointer none,.int .i64 2])∧Out (fun g=>g=q) w w':=by
 have WR:=hide (tV q w h)
 have CK:=hide (fun W=>jf t W)
 have ck:bg.ck t=2:=by unfold bg.ck;rw[if_neg ht]
 rw[ck]at CK
 clear h ht ck
 go_enter Tryz.func26,Tryz.ntmps26
 go_wp2_with fail
 refine WR.out.mono ?_
 rintro E w1 ⟨rfl,F1,k1,o1,f1⟩
 have B:=hide o1
 clear WR k1 o1 f1
 go_wp2_with fail
 refine(CK.out _).mono ?_
 rintro E w2 ⟨rfl,rfl⟩
 go_wp2
 go_ret2
 exact⟨rfl,B.out⟩
end
end Go.Proofs.YtlmkaljjocflmaaGreatDoor
