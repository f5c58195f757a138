/- Texts of one layer, one behind the other. -/
import Derived.Test.YtmngcecomcadkaaGreatDoorCH9
import Derived.Test.YtmngcecomcadkaaGreatDoorCZRqe
import Derived.Test.YtmngcecomcadkaaGreatDoorCH6
import Derived.Test.YtmngcecomcadkaaGreatDoorCH19
import Derived.Test.YtmngcecomcadkaaGreatDoorCM3
import Derived.Test.YtmngcecomcadkaaGreatDoorCH24
import Derived.Test.YtmngcecomcadkaaGreatDoorCH13
import Derived.Test.YtmngcecomcadkaaGreatDoorCH25
import Derived.Test.YtmngcecomcadkaaGreatDoorCM4
import Derived.Test.YtmngcecomcadkaaGreatDoorCH16
import Derived.Test.YtmngcecomcadkaaGreatDoorCH10
import Derived.Test.YtmngcecomcadkaaGreatDoorCH8
import Derived.Deep.RegionHeld3
set_option maxRecDepth 100000
set_option maxHeartbeats 8000000
namespace Go.Proofs.YtmngcecomcadkaaGreatDoor
open Go.RowKit
set_option linter.unusedVariables false
def Chg (w:World) (p:Nat) (f:FuncId) (cap:Array Value) (x:Pm.Pg) (ep en rn:Int) (x':Pm.Pg) (ep' en' rn':Int):Prop:=
 ∀W g,Below w.heap.size w W→w.heap.size≤g→W.heap[g]? =some (.cells (jc x ep en rn p) 119 (0,0))→Calls Tryz.prog f (#[.pointer (some ⟨g,0,none⟩)]++cap) W fun E w'=>E=.returned (.tuple #[])∧w'.heap[g]? =some (.cells (jc x' ep' en' rn' p) 119 (0,0))∧Out (fun i=>i=g) W w'
theorem vV (p q pw pr:Nat)(F F':Nat→Prop)(w:World)(off:Bool)(x:Pm.Pg)(en:Int)(vs:Value)(sw:Wl.Ws)(sr:Rl.Rs)(hb:w.heap[p]? =some (.cells (eF q off x (.pointer (some ⟨pw,0,none⟩)) en (.pointer (some ⟨pr,0,none⟩)) vs) 94 (0,0)))(h1:WW pw q F w sw)(h2:RW pr q F' w sr)
  (f:FuncId) (cap:Array Value) (eg:∀args w,(callFunc f args).run Tryz.prog w=.ok (.enter f args) w) (x':Pm.Pg) (ep' en' rn' b:Int) (hch:Chg w p f cap x (Cm.lastE 0 sw.l) en (Cm.lastN 0 sr.l) x' ep' en' rn')
  (hS:(x'.p=2∨x'.p=3∨x'.p=4)→∀W,Below w.heap.size w W→Calls Tryz.prog 109 #[.pointer (some ⟨p,0,none⟩)] W fun E w'=>E=.returned (.int .i64 b)∧Below W.heap.size W w'):
  Calls Tryz.prog 62 #[.pointer (some ⟨p,0,none⟩),.func (.func f) #[] cap] w fun E w'=>E=.returned (.int .i64 (if qA x' ep' en' rn' b=true then 0 else 5))∧Below w.heap.size w w':=by
 have hsf:∀(a:Addr) (fn:Fn) (first cap:Array Value) (w:World),(store a (.func fn first cap)).run Tryz.prog w=stored Tryz.prog w a (.func fn first cap) .plain:=fun a fn first cap w=>run_store _ w a _ _ rfl
 have OL:=hide (yL p q pw pr F F' w off x en vs sw sr hb h1 h2)
 have CH:=hide hch
 have HS:=hide hS
 generalize Cm.lastE 0 sw.l=ep at*
 generalize Cm.lastN 0 sr.l=rn at*
 obtain⟨r,hr⟩:∃r,(if qA x' ep' en' rn' b=true then(0:Int)else 5)=r:=⟨_,rfl⟩
 rw[hr]
 have HR:=hide hr
 clear h1 h2 hb hch hS hr
 go_enter Tryz.func62,Tryz.ntmps62
 go_wp2_with fail
 refine OL.out.mono ?_
 rintro E w1 ⟨rfl,b1⟩
 unfold jc
 obtain⟨w2,hw2,s2,b2,P2⟩:=ak w1 #[.int .i64 0,.int .u8 0,.int .i64 0,.int .u8 0,.int .i64 0,.int .i64 0,.int .i64 0,.int .i64 0,.int .i64 0,.nilFunc] 119
 obtain⟨V,hV,bV,gV,⟨a0,a1,a2,a3,a4,a5,a6,a7,a8,a9⟩,fr,⟨z0,z1,z2,z3,z4,z5,z6,z7,z8,z9⟩⟩:=adU P2 (.int .i64 x.e) (.int .u8 x.r) (.int .i64 x.a) (.int .u8 x.p) (.int .i64 x.f) (.int .i64 x.b) (.int .i64 ep) (.int .i64 en) (.int .i64 rn) (.func (.func 109) #[.pointer (some ⟨p,0,none⟩)] #[])
 have f0:=fr 0;have f1:=fr 1;have f2:=fr 2;have f3:=fr 3;have f4:=fr 4;have f5:=fr 5;have f6:=fr 6;have f7:=fr 7;have f8:=fr 8;have f9:=fr 9
 have hs1:=b1.size
 have b12:=b1.trans (b2.mono hs1)
 have bvv:=aB b12 gV hs1 (by omega)
 have hlV:w1.heap.size<V.heap.size:=ax bV
 have C2:=hide (CH.out V w1.heap.size bvv hs1 bV)
 have BV:=hide (And.intro bvv (And.intro hs1 hlV))
 clear OL CH b1 b2 b12 bvv hs1 hlV bV gV fr P2 s2
 go_wp2_with fail
 refine C2.out.mono ?_
 rintro E w3 ⟨rfl,P3,o3⟩
 unfold jc at P3
 obtain⟨y0,y1,y2,y3,y4,y5,y6,y7,y8,y9⟩:=mh P3
 have b3:Below w.heap.size w w3:=BV.out.1.trans (o3.below (fun g hg=>by rw[hg];exact BV.out.2.1) BV.out.1.size)
 have C3:=hide (aaj p x' ep' en' rn' b w3 fun k W hW=>HS.out k W (b3.trans (hW.mono b3.size)))
 rw[HR.out]at C3
 unfold jc at C3
 have B3:=hide b3
 clear C2 b3 o3 P3 HR HS z0 z1 z2 z3 z4 z5 z6 z7 z8 z9 a0 a1 a2 a3 a4 a5 a6 a7 a8 a9 f0 f1 f2 f3 f4 f5 f6 f7 f8 f9
 go_wp2_with fail
 refine C3.out.mono ?_
 rintro E w4 ⟨rfl,b4⟩
 have B4:=hide (B3.out.trans (b4.mono B3.out.size))
 clear C3 b4 B3
 go_wp2
 go_ret
 exact⟨rfl,B4.out⟩
theorem asi (w:World)(p g3:Nat)(x y:Pm.Pg)(ep en rn:Int)(h3:w.heap[g3]? =some (.cells (cp y) 46 (0,0))):Chg w p 71 #[.pointer (some ⟨g3,0,none⟩)] x ep en rn y ep en rn:=by
 intro W g hW hg hP
 show Calls _ _ #[.pointer (some ⟨g,0,none⟩),.pointer (some ⟨g3,0,none⟩)] _ _
 unfold cp at h3
 obtain⟨d0,d1,d2,d3,d4,d5⟩:=aN ((hW.block g3 (ax h3)).trans h3)
 unfold jc at hP⊢
 obtain⟨c0,c1,c2,c3,c4,c5,_⟩:=mh hP
 have fr:=aA hP
 have f0:=fr 0;have f1:=fr 1;have f2:=fr 2;have f3:=fr 3;have f4:=fr 4;have f5:=fr 5
 have q0:=aH hP 0 (.int .i64 y.e)
 have q1:=aH q0 1 (.int .u8 y.r)
 have q2:=aH q1 2 (.int .i64 y.a)
 have q3:=aH q2 3 (.int .u8 y.p)
 have q4:=aH q3 4 (.int .i64 y.f)
 have q5:=aH q4 5 (.int .i64 y.b)
 have gr:=aG (aG (aG (aG (aG (az W ⟨g,0,none⟩ (.int .i64 y.e)) (az _ ⟨g,1,none⟩ (.int .u8 y.r))) (az _ ⟨g,2,none⟩ (.int .i64 y.a))) (az _ ⟨g,3,none⟩ (.int .u8 y.p))) (az _ ⟨g,4,none⟩ (.int .i64 y.f))) (az _ ⟨g,5,none⟩ (.int .i64 y.b))
 obtain⟨V,hV⟩:∃V,(((((W.setCell ⟨g,0,none⟩ (.int .i64 y.e)).setCell ⟨g,1,none⟩ (.int .u8 y.r)).setCell ⟨g,2,none⟩ (.int .i64 y.a)).setCell ⟨g,3,none⟩ (.int .u8 y.p)).setCell ⟨g,4,none⟩ (.int .i64 y.f)).setCell ⟨g,5,none⟩ (.int .i64 y.b)=V:=⟨_,rfl⟩
 rw[hV]at q5 gr
 have R:Hid (V.heap[g]? =some (.cells #[.int .i64 y.e,.int .u8 y.r,.int .i64 y.a,.int .u8 y.p,.int .i64 y.f,.int .i64 y.b,.int .i64 ep,.int .i64 en,.int .i64 rn,.func (.func 109) #[.pointer (some ⟨p,0,none⟩)] #[]] 119 (0,0))∧Out (fun i=>i=g) W V):=hide ⟨q5,Out.aQ gr fun i hi=>by simpa using hi.symm⟩
 clear q0 q1 q2 q3 q4 q5 gr h3 hP fr
 go_enter Tryz.func71,Tryz.ntmps71
 go_wp2
 go_end0
 exact⟨rfl,R.out⟩
theorem ajH {W:World}{g p:Nat}{x:Pm.Pg}{ep en rn:Int}(hP:W.heap[g]? =some (.cells (jc x ep en rn p) 119 (0,0)))(u:Int):
  (∃V,W.setCell ⟨g,6,none⟩ (.int .i64 u)=V∧V.heap[g]? =some (.cells (jc x u en rn p) 119 (0,0))∧Out (fun i=>i=g) W V)∧(∃V,W.setCell ⟨g,7,none⟩ (.int .i64 u)=V∧V.heap[g]? =some (.cells (jc x ep u rn p) 119 (0,0))∧Out (fun i=>i=g) W V):=by
 unfold jc at*
 exact⟨⟨_,rfl,aH hP 6 _,Out.aQ (az W ⟨g,6,none⟩ _) fun i hi=>by simpa using hi.symm⟩,⟨_,rfl,aH hP 7 _,Out.aQ (az W ⟨g,7,none⟩ _) fun i hi=>by simpa using hi.symm⟩⟩
theorem rO:∀(l:List Cm.Cv) (ep:Int) (h:0<l.length),Cm.lastE ep l=(l[l.length-1]).e
 |[c],_,_=>rfl
 |c::d::r,ep,_=>by
  have:=rO (d::r) c.e (by simp)
  show Cm.lastE c.e (d::r)=_
  rw[this]
  simp
theorem aoe (g p:Nat)(x:Pm.Pg)(ep en rn:Int)(W:World)(v:Value)(rs:List Cw)(hP:W.heap[g]? =some (.cells (jc x ep en rn p) 119 (0,0)))(hc:∀V,Out (fun i=>i=g) W V→di V v rs)(h0:0≤en∧en≤1000000)(hl:rs.length≤100):
  Calls Tryz.prog 64 #[.pointer (some ⟨g,0,none⟩),v] W fun E w'=>E=.returned (.tuple #[])∧w'.heap[g]? =some (.cells (jc x (Cm.lastE ep (ay rs)) (en+rs.length) rn p) 119 (0,0))∧Out (fun i=>i=g) W w':=by
 obtain⟨V,hV,PV,oV⟩:=(ajH hP (en+rs.length)).2
 obtain⟨Z,hZ,PZ,oZ⟩:=(ajH PV (Cm.lastE ep (ay rs))).1
 have hI:=hc V oV
 unfold jc at hP PV
 obtain⟨c0,c1,c2,c3,c4,c5,c6,c7,c8,c9⟩:=mh hP
 obtain⟨d0,d1,d2,d3,d4,d5,d6,d7,d8,d9⟩:=mh PV
 have f7:=aA hP 7
 have f6:=aA PV 6
 by_cases hn:rs.length=0
 ·obtain rfl:rs=[]:=List.eq_nil_of_length_eq_zero hn
  obtain⟨ao,cap,rfl⟩:∃a k,v=.slice a 0 k:=by
   rcases hI.1 with⟨h,_⟩|⟨a,c,h,_⟩
   ·exact⟨_,_,h⟩
   ·exact⟨_,_,h⟩
  have R:Hid (V.heap[g]? =some (.cells (jc x (Cm.lastE ep (ay [])) (en+([]:List Cw).length) rn p) 119 (0,0))∧Out (fun i=>i=g) W V):=hide ⟨PV,oV⟩
  simp only[List.length_nil,Int.ofNat_zero,Int.add_zero]at hV R⊢
  clear hP PV oV PZ oZ hZ hI hc d0 d1 d2 d3 d4 d5 d6 d7 d8 d9
  go_enter Tryz.func64,Tryz.ntmps64
  go_wp2
  go_end0
  exact⟨rfl,R.out⟩
 ·have hp:0<rs.length:=by omega
  obtain⟨b1,o1,k1,rfl,_,hcell⟩:=iP hI hp
  have hlast:=(hcell (rs.length-1) (rs[rs.length-1]) (by simp)).1
  have he:Cm.lastE ep (ay rs)=(rs[rs.length-1]).e:=by
   rw[rO (ay rs) ep (by unfold ay;simpa using hp)]
   unfold ay
   simp[Cw.c]
  rw[he]at hZ PZ⊢
  generalize (rs[rs.length-1]).e=le at*
  have R:Hid (Z.heap[g]? =some (.cells (jc x le (en+rs.length) rn p) 119 (0,0))∧Out (fun i=>i=g) W Z):=hide ⟨PZ,oV.trans oZ fun i hi=>.inl hi⟩
  clear hI hc hcell hP PV oV PZ oZ he
  obtain⟨m,hm⟩:∃m,rs.length=m+1:=⟨rs.length-1,by omega⟩
  rw[hm]at hlast R hV hl d7⊢
  have hlast:V.cell? ⟨b1,o1+m*3,none⟩=some (.int .i64 le):=hlast
  clear hp hn hm
  have hcs:((m+1:Nat):Int)=(m:Int)+1:=by omega
  rw[hcs]at hV R d7⊢
  clear hcs
  have hm2:IntKind.i64.wrap (en+((m:Int)+1))=en+((m:Int)+1):=aS _ (by omega) (by omega)
  go_enter Tryz.func64,Tryz.ntmps64
  go_wp2
  go_end0
  exact⟨rfl,R.out⟩
theorem asR (w:World)(p g3:Nat)(x:Pm.Pg)(ep en rn:Int)(v:Value)(rs:List Cw)(h3:w.heap[g3]? =some (.cells #[v] 22 (0,0)))(hc:∀V,Below w.heap.size w V→di V v rs)(h0:0≤en∧en≤1000000)(hl:rs.length≤100):Chg w p 63 #[.pointer (some ⟨g3,0,none⟩)] x ep en rn x (Cm.lastE ep (ay rs)) (en+rs.length) rn:=by
 intro W g hW hg hP
 show Calls _ _ #[.pointer (some ⟨g,0,none⟩),.pointer (some ⟨g3,0,none⟩)] _ _
 have d0:=ai ((hW.block g3 (ax h3)).trans h3) 0 rfl
 have GR:=hide (aoe g p x ep en rn W v rs hP (fun V hV=>hc V (hW.trans (hV.below (fun i hi=>by rw[hi];exact hg) hW.size))) h0 hl)
 obtain⟨ao,m,k,rfl⟩:∃a n k,v=.slice a n k:=by
  rcases(hc w (Below.refl _ _)).1 with⟨h,_⟩|⟨a,c,h,_⟩
  ·exact⟨_,_,_,h⟩
  ·exact⟨_,_,_,h⟩
 clear hc h3 hP
 go_enter Tryz.func63,Tryz.ntmps63
 go_wp2_with fail
 refine GR.out.mono ?_
 rintro E w' ⟨rfl,X⟩
 have X:=hide X
 clear GR
 go_wp2
 go_end0
 exact⟨rfl,X.out⟩
theorem abn {x:Pm.Pg}(h:Pm.Ok x)(l:List Cm.Cv)(rn b:Int):qA x (Cm.lastE 0 l) l.length rn b=Rst.snd x l rn b:=by
 obtain⟨_,h⟩:=h
 rw[Bool.eq_iff_iff,Rst.nk]
 generalize Cm.lastE 0 l=ep
 generalize (l.length:Int)=en
 unfold qA
 by_cases h4:x.p=4
 ·rw[if_pos h4]
  simp only[Bool.and_eq_true,decide_eq_true_eq]
  omega
 ·rw[if_neg h4]
  by_cases h3:x.p=3∨x.p=2
  ·rw[if_pos h3]
   simp only[Bool.and_eq_true,decide_eq_true_eq]
   omega
  ·rw[if_neg h3]
   by_cases h1:x.p=1
   ·rw[if_pos h1]
    simp only[Bool.and_eq_true,decide_eq_true_eq]
    omega
   ·rw[if_neg h1]
    simp only[Bool.and_eq_true,decide_eq_true_eq]
    omega
theorem ake (f:Nat):∀(n:Nat) (st:Dm.Ds) (bs:List Int),(Dm.wrt f n st bs).1=0∨(Dm.wrt f n st bs).1=6
 |0,_,_=>.inl rfl
 |n+1,st,bs=>by
  unfold Dm.wrt
  split
  ·exact .inl rfl
  split
  ·exact .inr rfl
  ·exact ake f n _ _
theorem aoy {st:Dm.Ds}(f:Nat)(hf:f<4)(bs:List Int):(Dm.write st f bs).1=0∨(Dm.write st f bs).1=6:=by
 unfold Dm.write
 split
 ·exact .inr rfl
 rw[if_neg (by unfold Dm.iW;simp;omega)]
 exact ake _ _ _ _
theorem ak3 (g0 g1 p q:Nat)(F:Nat→Prop)(w:World)(st:Dm.Ds)(vb:Value)(bs:List Int)(h0:w.cell? ⟨g0,0,none⟩=some (.pointer (some ⟨p,0,none⟩)))(h1:w.cell? ⟨g1,0,none⟩=some vb)(hp:w.cell? ⟨p,0,none⟩=some (.pointer (some ⟨q,0,none⟩)))(h:Pk q F w st)(hs:Big 90000000 700000 st)(hb:Is .u8 w vb bs)(hbF:∀b,vb.ownBlock=some b→¬F b)(hl:bs.length≤1000)(hn:∀g,g=g0∨g=g1∨g=p→g<w.heap.size∧¬F g):
  Calls Tryz.prog 118 #[.pointer (some ⟨g0,0,none⟩),.pointer (some ⟨g1,0,none⟩)] w fun E w'=>E=.returned (.int .i64 (Dm.write st 1 bs).1)∧aV q F w w' (Dm.write st 1 bs).2:=by
 have HC:Hid (Calls Tryz.prog 44 #[.pointer (some ⟨q,0,none⟩),.int .i64 1,vb] w.drew fun E w'=>E=.returned (.int .i64 (Dm.write st 1 bs).1)∧aV q F w w' (Dm.write st 1 bs).2):=hide (by
  have hd:Below w.heap.size w w.drew:=(Below.refl _ _).drew
  have hc:cnt bs.length≤17:=by unfold cnt;omega
  refine(oQ q F w.drew st 1 vb bs (h.below hd) (hb.below hd) (fun _=>hbF) (by omega) (by have:=hs.1.2.1;omega) hs.2 (by have:=hs.1.2.2;omega)).mono ?_
  rintro E w' ⟨rfl,k⟩
  exact⟨rfl,aV.pre hd k⟩)
 have HK:Hid (∀w',aV q F w w' (Dm.write st 1 bs).2→w'.cell? ⟨g0,0,none⟩=some (.pointer (some ⟨p,0,none⟩))∧w'.cell? ⟨g1,0,none⟩=some vb∧w'.cell? ⟨p,0,none⟩=some (.pointer (some ⟨q,0,none⟩))):=hide (by
  rintro w' ⟨_,_,k,_⟩
  have e:∀g,g=g0∨g=g1∨g=p→w'.cell? ⟨g,0,none⟩=w.cell? ⟨g,0,none⟩:=fun g hg=>by have:=k.block g (hn g hg).1 (hn g hg).2;simp[World.cell?,this]
  exact⟨(e g0 (by simp)).trans h0,(e g1 (by simp)).trans h1,(e p (by simp)).trans hp⟩)
 clear h hs hn hb hbF hl
 go_enter Tryz.func118,Tryz.ntmps118
 go_wp2_with fail
 go_region_held3 (fun w'=>w'.cell? ⟨g0,0,none⟩=some (.pointer (some ⟨p,0,none⟩))∧w'.cell? ⟨g1,0,none⟩=some vb∧w'.cell? ⟨p,0,none⟩=some (.pointer (some ⟨q,0,none⟩))) (first|exact⟨h0,h1,hp⟩|exact⟨i0,i1,ip⟩|go_keep)
  (first
  |(go_at_call 44;refine HC.out.mono ?_;rintro E w' ⟨rfl,k⟩;obtain⟨i0,i1,ip⟩:=HK.out _ k;have K:=hide k;clear k))
 go_wp2
 go_ret
 exact⟨rfl,K.out⟩
theorem agB (w:World)(t:TypeId)(x a:Value):∃V,(w.alloc (.cells #[x] t)).setCell ⟨w.heap.size,0,none⟩ a=V∧w.alloc (.cells #[a] t)=V∧V.heap.size=w.heap.size+1∧Below w.heap.size w V∧V.heap[w.heap.size]? =some (.cells #[a] t (0,0)):=by
 obtain⟨V,h1,h2,h3,h4⟩:=ak w #[a] t
 refine⟨V,?_,h1,h2,h3,h4⟩
 rw[←h1]
 simp[go_sem]
theorem amC (p q:Nat)(F:Nat→Prop)(w:World)(st:Dm.Ds)(off:Bool)(y x:Pm.Pg)(vw vr vs:Value)(en:Int)(h:Pk q F w st)(hs:Big 50000000 500000 st)(hb:w.heap[p]? =some (.cells (eF q off y vw en vr vs) 94 (0,0)))(hpF:¬F p)(hx:Pm.Ok x)(hm:eH w):
  Calls Tryz.prog 73 #[.pointer (some ⟨p,0,none⟩),vp x] w fun E w'=>E=.returned (.int .i64 (Rst.ext st 1 (Fm.bT (Pm.enc x))).1)∧∃F',Pk q F' w' (Rst.ext st 1 (Fm.bT (Pm.enc x))).2∧w'.heap[p]? =some (.cells (eF q off (if (Rst.ext st 1 (Fm.bT (Pm.enc x))).1=0 then x else y) vw en vr vs) 94 (0,0))∧Out (fun g=>F g∨g=p) w w'∧∀g,F' g→F g∨w.heap.size≤g:=by
 have rG:∀(fn:Fn) (first cap:Array Value) (w:World),(Instr.makeFunc fn first cap).run Tryz.prog w=.ok (.func fn first cap) w:=fun _ _ _ _=>rfl
 have hpl:=ax hb
 have hF:∀g,F g→g<w.heap.size:=h.lt
 obtain⟨bs,hbs⟩:∃bs,Fm.bT (Pm.enc x)=bs:=⟨_,rfl⟩
 rw[hbs]
 have HBS:=hide hbs
 clear hbs
 obtain⟨⟨ee,d'⟩,hex⟩:∃ex,Rst.ext st 1 bs=ex:=⟨_,rfl⟩
 rw[hex]
 simp only
 have HEX:=hide hex
 clear hex
 obtain⟨w1,hw1,s1,b1,P1⟩:=ak w #[.pointer (some ⟨p,0,none⟩)] 41
 obtain⟨w2,hw2,s2,b2,P2⟩:=ak w1 (cp x) 46
 have z2:w2.heap.size=w.heap.size+2:=by omega
 rw[s1]at P2
 have b02:Below w.heap.size w w2:=b1.trans (b2.mono (by omega))
 have eX:=(b2.block w.heap.size (by omega)).trans P1
 unfold cp at hw2 P2
 obtain⟨c0,c1,c2,c3,c4,c5⟩:=aN P2
 have EN:=hide (ajq x w2 (mq hx) (hm.below b02))
 unfold vp at EN⊢
 rw[Pm.fZ hx,jd hx]at EN
 have hel:=Pm.ab4 hx
 have X0:=hide (And.intro eX (And.intro P2 b02))
 have HH:=hide (And.intro h (And.intro hs (And.intro hb hm)))
 clear h hs hb hm b1 b2 P1 P2 eX s2 b02
 go_enter Tryz.func73,Tryz.ntmps73
 go_wp2_with fail
 refine EN.out.mono ?_
 rintro E w3 ⟨vb,rfl,o3,b3⟩
 have FA:=hide (uK (.slice none 0 0) vb [] (Pm.enc x) w3 (Is.nil _ _) o3.is (by simp) (by omega))
 have at7:wN (Pm.enc x)=0:=by unfold wN;rw[if_pos (by omega)]
 have awL:xK [] (Pm.enc x)=bs:=by unfold xK;rw[if_pos (by omega)];exact HBS.out
 rw[at7,awL]at FA
 have B3:=hide b3
 clear EN o3 b3 at7 awL
 go_wp2_with fail
 refine FA.out.mono ?_
 rintro E w4 ⟨v4,rfl,o4,b4⟩
 obtain⟨ao,ln,lc,hv⟩:=o4.is.form
 subst hv
 clear FA
 obtain⟨p1,p2,b02⟩:=X0.out
 obtain⟨h,hs,hb,hm⟩:=HH.out
 have b3:=B3.out
 have z3:=b3.size
 have z4:=b4.size
 have ng:Below w2.heap.size w2 w4:=b3.trans (b4.mono (by omega))
 obtain⟨w5,qU,ayA,s5,b5,P5⟩:=agB w4 61 (.slice none 0 0) (.slice ao ln lc)
 obtain⟨w6,rQ,s6,b6,P6⟩:=ak w5 #[.func (.func 118) #[] #[.pointer (some ⟨w.heap.size,0,none⟩),.pointer (some ⟨w4.heap.size,0,none⟩)],.func (.func 119) #[.pointer (some ⟨q,0,none⟩)] #[]] 154
 rw[s5]at P6
 have b26:Below w2.heap.size w2 w6:=ng.trans ((b5.mono (by omega)).trans (b6.mono (by omega)))
 have pI:Below w.heap.size w w6:=b02.trans (b26.mono (by omega))
 have o6:Own .u8 5 w3.heap.size w6 (.slice ao ln lc) bs:=(o4.below b5).below b6
 have hfl:bs.length≤1000:=by
  rw[←HBS.out]
  have h2:Vm.sz (Pm.enc x).length≤1:=Vm.nT 0 _ (by omega)
  rw[Fm.kJ]
  omega
 have hs2:=ku hs 1 bs
 have hcn:cnt bs.length≤17:=by unfold cnt;omega
 have e1:(Dm.write st 1 bs).1=0∨(Dm.write st 1 bs).1=6:=aoy (st:=st) 1 (by omega) bs
 have e2:=aeQ (Dm.write st 1 bs).2
 have C1:=ak3 w.heap.size w4.heap.size p q F w6 st (.slice ao ln lc) bs (ai ((b26.block _ (by omega)).trans p1) 0 rfl) (ai ((b6.block _ (by omega)).trans P5) 0 rfl) (ai ((pI.block p hpl).trans hb) 0 rfl) (h.below pI) (hs.mono (by decide) (by decide)) o6.is (fun b e k=>by have:=(o6.2.lt b e).1;have:=hF b k;omega) hfl (by
  rintro g (rfl|rfl|rfl)
  ·exact⟨by omega,fun e=>by have:=hF _ e;omega⟩
  ·exact⟨by omega,fun e=>by have:=hF _ e;omega⟩
  ·exact⟨by omega,hpF⟩)
 have C2:∀W G,Pk q G W (Dm.write st 1 bs).2→Calls Tryz.prog 119 #[.pointer (some ⟨q,0,none⟩)] W fun E w'=>E=.returned (.int .i64 (Dm.sync (Dm.write st 1 bs).2).1)∧aV q G W w' (Dm.sync (Dm.write st 1 bs).2).2:=fun W G k=>
  uX q G W _ k (fun f=>Nat.le_trans (hs2.1.1 f) (by omega)) (Nat.le_trans hs2.1.2.1 (by omega)) hs2.2 (Nat.lt_of_le_of_lt hs2.1.2.2 (by omega))
 have RUN:Run (w4.heap.size+1) (fun e W=>e=(Rst.ext st 1 bs).1∧aV q F w6 W (Rst.ext st 1 bs).2) [.func (.func 118) #[] #[.pointer (some ⟨w.heap.size,0,none⟩),.pointer (some ⟨w4.heap.size,0,none⟩)],.func (.func 119) #[.pointer (some ⟨q,0,none⟩)] #[]] w6:=by
  unfold Rst.ext
  refine Run.cons (enters_of Tryz.func118 (by kernel_rfl) rfl) (by simp) (C1.mono ?_)
  rintro E W ⟨rfl,F1,k1,k2,k3⟩
  refine⟨_,rfl,k2.block _ (by omega) fun e=>by have:=hF _ e;omega,?_⟩
  show(_∧_=(if (Dm.write st 1 bs).1≠0 then _ else _:Int×Dm.Ds).1∧aV q F w6 W (if (Dm.write st 1 bs).1≠0 then _ else _:Int×Dm.Ds).2)∨_
  rcases e1 with e1|e1
  ·refine .inr ⟨e1,Run.cons (enters_of Tryz.func119 (by kernel_rfl) rfl) (by simp) ((C2 W F1 k1).mono ?_)⟩
   rintro E W2 ⟨rfl,k⟩
   have hne:¬F1 (w4.heap.size+1):=fun e=>by
    rcases k3 _ e with e|e
    ·have:=hF _ e;omega
    ·omega
   have J:aV q F w6 W2 (Dm.sync (Dm.write st 1 bs).2).2:=aV.trans k2 k3 k
   have hsz:=k2.size
   refine⟨_,rfl,?_,?_⟩
   ·obtain⟨_,_,k,_⟩:=k
    exact k.block _ (by omega) hne
   show(_∧_=(if (Dm.write st 1 bs).1≠0 then _ else _:Int×Dm.Ds).1∧aV q F w6 W2 (if (Dm.write st 1 bs).1≠0 then _ else _:Int×Dm.Ds).2)∨(_∧_=(if (Dm.write st 1 bs).1≠0 then _ else _:Int×Dm.Ds).1∧aV q F w6 W2 (if (Dm.write st 1 bs).1≠0 then _ else _:Int×Dm.Ds).2)
   rw[if_neg (by simp[e1])]
   rcases e2 with e2|e2
   ·rw[if_neg (by simp[e2])]
    exact .inr ⟨e2,rfl,J⟩
   ·rw[if_pos (by simp[e2])]
    exact .inl ⟨by rw[e2];decide,e2,J⟩
  ·rw[if_pos (by simp[e1])]
   exact .inl ⟨by rw[e1];decide,e1,⟨F1,k1,k2,k3⟩⟩
 rw[HEX.out]at RUN
 simp only at RUN
 have HO:=hide (rZ (w4.heap.size+1) 2 _ w6 _ rfl (by omega) P6 RUN)
 have e5p:w5.cell? ⟨p,0,none⟩=some (.pointer (some ⟨q,0,none⟩)):=ai ((b5.block p (by omega)).trans ((ng.block p (by omega)).trans ((b02.block p hpl).trans hb))) 0 rfl
 have e5s:w5.cell? ⟨w.heap.size,0,none⟩=some (.pointer (some ⟨p,0,none⟩)):=ai ((b5.block _ (by omega)).trans ((ng.block _ (by omega)).trans p1)) 0 rfl
 have y6:=(pI.block p hpl).trans hb
 have t6:=(b26.block _ (by omega)).trans p1
 have u6:=(b26.block _ (by omega)).trans p2
 have FX:Hid ((p<w6.heap.size∧w.heap.size+1<w6.heap.size)∧(w6.heap[p]? =some (.cells (eF q off y vw en vr vs) 94 (0,0))∧w6.heap[w.heap.size]? =some (.cells #[.pointer (some ⟨p,0,none⟩)] 41 (0,0))∧w6.heap[w.heap.size+1]? =some (.cells #[.int .i64 x.e,.int .u8 x.r,.int .i64 x.a,.int .u8 x.p,.int .i64 x.f,.int .i64 x.b] 46 (0,0)))∧Below w.heap.size w w6):=hide ⟨⟨by omega,by omega⟩,⟨y6,t6,u6⟩,pI⟩
 clear RUN C1 C2 e1 e2 hs2 hcn hfl o6 o4 P5 P6 p1 p2 b02 b3 b4 ng b26 pI y6 t6 u6 hb hm h hs X0 B3 s6
 go_wp2_with fail
 refine HO.out.mono ?_
 rintro E W ⟨e,rfl,rfl,F1,k1,k2,k3⟩
 obtain⟨⟨l1,l2⟩,⟨y6,t6,u6⟩,pI⟩:=FX.out
 have y7:=(k2.block p l1 hpF).trans y6
 have t7:=(k2.block w.heap.size (by omega) fun e=>by have:=hF _ e;omega).trans t6
 have u7:=(k2.block (w.heap.size+1) l2 fun e=>by have:=hF _ e;omega).trans u6
 have hz:=pI.size
 have o7:Out F w W:=(Out.of_below pI).trans k2 fun g hg=>.inl hg
 have n7:∀g,F1 g→F g∨w.heap.size≤g:=fun g hg=>(k3 g hg).imp id fun e=>by omega
 by_cases he:e=0
 ·subst he
  obtain⟨Z,hZ,PZ,gZ,fr⟩:=afP y7 x
  obtain⟨_,_,q2,q3,q4,q5,q6,q7,_⟩:=mH y7
  have f2:=fr 2;have f3:=fr 3;have f4:=fr 4;have f5:=fr 5;have f6:=fr 6;have f7:=fr 7
  have s7:=ai t7 0 rfl
  obtain⟨r0,r1,r2,r3,r4,r5⟩:=aN u7
  have hFp:¬F1 p:=fun e=>by
   rcases n7 p e with e|e
   ·exact hpF e
   ·omega
  have oZ:Out (fun g=>g=p) W Z:=Out.aQ gZ fun i hi=>by simpa using hi.symm
  have R:Hid (∃F',Pk q F' Z d'∧Z.heap[p]? =some (.cells (eF q off x vw en vr vs) 94 (0,0))∧Out (fun g=>F g∨g=p) w Z∧∀g,F' g→F g∨w.heap.size≤g):=hide ⟨F1,k1.agree fun g hg=>oZ.block g (k1.lt g hg) fun e=>hFp (e▸hg),PZ,(Out.mono (G:=fun g=>F g∨g=p) o7 fun g hg=>Or.inl (Or.inl hg)).trans oZ fun g hg=>Or.inl (Or.inr hg),n7⟩
  clear k1 k2 k3 y6 t6 u6 y7 t7 u7 pI o7 n7 gZ PZ fr oZ hFp HO FX HH hF hpF
  go_wp2
  go_ret
  exact⟨rfl,R.out⟩
 ·have he':(e==0)=false:=by simpa using he
  have R:Hid (∃F',Pk q F' W d'∧W.heap[p]? =some (.cells (eF q off y vw en vr vs) 94 (0,0))∧Out (fun g=>F g∨g=p) w W∧∀g,F' g→F g∨w.heap.size≤g):=hide ⟨F1,k1,y7,Out.mono (G:=fun g=>F g∨g=p) o7 fun g hg=>Or.inl (Or.inl hg),n7⟩
  clear k1 k2 k3 y6 t6 u6 y7 t7 u7 pI o7 n7 HO FX HH hF hpF
  go_wp2
  go_ret
  exact⟨rfl,R.out⟩
end Go.Proofs.YtmngcecomcadkaaGreatDoor
namespace Go.Proofs.YtmngcecomcadkaaGreatDoor
open Go.RowKit
open Bm (Ov)
set_option linter.unusedVariables false
theorem afA (p q:Nat)(F1:Nat→Prop)(w:World)(d:Dm.Ds)(bk:Bool)(v:Value)(hB:w.heap[p]? =some (.cells #[.pointer (some ⟨q,0,none⟩),.bool bk,v] 198 (0,0)))(h1:Pk q F1 w d):
  Calls Tryz.prog 208 #[.pointer (some ⟨p,0,none⟩)] w fun E w'=>(E=.returned (.int .i64 6)∧Out (fun g=>g=p) w w')∨(E=.returned (.int .i64 0)∧w=w'):=by
 have HM:=hide (ac9 p q w _ _ hB)
 have HO:=hide (afv q F1 w d h1)
 have c0:=ai hB 0 rfl
 have c1:=ai hB 1 rfl
 have f1:=aA hB 1
 simp only[List.getElem_toArray,List.getElem_cons_zero,List.getElem_cons_succ]at c0 c1
 have OX:Hid (Out (fun g=>g=p) w (w.setCell ⟨p,1,none⟩ (.bool true))):=hide (Out.aQ (az w ⟨p,1,none⟩ (.bool true)) fun g hg=>by simp at hg;exact hg.symm)
 generalize d.on=on at HO
 clear hB h1
 cases bk<;>cases on
 ·go_enter Tryz.func208,Tryz.ntmps208
  go_wp2_with fail
  refine HM.out.mono ?_
  rintro E w1 ⟨rfl,rfl⟩
  go_wp2_with fail
  refine HO.out.mono ?_
  rintro E w1 ⟨rfl,rfl⟩
  go_wp2
  go_ret
  exact .inl ⟨rfl,OX.out⟩
 ·go_enter Tryz.func208,Tryz.ntmps208
  go_wp2_with fail
  refine HM.out.mono ?_
  rintro E w1 ⟨rfl,rfl⟩
  go_wp2_with fail
  refine HO.out.mono ?_
  rintro E w1 ⟨rfl,rfl⟩
  go_wp2
  go_ret
  exact .inr ⟨rfl,rfl⟩
 ·go_enter Tryz.func208,Tryz.ntmps208
  go_wp2_with fail
  refine HM.out.mono ?_
  rintro E w1 ⟨rfl,rfl⟩
  go_wp2
  go_ret
  exact .inl ⟨rfl,OX.out⟩
 ·go_enter Tryz.func208,Tryz.ntmps208
  go_wp2_with fail
  refine HM.out.mono ?_
  rintro E w1 ⟨rfl,rfl⟩
  go_wp2
  go_ret
  exact .inl ⟨rfl,OX.out⟩
theorem aiA (p q:Nat)(F1:Nat→Prop)(w:World)(d:Dm.Ds)(bk:Bool)(v:Value)(hB:w.heap[p]? =some (.cells #[.pointer (some ⟨q,0,none⟩),.bool bk,v] 198 (0,0)))(h1:Pk q F1 w d):
  Calls Tryz.prog 191 #[.pointer (some ⟨p,0,none⟩),.agg #[.int .i64 0,.int .i64 0,.slice none 0 0]] w fun E w'=>(E=.returned (.int .i64 6)∨E=.returned (.int .i64 2))∧Out (fun g=>g=p) w w':=by
 obtain⟨w1,hw1,aT,aj,hB0⟩:=ak w #[.int .i64 0,.int .i64 0,.slice none 0 0] 228
 have c0:w1.cell? ⟨w.heap.size,0,none⟩=some (.int .i64 0):=ai hB0 0 rfl
 have c1:w1.cell? ⟨w.heap.size,1,none⟩=some (.int .i64 0):=ai hB0 1 rfl
 have c2:w1.cell? ⟨w.heap.size,2,none⟩=some (.slice none 0 0):=ai hB0 2 rfl
 have HR:=hide (afA p q F1 w1 d bk v ((aj.block p (ax hB)).trans hB) (h1.below aj))
 have HFR:=hide (agh 0 0 (.slice none 0 0) [] w1 (dh.nil _) (fun o ho=>by simp at ho) (by simp))
 unfold bK at HFR
 rw[show Rn.chk 0 0 []=2 from rfl]at HFR
 have B1:=hide aj
 clear hB h1 hB0 aj aT
 go_enter Tryz.func191,Tryz.ntmps191
 go_wp2_with fail
 refine HR.out.mono ?_
 rintro E w2 (⟨rfl,o2⟩|⟨rfl,rfl⟩)
 ·have O2:=hide ((Out.of_below (F:=fun g=>g=p) B1.out).trans o2 fun g hg=>.inl hg)
  clear o2 HR
  go_wp2
  go_ret
  exact⟨.inl rfl,O2.out⟩
 ·clear HR
  go_wp2_with fail
  refine HFR.out.mono ?_
  rintro E w2 ⟨vb,rfl,own,au⟩
  obtain⟨ab,cb,hvb,_,_⟩:=own.is.shape
  have O2:=hide (Out.of_below (F:=fun g=>g=p) (B1.out.trans (au.mono B1.out.size)))
  subst hvb
  clear own au
  go_wp2
  go_ret
  exact⟨.inr rfl,O2.out⟩
theorem agj (p q:Nat)(F:Nat→Prop)(w:World)(s:Rl.Rs)(h:RW p q F w s):
  Calls Tryz.prog 150 #[.pointer (some ⟨p,0,none⟩)] w fun E w'=>E=.returned (.bool true)∧Below w.heap.size w w':=by
 obtain⟨F1,G1,h1,⟨v,rs,hv,hG⟩,hF⟩:=h
 have c0:=ai hv.blk 0 rfl
 have c1:=ai hv.blk 1 rfl
 have c2:=ai hv.blk 2 rfl
 simp only[List.getElem_toArray,List.getElem_cons_zero,List.getElem_cons_succ]at c0 c1 c2
 obtain⟨V,hV1,hV,jX,bV,BV,x0,x1,x2⟩:=fJ w 198 (.pointer none) (.bool false) (.slice none 0 0) (.pointer (some ⟨q,0,none⟩)) (.bool s.bk) v
 have ze:=hide (aiA w.heap.size q F1 V s.d s.bk v BV (h1.below bV))
 obtain⟨la,ln,lk,hlv⟩:∃a n k,v=.slice a n k:=by
  obtain⟨a1,k1,h1,_⟩:=hv.log.row.row.shape
  exact⟨a1,_,k1,h1⟩
 have B1:=hide bV
 generalize s.bk=bk at*
 subst hlv
 clear hv h1 hF hG bV BV jX
 go_enter Tryz.func150,Tryz.ntmps150
 go_wp2_with fail
 refine ze.out.mono ?_
 rintro E w2 ⟨rfl|rfl,o2⟩
 all_goals
  have O2:=hide (B1.out.trans (o2.below (base:=w.heap.size) (fun g hg=>by omega) B1.out.size))
  clear o2 ze
  go_wp2
  go_ret
  exact⟨rfl,O2.out⟩
theorem ava {p q:Nat}{F:Nat→Prop}{w w1 w2:World}{r:Rl.Rs}(h:RW p q F w r)(hb:Below w.heap.size w w1)(ht:Tb (w.heap.size+1) w.heap.size w1 [])(hw:w1.alloc (.cells #[.pointer (some ⟨p,0,none⟩),.slice none 0 0,.pointer (some ⟨w.heap.size+1,0,none⟩)] 204)=w2):
  Sk w1.heap.size p (SB w1.heap.size (w.heap.size+1) w.heap.size (.slice none 0 0) []) w2 []∧Below w.heap.size w w2∧∀g,SB w1.heap.size (w.heap.size+1) w.heap.size (.slice none 0 0) [] g→w.heap.size≤g:=by
 obtain⟨W,hW,sz,aF,hB⟩:=ak w1 #[.pointer (some ⟨p,0,none⟩),.slice none 0 0,.pointer (some ⟨w.heap.size+1,0,none⟩)] 204
 rw[hw]at hW
 subst hW
 have hs:=hb.size
 have hge:∀g,SB w1.heap.size (w.heap.size+1) w.heap.size (.slice none 0 0) [] g→w.heap.size≤g:=by
  rintro g (e|e|e|e|⟨c,hc,_⟩)
  ·omega
  ·omega
  ·omega
  ·simp[Value.ownBlock]at e
  ·simp at hc
 exact⟨⟨_,_,_,_,⟨hB,Rt.nil _ _,ht.below aF⟩,rfl⟩,hb.trans (aF.mono hs),hge⟩
theorem alX (p q:Nat)(F:Nat→Prop)(w:World)(r:Rl.Rs)(vr:Value)(rs:List Cw)(h:RW p q F w r)(hr:di w vr rs)(hf:dL rs)(hl:rs.length≤100000):
  Calls Tryz.prog 110 #[.pointer (some ⟨p,0,none⟩),vr] w fun E w'=>((Cm.fol 1 (Cm.lastN 0 r.l) 0 (ay rs)).1≠0∧E=.returned (.tuple #[.pointer none,.int .i64 (Cm.fol 1 (Cm.lastN 0 r.l) 0 (ay rs)).1])∧Below w.heap.size w w')∨((Cm.fol 1 (Cm.lastN 0 r.l) 0 (ay rs)).1=0∧∃ps,E=.returned (.tuple #[.pointer (some ⟨ps,0,none⟩),.int .i64 0])∧∃G,Sk ps p G w' (ay rs)∧(∀g,G g→w.heap.size≤g)∧Below w.heap.size w w'):=by
 have HM:=hide (agj p q F w r h)
 have HW:=hide h
 have HI:=hide hr
 have HFC:=hide hf
 have hgl:=Rl.eO h.good
 obtain⟨ra,rk,hvr,_,_⟩:=hr.1.shape
 obtain⟨fe,hfe⟩:∃x,(Cm.fol 1 (Cm.lastN 0 r.l) 0 (ay rs)).1=x:=⟨_,rfl⟩
 obtain⟨fp,hfp⟩:∃x,(Cm.fol 1 (Cm.lastN 0 r.l) 0 (ay rs)).2=x:=⟨_,rfl⟩
 have hat:=Cm.oI (ay rs) 1 (Cm.lastN 0 r.l) 0
 rw[hfe,hfp]at hat
 rw[hfe]
 have HAT:=hide hat
 have HGD:Hid (fe=0→Cm.Good 1 (Cm.lastN 0 r.l) (ay rs)):=hide fun e=>(Cm.dZ _ _ _ 0).1 (by rw[hfe];exact e)
 have HFE:=hide (And.intro hfe hfp)
 obtain⟨n,hn⟩:∃n,rs.length=n:=⟨_,rfl⟩
 have HN:=hide hn
 rw[hn]at hvr hl
 have HVR:=hide hvr
 have q1:=Tryz.zV fe fp 0 0
 have q2:=Tryz.oG .neq
 clear h hr hf hat hfe hfp hn hgl
 rw[hvr]
 clear hvr
 go_enter Tryz.func110,Tryz.ntmps110
 go_wp2_with fail
 refine HM.out.mono ?_
 rintro E w1 ⟨rfl,aj⟩
 have W1:=hide (HW.out.below aj)
 have I1:=hide (show di w1 vr rs from⟨HI.out.1.below aj,fun c hc=>⟨(HI.out.2 c hc).1.below aj,(HI.out.2 c hc).2⟩⟩)
 have HE:=hide (lQ p q F w1 r W1.out)
 have B1:=hide aj
 clear HM aj
 go_wp2_with fail
 refine HE.out.mono ?_
 rintro E w2 ⟨rfl,rfl⟩
 have HF:=hide (jA 1 (Cm.lastN 0 r.l) vr rs w1 I1.out HFC.out (by have:=HN.out;omega))
 unfold rE at HF
 rw[HFE.out.1,HFE.out.2,HVR.out]at HF
 clear HE
 go_wp2_with fail
 refine HF.out.mono ?_
 rintro E w2 ⟨rfl,au⟩
 obtain⟨w3,hw3,hw32,cB,aD,hF3,x0,x1⟩:=nC w2 31 (.int .i64 0) (.int .i64 0) (.int .i64 fe) (.int .i64 fp)
 have b13:=au.trans (aD.mono au.size)
 have B3:=hide (B1.out.trans (b13.mono B1.out.size))
 have W3:=hide (W1.out.below b13)
 have I3:=hide (show di w3 vr rs from⟨I1.out.1.below b13,fun c hc=>⟨(I1.out.2 c hc).1.below b13,(I1.out.2 c hc).2⟩⟩)
 have HF3:=hide hF3
 clear HF au aD b13 hF3 W1 I1 HW HI B1 cB
 by_cases hf0:fe=0
 ·have hp0:=HAT.out hf0
  have gd:=HGD.out hf0
  subst hf0
  subst hp0
  have GD:=hide gd
  have z0:w3.setCell ⟨w2.heap.size,0,none⟩ (.int .i64 0)=w3:=aJ HF3.out (j:=0) rfl
  have z1:w3.setCell ⟨w2.heap.size,1,none⟩ (.int .i64 0)=w3:=aJ HF3.out (j:=1) rfl
  have f0:=aA HF3.out 0
  have f1:=aA HF3.out 1
  clear gd HGD HAT HFE HF3
  go_wp2_with fail
  refine(apn w3).mono ?_
  rintro E w4 ⟨rfl,T4,b4⟩
  obtain⟨w5,qU⟩:∃x,w4.alloc (.cells #[.pointer (some ⟨p,0,none⟩),.slice none 0 0,.pointer (some ⟨w3.heap.size+1,0,none⟩)] 204)=x:=⟨_,rfl⟩
  obtain⟨S5,b35,hge⟩:=ava W3.out b4 T4 qU
  have Q0:Hid (∃G,Sk w4.heap.size p G w5 (ay (rs.take 0))∧(∀g,G g→w3.heap.size≤g)∧Below w3.heap.size w3 w5):=hide ⟨_,S5,hge,b35⟩
  clear S5 b35 hge T4 b4
  go_wp2
  go_loopw [28] (fun iv wr=>∃k:Nat,k≤n∧iv=.int .i64 k∧Hid (∃G,Sk w4.heap.size p G wr (ay (rs.take k))∧(∀g,G g→w3.heap.size≤g)∧Below w3.heap.size w3 wr)) (fun iv _=>n-(intOf iv).toNat)
  case atStart=>exact⟨0,by omega,rfl,Q0⟩
  case round=>
   obtain⟨k,hk,rfl,HQ⟩:=hrel
   clear Q0
   by_cases hlt:k<n
   ·obtain⟨⟨ce,cn,cv,cl⟩,hc⟩:∃c,rs[k]? =some c:=⟨rs[k]'(by have:=HN.out;omega),by rw[List.getElem?_eq_getElem]⟩
    obtain⟨g,off,cq,iw,_,_,hgw,hcell⟩:=I3.out.1.full (by have:=HN.out;omega)
    rw[HN.out,HVR.out]at iw
    simp only[Value.slice.injEq,true_and]at iw
    obtain⟨rfl,rfl⟩:=iw
    obtain⟨c0,c1,c2⟩:=hcell k _ hc
    have hm:=List.mem_of_getElem? hc
    obtain⟨G,⟨pm,bm,v,rr,hs,rfl⟩,hge,BR⟩:=HQ.out
    have kT:=((I3.out.2 _ hm).1).below BR
    have d0:=(BR.cell (p:=⟨g,off+k*3,none⟩) hgw).trans c0
    have d1:=(BR.cell (p:=⟨g,off+k*3+1,none⟩) hgw).trans c1
    have d2:=(BR.cell (p:=⟨g,off+k*3+2,none⟩) hgw).trans c2
    obtain⟨oa,ok,hvo,_,_⟩:=kT.shape
    obtain⟨wc,hwc,hwc2,szc,si,bC,y0,y1,y2⟩:=fJ wr 35 (.int .i64 0) (.int .i64 0) (.slice none 0 0) (.int .i64 ce) (.int .i64 cn) cv
    have hnx:=an4 hc
    have hgk:Cm.Good 1 (Cm.lastN 0 r.l) (ay (rs.take k)):=by
     rw[nA]
     exact Cm.gL GD.out _
    have hch:Cm.chk ce cn cl=0:=(Sto.iG GD.out _ (List.mem_map.2 ⟨_,hm,rfl⟩)).1
    have HA:=hide (acU w4.heap.size p pm bm wc (ay (rs.take k)) v rr ⟨ce,cn,cv,cl⟩ (hs.below si) (kT.below si) hch (fun hp b hb hf=>by
     have h1:=hge b hf
     obtain⟨g',off',cap',hv',_,_,hg',_⟩:=((I3.out.2 _ hm).1).full hp
     simp only at hv' hb
     rw[hv']at hb
     simp[Value.ownBlock]at hb
     omega) (by rw[ay,List.length_map,List.length_take];omega) (Sto.agP hgk))
    unfold bK at HA
    simp only at c0 c1 c2 d0 d1 d2 hvo HA
    rw[show ay (rs.take k)++[(⟨ce,cn,cv,cl⟩:Cw).c]=ay (rs.take (k+1))from hnx.symm]at HA
    subst hvo
    have hlt':(k:Int)<n:=by omega
    have hk0:(0:Int)≤(k:Int):=by omega
    have HX:=hide (And.intro BR (And.intro si hge))
    clear hcell c0 c1 c2 hc hm kT bC si hnx hgk hch hs BR hge
    go_wp2_with fail
    refine HA.out.mono ?_
    rintro E w6 ⟨⟨uu,rfl⟩,S6⟩
    have HQ2:Hid (∃G,Sk w4.heap.size p G w6 (ay (rs.take (k+1)))∧(∀g,G g→w3.heap.size≤g)∧Below w3.heap.size w3 w6):=hide (by
     obtain⟨BR,si,hge⟩:=HX.out
     obtain⟨G',k1,k2,k3⟩:=S6
     have b1:=BR.trans (si.mono BR.size)
     have hz:=b1.size
     refine⟨G',k1,fun g hg=>?_,b1.trans (k2.below hge hz)⟩
     rcases k3 g hg with e|e
     ·exact hge g e
     ·omega)
    clear S6 HA HX
    go_wp2
    go_roundw
    case rel=>exact⟨k+1,by omega,by go_num,HQ2⟩
    case measure=>simp[intOf];omega
   ·have hlt':¬(k:Int)<n:=by omega
    obtain rfl:k=n:=by omega
    have HQ2:=HQ.out
    rw[List.take_of_length_le (by have:=HN.out;omega)]at HQ2
    have FIN:Hid (∃G,Sk w4.heap.size p G wr (ay rs)∧(∀g,G g→w.heap.size≤g)∧Below w.heap.size w wr):=hide (by
     obtain⟨G,k1,k2,k3⟩:=HQ2
     exact⟨G,k1,fun g hg=>Nat.le_trans B3.out.size (k2 g hg),B3.out.trans (k3.mono B3.out.size)⟩)
    clear HQ2 HQ
    go_wp2
    go_ret2
    first|exact⟨_,rfl,FIN.out⟩|exact .inr ⟨rfl,_,rfl,FIN.out⟩
 ·have hne:(fe==0)=false:=by simpa using hf0
  go_wp2
  go_quiet (fail)
  go_wp2
  go_ret2
  first|exact⟨rfl,below_drewN B3.out _⟩|exact .inl ⟨hf0,rfl,below_drewN B3.out _⟩
end Go.Proofs.YtmngcecomcadkaaGreatDoor
namespace Go.Proofs.YtmngcecomcadkaaGreatDoor
open Go.RowKit
set_option linter.unusedVariables false
structure pM (p q pw pr ps:Nat) (Gw Gr Gs:Nat→Prop) (w:World) (s:Rst.St) (lw:List Cm.Cv) (bw br:Bool):Prop where
 blk:w.heap[p]? =some (.cells (eF q s.off s.p (.pointer (some ⟨pw,0,none⟩)) s.l.length (.pointer (some ⟨pr,0,none⟩)) (.pointer (some ⟨ps,0,none⟩))) 94 (0,0))
 wal:Wk pw q Gw w lw bw
 run:Rk pr q Gr w s.r br
 sto:Sk ps pr Gs w (s.l.drop (Cm.lastN 0 s.r).toNat)
 log:s.l=lw.take s.l.length
 live:s.off=false→lw=s.l∧bw=false∧br=false
 ok:Pm.Ok s.p
 fit:eU s.p
 rest:Cm.Good 1 (Cm.lastN 0 s.r) (s.l.drop (Cm.lastN 0 s.r).toNat)
 le:Cm.lastN 0 s.r≤s.l.length
 np:¬Gw p∧¬Gr p∧¬Gs p
 wr:∀g,Gw g→¬Gr g
 ws:∀g,Gw g→¬Gs g
 rs:∀g,Gr g→¬Gs g
def PB (p:Nat) (Gw Gr Gs:Nat→Prop) (g:Nat):Prop:=g=p∨Gw g∨Gr g∨Gs g
def PO (p q:Nat) (G:Nat→Prop) (w:World) (s:Rst.St):Prop:=∃pw pr ps Gw Gr Gs lw bw br,pM p q pw pr ps Gw Gr Gs w s lw bw br∧G=PB p Gw Gr Gs
section
variable {p q pw pr ps:Nat} {G Gw Gr Gs:Nat→Prop} {w w':World} {s:Rst.St} {lw:List Cm.Cv} {bw br:Bool}
theorem pM.lt (h:pM p q pw pr ps Gw Gr Gs w s lw bw br):∀g,PB p Gw Gr Gs g→g<w.heap.size:=by
 rintro g (rfl|e|e|e)
 ·exact ax h.blk
 ·exact h.wal.lt g e
 ·exact h.run.lt g e
 ·exact h.sto.lt g e
theorem pM.agree (h:pM p q pw pr ps Gw Gr Gs w s lw bw br)(ha:∀g,PB p Gw Gr Gs g→w'.heap[g]? =w.heap[g]?):pM p q pw pr ps Gw Gr Gs w' s lw bw br:=
 ⟨(ha p (.inl rfl)).trans h.blk,h.wal.agree fun g e=>ha g (.inr (.inl e)),h.run.agree fun g e=>ha g (.inr (.inr (.inl e))),h.sto.agree fun g e=>ha g (.inr (.inr (.inr e))),h.log,h.live,h.ok,h.fit,h.rest,h.le,h.np,h.wr,h.ws,h.rs⟩
theorem pM.below (h:pM p q pw pr ps Gw Gr Gs w s lw bw br)(hb:Below w.heap.size w w'):pM p q pw pr ps Gw Gr Gs w' s lw bw br:=h.agree fun g hg=>hb.block g (h.lt g hg)
theorem PO.lt (h:PO p q G w s):∀g,G g→g<w.heap.size:=by
 obtain⟨pw,pr,ps,Gw,Gr,Gs,lw,bw,br,h,rfl⟩:=h
 exact h.lt
theorem PO.agree (h:PO p q G w s)(ha:∀g,G g→w'.heap[g]? =w.heap[g]?)(hs:w.heap.size≤w'.heap.size):PO p q G w' s:=by
 obtain⟨pw,pr,ps,Gw,Gr,Gs,lw,bw,br,h,rfl⟩:=h
 exact⟨pw,pr,ps,Gw,Gr,Gs,lw,bw,br,h.agree ha,rfl⟩
theorem PO.disk (h:PO p q G w s)(d':Dm.Ds):PO p q G w ⟨d',s.p,s.l,s.r,s.off⟩:=by
 obtain⟨pw,pr,ps,Gw,Gr,Gs,lw,bw,br,h,rfl⟩:=h
 exact⟨pw,pr,ps,Gw,Gr,Gs,lw,bw,br,⟨h.blk,h.wal,h.run,h.sto,h.log,h.live,h.ok,h.fit,h.rest,h.le,h.np,h.wr,h.ws,h.rs⟩,rfl⟩
theorem PO.fit (h:PO p q G w s):eU s.p:=by
 obtain⟨pw,pr,ps,Gw,Gr,Gs,lw,bw,br,h,rfl⟩:=h
 exact h.fit
theorem pM.ww {F:Nat→Prop}(h:pM p q pw pr ps Gw Gr Gs w s lw bw br)(hd:Pk q F w s.d):WW pw q (fun g=>F g∨Gw g) w ⟨s.d,lw,bw⟩:=⟨F,Gw,hd,h.wal,rfl⟩
theorem pM.rw {F:Nat→Prop}(h:pM p q pw pr ps Gw Gr Gs w s lw bw br)(hd:Pk q F w s.d):RW pr q (fun g=>F g∨Gr g) w ⟨s.d,s.r,br⟩:=⟨F,Gr,hd,h.run,rfl⟩
theorem pM.good (h:pM p q pw pr ps Gw Gr Gs w s lw bw br):Rl.Good 0 s.r:=by
 obtain⟨v,rs,h1,_⟩:=h.run
 exact h1.log.good
end
def PS (p q:Nat) (F:Nat→Prop) (w:World) (s:Rst.St):Prop:=∃F1 G,Pk q F1 w s.d∧PO p q G w s∧(∀g,G g→¬F1 g)∧eH w∧F=fun g=>F1 g∨G g
def bI (p q:Nat) (F:Nat→Prop) (w w':World) (s':Rst.St):Prop:=∃F',PS p q F' w' s'∧Out F w w'∧∀g,F' g→F g∨w.heap.size≤g
def pG (s:Rst.St):Prop:=Big 50000000 500000 s.d∧s.l.length≤2000
section
variable {p q:Nat} {F G:Nat→Prop} {w w':World} {s:Rst.St}
theorem PO.out (h:PO p q G w s)(ho:Out F w w')(hd:∀g,G g→¬F g):PO p q G w' s:=h.agree (fun g hg=>ho.block g (h.lt g hg) (hd g hg)) ho.size
theorem PS.lt (h:PS p q F w s):∀g,F g→g<w.heap.size:=by
 obtain⟨F1,G,h1,h2,_,_,rfl⟩:=h
 rintro g (e|e)
 ·exact h1.lt g e
 ·exact h2.lt g e
theorem PS.agree (h:PS p q F w s)(ha:∀g,F g→w'.heap[g]? =w.heap[g]?)(hs:w.heap.size≤w'.heap.size)(hm:eH w'):PS p q F w' s:=by
 obtain⟨F1,G,h1,h2,h3,_,rfl⟩:=h
 exact⟨F1,G,h1.agree fun g hg=>ha g (.inl hg),h2.agree (fun g hg=>ha g (.inr hg)) hs,h3,hm,rfl⟩
theorem PS.gz (h:PS p q F w s):eH w:=by
 obtain⟨_,_,_,_,_,h,_⟩:=h
 exact h
theorem PS.fit (h:PS p q F w s):eU s.p:=by
 obtain⟨_,_,_,h,_⟩:=h
 exact h.fit
theorem gI (hm:eH w)(ho:Out F w w')(h0:¬F 0):eH w':=by
 have e:∀j,w'.cell? ⟨0,j,none⟩=w.cell? ⟨0,j,none⟩:=fun j=>by
  have:=ho.block 0 hm.pos h0
  simp[World.cell?,this]
 exact⟨(e 0).trans hm.c0,(e 1).trans hm.c1,(e 2).trans hm.c2,(e 3).trans hm.c3,(e 4).trans hm.c4,(e 5).trans hm.c5⟩
theorem PS.disk (h:PS p q F w s)(h0:¬F 0):∃F1,Pk q F1 w s.d∧(∀g,F1 g→F g)∧∀w' d',aV q F1 w w' d'→bI p q F w w' ⟨d',s.p,s.l,s.r,s.off⟩:=by
 obtain⟨F1,G,h1,h2,h3,hm,rfl⟩:=h
 refine⟨F1,h1,fun g hg=>.inl hg,fun w' d' k=>?_⟩
 obtain⟨F2,k1,k2,k3⟩:=k
 refine⟨fun g=>F2 g∨G g,⟨F2,G,k1,(h2.out k2 h3).disk d',fun g hg hF=>?_,gI hm k2 fun e=>h0 (.inl e),rfl⟩,k2.mono fun g hg=>.inl (.inl hg),?_⟩
 ·rcases k3 g hF with e|e
  ·exact h3 g hg e
  ·have:=h2.lt g hg;omega
 ·rintro g (e|e)
  ·rcases k3 g e with e|e
   ·exact .inl (.inl e)
   ·exact .inr e
  ·exact .inl (.inr e)
end
theorem anA (l:List Cm.Cv)(n:Nat)(h:n≤l.length):yJ l 1 n=l.take n:=by
 unfold yJ
 split
 ·rename_i k
  rcases n with _|n
  ·simp
  ·exfalso;omega
 ·simp
theorem gL {l:List Cm.Cv}(h:Cm.Good 0 0 l)(n:Nat):Cm.Good 0 0 (l.take n):=by
 rw[←List.take_append_drop n l]at h
 exact((Cm.fI _ _ _ _).1 h).1
theorem acJ (p q:Nat)(F:Nat→Prop)(w:World)(s:Rst.St)(h:PS p q F w s)(hR:pG s):Calls Tryz.prog 12 #[.pointer (some ⟨p,0,none⟩)] w fun E w'=>E=.returned (vp s.p)∧Below w.heap.size w w':=by
 obtain⟨F1,G,h1,⟨pw,pr,ps,Gw,Gr,Gs,lw,bw,br,V,rfl⟩,h3,hm,rfl⟩:=h
 have hb:=V.blk
 have hpl:=ax hb
 obtain⟨w1,hw1,s1,b1,P1⟩:=ak w #[.int .i64 0,.int .u8 0,.int .i64 0,.int .u8 0,.int .i64 0,.int .i64 0] 46
 obtain⟨c0,c1,c2,c3,c4,c5,c6,c7,c8,c9,c10,c11,c12⟩:=mH ((b1.block p hpl).trans hb)
 have HM:=hide (rT p q w1 c0)
 obtain⟨V',hV',dN,cZ,⟨a0,a1,a2,a3,a4,a5⟩,fr,⟨z0,z1,z2,z3,z4,z5⟩⟩:=eu P1 (.int .i64 s.p.e) (.int .u8 s.p.r) (.int .i64 s.p.a) (.int .u8 s.p.p) (.int .i64 s.p.f) (.int .i64 s.p.b)
 have f0:=fr 0;have f1:=fr 1;have f2:=fr 2;have f3:=fr 3;have f4:=fr 4;have f5:=fr 5
 have BV:=hide (aB b1 cZ (Nat.le_refl _) (by omega))
 clear V h1 h3 hm hb b1 P1 dN cZ fr s1 hpl hR
 go_enter Tryz.func12,Tryz.ntmps12
 go_wp2_with fail
 refine HM.out.mono ?_
 rintro E w2 ⟨rfl,rfl⟩
 clear HM
 go_wp2
 refine bodyPost_ret (v:=vp s.p) (by simp[results,Tryz.results12,go_sem,z0,z1,z2,z3,z4,z5,vp]) rfl ?_
 exact⟨rfl,BV.out⟩
theorem afL (p q:Nat)(F:Nat→Prop)(w:World)(s:Rst.St)(h:PS p q F w s)(hR:pG s):Calls Tryz.prog 20 #[.pointer (some ⟨p,0,none⟩)] w fun E w'=>E=.returned (.int .i64 s.l.length)∧Below w.heap.size w w':=by
 obtain⟨F1,G,h1,⟨pw,pr,ps,Gw,Gr,Gs,lw,bw,br,V,rfl⟩,h3,hm,rfl⟩:=h
 obtain⟨c0,c1,c2,c3,c4,c5,c6,c7,c8,c9,c10,c11,c12⟩:=mH V.blk
 have HM:=hide (rT p q w c0)
 clear V h1 h3 hm hR
 generalize (s.l.length:Int)=n at*
 go_enter Tryz.func20,Tryz.ntmps20
 go_wp2_with fail
 refine HM.out.mono ?_
 rintro E w2 ⟨rfl,rfl⟩
 clear HM
 go_wp2
 go_ret
 exact⟨rfl,Below.refl _ _⟩
theorem aab (p q:Nat)(F:Nat→Prop)(w:World)(s:Rst.St)(h:PS p q F w s)(hR:pG s):Calls Tryz.prog 17 #[.pointer (some ⟨p,0,none⟩)] w fun E w'=>∃v rs,E=.returned v∧fT w.heap.size w' v rs∧ay rs=s.l∧Below w.heap.size w w':=by
 obtain⟨F1,G,h1,⟨pw,pr,ps,Gw,Gr,Gs,lw,bw,br,V,rfl⟩,h3,hm,rfl⟩:=h
 have hb:=V.blk
 have hpl:=ax hb
 obtain⟨c0,c1,c2,c3,c4,c5,c6,c7,c8,c9,c10,c11,c12⟩:=mH V.blk
 have HM:=hide (rT p q w c0)
 have hl:s.l.length≤lw.length:=by
  have:=congrArg List.length V.log
  rw[List.length_take]at this
  omega
 have hg:Cm.Good 0 0 s.l:=by rw[V.log];exact gL V.wal.good _
 have HF:Hid (Calls Tryz.prog 34 #[.pointer (some ⟨pw,0,none⟩),.int .i64 1,.int .i64 s.l.length] w.drew fun E w'=>∃v rs,E=.returned v∧Hid (fT w.heap.size w' v rs∧ay rs=s.l)∧Below w.heap.size w w'∧w'.cell? ⟨p,8,none⟩=some (.pointer (some ⟨pw,0,none⟩))∧w'.cell? ⟨p,9,none⟩=some (.int .i64 s.l.length)∧w'.cell? ⟨p,10,none⟩=some (.slice none 0 0)):=hide (by
  have hd:Below w.heap.size w w.drew:=(Below.refl _ _).drew
  refine(wU pw q _ w.drew _ 1 s.l.length ((V.ww h1).below hd)).mono ?_
  rintro E w' ⟨v,rs,rfl,o1,o2,o3,o4,o5⟩
  have o3:ay rs=s.l:=by rw[o3,anA lw _ hl];exact V.log.symm
  have o5:Below w.heap.size w w':=hd.trans o5
  obtain⟨f1,f2⟩:=aem hg o3
  obtain⟨_,_,_,_,_,_,_,_,k8,k9,k10,_⟩:=mH ((o5.block p hpl).trans hb)
  exact⟨v,rs,rfl,hide ⟨⟨o1,o2,fun c hc=>⟨(f2 c hc).1,(f2 c hc).2.1⟩,o4,f1⟩,o3⟩,o5,k8,k9,k10⟩)
 generalize (s.l.length:Int)=n at*
 clear V h1 h3 hm hR hb hg hl hpl
 go_enter Tryz.func17,Tryz.ntmps17
 go_wp2_with fail
 refine HM.out.mono ?_
 rintro E w2 ⟨rfl,rfl⟩
 clear HM
 go_wp2_with fail
 go_region_held3 (fun w'=>w'.cell? ⟨p,8,none⟩=some (.pointer (some ⟨pw,0,none⟩))∧w'.cell? ⟨p,9,none⟩=some (.int .i64 n)) (first|exact⟨c8,c9⟩|exact⟨d8,d9⟩|go_keep)
  (first
  |(go_at_call 34;refine HF.out.mono ?_;rintro E w3 ⟨vv,rs,rfl,X,b3,d8,d9,d10⟩;have B3:=hide b3;clear b3))
 clear HF
 go_wp2_with fail
 go_loopw [3,26] (fun v3 iv wr=>v3=vv∧iv=.int .i64 0∧wr=w3) (fun _ _ _=>0)
 case atStart=>exact⟨rfl,rfl,rfl⟩
 case round=>
  obtain⟨rfl,rfl,rfl⟩:=hrel
  go_wp2
  go_ret
  exact⟨_,rs,rfl,X.out.1,X.out.2,B3.out⟩
end Go.Proofs.YtmngcecomcadkaaGreatDoor
