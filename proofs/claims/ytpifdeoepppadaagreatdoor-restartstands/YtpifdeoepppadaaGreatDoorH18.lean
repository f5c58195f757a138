/- Texts of one layer, one behind the other. -/
import Derived.Test.YtpifdeoepppadaaGreatDoorH4
import Derived.Test.YtpifdeoepppadaaGreatDoorZRqe
import Derived.Test.YtpifdeoepppadaaGreatDoorG11
import Derived.Test.YtpifdeoepppadaaGreatDoorZRtm
import Derived.Test.YtpifdeoepppadaaGreatDoorH3
set_option maxRecDepth 100000
set_option maxHeartbeats 8000000
namespace Go.Proofs.YtpifdeoepppadaaGreatDoor
open Go.RowKit
set_option linter.unusedVariables false
def Chg (w:World) (p:Nat) (f:FuncId) (cap:Array Value) (x:Pm.Pg) (ep en rn:Int) (x':Pm.Pg) (ep' en' rn':Int):Prop:=
 ∀W g,Below w.heap.size w W→w.heap.size≤g→W.heap[g]? =some (.cells (jy x ep en rn p) 95 (0,0))→Calls Tryz.prog f (#[.pointer (some ⟨g,0,none⟩)]++cap) W fun E w'=>E=.returned (.tuple #[])∧w'.heap[g]? =some (.cells (jy x' ep' en' rn' p) 95 (0,0))∧Out (fun i=>i=g) W w'
theorem ym (p q pw pr:Nat)(F F':Nat→Prop)(w:World)(off:Bool)(x:Pm.Pg)(en:Int)(vs:Value)(sw:Wl.Ws)(sr:Rl.Rs)(hb:w.heap[p]? =some (.cells (fw q off x (.pointer (some ⟨pw,0,none⟩)) en (.pointer (some ⟨pr,0,none⟩)) vs) 60 (0,0)))(h1:WW pw q F w sw)(h2:RW pr q F' w sr)
  (f:FuncId) (cap:Array Value) (eg:∀args w,(callFunc f args).run Tryz.prog w=.ok (.enter f args) w) (x':Pm.Pg) (ep' en' rn' b:Int) (hch:Chg w p f cap x (Cm.lastE 0 sw.l) en (Cm.lastN 0 sr.l) x' ep' en' rn')
  (hS:(x'.p=2∨x'.p=3∨x'.p=4)→∀W,Below w.heap.size w W→Calls Tryz.prog 114 #[.pointer (some ⟨p,0,none⟩)] W fun E w'=>E=.returned (.int .i64 b)∧Below W.heap.size W w'):
  Calls Tryz.prog 56 #[.pointer (some ⟨p,0,none⟩),.func (.func f) #[] cap] w fun E w'=>E=.returned (.int .i64 (if chO x' ep' en' rn' b=true then 0 else 5))∧Below w.heap.size w w':=by
 have hsf:∀(a:Addr) (fn:Fn) (first cap:Array Value) (w:World),(store a (.func fn first cap)).run Tryz.prog w=stored Tryz.prog w a (.func fn first cap) .plain:=fun a fn first cap w=>run_store _ w a _ _ rfl
 have OL:=hide (aap p q pw pr F F' w off x en vs sw sr hb h1 h2)
 have CH:=hide hch
 have HS:=hide hS
 generalize Cm.lastE 0 sw.l=ep at*
 generalize Cm.lastN 0 sr.l=rn at*
 obtain⟨r,hr⟩:∃r,(if chO x' ep' en' rn' b=true then(0:Int)else 5)=r:=⟨_,rfl⟩
 rw[hr]
 have HR:=hide hr
 clear h1 h2 hb hch hS hr
 go_enter Tryz.func56,Tryz.ntmps56
 go_wp2_with fail
 refine OL.out.mono ?_
 rintro E w1 ⟨rfl,b1⟩
 unfold jy
 obtain⟨w2,hw2,s2,b2,P2⟩:=ay w1 #[.int .i64 0,.int .u8 0,.int .i64 0,.int .u8 0,.int .i64 0,.int .i64 0,.int .i64 0,.int .i64 0,.int .i64 0,.nilFunc] 95
 obtain⟨V,hV,bV,gV,⟨a0,a1,a2,a3,a4,a5,a6,a7,a8,a9⟩,fr,⟨z0,z1,z2,z3,z4,z5,z6,z7,z8,z9⟩⟩:=afp P2 (.int .i64 x.e) (.int .u8 x.r) (.int .i64 x.a) (.int .u8 x.p) (.int .i64 x.f) (.int .i64 x.b) (.int .i64 ep) (.int .i64 en) (.int .i64 rn) (.func (.func 114) #[.pointer (some ⟨p,0,none⟩)] #[])
 have f0:=fr 0;have f1:=fr 1;have f2:=fr 2;have f3:=fr 3;have f4:=fr 4;have f5:=fr 5;have f6:=fr 6;have f7:=fr 7;have f8:=fr 8;have f9:=fr 9
 have hs1:=b1.size
 have b12:=b1.trans (b2.mono hs1)
 have bvv:=aK b12 gV hs1 (by omega)
 have hlV:w1.heap.size<V.heap.size:=aA bV
 have C2:=hide (CH.out V w1.heap.size bvv hs1 bV)
 have BV:=hide (And.intro bvv (And.intro hs1 hlV))
 clear OL CH b1 b2 b12 bvv hs1 hlV bV gV fr P2 s2
 go_wp2_with fail
 refine C2.out.mono ?_
 rintro E w3 ⟨rfl,P3,o3⟩
 unfold jy at P3
 obtain⟨y0,y1,y2,y3,y4,y5,y6,y7,y8,y9⟩:=ni P3
 have b3:Below w.heap.size w w3:=BV.out.1.trans (o3.below (fun g hg=>by rw[hg];exact BV.out.2.1) BV.out.1.size)
 have C3:=hide (acG p x' ep' en' rn' b w3 fun k W hW=>HS.out k W (b3.trans (hW.mono b3.size)))
 rw[HR.out]at C3
 unfold jy at C3
 have B3:=hide b3
 clear C2 b3 o3 P3 HR HS z0 z1 z2 z3 z4 z5 z6 z7 z8 z9 a0 a1 a2 a3 a4 a5 a6 a7 a8 a9 f0 f1 f2 f3 f4 f5 f6 f7 f8 f9
 go_wp2_with fail
 refine C3.out.mono ?_
 rintro E w4 ⟨rfl,b4⟩
 have B4:=hide (B3.out.trans (b4.mono B3.out.size))
 clear C3 b4 B3
 go_wp2
 go_ret
 exact⟨rfl,B4.out⟩
theorem at7 (w:World)(p g3:Nat)(x y:Pm.Pg)(ep en rn:Int)(h3:w.heap[g3]? =some (.cells (cp y) 41 (0,0))):Chg w p 79 #[.pointer (some ⟨g3,0,none⟩)] x ep en rn y ep en rn:=by
 intro W g hW hg hP
 show Calls _ _ #[.pointer (some ⟨g,0,none⟩),.pointer (some ⟨g3,0,none⟩)] _ _
 unfold cp at h3
 obtain⟨d0,d1,d2,d3,d4,d5⟩:=bO ((hW.block g3 (aA h3)).trans h3)
 unfold jy at hP⊢
 obtain⟨c0,c1,c2,c3,c4,c5,_⟩:=ni hP
 have fr:=az hP
 have f0:=fr 0;have f1:=fr 1;have f2:=fr 2;have f3:=fr 3;have f4:=fr 4;have f5:=fr 5
 have q0:=aL hP 0 (.int .i64 y.e)
 have q1:=aL q0 1 (.int .u8 y.r)
 have q2:=aL q1 2 (.int .i64 y.a)
 have q3:=aL q2 3 (.int .u8 y.p)
 have q4:=aL q3 4 (.int .i64 y.f)
 have q5:=aL q4 5 (.int .i64 y.b)
 have gr:=aO (aO (aO (aO (aO (aC W ⟨g,0,none⟩ (.int .i64 y.e)) (aC _ ⟨g,1,none⟩ (.int .u8 y.r))) (aC _ ⟨g,2,none⟩ (.int .i64 y.a))) (aC _ ⟨g,3,none⟩ (.int .u8 y.p))) (aC _ ⟨g,4,none⟩ (.int .i64 y.f))) (aC _ ⟨g,5,none⟩ (.int .i64 y.b))
 obtain⟨V,hV⟩:∃V,(((((W.setCell ⟨g,0,none⟩ (.int .i64 y.e)).setCell ⟨g,1,none⟩ (.int .u8 y.r)).setCell ⟨g,2,none⟩ (.int .i64 y.a)).setCell ⟨g,3,none⟩ (.int .u8 y.p)).setCell ⟨g,4,none⟩ (.int .i64 y.f)).setCell ⟨g,5,none⟩ (.int .i64 y.b)=V:=⟨_,rfl⟩
 rw[hV]at q5 gr
 have R:Hid (V.heap[g]? =some (.cells #[.int .i64 y.e,.int .u8 y.r,.int .i64 y.a,.int .u8 y.p,.int .i64 y.f,.int .i64 y.b,.int .i64 ep,.int .i64 en,.int .i64 rn,.func (.func 114) #[.pointer (some ⟨p,0,none⟩)] #[]] 95 (0,0))∧Out (fun i=>i=g) W V):=hide ⟨q5,Out.aT gr fun i hi=>by simpa using hi.symm⟩
 clear q0 q1 q2 q3 q4 q5 gr h3 hP fr
 go_enter Tryz.func79,Tryz.ntmps79
 go_wp2
 go_end0
 exact⟨rfl,R.out⟩
theorem an6 (w:World)(p g3:Nat)(x:Pm.Pg)(ep en rn u:Int)(h3:w.heap[g3]? =some (.cells #[.int .i64 u] 3 (0,0))):Chg w p 66 #[.pointer (some ⟨g3,0,none⟩)] x ep en rn x ep en u:=by
 intro W g hW hg hP
 show Calls _ _ #[.pointer (some ⟨g,0,none⟩),.pointer (some ⟨g3,0,none⟩)] _ _
 have d0:=ai ((hW.block g3 (aA h3)).trans h3) 0 rfl
 unfold jy at hP⊢
 obtain⟨c0,c1,c2,c3,c4,c5,c6,c7,c8,c9⟩:=ni hP
 have f8:=az hP 8
 have q8:=aL hP 8 (.int .i64 u)
 have gr:=aC W ⟨g,8,none⟩ (.int .i64 u)
 obtain⟨V,hV⟩:∃V,W.setCell ⟨g,8,none⟩ (.int .i64 u)=V:=⟨_,rfl⟩
 rw[hV]at q8 gr
 have R:Hid (V.heap[g]? =some (.cells #[.int .i64 x.e,.int .u8 x.r,.int .i64 x.a,.int .u8 x.p,.int .i64 x.f,.int .i64 x.b,.int .i64 ep,.int .i64 en,.int .i64 u,.func (.func 114) #[.pointer (some ⟨p,0,none⟩)] #[]] 95 (0,0))∧Out (fun i=>i=g) W V):=hide ⟨q8,Out.aT gr fun i hi=>by simpa using hi.symm⟩
 clear q8 gr h3 hP
 go_enter Tryz.func66,Tryz.ntmps66
 go_wp2
 go_end0
 exact⟨rfl,R.out⟩
theorem anO {W:World}{g p:Nat}{x:Pm.Pg}{ep en rn:Int}(hP:W.heap[g]? =some (.cells (jy x ep en rn p) 95 (0,0)))(u:Int):
  (∃V,W.setCell ⟨g,6,none⟩ (.int .i64 u)=V∧V.heap[g]? =some (.cells (jy x u en rn p) 95 (0,0))∧Out (fun i=>i=g) W V)∧(∃V,W.setCell ⟨g,7,none⟩ (.int .i64 u)=V∧V.heap[g]? =some (.cells (jy x ep u rn p) 95 (0,0))∧Out (fun i=>i=g) W V):=by
 unfold jy at*
 exact⟨⟨_,rfl,aL hP 6 _,Out.aT (aC W ⟨g,6,none⟩ _) fun i hi=>by simpa using hi.symm⟩,⟨_,rfl,aL hP 7 _,Out.aT (aC W ⟨g,7,none⟩ _) fun i hi=>by simpa using hi.symm⟩⟩
theorem aeD:∀(l:List Cm.Cv) (ep:Int) (h:0<l.length),Cm.lastE ep l=(l[l.length-1]).e
 |[c],_,_=>rfl
 |c::d::r,ep,_=>by
  have:=aeD (d::r) c.e (by simp)
  show Cm.lastE c.e (d::r)=_
  rw[this]
  simp
theorem aoO (g p:Nat)(x:Pm.Pg)(ep en rn:Int)(W:World)(v:Value)(rs:List Cw)(hP:W.heap[g]? =some (.cells (jy x ep en rn p) 95 (0,0)))(hc:∀V,Out (fun i=>i=g) W V→fJ V v rs)(h0:0≤en∧en≤1000000)(hl:rs.length≤100):
  Calls Tryz.prog 58 #[.pointer (some ⟨g,0,none⟩),v] W fun E w'=>E=.returned (.tuple #[])∧w'.heap[g]? =some (.cells (jy x (Cm.lastE ep (aD rs)) (en+rs.length) rn p) 95 (0,0))∧Out (fun i=>i=g) W w':=by
 obtain⟨V,hV,PV,oV⟩:=(anO hP (en+rs.length)).2
 obtain⟨Z,hZ,PZ,oZ⟩:=(anO PV (Cm.lastE ep (aD rs))).1
 have hI:=hc V oV
 unfold jy at hP PV
 obtain⟨c0,c1,c2,c3,c4,c5,c6,c7,c8,c9⟩:=ni hP
 obtain⟨d0,d1,d2,d3,d4,d5,d6,d7,d8,d9⟩:=ni PV
 have f7:=az hP 7
 have f6:=az PV 6
 by_cases hn:rs.length=0
 ·obtain rfl:rs=[]:=List.eq_nil_of_length_eq_zero hn
  obtain⟨ao,cap,rfl⟩:∃a k,v=.slice a 0 k:=by
   rcases hI.1 with⟨h,_⟩|⟨a,c,h,_⟩
   ·exact⟨_,_,h⟩
   ·exact⟨_,_,h⟩
  have R:Hid (V.heap[g]? =some (.cells (jy x (Cm.lastE ep (aD [])) (en+([]:List Cw).length) rn p) 95 (0,0))∧Out (fun i=>i=g) W V):=hide ⟨PV,oV⟩
  simp only[List.length_nil,Int.ofNat_zero,Int.add_zero]at hV R⊢
  clear hP PV oV PZ oZ hZ hI hc d0 d1 d2 d3 d4 d5 d6 d7 d8 d9
  go_enter Tryz.func58,Tryz.ntmps58
  go_wp2
  go_end0
  exact⟨rfl,R.out⟩
 ·have hp:0<rs.length:=by omega
  obtain⟨b1,o1,k1,rfl,_,hcell⟩:=jG hI hp
  have hlast:=(hcell (rs.length-1) (rs[rs.length-1]) (by simp)).1
  have he:Cm.lastE ep (aD rs)=(rs[rs.length-1]).e:=by
   rw[aeD (aD rs) ep (by unfold aD;simpa using hp)]
   unfold aD
   simp[Cw.c]
  rw[he]at hZ PZ⊢
  generalize (rs[rs.length-1]).e=le at*
  have R:Hid (Z.heap[g]? =some (.cells (jy x le (en+rs.length) rn p) 95 (0,0))∧Out (fun i=>i=g) W Z):=hide ⟨PZ,oV.trans oZ fun i hi=>.inl hi⟩
  clear hI hc hcell hP PV oV PZ oZ he
  obtain⟨m,hm⟩:∃m,rs.length=m+1:=⟨rs.length-1,by omega⟩
  rw[hm]at hlast R hV hl d7⊢
  have hlast:V.cell? ⟨b1,o1+m*3,none⟩=some (.int .i64 le):=hlast
  clear hp hn hm
  have hcs:((m+1:Nat):Int)=(m:Int)+1:=by omega
  rw[hcs]at hV R d7⊢
  clear hcs
  have hm2:IntKind.i64.wrap (en+((m:Int)+1))=en+((m:Int)+1):=aN _ (by omega) (by omega)
  go_enter Tryz.func58,Tryz.ntmps58
  go_wp2
  go_end0
  exact⟨rfl,R.out⟩
theorem avf (w:World)(p g3:Nat)(x:Pm.Pg)(ep en rn:Int)(v:Value)(rs:List Cw)(h3:w.heap[g3]? =some (.cells #[v] 43 (0,0)))(hc:∀V,Below w.heap.size w V→fJ V v rs)(h0:0≤en∧en≤1000000)(hl:rs.length≤100):Chg w p 57 #[.pointer (some ⟨g3,0,none⟩)] x ep en rn x (Cm.lastE ep (aD rs)) (en+rs.length) rn:=by
 intro W g hW hg hP
 show Calls _ _ #[.pointer (some ⟨g,0,none⟩),.pointer (some ⟨g3,0,none⟩)] _ _
 have d0:=ai ((hW.block g3 (aA h3)).trans h3) 0 rfl
 have GR:=hide (aoO g p x ep en rn W v rs hP (fun V hV=>hc V (hW.trans (hV.below (fun i hi=>by rw[hi];exact hg) hW.size))) h0 hl)
 obtain⟨ao,m,k,rfl⟩:∃a n k,v=.slice a n k:=by
  rcases(hc w (Below.refl _ _)).1 with⟨h,_⟩|⟨a,c,h,_⟩
  ·exact⟨_,_,_,h⟩
  ·exact⟨_,_,_,h⟩
 clear hc h3 hP
 go_enter Tryz.func57,Tryz.ntmps57
 go_wp2_with fail
 refine GR.out.mono ?_
 rintro E w' ⟨rfl,X⟩
 have X:=hide X
 clear GR
 go_wp2
 go_end0
 exact⟨rfl,X.out⟩
end Go.Proofs.YtpifdeoepppadaaGreatDoor
namespace Go.Proofs.YtpifdeoepppadaaGreatDoor
set_option linter.unusedVariables false
def T3 (d:Dm.Ds):Prop:=∃ss,Orp.Ris 0 ss∧Rst.hf 3 d=Orp.secs ss
theorem afA {d d':Dm.Ds}(h:T3 d)(e:Rst.hf 3 d'=Rst.hf 3 d):T3 d':=by
 obtain⟨ss,h1,h2⟩:=h
 exact⟨ss,h1,e.trans h2⟩
theorem acI:T3 Dm.new:=⟨[],trivial,rfl⟩
theorem amm (f j:Nat)(hj:f≠j):∀(n:Nat) (st:Dm.Ds) (bs:List Int),Rst.hf j (Dm.wrt f n st bs).2=Rst.hf j st
 |0,st,bs=>rfl
 |n+1,st,bs=>by
  unfold Dm.wrt
  split
  ·rfl
  split
  ·rfl
  rw[amm f j hj n,Rst.adk,if_neg hj]
theorem abe (d:Dm.Ds)(f:Int)(bs:List Int)(j:Nat)(hj:f.toNat≠j):Rst.hf j (Dm.write d f bs).2=Rst.hf j d:=by
 unfold Dm.write
 split
 ·rfl
 split
 ·rfl
 exact amm _ _ hj _ _ _
theorem lT (d:Dm.Ds)(j:Nat):Rst.hf j (Dm.sync d).2=Rst.hf j d:=by
 unfold Dm.sync
 split
 ·rfl
 split
 ·rfl
 show Dm.hold j (Dm.dof d.sure d.wait j) []=_
 rw[←Dm.eX]
 rfl
theorem avi (d:Dm.Ds)(f:Nat)(bs:List Int)(j:Nat)(hj:f≠j):Rst.hf j (Rst.ext d f bs).2=Rst.hf j d:=by
 have h1:=abe d f bs j (by simpa using hj)
 unfold Rst.ext
 split
 ·exact h1
 split
 ·exact(lT _ j).trans h1
 ·exact(lT _ j).trans h1
theorem amS (j:Nat)(hj:0≠j):∀(cs:List Cm.Cv) (d:Dm.Ds),Rst.hf j (Rst.wrs d cs).2=Rst.hf j d
 |[],d=>rfl
 |c::cs,d=>by
  have h1:=abe d 0 (Wl.fr c) j (by simpa using hj)
  unfold Rst.wrs
  split
  ·exact h1
  ·exact(amS j hj cs _).trans h1
theorem ayu (d:Dm.Ds)(cs:List Cm.Cv)(j:Nat)(hj:0≠j):Rst.hf j (Rst.fK d cs).2=Rst.hf j d:=by
 have h1:=amS j hj cs d
 unfold Rst.fK
 split
 ·exact h1
 split
 ·exact(lT _ j).trans h1
 ·exact(lT _ j).trans h1
theorem atW (s:Rl.Rs)(c:Cm.Cv)(j:Nat)(hj:2≠j):Rst.hf j (Rl.aR s c).2.d=Rst.hf j s.d:=by
 have h1:=abe s.d 2 (Rl.fr c) j (by simpa using hj)
 have h2:Rst.hf j (Rl.ext s.d (Rl.fr c)).2=Rst.hf j s.d:=by
  unfold Rl.ext
  split
  ·exact h1
  ·exact(lT _ j).trans h1
 unfold Rl.aR
 split
 ·rfl
 split
 ·rfl
 split
 ·rfl
 split
 ·exact h2
 ·exact h2
theorem aui (s:Sto.Ss)(u:Int)(j:Nat)(hj:2≠j):Rst.hf j (Sto.aR s u).2.r.d=Rst.hf j s.r.d:=by
 have h:=atW s.r (Sto.eG s u) j hj
 unfold Sto.aR
 split
 ·rfl
 split
 ·rfl
 split
 ·rfl
 split
 ·exact h
 ·exact h
def Rz (n:Nat) (s:Rst.St):Prop:=Big (60000*n) (1000*n) s.d∧s.l.length≤2*n∧T3 s.d
theorem Rz.mono {n m:Nat}{s:Rst.St}(h:Rz n s)(hm:n≤m):Rz m s:=⟨h.1.mono (by omega) (by omega),by have:=h.2.1;omega,h.2.2⟩
theorem aph {t u:Nat}{d:Dm.Ds}{bs:List Int}(f:Nat)(h:Big t u d)(hl:bs.length≤1000):Big (t+1000) (u+17) (Rst.ext d f bs).2:=by
 have hc:cnt bs.length≤16:=by unfold cnt;omega
 have h1:=mo h f bs
 have h2:=vT h1
 unfold Rst.ext
 split
 ·exact h1.mono (by omega) (by omega)
 ·split
  ·exact h2.mono (by omega) (by omega)
  ·exact h2.mono (by omega) (by omega)
theorem an1 {n:Nat}{s:Rst.St}(h:Rz n s)(q:Pm.Pg):Rz (n+1) (Rst.bQ s q).2:=by
 have hm:Rz (n+1) s:=h.mono (by omega)
 unfold Rst.bQ
 split
 ·exact hm
 split
 ·exact hm
 rename_i hc
 split
 ·exact hm
 have hq:Pm.Ok q:=Pm.adw.1 (by simpa using hc)
 have hl:(Fm.dh (Pm.enc q)).length≤1000:=by
  have h1:=Pm.qG hq
  have h2:Vm.sz (Pm.enc q).length≤1:=Vm.tH 0 _ (by omega)
  rw[Fm.jF]
  omega
 have hb:=aph 1 h.1 hl
 have ht:=afA h.2.2 (avi s.d 1 (Fm.dh (Pm.enc q)) 3 (by omega))
 split
 ·exact⟨hb.mono (by omega) (by omega),by have:=h.2.1;show s.l.length≤_;omega,ht⟩
 ·exact⟨hb.mono (by omega) (by omega),by have:=h.2.1;show s.l.length≤_;omega,ht⟩
theorem ai5:∀(cs:List Cm.Cv) {t u:Nat} {d:Dm.Ds},Big t u d→(∀c∈cs,Cm.aJ c.e c.n c.l=0)→Big (t+433*cs.length) (u+7*cs.length) (Rst.wrs d cs).2
 |[],t,u,d,h,_=>h.mono (by omega) (by omega)
 |c::cs,t,u,d,h,hc=>by
  have hf:=Wl.kR (c:=c) (hc c List.mem_cons_self)
  have hn:cnt (Wl.fr c).length≤7:=by unfold cnt;omega
  have h1:=mo h 0 (Wl.fr c)
  have h2:=ai5 cs h1 fun x hx=>hc x (List.mem_cons_of_mem _ hx)
  unfold Rst.wrs
  split
  ·exact h1.mono (by rw[List.length_cons];omega) (by rw[List.length_cons];omega)
  ·exact h2.mono (by rw[List.length_cons];omega) (by rw[List.length_cons];omega)
theorem afT {n:Nat}{s:Rst.St}(h:Rz n s)(cs:List Cm.Cv)(hl:cs.length≤2):Rz (n+1) (Rst.add s cs).2:=by
 have hm:Rz (n+1) s:=h.mono (by omega)
 unfold Rst.add
 split
 ·exact hm
 split
 ·exact hm
 rename_i hc
 split
 ·exact hm
 split
 ·exact hm
 have hg:Cm.Good (Cm.lastE 0 s.l) s.l.length cs:=(Cm.il _ _ _ 0).1 (by simpa using hc)
 have h1:=ai5 cs h.1 fun c hcc=>(Sto.gF hg c hcc).1
 have h2:=vT h1
 have hb:Big (60000*n+433*cs.length) (1000*n+7*cs.length+1) (Rst.fK s.d cs).2:=by
  unfold Rst.fK
  split
  ·exact h1.mono (by omega) (by omega)
  ·split
   ·exact h2
   ·exact h2
 have ht:=afA h.2.2 (ayu s.d cs 3 (by omega))
 split
 ·exact⟨hb.mono (by omega) (by omega),by have:=h.2.1;show s.l.length≤_;omega,ht⟩
 ·refine⟨hb.mono (by omega) (by omega),?_,ht⟩
  have:=h.2.1
  show(s.l++cs).length≤_
  rw[List.length_append]
  omega
theorem aqr {t u:Nat}{st:Dm.Ds}{bs:List Int}(h:Big t u st)(hl:bs.length≤52236):Big (t+52236) (u+818) (Rl.ext st bs).2:=by
 have hc:=ajI hl
 have h1:=mo h 2 bs
 have h2:=vT h1
 unfold Rl.ext
 split
 ·exact h1.mono (by omega) (by omega)
 ·exact h2.mono (by omega) (by omega)
theorem arF {t u:Nat}{s:Rl.Rs}{c:Cm.Cv}(h:Big t u s.d):Big (t+52236) (u+818) (Rl.aR s c).2.d:=by
 have hm:Big (t+52236) (u+818) s.d:=h.mono (by omega) (by omega)
 unfold Rl.aR
 split
 ·exact hm
 split
 ·exact hm
 rename_i hc
 split
 ·exact hm
 have hl:=Rl.kR (c:=c) (by simpa using hc)
 have hb:=aqr h hl
 split
 ·exact hb
 ·exact hb
theorem abZ {n:Nat}{s:Rst.St}(h:Rz n s)(u:Int):Rz (n+1) (Rst.aR s u).2:=by
 have hm:Rz (n+1) s:=h.mono (by omega)
 have hb:Big (60000*n+52236) (1000*n+818) (Sto.aR (Rst.aZ s) u).2.r.d:=by
  have hk:Big (60000*n+52236) (1000*n+818) s.d:=h.1.mono (by omega) (by omega)
  have hr:=arF (s:=(Rst.aZ s).r) (c:=Sto.eG (Rst.aZ s) u) h.1
  unfold Sto.aR
  split
  ·exact hk
  split
  ·exact hk
  split
  ·exact hk
  split
  ·exact hr
  ·exact hr
 unfold Rst.aR
 split
 ·exact hm
 split
 ·exact hm
 split
 ·exact hm
 exact⟨hb.mono (by omega) (by omega),by have:=h.2.1;show s.l.length≤_;omega,afA h.2.2 (aui (Rst.aZ s) u 3 (by omega))⟩
theorem mE {t u:Nat}{d:Dm.Ds}(f:Nat)(n:Nat)(h:Big t u d):Big t (u+2) (Rst.bT f d n).2:=by
 have h1:=zz h f n
 have h2:=vT h1
 unfold Rst.bT
 split
 ·exact h.mono (by omega) (by omega)
 ·split
  ·exact h1.mono (by omega) (by omega)
  ·split
   ·exact h2
   ·exact h2
theorem auw {t u:Nat}{d:Dm.Ds}(m:List Cm.Cv)(g:Nat)(r:List Cm.Cv)(ss:List Orp.Se)(h:Big t u d):Big t (u+8) (Rst.fV d m g r ss):=by
 have h1:=mE 0 (Wl.aW m).length h
 have h2:=mE 1 g h1
 have h3:=mE 2 (Rl.aW r).length h2
 have h4:=mE 3 (Orp.secs ss).length h3
 unfold Rst.fV
 split
 ·exact h.mono (by omega) (by omega)
 split
 ·exact h1.mono (by omega) (by omega)
 split
 ·exact h2.mono (by omega) (by omega)
 split
 ·exact h3.mono (by omega) (by omega)
 ·exact h4
end Go.Proofs.YtpifdeoepppadaaGreatDoor
