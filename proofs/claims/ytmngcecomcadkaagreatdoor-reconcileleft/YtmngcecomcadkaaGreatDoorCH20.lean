/- Texts of one layer, one behind the other. -/
import Derived.Test.YtmngcecomcadkaaGreatDoorCH16
import Derived.Test.YtmngcecomcadkaaGreatDoorCH11
import Derived.Test.YtmngcecomcadkaaGreatDoorCH13
import Derived.Test.YtmngcecomcadkaaGreatDoorCH22
import Derived.Test.YtmngcecomcadkaaGreatDoorCH7
import Derived.Test.YtmngcecomcadkaaGreatDoorCH8
import Derived.Deep.CutRange
import Derived.Deep.RegionLaw
set_option maxRecDepth 100000
set_option maxHeartbeats 8000000
namespace Go.Proofs.YtmngcecomcadkaaGreatDoor
open Go.RowKit
set_option linter.unusedVariables false
theorem Tryz.axc (wx:World):(zeroValue 35).run Tryz.prog wx=.ok (.agg #[.int .i64 0,.int .i64 0,.slice none 0 0]) wx:=by kernel_rfl
theorem Tryz.aqE:Tryz.prog.underlying 109=some (.slice (Tryz.prog.elem 109)):=by kernel_rfl
theorem Tryz.aqF (wx:World):(sizeOf (Tryz.prog.elem 109)).run Tryz.prog wx=.ok 1 wx:=by kernel_rfl
theorem apG (w:World)(base:Nat)(v:Value)(rs:List Cw)(k:Nat)(hrow:bn 35 base w v rs)(hk:k≤rs.length)(hlen:rs.length≤1048576):
  Calls Tryz.prog 237 #[v,.int .i64 k,.int .i64 rs.length] w fun E w'=>∃v',E=.returned v'∧bn 35 base w' v' (rs.take k)∧Out (fun g=>v.ownBlock=some g) w w'∧v'.ownBlock=v.ownBlock:=by
 by_cases h0:k=rs.length
 ·obtain⟨ao,cap,hv,hcap,hcm⟩:=hrow.row.shape
  have R:=hide (show bn 35 base w v (rs.take k)by rw[h0,List.take_length];exact hrow)
  subst hv
  rw[h0]at R⊢
  clear hrow h0 hk
  go_enter Tryz.func237,Tryz.ntmps237
  go_wp2
  all_goals (go_ret;exact⟨_,rfl,R.out,Out.refl _ _,rfl⟩)
 ·obtain⟨L,hL⟩:∃L,L=rs.length:=⟨_,rfl⟩
  have hkL:k<L:=by omega
  obtain⟨g,cap,hv,hcap,hcm,hcell,aje⟩:∃g cap,v=.slice (some ⟨g,0,none⟩) L cap∧L≤cap∧cap≤maxLen∧(∀j,j<cap*3→(w.cell? ⟨g,j,none⟩).isSome=true)∧∀j,w.frozen? ⟨g,j,none⟩=false:=by
   rcases hrow.2 with⟨_,h⟩|⟨g,cap,cur,hv,_,hg,hc,hm',hs,_⟩
   ·omega
   ·refine⟨g,cap,by rw[hL];exact hv,by rw[hL];exact hc,hm',fun j hj=>?_,fun j=>aA hg j⟩
    rw[ai hg j (Array.getElem?_eq_getElem (by omega:j<cur.size))]
    rfl
  have ady:=hrow
  unfold bn at ady
  rw[hv,←hL]at ady
  have aX:w.ownsRow base 35 3 (.slice (some ⟨g,0,none⟩) k cap) k (ccells (rs.take k)):=by
   rw[rX]
   exact ab5 ady k (by omega)
  obtain⟨i,hi,hz,hsize,hby⟩:=info_parts Tryz.oq
  obtain⟨ad,cx,hs3⟩:∃ad c,∀wx,(Instr.slice 22 v (some (.int .i64 L)) none none).run Tryz.prog wx=.ok (.slice (some ad) 0 c) wx:=by
   by_cases hc:cap=L
   ·refine⟨⟨g,0,none⟩,0,fun wx=>?_⟩
    rw[hv,run_slice_l wx 22 (some ⟨g,0,none⟩) L cap Tryz.mo .i64 _ (by omega) (by omega),Tryz.mM]
    simp[Result.andThen,sliced,hc]
   ·refine⟨⟨g,L*3,none⟩,cap-L,fun wx=>?_⟩
    rw[hv,run_slice_l wx 22 (some ⟨g,0,none⟩) L cap Tryz.mo .i64 _ (by omega) (by omega),Tryz.mM]
    simp[Result.andThen,sliced,hc,gF]
  have hrun:∃w1,(∀ty,(Builtin.append_ #[22,22] ty #[.slice (some ⟨g,0,none⟩) k cap,.slice (some ad) 0 cx]).run Tryz.prog w.drew=.ok (.slice (some ⟨g,0,none⟩) k cap) w1)∧w1.ownsRow base 35 3 (.slice (some ⟨g,0,none⟩) k cap) k (ccells (rs.take k))∧w.drew.grownBy w1 (some g):=by
   have key:=fun ty=>run_append_fits (P:=Tryz.prog) w.drew base 22 ty 35 i 3 Tryz.underlying22 hi hsize g k cap (ccells (rs.take k)) aX ad 0 cx [] (by simp) (by simp) (by simp) (by omega)
   obtain⟨w1,h1,h2,h3⟩:=key 0
   exact⟨w1,fun ty=>h1,by simpa using h2,h3⟩
  obtain⟨w1,hrun,aP,sZ⟩:=hrun
  obtain⟨apC,hg1,hs1⟩:∃cur,w1.heap[g]? =some (.cells cur 35 (0,0))∧cur.size=cap*3:=by
   rcases aP.2 with⟨h,_⟩|⟨g',cap',cur,h,_,hg,_,_,hs,_⟩
   ·simp at h
   ·simp only[Value.slice.injEq,Option.some.injEq,Addr.mk.injEq,and_true,true_and]at h
    obtain⟨rfl,rfl⟩:=h
    exact⟨cur,hg,hs⟩
  obtain⟨m,hm⟩:∃m,m=L-k:=⟨_,rfl⟩
  have hzl:(Builtin.zeroCells (Value.agg #[.int .i64 0,.int .i64 0,.slice none 0 0]).cells m).toList.length=m*3:=by rw[vS];rfl
  obtain⟨w2,hw2⟩:∃w2,w2=w1.setCells g (k*3) (Builtin.zeroCells (Value.agg #[.int .i64 0,.int .i64 0,.slice none 0 0]).cells m).toList:=⟨_,rfl⟩
  have hcl:∀ty,(Builtin.clear_ #[22] ty #[.slice (some ⟨g,k*3,none⟩) m (cap-k)]).run Tryz.prog w1=.ok (.tuple #[]) w2:=fun ty=>by
   rw[hw2]
   exact sP w1 _ _ ty _ Tryz.underlying22 Tryz.axc (vR m (by decide)) g (k*3) (cap-k) (by omega) (fun j hj=>by rw[hzl]at hj;rw[ai hg1 _ (Array.getElem?_eq_getElem (by omega:k*3+j<apC.size))];rfl) (fun j _=>aA hg1 _)
  have htl:(rs.take k).length=k:=by rw[List.length_take];omega
  have R:Hid (bn 35 base w2 (.slice (some ⟨g,0,none⟩) k cap) (rs.take k)):=hide (by
   unfold bn
   rw[htl,hw2]
   exact wW aP _ (Nat.le_refl _) _)
  have O:Hid (Out (fun b=>(Value.slice (some ⟨g,0,none⟩) L cap).ownBlock=some b) w w2):=hide (by
   rw[hw2]
   exact Out.aQ (aG (aG (iT w 1 _) sZ) (ny g _ (k*3) w1)) fun b hb=>hb)
  obtain⟨x1,hsA⟩:∃x,∀wx,(Instr.slice 22 v (some (.int .i64 k)) (some (.int .i64 L)) (some (.int .i64 L))).run Tryz.prog wx=.ok x wx:=by
   refine⟨sliced (some ⟨g,0,none⟩) k L L 3,fun wx=>?_⟩
   rw[hv,run_slice_lhm wx 22 (some ⟨g,0,none⟩) L cap Tryz.mo .i64 .i64 .i64 _ _ _ (by omega) (by omega) (by omega) (by omega),Tryz.mM]
   simp[Result.andThen]
  have hs2:∀wx,(Instr.slice 22 v none (some (.int .i64 k)) none).run Tryz.prog wx=.ok (.slice (some ⟨g,0,none⟩) k cap) wx:=fun wx=>by
   rw[hv,run_slice_h wx 22 (some ⟨g,0,none⟩) L cap Tryz.mo .i64 _ (by omega) (by omega),Tryz.mM]
   simp[Result.andThen,sliced,Addr.add]
  have hlr:∀ty wx,(Builtin.len_ #[22] ty #[v]).run Tryz.prog wx=.ok (.int .i64 L) wx:=fun ty wx=>by
   rw[hv]
   simp[Builtin.len_,run_underlying Tryz.underlying22,goInt]
  have hob:v.ownBlock=some g:=by rw[hv];rfl
  rw[←hv]at O
  rw[←hL]
  have hmc:¬cap=k:=by omega
  have hmL:(k:Int)≤L:=by omega
  have hLc:(L:Int)≤cap:=by omega
  rw[hm]at hcl
  have hne:((k:Int)==(L:Int))=false:=by simp;omega
  have HB:=hide hob
  have HR:=hide hrun
  clear hrun hw2 hzl hg1 hs1 aX aP sZ ady hcell aje hrow hi hz hsize hby hL hm hv h0 hk hlen hcap hcm hob htl hkL
  go_enter Tryz.func237,Tryz.ntmps237
  go_wp2
  go_region_law (refine fo rfl (.tmp 22) (.tmp 25) 22 rfl (.slice (some ⟨g,0,none⟩) k cap) (.slice (some ad) 0 cx) (by first|rfl|(simp[Act.eval];done)) (by first|rfl|(simp[Act.eval];done)) (R:=fun v' w'=>v'=.slice (some ⟨g,0,none⟩) k cap∧w'=w1) (fun ty=>⟨_,_,HR.out ty,rfl,rfl⟩) ?_;rintro _ _ ⟨rfl,rfl⟩)
  all_goals (go_wp2;go_ret;exact⟨_,rfl,R.out,O.out,HB.out.symm⟩)
theorem Lw.cut {base:Nat}{w:World}{l:List Cm.Cv}{vc ve:Value}{rs:List Cw}(h:Lw base w l vc ve rs)(k:Nat)(hk:k≤l.length){b o:Nat}{t:TypeId}{cs:Array Value}(hB:w.heap[b]? =some (.cells cs t (0,0)))(h1:t≠35)(h2:t≠3)(h3:t≠111)
  {w':World} {v':Value} (hr:bn 35 base w' v' (rs.take k)) (ho:Out (fun g=>vc.ownBlock=some g) w w') (hb:v'.ownBlock=vc.ownBlock):
  w'.heap[b]? =some (.cells cs t (0,0))∧∃vs,(∀wx,(Instr.slice 109 ve none (some (.int .i64 k)) none).run Tryz.prog wx=.ok vs wx)∧
   (∀U,U.heap[b]? =some (.cells ((cs.setIfInBounds o v').setIfInBounds (o+1) vs) t (0,0))→Out (fun g=>g=b) w' U→Lw base U (l.take k) v' vs (rs.take k)∧(∀g,LB v' vs (rs.take k) g→LB vc ve rs g)∧Out (fun g=>g=b∨LB vc ve rs g) w U):=by
 have hne:=h.r.ne hB h1 h2 h3
 have hB':w'.heap[b]? =some (.cells cs t (0,0)):=(ho.block b (ax hB) fun e=>hne (.inl e)).trans hB
 have en':Own .i64 3 base w' ve (ends l):=h.r.en.agree fun g hg=>ho.block g (h.r.en.block g hg).2 fun e=>by
  obtain⟨c1,e1⟩:=h.r.en.type hg
  obtain⟨c2,e2⟩:=h.r.row.type e
  rw[e1]at e2
  simp only[Option.some.injEq,Obj.cells.injEq]at e2
  exact absurd e2.2.1 (by decide)
 obtain⟨vs,hvs,own,hvb⟩:=en'.jb Tryz.aqE Tryz.aqF k (by rw[nH];exact hk)
 refine⟨hB',vs,hvs,fun U hU oU=>⟨⟨⟨?_,?_,?_⟩,?_,Cm.gL h.good k⟩,?_,?_⟩⟩
 ·refine bN hr fun g hg=>oU.block g (World.ownsRow.lt hr g hg).2 fun e=>hne (.inl ?_)
  rw[←e,←hb]
  exact hg
 ·intro c hc
  have hc':=h.r.kN c (List.mem_of_mem_take hc)
  have:=ho.trans oU (G:=fun g=>g=b) (F:=fun g=>vc.ownBlock=some g)
  have s1:bg 111 base w' c.v c.l:=bN hc' fun g hg=>ho.block g (bg.block hc' g hg).2 fun e=>by
   obtain⟨c1,e1⟩:=hc'.type hg
   obtain⟨c2,e2⟩:=h.r.row.type e
   rw[e1]at e2
   simp only[Option.some.injEq,Obj.cells.injEq]at e2
   exact absurd e2.2.1 (by decide)
  exact bN s1 fun g hg=>oU.block g (bg.block s1 g hg).2 fun e=>hne (.inr (.inr ⟨c,List.mem_of_mem_take hc,e▸hg⟩))
 ·rw[ajy l k hk]
  exact own.agree fun g hg=>oU.block g (own.block g hg).2 fun e=>hne (.inr (.inl (by rw[←e];exact hvb g hg)))
 ·rw[nA,h.is]
 ·rintro g (e|e|⟨c,hc,e⟩)
  ·exact .inl (by rw[←hb];exact e)
  ·exact .inr (.inl (hvb g e))
  ·exact .inr (.inr ⟨c,List.mem_of_mem_take hc,e⟩)
 ·refine(ho.mono (G:=fun g=>g=b∨LB vc ve rs g) fun g hg=>.inl (.inr (.inl hg))).trans oU fun g hg=>.inl (.inl hg)
namespace Rol
open Pm (Pg chk no Ok)
theorem oN {x:Pg}(h:chk x=0):(own x=0↔x.r=1)∧(own x=1↔x.r=2)∧(own x=2↔x.p=1)∧(own x=3↔x.p=2)∧(own x=4↔x.p=3)∧(own x=5↔x.p=4):=by
 have ho:=Pm.fM.1 h
 have:=Pm.l9 ho
 obtain⟨h1,h2,_,h3,h4⟩:=aoR ho
 unfold own
 (repeat' split)<;>(refine⟨?_,?_,?_,?_,?_,?_⟩<;>omega)
theorem aiP (x:Pg)(n lo hi:Int):(chk x≠0→ck x n lo hi=chk x)∧(chk x=0→n<lo∨hi<n→ck x n lo hi=2)∧(chk x=0→¬(n<lo∨hi<n)→ck x n lo hi=0):=by
 unfold ck
 exact⟨fun h=>if_neg h,fun h k=>by rw[if_pos h,if_pos k],fun h k=>by rw[if_pos h,if_neg k]⟩
end Rol
theorem vg (x y:Pm.Pg)(k e:Int)(w:World)(hx:eU x)(hm:eH w)(h1:Pm.chk x≠0→y=Pm.no∧e=Pm.chk x)(h2:Pm.chk x=0→∀W,Calls Tryz.prog 171 #[vp x,.int .i64 k,.int .i64 0,.int .i64 0] W fun E w'=>E=.returned (.tuple #[vp y,.int .i64 e])∧Below W.heap.size W w'):
  Calls Tryz.prog 132 #[vp x,.int .i64 k] w fun E w'=>E=.returned (.tuple #[vp y,.int .i64 e])∧Below w.heap.size w w':=by
 obtain⟨w1,w2,hw1,hw2,aT,dz,au,⟨p0,p1,p2,p3,p4,p5⟩,PST⟩:=fP x w
 have CK:=hide (iQ x w2 hx (hm.below au))
 clear au hm
 by_cases h0:Pm.chk x=0
 ·have h2:=hide (h2 h0)
  rw[h0]at CK
  clear h1 h0
  unfold vp
  go_enter Tryz.func132,Tryz.ntmps132
  go_wp2_with fail
  refine CK.out.mono ?_
  rintro E w3 ⟨rfl,b3⟩
  obtain⟨hP3,bM,B3,cB⟩:=PST.out w3 b3
  obtain⟨q0,q1,q2,q3,q4,q5⟩:=aN hP3
  have FO:=hide (h2.out w3)
  have xN:=hide b3
  clear CK b3 hP3 bM B3 p0 p1 p2 p3 p4 p5
  unfold vp at FO
  go_wp2_with fail
  refine FO.out.mono ?_
  rintro E w4 ⟨rfl,b4⟩
  obtain⟨hP4,hR4,B4,lZ⟩:=PST.out w4 (xN.out.trans (b4.mono xN.out.size))
  obtain⟨Z,hZ,_,gZ,⟨a0,a1,a2,a3,a4,a5⟩,fr,⟨z0,z1,z2,z3,z4,z5⟩⟩:=eu hR4 (.int .i64 y.e) (.int .u8 y.r) (.int .i64 y.a) (.int .u8 y.p) (.int .i64 y.f) (.int .i64 y.b)
  have f0:=fr 0;have f1:=fr 1;have f2:=fr 2;have f3:=fr 3;have f4:=fr 4;have f5:=fr 5
  have BB:=hide (aB B4 gZ (by omega) (by omega))
  clear PST FO xN b4 hP4 hR4 B4 lZ gZ fr q0 q1 q2 q3 q4 q5
  go_wp2
  refine bodyPost_ret (v:=.tuple #[.agg #[.int .i64 y.e,.int .u8 y.r,.int .i64 y.a,.int .u8 y.p,.int .i64 y.f,.int .i64 y.b],.int .i64 e]) (by simp[results,Tryz.results132,go_sem,z0,z1,z2,z3,z4,z5]) rfl ?_
  exact⟨rfl,BB.out⟩
 ·obtain⟨rfl,rfl⟩:=h1 h0
  have hb:(Pm.chk x !=0)=true:=by simpa using h0
  generalize Pm.chk x=ch at*
  clear h1 h2 h0
  unfold vp
  go_enter Tryz.func132,Tryz.ntmps132
  go_wp2_with fail
  refine CK.out.mono ?_
  rintro E w3 ⟨rfl,b3⟩
  obtain⟨hP3,bM,B3,cB⟩:=PST.out w3 b3
  obtain⟨q0,q1,q2,q3,q4,q5⟩:=aN hP3
  obtain⟨Z,hZ,_,gZ,⟨a0,a1,a2,a3,a4,a5⟩,fr,⟨z0,z1,z2,z3,z4,z5⟩⟩:=eu bM (.int .i64 0) (.int .u8 0) (.int .i64 0) (.int .u8 0) (.int .i64 0) (.int .i64 0)
  have f0:=fr 0;have f1:=fr 1;have f2:=fr 2;have f3:=fr 3;have f4:=fr 4;have f5:=fr 5
  have BB:=hide (aB B3 gZ (by omega) (by omega))
  clear CK PST b3 hP3 bM B3 cB gZ fr p0 p1 p2 p3 p4 p5
  go_wp2
  refine bodyPost_ret (v:=.tuple #[.agg #[.int .i64 0,.int .u8 0,.int .i64 0,.int .u8 0,.int .i64 0,.int .i64 0],.int .i64 ch]) (by simp[results,Tryz.results132,go_sem,z0,z1,z2,z3,z4,z5]) rfl ?_
  exact⟨rfl,BB.out⟩
theorem alm (x:Pm.Pg)(w:World)(hx:eU x)(hm:eH w):
  Calls Tryz.prog 129 #[vp x] w fun E w'=>E=.returned (.tuple #[vp (Rol.nx x 2 3),.int .i64 (Rol.gK x 2)])∧Below w.heap.size w w':=by
 obtain⟨w1,w2,hw1,hw2,aT,dz,au,⟨p0,p1,p2,p3,p4,p5⟩,PST⟩:=fP x w
 have CK:=hide (vg x (Rol.nx x 2 3) 3 (Rol.gK x 2) w2 hx (hm.below au) (fun h=>by unfold Rol.nx Rol.gK;simp[h]) (fun h W=>by
  by_cases hk:Rol.own x=3
  ·have hp:x.p=2:=(Rol.oN h).2.2.2.1.1 hk
   have e1:Rol.gK x 2=0:=by unfold Rol.gK;rw[if_pos h,if_pos hp]
   have e2:Rol.nx x 2 3=⟨x.e,x.r,x.a,3,x.f,x.b⟩:=by unfold Rol.nx;rw[if_pos e1]
   rw[e1,e2]
   exact ajK x 0 0 W hk
  ·have hp:x.p≠2:=fun h'=>hk ((Rol.oN h).2.2.2.1.2 h')
   have e1:Rol.gK x 2=15:=by unfold Rol.gK;rw[if_pos h,if_neg hp]
   have e2:Rol.nx x 2 3=Pm.no:=by unfold Rol.nx;rw[if_neg (by omega)]
   rw[e1,e2]
   exact xU x 3 0 0 W hk))
 generalize Rol.nx x 2 3=y at*
 generalize Rol.gK x 2=e at*
 clear au hm
 unfold vp at CK
 unfold vp
 go_enter Tryz.func129,Tryz.ntmps129
 go_wp2_with fail
 refine CK.out.mono ?_
 rintro E w3 ⟨rfl,b3⟩
 obtain⟨hP3,bM,B3,cB⟩:=PST.out w3 b3
 obtain⟨q0,q1,q2,q3,q4,q5⟩:=aN hP3
 obtain⟨Z,hZ,_,gZ,⟨a0,a1,a2,a3,a4,a5⟩,fr,⟨z0,z1,z2,z3,z4,z5⟩⟩:=eu bM (.int .i64 y.e) (.int .u8 y.r) (.int .i64 y.a) (.int .u8 y.p) (.int .i64 y.f) (.int .i64 y.b)
 have f0:=fr 0;have f1:=fr 1;have f2:=fr 2;have f3:=fr 3;have f4:=fr 4;have f5:=fr 5
 have BB:=hide (aB B3 gZ (by omega) (by omega))
 clear CK PST b3 hP3 bM B3 cB gZ fr p0 p1 p2 p3 p4 p5
 go_wp2
 refine bodyPost_ret (v:=.tuple #[.agg #[.int .i64 y.e,.int .u8 y.r,.int .i64 y.a,.int .u8 y.p,.int .i64 y.f,.int .i64 y.b],.int .i64 e]) (by simp[results,Tryz.results129,go_sem,z0,z1,z2,z3,z4,z5]) rfl ?_
 exact⟨rfl,BB.out⟩
theorem aol (x:Pm.Pg)(w:World)(hx:eU x)(hm:eH w):
  Calls Tryz.prog 131 #[vp x] w fun E w'=>E=.returned (.tuple #[vp (Rol.nx x 3 4),.int .i64 (Rol.gK x 3)])∧Below w.heap.size w w':=by
 obtain⟨w1,w2,hw1,hw2,aT,dz,au,⟨p0,p1,p2,p3,p4,p5⟩,PST⟩:=fP x w
 have CK:=hide (vg x (Rol.nx x 3 4) 4 (Rol.gK x 3) w2 hx (hm.below au) (fun h=>by unfold Rol.nx Rol.gK;simp[h]) (fun h W=>by
  by_cases hk:Rol.own x=4
  ·have hp:x.p=3:=(Rol.oN h).2.2.2.2.1.1 hk
   have e1:Rol.gK x 3=0:=by unfold Rol.gK;rw[if_pos h,if_pos hp]
   have e2:Rol.nx x 3 4=⟨x.e,x.r,x.a,4,x.f,x.b⟩:=by unfold Rol.nx;rw[if_pos e1]
   rw[e1,e2]
   exact amf x 0 0 W hk
  ·have hp:x.p≠3:=fun h'=>hk ((Rol.oN h).2.2.2.2.1.2 h')
   have e1:Rol.gK x 3=15:=by unfold Rol.gK;rw[if_pos h,if_neg hp]
   have e2:Rol.nx x 3 4=Pm.no:=by unfold Rol.nx;rw[if_neg (by omega)]
   rw[e1,e2]
   exact xU x 4 0 0 W hk))
 generalize Rol.nx x 3 4=y at*
 generalize Rol.gK x 3=e at*
 clear au hm
 unfold vp at CK
 unfold vp
 go_enter Tryz.func131,Tryz.ntmps131
 go_wp2_with fail
 refine CK.out.mono ?_
 rintro E w3 ⟨rfl,b3⟩
 obtain⟨hP3,bM,B3,cB⟩:=PST.out w3 b3
 obtain⟨q0,q1,q2,q3,q4,q5⟩:=aN hP3
 obtain⟨Z,hZ,_,gZ,⟨a0,a1,a2,a3,a4,a5⟩,fr,⟨z0,z1,z2,z3,z4,z5⟩⟩:=eu bM (.int .i64 y.e) (.int .u8 y.r) (.int .i64 y.a) (.int .u8 y.p) (.int .i64 y.f) (.int .i64 y.b)
 have f0:=fr 0;have f1:=fr 1;have f2:=fr 2;have f3:=fr 3;have f4:=fr 4;have f5:=fr 5
 have BB:=hide (aB B3 gZ (by omega) (by omega))
 clear CK PST b3 hP3 bM B3 cB gZ fr p0 p1 p2 p3 p4 p5
 go_wp2
 refine bodyPost_ret (v:=.tuple #[.agg #[.int .i64 y.e,.int .u8 y.r,.int .i64 y.a,.int .u8 y.p,.int .i64 y.f,.int .i64 y.b],.int .i64 e]) (by simp[results,Tryz.results131,go_sem,z0,z1,z2,z3,z4,z5]) rfl ?_
 exact⟨rfl,BB.out⟩
theorem agw (x:Pm.Pg)(w:World)(hx:eU x)(hm:eH w):
  Calls Tryz.prog 82 #[vp x] w fun E w'=>E=.returned (.tuple #[vp (Rol.rj x),.int .i64 (Rol.gK x 4)])∧Below w.heap.size w w':=by
 obtain⟨w1,w2,hw1,hw2,aT,dz,au,⟨p0,p1,p2,p3,p4,p5⟩,PST⟩:=fP x w
 have CK:=hide (vg x (Rol.rj x) 5 (Rol.gK x 4) w2 hx (hm.below au) (fun h=>by unfold Rol.rj Rol.gK;simp[h]) (fun h W=>by
  by_cases hk:Rol.own x=5
  ·have hp:x.p=4:=(Rol.oN h).2.2.2.2.2.1 hk
   have e1:Rol.gK x 4=0:=by unfold Rol.gK;rw[if_pos h,if_pos hp]
   have e2:Rol.rj x=⟨x.e,2,0,0,0,0⟩:=by unfold Rol.rj;rw[if_pos e1]
   rw[e1,e2]
   exact alZ x 0 0 W hk
  ·have hp:x.p≠4:=fun h'=>hk ((Rol.oN h).2.2.2.2.2.2 h')
   have e1:Rol.gK x 4=15:=by unfold Rol.gK;rw[if_pos h,if_neg hp]
   have e2:Rol.rj x=Pm.no:=by unfold Rol.rj;rw[if_neg (by omega)]
   rw[e1,e2]
   exact xU x 5 0 0 W hk))
 generalize Rol.rj x=y at*
 generalize Rol.gK x 4=e at*
 clear au hm
 unfold vp at CK
 unfold vp
 go_enter Tryz.func82,Tryz.ntmps82
 go_wp2_with fail
 refine CK.out.mono ?_
 rintro E w3 ⟨rfl,b3⟩
 obtain⟨hP3,bM,B3,cB⟩:=PST.out w3 b3
 obtain⟨q0,q1,q2,q3,q4,q5⟩:=aN hP3
 obtain⟨Z,hZ,_,gZ,⟨a0,a1,a2,a3,a4,a5⟩,fr,⟨z0,z1,z2,z3,z4,z5⟩⟩:=eu bM (.int .i64 y.e) (.int .u8 y.r) (.int .i64 y.a) (.int .u8 y.p) (.int .i64 y.f) (.int .i64 y.b)
 have f0:=fr 0;have f1:=fr 1;have f2:=fr 2;have f3:=fr 3;have f4:=fr 4;have f5:=fr 5
 have BB:=hide (aB B3 gZ (by omega) (by omega))
 clear CK PST b3 hP3 bM B3 cB gZ fr p0 p1 p2 p3 p4 p5
 go_wp2
 refine bodyPost_ret (v:=.tuple #[.agg #[.int .i64 y.e,.int .u8 y.r,.int .i64 y.a,.int .u8 y.p,.int .i64 y.f,.int .i64 y.b],.int .i64 e]) (by simp[results,Tryz.results82,go_sem,z0,z1,z2,z3,z4,z5]) rfl ?_
 exact⟨rfl,BB.out⟩
theorem ak2 (x:Pm.Pg)(n k:Int)(w:World)(hx:eU x)(hm:eH w)(hn:I64 n)(hk:I64 k):
  Calls Tryz.prog 127 #[vp x,.int .i64 n,.int .i64 k] w fun E w'=>E=.returned (.tuple #[vp (Rol.fk x n k),.int .i64 (Rol.mZ x n k)])∧Below w.heap.size w w':=by
 obtain⟨w1,w2,hw1,hw2,aT,dz,au,⟨p0,p1,p2,p3,p4,p5⟩,PST⟩:=fP x w
 have CK:=hide (ase x n 0 1048576 w2 hx (hm.below au))
 clear au hm
 by_cases h0:Pm.chk x=0
 case neg=>
  rw[(Rol.aiP x n 0 1048576).1 h0]at CK
  have eE:Rol.mZ x n k=Pm.chk x:=by unfold Rol.mZ;(repeat' split)<;>omega
  have eP:Rol.fk x n k=Pm.no:=by unfold Rol.fk;rw[if_neg (by rw[eE];omega)]
  rw[eP,eE]
  have hb:(Pm.chk x !=0)=true:=by simpa using h0
  generalize Pm.chk x=ch at*
  clear eE eP h0 hx
  unfold vp
  go_enter Tryz.func127,Tryz.ntmps127
  go_wp2_with fail
  refine CK.out.mono ?_
  rintro E w3 ⟨rfl,b3⟩
  obtain⟨hP3,bM,B3,cB⟩:=PST.out w3 b3
  obtain⟨q0,q1,q2,q3,q4,q5⟩:=aN hP3
  obtain⟨Z,hZ,_,gZ,⟨a0,a1,a2,a3,a4,a5⟩,fr,⟨z0,z1,z2,z3,z4,z5⟩⟩:=eu bM (.int .i64 0) (.int .u8 0) (.int .i64 0) (.int .u8 0) (.int .i64 0) (.int .i64 0)
  have f0:=fr 0;have f1:=fr 1;have f2:=fr 2;have f3:=fr 3;have f4:=fr 4;have f5:=fr 5
  have BB:=hide (aB B3 gZ (by omega) (by omega))
  clear CK PST b3 hP3 bM B3 cB gZ fr p0 p1 p2 p3 p4 p5
  go_wp2
  refine bodyPost_ret (v:=.tuple #[.agg #[.int .i64 0,.int .u8 0,.int .i64 0,.int .u8 0,.int .i64 0,.int .i64 0],.int .i64 ch]) (by simp[results,Tryz.results127,go_sem,z0,z1,z2,z3,z4,z5]) rfl ?_
  exact⟨rfl,BB.out⟩
 by_cases hr:n<0∨1048576<n
 case pos=>
  rw[(Rol.aiP x n 0 1048576).2.1 h0 hr]at CK
  have eE:Rol.mZ x n k=2:=by unfold Rol.mZ;(repeat' split)<;>omega
  have eP:Rol.fk x n k=Pm.no:=by unfold Rol.fk;rw[if_neg (by rw[eE];omega)]
  rw[eP,eE]
  clear eE eP h0 hx hr
  unfold vp
  go_enter Tryz.func127,Tryz.ntmps127
  go_wp2_with fail
  refine CK.out.mono ?_
  rintro E w3 ⟨rfl,b3⟩
  obtain⟨hP3,bM,B3,cB⟩:=PST.out w3 b3
  obtain⟨q0,q1,q2,q3,q4,q5⟩:=aN hP3
  obtain⟨Z,hZ,_,gZ,⟨a0,a1,a2,a3,a4,a5⟩,fr,⟨z0,z1,z2,z3,z4,z5⟩⟩:=eu bM (.int .i64 0) (.int .u8 0) (.int .i64 0) (.int .u8 0) (.int .i64 0) (.int .i64 0)
  have f0:=fr 0;have f1:=fr 1;have f2:=fr 2;have f3:=fr 3;have f4:=fr 4;have f5:=fr 5
  have BB:=hide (aB B3 gZ (by omega) (by omega))
  clear CK PST b3 hP3 bM B3 cB gZ fr p0 p1 p2 p3 p4 p5
  go_wp2
  refine bodyPost_ret (v:=.tuple #[.agg #[.int .i64 0,.int .u8 0,.int .i64 0,.int .u8 0,.int .i64 0,.int .i64 0],.int .i64 2]) (by simp[results,Tryz.results127,go_sem,z0,z1,z2,z3,z4,z5]) rfl ?_
  exact⟨rfl,BB.out⟩
 rw[(Rol.aiP x n 0 1048576).2.2 h0 hr]at CK
 by_cases h3:k<0
 case pos=>
  have eE:Rol.mZ x n k=2:=by unfold Rol.mZ;(repeat' split)<;>omega
  have eP:Rol.fk x n k=Pm.no:=by unfold Rol.fk;rw[if_neg (by rw[eE];omega)]
  rw[eP,eE]
  clear eE eP h0 hr hx
  unfold vp
  go_enter Tryz.func127,Tryz.ntmps127
  go_wp2_with fail
  refine CK.out.mono ?_
  rintro E w3 ⟨rfl,b3⟩
  obtain⟨hP3,bM,B3,cB⟩:=PST.out w3 b3
  obtain⟨q0,q1,q2,q3,q4,q5⟩:=aN hP3
  obtain⟨Z,hZ,_,gZ,⟨a0,a1,a2,a3,a4,a5⟩,fr,⟨z0,z1,z2,z3,z4,z5⟩⟩:=eu bM (.int .i64 0) (.int .u8 0) (.int .i64 0) (.int .u8 0) (.int .i64 0) (.int .i64 0)
  have f0:=fr 0;have f1:=fr 1;have f2:=fr 2;have f3:=fr 3;have f4:=fr 4;have f5:=fr 5
  have BB:=hide (aB B3 gZ (by omega) (by omega))
  clear CK PST b3 hP3 bM B3 cB gZ fr p0 p1 p2 p3 p4 p5
  go_wp2
  refine bodyPost_ret (v:=.tuple #[.agg #[.int .i64 0,.int .u8 0,.int .i64 0,.int .u8 0,.int .i64 0,.int .i64 0],.int .i64 2]) (by simp[results,Tryz.results127,go_sem,z0,z1,z2,z3,z4,z5]) rfl ?_
  exact⟨rfl,BB.out⟩
 by_cases h4:1073741824<k
 case pos=>
  have eE:Rol.mZ x n k=2:=by unfold Rol.mZ;(repeat' split)<;>omega
  have eP:Rol.fk x n k=Pm.no:=by unfold Rol.fk;rw[if_neg (by rw[eE];omega)]
  rw[eP,eE]
  clear eE eP h0 hr hx
  unfold vp
  go_enter Tryz.func127,Tryz.ntmps127
  go_wp2_with fail
  refine CK.out.mono ?_
  rintro E w3 ⟨rfl,b3⟩
  obtain⟨hP3,bM,B3,cB⟩:=PST.out w3 b3
  obtain⟨q0,q1,q2,q3,q4,q5⟩:=aN hP3
  obtain⟨Z,hZ,_,gZ,⟨a0,a1,a2,a3,a4,a5⟩,fr,⟨z0,z1,z2,z3,z4,z5⟩⟩:=eu bM (.int .i64 0) (.int .u8 0) (.int .i64 0) (.int .u8 0) (.int .i64 0) (.int .i64 0)
  have f0:=fr 0;have f1:=fr 1;have f2:=fr 2;have f3:=fr 3;have f4:=fr 4;have f5:=fr 5
  have BB:=hide (aB B3 gZ (by omega) (by omega))
  clear CK PST b3 hP3 bM B3 cB gZ fr p0 p1 p2 p3 p4 p5
  go_wp2
  refine bodyPost_ret (v:=.tuple #[.agg #[.int .i64 0,.int .u8 0,.int .i64 0,.int .u8 0,.int .i64 0,.int .i64 0],.int .i64 2]) (by simp[results,Tryz.results127,go_sem,z0,z1,z2,z3,z4,z5]) rfl ?_
  exact⟨rfl,BB.out⟩
 by_cases ho:Rol.own x=2
 case pos=>
  have hp:x.p=1:=(Rol.oN h0).2.2.1.1 ho
  have eE:Rol.mZ x n k=0:=by unfold Rol.mZ;(repeat' split)<;>omega
  have eP:Rol.fk x n k=⟨x.e,x.r,x.a,2,n,k⟩:=by unfold Rol.fk;rw[if_pos eE]
  rw[eP,eE]
  clear eE eP h0 hr hx hp
  unfold vp
  go_enter Tryz.func127,Tryz.ntmps127
  go_wp2_with fail
  refine CK.out.mono ?_
  rintro E w3 ⟨rfl,b3⟩
  obtain⟨hP3,bM,B3,cB⟩:=PST.out w3 b3
  obtain⟨q0,q1,q2,q3,q4,q5⟩:=aN hP3
  have FO:=hide (akA x n k w3 ho)
  have xN:=hide b3
  clear CK b3 hP3 bM B3 p0 p1 p2 p3 p4 p5 ho
  unfold vp at FO
  go_wp2_with fail
  refine FO.out.mono ?_
  rintro E w4 ⟨rfl,b4⟩
  obtain⟨hP4,hR4,B4,lZ⟩:=PST.out w4 (xN.out.trans (b4.mono xN.out.size))
  obtain⟨Z,hZ,_,gZ,⟨a0,a1,a2,a3,a4,a5⟩,fr,⟨z0,z1,z2,z3,z4,z5⟩⟩:=eu hR4 (.int .i64 x.e) (.int .u8 x.r) (.int .i64 x.a) (.int .u8 2) (.int .i64 n) (.int .i64 k)
  have f0:=fr 0;have f1:=fr 1;have f2:=fr 2;have f3:=fr 3;have f4:=fr 4;have f5:=fr 5
  have BB:=hide (aB B4 gZ (by omega) (by omega))
  clear PST FO xN b4 hP4 hR4 B4 lZ gZ fr q0 q1 q2 q3 q4 q5
  go_wp2
  refine bodyPost_ret (v:=.tuple #[.agg #[.int .i64 x.e,.int .u8 x.r,.int .i64 x.a,.int .u8 2,.int .i64 n,.int .i64 k],.int .i64 0]) (by simp[results,Tryz.results127,go_sem,z0,z1,z2,z3,z4,z5]) rfl ?_
  exact⟨rfl,BB.out⟩
 have hp:x.p≠1:=fun h=>ho ((Rol.oN h0).2.2.1.2 h)
 have eE:Rol.mZ x n k=15:=by unfold Rol.mZ;(repeat' split)<;>omega
 have eP:Rol.fk x n k=Pm.no:=by unfold Rol.fk;rw[if_neg (by rw[eE];omega)]
 rw[eP,eE]
 clear eE eP h0 hr hx hp
 unfold vp
 go_enter Tryz.func127,Tryz.ntmps127
 go_wp2_with fail
 refine CK.out.mono ?_
 rintro E w3 ⟨rfl,b3⟩
 obtain⟨hP3,bM,B3,cB⟩:=PST.out w3 b3
 obtain⟨q0,q1,q2,q3,q4,q5⟩:=aN hP3
 have FO:=hide (xU x 2 n k w3 ho)
 have xN:=hide b3
 clear CK b3 hP3 bM B3 p0 p1 p2 p3 p4 p5 ho
 unfold vp at FO
 go_wp2_with fail
 refine FO.out.mono ?_
 rintro E w4 ⟨rfl,b4⟩
 obtain⟨hP4,hR4,B4,lZ⟩:=PST.out w4 (xN.out.trans (b4.mono xN.out.size))
 obtain⟨Z,hZ,_,gZ,⟨a0,a1,a2,a3,a4,a5⟩,fr,⟨z0,z1,z2,z3,z4,z5⟩⟩:=eu hR4 (.int .i64 0) (.int .u8 0) (.int .i64 0) (.int .u8 0) (.int .i64 0) (.int .i64 0)
 have f0:=fr 0;have f1:=fr 1;have f2:=fr 2;have f3:=fr 3;have f4:=fr 4;have f5:=fr 5
 have BB:=hide (aB B4 gZ (by omega) (by omega))
 clear PST FO xN b4 hP4 hR4 B4 lZ gZ fr q0 q1 q2 q3 q4 q5
 go_wp2
 refine bodyPost_ret (v:=.tuple #[.agg #[.int .i64 0,.int .u8 0,.int .i64 0,.int .u8 0,.int .i64 0,.int .i64 0],.int .i64 15]) (by simp[results,Tryz.results127,go_sem,z0,z1,z2,z3,z4,z5]) rfl ?_
 exact⟨rfl,BB.out⟩
theorem atX (x y:Int)(g:Nat)(w:World)(h0:w.cell? ⟨g,0,none⟩=some (.int .i64 x))(h1:w.cell? ⟨g,1,none⟩=some (.int .i64 y)):
  Calls Tryz.prog 167 #[.slice (some ⟨g,0,none⟩) 2 2] w fun E w'=>E=.returned (.int .i64 (if x=0 then y else x))∧w'=w:=by
 obtain⟨z,hz⟩:∃z,(if x=0 then y else x)=z:=⟨_,rfl⟩
 rw[hz]
 have HZ:=hide hz
 clear hz
 go_enter Tryz.func167,Tryz.ntmps167
 go_wp2
 go_loopw [8] (fun iv wr=>∃k:Nat,k≤2∧iv=.int .i64 k∧Hid ((1≤k→x=0)∧(2≤k→y=0))∧wr=w) (fun iv _=>2-(intOf iv).toNat)
 case atStart=>exact⟨0,by omega,rfl,hide ⟨fun h=>by omega,fun h=>by omega⟩,rfl⟩
 case round=>
  obtain⟨k,hk,rfl,HT,rfl⟩:=hrel
  rcases(by omega:k=0∨k=1∨k=2)with rfl|rfl|rfl
  ·by_cases hx:x=0
   ·subst hx
    go_wp2
    go_roundw
    case rel=>exact⟨1,by omega,rfl,hide ⟨fun _=>by trivial,fun h=>by omega⟩,trivial⟩
    case measure=>simp[intOf]
   ·have hx':(x !=0)=true:=by simpa using hx
    obtain rfl:x=z:=by rw[←HZ.out,if_neg hx]
    go_wp2
    go_ret
    exact⟨rfl,rfl⟩
  ·obtain rfl:=HT.out.1 (by omega)
   obtain rfl:y=z:=by rw[←HZ.out,if_pos rfl]
   by_cases hy:y=0
   ·subst hy
    go_wp2
    go_roundw
    case rel=>exact⟨2,by omega,rfl,hide ⟨fun _=>by trivial,fun _=>by trivial⟩,by trivial⟩
    case measure=>simp[intOf]
   ·have hy':(y !=0)=true:=by simpa using hy
    go_wp2
    go_ret
    exact⟨rfl,rfl⟩
  ·obtain rfl:=HT.out.1 (by omega)
   obtain rfl:=HT.out.2 (by omega)
   obtain rfl:0=z:=by rw[←HZ.out,if_pos rfl]
   go_wp2
   go_ret
   exact⟨rfl,rfl⟩
def tO (a:List Sm.S) (ae:Int) (b:List Sm.S) (be:Int):Int:=if Sm.chk a ae=0 then Sm.chk b be else Sm.chk a ae
theorem aey {a b:List Sm.S}{ae be:Int}(h:tO a ae b be=0):Sm.Ok a ae∧Sm.Ok b be:=by
 unfold tO at h
 split at h
 ·rename_i h1
  exact⟨Sm.aO.1 h1,Sm.aO.1 h⟩
 ·rename_i h1
  exact absurd h h1
def Fr (a:List Sm.S) (ae:Int) (b:List Sm.S) (be n:Int):Prop:=(tO a ae b be=0∧Sm.Fk a ae b be n)∨(tO a ae b be≠0∧n=0)
theorem afO {a b:List Sm.S}{ae be n m:Int}(h:Fr a ae b be n)(k:Fr a ae b be m):n=m:=by
 rcases h with⟨h1,h2⟩|⟨h1,h2⟩<;>rcases k with⟨k1,k2⟩|⟨k1,k2⟩
 ·exact Sm.awY h2 k2
 ·exact absurd h1 k1
 ·exact absurd k1 h1
 ·rw[h2,k2]
theorem akT (va vb:Value)(a b:List Sm.S)(ae be:Int)(w:World)(ha:jH w va a)(hb:jH w vb b)(hla:a.length≤140737488355328)(hlb:b.length≤140737488355328):
  Calls Tryz.prog 125 #[va,.int .i64 ae,vb,.int .i64 be] w fun E w'=>∃n,E=.returned (.tuple #[.int .i64 n,.int .i64 (tO a ae b be)])∧Fr a ae b be n∧Below w.heap.size w w':=by
 have X:=hide (uw va a ae w ha hla)
 have Y:Hid (∀w1,Below w.heap.size w w1→_):=hide fun w1 b1=>uw vb b be w1 (hb.below b1) hlb
 have Z:Hid (∀w1,Below w.heap.size w w1→tO a ae b be=0→_):=hide fun w1 b1 h0=>aov va vb a b ae be w1 (ha.below b1) (hb.below b1) hla hlb (aey h0).1 (aey h0).2
 obtain⟨x,hx⟩:∃x,Sm.chk a ae=x:=⟨_,rfl⟩
 obtain⟨y,hy⟩:∃y,Sm.chk b be=y:=⟨_,rfl⟩
 have he:tO a ae b be=if x=0 then y else x:=by unfold tO;rw[hx,hy]
 rw[hx]at X
 rw[hy]at Y
 clear ha hb hx hy hla hlb
 have FR:Hid (∀n,(tO a ae b be=0→Sm.Fk a ae b be n)→(tO a ae b be≠0→n=0)→Fr a ae b be n):=hide fun n h1 h2=>by
  by_cases h:tO a ae b be=0
  ·exact .inl ⟨h,h1 h⟩
  ·exact .inr ⟨h,h2 h⟩
 rw[he]at Z FR⊢
 obtain⟨z,hz⟩:∃z,(if x=0 then y else x)=z:=⟨_,rfl⟩
 rw[hz]at Z FR⊢
 have HZ:=hide hz
 clear hz he
 go_enter Tryz.func125,Tryz.ntmps125
 go_wp2_with fail
 refine X.out.mono ?_
 rintro E w1 ⟨rfl,aj⟩
 go_wp2_with fail
 refine(Y.out _ aj).mono ?_
 rintro E w2 ⟨rfl,au⟩
 have s1:=aj.size
 have s2:=au.size
 obtain⟨w3,hw3,cB,aD,hB⟩:=ak w2 #[.int .i64 x,.int .i64 y] 29
 have c0:=ai hB 0 rfl
 have c1:=ai hB 1 rfl
 have gM:Below w.heap.size w w3:=(aj.trans (au.mono s1)).trans (aD.mono (by omega))
 clear hB aj au aD s1 s2
 go_wp2_with fail
 refine(atX x y _ w3 c0 c1).mono ?_
 rintro E w4 ⟨rfl,rfl⟩
 rw[HZ.out]
 clear HZ c0 c1
 by_cases h0:z=0
 ·subst h0
  go_wp2_with fail
  refine(Z.out _ gM (by trivial)).mono ?_
  rintro E w5 ⟨n,rfl,jl,m,rfl⟩
  have HF:=hide jl
  clear jl
  go_wp2
  go_ret2
  exact⟨_,rfl,FR.out _ (fun _=>HF.out) (fun h=>absurd rfl h),below_drewN gM _⟩
 ·have hz:(z !=0)=true:=by simpa using h0
  have F0:=hide (FR.out 0 (fun h=>absurd h h0) (fun _=>rfl))
  clear h0 FR
  go_wp2
  go_ret2
  exact⟨_,rfl,F0.out,gM⟩
theorem aii (base:Nat)(v:Value)(l:List Sm.S)(e n:Int)(ao:Option Addr)(no co:Nat)(w:World)(h:jU base w v l)(hl:(l.length+1)*16≤140737488355328)(hb:base≤w.heap.size):
  Calls Tryz.prog 43 #[v,bK e n (.slice ao no co)] w fun E w'=>∃v',E=.returned v'∧jU base w' v' (Sm.grw l e n)∧Below base w w':=by
 unfold bK
 obtain⟨w1,hw1,aT,aj,hB⟩:=ak w #[.int .i64 e,.int .i64 n,.slice ao no co] 35
 have aX:=jr h aj
 have c0:=ai hB 0 rfl
 have c1:=ai hB 1 rfl
 have X:Hid (∀m,_):=hide fun m=>aly v l (w1.drewN m) (ah4 aX.row m) (by omega)
 have HL:Hid ((l.length+[((e,n):Sm.S)].length)*16≤140737488355328):=hide hl
 have HB:=hide hB
 clear hl h hB
 by_cases hq:e=Sm.dH l
 ·have hg:Sm.grw l e n=l:=by unfold Sm.grw;rw[if_pos hq]
  rw[hg]
  have hq':(e==Sm.dH l)=true:=by simpa using hq
  generalize Sm.dH l=u at*
  clear hq hg HL
  go_enter Tryz.func43,Tryz.ntmps43
  go_wp2
  go_quiet ((go_at_call 97;refine Calls.quiet_of ((X.out _).mono (by rintro E w1 ⟨rfl,rfl⟩;exact⟨rfl,0,rfl⟩))))
  go_wp2
  go_ret
  exact⟨_,rfl,aX.agree fun _ _=>rfl,below_drewN (aj.mono hb) _⟩
 ·have hg:Sm.grw l e n=l++[(e,n)]:=by unfold Sm.grw;rw[if_neg hq]
  rw[hg]
  have hq':(e==Sm.dH l)=false:=by simpa using hq
  generalize Sm.dH l=u at*
  clear hq hg
  go_enter Tryz.func43,Tryz.ntmps43
  go_wp2
  go_quiet ((go_at_call 97;refine Calls.quiet_of ((X.out _).mono (by rintro E w1 ⟨rfl,rfl⟩;exact⟨rfl,0,rfl⟩))))
  have ap1:jU base (w1.drewN nq) v l:=aX.agree fun _ _=>rfl
  have szq:(w1.drewN nq).heap.size=w1.heap.size:=rfl
  have d0:(w1.drewN nq).cell? ⟨w.heap.size,0,none⟩=some (.int .i64 e):=c0
  have d1:(w1.drewN nq).cell? ⟨w.heap.size,1,none⟩=some (.int .i64 n):=c1
  have apA:Below base w (w1.drewN nq):=below_drewN (aj.mono hb) nq
  generalize w1.drewN nq=wq at*
  obtain⟨w2,hw2,dz,au,aP⟩:=zN wq #[.int .i64 e,.int .i64 n] 1 [(e,n)] rfl rfl (by simp[maxLen])
  have bD:=jr ap1 au
  rw[szq,aT]at aP
  clear aX ap1 c0 c1 X HB
  go_wp2_with (at_builtin;refine pF rfl (.tmp 11) (.tmp 17) rfl base _ l rfl bD _ [(e,n)] rfl aP.row HL.out (by omega) ?_)
  intro v2 w3 aW aD _
  go_wp2
  go_ret
  exact⟨_,rfl,aW,(apA.trans (au.mono (by omega))).trans aD⟩
theorem qh:∀(l:List Cm.Cv) (ep:Int),(Sm.told ep l).length≤l.length
 |[],_=>by simp[Sm.told]
 |c::r,ep=>by
  have:=qh r c.e
  unfold Sm.told
  split
  ·simp;omega
  ·simp;omega
def ofs (l:List Cm.Cv):List Sm.S:=if (Cm.fol 0 0 0 l).1=0 then Sm.told 0 l else []
theorem aeb {l:List Cm.Cv}(h:(Cm.fol 0 0 0 l).1=0):ofs l=Sm.told 0 l:=if_pos h
theorem awo {l:List Cm.Cv}(h:(Cm.fol 0 0 0 l).1≠0):ofs l=[]:=if_neg h
theorem amu {r:List Cw}{k:Nat}{c:Cw}(h:r[k]? =some c):ay (r.take (k+1))=ay (r.take k)++[c.c]:=by
 unfold ay
 rw[List.take_add_one,h]
 simp
theorem ajU (vl:Value)(r:List Cw)(w:World)(h:di w vl r)(hf:dL r)(hl:r.length≤1000000):
  Calls Tryz.prog 25 #[vl] w fun E w'=>∃v,E=.returned (.tuple #[v,rE (Cm.fol 0 0 0 (ay r))])∧jU w.heap.size w' v (ofs (ay r))∧Below w.heap.size w w':=by
 have hl2:r.length≤140737488355328:=by omega
 obtain⟨ao,cap,hvl,hcap,hcm⟩:=h.1.shape
 subst hvl
 obtain⟨w1,hw1,aT,aj,hR⟩:=ak w #[.int .i64 0,.int .i64 0] 31
 have X:=hide (jA 0 0 _ r w1 (h.below aj) hf hl2)
 unfold rE at X⊢
 have zf:=hide (aeb (l:=ay r))
 have sU:=hide (awo (l:=ay r))
 have HZ:=hide (Cm.oI (ay r) 0 0 0)
 have HGD:=hide (Cm.dZ (ay r) 0 0 0)
 obtain⟨fl,hfl⟩:∃f,Cm.fol 0 0 0 (ay r)=f:=⟨_,rfl⟩
 rw[hfl]at X zf sU HZ HGD⊢
 obtain⟨fe,fp⟩:=fl
 simp only at X zf sU HZ HGD⊢
 clear hfl
 have HI:=hide h
 have HR:=hide hR
 clear h hR
 go_enter Tryz.func25,Tryz.ntmps25
 go_wp2_with fail
 refine X.out.mono ?_
 rintro E w2 ⟨rfl,au⟩
 have s2:=au.size
 obtain⟨w3,hw3,ah8,cB,aD,hF,c0,c1⟩:=nC w2 31 (.int .i64 0) (.int .i64 0) (.int .i64 fe) (.int .i64 fp)
 have nY:Below w1.heap.size w1 w3:=au.trans (aD.mono s2)
 have aY:Below w.heap.size w w3:=aj.trans (nY.mono (by omega))
 have bM:=(nY.block w.heap.size (by omega)).trans HR.out
 have hnq:=Tryz.zV fe fp 0 0
 have hgd:=Tryz.oG
 have I3:=hide (HI.out.below aY)
 have HF:=hide hF
 clear X HR au aD aj hF HI
 by_cases hfe:fe=0
 ·have hfp:fp=0:=HZ.out hfe
  have hb:(!((fe==0)&&(fp==0)))=false:=by simp[hfe,hfp]
  rw[hb]at hnq
  have GD:=hide (HGD.out.1 hfe)
  have HO:=hide (zf.out hfe)
  subst hfe hfp
  have g0:=aA HF.out 0
  have g1:=aA HF.out 1
  have y0:w3.setCell ⟨w2.heap.size,0,none⟩ (.int .i64 0)=w3:=aJ HF.out (j:=0) rfl
  have y1:w3.setCell ⟨w2.heap.size,1,none⟩ (.int .i64 0)=w3:=aJ HF.out (j:=1) rfl
  clear hb zf sU HZ HGD hf
  by_cases hz:r.length=0
  ·have hr:r=[]:=List.eq_nil_of_length_eq_zero hz
   subst hr
   obtain⟨V,hV,bV,gV,⟨a0,a1⟩,⟨f0,f1⟩,⟨z0,z1⟩⟩:=dF bM (.int .i64 0) (.int .i64 0)
   have bf:=aB aY gV (by omega) (by omega)
   clear bV gV bM I3 GD hl hl2 hz
   simp only[List.length_nil]
   go_wp2
   go_loopw [5,16] (fun lv iv wr=>lv=.slice none 0 0∧iv=.int .i64 0∧wr=w3) (fun _ _ _=>0)
   case atStart=>exact⟨rfl,rfl,by first|rfl|rw[y0,y1]⟩
   case round=>
    obtain⟨rfl,rfl,rfl⟩:=hrel
    go_wp2
    refine bodyPost_ret (v:=.tuple #[.slice none 0 0,.agg #[.int .i64 0,.int .i64 0]]) (by simp[results,Tryz.results25,go_sem,z0,z1]) rfl ?_
    exact⟨_,rfl,by rw[HO.out];exact dM.nil _ _ _ _ _,bf⟩
  obtain⟨b1,o1,cp,hvl,_,_,hB,hcell⟩:=I3.out.1.full (by omega)
  have hao:ao=some ⟨b1,o1,none⟩:=by simp at hvl;exact hvl.1
  subst hao
  have HIN:=hide I3.out.2
  have HC:=hide hcell
  have H3:=hide bM
  generalize hn:r.length=n at*
  have HN:=hide hn
  clear hvl hcell I3 bM hn hw1 hw3
  go_wp2
  go_loopw [5,16] (fun lv iv wr=>∃k:Nat,k≤n∧iv=.int .i64 k∧jU w3.heap.size wr lv (Sm.told 0 (ay (r.take k)))∧Below w3.heap.size w3 wr) (fun _ iv _=>n-(intOf iv).toNat)
  case atStart=>exact⟨0,by omega,rfl,dM.nil _ _ _ _ _,by first|exact Below.refl _ _|(rw[y0,y1];exact Below.refl _ _)⟩
  case round=>
   obtain⟨k,hk,rfl,own,aF⟩:=hrel
   have sz:=aF.size
   by_cases hlt:k<n
   ·obtain⟨c,hc⟩:∃c,r[k]? =some c:=kV (by have:=HN.out;omega)
    obtain⟨e0,e1,e2⟩:=HC.out k c hc
    have d0:=(aF.cell (p:=⟨b1,o1+k*3,none⟩) hB).trans e0
    have d1:=(aF.cell (p:=⟨b1,o1+k*3+1,none⟩) hB).trans e1
    have d2:=(aF.cell (p:=⟨b1,o1+k*3+2,none⟩) hB).trans e2
    obtain⟨i1,_,_⟩:=HIN.out c (List.mem_of_getElem? hc)
    have HCD:=hide (amu hc)
    have hlt':(k:Int)<n:=by omega
    obtain⟨ac,cc,hcv,_,_⟩:=i1.shape
    rw[hcv]at d2
    obtain⟨V,hV,hV2,jX,bf,bC,q0,q1,q2⟩:=fJ wr 35 (.int .i64 0) (.int .i64 0) (.slice none 0 0) (.int .i64 c.e) (.int .i64 c.n) (.slice ac c.l.length cc)
    have jG:=jr own bf
    have hln:(Sm.told 0 (ay (r.take k))).length≤k:=Nat.le_trans (qh _ _) (by unfold ay;rw[List.length_map,List.length_take];omega)
    have HL:Hid (((Sm.told 0 (ay (r.take k))).length+1)*16≤140737488355328):=hide (by omega)
    have HG:Hid (Sm.grw (Sm.told 0 (ay (r.take k))) c.e c.n=Sm.told 0 (ay (r.take (k+1)))):=hide (by rw[HCD.out,Sm.anR];rfl)
    have HB:Hid (w3.heap.size≤V.heap.size):=hide (by omega)
    generalize Sm.told 0 (ay (r.take k))=u at*
    clear e0 e1 e2 hc i1 hcv bC own hln HCD
    go_wp2_with fail
    refine(aii w3.heap.size _ u c.e c.n ac c.l.length cc V jG HL.out HB.out).mono ?_
    rintro E w4 ⟨v4,rfl,aW,aK⟩
    rw[HG.out]at aW
    have gM:Below w3.heap.size w3 w4:=(aF.trans (bf.mono (by omega))).trans aK
    clear HG HL jG aF bf aK hV hV2 q0 q1 q2 d0 d1 d2
    go_wp2
    go_roundw
    case rel=>exact⟨k+1,by omega,by go_num,aW,gM⟩
    case measure=>simp[intOf];omega
   ·have hlt':¬(k:Int)<n:=by omega
    have vN:r.take k=r:=List.take_of_length_le (by have:=HN.out;omega)
    rw[vN]at own
    have vT:=(aF.block w.heap.size (by omega)).trans H3.out
    obtain⟨V,hV,bV,gV,⟨a0,a1⟩,⟨f0,f1⟩,⟨z0,z1⟩⟩:=dF vT (.int .i64 0) (.int .i64 0)
    have bf:=aB (aY.trans (aF.mono (by omega))) gV (by omega) (by omega)
    have awM:=own.agree (w':=V) fun b hb=>gV.block b (dM.lt own b hb).2 (by have:=dM.lt own b hb;simp;omega)
    have jG:=zq (base':=w.heap.size) awM (by omega)
    rw[←HO.out]at jG
    have HV:=hide jG
    clear vT bV gV aF own jG awM vN
    go_wp2
    refine bodyPost_ret (v:=.tuple #[_,.agg #[.int .i64 0,.int .i64 0]]) (by simp[results,Tryz.results25,go_sem,z0,z1];rfl) rfl ?_
    exact⟨_,rfl,HV.out,bf⟩
 ·have hb:(!((fe==0)&&(fp==0)))=true:=by simp[hfe]
  rw[hb]at hnq
  have HO:=hide (sU.out hfe)
  obtain⟨V,hV,bV,gV,⟨a0,a1⟩,⟨f0,f1⟩,⟨z0,z1⟩⟩:=dF bM (.int .i64 fe) (.int .i64 fp)
  have bf:=aB aY gV (by omega) (by omega)
  clear hb zf sU HZ HGD bV gV bM hfe I3
  go_wp2
  go_region
  go_wp2
  refine bodyPost_ret (v:=.tuple #[.slice none 0 0,.agg #[.int .i64 fe,.int .i64 fp]]) (by simp[results,Tryz.results25,go_sem,z0,z1]) rfl ?_
  exact⟨_,rfl,by rw[HO.out];exact dM.nil _ _ _ _ _,bf.drew⟩
theorem apj {r:List Cw}(hg:Cm.Good 0 0 (ay r)):Cm.fol 0 0 0 (ay r)=(0,0)∧ofs (ay r)=Sm.told 0 (ay r):=by
 have h1:=(Cm.dZ (ay r) 0 0 0).2 hg
 exact⟨Prod.ext h1 (Cm.oI _ _ _ _ h1),aeb h1⟩
theorem ash (vl:Value)(r:List Cw)(w:World)(h:di w vl r)(hf:dL r)(hl:r.length≤1000000)(hg:Cm.Good 0 0 (ay r)):
  Calls Tryz.prog 25 #[vl] w fun E w'=>∃v fe fp,E=.returned (.tuple #[v,.agg #[.int .i64 fe,.int .i64 fp]])∧Hid (fe=0∧fp=0)∧jU w.heap.size w' v (Sm.told 0 (ay r))∧Below w.heap.size w w':=by
 refine(ajU vl r w h hf hl).mono ?_
 rintro E w' ⟨v,rfl,own,aF⟩
 obtain⟨e1,e2⟩:=apj hg
 rw[e2]at own
 refine⟨v,0,0,?_,hide ⟨rfl,rfl⟩,own,aF⟩
 rw[e1]
 rfl
end Go.Proofs.YtmngcecomcadkaaGreatDoor
