/- Texts of one layer, one behind the other. -/
import Derived.Test.YtlmkaljjocflmaaGreatDoorAH10
import Derived.Test.YtlmkaljjocflmaaGreatDoorAH2
import Derived.Test.YtlmkaljjocflmaaGreatDoorAH24
import Derived.Test.YtlmkaljjocflmaaGreatDoorAH27
import Derived.Test.YtlmkaljjocflmaaGreatDoorAH31
import Derived.Test.YtlmkaljjocflmaaGreatDoorAH19
set_option maxRecDepth 100000
set_option maxHeartbeats 8000000
namespace Go.Proofs.YtlmkaljjocflmaaGreatDoor
open Go.RowKit
set_option linter.unusedVariables false
theorem af2 (cs:Array Value)(i j:Nat)(v:Value)(h:i≠j):(cs.setIfInBounds i v)[j]? =cs[j]? :=by
 rw[Array.getElem?_setIfInBounds,if_neg h]
theorem aly (base b o:Nat)(t:TypeId)(cs:Array Value)(w:World)(l:List Cm.Cv)(vc ve:Value)(rs:List Cw)(c:Cw)(size:Nat)
  (hB:w.heap[b]? =some (.cells cs t (0,0))) (ho:cs[o]? =some vc) (ho1:cs[o+1]? =some ve) (h1:t≠35) (h2:t≠3) (h3:t≠71) (h:Lw base w l vc ve rs) (hbase:base≤w.heap.size)
  (hc:bu 71 base w c.v c.l) (hg:Cm.Good 0 0 (l++[c.c])) (hs:size=(Wl.fr c.c).length):
  Calls Tryz.prog 245 #[.pointer (some ⟨b,o,none⟩),dF c.e c.n c.v,.int .i64 size] w fun E w'=>E=.returned (.tuple #[])∧
   ∃zO ve',w'.heap[b]? =some (.cells ((cs.setIfInBounds (o+1) ve').setIfInBounds o zO) t (0,0))∧Lw base w' (l++[c.c]) zO ve' (rs++[c])∧Out (fun g=>g=b∨LB vc ve rs g) w w'∧∀g,LB zO ve' (rs++[c]) g→LB vc ve rs g∨w.heap.size≤g∨c.v.ownBlock=some g:=by
 have hll:=eU h.good
 have hlen:=h.len
 obtain⟨ao,cap,hv,_,_⟩:=hc.is.shape
 obtain⟨w1,hw1,aT,ak,hB0⟩:=au w #[.int .i64 c.e,.int .i64 c.n,c.v] 35
 have hbw:b<w.heap.size:=aA hB
 have hB1:w1.heap[b]? =some (.cells cs t (0,0)):=(ak.block b hbw).trans hB
 have L1:=h.below ak
 have hsum:(Wl.bD (l++[c.c])).length=(Wl.bD l).length+size:=by rw[Wl.wK,Wl.agU,List.length_append,hs]
 have hle:=afn hg
 have hx:(Lit.int .i64 ((Wl.bD l).length+size:Int)).wf=true:=by
  have h5:(Wl.bD l).length+size≤454033408:=by omega
  exact wf_i64 (by omega) (by omega)
 have HE:Hid (Calls Tryz.prog 139 #[.pointer (some ⟨b,o,none⟩)] w1.drew fun E w'=>∃v,E=.returned v∧(v=.int .i64 rs.length∧w1.drew=w')):=hide ((kM b o w1.drew vc rs (ai hB1 o ho) (L1.r.row.row.below ((Below.refl _ _).drew))).mono fun E w' h=>⟨_,h.1,rfl,h.2⟩)
 have HP:Hid (Calls Tryz.prog 294 #[.pointer (some ⟨b,o,none⟩),.int .i64 rs.length] w1.drew fun E w'=>∃v,E=.returned v∧(v=.int .i64 (Wl.bD l).length∧w1.drew=w')):=hide (by
  have:=aav b o w1.drew ve l rs.length (by omega) hll (ai hB1 (o+1) ho1) (L1.r.en.is.drewN 1)
  rw[List.take_of_length_le (by omega)]at this
  exact this.mono fun E w' h=>⟨_,h.1,rfl,h.2⟩)
 obtain⟨V1,hV1,cV1,X1⟩:=akc (o:=o) hB1 ho1 h1 h2 h3 L1.r (by rw[sG];exact hll) (by omega) ((Wl.bD l).length+size:Int) hx
 have T2:Hid (∀v' U,U.heap[b]? =some (.cells (cs.setIfInBounds (o+1) v') t (0,0))→Lr base U vc v' rs (ends l++[((Wl.bD l).length+size:Int)])→Out (fun g=>g=b∨ve.ownBlock=some g) w1 U→(v'.ownBlock=ve.ownBlock∨∃g,v'.ownBlock=some g∧w1.heap.size≤g)→
   ∃V,U.drew.alloc (.cells #[.int .i64 c.e,.int .i64 c.n,c.v] 35)=V∧V.cell? ⟨b,o,none⟩=some vc∧U.cell? ⟨b,o,none⟩=some vc∧(U.cell? ⟨w.heap.size,0,none⟩=some (.int .i64 c.e)∧U.cell? ⟨w.heap.size,1,none⟩=some (.int .i64 c.n)∧U.cell? ⟨w.heap.size,2,none⟩=some c.v)∧(V.cell? ⟨w.heap.size,0,none⟩=some (.int .i64 c.e)∧V.cell? ⟨w.heap.size,1,none⟩=some (.int .i64 c.n)∧V.cell? ⟨w.heap.size,2,none⟩=some c.v)∧
   Hid (∀ty,∃v2 w2,(Builtin.append_ #[22,22] ty #[vc,.slice (some ⟨U.heap.size,0,none⟩) 1 1]).run Tryz.prog V=.ok v2 w2∧((∃U2,w2.setCell ⟨b,o,none⟩ v2=U2∧
    (U2.heap[b]? =some (.cells ((cs.setIfInBounds (o+1) v').setIfInBounds o v2) t (0,0))∧Lw base U2 (l++[c.c]) v2 v' (rs++[c])∧Out (fun g=>g=b∨LB vc ve rs g) w U2∧∀g,LB v2 v' (rs++[c]) g→LB vc ve rs g∨w.heap.size≤g∨c.v.ownBlock=some g))∧w2.cell? ⟨b,o,none⟩=some vc∧w2.frozen? ⟨b,o,none⟩=false∧∃a n c,v2=.slice a n c))):=hide fun v' U hBU LU oU aU=>by
  have hoU:(cs.setIfInBounds (o+1) v')[o]? =some vc:=by rw[af2 _ _ _ _ (by omega)];exact ho
  have hne:¬(w.heap.size=b∨ve.ownBlock=some w.heap.size):=by
   rintro(e|e)
   ·omega
   ·have:=(h.r.en.block _ e).2
    omega
  have ahD:=(oU.block w.heap.size (by omega) hne).trans hB0
  have hcU:bu 71 base U c.v c.l:=by
   refine dw (hc.below ak) fun g hg'=>oU.block g (bu.block (hc.below ak) g hg').2 ?_
   obtain⟨c1,e1⟩:=(hc.below ak).type hg'
   rintro(e|e)
   ·rw[e,hB1]at e1
    simp only[Option.some.injEq,Obj.cells.injEq]at e1
    exact h3 e1.2.1
   ·obtain⟨c2,e2⟩:=L1.r.en.type e
    rw[e1]at e2
    simp only[Option.some.injEq,Obj.cells.injEq]at e2
    exact absurd e2.2.1 (by decide)
  obtain⟨V2,hV2,cV2,X2⟩:=akp (o:=o) hBU hoU h1 h2 h3 LU (by omega) (by have:=oU.size;omega) c hcU
  have aX:Below U.heap.size U V2:=by
   rw[←hV2]
   exact(Below.refl U.heap.size U).drew.trans (show Below U.heap.size U.drew _ from(Below.refl U.drew.heap.size U.drew).alloc (Nat.le_refl _) _)
  have anf:=(aX.block w.heap.size (by have:=oU.size;omega)).trans ahD
  refine⟨V2,hV2,cV2,ai hBU o hoU,⟨ai ahD 0 rfl,ai ahD 1 rfl,ai ahD 2 rfl⟩,⟨ai anf 0 rfl,ai anf 1 rfl,ai anf 2 rfl⟩,hide fun ty=>?_⟩
  obtain⟨v2,w2,hr,⟨U2,hU2,aw1,LU2,oU2,aU2⟩,k1,k2,k3⟩:=X2.out ty
  refine⟨v2,w2,hr,⟨U2,hU2,aw1,⟨?_,?_,hg⟩,?_,?_⟩,k1,k2,k3⟩
  ·rw[ak3,hsum]
   exact LU2
  ·rw[aH,List.map_append,←aH,h.is]
   rfl
  ·have s1:Out (fun g=>g=b∨LB vc ve rs g) w w1:=Out.of_below ak
   have s2:Out (fun g=>g=b∨LB vc ve rs g) w U:=s1.trans oU fun g hg=>.inl (hg.elim .inl fun e=>.inr (.inr (.inl e)))
   exact s2.trans oU2 fun g hg=>.inl (hg.elim .inl fun e=>.inr (.inl e))
  ·have su:=oU.size
   rintro g (e|e|⟨d,hd,e⟩)
   ·rcases aU2 with a|⟨g',a,hg'⟩
    ·exact .inl (.inl (a▸e))
    ·rw[e]at a
     simp only[Option.some.injEq]at a
     exact .inr (.inl (by omega))
   ·rcases aU with a|⟨g',a,hg'⟩
    ·exact .inl (.inr (.inl (a▸e)))
    ·rw[e]at a
     simp only[Option.some.injEq]at a
     exact .inr (.inl (by omega))
   ·rcases List.mem_append.1 hd with hd|hd
    ·exact .inl (.inr (.inr ⟨d,hd,e⟩))
    ·rw[List.mem_singleton.1 hd]at e
     exact .inr (.inr e)
 have X1':Hid (∀ty,∃v' w',(Builtin.append_ #[173,173] ty #[ve,.slice (some ⟨w1.heap.size,0,none⟩) 1 1]).run Tryz.prog V1=.ok v' w'∧((∃U,w'.setCell ⟨b,o+1,none⟩ v'=U∧(U.heap[b]? =some (.cells (cs.setIfInBounds (o+1) v') t (0,0))∧Lr base U vc v' rs (ends l++[((Wl.bD l).length+size:Int)])∧Out (fun g=>g=b∨ve.ownBlock=some g) w1 U∧(v'.ownBlock=ve.ownBlock∨∃g,v'.ownBlock=some g∧w1.heap.size≤g)))∧w'.cell? ⟨b,o+1,none⟩=some ve∧w'.frozen? ⟨b,o+1,none⟩=false∧∃a n c,v'=.slice a n c)):=X1
 have c1:=ai hB1 (o+1) ho1
 have hwr:IntKind.i64.wrap (((Wl.bD l).length:Int)+size)=((Wl.bD l).length:Int)+size:=aS _ (by omega) (by omega)
 obtain⟨ea,ec,hve,_,_⟩:=h.r.en.is.shape
 obtain⟨ca,cc,dD,_,_⟩:=h.r.row.row.shape
 unfold dF
 rw[hv]at hw1 T2⊢
 subst hve dD
 generalize (Wl.bD l).length=z at*
 clear hB h hc hB0 hB1 L1 X1 hg hs hsum hle hll hv ho ho1 hx ak hlen
 go_enter Tryz.func245,Tryz.ntmps245
 go_wp2_with fail
 go_region_law (first
  |(refine rE rfl 139 #[.tmp 12] #[249] rfl Tryz.ajw #[.pointer (some ⟨b,o,none⟩)] (by first|(simp[Act.eval];done)|(simp[Act.eval,Act.put];done)) HE.out ?_;rintro _ _ ⟨rfl,rfl⟩)
  |(refine rE rfl 294 #[.tmp 11,.tmp 13] #[249,3] rfl Tryz.ajF #[.pointer (some ⟨b,o,none⟩),.int .i64 rs.length] (by first|(simp[Act.eval];done)|(simp[Act.eval,Act.put];done)) HP.out ?_;rintro _ _ ⟨rfl,rfl⟩)
  |(refine dY rfl (.tmp 10) (.tmp 17) 173 rfl (.slice ea (ends l).length ec) (.slice (some ⟨w1.heap.size,0,none⟩) 1 1) (by first|(simp[Act.eval];done)|(simp[Act.eval,Act.put];done)) (by first|(simp[Act.eval];done)|(simp[Act.eval,Act.put];done)) X1'.out ?_;rintro v7 w7 ⟨⟨U,hU,hBU,LU,oU,aU⟩,d7,g7,a7,n7,k7,rfl⟩;obtain⟨V2,hV2,cV2,cU2,⟨p0,p1,p2⟩,⟨r0,r1,r2⟩,X2⟩:=T2.out _ U hBU LU oU aU;clear hBU LU oU aU))
 all_goals
  go_wp2_with fail
  go_region_law (refine dY rfl (.tmp 25) (.tmp 27) 22 rfl (.slice ca rs.length cc) (.slice (some ⟨U.heap.size,0,none⟩) 1 1) (by first|(simp[Act.eval];done)|(simp[Act.eval,Act.put];done)) (by first|(simp[Act.eval];done)|(simp[Act.eval,Act.put];done)) X2.out ?_;rintro v8 w8 ⟨⟨U2,hU2,J⟩,d8,g8,a8,n8,k8,rfl⟩;have J:=hide J)
  all_goals
   go_wp2
   go_end0
   exact⟨rfl,_,_,J.out⟩
structure Rst12 (w wr:World) (bs:List Int) (l:List Cm.Cv) (vc ve:Value) (rs:List Cw):Prop where
 rd:Rdl bs l
 log:Lw (w.heap.size+2) wr l vc ve rs
 ap:yw rs
 bR:wr.heap[w.heap.size]? =some (.cells #[.slice none 0 0,.slice none 0 0] 194 (0,0))
 bL:wr.heap[w.heap.size+1]? =some (.cells #[vc,ve] 194 (0,0))
 aK:Below w.heap.size w wr
 sz:w.heap.size+2≤wr.heap.size
namespace Rol
open Pm (Pg chk no Ok)
theorem arL {x:Pg}(h:chk x=0):(own x=0↔x.r=1)∧(own x=1↔x.r=2)∧(own x=2↔x.p=1)∧(own x=3↔x.p=2)∧(own x=4↔x.p=3)∧(own x=5↔x.p=4):=by
 have ho:=Pm.mD.1 h
 have:=Pm.jm ho
 obtain⟨h1,h2,_,h3,h4⟩:=alU ho
 unfold own
 (repeat' split)<;>(refine⟨?_,?_,?_,?_,?_,?_⟩<;>omega)
theorem xm (x:Pg)(n lo hi:Int):(chk x≠0→ck x n lo hi=chk x)∧(chk x=0→n<lo∨hi<n→ck x n lo hi=2)∧(chk x=0→¬(n<lo∨hi<n)→ck x n lo hi=0):=by
 unfold ck
 exact⟨fun h=>if_neg h,fun h k=>by rw[if_pos h,if_pos k],fun h k=>by rw[if_pos h,if_neg k]⟩
end Rol
theorem avl (x y:Pm.Pg)(k e:Int)(w:World)(hx:gF x)(hm:fC w)(h1:Pm.chk x≠0→y=Pm.no∧e=Pm.chk x)(h2:Pm.chk x=0→∀W,Calls Tryz.prog 162 #[vp x,.int .i64 k,.int .i64 0,.int .i64 0] W fun E w'=>E=.returned (.tuple #[vp y,.int .i64 e])∧Below W.heap.size W w'):
  Calls Tryz.prog 202 #[vp x,.int .i64 k] w fun E w'=>E=.returned (.tuple #[vp y,.int .i64 e])∧Below w.heap.size w w':=by
 obtain⟨w1,w2,hw1,hw2,aT,dm,az,⟨p0,p1,p2,p3,p4,p5⟩,PST⟩:=jO x w
 have CK:=hide (jo x w2 hx (hm.below az))
 clear az hm
 by_cases h0:Pm.chk x=0
 ·have h2:=hide (h2 h0)
  rw[h0]at CK
  clear h1 h0
  unfold vp
  go_enter Tryz.func202,Tryz.ntmps202
  go_wp2_with fail
  refine CK.out.mono ?_
  rintro E w3 ⟨rfl,b3⟩
  obtain⟨hP3,dC,B3,bJ⟩:=PST.out w3 b3
  obtain⟨q0,q1,q2,q3,q4,q5⟩:=aR hP3
  have FO:=hide (h2.out w3)
  have B3h:=hide b3
  clear CK b3 hP3 dC B3 p0 p1 p2 p3 p4 p5
  unfold vp at FO
  go_wp2_with fail
  refine FO.out.mono ?_
  rintro E w4 ⟨rfl,b4⟩
  obtain⟨hP4,rf,B4,iE⟩:=PST.out w4 (B3h.out.trans (b4.mono B3h.out.size))
  obtain⟨Z,hZ,_,gZ,⟨a0,a1,a2,a3,a4,a5⟩,fr,⟨z0,z1,z2,z3,z4,z5⟩⟩:=fq rf (.int .i64 y.e) (.int .u8 y.r) (.int .i64 y.a) (.int .u8 y.p) (.int .i64 y.f) (.int .i64 y.b)
  have f0:=fr 0;have f1:=fr 1;have f2:=fr 2;have f3:=fr 3;have f4:=fr 4;have f5:=fr 5
  have BB:=hide (aF B4 gZ (by omega) (by omega))
  clear PST FO B3h b4 hP4 rf B4 iE gZ fr q0 q1 q2 q3 q4 q5
  go_wp2
  refine bodyPost_ret (v:=.tuple #[.agg #[.int .i64 y.e,.int .u8 y.r,.int .i64 y.a,.int .u8 y.p,.int .i64 y.f,.int .i64 y.b],.int .i64 e]) (by simp[results,Tryz.results202,go_sem,z0,z1,z2,z3,z4,z5]) rfl ?_
  exact⟨rfl,BB.out⟩
 ·obtain⟨rfl,rfl⟩:=h1 h0
  have hb:(Pm.chk x !=0)=true:=by simpa using h0
  generalize Pm.chk x=ch at*
  clear h1 h2 h0
  unfold vp
  go_enter Tryz.func202,Tryz.ntmps202
  go_wp2_with fail
  refine CK.out.mono ?_
  rintro E w3 ⟨rfl,b3⟩
  obtain⟨hP3,dC,B3,bJ⟩:=PST.out w3 b3
  obtain⟨q0,q1,q2,q3,q4,q5⟩:=aR hP3
  obtain⟨Z,hZ,_,gZ,⟨a0,a1,a2,a3,a4,a5⟩,fr,⟨z0,z1,z2,z3,z4,z5⟩⟩:=fq dC (.int .i64 0) (.int .u8 0) (.int .i64 0) (.int .u8 0) (.int .i64 0) (.int .i64 0)
  have f0:=fr 0;have f1:=fr 1;have f2:=fr 2;have f3:=fr 3;have f4:=fr 4;have f5:=fr 5
  have BB:=hide (aF B3 gZ (by omega) (by omega))
  clear CK PST b3 hP3 dC B3 bJ gZ fr p0 p1 p2 p3 p4 p5
  go_wp2
  refine bodyPost_ret (v:=.tuple #[.agg #[.int .i64 0,.int .u8 0,.int .i64 0,.int .u8 0,.int .i64 0,.int .i64 0],.int .i64 ch]) (by simp[results,Tryz.results202,go_sem,z0,z1,z2,z3,z4,z5]) rfl ?_
  exact⟨rfl,BB.out⟩
theorem ak2 (x:Pm.Pg)(n:Int)(w:World)(hx:gF x)(hm:fC w)(hn:I64 n):
  Calls Tryz.prog 83 #[vp x,.int .i64 n] w fun E w'=>E=.returned (.tuple #[vp (Rol.pr x n),.int .i64 (Rol.fT x n)])∧Below w.heap.size w w':=by
 obtain⟨w1,w2,hw1,hw2,aT,dm,az,⟨p0,p1,p2,p3,p4,p5⟩,PST⟩:=jO x w
 have CK:=hide (agp x n 0 1048576 w2 hx (hm.below az))
 clear az hm
 by_cases h0:Pm.chk x=0
 case neg=>
  rw[(Rol.xm x n 0 1048576).1 h0]at CK
  have eE:Rol.fT x n=Pm.chk x:=by unfold Rol.fT;(repeat' split)<;>omega
  have eP:Rol.pr x n=Pm.no:=by unfold Rol.pr;rw[if_neg (by rw[eE];omega)]
  rw[eP,eE]
  have hb:(Pm.chk x !=0)=true:=by simpa using h0
  generalize Pm.chk x=ch at*
  clear eE eP h0 hx
  unfold vp
  go_enter Tryz.func83,Tryz.ntmps83
  go_wp2_with fail
  refine CK.out.mono ?_
  rintro E w3 ⟨rfl,b3⟩
  obtain⟨hP3,dC,B3,bJ⟩:=PST.out w3 b3
  obtain⟨q0,q1,q2,q3,q4,q5⟩:=aR hP3
  obtain⟨Z,hZ,_,gZ,⟨a0,a1,a2,a3,a4,a5⟩,fr,⟨z0,z1,z2,z3,z4,z5⟩⟩:=fq dC (.int .i64 0) (.int .u8 0) (.int .i64 0) (.int .u8 0) (.int .i64 0) (.int .i64 0)
  have f0:=fr 0;have f1:=fr 1;have f2:=fr 2;have f3:=fr 3;have f4:=fr 4;have f5:=fr 5
  have BB:=hide (aF B3 gZ (by omega) (by omega))
  clear CK PST b3 hP3 dC B3 bJ gZ fr p0 p1 p2 p3 p4 p5
  go_wp2
  refine bodyPost_ret (v:=.tuple #[.agg #[.int .i64 0,.int .u8 0,.int .i64 0,.int .u8 0,.int .i64 0,.int .i64 0],.int .i64 ch]) (by simp[results,Tryz.results83,go_sem,z0,z1,z2,z3,z4,z5]) rfl ?_
  exact⟨rfl,BB.out⟩
 by_cases hr:n<0∨1048576<n
 case pos=>
  rw[(Rol.xm x n 0 1048576).2.1 h0 hr]at CK
  have eE:Rol.fT x n=2:=by unfold Rol.fT;(repeat' split)<;>omega
  have eP:Rol.pr x n=Pm.no:=by unfold Rol.pr;rw[if_neg (by rw[eE];omega)]
  rw[eP,eE]
  clear eE eP h0 hx hr
  unfold vp
  go_enter Tryz.func83,Tryz.ntmps83
  go_wp2_with fail
  refine CK.out.mono ?_
  rintro E w3 ⟨rfl,b3⟩
  obtain⟨hP3,dC,B3,bJ⟩:=PST.out w3 b3
  obtain⟨q0,q1,q2,q3,q4,q5⟩:=aR hP3
  obtain⟨Z,hZ,_,gZ,⟨a0,a1,a2,a3,a4,a5⟩,fr,⟨z0,z1,z2,z3,z4,z5⟩⟩:=fq dC (.int .i64 0) (.int .u8 0) (.int .i64 0) (.int .u8 0) (.int .i64 0) (.int .i64 0)
  have f0:=fr 0;have f1:=fr 1;have f2:=fr 2;have f3:=fr 3;have f4:=fr 4;have f5:=fr 5
  have BB:=hide (aF B3 gZ (by omega) (by omega))
  clear CK PST b3 hP3 dC B3 bJ gZ fr p0 p1 p2 p3 p4 p5
  go_wp2
  refine bodyPost_ret (v:=.tuple #[.agg #[.int .i64 0,.int .u8 0,.int .i64 0,.int .u8 0,.int .i64 0,.int .i64 0],.int .i64 2]) (by simp[results,Tryz.results83,go_sem,z0,z1,z2,z3,z4,z5]) rfl ?_
  exact⟨rfl,BB.out⟩
 rw[(Rol.xm x n 0 1048576).2.2 h0 hr]at CK
 by_cases h3:x.r=1
 case pos=>
  have gh3:(x.r==1)=true:=by simpa using h3
  have eE:Rol.fT x n=10:=by unfold Rol.fT;(repeat' split)<;>omega
  have eP:Rol.pr x n=Pm.no:=by unfold Rol.pr;rw[if_neg (by rw[eE];omega)]
  rw[eP,eE]
  clear eE eP h0 hr hx h3
  unfold vp
  go_enter Tryz.func83,Tryz.ntmps83
  go_wp2_with fail
  refine CK.out.mono ?_
  rintro E w3 ⟨rfl,b3⟩
  obtain⟨hP3,dC,B3,bJ⟩:=PST.out w3 b3
  obtain⟨q0,q1,q2,q3,q4,q5⟩:=aR hP3
  obtain⟨Z,hZ,_,gZ,⟨a0,a1,a2,a3,a4,a5⟩,fr,⟨z0,z1,z2,z3,z4,z5⟩⟩:=fq dC (.int .i64 0) (.int .u8 0) (.int .i64 0) (.int .u8 0) (.int .i64 0) (.int .i64 0)
  have f0:=fr 0;have f1:=fr 1;have f2:=fr 2;have f3:=fr 3;have f4:=fr 4;have f5:=fr 5
  have BB:=hide (aF B3 gZ (by omega) (by omega))
  clear CK PST b3 hP3 dC B3 bJ gZ fr p0 p1 p2 p3 p4 p5
  go_wp2
  refine bodyPost_ret (v:=.tuple #[.agg #[.int .i64 0,.int .u8 0,.int .i64 0,.int .u8 0,.int .i64 0,.int .i64 0],.int .i64 10]) (by simp[results,Tryz.results83,go_sem,z0,z1,z2,z3,z4,z5]) rfl ?_
  exact⟨rfl,BB.out⟩
 have gh3:(x.r==1)=false:=by simpa using h3
 by_cases h4:x.r=3
 case pos=>
  have gh4:(x.r==3)=true:=by simpa using h4
  have eE:Rol.fT x n=9:=by unfold Rol.fT;(repeat' split)<;>omega
  have eP:Rol.pr x n=Pm.no:=by unfold Rol.pr;rw[if_neg (by rw[eE];omega)]
  rw[eP,eE]
  clear eE eP h0 hr hx h3 h4
  unfold vp
  go_enter Tryz.func83,Tryz.ntmps83
  go_wp2_with fail
  refine CK.out.mono ?_
  rintro E w3 ⟨rfl,b3⟩
  obtain⟨hP3,dC,B3,bJ⟩:=PST.out w3 b3
  obtain⟨q0,q1,q2,q3,q4,q5⟩:=aR hP3
  obtain⟨Z,hZ,_,gZ,⟨a0,a1,a2,a3,a4,a5⟩,fr,⟨z0,z1,z2,z3,z4,z5⟩⟩:=fq dC (.int .i64 0) (.int .u8 0) (.int .i64 0) (.int .u8 0) (.int .i64 0) (.int .i64 0)
  have f0:=fr 0;have f1:=fr 1;have f2:=fr 2;have f3:=fr 3;have f4:=fr 4;have f5:=fr 5
  have BB:=hide (aF B3 gZ (by omega) (by omega))
  clear CK PST b3 hP3 dC B3 bJ gZ fr p0 p1 p2 p3 p4 p5
  go_wp2
  refine bodyPost_ret (v:=.tuple #[.agg #[.int .i64 0,.int .u8 0,.int .i64 0,.int .u8 0,.int .i64 0,.int .i64 0],.int .i64 9]) (by simp[results,Tryz.results83,go_sem,z0,z1,z2,z3,z4,z5]) rfl ?_
  exact⟨rfl,BB.out⟩
 have gh4:(x.r==3)=false:=by simpa using h4
 by_cases h5:x.e=1048576
 case pos=>
  have gh5:(x.e==1048576)=true:=by simpa using h5
  have eE:Rol.fT x n=2:=by unfold Rol.fT;(repeat' split)<;>omega
  have eP:Rol.pr x n=Pm.no:=by unfold Rol.pr;rw[if_neg (by rw[eE];omega)]
  rw[eP,eE]
  clear eE eP h0 hr hx h3 h4 h5
  unfold vp
  go_enter Tryz.func83,Tryz.ntmps83
  go_wp2_with fail
  refine CK.out.mono ?_
  rintro E w3 ⟨rfl,b3⟩
  obtain⟨hP3,dC,B3,bJ⟩:=PST.out w3 b3
  obtain⟨q0,q1,q2,q3,q4,q5⟩:=aR hP3
  obtain⟨Z,hZ,_,gZ,⟨a0,a1,a2,a3,a4,a5⟩,fr,⟨z0,z1,z2,z3,z4,z5⟩⟩:=fq dC (.int .i64 0) (.int .u8 0) (.int .i64 0) (.int .u8 0) (.int .i64 0) (.int .i64 0)
  have f0:=fr 0;have f1:=fr 1;have f2:=fr 2;have f3:=fr 3;have f4:=fr 4;have f5:=fr 5
  have BB:=hide (aF B3 gZ (by omega) (by omega))
  clear CK PST b3 hP3 dC B3 bJ gZ fr p0 p1 p2 p3 p4 p5
  go_wp2
  refine bodyPost_ret (v:=.tuple #[.agg #[.int .i64 0,.int .u8 0,.int .i64 0,.int .u8 0,.int .i64 0,.int .i64 0],.int .i64 2]) (by simp[results,Tryz.results83,go_sem,z0,z1,z2,z3,z4,z5]) rfl ?_
  exact⟨rfl,BB.out⟩
 have gh5:(x.e==1048576)=false:=by simpa using h5
 have hn3:=Pm.jm (Pm.mD.1 h0)
 have ho:Rol.own x=1:=(Rol.arL h0).2.1.2 (by omega)
 have he:x.e≤1048576:=by omega
 have he0:0≤x.e:=by omega
 have eE:Rol.fT x n=0:=by unfold Rol.fT;(repeat' split)<;>omega
 have eP:Rol.pr x n=⟨x.e+1,1,n,0,0,0⟩:=by unfold Rol.pr;rw[if_pos eE]
 rw[eP,eE]
 clear eE eP h0 hr hx h3 h4 h5 hn3
 unfold vp
 go_enter Tryz.func83,Tryz.ntmps83
 go_wp2_with fail
 refine CK.out.mono ?_
 rintro E w3 ⟨rfl,b3⟩
 obtain⟨hP3,dC,B3,bJ⟩:=PST.out w3 b3
 obtain⟨q0,q1,q2,q3,q4,q5⟩:=aR hP3
 have FO:=hide (aks x n 0 w3 ho he he0)
 have B3h:=hide b3
 clear CK b3 hP3 dC B3 p0 p1 p2 p3 p4 p5 he he0 ho
 unfold vp at FO
 go_wp2_with fail
 refine FO.out.mono ?_
 rintro E w4 ⟨rfl,b4⟩
 obtain⟨hP4,rf,B4,iE⟩:=PST.out w4 (B3h.out.trans (b4.mono B3h.out.size))
 obtain⟨Z,hZ,_,gZ,⟨a0,a1,a2,a3,a4,a5⟩,fr,⟨z0,z1,z2,z3,z4,z5⟩⟩:=fq rf (.int .i64 (x.e+1)) (.int .u8 1) (.int .i64 n) (.int .u8 0) (.int .i64 0) (.int .i64 0)
 have f0:=fr 0;have f1:=fr 1;have f2:=fr 2;have f3:=fr 3;have f4:=fr 4;have f5:=fr 5
 have BB:=hide (aF B4 gZ (by omega) (by omega))
 clear PST FO B3h b4 hP4 rf B4 iE gZ fr q0 q1 q2 q3 q4 q5
 go_wp2
 refine bodyPost_ret (v:=.tuple #[.agg #[.int .i64 (x.e+1),.int .u8 1,.int .i64 n,.int .u8 0,.int .i64 0,.int .i64 0],.int .i64 0]) (by simp[results,Tryz.results83,go_sem,z0,z1,z2,z3,z4,z5]) rfl ?_
 exact⟨rfl,BB.out⟩
theorem afX (x:Pm.Pg)(w:World)(hx:gF x)(hm:fC w):
  Calls Tryz.prog 152 #[vp x] w fun E w'=>E=.returned (.int .i64 (Rol.uB x))∧Below w.heap.size w w':=by
 obtain⟨w2,hw2,dm,az,hP⟩:=au w #[.int .i64 x.e,.int .u8 x.r,.int .i64 x.a,.int .u8 x.p,.int .i64 x.f,.int .i64 x.b] 46
 obtain⟨p0,p1,p2,p3,p4,p5⟩:=aR hP
 have PST:Hid (∀W,Below w2.heap.size w2 W→W.heap[w.heap.size]? =some (.cells #[.int .i64 x.e,.int .u8 x.r,.int .i64 x.a,.int .u8 x.p,.int .i64 x.f,.int .i64 x.b] 46 (0,0))∧Below w.heap.size w W):=hide fun W hW=>⟨(hW.block w.heap.size (by omega)).trans hP,az.trans (hW.mono (by omega))⟩
 have CK:=hide (jo x w2 hx (hm.below az))
 unfold Rol.uB
 obtain⟨ch,hch⟩:∃c,Pm.chk x=c:=⟨_,rfl⟩
 rw[hch]at CK⊢
 clear az hx hP hm hch
 by_cases h0:ch=0
 case neg=>
  rw[if_neg h0]
  have hb:(ch !=0)=true:=by simpa using h0
  unfold vp
  go_enter Tryz.func152,Tryz.ntmps152
  go_wp2_with fail
  refine CK.out.mono ?_
  rintro E w3 ⟨rfl,b3⟩
  obtain⟨hP3,B3⟩:=PST.out w3 b3
  obtain⟨q0,q1,q2,q3,q4,q5⟩:=aR hP3
  have BB:=hide B3
  clear CK PST b3 hP3 B3 p0 p1 p2 p3 p4 p5
  go_wp2
  go_ret
  exact⟨rfl,BB.out⟩
 subst h0
 rw[if_pos rfl]
 by_cases k0:x.r=2
 case pos=>
  rw[if_pos k0]
  have g0:(x.r==2)=true:=by simpa using k0
  clear k0
  unfold vp
  go_enter Tryz.func152,Tryz.ntmps152
  go_wp2_with fail
  refine CK.out.mono ?_
  rintro E w3 ⟨rfl,b3⟩
  obtain⟨hP3,B3⟩:=PST.out w3 b3
  obtain⟨q0,q1,q2,q3,q4,q5⟩:=aR hP3
  have BB:=hide B3
  clear CK PST b3 hP3 B3 p0 p1 p2 p3 p4 p5
  go_wp2
  go_ret
  exact⟨rfl,BB.out⟩
 rw[if_neg k0]
 have g0:(x.r==2)=false:=by simpa using k0
 by_cases k1:x.r=3
 case pos=>
  rw[if_pos k1]
  have g1:(x.r==3)=true:=by simpa using k1
  clear k0 k1
  unfold vp
  go_enter Tryz.func152,Tryz.ntmps152
  go_wp2_with fail
  refine CK.out.mono ?_
  rintro E w3 ⟨rfl,b3⟩
  obtain⟨hP3,B3⟩:=PST.out w3 b3
  obtain⟨q0,q1,q2,q3,q4,q5⟩:=aR hP3
  have BB:=hide B3
  clear CK PST b3 hP3 B3 p0 p1 p2 p3 p4 p5
  go_wp2
  go_ret
  exact⟨rfl,BB.out⟩
 rw[if_neg k1]
 have g1:(x.r==3)=false:=by simpa using k1
 clear k0 k1
 unfold vp
 go_enter Tryz.func152,Tryz.ntmps152
 go_wp2_with fail
 refine CK.out.mono ?_
 rintro E w3 ⟨rfl,b3⟩
 obtain⟨hP3,B3⟩:=PST.out w3 b3
 obtain⟨q0,q1,q2,q3,q4,q5⟩:=aR hP3
 have BB:=hide B3
 clear CK PST b3 hP3 B3 p0 p1 p2 p3 p4 p5
 go_wp2
 go_ret
 exact⟨rfl,BB.out⟩
theorem aie (x:Pm.Pg)(w:World)(hx:gF x)(hm:fC w):
  Calls Tryz.prog 80 #[vp x] w fun E w'=>E=.returned (.int .i64 (Rol.lN x))∧Below w.heap.size w w':=by
 obtain⟨w2,hw2,dm,az,hP⟩:=au w #[.int .i64 x.e,.int .u8 x.r,.int .i64 x.a,.int .u8 x.p,.int .i64 x.f,.int .i64 x.b] 46
 obtain⟨p0,p1,p2,p3,p4,p5⟩:=aR hP
 have PST:Hid (∀W,Below w2.heap.size w2 W→W.heap[w.heap.size]? =some (.cells #[.int .i64 x.e,.int .u8 x.r,.int .i64 x.a,.int .u8 x.p,.int .i64 x.f,.int .i64 x.b] 46 (0,0))∧Below w.heap.size w W):=hide fun W hW=>⟨(hW.block w.heap.size (by omega)).trans hP,az.trans (hW.mono (by omega))⟩
 have CK:=hide (jo x w2 hx (hm.below az))
 unfold Rol.lN
 obtain⟨ch,hch⟩:∃c,Pm.chk x=c:=⟨_,rfl⟩
 rw[hch]at CK⊢
 clear az hx hP hm hch
 by_cases h0:ch=0
 case neg=>
  rw[if_neg h0]
  have hb:(ch !=0)=true:=by simpa using h0
  unfold vp
  go_enter Tryz.func80,Tryz.ntmps80
  go_wp2_with fail
  refine CK.out.mono ?_
  rintro E w3 ⟨rfl,b3⟩
  obtain⟨hP3,B3⟩:=PST.out w3 b3
  obtain⟨q0,q1,q2,q3,q4,q5⟩:=aR hP3
  have BB:=hide B3
  clear CK PST b3 hP3 B3 p0 p1 p2 p3 p4 p5
  go_wp2
  go_ret
  exact⟨rfl,BB.out⟩
 subst h0
 rw[if_pos rfl]
 by_cases k0:x.r=3
 case pos=>
  rw[if_pos k0]
  have g0:(x.r==3)=true:=by simpa using k0
  clear k0
  unfold vp
  go_enter Tryz.func80,Tryz.ntmps80
  go_wp2_with fail
  refine CK.out.mono ?_
  rintro E w3 ⟨rfl,b3⟩
  obtain⟨hP3,B3⟩:=PST.out w3 b3
  obtain⟨q0,q1,q2,q3,q4,q5⟩:=aR hP3
  have BB:=hide B3
  clear CK PST b3 hP3 B3 p0 p1 p2 p3 p4 p5
  go_wp2
  go_ret
  exact⟨rfl,BB.out⟩
 rw[if_neg k0]
 have g0:(x.r==3)=false:=by simpa using k0
 clear k0
 unfold vp
 go_enter Tryz.func80,Tryz.ntmps80
 go_wp2_with fail
 refine CK.out.mono ?_
 rintro E w3 ⟨rfl,b3⟩
 obtain⟨hP3,B3⟩:=PST.out w3 b3
 obtain⟨q0,q1,q2,q3,q4,q5⟩:=aR hP3
 have BB:=hide B3
 clear CK PST b3 hP3 B3 p0 p1 p2 p3 p4 p5
 go_wp2
 go_ret
 exact⟨rfl,BB.out⟩
theorem ajs (x:Pm.Pg)(n:Int)(w:World)(hx:gF x)(hm:fC w)(hn:I64 n):
  Calls Tryz.prog 158 #[vp x,.int .i64 n] w fun E w'=>E=.returned (.tuple #[vp (Rol.he x n),.bool (Rol.vU x n),.int .i64 (Rol.uC x n)])∧Below w.heap.size w w':=by
 obtain⟨w1,w2,hw1,hw2,aT,dm,az,⟨p0,p1,p2,p3,p4,p5⟩,PST⟩:=jO x w
 have CK:=hide (agp x n 1 1048576 w2 hx (hm.below az))
 clear az hm
 by_cases h0:Pm.chk x=0
 case neg=>
  rw[(Rol.xm x n 1 1048576).1 h0]at CK
  have eE:Rol.uC x n=Pm.chk x:=by unfold Rol.uC;(repeat' split)<;>omega
  have eP:Rol.he x n=Pm.no:=by unfold Rol.he;rw[if_neg (by rw[eE];omega)]
  have eB:Rol.vU x n=false:=by unfold Rol.vU;rw[eE];simp<;>omega
  rw[eP,eE,eB]
  have hb:(Pm.chk x !=0)=true:=by simpa using h0
  generalize Pm.chk x=ch at*
  clear eE eP eB h0 hx
  unfold vp
  go_enter Tryz.func158,Tryz.ntmps158
  go_wp2_with fail
  refine CK.out.mono ?_
  rintro E w3 ⟨rfl,b3⟩
  obtain⟨hP3,dC,B3,bJ⟩:=PST.out w3 b3
  obtain⟨q0,q1,q2,q3,q4,q5⟩:=aR hP3
  obtain⟨Z,hZ,_,gZ,⟨a0,a1,a2,a3,a4,a5⟩,fr,⟨z0,z1,z2,z3,z4,z5⟩⟩:=fq dC (.int .i64 0) (.int .u8 0) (.int .i64 0) (.int .u8 0) (.int .i64 0) (.int .i64 0)
  have f0:=fr 0;have f1:=fr 1;have f2:=fr 2;have f3:=fr 3;have f4:=fr 4;have f5:=fr 5
  have BB:=hide (aF B3 gZ (by omega) (by omega))
  clear CK PST b3 hP3 dC B3 bJ gZ fr p0 p1 p2 p3 p4 p5
  go_wp2
  refine bodyPost_ret (v:=.tuple #[.agg #[.int .i64 0,.int .u8 0,.int .i64 0,.int .u8 0,.int .i64 0,.int .i64 0],.bool false,.int .i64 ch]) (by simp[results,Tryz.results158,go_sem,z0,z1,z2,z3,z4,z5]) rfl ?_
  exact⟨rfl,BB.out⟩
 by_cases hr:n<1∨1048576<n
 case pos=>
  rw[(Rol.xm x n 1 1048576).2.1 h0 hr]at CK
  have eE:Rol.uC x n=2:=by unfold Rol.uC;(repeat' split)<;>omega
  have eP:Rol.he x n=Pm.no:=by unfold Rol.he;rw[if_neg (by rw[eE];omega)]
  have eB:Rol.vU x n=false:=by unfold Rol.vU;rw[eE];simp<;>omega
  rw[eP,eE,eB]
  clear eE eP eB h0 hx hr
  unfold vp
  go_enter Tryz.func158,Tryz.ntmps158
  go_wp2_with fail
  refine CK.out.mono ?_
  rintro E w3 ⟨rfl,b3⟩
  obtain⟨hP3,dC,B3,bJ⟩:=PST.out w3 b3
  obtain⟨q0,q1,q2,q3,q4,q5⟩:=aR hP3
  obtain⟨Z,hZ,_,gZ,⟨a0,a1,a2,a3,a4,a5⟩,fr,⟨z0,z1,z2,z3,z4,z5⟩⟩:=fq dC (.int .i64 0) (.int .u8 0) (.int .i64 0) (.int .u8 0) (.int .i64 0) (.int .i64 0)
  have f0:=fr 0;have f1:=fr 1;have f2:=fr 2;have f3:=fr 3;have f4:=fr 4;have f5:=fr 5
  have BB:=hide (aF B3 gZ (by omega) (by omega))
  clear CK PST b3 hP3 dC B3 bJ gZ fr p0 p1 p2 p3 p4 p5
  go_wp2
  refine bodyPost_ret (v:=.tuple #[.agg #[.int .i64 0,.int .u8 0,.int .i64 0,.int .u8 0,.int .i64 0,.int .i64 0],.bool false,.int .i64 2]) (by simp[results,Tryz.results158,go_sem,z0,z1,z2,z3,z4,z5]) rfl ?_
  exact⟨rfl,BB.out⟩
 rw[(Rol.xm x n 1 1048576).2.2 h0 hr]at CK
 have eE:Rol.uC x n=0:=by unfold Rol.uC;rw[if_pos h0,if_neg hr]
 by_cases h3:n≤x.e
 case pos=>
  have eP:Rol.he x n=x:=by unfold Rol.he;rw[if_pos eE,if_neg (by omega)]
  have eB:Rol.vU x n=false:=by unfold Rol.vU;rw[eE];simp;omega
  rw[eP,eE,eB]
  clear eE eP eB h0 hr hx
  unfold vp
  go_enter Tryz.func158,Tryz.ntmps158
  go_wp2_with fail
  refine CK.out.mono ?_
  rintro E w3 ⟨rfl,b3⟩
  obtain⟨hP3,dC,B3,bJ⟩:=PST.out w3 b3
  obtain⟨q0,q1,q2,q3,q4,q5⟩:=aR hP3
  obtain⟨Z,hZ,_,gZ,⟨a0,a1,a2,a3,a4,a5⟩,fr,⟨z0,z1,z2,z3,z4,z5⟩⟩:=fq dC (.int .i64 x.e) (.int .u8 x.r) (.int .i64 x.a) (.int .u8 x.p) (.int .i64 x.f) (.int .i64 x.b)
  have f0:=fr 0;have f1:=fr 1;have f2:=fr 2;have f3:=fr 3;have f4:=fr 4;have f5:=fr 5
  have BB:=hide (aF B3 gZ (by omega) (by omega))
  clear CK PST b3 hP3 dC B3 bJ gZ fr p0 p1 p2 p3 p4 p5
  go_wp2
  refine bodyPost_ret (v:=.tuple #[.agg #[.int .i64 x.e,.int .u8 x.r,.int .i64 x.a,.int .u8 x.p,.int .i64 x.f,.int .i64 x.b],.bool false,.int .i64 0]) (by simp[results,Tryz.results158,go_sem,z0,z1,z2,z3,z4,z5]) rfl ?_
  exact⟨rfl,BB.out⟩
 have eP:Rol.he x n=⟨n,3,0,1,0,0⟩:=by unfold Rol.he;rw[if_pos eE,if_pos (by omega)]
 have eB:Rol.vU x n=true:=by unfold Rol.vU;rw[eE];simp;omega
 rw[eP,eE,eB]
 have CC:Hid (∀W,Below w2.heap.size w2 W→Calls Tryz.prog 210 #[.int .i64 n,.int .i64 0] W fun E w'=>∃B,E=.returned (.agg #[.func (.func 275) #[] #[.pointer (some ⟨B,0,none⟩)],.func (.func 276) #[] #[.pointer (some ⟨B,0,none⟩)],.func (.func 277) #[] #[.pointer (some ⟨B,0,none⟩),.pointer (some ⟨B+1,0,none⟩)],.func (.func 307) #[] #[.pointer (some ⟨B+3,0,none⟩)],.func (.func 307) #[] #[.pointer (some ⟨B+4,0,none⟩)],.func (.func 279) #[] #[],.func (.func 280) #[] #[.pointer (some ⟨B,0,none⟩)]])∧Tbl B n 0 w'∧Below w2.heap.size w2 w'):=hide fun W hW=>(afH n 0 W).mono fun E w' h=>⟨W.heap.size,h.1,h.2.1,hW.trans (h.2.2.mono hW.size)⟩
 clear eE eP eB h0 hr hx
 unfold vp
 go_enter Tryz.func158,Tryz.ntmps158
 go_wp2_with fail
 refine CK.out.mono ?_
 rintro E w3 ⟨rfl,b3⟩
 obtain⟨hP3,dC,B3,bJ⟩:=PST.out w3 b3
 obtain⟨q0,q1,q2,q3,q4,q5⟩:=aR hP3
 have Sk3:=hide (ny hP3)
 have B3':=hide b3
 clear CK b3 hP3 dC B3 bJ p0 p1 p2 p3 p4 p5
 go_wp2_with fail
 have hix:∀(f0 f1 f2 f3 f4 f5 f6:Value) (w:World),(Instr.index 264 (.agg #[f0,f1,f2,f3,f4,f5,f6]) (.int .i64 6)).run Tryz.prog w=.ok f6 w:=Tryz.avw
 go_region_held3 (fun W=>W.cell? ⟨w.heap.size,0,none⟩=some (.int .i64 x.e)∧W.cell? ⟨w.heap.size,1,none⟩=some (.int .u8 x.r)∧W.cell? ⟨w.heap.size,2,none⟩=some (.int .i64 x.a)∧W.cell? ⟨w.heap.size,3,none⟩=some (.int .u8 x.p)∧W.cell? ⟨w.heap.size,4,none⟩=some (.int .i64 x.f)∧W.cell? ⟨w.heap.size,5,none⟩=some (.int .i64 x.b)) (first|exact Sk7.out|exact Sk6.out|exact Sk4.out|exact Sk3.out|go_keep)
  (first
  |(go_at_call 210;refine(CC.out _ B3'.out.drew).mono ?_;rintro E w4 ⟨B,rfl,t4,b4⟩;have T4:=hide t4;have B4:=hide b4;have Sk4:=hide (ny (PST.out w4 b4).1);clear t4 b4)
  |(go_at_call 280;refine(ah9 x n B _ T4.out.h0).mono ?_;rintro E w6 ⟨rfl,b6⟩;obtain⟨hP6,zK,B6,uo⟩:=PST.out w6 (B4.out.trans (b6.mono B4.out.size));obtain⟨Z,hZ,_,gZ,⟨a0,a1,a2,a3,a4,a5⟩,fr,⟨z0,z1,z2,z3,z4,z5⟩⟩:=fq zK (.int .i64 n) (.int .u8 3) (.int .i64 0) (.int .u8 1) (.int .i64 0) (.int .i64 0);have f0:=fr 0;have f1:=fr 1;have f2:=fr 2;have f3:=fr 3;have f4:=fr 4;have f5:=fr 5;have BB:=hide (aF B6 gZ (by omega) (by omega));have Sk6:=hide (ny hP6);have Sk7:=hide (ny ((qR gZ ⟨by omega,by omega⟩).trans hP6));clear b6 hP6 zK B6 uo gZ fr))
 all_goals
  go_wp2
  refine bodyPost_ret (v:=.tuple #[.agg #[.int .i64 n,.int .u8 3,.int .i64 0,.int .u8 1,.int .i64 0,.int .i64 0],.bool true,.int .i64 0]) (by simp[results,Tryz.results158,go_sem,z0,z1,z2,z3,z4,z5]) rfl ?_
  exact⟨rfl,BB.out⟩
theorem ajJ {bs:List Int}{a:Nat}(h:∀x:Nat,x≤bs.length→¬Vm.enc x<+:bs.drop a):∀c':Cm.Cv,Cm.chk c'.e c'.n c'.l=0→¬Fm.dB (Mm.cb c')<+:bs.drop a:=fun c' _ hp=>by
 obtain⟨h1,h2,h3⟩:=Fm.ru hp
 rw[List.length_drop]at h3
 exact h _ (by omega) h1
theorem aq7 {bs:List Int}{a u:Nat}(h:Vm.enc u<+:bs.drop a)(hu:bs.length-(a+Vm.sz u)<u):∀c':Cm.Cv,Cm.chk c'.e c'.n c'.l=0→¬Fm.dB (Mm.cb c')<+:bs.drop a:=fun c' _ hp=>by
 obtain⟨h1,h2,h3⟩:=Fm.ru hp
 have e:=Vm.cz _ _ _ h h1
 subst e
 rw[List.length_drop]at h2 h3
 omega
theorem ab8 {bs:List Int}{a u:Nat}(h:Vm.enc u<+:bs.drop a)(hu:u≤bs.length-(a+Vm.sz u)):((bs.drop (a+Vm.sz u)).take u).length=u∧Fm.dB ((bs.drop (a+Vm.sz u)).take u)<+:bs.drop a:=by
 have:=Fm.akU (bs:=bs.drop a) (x:=u) h (by rw[List.length_drop];omega)
 rw[List.drop_drop]at this
 exact this
theorem amL {bs:List Int}{a u:Nat}{e n:Int}{l:List Bm.Ov}(h:Vm.enc u<+:bs.drop a)(hu:u≤bs.length-(a+Vm.sz u))(hc:Cm.chk e n l=0)(he:Cm.dW e n l=(bs.drop (a+Vm.sz u)).take u):Mm.tQ bs a false ⟨e,n,l⟩ (a+Vm.sz u+u) false:=by
 obtain⟨h1,h2⟩:=ab8 h hu
 refine .inr (.inr ⟨rfl,rfl,hc,?_,?_⟩)
 ·show Fm.dB (Cm.dW e n l)<+:_
  rw[he]
  exact h2
 ·show _=a+(Fm.dB (Cm.dW e n l)).length
  rw[he,Fm.lh,h1]
  omega
theorem aqr {bs:List Int}{a u:Nat}(h:Vm.enc u<+:bs.drop a)(hu:u≤bs.length-(a+Vm.sz u))(hno:∀e' n' l',Cm.chk e' n' l'=0→Cm.dW e' n' l'≠(bs.drop (a+Vm.sz u)).take u):∀c':Cm.Cv,Cm.chk c'.e c'.n c'.l=0→¬Fm.dB (Mm.cb c')<+:bs.drop a:=fun c' hc hp=>by
 obtain⟨h1,h2⟩:=ab8 h hu
 exact hno c'.e c'.n c'.l hc (Fm.wM hp h2)
theorem adM {V:World}{R:Nat}{t:TypeId}{x y z:Value}(hR:V.heap[R]? =some (.cells #[x,y,z] t (0,0))):((V.setCell ⟨R,0,none⟩ x).setCell ⟨R,1,none⟩ y).setCell ⟨R,2,none⟩ z=V:=by
 have h0:V.setCell ⟨R,0,none⟩ x=V:=aM hR (j:=0) rfl
 have h1:V.setCell ⟨R,1,none⟩ y=V:=aM hR (j:=1) rfl
 have h2:V.setCell ⟨R,2,none⟩ z=V:=aM hR (j:=2) rfl
 rw[h0,h1,h2]
def zB (B:Nat) (w:World):Prop:=w.heap[B+4]? =some (.cells #[.func (.func 273) #[] #[.pointer (some ⟨B+3,0,none⟩),.pointer (some ⟨B,0,none⟩),.pointer (some ⟨B+2,0,none⟩)]] 306 (0,0))
theorem zB.out {B:Nat}{w w':World}(h:zB B w)(ho:Out (Wr B) w w'):zB B w':=(ho.block (B+4) (aA h) (by unfold Wr;omega)).trans h
theorem zB.below {B:Nat}{w w':World}(h:zB B w)(hb:Below w.heap.size w w'):zB B w':=(hb.block (B+4) (aA h)).trans h
theorem aqG (B:Nat)(w0 w:World)(vb:Value)(bs:List Int)(a:Nat)(bad:Bool)(h:Rst B w0 w vb bs a bad)(hn:zB B w)(hl:bs.length≤100000000000000):
  Calls Tryz.prog 274 #[.pointer (some ⟨B+4,0,none⟩),.pointer (some ⟨B,0,none⟩),.pointer (some ⟨B+2,0,none⟩),.pointer (some ⟨B+3,0,none⟩)] w fun E w'=>∃(e n:Int) (v:Value) (l:List Bm.Ov) (a':Nat) (bad':Bool),E=.returned (dF e n v)∧Hid (bu 71 w.heap.size w' v l∧Mm.tQ bs a bad ⟨e,n,l⟩ a' bad'∧aaW e n l∧Rst B w0 w' vb bs a' bad'∧Out (Wr B) w w'):=by
 unfold dF
 have hlt:=h.lt
 have hlt4:=aA hn
 obtain⟨w1,hw1,aT,ak,hR⟩:=au w #[.int .i64 0,.int .i64 0,.slice none 0 0] 35
 have R1:=hide (h.below ak)
 have F1:=hide (hn.below ak)
 have HR1:=hide hR
 have O1:Hid (Out (Wr B) w w1):=hide (Out.of_below ak)
 obtain⟨ao,cap,hvb,_,_⟩:=h.is.shape
 have cb:w1.cell? ⟨B,0,none⟩=some (.slice ao bs.length cap):=by rw[←hvb];exact ai R1.out.bx 0 rfl
 have cf:w1.cell? ⟨B+4,0,none⟩=some (.func (.func 273) #[] #[.pointer (some ⟨B+3,0,none⟩),.pointer (some ⟨B,0,none⟩),.pointer (some ⟨B+2,0,none⟩)]):=ai F1.out 0 rfl
 have HVB:=hide hvb
 clear h hn hR hvb
 go_enter Tryz.func274,Tryz.ntmps274
 go_wp2_with fail
 refine(aar B w0 w1 vb bs a bad bs.length R1.out hl (by omega)).mono ?_
 rintro E w2 ⟨u,a1,gQ,rfl,H2⟩
 obtain⟨r2,s2,o2⟩:=H2.out
 have dm:=o2.size
 have R2:=hide r2
 have S2:=hide s2
 have O2:Hid (Out (Wr B) w w2):=hide (mo O1.out o2)
 have hR2:=(o2.block w.heap.size (by omega) (by unfold Wr;omega)).trans HR1.out
 have HR2:=hide hR2
 have ha1:=r2.le
 have cb2:w2.cell? ⟨B,0,none⟩=some (.slice ao bs.length cap):=by rw[←HVB.out];exact ai r2.bx 0 rfl
 have ca2:w2.cell? ⟨B+2,0,none⟩=some (.int .i64 a1):=ai r2.at' 0 rfl
 have ce2:w2.cell? ⟨B+3,0,none⟩=some (.int .i64 (eT gQ)):=ai r2.er 0 rfl
 have fe2:=aB r2.er 0
 have hu:u≤bs.length:=by
  rcases s2 with⟨_,_,rfl,_⟩|⟨_,_,rfl,_⟩|⟨_,_,hx,_⟩
  ·omega
  ·omega
  ·exact hx
 clear H2 r2 s2 o2 cb cf hw1 R1 F1 O1 HR1
 obtain⟨Z,hZ,bZ,gZ,⟨a0,a1',a2⟩,⟨f0,f1,f2⟩,⟨z0,z1,z2⟩⟩:=fI hR2 (.int .i64 0) (.int .i64 0) (.slice none 0 0)
 have szZ:=gZ.size
 cases gQ
 ·
  have hsu:bad=false∧Vm.enc u<+:bs.drop a∧a1=a+Vm.sz u:=by
   rcases S2.out with⟨_,hx,_⟩|⟨_,hx,_⟩|⟨h1,_,_,h2,h3⟩
   ·simp at hx
   ·simp at hx
   ·exact⟨h1,h2,h3⟩
  obtain⟨rfl,hen,rfl⟩:=hsu
  have HEN:=hide hen
  have hbz:eT false=0:=rfl
  rw[hbz]at ce2
  by_cases hroom:bs.length-(a+Vm.sz u)<u
  ·
   have hg:(bs.length:Int)-((a+Vm.sz u:Nat):Int)<u:=by omega
   obtain⟨V,hV⟩:∃V,w2.setCell ⟨B+3,0,none⟩ (.int .i64 5)=V:=⟨_,rfl⟩
   have RV:Hid (Rst B w0 V vb bs (a+Vm.sz u) true):=hide (by rw[←hV];exact R2.out.aow true)
   have OV:Hid (Out (Wr B) w V):=hide (mo O2.out (by rw[←hV];exact aiR _ _ _))
   have hRV:V.heap[w.heap.size]? =some (.cells #[.int .i64 0,.int .i64 0,.slice none 0 0] 35 (0,0)):=by
    rw[←hV]
    exact((ax w2 ⟨B+3,0,none⟩ (.int .i64 5)).block w.heap.size (by omega) (by simp;omega)).trans HR2.out
   have ce3:V.cell? ⟨B+3,0,none⟩=some (.int .i64 5):=ai RV.out.er 0 rfl
   obtain⟨Y,hY,bY,gY,⟨y0,y1',y2⟩,⟨k0,k1,k2⟩,⟨x0,x1,x2⟩⟩:=fI hRV (.int .i64 0) (.int .i64 0) (.slice none 0 0)
   have hYV:V=Y:=by
    rw[←hY,adM hRV]
   subst hYV
   have HS:=hide (aq7 hen hroom)
   generalize a+Vm.sz u=q at*
   clear hen hroom hR2 hRV bY gY bZ gZ
   go_wp2
   refine bodyPost_ret (v:=.agg #[.int .i64 0,.int .i64 0,.slice none 0 0]) (by simp[results,Tryz.results274,go_sem,x0,x1,x2]) rfl ?_
   exact⟨0,0,_,[],_,true,rfl,hide ⟨bu.nil _ _ _,.inr (.inl ⟨rfl,rfl,HS.out⟩),aaZ,RV.out,OV.out⟩⟩
  ·
   have hg:¬(bs.length:Int)-((a+Vm.sz u:Nat):Int)<u:=by omega
   obtain⟨vs,hsl,gy⟩:=R2.out.is.pF Tryz.aiN Tryz.aia (a+Vm.sz u) (a+Vm.sz u+u) (by omega) (by omega)
   rw[show a+Vm.sz u+u-(a+Vm.sz u)=u by omega]at gy
   have hsl2:(Instr.slice 61 (.slice ao bs.length cap) (some (.int .i64 ((a+Vm.sz u:Nat):Int))) (some (.int .i64 (((a+Vm.sz u:Nat):Int)+(u:Int)))) none).run Tryz.prog w2=.ok vs w2:=by
    have:=hsl w2
    rw[HVB.out]at this
    simpa using this
   have hwr:IntKind.i64.wrap (((a+Vm.sz u:Nat):Int)+(u:Int))=((a+Vm.sz u:Nat):Int)+u:=aS _ (by omega) (by omega)
   have hpl:((bs.drop (a+Vm.sz u)).take u).length≤100000000000000:=by rw[List.length_take];omega
   have C3:=hide (nZ vs ((bs.drop (a+Vm.sz u)).take u) w2 gy (by omega))
   have HNO:Hid (¬bs.length-(a+Vm.sz u)<u):=hide hroom
   have GB:Hid (∀e n l,Cm.chk e n l=0→Cm.dW e n l=(bs.drop (a+Vm.sz u)).take u→Mm.tQ bs a false ⟨e,n,l⟩ (a+Vm.sz u+u) false):=hide fun e n l=>amL hen (by omega)
   have GN:Hid ((∀e' n' l',Cm.chk e' n' l'=0→Cm.dW e' n' l'≠(bs.drop (a+Vm.sz u)).take u)→∀c':Cm.Cv,Cm.chk c'.e c'.n c'.l=0→¬Fm.dB (Mm.cb c')<+:bs.drop a):=hide fun k=>aqr hen (by omega) k
   have hqu:a+Vm.sz u+u≤bs.length:=by omega
   generalize (bs.drop (a+Vm.sz u)).take u=pc at*
   generalize a+Vm.sz u=q at*
   clear hsl gy hen hroom hZ bZ gZ a0 a1' a2 f0 f1 f2 z0 z1 z2 HEN S2 hR2 Z szZ
   go_wp2_with fail
   refine C3.out.mono ?_
   rintro E w3 ⟨v3,rfl,bG,aC⟩
   have bJ:=aC.size
   have R3:=hide (R2.out.below aC)
   have O3:Hid (Out (Wr B) w w3):=hide (mo O2.out (Out.of_below aC))
   have C4:=hide (anZ v3 pc w3 bG.is (by omega))
   have HR3:=hide ((aC.block w.heap.size (by omega)).trans HR2.out)
   clear C3 bG cb2 ca2 ce2 fe2 hsl2 aC
   go_wp2_with fail
   refine C4.out.mono ?_
   rintro E w4 ⟨e,n,g,vl,l,rfl,nJ,hC,aL⟩
   unfold dF
   have iE:=aL.size
   have R4:=hide (R3.out.below aL)
   have O4:Hid (Out (Wr B) w w4):=hide (mo O3.out (Out.of_below aL))
   have rf:=(aL.block w.heap.size (by omega)).trans HR3.out
   obtain⟨ah,ln,ch,hvl⟩:∃ah ln ch,vl=.slice ah ln ch:=by
    obtain⟨ah,ch,hvl,_,_⟩:=nJ.is.shape
    exact⟨ah,_,ch,hvl⟩
   subst hvl
   obtain⟨Y,hY,bY,gY,⟨y0,y1',y2⟩,⟨k0,k1,k2⟩,⟨x0,x1,x2⟩⟩:=fI rf (.int .i64 e) (.int .i64 n) (.slice ah ln ch)
   have szY:=gY.size
   have RY:=hide (R4.out.other gY (by omega) (by omega) (by omega) (by omega))
   have OY:Hid (Out (Wr B) w Y):=hide ⟨gY.os.trans O4.out.os,gY.tape.trans O4.out.tape,gY.output.trans O4.out.output,by omega,fun i hi hn=>(gY.block i (by omega) (by simp;omega)).trans (O4.out.block i hi hn)⟩
   have aii:=nJ.qD gY (by omega)
   have fer:=aB RY.out.er 0
   have cer:Y.cell? ⟨B+3,0,none⟩=some (.int .i64 0):=ai RY.out.er 0 rfl
   have hC':=hide hC
   clear C4 nJ aL hC O4 R4 rf
   rcases hC'.out with⟨hg0,sQ,henc⟩|⟨hg5,he0,hn0,hl0,hno⟩
   ·subst hg0
    have hsame:Y.setCell ⟨B+3,0,none⟩ (.int .i64 0)=Y:=aM RY.out.er (j:=0) rfl
    have car:Y.cell? ⟨B+2,0,none⟩=some (.int .i64 q):=ai RY.out.at' 0 rfl
    have far:=aB RY.out.at' 0
    obtain⟨X,hX⟩:∃X,Y.setCell ⟨B+2,0,none⟩ (.int .i64 ((q+u:Nat):Int))=X:=⟨_,rfl⟩
    have RX:Hid (Rst B w0 X vb bs (q+u) false):=hide (by rw[←hX];exact RY.out.an6 (q+u) hqu)
    have OX:Hid (Out (Wr B) w X):=hide (mo OY.out (by rw[←hX];exact ahF _ _ _))
    have gX:Y.grownBy X (some (B+2)):=by rw[←hX];exact ax _ _ _
    have bX:=(gX.block w.heap.size (by omega) (by simp;omega)).trans bY
    have abq:=(aii.qD gX (by omega)).bz (base':=w.heap.size) (by omega)
    have HF:Hid (Mm.tQ bs a false ⟨e,n,l⟩ (q+u) false∧aaW e n l):=hide ⟨GB.out e n l sQ henc,aqk sQ⟩
    obtain⟨X2,hX2,bX2,gX2,⟨j0,j1,j2⟩,⟨m0,m1,m2⟩,⟨n0,n1,n2⟩⟩:=fI bX (.int .i64 e) (.int .i64 n) (.slice ah ln ch)
    have hXX:X=X2:=by
     rw[←hX2,adM bX]
    subst hXX
    push_cast at hX
    clear sQ henc hC' bX gX bX2 gX2 bY gY aii
    go_wp2
    refine bodyPost_ret (v:=.agg #[.int .i64 e,.int .i64 n,.slice ah ln ch]) (by simp[results,Tryz.results274,go_sem,n0,n1,n2]) rfl ?_
    exact⟨_,_,_,l,_,false,rfl,hide ⟨abq,HF.out.1,HF.out.2,RX.out,OX.out⟩⟩
   ·subst hg5 he0 hn0 hl0
    obtain⟨V,hV⟩:∃V,Y.setCell ⟨B+3,0,none⟩ (.int .i64 5)=V:=⟨_,rfl⟩
    have RV:Hid (Rst B w0 V vb bs q true):=hide (by rw[←hV];exact RY.out.aow true)
    have OV:Hid (Out (Wr B) w V):=hide (mo OY.out (by rw[←hV];exact aiR _ _ _))
    have gV:Y.grownBy V (some (B+3)):=by rw[←hV];exact ax _ _ _
    have jE:=gV.size
    have bV:=(gV.block w.heap.size (by omega) (by simp;omega)).trans bY
    have car:V.cell? ⟨B+2,0,none⟩=some (.int .i64 q):=ai RV.out.at' 0 rfl
    have far:=aB RV.out.at' 0
    obtain⟨X,hX⟩:∃X,V.setCell ⟨B+2,0,none⟩ (.int .i64 ((q+u:Nat):Int))=X:=⟨_,rfl⟩
    have RX:Hid (Rst B w0 X vb bs (q+u) true):=hide (by rw[←hX];exact RV.out.an6 (q+u) hqu)
    have OX:Hid (Out (Wr B) w X):=hide (mo OV.out (by rw[←hX];exact ahF _ _ _))
    have gX:V.grownBy X (some (B+2)):=by rw[←hX];exact ax _ _ _
    have bX:=(gX.block w.heap.size (by omega) (by simp;omega)).trans bV
    have HF:=hide (GN.out hno)
    obtain⟨X2,hX2,bX2,gX2,⟨j0,j1,j2⟩,⟨m0,m1,m2⟩,⟨n0,n1,n2⟩⟩:=fI bX (.int .i64 0) (.int .i64 0) (.slice ah ln ch)
    have hXX:X=X2:=by
     rw[←hX2,adM bX]
    subst hXX
    push_cast at hX
    have abq:=((aii.qD gV (by omega)).qD gX (by omega)).bz (base':=w.heap.size) (by omega)
    clear hno hC' bX gX bX2 gX2 bY gY aii
    go_wp2
    refine bodyPost_ret (v:=.agg #[.int .i64 0,.int .i64 0,.slice ah ln ch]) (by simp[results,Tryz.results274,go_sem,n0,n1,n2]) rfl ?_
    exact⟨_,_,_,[],_,true,rfl,hide ⟨abq,.inr (.inl ⟨rfl,rfl,HF.out⟩),aaZ,RX.out,OX.out⟩⟩
 ·
  have hbz:eT true=5:=rfl
  rw[hbz]at ce2
  have hu0:u=0:=by
   rcases S2.out with⟨_,_,rfl,_⟩|⟨_,_,rfl,_⟩|⟨_,hx,_⟩
   ·rfl
   ·rfl
   ·simp at hx
  subst hu0
  have hg:¬(bs.length:Int)-(a1:Int)<((0:Nat):Int):=by omega
  have hg':¬(bs.length:Int)-(a1:Int)<0:=by omega
  have HCS:Hid (Mm.tQ bs a bad ⟨0,0,[]⟩ a1 true):=hide (by
   rcases S2.out with⟨h1,_⟩|⟨h1,_,_,_,h2⟩|⟨_,hx,_⟩
   ·exact .inl ⟨h1,rfl⟩
   ·exact .inr (.inl ⟨h1,rfl,ajJ h2⟩)
   ·simp at hx)
  have hZ2:w2=Z:=by
   rw[←hZ,adM hR2]
  subst hZ2
  clear hR2 bZ gZ S2
  go_wp2
  refine bodyPost_ret (v:=.agg #[.int .i64 0,.int .i64 0,.slice none 0 0]) (by simp[results,Tryz.results274,go_sem,z0,z1,z2]) rfl ?_
  exact⟨0,0,_,[],_,true,rfl,hide ⟨bu.nil _ _ _,HCS.out,aaZ,R2.out,O2.out⟩⟩
end Go.Proofs.YtlmkaljjocflmaaGreatDoor
