/- Texts. -/
import Derived.Test.YtlmkaljjocflmaaGreatDoorBH11
import Derived.Test.YtlmkaljjocflmaaGreatDoorBH12
import Derived.Test.YtlmkaljjocflmaaGreatDoorBH4
import Derived.Test.YtlmkaljjocflmaaGreatDoorBH10
import Derived.Test.YtlmkaljjocflmaaGreatDoorBH15
import Derived.Deep.RegionHeld3
import Derived.Deep.RegionLaw
set_option maxRecDepth 100000
set_option maxHeartbeats 8000000
set_option linter.unusedVariables false
open Go.Proofs.Tryz
namespace Go.Proofs.YtlmkaljjocflmaaGreatDoor
open Go.RowKit
open Bm (Ov)
theorem ag1 (w:World)(t:TypeId)(x a:Value):∃V,(w.alloc (.cells #[x] t)).setCell ⟨w.heap.size,0,none⟩ a=V∧w.alloc (.cells #[a] t)=V∧V.heap.size=w.heap.size+1∧Below w.heap.size w V∧V.heap[w.heap.size]? =some (.cells #[a] t (0,0))∧V.cell? ⟨w.heap.size,0,none⟩=some a:=by
 obtain⟨V,hV,sz,aI,hB⟩:=au w #[a] t
 refine⟨V,?_,hV,sz,aI,hB,ai hB 0 rfl⟩
 rw[←hV]
 simp[go_sem]
theorem akK {l:List Cm.Cv}{k:Nat}{c:Cm.Cv}(hk:l[k]? =some c)(hl:l.length=k+1)(e:Int):Cm.lastE e l=c.e:=by
 rcases List.eq_nil_or_concat l with rfl|⟨r,d,rfl⟩
 ·simp at hk
 ·rw[List.concat_eq_append]at hk hl⊢
  rw[List.length_append,List.length_singleton]at hl
  obtain rfl:r.length=k:=by omega
  rw[(Cm.dU r d e 0).1]
  simp at hk
  rw[hk]
theorem agX (ps p q:Nat)(F:Nat→Prop)(w:World)(s:Sto.Ss)(h:SW ps p q F w s):
  Calls prog 247 #[.pointer (some ⟨ps,0,none⟩)] w fun E w'=>E=.returned (.int .i64 (Sto.fin s))∧∃m,w'=w.drewN m:=by
 obtain⟨F1,G1,h1,⟨pm,bm,v,rs,hs,_⟩,_,ok,_⟩:=h
 have HE:Hid (∀m,Calls prog 179 #[.pointer (some ⟨p,0,none⟩)] (w.drewN m) fun E w'=>E=.returned (.int .i64 (Cm.lastN 0 s.r.l))∧∃q,w'=(w.drewN m).drewN q):=hide fun m=>
  (jy p q F1 (w.drewN m) s.r (h1.below (below_drewN (Below.refl _ _) m))).mono fun E w' h=>⟨h.1,0,by rw[←h.2];rfl⟩
 have c0:=ai hs.blk 0 rfl
 have c1:=ai hs.blk 1 rfl
 simp only[List.getElem_toArray,List.getElem_cons_zero,List.getElem_cons_succ]at c0 c1
 obtain⟨ao,cap,hv,_,_⟩:=hs.rest.row.row.shape
 obtain⟨b1,b2,b3,b4⟩:=ok.bound
 have hl:=hs.rest.len
 unfold Sto.fin
 rw[hl]at hv
 have hw:IntKind.i64.wrap (Cm.lastN 0 s.r.l+(s.l.length:Int))=Cm.lastN 0 s.r.l+(s.l.length:Int):=aQ _ (by omega) (by omega)
 generalize Cm.lastN 0 s.r.l=z at*
 generalize s.l.length=n at*
 subst hv
 clear hs h1 ok hl
 go_enter func247,ntmps247
 go_wp2_with fail
 go_quiet ((go_at_call 179;refine Calls.quiet_of (HE.out _)))
 go_wp2
 go_ret
 exact⟨rfl,_,rfl⟩
theorem anX (ps p q:Nat)(F:Nat→Prop)(w:World)(s:Sto.Ss)(h:SW ps p q F w s):
  Calls prog 246 #[.pointer (some ⟨ps,0,none⟩)] w fun E w'=>E=.returned (.int .i64 (Cm.lastE 1 s.l))∧∃m,w'=w.drewN m:=by
 obtain⟨F1,G1,h1,⟨pm,bm,v,rs,hs,_⟩,_,ok,_⟩:=h
 have c1:=ai hs.blk 1 rfl
 simp only[List.getElem_toArray,List.getElem_cons_zero,List.getElem_cons_succ]at c1
 have aqh:=hs.rest.few
 rw[←hs.rest.len]at aqh
 rw[←hs.rest.is]
 have h:=hs.rest.row.row
 by_cases h0:rs.length=0
 ·have hr:rs=[]:=List.eq_nil_of_length_eq_zero h0
  subst hr
  obtain⟨ao,cap,rfl,_,_⟩:=h.shape
  clear h hs h1 ok
  go_enter func246,ntmps246
  go_wp2
  go_ret
  exact⟨rfl,0,rfl⟩
 ·obtain⟨k,hk⟩:∃k,rs.length=k+1:=⟨rs.length-1,by omega⟩
  obtain⟨g,off,cap,rfl,_,_,_,hcell⟩:=h.full (by omega)
  obtain⟨c,hck⟩:∃c,rs[k]? =some c:=⟨rs[k]'(by omega),by rw[List.getElem?_eq_getElem]⟩
  obtain⟨d0,_,_⟩:=hcell k c hck
  have hL:Cm.lastE 1 (aD rs)=c.e:=akK (k:=k) (c:=c.c) (by unfold aD;rw[List.getElem?_map,hck];rfl) (by unfold aD;rw[List.length_map];exact hk) 1
  rw[hL]
  rw[hk]at c1
  have hne:(((k+1:Nat):Int)==0)=false:=by simp;omega
  have hw:IntKind.i64.wrap (((k+1:Nat):Int)-1)=(k:Int):=by rw[aQ _ (by omega) (by omega)];omega
  have hk1:(k:Int)<((k+1:Nat):Int):=by omega
  have hk0:(0:Int)≤(k:Int):=by omega
  have hw2:IntKind.i64.wrap (k:Int)=(k:Int):=aQ _ (by omega) (by omega)
  have hk2:(k:Int)<(k:Int)+1:=by omega
  generalize c.e=z at*
  clear h hs h1 ok hcell hck hL hk aqh h0
  go_enter func246,ntmps246
  go_wp2
  go_region
  go_wp2
  go_ret
  exact⟨rfl,1,rfl⟩
theorem anD (ps p q:Nat)(F:Nat→Prop)(w:World)(s:Sto.Ss)(h:SW ps p q F w s):
  Calls prog 285 #[.pointer (some ⟨ps,0,none⟩)] w fun E w'=>(∃u,E=.returned u)∧Below w.heap.size w w':=by
 obtain⟨F1,G1,h1,⟨pm,bm,v,rs,hs,_⟩,_,ok,_⟩:=h
 have HE:=hide (jy p q F1 w s.r h1)
 have c0:=ai hs.blk 0 rfl
 have aqh:=hs.rest.few
 have hrow:=hs.rest.row.row
 obtain⟨V,hV1,hV,iy,bV,BV,cV⟩:=ag1 w 3 (.int .i64 0) (.int .i64 (Cm.lastN 0 s.r.l))
 have d1:=ai (hs.below bV).blk 1 rfl
 simp only[List.getElem_toArray,List.getElem_cons_zero,List.getElem_cons_succ]at c0 d1
 have hgd:=ok.rest
 rw[←hs.rest.is]at hgd
 generalize Cm.lastN 0 s.r.l=z at*
 by_cases h0:rs.length=0
 ·have hr:rs=[]:=List.eq_nil_of_length_eq_zero h0
  subst hr
  obtain⟨ao,cap,rfl,_,_⟩:=hrow.shape
  have B:=hide bV
  clear hrow hs h1 ok hgd bV BV h0
  go_enter func285,ntmps285
  go_wp2_with fail
  refine HE.out.mono ?_
  rintro E w1 ⟨rfl,rfl⟩
  go_wp2_with fail
  go_quiet (fail)
  go_wp2
  refine bodyPost_ret (results_none rfl _ _ _) rfl ?_
  exact⟨⟨_,rfl⟩,below_drewN B.out _⟩
 ·obtain⟨c,hck⟩:∃c,rs[0]? =some c:=⟨rs[0]'(by omega),by rw[List.getElem?_eq_getElem]⟩
  obtain⟨g,off,cap,rfl,_,_,hg,hcell⟩:=hrow.full (by omega)
  obtain⟨_,e1,_⟩:=hcell 0 c hck
  have hn:z<c.n:=by
   obtain⟨_,h2,_,_⟩:=Cm.pU _ _ _ 0 c.c hgd (by unfold aD;rw[List.getElem?_map,hck];rfl)
   have:c.c.n=c.n:=rfl
   omega
  have e1':V.cell? ⟨g,off+1,none⟩=some (.int .i64 c.n):=(bV.cell (p:=⟨g,off+1,none⟩) hg).trans (by simpa using e1)
  have hlen:((rs.length:Int)==0)=false:=beq_eq_false_iff_ne.2 (by omega)
  have hl0:(0:Int)<rs.length:=by omega
  generalize rs.length=n at*
  generalize c.n=x at*
  have B:=hide bV
  clear hrow hs h1 ok hgd bV BV h0 hcell hck e1
  go_enter func285,ntmps285
  go_wp2_with fail
  refine HE.out.mono ?_
  rintro E w1 ⟨rfl,rfl⟩
  go_wp2_with fail
  go_quiet (fail)
  go_wp2
  refine bodyPost_ret (results_none rfl _ _ _) rfl ?_
  exact⟨⟨_,rfl⟩,below_drewN B.out _⟩
theorem uX (ps p q:Nat)(F:Nat→Prop)(w:World)(s:Sto.Ss)(h:SW ps p q F w s):
  Calls prog 214 #[.pointer (some ⟨ps,0,none⟩)] w fun E w'=>E=.returned (.bool true)∧Below w.heap.size w w':=by
 have HC:=hide (anD ps p q F w s h)
 obtain⟨F1,G1,h1,⟨pm,bm,v,rs,hs,_⟩,_,ok,_⟩:=h
 have c0:=ai hs.blk 0 rfl
 simp only[List.getElem_toArray,List.getElem_cons_zero]at c0
 clear hs h1 ok
 go_enter func214,ntmps214
 go_wp2_with fail
 refine HC.out.mono ?_
 rintro E w1 ⟨⟨u,rfl⟩,b1⟩
 go_wp2
 go_ret
 exact⟨rfl,b1⟩
theorem avI (s:Sto.Ss)(k:ByteArray):gv (Sto.fold s) k=(if Tm.met (Rl.tab s.l) k=true then gv (Rl.tab s.l) k else gv (Rl.tab s.r.l) k)∧gp (Sto.fold s) k=(if Tm.met (Rl.tab s.l) k=true then gp (Rl.tab s.l) k else gp (Rl.tab s.r.l) k):=by
 unfold gv gp
 rw[Sto.apM,Tm.yO]
 cases Tm.get (Rl.tab s.l) k with
 |none=>simp
 |some o=>simp
theorem ani (ps p q B:Nat)(F:Nat→Prop)(w:World)(s:Sto.Ss)(k:ByteArray)(h:SW ps p q F w s)(hk:k.size≤140737488355328)(hB:w.heap[B]? =some (.cells #[.pointer (some ⟨ps,0,none⟩)] 133 (0,0))):
  Calls prog 286 #[.string k,.pointer (some ⟨B,0,none⟩)] w fun E w'=>E=.returned (.tuple #[.string (gv (Sto.fold s) k),.bool (gp (Sto.fold s) k)])∧Below w.heap.size w w':=by
 have hx:=h
 obtain⟨F1,G1,h1,⟨pm,bm,v,rs,hs,_⟩,_,ok,_⟩:=hx
 have c0:=ai hs.blk 0 rfl
 have c2:=ai hs.blk 2 rfl
 have cB:=ai hB 0 rfl
 simp only[List.getElem_toArray,List.getElem_cons_zero,List.getElem_cons_succ]at c0 c2 cB
 have HT:=hide (agm pm bm w _ k hs.tb hk)
 obtain⟨e1,e2⟩:=avI s k
 rw[e1,e2]
 have HR:Hid (∀W,Below w.heap.size w W→Calls prog 287 #[.pointer (some ⟨p,0,none⟩),.string k] W fun E w'=>E=.returned (.tuple #[.string (gv (Rl.tab s.r.l) k),.bool (Tm.met (Rl.tab s.r.l) k),.bool (gp (Rl.tab s.r.l) k)])∧Below W.heap.size W w'):=hide fun W hb=>aqm p q F1 W s.r k (h1.below hb)
 have hps:=ay hs.blk
 have hBB:=ay hB
 generalize Tm.met (Rl.tab s.l) k=mt at*
 generalize gv (Rl.tab s.l) k=va at*
 generalize gp (Rl.tab s.l) k=pa at*
 generalize gv (Rl.tab s.r.l) k=vb at*
 generalize gp (Rl.tab s.r.l) k=pb at*
 generalize Tm.met (Rl.tab s.r.l) k=mb at*
 clear hs h1 ok h hB e1 e2
 cases mt with
 |true=>
  simp only[if_true]
  go_enter func286,ntmps286
  go_wp2_with fail
  refine HT.out.mono ?_
  rintro E w1 ⟨rfl,b1⟩
  go_wp2
  go_ret2
  exact⟨rfl,b1⟩
 |false=>
  simp only[Bool.false_eq_true,if_false]
  go_enter func286,ntmps286
  go_wp2_with fail
  refine HT.out.mono ?_
  rintro E w1 ⟨rfl,b1⟩
  have x0:=(b1.cell (p:=⟨ps,0,none⟩) hps).trans c0
  have xB:=(b1.cell (p:=⟨B,0,none⟩) hBB).trans cB
  have HR1:=hide (HR.out w1 b1)
  go_wp2_with fail
  refine HR1.out.mono ?_
  rintro E w2 ⟨rfl,b2⟩
  go_wp2
  go_ret2
  exact⟨rfl,b1.trans (b2.mono b1.size)⟩
theorem apP (ps p q:Nat)(F:Nat→Prop)(w:World)(s:Sto.Ss)(k:ByteArray)(h:SW ps p q F w s)(hk:k.size≤140737488355328):
  Calls prog 160 #[.pointer (some ⟨ps,0,none⟩),.string k] w fun E w'=>E=.returned (.tuple #[.string (gv (Sto.fold s) k),.bool (gp (Sto.fold s) k)])∧Below w.heap.size w w':=by
 have HC:=hide (uX ps p q F w s h)
 have HS:=hide h
 clear h
 go_enter func160,ntmps160
 go_wp2_with fail
 refine HC.out.mono ?_
 rintro E w1 ⟨rfl,b1⟩
 obtain⟨V,hV,iy,bV,BV⟩:=au w1 #[.pointer (some ⟨ps,0,none⟩)] 133
 have HL:=hide (ani ps p q w1.heap.size F V s k ((HS.out.below b1).below bV) hk BV)
 have HK:Hid (Calls prog 215 #[.pointer (some ⟨ps,0,none⟩)] w1 fun E w'=>E=.returned (.func (.func 286) #[] #[.pointer (some ⟨w1.heap.size,0,none⟩)])∧V=w'):=hide (by
  clear HL HS HC BV bV
  go_enter func215,ntmps215
  go_wp2
  go_ret
  exact⟨rfl,rfl⟩)
 have B1:=hide (b1.trans (bV.mono b1.size))
 clear BV bV hV HC b1
 go_wp2_with fail
 refine HK.out.mono ?_
 rintro E w2 ⟨rfl,rfl⟩
 go_wp2_with fail
 refine HL.out.mono ?_
 rintro E w3 ⟨rfl,b3⟩
 go_wp2
 go_ret2
 exact⟨rfl,B1.out.trans (b3.mono B1.out.size)⟩
end Go.Proofs.YtlmkaljjocflmaaGreatDoor
namespace Go.Proofs.YtlmkaljjocflmaaGreatDoor
open Go.RowKit
open Bm (Ov)
theorem agj {rs:List Cw}{k:Nat}{c:Cw}(h:rs[k]? =some c):aD (rs.take (k+1))=aD (rs.take k)++[c.c]:=by
 obtain⟨h1,h2⟩:=List.getElem?_eq_some_iff.1 h
 rw[List.take_succ_eq_append_getElem h1,h2]
 simp[aD]
theorem aiJ {l:List Cm.Cv}{c:Cm.Cv}(h:Cm.chk c.e c.n c.l=0):Tm.aft (Rl.tab l) c.l=Rl.tab (l++[c])∧Bm.first c.l=0:=by
 have h1:Bm.first c.l=0:=Bm.oG (Bm.dM (Cm.bJ h).2.2.2.2).2.2
 unfold Tm.aft
 rw[if_pos h1,Rl.aad]
 exact⟨rfl,h1⟩
theorem atg {rs:List Cw}(hg:∀c∈rs,Cm.chk c.e c.n c.l=0)(k:Nat)(hk:k≤rs.length):(Rl.tab (aD (rs.take k))).length≤k*8:=by
 have h1:=Tm.sQ (Rl.ops (aD (rs.take k))) []
 have h2:=Rl.acI (l:=aD (rs.take k)) (n:=8) fun c hc=>by
  obtain⟨d,hd,rfl⟩:=List.mem_map.1 hc
  exact(tJ (hg d (List.mem_of_mem_take hd))).2.2.2.2
 have h3:(aD (rs.take k)).length=k:=by rw[aD,List.length_map,List.length_take];omega
 unfold Rl.tab
 simp only[List.length_nil,Nat.zero_add]at h1
 rw[h3]at h2
 omega
theorem zD (v:Value)(rs:List Cw)(w:World)(h:gD w v rs)(hg:∀c∈rs,Cm.chk c.e c.n c.l=0)(hl:rs.length≤100000):
  Calls prog 289 #[v] w fun E w'=>∃pm,E=.returned (.pointer (some ⟨pm,0,none⟩))∧∃bm,Tb pm bm w' (Rl.tab (aD rs))∧w.heap.size≤pm∧w.heap.size≤bm∧Below w.heap.size w w':=by
 have HI:=hide h
 have HG:=hide hg
 obtain⟨ao,cap,hv,_,_⟩:=h.1.shape
 obtain⟨n,hn⟩:∃n,rs.length=n:=⟨_,rfl⟩
 have HN:=hide hn
 rw[hn]at hv hl
 subst hv
 clear h hg hn
 go_enter func289,ntmps289
 go_wp2_with fail
 refine(aaI w).mono ?_
 rintro E w1 ⟨rfl,T1,b1⟩
 obtain⟨pm,hpm⟩:∃x,w.heap.size+1=x:=⟨_,rfl⟩
 obtain⟨bm,hbm⟩:∃x,w.heap.size=x:=⟨_,rfl⟩
 rw[hpm]at T1⊢
 have aAd:w.heap.size≤pm:=by omega
 have T1':Hid (Tb pm bm w1 (Rl.tab (aD (rs.take 0)))):=hide (by rw[←hbm];exact T1)
 have B1:=hide b1
 have aAQ:w.heap.size≤bm:=by omega
 have hbm2:bm≤w.heap.size:=by omega
 have hpm2:pm≤w.heap.size+1:=by omega
 clear T1 b1 hpm hbm
 go_wp2
 go_loopw [9] (fun iv wr=>∃(k:Nat),k≤n∧iv=.int .i64 k∧Hid (Tb pm bm wr (Rl.tab (aD (rs.take k))))∧Hid (Below w.heap.size w wr)) (fun iv _=>n-(intOf iv).toNat)
 case atStart=>exact⟨0,by omega,rfl,T1',B1⟩
 case round=>
  obtain⟨k,hk,rfl,TR,BR⟩:=hrel
  clear T1' B1
  by_cases hlt:k<n
  ·obtain⟨⟨ce,cn,cv,cl⟩,hc⟩:∃c,rs[k]? =some c:=⟨rs[k]'(by have:=HN.out;omega),by rw[List.getElem?_eq_getElem]⟩
   obtain⟨g,off,cq,dI,_,_,hgw,hcell⟩:=HI.out.1.full (by have:=HN.out;omega)
   rw[HN.out]at dI
   simp only[Value.slice.injEq,true_and]at dI
   obtain⟨rfl,rfl⟩:=dI
   obtain⟨c0,c1,c2⟩:=hcell k _ hc
   have hm:=List.mem_of_getElem? hc
   have hch:=HG.out _ hm
   obtain⟨f1,f2,f3,f4,f5⟩:=tJ hch
   have jP:=((HI.out.2 _ hm).1).below BR.out
   have d0:=(BR.out.cell (p:=⟨g,off+k*3,none⟩) hgw).trans c0
   have d1:=(BR.out.cell (p:=⟨g,off+k*3+1,none⟩) hgw).trans c1
   have d2:=(BR.out.cell (p:=⟨g,off+k*3+2,none⟩) hgw).trans c2
   obtain⟨oa,ok,hvo,_,_⟩:=jP.shape
   obtain⟨wc,hwc,aqX,szc,kU,bC,x0,x1,x2⟩:=eY wr 35 (.int .i64 0) (.int .i64 0) (.slice none 0 0) (.int .i64 ce) (.int .i64 cn) cv
   have hta:=aiJ (l:=aD (rs.take k)) (c:=⟨ce,cn,cl⟩) hch
   have HA:=hide (uW pm bm wc _ cv cl (TR.out.below kU) (jP.below kU) f1 (by have h1:=atg HG.out k (by have:=HN.out;omega);simp only at f5;omega))
   rw[hta.1,hta.2,show aD (rs.take k)++[(⟨ce,cn,cl⟩:Cm.Cv)]=aD (rs.take (k+1))from(agj hc).symm]at HA
   simp only at c0 c1 c2 d0 d1 d2 hvo
   subst hvo
   have hlt':(k:Int)<n:=by omega
   have hk0:(0:Int)≤(k:Int):=by omega
   have BC:=hide (BR.out.trans (kU.mono BR.out.size))
   clear hcell c0 c1 c2 hc hm hch jP f1 f2 f3 f4 TR bC kU hta
   go_wp2_with fail
   refine HA.out.mono ?_
   rintro E w2 ⟨rfl,T2,O2⟩
   have T2:=hide T2
   have B2:=hide (BC.out.trans (O2.below (fun g hg=>by omega) BC.out.size))
   clear O2 HA BC
   go_wp2
   go_roundw
   case rel=>exact⟨k+1,by omega,by go_num,T2,B2⟩
   case measure=>simp[intOf];omega
  ·have hlt':¬(k:Int)<n:=by omega
   obtain rfl:k=n:=by omega
   have TE:Hid (Tb pm bm wr (Rl.tab (aD rs))):=hide (by
    have:=TR.out
    rwa[List.take_of_length_le (by have:=HN.out;omega)]at this)
   go_wp2
   go_ret
   exact⟨_,rfl,_,TE.out,aAd,aAQ,BR.out⟩
theorem afc (e n:Int)(v:Value)(z:Int)(B:Nat)(w:World)(hB:w.heap[B]? =some (.cells #[.int .i64 z] 3 (0,0))):
  Calls prog 312 #[.agg #[.int .i64 e,.int .i64 n,v],.pointer (some ⟨B,0,none⟩)] w fun E w'=>E=.returned (.bool (decide (n≤z)))∧Below w.heap.size w w':=by
 obtain⟨V,hV,iy,bV,BV⟩:=au w #[.int .i64 e,.int .i64 n,v] 35
 have c1:=ai BV 1 rfl
 have cB:=ai ((bV.block B (ay hB)).trans hB) 0 rfl
 simp only[List.getElem_toArray,List.getElem_cons_zero,List.getElem_cons_succ]at c1 cB
 clear hB BV
 go_enter func312,ntmps312
 go_wp2
 go_ret
 exact⟨rfl,bV⟩
theorem aqK (w:World)(v:Value)(rs:List Cw)(c:Cw)(z:Int)(B:Nat)(h:eD w v rs)(hc:rs[0]? =some c)(hz:c.n≤z)(hB:w.heap[B]? =some (.cells #[.int .i64 z] 3 (0,0))):
  Calls prog 332 #[v,.func (.func 312) #[] #[.pointer (some ⟨B,0,none⟩)]] w fun E w'=>E=.returned (.int .i64 0)∧Below w.heap.size w w':=by
 have hl0:0<rs.length:=(List.getElem?_eq_some_iff.1 hc).1
 obtain⟨g,off,cap,rfl,_,_,_,hcell⟩:=h.full hl0
 obtain⟨d0,d1,d2⟩:=hcell 0 c hc
 simp only[Nat.zero_mul,Nat.add_zero]at d0 d1 d2
 have HU:=hide (afc c.e c.n c.v z B w hB)
 rw[decide_eq_true hz]at HU
 generalize c.e=ce at*
 generalize c.n=cn at*
 generalize c.v=cv at*
 have hl1:(0:Int)<rs.length:=by omega
 generalize rs.length=n at*
 clear hcell h hB hc
 go_enter func332,ntmps332
 go_wp2
 go_loopw [8] (fun iv wr=>iv=.int .i64 0∧w=wr) (fun _ _=>0)
 case atStart=>exact⟨rfl,rfl⟩
 case round=>
  obtain⟨rfl,rfl⟩:=hrel
  go_wp2_with fail
  refine HU.out.mono ?_
  rintro E w1 ⟨rfl,b1⟩
  go_wp2
  go_ret
  exact⟨rfl,b1⟩
theorem Tryz.axK (wx:World):(zeroValue 35).run prog wx=.ok (.agg #[.int .i64 0,.int .i64 0,.slice none 0 0]) wx:=by kernel_rfl
theorem ayo {rs:List Cw}{k i j:Nat}(h1:k+i≤rs.length)(h2:i≤j):((rs.drop k).take i++rs.drop i)[j]? =rs[j]? :=by
 have hl:((rs.drop k).take i).length=i:=by rw[List.length_take,List.length_drop];omega
 rw[List.getElem?_append_right (by omega),hl,List.getElem?_drop,show i+(j-i)=j by omega]
theorem apT {rs:List Cw}{k i:Nat}{c:Cw}(hc:rs[k+i]? =some c):((rs.drop k).take i++rs.drop i).set i c=(rs.drop k).take (i+1)++rs.drop (i+1):=by
 obtain⟨hlt,hcc⟩:=List.getElem?_eq_some_iff.1 hc
 have hl:((rs.drop k).take i).length=i:=by rw[List.length_take,List.length_drop];omega
 rw[List.set_append,if_neg (by omega),hl,Nat.sub_self,List.drop_eq_getElem_cons (show i<rs.length by omega),List.set_cons_zero]
 have hd:i<(rs.drop k).length:=by rw[List.length_drop];omega
 rw[List.take_succ_eq_append_getElem hd,List.getElem_drop,hcc,List.append_assoc]
 rfl
theorem ao1 (w:World)(base:Nat)(v:Value)(rs:List Cw)(k:Nat)(z:Int)(B:Nat)(hrow:bD 35 base w v rs)(hk:k≤rs.length)(hk0:0<k)(h1:∀c∈rs.take k,c.n≤z)(h2:∀c∈rs.drop k,z<c.n)(hB:w.heap[B]? =some (.cells #[.int .i64 z] 3 (0,0)))(hs:∀c∈rs,∃a n k,c.v=.slice a n k)(hlen:rs.length≤1048576):
  Calls prog 311 #[v,.func (.func 312) #[] #[.pointer (some ⟨B,0,none⟩)]] w fun E w'=>∃v',E=.returned v'∧bD 35 base w' v' (rs.drop k)∧Out (fun g=>v.ownBlock=some g) w w'∧v'.ownBlock=v.ownBlock∧∃a n k,v'=.slice a n k:=by
 obtain⟨L,hL⟩:∃L,L=rs.length:=⟨_,rfl⟩
 obtain⟨c0,hc0⟩:∃c,rs[0]? =some c:=⟨rs[0]'(by omega),by rw[List.getElem?_eq_getElem]⟩
 have HI:=hide (aqK w v rs c0 z B hrow.row hc0 (h1 c0 (List.mem_of_getElem? (show(rs.take k)[0]? =some c0 by rw[List.getElem?_take_of_lt hk0];exact hc0))) hB)
 obtain⟨g,cap,hv,hcap,hcm⟩:∃g cap,v=.slice (some ⟨g,0,none⟩) L cap∧L≤cap∧cap≤maxLen:=by
  rcases hrow.2 with⟨_,h⟩|⟨g,cap,cur,hv,_,hg,hc,hm',hs,_⟩
  ·omega
  ·exact⟨g,cap,by rw[hL];exact hv,by rw[hL];exact hc,hm'⟩
 have hgt:=hrow.type (g:=g) (by rw[hv];rfl)
 have hBg:B≠g:=by
  obtain⟨cs,e⟩:=hgt
  intro he
  rw[he,e]at hB
  simp only[Option.some.injEq,Obj.cells.injEq]at hB
  exact absurd hB.2.1 (by decide)
 subst hv
 have xH:(Value.slice (some ⟨g,0,none⟩) L cap).ownBlock=some g:=rfl
 have H1:=hide h1
 have H2:=hide h2
 have HS:=hide hs
 have HB:=hide hB
 have HL:=hide hL
 have HR:=hide hrow
 have hBw:=ay hB
 have hgw:g<w.heap.size:=(World.ownsRow.lt hrow g rfl).2
 have hL1:(1:Nat)≤L:=by omega
 rw[←hL]at hk hlen
 clear h1 h2 hs hB hL hrow hc0 hgt xH
 go_enter func311,ntmps311
 go_wp2_with fail
 refine HI.out.mono ?_
 rintro E w1 ⟨rfl,b1⟩
 have O1:Hid (Out (fun b=>b=g) w w1):=hide (Out.of_below b1)
 have R1:Hid (bD 35 base w1 (.slice (some ⟨g,0,none⟩) L cap) ((rs.drop k).take 0++rs.drop 0)):=hide (by simpa using HR.out.below b1)
 clear HI b1 HR
 go_wp2
 go_loopw [5,6] (fun iv jv wr=>∃(i j:Nat),iv=.int .i64 i∧jv=.int .i64 j∧Hid (1≤j∧j≤L∧(j≤k∧i=0∨k≤j∧j=k+i))∧Hid (bD 35 base wr (.slice (some ⟨g,0,none⟩) L cap) ((rs.drop k).take i++rs.drop i))∧Hid (Out (fun b=>b=g) w wr)) (fun _ jv _=>L-(intOf jv).toNat)
 case atStart=>exact⟨0,1,rfl,rfl,hide ⟨by omega,by omega,.inl ⟨by omega,rfl⟩⟩,R1,O1⟩
 case round=>
  obtain⟨i,j,rfl,rfl,HJ,RR,OR⟩:=hrel
  clear R1 O1
  obtain⟨g1,g2,g3⟩:=HJ.out
  have aAf:k+i≤L:=by omega
  have hij:i≤j:=by omega
  have hrl:((rs.drop k).take i++rs.drop i).length=L:=by rw[List.length_append,List.length_take,List.length_drop,List.length_drop,←HL.out];omega
  by_cases hlt:j<L
  ·obtain⟨⟨ce,cn,cv,cl⟩,hc⟩:∃c,rs[j]? =some c:=⟨rs[j]'(by have:=HL.out;omega),by rw[List.getElem?_eq_getElem]⟩
   have hrj:((rs.drop k).take i++rs.drop i)[j]? =some ⟨ce,cn,cv,cl⟩:=by rw[ayo (by have:=HL.out;omega) hij];exact hc
   obtain⟨⟨d0,d1,d2⟩,_⟩:=pR RR.out hrl j _ hrj
   obtain⟨ca,cm,ck,hcv⟩:=HS.out _ (List.mem_of_getElem? hc)
   simp only at hcv d0 d1 d2
   obtain⟨wc,hwc,aqX,szc,kU,bC,x0,x1,x2⟩:=eY wr 35 (.int .i64 0) (.int .i64 0) (.slice none 0 0) (.int .i64 ce) (.int .i64 cn) cv
   have hBr:wr.heap[B]? =some (.cells #[.int .i64 z] 3 (0,0)):=(OR.out.block B hBw hBg).trans HB.out
   have ax0:=(kU.block B (ay hBr)).trans hBr
   have HU:=hide (afc ce cn cv z B wc ax0)
   have hj0:(0:Int)≤(j:Int):=by omega
   have hlt':(j:Int)<L:=by omega
   have hwj:IntKind.i64.wrap ((j:Int)+1)=(j:Int)+1:=aQ _ (by omega) (by omega)
   have HC:=hide hc
   have BC:=hide bC
   have RC:=hide (RR.out.below kU)
   have OC:Hid (Out (fun b=>b=g) w wc):=hide (OR.out.trans (Out.of_below (F:=fun b=>b=g) kU) fun b hb=>.inl hb)
   have szr:=OR.out.size
   subst hcv
   clear hrj hc bC kU hBr ax0 RR OR
   by_cases hjk:j<k
   ·have hd:decide (cn≤z)=true:=decide_eq_true (H1.out ⟨ce,cn,.slice ca cm ck,cl⟩ (List.mem_of_getElem? (show(rs.take k)[j]? =some _ by rw[List.getElem?_take_of_lt hjk];exact HC.out)))
    rw[hd]at HU
    obtain rfl:i=0:=by omega
    clear hd
    go_wp2_with fail
    refine HU.out.mono ?_
    rintro E wd ⟨rfl,bd⟩
    have RD:=hide (RC.out.below bd)
    have OD:Hid (Out (fun b=>b=g) w wd):=hide (OC.out.trans (Out.of_below (F:=fun b=>b=g) bd) fun b hb=>.inl hb)
    clear HU bd RC OC
    go_wp2
    go_roundw
    case rel=>exact⟨0,j+1,rfl,by go_num,hide ⟨by omega,by omega,.inl ⟨by omega,rfl⟩⟩,RD,OD⟩
    case measure=>simp[intOf];omega
   ·obtain rfl:j=k+i:=by omega
    have hd:decide (cn≤z)=false:=decide_eq_false (by
     have:=H2.out ⟨ce,cn,.slice ca cm ck,cl⟩ (List.mem_of_getElem? (show(rs.drop k)[i]? =some _ by rw[List.getElem?_drop];exact HC.out))
     simp only at this
     omega)
    rw[hd]at HU
    clear hd
    go_wp2_with fail
    refine HU.out.mono ?_
    rintro E wd ⟨rfl,bd⟩
    have RD:=RC.out.below bd
    obtain⟨di,hdi⟩:∃c,((rs.drop k).take i++rs.drop i)[i]? =some c:=⟨((rs.drop k).take i++rs.drop i)[i]'(by omega),by rw[List.getElem?_eq_getElem]⟩
    obtain⟨⟨y0,y1,y2⟩,⟨z0,z1,z2⟩⟩:=pR RD hrl i _ hdi
    obtain⟨W,hW,RW,gW⟩:=aaP RD hrl i (by omega) ⟨ce,cn,.slice ca cm ck,cl⟩
    simp only at hW
    have hBd:=(bd.block wr.heap.size (ay BC.out)).trans BC.out
    have t0:=ai hBd 0 rfl
    have t1:=ai hBd 1 rfl
    have t2:=ai hBd 2 rfl
    simp only[List.getElem_toArray,List.getElem_cons_zero,List.getElem_cons_succ]at t0 t1 t2
    have OD:Out (fun b=>b=g) w wd:=OC.out.trans (Out.of_below (F:=fun b=>b=g) bd) fun b hb=>.inl hb
    have OW:Hid (Out (fun b=>b=g) w W):=hide (OD.trans (Out.aM (F:=fun b=>b=g) gW fun b hb=>by simpa using hb.symm) fun b hb=>.inl hb)
    rw[apT HC.out]at RW
    have RWH:=hide RW
    have hi0:(0:Int)≤(i:Int):=by omega
    have hiL:(i:Int)<L:=by omega
    have hwi:IntKind.i64.wrap ((i:Int)+1)=(i:Int)+1:=aQ _ (by omega) (by omega)
    clear HU bd RC OC OD RD RW gW hBd hdi d0 d1 d2 x0 x1 x2 hwc aqX
    go_wp2
    go_roundw
    case rel=>exact⟨i+1,k+i+1,by go_num,by go_num,hide ⟨by omega,by omega,.inr ⟨by omega,by omega⟩⟩,RWH,OW⟩
    case measure=>simp[intOf];omega
  ·have hlt':¬(j:Int)<L:=by omega
   obtain rfl:j=L:=by omega
   obtain rfl:i=j-k:=by omega
   obtain⟨i,hi⟩:∃i,i=j-k:=⟨_,rfl⟩
   rw[←hi]at RR aAf hij hrl⊢
   have hij':i<j:=by omega
   have abp:=RR.out
   unfold bD at abp
   rw[hrl]at abp
   have htk:((rs.drop k).take i++rs.drop i).take i=rs.drop k:=by
    have hl:((rs.drop k).take i).length=i:=by rw[List.length_take,List.length_drop,←HL.out];omega
    rw[List.take_append_of_le_length (by omega),List.take_of_length_le (by omega),List.take_of_length_le (by rw[List.length_drop,←HL.out];omega)]
   have aX:wr.ownsRow base 35 3 (.slice (some ⟨g,0,none⟩) i cap) i (ccells (rs.drop k)):=by
    rw[←htk,sD]
    exact acL abp i (by omega)
   obtain⟨apN,hg1,hs1⟩:∃cur,wr.heap[g]? =some (.cells cur 35 (0,0))∧cur.size=cap*3:=by
    rcases abp.2 with⟨h,_⟩|⟨g',cap',cur,h,_,hg,_,_,hs,_⟩
    ·simp at h
    ·simp only[Value.slice.injEq,Option.some.injEq,Addr.mk.injEq,and_true,true_and]at h
     obtain⟨rfl,rfl⟩:=h
     exact⟨cur,hg,hs⟩
   obtain⟨m,hm⟩:∃m,m=j-i:=⟨_,rfl⟩
   have hzl:(Builtin.zeroCells (Value.agg #[.int .i64 0,.int .i64 0,.slice none 0 0]).cells m).toList.length=m*3:=by rw[vZ];rfl
   obtain⟨w2,hw2⟩:∃w2,w2=wr.setCells g (i*3) (Builtin.zeroCells (Value.agg #[.int .i64 0,.int .i64 0,.slice none 0 0]).cells m).toList:=⟨_,rfl⟩
   have hcl:∀ty,(Builtin.clear_ #[22] ty #[.slice (some ⟨g,i*3,none⟩) m (cap-i)]).run prog wr=.ok (.tuple #[]) w2:=fun ty=>by
    rw[hw2]
    exact sO wr _ _ ty _ underlying22 Tryz.axK (vX m (by decide)) g (i*3) (cap-i) (by omega) (fun j hj=>by rw[hzl]at hj;rw[ai hg1 _ (Array.getElem?_eq_getElem (by omega:i*3+j<apN.size))];rfl) (fun j _=>aA hg1 _)
   have htl:(rs.drop k).length=i:=by rw[List.length_drop,←HL.out];omega
   have R:Hid (bD 35 base w2 (.slice (some ⟨g,0,none⟩) i cap) (rs.drop k)):=hide (by
    unfold bD
    rw[htl,hw2]
    exact yg aX _ (Nat.le_refl _) _)
   have O:Hid (Out (fun b=>(Value.slice (some ⟨g,0,none⟩) j cap).ownBlock=some b) w w2):=hide (by
    rw[hw2]
    refine((OR.out.mono (G:=fun b=>(Value.slice (some ⟨g,0,none⟩) j cap).ownBlock=some b) fun b hb=>.inl (by rw[hb];rfl)).trans (Out.aM (F:=fun b=>(Value.slice (some ⟨g,0,none⟩) j cap).ownBlock=some b) (mU g _ (i*3) wr) fun b hb=>hb) fun b hb=>.inl hb))
   have hmc:¬cap=i:=by omega
   have hmL:(i:Int)≤j:=by omega
   have hLc:(i:Int)≤cap:=by omega
   have hi0:(0:Int)≤i:=by omega
   rw[hm]at hcl
   clear hw2 hzl hg1 hs1 aX abp RR OR htk htl hm hrl HJ g1 g3 hi
   go_wp2
   go_ret
   exact⟨_,rfl,R.out,O.out,rfl,_,_,_,rfl⟩
end Go.Proofs.YtlmkaljjocflmaaGreatDoor
namespace Go.Proofs.YtlmkaljjocflmaaGreatDoor
open Go.RowKit
open Bm (Ov)
theorem Tryz.apG:∀args w,(callFunc 64 args).run prog w=.ok (.enter 64 args) w:=enters_of func64 (by kernel_rfl) rfl
structure StP (ps p pm bm:Nat) (w:World) (l:List Cm.Cv) (v:Value) (rs:List Cw) (t:List Ov):Prop where
 blk:w.heap[ps]? =some (.cells #[.pointer (some ⟨p,0,none⟩),v,.pointer (some ⟨pm,0,none⟩)] 288 (0,0))
 rest:Rt 0 w l v rs
 tb:Tb pm bm w t
theorem Tb.bne {pm bm:Nat}{w:World}{t:List Ov}(h:Tb pm bm w t){g:Nat}{cs:Array Value}{ty:TypeId}{fr:Nat×Nat}(hg:w.heap[g]? =some (.cells cs ty fr)):g≠bm:=fun e=>by
 obtain⟨es,clock,hb,_⟩:=h.own
 rw[e,hb]at hg
 cases hg
theorem Tb.pne {pm bm:Nat}{w:World}{t:List Ov}(h:Tb pm bm w t){g:Nat}{cs:Array Value}{ty:TypeId}{fr:Nat×Nat}(hg:w.heap[g]? =some (.cells cs ty fr))(ht:ty≠167):g≠pm:=fun e=>by
 have:=h.blk
 rw[←e,hg]at this
 simp only[Option.some.injEq,Obj.cells.injEq]at this
 exact ht this.2.1
theorem arX {pm bm base:Nat}{w:World}{t:List Ov}{l:List Cm.Cv}{v:Value}{rs:List Cw}(h:Tb pm bm w t)(k:Rt base w l v rs):¬QB v rs pm∧¬QB v rs bm:=by
 refine⟨fun e=>?_,fun e=>?_⟩
 ·exact k.ne h.blk (by decide) (by decide) e
 ·obtain⟨cs,ty,hg,_⟩:=k.ty bm e
  exact h.bne hg rfl
theorem aiD {ps p pm bm:Nat}{w wc:World}{l:List Cm.Cv}{v:Value}{rs:List Cw}{c:Cw}(hv:nJ ps p pm bm w l v rs)(hb:Below w.heap.size w wc)(hc:aT 71 w.heap.size wc c.v c.l)(hg:Cm.chk c.e c.n c.l=0)(hn:l.length+1≤1048576)(ty:TypeId):
  ∃V,wc.alloc (.cells #[.int .i64 c.e,.int .i64 c.n,c.v] 35)=V∧V.cell? ⟨ps,1,none⟩=some v∧∃v2 w2,(Builtin.append_ #[22,22] ty #[v,.slice (some ⟨wc.heap.size,0,none⟩) 1 1]).run prog V=.ok v2 w2∧w2.cell? ⟨ps,1,none⟩=some v∧w2.frozen? ⟨ps,1,none⟩=false∧(∃a n k,v2=.slice a n k)∧
   StP ps p pm bm (w2.setCell ⟨ps,1,none⟩ v2) (l++[c.c]) v2 (rs++[c]) (Rl.tab l)∧Out (fun g=>g=ps∨v.ownBlock=some g) w (w2.setCell ⟨ps,1,none⟩ v2)∧∀g,QB v2 (rs++[c]) g→QB v rs g∨w.heap.size≤g:=by
 have hsz:=hb.size
 obtain⟨V,hV,iy,bg,jm⟩:=kE 35 wc #[.int .i64 c.e,.int .i64 c.n,c.v] 1 [c] rfl rfl (by simp[maxLen])
 have bwV:=hb.trans (bg.mono hsz)
 have qV:=hv.rest.below bwV
 have BV:=(bwV.block ps (ay hv.blk)).trans hv.blk
 have hone:∀d∈[c],d.v.oneCell'=true:=fun d hd=>by rw[List.mem_singleton.1 hd];exact hc.is.one
 obtain⟨v2,w2,hr,aW,iU,at2⟩:=nK (P:=prog) (w:=V) 22 ty 35 0 underlying22 Tryz.abH v rs qV.row _ [c] jm.row hone (by have:=hv.rest.few;have:=hv.rest.len;simp;omega) (Nat.zero_le _)
 have kp:bH 35 V w2:=bH.sN qV.row iU
 have q2:=qV.grow aW kp ((hc.below bg).bn (Nat.zero_le _)) hg hn
 have hpn:¬v.ownBlock=some ps:=fun e=>qV.ne BV (by decide) (by decide) (.inl e)
 have B2:=(iU.block ps (ay BV) (fun e=>hpn e.symm)).trans BV
 obtain⟨X,hX,bX,gX,fX⟩:=zi B2 1 v2
 have qX:Rt 0 X (l++[c.c]) v2 (rs++[c]):=q2.agree fun g hg=>gX.block g (q2.lt g hg) fun e=>by
  simp at e
  exact q2.ne B2 (by decide) (by decide) (e▸hg)
 have oX:Out (fun g=>g=ps∨v.ownBlock=some g) w X:=((Out.of_below (F:=fun g=>g=ps∨v.ownBlock=some g) bwV).trans (Out.aM (F:=fun g=>g=ps∨v.ownBlock=some g) iU fun g hg=>.inr hg) fun g hg=>.inl hg).trans (Out.aM (F:=fun g=>g=ps∨v.ownBlock=some g) gX fun g hg=>.inl (by simpa using hg.symm)) fun g hg=>.inl hg
 have tX:Tb pm bm X (Rl.tab l):=by
  obtain⟨t1,t2⟩:=arX hv.tb hv.rest
  refine hv.tb.agree (oX.block pm hv.tb.plt ?_) (oX.block bm hv.tb.blt ?_)
  ·rintro(e|e)
   ·exact hv.tb.pne hv.blk (by decide) e.symm
   ·exact t1 (.inl e)
  ·rintro(e|e)
   ·exact hv.tb.bne hv.blk e.symm
   ·exact t2 (.inl e)
 refine⟨V,hV,ai BV 1 rfl,v2,w2,hr,ai B2 1 rfl,fX,?_,?_⟩
 ·obtain⟨a1,k1,h1,_⟩:=aW.row.shape
  exact⟨a1,_,k1,h1⟩
 ·rw[hX]
  refine⟨⟨bX,qX,tX⟩,oX,?_⟩
  rintro g (e|⟨d,hd,e⟩)
  ·rcases at2 with h|h
   ·exact .inl (.inl (h▸e))
   ·rw[h]at e
    simp at e
    exact .inr (by omega)
  ·rcases List.mem_append.1 hd with hd|hd
   ·exact .inl (.inr ⟨d,hd,e⟩)
   ·rw[List.mem_singleton.1 hd]at e
    exact .inr (hc.block g e).1
def SkS (ps p:Nat) (G:Nat→Prop) (w w':World) (l':List Cm.Cv):Prop:=∃G',Sk ps p G' w' l'∧Out G w w'∧∀g,G' g→G g∨w.heap.size≤g
theorem SkS.pre {ps p:Nat}{G:Nat→Prop}{w w1 w2:World}{l:List Cm.Cv}(hb:Below w.heap.size w w1)(h:SkS ps p G w1 w2 l):SkS ps p G w w2 l:=by
 obtain⟨G',h1,h2,h3⟩:=h
 refine⟨G',h1,(Out.of_below (F:=G) hb).trans h2 fun g hg=>.inl hg,fun g hg=>?_⟩
 rcases h3 g hg with e|e
 ·exact .inl e
 ·exact .inr (Nat.le_trans hb.size e)
theorem SkS.sts {ps p q:Nat}{F1 G:Nat→Prop}{w w':World}{r:Rl.Rs}{l':List Cm.Cv}(h1:RW p q F1 w r)(hd:∀g,G g→¬F1 g)(h:SkS ps p G w w' l')(ok:Sto.Ok ⟨r,l'⟩):kg ps p q (fun g=>F1 g∨G g) w w' ⟨r,l'⟩:=by
 obtain⟨G',k1,k2,k3⟩:=h
 refine⟨_,⟨F1,G',h1.out k2 fun g hg e=>hd g e hg,k1,fun g hg hf=>?_,ok,rfl⟩,k2.mono fun g hg=>.inl (.inr hg),?_⟩
 ·rcases k3 g hg with e|e
  ·exact hd g e hf
  ·have:=h1.lt g hf
   omega
 ·rintro g (e|e)
  ·exact .inl (.inl e)
  ·exact(k3 g e).imp (fun e=>.inr e) id
theorem StP.done {ps p pm bm:Nat}{w0 w w':World}{l:List Cm.Cv}{v v2:Value}{rs:List Cw}{c:Cw}(h:StP ps p pm bm w (l++[c.c]) v2 (rs++[c]) (Rl.tab l))(ho:Out (fun g=>g=ps∨v.ownBlock=some g) w0 w)(hq:∀g,QB v2 (rs++[c]) g→QB v rs g∨w0.heap.size≤g)
  (ht:Tb pm bm w' (Rl.tab (l++[c.c]))) (o2:Out (fun g=>g=bm) w w'):SkS ps p (SB ps pm bm v rs) w0 w' (l++[c.c]):=by
 obtain⟨t1,t2⟩:=arX h.tb h.rest
 have hbk:w'.heap[ps]? =some (.cells #[.pointer (some ⟨p,0,none⟩),v2,.pointer (some ⟨pm,0,none⟩)] 288 (0,0)):=(o2.block ps (ay h.blk) (h.tb.bne h.blk)).trans h.blk
 have hre:Rt 0 w' (l++[c.c]) v2 (rs++[c]):=h.rest.out o2 fun g hg e=>t2 (e▸hg)
 have oA:Out (SB ps pm bm v rs) w0 w':=(ho.mono (G:=SB ps pm bm v rs) fun g hg=>.inl (hg.elim (fun e=>.inl e) fun e=>.inr (.inr (.inr (.inl e))))).trans o2 fun g hg=>.inl (.inr (.inr (.inl hg)))
 refine⟨_,⟨pm,bm,v2,rs++[c],⟨hbk,hre,ht⟩,rfl⟩,oA,?_⟩
 rintro g (e|e|e|e)
 ·exact .inl (.inl e)
 ·exact .inl (.inr (.inl e))
 ·exact .inl (.inr (.inr (.inl e)))
 ·exact(hq g e).imp (fun e=>.inr (.inr (.inr e))) id
theorem adJ (ps p pm bm:Nat)(w:World)(l:List Cm.Cv)(v:Value)(rs:List Cw)(c:Cw)(hs:nJ ps p pm bm w l v rs)(hi:bM w c.v c.l)(uO:Cm.chk c.e c.n c.l=0)(jg:0<c.l.length→∀b,c.v.ownBlock=some b→¬SB ps pm bm v rs b)(hn:l.length≤100000)(htl:(Rl.tab l).length≤l.length*8):
  Calls prog 240 #[.pointer (some ⟨ps,0,none⟩),cK c.e c.n c.v] w fun E w'=>(∃u,E=.returned u)∧SkS ps p (SB ps pm bm v rs) w w' (l++[c.c]):=by
 obtain⟨f1,f2,f3,f4,f5⟩:=tJ uO
 obtain⟨w1,hw1,aV,aj,hB⟩:=au w #[.int .i64 c.e,.int .i64 c.n,c.v] 35
 have hs1:=hs.below aj
 have i1:=hi.below aj
 have c0:w1.cell? ⟨w.heap.size,0,none⟩=some (.int .i64 c.e):=ai hB 0 rfl
 have c1:w1.cell? ⟨w.heap.size,1,none⟩=some (.int .i64 c.n):=ai hB 1 rfl
 have c2:w1.cell? ⟨w.heap.size,2,none⟩=some c.v:=ai hB 2 rfl
 have hp1:ps<w1.heap.size:=ay hs1.blk
 have y1:w1.cell? ⟨ps,1,none⟩=some v:=ai hs1.blk 1 rfl
 obtain⟨ao,cap,hcv,_,_⟩:=hi.shape
 obtain⟨la,ln,lk,hlv⟩:∃a n k,v=.slice a n k:=by
  obtain⟨a1,k1,h1,_⟩:=hs.rest.row.row.shape
  exact⟨a1,_,k1,h1⟩
 have aA3:ps<w.heap.size:=ay hs.blk
 have X1:Hid (Calls prog 64 #[.agg #[.int .i64 c.e,.int .i64 c.n,c.v]] w1.drew fun E w6=>∃v',E=.returned v'∧∃(vo:Value) (V:World),v'=.agg #[.int .i64 c.e,.int .i64 c.n,vo]∧(∃a n k,vo=.slice a n k)∧w6.cell? ⟨ps,1,none⟩=some v∧(w6.cell? ⟨w.heap.size,0,none⟩=some (.int .i64 c.e)∧w6.cell? ⟨w.heap.size,1,none⟩=some (.int .i64 c.n)∧w6.cell? ⟨w.heap.size,2,none⟩=some c.v)∧w6.alloc (.cells #[.int .i64 c.e,.int .i64 c.n,vo] 35)=V∧(V.cell? ⟨ps,1,none⟩=some v∧(V.cell? ⟨w.heap.size,0,none⟩=some (.int .i64 c.e)∧V.cell? ⟨w.heap.size,1,none⟩=some (.int .i64 c.n)∧V.cell? ⟨w.heap.size,2,none⟩=some c.v))∧
   Hid (∀ty,∃v2 w2,(Builtin.append_ #[22,22] ty #[v,.slice (some ⟨w6.heap.size,0,none⟩) 1 1]).run prog V=.ok v2 w2∧((StP ps p pm bm (w2.setCell ⟨ps,1,none⟩ v2) (l++[c.c]) v2 (rs++[⟨c.e,c.n,vo,c.l⟩]) (Rl.tab l)∧Out (fun g=>g=ps∨v.ownBlock=some g) w1 (w2.setCell ⟨ps,1,none⟩ v2)∧∀g,QB v2 (rs++[⟨c.e,c.n,vo,c.l⟩]) g→QB v rs g∨w1.heap.size≤g)∧w2.cell? ⟨ps,1,none⟩=some v∧w2.frozen? ⟨ps,1,none⟩=false∧∃a n k,v2=.slice a n k))):=hide (by
  have:=yt c.e c.n c.v c.l w1.drew (i1.drewN 1) f2
  unfold cK at this
  refine this.mono ?_
  rintro E w6 ⟨vo,rfl,eu,eH⟩
  have b16:Below w1.heap.size w1 w6:=(Below.refl w1.heap.size w1).drew.trans eH
  obtain⟨V,hV,V2,_⟩:=aiD (c:=⟨c.e,c.n,vo,c.l⟩) hs1 b16 eu uO (by omega) 22
  have bg:Below w6.heap.size w6 V:=by rw[←hV];exact(Below.refl _ _).alloc (Nat.le_refl _) _
  have b1V:=b16.trans (bg.mono b16.size)
  obtain⟨a1,k1,h1,_⟩:=eu.is.shape
  refine⟨_,rfl,vo,V,rfl,⟨a1,_,k1,h1⟩,(b16.cell (p:=⟨ps,1,none⟩) hp1).trans y1,⟨(b16.cell (p:=⟨w.heap.size,0,none⟩) (show w.heap.size<w1.heap.size by omega)).trans c0,(b16.cell (p:=⟨w.heap.size,1,none⟩) (show w.heap.size<w1.heap.size by omega)).trans c1,(b16.cell (p:=⟨w.heap.size,2,none⟩) (show w.heap.size<w1.heap.size by omega)).trans c2⟩,hV,⟨V2,(b1V.cell (p:=⟨w.heap.size,0,none⟩) (show w.heap.size<w1.heap.size by omega)).trans c0,(b1V.cell (p:=⟨w.heap.size,1,none⟩) (show w.heap.size<w1.heap.size by omega)).trans c1,(b1V.cell (p:=⟨w.heap.size,2,none⟩) (show w.heap.size<w1.heap.size by omega)).trans c2⟩,hide fun ty=>?_⟩
  obtain⟨V',hV',V2',v2',w2',hr',q1',q2',q3',J⟩:=aiD (c:=⟨c.e,c.n,vo,c.l⟩) hs1 b16 eu uO (by omega) ty
  have eV:V'=V:=hV'.symm.trans hV
  subst eV
  exact⟨v2',w2',hr',J,q1',q2',q3'⟩)
 have hlt:=hs.lt
 have HH:=hide (And.intro hs1 (And.intro i1 (And.intro hB (And.intro aj hlt))))
 have HF:=hide (And.intro f1 (And.intro hn f5))
 have HCF:=hide jg
 unfold cK
 have oM:=hide hcv
 rw[hcv]at hw1 c2 X1⊢
 rw[hlv]at y1 X1
 have HLV:=hide hlv
 have hta:Tm.aft (Rl.tab l) c.l=Rl.tab (l++[c.c])∧Bm.first c.l=0:=aiJ (l:=l) (c:=c.c) uO
 have HTA:=hide hta
 have HTL:=hide htl
 have HSZ:=hide aV
 clear htl hs hi f1 f2 f3 f4 f5 hs1 i1 aj hB jg hcv hlv uO aV hlt hta hn hp1 aA3
 go_enter func240,ntmps240
 go_wp2_with fail
 go_region_law (first
  |(have ow:=XX;refine dR rfl (.tmp 8) (.tmp 11) 22 rfl (.slice la ln lk) (.slice (some ⟨w6.heap.size,0,none⟩) 1 1) (by first|(simp[Act.eval];done)|(simp[Act.eval,Act.put];done)) (by first|(simp[Act.eval];done)|(simp[Act.eval,Act.put];done)) XX.out ?_;rintro v8 w8 ⟨J,d8,g8,a8,n8,k8,rfl⟩;have J:=hide J)
  |(refine p9 rfl 64 #[.tmp 9] #[35] rfl Tryz.apG #[.agg #[.int .i64 c.e,.int .i64 c.n,.slice ao c.l.length cap]] (by first|(simp[Act.eval];done)|(simp[Act.eval,Act.put];done)) X1.out ?_;rintro v6 w6 ⟨vo,V,rfl,⟨oa,on,ok,rfl⟩,z2,⟨b0,b1,b2⟩,hV,⟨z3,b3,b4,b5⟩,XX⟩))
 all_goals
  obtain⟨X,hX⟩:∃X,w8.setCell ⟨ps,1,none⟩ (.slice a8 n8 k8)=X:=⟨_,rfl⟩
  obtain⟨hs1,i1,hB,aj,hlt⟩:=HH.out
  have JJ:=J.out
  rw[hX]at JJ
  rw[←HLV.out]at JJ
  obtain⟨sp,ox,hq⟩:=JJ
  have x2:X.cell? ⟨ps,2,none⟩=some (.pointer (some ⟨pm,0,none⟩)):=ai sp.blk 2 rfl
  have hwne:¬(w.heap.size=ps∨v.ownBlock=some w.heap.size):=by
   rintro(e|e)
   ·have:=hlt ps (.inl rfl);omega
   ·have:=hlt w.heap.size (.inr (.inr (.inr (.inl e))));omega
  have hBX:=(ox.block w.heap.size (by have:=HSZ.out;omega) hwne).trans hB
  have xc:X.cell? ⟨w.heap.size,2,none⟩=some (.slice ao c.l.length cap):=by rw[←oM.out];exact ai hBX 2 rfl
  have iX:bM X c.v c.l:=i1.out ox fun hp b hb hf=>HCF.out hp b hb (by
   rcases hf with e|e
   ·exact .inl e
   ·exact .inr (.inr (.inr (.inl e))))
  have HA:=hide (uW pm bm X.drew _ c.v c.l (sp.tb.agree rfl rfl) (iX.drewN 1) HF.out.1 (by have h1:=HTL.out;have h2:=HF.out.2.1;have h3:=HF.out.2.2;omega))
  rw[HTA.out.1,HTA.out.2,oM.out]at HA
  have SP:=hide (And.intro sp (And.intro ox hq))
  have hpx:ps<X.heap.size:=ay sp.blk
  have hwx:w.heap.size<X.heap.size:=ay hBX
  have az3:ps≠bm:=sp.tb.bne sp.blk
  have aAN:w.heap.size≠bm:=sp.tb.bne hBX
  clear sp ox hq hBX iX J hs1 i1 hB aj hlt hwne
  go_wp2_with fail
  go_region_held3 (fun w'=>w'.cell? ⟨ps,2,none⟩=some (.pointer (some ⟨pm,0,none⟩))∧w'.cell? ⟨w.heap.size,2,none⟩=some (.slice ao c.l.length cap)) (first|exact⟨x2,xc⟩|exact⟨u2,uc⟩|go_keep)
   (first
   |(go_at_call 47;refine HA.out.mono ?_;rintro E wz ⟨rfl,TZ,OZ'⟩;have OZ:Out (fun g=>g=bm) X wz:=((Out.refl _ X).drew 1).trans OZ' fun g hg=>.inl hg;have u2:=(eX (OZ.block ps hpx az3) 2).trans x2;have uc:=(eX (OZ.block w.heap.size hwx aAN) 2).trans xc;have TZ:=hide TZ;have OZH:=hide OZ;clear OZ OZ'))
  obtain⟨hs1,i1,hB,aj,hlt⟩:=HH.out
  have FIN:=hide (SkS.pre aj (StP.done SP.out.1 SP.out.2.1 SP.out.2.2 TZ.out OZH.out))
  clear hs1 i1 hB aj hlt
  go_wp2
  go_end0
  exact⟨⟨_,rfl⟩,FIN.out⟩
theorem apR (ps p q:Nat)(F:Nat→Prop)(w:World)(s:Sto.Ss)(c:Cw)(h:SW ps p q F w s)(hi:bM w c.v c.l)(ok:Sto.Ok ⟨s.r,s.l++[c.c]⟩)(jg:0<c.l.length→∀b,c.v.ownBlock=some b→¬F b)(hn:s.l.length≤100000):
  Calls prog 240 #[.pointer (some ⟨ps,0,none⟩),cK c.e c.n c.v] w fun E w'=>(∃u,E=.returned u)∧kg ps p q F w w' ⟨s.r,s.l++[c.c]⟩:=by
 obtain⟨F1,G1,h1,⟨pm,bm,v,rs,hs,rfl⟩,hd,ok0,rfl⟩:=h
 refine(adJ ps p pm bm w s.l v rs c hs hi (Sto.gI ok.rest c.c (by simp)).1 (fun hp b hb hf=>jg hp b hb (.inr hf)) hn (Sto.zb ok0.rest)).mono ?_
 rintro E w' ⟨hu,hk⟩
 exact⟨hu,hk.sts h1 hd ok⟩
end Go.Proofs.YtlmkaljjocflmaaGreatDoor
namespace Go.Proofs.YtlmkaljjocflmaaGreatDoor
open Go.RowKit
open Bm (Ov)
theorem avi {ps p pm bm k:Nat}{w wd w2:World}{l:List Cm.Cv}{v v':Value}{rs:List Cw}(hs:nJ ps p pm bm w l v rs)(hb:Below w.heap.size w wd)(hr:bD 35 0 w2 v' (rs.drop k))(ho:Out (fun g=>v.ownBlock=some g) wd w2)(hbv:v'.ownBlock=v.ownBlock):
  w2.cell? ⟨ps,1,none⟩=some v∧w2.frozen? ⟨ps,1,none⟩=false∧∃X,w2.setCell ⟨ps,1,none⟩ v'=X∧X.heap[ps]? =some (.cells #[.pointer (some ⟨p,0,none⟩),v',.pointer (some ⟨pm,0,none⟩)] 288 (0,0))∧Rt 0 X (l.drop k) v' (rs.drop k)∧Out (fun g=>g=ps∨v.ownBlock=some g) w X∧∀g,QB v' (rs.drop k) g→QB v rs g:=by
 have hd:=hs.below hb
 have hpn:¬v.ownBlock=some ps:=fun e=>hd.rest.ne hd.blk (by decide) (by decide) (.inl e)
 have B2:=(ho.block ps (ay hd.blk) hpn).trans hd.blk
 obtain⟨X,hX,bX,gX,fX⟩:=zi B2 1 v'
 have hq:∀g,QB v' (rs.drop k) g→QB v rs g:=by
  rintro g (e|⟨c,hc,e⟩)
  ·exact .inl (by rw[←hbv];exact e)
  ·exact .inr ⟨c,List.mem_of_mem_drop hc,e⟩
 have c2:gu 0 w2 (rs.drop k):=fun c hc=>by
  have h1:=hd.rest.iH c (List.mem_of_mem_drop hc)
  refine dH h1 fun g hg=>ho.block g (aT.block h1 g hg).2 fun e=>?_
  obtain⟨c1,e1⟩:=h1.type hg
  obtain⟨c2,e2⟩:=hd.rest.row.type e
  rw[e1]at e2
  simp only[Option.some.injEq,Obj.cells.injEq]at e2
  exact absurd e2.2.1 (by decide)
 have r2:Rt 0 w2 (l.drop k) v' (rs.drop k):=⟨hr,c2,by rw[←hs.rest.is];simp[aD],fun c hc=>hs.rest.good c (List.mem_of_mem_drop hc),by have:=hs.rest.few;rw[List.length_drop];omega⟩
 have rX:Rt 0 X (l.drop k) v' (rs.drop k):=r2.agree fun g hg=>gX.block g (r2.lt g hg) fun e=>by
  simp at e
  exact r2.ne B2 (by decide) (by decide) (e▸hg)
 refine⟨ai B2 1 rfl,fX,X,hX,bX,rX,?_,hq⟩
 exact((Out.of_below (F:=fun g=>g=ps∨v.ownBlock=some g) hb).trans ho fun g hg=>.inl (.inr hg)).trans (Out.aM (F:=fun g=>g=ps) gX fun g hg=>by simpa using hg.symm) fun g hg=>.inl (.inl hg)
theorem axx {ps p pm pm' bm':Nat}{X w4:World}{l:List Cm.Cv}{v:Value}{rs:List Cw}(hX:X.heap[ps]? =some (.cells #[.pointer (some ⟨p,0,none⟩),v,.pointer (some ⟨pm,0,none⟩)] 288 (0,0)))(hr:Rt 0 X l v rs)(hb:Below X.heap.size X w4)(ht:Tb pm' bm' w4 (Rl.tab l)):
  w4.cell? ⟨ps,2,none⟩=some (.pointer (some ⟨pm,0,none⟩))∧w4.frozen? ⟨ps,2,none⟩=false∧∃Y,w4.setCell ⟨ps,2,none⟩ (.pointer (some ⟨pm',0,none⟩))=Y∧nJ ps p pm' bm' Y l v rs∧Out (fun g=>g=ps) X Y:=by
 have B4:=(hb.block ps (ay hX)).trans hX
 have r4:=hr.below hb
 obtain⟨Y,hY,bY,gY,fY⟩:=zi B4 2 (.pointer (some ⟨pm',0,none⟩))
 refine⟨ai B4 2 rfl,fY,Y,hY,⟨bY,?_,?_⟩,(Out.of_below (F:=fun g=>g=ps) hb).trans (Out.aM (F:=fun g=>g=ps) gY fun g hg=>by simpa using hg.symm) fun g hg=>.inl hg⟩
 ·exact r4.agree fun g hg=>gY.block g (r4.lt g hg) fun e=>by
   simp at e
   exact r4.ne B4 (by decide) (by decide) (e▸hg)
 ·refine ht.agree (gY.block pm' ht.plt fun e=>?_) (gY.block bm' ht.blt fun e=>?_)
  ·simp at e
   exact ht.pne B4 (by decide) e.symm
  ·simp at e
   exact ht.bne B4 e.symm
theorem ajA (ps p q pm bm:Nat)(F1:Nat→Prop)(w:World)(r:Rl.Rs)(l:List Cm.Cv)(v:Value)(rs:List Cw)(k:Nat)(h1:RW p q F1 w r)(hs:nJ ps p pm bm w l v rs)(hd:∀g,SB ps pm bm v rs g→¬F1 g)(hk:k≤l.length)(hk0:0<k)(ha:∀c∈l.take k,c.n≤Cm.lastN 0 r.l)(hb:∀c∈l.drop k,Cm.lastN 0 r.l<c.n)(ok:Sto.Ok ⟨r,l.drop k⟩)(hn:l.length≤100000):
  Calls prog 285 #[.pointer (some ⟨ps,0,none⟩)] w fun E w'=>(∃u,E=.returned u)∧kg ps p q (fun g=>F1 g∨SB ps pm bm v rs g) w w' ⟨r,l.drop k⟩:=by
 have HE:=hide (jy p q F1 w r h1)
 have c0:=ai hs.blk 0 rfl
 obtain⟨V,hV1,hV,iy,bV,BV,cV⟩:=ag1 w 3 (.int .i64 0) (.int .i64 (Cm.lastN 0 r.l))
 have d1:=ai (hs.below bV).blk 1 rfl
 simp only[List.getElem_toArray,List.getElem_cons_zero,List.getElem_cons_succ]at c0 d1
 have hrl:=hs.rest.len
 have hrow:=hs.rest.row.row
 have ha':∀c∈rs.take k,c.n≤Cm.lastN 0 r.l:=fun c hc=>ha c.c (by
  rw[←hs.rest.is,←aak]
  exact List.mem_map.2 ⟨c,hc,rfl⟩)
 have hb':∀c∈rs.drop k,Cm.lastN 0 r.l<c.n:=fun c hc=>hb c.c (by
  rw[←hs.rest.is]
  simp only[aD,←List.map_drop]
  exact List.mem_map.2 ⟨c,hc,rfl⟩)
 obtain⟨c,hck⟩:∃c,rs[0]? =some c:=⟨rs[0]'(by omega),by rw[List.getElem?_eq_getElem]⟩
 have hcn:=ha' c (List.mem_of_getElem? (show(rs.take k)[0]? =some c by rw[List.getElem?_take_of_lt hk0];exact hck))
 obtain⟨g,off,cap,hvv,_,_,hg,hcell⟩:=hrow.full (by omega)
 obtain⟨_,e1,_⟩:=hcell 0 c hck
 have e1':V.cell? ⟨g,off+1,none⟩=some (.int .i64 c.n):=(bV.cell (p:=⟨g,off+1,none⟩) hg).trans (by simpa using e1)
 have hlen:((rs.length:Int)==0)=false:=beq_eq_false_iff_ne.2 (by omega)
 have hl0:(0:Int)<rs.length:=by omega
 have hnlt:¬Cm.lastN 0 r.l<c.n:=by omega
 have HD:Hid (∀m,Calls prog 311 #[v,.func (.func 312) #[] #[.pointer (some ⟨w.heap.size,0,none⟩)]] (V.drewN m) fun E w'=>∃v',E=.returned v'∧bD 35 0 w' v' (rs.drop k)∧Out (fun g=>v.ownBlock=some g) (V.drewN m) w'∧v'.ownBlock=v.ownBlock∧∃a n k,v'=.slice a n k):=hide fun m=>
  ao1 (V.drewN m) 0 v rs k (Cm.lastN 0 r.l) w.heap.size ((hs.below (below_drewN bV m)).rest.row) (by omega) hk0 ha' hb' BV (fun c hc=>by
   obtain⟨a,k,h,_⟩:=(hs.rest.iH c hc).is.shape
   exact⟨_,_,_,h⟩) (by have:=hs.rest.few;omega)
 have HH:=hide (And.intro h1 (And.intro hs (And.intro hd (And.intro ok (And.intro bV hn)))))
 generalize Cm.lastN 0 r.l=z at*
 have HV:=hide hvv
 rw[hvv]at d1 HD
 generalize rs.length=n at*
 generalize c.n=x at*
 clear h1 hs hd ok ha hb ha' hb' hrow hcell hck e1 bV BV hvv hn hrl
 go_enter func285,ntmps285
 go_wp2_with fail
 refine HE.out.mono ?_
 rintro E w1 ⟨rfl,rfl⟩
 go_wp2_with fail
 go_quiet (fail)
 generalize hyy:V.drewN nq=Y
 have dY:Y.cell? ⟨ps,1,none⟩=some (.slice (some ⟨g,off,none⟩) n cap):=by rw[←hyy];exact d1
 have HD1:=hide (HD.out nq)
 have BY:Hid (Below w.heap.size w Y):=hide (by rw[←hyy];exact below_drewN HH.out.2.2.2.2.1 _)
 rw[hyy]at HD1
 clear hyy d1 HD
 go_wp2_with fail
 refine HD1.out.mono ?_
 rintro E w2 ⟨v',rfl,hr,ho,hbv,sa,sn,sk,rfl⟩
 rw[←HV.out]at ho hbv
 obtain⟨y1,y2,X,hX,bX,rX,oX,hq⟩:=avi HH.out.2.1 BY.out hr ho hbv
 rw[HV.out]at y1
 have x1:X.cell? ⟨ps,1,none⟩=some (.slice sa sn sk):=ai bX 1 rfl
 have HT:=hide (zD (.slice sa sn sk) (rs.drop k) X rX.isc (fun c hc=>rX.get c hc) (by have h1:=rX.len;have h2:=HH.out.2.2.2.2.2;rw[h1,List.length_drop];omega))
 rw[rX.is]at HT
 have HX:=hide (And.intro bX (And.intro rX (And.intro oX hq)))
 clear HD1 hr ho hbv bX rX oX hq
 go_wp2_with fail
 refine HT.out.mono ?_
 rintro E w4 ⟨pm',rfl,bm',T4,p4,b4,aL⟩
 obtain⟨z1,z2,Y2,hY2,sY,oY⟩:=axx HX.out.1 HX.out.2.1 aL T4
 have FIN:Hid (kg ps p q (fun g=>F1 g∨SB ps pm bm v rs g) w Y2 ⟨r,l.drop k⟩):=hide (by
  obtain⟨h1,hs,hd,ok,bV,_⟩:=HH.out
  obtain⟨_,rX,oX,hq⟩:=HX.out
  have szX:=oX.size
  have oA:Out (SB ps pm bm v rs) w Y2:=(oX.mono (G:=SB ps pm bm v rs) fun g hg=>.inl (hg.elim (fun e=>.inl e) fun e=>.inr (.inr (.inr (.inl e))))).trans oY fun g hg=>.inl (.inl hg)
  have hnew:∀g,SB ps pm' bm' (.slice sa sn sk) (rs.drop k) g→SB ps pm bm v rs g∨w.heap.size≤g:=by
   rintro g (e|e|e|e)
   ·exact .inl (.inl e)
   ·exact .inr (by omega)
   ·exact .inr (by omega)
   ·exact .inl (.inr (.inr (.inr (hq g e))))
  refine⟨_,⟨F1,_,h1.out oA fun g hg e=>hd g e hg,⟨pm',bm',_,rs.drop k,sY,rfl⟩,fun g hg hf=>?_,ok,rfl⟩,oA.mono fun g hg=>.inl (.inr hg),?_⟩
  ·rcases hnew g hg with e|e
   ·exact hd g e hf
   ·have:=h1.lt g hf
    omega
  ·rintro g (e|e)
   ·exact .inl (.inl e)
   ·exact(hnew g e).imp (fun e=>.inr e) id)
 clear sY oY T4 aL HX HT
 go_wp2
 go_end0
 exact⟨⟨_,rfl⟩,FIN.out⟩
end Go.Proofs.YtlmkaljjocflmaaGreatDoor
