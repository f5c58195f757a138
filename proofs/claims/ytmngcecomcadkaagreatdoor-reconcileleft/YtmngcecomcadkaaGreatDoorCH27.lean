/- Texts of one layer, one behind the other. -/
import Derived.Test.YtmngcecomcadkaaGreatDoorCH9
import Derived.Test.YtmngcecomcadkaaGreatDoorCH6
import Derived.Test.YtmngcecomcadkaaGreatDoorCH11
import Derived.Test.YtmngcecomcadkaaGreatDoorCH8
import Derived.Deep.RegionHeld3
import Derived.Deep.RegionLaw
import Derived.Test.YtmngcecomcadkaaGreatDoorCM4
import Derived.Test.YtmngcecomcadkaaGreatDoorCH24
set_option maxRecDepth 100000
set_option maxHeartbeats 8000000
namespace Go.Proofs.YtmngcecomcadkaaGreatDoor
open Go.RowKit
open Bm (Ov)
set_option linter.unusedVariables false
theorem anE (w:World)(t:TypeId)(x a:Value):∃V,(w.alloc (.cells #[x] t)).setCell ⟨w.heap.size,0,none⟩ a=V∧w.alloc (.cells #[a] t)=V∧V.heap.size=w.heap.size+1∧Below w.heap.size w V∧V.heap[w.heap.size]? =some (.cells #[a] t (0,0))∧V.cell? ⟨w.heap.size,0,none⟩=some a:=by
 obtain⟨V,hV,sz,aF,hB⟩:=ak w #[a] t
 refine⟨V,?_,hV,sz,aF,hB,ai hB 0 rfl⟩
 rw[←hV]
 simp[go_sem]
theorem aiO {l:List Cm.Cv}{k:Nat}{c:Cm.Cv}(hk:l[k]? =some c)(hl:l.length=k+1)(e:Int):Cm.lastE e l=c.e:=by
 rcases List.eq_nil_or_concat l with rfl|⟨r,d,rfl⟩
 ·simp at hk
 ·rw[List.concat_eq_append]at hk hl⊢
  rw[List.length_append,List.length_singleton]at hl
  obtain rfl:r.length=k:=by omega
  rw[(Cm.iE r d e 0).1]
  simp at hk
  rw[hk]
theorem ao3 (ps p q:Nat)(F:Nat→Prop)(w:World)(s:Sto.Ss)(h:SW ps p q F w s):
  Calls Tryz.prog 160 #[.pointer (some ⟨ps,0,none⟩)] w fun E w'=>E=.returned (.int .i64 (Sto.fin s))∧∃m,w'=w.drewN m:=by
 obtain⟨F1,G1,h1,⟨pm,bm,v,rs,hs,_⟩,_,ok,_⟩:=h
 have HE:Hid (∀m,Calls Tryz.prog 108 #[.pointer (some ⟨p,0,none⟩)] (w.drewN m) fun E w'=>E=.returned (.int .i64 (Cm.lastN 0 s.r.l))∧∃q,w'=(w.drewN m).drewN q):=hide fun m=>
  (lQ p q F1 (w.drewN m) s.r (h1.below (below_drewN (Below.refl _ _) m))).mono fun E w' h=>⟨h.1,0,by rw[←h.2];rfl⟩
 have c0:=ai hs.blk 0 rfl
 have c1:=ai hs.blk 1 rfl
 simp only[List.getElem_toArray,List.getElem_cons_zero,List.getElem_cons_succ]at c0 c1
 obtain⟨ao,cap,hv,_,_⟩:=hs.rest.row.row.shape
 obtain⟨b1,b2,b3,b4⟩:=ok.bound
 have hl:=hs.rest.len
 unfold Sto.fin
 rw[hl]at hv
 have hw:IntKind.i64.wrap (Cm.lastN 0 s.r.l+(s.l.length:Int))=Cm.lastN 0 s.r.l+(s.l.length:Int):=aS _ (by omega) (by omega)
 generalize Cm.lastN 0 s.r.l=z at*
 generalize s.l.length=n at*
 subst hv
 clear hs h1 ok hl
 go_enter Tryz.func160,Tryz.ntmps160
 go_wp2_with fail
 go_quiet ((go_at_call 108;refine Calls.quiet_of (HE.out _)))
 go_wp2
 go_ret
 exact⟨rfl,_,rfl⟩
theorem an9 (ps p q:Nat)(F:Nat→Prop)(w:World)(s:Sto.Ss)(h:SW ps p q F w s):
  Calls Tryz.prog 159 #[.pointer (some ⟨ps,0,none⟩)] w fun E w'=>E=.returned (.int .i64 (Cm.lastE 1 s.l))∧∃m,w'=w.drewN m:=by
 obtain⟨F1,G1,h1,⟨pm,bm,v,rs,hs,_⟩,_,ok,_⟩:=h
 have c1:=ai hs.blk 1 rfl
 simp only[List.getElem_toArray,List.getElem_cons_zero,List.getElem_cons_succ]at c1
 have apR:=hs.rest.few
 rw[←hs.rest.len]at apR
 rw[←hs.rest.is]
 have h:=hs.rest.row.row
 by_cases h0:rs.length=0
 ·have hr:rs=[]:=List.eq_nil_of_length_eq_zero h0
  subst hr
  obtain⟨ao,cap,rfl,_,_⟩:=h.shape
  clear h hs h1 ok
  go_enter Tryz.func159,Tryz.ntmps159
  go_wp2
  go_ret
  exact⟨rfl,0,rfl⟩
 ·obtain⟨k,hk⟩:∃k,rs.length=k+1:=⟨rs.length-1,by omega⟩
  obtain⟨g,off,cap,rfl,_,_,_,hcell⟩:=h.full (by omega)
  obtain⟨c,hck⟩:∃c,rs[k]? =some c:=⟨rs[k]'(by omega),by rw[List.getElem?_eq_getElem]⟩
  obtain⟨d0,_,_⟩:=hcell k c hck
  have hL:Cm.lastE 1 (ay rs)=c.e:=aiO (k:=k) (c:=c.c) (by unfold ay;rw[List.getElem?_map,hck];rfl) (by unfold ay;rw[List.length_map];exact hk) 1
  rw[hL]
  rw[hk]at c1
  have hne:(((k+1:Nat):Int)==0)=false:=by simp;omega
  have hw:IntKind.i64.wrap (((k+1:Nat):Int)-1)=(k:Int):=by rw[aS _ (by omega) (by omega)];omega
  have hk1:(k:Int)<((k+1:Nat):Int):=by omega
  have hk0:(0:Int)≤(k:Int):=by omega
  have hw2:IntKind.i64.wrap (k:Int)=(k:Int):=aS _ (by omega) (by omega)
  have hk2:(k:Int)<(k:Int)+1:=by omega
  generalize c.e=z at*
  clear h hs h1 ok hcell hck hL hk apR h0
  go_enter Tryz.func159,Tryz.ntmps159
  go_wp2
  go_region
  go_wp2
  go_ret
  exact⟨rfl,1,rfl⟩
theorem alf (ps p q:Nat)(F:Nat→Prop)(w:World)(s:Sto.Ss)(h:SW ps p q F w s):
  Calls Tryz.prog 194 #[.pointer (some ⟨ps,0,none⟩)] w fun E w'=>(∃u,E=.returned u)∧Below w.heap.size w w':=by
 obtain⟨F1,G1,h1,⟨pm,bm,v,rs,hs,_⟩,_,ok,_⟩:=h
 have HE:=hide (lQ p q F1 w s.r h1)
 have c0:=ai hs.blk 0 rfl
 have apR:=hs.rest.few
 have hrow:=hs.rest.row.row
 obtain⟨V,hV1,hV,jX,bV,BV,cV⟩:=anE w 3 (.int .i64 0) (.int .i64 (Cm.lastN 0 s.r.l))
 have d1:=ai (hs.below bV).blk 1 rfl
 simp only[List.getElem_toArray,List.getElem_cons_zero,List.getElem_cons_succ]at c0 d1
 have hgd:=ok.rest
 rw[←hs.rest.is]at hgd
 generalize Cm.lastN 0 s.r.l=z at*
 by_cases h0:rs.length=0
 ·have hr:rs=[]:=List.eq_nil_of_length_eq_zero h0
  subst hr
  obtain⟨ao,cap,rfl,_,_⟩:=hrow.shape
  have B:=hide bV
  clear hrow hs h1 ok hgd bV BV h0
  go_enter Tryz.func194,Tryz.ntmps194
  go_wp2_with fail
  refine HE.out.mono ?_
  rintro E w1 ⟨rfl,rfl⟩
  go_wp2_with fail
  go_quiet (fail)
  go_wp2
  refine bodyPost_ret (results_none rfl _ _ _) rfl ?_
  exact⟨⟨_,rfl⟩,below_drewN B.out _⟩
 ·obtain⟨c,hck⟩:∃c,rs[0]? =some c:=⟨rs[0]'(by omega),by rw[List.getElem?_eq_getElem]⟩
  obtain⟨g,off,cap,rfl,_,_,hg,hcell⟩:=hrow.full (by omega)
  obtain⟨_,e1,_⟩:=hcell 0 c hck
  have hn:z<c.n:=by
   obtain⟨_,h2,_,_⟩:=Cm.nI _ _ _ 0 c.c hgd (by unfold ay;rw[List.getElem?_map,hck];rfl)
   have:c.c.n=c.n:=rfl
   omega
  have e1':V.cell? ⟨g,off+1,none⟩=some (.int .i64 c.n):=(bV.cell (p:=⟨g,off+1,none⟩) hg).trans (by simpa using e1)
  have hlen:((rs.length:Int)==0)=false:=beq_eq_false_iff_ne.2 (by omega)
  have hl0:(0:Int)<rs.length:=by omega
  generalize rs.length=n at*
  generalize c.n=x at*
  have B:=hide bV
  clear hrow hs h1 ok hgd bV BV h0 hcell hck e1
  go_enter Tryz.func194,Tryz.ntmps194
  go_wp2_with fail
  refine HE.out.mono ?_
  rintro E w1 ⟨rfl,rfl⟩
  go_wp2_with fail
  go_quiet (fail)
  go_wp2
  refine bodyPost_ret (results_none rfl _ _ _) rfl ?_
  exact⟨⟨_,rfl⟩,below_drewN B.out _⟩
theorem ai0 (ps p q:Nat)(F:Nat→Prop)(w:World)(s:Sto.Ss)(h:SW ps p q F w s):
  Calls Tryz.prog 158 #[.pointer (some ⟨ps,0,none⟩)] w fun E w'=>E=.returned (.bool true)∧Below w.heap.size w w':=by
 have HC:=hide (alf ps p q F w s h)
 obtain⟨F1,G1,h1,⟨pm,bm,v,rs,hs,_⟩,_,ok,_⟩:=h
 have c0:=ai hs.blk 0 rfl
 simp only[List.getElem_toArray,List.getElem_cons_zero]at c0
 clear hs h1 ok
 go_enter Tryz.func158,Tryz.ntmps158
 go_wp2_with fail
 refine HC.out.mono ?_
 rintro E w1 ⟨⟨u,rfl⟩,b1⟩
 go_wp2
 go_ret
 exact⟨rfl,b1⟩
end Go.Proofs.YtmngcecomcadkaaGreatDoor
namespace Go.Proofs.YtmngcecomcadkaaGreatDoor
open Go.RowKit
open Bm (Ov)
set_option linter.unusedVariables false
theorem an4 {rs:List Cw}{k:Nat}{c:Cw}(h:rs[k]? =some c):ay (rs.take (k+1))=ay (rs.take k)++[c.c]:=by
 obtain⟨h1,h2⟩:=List.getElem?_eq_some_iff.1 h
 rw[List.take_succ_eq_append_getElem h1,h2]
 simp[ay]
theorem ar9 {l:List Cm.Cv}{c:Cm.Cv}(h:Cm.chk c.e c.n c.l=0):Tm.dC (Rl.tab l) c.l=Rl.tab (l++[c])∧Bm.first c.l=0:=by
 have h1:Bm.first c.l=0:=Bm.ry (Bm.dO (Cm.aO h).2.2.2.2).2.2
 unfold Tm.dC
 rw[if_pos h1,Rl.ann]
 exact⟨rfl,h1⟩
end Go.Proofs.YtmngcecomcadkaaGreatDoor
namespace Go.Proofs.YtmngcecomcadkaaGreatDoor
open Go.RowKit
open Bm (Ov)
set_option linter.unusedVariables false
theorem Tryz.apB:∀args w,(callFunc 35 args).run Tryz.prog w=.ok (.enter 35 args) w:=enters_of Tryz.func35 (by kernel_rfl) rfl
structure StP (ps p pm bm:Nat) (w:World) (l:List Cm.Cv) (v:Value) (rs:List Cw) (t:List Ov):Prop where
 blk:w.heap[ps]? =some (.cells #[.pointer (some ⟨p,0,none⟩),v,.pointer (some ⟨pm,0,none⟩)] 204 (0,0))
 rest:Rt 0 w l v rs
 tb:Tb pm bm w t
theorem Tb.bne {pm bm:Nat}{w:World}{t:List Ov}(h:Tb pm bm w t){g:Nat}{cs:Array Value}{ty:TypeId}{fr:Nat×Nat}(hg:w.heap[g]? =some (.cells cs ty fr)):g≠bm:=fun e=>by
 obtain⟨es,clock,hb,_⟩:=h.own
 rw[e,hb]at hg
 cases hg
theorem Tb.pne {pm bm:Nat}{w:World}{t:List Ov}(h:Tb pm bm w t){g:Nat}{cs:Array Value}{ty:TypeId}{fr:Nat×Nat}(hg:w.heap[g]? =some (.cells cs ty fr))(ht:ty≠235):g≠pm:=fun e=>by
 have:=h.blk
 rw[←e,hg]at this
 simp only[Option.some.injEq,Obj.cells.injEq]at this
 exact ht this.2.1
theorem arn {pm bm base:Nat}{w:World}{t:List Ov}{l:List Cm.Cv}{v:Value}{rs:List Cw}(h:Tb pm bm w t)(k:Rt base w l v rs):¬QB v rs pm∧¬QB v rs bm:=by
 refine⟨fun e=>?_,fun e=>?_⟩
 ·exact k.ne h.blk (by decide) (by decide) e
 ·obtain⟨cs,ty,hg,_⟩:=k.ty bm e
  exact h.bne hg rfl
theorem ahG {ps p pm bm:Nat}{w wc:World}{l:List Cm.Cv}{v:Value}{rs:List Cw}{c:Cw}(hv:wH ps p pm bm w l v rs)(hb:Below w.heap.size w wc)(hc:bg 111 w.heap.size wc c.v c.l)(hg:Cm.chk c.e c.n c.l=0)(hn:l.length+1≤1048576)(ty:TypeId):
  ∃V,wc.alloc (.cells #[.int .i64 c.e,.int .i64 c.n,c.v] 35)=V∧V.cell? ⟨ps,1,none⟩=some v∧∃v2 w2,(Builtin.append_ #[22,22] ty #[v,.slice (some ⟨wc.heap.size,0,none⟩) 1 1]).run Tryz.prog V=.ok v2 w2∧w2.cell? ⟨ps,1,none⟩=some v∧w2.frozen? ⟨ps,1,none⟩=false∧(∃a n k,v2=.slice a n k)∧
   StP ps p pm bm (w2.setCell ⟨ps,1,none⟩ v2) (l++[c.c]) v2 (rs++[c]) (Rl.tab l)∧Out (fun g=>g=ps∨v.ownBlock=some g) w (w2.setCell ⟨ps,1,none⟩ v2)∧∀g,QB v2 (rs++[c]) g→QB v rs g∨w.heap.size≤g:=by
 have hsz:=hb.size
 obtain⟨V,hV,jX,bf,jG⟩:=kC 35 wc #[.int .i64 c.e,.int .i64 c.n,c.v] 1 [c] rfl rfl (by simp[maxLen])
 have xg:=hb.trans (bf.mono hsz)
 have qV:=hv.rest.below xg
 have BV:=(xg.block ps (ax hv.blk)).trans hv.blk
 have hone:∀d∈[c],d.v.oneCell'=true:=fun d hd=>by rw[List.mem_singleton.1 hd];exact hc.is.one
 obtain⟨v2,w2,hr,aP,gT,at2⟩:=ky (P:=Tryz.prog) (w:=V) 22 ty 35 0 Tryz.underlying22 Tryz.oq v rs qV.row _ [c] jG.row hone (by have:=hv.rest.few;have:=hv.rest.len;simp;omega) (Nat.zero_le _)
 have kp:bH 35 V w2:=bH.xz qV.row gT
 have q2:=qV.grow aP kp ((hc.below bf).bu (Nat.zero_le _)) hg hn
 have hpn:¬v.ownBlock=some ps:=fun e=>qV.ne BV (by decide) (by decide) (.inl e)
 have B2:=(gT.block ps (ax BV) (fun e=>hpn e.symm)).trans BV
 obtain⟨X,hX,bX,gX,fX⟩:=ar0 B2 1 v2
 have qX:Rt 0 X (l++[c.c]) v2 (rs++[c]):=q2.agree fun g hg=>gX.block g (q2.lt g hg) fun e=>by
  simp at e
  exact q2.ne B2 (by decide) (by decide) (e▸hg)
 have oX:Out (fun g=>g=ps∨v.ownBlock=some g) w X:=((Out.of_below (F:=fun g=>g=ps∨v.ownBlock=some g) xg).trans (Out.aQ (F:=fun g=>g=ps∨v.ownBlock=some g) gT fun g hg=>.inr hg) fun g hg=>.inl hg).trans (Out.aQ (F:=fun g=>g=ps∨v.ownBlock=some g) gX fun g hg=>.inl (by simpa using hg.symm)) fun g hg=>.inl hg
 have tX:Tb pm bm X (Rl.tab l):=by
  obtain⟨t1,t2⟩:=arn hv.tb hv.rest
  refine hv.tb.agree (oX.block pm hv.tb.plt ?_) (oX.block bm hv.tb.blt ?_)
  ·rintro(e|e)
   ·exact hv.tb.pne hv.blk (by decide) e.symm
   ·exact t1 (.inl e)
  ·rintro(e|e)
   ·exact hv.tb.bne hv.blk e.symm
   ·exact t2 (.inl e)
 refine⟨V,hV,ai BV 1 rfl,v2,w2,hr,ai B2 1 rfl,fX,?_,?_⟩
 ·obtain⟨a1,k1,h1,_⟩:=aP.row.shape
  exact⟨a1,_,k1,h1⟩
 ·rw[hX]
  refine⟨⟨bX,qX,tX⟩,oX,?_⟩
  rintro g (e|⟨d,hd,e⟩)
  ·rcases at2 with h|h
   ·exact .inl (.inl (h▸e))
   ·rw[h]at e
    simp at e
    exact .inr (by omega)
  ·rcases List.mem_append.1 hd with hd|hd
   ·exact .inl (.inr ⟨d,hd,e⟩)
   ·rw[List.mem_singleton.1 hd]at e
    exact .inr (hc.block g e).1
def SkS (ps p:Nat) (G:Nat→Prop) (w w':World) (l':List Cm.Cv):Prop:=∃G',Sk ps p G' w' l'∧Out G w w'∧∀g,G' g→G g∨w.heap.size≤g
theorem SkS.pre {ps p:Nat}{G:Nat→Prop}{w w1 w2:World}{l:List Cm.Cv}(hb:Below w.heap.size w w1)(h:SkS ps p G w1 w2 l):SkS ps p G w w2 l:=by
 obtain⟨G',h1,h2,h3⟩:=h
 refine⟨G',h1,(Out.of_below (F:=G) hb).trans h2 fun g hg=>.inl hg,fun g hg=>?_⟩
 rcases h3 g hg with e|e
 ·exact .inl e
 ·exact .inr (Nat.le_trans hb.size e)
theorem SkS.sts {ps p q:Nat}{F1 G:Nat→Prop}{w w':World}{r:Rl.Rs}{l':List Cm.Cv}(h1:RW p q F1 w r)(hd:∀g,G g→¬F1 g)(h:SkS ps p G w w' l')(ok:Sto.Ok ⟨r,l'⟩):sO ps p q (fun g=>F1 g∨G g) w w' ⟨r,l'⟩:=by
 obtain⟨G',k1,k2,k3⟩:=h
 refine⟨_,⟨F1,G',h1.out k2 fun g hg e=>hd g e hg,k1,fun g hg hf=>?_,ok,rfl⟩,k2.mono fun g hg=>.inl (.inr hg),?_⟩
 ·rcases k3 g hg with e|e
  ·exact hd g e hf
  ·have:=h1.lt g hf
   omega
 ·rintro g (e|e)
  ·exact .inl (.inl e)
  ·exact(k3 g e).imp (fun e=>.inr e) id
theorem StP.done {ps p pm bm:Nat}{w0 w w':World}{l:List Cm.Cv}{v v2:Value}{rs:List Cw}{c:Cw}(h:StP ps p pm bm w (l++[c.c]) v2 (rs++[c]) (Rl.tab l))(ho:Out (fun g=>g=ps∨v.ownBlock=some g) w0 w)(hq:∀g,QB v2 (rs++[c]) g→QB v rs g∨w0.heap.size≤g)
  (ht:Tb pm bm w' (Rl.tab (l++[c.c]))) (o2:Out (fun g=>g=bm) w w'):SkS ps p (SB ps pm bm v rs) w0 w' (l++[c.c]):=by
 obtain⟨t1,t2⟩:=arn h.tb h.rest
 have hbk:w'.heap[ps]? =some (.cells #[.pointer (some ⟨p,0,none⟩),v2,.pointer (some ⟨pm,0,none⟩)] 204 (0,0)):=(o2.block ps (ax h.blk) (h.tb.bne h.blk)).trans h.blk
 have hre:Rt 0 w' (l++[c.c]) v2 (rs++[c]):=h.rest.out o2 fun g hg e=>t2 (e▸hg)
 have oA:Out (SB ps pm bm v rs) w0 w':=(ho.mono (G:=SB ps pm bm v rs) fun g hg=>.inl (hg.elim (fun e=>.inl e) fun e=>.inr (.inr (.inr (.inl e))))).trans o2 fun g hg=>.inl (.inr (.inr (.inl hg)))
 refine⟨_,⟨pm,bm,v2,rs++[c],⟨hbk,hre,ht⟩,rfl⟩,oA,?_⟩
 rintro g (e|e|e|e)
 ·exact .inl (.inl e)
 ·exact .inl (.inr (.inl e))
 ·exact .inl (.inr (.inr (.inl e)))
 ·exact(hq g e).imp (fun e=>.inr (.inr (.inr e))) id
theorem acU (ps p pm bm:Nat)(w:World)(l:List Cm.Cv)(v:Value)(rs:List Cw)(c:Cw)(hs:wH ps p pm bm w l v rs)(hi:dh w c.v c.l)(afh:Cm.chk c.e c.n c.l=0)(jN:0<c.l.length→∀b,c.v.ownBlock=some b→¬SB ps pm bm v rs b)(hn:l.length≤100000)(htl:(Rl.tab l).length≤l.length*8):
  Calls Tryz.prog 152 #[.pointer (some ⟨ps,0,none⟩),bK c.e c.n c.v] w fun E w'=>(∃u,E=.returned u)∧SkS ps p (SB ps pm bm v rs) w w' (l++[c.c]):=by
 obtain⟨f1,f2,f3,f4,f5⟩:=aso afh
 obtain⟨w1,hw1,aT,aj,hB⟩:=ak w #[.int .i64 c.e,.int .i64 c.n,c.v] 35
 have hs1:=hs.below aj
 have i1:=hi.below aj
 have c0:w1.cell? ⟨w.heap.size,0,none⟩=some (.int .i64 c.e):=ai hB 0 rfl
 have c1:w1.cell? ⟨w.heap.size,1,none⟩=some (.int .i64 c.n):=ai hB 1 rfl
 have c2:w1.cell? ⟨w.heap.size,2,none⟩=some c.v:=ai hB 2 rfl
 have hp1:ps<w1.heap.size:=ax hs1.blk
 have y1:w1.cell? ⟨ps,1,none⟩=some v:=ai hs1.blk 1 rfl
 obtain⟨ao,cap,hcv,_,_⟩:=hi.shape
 obtain⟨la,ln,lk,hlv⟩:∃a n k,v=.slice a n k:=by
  obtain⟨a1,k1,h1,_⟩:=hs.rest.row.row.shape
  exact⟨a1,_,k1,h1⟩
 have ax2:ps<w.heap.size:=ax hs.blk
 have X1:Hid (Calls Tryz.prog 35 #[.agg #[.int .i64 c.e,.int .i64 c.n,c.v]] w1.drew fun E w6=>∃v',E=.returned v'∧∃(vo:Value) (V:World),v'=.agg #[.int .i64 c.e,.int .i64 c.n,vo]∧(∃a n k,vo=.slice a n k)∧w6.cell? ⟨ps,1,none⟩=some v∧(w6.cell? ⟨w.heap.size,0,none⟩=some (.int .i64 c.e)∧w6.cell? ⟨w.heap.size,1,none⟩=some (.int .i64 c.n)∧w6.cell? ⟨w.heap.size,2,none⟩=some c.v)∧w6.alloc (.cells #[.int .i64 c.e,.int .i64 c.n,vo] 35)=V∧(V.cell? ⟨ps,1,none⟩=some v∧(V.cell? ⟨w.heap.size,0,none⟩=some (.int .i64 c.e)∧V.cell? ⟨w.heap.size,1,none⟩=some (.int .i64 c.n)∧V.cell? ⟨w.heap.size,2,none⟩=some c.v))∧
   Hid (∀ty,∃v2 w2,(Builtin.append_ #[22,22] ty #[v,.slice (some ⟨w6.heap.size,0,none⟩) 1 1]).run Tryz.prog V=.ok v2 w2∧((StP ps p pm bm (w2.setCell ⟨ps,1,none⟩ v2) (l++[c.c]) v2 (rs++[⟨c.e,c.n,vo,c.l⟩]) (Rl.tab l)∧Out (fun g=>g=ps∨v.ownBlock=some g) w1 (w2.setCell ⟨ps,1,none⟩ v2)∧∀g,QB v2 (rs++[⟨c.e,c.n,vo,c.l⟩]) g→QB v rs g∨w1.heap.size≤g)∧w2.cell? ⟨ps,1,none⟩=some v∧w2.frozen? ⟨ps,1,none⟩=false∧∃a n k,v2=.slice a n k))):=hide (by
  have:=oK c.e c.n c.v c.l w1.drew (i1.drewN 1) f2
  unfold bK at this
  refine this.mono ?_
  rintro E w6 ⟨vo,rfl,eT,eB⟩
  have b16:Below w1.heap.size w1 w6:=(Below.refl w1.heap.size w1).drew.trans eB
  obtain⟨V,hV,V2,_⟩:=ahG (c:=⟨c.e,c.n,vo,c.l⟩) hs1 b16 eT afh (by omega) 22
  have bf:Below w6.heap.size w6 V:=by rw[←hV];exact(Below.refl _ _).alloc (Nat.le_refl _) _
  have b1V:=b16.trans (bf.mono b16.size)
  obtain⟨a1,k1,h1,_⟩:=eT.is.shape
  refine⟨_,rfl,vo,V,rfl,⟨a1,_,k1,h1⟩,(b16.cell (p:=⟨ps,1,none⟩) hp1).trans y1,⟨(b16.cell (p:=⟨w.heap.size,0,none⟩) (show w.heap.size<w1.heap.size by omega)).trans c0,(b16.cell (p:=⟨w.heap.size,1,none⟩) (show w.heap.size<w1.heap.size by omega)).trans c1,(b16.cell (p:=⟨w.heap.size,2,none⟩) (show w.heap.size<w1.heap.size by omega)).trans c2⟩,hV,⟨V2,(b1V.cell (p:=⟨w.heap.size,0,none⟩) (show w.heap.size<w1.heap.size by omega)).trans c0,(b1V.cell (p:=⟨w.heap.size,1,none⟩) (show w.heap.size<w1.heap.size by omega)).trans c1,(b1V.cell (p:=⟨w.heap.size,2,none⟩) (show w.heap.size<w1.heap.size by omega)).trans c2⟩,hide fun ty=>?_⟩
  obtain⟨V',hV',V2',v2',w2',hr',q1',q2',q3',J⟩:=ahG (c:=⟨c.e,c.n,vo,c.l⟩) hs1 b16 eT afh (by omega) ty
  have eV:V'=V:=hV'.symm.trans hV
  subst eV
  exact⟨v2',w2',hr',J,q1',q2',q3'⟩)
 have hlt:=hs.lt
 have HH:=hide (And.intro hs1 (And.intro i1 (And.intro hB (And.intro aj hlt))))
 have HF:=hide (And.intro f1 (And.intro hn f5))
 have HCF:=hide jN
 unfold bK
 have qM:=hide hcv
 rw[hcv]at hw1 c2 X1⊢
 rw[hlv]at y1 X1
 have HLV:=hide hlv
 have hta:Tm.dC (Rl.tab l) c.l=Rl.tab (l++[c.c])∧Bm.first c.l=0:=ar9 (l:=l) (c:=c.c) afh
 have HTA:=hide hta
 have HTL:=hide htl
 have HSZ:=hide aT
 clear htl hs hi f1 f2 f3 f4 f5 hs1 i1 aj hB jN hcv hlv afh aT hlt hta hn hp1 ax2
 go_enter Tryz.func152,Tryz.ntmps152
 go_wp2_with fail
 go_region_law (first
  |(have ow:=XX;refine fo rfl (.tmp 8) (.tmp 11) 22 rfl (.slice la ln lk) (.slice (some ⟨w6.heap.size,0,none⟩) 1 1) (by first|(simp[Act.eval];done)|(simp[Act.eval,Act.put];done)) (by first|(simp[Act.eval];done)|(simp[Act.eval,Act.put];done)) XX.out ?_;rintro v8 w8 ⟨J,d8,g8,a8,n8,k8,rfl⟩;have J:=hide J)
  |(refine qf rfl 35 #[.tmp 9] #[35] rfl Tryz.apB #[.agg #[.int .i64 c.e,.int .i64 c.n,.slice ao c.l.length cap]] (by first|(simp[Act.eval];done)|(simp[Act.eval,Act.put];done)) X1.out ?_;rintro v6 w6 ⟨vo,V,rfl,⟨oa,on,ok,rfl⟩,z2,⟨b0,b1,b2⟩,hV,⟨z3,b3,b4,b5⟩,XX⟩))
 all_goals
  obtain⟨X,hX⟩:∃X,w8.setCell ⟨ps,1,none⟩ (.slice a8 n8 k8)=X:=⟨_,rfl⟩
  obtain⟨hs1,i1,hB,aj,hlt⟩:=HH.out
  have JJ:=J.out
  rw[hX]at JJ
  rw[←HLV.out]at JJ
  obtain⟨sp,ox,hq⟩:=JJ
  have x2:X.cell? ⟨ps,2,none⟩=some (.pointer (some ⟨pm,0,none⟩)):=ai sp.blk 2 rfl
  have hwne:¬(w.heap.size=ps∨v.ownBlock=some w.heap.size):=by
   rintro(e|e)
   ·have:=hlt ps (.inl rfl);omega
   ·have:=hlt w.heap.size (.inr (.inr (.inr (.inl e))));omega
  have hBX:=(ox.block w.heap.size (by have:=HSZ.out;omega) hwne).trans hB
  have xc:X.cell? ⟨w.heap.size,2,none⟩=some (.slice ao c.l.length cap):=by rw[←qM.out];exact ai hBX 2 rfl
  have iX:dh X c.v c.l:=i1.out ox fun hp b hb hf=>HCF.out hp b hb (by
   rcases hf with e|e
   ·exact .inl e
   ·exact .inr (.inr (.inr (.inl e))))
  have HA:=hide (aiJ pm bm X.drew _ c.v c.l (sp.tb.agree rfl rfl) (iX.drewN 1) HF.out.1 (by have h1:=HTL.out;have h2:=HF.out.2.1;have h3:=HF.out.2.2;omega))
  rw[HTA.out.1,HTA.out.2,qM.out]at HA
  have SP:=hide (And.intro sp (And.intro ox hq))
  have hpx:ps<X.heap.size:=ax sp.blk
  have hwx:w.heap.size<X.heap.size:=ax hBX
  have ax0:ps≠bm:=sp.tb.bne sp.blk
  have ayH:w.heap.size≠bm:=sp.tb.bne hBX
  clear sp ox hq hBX iX J hs1 i1 hB aj hlt hwne
  go_wp2_with fail
  go_region_held3 (fun w'=>w'.cell? ⟨ps,2,none⟩=some (.pointer (some ⟨pm,0,none⟩))∧w'.cell? ⟨w.heap.size,2,none⟩=some (.slice ao c.l.length cap)) (first|exact⟨x2,xc⟩|exact⟨u2,uc⟩|go_keep)
   (first
   |(go_at_call 192;refine HA.out.mono ?_;rintro E wz ⟨rfl,TZ,OZ'⟩;have OZ:Out (fun g=>g=bm) X wz:=((Out.refl _ X).drew 1).trans OZ' fun g hg=>.inl hg;have u2:=(jW (OZ.block ps hpx ax0) 2).trans x2;have uc:=(jW (OZ.block w.heap.size hwx ayH) 2).trans xc;have TZ:=hide TZ;have OZH:=hide OZ;clear OZ OZ'))
  obtain⟨hs1,i1,hB,aj,hlt⟩:=HH.out
  have FIN:=hide (SkS.pre aj (StP.done SP.out.1 SP.out.2.1 SP.out.2.2 TZ.out OZH.out))
  clear hs1 i1 hB aj hlt
  go_wp2
  go_end0
  exact⟨⟨_,rfl⟩,FIN.out⟩
theorem anp (ps p q:Nat)(F:Nat→Prop)(w:World)(s:Sto.Ss)(c:Cw)(h:SW ps p q F w s)(hi:dh w c.v c.l)(ok:Sto.Ok ⟨s.r,s.l++[c.c]⟩)(jN:0<c.l.length→∀b,c.v.ownBlock=some b→¬F b)(hn:s.l.length≤100000):
  Calls Tryz.prog 152 #[.pointer (some ⟨ps,0,none⟩),bK c.e c.n c.v] w fun E w'=>(∃u,E=.returned u)∧sO ps p q F w w' ⟨s.r,s.l++[c.c]⟩:=by
 obtain⟨F1,G1,h1,⟨pm,bm,v,rs,hs,rfl⟩,hd,ok0,rfl⟩:=h
 refine(acU ps p pm bm w s.l v rs c hs hi (Sto.iG ok.rest c.c (by simp)).1 (fun hp b hb hf=>jN hp b hb (.inr hf)) hn (Sto.agP ok0.rest)).mono ?_
 rintro E w' ⟨hu,hk⟩
 exact⟨hu,hk.sts h1 hd ok⟩
end Go.Proofs.YtmngcecomcadkaaGreatDoor
namespace Go.Proofs.YtmngcecomcadkaaGreatDoor
set_option linter.unusedVariables false
def T3 (d:Dm.Ds):Prop:=∃ss,Orp.Ris 0 ss∧Rst.hf 3 d=Orp.secs ss
theorem ara {d d':Dm.Ds}(h:T3 d)(e:Rst.hf 3 d'=Rst.hf 3 d):T3 d':=by
 obtain⟨ss,h1,h2⟩:=h
 exact⟨ss,h1,e.trans h2⟩
theorem avf:T3 Dm.new:=⟨[],trivial,rfl⟩
theorem ajW (f j:Nat)(hj:f≠j):∀(n:Nat) (st:Dm.Ds) (bs:List Int),Rst.hf j (Dm.wrt f n st bs).2=Rst.hf j st
 |0,st,bs=>rfl
 |n+1,st,bs=>by
  unfold Dm.wrt
  split
  ·rfl
  split
  ·rfl
  rw[ajW f j hj n,Rst.abv,if_neg hj]
theorem afx (d:Dm.Ds)(f:Int)(bs:List Int)(j:Nat)(hj:f.toNat≠j):Rst.hf j (Dm.write d f bs).2=Rst.hf j d:=by
 unfold Dm.write
 split
 ·rfl
 split
 ·rfl
 exact ajW _ _ hj _ _ _
theorem xZ (d:Dm.Ds)(j:Nat):Rst.hf j (Dm.sync d).2=Rst.hf j d:=by
 unfold Dm.sync
 split
 ·rfl
 split
 ·rfl
 show Dm.hold j (Dm.dof d.sure d.wait j) []=_
 rw[←Dm.jD]
 rfl
theorem ar1 (d:Dm.Ds)(f:Nat)(bs:List Int)(j:Nat)(hj:f≠j):Rst.hf j (Rst.ext d f bs).2=Rst.hf j d:=by
 have h1:=afx d f bs j (by simpa using hj)
 unfold Rst.ext
 split
 ·exact h1
 split
 ·exact(xZ _ j).trans h1
 ·exact(xZ _ j).trans h1
theorem ajJ (j:Nat)(hj:0≠j):∀(cs:List Cm.Cv) (d:Dm.Ds),Rst.hf j (Rst.wrs d cs).2=Rst.hf j d
 |[],d=>rfl
 |c::cs,d=>by
  have h1:=afx d 0 (Wl.fr c) j (by simpa using hj)
  unfold Rst.wrs
  split
  ·exact h1
  ·exact(ajJ j hj cs _).trans h1
theorem awx (d:Dm.Ds)(cs:List Cm.Cv)(j:Nat)(hj:0≠j):Rst.hf j (Rst.fD d cs).2=Rst.hf j d:=by
 have h1:=ajJ j hj cs d
 unfold Rst.fD
 split
 ·exact h1
 split
 ·exact(xZ _ j).trans h1
 ·exact(xZ _ j).trans h1
def Rz (n:Nat) (s:Rst.St):Prop:=Big (60000*n) (1000*n) s.d∧s.l.length≤2*n∧T3 s.d
theorem Rz.mono {n m:Nat}{s:Rst.St}(h:Rz n s)(hm:n≤m):Rz m s:=⟨h.1.mono (by omega) (by omega),by have:=h.2.1;omega,h.2.2⟩
theorem aoT {t u:Nat}{d:Dm.Ds}{bs:List Int}(f:Nat)(h:Big t u d)(hl:bs.length≤1000):Big (t+1000) (u+17) (Rst.ext d f bs).2:=by
 have hc:cnt bs.length≤16:=by unfold cnt;omega
 have h1:=ku h f bs
 have h2:=uW h1
 unfold Rst.ext
 split
 ·exact h1.mono (by omega) (by omega)
 ·split
  ·exact h2.mono (by omega) (by omega)
  ·exact h2.mono (by omega) (by omega)
theorem atl {n:Nat}{s:Rst.St}(h:Rz n s)(q:Pm.Pg):Rz (n+1) (Rst.dm s q).2:=by
 have hm:Rz (n+1) s:=h.mono (by omega)
 unfold Rst.dm
 split
 ·exact hm
 split
 ·exact hm
 rename_i hc
 split
 ·exact hm
 have hq:Pm.Ok q:=Pm.fM.1 (by simpa using hc)
 have hl:(Fm.bT (Pm.enc q)).length≤1000:=by
  have h1:=Pm.ab4 hq
  have h2:Vm.sz (Pm.enc q).length≤1:=Vm.nT 0 _ (by omega)
  rw[Fm.kJ]
  omega
 have hb:=aoT 1 h.1 hl
 have ht:=ara h.2.2 (ar1 s.d 1 (Fm.bT (Pm.enc q)) 3 (by omega))
 split
 ·exact⟨hb.mono (by omega) (by omega),by have:=h.2.1;show s.l.length≤_;omega,ht⟩
 ·exact⟨hb.mono (by omega) (by omega),by have:=h.2.1;show s.l.length≤_;omega,ht⟩
theorem ahF:∀(cs:List Cm.Cv) {t u:Nat} {d:Dm.Ds},Big t u d→(∀c∈cs,Cm.chk c.e c.n c.l=0)→Big (t+433*cs.length) (u+7*cs.length) (Rst.wrs d cs).2
 |[],t,u,d,h,_=>h.mono (by omega) (by omega)
 |c::cs,t,u,d,h,hc=>by
  have hf:=Wl.nN (c:=c) (hc c List.mem_cons_self)
  have hn:cnt (Wl.fr c).length≤7:=by unfold cnt;omega
  have h1:=ku h 0 (Wl.fr c)
  have h2:=ahF cs h1 fun x hx=>hc x (List.mem_cons_of_mem _ hx)
  unfold Rst.wrs
  split
  ·exact h1.mono (by rw[List.length_cons];omega) (by rw[List.length_cons];omega)
  ·exact h2.mono (by rw[List.length_cons];omega) (by rw[List.length_cons];omega)
end Go.Proofs.YtmngcecomcadkaaGreatDoor
namespace Go.Proofs.YtmngcecomcadkaaGreatDoor
open Go.RowKit
set_option linter.unusedVariables false
theorem WW.c0 {p q:Nat}{F:Nat→Prop}{w:World}{s:Wl.Ws}(h:WW p q F w s):w.cell? ⟨p,0,none⟩=some (.pointer (some ⟨q,0,none⟩)):=by
 obtain⟨F1,G1,h1,⟨vc,ve,rs,hv,rfl⟩,rfl⟩:=h
 exact ai hv.blk 0 rfl
theorem dD.c0 {p q:Nat}{F:Nat→Prop}{w w':World}{s:Wl.Ws}(h:dD p q F w w' s):w'.cell? ⟨p,0,none⟩=some (.pointer (some ⟨q,0,none⟩)):=by
 obtain⟨F',h,_,_⟩:=h
 exact h.c0
theorem aih (p q:Nat)(F:Nat→Prop)(w W:World)(s:Wl.Ws)(e:Int)(h:dD p q F w W s):
  Calls Tryz.prog 156 #[.pointer (some ⟨p,0,none⟩),.int .i64 e] W fun E w'=>E=.returned (.int .i64 e)∧dD p q F w w' ⟨s.d,s.l,e==6⟩:=by
 obtain⟨F1,h1,h2,h3⟩:=h
 refine(xh p q F1 W s e h1).mono ?_
 rintro E w' ⟨rfl,k⟩
 exact⟨rfl,dD.trans h2 h3 k⟩
theorem aio (p q:Nat)(F:Nat→Prop)(w:World)(s:Wl.Ws)(k:Nat)(h:WW p q F w s)(hk:k≤s.l.length):
  Calls Tryz.prog 226 #[.pointer (some ⟨p,2,none⟩),.int .i64 k] w fun E w'=>E=.returned (.tuple #[])∧dD p q F w w' ⟨s.d,s.l.take k,s.bk⟩:=by
 obtain⟨F1,G1,h1,⟨vc,ve,rs,hv,rfl⟩,rfl⟩:=h
 refine(akU 0 p 2 137 _ w s.l vc ve rs k hv.blk rfl rfl (by decide) (by decide) (by decide) hv.log hk).mono ?_
 rintro E w' ⟨rfl,rF,qW,hB,hL,hs,ho⟩
 refine⟨rfl,aks (N:=w.heap.size) h1 hv (by rw[hB];rfl) hL ho (fun g hg=>.inl (hs g hg)) (Nat.le_refl _)⟩
theorem anu (p q:Nat)(F:Nat→Prop)(w:World)(s:Wl.Ws)(tt:Int)(h:WW p q F w s)(hs:aeX s)(hin:Wl.ask s=false→(Wl.aR s.l).length≤(Wl.hld s.d).length):
  Calls Tryz.prog 203 #[.pointer (some ⟨p,0,none⟩),.int .i64 tt] w fun E w'=>E=.returned (.int .i64 (Wl.iM s tt).1)∧dD p q F w w' (Wl.iM s tt).2:=by
 have HR:=hide (qG p q F w s h)
 have HH:=hide h
 have hb:=hs.big
 cases ha:Wl.ask s with
 |true=>
  have e1:Wl.iM s tt=(6,Wl.brk s):=by unfold Wl.iM;rw[ha];rfl
  rw[e1]
  clear h hs hin e1 hb
  go_enter Tryz.func203,Tryz.ntmps203
  go_wp2_with fail
  refine HR.out.mono ?_
  rintro E w1 (⟨_,rfl,J⟩|⟨h0,_⟩)
  ·have J:=hide J
   go_wp2
   go_ret
   exact⟨rfl,J.out⟩
  ·rw[ha]at h0
   cases h0
 |false=>
  have hle:=hin ha
  have hgl:=eO h.good
  have aiZ:Hid (Calls Tryz.prog 87 #[.pointer (some ⟨p,2,none⟩)] w fun E w'=>E=.returned (.int .i64 s.l.length)∧w=w'):=hide (by
   obtain⟨F1,G1,h1,⟨vc,ve,rs,hv,rfl⟩,rfl⟩:=h
   have:=jC p 2 w vc rs (ai hv.blk 2 rfl) hv.log.r.row.row
   rw[hv.log.len]at this
   exact this)
  by_cases hneg:tt<0
  ·have e1:Wl.iM s tt=(2,s):=by unfold Wl.iM;rw[ha,if_neg (by decide),if_pos (.inl hneg)]
   rw[e1]
   clear h hs hin e1 hb hle aiZ
   go_enter Tryz.func203,Tryz.ntmps203
   go_wp2_with fail
   refine HR.out.mono ?_
   rintro E w1 (⟨h0,_⟩|⟨_,rfl,rfl⟩)
   ·rw[ha]at h0
    cases h0
   go_wp2
   go_ret
   exact⟨rfl,dD.same HH.out (Below.refl _ _)⟩
  ·by_cases hbig:(s.l.length:Int)<tt
   ·have e1:Wl.iM s tt=(2,s):=by unfold Wl.iM;rw[ha,if_neg (by decide),if_pos (.inr hbig)]
    rw[e1]
    clear h hs hin e1 hb hle
    go_enter Tryz.func203,Tryz.ntmps203
    go_wp2_with fail
    refine HR.out.mono ?_
    rintro E w1 (⟨h0,_⟩|⟨_,rfl,rfl⟩)
    ·rw[ha]at h0
     cases h0
    clear HR
    go_wp2_with fail
    refine aiZ.out.mono ?_
    rintro E w1 ⟨rfl,rfl⟩
    go_wp2
    go_ret
    exact⟨rfl,dD.same HH.out (Below.refl _ _)⟩
   ·obtain⟨k,rfl⟩:∃k:Nat,tt=k:=⟨tt.toNat,by omega⟩
    have hk:k≤s.l.length:=by omega
    have au6:(Wl.aR (s.l.take k)).length≤(Wl.hld s.d).length:=Nat.le_trans (agk _ _) hle
    have hon:s.d.on=true:=by
     unfold Wl.ask at ha
     revert ha
     cases s.bk<;>cases s.d.on<;>simp
    have e01:=axC hon au6
    have e1:Wl.iM s k=if (Dm.cK s.d 0 (Wl.aR (s.l.take k)).length).1≠0 then((Dm.cK s.d 0 (Wl.aR (s.l.take k)).length).1,⟨(Dm.cK s.d 0 (Wl.aR (s.l.take k)).length).2,s.l,true⟩)else(0,⟨(Dm.cK s.d 0 (Wl.aR (s.l.take k)).length).2,s.l.take k,false⟩):=by
     unfold Wl.iM
     rw[ha,if_neg (by decide),if_neg (by omega)]
     rfl
    have HP:Hid (∀W,Below w.heap.size w W→Calls Tryz.prog 187 #[.pointer (some ⟨p,2,none⟩),.int .i64 k] W fun E w'=>E=.returned (.int .i64 (Wl.aR (s.l.take k)).length)∧W=w'):=hide fun W hW=>by
     obtain⟨F1,G1,h1,⟨vc,ve,rs,hv,rfl⟩,rfl⟩:=h
     exact uY p 2 W ve s.l k hk hgl (ai ((hW.block p (ax hv.blk)).trans hv.blk) 3 rfl) (hv.log.r.en.is.below hW)
    have HC:Hid (∀W,Below w.heap.size w W→Calls Tryz.prog 145 #[.pointer (some ⟨q,0,none⟩),.int .i64 0,.int .i64 (Wl.aR (s.l.take k)).length] W fun E w'=>E=.returned (.int .i64 (Dm.cK s.d 0 (Wl.aR (s.l.take k)).length).1)∧dD p q F w w' ⟨(Dm.cK s.d 0 (Wl.aR (s.l.take k)).length).2,s.l,s.bk⟩∧w'.cell? ⟨p,0,none⟩=some (.pointer (some ⟨q,0,none⟩))):=hide fun W hW=>by
     have hWW:=h.below hW
     obtain⟨F1,G1,h1,h2,hF⟩:=id hWW
     refine(ahc q F1 W s.d 0 _ h1 (fun f=>Nat.le_trans (hb.1.1 f) (by decide)) (Nat.le_trans hb.1.2.1 (by decide)) hb.2 (Nat.lt_of_le_of_lt hb.1.2.2 (by decide))).mono ?_
     rintro E w' ⟨rfl,PS⟩
     have ST:dD p q F W w' ⟨(Dm.cK s.d 0 (Wl.aR (s.l.take k)).length).2,s.l,s.bk⟩:=by
      obtain⟨F2,k1,k2,k3,k4⟩:=WW.disk h1 h2 PS
      rw[hF]
      refine⟨_,⟨F2,G1,k1,k2,rfl⟩,k3.mono fun g hg=>.inl (.inl hg),?_⟩
      rintro g (e|e)
      ·rcases k4 g e with e|e
       ·exact .inl (.inl e)
       ·exact .inr e
      ·exact .inl (.inr e)
     have:=dD.pre hW ST
     exact⟨rfl,this,this.c0⟩
    have HHE:Hid (∀W x st,dD p q F w W ⟨st,s.l,s.bk⟩→Calls Tryz.prog 156 #[.pointer (some ⟨p,0,none⟩),.int .i64 x] W fun E w'=>E=.returned (.int .i64 x)∧dD p q F w w' ⟨st,s.l,x==6⟩∧w'.cell? ⟨p,0,none⟩=some (.pointer (some ⟨q,0,none⟩))):=hide fun W x st hW=>by
     refine(aih p q F w W _ x hW).mono ?_
     rintro E w' ⟨rfl,k⟩
     exact⟨rfl,k,k.c0⟩
    have HT:Hid (∀W st,dD p q F w W ⟨st,s.l,false⟩→Calls Tryz.prog 226 #[.pointer (some ⟨p,2,none⟩),.int .i64 k] W fun E w'=>E=.returned (.tuple #[])∧dD p q F w w' ⟨st,s.l.take k,false⟩):=hide fun W st hW=>by
     obtain⟨F1,h1,h2,h3⟩:=hW
     refine(aio p q F1 W _ k h1 hk).mono ?_
     rintro E w' ⟨rfl,kk⟩
     exact⟨rfl,dD.trans h2 h3 kk⟩
    have p0:=h.c0
    generalize (Dm.cK s.d 0 (Wl.aR (s.l.take k)).length)=y at*
    obtain⟨x,d'⟩:=y
    simp only at*
    have E1:=hide e1
    have hk':¬((s.l.length:Int)<(k:Int)):=by omega
    clear h hs hin hb hle e1 au6 hon hgl
    go_enter Tryz.func203,Tryz.ntmps203
    go_wp2_with fail
    refine HR.out.mono ?_
    rintro E w1 (⟨h0,_⟩|⟨_,rfl,rfl⟩)
    ·rw[ha]at h0
     cases h0
    clear HR
    go_wp2_with fail
    refine aiZ.out.mono ?_
    rintro E w1 ⟨rfl,rfl⟩
    clear aiZ
    go_wp2_with fail
    go_region_held3 (fun w'=>w'.cell? ⟨p,0,none⟩=some (.pointer (some ⟨q,0,none⟩))) (first|exact p0|exact p1|exact p2|go_keep)
     (first
     |(go_at_call 187;refine(HP.out _ ((Below.refl _ _).drew)).mono ?_;rintro E w2 ⟨rfl,rfl⟩)
     |(go_at_call 145;refine(HC.out _ ((Below.refl _ _).drew)).mono ?_;rintro E w3 ⟨rfl,J3,p1⟩;have J3:=hide J3)
     |(go_at_call 156;refine(HHE.out _ _ _ J3.out).mono ?_;rintro E w4 ⟨rfl,J4,p2⟩;have J4:=hide J4))
    all_goals
     clear HP HC HHE
     rcases e01 with rfl|rfl
     ·have A7:Hid (Wl.iM s k=(0,⟨d',s.l.take k,false⟩)):=hide (by rw[E1.out];simp)
      have HT2:=hide (HT.out _ _ J4.out)
      clear E1 HT J3
      go_wp2_with fail
      refine HT2.out.mono ?_
      rintro E w5 ⟨rfl,J5⟩
      have J5:=hide J5
      go_wp2
      go_ret
      exact⟨by rw[A7.out];rfl,by rw[A7.out];exact J5.out⟩
     ·have A7:Hid (Wl.iM s k=(6,⟨d',s.l,true⟩)):=hide (by rw[E1.out];simp)
      clear E1 HT J3
      go_wp2
      go_ret
      exact⟨by rw[A7.out];rfl,by rw[A7.out];exact J4.out⟩
end Go.Proofs.YtmngcecomcadkaaGreatDoor
