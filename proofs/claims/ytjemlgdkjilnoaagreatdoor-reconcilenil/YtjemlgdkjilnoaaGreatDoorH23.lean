/- Texts of one layer, one behind the other. -/
import Derived.Test.YtjemlgdkjilnoaaGreatDoorM2
import Derived.Test.YtjemlgdkjilnoaaGreatDoorH16
import Derived.Test.YtjemlgdkjilnoaaGreatDoorH20
import Derived.Test.YtjemlgdkjilnoaaGreatDoorH19
import Derived.Test.YtjemlgdkjilnoaaGreatDoorH4
import Derived.Deep.RegionHeld3
import Derived.Test.YtjemlgdkjilnoaaGreatDoorH15
import Derived.Test.YtjemlgdkjilnoaaGreatDoorH1
import Derived.Test.YtjemlgdkjilnoaaGreatDoorH10
import Derived.Test.YtjemlgdkjilnoaaGreatDoorH2
import Derived.Deep.RegionLaw
set_option maxRecDepth 100000
set_option maxHeartbeats 8000000
namespace Go.Proofs.YtjemlgdkjilnoaaGreatDoor
open Go.RowKit
open Bm (Ov)
set_option linter.unusedVariables false
theorem aro {e n:Int}{l:List Ov}(h:Cm.chk e n l=0):iR l∧l.length*40≤140737488351232∧In64 e∧In64 n∧l.length≤8:=by
 obtain⟨h1,h2,h3,h4,h5⟩:=Cm.aQ h
 obtain⟨k1,k2,k3⟩:=Bm.dI h5
 refine⟨fun o ho=>?_,by omega,⟨by omega,by omega⟩,⟨by omega,by omega⟩,k2⟩
 obtain⟨_,k2,k3,_⟩:=Om.iJ (k3 o ho)
 have e1:o.k.size=o.k.data.toList.length:=rfl
 have e2:o.v.size=o.v.data.toList.length:=rfl
 have e3:o.kl=o.k.data.toList:=rfl
 have e4:o.vl=o.v.data.toList:=rfl
 rw[e3]at k2
 rw[e4]at k3
 omega
structure Rt (base:Nat) (w:World) (l:List Cm.Cv) (v:Value) (rs:List Cw):Prop where
 row:bD 65 base w v rs
 kN:dZ base w rs
 is:az rs=l
 good:∀c∈l,Cm.chk c.e c.n c.l=0
 few:l.length≤1048576
section
variable {base base':Nat} {w w':World} {l:List Cm.Cv} {v:Value} {rs:List Cw} {F G:Nat→Prop}
theorem Rt.nil (base:Nat)(w:World):Rt base w [] (.slice none 0 0) []:=⟨bD.nil _ _ _,fun c hc=>by simp at hc,rfl,fun c hc=>by simp at hc,by simp⟩
theorem Rt.ty (h:Rt base w l v rs):∀g,QB v rs g→∃cs t,w.heap[g]? =some (.cells cs t (0,0))∧(t=65∨t=92):=by
 rintro g (hb|⟨c,hc,hb⟩)
 ·obtain⟨cs,e⟩:=h.row.type hb
  exact⟨_,_,e,.inl rfl⟩
 ·obtain⟨cs,e⟩:=(h.kN c hc).type hb
  exact⟨_,_,e,.inr rfl⟩
theorem Rt.lt (h:Rt base w l v rs):∀g,QB v rs g→g<w.heap.size:=fun g hg=>by
 obtain⟨cs,t,e,_⟩:=h.ty g hg
 exact ax e
theorem Rt.agree (h:Rt base w l v rs)(ha:∀g,QB v rs g→w'.heap[g]? =w.heap[g]?):Rt base w' l v rs:=
 ⟨dm h.row fun b hb=>ha b (.inl hb),fun c hc=>dm (h.kN c hc) fun b hb=>ha b (.inr ⟨c,hc,hb⟩),h.is,h.good,h.few⟩
theorem Rt.below (h:Rt base w l v rs)(hb:Below w.heap.size w w'):Rt base w' l v rs:=h.agree fun g hg=>hb.block g (h.lt g hg)
theorem Rt.out (h:Rt base w l v rs)(ho:Out F w w')(hd:∀g,QB v rs g→¬F g):Rt base w' l v rs:=h.agree fun g hg=>ho.block g (h.lt g hg) (hd g hg)
theorem Rt.ne (h:Rt base w l v rs){b:Nat}{cs:Array Value}{t:TypeId}{fr:Nat×Nat}(hb:w.heap[b]? =some (.cells cs t fr))(h1:t≠65)(h3:t≠92):¬QB v rs b:=by
 intro hg
 obtain⟨cs',t',e,ht⟩:=h.ty b hg
 rw[hb]at e
 simp only[Option.some.injEq,Obj.cells.injEq]at e
 obtain⟨_,e2,_⟩:=e
 subst e2
 rcases ht with e|e
 ·exact h1 e
 ·exact h3 e
theorem Rt.len (h:Rt base w l v rs):rs.length=l.length:=by rw[←h.is,az,List.length_map]
theorem Rt.grow {v':Value}{c:Cw}(h:Rt base w l v rs)(ho:bD 65 base w' v' (rs++[c]))(hk:bK 65 w w')(hc:bz 92 base w c.v c.l)(hg:Cm.chk c.e c.n c.l=0)(hn:l.length+1≤1048576):Rt base w' (l++[c.c]) v' (rs++[c]):=by
 refine⟨ho,fun d hd=>?_,by unfold az;rw[List.map_append,←h.is];rfl,fun d hd=>?_,by rw[List.length_append,List.length_singleton];exact hn⟩
 ·rcases List.mem_append.1 hd with hd|hd
  ·exact(h.kN d hd).iN hk (by decide)
  ·rw[List.mem_singleton.1 hd]
   exact hc.iN hk (by decide)
 ·rcases List.mem_append.1 hd with hd|hd
  ·exact h.good d hd
  ·rw[List.mem_singleton.1 hd]
   exact hg
end
structure xC (ps p pm bm:Nat) (w:World) (l:List Cm.Cv) (v:Value) (rs:List Cw):Prop where
 blk:w.heap[ps]? =some (.cells #[.pointer (some ⟨p,0,none⟩),v,.pointer (some ⟨pm,0,none⟩)] 186 (0,0))
 rest:Rt 0 w l v rs
 tb:Tb pm bm w (Rl.tab l)
def SB (ps pm bm:Nat) (v:Value) (rs:List Cw) (g:Nat):Prop:=g=ps∨g=pm∨g=bm∨QB v rs g
def Sk (ps p:Nat) (G:Nat→Prop) (w:World) (l:List Cm.Cv):Prop:=∃pm bm v rs,xC ps p pm bm w l v rs∧G=SB ps pm bm v rs
section
variable {ps p pm bm q:Nat} {w w' w1 w2:World} {l:List Cm.Cv} {v:Value} {rs:List Cw} {F G F1:Nat→Prop}
theorem xC.lt (h:xC ps p pm bm w l v rs):∀g,SB ps pm bm v rs g→g<w.heap.size:=by
 rintro g (rfl|rfl|rfl|hg)
 ·exact ax h.blk
 ·exact h.tb.plt
 ·exact h.tb.blt
 ·exact h.rest.lt g hg
theorem xC.agree (h:xC ps p pm bm w l v rs)(ha:∀g,SB ps pm bm v rs g→w'.heap[g]? =w.heap[g]?):xC ps p pm bm w' l v rs:=
 ⟨(ha ps (.inl rfl)).trans h.blk,h.rest.agree fun g hg=>ha g (.inr (.inr (.inr hg))),h.tb.agree (ha pm (.inr (.inl rfl))) (ha bm (.inr (.inr (.inl rfl))))⟩
theorem xC.below (h:xC ps p pm bm w l v rs)(hb:Below w.heap.size w w'):xC ps p pm bm w' l v rs:=h.agree fun g hg=>hb.block g (h.lt g hg)
theorem Sk.lt (h:Sk ps p G w l):∀g,G g→g<w.heap.size:=by
 obtain⟨pm,bm,v,rs,h,rfl⟩:=h
 exact h.lt
theorem Sk.agree (h:Sk ps p G w l)(ha:∀g,G g→w'.heap[g]? =w.heap[g]?):Sk ps p G w' l:=by
 obtain⟨pm,bm,v,rs,h,rfl⟩:=h
 exact⟨pm,bm,v,rs,h.agree ha,rfl⟩
theorem Sk.below (h:Sk ps p G w l)(hb:Below w.heap.size w w'):Sk ps p G w' l:=h.agree fun g hg=>hb.block g (h.lt g hg)
theorem Sk.out (h:Sk ps p G w l)(ho:Out F w w')(hd:∀g,G g→¬F g):Sk ps p G w' l:=h.agree fun g hg=>ho.block g (h.lt g hg) (hd g hg)
end
def SW (ps p q:Nat) (F:Nat→Prop) (w:World) (s:Sto.Ss):Prop:=∃F1 G1,RW p q F1 w s.r∧Sk ps p G1 w s.l∧(∀g,G1 g→¬F1 g)∧Sto.Ok s∧F=fun g=>F1 g∨G1 g
def tH (ps p q:Nat) (F:Nat→Prop) (w w':World) (s':Sto.Ss):Prop:=∃F',SW ps p q F' w' s'∧Out F w w'∧∀g,F' g→F g∨w.heap.size≤g
section
variable {ps p q:Nat} {F G:Nat→Prop} {w w' w1 w2:World} {s s':Sto.Ss}
theorem SW.lt (h:SW ps p q F w s):∀g,F g→g<w.heap.size:=by
 obtain⟨F1,G1,h1,h2,_,_,rfl⟩:=h
 rintro g (hg|hg)
 ·exact h1.lt g hg
 ·exact h2.lt g hg
theorem SW.agree (h:SW ps p q F w s)(ha:∀g,F g→w'.heap[g]? =w.heap[g]?):SW ps p q F w' s:=by
 obtain⟨F1,G1,h1,h2,h3,h4,rfl⟩:=h
 exact⟨F1,G1,h1.agree fun g hg=>ha g (.inl hg),h2.agree fun g hg=>ha g (.inr hg),h3,h4,rfl⟩
theorem SW.below (h:SW ps p q F w s)(hb:Below w.heap.size w w'):SW ps p q F w' s:=h.agree fun g hg=>hb.block g (h.lt g hg)
theorem SW.ok (h:SW ps p q F w s):Sto.Ok s:=by
 obtain⟨F1,G1,h1,h2,h3,h4,rfl⟩:=h
 exact h4
theorem tH.trans {F1:Nat→Prop}(ho:Out F w w1)(hs:∀g,F1 g→F g∨w.heap.size≤g)(k:tH ps p q F1 w1 w2 s'):tH ps p q F w w2 s':=by
 obtain⟨F2,h1,h2,h3⟩:=k
 refine⟨F2,h1,ho.trans h2 hs,fun g hg=>?_⟩
 rcases h3 g hg with h|h
 ·exact hs g h
 ·exact .inr (Nat.le_trans ho.size h)
theorem tH.same (h:SW ps p q F w s)(hb:Below w.heap.size w w'):tH ps p q F w w' s:=⟨F,h.below hb,Out.of_below hb,fun g hg=>.inl hg⟩
theorem tH.pre (hb:Below w.heap.size w w1)(h:tH ps p q F w1 w2 s'):tH ps p q F w w2 s':=h.trans (Out.of_below hb) fun g hg=>.inl hg
end
end Go.Proofs.YtjemlgdkjilnoaaGreatDoor
namespace Go.Proofs.YtjemlgdkjilnoaaGreatDoor
open Go.RowKit
open Bm (Ov)
set_option linter.unusedVariables false
theorem anR (w:World)(t:TypeId)(x a:Value):∃V,(w.alloc (.cells #[x] t)).setCell ⟨w.heap.size,0,none⟩ a=V∧w.alloc (.cells #[a] t)=V∧V.heap.size=w.heap.size+1∧Below w.heap.size w V∧V.heap[w.heap.size]? =some (.cells #[a] t (0,0))∧V.cell? ⟨w.heap.size,0,none⟩=some a:=by
 obtain⟨V,hV,sz,aG,hB⟩:=ak w #[a] t
 refine⟨V,?_,hV,sz,aG,hB,ai hB 0 rfl⟩
 rw[←hV]
 simp[go_sem]
theorem ai4 {l:List Cm.Cv}{k:Nat}{c:Cm.Cv}(hk:l[k]? =some c)(hl:l.length=k+1)(e:Int):Cm.lastE e l=c.e:=by
 rcases List.eq_nil_or_concat l with rfl|⟨r,d,rfl⟩
 ·simp at hk
 ·rw[List.concat_eq_append]at hk hl⊢
  rw[List.length_append,List.length_singleton]at hl
  obtain rfl:r.length=k:=by omega
  rw[(Cm.iI r d e 0).1]
  simp at hk
  rw[hk]
theorem an6 (ps p q:Nat)(F:Nat→Prop)(w:World)(s:Sto.Ss)(h:SW ps p q F w s):
  Calls Tryz.prog 161 #[.pointer (some ⟨ps,0,none⟩)] w fun E w'=>E=.returned (.int .i64 (Sto.fin s))∧∃m,w'=w.drewN m:=by
 obtain⟨F1,G1,h1,⟨pm,bm,v,rs,hs,_⟩,_,ok,_⟩:=h
 have HE:Hid (∀m,Calls Tryz.prog 84 #[.pointer (some ⟨p,0,none⟩)] (w.drewN m) fun E w'=>E=.returned (.int .i64 (Cm.lastN 0 s.r.l))∧∃q,w'=(w.drewN m).drewN q):=hide fun m=>
  (l8 p q F1 (w.drewN m) s.r (h1.below (below_drewN (Below.refl _ _) m))).mono fun E w' h=>⟨h.1,0,by rw[←h.2];rfl⟩
 have c0:=ai hs.blk 0 rfl
 have c1:=ai hs.blk 1 rfl
 simp only[List.getElem_toArray,List.getElem_cons_zero,List.getElem_cons_succ]at c0 c1
 obtain⟨ao,cap,hv,_,_⟩:=hs.rest.row.row.shape
 obtain⟨b1,b2,b3,b4⟩:=ok.bound
 have hl:=hs.rest.len
 unfold Sto.fin
 rw[hl]at hv
 have hw:IntKind.i64.wrap (Cm.lastN 0 s.r.l+(s.l.length:Int))=Cm.lastN 0 s.r.l+(s.l.length:Int):=aX _ (by omega) (by omega)
 generalize Cm.lastN 0 s.r.l=z at*
 generalize s.l.length=n at*
 subst hv
 clear hs h1 ok hl
 go_enter Tryz.func161,Tryz.ntmps161
 go_wp2_with fail
 go_quiet ((go_at_call 84;refine Calls.quiet_of (HE.out _)))
 go_wp2
 go_ret
 exact⟨rfl,_,rfl⟩
theorem amF (ps p q:Nat)(F:Nat→Prop)(w:World)(s:Sto.Ss)(h:SW ps p q F w s):
  Calls Tryz.prog 160 #[.pointer (some ⟨ps,0,none⟩)] w fun E w'=>E=.returned (.int .i64 (Cm.lastE 1 s.l))∧∃m,w'=w.drewN m:=by
 obtain⟨F1,G1,h1,⟨pm,bm,v,rs,hs,_⟩,_,ok,_⟩:=h
 have c1:=ai hs.blk 1 rfl
 simp only[List.getElem_toArray,List.getElem_cons_zero,List.getElem_cons_succ]at c1
 have an0:=hs.rest.few
 rw[←hs.rest.len]at an0
 rw[←hs.rest.is]
 have h:=hs.rest.row.row
 by_cases h0:rs.length=0
 ·have hr:rs=[]:=List.eq_nil_of_length_eq_zero h0
  subst hr
  obtain⟨ao,cap,rfl,_,_⟩:=h.shape
  clear h hs h1 ok
  go_enter Tryz.func160,Tryz.ntmps160
  go_wp2
  go_ret
  exact⟨rfl,0,rfl⟩
 ·obtain⟨k,hk⟩:∃k,rs.length=k+1:=⟨rs.length-1,by omega⟩
  obtain⟨g,off,cap,rfl,_,_,_,hcell⟩:=h.full (by omega)
  obtain⟨c,hck⟩:∃c,rs[k]? =some c:=⟨rs[k]'(by omega),by rw[List.getElem?_eq_getElem]⟩
  obtain⟨d0,_,_⟩:=hcell k c hck
  have hL:Cm.lastE 1 (az rs)=c.e:=ai4 (k:=k) (c:=c.c) (by unfold az;rw[List.getElem?_map,hck];rfl) (by unfold az;rw[List.length_map];exact hk) 1
  rw[hL]
  rw[hk]at c1
  have hne:(((k+1:Nat):Int)==0)=false:=by simp;omega
  have hw:IntKind.i64.wrap (((k+1:Nat):Int)-1)=(k:Int):=by rw[aX _ (by omega) (by omega)];omega
  have hk1:(k:Int)<((k+1:Nat):Int):=by omega
  have hk0:(0:Int)≤(k:Int):=by omega
  have hw2:IntKind.i64.wrap (k:Int)=(k:Int):=aX _ (by omega) (by omega)
  have hk2:(k:Int)<(k:Int)+1:=by omega
  generalize c.e=z at*
  clear h hs h1 ok hcell hck hL hk an0 h0
  go_enter Tryz.func160,Tryz.ntmps160
  go_wp2
  go_region
  go_wp2
  go_ret
  exact⟨rfl,1,rfl⟩
theorem akz (ps p q:Nat)(F:Nat→Prop)(w:World)(s:Sto.Ss)(h:SW ps p q F w s):
  Calls Tryz.prog 196 #[.pointer (some ⟨ps,0,none⟩)] w fun E w'=>(∃u,E=.returned u)∧Below w.heap.size w w':=by
 obtain⟨F1,G1,h1,⟨pm,bm,v,rs,hs,_⟩,_,ok,_⟩:=h
 have HE:=hide (l8 p q F1 w s.r h1)
 have c0:=ai hs.blk 0 rfl
 have an0:=hs.rest.few
 have hrow:=hs.rest.row.row
 obtain⟨V,hV1,hV,kg,bV,BV,cV⟩:=anR w 3 (.int .i64 0) (.int .i64 (Cm.lastN 0 s.r.l))
 have d1:=ai (hs.below bV).blk 1 rfl
 simp only[List.getElem_toArray,List.getElem_cons_zero,List.getElem_cons_succ]at c0 d1
 have hgd:=ok.rest
 rw[←hs.rest.is]at hgd
 generalize Cm.lastN 0 s.r.l=z at*
 by_cases h0:rs.length=0
 ·have hr:rs=[]:=List.eq_nil_of_length_eq_zero h0
  subst hr
  obtain⟨ao,cap,rfl,_,_⟩:=hrow.shape
  have B:=hide bV
  clear hrow hs h1 ok hgd bV BV h0
  go_enter Tryz.func196,Tryz.ntmps196
  go_wp2_with fail
  refine HE.out.mono ?_
  rintro E w1 ⟨rfl,rfl⟩
  go_wp2_with fail
  go_quiet (fail)
  go_wp2
  refine bodyPost_ret (results_none rfl _ _ _) rfl ?_
  exact⟨⟨_,rfl⟩,below_drewN B.out _⟩
 ·obtain⟨c,hck⟩:∃c,rs[0]? =some c:=⟨rs[0]'(by omega),by rw[List.getElem?_eq_getElem]⟩
  obtain⟨g,off,cap,rfl,_,_,hg,hcell⟩:=hrow.full (by omega)
  obtain⟨_,e1,_⟩:=hcell 0 c hck
  have hn:z<c.n:=by
   obtain⟨_,h2,_,_⟩:=Cm.nk _ _ _ 0 c.c hgd (by unfold az;rw[List.getElem?_map,hck];rfl)
   have:c.c.n=c.n:=rfl
   omega
  have e1':V.cell? ⟨g,off+1,none⟩=some (.int .i64 c.n):=(bV.cell (p:=⟨g,off+1,none⟩) hg).trans (by simpa using e1)
  have hlen:((rs.length:Int)==0)=false:=beq_eq_false_iff_ne.2 (by omega)
  have hl0:(0:Int)<rs.length:=by omega
  generalize rs.length=n at*
  generalize c.n=x at*
  have B:=hide bV
  clear hrow hs h1 ok hgd bV BV h0 hcell hck e1
  go_enter Tryz.func196,Tryz.ntmps196
  go_wp2_with fail
  refine HE.out.mono ?_
  rintro E w1 ⟨rfl,rfl⟩
  go_wp2_with fail
  go_quiet (fail)
  go_wp2
  refine bodyPost_ret (results_none rfl _ _ _) rfl ?_
  exact⟨⟨_,rfl⟩,below_drewN B.out _⟩
theorem aiq (ps p q:Nat)(F:Nat→Prop)(w:World)(s:Sto.Ss)(h:SW ps p q F w s):
  Calls Tryz.prog 159 #[.pointer (some ⟨ps,0,none⟩)] w fun E w'=>E=.returned (.bool true)∧Below w.heap.size w w':=by
 have HC:=hide (akz ps p q F w s h)
 obtain⟨F1,G1,h1,⟨pm,bm,v,rs,hs,_⟩,_,ok,_⟩:=h
 have c0:=ai hs.blk 0 rfl
 simp only[List.getElem_toArray,List.getElem_cons_zero]at c0
 clear hs h1 ok
 go_enter Tryz.func159,Tryz.ntmps159
 go_wp2_with fail
 refine HC.out.mono ?_
 rintro E w1 ⟨⟨u,rfl⟩,b1⟩
 go_wp2
 go_ret
 exact⟨rfl,b1⟩
end Go.Proofs.YtjemlgdkjilnoaaGreatDoor
namespace Go.Proofs.YtjemlgdkjilnoaaGreatDoor
open Go.RowKit
open Bm (Ov)
set_option linter.unusedVariables false
theorem anh {rs:List Cw}{k:Nat}{c:Cw}(h:rs[k]? =some c):az (rs.take (k+1))=az (rs.take k)++[c.c]:=by
 obtain⟨h1,h2⟩:=List.getElem?_eq_some_iff.1 h
 rw[List.take_succ_eq_append_getElem h1,h2]
 simp[az]
theorem asv {l:List Cm.Cv}{c:Cm.Cv}(h:Cm.chk c.e c.n c.l=0):Tm.dw (Rl.tab l) c.l=Rl.tab (l++[c])∧Bm.first c.l=0:=by
 have h1:Bm.first c.l=0:=Bm.rG (Bm.dI (Cm.aQ h).2.2.2.2).2.2
 unfold Tm.dw
 rw[if_pos h1,Rl.anM]
 exact⟨rfl,h1⟩
end Go.Proofs.YtjemlgdkjilnoaaGreatDoor
namespace Go.Proofs.YtjemlgdkjilnoaaGreatDoor
open Go.RowKit
open Bm (Ov)
set_option linter.unusedVariables false
theorem Tryz.apJ:∀args w,(callFunc 50 args).run Tryz.prog w=.ok (.enter 50 args) w:=enters_of Tryz.func50 (by kernel_rfl) rfl
structure StP (ps p pm bm:Nat) (w:World) (l:List Cm.Cv) (v:Value) (rs:List Cw) (t:List Ov):Prop where
 blk:w.heap[ps]? =some (.cells #[.pointer (some ⟨p,0,none⟩),v,.pointer (some ⟨pm,0,none⟩)] 186 (0,0))
 rest:Rt 0 w l v rs
 tb:Tb pm bm w t
theorem Tb.bne {pm bm:Nat}{w:World}{t:List Ov}(h:Tb pm bm w t){g:Nat}{cs:Array Value}{ty:TypeId}{fr:Nat×Nat}(hg:w.heap[g]? =some (.cells cs ty fr)):g≠bm:=fun e=>by
 obtain⟨es,clock,hb,_⟩:=h.own
 rw[e,hb]at hg
 cases hg
theorem Tb.pne {pm bm:Nat}{w:World}{t:List Ov}(h:Tb pm bm w t){g:Nat}{cs:Array Value}{ty:TypeId}{fr:Nat×Nat}(hg:w.heap[g]? =some (.cells cs ty fr))(ht:ty≠222):g≠pm:=fun e=>by
 have:=h.blk
 rw[←e,hg]at this
 simp only[Option.some.injEq,Obj.cells.injEq]at this
 exact ht this.2.1
theorem aqU {pm bm base:Nat}{w:World}{t:List Ov}{l:List Cm.Cv}{v:Value}{rs:List Cw}(h:Tb pm bm w t)(k:Rt base w l v rs):¬QB v rs pm∧¬QB v rs bm:=by
 refine⟨fun e=>?_,fun e=>?_⟩
 ·exact k.ne h.blk (by decide) (by decide) e
 ·obtain⟨cs,ty,hg,_⟩:=k.ty bm e
  exact h.bne hg rfl
theorem agO {ps p pm bm:Nat}{w wc:World}{l:List Cm.Cv}{v:Value}{rs:List Cw}{c:Cw}(hv:xC ps p pm bm w l v rs)(hb:Below w.heap.size w wc)(hc:bz 92 w.heap.size wc c.v c.l)(hg:Cm.chk c.e c.n c.l=0)(hn:l.length+1≤1048576)(ty:TypeId):
  ∃V,wc.alloc (.cells #[.int .i64 c.e,.int .i64 c.n,c.v] 65)=V∧V.cell? ⟨ps,1,none⟩=some v∧∃v2 w2,(Builtin.append_ #[26,26] ty #[v,.slice (some ⟨wc.heap.size,0,none⟩) 1 1]).run Tryz.prog V=.ok v2 w2∧w2.cell? ⟨ps,1,none⟩=some v∧w2.frozen? ⟨ps,1,none⟩=false∧(∃a n k,v2=.slice a n k)∧
   StP ps p pm bm (w2.setCell ⟨ps,1,none⟩ v2) (l++[c.c]) v2 (rs++[c]) (Rl.tab l)∧Out (fun g=>g=ps∨v.ownBlock=some g) w (w2.setCell ⟨ps,1,none⟩ v2)∧∀g,QB v2 (rs++[c]) g→QB v rs g∨w.heap.size≤g:=by
 have hsz:=hb.size
 obtain⟨V,hV,kg,bu,jH⟩:=kC 65 wc #[.int .i64 c.e,.int .i64 c.n,c.v] 1 [c] rfl rfl (by simp[maxLen])
 have vZ:=hb.trans (bu.mono hsz)
 have qV:=hv.rest.below vZ
 have BV:=(vZ.block ps (ax hv.blk)).trans hv.blk
 have hone:∀d∈[c],d.v.oneCell'=true:=fun d hd=>by rw[List.mem_singleton.1 hd];exact hc.is.one
 obtain⟨v2,w2,hr,aT,il,at2⟩:=jX (P:=Tryz.prog) (w:=V) 26 ty 65 0 Tryz.underlying26 Tryz.nO v rs qV.row _ [c] jH.row hone (by have:=hv.rest.few;have:=hv.rest.len;simp;omega) (Nat.zero_le _)
 have kp:bK 65 V w2:=bK.wU qV.row il
 have q2:=qV.grow aT kp ((hc.below bu).bB (Nat.zero_le _)) hg hn
 have hpn:¬v.ownBlock=some ps:=fun e=>qV.ne BV (by decide) (by decide) (.inl e)
 have B2:=(il.block ps (ax BV) (fun e=>hpn e.symm)).trans BV
 obtain⟨X,hX,bX,gX,fX⟩:=arH B2 1 v2
 have qX:Rt 0 X (l++[c.c]) v2 (rs++[c]):=q2.agree fun g hg=>gX.block g (q2.lt g hg) fun e=>by
  simp at e
  exact q2.ne B2 (by decide) (by decide) (e▸hg)
 have oX:Out (fun g=>g=ps∨v.ownBlock=some g) w X:=((Out.of_below (F:=fun g=>g=ps∨v.ownBlock=some g) vZ).trans (Out.aV (F:=fun g=>g=ps∨v.ownBlock=some g) il fun g hg=>.inr hg) fun g hg=>.inl hg).trans (Out.aV (F:=fun g=>g=ps∨v.ownBlock=some g) gX fun g hg=>.inl (by simpa using hg.symm)) fun g hg=>.inl hg
 have tX:Tb pm bm X (Rl.tab l):=by
  obtain⟨t1,t2⟩:=aqU hv.tb hv.rest
  refine hv.tb.agree (oX.block pm hv.tb.plt ?_) (oX.block bm hv.tb.blt ?_)
  ·rintro(e|e)
   ·exact hv.tb.pne hv.blk (by decide) e.symm
   ·exact t1 (.inl e)
  ·rintro(e|e)
   ·exact hv.tb.bne hv.blk e.symm
   ·exact t2 (.inl e)
 refine⟨V,hV,ai BV 1 rfl,v2,w2,hr,ai B2 1 rfl,fX,?_,?_⟩
 ·obtain⟨a1,k1,h1,_⟩:=aT.row.shape
  exact⟨a1,_,k1,h1⟩
 ·rw[hX]
  refine⟨⟨bX,qX,tX⟩,oX,?_⟩
  rintro g (e|⟨d,hd,e⟩)
  ·rcases at2 with h|h
   ·exact .inl (.inl (h▸e))
   ·rw[h]at e
    simp at e
    exact .inr (by omega)
  ·rcases List.mem_append.1 hd with hd|hd
   ·exact .inl (.inr ⟨d,hd,e⟩)
   ·rw[List.mem_singleton.1 hd]at e
    exact .inr (hc.block g e).1
def SkS (ps p:Nat) (G:Nat→Prop) (w w':World) (l':List Cm.Cv):Prop:=∃G',Sk ps p G' w' l'∧Out G w w'∧∀g,G' g→G g∨w.heap.size≤g
theorem SkS.pre {ps p:Nat}{G:Nat→Prop}{w w1 w2:World}{l:List Cm.Cv}(hb:Below w.heap.size w w1)(h:SkS ps p G w1 w2 l):SkS ps p G w w2 l:=by
 obtain⟨G',h1,h2,h3⟩:=h
 refine⟨G',h1,(Out.of_below (F:=G) hb).trans h2 fun g hg=>.inl hg,fun g hg=>?_⟩
 rcases h3 g hg with e|e
 ·exact .inl e
 ·exact .inr (Nat.le_trans hb.size e)
theorem SkS.sts {ps p q:Nat}{F1 G:Nat→Prop}{w w':World}{r:Rl.Rs}{l':List Cm.Cv}(h1:RW p q F1 w r)(hd:∀g,G g→¬F1 g)(h:SkS ps p G w w' l')(ok:Sto.Ok ⟨r,l'⟩):tH ps p q (fun g=>F1 g∨G g) w w' ⟨r,l'⟩:=by
 obtain⟨G',k1,k2,k3⟩:=h
 refine⟨_,⟨F1,G',h1.out k2 fun g hg e=>hd g e hg,k1,fun g hg hf=>?_,ok,rfl⟩,k2.mono fun g hg=>.inl (.inr hg),?_⟩
 ·rcases k3 g hg with e|e
  ·exact hd g e hf
  ·have:=h1.lt g hf
   omega
 ·rintro g (e|e)
  ·exact .inl (.inl e)
  ·exact(k3 g e).imp (fun e=>.inr e) id
theorem StP.done {ps p pm bm:Nat}{w0 w w':World}{l:List Cm.Cv}{v v2:Value}{rs:List Cw}{c:Cw}(h:StP ps p pm bm w (l++[c.c]) v2 (rs++[c]) (Rl.tab l))(ho:Out (fun g=>g=ps∨v.ownBlock=some g) w0 w)(hq:∀g,QB v2 (rs++[c]) g→QB v rs g∨w0.heap.size≤g)
  (ht:Tb pm bm w' (Rl.tab (l++[c.c]))) (o2:Out (fun g=>g=bm) w w'):SkS ps p (SB ps pm bm v rs) w0 w' (l++[c.c]):=by
 obtain⟨t1,t2⟩:=aqU h.tb h.rest
 have hbk:w'.heap[ps]? =some (.cells #[.pointer (some ⟨p,0,none⟩),v2,.pointer (some ⟨pm,0,none⟩)] 186 (0,0)):=(o2.block ps (ax h.blk) (h.tb.bne h.blk)).trans h.blk
 have hre:Rt 0 w' (l++[c.c]) v2 (rs++[c]):=h.rest.out o2 fun g hg e=>t2 (e▸hg)
 have oA:Out (SB ps pm bm v rs) w0 w':=(ho.mono (G:=SB ps pm bm v rs) fun g hg=>.inl (hg.elim (fun e=>.inl e) fun e=>.inr (.inr (.inr (.inl e))))).trans o2 fun g hg=>.inl (.inr (.inr (.inl hg)))
 refine⟨_,⟨pm,bm,v2,rs++[c],⟨hbk,hre,ht⟩,rfl⟩,oA,?_⟩
 rintro g (e|e|e|e)
 ·exact .inl (.inl e)
 ·exact .inl (.inr (.inl e))
 ·exact .inl (.inr (.inr (.inl e)))
 ·exact(hq g e).imp (fun e=>.inr (.inr (.inr e))) id
theorem adg (ps p pm bm:Nat)(w:World)(l:List Cm.Cv)(v:Value)(rs:List Cw)(c:Cw)(hs:xC ps p pm bm w l v rs)(hi:df w c.v c.l)(af2:Cm.chk c.e c.n c.l=0)(jQ:0<c.l.length→∀b,c.v.ownBlock=some b→¬SB ps pm bm v rs b)(hn:l.length≤100000)(htl:(Rl.tab l).length≤l.length*8):
  Calls Tryz.prog 134 #[.pointer (some ⟨ps,0,none⟩),bT c.e c.n c.v] w fun E w'=>(∃u,E=.returned u)∧SkS ps p (SB ps pm bm v rs) w w' (l++[c.c]):=by
 obtain⟨f1,f2,f3,f4,f5⟩:=aro af2
 obtain⟨w1,hw1,aW,aj,hB⟩:=ak w #[.int .i64 c.e,.int .i64 c.n,c.v] 65
 have hs1:=hs.below aj
 have i1:=hi.below aj
 have c0:w1.cell? ⟨w.heap.size,0,none⟩=some (.int .i64 c.e):=ai hB 0 rfl
 have c1:w1.cell? ⟨w.heap.size,1,none⟩=some (.int .i64 c.n):=ai hB 1 rfl
 have c2:w1.cell? ⟨w.heap.size,2,none⟩=some c.v:=ai hB 2 rfl
 have hp1:ps<w1.heap.size:=ax hs1.blk
 have y1:w1.cell? ⟨ps,1,none⟩=some v:=ai hs1.blk 1 rfl
 obtain⟨ao,cap,hcv,_,_⟩:=hi.shape
 obtain⟨la,ln,lk,hlv⟩:∃a n k,v=.slice a n k:=by
  obtain⟨a1,k1,h1,_⟩:=hs.rest.row.row.shape
  exact⟨a1,_,k1,h1⟩
 have axM:ps<w.heap.size:=ax hs.blk
 have X1:Hid (Calls Tryz.prog 50 #[.agg #[.int .i64 c.e,.int .i64 c.n,c.v]] w1.drew fun E w6=>∃v',E=.returned v'∧∃(vo:Value) (V:World),v'=.agg #[.int .i64 c.e,.int .i64 c.n,vo]∧(∃a n k,vo=.slice a n k)∧w6.cell? ⟨ps,1,none⟩=some v∧(w6.cell? ⟨w.heap.size,0,none⟩=some (.int .i64 c.e)∧w6.cell? ⟨w.heap.size,1,none⟩=some (.int .i64 c.n)∧w6.cell? ⟨w.heap.size,2,none⟩=some c.v)∧w6.alloc (.cells #[.int .i64 c.e,.int .i64 c.n,vo] 65)=V∧(V.cell? ⟨ps,1,none⟩=some v∧(V.cell? ⟨w.heap.size,0,none⟩=some (.int .i64 c.e)∧V.cell? ⟨w.heap.size,1,none⟩=some (.int .i64 c.n)∧V.cell? ⟨w.heap.size,2,none⟩=some c.v))∧
   Hid (∀ty,∃v2 w2,(Builtin.append_ #[26,26] ty #[v,.slice (some ⟨w6.heap.size,0,none⟩) 1 1]).run Tryz.prog V=.ok v2 w2∧((StP ps p pm bm (w2.setCell ⟨ps,1,none⟩ v2) (l++[c.c]) v2 (rs++[⟨c.e,c.n,vo,c.l⟩]) (Rl.tab l)∧Out (fun g=>g=ps∨v.ownBlock=some g) w1 (w2.setCell ⟨ps,1,none⟩ v2)∧∀g,QB v2 (rs++[⟨c.e,c.n,vo,c.l⟩]) g→QB v rs g∨w1.heap.size≤g)∧w2.cell? ⟨ps,1,none⟩=some v∧w2.frozen? ⟨ps,1,none⟩=false∧∃a n k,v2=.slice a n k))):=hide (by
  have:=oH c.e c.n c.v c.l w1.drew (i1.drewN 1) f2
  unfold bT at this
  refine this.mono ?_
  rintro E w6 ⟨vo,rfl,fZ,eZ⟩
  have b16:Below w1.heap.size w1 w6:=(Below.refl w1.heap.size w1).drew.trans eZ
  obtain⟨V,hV,V2,_⟩:=agO (c:=⟨c.e,c.n,vo,c.l⟩) hs1 b16 fZ af2 (by omega) 26
  have bu:Below w6.heap.size w6 V:=by rw[←hV];exact(Below.refl _ _).alloc (Nat.le_refl _) _
  have b1V:=b16.trans (bu.mono b16.size)
  obtain⟨a1,k1,h1,_⟩:=fZ.is.shape
  refine⟨_,rfl,vo,V,rfl,⟨a1,_,k1,h1⟩,(b16.cell (p:=⟨ps,1,none⟩) hp1).trans y1,⟨(b16.cell (p:=⟨w.heap.size,0,none⟩) (show w.heap.size<w1.heap.size by omega)).trans c0,(b16.cell (p:=⟨w.heap.size,1,none⟩) (show w.heap.size<w1.heap.size by omega)).trans c1,(b16.cell (p:=⟨w.heap.size,2,none⟩) (show w.heap.size<w1.heap.size by omega)).trans c2⟩,hV,⟨V2,(b1V.cell (p:=⟨w.heap.size,0,none⟩) (show w.heap.size<w1.heap.size by omega)).trans c0,(b1V.cell (p:=⟨w.heap.size,1,none⟩) (show w.heap.size<w1.heap.size by omega)).trans c1,(b1V.cell (p:=⟨w.heap.size,2,none⟩) (show w.heap.size<w1.heap.size by omega)).trans c2⟩,hide fun ty=>?_⟩
  obtain⟨V',hV',V2',v2',w2',hr',q1',q2',q3',J⟩:=agO (c:=⟨c.e,c.n,vo,c.l⟩) hs1 b16 fZ af2 (by omega) ty
  have eV:V'=V:=hV'.symm.trans hV
  subst eV
  exact⟨v2',w2',hr',J,q1',q2',q3'⟩)
 have hlt:=hs.lt
 have HH:=hide (And.intro hs1 (And.intro i1 (And.intro hB (And.intro aj hlt))))
 have HF:=hide (And.intro f1 (And.intro hn f5))
 have HCF:=hide jQ
 unfold bT
 have qf:=hide hcv
 rw[hcv]at hw1 c2 X1⊢
 rw[hlv]at y1 X1
 have HLV:=hide hlv
 have hta:Tm.dw (Rl.tab l) c.l=Rl.tab (l++[c.c])∧Bm.first c.l=0:=asv (l:=l) (c:=c.c) af2
 have HTA:=hide hta
 have HTL:=hide htl
 have HSZ:=hide aW
 clear htl hs hi f1 f2 f3 f4 f5 hs1 i1 aj hB jQ hcv hlv af2 aW hlt hta hn hp1 axM
 go_enter Tryz.func134,Tryz.ntmps134
 go_wp2_with fail
 go_region_law (first
  |(have ow:=XX;refine eQ rfl (.tmp 8) (.tmp 11) 26 rfl (.slice la ln lk) (.slice (some ⟨w6.heap.size,0,none⟩) 1 1) (by first|(simp[Act.eval];done)|(simp[Act.eval,Act.put];done)) (by first|(simp[Act.eval];done)|(simp[Act.eval,Act.put];done)) XX.out ?_;rintro v8 w8 ⟨J,d8,g8,a8,n8,k8,rfl⟩;have J:=hide J)
  |(refine pU rfl 50 #[.tmp 9] #[65] rfl Tryz.apJ #[.agg #[.int .i64 c.e,.int .i64 c.n,.slice ao c.l.length cap]] (by first|(simp[Act.eval];done)|(simp[Act.eval,Act.put];done)) X1.out ?_;rintro v6 w6 ⟨vo,V,rfl,⟨oa,on,ok,rfl⟩,z2,⟨b0,b1,b2⟩,hV,⟨z3,b3,b4,b5⟩,XX⟩))
 all_goals
  obtain⟨X,hX⟩:∃X,w8.setCell ⟨ps,1,none⟩ (.slice a8 n8 k8)=X:=⟨_,rfl⟩
  obtain⟨hs1,i1,hB,aj,hlt⟩:=HH.out
  have JJ:=J.out
  rw[hX]at JJ
  rw[←HLV.out]at JJ
  obtain⟨sp,ox,hq⟩:=JJ
  have x2:X.cell? ⟨ps,2,none⟩=some (.pointer (some ⟨pm,0,none⟩)):=ai sp.blk 2 rfl
  have hwne:¬(w.heap.size=ps∨v.ownBlock=some w.heap.size):=by
   rintro(e|e)
   ·have:=hlt ps (.inl rfl);omega
   ·have:=hlt w.heap.size (.inr (.inr (.inr (.inl e))));omega
  have hBX:=(ox.block w.heap.size (by have:=HSZ.out;omega) hwne).trans hB
  have xc:X.cell? ⟨w.heap.size,2,none⟩=some (.slice ao c.l.length cap):=by rw[←qf.out];exact ai hBX 2 rfl
  have iX:df X c.v c.l:=i1.out ox fun hp b hb hf=>HCF.out hp b hb (by
   rcases hf with e|e
   ·exact .inl e
   ·exact .inr (.inr (.inr (.inl e))))
  have HA:=hide (aia pm bm X.drew _ c.v c.l (sp.tb.agree rfl rfl) (iX.drewN 1) HF.out.1 (by have h1:=HTL.out;have h2:=HF.out.2.1;have h3:=HF.out.2.2;omega))
  rw[HTA.out.1,HTA.out.2,qf.out]at HA
  have SP:=hide (And.intro sp (And.intro ox hq))
  have hpx:ps<X.heap.size:=ax sp.blk
  have hwx:w.heap.size<X.heap.size:=ax hBX
  have aya:ps≠bm:=sp.tb.bne sp.blk
  have axX:w.heap.size≠bm:=sp.tb.bne hBX
  clear sp ox hq hBX iX J hs1 i1 hB aj hlt hwne
  go_wp2_with fail
  go_region_held3 (fun w'=>w'.cell? ⟨ps,2,none⟩=some (.pointer (some ⟨pm,0,none⟩))∧w'.cell? ⟨w.heap.size,2,none⟩=some (.slice ao c.l.length cap)) (first|exact⟨x2,xc⟩|exact⟨u2,uc⟩|go_keep)
   (first
   |(go_at_call 171;refine HA.out.mono ?_;rintro E wz ⟨rfl,TZ,OZ'⟩;have OZ:Out (fun g=>g=bm) X wz:=((Out.refl _ X).drew 1).trans OZ' fun g hg=>.inl hg;have u2:=(jW (OZ.block ps hpx aya) 2).trans x2;have uc:=(jW (OZ.block w.heap.size hwx axX) 2).trans xc;have TZ:=hide TZ;have OZH:=hide OZ;clear OZ OZ'))
  obtain⟨hs1,i1,hB,aj,hlt⟩:=HH.out
  have FIN:=hide (SkS.pre aj (StP.done SP.out.1 SP.out.2.1 SP.out.2.2 TZ.out OZH.out))
  clear hs1 i1 hB aj hlt
  go_wp2
  go_end0
  exact⟨⟨_,rfl⟩,FIN.out⟩
theorem ane (ps p q:Nat)(F:Nat→Prop)(w:World)(s:Sto.Ss)(c:Cw)(h:SW ps p q F w s)(hi:df w c.v c.l)(ok:Sto.Ok ⟨s.r,s.l++[c.c]⟩)(jQ:0<c.l.length→∀b,c.v.ownBlock=some b→¬F b)(hn:s.l.length≤100000):
  Calls Tryz.prog 134 #[.pointer (some ⟨ps,0,none⟩),bT c.e c.n c.v] w fun E w'=>(∃u,E=.returned u)∧tH ps p q F w w' ⟨s.r,s.l++[c.c]⟩:=by
 obtain⟨F1,G1,h1,⟨pm,bm,v,rs,hs,rfl⟩,hd,ok0,rfl⟩:=h
 refine(adg ps p pm bm w s.l v rs c hs hi (Sto.fV ok.rest c.c (by simp)).1 (fun hp b hb hf=>jQ hp b hb (.inr hf)) hn (Sto.ahw ok0.rest)).mono ?_
 rintro E w' ⟨hu,hk⟩
 exact⟨hu,hk.sts h1 hd ok⟩
end Go.Proofs.YtjemlgdkjilnoaaGreatDoor
