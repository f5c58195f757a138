/- Texts of one layer, one behind the other. -/
import Derived.Test.YtlmkaljjocflmaaGreatDoorAH15
import Derived.Test.YtlmkaljjocflmaaGreatDoorAH12
import Derived.Test.YtlmkaljjocflmaaGreatDoorAH5
import Derived.Deep.RegionHeld3
import Derived.Deep.RegionLaw
import Derived.Test.YtlmkaljjocflmaaGreatDoorAH14
import Derived.Test.YtlmkaljjocflmaaGreatDoorAH3
import Derived.Test.YtlmkaljjocflmaaGreatDoorAH1
set_option maxRecDepth 100000
set_option maxHeartbeats 8000000
namespace Go.Proofs.YtlmkaljjocflmaaGreatDoor
open Go.RowKit
open Bm (Ov)
set_option linter.unusedVariables false
theorem Tryz.amU:∀args w,(callFunc 64 args).run Tryz.prog w=.ok (.enter 64 args) w:=enters_of Tryz.func64 (by kernel_rfl) rfl
structure StP (ps p pm bm:Nat) (w:World) (l:List Cm.Cv) (v:Value) (rs:List Cw) (t:List Ov):Prop where
 blk:w.heap[ps]? =some (.cells #[.pointer (some ⟨p,0,none⟩),v,.pointer (some ⟨pm,0,none⟩)] 288 (0,0))
 rest:Rt 0 w l v rs
 tb:Tb pm bm w t
theorem Tb.bne {pm bm:Nat}{w:World}{t:List Ov}(h:Tb pm bm w t){g:Nat}{cs:Array Value}{ty:TypeId}{fr:Nat×Nat}(hg:w.heap[g]? =some (.cells cs ty fr)):g≠bm:=fun e=>by
 obtain⟨es,clock,hb,_⟩:=h.own
 rw[e,hb]at hg
 cases hg
theorem Tb.pne {pm bm:Nat}{w:World}{t:List Ov}(h:Tb pm bm w t){g:Nat}{cs:Array Value}{ty:TypeId}{fr:Nat×Nat}(hg:w.heap[g]? =some (.cells cs ty fr))(ht:ty≠167):g≠pm:=fun e=>by
 have:=h.blk
 rw[←e,hg]at this
 simp only[Option.some.injEq,Obj.cells.injEq]at this
 exact ht this.2.1
theorem apf {pm bm base:Nat}{w:World}{t:List Ov}{l:List Cm.Cv}{v:Value}{rs:List Cw}(h:Tb pm bm w t)(k:Rt base w l v rs):¬QB v rs pm∧¬QB v rs bm:=by
 refine⟨fun e=>?_,fun e=>?_⟩
 ·exact k.ne h.blk (by decide) (by decide) e
 ·obtain⟨cs,ty,hg,_⟩:=k.ty bm e
  exact h.bne hg rfl
theorem agL {ps p pm bm:Nat}{w wc:World}{l:List Cm.Cv}{v:Value}{rs:List Cw}{c:Cw}(hv:vL ps p pm bm w l v rs)(hb:Below w.heap.size w wc)(hc:bu 71 w.heap.size wc c.v c.l)(hg:Cm.chk c.e c.n c.l=0)(hn:l.length+1≤1048576)(ty:TypeId):
  ∃V,wc.alloc (.cells #[.int .i64 c.e,.int .i64 c.n,c.v] 35)=V∧V.cell? ⟨ps,1,none⟩=some v∧∃v2 w2,(Builtin.append_ #[22,22] ty #[v,.slice (some ⟨wc.heap.size,0,none⟩) 1 1]).run Tryz.prog V=.ok v2 w2∧w2.cell? ⟨ps,1,none⟩=some v∧w2.frozen? ⟨ps,1,none⟩=false∧(∃a n k,v2=.slice a n k)∧
   StP ps p pm bm (w2.setCell ⟨ps,1,none⟩ v2) (l++[c.c]) v2 (rs++[c]) (Rl.tab l)∧Out (fun g=>g=ps∨v.ownBlock=some g) w (w2.setCell ⟨ps,1,none⟩ v2)∧∀g,QB v2 (rs++[c]) g→QB v rs g∨w.heap.size≤g:=by
 have hsz:=hb.size
 obtain⟨V,hV,jE,aX,kK⟩:=mZ 35 wc #[.int .i64 c.e,.int .i64 c.n,c.v] 1 [c] rfl rfl (by simp[maxLen])
 have bwV:=hb.trans (aX.mono hsz)
 have qV:=hv.rest.below bwV
 have BV:=(bwV.block ps (aA hv.blk)).trans hv.blk
 have hone:∀d∈[c],d.v.oneCell'=true:=fun d hd=>by rw[List.mem_singleton.1 hd];exact hc.is.one
 obtain⟨v2,w2,hr,aY,jA,at2⟩:=vI (P:=Tryz.prog) (w:=V) 22 ty 35 0 Tryz.underlying22 Tryz.aaF v rs qV.row _ [c] kK.row hone (by have:=hv.rest.few;have:=hv.rest.len;simp;omega) (Nat.zero_le _)
 have kp:bH 35 V w2:=bH.zX qV.row jA
 have q2:=qV.grow aY kp ((hc.below aX).bz (Nat.zero_le _)) hg hn
 have hpn:¬v.ownBlock=some ps:=fun e=>qV.ne BV (by decide) (by decide) (.inl e)
 have B2:=(jA.block ps (aA BV) (fun e=>hpn e.symm)).trans BV
 obtain⟨X,hX,bX,gX,fX⟩:=arx B2 1 v2
 have qX:Rt 0 X (l++[c.c]) v2 (rs++[c]):=q2.agree fun g hg=>gX.block g (q2.lt g hg) fun e=>by
  simp at e
  exact q2.ne B2 (by decide) (by decide) (e▸hg)
 have oX:Out (fun g=>g=ps∨v.ownBlock=some g) w X:=((Out.of_below (F:=fun g=>g=ps∨v.ownBlock=some g) bwV).trans (Out.aP (F:=fun g=>g=ps∨v.ownBlock=some g) jA fun g hg=>.inr hg) fun g hg=>.inl hg).trans (Out.aP (F:=fun g=>g=ps∨v.ownBlock=some g) gX fun g hg=>.inl (by simpa using hg.symm)) fun g hg=>.inl hg
 have tX:Tb pm bm X (Rl.tab l):=by
  obtain⟨t1,t2⟩:=apf hv.tb hv.rest
  refine hv.tb.agree (oX.block pm hv.tb.plt ?_) (oX.block bm hv.tb.blt ?_)
  ·rintro(e|e)
   ·exact hv.tb.pne hv.blk (by decide) e.symm
   ·exact t1 (.inl e)
  ·rintro(e|e)
   ·exact hv.tb.bne hv.blk e.symm
   ·exact t2 (.inl e)
 refine⟨V,hV,ai BV 1 rfl,v2,w2,hr,ai B2 1 rfl,fX,?_,?_⟩
 ·obtain⟨a1,k1,h1,_⟩:=aY.row.shape
  exact⟨a1,_,k1,h1⟩
 ·rw[hX]
  refine⟨⟨bX,qX,tX⟩,oX,?_⟩
  rintro g (e|⟨d,hd,e⟩)
  ·rcases at2 with h|h
   ·exact .inl (.inl (h▸e))
   ·rw[h]at e
    simp at e
    exact .inr (by omega)
  ·rcases List.mem_append.1 hd with hd|hd
   ·exact .inl (.inr ⟨d,hd,e⟩)
   ·rw[List.mem_singleton.1 hd]at e
    exact .inr (hc.block g e).1
def SkS (ps p:Nat) (G:Nat→Prop) (w w':World) (l':List Cm.Cv):Prop:=∃G',Sk ps p G' w' l'∧Out G w w'∧∀g,G' g→G g∨w.heap.size≤g
theorem SkS.pre {ps p:Nat}{G:Nat→Prop}{w w1 w2:World}{l:List Cm.Cv}(hb:Below w.heap.size w w1)(h:SkS ps p G w1 w2 l):SkS ps p G w w2 l:=by
 obtain⟨G',h1,h2,h3⟩:=h
 refine⟨G',h1,(Out.of_below (F:=G) hb).trans h2 fun g hg=>.inl hg,fun g hg=>?_⟩
 rcases h3 g hg with e|e
 ·exact .inl e
 ·exact .inr (Nat.le_trans hb.size e)
theorem SkS.sts {ps p q:Nat}{F1 G:Nat→Prop}{w w':World}{r:Rl.Rs}{l':List Cm.Cv}(h1:RW p q F1 w r)(hd:∀g,G g→¬F1 g)(h:SkS ps p G w w' l')(ok:Sto.Ok ⟨r,l'⟩):qZ ps p q (fun g=>F1 g∨G g) w w' ⟨r,l'⟩:=by
 obtain⟨G',k1,k2,k3⟩:=h
 refine⟨_,⟨F1,G',h1.out k2 fun g hg e=>hd g e hg,k1,fun g hg hf=>?_,ok,rfl⟩,k2.mono fun g hg=>.inl (.inr hg),?_⟩
 ·rcases k3 g hg with e|e
  ·exact hd g e hf
  ·have:=h1.lt g hf
   omega
 ·rintro g (e|e)
  ·exact .inl (.inl e)
  ·exact(k3 g e).imp (fun e=>.inr e) id
theorem StP.done {ps p pm bm:Nat}{w0 w w':World}{l:List Cm.Cv}{v v2:Value}{rs:List Cw}{c:Cw}(h:StP ps p pm bm w (l++[c.c]) v2 (rs++[c]) (Rl.tab l))(ho:Out (fun g=>g=ps∨v.ownBlock=some g) w0 w)(hq:∀g,QB v2 (rs++[c]) g→QB v rs g∨w0.heap.size≤g)
  (ht:Tb pm bm w' (Rl.tab (l++[c.c]))) (o2:Out (fun g=>g=bm) w w'):SkS ps p (SB ps pm bm v rs) w0 w' (l++[c.c]):=by
 obtain⟨t1,t2⟩:=apf h.tb h.rest
 have hbk:w'.heap[ps]? =some (.cells #[.pointer (some ⟨p,0,none⟩),v2,.pointer (some ⟨pm,0,none⟩)] 288 (0,0)):=(o2.block ps (aA h.blk) (h.tb.bne h.blk)).trans h.blk
 have hre:Rt 0 w' (l++[c.c]) v2 (rs++[c]):=h.rest.out o2 fun g hg e=>t2 (e▸hg)
 have oA:Out (SB ps pm bm v rs) w0 w':=(ho.mono (G:=SB ps pm bm v rs) fun g hg=>.inl (hg.elim (fun e=>.inl e) fun e=>.inr (.inr (.inr (.inl e))))).trans o2 fun g hg=>.inl (.inr (.inr (.inl hg)))
 refine⟨_,⟨pm,bm,v2,rs++[c],⟨hbk,hre,ht⟩,rfl⟩,oA,?_⟩
 rintro g (e|e|e|e)
 ·exact .inl (.inl e)
 ·exact .inl (.inr (.inl e))
 ·exact .inl (.inr (.inr (.inl e)))
 ·exact(hq g e).imp (fun e=>.inr (.inr (.inr e))) id
theorem acM (ps p pm bm:Nat)(w:World)(l:List Cm.Cv)(v:Value)(rs:List Cw)(c:Cw)(hs:vL ps p pm bm w l v rs)(hi:dz w c.v c.l)(sQ:Cm.chk c.e c.n c.l=0)(jH:0<c.l.length→∀b,c.v.ownBlock=some b→¬SB ps pm bm v rs b)(hn:l.length≤100000)(htl:(Rl.tab l).length≤l.length*8):
  Calls Tryz.prog 240 #[.pointer (some ⟨ps,0,none⟩),dF c.e c.n c.v] w fun E w'=>(∃u,E=.returned u)∧SkS ps p (SB ps pm bm v rs) w w' (l++[c.c]):=by
 obtain⟨f1,f2,f3,f4,f5⟩:=aqD sQ
 obtain⟨w1,hw1,aT,ak,hB⟩:=au w #[.int .i64 c.e,.int .i64 c.n,c.v] 35
 have hs1:=hs.below ak
 have i1:=hi.below ak
 have c0:w1.cell? ⟨w.heap.size,0,none⟩=some (.int .i64 c.e):=ai hB 0 rfl
 have c1:w1.cell? ⟨w.heap.size,1,none⟩=some (.int .i64 c.n):=ai hB 1 rfl
 have c2:w1.cell? ⟨w.heap.size,2,none⟩=some c.v:=ai hB 2 rfl
 have hp1:ps<w1.heap.size:=aA hs1.blk
 have y1:w1.cell? ⟨ps,1,none⟩=some v:=ai hs1.blk 1 rfl
 obtain⟨ao,cap,hcv,_,_⟩:=hi.shape
 obtain⟨la,ln,lk,hlv⟩:∃a n k,v=.slice a n k:=by
  obtain⟨a1,k1,h1,_⟩:=hs.rest.row.row.shape
  exact⟨a1,_,k1,h1⟩
 have awy:ps<w.heap.size:=aA hs.blk
 have X1:Hid (Calls Tryz.prog 64 #[.agg #[.int .i64 c.e,.int .i64 c.n,c.v]] w1.drew fun E w6=>∃v',E=.returned v'∧∃(vo:Value) (V:World),v'=.agg #[.int .i64 c.e,.int .i64 c.n,vo]∧(∃a n k,vo=.slice a n k)∧w6.cell? ⟨ps,1,none⟩=some v∧(w6.cell? ⟨w.heap.size,0,none⟩=some (.int .i64 c.e)∧w6.cell? ⟨w.heap.size,1,none⟩=some (.int .i64 c.n)∧w6.cell? ⟨w.heap.size,2,none⟩=some c.v)∧w6.alloc (.cells #[.int .i64 c.e,.int .i64 c.n,vo] 35)=V∧(V.cell? ⟨ps,1,none⟩=some v∧(V.cell? ⟨w.heap.size,0,none⟩=some (.int .i64 c.e)∧V.cell? ⟨w.heap.size,1,none⟩=some (.int .i64 c.n)∧V.cell? ⟨w.heap.size,2,none⟩=some c.v))∧
   Hid (∀ty,∃v2 w2,(Builtin.append_ #[22,22] ty #[v,.slice (some ⟨w6.heap.size,0,none⟩) 1 1]).run Tryz.prog V=.ok v2 w2∧((StP ps p pm bm (w2.setCell ⟨ps,1,none⟩ v2) (l++[c.c]) v2 (rs++[⟨c.e,c.n,vo,c.l⟩]) (Rl.tab l)∧Out (fun g=>g=ps∨v.ownBlock=some g) w1 (w2.setCell ⟨ps,1,none⟩ v2)∧∀g,QB v2 (rs++[⟨c.e,c.n,vo,c.l⟩]) g→QB v rs g∨w1.heap.size≤g)∧w2.cell? ⟨ps,1,none⟩=some v∧w2.frozen? ⟨ps,1,none⟩=false∧∃a n k,v2=.slice a n k))):=hide (by
  have:=uX c.e c.n c.v c.l w1.drew (i1.drewN 1) f2
  unfold dF at this
  refine this.mono ?_
  rintro E w6 ⟨vo,rfl,eY,fo⟩
  have b16:Below w1.heap.size w1 w6:=(Below.refl w1.heap.size w1).drew.trans fo
  obtain⟨V,hV,V2,_⟩:=agL (c:=⟨c.e,c.n,vo,c.l⟩) hs1 b16 eY sQ (by omega) 22
  have aX:Below w6.heap.size w6 V:=by rw[←hV];exact(Below.refl _ _).alloc (Nat.le_refl _) _
  have b1V:=b16.trans (aX.mono b16.size)
  obtain⟨a1,k1,h1,_⟩:=eY.is.shape
  refine⟨_,rfl,vo,V,rfl,⟨a1,_,k1,h1⟩,(b16.cell (p:=⟨ps,1,none⟩) hp1).trans y1,⟨(b16.cell (p:=⟨w.heap.size,0,none⟩) (show w.heap.size<w1.heap.size by omega)).trans c0,(b16.cell (p:=⟨w.heap.size,1,none⟩) (show w.heap.size<w1.heap.size by omega)).trans c1,(b16.cell (p:=⟨w.heap.size,2,none⟩) (show w.heap.size<w1.heap.size by omega)).trans c2⟩,hV,⟨V2,(b1V.cell (p:=⟨w.heap.size,0,none⟩) (show w.heap.size<w1.heap.size by omega)).trans c0,(b1V.cell (p:=⟨w.heap.size,1,none⟩) (show w.heap.size<w1.heap.size by omega)).trans c1,(b1V.cell (p:=⟨w.heap.size,2,none⟩) (show w.heap.size<w1.heap.size by omega)).trans c2⟩,hide fun ty=>?_⟩
  obtain⟨V',hV',V2',v2',w2',hr',q1',q2',q3',J⟩:=agL (c:=⟨c.e,c.n,vo,c.l⟩) hs1 b16 eY sQ (by omega) ty
  have eV:V'=V:=hV'.symm.trans hV
  subst eV
  exact⟨v2',w2',hr',J,q1',q2',q3'⟩)
 have hlt:=hs.lt
 have HH:=hide (And.intro hs1 (And.intro i1 (And.intro hB (And.intro ak hlt))))
 have HF:=hide (And.intro f1 (And.intro hn f5))
 have HCF:=hide jH
 unfold dF
 have uy:=hide hcv
 rw[hcv]at hw1 c2 X1⊢
 rw[hlv]at y1 X1
 have HLV:=hide hlv
 have hta:Tm.aft (Rl.tab l) c.l=Rl.tab (l++[c.c])∧Bm.first c.l=0:=aqz (l:=l) (c:=c.c) sQ
 have HTA:=hide hta
 have HTL:=hide htl
 have HSZ:=hide aT
 clear htl hs hi f1 f2 f3 f4 f5 hs1 i1 ak hB jH hcv hlv sQ aT hlt hta hn hp1 awy
 go_enter Tryz.func240,Tryz.ntmps240
 go_wp2_with fail
 go_region_law (first
  |(have ow:=XX;refine dY rfl (.tmp 8) (.tmp 11) 22 rfl (.slice la ln lk) (.slice (some ⟨w6.heap.size,0,none⟩) 1 1) (by first|(simp[Act.eval];done)|(simp[Act.eval,Act.put];done)) (by first|(simp[Act.eval];done)|(simp[Act.eval,Act.put];done)) XX.out ?_;rintro v8 w8 ⟨J,d8,g8,a8,n8,k8,rfl⟩;have J:=hide J)
  |(refine rE rfl 64 #[.tmp 9] #[35] rfl Tryz.amU #[.agg #[.int .i64 c.e,.int .i64 c.n,.slice ao c.l.length cap]] (by first|(simp[Act.eval];done)|(simp[Act.eval,Act.put];done)) X1.out ?_;rintro v6 w6 ⟨vo,V,rfl,⟨oa,on,ok,rfl⟩,z2,⟨b0,b1,b2⟩,hV,⟨z3,b3,b4,b5⟩,XX⟩))
 all_goals
  obtain⟨X,hX⟩:∃X,w8.setCell ⟨ps,1,none⟩ (.slice a8 n8 k8)=X:=⟨_,rfl⟩
  obtain⟨hs1,i1,hB,ak,hlt⟩:=HH.out
  have JJ:=J.out
  rw[hX]at JJ
  rw[←HLV.out]at JJ
  obtain⟨sp,ox,hq⟩:=JJ
  have x2:X.cell? ⟨ps,2,none⟩=some (.pointer (some ⟨pm,0,none⟩)):=ai sp.blk 2 rfl
  have hwne:¬(w.heap.size=ps∨v.ownBlock=some w.heap.size):=by
   rintro(e|e)
   ·have:=hlt ps (.inl rfl);omega
   ·have:=hlt w.heap.size (.inr (.inr (.inr (.inl e))));omega
  have hBX:=(ox.block w.heap.size (by have:=HSZ.out;omega) hwne).trans hB
  have xc:X.cell? ⟨w.heap.size,2,none⟩=some (.slice ao c.l.length cap):=by rw[←uy.out];exact ai hBX 2 rfl
  have iX:dz X c.v c.l:=i1.out ox fun hp b hb hf=>HCF.out hp b hb (by
   rcases hf with e|e
   ·exact .inl e
   ·exact .inr (.inr (.inr (.inl e))))
  have HA:=hide (ail pm bm X.drew _ c.v c.l (sp.tb.agree rfl rfl) (iX.drewN 1) HF.out.1 (by have h1:=HTL.out;have h2:=HF.out.2.1;have h3:=HF.out.2.2;omega))
  rw[HTA.out.1,HTA.out.2,uy.out]at HA
  have SP:=hide (And.intro sp (And.intro ox hq))
  have hpx:ps<X.heap.size:=aA sp.blk
  have hwx:w.heap.size<X.heap.size:=aA hBX
  have awr:ps≠bm:=sp.tb.bne sp.blk
  have awR:w.heap.size≠bm:=sp.tb.bne hBX
  clear sp ox hq hBX iX J hs1 i1 hB ak hlt hwne
  go_wp2_with fail
  go_region_held3 (fun w'=>w'.cell? ⟨ps,2,none⟩=some (.pointer (some ⟨pm,0,none⟩))∧w'.cell? ⟨w.heap.size,2,none⟩=some (.slice ao c.l.length cap)) (first|exact⟨x2,xc⟩|exact⟨u2,uc⟩|go_keep)
   (first
   |(go_at_call 47;refine HA.out.mono ?_;rintro E wz ⟨rfl,TZ,OZ'⟩;have OZ:Out (fun g=>g=bm) X wz:=((Out.refl _ X).drew 1).trans OZ' fun g hg=>.inl hg;have u2:=(jM (OZ.block ps hpx awr) 2).trans x2;have uc:=(jM (OZ.block w.heap.size hwx awR) 2).trans xc;have TZ:=hide TZ;have OZH:=hide OZ;clear OZ OZ'))
  obtain⟨hs1,i1,hB,ak,hlt⟩:=HH.out
  have FIN:=hide (SkS.pre ak (StP.done SP.out.1 SP.out.2.1 SP.out.2.2 TZ.out OZH.out))
  clear hs1 i1 hB ak hlt
  go_wp2
  go_end0
  exact⟨⟨_,rfl⟩,FIN.out⟩
theorem anB (ps p q:Nat)(F:Nat→Prop)(w:World)(s:Sto.Ss)(c:Cw)(h:SW ps p q F w s)(hi:dz w c.v c.l)(ok:Sto.Ok ⟨s.r,s.l++[c.c]⟩)(jH:0<c.l.length→∀b,c.v.ownBlock=some b→¬F b)(hn:s.l.length≤100000):
  Calls Tryz.prog 240 #[.pointer (some ⟨ps,0,none⟩),dF c.e c.n c.v] w fun E w'=>(∃u,E=.returned u)∧qZ ps p q F w w' ⟨s.r,s.l++[c.c]⟩:=by
 obtain⟨F1,G1,h1,⟨pm,bm,v,rs,hs,rfl⟩,hd,ok0,rfl⟩:=h
 refine(acM ps p pm bm w s.l v rs c hs hi (Sto.iJ ok.rest c.c (by simp)).1 (fun hp b hb hf=>jH hp b hb (.inr hf)) hn (Sto.agQ ok0.rest)).mono ?_
 rintro E w' ⟨hu,hk⟩
 exact⟨hu,hk.sts h1 hd ok⟩
end Go.Proofs.YtlmkaljjocflmaaGreatDoor
namespace Go.Proofs.YtlmkaljjocflmaaGreatDoor
open Go.RowKit
set_option linter.unusedVariables false
theorem fw.lT {w:World}{g:Nat}{m:Mw}{a b:Value}(h:fw w g m)(hs:m.vs=a)(hc:m.vc=b):Ei w g (.int .i64 m.k) (.int .i64 m.e) (.int .u8 m.r) (.int .i64 m.n) a (.int .i64 m.f) (.int .i64 m.p) b:=by
 subst hs hc
 exact h.ei
theorem iL {m:Mw}{a b:Value}(hs:m.vs=a)(hc:m.vc=b):mv m=.agg #[.int .i64 m.k,.int .i64 m.e,.int .u8 m.r,.int .i64 m.n,a,.int .i64 m.f,.int .i64 m.p,b]:=by
 subst hs hc
 rfl
theorem ahW {m:Mw}{a b:Value}(hs:m.vs=a)(hc:m.vc=b):mc m=#[.int .i64 m.k,.int .i64 m.e,.int .u8 m.r,.int .i64 m.n,a,.int .i64 m.f,.int .i64 m.p,b]:=by
 subst hs hc
 rfl
theorem xC (w:World)(m:Mw){a b:Value}(hs:m.vs=a)(hc:m.vc=b):
  ∃V,w.alloc (.cells #[.int .i64 m.k,.int .i64 m.e,.int .u8 m.r,.int .i64 m.n,a,.int .i64 m.f,.int .i64 m.p,b] 26)=V∧V.heap.size=w.heap.size+1∧Below w.heap.size w V∧fw V w.heap.size m:=by
 subst hs hc
 exact yM w m
def Kp (m:Mw):Prop:=(m.k=1∧Mm.Hel m.m)∨(m.k=2∧Mm.Shp m.m)∨(m.k=3∧Mm.Ack m.m)
def aZ (m:Mw):Mw:=⟨m.k,m.e,m.r,m.n,m.vs,m.ss,0,0,.slice none 0 0,[]⟩
def aY (m:Mw):Mw:=⟨m.k,m.e,0,0,.slice none 0 0,[],m.f,m.p,m.vc,m.cs⟩
def bG (m:Mw):Mw:=⟨m.k,m.e,0,m.n,.slice none 0 0,[],0,0,.slice none 0 0,[]⟩
theorem ajT {m:Mw}:lV m.m (aZ m).m=true↔m.f=0∧m.p=0∧aH m.cs=[]:=by
 rw[xI]
 constructor
 ·intro e
  exact⟨congrArg Mm.Msg.f e,congrArg Mm.Msg.p e,congrArg Mm.Msg.cs e⟩
 ·rintro⟨h1,h2,h3⟩
  exact Mm.Msg.eq rfl rfl rfl rfl rfl h1 h2 h3
theorem ak9 {m:Mw}:lV m.m (aY m).m=true↔m.r=0∧m.n=0∧m.ss=[]:=by
 rw[xI]
 constructor
 ·intro e
  exact⟨congrArg Mm.Msg.r e,congrArg Mm.Msg.n e,congrArg Mm.Msg.ss e⟩
 ·rintro⟨h1,h2,h3⟩
  exact Mm.Msg.eq rfl rfl h1 h2 h3 rfl rfl rfl
theorem ajM {m:Mw}:lV m.m (bG m).m=true↔m.r=0∧m.ss=[]∧m.f=0∧m.p=0∧aH m.cs=[]:=by
 rw[xI]
 constructor
 ·intro e
  exact⟨congrArg Mm.Msg.r e,congrArg Mm.Msg.ss e,congrArg Mm.Msg.f e,congrArg Mm.Msg.p e,congrArg Mm.Msg.cs e⟩
 ·rintro⟨h1,h2,h3,h4,h5⟩
  exact Mm.Msg.eq rfl rfl h1 rfl h2 h3 h4 h5
theorem agq {w:World}{m:Mw}(h:iY w m):iY w (aZ m):=⟨h.s,iy.nil _⟩
theorem ahh {w:World}{m:Mw}(h:iY w m):iY w (aY m):=⟨iA.nil _ _,h.c⟩
theorem aqS {w:World}{m:Mw}(h:iY w m):iY w (bG m):=⟨iA.nil _ _,iy.nil _⟩
theorem afy {m:Mw}(h:bQ m):bQ (aZ m):=⟨h.k,h.e,h.r0,h.r1,h.n,bQ.no.f,bQ.no.p,h.ls,bQ.no.fc,bQ.no.lc⟩
theorem adS {m:Mw}(h:bQ m):bQ (aY m):=⟨h.k,h.e,bQ.no.r0,bQ.no.r1,bQ.no.n,h.f,h.p,bQ.no.ls,h.fc,h.lc⟩
theorem alO {m:Mw}(h:bQ m):bQ (bG m):=⟨h.k,h.e,bQ.no.r0,bQ.no.r1,h.n,bQ.no.f,bQ.no.p,bQ.no.ls,bQ.no.fc,bQ.no.lc⟩
theorem yJ {a b:Bool}(h:a=true↔b=true):a=b:=by cases a<;>cases b<;>simp_all
theorem awh {m:Mw}(h:m.k=1):Kp m↔yB (aZ m)∧lV m.m (aZ m).m=true:=by
 rw[ajT]
 constructor
 ·rintro(⟨_,a1,a2,a3,a4,a5,a6,a7⟩|⟨k,_⟩|⟨k,_⟩)
  ·exact⟨⟨a1,a2,a3,a4⟩,a5,a6,a7⟩
  ·omega
  ·omega
 ·rintro⟨⟨a1,a2,a3,a4⟩,a5,a6,a7⟩
  exact .inl ⟨h,a1,a2,a3,a4,a5,a6,a7⟩
theorem avU {m:Mw}(h:m.k=2):Kp m↔abh (aY m)∧lV m.m (aY m).m=true:=by
 rw[ak9]
 constructor
 ·rintro(⟨k,_⟩|⟨_,a1,a2,a3,a4,a5,a6,a7,a8,a9,a10,a11⟩|⟨k,_⟩)
  ·omega
  ·exact⟨⟨a1,a2,a3,a4,a5,by have:=a6;simp only[Mw.m,dE]at this;exact this,a7,a8⟩,a9,a10,a11⟩
  ·omega
 ·rintro⟨⟨a1,a2,a3,a4,a5,a6,a7,a8⟩,a9,a10,a11⟩
  exact .inr (.inl ⟨h,a1,a2,a3,a4,a5,by simp only[Mw.m,dE];exact a6,a7,a8,a9,a10,a11⟩)
theorem awg {m:Mw}(h:m.k=3):Kp m↔(0≤m.n∧m.n≤1048576)∧lV m.m (bG m).m=true:=by
 rw[ajM]
 constructor
 ·rintro(⟨k,_⟩|⟨k,_⟩|⟨_,a1,a2,a3,a4,a5,a6,a7⟩)
  ·omega
  ·omega
  ·exact⟨⟨a1,a2⟩,a3,a4,a5,a6,a7⟩
 ·rintro⟨⟨a1,a2⟩,a3,a4,a5,a6,a7⟩
  exact .inr (.inr ⟨h,a1,a2,a3,a4,a5,a6,a7⟩)
theorem af4 (m:Mw)(ans:Bool)(w:World)(hi:iY w m)(hf:bQ m)(he:1≤m.e)(h:nz ans (Kp m)):
  Calls Tryz.prog 126 #[mv m] w fun E w'=>E=.returned (.bool ans)∧Below w.heap.size w w':=by
 have HD:Hid (nz ans (Kp m)):=hide h
 obtain⟨ao,cap,hvs,_,_⟩:=hi.s.shape
 obtain⟨mU,cap2,dD,_,_⟩:=hi.c.1.shape
 rw[iL hvs dD]
 have jF:=hide hvs
 have jG:=hide dD
 obtain⟨w1,hw1,aT,ak,hA⟩:=xC w m hvs dD
 obtain⟨a0,a1,a2,a3,a4,a5,a6,a7⟩:=hA.lT hvs dD
 clear hvs dD
 obtain⟨w2,abl,hw2,dm,az,hO,_⟩:=an0 w1 26 (.int .i64 0) (.int .i64 0) (.int .u8 0) (.int .i64 0) (.slice none 0 0) (.int .i64 0) (.int .i64 0) (.slice none 0 0) (.int .i64 m.k) (.int .i64 m.e) (.int .u8 0) (.int .i64 0) (.slice none 0 0) (.int .i64 0) (.int .i64 0) (.slice none 0 0)
 rw[aT]at hO abl
 have hA2:=hA.below az
 obtain⟨c0,c1,c2,c3,c4,c5,c6,c7⟩:=hA2.lT jF.out jG.out
 obtain⟨d0,d1,d2,d3,d4,d5,d6,d7⟩:=df hO
 have s2:w2.setCell ⟨w.heap.size+1,2,none⟩ (.int .u8 0)=w2:=aM hO (j:=2) rfl
 have s3:w2.setCell ⟨w.heap.size+1,3,none⟩ (.int .i64 0)=w2:=aM hO (j:=3) rfl
 have s4:w2.setCell ⟨w.heap.size+1,4,none⟩ (.slice none 0 0)=w2:=aM hO (j:=4) rfl
 have s5:w2.setCell ⟨w.heap.size+1,5,none⟩ (.int .i64 0)=w2:=aM hO (j:=5) rfl
 have s6:w2.setCell ⟨w.heap.size+1,6,none⟩ (.int .i64 0)=w2:=aM hO (j:=6) rfl
 have s7:w2.setCell ⟨w.heap.size+1,7,none⟩ (.slice none 0 0)=w2:=aM hO (j:=7) rfl
 have f2:=aB hO 2
 have f3:=aB hO 3
 have f4:=aB hO 4
 have f5:=aB hO 5
 have f6:=aB hO 6
 have f7:=aB hO 7
 have aK:Below w.heap.size w w2:=ak.trans (az.mono (by omega))
 have HI:=hide hi
 have HF:=hide hf
 have hlt:w.heap.size<w2.heap.size:=by omega
 clear h hA hi hf ak az
 go_enter Tryz.func126,Tryz.ntmps126
 by_cases h1:m.k=1
 ·have h1':(m.k==1)=true:=by simp[h1]
  have HK:=hide (awh h1)
  clear h1
  obtain⟨V2,hV2,rV2,gV2,zV2⟩:=putAt hO 2 (.int .u8 m.r)
  have bV2:V2.heap[w.heap.size+1]? =some (.cells #[.int .i64 m.k,.int .i64 m.e,.int .u8 m.r,.int .i64 0,.slice none 0 0,.int .i64 0,.int .i64 0,.slice none 0 0] 26 (0,0)):=rV2
  have szV2:=gV2.size
  have AV2:fw V2 w.heap.size m:=(gV2.block w.heap.size (by omega) (by simp)).trans hA2
  have apg:=aF aK gV2 (by omega) (by omega)
  obtain⟨l20,l21,l22,l23,l24,l25,l26,l27⟩:=AV2.lT jF.out jG.out
  obtain⟨y20,y21,y22,y23,y24,y25,y26,y27⟩:=df bV2
  obtain⟨V3,hV3,rV3,zT,zV3⟩:=putAt bV2 3 (.int .i64 m.n)
  have bV3:V3.heap[w.heap.size+1]? =some (.cells #[.int .i64 m.k,.int .i64 m.e,.int .u8 m.r,.int .i64 m.n,.slice none 0 0,.int .i64 0,.int .i64 0,.slice none 0 0] 26 (0,0)):=rV3
  have avV:=zT.size
  have AV3:fw V3 w.heap.size m:=(zT.block w.heap.size (by omega) (by simp)).trans AV2
  have qB:=aF apg zT (by omega) (by omega)
  obtain⟨l30,l31,l32,l33,l34,l35,l36,l37⟩:=AV3.lT jF.out jG.out
  obtain⟨y30,y31,y32,y33,y34,y35,y36,y37⟩:=df bV3
  obtain⟨V4,hV4,rV4,vK,zV4⟩:=putAt bV3 4 (.slice ao m.ss.length cap)
  have bV4:V4.heap[w.heap.size+1]? =some (.cells #[.int .i64 m.k,.int .i64 m.e,.int .u8 m.r,.int .i64 m.n,.slice ao m.ss.length cap,.int .i64 0,.int .i64 0,.slice none 0 0] 26 (0,0)):=rV4
  have szV4:=vK.size
  have AV4:fw V4 w.heap.size m:=(vK.block w.heap.size (by omega) (by simp)).trans AV3
  have aqb:=aF qB vK (by omega) (by omega)
  obtain⟨Vd,vJ⟩:∃X,V4.drew=X:=⟨_,rfl⟩
  have szd:Vd.heap.size=V4.heap.size:=by rw[←vJ];rfl
  have AV:Hid (fw Vd w.heap.size m):=hide (by rw[←vJ];exact AV4)
  have OV:Hid (fw Vd (w.heap.size+1) (aZ m)):=hide (by rw[←vJ];unfold fw;rw[ahW (m:=aZ m) (a:=.slice ao m.ss.length cap) (b:=.slice none 0 0) jF.out rfl];exact bV4)
  have iU:Below w.heap.size w Vd:=by rw[←vJ];exact aqb.drew
  clear AV4 bV4 aqb
  clear rV2
  clear rV3
  clear rV4
  clear bV2 AV2 apg
  clear bV3 AV3 qB
  clear gV2
  clear zT
  clear vK
  clear hO hA2 aK
  go_wp2
  go_region
  clear hV2 hV3 hV4 vJ hw1 hw2 abl s2 s3 s4 s5 s6 s7 f2 f3 f4 f5 f6 f7 a0 a1 a2 a3 a4 a5 a6 a7 c0 c1 c2 c3 c4 c5 c6 c7 d0 d1 d2 d3 d4 d5 d6 d7
  clear l20 l21 l22 l23 l24 l25 l26 l27 y20 y21 y22 y23 y24 y25 y26 y27
  clear l30 l31 l32 l33 l34 l35 l36 l37 y30 y31 y32 y33 y34 y35 y36 y37
  have OE:∀W,fw W (w.heap.size+1) (aZ m)→Ei W (w.heap.size+1) (.int .i64 m.k) (.int .i64 m.e) (.int .u8 m.r) (.int .i64 m.n) (.slice ao m.ss.length cap) (.int .i64 0) (.int .i64 0) (.slice none 0 0):=fun W k=>k.lT jF.out rfl
  have OE:=hide OE
  obtain⟨e0,e1,e2,e3,e4,e5,e6,e7⟩:=OE.out _ OV.out
  obtain⟨hm,hhm⟩:=afh (yB (aZ m))
  have HM:=hide hhm
  clear hhm
  go_wp2_with fail
  have XX:=aba (aZ m) hm Vd (agq (HI.out.below iU)) (afy HF.out) (show(0:Int)≤m.e by omega) HM.out
  rw[iL (m:=aZ m) (a:=.slice ao m.ss.length cap) (b:=.slice none 0 0) jF.out rfl]at XX
  refine XX.mono ?_
  clear XX
  rintro E w3 ⟨rfl,aC⟩
  clear e0 e1 e2 e3 e4 e5 e6 e7
  have bJ:=aC.size
  have aW:=iU.trans (aC.mono (by omega))
  have hm':nz hm (yB (aZ m)):=HM.out
  cases hm
  ·obtain rfl:ans=false:=HD.out.no fun k=>by
    have:=hm'.2 (HK.out.1 k).1
    simp at this
   clear hm'
   go_wp2
   go_ret
   exact⟨rfl,aW⟩
  ·have hs:Hid (ans=lV m.m (aZ m).m):=hide (yJ (HD.out.trans (HK.out.trans ⟨fun k=>k.2,fun k=>⟨hm'.1 rfl,k⟩⟩)))
   clear hm'
   obtain⟨e0,e1,e2,e3,e4,e5,e6,e7⟩:=OE.out _ (OV.out.below aC)
   obtain⟨x0,x1,x2,x3,x4,x5,x6,x7⟩:=(AV.out.below aC).lT jF.out jG.out
   go_wp2_with fail
   have XX:=vM m (aZ m) w3 (HI.out.below aW) (agq (HI.out.below aW)) HF.out (afy HF.out)
   rw[iL jF.out jG.out,iL (m:=aZ m) (a:=.slice ao m.ss.length cap) (b:=.slice none 0 0) jF.out rfl]at XX
   refine XX.mono ?_
   clear XX
   rintro E w4 ⟨rfl,aL⟩
   rw[←hs.out]
   have di:=aW.trans (aL.mono (by omega))
   go_wp2
   go_ret
   exact⟨rfl,di⟩
 have h1':(m.k==1)=false:=by simpa using h1
 by_cases h2:m.k=2
 ·have h2':(m.k==2)=true:=by simp[h2]
  have HK:=hide (avU h2)
  clear h2
  obtain⟨V5,uK,rV5,rF,zV5⟩:=putAt hO 5 (.int .i64 m.f)
  have xY:V5.heap[w.heap.size+1]? =some (.cells #[.int .i64 m.k,.int .i64 m.e,.int .u8 0,.int .i64 0,.slice none 0 0,.int .i64 m.f,.int .i64 0,.slice none 0 0] 26 (0,0)):=rV5
  have szV5:=rF.size
  have AV5:fw V5 w.heap.size m:=(rF.block w.heap.size (by omega) (by simp)).trans hA2
  have ap9:=aF aK rF (by omega) (by omega)
  obtain⟨l50,l51,l52,l53,l54,l55,l56,l57⟩:=AV5.lT jF.out jG.out
  obtain⟨y50,y51,y52,y53,y54,y55,y56,y57⟩:=df xY
  obtain⟨V6,hV6,rV6,gV6,zV6⟩:=putAt xY 6 (.int .i64 m.p)
  have bV6:V6.heap[w.heap.size+1]? =some (.cells #[.int .i64 m.k,.int .i64 m.e,.int .u8 0,.int .i64 0,.slice none 0 0,.int .i64 m.f,.int .i64 m.p,.slice none 0 0] 26 (0,0)):=rV6
  have szV6:=gV6.size
  have AV6:fw V6 w.heap.size m:=(gV6.block w.heap.size (by omega) (by simp)).trans AV5
  have apo:=aF ap9 gV6 (by omega) (by omega)
  obtain⟨l60,l61,l62,l63,l64,l65,l66,l67⟩:=AV6.lT jF.out jG.out
  obtain⟨y60,y61,y62,y63,y64,y65,y66,y67⟩:=df bV6
  obtain⟨V7,hV7,rV7,gV7,zV7⟩:=putAt bV6 7 (.slice mU m.cs.length cap2)
  have bV7:V7.heap[w.heap.size+1]? =some (.cells #[.int .i64 m.k,.int .i64 m.e,.int .u8 0,.int .i64 0,.slice none 0 0,.int .i64 m.f,.int .i64 m.p,.slice mU m.cs.length cap2] 26 (0,0)):=rV7
  have szV7:=gV7.size
  have AV7:fw V7 w.heap.size m:=(gV7.block w.heap.size (by omega) (by simp)).trans AV6
  have apk:=aF apo gV7 (by omega) (by omega)
  obtain⟨Vd,vJ⟩:∃X,V7.drew=X:=⟨_,rfl⟩
  have szd:Vd.heap.size=V7.heap.size:=by rw[←vJ];rfl
  have AV:Hid (fw Vd w.heap.size m):=hide (by rw[←vJ];exact AV7)
  have OV:Hid (fw Vd (w.heap.size+1) (aY m)):=hide (by rw[←vJ];unfold fw;rw[ahW (m:=aY m) (a:=.slice none 0 0) (b:=.slice mU m.cs.length cap2) rfl jG.out];exact bV7)
  have iU:Below w.heap.size w Vd:=by rw[←vJ];exact apk.drew
  clear AV7 bV7 apk
  clear rV5
  clear rV6
  clear rV7
  clear xY AV5 ap9
  clear bV6 AV6 apo
  clear rF
  clear gV6
  clear gV7
  clear hO hA2 aK
  go_wp2
  go_region
  clear uK hV6 hV7 vJ hw1 hw2 abl s2 s3 s4 s5 s6 s7 f2 f3 f4 f5 f6 f7 a0 a1 a2 a3 a4 a5 a6 a7 c0 c1 c2 c3 c4 c5 c6 c7 d0 d1 d2 d3 d4 d5 d6 d7
  clear l50 l51 l52 l53 l54 l55 l56 l57 y50 y51 y52 y53 y54 y55 y56 y57
  clear l60 l61 l62 l63 l64 l65 l66 l67 y60 y61 y62 y63 y64 y65 y66 y67
  have OE:∀W,fw W (w.heap.size+1) (aY m)→Ei W (w.heap.size+1) (.int .i64 m.k) (.int .i64 m.e) (.int .u8 0) (.int .i64 0) (.slice none 0 0) (.int .i64 m.f) (.int .i64 m.p) (.slice mU m.cs.length cap2):=fun W k=>k.lT rfl jG.out
  have OE:=hide OE
  obtain⟨e0,e1,e2,e3,e4,e5,e6,e7⟩:=OE.out _ OV.out
  obtain⟨hm,hhm⟩:=afh (abh (aY m))
  have HM:=hide hhm
  clear hhm
  go_wp2_with fail
  have XX:=ac6 (aY m) hm Vd (ahh (HI.out.below iU)) (adS HF.out) HM.out
  rw[iL (m:=aY m) (a:=.slice none 0 0) (b:=.slice mU m.cs.length cap2) rfl jG.out]at XX
  refine XX.mono ?_
  clear XX
  rintro E w3 ⟨rfl,aC⟩
  clear e0 e1 e2 e3 e4 e5 e6 e7
  have bJ:=aC.size
  have aW:=iU.trans (aC.mono (by omega))
  have hm':nz hm (abh (aY m)):=HM.out
  cases hm
  ·obtain rfl:ans=false:=HD.out.no fun k=>by
    have:=hm'.2 (HK.out.1 k).1
    simp at this
   clear hm'
   go_wp2
   go_ret
   exact⟨rfl,aW⟩
  ·have hs:Hid (ans=lV m.m (aY m).m):=hide (yJ (HD.out.trans (HK.out.trans ⟨fun k=>k.2,fun k=>⟨hm'.1 rfl,k⟩⟩)))
   clear hm'
   obtain⟨e0,e1,e2,e3,e4,e5,e6,e7⟩:=OE.out _ (OV.out.below aC)
   obtain⟨x0,x1,x2,x3,x4,x5,x6,x7⟩:=(AV.out.below aC).lT jF.out jG.out
   go_wp2_with fail
   have XX:=vM m (aY m) w3 (HI.out.below aW) (ahh (HI.out.below aW)) HF.out (adS HF.out)
   rw[iL jF.out jG.out,iL (m:=aY m) (a:=.slice none 0 0) (b:=.slice mU m.cs.length cap2) rfl jG.out]at XX
   refine XX.mono ?_
   clear XX
   rintro E w4 ⟨rfl,aL⟩
   rw[←hs.out]
   have di:=aW.trans (aL.mono (by omega))
   go_wp2
   go_ret
   exact⟨rfl,di⟩
 have h2':(m.k==2)=false:=by simpa using h2
 by_cases h3:m.k=3
 ·have h3':(m.k==3)=true:=by simp[h3]
  have HK:=hide (awg h3)
  clear h3
  obtain⟨V3,hV3,rV3,zT,zV3⟩:=putAt hO 3 (.int .i64 m.n)
  have bV3:V3.heap[w.heap.size+1]? =some (.cells #[.int .i64 m.k,.int .i64 m.e,.int .u8 0,.int .i64 m.n,.slice none 0 0,.int .i64 0,.int .i64 0,.slice none 0 0] 26 (0,0)):=rV3
  have avV:=zT.size
  have AV3:fw V3 w.heap.size m:=(zT.block w.heap.size (by omega) (by simp)).trans hA2
  have qB:=aF aK zT (by omega) (by omega)
  obtain⟨x0,x1,x2,x3,x4,x5,x6,x7⟩:=AV3.lT jF.out jG.out
  obtain⟨e0,e1,e2,e3,e4,e5,e6,e7⟩:=df bV3
  clear rV3 zT bV3 hO hA2 aK
  by_cases p1:0≤m.n
  ·by_cases p2:m.n≤1048576
   ·have hs:Hid (ans=lV m.m (bG m).m):=hide (yJ (HD.out.trans (HK.out.trans ⟨fun k=>k.2,fun k=>⟨⟨p1,p2⟩,k⟩⟩)))
    go_wp2_with fail
    have XX:=vM m (bG m) V3 (HI.out.below qB) (aqS (HI.out.below qB)) HF.out (alO HF.out)
    rw[iL jF.out jG.out]at XX
    refine XX.mono ?_
    clear XX
    rintro E w4 ⟨rfl,aL⟩
    rw[←hs.out]
    have di:=qB.trans (aL.mono (by omega))
    go_wp2
    go_ret
    exact⟨rfl,di⟩
   ·obtain rfl:ans=false:=HD.out.no fun k=>p2 (HK.out.1 k).1.2
    have p3:(1048576:Int)<m.n:=by omega
    go_wp2
    go_ret
    exact⟨rfl,qB⟩
  ·obtain rfl:ans=false:=HD.out.no fun k=>p1 (HK.out.1 k).1.1
   have p3:m.n<0:=by omega
   go_wp2
   go_ret
   exact⟨rfl,qB⟩
 have h3':(m.k==3)=false:=by simpa using h3
 obtain rfl:ans=false:=HD.out.no fun k=>by
  rcases k with⟨k,_⟩|⟨k,_⟩|⟨k,_⟩<;>omega
 go_wp2
 go_ret
 exact⟨rfl,aK⟩
theorem tK (m:Mw)(c:Int)(w:World)(hi:iY w m)(hf:bQ m)(hc:Mm.Ck m.m c):
  Calls Tryz.prog 58 #[mv m] w fun E w'=>E=.returned (.int .i64 c)∧Below w.heap.size w w':=by
 have HC:=hide hc
 have NO:Hid (¬Mm.Ok m.m→c=2):=hide fun h=>by
  rcases HC.out with⟨_,k⟩|⟨e,_⟩
  ·exact absurd k h
  ·exact e
 unfold mv
 obtain⟨w1,hw1,aT,ak,hA⟩:=yM w m
 obtain⟨a0,a1,a2,a3,a4,a5,a6,a7⟩:=hA.ei
 clear hA hc
 go_enter Tryz.func58,Tryz.ntmps58
 by_cases h1:m.e<1
 ·obtain rfl:=NO.out fun k=>by have:1≤m.e:=k.1;omega
  go_wp2
  go_ret
  exact⟨rfl,ak⟩
 by_cases h2:1048576<m.e
 ·obtain rfl:=NO.out fun k=>by have:m.e≤1048576:=k.2.1;omega
  go_wp2
  go_ret
  exact⟨rfl,ak⟩
 obtain⟨ans,hy⟩:=afh (Kp m)
 have HY:=hide hy
 clear hy
 go_wp2_with fail
 refine(af4 m ans w1 (hi.below ak) hf (by omega) HY.out).mono ?_
 rintro E w2 ⟨rfl,az⟩
 have aO:=ak.trans (az.mono (by omega))
 have hy:=HY.out
 cases ans
 ·obtain rfl:=NO.out fun k=>by
   have:=hy.2 k.2.2
   simp at this
  clear hy
  go_wp2
  go_ret
  exact⟨rfl,aO⟩
 ·have hk:=hy.1 rfl
  obtain rfl:c=0:=by
   rcases HC.out with⟨e,_⟩|⟨_,k⟩
   ·exact e
   ·exact absurd ⟨by show 1≤m.e;omega,by show m.e≤1048576;omega,hk⟩ k
  clear hy hk
  go_wp2
  go_ret
  exact⟨rfl,aO⟩
structure Buf (g:Nat) (w:World) (vb:Value) (bs:List Int):Prop where
 box:w.heap[g]? =some (.cells #[vb] 61 (0,0))
 own:Own .u8 5 (g+1) w vb bs
structure BS (g:Nat) (w:World) (vb:Value) (w':World) (vb':Value) (bs':List Int):Prop where
 buf:Buf g w' vb' bs'
 out:Out (fun i=>i=g∨vb.ownBlock=some i) w w'
 at':∀b,vb'.ownBlock=some b→vb.ownBlock=some b∨w.heap.size≤b
theorem Buf.lt {g:Nat}{w:World}{vb:Value}{bs:List Int}(h:Buf g w vb bs):g<w.heap.size:=aA h.box
theorem Buf.below {g:Nat}{w w':World}{vb:Value}{bs:List Int}(h:Buf g w vb bs)(hb:Below w.heap.size w w'):Buf g w' vb bs:=⟨(hb.block g h.lt).trans h.box,h.own.below hb⟩
theorem BS.refl {g:Nat}{w:World}{vb:Value}{bs:List Int}(h:Buf g w vb bs):BS g w vb w vb bs:=⟨h,Out.refl _ _,fun b hb=>.inl hb⟩
theorem BS.of_below {g:Nat}{w w':World}{vb:Value}{bs:List Int}(h:Buf g w vb bs)(hb:Below w.heap.size w w'):BS g w vb w' vb bs:=⟨h.below hb,Out.of_below hb,fun b hb=>.inl hb⟩
theorem BS.trans {g:Nat}{w w1 w2:World}{v v1 v2:Value}{b1 b2:List Int}(h:BS g w v w1 v1 b1)(k:BS g w1 v1 w2 v2 b2):BS g w v w2 v2 b2:=by
 have hs:=h.out.size
 refine⟨k.buf,h.out.trans k.out fun i hi=>?_,fun b hb=>?_⟩
 ·rcases hi with rfl|hi
  ·exact .inl (.inl rfl)
  ·rcases h.at' i hi with e|e
   ·exact .inl (.inr e)
   ·exact .inr e
 ·rcases k.at' b hb with e|e
  ·exact h.at' b e
  ·exact .inr (by omega)
theorem BS.below {g:Nat}{w w':World}{v v':Value}{bs bs':List Int}(h:BS g w v w' v' bs')(hb:Buf g w v bs):Below g w w':=
 h.out.below (fun i hi=>by
  rcases hi with rfl|hi
  ·exact Nat.le_refl _
  ·have:=(hb.own.2.lt i hi).1;omega) (Nat.le_of_lt hb.lt)
theorem BS.stays {g:Nat}{w w':World}{v v':Value}{bs':List Int}(h:BS g w v w' v' bs'){i:Nat}(hi:i<w.heap.size)(h1:i≠g)(h2:v.ownBlock≠some i):w'.heap[i]? =w.heap[i]? :=
 h.out.block i hi fun k=>k.elim h1 h2
theorem ajp {g:Nat}{w w4 w5:World}{vb v':Value}{bs ys:List Int}(h:Buf g w vb bs)(hb:Below w.heap.size w w4)(ho:Own .u8 5 (g+1) w5 v' (bs++ys))(hg:w4.grownBy w5 vb.ownBlock)(ha:v'.ownBlock=vb.ownBlock∨v'.ownBlock=some w4.heap.size):
  BS g w vb (w5.setCell ⟨g,0,none⟩ v') v' (bs++ys)∧w5.cell? ⟨g,0,none⟩=some vb∧w5.frozen? ⟨g,0,none⟩=false:=by
 have hl:=h.lt
 have hs:=hb.size
 have hne:some g≠vb.ownBlock:=fun e=>by have:=(h.own.2.lt g e.symm).1;omega
 have b5:w5.heap[g]? =some (.cells #[vb] 61 (0,0)):=(hg.block g (by omega) hne).trans ((hb.block g hl).trans h.box)
 refine⟨⟨⟨aG b5 0 v',?_⟩,?_,?_⟩,ai b5 0 rfl,aB b5 0⟩
 ·refine ho.kept (ax w5 ⟨g,0,none⟩ v') ?_
  cases e:v'.ownBlock with
  |none=>exact .inl rfl
  |some b=>exact .inr (by have:=(ho.2.lt b e).1;simp;omega)
 ·refine(Out.of_below (F:=fun i=>i=g∨vb.ownBlock=some i) hb).trans (G:=fun i=>i=g∨vb.ownBlock=some i) ?_ (fun i hi=>.inl hi)
  refine(Out.aP (F:=fun i=>i=g∨vb.ownBlock=some i) hg (fun i hi=>.inr hi)).trans (G:=fun i=>i=g) ?_ (fun i hi=>.inl (.inl hi))
  exact Out.aP (ax w5 ⟨g,0,none⟩ v') (fun i hi=>by simpa using hi.symm)
 ·intro b hbb
  rcases ha with e|e
  ·exact .inl (by rw[←e];exact hbb)
  ·rw[e]at hbb
   simp at hbb
   exact .inr (by omega)
theorem Tryz.ajP:∀args w,(callFunc 155 args).run Tryz.prog w=.ok (.enter 155 args) w:=enters_of Tryz.func155 (by kernel_rfl) rfl
theorem alJ (l:List Int)(k:Nat)(x:Int)(h:l[k]? =some x):Pm.encs (l.take (k+1))=Pm.encs (l.take k)++Vm.enc x.toNat:=by
 rw[List.take_add_one,h,Pm.iI]
 simp[Pm.encs]
theorem aho (l:List Int)(k:Nat)(h:∀z∈l,z<18446744073709551616):(Pm.encs (l.take k)).length≤10*l.length:=by
 have h1:=(Pm.sS (l:=l.take k) (fun z hz=>h z (List.mem_of_mem_take hz))).1
 have:(l.take k).length≤l.length:=List.length_take_le' _ _
 omega
theorem wrap_u64 {x:Int}(h0:0≤x)(h1:x<18446744073709551616):IntKind.u64.wrap x=x:=by
 unfold IntKind.wrap
 simp[IntKind.bits,IntKind.signed]
 omega
theorem aq3 (vz:Value)(zs:List Int)(g:Nat)(vb:Value)(bs:List Int)(w:World)(hz:Is .i64 w vz zs)(h0:0<zs.length)(hp:∀z∈zs,0≤z)(hb:Buf g w vb bs)(hd:∀b,vz.ownBlock=some b→b≠g∧vb.ownBlock≠some b)(hl:bs.length+10*zs.length≤100000000000000):
  Calls Tryz.prog 154 #[vz,.pointer (some ⟨g,0,none⟩)] w fun E w'=>E=.returned (.tuple #[])∧∃vb',BS g w vb w' vb' (bs++Pm.encs zs):=by
 obtain⟨b1,o1,c1,hvz,hc1,hm1,hB1,hcell⟩:=hz.full h0
 have hd':=hd b1 (by rw[hvz];rfl)
 have hw64:∀z∈zs,z<18446744073709551616:=fun z hzz=>by
  have:=range_i64 hz.1 (zs.idxOf z)
  have e:zs[zs.idxOf z]?.getD 0=z:=by
   have hlt:=List.idxOf_lt_length_of_mem hzz
   rw[List.getElem?_eq_getElem hlt]
   simp
  rw[e]at this
  have h2:=this.2
  omega
 have HW:=hide hw64
 have HP:=hide hp
 have HCE:=hide hcell
 have HB:=hide hb
 have HX:Hid (BS g w vb w vb (bs++Pm.encs (zs.take 0))):=hide (by simpa[Pm.encs]using BS.refl hb)
 have HL:=hide hl
 subst hvz
 generalize hn:zs.length=n at*
 have HN:=hide hn
 have hn64:n≤10000000000000:=by omega
 clear hz hp hcell hb hd hl hn hw64
 go_enter Tryz.func154,Tryz.ntmps154
 go_wp2
 go_loopw [7] (fun i wr=>∃(k:Nat) (v:Value),k≤n∧i=.int .i64 k∧Hid (BS g w vb wr v (bs++Pm.encs (zs.take k)))) (fun i _=>n-(intOf i).toNat)
 case atStart=>exact⟨0,vb,by omega,rfl,HX⟩
 case round=>
  obtain⟨k,v,hk,rfl,HT⟩:=hrel
  have hbw:=HT.out.buf
  by_cases hlt:k<n
  ·obtain⟨x,hx⟩:=lM (l:=zs) (k:=k) (by have:=HN.out;omega)
   have hxm:=List.mem_of_getElem? hx
   have hx0:=HP.out x hxm
   have hx1:=HW.out x hxm
   have d0:wr.cell? ⟨b1,o1+k,none⟩=some (.int .i64 x):=by
    have h1:=HCE.out k hlt
    rw[List.getD_eq_getElem?_getD,hx]at h1
    rw[World.cell?_of_block (HT.out.stays hB1 hd'.1 hd'.2)]
    exact h1
   have hlt':(k:Int)<n:=by omega
   have cb:wr.cell? ⟨g,0,none⟩=some v:=ai hbw.box 0 rfl
   have hwx:=wrap_u64 hx0 hx1
   have hgl:=hbw.lt
   have hsz:=Vm.kQ (x:=x.toNat) (by omega)
   unfold Vm.sz at hsz
   have hlen:(bs++Pm.encs (zs.take k)).length+10≤140737488355328:=by
    have h1:=aho zs k HW.out
    rw[HN.out]at h1
    have h2:=HL.out
    rw[List.length_append]
    omega
   have HLE:=hide hlen
   have HE:=hide (alJ zs k x hx)
   have HBW:=hide hbw
   clear hx hxm hbw hlen
   go_wp2_with fail
   go_region_law (first
    |(refine rE rfl 155 #[.const (.slice none 0 0),.tmp 13] #[61,212] rfl Tryz.ajP #[.slice none 0 0,.int .u64 x] (by simp[Act.eval,Act.put]) ((fK _ [] x _ (Is.nil _ _) (by simp) hx0 hx1).mono (by rintro E w' ⟨v',rfl,h⟩;exact⟨v',rfl,h⟩)) ?_;rintro v4 w4 ⟨bq,ao0⟩;have aL:Below wr.heap.size wr w4:=((Below.refl _ _).drew).trans ao0;have cb4:=(aL.cell (p:=⟨g,0,none⟩) hgl).trans cb;clear ao0)
    |(refine dY rfl (.tmp 11) (.tmp 14) 61 rfl v v4 (by simp[Act.eval]) (by simp[Act.eval]) (fun ty=>ig (P:=Tryz.prog) 61 ty .u8 5 (g+1) 1 Tryz.underlying61 Tryz.info5 (by decide) _ _ (HBW.out.own.below aL) _ _ bq.is (by rw[List.nil_append];have:=HLE.out;omega) (by have:=aL.size;omega)) ?_;rintro v5 w5 ⟨dx,gr5,at5⟩;rw[List.nil_append]at dx;obtain⟨a5,l5,n5,hv5⟩:=dx.is.form;subst hv5;obtain⟨hbs,cb5,fr5⟩:=ajp HBW.out aL dx gr5 at5;have qp:=hide hbs;clear hbs dx gr5 at5))
   all_goals
    go_wp2
    go_roundw
    case rel=>exact⟨k+1,_,by omega,by go_num,hide (by rw[HE.out,←List.append_assoc];exact HT.out.trans qp.out)⟩
    case measure=>simp[intOf];omega
  ·have hlt':¬(k:Int)<n:=by omega
   have HE:Hid (BS g w vb wr v (bs++Pm.encs zs)):=hide (by
    have:=HT.out
    rw[List.take_of_length_le (by rw[HN.out];omega)]at this
    exact this)
   clear HT hbw
   go_wp2
   go_end0
   exact⟨rfl,v,HE.out⟩
end Go.Proofs.YtlmkaljjocflmaaGreatDoor
