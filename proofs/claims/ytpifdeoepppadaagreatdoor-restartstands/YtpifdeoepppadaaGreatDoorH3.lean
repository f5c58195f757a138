/- Texts of one layer, one behind the other. -/
import Derived.Test.YtpifdeoepppadaaGreatDoorG3
import Derived.Test.YtpifdeoepppadaaGreatDoorH1
import Derived.Test.YtpifdeoepppadaaGreatDoorH2
import Derived.Test.YtpifdeoepppadaaGreatDoorG13
import Derived.Deep.RegionHeld3
import Derived.Test.YtpifdeoepppadaaGreatDoorH4
import Derived.Test.YtpifdeoepppadaaGreatDoorZPj
import Derived.Test.YtpifdeoepppadaaGreatDoorG7
set_option maxRecDepth 100000
set_option maxHeartbeats 8000000
namespace Go.Proofs.YtpifdeoepppadaaGreatDoor
open Go.RowKit
open Bm (Ov)
set_option linter.unusedVariables false
theorem uL {e n:Int}{l:List Ov}(h:Cm.aJ e n l=0):fG l∧l.length*40≤140737488351232∧In64 e∧In64 n∧l.length≤8:=by
 obtain⟨h1,h2,h3,h4,h5⟩:=Cm.bu h
 obtain⟨k1,k2,k3⟩:=Bm.dM h5
 refine⟨fun o ho=>?_,by omega,⟨by omega,by omega⟩,⟨by omega,by omega⟩,k2⟩
 obtain⟨_,k2,k3,_⟩:=Om.fI (k3 o ho)
 have e1:o.k.size=o.k.data.toList.length:=rfl
 have e2:o.v.size=o.v.data.toList.length:=rfl
 have e3:o.kl=o.k.data.toList:=rfl
 have e4:o.vl=o.v.data.toList:=rfl
 rw[e3]at k2
 rw[e4]at k3
 omega
structure Rt (base:Nat) (w:World) (l:List Cm.Cv) (v:Value) (rs:List Cw):Prop where
 row:bG 32 base w v rs
 gT:fC base w rs
 is:aD rs=l
 good:∀c∈l,Cm.aJ c.e c.n c.l=0
 few:l.length≤1048576
section
variable {base base':Nat} {w w':World} {l:List Cm.Cv} {v:Value} {rs:List Cw} {F G:Nat→Prop}
theorem Rt.nil (base:Nat)(w:World):Rt base w [] (.slice none 0 0) []:=⟨bG.nil _ _ _,fun c hc=>by simp at hc,rfl,fun c hc=>by simp at hc,by simp⟩
theorem Rt.ty (h:Rt base w l v rs):∀g,QB v rs g→∃cs t,w.heap[g]? =some (.cells cs t (0,0))∧(t=32∨t=106):=by
 rintro g (hb|⟨c,hc,hb⟩)
 ·obtain⟨cs,e⟩:=h.row.type hb
  exact⟨_,_,e,.inl rfl⟩
 ·obtain⟨cs,e⟩:=(h.gT c hc).type hb
  exact⟨_,_,e,.inr rfl⟩
theorem Rt.lt (h:Rt base w l v rs):∀g,QB v rs g→g<w.heap.size:=fun g hg=>by
 obtain⟨cs,t,e,_⟩:=h.ty g hg
 exact aA e
theorem Rt.agree (h:Rt base w l v rs)(ha:∀g,QB v rs g→w'.heap[g]? =w.heap[g]?):Rt base w' l v rs:=
 ⟨dE h.row fun b hb=>ha b (.inl hb),fun c hc=>dE (h.gT c hc) fun b hb=>ha b (.inr ⟨c,hc,hb⟩),h.is,h.good,h.few⟩
theorem Rt.below (h:Rt base w l v rs)(hb:Below w.heap.size w w'):Rt base w' l v rs:=h.agree fun g hg=>hb.block g (h.lt g hg)
theorem Rt.out (h:Rt base w l v rs)(ho:Out F w w')(hd:∀g,QB v rs g→¬F g):Rt base w' l v rs:=h.agree fun g hg=>ho.block g (h.lt g hg) (hd g hg)
theorem Rt.ne (h:Rt base w l v rs){b:Nat}{cs:Array Value}{t:TypeId}{fr:Nat×Nat}(hb:w.heap[b]? =some (.cells cs t fr))(h1:t≠32)(h3:t≠106):¬QB v rs b:=by
 intro hg
 obtain⟨cs',t',e,ht⟩:=h.ty b hg
 rw[hb]at e
 simp only[Option.some.injEq,Obj.cells.injEq]at e
 obtain⟨_,e2,_⟩:=e
 subst e2
 rcases ht with e|e
 ·exact h1 e
 ·exact h3 e
theorem Rt.len (h:Rt base w l v rs):rs.length=l.length:=by rw[←h.is,aD,List.length_map]
theorem Rt.get (h:Rt base w l v rs):∀c∈rs,Cm.aJ c.e c.n c.l=0:=fun c hc=>by
 refine h.good c.c ?_
 rw[←h.is]
 exact List.mem_map.2 ⟨c,hc,rfl⟩
theorem Rt.yL (h:Rt base w l v rs):fJ w v rs:=⟨h.row.row,fun c hc=>⟨(h.gT c hc).is,(uL (h.get c hc)).2.2.1,(uL (h.get c hc)).2.2.2.1⟩⟩
theorem Rt.grow {v':Value}{c:Cw}(h:Rt base w l v rs)(ho:bG 32 base w' v' (rs++[c]))(hk:bK 32 w w')(hc:aV 106 base w c.v c.l)(hg:Cm.aJ c.e c.n c.l=0)(hn:l.length+1≤1048576):Rt base w' (l++[c.c]) v' (rs++[c]):=by
 refine⟨ho,fun d hd=>?_,by unfold aD;rw[List.map_append,←h.is];rfl,fun d hd=>?_,by rw[List.length_append,List.length_singleton];exact hn⟩
 ·rcases List.mem_append.1 hd with hd|hd
  ·exact(h.gT d hd).gq hk (by decide)
  ·rw[List.mem_singleton.1 hd]
   exact hc.gq hk (by decide)
 ·rcases List.mem_append.1 hd with hd|hd
  ·exact h.good d hd
  ·rw[List.mem_singleton.1 hd]
   exact hg
end
structure oG (ps p pm bm:Nat) (w:World) (l:List Cm.Cv) (v:Value) (rs:List Cw):Prop where
 blk:w.heap[ps]? =some (.cells #[.pointer (some ⟨p,0,none⟩),v,.pointer (some ⟨pm,0,none⟩)] 159 (0,0))
 rest:Rt 0 w l v rs
 tb:Tb pm bm w (Rl.tab l)
def SB (ps pm bm:Nat) (v:Value) (rs:List Cw) (g:Nat):Prop:=g=ps∨g=pm∨g=bm∨QB v rs g
def Sk (ps p:Nat) (G:Nat→Prop) (w:World) (l:List Cm.Cv):Prop:=∃pm bm v rs,oG ps p pm bm w l v rs∧G=SB ps pm bm v rs
section
variable {ps p pm bm q:Nat} {w w' w1 w2:World} {l:List Cm.Cv} {v:Value} {rs:List Cw} {F G F1:Nat→Prop}
theorem oG.lt (h:oG ps p pm bm w l v rs):∀g,SB ps pm bm v rs g→g<w.heap.size:=by
 rintro g (rfl|rfl|rfl|hg)
 ·exact aA h.blk
 ·exact h.tb.plt
 ·exact h.tb.blt
 ·exact h.rest.lt g hg
theorem oG.agree (h:oG ps p pm bm w l v rs)(ha:∀g,SB ps pm bm v rs g→w'.heap[g]? =w.heap[g]?):oG ps p pm bm w' l v rs:=
 ⟨(ha ps (.inl rfl)).trans h.blk,h.rest.agree fun g hg=>ha g (.inr (.inr (.inr hg))),h.tb.agree (ha pm (.inr (.inl rfl))) (ha bm (.inr (.inr (.inl rfl))))⟩
theorem oG.below (h:oG ps p pm bm w l v rs)(hb:Below w.heap.size w w'):oG ps p pm bm w' l v rs:=h.agree fun g hg=>hb.block g (h.lt g hg)
theorem oG.out (h:oG ps p pm bm w l v rs)(ho:Out F w w')(hd:∀g,SB ps pm bm v rs g→¬F g):oG ps p pm bm w' l v rs:=h.agree fun g hg=>ho.block g (h.lt g hg) (hd g hg)
theorem Sk.lt (h:Sk ps p G w l):∀g,G g→g<w.heap.size:=by
 obtain⟨pm,bm,v,rs,h,rfl⟩:=h
 exact h.lt
theorem Sk.agree (h:Sk ps p G w l)(ha:∀g,G g→w'.heap[g]? =w.heap[g]?):Sk ps p G w' l:=by
 obtain⟨pm,bm,v,rs,h,rfl⟩:=h
 exact⟨pm,bm,v,rs,h.agree ha,rfl⟩
theorem Sk.below (h:Sk ps p G w l)(hb:Below w.heap.size w w'):Sk ps p G w' l:=h.agree fun g hg=>hb.block g (h.lt g hg)
theorem Sk.out (h:Sk ps p G w l)(ho:Out F w w')(hd:∀g,G g→¬F g):Sk ps p G w' l:=h.agree fun g hg=>ho.block g (h.lt g hg) (hd g hg)
end
def SW (ps p q:Nat) (F:Nat→Prop) (w:World) (s:Sto.Ss):Prop:=∃F1 G1,RW p q F1 w s.r∧Sk ps p G1 w s.l∧(∀g,G1 g→¬F1 g)∧Sto.Ok s∧F=fun g=>F1 g∨G1 g
def kG (ps p q:Nat) (F:Nat→Prop) (w w':World) (s':Sto.Ss):Prop:=∃F',SW ps p q F' w' s'∧Out F w w'∧∀g,F' g→F g∨w.heap.size≤g
section
variable {ps p q:Nat} {F G:Nat→Prop} {w w' w1 w2:World} {s s':Sto.Ss}
theorem SW.lt (h:SW ps p q F w s):∀g,F g→g<w.heap.size:=by
 obtain⟨F1,G1,h1,h2,_,_,rfl⟩:=h
 rintro g (hg|hg)
 ·exact h1.lt g hg
 ·exact h2.lt g hg
theorem SW.agree (h:SW ps p q F w s)(ha:∀g,F g→w'.heap[g]? =w.heap[g]?):SW ps p q F w' s:=by
 obtain⟨F1,G1,h1,h2,h3,h4,rfl⟩:=h
 exact⟨F1,G1,h1.agree fun g hg=>ha g (.inl hg),h2.agree fun g hg=>ha g (.inr hg),h3,h4,rfl⟩
theorem SW.below (h:SW ps p q F w s)(hb:Below w.heap.size w w'):SW ps p q F w' s:=h.agree fun g hg=>hb.block g (h.lt g hg)
theorem SW.ok (h:SW ps p q F w s):Sto.Ok s:=by
 obtain⟨F1,G1,h1,h2,h3,h4,rfl⟩:=h
 exact h4
theorem kG.trans {F1:Nat→Prop}(ho:Out F w w1)(hs:∀g,F1 g→F g∨w.heap.size≤g)(k:kG ps p q F1 w1 w2 s'):kG ps p q F w w2 s':=by
 obtain⟨F2,h1,h2,h3⟩:=k
 refine⟨F2,h1,ho.trans h2 hs,fun g hg=>?_⟩
 rcases h3 g hg with h|h
 ·exact hs g h
 ·exact .inr (Nat.le_trans ho.size h)
theorem kG.same (h:SW ps p q F w s)(hb:Below w.heap.size w w'):kG ps p q F w w' s:=⟨F,h.below hb,Out.of_below hb,fun g hg=>.inl hg⟩
theorem kG.pre (hb:Below w.heap.size w w1)(h:kG ps p q F w1 w2 s'):kG ps p q F w w2 s':=h.trans (Out.of_below hb) fun g hg=>.inl hg
end
end Go.Proofs.YtpifdeoepppadaaGreatDoor
namespace Go.Proofs.YtpifdeoepppadaaGreatDoor
open Go.RowKit
set_option linter.unusedVariables false
def lF (bs:List Int) (l:List Cm.Cv):Prop:=Rl.Good 0 l∧Rl.aW l<+:bs
theorem lF.nil (bs:List Int):lF bs []:=⟨trivial,List.nil_prefix⟩
theorem lF.le {bs:List Int}{l:List Cm.Cv}(h:lF bs l):(Rl.aW l).length≤bs.length:=h.2.length_le
theorem lF.stop {bs z:List Int}{l:List Cm.Cv}{n:Nat}(h:lF bs l)(hr:Fm.Rd (bs.drop (Rl.aW l).length) z n 5):Rl.Lg 0 bs l:=by
 refine⟨h.1,h.2,fun c hc hp=>?_⟩
 rcases hr with⟨h0,_⟩|⟨_,_,_,h3⟩
 ·cases h0
 ·have:=Rl.mh hc.1
  exact h3 (Rl.rec c) (by omega) hp
theorem vQ {bs z:List Int}{n:Nat}(hr:Fm.Rd bs z n 0):z.length≤131072∧n=(Fm.dh z).length∧Fm.dh z<+:bs:=by
 rcases hr with⟨_,h1,h2,h3⟩|⟨h0,_⟩
 ·exact⟨h1,by rw[h2,Fm.jF],h3⟩
 ·cases h0
theorem lF.akG {bs z:List Int}{l:List Cm.Cv}{n:Nat}{e k:Int}{ops:List Bm.Ov}(h:lF bs l)(hr:Fm.Rd (bs.drop (Rl.aW l).length) z n 0)(hc:Rn.Dc z e k ops 5):Rl.Lg 0 bs l:=by
 obtain⟨_,_,h3⟩:=vQ hr
 refine⟨h.1,h.2,fun c hg hp=>?_⟩
 have e1:Rl.rec c=z:=Fm.iR hp h3
 rcases hc with⟨h0,_⟩|⟨_,_,_,_,h4⟩
 ·cases h0
 ·exact h4 c.e c.n c.l hg.1 e1
theorem lF.akS {bs z:List Int}{l:List Cm.Cv}{n:Nat}{e k:Int}{ops:List Bm.Ov}(h:lF bs l)(hr:Fm.Rd (bs.drop (Rl.aW l).length) z n 0)(hc:Rn.Dc z e k ops 0)(ht:¬e-1=Cm.lastN 0 l):Rl.Lg 0 bs l:=by
 obtain⟨_,_,h3⟩:=vQ hr
 refine⟨h.1,h.2,fun c hg hp=>?_⟩
 have e1:Rl.rec c=z:=Fm.iR hp h3
 rcases hc with⟨_,h1,h2⟩|⟨h0,_⟩
 ·obtain⟨a1,_,_⟩:=Rn.agd h1 hg.1 (bs:=z) (h2▸List.prefix_rfl) (e1▸List.prefix_rfl)
  have:=hg.2.1
  rw[a1]at this
  exact ht this
 ·cases h0
theorem lF.next {bs z:List Int}{l:List Cm.Cv}{n:Nat}{e k:Int}{ops:List Bm.Ov}(h:lF bs l)(hr:Fm.Rd (bs.drop (Rl.aW l).length) z n 0)(hc:Rn.Dc z e k ops 0)(ht:e-1=Cm.lastN 0 l):
  lF bs (l++[⟨e,k,ops⟩])∧(Rl.aW (l++[⟨e,k,ops⟩])).length=(Rl.aW l).length+n∧1≤n:=by
 obtain⟨_,h2,h3⟩:=vQ hr
 rcases hc with⟨_,h1,h4⟩|⟨h0,_⟩
 ·have e1:Rl.fr ⟨e,k,ops⟩=Fm.dh z:=by
   unfold Rl.fr Rl.rec
   rw[←h4]
  have e2:Rl.aW (l++[⟨e,k,ops⟩])=Rl.aW l++Fm.dh z:=by rw[Rl.jC,Rl.lU,e1]
  refine⟨⟨(Rl.mF h.1).2 ⟨h1,ht⟩,?_⟩,by rw[e2,List.length_append,h2],by rw[h2];exact Fm.qM _⟩
  rw[e2]
  exact Fm.og h.2 h3
 ·cases h0
theorem Rq.grow {base:Nat}{w w':World}{l:List Cm.Cv}{v v':Value}{rs:List Cw}{c:Cw}(h:Rq base w l v rs)(ho:bG 122 base w' v' (rs++[c]))(hk:bK 122 w w')(hc:aV 106 base w c.v c.l)(hg:Rl.Good 0 (l++[c.c])):Rq base w' (l++[c.c]) v' (rs++[c]):=by
 refine⟨ho,fun d hd=>?_,by unfold aD;rw[List.map_append,←h.is];rfl,hg⟩
 rcases List.mem_append.1 hd with hd|hd
 ·exact(h.gT d hd).gq hk (by decide)
 ·rw[List.mem_singleton.1 hd]
  exact hc.gq hk (by decide)
theorem alE (vb:Value)(bs:List Int)(w:World)(hb:Is .u8 w vb bs)(hl:bs.length≤1000000000):
  Calls Tryz.prog 158 #[vb] w fun E w'=>∃(l:List Cm.Cv) (v:Value) (rs:List Cw),E=.returned (.tuple #[v,.int .i64 (Rl.aW l).length])∧Rq w.heap.size w' l v rs∧Below w.heap.size w w'∧Hid (Rl.Lg 0 bs l):=by
 have HB:=hide hb
 obtain⟨ba,bc,hvb,_,_⟩:=hb.shape
 have Q0:Hid (lF bs []∧Rq w.heap.size w [] (.slice none 0 0) []∧Below w.heap.size w w):=hide ⟨lF.nil _,Rq.nil _ _,Below.refl _ _⟩
 clear hb
 subst hvb
 go_enter Tryz.func158,Tryz.ntmps158
 go_wp2
 go_loopw [2,3] (fun lv gv wr=>∃(l:List Cm.Cv) (n:Nat) (rs:List Cw),gv=.int .i64 n∧n=(Rl.aW l).length∧Hid (lF bs l∧Rq w.heap.size wr l lv rs∧Below w.heap.size w wr)) (fun _ gv _=>bs.length-(intOf gv).toNat)
 case atStart=>exact⟨[],0,[],rfl,rfl,Q0⟩
 case round=>
  clear Q0
  obtain⟨l,n,rs,rfl,hn,RS⟩:=hrel
  obtain⟨sa,sn,sk,hsv⟩:∃a n k,u2=.slice a n k:=by
   obtain⟨a1,k1,h1,_⟩:=RS.out.2.1.row.row.shape
   exact⟨a1,_,k1,h1⟩
  subst hsv
  have hle:=RS.out.1.le
  have ru:=RS.out.2.2.size
  have HN:=hide hn
  rw[←hn]at hle
  obtain⟨vs,hsl,dC⟩:=(HB.out.below RS.out.2.2).dP Tryz.age Tryz.agP n hle
  have HF:=hide (oN vs _ wr dC (by rw[List.length_drop];omega))
  clear dC hn
  go_wp2_with fail
  refine HF.out.mono ?_
  rintro E wa ⟨v1,z,k,e,rfl,bJ,ax,R⟩
  have sza:=ax.size
  have RA:=hide (show lF bs l∧Rq w.heap.size wa l (.slice sa sn sk) rs∧Below w.heap.size w wa from⟨RS.out.1,RS.out.2.1.below ax,RS.out.2.2.trans (ax.mono ru)⟩)
  clear HF RS hsl
  have R':Hid (Fm.Rd (bs.drop (Rl.aW l).length) z k e):=hide (by rw[←HN.out];exact R.out)
  clear R
  have R:=R'
  clear R'
  have he:e=0∨e=5:=by
   rcases R.out with h|h
   ·exact .inl h.1
   ·exact .inr h.1
  rcases he with rfl|rfl
  ·have hzl:z.length≤131072:=(vQ R.out).1
   have HD:=hide (aqn v1 z wa bJ.is (by omega))
   obtain⟨o1,k1,hv1,_,_⟩:=bJ.is.shape
   subst hv1
   clear bJ ax
   go_wp2_with fail
   refine HD.out.mono ?_
   rintro E wb ⟨ee,nn,g,vo,ops,rfl,zf,hcr,aB⟩
   have szb:=aB.size
   have hgg:=Rn.apZ hcr.out
   obtain⟨oa,on,ok,sj⟩:∃a n k,vo=.slice a n k:=by
    obtain⟨a1,k1,h1,_⟩:=zf.is.shape
    exact⟨a1,_,k1,h1⟩
   subst sj
   obtain⟨wc,hwc,ac8,szc,eU,bC,x0,x1,x2⟩:=dO wb 122 (.int .i64 0) (.int .i64 0) (.slice none 0 0) (.int .i64 ee) (.int .i64 nn) (.slice oa on ok)
   have akJ:=aB.trans (eU.mono szb)
   have RC:=hide (show lF bs l∧Rq w.heap.size wc l (.slice sa sn sk) rs∧Below w.heap.size w wc from⟨RA.out.1,RA.out.2.1.below akJ,RA.out.2.2.trans (akJ.mono (by omega))⟩)
   have OC:=hide (zf.below eU)
   unfold cZ
   clear RA HD zf aB eU akJ
   rcases hgg with rfl|rfl
   ·have hgl:=Rl.eB RC.out.1.1
    have FO:=hide (yI (.slice sa sn sk) rs ee nn (.slice oa on ok) wc RC.out.2.1.row.row RC.out.2.1.nA ⟨_,_,_,rfl⟩ (by rw[RC.out.2.1.is];exact hgl.2))
    rw[RC.out.2.1.is]at FO
    unfold cZ at FO
    obtain⟨ans,eT⟩:∃x,decide (ee-1=Cm.lastN 0 l)=x:=⟨_,rfl⟩
    rw[eT]at FO
    have HA:=hide eT
    clear eT
    go_wp2_with fail
    refine FO.out.mono ?_
    rintro E wd ⟨rfl,jP⟩
    have szd:=jP.size
    have RD:=hide (show lF bs l∧Rq w.heap.size wd l (.slice sa sn sk) rs∧Below w.heap.size w wd from⟨RC.out.1,RC.out.2.1.below jP,RC.out.2.2.trans (jP.mono (by omega))⟩)
    have OD:=hide (OC.out.below jP)
    have bD:=(jP.block _ (aA bC)).trans bC
    have y0:=ai bD 0 rfl
    have y1:=ai bD 1 rfl
    have y2:=ai bD 2 rfl
    simp only[List.getElem_toArray,List.getElem_cons_zero,List.getElem_cons_succ]at y0 y1 y2
    clear FO RC OC jP bC bD x0 x1 x2
    cases ans with
    |false=>
     have G:=hide (show Rq w.heap.size wd l (.slice sa sn sk) rs∧Below w.heap.size w wd∧Hid (Rl.Lg 0 bs l)from⟨RD.out.2.1,RD.out.2.2,hide (RD.out.1.akS R.out hcr.out (of_decide_eq_false HA.out))⟩)
     clear RD OD hcr
     go_wp2
     go_ret2
     exact⟨l,.slice sa sn sk,rs,by rw[←HN.out];rfl,G.out⟩
    |true=>
     obtain⟨g1,g2,g3⟩:=RD.out.1.next R.out hcr.out (of_decide_eq_true HA.out)
     obtain⟨we,hwe,sze,akD,axT⟩:=gN 122 wd #[.int .i64 ee,.int .i64 nn,.slice oa on ok] 1 [⟨ee,nn,.slice oa on ok,ops⟩] rfl rfl (by simp[maxLen])
     have RQE:=RD.out.2.1.below akD
     have OE:=hide (OD.out.below akD)
     have REE:=hide RQE
     have hre:=RQE.row
     have hze:w.heap.size≤we.heap.size:=by omega
     have hlen:(rs.length+[(⟨ee,nn,.slice oa on ok,ops⟩:Cw)].length)*40≤140737488355328:=by have:=RQE.nA;simp;omega
     have HG:=hide (show lF bs (l++[⟨ee,nn,ops⟩])∧(Rl.aW (l++[⟨ee,nn,ops⟩])).length=n+k∧1≤k from⟨g1,by rw[g2,HN.out],g3⟩)
     have hkb:n+k≤bs.length:=by rw[←HG.out.2.1];exact g1.le
     have hwr:=aN ((n:Int)+(k:Int)) (by omega) (by omega)
     have BE:=hide (RD.out.2.2.trans (akD.mono (by omega)))
     have ayC:=axT.row
     have hone:∀c∈[(⟨ee,nn,.slice oa on ok,ops⟩:Cw)],c.v.oneCell'=true:=fun c hc=>by rw[List.mem_singleton.1 hc];rfl
     clear g1 g2 RQE RD OD akD axT hcr
     go_wp2_with (at_builtin;refine jd rfl (.tmp 35) (.tmp 37) 67 rfl 122 w.heap.size Tryz.underlying67 Tryz.adD _ rs rfl hre _ [⟨ee,nn,.slice oa on ok,ops⟩] rfl ayC hone hlen hze ?_)
     rintro v7 w7 jO fQ kp7
     have RN:=hide (show lF bs (l++[⟨ee,nn,ops⟩])∧Rq w.heap.size w7 (l++[⟨ee,nn,ops⟩]) v7 (rs++[⟨ee,nn,.slice oa on ok,ops⟩])∧Below w.heap.size w w7 from⟨HG.out.1,REE.out.grow jO kp7 (OE.out.bz (by omega)) HG.out.1.1,BE.out.trans fQ⟩)
     clear jO kp7 fQ hre ayC REE OE BE
     go_wp2
     go_roundw
     case rel=>exact⟨_,n+k,_,by go_num,HG.out.2.1.symm,RN⟩
     case measure=>simp[intOf];omega
   ·have G:=hide (show Rq w.heap.size wc l (.slice sa sn sk) rs∧Below w.heap.size w wc∧Hid (Rl.Lg 0 bs l)from⟨RC.out.2.1,RC.out.2.2,hide (RC.out.1.akG R.out hcr.out)⟩)
    clear RC OC hcr
    go_wp2
    go_ret2
    exact⟨l,.slice sa sn sk,rs,by rw[←HN.out];rfl,G.out⟩
  ·have G:=hide (show Rq w.heap.size wa l (.slice sa sn sk) rs∧Below w.heap.size w wa∧Hid (Rl.Lg 0 bs l)from⟨RA.out.2.1,RA.out.2.2,hide (RA.out.1.stop R.out)⟩)
   obtain⟨o1,k1,hv1,_,_⟩:=bJ.is.shape
   subst hv1
   clear RA bJ ax R
   go_wp2
   go_ret2
   exact⟨l,.slice sa sn sk,rs,by rw[←HN.out];rfl,G.out⟩
theorem asb {base q:Nat}{F:Nat→Prop}{w:World}{l:List Cm.Cv}{v:Value}{rs:List Cw}{st:Dm.Ds}(h:Rq base w l v rs)(k:Pk q F w st):∀g,QB v rs g→¬F g:=by
 intro g hg hf
 obtain⟨cs,t,e,ht⟩:=h.ty g hg
 obtain⟨cs',t',fr,e',ht'⟩:=k.ty g hf
 rw[e]at e'
 simp only[Option.some.injEq,Obj.cells.injEq]at e'
 obtain⟨_,e2,_⟩:=e'
 subst e2
 rcases ht with rfl|rfl<;>rcases ht' with e|e|e<;>exact absurd e (by decide)
theorem Rq.out {base:Nat}{F:Nat→Prop}{w w':World}{l:List Cm.Cv}{v:Value}{rs:List Cw}(h:Rq base w l v rs)(ho:Out F w w')(hd:∀g,QB v rs g→¬F g):Rq base w' l v rs:=h.agree fun g hg=>ho.block g (h.lt g hg) (hd g hg)
def lh (st:Dm.Ds) (l:List Cm.Cv):Int:=if st.on=false then 6 else(Rl.bT st (Rl.aW l).length).1
def mZ (st:Dm.Ds) (l:List Cm.Cv):Dm.Ds:=if st.on=false then st else(Rl.bT st (Rl.aW l).length).2
theorem axg (st:Dm.Ds)(n:Nat):(Rl.bT st n).1=0∨(Rl.bT st n).1=6:=by
 unfold Rl.bT
 split
 ·exact .inl rfl
 split
 ·exact .inr rfl
 split
 ·exact .inr rfl
 ·exact .inl rfl
theorem avS {st:Dm.Ds}{n:Nat}(ho:st.on=true)(hn:n≤(Rl.hld st).length):(Dm.bg st 2 n).1=0∨(Dm.bg st 2 n).1=6:=by
 unfold Dm.bg
 rw[if_neg (by simp[ho]),if_neg (by decide),if_neg ?_]
 ·split
  ·exact .inr rfl
  ·exact .inl rfl
 ·unfold Rl.hld at hn
  simp
  omega
theorem aup {st:Dm.Ds}{n:Nat}(ho:st.on=true)(hn:n≤(Rl.hld st).length)(hne:(Rl.hld st).length≠n):
  (if (Dm.bg st 2 n).1≠0 then(Dm.bg st 2 n).1 else(Dm.sync (Dm.bg st 2 n).2).1)=(Rl.bT st n).1∧(if (Dm.bg st 2 n).1≠0 then(Dm.bg st 2 n).2 else(Dm.sync (Dm.bg st 2 n).2).2)=(Rl.bT st n).2:=by
 unfold Rl.bT
 rw[if_neg hne]
 rcases avS ho hn with e|e
 ·rw[e]
  simp only[ne_eq,not_true,if_false]
  rcases Rl.mJ (Dm.bg st 2 n).2 with f|f
  ·rw[f];simp
  ·rw[f];simp
 ·rw[e]
  simp
theorem arQ {st:Dm.Ds}{t u:Nat}(h:Big t u st):(Rl.hld st).length≤t:=by
 unfold Rl.hld
 exact Nat.le_trans (Dm.kD st.wait (st.sure 2) 2) (h.1.1 2)
theorem ap9 {st:Dm.Ds}(ho:st.on=true):mV st 2=Rl.hld st∧mR st 2=0:=by
 unfold mV mR
 rw[if_neg (by simp[ho]),if_neg (by decide),if_neg (by simp[ho]),if_neg (by decide)]
 exact⟨rfl,rfl⟩
theorem aP.azJ {p:Nat}{F:Nat→Prop}{w w1 w2:World}{st:Dm.Ds}(h:aP p F w w1 st)(hb:Below w1.heap.size w1 w2):aP p F w w2 st:=by
 obtain⟨F1,h1,h2,h3⟩:=h
 exact⟨F1,h1.below hb,h2.trans (Out.of_below (F:=F) hb) fun g hg=>.inl hg,h3⟩
theorem aeq (q:Nat)(F:Nat→Prop)(w:World)(st:Dm.Ds)(h:Pk q F w st)(hs:Big 100000000 800000 st):
  Calls Tryz.prog 111 #[.pointer (some ⟨q,0,none⟩)] w fun E w'=>∃l,Hid (Rl.Lg 0 (Rl.hld st) l)∧aP q F w w' (mZ st l)∧
   ((lh st l≠0∧E=.returned (.tuple #[.pointer none,.int .i64 (lh st l)]))∨(lh st l=0∧∃p G,E=.returned (.tuple #[.pointer (some ⟨p,0,none⟩),.int .i64 0])∧Rk p q G w' l false∧∀g,G g→w.heap.size≤g)):=by
 have HR:=hide (kI q F w st 2 h (fun f=>Nat.le_trans (hs.1.1 f) (by decide)) (Nat.le_trans hs.1.2.1 (by decide)))
 have HK:=hide h
 have HS:=hide hs
 cases hon:st.on with
 |false=>
  obtain⟨l,hl⟩:=Rl.akn 0 (Rl.hld st)
  have e1:lh st l=6:=by unfold lh;rw[if_pos hon]
  have e2:mZ st l=st:=by unfold mZ;rw[if_pos hon]
  have E1:=hide e1
  have E2:=hide e2
  have HL:=hide hl
  have er:mR st 2=6:=by unfold mR;rw[if_pos hon]
  rw[er]at HR
  clear h hs hon e1 e2 hl er
  go_enter Tryz.func111,Tryz.ntmps111
  go_wp2_with fail
  refine HR.out.mono ?_
  rintro E w1 ⟨v,rfl,own,aF⟩
  obtain⟨a,c,hv,_,_⟩:=own.is.shape
  subst hv
  have PS:=hide (aP.same HK.out aF)
  clear own aF HR
  go_wp2
  go_ret2
  exact⟨l,HL,by rw[E2.out];exact PS.out,.inl ⟨by rw[E1.out];decide,by rw[E1.out];rfl⟩⟩
 |true=>
  obtain⟨er,ee⟩:=ap9 hon
  rw[er,ee]at HR
  have hlen:=arQ hs
  have HO:=hide hon
  clear h hs er ee
  go_enter Tryz.func111,Tryz.ntmps111
  go_wp2_with fail
  refine HR.out.mono ?_
  rintro E w1 ⟨v,rfl,own,aF⟩
  have HW:=hide (alE v (Rl.hld st) w1 own.is (by omega))
  obtain⟨a,c,hv,_,_⟩:=own.is.shape
  subst hv
  have bH:=aF.size
  clear own HR
  go_wp2_with fail
  refine HW.out.mono ?_
  rintro E w2 ⟨l,vl,rs,rfl,L2,aB,LG⟩
  have fA:=aB.size
  have b02:=aF.trans (aB.mono aF.size)
  have K2:=hide (HK.out.below b02)
  have hle:(Rl.aW l).length≤(Rl.hld st).length:=LG.out.2.1.length_le
  obtain⟨la,ln,lk,hvl⟩:∃a n k,vl=.slice a n k:=by
   obtain⟨a1,k1,h1,_⟩:=L2.row.row.shape
   exact⟨a1,_,k1,h1⟩
  subst hvl
  have HL2:=hide L2
  have nJ:=hide b02
  obtain⟨z,hz⟩:∃z,(Rl.aW l).length=z:=⟨_,rfl⟩
  rw[hz]at hle⊢
  have HZ:=hide hz
  obtain⟨m,hm⟩:∃m,(Rl.hld st).length=m:=⟨_,rfl⟩
  rw[hm]at hle hlen⊢
  have HMM:=hide hm
  clear L2 aB HW hz b02 aF hm
  by_cases hq:m=z
  ·have e1:lh st l=0:=by unfold lh Rl.bT;rw[if_neg (by rw[HO.out];decide),if_pos (by rw[HZ.out,HMM.out];exact hq)]
   have e2:mZ st l=st:=by unfold mZ Rl.bT;rw[if_neg (by rw[HO.out];decide),if_pos (by rw[HZ.out,HMM.out];exact hq)]
   have E1:=hide e1
   have E2:=hide e2
   have hb:¬((z:Int)<(m:Int)):=by omega
   obtain⟨W,hW,szW,lM,bW⟩:=ay w2 #[.pointer (some ⟨q,0,none⟩),.bool false,.slice la ln lk] 179
   have G:=hide (show Rk w2.heap.size q (fun g=>g=w2.heap.size∨QB (.slice la ln lk) rs g) W l false∧(∀g,(g=w2.heap.size∨QB (.slice la ln lk) rs g)→w.heap.size≤g)∧Below w.heap.size w W from⟨⟨_,rs,⟨bW,(HL2.out.below lM).bz (Nat.zero_le _)⟩,rfl⟩,by
    rintro g (e|e)
    ·omega
    ·have:=HL2.out.ge g e
     omega,nJ.out.trans (lM.mono (by omega))⟩)
   clear e1 e2 hq bW lM
   go_wp2
   go_ret2
   exact⟨l,LG,by rw[E2.out];exact aP.same HK.out G.out.2.2,.inr ⟨E1.out,_,_,rfl,G.out.1,G.out.2.1⟩⟩
  ·have hb:(z:Int)<(m:Int):=by omega
   have HT:=hide (alF q F w2 st (z:Int) K2.out HS.out)
   obtain⟨t1,t2⟩:=aup (n:=z) HO.out (by rw[HMM.out];exact hle) (by rw[HMM.out];exact hq)
   rw[t1,t2]at HT
   have e1:lh st l=(Rl.bT st z).1:=by unfold lh;rw[if_neg (by rw[HO.out];decide),HZ.out]
   have e2:mZ st l=(Rl.bT st z).2:=by unfold mZ;rw[if_neg (by rw[HO.out];decide),HZ.out]
   rw[←e1,←e2]at HT
   have e01:lh st l=0∨lh st l=6:=by rw[e1];exact axg st z
   clear e1 e2 t1 t2
   go_wp2_with fail
   refine HT.out.mono ?_
   rintro E w5 ⟨rfl,PS⟩
   have P0:=hide (aP.pre nJ.out PS)
   have L5:Hid (Rq w1.heap.size w5 l (.slice la ln lk) rs∧w2.heap.size≤w5.heap.size):=hide (by
    obtain⟨F',_,ho,_⟩:=PS
    exact⟨HL2.out.out ho (asb HL2.out K2.out),ho.size⟩)
   generalize hoe:lh st l=oe at*
   have HOE:=hide hoe
   clear PS HT hoe
   rcases e01 with rfl|rfl
   ·obtain⟨W,hW,szW,lM,bW⟩:=ay w5 #[.pointer (some ⟨q,0,none⟩),.bool false,.slice la ln lk] 179
    have pq:=L5.out.2
    have G:=hide (show Rk w5.heap.size q (fun g=>g=w5.heap.size∨QB (.slice la ln lk) rs g) W l false∧(∀g,(g=w5.heap.size∨QB (.slice la ln lk) rs g)→w.heap.size≤g)∧aP q F w W (mZ st l)from⟨⟨_,rs,⟨bW,(L5.out.1.below lM).bz (Nat.zero_le _)⟩,rfl⟩,by
     rintro g (e|e)
     ·omega
     ·have:=L5.out.1.ge g e
      omega,P0.out.azJ lM⟩)
    clear bW lM
    go_wp2
    go_ret2
    exact⟨l,LG,G.out.2.2,.inr ⟨HOE.out,_,_,rfl,G.out.1,G.out.2.1⟩⟩
   ·go_wp2
    go_ret2
    exact⟨l,LG,P0.out,.inl ⟨by rw[HOE.out];decide,by rw[HOE.out];rfl⟩⟩
def ajT (s:Rl.Rs):Prop:=Big 90000000 700000 s.d
theorem ajT.big {s:Rl.Rs}(h:ajT s):Big 100000000 800000 s.d:=Big.mono h (by decide) (by decide)
theorem ajI {n:Nat}(h:n≤52236):cnt n≤817:=by
 unfold cnt
 omega
theorem aiq (q:Nat)(F:Nat→Prop)(w:World)(st:Dm.Ds)(vb:Value)(bs:List Int)(h:Pk q F w st)(hs:Big 90000000 700000 st)(hb:Own .u8 5 0 w vb bs)(hbF:∀b,vb.ownBlock=some b→¬F b)(hl:bs.length≤52236):
  Calls Tryz.prog 178 #[.pointer (some ⟨q,0,none⟩),vb] w fun E w'=>E=.returned (.int .i64 (Rl.ext st bs).1)∧aP q F w w' (Rl.ext st bs).2:=by
 have hc:=ajI hl
 have HW:=hide (tV q F w st 2 vb bs h hb.is (fun _=>hbF) (by omega) (by have:=hs.1.2.1;omega) hs.2 (by have:=hs.1.2.2;omega))
 have hs2:Big 100000000 800000 (Dm.write st 2 bs).2:=(mo hs 2 bs).mono (by omega) (by omega)
 have HSY:Hid (∀W G,Pk q G W (Dm.write st 2 bs).2→Calls Tryz.prog 138 #[.pointer (some ⟨q,0,none⟩)] W fun E w'=>E=.returned (.int .i64 (Dm.sync (Dm.write st 2 bs).2).1)∧aP q G W w' (Dm.sync (Dm.write st 2 bs).2).2):=hide fun W G hk=>nT q G W _ hk (fun f=>Nat.le_trans (hs2.1.1 f) (by decide)) (Nat.le_trans hs2.1.2.1 (by decide)) hs2.2 (Nat.lt_of_le_of_lt hs2.1.2.2 (by decide))
 obtain⟨a,c,hv,_,_⟩:=hb.is.shape
 unfold Rl.ext
 generalize Dm.write st 2 bs=x at*
 obtain⟨e,st2⟩:=x
 simp only at*
 generalize Dm.sync st2=y at*
 obtain⟨f,st3⟩:=y
 simp only at*
 subst hv
 clear h hs hs2 hb
 by_cases he:e=0
 ·subst he
  simp only[ne_eq,not_true,if_false]
  go_enter Tryz.func178,Tryz.ntmps178
  go_wp2_with fail
  refine HW.out.mono ?_
  rintro E w1 ⟨rfl,F1,k1,k2,k3⟩
  have HS1:=hide (HSY.out w1 F1 k1)
  have K2:=hide k2
  have K3:=hide k3
  clear k1 k2 k3 HW HSY
  go_wp2_with fail
  refine HS1.out.mono ?_
  rintro E w2 ⟨rfl,J⟩
  have J:=hide (aP.trans K2.out K3.out J)
  go_wp2
  go_ret
  exact⟨rfl,J.out⟩
 ·simp only[ne_eq,he,not_false_eq_true,if_true]
  have hne:(e !=0)=true:=by simp[he]
  go_enter Tryz.func178,Tryz.ntmps178
  go_wp2_with fail
  refine HW.out.mono ?_
  rintro E w1 ⟨rfl,J⟩
  have J:=hide J
  clear HW HSY
  go_wp2
  go_ret
  exact⟨rfl,J.out⟩
theorem Tryz.aoh:∀args w,(callFunc 148 args).run Tryz.prog w=.ok (.enter 148 args) w:=enters_of Tryz.func148 (by kernel_rfl) rfl
theorem ajk {p q:Nat}{F1:Nat→Prop}{w wc:World}{d:Dm.Ds}{l:List Cm.Cv}{bk:Bool}{v:Value}{rs:List Cw}{c:Cw}(h1:Pk q F1 w d)(hv:xJ p q w l bk v rs)(hb:Below w.heap.size w wc)(hc:aV 106 w.heap.size wc c.v c.l)(hg:Rl.Good 0 (l++[c.c]))(ty:TypeId):
  ∃V,wc.alloc (.cells #[.int .i64 c.e,.int .i64 c.n,c.v] 122)=V∧V.cell? ⟨p,2,none⟩=some v∧∃v2 w2,(Builtin.append_ #[67,67] ty #[v,.slice (some ⟨wc.heap.size,0,none⟩) 1 1]).run Tryz.prog V=.ok v2 w2∧w2.cell? ⟨p,2,none⟩=some v∧w2.frozen? ⟨p,2,none⟩=false∧(∃a n k,v2=.slice a n k)∧
   (∃F',RW p q F' (w2.setCell ⟨p,2,none⟩ v2) ⟨d,l++[c.c],bk⟩∧Out (fun g=>F1 g∨g=p∨QB v rs g) w (w2.setCell ⟨p,2,none⟩ v2)∧∀g,F' g→(F1 g∨g=p∨QB v rs g)∨w.heap.size≤g):=by
 have hsz:=hb.size
 obtain⟨V,hV,fE,bn,iE⟩:=gN 122 wc #[.int .i64 c.e,.int .i64 c.n,c.v] 1 [c] rfl rfl (by simp[maxLen])
 have qb:=hb.trans (bn.mono hsz)
 have qV:=hv.log.below qb
 have BV:=(qb.block p (aA hv.blk)).trans hv.blk
 have hone:∀d∈[c],d.v.oneCell'=true:=fun d hd=>by rw[List.mem_singleton.1 hd];exact hc.is.one
 obtain⟨v2,w2,hr,bq,gJ,at2⟩:=jg (P:=Tryz.prog) (w:=V) 67 ty 122 0 Tryz.underlying67 Tryz.adD v rs qV.row _ [c] iE.row hone (by have:=hv.log.nA;simp;omega) (Nat.zero_le _)
 have kp:bK 122 V w2:=bK.pI qV.row gJ
 have q2:=qV.grow bq kp ((hc.below bn).bz (Nat.zero_le _)) hg
 have hpn:¬v.ownBlock=some p:=fun e=>qV.ne BV (by decide) (by decide) (.inl e)
 have B2:=(gJ.block p (aA BV) (fun e=>hpn e.symm)).trans BV
 obtain⟨X,hX,bX,gX,fX⟩:=lS B2 2 v2
 have qX:Rq 0 X (l++[c.c]) v2 (rs++[c]):=q2.agree fun g hg=>gX.block g (q2.lt g hg) fun e=>by
  simp at e
  exact q2.ne B2 (by decide) (by decide) (e▸hg)
 have oV:Out (fun g=>F1 g∨g=p∨QB v rs g) w V:=Out.of_below qb
 have o2:Out (fun g=>F1 g∨g=p∨QB v rs g) w w2:=oV.trans (Out.aT (F:=fun g=>F1 g∨g=p∨QB v rs g) gJ fun g hg=>.inr (.inr (.inl hg))) fun g hg=>.inl hg
 have oX:Out (fun g=>F1 g∨g=p∨QB v rs g) w X:=o2.trans (Out.aT (F:=fun g=>F1 g∨g=p∨QB v rs g) gX fun g hg=>.inr (.inl (by simpa using hg.symm))) fun g hg=>.inl hg
 have hk:Rk p q (fun g=>g=p∨QB v rs g) w l bk:=⟨v,rs,hv,rfl⟩
 have KX:Pk q F1 X d:=by
  have o:Out (fun g=>g=p∨QB v rs g) w X:=by
   refine((Out.of_below (F:=fun g=>g=p∨QB v rs g) qb).trans (Out.aT (F:=fun g=>g=p∨QB v rs g) gJ fun g hg=>.inr (.inl hg)) fun g hg=>.inl hg).trans (Out.aT (F:=fun g=>g=p∨QB v rs g) gX fun g hg=>.inl (by simpa using hg.symm)) fun g hg=>.inl hg
  exact h1.out o fun g hg e=>tT hk h1 g e hg
 refine⟨V,hV,ai BV 2 rfl,v2,w2,hr,ai B2 2 rfl,fX,?_,?_⟩
 ·obtain⟨a1,k1,h1,_⟩:=bq.row.shape
  exact⟨a1,_,k1,h1⟩
 ·rw[hX]
  refine⟨_,⟨F1,_,KX,⟨v2,rs++[c],⟨bX,qX⟩,rfl⟩,rfl⟩,oX,?_⟩
  rintro g (e|e|e|⟨d,hd,e⟩)
  ·exact .inl (.inl e)
  ·exact .inl (.inr (.inl e))
  ·rcases at2 with h|h
   ·exact .inl (.inr (.inr (.inl (h▸e))))
   ·rw[h]at e
    simp at e
    exact .inr (by omega)
  ·rcases List.mem_append.1 hd with hd|hd
   ·exact .inl (.inr (.inr (.inr ⟨d,hd,e⟩)))
   ·rw[List.mem_singleton.1 hd]at e
    exact .inr (hc.block g e).1
theorem ajN (p q:Nat)(F:Nat→Prop)(w:World)(s:Rl.Rs)(c:Cw)(h:RW p q F w s)(hs:ajT s)(hi:dm w c.v c.l)(hf:fG c.l)(h64:In64 c.e∧In64 c.n)(hlo:c.l.length*40≤140737488351232)(jB:0<c.l.length→∀b,c.v.ownBlock=some b→¬F b):
  Calls Tryz.prog 128 #[.pointer (some ⟨p,0,none⟩),cZ c.e c.n c.v] w fun E w'=>E=.returned (.int .i64 (Rl.aR s c.c).1)∧ku p q F w w' (Rl.aR s c.c).2:=by
 obtain⟨ao,cap,hcv,_,_⟩:=hi.shape
 obtain⟨w1,hw1,bH,ax,hB0⟩:=ay w #[.int .i64 c.e,.int .i64 c.n,c.v] 122
 have c0:w1.cell? ⟨w.heap.size,0,none⟩=some (.int .i64 c.e):=ai hB0 0 rfl
 have c1:w1.cell? ⟨w.heap.size,1,none⟩=some (.int .i64 c.n):=ai hB0 1 rfl
 have c2:w1.cell? ⟨w.heap.size,2,none⟩=some c.v:=ai hB0 2 rfl
 have hW1:=h.below ax
 have HR:=hide (agK p q F w1 s hW1)
 have hb:=hs.big
 have HLT:=hide h.lt
 have HCF:=hide jB
 clear jB
 unfold cZ
 rw[hcv]at hw1 c2⊢
 cases ha:Rl.ask s with
 |true=>
  have e1:Rl.aR s c.c=(6,Rl.brk s):=by unfold Rl.aR;rw[ha];rfl
  rw[e1]
  have B1:=hide ax
  clear h hs hi hf h64 hlo hW1 hB0 ax e1
  go_enter Tryz.func128,Tryz.ntmps128
  go_wp2_with fail
  refine HR.out.mono ?_
  rintro E w2 (⟨_,rfl,J⟩|⟨h0,_⟩)
  ·have J:=hide (ku.pre B1.out J)
   clear HR
   go_wp2
   go_ret
   exact⟨rfl,J.out⟩
  ·rw[ha]at h0
   cases h0
 |false=>
  have sH:=hide (aal c.e c.n c.v c.l w1 (hi.below ax) hf (by omega))
  unfold cZ at sH
  rw[hcv]at sH
  obtain⟨ch,hch⟩:∃x,Rn.aJ c.e c.n c.l=x:=⟨_,rfl⟩
  rw[hch]at sH
  have KC:=hide hch
  have nz:=hide hcv
  have IOX:=hide hi
  have WA:=hide hW1
  have FO:=hide (show fG c.l∧(In64 c.e∧In64 c.n)∧c.l.length*40≤140737488351232 from⟨hf,h64,hlo⟩)
  have HB:=hide hB0
  have B1:=hide ax
  have HS:=hide hs
  have aht:=hide ha
  clear h hs hi hf h64 hlo hW1 hch hcv hb hB0 ax ha
  go_enter Tryz.func128,Tryz.ntmps128
  go_wp2_with fail
  refine HR.out.mono ?_
  rintro E w2 (⟨h0,_⟩|⟨_,rfl,rfl⟩)
  ·rw[aht.out]at h0
   cases h0
  clear HR
  go_wp2_with fail
  refine sH.out.mono ?_
  rintro E w2 ⟨vb,rfl,own,aB⟩
  have W2:=WA.out.below aB
  have b02:=B1.out.trans (aB.mono B1.out.size)
  have fA:=aB.size
  have hB2:=(aB.block w.heap.size (by omega)).trans HB.out
  have d0:w2.cell? ⟨w.heap.size,0,none⟩=some (.int .i64 c.e):=ai hB2 0 rfl
  have d1:w2.cell? ⟨w.heap.size,1,none⟩=some (.int .i64 c.n):=ai hB2 1 rfl
  have d2:w2.cell? ⟨w.heap.size,2,none⟩=some c.v:=ai hB2 2 rfl
  rw[nz.out]at d2
  obtain⟨ab,nb,cb,hvb⟩:∃a n k,vb=.slice a n k:=by
   obtain⟨a1,k1,h1,_⟩:=own.is.shape
   exact⟨a1,_,k1,h1⟩
  subst hvb
  have OB:=hide own
  have HB2:=hide hB2
  have nJ:=hide b02
  have HW2:=hide W2
  clear WA own aB sH hB2 c0 c1 c2 W2 b02
  by_cases hc0:ch=0
  ·subst hc0
   have hfr:abg c.e c.n c.l=Rl.fr c.c:=by unfold abg;rw[if_pos KC.out];rfl
   rw[hfr]at OB
   have hfl:(Rl.fr c.c).length≤52236:=Rl.kR KC.out
   obtain⟨F1,G1,h1,h2,hF⟩:=HW2.out
   obtain⟨v,rs,hv,hG⟩:=h2
   have hgl:=Rl.eB hv.log.good
   have p0:w2.cell? ⟨p,0,none⟩=some (.pointer (some ⟨q,0,none⟩)):=ai hv.blk 0 rfl
   have p2:w2.cell? ⟨p,2,none⟩=some v:=ai hv.blk 2 rfl
   have hpw:p<w2.heap.size:=aA hv.blk
   obtain⟨la,ln,lk,hlv⟩:∃a n k,v=.slice a n k:=by
    obtain⟨a1,k1,h1,_⟩:=hv.log.row.row.shape
    exact⟨a1,_,k1,h1⟩
   subst hlv
   obtain⟨ans,eT⟩:∃x,decide (c.e-1=Cm.lastN 0 s.l)=x:=⟨_,rfl⟩
   have TK:Hid (∀W,Below w2.heap.size w2 W→Calls Tryz.prog 177 #[.slice la ln lk,.agg #[.int .i64 c.e,.int .i64 c.n,.slice ao c.l.length cap]] W fun E w'=>E=.returned (.bool ans)∧Below w2.heap.size w2 w'):=hide fun W hbW=>by
    have:=yI (.slice la ln lk) rs c.e c.n (.slice ao c.l.length cap) W (hv.log.row.row.below hbW) hv.log.nA ⟨_,_,_,rfl⟩ (by rw[hv.log.is];exact hgl.2)
    unfold cZ at this
    rw[hv.log.is,eT]at this
    refine this.mono ?_
    rintro E w' ⟨rfl,hb'⟩
    exact⟨rfl,hbW.trans (hb'.mono hbW.size)⟩
   have HA:=hide eT
   have HV:=hide hv
   have H1:=hide h1
   have yN:=hide hF
   have HGG:=hide hG
   clear eT hv h1 hF hG
   go_wp2_with fail
   go_region_held3 (fun w'=>w'.cell? ⟨w.heap.size,0,none⟩=some (.int .i64 c.e)∧w'.cell? ⟨w.heap.size,1,none⟩=some (.int .i64 c.n)∧w'.cell? ⟨w.heap.size,2,none⟩=some (.slice ao c.l.length cap)∧w'.cell? ⟨p,0,none⟩=some (.pointer (some ⟨q,0,none⟩))∧w'.cell? ⟨p,2,none⟩=some (.slice la ln lk)) (first|exact⟨d0,d1,d2,p0,p2⟩|exact⟨e0,e1,e2,g0,g2⟩|go_keep)
    (first
    |(go_at_call 177;refine(TK.out _ ((Below.refl _ _).drew)).mono ?_;rintro E w3 ⟨rfl,aH⟩;have e0:=(aH.cell (p:=⟨w.heap.size,0,none⟩) (show w.heap.size<w2.heap.size by omega)).trans d0;have e1:=(aH.cell (p:=⟨w.heap.size,1,none⟩) (show w.heap.size<w2.heap.size by omega)).trans d1;have e2:=(aH.cell (p:=⟨w.heap.size,2,none⟩) (show w.heap.size<w2.heap.size by omega)).trans d2;have g0:=(aH.cell (p:=⟨p,0,none⟩) hpw).trans p0;have g2:=(aH.cell (p:=⟨p,2,none⟩) hpw).trans p2))
   have fH:=nJ.out.trans (aH.mono nJ.out.size)
   have fZ:=aH.size
   have ug:Hid (xJ p q w3 s.l s.bk (.slice la ln lk) rs):=hide ⟨(aH.block p hpw).trans HV.out.blk,HV.out.log.below aH⟩
   have K3:=hide (H1.out.below aH)
   have O3:=hide (OB.out.below aH)
   have HB3:=hide ((aH.block w.heap.size (by omega)).trans HB2.out)
   have W3:=hide (HW2.out.below aH)
   have B3:=hide fH
   clear HV H1 OB HB2 TK d0 d1 d2 p0 p2 fH aH HW2 nJ
   cases ans with
   |false=>
    have e4:Rl.aR s c.c=(15,s):=by
     unfold Rl.aR
     rw[aht.out,if_neg (by decide),if_neg (by intro hx;exact hx KC.out),if_pos (show c.c.e-1≠Cm.lastN 0 s.l from of_decide_eq_false HA.out)]
    have E4:=hide e4
    clear e4 ug K3 O3
    go_wp2
    go_ret
    exact⟨by rw[E4.out];rfl,by rw[E4.out];exact⟨F,W3.out,Out.of_below B3.out,fun g hg=>.inl hg⟩⟩
   |true=>
    have arn:=of_decide_eq_true HA.out
    have hgood:Rl.Good 0 (s.l++[c.c]):=(Rl.mF ug.out.log.good).2 ⟨KC.out,arn⟩
    have WR:=hide (aiq q F1 w3 s.d (.slice ab nb cb) (Rl.fr c.c) K3.out HS.out (O3.out.bz (Nat.zero_le _)) (fun b hb hf=>by
     have h1:=(O3.out.block b hb).1
     have h2:=HLT.out b (by rw[yN.out];exact .inl hf)
     omega) hfl)
    have e01:=Rl.az0 s.d (Rl.fr c.c)
    have e4:Rl.aR s c.c=if (Rl.ext s.d (Rl.fr c.c)).1≠0 then((Rl.ext s.d (Rl.fr c.c)).1,⟨(Rl.ext s.d (Rl.fr c.c)).2,s.l,true⟩)else(0,⟨(Rl.ext s.d (Rl.fr c.c)).2,s.l++[c.c],false⟩):=by
     unfold Rl.aR
     rw[aht.out,if_neg (by decide),if_neg (by intro hx;exact hx KC.out),if_neg (by intro hx;exact hx arn)]
    have hbk:s.bk=false:=by
     have:=aht.out
     unfold Rl.ask at this
     cases hb:s.bk with
     |false=>rfl
     |true=>rw[hb]at this;cases this
    generalize hwr:Rl.ext s.d (Rl.fr c.c)=y at*
    obtain⟨x,d'⟩:=y
    simp only at e01 e4 WR
    have E4:=hide e4
    have GD:=hide hgood
    have HBK:=hide hbk
    have SZ3:w1.heap.size≤w3.heap.size:=by omega
    clear e4 hgood hwr hfr hbk arn
    go_wp2_with fail
    refine WR.out.mono ?_
    rintro E w4 ⟨rfl,PS⟩
    obtain⟨F2,k1,k2,k3,k4⟩:=RW.disk (s:=⟨s.d,s.l,s.bk⟩) K3.out ⟨_,rs,ug.out,rfl⟩ PS
    have T4:=hide (show Out F w3 w4∧∀g,(F2 g∨(g=p∨QB (.slice la ln lk) rs g))→F g∨w3.heap.size≤g from by
     refine⟨k3.mono fun g hg=>.inl (by rw[yN.out];exact .inl hg),?_⟩
     rintro g (hg|hg)
     ·rcases k4 g hg with e|e
      ·exact .inl (by rw[yN.out];exact .inl e)
      ·exact .inr e
     ·exact .inl (by rw[yN.out,HGG.out];exact .inr hg))
    have RW4:Hid (RW p q (fun g=>F2 g∨(g=p∨QB (.slice la ln lk) rs g)) w4 ⟨d',s.l,s.bk⟩):=hide ⟨F2,_,k1,k2,rfl⟩
    have V4:Hid (xJ p q w4 s.l s.bk (.slice la ln lk) rs∧Pk q F2 w4 d'):=hide ⟨⟨(k3.block p (aA ug.out.blk) (fun e=>tT ⟨_,rs,ug.out,rfl⟩ K3.out p (.inl rfl) e)).trans ug.out.blk,ug.out.log.out k3 (asb ug.out.log K3.out)⟩,k1⟩
    clear PS k1 k2 k3 k4 WR K3 ug O3
    rcases e01 with rfl|rfl
    ·obtain⟨o4,s4⟩:=T4.out
     have pK:=o4.size
     have hnF:¬F w.heap.size:=fun hf=>by have:=HLT.out _ hf;omega
     have hB4:=(o4.block w.heap.size (by omega) hnF).trans HB3.out
     have x0:w4.cell? ⟨w.heap.size,0,none⟩=some (.int .i64 c.e):=ai hB4 0 rfl
     have x1:w4.cell? ⟨w.heap.size,1,none⟩=some (.int .i64 c.n):=ai hB4 1 rfl
     have x2:w4.cell? ⟨w.heap.size,2,none⟩=some c.v:=ai hB4 2 rfl
     rw[nz.out]at x2
     have i4:dm w4 c.v c.l:=(IOX.out.below B3.out).out o4 HCF.out
     have mY:p<w4.heap.size:=aA V4.out.1.blk
     have y2:w4.cell? ⟨p,2,none⟩=some (.slice la ln lk):=ai V4.out.1.blk 2 rfl
     have X1:Hid (Calls Tryz.prog 148 #[.agg #[.int .i64 c.e,.int .i64 c.n,.slice ao c.l.length cap]] w4.drew fun E w6=>∃v',E=.returned v'∧∃(vo:Value) (V:World),v'=.agg #[.int .i64 c.e,.int .i64 c.n,vo]∧(∃a n k,vo=.slice a n k)∧w6.cell? ⟨p,2,none⟩=some (.slice la ln lk)∧(w6.cell? ⟨w.heap.size,0,none⟩=some (.int .i64 c.e)∧w6.cell? ⟨w.heap.size,1,none⟩=some (.int .i64 c.n)∧w6.cell? ⟨w.heap.size,2,none⟩=some (.slice ao c.l.length cap))∧w6.alloc (.cells #[.int .i64 c.e,.int .i64 c.n,vo] 122)=V∧(V.cell? ⟨p,2,none⟩=some (.slice la ln lk)∧(V.cell? ⟨w.heap.size,0,none⟩=some (.int .i64 c.e)∧V.cell? ⟨w.heap.size,1,none⟩=some (.int .i64 c.n)∧V.cell? ⟨w.heap.size,2,none⟩=some (.slice ao c.l.length cap)))∧
       Hid (∀ty,∃v2 w2,(Builtin.append_ #[67,67] ty #[.slice la ln lk,.slice (some ⟨w6.heap.size,0,none⟩) 1 1]).run Tryz.prog V=.ok v2 w2∧(ku p q F w3 (w2.setCell ⟨p,2,none⟩ v2) ⟨d',s.l++[c.c],s.bk⟩∧w2.cell? ⟨p,2,none⟩=some (.slice la ln lk)∧w2.frozen? ⟨p,2,none⟩=false∧∃a n k,v2=.slice a n k))):=hide (by
      have:=aaH c.e c.n c.v c.l w4.drew (i4.drewN 1) FO.out.2.2
      unfold cZ at this
      rw[nz.out]at this
      refine this.mono ?_
      rintro E w6 ⟨vo,rfl,eu,dJ⟩
      have b46:Below w4.heap.size w4 w6:=(Below.refl w4.heap.size w4).drew.trans dJ
      obtain⟨V,hV,V2,v2,w2,hr,q1,q2,q3,F',J1,J2,J3⟩:=ajk (c:=⟨c.e,c.n,vo,c.l⟩) V4.out.2 V4.out.1 b46 eu GD.out 67
      have bn:Below w6.heap.size w6 V:=by rw[←hV];exact(Below.refl _ _).alloc (Nat.le_refl _) _
      have b4V:=b46.trans (bn.mono b46.size)
      obtain⟨a1,k1,h1,_⟩:=eu.is.shape
      refine⟨_,rfl,vo,V,rfl,⟨a1,_,k1,h1⟩,(b46.cell (p:=⟨p,2,none⟩) mY).trans y2,⟨(b46.cell (p:=⟨w.heap.size,0,none⟩) (show w.heap.size<w4.heap.size by omega)).trans x0,(b46.cell (p:=⟨w.heap.size,1,none⟩) (show w.heap.size<w4.heap.size by omega)).trans x1,(b46.cell (p:=⟨w.heap.size,2,none⟩) (show w.heap.size<w4.heap.size by omega)).trans x2⟩,hV,⟨V2,(b4V.cell (p:=⟨w.heap.size,0,none⟩) (show w.heap.size<w4.heap.size by omega)).trans x0,(b4V.cell (p:=⟨w.heap.size,1,none⟩) (show w.heap.size<w4.heap.size by omega)).trans x1,(b4V.cell (p:=⟨w.heap.size,2,none⟩) (show w.heap.size<w4.heap.size by omega)).trans x2⟩,hide fun ty=>?_⟩
      obtain⟨V',hV',V2',v2',w2',hr',q1',q2',q3',F'',J1',J2',J3'⟩:=ajk (c:=⟨c.e,c.n,vo,c.l⟩) V4.out.2 V4.out.1 b46 eu GD.out ty
      have eV:V'=V:=hV'.symm.trans hV
      subst eV
      refine⟨v2',w2',hr',⟨F'',J1',o4.trans J2' s4,fun g hg=>?_⟩,q1',q2',q3'⟩
      rcases J3' g hg with e|e
      ·exact s4 g e
      ·exact .inr (by omega))
     clear hB4 i4 V4 RW4 T4
     go_wp2_with fail
     go_region_law (first
      |(have ow:=XX;refine fB rfl (.tmp 45) (.tmp 48) 67 rfl (.slice la ln lk) (.slice (some ⟨w6.heap.size,0,none⟩) 1 1) (by first|(simp[Act.eval];done)|(simp[Act.eval,Act.put];done)) (by first|(simp[Act.eval];done)|(simp[Act.eval,Act.put];done)) XX.out ?_;rintro v8 w8 ⟨J,d8,g8,a8,n8,k8,rfl⟩;have J:=hide J)
      |(refine qH rfl 148 #[.tmp 46] #[122] rfl Tryz.aoh #[.agg #[.int .i64 c.e,.int .i64 c.n,.slice ao c.l.length cap]] (by first|(simp[Act.eval];done)|(simp[Act.eval,Act.put];done)) X1.out ?_;rintro v6 w6 ⟨vo,V,rfl,⟨oa,on,ok,rfl⟩,z2,⟨b0,b1,b2⟩,hV,⟨z3,b3,b4,b5⟩,XX⟩))
     all_goals
      have JJ:=hide (ku.pre B3.out J.out)
      clear J
      go_wp2
      go_ret
      refine⟨by rw[E4.out];rfl,?_⟩
      rw[E4.out]
      have:=JJ.out
      rw[HBK.out]at this
      exact this
    ·have kZ:=hide (RW4.out.flag true)
     have p1:=ai V4.out.1.blk 1 rfl
     have f1:=az V4.out.1.blk 1
     simp only[List.getElem_toArray,List.getElem_cons_zero,List.getElem_cons_succ]at p1
     have JJ:=hide (ku.pre B3.out (ku.trans T4.out.1 T4.out.2 kZ.out))
     clear kZ RW4 T4 V4
     go_wp2
     go_ret
     exact⟨by rw[E4.out];rfl,by rw[E4.out];exact JJ.out⟩
  ·have hne:(ch !=0)=true:=by simp[hc0]
   have e4:Rl.aR s c.c=(ch,s):=by
    unfold Rl.aR
    rw[aht.out,if_neg (by decide),if_pos (by show Rn.aJ c.e c.n c.l≠0;rw[KC.out];exact hc0)]
    show(Rn.aJ c.e c.n c.l,s)=(ch,s)
    rw[KC.out]
   have E4:=hide e4
   clear e4
   go_wp2
   go_ret
   exact⟨by rw[E4.out];rfl,by rw[E4.out];exact⟨F,HW2.out,Out.of_below nJ.out,fun g hg=>.inl hg⟩⟩
end Go.Proofs.YtpifdeoepppadaaGreatDoor
namespace Go.Proofs.YtpifdeoepppadaaGreatDoor
open Go.RowKit
open Bm (Ov)
set_option linter.unusedVariables false
theorem aoz (p q:Nat)(F:Nat→Prop)(w:World)(s:Rl.Rs)(key:ByteArray)(h:RW p q F w s):
  Calls Tryz.prog 184 #[.pointer (some ⟨p,0,none⟩),.string key] w fun E w'=>E=.returned (.tuple #[.string (gv (Rl.tab s.l) key),.bool (Tm.met (Rl.tab s.l) key),.bool (gp (Rl.tab s.l) key)])∧Below w.heap.size w w':=by
 obtain⟨F1,G1,h1,⟨v,rs,hv,_⟩,_⟩:=h
 exact avW p q w s.l s.bk v rs key hv
theorem anV (p q:Nat)(F:Nat→Prop)(w:World)(s:Rl.Rs)(h:RW p q F w s):
  Calls Tryz.prog 93 #[.pointer (some ⟨p,0,none⟩)] w fun E w'=>∃v' rs',E=.returned v'∧Rq w.heap.size w' s.l v' rs'∧nH rs'∧Below w.heap.size w w':=by
 obtain⟨F1,G1,h1,⟨v,rs,hv,_⟩,_⟩:=h
 exact atO p q w s.l s.bk v rs hv
end Go.Proofs.YtpifdeoepppadaaGreatDoor
namespace Go.Proofs.YtpifdeoepppadaaGreatDoor
open Go.RowKit
set_option linter.unusedVariables false
end Go.Proofs.YtpifdeoepppadaaGreatDoor
