/- Texts of one layer, one behind the other. -/
import Derived.Test.YtlmkaljjocflmaaGreatDoorAH3
import Derived.Test.YtlmkaljjocflmaaGreatDoorAH1
import Derived.Test.YtlmkaljjocflmaaGreatDoorAH2
set_option maxRecDepth 100000
set_option maxHeartbeats 8000000
namespace Go.Proofs.YtlmkaljjocflmaaGreatDoor
open Go.RowKit
set_option linter.unusedVariables false
def jL (r:Rv):Int:=if r.cut then 1 else 0
def iM (r:Rv):List Value:=[.int .i64 (jL r),.int .i64 r.file,r.v,.int .i64 r.to]
theorem lq (r:Rv):(iM r).length=4:=rfl
def dR (st:Dm.Ds):Int:=if st.has then st.left else -1
def fG (s:Nat→Value) (wv:Value) (on:Bool) (yR count:Int):Array Value:=#[.bool true,.bool on,.int .i64 yR,s 0,s 1,s 2,s 3,wv,.int .i64 count]
def FB (p:Nat) (s:Nat→Value) (wv:Value) (rs:List Rv) (g:Nat):Prop:=
 g=p∨(∃f,f<4∧(s f).ownBlock=some g)∨wv.ownBlock=some g∨∃r∈rs,r.v.ownBlock=some g
structure jC (w:World) (sure:Nat→List Int) (wait:List Dm.Rw) (s:Nat→Value) (wv:Value) (rs:List Rv):Prop where
 file:∀f,f<4→Own .u8 5 0 w (s f) (sure f)
 apart:∀f g,f<4→g<4→f≠g→∀b,(s f).ownBlock=some b→(s g).ownBlock≠some b
 row:dI iM 4 208 0 w wv rs
 raw:∀r∈rs,Byt (fun _=>True) w r.v r.bytes
 zl:∀r∈rs,∀f,f<4→∀b,r.v.ownBlock=some b→(s f).ownBlock≠some b
 wait:rs.map Rv.r=wait
structure eH (p:Nat) (w:World) (st:Dm.Ds) (s:Nat→Value) (wv:Value) (rs:List Rv):Prop where
 blk:w.heap[p]? =some (.cells (fG s wv st.on (dR st) st.count) 97 (0,0))
 iK:jC w st.sure st.wait s wv rs
 ok:Dm.Ok st
def Pk (p:Nat) (F:Nat→Prop) (w:World) (st:Dm.Ds):Prop:=∃s wv rs,eH p w st s wv rs∧F=FB p s wv rs
section
variable {p:Nat} {F G:Nat→Prop} {w w' w1 w2:World} {st st':Dm.Ds} {sure avx:Nat→List Int} {wait ahL:List Dm.Rw} {s s':Nat→Value} {wv wv':Value} {rs rs':List Rv}
theorem jC.agree (h:jC w sure wait s wv rs)(ha:∀g,FB p s wv rs g→w'.heap[g]? =w.heap[g]?):jC w' sure wait s wv rs:=
 ⟨fun f hf=>(h.file f hf).agree fun b hb=>ha b (.inr (.inl ⟨f,hf,hb⟩)),h.apart,h.row.agree fun b hb=>ha b (.inr (.inr (.inl hb))),fun r hr=>(h.raw r hr).agree fun b hb=>ha b (.inr (.inr (.inr ⟨r,hr,hb⟩))),h.zl,h.wait⟩
theorem jC.cel (h:jC w sure wait s wv rs){cs:Array Value}{t:TypeId}{fr:Nat×Nat}(hp:w.heap[p]? =some (.cells cs t fr)):∀g,FB p s wv rs g→∃cs t fr,w.heap[g]? =some (.cells cs t fr):=by
 rintro g (rfl|⟨f,hf,hb⟩|hb|⟨r,hr,hb⟩)
 ·exact⟨_,_,_,hp⟩
 ·obtain⟨cs,hc⟩:=(h.file f hf).type hb
  exact⟨_,_,_,hc⟩
 ·obtain⟨cs,hc⟩:=h.row.type hb
  exact⟨_,_,_,hc⟩
 ·obtain⟨_,cs,fr,hc⟩:=(h.raw r hr).2 g hb
  exact⟨_,_,_,hc⟩
theorem jC.ne (h:jC w sure wait s wv rs){q:Nat}{cs:Array Value}{t:TypeId}{fr:Nat×Nat}(hq:w.heap[q]? =some (.cells cs t fr))(h1:t≠5)(h2:t≠208):
  (∀f,f<4→∀b,(s f).ownBlock=some b→b≠q)∧(∀b,wv.ownBlock=some b→b≠q)∧∀r∈rs,∀b,r.v.ownBlock=some b→b≠q:=by
 refine⟨fun f hf b hb e=>?_,fun b hb e=>?_,fun r hr b hb e=>?_⟩
 ·obtain⟨cs,hc⟩:=(h.file f hf).type hb
  rw[e,hq]at hc
  simp at hc
  exact h1 hc.2.1
 ·obtain⟨cs,hc⟩:=h.row.type hb
  rw[e,hq]at hc
  simp at hc
  exact h2 hc.2.1
 ·obtain⟨_,cs,fr,hc⟩:=(h.raw r hr).2 b hb
  rw[e,hq]at hc
  simp at hc
  exact h1 hc.2.1
theorem jC.but (h:jC w sure wait s wv rs){q:Nat}{cs:Array Value}{t:TypeId}{fr:Nat×Nat}(hq:w.heap[q]? =some (.cells cs t fr))(h1:t≠5)(h2:t≠208)(ha:∀b,b≠q→b<w.heap.size→w'.heap[b]? =w.heap[b]?):jC w' sure wait s wv rs:=by
 obtain⟨n1,n2,n3⟩:=h.ne hq h1 h2
 exact⟨fun f hf=>(h.file f hf).agree fun b hb=>ha b (n1 f hf b hb) ((h.file f hf).block b hb).2,h.apart,h.row.agree fun b hb=>ha b (n2 b hb) (h.row.lt b hb).2,fun r hr=>(h.raw r hr).agree fun b hb=>ha b (n3 r hr b hb) (by obtain⟨_,cs,fr,hc⟩:=(h.raw r hr).2 b hb;exact aA hc),h.zl,h.wait⟩
theorem jC.len (h:jC w sure wait s wv rs):wait.length=rs.length:=by rw[←h.wait,List.length_map]
theorem eH.cel (h:eH p w st s wv rs):∀g,FB p s wv rs g→∃cs t fr,w.heap[g]? =some (.cells cs t fr):=h.iK.cel h.blk
theorem eH.lt (h:eH p w st s wv rs):∀g,FB p s wv rs g→g<w.heap.size:=fun g hg=>by
 obtain⟨cs,t,fr,hc⟩:=h.cel g hg
 exact aA hc
theorem eH.agree (h:eH p w st s wv rs)(ha:∀g,FB p s wv rs g→w'.heap[g]? =w.heap[g]?):eH p w' st s wv rs:=⟨(ha p (.inl rfl)).trans h.blk,h.iK.agree ha,h.ok⟩
theorem eH.below (h:eH p w st s wv rs)(hb:Below w.heap.size w w'):eH p w' st s wv rs:=h.agree fun g hg=>hb.block g (h.lt g hg)
theorem Pk.cel (h:Pk p F w st):∀g,F g→∃cs t fr,w.heap[g]? =some (.cells cs t fr):=by
 obtain⟨s,wv,rs,h,rfl⟩:=h
 exact h.cel
theorem Pk.lt (h:Pk p F w st):∀g,F g→g<w.heap.size:=by
 obtain⟨s,wv,rs,h,rfl⟩:=h
 exact h.lt
theorem Pk.agree (h:Pk p F w st)(ha:∀g,F g→w'.heap[g]? =w.heap[g]?):Pk p F w' st:=by
 obtain⟨s,wv,rs,h,rfl⟩:=h
 exact⟨s,wv,rs,h.agree ha,rfl⟩
theorem Pk.below (h:Pk p F w st)(hb:Below w.heap.size w w'):Pk p F w' st:=h.agree fun g hg=>hb.block g (h.lt g hg)
theorem Pk.out (h:Pk p F w st)(ho:Out G w w')(hd:∀g,F g→¬G g):Pk p F w' st:=h.agree fun g hg=>ho.block g (h.lt g hg) (hd g hg)
def bT (p:Nat) (F:Nat→Prop) (w w':World) (st':Dm.Ds):Prop:=∃F',Pk p F' w' st'∧Out F w w'∧∀g,F' g→F g∨w.heap.size≤g
theorem bT.trans {F1:Nat→Prop}(ho:Out F w w1)(hs:∀g,F1 g→F g∨w.heap.size≤g)(k:bT p F1 w1 w2 st'):bT p F w w2 st':=by
 obtain⟨F2,h1,h2,h3⟩:=k
 refine⟨F2,h1,ho.trans h2 hs,fun g hg=>?_⟩
 rcases h3 g hg with h|h
 ·exact hs g h
 ·exact .inr (Nat.le_trans ho.size h)
theorem bT.same (h:Pk p F w st)(hb:Below w.heap.size w w'):bT p F w w' st:=⟨F,h.below hb,Out.of_below hb,fun g hg=>.inl hg⟩
theorem bT.pre (hb:Below w.heap.size w w1)(h:bT p F w1 w2 st'):bT p F w w2 st':=h.trans (Out.of_below hb) fun g hg=>.inl hg
theorem eH.put {cs:Array Value}(hblk:w.heap[p]? =some (.cells cs 97 (0,0)))(j:Nat)(u:Value)(hc:cs.setIfInBounds j u=fG s' wv' st'.on (dR st') st'.count)(hcon:jC w st'.sure st'.wait s' wv' rs')(hok:Dm.Ok st'):
  eH p (w.setCell ⟨p,j,none⟩ u) st' s' wv' rs'∧Out (fun g=>g=p) w (w.setCell ⟨p,j,none⟩ u):=by
 refine⟨⟨by rw[aG hblk,hc],hcon.but hblk (by decide) (by decide) fun b hb _=>Below.heap_setCell _ _ _ _ hb,hok⟩,Out.aP (ax w ⟨p,j,none⟩ u) fun g hg=>by simp at hg;exact hg.symm⟩
theorem eH.set (h:eH p w st s wv rs)(j:Nat)(u:Value)(hc:(fG s wv st.on (dR st) st.count).setIfInBounds j u=fG s wv st'.on (dR st') st'.count)(h1:st'.sure=st.sure)(h2:st'.wait=st.wait):
  eH p (w.setCell ⟨p,j,none⟩ u) st' s wv rs∧Out (FB p s wv rs) w (w.setCell ⟨p,j,none⟩ u):=by
 obtain⟨r1,r2⟩:=eH.put (st':=st') (s':=s) (wv':=wv) (rs':=rs) h.blk j u hc (by rw[h1,h2];exact h.iK) (by have:=h.ok;unfold Dm.Ok at this⊢;rw[h1,h2];exact this)
 exact⟨r1,r2.mono fun g hg=>.inl (.inl hg)⟩
theorem bT.ajU (h:eH p w' st' s wv rs)(ho:Out (FB p s wv rs) w w'):bT p (FB p s wv rs) w w' st':=⟨_,⟨s,wv,rs,h,rfl⟩,ho,fun g hg=>.inl hg⟩
theorem eH.cell (h:eH p w st s wv rs)(j:Nat){u:Value}(hj:(fG s wv st.on (dR st) st.count)[j]? =some u):w.cell? ⟨p,j,none⟩=some u:=ai h.blk j hj
theorem eH.c0 (h:eH p w st s wv rs):w.cell? ⟨p,0,none⟩=some (.bool true):=h.cell 0 rfl
theorem eH.c1 (h:eH p w st s wv rs):w.cell? ⟨p,1,none⟩=some (.bool st.on):=h.cell 1 rfl
theorem eH.c2 (h:eH p w st s wv rs):w.cell? ⟨p,2,none⟩=some (.int .i64 (dR st)):=h.cell 2 rfl
theorem eH.c7 (h:eH p w st s wv rs):w.cell? ⟨p,7,none⟩=some wv:=h.cell 7 rfl
theorem eH.c8 (h:eH p w st s wv rs):w.cell? ⟨p,8,none⟩=some (.int .i64 st.count):=h.cell 8 rfl
theorem anq {cs:Array Value}{on:Bool}{yR count:Int}(h:w.heap[p]? =some (.cells (fG s wv on yR count) 97 (0,0)))(f:Nat)(hf:f<4):w.cell? ⟨p,3+f,none⟩=some (s f):=by
 rcases(show f=0∨f=1∨f=2∨f=3 by omega)with rfl|rfl|rfl|rfl
 ·exact ai h 3 rfl
 ·exact ai h 4 rfl
 ·exact ai h 5 rfl
 ·exact ai h 6 rfl
theorem eH.cf (h:eH p w st s wv rs)(f:Nat)(hf:f<4):w.cell? ⟨p,3+f,none⟩=some (s f):=anq (cs:=#[]) h.blk f hf
theorem eH.kH (h:eH p w st s wv rs)(j:Nat):w.frozen? ⟨p,j,none⟩=false:=aB h.blk j
end
theorem q9 (w:World):Calls Tryz.prog 13 #[] w fun E w'=>E=.returned (.pointer (some ⟨w.heap.size,0,none⟩))∧Pk w.heap.size (fun g=>g=w.heap.size) w' Dm.new∧Below w.heap.size w w':=by
 obtain⟨w1,hw1,aT,ak,hB⟩:=au w #[.bool true,.bool true,.int .i64 (-1),.slice none 0 0,.slice none 0 0,.slice none 0 0,.slice none 0 0,.slice none 0 0,.int .i64 0] 97
 have D:Hid (Pk w.heap.size (fun g=>g=w.heap.size) w1 Dm.new):=⟨fun _=>.slice none 0 0,.slice none 0 0,[],⟨hB,⟨fun f _=>Own.nil _ _ _ _,fun f g _ _ _ b hb=>by simp[Value.ownBlock]at hb,dI.nil _ _ _ _ _,fun r hr=>by simp at hr,fun r hr=>by simp at hr,rfl⟩,trivial⟩,by funext g;simp[FB,Value.ownBlock]⟩
 clear hB
 go_enter Tryz.func13,Tryz.ntmps13
 go_wp2
 go_ret
 exact⟨rfl,D.out,ak⟩
theorem ae9 (p:Nat)(F:Nat→Prop)(w:World)(st:Dm.Ds)(h:Pk p F w st):Calls Tryz.prog 67 #[.pointer (some ⟨p,0,none⟩)] w fun E w'=>E=.returned (.bool true)∧w=w':=by
 obtain⟨s,wv,rs,h,rfl⟩:=h
 have c0:=h.c0
 clear h
 go_enter Tryz.func67,Tryz.ntmps67
 go_wp2
 go_ret
 exact⟨rfl,rfl⟩
theorem mE (p:Nat)(F:Nat→Prop)(w:World)(st:Dm.Ds)(h:Pk p F w st):Calls Tryz.prog 146 #[.pointer (some ⟨p,0,none⟩)] w fun E w'=>E=.returned (.int .i64 (ask st))∧w=w':=by
 have hn:=ae9 p F w st h
 obtain⟨s,wv,rs,h,rfl⟩:=h
 have c1:=h.c1
 have HN:=hide hn
 clear h hn
 cases hon:st.on
 ·rw[hon]at c1
  rw[wV hon]
  clear hon
  go_enter Tryz.func146,Tryz.ntmps146
  go_wp2_with fail
  refine HN.out.mono ?_
  rintro E w1 ⟨rfl,rfl⟩
  go_wp2
  go_ret
  exact⟨rfl,rfl⟩
 ·rw[hon]at c1
  rw[wH hon]
  clear hon
  go_enter Tryz.func146,Tryz.ntmps146
  go_wp2_with fail
  refine HN.out.mono ?_
  rintro E w1 ⟨rfl,rfl⟩
  go_wp2
  go_ret
  exact⟨rfl,rfl⟩
theorem sN (f:Int)(w:World):Calls Tryz.prog 68 #[.int .i64 f] w fun E w'=>E=.returned (.bool (Dm.jR f))∧w=w':=by
 unfold Dm.jR
 by_cases h0:0≤f
 ·by_cases h4:f<4
  ·rw[decide_eq_true h0,decide_eq_true h4]
   go_enter Tryz.func68,Tryz.ntmps68
   go_wp2
   go_ret
   exact⟨rfl,rfl⟩
  ·rw[decide_eq_true h0,decide_eq_false h4]
   go_enter Tryz.func68,Tryz.ntmps68
   go_wp2
   go_ret
   exact⟨rfl,rfl⟩
 ·rw[decide_eq_false h0,Bool.false_and]
  go_enter Tryz.func68,Tryz.ntmps68
  go_wp2
  go_ret
  exact⟨rfl,rfl⟩
theorem zR (p:Nat)(F:Nat→Prop)(w:World)(st:Dm.Ds)(h:Pk p F w st):Calls Tryz.prog 150 #[.pointer (some ⟨p,0,none⟩)] w fun E w'=>E=.returned (.bool st.on)∧w=w':=by
 have hn:=ae9 p F w st h
 obtain⟨s,wv,rs,h,rfl⟩:=h
 have c1:=h.c1
 have HN:=hide hn
 clear h hn
 go_enter Tryz.func150,Tryz.ntmps150
 go_wp2_with fail
 refine HN.out.mono ?_
 rintro E w1 ⟨rfl,rfl⟩
 go_wp2
 go_ret
 exact⟨rfl,rfl⟩
theorem aad (base:Nat)(vb:Value)(bs:List Int)(r:Rv)(w:World)(hb:Own .u8 5 base w vb bs)(hbase:base≤w.heap.size)(hv:Is .u8 w r.v r.bytes)(hto:r.cut=true→r.to≤bs.length)(hl:bs.length+r.bytes.length≤140737488355328):
  Calls Tryz.prog 268 #[.agg #[.int .i64 (jL r),.int .i64 r.file,r.v,.int .i64 r.to],vb] w fun E w'=>∃v,E=.returned v∧Own .u8 5 base w' v (Dm.iT bs r.r)∧Out (fun g=>vb.ownBlock=some g) w w'∧∀b,v.ownBlock=some b→vb.ownBlock=some b∨w.heap.size≤b:=by
 cases hc:r.cut
 ·have hk:jL r=0:=by simp[jL,hc]
  have e:Dm.iT bs r.r=bs++r.bytes:=by simp[Dm.iT,Rv.r,hc]
  rw[e,hk]
  obtain⟨w1,hw1,aT,ak,hB⟩:=au w #[.int .i64 0,.int .i64 r.file,r.v,.int .i64 r.to] 208
  have c0:w1.cell? ⟨w.heap.size,0,none⟩=some (.int .i64 0):=ai hB 0 rfl
  have c2:w1.cell? ⟨w.heap.size,2,none⟩=some r.v:=ai hB 2 rfl
  have hb1:=hb.below ak
  have hv1:=hv.below ak
  have X:Hid (∀ty,∃v' w',(Builtin.append_ #[61,61] ty #[vb,r.v]).run Tryz.prog w1=.ok v' w'∧(Own .u8 5 base w' v' (bs++r.bytes)∧w1.grownBy w' vb.ownBlock∧(v'.ownBlock=vb.ownBlock∨v'.ownBlock=some w1.heap.size))):=hide fun ty=>
   ig 61 ty .u8 5 base 1 Tryz.underlying61 Tryz.info5 (by decide) vb bs hb1 r.v r.bytes hv1 (by omega) (by omega)
  clear hB hb1 hv1 hto hc e hk
  go_enter Tryz.func268,Tryz.ntmps268
  go_wp2_with (at_builtin;refine kL rfl (.tmp 9) (.tmp 11) 61 rfl vb r.v rfl rfl X.out ?_)
  intro v2 w2 aY jA at2
  have ho:Out (fun g=>vb.ownBlock=some g) w w2:=(Out.of_below ak).trans (G:=fun g=>vb.ownBlock=some g) (Out.aP jA fun g hg=>hg) fun g hg=>.inl hg
  have hat:∀b,v2.ownBlock=some b→vb.ownBlock=some b∨w.heap.size≤b:=by
   intro b hb'
   rcases at2 with h|h
   ·exact .inl (by rw[←h];exact hb')
   ·rw[hb']at h
    simp at h
    exact .inr (by omega)
  have HO:=hide ho
  have HAT:=hide hat
  clear ho hat at2 jA
  go_wp2
  go_ret
  exact⟨_,rfl,aY,HO.out,HAT.out⟩
 ·have hk:jL r=1:=by simp[jL,hc]
  have e:Dm.iT bs r.r=bs.take r.to:=by simp[Dm.iT,Rv.r,hc]
  rw[e,hk]
  have awj:=hto hc
  obtain⟨w1,hw1,aT,ak,hB⟩:=au w #[.int .i64 1,.int .i64 r.file,r.v,.int .i64 r.to] 208
  have c0:w1.cell? ⟨w.heap.size,0,none⟩=some (.int .i64 1):=ai hB 0 rfl
  have c3:w1.cell? ⟨w.heap.size,3,none⟩=some (.int .i64 r.to):=ai hB 3 rfl
  obtain⟨vs,hsl,own,hat⟩:=(hb.below ak).kY Tryz.lG Tryz.mF r.to awj
  have HO:Hid (Out (fun g=>vb.ownBlock=some g) w w1):=hide (Out.of_below ak)
  have HAT:Hid (∀b,vs.ownBlock=some b→vb.ownBlock=some b∨w.heap.size≤b):=hide fun b hb'=>.inl (hat b hb')
  clear hB hat hto hc e hk
  go_enter Tryz.func268,Tryz.ntmps268
  go_wp2
  go_ret
  exact⟨_,rfl,own,HO.out,HAT.out⟩
theorem anS (p:Nat)(F:Nat→Prop)(w:World)(st:Dm.Ds)(f:Nat)(h:Pk p F w st)(hf:f<4)(hsz:(st.sure f).length+Dm.fP st.wait≤140737488355000)(hw:st.wait.length≤1000000):
  Calls Tryz.prog 232 #[.pointer (some ⟨p,0,none⟩),.int .i64 f] w fun E w'=>∃v,E=.returned v∧Own .u8 5 w.heap.size w' v (Dm.hold f (st.sure f) st.wait)∧Below w.heap.size w w':=by
 obtain⟨s,wv,rs,h,rfl⟩:=h
 have cf:=h.cf f hf
 have c7:=h.c7
 have hp:=h.lt p (.inl rfl)
 have isf:=(h.iK.file f hf).is
 have hlr:=h.iK.len
 obtain⟨ao,cap,hv,hcap,hcm⟩:=h.iK.row.row.shape
 have hrow:0<rs.length→∃b off c,wv=.slice (some ⟨b,off,none⟩) rs.length c∧b<w.heap.size∧∀i a,rs[i]? =some a→∀j u,(iM a)[j]? =some u→w.cell? ⟨b,off+i*4+j,none⟩=some u:=by
  intro h0
  obtain⟨b,off,c,h1,_,_,h4,h5⟩:=h.iK.row.row.full lq (by decide) h0
  exact⟨b,off,c,h1,h4,h5⟩
 have H:=hide h
 have awl:=hide hrow
 subst hv
 clear h hrow
 have hf0:(0:Int)≤(f:Int):=by omega
 have hf4:(f:Int)<4:=by omega
 go_enter Tryz.func232,Tryz.ntmps232
 go_wp2_with fail
 refine(nZ _ _ _ isf (by omega)).mono ?_
 rintro E w1 ⟨v1,rfl,aZ,ak⟩
 have d7:=(ak.cell (p:=⟨p,7,none⟩) hp).trans c7
 clear cf isf
 go_wp2
 go_loopw [5,20] (fun bv iv wr=>∃k:Nat,k≤rs.length∧iv=.int .i64 k∧Hid (Own .u8 5 w.heap.size wr bv (Dm.hold f (st.sure f) (st.wait.take k)))∧Below w.heap.size w wr) (fun _ iv _=>rs.length-(intOf iv).toNat)
 case atStart=>exact⟨0,by omega,rfl,hide (by simpa[Dm.hold]using aZ),ak⟩
 case round=>
  obtain⟨k,hk,rfl,HT,aK⟩:=hrel
  have sz:=aK.size
  by_cases hlt:k<rs.length
  ·obtain⟨b,off,cq,fH,hB,hcell⟩:=awl.out (by omega)
   simp only[Value.slice.injEq,true_and]at fH
   obtain⟨rfl,rfl⟩:=fH
   obtain⟨r,hr⟩:∃r,rs[k]? =some r:=⟨rs[k],by rw[List.getElem?_eq_getElem]⟩
   have e0:wr.cell? ⟨b,off+k*4,none⟩=some (.int .i64 (jL r)):=(aK.cell (p:=⟨b,off+k*4,none⟩) hB).trans (hcell k r hr 0 _ rfl)
   have e1:wr.cell? ⟨b,off+k*4+1,none⟩=some (.int .i64 r.file):=(aK.cell (p:=⟨b,off+k*4+1,none⟩) hB).trans (hcell k r hr 1 _ rfl)
   have e2:wr.cell? ⟨b,off+k*4+2,none⟩=some r.v:=(aK.cell (p:=⟨b,off+k*4+2,none⟩) hB).trans (hcell k r hr 2 _ rfl)
   have e3:wr.cell? ⟨b,off+k*4+3,none⟩=some (.int .i64 r.to):=(aK.cell (p:=⟨b,off+k*4+3,none⟩) hB).trans (hcell k r hr 3 _ rfl)
   obtain⟨V,hV,hV2,jE,aX,bV,x0,x1,x2,x3⟩:=aep wr 208 (.int .i64 0) (.int .i64 0) (.slice none 0 0) (.int .i64 0) (.int .i64 (jL r)) (.int .i64 r.file) r.v (.int .i64 r.to)
   have hst:st.wait[k]? =some r.r:=by rw[←H.out.iK.wait,List.getElem?_map,hr];rfl
   have hbl:=agz hst
   have hhl:=Dm.zt (st.wait.take k) (st.sure f) f
   have hfit:=Dm.ad2 H.out.ok hst
   obtain⟨ar,cr,lu,_,_⟩:=(H.out.iK.raw r (List.mem_of_getElem? hr)).1.shape
   have ir:=(((H.out.iK.raw r (List.mem_of_getElem? hr)).1).below aK).below aX
   have HN:=hide (akd hst f (st.sure f))
   have hlt':(k:Int)<rs.length:=by omega
   have hk0:(0:Int)≤(k:Int):=by omega
   have ap0:=aK.trans (aX.mono (by omega))
   have HTV:=hide (HT.out.below aX)
   by_cases hff:r.file=f
   ·have hfe:((r.file:Int)==(f:Int))=true:=by simp[hff]
    have hto:r.cut=true→r.to≤(Dm.hold f (st.sure f) (st.wait.take k)).length:=by
     intro hc
     have:=hfit.2.1 hc
     rw[show r.r.file=f from hff,←Dm.gJ]at this
     exact this
    have HTO:=hide hto
    have hlen:(Dm.hold f (st.sure f) (st.wait.take k)).length+r.bytes.length≤140737488355328:=by
     have:r.r.bytes=r.bytes:=rfl
     rw[this]at hbl
     omega
    have atj:r.r.file=f:=hff
    have HFF:=hide atj
    have BI:=hide (fun(v0:Value) (h0:Own .u8 5 w.heap.size V v0 (Dm.hold f (st.sure f) (st.wait.take k)))=>aad w.heap.size v0 _ r V h0 (by omega) ir HTO.out hlen)
    have HB2:=hide bV
    have HRV:=hide lu
    rw[lu]at e2 hV hV2 x2
    rw[lu]at BI
    clear hst hbl hhl hfit hto hff atj hcell hr HTO hlen ir lu bV
    go_wp2_with fail
    refine(BI.out _ HTV.out).mono ?_
    rintro E w2 ⟨v2,rfl,aY,afg,at2⟩
    have az:Below w.heap.size V w2:=afg.below (fun g hg=>(HTV.out.block g hg).1) (by omega)
    have HT2:Hid (Own .u8 5 w.heap.size w2 v2 (Dm.hold f (st.sure f) (st.wait.take (k+1)))):=hide (by
     rw[HN.out,if_pos HFF.out]
     exact aY)
    have anK:=ap0.trans az
    clear aY az afg at2
    go_wp2
    go_roundw
    case rel=>exact⟨k+1,by omega,by go_num,HT2,anK⟩
    case measure=>simp[intOf];omega
   ·have hfe:((r.file:Int)==(f:Int))=false:=by simp;omega
    have HT2:=hide (show Own .u8 5 w.heap.size V _ (Dm.hold f (st.sure f) (st.wait.take (k+1)))by rw[HN.out,if_neg (show ¬r.r.file=f from hff)];exact HTV.out)
    rw[lu]at e2 hV hV2 x2
    clear hst hbl hhl hfit hcell hr hff ir lu bV
    go_wp2
    go_roundw
    case rel=>exact⟨k+1,by omega,by go_num,HT2,ap0⟩
    case measure=>simp[intOf];omega
  ·have hlt':¬(k:Int)<rs.length:=by omega
   have HT2:=HT.out
   rw[List.take_of_length_le (by omega)]at HT2
   clear HT
   go_wp2
   go_ret
   exact⟨_,rfl,HT2,aK⟩
end Go.Proofs.YtlmkaljjocflmaaGreatDoor
