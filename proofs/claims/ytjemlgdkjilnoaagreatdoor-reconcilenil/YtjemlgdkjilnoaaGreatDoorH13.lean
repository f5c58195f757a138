/- Texts of one layer, one behind the other. -/
import Derived.Test.YtjemlgdkjilnoaaGreatDoorH9
import Derived.Test.YtjemlgdkjilnoaaGreatDoorH4
import Derived.Test.YtjemlgdkjilnoaaGreatDoorH1
import Derived.Test.YtjemlgdkjilnoaaGreatDoorH3
set_option maxRecDepth 100000
set_option maxHeartbeats 8000000
namespace Go.Proofs.YtjemlgdkjilnoaaGreatDoor
open Go.RowKit
set_option linter.unusedVariables false
def kD (r:Rv):Int:=if r.cut then 1 else 0
def jg (r:Rv):List Value:=[.int .i64 (kD r),.int .i64 r.file,r.v,.int .i64 r.to]
theorem lU (r:Rv):(jg r).length=4:=rfl
def eU (st:Dm.Ds):Int:=if st.has then st.left else -1
def gD (s:Nat→Value) (wv:Value) (on:Bool) (zQ count:Int):Array Value:=#[.bool true,.bool on,.int .i64 zQ,s 0,s 1,s 2,s 3,wv,.int .i64 count]
def FB (p:Nat) (s:Nat→Value) (wv:Value) (rs:List Rv) (g:Nat):Prop:=
 g=p∨(∃f,f<4∧(s f).ownBlock=some g)∨wv.ownBlock=some g∨∃r∈rs,r.v.ownBlock=some g
structure jO (w:World) (sure:Nat→List Int) (wait:List Dm.Rw) (s:Nat→Value) (wv:Value) (rs:List Rv):Prop where
 file:∀f,f<4→Own .u8 5 0 w (s f) (sure f)
 apart:∀f g,f<4→g<4→f≠g→∀b,(s f).ownBlock=some b→(s g).ownBlock≠some b
 row:dW jg 4 130 0 w wv rs
 raw:∀r∈rs,wD (fun _=>True) w r.v r.bytes
 zJ:∀r∈rs,∀f,f<4→∀b,r.v.ownBlock=some b→(s f).ownBlock≠some b
 wait:rs.map Rv.r=wait
structure fE (p:Nat) (w:World) (st:Dm.Ds) (s:Nat→Value) (wv:Value) (rs:List Rv):Prop where
 blk:w.heap[p]? =some (.cells (gD s wv st.on (eU st) st.count) 89 (0,0))
 iY:jO w st.sure st.wait s wv rs
 ok:Dm.Ok st
def Pk (p:Nat) (F:Nat→Prop) (w:World) (st:Dm.Ds):Prop:=∃s wv rs,fE p w st s wv rs∧F=FB p s wv rs
section
variable {p:Nat} {F G:Nat→Prop} {w w' w1 w2:World} {st st':Dm.Ds} {sure awO:Nat→List Int} {wait aiN:List Dm.Rw} {s s':Nat→Value} {wv wv':Value} {rs rs':List Rv}
theorem jO.agree (h:jO w sure wait s wv rs)(ha:∀g,FB p s wv rs g→w'.heap[g]? =w.heap[g]?):jO w' sure wait s wv rs:=
 ⟨fun f hf=>(h.file f hf).agree fun b hb=>ha b (.inr (.inl ⟨f,hf,hb⟩)),h.apart,h.row.agree fun b hb=>ha b (.inr (.inr (.inl hb))),fun r hr=>(h.raw r hr).agree fun b hb=>ha b (.inr (.inr (.inr ⟨r,hr,hb⟩))),h.zJ,h.wait⟩
theorem jO.cel (h:jO w sure wait s wv rs){cs:Array Value}{t:TypeId}{fr:Nat×Nat}(hp:w.heap[p]? =some (.cells cs t fr)):∀g,FB p s wv rs g→∃cs t fr,w.heap[g]? =some (.cells cs t fr):=by
 rintro g (rfl|⟨f,hf,hb⟩|hb|⟨r,hr,hb⟩)
 ·exact⟨_,_,_,hp⟩
 ·obtain⟨cs,hc⟩:=(h.file f hf).type hb
  exact⟨_,_,_,hc⟩
 ·obtain⟨cs,hc⟩:=h.row.type hb
  exact⟨_,_,_,hc⟩
 ·obtain⟨_,cs,fr,hc⟩:=(h.raw r hr).2 g hb
  exact⟨_,_,_,hc⟩
theorem jO.ne (h:jO w sure wait s wv rs){q:Nat}{cs:Array Value}{t:TypeId}{fr:Nat×Nat}(hq:w.heap[q]? =some (.cells cs t fr))(h1:t≠5)(h2:t≠130):
  (∀f,f<4→∀b,(s f).ownBlock=some b→b≠q)∧(∀b,wv.ownBlock=some b→b≠q)∧∀r∈rs,∀b,r.v.ownBlock=some b→b≠q:=by
 refine⟨fun f hf b hb e=>?_,fun b hb e=>?_,fun r hr b hb e=>?_⟩
 ·obtain⟨cs,hc⟩:=(h.file f hf).type hb
  rw[e,hq]at hc
  simp at hc
  exact h1 hc.2.1
 ·obtain⟨cs,hc⟩:=h.row.type hb
  rw[e,hq]at hc
  simp at hc
  exact h2 hc.2.1
 ·obtain⟨_,cs,fr,hc⟩:=(h.raw r hr).2 b hb
  rw[e,hq]at hc
  simp at hc
  exact h1 hc.2.1
theorem jO.but (h:jO w sure wait s wv rs){q:Nat}{cs:Array Value}{t:TypeId}{fr:Nat×Nat}(hq:w.heap[q]? =some (.cells cs t fr))(h1:t≠5)(h2:t≠130)(ha:∀b,b≠q→b<w.heap.size→w'.heap[b]? =w.heap[b]?):jO w' sure wait s wv rs:=by
 obtain⟨n1,n2,n3⟩:=h.ne hq h1 h2
 exact⟨fun f hf=>(h.file f hf).agree fun b hb=>ha b (n1 f hf b hb) ((h.file f hf).block b hb).2,h.apart,h.row.agree fun b hb=>ha b (n2 b hb) (h.row.lt b hb).2,fun r hr=>(h.raw r hr).agree fun b hb=>ha b (n3 r hr b hb) (by obtain⟨_,cs,fr,hc⟩:=(h.raw r hr).2 b hb;exact ax hc),h.zJ,h.wait⟩
theorem jO.len (h:jO w sure wait s wv rs):wait.length=rs.length:=by rw[←h.wait,List.length_map]
theorem fE.cel (h:fE p w st s wv rs):∀g,FB p s wv rs g→∃cs t fr,w.heap[g]? =some (.cells cs t fr):=h.iY.cel h.blk
theorem fE.lt (h:fE p w st s wv rs):∀g,FB p s wv rs g→g<w.heap.size:=fun g hg=>by
 obtain⟨cs,t,fr,hc⟩:=h.cel g hg
 exact ax hc
theorem fE.agree (h:fE p w st s wv rs)(ha:∀g,FB p s wv rs g→w'.heap[g]? =w.heap[g]?):fE p w' st s wv rs:=⟨(ha p (.inl rfl)).trans h.blk,h.iY.agree ha,h.ok⟩
theorem fE.below (h:fE p w st s wv rs)(hb:Below w.heap.size w w'):fE p w' st s wv rs:=h.agree fun g hg=>hb.block g (h.lt g hg)
theorem Pk.cel (h:Pk p F w st):∀g,F g→∃cs t fr,w.heap[g]? =some (.cells cs t fr):=by
 obtain⟨s,wv,rs,h,rfl⟩:=h
 exact h.cel
theorem Pk.lt (h:Pk p F w st):∀g,F g→g<w.heap.size:=by
 obtain⟨s,wv,rs,h,rfl⟩:=h
 exact h.lt
theorem Pk.agree (h:Pk p F w st)(ha:∀g,F g→w'.heap[g]? =w.heap[g]?):Pk p F w' st:=by
 obtain⟨s,wv,rs,h,rfl⟩:=h
 exact⟨s,wv,rs,h.agree ha,rfl⟩
theorem Pk.below (h:Pk p F w st)(hb:Below w.heap.size w w'):Pk p F w' st:=h.agree fun g hg=>hb.block g (h.lt g hg)
theorem Pk.out (h:Pk p F w st)(ho:Out G w w')(hd:∀g,F g→¬G g):Pk p F w' st:=h.agree fun g hg=>ho.block g (h.lt g hg) (hd g hg)
def aY (p:Nat) (F:Nat→Prop) (w w':World) (st':Dm.Ds):Prop:=∃F',Pk p F' w' st'∧Out F w w'∧∀g,F' g→F g∨w.heap.size≤g
theorem aY.trans {F1:Nat→Prop}(ho:Out F w w1)(hs:∀g,F1 g→F g∨w.heap.size≤g)(k:aY p F1 w1 w2 st'):aY p F w w2 st':=by
 obtain⟨F2,h1,h2,h3⟩:=k
 refine⟨F2,h1,ho.trans h2 hs,fun g hg=>?_⟩
 rcases h3 g hg with h|h
 ·exact hs g h
 ·exact .inr (Nat.le_trans ho.size h)
theorem aY.same (h:Pk p F w st)(hb:Below w.heap.size w w'):aY p F w w' st:=⟨F,h.below hb,Out.of_below hb,fun g hg=>.inl hg⟩
theorem aY.pre (hb:Below w.heap.size w w1)(h:aY p F w1 w2 st'):aY p F w w2 st':=h.trans (Out.of_below hb) fun g hg=>.inl hg
theorem fE.put {cs:Array Value}(hblk:w.heap[p]? =some (.cells cs 89 (0,0)))(j:Nat)(u:Value)(hc:cs.setIfInBounds j u=gD s' wv' st'.on (eU st') st'.count)(hcon:jO w st'.sure st'.wait s' wv' rs')(hok:Dm.Ok st'):
  fE p (w.setCell ⟨p,j,none⟩ u) st' s' wv' rs'∧Out (fun g=>g=p) w (w.setCell ⟨p,j,none⟩ u):=by
 refine⟨⟨by rw[aI hblk,hc],hcon.but hblk (by decide) (by decide) fun b hb _=>Below.heap_setCell _ _ _ _ hb,hok⟩,Out.aV (aB w ⟨p,j,none⟩ u) fun g hg=>by simp at hg;exact hg.symm⟩
theorem fE.set (h:fE p w st s wv rs)(j:Nat)(u:Value)(hc:(gD s wv st.on (eU st) st.count).setIfInBounds j u=gD s wv st'.on (eU st') st'.count)(h1:st'.sure=st.sure)(h2:st'.wait=st.wait):
  fE p (w.setCell ⟨p,j,none⟩ u) st' s wv rs∧Out (FB p s wv rs) w (w.setCell ⟨p,j,none⟩ u):=by
 obtain⟨r1,r2⟩:=fE.put (st':=st') (s':=s) (wv':=wv) (rs':=rs) h.blk j u hc (by rw[h1,h2];exact h.iY) (by have:=h.ok;unfold Dm.Ok at this⊢;rw[h1,h2];exact this)
 exact⟨r1,r2.mono fun g hg=>.inl (.inl hg)⟩
theorem aY.ak1 (h:fE p w' st' s wv rs)(ho:Out (FB p s wv rs) w w'):aY p (FB p s wv rs) w w' st':=⟨_,⟨s,wv,rs,h,rfl⟩,ho,fun g hg=>.inl hg⟩
theorem fE.cell (h:fE p w st s wv rs)(j:Nat){u:Value}(hj:(gD s wv st.on (eU st) st.count)[j]? =some u):w.cell? ⟨p,j,none⟩=some u:=ai h.blk j hj
theorem fE.c0 (h:fE p w st s wv rs):w.cell? ⟨p,0,none⟩=some (.bool true):=h.cell 0 rfl
theorem fE.c1 (h:fE p w st s wv rs):w.cell? ⟨p,1,none⟩=some (.bool st.on):=h.cell 1 rfl
theorem fE.c2 (h:fE p w st s wv rs):w.cell? ⟨p,2,none⟩=some (.int .i64 (eU st)):=h.cell 2 rfl
theorem fE.c7 (h:fE p w st s wv rs):w.cell? ⟨p,7,none⟩=some wv:=h.cell 7 rfl
theorem fE.c8 (h:fE p w st s wv rs):w.cell? ⟨p,8,none⟩=some (.int .i64 st.count):=h.cell 8 rfl
theorem aoT {cs:Array Value}{on:Bool}{zQ count:Int}(h:w.heap[p]? =some (.cells (gD s wv on zQ count) 89 (0,0)))(f:Nat)(hf:f<4):w.cell? ⟨p,3+f,none⟩=some (s f):=by
 rcases(show f=0∨f=1∨f=2∨f=3 by omega)with rfl|rfl|rfl|rfl
 ·exact ai h 3 rfl
 ·exact ai h 4 rfl
 ·exact ai h 5 rfl
 ·exact ai h 6 rfl
theorem fE.cf (h:fE p w st s wv rs)(f:Nat)(hf:f<4):w.cell? ⟨p,3+f,none⟩=some (s f):=aoT (cs:=#[]) h.blk f hf
theorem fE.lI (h:fE p w st s wv rs)(j:Nat):w.frozen? ⟨p,j,none⟩=false:=aC h.blk j
end
theorem ab1 (w:World):Calls Tryz.prog 7 #[] w fun E w'=>E=.returned (.pointer (some ⟨w.heap.size,0,none⟩))∧Pk w.heap.size (fun g=>g=w.heap.size) w' Dm.new∧Below w.heap.size w w':=by
 obtain⟨w1,hw1,aW,aj,hB⟩:=ak w #[.bool true,.bool true,.int .i64 (-1),.slice none 0 0,.slice none 0 0,.slice none 0 0,.slice none 0 0,.slice none 0 0,.int .i64 0] 89
 have D:Hid (Pk w.heap.size (fun g=>g=w.heap.size) w1 Dm.new):=⟨fun _=>.slice none 0 0,.slice none 0 0,[],⟨hB,⟨fun f _=>Own.nil _ _ _ _,fun f g _ _ _ b hb=>by simp[Value.ownBlock]at hb,dW.nil _ _ _ _ _,fun r hr=>by simp at hr,fun r hr=>by simp at hr,rfl⟩,trivial⟩,by funext g;simp[FB,Value.ownBlock]⟩
 clear hB
 go_enter Tryz.func7,Tryz.ntmps7
 go_wp2
 go_ret
 exact⟨rfl,D.out,aj⟩
theorem zD (p:Nat)(F:Nat→Prop)(w:World)(st:Dm.Ds)(h:Pk p F w st):Calls Tryz.prog 53 #[.pointer (some ⟨p,0,none⟩)] w fun E w'=>E=.returned (.bool true)∧w=w':=by
 obtain⟨s,wv,rs,h,rfl⟩:=h
 have c0:=h.c0
 clear h
 go_enter Tryz.func53,Tryz.ntmps53
 go_wp2
 go_ret
 exact⟨rfl,rfl⟩
theorem kT (p:Nat)(F:Nat→Prop)(w:World)(st:Dm.Ds)(h:Pk p F w st):Calls Tryz.prog 74 #[.pointer (some ⟨p,0,none⟩)] w fun E w'=>E=.returned (.int .i64 (ask st))∧w=w':=by
 have hn:=zD p F w st h
 obtain⟨s,wv,rs,h,rfl⟩:=h
 have c1:=h.c1
 have HN:=hide hn
 clear h hn
 cases hon:st.on
 ·rw[hon]at c1
  rw[sM hon]
  clear hon
  go_enter Tryz.func74,Tryz.ntmps74
  go_wp2_with fail
  refine HN.out.mono ?_
  rintro E w1 ⟨rfl,rfl⟩
  go_wp2
  go_ret
  exact⟨rfl,rfl⟩
 ·rw[hon]at c1
  rw[si hon]
  clear hon
  go_enter Tryz.func74,Tryz.ntmps74
  go_wp2_with fail
  refine HN.out.mono ?_
  rintro E w1 ⟨rfl,rfl⟩
  go_wp2
  go_ret
  exact⟨rfl,rfl⟩
theorem mg (f:Int)(w:World):Calls Tryz.prog 54 #[.int .i64 f] w fun E w'=>E=.returned (.bool (Dm.iU f))∧w=w':=by
 unfold Dm.iU
 by_cases h0:0≤f
 ·by_cases h4:f<4
  ·rw[decide_eq_true h0,decide_eq_true h4]
   go_enter Tryz.func54,Tryz.ntmps54
   go_wp2
   go_ret
   exact⟨rfl,rfl⟩
  ·rw[decide_eq_true h0,decide_eq_false h4]
   go_enter Tryz.func54,Tryz.ntmps54
   go_wp2
   go_ret
   exact⟨rfl,rfl⟩
 ·rw[decide_eq_false h0,Bool.false_and]
  go_enter Tryz.func54,Tryz.ntmps54
  go_wp2
  go_ret
  exact⟨rfl,rfl⟩
theorem afl (p:Nat)(F:Nat→Prop)(w:World)(st:Dm.Ds)(h:Pk p F w st):Calls Tryz.prog 110 #[.pointer (some ⟨p,0,none⟩)] w fun E w'=>E=.returned (.bool st.on)∧w=w':=by
 have hn:=zD p F w st h
 obtain⟨s,wv,rs,h,rfl⟩:=h
 have c1:=h.c1
 have HN:=hide hn
 clear h hn
 go_enter Tryz.func110,Tryz.ntmps110
 go_wp2_with fail
 refine HN.out.mono ?_
 rintro E w1 ⟨rfl,rfl⟩
 go_wp2
 go_ret
 exact⟨rfl,rfl⟩
section
variable {base:Nat} {w:World} {F:Nat→Prop}
theorem bD.type {e:TypeId}{r:List Cw}{v:Value}(h:bD e base w v r){g:Nat}(hg:v.ownBlock=some g):∃cs,w.heap[g]? =some (.cells cs e (0,0)):=by
 rcases h.2 with⟨rfl,_⟩|⟨g',cap,cur,rfl,_,hh,_⟩
 ·simp[Value.ownBlock]at hg
 ·simp[Value.ownBlock]at hg
  subst hg
  exact⟨_,hh⟩
theorem bz.type {e:TypeId}{r:List Bm.Ov}{v:Value}(h:bz e base w v r){g:Nat}(hg:v.ownBlock=some g):∃cs,w.heap[g]? =some (.cells cs e (0,0)):=by
 rcases h.2 with⟨rfl,_⟩|⟨g',cap,cur,rfl,_,hh,_⟩
 ·simp[Value.ownBlock]at hg
 ·simp[Value.ownBlock]at hg
  subst hg
  exact⟨_,hh⟩
theorem Pk.ty {p:Nat}{st:Dm.Ds}(h:Pk p F w st):∀g,F g→∃cs t fr,w.heap[g]? =some (.cells cs t fr)∧(t=89∨t=5∨t=130):=by
 obtain⟨s,wv,rs,h,rfl⟩:=h
 rintro g (rfl|⟨f,hf,hb⟩|hb|⟨r,hr,hb⟩)
 ·exact⟨_,_,_,h.blk,.inl rfl⟩
 ·obtain⟨cs,hc⟩:=(h.iY.file f hf).type hb
  exact⟨_,_,_,hc,.inr (.inl rfl)⟩
 ·obtain⟨cs,hc⟩:=h.iY.row.type hb
  exact⟨_,_,_,hc,.inr (.inr rfl)⟩
 ·obtain⟨_,cs,fr,hc⟩:=(h.iY.raw r hr).2 g hb
  exact⟨_,_,_,hc,.inr (.inl rfl)⟩
end
theorem df.out {F:Nat→Prop}{w w':World}{v:Value}{l:List Bm.Ov}(h:df w v l)(ho:Out F w w')(hF:0<l.length→∀b,v.ownBlock=some b→¬F b):df w' v l:=by
 rcases h with h|⟨ad,cap,hv,h1,h2,hc⟩
 ·exact .inl h
 ·refine .inr ⟨ad,cap,hv,h1,h2,fun j u hj=>?_⟩
  have hk:=hc j u hj
  have hl:0<l.length:=by
   rcases l with _|⟨x,l⟩
   ·simp[ocells]at hj
   ·simp
  have eb:(ad.add j).block=ad.block:=by unfold Addr.add;split<;>rfl
  have hlt:=World.block_lt_of_cell? _ _ hk
  rw[World.cell?_of_block (ho.block _ hlt (by rw[eb];exact hF hl _ (by rw[hv];rfl)))]
  exact hk
theorem aa7 (base:Nat)(vb:Value)(bs:List Int)(r:Rv)(w:World)(hb:Own .u8 5 base w vb bs)(hbase:base≤w.heap.size)(hv:Is .u8 w r.v r.bytes)(hto:r.cut=true→r.to≤bs.length)(hl:bs.length+r.bytes.length≤140737488355328):
  Calls Tryz.prog 164 #[.agg #[.int .i64 (kD r),.int .i64 r.file,r.v,.int .i64 r.to],vb] w fun E w'=>∃v,E=.returned v∧Own .u8 5 base w' v (Dm.je bs r.r)∧Out (fun g=>vb.ownBlock=some g) w w'∧∀b,v.ownBlock=some b→vb.ownBlock=some b∨w.heap.size≤b:=by
 cases hc:r.cut
 ·have hk:kD r=0:=by simp[kD,hc]
  have e:Dm.je bs r.r=bs++r.bytes:=by simp[Dm.je,Rv.r,hc]
  rw[e,hk]
  obtain⟨w1,hw1,aW,aj,hB⟩:=ak w #[.int .i64 0,.int .i64 r.file,r.v,.int .i64 r.to] 130
  have c0:w1.cell? ⟨w.heap.size,0,none⟩=some (.int .i64 0):=ai hB 0 rfl
  have c2:w1.cell? ⟨w.heap.size,2,none⟩=some r.v:=ai hB 2 rfl
  have hb1:=hb.below aj
  have hv1:=hv.below aj
  have X:Hid (∀ty,∃v' w',(Builtin.append_ #[79,79] ty #[vb,r.v]).run Tryz.prog w1=.ok v' w'∧(Own .u8 5 base w' v' (bs++r.bytes)∧w1.grownBy w' vb.ownBlock∧(v'.ownBlock=vb.ownBlock∨v'.ownBlock=some w1.heap.size))):=hide fun ty=>
   kY 79 ty .u8 5 base 1 Tryz.underlying79 Tryz.info5 (by decide) vb bs hb1 r.v r.bytes hv1 (by omega) (by omega)
  clear hB hb1 hv1 hto hc e hk
  go_enter Tryz.func164,Tryz.ntmps164
  go_wp2_with (at_builtin;refine jD rfl (.tmp 9) (.tmp 11) 79 rfl vb r.v rfl rfl X.out ?_)
  intro v2 w2 aT il at2
  have ho:Out (fun g=>vb.ownBlock=some g) w w2:=(Out.of_below aj).trans (G:=fun g=>vb.ownBlock=some g) (Out.aV il fun g hg=>hg) fun g hg=>.inl hg
  have hat:∀b,v2.ownBlock=some b→vb.ownBlock=some b∨w.heap.size≤b:=by
   intro b hb'
   rcases at2 with h|h
   ·exact .inl (by rw[←h];exact hb')
   ·rw[hb']at h
    simp at h
    exact .inr (by omega)
  have HO:=hide ho
  have HAT:=hide hat
  clear ho hat at2 il
  go_wp2
  go_ret
  exact⟨_,rfl,aT,HO.out,HAT.out⟩
 ·have hk:kD r=1:=by simp[kD,hc]
  have e:Dm.je bs r.r=bs.take r.to:=by simp[Dm.je,Rv.r,hc]
  rw[e,hk]
  have axS:=hto hc
  obtain⟨w1,hw1,aW,aj,hB⟩:=ak w #[.int .i64 1,.int .i64 r.file,r.v,.int .i64 r.to] 130
  have c0:w1.cell? ⟨w.heap.size,0,none⟩=some (.int .i64 1):=ai hB 0 rfl
  have c3:w1.cell? ⟨w.heap.size,3,none⟩=some (.int .i64 r.to):=ai hB 3 rfl
  obtain⟨vs,hsl,own,hat⟩:=(hb.below aj).jG Tryz.kW Tryz.mq r.to axS
  have HO:Hid (Out (fun g=>vb.ownBlock=some g) w w1):=hide (Out.of_below aj)
  have HAT:Hid (∀b,vs.ownBlock=some b→vb.ownBlock=some b∨w.heap.size≤b):=hide fun b hb'=>.inl (hat b hb')
  clear hB hat hto hc e hk
  go_enter Tryz.func164,Tryz.ntmps164
  go_wp2
  go_ret
  exact⟨_,rfl,own,HO.out,HAT.out⟩
theorem ae4 (p:Nat)(F:Nat→Prop)(w:World)(st:Dm.Ds)(f:Nat)(h:Pk p F w st)(hf:f<4)(hsz:(st.sure f).length+Dm.gq st.wait≤140737488355000)(hw:st.wait.length≤1000000):
  Calls Tryz.prog 124 #[.pointer (some ⟨p,0,none⟩),.int .i64 f] w fun E w'=>∃v,E=.returned v∧Own .u8 5 w.heap.size w' v (Dm.hold f (st.sure f) st.wait)∧Below w.heap.size w w':=by
 obtain⟨s,wv,rs,h,rfl⟩:=h
 have cf:=h.cf f hf
 have c7:=h.c7
 have hp:=h.lt p (.inl rfl)
 have isf:=(h.iY.file f hf).is
 have hlr:=h.iY.len
 obtain⟨ao,cap,hv,hcap,hcm⟩:=h.iY.row.row.shape
 have hrow:0<rs.length→∃b off c,wv=.slice (some ⟨b,off,none⟩) rs.length c∧b<w.heap.size∧∀i a,rs[i]? =some a→∀j u,(jg a)[j]? =some u→w.cell? ⟨b,off+i*4+j,none⟩=some u:=by
  intro h0
  obtain⟨b,off,c,h1,_,_,h4,h5⟩:=h.iY.row.row.full lU (by decide) h0
  exact⟨b,off,c,h1,h4,h5⟩
 have H:=hide h
 have afQ:=hide hrow
 subst hv
 clear h hrow
 have hf0:(0:Int)≤(f:Int):=by omega
 have hf4:(f:Int)<4:=by omega
 go_enter Tryz.func124,Tryz.ntmps124
 go_wp2_with fail
 refine(pG _ _ _ isf (by omega)).mono ?_
 rintro E w1 ⟨v1,rfl,aZ,aj⟩
 have d7:=(aj.cell (p:=⟨p,7,none⟩) hp).trans c7
 clear cf isf
 go_wp2
 go_loopw [5,20] (fun bv iv wr=>∃k:Nat,k≤rs.length∧iv=.int .i64 k∧Hid (Own .u8 5 w.heap.size wr bv (Dm.hold f (st.sure f) (st.wait.take k)))∧Below w.heap.size w wr) (fun _ iv _=>rs.length-(intOf iv).toNat)
 case atStart=>exact⟨0,by omega,rfl,hide (by simpa[Dm.hold]using aZ),aj⟩
 case round=>
  obtain⟨k,hk,rfl,HT,aG⟩:=hrel
  have sz:=aG.size
  by_cases hlt:k<rs.length
  ·obtain⟨b,off,cq,jo,hB,hcell⟩:=afQ.out (by omega)
   simp only[Value.slice.injEq,true_and]at jo
   obtain⟨rfl,rfl⟩:=jo
   obtain⟨r,hr⟩:∃r,rs[k]? =some r:=⟨rs[k],by rw[List.getElem?_eq_getElem]⟩
   have e0:wr.cell? ⟨b,off+k*4,none⟩=some (.int .i64 (kD r)):=(aG.cell (p:=⟨b,off+k*4,none⟩) hB).trans (hcell k r hr 0 _ rfl)
   have e1:wr.cell? ⟨b,off+k*4+1,none⟩=some (.int .i64 r.file):=(aG.cell (p:=⟨b,off+k*4+1,none⟩) hB).trans (hcell k r hr 1 _ rfl)
   have e2:wr.cell? ⟨b,off+k*4+2,none⟩=some r.v:=(aG.cell (p:=⟨b,off+k*4+2,none⟩) hB).trans (hcell k r hr 2 _ rfl)
   have e3:wr.cell? ⟨b,off+k*4+3,none⟩=some (.int .i64 r.to):=(aG.cell (p:=⟨b,off+k*4+3,none⟩) hB).trans (hcell k r hr 3 _ rfl)
   obtain⟨V,hV,hV2,kg,bu,bV,x0,x1,x2,x3⟩:=afm wr 130 (.int .i64 0) (.int .i64 0) (.slice none 0 0) (.int .i64 0) (.int .i64 (kD r)) (.int .i64 r.file) r.v (.int .i64 r.to)
   have hst:st.wait[k]? =some r.r:=by rw[←H.out.iY.wait,List.getElem?_map,hr];rfl
   have hbl:=ahe hst
   have hhl:=Dm.kZ (st.wait.take k) (st.sure f) f
   have hfit:=Dm.afg H.out.ok hst
   obtain⟨ar,cr,mo,_,_⟩:=(H.out.iY.raw r (List.mem_of_getElem? hr)).1.shape
   have ir:=(((H.out.iY.raw r (List.mem_of_getElem? hr)).1).below aG).below bu
   have HN:=hide (ajI hst f (st.sure f))
   have hlt':(k:Int)<rs.length:=by omega
   have hk0:(0:Int)≤(k:Int):=by omega
   have aq1:=aG.trans (bu.mono (by omega))
   have HTV:=hide (HT.out.below bu)
   by_cases hff:r.file=f
   ·have hfe:((r.file:Int)==(f:Int))=true:=by simp[hff]
    have hto:r.cut=true→r.to≤(Dm.hold f (st.sure f) (st.wait.take k)).length:=by
     intro hc
     have:=hfit.2.1 hc
     rw[show r.r.file=f from hff,←Dm.fG]at this
     exact this
    have HTO:=hide hto
    have hlen:(Dm.hold f (st.sure f) (st.wait.take k)).length+r.bytes.length≤140737488355328:=by
     have:r.r.bytes=r.bytes:=rfl
     rw[this]at hbl
     omega
    have awq:r.r.file=f:=hff
    have HFF:=hide awq
    have BI:=hide (fun(v0:Value) (h0:Own .u8 5 w.heap.size V v0 (Dm.hold f (st.sure f) (st.wait.take k)))=>aa7 w.heap.size v0 _ r V h0 (by omega) ir HTO.out hlen)
    have HB2:=hide bV
    have HRV:=hide mo
    rw[mo]at e2 hV hV2 x2
    rw[mo]at BI
    clear hst hbl hhl hfit hto hff awq hcell hr HTO hlen ir mo bV
    go_wp2_with fail
    refine(BI.out _ HTV.out).mono ?_
    rintro E w2 ⟨v2,rfl,aT,aeg,at2⟩
    have au:Below w.heap.size V w2:=aeg.below (fun g hg=>(HTV.out.block g hg).1) (by omega)
    have HT2:Hid (Own .u8 5 w.heap.size w2 v2 (Dm.hold f (st.sure f) (st.wait.take (k+1)))):=hide (by
     rw[HN.out,if_pos HFF.out]
     exact aT)
    have zS:=aq1.trans au
    clear aT au aeg at2
    go_wp2
    go_roundw
    case rel=>exact⟨k+1,by omega,by go_num,HT2,zS⟩
    case measure=>simp[intOf];omega
   ·have hfe:((r.file:Int)==(f:Int))=false:=by simp;omega
    have HT2:=hide (show Own .u8 5 w.heap.size V _ (Dm.hold f (st.sure f) (st.wait.take (k+1)))by rw[HN.out,if_neg (show ¬r.r.file=f from hff)];exact HTV.out)
    rw[mo]at e2 hV hV2 x2
    clear hst hbl hhl hfit hcell hr hff ir mo bV
    go_wp2
    go_roundw
    case rel=>exact⟨k+1,by omega,by go_num,HT2,aq1⟩
    case measure=>simp[intOf];omega
  ·have hlt':¬(k:Int)<rs.length:=by omega
   have HT2:=HT.out
   rw[List.take_of_length_le (by omega)]at HT2
   clear HT
   go_wp2
   go_ret
   exact⟨_,rfl,HT2,aG⟩
end Go.Proofs.YtjemlgdkjilnoaaGreatDoor
