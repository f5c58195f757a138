/- Texts. -/
import Derived.Test.YtlmkaljjocflmaaGreatDoorBH1
import Derived.Test.YtlmkaljjocflmaaGreatDoorBH13
import Derived.Test.YtlmkaljjocflmaaGreatDoorProg
set_option maxRecDepth 100000
set_option maxHeartbeats 8000000
set_option linter.unusedVariables false
open Go.Proofs.Tryz
namespace Go.Proofs.YtlmkaljjocflmaaGreatDoor
open Go.RowKit
def jV (r:Rv):Int:=if r.cut then 1 else 0
def jb (r:Rv):List Value:=[.int .i64 (jV r),.int .i64 r.file,r.v,.int .i64 r.to]
theorem lV (r:Rv):(jb r).length=4:=rfl
def fw (st:Dm.Ds):Int:=if st.has then st.left else -1
def gF (s:Nat→Value) (wv:Value) (on:Bool) (aaN count:Int):Array Value:=#[.bool true,.bool on,.int .i64 aaN,s 0,s 1,s 2,s 3,wv,.int .i64 count]
def FB (p:Nat) (s:Nat→Value) (wv:Value) (rs:List Rv) (g:Nat):Prop:=
 g=p∨(∃f,f<4∧(s f).ownBlock=some g)∨wv.ownBlock=some g∨∃r∈rs,r.v.ownBlock=some g
structure jR (w:World) (sure:Nat→List Int) (wait:List Dm.Rw) (s:Nat→Value) (wv:Value) (rs:List Rv):Prop where
 file:∀f,f<4→Own .u8 5 0 w (s f) (sure f)
 apart:∀f g,f<4→g<4→f≠g→∀b,(s f).ownBlock=some b→(s g).ownBlock≠some b
 row:eZ jb 4 208 0 w wv rs
 raw:∀r∈rs,Byt (fun _=>True) w r.v r.bytes
 aaL:∀r∈rs,∀f,f<4→∀b,r.v.ownBlock=some b→(s f).ownBlock≠some b
 wait:rs.map Rv.r=wait
structure fH (p:Nat) (w:World) (st:Dm.Ds) (s:Nat→Value) (wv:Value) (rs:List Rv):Prop where
 blk:w.heap[p]? =some (.cells (gF s wv st.on (fw st) st.count) 97 (0,0))
 ja:jR w st.sure st.wait s wv rs
 ok:Dm.Ok st
def Pk (p:Nat) (F:Nat→Prop) (w:World) (st:Dm.Ds):Prop:=∃s wv rs,fH p w st s wv rs∧F=FB p s wv rs
section
variable {p:Nat} {F G:Nat→Prop} {w w' w1 w2:World} {st st':Dm.Ds} {sure ayY:Nat→List Int} {wait ajW:List Dm.Rw} {s s':Nat→Value} {wv wv':Value} {rs rs':List Rv}
theorem jR.agree (h:jR w sure wait s wv rs)(ha:∀g,FB p s wv rs g→w'.heap[g]? =w.heap[g]?):jR w' sure wait s wv rs:=
 ⟨fun f hf=>(h.file f hf).agree fun b hb=>ha b (.inr (.inl ⟨f,hf,hb⟩)),h.apart,h.row.agree fun b hb=>ha b (.inr (.inr (.inl hb))),fun r hr=>(h.raw r hr).agree fun b hb=>ha b (.inr (.inr (.inr ⟨r,hr,hb⟩))),h.aaL,h.wait⟩
theorem jR.wI (h:jR w sure wait s wv rs){cs:Array Value}{t:TypeId}{fr:Nat×Nat}(hp:w.heap[p]? =some (.cells cs t fr)):∀g,FB p s wv rs g→∃cs t fr,w.heap[g]? =some (.cells cs t fr):=by
 rintro g (rfl|⟨f,hf,hb⟩|hb|⟨r,hr,hb⟩)
 ·exact⟨_,_,_,hp⟩
 ·obtain⟨cs,hc⟩:=(h.file f hf).type hb
  exact⟨_,_,_,hc⟩
 ·obtain⟨cs,hc⟩:=h.row.type hb
  exact⟨_,_,_,hc⟩
 ·obtain⟨_,cs,fr,hc⟩:=(h.raw r hr).2 g hb
  exact⟨_,_,_,hc⟩
theorem jR.ne (h:jR w sure wait s wv rs){q:Nat}{cs:Array Value}{t:TypeId}{fr:Nat×Nat}(hq:w.heap[q]? =some (.cells cs t fr))(h1:t≠5)(h2:t≠208):
  (∀f,f<4→∀b,(s f).ownBlock=some b→b≠q)∧(∀b,wv.ownBlock=some b→b≠q)∧∀r∈rs,∀b,r.v.ownBlock=some b→b≠q:=by
 refine⟨fun f hf b hb e=>?_,fun b hb e=>?_,fun r hr b hb e=>?_⟩
 ·obtain⟨cs,hc⟩:=(h.file f hf).type hb
  rw[e,hq]at hc
  simp at hc
  exact h1 hc.2.1
 ·obtain⟨cs,hc⟩:=h.row.type hb
  rw[e,hq]at hc
  simp at hc
  exact h2 hc.2.1
 ·obtain⟨_,cs,fr,hc⟩:=(h.raw r hr).2 b hb
  rw[e,hq]at hc
  simp at hc
  exact h1 hc.2.1
theorem jR.but (h:jR w sure wait s wv rs){q:Nat}{cs:Array Value}{t:TypeId}{fr:Nat×Nat}(hq:w.heap[q]? =some (.cells cs t fr))(h1:t≠5)(h2:t≠208)(ha:∀b,b≠q→b<w.heap.size→w'.heap[b]? =w.heap[b]?):jR w' sure wait s wv rs:=by
 obtain⟨n1,n2,n3⟩:=h.ne hq h1 h2
 exact⟨fun f hf=>(h.file f hf).agree fun b hb=>ha b (n1 f hf b hb) ((h.file f hf).block b hb).2,h.apart,h.row.agree fun b hb=>ha b (n2 b hb) (h.row.lt b hb).2,fun r hr=>(h.raw r hr).agree fun b hb=>ha b (n3 r hr b hb) (by obtain⟨_,cs,fr,hc⟩:=(h.raw r hr).2 b hb;exact ay hc),h.aaL,h.wait⟩
theorem jR.len (h:jR w sure wait s wv rs):wait.length=rs.length:=by rw[←h.wait,List.length_map]
theorem fH.wI (h:fH p w st s wv rs):∀g,FB p s wv rs g→∃cs t fr,w.heap[g]? =some (.cells cs t fr):=h.ja.wI h.blk
theorem fH.lt (h:fH p w st s wv rs):∀g,FB p s wv rs g→g<w.heap.size:=fun g hg=>by
 obtain⟨cs,t,fr,hc⟩:=h.wI g hg
 exact ay hc
theorem fH.agree (h:fH p w st s wv rs)(ha:∀g,FB p s wv rs g→w'.heap[g]? =w.heap[g]?):fH p w' st s wv rs:=⟨(ha p (.inl rfl)).trans h.blk,h.ja.agree ha,h.ok⟩
theorem fH.below (h:fH p w st s wv rs)(hb:Bq w w'):fH p w' st s wv rs:=h.agree fun g hg=>hb.block g (h.lt g hg)
theorem Pk.wI (h:Pk p F w st):∀g,F g→∃cs t fr,w.heap[g]? =some (.cells cs t fr):=by
 obtain⟨s,wv,rs,h,rfl⟩:=h
 exact h.wI
theorem Pk.lt (h:Pk p F w st):∀g,F g→g<w.heap.size:=by
 obtain⟨s,wv,rs,h,rfl⟩:=h
 exact h.lt
theorem Pk.agree (h:Pk p F w st)(ha:∀g,F g→w'.heap[g]? =w.heap[g]?):Pk p F w' st:=by
 obtain⟨s,wv,rs,h,rfl⟩:=h
 exact⟨s,wv,rs,h.agree ha,rfl⟩
theorem Pk.below (h:Pk p F w st)(hb:Bq w w'):Pk p F w' st:=h.agree fun g hg=>hb.block g (h.lt g hg)
theorem Pk.out (h:Pk p F w st)(ho:Out G w w')(hd:∀g,F g→¬G g):Pk p F w' st:=h.agree fun g hg=>ho.block g (h.lt g hg) (hd g hg)
def bN (p:Nat) (F:Nat→Prop) (w w':World) (st':Dm.Ds):Prop:=∃F',Pk p F' w' st'∧Out F w w'∧∀g,F' g→F g∨w.heap.size≤g
theorem bN.trans {F1:Nat→Prop}(ho:Out F w w1)(hs:∀g,F1 g→F g∨w.heap.size≤g)(k:bN p F1 w1 w2 st'):bN p F w w2 st':=by
 obtain⟨F2,h1,h2,h3⟩:=k
 refine⟨F2,h1,ho.trans h2 hs,fun g hg=>?_⟩
 rcases h3 g hg with h|h
 ·exact hs g h
 ·exact .inr (Nat.le_trans ho.size h)
theorem bN.same (h:Pk p F w st)(hb:Bq w w'):bN p F w w' st:=⟨F,h.below hb,Out.of_below hb,fun g hg=>.inl hg⟩
theorem bN.pre (hb:Bq w w1)(h:bN p F w1 w2 st'):bN p F w w2 st':=h.trans (Out.of_below hb) fun g hg=>.inl hg
theorem fH.put {cs:Array Value}(hblk:w.heap[p]? =some (.cells cs 97 (0,0)))(j:Nat)(u:Value)(hc:cs.setIfInBounds j u=gF s' wv' st'.on (fw st') st'.count)(hcon:jR w st'.sure st'.wait s' wv' rs')(hok:Dm.Ok st'):
  fH p (w.setCell ⟨p,j,none⟩ u) st' s' wv' rs'∧Out (fun g=>g=p) w (w.setCell ⟨p,j,none⟩ u):=by
 refine⟨⟨by rw[aF hblk,hc],hcon.but hblk (by decide) (by decide) fun b hb _=>Below.heap_setCell _ _ _ _ hb,hok⟩,Out.aM (ax w ⟨p,j,none⟩ u) fun g hg=>by simp at hg;exact hg.symm⟩
theorem fH.set (h:fH p w st s wv rs)(j:Nat)(u:Value)(hc:(gF s wv st.on (fw st) st.count).setIfInBounds j u=gF s wv st'.on (fw st') st'.count)(h1:st'.sure=st.sure)(h2:st'.wait=st.wait):
  fH p (w.setCell ⟨p,j,none⟩ u) st' s wv rs∧Out (FB p s wv rs) w (w.setCell ⟨p,j,none⟩ u):=by
 obtain⟨r1,r2⟩:=fH.put (st':=st') (s':=s) (wv':=wv) (rs':=rs) h.blk j u hc (by rw[h1,h2];exact h.ja) (by have:=h.ok;unfold Dm.Ok at this⊢;rw[h1,h2];exact this)
 exact⟨r1,r2.mono fun g hg=>.inl (.inl hg)⟩
theorem bN.ang (h:fH p w' st' s wv rs)(ho:Out (FB p s wv rs) w w'):bN p (FB p s wv rs) w w' st':=⟨_,⟨s,wv,rs,h,rfl⟩,ho,fun g hg=>.inl hg⟩
theorem fH.cell (h:fH p w st s wv rs)(j:Nat){u:Value}(hj:(gF s wv st.on (fw st) st.count)[j]? =some u):w.cell? ⟨p,j,none⟩=some u:=ai h.blk j hj
theorem fH.c0 (h:fH p w st s wv rs):w.cell? ⟨p,0,none⟩=some (.bool true):=h.cell 0 rfl
theorem fH.c1 (h:fH p w st s wv rs):w.cell? ⟨p,1,none⟩=some (.bool st.on):=h.cell 1 rfl
theorem fH.c2 (h:fH p w st s wv rs):w.cell? ⟨p,2,none⟩=some (.int .i64 (fw st)):=h.cell 2 rfl
theorem fH.c7 (h:fH p w st s wv rs):w.cell? ⟨p,7,none⟩=some wv:=h.cell 7 rfl
theorem fH.c8 (h:fH p w st s wv rs):w.cell? ⟨p,8,none⟩=some (.int .i64 st.count):=h.cell 8 rfl
theorem an2 {cs:Array Value}{on:Bool}{aaN count:Int}(h:w.heap[p]? =some (.cells (gF s wv on aaN count) 97 (0,0)))(f:Nat)(hf:f<4):w.cell? ⟨p,3+f,none⟩=some (s f):=by
 rcases(show f=0∨f=1∨f=2∨f=3 by omega)with rfl|rfl|rfl|rfl
 ·exact ai h 3 rfl
 ·exact ai h 4 rfl
 ·exact ai h 5 rfl
 ·exact ai h 6 rfl
theorem fH.cf (h:fH p w st s wv rs)(f:Nat)(hf:f<4):w.cell? ⟨p,3+f,none⟩=some (s f):=an2 (cs:=#[]) h.blk f hf
theorem fH.lH (h:fH p w st s wv rs)(j:Nat):w.frozen? ⟨p,j,none⟩=false:=aA h.blk j
end
theorem aik (w:World):Calls prog 13 #[] w fun E w'=>E=.returned (.pointer (some ⟨w.heap.size,0,none⟩))∧Pk w.heap.size (fun g=>g=w.heap.size) w' Dm.new∧Bq w w':=by
 obtain⟨w1,hw1,aV,aj,hB⟩:=au w #[.bool true,.bool true,.int .i64 (-1),.slice none 0 0,.slice none 0 0,.slice none 0 0,.slice none 0 0,.slice none 0 0,.int .i64 0] 97
 have D:Hid (Pk w.heap.size (fun g=>g=w.heap.size) w1 Dm.new):=⟨fun _=>.slice none 0 0,.slice none 0 0,[],⟨hB,⟨fun f _=>Own.nil _ _ _ _,fun f g _ _ _ b hb=>by simp[Value.ownBlock]at hb,eZ.nil _ _ _ _ _,fun r hr=>by simp at hr,fun r hr=>by simp at hr,rfl⟩,trivial⟩,by funext g;simp[FB,Value.ownBlock]⟩
 clear hB
 go_enter func13,ntmps13
 go_wp2
 go_ret
 exact⟨rfl,D.out,aj⟩
theorem afi (p:Nat)(F:Nat→Prop)(w:World)(st:Dm.Ds)(h:Pk p F w st):Calls prog 67 #[.pointer (some ⟨p,0,none⟩)] w fun E w'=>E=.returned (.bool true)∧w=w':=by
 obtain⟨s,wv,rs,h,rfl⟩:=h
 have c0:=h.c0
 clear h
 go_enter func67,ntmps67
 go_wp2
 go_ret
 exact⟨rfl,rfl⟩
theorem nC (p:Nat)(F:Nat→Prop)(w:World)(st:Dm.Ds)(h:Pk p F w st):Calls prog 146 #[.pointer (some ⟨p,0,none⟩)] w fun E w'=>E=.returned (.int .i64 (ask st))∧w=w':=by
 have hn:=afi p F w st h
 obtain⟨s,wv,rs,h,rfl⟩:=h
 have c1:=h.c1
 have HN:=hide hn
 clear h hn
 cases hon:st.on
 ·rw[hon]at c1
  rw[zf hon]
  clear hon
  go_enter func146,ntmps146
  go_wp2_with fail
  refine HN.out.mono ?_
  rintro E w1 ⟨rfl,rfl⟩
  go_wp2
  go_ret
  exact⟨rfl,rfl⟩
 ·rw[hon]at c1
  rw[xW hon]
  clear hon
  go_enter func146,ntmps146
  go_wp2_with fail
  refine HN.out.mono ?_
  rintro E w1 ⟨rfl,rfl⟩
  go_wp2
  go_ret
  exact⟨rfl,rfl⟩
theorem uK (f:Int)(w:World):Calls prog 68 #[.int .i64 f] w fun E w'=>E=.returned (.bool (Dm.kS f))∧w=w':=by
 unfold Dm.kS
 by_cases h0:0≤f
 ·by_cases h4:f<4
  ·rw[decide_eq_true h0,decide_eq_true h4]
   go_enter func68,ntmps68
   go_wp2
   go_ret
   exact⟨rfl,rfl⟩
  ·rw[decide_eq_true h0,decide_eq_false h4]
   go_enter func68,ntmps68
   go_wp2
   go_ret
   exact⟨rfl,rfl⟩
 ·rw[decide_eq_false h0,Bool.false_and]
  go_enter func68,ntmps68
  go_wp2
  go_ret
  exact⟨rfl,rfl⟩
theorem xU (p:Nat)(F:Nat→Prop)(w:World)(st:Dm.Ds)(h:Pk p F w st):Calls prog 150 #[.pointer (some ⟨p,0,none⟩)] w fun E w'=>E=.returned (.bool st.on)∧w=w':=by
 have hn:=afi p F w st h
 obtain⟨s,wv,rs,h,rfl⟩:=h
 have c1:=h.c1
 have HN:=hide hn
 clear h hn
 go_enter func150,ntmps150
 go_wp2_with fail
 refine HN.out.mono ?_
 rintro E w1 ⟨rfl,rfl⟩
 go_wp2
 go_ret
 exact⟨rfl,rfl⟩
theorem uH {l:List Dm.Rw}{k:Nat}{r:Dm.Rw}(h:l[k]? =some r):l.take (k+1)=l.take k++[r]:=by
 obtain⟨hk,rfl⟩:=List.getElem?_eq_some_iff.1 h
 exact List.take_succ_eq_append_getElem hk
theorem adN:∀(l:List Dm.Rw) (k:Nat),Dm.gH (l.take k)≤Dm.gH l
 |[],k=>by simp[Dm.gH]
 |r::l,0=>by simp[Dm.gH]
 |r::l,k+1=>by
  have:=adN l k
  simp only[List.take_succ_cons,Dm.gH]
  omega
theorem ahX {l:List Dm.Rw}{k:Nat}{r:Dm.Rw}(h:l[k]? =some r):Dm.gH (l.take k)+r.bytes.length≤Dm.gH l:=by
 have h1:=adN l (k+1)
 rw[uH h,Dm.aaQ]at h1
 simp only[Dm.gH]at h1
 omega
theorem ale {l:List Dm.Rw}{k:Nat}{r:Dm.Rw}(h:l[k]? =some r)(f:Nat)(b:List Int):Dm.hold f b (l.take (k+1))=if r.file=f then Dm.qY (Dm.hold f b (l.take k)) r else Dm.hold f b (l.take k):=by
 rw[uH h,Dm.ac5]
theorem aaY (base:Nat)(vb:Value)(bs:List Int)(r:Rv)(w:World)(hb:Own .u8 5 base w vb bs)(hbase:base≤w.heap.size)(hv:Is .u8 w r.v r.bytes)(hto:r.cut=true→r.to≤bs.length)(hl:bs.length+r.bytes.length≤140737488355328):
  Calls prog 268 #[.agg #[.int .i64 (jV r),.int .i64 r.file,r.v,.int .i64 r.to],vb] w fun E w'=>∃v,E=.returned v∧Own .u8 5 base w' v (Dm.qY bs r.r)∧Out (fun g=>vb.ownBlock=some g) w w'∧∀b,v.ownBlock=some b→vb.ownBlock=some b∨w.heap.size≤b:=by
 cases hc:r.cut
 ·have hk:jV r=0:=by simp[jV,hc]
  have e:Dm.qY bs r.r=bs++r.bytes:=by simp[Dm.qY,Rv.r,hc]
  rw[e,hk]
  obtain⟨w1,hw1,aV,aj,hB⟩:=au w #[.int .i64 0,.int .i64 r.file,r.v,.int .i64 r.to] 208
  have c0:w1.cell? ⟨w.heap.size,0,none⟩=some (.int .i64 0):=ai hB 0 rfl
  have c2:w1.cell? ⟨w.heap.size,2,none⟩=some r.v:=ai hB 2 rfl
  have hb1:=hb.below aj
  have hv1:=hv.below aj
  have X:Hid (∀ty,∃v' w',(Builtin.append_ #[61,61] ty #[vb,r.v]).run prog w1=.ok v' w'∧(Own .u8 5 base w' v' (bs++r.bytes)∧w1.grownBy w' vb.ownBlock∧(v'.ownBlock=vb.ownBlock∨v'.ownBlock=some w1.heap.size))):=hide fun ty=>
   iL 61 ty .u8 5 base 1 underlying61 Tryz.info5 (by decide) vb bs hb1 r.v r.bytes hv1 (by omega) (by omega)
  clear hB hb1 hv1 hto hc e hk
  go_enter func268,ntmps268
  go_wp2_with (at_builtin;refine lF rfl (.tmp 9) (.tmp 11) 61 rfl vb r.v rfl rfl X.out ?_)
  intro v2 w2 aW iU at2
  have ho:Out (fun g=>vb.ownBlock=some g) w w2:=(Out.of_below aj).trans (G:=fun g=>vb.ownBlock=some g) (Out.aM iU fun g hg=>hg) fun g hg=>.inl hg
  have hat:∀b,v2.ownBlock=some b→vb.ownBlock=some b∨w.heap.size≤b:=by
   intro b hb'
   rcases at2 with h|h
   ·exact .inl (by rw[←h];exact hb')
   ·rw[hb']at h
    simp at h
    exact .inr (by omega)
  have HO:=hide ho
  have HAT:=hide hat
  clear ho hat at2 iU
  go_wp2
  go_ret
  exact⟨_,rfl,aW,HO.out,HAT.out⟩
 ·have hk:jV r=1:=by simp[jV,hc]
  have e:Dm.qY bs r.r=bs.take r.to:=by simp[Dm.qY,Rv.r,hc]
  rw[e,hk]
  have aAL:=hto hc
  obtain⟨w1,hw1,aV,aj,hB⟩:=au w #[.int .i64 1,.int .i64 r.file,r.v,.int .i64 r.to] 208
  have c0:w1.cell? ⟨w.heap.size,0,none⟩=some (.int .i64 1):=ai hB 0 rfl
  have c3:w1.cell? ⟨w.heap.size,3,none⟩=some (.int .i64 r.to):=ai hB 3 rfl
  obtain⟨vs,hsl,own,hat⟩:=(hb.below aj).kJ Tryz.lZ Tryz.nH r.to aAL
  have HO:Hid (Out (fun g=>vb.ownBlock=some g) w w1):=hide (Out.of_below aj)
  have HAT:Hid (∀b,vs.ownBlock=some b→vb.ownBlock=some b∨w.heap.size≤b):=hide fun b hb'=>.inl (hat b hb')
  clear hB hat hto hc e hk
  go_enter func268,ntmps268
  go_wp2
  go_ret
  exact⟨_,rfl,own,HO.out,HAT.out⟩
theorem arv (p:Nat)(F:Nat→Prop)(w:World)(st:Dm.Ds)(f:Nat)(h:Pk p F w st)(hf:f<4)(hsz:(st.sure f).length+Dm.gH st.wait≤140737488355000)(hw:st.wait.length≤1000000):
  Calls prog 232 #[.pointer (some ⟨p,0,none⟩),.int .i64 f] w fun E w'=>∃v,E=.returned v∧Own .u8 5 w.heap.size w' v (Dm.hold f (st.sure f) st.wait)∧Bq w w':=by
 obtain⟨s,wv,rs,h,rfl⟩:=h
 have cf:=h.cf f hf
 have c7:=h.c7
 have hp:=h.lt p (.inl rfl)
 have isf:=(h.ja.file f hf).is
 have hlr:=h.ja.len
 obtain⟨ao,cap,hv,hcap,hcm⟩:=h.ja.row.row.shape
 have hrow:0<rs.length→∃b off c,wv=.slice (some ⟨b,off,none⟩) rs.length c∧b<w.heap.size∧∀i a,rs[i]? =some a→∀j u,(jb a)[j]? =some u→w.cell? ⟨b,off+i*4+j,none⟩=some u:=by
  intro h0
  obtain⟨b,off,c,h1,_,_,h4,h5⟩:=h.ja.row.row.full lV (by decide) h0
  exact⟨b,off,c,h1,h4,h5⟩
 have H:=hide h
 have apX:=hide hrow
 subst hv
 clear h hrow
 have hf0:(0:Int)≤(f:Int):=by omega
 have hf4:(f:Int)<4:=by omega
 go_enter func232,ntmps232
 go_wp2_with fail
 refine(pG _ _ _ isf (by omega)).mono ?_
 rintro E w1 ⟨v1,rfl,aX,aj⟩
 have d7:=(aj.cell (p:=⟨p,7,none⟩) hp).trans c7
 clear cf isf
 go_wp2
 go_loopw [5,20] (fun bv iv wr=>∃k:Nat,k≤rs.length∧iv=.int .i64 k∧Hid (Own .u8 5 w.heap.size wr bv (Dm.hold f (st.sure f) (st.wait.take k)))∧Bq w wr) (fun _ iv _=>rs.length-(intOf iv).toNat)
 case atStart=>exact⟨0,by omega,rfl,hide (by simpa[Dm.hold]using aX),aj⟩
 case round=>
  obtain⟨k,hk,rfl,HT,aI⟩:=hrel
  have sz:=aI.size
  by_cases hlt:k<rs.length
  ·obtain⟨b,off,cq,dI,hB,hcell⟩:=apX.out (by omega)
   simp only[Value.slice.injEq,true_and]at dI
   obtain⟨rfl,rfl⟩:=dI
   obtain⟨r,hr⟩:∃r,rs[k]? =some r:=⟨rs[k],by rw[List.getElem?_eq_getElem]⟩
   have e0:wr.cell? ⟨b,off+k*4,none⟩=some (.int .i64 (jV r)):=(aI.cell (p:=⟨b,off+k*4,none⟩) hB).trans (hcell k r hr 0 _ rfl)
   have e1:wr.cell? ⟨b,off+k*4+1,none⟩=some (.int .i64 r.file):=(aI.cell (p:=⟨b,off+k*4+1,none⟩) hB).trans (hcell k r hr 1 _ rfl)
   have e2:wr.cell? ⟨b,off+k*4+2,none⟩=some r.v:=(aI.cell (p:=⟨b,off+k*4+2,none⟩) hB).trans (hcell k r hr 2 _ rfl)
   have e3:wr.cell? ⟨b,off+k*4+3,none⟩=some (.int .i64 r.to):=(aI.cell (p:=⟨b,off+k*4+3,none⟩) hB).trans (hcell k r hr 3 _ rfl)
   obtain⟨V,hV,hV2,iy,bg,bV,x0,x1,x2,x3⟩:=agO wr 208 (.int .i64 0) (.int .i64 0) (.slice none 0 0) (.int .i64 0) (.int .i64 (jV r)) (.int .i64 r.file) r.v (.int .i64 r.to)
   have hst:st.wait[k]? =some r.r:=by rw[←H.out.ja.wait,List.getElem?_map,hr];rfl
   have hbl:=ahX hst
   have hhl:=Dm.aax (st.wait.take k) (st.sure f) f
   have hfit:=Dm.agw H.out.ok hst
   obtain⟨ar,cr,mG,_,_⟩:=(H.out.ja.raw r (List.mem_of_getElem? hr)).1.shape
   have ir:=(((H.out.ja.raw r (List.mem_of_getElem? hr)).1).below aI).below bg
   have HN:=hide (ale hst f (st.sure f))
   have hlt':(k:Int)<rs.length:=by omega
   have hk0:(0:Int)≤(k:Int):=by omega
   have asz:=aI.trans (bg.mono (by omega))
   have HTV:=hide (HT.out.below bg)
   by_cases hff:r.file=f
   ·have hfe:((r.file:Int)==(f:Int))=true:=by simp[hff]
    have hto:r.cut=true→r.to≤(Dm.hold f (st.sure f) (st.wait.take k)).length:=by
     intro hc
     have:=hfit.2.1 hc
     rw[show r.r.file=f from hff,←Dm.qH]at this
     exact this
    have HTO:=hide hto
    have hlen:(Dm.hold f (st.sure f) (st.wait.take k)).length+r.bytes.length≤140737488355328:=by
     have:r.r.bytes=r.bytes:=rfl
     rw[this]at hbl
     omega
    have awr:r.r.file=f:=hff
    have xS:=hide awr
    have BI:=hide (fun(v0:Value) (h0:Own .u8 5 w.heap.size V v0 (Dm.hold f (st.sure f) (st.wait.take k)))=>aaY w.heap.size v0 _ r V h0 (by omega) ir HTO.out hlen)
    have HB2:=hide bV
    have HRV:=hide mG
    rw[mG]at e2 hV hV2 x2
    rw[mG]at BI
    clear hst hbl hhl hfit hto hff awr hcell hr HTO hlen ir mG bV
    go_wp2_with fail
    refine(BI.out _ HTV.out).mono ?_
    rintro E w2 ⟨v2,rfl,aW,agF,at2⟩
    have az:Below w.heap.size V w2:=agF.below (fun g hg=>(HTV.out.block g hg).1) (by omega)
    have HT2:Hid (Own .u8 5 w.heap.size w2 v2 (Dm.hold f (st.sure f) (st.wait.take (k+1)))):=hide (by
     rw[HN.out,if_pos xS.out]
     exact aW)
    have aoP:=asz.trans az
    clear aW az agF at2
    go_wp2
    go_roundw
    case rel=>exact⟨k+1,by omega,by go_num,HT2,aoP⟩
    case measure=>simp[intOf];omega
   ·have hfe:((r.file:Int)==(f:Int))=false:=by simp;omega
    have HT2:=hide (show Own .u8 5 w.heap.size V _ (Dm.hold f (st.sure f) (st.wait.take (k+1)))by rw[HN.out,if_neg (show ¬r.r.file=f from hff)];exact HTV.out)
    rw[mG]at e2 hV hV2 x2
    clear hst hbl hhl hfit hcell hr hff ir mG bV
    go_wp2
    go_roundw
    case rel=>exact⟨k+1,by omega,by go_num,HT2,asz⟩
    case measure=>simp[intOf];omega
  ·have hlt':¬(k:Int)<rs.length:=by omega
   have HT2:=HT.out
   rw[List.take_of_length_le (by omega)]at HT2
   clear HT
   go_wp2
   go_ret
   exact⟨_,rfl,HT2,aI⟩
theorem atS:Array.replicate 15 false=aY 15 0:=by kernel_rfl
theorem an7:(aB 11 f90).size=15:=by kernel_rfl
theorem aoj:bG (aB 11 f90) 15 0 0 1=true:=by kernel_rfl
theorem ap5:bG (aB 11 f90) 15 1 1 3=true:=by kernel_rfl
theorem aos:bG (aB 11 f90) 15 3 2 7=true:=by kernel_rfl
theorem anZ:bG (aB 11 f90) 15 7 3 15=true:=by kernel_rfl
theorem akW:bG (aB 11 f90) 15 15 4 31=true:=by kernel_rfl
theorem ana:bG (aB 11 f90) 15 31 5 63=true:=by kernel_rfl
theorem atM:eQ (aB 11 f90) 15 63 [6,11] [127,2111]=true:=by kernel_rfl
theorem ajy:bG (aB 11 f90) 15 127 7 255=true:=by kernel_rfl
theorem aky:bG (aB 11 f90) 15 255 8 511=true:=by kernel_rfl
theorem akC:bG (aB 11 f90) 15 511 9 1023=true:=by kernel_rfl
theorem af9:bG (aB 11 f90) 15 1023 10 2047=true:=by kernel_rfl
theorem al9:eQ (aB 11 f90) 15 2047 [11] [4095]=true:=by kernel_rfl
theorem adV:eQ (aB 11 f90) 15 4095 [12] [8191]=true:=by kernel_rfl
theorem yu:bG (aB 11 f90) 15 8191 13 16383=true:=by kernel_rfl
theorem vY:bG (aB 11 f90) 15 16383 14 32767=true:=by kernel_rfl
theorem ahD:Region.ready .any (aB 11 f90) (aY 15 32767)=[]:=by kernel_rfl
theorem alQ:eQ (aB 11 f90) 15 2111 [6] [2175]=true:=by kernel_rfl
theorem ahp:bG (aB 11 f90) 15 2175 7 2303=true:=by kernel_rfl
theorem aht:bG (aB 11 f90) 15 2303 8 2559=true:=by kernel_rfl
theorem ahs:bG (aB 11 f90) 15 2559 9 3071=true:=by kernel_rfl
theorem afX:bG (aB 11 f90) 15 3071 10 4095=true:=by kernel_rfl
theorem aur:Array.replicate 11 false=aY 11 0:=by kernel_rfl
theorem aof:(aB 8 f90).size=11:=by kernel_rfl
theorem apx:bG (aB 8 f90) 11 0 0 1=true:=by kernel_rfl
theorem aqi:bG (aB 8 f90) 11 1 1 3=true:=by kernel_rfl
theorem ap3:bG (aB 8 f90) 11 3 2 7=true:=by kernel_rfl
theorem apJ:bG (aB 8 f90) 11 7 3 15=true:=by kernel_rfl
theorem alc:bG (aB 8 f90) 11 15 4 31=true:=by kernel_rfl
theorem am4:bG (aB 8 f90) 11 31 5 63=true:=by kernel_rfl
theorem alf:bG (aB 8 f90) 11 63 6 127=true:=by kernel_rfl
theorem arl:eQ (aB 8 f90) 11 127 [7] [255]=true:=by kernel_rfl
theorem aqO:eQ (aB 8 f90) 11 255 [8] [511]=true:=by kernel_rfl
theorem aoi:eQ (aB 8 f90) 11 511 [9] [1023]=true:=by kernel_rfl
theorem afZ:bG (aB 8 f90) 11 1023 10 2047=true:=by kernel_rfl
theorem ato:Region.ready .any (aB 8 f90) (aY 11 2047)=[]:=by kernel_rfl
end Go.Proofs.YtlmkaljjocflmaaGreatDoor
