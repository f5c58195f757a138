/- Texts of one layer, one behind the other. -/
import Derived.Test.YtmngcecomcadkaaGreatDoorCH1
import Derived.Test.YtmngcecomcadkaaGreatDoorProg
import Derived.Shelf.RegionOpen
import Derived.Test.YtmngcecomcadkaaGreatDoorCH3
import Derived.Test.YtmngcecomcadkaaGreatDoorCG2
import Derived.Test.YtmngcecomcadkaaGreatDoorCH11
set_option maxRecDepth 100000
set_option maxHeartbeats 8000000
namespace Go.Proofs.YtmngcecomcadkaaGreatDoor
open Go.RowKit
set_option linter.unusedVariables false
def Run (B:Nat) (Q:Int→World→Prop):List Value→World→Prop
 |[],w=>Q 0 w
 |v::vs,w=>∃f first cap,v=.func (.func f) first cap∧(∀args w,(callFunc f args).run Tryz.prog w=.ok (.enter f args) w)∧Calls Tryz.prog f (first++cap) w fun E w'=>∃e,E=.returned (.int .i64 e)∧w'.heap[B]? =w.heap[B]?∧((e≠0∧Q e w')∨(e=0∧Run B Q vs w'))
theorem Run.cons {B:Nat}{Q:Int→World→Prop}{f:FuncId}{first cap xs:Array Value}{vs:List Value}{w:World}(eg:∀args w,(callFunc f args).run Tryz.prog w=.ok (.enter f args) w)(ha:first++cap=xs)(hc:Calls Tryz.prog f xs w fun E w'=>∃e,E=.returned (.int .i64 e)∧w'.heap[B]? =w.heap[B]?∧((e≠0∧Q e w')∨(e=0∧Run B Q vs w'))):Run B Q (.func (.func f) first cap::vs) w:=
 ⟨f,first,cap,rfl,eg,by rw[ha];exact hc⟩
theorem rZ (B n:Nat)(fs:List Value)(w:World)(Q:Int→World→Prop)(hn:fs.length=n)(hl:n≤100)(hB:w.heap[B]? =some (.cells fs.toArray 154 (0,0)))(h:Run B Q fs w):
  Calls Tryz.prog 45 #[.slice (some ⟨B,0,none⟩) n n] w fun E w'=>∃e,E=.returned (.int .i64 e)∧Q e w':=by
 have H:=hide (And.intro hB h)
 have HN:=hide hn
 clear hB h hn
 go_enter Tryz.func45,Tryz.ntmps45
 go_wp2
 go_loopw [8] (fun iv wr=>∃(k:Nat),iv=.int .i64 k∧k≤n∧Hid (wr.heap[B]? =some (.cells fs.toArray 154 (0,0))∧Run B Q (fs.drop k) wr)) (fun iv _=>n-(intOf iv).toNat)
 case atStart=>exact⟨0,rfl,Nat.zero_le _,hide (by rw[List.drop_zero];exact H.out)⟩
 case round=>
  obtain⟨k,rfl,hk,HH⟩:=hrel
  by_cases hlt:k<n
  ·obtain⟨hb,hr⟩:=HH.out
   have hkl:k<fs.length:=by rw[HN.out];exact hlt
   rw[List.drop_eq_getElem_cons hkl]at hr
   obtain⟨f,first,cap,hv,eg,hc⟩:=hr
   have cell:wr.cell? ⟨B,k,none⟩=some (.func (.func f) first cap):=ai hb k (by simp[List.getElem?_eq_getElem hkl,hv])
   have HC:=hide hc
   have HB:=hide hb
   have hlt':(k:Int)<n:=by omega
   clear hc hb hv HH
   go_wp2_with fail
   refine HC.out.mono ?_
   rintro E w' ⟨e,rfl,hb',hd⟩
   rcases hd with⟨he,hq⟩|⟨rfl,hq⟩
   ·have HQ:=hide hq
    clear hq hb' HC
    have he':(e==0)=false:=by simpa using he
    go_wp2
    go_ret
    exact⟨e,rfl,HQ.out⟩
   ·have HQ:=hide (And.intro (hb'.trans HB.out) hq)
    clear hq hb' HC
    go_wp2
    go_roundw
    case rel=>exact⟨k+1,by simp,by omega,HQ⟩
    case measure=>simp[intOf];omega
  ·obtain rfl:k=n:=by omega
   have hr:=HH.out.2
   rw[List.drop_eq_nil_of_le (by rw[HN.out];exact Nat.le_refl _)]at hr
   have HR:Hid (Q 0 wr):=hide hr
   clear hr HH
   have hlt':¬(k:Int)<k:=by omega
   go_wp2
   go_ret
   exact⟨0,rfl,HR.out⟩
structure Rv where
 file:Nat
 cut:Bool
 to:Nat
 v:Value
 bytes:List Int
def Rv.r (r:Rv):Dm.Rw:=⟨r.file,r.cut,r.to,r.bytes⟩
section
variable {p:Nat} {F G:Nat→Prop} {w w' w1 w2:World} {st st':Dm.Ds} {s s':Nat→Value} {wv wv':Value} {rs rs':List Rv}
end
def ask (st:Dm.Ds):Int:=if st.on then 0 else 6
theorem sI {st:Dm.Ds}(h:st.on=true):ask st=0:=by simp[ask,h]
theorem tC {st:Dm.Ds}(h:st.on=false):ask st=6:=by simp[ask,h]
def kr (r:Rv):Int:=if r.cut then 1 else 0
def iY (r:Rv):List Value:=[.int .i64 (kr r),.int .i64 r.file,r.v,.int .i64 r.to]
theorem lX (r:Rv):(iY r).length=4:=rfl
def eZ (st:Dm.Ds):Int:=if st.has then st.left else -1
def gD (s:Nat→Value) (wv:Value) (on:Bool) (aad count:Int):Array Value:=#[.bool true,.bool on,.int .i64 aad,s 0,s 1,s 2,s 3,wv,.int .i64 count]
def FB (p:Nat) (s:Nat→Value) (wv:Value) (rs:List Rv) (g:Nat):Prop:=
 g=p∨(∃f,f<4∧(s f).ownBlock=some g)∨wv.ownBlock=some g∨∃r∈rs,r.v.ownBlock=some g
structure jK (w:World) (sure:Nat→List Int) (wait:List Dm.Rw) (s:Nat→Value) (wv:Value) (rs:List Rv):Prop where
 file:∀f,f<4→Own .u8 5 0 w (s f) (sure f)
 apart:∀f g,f<4→g<4→f≠g→∀b,(s f).ownBlock=some b→(s g).ownBlock≠some b
 row:dM iY 4 152 0 w wv rs
 raw:∀r∈rs,xI (fun _=>True) w r.v r.bytes
 zA:∀r∈rs,∀f,f<4→∀b,r.v.ownBlock=some b→(s f).ownBlock≠some b
 wait:rs.map Rv.r=wait
structure fH (p:Nat) (w:World) (st:Dm.Ds) (s:Nat→Value) (wv:Value) (rs:List Rv):Prop where
 blk:w.heap[p]? =some (.cells (gD s wv st.on (eZ st) st.count) 76 (0,0))
 iO:jK w st.sure st.wait s wv rs
 ok:Dm.Ok st
def Pk (p:Nat) (F:Nat→Prop) (w:World) (st:Dm.Ds):Prop:=∃s wv rs,fH p w st s wv rs∧F=FB p s wv rs
section
variable {p:Nat} {F G:Nat→Prop} {w w' w1 w2:World} {st st':Dm.Ds} {sure axA:Nat→List Int} {wait ajg:List Dm.Rw} {s s':Nat→Value} {wv wv':Value} {rs rs':List Rv}
theorem jK.agree (h:jK w sure wait s wv rs)(ha:∀g,FB p s wv rs g→w'.heap[g]? =w.heap[g]?):jK w' sure wait s wv rs:=
 ⟨fun f hf=>(h.file f hf).agree fun b hb=>ha b (.inr (.inl ⟨f,hf,hb⟩)),h.apart,h.row.agree fun b hb=>ha b (.inr (.inr (.inl hb))),fun r hr=>(h.raw r hr).agree fun b hb=>ha b (.inr (.inr (.inr ⟨r,hr,hb⟩))),h.zA,h.wait⟩
theorem jK.cel (h:jK w sure wait s wv rs){cs:Array Value}{t:TypeId}{fr:Nat×Nat}(hp:w.heap[p]? =some (.cells cs t fr)):∀g,FB p s wv rs g→∃cs t fr,w.heap[g]? =some (.cells cs t fr):=by
 rintro g (rfl|⟨f,hf,hb⟩|hb|⟨r,hr,hb⟩)
 ·exact⟨_,_,_,hp⟩
 ·obtain⟨cs,hc⟩:=(h.file f hf).type hb
  exact⟨_,_,_,hc⟩
 ·obtain⟨cs,hc⟩:=h.row.type hb
  exact⟨_,_,_,hc⟩
 ·obtain⟨_,cs,fr,hc⟩:=(h.raw r hr).2 g hb
  exact⟨_,_,_,hc⟩
theorem jK.ne (h:jK w sure wait s wv rs){q:Nat}{cs:Array Value}{t:TypeId}{fr:Nat×Nat}(hq:w.heap[q]? =some (.cells cs t fr))(h1:t≠5)(h2:t≠152):
  (∀f,f<4→∀b,(s f).ownBlock=some b→b≠q)∧(∀b,wv.ownBlock=some b→b≠q)∧∀r∈rs,∀b,r.v.ownBlock=some b→b≠q:=by
 refine⟨fun f hf b hb e=>?_,fun b hb e=>?_,fun r hr b hb e=>?_⟩
 ·obtain⟨cs,hc⟩:=(h.file f hf).type hb
  rw[e,hq]at hc
  simp at hc
  exact h1 hc.2.1
 ·obtain⟨cs,hc⟩:=h.row.type hb
  rw[e,hq]at hc
  simp at hc
  exact h2 hc.2.1
 ·obtain⟨_,cs,fr,hc⟩:=(h.raw r hr).2 b hb
  rw[e,hq]at hc
  simp at hc
  exact h1 hc.2.1
theorem jK.but (h:jK w sure wait s wv rs){q:Nat}{cs:Array Value}{t:TypeId}{fr:Nat×Nat}(hq:w.heap[q]? =some (.cells cs t fr))(h1:t≠5)(h2:t≠152)(ha:∀b,b≠q→b<w.heap.size→w'.heap[b]? =w.heap[b]?):jK w' sure wait s wv rs:=by
 obtain⟨n1,n2,n3⟩:=h.ne hq h1 h2
 exact⟨fun f hf=>(h.file f hf).agree fun b hb=>ha b (n1 f hf b hb) ((h.file f hf).block b hb).2,h.apart,h.row.agree fun b hb=>ha b (n2 b hb) (h.row.lt b hb).2,fun r hr=>(h.raw r hr).agree fun b hb=>ha b (n3 r hr b hb) (by obtain⟨_,cs,fr,hc⟩:=(h.raw r hr).2 b hb;exact ax hc),h.zA,h.wait⟩
theorem jK.len (h:jK w sure wait s wv rs):wait.length=rs.length:=by rw[←h.wait,List.length_map]
theorem fH.cel (h:fH p w st s wv rs):∀g,FB p s wv rs g→∃cs t fr,w.heap[g]? =some (.cells cs t fr):=h.iO.cel h.blk
theorem fH.lt (h:fH p w st s wv rs):∀g,FB p s wv rs g→g<w.heap.size:=fun g hg=>by
 obtain⟨cs,t,fr,hc⟩:=h.cel g hg
 exact ax hc
theorem fH.agree (h:fH p w st s wv rs)(ha:∀g,FB p s wv rs g→w'.heap[g]? =w.heap[g]?):fH p w' st s wv rs:=⟨(ha p (.inl rfl)).trans h.blk,h.iO.agree ha,h.ok⟩
theorem fH.below (h:fH p w st s wv rs)(hb:Below w.heap.size w w'):fH p w' st s wv rs:=h.agree fun g hg=>hb.block g (h.lt g hg)
theorem Pk.cel (h:Pk p F w st):∀g,F g→∃cs t fr,w.heap[g]? =some (.cells cs t fr):=by
 obtain⟨s,wv,rs,h,rfl⟩:=h
 exact h.cel
theorem Pk.lt (h:Pk p F w st):∀g,F g→g<w.heap.size:=by
 obtain⟨s,wv,rs,h,rfl⟩:=h
 exact h.lt
theorem Pk.agree (h:Pk p F w st)(ha:∀g,F g→w'.heap[g]? =w.heap[g]?):Pk p F w' st:=by
 obtain⟨s,wv,rs,h,rfl⟩:=h
 exact⟨s,wv,rs,h.agree ha,rfl⟩
theorem Pk.below (h:Pk p F w st)(hb:Below w.heap.size w w'):Pk p F w' st:=h.agree fun g hg=>hb.block g (h.lt g hg)
theorem Pk.out (h:Pk p F w st)(ho:Out G w w')(hd:∀g,F g→¬G g):Pk p F w' st:=h.agree fun g hg=>ho.block g (h.lt g hg) (hd g hg)
def aV (p:Nat) (F:Nat→Prop) (w w':World) (st':Dm.Ds):Prop:=∃F',Pk p F' w' st'∧Out F w w'∧∀g,F' g→F g∨w.heap.size≤g
theorem aV.trans {F1:Nat→Prop}(ho:Out F w w1)(hs:∀g,F1 g→F g∨w.heap.size≤g)(k:aV p F1 w1 w2 st'):aV p F w w2 st':=by
 obtain⟨F2,h1,h2,h3⟩:=k
 refine⟨F2,h1,ho.trans h2 hs,fun g hg=>?_⟩
 rcases h3 g hg with h|h
 ·exact hs g h
 ·exact .inr (Nat.le_trans ho.size h)
theorem aV.same (h:Pk p F w st)(hb:Below w.heap.size w w'):aV p F w w' st:=⟨F,h.below hb,Out.of_below hb,fun g hg=>.inl hg⟩
theorem aV.pre (hb:Below w.heap.size w w1)(h:aV p F w1 w2 st'):aV p F w w2 st':=h.trans (Out.of_below hb) fun g hg=>.inl hg
theorem fH.put {cs:Array Value}(hblk:w.heap[p]? =some (.cells cs 76 (0,0)))(j:Nat)(u:Value)(hc:cs.setIfInBounds j u=gD s' wv' st'.on (eZ st') st'.count)(hcon:jK w st'.sure st'.wait s' wv' rs')(hok:Dm.Ok st'):
  fH p (w.setCell ⟨p,j,none⟩ u) st' s' wv' rs'∧Out (fun g=>g=p) w (w.setCell ⟨p,j,none⟩ u):=by
 refine⟨⟨by rw[aH hblk,hc],hcon.but hblk (by decide) (by decide) fun b hb _=>Below.heap_setCell _ _ _ _ hb,hok⟩,Out.aQ (az w ⟨p,j,none⟩ u) fun g hg=>by simp at hg;exact hg.symm⟩
theorem fH.set (h:fH p w st s wv rs)(j:Nat)(u:Value)(hc:(gD s wv st.on (eZ st) st.count).setIfInBounds j u=gD s wv st'.on (eZ st') st'.count)(h1:st'.sure=st.sure)(h2:st'.wait=st.wait):
  fH p (w.setCell ⟨p,j,none⟩ u) st' s wv rs∧Out (FB p s wv rs) w (w.setCell ⟨p,j,none⟩ u):=by
 obtain⟨r1,r2⟩:=fH.put (st':=st') (s':=s) (wv':=wv) (rs':=rs) h.blk j u hc (by rw[h1,h2];exact h.iO) (by have:=h.ok;unfold Dm.Ok at this⊢;rw[h1,h2];exact this)
 exact⟨r1,r2.mono fun g hg=>.inl (.inl hg)⟩
theorem aV.akJ (h:fH p w' st' s wv rs)(ho:Out (FB p s wv rs) w w'):aV p (FB p s wv rs) w w' st':=⟨_,⟨s,wv,rs,h,rfl⟩,ho,fun g hg=>.inl hg⟩
theorem fH.cell (h:fH p w st s wv rs)(j:Nat){u:Value}(hj:(gD s wv st.on (eZ st) st.count)[j]? =some u):w.cell? ⟨p,j,none⟩=some u:=ai h.blk j hj
theorem fH.c0 (h:fH p w st s wv rs):w.cell? ⟨p,0,none⟩=some (.bool true):=h.cell 0 rfl
theorem fH.c1 (h:fH p w st s wv rs):w.cell? ⟨p,1,none⟩=some (.bool st.on):=h.cell 1 rfl
theorem fH.c2 (h:fH p w st s wv rs):w.cell? ⟨p,2,none⟩=some (.int .i64 (eZ st)):=h.cell 2 rfl
theorem fH.c7 (h:fH p w st s wv rs):w.cell? ⟨p,7,none⟩=some wv:=h.cell 7 rfl
theorem fH.c8 (h:fH p w st s wv rs):w.cell? ⟨p,8,none⟩=some (.int .i64 st.count):=h.cell 8 rfl
theorem an3 {cs:Array Value}{on:Bool}{aad count:Int}(h:w.heap[p]? =some (.cells (gD s wv on aad count) 76 (0,0)))(f:Nat)(hf:f<4):w.cell? ⟨p,3+f,none⟩=some (s f):=by
 rcases(show f=0∨f=1∨f=2∨f=3 by omega)with rfl|rfl|rfl|rfl
 ·exact ai h 3 rfl
 ·exact ai h 4 rfl
 ·exact ai h 5 rfl
 ·exact ai h 6 rfl
theorem fH.cf (h:fH p w st s wv rs)(f:Nat)(hf:f<4):w.cell? ⟨p,3+f,none⟩=some (s f):=an3 (cs:=#[]) h.blk f hf
theorem fH.lu (h:fH p w st s wv rs)(j:Nat):w.frozen? ⟨p,j,none⟩=false:=aA h.blk j
end
theorem ag0 (w:World):Calls Tryz.prog 9 #[] w fun E w'=>E=.returned (.pointer (some ⟨w.heap.size,0,none⟩))∧Pk w.heap.size (fun g=>g=w.heap.size) w' Dm.new∧Below w.heap.size w w':=by
 obtain⟨w1,hw1,aT,aj,hB⟩:=ak w #[.bool true,.bool true,.int .i64 (-1),.slice none 0 0,.slice none 0 0,.slice none 0 0,.slice none 0 0,.slice none 0 0,.int .i64 0] 76
 have D:Hid (Pk w.heap.size (fun g=>g=w.heap.size) w1 Dm.new):=⟨fun _=>.slice none 0 0,.slice none 0 0,[],⟨hB,⟨fun f _=>Own.nil _ _ _ _,fun f g _ _ _ b hb=>by simp[Value.ownBlock]at hb,dM.nil _ _ _ _ _,fun r hr=>by simp at hr,fun r hr=>by simp at hr,rfl⟩,trivial⟩,by funext g;simp[FB,Value.ownBlock]⟩
 clear hB
 go_enter Tryz.func9,Tryz.ntmps9
 go_wp2
 go_ret
 exact⟨rfl,D.out,aj⟩
theorem zx (p:Nat)(F:Nat→Prop)(w:World)(st:Dm.Ds)(h:Pk p F w st):Calls Tryz.prog 38 #[.pointer (some ⟨p,0,none⟩)] w fun E w'=>E=.returned (.bool true)∧w=w':=by
 obtain⟨s,wv,rs,h,rfl⟩:=h
 have c0:=h.c0
 clear h
 go_enter Tryz.func38,Tryz.ntmps38
 go_wp2
 go_ret
 exact⟨rfl,rfl⟩
theorem kS (p:Nat)(F:Nat→Prop)(w:World)(st:Dm.Ds)(h:Pk p F w st):Calls Tryz.prog 98 #[.pointer (some ⟨p,0,none⟩)] w fun E w'=>E=.returned (.int .i64 (ask st))∧w=w':=by
 have hn:=zx p F w st h
 obtain⟨s,wv,rs,h,rfl⟩:=h
 have c1:=h.c1
 have HN:=hide hn
 clear h hn
 cases hon:st.on
 ·rw[hon]at c1
  rw[tC hon]
  clear hon
  go_enter Tryz.func98,Tryz.ntmps98
  go_wp2_with fail
  refine HN.out.mono ?_
  rintro E w1 ⟨rfl,rfl⟩
  go_wp2
  go_ret
  exact⟨rfl,rfl⟩
 ·rw[hon]at c1
  rw[sI hon]
  clear hon
  go_enter Tryz.func98,Tryz.ntmps98
  go_wp2_with fail
  refine HN.out.mono ?_
  rintro E w1 ⟨rfl,rfl⟩
  go_wp2
  go_ret
  exact⟨rfl,rfl⟩
theorem mK (f:Int)(w:World):Calls Tryz.prog 39 #[.int .i64 f] w fun E w'=>E=.returned (.bool (Dm.iW f))∧w=w':=by
 unfold Dm.iW
 by_cases h0:0≤f
 ·by_cases h4:f<4
  ·rw[decide_eq_true h0,decide_eq_true h4]
   go_enter Tryz.func39,Tryz.ntmps39
   go_wp2
   go_ret
   exact⟨rfl,rfl⟩
  ·rw[decide_eq_true h0,decide_eq_false h4]
   go_enter Tryz.func39,Tryz.ntmps39
   go_wp2
   go_ret
   exact⟨rfl,rfl⟩
 ·rw[decide_eq_false h0,Bool.false_and]
  go_enter Tryz.func39,Tryz.ntmps39
  go_wp2
  go_ret
  exact⟨rfl,rfl⟩
theorem afv (p:Nat)(F:Nat→Prop)(w:World)(st:Dm.Ds)(h:Pk p F w st):Calls Tryz.prog 111 #[.pointer (some ⟨p,0,none⟩)] w fun E w'=>E=.returned (.bool st.on)∧w=w':=by
 have hn:=zx p F w st h
 obtain⟨s,wv,rs,h,rfl⟩:=h
 have c1:=h.c1
 have HN:=hide hn
 clear h hn
 go_enter Tryz.func111,Tryz.ntmps111
 go_wp2_with fail
 refine HN.out.mono ?_
 rintro E w1 ⟨rfl,rfl⟩
 go_wp2
 go_ret
 exact⟨rfl,rfl⟩
theorem uT {l:List Dm.Rw}{k:Nat}{r:Dm.Rw}(h:l[k]? =some r):l.take (k+1)=l.take k++[r]:=by
 obtain⟨hk,rfl⟩:=List.getElem?_eq_some_iff.1 h
 exact List.take_succ_eq_append_getElem hk
theorem acC:∀(l:List Dm.Rw) (k:Nat),Dm.gm (l.take k)≤Dm.gm l
 |[],k=>by simp[Dm.gm]
 |r::l,0=>by simp[Dm.gm]
 |r::l,k+1=>by
  have:=acC l k
  simp only[List.take_succ_cons,Dm.gm]
  omega
theorem ahC {l:List Dm.Rw}{k:Nat}{r:Dm.Rw}(h:l[k]? =some r):Dm.gm (l.take k)+r.bytes.length≤Dm.gm l:=by
 have h1:=acC l (k+1)
 rw[uT h,Dm.zU]at h1
 simp only[Dm.gm]at h1
 omega
theorem akS {l:List Dm.Rw}{k:Nat}{r:Dm.Rw}(h:l[k]? =some r)(f:Nat)(b:List Int):Dm.hold f b (l.take (k+1))=if r.file=f then Dm.mV (Dm.hold f b (l.take k)) r else Dm.hold f b (l.take k):=by
 rw[uT h,Dm.oF]
end Go.Proofs.YtmngcecomcadkaaGreatDoor
