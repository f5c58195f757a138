/- Texts. -/
import Derived.WalkKit
import Derived.WalkSpells
import Derived.WalkLawsBesides
import Derived.OpenShut
import Derived.Laws.AppendOwnNone
import Derived.Test.YtlmkaljjocflmaaGreatDoorBZWide
import Derived.Deep.RegionLaw
import Derived.Laws.OwnMore
import Derived.Maps.AppendAt
import Derived.Test.YtlmkaljjocflmaaGreatDoorBG1
import Derived.Laws.Bits64b
import Derived.Test.YtlmkaljjocflmaaGreatDoorProg
import Derived.Deep.QuietTactic
import Derived.BigQuiet
import Derived.Deep.RegionWith
import Derived.Lib.SliceRun
import Derived.Test.YtlmkaljjocflmaaGreatDoorBG2
import Derived.Test.YtlmkaljjocflmaaGreatDoorBM4
set_option maxRecDepth 100000
set_option maxHeartbeats 8000000
set_option linter.unusedVariables false
open Go.Proofs.Tryz
namespace Go.Proofs.YtlmkaljjocflmaaGreatDoor
open Go.RowKit
abbrev Bq (w w' : World) : Prop := Below w.heap.size w w'
theorem hide {p:Prop}(h:p):Hid p:=h
theorem jh {a b:Int}(h:a=b):Ending.returned (.int .i64 a)=.returned (.int .i64 b):=by rw[h]
def Is (k:IntKind) (w:World) (v:Value) (zs:List Int):Prop:=
 (∀z∈zs,(Lit.int k z).wf=true)∧
 ((v=.slice none 0 0∧zs=[])∨∃ad cap,v=.slice (some ad) zs.length cap∧zs.length≤cap∧cap≤maxLen∧∀i,i<zs.length→w.cell? (ad.add i)=some (.int k (zs.getD i 0)))
def Own (k:IntKind) (e:TypeId) (base:Nat) (w:World) (v:Value) (zs:List Int):Prop:=
 (∀z∈zs,(Lit.int k z).wf=true)∧w.ownsRow base e 1 v zs.length (zs.map (Value.int k))
theorem Is.nil (k:IntKind)(w:World):Is k w (.slice none 0 0) []:=⟨by simp,.inl ⟨rfl,rfl⟩⟩
theorem Own.nil (k:IntKind)(e:TypeId)(base:Nat)(w:World):Own k e base w (.slice none 0 0) []:=⟨by simp,World.ownsRow_nil _ _ _ _⟩
theorem Is.below {k:IntKind}{w w':World}{v:Value}{zs:List Int}(h:Is k w v zs)(hb:Bq w w'):Is k w' v zs:=by
 refine⟨h.1,?_⟩
 rcases h.2 with h|⟨ad,cap,hv,h1,h2,hc⟩
 ·exact .inl h
 ·refine .inr ⟨ad,cap,hv,h1,h2,fun i hi=>?_⟩
  have:=hc i hi
  rw[hb.cell (World.block_lt_of_cell? _ _ this)]
  exact this
theorem Own.below {k:IntKind}{e:TypeId}{base:Nat}{w w':World}{v:Value}{zs:List Int}(h:Own k e base w v zs)(hb:Bq w w'):Own k e base w' v zs:=by
 refine⟨h.1,h.2.1,?_⟩
 rcases h.2.2 with h|⟨g,cap,cur,hv,h1,hh,r⟩
 ·exact .inl h
 ·refine .inr ⟨g,cap,cur,hv,h1,?_,r⟩
  rw[hb.block g (Array.getElem?_eq_some_iff.1 hh).1]
  exact hh
theorem Own.kept {k:IntKind}{e:TypeId}{base:Nat}{w w':World}{v:Value}{zs:List Int}{row:Option Nat}(h:Own k e base w v zs)(hg:w.grownBy w' row)(hne:v.ownBlock=none∨v.ownBlock≠row):Own k e base w' v zs:=
 ⟨h.1,h.2.kept hg hne⟩
theorem Own.bn {k:IntKind}{e:TypeId}{base base':Nat}{w:World}{v:Value}{zs:List Int}(h:Own k e base w v zs)(hb:base'≤base):Own k e base' w v zs:=by
 refine⟨h.1,h.2.1,?_⟩
 rcases h.2.2 with h|⟨g,cap,cur,hv,h1,r⟩
 ·exact .inl h
 ·exact .inr ⟨g,cap,cur,hv,by omega,r⟩
theorem gG (g off j:Nat):(⟨g,off,none⟩:Addr).add j=⟨g,off+j,none⟩:=by unfold Addr.add;split<;>simp_all
theorem Own.is {k:IntKind}{e:TypeId}{base:Nat}{w:World}{v:Value}{zs:List Int}(h:Own k e base w v zs):Is k w v zs:=by
 refine⟨h.1,?_⟩
 rcases h.2.2 with⟨hv,hn⟩|⟨g,cap,cur,hv,h1,hh,hc,hm,hs,ht⟩
 ·exact .inl ⟨hv,List.eq_nil_of_length_eq_zero hn⟩
 ·refine .inr ⟨⟨g,0,none⟩,cap,hv,hc,hm,fun i hi=>?_⟩
  refine h.2.cells (by rw[hv];rfl) i _ ?_
  simp[hi]
theorem Is.one (k:IntKind)(w:World)(z:Int)(e:TypeId)(hz:(Lit.int k z).wf=true):Is k (w.alloc (.cells #[.int k z] e)) (.slice (some ⟨w.heap.size,0,none⟩) 1 1) [z]:=by
 refine⟨by simpa using hz,.inr ⟨⟨w.heap.size,0,none⟩,1,rfl,by simp,by simp[maxLen],fun i hi=>?_⟩⟩
 have:i=0:=by simpa using hi
 subst this
 simp[Addr.add]
theorem Is.bare {k:IntKind}{w:World}{v:Value}(h:Is k w v []):∃ao cap,v=.slice ao 0 cap:=by
 rcases h.2 with⟨h,_⟩|⟨ad,cap,hv,_⟩
 ·exact⟨none,0,h⟩
 ·exact⟨some ad,cap,hv⟩
theorem Is.full {k:IntKind}{w:World}{v:Value}{zs:List Int}(h:Is k w v zs)(hne:0<zs.length):
  ∃b off cap,v=.slice (some ⟨b,off,none⟩) zs.length cap∧zs.length≤cap∧cap≤maxLen∧b<w.heap.size∧∀i,i<zs.length→w.cell? ⟨b,off+i,none⟩=some (.int k (zs.getD i 0)):=by
 rcases h.2 with⟨_,h⟩|⟨⟨b,off,spot⟩,cap,hv,h1,h2,hc⟩
 ·subst h;simp at hne
 ·have h0:=hc 0 hne
  have hspot:spot=none:=by simpa[Addr.add]using World.cell?_spot h0
  subst hspot
  exact⟨b,off,cap,hv,h1,h2,World.block_lt_of_cell? _ _ h0,fun i hi=>by rw[←gG];exact hc i hi⟩
section
variable {P:Program} {w:World} {ops:Array Oper} {rest:List Oper} {o:Oper} {a:Act} {Q:Exit→Act→World→Prop}
theorem df (hgd:o.guard=none)(s x:Operand)(t:TypeId)
  (ho:o.op=.call {callee:=.builtin .append,args:=#[s,x],argTypes:=#[t,t]})
  (k:IntKind) (e:TypeId) (base bytes:Nat) (ht:P.underlying t=some (.slice e)) (hinfo:(P.info? e).map (fun i=>(i.zero,i.size,i.bytes))=some (some (.int k 0),1,bytes)) (hby:0<bytes∧bytes≤65536)
  (v:Value) (zs:List Int) (hs:a.eval s=v) (hown:Own k e base w v zs) (vx:Value) (ys:List Int) (hx:a.eval x=vx) (his:Is k w vx ys)
  (hlen:(zs.length+ys.length)*bytes≤150000000000000) (hbase:base≤w.heap.size)
  (h:∀v' w',Own k e base w' v' (zs++ys)→Below base w w'→w.grownBy w' v.ownBlock→wpList P ops Q rest (a.put o.dst v') w'):wpList P ops Q (o::rest) a w:=by
 obtain⟨i,hi,hz,hsize,hb⟩:=info_parts hinfo
 have hn:zs.length+ys.length≤150000000000000:=Nat.le_trans (Nat.le_mul_of_pos_right _ hby.1) hlen
 have hwf:∀z∈zs++ys,(Lit.int k z).wf=true:=by
  intro z hz
  rcases List.mem_append.1 hz with hz|hz
  ·exact hown.1 z hz
  ·exact his.1 z hz
 rcases his.2 with⟨hv,hy⟩|⟨ad,cap,hv,h1,h2,hc⟩
 ·subst hy
  refine wpList_append_own_none hgd s x t ho base e i 1 ht hi v zs.length _ hs hown.2 (hx.trans hv) (h v w ⟨hwf,by simpa using hown.2⟩ (Below.refl _ _) (World.grownBy.refl _ _))
 ·refine wpList_plain hgd fun _ hK=>sS w s x t ho base e i (.int k 0) 1 bytes ht hi hz hsize hb rfl (by decide) hby v zs.length _ hs hown.2 ad ys.length cap (ys.map (Value.int k)) (hx.trans hv) (by simp) ?_ (ints_oneCell k ys) hlen hbase ?_
  ·intro j u hj
   rw[List.getElem?_map,Option.map_eq_some_iff]at hj
   obtain⟨z,hz,rfl⟩:=hj
   obtain⟨hj,hz⟩:=List.getElem?_eq_some_iff.1 hz
   rw[hc j hj,List.getD_eq_getElem?_getD,List.getElem?_eq_getElem hj,hz]
   rfl
  ·intro v' w' ho' hg
   refine hK _ _ (h v' w' ⟨hwf,by simpa[List.map_append]using ho'⟩ ((Below.refl _ _).grown hg hbase fun k' hk=>?_) hg)
   exact(hown.2.lt k' hk).1
end
theorem Is.shape {k:IntKind}{w:World}{v:Value}{zs:List Int}(h:Is k w v zs):∃ao cap,v=.slice ao zs.length cap∧zs.length≤cap∧cap≤maxLen:=by
 rcases h.2 with⟨hv,e⟩|⟨ad,cap,hv,h1,h2,_⟩
 ·subst e;exact⟨none,0,hv,by simp,by simp⟩
 ·exact⟨some ad,cap,hv,h1,h2⟩
theorem Is.form {k:IntKind}{w:World}{v:Value}{zs:List Int}(h:Is k w v zs):∃ao n c,v=.slice ao n c:=by
 obtain⟨ao,c,hv,_,_⟩:=h.shape
 exact⟨ao,_,c,hv⟩
theorem Is.byte {w:World}{v:Value}{zs:List Int}(h:Is .u8 w v zs)(i:Nat):0≤zs.getD i 0∧zs.getD i 0<256:=by
 have:=range_u8 h.1 i
 simp at*
 omega
theorem Is.drewN {k:IntKind}{w:World}{v:Value}{zs:List Int}(h:Is k w v zs)(n:Nat):Is k (w.drewN n) v zs:=h.below (below_drewN (Below.refl _ _) n)
theorem Own.drewN {k:IntKind}{e:TypeId}{base:Nat}{w:World}{v:Value}{zs:List Int}(h:Own k e base w v zs)(n:Nat):Own k e base (w.drewN n) v zs:=h.below (below_drewN (Below.refl _ _) n)
theorem Is.sub {k:IntKind}{w:World}{b f n cap:Nat}{zs:List Int}(h:Is k w (.slice (some ⟨b,f,none⟩) n cap) zs)(a p:Nat)(hap:a≤p)(hp:p≤n):Is k w (.slice (some ⟨b,f+a,none⟩) (p-a) (cap-a)) ((zs.drop a).take (p-a)):=by
 refine⟨fun z hz=>h.1 z (List.mem_of_mem_drop (List.mem_of_mem_take hz)),?_⟩
 rcases h.2 with⟨hv,_⟩|⟨ad',cap',hv,h1,h2,hc⟩
 ·cases hv
 ·simp only[Value.slice.injEq,Option.some.injEq]at hv
  obtain⟨rfl,rfl,rfl⟩:=hv
  have hl:((zs.drop a).take (p-a)).length=p-a:=by rw[List.length_take,List.length_drop];omega
  refine .inr ⟨⟨b,f+a,none⟩,cap-a,by rw[hl],by omega,by omega,fun i hi=>?_⟩
  rw[hl]at hi
  have:=hc (a+i) (by omega)
  rw[gG]at this⊢
  rw[Nat.add_assoc,this]
  simp[List.getD,hi]
theorem Own.block {k:IntKind}{e:TypeId}{base:Nat}{w:World}{v:Value}{zs:List Int}(h:Own k e base w v zs):∀b,v.ownBlock=some b→base≤b∧b<w.heap.size:=h.2.lt
theorem aH {w w1 w2:World}{row:Option Nat}(h:w.grownBy w1 row)(k:w1.grownBy w2 row):w.grownBy w2 row:=
 ⟨k.os.trans h.os,k.tape.trans h.tape,k.output.trans h.output,Nat.le_trans h.size k.size,fun i hi hne=>(k.block i (Nat.lt_of_lt_of_le hi h.size) hne).trans (h.block i hi hne)⟩
theorem jG (w:World)(n:Nat)(row:Option Nat):w.grownBy (w.drewN n) row:=⟨rfl,rfl,rfl,Nat.le_refl _,fun _ _ _=>rfl⟩
theorem ajB (w:World)(cs:Array Value)(e:TypeId):∃W,w.alloc (.cells cs e)=W∧W.heap.size=w.heap.size+1∧Bq w W∧∀j u,cs[j]? =some u→W.cell? ⟨w.heap.size,j,none⟩=some u:=by
 refine⟨_,rfl,by simp,(Below.refl _ _).alloc (Nat.le_refl _) _,fun j u h=>?_⟩
 rw[cell_of_row _ w.heap.size j cs e (0,0) (heap_alloc_new w _)]
 simpa using h
theorem kF (k:IntKind)(e:TypeId)(w:World)(cs:Array Value)(n:Nat)(zs:List Int)(hn:zs.length=n)(h:cs.toList=zs.map (Value.int k))(hm:n≤maxLen)(hw:∀z∈zs,(Lit.int k z).wf=true):
  ∃W,w.alloc (.cells cs e)=W∧W.heap.size=w.heap.size+1∧Bq w W∧Own k e w.heap.size W (.slice (some ⟨w.heap.size,0,none⟩) n n) zs:=by
 subst hn
 refine⟨_,rfl,by simp,(Below.refl _ _).alloc (Nat.le_refl _) _,hw,?_⟩
 have ho:=World.ownsRow_lit (base:=w.heap.size) (e:=e) (size:=1) w cs zs.length (Nat.le_refl _) hm (by have:=congrArg List.length h;simpa using this)
 rw[h]at ho
 exact ho
section
variable {P:Program} {k:IntKind} {w:World} {v:Value} {zs:List Int}
theorem Is.qB (h:Is k w v zs){t:TypeId}(ht:P.underlying t=some (.slice (P.elem t)))(hs:∀wx,(sizeOf (P.elem t)).run P wx=.ok 1 wx)(l p:Nat)(hl:l≤p)(hp:p≤zs.length):
  ∃vs,(∀wx,(Instr.slice t v (some (.int .i64 l)) (some (.int .i64 p)) none).run P wx=.ok vs wx)∧Is k w vs ((zs.drop l).take (p-l)):=by
 have hlen:((zs.drop l).take (p-l)).length=p-l:=by rw[List.length_take,List.length_drop];omega
 have hwf:∀z∈(zs.drop l).take (p-l),(Lit.int k z).wf=true:=fun z hz=>h.1 z (List.mem_of_mem_drop (List.mem_of_mem_take hz))
 rcases h.2 with⟨hv,hz⟩|⟨ad,cap,hv,h1,h2,hc⟩
 ·subst hz hv
  simp at hp
  subst hp
  obtain rfl:l=0:=by omega
  refine⟨.slice none 0 0,fun wx=>?_,Is.nil _ _⟩
  rw[run_slice_lh wx t none 0 0 ht .i64 .i64 _ _ (by omega) (by omega) (by omega),hs]
  rfl
 ·subst hv
  by_cases hcl:cap=l
  ·have hpl:p=l:=by omega
   subst hpl
   refine⟨.slice (some ad) 0 0,fun wx=>?_,hwf,.inr ⟨ad,0,by rw[hlen];simp,by rw[hlen];simp,by simp,fun i hi=>by rw[hlen]at hi;omega⟩⟩
   rw[run_slice_lh wx t (some ad) zs.length cap ht .i64 .i64 _ _ (by omega) (by omega) (by omega),hs]
   simp[Result.andThen,sliced,hcl]
  ·refine⟨.slice (some (ad.add l)) (p-l) (cap-l),fun wx=>?_,hwf,.inr ⟨ad.add l,cap-l,by rw[hlen],by rw[hlen];omega,by omega,fun i hi=>?_⟩⟩
   ·rw[run_slice_lh wx t (some ad) zs.length cap ht .i64 .i64 _ _ (by omega) (by omega) (by omega),hs]
    simp[Result.andThen,sliced,hcl]
   ·rw[hlen]at hi
    have e:(ad.add l).add i=ad.add (l+i):=by
     unfold Addr.add
     by_cases h0:l=0<;>by_cases h3:i=0<;>simp[h0,h3,Nat.add_assoc]
    rw[e,hc (l+i) (by omega)]
    simp[List.getD,hi]
theorem Is.jo (h:Is k w v zs){t:TypeId}(ht:P.underlying t=some (.slice (P.elem t)))(hs:∀wx,(sizeOf (P.elem t)).run P wx=.ok 1 wx)(l:Nat)(hl:l≤zs.length):
  ∃vs,(∀wx,(Instr.slice t v (some (.int .i64 l)) none none).run P wx=.ok vs wx)∧Is k w vs (zs.drop l):=by
 obtain⟨vs,h1,h2⟩:=h.qB ht hs l zs.length hl (Nat.le_refl _)
 rw[List.take_of_length_le (by simp)]at h2
 refine⟨vs,fun wx=>?_,h2⟩
 obtain⟨ao,cap,rfl,hcap,_⟩:=h.shape
 rw[←h1 wx,run_slice_lh wx t ao zs.length cap ht .i64 .i64 _ _ (by omega) (by omega) (by omega),run_slice_l wx t ao zs.length cap ht .i64 _ (by omega) (by omega)]
 simp
theorem Is.as1 (h:Is k w v zs){t:TypeId}(ht:P.underlying t=some (.slice (P.elem t))):∀ty wx,(Builtin.len_ #[t] ty #[v]).run P wx=.ok (goInt zs.length) wx:=by
 intro ty wx
 obtain⟨ao,cap,rfl,_,_⟩:=h.shape
 simp[Builtin.len_,run_underlying ht]
end
theorem tV {P:Program}{ops:Array Oper}{o:Oper}{a:Act}{w:World}{K:Act→World→Prop}{Q:Exit→Act→World→Prop}{E:Prop}(hgd:o.guard=none)(s x:Operand)(t:TypeId)
  (ho:o.op=.call {callee:=.builtin .append,args:=#[s,x],argTypes:=#[t,t]})
  (k:IntKind) (e:TypeId) (base bytes:Nat) (ht:P.underlying t=some (.slice e)) (hinfo:(P.info? e).map (fun i=>(i.zero,i.size,i.bytes))=some (some (.int k 0),1,bytes)) (hby:0<bytes∧bytes≤65536)
  (v:Value) (zs:List Int) (hs:a.eval s=v) (hown:Own k e base w v zs) (vx:Value) (ys:List Int) (hx:a.eval x=vx) (his:Is k w vx ys)
  (hlen:(zs.length+ys.length)*bytes≤150000000000000) (hbase:base≤w.heap.size)
  (h:∀v' w',Own k e base w' v' (zs++ys)→Below base w w'→w.grownBy w' v.ownBlock→K (a.put o.dst v') w'):
  if Region.wanted o (yielded ops a.tmps)=true then Oper.wp P o a w K Q else E:=by
 have hw:Region.wanted o (yielded ops a.tmps)=true:=by simp[Region.wanted,hgd]
 rw[if_pos hw]
 obtain⟨i,hi,hz,hsize,hb⟩:=info_parts hinfo
 have hn:zs.length+ys.length≤150000000000000:=Nat.le_trans (Nat.le_mul_of_pos_right _ hby.1) hlen
 have hwf:∀z∈zs++ys,(Lit.int k z).wf=true:=by
  intro z hz
  rcases List.mem_append.1 hz with hz|hz
  ·exact hown.1 z hz
  ·exact his.1 z hz
 rcases his.2 with⟨hv,hy⟩|⟨ad,cap,hv,h1,h2,hc⟩
 ·subst hy
  have hrun:=run_append_owned_none (P:=P) (w:=w) base t o.type e i 1 ht hi v zs.length _ hown.2
  have hk:=h v w ⟨hwf,by simpa using hown.2⟩ (Below.refl _ _) (World.grownBy.refl _ _)
  unfold Oper.wp
  simp[execOp,ho,resolve,invoke,builtin,hs,hx.trans hv,hrun,Result.andThen]
  exact hk
 ·refine sS w s x t ho base e i (.int k 0) 1 bytes ht hi hz hsize hb rfl (by decide) hby v zs.length _ hs hown.2 ad ys.length cap (ys.map (Value.int k)) (hx.trans hv) (by simp) ?_ (ints_oneCell k ys) hlen hbase ?_
  ·intro j u hj
   rw[List.getElem?_map,Option.map_eq_some_iff]at hj
   obtain⟨z,hz,rfl⟩:=hj
   obtain⟨hj,hz⟩:=List.getElem?_eq_some_iff.1 hz
   rw[hc j hj,List.getD_eq_getElem?_getD,List.getElem?_eq_getElem hj,hz]
   rfl
  ·intro v' w' ho' hg
   refine h v' w' ⟨hwf,by simpa[List.map_append]using ho'⟩ ((Below.refl _ _).grown hg hbase fun k' hk=>?_) hg
   exact(hown.2.lt k' hk).1
theorem kK {w w':World}(h:Bq w w')(row:Option Nat):w.grownBy w' row:=⟨h.os,h.tape,h.output,h.size,fun i hi _=>h.block i hi⟩
theorem ax (w:World)(a:Addr)(u:Value):w.grownBy (w.setCell a u) (some a.block):=
 ⟨rfl,rfl,rfl,by simp[World.setCell],fun i _ hne=>Below.heap_setCell _ _ _ _ (fun e=>hne (by rw[e]))⟩
theorem aF {w:World}{g:Nat}{cs:Array Value}{t:TypeId}{fr:Nat×Nat}(hg:w.heap[g]? =some (.cells cs t fr))(j:Nat)(u:Value):(w.setCell ⟨g,j,none⟩ u).heap[g]? =some (.cells (cs.setIfInBounds j u) t fr):=by
 simp[World.setCell,Array.getElem?_modify,hg]
theorem ai {w:World}{g:Nat}{cs:Array Value}{t:TypeId}{fr:Nat×Nat}(hg:w.heap[g]? =some (.cells cs t fr))(j:Nat){u:Value}(hj:cs[j]? =some u):w.cell? ⟨g,j,none⟩=some u:=by simp[World.cell?,hg,hj]
theorem aA {w:World}{g:Nat}{cs:Array Value}{t:TypeId}(hg:w.heap[g]? =some (.cells cs t (0,0)))(j:Nat):w.frozen? ⟨g,j,none⟩=false:=by simp[World.frozen?,hg]
theorem au (w:World)(cs:Array Value)(e:TypeId):∃W,w.alloc (.cells cs e)=W∧W.heap.size=w.heap.size+1∧Bq w W∧W.heap[w.heap.size]? =some (.cells cs e (0,0)):=by
 refine⟨_,rfl,by simp,(Below.refl _ _).alloc (Nat.le_refl _) _,heap_alloc_new w _⟩
theorem ay {w:World}{g:Nat}{o:Obj}(h:w.heap[g]? =some o):g<w.heap.size:=(Array.getElem?_eq_some_iff.1 h).1
theorem aK {w:World}{g j:Nat}{cs:Array Value}{t:TypeId}{fr:Nat×Nat}{u:Value}(hg:w.heap[g]? =some (.cells cs t fr))(hj:cs[j]? =some u):w.setCell ⟨g,j,none⟩ u=w:=by
 have h2:cs.setIfInBounds j u=cs:=by
  apply Array.ext_getElem?
  intro i
  rw[Array.getElem?_setIfInBounds]
  by_cases h:j=i
  ·subst h
   rw[if_pos rfl,hj]
   have:=(Array.getElem?_eq_some_iff.1 hj).1
   simp[this]
  ·rw[if_neg h]
 have:(w.setCell ⟨g,j,none⟩ u).heap=w.heap:=by
  apply Array.ext_getElem?
  intro i
  by_cases h:i=g
  ·subst h
   rw[aF hg,h2,hg]
  ·exact Below.heap_setCell _ _ _ _ h
 have e:w.setCell ⟨g,j,none⟩ u={w with heap:=(w.setCell ⟨g,j,none⟩ u).heap}:=rfl
 rw[e,this]
theorem grown_fresh {w V V':World}{row:Option Nat}{R:Nat}(h:w.grownBy V row)(hp:V.grownBy V' (some R))(hR:w.heap.size≤R):w.grownBy V' row:=
 ⟨hp.os.trans h.os,hp.tape.trans h.tape,hp.output.trans h.output,Nat.le_trans h.size hp.size,fun i hi hne=>(hp.block i (Nat.lt_of_lt_of_le hi h.size) (by simp;omega)).trans (h.block i hi hne)⟩
theorem aq9 {V:World}{R:Nat}{t:TypeId}{fr:Nat×Nat}{x y z:Value}(hR:V.heap[R]? =some (.cells #[x,y,z] t fr))(a b c:Value):
  ∃V',((V.setCell ⟨R,0,none⟩ a).setCell ⟨R,1,none⟩ b).setCell ⟨R,2,none⟩ c=V'∧V'.heap[R]? =some (.cells #[a,b,c] t fr)∧V.grownBy V' (some R):=
 ⟨_,rfl,aF (aF (aF hR 0 a) 1 b) 2 c,aH (aH (ax V ⟨R,0,none⟩ a) (ax _ ⟨R,1,none⟩ b)) (ax _ ⟨R,2,none⟩ c)⟩
theorem gy {V:World}{R:Nat}{t:TypeId}{x y z:Value}(hR:V.heap[R]? =some (.cells #[x,y,z] t (0,0)))(a b c:Value):
  ∃V',((V.setCell ⟨R,0,none⟩ a).setCell ⟨R,1,none⟩ b).setCell ⟨R,2,none⟩ c=V'∧V'.heap[R]? =some (.cells #[a,b,c] t (0,0))∧V.grownBy V' (some R)∧
   (V.cell? ⟨R,0,none⟩=some x∧V.cell? ⟨R,1,none⟩=some y∧V.cell? ⟨R,2,none⟩=some z)∧(V.frozen? ⟨R,0,none⟩=false∧V.frozen? ⟨R,1,none⟩=false∧V.frozen? ⟨R,2,none⟩=false)∧
   (V'.cell? ⟨R,0,none⟩=some a∧V'.cell? ⟨R,1,none⟩=some b∧V'.cell? ⟨R,2,none⟩=some c):=by
 obtain⟨V',h1,h2,h3⟩:=aq9 hR a b c
 exact⟨V',h1,h2,h3,⟨ai hR 0 rfl,ai hR 1 rfl,ai hR 2 rfl⟩,⟨aA hR 0,aA hR 1,aA hR 2⟩,⟨ai h2 0 rfl,ai h2 1 rfl,ai h2 2 rfl⟩⟩
theorem aG {w V V':World}{R base:Nat}(h:Below base w V)(hg:V.grownBy V' (some R))(hb:base≤R)(hs:base≤V.heap.size):Below base w V':=h.grown hg hs (fun k hk=>by simp at hk;omega)
theorem eY (w:World)(t:TypeId)(x y z a b c:Value):∃V,((((w.alloc (.cells #[x,y,z] t)).setCell ⟨w.heap.size,0,none⟩ a).setCell ⟨w.heap.size,1,none⟩ b).setCell ⟨w.heap.size,2,none⟩ c=V)∧w.alloc (.cells #[a,b,c] t)=V∧V.heap.size=w.heap.size+1∧Bq w V∧V.heap[w.heap.size]? =some (.cells #[a,b,c] t (0,0))∧
  V.cell? ⟨w.heap.size,0,none⟩=some a∧V.cell? ⟨w.heap.size,1,none⟩=some b∧V.cell? ⟨w.heap.size,2,none⟩=some c:=by
 obtain⟨V,h1,h2,h3,h4⟩:=au w #[a,b,c] t
 refine⟨V,?_,h1,h2,h3,h4,ai h4 0 rfl,ai h4 1 rfl,ai h4 2 rfl⟩
 rw[←h1]
 simp[go_sem]
theorem aQ (z:Int)(h0:-9223372036854775808≤z)(h1:z<9223372036854775808):IntKind.i64.wrap z=z:=by
 unfold IntKind.wrap
 simp[IntKind.bits,IntKind.signed]
 omega
theorem uM {V:World}{R:Nat}{t:TypeId}{cs:Array Value}(hR:V.heap[R]? =some (.cells cs t (0,0)))(j:Nat)(u:Value):
  ∃V',V.setCell ⟨R,j,none⟩ u=V'∧V'.heap[R]? =some (.cells (cs.setIfInBounds j u) t (0,0))∧V.grownBy V' (some R)∧V.frozen? ⟨R,j,none⟩=false:=
 ⟨_,rfl,aF hR j u,ax _ _ _,aA hR j⟩
structure Out (F:Nat→Prop) (w w':World):Prop where
 os:w'.os=w.os
 tape:w'.tape=w.tape
 output:w'.output=w.output
 size:w.heap.size≤w'.heap.size
 block:∀g,g<w.heap.size→¬F g→w'.heap[g]? =w.heap[g]?
theorem Out.refl (F:Nat→Prop)(w:World):Out F w w:=⟨rfl,rfl,rfl,Nat.le_refl _,fun _ _ _=>rfl⟩
theorem Out.trans {F G:Nat→Prop}{w w1 w2:World}(h:Out F w w1)(k:Out G w1 w2)(hs:∀g,G g→F g∨w.heap.size≤g):Out F w w2:=
 ⟨k.os.trans h.os,k.tape.trans h.tape,k.output.trans h.output,Nat.le_trans h.size k.size,fun g hg hn=>(k.block g (Nat.lt_of_lt_of_le hg h.size) fun hG=>by
  rcases hs g hG with h1|h1
  ·exact hn h1
  ·omega).trans (h.block g hg hn)⟩
theorem Out.mono {F G:Nat→Prop}{w w':World}(h:Out F w w')(hs:∀g,F g→G g∨w.heap.size≤g):Out G w w':=
 ⟨h.os,h.tape,h.output,h.size,fun g hg hn=>h.block g hg fun hF=>by
  rcases hs g hF with h1|h1
  ·exact hn h1
  ·omega⟩
theorem Out.of_below {F:Nat→Prop}{w w':World}(h:Bq w w'):Out F w w':=⟨h.os,h.tape,h.output,h.size,fun g hg _=>h.block g hg⟩
theorem Out.aM {F:Nat→Prop}{w w':World}{row:Option Nat}(h:w.grownBy w' row)(hF:∀g,row=some g→F g):Out F w w':=
 ⟨h.os,h.tape,h.output,h.size,fun g hg hn=>h.block g hg fun e=>hn (hF g e.symm)⟩
theorem Out.below {F:Nat→Prop}{w w':World}{base:Nat}(h:Out F w w')(hF:∀g,F g→base≤g)(hb:base≤w.heap.size):Below base w w':=
 ⟨h.os,h.tape,h.output,h.size,fun g hg=>h.block g (Nat.lt_of_lt_of_le hg hb) fun hf=>by have:=hF g hf;omega⟩
theorem Out.drew {F:Nat→Prop}{w w':World}(h:Out F w w')(n:Nat):Out F w (w'.drewN n):=⟨h.os,h.tape,h.output,h.size,h.block⟩
theorem Is.agree {k:IntKind}{w w':World}{v:Value}{zs:List Int}(h:Is k w v zs)(hb:∀b,v.ownBlock=some b→w'.heap[b]? =w.heap[b]?):Is k w' v zs:=by
 refine⟨h.1,?_⟩
 rcases h.2 with h|⟨ad,cap,hv,h1,h2,hc⟩
 ·exact .inl h
 ·refine .inr ⟨ad,cap,hv,h1,h2,fun i hi=>?_⟩
  rw[World.cell?_of_block (show w'.heap[(ad.add i).block]? =w.heap[(ad.add i).block]? from ?_)]
  ·exact hc i hi
  ·have e:(ad.add i).block=ad.block:=by unfold Addr.add;split<;>rfl
   rw[e]
   exact hb ad.block (by rw[hv];rfl)
theorem dH {w w':World}{base e size n:Nat}{v:Value}{xs:List Value}(h:w.ownsRow base e size v n xs)(hb:∀b,v.ownBlock=some b→w'.heap[b]? =w.heap[b]?):w'.ownsRow base e size v n xs:=by
 refine⟨h.1,?_⟩
 rcases h.2 with h|⟨g,cap,cur,hv,h1,hh,r⟩
 ·exact .inl h
 ·refine .inr ⟨g,cap,cur,hv,h1,?_,r⟩
  rw[hb g (by rw[hv];rfl)]
  exact hh
theorem Is.lt {k:IntKind}{w:World}{v:Value}{zs:List Int}(h:Is k w v zs)(hne:0<zs.length):∀b,v.ownBlock=some b→b<w.heap.size:=by
 intro b hb
 obtain⟨g,off,cap,rfl,_,_,hB,_⟩:=h.full hne
 simp[Value.ownBlock]at hb
 omega
section
variable {α:Type}
def gcells (f:α→List Value):List α→List Value
 |[]=>[]
 |a::r=>f a++gcells f r
theorem mF {f:α→List Value}{k:Nat}(hk:∀a,(f a).length=k):∀(l:List α),(gcells f l).length=l.length*k
 |[]=>by simp[gcells]
 |a::r=>by rw[gcells,List.length_append,hk,mF hk r,List.length_cons,Nat.add_mul];omega
theorem uw (f:α→List Value):∀(l m:List α),gcells f (l++m)=gcells f l++gcells f m
 |[],_=>rfl
 |a::l,m=>by simp only[List.cons_append,gcells,uw f l m,List.append_assoc]
theorem sj {f:α→List Value}{k:Nat}(hk:∀a,(f a).length=k):∀(l:List α) (i:Nat) (a:α),l[i]? =some a→∀j u,(f a)[j]? =some u→(gcells f l)[i*k+j]? =some u
 |[],_,_,h,_,_,_=>by simp at h
 |b::r,0,a,h,j,u,hj=>by
  simp at h
  subst h
  have:=(List.getElem?_eq_some_iff.1 hj).1
  rw[gcells,Nat.zero_mul,Nat.zero_add,List.getElem?_append_left this]
  exact hj
 |b::r,i+1,a,h,j,u,hj=>by
  have:=sj hk r i a (by simpa using h) j u hj
  rw[gcells,List.getElem?_append_right (by rw[hk,Nat.add_mul];omega),hk,show(i+1)*k+j-k=i*k+j by rw[Nat.add_mul];omega]
  exact this
theorem ahk {f:α→List Value}{k:Nat}(hk:∀a,(f a).length=k):∀(l:List α) (p:Nat),gcells f (l.take p)=(gcells f l).take (p*k)
 |[],p=>by simp[gcells]
 |a::l,0=>by simp[gcells]
 |a::l,p+1=>by
  have h1:(f a).take ((p+1)*k)=f a:=List.take_of_length_le (by rw[hk,Nat.add_mul];omega)
  have h2:(p+1)*k-k=p*k:=by rw[Nat.add_mul];omega
  rw[List.take_succ_cons,gcells,gcells,ahk hk l p,List.take_append,hk,h1,h2]
theorem zN {f:α→List Value}{k:Nat}(hk:∀a,(f a).length=k):∀(l:List α) (p:Nat),gcells f (l.drop p)=(gcells f l).drop (p*k)
 |[],p=>by simp[gcells]
 |a::l,0=>by simp[gcells]
 |a::l,p+1=>by
  have h1:(f a).drop ((p+1)*k)=[]:=List.drop_eq_nil_of_le (by rw[hk,Nat.add_mul];omega)
  have h2:(p+1)*k-k=p*k:=by rw[Nat.add_mul];omega
  rw[List.drop_succ_cons,zN hk l p,gcells,List.drop_append,hk,h1,h2,List.nil_append]
def fP (f:α→List Value) (w:World) (v:Value) (l:List α):Prop:=
 (v=.slice none 0 0∧l=[])∨∃ad cap,v=.slice (some ad) l.length cap∧l.length≤cap∧cap≤maxLen∧∀j u,(gcells f l)[j]? =some u→w.cell? (ad.add j)=some u
def eZ (f:α→List Value) (k:Nat) (e:TypeId) (base:Nat) (w:World) (v:Value) (l:List α):Prop:=w.ownsRow base e k v l.length (gcells f l)
theorem fP.nil (f:α→List Value)(w:World):fP f w (.slice none 0 0) []:=.inl ⟨rfl,rfl⟩
theorem eZ.nil (f:α→List Value)(k:Nat)(e:TypeId)(base:Nat)(w:World):eZ f k e base w (.slice none 0 0) []:=World.ownsRow_nil _ _ _ _
theorem fP.below {f:α→List Value}{w w':World}{v:Value}{l:List α}(h:fP f w v l)(hb:Bq w w'):fP f w' v l:=by
 rcases h with h|⟨ad,cap,hv,h1,h2,hc⟩
 ·exact .inl h
 ·refine .inr ⟨ad,cap,hv,h1,h2,fun j u hj=>?_⟩
  have:=hc j u hj
  rw[hb.cell (World.block_lt_of_cell? _ _ this)]
  exact this
theorem fP.shape {f:α→List Value}{w:World}{v:Value}{l:List α}(h:fP f w v l):∃ao cap,v=.slice ao l.length cap∧l.length≤cap∧cap≤maxLen:=by
 rcases h with⟨hv,e⟩|⟨ad,cap,hv,h1,h2,_⟩
 ·subst e;exact⟨none,0,hv,by simp,by simp⟩
 ·exact⟨some ad,cap,hv,h1,h2⟩
theorem fP.full {f:α→List Value}{k:Nat}(hk:∀a,(f a).length=k)(h0:0<k){w:World}{v:Value}{l:List α}(h:fP f w v l)(hne:0<l.length):
  ∃b off cap,v=.slice (some ⟨b,off,none⟩) l.length cap∧l.length≤cap∧cap≤maxLen∧b<w.heap.size∧∀i a,l[i]? =some a→∀j u,(f a)[j]? =some u→w.cell? ⟨b,off+i*k+j,none⟩=some u:=by
 rcases h with⟨_,h⟩|⟨⟨b,off,spot⟩,cap,hv,h1,h2,hc⟩
 ·subst h;simp at hne
 ·obtain⟨a0,ha0⟩:∃a,l[0]? =some a:=⟨l[0],by rw[List.getElem?_eq_getElem]⟩
  have hf0:(f a0)[0]? =some ((f a0)[0]'(by rw[hk];exact h0)):=List.getElem?_eq_getElem (by rw[hk];exact h0)
  have g0:=hc _ _ (sj hk l 0 a0 ha0 0 _ hf0)
  have hspot:spot=none:=by simpa[Addr.add]using World.cell?_spot g0
  subst hspot
  rw[gG]at g0
  refine⟨b,off,cap,hv,h1,h2,World.block_lt_of_cell? _ _ g0,fun i a hia j u hj=>?_⟩
  have:=hc _ _ (sj hk l i a hia j u hj)
  rw[gG]at this
  rw[Nat.add_assoc]
  exact this
theorem eZ.row {f:α→List Value}{k e base:Nat}{w:World}{v:Value}{l:List α}(h:eZ f k e base w v l):fP f w v l:=by
 rcases h.2 with⟨hv,hn⟩|⟨g,cap,cur,hv,h1,hh,hc,hm,hs,ht⟩
 ·exact .inl ⟨hv,List.eq_nil_of_length_eq_zero hn⟩
 ·refine .inr ⟨⟨g,0,none⟩,cap,hv,hc,hm,fun j u hj=>?_⟩
  exact h.cells (by rw[hv];rfl) j u hj
theorem eZ.agree {f:α→List Value}{k e base:Nat}{w w':World}{v:Value}{l:List α}(h:eZ f k e base w v l)(hb:∀b,v.ownBlock=some b→w'.heap[b]? =w.heap[b]?):eZ f k e base w' v l:=dH h hb
theorem eZ.lt {f:α→List Value}{k e base:Nat}{w:World}{v:Value}{l:List α}(h:eZ f k e base w v l):∀b,v.ownBlock=some b→base≤b∧b<w.heap.size:=World.ownsRow.lt h
theorem eZ.type {f:α→List Value}{k e base:Nat}{w:World}{v:Value}{l:List α}(h:eZ f k e base w v l){g:Nat}(hg:v.ownBlock=some g):∃cs,w.heap[g]? =some (.cells cs e (0,0)):=by
 rcases h.2 with⟨rfl,_⟩|⟨g',cap,cur,rfl,_,hh,_⟩
 ·simp[Value.ownBlock]at hg
 ·simp[Value.ownBlock]at hg
  subst hg
  exact⟨_,hh⟩
theorem rE (f:α→List Value)(k:Nat)(hk:∀a,(f a).length=k)(e:TypeId)(w:World)(cs:Array Value)(n:Nat)(l:List α)(hn:l.length=n)(h:cs.toList=gcells f l)(hm:n≤maxLen):
  ∃W,w.alloc (.cells cs e)=W∧W.heap.size=w.heap.size+1∧Bq w W∧eZ f k e w.heap.size W (.slice (some ⟨w.heap.size,0,none⟩) n n) l:=by
 subst hn
 refine⟨_,rfl,by simp,(Below.refl _ _).alloc (Nat.le_refl _) _,?_⟩
 have ho:=World.ownsRow_lit (base:=w.heap.size) (e:=e) (size:=k) w cs l.length (Nat.le_refl _) hm (by have:=congrArg List.length h;rw[mF hk]at this;simpa using this)
 rw[h]at ho
 exact ho
variable {P:Program} {w:World} {ops:Array Oper} {rest:List Oper} {o:Oper} {a:Act} {Q:Exit→Act→World→Prop}
theorem aaA {K:Act→World→Prop}{E:Prop}(f:α→List Value)(k bytes:Nat)(hk:∀a,(f a).length=k)(h0:0<k)(hb0:0<bytes)(z:Value)(hzk:z.cells.size=k)(hgd:o.guard=none)(s x:Operand)(t:TypeId)
  (ho:o.op=.call {callee:=.builtin .append,args:=#[s,x],argTypes:=#[t,t]})
  (e:TypeId) (base:Nat) (ht:P.underlying t=some (.slice e)) (hinfo:(P.info? e).map (fun i=>(i.zero,i.size,i.bytes))=some (some z,k,bytes))
  (v:Value) (l:List α) (hs:a.eval s=v) (hown:eZ f k e base w v l) (vx:Value) (m:List α) (hx:a.eval x=vx) (his:fP f w vx m) (hone:∀u∈gcells f m,u.oneCell'=true)
  (hlen:(l.length+m.length)*bytes≤140737488355328) (hbase:base≤w.heap.size)
  (h:∀v' w',eZ f k e base w' v' (l++m)→w.grownBy w' v.ownBlock→K (a.put o.dst v') w'):
  if Region.wanted o (yielded ops a.tmps)=true then Oper.wp P o a w K Q else E:=by
 have hw:Region.wanted o (yielded ops a.tmps)=true:=by simp[Region.wanted,hgd]
 rw[if_pos hw]
 obtain⟨i,hi,hz,hsize,hb⟩:=info_parts hinfo
 have hn:l.length+m.length≤140737488355328:=Nat.le_trans (Nat.le_mul_of_pos_right _ hb0) hlen
 rcases his with⟨hv,hy⟩|⟨ad,cap,hv,h1,h2,hc⟩
 ·subst hy
  have hrun:=run_append_owned_none (P:=P) (w:=w) base t o.type e i k ht hi v l.length _ hown
  have hk:=h v w (by simpa using hown) (World.grownBy.refl _ _)
  unfold Oper.wp
  simp[execOp,ho,resolve,invoke,builtin,hs,hx.trans hv,hrun,Result.andThen]
  exact hk
 ·refine wp_append_own w s x t ho base e i z k bytes ht hi hz hsize hb hzk h0 v l.length _ hs hown ad m.length cap (gcells f m) (hx.trans hv) (mF hk m) hc hone (by unfold maxLen;omega) hlen hbase ?_
  intro v' w' ho' hg _
  exact h v' w' (by unfold eZ;rw[uw,List.length_append];exact ho') hg
end
section
variable {P:Program} {w:World}
theorem iL (t ty:TypeId)(k:IntKind)(e:TypeId)(base bytes:Nat)(ht:P.underlying t=some (.slice e))(hinfo:(P.info? e).map (fun i=>(i.zero,i.size,i.bytes))=some (some (.int k 0),1,bytes))(hby:0<bytes)
  (v:Value) (zs:List Int) (hown:Own k e base w v zs) (vx:Value) (ys:List Int) (his:Is k w vx ys) (hlen:(zs.length+ys.length)*bytes≤140737488355328) (hbase:base≤w.heap.size):
  ∃v' w',(Builtin.append_ #[t,t] ty #[v,vx]).run P w=.ok v' w'∧Own k e base w' v' (zs++ys)∧w.grownBy w' v.ownBlock∧(v'.ownBlock=v.ownBlock∨v'.ownBlock=some w.heap.size):=by
 obtain⟨i,hi,hz,hsize,hb⟩:=info_parts hinfo
 have hn:zs.length+ys.length≤140737488355328:=Nat.le_trans (Nat.le_mul_of_pos_right _ hby) hlen
 have hwf:∀z∈zs++ys,(Lit.int k z).wf=true:=by
  intro z hz
  rcases List.mem_append.1 hz with hz|hz
  ·exact hown.1 z hz
  ·exact his.1 z hz
 rcases his.2 with⟨hv,hy⟩|⟨ad,cap,hv,h1,h2,hc⟩
 ·subst hy hv
  have hrun:=run_append_owned_none (P:=P) (w:=w) base t ty e i 1 ht hi v zs.length _ hown.2
  exact⟨v,w,hrun,⟨hwf,by simpa using hown.2⟩,World.grownBy.refl _ _,.inl rfl⟩
 ·subst hv
  obtain⟨v',w',hr,h3,h4,_,h5⟩:=run_append_own_at (P:=P) w base t ty e i (.int k 0) 1 bytes ht hi hz hsize hb rfl (by decide) v zs.length _ hown.2 ad ys.length cap (ys.map (Value.int k)) (by simp) (by
   intro j u hj
   rw[List.getElem?_map,Option.map_eq_some_iff]at hj
   obtain⟨z,hz,rfl⟩:=hj
   obtain⟨hj,hz⟩:=List.getElem?_eq_some_iff.1 hz
   rw[hc j hj,List.getD_eq_getElem?_getD,List.getElem?_eq_getElem hj,hz]
   rfl) (ints_oneCell k ys) (by unfold maxLen;omega) hlen hbase
  exact⟨v',w',hr,⟨hwf,by simpa[List.map_append]using h3⟩,h4,h5⟩
theorem oq {α:Type}(t ty:TypeId)(f:α→List Value)(k bytes:Nat)(hk:∀a,(f a).length=k)(h0:0<k)(hb0:0<bytes)(z:Value)(hzk:z.cells.size=k)
  (e:TypeId) (base:Nat) (ht:P.underlying t=some (.slice e)) (hinfo:(P.info? e).map (fun i=>(i.zero,i.size,i.bytes))=some (some z,k,bytes))
  (v:Value) (l:List α) (hown:eZ f k e base w v l) (vx:Value) (m:List α) (his:fP f w vx m) (hone:∀u∈gcells f m,u.oneCell'=true)
  (hlen:(l.length+m.length)*bytes≤140737488355328) (hbase:base≤w.heap.size):
  ∃v' w',(Builtin.append_ #[t,t] ty #[v,vx]).run P w=.ok v' w'∧eZ f k e base w' v' (l++m)∧w.grownBy w' v.ownBlock∧(v'.ownBlock=v.ownBlock∨v'.ownBlock=some w.heap.size):=by
 obtain⟨i,hi,hz,hsize,hb⟩:=info_parts hinfo
 have hn:l.length+m.length≤140737488355328:=Nat.le_trans (Nat.le_mul_of_pos_right _ hb0) hlen
 rcases his with⟨hv,hy⟩|⟨ad,cap,hv,h1,h2,hc⟩
 ·subst hy hv
  have hrun:=run_append_owned_none (P:=P) (w:=w) base t ty e i k ht hi v l.length _ hown
  exact⟨v,w,hrun,by simpa using hown,World.grownBy.refl _ _,.inl rfl⟩
 ·subst hv
  obtain⟨v',w',hr,h3,h4,_,h5⟩:=run_append_own_at (P:=P) w base t ty e i z k bytes ht hi hz hsize hb hzk h0 v l.length _ hown ad m.length cap (gcells f m) (mF hk m) hc hone (by unfold maxLen;omega) hlen hbase
  exact⟨v',w',hr,by unfold eZ;rw[uw,List.length_append];exact h3,h4,h5⟩
end
theorem acL {w:World}{base e size g n cap:Nat}{xs:List Value}(h:w.ownsRow base e size (.slice (some ⟨g,0,none⟩) n cap) n xs)(m:Nat)(hm:m≤n):w.ownsRow base e size (.slice (some ⟨g,0,none⟩) m cap) m (xs.take (m*size)):=by
 obtain⟨h1,h2⟩:=h
 have hle:m*size≤n*size:=Nat.mul_le_mul_right _ hm
 refine⟨by rw[List.length_take];omega,?_⟩
 rcases h2 with⟨h',_⟩|⟨g',cap',cur,h',hb,hg,hnc,hcm,hcs,htake⟩
 ·simp at h'
 ·simp only[Value.slice.injEq,Option.some.injEq,Addr.mk.injEq,and_true,true_and]at h'
  obtain⟨rfl,rfl⟩:=h'
  refine .inr ⟨g,cap,cur,rfl,hb,hg,by omega,hcm,hcs,?_⟩
  rw[←htake,List.take_take]
  congr 1
  omega
theorem Own.agree {k:IntKind}{e:TypeId}{base:Nat}{w w':World}{v:Value}{zs:List Int}(h:Own k e base w v zs)(hb:∀b,v.ownBlock=some b→w'.heap[b]? =w.heap[b]?):Own k e base w' v zs:=⟨h.1,dH h.2 hb⟩
theorem Own.type {k:IntKind}{e base:Nat}{w:World}{v:Value}{zs:List Int}(h:Own k e base w v zs){g:Nat}(hg:v.ownBlock=some g):∃cs,w.heap[g]? =some (.cells cs e (0,0)):=by
 rcases h.2.2 with⟨rfl,_⟩|⟨g',cap,cur,rfl,_,hh,_⟩
 ·simp[Value.ownBlock]at hg
 ·simp[Value.ownBlock]at hg
  subst hg
  exact⟨_,hh⟩
theorem Own.kJ {P:Program}{k:IntKind}{e base:Nat}{w:World}{v:Value}{zs:List Int}(h:Own k e base w v zs){t:TypeId}(ht:P.underlying t=some (.slice (P.elem t)))(hs:∀wx,(sizeOf (P.elem t)).run P wx=.ok 1 wx)(p:Nat)(hp:p≤zs.length):
  ∃vs,(∀wx,(Instr.slice t v none (some (.int .i64 p)) none).run P wx=.ok vs wx)∧Own k e base w vs (zs.take p)∧(∀b,vs.ownBlock=some b→v.ownBlock=some b):=by
 have hwf:∀z∈zs.take p,(Lit.int k z).wf=true:=fun z hz=>h.1 z (List.mem_of_mem_take hz)
 have hl:(zs.take p).length=p:=by rw[List.length_take];omega
 rcases h.2.2 with⟨rfl,hn⟩|⟨g,cap,cur,rfl,hb,hg,hnc,hcm,hcs,htake⟩
 ·obtain rfl:p=0:=by omega
  refine⟨.slice none 0 0,fun wx=>?_,⟨hwf,by rw[hl];simpa using World.ownsRow_nil w base e 1⟩,fun b hb=>hb⟩
  rw[run_slice_h wx t none 0 0 ht .i64 _ (by omega) (by omega)]
  simp[Result.andThen,sliced,hs]
 ·refine⟨.slice (some ⟨g,0,none⟩) p cap,fun wx=>?_,⟨hwf,?_⟩,fun b hb=>hb⟩
  ·rw[run_slice_h wx t _ zs.length cap ht .i64 _ (by omega) (by omega)]
   simp[Result.andThen,sliced,hs,Addr.add]
  ·have:=acL h.2 p hp
   rw[hl,List.map_take]
   simpa using this
section
variable {P:Program} {w:World} {ops:Array Oper} {rest:List Oper} {o:Oper} {a:Act} {Q:Exit→Act→World→Prop}
theorem lF (hgd:o.guard=none)(s x:Operand)(t:TypeId)(ho:o.op=.call {callee:=.builtin .append,args:=#[s,x],argTypes:=#[t,t]})
  (v vx:Value) (hs:a.eval s=v) (hx:a.eval x=vx) {R:Value→World→Prop} (hrun:∀ty,∃v' w',(Builtin.append_ #[t,t] ty #[v,vx]).run P w=.ok v' w'∧R v' w')
  (h:∀v' w',R v' w'→wpList P ops Q rest (a.put o.dst v') w'):wpList P ops Q (o::rest) a w:=by
 refine wpList_plain hgd fun K hK=>?_
 obtain⟨v',w',hr,hR⟩:=hrun o.type
 unfold Oper.wp execOp
 simp only[ho,resolve,invoke,builtin,Sem.run_bind,Sem.run_pure,Result.andThen_ok,List.map_toArray,List.map_cons,List.map_nil,hs,hx,hr]
 exact hK _ _ (h v' w' hR)
theorem dR {K:Act→World→Prop}{E:Prop}(hgd:o.guard=none)(s x:Operand)(t:TypeId)(ho:o.op=.call {callee:=.builtin .append,args:=#[s,x],argTypes:=#[t,t]})
  (v vx:Value) (hs:a.eval s=v) (hx:a.eval x=vx) {R:Value→World→Prop} (hrun:∀ty,∃v' w',(Builtin.append_ #[t,t] ty #[v,vx]).run P w=.ok v' w'∧R v' w')
  (h:∀v' w',R v' w'→K (a.put o.dst v') w'):if Region.wanted o (yielded ops a.tmps)=true then Oper.wp P o a w K Q else E:=by
 have hw:Region.wanted o (yielded ops a.tmps)=true:=by simp[Region.wanted,hgd]
 rw[if_pos hw]
 obtain⟨v',w',hr,hR⟩:=hrun o.type
 unfold Oper.wp execOp
 simp only[ho,resolve,invoke,builtin,Sem.run_bind,Sem.run_pure,Result.andThen_ok,List.map_toArray,List.map_cons,List.map_nil,hs,hx,hr]
 exact h v' w' hR
theorem p9 {K:Act→World→Prop}{E:Prop}(hgd:o.guard=none)(f:FuncId)(args:Array Operand)(ts:Array TypeId)
  (ho:o.op=.call {callee:=.value (.func f),args:=args,argTypes:=ts}) (hent:∀args w,(callFunc f args).run P w=.ok (.enter f args) w) (vs:Array Value) (hvs:args.map a.eval=vs)
  {R:Value→World→Prop} (hc:Calls P f vs w fun e w'=>∃v,e=.returned v∧R v w') (h:∀v w',R v w'→K (a.put o.dst v) w'):
  if Region.wanted o (yielded ops a.tmps)=true then Oper.wp P o a w K Q else E:=by
 have hw:Region.wanted o (yielded ops a.tmps)=true:=by simp[Region.wanted,hgd]
 rw[if_pos hw]
 unfold Oper.wp
 simp only[execOp,ho,resolve,invoke,Sem.run_bind,hvs]
 simp only[Act.eval,Deferred.ofValue,Sem.run_pure,Result.andThen_ok,Array.empty_append,hent]
 rw[Oper.upon_enter]
 refine hc.mono ?_
 rintro e w' ⟨v,rfl,hr⟩
 exact h v w' hr
end
theorem agO (w:World)(t:TypeId)(x y z u a b c d:Value):∃V,(((((w.alloc (.cells #[x,y,z,u] t)).setCell ⟨w.heap.size,0,none⟩ a).setCell ⟨w.heap.size,1,none⟩ b).setCell ⟨w.heap.size,2,none⟩ c).setCell ⟨w.heap.size,3,none⟩ d=V)∧w.alloc (.cells #[a,b,c,d] t)=V∧V.heap.size=w.heap.size+1∧Bq w V∧V.heap[w.heap.size]? =some (.cells #[a,b,c,d] t (0,0))∧
  V.cell? ⟨w.heap.size,0,none⟩=some a∧V.cell? ⟨w.heap.size,1,none⟩=some b∧V.cell? ⟨w.heap.size,2,none⟩=some c∧V.cell? ⟨w.heap.size,3,none⟩=some d:=by
 obtain⟨V,h1,h2,h3,h4⟩:=au w #[a,b,c,d] t
 refine⟨V,?_,h1,h2,h3,h4,ai h4 0 rfl,ai h4 1 rfl,ai h4 2 rfl,ai h4 3 rfl⟩
 rw[←h1]
 simp[go_sem]
theorem lL (z:Int)(h0:-9223372036854775808≤z)(h1:z<9223372036854775808):IntKind.i64.wrap z=z:=by
 unfold IntKind.wrap
 simp[IntKind.bits,IntKind.signed]
 omega
theorem abz (a b:Nat)(ha:a<256)(hb:b<256):bits .and .u8 (a:Int) (b:Int)=((a&&&b:Nat):Int):=by
 have hx:a&&&b<2 ^ 8:=Nat.and_lt_two_pow _ (by omega)
 have h1:(BitVec.ofInt 8 (a:Int)).toNat=a:=by
  rw[BitVec.ofInt_natCast,BitVec.toNat_ofNat];exact Nat.mod_eq_of_lt (by omega)
 have h2:(BitVec.ofInt 8 (b:Int)).toNat=b:=by
  rw[BitVec.ofInt_natCast,BitVec.toNat_ofNat];exact Nat.mod_eq_of_lt (by omega)
 show IntKind.u8.wrap ((BitVec.ofInt 8 (a:Int)&&&BitVec.ofInt 8 (b:Int)).toNat:Int)=_
 rw[BitVec.toNat_and,h1,h2]
 simp[IntKind.wrap,IntKind.signed,IntKind.bits]
 omega
theorem acP (a b:Nat)(ha:a<256)(hb:b<256):bits .or .u8 (a:Int) (b:Int)=((a|||b:Nat):Int):=by
 have hx:a|||b<2 ^ 8:=Nat.or_lt_two_pow (by omega) (by omega)
 have h1:(BitVec.ofInt 8 (a:Int)).toNat=a:=by
  rw[BitVec.ofInt_natCast,BitVec.toNat_ofNat];exact Nat.mod_eq_of_lt (by omega)
 have h2:(BitVec.ofInt 8 (b:Int)).toNat=b:=by
  rw[BitVec.ofInt_natCast,BitVec.toNat_ofNat];exact Nat.mod_eq_of_lt (by omega)
 show IntKind.u8.wrap ((BitVec.ofInt 8 (a:Int)|||BitVec.ofInt 8 (b:Int)).toNat:Int)=_
 rw[BitVec.toNat_or,h1,h2]
 simp[IntKind.wrap,IntKind.signed,IntKind.bits]
 omega
theorem aaR (a:Nat):a&&&127=a % 128:=Nat.and_two_pow_sub_one_eq_mod a 7
theorem ac3 (a:Nat)(h:a<128):a|||128=a+128:=by
 have:=Nat.two_pow_add_eq_or_of_lt (i:=7) h 1
 rw[Nat.or_comm]
 simp at this
 omega
theorem ajd (y:Int)(h0:0≤y)(h1:y<18446744073709551616):bits .and .u64 y 127=y % 128:=by
 have h:=bits_and_u64_nat y.toNat 127 (by omega) (by omega)
 rw[aaR,Int.toNat_of_nonneg h0]at h
 refine h.trans ?_
 omega
theorem amQ (y:Int)(h0:0≤y)(h1:y<256):bits .and .u8 y 127=y % 128:=by
 have h:=abz y.toNat 127 (by omega) (by omega)
 rw[aaR,Int.toNat_of_nonneg h0]at h
 refine h.trans ?_
 omega
theorem aoL (y:Int)(h0:0≤y)(h1:y<128):bits .or .u8 y 128=y+128:=by
 have h:=acP y.toNat 128 (by omega) (by omega)
 rw[ac3 _ (by omega),Int.toNat_of_nonneg h0]at h
 refine h.trans ?_
 omega
theorem aoO (n:Nat):(2:Nat) ^ (7*n)=128 ^ n:=by rw[Nat.pow_mul]
theorem afo (acc n:Nat)(c:Int)(h0:0≤c)(ha:acc<128 ^ n)(hf:acc+c.toNat*128 ^ n<18446744073709551616):bits .or .u64 (acc:Int) (IntKind.u64.wrap (c*2 ^ (7*n)))=((acc+c.toNat*128 ^ n:Nat):Int):=by
 have e:c*2 ^ (7*n)=((c.toNat*128 ^ n:Nat):Int):=by
  rw[←aoO]
  push_cast
  rw[Int.toNat_of_nonneg h0]
 have e2:IntKind.u64.wrap (c*2 ^ (7*n))=((c.toNat*128 ^ n:Nat):Int):=by
  rw[e,IntKind.wrap_u64]
  omega
 rw[e2,bits_or_u64_nat _ _ (by omega) (by omega),Nat.or_comm]
 have h:=Nat.two_pow_add_eq_or_of_lt (i:=7*n) (b:=acc) (by rw[aoO];exact ha) c.toNat
 rw[aoO]at h
 rw[Nat.mul_comm c.toNat,←h,Nat.add_comm]
theorem acS (z:Int)(h0:0≤z)(h1:z<18446744073709551616):IntKind.u64.wrap z=z:=by
 rw[IntKind.wrap_u64]
 omega
theorem wf_u8 {z:Int}(h0:0≤z)(h1:z<256):(Lit.int .u8 z).wf=true:=by
 simp[Lit.wf,IntKind.min,IntKind.max,IntKind.signed,IntKind.bits];omega
theorem wf_i64 {z:Int}(h0:-9223372036854775808≤z)(h1:z<9223372036854775808):(Lit.int .i64 z).wf=true:=by
 simp[Lit.wf,IntKind.min,IntKind.max,IntKind.signed,IntKind.bits];omega
theorem Tryz.info5:(prog.info? 5).map (fun i=>(i.zero,i.size,i.bytes))=some (some (.int .u8 0),1,1):=by kernel_rfl
structure Bw where
 v:Value
 l:List Int
def bwc (a:Bw):List Value:=[a.v]
theorem aij (a:Bw):(bwc a).length=1:=rfl
def aah (w:World) (v:Value) (r:List Bw):Prop:=fP bwc w v r∧∀a∈r,Is .u8 w a.v a.l
theorem aah.below {w w':World}{v:Value}{r:List Bw}(h:aah w v r)(hb:Bq w w'):aah w' v r:=⟨h.1.below hb,fun a ha=>(h.2 a ha).below hb⟩
theorem aah.full {w:World}{v:Value}{r:List Bw}(h:aah w v r)(hne:0<r.length):
  ∃b off cap,v=.slice (some ⟨b,off,none⟩) r.length cap∧r.length≤cap∧cap≤maxLen∧b<w.heap.size∧∀i a,r[i]? =some a→w.cell? ⟨b,off+i,none⟩=some a.v:=by
 obtain⟨b,off,cap,h1,h2,h3,h4,h5⟩:=h.1.full aij (by decide) hne
 refine⟨b,off,cap,h1,h2,h3,h4,fun i a ha=>?_⟩
 have:=h5 i a ha 0 a.v rfl
 simpa using this
structure OwnB (base:Nat) (w:World) (v:Value) (r:List Bw):Prop where
 row:eZ bwc 1 61 base w v r
 own:∀a∈r,Own .u8 5 base w a.v a.l
 apart:r.Pairwise (fun a b=>∀g,a.v.ownBlock=some g→b.v.ownBlock≠some g)
section
variable {P:Program} {w:World} {v:Value}
theorem Is.kJ {k:IntKind}{zs:List Int}(h:Is k w v zs){t:TypeId}(ht:P.underlying t=some (.slice (P.elem t)))(hs:∀wx,(sizeOf (P.elem t)).run P wx=.ok 1 wx)(p:Nat)(hp:p≤zs.length):
  ∃vs,(∀wx,(Instr.slice t v none (some (.int .i64 p)) none).run P wx=.ok vs wx)∧Is k w vs (zs.take p):=by
 obtain⟨vs,h1,h2⟩:=h.qB ht hs 0 p (by omega) hp
 rw[List.drop_zero,Nat.sub_zero]at h2
 refine⟨vs,fun wx=>?_,h2⟩
 obtain⟨ao,cap,rfl,hcap,_⟩:=h.shape
 rw[←h1 wx,run_slice_lh wx t ao zs.length cap ht .i64 .i64 _ _ (by omega) (by omega) (by omega),run_slice_h wx t ao zs.length cap ht .i64 _ (by omega) (by omega)]
 simp
end
theorem Tryz.lZ:prog.underlying 61=some (.slice (prog.elem 61)):=by kernel_rfl
theorem Tryz.nH (wx:World):(sizeOf (prog.elem 61)).run prog wx=.ok 1 wx:=by kernel_rfl
theorem Tryz.asV (w:World)(a:Option Addr)(n c:Nat):(binOp .eql 61 (.slice a n c) (.slice none 0 0)).run prog w=.ok (.bool a.isNone) w:=Lib.run_eql_slice_nil w 61 5 a n c 0 0 underlying61
theorem pG (v:Value)(bs:List Int)(w:World)(h:Is .u8 w v bs)(hl:bs.length≤140737488355328):
  Calls prog 69 #[v] w fun E w'=>∃v',E=.returned v'∧Own .u8 5 w.heap.size w' v' bs∧Bq w w':=by
 rcases h.2 with⟨hv,hz⟩|⟨ad,cap,hv,h1,h2,hc⟩
 ·subst hz hv
  have hq:=Tryz.asV w none 0 0
  clear h
  go_enter func69,ntmps69
  go_wp2
  go_ret
  exact⟨_,rfl,Own.nil _ _ _ _,Below.refl _ _⟩
 ·obtain⟨w1,hw1,aV,aj,aX⟩:=kF .u8 5 w #[] 0 [] rfl rfl (by simp) (by simp)
  have hq:=Tryz.asV w (some ad) bs.length cap
  simp only[Option.isNone_some]at hq
  have h1':=h.below aj
  subst hv
  have X:Hid (∀ty,∃v' w',(Builtin.append_ #[61,61] ty #[.slice (some ⟨w.heap.size,0,none⟩) 0 0,.slice (some ad) bs.length cap]).run prog w1=.ok v' w'∧(Own .u8 5 w.heap.size w' v' bs∧Bq w w')):=hide fun ty=>by
   obtain⟨v',w',hr,ho,hg,_⟩:=iL (P:=prog) 61 ty .u8 5 w.heap.size 1 underlying61 Tryz.info5 (by decide) _ [] aX _ bs h1' (by simp;omega) (by omega)
   exact⟨v',w',hr,by simpa using ho,aj.grown hg (by omega) fun k hk=>by simp[Value.ownBlock]at hk;omega⟩
  clear aX h1' h hc
  go_enter func69,ntmps69
  go_wp2_with (at_builtin;refine lF rfl (.tmp 5) (.tmp 6) 61 rfl _ _ rfl rfl X.out ?_)
  intro v2 w2 aW az
  go_wp2
  go_ret
  exact⟨_,rfl,aW,az⟩
def Byt (F:Nat→Prop) (w:World) (v:Value) (zs:List Int):Prop:=Is .u8 w v zs∧∀b,v.ownBlock=some b→F b∧∃cs fr,w.heap[b]? =some (.cells cs 5 fr)
theorem Byt.agree {F:Nat→Prop}{w w':World}{v:Value}{zs:List Int}(h:Byt F w v zs)(ha:∀b,v.ownBlock=some b→w'.heap[b]? =w.heap[b]?):Byt F w' v zs:=
 ⟨h.1.agree ha,fun b hb=>⟨(h.2 b hb).1,by obtain⟨_,cs,fr,hc⟩:=h.2 b hb;exact⟨cs,fr,(ha b hb).trans hc⟩⟩⟩
structure Rv where
 file:Nat
 cut:Bool
 to:Nat
 v:Value
 bytes:List Int
def Rv.r (r:Rv):Dm.Rw:=⟨r.file,r.cut,r.to,r.bytes⟩
section
variable {p:Nat} {F G:Nat→Prop} {w w' w1 w2:World} {st st':Dm.Ds} {s s':Nat→Value} {wv wv':Value} {rs rs':List Rv}
end
def ask (st:Dm.Ds):Int:=if st.on then 0 else 6
theorem xW {st:Dm.Ds}(h:st.on=true):ask st=0:=by simp[ask,h]
theorem zf {st:Dm.Ds}(h:st.on=false):ask st=6:=by simp[ask,h]
end Go.Proofs.YtlmkaljjocflmaaGreatDoor
namespace Go.Proofs.YtlmkaljjocflmaaGreatDoor
namespace Rst
open Dm
open Cm (Cv lastE lastN)
open Pm (Pg)
open Orp (Se)
section
variable {z:Pg} {s:St} {ps:List Pg} {ss:List Se}
theorem fold_add (h:In z s ps ss){c:Cv}(h1:(add s [c]).1=0):Sto.fold (aP (add s [c]).2)=Tm.app (Sto.fold (aP s)) c.l:=by
 obtain⟨so,sf⟩:=h.aP
 obtain⟨b1,b2,b3,b4⟩:=so.bound
 rcases amN h [c]with⟨c1,_⟩|⟨_,_,_,c4,c5,_⟩|⟨c1,_⟩
 ·exact absurd h1 c1
 ·have hk:(lastN 0 s.r).toNat≤s.l.length:=by
   have e1:lastN 0 s.r+((s.l.drop (lastN 0 s.r).toNat).length:Int)=s.l.length:=sf
   omega
  unfold Sto.fold
  show Tm.app (Rl.tab (add s [c]).2.r) (Rl.ops ((add s [c]).2.l.drop (lastN 0 (add s [c]).2.r).toNat))=Tm.app (Tm.app (Rl.tab s.r) (Rl.ops (s.l.drop (lastN 0 s.r).toNat))) c.l
  rw[c4,c5,List.drop_append_of_le_length hk,Rl.afy,Tm.yG]
 ·rw[h1]at c1;simp at c1
end
end Rst
end Go.Proofs.YtlmkaljjocflmaaGreatDoor
