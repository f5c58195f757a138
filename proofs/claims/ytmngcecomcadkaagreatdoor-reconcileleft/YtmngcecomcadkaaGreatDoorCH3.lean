/- Texts of one layer, one behind the other. -/
import Derived.Test.YtmngcecomcadkaaGreatDoorCH1
import Derived.Test.YtmngcecomcadkaaGreatDoorCG2
import Derived.Maps.AppendAt
import Derived.Lib.SliceRun
import Derived.Lib.AppendZeros
set_option maxRecDepth 100000
set_option maxHeartbeats 8000000
namespace Go.Proofs.YtmngcecomcadkaaGreatDoor
open Go.RowKit
set_option linter.unusedVariables false
section
variable {α:Type}
def gcells (f:α→List Value):List α→List Value
 |[]=>[]
 |a::r=>f a++gcells f r
theorem mE {f:α→List Value}{k:Nat}(hk:∀a,(f a).length=k):∀(l:List α),(gcells f l).length=l.length*k
 |[]=>by simp[gcells]
 |a::r=>by rw[gcells,List.length_append,hk,mE hk r,List.length_cons,Nat.add_mul];omega
theorem uf (f:α→List Value):∀(l m:List α),gcells f (l++m)=gcells f l++gcells f m
 |[],_=>rfl
 |a::l,m=>by simp only[List.cons_append,gcells,uf f l m,List.append_assoc]
theorem rH {f:α→List Value}{k:Nat}(hk:∀a,(f a).length=k):∀(l:List α) (i:Nat) (a:α),l[i]? =some a→∀j u,(f a)[j]? =some u→(gcells f l)[i*k+j]? =some u
 |[],_,_,h,_,_,_=>by simp at h
 |b::r,0,a,h,j,u,hj=>by
  simp at h
  subst h
  have:=(List.getElem?_eq_some_iff.1 hj).1
  rw[gcells,Nat.zero_mul,Nat.zero_add,List.getElem?_append_left this]
  exact hj
 |b::r,i+1,a,h,j,u,hj=>by
  have:=rH hk r i a (by simpa using h) j u hj
  rw[gcells,List.getElem?_append_right (by rw[hk,Nat.add_mul];omega),hk,show(i+1)*k+j-k=i*k+j by rw[Nat.add_mul];omega]
  exact this
theorem agf {f:α→List Value}{k:Nat}(hk:∀a,(f a).length=k):∀(l:List α) (p:Nat),gcells f (l.take p)=(gcells f l).take (p*k)
 |[],p=>by simp[gcells]
 |a::l,0=>by simp[gcells]
 |a::l,p+1=>by
  have h1:(f a).take ((p+1)*k)=f a:=List.take_of_length_le (by rw[hk,Nat.add_mul];omega)
  have h2:(p+1)*k-k=p*k:=by rw[Nat.add_mul];omega
  rw[List.take_succ_cons,gcells,gcells,agf hk l p,List.take_append,hk,h1,h2]
theorem zg {f:α→List Value}{k:Nat}(hk:∀a,(f a).length=k):∀(l:List α) (p:Nat),gcells f (l.drop p)=(gcells f l).drop (p*k)
 |[],p=>by simp[gcells]
 |a::l,0=>by simp[gcells]
 |a::l,p+1=>by
  have h1:(f a).drop ((p+1)*k)=[]:=List.drop_eq_nil_of_le (by rw[hk,Nat.add_mul];omega)
  have h2:(p+1)*k-k=p*k:=by rw[Nat.add_mul];omega
  rw[List.drop_succ_cons,zg hk l p,gcells,List.drop_append,hk,h1,h2,List.nil_append]
def gP (f:α→List Value) (w:World) (v:Value) (l:List α):Prop:=
 (v=.slice none 0 0∧l=[])∨∃ad cap,v=.slice (some ad) l.length cap∧l.length≤cap∧cap≤maxLen∧∀j u,(gcells f l)[j]? =some u→w.cell? (ad.add j)=some u
def dM (f:α→List Value) (k:Nat) (e:TypeId) (base:Nat) (w:World) (v:Value) (l:List α):Prop:=w.ownsRow base e k v l.length (gcells f l)
theorem gP.nil (f:α→List Value)(w:World):gP f w (.slice none 0 0) []:=.inl ⟨rfl,rfl⟩
theorem dM.nil (f:α→List Value)(k:Nat)(e:TypeId)(base:Nat)(w:World):dM f k e base w (.slice none 0 0) []:=World.ownsRow_nil _ _ _ _
theorem gP.agree {f:α→List Value}{w w':World}{v:Value}{l:List α}(h:gP f w v l)(hb:∀b,v.ownBlock=some b→w'.heap[b]? =w.heap[b]?):gP f w' v l:=by
 rcases h with h|⟨ad,cap,hv,h1,h2,hc⟩
 ·exact .inl h
 ·refine .inr ⟨ad,cap,hv,h1,h2,fun j u hj=>?_⟩
  rw[World.cell?_of_block (show w'.heap[(ad.add j).block]? =w.heap[(ad.add j).block]? from ?_)]
  ·exact hc j u hj
  ·have e:(ad.add j).block=ad.block:=by unfold Addr.add;split<;>rfl
   rw[e]
   exact hb ad.block (by rw[hv];rfl)
theorem gP.below {f:α→List Value}{w w':World}{v:Value}{l:List α}(h:gP f w v l)(hb:Below w.heap.size w w'):gP f w' v l:=by
 rcases h with h|⟨ad,cap,hv,h1,h2,hc⟩
 ·exact .inl h
 ·refine .inr ⟨ad,cap,hv,h1,h2,fun j u hj=>?_⟩
  have:=hc j u hj
  rw[hb.cell (World.block_lt_of_cell? _ _ this)]
  exact this
theorem gP.shape {f:α→List Value}{w:World}{v:Value}{l:List α}(h:gP f w v l):∃ao cap,v=.slice ao l.length cap∧l.length≤cap∧cap≤maxLen:=by
 rcases h with⟨hv,e⟩|⟨ad,cap,hv,h1,h2,_⟩
 ·subst e;exact⟨none,0,hv,by simp,by simp⟩
 ·exact⟨some ad,cap,hv,h1,h2⟩
theorem gP.full {f:α→List Value}{k:Nat}(hk:∀a,(f a).length=k)(h0:0<k){w:World}{v:Value}{l:List α}(h:gP f w v l)(hne:0<l.length):
  ∃b off cap,v=.slice (some ⟨b,off,none⟩) l.length cap∧l.length≤cap∧cap≤maxLen∧b<w.heap.size∧∀i a,l[i]? =some a→∀j u,(f a)[j]? =some u→w.cell? ⟨b,off+i*k+j,none⟩=some u:=by
 rcases h with⟨_,h⟩|⟨⟨b,off,spot⟩,cap,hv,h1,h2,hc⟩
 ·subst h;simp at hne
 ·obtain⟨a0,ha0⟩:∃a,l[0]? =some a:=⟨l[0],by rw[List.getElem?_eq_getElem]⟩
  have hf0:(f a0)[0]? =some ((f a0)[0]'(by rw[hk];exact h0)):=List.getElem?_eq_getElem (by rw[hk];exact h0)
  have g0:=hc _ _ (rH hk l 0 a0 ha0 0 _ hf0)
  have hspot:spot=none:=by simpa[Addr.add]using World.cell?_spot g0
  subst hspot
  rw[gF]at g0
  refine⟨b,off,cap,hv,h1,h2,World.block_lt_of_cell? _ _ g0,fun i a hia j u hj=>?_⟩
  have:=hc _ _ (rH hk l i a hia j u hj)
  rw[gF]at this
  rw[Nat.add_assoc]
  exact this
theorem dM.row {f:α→List Value}{k e base:Nat}{w:World}{v:Value}{l:List α}(h:dM f k e base w v l):gP f w v l:=by
 rcases h.2 with⟨hv,hn⟩|⟨g,cap,cur,hv,h1,hh,hc,hm,hs,ht⟩
 ·exact .inl ⟨hv,List.eq_nil_of_length_eq_zero hn⟩
 ·refine .inr ⟨⟨g,0,none⟩,cap,hv,hc,hm,fun j u hj=>?_⟩
  exact h.cells (by rw[hv];rfl) j u hj
theorem dM.agree {f:α→List Value}{k e base:Nat}{w w':World}{v:Value}{l:List α}(h:dM f k e base w v l)(hb:∀b,v.ownBlock=some b→w'.heap[b]? =w.heap[b]?):dM f k e base w' v l:=bN h hb
theorem dM.lt {f:α→List Value}{k e base:Nat}{w:World}{v:Value}{l:List α}(h:dM f k e base w v l):∀b,v.ownBlock=some b→base≤b∧b<w.heap.size:=World.ownsRow.lt h
theorem dM.type {f:α→List Value}{k e base:Nat}{w:World}{v:Value}{l:List α}(h:dM f k e base w v l){g:Nat}(hg:v.ownBlock=some g):∃cs,w.heap[g]? =some (.cells cs e (0,0)):=by
 rcases h.2 with⟨rfl,_⟩|⟨g',cap,cur,rfl,_,hh,_⟩
 ·simp[Value.ownBlock]at hg
 ·simp[Value.ownBlock]at hg
  subst hg
  exact⟨_,hh⟩
theorem rR (f:α→List Value)(k:Nat)(hk:∀a,(f a).length=k)(e:TypeId)(w:World)(cs:Array Value)(n:Nat)(l:List α)(hn:l.length=n)(h:cs.toList=gcells f l)(hm:n≤maxLen):
  ∃W,w.alloc (.cells cs e)=W∧W.heap.size=w.heap.size+1∧Below w.heap.size w W∧dM f k e w.heap.size W (.slice (some ⟨w.heap.size,0,none⟩) n n) l:=by
 subst hn
 refine⟨_,rfl,by simp,(Below.refl _ _).alloc (Nat.le_refl _) _,?_⟩
 have ho:=World.ownsRow_lit (base:=w.heap.size) (e:=e) (size:=k) w cs l.length (Nat.le_refl _) hm (by have:=congrArg List.length h;rw[mE hk]at this;simpa using this)
 rw[h]at ho
 exact ho
variable {P:Program} {w:World} {ops:Array Oper} {rest:List Oper} {o:Oper} {a:Act} {Q:Exit→Act→World→Prop}
theorem vU (f:α→List Value)(k bytes:Nat)(hk:∀a,(f a).length=k)(h0:0<k)(hb0:0<bytes)(z:Value)(hzk:z.cells.size=k)(hgd:o.guard=none)(s x:Operand)(t:TypeId)
  (ho:o.op=.call {callee:=.builtin .append,args:=#[s,x],argTypes:=#[t,t]})
  (e:TypeId) (base:Nat) (ht:P.underlying t=some (.slice e)) (hinfo:(P.info? e).map (fun i=>(i.zero,i.size,i.bytes))=some (some z,k,bytes))
  (v:Value) (l:List α) (hs:a.eval s=v) (hown:dM f k e base w v l) (vx:Value) (m:List α) (hx:a.eval x=vx) (his:gP f w vx m) (hone:∀u∈gcells f m,u.oneCell'=true)
  (hlen:(l.length+m.length)*bytes≤140737488355328) (hbase:base≤w.heap.size)
  (h:∀v' w',dM f k e base w' v' (l++m)→w.grownBy w' v.ownBlock→wpList P ops Q rest (a.put o.dst v') w'):wpList P ops Q (o::rest) a w:=by
 obtain⟨i,hi,hz,hsize,hb⟩:=info_parts hinfo
 have hn:l.length+m.length≤140737488355328:=Nat.le_trans (Nat.le_mul_of_pos_right _ hb0) hlen
 rcases his with⟨hv,hy⟩|⟨ad,cap,hv,h1,h2,hc⟩
 ·subst hy
  refine wpList_append_own_none hgd s x t ho base e i k ht hi v l.length _ hs hown (hx.trans hv) (h v w (by simpa using hown) (World.grownBy.refl _ _))
 ·refine wpList_append_own w hgd s x t ho base e i z k bytes ht hi hz hsize hb hzk h0 v l.length _ hs hown ad m.length cap (gcells f m) (hx.trans hv) (mE hk m) hc hone (by unfold maxLen;omega) hlen hbase ?_
  intro v' w' ho' hg _
  exact h v' w' (by unfold dM;rw[uf,List.length_append];exact ho') hg
end
section
variable {P:Program} {w:World} {v:Value}
theorem Is.jb {k:IntKind}{zs:List Int}(h:Is k w v zs){t:TypeId}(ht:P.underlying t=some (.slice (P.elem t)))(hs:∀wx,(sizeOf (P.elem t)).run P wx=.ok 1 wx)(p:Nat)(hp:p≤zs.length):
  ∃vs,(∀wx,(Instr.slice t v none (some (.int .i64 p)) none).run P wx=.ok vs wx)∧Is k w vs (zs.take p):=by
 obtain⟨vs,h1,h2⟩:=h.uO ht hs 0 p (by omega) hp
 rw[List.drop_zero,Nat.sub_zero]at h2
 refine⟨vs,fun wx=>?_,h2⟩
 obtain⟨ao,cap,rfl,hcap,_⟩:=h.shape
 rw[←h1 wx,run_slice_lh wx t ao zs.length cap ht .i64 .i64 _ _ (by omega) (by omega) (by omega),run_slice_h wx t ao zs.length cap ht .i64 _ (by omega) (by omega)]
 simp
end
theorem Tryz.kW:Tryz.prog.underlying 61=some (.slice (Tryz.prog.elem 61)):=by kernel_rfl
theorem Tryz.mG (wx:World):(sizeOf (Tryz.prog.elem 61)).run Tryz.prog wx=.ok 1 wx:=by kernel_rfl
end Go.Proofs.YtmngcecomcadkaaGreatDoor
namespace Go.Proofs.YtmngcecomcadkaaGreatDoor.Mm
set_option linter.unusedVariables false
theorem gQ.eq {a b:gQ}(h1:a.k=b.k)(h2:a.e=b.e)(h3:a.r=b.r)(h4:a.n=b.n)(h5:a.ss=b.ss)(h6:a.f=b.f)(h7:a.p=b.p)(h8:a.cs=b.cs):a=b:=by
 cases a;cases b;simp at*;exact⟨h1,h2,h3,h4,h5,h6,h7,h8⟩
end Go.Proofs.YtmngcecomcadkaaGreatDoor.Mm
namespace Go.Proofs.YtmngcecomcadkaaGreatDoor
open Go.RowKit
set_option linter.unusedVariables false
section
variable {P:Program} {w:World}
theorem lq (t ty:TypeId)(k:IntKind)(e:TypeId)(base bytes:Nat)(ht:P.underlying t=some (.slice e))(hinfo:(P.info? e).map (fun i=>(i.zero,i.size,i.bytes))=some (some (.int k 0),1,bytes))(hby:0<bytes)
  (v:Value) (zs:List Int) (hown:Own k e base w v zs) (vx:Value) (ys:List Int) (his:Is k w vx ys) (hlen:(zs.length+ys.length)*bytes≤140737488355328) (hbase:base≤w.heap.size):
  ∃v' w',(Builtin.append_ #[t,t] ty #[v,vx]).run P w=.ok v' w'∧Own k e base w' v' (zs++ys)∧w.grownBy w' v.ownBlock∧(v'.ownBlock=v.ownBlock∨v'.ownBlock=some w.heap.size):=by
 obtain⟨i,hi,hz,hsize,hb⟩:=info_parts hinfo
 have hn:zs.length+ys.length≤140737488355328:=Nat.le_trans (Nat.le_mul_of_pos_right _ hby) hlen
 have hwf:∀z∈zs++ys,(Lit.int k z).wf=true:=by
  intro z hz
  rcases List.mem_append.1 hz with hz|hz
  ·exact hown.1 z hz
  ·exact his.1 z hz
 rcases his.2 with⟨hv,hy⟩|⟨ad,cap,hv,h1,h2,hc⟩
 ·subst hy hv
  have hrun:=run_append_owned_none (P:=P) (w:=w) base t ty e i 1 ht hi v zs.length _ hown.2
  exact⟨v,w,hrun,⟨hwf,by simpa using hown.2⟩,World.grownBy.refl _ _,.inl rfl⟩
 ·subst hv
  obtain⟨v',w',hr,h3,h4,_,h5⟩:=run_append_own_at (P:=P) w base t ty e i (.int k 0) 1 bytes ht hi hz hsize hb rfl (by decide) v zs.length _ hown.2 ad ys.length cap (ys.map (Value.int k)) (by simp) (by
   intro j u hj
   rw[List.getElem?_map,Option.map_eq_some_iff]at hj
   obtain⟨z,hz,rfl⟩:=hj
   obtain⟨hj,hz⟩:=List.getElem?_eq_some_iff.1 hz
   rw[hc j hj,List.getD_eq_getElem?_getD,List.getElem?_eq_getElem hj,hz]
   rfl) (ints_oneCell k ys) (by unfold maxLen;omega) hlen hbase
  exact⟨v',w',hr,⟨hwf,by simpa[List.map_append]using h3⟩,h4,h5⟩
theorem oC {α:Type}(t ty:TypeId)(f:α→List Value)(k bytes:Nat)(hk:∀a,(f a).length=k)(h0:0<k)(hb0:0<bytes)(z:Value)(hzk:z.cells.size=k)
  (e:TypeId) (base:Nat) (ht:P.underlying t=some (.slice e)) (hinfo:(P.info? e).map (fun i=>(i.zero,i.size,i.bytes))=some (some z,k,bytes))
  (v:Value) (l:List α) (hown:dM f k e base w v l) (vx:Value) (m:List α) (his:gP f w vx m) (hone:∀u∈gcells f m,u.oneCell'=true)
  (hlen:(l.length+m.length)*bytes≤140737488355328) (hbase:base≤w.heap.size):
  ∃v' w',(Builtin.append_ #[t,t] ty #[v,vx]).run P w=.ok v' w'∧dM f k e base w' v' (l++m)∧w.grownBy w' v.ownBlock∧(v'.ownBlock=v.ownBlock∨v'.ownBlock=some w.heap.size):=by
 obtain⟨i,hi,hz,hsize,hb⟩:=info_parts hinfo
 have hn:l.length+m.length≤140737488355328:=Nat.le_trans (Nat.le_mul_of_pos_right _ hb0) hlen
 rcases his with⟨hv,hy⟩|⟨ad,cap,hv,h1,h2,hc⟩
 ·subst hy hv
  have hrun:=run_append_owned_none (P:=P) (w:=w) base t ty e i k ht hi v l.length _ hown
  exact⟨v,w,hrun,by simpa using hown,World.grownBy.refl _ _,.inl rfl⟩
 ·subst hv
  obtain⟨v',w',hr,h3,h4,_,h5⟩:=run_append_own_at (P:=P) w base t ty e i z k bytes ht hi hz hsize hb hzk h0 v l.length _ hown ad m.length cap (gcells f m) (mE hk m) hc hone (by unfold maxLen;omega) hlen hbase
  exact⟨v',w',hr,by unfold dM;rw[uf,List.length_append];exact h3,h4,h5⟩
end
theorem ab5 {w:World}{base e size g n cap:Nat}{xs:List Value}(h:w.ownsRow base e size (.slice (some ⟨g,0,none⟩) n cap) n xs)(m:Nat)(hm:m≤n):w.ownsRow base e size (.slice (some ⟨g,0,none⟩) m cap) m (xs.take (m*size)):=by
 obtain⟨h1,h2⟩:=h
 have hle:m*size≤n*size:=Nat.mul_le_mul_right _ hm
 refine⟨by rw[List.length_take];omega,?_⟩
 rcases h2 with⟨h',_⟩|⟨g',cap',cur,h',hb,hg,hnc,hcm,hcs,htake⟩
 ·simp at h'
 ·simp only[Value.slice.injEq,Option.some.injEq,Addr.mk.injEq,and_true,true_and]at h'
  obtain⟨rfl,rfl⟩:=h'
  refine .inr ⟨g,cap,cur,rfl,hb,hg,by omega,hcm,hcs,?_⟩
  rw[←htake,List.take_take]
  congr 1
  omega
theorem Own.agree {k:IntKind}{e:TypeId}{base:Nat}{w w':World}{v:Value}{zs:List Int}(h:Own k e base w v zs)(hb:∀b,v.ownBlock=some b→w'.heap[b]? =w.heap[b]?):Own k e base w' v zs:=⟨h.1,bN h.2 hb⟩
theorem Own.type {k:IntKind}{e base:Nat}{w:World}{v:Value}{zs:List Int}(h:Own k e base w v zs){g:Nat}(hg:v.ownBlock=some g):∃cs,w.heap[g]? =some (.cells cs e (0,0)):=by
 rcases h.2.2 with⟨rfl,_⟩|⟨g',cap,cur,rfl,_,hh,_⟩
 ·simp[Value.ownBlock]at hg
 ·simp[Value.ownBlock]at hg
  subst hg
  exact⟨_,hh⟩
theorem Own.jb {P:Program}{k:IntKind}{e base:Nat}{w:World}{v:Value}{zs:List Int}(h:Own k e base w v zs){t:TypeId}(ht:P.underlying t=some (.slice (P.elem t)))(hs:∀wx,(sizeOf (P.elem t)).run P wx=.ok 1 wx)(p:Nat)(hp:p≤zs.length):
  ∃vs,(∀wx,(Instr.slice t v none (some (.int .i64 p)) none).run P wx=.ok vs wx)∧Own k e base w vs (zs.take p)∧(∀b,vs.ownBlock=some b→v.ownBlock=some b):=by
 have hwf:∀z∈zs.take p,(Lit.int k z).wf=true:=fun z hz=>h.1 z (List.mem_of_mem_take hz)
 have hl:(zs.take p).length=p:=by rw[List.length_take];omega
 rcases h.2.2 with⟨rfl,hn⟩|⟨g,cap,cur,rfl,hb,hg,hnc,hcm,hcs,htake⟩
 ·obtain rfl:p=0:=by omega
  refine⟨.slice none 0 0,fun wx=>?_,⟨hwf,by rw[hl];simpa using World.ownsRow_nil w base e 1⟩,fun b hb=>hb⟩
  rw[run_slice_h wx t none 0 0 ht .i64 _ (by omega) (by omega)]
  simp[Result.andThen,sliced,hs]
 ·refine⟨.slice (some ⟨g,0,none⟩) p cap,fun wx=>?_,⟨hwf,?_⟩,fun b hb=>hb⟩
  ·rw[run_slice_h wx t _ zs.length cap ht .i64 _ (by omega) (by omega)]
   simp[Result.andThen,sliced,hs,Addr.add]
  ·have:=ab5 h.2 p hp
   rw[hl,List.map_take]
   simpa using this
section
variable {P:Program} {w:World} {ops:Array Oper} {rest:List Oper} {o:Oper} {a:Act} {Q:Exit→Act→World→Prop}
theorem jq (hgd:o.guard=none)(s x:Operand)(t:TypeId)(ho:o.op=.call {callee:=.builtin .append,args:=#[s,x],argTypes:=#[t,t]})
  (v vx:Value) (hs:a.eval s=v) (hx:a.eval x=vx) {R:Value→World→Prop} (hrun:∀ty,∃v' w',(Builtin.append_ #[t,t] ty #[v,vx]).run P w=.ok v' w'∧R v' w')
  (h:∀v' w',R v' w'→wpList P ops Q rest (a.put o.dst v') w'):wpList P ops Q (o::rest) a w:=by
 refine wpList_plain hgd fun K hK=>?_
 obtain⟨v',w',hr,hR⟩:=hrun o.type
 unfold Oper.wp execOp
 simp only[ho,resolve,invoke,builtin,Sem.run_bind,Sem.run_pure,Result.andThen_ok,List.map_toArray,List.map_cons,List.map_nil,hs,hx,hr]
 exact hK _ _ (h v' w' hR)
theorem fo {K:Act→World→Prop}{E:Prop}(hgd:o.guard=none)(s x:Operand)(t:TypeId)(ho:o.op=.call {callee:=.builtin .append,args:=#[s,x],argTypes:=#[t,t]})
  (v vx:Value) (hs:a.eval s=v) (hx:a.eval x=vx) {R:Value→World→Prop} (hrun:∀ty,∃v' w',(Builtin.append_ #[t,t] ty #[v,vx]).run P w=.ok v' w'∧R v' w')
  (h:∀v' w',R v' w'→K (a.put o.dst v') w'):if Region.wanted o (yielded ops a.tmps)=true then Oper.wp P o a w K Q else E:=by
 have hw:Region.wanted o (yielded ops a.tmps)=true:=by simp[Region.wanted,hgd]
 rw[if_pos hw]
 obtain⟨v',w',hr,hR⟩:=hrun o.type
 unfold Oper.wp execOp
 simp only[ho,resolve,invoke,builtin,Sem.run_bind,Sem.run_pure,Result.andThen_ok,List.map_toArray,List.map_cons,List.map_nil,hs,hx,hr]
 exact h v' w' hR
theorem qf {K:Act→World→Prop}{E:Prop}(hgd:o.guard=none)(f:FuncId)(args:Array Operand)(ts:Array TypeId)
  (ho:o.op=.call {callee:=.value (.func f),args:=args,argTypes:=ts}) (hent:∀args w,(callFunc f args).run P w=.ok (.enter f args) w) (vs:Array Value) (hvs:args.map a.eval=vs)
  {R:Value→World→Prop} (hc:Calls P f vs w fun e w'=>∃v,e=.returned v∧R v w') (h:∀v w',R v w'→K (a.put o.dst v) w'):
  if Region.wanted o (yielded ops a.tmps)=true then Oper.wp P o a w K Q else E:=by
 have hw:Region.wanted o (yielded ops a.tmps)=true:=by simp[Region.wanted,hgd]
 rw[if_pos hw]
 unfold Oper.wp
 simp only[execOp,ho,resolve,invoke,Sem.run_bind,hvs]
 simp only[Act.eval,Deferred.ofValue,Sem.run_pure,Result.andThen_ok,Array.empty_append,hent]
 rw[Oper.upon_enter]
 refine hc.mono ?_
 rintro e w' ⟨v,rfl,hr⟩
 exact h v w' hr
end
theorem afG (w:World)(t:TypeId)(x y z u a b c d:Value):∃V,(((((w.alloc (.cells #[x,y,z,u] t)).setCell ⟨w.heap.size,0,none⟩ a).setCell ⟨w.heap.size,1,none⟩ b).setCell ⟨w.heap.size,2,none⟩ c).setCell ⟨w.heap.size,3,none⟩ d=V)∧w.alloc (.cells #[a,b,c,d] t)=V∧V.heap.size=w.heap.size+1∧Below w.heap.size w V∧V.heap[w.heap.size]? =some (.cells #[a,b,c,d] t (0,0))∧
  V.cell? ⟨w.heap.size,0,none⟩=some a∧V.cell? ⟨w.heap.size,1,none⟩=some b∧V.cell? ⟨w.heap.size,2,none⟩=some c∧V.cell? ⟨w.heap.size,3,none⟩=some d:=by
 obtain⟨V,h1,h2,h3,h4⟩:=ak w #[a,b,c,d] t
 refine⟨V,?_,h1,h2,h3,h4,ai h4 0 rfl,ai h4 1 rfl,ai h4 2 rfl,ai h4 3 rfl⟩
 rw[←h1]
 simp[go_sem]
theorem kF (z:Int)(h0:-9223372036854775808≤z)(h1:z<9223372036854775808):IntKind.i64.wrap z=z:=by
 unfold IntKind.wrap
 simp[IntKind.bits,IntKind.signed]
 omega
structure Bw where
 v:Value
 l:List Int
def bwc (a:Bw):List Value:=[a.v]
theorem ahL (a:Bw):(bwc a).length=1:=rfl
def zB (w:World) (v:Value) (r:List Bw):Prop:=gP bwc w v r∧∀a∈r,Is .u8 w a.v a.l
theorem zB.below {w w':World}{v:Value}{r:List Bw}(h:zB w v r)(hb:Below w.heap.size w w'):zB w' v r:=⟨h.1.below hb,fun a ha=>(h.2 a ha).below hb⟩
theorem zB.full {w:World}{v:Value}{r:List Bw}(h:zB w v r)(hne:0<r.length):
  ∃b off cap,v=.slice (some ⟨b,off,none⟩) r.length cap∧r.length≤cap∧cap≤maxLen∧b<w.heap.size∧∀i a,r[i]? =some a→w.cell? ⟨b,off+i,none⟩=some a.v:=by
 obtain⟨b,off,cap,h1,h2,h3,h4,h5⟩:=h.1.full ahL (by decide) hne
 refine⟨b,off,cap,h1,h2,h3,h4,fun i a ha=>?_⟩
 have:=h5 i a ha 0 a.v rfl
 simpa using this
structure OwnB (base:Nat) (w:World) (v:Value) (r:List Bw):Prop where
 row:dM bwc 1 61 base w v r
 own:∀a∈r,Own .u8 5 base w a.v a.l
 apart:r.Pairwise (fun a b=>∀g,a.v.ownBlock=some g→b.v.ownBlock≠some g)
theorem Tryz.aqN (w:World)(a:Option Addr)(n c:Nat):(binOp .eql 61 (.slice a n c) (.slice none 0 0)).run Tryz.prog w=.ok (.bool a.isNone) w:=Lib.run_eql_slice_nil w 61 5 a n c 0 0 Tryz.underlying61
theorem pX (v:Value)(bs:List Int)(w:World)(h:Is .u8 w v bs)(hl:bs.length≤140737488355328):
  Calls Tryz.prog 40 #[v] w fun E w'=>∃v',E=.returned v'∧Own .u8 5 w.heap.size w' v' bs∧Below w.heap.size w w':=by
 rcases h.2 with⟨hv,hz⟩|⟨ad,cap,hv,h1,h2,hc⟩
 ·subst hz hv
  have hq:=Tryz.aqN w none 0 0
  clear h
  go_enter Tryz.func40,Tryz.ntmps40
  go_wp2
  go_ret
  exact⟨_,rfl,Own.nil _ _ _ _,Below.refl _ _⟩
 ·obtain⟨w1,hw1,aT,aj,aX⟩:=lF .u8 5 w #[] 0 [] rfl rfl (by simp) (by simp)
  have hq:=Tryz.aqN w (some ad) bs.length cap
  simp only[Option.isNone_some]at hq
  have h1':=h.below aj
  subst hv
  have X:Hid (∀ty,∃v' w',(Builtin.append_ #[61,61] ty #[.slice (some ⟨w.heap.size,0,none⟩) 0 0,.slice (some ad) bs.length cap]).run Tryz.prog w1=.ok v' w'∧(Own .u8 5 w.heap.size w' v' bs∧Below w.heap.size w w')):=hide fun ty=>by
   obtain⟨v',w',hr,ho,hg,_⟩:=lq (P:=Tryz.prog) 61 ty .u8 5 w.heap.size 1 Tryz.underlying61 Tryz.info5 (by decide) _ [] aX _ bs h1' (by simp;omega) (by omega)
   exact⟨v',w',hr,by simpa using ho,aj.grown hg (by omega) fun k hk=>by simp[Value.ownBlock]at hk;omega⟩
  clear aX h1' h hc
  go_enter Tryz.func40,Tryz.ntmps40
  go_wp2_with (at_builtin;refine jq rfl (.tmp 5) (.tmp 6) 61 rfl _ _ rfl rfl X.out ?_)
  intro v2 w2 aP au
  go_wp2
  go_ret
  exact⟨_,rfl,aP,au⟩
theorem Tryz.ay5:Tryz.prog.underlying 3=some (.int .i64):=by kernel_rfl
theorem anb (n:Nat):(Builtin.zeroCells (Value.int .u8 0).cells n).toList=(List.replicate n (0:Int)).map (Value.int .u8):=by
 apply List.ext_getElem?
 intro i
 simp[Builtin.zeroCells,Value.cells,List.getElem?_replicate]
 by_cases h:i<n<;>simp[h,Nat.mod_one]
theorem al0 (w:World)(n:Nat)(h0:0<n)(h1:n≤150000000000000):Hid (∀ty,∃v' w',(Builtin.append_ #[61,3] ty #[.slice none 0 0,.int .i64 n]).run Tryz.prog w=.ok v' w'∧Own .u8 5 w.heap.size w' v' (List.replicate n 0)∧Below w.heap.size w w'):=by
 obtain⟨i,hi,hz,hsize,hb⟩:=info_parts Tryz.info5
 refine hide fun ty=>⟨_,_,Lib.run_append_nil_zeros w 61 3 ty 5 i (.int .u8 0) .i64 .i64 Tryz.underlying61 Tryz.ay5 hi hz n h0 (by omega) (by omega) (by rw[hb];omega),?_,?_⟩
 ·refine⟨fun z hz=>?_,?_⟩
  ·rw[List.eq_of_mem_replicate hz];rfl
  ·rw[List.length_replicate]
   refine abJ w (Value.int .u8 0).cells rfl _ n _ (by simp[Value.cells]) (grownCap_ge w n 0 _) (grownCap_le_maxLen w n 0 _ (by unfold maxLen;omega)) (Nat.le_refl _) _ ?_
   rw[←anb n]
 ·exact(Below.refl _ _).grown (wI w _ none) (Nat.le_refl _) (fun k hk=>by cases hk)
theorem yE {P:Program}{w:World}{ops:Array Oper}{rest:List Oper}{o:Oper}{a:Act}{Q:Exit→Act→World→Prop}(hgd:o.guard=none)(s x:Operand)(t tn:TypeId)(ho:o.op=.call {callee:=.builtin .append,args:=#[s,x],argTypes:=#[t,tn]})
  (v vx:Value) (hs:a.eval s=v) (hx:a.eval x=vx) {R:Value→World→Prop} (hrun:∀ty,∃v' w',(Builtin.append_ #[t,tn] ty #[v,vx]).run P w=.ok v' w'∧R v' w')
  (h:∀v' w',R v' w'→wpList P ops Q rest (a.put o.dst v') w'):wpList P ops Q (o::rest) a w:=by
 obtain⟨v',w',hr,hR⟩:=hrun o.type
 exact Lib.wpList_append_run w hgd s x t tn ho v vx hs hx v' w' hr (h v' w' hR)
theorem alE (n:Nat)(w:World)(h1:n≤150000000000000):
  Calls Tryz.prog 196 #[.slice none 0 0,.int .i64 n] w fun E w'=>∃v',E=.returned v'∧Own .u8 5 w.heap.size w' v' []∧Below w.heap.size w w':=by
 have hn0:¬(n:Int)<0:=by omega
 have e1:IntKind.i64.wrap ((n:Int)-0)=n:=by rw[aS _ (by omega) (by omega)];omega
 have hsl:=(Own.nil .u8 5 w.heap.size w).is.jb Tryz.kW Tryz.mG 0 (by simp)
 by_cases h0:0<n
 ·have X:=al0 w n h0 h1
  have hn1:(0:Int)<n:=by omega
  go_enter Tryz.func196,Tryz.ntmps196
  go_wp2_with (at_builtin;refine yE rfl (.tmp 20) (.tmp 21) 61 3 rfl _ _ rfl rfl X.out ?_)
  intro v2 w2 aP au
  obtain⟨vs,hvs,owns,_⟩:=aP.jb Tryz.kW Tryz.mG 0 (by omega)
  have ayB:=hvs w2
  simp only[Int.natCast_zero]at ayB
  clear X hvs hsl aP
  go_wp2
  go_ret
  exact⟨_,rfl,by simpa using owns,au⟩
 ·obtain rfl:n=0:=by omega
  clear e1
  go_enter Tryz.func196,Tryz.ntmps196
  go_wp2
  go_ret
  exact⟨_,rfl,Own.nil _ _ _ _,Below.refl _ _⟩
end Go.Proofs.YtmngcecomcadkaaGreatDoor
