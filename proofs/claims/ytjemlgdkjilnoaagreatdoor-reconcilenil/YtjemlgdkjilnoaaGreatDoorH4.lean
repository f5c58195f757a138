/- Texts of one layer, one behind the other. -/
import Derived.Test.YtjemlgdkjilnoaaGreatDoorH1
import Derived.Test.YtjemlgdkjilnoaaGreatDoorG1
import Derived.Test.YtjemlgdkjilnoaaGreatDoorG2
import Derived.Test.YtjemlgdkjilnoaaGreatDoorH2
import Derived.Maps.AppendAt
import Derived.Lib.SliceRun
import Derived.Lib.AppendZeros
import Derived.Test.YtjemlgdkjilnoaaGreatDoorH7
import Derived.Test.YtjemlgdkjilnoaaGreatDoorH3
set_option maxRecDepth 100000
set_option maxHeartbeats 8000000
namespace Go.Proofs.YtjemlgdkjilnoaaGreatDoor
open Go.RowKit
set_option linter.unusedVariables false
theorem Tryz.uY:Tryz.prog.underlying 79=some (.slice (Tryz.prog.elem 79)):=by kernel_rfl
theorem Tryz.xV (wx:World):(sizeOf (Tryz.prog.elem 79)).run Tryz.prog wx=.ok 1 wx:=by kernel_rfl
end Go.Proofs.YtjemlgdkjilnoaaGreatDoor
namespace Go.Proofs.YtjemlgdkjilnoaaGreatDoor.Mm
set_option linter.unusedVariables false
theorem eO.eq {a b:eO}(h1:a.k=b.k)(h2:a.e=b.e)(h3:a.r=b.r)(h4:a.n=b.n)(h5:a.ss=b.ss)(h6:a.f=b.f)(h7:a.p=b.p)(h8:a.cs=b.cs):a=b:=by
 cases a;cases b;simp at*;exact⟨h1,h2,h3,h4,h5,h6,h7,h8⟩
def Go (bs l:List Int) (a:Nat) (b:Bool):Prop:=
 (b=false∧(∀z∈l,0≤z)∧Pm.encs l<+:bs∧a=(Pm.encs l).length)∨(b=true∧Dc bs no 5)
theorem aar (l:List (List Int))(r:List Int):Fm.cat (l++[r])=Fm.cat l++Fm.cB r:=by rw[Fm.tC,Fm.yu]
end Go.Proofs.YtjemlgdkjilnoaaGreatDoor.Mm
namespace Go.Proofs.YtjemlgdkjilnoaaGreatDoor
open Go.RowKit
set_option linter.unusedVariables false
section
variable {P:Program} {w:World}
theorem kY (t ty:TypeId)(k:IntKind)(e:TypeId)(base bytes:Nat)(ht:P.underlying t=some (.slice e))(hinfo:(P.info? e).map (fun i=>(i.zero,i.size,i.bytes))=some (some (.int k 0),1,bytes))(hby:0<bytes)
  (v:Value) (zs:List Int) (hown:Own k e base w v zs) (vx:Value) (ys:List Int) (his:Is k w vx ys) (hlen:(zs.length+ys.length)*bytes≤140737488355328) (hbase:base≤w.heap.size):
  ∃v' w',(Builtin.append_ #[t,t] ty #[v,vx]).run P w=.ok v' w'∧Own k e base w' v' (zs++ys)∧w.grownBy w' v.ownBlock∧(v'.ownBlock=v.ownBlock∨v'.ownBlock=some w.heap.size):=by
 obtain⟨i,hi,hz,hsize,hb⟩:=info_parts hinfo
 have hn:zs.length+ys.length≤140737488355328:=Nat.le_trans (Nat.le_mul_of_pos_right _ hby) hlen
 have hwf:∀z∈zs++ys,(Lit.int k z).wf=true:=by
  intro z hz
  rcases List.mem_append.1 hz with hz|hz
  ·exact hown.1 z hz
  ·exact his.1 z hz
 rcases his.2 with⟨hv,hy⟩|⟨ad,cap,hv,h1,h2,hc⟩
 ·subst hy hv
  have hrun:=run_append_owned_none (P:=P) (w:=w) base t ty e i 1 ht hi v zs.length _ hown.2
  exact⟨v,w,hrun,⟨hwf,by simpa using hown.2⟩,World.grownBy.refl _ _,.inl rfl⟩
 ·subst hv
  obtain⟨v',w',hr,h3,h4,_,h5⟩:=run_append_own_at (P:=P) w base t ty e i (.int k 0) 1 bytes ht hi hz hsize hb rfl (by decide) v zs.length _ hown.2 ad ys.length cap (ys.map (Value.int k)) (by simp) (by
   intro j u hj
   rw[List.getElem?_map,Option.map_eq_some_iff]at hj
   obtain⟨z,hz,rfl⟩:=hj
   obtain⟨hj,hz⟩:=List.getElem?_eq_some_iff.1 hz
   rw[hc j hj,List.getD_eq_getElem?_getD,List.getElem?_eq_getElem hj,hz]
   rfl) (ints_oneCell k ys) (by unfold maxLen;omega) hlen hbase
  exact⟨v',w',hr,⟨hwf,by simpa[List.map_append]using h3⟩,h4,h5⟩
theorem nQ {α:Type}(t ty:TypeId)(f:α→List Value)(k bytes:Nat)(hk:∀a,(f a).length=k)(h0:0<k)(hb0:0<bytes)(z:Value)(hzk:z.cells.size=k)
  (e:TypeId) (base:Nat) (ht:P.underlying t=some (.slice e)) (hinfo:(P.info? e).map (fun i=>(i.zero,i.size,i.bytes))=some (some z,k,bytes))
  (v:Value) (l:List α) (hown:dW f k e base w v l) (vx:Value) (m:List α) (his:ig f w vx m) (hone:∀u∈gcells f m,u.oneCell'=true)
  (hlen:(l.length+m.length)*bytes≤140737488355328) (hbase:base≤w.heap.size):
  ∃v' w',(Builtin.append_ #[t,t] ty #[v,vx]).run P w=.ok v' w'∧dW f k e base w' v' (l++m)∧w.grownBy w' v.ownBlock∧(v'.ownBlock=v.ownBlock∨v'.ownBlock=some w.heap.size):=by
 obtain⟨i,hi,hz,hsize,hb⟩:=info_parts hinfo
 have hn:l.length+m.length≤140737488355328:=Nat.le_trans (Nat.le_mul_of_pos_right _ hb0) hlen
 rcases his with⟨hv,hy⟩|⟨ad,cap,hv,h1,h2,hc⟩
 ·subst hy hv
  have hrun:=run_append_owned_none (P:=P) (w:=w) base t ty e i k ht hi v l.length _ hown
  exact⟨v,w,hrun,by simpa using hown,World.grownBy.refl _ _,.inl rfl⟩
 ·subst hv
  obtain⟨v',w',hr,h3,h4,_,h5⟩:=run_append_own_at (P:=P) w base t ty e i z k bytes ht hi hz hsize hb hzk h0 v l.length _ hown ad m.length cap (gcells f m) (mf hk m) hc hone (by unfold maxLen;omega) hlen hbase
  exact⟨v',w',hr,by unfold dW;rw[ui,List.length_append];exact h3,h4,h5⟩
end
theorem ab0 {w:World}{base e size g n cap:Nat}{xs:List Value}(h:w.ownsRow base e size (.slice (some ⟨g,0,none⟩) n cap) n xs)(m:Nat)(hm:m≤n):w.ownsRow base e size (.slice (some ⟨g,0,none⟩) m cap) m (xs.take (m*size)):=by
 obtain⟨h1,h2⟩:=h
 have hle:m*size≤n*size:=Nat.mul_le_mul_right _ hm
 refine⟨by rw[List.length_take];omega,?_⟩
 rcases h2 with⟨h',_⟩|⟨g',cap',cur,h',hb,hg,hnc,hcm,hcs,htake⟩
 ·simp at h'
 ·simp only[Value.slice.injEq,Option.some.injEq,Addr.mk.injEq,and_true,true_and]at h'
  obtain⟨rfl,rfl⟩:=h'
  refine .inr ⟨g,cap,cur,rfl,hb,hg,by omega,hcm,hcs,?_⟩
  rw[←htake,List.take_take]
  congr 1
  omega
theorem Own.agree {k:IntKind}{e:TypeId}{base:Nat}{w w':World}{v:Value}{zs:List Int}(h:Own k e base w v zs)(hb:∀b,v.ownBlock=some b→w'.heap[b]? =w.heap[b]?):Own k e base w' v zs:=⟨h.1,dm h.2 hb⟩
theorem Own.type {k:IntKind}{e base:Nat}{w:World}{v:Value}{zs:List Int}(h:Own k e base w v zs){g:Nat}(hg:v.ownBlock=some g):∃cs,w.heap[g]? =some (.cells cs e (0,0)):=by
 rcases h.2.2 with⟨rfl,_⟩|⟨g',cap,cur,rfl,_,hh,_⟩
 ·simp[Value.ownBlock]at hg
 ·simp[Value.ownBlock]at hg
  subst hg
  exact⟨_,hh⟩
theorem Own.jG {P:Program}{k:IntKind}{e base:Nat}{w:World}{v:Value}{zs:List Int}(h:Own k e base w v zs){t:TypeId}(ht:P.underlying t=some (.slice (P.elem t)))(hs:∀wx,(sizeOf (P.elem t)).run P wx=.ok 1 wx)(p:Nat)(hp:p≤zs.length):
  ∃vs,(∀wx,(Instr.slice t v none (some (.int .i64 p)) none).run P wx=.ok vs wx)∧Own k e base w vs (zs.take p)∧(∀b,vs.ownBlock=some b→v.ownBlock=some b):=by
 have hwf:∀z∈zs.take p,(Lit.int k z).wf=true:=fun z hz=>h.1 z (List.mem_of_mem_take hz)
 have hl:(zs.take p).length=p:=by rw[List.length_take];omega
 rcases h.2.2 with⟨rfl,hn⟩|⟨g,cap,cur,rfl,hb,hg,hnc,hcm,hcs,htake⟩
 ·obtain rfl:p=0:=by omega
  refine⟨.slice none 0 0,fun wx=>?_,⟨hwf,by rw[hl];simpa using World.ownsRow_nil w base e 1⟩,fun b hb=>hb⟩
  rw[run_slice_h wx t none 0 0 ht .i64 _ (by omega) (by omega)]
  simp[Result.andThen,sliced,hs]
 ·refine⟨.slice (some ⟨g,0,none⟩) p cap,fun wx=>?_,⟨hwf,?_⟩,fun b hb=>hb⟩
  ·rw[run_slice_h wx t _ zs.length cap ht .i64 _ (by omega) (by omega)]
   simp[Result.andThen,sliced,hs,Addr.add]
  ·have:=ab0 h.2 p hp
   rw[hl,List.map_take]
   simpa using this
section
variable {P:Program} {w:World} {ops:Array Oper} {rest:List Oper} {o:Oper} {a:Act} {Q:Exit→Act→World→Prop}
theorem jD (hgd:o.guard=none)(s x:Operand)(t:TypeId)(ho:o.op=.call {callee:=.builtin .append,args:=#[s,x],argTypes:=#[t,t]})
  (v vx:Value) (hs:a.eval s=v) (hx:a.eval x=vx) {R:Value→World→Prop} (hrun:∀ty,∃v' w',(Builtin.append_ #[t,t] ty #[v,vx]).run P w=.ok v' w'∧R v' w')
  (h:∀v' w',R v' w'→wpList P ops Q rest (a.put o.dst v') w'):wpList P ops Q (o::rest) a w:=by
 refine wpList_plain hgd fun K hK=>?_
 obtain⟨v',w',hr,hR⟩:=hrun o.type
 unfold Oper.wp execOp
 simp only[ho,resolve,invoke,builtin,Sem.run_bind,Sem.run_pure,Result.andThen_ok,List.map_toArray,List.map_cons,List.map_nil,hs,hx,hr]
 exact hK _ _ (h v' w' hR)
theorem eQ {K:Act→World→Prop}{E:Prop}(hgd:o.guard=none)(s x:Operand)(t:TypeId)(ho:o.op=.call {callee:=.builtin .append,args:=#[s,x],argTypes:=#[t,t]})
  (v vx:Value) (hs:a.eval s=v) (hx:a.eval x=vx) {R:Value→World→Prop} (hrun:∀ty,∃v' w',(Builtin.append_ #[t,t] ty #[v,vx]).run P w=.ok v' w'∧R v' w')
  (h:∀v' w',R v' w'→K (a.put o.dst v') w'):if Region.wanted o (yielded ops a.tmps)=true then Oper.wp P o a w K Q else E:=by
 have hw:Region.wanted o (yielded ops a.tmps)=true:=by simp[Region.wanted,hgd]
 rw[if_pos hw]
 obtain⟨v',w',hr,hR⟩:=hrun o.type
 unfold Oper.wp execOp
 simp only[ho,resolve,invoke,builtin,Sem.run_bind,Sem.run_pure,Result.andThen_ok,List.map_toArray,List.map_cons,List.map_nil,hs,hx,hr]
 exact h v' w' hR
theorem pU {K:Act→World→Prop}{E:Prop}(hgd:o.guard=none)(f:FuncId)(args:Array Operand)(ts:Array TypeId)
  (ho:o.op=.call {callee:=.value (.func f),args:=args,argTypes:=ts}) (hent:∀args w,(callFunc f args).run P w=.ok (.enter f args) w) (vs:Array Value) (hvs:args.map a.eval=vs)
  {R:Value→World→Prop} (hc:Calls P f vs w fun e w'=>∃v,e=.returned v∧R v w') (h:∀v w',R v w'→K (a.put o.dst v) w'):
  if Region.wanted o (yielded ops a.tmps)=true then Oper.wp P o a w K Q else E:=by
 have hw:Region.wanted o (yielded ops a.tmps)=true:=by simp[Region.wanted,hgd]
 rw[if_pos hw]
 unfold Oper.wp
 simp only[execOp,ho,resolve,invoke,Sem.run_bind,hvs]
 simp only[Act.eval,Deferred.ofValue,Sem.run_pure,Result.andThen_ok,Array.empty_append,hent]
 rw[Oper.upon_enter]
 refine hc.mono ?_
 rintro e w' ⟨v,rfl,hr⟩
 exact h v w' hr
end
theorem afm (w:World)(t:TypeId)(x y z u a b c d:Value):∃V,(((((w.alloc (.cells #[x,y,z,u] t)).setCell ⟨w.heap.size,0,none⟩ a).setCell ⟨w.heap.size,1,none⟩ b).setCell ⟨w.heap.size,2,none⟩ c).setCell ⟨w.heap.size,3,none⟩ d=V)∧w.alloc (.cells #[a,b,c,d] t)=V∧V.heap.size=w.heap.size+1∧Below w.heap.size w V∧V.heap[w.heap.size]? =some (.cells #[a,b,c,d] t (0,0))∧
  V.cell? ⟨w.heap.size,0,none⟩=some a∧V.cell? ⟨w.heap.size,1,none⟩=some b∧V.cell? ⟨w.heap.size,2,none⟩=some c∧V.cell? ⟨w.heap.size,3,none⟩=some d:=by
 obtain⟨V,h1,h2,h3,h4⟩:=ak w #[a,b,c,d] t
 refine⟨V,?_,h1,h2,h3,h4,ai h4 0 rfl,ai h4 1 rfl,ai h4 2 rfl,ai h4 3 rfl⟩
 rw[←h1]
 simp[go_sem]
theorem kK (z:Int)(h0:-9223372036854775808≤z)(h1:z<9223372036854775808):IntKind.i64.wrap z=z:=by
 unfold IntKind.wrap
 simp[IntKind.bits,IntKind.signed]
 omega
structure Bw where
 v:Value
 l:List Int
def bwc (a:Bw):List Value:=[a.v]
theorem ahf (a:Bw):(bwc a).length=1:=rfl
def aaa (w:World) (v:Value) (r:List Bw):Prop:=ig bwc w v r∧∀a∈r,Is .u8 w a.v a.l
theorem aaa.below {w w':World}{v:Value}{r:List Bw}(h:aaa w v r)(hb:Below w.heap.size w w'):aaa w' v r:=⟨h.1.below hb,fun a ha=>(h.2 a ha).below hb⟩
theorem aaa.full {w:World}{v:Value}{r:List Bw}(h:aaa w v r)(hne:0<r.length):
  ∃b off cap,v=.slice (some ⟨b,off,none⟩) r.length cap∧r.length≤cap∧cap≤maxLen∧b<w.heap.size∧∀i a,r[i]? =some a→w.cell? ⟨b,off+i,none⟩=some a.v:=by
 obtain⟨b,off,cap,h1,h2,h3,h4,h5⟩:=h.1.full ahf (by decide) hne
 refine⟨b,off,cap,h1,h2,h3,h4,fun i a ha=>?_⟩
 have:=h5 i a ha 0 a.v rfl
 simpa using this
structure OwnB (base:Nat) (w:World) (v:Value) (r:List Bw):Prop where
 row:dW bwc 1 79 base w v r
 own:∀a∈r,Own .u8 5 base w a.v a.l
 apart:r.Pairwise (fun a b=>∀g,a.v.ownBlock=some g→b.v.ownBlock≠some g)
theorem Tryz.aqB (w:World)(a:Option Addr)(n c:Nat):(binOp .eql 79 (.slice a n c) (.slice none 0 0)).run Tryz.prog w=.ok (.bool a.isNone) w:=Lib.run_eql_slice_nil w 79 5 a n c 0 0 Tryz.underlying79
theorem pG (v:Value)(bs:List Int)(w:World)(h:Is .u8 w v bs)(hl:bs.length≤140737488355328):
  Calls Tryz.prog 55 #[v] w fun E w'=>∃v',E=.returned v'∧Own .u8 5 w.heap.size w' v' bs∧Below w.heap.size w w':=by
 rcases h.2 with⟨hv,hz⟩|⟨ad,cap,hv,h1,h2,hc⟩
 ·subst hz hv
  have hq:=Tryz.aqB w none 0 0
  clear h
  go_enter Tryz.func55,Tryz.ntmps55
  go_wp2
  go_ret
  exact⟨_,rfl,Own.nil _ _ _ _,Below.refl _ _⟩
 ·obtain⟨w1,hw1,aW,aj,aZ⟩:=lC .u8 5 w #[] 0 [] rfl rfl (by simp) (by simp)
  have hq:=Tryz.aqB w (some ad) bs.length cap
  simp only[Option.isNone_some]at hq
  have h1':=h.below aj
  subst hv
  have X:Hid (∀ty,∃v' w',(Builtin.append_ #[79,79] ty #[.slice (some ⟨w.heap.size,0,none⟩) 0 0,.slice (some ad) bs.length cap]).run Tryz.prog w1=.ok v' w'∧(Own .u8 5 w.heap.size w' v' bs∧Below w.heap.size w w')):=hide fun ty=>by
   obtain⟨v',w',hr,ho,hg,_⟩:=kY (P:=Tryz.prog) 79 ty .u8 5 w.heap.size 1 Tryz.underlying79 Tryz.info5 (by decide) _ [] aZ _ bs h1' (by simp;omega) (by omega)
   exact⟨v',w',hr,by simpa using ho,aj.grown hg (by omega) fun k hk=>by simp[Value.ownBlock]at hk;omega⟩
  clear aZ h1' h hc
  go_enter Tryz.func55,Tryz.ntmps55
  go_wp2_with (at_builtin;refine jD rfl (.tmp 5) (.tmp 6) 79 rfl _ _ rfl rfl X.out ?_)
  intro v2 w2 aT au
  go_wp2
  go_ret
  exact⟨_,rfl,aT,au⟩
theorem Tryz.axP:Tryz.prog.underlying 3=some (.int .i64):=by kernel_rfl
theorem aoc (n:Nat):(Builtin.zeroCells (Value.int .u8 0).cells n).toList=(List.replicate n (0:Int)).map (Value.int .u8):=by
 apply List.ext_getElem?
 intro i
 simp[Builtin.zeroCells,Value.cells,List.getElem?_replicate]
 by_cases h:i<n<;>simp[h,Nat.mod_one]
theorem akJ (w:World)(n:Nat)(h0:0<n)(h1:n≤150000000000000):Hid (∀ty,∃v' w',(Builtin.append_ #[79,3] ty #[.slice none 0 0,.int .i64 n]).run Tryz.prog w=.ok v' w'∧Own .u8 5 w.heap.size w' v' (List.replicate n 0)∧Below w.heap.size w w'):=by
 obtain⟨i,hi,hz,hsize,hb⟩:=info_parts Tryz.info5
 refine hide fun ty=>⟨_,_,Lib.run_append_nil_zeros w 79 3 ty 5 i (.int .u8 0) .i64 .i64 Tryz.underlying79 Tryz.axP hi hz n h0 (by omega) (by omega) (by rw[hb];omega),?_,?_⟩
 ·refine⟨fun z hz=>?_,?_⟩
  ·rw[List.eq_of_mem_replicate hz];rfl
  ·rw[List.length_replicate]
   refine abL w (Value.int .u8 0).cells rfl _ n _ (by simp[Value.cells]) (grownCap_ge w n 0 _) (grownCap_le_maxLen w n 0 _ (by unfold maxLen;omega)) (Nat.le_refl _) _ ?_
   rw[←aoc n]
 ·exact(Below.refl _ _).grown (wV w _ none) (Nat.le_refl _) (fun k hk=>by cases hk)
theorem yQ {P:Program}{w:World}{ops:Array Oper}{rest:List Oper}{o:Oper}{a:Act}{Q:Exit→Act→World→Prop}(hgd:o.guard=none)(s x:Operand)(t tn:TypeId)(ho:o.op=.call {callee:=.builtin .append,args:=#[s,x],argTypes:=#[t,tn]})
  (v vx:Value) (hs:a.eval s=v) (hx:a.eval x=vx) {R:Value→World→Prop} (hrun:∀ty,∃v' w',(Builtin.append_ #[t,tn] ty #[v,vx]).run P w=.ok v' w'∧R v' w')
  (h:∀v' w',R v' w'→wpList P ops Q rest (a.put o.dst v') w'):wpList P ops Q (o::rest) a w:=by
 obtain⟨v',w',hr,hR⟩:=hrun o.type
 exact Lib.wpList_append_run w hgd s x t tn ho v vx hs hx v' w' hr (h v' w' hR)
theorem ajJ (n:Nat)(w:World)(h1:n≤150000000000000):
  Calls Tryz.prog 198 #[.slice none 0 0,.int .i64 n] w fun E w'=>∃v',E=.returned v'∧Own .u8 5 w.heap.size w' v' []∧Below w.heap.size w w':=by
 have hn0:¬(n:Int)<0:=by omega
 have e1:IntKind.i64.wrap ((n:Int)-0)=n:=by rw[aX _ (by omega) (by omega)];omega
 have hsl:=(Own.nil .u8 5 w.heap.size w).is.jG Tryz.kW Tryz.mq 0 (by simp)
 by_cases h0:0<n
 ·have X:=akJ w n h0 h1
  have hn1:(0:Int)<n:=by omega
  go_enter Tryz.func198,Tryz.ntmps198
  go_wp2_with (at_builtin;refine yQ rfl (.tmp 20) (.tmp 21) 79 3 rfl _ _ rfl rfl X.out ?_)
  intro v2 w2 aT au
  obtain⟨vs,hvs,owns,_⟩:=aT.jG Tryz.kW Tryz.mq 0 (by omega)
  have axn:=hvs w2
  simp only[Int.natCast_zero]at axn
  clear X hvs hsl aT
  go_wp2
  go_ret
  exact⟨_,rfl,by simpa using owns,au⟩
 ·obtain rfl:n=0:=by omega
  clear e1
  go_enter Tryz.func198,Tryz.ntmps198
  go_wp2
  go_ret
  exact⟨_,rfl,Own.nil _ _ _ _,Below.refl _ _⟩
def flt:List Bw→List Int
 |[]=>[]
 |a::r=>a.l++flt r
theorem abB:∀r s:List Bw,flt (r++s)=flt r++flt s
 |[],s=>rfl
 |a::r,s=>by simp[flt,abB r s]
theorem afF {r:List Bw}{k:Nat}{a:Bw}(h:r[k]? =some a):flt (r.take (k+1))=flt (r.take k)++a.l:=by
 obtain⟨h1,h2⟩:=List.getElem?_eq_some_iff.1 h
 rw[List.take_succ_eq_append_getElem h1,abB,h2]
 simp[flt]
theorem ali (r:List Bw)(k:Nat):(flt (r.take k)).length≤(flt r).length:=by
 have:flt r=flt (r.take k)++flt (r.drop k):=by rw[←abB,List.take_append_drop]
 rw[this,List.length_append]
 omega
theorem ai3 (v:Value)(r:List Bw)(w:World)(h:aaa w v r)(hr:r.length≤1000)(hl:(flt r).length≤150000000000000):
  Calls Tryz.prog 163 #[v] w fun E w'=>∃v',E=.returned v'∧Own .u8 5 w.heap.size w' v' (flt r)∧Below w.heap.size w w':=by
 obtain⟨ao,cap,hv,hcap,hcm⟩:=h.1.shape
 have H:=hide h
 subst hv
 clear h
 go_enter Tryz.func163,Tryz.ntmps163
 go_wp2
 go_loopw [3,11] (fun sv iv wr=>∃k:Nat,k≤r.length∧iv=.int .i64 k∧sv=.int .i64 (flt (r.take k)).length∧w=wr) (fun _ iv _=>r.length-(intOf iv).toNat)
 case atStart=>exact⟨0,by omega,rfl,rfl,rfl⟩
 case round=>
  obtain⟨k,hk,rfl,rfl,rfl⟩:=hrel
  by_cases hlt:k<r.length
  ·obtain⟨b,off,cq,jo,_,_,hB,hcell⟩:=H.out.full (by omega)
   simp only[Value.slice.injEq,true_and]at jo
   obtain⟨rfl,rfl⟩:=jo
   obtain⟨a,ha⟩:∃a,r[k]? =some a:=⟨r[k],by rw[List.getElem?_eq_getElem]⟩
   have e4:=hcell k a ha
   obtain⟨av,ac,hav,_,_⟩:=(H.out.2 a (List.mem_of_getElem? ha)).shape
   rw[hav]at e4
   have hlt':(k:Int)<r.length:=by omega
   have hn:=afF ha
   have hm:=ali r (k+1)
   have hn2:(flt (r.take (k+1))).length=(flt (r.take k)).length+a.l.length:=by rw[hn,List.length_append]
   have hn3:((flt (r.take (k+1))).length:Int)=((flt (r.take k)).length:Int)+(a.l.length:Int):=by omega
   generalize hq:(flt (r.take k)).length=q at*
   have e5:IntKind.i64.wrap ((q:Int)+(a.l.length:Int))=(q:Int)+a.l.length:=aX _ (by omega) (by omega)
   have e6:¬(q:Int)+(a.l.length:Int)<0:=by omega
   have hk0:(0:Int)≤(k:Int):=by omega
   clear hcell hn hq hav ha
   go_wp2
   go_roundw
   case rel=>exact⟨k+1,by omega,by go_num,by rw[hn3],trivial⟩
   case measure=>simp[intOf];omega
  ·obtain rfl:k=r.length:=by omega
   rw[List.take_length]
   have hlt':¬(r.length:Int)<r.length:=by omega
   go_wp2_with fail
   refine(ajJ (flt r).length _ hl).mono ?_
   rintro E w1 ⟨v1,rfl,aZ,aj⟩
   have H1:=hide (H.out.below aj)
   go_wp2
   go_loopw [6,27] (fun sv iv wr=>∃k:Nat,k≤r.length∧iv=.int .i64 k∧Own .u8 5 w.heap.size wr sv (flt (r.take k))∧Below w.heap.size w wr) (fun _ iv _=>r.length-(intOf iv).toNat)
   case atStart=>exact⟨0,by omega,rfl,aZ,aj⟩
   case round=>
    clear aZ aj H1
    obtain⟨k,hk,rfl,own,aG⟩:=hrel
    have szr:=aG.size
    by_cases hlt:k<r.length
    ·have H2:=H.out.below aG
     obtain⟨b,off,cq,jo,_,_,hB,hcell⟩:=H2.full (by omega)
     simp only[Value.slice.injEq,true_and]at jo
     obtain⟨rfl,rfl⟩:=jo
     obtain⟨a,ha⟩:∃a,r[k]? =some a:=⟨r[k],by rw[List.getElem?_eq_getElem]⟩
     have e4:=hcell k a ha
     have isa:=H2.2 a (List.mem_of_getElem? ha)
     have hlt':(k:Int)<r.length:=by omega
     have hn:=hide (afF ha)
     have hm:=ali r (k+1)
     have hn2:(flt (r.take (k+1))).length=(flt (r.take k)).length+a.l.length:=by rw[hn.out,List.length_append]
     have hk0:(0:Int)≤(k:Int):=by omega
     have sum:(flt (r.take k)).length+a.l.length≤150000000000000:=by omega
     clear hcell ha H2 hn2 hm
     generalize flt (r.take k)=q at*
     go_wp2_with (at_builtin;refine cK rfl (.tmp 31) (.tmp 32) 79 rfl .u8 5 w.heap.size 1 Tryz.underlying79 Tryz.info5 (by decide) _ q rfl own _ a.l rfl isa (by simp;omega) szr ?_)
     intro v2 w2 aT au _
     rw[←hn.out]at aT
     have b3:=aG.trans au
     clear own isa e4 au
     go_wp2
     go_roundw
     case rel=>exact⟨k+1,by omega,by go_num,aT,b3⟩
     case measure=>simp[intOf];omega
    ·obtain rfl:k=r.length:=by omega
     rw[List.take_length]at own
     have hlt':¬(r.length:Int)<r.length:=by omega
     go_wp2
     go_ret
     exact⟨_,rfl,own,aG⟩
def wW (bs r:List Int):List Int:=if r.length≤131072 then bs++Fm.cB r else []
def xz (r:List Int):Int:=if r.length≤131072 then 0 else 3
theorem aoD (n:Nat)(h:n≤140737488355328):IntKind.u64.wrap (n:Int)=n:=by
 rw[IntKind.wrap_u64];omega
theorem uy (vb vr:Value)(bs r:List Int)(w:World)(hb:Is .u8 w vb bs)(hr:Is .u8 w vr r)(hl:bs.length≤140737488351232)(hl':r.length≤140737488351232):
  Calls Tryz.prog 116 #[vb,vr] w fun E w'=>∃v',E=.returned (.tuple #[v',.int .i64 (xz r)])∧Own .u8 5 w.heap.size w' v' (wW bs r)∧Below w.heap.size w w':=by
 obtain⟨ro,rc,hv,hcap,hcm⟩:=hr.shape
 subst hv
 obtain⟨bo,bc,hv,hcap',hcm'⟩:=hb.shape
 subst hv
 have HB:=hide hb
 have HR:=hide hr
 clear hb hr
 by_cases hlong:r.length≤131072
 ·have e1:xz r=0:=if_pos hlong
  have e2:wW bs r=bs++Fm.cB r:=if_pos hlong
  rw[e1,e2]
  have hn:¬(131072:Int)<(r.length:Int):=by omega
  have e3:IntKind.u64.wrap (r.length:Int)=r.length:=aoD _ (by omega)
  have hz:=Fm.bP hlong
  clear e1 e2
  go_enter Tryz.func116,Tryz.ntmps116
  go_wp2_with fail
  refine(fJ (.slice none 0 0) [] (r.length:Int) _ (Own.nil .u8 5 w.heap.size w).is (by simp) (by omega) (by omega)).mono ?_
  rintro E w1 ⟨v1,rfl,aZ,aj⟩
  rw[List.nil_append,Int.toNat_natCast]at aZ
  obtain⟨no,nc,hv,_,_⟩:=aZ.is.shape
  subst hv
  generalize hvn:Value.slice no (Vm.enc r.length).length nc=v1 at*
  generalize hvb:Value.slice bo bs.length bc=vb at*
  obtain⟨w2,hw2,di,au,B2⟩:=ak w1 #[vb,v1,.slice ro r.length rc] 79
  have row:aaa w2 (.slice (some ⟨w1.heap.size,0,none⟩) 3 3) [⟨vb,bs⟩,⟨v1,Vm.enc r.length⟩,⟨.slice ro r.length rc,r⟩]:=by
   refine⟨?_,?_⟩
   ·obtain⟨W,hW,_,_,ho⟩:=qL bwc 1 ahf 79 w1 #[vb,v1,.slice ro r.length rc] 3 [⟨vb,bs⟩,⟨v1,Vm.enc r.length⟩,⟨.slice ro r.length rc,r⟩] rfl rfl (by unfold maxLen;omega)
    rw[←hw2,hW]
    exact ho.row
   ·intro a ha
    simp at ha
    rcases ha with rfl|rfl|rfl
    ·exact(HB.out.below aj).below au
    ·exact(aZ.below au).is
    ·exact(HR.out.below aj).below au
  have szs:=aj.size
  have HC:=hide (ai3 _ _ w2 row (by simp) (by simp[flt];have:(Vm.enc r.length).length≤3:=hz;omega))
  have b02:Below w.heap.size w w2:=aj.trans (au.mono szs)
  clear aZ row aj au B2
  subst hvn hvb
  go_wp2_with fail
  refine HC.out.mono ?_
  rintro E w3 ⟨v3,rfl,bI,aF⟩
  have bf:Own .u8 5 w2.heap.size w3 v3 (bs++Fm.cB r):=by simpa[flt,Fm.cB]using bI
  clear HC bI
  go_wp2
  go_ret2
  exact⟨_,rfl,bf.bB (by omega),b02.trans (aF.mono (by omega))⟩
 ·have e1:xz r=3:=if_neg hlong
  have e2:wW bs r=[]:=if_neg hlong
  rw[e1,e2]
  have hn:(131072:Int)<(r.length:Int):=by omega
  go_enter Tryz.func116,Tryz.ntmps116
  go_wp2
  go_ret2
  exact⟨_,rfl,Own.nil _ _ _ _,Below.refl _ _⟩
theorem rH {bs:List Int}{most:Nat}{u i g:Int}(hm:most<18446744073709551616)(h:aap bs most u i g):
  (∃x:Nat,u=x∧i=Vm.sz x∧g=0∧x≤most∧Vm.enc x<+:bs)∨(u=0∧i=0∧g=5∧∀x:Nat,x≤most→¬Vm.enc x<+:bs):=by
 rcases h with⟨hR,h1,h2,he⟩|⟨hu,hi,he,x,n,f,hR,hcase⟩
 ·rcases hR with⟨x,hx,hp,h3,h4,_⟩|⟨_,_,_,h5⟩
  ·exact .inl ⟨x,h3,h4,he,by omega,hp⟩
  ·simp at h5
 ·refine .inr ⟨hu,hi,he,fun y hy hp=>?_⟩
  have:=Vm.uR hR (u:=y) (by omega) hp
  omega
theorem asG {bs:List Int}(h:∀x:Nat,x≤131072→¬Vm.enc x<+:bs):Fm.Rd bs [] 0 5:=.inr ⟨rfl,rfl,rfl,fun s hs hp=>h _ hs (Fm.abO hp).1⟩
theorem amG {bs:List Int}{x:Nat}(h:Vm.enc x<+:bs)(hx:bs.length-Vm.sz x<x):Fm.Rd bs [] 0 5:=.inr ⟨rfl,rfl,rfl,fun s hs hp=>by
 obtain⟨h1,h2,_⟩:=Fm.abO hp
 have:=Vm.bJ bs _ _ h h1
 subst this
 omega⟩
theorem ar5 {bs:List Int}{x:Nat}(h:Vm.enc x<+:bs)(h':x≤131072)(hx:x≤bs.length-Vm.sz x):Fm.Rd bs ((bs.drop (Vm.sz x)).take x) (Vm.sz x+x) 0:=by
 obtain⟨h1,h2⟩:=Fm.auQ h hx
 exact .inl ⟨rfl,by omega,by rw[h1],h2⟩
theorem oC (vb:Value)(bs:List Int)(w:World)(hb:Is .u8 w vb bs)(hl:bs.length≤150000000000000):
  Calls Tryz.prog 105 #[vb] w fun E w'=>∃(v:Value) (r:List Int) (n:Nat) (e:Int),E=.returned (.tuple #[v,.int .i64 n,.int .i64 e])∧Own .u8 5 w.heap.size w' v r∧Below w.heap.size w w'∧Hid (Fm.Rd bs r n e):=by
 obtain⟨u,i,g,hS⟩:=ni bs ((131072:Nat):Int)
 have HS:=hide (ku vb bs _ u i g w hb hl (by omega) (by omega) hS)
 rcases rH (by omega) hS with⟨x,rfl,rfl,rfl,hx,hp⟩|⟨rfl,rfl,rfl,hno⟩
 ·have hz:=Fm.bP hx
  have hpl:Vm.sz x≤bs.length:=hp.length_le
  by_cases hlong:x≤bs.length-Vm.sz x
  ·have R:=hide (ar5 hp hx hlong)
   obtain⟨vs,hsl,eH⟩:=hb.uO Tryz.kW Tryz.mq (Vm.sz x) (Vm.sz x+x) (by omega) (by omega)
   rw[show Vm.sz x+x-Vm.sz x=x by omega]at eH
   have hlt:((bs.drop (Vm.sz x)).take x).length≤131072:=by rw[List.length_take,List.length_drop];omega
   have HC:=hide (pG vs _ w eH (by omega))
   obtain⟨ao,cap,hv,hcap,hcm⟩:=hb.shape
   subst hv
   clear hb eH hlt hS hp
   generalize (bs.drop (Vm.sz x)).take x=r at*
   generalize Vm.sz x=m at*
   have e1:IntKind.i64.wrap ((bs.length:Int)-(m:Int))=(bs.length:Int)-m:=aX _ (by omega) (by omega)
   have e2:IntKind.i64.wrap ((m:Int)+(x:Int))=(m:Int)+x:=aX _ (by omega) (by omega)
   have e3:¬(bs.length:Int)-m<x:=by omega
   have hsl2:∀wx,(Instr.slice 79 (.slice ao bs.length cap) (some (.int .i64 (m:Int))) (some (.int .i64 ((m:Int)+(x:Int)))) none).run Tryz.prog wx=.ok vs wx:=by simpa using hsl
   clear hsl
   go_enter Tryz.func105,Tryz.ntmps105
   go_wp2_with fail
   refine HS.out.mono ?_
   rintro E w1 ⟨rfl,rfl⟩
   clear HS
   go_wp2_with fail
   refine HC.out.mono ?_
   rintro E w2 ⟨v2,rfl,aT,au⟩
   clear HC hsl2
   go_wp2
   go_ret3
   exact⟨v2,r,m+x,0,by simp,aT,au,R⟩
  ·have R:=hide (amG hp (by omega))
   obtain⟨ao,cap,hv,hcap,hcm⟩:=hb.shape
   subst hv
   clear hb hS hp
   generalize Vm.sz x=m at*
   have e1:IntKind.i64.wrap ((bs.length:Int)-(m:Int))=(bs.length:Int)-m:=aX _ (by omega) (by omega)
   have e3:(bs.length:Int)-m<x:=by omega
   go_enter Tryz.func105,Tryz.ntmps105
   go_wp2_with fail
   refine HS.out.mono ?_
   rintro E w1 ⟨rfl,rfl⟩
   clear HS
   go_wp2
   go_ret3
   exact⟨_,[],0,5,rfl,Own.nil _ _ _ _,Below.refl _ _,R⟩
 ·have R:=hide (asG hno)
  clear hb hS hno
  go_enter Tryz.func105,Tryz.ntmps105
  go_wp2_with fail
  refine HS.out.mono ?_
  rintro E w1 ⟨rfl,rfl⟩
  clear HS
  go_wp2
  go_ret3
  exact⟨_,[],0,5,rfl,Own.nil _ _ _ _,Below.refl _ _,R⟩
def vp (x:Pm.Pg):Value:=.agg #[.int .i64 x.e,.int .u8 x.r,.int .i64 x.a,.int .u8 x.p,.int .i64 x.f,.int .i64 x.b]
def cp (x:Pm.Pg):Array Value:=#[.int .i64 x.e,.int .u8 x.r,.int .i64 x.a,.int .u8 x.p,.int .i64 x.f,.int .i64 x.b]
def vn (x:Pm.Pg):Value:=.agg #[.int .i64 x.e,.int .i64 x.r,.int .i64 x.a,.int .i64 x.p,.int .i64 x.f,.int .i64 x.b]
def eT (x:Pm.Pg):Prop:=-9223372036854775808≤x.e∧x.e<9223372036854775808∧0≤x.r∧x.r<256∧-9223372036854775808≤x.a∧x.a<9223372036854775808∧0≤x.p∧x.p<256∧-9223372036854775808≤x.f∧x.f<9223372036854775808∧-9223372036854775808≤x.b∧x.b<9223372036854775808
theorem oD {x:Pm.Pg}(h:Pm.Ok x):eT x:=by
 have:=Pm.kG h
 unfold eT
 omega
structure tK (w:World) (g:Nat) (a b c d e f:Value):Prop where
 c0:w.cell? ⟨g,0,none⟩=some a
 c1:w.cell? ⟨g,1,none⟩=some b
 c2:w.cell? ⟨g,2,none⟩=some c
 c3:w.cell? ⟨g,3,none⟩=some d
 c4:w.cell? ⟨g,4,none⟩=some e
 c5:w.cell? ⟨g,5,none⟩=some f
theorem aN {w:World}{g:Nat}{t:TypeId}{fr:Nat×Nat}{a b c d e f:Value}(h:w.heap[g]? =some (.cells #[a,b,c,d,e,f] t fr)):tK w g a b c d e f:=
 ⟨ai h 0 rfl,ai h 1 rfl,ai h 2 rfl,ai h 3 rfl,ai h 4 rfl,ai h 5 rfl⟩
theorem dU {V:World}{R:Nat}{t:TypeId}{x0 x1 x2 x3 x4 x5:Value}(hR:V.heap[R]? =some (.cells #[x0,x1,x2,x3,x4,x5] t (0,0)))(a b c d e f:Value):
  ∃V',(((((V.setCell ⟨R,0,none⟩ a).setCell ⟨R,1,none⟩ b).setCell ⟨R,2,none⟩ c).setCell ⟨R,3,none⟩ d).setCell ⟨R,4,none⟩ e).setCell ⟨R,5,none⟩ f=V'∧V'.heap[R]? =some (.cells #[a,b,c,d,e,f] t (0,0))∧V.grownBy V' (some R)∧
   tK V R x0 x1 x2 x3 x4 x5∧(∀j,V.frozen? ⟨R,j,none⟩=false)∧tK V' R a b c d e f:=by
 have h:=aI (aI (aI (aI (aI (aI hR 0 a) 1 b) 2 c) 3 d) 4 e) 5 f
 refine⟨_,rfl,h,?_,aN hR,aC hR,aN h⟩
 exact aH (aH (aH (aH (aH (aB V ⟨R,0,none⟩ a) (aB _ ⟨R,1,none⟩ b)) (aB _ ⟨R,2,none⟩ c)) (aB _ ⟨R,3,none⟩ d)) (aB _ ⟨R,4,none⟩ e)) (aB _ ⟨R,5,none⟩ f)
theorem xA (w:World)(t:TypeId)(x0 x1 x2 x3 x4 x5 a b c d e f:Value):
  ∃V,((((((w.alloc (.cells #[x0,x1,x2,x3,x4,x5] t)).setCell ⟨w.heap.size,0,none⟩ a).setCell ⟨w.heap.size,1,none⟩ b).setCell ⟨w.heap.size,2,none⟩ c).setCell ⟨w.heap.size,3,none⟩ d).setCell ⟨w.heap.size,4,none⟩ e).setCell ⟨w.heap.size,5,none⟩ f=V∧w.alloc (.cells #[a,b,c,d,e,f] t)=V∧V.heap.size=w.heap.size+1∧Below w.heap.size w V∧V.heap[w.heap.size]? =some (.cells #[a,b,c,d,e,f] t (0,0))∧tK V w.heap.size a b c d e f:=by
 obtain⟨V,h1,h2,h3,h4⟩:=ak w #[a,b,c,d,e,f] t
 refine⟨V,?_,h1,h2,h3,h4,aN h4⟩
 rw[←h1]
 simp[go_sem]
def fst (n:Int):Pm.Pg:=if n=0 then⟨1,1,0,0,0,0⟩else if n=1 then⟨1,2,0,0,0,0⟩else Pm.no
def fse (n:Int):Int:=if n=0 then 0 else if n=1 then 0 else 2
theorem adf (n:Int)(w:World):
  Calls Tryz.prog 77 #[.int .i64 n] w fun E w'=>E=.returned (.tuple #[vp (fst n),.int .i64 (fse n)])∧Below w.heap.size w w':=by
 obtain⟨w1,hw1,aW,aj,hB⟩:=ak w #[.int .i64 0,.int .u8 0,.int .i64 0,.int .u8 0,.int .i64 0,.int .i64 0] 35
 unfold fst fse vp
 go_enter Tryz.func77,Tryz.ntmps77
 by_cases h0:n=0
 ·have h0':(n==0)=true:=by simp[h0]
  rw[if_pos h0,if_pos h0]
  obtain⟨V,hV,bV,gV,⟨a0,a1,a2,a3,a4,a5⟩,fr,⟨z0,z1,z2,z3,z4,z5⟩⟩:=dU hB (.int .i64 1) (.int .u8 1) (.int .i64 0) (.int .u8 0) (.int .i64 0) (.int .i64 0)
  have f0:=fr 0;have f1:=fr 1;have f2:=fr 2;have f3:=fr 3;have f4:=fr 4;have f5:=fr 5
  have aG:=aD aj gV (Nat.le_refl _) (by omega)
  clear h0 hB bV gV fr aj
  go_wp2
  refine bodyPost_ret (v:=.tuple #[.agg #[.int .i64 1,.int .u8 1,.int .i64 0,.int .u8 0,.int .i64 0,.int .i64 0],.int .i64 0]) (by simp[results,Tryz.results77,go_sem,z0,z1,z2,z3,z4,z5]) rfl ?_
  exact⟨rfl,aG⟩
 ·have h0':(n==0)=false:=by simp[h0]
  rw[if_neg h0,if_neg h0]
  by_cases h1:n=1
  ·have h1':(n==1)=true:=by simp[h1]
   rw[if_pos h1,if_pos h1]
   obtain⟨V,hV,bV,gV,⟨a0,a1,a2,a3,a4,a5⟩,fr,⟨z0,z1,z2,z3,z4,z5⟩⟩:=dU hB (.int .i64 1) (.int .u8 2) (.int .i64 0) (.int .u8 0) (.int .i64 0) (.int .i64 0)
   have f0:=fr 0;have f1:=fr 1;have f2:=fr 2;have f3:=fr 3;have f4:=fr 4;have f5:=fr 5
   have aG:=aD aj gV (Nat.le_refl _) (by omega)
   clear h0 h1 hB bV gV fr aj
   go_wp2
   refine bodyPost_ret (v:=.tuple #[.agg #[.int .i64 1,.int .u8 2,.int .i64 0,.int .u8 0,.int .i64 0,.int .i64 0],.int .i64 0]) (by simp[results,Tryz.results77,go_sem,z0,z1,z2,z3,z4,z5]) rfl ?_
   exact⟨rfl,aG⟩
  ·have h1':(n==1)=false:=by simp[h1]
   rw[if_neg h1,if_neg h1]
   obtain⟨V,hV,bV,gV,⟨a0,a1,a2,a3,a4,a5⟩,fr,⟨z0,z1,z2,z3,z4,z5⟩⟩:=dU hB (.int .i64 0) (.int .u8 0) (.int .i64 0) (.int .u8 0) (.int .i64 0) (.int .i64 0)
   have f0:=fr 0;have f1:=fr 1;have f2:=fr 2;have f3:=fr 3;have f4:=fr 4;have f5:=fr 5
   have aG:=aD aj gV (Nat.le_refl _) (by omega)
   clear h0 h1 hB bV gV fr aj
   go_wp2
   refine bodyPost_ret (v:=.tuple #[.agg #[.int .i64 0,.int .u8 0,.int .i64 0,.int .u8 0,.int .i64 0,.int .i64 0],.int .i64 2]) (by simp[results,Tryz.results77,go_sem,z0,z1,z2,z3,z4,z5]) rfl ?_
   exact⟨rfl,aG⟩
theorem aer (z:Int)(h0:0≤z)(h1:z<256):IntKind.i64.wrap z=z:=aX z (by omega) (by omega)
theorem vK (x:Pm.Pg)(w:World)(hx:eT x):
  Calls Tryz.prog 96 #[vp x] w fun E w'=>E=.returned (vn x)∧Below w.heap.size w w':=by
 unfold vp vn
 obtain⟨g1,g2,g3,g4,g5,g6,g7,g8,g9,g10,g11,g12⟩:=hx
 obtain⟨w1,hw1,aW,aj,hB⟩:=ak w #[.int .i64 x.e,.int .u8 x.r,.int .i64 x.a,.int .u8 x.p,.int .i64 x.f,.int .i64 x.b] 35
 obtain⟨w2,hw2,di,au,hC⟩:=ak w1 #[.int .i64 0,.int .i64 0,.int .i64 0,.int .i64 0,.int .i64 0,.int .i64 0] 149
 obtain⟨c0,c1,c2,c3,c4,c5⟩:=aN ((au.block _ (ax hB)).trans hB)
 rw[aW]at hC
 obtain⟨V,hV,bV,gV,⟨a0,a1,a2,a3,a4,a5⟩,fr,⟨z0,z1,z2,z3,z4,z5⟩⟩:=dU hC (.int .i64 x.e) (.int .i64 x.r) (.int .i64 x.a) (.int .i64 x.p) (.int .i64 x.f) (.int .i64 x.b)
 have f0:=fr 0;have f1:=fr 1;have f2:=fr 2;have f3:=fr 3;have f4:=fr 4;have f5:=fr 5
 have aG:=aD (aj.trans (au.mono (by omega))) gV (by omega) (by omega)
 have e1:=aer x.r g3 g4
 have e2:=aer x.p g7 g8
 clear hB hC bV gV fr aj au
 go_enter Tryz.func96,Tryz.ntmps96
 go_wp2
 refine bodyPost_ret (v:=.agg #[.int .i64 x.e,.int .i64 x.r,.int .i64 x.a,.int .i64 x.p,.int .i64 x.f,.int .i64 x.b]) (by simp[results,Tryz.results96,go_sem,z0,z1,z2,z3,z4,z5]) rfl ?_
 exact⟨rfl,aG⟩
def same (x y:Pm.Pg):Bool:=x.e==y.e&&x.r==y.r&&x.a==y.a&&x.p==y.p&&x.f==y.f&&x.b==y.b
theorem Tryz.abW (a b c d e f a' b' c' d' e' f':Int)(w:World):(binOp .eql 35 (.agg #[.int .i64 a,.int .u8 b,.int .i64 c,.int .u8 d,.int .i64 e,.int .i64 f]) (.agg #[.int .i64 a',.int .u8 b',.int .i64 c',.int .u8 d',.int .i64 e',.int .i64 f'])).run Tryz.prog w=.ok (.bool (a==a'&&b==b'&&c==c'&&d==d'&&e==e'&&f==f')) w:=by
 rw[run_eql_struct,run_equalIn_agg w 9999 35 _ _ (by kernel_rfl) (by kernel_rfl)]
 unfold Program.fieldsOf
 rw[Tryz.underlying35]
 simp[Op.eqFields,go_sem,Tryz.underlying32,Tryz.underlying33,Tryz.underlying3]
 by_cases h1:a=a'<;>by_cases h2:b=b'<;>by_cases h3:c=c'<;>by_cases h4:d=d'<;>by_cases h5:e=e'<;>by_cases h6:f=f'<;>simp[h1,h2,h3,h4,h5,h6]
def fQ (w:World):Prop:=tK w 0 (.int .i64 1048576) (.int .i64 3) (.int .i64 1048576) (.int .i64 4) (.int .i64 1048576) (.int .i64 1073741824)
theorem fQ.pos {w:World}(h:fQ w):0<w.heap.size:=by
 have:=h.c0
 rcases Nat.lt_or_ge 0 w.heap.size with h'|h'
 ·exact h'
 ·have:w.heap[0]? =none:=Array.getElem?_eq_none (by omega)
  have h0:=h.c0
  simp[World.cell?,this]at h0
theorem fQ.below {w w':World}(h:fQ w)(b:Below w.heap.size w w'):fQ w':=by
 have hp:=h.pos
 have e:∀j,w'.cell? ⟨0,j,none⟩=w.cell? ⟨0,j,none⟩:=fun j=>b.cell (p:=⟨0,j,none⟩) hp
 exact⟨(e 0).trans h.c0,(e 1).trans h.c1,(e 2).trans h.c2,(e 3).trans h.c3,(e 4).trans h.c4,(e 5).trans h.c5⟩
def gG:List Int:=[1048576,3,1048576,4,1048576,1073741824]
def Up (x:Pm.Pg) (k:Nat):Prop:=∀i,i<k→0≤(Pm.nums x).getD i 0∧(Pm.nums x).getD i 0≤gG.getD i 0
theorem Up.next {x:Pm.Pg}{k:Nat}(h:Up x k)(h0:0≤(Pm.nums x).getD k 0)(h1:(Pm.nums x).getD k 0≤gG.getD k 0):Up x (k+1):=by
 intro i hi
 by_cases e:i=k
 ·subst e;exact⟨h0,h1⟩
 ·exact h i (by omega)
def upx (x:Pm.Pg):Bool:=decide (0≤x.e∧x.e≤1048576∧0≤x.r∧x.r≤3∧0≤x.a∧x.a≤1048576∧0≤x.p∧x.p≤4∧0≤x.f∧x.f≤1048576∧0≤x.b∧x.b≤1073741824)
theorem abS {x:Pm.Pg}:upx x=true↔Up x 6:=by
 unfold upx
 rw[decide_eq_true_iff]
 refine⟨fun h i hi=>?_,fun h=>?_⟩
 ·obtain rfl|rfl|rfl|rfl|rfl|rfl:i=0∨i=1∨i=2∨i=3∨i=4∨i=5:=by omega
  all_goals simp[Pm.nums,gG];omega
 ·have h0:=h 0 (by omega);have h1:=h 1 (by omega);have h2:=h 2 (by omega);have h3:=h 3 (by omega);have h4:=h 4 (by omega);have h5:=h 5 (by omega)
  simp[Pm.nums,gG]at h0 h1 h2 h3 h4 h5
  omega
theorem jl {x:Pm.Pg}(h:¬Up x 6):upx x=false:=by
 cases hu:upx x with
 |false=>rfl
 |true=>exact absurd (abS.1 hu) h
theorem ji {x:Pm.Pg}(h:Up x 6):0≤x.e∧x.e≤1048576∧0≤x.r∧x.r≤3∧0≤x.a∧x.a≤1048576∧0≤x.p∧x.p≤4∧0≤x.f∧x.f≤1048576∧0≤x.b∧x.b≤1073741824:=by
 have h0:=h 0 (by omega);have h1:=h 1 (by omega);have h2:=h 2 (by omega);have h3:=h 3 (by omega);have h4:=h 4 (by omega);have h5:=h 5 (by omega)
 simp[Pm.nums,gG]at h0 h1 h2 h3 h4 h5
 omega
theorem gH {a b:Bool}(h:b=a):Ending.returned (.bool a)=.returned (.bool b):=by rw[h]
theorem Tryz.av7 (a b c d e f:Int)(w:World):(Instr.index 149 (.agg #[.int .i64 a,.int .i64 b,.int .i64 c,.int .i64 d,.int .i64 e,.int .i64 f]) (.int .i64 0)).run Tryz.prog w=.ok (.int .i64 a) w:=by kernel_rfl
theorem Tryz.avQ (a b c d e f:Int)(w:World):(Instr.index 149 (.agg #[.int .i64 a,.int .i64 b,.int .i64 c,.int .i64 d,.int .i64 e,.int .i64 f]) (.int .i64 1)).run Tryz.prog w=.ok (.int .i64 b) w:=by kernel_rfl
theorem Tryz.auG (a b c d e f:Int)(w:World):(Instr.index 149 (.agg #[.int .i64 a,.int .i64 b,.int .i64 c,.int .i64 d,.int .i64 e,.int .i64 f]) (.int .i64 2)).run Tryz.prog w=.ok (.int .i64 c) w:=by kernel_rfl
theorem Tryz.atU (a b c d e f:Int)(w:World):(Instr.index 149 (.agg #[.int .i64 a,.int .i64 b,.int .i64 c,.int .i64 d,.int .i64 e,.int .i64 f]) (.int .i64 3)).run Tryz.prog w=.ok (.int .i64 d) w:=by kernel_rfl
theorem Tryz.avA (a b c d e f:Int)(w:World):(Instr.index 149 (.agg #[.int .i64 a,.int .i64 b,.int .i64 c,.int .i64 d,.int .i64 e,.int .i64 f]) (.int .i64 4)).run Tryz.prog w=.ok (.int .i64 e) w:=by kernel_rfl
theorem Tryz.auu (a b c d e f:Int)(w:World):(Instr.index 149 (.agg #[.int .i64 a,.int .i64 b,.int .i64 c,.int .i64 d,.int .i64 e,.int .i64 f]) (.int .i64 5)).run Tryz.prog w=.ok (.int .i64 f) w:=by kernel_rfl
theorem aeI (x:Pm.Pg)(w:World)(hx:eT x)(hm:fQ w):
  Calls Tryz.prog 95 #[vn x] w fun E w'=>E=.returned (.bool (upx x))∧Below w.heap.size w w':=by
 unfold vn
 obtain⟨g1,g2,g3,g4,g5,g6,g7,g8,g9,g10,g11,g12⟩:=hx
 obtain⟨w1,hw1,aW,aj,hB⟩:=ak w #[.int .i64 x.e,.int .i64 x.r,.int .i64 x.a,.int .i64 x.p,.int .i64 x.f,.int .i64 x.b] 149
 obtain⟨c0,c1,c2,c3,c4,c5⟩:=aN hB
 obtain⟨m0,m1,m2,m3,m4,m5⟩:=hm.below aj
 obtain⟨r,hr⟩:∃r,upx x=r:=⟨_,rfl⟩
 rw[hr]
 have HR:=hide hr
 clear hB hr hm
 go_enter Tryz.func95,Tryz.ntmps95
 go_wp2
 go_loop [6] (fun kk=>∃k:Nat,k≤6∧kk=.int .i64 k∧Hid (Up x k)) (fun kk=>7-(intOf kk).toNat)
 case atStart=>exact⟨0,by omega,rfl,fun i hi=>by omega⟩
 case round=>
  obtain⟨k,hk,rfl,hu⟩:=hrel
  rcases(show k=0∨k=1∨k=2∨k=3∨k=4∨k=5∨k=6 by omega)with rfl|rfl|rfl|rfl|rfl|rfl|rfl
  ·have hix:=Tryz.av7 x.e x.r x.a x.p x.f x.b
   by_cases hlo:x.e<0
   ·have hbad:¬Up x 6:=fun h=>by have:=(ji h);omega
    go_wp2
    go_ret
    exact⟨gH (by rw[←HR.out];exact jl hbad),aj⟩
   ·by_cases hhi:1048576<x.e
    ·have hbad:¬Up x 6:=fun h=>by have:=(ji h);omega
     go_wp2
     go_ret
     exact⟨gH (by rw[←HR.out];exact jl hbad),aj⟩
    ·have hn:Hid (Up x 1):=hu.out.next (by simp[Pm.nums];omega) (by simp[Pm.nums,gG];omega)
     go_wp2
     go_round
     case rel=>exact⟨1,by omega,rfl,hn⟩
     case measure=>simp[intOf]
  ·have hix:=Tryz.avQ x.e x.r x.a x.p x.f x.b
   by_cases hlo:x.r<0
   ·have hbad:¬Up x 6:=fun h=>by have:=(ji h);omega
    go_wp2
    go_ret
    exact⟨gH (by rw[←HR.out];exact jl hbad),aj⟩
   ·by_cases hhi:3<x.r
    ·have hbad:¬Up x 6:=fun h=>by have:=(ji h);omega
     go_wp2
     go_ret
     exact⟨gH (by rw[←HR.out];exact jl hbad),aj⟩
    ·have hn:Hid (Up x 2):=hu.out.next (by simp[Pm.nums];omega) (by simp[Pm.nums,gG];omega)
     go_wp2
     go_round
     case rel=>exact⟨2,by omega,rfl,hn⟩
     case measure=>simp[intOf]
  ·have hix:=Tryz.auG x.e x.r x.a x.p x.f x.b
   by_cases hlo:x.a<0
   ·have hbad:¬Up x 6:=fun h=>by have:=(ji h);omega
    go_wp2
    go_ret
    exact⟨gH (by rw[←HR.out];exact jl hbad),aj⟩
   ·by_cases hhi:1048576<x.a
    ·have hbad:¬Up x 6:=fun h=>by have:=(ji h);omega
     go_wp2
     go_ret
     exact⟨gH (by rw[←HR.out];exact jl hbad),aj⟩
    ·have hn:Hid (Up x 3):=hu.out.next (by simp[Pm.nums];omega) (by simp[Pm.nums,gG];omega)
     go_wp2
     go_round
     case rel=>exact⟨3,by omega,rfl,hn⟩
     case measure=>simp[intOf]
  ·have hix:=Tryz.atU x.e x.r x.a x.p x.f x.b
   by_cases hlo:x.p<0
   ·have hbad:¬Up x 6:=fun h=>by have:=(ji h);omega
    go_wp2
    go_ret
    exact⟨gH (by rw[←HR.out];exact jl hbad),aj⟩
   ·by_cases hhi:4<x.p
    ·have hbad:¬Up x 6:=fun h=>by have:=(ji h);omega
     go_wp2
     go_ret
     exact⟨gH (by rw[←HR.out];exact jl hbad),aj⟩
    ·have hn:Hid (Up x 4):=hu.out.next (by simp[Pm.nums];omega) (by simp[Pm.nums,gG];omega)
     go_wp2
     go_round
     case rel=>exact⟨4,by omega,rfl,hn⟩
     case measure=>simp[intOf]
  ·have hix:=Tryz.avA x.e x.r x.a x.p x.f x.b
   by_cases hlo:x.f<0
   ·have hbad:¬Up x 6:=fun h=>by have:=(ji h);omega
    go_wp2
    go_ret
    exact⟨gH (by rw[←HR.out];exact jl hbad),aj⟩
   ·by_cases hhi:1048576<x.f
    ·have hbad:¬Up x 6:=fun h=>by have:=(ji h);omega
     go_wp2
     go_ret
     exact⟨gH (by rw[←HR.out];exact jl hbad),aj⟩
    ·have hn:Hid (Up x 5):=hu.out.next (by simp[Pm.nums];omega) (by simp[Pm.nums,gG];omega)
     go_wp2
     go_round
     case rel=>exact⟨5,by omega,rfl,hn⟩
     case measure=>simp[intOf]
  ·have hix:=Tryz.auu x.e x.r x.a x.p x.f x.b
   by_cases hlo:x.b<0
   ·have hbad:¬Up x 6:=fun h=>by have:=(ji h);omega
    go_wp2
    go_ret
    exact⟨gH (by rw[←HR.out];exact jl hbad),aj⟩
   ·by_cases hhi:1073741824<x.b
    ·have hbad:¬Up x 6:=fun h=>by have:=(ji h);omega
     go_wp2
     go_ret
     exact⟨gH (by rw[←HR.out];exact jl hbad),aj⟩
    ·have hn:Hid (Up x 6):=hu.out.next (by simp[Pm.nums];omega) (by simp[Pm.nums,gG];omega)
     go_wp2
     go_round
     case rel=>exact⟨6,by omega,rfl,hn⟩
     case measure=>simp[intOf]
  ·have hg:=hu.out
   go_wp2
   go_ret
   exact⟨gH (by rw[←HR.out];exact abS.2 hg),aj⟩
theorem kS {V:World}{R:Nat}{t:TypeId}{cs:Array Value}(hR:V.heap[R]? =some (.cells cs t (0,0)))(j:Nat)(u:Value):
  ∃V',V.setCell ⟨R,j,none⟩ u=V'∧V'.heap[R]? =some (.cells (cs.setIfInBounds j u) t (0,0))∧V.grownBy V' (some R)∧V.frozen? ⟨R,j,none⟩=false:=
 ⟨_,rfl,aI hR j u,aB _ _ _,aC hR j⟩
theorem awL {x:Pm.Pg}(h:x.r=1):(x.e==x.e&&x.r==x.r&&x.a==x.a&&x.p==0&&x.f==0&&x.b==0)=decide (Pm.Own x):=by
 rw[Bool.eq_iff_iff,decide_eq_true_iff];unfold Pm.Own;simp only[Bool.and_eq_true,beq_iff_eq,true_and,and_true];constructor<;>intro _<;>omega
theorem aw2 {x:Pm.Pg}(h:x.r=2):(x.e==x.e&&x.r==x.r&&x.a==0&&x.p==0&&x.f==0&&x.b==0)=decide (Pm.Own x):=by
 rw[Bool.eq_iff_iff,decide_eq_true_iff];unfold Pm.Own;simp only[Bool.and_eq_true,beq_iff_eq,true_and,and_true];constructor<;>intro _<;>omega
theorem awT {x:Pm.Pg}(h:x.r=3)(h':x.p=1):(x.e==x.e&&x.r==x.r&&x.a==0&&x.p==x.p&&x.f==0&&x.b==0)=decide (Pm.Own x):=by
 rw[Bool.eq_iff_iff,decide_eq_true_iff];unfold Pm.Own;simp only[Bool.and_eq_true,beq_iff_eq,true_and,and_true];constructor<;>intro _<;>omega
theorem awR {x:Pm.Pg}(h:x.r=3)(h':x.p=2∨x.p=3∨x.p=4):(x.e==x.e&&x.r==x.r&&x.a==0&&x.p==x.p&&x.f==x.f&&x.b==x.b)=decide (Pm.Own x):=by
 rw[Bool.eq_iff_iff,decide_eq_true_iff];unfold Pm.Own;simp only[Bool.and_eq_true,beq_iff_eq,true_and,and_true];constructor<;>intro _<;>omega
theorem awH {x:Pm.Pg}(h:x.r=3)(h2:x.p≠2)(h3:x.p≠3)(h4:x.p≠4)(h1:x.p≠1):false=decide (Pm.Own x):=by
 symm;rw[decide_eq_false_iff_not];unfold Pm.Own;omega
theorem awU {x:Pm.Pg}(h1:x.r≠1)(h2:x.r≠2)(h3:x.r≠3):false=decide (Pm.Own x):=by
 symm;rw[decide_eq_false_iff_not];unfold Pm.Own;omega
theorem adz (x:Pm.Pg)(w:World)(hx:eT x):
  Calls Tryz.prog 97 #[vp x] w fun E w'=>E=.returned (.bool (decide (Pm.Own x)))∧Below w.heap.size w w':=by
 unfold vp
 obtain⟨g1,g2,g3,g4,g5,g6,g7,g8,g9,g10,g11,g12⟩:=hx
 obtain⟨w1,hw1,aW,aj,hB⟩:=ak w #[.int .i64 x.e,.int .u8 x.r,.int .i64 x.a,.int .u8 x.p,.int .i64 x.f,.int .i64 x.b] 35
 obtain⟨a0,a1,a2,a3,a4,a5⟩:=aN hB
 obtain⟨w2,aaq,hw2,di,au,hC,_⟩:=xA w1 35 (.int .i64 0) (.int .u8 0) (.int .i64 0) (.int .u8 0) (.int .i64 0) (.int .i64 0) (.int .i64 x.e) (.int .u8 x.r) (.int .i64 0) (.int .u8 0) (.int .i64 0) (.int .i64 0)
 have hB2:=(au.block _ (ax hB)).trans hB
 rw[aW]at hC
 rw[aW]at aaq
 have aG:=aj.trans (au.mono (by omega))
 obtain⟨c0,c1,c2,c3,c4,c5⟩:=aN hB2
 obtain⟨d0,d1,d2,d3,d4,d5⟩:=aN hC
 have s2:w2.setCell ⟨w.heap.size+1,2,none⟩ (.int .i64 0)=w2:=aL hC (j:=2) rfl
 have s3:w2.setCell ⟨w.heap.size+1,3,none⟩ (.int .u8 0)=w2:=aL hC (j:=3) rfl
 have s4:w2.setCell ⟨w.heap.size+1,4,none⟩ (.int .i64 0)=w2:=aL hC (j:=4) rfl
 have s5:w2.setCell ⟨w.heap.size+1,5,none⟩ (.int .i64 0)=w2:=aL hC (j:=5) rfl
 have f2:=aC hC 2
 have f3:=aC hC 3
 have f4:=aC hC 4
 have f5:=aC hC 5
 obtain⟨r,hr⟩:∃r,decide (Pm.Own x)=r:=⟨_,rfl⟩
 rw[hr]
 have HR:=hide hr
 clear hr
 go_enter Tryz.func97,Tryz.ntmps97
 by_cases h1:x.r=1
 ·have h1':(x.r==1)=true:=by simp[h1]
  obtain⟨V,hV,bV,gV,_⟩:=kS hC 2 (.int .i64 x.a)
  obtain⟨e0,e1,e2,e3,e4,e5⟩:=aN (show V.heap[w.heap.size+1]? =some (.cells #[.int .i64 x.e,.int .u8 x.r,.int .i64 x.a,.int .u8 0,.int .i64 0,.int .i64 0] 35 (0,0))from bV)
  obtain⟨k0,k1,k2,k3,k4,k5⟩:=aN ((gV.block w.heap.size (by omega) (by simp)).trans hB2)
  have q:=Tryz.abW x.e x.r x.a x.p x.f x.b x.e x.r x.a 0 0 0
  rw[awL h1,HR.out]at q
  have bu:=aD aG gV (by omega) (by omega)
  clear h1 hB hC hB2 bV gV aG aj au
  go_wp2
  go_ret
  exact⟨rfl,bu⟩
 have h1':(x.r==1)=false:=by simpa using h1
 by_cases h2:x.r=2
 ·have h2':(x.r==2)=true:=by simp[h2]
  have q:=Tryz.abW x.e x.r x.a x.p x.f x.b x.e x.r 0 0 0 0
  rw[aw2 h2,HR.out]at q
  clear h1 h2 hB hC hB2 aj au
  go_wp2
  go_ret
  exact⟨rfl,aG⟩
 have h2':(x.r==2)=false:=by simpa using h2
 by_cases h3:x.r=3
 ·have h3':(x.r==3)=true:=by simp[h3]
  by_cases p1:x.p=1
  ·have p1':(x.p==1)=true:=by simp[p1]
   have p2':(x.p==2)=false:=by simp;omega
   have p3':(x.p==3)=false:=by simp;omega
   have p4':(x.p==4)=false:=by simp;omega
   obtain⟨V,hV,bV,gV,_⟩:=kS hC 3 (.int .u8 x.p)
   obtain⟨e0,e1,e2,e3,e4,e5⟩:=aN (show V.heap[w.heap.size+1]? =some (.cells #[.int .i64 x.e,.int .u8 x.r,.int .i64 0,.int .u8 x.p,.int .i64 0,.int .i64 0] 35 (0,0))from bV)
   obtain⟨k0,k1,k2,k3,k4,k5⟩:=aN ((gV.block w.heap.size (by omega) (by simp)).trans hB2)
   have q:=Tryz.abW x.e x.r x.a x.p x.f x.b x.e x.r 0 x.p 0 0
   rw[awT h3 p1,HR.out]at q
   have bu:=aD aG gV (by omega) (by omega)
   clear h1 h2 h3 p1 hB hC hB2 bV gV aG aj au
   go_wp2
   go_ret
   exact⟨rfl,bu⟩
  have p1':(x.p==1)=false:=by simpa using p1
  by_cases pp:x.p=2∨x.p=3∨x.p=4
  ·obtain⟨V4,hV4,bV4,xM,_⟩:=kS hC 4 (.int .i64 x.f)
   have b4:V4.heap[w.heap.size+1]? =some (.cells #[.int .i64 x.e,.int .u8 x.r,.int .i64 0,.int .u8 0,.int .i64 x.f,.int .i64 0] 35 (0,0)):=bV4
   have hB4:=(xM.block w.heap.size (by omega) (by simp)).trans hB2
   have lT:=xM.size
   obtain⟨l0,l1,l2,l3,l4,l5⟩:=aN hB4
   obtain⟨y0,y1,y2,y3,y4,y5⟩:=aN b4
   obtain⟨V5,hV5,bV5,wF,n5⟩:=kS b4 5 (.int .i64 x.b)
   have b5:V5.heap[w.heap.size+1]? =some (.cells #[.int .i64 x.e,.int .u8 x.r,.int .i64 0,.int .u8 0,.int .i64 x.f,.int .i64 x.b] 35 (0,0)):=bV5
   have jL:=(wF.block w.heap.size (by omega) (by simp)).trans hB4
   have aM:=aD aG xM (by omega) (by omega)
   have bn:=aD aM wF (by omega) (by omega)
   have sH:=wF.size
   obtain⟨V,hV,bV,gV,n3⟩:=kS (V:=V5.drew) b5 3 (.int .u8 x.p)
   obtain⟨e0,e1,e2,e3,e4,e5⟩:=aN (show V.heap[w.heap.size+1]? =some (.cells #[.int .i64 x.e,.int .u8 x.r,.int .i64 0,.int .u8 x.p,.int .i64 x.f,.int .i64 x.b] 35 (0,0))from bV)
   have szd:V5.drew.heap.size=V5.heap.size:=rfl
   obtain⟨k0,k1,k2,k3,k4,k5⟩:=aN ((gV.block w.heap.size (by omega) (by simp)).trans jL)
   have t3:V5.drew.cell? ⟨w.heap.size,3,none⟩=some (.int .u8 x.p):=ai (w:=V5.drew) jL 3 rfl
   have t33:V5.drew.cell? ⟨w.heap.size+1,3,none⟩=some (.int .u8 0):=ai (w:=V5.drew) b5 3 rfl
   have bu:=aD bn.drew gV (by omega) (by omega)
   have HH:=hide (And.intro hV (And.intro n3 (And.intro e0 (And.intro e1 (And.intro e2 (And.intro e3 (And.intro e4 (And.intro e5 (And.intro k0 (And.intro k1 (And.intro k2 (And.intro k3 (And.intro k4 (And.intro k5 (And.intro t3 t33)))))))))))))))
   clear hV n3 e0 e1 e2 e3 e4 e5 k0 k1 k2 k3 k4 k5 t3 t33 bV gV bn
   have q:=Tryz.abW x.e x.r x.a x.p x.f x.b x.e x.r 0 x.p x.f x.b
   rw[awR h3 pp,HR.out]at q
   rcases pp with pp|pp|pp
   ·have p2':(x.p==2)=true:=by simp[pp]
    clear h1 h2 h3 p1 pp hB hC hB2 bV4 xM b4 hB4 bV5 wF b5 jL aG aj au aM
    go_wp2
    go_region
    clear hV4 hV5 c0 c1 c2 c3 c4 c5 d0 d1 d2 d3 d4 d5 l0 l1 l2 l3 l4 l5 y0 y1 y2 y3 y4 y5 n5
    obtain⟨hV,n3,e0,e1,e2,e3,e4,e5,k0,k1,k2,k3,k4,k5,t3,t33⟩:=HH.out
    clear HH
    go_wp2
    go_ret
    exact⟨rfl,bu⟩
   ·have p2':(x.p==2)=false:=by simp;omega
    have p3':(x.p==3)=true:=by simp[pp]
    clear h1 h2 h3 p1 pp hB hC hB2 bV4 xM b4 hB4 bV5 wF b5 jL aG aj au aM
    go_wp2
    go_region
    clear hV4 hV5 c0 c1 c2 c3 c4 c5 d0 d1 d2 d3 d4 d5 l0 l1 l2 l3 l4 l5 y0 y1 y2 y3 y4 y5 n5
    obtain⟨hV,n3,e0,e1,e2,e3,e4,e5,k0,k1,k2,k3,k4,k5,t3,t33⟩:=HH.out
    clear HH
    go_wp2
    go_ret
    exact⟨rfl,bu⟩
   ·have p2':(x.p==2)=false:=by simp;omega
    have p3':(x.p==3)=false:=by simp;omega
    have p4':(x.p==4)=true:=by simp[pp]
    clear h1 h2 h3 p1 pp hB hC hB2 bV4 xM b4 hB4 bV5 wF b5 jL aG aj au aM
    go_wp2
    go_region
    clear hV4 hV5 c0 c1 c2 c3 c4 c5 d0 d1 d2 d3 d4 d5 l0 l1 l2 l3 l4 l5 y0 y1 y2 y3 y4 y5 n5
    obtain⟨hV,n3,e0,e1,e2,e3,e4,e5,k0,k1,k2,k3,k4,k5,t3,t33⟩:=HH.out
    clear HH
    go_wp2
    go_ret
    exact⟨rfl,bu⟩
  ·have p2':(x.p==2)=false:=by simp;omega
   have p3':(x.p==3)=false:=by simp;omega
   have p4':(x.p==4)=false:=by simp;omega
   have q:=awH h3 (by omega) (by omega) (by omega) p1
   rw[HR.out]at q
   subst q
   clear h1 h2 h3 p1 pp hB hC hB2 aj au HR
   go_wp2
   go_ret
   exact⟨rfl,aG⟩
 ·have h3':(x.r==3)=false:=by simpa using h3
  have q:=awU h1 h2 h3
  rw[HR.out]at q
  subst q
  clear h1 h2 h3 hB hC hB2 aj au HR
  go_wp2
  go_ret
  exact⟨rfl,aG⟩
theorem qN (x:Pm.Pg):(x.e<1→Pm.chk x=2)∧(¬Up x 6→Pm.chk x=2)∧(¬Pm.Own x→Pm.chk x=2)∧(¬x.e<1→Up x 6→Pm.Own x→Pm.chk x=0):=by
 refine⟨fun h=>Pm.iD fun ho=>?_,fun h=>Pm.iD fun ho=>h ?_,fun h=>Pm.iD fun ho=>h ho.2,fun h1 h2 h3=>Pm.ib ⟨?_,h3⟩⟩
 ·have:=Pm.kG ho;omega
 ·have:=Pm.kG ho
  intro i hi
  obtain rfl|rfl|rfl|rfl|rfl|rfl:i=0∨i=1∨i=2∨i=3∨i=4∨i=5:=by omega
  all_goals simp[Pm.nums,gG];omega
 ·have:=ji h2
  unfold Pm.Bnd
  omega
theorem iZ (x:Pm.Pg)(w:World)(hx:eT x)(hm:fQ w):
  Calls Tryz.prog 43 #[vp x] w fun E w'=>E=.returned (.int .i64 (Pm.chk x))∧Below w.heap.size w w':=by
 obtain⟨t1,t2,t3,t4⟩:=qN x
 obtain⟨w1,hw1,aW,aj,hB⟩:=ak w #[.int .i64 x.e,.int .u8 x.r,.int .i64 x.a,.int .u8 x.p,.int .i64 x.f,.int .i64 x.b] 35
 have HV:Hid (vp x=.agg #[.int .i64 x.e,.int .u8 x.r,.int .i64 x.a,.int .u8 x.p,.int .i64 x.f,.int .i64 x.b]):=rfl
 obtain⟨c0,c1,c2,c3,c4,c5⟩:=aN hB
 have HB:=hide hB
 have HM:=hide (hm.below aj)
 have g:=hx
 obtain⟨ch,hch⟩:∃c,Pm.chk x=c:=⟨_,rfl⟩
 rw[hch]at t1 t2 t3 t4⊢
 have T1:=hide t1;have T2:=hide t2;have T3:=hide t3;have T4:=hide t4
 rw[HV.out]
 clear hB hm hch t1 t2 t3 t4
 obtain⟨g1,g2,g3,g4,g5,g6,g7,g8,g9,g10,g11,g12⟩:=g
 have HX:=hide hx
 clear hx
 go_enter Tryz.func43,Tryz.ntmps43
 by_cases h1:x.e<1
 ·have q:=T1.out h1
  subst q
  clear T1 T2 T3 T4
  go_wp2
  go_ret
  exact⟨rfl,aj⟩
 go_wp2_with fail
 refine(vK x _ HX.out).mono ?_
 rintro E w2 ⟨rfl,au⟩
 have di:=au.size
 have hB2:=(au.block _ (by omega)).trans HB.out
 have HM2:=hide (HM.out.below au)
 have aO:=aj.trans (au.mono (by omega))
 have HB2:=hide hB2
 clear HB HM hB2 c0 c1 c2 c3 c4 c5
 go_wp2_with fail
 refine(aeI x _ HX.out HM2.out).mono ?_
 rintro E w3 ⟨rfl,aF⟩
 have bP:=aF.size
 have hB3:=(aF.block _ (by omega)).trans HB2.out
 have bg:=aO.trans (aF.mono (by omega))
 obtain⟨c0,c1,c2,c3,c4,c5⟩:=aN hB3
 clear HB2 hB3 aj au aF aO
 by_cases h2:Up x 6
 ·rw[abS.2 h2]
  have H2:=hide h2
  clear h2
  go_wp2_with fail
  refine(adz x _ HX.out).mono ?_
  rintro E w4 ⟨rfl,aM⟩
  have dQ:=bg.trans (aM.mono (by omega))
  by_cases h3:Pm.Own x
  ·rw[decide_eq_true h3]
   have q:=T4.out h1 H2.out h3
   subst q
   clear h3 T1 T2 T3 T4
   go_wp2
   go_ret
   exact⟨rfl,dQ⟩
  ·rw[decide_eq_false h3]
   have q:=T3.out h3
   subst q
   clear h3 T1 T2 T3 T4
   go_wp2
   go_ret
   exact⟨rfl,dQ⟩
 ·rw[jl h2]
  have q:=T2.out h2
  subst q
  clear h2 T1 T2 T3 T4
  go_wp2
  go_ret
  exact⟨rfl,bg⟩
namespace Bm
open Vm Om
def LA (bs:List Int) (a0 c:Nat) (l:List Ov) (a:Nat) (bad:Bool) (ah:List UInt8):Prop:=
 (bad=false∧c≤8∧enc c<+:bs.drop a0∧eu [] l<+:bs.drop (a0+sz c)∧a=a0+sz c+(eu [] l).length∧ah=ay [] l∧∀o∈l,o.shape)∨(bad=true∧NB (bs.drop a0))
def NX (bs:List Int) (a:Nat) (bad:Bool) (l:List Ov) (a':Nat) (bad':Bool):Prop:=
 (bad=true∧bad'=true∧l=[])∨(bad=false∧((bad'=false∧aey (bs.drop a) l ((a':Int)-a) 0)∨(bad'=true∧l=[]∧aey (bs.drop a) [] 0 5)))
end Bm
section
variable {P:Program} {w:World}
theorem jX (t ty e:TypeId)(base:Nat)(ht:P.underlying t=some (.slice e))(hinfo:(P.info? e).map (fun i=>(i.zero,i.size,i.bytes))=some (some (.agg #[.int .i64 0,.int .i64 0,.slice none 0 0]),3,40))
  (v:Value) (l:List Cw) (hown:bD e base w v l) (vx:Value) (m:List Cw) (his:eX w vx m) (hone:∀c∈m,c.v.oneCell'=true) (hlen:(l.length+m.length)*40≤140737488355328) (hbase:base≤w.heap.size):
  ∃v' w',(Builtin.append_ #[t,t] ty #[v,vx]).run P w=.ok v' w'∧bD e base w' v' (l++m)∧w.grownBy w' v.ownBlock∧(v'.ownBlock=v.ownBlock∨v'.ownBlock=some w.heap.size):=by
 obtain⟨i,hi,hz,hsize,hb⟩:=info_parts hinfo
 rcases his with⟨hv,hy⟩|⟨ad,cap,hv,h1,h2,hc⟩
 ·subst hy hv
  have hrun:=run_append_owned_none (P:=P) (w:=w) base t ty e i 3 ht hi v l.length _ hown
  exact⟨v,w,hrun,by simpa using hown,World.grownBy.refl _ _,.inl rfl⟩
 ·subst hv
  obtain⟨v',w',hr,h3,h4,_,h5⟩:=run_append_own_at (P:=P) w base t ty e i _ 3 40 ht hi hz hsize hb rfl (by decide) v l.length _ hown ad m.length cap (ccells m) (pM m) hc (nJ m hone) (by unfold maxLen;omega) hlen hbase
  exact⟨v',w',hr,by unfold bD;rw[uU,List.length_append];exact h3,h4,h5⟩
end
end Go.Proofs.YtjemlgdkjilnoaaGreatDoor
