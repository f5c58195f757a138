/- Texts of one layer, one behind the other. -/
import Derived.Test.YtlmkaljjocflmaaGreatDoorAH1
import Derived.Lib.SliceRun
import Derived.Test.YtlmkaljjocflmaaGreatDoorAG2
import Derived.Deep.RegionHeld
import Derived.KernelRfl
import Derived.OrdersIn
import Derived.Test.YtlmkaljjocflmaaGreatDoorProg
set_option maxRecDepth 100000
set_option maxHeartbeats 8000000
namespace Go.Proofs.YtlmkaljjocflmaaGreatDoor
open Go.RowKit
set_option linter.unusedVariables false
theorem Tryz.apG (w:World)(a:Option Addr)(n c:Nat):(binOp .eql 61 (.slice a n c) (.slice none 0 0)).run Tryz.prog w=.ok (.bool a.isNone) w:=Lib.run_eql_slice_nil w 61 5 a n c 0 0 Tryz.underlying61
theorem nZ (v:Value)(bs:List Int)(w:World)(h:Is .u8 w v bs)(hl:bs.length≤140737488355328):
  Calls Tryz.prog 69 #[v] w fun E w'=>∃v',E=.returned v'∧Own .u8 5 w.heap.size w' v' bs∧Below w.heap.size w w':=by
 rcases h.2 with⟨hv,hz⟩|⟨ad,cap,hv,h1,h2,hc⟩
 ·subst hz hv
  have hq:=Tryz.apG w none 0 0
  clear h
  go_enter Tryz.func69,Tryz.ntmps69
  go_wp2
  go_ret
  exact⟨_,rfl,Own.nil _ _ _ _,Below.refl _ _⟩
 ·obtain⟨w1,hw1,aT,ak,aZ⟩:=jQ .u8 5 w #[] 0 [] rfl rfl (by simp) (by simp)
  have hq:=Tryz.apG w (some ad) bs.length cap
  simp only[Option.isNone_some]at hq
  have h1':=h.below ak
  subst hv
  have X:Hid (∀ty,∃v' w',(Builtin.append_ #[61,61] ty #[.slice (some ⟨w.heap.size,0,none⟩) 0 0,.slice (some ad) bs.length cap]).run Tryz.prog w1=.ok v' w'∧(Own .u8 5 w.heap.size w' v' bs∧Below w.heap.size w w')):=hide fun ty=>by
   obtain⟨v',w',hr,ho,hg,_⟩:=ig (P:=Tryz.prog) 61 ty .u8 5 w.heap.size 1 Tryz.underlying61 Tryz.info5 (by decide) _ [] aZ _ bs h1' (by simp;omega) (by omega)
   exact⟨v',w',hr,by simpa using ho,ak.grown hg (by omega) fun k hk=>by simp[Value.ownBlock]at hk;omega⟩
  clear aZ h1' h hc
  go_enter Tryz.func69,Tryz.ntmps69
  go_wp2_with (at_builtin;refine kL rfl (.tmp 5) (.tmp 6) 61 rfl _ _ rfl rfl X.out ?_)
  intro v2 w2 aY az
  go_wp2
  go_ret
  exact⟨_,rfl,aY,az⟩
def Byt (F:Nat→Prop) (w:World) (v:Value) (zs:List Int):Prop:=Is .u8 w v zs∧∀b,v.ownBlock=some b→F b∧∃cs fr,w.heap[b]? =some (.cells cs 5 fr)
theorem Byt.agree {F:Nat→Prop}{w w':World}{v:Value}{zs:List Int}(h:Byt F w v zs)(ha:∀b,v.ownBlock=some b→w'.heap[b]? =w.heap[b]?):Byt F w' v zs:=
 ⟨h.1.agree ha,fun b hb=>⟨(h.2 b hb).1,by obtain⟨_,cs,fr,hc⟩:=h.2 b hb;exact⟨cs,fr,(ha b hb).trans hc⟩⟩⟩
structure Rv where
 file:Nat
 cut:Bool
 to:Nat
 v:Value
 bytes:List Int
def Rv.r (r:Rv):Dm.Rw:=⟨r.file,r.cut,r.to,r.bytes⟩
section
variable {p:Nat} {F G:Nat→Prop} {w w' w1 w2:World} {st st':Dm.Ds} {s s':Nat→Value} {wv wv':Value} {rs rs':List Rv}
end
def ask (st:Dm.Ds):Int:=if st.on then 0 else 6
theorem wH {st:Dm.Ds}(h:st.on=true):ask st=0:=by simp[ask,h]
theorem wV {st:Dm.Ds}(h:st.on=false):ask st=6:=by simp[ask,h]
theorem rM (g:Nat):∀(vs:List Value) (o:Nat) (w:World),w.grownBy (w.setCells g o vs) (some g)
 |[],_,w=>World.grownBy.refl _ _
 |v::r,o,w=>aI (ax w ⟨g,o,none⟩ v) (rM g r (o+1) _)
theorem rH {g:Nat}{t:TypeId}{fr:Nat×Nat}:∀(vs:List Value) (o:Nat) (w:World) (cur:Array Value),w.heap[g]? =some (.cells cur t fr)→∃cur',(w.setCells g o vs).heap[g]? =some (.cells cur' t fr)∧cur'.size=cur.size∧∀j,j<o→cur'[j]? =cur[j]?
 |[],_,w,cur,h=>⟨cur,h,rfl,fun _ _=>rfl⟩
 |v::r,o,w,cur,h=>by
  obtain⟨cur',h1,h2,h3⟩:=rH r (o+1) (w.setCell ⟨g,o,none⟩ v) _ (aG h o v)
  refine⟨cur',h1,by rw[h2];simp,fun j hj=>?_⟩
  rw[h3 j (by omega),Array.getElem?_setIfInBounds,if_neg (by omega)]
theorem adR {w:World}{base e size g n cap:Nat}{xs:List Value}(h:w.ownsRow base e size (.slice (some ⟨g,0,none⟩) n cap) n xs)(o:Nat)(ho:n*size≤o)(vs:List Value):(w.setCells g o vs).ownsRow base e size (.slice (some ⟨g,0,none⟩) n cap) n xs:=by
 refine⟨h.1,?_⟩
 rcases h.2 with⟨h',_⟩|⟨g',cap',cur,h',hb,hg,hnc,hcm,hcs,htake⟩
 ·simp at h'
 ·simp only[Value.slice.injEq,Option.some.injEq,Addr.mk.injEq,and_true,true_and]at h'
  obtain⟨rfl,rfl⟩:=h'
  obtain⟨cur',h1,h2,h3⟩:=rH vs o w cur hg
  refine .inr ⟨g,cap,cur',rfl,hb,h1,hnc,hcm,by rw[h2,hcs],?_⟩
  rw[←htake]
  apply List.ext_getElem?
  intro i
  rw[List.getElem?_take,List.getElem?_take]
  split
  ·rw[Array.getElem?_toList,Array.getElem?_toList,h3 i (by omega)]
  ·rfl
theorem aaX {P:Program}{n:Nat}(w:World)(t e ty:TypeId)(z:Value)(ht:P.underlying t=some (.slice e))(hv:∀w,(zeroValue e).run P w=.ok z w)(h1:∀u∈(Builtin.zeroCells z.cells n).toList,u.oneCell'=true)(b o c:Nat)(hn:0<n)
  (hc:∀j,j<(Builtin.zeroCells z.cells n).toList.length→(w.cell? ⟨b,o+j,none⟩).isSome=true) (hf:∀j,j<(Builtin.zeroCells z.cells n).toList.length→w.frozen? ⟨b,o+j,none⟩=false):
  (Builtin.clear_ #[t] ty #[.slice (some ⟨b,o,none⟩) n c]).run P w=.ok (.tuple #[]) (w.setCells b o (Builtin.zeroCells z.cells n).toList):=by
 have hst:=run_storeCells_cells (P:=P) b o (Builtin.zeroCells z.cells n).toList 0 w (by simpa using hc) (by simpa using hf) h1
 simp only[Nat.add_zero]at hst
 obtain⟨m,rfl⟩:∃m,n=m+1:=⟨n-1,by omega⟩
 simp[Builtin.clear_,run_underlying ht,hv,hst]
theorem ac2 (z:Array Value)(n:Nat):(Builtin.zeroCells z n).toList.length=n*z.size:=by
 rw[Array.length_toList,size_zeroCells]
theorem ac0 {z:Array Value}(n:Nat)(hz:∀u∈z,u.oneCell'=true):∀u∈(Builtin.zeroCells z n).toList,u.oneCell'=true:=by
 intro u hu
 unfold Builtin.zeroCells at hu
 rw[Array.toList_map,Array.toList_range,List.mem_map]at hu
 obtain⟨i,hi,rfl⟩:=hu
 rw[List.mem_range]at hi
 have h0:0<z.size:=Nat.pos_of_ne_zero fun h=>by rw[h]at hi;simp at hi
 have hlt:i % z.size<z.size:=Nat.mod_lt _ h0
 rw[getElem!_pos z _ hlt]
 exact hz _ (Array.getElem_mem hlt)
section
variable {α:Type} {P:Program} {w:World} {v:Value}
theorem iA.iN {f:α→List Value}{k:Nat}(hk:∀a,(f a).length=k){l:List α}(h:iA f w v l){t:TypeId}(ht:P.underlying t=some (.slice (P.elem t)))(hs:∀wx,(sizeOf (P.elem t)).run P wx=.ok k wx)(p:Nat)(hp:p≤l.length):
  ∃vs,(∀wx,(Instr.slice t v (some (.int .i64 p)) none none).run P wx=.ok vs wx)∧iA f w vs (l.drop p):=by
 have hlen:(l.drop p).length=l.length-p:=by rw[List.length_drop]
 rcases h with⟨hv,hz⟩|⟨ad,cap,hv,h1,h2,hc⟩
 ·subst hz hv
  obtain rfl:p=0:=by simpa using hp
  refine⟨.slice none 0 0,fun wx=>?_,iA.nil _ _⟩
  rw[run_slice_l wx t none 0 0 ht .i64 _ (by omega) (by omega)]
  simp[Result.andThen,sliced,hs]
 ·subst hv
  by_cases hcl:cap=p
  ·refine⟨.slice (some ad) (l.length-p) (cap-p),fun wx=>?_,.inr ⟨ad,cap-p,by rw[hlen],by rw[hlen];omega,by omega,fun j u hj=>?_⟩⟩
   ·rw[run_slice_l wx t (some ad) l.length cap ht .i64 _ (by omega) (by omega),hs]
    simp[Result.andThen,sliced,hcl]
   ·rw[List.drop_eq_nil_of_le (by omega)]at hj
    simp[gcells]at hj
  ·refine⟨.slice (some (ad.add (p*k))) (l.length-p) (cap-p),fun wx=>?_,.inr ⟨ad.add (p*k),cap-p,by rw[hlen],by rw[hlen];omega,by omega,fun j u hj=>?_⟩⟩
   ·rw[run_slice_l wx t (some ad) l.length cap ht .i64 _ (by omega) (by omega),hs]
    simp[Result.andThen,sliced,hcl]
   ·have e:(ad.add (p*k)).add j=ad.add (p*k+j):=by
     unfold Addr.add
     by_cases h0:p*k=0<;>by_cases h3:j=0<;>simp[h0,h3,Nat.add_assoc]
    rw[yu hk,List.getElem?_drop]at hj
    rw[e]
    exact hc _ u hj
end
def jU (k:Nat):Code→Array Oper
 |.region id ops _=>if id=k then ops else #[]
 |.seq a b=>if (jU k a).size=0 then jU k b else jU k a
 |.scope a=>jU k a
 |.block _ a=>jU k a
 |.loop a=>jU k a
 |.cond _ a b=>if (jU k a).size=0 then jU k b else jU k a
 |.rangeFunc _ _ a b=>if (jU k a).size=0 then jU k b else jU k a
 |_=>#[]
def ay (k:Nat) (f:Func):Array Oper:=match f.body with
 |some c=>jU k c
 |none=>#[]
def aj (n m:Nat):Array Bool:=((List.range n).map (fun j=>m.testBit j)).toArray
section
variable {P:Program} {ops:Array Oper} {Q:Exit→Act→World→Prop} {S:World→Prop} {md:Region.Mode}
def seqW (P:Program) (ops:Array Oper) (Q:Exit→Act→World→Prop) (S:World→Prop):List (Bool×Nat)→Act→World→Prop
 |[],a,w=>Q .normal a w
 |(true,i)::r,a,w=>∃oi v t,ops[i]? =some oi∧oi.dst=some t∧YieldsIf P ops S oi v a∧seqW P ops Q S r (a.put (some t) v) w
 |(false,i)::r,a,w=>wpOp P ops Q i (fun a' w'=>S w'∧seqW P ops Q S r a' w') a w
def Way (md:Region.Mode) (ops:Array Oper):Array Bool→List (Bool×Nat)→Prop
 |L,[]=>Region.ready md ops L=[]
 |L,(true,i)::r=>∃L',(Region.free md ops L i=true∧(Region.ready md ops L).contains i=true∧L.setIfInBounds i true=L')∧Way md ops L' r
 |L,(false,i)::r=>∃L',(Region.ready md ops L=[i]∧L.setIfInBounds i true=L')∧Way md ops L' r
theorem Way.done {L:Array Bool}(h:Region.ready md ops L=[]):Way md ops L []:=h
theorem Way.take {L L':Array Bool}{i:Nat}{r:List (Bool×Nat)}(h:Region.free md ops L i=true∧(Region.ready md ops L).contains i=true∧L.setIfInBounds i true=L')(k:Way md ops L' r):Way md ops L ((true,i)::r):=⟨L',h,k⟩
theorem Way.meet {L L':Array Bool}{i:Nat}{r:List (Bool×Nat)}(h:Region.ready md ops L=[i]∧L.setIfInBounds i true=L')(k:Way md ops L' r):Way md ops L ((false,i)::r):=⟨L',h,k⟩
theorem yV (hs:Region.noSelect ops=true)(hQ:∀c a t v w,Q (.panic c) (Act.put a (some t) v) w→Q (.panic c) a w):∀(l:List (Bool×Nat)) (L:Array Bool) (a:Act) (w:World),Way md ops L l→S w→seqW P ops Q S l a w→wpAnyH P md ops Q S l.length L a w
 |[],L,a,w,hr,hS,h=>⟨hr,h⟩
 |(true,i)::r,L,a,w,⟨L',⟨h1,h2,h3⟩,k⟩,hS,⟨oi,v,t,e1,e0,e2,e3⟩=>wpAnyH_take e1 hs h1 h2 (by rw[e0];exact fun c a w=>hQ c a _ _ w) e2 hS (by rw[h3,e0];exact yV hs hQ r _ _ _ k hS e3)
 |(false,i)::r,L,a,w,⟨L',⟨h1,h3⟩,k⟩,hS,h=>wpAnyH_all h1 (by simp) (fun j hj=>by
   rw[List.mem_singleton.1 hj]
   exact wpOp_mono (fun a' w' h'=>⟨h'.1,by rw[h3];exact yV hs hQ r _ a' w' k h'.1 h'.2⟩) h)
theorem adz {i:Nat}{o:Oper}(h:(ops.toList.drop i).head? =some o):ops[i]? =some o:=by
 rw[List.head?_drop]at h
 simpa using h
theorem gI {i:Nat}{r:List (Bool×Nat)}{a:Act}{w:World}{oi:Oper}{v:Value}{t:Tmp}(hi:(ops.toList.drop i).head? =some oi)(ht:oi.dst=some t)(hw:Region.wanted oi (yielded ops a.tmps)=true)(hy:∀w,S w→(execOp a.eval oi).run P w=.ok (.value v) w)(h:seqW P ops Q S r (a.put (some t) v) w):seqW P ops Q S ((true,i)::r) a w:=⟨oi,v,t,adz hi,ht,.inl ⟨hw,hy⟩,h⟩
theorem yC {i:Nat}{r:List (Bool×Nat)}{a:Act}{w:World}{o:Oper}(ho:(ops.toList.drop i).head? =some o)(hw:Region.wanted o (yielded ops a.tmps)=true)(h:∀K':Act→World→Prop,Shut (∀a w,S w→seqW P ops Q S r a w→K' a w)→Oper.wp P o a w K' Q):seqW P ops Q S ((false,i)::r) a w:=
 wpOp_step (adz ho) (fun K' hK=>by
  rw[if_pos hw]
  exact h K' (fun a w hS hW=>hK a w ⟨hS,hW⟩))
end
def yt (o:Oper):Bool:=match o.op with
 |.move _=>true
 |.assign _=>true
 |.load _ _=>true
 |.store _ _ _=>true
 |.fieldAddr _ _ _=>true
 |.indexAddr _ _ _=>true
 |_=>false
section
variable {F:Fence} {n:Nat} {P:Program} {ops:Array Oper} {Q:Exit→Act→World→Prop} {S:World→Prop} {md:Region.Mode}
theorem abS {o:Oper}(h:yt o=true)(w:World)(ρ:Operand→Value):o.about P w ρ=none:=by
 unfold Oper.about
 unfold yt at h
 cases ho:o.op<;>rw[ho]at h<;>first|rfl|cases h
theorem anU {o:Oper}(h:yt o=true){a:Act}{w:World}{K:Act→World→Prop}(hw:Oper.wp P o a w K Q):Oper.wpIn F n P o a w K Q:=by
 refine⟨fun f hf=>(by rw[abS h]at hf;cases hf),?_⟩
 rw[Oper.semAt_eq _ _ _ (fun c hc=>by unfold yt at h;rw[hc]at h;cases h)]
 unfold Oper.wp at hw
 unfold yt at h
 unfold execOp at hw⊢
 cases ho:o.op<;>rw[ho]at h<;>try (cases h;done)
 all_goals
  simp only[ho,Sem.run_bind,Sem.run_pure]at hw⊢
 ·exact hw
 ·exact hw
 all_goals
  generalize Sem.run P _ w=r at hw⊢
  cases r with
  |ok x w'=>exact hw
  |halt x w'=>cases x<;>exact hw
theorem ahY (hL:¬LetsOut Q)(hp:∀(i:Nat) (o:Oper),ops[i]? =some o→yt o=true){i:Nat}{K:Act→World→Prop}{a:Act}{w:World}(h:wpOp P ops Q i K a w):wpOpIn F n P ops Q i K a w:=by
 unfold wpOp at h
 unfold wpOpIn
 cases ho:ops[i]? with
 |none=>rw[ho]at h;exact h
 |some o=>
  rw[ho]at h
  simp only at h⊢
  split
  ·rename_i hw
   rw[if_pos hw]at h
   rcases h with h|h
   ·exact anU (hp i o ho) h
   ·exact absurd h.2 hL
  ·rename_i hw
   rw[if_neg hw]at h
   exact⟨fun f hf=>(by rw[abS (hp i o ho)]at hf;cases hf),h⟩
theorem ab0 (hL:¬LetsOut Q)(hp:∀(i:Nat) (o:Oper),ops[i]? =some o→yt o=true):∀(fuel:Nat) (L:Array Bool) (a:Act) (w:World),wpAny P md ops Q fuel L a w→wpAnyIn F n P md ops Q fuel L a w
 |0,_,_,_,h=>h
 |fuel+1,L,a,w,h=>⟨h.1,fun i hi=>wpOpIn_mono (fun a' w' h'=>ab0 hL hp fuel _ a' w' h') (ahY hL hp (h.2 i hi))⟩
theorem arB (h:ops.toList.all yt=true):∀(i:Nat) (o:Oper),ops[i]? =some o→yt o=true:=fun i o ho=>List.all_eq_true.1 h o (by
 rw[←Array.getElem?_toList]at ho
 exact List.mem_of_getElem? ho)
theorem aeh {id:Nat}{a:Act}{w:World}(hm:P.follows .mixedOrders=true)(hs:Region.noSelect ops=true)(hp:ops.toList.all yt=true)(hL:¬LetsOut Q)(hQ:∀c a t v w,Q (.panic c) (Act.put a (some t) v) w→Q (.panic c) a w)(l:List (Bool×Nat))(hl:l.length=ops.size)(hw:Way .any ops (Array.replicate ops.size false) l)(hS:S w.drew)(h:seqW P ops Q S l a w.drew):(Code.region id ops true).wpIn F n P Q a w:=by
 refine wpIn_region_any hm (ab0 hL (arB hp) _ _ _ _ (wpAny_of_held (S:=S) _ _ _ _ ?_))
 have:=yV hs hQ l _ a w.drew hw hS h
 rw[hl]at this
 exact this
end
theorem aqM:Region.free .any (ay 7 Tryz.f287) (aj 15 0) 0=true∧(Region.ready .any (ay 7 Tryz.f287) (aj 15 0)).contains 0=true∧(aj 15 0).setIfInBounds 0 true=aj 15 1:=⟨by kernel_rfl,by kernel_rfl,by kernel_rfl⟩
theorem arn:Region.free .any (ay 7 Tryz.f287) (aj 15 1) 1=true∧(Region.ready .any (ay 7 Tryz.f287) (aj 15 1)).contains 1=true∧(aj 15 1).setIfInBounds 1 true=aj 15 3:=⟨by kernel_rfl,by kernel_rfl,by kernel_rfl⟩
theorem aqL:Region.free .any (ay 7 Tryz.f287) (aj 15 3) 2=true∧(Region.ready .any (ay 7 Tryz.f287) (aj 15 3)).contains 2=true∧(aj 15 3).setIfInBounds 2 true=aj 15 7:=⟨by kernel_rfl,by kernel_rfl,by kernel_rfl⟩
theorem arC:Region.free .any (ay 7 Tryz.f287) (aj 15 7) 3=true∧(Region.ready .any (ay 7 Tryz.f287) (aj 15 7)).contains 3=true∧(aj 15 7).setIfInBounds 3 true=aj 15 15:=⟨by kernel_rfl,by kernel_rfl,by kernel_rfl⟩
theorem aqK:Region.free .any (ay 7 Tryz.f287) (aj 15 15) 4=true∧(Region.ready .any (ay 7 Tryz.f287) (aj 15 15)).contains 4=true∧(aj 15 15).setIfInBounds 4 true=aj 15 31:=⟨by kernel_rfl,by kernel_rfl,by kernel_rfl⟩
theorem aqF:Region.free .any (ay 7 Tryz.f287) (aj 15 31) 5=true∧(Region.ready .any (ay 7 Tryz.f287) (aj 15 31)).contains 5=true∧(aj 15 31).setIfInBounds 5 true=aj 15 63:=⟨by kernel_rfl,by kernel_rfl,by kernel_rfl⟩
theorem aqZ:Region.free .any (ay 7 Tryz.f287) (aj 15 63) 6=true∧(Region.ready .any (ay 7 Tryz.f287) (aj 15 63)).contains 6=true∧(aj 15 63).setIfInBounds 6 true=aj 15 127:=⟨by kernel_rfl,by kernel_rfl,by kernel_rfl⟩
theorem arE:Region.free .any (ay 7 Tryz.f287) (aj 15 127) 7=true∧(Region.ready .any (ay 7 Tryz.f287) (aj 15 127)).contains 7=true∧(aj 15 127).setIfInBounds 7 true=aj 15 255:=⟨by kernel_rfl,by kernel_rfl,by kernel_rfl⟩
theorem aqW:Region.free .any (ay 7 Tryz.f287) (aj 15 255) 8=true∧(Region.ready .any (ay 7 Tryz.f287) (aj 15 255)).contains 8=true∧(aj 15 255).setIfInBounds 8 true=aj 15 511:=⟨by kernel_rfl,by kernel_rfl,by kernel_rfl⟩
theorem aqn:Region.free .any (ay 7 Tryz.f287) (aj 15 511) 9=true∧(Region.ready .any (ay 7 Tryz.f287) (aj 15 511)).contains 9=true∧(aj 15 511).setIfInBounds 9 true=aj 15 1023:=⟨by kernel_rfl,by kernel_rfl,by kernel_rfl⟩
theorem anF:Region.free .any (ay 7 Tryz.f287) (aj 15 1023) 10=true∧(Region.ready .any (ay 7 Tryz.f287) (aj 15 1023)).contains 10=true∧(aj 15 1023).setIfInBounds 10 true=aj 15 2047:=⟨by kernel_rfl,by kernel_rfl,by kernel_rfl⟩
theorem am5:Region.free .any (ay 7 Tryz.f287) (aj 15 2047) 11=true∧(Region.ready .any (ay 7 Tryz.f287) (aj 15 2047)).contains 11=true∧(aj 15 2047).setIfInBounds 11 true=aj 15 4095:=⟨by kernel_rfl,by kernel_rfl,by kernel_rfl⟩
theorem amB:Region.ready .any (ay 7 Tryz.f287) (aj 15 4095)=[12]∧(aj 15 4095).setIfInBounds 12 true=aj 15 8191:=⟨by kernel_rfl,by kernel_rfl⟩
theorem an8:Region.ready .any (ay 7 Tryz.f287) (aj 15 8191)=[13]∧(aj 15 8191).setIfInBounds 13 true=aj 15 16383:=⟨by kernel_rfl,by kernel_rfl⟩
theorem ana:Region.ready .any (ay 7 Tryz.f287) (aj 15 16383)=[14]∧(aj 15 16383).setIfInBounds 14 true=aj 15 32767:=⟨by kernel_rfl,by kernel_rfl⟩
def wT:List (Bool×Nat):=[(true,0),(true,1),(true,2),(true,3),(true,4),(true,5),(true,6),(true,7),(true,8),(true,9),(true,10),(true,11),(false,12),(false,13),(false,14)]
theorem aqX:Region.ready .any (ay 7 Tryz.f287) (aj 15 32767)=[]:=by kernel_rfl
theorem aqJ:Way .any (ay 7 Tryz.f287) (Array.replicate (ay 7 Tryz.f287).size false) wT:=by
 have e:Array.replicate (ay 7 Tryz.f287).size false=aj 15 0:=by kernel_rfl
 rw[e]
 unfold wT
 refine .take aqM ?_
 refine .take arn ?_
 refine .take aqL ?_
 refine .take arC ?_
 refine .take aqK ?_
 refine .take aqF ?_
 refine .take aqZ ?_
 refine .take arE ?_
 refine .take aqW ?_
 refine .take aqn ?_
 refine .take anF ?_
 refine .take am5 ?_
 refine .meet amB ?_
 refine .meet an8 ?_
 refine .meet ana ?_
 exact .done aqX
section
variable {P:Program} {ops:Array Oper} {Q:Exit→Act→World→Prop} {S:World→Prop}
theorem aD {L L':Array Bool}{i n:Nat}{a:Act}{w:World}{oi:Oper}{v:Value}{t:Tmp}(st:Region.free .any ops L i=true∧(Region.ready .any ops L).contains i=true∧L.setIfInBounds i true=L')(hs:Region.noSelect ops=true)(hQ:∀c a t v w,Q (.panic c) (Act.put a (some t) v) w→Q (.panic c) a w)(hS:S w)(hi:(ops.toList.drop i).head? =some oi)(ht:oi.dst=some t)(hw:Region.wanted oi (yielded ops a.tmps)=true)(hy:∀w,S w→(execOp a.eval oi).run P w=.ok (.value v) w)(h:wpAnyH P .any ops Q S n L' (a.put (some t) v) w):wpAnyH P .any ops Q S (n+1) L a w:=
 wpAnyH_take (adz hi) hs st.1 st.2.1 (by rw[ht];exact fun c a w=>hQ c a _ _ w) (.inl ⟨hw,hy⟩) hS (by rw[st.2.2,ht];exact h)
theorem aN {L L':Array Bool}{i n:Nat}{a:Act}{w:World}(st:Region.ready .any ops L=[i]∧L.setIfInBounds i true=L')(h:wpOp P ops Q i (fun a' w'=>S w'∧wpAnyH P .any ops Q S n L' a' w') a w):wpAnyH P .any ops Q S (n+1) L a w:=
 wpAnyH_all st.1 (by simp) (fun j hj=>by
  rw[List.mem_singleton.1 hj,st.2]
  exact h)
theorem eX {L Li Lj:Array Bool}{i j n:Nat}{a:Act}{w:World}(st:Region.ready .any ops L=[i,j]∧L.setIfInBounds i true=Li∧L.setIfInBounds j true=Lj)(hi:wpOp P ops Q i (fun a' w'=>S w'∧wpAnyH P .any ops Q S n Li a' w') a w)(hj:wpOp P ops Q j (fun a' w'=>S w'∧wpAnyH P .any ops Q S n Lj a' w') a w):wpAnyH P .any ops Q S (n+1) L a w:=
 wpAnyH_all st.1 (by simp) (fun x hx=>by
  simp only[List.mem_cons,List.not_mem_nil,or_false]at hx
  rcases hx with rfl|rfl
  ·rw[st.2.1]
   exact hi
  ·rw[st.2.2]
   exact hj)
theorem acw {L Li Lj Lk:Array Bool}{i j k n:Nat}{a:Act}{w:World}(st:Region.ready .any ops L=[i,j,k]∧L.setIfInBounds i true=Li∧L.setIfInBounds j true=Lj∧L.setIfInBounds k true=Lk)(hi:wpOp P ops Q i (fun a' w'=>S w'∧wpAnyH P .any ops Q S n Li a' w') a w)(hj:wpOp P ops Q j (fun a' w'=>S w'∧wpAnyH P .any ops Q S n Lj a' w') a w)(hk:wpOp P ops Q k (fun a' w'=>S w'∧wpAnyH P .any ops Q S n Lk a' w') a w):wpAnyH P .any ops Q S (n+1) L a w:=
 wpAnyH_all st.1 (by simp) (fun x hx=>by
  simp only[List.mem_cons,List.not_mem_nil,or_false]at hx
  rcases hx with rfl|rfl|rfl
  ·rw[st.2.1]
   exact hi
  ·rw[st.2.2.1]
   exact hj
  ·rw[st.2.2.2]
   exact hk)
theorem bO {L:Array Bool}{a:Act}{w:World}(h:Region.ready .any ops L=[])(k:Q .normal a w):wpAnyH P .any ops Q S 0 L a w:=⟨h,k⟩
theorem aJ {L:Array Bool}{i n:Nat}{a:Act}{w:World}{o:Oper}(ho:(ops.toList.drop i).head? =some o)(hw:Region.wanted o (yielded ops a.tmps)=true)(h:∀K':Act→World→Prop,Shut (∀a w,S w→wpAnyH P .any ops Q S n L a w→K' a w)→Oper.wp P o a w K' Q):wpOp P ops Q i (fun a' w'=>S w'∧wpAnyH P .any ops Q S n L a' w') a w:=by
 have hs:=h (fun a' w'=>S w'∧wpAnyH P .any ops Q S n L a' w') (fun a w h1 h2=>⟨h1,h2⟩)
 unfold wpOp
 rw[adz ho]
 simp only[hw,if_true]
 exact .inl hs
theorem lS {id n:Nat}{a:Act}{w:World}(hm:P.follows .mixedOrders=true)(hn:ops.size=n)(h:wpAnyH P .any ops Q S n (Array.replicate n false) a w.drew):(Code.region id ops true).wp P Q a w:=by
 subst hn
 exact wp_region_held (S:=S) hm h
end
theorem aq0:Array.replicate 9 false=aj 9 0:=by kernel_rfl
theorem am2:(ay 3 Tryz.f185).size=9:=by kernel_rfl
theorem aoJ:Region.free .any (ay 3 Tryz.f185) (aj 9 0) 0=true∧(Region.ready .any (ay 3 Tryz.f185) (aj 9 0)).contains 0=true∧(aj 9 0).setIfInBounds 0 true=aj 9 1:=⟨by kernel_rfl,by kernel_rfl,by kernel_rfl⟩
theorem aoe:Region.free .any (ay 3 Tryz.f185) (aj 9 1) 2=true∧(Region.ready .any (ay 3 Tryz.f185) (aj 9 1)).contains 2=true∧(aj 9 1).setIfInBounds 2 true=aj 9 5:=⟨by kernel_rfl,by kernel_rfl,by kernel_rfl⟩
theorem alP:Region.free .any (ay 3 Tryz.f185) (aj 9 5) 4=true∧(Region.ready .any (ay 3 Tryz.f185) (aj 9 5)).contains 4=true∧(aj 9 5).setIfInBounds 4 true=aj 9 21:=⟨by kernel_rfl,by kernel_rfl,by kernel_rfl⟩
theorem aq4:Region.ready .any (ay 3 Tryz.f185) (aj 9 21)=[1,5,7]∧(aj 9 21).setIfInBounds 1 true=aj 9 23∧(aj 9 21).setIfInBounds 5 true=aj 9 53∧(aj 9 21).setIfInBounds 7 true=aj 9 149:=⟨by kernel_rfl,by kernel_rfl,by kernel_rfl,by kernel_rfl⟩
theorem arp:Region.ready .any (ay 3 Tryz.f185) (aj 9 23)=[3,5,7]∧(aj 9 23).setIfInBounds 3 true=aj 9 31∧(aj 9 23).setIfInBounds 5 true=aj 9 55∧(aj 9 23).setIfInBounds 7 true=aj 9 151:=⟨by kernel_rfl,by kernel_rfl,by kernel_rfl,by kernel_rfl⟩
theorem aqx:Region.ready .any (ay 3 Tryz.f185) (aj 9 31)=[5,7]∧(aj 9 31).setIfInBounds 5 true=aj 9 63∧(aj 9 31).setIfInBounds 7 true=aj 9 159:=⟨by kernel_rfl,by kernel_rfl,by kernel_rfl⟩
theorem abz:Region.ready .any (ay 3 Tryz.f185) (aj 9 63)=[6,7]∧(aj 9 63).setIfInBounds 6 true=aj 9 127∧(aj 9 63).setIfInBounds 7 true=aj 9 191:=⟨by kernel_rfl,by kernel_rfl,by kernel_rfl⟩
theorem yE:Region.ready .any (ay 3 Tryz.f185) (aj 9 127)=[7]∧(aj 9 127).setIfInBounds 7 true=aj 9 255:=⟨by kernel_rfl,by kernel_rfl⟩
theorem eQ:Region.ready .any (ay 3 Tryz.f185) (aj 9 255)=[8]∧(aj 9 255).setIfInBounds 8 true=aj 9 511:=⟨by kernel_rfl,by kernel_rfl⟩
theorem fQ:Region.ready .any (ay 3 Tryz.f185) (aj 9 511)=[]:=by kernel_rfl
theorem gD:Region.ready .any (ay 3 Tryz.f185) (aj 9 191)=[6]∧(aj 9 191).setIfInBounds 6 true=aj 9 255:=⟨by kernel_rfl,by kernel_rfl⟩
theorem yS:Region.ready .any (ay 3 Tryz.f185) (aj 9 159)=[5]∧(aj 9 159).setIfInBounds 5 true=aj 9 191:=⟨by kernel_rfl,by kernel_rfl⟩
theorem age:Region.ready .any (ay 3 Tryz.f185) (aj 9 55)=[3,7]∧(aj 9 55).setIfInBounds 3 true=aj 9 63∧(aj 9 55).setIfInBounds 7 true=aj 9 183:=⟨by kernel_rfl,by kernel_rfl,by kernel_rfl⟩
theorem l7:Region.ready .any (ay 3 Tryz.f185) (aj 9 183)=[3]∧(aj 9 183).setIfInBounds 3 true=aj 9 191:=⟨by kernel_rfl,by kernel_rfl⟩
theorem aeE:Region.ready .any (ay 3 Tryz.f185) (aj 9 151)=[3,5]∧(aj 9 151).setIfInBounds 3 true=aj 9 159∧(aj 9 151).setIfInBounds 5 true=aj 9 183:=⟨by kernel_rfl,by kernel_rfl,by kernel_rfl⟩
theorem arF:Region.ready .any (ay 3 Tryz.f185) (aj 9 53)=[1,7]∧(aj 9 53).setIfInBounds 1 true=aj 9 55∧(aj 9 53).setIfInBounds 7 true=aj 9 181:=⟨by kernel_rfl,by kernel_rfl,by kernel_rfl⟩
theorem aeq:Region.ready .any (ay 3 Tryz.f185) (aj 9 181)=[1]∧(aj 9 181).setIfInBounds 1 true=aj 9 183:=⟨by kernel_rfl,by kernel_rfl⟩
theorem aol:Region.ready .any (ay 3 Tryz.f185) (aj 9 149)=[1,5]∧(aj 9 149).setIfInBounds 1 true=aj 9 151∧(aj 9 149).setIfInBounds 5 true=aj 9 181:=⟨by kernel_rfl,by kernel_rfl,by kernel_rfl⟩
theorem putAt {V:World}{R:Nat}{t:TypeId}{cs:Array Value}(hR:V.heap[R]? =some (.cells cs t (0,0)))(j:Nat)(u:Value):
  ∃V',V.setCell ⟨R,j,none⟩ u=V'∧V'.heap[R]? =some (.cells (cs.setIfInBounds j u) t (0,0))∧V.grownBy V' (some R)∧V.frozen? ⟨R,j,none⟩=false:=
 ⟨_,rfl,aG hR j u,ax _ _ _,aB hR j⟩
end Go.Proofs.YtlmkaljjocflmaaGreatDoor
