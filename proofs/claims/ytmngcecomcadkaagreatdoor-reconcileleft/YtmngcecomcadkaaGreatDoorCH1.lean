/- Texts of one layer, one behind the other. -/
import Derived.WalkKit
import Derived.WalkSpells
import Derived.WalkLawsBesides
import Derived.OpenShut
import Derived.Laws.AppendOwnNone
import Derived.Test.YtmngcecomcadkaaGreatDoorCZWide
import Derived.Deep.RegionHeld
import Derived.KernelRfl
import Derived.Deep.RegionLaw
import Derived.Laws.OwnMore
import Derived.Test.YtmngcecomcadkaaGreatDoorCG1
import Derived.Laws.Bits64b
import Derived.Test.YtmngcecomcadkaaGreatDoorProg
import Derived.Deep.QuietTactic
import Derived.BigQuiet
import Derived.Deep.RegionWith
set_option maxRecDepth 100000
set_option maxHeartbeats 8000000
namespace Go.Proofs.YtmngcecomcadkaaGreatDoor
open Go.RowKit
set_option linter.unusedVariables false set_option linter.unusedSimpArgs false
theorem hide {p:Prop}(h:p):Hid p:=h
theorem jh {a b:Int}(h:a=b):Ending.returned (.int .i64 a)=.returned (.int .i64 b):=by rw[h]
def Is (k:IntKind) (w:World) (v:Value) (zs:List Int):Prop:=
 (∀z∈zs,(Lit.int k z).wf=true)∧
 ((v=.slice none 0 0∧zs=[])∨∃ad cap,v=.slice (some ad) zs.length cap∧zs.length≤cap∧cap≤maxLen∧∀i,i<zs.length→w.cell? (ad.add i)=some (.int k (zs.getD i 0)))
def Own (k:IntKind) (e:TypeId) (base:Nat) (w:World) (v:Value) (zs:List Int):Prop:=
 (∀z∈zs,(Lit.int k z).wf=true)∧w.ownsRow base e 1 v zs.length (zs.map (Value.int k))
theorem Is.nil (k:IntKind)(w:World):Is k w (.slice none 0 0) []:=⟨by simp,.inl ⟨rfl,rfl⟩⟩
theorem Own.nil (k:IntKind)(e:TypeId)(base:Nat)(w:World):Own k e base w (.slice none 0 0) []:=⟨by simp,World.ownsRow_nil _ _ _ _⟩
theorem Is.below {k:IntKind}{w w':World}{v:Value}{zs:List Int}(h:Is k w v zs)(hb:Below w.heap.size w w'):Is k w' v zs:=by
 refine⟨h.1,?_⟩
 rcases h.2 with h|⟨ad,cap,hv,h1,h2,hc⟩
 ·exact .inl h
 ·refine .inr ⟨ad,cap,hv,h1,h2,fun i hi=>?_⟩
  have:=hc i hi
  rw[hb.cell (World.block_lt_of_cell? _ _ this)]
  exact this
theorem Own.below {k:IntKind}{e:TypeId}{base:Nat}{w w':World}{v:Value}{zs:List Int}(h:Own k e base w v zs)(hb:Below w.heap.size w w'):Own k e base w' v zs:=by
 refine⟨h.1,h.2.1,?_⟩
 rcases h.2.2 with h|⟨g,cap,cur,hv,h1,hh,r⟩
 ·exact .inl h
 ·refine .inr ⟨g,cap,cur,hv,h1,?_,r⟩
  rw[hb.block g (Array.getElem?_eq_some_iff.1 hh).1]
  exact hh
theorem Own.bu {k:IntKind}{e:TypeId}{base base':Nat}{w:World}{v:Value}{zs:List Int}(h:Own k e base w v zs)(hb:base'≤base):Own k e base' w v zs:=by
 refine⟨h.1,h.2.1,?_⟩
 rcases h.2.2 with h|⟨g,cap,cur,hv,h1,r⟩
 ·exact .inl h
 ·exact .inr ⟨g,cap,cur,hv,by omega,r⟩
theorem gF (g off j:Nat):(⟨g,off,none⟩:Addr).add j=⟨g,off+j,none⟩:=by unfold Addr.add;split<;>simp_all
theorem Own.is {k:IntKind}{e:TypeId}{base:Nat}{w:World}{v:Value}{zs:List Int}(h:Own k e base w v zs):Is k w v zs:=by
 refine⟨h.1,?_⟩
 rcases h.2.2 with⟨hv,hn⟩|⟨g,cap,cur,hv,h1,hh,hc,hm,hs,ht⟩
 ·exact .inl ⟨hv,List.eq_nil_of_length_eq_zero hn⟩
 ·refine .inr ⟨⟨g,0,none⟩,cap,hv,hc,hm,fun i hi=>?_⟩
  refine h.2.cells (by rw[hv];rfl) i _ ?_
  simp[hi]
theorem Is.one (k:IntKind)(w:World)(z:Int)(e:TypeId)(hz:(Lit.int k z).wf=true):Is k (w.alloc (.cells #[.int k z] e)) (.slice (some ⟨w.heap.size,0,none⟩) 1 1) [z]:=by
 refine⟨by simpa using hz,.inr ⟨⟨w.heap.size,0,none⟩,1,rfl,by simp,by simp[maxLen],fun i hi=>?_⟩⟩
 have:i=0:=by simpa using hi
 subst this
 simp[Addr.add]
theorem Is.bare {k:IntKind}{w:World}{v:Value}(h:Is k w v []):∃ao cap,v=.slice ao 0 cap:=by
 rcases h.2 with⟨h,_⟩|⟨ad,cap,hv,_⟩
 ·exact⟨none,0,h⟩
 ·exact⟨some ad,cap,hv⟩
theorem Is.full {k:IntKind}{w:World}{v:Value}{zs:List Int}(h:Is k w v zs)(hne:0<zs.length):
  ∃b off cap,v=.slice (some ⟨b,off,none⟩) zs.length cap∧zs.length≤cap∧cap≤maxLen∧b<w.heap.size∧∀i,i<zs.length→w.cell? ⟨b,off+i,none⟩=some (.int k (zs.getD i 0)):=by
 rcases h.2 with⟨_,h⟩|⟨⟨b,off,spot⟩,cap,hv,h1,h2,hc⟩
 ·subst h;simp at hne
 ·have h0:=hc 0 hne
  have hspot:spot=none:=by simpa[Addr.add]using World.cell?_spot h0
  subst hspot
  exact⟨b,off,cap,hv,h1,h2,World.block_lt_of_cell? _ _ h0,fun i hi=>by rw[←gF];exact hc i hi⟩
section
variable {P:Program} {w:World} {ops:Array Oper} {rest:List Oper} {o:Oper} {a:Act} {Q:Exit→Act→World→Prop}
theorem bP (hgd:o.guard=none)(s x:Operand)(t:TypeId)
  (ho:o.op=.call {callee:=.builtin .append,args:=#[s,x],argTypes:=#[t,t]})
  (k:IntKind) (e:TypeId) (base bytes:Nat) (ht:P.underlying t=some (.slice e)) (hinfo:(P.info? e).map (fun i=>(i.zero,i.size,i.bytes))=some (some (.int k 0),1,bytes)) (hby:0<bytes∧bytes≤65536)
  (v:Value) (zs:List Int) (hs:a.eval s=v) (hown:Own k e base w v zs) (vx:Value) (ys:List Int) (hx:a.eval x=vx) (his:Is k w vx ys)
  (hlen:(zs.length+ys.length)*bytes≤150000000000000) (hbase:base≤w.heap.size)
  (h:∀v' w',Own k e base w' v' (zs++ys)→Below base w w'→w.grownBy w' v.ownBlock→wpList P ops Q rest (a.put o.dst v') w'):wpList P ops Q (o::rest) a w:=by
 obtain⟨i,hi,hz,hsize,hb⟩:=info_parts hinfo
 have hn:zs.length+ys.length≤150000000000000:=Nat.le_trans (Nat.le_mul_of_pos_right _ hby.1) hlen
 have hwf:∀z∈zs++ys,(Lit.int k z).wf=true:=by
  intro z hz
  rcases List.mem_append.1 hz with hz|hz
  ·exact hown.1 z hz
  ·exact his.1 z hz
 rcases his.2 with⟨hv,hy⟩|⟨ad,cap,hv,h1,h2,hc⟩
 ·subst hy
  refine wpList_append_own_none hgd s x t ho base e i 1 ht hi v zs.length _ hs hown.2 (hx.trans hv) (h v w ⟨hwf,by simpa using hown.2⟩ (Below.refl _ _) (World.grownBy.refl _ _))
 ·refine wpList_plain hgd fun _ hK=>tJ w s x t ho base e i (.int k 0) 1 bytes ht hi hz hsize hb rfl (by decide) hby v zs.length _ hs hown.2 ad ys.length cap (ys.map (Value.int k)) (hx.trans hv) (by simp) ?_ (ints_oneCell k ys) hlen hbase ?_
  ·intro j u hj
   rw[List.getElem?_map,Option.map_eq_some_iff]at hj
   obtain⟨z,hz,rfl⟩:=hj
   obtain⟨hj,hz⟩:=List.getElem?_eq_some_iff.1 hz
   rw[hc j hj,List.getD_eq_getElem?_getD,List.getElem?_eq_getElem hj,hz]
   rfl
  ·intro v' w' ho' hg
   refine hK _ _ (h v' w' ⟨hwf,by simpa[List.map_append]using ho'⟩ ((Below.refl _ _).grown hg hbase fun k' hk=>?_) hg)
   exact(hown.2.lt k' hk).1
end
theorem Is.shape {k:IntKind}{w:World}{v:Value}{zs:List Int}(h:Is k w v zs):∃ao cap,v=.slice ao zs.length cap∧zs.length≤cap∧cap≤maxLen:=by
 rcases h.2 with⟨hv,e⟩|⟨ad,cap,hv,h1,h2,_⟩
 ·subst e;exact⟨none,0,hv,by simp,by simp⟩
 ·exact⟨some ad,cap,hv,h1,h2⟩
theorem Is.form {k:IntKind}{w:World}{v:Value}{zs:List Int}(h:Is k w v zs):∃ao n c,v=.slice ao n c:=by
 obtain⟨ao,c,hv,_,_⟩:=h.shape
 exact⟨ao,_,c,hv⟩
theorem Is.byte {w:World}{v:Value}{zs:List Int}(h:Is .u8 w v zs)(i:Nat):0≤zs.getD i 0∧zs.getD i 0<256:=by
 have:=range_u8 h.1 i
 simp at*
 omega
theorem Is.drewN {k:IntKind}{w:World}{v:Value}{zs:List Int}(h:Is k w v zs)(n:Nat):Is k (w.drewN n) v zs:=h.below (below_drewN (Below.refl _ _) n)
theorem Own.drewN {k:IntKind}{e:TypeId}{base:Nat}{w:World}{v:Value}{zs:List Int}(h:Own k e base w v zs)(n:Nat):Own k e base (w.drewN n) v zs:=h.below (below_drewN (Below.refl _ _) n)
theorem Is.sub {k:IntKind}{w:World}{b f n cap:Nat}{zs:List Int}(h:Is k w (.slice (some ⟨b,f,none⟩) n cap) zs)(a p:Nat)(hap:a≤p)(hp:p≤n):Is k w (.slice (some ⟨b,f+a,none⟩) (p-a) (cap-a)) ((zs.drop a).take (p-a)):=by
 refine⟨fun z hz=>h.1 z (List.mem_of_mem_drop (List.mem_of_mem_take hz)),?_⟩
 rcases h.2 with⟨hv,_⟩|⟨ad',cap',hv,h1,h2,hc⟩
 ·cases hv
 ·simp only[Value.slice.injEq,Option.some.injEq]at hv
  obtain⟨rfl,rfl,rfl⟩:=hv
  have hl:((zs.drop a).take (p-a)).length=p-a:=by rw[List.length_take,List.length_drop];omega
  refine .inr ⟨⟨b,f+a,none⟩,cap-a,by rw[hl],by omega,by omega,fun i hi=>?_⟩
  rw[hl]at hi
  have:=hc (a+i) (by omega)
  rw[gF]at this⊢
  rw[Nat.add_assoc,this]
  simp[List.getD,hi]
theorem Own.block {k:IntKind}{e:TypeId}{base:Nat}{w:World}{v:Value}{zs:List Int}(h:Own k e base w v zs):∀b,v.ownBlock=some b→base≤b∧b<w.heap.size:=h.2.lt
theorem aG {w w1 w2:World}{row:Option Nat}(h:w.grownBy w1 row)(k:w1.grownBy w2 row):w.grownBy w2 row:=
 ⟨k.os.trans h.os,k.tape.trans h.tape,k.output.trans h.output,Nat.le_trans h.size k.size,fun i hi hne=>(k.block i (Nat.lt_of_lt_of_le hi h.size) hne).trans (h.block i hi hne)⟩
theorem iT (w:World)(n:Nat)(row:Option Nat):w.grownBy (w.drewN n) row:=⟨rfl,rfl,rfl,Nat.le_refl _,fun _ _ _=>rfl⟩
theorem aix (w:World)(cs:Array Value)(e:TypeId):∃W,w.alloc (.cells cs e)=W∧W.heap.size=w.heap.size+1∧Below w.heap.size w W∧∀j u,cs[j]? =some u→W.cell? ⟨w.heap.size,j,none⟩=some u:=by
 refine⟨_,rfl,by simp,(Below.refl _ _).alloc (Nat.le_refl _) _,fun j u h=>?_⟩
 rw[cell_of_row _ w.heap.size j cs e (0,0) (heap_alloc_new w _)]
 simpa using h
theorem lF (k:IntKind)(e:TypeId)(w:World)(cs:Array Value)(n:Nat)(zs:List Int)(hn:zs.length=n)(h:cs.toList=zs.map (Value.int k))(hm:n≤maxLen)(hw:∀z∈zs,(Lit.int k z).wf=true):
  ∃W,w.alloc (.cells cs e)=W∧W.heap.size=w.heap.size+1∧Below w.heap.size w W∧Own k e w.heap.size W (.slice (some ⟨w.heap.size,0,none⟩) n n) zs:=by
 subst hn
 refine⟨_,rfl,by simp,(Below.refl _ _).alloc (Nat.le_refl _) _,hw,?_⟩
 have ho:=World.ownsRow_lit (base:=w.heap.size) (e:=e) (size:=1) w cs zs.length (Nat.le_refl _) hm (by have:=congrArg List.length h;simpa using this)
 rw[h]at ho
 exact ho
def kG (k:Nat):Code→Array Oper
 |.region id ops _=>if id=k then ops else #[]
 |.seq a b=>if (kG k a).size=0 then kG k b else kG k a
 |.scope a=>kG k a
 |.block _ a=>kG k a
 |.loop a=>kG k a
 |.cond _ a b=>if (kG k a).size=0 then kG k b else kG k a
 |.rangeFunc _ _ a b=>if (kG k a).size=0 then kG k b else kG k a
 |_=>#[]
def aC (k:Nat) (f:Func):Array Oper:=match f.body with
 |some c=>kG k c
 |none=>#[]
def dH (n m:Nat):Array Bool:=((List.range n).map (fun j=>m.testBit j)).toArray
section
variable {P:Program} {ops:Array Oper} {Q:Exit→Act→World→Prop} {S:World→Prop} {md:Region.Mode}
theorem ah7 {i:Nat}{o:Oper}(h:(ops.toList.drop i).head? =some o):ops[i]? =some o:=by
 rw[List.head?_drop]at h
 simpa using h
end
section
variable {P:Program} {ops:Array Oper} {Q:Exit→Act→World→Prop} {S:World→Prop}
theorem aoV {L L':Array Bool}{i n:Nat}{a:Act}{w:World}{oi:Oper}{v:Value}{t:Tmp}(st:Region.free .any ops L i=true∧(Region.ready .any ops L).contains i=true∧L.setIfInBounds i true=L')(hs:Region.noSelect ops=true)(hQ:∀c a t v w,Q (.panic c) (Act.put a (some t) v) w→Q (.panic c) a w)(hS:S w)(hi:(ops.toList.drop i).head? =some oi)(ht:oi.dst=some t)(hw:Region.wanted oi (yielded ops a.tmps)=true)(hy:∀w,S w→(execOp a.eval oi).run P w=.ok (.value v) w)(h:wpAnyH P .any ops Q S n L' (a.put (some t) v) w):wpAnyH P .any ops Q S (n+1) L a w:=
 wpAnyH_take (ah7 hi) hs st.1 st.2.1 (by rw[ht];exact fun c a w=>hQ c a _ _ w) (.inl ⟨hw,hy⟩) hS (by rw[st.2.2,ht];exact h)
theorem asK {L L':Array Bool}{i n:Nat}{a:Act}{w:World}(st:Region.ready .any ops L=[i]∧L.setIfInBounds i true=L')(h:wpOp P ops Q i (fun a' w'=>S w'∧wpAnyH P .any ops Q S n L' a' w') a w):wpAnyH P .any ops Q S (n+1) L a w:=
 wpAnyH_all st.1 (by simp) (fun j hj=>by
  rw[List.mem_singleton.1 hj,st.2]
  exact h)
theorem arF {L Li Lj:Array Bool}{i j n:Nat}{a:Act}{w:World}(st:Region.ready .any ops L=[i,j]∧L.setIfInBounds i true=Li∧L.setIfInBounds j true=Lj)(hi:wpOp P ops Q i (fun a' w'=>S w'∧wpAnyH P .any ops Q S n Li a' w') a w)(hj:wpOp P ops Q j (fun a' w'=>S w'∧wpAnyH P .any ops Q S n Lj a' w') a w):wpAnyH P .any ops Q S (n+1) L a w:=
 wpAnyH_all st.1 (by simp) (fun x hx=>by
  simp only[List.mem_cons,List.not_mem_nil,or_false]at hx
  rcases hx with rfl|rfl
  ·rw[st.2.1]
   exact hi
  ·rw[st.2.2]
   exact hj)
theorem alM {L Li Lj Lk:Array Bool}{i j k n:Nat}{a:Act}{w:World}(st:Region.ready .any ops L=[i,j,k]∧L.setIfInBounds i true=Li∧L.setIfInBounds j true=Lj∧L.setIfInBounds k true=Lk)(hi:wpOp P ops Q i (fun a' w'=>S w'∧wpAnyH P .any ops Q S n Li a' w') a w)(hj:wpOp P ops Q j (fun a' w'=>S w'∧wpAnyH P .any ops Q S n Lj a' w') a w)(hk:wpOp P ops Q k (fun a' w'=>S w'∧wpAnyH P .any ops Q S n Lk a' w') a w):wpAnyH P .any ops Q S (n+1) L a w:=
 wpAnyH_all st.1 (by simp) (fun x hx=>by
  simp only[List.mem_cons,List.not_mem_nil,or_false]at hx
  rcases hx with rfl|rfl|rfl
  ·rw[st.2.1]
   exact hi
  ·rw[st.2.2.1]
   exact hj
  ·rw[st.2.2.2]
   exact hk)
theorem dA {L:Array Bool}{a:Act}{w:World}(h:Region.ready .any ops L=[])(k:Q .normal a w):wpAnyH P .any ops Q S 0 L a w:=⟨h,k⟩
theorem aI {L:Array Bool}{i n:Nat}{a:Act}{w:World}{o:Oper}(ho:(ops.toList.drop i).head? =some o)(hw:Region.wanted o (yielded ops a.tmps)=true)(h:∀K':Act→World→Prop,Shut (∀a w,S w→wpAnyH P .any ops Q S n L a w→K' a w)→Oper.wp P o a w K' Q):wpOp P ops Q i (fun a' w'=>S w'∧wpAnyH P .any ops Q S n L a' w') a w:=by
 have hs:=h (fun a' w'=>S w'∧wpAnyH P .any ops Q S n L a' w') (fun a w h1 h2=>⟨h1,h2⟩)
 unfold wpOp
 rw[ah7 ho]
 simp only[hw,if_true]
 exact .inl hs
theorem kK {id n:Nat}{a:Act}{w:World}(hm:P.follows .mixedOrders=true)(hn:ops.size=n)(h:wpAnyH P .any ops Q S n (Array.replicate n false) a w.drew):(Code.region id ops true).wp P Q a w:=by
 subst hn
 exact wp_region_held (S:=S) hm h
end
def bJ (ops:Array Oper) (n m i k:Nat):Bool:=Region.free .any ops (dH n m) i&&((Region.ready .any ops (dH n m)).contains i&&((dH n m).setIfInBounds i true==dH n k))
def fA (ops:Array Oper) (n m:Nat) (l ks:List Nat):Bool:=(Region.ready .any ops (dH n m)==l)&&((l.zip ks).all fun x=>(dH n m).setIfInBounds x.1 true==dH n x.2)
section
variable {P:Program} {ops:Array Oper} {Q:Exit→Act→World→Prop} {S:World→Prop} {N m i j k k1 k2 k3 n:Nat} {a b:Act} {w:World}
theorem bG {oi:Oper}{v:Value}{t:Tmp}(st:bJ ops N m i k=true)(hS:S w)(h:wpAnyH P .any ops Q S n (dH N k) b w)(hs:Region.noSelect ops=true:=by kernel_rfl)(hQ:∀c a t v w,Q (.panic c) (Act.put a (some t) v) w→Q (.panic c) a w:=by exact fun _ _ _ _ _ h=>h)(hi:(ops.toList.drop i).head? =some oi:=by exact rfl)(ht:oi.dst=some t:=by exact rfl)(hw:Region.wanted oi (yielded ops a.tmps)=true:=by exact(by rfl))
  (hy:∀w,S w→(execOp a.eval oi).run P w=.ok (.value v) w:=by
   intro w hS
   (try dsimp only at hS)
   go_simp
   all_goals with_reducible rfl)
  (ha:a.put (some t) v=b:=by
   simp only[Act.put,List.setIfInBounds_toArray,List.set_cons_zero,List.set_cons_succ]
   try rfl):wpAnyH P .any ops Q S (n+1) (dH N m) a w:=by
 simp only[bJ,Bool.and_eq_true,beq_iff_eq]at st
 exact aoV ⟨st.1,st.2.1,st.2.2⟩ hs hQ hS hi ht hw hy (ha▸h)
theorem bq {L:Array Bool}{K:Act→World→Prop}(hK:Shut (∀a w,S w→wpAnyH P .any ops Q S n L a w→K a w))(hS:S w)(h:wpAnyH P .any ops Q S n L b w)
  (ha:a=b:=by
   (try simp only[Act.put,List.setIfInBounds_toArray,List.set_cons_zero,List.set_cons_succ])
   try rfl):K a w:=hK.out _ _ hS (ha▸h)
theorem dB (st:fA ops N m [i] [k]=true)(h:wpOp P ops Q i (fun a' w'=>S w'∧wpAnyH P .any ops Q S n (dH N k) a' w') a w):wpAnyH P .any ops Q S (n+1) (dH N m) a w:=by
 simp only[fA,List.zip_cons_cons,List.zip_nil_right,List.all_cons,List.all_nil,Bool.and_eq_true,beq_iff_eq,Bool.and_true]at st
 exact asK st h
theorem qZ (st:fA ops N m [i,j] [k,k1]=true)(h:wpOp P ops Q i (fun a' w'=>S w'∧wpAnyH P .any ops Q S n (dH N k) a' w') a w)(h1:wpOp P ops Q j (fun a' w'=>S w'∧wpAnyH P .any ops Q S n (dH N k1) a' w') a w):wpAnyH P .any ops Q S (n+1) (dH N m) a w:=by
 simp only[fA,List.zip_cons_cons,List.zip_nil_right,List.all_cons,List.all_nil,Bool.and_eq_true,beq_iff_eq,Bool.and_true]at st
 exact arF ⟨st.1,st.2.1,st.2.2⟩ h h1
theorem gn3 {q:Nat}(st:fA ops N m [i,j,q] [k,k1,k2]=true)(h:wpOp P ops Q i (fun a' w'=>S w'∧wpAnyH P .any ops Q S n (dH N k) a' w') a w)(h1:wpOp P ops Q j (fun a' w'=>S w'∧wpAnyH P .any ops Q S n (dH N k1) a' w') a w)(h2:wpOp P ops Q q (fun a' w'=>S w'∧wpAnyH P .any ops Q S n (dH N k2) a' w') a w):wpAnyH P .any ops Q S (n+1) (dH N m) a w:=by
 simp only[fA,List.zip_cons_cons,List.zip_nil_right,List.all_cons,List.all_nil,Bool.and_eq_true,beq_iff_eq,Bool.and_true]at st
 exact alM ⟨st.1,st.2.1,st.2.2.1,st.2.2.2⟩ h h1 h2
end
section
variable {P:Program} {ops:Array Oper} {Q:Exit→Act→World→Prop} {S:World→Prop}
theorem aky {L:Array Bool}{i N:Nat}(hi:i<N)(hl:L.getD i true=false):((List.range N).filter fun j=> !(L.setIfInBounds i true).getD j true).length<((List.range N).filter fun j=> !L.getD j true).length:=by
 have hs:i<L.size:=by
  rcases Nat.lt_or_ge i L.size with h|h
  ·exact h
  ·simp[Array.getElem?_eq_none h]at hl
 have e:((List.range N).filter fun j=> !(L.setIfInBounds i true).getD j true)=((List.range N).filter fun j=> !L.getD j true).filter fun j=> !(j==i):=by
  rw[List.filter_filter]
  refine List.filter_congr fun j _=>?_
  by_cases h:j=i
  ·subst h
   simp[hs]
  ·have:i≠j:=fun e=>h e.symm
   simp[h,Array.getElem?_setIfInBounds,this]
 rw[e,List.length_filter_lt_length_iff_exists]
 exact⟨i,List.mem_filter.2 ⟨List.mem_range.2 hi,by rw[hl];rfl⟩,by simp⟩
theorem dJ {L:Array Bool}{i:Nat}(h:i∈Region.ready .any ops L):i<ops.size∧L.getD i true=false:=by
 obtain⟨h1,o,h2,_⟩:=mem_ready.1 h
 exact⟨(Array.getElem?_eq_some_iff.1 h2).1,h1⟩
theorem ahH (J:Array Bool→Act→World→Prop)(hst:∀L a w i,J L a w→i∈Region.ready .any ops L→wpOp P ops Q i (fun a' w'=>S w'∧J (L.setIfInBounds i true) a' w') a w)(hen:∀L a w,J L a w→Region.ready .any ops L=[]→Q .normal a w):
  ∀n L a w,J L a w→((List.range ops.size).filter fun i=> !L.getD i true).length≤n→wpAnyH P .any ops Q S n L a w
 |0,L,a,w,h,hn=>by
  have:Region.ready .any ops L=[]:=by
   refine List.eq_nil_iff_forall_not_mem.2 fun i hi=>?_
   obtain⟨h1,h2⟩:=dJ hi
   have h3:i∈(List.range ops.size).filter fun i=> !L.getD i true:=List.mem_filter.2 ⟨List.mem_range.2 h1,by rw[h2];rfl⟩
   have:=List.length_pos_of_mem h3
   omega
  exact⟨this,hen L a w h this⟩
 |n+1,L,a,w,h,hn=>⟨hen L a w h,fun i hi=>wpOp_mono (fun a' w' k=>⟨k.1,ahH J hst hen n _ a' w' k.2 (by
   obtain⟨h1,h2⟩:=dJ hi
   have:=aky h1 h2
   omega)⟩) (hst L a w i h hi)⟩
def dC (ops:Array Oper) (i j:Nat):Bool:=((ops[i]?).map (·.after.any fun e=>Region.binds .any e&&e.on==j)).getD false
theorem aM {L:Array Bool}{i j:Nat}(h:i∈Region.ready .any ops L)(ha:dC ops i j=true):L.getD j false=true:=by
 obtain⟨_,o,h2,h3⟩:=mem_ready.1 h
 unfold dC at ha
 rw[h2]at ha
 simp only[Option.map_some,Option.getD_some,Array.any_eq_true]at ha
 obtain⟨k,hk,e⟩:=ha
 rw[Bool.and_eq_true,beq_iff_eq]at e
 rw[←e.2]
 exact h3 _ (Array.getElem_mem hk) e.1
theorem acA {L:Array Bool}(hd:((List.range ops.size).all fun i=>((ops[i]?).map (·.after.all fun e=> !Region.binds .any e||decide (e.on<i))).getD false)=true)(hL:L.size=ops.size)(h:Region.ready .any ops L=[]):∀i,i<ops.size→L.getD i true=true:=by
 intro i
 induction i using Nat.strongRecOn with
 |_ i ih=>
  intro hi
  cases hl:L.getD i true with
  |true=>rfl
  |false=>
   exfalso
   have hm:i∈Region.ready .any ops L:=by
    refine mem_ready.2 ⟨hl,ops[i],Array.getElem?_eq_getElem hi,fun e he hb=>?_⟩
    have h1:=List.all_eq_true.1 hd i (List.mem_range.2 hi)
    rw[Array.getElem?_eq_getElem hi]at h1
    simp only[Option.map_some,Option.getD_some,Array.all_eq_true]at h1
    obtain⟨k,hk,rfl⟩:=Array.getElem_of_mem he
    have h2:=h1 k hk
    rw[hb]at h2
    have h3:(ops[i].after[k]).on<i:=by simpa using h2
    have h4:=ih _ h3 (by omega)
    have h5:(ops[i].after[k]).on<L.size:=by omega
    simp[h5]at h4⊢
    exact h4
   rw[h]at hm
   cases hm
end
section
variable {P:Program} {k:IntKind} {w:World} {v:Value} {zs:List Int}
theorem Is.uO (h:Is k w v zs){t:TypeId}(ht:P.underlying t=some (.slice (P.elem t)))(hs:∀wx,(sizeOf (P.elem t)).run P wx=.ok 1 wx)(l p:Nat)(hl:l≤p)(hp:p≤zs.length):
  ∃vs,(∀wx,(Instr.slice t v (some (.int .i64 l)) (some (.int .i64 p)) none).run P wx=.ok vs wx)∧Is k w vs ((zs.drop l).take (p-l)):=by
 have hlen:((zs.drop l).take (p-l)).length=p-l:=by rw[List.length_take,List.length_drop];omega
 have hwf:∀z∈(zs.drop l).take (p-l),(Lit.int k z).wf=true:=fun z hz=>h.1 z (List.mem_of_mem_drop (List.mem_of_mem_take hz))
 rcases h.2 with⟨hv,hz⟩|⟨ad,cap,hv,h1,h2,hc⟩
 ·subst hz hv
  simp at hp
  subst hp
  obtain rfl:l=0:=by omega
  refine⟨.slice none 0 0,fun wx=>?_,Is.nil _ _⟩
  rw[run_slice_lh wx t none 0 0 ht .i64 .i64 _ _ (by omega) (by omega) (by omega),hs]
  rfl
 ·subst hv
  by_cases hcl:cap=l
  ·have hpl:p=l:=by omega
   subst hpl
   refine⟨.slice (some ad) 0 0,fun wx=>?_,hwf,.inr ⟨ad,0,by rw[hlen];simp,by rw[hlen];simp,by simp,fun i hi=>by rw[hlen]at hi;omega⟩⟩
   rw[run_slice_lh wx t (some ad) zs.length cap ht .i64 .i64 _ _ (by omega) (by omega) (by omega),hs]
   simp[Result.andThen,sliced,hcl]
  ·refine⟨.slice (some (ad.add l)) (p-l) (cap-l),fun wx=>?_,hwf,.inr ⟨ad.add l,cap-l,by rw[hlen],by rw[hlen];omega,by omega,fun i hi=>?_⟩⟩
   ·rw[run_slice_lh wx t (some ad) zs.length cap ht .i64 .i64 _ _ (by omega) (by omega) (by omega),hs]
    simp[Result.andThen,sliced,hcl]
   ·rw[hlen]at hi
    have e:(ad.add l).add i=ad.add (l+i):=by
     unfold Addr.add
     by_cases h0:l=0<;>by_cases h3:i=0<;>simp[h0,h3,Nat.add_assoc]
    rw[e,hc (l+i) (by omega)]
    simp[List.getD,hi]
theorem Is.gq (h:Is k w v zs){t:TypeId}(ht:P.underlying t=some (.slice (P.elem t)))(hs:∀wx,(sizeOf (P.elem t)).run P wx=.ok 1 wx)(l:Nat)(hl:l≤zs.length):
  ∃vs,(∀wx,(Instr.slice t v (some (.int .i64 l)) none none).run P wx=.ok vs wx)∧Is k w vs (zs.drop l):=by
 obtain⟨vs,h1,h2⟩:=h.uO ht hs l zs.length hl (Nat.le_refl _)
 rw[List.take_of_length_le (by simp)]at h2
 refine⟨vs,fun wx=>?_,h2⟩
 obtain⟨ao,cap,rfl,hcap,_⟩:=h.shape
 rw[←h1 wx,run_slice_lh wx t ao zs.length cap ht .i64 .i64 _ _ (by omega) (by omega) (by omega),run_slice_l wx t ao zs.length cap ht .i64 _ (by omega) (by omega)]
 simp
theorem Is.ag1 (h:Is k w v zs){t:TypeId}(ht:P.underlying t=some (.slice (P.elem t))):∀ty wx,(Builtin.len_ #[t] ty #[v]).run P wx=.ok (goInt zs.length) wx:=by
 intro ty wx
 obtain⟨ao,cap,rfl,_,_⟩:=h.shape
 simp[Builtin.len_,run_underlying ht]
end
theorem tF {P:Program}{ops:Array Oper}{o:Oper}{a:Act}{w:World}{K:Act→World→Prop}{Q:Exit→Act→World→Prop}{E:Prop}(hgd:o.guard=none)(s x:Operand)(t:TypeId)
  (ho:o.op=.call {callee:=.builtin .append,args:=#[s,x],argTypes:=#[t,t]})
  (k:IntKind) (e:TypeId) (base bytes:Nat) (ht:P.underlying t=some (.slice e)) (hinfo:(P.info? e).map (fun i=>(i.zero,i.size,i.bytes))=some (some (.int k 0),1,bytes)) (hby:0<bytes∧bytes≤65536)
  (v:Value) (zs:List Int) (hs:a.eval s=v) (hown:Own k e base w v zs) (vx:Value) (ys:List Int) (hx:a.eval x=vx) (his:Is k w vx ys)
  (hlen:(zs.length+ys.length)*bytes≤150000000000000) (hbase:base≤w.heap.size)
  (h:∀v' w',Own k e base w' v' (zs++ys)→Below base w w'→w.grownBy w' v.ownBlock→K (a.put o.dst v') w'):
  if Region.wanted o (yielded ops a.tmps)=true then Oper.wp P o a w K Q else E:=by
 have hw:Region.wanted o (yielded ops a.tmps)=true:=by simp[Region.wanted,hgd]
 rw[if_pos hw]
 obtain⟨i,hi,hz,hsize,hb⟩:=info_parts hinfo
 have hn:zs.length+ys.length≤150000000000000:=Nat.le_trans (Nat.le_mul_of_pos_right _ hby.1) hlen
 have hwf:∀z∈zs++ys,(Lit.int k z).wf=true:=by
  intro z hz
  rcases List.mem_append.1 hz with hz|hz
  ·exact hown.1 z hz
  ·exact his.1 z hz
 rcases his.2 with⟨hv,hy⟩|⟨ad,cap,hv,h1,h2,hc⟩
 ·subst hy
  have hrun:=run_append_owned_none (P:=P) (w:=w) base t o.type e i 1 ht hi v zs.length _ hown.2
  have hk:=h v w ⟨hwf,by simpa using hown.2⟩ (Below.refl _ _) (World.grownBy.refl _ _)
  unfold Oper.wp
  simp[execOp,ho,resolve,invoke,builtin,hs,hx.trans hv,hrun,Result.andThen]
  exact hk
 ·refine tJ w s x t ho base e i (.int k 0) 1 bytes ht hi hz hsize hb rfl (by decide) hby v zs.length _ hs hown.2 ad ys.length cap (ys.map (Value.int k)) (hx.trans hv) (by simp) ?_ (ints_oneCell k ys) hlen hbase ?_
  ·intro j u hj
   rw[List.getElem?_map,Option.map_eq_some_iff]at hj
   obtain⟨z,hz,rfl⟩:=hj
   obtain⟨hj,hz⟩:=List.getElem?_eq_some_iff.1 hz
   rw[hc j hj,List.getD_eq_getElem?_getD,List.getElem?_eq_getElem hj,hz]
   rfl
  ·intro v' w' ho' hg
   refine h v' w' ⟨hwf,by simpa[List.map_append]using ho'⟩ ((Below.refl _ _).grown hg hbase fun k' hk=>?_) hg
   exact(hown.2.lt k' hk).1
theorem kE {w w':World}(h:Below w.heap.size w w')(row:Option Nat):w.grownBy w' row:=⟨h.os,h.tape,h.output,h.size,fun i hi _=>h.block i hi⟩
theorem az (w:World)(a:Addr)(u:Value):w.grownBy (w.setCell a u) (some a.block):=
 ⟨rfl,rfl,rfl,by simp[World.setCell],fun i _ hne=>Below.heap_setCell _ _ _ _ (fun e=>hne (by rw[e]))⟩
theorem aH {w:World}{g:Nat}{cs:Array Value}{t:TypeId}{fr:Nat×Nat}(hg:w.heap[g]? =some (.cells cs t fr))(j:Nat)(u:Value):(w.setCell ⟨g,j,none⟩ u).heap[g]? =some (.cells (cs.setIfInBounds j u) t fr):=by
 simp[World.setCell,Array.getElem?_modify,hg]
theorem ai {w:World}{g:Nat}{cs:Array Value}{t:TypeId}{fr:Nat×Nat}(hg:w.heap[g]? =some (.cells cs t fr))(j:Nat){u:Value}(hj:cs[j]? =some u):w.cell? ⟨g,j,none⟩=some u:=by simp[World.cell?,hg,hj]
theorem aA {w:World}{g:Nat}{cs:Array Value}{t:TypeId}(hg:w.heap[g]? =some (.cells cs t (0,0)))(j:Nat):w.frozen? ⟨g,j,none⟩=false:=by simp[World.frozen?,hg]
theorem ak (w:World)(cs:Array Value)(e:TypeId):∃W,w.alloc (.cells cs e)=W∧W.heap.size=w.heap.size+1∧Below w.heap.size w W∧W.heap[w.heap.size]? =some (.cells cs e (0,0)):=by
 refine⟨_,rfl,by simp,(Below.refl _ _).alloc (Nat.le_refl _) _,heap_alloc_new w _⟩
theorem ax {w:World}{g:Nat}{o:Obj}(h:w.heap[g]? =some o):g<w.heap.size:=(Array.getElem?_eq_some_iff.1 h).1
theorem aJ {w:World}{g j:Nat}{cs:Array Value}{t:TypeId}{fr:Nat×Nat}{u:Value}(hg:w.heap[g]? =some (.cells cs t fr))(hj:cs[j]? =some u):w.setCell ⟨g,j,none⟩ u=w:=by
 have h2:cs.setIfInBounds j u=cs:=by
  apply Array.ext_getElem?
  intro i
  rw[Array.getElem?_setIfInBounds]
  by_cases h:j=i
  ·subst h
   rw[if_pos rfl,hj]
   have:=(Array.getElem?_eq_some_iff.1 hj).1
   simp[this]
  ·rw[if_neg h]
 have:(w.setCell ⟨g,j,none⟩ u).heap=w.heap:=by
  apply Array.ext_getElem?
  intro i
  by_cases h:i=g
  ·subst h
   rw[aH hg,h2,hg]
  ·exact Below.heap_setCell _ _ _ _ h
 have e:w.setCell ⟨g,j,none⟩ u={w with heap:=(w.setCell ⟨g,j,none⟩ u).heap}:=rfl
 rw[e,this]
theorem grown_fresh {w V V':World}{row:Option Nat}{R:Nat}(h:w.grownBy V row)(hp:V.grownBy V' (some R))(hR:w.heap.size≤R):w.grownBy V' row:=
 ⟨hp.os.trans h.os,hp.tape.trans h.tape,hp.output.trans h.output,Nat.le_trans h.size hp.size,fun i hi hne=>(hp.block i (Nat.lt_of_lt_of_le hi h.size) (by simp;omega)).trans (h.block i hi hne)⟩
theorem ant {V:World}{R:Nat}{t:TypeId}{fr:Nat×Nat}{x y z:Value}(hR:V.heap[R]? =some (.cells #[x,y,z] t fr))(a b c:Value):
  ∃V',((V.setCell ⟨R,0,none⟩ a).setCell ⟨R,1,none⟩ b).setCell ⟨R,2,none⟩ c=V'∧V'.heap[R]? =some (.cells #[a,b,c] t fr)∧V.grownBy V' (some R):=
 ⟨_,rfl,aH (aH (aH hR 0 a) 1 b) 2 c,aG (aG (az V ⟨R,0,none⟩ a) (az _ ⟨R,1,none⟩ b)) (az _ ⟨R,2,none⟩ c)⟩
theorem dP {V:World}{R:Nat}{t:TypeId}{x y z:Value}(hR:V.heap[R]? =some (.cells #[x,y,z] t (0,0)))(a b c:Value):
  ∃V',((V.setCell ⟨R,0,none⟩ a).setCell ⟨R,1,none⟩ b).setCell ⟨R,2,none⟩ c=V'∧V'.heap[R]? =some (.cells #[a,b,c] t (0,0))∧V.grownBy V' (some R)∧
   (V.cell? ⟨R,0,none⟩=some x∧V.cell? ⟨R,1,none⟩=some y∧V.cell? ⟨R,2,none⟩=some z)∧(V.frozen? ⟨R,0,none⟩=false∧V.frozen? ⟨R,1,none⟩=false∧V.frozen? ⟨R,2,none⟩=false)∧
   (V'.cell? ⟨R,0,none⟩=some a∧V'.cell? ⟨R,1,none⟩=some b∧V'.cell? ⟨R,2,none⟩=some c):=by
 obtain⟨V',h1,h2,h3⟩:=ant hR a b c
 exact⟨V',h1,h2,h3,⟨ai hR 0 rfl,ai hR 1 rfl,ai hR 2 rfl⟩,⟨aA hR 0,aA hR 1,aA hR 2⟩,⟨ai h2 0 rfl,ai h2 1 rfl,ai h2 2 rfl⟩⟩
theorem aB {w V V':World}{R base:Nat}(h:Below base w V)(hg:V.grownBy V' (some R))(hb:base≤R)(hs:base≤V.heap.size):Below base w V':=h.grown hg hs (fun k hk=>by simp at hk;omega)
theorem fJ (w:World)(t:TypeId)(x y z a b c:Value):∃V,((((w.alloc (.cells #[x,y,z] t)).setCell ⟨w.heap.size,0,none⟩ a).setCell ⟨w.heap.size,1,none⟩ b).setCell ⟨w.heap.size,2,none⟩ c=V)∧w.alloc (.cells #[a,b,c] t)=V∧V.heap.size=w.heap.size+1∧Below w.heap.size w V∧V.heap[w.heap.size]? =some (.cells #[a,b,c] t (0,0))∧
  V.cell? ⟨w.heap.size,0,none⟩=some a∧V.cell? ⟨w.heap.size,1,none⟩=some b∧V.cell? ⟨w.heap.size,2,none⟩=some c:=by
 obtain⟨V,h1,h2,h3,h4⟩:=ak w #[a,b,c] t
 refine⟨V,?_,h1,h2,h3,h4,ai h4 0 rfl,ai h4 1 rfl,ai h4 2 rfl⟩
 rw[←h1]
 simp[go_sem]
theorem aS (z:Int)(h0:-9223372036854775808≤z)(h1:z<9223372036854775808):IntKind.i64.wrap z=z:=by
 unfold IntKind.wrap
 simp[IntKind.bits,IntKind.signed]
 omega
theorem aqt {V:World}{R:Nat}{t:TypeId}{cs:Array Value}(hR:V.heap[R]? =some (.cells cs t (0,0)))(j:Nat)(u:Value):
  ∃V',V.setCell ⟨R,j,none⟩ u=V'∧V'.heap[R]? =some (.cells (cs.setIfInBounds j u) t (0,0))∧V.grownBy V' (some R)∧V.frozen? ⟨R,j,none⟩=false:=
 ⟨_,rfl,aH hR j u,az _ _ _,aA hR j⟩
theorem putAt {V:World}{R:Nat}{t:TypeId}{cs:Array Value}(hR:V.heap[R]? =some (.cells cs t (0,0)))(j:Nat)(u:Value):
  ∃V',V.setCell ⟨R,j,none⟩ u=V'∧V'.heap[R]? =some (.cells (cs.setIfInBounds j u) t (0,0))∧V.grownBy V' (some R)∧V.frozen? ⟨R,j,none⟩=false:=
 ⟨_,rfl,aH hR j u,az _ _ _,aA hR j⟩
theorem aaC (a b:Nat)(ha:a<256)(hb:b<256):bits .and .u8 (a:Int) (b:Int)=((a&&&b:Nat):Int):=by
 have hx:a&&&b<2 ^ 8:=Nat.and_lt_two_pow _ (by omega)
 have h1:(BitVec.ofInt 8 (a:Int)).toNat=a:=by
  rw[BitVec.ofInt_natCast,BitVec.toNat_ofNat];exact Nat.mod_eq_of_lt (by omega)
 have h2:(BitVec.ofInt 8 (b:Int)).toNat=b:=by
  rw[BitVec.ofInt_natCast,BitVec.toNat_ofNat];exact Nat.mod_eq_of_lt (by omega)
 show IntKind.u8.wrap ((BitVec.ofInt 8 (a:Int)&&&BitVec.ofInt 8 (b:Int)).toNat:Int)=_
 rw[BitVec.toNat_and,h1,h2]
 simp[IntKind.wrap,IntKind.signed,IntKind.bits]
 omega
theorem abU (a b:Nat)(ha:a<256)(hb:b<256):bits .or .u8 (a:Int) (b:Int)=((a|||b:Nat):Int):=by
 have hx:a|||b<2 ^ 8:=Nat.or_lt_two_pow (by omega) (by omega)
 have h1:(BitVec.ofInt 8 (a:Int)).toNat=a:=by
  rw[BitVec.ofInt_natCast,BitVec.toNat_ofNat];exact Nat.mod_eq_of_lt (by omega)
 have h2:(BitVec.ofInt 8 (b:Int)).toNat=b:=by
  rw[BitVec.ofInt_natCast,BitVec.toNat_ofNat];exact Nat.mod_eq_of_lt (by omega)
 show IntKind.u8.wrap ((BitVec.ofInt 8 (a:Int)|||BitVec.ofInt 8 (b:Int)).toNat:Int)=_
 rw[BitVec.toNat_or,h1,h2]
 simp[IntKind.wrap,IntKind.signed,IntKind.bits]
 omega
theorem aaA (a:Nat):a&&&127=a % 128:=Nat.and_two_pow_sub_one_eq_mod a 7
theorem ac8 (a:Nat)(h:a<128):a|||128=a+128:=by
 have:=Nat.two_pow_add_eq_or_of_lt (i:=7) h 1
 rw[Nat.or_comm]
 simp at this
 omega
theorem aid (y:Int)(h0:0≤y)(h1:y<18446744073709551616):bits .and .u64 y 127=y % 128:=by
 have h:=bits_and_u64_nat y.toNat 127 (by omega) (by omega)
 rw[aaA,Int.toNat_of_nonneg h0]at h
 refine h.trans ?_
 omega
theorem ajE (y:Int)(h0:0≤y)(h1:y<256):bits .and .u8 y 127=y % 128:=by
 have h:=aaC y.toNat 127 (by omega) (by omega)
 rw[aaA,Int.toNat_of_nonneg h0]at h
 refine h.trans ?_
 omega
theorem am6 (y:Int)(h0:0≤y)(h1:y<128):bits .or .u8 y 128=y+128:=by
 have h:=abU y.toNat 128 (by omega) (by omega)
 rw[ac8 _ (by omega),Int.toNat_of_nonneg h0]at h
 refine h.trans ?_
 omega
theorem apN (n:Nat):(2:Nat) ^ (7*n)=128 ^ n:=by rw[Nat.pow_mul]
theorem aen (acc n:Nat)(c:Int)(h0:0≤c)(ha:acc<128 ^ n)(hf:acc+c.toNat*128 ^ n<18446744073709551616):bits .or .u64 (acc:Int) (IntKind.u64.wrap (c*2 ^ (7*n)))=((acc+c.toNat*128 ^ n:Nat):Int):=by
 have e:c*2 ^ (7*n)=((c.toNat*128 ^ n:Nat):Int):=by
  rw[←apN]
  push_cast
  rw[Int.toNat_of_nonneg h0]
 have e2:IntKind.u64.wrap (c*2 ^ (7*n))=((c.toNat*128 ^ n:Nat):Int):=by
  rw[e,IntKind.wrap_u64]
  omega
 rw[e2,bits_or_u64_nat _ _ (by omega) (by omega),Nat.or_comm]
 have h:=Nat.two_pow_add_eq_or_of_lt (i:=7*n) (b:=acc) (by rw[apN];exact ha) c.toNat
 rw[apN]at h
 rw[Nat.mul_comm c.toNat,←h,Nat.add_comm]
theorem abq (z:Int)(h0:0≤z)(h1:z<18446744073709551616):IntKind.u64.wrap z=z:=by
 rw[IntKind.wrap_u64]
 omega
theorem wf_u8 {z:Int}(h0:0≤z)(h1:z<256):(Lit.int .u8 z).wf=true:=by
 simp[Lit.wf,IntKind.min,IntKind.max,IntKind.signed,IntKind.bits];omega
theorem wf_i64 {z:Int}(h0:-9223372036854775808≤z)(h1:z<9223372036854775808):(Lit.int .i64 z).wf=true:=by
 simp[Lit.wf,IntKind.min,IntKind.max,IntKind.signed,IntKind.bits];omega
theorem Tryz.info5:(Tryz.prog.info? 5).map (fun i=>(i.zero,i.size,i.bytes))=some (some (.int .u8 0),1,1):=by kernel_rfl
theorem ak7 {y:Int}{n m:Nat}(h0:0≤y)(hs:Vm.sz y.toNat+n=m+1)(h:(y / 128==0)=true):(n:Int)=m:=by
 have h:=beq_iff_eq.1 h
 have:=Vm.iA (x:=y.toNat) (by omega)
 omega
theorem ako {y:Int}{n m:Nat}(h0:0≤y)(hs:Vm.sz y.toNat+n=m+1)(hm:m≤10)(h:(y / 128==0)=false):
  Vm.sz (y / 128).toNat+(n+1)=m+1∧n+1≤10∧(y / 128).toNat<y.toNat:=by
 have h:=beq_eq_false_iff_ne.1 h
 have:=Vm.adC (x:=y.toNat) (by omega)
 have e:(y / 128).toNat=y.toNat / 128:=by omega
 have:=Vm.tH (y / 128).toNat
 rw[e]at*
 omega
theorem ae9 (x:Int)(w:World)(h0:0≤x)(h1:x<18446744073709551616):
  Calls Tryz.prog 195 #[.int .u64 x] w fun e w'=>e=.returned (.int .i64 (Vm.sz x.toNat))∧w=w':=by
 have hm:=Vm.kH (x:=x.toNat) (by omega)
 go_enter Tryz.func195,Tryz.ntmps195
 go_wp2
 go_loop [0,3] (fun xx nn=>∃(y:Int) (n:Nat),0≤y∧y<18446744073709551616∧1≤n∧n≤10∧xx=.int .u64 y∧nn=.int .i64 n∧Vm.sz y.toNat+n=Vm.sz x.toNat+1) (fun xx _=>(intOf xx).toNat)
 case atStart=>exact⟨x,1,h0,h1,by omega,by omega,rfl,rfl,rfl⟩
 case round=>
  obtain⟨y,n,hy0,hy1,hn0,hn1,rfl,rfl,hs⟩:=hrel
  have HS:Hid (Vm.sz y.toNat+n=Vm.sz x.toNat+1):=hs
  clear hs
  go_wp2
  ·have hb:(y / 128==0)=true:=by assumption
   go_ret
   exact⟨jh (ak7 hy0 HS.out hb),rfl⟩
  ·have hb:(y / 128==0)=false:=by assumption
   have R:=ako hy0 HS.out hm hb
   go_round
   case rel=>exact⟨y / 128,n+1,by omega,by omega,by omega,R.2.1,rfl,by go_num,R.1⟩
   case measure=>simp[intOf];omega
theorem fO (vb:Value)(bs:List Int)(x:Int)(w:World)(hb:Is .u8 w vb bs)(hlb:bs.length≤140737488351232)(h0:0≤x)(h1:x<18446744073709551616):
  Calls Tryz.prog 161 #[vb,.int .u64 x] w fun e w'=>∃v,e=.returned v∧Own .u8 5 w.heap.size w' v (bs++Vm.enc x.toNat)∧Below w.heap.size w w':=by
 have hm:=Vm.kH (x:=x.toNat) (by omega)
 obtain⟨ao,cap,hv⟩:∃ao cap,vb=.slice ao bs.length cap:=by
  rcases hb.2 with⟨h,e⟩|⟨ad,cap,hv,_⟩
  ·subst e;exact⟨none,0,h⟩
  ·exact⟨some ad,cap,hv⟩
 subst hv
 obtain⟨i0,hi,hz0,hz1,hz2⟩:=info_parts Tryz.info5
 go_enter Tryz.func161,Tryz.ntmps161
 go_wp2_with (first|(go_at_call 195;refine(ae9 x _ h0 h1).mono ?_;rintro e w' ⟨rfl,rfl⟩)|(at_make;refine wpList_make_own _ rfl _ _ 61 rfl w.heap.size 5 i0 (.int .u8 0) 1 Tryz.underlying61 hi hz0 hz1 _ _ _ (bs.length+Vm.sz x.toNat) rfl rfl (by omega) ?b2 ?b3 (Nat.le_refl _) ?_))
 case b2=>rw[hz2];omega
 case b3=>unfold maxLen;omega
 intro w0 hown0 akI
 have dE:Below w.heap.size w w0:=(Below.refl _ _).grown akI (Nat.le_refl _) (by simp)
 have afp:Own .u8 5 w.heap.size w0 (.slice (some ⟨w.heap.size,0,none⟩) 0 (bs.length+Vm.sz x.toNat)) []:=⟨by simp,hown0⟩
 have is0:=hb.below dE
 have qm:=dE.size
 clear hown0 akI
 go_wp2_with (at_builtin;refine bP rfl (.tmp 12) (.tmp 13) 61 rfl .u8 5 w.heap.size 1 Tryz.underlying61 Tryz.info5 (by decide) _ [] rfl afp _ bs rfl is0 (by simp;omega) qm ?_)
 intro v1 w1 aX aj _
 have aF:=dE.trans aj
 clear afp is0 dE aj qm
 go_wp2
 go_loopw [1,5] (fun xx vv wr=>∃(y:Int) (zs:List Int),0≤y∧y<18446744073709551616∧xx=.int .u64 y∧zs.length≤140737488351242∧Own .u8 5 w.heap.size wr vv zs∧zs++Vm.enc y.toNat=bs++Vm.enc x.toNat∧Below w.heap.size w wr) (fun xx _ _=>(intOf xx).toNat)
 case atStart=>exact⟨x,bs,h0,h1,rfl,by omega,aX,rfl,aF⟩
 case round=>
  obtain⟨y,zs,hy0,hy1,rfl,hl,own,heq,fC⟩:=hrel
  have HE:=hide heq
  clear heq aX aF
  have szr:=fC.size
  by_cases hy:y≤127
  ·have e1:y % 256=y:=by omega
   have W:=wf_u8 (z:=y) hy0 (by omega)
   go_wp2_with (at_builtin;refine bP rfl (.tmp 17) (.tmp 20) 61 rfl .u8 5 w.heap.size 1 Tryz.underlying61 Tryz.info5 (by decide) _ zs rfl (own.below ((Below.refl _ _).alloc (Nat.le_refl _) _)) _ [y] rfl (Is.one .u8 _ _ 5 W) (by simp;omega) (by simp;omega) ?_)
   intro v2 w2 aP au _
   go_wp2
   go_ret
   refine⟨_,rfl,?_,(fC.alloc szr _).trans au⟩
   rw[←HE.out,Vm.mF (x:=y.toNat) (by omega),Int.toNat_of_nonneg hy0]
   exact aP
  ·have e1:=aid y hy0 hy1
   have e2:y % 128 % 256=y % 128:=by omega
   have e3:=am6 (y % 128) (by omega) (by omega)
   have W:=wf_u8 (z:=y % 128+128) (by omega) (by omega)
   go_wp2_with (at_builtin;refine bP rfl (.tmp 22) (.tmp 27) 61 rfl .u8 5 w.heap.size 1 Tryz.underlying61 Tryz.info5 (by decide) _ zs rfl (own.below ((Below.refl _ _).alloc (Nat.le_refl _) _)) _ [y % 128+128] rfl (Is.one .u8 _ _ 5 W) (by simp;omega) (by simp;omega) ?_)
   intro v2 w2 aP au _
   have HE2:zs++[y % 128+128]++Vm.enc (y / 128).toNat=bs++Vm.enc x.toNat:=by
    rw[←HE.out,Vm.qO (x:=y.toNat) (by omega)]
    have:(y / 128).toNat=y.toNat / 128:=by omega
    have:((y.toNat % 128+128:Nat):Int)=y % 128+128:=by omega
    simp_all
   have HL:zs.length+1≤140737488351242:=by
    have:=congrArg List.length HE2
    have:=Vm.tH (y / 128).toNat
    simp at*
    unfold Vm.sz at*
    omega
   have HE3:=hide HE2
   have b3:=(fC.alloc szr _).trans au
   clear HE2 own e1 e2 e3
   go_wp2
   go_roundw
   case rel=>exact⟨y / 128,zs++[y % 128+128],by omega,by omega,rfl,by simp;omega,aP,HE3.out,b3⟩
   case measure=>simp[intOf];omega
theorem wo {x n e x' n' e':Int}(h:x=x'∧n=n'∧e=e'):Ending.returned (.tuple #[.int .u64 x',.int .i64 n',.int .i64 e'])=.returned (.tuple #[.int .u64 x,.int .i64 n,.int .i64 e]):=by
 obtain⟨rfl,rfl,rfl⟩:=h;rfl
theorem zJ {bs:List Int}{x n e:Int}(hR:Vm.Res bs x n e){u k:Nat}(hu:u<18446744073709551616)(hp:Vm.enc u<+:bs)(hs:Vm.sz u=k+1):x=(u:Int)∧n=(k:Int)+1∧e=0:=by
 have:=Vm.uU hR hu hp
 omega
theorem uQ (vb:Value)(bs:List Int)(x n e:Int)(w:World)(hb:Is .u8 w vb bs)(hl:bs.length≤150000000000000)(hR:Vm.Res bs x n e):
  Calls Tryz.prog 183 #[vb] w fun E w'=>E=.returned (.tuple #[.int .u64 x,.int .i64 n,.int .i64 e])∧w=w':=by
 by_cases hz:0<bs.length
 ·have hbyte:=fun i=>hb.byte i
  have HBY:=hide hbyte
  obtain⟨b1,o1,c1,rfl,_,_,hB1,hc1⟩:=hb.full hz
  have HC:=hide hc1
  clear hc1 hbyte hb
  go_enter Tryz.func183,Tryz.ntmps183
  go_wp2
  go_loop [2,3] (fun xx nn=>∃(acc:Nat) (k:Nat),k≤9∧k≤bs.length∧xx=.int .u64 acc∧nn=.int .i64 k∧Vm.Inv bs k acc) (fun _ nn=>10-(intOf nn).toNat)
  case atStart=>exact⟨0,0,by omega,by omega,rfl,rfl,Vm.amg bs⟩
  case round=>
   obtain⟨acc,k,hk,hk2,rfl,rfl,hinv⟩:=hrel
   have HI:=hide hinv
   clear hinv
   by_cases hlt:k<bs.length
   ·have hq:((k:Int)==(bs.length:Int))=false:=by simp;omega
    have g1:=HC.out k hlt
    have hlt':(k:Int)<bs.length:=by omega
    have hc0:=HBY.out k
    generalize hcc:bs.getD k 0=c at*
    have HCC:=hide hcc
    have h70:=ajE c hc0.1 hc0.2
    have h71:=abq (c % 128) (by omega) (by omega)
    clear hcc
    by_cases h9:k=9
    ·have h9':((k:Int)==9)=true:=by simp[h9]
     have H9:=hide h9
     have HI9:Hid (Vm.Inv bs 9 acc):=by have:=HI.out;rw[h9]at this;exact this
     have HC9:Hid (bs.getD 9 0=c):=by have:=HCC.out;rw[h9]at this;exact this
     clear h9
     by_cases hc1:1<c
     ·go_wp2
      go_ret3
      exact⟨wo (Vm.tN hR (Vm.aoC HI9.out (by rw[←H9.out];exact hlt) HC9.out hc1 hc0.2)),rfl⟩
     ·have hfit:acc+(c % 128).toNat*128 ^ k<18446744073709551616:=by rw[H9.out];exact Vm.akL HI9.out hc0.1 (by omega)
      have e1:=aen acc k (c % 128) (by omega) HI.out.1 hfit
      generalize hna:acc+(c % 128).toNat*128 ^ k=na at*
      have HNA:=hide hna
      clear hna
      have hk1:1≤k:=by have:=H9.out;omega
      have atq:1<(k:Int)+1:=by omega
      by_cases hcz:c=0
      ·have amH:(c==0)=true:=by simp[hcz]
       have HZ:=hide hcz
       clear hcz
       go_wp2
       go_ret3
       exact⟨wo (Vm.tN hR (Vm.inv_zero HI.out hlt (HCC.out.trans HZ.out) hk1)),rfl⟩
      ·have amH:(c==0)=false:=by simp[hcz]
       have G:=hide (Vm.abI HI.out hlt HCC.out hc0.1 (by omega) (.inl (by omega)))
       go_wp2
       go_ret3
       have G:=G.out
       rw[HNA.out]at G
       exact⟨wo (zJ hR hfit G.1 G.2),rfl⟩
    ·have h9':((k:Int)==9)=false:=by simp;omega
     have hfit:=Vm.aps HI.out (c:=c) (by omega) hc0.1
     have e1:=aen acc k (c % 128) (by omega) HI.out.1 hfit
     generalize hna:acc+(c % 128).toNat*128 ^ k=na at*
     have HNA:=hide hna
     clear hna
     by_cases h128:c≤127
     ·by_cases hk1:1≤k
      ·have atq:1<(k:Int)+1:=by omega
       by_cases hcz:c=0
       ·have amH:(c==0)=true:=by simp[hcz]
        have HZ:=hide hcz
        clear hcz
        go_wp2
        go_ret3
        exact⟨wo (Vm.tN hR (Vm.inv_zero HI.out hlt (HCC.out.trans HZ.out) hk1)),rfl⟩
       ·have amH:(c==0)=false:=by simp[hcz]
        have G:=hide (Vm.abI HI.out hlt HCC.out hc0.1 (by omega) (.inl (by omega)))
        go_wp2
        go_ret3
        have G:=G.out
        rw[HNA.out]at G
        exact⟨wo (zJ hR hfit G.1 G.2),rfl⟩
      ·have atq:¬1<(k:Int)+1:=by omega
       have G:=hide (Vm.abI HI.out hlt HCC.out hc0.1 (by omega) (.inr (by omega)))
       go_wp2
       go_ret3
       have G:=G.out
       rw[HNA.out]at G
       exact⟨wo (zJ hR hfit G.1 G.2),rfl⟩
     ·go_wp2
      go_round
      case rel=>exact⟨na,k+1,by omega,by omega,rfl,by go_num,by have:=Vm.aoG HI.out hlt HCC.out (by omega) hc0.2;rw[HNA.out]at this;exact this⟩
      case measure=>simp[intOf];omega
   ·have hq:((k:Int)==(bs.length:Int))=true:=by simp;omega
    go_wp2
    go_ret3
    exact⟨wo (Vm.tN hR (Vm.aj9 HI.out (by omega))),rfl⟩
 ·have hx:bs=[]:=List.eq_nil_of_length_eq_zero (by omega)
  subst hx
  obtain⟨a1,c1,rfl⟩:=hb.bare
  clear hb hl hz
  go_enter Tryz.func183,Tryz.ntmps183
  go_wp2
  refine wp_loop_rounds 1 ?_
  rw[rounds_succ]
  go_wp2
  go_ret3
  exact⟨wo (Vm.tN hR (fun u _=>Vm.pre_nil u)),rfl⟩
def zK (bs:List Int) (most u i g:Int):Prop:=
 (Vm.Res bs u i 0∧0≤most∧u≤most∧g=0)∨(u=0∧i=0∧g=5∧∃x n e,Vm.Res bs x n e∧(e=5∨(e=0∧(most<0∨(0≤most∧most<x)))))
theorem nD (bs:List Int)(most:Int):∃u i g,zK bs most u i g:=by
 obtain⟨x,n,e,hR⟩:=Vm.aut bs
 have hb:=Vm.mU hR
 by_cases h:e=0∧0≤most∧x≤most
 ·obtain⟨rfl,h1,h2⟩:=h
  exact⟨x,n,0,.inl ⟨hR,h1,h2,rfl⟩⟩
 ·exact⟨0,0,5,.inr ⟨rfl,rfl,rfl,x,n,e,hR,by omega⟩⟩
theorem jZ (vb:Value)(bs:List Int)(most u i g:Int)(w:World)(hb:Is .u8 w vb bs)(hl:bs.length≤150000000000000)(hm:most<9223372036854775808)(hm':-9223372036854775808≤most)(hS:zK bs most u i g):
  Calls Tryz.prog 133 #[vb,.int .i64 most] w fun E w'=>E=.returned (.tuple #[.int .i64 u,.int .i64 i,.int .i64 g])∧w=w':=by
 rcases hS with⟨hR,h0,h1,hg⟩|⟨hu,hi,hg,x,n,e,hR,hcase⟩
 ·have hbd:=Vm.mU hR
  have hq:((0:Int) !=0)=false:=by simp
  subst hg
  go_enter Tryz.func133,Tryz.ntmps133
  go_wp2_with (go_at_call 183;refine(uQ _ _ _ _ _ _ hb hl hR).mono ?_;rintro E w1 ⟨rfl,rfl⟩)
  go_ret3
  exact⟨rfl,rfl⟩
 ·have hbd:=Vm.mU hR
  subst hu hi hg
  rcases hcase with he|⟨he,h|⟨h,h'⟩⟩
  ·subst he
   go_enter Tryz.func133,Tryz.ntmps133
   go_wp2_with (go_at_call 183;refine(uQ _ _ _ _ _ _ hb hl hR).mono ?_;rintro E w1 ⟨rfl,rfl⟩)
   go_ret3
   exact⟨rfl,rfl⟩
  ·subst he
   go_enter Tryz.func133,Tryz.ntmps133
   go_wp2_with (go_at_call 183;refine(uQ _ _ _ _ _ _ hb hl hR).mono ?_;rintro E w1 ⟨rfl,rfl⟩)
   go_ret3
   exact⟨rfl,rfl⟩
  ·subst he
   go_enter Tryz.func133,Tryz.ntmps133
   go_wp2_with (go_at_call 183;refine(uQ _ _ _ _ _ _ hb hl hR).mono ?_;rintro E w1 ⟨rfl,rfl⟩)
   go_ret3
   exact⟨rfl,rfl⟩
structure Out (F:Nat→Prop) (w w':World):Prop where
 os:w'.os=w.os
 tape:w'.tape=w.tape
 output:w'.output=w.output
 size:w.heap.size≤w'.heap.size
 block:∀g,g<w.heap.size→¬F g→w'.heap[g]? =w.heap[g]?
theorem Out.refl (F:Nat→Prop)(w:World):Out F w w:=⟨rfl,rfl,rfl,Nat.le_refl _,fun _ _ _=>rfl⟩
theorem Out.trans {F G:Nat→Prop}{w w1 w2:World}(h:Out F w w1)(k:Out G w1 w2)(hs:∀g,G g→F g∨w.heap.size≤g):Out F w w2:=
 ⟨k.os.trans h.os,k.tape.trans h.tape,k.output.trans h.output,Nat.le_trans h.size k.size,fun g hg hn=>(k.block g (Nat.lt_of_lt_of_le hg h.size) fun hG=>by
  rcases hs g hG with h1|h1
  ·exact hn h1
  ·omega).trans (h.block g hg hn)⟩
theorem Out.mono {F G:Nat→Prop}{w w':World}(h:Out F w w')(hs:∀g,F g→G g∨w.heap.size≤g):Out G w w':=
 ⟨h.os,h.tape,h.output,h.size,fun g hg hn=>h.block g hg fun hF=>by
  rcases hs g hF with h1|h1
  ·exact hn h1
  ·omega⟩
theorem Out.of_below {F:Nat→Prop}{w w':World}(h:Below w.heap.size w w'):Out F w w':=⟨h.os,h.tape,h.output,h.size,fun g hg _=>h.block g hg⟩
theorem Out.aQ {F:Nat→Prop}{w w':World}{row:Option Nat}(h:w.grownBy w' row)(hF:∀g,row=some g→F g):Out F w w':=
 ⟨h.os,h.tape,h.output,h.size,fun g hg hn=>h.block g hg fun e=>hn (hF g e.symm)⟩
theorem Out.below {F:Nat→Prop}{w w':World}{base:Nat}(h:Out F w w')(hF:∀g,F g→base≤g)(hb:base≤w.heap.size):Below base w w':=
 ⟨h.os,h.tape,h.output,h.size,fun g hg=>h.block g (Nat.lt_of_lt_of_le hg hb) fun hf=>by have:=hF g hf;omega⟩
theorem Out.drew {F:Nat→Prop}{w w':World}(h:Out F w w')(n:Nat):Out F w (w'.drewN n):=⟨h.os,h.tape,h.output,h.size,h.block⟩
theorem Is.agree {k:IntKind}{w w':World}{v:Value}{zs:List Int}(h:Is k w v zs)(hb:∀b,v.ownBlock=some b→w'.heap[b]? =w.heap[b]?):Is k w' v zs:=by
 refine⟨h.1,?_⟩
 rcases h.2 with h|⟨ad,cap,hv,h1,h2,hc⟩
 ·exact .inl h
 ·refine .inr ⟨ad,cap,hv,h1,h2,fun i hi=>?_⟩
  rw[World.cell?_of_block (show w'.heap[(ad.add i).block]? =w.heap[(ad.add i).block]? from ?_)]
  ·exact hc i hi
  ·have e:(ad.add i).block=ad.block:=by unfold Addr.add;split<;>rfl
   rw[e]
   exact hb ad.block (by rw[hv];rfl)
theorem bN {w w':World}{base e size n:Nat}{v:Value}{xs:List Value}(h:w.ownsRow base e size v n xs)(hb:∀b,v.ownBlock=some b→w'.heap[b]? =w.heap[b]?):w'.ownsRow base e size v n xs:=by
 refine⟨h.1,?_⟩
 rcases h.2 with h|⟨g,cap,cur,hv,h1,hh,r⟩
 ·exact .inl h
 ·refine .inr ⟨g,cap,cur,hv,h1,?_,r⟩
  rw[hb g (by rw[hv];rfl)]
  exact hh
theorem Is.lt {k:IntKind}{w:World}{v:Value}{zs:List Int}(h:Is k w v zs)(hne:0<zs.length):∀b,v.ownBlock=some b→b<w.heap.size:=by
 intro b hb
 obtain⟨g,off,cap,rfl,_,_,hB,_⟩:=h.full hne
 simp[Value.ownBlock]at hb
 omega
theorem Tryz.uh:Tryz.prog.underlying 61=some (.slice (Tryz.prog.elem 61)):=by kernel_rfl
theorem Tryz.xQ (wx:World):(sizeOf (Tryz.prog.elem 61)).run Tryz.prog wx=.ok 1 wx:=by kernel_rfl
end Go.Proofs.YtmngcecomcadkaaGreatDoor
