/- Texts. -/
import Derived.Test.YtlmkaljjocflmaaGreatDoorBH1
import Derived.Deep.RegionHeld
import Derived.KernelRfl
import Derived.OrdersIn
import Derived.Test.YtlmkaljjocflmaaGreatDoorProg
set_option maxRecDepth 100000
set_option maxHeartbeats 8000000
set_option linter.unusedVariables false
open Go.Proofs.Tryz
namespace Go.Proofs.YtlmkaljjocflmaaGreatDoor
open Go.RowKit
def kL (k:Nat):Code→Array Oper
 |.region id ops _=>if id=k then ops else #[]
 |.seq a b=>if (kL k a).size=0 then kL k b else kL k a
 |.scope a=>kL k a
 |.block _ a=>kL k a
 |.loop a=>kL k a
 |.cond _ a b=>if (kL k a).size=0 then kL k b else kL k a
 |.rangeFunc _ _ a b=>if (kL k a).size=0 then kL k b else kL k a
 |_=>#[]
def aB (k:Nat) (f:Func):Array Oper:=match f.body with
 |some c=>kL k c
 |none=>#[]
def aY (n m:Nat):Array Bool:=((List.range n).map (fun j=>m.testBit j)).toArray
section
variable {P:Program} {ops:Array Oper} {Q:Exit→Act→World→Prop} {S:World→Prop} {md:Region.Mode}
def seqW (P:Program) (ops:Array Oper) (Q:Exit→Act→World→Prop) (S:World→Prop):List (Bool×Nat)→Act→World→Prop
 |[],a,w=>Q .normal a w
 |(true,i)::r,a,w=>∃oi v t,ops[i]? =some oi∧oi.dst=some t∧YieldsIf P ops S oi v a∧seqW P ops Q S r (a.put (some t) v) w
 |(false,i)::r,a,w=>wpOp P ops Q i (fun a' w'=>S w'∧seqW P ops Q S r a' w') a w
def Way (md:Region.Mode) (ops:Array Oper):Array Bool→List (Bool×Nat)→Prop
 |L,[]=>Region.ready md ops L=[]
 |L,(true,i)::r=>∃L',(Region.free md ops L i=true∧(Region.ready md ops L).contains i=true∧L.setIfInBounds i true=L')∧Way md ops L' r
 |L,(false,i)::r=>∃L',(Region.ready md ops L=[i]∧L.setIfInBounds i true=L')∧Way md ops L' r
theorem Way.done {L:Array Bool}(h:Region.ready md ops L=[]):Way md ops L []:=h
theorem Way.take {L L':Array Bool}{i:Nat}{r:List (Bool×Nat)}(h:Region.free md ops L i=true∧(Region.ready md ops L).contains i=true∧L.setIfInBounds i true=L')(k:Way md ops L' r):Way md ops L ((true,i)::r):=⟨L',h,k⟩
theorem Way.meet {L L':Array Bool}{i:Nat}{r:List (Bool×Nat)}(h:Region.ready md ops L=[i]∧L.setIfInBounds i true=L')(k:Way md ops L' r):Way md ops L ((false,i)::r):=⟨L',h,k⟩
theorem aap (hs:Region.noSelect ops=true)(hQ:∀c a t v w,Q (.panic c) (Act.put a (some t) v) w→Q (.panic c) a w):∀(l:List (Bool×Nat)) (L:Array Bool) (a:Act) (w:World),Way md ops L l→S w→seqW P ops Q S l a w→wpAnyH P md ops Q S l.length L a w
 |[],L,a,w,hr,hS,h=>⟨hr,h⟩
 |(true,i)::r,L,a,w,⟨L',⟨h1,h2,h3⟩,k⟩,hS,⟨oi,v,t,e1,e0,e2,e3⟩=>wpAnyH_take e1 hs h1 h2 (by rw[e0];exact fun c a w=>hQ c a _ _ w) e2 hS (by rw[h3,e0];exact aap hs hQ r _ _ _ k hS e3)
 |(false,i)::r,L,a,w,⟨L',⟨h1,h3⟩,k⟩,hS,h=>wpAnyH_all h1 (by simp) (fun j hj=>by
   rw[List.mem_singleton.1 hj]
   exact wpOp_mono (fun a' w' h'=>⟨h'.1,by rw[h3];exact aap hs hQ r _ a' w' k h'.1 h'.2⟩) h)
theorem aez {i:Nat}{o:Oper}(h:(ops.toList.drop i).head? =some o):ops[i]? =some o:=by
 rw[List.head?_drop]at h
 simpa using h
theorem il {i:Nat}{r:List (Bool×Nat)}{a:Act}{w:World}{oi:Oper}{v:Value}{t:Tmp}(hi:(ops.toList.drop i).head? =some oi)(ht:oi.dst=some t)(hw:Region.wanted oi (yielded ops a.tmps)=true)(hy:∀w,S w→(execOp a.eval oi).run P w=.ok (.value v) w)(h:seqW P ops Q S r (a.put (some t) v) w):seqW P ops Q S ((true,i)::r) a w:=⟨oi,v,t,aez hi,ht,.inl ⟨hw,hy⟩,h⟩
theorem aav {i:Nat}{r:List (Bool×Nat)}{a:Act}{w:World}{o:Oper}(ho:(ops.toList.drop i).head? =some o)(hw:Region.wanted o (yielded ops a.tmps)=true)(h:∀K':Act→World→Prop,Shut (∀a w,S w→seqW P ops Q S r a w→K' a w)→Oper.wp P o a w K' Q):seqW P ops Q S ((false,i)::r) a w:=
 wpOp_step (aez ho) (fun K' hK=>by
  rw[if_pos hw]
  exact h K' (fun a w hS hW=>hK a w ⟨hS,hW⟩))
end
def zF (o:Oper):Bool:=match o.op with
 |.move _=>true
 |.assign _=>true
 |.load _ _=>true
 |.store _ _ _=>true
 |.fieldAddr _ _ _=>true
 |.indexAddr _ _ _=>true
 |_=>false
section
variable {F:Fence} {n:Nat} {P:Program} {ops:Array Oper} {Q:Exit→Act→World→Prop} {S:World→Prop} {md:Region.Mode}
theorem adv {o:Oper}(h:zF o=true)(w:World)(ρ:Operand→Value):o.about P w ρ=none:=by
 unfold Oper.about
 unfold zF at h
 cases ho:o.op<;>rw[ho]at h<;>first|rfl|cases h
theorem an5 {o:Oper}(h:zF o=true){a:Act}{w:World}{K:Act→World→Prop}(hw:Oper.wp P o a w K Q):Oper.wpIn F n P o a w K Q:=by
 refine⟨fun f hf=>(by rw[adv h]at hf;cases hf),?_⟩
 rw[Oper.semAt_eq _ _ _ (fun c hc=>by unfold zF at h;rw[hc]at h;cases h)]
 unfold Oper.wp at hw
 unfold zF at h
 unfold execOp at hw⊢
 cases ho:o.op<;>rw[ho]at h<;>try (cases h;done)
 all_goals
  simp only[ho,Sem.run_bind,Sem.run_pure]at hw⊢
 ·exact hw
 ·exact hw
 all_goals
  generalize Sem.run P _ w=r at hw⊢
  cases r with
  |ok x w'=>exact hw
  |halt x w'=>cases x<;>exact hw
theorem ajn (hL:¬LetsOut Q)(hp:∀(i:Nat) (o:Oper),ops[i]? =some o→zF o=true){i:Nat}{K:Act→World→Prop}{a:Act}{w:World}(h:wpOp P ops Q i K a w):wpOpIn F n P ops Q i K a w:=by
 unfold wpOp at h
 unfold wpOpIn
 cases ho:ops[i]? with
 |none=>rw[ho]at h;exact h
 |some o=>
  rw[ho]at h
  simp only at h⊢
  split
  ·rename_i hw
   rw[if_pos hw]at h
   rcases h with h|h
   ·exact an5 (hp i o ho) h
   ·exact absurd h.2 hL
  ·rename_i hw
   rw[if_neg hw]at h
   exact⟨fun f hf=>(by rw[adv (hp i o ho)]at hf;cases hf),h⟩
theorem adD (hL:¬LetsOut Q)(hp:∀(i:Nat) (o:Oper),ops[i]? =some o→zF o=true):∀(fuel:Nat) (L:Array Bool) (a:Act) (w:World),wpAny P md ops Q fuel L a w→wpAnyIn F n P md ops Q fuel L a w
 |0,_,_,_,h=>h
 |fuel+1,L,a,w,h=>⟨h.1,fun i hi=>wpOpIn_mono (fun a' w' h'=>adD hL hp fuel _ a' w' h') (ajn hL hp (h.2 i hi))⟩
theorem aun (h:ops.toList.all zF=true):∀(i:Nat) (o:Oper),ops[i]? =some o→zF o=true:=fun i o ho=>List.all_eq_true.1 h o (by
 rw[←Array.getElem?_toList]at ho
 exact List.mem_of_getElem? ho)
theorem afJ {id:Nat}{a:Act}{w:World}(hm:P.follows .mixedOrders=true)(hs:Region.noSelect ops=true)(hp:ops.toList.all zF=true)(hL:¬LetsOut Q)(hQ:∀c a t v w,Q (.panic c) (Act.put a (some t) v) w→Q (.panic c) a w)(l:List (Bool×Nat))(hl:l.length=ops.size)(hw:Way .any ops (Array.replicate ops.size false) l)(hS:S w.drew)(h:seqW P ops Q S l a w.drew):(Code.region id ops true).wpIn F n P Q a w:=by
 refine wpIn_region_any hm (adD hL (aun hp) _ _ _ _ (wpAny_of_held (S:=S) _ _ _ _ ?_))
 have:=aap hs hQ l _ a w.drew hw hS h
 rw[hl]at this
 exact this
end
theorem atL:Region.free .any (aB 7 f287) (aY 15 0) 0=true∧(Region.ready .any (aB 7 f287) (aY 15 0)).contains 0=true∧(aY 15 0).setIfInBounds 0 true=aY 15 1:=⟨by kernel_rfl,by kernel_rfl,by kernel_rfl⟩
theorem atq:Region.free .any (aB 7 f287) (aY 15 1) 1=true∧(Region.ready .any (aB 7 f287) (aY 15 1)).contains 1=true∧(aY 15 1).setIfInBounds 1 true=aY 15 3:=⟨by kernel_rfl,by kernel_rfl,by kernel_rfl⟩
theorem auf:Region.free .any (aB 7 f287) (aY 15 3) 2=true∧(Region.ready .any (aB 7 f287) (aY 15 3)).contains 2=true∧(aY 15 3).setIfInBounds 2 true=aY 15 7:=⟨by kernel_rfl,by kernel_rfl,by kernel_rfl⟩
theorem aup:Region.free .any (aB 7 f287) (aY 15 7) 3=true∧(Region.ready .any (aB 7 f287) (aY 15 7)).contains 3=true∧(aY 15 7).setIfInBounds 3 true=aY 15 15:=⟨by kernel_rfl,by kernel_rfl,by kernel_rfl⟩
theorem atB:Region.free .any (aB 7 f287) (aY 15 15) 4=true∧(Region.ready .any (aB 7 f287) (aY 15 15)).contains 4=true∧(aY 15 15).setIfInBounds 4 true=aY 15 31:=⟨by kernel_rfl,by kernel_rfl,by kernel_rfl⟩
theorem auv:Region.free .any (aB 7 f287) (aY 15 31) 5=true∧(Region.ready .any (aB 7 f287) (aY 15 31)).contains 5=true∧(aY 15 31).setIfInBounds 5 true=aY 15 63:=⟨by kernel_rfl,by kernel_rfl,by kernel_rfl⟩
theorem atj:Region.free .any (aB 7 f287) (aY 15 63) 6=true∧(Region.ready .any (aB 7 f287) (aY 15 63)).contains 6=true∧(aY 15 63).setIfInBounds 6 true=aY 15 127:=⟨by kernel_rfl,by kernel_rfl,by kernel_rfl⟩
theorem atb:Region.free .any (aB 7 f287) (aY 15 127) 7=true∧(Region.ready .any (aB 7 f287) (aY 15 127)).contains 7=true∧(aY 15 127).setIfInBounds 7 true=aY 15 255:=⟨by kernel_rfl,by kernel_rfl,by kernel_rfl⟩
theorem auP:Region.free .any (aB 7 f287) (aY 15 255) 8=true∧(Region.ready .any (aB 7 f287) (aY 15 255)).contains 8=true∧(aY 15 255).setIfInBounds 8 true=aY 15 511:=⟨by kernel_rfl,by kernel_rfl,by kernel_rfl⟩
theorem atm:Region.free .any (aB 7 f287) (aY 15 511) 9=true∧(Region.ready .any (aB 7 f287) (aY 15 511)).contains 9=true∧(aY 15 511).setIfInBounds 9 true=aY 15 1023:=⟨by kernel_rfl,by kernel_rfl,by kernel_rfl⟩
theorem aqF:Region.free .any (aB 7 f287) (aY 15 1023) 10=true∧(Region.ready .any (aB 7 f287) (aY 15 1023)).contains 10=true∧(aY 15 1023).setIfInBounds 10 true=aY 15 2047:=⟨by kernel_rfl,by kernel_rfl,by kernel_rfl⟩
theorem aqb:Region.free .any (aB 7 f287) (aY 15 2047) 11=true∧(Region.ready .any (aB 7 f287) (aY 15 2047)).contains 11=true∧(aY 15 2047).setIfInBounds 11 true=aY 15 4095:=⟨by kernel_rfl,by kernel_rfl,by kernel_rfl⟩
theorem aqB:Region.ready .any (aB 7 f287) (aY 15 4095)=[12]∧(aY 15 4095).setIfInBounds 12 true=aY 15 8191:=⟨by kernel_rfl,by kernel_rfl⟩
theorem aqP:Region.ready .any (aB 7 f287) (aY 15 8191)=[13]∧(aY 15 8191).setIfInBounds 13 true=aY 15 16383:=⟨by kernel_rfl,by kernel_rfl⟩
theorem aqU:Region.ready .any (aB 7 f287) (aY 15 16383)=[14]∧(aY 15 16383).setIfInBounds 14 true=aY 15 32767:=⟨by kernel_rfl,by kernel_rfl⟩
def zm:List (Bool×Nat):=[(true,0),(true,1),(true,2),(true,3),(true,4),(true,5),(true,6),(true,7),(true,8),(true,9),(true,10),(true,11),(false,12),(false,13),(false,14)]
theorem atP:Region.ready .any (aB 7 f287) (aY 15 32767)=[]:=by kernel_rfl
theorem auz:Way .any (aB 7 f287) (Array.replicate (aB 7 f287).size false) zm:=by
 have e:Array.replicate (aB 7 f287).size false=aY 15 0:=by kernel_rfl
 rw[e]
 unfold zm
 refine .take atL ?_
 refine .take atq ?_
 refine .take auf ?_
 refine .take aup ?_
 refine .take atB ?_
 refine .take auv ?_
 refine .take atj ?_
 refine .take atb ?_
 refine .take auP ?_
 refine .take atm ?_
 refine .take aqF ?_
 refine .take aqb ?_
 refine .meet aqB ?_
 refine .meet aqP ?_
 refine .meet aqU ?_
 exact .done atP
section
variable {P:Program} {ops:Array Oper} {Q:Exit→Act→World→Prop} {S:World→Prop}
theorem apt {L L':Array Bool}{i n:Nat}{a:Act}{w:World}{oi:Oper}{v:Value}{t:Tmp}(st:Region.free .any ops L i=true∧(Region.ready .any ops L).contains i=true∧L.setIfInBounds i true=L')(hs:Region.noSelect ops=true)(hQ:∀c a t v w,Q (.panic c) (Act.put a (some t) v) w→Q (.panic c) a w)(hS:S w)(hi:(ops.toList.drop i).head? =some oi)(ht:oi.dst=some t)(hw:Region.wanted oi (yielded ops a.tmps)=true)(hy:∀w,S w→(execOp a.eval oi).run P w=.ok (.value v) w)(h:wpAnyH P .any ops Q S n L' (a.put (some t) v) w):wpAnyH P .any ops Q S (n+1) L a w:=
 wpAnyH_take (aez hi) hs st.1 st.2.1 (by rw[ht];exact fun c a w=>hQ c a _ _ w) (.inl ⟨hw,hy⟩) hS (by rw[st.2.2,ht];exact h)
theorem auQ {L L':Array Bool}{i n:Nat}{a:Act}{w:World}(st:Region.ready .any ops L=[i]∧L.setIfInBounds i true=L')(h:wpOp P ops Q i (fun a' w'=>S w'∧wpAnyH P .any ops Q S n L' a' w') a w):wpAnyH P .any ops Q S (n+1) L a w:=
 wpAnyH_all st.1 (by simp) (fun j hj=>by
  rw[List.mem_singleton.1 hj,st.2]
  exact h)
theorem atI {L Li Lj:Array Bool}{i j n:Nat}{a:Act}{w:World}(st:Region.ready .any ops L=[i,j]∧L.setIfInBounds i true=Li∧L.setIfInBounds j true=Lj)(hi:wpOp P ops Q i (fun a' w'=>S w'∧wpAnyH P .any ops Q S n Li a' w') a w)(hj:wpOp P ops Q j (fun a' w'=>S w'∧wpAnyH P .any ops Q S n Lj a' w') a w):wpAnyH P .any ops Q S (n+1) L a w:=
 wpAnyH_all st.1 (by simp) (fun x hx=>by
  simp only[List.mem_cons,List.not_mem_nil,or_false]at hx
  rcases hx with rfl|rfl
  ·rw[st.2.1]
   exact hi
  ·rw[st.2.2]
   exact hj)
theorem ak5 {L Li Lj Lk:Array Bool}{i j k n:Nat}{a:Act}{w:World}(st:Region.ready .any ops L=[i,j,k]∧L.setIfInBounds i true=Li∧L.setIfInBounds j true=Lj∧L.setIfInBounds k true=Lk)(hi:wpOp P ops Q i (fun a' w'=>S w'∧wpAnyH P .any ops Q S n Li a' w') a w)(hj:wpOp P ops Q j (fun a' w'=>S w'∧wpAnyH P .any ops Q S n Lj a' w') a w)(hk:wpOp P ops Q k (fun a' w'=>S w'∧wpAnyH P .any ops Q S n Lk a' w') a w):wpAnyH P .any ops Q S (n+1) L a w:=
 wpAnyH_all st.1 (by simp) (fun x hx=>by
  simp only[List.mem_cons,List.not_mem_nil,or_false]at hx
  rcases hx with rfl|rfl|rfl
  ·rw[st.2.1]
   exact hi
  ·rw[st.2.2.1]
   exact hj
  ·rw[st.2.2.2]
   exact hk)
theorem cZ {L:Array Bool}{a:Act}{w:World}(h:Region.ready .any ops L=[])(k:Q .normal a w):wpAnyH P .any ops Q S 0 L a w:=⟨h,k⟩
theorem aJ {L:Array Bool}{i n:Nat}{a:Act}{w:World}{o:Oper}(ho:(ops.toList.drop i).head? =some o)(hw:Region.wanted o (yielded ops a.tmps)=true)(h:∀K':Act→World→Prop,Shut (∀a w,S w→wpAnyH P .any ops Q S n L a w→K' a w)→Oper.wp P o a w K' Q):wpOp P ops Q i (fun a' w'=>S w'∧wpAnyH P .any ops Q S n L a' w') a w:=by
 have hs:=h (fun a' w'=>S w'∧wpAnyH P .any ops Q S n L a' w') (fun a w h1 h2=>⟨h1,h2⟩)
 unfold wpOp
 rw[aez ho]
 simp only[hw,if_true]
 exact .inl hs
theorem kM {id n:Nat}{a:Act}{w:World}(hm:P.follows .mixedOrders=true)(hn:ops.size=n)(h:wpAnyH P .any ops Q S n (Array.replicate n false) a w.drew):(Code.region id ops true).wp P Q a w:=by
 subst hn
 exact wp_region_held (S:=S) hm h
end
def bG (ops:Array Oper) (n m i k:Nat):Bool:=Region.free .any ops (aY n m) i&&((Region.ready .any ops (aY n m)).contains i&&((aY n m).setIfInBounds i true==aY n k))
def eQ (ops:Array Oper) (n m:Nat) (l ks:List Nat):Bool:=(Region.ready .any ops (aY n m)==l)&&((l.zip ks).all fun x=>(aY n m).setIfInBounds x.1 true==aY n x.2)
section
variable {P:Program} {ops:Array Oper} {Q:Exit→Act→World→Prop} {S:World→Prop} {N m i j k k1 k2 k3 n:Nat} {a b:Act} {w:World}
theorem bu {oi:Oper}{v:Value}{t:Tmp}(st:bG ops N m i k=true)(hS:S w)(h:wpAnyH P .any ops Q S n (aY N k) b w)(hs:Region.noSelect ops=true:=by kernel_rfl)(hQ:∀c a t v w,Q (.panic c) (Act.put a (some t) v) w→Q (.panic c) a w:=by exact fun _ _ _ _ _ h=>h)(hi:(ops.toList.drop i).head? =some oi:=by exact rfl)(ht:oi.dst=some t:=by exact rfl)(hw:Region.wanted oi (yielded ops a.tmps)=true:=by exact(by rfl))
  (hy:∀w,S w→(execOp a.eval oi).run P w=.ok (.value v) w:=by
   intro w hS
   (try dsimp only at hS)
   go_simp
   all_goals with_reducible rfl)
  (ha:a.put (some t) v=b:=by
   simp only[Act.put,List.setIfInBounds_toArray,List.set_cons_zero,List.set_cons_succ]
   try rfl):wpAnyH P .any ops Q S (n+1) (aY N m) a w:=by
 simp only[bG,Bool.and_eq_true,beq_iff_eq]at st
 exact apt ⟨st.1,st.2.1,st.2.2⟩ hs hQ hS hi ht hw hy (ha▸h)
theorem bf {L:Array Bool}{K:Act→World→Prop}(hK:Shut (∀a w,S w→wpAnyH P .any ops Q S n L a w→K a w))(hS:S w)(h:wpAnyH P .any ops Q S n L b w)
  (ha:a=b:=by
   (try simp only[Act.put,List.setIfInBounds_toArray,List.set_cons_zero,List.set_cons_succ])
   try rfl):K a w:=hK.out _ _ hS (ha▸h)
theorem dm (st:eQ ops N m [i] [k]=true)(h:wpOp P ops Q i (fun a' w'=>S w'∧wpAnyH P .any ops Q S n (aY N k) a' w') a w):wpAnyH P .any ops Q S (n+1) (aY N m) a w:=by
 simp only[eQ,List.zip_cons_cons,List.zip_nil_right,List.all_cons,List.all_nil,Bool.and_eq_true,beq_iff_eq,Bool.and_true]at st
 exact auQ st h
theorem qG (st:eQ ops N m [i,j] [k,k1]=true)(h:wpOp P ops Q i (fun a' w'=>S w'∧wpAnyH P .any ops Q S n (aY N k) a' w') a w)(h1:wpOp P ops Q j (fun a' w'=>S w'∧wpAnyH P .any ops Q S n (aY N k1) a' w') a w):wpAnyH P .any ops Q S (n+1) (aY N m) a w:=by
 simp only[eQ,List.zip_cons_cons,List.zip_nil_right,List.all_cons,List.all_nil,Bool.and_eq_true,beq_iff_eq,Bool.and_true]at st
 exact atI ⟨st.1,st.2.1,st.2.2⟩ h h1
theorem gn3 {q:Nat}(st:eQ ops N m [i,j,q] [k,k1,k2]=true)(h:wpOp P ops Q i (fun a' w'=>S w'∧wpAnyH P .any ops Q S n (aY N k) a' w') a w)(h1:wpOp P ops Q j (fun a' w'=>S w'∧wpAnyH P .any ops Q S n (aY N k1) a' w') a w)(h2:wpOp P ops Q q (fun a' w'=>S w'∧wpAnyH P .any ops Q S n (aY N k2) a' w') a w):wpAnyH P .any ops Q S (n+1) (aY N m) a w:=by
 simp only[eQ,List.zip_cons_cons,List.zip_nil_right,List.all_cons,List.all_nil,Bool.and_eq_true,beq_iff_eq,Bool.and_true]at st
 exact ak5 ⟨st.1,st.2.1,st.2.2.1,st.2.2.2⟩ h h1 h2
end
theorem auH:Array.replicate 9 false=aY 9 0:=by kernel_rfl
theorem aqx:(aB 3 f185).size=9:=by kernel_rfl
theorem aqY:bG (aB 3 f185) 9 0 0 1=true:=by kernel_rfl
theorem aoa:bG (aB 3 f185) 9 1 2 5=true:=by kernel_rfl
theorem apO:bG (aB 3 f185) 9 5 4 21=true:=by kernel_rfl
theorem as7:eQ (aB 3 f185) 9 21 [1,5,7] [23,53,149]=true:=by kernel_rfl
theorem atU:eQ (aB 3 f185) 9 23 [3,5,7] [31,55,151]=true:=by kernel_rfl
theorem auk:eQ (aB 3 f185) 9 31 [5,7] [63,159]=true:=by kernel_rfl
theorem aca:eQ (aB 3 f185) 9 63 [6,7] [127,191]=true:=by kernel_rfl
theorem aaH:eQ (aB 3 f185) 9 127 [7] [255]=true:=by kernel_rfl
theorem fO:eQ (aB 3 f185) 9 255 [8] [511]=true:=by kernel_rfl
theorem gJ:Region.ready .any (aB 3 f185) (aY 9 511)=[]:=by kernel_rfl
theorem ik:eQ (aB 3 f185) 9 191 [6] [255]=true:=by kernel_rfl
theorem aaf:eQ (aB 3 f185) 9 159 [5] [191]=true:=by kernel_rfl
theorem ah0:eQ (aB 3 f185) 9 55 [3,7] [63,183]=true:=by kernel_rfl
theorem mV:eQ (aB 3 f185) 9 183 [3] [191]=true:=by kernel_rfl
theorem af0:eQ (aB 3 f185) 9 151 [3,5] [159,183]=true:=by kernel_rfl
theorem as3:eQ (aB 3 f185) 9 53 [1,7] [55,181]=true:=by kernel_rfl
theorem afk:eQ (aB 3 f185) 9 181 [1] [183]=true:=by kernel_rfl
theorem ao9:eQ (aB 3 f185) 9 149 [1,5] [151,181]=true:=by kernel_rfl
def cpl (z:Int):Int:=bits BinOp.xor IntKind.u8 (if IntKind.u8.signed=true then -1 else IntKind.u8.max) z
structure Lists (m bl base:Nat) (w:World) (vs:Nat→Value) (zs:Nat→List Int):Prop where
 cell:∀i,i<m→w.cell? ⟨bl,i,none⟩=some (vs i)
 own:∀i,i<m→Own .u8 5 base w (vs i) (zs i)
 apart:∀i j,i<m→j<m→i≠j→(vs i).ownBlock=none∨(vs i).ownBlock≠(vs j).ownBlock
 table:∀i,i<m→(vs i).ownBlock≠some bl
 lens:∀i,i<m→(zs i).length≤150000000000000
structure Copies (m bl base:Nat) (w0 wr:World) (vs us:Nat→Value) (zs:Nat→List Int) (k:Nat):Prop where
 cell:∀i,i<m→wr.cell? ⟨bl,i,none⟩=some (vs i)
 was:∀i,i<m→wr.cell? ⟨w0.heap.size,i,none⟩=some (us i)
 new:∀i,i<m→Own .u8 5 (w0.heap.size+1) wr (us i) (zs i)
 done:∀i,i<k→i<m→Own .u8 5 base wr (vs i) ((zs i).map cpl)
 left:∀i,k≤i→i<m→Own .u8 5 base wr (vs i) (zs i)
 below:Below base w0 wr
 keep:∀g,g<w0.heap.size→(∀i,i<m→(vs i).ownBlock≠some g)→wr.heap[g]? =w0.heap[g]?
def two {α:Type} (a b:α):Nat→α|0=>a|_=>b
theorem auU:Array.replicate 28 false=aY 28 0:=by kernel_rfl
theorem apF:(aB 1 f106).size=28:=by kernel_rfl
theorem apA:bG (aB 1 f106) 28 0 0 1=true:=by kernel_rfl
theorem apC:bG (aB 1 f106) 28 1 1 3=true:=by kernel_rfl
theorem ard:bG (aB 1 f106) 28 3 2 7=true:=by kernel_rfl
theorem aqN:bG (aB 1 f106) 28 7 3 15=true:=by kernel_rfl
theorem alS:bG (aB 1 f106) 28 15 4 31=true:=by kernel_rfl
theorem alA:bG (aB 1 f106) 28 31 5 63=true:=by kernel_rfl
theorem anb:bG (aB 1 f106) 28 63 6 127=true:=by kernel_rfl
theorem ajF:bG (aB 1 f106) 28 127 7 255=true:=by kernel_rfl
theorem ajI:bG (aB 1 f106) 28 255 8 511=true:=by kernel_rfl
theorem ajR:bG (aB 1 f106) 28 511 9 1023=true:=by kernel_rfl
theorem afM:bG (aB 1 f106) 28 1023 11 3071=true:=by kernel_rfl
theorem agZ:bG (aB 1 f106) 28 3071 12 7167=true:=by kernel_rfl
theorem agB:bG (aB 1 f106) 28 7167 13 15359=true:=by kernel_rfl
theorem ad1:bG (aB 1 f106) 28 15359 14 31743=true:=by kernel_rfl
theorem aec:bG (aB 1 f106) 28 31743 15 64511=true:=by kernel_rfl
theorem aed:bG (aB 1 f106) 28 64511 16 130047=true:=by kernel_rfl
theorem ab5:bG (aB 1 f106) 28 130047 17 261119=true:=by kernel_rfl
theorem acQ:bG (aB 1 f106) 28 261119 18 523263=true:=by kernel_rfl
theorem ab7:bG (aB 1 f106) 28 523263 19 1047551=true:=by kernel_rfl
theorem aa3:bG (aB 1 f106) 28 1047551 20 2096127=true:=by kernel_rfl
theorem abA:bG (aB 1 f106) 28 2096127 22 6290431=true:=by kernel_rfl
theorem aba:bG (aB 1 f106) 28 6290431 23 14679039=true:=by kernel_rfl
theorem aag:bG (aB 1 f106) 28 14679039 24 31456255=true:=by kernel_rfl
theorem ad9:eQ (aB 1 f106) 28 31456255 [10,25] [31457279,65010687]=true:=by kernel_rfl
theorem ad6:eQ (aB 1 f106) 28 31457279 [21,25] [33554431,65011711]=true:=by kernel_rfl
theorem aea:eQ (aB 1 f106) 28 33554431 [25] [67108863]=true:=by kernel_rfl
theorem lC:bG (aB 1 f106) 28 67108863 26 134217727=true:=by kernel_rfl
theorem mY:eQ (aB 1 f106) 28 134217727 [27] [268435455]=true:=by kernel_rfl
theorem acC:Region.ready .any (aB 1 f106) (aY 28 268435455)=[]:=by kernel_rfl
theorem wJ:eQ (aB 1 f106) 28 65011711 [21] [67108863]=true:=by kernel_rfl
theorem aeb:eQ (aB 1 f106) 28 65010687 [10] [65011711]=true:=by kernel_rfl
theorem ata:Array.replicate 15 false=aY 15 0:=by kernel_rfl
theorem an6:(aB 4 f74).size=15:=by kernel_rfl
theorem apV:bG (aB 4 f74) 15 0 0 1=true:=by kernel_rfl
theorem aqL:bG (aB 4 f74) 15 1 1 3=true:=by kernel_rfl
theorem aps:bG (aB 4 f74) 15 3 2 7=true:=by kernel_rfl
theorem apc:bG (aB 4 f74) 15 7 3 15=true:=by kernel_rfl
theorem anq:bG (aB 4 f74) 15 15 4 31=true:=by kernel_rfl
theorem alO:bG (aB 4 f74) 15 31 6 95=true:=by kernel_rfl
theorem alX:bG (aB 4 f74) 15 95 7 223=true:=by kernel_rfl
theorem ajx:bG (aB 4 f74) 15 223 8 479=true:=by kernel_rfl
theorem aje:bG (aB 4 f74) 15 479 9 991=true:=by kernel_rfl
theorem ahu:bG (aB 4 f74) 15 991 10 2015=true:=by kernel_rfl
theorem akS:eQ (aB 4 f74) 15 2015 [5,12] [2047,6111]=true:=by kernel_rfl
theorem anJ:eQ (aB 4 f74) 15 2047 [11,12] [4095,6143]=true:=by kernel_rfl
theorem alp:eQ (aB 4 f74) 15 4095 [12] [8191]=true:=by kernel_rfl
theorem xz:eQ (aB 4 f74) 15 8191 [13] [16383]=true:=by kernel_rfl
theorem oH:bG (aB 4 f74) 15 16383 14 32767=true:=by kernel_rfl
theorem acg:Region.ready .any (aB 4 f74) (aY 15 32767)=[]:=by kernel_rfl
theorem acY:eQ (aB 4 f74) 15 6143 [11] [8191]=true:=by kernel_rfl
theorem anl:eQ (aB 4 f74) 15 6111 [5] [6143]=true:=by kernel_rfl
theorem putAt {V:World}{R:Nat}{t:TypeId}{cs:Array Value}(hR:V.heap[R]? =some (.cells cs t (0,0)))(j:Nat)(u:Value):
  ∃V',V.setCell ⟨R,j,none⟩ u=V'∧V'.heap[R]? =some (.cells (cs.setIfInBounds j u) t (0,0))∧V.grownBy V' (some R)∧V.frozen? ⟨R,j,none⟩=false:=
 ⟨_,rfl,aF hR j u,ax _ _ _,aA hR j⟩
end Go.Proofs.YtlmkaljjocflmaaGreatDoor
