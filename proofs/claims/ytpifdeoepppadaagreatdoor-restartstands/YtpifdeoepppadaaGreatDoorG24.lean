/- Texts of one layer, one behind the other. -/
import Derived.Test.YtpifdeoepppadaaGreatDoorG19
import Derived.Test.YtpifdeoepppadaaGreatDoorProg
set_option maxRecDepth 100000
set_option maxHeartbeats 8000000
namespace Go.Proofs.YtpifdeoepppadaaGreatDoor
open Go.RowKit
set_option linter.unusedVariables false
section
variable {P:Program} {ops:Array Oper} {Q:Exit→Act→World→Prop} {S:World→Prop}
theorem aG {L L':Array Bool}{i n:Nat}{a:Act}{w:World}{oi:Oper}{v:Value}{t:Tmp}(st:Region.free .any ops L i=true∧(Region.ready .any ops L).contains i=true∧L.setIfInBounds i true=L')(hs:Region.noSelect ops=true)(hQ:∀c a t v w,Q (.panic c) (Act.put a (some t) v) w→Q (.panic c) a w)(hS:S w)(hi:(ops.toList.drop i).head? =some oi)(ht:oi.dst=some t)(hw:Region.wanted oi (yielded ops a.tmps)=true)(hy:∀w,S w→(execOp a.eval oi).run P w=.ok (.value v) w)(h:wpAnyH P .any ops Q S n L' (a.put (some t) v) w):wpAnyH P .any ops Q S (n+1) L a w:=
 wpAnyH_take (zT hi) hs st.1 st.2.1 (by rw[ht];exact fun c a w=>hQ c a _ _ w) (.inl ⟨hw,hy⟩) hS (by rw[st.2.2,ht];exact h)
theorem aQ {L L':Array Bool}{i n:Nat}{a:Act}{w:World}(st:Region.ready .any ops L=[i]∧L.setIfInBounds i true=L')(h:wpOp P ops Q i (fun a' w'=>S w'∧wpAnyH P .any ops Q S n L' a' w') a w):wpAnyH P .any ops Q S (n+1) L a w:=
 wpAnyH_all st.1 (by simp) (fun j hj=>by
  rw[List.mem_singleton.1 hj,st.2]
  exact h)
theorem iF {L Li Lj:Array Bool}{i j n:Nat}{a:Act}{w:World}(st:Region.ready .any ops L=[i,j]∧L.setIfInBounds i true=Li∧L.setIfInBounds j true=Lj)(hi:wpOp P ops Q i (fun a' w'=>S w'∧wpAnyH P .any ops Q S n Li a' w') a w)(hj:wpOp P ops Q j (fun a' w'=>S w'∧wpAnyH P .any ops Q S n Lj a' w') a w):wpAnyH P .any ops Q S (n+1) L a w:=
 wpAnyH_all st.1 (by simp) (fun x hx=>by
  simp only[List.mem_cons,List.not_mem_nil,or_false]at hx
  rcases hx with rfl|rfl
  ·rw[st.2.1]
   exact hi
  ·rw[st.2.2]
   exact hj)
theorem aex {L Li Lj Lk:Array Bool}{i j k n:Nat}{a:Act}{w:World}(st:Region.ready .any ops L=[i,j,k]∧L.setIfInBounds i true=Li∧L.setIfInBounds j true=Lj∧L.setIfInBounds k true=Lk)(hi:wpOp P ops Q i (fun a' w'=>S w'∧wpAnyH P .any ops Q S n Li a' w') a w)(hj:wpOp P ops Q j (fun a' w'=>S w'∧wpAnyH P .any ops Q S n Lj a' w') a w)(hk:wpOp P ops Q k (fun a' w'=>S w'∧wpAnyH P .any ops Q S n Lk a' w') a w):wpAnyH P .any ops Q S (n+1) L a w:=
 wpAnyH_all st.1 (by simp) (fun x hx=>by
  simp only[List.mem_cons,List.not_mem_nil,or_false]at hx
  rcases hx with rfl|rfl|rfl
  ·rw[st.2.1]
   exact hi
  ·rw[st.2.2.1]
   exact hj
  ·rw[st.2.2.2]
   exact hk)
theorem dz {L:Array Bool}{a:Act}{w:World}(h:Region.ready .any ops L=[])(k:Q .normal a w):wpAnyH P .any ops Q S 0 L a w:=⟨h,k⟩
theorem aM {L:Array Bool}{i n:Nat}{a:Act}{w:World}{o:Oper}(ho:(ops.toList.drop i).head? =some o)(hw:Region.wanted o (yielded ops a.tmps)=true)(h:∀K':Act→World→Prop,Shut (∀a w,S w→wpAnyH P .any ops Q S n L a w→K' a w)→Oper.wp P o a w K' Q):wpOp P ops Q i (fun a' w'=>S w'∧wpAnyH P .any ops Q S n L a' w') a w:=by
 have hs:=h (fun a' w'=>S w'∧wpAnyH P .any ops Q S n L a' w') (fun a w h1 h2=>⟨h1,h2⟩)
 unfold wpOp
 rw[zT ho]
 simp only[hw,if_true]
 exact .inl hs
theorem any_append {L:Array Bool}{i n:Nat}{a:Act}{w w':World}{o:Oper}{v vx v':Value}(ho:(ops.toList.drop i).head? =some o)(hw:Region.wanted o (yielded ops a.tmps)=true)(s x:Operand)(t:TypeId)(hop:o.op=.call {callee:=.builtin .append,args:=#[s,x],argTypes:=#[t,t]})(hs:a.eval s=v)(hx:a.eval x=vx)(hr:(Builtin.append_ #[t,t] o.type #[v,vx]).run P w=.ok v' w')(h:S w'∧wpAnyH P .any ops Q S n L (a.put o.dst v') w'):wpOp P ops Q i (fun a' w'=>S w'∧wpAnyH P .any ops Q S n L a' w') a w:=by
 unfold wpOp
 rw[zT ho]
 simp only[hw,if_true]
 refine .inl ?_
 unfold Oper.wp execOp
 simp only[hop,resolve,invoke,builtin,Sem.run_bind,Sem.run_pure,Result.andThen_ok,List.map_toArray,List.map_cons,List.map_nil,hs,hx,hr]
 exact h
theorem je {id n:Nat}{a:Act}{w:World}(hm:P.follows .mixedOrders=true)(hn:ops.size=n)(h:wpAnyH P .any ops Q S n (Array.replicate n false) a w.drew):(Code.region id ops true).wp P Q a w:=by
 subst hn
 exact wp_region_held (S:=S) hm h
end
theorem auy:Array.replicate 9 false=aj 9 0:=by kernel_rfl
theorem arv:(au 3 Tryz.f121).size=9:=by kernel_rfl
theorem aqt:Region.free .any (au 3 Tryz.f121) (aj 9 0) 0=true∧(Region.ready .any (au 3 Tryz.f121) (aj 9 0)).contains 0=true∧(aj 9 0).setIfInBounds 0 true=aj 9 1:=⟨by kernel_rfl,by kernel_rfl,by kernel_rfl⟩
theorem ard:Region.free .any (au 3 Tryz.f121) (aj 9 1) 2=true∧(Region.ready .any (au 3 Tryz.f121) (aj 9 1)).contains 2=true∧(aj 9 1).setIfInBounds 2 true=aj 9 5:=⟨by kernel_rfl,by kernel_rfl,by kernel_rfl⟩
theorem arS:Region.free .any (au 3 Tryz.f121) (aj 9 5) 4=true∧(Region.ready .any (au 3 Tryz.f121) (aj 9 5)).contains 4=true∧(aj 9 5).setIfInBounds 4 true=aj 9 21:=⟨by kernel_rfl,by kernel_rfl,by kernel_rfl⟩
theorem atK:Region.ready .any (au 3 Tryz.f121) (aj 9 21)=[1,5,7]∧(aj 9 21).setIfInBounds 1 true=aj 9 23∧(aj 9 21).setIfInBounds 5 true=aj 9 53∧(aj 9 21).setIfInBounds 7 true=aj 9 149:=⟨by kernel_rfl,by kernel_rfl,by kernel_rfl,by kernel_rfl⟩
theorem avj:Region.ready .any (au 3 Tryz.f121) (aj 9 23)=[3,5,7]∧(aj 9 23).setIfInBounds 3 true=aj 9 31∧(aj 9 23).setIfInBounds 5 true=aj 9 55∧(aj 9 23).setIfInBounds 7 true=aj 9 151:=⟨by kernel_rfl,by kernel_rfl,by kernel_rfl,by kernel_rfl⟩
theorem au7:Region.ready .any (au 3 Tryz.f121) (aj 9 31)=[5,7]∧(aj 9 31).setIfInBounds 5 true=aj 9 63∧(aj 9 31).setIfInBounds 7 true=aj 9 159:=⟨by kernel_rfl,by kernel_rfl,by kernel_rfl⟩
theorem adR:Region.ready .any (au 3 Tryz.f121) (aj 9 63)=[6,7]∧(aj 9 63).setIfInBounds 6 true=aj 9 127∧(aj 9 63).setIfInBounds 7 true=aj 9 191:=⟨by kernel_rfl,by kernel_rfl,by kernel_rfl⟩
theorem aaV:Region.ready .any (au 3 Tryz.f121) (aj 9 127)=[7]∧(aj 9 127).setIfInBounds 7 true=aj 9 255:=⟨by kernel_rfl,by kernel_rfl⟩
theorem fT:Region.ready .any (au 3 Tryz.f121) (aj 9 255)=[8]∧(aj 9 255).setIfInBounds 8 true=aj 9 511:=⟨by kernel_rfl,by kernel_rfl⟩
theorem iq:Region.ready .any (au 3 Tryz.f121) (aj 9 511)=[]:=by kernel_rfl
theorem iH:Region.ready .any (au 3 Tryz.f121) (aj 9 191)=[6]∧(aj 9 191).setIfInBounds 6 true=aj 9 255:=⟨by kernel_rfl,by kernel_rfl⟩
theorem aa6:Region.ready .any (au 3 Tryz.f121) (aj 9 159)=[5]∧(aj 9 159).setIfInBounds 5 true=aj 9 191:=⟨by kernel_rfl,by kernel_rfl⟩
theorem ajE:Region.ready .any (au 3 Tryz.f121) (aj 9 55)=[3,7]∧(aj 9 55).setIfInBounds 3 true=aj 9 63∧(aj 9 55).setIfInBounds 7 true=aj 9 183:=⟨by kernel_rfl,by kernel_rfl,by kernel_rfl⟩
theorem oh:Region.ready .any (au 3 Tryz.f121) (aj 9 183)=[3]∧(aj 9 183).setIfInBounds 3 true=aj 9 191:=⟨by kernel_rfl,by kernel_rfl⟩
theorem ahi:Region.ready .any (au 3 Tryz.f121) (aj 9 151)=[3,5]∧(aj 9 151).setIfInBounds 3 true=aj 9 159∧(aj 9 151).setIfInBounds 5 true=aj 9 183:=⟨by kernel_rfl,by kernel_rfl,by kernel_rfl⟩
theorem auh:Region.ready .any (au 3 Tryz.f121) (aj 9 53)=[1,7]∧(aj 9 53).setIfInBounds 1 true=aj 9 55∧(aj 9 53).setIfInBounds 7 true=aj 9 181:=⟨by kernel_rfl,by kernel_rfl,by kernel_rfl⟩
theorem ahY:Region.ready .any (au 3 Tryz.f121) (aj 9 181)=[1]∧(aj 9 181).setIfInBounds 1 true=aj 9 183:=⟨by kernel_rfl,by kernel_rfl⟩
theorem apc:Region.ready .any (au 3 Tryz.f121) (aj 9 149)=[1,5]∧(aj 9 149).setIfInBounds 1 true=aj 9 151∧(aj 9 149).setIfInBounds 5 true=aj 9 181:=⟨by kernel_rfl,by kernel_rfl,by kernel_rfl⟩
end Go.Proofs.YtpifdeoepppadaaGreatDoor
