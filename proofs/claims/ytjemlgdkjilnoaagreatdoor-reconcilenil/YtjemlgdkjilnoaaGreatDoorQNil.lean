/- Proved: reconciling a state that is not there is refused. Its condition: the start, in which the variable page.most holds what its text lays (a card). -/
import Derived.Test.YtjemlgdkjilnoaaGreatDoorH39
import Derived.Test.YtjemlgdkjilnoaaGreatDoorH30
import Derived.Test.YtjemlgdkjilnoaaGreatDoorCards
import Derived.Test.YtjemlgdkjilnoaaGreatDoorTie
import Derived.Deep.DeepHandedRow
import Derived.Lib.LaidTab
import Derived.Shelf.LaysM
import Derived.Test.YtjemlgdkjilnoaaGreatDoorRows
import Derived.ProofKit
import Derived.OpenShut
import Derived.ShutString
import Derived.ChangeOld
import Derived.Below
import Derived.SizedLaws
import Derived.Test.YtjemlgdkjilnoaaGreatDoorH42
import Derived.Test.YtjemlgdkjilnoaaGreatDoorH35
set_option maxRecDepth 100000
set_option maxHeartbeats 8000000
namespace Go.Proofs.YtjemlgdkjilnoaaGreatDoor
open Go.RowKit
set_option linter.unusedVariables false
theorem yR (m:Mw)(w:World)(hi:gQ w m)(hf:dC m)(hm:fQ w):Calls Tryz.prog 4 #[mv m] w fun E w'=>E=.returned (.bool true)∧Below w.heap.size w w':=by
 obtain⟨w1,hw1,s1,b1,P1⟩:=oN w m
 have N1:=hide (xB none w1 (.inl rfl) m)
 rw[show vp Pm.no=.agg #[.int .i64 0,.int .u8 0,.int .i64 0,.int .u8 0,.int .i64 0,.int .i64 0]from rfl]at N1
 have HM:Hid (mv m=.agg #[.int .i64 m.k,.int .i64 m.e,.int .u8 m.r,.int .i64 m.n,m.vs,.int .i64 m.f,.int .i64 m.p,m.vc]):=hide rfl
 rw[HM.out]at N1⊢
 obtain⟨a0,a1,a2,a3,a4,a5,a6,a7⟩:=P1.ei
 have H1:=hide (And.intro b1 (And.intro P1 hm))
 clear b1 P1 hm hi hf
 go_enter Tryz.func4,Tryz.ntmps4
 go_wp2_with fail
 refine N1.out.mono ?_
 rintro E w2 ⟨rfl,b2⟩
 obtain⟨w3,hw3,s3,b3,P3⟩:=ak w2 #[.int .i64 0,.int .u8 0,.int .i64 0,.int .u8 0,.int .i64 0,.int .i64 0] 35
 obtain⟨n0,n1,n2,n3,n4,n5,m0,m1,m2,m3,m4,m5⟩:=qJ P3
 obtain⟨v0,v1,v2,v3,v4,v5⟩:=aN P3
 obtain⟨w4,hw4,s4,b4,P4⟩:=ak w3 zst 56
 have b14:=(b2.trans (b3.mono b2.size)).trans (b4.mono (by have:=b2.size;omega))
 obtain⟨a0,a1,a2,a3,a4,a5,a6,a7⟩:=fP.ei ((b14.block _ (ax H1.out.2.1)).trans H1.out.2.1:fP w4 w.heap.size m)
 have N2:=hide (xB (some ⟨w3.heap.size,0,none⟩) w4 (.inr ⟨_,rfl,P4⟩) m)
 rw[HM.out,show vp Pm.no=.agg #[.int .i64 0,.int .u8 0,.int .i64 0,.int .u8 0,.int .i64 0,.int .i64 0]from rfl]at N2
 have P34:=hide ((b4.block _ (ax P3)).trans P3)
 have B4:=hide (H1.out.1.trans (b14.mono H1.out.1.size))
 unfold zst at hw4
 clear N1 b2 b3 P3 b4 P4 b14 s3 s4
 go_wp2_with fail
 refine N2.out.mono ?_
 rintro E w5 ⟨rfl,b5⟩
 clear n0 n1 n2 n3 n4 n5 m0 m1 m2 m3 m4 m5 v0 v1 v2 v3 v4 v5 a0 a1 a2 a3 a4 a5 a6 a7 hw3 hw4 hw1
 obtain⟨w6,tO,s6,b6,P6⟩:=ak w5 #[.int .i64 0,.int .u8 0,.int .i64 0,.int .u8 0,.int .i64 0,.int .i64 0] 35
 obtain⟨n0,n1,n2,n3,n4,n5,m0,m1,m2,m3,m4,m5⟩:=qJ P6
 obtain⟨v0,v1,v2,v3,v4,v5⟩:=aN P6
 have b46:=b5.trans (b6.mono b5.size)
 have LI:=hide (zt w6 (H1.out.2.2.below (B4.out.trans (b46.mono B4.out.size))))
 have P36:=hide ((b46.block _ (ax P34.out)).trans P34.out)
 have Q6:=hide P6
 have B6:=hide (B4.out.trans (b46.mono B4.out.size))
 clear N2 b5 b6 P6 b46 P34 B4 s6
 go_wp2_with fail
 refine LI.out.mono ?_
 rintro E w7 ⟨rfl,b7⟩
 have K:Hid (∀W,Below w7.heap.size w7 W→W.heap[w2.heap.size]? =some (.cells #[.int .i64 0,.int .u8 0,.int .i64 0,.int .u8 0,.int .i64 0,.int .i64 0] 35 (0,0))∧W.heap[w5.heap.size]? =some (.cells #[.int .i64 0,.int .u8 0,.int .i64 0,.int .u8 0,.int .i64 0,.int .i64 0] 35 (0,0))∧Below w.heap.size w W):=hide fun W hW=>by
  have b:=b7.trans (hW.mono b7.size)
  exact⟨(b.block _ (ax P36.out)).trans P36.out,(b.block _ (ax Q6.out)).trans Q6.out,B6.out.trans (b.mono B6.out.size)⟩
 have SP:Hid (∀W,Calls Tryz.prog 14 #[.agg #[.int .i64 0,.int .u8 0,.int .i64 0,.int .u8 0,.int .i64 0,.int .i64 0],.agg #[.int .i64 0,.int .u8 0,.int .i64 0,.int .u8 0,.int .i64 0,.int .i64 0]] W fun E w'=>E=.returned (.bool true)∧Below W.heap.size W w'):=hide fun W=>qB Pm.no Pm.no W
 obtain⟨k1,k2,_⟩:=K.out w7 (Below.refl _ _)
 obtain⟨e0,e1,e2,e3,e4,e5⟩:=aN k1
 clear LI b7 k1 k2 P36 Q6 B6
 go_wp2_with fail
 refine(SP.out _).mono ?_
 rintro E w8 ⟨rfl,b8⟩
 obtain⟨k1,k2,_⟩:=K.out w8 b8
 obtain⟨e0,e1,e2,e3,e4,e5⟩:=aN k2
 have B8:=hide b8
 clear b8 k1 k2
 go_wp2_with fail
 refine(SP.out _).mono ?_
 rintro E w9 ⟨rfl,b9⟩
 have B:=hide (K.out w9 (B8.out.trans (b9.mono B8.out.size))).2.2
 clear SP b9 K B8
 go_wp2
 go_ret
 exact⟨rfl,B.out⟩
end Go.Proofs.YtjemlgdkjilnoaaGreatDoor
namespace Go.Proofs.YtjemlgdkjilnoaaGreatDoor
open Go.ChangeShapes Go.WideShapes Go.ChangeAt Go.RowKit
open Go.ChangeMaps (open_string shut_string)
set_option linter.unusedVariables false
namespace reconcileNilFrame
theorem own:ownKnob Tryz.prog.godebug=none:=by kernel_rfl
theorem laidOut:laidOutB Tryz.prog=true:=by kernel_rfl
theorem asb:Tryz.prog.cellsOf 40=8:=by kernel_rfl
theorem ao5:Tryz.prog.cellsOf 106=2:=by kernel_rfl
theorem apI:Tryz.prog.bytesOf 106=16:=by kernel_rfl
theorem asw:Tryz.prog.cellsOf 65=3:=by kernel_rfl
theorem asC:Tryz.prog.bytesOf 65=40:=by kernel_rfl
theorem ar2:Tryz.prog.cellsOf 92=3:=by kernel_rfl
theorem arF:Tryz.prog.bytesOf 92=40:=by kernel_rfl
theorem contract (H:Type)(enc:TypeId×Value→H)(W:World)(base:Nat)(args:Array Value)(ds gs:List (DataW H))(before:List MemPlace)
  (hval0:∀(j:Nat) t v,Tryz.f4.params[j]? =some t→args[j]? =some v→Value.okWide Tryz.prog W .any base t v)
  (hW:DataW.Whole enc Tryz.prog Tryz.f4.params.toList Rows.reconcileNilSpec.vars false W args.toList ds gs before)
  (hsz0:(DataW.weightsEach Tryz.prog (Tryz.f4.params.toList++Rows.reconcileNilSpec.plain.varTypes Tryz.prog) (ds++gs)).all (·≤reachBytes)=true) (hsh:W.ShapedOpen Tryz.prog) (hld:laidMetH Tryz.prog Rows.reconcileNilRow.laid W):
  Calls Tryz.prog 4 args W fun e W'=>∃v,e=.returned v∧Rows.reconcileNilSpec.post enc Tryz.prog Tryz.f4 false true false false W args v W':=by
 have hsz:(DataW.weightsEach Tryz.prog (Tryz.f4.params.toList++Rows.reconcileNilSpec.plain.varTypes Tryz.prog) (ds++gs)).all (·≤reachBytes)=true:=hsz0
 clear hsz0
 have hval:∀(j:Nat) t v,Tryz.f4.params[j]? =some t→args[j]? =some v→Value.okWide Tryz.prog W .any base t v:=hval0
 have hW':=hW
 obtain⟨p,q,hA0,hV,rfl,hfz,hnd⟩:=hW
 have hA:DataW.TrodAll enc Tryz.prog W 0 (fun _=>true) true Tryz.f4.params.toList args.toList ds p:=hA0
 rw[Tryz.params4]at hA hval hsz
 obtain⟨v0,vs0,d0,ds0,p0,q0,hargs,rfl,rfl,h0,r0⟩:=trodAll_cons hA
 obtain⟨rfl,rfl,rfl⟩:=trodAll_nil r0
 obtain rfl:args=#[v0]:=by cases args;simp_all
 obtain⟨rfl,rfl⟩:=trodVars_none hV
 have k0:=h0
 have kP:∀x∈p0,x.block<W.heap.size:=by obtain⟨m,hm⟩:=k0;exact DataW.trod_lt m _ _ _ hm
 have ww0:∀n∈d0.weights Tryz.prog 40,n≤reachBytes:=fun n hn=>of_decide_eq_true (List.all_eq_true.1 hsz n (DataW.weights_mem_each (j:=0) (t:=40) rfl rfl n hn))
 obtain⟨z0,rfl,w0,g0⟩:=aen Tryz.underlying40 (by kernel_rfl) asb Tryz.underlying3 Tryz.underlying3 Tryz.underlying32 Tryz.underlying3 Tryz.underlying38 Tryz.underlying3 Tryz.underlying3 Tryz.underlying26 Tryz.underlying106 (by kernel_rfl) ao5 apI Tryz.underlying3 Tryz.underlying3 Tryz.underlying65 (by kernel_rfl) asw asC Tryz.underlying3 Tryz.underlying3 Tryz.underlying63 Tryz.underlying92 (by kernel_rfl) ar2 arF Tryz.underlying4 Tryz.underlying9 Tryz.underlying9 (hval 0 40 v0 rfl rfl) h0 ww0
 clear hA0 hval0
 refine(yR z0 W w0 g0 (akO hld)).mono fun e W' ⟨he,aG⟩=>?_
 subst he
 exact⟨_,rfl,_,_,_,[],_,[],hW',trodAll_mk1 (shut_bool Tryz.underlying4 _),(trodAll_cons_mk (Below.trod laidOut (by kernel_rfl) (of_decide_eq_true (by kernel_rfl)) k0 aG kP) trodAll_mk0),rfl,aG.frame _,fun h=>by cases h⟩
def wm (cs:Array Value):Obj→Obj
 |.cells _ t frozen=>.cells cs t frozen
 |o=>o
theorem lifted (os:Os)(started:os.Started)(H:Type)(enc:TypeId×Value→H)(F:Stop.Interp):
  ReturnsInHanded {} Tryz.checked os 4 .any ((OpenSpec.ofChange Rows.reconcileNilSpec).preRow enc Tryz.prog Tryz.f4 Rows.reconcileNilRow.domain false Rows.reconcileNilRow.laid) (((OpenSpec.ofChange Rows.reconcileNilSpec).at F).post enc Tryz.prog Tryz.f4 false true false false):=by
 refine returnsInHanded_of_row (C:=Tryz.checked) (s:=OpenSpec.ofChange Rows.reconcileNilSpec) own started (by kernel_rfl) Tryz.func4
  (witness_row_at (enc:=enc) (C:=Tryz.checked) false ({World.holding Tryz.prog os ⟨#[],#[],[]⟩with heap:=((World.holding Tryz.prog os ⟨#[],#[],[]⟩).heap.modify 0 (wm (#[.int .i64 1048576,.int .i64 3,.int .i64 1048576,.int .i64 4,.int .i64 1048576,.int .i64 1073741824])))}:World) #[.agg #[.int .i64 0,.int .i64 0,.int .u8 0,.int .i64 0,.slice none 0 0,.int .i64 0,.int .i64 0,.slice none 0 0]] rfl (by kernel_rfl) (by kernel_rfl) (by kernel_rfl)
   (OpenSpec.preRow_of_cond 8 (x:=([.agg [.lit (.int .i64 0),.lit (.int .i64 0),.lit (.int .u8 0),.lit (.int .i64 0),.nil,.lit (.int .i64 0),.lit (.int .i64 0),.nil]],[],[])) (by kernel_rfl) (by kernel_rfl) (fun k hk=>by cases hk) (by kernel_rfl) (laidMet_of_run' 8 (by kernel_rfl) (by kernel_rfl)))) ?_
 intro W base args ds gs before hval hW _ _ hsz hld hsh _
 exact contract H enc W base args ds gs before hval hW hsz hsh hld
theorem said:Rows.ReconcileNilSaid:=
 OpenClaim.holds_of_cond 4 Tryz.f4 rfl rfl rfl rfl rfl rfl rfl ⟨rfl,rfl,rfl,rfl,rfl⟩ rfl rfl rfl rfl rfl (by kernel_rfl) Tryz.func4 (by kernel_rfl)
  (of_decide_eq_true (by kernel_rfl)) (by unfold Func.isWrapper;first|(rw[if_pos (by decide+kernel)];kernel_rfl)|(rw[if_neg (by decide+kernel)];exact⟨rfl,rfl⟩))
  (fun os started H enc _ F=>by rw[OpenClaim.pre_eq_preRow];exact lifted os started H enc F)
theorem plain (f:FuncId)(fn:Func)(hf:Tryz.pinned.checked.prog.funcNamed Rows.reconcileNilRow.func=some f)(hfn:Tryz.pinned.checked.prog.funcs[f]? =some fn):
  false=Tryz.pinned.checked.prog.looks []∧∀(j:Nat) t,fn.params[j]? =some t→Tryz.pinned.checked.prog.wantsStandIn t=false:=by
 obtain rfl:f=4:=Option.some.inj ((show Tryz.prog.funcNamed Rows.reconcileNilRow.func=some 4 by kernel_rfl).symm.trans hf)|>.symm
 obtain rfl:fn=Tryz.f4:=(Option.some.inj (Tryz.func4.symm.trans hfn)).symm
 refine⟨by kernel_rfl,fun j t ht=>?_⟩
 rw[Tryz.params4]at ht
 have hm:=Array.mem_of_getElem? ht
 simp at hm
 subst hm
 exact(show Tryz.prog.wantsStandIn 40=false by kernel_rfl)
end reconcileNilFrame
theorem reconcileNil_card:Rows.ReconcileNilCardSaid:=
 Claim7.holds_tied_plain_at .later [] _ _ _ _ reconcileNilFrame.said (fun _ h=>by cases h) (by kernel_rfl) (fun _ h=>by cases h) reconcileNil_row_tie rfl ⟨rfl,rfl⟩ (by kernel_rfl) rfl reconcileNilFrame.plain (by kernel_rfl)
#print axioms reconcileNil_card
end Go.Proofs.YtjemlgdkjilnoaaGreatDoor
