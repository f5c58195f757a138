/- Proved: each step of an undisturbed reconciliation leaves one phase less, and its record is what was foretold; of the start in which the variable page.most holds what its text lays. -/
import Derived.Test.YtmngcecomcadkaaGreatDoorCards
import Derived.Test.YtmngcecomcadkaaGreatDoorTie
import Derived.Deep.DeepHandedRow
import Derived.Lib.LaidTab
import Derived.Shelf.LaysM
import Derived.Test.YtmngcecomcadkaaGreatDoorRows
import Derived.Test.YtmngcecomcadkaaGreatDoorCH34
import Derived.ProofKit
import Derived.OpenShut
import Derived.ShutString
import Derived.ChangeOld
import Derived.Below
import Derived.SizedLaws
import Derived.Test.YtmngcecomcadkaaGreatDoorCH13
import Derived.Test.YtmngcecomcadkaaGreatDoorCH6
set_option maxRecDepth 100000
set_option maxHeartbeats 8000000
namespace Go.Proofs.YtmngcecomcadkaaGreatDoor
open Go.ChangeShapes Go.WideShapes Go.ChangeAt Go.RowKit
open Go.ChangeMaps (open_string shut_string)
set_option linter.unusedVariables false
namespace reconcileLeftFrame
theorem own:ownKnob Tryz.prog.godebug=none:=by kernel_rfl
theorem laidOut:laidOutB Tryz.prog=true:=by kernel_rfl
theorem aht:Tryz.prog.cellsOf 35=3:=by kernel_rfl
theorem agz:Tryz.prog.bytesOf 35=40:=by kernel_rfl
theorem afE:Tryz.prog.cellsOf 111=3:=by kernel_rfl
theorem afl:Tryz.prog.bytesOf 111=40:=by kernel_rfl
theorem arx:Tryz.prog.cellsOf 26=8:=by kernel_rfl
theorem arX:Tryz.prog.cellsOf 72=2:=by kernel_rfl
theorem ar6:Tryz.prog.bytesOf 72=16:=by kernel_rfl
theorem contract (H:Type)(enc:TypeId×Value→H)(W:World)(base:Nat)(args:Array Value)(ds gs:List (DataW H))(before:List MemPlace)
  (hval0:∀(j:Nat) t v,Tryz.f3.params[j]? =some t→args[j]? =some v→Value.okWide Tryz.prog W .any base t v)
  (hW:DataW.Whole enc Tryz.prog Tryz.f3.params.toList Rows.reconcileLeftSpec.vars false W args.toList ds gs before)
  (hsz0:(DataW.weightsEach Tryz.prog (Tryz.f3.params.toList++Rows.reconcileLeftSpec.plain.varTypes Tryz.prog) (ds++gs)).all (·≤reachBytes)=true) (hsh:W.ShapedOpen Tryz.prog) (hld:laidMetH Tryz.prog Rows.reconcileLeftRow.laid W):
  Calls Tryz.prog 3 args W fun e W'=>∃v,e=.returned v∧Rows.reconcileLeftSpec.post enc Tryz.prog Tryz.f3 false true false false W args v W':=by
 have hsz:(DataW.weightsEach Tryz.prog (Tryz.f3.params.toList++Rows.reconcileLeftSpec.plain.varTypes Tryz.prog) (ds++gs)).all (·≤reachBytes)=true:=hsz0
 clear hsz0
 have hval:∀(j:Nat) t v,Tryz.f3.params[j]? =some t→args[j]? =some v→Value.okWide Tryz.prog W .any base t v:=hval0
 have hW':=hW
 obtain⟨p,q,hA0,hV,rfl,hfz,hnd⟩:=hW
 have hA:DataW.TrodAll enc Tryz.prog W 0 (fun _=>true) true Tryz.f3.params.toList args.toList ds p:=hA0
 rw[Tryz.params3]at hA hval hsz
 obtain⟨v0,vs0,d0,ds0,p0,q0,hargs,rfl,rfl,h0,r0⟩:=trodAll_cons hA
 obtain⟨v1,vs1,d1,ds1,p1,q1,rfl,rfl,rfl,h1,r1⟩:=trodAll_cons r0
 obtain⟨v2,vs2,d2,ds2,p2,q2,rfl,rfl,rfl,h2,r2⟩:=trodAll_cons r1
 obtain⟨rfl,rfl,rfl⟩:=trodAll_nil r2
 obtain rfl:args=#[v0,v1,v2]:=by cases args;simp_all
 obtain⟨rfl,rfl⟩:=trodVars_none hV
 obtain⟨a0,avH,cap0,rfl⟩:=okWide_slice Tryz.underlying22 (hval 0 22 v0 rfl rfl)
 have k0:=h0
 have kM:∀x∈p0,x.block<W.heap.size:=by obtain⟨m,hm⟩:=k0;exact DataW.trod_lt m _ _ _ hm
 obtain⟨z0,w0,g0,b0⟩:∃r,di W (.slice a0 avH cap0) r∧dL r∧r.length*40≤140737488351232:=by
  obtain⟨fuel,hf⟩:=h0
  have hf':DataW.trod enc Tryz.prog W 0 (fun _=>true) true fuel 22 [.slice a0 avH cap0]=some (d0,p0):=by simpa[Value.cells]using hf
  obtain⟨r,hr,hd⟩:=acI Tryz.underlying22 Tryz.underlying35 (by kernel_rfl) aht Tryz.underlying3 Tryz.underlying3 Tryz.underlying33 Tryz.underlying111 (by kernel_rfl) afE Tryz.underlying4 Tryz.underlying9 Tryz.underlying9 hf'
  rcases hd with⟨_,rfl⟩|⟨es,sp,hd,hln,hes⟩
  ·exact⟨[],hr,fun c hc=>by simp at hc,by simp⟩
  ·simp only at hd
   rw[hd]at hsz
   obtain⟨h1,h2⟩:=aie hsz (j:=0) (t:=22) (e:=35) rfl rfl hln hes Tryz.underlying22 Tryz.underlying35 agz Tryz.underlying33 Tryz.underlying111 afl
   exact⟨r,hr,h1,h2⟩
 obtain⟨a1,rfl,rfl,rfl,w1⟩:=open_int Tryz.underlying3 (hval 1 3 v1 rfl rfl) h1
 have k2:=h2
 have lt2:∀x∈p2,x.block<W.heap.size:=by obtain⟨m,hm⟩:=k2;exact DataW.trod_lt m _ _ _ hm
 have ww2:∀n∈d2.weights Tryz.prog 26,n≤reachBytes:=fun n hn=>of_decide_eq_true (List.all_eq_true.1 hsz n (DataW.weights_mem_each (j:=2) (t:=26) rfl rfl n hn))
 obtain⟨z2,rfl,w2,g2⟩:=afD Tryz.underlying26 (by kernel_rfl) arx Tryz.underlying3 Tryz.underlying3 Tryz.underlying23 Tryz.underlying3 Tryz.underlying24 Tryz.underlying3 Tryz.underlying3 Tryz.underlying22 Tryz.underlying72 (by kernel_rfl) arX ar6 Tryz.underlying3 Tryz.underlying3 Tryz.underlying35 (by kernel_rfl) aht agz Tryz.underlying3 Tryz.underlying3 Tryz.underlying33 Tryz.underlying111 (by kernel_rfl) afE afl Tryz.underlying4 Tryz.underlying9 Tryz.underlying9 (hval 2 26 v2 rfl rfl) h2 ww2
 clear hA0 hval0
 refine(wS _ z0 a1 z2 W w0 g0 b0 w1 w2 g2 (as1 hld)).mono fun e W' ⟨he,aF⟩=>?_
 subst he
 exact⟨_,rfl,_,_,_,[],_,[],hW',trodAll_mk1 (shut_bool Tryz.underlying4 _),(trodAll_cons_mk (Below.trod laidOut (by kernel_rfl) (of_decide_eq_true (by kernel_rfl)) k0 aF kM) (trodAll_cons_mk (shut_int Tryz.underlying3 w1) (trodAll_cons_mk (Below.trod laidOut (by kernel_rfl) (of_decide_eq_true (by kernel_rfl)) k2 aF lt2) trodAll_mk0))),rfl,aF.frame _,fun h=>by cases h⟩
def akq (cs:Array Value):Obj→Obj
 |.cells _ t frozen=>.cells cs t frozen
 |o=>o
theorem lifted (os:Os)(started:os.Started)(H:Type)(enc:TypeId×Value→H)(F:Stop.Interp):
  ReturnsInHanded {} Tryz.checked os 3 .any ((OpenSpec.ofChange Rows.reconcileLeftSpec).preRow enc Tryz.prog Tryz.f3 Rows.reconcileLeftRow.domain false Rows.reconcileLeftRow.laid) (((OpenSpec.ofChange Rows.reconcileLeftSpec).at F).post enc Tryz.prog Tryz.f3 false true false false):=by
 refine returnsInHanded_of_row (C:=Tryz.checked) (s:=OpenSpec.ofChange Rows.reconcileLeftSpec) own started (by kernel_rfl) Tryz.func3
  (witness_row_at (enc:=enc) (C:=Tryz.checked) false ({World.holding Tryz.prog os ⟨#[],#[],[]⟩with heap:=((World.holding Tryz.prog os ⟨#[],#[],[]⟩).heap.modify 0 (akq (#[.int .i64 1048576,.int .i64 3,.int .i64 1048576,.int .i64 4,.int .i64 1048576,.int .i64 1073741824])))}:World) #[.slice none 0 0,.int .i64 0,.agg #[.int .i64 0,.int .i64 0,.int .u8 0,.int .i64 0,.slice none 0 0,.int .i64 0,.int .i64 0,.slice none 0 0]] rfl (by kernel_rfl) (by kernel_rfl) (by kernel_rfl)
   (OpenSpec.preRow_of_cond 8 (x:=([.nil,.lit (.int .i64 0),.agg [.lit (.int .i64 0),.lit (.int .i64 0),.lit (.int .u8 0),.lit (.int .i64 0),.nil,.lit (.int .i64 0),.lit (.int .i64 0),.nil]],[],[])) (by kernel_rfl) (by kernel_rfl) (fun k hk=>by cases hk) (by kernel_rfl) (laidMet_of_run' 8 (by kernel_rfl) (by kernel_rfl)))) ?_
 intro W base args ds gs before hval hW _ _ hsz hld hsh _
 exact contract H enc W base args ds gs before hval hW hsz hsh hld
theorem said:Rows.ReconcileLeftSaid:=
 OpenClaim.holds_of_cond 3 Tryz.f3 rfl rfl rfl rfl rfl rfl rfl ⟨rfl,rfl,rfl,rfl,rfl⟩ rfl rfl rfl rfl rfl (by kernel_rfl) Tryz.func3 (by kernel_rfl)
  (of_decide_eq_true (by kernel_rfl)) (by unfold Func.isWrapper;first|(rw[if_pos (by decide+kernel)];kernel_rfl)|(rw[if_neg (by decide+kernel)];exact⟨rfl,rfl⟩))
  (fun os started H enc _ F=>by rw[OpenClaim.pre_eq_preRow];exact lifted os started H enc F)
theorem plain (f:FuncId)(fn:Func)(hf:Tryz.pinned.checked.prog.funcNamed Rows.reconcileLeftRow.func=some f)(hfn:Tryz.pinned.checked.prog.funcs[f]? =some fn):
  false=Tryz.pinned.checked.prog.looks []∧∀(j:Nat) t,fn.params[j]? =some t→Tryz.pinned.checked.prog.wantsStandIn t=false:=by
 obtain rfl:f=3:=Option.some.inj ((show Tryz.prog.funcNamed Rows.reconcileLeftRow.func=some 3 by kernel_rfl).symm.trans hf)|>.symm
 obtain rfl:fn=Tryz.f3:=(Option.some.inj (Tryz.func3.symm.trans hfn)).symm
 refine⟨by kernel_rfl,fun j t ht=>?_⟩
 rw[Tryz.params3]at ht
 have hm:=Array.mem_of_getElem? ht
 simp at hm
 rcases hm with rfl|rfl|rfl
 ·exact(show Tryz.prog.wantsStandIn 22=false by kernel_rfl)
 ·exact(show Tryz.prog.wantsStandIn 3=false by kernel_rfl)
 ·exact(show Tryz.prog.wantsStandIn 26=false by kernel_rfl)
end reconcileLeftFrame
theorem reconcileLeft_card:Rows.ReconcileLeftCardSaid:=
 Claim7.holds_tied_plain_at .later [] _ _ _ _ reconcileLeftFrame.said (fun _ h=>by cases h) (by kernel_rfl) (fun _ h=>by cases h) reconcileLeft_row_tie rfl ⟨rfl,rfl⟩ (by kernel_rfl) rfl reconcileLeftFrame.plain (by kernel_rfl)
#print axioms reconcileLeft_card
end Go.Proofs.YtmngcecomcadkaaGreatDoor
