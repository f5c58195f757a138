/- Texts. -/
import Derived.Test.YtlmkaljjocflmaaGreatDoorCards
import Derived.Test.YtlmkaljjocflmaaGreatDoorTie
import Derived.Deep.DeepHandedRow
import Derived.Lib.LaidTab
import Derived.Shelf.LaysM
import Derived.Test.YtlmkaljjocflmaaGreatDoorRows
import Derived.Test.YtlmkaljjocflmaaGreatDoorBZNdReadsW
import Derived.ProofKit
import Derived.OpenShut
import Derived.ShutString
import Derived.ChangeOld
import Derived.Below
import Derived.SizedLaws
import Derived.Test.YtlmkaljjocflmaaGreatDoorBH31
import Derived.Test.YtlmkaljjocflmaaGreatDoorBH21
import Derived.Test.YtlmkaljjocflmaaGreatDoorBH19
set_option maxRecDepth 100000
set_option maxHeartbeats 8000000
set_option linter.unusedVariables false
open Go.Proofs.Tryz
namespace Go.Proofs.YtlmkaljjocflmaaGreatDoor
open Go.ChangeShapes Go.WideShapes Go.ChangeAt Go.RowKit
open Go.ChangeMaps (open_string shut_string)
namespace nodeReadsFrame
theorem own:ownKnob prog.godebug=none:=by kernel_rfl
theorem laidOut:laidOutB prog=true:=by kernel_rfl
theorem ayt:prog.cellsOf 9=1:=by kernel_rfl
theorem ax8:prog.bytesOf 9=16:=by kernel_rfl
theorem auL:prog.cellsOf 82=14:=by kernel_rfl
theorem auM:prog.bytesOf 82=184:=by kernel_rfl
theorem aoM:prog.cellsOf 119=2:=by kernel_rfl
theorem azX:prog.bytesOf 119=16:=by kernel_rfl
theorem auT:prog.cellsOf 35=3:=by kernel_rfl
theorem aBh:prog.bytesOf 35=40:=by kernel_rfl
theorem atX:prog.cellsOf 71=3:=by kernel_rfl
theorem auo:prog.bytesOf 71=40:=by kernel_rfl
theorem contract (H:Type)(enc:TypeId×Value→H)(W:World)(base:Nat)(args:Array Value)(ds gs:List (DataW H))(before:List MemPlace)
  (hval0:∀(j:Nat) t v,Tryz.f6.params[j]? =some t→args[j]? =some v→Value.okWide prog W .any base t v)
  (hW:DataW.Whole enc prog Tryz.f6.params.toList Rows.nodeReadsSpec.vars false W args.toList ds gs before)
  (hsz0:(DataW.weightsEach prog (Tryz.f6.params.toList++Rows.nodeReadsSpec.plain.varTypes prog) (ds++gs)).all (·≤reachBytes)=true) (hsh:W.ShapedOpen prog) (hld:laidMetH prog Rows.nodeReadsRow.laid W):
  Calls prog 6 args W fun e W'=>∃v,e=.returned v∧Rows.nodeReadsSpec.post enc prog Tryz.f6 false true false false W args v W':=by
 have hsz:(DataW.weightsEach prog (Tryz.f6.params.toList++Rows.nodeReadsSpec.plain.varTypes prog) (ds++gs)).all (·≤reachBytes)=true:=hsz0
 clear hsz0
 have hval:∀(j:Nat) t v,Tryz.f6.params[j]? =some t→args[j]? =some v→Value.okWide prog W .any base t v:=hval0
 have hW':=hW
 obtain⟨p,q,hA0,hV,rfl,hfz,hnd⟩:=hW
 have hA:DataW.TrodAll enc prog W 0 (fun _=>true) true Tryz.f6.params.toList args.toList ds p:=hA0
 rw[Tryz.params6]at hA hval hsz
 obtain⟨v0,vs0,d0,ds0,p0,q0,hargs,rfl,rfl,h0,r0⟩:=trodAll_cons hA
 obtain⟨v1,vs1,d1,ds1,p1,q1,rfl,rfl,rfl,h1,r1⟩:=trodAll_cons r0
 obtain⟨v2,vs2,d2,ds2,p2,q2,rfl,rfl,rfl,h2,r2⟩:=trodAll_cons r1
 obtain⟨rfl,rfl,rfl⟩:=trodAll_nil r2
 obtain rfl:args=#[v0,v1,v2]:=by cases args;simp_all
 obtain⟨rfl,rfl⟩:=trodVars_none hV
 obtain⟨a0,rfl,rfl,rfl,w0⟩:=open_int underlying3 (hval 0 3 v0 rfl rfl) h0
 have T1:=agC.mk (P:=prog) (e:=82) (o:=71) (c:=35) (s:=119) (y:=5) underlying82 ⟨rfl,rfl,rfl,rfl,rfl,rfl,rfl⟩ ⟨by kernel_rfl,by kernel_rfl,by kernel_rfl,by kernel_rfl,by kernel_rfl,by kernel_rfl,by kernel_rfl⟩ ⟨underlying3,underlying3,underlying3,underlying9⟩ underlying33 underlying71 (by kernel_rfl) atX ⟨underlying4,underlying9,underlying9⟩ underlying26 (by kernel_rfl) ⟨underlying3,underlying3,underlying23,underlying3,underlying24,underlying3,underlying3,underlying22⟩ underlying119 (by kernel_rfl) aoM ⟨underlying3,underlying3⟩ underlying35 (by kernel_rfl) auT ⟨underlying3,underlying3,underlying33⟩ underlying61 underlying5 (by kernel_rfl)
 have k1:=h1
 have lt1:∀x∈p1,x.block<W.heap.size:=by obtain⟨m,hm⟩:=k1;exact DataW.trod_lt m _ _ _ hm
 obtain⟨a1,awL,aw6,rfl⟩:=okWide_slice underlying99 (hval 1 99 v1 rfl rfl)
 obtain⟨z1,w1,g1,b1⟩:∃r,l9 W (.slice a1 awL aw6) r∧afw r∧r.length*184≤140737488351232:=by
  obtain⟨fuel,hf⟩:=h1
  have hf':DataW.trod enc prog W 0 (fun _=>true) true fuel 99 [.slice a1 awL aw6]=some (d1,p1):=by simpa[Value.cells]using hf
  obtain⟨r,hr,hd⟩:=aqv T1 underlying99 auL hf'
  rcases hd with⟨_,rfl⟩|⟨es,sp,hd,hln,hes⟩
  ·exact⟨[],hr,fun c hc=>by simp at hc,by simp⟩
  ·simp only at hd
   rw[hd]at hsz
   obtain⟨h1,h2⟩:=al8 T1 auo auM hsz (j:=1) (t:=99) rfl rfl hln hes underlying99
   exact⟨r,hr,h1,h2⟩
 obtain⟨a2,avM,cap2,rfl⟩:=okWide_slice underlying100 (hval 2 100 v2 rfl rfl)
 have k2:=h2
 have lt2:∀x∈p2,x.block<W.heap.size:=by obtain⟨m,hm⟩:=k2;exact DataW.trod_lt m _ _ _ hm
 obtain⟨z2,w2,g2,b2⟩:∃r,IsS W (.slice a2 avM cap2) r∧aqV r∧r.length*16≤140737488351232:=by
  obtain⟨fuel,hf⟩:=h2
  have hf':DataW.trod enc prog W 0 (fun _=>true) true fuel 100 [.slice a2 avM cap2]=some (d2,p2):=by simpa[Value.cells]using hf
  obtain⟨r,hr,hd⟩:=open_strs underlying100 underlying9 ayt hf'
  rcases hd with⟨_,rfl⟩|⟨es,sp,hd,hln,hes⟩
  ·exact⟨[],hr,fun c hc=>by simp at hc,by simp⟩
  ·simp only at hd
   rw[hd]at hsz
   obtain⟨h1,h2⟩:=ajt hsz (j:=2) (t:=100) (e:=9) rfl rfl hln hes underlying100 underlying9 ax8
   exact⟨r,hr,h1,h2⟩
 clear hA0 hval0
 refine(acz a0 _ z1 _ z2 W w0 w1 g1 b1 w2 g2 b2 (axE hld)).mono fun e W' ⟨he,aI⟩=>?_
 subst he
 exact⟨_,rfl,_,_,_,[],_,[],hW',trodAll_mk1 (shut_bool underlying4 _),(trodAll_cons_mk (shut_int underlying3 w0) (trodAll_cons_mk (Below.trod laidOut (by kernel_rfl) (of_decide_eq_true (by kernel_rfl)) k1 aI lt1) (trodAll_cons_mk (Below.trod laidOut (by kernel_rfl) (of_decide_eq_true (by kernel_rfl)) k2 aI lt2) trodAll_mk0))),rfl,aI.frame _,fun h=>by cases h⟩
def anK (cs:Array Value):Obj→Obj
 |.cells _ t frozen=>.cells cs t frozen
 |o=>o
theorem lifted (os:Os)(started:os.Started)(H:Type)(enc:TypeId×Value→H)(F:Stop.Interp):
  ReturnsInHanded {} Tryz.checked os 6 .any ((OpenSpec.ofChange Rows.nodeReadsSpec).preRow enc prog Tryz.f6 Rows.nodeReadsRow.domain false Rows.nodeReadsRow.laid) (((OpenSpec.ofChange Rows.nodeReadsSpec).at F).post enc prog Tryz.f6 false true false false):=by
 refine returnsInHanded_of_row (C:=Tryz.checked) (s:=OpenSpec.ofChange Rows.nodeReadsSpec) own started (by kernel_rfl) func6
  (witness_row_at (enc:=enc) (C:=Tryz.checked) false ({World.holding prog os ⟨#[],#[],[]⟩with heap:=((World.holding prog os ⟨#[],#[],[]⟩).heap.modify 0 (anK (#[.int .i64 1048576,.int .i64 3,.int .i64 1048576,.int .i64 4,.int .i64 1048576,.int .i64 1073741824])))}:World) #[.int .i64 0,.slice none 0 0,.slice none 0 0] rfl (by kernel_rfl) (by kernel_rfl) (by kernel_rfl)
   (OpenSpec.preRow_of_cond 8 (x:=([.lit (.int .i64 0),.nil,.nil],[],[])) (by kernel_rfl) (by kernel_rfl) (fun k hk=>by cases hk) (by kernel_rfl) (laidMet_of_run' 8 (by kernel_rfl) (by kernel_rfl)))) ?_
 intro W base args ds gs before hval hW _ _ hsz hld hsh _
 exact contract H enc W base args ds gs before hval hW hsz hsh hld
end nodeReadsFrame
end Go.Proofs.YtlmkaljjocflmaaGreatDoor
