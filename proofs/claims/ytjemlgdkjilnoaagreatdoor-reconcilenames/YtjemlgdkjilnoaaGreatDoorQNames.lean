/- Proved: the worked examples of the chapter on reconciling come out as they are written. Its condition: the start, in which the variable page.most holds what its text lays (a card). -/
import Derived.Test.YtjemlgdkjilnoaaGreatDoorH39
import Derived.Test.YtjemlgdkjilnoaaGreatDoorH30
import Derived.Test.YtjemlgdkjilnoaaGreatDoorCards
import Derived.Test.YtjemlgdkjilnoaaGreatDoorTie
import Derived.Deep.DeepHandedRow
import Derived.Lib.LaidTab
import Derived.Shelf.LaysM
import Derived.Test.YtjemlgdkjilnoaaGreatDoorRows
import Derived.ProofKit
import Derived.OpenShut
import Derived.ShutString
import Derived.ChangeOld
import Derived.Below
import Derived.SizedLaws
import Derived.Test.YtjemlgdkjilnoaaGreatDoorH35
set_option maxRecDepth 100000
set_option maxHeartbeats 8000000
namespace Go.Proofs.YtjemlgdkjilnoaaGreatDoor
open Go.RowKit
set_option linter.unusedVariables false
def kR:Mw:=⟨3,2,0,1,.slice none 0 0,[],0,0,.slice none 0 0,[]⟩
theorem asq:dC kR:=⟨by simp[kR,In64],by simp[kR,In64],by simp[kR],by simp[kR],by simp[kR,In64],by simp[kR,In64],by simp[kR,In64],by simp[kR],fun c hc=>by simp[kR]at hc,by simp[kR]⟩
theorem asK:Mm.Ck kR.m 0:=.inl ⟨rfl,by show(1:Int)≤2;decide,by show(2:Int)≤1048576;decide,.inr (.inr ⟨rfl,by show(0:Int)≤1;decide,by show(1:Int)≤1048576;decide,rfl,rfl,rfl,rfl,rfl⟩)⟩
theorem auC (w:World):gQ w kR:=⟨ig.nil _ _,dJ.nil _⟩
theorem ar1 (x:Pm.Pg):xN x kR 0=false:=by
 unfold xN
 rw[show decide (kR.r=1)=false from rfl]
 simp
theorem iV.ayf {w w' w2:World}{p q q2 n:Nat}{F:Nat→Prop}{s:Rst.St}{ss:List Orp.Se}(h:iV w w' p q F n s ss)(o:Out (fun g=>g=q2) w' w2)(hq:w'.heap.size≤q2∨∀g,F g→g≠q2)(h2:w.heap.size≤q2)(h0:q2≠0):iV w w2 p q F n s ss:=by
 have ne:∀g,F g→g≠q2:=fun g e=>by
  rcases hq with k|k
  ·have:=h.ps.lt g e;omega
  ·exact k g e
 exact⟨h.ps.agree (fun g e=>o.block g (h.ps.lt g e) (ne g e)) o.size (gI h.ps.gG o fun e=>h0 e.symm),h.n0,h.qw,h.new,h.out.trans o fun g e=>.inr (by rw[e];exact h2)⟩
theorem vU (w:World)(hm:fQ w):Calls Tryz.prog 3 #[] w fun E w'=>E=.returned (.bool true)∧Below w.heap.size w w':=by
 have ND:=hide (ab1 w)
 have HP:=hide hm
 have hz:=hm.pos
 have HZ:Hid (vp Pm.no=.agg #[.int .i64 0,.int .u8 0,.int .i64 0,.int .u8 0,.int .i64 0,.int .i64 0]):=hide rfl
 clear hm
 go_enter Tryz.func3,Tryz.ntmps3
 go_wp2_with fail
 refine ND.out.mono ?_
 rintro E w1 ⟨rfl,k1,b1⟩
 obtain⟨w2,hw2,s2,b2,P2⟩:=ak w1 #[.int .i64 1,.int .i64 1,.int .i64 1] 3
 have LG:=hide (aah w1.heap.size w2 P2)
 have z1:=b1.size
 have PK:Hid (Pk w.heap.size (fun g=>g=w.heap.size) w2 Dm.new∧Below w.heap.size w w2∧w.heap.size<w2.heap.size):=hide ⟨k1.below b2,b1.trans (b2.mono z1),by have:=k1.lt w.heap.size rfl;omega⟩
 clear ND k1 b1 b2 P2
 go_wp2_with fail
 refine LG.out.mono ?_
 rintro E w3 ⟨la,lk',rfl,L3,b3⟩
 have fo:=PK.out.2.1.trans (b3.mono PK.out.2.1.size)
 have HE:Hid (Calls Tryz.prog 6 #[.pointer (some ⟨w.heap.size,0,none⟩),.slice la 3 lk',.int .i64 2] w3 fun E w'=>∃p F s,E=.returned (.pointer (some ⟨p,0,none⟩))∧Hid (iV w3 w' p w.heap.size F 66 s []∧s.p=⟨2,3,0,1,0,0⟩∧s.l=l3)):=hide (by
  obtain⟨rs,o1,o2,o3⟩:=L3.out
  have hg:Cm.Good 0 0 (az rs):=by rw[o3];exact p8
  have hk:∀c∈az rs,Cm.chk c.e c.n c.l=0:=fun c hc=>(Sto.fV hg c hc).1
  have hrl:rs.length=3:=by have:=congrArg List.length o3;unfold az at this;rw[List.length_map]at this;exact this
  have:=acO w.heap.size w3 (PK.out.1.below b3) (HP.out.below fo) (by omega) _ rs (fun W hW=>(wT (sO o1 o2 hW fun g e=>by rw[e];exact PK.out.2.2).1 (sO o1 o2 hW fun g e=>by rw[e];exact PK.out.2.2).2 hk).1) (wT o1 o2 hk).2 hg (by omega) (by rw[o3];decide) 2 (by omega)
  rw[o3]at this
  exact this)
 have B3:=hide fo
 clear LG L3 b3 fo PK
 go_wp2_with fail
 refine HE.out.mono ?_
 rintro E w4 ⟨p,F,s,rfl,X4⟩
 have B4:Hid (Below w.heap.size w w4):=hide (B3.out.trans (X4.out.1.out.below (fun g e=>by rw[e];exact Nat.le_refl _) B3.out.size))
 have ND:=hide (ab1 w4)
 clear HE
 go_wp2_with fail
 refine ND.out.mono ?_
 rintro E w5 ⟨rfl,k5,b5⟩
 have OP:=hide (acJ w4.heap.size w5 k5 (HP.out.below (B4.out.trans (b5.mono B4.out.size))) (by have:=B4.out.size;omega) 1 (.inr rfl))
 have X5:Hid (iV w3 w5 p w.heap.size F 66 s []∧s.p=⟨2,3,0,1,0,0⟩∧(∀g,F g→g<w4.heap.size)∧w3.heap.size≤w4.heap.size∧Below w.heap.size w w5):=hide ⟨X4.out.1.below b5,X4.out.2.1,X4.out.1.ps.lt,X4.out.1.out.size,B4.out.trans (b5.mono B4.out.size)⟩
 clear ND k5 b5 X4
 go_wp2_with fail
 refine OP.out.mono ?_
 rintro E w6 ⟨p2,F2,rfl,j1,j2,j3⟩
 have z4:=B4.out.size
 obtain⟨st,hst⟩:∃st:Rst.St,st=⟨Dm.new,fst 1,[],[],false⟩:=⟨_,rfl⟩
 have X6:Hid (iV w3 w6 p w.heap.size F 66 s []∧s.p=⟨2,3,0,1,0,0⟩∧iV w5 w6 p2 w4.heap.size F2 50 st []∧st.p.p=0∧Below w.heap.size w w6):=hide (by
  refine⟨X5.out.1.ayf j3 (.inr fun g e=>by have:=X5.out.2.2.1 g e;omega) X5.out.2.2.2.1 (by omega),X5.out.2.1,⟨by rw[hst];exact j1,fun e=>?_,by rw[hst];exact ahk _ (by decide),j2,j3⟩,by rw[hst];rfl,X5.out.2.2.2.2.trans (j3.below (fun g e=>by rw[e];exact z4) X5.out.2.2.2.2.size)⟩
  rcases j2 0 e with e|e
  ·omega
  ·have:=X5.out.2.2.2.2.size;omega)
 have LI:=hide (zt w6 (HP.out.below X6.out.2.2.2.2))
 clear OP X5 j1 j2 j3 B4 B3 hst
 go_wp2_with fail
 refine LI.out.mono ?_
 rintro E w7 ⟨rfl,b7⟩
 have X7:Hid (iV w3 w7 p w.heap.size F 66 s []∧s.p=⟨2,3,0,1,0,0⟩∧iV w5 w7 p2 w4.heap.size F2 50 st []∧st.p.p=0∧Below w.heap.size w w7):=hide ⟨X6.out.1.below b7,X6.out.2.1,X6.out.2.2.1.below b7,X6.out.2.2.2.1,X6.out.2.2.2.2.trans (b7.mono X6.out.2.2.2.2.size)⟩
 have S1:=hide (aiz X7.out.1.ps X7.out.1.qw (by omega) (by rw[X7.out.2.1]) (auC w7) asq asK (ar1 _))
 rw[HZ.out,show mv kR=.agg #[.int .i64 3,.int .i64 2,.int .u8 0,.int .i64 1,.slice none 0 0,.int .i64 0,.int .i64 0,.slice none 0 0]from rfl]at S1
 clear LI b7 X6
 go_wp2_with fail
 refine S1.out.mono ?_
 rintro E w8 ⟨rfl,b8⟩
 obtain⟨w9,hw9,s9,b9,P9⟩:=ak w8 #[.int .i64 0,.int .u8 0,.int .i64 0,.int .u8 0,.int .i64 0,.int .i64 0] 35
 obtain⟨n0,n1,n2,n3,n4,n5,m0,m1,m2,m3,m4,m5⟩:=qJ P9
 obtain⟨v0,v1,v2,v3,v4,v5⟩:=aN P9
 have b79:=b8.trans (b9.mono b8.size)
 have HH:=hide (uq w9)
 have X9:Hid (iV w5 w9 p2 w4.heap.size F2 50 st []∧st.p.p=0∧Below w.heap.size w w9):=hide ⟨X7.out.2.2.1.below b79,X7.out.2.2.2.1,X7.out.2.2.2.2.trans (b79.mono X7.out.2.2.2.2.size)⟩
 clear S1 X7 b8 b9 b79 P9 s9
 go_wp2_with fail
 refine HH.out.mono ?_
 rintro E x1 ⟨hg,rfl,i1,c1⟩
 clear n0 n1 n2 n3 n4 n5 m0 m1 m2 m3 m4 m5 v0 v1 v2 v3 v4 v5 hw9
 have X1:Hid (iV w5 x1 p2 w4.heap.size F2 50 st []∧st.p.p=0∧Below w.heap.size w x1):=hide ⟨X9.out.1.below c1,X9.out.2.1,X9.out.2.2.trans (c1.mono X9.out.2.2.size)⟩
 have S2:=hide (ai0 X1.out.1.ps X1.out.1.qw (by omega) X1.out.2.1 i1 (agJ hg) (ams hg))
 rw[HZ.out]at S2
 clear HH X9 c1 i1
 go_wp2_with fail
 refine S2.out.mono ?_
 rintro E x2 ⟨rfl,c2⟩
 obtain⟨x3,hx3,s3,c3,P3⟩:=ak x2 #[.int .i64 0,.int .u8 0,.int .i64 0,.int .u8 0,.int .i64 0,.int .i64 0] 35
 obtain⟨n0,n1,n2,n3,n4,n5,m0,m1,m2,m3,m4,m5⟩:=qJ P3
 obtain⟨v0,v1,v2,v3,v4,v5⟩:=aN P3
 have c13:=c2.trans (c3.mono c2.size)
 have X3:=hide (X1.out.2.2.trans (c13.mono X1.out.2.2.size))
 have HH:=hide (uq x3)
 clear S2 X1 c2 c3 c13 P3 s3
 go_wp2_with fail
 refine HH.out.mono ?_
 rintro E x4 ⟨hg2,rfl,i4,c4⟩
 clear n0 n1 n2 n3 n4 n5 m0 m1 m2 m3 m4 m5 v0 v1 v2 v3 v4 v5 hx3
 have X4:=hide (X3.out.trans (c4.mono X3.out.size))
 have S3:=hide (xB none x4 (.inl rfl) (hel hg2))
 rw[HZ.out]at S3
 clear HH X3 c4 i4
 go_wp2_with fail
 refine S3.out.mono ?_
 rintro E x5 ⟨rfl,c5⟩
 obtain⟨x6,hx6,s6,c6,P6⟩:=ak x5 #[.int .i64 0,.int .u8 0,.int .i64 0,.int .u8 0,.int .i64 0,.int .i64 0] 35
 obtain⟨n0,n1,n2,n3,n4,n5,m0,m1,m2,m3,m4,m5⟩:=qJ P6
 obtain⟨v0,v1,v2,v3,v4,v5⟩:=aN P6
 have c46:=c5.trans (c6.mono c5.size)
 have X6:=hide (X4.out.trans (c46.mono X4.out.size))
 have F1:=hide (acu ⟨1,1,0,0,0,0⟩ x6 (by unfold eT;simp) (HP.out.below X6.out))
 rw[show vp ⟨1,1,0,0,0,0⟩=.agg #[.int .i64 1,.int .u8 1,.int .i64 0,.int .u8 0,.int .i64 0,.int .i64 0]from rfl,show Pm.chk ⟨1,1,0,0,0,0⟩=0 by decide,show ai8 ⟨1,1,0,0,0,0⟩=5 by decide]at F1
 clear S3 X4 c5 c6 c46 P6 s6
 go_wp2_with fail
 refine F1.out.mono ?_
 rintro E x7 ⟨rfl,c7⟩
 clear n0 n1 n2 n3 n4 n5 m0 m1 m2 m3 m4 m5 v0 v1 v2 v3 v4 v5 hx6
 have X7:=hide (X6.out.trans (c7.mono X6.out.size))
 have F2':=hide (acu ⟨2,3,0,4,0,0⟩ x7 (by unfold eT;simp) (HP.out.below X7.out))
 rw[show vp ⟨2,3,0,4,0,0⟩=.agg #[.int .i64 2,.int .u8 3,.int .i64 0,.int .u8 4,.int .i64 0,.int .i64 0]from rfl,show Pm.chk ⟨2,3,0,4,0,0⟩=0 by decide,show ai8 ⟨2,3,0,4,0,0⟩=1 by decide]at F2'
 clear F1 X6 c7
 go_wp2_with fail
 refine F2'.out.mono ?_
 rintro E x8 ⟨rfl,c8⟩
 have X8:=hide (X7.out.trans (c8.mono X7.out.size))
 clear F2' X7 c8
 go_wp2
 go_ret
 exact⟨rfl,X8.out⟩
end Go.Proofs.YtjemlgdkjilnoaaGreatDoor
namespace Go.Proofs.YtjemlgdkjilnoaaGreatDoor
open Go.ChangeShapes Go.WideShapes Go.ChangeAt Go.RowKit
open Go.ChangeMaps (open_string shut_string)
set_option linter.unusedVariables false
namespace reconcileNamesFrame
theorem own:ownKnob Tryz.prog.godebug=none:=by kernel_rfl
theorem laidOut:laidOutB Tryz.prog=true:=by kernel_rfl
theorem contract (H:Type)(enc:TypeId×Value→H)(W:World)(base:Nat)(args:Array Value)(ds gs:List (DataW H))(before:List MemPlace)
  (hval0:∀(j:Nat) t v,Tryz.f3.params[j]? =some t→args[j]? =some v→Value.okWide Tryz.prog W .any base t v)
  (hW:DataW.Whole enc Tryz.prog Tryz.f3.params.toList Rows.reconcileNamesSpec.vars false W args.toList ds gs before)
  (hsz0:(DataW.weightsEach Tryz.prog (Tryz.f3.params.toList++Rows.reconcileNamesSpec.plain.varTypes Tryz.prog) (ds++gs)).all (·≤reachBytes)=true) (hsh:W.ShapedOpen Tryz.prog) (hld:laidMetH Tryz.prog Rows.reconcileNamesRow.laid W):
  Calls Tryz.prog 3 args W fun e W'=>∃v,e=.returned v∧Rows.reconcileNamesSpec.post enc Tryz.prog Tryz.f3 false true false false W args v W':=by
 have hsz:(DataW.weightsEach Tryz.prog (Tryz.f3.params.toList++Rows.reconcileNamesSpec.plain.varTypes Tryz.prog) (ds++gs)).all (·≤reachBytes)=true:=hsz0
 clear hsz0
 have hval:∀(j:Nat) t v,Tryz.f3.params[j]? =some t→args[j]? =some v→Value.okWide Tryz.prog W .any base t v:=hval0
 have hW':=hW
 obtain⟨p,q,hA0,hV,rfl,hfz,hnd⟩:=hW
 have hA:DataW.TrodAll enc Tryz.prog W 0 (fun _=>true) true Tryz.f3.params.toList args.toList ds p:=hA0
 rw[Tryz.params3]at hA hval hsz
 obtain⟨rfl,rfl,rfl⟩:=trodAll_none hA
 obtain⟨rfl,rfl⟩:=trodVars_none hV
 clear hA0 hval0
 refine(vU W (akO hld)).mono fun e W' ⟨he,aG⟩=>?_
 subst he
 exact⟨_,rfl,_,_,_,[],[],[],hW',trodAll_mk1 (shut_bool Tryz.underlying4 _),trodAll_mk0,rfl,aG.frame _,fun h=>by cases h⟩
def wm (cs:Array Value):Obj→Obj
 |.cells _ t frozen=>.cells cs t frozen
 |o=>o
theorem lifted (os:Os)(started:os.Started)(H:Type)(enc:TypeId×Value→H)(F:Stop.Interp):
  ReturnsInHanded {} Tryz.checked os 3 .any ((OpenSpec.ofChange Rows.reconcileNamesSpec).preRow enc Tryz.prog Tryz.f3 Rows.reconcileNamesRow.domain false Rows.reconcileNamesRow.laid) (((OpenSpec.ofChange Rows.reconcileNamesSpec).at F).post enc Tryz.prog Tryz.f3 false true false false):=by
 refine returnsInHanded_of_row (C:=Tryz.checked) (s:=OpenSpec.ofChange Rows.reconcileNamesSpec) own started (by kernel_rfl) Tryz.func3
  (witness_row_at (enc:=enc) (C:=Tryz.checked) false ({World.holding Tryz.prog os ⟨#[],#[],[]⟩with heap:=((World.holding Tryz.prog os ⟨#[],#[],[]⟩).heap.modify 0 (wm (#[.int .i64 1048576,.int .i64 3,.int .i64 1048576,.int .i64 4,.int .i64 1048576,.int .i64 1073741824])))}:World) #[] rfl (by kernel_rfl) (by kernel_rfl) (by kernel_rfl)
   (OpenSpec.preRow_of_cond 8 (x:=([],[],[])) (by kernel_rfl) (by kernel_rfl) (fun k hk=>by cases hk) (by kernel_rfl) (laidMet_of_run' 8 (by kernel_rfl) (by kernel_rfl)))) ?_
 intro W base args ds gs before hval hW _ _ hsz hld hsh _
 exact contract H enc W base args ds gs before hval hW hsz hsh hld
theorem said:Rows.ReconcileNamesSaid:=
 OpenClaim.holds_of_cond 3 Tryz.f3 rfl rfl rfl rfl rfl rfl rfl ⟨rfl,rfl,rfl,rfl,rfl⟩ rfl rfl rfl rfl rfl (by kernel_rfl) Tryz.func3 (by kernel_rfl)
  (of_decide_eq_true (by kernel_rfl)) (by unfold Func.isWrapper;first|(rw[if_pos (by decide+kernel)];kernel_rfl)|(rw[if_neg (by decide+kernel)];exact⟨rfl,rfl⟩))
  (fun os started H enc _ F=>by rw[OpenClaim.pre_eq_preRow];exact lifted os started H enc F)
theorem plain (f:FuncId)(fn:Func)(hf:Tryz.pinned.checked.prog.funcNamed Rows.reconcileNamesRow.func=some f)(hfn:Tryz.pinned.checked.prog.funcs[f]? =some fn):
  false=Tryz.pinned.checked.prog.looks []∧∀(j:Nat) t,fn.params[j]? =some t→Tryz.pinned.checked.prog.wantsStandIn t=false:=by
 obtain rfl:f=3:=Option.some.inj ((show Tryz.prog.funcNamed Rows.reconcileNamesRow.func=some 3 by kernel_rfl).symm.trans hf)|>.symm
 obtain rfl:fn=Tryz.f3:=(Option.some.inj (Tryz.func3.symm.trans hfn)).symm
 refine⟨by kernel_rfl,fun j t ht=>?_⟩
 rw[Tryz.params3]at ht
 have hm:=Array.mem_of_getElem? ht
 simp at hm
end reconcileNamesFrame
theorem reconcileNames_card:Rows.ReconcileNamesCardSaid:=
 Claim7.holds_tied_plain_at .later [] _ _ _ _ reconcileNamesFrame.said (fun _ h=>by cases h) (by kernel_rfl) (fun _ h=>by cases h) reconcileNames_row_tie rfl ⟨rfl,rfl⟩ (by kernel_rfl) rfl reconcileNamesFrame.plain (by kernel_rfl)
#print axioms reconcileNames_card
end Go.Proofs.YtjemlgdkjilnoaaGreatDoor
