/- Proved: a primary shows all that it ever answered; of the start in which the variable page.most holds what its text lays. -/
import Derived.Test.YtlmkaljjocflmaaGreatDoorBZNdReadsa
import Derived.Test.YtlmkaljjocflmaaGreatDoorBZNdReadsc
import Derived.Test.YtlmkaljjocflmaaGreatDoorCards
import Derived.Test.YtlmkaljjocflmaaGreatDoorTie
import Derived.Deep.DeepHandedRow
import Derived.Lib.LaidTab
import Derived.Shelf.LaysM
import Derived.Test.YtlmkaljjocflmaaGreatDoorRows
import Derived.Test.YtlmkaljjocflmaaGreatDoorBZNdReadsW
import Derived.ProofKit
import Derived.OpenShut
import Derived.ShutString
import Derived.ChangeOld
import Derived.Below
import Derived.SizedLaws
import Derived.Test.YtlmkaljjocflmaaGreatDoorBH31
import Derived.Test.YtlmkaljjocflmaaGreatDoorBH21
import Derived.Test.YtlmkaljjocflmaaGreatDoorBH19
set_option maxRecDepth 100000
set_option maxHeartbeats 8000000
set_option linter.unusedVariables false
open Go.Proofs.Tryz
namespace Go.Proofs.YtlmkaljjocflmaaGreatDoor
open Go.ChangeShapes Go.WideShapes Go.ChangeAt Go.RowKit
open Go.ChangeMaps (open_string shut_string)
namespace nodeReadsFrame
theorem said:Rows.NodeReadsSaid:=
 OpenClaim.holds_of_cond 6 Tryz.f6 rfl rfl rfl rfl rfl rfl rfl ⟨rfl,rfl,rfl,rfl,rfl⟩ rfl rfl rfl rfl rfl (by as_aux_lemma=>kernel_rfl) func6 closed
  (by as_aux_lemma=>exact of_decide_eq_true (by kernel_rfl)) (by as_aux_lemma=>unfold Func.isWrapper;first|(rw[if_pos (by decide+kernel)];kernel_rfl)|(rw[if_neg (by decide+kernel)];exact⟨rfl,rfl⟩))
  (fun os started H enc _ F=>by as_aux_lemma=>rw[OpenClaim.pre_eq_preRow];exact lifted os started H enc F)
theorem plain (f:FuncId)(fn:Func)(hf:Tryz.pinned.checked.prog.funcNamed Rows.nodeReadsRow.func=some f)(hfn:Tryz.pinned.checked.prog.funcs[f]? =some fn):
  false=Tryz.pinned.checked.prog.looks []∧∀(j:Nat) t,fn.params[j]? =some t→Tryz.pinned.checked.prog.wantsStandIn t=false:=by
 obtain rfl:f=6:=Option.some.inj ((show prog.funcNamed Rows.nodeReadsRow.func=some 6 by kernel_rfl).symm.trans hf)|>.symm
 obtain rfl:fn=Tryz.f6:=(Option.some.inj (func6.symm.trans hfn)).symm
 refine⟨by kernel_rfl,fun j t ht=>?_⟩
 rw[Tryz.params6]at ht
 have hm:=Array.mem_of_getElem? ht
 simp at hm
 rcases hm with rfl|rfl|rfl
 ·exact(show prog.wantsStandIn 3=false by kernel_rfl)
 ·exact(show prog.wantsStandIn 99=false by kernel_rfl)
 ·exact(show prog.wantsStandIn 100=false by kernel_rfl)
end nodeReadsFrame
theorem nodeReads_card:Rows.NodeReadsCardSaid:=
 Claim7.holds_tied_plain_at .later [] _ _ _ _ nodeReadsFrame.said (fun _ h=>by cases h) (by kernel_rfl) (fun _ h=>by cases h) nodeReads_row_tie rfl ⟨rfl,rfl⟩ (by kernel_rfl) rfl nodeReadsFrame.plain (by kernel_rfl)
#print axioms nodeReads_card
end Go.Proofs.YtlmkaljjocflmaaGreatDoor
