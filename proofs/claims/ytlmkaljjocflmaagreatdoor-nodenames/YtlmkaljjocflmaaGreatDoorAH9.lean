/- Texts of one layer, one behind the other. -/
import Derived.Test.YtlmkaljjocflmaaGreatDoorAH4
import Derived.Laws.BytesArg
import Derived.Test.YtlmkaljjocflmaaGreatDoorAH13
import Derived.Test.YtlmkaljjocflmaaGreatDoorAZIter
import Derived.Test.YtlmkaljjocflmaaGreatDoorAZRg
set_option maxRecDepth 100000
set_option maxHeartbeats 8000000
namespace Go.Proofs.YtlmkaljjocflmaaGreatDoor
open Go.RowKit
set_option linter.unusedVariables false
theorem Is.conv {w:World}{v:Value}{zs:List Int}(h:Is .u8 w v zs){P:Program}{src e dst:TypeId}(hs:P.underlying src=some (.slice e))(he:P.underlying e=some (.int .u8))(hd:P.underlying dst=some .string):
  (convert src dst v).run P w=.ok (.string ⟨(Om.ik zs).toArray⟩) w:=by
 by_cases hz:0<zs.length
 ·obtain⟨b,o,c,rfl,_,_,_,hc⟩:=h.full hz
  exact run_convert_bytes_arg w src e hs he b o zs.length c zs rfl hc dst hd
 ·have:zs=[]:=List.eq_nil_of_length_eq_zero (by omega)
  subst this
  obtain⟨ao,c,rfl⟩:=h.bare
  cases ao with
  |none=>exact run_convert_bytes_nil w src e hs he 0 c dst hd
  |some ad=>
   rw[run_convert_bytes_string w src dst e _ 0 c hs he hd,run_bytesToString w ad 0 c [] (by have:=run_loadCells_list (P:=P) w ad [] (by simp);simpa using this)]
   rfl
theorem Is.bytes {w:World}{v:Value}{zs:List Int}(h:Is .u8 w v zs):∀z∈zs,0≤z∧z<256:=by
 intro z hz
 obtain⟨i,hi,rfl⟩:=List.getElem_of_mem hz
 have:=h.byte i
 simpa[List.getD,hi]using this
end Go.Proofs.YtlmkaljjocflmaaGreatDoor
namespace Go.Proofs.YtlmkaljjocflmaaGreatDoor
open Go.RowKit Go.Maps Go.Shelf
open Bm (Ov)
set_option linter.unusedVariables false
attribute [local go_sem] Oper.semAt_some
end Go.Proofs.YtlmkaljjocflmaaGreatDoor
namespace Go.Proofs.YtlmkaljjocflmaaGreatDoor
open Go.RowKit Go.Maps Go.Shelf
open Bm (Ov)
set_option linter.unusedVariables false
attribute [local go_sem] Oper.semAt_some
end Go.Proofs.YtlmkaljjocflmaaGreatDoor
namespace Go.Proofs.YtlmkaljjocflmaaGreatDoor
open Go.RowKit Go.Maps Go.Shelf
open Bm (Ov)
set_option linter.unusedVariables false
attribute [local go_sem] Oper.semAt_some
end Go.Proofs.YtlmkaljjocflmaaGreatDoor
namespace Go.Proofs.YtlmkaljjocflmaaGreatDoor
open Go.RowKit Go.Maps Go.Shelf
open Bm (Ov)
set_option linter.unusedVariables false
attribute [local go_sem] Oper.semAt_some
end Go.Proofs.YtlmkaljjocflmaaGreatDoor
