/-
  NARROWER THAN 'FOR EVERY INPUT', by the rows' own cells (each row's printed sentence says how): RoleNames: laid · RoleCalls: laid · RoleWays: laid · RoleRound: laid.
  DERIVED. THE GIVEN ROWS OF THIS SEAT. 4 by the template 'for every input the law returns true; each argument reads behind the call as it read before'; 0 by the template 'total and deterministic' (their statements: YthndeolibilnnaaDoorTotals.lean).
  GIVEN WITH THE SEED: the statements are not yours to turn. If you find one false, say at which input.
  Laid BY PROGRAM, IN A SANDBOX (cutbox-rows.mjs): the forced cells as the released guide's own fill.sh prints them over the translation a8be5cc3c4a8c8d6… (all of the seat's roots in one cut). By AI agents, Wed Nov 11 2026. No macro, syntax, notation, axiom, sorry.
-/
import Derived.Test.YthndeolibilnnaaDoorChecked
import GoSem.Claim
import GoSem.ClaimJoined
import GoSem.ClaimMapViews
import Derived.JoinedTies
import Derived.KernelRfl
namespace Go.Proofs.YthndeolibilnnaaDoor
/- THE CELL 'sum', in the pinned program and in every row, IS THE sha256 OF THE DUMP (.gsa) THAT YthndeolibilnnaaDoorProg.lean LOADS. Nothing in Lean hashes anything: it is a label: what it is worth is what the hold of that sum in a sandbox is worth. -/
noncomputable def Tryd.pinned : Pinned := { name := "ythndeolibilnnaadoor", sum := "a8be5cc3c4a8c8d69b1cb40c0add63fa97d3e91d0e481303ccc2d183e67955c8", checked := Tryd.checked }
namespace Rows
def none {H : Type} : Left H := { results := [], args := [] }

/- WHAT THE LISTED PACKAGE-LEVEL VARIABLES READ AS WHEN THE CALL BEGINS. Each datum BY PROGRAM (the guide's laid-datum.mjs) off the statement by which the dump's own 'gosem.cut.vars' lays the variable. In a bare row this is a premise. The card (YthndeolibilnnaaDoorCards.lean) ties it to the program's text. -/
def laid_lagleash_page_most {H : Type} : DataW H := .agg [.lit (.int .i64 1048576), .lit (.int .i64 3), .lit (.int .i64 1048576), .lit (.int .i64 4), .lit (.int .i64 1048576), .lit (.int .i64 1073741824)]

/-- 'lagleashlaw20.RoleNames': WHATEVER THE INPUT: true; the input reads as it did. -/
def roleNamesSpec : ChangeSpec := { name := "roleNames", fn := fun _ => fun
  | [] => { results := [.lit (.bool true)], args := [] }
  | _ => none }
def roleNamesRow : OpenClaim := { program := "ythndeolibilnnaadoor", sum := "a8be5cc3c4a8c8d69b1cb40c0add63fa97d3e91d0e481303ccc2d183e67955c8", func := "lagleash/lagleashlaw20.RoleNames", spec := "roleNames", unfollowed := true, recurses := true, named := ["lagleash/page.most"], apart := false, laid := [("lagleash/page.most", laid_lagleash_page_most)] }
def RoleNamesSaid : Prop := roleNamesRow.holds Tryd.pinned (OpenSpec.ofChange roleNamesSpec)

/-- ITS FALSE NEIGHBOUR: 'it returns false'. Refute it at one input. -/
def roleNamesWrong : ChangeSpec := { name := "roleNames", fn := fun _ => fun
  | [] => { results := [.lit (.bool false)], args := [] }
  | _ => none }
def RoleNamesWrongFalsely : Prop := roleNamesRow.holds Tryd.pinned (OpenSpec.ofChange roleNamesWrong)

/-- 'lagleashlaw20.RoleCalls': WHATEVER THE INPUT: true; the input reads as it did. -/
def roleCallsSpec : ChangeSpec := { name := "roleCalls", fn := fun _ => fun
  | [d1, d2, d3] => { results := [.lit (.bool true)], args := [d1, d2, d3] }
  | _ => none }
def roleCallsRow : OpenClaim := { program := "ythndeolibilnnaadoor", sum := "a8be5cc3c4a8c8d69b1cb40c0add63fa97d3e91d0e481303ccc2d183e67955c8", func := "lagleash/lagleashlaw20.RoleCalls", spec := "roleCalls", unfollowed := true, recurses := true, named := ["lagleash/page.most"], apart := false, laid := [("lagleash/page.most", laid_lagleash_page_most)] }
def RoleCallsSaid : Prop := roleCallsRow.holds Tryd.pinned (OpenSpec.ofChange roleCallsSpec)

/-- ITS FALSE NEIGHBOUR: 'it returns false'. Refute it at one input. -/
def roleCallsWrong : ChangeSpec := { name := "roleCalls", fn := fun _ => fun
  | [d1, d2, d3] => { results := [.lit (.bool false)], args := [d1, d2, d3] }
  | _ => none }
def RoleCallsWrongFalsely : Prop := roleCallsRow.holds Tryd.pinned (OpenSpec.ofChange roleCallsWrong)

/-- 'lagleashlaw20.RoleWays': WHATEVER THE INPUT: true; the input reads as it did. -/
def roleWaysSpec : ChangeSpec := { name := "roleWays", fn := fun _ => fun
  | [d1, d2] => { results := [.lit (.bool true)], args := [d1, d2] }
  | _ => none }
def roleWaysRow : OpenClaim := { program := "ythndeolibilnnaadoor", sum := "a8be5cc3c4a8c8d69b1cb40c0add63fa97d3e91d0e481303ccc2d183e67955c8", func := "lagleash/lagleashlaw20.RoleWays", spec := "roleWays", unfollowed := true, recurses := true, named := ["lagleash/page.most"], apart := false, laid := [("lagleash/page.most", laid_lagleash_page_most)] }
def RoleWaysSaid : Prop := roleWaysRow.holds Tryd.pinned (OpenSpec.ofChange roleWaysSpec)

/-- ITS FALSE NEIGHBOUR: 'it returns false'. Refute it at one input. -/
def roleWaysWrong : ChangeSpec := { name := "roleWays", fn := fun _ => fun
  | [d1, d2] => { results := [.lit (.bool false)], args := [d1, d2] }
  | _ => none }
def RoleWaysWrongFalsely : Prop := roleWaysRow.holds Tryd.pinned (OpenSpec.ofChange roleWaysWrong)

/-- 'lagleashlaw20.RoleRound': WHATEVER THE INPUT: true; the input reads as it did. -/
def roleRoundSpec : ChangeSpec := { name := "roleRound", fn := fun _ => fun
  | [d1, d2, d3, d4, d5] => { results := [.lit (.bool true)], args := [d1, d2, d3, d4, d5] }
  | _ => none }
def roleRoundRow : OpenClaim := { program := "ythndeolibilnnaadoor", sum := "a8be5cc3c4a8c8d69b1cb40c0add63fa97d3e91d0e481303ccc2d183e67955c8", func := "lagleash/lagleashlaw20.RoleRound", spec := "roleRound", unfollowed := true, recurses := true, named := ["lagleash/page.most"], apart := false, laid := [("lagleash/page.most", laid_lagleash_page_most)] }
def RoleRoundSaid : Prop := roleRoundRow.holds Tryd.pinned (OpenSpec.ofChange roleRoundSpec)

/-- ITS FALSE NEIGHBOUR: 'it returns false'. Refute it at one input. -/
def roleRoundWrong : ChangeSpec := { name := "roleRound", fn := fun _ => fun
  | [d1, d2, d3, d4, d5] => { results := [.lit (.bool false)], args := [d1, d2, d3, d4, d5] }
  | _ => none }
def RoleRoundWrongFalsely : Prop := roleRoundRow.holds Tryd.pinned (OpenSpec.ofChange roleRoundWrong)

/- THE SECOND FORM. 'bulk': how many values and letters a reading holds, each counted each time it is reached (what is shared counts as often as it is met; a slice's spare places count too). A statement '..UptoSaid' is the law's where the arguments, and the package variables that the reading takes, are together of bulk at most 1048576: NARROWER than '..Said'. Prove '..Said' where nothing that the law and all that it calls make is longer than what came in: it says more and counts as full. Else prove '..UptoSaid'. A law counts once. -/
mutual
def uptoBulk {H : Type} : DataW H → Nat
  | .lit (.string bytes) => bytes.length + 1
  | .lit _ => 1
  | .nil => 1
  | .ptr d => uptoBulk d + 1
  | .slice elems spare => uptoBulkAll elems + uptoBulkAll spare + 1
  | .agg parts => uptoBulkAll parts + 1
  | .iface _ d => uptoBulk d + 1
  | .map entries => uptoBulkEntries entries + 1
  | .held _ => 1
def uptoBulkAll {H : Type} : List (DataW H) → Nat
  | [] => 0
  | d :: r => uptoBulk d + uptoBulkAll r
def uptoBulkEntries {H : Type} : List (Lit × DataW H) → Nat
  | [] => 0
  | x :: r => uptoBulkEntry x + uptoBulkEntries r
def uptoBulkEntry {H : Type} : Lit × DataW H → Nat
  | (.string bytes, d) => bytes.length + uptoBulk d + 1
  | (_, d) => uptoBulk d + 1
 end
def uptoSmall : (H : Type) → List (DataW H) → Bool := fun _ ds => decide (uptoBulkAll ds ≤ 1048576)
def OpenSpec.upto (s : _root_.Go.ChangeSpec) : _root_.Go.OpenSpec := { _root_.Go.OpenSpec.ofChange s with cond := some uptoSmall }

/-- 'lagleashlaw20.RoleNames', WHERE WHAT IT READS IS OF BULK AT MOST 1048576: true; the input reads as it did. -/
def roleNamesUptoRow : OpenClaim := { program := "ythndeolibilnnaadoor", sum := "a8be5cc3c4a8c8d69b1cb40c0add63fa97d3e91d0e481303ccc2d183e67955c8", func := "lagleash/lagleashlaw20.RoleNames", spec := "roleNames", unfollowed := true, recurses := true, named := ["lagleash/page.most"], apart := false, laid := [("lagleash/page.most", laid_lagleash_page_most)], narrowed := true }
def RoleNamesUptoSaid : Prop := roleNamesUptoRow.holds Tryd.pinned (OpenSpec.upto roleNamesSpec)

/-- 'lagleashlaw20.RoleCalls', WHERE WHAT IT READS IS OF BULK AT MOST 1048576: true; the input reads as it did. -/
def roleCallsUptoRow : OpenClaim := { program := "ythndeolibilnnaadoor", sum := "a8be5cc3c4a8c8d69b1cb40c0add63fa97d3e91d0e481303ccc2d183e67955c8", func := "lagleash/lagleashlaw20.RoleCalls", spec := "roleCalls", unfollowed := true, recurses := true, named := ["lagleash/page.most"], apart := false, laid := [("lagleash/page.most", laid_lagleash_page_most)], narrowed := true }
def RoleCallsUptoSaid : Prop := roleCallsUptoRow.holds Tryd.pinned (OpenSpec.upto roleCallsSpec)

/-- 'lagleashlaw20.RoleWays', WHERE WHAT IT READS IS OF BULK AT MOST 1048576: true; the input reads as it did. -/
def roleWaysUptoRow : OpenClaim := { program := "ythndeolibilnnaadoor", sum := "a8be5cc3c4a8c8d69b1cb40c0add63fa97d3e91d0e481303ccc2d183e67955c8", func := "lagleash/lagleashlaw20.RoleWays", spec := "roleWays", unfollowed := true, recurses := true, named := ["lagleash/page.most"], apart := false, laid := [("lagleash/page.most", laid_lagleash_page_most)], narrowed := true }
def RoleWaysUptoSaid : Prop := roleWaysUptoRow.holds Tryd.pinned (OpenSpec.upto roleWaysSpec)

/-- 'lagleashlaw20.RoleRound', WHERE WHAT IT READS IS OF BULK AT MOST 1048576: true; the input reads as it did. -/
def roleRoundUptoRow : OpenClaim := { program := "ythndeolibilnnaadoor", sum := "a8be5cc3c4a8c8d69b1cb40c0add63fa97d3e91d0e481303ccc2d183e67955c8", func := "lagleash/lagleashlaw20.RoleRound", spec := "roleRound", unfollowed := true, recurses := true, named := ["lagleash/page.most"], apart := false, laid := [("lagleash/page.most", laid_lagleash_page_most)], narrowed := true }
def RoleRoundUptoSaid : Prop := roleRoundUptoRow.holds Tryd.pinned (OpenSpec.upto roleRoundSpec)

end Rows
end Go.Proofs.YthndeolibilnnaaDoor
