/-
  NARROWER THAN 'FOR EVERY INPUT', by the rows' own cells (each row's printed sentence says how): PageNames: laid · PageCalls: laid · PageReads: laid · PageBack: laid · PageUnlike: laid.
  DERIVED. THE GIVEN ROWS OF THIS SEAT. 5 by the template 'for every input the law returns true; each argument reads behind the call as it read before'; 0 by the template 'total and deterministic' (their statements: YtdfbagnnieoonaaDoorTotals.lean).
  GIVEN WITH THE SEED: the statements are not yours to turn. If you find one false, say at which input.
  Laid BY PROGRAM, IN A SANDBOX (cutbox-rows.mjs): the forced cells as the released guide's own fill.sh prints them over the translation 9cdec36f9e5621a6… (all of the seat's roots in one cut). By AI agents, Wed Nov 11 2026. No macro, syntax, notation, axiom, sorry.
-/
import Derived.Test.YtdfbagnnieoonaaDoorChecked
import GoSem.Claim
import GoSem.ClaimJoined
import GoSem.ClaimMapViews
import Derived.JoinedTies
import Derived.KernelRfl
namespace Go.Proofs.YtdfbagnnieoonaaDoor
/- THE CELL 'sum', in the pinned program and in every row, IS THE sha256 OF THE DUMP (.gsa) THAT YtdfbagnnieoonaaDoorProg.lean LOADS. Nothing in Lean hashes anything: it is a label: what it is worth is what the hold of that sum in a sandbox is worth. -/
noncomputable def Tryd.pinned : Pinned := { name := "ytdfbagnnieoonaadoor", sum := "9cdec36f9e5621a612d7b52f9d8960f180525c93caa1e25b4bbb25fe20cec970", checked := Tryd.checked }
namespace Rows
def none {H : Type} : Left H := { results := [], args := [] }

/- WHAT THE LISTED PACKAGE-LEVEL VARIABLES READ AS WHEN THE CALL BEGINS. Each datum BY PROGRAM (the guide's laid-datum.mjs) off the statement by which the dump's own 'gosem.cut.vars' lays the variable. In a bare row this is a premise. The card (YtdfbagnnieoonaaDoorCards.lean) ties it to the program's text. -/
def laid_lagleash_page_most {H : Type} : DataW H := .agg [.lit (.int .i64 1048576), .lit (.int .i64 3), .lit (.int .i64 1048576), .lit (.int .i64 4), .lit (.int .i64 1048576), .lit (.int .i64 1073741824)]

/-- 'lagleashlaw10.PageNames': WHATEVER THE INPUT: true; the input reads as it did. -/
def pageNamesSpec : ChangeSpec := { name := "pageNames", fn := fun _ => fun
  | [] => { results := [.lit (.bool true)], args := [] }
  | _ => none }
def pageNamesRow : OpenClaim := { program := "ytdfbagnnieoonaadoor", sum := "9cdec36f9e5621a612d7b52f9d8960f180525c93caa1e25b4bbb25fe20cec970", func := "lagleash/lagleashlaw10.PageNames", spec := "pageNames", named := ["lagleash/page.most"], apart := false, laid := [("lagleash/page.most", laid_lagleash_page_most)] }
def PageNamesSaid : Prop := pageNamesRow.holds Tryd.pinned (OpenSpec.ofChange pageNamesSpec)

/-- ITS FALSE NEIGHBOUR: 'it returns false'. Refute it at one input. -/
def pageNamesWrong : ChangeSpec := { name := "pageNames", fn := fun _ => fun
  | [] => { results := [.lit (.bool false)], args := [] }
  | _ => none }
def PageNamesWrongFalsely : Prop := pageNamesRow.holds Tryd.pinned (OpenSpec.ofChange pageNamesWrong)

/-- 'lagleashlaw10.PageCalls': WHATEVER THE INPUT: true; the input reads as it did. -/
def pageCallsSpec : ChangeSpec := { name := "pageCalls", fn := fun _ => fun
  | [d1, d2] => { results := [.lit (.bool true)], args := [d1, d2] }
  | _ => none }
def pageCallsRow : OpenClaim := { program := "ytdfbagnnieoonaadoor", sum := "9cdec36f9e5621a612d7b52f9d8960f180525c93caa1e25b4bbb25fe20cec970", func := "lagleash/lagleashlaw10.PageCalls", spec := "pageCalls", named := ["lagleash/page.most"], apart := false, laid := [("lagleash/page.most", laid_lagleash_page_most)] }
def PageCallsSaid : Prop := pageCallsRow.holds Tryd.pinned (OpenSpec.ofChange pageCallsSpec)

/-- ITS FALSE NEIGHBOUR: 'it returns false'. Refute it at one input. -/
def pageCallsWrong : ChangeSpec := { name := "pageCalls", fn := fun _ => fun
  | [d1, d2] => { results := [.lit (.bool false)], args := [d1, d2] }
  | _ => none }
def PageCallsWrongFalsely : Prop := pageCallsRow.holds Tryd.pinned (OpenSpec.ofChange pageCallsWrong)

/-- 'lagleashlaw10.PageReads': WHATEVER THE INPUT: true; the input reads as it did. -/
def pageReadsSpec : ChangeSpec := { name := "pageReads", fn := fun _ => fun
  | [d1, d2, d3] => { results := [.lit (.bool true)], args := [d1, d2, d3] }
  | _ => none }
def pageReadsRow : OpenClaim := { program := "ytdfbagnnieoonaadoor", sum := "9cdec36f9e5621a612d7b52f9d8960f180525c93caa1e25b4bbb25fe20cec970", func := "lagleash/lagleashlaw10.PageReads", spec := "pageReads", named := ["lagleash/page.most"], apart := false, laid := [("lagleash/page.most", laid_lagleash_page_most)] }
def PageReadsSaid : Prop := pageReadsRow.holds Tryd.pinned (OpenSpec.ofChange pageReadsSpec)

/-- ITS FALSE NEIGHBOUR: 'it returns false'. Refute it at one input. -/
def pageReadsWrong : ChangeSpec := { name := "pageReads", fn := fun _ => fun
  | [d1, d2, d3] => { results := [.lit (.bool false)], args := [d1, d2, d3] }
  | _ => none }
def PageReadsWrongFalsely : Prop := pageReadsRow.holds Tryd.pinned (OpenSpec.ofChange pageReadsWrong)

/-- 'lagleashlaw10.PageBack': WHATEVER THE INPUT: true; the input reads as it did. -/
def pageBackSpec : ChangeSpec := { name := "pageBack", fn := fun _ => fun
  | [d1, d2, d3, d4] => { results := [.lit (.bool true)], args := [d1, d2, d3, d4] }
  | _ => none }
def pageBackRow : OpenClaim := { program := "ytdfbagnnieoonaadoor", sum := "9cdec36f9e5621a612d7b52f9d8960f180525c93caa1e25b4bbb25fe20cec970", func := "lagleash/lagleashlaw10.PageBack", spec := "pageBack", named := ["lagleash/page.most"], apart := false, laid := [("lagleash/page.most", laid_lagleash_page_most)] }
def PageBackSaid : Prop := pageBackRow.holds Tryd.pinned (OpenSpec.ofChange pageBackSpec)

/-- ITS FALSE NEIGHBOUR: 'it returns false'. Refute it at one input. -/
def pageBackWrong : ChangeSpec := { name := "pageBack", fn := fun _ => fun
  | [d1, d2, d3, d4] => { results := [.lit (.bool false)], args := [d1, d2, d3, d4] }
  | _ => none }
def PageBackWrongFalsely : Prop := pageBackRow.holds Tryd.pinned (OpenSpec.ofChange pageBackWrong)

/-- 'lagleashlaw10.PageUnlike': WHATEVER THE INPUT: true; the input reads as it did. -/
def pageUnlikeSpec : ChangeSpec := { name := "pageUnlike", fn := fun _ => fun
  | [d1, d2] => { results := [.lit (.bool true)], args := [d1, d2] }
  | _ => none }
def pageUnlikeRow : OpenClaim := { program := "ytdfbagnnieoonaadoor", sum := "9cdec36f9e5621a612d7b52f9d8960f180525c93caa1e25b4bbb25fe20cec970", func := "lagleash/lagleashlaw10.PageUnlike", spec := "pageUnlike", named := ["lagleash/page.most"], apart := false, laid := [("lagleash/page.most", laid_lagleash_page_most)] }
def PageUnlikeSaid : Prop := pageUnlikeRow.holds Tryd.pinned (OpenSpec.ofChange pageUnlikeSpec)

/-- ITS FALSE NEIGHBOUR: 'it returns false'. Refute it at one input. -/
def pageUnlikeWrong : ChangeSpec := { name := "pageUnlike", fn := fun _ => fun
  | [d1, d2] => { results := [.lit (.bool false)], args := [d1, d2] }
  | _ => none }
def PageUnlikeWrongFalsely : Prop := pageUnlikeRow.holds Tryd.pinned (OpenSpec.ofChange pageUnlikeWrong)

/- THE SECOND FORM. 'bulk': how many values and letters a reading holds, each counted each time it is reached (what is shared counts as often as it is met; a slice's spare places count too). A statement '..UptoSaid' is the law's where the arguments, and the package variables that the reading takes, are together of bulk at most 1048576: NARROWER than '..Said'. Prove '..Said' where nothing that the law and all that it calls make is longer than what came in: it says more and counts as full. Else prove '..UptoSaid'. A law counts once. -/
mutual
def uptoBulk {H : Type} : DataW H → Nat
  | .lit (.string bytes) => bytes.length + 1
  | .lit _ => 1
  | .nil => 1
  | .ptr d => uptoBulk d + 1
  | .slice elems spare => uptoBulkAll elems + uptoBulkAll spare + 1
  | .agg parts => uptoBulkAll parts + 1
  | .iface _ d => uptoBulk d + 1
  | .map entries => uptoBulkEntries entries + 1
  | .held _ => 1
def uptoBulkAll {H : Type} : List (DataW H) → Nat
  | [] => 0
  | d :: r => uptoBulk d + uptoBulkAll r
def uptoBulkEntries {H : Type} : List (Lit × DataW H) → Nat
  | [] => 0
  | x :: r => uptoBulkEntry x + uptoBulkEntries r
def uptoBulkEntry {H : Type} : Lit × DataW H → Nat
  | (.string bytes, d) => bytes.length + uptoBulk d + 1
  | (_, d) => uptoBulk d + 1
 end
def uptoSmall : (H : Type) → List (DataW H) → Bool := fun _ ds => decide (uptoBulkAll ds ≤ 1048576)
def OpenSpec.upto (s : _root_.Go.ChangeSpec) : _root_.Go.OpenSpec := { _root_.Go.OpenSpec.ofChange s with cond := some uptoSmall }

/-- 'lagleashlaw10.PageNames', WHERE WHAT IT READS IS OF BULK AT MOST 1048576: true; the input reads as it did. -/
def pageNamesUptoRow : OpenClaim := { program := "ytdfbagnnieoonaadoor", sum := "9cdec36f9e5621a612d7b52f9d8960f180525c93caa1e25b4bbb25fe20cec970", func := "lagleash/lagleashlaw10.PageNames", spec := "pageNames", named := ["lagleash/page.most"], apart := false, laid := [("lagleash/page.most", laid_lagleash_page_most)], narrowed := true }
def PageNamesUptoSaid : Prop := pageNamesUptoRow.holds Tryd.pinned (OpenSpec.upto pageNamesSpec)

/-- 'lagleashlaw10.PageCalls', WHERE WHAT IT READS IS OF BULK AT MOST 1048576: true; the input reads as it did. -/
def pageCallsUptoRow : OpenClaim := { program := "ytdfbagnnieoonaadoor", sum := "9cdec36f9e5621a612d7b52f9d8960f180525c93caa1e25b4bbb25fe20cec970", func := "lagleash/lagleashlaw10.PageCalls", spec := "pageCalls", named := ["lagleash/page.most"], apart := false, laid := [("lagleash/page.most", laid_lagleash_page_most)], narrowed := true }
def PageCallsUptoSaid : Prop := pageCallsUptoRow.holds Tryd.pinned (OpenSpec.upto pageCallsSpec)

/-- 'lagleashlaw10.PageReads', WHERE WHAT IT READS IS OF BULK AT MOST 1048576: true; the input reads as it did. -/
def pageReadsUptoRow : OpenClaim := { program := "ytdfbagnnieoonaadoor", sum := "9cdec36f9e5621a612d7b52f9d8960f180525c93caa1e25b4bbb25fe20cec970", func := "lagleash/lagleashlaw10.PageReads", spec := "pageReads", named := ["lagleash/page.most"], apart := false, laid := [("lagleash/page.most", laid_lagleash_page_most)], narrowed := true }
def PageReadsUptoSaid : Prop := pageReadsUptoRow.holds Tryd.pinned (OpenSpec.upto pageReadsSpec)

/-- 'lagleashlaw10.PageBack', WHERE WHAT IT READS IS OF BULK AT MOST 1048576: true; the input reads as it did. -/
def pageBackUptoRow : OpenClaim := { program := "ytdfbagnnieoonaadoor", sum := "9cdec36f9e5621a612d7b52f9d8960f180525c93caa1e25b4bbb25fe20cec970", func := "lagleash/lagleashlaw10.PageBack", spec := "pageBack", named := ["lagleash/page.most"], apart := false, laid := [("lagleash/page.most", laid_lagleash_page_most)], narrowed := true }
def PageBackUptoSaid : Prop := pageBackUptoRow.holds Tryd.pinned (OpenSpec.upto pageBackSpec)

/-- 'lagleashlaw10.PageUnlike', WHERE WHAT IT READS IS OF BULK AT MOST 1048576: true; the input reads as it did. -/
def pageUnlikeUptoRow : OpenClaim := { program := "ytdfbagnnieoonaadoor", sum := "9cdec36f9e5621a612d7b52f9d8960f180525c93caa1e25b4bbb25fe20cec970", func := "lagleash/lagleashlaw10.PageUnlike", spec := "pageUnlike", named := ["lagleash/page.most"], apart := false, laid := [("lagleash/page.most", laid_lagleash_page_most)], narrowed := true }
def PageUnlikeUptoSaid : Prop := pageUnlikeUptoRow.holds Tryd.pinned (OpenSpec.upto pageUnlikeSpec)

end Rows
end Go.Proofs.YtdfbagnnieoonaaDoor
