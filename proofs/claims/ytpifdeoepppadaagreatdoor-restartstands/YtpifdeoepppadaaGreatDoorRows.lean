/-
  NARROWER THAN 'FOR EVERY INPUT', by the rows' own cells (each row's printed sentence says how): RestartNames: laid · RestartNil: laid · RestartStands: laid · RestartAgain: laid.
  DERIVED. THE GIVEN ROWS OF THIS SEAT. 4 by the template 'for every input the law returns true; each argument reads behind the call as it read before'; 0 by the template 'total and deterministic' (their statements: YtpifdeoepppadaaGreatDoorTotals.lean).
  GIVEN WITH THE SEED: the statements are not yours to turn. If you find one false, say at which input.
  Laid BY PROGRAM, IN A SANDBOX (cutbox-rows.mjs): the forced cells as the released guide's own fill.sh prints them over the translation cffbe1c9d4f35b18… (all of the seat's roots in one cut). By AI agents, Wed Nov 11 2026. No macro, syntax, notation, axiom, sorry.
-/
import Derived.Test.YtpifdeoepppadaaGreatDoorChecked
import GoSem.Claim
import GoSem.ClaimJoined
import GoSem.ClaimMapViews
import Derived.JoinedTies
import Derived.KernelRfl
namespace Go.Proofs.YtpifdeoepppadaaGreatDoor
/- THE CELL 'sum', in the pinned program and in every row, IS THE sha256 OF THE DUMP (.gsa) THAT YtpifdeoepppadaaGreatDoorProg.lean LOADS. Nothing in Lean hashes anything: it is a label: what it is worth is what the hold of that sum in a sandbox is worth. -/
noncomputable def Tryz.pinned : Pinned := { name := "ytpifdeoepppadaagreatdoor", sum := "cffbe1c9d4f35b1869fae62b66a552486b38fc88deb82d7cd1571bed2ee35bd0", checked := Tryz.checked }
namespace Rows
def none {H : Type} : Left H := { results := [], args := [] }

/- WHAT THE LISTED PACKAGE-LEVEL VARIABLES READ AS WHEN THE CALL BEGINS. Each datum BY PROGRAM (the guide's laid-datum.mjs) off the statement by which the dump's own 'gosem.cut.vars' lays the variable. In a bare row this is a premise. The card (YtpifdeoepppadaaGreatDoorCards.lean) ties it to the program's text. -/
def laid_lagleash_page_most {H : Type} : DataW H := .agg [.lit (.int .i64 1048576), .lit (.int .i64 3), .lit (.int .i64 1048576), .lit (.int .i64 4), .lit (.int .i64 1048576), .lit (.int .i64 1073741824)]

/-- 'lagleashlaw21.RestartNames': WHATEVER THE INPUT: true; the input reads as it did. -/
def restartNamesSpec : ChangeSpec := { name := "restartNames", fn := fun _ => fun
  | [] => { results := [.lit (.bool true)], args := [] }
  | _ => none }
def restartNamesRow : OpenClaim := { program := "ytpifdeoepppadaagreatdoor", sum := "cffbe1c9d4f35b1869fae62b66a552486b38fc88deb82d7cd1571bed2ee35bd0", func := "lagleash/lagleashlaw21.RestartNames", spec := "restartNames", inPlace := ["internal/bytealg.abigen_runtime_cmpstring"], unfollowed := true, recurses := true, named := ["lagleash/page.most"], apart := false, laid := [("lagleash/page.most", laid_lagleash_page_most)] }
def RestartNamesSaid : Prop := restartNamesRow.holds Tryz.pinned (OpenSpec.ofChange restartNamesSpec)

/-- ITS FALSE NEIGHBOUR: 'it returns false'. Refute it at one input. -/
def restartNamesWrong : ChangeSpec := { name := "restartNames", fn := fun _ => fun
  | [] => { results := [.lit (.bool false)], args := [] }
  | _ => none }
def RestartNamesWrongFalsely : Prop := restartNamesRow.holds Tryz.pinned (OpenSpec.ofChange restartNamesWrong)

/-- 'lagleashlaw21.RestartNil': WHATEVER THE INPUT: true; the input reads as it did. -/
def restartNilSpec : ChangeSpec := { name := "restartNil", fn := fun _ => fun
  | [d] => { results := [.lit (.bool true)], args := [d] }
  | _ => none }
def restartNilRow : OpenClaim := { program := "ytpifdeoepppadaagreatdoor", sum := "cffbe1c9d4f35b1869fae62b66a552486b38fc88deb82d7cd1571bed2ee35bd0", func := "lagleash/lagleashlaw21.RestartNil", spec := "restartNil", inPlace := ["internal/bytealg.abigen_runtime_cmpstring"], unfollowed := true, recurses := true, named := ["lagleash/page.most"], apart := false, laid := [("lagleash/page.most", laid_lagleash_page_most)] }
def RestartNilSaid : Prop := restartNilRow.holds Tryz.pinned (OpenSpec.ofChange restartNilSpec)

/-- ITS FALSE NEIGHBOUR: 'it returns false'. Refute it at one input. -/
def restartNilWrong : ChangeSpec := { name := "restartNil", fn := fun _ => fun
  | [d] => { results := [.lit (.bool false)], args := [d] }
  | _ => none }
def RestartNilWrongFalsely : Prop := restartNilRow.holds Tryz.pinned (OpenSpec.ofChange restartNilWrong)

/-- 'lagleashlaw21.RestartStands': WHATEVER THE INPUT: true; the input reads as it did. -/
def restartStandsSpec : ChangeSpec := { name := "restartStands", fn := fun _ => fun
  | [d1, d2, d3, d4] => { results := [.lit (.bool true)], args := [d1, d2, d3, d4] }
  | _ => none }
def restartStandsRow : OpenClaim := { program := "ytpifdeoepppadaagreatdoor", sum := "cffbe1c9d4f35b1869fae62b66a552486b38fc88deb82d7cd1571bed2ee35bd0", func := "lagleash/lagleashlaw21.RestartStands", spec := "restartStands", inPlace := ["internal/bytealg.abigen_runtime_cmpstring"], unfollowed := true, recurses := true, named := ["lagleash/page.most"], apart := false, laid := [("lagleash/page.most", laid_lagleash_page_most)] }
def RestartStandsSaid : Prop := restartStandsRow.holds Tryz.pinned (OpenSpec.ofChange restartStandsSpec)

/-- ITS FALSE NEIGHBOUR: 'it returns false'. Refute it at one input. -/
def restartStandsWrong : ChangeSpec := { name := "restartStands", fn := fun _ => fun
  | [d1, d2, d3, d4] => { results := [.lit (.bool false)], args := [d1, d2, d3, d4] }
  | _ => none }
def RestartStandsWrongFalsely : Prop := restartStandsRow.holds Tryz.pinned (OpenSpec.ofChange restartStandsWrong)

/-- 'lagleashlaw21.RestartAgain': WHATEVER THE INPUT: true; the input reads as it did. -/
def restartAgainSpec : ChangeSpec := { name := "restartAgain", fn := fun _ => fun
  | [d1, d2] => { results := [.lit (.bool true)], args := [d1, d2] }
  | _ => none }
def restartAgainRow : OpenClaim := { program := "ytpifdeoepppadaagreatdoor", sum := "cffbe1c9d4f35b1869fae62b66a552486b38fc88deb82d7cd1571bed2ee35bd0", func := "lagleash/lagleashlaw21.RestartAgain", spec := "restartAgain", inPlace := ["internal/bytealg.abigen_runtime_cmpstring"], unfollowed := true, recurses := true, named := ["lagleash/page.most"], apart := false, laid := [("lagleash/page.most", laid_lagleash_page_most)] }
def RestartAgainSaid : Prop := restartAgainRow.holds Tryz.pinned (OpenSpec.ofChange restartAgainSpec)

/-- ITS FALSE NEIGHBOUR: 'it returns false'. Refute it at one input. -/
def restartAgainWrong : ChangeSpec := { name := "restartAgain", fn := fun _ => fun
  | [d1, d2] => { results := [.lit (.bool false)], args := [d1, d2] }
  | _ => none }
def RestartAgainWrongFalsely : Prop := restartAgainRow.holds Tryz.pinned (OpenSpec.ofChange restartAgainWrong)

/- THE SECOND FORM. 'bulk': how many values and letters a reading holds, each counted each time it is reached (what is shared counts as often as it is met; a slice's spare places count too). A statement '..UptoSaid' is the law's where the arguments, and the package variables that the reading takes, are together of bulk at most 1048576: NARROWER than '..Said'. Prove '..Said' where nothing that the law and all that it calls make is longer than what came in: it says more and counts as full. Else prove '..UptoSaid'. A law counts once. -/
mutual
def uptoBulk {H : Type} : DataW H → Nat
  | .lit (.string bytes) => bytes.length + 1
  | .lit _ => 1
  | .nil => 1
  | .ptr d => uptoBulk d + 1
  | .slice elems spare => uptoBulkAll elems + uptoBulkAll spare + 1
  | .agg parts => uptoBulkAll parts + 1
  | .iface _ d => uptoBulk d + 1
  | .map entries => uptoBulkEntries entries + 1
  | .held _ => 1
def uptoBulkAll {H : Type} : List (DataW H) → Nat
  | [] => 0
  | d :: r => uptoBulk d + uptoBulkAll r
def uptoBulkEntries {H : Type} : List (Lit × DataW H) → Nat
  | [] => 0
  | x :: r => uptoBulkEntry x + uptoBulkEntries r
def uptoBulkEntry {H : Type} : Lit × DataW H → Nat
  | (.string bytes, d) => bytes.length + uptoBulk d + 1
  | (_, d) => uptoBulk d + 1
 end
def uptoSmall : (H : Type) → List (DataW H) → Bool := fun _ ds => decide (uptoBulkAll ds ≤ 1048576)
def OpenSpec.upto (s : _root_.Go.ChangeSpec) : _root_.Go.OpenSpec := { _root_.Go.OpenSpec.ofChange s with cond := some uptoSmall }

/-- 'lagleashlaw21.RestartNames', WHERE WHAT IT READS IS OF BULK AT MOST 1048576: true; the input reads as it did. -/
def restartNamesUptoRow : OpenClaim := { program := "ytpifdeoepppadaagreatdoor", sum := "cffbe1c9d4f35b1869fae62b66a552486b38fc88deb82d7cd1571bed2ee35bd0", func := "lagleash/lagleashlaw21.RestartNames", spec := "restartNames", inPlace := ["internal/bytealg.abigen_runtime_cmpstring"], unfollowed := true, recurses := true, named := ["lagleash/page.most"], apart := false, laid := [("lagleash/page.most", laid_lagleash_page_most)], narrowed := true }
def RestartNamesUptoSaid : Prop := restartNamesUptoRow.holds Tryz.pinned (OpenSpec.upto restartNamesSpec)

/-- 'lagleashlaw21.RestartNil', WHERE WHAT IT READS IS OF BULK AT MOST 1048576: true; the input reads as it did. -/
def restartNilUptoRow : OpenClaim := { program := "ytpifdeoepppadaagreatdoor", sum := "cffbe1c9d4f35b1869fae62b66a552486b38fc88deb82d7cd1571bed2ee35bd0", func := "lagleash/lagleashlaw21.RestartNil", spec := "restartNil", inPlace := ["internal/bytealg.abigen_runtime_cmpstring"], unfollowed := true, recurses := true, named := ["lagleash/page.most"], apart := false, laid := [("lagleash/page.most", laid_lagleash_page_most)], narrowed := true }
def RestartNilUptoSaid : Prop := restartNilUptoRow.holds Tryz.pinned (OpenSpec.upto restartNilSpec)

/-- 'lagleashlaw21.RestartStands', WHERE WHAT IT READS IS OF BULK AT MOST 1048576: true; the input reads as it did. -/
def restartStandsUptoRow : OpenClaim := { program := "ytpifdeoepppadaagreatdoor", sum := "cffbe1c9d4f35b1869fae62b66a552486b38fc88deb82d7cd1571bed2ee35bd0", func := "lagleash/lagleashlaw21.RestartStands", spec := "restartStands", inPlace := ["internal/bytealg.abigen_runtime_cmpstring"], unfollowed := true, recurses := true, named := ["lagleash/page.most"], apart := false, laid := [("lagleash/page.most", laid_lagleash_page_most)], narrowed := true }
def RestartStandsUptoSaid : Prop := restartStandsUptoRow.holds Tryz.pinned (OpenSpec.upto restartStandsSpec)

/-- 'lagleashlaw21.RestartAgain', WHERE WHAT IT READS IS OF BULK AT MOST 1048576: true; the input reads as it did. -/
def restartAgainUptoRow : OpenClaim := { program := "ytpifdeoepppadaagreatdoor", sum := "cffbe1c9d4f35b1869fae62b66a552486b38fc88deb82d7cd1571bed2ee35bd0", func := "lagleash/lagleashlaw21.RestartAgain", spec := "restartAgain", inPlace := ["internal/bytealg.abigen_runtime_cmpstring"], unfollowed := true, recurses := true, named := ["lagleash/page.most"], apart := false, laid := [("lagleash/page.most", laid_lagleash_page_most)], narrowed := true }
def RestartAgainUptoSaid : Prop := restartAgainUptoRow.holds Tryz.pinned (OpenSpec.upto restartAgainSpec)

end Rows
end Go.Proofs.YtpifdeoepppadaaGreatDoor
