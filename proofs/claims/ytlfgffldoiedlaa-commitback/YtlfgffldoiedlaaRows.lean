/-
  No cell of these rows narrows 'for every input' (looked for: loops, veiled, ifaces, maps, wideKeys, modest, calm, conditions, laid).
  DERIVED. THE GIVEN ROWS OF THIS SEAT. 6 by the template 'for every input the law returns true; each argument reads behind the call as it read before'; 0 by the template 'total and deterministic' (their statements: YtlfgffldoiedlaaTotals.lean).
  GIVEN WITH THE SEED: the statements are not yours to turn. If you find one false, say at which input.
  Laid BY PROGRAM, IN A SANDBOX (cutbox-rows.mjs): the forced cells as the released guide's own fill.sh prints them over the translation 78fe48aced1a2a37… (all of the seat's roots in one cut). By AI agents, Wed Nov 11 2026. No macro, syntax, notation, axiom, sorry.
-/
import Derived.Test.YtlfgffldoiedlaaChecked
import GoSem.Claim
import GoSem.ClaimJoined
import GoSem.ClaimMapViews
import Derived.JoinedTies
import Derived.KernelRfl
namespace Go.Proofs.Ytlfgffldoiedlaa
/- THE CELL 'sum', in the pinned program and in every row, IS THE sha256 OF THE DUMP (.gsa) THAT YtlfgffldoiedlaaProg.lean LOADS. Nothing in Lean hashes anything: it is a label: what it is worth is what the hold of that sum in a sandbox is worth. -/
noncomputable def Try.pinned : Pinned := { name := "ytlfgffldoiedlaa", sum := "78fe48aced1a2a3721ad8203b55106a004df49d8e7ea3ba3521f4b46e72c583d", checked := Try.checked }
namespace Rows
def none {H : Type} : Left H := { results := [], args := [] }

/-- 'lagleashlaw04.CommitNames': WHATEVER THE INPUT: true; the input reads as it did. -/
def commitNamesSpec : ChangeSpec := { name := "commitNames", fn := fun _ => fun
  | [] => { results := [.lit (.bool true)], args := [] }
  | _ => none }
def commitNamesRow : OpenClaim := { program := "ytlfgffldoiedlaa", sum := "78fe48aced1a2a3721ad8203b55106a004df49d8e7ea3ba3521f4b46e72c583d", func := "lagleash/lagleashlaw04.CommitNames", spec := "commitNames", apart := false }
def CommitNamesSaid : Prop := commitNamesRow.holds Try.pinned (OpenSpec.ofChange commitNamesSpec)

/-- ITS FALSE NEIGHBOUR: 'it returns false'. Refute it at one input. -/
def commitNamesWrong : ChangeSpec := { name := "commitNames", fn := fun _ => fun
  | [] => { results := [.lit (.bool false)], args := [] }
  | _ => none }
def CommitNamesWrongFalsely : Prop := commitNamesRow.holds Try.pinned (OpenSpec.ofChange commitNamesWrong)

/-- 'lagleashlaw04.CommitCalls': WHATEVER THE INPUT: true; the input reads as it did. -/
def commitCallsSpec : ChangeSpec := { name := "commitCalls", fn := fun _ => fun
  | [d1, d2] => { results := [.lit (.bool true)], args := [d1, d2] }
  | _ => none }
def commitCallsRow : OpenClaim := { program := "ytlfgffldoiedlaa", sum := "78fe48aced1a2a3721ad8203b55106a004df49d8e7ea3ba3521f4b46e72c583d", func := "lagleash/lagleashlaw04.CommitCalls", spec := "commitCalls", apart := false }
def CommitCallsSaid : Prop := commitCallsRow.holds Try.pinned (OpenSpec.ofChange commitCallsSpec)

/-- ITS FALSE NEIGHBOUR: 'it returns false'. Refute it at one input. -/
def commitCallsWrong : ChangeSpec := { name := "commitCalls", fn := fun _ => fun
  | [d1, d2] => { results := [.lit (.bool false)], args := [d1, d2] }
  | _ => none }
def CommitCallsWrongFalsely : Prop := commitCallsRow.holds Try.pinned (OpenSpec.ofChange commitCallsWrong)

/-- 'lagleashlaw04.CommitReads': WHATEVER THE INPUT: true; the input reads as it did. -/
def commitReadsSpec : ChangeSpec := { name := "commitReads", fn := fun _ => fun
  | [d] => { results := [.lit (.bool true)], args := [d] }
  | _ => none }
def commitReadsRow : OpenClaim := { program := "ytlfgffldoiedlaa", sum := "78fe48aced1a2a3721ad8203b55106a004df49d8e7ea3ba3521f4b46e72c583d", func := "lagleash/lagleashlaw04.CommitReads", spec := "commitReads", apart := false }
def CommitReadsSaid : Prop := commitReadsRow.holds Try.pinned (OpenSpec.ofChange commitReadsSpec)

/-- ITS FALSE NEIGHBOUR: 'it returns false'. Refute it at one input. -/
def commitReadsWrong : ChangeSpec := { name := "commitReads", fn := fun _ => fun
  | [d] => { results := [.lit (.bool false)], args := [d] }
  | _ => none }
def CommitReadsWrongFalsely : Prop := commitReadsRow.holds Try.pinned (OpenSpec.ofChange commitReadsWrong)

/-- 'lagleashlaw04.CommitFollows': WHATEVER THE INPUT: true; the input reads as it did. -/
def commitFollowsSpec : ChangeSpec := { name := "commitFollows", fn := fun _ => fun
  | [d1, d2, d3] => { results := [.lit (.bool true)], args := [d1, d2, d3] }
  | _ => none }
def commitFollowsRow : OpenClaim := { program := "ytlfgffldoiedlaa", sum := "78fe48aced1a2a3721ad8203b55106a004df49d8e7ea3ba3521f4b46e72c583d", func := "lagleash/lagleashlaw04.CommitFollows", spec := "commitFollows", apart := false }
def CommitFollowsSaid : Prop := commitFollowsRow.holds Try.pinned (OpenSpec.ofChange commitFollowsSpec)

/-- ITS FALSE NEIGHBOUR: 'it returns false'. Refute it at one input. -/
def commitFollowsWrong : ChangeSpec := { name := "commitFollows", fn := fun _ => fun
  | [d1, d2, d3] => { results := [.lit (.bool false)], args := [d1, d2, d3] }
  | _ => none }
def CommitFollowsWrongFalsely : Prop := commitFollowsRow.holds Try.pinned (OpenSpec.ofChange commitFollowsWrong)

/-- 'lagleashlaw04.CommitBack': WHATEVER THE INPUT: true; the input reads as it did. -/
def commitBackSpec : ChangeSpec := { name := "commitBack", fn := fun _ => fun
  | [d1, d2, d3, d4, d5] => { results := [.lit (.bool true)], args := [d1, d2, d3, d4, d5] }
  | _ => none }
def commitBackRow : OpenClaim := { program := "ytlfgffldoiedlaa", sum := "78fe48aced1a2a3721ad8203b55106a004df49d8e7ea3ba3521f4b46e72c583d", func := "lagleash/lagleashlaw04.CommitBack", spec := "commitBack", apart := false }
def CommitBackSaid : Prop := commitBackRow.holds Try.pinned (OpenSpec.ofChange commitBackSpec)

/-- ITS FALSE NEIGHBOUR: 'it returns false'. Refute it at one input. -/
def commitBackWrong : ChangeSpec := { name := "commitBack", fn := fun _ => fun
  | [d1, d2, d3, d4, d5] => { results := [.lit (.bool false)], args := [d1, d2, d3, d4, d5] }
  | _ => none }
def CommitBackWrongFalsely : Prop := commitBackRow.holds Try.pinned (OpenSpec.ofChange commitBackWrong)

/-- 'lagleashlaw04.CommitFirst': WHATEVER THE INPUT: true; the input reads as it did. -/
def commitFirstSpec : ChangeSpec := { name := "commitFirst", fn := fun _ => fun
  | [d1, d2, d3, d4] => { results := [.lit (.bool true)], args := [d1, d2, d3, d4] }
  | _ => none }
def commitFirstRow : OpenClaim := { program := "ytlfgffldoiedlaa", sum := "78fe48aced1a2a3721ad8203b55106a004df49d8e7ea3ba3521f4b46e72c583d", func := "lagleash/lagleashlaw04.CommitFirst", spec := "commitFirst", apart := false }
def CommitFirstSaid : Prop := commitFirstRow.holds Try.pinned (OpenSpec.ofChange commitFirstSpec)

/-- ITS FALSE NEIGHBOUR: 'it returns false'. Refute it at one input. -/
def commitFirstWrong : ChangeSpec := { name := "commitFirst", fn := fun _ => fun
  | [d1, d2, d3, d4] => { results := [.lit (.bool false)], args := [d1, d2, d3, d4] }
  | _ => none }
def CommitFirstWrongFalsely : Prop := commitFirstRow.holds Try.pinned (OpenSpec.ofChange commitFirstWrong)

/- THE SECOND FORM. 'bulk': how many values and letters a reading holds, each counted each time it is reached (what is shared counts as often as it is met; a slice's spare places count too). A statement '..UptoSaid' is the law's where the arguments, and the package variables that the reading takes, are together of bulk at most 1048576: NARROWER than '..Said'. Prove '..Said' where nothing that the law and all that it calls make is longer than what came in: it says more and counts as full. Else prove '..UptoSaid'. A law counts once. -/
mutual
def uptoBulk {H : Type} : DataW H → Nat
  | .lit (.string bytes) => bytes.length + 1
  | .lit _ => 1
  | .nil => 1
  | .ptr d => uptoBulk d + 1
  | .slice elems spare => uptoBulkAll elems + uptoBulkAll spare + 1
  | .agg parts => uptoBulkAll parts + 1
  | .iface _ d => uptoBulk d + 1
  | .map entries => uptoBulkEntries entries + 1
  | .held _ => 1
def uptoBulkAll {H : Type} : List (DataW H) → Nat
  | [] => 0
  | d :: r => uptoBulk d + uptoBulkAll r
def uptoBulkEntries {H : Type} : List (Lit × DataW H) → Nat
  | [] => 0
  | x :: r => uptoBulkEntry x + uptoBulkEntries r
def uptoBulkEntry {H : Type} : Lit × DataW H → Nat
  | (.string bytes, d) => bytes.length + uptoBulk d + 1
  | (_, d) => uptoBulk d + 1
 end
def uptoSmall : (H : Type) → List (DataW H) → Bool := fun _ ds => decide (uptoBulkAll ds ≤ 1048576)
def OpenSpec.upto (s : _root_.Go.ChangeSpec) : _root_.Go.OpenSpec := { _root_.Go.OpenSpec.ofChange s with cond := some uptoSmall }

/-- 'lagleashlaw04.CommitNames', WHERE WHAT IT READS IS OF BULK AT MOST 1048576: true; the input reads as it did. -/
def commitNamesUptoRow : OpenClaim := { program := "ytlfgffldoiedlaa", sum := "78fe48aced1a2a3721ad8203b55106a004df49d8e7ea3ba3521f4b46e72c583d", func := "lagleash/lagleashlaw04.CommitNames", spec := "commitNames", apart := false, narrowed := true }
def CommitNamesUptoSaid : Prop := commitNamesUptoRow.holds Try.pinned (OpenSpec.upto commitNamesSpec)

/-- 'lagleashlaw04.CommitCalls', WHERE WHAT IT READS IS OF BULK AT MOST 1048576: true; the input reads as it did. -/
def commitCallsUptoRow : OpenClaim := { program := "ytlfgffldoiedlaa", sum := "78fe48aced1a2a3721ad8203b55106a004df49d8e7ea3ba3521f4b46e72c583d", func := "lagleash/lagleashlaw04.CommitCalls", spec := "commitCalls", apart := false, narrowed := true }
def CommitCallsUptoSaid : Prop := commitCallsUptoRow.holds Try.pinned (OpenSpec.upto commitCallsSpec)

/-- 'lagleashlaw04.CommitReads', WHERE WHAT IT READS IS OF BULK AT MOST 1048576: true; the input reads as it did. -/
def commitReadsUptoRow : OpenClaim := { program := "ytlfgffldoiedlaa", sum := "78fe48aced1a2a3721ad8203b55106a004df49d8e7ea3ba3521f4b46e72c583d", func := "lagleash/lagleashlaw04.CommitReads", spec := "commitReads", apart := false, narrowed := true }
def CommitReadsUptoSaid : Prop := commitReadsUptoRow.holds Try.pinned (OpenSpec.upto commitReadsSpec)

/-- 'lagleashlaw04.CommitFollows', WHERE WHAT IT READS IS OF BULK AT MOST 1048576: true; the input reads as it did. -/
def commitFollowsUptoRow : OpenClaim := { program := "ytlfgffldoiedlaa", sum := "78fe48aced1a2a3721ad8203b55106a004df49d8e7ea3ba3521f4b46e72c583d", func := "lagleash/lagleashlaw04.CommitFollows", spec := "commitFollows", apart := false, narrowed := true }
def CommitFollowsUptoSaid : Prop := commitFollowsUptoRow.holds Try.pinned (OpenSpec.upto commitFollowsSpec)

/-- 'lagleashlaw04.CommitBack', WHERE WHAT IT READS IS OF BULK AT MOST 1048576: true; the input reads as it did. -/
def commitBackUptoRow : OpenClaim := { program := "ytlfgffldoiedlaa", sum := "78fe48aced1a2a3721ad8203b55106a004df49d8e7ea3ba3521f4b46e72c583d", func := "lagleash/lagleashlaw04.CommitBack", spec := "commitBack", apart := false, narrowed := true }
def CommitBackUptoSaid : Prop := commitBackUptoRow.holds Try.pinned (OpenSpec.upto commitBackSpec)

/-- 'lagleashlaw04.CommitFirst', WHERE WHAT IT READS IS OF BULK AT MOST 1048576: true; the input reads as it did. -/
def commitFirstUptoRow : OpenClaim := { program := "ytlfgffldoiedlaa", sum := "78fe48aced1a2a3721ad8203b55106a004df49d8e7ea3ba3521f4b46e72c583d", func := "lagleash/lagleashlaw04.CommitFirst", spec := "commitFirst", apart := false, narrowed := true }
def CommitFirstUptoSaid : Prop := commitFirstUptoRow.holds Try.pinned (OpenSpec.upto commitFirstSpec)

end Rows
end Go.Proofs.Ytlfgffldoiedlaa
