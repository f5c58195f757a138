/-
  No cell of these rows narrows 'for every input' (looked for: loops, veiled, ifaces, maps, wideKeys, modest, calm, conditions, laid).
  DERIVED. THE GIVEN ROWS OF THIS SEAT. 6 by the template 'for every input the law returns true; each argument reads behind the call as it read before'; 0 by the template 'total and deterministic' (their statements: YtfgbdcncbhilfaaTotals.lean).
  GIVEN WITH THE SEED: the statements are not yours to turn. If you find one false, say at which input.
  Laid BY PROGRAM, IN A SANDBOX (cutbox-rows.mjs): the forced cells as the released guide's own fill.sh prints them over the translation 91c92ae7adefe47c… (all of the seat's roots in one cut). By AI agents, Wed Nov 11 2026. No macro, syntax, notation, axiom, sorry.
-/
import Derived.Test.YtfgbdcncbhilfaaChecked
import GoSem.Claim
import GoSem.ClaimJoined
import GoSem.ClaimMapViews
import Derived.JoinedTies
import Derived.KernelRfl
namespace Go.Proofs.Ytfgbdcncbhilfaa
/- THE CELL 'sum', in the pinned program and in every row, IS THE sha256 OF THE DUMP (.gsa) THAT YtfgbdcncbhilfaaProg.lean LOADS. Nothing in Lean hashes anything: it is a label: what it is worth is what the hold of that sum in a sandbox is worth. -/
noncomputable def Try.pinned : Pinned := { name := "ytfgbdcncbhilfaa", sum := "91c92ae7adefe47c6266dc414482aae723b077eb2fcaeca0cc5b307afbd9a136", checked := Try.checked }
namespace Rows
def none {H : Type} : Left H := { results := [], args := [] }

/-- 'lagleashlaw03.BatchNames': WHATEVER THE INPUT: true; the input reads as it did. -/
def batchNamesSpec : ChangeSpec := { name := "batchNames", fn := fun _ => fun
  | [] => { results := [.lit (.bool true)], args := [] }
  | _ => none }
def batchNamesRow : OpenClaim := { program := "ytfgbdcncbhilfaa", sum := "91c92ae7adefe47c6266dc414482aae723b077eb2fcaeca0cc5b307afbd9a136", func := "lagleash/lagleashlaw03.BatchNames", spec := "batchNames", apart := false }
def BatchNamesSaid : Prop := batchNamesRow.holds Try.pinned (OpenSpec.ofChange batchNamesSpec)

/-- ITS FALSE NEIGHBOUR: 'it returns false'. Refute it at one input. -/
def batchNamesWrong : ChangeSpec := { name := "batchNames", fn := fun _ => fun
  | [] => { results := [.lit (.bool false)], args := [] }
  | _ => none }
def BatchNamesWrongFalsely : Prop := batchNamesRow.holds Try.pinned (OpenSpec.ofChange batchNamesWrong)

/-- 'lagleashlaw03.BatchCalls': WHATEVER THE INPUT: true; the input reads as it did. -/
def batchCallsSpec : ChangeSpec := { name := "batchCalls", fn := fun _ => fun
  | [d1, d2] => { results := [.lit (.bool true)], args := [d1, d2] }
  | _ => none }
def batchCallsRow : OpenClaim := { program := "ytfgbdcncbhilfaa", sum := "91c92ae7adefe47c6266dc414482aae723b077eb2fcaeca0cc5b307afbd9a136", func := "lagleash/lagleashlaw03.BatchCalls", spec := "batchCalls", apart := false }
def BatchCallsSaid : Prop := batchCallsRow.holds Try.pinned (OpenSpec.ofChange batchCallsSpec)

/-- ITS FALSE NEIGHBOUR: 'it returns false'. Refute it at one input. -/
def batchCallsWrong : ChangeSpec := { name := "batchCalls", fn := fun _ => fun
  | [d1, d2] => { results := [.lit (.bool false)], args := [d1, d2] }
  | _ => none }
def BatchCallsWrongFalsely : Prop := batchCallsRow.holds Try.pinned (OpenSpec.ofChange batchCallsWrong)

/-- 'lagleashlaw03.BatchReads': WHATEVER THE INPUT: true; the input reads as it did. -/
def batchReadsSpec : ChangeSpec := { name := "batchReads", fn := fun _ => fun
  | [d] => { results := [.lit (.bool true)], args := [d] }
  | _ => none }
def batchReadsRow : OpenClaim := { program := "ytfgbdcncbhilfaa", sum := "91c92ae7adefe47c6266dc414482aae723b077eb2fcaeca0cc5b307afbd9a136", func := "lagleash/lagleashlaw03.BatchReads", spec := "batchReads", apart := false }
def BatchReadsSaid : Prop := batchReadsRow.holds Try.pinned (OpenSpec.ofChange batchReadsSpec)

/-- ITS FALSE NEIGHBOUR: 'it returns false'. Refute it at one input. -/
def batchReadsWrong : ChangeSpec := { name := "batchReads", fn := fun _ => fun
  | [d] => { results := [.lit (.bool false)], args := [d] }
  | _ => none }
def BatchReadsWrongFalsely : Prop := batchReadsRow.holds Try.pinned (OpenSpec.ofChange batchReadsWrong)

/-- 'lagleashlaw03.BatchShared': WHATEVER THE INPUT: true; the input reads as it did. -/
def batchSharedSpec : ChangeSpec := { name := "batchShared", fn := fun _ => fun
  | [d1, d2, d3, d4] => { results := [.lit (.bool true)], args := [d1, d2, d3, d4] }
  | _ => none }
def batchSharedRow : OpenClaim := { program := "ytfgbdcncbhilfaa", sum := "91c92ae7adefe47c6266dc414482aae723b077eb2fcaeca0cc5b307afbd9a136", func := "lagleash/lagleashlaw03.BatchShared", spec := "batchShared", apart := false }
def BatchSharedSaid : Prop := batchSharedRow.holds Try.pinned (OpenSpec.ofChange batchSharedSpec)

/-- ITS FALSE NEIGHBOUR: 'it returns false'. Refute it at one input. -/
def batchSharedWrong : ChangeSpec := { name := "batchShared", fn := fun _ => fun
  | [d1, d2, d3, d4] => { results := [.lit (.bool false)], args := [d1, d2, d3, d4] }
  | _ => none }
def BatchSharedWrongFalsely : Prop := batchSharedRow.holds Try.pinned (OpenSpec.ofChange batchSharedWrong)

/-- 'lagleashlaw03.BatchBack': WHATEVER THE INPUT: true; the input reads as it did. -/
def batchBackSpec : ChangeSpec := { name := "batchBack", fn := fun _ => fun
  | [d1, d2] => { results := [.lit (.bool true)], args := [d1, d2] }
  | _ => none }
def batchBackRow : OpenClaim := { program := "ytfgbdcncbhilfaa", sum := "91c92ae7adefe47c6266dc414482aae723b077eb2fcaeca0cc5b307afbd9a136", func := "lagleash/lagleashlaw03.BatchBack", spec := "batchBack", apart := false }
def BatchBackSaid : Prop := batchBackRow.holds Try.pinned (OpenSpec.ofChange batchBackSpec)

/-- ITS FALSE NEIGHBOUR: 'it returns false'. Refute it at one input. -/
def batchBackWrong : ChangeSpec := { name := "batchBack", fn := fun _ => fun
  | [d1, d2] => { results := [.lit (.bool false)], args := [d1, d2] }
  | _ => none }
def BatchBackWrongFalsely : Prop := batchBackRow.holds Try.pinned (OpenSpec.ofChange batchBackWrong)

/-- 'lagleashlaw03.BatchRow': WHATEVER THE INPUT: true; the input reads as it did. -/
def batchRowSpec : ChangeSpec := { name := "batchRow", fn := fun _ => fun
  | [d1, d2, d3] => { results := [.lit (.bool true)], args := [d1, d2, d3] }
  | _ => none }
def batchRowRow : OpenClaim := { program := "ytfgbdcncbhilfaa", sum := "91c92ae7adefe47c6266dc414482aae723b077eb2fcaeca0cc5b307afbd9a136", func := "lagleash/lagleashlaw03.BatchRow", spec := "batchRow", apart := false }
def BatchRowSaid : Prop := batchRowRow.holds Try.pinned (OpenSpec.ofChange batchRowSpec)

/-- ITS FALSE NEIGHBOUR: 'it returns false'. Refute it at one input. -/
def batchRowWrong : ChangeSpec := { name := "batchRow", fn := fun _ => fun
  | [d1, d2, d3] => { results := [.lit (.bool false)], args := [d1, d2, d3] }
  | _ => none }
def BatchRowWrongFalsely : Prop := batchRowRow.holds Try.pinned (OpenSpec.ofChange batchRowWrong)

/- THE SECOND FORM. 'bulk': how many values and letters a reading holds, each counted each time it is reached (what is shared counts as often as it is met; a slice's spare places count too). A statement '..UptoSaid' is the law's where the arguments, and the package variables that the reading takes, are together of bulk at most 1048576: NARROWER than '..Said'. Prove '..Said' where nothing that the law and all that it calls make is longer than what came in: it says more and counts as full. Else prove '..UptoSaid'. A law counts once. -/
mutual
def uptoBulk {H : Type} : DataW H → Nat
  | .lit (.string bytes) => bytes.length + 1
  | .lit _ => 1
  | .nil => 1
  | .ptr d => uptoBulk d + 1
  | .slice elems spare => uptoBulkAll elems + uptoBulkAll spare + 1
  | .agg parts => uptoBulkAll parts + 1
  | .iface _ d => uptoBulk d + 1
  | .map entries => uptoBulkEntries entries + 1
  | .held _ => 1
def uptoBulkAll {H : Type} : List (DataW H) → Nat
  | [] => 0
  | d :: r => uptoBulk d + uptoBulkAll r
def uptoBulkEntries {H : Type} : List (Lit × DataW H) → Nat
  | [] => 0
  | x :: r => uptoBulkEntry x + uptoBulkEntries r
def uptoBulkEntry {H : Type} : Lit × DataW H → Nat
  | (.string bytes, d) => bytes.length + uptoBulk d + 1
  | (_, d) => uptoBulk d + 1
 end
def uptoSmall : (H : Type) → List (DataW H) → Bool := fun _ ds => decide (uptoBulkAll ds ≤ 1048576)
def OpenSpec.upto (s : _root_.Go.ChangeSpec) : _root_.Go.OpenSpec := { _root_.Go.OpenSpec.ofChange s with cond := some uptoSmall }

/-- 'lagleashlaw03.BatchNames', WHERE WHAT IT READS IS OF BULK AT MOST 1048576: true; the input reads as it did. -/
def batchNamesUptoRow : OpenClaim := { program := "ytfgbdcncbhilfaa", sum := "91c92ae7adefe47c6266dc414482aae723b077eb2fcaeca0cc5b307afbd9a136", func := "lagleash/lagleashlaw03.BatchNames", spec := "batchNames", apart := false, narrowed := true }
def BatchNamesUptoSaid : Prop := batchNamesUptoRow.holds Try.pinned (OpenSpec.upto batchNamesSpec)

/-- 'lagleashlaw03.BatchCalls', WHERE WHAT IT READS IS OF BULK AT MOST 1048576: true; the input reads as it did. -/
def batchCallsUptoRow : OpenClaim := { program := "ytfgbdcncbhilfaa", sum := "91c92ae7adefe47c6266dc414482aae723b077eb2fcaeca0cc5b307afbd9a136", func := "lagleash/lagleashlaw03.BatchCalls", spec := "batchCalls", apart := false, narrowed := true }
def BatchCallsUptoSaid : Prop := batchCallsUptoRow.holds Try.pinned (OpenSpec.upto batchCallsSpec)

/-- 'lagleashlaw03.BatchReads', WHERE WHAT IT READS IS OF BULK AT MOST 1048576: true; the input reads as it did. -/
def batchReadsUptoRow : OpenClaim := { program := "ytfgbdcncbhilfaa", sum := "91c92ae7adefe47c6266dc414482aae723b077eb2fcaeca0cc5b307afbd9a136", func := "lagleash/lagleashlaw03.BatchReads", spec := "batchReads", apart := false, narrowed := true }
def BatchReadsUptoSaid : Prop := batchReadsUptoRow.holds Try.pinned (OpenSpec.upto batchReadsSpec)

/-- 'lagleashlaw03.BatchShared', WHERE WHAT IT READS IS OF BULK AT MOST 1048576: true; the input reads as it did. -/
def batchSharedUptoRow : OpenClaim := { program := "ytfgbdcncbhilfaa", sum := "91c92ae7adefe47c6266dc414482aae723b077eb2fcaeca0cc5b307afbd9a136", func := "lagleash/lagleashlaw03.BatchShared", spec := "batchShared", apart := false, narrowed := true }
def BatchSharedUptoSaid : Prop := batchSharedUptoRow.holds Try.pinned (OpenSpec.upto batchSharedSpec)

/-- 'lagleashlaw03.BatchBack', WHERE WHAT IT READS IS OF BULK AT MOST 1048576: true; the input reads as it did. -/
def batchBackUptoRow : OpenClaim := { program := "ytfgbdcncbhilfaa", sum := "91c92ae7adefe47c6266dc414482aae723b077eb2fcaeca0cc5b307afbd9a136", func := "lagleash/lagleashlaw03.BatchBack", spec := "batchBack", apart := false, narrowed := true }
def BatchBackUptoSaid : Prop := batchBackUptoRow.holds Try.pinned (OpenSpec.upto batchBackSpec)

/-- 'lagleashlaw03.BatchRow', WHERE WHAT IT READS IS OF BULK AT MOST 1048576: true; the input reads as it did. -/
def batchRowUptoRow : OpenClaim := { program := "ytfgbdcncbhilfaa", sum := "91c92ae7adefe47c6266dc414482aae723b077eb2fcaeca0cc5b307afbd9a136", func := "lagleash/lagleashlaw03.BatchRow", spec := "batchRow", apart := false, narrowed := true }
def BatchRowUptoSaid : Prop := batchRowUptoRow.holds Try.pinned (OpenSpec.upto batchRowSpec)

end Rows
end Go.Proofs.Ytfgbdcncbhilfaa
