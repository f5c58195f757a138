/-
  No cell of these rows narrows 'for every input' (looked for: loops, veiled, ifaces, maps, wideKeys, modest, calm, conditions, laid).
  DERIVED. THE GIVEN ROWS OF THIS SEAT. 4 by the template 'for every input the law returns true; each argument reads behind the call as it read before'; 0 by the template 'total and deterministic' (their statements: YtedljaokkpmhcaaTotals.lean).
  GIVEN WITH THE SEED: the statements are not yours to turn. If you find one false, say at which input.
  Laid BY PROGRAM, IN A SANDBOX (cutbox-rows.mjs): the forced cells as the released guide's own fill.sh prints them over the translation 129dd0cd89a3146e… (all of the seat's roots in one cut). By AI agents, Wed Nov 11 2026. No macro, syntax, notation, axiom, sorry.
-/
import Derived.Test.YtedljaokkpmhcaaChecked
import GoSem.Claim
import GoSem.ClaimJoined
import GoSem.ClaimMapViews
import Derived.JoinedTies
import Derived.KernelRfl
namespace Go.Proofs.Ytedljaokkpmhcaa
/- THE CELL 'sum', in the pinned program and in every row, IS THE sha256 OF THE DUMP (.gsa) THAT YtedljaokkpmhcaaProg.lean LOADS. Nothing in Lean hashes anything: it is a label: what it is worth is what the hold of that sum in a sandbox is worth. -/
noncomputable def Try.pinned : Pinned := { name := "ytedljaokkpmhcaa", sum := "129dd0cd89a3146e21659c77106e390c59dc9ed024c172ef5f7f21bead03678f", checked := Try.checked }
namespace Rows
def none {H : Type} : Left H := { results := [], args := [] }

/-- 'lagleashlaw15.LeashNames': WHATEVER THE INPUT: true; the input reads as it did. -/
def leashNamesSpec : ChangeSpec := { name := "leashNames", fn := fun _ => fun
  | [] => { results := [.lit (.bool true)], args := [] }
  | _ => none }
def leashNamesRow : OpenClaim := { program := "ytedljaokkpmhcaa", sum := "129dd0cd89a3146e21659c77106e390c59dc9ed024c172ef5f7f21bead03678f", func := "lagleash/lagleashlaw15.LeashNames", spec := "leashNames", apart := false }
def LeashNamesSaid : Prop := leashNamesRow.holds Try.pinned (OpenSpec.ofChange leashNamesSpec)

/-- ITS FALSE NEIGHBOUR: 'it returns false'. Refute it at one input. -/
def leashNamesWrong : ChangeSpec := { name := "leashNames", fn := fun _ => fun
  | [] => { results := [.lit (.bool false)], args := [] }
  | _ => none }
def LeashNamesWrongFalsely : Prop := leashNamesRow.holds Try.pinned (OpenSpec.ofChange leashNamesWrong)

/-- 'lagleashlaw15.LeashCalls': WHATEVER THE INPUT: true; the input reads as it did. -/
def leashCallsSpec : ChangeSpec := { name := "leashCalls", fn := fun _ => fun
  | [d1, d2, d3, d4] => { results := [.lit (.bool true)], args := [d1, d2, d3, d4] }
  | _ => none }
def leashCallsRow : OpenClaim := { program := "ytedljaokkpmhcaa", sum := "129dd0cd89a3146e21659c77106e390c59dc9ed024c172ef5f7f21bead03678f", func := "lagleash/lagleashlaw15.LeashCalls", spec := "leashCalls", apart := false }
def LeashCallsSaid : Prop := leashCallsRow.holds Try.pinned (OpenSpec.ofChange leashCallsSpec)

/-- ITS FALSE NEIGHBOUR: 'it returns false'. Refute it at one input. -/
def leashCallsWrong : ChangeSpec := { name := "leashCalls", fn := fun _ => fun
  | [d1, d2, d3, d4] => { results := [.lit (.bool false)], args := [d1, d2, d3, d4] }
  | _ => none }
def LeashCallsWrongFalsely : Prop := leashCallsRow.holds Try.pinned (OpenSpec.ofChange leashCallsWrong)

/-- 'lagleashlaw15.LeashHolds': WHATEVER THE INPUT: true; the input reads as it did. -/
def leashHoldsSpec : ChangeSpec := { name := "leashHolds", fn := fun _ => fun
  | [d1, d2] => { results := [.lit (.bool true)], args := [d1, d2] }
  | _ => none }
def leashHoldsRow : OpenClaim := { program := "ytedljaokkpmhcaa", sum := "129dd0cd89a3146e21659c77106e390c59dc9ed024c172ef5f7f21bead03678f", func := "lagleash/lagleashlaw15.LeashHolds", spec := "leashHolds", apart := false }
def LeashHoldsSaid : Prop := leashHoldsRow.holds Try.pinned (OpenSpec.ofChange leashHoldsSpec)

/-- ITS FALSE NEIGHBOUR: 'it returns false'. Refute it at one input. -/
def leashHoldsWrong : ChangeSpec := { name := "leashHolds", fn := fun _ => fun
  | [d1, d2] => { results := [.lit (.bool false)], args := [d1, d2] }
  | _ => none }
def LeashHoldsWrongFalsely : Prop := leashHoldsRow.holds Try.pinned (OpenSpec.ofChange leashHoldsWrong)

/-- 'lagleashlaw15.LeashOrder': WHATEVER THE INPUT: true; the input reads as it did. -/
def leashOrderSpec : ChangeSpec := { name := "leashOrder", fn := fun _ => fun
  | [d1, d2, d3, d4, d5] => { results := [.lit (.bool true)], args := [d1, d2, d3, d4, d5] }
  | _ => none }
def leashOrderRow : OpenClaim := { program := "ytedljaokkpmhcaa", sum := "129dd0cd89a3146e21659c77106e390c59dc9ed024c172ef5f7f21bead03678f", func := "lagleash/lagleashlaw15.LeashOrder", spec := "leashOrder", apart := false }
def LeashOrderSaid : Prop := leashOrderRow.holds Try.pinned (OpenSpec.ofChange leashOrderSpec)

/-- ITS FALSE NEIGHBOUR: 'it returns false'. Refute it at one input. -/
def leashOrderWrong : ChangeSpec := { name := "leashOrder", fn := fun _ => fun
  | [d1, d2, d3, d4, d5] => { results := [.lit (.bool false)], args := [d1, d2, d3, d4, d5] }
  | _ => none }
def LeashOrderWrongFalsely : Prop := leashOrderRow.holds Try.pinned (OpenSpec.ofChange leashOrderWrong)

/- THE SECOND FORM. 'bulk': how many values and letters a reading holds, each counted each time it is reached (what is shared counts as often as it is met; a slice's spare places count too). A statement '..UptoSaid' is the law's where the arguments, and the package variables that the reading takes, are together of bulk at most 1048576: NARROWER than '..Said'. Prove '..Said' where nothing that the law and all that it calls make is longer than what came in: it says more and counts as full. Else prove '..UptoSaid'. A law counts once. -/
mutual
def uptoBulk {H : Type} : DataW H → Nat
  | .lit (.string bytes) => bytes.length + 1
  | .lit _ => 1
  | .nil => 1
  | .ptr d => uptoBulk d + 1
  | .slice elems spare => uptoBulkAll elems + uptoBulkAll spare + 1
  | .agg parts => uptoBulkAll parts + 1
  | .iface _ d => uptoBulk d + 1
  | .map entries => uptoBulkEntries entries + 1
  | .held _ => 1
def uptoBulkAll {H : Type} : List (DataW H) → Nat
  | [] => 0
  | d :: r => uptoBulk d + uptoBulkAll r
def uptoBulkEntries {H : Type} : List (Lit × DataW H) → Nat
  | [] => 0
  | x :: r => uptoBulkEntry x + uptoBulkEntries r
def uptoBulkEntry {H : Type} : Lit × DataW H → Nat
  | (.string bytes, d) => bytes.length + uptoBulk d + 1
  | (_, d) => uptoBulk d + 1
 end
def uptoSmall : (H : Type) → List (DataW H) → Bool := fun _ ds => decide (uptoBulkAll ds ≤ 1048576)
def OpenSpec.upto (s : _root_.Go.ChangeSpec) : _root_.Go.OpenSpec := { _root_.Go.OpenSpec.ofChange s with cond := some uptoSmall }

/-- 'lagleashlaw15.LeashNames', WHERE WHAT IT READS IS OF BULK AT MOST 1048576: true; the input reads as it did. -/
def leashNamesUptoRow : OpenClaim := { program := "ytedljaokkpmhcaa", sum := "129dd0cd89a3146e21659c77106e390c59dc9ed024c172ef5f7f21bead03678f", func := "lagleash/lagleashlaw15.LeashNames", spec := "leashNames", apart := false, narrowed := true }
def LeashNamesUptoSaid : Prop := leashNamesUptoRow.holds Try.pinned (OpenSpec.upto leashNamesSpec)

/-- 'lagleashlaw15.LeashCalls', WHERE WHAT IT READS IS OF BULK AT MOST 1048576: true; the input reads as it did. -/
def leashCallsUptoRow : OpenClaim := { program := "ytedljaokkpmhcaa", sum := "129dd0cd89a3146e21659c77106e390c59dc9ed024c172ef5f7f21bead03678f", func := "lagleash/lagleashlaw15.LeashCalls", spec := "leashCalls", apart := false, narrowed := true }
def LeashCallsUptoSaid : Prop := leashCallsUptoRow.holds Try.pinned (OpenSpec.upto leashCallsSpec)

/-- 'lagleashlaw15.LeashHolds', WHERE WHAT IT READS IS OF BULK AT MOST 1048576: true; the input reads as it did. -/
def leashHoldsUptoRow : OpenClaim := { program := "ytedljaokkpmhcaa", sum := "129dd0cd89a3146e21659c77106e390c59dc9ed024c172ef5f7f21bead03678f", func := "lagleash/lagleashlaw15.LeashHolds", spec := "leashHolds", apart := false, narrowed := true }
def LeashHoldsUptoSaid : Prop := leashHoldsUptoRow.holds Try.pinned (OpenSpec.upto leashHoldsSpec)

/-- 'lagleashlaw15.LeashOrder', WHERE WHAT IT READS IS OF BULK AT MOST 1048576: true; the input reads as it did. -/
def leashOrderUptoRow : OpenClaim := { program := "ytedljaokkpmhcaa", sum := "129dd0cd89a3146e21659c77106e390c59dc9ed024c172ef5f7f21bead03678f", func := "lagleash/lagleashlaw15.LeashOrder", spec := "leashOrder", apart := false, narrowed := true }
def LeashOrderUptoSaid : Prop := leashOrderUptoRow.holds Try.pinned (OpenSpec.upto leashOrderSpec)

end Rows
end Go.Proofs.Ytedljaokkpmhcaa
