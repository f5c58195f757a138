/-
  No cell of these rows narrows 'for every input' (looked for: loops, veiled, ifaces, maps, wideKeys, modest, calm, conditions, laid).
  DERIVED. THE GIVEN ROWS OF THIS SEAT. 4 by the template 'for every input the law returns true; each argument reads behind the call as it read before'; 0 by the template 'total and deterministic' (their statements: YtabfihicdphjeaaTotals.lean).
  GIVEN WITH THE SEED: the statements are not yours to turn. If you find one false, say at which input.
  Laid BY PROGRAM, IN A SANDBOX (cutbox-rows.mjs): the forced cells as the released guide's own fill.sh prints them over the translation 8bb1ca485b4dfb1c… (all of the seat's roots in one cut). By AI agents, Wed Nov 11 2026. No macro, syntax, notation, axiom, sorry.
-/
import Derived.Test.YtabfihicdphjeaaChecked
import GoSem.Claim
import GoSem.ClaimJoined
import GoSem.ClaimMapViews
import Derived.JoinedTies
import Derived.KernelRfl
namespace Go.Proofs.Ytabfihicdphjeaa
/- THE CELL 'sum', in the pinned program and in every row, IS THE sha256 OF THE DUMP (.gsa) THAT YtabfihicdphjeaaProg.lean LOADS. Nothing in Lean hashes anything: it is a label: what it is worth is what the hold of that sum in a sandbox is worth. -/
noncomputable def Try.pinned : Pinned := { name := "ytabfihicdphjeaa", sum := "8bb1ca485b4dfb1c6cac5183b836fe3192d66471ba09570e5957c7fbdb9c5d10", checked := Try.checked }
namespace Rows
def none {H : Type} : Left H := { results := [], args := [] }

/-- 'lagleashlaw17.ShipNames': WHATEVER THE INPUT: true; the input reads as it did. -/
def shipNamesSpec : ChangeSpec := { name := "shipNames", fn := fun _ => fun
  | [] => { results := [.lit (.bool true)], args := [] }
  | _ => none }
def shipNamesRow : OpenClaim := { program := "ytabfihicdphjeaa", sum := "8bb1ca485b4dfb1c6cac5183b836fe3192d66471ba09570e5957c7fbdb9c5d10", func := "lagleash/lagleashlaw17.ShipNames", spec := "shipNames", apart := false }
def ShipNamesSaid : Prop := shipNamesRow.holds Try.pinned (OpenSpec.ofChange shipNamesSpec)

/-- ITS FALSE NEIGHBOUR: 'it returns false'. Refute it at one input. -/
def shipNamesWrong : ChangeSpec := { name := "shipNames", fn := fun _ => fun
  | [] => { results := [.lit (.bool false)], args := [] }
  | _ => none }
def ShipNamesWrongFalsely : Prop := shipNamesRow.holds Try.pinned (OpenSpec.ofChange shipNamesWrong)

/-- 'lagleashlaw17.ShipCalls': WHATEVER THE INPUT: true; the input reads as it did. -/
def shipCallsSpec : ChangeSpec := { name := "shipCalls", fn := fun _ => fun
  | [d1, d2, d3, d4] => { results := [.lit (.bool true)], args := [d1, d2, d3, d4] }
  | _ => none }
def shipCallsRow : OpenClaim := { program := "ytabfihicdphjeaa", sum := "8bb1ca485b4dfb1c6cac5183b836fe3192d66471ba09570e5957c7fbdb9c5d10", func := "lagleash/lagleashlaw17.ShipCalls", spec := "shipCalls", apart := false }
def ShipCallsSaid : Prop := shipCallsRow.holds Try.pinned (OpenSpec.ofChange shipCallsSpec)

/-- ITS FALSE NEIGHBOUR: 'it returns false'. Refute it at one input. -/
def shipCallsWrong : ChangeSpec := { name := "shipCalls", fn := fun _ => fun
  | [d1, d2, d3, d4] => { results := [.lit (.bool false)], args := [d1, d2, d3, d4] }
  | _ => none }
def ShipCallsWrongFalsely : Prop := shipCallsRow.holds Try.pinned (OpenSpec.ofChange shipCallsWrong)

/-- 'lagleashlaw17.ShipAll': WHATEVER THE INPUT: true; the input reads as it did. -/
def shipAllSpec : ChangeSpec := { name := "shipAll", fn := fun _ => fun
  | [d1, d2] => { results := [.lit (.bool true)], args := [d1, d2] }
  | _ => none }
def shipAllRow : OpenClaim := { program := "ytabfihicdphjeaa", sum := "8bb1ca485b4dfb1c6cac5183b836fe3192d66471ba09570e5957c7fbdb9c5d10", func := "lagleash/lagleashlaw17.ShipAll", spec := "shipAll", unfollowed := true, recurses := true, apart := false }
def ShipAllSaid : Prop := shipAllRow.holds Try.pinned (OpenSpec.ofChange shipAllSpec)

/-- ITS FALSE NEIGHBOUR: 'it returns false'. Refute it at one input. -/
def shipAllWrong : ChangeSpec := { name := "shipAll", fn := fun _ => fun
  | [d1, d2] => { results := [.lit (.bool false)], args := [d1, d2] }
  | _ => none }
def ShipAllWrongFalsely : Prop := shipAllRow.holds Try.pinned (OpenSpec.ofChange shipAllWrong)

/-- 'lagleashlaw17.ShipHello': WHATEVER THE INPUT: true; the input reads as it did. -/
def shipHelloSpec : ChangeSpec := { name := "shipHello", fn := fun _ => fun
  | [d1, d2, d3] => { results := [.lit (.bool true)], args := [d1, d2, d3] }
  | _ => none }
def shipHelloRow : OpenClaim := { program := "ytabfihicdphjeaa", sum := "8bb1ca485b4dfb1c6cac5183b836fe3192d66471ba09570e5957c7fbdb9c5d10", func := "lagleash/lagleashlaw17.ShipHello", spec := "shipHello", unfollowed := true, recurses := true, apart := false }
def ShipHelloSaid : Prop := shipHelloRow.holds Try.pinned (OpenSpec.ofChange shipHelloSpec)

/-- ITS FALSE NEIGHBOUR: 'it returns false'. Refute it at one input. -/
def shipHelloWrong : ChangeSpec := { name := "shipHello", fn := fun _ => fun
  | [d1, d2, d3] => { results := [.lit (.bool false)], args := [d1, d2, d3] }
  | _ => none }
def ShipHelloWrongFalsely : Prop := shipHelloRow.holds Try.pinned (OpenSpec.ofChange shipHelloWrong)

/- THE SECOND FORM. 'bulk': how many values and letters a reading holds, each counted each time it is reached (what is shared counts as often as it is met; a slice's spare places count too). A statement '..UptoSaid' is the law's where the arguments, and the package variables that the reading takes, are together of bulk at most 1048576: NARROWER than '..Said'. Prove '..Said' where nothing that the law and all that it calls make is longer than what came in: it says more and counts as full. Else prove '..UptoSaid'. A law counts once. -/
mutual
def uptoBulk {H : Type} : DataW H → Nat
  | .lit (.string bytes) => bytes.length + 1
  | .lit _ => 1
  | .nil => 1
  | .ptr d => uptoBulk d + 1
  | .slice elems spare => uptoBulkAll elems + uptoBulkAll spare + 1
  | .agg parts => uptoBulkAll parts + 1
  | .iface _ d => uptoBulk d + 1
  | .map entries => uptoBulkEntries entries + 1
  | .held _ => 1
def uptoBulkAll {H : Type} : List (DataW H) → Nat
  | [] => 0
  | d :: r => uptoBulk d + uptoBulkAll r
def uptoBulkEntries {H : Type} : List (Lit × DataW H) → Nat
  | [] => 0
  | x :: r => uptoBulkEntry x + uptoBulkEntries r
def uptoBulkEntry {H : Type} : Lit × DataW H → Nat
  | (.string bytes, d) => bytes.length + uptoBulk d + 1
  | (_, d) => uptoBulk d + 1
 end
def uptoSmall : (H : Type) → List (DataW H) → Bool := fun _ ds => decide (uptoBulkAll ds ≤ 1048576)
def OpenSpec.upto (s : _root_.Go.ChangeSpec) : _root_.Go.OpenSpec := { _root_.Go.OpenSpec.ofChange s with cond := some uptoSmall }

/-- 'lagleashlaw17.ShipNames', WHERE WHAT IT READS IS OF BULK AT MOST 1048576: true; the input reads as it did. -/
def shipNamesUptoRow : OpenClaim := { program := "ytabfihicdphjeaa", sum := "8bb1ca485b4dfb1c6cac5183b836fe3192d66471ba09570e5957c7fbdb9c5d10", func := "lagleash/lagleashlaw17.ShipNames", spec := "shipNames", apart := false, narrowed := true }
def ShipNamesUptoSaid : Prop := shipNamesUptoRow.holds Try.pinned (OpenSpec.upto shipNamesSpec)

/-- 'lagleashlaw17.ShipCalls', WHERE WHAT IT READS IS OF BULK AT MOST 1048576: true; the input reads as it did. -/
def shipCallsUptoRow : OpenClaim := { program := "ytabfihicdphjeaa", sum := "8bb1ca485b4dfb1c6cac5183b836fe3192d66471ba09570e5957c7fbdb9c5d10", func := "lagleash/lagleashlaw17.ShipCalls", spec := "shipCalls", apart := false, narrowed := true }
def ShipCallsUptoSaid : Prop := shipCallsUptoRow.holds Try.pinned (OpenSpec.upto shipCallsSpec)

/-- 'lagleashlaw17.ShipAll', WHERE WHAT IT READS IS OF BULK AT MOST 1048576: true; the input reads as it did. -/
def shipAllUptoRow : OpenClaim := { program := "ytabfihicdphjeaa", sum := "8bb1ca485b4dfb1c6cac5183b836fe3192d66471ba09570e5957c7fbdb9c5d10", func := "lagleash/lagleashlaw17.ShipAll", spec := "shipAll", unfollowed := true, recurses := true, apart := false, narrowed := true }
def ShipAllUptoSaid : Prop := shipAllUptoRow.holds Try.pinned (OpenSpec.upto shipAllSpec)

/-- 'lagleashlaw17.ShipHello', WHERE WHAT IT READS IS OF BULK AT MOST 1048576: true; the input reads as it did. -/
def shipHelloUptoRow : OpenClaim := { program := "ytabfihicdphjeaa", sum := "8bb1ca485b4dfb1c6cac5183b836fe3192d66471ba09570e5957c7fbdb9c5d10", func := "lagleash/lagleashlaw17.ShipHello", spec := "shipHello", unfollowed := true, recurses := true, apart := false, narrowed := true }
def ShipHelloUptoSaid : Prop := shipHelloUptoRow.holds Try.pinned (OpenSpec.upto shipHelloSpec)

end Rows
end Go.Proofs.Ytabfihicdphjeaa
