/-
  No cell of these rows narrows 'for every input' (looked for: loops, veiled, ifaces, maps, wideKeys, modest, calm, conditions, laid).
  DERIVED. THE GIVEN ROWS OF THIS SEAT. 4 by the template 'for every input the law returns true; each argument reads behind the call as it read before'; 0 by the template 'total and deterministic' (their statements: YtfnaeblbodfekaaTotals.lean).
  GIVEN WITH THE SEED: the statements are not yours to turn. If you find one false, say at which input.
  Laid BY PROGRAM, IN A SANDBOX (cutbox-rows.mjs): the forced cells as the released guide's own fill.sh prints them over the translation debe630ad5550676… (all of the seat's roots in one cut). By AI agents, Wed Nov 11 2026. No macro, syntax, notation, axiom, sorry.
-/
import Derived.Test.YtfnaeblbodfekaaChecked
import GoSem.Claim
import GoSem.ClaimJoined
import GoSem.ClaimMapViews
import Derived.JoinedTies
import Derived.KernelRfl
namespace Go.Proofs.Ytfnaeblbodfekaa
/- THE CELL 'sum', in the pinned program and in every row, IS THE sha256 OF THE DUMP (.gsa) THAT YtfnaeblbodfekaaProg.lean LOADS. Nothing in Lean hashes anything: it is a label: what it is worth is what the hold of that sum in a sandbox is worth. -/
noncomputable def Try.pinned : Pinned := { name := "ytfnaeblbodfekaa", sum := "debe630ad55506767f66ff948b1602b4e746aeb465ef18fdbd9b455f2790ffb7", checked := Try.checked }
namespace Rows
def none {H : Type} : Left H := { results := [], args := [] }

/-- 'lagleashlaw18.TakeNames': WHATEVER THE INPUT: true; the input reads as it did. -/
def takeNamesSpec : ChangeSpec := { name := "takeNames", fn := fun _ => fun
  | [] => { results := [.lit (.bool true)], args := [] }
  | _ => none }
def takeNamesRow : OpenClaim := { program := "ytfnaeblbodfekaa", sum := "debe630ad55506767f66ff948b1602b4e746aeb465ef18fdbd9b455f2790ffb7", func := "lagleash/lagleashlaw18.TakeNames", spec := "takeNames", unfollowed := true, recurses := true, apart := false }
def TakeNamesSaid : Prop := takeNamesRow.holds Try.pinned (OpenSpec.ofChange takeNamesSpec)

/-- ITS FALSE NEIGHBOUR: 'it returns false'. Refute it at one input. -/
def takeNamesWrong : ChangeSpec := { name := "takeNames", fn := fun _ => fun
  | [] => { results := [.lit (.bool false)], args := [] }
  | _ => none }
def TakeNamesWrongFalsely : Prop := takeNamesRow.holds Try.pinned (OpenSpec.ofChange takeNamesWrong)

/-- 'lagleashlaw18.TakeCalls': WHATEVER THE INPUT: true; the input reads as it did. -/
def takeCallsSpec : ChangeSpec := { name := "takeCalls", fn := fun _ => fun
  | [d1, d2, d3, d4] => { results := [.lit (.bool true)], args := [d1, d2, d3, d4] }
  | _ => none }
def takeCallsRow : OpenClaim := { program := "ytfnaeblbodfekaa", sum := "debe630ad55506767f66ff948b1602b4e746aeb465ef18fdbd9b455f2790ffb7", func := "lagleash/lagleashlaw18.TakeCalls", spec := "takeCalls", unfollowed := true, recurses := true, apart := false }
def TakeCallsSaid : Prop := takeCallsRow.holds Try.pinned (OpenSpec.ofChange takeCallsSpec)

/-- ITS FALSE NEIGHBOUR: 'it returns false'. Refute it at one input. -/
def takeCallsWrong : ChangeSpec := { name := "takeCalls", fn := fun _ => fun
  | [d1, d2, d3, d4] => { results := [.lit (.bool false)], args := [d1, d2, d3, d4] }
  | _ => none }
def TakeCallsWrongFalsely : Prop := takeCallsRow.holds Try.pinned (OpenSpec.ofChange takeCallsWrong)

/-- 'lagleashlaw18.TakeTwice': WHATEVER THE INPUT: true; the input reads as it did. -/
def takeTwiceSpec : ChangeSpec := { name := "takeTwice", fn := fun _ => fun
  | [d1, d2, d3] => { results := [.lit (.bool true)], args := [d1, d2, d3] }
  | _ => none }
def takeTwiceRow : OpenClaim := { program := "ytfnaeblbodfekaa", sum := "debe630ad55506767f66ff948b1602b4e746aeb465ef18fdbd9b455f2790ffb7", func := "lagleash/lagleashlaw18.TakeTwice", spec := "takeTwice", unfollowed := true, recurses := true, apart := false }
def TakeTwiceSaid : Prop := takeTwiceRow.holds Try.pinned (OpenSpec.ofChange takeTwiceSpec)

/-- ITS FALSE NEIGHBOUR: 'it returns false'. Refute it at one input. -/
def takeTwiceWrong : ChangeSpec := { name := "takeTwice", fn := fun _ => fun
  | [d1, d2, d3] => { results := [.lit (.bool false)], args := [d1, d2, d3] }
  | _ => none }
def TakeTwiceWrongFalsely : Prop := takeTwiceRow.holds Try.pinned (OpenSpec.ofChange takeTwiceWrong)

/-- 'lagleashlaw18.TakeAll': WHATEVER THE INPUT: true; the input reads as it did. -/
def takeAllSpec : ChangeSpec := { name := "takeAll", fn := fun _ => fun
  | [d1, d2, d3] => { results := [.lit (.bool true)], args := [d1, d2, d3] }
  | _ => none }
def takeAllRow : OpenClaim := { program := "ytfnaeblbodfekaa", sum := "debe630ad55506767f66ff948b1602b4e746aeb465ef18fdbd9b455f2790ffb7", func := "lagleash/lagleashlaw18.TakeAll", spec := "takeAll", unfollowed := true, recurses := true, apart := false }
def TakeAllSaid : Prop := takeAllRow.holds Try.pinned (OpenSpec.ofChange takeAllSpec)

/-- ITS FALSE NEIGHBOUR: 'it returns false'. Refute it at one input. -/
def takeAllWrong : ChangeSpec := { name := "takeAll", fn := fun _ => fun
  | [d1, d2, d3] => { results := [.lit (.bool false)], args := [d1, d2, d3] }
  | _ => none }
def TakeAllWrongFalsely : Prop := takeAllRow.holds Try.pinned (OpenSpec.ofChange takeAllWrong)

/- THE SECOND FORM. 'bulk': how many values and letters a reading holds, each counted each time it is reached (what is shared counts as often as it is met; a slice's spare places count too). A statement '..UptoSaid' is the law's where the arguments, and the package variables that the reading takes, are together of bulk at most 1048576: NARROWER than '..Said'. Prove '..Said' where nothing that the law and all that it calls make is longer than what came in: it says more and counts as full. Else prove '..UptoSaid'. A law counts once. -/
mutual
def uptoBulk {H : Type} : DataW H → Nat
  | .lit (.string bytes) => bytes.length + 1
  | .lit _ => 1
  | .nil => 1
  | .ptr d => uptoBulk d + 1
  | .slice elems spare => uptoBulkAll elems + uptoBulkAll spare + 1
  | .agg parts => uptoBulkAll parts + 1
  | .iface _ d => uptoBulk d + 1
  | .map entries => uptoBulkEntries entries + 1
  | .held _ => 1
def uptoBulkAll {H : Type} : List (DataW H) → Nat
  | [] => 0
  | d :: r => uptoBulk d + uptoBulkAll r
def uptoBulkEntries {H : Type} : List (Lit × DataW H) → Nat
  | [] => 0
  | x :: r => uptoBulkEntry x + uptoBulkEntries r
def uptoBulkEntry {H : Type} : Lit × DataW H → Nat
  | (.string bytes, d) => bytes.length + uptoBulk d + 1
  | (_, d) => uptoBulk d + 1
 end
def uptoSmall : (H : Type) → List (DataW H) → Bool := fun _ ds => decide (uptoBulkAll ds ≤ 1048576)
def OpenSpec.upto (s : _root_.Go.ChangeSpec) : _root_.Go.OpenSpec := { _root_.Go.OpenSpec.ofChange s with cond := some uptoSmall }

/-- 'lagleashlaw18.TakeNames', WHERE WHAT IT READS IS OF BULK AT MOST 1048576: true; the input reads as it did. -/
def takeNamesUptoRow : OpenClaim := { program := "ytfnaeblbodfekaa", sum := "debe630ad55506767f66ff948b1602b4e746aeb465ef18fdbd9b455f2790ffb7", func := "lagleash/lagleashlaw18.TakeNames", spec := "takeNames", unfollowed := true, recurses := true, apart := false, narrowed := true }
def TakeNamesUptoSaid : Prop := takeNamesUptoRow.holds Try.pinned (OpenSpec.upto takeNamesSpec)

/-- 'lagleashlaw18.TakeCalls', WHERE WHAT IT READS IS OF BULK AT MOST 1048576: true; the input reads as it did. -/
def takeCallsUptoRow : OpenClaim := { program := "ytfnaeblbodfekaa", sum := "debe630ad55506767f66ff948b1602b4e746aeb465ef18fdbd9b455f2790ffb7", func := "lagleash/lagleashlaw18.TakeCalls", spec := "takeCalls", unfollowed := true, recurses := true, apart := false, narrowed := true }
def TakeCallsUptoSaid : Prop := takeCallsUptoRow.holds Try.pinned (OpenSpec.upto takeCallsSpec)

/-- 'lagleashlaw18.TakeTwice', WHERE WHAT IT READS IS OF BULK AT MOST 1048576: true; the input reads as it did. -/
def takeTwiceUptoRow : OpenClaim := { program := "ytfnaeblbodfekaa", sum := "debe630ad55506767f66ff948b1602b4e746aeb465ef18fdbd9b455f2790ffb7", func := "lagleash/lagleashlaw18.TakeTwice", spec := "takeTwice", unfollowed := true, recurses := true, apart := false, narrowed := true }
def TakeTwiceUptoSaid : Prop := takeTwiceUptoRow.holds Try.pinned (OpenSpec.upto takeTwiceSpec)

/-- 'lagleashlaw18.TakeAll', WHERE WHAT IT READS IS OF BULK AT MOST 1048576: true; the input reads as it did. -/
def takeAllUptoRow : OpenClaim := { program := "ytfnaeblbodfekaa", sum := "debe630ad55506767f66ff948b1602b4e746aeb465ef18fdbd9b455f2790ffb7", func := "lagleash/lagleashlaw18.TakeAll", spec := "takeAll", unfollowed := true, recurses := true, apart := false, narrowed := true }
def TakeAllUptoSaid : Prop := takeAllUptoRow.holds Try.pinned (OpenSpec.upto takeAllSpec)

end Rows
end Go.Proofs.Ytfnaeblbodfekaa
