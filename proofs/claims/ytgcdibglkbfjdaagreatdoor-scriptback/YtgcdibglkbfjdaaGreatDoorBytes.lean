/- The contracts of the byte functions of the laws' kit. -/
import Derived.Test.YtgcdibglkbfjdaaGreatDoorProg
import Derived.Test.YtgcdibglkbfjdaaGreatDoorBits
import Derived.Deep.QuietTactic
import Derived.BigQuiet
import Derived.Deep.RegionWith
namespace Go.Proofs.YtgcdibglkbfjdaaGreatDoor
open Go.RowKit
set_option linter.unusedVariables false

theorem Tryz.info5 : (Tryz.prog.info? 5).map (fun i => (i.zero, i.size, i.bytes)) = some (some (.int .u8 0), 1, 1) := by kernel_rfl



theorem lent_step (bs : List Int) (k : Nat) (h : k < 3) : (bs ++ ([201, 202, 203] : List Int).take k) ++ [201 + (k : Int)] = bs ++ ([201, 202, 203] : List Int).take (k + 1) := by
  have : k = 0 ∨ k = 1 ∨ k = 2 := by omega
  rcases this with rfl | rfl | rfl <;> simp

end Go.Proofs.YtgcdibglkbfjdaaGreatDoor
