/- Package script (layer 25): an act's text. -/
import Derived.Test.YtgcdibglkbfjdaaGreatDoorSxx
import Derived.Test.YtgcdibglkbfjdaaGreatDoorSxy
namespace Go.Proofs.YtgcdibglkbfjdaaGreatDoor
open Go.RowKit
set_option linter.unusedVariables false
set_option maxRecDepth 100000

theorem textOf_any (a : Sct.Av) (v : Value) (w : World) (hv : Vs w) (hok : Sct.Ok a) (h : IsO w v a.ops) : Calls Tryz.prog 28 #[acv a v] w (TRet w a) := by
  obtain k | k | k | k | k | k | k | k | k | k | k | k : a.k = 1 ∨ a.k = 2 ∨ a.k = 3 ∨ a.k = 4 ∨ a.k = 5 ∨ a.k = 6 ∨ a.k = 7 ∨ a.k = 8 ∨ a.k = 9 ∨ a.k = 10 ∨ a.k = 11 ∨ a.k = 12 := by have := hok.k; omega
  · exact textOf_1 a v w hv hok h k
  · exact textOf_2 a v w hv hok h k
  · exact textOf_3 a v w hv hok h k
  · exact textOf_4 a v w hv hok h k
  · exact textOf_5 a v w hv hok h k
  · exact textOf_6 a v w hv hok h k
  · exact textOf_7 a v w hv hok h k
  · exact textOf_8 a v w hv hok h k
  · exact textOf_9 a v w hv hok h k
  · exact textOf_10 a v w hv hok h k
  · exact textOf_11 a v w hv hok h k
  · exact textOf_12 a v w hv hok h k

end Go.Proofs.YtgcdibglkbfjdaaGreatDoor
