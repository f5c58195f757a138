/- The order of a region's operations. -/
import Derived.Test.YtmkpaedemjiboaaGreatWxa
import Derived.Test.YtmkpaedemjiboaaGreatWxb
import Derived.Test.YtmkpaedemjiboaaGreatWxc
namespace Go.Proofs.YtmkpaedemjiboaaGreat
open Go.RowKit
set_option linter.unusedVariables false

def sameOrd : List (Bool × Nat) := [(true, 0), (true, 1), (true, 2), (true, 3), (true, 5), (true, 6), (true, 7), (true, 8), (false, 4), (false, 9), (true, 10), (true, 11), (true, 12), (true, 13), (true, 14), (true, 15), (true, 17), (true, 18), (true, 19), (true, 20), (false, 16), (false, 21), (true, 22), (true, 23), (true, 24), (true, 25), (true, 26), (true, 27), (true, 28), (true, 30), (true, 31), (true, 32), (true, 33), (false, 29), (false, 34), (true, 35), (true, 36), (true, 37), (true, 38), (true, 39), (true, 40), (true, 41), (true, 43), (true, 44), (true, 45), (true, 46), (false, 42), (false, 47), (false, 48), (true, 49), (true, 50), (true, 51), (true, 52), (true, 53), (true, 54), (true, 56), (true, 57), (true, 58), (true, 59), (false, 55), (false, 60), (false, 61), (true, 62), (true, 63), (true, 64), (true, 65), (true, 66), (true, 67), (true, 69), (true, 70), (true, 71), (true, 72), (false, 68), (false, 73), (false, 74), (true, 75), (true, 76), (true, 77), (true, 78), (true, 79), (true, 80), (true, 82), (true, 83), (true, 84), (true, 85), (false, 81), (false, 86), (true, 87), (true, 88), (true, 89), (true, 90), (true, 91), (true, 92), (true, 93), (true, 95), (true, 96), (true, 97), (true, 98), (false, 94), (false, 99), (true, 100), (true, 101), (true, 102), (true, 103), (true, 104), (true, 105), (true, 106), (true, 108), (true, 109), (true, 110), (true, 111), (false, 107), (false, 112), (true, 113), (true, 114), (true, 115)]

theorem same_end : Region.ready .any (regOf 1 Tryz.f10) (lst 116 83076749736557242056487941267521535) = [] := by kernel_rfl

theorem same_way : Way .any (regOf 1 Tryz.f10) (Array.replicate (regOf 1 Tryz.f10).size false) sameOrd := by
  have e : Array.replicate (regOf 1 Tryz.f10).size false = lst 116 0 := by kernel_rfl
  rw [e]
  unfold sameOrd
  refine .take same_st0 ?_
  refine .take same_st1 ?_
  refine .take same_st2 ?_
  refine .take same_st3 ?_
  refine .take same_st4 ?_
  refine .take same_st5 ?_
  refine .take same_st6 ?_
  refine .take same_st7 ?_
  refine .meet same_st8 ?_
  refine .meet same_st9 ?_
  refine .take same_st10 ?_
  refine .take same_st11 ?_
  refine .take same_st12 ?_
  refine .take same_st13 ?_
  refine .take same_st14 ?_
  refine .take same_st15 ?_
  refine .take same_st16 ?_
  refine .take same_st17 ?_
  refine .take same_st18 ?_
  refine .take same_st19 ?_
  refine .meet same_st20 ?_
  refine .meet same_st21 ?_
  refine .take same_st22 ?_
  refine .take same_st23 ?_
  refine .take same_st24 ?_
  refine .take same_st25 ?_
  refine .take same_st26 ?_
  refine .take same_st27 ?_
  refine .take same_st28 ?_
  refine .take same_st29 ?_
  refine .take same_st30 ?_
  refine .take same_st31 ?_
  refine .take same_st32 ?_
  refine .meet same_st33 ?_
  refine .meet same_st34 ?_
  refine .take same_st35 ?_
  refine .take same_st36 ?_
  refine .take same_st37 ?_
  refine .take same_st38 ?_
  refine .take same_st39 ?_
  refine .take same_st40 ?_
  refine .take same_st41 ?_
  refine .take same_st42 ?_
  refine .take same_st43 ?_
  refine .take same_st44 ?_
  refine .take same_st45 ?_
  refine .meet same_st46 ?_
  refine .meet same_st47 ?_
  refine .meet same_st48 ?_
  refine .take same_st49 ?_
  refine .take same_st50 ?_
  refine .take same_st51 ?_
  refine .take same_st52 ?_
  refine .take same_st53 ?_
  refine .take same_st54 ?_
  refine .take same_st55 ?_
  refine .take same_st56 ?_
  refine .take same_st57 ?_
  refine .take same_st58 ?_
  refine .meet same_st59 ?_
  refine .meet same_st60 ?_
  refine .meet same_st61 ?_
  refine .take same_st62 ?_
  refine .take same_st63 ?_
  refine .take same_st64 ?_
  refine .take same_st65 ?_
  refine .take same_st66 ?_
  refine .take same_st67 ?_
  refine .take same_st68 ?_
  refine .take same_st69 ?_
  refine .take same_st70 ?_
  refine .take same_st71 ?_
  refine .meet same_st72 ?_
  refine .meet same_st73 ?_
  refine .meet same_st74 ?_
  refine .take same_st75 ?_
  refine .take same_st76 ?_
  refine .take same_st77 ?_
  refine .take same_st78 ?_
  refine .take same_st79 ?_
  refine .take same_st80 ?_
  refine .take same_st81 ?_
  refine .take same_st82 ?_
  refine .take same_st83 ?_
  refine .take same_st84 ?_
  refine .meet same_st85 ?_
  refine .meet same_st86 ?_
  refine .take same_st87 ?_
  refine .take same_st88 ?_
  refine .take same_st89 ?_
  refine .take same_st90 ?_
  refine .take same_st91 ?_
  refine .take same_st92 ?_
  refine .take same_st93 ?_
  refine .take same_st94 ?_
  refine .take same_st95 ?_
  refine .take same_st96 ?_
  refine .take same_st97 ?_
  refine .meet same_st98 ?_
  refine .meet same_st99 ?_
  refine .take same_st100 ?_
  refine .take same_st101 ?_
  refine .take same_st102 ?_
  refine .take same_st103 ?_
  refine .take same_st104 ?_
  refine .take same_st105 ?_
  refine .take same_st106 ?_
  refine .take same_st107 ?_
  refine .take same_st108 ?_
  refine .take same_st109 ?_
  refine .take same_st110 ?_
  refine .meet same_st111 ?_
  refine .meet same_st112 ?_
  refine .take same_st113 ?_
  refine .take same_st114 ?_
  refine .take same_st115 ?_
  exact .done same_end

end Go.Proofs.YtmkpaedemjiboaaGreat
