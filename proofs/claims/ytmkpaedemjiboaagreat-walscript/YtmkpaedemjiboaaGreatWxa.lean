/- The order of a region's operations: its steps. -/
import Derived.Test.YtmkpaedemjiboaaGreatUy
namespace Go.Proofs.YtmkpaedemjiboaaGreat
open Go.RowKit
set_option linter.unusedVariables false

theorem same_st0 : Region.free .any (regOf 1 Tryz.f10) (lst 116 0) 0 = true ∧ (Region.ready .any (regOf 1 Tryz.f10) (lst 116 0)).contains 0 = true ∧ (lst 116 0).setIfInBounds 0 true = lst 116 1 := ⟨by kernel_rfl, by kernel_rfl, by kernel_rfl⟩

theorem same_st1 : Region.free .any (regOf 1 Tryz.f10) (lst 116 1) 1 = true ∧ (Region.ready .any (regOf 1 Tryz.f10) (lst 116 1)).contains 1 = true ∧ (lst 116 1).setIfInBounds 1 true = lst 116 3 := ⟨by kernel_rfl, by kernel_rfl, by kernel_rfl⟩

theorem same_st2 : Region.free .any (regOf 1 Tryz.f10) (lst 116 3) 2 = true ∧ (Region.ready .any (regOf 1 Tryz.f10) (lst 116 3)).contains 2 = true ∧ (lst 116 3).setIfInBounds 2 true = lst 116 7 := ⟨by kernel_rfl, by kernel_rfl, by kernel_rfl⟩

theorem same_st3 : Region.free .any (regOf 1 Tryz.f10) (lst 116 7) 3 = true ∧ (Region.ready .any (regOf 1 Tryz.f10) (lst 116 7)).contains 3 = true ∧ (lst 116 7).setIfInBounds 3 true = lst 116 15 := ⟨by kernel_rfl, by kernel_rfl, by kernel_rfl⟩

theorem same_st4 : Region.free .any (regOf 1 Tryz.f10) (lst 116 15) 5 = true ∧ (Region.ready .any (regOf 1 Tryz.f10) (lst 116 15)).contains 5 = true ∧ (lst 116 15).setIfInBounds 5 true = lst 116 47 := ⟨by kernel_rfl, by kernel_rfl, by kernel_rfl⟩

theorem same_st5 : Region.free .any (regOf 1 Tryz.f10) (lst 116 47) 6 = true ∧ (Region.ready .any (regOf 1 Tryz.f10) (lst 116 47)).contains 6 = true ∧ (lst 116 47).setIfInBounds 6 true = lst 116 111 := ⟨by kernel_rfl, by kernel_rfl, by kernel_rfl⟩

theorem same_st6 : Region.free .any (regOf 1 Tryz.f10) (lst 116 111) 7 = true ∧ (Region.ready .any (regOf 1 Tryz.f10) (lst 116 111)).contains 7 = true ∧ (lst 116 111).setIfInBounds 7 true = lst 116 239 := ⟨by kernel_rfl, by kernel_rfl, by kernel_rfl⟩

theorem same_st7 : Region.free .any (regOf 1 Tryz.f10) (lst 116 239) 8 = true ∧ (Region.ready .any (regOf 1 Tryz.f10) (lst 116 239)).contains 8 = true ∧ (lst 116 239).setIfInBounds 8 true = lst 116 495 := ⟨by kernel_rfl, by kernel_rfl, by kernel_rfl⟩

theorem same_st8 : Region.ready .any (regOf 1 Tryz.f10) (lst 116 495) = [4] ∧ (lst 116 495).setIfInBounds 4 true = lst 116 511 := ⟨by kernel_rfl, by kernel_rfl⟩

theorem same_st9 : Region.ready .any (regOf 1 Tryz.f10) (lst 116 511) = [9] ∧ (lst 116 511).setIfInBounds 9 true = lst 116 1023 := ⟨by kernel_rfl, by kernel_rfl⟩

theorem same_st10 : Region.free .any (regOf 1 Tryz.f10) (lst 116 1023) 10 = true ∧ (Region.ready .any (regOf 1 Tryz.f10) (lst 116 1023)).contains 10 = true ∧ (lst 116 1023).setIfInBounds 10 true = lst 116 2047 := ⟨by kernel_rfl, by kernel_rfl, by kernel_rfl⟩

theorem same_st11 : Region.free .any (regOf 1 Tryz.f10) (lst 116 2047) 11 = true ∧ (Region.ready .any (regOf 1 Tryz.f10) (lst 116 2047)).contains 11 = true ∧ (lst 116 2047).setIfInBounds 11 true = lst 116 4095 := ⟨by kernel_rfl, by kernel_rfl, by kernel_rfl⟩

theorem same_st12 : Region.free .any (regOf 1 Tryz.f10) (lst 116 4095) 12 = true ∧ (Region.ready .any (regOf 1 Tryz.f10) (lst 116 4095)).contains 12 = true ∧ (lst 116 4095).setIfInBounds 12 true = lst 116 8191 := ⟨by kernel_rfl, by kernel_rfl, by kernel_rfl⟩

theorem same_st13 : Region.free .any (regOf 1 Tryz.f10) (lst 116 8191) 13 = true ∧ (Region.ready .any (regOf 1 Tryz.f10) (lst 116 8191)).contains 13 = true ∧ (lst 116 8191).setIfInBounds 13 true = lst 116 16383 := ⟨by kernel_rfl, by kernel_rfl, by kernel_rfl⟩

theorem same_st14 : Region.free .any (regOf 1 Tryz.f10) (lst 116 16383) 14 = true ∧ (Region.ready .any (regOf 1 Tryz.f10) (lst 116 16383)).contains 14 = true ∧ (lst 116 16383).setIfInBounds 14 true = lst 116 32767 := ⟨by kernel_rfl, by kernel_rfl, by kernel_rfl⟩

theorem same_st15 : Region.free .any (regOf 1 Tryz.f10) (lst 116 32767) 15 = true ∧ (Region.ready .any (regOf 1 Tryz.f10) (lst 116 32767)).contains 15 = true ∧ (lst 116 32767).setIfInBounds 15 true = lst 116 65535 := ⟨by kernel_rfl, by kernel_rfl, by kernel_rfl⟩

theorem same_st16 : Region.free .any (regOf 1 Tryz.f10) (lst 116 65535) 17 = true ∧ (Region.ready .any (regOf 1 Tryz.f10) (lst 116 65535)).contains 17 = true ∧ (lst 116 65535).setIfInBounds 17 true = lst 116 196607 := ⟨by kernel_rfl, by kernel_rfl, by kernel_rfl⟩

theorem same_st17 : Region.free .any (regOf 1 Tryz.f10) (lst 116 196607) 18 = true ∧ (Region.ready .any (regOf 1 Tryz.f10) (lst 116 196607)).contains 18 = true ∧ (lst 116 196607).setIfInBounds 18 true = lst 116 458751 := ⟨by kernel_rfl, by kernel_rfl, by kernel_rfl⟩

theorem same_st18 : Region.free .any (regOf 1 Tryz.f10) (lst 116 458751) 19 = true ∧ (Region.ready .any (regOf 1 Tryz.f10) (lst 116 458751)).contains 19 = true ∧ (lst 116 458751).setIfInBounds 19 true = lst 116 983039 := ⟨by kernel_rfl, by kernel_rfl, by kernel_rfl⟩

theorem same_st19 : Region.free .any (regOf 1 Tryz.f10) (lst 116 983039) 20 = true ∧ (Region.ready .any (regOf 1 Tryz.f10) (lst 116 983039)).contains 20 = true ∧ (lst 116 983039).setIfInBounds 20 true = lst 116 2031615 := ⟨by kernel_rfl, by kernel_rfl, by kernel_rfl⟩

theorem same_st20 : Region.ready .any (regOf 1 Tryz.f10) (lst 116 2031615) = [16] ∧ (lst 116 2031615).setIfInBounds 16 true = lst 116 2097151 := ⟨by kernel_rfl, by kernel_rfl⟩

theorem same_st21 : Region.ready .any (regOf 1 Tryz.f10) (lst 116 2097151) = [21] ∧ (lst 116 2097151).setIfInBounds 21 true = lst 116 4194303 := ⟨by kernel_rfl, by kernel_rfl⟩

theorem same_st22 : Region.free .any (regOf 1 Tryz.f10) (lst 116 4194303) 22 = true ∧ (Region.ready .any (regOf 1 Tryz.f10) (lst 116 4194303)).contains 22 = true ∧ (lst 116 4194303).setIfInBounds 22 true = lst 116 8388607 := ⟨by kernel_rfl, by kernel_rfl, by kernel_rfl⟩

theorem same_st23 : Region.free .any (regOf 1 Tryz.f10) (lst 116 8388607) 23 = true ∧ (Region.ready .any (regOf 1 Tryz.f10) (lst 116 8388607)).contains 23 = true ∧ (lst 116 8388607).setIfInBounds 23 true = lst 116 16777215 := ⟨by kernel_rfl, by kernel_rfl, by kernel_rfl⟩

theorem same_st24 : Region.free .any (regOf 1 Tryz.f10) (lst 116 16777215) 24 = true ∧ (Region.ready .any (regOf 1 Tryz.f10) (lst 116 16777215)).contains 24 = true ∧ (lst 116 16777215).setIfInBounds 24 true = lst 116 33554431 := ⟨by kernel_rfl, by kernel_rfl, by kernel_rfl⟩

theorem same_st25 : Region.free .any (regOf 1 Tryz.f10) (lst 116 33554431) 25 = true ∧ (Region.ready .any (regOf 1 Tryz.f10) (lst 116 33554431)).contains 25 = true ∧ (lst 116 33554431).setIfInBounds 25 true = lst 116 67108863 := ⟨by kernel_rfl, by kernel_rfl, by kernel_rfl⟩

theorem same_st26 : Region.free .any (regOf 1 Tryz.f10) (lst 116 67108863) 26 = true ∧ (Region.ready .any (regOf 1 Tryz.f10) (lst 116 67108863)).contains 26 = true ∧ (lst 116 67108863).setIfInBounds 26 true = lst 116 134217727 := ⟨by kernel_rfl, by kernel_rfl, by kernel_rfl⟩

theorem same_st27 : Region.free .any (regOf 1 Tryz.f10) (lst 116 134217727) 27 = true ∧ (Region.ready .any (regOf 1 Tryz.f10) (lst 116 134217727)).contains 27 = true ∧ (lst 116 134217727).setIfInBounds 27 true = lst 116 268435455 := ⟨by kernel_rfl, by kernel_rfl, by kernel_rfl⟩

theorem same_st28 : Region.free .any (regOf 1 Tryz.f10) (lst 116 268435455) 28 = true ∧ (Region.ready .any (regOf 1 Tryz.f10) (lst 116 268435455)).contains 28 = true ∧ (lst 116 268435455).setIfInBounds 28 true = lst 116 536870911 := ⟨by kernel_rfl, by kernel_rfl, by kernel_rfl⟩

theorem same_st29 : Region.free .any (regOf 1 Tryz.f10) (lst 116 536870911) 30 = true ∧ (Region.ready .any (regOf 1 Tryz.f10) (lst 116 536870911)).contains 30 = true ∧ (lst 116 536870911).setIfInBounds 30 true = lst 116 1610612735 := ⟨by kernel_rfl, by kernel_rfl, by kernel_rfl⟩

theorem same_st30 : Region.free .any (regOf 1 Tryz.f10) (lst 116 1610612735) 31 = true ∧ (Region.ready .any (regOf 1 Tryz.f10) (lst 116 1610612735)).contains 31 = true ∧ (lst 116 1610612735).setIfInBounds 31 true = lst 116 3758096383 := ⟨by kernel_rfl, by kernel_rfl, by kernel_rfl⟩

theorem same_st31 : Region.free .any (regOf 1 Tryz.f10) (lst 116 3758096383) 32 = true ∧ (Region.ready .any (regOf 1 Tryz.f10) (lst 116 3758096383)).contains 32 = true ∧ (lst 116 3758096383).setIfInBounds 32 true = lst 116 8053063679 := ⟨by kernel_rfl, by kernel_rfl, by kernel_rfl⟩

theorem same_st32 : Region.free .any (regOf 1 Tryz.f10) (lst 116 8053063679) 33 = true ∧ (Region.ready .any (regOf 1 Tryz.f10) (lst 116 8053063679)).contains 33 = true ∧ (lst 116 8053063679).setIfInBounds 33 true = lst 116 16642998271 := ⟨by kernel_rfl, by kernel_rfl, by kernel_rfl⟩

theorem same_st33 : Region.ready .any (regOf 1 Tryz.f10) (lst 116 16642998271) = [29] ∧ (lst 116 16642998271).setIfInBounds 29 true = lst 116 17179869183 := ⟨by kernel_rfl, by kernel_rfl⟩

theorem same_st34 : Region.ready .any (regOf 1 Tryz.f10) (lst 116 17179869183) = [34] ∧ (lst 116 17179869183).setIfInBounds 34 true = lst 116 34359738367 := ⟨by kernel_rfl, by kernel_rfl⟩

theorem same_st35 : Region.free .any (regOf 1 Tryz.f10) (lst 116 34359738367) 35 = true ∧ (Region.ready .any (regOf 1 Tryz.f10) (lst 116 34359738367)).contains 35 = true ∧ (lst 116 34359738367).setIfInBounds 35 true = lst 116 68719476735 := ⟨by kernel_rfl, by kernel_rfl, by kernel_rfl⟩

theorem same_st36 : Region.free .any (regOf 1 Tryz.f10) (lst 116 68719476735) 36 = true ∧ (Region.ready .any (regOf 1 Tryz.f10) (lst 116 68719476735)).contains 36 = true ∧ (lst 116 68719476735).setIfInBounds 36 true = lst 116 137438953471 := ⟨by kernel_rfl, by kernel_rfl, by kernel_rfl⟩

theorem same_st37 : Region.free .any (regOf 1 Tryz.f10) (lst 116 137438953471) 37 = true ∧ (Region.ready .any (regOf 1 Tryz.f10) (lst 116 137438953471)).contains 37 = true ∧ (lst 116 137438953471).setIfInBounds 37 true = lst 116 274877906943 := ⟨by kernel_rfl, by kernel_rfl, by kernel_rfl⟩

theorem same_st38 : Region.free .any (regOf 1 Tryz.f10) (lst 116 274877906943) 38 = true ∧ (Region.ready .any (regOf 1 Tryz.f10) (lst 116 274877906943)).contains 38 = true ∧ (lst 116 274877906943).setIfInBounds 38 true = lst 116 549755813887 := ⟨by kernel_rfl, by kernel_rfl, by kernel_rfl⟩

end Go.Proofs.YtmkpaedemjiboaaGreat
