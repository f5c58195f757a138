/- The steps of a region of RoleRound's. -/
import Derived.Test.YthndeolibilnnaaDoorUw
import Derived.Test.YthndeolibilnnaaDoorProg
namespace Go.Proofs.YthndeolibilnnaaDoor
open Go.RowKit
set_option linter.unusedVariables false

theorem wrp_new : Array.replicate 16 false = lst 16 0 := by kernel_rfl

theorem wrp_size : (regOf 4 Tryd.f6).size = 16 := by kernel_rfl

theorem wrp_t0_0 : Region.free .any (regOf 4 Tryd.f6) (lst 16 0) 0 = true ∧ (Region.ready .any (regOf 4 Tryd.f6) (lst 16 0)).contains 0 = true ∧ (lst 16 0).setIfInBounds 0 true = lst 16 1 := ⟨by kernel_rfl, by kernel_rfl, by kernel_rfl⟩

theorem wrp_t1_1 : Region.free .any (regOf 4 Tryd.f6) (lst 16 1) 1 = true ∧ (Region.ready .any (regOf 4 Tryd.f6) (lst 16 1)).contains 1 = true ∧ (lst 16 1).setIfInBounds 1 true = lst 16 3 := ⟨by kernel_rfl, by kernel_rfl, by kernel_rfl⟩

theorem wrp_t3_2 : Region.free .any (regOf 4 Tryd.f6) (lst 16 3) 2 = true ∧ (Region.ready .any (regOf 4 Tryd.f6) (lst 16 3)).contains 2 = true ∧ (lst 16 3).setIfInBounds 2 true = lst 16 7 := ⟨by kernel_rfl, by kernel_rfl, by kernel_rfl⟩

theorem wrp_t7_3 : Region.free .any (regOf 4 Tryd.f6) (lst 16 7) 3 = true ∧ (Region.ready .any (regOf 4 Tryd.f6) (lst 16 7)).contains 3 = true ∧ (lst 16 7).setIfInBounds 3 true = lst 16 15 := ⟨by kernel_rfl, by kernel_rfl, by kernel_rfl⟩

theorem wrp_t15_4 : Region.free .any (regOf 4 Tryd.f6) (lst 16 15) 4 = true ∧ (Region.ready .any (regOf 4 Tryd.f6) (lst 16 15)).contains 4 = true ∧ (lst 16 15).setIfInBounds 4 true = lst 16 31 := ⟨by kernel_rfl, by kernel_rfl, by kernel_rfl⟩

theorem wrp_r31 : Region.ready .any (regOf 4 Tryd.f6) (lst 16 31) = [5, 12] ∧ (lst 16 31).setIfInBounds 5 true = lst 16 63 ∧ (lst 16 31).setIfInBounds 12 true = lst 16 4127 := ⟨by kernel_rfl, by kernel_rfl, by kernel_rfl⟩

theorem wrp_t63_6 : Region.free .any (regOf 4 Tryd.f6) (lst 16 63) 6 = true ∧ (Region.ready .any (regOf 4 Tryd.f6) (lst 16 63)).contains 6 = true ∧ (lst 16 63).setIfInBounds 6 true = lst 16 127 := ⟨by kernel_rfl, by kernel_rfl, by kernel_rfl⟩

theorem wrp_r127 : Region.ready .any (regOf 4 Tryd.f6) (lst 16 127) = [7, 12] ∧ (lst 16 127).setIfInBounds 7 true = lst 16 255 ∧ (lst 16 127).setIfInBounds 12 true = lst 16 4223 := ⟨by kernel_rfl, by kernel_rfl, by kernel_rfl⟩

theorem wrp_t255_8 : Region.free .any (regOf 4 Tryd.f6) (lst 16 255) 8 = true ∧ (Region.ready .any (regOf 4 Tryd.f6) (lst 16 255)).contains 8 = true ∧ (lst 16 255).setIfInBounds 8 true = lst 16 511 := ⟨by kernel_rfl, by kernel_rfl, by kernel_rfl⟩

theorem wrp_t511_9 : Region.free .any (regOf 4 Tryd.f6) (lst 16 511) 9 = true ∧ (Region.ready .any (regOf 4 Tryd.f6) (lst 16 511)).contains 9 = true ∧ (lst 16 511).setIfInBounds 9 true = lst 16 1023 := ⟨by kernel_rfl, by kernel_rfl, by kernel_rfl⟩

theorem wrp_t1023_10 : Region.free .any (regOf 4 Tryd.f6) (lst 16 1023) 10 = true ∧ (Region.ready .any (regOf 4 Tryd.f6) (lst 16 1023)).contains 10 = true ∧ (lst 16 1023).setIfInBounds 10 true = lst 16 2047 := ⟨by kernel_rfl, by kernel_rfl, by kernel_rfl⟩

theorem wrp_t2047_11 : Region.free .any (regOf 4 Tryd.f6) (lst 16 2047) 11 = true ∧ (Region.ready .any (regOf 4 Tryd.f6) (lst 16 2047)).contains 11 = true ∧ (lst 16 2047).setIfInBounds 11 true = lst 16 4095 := ⟨by kernel_rfl, by kernel_rfl, by kernel_rfl⟩

theorem wrp_r4095 : Region.ready .any (regOf 4 Tryd.f6) (lst 16 4095) = [12] ∧ (lst 16 4095).setIfInBounds 12 true = lst 16 8191 := ⟨by kernel_rfl, by kernel_rfl⟩

theorem wrp_r8191 : Region.ready .any (regOf 4 Tryd.f6) (lst 16 8191) = [13] ∧ (lst 16 8191).setIfInBounds 13 true = lst 16 16383 := ⟨by kernel_rfl, by kernel_rfl⟩

theorem wrp_t16383_14 : Region.free .any (regOf 4 Tryd.f6) (lst 16 16383) 14 = true ∧ (Region.ready .any (regOf 4 Tryd.f6) (lst 16 16383)).contains 14 = true ∧ (lst 16 16383).setIfInBounds 14 true = lst 16 32767 := ⟨by kernel_rfl, by kernel_rfl, by kernel_rfl⟩

theorem wrp_t32767_15 : Region.free .any (regOf 4 Tryd.f6) (lst 16 32767) 15 = true ∧ (Region.ready .any (regOf 4 Tryd.f6) (lst 16 32767)).contains 15 = true ∧ (lst 16 32767).setIfInBounds 15 true = lst 16 65535 := ⟨by kernel_rfl, by kernel_rfl, by kernel_rfl⟩

theorem wrp_end : Region.ready .any (regOf 4 Tryd.f6) (lst 16 65535) = [] := by kernel_rfl

theorem wrp_r4223 : Region.ready .any (regOf 4 Tryd.f6) (lst 16 4223) = [7] ∧ (lst 16 4223).setIfInBounds 7 true = lst 16 4351 := ⟨by kernel_rfl, by kernel_rfl⟩

theorem wrp_t4351_8 : Region.free .any (regOf 4 Tryd.f6) (lst 16 4351) 8 = true ∧ (Region.ready .any (regOf 4 Tryd.f6) (lst 16 4351)).contains 8 = true ∧ (lst 16 4351).setIfInBounds 8 true = lst 16 4607 := ⟨by kernel_rfl, by kernel_rfl, by kernel_rfl⟩

theorem wrp_t4607_9 : Region.free .any (regOf 4 Tryd.f6) (lst 16 4607) 9 = true ∧ (Region.ready .any (regOf 4 Tryd.f6) (lst 16 4607)).contains 9 = true ∧ (lst 16 4607).setIfInBounds 9 true = lst 16 5119 := ⟨by kernel_rfl, by kernel_rfl, by kernel_rfl⟩

theorem wrp_t5119_10 : Region.free .any (regOf 4 Tryd.f6) (lst 16 5119) 10 = true ∧ (Region.ready .any (regOf 4 Tryd.f6) (lst 16 5119)).contains 10 = true ∧ (lst 16 5119).setIfInBounds 10 true = lst 16 6143 := ⟨by kernel_rfl, by kernel_rfl, by kernel_rfl⟩

theorem wrp_t6143_11 : Region.free .any (regOf 4 Tryd.f6) (lst 16 6143) 11 = true ∧ (Region.ready .any (regOf 4 Tryd.f6) (lst 16 6143)).contains 11 = true ∧ (lst 16 6143).setIfInBounds 11 true = lst 16 8191 := ⟨by kernel_rfl, by kernel_rfl, by kernel_rfl⟩

theorem wrp_r4127 : Region.ready .any (regOf 4 Tryd.f6) (lst 16 4127) = [5] ∧ (lst 16 4127).setIfInBounds 5 true = lst 16 4159 := ⟨by kernel_rfl, by kernel_rfl⟩

theorem wrp_t4159_6 : Region.free .any (regOf 4 Tryd.f6) (lst 16 4159) 6 = true ∧ (Region.ready .any (regOf 4 Tryd.f6) (lst 16 4159)).contains 6 = true ∧ (lst 16 4159).setIfInBounds 6 true = lst 16 4223 := ⟨by kernel_rfl, by kernel_rfl, by kernel_rfl⟩

end Go.Proofs.YthndeolibilnnaaDoor
