/- The steps of a region of RoleWays'. -/
import Derived.Test.YthndeolibilnnaaDoorUw
import Derived.Test.YthndeolibilnnaaDoorProg
namespace Go.Proofs.YthndeolibilnnaaDoor
open Go.RowKit
set_option linter.unusedVariables false

theorem wro_new : Array.replicate 12 false = lst 12 0 := by kernel_rfl

theorem wro_size : (regOf 11 Tryd.f5).size = 12 := by kernel_rfl

theorem wro_t0_0 : Region.free .any (regOf 11 Tryd.f5) (lst 12 0) 0 = true ∧ (Region.ready .any (regOf 11 Tryd.f5) (lst 12 0)).contains 0 = true ∧ (lst 12 0).setIfInBounds 0 true = lst 12 1 := ⟨by kernel_rfl, by kernel_rfl, by kernel_rfl⟩

theorem wro_t1_1 : Region.free .any (regOf 11 Tryd.f5) (lst 12 1) 1 = true ∧ (Region.ready .any (regOf 11 Tryd.f5) (lst 12 1)).contains 1 = true ∧ (lst 12 1).setIfInBounds 1 true = lst 12 3 := ⟨by kernel_rfl, by kernel_rfl, by kernel_rfl⟩

theorem wro_t3_2 : Region.free .any (regOf 11 Tryd.f5) (lst 12 3) 2 = true ∧ (Region.ready .any (regOf 11 Tryd.f5) (lst 12 3)).contains 2 = true ∧ (lst 12 3).setIfInBounds 2 true = lst 12 7 := ⟨by kernel_rfl, by kernel_rfl, by kernel_rfl⟩

theorem wro_t7_3 : Region.free .any (regOf 11 Tryd.f5) (lst 12 7) 3 = true ∧ (Region.ready .any (regOf 11 Tryd.f5) (lst 12 7)).contains 3 = true ∧ (lst 12 7).setIfInBounds 3 true = lst 12 15 := ⟨by kernel_rfl, by kernel_rfl, by kernel_rfl⟩

theorem wro_t15_4 : Region.free .any (regOf 11 Tryd.f5) (lst 12 15) 4 = true ∧ (Region.ready .any (regOf 11 Tryd.f5) (lst 12 15)).contains 4 = true ∧ (lst 12 15).setIfInBounds 4 true = lst 12 31 := ⟨by kernel_rfl, by kernel_rfl, by kernel_rfl⟩

theorem wro_r31 : Region.ready .any (regOf 11 Tryd.f5) (lst 12 31) = [5, 9] ∧ (lst 12 31).setIfInBounds 5 true = lst 12 63 ∧ (lst 12 31).setIfInBounds 9 true = lst 12 543 := ⟨by kernel_rfl, by kernel_rfl, by kernel_rfl⟩

theorem wro_t63_6 : Region.free .any (regOf 11 Tryd.f5) (lst 12 63) 6 = true ∧ (Region.ready .any (regOf 11 Tryd.f5) (lst 12 63)).contains 6 = true ∧ (lst 12 63).setIfInBounds 6 true = lst 12 127 := ⟨by kernel_rfl, by kernel_rfl, by kernel_rfl⟩

theorem wro_t127_7 : Region.free .any (regOf 11 Tryd.f5) (lst 12 127) 7 = true ∧ (Region.ready .any (regOf 11 Tryd.f5) (lst 12 127)).contains 7 = true ∧ (lst 12 127).setIfInBounds 7 true = lst 12 255 := ⟨by kernel_rfl, by kernel_rfl, by kernel_rfl⟩

theorem wro_t255_8 : Region.free .any (regOf 11 Tryd.f5) (lst 12 255) 8 = true ∧ (Region.ready .any (regOf 11 Tryd.f5) (lst 12 255)).contains 8 = true ∧ (lst 12 255).setIfInBounds 8 true = lst 12 511 := ⟨by kernel_rfl, by kernel_rfl, by kernel_rfl⟩

theorem wro_r511 : Region.ready .any (regOf 11 Tryd.f5) (lst 12 511) = [9] ∧ (lst 12 511).setIfInBounds 9 true = lst 12 1023 := ⟨by kernel_rfl, by kernel_rfl⟩

theorem wro_r1023 : Region.ready .any (regOf 11 Tryd.f5) (lst 12 1023) = [10] ∧ (lst 12 1023).setIfInBounds 10 true = lst 12 2047 := ⟨by kernel_rfl, by kernel_rfl⟩

theorem wro_t2047_11 : Region.free .any (regOf 11 Tryd.f5) (lst 12 2047) 11 = true ∧ (Region.ready .any (regOf 11 Tryd.f5) (lst 12 2047)).contains 11 = true ∧ (lst 12 2047).setIfInBounds 11 true = lst 12 4095 := ⟨by kernel_rfl, by kernel_rfl, by kernel_rfl⟩

theorem wro_end : Region.ready .any (regOf 11 Tryd.f5) (lst 12 4095) = [] := by kernel_rfl

theorem wro_r543 : Region.ready .any (regOf 11 Tryd.f5) (lst 12 543) = [5] ∧ (lst 12 543).setIfInBounds 5 true = lst 12 575 := ⟨by kernel_rfl, by kernel_rfl⟩

theorem wro_t575_6 : Region.free .any (regOf 11 Tryd.f5) (lst 12 575) 6 = true ∧ (Region.ready .any (regOf 11 Tryd.f5) (lst 12 575)).contains 6 = true ∧ (lst 12 575).setIfInBounds 6 true = lst 12 639 := ⟨by kernel_rfl, by kernel_rfl, by kernel_rfl⟩

theorem wro_t639_7 : Region.free .any (regOf 11 Tryd.f5) (lst 12 639) 7 = true ∧ (Region.ready .any (regOf 11 Tryd.f5) (lst 12 639)).contains 7 = true ∧ (lst 12 639).setIfInBounds 7 true = lst 12 767 := ⟨by kernel_rfl, by kernel_rfl, by kernel_rfl⟩

theorem wro_t767_8 : Region.free .any (regOf 11 Tryd.f5) (lst 12 767) 8 = true ∧ (Region.ready .any (regOf 11 Tryd.f5) (lst 12 767)).contains 8 = true ∧ (lst 12 767).setIfInBounds 8 true = lst 12 1023 := ⟨by kernel_rfl, by kernel_rfl, by kernel_rfl⟩

end Go.Proofs.YthndeolibilnnaaDoor
