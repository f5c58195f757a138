/- Texts of one layer, one behind the other. -/
import Derived.Test.YtajlhdmnincehaaGreatDoorH13
import Derived.Test.YtajlhdmnincehaaGreatDoorProg
/- The steps of a region of openStore's. -/
namespace Go.Proofs.YtajlhdmnincehaaGreatDoor
open Go.RowKit
set_option linter.unusedVariables false

theorem wqc_new : Array.replicate 33 false = lst 33 0 := by kernel_rfl

theorem wqc_size : (regOf 1 Tryz.f78).size = 33 := by kernel_rfl

theorem wqc_t0_0 : Region.free .any (regOf 1 Tryz.f78) (lst 33 0) 0 = true ∧ (Region.ready .any (regOf 1 Tryz.f78) (lst 33 0)).contains 0 = true ∧ (lst 33 0).setIfInBounds 0 true = lst 33 1 := ⟨by kernel_rfl, by kernel_rfl, by kernel_rfl⟩

theorem wqc_t1_1 : Region.free .any (regOf 1 Tryz.f78) (lst 33 1) 1 = true ∧ (Region.ready .any (regOf 1 Tryz.f78) (lst 33 1)).contains 1 = true ∧ (lst 33 1).setIfInBounds 1 true = lst 33 3 := ⟨by kernel_rfl, by kernel_rfl, by kernel_rfl⟩

theorem wqc_t3_2 : Region.free .any (regOf 1 Tryz.f78) (lst 33 3) 2 = true ∧ (Region.ready .any (regOf 1 Tryz.f78) (lst 33 3)).contains 2 = true ∧ (lst 33 3).setIfInBounds 2 true = lst 33 7 := ⟨by kernel_rfl, by kernel_rfl, by kernel_rfl⟩

theorem wqc_t7_3 : Region.free .any (regOf 1 Tryz.f78) (lst 33 7) 3 = true ∧ (Region.ready .any (regOf 1 Tryz.f78) (lst 33 7)).contains 3 = true ∧ (lst 33 7).setIfInBounds 3 true = lst 33 15 := ⟨by kernel_rfl, by kernel_rfl, by kernel_rfl⟩

theorem wqc_t15_4 : Region.free .any (regOf 1 Tryz.f78) (lst 33 15) 4 = true ∧ (Region.ready .any (regOf 1 Tryz.f78) (lst 33 15)).contains 4 = true ∧ (lst 33 15).setIfInBounds 4 true = lst 33 31 := ⟨by kernel_rfl, by kernel_rfl, by kernel_rfl⟩

theorem wqc_t31_5 : Region.free .any (regOf 1 Tryz.f78) (lst 33 31) 5 = true ∧ (Region.ready .any (regOf 1 Tryz.f78) (lst 33 31)).contains 5 = true ∧ (lst 33 31).setIfInBounds 5 true = lst 33 63 := ⟨by kernel_rfl, by kernel_rfl, by kernel_rfl⟩

theorem wqc_t63_6 : Region.free .any (regOf 1 Tryz.f78) (lst 33 63) 6 = true ∧ (Region.ready .any (regOf 1 Tryz.f78) (lst 33 63)).contains 6 = true ∧ (lst 33 63).setIfInBounds 6 true = lst 33 127 := ⟨by kernel_rfl, by kernel_rfl, by kernel_rfl⟩

theorem wqc_t127_7 : Region.free .any (regOf 1 Tryz.f78) (lst 33 127) 7 = true ∧ (Region.ready .any (regOf 1 Tryz.f78) (lst 33 127)).contains 7 = true ∧ (lst 33 127).setIfInBounds 7 true = lst 33 255 := ⟨by kernel_rfl, by kernel_rfl, by kernel_rfl⟩

theorem wqc_t255_8 : Region.free .any (regOf 1 Tryz.f78) (lst 33 255) 8 = true ∧ (Region.ready .any (regOf 1 Tryz.f78) (lst 33 255)).contains 8 = true ∧ (lst 33 255).setIfInBounds 8 true = lst 33 511 := ⟨by kernel_rfl, by kernel_rfl, by kernel_rfl⟩

theorem wqc_t511_9 : Region.free .any (regOf 1 Tryz.f78) (lst 33 511) 9 = true ∧ (Region.ready .any (regOf 1 Tryz.f78) (lst 33 511)).contains 9 = true ∧ (lst 33 511).setIfInBounds 9 true = lst 33 1023 := ⟨by kernel_rfl, by kernel_rfl, by kernel_rfl⟩

theorem wqc_t1023_10 : Region.free .any (regOf 1 Tryz.f78) (lst 33 1023) 10 = true ∧ (Region.ready .any (regOf 1 Tryz.f78) (lst 33 1023)).contains 10 = true ∧ (lst 33 1023).setIfInBounds 10 true = lst 33 2047 := ⟨by kernel_rfl, by kernel_rfl, by kernel_rfl⟩

theorem wqc_t2047_11 : Region.free .any (regOf 1 Tryz.f78) (lst 33 2047) 11 = true ∧ (Region.ready .any (regOf 1 Tryz.f78) (lst 33 2047)).contains 11 = true ∧ (lst 33 2047).setIfInBounds 11 true = lst 33 4095 := ⟨by kernel_rfl, by kernel_rfl, by kernel_rfl⟩

theorem wqc_t4095_12 : Region.free .any (regOf 1 Tryz.f78) (lst 33 4095) 12 = true ∧ (Region.ready .any (regOf 1 Tryz.f78) (lst 33 4095)).contains 12 = true ∧ (lst 33 4095).setIfInBounds 12 true = lst 33 8191 := ⟨by kernel_rfl, by kernel_rfl, by kernel_rfl⟩

theorem wqc_t8191_13 : Region.free .any (regOf 1 Tryz.f78) (lst 33 8191) 13 = true ∧ (Region.ready .any (regOf 1 Tryz.f78) (lst 33 8191)).contains 13 = true ∧ (lst 33 8191).setIfInBounds 13 true = lst 33 16383 := ⟨by kernel_rfl, by kernel_rfl, by kernel_rfl⟩

theorem wqc_t16383_14 : Region.free .any (regOf 1 Tryz.f78) (lst 33 16383) 14 = true ∧ (Region.ready .any (regOf 1 Tryz.f78) (lst 33 16383)).contains 14 = true ∧ (lst 33 16383).setIfInBounds 14 true = lst 33 32767 := ⟨by kernel_rfl, by kernel_rfl, by kernel_rfl⟩

theorem wqc_t32767_15 : Region.free .any (regOf 1 Tryz.f78) (lst 33 32767) 15 = true ∧ (Region.ready .any (regOf 1 Tryz.f78) (lst 33 32767)).contains 15 = true ∧ (lst 33 32767).setIfInBounds 15 true = lst 33 65535 := ⟨by kernel_rfl, by kernel_rfl, by kernel_rfl⟩

theorem wqc_t65535_18 : Region.free .any (regOf 1 Tryz.f78) (lst 33 65535) 18 = true ∧ (Region.ready .any (regOf 1 Tryz.f78) (lst 33 65535)).contains 18 = true ∧ (lst 33 65535).setIfInBounds 18 true = lst 33 327679 := ⟨by kernel_rfl, by kernel_rfl, by kernel_rfl⟩

theorem wqc_t327679_19 : Region.free .any (regOf 1 Tryz.f78) (lst 33 327679) 19 = true ∧ (Region.ready .any (regOf 1 Tryz.f78) (lst 33 327679)).contains 19 = true ∧ (lst 33 327679).setIfInBounds 19 true = lst 33 851967 := ⟨by kernel_rfl, by kernel_rfl, by kernel_rfl⟩

theorem wqc_t851967_20 : Region.free .any (regOf 1 Tryz.f78) (lst 33 851967) 20 = true ∧ (Region.ready .any (regOf 1 Tryz.f78) (lst 33 851967)).contains 20 = true ∧ (lst 33 851967).setIfInBounds 20 true = lst 33 1900543 := ⟨by kernel_rfl, by kernel_rfl, by kernel_rfl⟩

theorem wqc_t1900543_21 : Region.free .any (regOf 1 Tryz.f78) (lst 33 1900543) 21 = true ∧ (Region.ready .any (regOf 1 Tryz.f78) (lst 33 1900543)).contains 21 = true ∧ (lst 33 1900543).setIfInBounds 21 true = lst 33 3997695 := ⟨by kernel_rfl, by kernel_rfl, by kernel_rfl⟩

theorem wqc_t3997695_22 : Region.free .any (regOf 1 Tryz.f78) (lst 33 3997695) 22 = true ∧ (Region.ready .any (regOf 1 Tryz.f78) (lst 33 3997695)).contains 22 = true ∧ (lst 33 3997695).setIfInBounds 22 true = lst 33 8191999 := ⟨by kernel_rfl, by kernel_rfl, by kernel_rfl⟩

theorem wqc_r8191999 : Region.ready .any (regOf 1 Tryz.f78) (lst 33 8191999) = [16] ∧ (lst 33 8191999).setIfInBounds 16 true = lst 33 8257535 := ⟨by kernel_rfl, by kernel_rfl⟩

theorem wqc_t8257535_17 : Region.free .any (regOf 1 Tryz.f78) (lst 33 8257535) 17 = true ∧ (Region.ready .any (regOf 1 Tryz.f78) (lst 33 8257535)).contains 17 = true ∧ (lst 33 8257535).setIfInBounds 17 true = lst 33 8388607 := ⟨by kernel_rfl, by kernel_rfl, by kernel_rfl⟩

theorem wqc_r8388607 : Region.ready .any (regOf 1 Tryz.f78) (lst 33 8388607) = [23] ∧ (lst 33 8388607).setIfInBounds 23 true = lst 33 16777215 := ⟨by kernel_rfl, by kernel_rfl⟩

theorem wqc_r16777215 : Region.ready .any (regOf 1 Tryz.f78) (lst 33 16777215) = [24] ∧ (lst 33 16777215).setIfInBounds 24 true = lst 33 33554431 := ⟨by kernel_rfl, by kernel_rfl⟩

theorem wqc_t33554431_25 : Region.free .any (regOf 1 Tryz.f78) (lst 33 33554431) 25 = true ∧ (Region.ready .any (regOf 1 Tryz.f78) (lst 33 33554431)).contains 25 = true ∧ (lst 33 33554431).setIfInBounds 25 true = lst 33 67108863 := ⟨by kernel_rfl, by kernel_rfl, by kernel_rfl⟩

theorem wqc_t67108863_26 : Region.free .any (regOf 1 Tryz.f78) (lst 33 67108863) 26 = true ∧ (Region.ready .any (regOf 1 Tryz.f78) (lst 33 67108863)).contains 26 = true ∧ (lst 33 67108863).setIfInBounds 26 true = lst 33 134217727 := ⟨by kernel_rfl, by kernel_rfl, by kernel_rfl⟩

theorem wqc_t134217727_27 : Region.free .any (regOf 1 Tryz.f78) (lst 33 134217727) 27 = true ∧ (Region.ready .any (regOf 1 Tryz.f78) (lst 33 134217727)).contains 27 = true ∧ (lst 33 134217727).setIfInBounds 27 true = lst 33 268435455 := ⟨by kernel_rfl, by kernel_rfl, by kernel_rfl⟩

theorem wqc_t268435455_28 : Region.free .any (regOf 1 Tryz.f78) (lst 33 268435455) 28 = true ∧ (Region.ready .any (regOf 1 Tryz.f78) (lst 33 268435455)).contains 28 = true ∧ (lst 33 268435455).setIfInBounds 28 true = lst 33 536870911 := ⟨by kernel_rfl, by kernel_rfl, by kernel_rfl⟩

theorem wqc_t536870911_29 : Region.free .any (regOf 1 Tryz.f78) (lst 33 536870911) 29 = true ∧ (Region.ready .any (regOf 1 Tryz.f78) (lst 33 536870911)).contains 29 = true ∧ (lst 33 536870911).setIfInBounds 29 true = lst 33 1073741823 := ⟨by kernel_rfl, by kernel_rfl, by kernel_rfl⟩

theorem wqc_t1073741823_30 : Region.free .any (regOf 1 Tryz.f78) (lst 33 1073741823) 30 = true ∧ (Region.ready .any (regOf 1 Tryz.f78) (lst 33 1073741823)).contains 30 = true ∧ (lst 33 1073741823).setIfInBounds 30 true = lst 33 2147483647 := ⟨by kernel_rfl, by kernel_rfl, by kernel_rfl⟩

theorem wqc_r2147483647 : Region.ready .any (regOf 1 Tryz.f78) (lst 33 2147483647) = [31] ∧ (lst 33 2147483647).setIfInBounds 31 true = lst 33 4294967295 := ⟨by kernel_rfl, by kernel_rfl⟩

theorem wqc_t4294967295_32 : Region.free .any (regOf 1 Tryz.f78) (lst 33 4294967295) 32 = true ∧ (Region.ready .any (regOf 1 Tryz.f78) (lst 33 4294967295)).contains 32 = true ∧ (lst 33 4294967295).setIfInBounds 32 true = lst 33 8589934591 := ⟨by kernel_rfl, by kernel_rfl, by kernel_rfl⟩

theorem wqc_end : Region.ready .any (regOf 1 Tryz.f78) (lst 33 8589934591) = [] := by kernel_rfl

end Go.Proofs.YtajlhdmnincehaaGreatDoor
