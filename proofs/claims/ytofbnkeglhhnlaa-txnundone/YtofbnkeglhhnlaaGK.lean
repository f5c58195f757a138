/- Texts of one layer, one behind the other. -/
import Derived.Test.YtofbnkeglhhnlaaGG
import Derived.Test.YtofbnkeglhhnlaaProg
/- The steps of a region. -/
namespace Go.Proofs.Ytofbnkeglhhnlaa
open Go.RowKit
set_option linter.unusedVariables false

theorem wze16_new : Array.replicate 25 false = lst 25 0 := by kernel_rfl

theorem wze16_size : (regOf 9 Try.f7).size = 25 := by kernel_rfl

theorem wze16_t0_0 : Region.free .any (regOf 9 Try.f7) (lst 25 0) 0 = true ∧ (Region.ready .any (regOf 9 Try.f7) (lst 25 0)).contains 0 = true ∧ (lst 25 0).setIfInBounds 0 true = lst 25 1 := ⟨by kernel_rfl, by kernel_rfl, by kernel_rfl⟩

theorem wze16_t1_1 : Region.free .any (regOf 9 Try.f7) (lst 25 1) 1 = true ∧ (Region.ready .any (regOf 9 Try.f7) (lst 25 1)).contains 1 = true ∧ (lst 25 1).setIfInBounds 1 true = lst 25 3 := ⟨by kernel_rfl, by kernel_rfl, by kernel_rfl⟩

theorem wze16_t3_2 : Region.free .any (regOf 9 Try.f7) (lst 25 3) 2 = true ∧ (Region.ready .any (regOf 9 Try.f7) (lst 25 3)).contains 2 = true ∧ (lst 25 3).setIfInBounds 2 true = lst 25 7 := ⟨by kernel_rfl, by kernel_rfl, by kernel_rfl⟩

theorem wze16_t7_3 : Region.free .any (regOf 9 Try.f7) (lst 25 7) 3 = true ∧ (Region.ready .any (regOf 9 Try.f7) (lst 25 7)).contains 3 = true ∧ (lst 25 7).setIfInBounds 3 true = lst 25 15 := ⟨by kernel_rfl, by kernel_rfl, by kernel_rfl⟩

theorem wze16_t15_4 : Region.free .any (regOf 9 Try.f7) (lst 25 15) 4 = true ∧ (Region.ready .any (regOf 9 Try.f7) (lst 25 15)).contains 4 = true ∧ (lst 25 15).setIfInBounds 4 true = lst 25 31 := ⟨by kernel_rfl, by kernel_rfl, by kernel_rfl⟩

theorem wze16_t31_5 : Region.free .any (regOf 9 Try.f7) (lst 25 31) 5 = true ∧ (Region.ready .any (regOf 9 Try.f7) (lst 25 31)).contains 5 = true ∧ (lst 25 31).setIfInBounds 5 true = lst 25 63 := ⟨by kernel_rfl, by kernel_rfl, by kernel_rfl⟩

theorem wze16_t63_6 : Region.free .any (regOf 9 Try.f7) (lst 25 63) 6 = true ∧ (Region.ready .any (regOf 9 Try.f7) (lst 25 63)).contains 6 = true ∧ (lst 25 63).setIfInBounds 6 true = lst 25 127 := ⟨by kernel_rfl, by kernel_rfl, by kernel_rfl⟩

theorem wze16_t127_7 : Region.free .any (regOf 9 Try.f7) (lst 25 127) 7 = true ∧ (Region.ready .any (regOf 9 Try.f7) (lst 25 127)).contains 7 = true ∧ (lst 25 127).setIfInBounds 7 true = lst 25 255 := ⟨by kernel_rfl, by kernel_rfl, by kernel_rfl⟩

theorem wze16_t255_8 : Region.free .any (regOf 9 Try.f7) (lst 25 255) 8 = true ∧ (Region.ready .any (regOf 9 Try.f7) (lst 25 255)).contains 8 = true ∧ (lst 25 255).setIfInBounds 8 true = lst 25 511 := ⟨by kernel_rfl, by kernel_rfl, by kernel_rfl⟩

theorem wze16_t511_9 : Region.free .any (regOf 9 Try.f7) (lst 25 511) 9 = true ∧ (Region.ready .any (regOf 9 Try.f7) (lst 25 511)).contains 9 = true ∧ (lst 25 511).setIfInBounds 9 true = lst 25 1023 := ⟨by kernel_rfl, by kernel_rfl, by kernel_rfl⟩

theorem wze16_t1023_10 : Region.free .any (regOf 9 Try.f7) (lst 25 1023) 10 = true ∧ (Region.ready .any (regOf 9 Try.f7) (lst 25 1023)).contains 10 = true ∧ (lst 25 1023).setIfInBounds 10 true = lst 25 2047 := ⟨by kernel_rfl, by kernel_rfl, by kernel_rfl⟩

theorem wze16_t2047_12 : Region.free .any (regOf 9 Try.f7) (lst 25 2047) 12 = true ∧ (Region.ready .any (regOf 9 Try.f7) (lst 25 2047)).contains 12 = true ∧ (lst 25 2047).setIfInBounds 12 true = lst 25 6143 := ⟨by kernel_rfl, by kernel_rfl, by kernel_rfl⟩

theorem wze16_t6143_13 : Region.free .any (regOf 9 Try.f7) (lst 25 6143) 13 = true ∧ (Region.ready .any (regOf 9 Try.f7) (lst 25 6143)).contains 13 = true ∧ (lst 25 6143).setIfInBounds 13 true = lst 25 14335 := ⟨by kernel_rfl, by kernel_rfl, by kernel_rfl⟩

theorem wze16_t14335_14 : Region.free .any (regOf 9 Try.f7) (lst 25 14335) 14 = true ∧ (Region.ready .any (regOf 9 Try.f7) (lst 25 14335)).contains 14 = true ∧ (lst 25 14335).setIfInBounds 14 true = lst 25 30719 := ⟨by kernel_rfl, by kernel_rfl, by kernel_rfl⟩

theorem wze16_t30719_15 : Region.free .any (regOf 9 Try.f7) (lst 25 30719) 15 = true ∧ (Region.ready .any (regOf 9 Try.f7) (lst 25 30719)).contains 15 = true ∧ (lst 25 30719).setIfInBounds 15 true = lst 25 63487 := ⟨by kernel_rfl, by kernel_rfl, by kernel_rfl⟩

theorem wze16_t63487_16 : Region.free .any (regOf 9 Try.f7) (lst 25 63487) 16 = true ∧ (Region.ready .any (regOf 9 Try.f7) (lst 25 63487)).contains 16 = true ∧ (lst 25 63487).setIfInBounds 16 true = lst 25 129023 := ⟨by kernel_rfl, by kernel_rfl, by kernel_rfl⟩

theorem wze16_t129023_17 : Region.free .any (regOf 9 Try.f7) (lst 25 129023) 17 = true ∧ (Region.ready .any (regOf 9 Try.f7) (lst 25 129023)).contains 17 = true ∧ (lst 25 129023).setIfInBounds 17 true = lst 25 260095 := ⟨by kernel_rfl, by kernel_rfl, by kernel_rfl⟩

theorem wze16_t260095_18 : Region.free .any (regOf 9 Try.f7) (lst 25 260095) 18 = true ∧ (Region.ready .any (regOf 9 Try.f7) (lst 25 260095)).contains 18 = true ∧ (lst 25 260095).setIfInBounds 18 true = lst 25 522239 := ⟨by kernel_rfl, by kernel_rfl, by kernel_rfl⟩

theorem wze16_t522239_19 : Region.free .any (regOf 9 Try.f7) (lst 25 522239) 19 = true ∧ (Region.ready .any (regOf 9 Try.f7) (lst 25 522239)).contains 19 = true ∧ (lst 25 522239).setIfInBounds 19 true = lst 25 1046527 := ⟨by kernel_rfl, by kernel_rfl, by kernel_rfl⟩

theorem wze16_t1046527_20 : Region.free .any (regOf 9 Try.f7) (lst 25 1046527) 20 = true ∧ (Region.ready .any (regOf 9 Try.f7) (lst 25 1046527)).contains 20 = true ∧ (lst 25 1046527).setIfInBounds 20 true = lst 25 2095103 := ⟨by kernel_rfl, by kernel_rfl, by kernel_rfl⟩

theorem wze16_t2095103_21 : Region.free .any (regOf 9 Try.f7) (lst 25 2095103) 21 = true ∧ (Region.ready .any (regOf 9 Try.f7) (lst 25 2095103)).contains 21 = true ∧ (lst 25 2095103).setIfInBounds 21 true = lst 25 4192255 := ⟨by kernel_rfl, by kernel_rfl, by kernel_rfl⟩

theorem wze16_t4192255_22 : Region.free .any (regOf 9 Try.f7) (lst 25 4192255) 22 = true ∧ (Region.ready .any (regOf 9 Try.f7) (lst 25 4192255)).contains 22 = true ∧ (lst 25 4192255).setIfInBounds 22 true = lst 25 8386559 := ⟨by kernel_rfl, by kernel_rfl, by kernel_rfl⟩

theorem wze16_r8386559 : Region.ready .any (regOf 9 Try.f7) (lst 25 8386559) = [11] ∧ (lst 25 8386559).setIfInBounds 11 true = lst 25 8388607 := ⟨by kernel_rfl, by kernel_rfl⟩

theorem wze16_r8388607 : Region.ready .any (regOf 9 Try.f7) (lst 25 8388607) = [23] ∧ (lst 25 8388607).setIfInBounds 23 true = lst 25 16777215 := ⟨by kernel_rfl, by kernel_rfl⟩

theorem wze16_t16777215_24 : Region.free .any (regOf 9 Try.f7) (lst 25 16777215) 24 = true ∧ (Region.ready .any (regOf 9 Try.f7) (lst 25 16777215)).contains 24 = true ∧ (lst 25 16777215).setIfInBounds 24 true = lst 25 33554431 := ⟨by kernel_rfl, by kernel_rfl, by kernel_rfl⟩

theorem wze16_end : Region.ready .any (regOf 9 Try.f7) (lst 25 33554431) = [] := by kernel_rfl

end Go.Proofs.Ytofbnkeglhhnlaa

/- The steps of a region. -/
namespace Go.Proofs.Ytofbnkeglhhnlaa
open Go.RowKit
set_option linter.unusedVariables false

theorem wzf16_new : Array.replicate 12 false = lst 12 0 := by kernel_rfl

theorem wzf16_size : (regOf 16 Try.f7).size = 12 := by kernel_rfl

theorem wzf16_t0_0 : Region.free .any (regOf 16 Try.f7) (lst 12 0) 0 = true ∧ (Region.ready .any (regOf 16 Try.f7) (lst 12 0)).contains 0 = true ∧ (lst 12 0).setIfInBounds 0 true = lst 12 1 := ⟨by kernel_rfl, by kernel_rfl, by kernel_rfl⟩

theorem wzf16_t1_1 : Region.free .any (regOf 16 Try.f7) (lst 12 1) 1 = true ∧ (Region.ready .any (regOf 16 Try.f7) (lst 12 1)).contains 1 = true ∧ (lst 12 1).setIfInBounds 1 true = lst 12 3 := ⟨by kernel_rfl, by kernel_rfl, by kernel_rfl⟩

theorem wzf16_t3_2 : Region.free .any (regOf 16 Try.f7) (lst 12 3) 2 = true ∧ (Region.ready .any (regOf 16 Try.f7) (lst 12 3)).contains 2 = true ∧ (lst 12 3).setIfInBounds 2 true = lst 12 7 := ⟨by kernel_rfl, by kernel_rfl, by kernel_rfl⟩

theorem wzf16_t7_3 : Region.free .any (regOf 16 Try.f7) (lst 12 7) 3 = true ∧ (Region.ready .any (regOf 16 Try.f7) (lst 12 7)).contains 3 = true ∧ (lst 12 7).setIfInBounds 3 true = lst 12 15 := ⟨by kernel_rfl, by kernel_rfl, by kernel_rfl⟩

theorem wzf16_t15_4 : Region.free .any (regOf 16 Try.f7) (lst 12 15) 4 = true ∧ (Region.ready .any (regOf 16 Try.f7) (lst 12 15)).contains 4 = true ∧ (lst 12 15).setIfInBounds 4 true = lst 12 31 := ⟨by kernel_rfl, by kernel_rfl, by kernel_rfl⟩

theorem wzf16_t31_5 : Region.free .any (regOf 16 Try.f7) (lst 12 31) 5 = true ∧ (Region.ready .any (regOf 16 Try.f7) (lst 12 31)).contains 5 = true ∧ (lst 12 31).setIfInBounds 5 true = lst 12 63 := ⟨by kernel_rfl, by kernel_rfl, by kernel_rfl⟩

theorem wzf16_t63_6 : Region.free .any (regOf 16 Try.f7) (lst 12 63) 6 = true ∧ (Region.ready .any (regOf 16 Try.f7) (lst 12 63)).contains 6 = true ∧ (lst 12 63).setIfInBounds 6 true = lst 12 127 := ⟨by kernel_rfl, by kernel_rfl, by kernel_rfl⟩

theorem wzf16_t127_7 : Region.free .any (regOf 16 Try.f7) (lst 12 127) 7 = true ∧ (Region.ready .any (regOf 16 Try.f7) (lst 12 127)).contains 7 = true ∧ (lst 12 127).setIfInBounds 7 true = lst 12 255 := ⟨by kernel_rfl, by kernel_rfl, by kernel_rfl⟩

theorem wzf16_t255_8 : Region.free .any (regOf 16 Try.f7) (lst 12 255) 8 = true ∧ (Region.ready .any (regOf 16 Try.f7) (lst 12 255)).contains 8 = true ∧ (lst 12 255).setIfInBounds 8 true = lst 12 511 := ⟨by kernel_rfl, by kernel_rfl, by kernel_rfl⟩

theorem wzf16_t511_9 : Region.free .any (regOf 16 Try.f7) (lst 12 511) 9 = true ∧ (Region.ready .any (regOf 16 Try.f7) (lst 12 511)).contains 9 = true ∧ (lst 12 511).setIfInBounds 9 true = lst 12 1023 := ⟨by kernel_rfl, by kernel_rfl, by kernel_rfl⟩

theorem wzf16_t1023_10 : Region.free .any (regOf 16 Try.f7) (lst 12 1023) 10 = true ∧ (Region.ready .any (regOf 16 Try.f7) (lst 12 1023)).contains 10 = true ∧ (lst 12 1023).setIfInBounds 10 true = lst 12 2047 := ⟨by kernel_rfl, by kernel_rfl, by kernel_rfl⟩

theorem wzf16_r2047 : Region.ready .any (regOf 16 Try.f7) (lst 12 2047) = [11] ∧ (lst 12 2047).setIfInBounds 11 true = lst 12 4095 := ⟨by kernel_rfl, by kernel_rfl⟩

theorem wzf16_end : Region.ready .any (regOf 16 Try.f7) (lst 12 4095) = [] := by kernel_rfl

end Go.Proofs.Ytofbnkeglhhnlaa

/- The steps of a region. -/
namespace Go.Proofs.Ytofbnkeglhhnlaa
open Go.RowKit
set_option linter.unusedVariables false

theorem wzg16_new : Array.replicate 15 false = lst 15 0 := by kernel_rfl

theorem wzg16_size : (regOf 22 Try.f7).size = 15 := by kernel_rfl

theorem wzg16_t0_0 : Region.free .any (regOf 22 Try.f7) (lst 15 0) 0 = true ∧ (Region.ready .any (regOf 22 Try.f7) (lst 15 0)).contains 0 = true ∧ (lst 15 0).setIfInBounds 0 true = lst 15 1 := ⟨by kernel_rfl, by kernel_rfl, by kernel_rfl⟩

theorem wzg16_t1_1 : Region.free .any (regOf 22 Try.f7) (lst 15 1) 1 = true ∧ (Region.ready .any (regOf 22 Try.f7) (lst 15 1)).contains 1 = true ∧ (lst 15 1).setIfInBounds 1 true = lst 15 3 := ⟨by kernel_rfl, by kernel_rfl, by kernel_rfl⟩

theorem wzg16_t3_2 : Region.free .any (regOf 22 Try.f7) (lst 15 3) 2 = true ∧ (Region.ready .any (regOf 22 Try.f7) (lst 15 3)).contains 2 = true ∧ (lst 15 3).setIfInBounds 2 true = lst 15 7 := ⟨by kernel_rfl, by kernel_rfl, by kernel_rfl⟩

theorem wzg16_t7_3 : Region.free .any (regOf 22 Try.f7) (lst 15 7) 3 = true ∧ (Region.ready .any (regOf 22 Try.f7) (lst 15 7)).contains 3 = true ∧ (lst 15 7).setIfInBounds 3 true = lst 15 15 := ⟨by kernel_rfl, by kernel_rfl, by kernel_rfl⟩

theorem wzg16_t15_4 : Region.free .any (regOf 22 Try.f7) (lst 15 15) 4 = true ∧ (Region.ready .any (regOf 22 Try.f7) (lst 15 15)).contains 4 = true ∧ (lst 15 15).setIfInBounds 4 true = lst 15 31 := ⟨by kernel_rfl, by kernel_rfl, by kernel_rfl⟩

theorem wzg16_t31_5 : Region.free .any (regOf 22 Try.f7) (lst 15 31) 5 = true ∧ (Region.ready .any (regOf 22 Try.f7) (lst 15 31)).contains 5 = true ∧ (lst 15 31).setIfInBounds 5 true = lst 15 63 := ⟨by kernel_rfl, by kernel_rfl, by kernel_rfl⟩

theorem wzg16_t63_7 : Region.free .any (regOf 22 Try.f7) (lst 15 63) 7 = true ∧ (Region.ready .any (regOf 22 Try.f7) (lst 15 63)).contains 7 = true ∧ (lst 15 63).setIfInBounds 7 true = lst 15 191 := ⟨by kernel_rfl, by kernel_rfl, by kernel_rfl⟩

theorem wzg16_t191_8 : Region.free .any (regOf 22 Try.f7) (lst 15 191) 8 = true ∧ (Region.ready .any (regOf 22 Try.f7) (lst 15 191)).contains 8 = true ∧ (lst 15 191).setIfInBounds 8 true = lst 15 447 := ⟨by kernel_rfl, by kernel_rfl, by kernel_rfl⟩

theorem wzg16_t447_9 : Region.free .any (regOf 22 Try.f7) (lst 15 447) 9 = true ∧ (Region.ready .any (regOf 22 Try.f7) (lst 15 447)).contains 9 = true ∧ (lst 15 447).setIfInBounds 9 true = lst 15 959 := ⟨by kernel_rfl, by kernel_rfl, by kernel_rfl⟩

theorem wzg16_t959_10 : Region.free .any (regOf 22 Try.f7) (lst 15 959) 10 = true ∧ (Region.ready .any (regOf 22 Try.f7) (lst 15 959)).contains 10 = true ∧ (lst 15 959).setIfInBounds 10 true = lst 15 1983 := ⟨by kernel_rfl, by kernel_rfl, by kernel_rfl⟩

theorem wzg16_t1983_11 : Region.free .any (regOf 22 Try.f7) (lst 15 1983) 11 = true ∧ (Region.ready .any (regOf 22 Try.f7) (lst 15 1983)).contains 11 = true ∧ (lst 15 1983).setIfInBounds 11 true = lst 15 4031 := ⟨by kernel_rfl, by kernel_rfl, by kernel_rfl⟩

theorem wzg16_t4031_12 : Region.free .any (regOf 22 Try.f7) (lst 15 4031) 12 = true ∧ (Region.ready .any (regOf 22 Try.f7) (lst 15 4031)).contains 12 = true ∧ (lst 15 4031).setIfInBounds 12 true = lst 15 8127 := ⟨by kernel_rfl, by kernel_rfl, by kernel_rfl⟩

theorem wzg16_r8127 : Region.ready .any (regOf 22 Try.f7) (lst 15 8127) = [6] ∧ (lst 15 8127).setIfInBounds 6 true = lst 15 8191 := ⟨by kernel_rfl, by kernel_rfl⟩

theorem wzg16_r8191 : Region.ready .any (regOf 22 Try.f7) (lst 15 8191) = [13] ∧ (lst 15 8191).setIfInBounds 13 true = lst 15 16383 := ⟨by kernel_rfl, by kernel_rfl⟩

theorem wzg16_t16383_14 : Region.free .any (regOf 22 Try.f7) (lst 15 16383) 14 = true ∧ (Region.ready .any (regOf 22 Try.f7) (lst 15 16383)).contains 14 = true ∧ (lst 15 16383).setIfInBounds 14 true = lst 15 32767 := ⟨by kernel_rfl, by kernel_rfl, by kernel_rfl⟩

theorem wzg16_end : Region.ready .any (regOf 22 Try.f7) (lst 15 32767) = [] := by kernel_rfl

end Go.Proofs.Ytofbnkeglhhnlaa
