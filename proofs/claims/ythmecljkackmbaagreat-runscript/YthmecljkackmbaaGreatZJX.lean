/- Texts of one layer, one behind the other. -/
import Derived.Test.YthmecljkackmbaaGreatZW
import Derived.Test.YthmecljkackmbaaGreatProg
import Derived.Test.YthmecljkackmbaaGreatZJ4
import Derived.Test.YthmecljkackmbaaGreatZJ2
import Derived.Test.YthmecljkackmbaaGreatZJ1
import Derived.Test.YthmecljkackmbaaGreatZ21
import Derived.Test.YthmecljkackmbaaGreatZF
import Derived.Test.YthmecljkackmbaaGreatZD1
import Derived.Test.YthmecljkackmbaaGreatZ15
/- The steps of a region of the pair's same. -/
namespace Go.Proofs.YthmecljkackmbaaGreat
open Go.RowKit
set_option linter.unusedVariables false

theorem wze_new : Array.replicate 65 false = lst 65 0 := by kernel_rfl

theorem wze_size : (regOf 1 Tryz.f45).size = 65 := by kernel_rfl

theorem wze_t0_0 : Region.free .any (regOf 1 Tryz.f45) (lst 65 0) 0 = true ∧ (Region.ready .any (regOf 1 Tryz.f45) (lst 65 0)).contains 0 = true ∧ (lst 65 0).setIfInBounds 0 true = lst 65 1 := ⟨by kernel_rfl, by kernel_rfl, by kernel_rfl⟩

theorem wze_t1_1 : Region.free .any (regOf 1 Tryz.f45) (lst 65 1) 1 = true ∧ (Region.ready .any (regOf 1 Tryz.f45) (lst 65 1)).contains 1 = true ∧ (lst 65 1).setIfInBounds 1 true = lst 65 3 := ⟨by kernel_rfl, by kernel_rfl, by kernel_rfl⟩

theorem wze_t3_2 : Region.free .any (regOf 1 Tryz.f45) (lst 65 3) 2 = true ∧ (Region.ready .any (regOf 1 Tryz.f45) (lst 65 3)).contains 2 = true ∧ (lst 65 3).setIfInBounds 2 true = lst 65 7 := ⟨by kernel_rfl, by kernel_rfl, by kernel_rfl⟩

theorem wze_t7_3 : Region.free .any (regOf 1 Tryz.f45) (lst 65 7) 3 = true ∧ (Region.ready .any (regOf 1 Tryz.f45) (lst 65 7)).contains 3 = true ∧ (lst 65 7).setIfInBounds 3 true = lst 65 15 := ⟨by kernel_rfl, by kernel_rfl, by kernel_rfl⟩

theorem wze_t15_5 : Region.free .any (regOf 1 Tryz.f45) (lst 65 15) 5 = true ∧ (Region.ready .any (regOf 1 Tryz.f45) (lst 65 15)).contains 5 = true ∧ (lst 65 15).setIfInBounds 5 true = lst 65 47 := ⟨by kernel_rfl, by kernel_rfl, by kernel_rfl⟩

theorem wze_t47_6 : Region.free .any (regOf 1 Tryz.f45) (lst 65 47) 6 = true ∧ (Region.ready .any (regOf 1 Tryz.f45) (lst 65 47)).contains 6 = true ∧ (lst 65 47).setIfInBounds 6 true = lst 65 111 := ⟨by kernel_rfl, by kernel_rfl, by kernel_rfl⟩

theorem wze_t111_7 : Region.free .any (regOf 1 Tryz.f45) (lst 65 111) 7 = true ∧ (Region.ready .any (regOf 1 Tryz.f45) (lst 65 111)).contains 7 = true ∧ (lst 65 111).setIfInBounds 7 true = lst 65 239 := ⟨by kernel_rfl, by kernel_rfl, by kernel_rfl⟩

theorem wze_t239_8 : Region.free .any (regOf 1 Tryz.f45) (lst 65 239) 8 = true ∧ (Region.ready .any (regOf 1 Tryz.f45) (lst 65 239)).contains 8 = true ∧ (lst 65 239).setIfInBounds 8 true = lst 65 495 := ⟨by kernel_rfl, by kernel_rfl, by kernel_rfl⟩

theorem wze_r495 : Region.ready .any (regOf 1 Tryz.f45) (lst 65 495) = [4] ∧ (lst 65 495).setIfInBounds 4 true = lst 65 511 := ⟨by kernel_rfl, by kernel_rfl⟩

theorem wze_r511 : Region.ready .any (regOf 1 Tryz.f45) (lst 65 511) = [9] ∧ (lst 65 511).setIfInBounds 9 true = lst 65 1023 := ⟨by kernel_rfl, by kernel_rfl⟩

theorem wze_t1023_10 : Region.free .any (regOf 1 Tryz.f45) (lst 65 1023) 10 = true ∧ (Region.ready .any (regOf 1 Tryz.f45) (lst 65 1023)).contains 10 = true ∧ (lst 65 1023).setIfInBounds 10 true = lst 65 2047 := ⟨by kernel_rfl, by kernel_rfl, by kernel_rfl⟩

theorem wze_t2047_11 : Region.free .any (regOf 1 Tryz.f45) (lst 65 2047) 11 = true ∧ (Region.ready .any (regOf 1 Tryz.f45) (lst 65 2047)).contains 11 = true ∧ (lst 65 2047).setIfInBounds 11 true = lst 65 4095 := ⟨by kernel_rfl, by kernel_rfl, by kernel_rfl⟩

theorem wze_t4095_12 : Region.free .any (regOf 1 Tryz.f45) (lst 65 4095) 12 = true ∧ (Region.ready .any (regOf 1 Tryz.f45) (lst 65 4095)).contains 12 = true ∧ (lst 65 4095).setIfInBounds 12 true = lst 65 8191 := ⟨by kernel_rfl, by kernel_rfl, by kernel_rfl⟩

theorem wze_t8191_13 : Region.free .any (regOf 1 Tryz.f45) (lst 65 8191) 13 = true ∧ (Region.ready .any (regOf 1 Tryz.f45) (lst 65 8191)).contains 13 = true ∧ (lst 65 8191).setIfInBounds 13 true = lst 65 16383 := ⟨by kernel_rfl, by kernel_rfl, by kernel_rfl⟩

theorem wze_t16383_14 : Region.free .any (regOf 1 Tryz.f45) (lst 65 16383) 14 = true ∧ (Region.ready .any (regOf 1 Tryz.f45) (lst 65 16383)).contains 14 = true ∧ (lst 65 16383).setIfInBounds 14 true = lst 65 32767 := ⟨by kernel_rfl, by kernel_rfl, by kernel_rfl⟩

theorem wze_t32767_15 : Region.free .any (regOf 1 Tryz.f45) (lst 65 32767) 15 = true ∧ (Region.ready .any (regOf 1 Tryz.f45) (lst 65 32767)).contains 15 = true ∧ (lst 65 32767).setIfInBounds 15 true = lst 65 65535 := ⟨by kernel_rfl, by kernel_rfl, by kernel_rfl⟩

theorem wze_t65535_17 : Region.free .any (regOf 1 Tryz.f45) (lst 65 65535) 17 = true ∧ (Region.ready .any (regOf 1 Tryz.f45) (lst 65 65535)).contains 17 = true ∧ (lst 65 65535).setIfInBounds 17 true = lst 65 196607 := ⟨by kernel_rfl, by kernel_rfl, by kernel_rfl⟩

theorem wze_t196607_18 : Region.free .any (regOf 1 Tryz.f45) (lst 65 196607) 18 = true ∧ (Region.ready .any (regOf 1 Tryz.f45) (lst 65 196607)).contains 18 = true ∧ (lst 65 196607).setIfInBounds 18 true = lst 65 458751 := ⟨by kernel_rfl, by kernel_rfl, by kernel_rfl⟩

theorem wze_t458751_19 : Region.free .any (regOf 1 Tryz.f45) (lst 65 458751) 19 = true ∧ (Region.ready .any (regOf 1 Tryz.f45) (lst 65 458751)).contains 19 = true ∧ (lst 65 458751).setIfInBounds 19 true = lst 65 983039 := ⟨by kernel_rfl, by kernel_rfl, by kernel_rfl⟩

theorem wze_t983039_20 : Region.free .any (regOf 1 Tryz.f45) (lst 65 983039) 20 = true ∧ (Region.ready .any (regOf 1 Tryz.f45) (lst 65 983039)).contains 20 = true ∧ (lst 65 983039).setIfInBounds 20 true = lst 65 2031615 := ⟨by kernel_rfl, by kernel_rfl, by kernel_rfl⟩

theorem wze_r2031615 : Region.ready .any (regOf 1 Tryz.f45) (lst 65 2031615) = [16] ∧ (lst 65 2031615).setIfInBounds 16 true = lst 65 2097151 := ⟨by kernel_rfl, by kernel_rfl⟩

theorem wze_r2097151 : Region.ready .any (regOf 1 Tryz.f45) (lst 65 2097151) = [21] ∧ (lst 65 2097151).setIfInBounds 21 true = lst 65 4194303 := ⟨by kernel_rfl, by kernel_rfl⟩

theorem wze_r4194303 : Region.ready .any (regOf 1 Tryz.f45) (lst 65 4194303) = [22] ∧ (lst 65 4194303).setIfInBounds 22 true = lst 65 8388607 := ⟨by kernel_rfl, by kernel_rfl⟩

theorem wze_t8388607_23 : Region.free .any (regOf 1 Tryz.f45) (lst 65 8388607) 23 = true ∧ (Region.ready .any (regOf 1 Tryz.f45) (lst 65 8388607)).contains 23 = true ∧ (lst 65 8388607).setIfInBounds 23 true = lst 65 16777215 := ⟨by kernel_rfl, by kernel_rfl, by kernel_rfl⟩

theorem wze_t16777215_24 : Region.free .any (regOf 1 Tryz.f45) (lst 65 16777215) 24 = true ∧ (Region.ready .any (regOf 1 Tryz.f45) (lst 65 16777215)).contains 24 = true ∧ (lst 65 16777215).setIfInBounds 24 true = lst 65 33554431 := ⟨by kernel_rfl, by kernel_rfl, by kernel_rfl⟩

theorem wze_t33554431_25 : Region.free .any (regOf 1 Tryz.f45) (lst 65 33554431) 25 = true ∧ (Region.ready .any (regOf 1 Tryz.f45) (lst 65 33554431)).contains 25 = true ∧ (lst 65 33554431).setIfInBounds 25 true = lst 65 67108863 := ⟨by kernel_rfl, by kernel_rfl, by kernel_rfl⟩

theorem wze_t67108863_26 : Region.free .any (regOf 1 Tryz.f45) (lst 65 67108863) 26 = true ∧ (Region.ready .any (regOf 1 Tryz.f45) (lst 65 67108863)).contains 26 = true ∧ (lst 65 67108863).setIfInBounds 26 true = lst 65 134217727 := ⟨by kernel_rfl, by kernel_rfl, by kernel_rfl⟩

theorem wze_t134217727_27 : Region.free .any (regOf 1 Tryz.f45) (lst 65 134217727) 27 = true ∧ (Region.ready .any (regOf 1 Tryz.f45) (lst 65 134217727)).contains 27 = true ∧ (lst 65 134217727).setIfInBounds 27 true = lst 65 268435455 := ⟨by kernel_rfl, by kernel_rfl, by kernel_rfl⟩

theorem wze_t268435455_28 : Region.free .any (regOf 1 Tryz.f45) (lst 65 268435455) 28 = true ∧ (Region.ready .any (regOf 1 Tryz.f45) (lst 65 268435455)).contains 28 = true ∧ (lst 65 268435455).setIfInBounds 28 true = lst 65 536870911 := ⟨by kernel_rfl, by kernel_rfl, by kernel_rfl⟩

theorem wze_t536870911_29 : Region.free .any (regOf 1 Tryz.f45) (lst 65 536870911) 29 = true ∧ (Region.ready .any (regOf 1 Tryz.f45) (lst 65 536870911)).contains 29 = true ∧ (lst 65 536870911).setIfInBounds 29 true = lst 65 1073741823 := ⟨by kernel_rfl, by kernel_rfl, by kernel_rfl⟩

theorem wze_t1073741823_31 : Region.free .any (regOf 1 Tryz.f45) (lst 65 1073741823) 31 = true ∧ (Region.ready .any (regOf 1 Tryz.f45) (lst 65 1073741823)).contains 31 = true ∧ (lst 65 1073741823).setIfInBounds 31 true = lst 65 3221225471 := ⟨by kernel_rfl, by kernel_rfl, by kernel_rfl⟩

theorem wze_t3221225471_32 : Region.free .any (regOf 1 Tryz.f45) (lst 65 3221225471) 32 = true ∧ (Region.ready .any (regOf 1 Tryz.f45) (lst 65 3221225471)).contains 32 = true ∧ (lst 65 3221225471).setIfInBounds 32 true = lst 65 7516192767 := ⟨by kernel_rfl, by kernel_rfl, by kernel_rfl⟩

theorem wze_t7516192767_33 : Region.free .any (regOf 1 Tryz.f45) (lst 65 7516192767) 33 = true ∧ (Region.ready .any (regOf 1 Tryz.f45) (lst 65 7516192767)).contains 33 = true ∧ (lst 65 7516192767).setIfInBounds 33 true = lst 65 16106127359 := ⟨by kernel_rfl, by kernel_rfl, by kernel_rfl⟩

theorem wze_t16106127359_34 : Region.free .any (regOf 1 Tryz.f45) (lst 65 16106127359) 34 = true ∧ (Region.ready .any (regOf 1 Tryz.f45) (lst 65 16106127359)).contains 34 = true ∧ (lst 65 16106127359).setIfInBounds 34 true = lst 65 33285996543 := ⟨by kernel_rfl, by kernel_rfl, by kernel_rfl⟩

theorem wze_r33285996543 : Region.ready .any (regOf 1 Tryz.f45) (lst 65 33285996543) = [30] ∧ (lst 65 33285996543).setIfInBounds 30 true = lst 65 34359738367 := ⟨by kernel_rfl, by kernel_rfl⟩

theorem wze_r34359738367 : Region.ready .any (regOf 1 Tryz.f45) (lst 65 34359738367) = [35] ∧ (lst 65 34359738367).setIfInBounds 35 true = lst 65 68719476735 := ⟨by kernel_rfl, by kernel_rfl⟩

theorem wze_r68719476735 : Region.ready .any (regOf 1 Tryz.f45) (lst 65 68719476735) = [36] ∧ (lst 65 68719476735).setIfInBounds 36 true = lst 65 137438953471 := ⟨by kernel_rfl, by kernel_rfl⟩

theorem wze_t137438953471_37 : Region.free .any (regOf 1 Tryz.f45) (lst 65 137438953471) 37 = true ∧ (Region.ready .any (regOf 1 Tryz.f45) (lst 65 137438953471)).contains 37 = true ∧ (lst 65 137438953471).setIfInBounds 37 true = lst 65 274877906943 := ⟨by kernel_rfl, by kernel_rfl, by kernel_rfl⟩

theorem wze_t274877906943_38 : Region.free .any (regOf 1 Tryz.f45) (lst 65 274877906943) 38 = true ∧ (Region.ready .any (regOf 1 Tryz.f45) (lst 65 274877906943)).contains 38 = true ∧ (lst 65 274877906943).setIfInBounds 38 true = lst 65 549755813887 := ⟨by kernel_rfl, by kernel_rfl, by kernel_rfl⟩

theorem wze_t549755813887_39 : Region.free .any (regOf 1 Tryz.f45) (lst 65 549755813887) 39 = true ∧ (Region.ready .any (regOf 1 Tryz.f45) (lst 65 549755813887)).contains 39 = true ∧ (lst 65 549755813887).setIfInBounds 39 true = lst 65 1099511627775 := ⟨by kernel_rfl, by kernel_rfl, by kernel_rfl⟩

theorem wze_t1099511627775_40 : Region.free .any (regOf 1 Tryz.f45) (lst 65 1099511627775) 40 = true ∧ (Region.ready .any (regOf 1 Tryz.f45) (lst 65 1099511627775)).contains 40 = true ∧ (lst 65 1099511627775).setIfInBounds 40 true = lst 65 2199023255551 := ⟨by kernel_rfl, by kernel_rfl, by kernel_rfl⟩

theorem wze_t2199023255551_41 : Region.free .any (regOf 1 Tryz.f45) (lst 65 2199023255551) 41 = true ∧ (Region.ready .any (regOf 1 Tryz.f45) (lst 65 2199023255551)).contains 41 = true ∧ (lst 65 2199023255551).setIfInBounds 41 true = lst 65 4398046511103 := ⟨by kernel_rfl, by kernel_rfl, by kernel_rfl⟩

theorem wze_t4398046511103_42 : Region.free .any (regOf 1 Tryz.f45) (lst 65 4398046511103) 42 = true ∧ (Region.ready .any (regOf 1 Tryz.f45) (lst 65 4398046511103)).contains 42 = true ∧ (lst 65 4398046511103).setIfInBounds 42 true = lst 65 8796093022207 := ⟨by kernel_rfl, by kernel_rfl, by kernel_rfl⟩

theorem wze_t8796093022207_43 : Region.free .any (regOf 1 Tryz.f45) (lst 65 8796093022207) 43 = true ∧ (Region.ready .any (regOf 1 Tryz.f45) (lst 65 8796093022207)).contains 43 = true ∧ (lst 65 8796093022207).setIfInBounds 43 true = lst 65 17592186044415 := ⟨by kernel_rfl, by kernel_rfl, by kernel_rfl⟩

theorem wze_t17592186044415_45 : Region.free .any (regOf 1 Tryz.f45) (lst 65 17592186044415) 45 = true ∧ (Region.ready .any (regOf 1 Tryz.f45) (lst 65 17592186044415)).contains 45 = true ∧ (lst 65 17592186044415).setIfInBounds 45 true = lst 65 52776558133247 := ⟨by kernel_rfl, by kernel_rfl, by kernel_rfl⟩

theorem wze_t52776558133247_46 : Region.free .any (regOf 1 Tryz.f45) (lst 65 52776558133247) 46 = true ∧ (Region.ready .any (regOf 1 Tryz.f45) (lst 65 52776558133247)).contains 46 = true ∧ (lst 65 52776558133247).setIfInBounds 46 true = lst 65 123145302310911 := ⟨by kernel_rfl, by kernel_rfl, by kernel_rfl⟩

theorem wze_t123145302310911_47 : Region.free .any (regOf 1 Tryz.f45) (lst 65 123145302310911) 47 = true ∧ (Region.ready .any (regOf 1 Tryz.f45) (lst 65 123145302310911)).contains 47 = true ∧ (lst 65 123145302310911).setIfInBounds 47 true = lst 65 263882790666239 := ⟨by kernel_rfl, by kernel_rfl, by kernel_rfl⟩

theorem wze_t263882790666239_48 : Region.free .any (regOf 1 Tryz.f45) (lst 65 263882790666239) 48 = true ∧ (Region.ready .any (regOf 1 Tryz.f45) (lst 65 263882790666239)).contains 48 = true ∧ (lst 65 263882790666239).setIfInBounds 48 true = lst 65 545357767376895 := ⟨by kernel_rfl, by kernel_rfl, by kernel_rfl⟩

theorem wze_r545357767376895 : Region.ready .any (regOf 1 Tryz.f45) (lst 65 545357767376895) = [44] ∧ (lst 65 545357767376895).setIfInBounds 44 true = lst 65 562949953421311 := ⟨by kernel_rfl, by kernel_rfl⟩

theorem wze_r562949953421311 : Region.ready .any (regOf 1 Tryz.f45) (lst 65 562949953421311) = [49] ∧ (lst 65 562949953421311).setIfInBounds 49 true = lst 65 1125899906842623 := ⟨by kernel_rfl, by kernel_rfl⟩

theorem wze_t1125899906842623_50 : Region.free .any (regOf 1 Tryz.f45) (lst 65 1125899906842623) 50 = true ∧ (Region.ready .any (regOf 1 Tryz.f45) (lst 65 1125899906842623)).contains 50 = true ∧ (lst 65 1125899906842623).setIfInBounds 50 true = lst 65 2251799813685247 := ⟨by kernel_rfl, by kernel_rfl, by kernel_rfl⟩

theorem wze_t2251799813685247_51 : Region.free .any (regOf 1 Tryz.f45) (lst 65 2251799813685247) 51 = true ∧ (Region.ready .any (regOf 1 Tryz.f45) (lst 65 2251799813685247)).contains 51 = true ∧ (lst 65 2251799813685247).setIfInBounds 51 true = lst 65 4503599627370495 := ⟨by kernel_rfl, by kernel_rfl, by kernel_rfl⟩

theorem wze_t4503599627370495_52 : Region.free .any (regOf 1 Tryz.f45) (lst 65 4503599627370495) 52 = true ∧ (Region.ready .any (regOf 1 Tryz.f45) (lst 65 4503599627370495)).contains 52 = true ∧ (lst 65 4503599627370495).setIfInBounds 52 true = lst 65 9007199254740991 := ⟨by kernel_rfl, by kernel_rfl, by kernel_rfl⟩

theorem wze_t9007199254740991_53 : Region.free .any (regOf 1 Tryz.f45) (lst 65 9007199254740991) 53 = true ∧ (Region.ready .any (regOf 1 Tryz.f45) (lst 65 9007199254740991)).contains 53 = true ∧ (lst 65 9007199254740991).setIfInBounds 53 true = lst 65 18014398509481983 := ⟨by kernel_rfl, by kernel_rfl, by kernel_rfl⟩

theorem wze_t18014398509481983_54 : Region.free .any (regOf 1 Tryz.f45) (lst 65 18014398509481983) 54 = true ∧ (Region.ready .any (regOf 1 Tryz.f45) (lst 65 18014398509481983)).contains 54 = true ∧ (lst 65 18014398509481983).setIfInBounds 54 true = lst 65 36028797018963967 := ⟨by kernel_rfl, by kernel_rfl, by kernel_rfl⟩

theorem wze_t36028797018963967_55 : Region.free .any (regOf 1 Tryz.f45) (lst 65 36028797018963967) 55 = true ∧ (Region.ready .any (regOf 1 Tryz.f45) (lst 65 36028797018963967)).contains 55 = true ∧ (lst 65 36028797018963967).setIfInBounds 55 true = lst 65 72057594037927935 := ⟨by kernel_rfl, by kernel_rfl, by kernel_rfl⟩

theorem wze_t72057594037927935_56 : Region.free .any (regOf 1 Tryz.f45) (lst 65 72057594037927935) 56 = true ∧ (Region.ready .any (regOf 1 Tryz.f45) (lst 65 72057594037927935)).contains 56 = true ∧ (lst 65 72057594037927935).setIfInBounds 56 true = lst 65 144115188075855871 := ⟨by kernel_rfl, by kernel_rfl, by kernel_rfl⟩

theorem wze_t144115188075855871_58 : Region.free .any (regOf 1 Tryz.f45) (lst 65 144115188075855871) 58 = true ∧ (Region.ready .any (regOf 1 Tryz.f45) (lst 65 144115188075855871)).contains 58 = true ∧ (lst 65 144115188075855871).setIfInBounds 58 true = lst 65 432345564227567615 := ⟨by kernel_rfl, by kernel_rfl, by kernel_rfl⟩

theorem wze_t432345564227567615_59 : Region.free .any (regOf 1 Tryz.f45) (lst 65 432345564227567615) 59 = true ∧ (Region.ready .any (regOf 1 Tryz.f45) (lst 65 432345564227567615)).contains 59 = true ∧ (lst 65 432345564227567615).setIfInBounds 59 true = lst 65 1008806316530991103 := ⟨by kernel_rfl, by kernel_rfl, by kernel_rfl⟩

theorem wze_t1008806316530991103_60 : Region.free .any (regOf 1 Tryz.f45) (lst 65 1008806316530991103) 60 = true ∧ (Region.ready .any (regOf 1 Tryz.f45) (lst 65 1008806316530991103)).contains 60 = true ∧ (lst 65 1008806316530991103).setIfInBounds 60 true = lst 65 2161727821137838079 := ⟨by kernel_rfl, by kernel_rfl, by kernel_rfl⟩

theorem wze_t2161727821137838079_61 : Region.free .any (regOf 1 Tryz.f45) (lst 65 2161727821137838079) 61 = true ∧ (Region.ready .any (regOf 1 Tryz.f45) (lst 65 2161727821137838079)).contains 61 = true ∧ (lst 65 2161727821137838079).setIfInBounds 61 true = lst 65 4467570830351532031 := ⟨by kernel_rfl, by kernel_rfl, by kernel_rfl⟩

theorem wze_r4467570830351532031 : Region.ready .any (regOf 1 Tryz.f45) (lst 65 4467570830351532031) = [57] ∧ (lst 65 4467570830351532031).setIfInBounds 57 true = lst 65 4611686018427387903 := ⟨by kernel_rfl, by kernel_rfl⟩

theorem wze_r4611686018427387903 : Region.ready .any (regOf 1 Tryz.f45) (lst 65 4611686018427387903) = [62] ∧ (lst 65 4611686018427387903).setIfInBounds 62 true = lst 65 9223372036854775807 := ⟨by kernel_rfl, by kernel_rfl⟩

theorem wze_t9223372036854775807_63 : Region.free .any (regOf 1 Tryz.f45) (lst 65 9223372036854775807) 63 = true ∧ (Region.ready .any (regOf 1 Tryz.f45) (lst 65 9223372036854775807)).contains 63 = true ∧ (lst 65 9223372036854775807).setIfInBounds 63 true = lst 65 18446744073709551615 := ⟨by kernel_rfl, by kernel_rfl, by kernel_rfl⟩

theorem wze_t18446744073709551615_64 : Region.free .any (regOf 1 Tryz.f45) (lst 65 18446744073709551615) 64 = true ∧ (Region.ready .any (regOf 1 Tryz.f45) (lst 65 18446744073709551615)).contains 64 = true ∧ (lst 65 18446744073709551615).setIfInBounds 64 true = lst 65 36893488147419103231 := ⟨by kernel_rfl, by kernel_rfl, by kernel_rfl⟩

theorem wze_end : Region.ready .any (regOf 1 Tryz.f45) (lst 65 36893488147419103231) = [] := by kernel_rfl

end Go.Proofs.YthmecljkackmbaaGreat

/- The steps of a region of the pair's same. -/
namespace Go.Proofs.YthmecljkackmbaaGreat
open Go.RowKit
set_option linter.unusedVariables false

theorem wzf_new : Array.replicate 16 false = lst 16 0 := by kernel_rfl

theorem wzf_size : (regOf 6 Tryz.f45).size = 16 := by kernel_rfl

theorem wzf_t0_0 : Region.free .any (regOf 6 Tryz.f45) (lst 16 0) 0 = true ∧ (Region.ready .any (regOf 6 Tryz.f45) (lst 16 0)).contains 0 = true ∧ (lst 16 0).setIfInBounds 0 true = lst 16 1 := ⟨by kernel_rfl, by kernel_rfl, by kernel_rfl⟩

theorem wzf_t1_1 : Region.free .any (regOf 6 Tryz.f45) (lst 16 1) 1 = true ∧ (Region.ready .any (regOf 6 Tryz.f45) (lst 16 1)).contains 1 = true ∧ (lst 16 1).setIfInBounds 1 true = lst 16 3 := ⟨by kernel_rfl, by kernel_rfl, by kernel_rfl⟩

theorem wzf_t3_2 : Region.free .any (regOf 6 Tryz.f45) (lst 16 3) 2 = true ∧ (Region.ready .any (regOf 6 Tryz.f45) (lst 16 3)).contains 2 = true ∧ (lst 16 3).setIfInBounds 2 true = lst 16 7 := ⟨by kernel_rfl, by kernel_rfl, by kernel_rfl⟩

theorem wzf_t7_3 : Region.free .any (regOf 6 Tryz.f45) (lst 16 7) 3 = true ∧ (Region.ready .any (regOf 6 Tryz.f45) (lst 16 7)).contains 3 = true ∧ (lst 16 7).setIfInBounds 3 true = lst 16 15 := ⟨by kernel_rfl, by kernel_rfl, by kernel_rfl⟩

theorem wzf_t15_4 : Region.free .any (regOf 6 Tryz.f45) (lst 16 15) 4 = true ∧ (Region.ready .any (regOf 6 Tryz.f45) (lst 16 15)).contains 4 = true ∧ (lst 16 15).setIfInBounds 4 true = lst 16 31 := ⟨by kernel_rfl, by kernel_rfl, by kernel_rfl⟩

theorem wzf_t31_5 : Region.free .any (regOf 6 Tryz.f45) (lst 16 31) 5 = true ∧ (Region.ready .any (regOf 6 Tryz.f45) (lst 16 31)).contains 5 = true ∧ (lst 16 31).setIfInBounds 5 true = lst 16 63 := ⟨by kernel_rfl, by kernel_rfl, by kernel_rfl⟩

theorem wzf_t63_6 : Region.free .any (regOf 6 Tryz.f45) (lst 16 63) 6 = true ∧ (Region.ready .any (regOf 6 Tryz.f45) (lst 16 63)).contains 6 = true ∧ (lst 16 63).setIfInBounds 6 true = lst 16 127 := ⟨by kernel_rfl, by kernel_rfl, by kernel_rfl⟩

theorem wzf_t127_7 : Region.free .any (regOf 6 Tryz.f45) (lst 16 127) 7 = true ∧ (Region.ready .any (regOf 6 Tryz.f45) (lst 16 127)).contains 7 = true ∧ (lst 16 127).setIfInBounds 7 true = lst 16 255 := ⟨by kernel_rfl, by kernel_rfl, by kernel_rfl⟩

theorem wzf_r255 : Region.ready .any (regOf 6 Tryz.f45) (lst 16 255) = [8] ∧ (lst 16 255).setIfInBounds 8 true = lst 16 511 := ⟨by kernel_rfl, by kernel_rfl⟩

theorem wzf_t511_9 : Region.free .any (regOf 6 Tryz.f45) (lst 16 511) 9 = true ∧ (Region.ready .any (regOf 6 Tryz.f45) (lst 16 511)).contains 9 = true ∧ (lst 16 511).setIfInBounds 9 true = lst 16 1023 := ⟨by kernel_rfl, by kernel_rfl, by kernel_rfl⟩

theorem wzf_t1023_10 : Region.free .any (regOf 6 Tryz.f45) (lst 16 1023) 10 = true ∧ (Region.ready .any (regOf 6 Tryz.f45) (lst 16 1023)).contains 10 = true ∧ (lst 16 1023).setIfInBounds 10 true = lst 16 2047 := ⟨by kernel_rfl, by kernel_rfl, by kernel_rfl⟩

theorem wzf_t2047_11 : Region.free .any (regOf 6 Tryz.f45) (lst 16 2047) 11 = true ∧ (Region.ready .any (regOf 6 Tryz.f45) (lst 16 2047)).contains 11 = true ∧ (lst 16 2047).setIfInBounds 11 true = lst 16 4095 := ⟨by kernel_rfl, by kernel_rfl, by kernel_rfl⟩

theorem wzf_t4095_12 : Region.free .any (regOf 6 Tryz.f45) (lst 16 4095) 12 = true ∧ (Region.ready .any (regOf 6 Tryz.f45) (lst 16 4095)).contains 12 = true ∧ (lst 16 4095).setIfInBounds 12 true = lst 16 8191 := ⟨by kernel_rfl, by kernel_rfl, by kernel_rfl⟩

theorem wzf_t8191_13 : Region.free .any (regOf 6 Tryz.f45) (lst 16 8191) 13 = true ∧ (Region.ready .any (regOf 6 Tryz.f45) (lst 16 8191)).contains 13 = true ∧ (lst 16 8191).setIfInBounds 13 true = lst 16 16383 := ⟨by kernel_rfl, by kernel_rfl, by kernel_rfl⟩

theorem wzf_t16383_14 : Region.free .any (regOf 6 Tryz.f45) (lst 16 16383) 14 = true ∧ (Region.ready .any (regOf 6 Tryz.f45) (lst 16 16383)).contains 14 = true ∧ (lst 16 16383).setIfInBounds 14 true = lst 16 32767 := ⟨by kernel_rfl, by kernel_rfl, by kernel_rfl⟩

theorem wzf_t32767_15 : Region.free .any (regOf 6 Tryz.f45) (lst 16 32767) 15 = true ∧ (Region.ready .any (regOf 6 Tryz.f45) (lst 16 32767)).contains 15 = true ∧ (lst 16 32767).setIfInBounds 15 true = lst 16 65535 := ⟨by kernel_rfl, by kernel_rfl, by kernel_rfl⟩

theorem wzf_end : Region.ready .any (regOf 6 Tryz.f45) (lst 16 65535) = [] := by kernel_rfl

end Go.Proofs.YthmecljkackmbaaGreat

/- The steps of a region of the pair's same. -/
namespace Go.Proofs.YthmecljkackmbaaGreat
open Go.RowKit
set_option linter.unusedVariables false

theorem wzg_new : Array.replicate 16 false = lst 16 0 := by kernel_rfl

theorem wzg_size : (regOf 7 Tryz.f45).size = 16 := by kernel_rfl

theorem wzg_t0_0 : Region.free .any (regOf 7 Tryz.f45) (lst 16 0) 0 = true ∧ (Region.ready .any (regOf 7 Tryz.f45) (lst 16 0)).contains 0 = true ∧ (lst 16 0).setIfInBounds 0 true = lst 16 1 := ⟨by kernel_rfl, by kernel_rfl, by kernel_rfl⟩

theorem wzg_t1_1 : Region.free .any (regOf 7 Tryz.f45) (lst 16 1) 1 = true ∧ (Region.ready .any (regOf 7 Tryz.f45) (lst 16 1)).contains 1 = true ∧ (lst 16 1).setIfInBounds 1 true = lst 16 3 := ⟨by kernel_rfl, by kernel_rfl, by kernel_rfl⟩

theorem wzg_t3_2 : Region.free .any (regOf 7 Tryz.f45) (lst 16 3) 2 = true ∧ (Region.ready .any (regOf 7 Tryz.f45) (lst 16 3)).contains 2 = true ∧ (lst 16 3).setIfInBounds 2 true = lst 16 7 := ⟨by kernel_rfl, by kernel_rfl, by kernel_rfl⟩

theorem wzg_t7_3 : Region.free .any (regOf 7 Tryz.f45) (lst 16 7) 3 = true ∧ (Region.ready .any (regOf 7 Tryz.f45) (lst 16 7)).contains 3 = true ∧ (lst 16 7).setIfInBounds 3 true = lst 16 15 := ⟨by kernel_rfl, by kernel_rfl, by kernel_rfl⟩

theorem wzg_t15_4 : Region.free .any (regOf 7 Tryz.f45) (lst 16 15) 4 = true ∧ (Region.ready .any (regOf 7 Tryz.f45) (lst 16 15)).contains 4 = true ∧ (lst 16 15).setIfInBounds 4 true = lst 16 31 := ⟨by kernel_rfl, by kernel_rfl, by kernel_rfl⟩

theorem wzg_t31_5 : Region.free .any (regOf 7 Tryz.f45) (lst 16 31) 5 = true ∧ (Region.ready .any (regOf 7 Tryz.f45) (lst 16 31)).contains 5 = true ∧ (lst 16 31).setIfInBounds 5 true = lst 16 63 := ⟨by kernel_rfl, by kernel_rfl, by kernel_rfl⟩

theorem wzg_t63_6 : Region.free .any (regOf 7 Tryz.f45) (lst 16 63) 6 = true ∧ (Region.ready .any (regOf 7 Tryz.f45) (lst 16 63)).contains 6 = true ∧ (lst 16 63).setIfInBounds 6 true = lst 16 127 := ⟨by kernel_rfl, by kernel_rfl, by kernel_rfl⟩

theorem wzg_t127_7 : Region.free .any (regOf 7 Tryz.f45) (lst 16 127) 7 = true ∧ (Region.ready .any (regOf 7 Tryz.f45) (lst 16 127)).contains 7 = true ∧ (lst 16 127).setIfInBounds 7 true = lst 16 255 := ⟨by kernel_rfl, by kernel_rfl, by kernel_rfl⟩

theorem wzg_r255 : Region.ready .any (regOf 7 Tryz.f45) (lst 16 255) = [8] ∧ (lst 16 255).setIfInBounds 8 true = lst 16 511 := ⟨by kernel_rfl, by kernel_rfl⟩

theorem wzg_t511_9 : Region.free .any (regOf 7 Tryz.f45) (lst 16 511) 9 = true ∧ (Region.ready .any (regOf 7 Tryz.f45) (lst 16 511)).contains 9 = true ∧ (lst 16 511).setIfInBounds 9 true = lst 16 1023 := ⟨by kernel_rfl, by kernel_rfl, by kernel_rfl⟩

theorem wzg_t1023_10 : Region.free .any (regOf 7 Tryz.f45) (lst 16 1023) 10 = true ∧ (Region.ready .any (regOf 7 Tryz.f45) (lst 16 1023)).contains 10 = true ∧ (lst 16 1023).setIfInBounds 10 true = lst 16 2047 := ⟨by kernel_rfl, by kernel_rfl, by kernel_rfl⟩

theorem wzg_t2047_11 : Region.free .any (regOf 7 Tryz.f45) (lst 16 2047) 11 = true ∧ (Region.ready .any (regOf 7 Tryz.f45) (lst 16 2047)).contains 11 = true ∧ (lst 16 2047).setIfInBounds 11 true = lst 16 4095 := ⟨by kernel_rfl, by kernel_rfl, by kernel_rfl⟩

theorem wzg_t4095_12 : Region.free .any (regOf 7 Tryz.f45) (lst 16 4095) 12 = true ∧ (Region.ready .any (regOf 7 Tryz.f45) (lst 16 4095)).contains 12 = true ∧ (lst 16 4095).setIfInBounds 12 true = lst 16 8191 := ⟨by kernel_rfl, by kernel_rfl, by kernel_rfl⟩

theorem wzg_t8191_13 : Region.free .any (regOf 7 Tryz.f45) (lst 16 8191) 13 = true ∧ (Region.ready .any (regOf 7 Tryz.f45) (lst 16 8191)).contains 13 = true ∧ (lst 16 8191).setIfInBounds 13 true = lst 16 16383 := ⟨by kernel_rfl, by kernel_rfl, by kernel_rfl⟩

theorem wzg_t16383_14 : Region.free .any (regOf 7 Tryz.f45) (lst 16 16383) 14 = true ∧ (Region.ready .any (regOf 7 Tryz.f45) (lst 16 16383)).contains 14 = true ∧ (lst 16 16383).setIfInBounds 14 true = lst 16 32767 := ⟨by kernel_rfl, by kernel_rfl, by kernel_rfl⟩

theorem wzg_t32767_15 : Region.free .any (regOf 7 Tryz.f45) (lst 16 32767) 15 = true ∧ (Region.ready .any (regOf 7 Tryz.f45) (lst 16 32767)).contains 15 = true ∧ (lst 16 32767).setIfInBounds 15 true = lst 16 65535 := ⟨by kernel_rfl, by kernel_rfl, by kernel_rfl⟩

theorem wzg_end : Region.ready .any (regOf 7 Tryz.f45) (lst 16 65535) = [] := by kernel_rfl

end Go.Proofs.YthmecljkackmbaaGreat

/- The pair: do both tell the same? -/
namespace Go.Proofs.YthmecljkackmbaaGreat
open Go.RowKit
open Bm (Ov)
set_option linter.unusedVariables false

set_option maxRecDepth 20000 in
set_option maxHeartbeats 20000000 in
theorem rsame_any (w0 : World) (r : Nat) (w : World) (s : Rl.Rs) (p q x y : Nat) (F G : Nat → Prop) (h : RP w0 r w s s p q x y F G) (hb : RBig s) (hl : (Rl.ops s.l).length ≤ 900000) (gv : Value) (ks : List ByteArray) (hk : IsS w gv ks) (hkl : ks.length ≤ 20) :
    Calls Tryz.prog 45 #[.pointer (some ⟨r, 0, none⟩), gv] w fun E w' => E = .returned (.bool true) ∧ Below w.heap.size w w' := by
  have HV := hide h
  have HC : Hid (∀ W, Below w.heap.size w W → W.cell? ⟨r, 0, none⟩ = some (.pointer (some ⟨q, 0, none⟩)) ∧ W.cell? ⟨r, 1, none⟩ = some (.pointer (some ⟨p, 0, none⟩)) ∧ W.cell? ⟨r, 2, none⟩ = some (.pointer (some ⟨y, 0, none⟩)) ∧ W.cell? ⟨r, 3, none⟩ = some (.pointer (some ⟨x, 0, none⟩))) := hide fun W hW => (h.below hW).cells
  obtain ⟨F1, G1, h1, h2, hF⟩ := id h.ww
  obtain ⟨F3, v, rs, g1, g2, g3, hG⟩ := id h.xx
  have hd := hb.big
  have HDU : Hid ((duB s.d 2).length ≤ 100000000) := hide (by
    have h3 : duB s.d 2 = s.d.sure 2 := rfl
    rw [h3]
    exact Nat.le_trans (Nat.le_add_right _ _) (hd.1.1 2))
  have E1 : Hid (∀ W, Below w.heap.size w W → Calls Tryz.prog 40 #[.pointer (some ⟨p, 0, none⟩)] W fun E w' => E = .returned (.int .i64 (Cm.lastN 0 s.l)) ∧ Below w.heap.size w w') := hide fun W hW => by
    refine (hrend_any p q F W s (HV.out.ww.below hW)).mono ?_
    rintro E w' ⟨rfl, rfl⟩
    exact ⟨rfl, hW⟩
  have E2 : Hid (∀ W, Below w.heap.size w W → Calls Tryz.prog 70 #[.pointer (some ⟨x, 0, none⟩)] W fun E w' => E = .returned (.int .i64 (Cm.lastN 0 s.l)) ∧ Below w.heap.size w w') := hide fun W hW => by
    refine (xend_any x y W s.l s.bk v rs (g2.below hW)).mono ?_
    rintro E w' ⟨rfl, m, rfl⟩
    exact ⟨rfl, below_drewN hW m⟩
  have L1 : Hid (∀ W, Below w.heap.size w W → Calls Tryz.prog 46 #[.pointer (some ⟨p, 0, none⟩)] W fun E w' => ∃ v' rs', E = .returned v' ∧ Rq W.heap.size w' s.l v' rs' ∧ Below W.heap.size W w' ∧ Below w.heap.size w w') := hide fun W hW => by
    refine (hlist_any p q F W s (HV.out.ww.below hW)).mono ?_
    rintro E w' ⟨v', rs', rfl, a1, a2, a3⟩
    exact ⟨v', rs', rfl, a1, a3, hW.trans (a3.mono hW.size)⟩
  have L2 : Hid (∀ W, Below w.heap.size w W → Calls Tryz.prog 105 #[.pointer (some ⟨x, 0, none⟩)] W fun E w' => ∃ v' rs', E = .returned v' ∧ Rq W.heap.size w' s.l v' rs' ∧ Below W.heap.size W w' ∧ Below w.heap.size w w') := hide fun W hW => by
    refine (xlist_any x y W s.l s.bk v rs (g2.below hW)).mono ?_
    rintro E w' ⟨v', rs', rfl, a1, a3⟩
    exact ⟨v', rs', rfl, a1, a3, hW.trans (a3.mono hW.size)⟩
  have U1 : Hid (∀ W, Below w.heap.size w W → Calls Tryz.prog 106 #[.pointer (some ⟨q, 0, none⟩), .int .i64 2] W fun E w' => ∃ v, E = .returned v ∧ Own .u8 5 W.heap.size w' v (duB s.d 2) ∧ Below W.heap.size W w' ∧ Below w.heap.size w w') := hide fun W hW => by
    refine (durable_any q F1 W s.d 2 (h1.below hW) (fun f => Nat.le_trans (hd.1.1 f) (by decide))).mono ?_
    rintro E w' ⟨v', rfl, a1, a3⟩
    exact ⟨v', rfl, a1, a3, hW.trans (a3.mono hW.size)⟩
  have U2 : Hid (∀ W, Below w.heap.size w W → Calls Tryz.prog 107 #[.pointer (some ⟨y, 0, none⟩), .int .i64 2] W fun E w' => ∃ v, E = .returned v ∧ Own .u8 5 W.heap.size w' v (duB s.d 2) ∧ Below W.heap.size W w' ∧ Below w.heap.size w w') := hide fun W hW => by
    refine (durR_any y F3 W s.d 2 (g1.below hW) (fun f => Nat.le_trans (hd.1.1 f) (by decide))).mono ?_
    rintro E w' ⟨v', rfl, a1, a3⟩
    exact ⟨v', rfl, a1, a3, hW.trans (a3.mono hW.size)⟩
  have P3 : Hid (∀ W, Below w.heap.size w W → Calls Tryz.prog 108 #[.pointer (some ⟨q, 0, none⟩)] W fun E w' => E = .returned (.bool s.d.on) ∧ Below w.heap.size w w') := hide fun W hW => by
    refine (on_any q F1 W s.d (h1.below hW)).mono ?_
    rintro E w' ⟨rfl, rfl⟩
    exact ⟨rfl, hW⟩
  have P4 : Hid (∀ W, Below w.heap.size w W → Calls Tryz.prog 109 #[.pointer (some ⟨y, 0, none⟩)] W fun E w' => E = .returned (.bool s.d.on) ∧ Below w.heap.size w w') := hide fun W hW => by
    refine (onR_any y F3 W s.d (g1.below hW)).mono ?_
    rintro E w' ⟨rfl, rfl⟩
    exact ⟨rfl, hW⟩
  have P5 : Hid (∀ W, Below w.heap.size w W → Calls Tryz.prog 32 #[.pointer (some ⟨q, 0, none⟩)] W fun E w' => E = .returned (.int .i64 s.d.count) ∧ Below w.heap.size w w') := hide fun W hW => by
    refine (steps_any q F1 W s.d (h1.below hW)).mono ?_
    rintro E w' ⟨rfl, rfl⟩
    exact ⟨rfl, hW⟩
  have P6 : Hid (∀ W, Below w.heap.size w W → Calls Tryz.prog 33 #[.pointer (some ⟨y, 0, none⟩)] W fun E w' => E = .returned (.int .i64 s.d.count) ∧ Below w.heap.size w w') := hide fun W hW => by
    refine (stepsR_any y F3 W s.d (g1.below hW)).mono ?_
    rintro E w' ⟨rfl, rfl⟩
    exact ⟨rfl, hW⟩
  have KG : Hid (∀ W key, Below w.heap.size w W → Calls Tryz.prog 95 #[.pointer (some ⟨p, 0, none⟩), .string key] W fun E w' => E = .returned (.tuple #[.string (Go.Proofs.YthmecljkackmbaaGreat.gv (Rl.tab s.l) key), .bool (Tm.met (Rl.tab s.l) key), .bool (gp (Rl.tab s.l) key)]) ∧ Below W.heap.size W w') := hide fun W key hW => by
    exact hget_any p q F W s key (HV.out.ww.below hW)
  have KH : Hid (∀ W key, Below w.heap.size w W → Calls Tryz.prog 110 #[.pointer (some ⟨x, 0, none⟩), .string key] W fun E w' => E = .returned (.tuple #[.string (Go.Proofs.YthmecljkackmbaaGreat.gv (Rl.tab s.l) key), .bool (Tm.met (Rl.tab s.l) key), .bool (gp (Rl.tab s.l) key)]) ∧ Below W.heap.size W w') := hide fun W key hW => by
    exact xget_any x y W s.l s.bk v rs key (g2.below hW) hl
  obtain ⟨ga, gk, hgv, _, _⟩ := hk.shape
  have HK0 := hide hk
  subst hgv
  generalize Cm.lastN 0 s.l = le at *
  generalize s.d.count = cn at *
  generalize s.d.on = on at *
  have hle : (le != le) = false := by simp
  have hcn : ((cn : Int) != (cn : Int)) = false := by simp
  have hon : (on != on) = false := by simp
  clear h h1 h2 hF g1 g2 g3 hG hd hb hl HV
  go_enter Tryz.func45, Tryz.ntmps45
  go_wp2_with fail
  obtain ⟨W0, hW0⟩ : ∃ x, w.drew = x := ⟨_, rfl⟩
  have bel0 : Below w.heap.size w W0 := by rw [← hW0]; exact (Below.refl _ _).drew
  refine region_any (ops := (regOf 1 Tryz.f45)) (S := fun W => W.cell? ⟨r, 0, none⟩ = some (.pointer (some ⟨q, 0, none⟩)) ∧ W.cell? ⟨r, 1, none⟩ = some (.pointer (some ⟨p, 0, none⟩)) ∧ W.cell? ⟨r, 2, none⟩ = some (.pointer (some ⟨y, 0, none⟩)) ∧ W.cell? ⟨r, 3, none⟩ = some (.pointer (some ⟨x, 0, none⟩))) (by kernel_rfl) wze_size ?_
  rw [wze_new, hW0]
  refine any_take (v := ?_) wze_t0_0 (by kernel_rfl) (fun _ _ _ _ _ h => h) (HC.out _ bel0) rfl rfl (by rfl) ?_ ?_
  rotate_left 1
  · intro w hS
    (try dsimp only at hS)
    go_simp
    all_goals with_reducible rfl
  simp only [Act.put, List.setIfInBounds_toArray, List.set_cons_zero, List.set_cons_succ]
  refine any_take (v := ?_) wze_t1_1 (by kernel_rfl) (fun _ _ _ _ _ h => h) (HC.out _ bel0) rfl rfl (by rfl) ?_ ?_
  rotate_left 1
  · intro w hS
    (try dsimp only at hS)
    go_simp
    all_goals with_reducible rfl
  simp only [Act.put, List.setIfInBounds_toArray, List.set_cons_zero, List.set_cons_succ]
  refine any_take (v := ?_) wze_t3_2 (by kernel_rfl) (fun _ _ _ _ _ h => h) (HC.out _ bel0) rfl rfl (by rfl) ?_ ?_
  rotate_left 1
  · intro w hS
    (try dsimp only at hS)
    go_simp
    all_goals with_reducible rfl
  simp only [Act.put, List.setIfInBounds_toArray, List.set_cons_zero, List.set_cons_succ]
  refine any_take (v := ?_) wze_t7_3 (by kernel_rfl) (fun _ _ _ _ _ h => h) (HC.out _ bel0) rfl rfl (by rfl) ?_ ?_
  rotate_left 1
  · intro w hS
    (try dsimp only at hS)
    go_simp
    all_goals with_reducible rfl
  simp only [Act.put, List.setIfInBounds_toArray, List.set_cons_zero, List.set_cons_succ]
  refine any_take (v := ?_) wze_t15_5 (by kernel_rfl) (fun _ _ _ _ _ h => h) (HC.out _ bel0) rfl rfl (by rfl) ?_ ?_
  rotate_left 1
  · intro w hS
    (try dsimp only at hS)
    go_simp
    all_goals with_reducible rfl
  simp only [Act.put, List.setIfInBounds_toArray, List.set_cons_zero, List.set_cons_succ]
  refine any_take (v := ?_) wze_t47_6 (by kernel_rfl) (fun _ _ _ _ _ h => h) (HC.out _ bel0) rfl rfl (by rfl) ?_ ?_
  rotate_left 1
  · intro w hS
    (try dsimp only at hS)
    go_simp
    all_goals with_reducible rfl
  simp only [Act.put, List.setIfInBounds_toArray, List.set_cons_zero, List.set_cons_succ]
  refine any_take (v := ?_) wze_t111_7 (by kernel_rfl) (fun _ _ _ _ _ h => h) (HC.out _ bel0) rfl rfl (by rfl) ?_ ?_
  rotate_left 1
  · intro w hS
    (try dsimp only at hS)
    go_simp
    all_goals with_reducible rfl
  simp only [Act.put, List.setIfInBounds_toArray, List.set_cons_zero, List.set_cons_succ]
  refine any_take (v := ?_) wze_t239_8 (by kernel_rfl) (fun _ _ _ _ _ h => h) (HC.out _ bel0) rfl rfl (by rfl) ?_ ?_
  rotate_left 1
  · intro w hS
    (try dsimp only at hS)
    go_simp
    all_goals with_reducible rfl
  simp only [Act.put, List.setIfInBounds_toArray, List.set_cons_zero, List.set_cons_succ]
  refine any_one wze_r495 ?_
  refine any_op rfl (by rfl) (fun K hK => ?_)
  go_simp
  refine (E1.out _ bel0).mono ?_
  rintro E W1 ⟨rfl, bel1⟩
  go_wp2_with fail
  refine hK.out _ _ (HC.out _ bel1) ?_
  clear hK K
  try simp only [Act.put, List.setIfInBounds_toArray, List.set_cons_zero, List.set_cons_succ]
  refine any_one wze_r511 ?_
  refine any_op rfl (by rfl) (fun K hK => ?_)
  go_simp
  refine (E2.out _ bel1).mono ?_
  rintro E W2 ⟨rfl, bel2⟩
  go_wp2_with fail
  refine hK.out _ _ (HC.out _ bel2) ?_
  clear hK K
  try simp only [Act.put, List.setIfInBounds_toArray, List.set_cons_zero, List.set_cons_succ]
  refine any_take (v := ?_) wze_t1023_10 (by kernel_rfl) (fun _ _ _ _ _ h => h) (HC.out _ bel2) rfl rfl (by rfl) ?_ ?_
  rotate_left 1
  · intro w hS
    (try dsimp only at hS)
    go_simp
    all_goals with_reducible rfl
  simp only [Act.put, List.setIfInBounds_toArray, List.set_cons_zero, List.set_cons_succ]
  refine any_take (v := ?_) wze_t2047_11 (by kernel_rfl) (fun _ _ _ _ _ h => h) (HC.out _ bel2) rfl rfl (by rfl) ?_ ?_
  rotate_left 1
  · intro w hS
    (try dsimp only at hS)
    go_simp
    all_goals with_reducible rfl
  simp only [Act.put, List.setIfInBounds_toArray, List.set_cons_zero, List.set_cons_succ]
  refine any_take (v := ?_) wze_t4095_12 (by kernel_rfl) (fun _ _ _ _ _ h => h) (HC.out _ bel2) rfl rfl (by rfl) ?_ ?_
  rotate_left 1
  · intro w hS
    (try dsimp only at hS)
    go_simp
    all_goals with_reducible rfl
  simp only [Act.put, List.setIfInBounds_toArray, List.set_cons_zero, List.set_cons_succ]
  refine any_take (v := ?_) wze_t8191_13 (by kernel_rfl) (fun _ _ _ _ _ h => h) (HC.out _ bel2) rfl rfl (by rfl) ?_ ?_
  rotate_left 1
  · intro w hS
    (try dsimp only at hS)
    go_simp
    all_goals with_reducible rfl
  simp only [Act.put, List.setIfInBounds_toArray, List.set_cons_zero, List.set_cons_succ]
  refine any_take (v := ?_) wze_t16383_14 (by kernel_rfl) (fun _ _ _ _ _ h => h) (HC.out _ bel2) rfl rfl (by rfl) ?_ ?_
  rotate_left 1
  · intro w hS
    (try dsimp only at hS)
    go_simp
    all_goals with_reducible rfl
  simp only [Act.put, List.setIfInBounds_toArray, List.set_cons_zero, List.set_cons_succ]
  refine any_take (v := ?_) wze_t32767_15 (by kernel_rfl) (fun _ _ _ _ _ h => h) (HC.out _ bel2) rfl rfl (by rfl) ?_ ?_
  rotate_left 1
  · intro w hS
    (try dsimp only at hS)
    go_simp
    all_goals with_reducible rfl
  simp only [Act.put, List.setIfInBounds_toArray, List.set_cons_zero, List.set_cons_succ]
  refine any_take (v := ?_) wze_t65535_17 (by kernel_rfl) (fun _ _ _ _ _ h => h) (HC.out _ bel2) rfl rfl (by rfl) ?_ ?_
  rotate_left 1
  · intro w hS
    (try dsimp only at hS)
    go_simp
    all_goals with_reducible rfl
  simp only [Act.put, List.setIfInBounds_toArray, List.set_cons_zero, List.set_cons_succ]
  refine any_take (v := ?_) wze_t196607_18 (by kernel_rfl) (fun _ _ _ _ _ h => h) (HC.out _ bel2) rfl rfl (by rfl) ?_ ?_
  rotate_left 1
  · intro w hS
    (try dsimp only at hS)
    go_simp
    all_goals with_reducible rfl
  simp only [Act.put, List.setIfInBounds_toArray, List.set_cons_zero, List.set_cons_succ]
  refine any_take (v := ?_) wze_t458751_19 (by kernel_rfl) (fun _ _ _ _ _ h => h) (HC.out _ bel2) rfl rfl (by rfl) ?_ ?_
  rotate_left 1
  · intro w hS
    (try dsimp only at hS)
    go_simp
    all_goals with_reducible rfl
  simp only [Act.put, List.setIfInBounds_toArray, List.set_cons_zero, List.set_cons_succ]
  refine any_take (v := ?_) wze_t983039_20 (by kernel_rfl) (fun _ _ _ _ _ h => h) (HC.out _ bel2) rfl rfl (by rfl) ?_ ?_
  rotate_left 1
  · intro w hS
    (try dsimp only at hS)
    go_simp
    all_goals with_reducible rfl
  simp only [Act.put, List.setIfInBounds_toArray, List.set_cons_zero, List.set_cons_succ]
  refine any_one wze_r2031615 ?_
  refine any_op rfl (by rfl) (fun K hK => ?_)
  go_simp
  refine (L1.out _ bel2).mono ?_
  rintro E W3 ⟨v1, rs1, rfl, Q1, kp1, bel3⟩
  obtain ⟨xa1, xn1, xk1, hx1⟩ : ∃ a n k, v1 = .slice a n k := by
    obtain ⟨a1, k1, h1, _⟩ := Q1.row.row.shape
    exact ⟨a1, _, k1, h1⟩
  subst hx1
  go_wp2_with fail
  refine hK.out _ _ (HC.out _ bel3) ?_
  clear hK K
  try simp only [Act.put, List.setIfInBounds_toArray, List.set_cons_zero, List.set_cons_succ]
  refine any_one wze_r2097151 ?_
  refine any_op rfl (by rfl) (fun K hK => ?_)
  go_simp
  refine (L2.out _ bel3).mono ?_
  rintro E W4 ⟨v2, rs2, rfl, Q2, kp2, bel4⟩
  obtain ⟨xa2, xn2, xk2, hx2⟩ : ∃ a n k, v2 = .slice a n k := by
    obtain ⟨a1, k1, h1, _⟩ := Q2.row.row.shape
    exact ⟨a1, _, k1, h1⟩
  subst hx2
  go_wp2_with fail
  refine hK.out _ _ (HC.out _ bel4) ?_
  clear hK K
  try simp only [Act.put, List.setIfInBounds_toArray, List.set_cons_zero, List.set_cons_succ]
  refine any_one wze_r4194303 ?_
  have SR := hide (sameRs_any _ _ rs1 rs2 _ (Q1.below kp2).isc Q2.isc Q1.fit Q2.fit (Nat.le_trans Q1.len_le (by decide)) (Nat.le_trans Q2.len_le (by decide)))
  rw [Q1.is, Q2.is, sameV_self] at SR
  refine any_op rfl (by rfl) (fun K hK => ?_)
  go_simp
  refine SR.out.mono ?_
  rintro E W5 ⟨rfl, kk⟩
  have bel5 := bel4.trans (kk.mono bel4.size)
  clear SR Q1 Q2 kp1 kp2 kk
  go_wp2_with fail
  refine hK.out _ _ (HC.out _ bel5) ?_
  clear hK K
  try simp only [Act.put, List.setIfInBounds_toArray, List.set_cons_zero, List.set_cons_succ]
  refine any_take (v := ?_) wze_t8388607_23 (by kernel_rfl) (fun _ _ _ _ _ h => h) (HC.out _ bel5) rfl rfl (by rfl) ?_ ?_
  rotate_left 1
  · intro w hS
    (try dsimp only at hS)
    go_simp
    all_goals with_reducible rfl
  simp only [Act.put, List.setIfInBounds_toArray, List.set_cons_zero, List.set_cons_succ]
  refine any_take (v := ?_) wze_t16777215_24 (by kernel_rfl) (fun _ _ _ _ _ h => h) (HC.out _ bel5) rfl rfl (by rfl) ?_ ?_
  rotate_left 1
  · intro w hS
    (try dsimp only at hS)
    go_simp
    all_goals with_reducible rfl
  simp only [Act.put, List.setIfInBounds_toArray, List.set_cons_zero, List.set_cons_succ]
  refine any_take (v := ?_) wze_t33554431_25 (by kernel_rfl) (fun _ _ _ _ _ h => h) (HC.out _ bel5) rfl rfl (by rfl) ?_ ?_
  rotate_left 1
  · intro w hS
    (try dsimp only at hS)
    go_simp
    all_goals with_reducible rfl
  simp only [Act.put, List.setIfInBounds_toArray, List.set_cons_zero, List.set_cons_succ]
  refine any_take (v := ?_) wze_t67108863_26 (by kernel_rfl) (fun _ _ _ _ _ h => h) (HC.out _ bel5) rfl rfl (by rfl) ?_ ?_
  rotate_left 1
  · intro w hS
    (try dsimp only at hS)
    go_simp
    all_goals with_reducible rfl
  simp only [Act.put, List.setIfInBounds_toArray, List.set_cons_zero, List.set_cons_succ]
  refine any_take (v := ?_) wze_t134217727_27 (by kernel_rfl) (fun _ _ _ _ _ h => h) (HC.out _ bel5) rfl rfl (by rfl) ?_ ?_
  rotate_left 1
  · intro w hS
    (try dsimp only at hS)
    go_simp
    all_goals with_reducible rfl
  simp only [Act.put, List.setIfInBounds_toArray, List.set_cons_zero, List.set_cons_succ]
  refine any_take (v := ?_) wze_t268435455_28 (by kernel_rfl) (fun _ _ _ _ _ h => h) (HC.out _ bel5) rfl rfl (by rfl) ?_ ?_
  rotate_left 1
  · intro w hS
    (try dsimp only at hS)
    go_simp
    all_goals with_reducible rfl
  simp only [Act.put, List.setIfInBounds_toArray, List.set_cons_zero, List.set_cons_succ]
  refine any_take (v := ?_) wze_t536870911_29 (by kernel_rfl) (fun _ _ _ _ _ h => h) (HC.out _ bel5) rfl rfl (by rfl) ?_ ?_
  rotate_left 1
  · intro w hS
    (try dsimp only at hS)
    go_simp
    all_goals with_reducible rfl
  simp only [Act.put, List.setIfInBounds_toArray, List.set_cons_zero, List.set_cons_succ]
  refine any_take (v := ?_) wze_t1073741823_31 (by kernel_rfl) (fun _ _ _ _ _ h => h) (HC.out _ bel5) rfl rfl (by rfl) ?_ ?_
  rotate_left 1
  · intro w hS
    (try dsimp only at hS)
    go_simp
    all_goals with_reducible rfl
  simp only [Act.put, List.setIfInBounds_toArray, List.set_cons_zero, List.set_cons_succ]
  refine any_take (v := ?_) wze_t3221225471_32 (by kernel_rfl) (fun _ _ _ _ _ h => h) (HC.out _ bel5) rfl rfl (by rfl) ?_ ?_
  rotate_left 1
  · intro w hS
    (try dsimp only at hS)
    go_simp
    all_goals with_reducible rfl
  simp only [Act.put, List.setIfInBounds_toArray, List.set_cons_zero, List.set_cons_succ]
  refine any_take (v := ?_) wze_t7516192767_33 (by kernel_rfl) (fun _ _ _ _ _ h => h) (HC.out _ bel5) rfl rfl (by rfl) ?_ ?_
  rotate_left 1
  · intro w hS
    (try dsimp only at hS)
    go_simp
    all_goals with_reducible rfl
  simp only [Act.put, List.setIfInBounds_toArray, List.set_cons_zero, List.set_cons_succ]
  refine any_take (v := ?_) wze_t16106127359_34 (by kernel_rfl) (fun _ _ _ _ _ h => h) (HC.out _ bel5) rfl rfl (by rfl) ?_ ?_
  rotate_left 1
  · intro w hS
    (try dsimp only at hS)
    go_simp
    all_goals with_reducible rfl
  simp only [Act.put, List.setIfInBounds_toArray, List.set_cons_zero, List.set_cons_succ]
  refine any_one wze_r33285996543 ?_
  refine any_op rfl (by rfl) (fun K hK => ?_)
  go_simp
  refine (U1.out _ bel5).mono ?_
  rintro E W6 ⟨v3, rfl, Q3, kp3, bel6⟩
  obtain ⟨xa3, xk3, hx3, _, _⟩ := Q3.is.shape
  subst hx3
  go_wp2_with fail
  refine hK.out _ _ (HC.out _ bel6) ?_
  clear hK K
  try simp only [Act.put, List.setIfInBounds_toArray, List.set_cons_zero, List.set_cons_succ]
  refine any_one wze_r34359738367 ?_
  refine any_op rfl (by rfl) (fun K hK => ?_)
  go_simp
  refine (U2.out _ bel6).mono ?_
  rintro E W7 ⟨v4, rfl, Q4, kp4, bel7⟩
  obtain ⟨xa4, xk4, hx4, _, _⟩ := Q4.is.shape
  subst hx4
  go_wp2_with fail
  refine hK.out _ _ (HC.out _ bel7) ?_
  clear hK K
  try simp only [Act.put, List.setIfInBounds_toArray, List.set_cons_zero, List.set_cons_succ]
  refine any_one wze_r68719476735 ?_
  have SB := hide (same_yes _ _ _ _ _ (Q3.below kp4).is Q4.is (by have := HDU.out; omega) rfl)
  refine any_op rfl (by rfl) (fun K hK => ?_)
  go_simp
  refine SB.out.mono ?_
  rintro E W8 ⟨rfl, kk⟩
  have bel8 := bel7.trans (kk.mono bel7.size)
  clear SB Q3 Q4 kp3 kp4 kk
  go_wp2_with fail
  refine hK.out _ _ (HC.out _ bel8) ?_
  clear hK K
  try simp only [Act.put, List.setIfInBounds_toArray, List.set_cons_zero, List.set_cons_succ]
  refine any_take (v := ?_) wze_t137438953471_37 (by kernel_rfl) (fun _ _ _ _ _ h => h) (HC.out _ bel8) rfl rfl (by rfl) ?_ ?_
  rotate_left 1
  · intro w hS
    (try dsimp only at hS)
    go_simp
    all_goals with_reducible rfl
  simp only [Act.put, List.setIfInBounds_toArray, List.set_cons_zero, List.set_cons_succ]
  refine any_take (v := ?_) wze_t274877906943_38 (by kernel_rfl) (fun _ _ _ _ _ h => h) (HC.out _ bel8) rfl rfl (by rfl) ?_ ?_
  rotate_left 1
  · intro w hS
    (try dsimp only at hS)
    go_simp
    all_goals with_reducible rfl
  simp only [Act.put, List.setIfInBounds_toArray, List.set_cons_zero, List.set_cons_succ]
  refine any_take (v := ?_) wze_t549755813887_39 (by kernel_rfl) (fun _ _ _ _ _ h => h) (HC.out _ bel8) rfl rfl (by rfl) ?_ ?_
  rotate_left 1
  · intro w hS
    (try dsimp only at hS)
    go_simp
    all_goals with_reducible rfl
  simp only [Act.put, List.setIfInBounds_toArray, List.set_cons_zero, List.set_cons_succ]
  refine any_take (v := ?_) wze_t1099511627775_40 (by kernel_rfl) (fun _ _ _ _ _ h => h) (HC.out _ bel8) rfl rfl (by rfl) ?_ ?_
  rotate_left 1
  · intro w hS
    (try dsimp only at hS)
    go_simp
    all_goals with_reducible rfl
  simp only [Act.put, List.setIfInBounds_toArray, List.set_cons_zero, List.set_cons_succ]
  refine any_take (v := ?_) wze_t2199023255551_41 (by kernel_rfl) (fun _ _ _ _ _ h => h) (HC.out _ bel8) rfl rfl (by rfl) ?_ ?_
  rotate_left 1
  · intro w hS
    (try dsimp only at hS)
    go_simp
    all_goals with_reducible rfl
  simp only [Act.put, List.setIfInBounds_toArray, List.set_cons_zero, List.set_cons_succ]
  refine any_take (v := ?_) wze_t4398046511103_42 (by kernel_rfl) (fun _ _ _ _ _ h => h) (HC.out _ bel8) rfl rfl (by rfl) ?_ ?_
  rotate_left 1
  · intro w hS
    (try dsimp only at hS)
    go_simp
    all_goals with_reducible rfl
  simp only [Act.put, List.setIfInBounds_toArray, List.set_cons_zero, List.set_cons_succ]
  refine any_take (v := ?_) wze_t8796093022207_43 (by kernel_rfl) (fun _ _ _ _ _ h => h) (HC.out _ bel8) rfl rfl (by rfl) ?_ ?_
  rotate_left 1
  · intro w hS
    (try dsimp only at hS)
    go_simp
    all_goals with_reducible rfl
  simp only [Act.put, List.setIfInBounds_toArray, List.set_cons_zero, List.set_cons_succ]
  refine any_take (v := ?_) wze_t17592186044415_45 (by kernel_rfl) (fun _ _ _ _ _ h => h) (HC.out _ bel8) rfl rfl (by rfl) ?_ ?_
  rotate_left 1
  · intro w hS
    (try dsimp only at hS)
    go_simp
    all_goals with_reducible rfl
  simp only [Act.put, List.setIfInBounds_toArray, List.set_cons_zero, List.set_cons_succ]
  refine any_take (v := ?_) wze_t52776558133247_46 (by kernel_rfl) (fun _ _ _ _ _ h => h) (HC.out _ bel8) rfl rfl (by rfl) ?_ ?_
  rotate_left 1
  · intro w hS
    (try dsimp only at hS)
    go_simp
    all_goals with_reducible rfl
  simp only [Act.put, List.setIfInBounds_toArray, List.set_cons_zero, List.set_cons_succ]
  refine any_take (v := ?_) wze_t123145302310911_47 (by kernel_rfl) (fun _ _ _ _ _ h => h) (HC.out _ bel8) rfl rfl (by rfl) ?_ ?_
  rotate_left 1
  · intro w hS
    (try dsimp only at hS)
    go_simp
    all_goals with_reducible rfl
  simp only [Act.put, List.setIfInBounds_toArray, List.set_cons_zero, List.set_cons_succ]
  refine any_take (v := ?_) wze_t263882790666239_48 (by kernel_rfl) (fun _ _ _ _ _ h => h) (HC.out _ bel8) rfl rfl (by rfl) ?_ ?_
  rotate_left 1
  · intro w hS
    (try dsimp only at hS)
    go_simp
    all_goals with_reducible rfl
  simp only [Act.put, List.setIfInBounds_toArray, List.set_cons_zero, List.set_cons_succ]
  refine any_one wze_r545357767376895 ?_
  refine any_op rfl (by rfl) (fun K hK => ?_)
  go_simp
  refine (P5.out _ bel8).mono ?_
  rintro E W9 ⟨rfl, bel9⟩
  go_wp2_with fail
  refine hK.out _ _ (HC.out _ bel9) ?_
  clear hK K
  try simp only [Act.put, List.setIfInBounds_toArray, List.set_cons_zero, List.set_cons_succ]
  refine any_one wze_r562949953421311 ?_
  refine any_op rfl (by rfl) (fun K hK => ?_)
  go_simp
  refine (P6.out _ bel9).mono ?_
  rintro E W10 ⟨rfl, bel10⟩
  go_wp2_with fail
  refine hK.out _ _ (HC.out _ bel10) ?_
  clear hK K
  try simp only [Act.put, List.setIfInBounds_toArray, List.set_cons_zero, List.set_cons_succ]
  refine any_take (v := ?_) wze_t1125899906842623_50 (by kernel_rfl) (fun _ _ _ _ _ h => h) (HC.out _ bel10) rfl rfl (by rfl) ?_ ?_
  rotate_left 1
  · intro w hS
    (try dsimp only at hS)
    go_simp
    all_goals with_reducible rfl
  simp only [Act.put, List.setIfInBounds_toArray, List.set_cons_zero, List.set_cons_succ]
  refine any_take (v := ?_) wze_t2251799813685247_51 (by kernel_rfl) (fun _ _ _ _ _ h => h) (HC.out _ bel10) rfl rfl (by rfl) ?_ ?_
  rotate_left 1
  · intro w hS
    (try dsimp only at hS)
    go_simp
    all_goals with_reducible rfl
  simp only [Act.put, List.setIfInBounds_toArray, List.set_cons_zero, List.set_cons_succ]
  refine any_take (v := ?_) wze_t4503599627370495_52 (by kernel_rfl) (fun _ _ _ _ _ h => h) (HC.out _ bel10) rfl rfl (by rfl) ?_ ?_
  rotate_left 1
  · intro w hS
    (try dsimp only at hS)
    go_simp
    all_goals with_reducible rfl
  simp only [Act.put, List.setIfInBounds_toArray, List.set_cons_zero, List.set_cons_succ]
  refine any_take (v := ?_) wze_t9007199254740991_53 (by kernel_rfl) (fun _ _ _ _ _ h => h) (HC.out _ bel10) rfl rfl (by rfl) ?_ ?_
  rotate_left 1
  · intro w hS
    (try dsimp only at hS)
    go_simp
    all_goals with_reducible rfl
  simp only [Act.put, List.setIfInBounds_toArray, List.set_cons_zero, List.set_cons_succ]
  refine any_take (v := ?_) wze_t18014398509481983_54 (by kernel_rfl) (fun _ _ _ _ _ h => h) (HC.out _ bel10) rfl rfl (by rfl) ?_ ?_
  rotate_left 1
  · intro w hS
    (try dsimp only at hS)
    go_simp
    all_goals with_reducible rfl
  simp only [Act.put, List.setIfInBounds_toArray, List.set_cons_zero, List.set_cons_succ]
  refine any_take (v := ?_) wze_t36028797018963967_55 (by kernel_rfl) (fun _ _ _ _ _ h => h) (HC.out _ bel10) rfl rfl (by rfl) ?_ ?_
  rotate_left 1
  · intro w hS
    (try dsimp only at hS)
    go_simp
    all_goals with_reducible rfl
  simp only [Act.put, List.setIfInBounds_toArray, List.set_cons_zero, List.set_cons_succ]
  refine any_take (v := ?_) wze_t72057594037927935_56 (by kernel_rfl) (fun _ _ _ _ _ h => h) (HC.out _ bel10) rfl rfl (by rfl) ?_ ?_
  rotate_left 1
  · intro w hS
    (try dsimp only at hS)
    go_simp
    all_goals with_reducible rfl
  simp only [Act.put, List.setIfInBounds_toArray, List.set_cons_zero, List.set_cons_succ]
  refine any_take (v := ?_) wze_t144115188075855871_58 (by kernel_rfl) (fun _ _ _ _ _ h => h) (HC.out _ bel10) rfl rfl (by rfl) ?_ ?_
  rotate_left 1
  · intro w hS
    (try dsimp only at hS)
    go_simp
    all_goals with_reducible rfl
  simp only [Act.put, List.setIfInBounds_toArray, List.set_cons_zero, List.set_cons_succ]
  refine any_take (v := ?_) wze_t432345564227567615_59 (by kernel_rfl) (fun _ _ _ _ _ h => h) (HC.out _ bel10) rfl rfl (by rfl) ?_ ?_
  rotate_left 1
  · intro w hS
    (try dsimp only at hS)
    go_simp
    all_goals with_reducible rfl
  simp only [Act.put, List.setIfInBounds_toArray, List.set_cons_zero, List.set_cons_succ]
  refine any_take (v := ?_) wze_t1008806316530991103_60 (by kernel_rfl) (fun _ _ _ _ _ h => h) (HC.out _ bel10) rfl rfl (by rfl) ?_ ?_
  rotate_left 1
  · intro w hS
    (try dsimp only at hS)
    go_simp
    all_goals with_reducible rfl
  simp only [Act.put, List.setIfInBounds_toArray, List.set_cons_zero, List.set_cons_succ]
  refine any_take (v := ?_) wze_t2161727821137838079_61 (by kernel_rfl) (fun _ _ _ _ _ h => h) (HC.out _ bel10) rfl rfl (by rfl) ?_ ?_
  rotate_left 1
  · intro w hS
    (try dsimp only at hS)
    go_simp
    all_goals with_reducible rfl
  simp only [Act.put, List.setIfInBounds_toArray, List.set_cons_zero, List.set_cons_succ]
  refine any_one wze_r4467570830351532031 ?_
  refine any_op rfl (by rfl) (fun K hK => ?_)
  go_simp
  refine (P3.out _ bel10).mono ?_
  rintro E W11 ⟨rfl, bel11⟩
  go_wp2_with fail
  refine hK.out _ _ (HC.out _ bel11) ?_
  clear hK K
  try simp only [Act.put, List.setIfInBounds_toArray, List.set_cons_zero, List.set_cons_succ]
  refine any_one wze_r4611686018427387903 ?_
  refine any_op rfl (by rfl) (fun K hK => ?_)
  go_simp
  refine (P4.out _ bel11).mono ?_
  rintro E W12 ⟨rfl, bel12⟩
  go_wp2_with fail
  refine hK.out _ _ (HC.out _ bel12) ?_
  clear hK K
  try simp only [Act.put, List.setIfInBounds_toArray, List.set_cons_zero, List.set_cons_succ]
  refine any_take (v := ?_) wze_t9223372036854775807_63 (by kernel_rfl) (fun _ _ _ _ _ h => h) (HC.out _ bel12) rfl rfl (by rfl) ?_ ?_
  rotate_left 1
  · intro w hS
    (try dsimp only at hS)
    go_simp
    all_goals with_reducible rfl
  simp only [Act.put, List.setIfInBounds_toArray, List.set_cons_zero, List.set_cons_succ]
  refine any_take (v := ?_) wze_t18446744073709551615_64 (by kernel_rfl) (fun _ _ _ _ _ h => h) (HC.out _ bel12) rfl rfl (by rfl) ?_ ?_
  rotate_left 1
  · intro w hS
    (try dsimp only at hS)
    go_simp
    all_goals with_reducible rfl
  simp only [Act.put, List.setIfInBounds_toArray, List.set_cons_zero, List.set_cons_succ]
  refine any_done wze_end ?_
  have BZ := hide bel12
  clear E1 E2 L1 L2 U1 U2 P3 P4 P5 P6 bel0 bel1 bel2 bel3 bel4 bel5 bel6 bel7 bel8 bel9 bel10 bel11 bel12 hW0
  go_wp2
  go_loopw [5] (fun iv wr => ∃ (j : Nat), j ≤ ks.length ∧ iv = .int .i64 j ∧ Hid (Below w.heap.size w wr)) (fun iv _ => ks.length - (intOf iv).toNat)
  case atStart => exact ⟨0, by omega, rfl, BZ⟩
  case round =>
    obtain ⟨j, hj, rfl, BR⟩ := hrel
    by_cases hlt : j < ks.length
    · obtain ⟨qb, qo, qk, hvx, _, _, _, hcell⟩ := IsS.full (r := ks) (HK0.out.below BR.out) (by omega)
      simp only [Value.slice.injEq, true_and] at hvx
      obtain ⟨rfl, rfl⟩ := hvx
      obtain ⟨key, hkey⟩ : ∃ a, ks[j]? = some a := ⟨ks[j], by rw [List.getElem?_eq_getElem]⟩
      have d0 := hcell j key hkey
      have hlt' : (j : Int) < ks.length := by omega
      have hj0 : (0 : Int) ≤ (j : Int) := by omega
      have hw1 : IntKind.i64.wrap ((j : Int) + 1) = (j : Int) + 1 := wrap_i64_small _ (by omega) (by omega)
      have HK : Hid (∀ W, Below wr.heap.size wr W → (W.cell? ⟨r, 0, none⟩ = some (.pointer (some ⟨q, 0, none⟩)) ∧ W.cell? ⟨r, 1, none⟩ = some (.pointer (some ⟨p, 0, none⟩)) ∧ W.cell? ⟨r, 2, none⟩ = some (.pointer (some ⟨y, 0, none⟩)) ∧ W.cell? ⟨r, 3, none⟩ = some (.pointer (some ⟨x, 0, none⟩))) ∧ W.cell? ⟨qb, qo + j, none⟩ = some (.string key)) := hide fun W hW => ⟨HC.out W (BR.out.trans (hW.mono BR.out.size)), (hW.cell (p := ⟨qb, qo + j, none⟩) (World.block_lt_of_cell? _ _ d0)).trans d0⟩
      have K1 : Hid (∀ W, Below wr.heap.size wr W → Calls Tryz.prog 95 #[.pointer (some ⟨p, 0, none⟩), .string key] W fun E w' => E = .returned (.tuple #[.string (Go.Proofs.YthmecljkackmbaaGreat.gv (Rl.tab s.l) key), .bool (Tm.met (Rl.tab s.l) key), .bool (gp (Rl.tab s.l) key)]) ∧ Below wr.heap.size wr w') := hide fun W hW => by
        refine (KG.out W key (BR.out.trans (hW.mono BR.out.size))).mono ?_
        rintro E w' ⟨rfl, a3⟩
        exact ⟨rfl, hW.trans (a3.mono hW.size)⟩
      have K2 : Hid (∀ W, Below wr.heap.size wr W → Calls Tryz.prog 110 #[.pointer (some ⟨x, 0, none⟩), .string key] W fun E w' => E = .returned (.tuple #[.string (Go.Proofs.YthmecljkackmbaaGreat.gv (Rl.tab s.l) key), .bool (Tm.met (Rl.tab s.l) key), .bool (gp (Rl.tab s.l) key)]) ∧ Below wr.heap.size wr w') := hide fun W hW => by
        refine (KH.out W key (BR.out.trans (hW.mono BR.out.size))).mono ?_
        rintro E w' ⟨rfl, a3⟩
        exact ⟨rfl, hW.trans (a3.mono hW.size)⟩
      generalize Go.Proofs.YthmecljkackmbaaGreat.gv (Rl.tab s.l) key = ka at *
      generalize Tm.met (Rl.tab s.l) key = kb at *
      generalize gp (Rl.tab s.l) key = kc at *
      have hka : (ka.toList == ka.toList) = true := by simp
      have hkb : (kb != kb) = false := by simp
      have hkc : (kc != kc) = false := by simp
      clear KG KH hcell hkey d0 BZ
      go_wp2_with fail
      obtain ⟨W0, hW0⟩ : ∃ x, wr.drew = x := ⟨_, rfl⟩
      have bel0 : Below wr.heap.size wr W0 := by rw [← hW0]; exact (Below.refl _ _).drew
      refine region_any (ops := (regOf 6 Tryz.f45)) (S := fun W => (W.cell? ⟨r, 0, none⟩ = some (.pointer (some ⟨q, 0, none⟩)) ∧ W.cell? ⟨r, 1, none⟩ = some (.pointer (some ⟨p, 0, none⟩)) ∧ W.cell? ⟨r, 2, none⟩ = some (.pointer (some ⟨y, 0, none⟩)) ∧ W.cell? ⟨r, 3, none⟩ = some (.pointer (some ⟨x, 0, none⟩))) ∧ W.cell? ⟨qb, qo + j, none⟩ = some (.string key)) (by kernel_rfl) wzf_size ?_
      rw [wzf_new, hW0]
      refine any_take (v := ?_) wzf_t0_0 (by kernel_rfl) (fun _ _ _ _ _ h => h) (HK.out _ bel0) rfl rfl (by rfl) ?_ ?_
      rotate_left 1
      · intro w hS
        (try dsimp only at hS)
        go_simp
        all_goals with_reducible rfl
      simp only [Act.put, List.setIfInBounds_toArray, List.set_cons_zero, List.set_cons_succ]
      refine any_take (v := ?_) wzf_t1_1 (by kernel_rfl) (fun _ _ _ _ _ h => h) (HK.out _ bel0) rfl rfl (by rfl) ?_ ?_
      rotate_left 1
      · intro w hS
        (try dsimp only at hS)
        go_simp
        all_goals with_reducible rfl
      simp only [Act.put, List.setIfInBounds_toArray, List.set_cons_zero, List.set_cons_succ]
      refine any_take (v := ?_) wzf_t3_2 (by kernel_rfl) (fun _ _ _ _ _ h => h) (HK.out _ bel0) rfl rfl (by rfl) ?_ ?_
      rotate_left 1
      · intro w hS
        (try dsimp only at hS)
        go_simp
        all_goals with_reducible rfl
      simp only [Act.put, List.setIfInBounds_toArray, List.set_cons_zero, List.set_cons_succ]
      refine any_take (v := ?_) wzf_t7_3 (by kernel_rfl) (fun _ _ _ _ _ h => h) (HK.out _ bel0) rfl rfl (by rfl) ?_ ?_
      rotate_left 1
      · intro w hS
        (try dsimp only at hS)
        go_simp
        all_goals with_reducible rfl
      simp only [Act.put, List.setIfInBounds_toArray, List.set_cons_zero, List.set_cons_succ]
      refine any_take (v := ?_) wzf_t15_4 (by kernel_rfl) (fun _ _ _ _ _ h => h) (HK.out _ bel0) rfl rfl (by rfl) ?_ ?_
      rotate_left 1
      · intro w hS
        (try dsimp only at hS)
        go_simp
        all_goals with_reducible rfl
      simp only [Act.put, List.setIfInBounds_toArray, List.set_cons_zero, List.set_cons_succ]
      refine any_take (v := ?_) wzf_t31_5 (by kernel_rfl) (fun _ _ _ _ _ h => h) (HK.out _ bel0) rfl rfl (by rfl) ?_ ?_
      rotate_left 1
      · intro w hS
        (try dsimp only at hS)
        go_simp
        all_goals with_reducible rfl
      simp only [Act.put, List.setIfInBounds_toArray, List.set_cons_zero, List.set_cons_succ]
      refine any_take (v := ?_) wzf_t63_6 (by kernel_rfl) (fun _ _ _ _ _ h => h) (HK.out _ bel0) rfl rfl (by rfl) ?_ ?_
      rotate_left 1
      · intro w hS
        (try dsimp only at hS)
        go_simp
        all_goals with_reducible rfl
      simp only [Act.put, List.setIfInBounds_toArray, List.set_cons_zero, List.set_cons_succ]
      refine any_take (v := ?_) wzf_t127_7 (by kernel_rfl) (fun _ _ _ _ _ h => h) (HK.out _ bel0) rfl rfl (by rfl) ?_ ?_
      rotate_left 1
      · intro w hS
        (try dsimp only at hS)
        go_simp
        all_goals with_reducible rfl
      simp only [Act.put, List.setIfInBounds_toArray, List.set_cons_zero, List.set_cons_succ]
      refine any_one wzf_r255 ?_
      refine any_op rfl (by rfl) (fun K hK => ?_)
      go_simp
      refine (K1.out _ bel0).mono ?_
      rintro E W1 ⟨rfl, bel1⟩
      go_wp2_with fail
      refine hK.out _ _ (HK.out _ bel1) ?_
      clear hK K
      try simp only [Act.put, List.setIfInBounds_toArray, List.set_cons_zero, List.set_cons_succ]
      refine any_take (v := ?_) wzf_t511_9 (by kernel_rfl) (fun _ _ _ _ _ h => h) (HK.out _ bel1) rfl rfl (by rfl) ?_ ?_
      rotate_left 1
      · intro w hS
        (try dsimp only at hS)
        go_simp
        all_goals with_reducible rfl
      simp only [Act.put, List.setIfInBounds_toArray, List.set_cons_zero, List.set_cons_succ]
      refine any_take (v := ?_) wzf_t1023_10 (by kernel_rfl) (fun _ _ _ _ _ h => h) (HK.out _ bel1) rfl rfl (by rfl) ?_ ?_
      rotate_left 1
      · intro w hS
        (try dsimp only at hS)
        go_simp
        all_goals with_reducible rfl
      simp only [Act.put, List.setIfInBounds_toArray, List.set_cons_zero, List.set_cons_succ]
      refine any_take (v := ?_) wzf_t2047_11 (by kernel_rfl) (fun _ _ _ _ _ h => h) (HK.out _ bel1) rfl rfl (by rfl) ?_ ?_
      rotate_left 1
      · intro w hS
        (try dsimp only at hS)
        go_simp
        all_goals with_reducible rfl
      simp only [Act.put, List.setIfInBounds_toArray, List.set_cons_zero, List.set_cons_succ]
      refine any_take (v := ?_) wzf_t4095_12 (by kernel_rfl) (fun _ _ _ _ _ h => h) (HK.out _ bel1) rfl rfl (by rfl) ?_ ?_
      rotate_left 1
      · intro w hS
        (try dsimp only at hS)
        go_simp
        all_goals with_reducible rfl
      simp only [Act.put, List.setIfInBounds_toArray, List.set_cons_zero, List.set_cons_succ]
      refine any_take (v := ?_) wzf_t8191_13 (by kernel_rfl) (fun _ _ _ _ _ h => h) (HK.out _ bel1) rfl rfl (by rfl) ?_ ?_
      rotate_left 1
      · intro w hS
        (try dsimp only at hS)
        go_simp
        all_goals with_reducible rfl
      simp only [Act.put, List.setIfInBounds_toArray, List.set_cons_zero, List.set_cons_succ]
      refine any_take (v := ?_) wzf_t16383_14 (by kernel_rfl) (fun _ _ _ _ _ h => h) (HK.out _ bel1) rfl rfl (by rfl) ?_ ?_
      rotate_left 1
      · intro w hS
        (try dsimp only at hS)
        go_simp
        all_goals with_reducible rfl
      simp only [Act.put, List.setIfInBounds_toArray, List.set_cons_zero, List.set_cons_succ]
      refine any_take (v := ?_) wzf_t32767_15 (by kernel_rfl) (fun _ _ _ _ _ h => h) (HK.out _ bel1) rfl rfl (by rfl) ?_ ?_
      rotate_left 1
      · intro w hS
        (try dsimp only at hS)
        go_simp
        all_goals with_reducible rfl
      simp only [Act.put, List.setIfInBounds_toArray, List.set_cons_zero, List.set_cons_succ]
      refine any_done wzf_end ?_
      have BY1 := hide bel1
      clear bel0 bel1 hW0
      go_wp2_with fail
      obtain ⟨W0, hW0⟩ : ∃ x, W1.drew = x := ⟨_, rfl⟩
      have bel0 : Below wr.heap.size wr W0 := by rw [← hW0]; exact BY1.out.drew
      refine region_any (ops := (regOf 7 Tryz.f45)) (S := fun W => (W.cell? ⟨r, 0, none⟩ = some (.pointer (some ⟨q, 0, none⟩)) ∧ W.cell? ⟨r, 1, none⟩ = some (.pointer (some ⟨p, 0, none⟩)) ∧ W.cell? ⟨r, 2, none⟩ = some (.pointer (some ⟨y, 0, none⟩)) ∧ W.cell? ⟨r, 3, none⟩ = some (.pointer (some ⟨x, 0, none⟩))) ∧ W.cell? ⟨qb, qo + j, none⟩ = some (.string key)) (by kernel_rfl) wzg_size ?_
      rw [wzg_new, hW0]
      refine any_take (v := ?_) wzg_t0_0 (by kernel_rfl) (fun _ _ _ _ _ h => h) (HK.out _ bel0) rfl rfl (by rfl) ?_ ?_
      rotate_left 1
      · intro w hS
        (try dsimp only at hS)
        go_simp
        all_goals with_reducible rfl
      simp only [Act.put, List.setIfInBounds_toArray, List.set_cons_zero, List.set_cons_succ]
      refine any_take (v := ?_) wzg_t1_1 (by kernel_rfl) (fun _ _ _ _ _ h => h) (HK.out _ bel0) rfl rfl (by rfl) ?_ ?_
      rotate_left 1
      · intro w hS
        (try dsimp only at hS)
        go_simp
        all_goals with_reducible rfl
      simp only [Act.put, List.setIfInBounds_toArray, List.set_cons_zero, List.set_cons_succ]
      refine any_take (v := ?_) wzg_t3_2 (by kernel_rfl) (fun _ _ _ _ _ h => h) (HK.out _ bel0) rfl rfl (by rfl) ?_ ?_
      rotate_left 1
      · intro w hS
        (try dsimp only at hS)
        go_simp
        all_goals with_reducible rfl
      simp only [Act.put, List.setIfInBounds_toArray, List.set_cons_zero, List.set_cons_succ]
      refine any_take (v := ?_) wzg_t7_3 (by kernel_rfl) (fun _ _ _ _ _ h => h) (HK.out _ bel0) rfl rfl (by rfl) ?_ ?_
      rotate_left 1
      · intro w hS
        (try dsimp only at hS)
        go_simp
        all_goals with_reducible rfl
      simp only [Act.put, List.setIfInBounds_toArray, List.set_cons_zero, List.set_cons_succ]
      refine any_take (v := ?_) wzg_t15_4 (by kernel_rfl) (fun _ _ _ _ _ h => h) (HK.out _ bel0) rfl rfl (by rfl) ?_ ?_
      rotate_left 1
      · intro w hS
        (try dsimp only at hS)
        go_simp
        all_goals with_reducible rfl
      simp only [Act.put, List.setIfInBounds_toArray, List.set_cons_zero, List.set_cons_succ]
      refine any_take (v := ?_) wzg_t31_5 (by kernel_rfl) (fun _ _ _ _ _ h => h) (HK.out _ bel0) rfl rfl (by rfl) ?_ ?_
      rotate_left 1
      · intro w hS
        (try dsimp only at hS)
        go_simp
        all_goals with_reducible rfl
      simp only [Act.put, List.setIfInBounds_toArray, List.set_cons_zero, List.set_cons_succ]
      refine any_take (v := ?_) wzg_t63_6 (by kernel_rfl) (fun _ _ _ _ _ h => h) (HK.out _ bel0) rfl rfl (by rfl) ?_ ?_
      rotate_left 1
      · intro w hS
        (try dsimp only at hS)
        go_simp
        all_goals with_reducible rfl
      simp only [Act.put, List.setIfInBounds_toArray, List.set_cons_zero, List.set_cons_succ]
      refine any_take (v := ?_) wzg_t127_7 (by kernel_rfl) (fun _ _ _ _ _ h => h) (HK.out _ bel0) rfl rfl (by rfl) ?_ ?_
      rotate_left 1
      · intro w hS
        (try dsimp only at hS)
        go_simp
        all_goals with_reducible rfl
      simp only [Act.put, List.setIfInBounds_toArray, List.set_cons_zero, List.set_cons_succ]
      refine any_one wzg_r255 ?_
      refine any_op rfl (by rfl) (fun K hK => ?_)
      go_simp
      refine (K2.out _ bel0).mono ?_
      rintro E W1 ⟨rfl, bel1⟩
      go_wp2_with fail
      refine hK.out _ _ (HK.out _ bel1) ?_
      clear hK K
      try simp only [Act.put, List.setIfInBounds_toArray, List.set_cons_zero, List.set_cons_succ]
      refine any_take (v := ?_) wzg_t511_9 (by kernel_rfl) (fun _ _ _ _ _ h => h) (HK.out _ bel1) rfl rfl (by rfl) ?_ ?_
      rotate_left 1
      · intro w hS
        (try dsimp only at hS)
        go_simp
        all_goals with_reducible rfl
      simp only [Act.put, List.setIfInBounds_toArray, List.set_cons_zero, List.set_cons_succ]
      refine any_take (v := ?_) wzg_t1023_10 (by kernel_rfl) (fun _ _ _ _ _ h => h) (HK.out _ bel1) rfl rfl (by rfl) ?_ ?_
      rotate_left 1
      · intro w hS
        (try dsimp only at hS)
        go_simp
        all_goals with_reducible rfl
      simp only [Act.put, List.setIfInBounds_toArray, List.set_cons_zero, List.set_cons_succ]
      refine any_take (v := ?_) wzg_t2047_11 (by kernel_rfl) (fun _ _ _ _ _ h => h) (HK.out _ bel1) rfl rfl (by rfl) ?_ ?_
      rotate_left 1
      · intro w hS
        (try dsimp only at hS)
        go_simp
        all_goals with_reducible rfl
      simp only [Act.put, List.setIfInBounds_toArray, List.set_cons_zero, List.set_cons_succ]
      refine any_take (v := ?_) wzg_t4095_12 (by kernel_rfl) (fun _ _ _ _ _ h => h) (HK.out _ bel1) rfl rfl (by rfl) ?_ ?_
      rotate_left 1
      · intro w hS
        (try dsimp only at hS)
        go_simp
        all_goals with_reducible rfl
      simp only [Act.put, List.setIfInBounds_toArray, List.set_cons_zero, List.set_cons_succ]
      refine any_take (v := ?_) wzg_t8191_13 (by kernel_rfl) (fun _ _ _ _ _ h => h) (HK.out _ bel1) rfl rfl (by rfl) ?_ ?_
      rotate_left 1
      · intro w hS
        (try dsimp only at hS)
        go_simp
        all_goals with_reducible rfl
      simp only [Act.put, List.setIfInBounds_toArray, List.set_cons_zero, List.set_cons_succ]
      refine any_take (v := ?_) wzg_t16383_14 (by kernel_rfl) (fun _ _ _ _ _ h => h) (HK.out _ bel1) rfl rfl (by rfl) ?_ ?_
      rotate_left 1
      · intro w hS
        (try dsimp only at hS)
        go_simp
        all_goals with_reducible rfl
      simp only [Act.put, List.setIfInBounds_toArray, List.set_cons_zero, List.set_cons_succ]
      refine any_take (v := ?_) wzg_t32767_15 (by kernel_rfl) (fun _ _ _ _ _ h => h) (HK.out _ bel1) rfl rfl (by rfl) ?_ ?_
      rotate_left 1
      · intro w hS
        (try dsimp only at hS)
        go_simp
        all_goals with_reducible rfl
      simp only [Act.put, List.setIfInBounds_toArray, List.set_cons_zero, List.set_cons_succ]
      refine any_done wzg_end ?_
      have BY2 := hide bel1
      have BN := hide (BR.out.trans (BY2.out.mono BR.out.size))
      clear bel0 bel1 hW0 BY1 BY2 HK K1 K2 HC
      go_wp2
      go_roundw
      case rel => exact ⟨j + 1, by omega, by go_num, BN⟩
      case measure => simp [intOf]; omega
    · have hnl : ¬ (j : Int) < ks.length := by omega
      have e : j = ks.length := by omega
      clear HC HK0 KG KH BZ
      go_wp2
      go_ret
      exact ⟨rfl, BR.out⟩

end Go.Proofs.YthmecljkackmbaaGreat
