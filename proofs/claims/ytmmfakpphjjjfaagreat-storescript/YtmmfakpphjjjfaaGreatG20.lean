/- Texts of one layer, one behind the other. -/
import Derived.Test.YtmmfakpphjjjfaaGreatG18
import Derived.Test.YtmmfakpphjjjfaaGreatProg
/- The order of a region's operations. -/
namespace Go.Proofs.YtmmfakpphjjjfaaGreat
open Go.RowKit
set_option linter.unusedVariables false

theorem wya_st0 : Region.free .any (regOf 8 Tryz.f117) (lst 27 0) 0 = true ∧ (Region.ready .any (regOf 8 Tryz.f117) (lst 27 0)).contains 0 = true ∧ (lst 27 0).setIfInBounds 0 true = lst 27 1 := ⟨by kernel_rfl, by kernel_rfl, by kernel_rfl⟩

theorem wya_st1 : Region.free .any (regOf 8 Tryz.f117) (lst 27 1) 1 = true ∧ (Region.ready .any (regOf 8 Tryz.f117) (lst 27 1)).contains 1 = true ∧ (lst 27 1).setIfInBounds 1 true = lst 27 3 := ⟨by kernel_rfl, by kernel_rfl, by kernel_rfl⟩

theorem wya_st2 : Region.free .any (regOf 8 Tryz.f117) (lst 27 3) 2 = true ∧ (Region.ready .any (regOf 8 Tryz.f117) (lst 27 3)).contains 2 = true ∧ (lst 27 3).setIfInBounds 2 true = lst 27 7 := ⟨by kernel_rfl, by kernel_rfl, by kernel_rfl⟩

theorem wya_st3 : Region.free .any (regOf 8 Tryz.f117) (lst 27 7) 3 = true ∧ (Region.ready .any (regOf 8 Tryz.f117) (lst 27 7)).contains 3 = true ∧ (lst 27 7).setIfInBounds 3 true = lst 27 15 := ⟨by kernel_rfl, by kernel_rfl, by kernel_rfl⟩

theorem wya_st4 : Region.free .any (regOf 8 Tryz.f117) (lst 27 15) 4 = true ∧ (Region.ready .any (regOf 8 Tryz.f117) (lst 27 15)).contains 4 = true ∧ (lst 27 15).setIfInBounds 4 true = lst 27 31 := ⟨by kernel_rfl, by kernel_rfl, by kernel_rfl⟩

theorem wya_st5 : Region.ready .any (regOf 8 Tryz.f117) (lst 27 31) = [5] ∧ (lst 27 31).setIfInBounds 5 true = lst 27 63 := ⟨by kernel_rfl, by kernel_rfl⟩

theorem wya_st6 : Region.free .any (regOf 8 Tryz.f117) (lst 27 63) 6 = true ∧ (Region.ready .any (regOf 8 Tryz.f117) (lst 27 63)).contains 6 = true ∧ (lst 27 63).setIfInBounds 6 true = lst 27 127 := ⟨by kernel_rfl, by kernel_rfl, by kernel_rfl⟩

theorem wya_st7 : Region.free .any (regOf 8 Tryz.f117) (lst 27 127) 7 = true ∧ (Region.ready .any (regOf 8 Tryz.f117) (lst 27 127)).contains 7 = true ∧ (lst 27 127).setIfInBounds 7 true = lst 27 255 := ⟨by kernel_rfl, by kernel_rfl, by kernel_rfl⟩

theorem wya_st8 : Region.free .any (regOf 8 Tryz.f117) (lst 27 255) 8 = true ∧ (Region.ready .any (regOf 8 Tryz.f117) (lst 27 255)).contains 8 = true ∧ (lst 27 255).setIfInBounds 8 true = lst 27 511 := ⟨by kernel_rfl, by kernel_rfl, by kernel_rfl⟩

theorem wya_st9 : Region.free .any (regOf 8 Tryz.f117) (lst 27 511) 9 = true ∧ (Region.ready .any (regOf 8 Tryz.f117) (lst 27 511)).contains 9 = true ∧ (lst 27 511).setIfInBounds 9 true = lst 27 1023 := ⟨by kernel_rfl, by kernel_rfl, by kernel_rfl⟩

theorem wya_st10 : Region.free .any (regOf 8 Tryz.f117) (lst 27 1023) 10 = true ∧ (Region.ready .any (regOf 8 Tryz.f117) (lst 27 1023)).contains 10 = true ∧ (lst 27 1023).setIfInBounds 10 true = lst 27 2047 := ⟨by kernel_rfl, by kernel_rfl, by kernel_rfl⟩

theorem wya_st11 : Region.free .any (regOf 8 Tryz.f117) (lst 27 2047) 11 = true ∧ (Region.ready .any (regOf 8 Tryz.f117) (lst 27 2047)).contains 11 = true ∧ (lst 27 2047).setIfInBounds 11 true = lst 27 4095 := ⟨by kernel_rfl, by kernel_rfl, by kernel_rfl⟩

theorem wya_st12 : Region.free .any (regOf 8 Tryz.f117) (lst 27 4095) 12 = true ∧ (Region.ready .any (regOf 8 Tryz.f117) (lst 27 4095)).contains 12 = true ∧ (lst 27 4095).setIfInBounds 12 true = lst 27 8191 := ⟨by kernel_rfl, by kernel_rfl, by kernel_rfl⟩

theorem wya_st13 : Region.free .any (regOf 8 Tryz.f117) (lst 27 8191) 13 = true ∧ (Region.ready .any (regOf 8 Tryz.f117) (lst 27 8191)).contains 13 = true ∧ (lst 27 8191).setIfInBounds 13 true = lst 27 16383 := ⟨by kernel_rfl, by kernel_rfl, by kernel_rfl⟩

theorem wya_st14 : Region.free .any (regOf 8 Tryz.f117) (lst 27 16383) 14 = true ∧ (Region.ready .any (regOf 8 Tryz.f117) (lst 27 16383)).contains 14 = true ∧ (lst 27 16383).setIfInBounds 14 true = lst 27 32767 := ⟨by kernel_rfl, by kernel_rfl, by kernel_rfl⟩

theorem wya_st15 : Region.free .any (regOf 8 Tryz.f117) (lst 27 32767) 15 = true ∧ (Region.ready .any (regOf 8 Tryz.f117) (lst 27 32767)).contains 15 = true ∧ (lst 27 32767).setIfInBounds 15 true = lst 27 65535 := ⟨by kernel_rfl, by kernel_rfl, by kernel_rfl⟩

theorem wya_st16 : Region.free .any (regOf 8 Tryz.f117) (lst 27 65535) 16 = true ∧ (Region.ready .any (regOf 8 Tryz.f117) (lst 27 65535)).contains 16 = true ∧ (lst 27 65535).setIfInBounds 16 true = lst 27 131071 := ⟨by kernel_rfl, by kernel_rfl, by kernel_rfl⟩

theorem wya_st17 : Region.free .any (regOf 8 Tryz.f117) (lst 27 131071) 17 = true ∧ (Region.ready .any (regOf 8 Tryz.f117) (lst 27 131071)).contains 17 = true ∧ (lst 27 131071).setIfInBounds 17 true = lst 27 262143 := ⟨by kernel_rfl, by kernel_rfl, by kernel_rfl⟩

theorem wya_st18 : Region.free .any (regOf 8 Tryz.f117) (lst 27 262143) 18 = true ∧ (Region.ready .any (regOf 8 Tryz.f117) (lst 27 262143)).contains 18 = true ∧ (lst 27 262143).setIfInBounds 18 true = lst 27 524287 := ⟨by kernel_rfl, by kernel_rfl, by kernel_rfl⟩

theorem wya_st19 : Region.free .any (regOf 8 Tryz.f117) (lst 27 524287) 19 = true ∧ (Region.ready .any (regOf 8 Tryz.f117) (lst 27 524287)).contains 19 = true ∧ (lst 27 524287).setIfInBounds 19 true = lst 27 1048575 := ⟨by kernel_rfl, by kernel_rfl, by kernel_rfl⟩

theorem wya_st20 : Region.free .any (regOf 8 Tryz.f117) (lst 27 1048575) 20 = true ∧ (Region.ready .any (regOf 8 Tryz.f117) (lst 27 1048575)).contains 20 = true ∧ (lst 27 1048575).setIfInBounds 20 true = lst 27 2097151 := ⟨by kernel_rfl, by kernel_rfl, by kernel_rfl⟩

theorem wya_st21 : Region.free .any (regOf 8 Tryz.f117) (lst 27 2097151) 21 = true ∧ (Region.ready .any (regOf 8 Tryz.f117) (lst 27 2097151)).contains 21 = true ∧ (lst 27 2097151).setIfInBounds 21 true = lst 27 4194303 := ⟨by kernel_rfl, by kernel_rfl, by kernel_rfl⟩

theorem wya_st22 : Region.free .any (regOf 8 Tryz.f117) (lst 27 4194303) 22 = true ∧ (Region.ready .any (regOf 8 Tryz.f117) (lst 27 4194303)).contains 22 = true ∧ (lst 27 4194303).setIfInBounds 22 true = lst 27 8388607 := ⟨by kernel_rfl, by kernel_rfl, by kernel_rfl⟩

theorem wya_st23 : Region.free .any (regOf 8 Tryz.f117) (lst 27 8388607) 23 = true ∧ (Region.ready .any (regOf 8 Tryz.f117) (lst 27 8388607)).contains 23 = true ∧ (lst 27 8388607).setIfInBounds 23 true = lst 27 16777215 := ⟨by kernel_rfl, by kernel_rfl, by kernel_rfl⟩

theorem wya_st24 : Region.free .any (regOf 8 Tryz.f117) (lst 27 16777215) 24 = true ∧ (Region.ready .any (regOf 8 Tryz.f117) (lst 27 16777215)).contains 24 = true ∧ (lst 27 16777215).setIfInBounds 24 true = lst 27 33554431 := ⟨by kernel_rfl, by kernel_rfl, by kernel_rfl⟩

theorem wya_st25 : Region.free .any (regOf 8 Tryz.f117) (lst 27 33554431) 25 = true ∧ (Region.ready .any (regOf 8 Tryz.f117) (lst 27 33554431)).contains 25 = true ∧ (lst 27 33554431).setIfInBounds 25 true = lst 27 67108863 := ⟨by kernel_rfl, by kernel_rfl, by kernel_rfl⟩

theorem wya_st26 : Region.free .any (regOf 8 Tryz.f117) (lst 27 67108863) 26 = true ∧ (Region.ready .any (regOf 8 Tryz.f117) (lst 27 67108863)).contains 26 = true ∧ (lst 27 67108863).setIfInBounds 26 true = lst 27 134217727 := ⟨by kernel_rfl, by kernel_rfl, by kernel_rfl⟩

def wya_ord : List (Bool × Nat) := [(true, 0), (true, 1), (true, 2), (true, 3), (true, 4), (false, 5), (true, 6), (true, 7), (true, 8), (true, 9), (true, 10), (true, 11), (true, 12), (true, 13), (true, 14), (true, 15), (true, 16), (true, 17), (true, 18), (true, 19), (true, 20), (true, 21), (true, 22), (true, 23), (true, 24), (true, 25), (true, 26)]

theorem wya_end : Region.ready .any (regOf 8 Tryz.f117) (lst 27 134217727) = [] := by kernel_rfl

theorem wya_way : Way .any (regOf 8 Tryz.f117) (Array.replicate (regOf 8 Tryz.f117).size false) wya_ord := by
 have e : Array.replicate (regOf 8 Tryz.f117).size false = lst 27 0 := by kernel_rfl
 rw [e]
 unfold wya_ord
 refine .take wya_st0 ?_
 refine .take wya_st1 ?_
 refine .take wya_st2 ?_
 refine .take wya_st3 ?_
 refine .take wya_st4 ?_
 refine .meet wya_st5 ?_
 refine .take wya_st6 ?_
 refine .take wya_st7 ?_
 refine .take wya_st8 ?_
 refine .take wya_st9 ?_
 refine .take wya_st10 ?_
 refine .take wya_st11 ?_
 refine .take wya_st12 ?_
 refine .take wya_st13 ?_
 refine .take wya_st14 ?_
 refine .take wya_st15 ?_
 refine .take wya_st16 ?_
 refine .take wya_st17 ?_
 refine .take wya_st18 ?_
 refine .take wya_st19 ?_
 refine .take wya_st20 ?_
 refine .take wya_st21 ?_
 refine .take wya_st22 ?_
 refine .take wya_st23 ?_
 refine .take wya_st24 ?_
 refine .take wya_st25 ?_
 refine .take wya_st26 ?_
 exact .done wya_end

end Go.Proofs.YtmmfakpphjjjfaaGreat
