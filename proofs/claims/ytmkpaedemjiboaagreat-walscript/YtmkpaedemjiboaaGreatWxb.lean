/- The order of a region's operations: its steps. -/
import Derived.Test.YtmkpaedemjiboaaGreatUy
namespace Go.Proofs.YtmkpaedemjiboaaGreat
open Go.RowKit
set_option linter.unusedVariables false

theorem same_st39 : Region.free .any (regOf 1 Tryz.f10) (lst 116 549755813887) 39 = true ∧ (Region.ready .any (regOf 1 Tryz.f10) (lst 116 549755813887)).contains 39 = true ∧ (lst 116 549755813887).setIfInBounds 39 true = lst 116 1099511627775 := ⟨by kernel_rfl, by kernel_rfl, by kernel_rfl⟩

theorem same_st40 : Region.free .any (regOf 1 Tryz.f10) (lst 116 1099511627775) 40 = true ∧ (Region.ready .any (regOf 1 Tryz.f10) (lst 116 1099511627775)).contains 40 = true ∧ (lst 116 1099511627775).setIfInBounds 40 true = lst 116 2199023255551 := ⟨by kernel_rfl, by kernel_rfl, by kernel_rfl⟩

theorem same_st41 : Region.free .any (regOf 1 Tryz.f10) (lst 116 2199023255551) 41 = true ∧ (Region.ready .any (regOf 1 Tryz.f10) (lst 116 2199023255551)).contains 41 = true ∧ (lst 116 2199023255551).setIfInBounds 41 true = lst 116 4398046511103 := ⟨by kernel_rfl, by kernel_rfl, by kernel_rfl⟩

theorem same_st42 : Region.free .any (regOf 1 Tryz.f10) (lst 116 4398046511103) 43 = true ∧ (Region.ready .any (regOf 1 Tryz.f10) (lst 116 4398046511103)).contains 43 = true ∧ (lst 116 4398046511103).setIfInBounds 43 true = lst 116 13194139533311 := ⟨by kernel_rfl, by kernel_rfl, by kernel_rfl⟩

theorem same_st43 : Region.free .any (regOf 1 Tryz.f10) (lst 116 13194139533311) 44 = true ∧ (Region.ready .any (regOf 1 Tryz.f10) (lst 116 13194139533311)).contains 44 = true ∧ (lst 116 13194139533311).setIfInBounds 44 true = lst 116 30786325577727 := ⟨by kernel_rfl, by kernel_rfl, by kernel_rfl⟩

theorem same_st44 : Region.free .any (regOf 1 Tryz.f10) (lst 116 30786325577727) 45 = true ∧ (Region.ready .any (regOf 1 Tryz.f10) (lst 116 30786325577727)).contains 45 = true ∧ (lst 116 30786325577727).setIfInBounds 45 true = lst 116 65970697666559 := ⟨by kernel_rfl, by kernel_rfl, by kernel_rfl⟩

theorem same_st45 : Region.free .any (regOf 1 Tryz.f10) (lst 116 65970697666559) 46 = true ∧ (Region.ready .any (regOf 1 Tryz.f10) (lst 116 65970697666559)).contains 46 = true ∧ (lst 116 65970697666559).setIfInBounds 46 true = lst 116 136339441844223 := ⟨by kernel_rfl, by kernel_rfl, by kernel_rfl⟩

theorem same_st46 : Region.ready .any (regOf 1 Tryz.f10) (lst 116 136339441844223) = [42] ∧ (lst 116 136339441844223).setIfInBounds 42 true = lst 116 140737488355327 := ⟨by kernel_rfl, by kernel_rfl⟩

theorem same_st47 : Region.ready .any (regOf 1 Tryz.f10) (lst 116 140737488355327) = [47] ∧ (lst 116 140737488355327).setIfInBounds 47 true = lst 116 281474976710655 := ⟨by kernel_rfl, by kernel_rfl⟩

theorem same_st48 : Region.ready .any (regOf 1 Tryz.f10) (lst 116 281474976710655) = [48] ∧ (lst 116 281474976710655).setIfInBounds 48 true = lst 116 562949953421311 := ⟨by kernel_rfl, by kernel_rfl⟩

theorem same_st49 : Region.free .any (regOf 1 Tryz.f10) (lst 116 562949953421311) 49 = true ∧ (Region.ready .any (regOf 1 Tryz.f10) (lst 116 562949953421311)).contains 49 = true ∧ (lst 116 562949953421311).setIfInBounds 49 true = lst 116 1125899906842623 := ⟨by kernel_rfl, by kernel_rfl, by kernel_rfl⟩

theorem same_st50 : Region.free .any (regOf 1 Tryz.f10) (lst 116 1125899906842623) 50 = true ∧ (Region.ready .any (regOf 1 Tryz.f10) (lst 116 1125899906842623)).contains 50 = true ∧ (lst 116 1125899906842623).setIfInBounds 50 true = lst 116 2251799813685247 := ⟨by kernel_rfl, by kernel_rfl, by kernel_rfl⟩

theorem same_st51 : Region.free .any (regOf 1 Tryz.f10) (lst 116 2251799813685247) 51 = true ∧ (Region.ready .any (regOf 1 Tryz.f10) (lst 116 2251799813685247)).contains 51 = true ∧ (lst 116 2251799813685247).setIfInBounds 51 true = lst 116 4503599627370495 := ⟨by kernel_rfl, by kernel_rfl, by kernel_rfl⟩

theorem same_st52 : Region.free .any (regOf 1 Tryz.f10) (lst 116 4503599627370495) 52 = true ∧ (Region.ready .any (regOf 1 Tryz.f10) (lst 116 4503599627370495)).contains 52 = true ∧ (lst 116 4503599627370495).setIfInBounds 52 true = lst 116 9007199254740991 := ⟨by kernel_rfl, by kernel_rfl, by kernel_rfl⟩

theorem same_st53 : Region.free .any (regOf 1 Tryz.f10) (lst 116 9007199254740991) 53 = true ∧ (Region.ready .any (regOf 1 Tryz.f10) (lst 116 9007199254740991)).contains 53 = true ∧ (lst 116 9007199254740991).setIfInBounds 53 true = lst 116 18014398509481983 := ⟨by kernel_rfl, by kernel_rfl, by kernel_rfl⟩

theorem same_st54 : Region.free .any (regOf 1 Tryz.f10) (lst 116 18014398509481983) 54 = true ∧ (Region.ready .any (regOf 1 Tryz.f10) (lst 116 18014398509481983)).contains 54 = true ∧ (lst 116 18014398509481983).setIfInBounds 54 true = lst 116 36028797018963967 := ⟨by kernel_rfl, by kernel_rfl, by kernel_rfl⟩

theorem same_st55 : Region.free .any (regOf 1 Tryz.f10) (lst 116 36028797018963967) 56 = true ∧ (Region.ready .any (regOf 1 Tryz.f10) (lst 116 36028797018963967)).contains 56 = true ∧ (lst 116 36028797018963967).setIfInBounds 56 true = lst 116 108086391056891903 := ⟨by kernel_rfl, by kernel_rfl, by kernel_rfl⟩

theorem same_st56 : Region.free .any (regOf 1 Tryz.f10) (lst 116 108086391056891903) 57 = true ∧ (Region.ready .any (regOf 1 Tryz.f10) (lst 116 108086391056891903)).contains 57 = true ∧ (lst 116 108086391056891903).setIfInBounds 57 true = lst 116 252201579132747775 := ⟨by kernel_rfl, by kernel_rfl, by kernel_rfl⟩

theorem same_st57 : Region.free .any (regOf 1 Tryz.f10) (lst 116 252201579132747775) 58 = true ∧ (Region.ready .any (regOf 1 Tryz.f10) (lst 116 252201579132747775)).contains 58 = true ∧ (lst 116 252201579132747775).setIfInBounds 58 true = lst 116 540431955284459519 := ⟨by kernel_rfl, by kernel_rfl, by kernel_rfl⟩

theorem same_st58 : Region.free .any (regOf 1 Tryz.f10) (lst 116 540431955284459519) 59 = true ∧ (Region.ready .any (regOf 1 Tryz.f10) (lst 116 540431955284459519)).contains 59 = true ∧ (lst 116 540431955284459519).setIfInBounds 59 true = lst 116 1116892707587883007 := ⟨by kernel_rfl, by kernel_rfl, by kernel_rfl⟩

theorem same_st59 : Region.ready .any (regOf 1 Tryz.f10) (lst 116 1116892707587883007) = [55] ∧ (lst 116 1116892707587883007).setIfInBounds 55 true = lst 116 1152921504606846975 := ⟨by kernel_rfl, by kernel_rfl⟩

theorem same_st60 : Region.ready .any (regOf 1 Tryz.f10) (lst 116 1152921504606846975) = [60] ∧ (lst 116 1152921504606846975).setIfInBounds 60 true = lst 116 2305843009213693951 := ⟨by kernel_rfl, by kernel_rfl⟩

theorem same_st61 : Region.ready .any (regOf 1 Tryz.f10) (lst 116 2305843009213693951) = [61] ∧ (lst 116 2305843009213693951).setIfInBounds 61 true = lst 116 4611686018427387903 := ⟨by kernel_rfl, by kernel_rfl⟩

theorem same_st62 : Region.free .any (regOf 1 Tryz.f10) (lst 116 4611686018427387903) 62 = true ∧ (Region.ready .any (regOf 1 Tryz.f10) (lst 116 4611686018427387903)).contains 62 = true ∧ (lst 116 4611686018427387903).setIfInBounds 62 true = lst 116 9223372036854775807 := ⟨by kernel_rfl, by kernel_rfl, by kernel_rfl⟩

theorem same_st63 : Region.free .any (regOf 1 Tryz.f10) (lst 116 9223372036854775807) 63 = true ∧ (Region.ready .any (regOf 1 Tryz.f10) (lst 116 9223372036854775807)).contains 63 = true ∧ (lst 116 9223372036854775807).setIfInBounds 63 true = lst 116 18446744073709551615 := ⟨by kernel_rfl, by kernel_rfl, by kernel_rfl⟩

theorem same_st64 : Region.free .any (regOf 1 Tryz.f10) (lst 116 18446744073709551615) 64 = true ∧ (Region.ready .any (regOf 1 Tryz.f10) (lst 116 18446744073709551615)).contains 64 = true ∧ (lst 116 18446744073709551615).setIfInBounds 64 true = lst 116 36893488147419103231 := ⟨by kernel_rfl, by kernel_rfl, by kernel_rfl⟩

theorem same_st65 : Region.free .any (regOf 1 Tryz.f10) (lst 116 36893488147419103231) 65 = true ∧ (Region.ready .any (regOf 1 Tryz.f10) (lst 116 36893488147419103231)).contains 65 = true ∧ (lst 116 36893488147419103231).setIfInBounds 65 true = lst 116 73786976294838206463 := ⟨by kernel_rfl, by kernel_rfl, by kernel_rfl⟩

theorem same_st66 : Region.free .any (regOf 1 Tryz.f10) (lst 116 73786976294838206463) 66 = true ∧ (Region.ready .any (regOf 1 Tryz.f10) (lst 116 73786976294838206463)).contains 66 = true ∧ (lst 116 73786976294838206463).setIfInBounds 66 true = lst 116 147573952589676412927 := ⟨by kernel_rfl, by kernel_rfl, by kernel_rfl⟩

theorem same_st67 : Region.free .any (regOf 1 Tryz.f10) (lst 116 147573952589676412927) 67 = true ∧ (Region.ready .any (regOf 1 Tryz.f10) (lst 116 147573952589676412927)).contains 67 = true ∧ (lst 116 147573952589676412927).setIfInBounds 67 true = lst 116 295147905179352825855 := ⟨by kernel_rfl, by kernel_rfl, by kernel_rfl⟩

theorem same_st68 : Region.free .any (regOf 1 Tryz.f10) (lst 116 295147905179352825855) 69 = true ∧ (Region.ready .any (regOf 1 Tryz.f10) (lst 116 295147905179352825855)).contains 69 = true ∧ (lst 116 295147905179352825855).setIfInBounds 69 true = lst 116 885443715538058477567 := ⟨by kernel_rfl, by kernel_rfl, by kernel_rfl⟩

theorem same_st69 : Region.free .any (regOf 1 Tryz.f10) (lst 116 885443715538058477567) 70 = true ∧ (Region.ready .any (regOf 1 Tryz.f10) (lst 116 885443715538058477567)).contains 70 = true ∧ (lst 116 885443715538058477567).setIfInBounds 70 true = lst 116 2066035336255469780991 := ⟨by kernel_rfl, by kernel_rfl, by kernel_rfl⟩

theorem same_st70 : Region.free .any (regOf 1 Tryz.f10) (lst 116 2066035336255469780991) 71 = true ∧ (Region.ready .any (regOf 1 Tryz.f10) (lst 116 2066035336255469780991)).contains 71 = true ∧ (lst 116 2066035336255469780991).setIfInBounds 71 true = lst 116 4427218577690292387839 := ⟨by kernel_rfl, by kernel_rfl, by kernel_rfl⟩

theorem same_st71 : Region.free .any (regOf 1 Tryz.f10) (lst 116 4427218577690292387839) 72 = true ∧ (Region.ready .any (regOf 1 Tryz.f10) (lst 116 4427218577690292387839)).contains 72 = true ∧ (lst 116 4427218577690292387839).setIfInBounds 72 true = lst 116 9149585060559937601535 := ⟨by kernel_rfl, by kernel_rfl, by kernel_rfl⟩

theorem same_st72 : Region.ready .any (regOf 1 Tryz.f10) (lst 116 9149585060559937601535) = [68] ∧ (lst 116 9149585060559937601535).setIfInBounds 68 true = lst 116 9444732965739290427391 := ⟨by kernel_rfl, by kernel_rfl⟩

theorem same_st73 : Region.ready .any (regOf 1 Tryz.f10) (lst 116 9444732965739290427391) = [73] ∧ (lst 116 9444732965739290427391).setIfInBounds 73 true = lst 116 18889465931478580854783 := ⟨by kernel_rfl, by kernel_rfl⟩

theorem same_st74 : Region.ready .any (regOf 1 Tryz.f10) (lst 116 18889465931478580854783) = [74] ∧ (lst 116 18889465931478580854783).setIfInBounds 74 true = lst 116 37778931862957161709567 := ⟨by kernel_rfl, by kernel_rfl⟩

theorem same_st75 : Region.free .any (regOf 1 Tryz.f10) (lst 116 37778931862957161709567) 75 = true ∧ (Region.ready .any (regOf 1 Tryz.f10) (lst 116 37778931862957161709567)).contains 75 = true ∧ (lst 116 37778931862957161709567).setIfInBounds 75 true = lst 116 75557863725914323419135 := ⟨by kernel_rfl, by kernel_rfl, by kernel_rfl⟩

theorem same_st76 : Region.free .any (regOf 1 Tryz.f10) (lst 116 75557863725914323419135) 76 = true ∧ (Region.ready .any (regOf 1 Tryz.f10) (lst 116 75557863725914323419135)).contains 76 = true ∧ (lst 116 75557863725914323419135).setIfInBounds 76 true = lst 116 151115727451828646838271 := ⟨by kernel_rfl, by kernel_rfl, by kernel_rfl⟩

theorem same_st77 : Region.free .any (regOf 1 Tryz.f10) (lst 116 151115727451828646838271) 77 = true ∧ (Region.ready .any (regOf 1 Tryz.f10) (lst 116 151115727451828646838271)).contains 77 = true ∧ (lst 116 151115727451828646838271).setIfInBounds 77 true = lst 116 302231454903657293676543 := ⟨by kernel_rfl, by kernel_rfl, by kernel_rfl⟩

end Go.Proofs.YtmkpaedemjiboaaGreat
