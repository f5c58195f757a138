/- The order of a region's operations: its steps. -/
import Derived.Test.YtmkpaedemjiboaaGreatUy
namespace Go.Proofs.YtmkpaedemjiboaaGreat
open Go.RowKit
set_option linter.unusedVariables false

theorem same_st78 : Region.free .any (regOf 1 Tryz.f10) (lst 116 302231454903657293676543) 78 = true ∧ (Region.ready .any (regOf 1 Tryz.f10) (lst 116 302231454903657293676543)).contains 78 = true ∧ (lst 116 302231454903657293676543).setIfInBounds 78 true = lst 116 604462909807314587353087 := ⟨by kernel_rfl, by kernel_rfl, by kernel_rfl⟩

theorem same_st79 : Region.free .any (regOf 1 Tryz.f10) (lst 116 604462909807314587353087) 79 = true ∧ (Region.ready .any (regOf 1 Tryz.f10) (lst 116 604462909807314587353087)).contains 79 = true ∧ (lst 116 604462909807314587353087).setIfInBounds 79 true = lst 116 1208925819614629174706175 := ⟨by kernel_rfl, by kernel_rfl, by kernel_rfl⟩

theorem same_st80 : Region.free .any (regOf 1 Tryz.f10) (lst 116 1208925819614629174706175) 80 = true ∧ (Region.ready .any (regOf 1 Tryz.f10) (lst 116 1208925819614629174706175)).contains 80 = true ∧ (lst 116 1208925819614629174706175).setIfInBounds 80 true = lst 116 2417851639229258349412351 := ⟨by kernel_rfl, by kernel_rfl, by kernel_rfl⟩

theorem same_st81 : Region.free .any (regOf 1 Tryz.f10) (lst 116 2417851639229258349412351) 82 = true ∧ (Region.ready .any (regOf 1 Tryz.f10) (lst 116 2417851639229258349412351)).contains 82 = true ∧ (lst 116 2417851639229258349412351).setIfInBounds 82 true = lst 116 7253554917687775048237055 := ⟨by kernel_rfl, by kernel_rfl, by kernel_rfl⟩

theorem same_st82 : Region.free .any (regOf 1 Tryz.f10) (lst 116 7253554917687775048237055) 83 = true ∧ (Region.ready .any (regOf 1 Tryz.f10) (lst 116 7253554917687775048237055)).contains 83 = true ∧ (lst 116 7253554917687775048237055).setIfInBounds 83 true = lst 116 16924961474604808445886463 := ⟨by kernel_rfl, by kernel_rfl, by kernel_rfl⟩

theorem same_st83 : Region.free .any (regOf 1 Tryz.f10) (lst 116 16924961474604808445886463) 84 = true ∧ (Region.ready .any (regOf 1 Tryz.f10) (lst 116 16924961474604808445886463)).contains 84 = true ∧ (lst 116 16924961474604808445886463).setIfInBounds 84 true = lst 116 36267774588438875241185279 := ⟨by kernel_rfl, by kernel_rfl, by kernel_rfl⟩

theorem same_st84 : Region.free .any (regOf 1 Tryz.f10) (lst 116 36267774588438875241185279) 85 = true ∧ (Region.ready .any (regOf 1 Tryz.f10) (lst 116 36267774588438875241185279)).contains 85 = true ∧ (lst 116 36267774588438875241185279).setIfInBounds 85 true = lst 116 74953400816107008831782911 := ⟨by kernel_rfl, by kernel_rfl, by kernel_rfl⟩

theorem same_st85 : Region.ready .any (regOf 1 Tryz.f10) (lst 116 74953400816107008831782911) = [81] ∧ (lst 116 74953400816107008831782911).setIfInBounds 81 true = lst 116 77371252455336267181195263 := ⟨by kernel_rfl, by kernel_rfl⟩

theorem same_st86 : Region.ready .any (regOf 1 Tryz.f10) (lst 116 77371252455336267181195263) = [86] ∧ (lst 116 77371252455336267181195263).setIfInBounds 86 true = lst 116 154742504910672534362390527 := ⟨by kernel_rfl, by kernel_rfl⟩

theorem same_st87 : Region.free .any (regOf 1 Tryz.f10) (lst 116 154742504910672534362390527) 87 = true ∧ (Region.ready .any (regOf 1 Tryz.f10) (lst 116 154742504910672534362390527)).contains 87 = true ∧ (lst 116 154742504910672534362390527).setIfInBounds 87 true = lst 116 309485009821345068724781055 := ⟨by kernel_rfl, by kernel_rfl, by kernel_rfl⟩

theorem same_st88 : Region.free .any (regOf 1 Tryz.f10) (lst 116 309485009821345068724781055) 88 = true ∧ (Region.ready .any (regOf 1 Tryz.f10) (lst 116 309485009821345068724781055)).contains 88 = true ∧ (lst 116 309485009821345068724781055).setIfInBounds 88 true = lst 116 618970019642690137449562111 := ⟨by kernel_rfl, by kernel_rfl, by kernel_rfl⟩

theorem same_st89 : Region.free .any (regOf 1 Tryz.f10) (lst 116 618970019642690137449562111) 89 = true ∧ (Region.ready .any (regOf 1 Tryz.f10) (lst 116 618970019642690137449562111)).contains 89 = true ∧ (lst 116 618970019642690137449562111).setIfInBounds 89 true = lst 116 1237940039285380274899124223 := ⟨by kernel_rfl, by kernel_rfl, by kernel_rfl⟩

theorem same_st90 : Region.free .any (regOf 1 Tryz.f10) (lst 116 1237940039285380274899124223) 90 = true ∧ (Region.ready .any (regOf 1 Tryz.f10) (lst 116 1237940039285380274899124223)).contains 90 = true ∧ (lst 116 1237940039285380274899124223).setIfInBounds 90 true = lst 116 2475880078570760549798248447 := ⟨by kernel_rfl, by kernel_rfl, by kernel_rfl⟩

theorem same_st91 : Region.free .any (regOf 1 Tryz.f10) (lst 116 2475880078570760549798248447) 91 = true ∧ (Region.ready .any (regOf 1 Tryz.f10) (lst 116 2475880078570760549798248447)).contains 91 = true ∧ (lst 116 2475880078570760549798248447).setIfInBounds 91 true = lst 116 4951760157141521099596496895 := ⟨by kernel_rfl, by kernel_rfl, by kernel_rfl⟩

theorem same_st92 : Region.free .any (regOf 1 Tryz.f10) (lst 116 4951760157141521099596496895) 92 = true ∧ (Region.ready .any (regOf 1 Tryz.f10) (lst 116 4951760157141521099596496895)).contains 92 = true ∧ (lst 116 4951760157141521099596496895).setIfInBounds 92 true = lst 116 9903520314283042199192993791 := ⟨by kernel_rfl, by kernel_rfl, by kernel_rfl⟩

theorem same_st93 : Region.free .any (regOf 1 Tryz.f10) (lst 116 9903520314283042199192993791) 93 = true ∧ (Region.ready .any (regOf 1 Tryz.f10) (lst 116 9903520314283042199192993791)).contains 93 = true ∧ (lst 116 9903520314283042199192993791).setIfInBounds 93 true = lst 116 19807040628566084398385987583 := ⟨by kernel_rfl, by kernel_rfl, by kernel_rfl⟩

theorem same_st94 : Region.free .any (regOf 1 Tryz.f10) (lst 116 19807040628566084398385987583) 95 = true ∧ (Region.ready .any (regOf 1 Tryz.f10) (lst 116 19807040628566084398385987583)).contains 95 = true ∧ (lst 116 19807040628566084398385987583).setIfInBounds 95 true = lst 116 59421121885698253195157962751 := ⟨by kernel_rfl, by kernel_rfl, by kernel_rfl⟩

theorem same_st95 : Region.free .any (regOf 1 Tryz.f10) (lst 116 59421121885698253195157962751) 96 = true ∧ (Region.ready .any (regOf 1 Tryz.f10) (lst 116 59421121885698253195157962751)).contains 96 = true ∧ (lst 116 59421121885698253195157962751).setIfInBounds 96 true = lst 116 138649284399962590788701913087 := ⟨by kernel_rfl, by kernel_rfl, by kernel_rfl⟩

theorem same_st96 : Region.free .any (regOf 1 Tryz.f10) (lst 116 138649284399962590788701913087) 97 = true ∧ (Region.ready .any (regOf 1 Tryz.f10) (lst 116 138649284399962590788701913087)).contains 97 = true ∧ (lst 116 138649284399962590788701913087).setIfInBounds 97 true = lst 116 297105609428491265975789813759 := ⟨by kernel_rfl, by kernel_rfl, by kernel_rfl⟩

theorem same_st97 : Region.free .any (regOf 1 Tryz.f10) (lst 116 297105609428491265975789813759) 98 = true ∧ (Region.ready .any (regOf 1 Tryz.f10) (lst 116 297105609428491265975789813759)).contains 98 = true ∧ (lst 116 297105609428491265975789813759).setIfInBounds 98 true = lst 116 614018259485548616349965615103 := ⟨by kernel_rfl, by kernel_rfl, by kernel_rfl⟩

theorem same_st98 : Region.ready .any (regOf 1 Tryz.f10) (lst 116 614018259485548616349965615103) = [94] ∧ (lst 116 614018259485548616349965615103).setIfInBounds 94 true = lst 116 633825300114114700748351602687 := ⟨by kernel_rfl, by kernel_rfl⟩

theorem same_st99 : Region.ready .any (regOf 1 Tryz.f10) (lst 116 633825300114114700748351602687) = [99] ∧ (lst 116 633825300114114700748351602687).setIfInBounds 99 true = lst 116 1267650600228229401496703205375 := ⟨by kernel_rfl, by kernel_rfl⟩

theorem same_st100 : Region.free .any (regOf 1 Tryz.f10) (lst 116 1267650600228229401496703205375) 100 = true ∧ (Region.ready .any (regOf 1 Tryz.f10) (lst 116 1267650600228229401496703205375)).contains 100 = true ∧ (lst 116 1267650600228229401496703205375).setIfInBounds 100 true = lst 116 2535301200456458802993406410751 := ⟨by kernel_rfl, by kernel_rfl, by kernel_rfl⟩

theorem same_st101 : Region.free .any (regOf 1 Tryz.f10) (lst 116 2535301200456458802993406410751) 101 = true ∧ (Region.ready .any (regOf 1 Tryz.f10) (lst 116 2535301200456458802993406410751)).contains 101 = true ∧ (lst 116 2535301200456458802993406410751).setIfInBounds 101 true = lst 116 5070602400912917605986812821503 := ⟨by kernel_rfl, by kernel_rfl, by kernel_rfl⟩

theorem same_st102 : Region.free .any (regOf 1 Tryz.f10) (lst 116 5070602400912917605986812821503) 102 = true ∧ (Region.ready .any (regOf 1 Tryz.f10) (lst 116 5070602400912917605986812821503)).contains 102 = true ∧ (lst 116 5070602400912917605986812821503).setIfInBounds 102 true = lst 116 10141204801825835211973625643007 := ⟨by kernel_rfl, by kernel_rfl, by kernel_rfl⟩

theorem same_st103 : Region.free .any (regOf 1 Tryz.f10) (lst 116 10141204801825835211973625643007) 103 = true ∧ (Region.ready .any (regOf 1 Tryz.f10) (lst 116 10141204801825835211973625643007)).contains 103 = true ∧ (lst 116 10141204801825835211973625643007).setIfInBounds 103 true = lst 116 20282409603651670423947251286015 := ⟨by kernel_rfl, by kernel_rfl, by kernel_rfl⟩

theorem same_st104 : Region.free .any (regOf 1 Tryz.f10) (lst 116 20282409603651670423947251286015) 104 = true ∧ (Region.ready .any (regOf 1 Tryz.f10) (lst 116 20282409603651670423947251286015)).contains 104 = true ∧ (lst 116 20282409603651670423947251286015).setIfInBounds 104 true = lst 116 40564819207303340847894502572031 := ⟨by kernel_rfl, by kernel_rfl, by kernel_rfl⟩

theorem same_st105 : Region.free .any (regOf 1 Tryz.f10) (lst 116 40564819207303340847894502572031) 105 = true ∧ (Region.ready .any (regOf 1 Tryz.f10) (lst 116 40564819207303340847894502572031)).contains 105 = true ∧ (lst 116 40564819207303340847894502572031).setIfInBounds 105 true = lst 116 81129638414606681695789005144063 := ⟨by kernel_rfl, by kernel_rfl, by kernel_rfl⟩

theorem same_st106 : Region.free .any (regOf 1 Tryz.f10) (lst 116 81129638414606681695789005144063) 106 = true ∧ (Region.ready .any (regOf 1 Tryz.f10) (lst 116 81129638414606681695789005144063)).contains 106 = true ∧ (lst 116 81129638414606681695789005144063).setIfInBounds 106 true = lst 116 162259276829213363391578010288127 := ⟨by kernel_rfl, by kernel_rfl, by kernel_rfl⟩

theorem same_st107 : Region.free .any (regOf 1 Tryz.f10) (lst 116 162259276829213363391578010288127) 108 = true ∧ (Region.ready .any (regOf 1 Tryz.f10) (lst 116 162259276829213363391578010288127)).contains 108 = true ∧ (lst 116 162259276829213363391578010288127).setIfInBounds 108 true = lst 116 486777830487640090174734030864383 := ⟨by kernel_rfl, by kernel_rfl, by kernel_rfl⟩

theorem same_st108 : Region.free .any (regOf 1 Tryz.f10) (lst 116 486777830487640090174734030864383) 109 = true ∧ (Region.ready .any (regOf 1 Tryz.f10) (lst 116 486777830487640090174734030864383)).contains 109 = true ∧ (lst 116 486777830487640090174734030864383).setIfInBounds 109 true = lst 116 1135814937804493543741046072016895 := ⟨by kernel_rfl, by kernel_rfl, by kernel_rfl⟩

theorem same_st109 : Region.free .any (regOf 1 Tryz.f10) (lst 116 1135814937804493543741046072016895) 110 = true ∧ (Region.ready .any (regOf 1 Tryz.f10) (lst 116 1135814937804493543741046072016895)).contains 110 = true ∧ (lst 116 1135814937804493543741046072016895).setIfInBounds 110 true = lst 116 2433889152438200450873670154321919 := ⟨by kernel_rfl, by kernel_rfl, by kernel_rfl⟩

theorem same_st110 : Region.free .any (regOf 1 Tryz.f10) (lst 116 2433889152438200450873670154321919) 111 = true ∧ (Region.ready .any (regOf 1 Tryz.f10) (lst 116 2433889152438200450873670154321919)).contains 111 = true ∧ (lst 116 2433889152438200450873670154321919).setIfInBounds 111 true = lst 116 5030037581705614265138918318931967 := ⟨by kernel_rfl, by kernel_rfl, by kernel_rfl⟩

theorem same_st111 : Region.ready .any (regOf 1 Tryz.f10) (lst 116 5030037581705614265138918318931967) = [107] ∧ (lst 116 5030037581705614265138918318931967).setIfInBounds 107 true = lst 116 5192296858534827628530496329220095 := ⟨by kernel_rfl, by kernel_rfl⟩

theorem same_st112 : Region.ready .any (regOf 1 Tryz.f10) (lst 116 5192296858534827628530496329220095) = [112] ∧ (lst 116 5192296858534827628530496329220095).setIfInBounds 112 true = lst 116 10384593717069655257060992658440191 := ⟨by kernel_rfl, by kernel_rfl⟩

theorem same_st113 : Region.free .any (regOf 1 Tryz.f10) (lst 116 10384593717069655257060992658440191) 113 = true ∧ (Region.ready .any (regOf 1 Tryz.f10) (lst 116 10384593717069655257060992658440191)).contains 113 = true ∧ (lst 116 10384593717069655257060992658440191).setIfInBounds 113 true = lst 116 20769187434139310514121985316880383 := ⟨by kernel_rfl, by kernel_rfl, by kernel_rfl⟩

theorem same_st114 : Region.free .any (regOf 1 Tryz.f10) (lst 116 20769187434139310514121985316880383) 114 = true ∧ (Region.ready .any (regOf 1 Tryz.f10) (lst 116 20769187434139310514121985316880383)).contains 114 = true ∧ (lst 116 20769187434139310514121985316880383).setIfInBounds 114 true = lst 116 41538374868278621028243970633760767 := ⟨by kernel_rfl, by kernel_rfl, by kernel_rfl⟩

theorem same_st115 : Region.free .any (regOf 1 Tryz.f10) (lst 116 41538374868278621028243970633760767) 115 = true ∧ (Region.ready .any (regOf 1 Tryz.f10) (lst 116 41538374868278621028243970633760767)).contains 115 = true ∧ (lst 116 41538374868278621028243970633760767).setIfInBounds 115 true = lst 116 83076749736557242056487941267521535 := ⟨by kernel_rfl, by kernel_rfl, by kernel_rfl⟩

end Go.Proofs.YtmkpaedemjiboaaGreat
