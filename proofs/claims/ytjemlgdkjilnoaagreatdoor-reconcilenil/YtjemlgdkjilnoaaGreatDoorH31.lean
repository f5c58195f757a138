/- Texts of one layer, one behind the other. -/
import Derived.Test.YtjemlgdkjilnoaaGreatDoorH1
import Derived.Test.YtjemlgdkjilnoaaGreatDoorProg
set_option maxRecDepth 100000
set_option maxHeartbeats 8000000
namespace Go.Proofs.YtjemlgdkjilnoaaGreatDoor
open Go.RowKit
set_option linter.unusedVariables false
theorem arU:Array.replicate 12 false=ay 12 0:=by kernel_rfl
theorem ao6:(aA 1 Tryz.f91).size=12:=by kernel_rfl
theorem anL:Region.free .any (aA 1 Tryz.f91) (ay 12 0) 0=true∧(Region.ready .any (aA 1 Tryz.f91) (ay 12 0)).contains 0=true∧(ay 12 0).setIfInBounds 0 true=ay 12 1:=⟨by kernel_rfl,by kernel_rfl,by kernel_rfl⟩
theorem amv:Region.free .any (aA 1 Tryz.f91) (ay 12 1) 2=true∧(Region.ready .any (aA 1 Tryz.f91) (ay 12 1)).contains 2=true∧(ay 12 1).setIfInBounds 2 true=ay 12 5:=⟨by kernel_rfl,by kernel_rfl,by kernel_rfl⟩
theorem av3:Region.ready .any (aA 1 Tryz.f91) (ay 12 5)=[1,8]∧(ay 12 5).setIfInBounds 1 true=ay 12 7∧(ay 12 5).setIfInBounds 8 true=ay 12 261:=⟨by kernel_rfl,by kernel_rfl,by kernel_rfl⟩
theorem awe:Region.ready .any (aA 1 Tryz.f91) (ay 12 7)=[3,8]∧(ay 12 7).setIfInBounds 3 true=ay 12 15∧(ay 12 7).setIfInBounds 8 true=ay 12 263:=⟨by kernel_rfl,by kernel_rfl,by kernel_rfl⟩
theorem alP:Region.free .any (aA 1 Tryz.f91) (ay 12 15) 4=true∧(Region.ready .any (aA 1 Tryz.f91) (ay 12 15)).contains 4=true∧(ay 12 15).setIfInBounds 4 true=ay 12 31:=⟨by kernel_rfl,by kernel_rfl,by kernel_rfl⟩
theorem alV:Region.free .any (aA 1 Tryz.f91) (ay 12 31) 5=true∧(Region.ready .any (aA 1 Tryz.f91) (ay 12 31)).contains 5=true∧(ay 12 31).setIfInBounds 5 true=ay 12 63:=⟨by kernel_rfl,by kernel_rfl,by kernel_rfl⟩
theorem akc:Region.free .any (aA 1 Tryz.f91) (ay 12 63) 6=true∧(Region.ready .any (aA 1 Tryz.f91) (ay 12 63)).contains 6=true∧(ay 12 63).setIfInBounds 6 true=ay 12 127:=⟨by kernel_rfl,by kernel_rfl,by kernel_rfl⟩
theorem ai6:Region.free .any (aA 1 Tryz.f91) (ay 12 127) 7=true∧(Region.ready .any (aA 1 Tryz.f91) (ay 12 127)).contains 7=true∧(ay 12 127).setIfInBounds 7 true=ay 12 255:=⟨by kernel_rfl,by kernel_rfl,by kernel_rfl⟩
theorem anj:Region.ready .any (aA 1 Tryz.f91) (ay 12 255)=[8]∧(ay 12 255).setIfInBounds 8 true=ay 12 511:=⟨by kernel_rfl,by kernel_rfl⟩
theorem zZ:Region.ready .any (aA 1 Tryz.f91) (ay 12 511)=[9]∧(ay 12 511).setIfInBounds 9 true=ay 12 1023:=⟨by kernel_rfl,by kernel_rfl⟩
theorem qI:Region.free .any (aA 1 Tryz.f91) (ay 12 1023) 10=true∧(Region.ready .any (aA 1 Tryz.f91) (ay 12 1023)).contains 10=true∧(ay 12 1023).setIfInBounds 10 true=ay 12 2047:=⟨by kernel_rfl,by kernel_rfl,by kernel_rfl⟩
theorem qA:Region.free .any (aA 1 Tryz.f91) (ay 12 2047) 11=true∧(Region.ready .any (aA 1 Tryz.f91) (ay 12 2047)).contains 11=true∧(ay 12 2047).setIfInBounds 11 true=ay 12 4095:=⟨by kernel_rfl,by kernel_rfl,by kernel_rfl⟩
theorem abH:Region.ready .any (aA 1 Tryz.f91) (ay 12 4095)=[]:=by kernel_rfl
theorem afG:Region.ready .any (aA 1 Tryz.f91) (ay 12 263)=[3]∧(ay 12 263).setIfInBounds 3 true=ay 12 271:=⟨by kernel_rfl,by kernel_rfl⟩
theorem aa4:Region.free .any (aA 1 Tryz.f91) (ay 12 271) 4=true∧(Region.ready .any (aA 1 Tryz.f91) (ay 12 271)).contains 4=true∧(ay 12 271).setIfInBounds 4 true=ay 12 287:=⟨by kernel_rfl,by kernel_rfl,by kernel_rfl⟩
theorem aba:Region.free .any (aA 1 Tryz.f91) (ay 12 287) 5=true∧(Region.ready .any (aA 1 Tryz.f91) (ay 12 287)).contains 5=true∧(ay 12 287).setIfInBounds 5 true=ay 12 319:=⟨by kernel_rfl,by kernel_rfl,by kernel_rfl⟩
theorem aaP:Region.free .any (aA 1 Tryz.f91) (ay 12 319) 6=true∧(Region.ready .any (aA 1 Tryz.f91) (ay 12 319)).contains 6=true∧(ay 12 319).setIfInBounds 6 true=ay 12 383:=⟨by kernel_rfl,by kernel_rfl,by kernel_rfl⟩
theorem aaz:Region.free .any (aA 1 Tryz.f91) (ay 12 383) 7=true∧(Region.ready .any (aA 1 Tryz.f91) (ay 12 383)).contains 7=true∧(ay 12 383).setIfInBounds 7 true=ay 12 511:=⟨by kernel_rfl,by kernel_rfl,by kernel_rfl⟩
theorem aoU:Region.ready .any (aA 1 Tryz.f91) (ay 12 261)=[1]∧(ay 12 261).setIfInBounds 1 true=ay 12 263:=⟨by kernel_rfl,by kernel_rfl⟩
theorem asg:Array.replicate 33 false=ay 33 0:=by kernel_rfl
theorem amD:(aA 1 Tryz.f41).size=33:=by kernel_rfl
theorem anH:Region.free .any (aA 1 Tryz.f41) (ay 33 0) 0=true∧(Region.ready .any (aA 1 Tryz.f41) (ay 33 0)).contains 0=true∧(ay 33 0).setIfInBounds 0 true=ay 33 1:=⟨by kernel_rfl,by kernel_rfl,by kernel_rfl⟩
theorem apo:Region.free .any (aA 1 Tryz.f41) (ay 33 1) 1=true∧(Region.ready .any (aA 1 Tryz.f41) (ay 33 1)).contains 1=true∧(ay 33 1).setIfInBounds 1 true=ay 33 3:=⟨by kernel_rfl,by kernel_rfl,by kernel_rfl⟩
theorem apu:Region.free .any (aA 1 Tryz.f41) (ay 33 3) 2=true∧(Region.ready .any (aA 1 Tryz.f41) (ay 33 3)).contains 2=true∧(ay 33 3).setIfInBounds 2 true=ay 33 7:=⟨by kernel_rfl,by kernel_rfl,by kernel_rfl⟩
theorem apH:Region.free .any (aA 1 Tryz.f41) (ay 33 7) 3=true∧(Region.ready .any (aA 1 Tryz.f41) (ay 33 7)).contains 3=true∧(ay 33 7).setIfInBounds 3 true=ay 33 15:=⟨by kernel_rfl,by kernel_rfl,by kernel_rfl⟩
theorem alH:Region.free .any (aA 1 Tryz.f41) (ay 33 15) 4=true∧(Region.ready .any (aA 1 Tryz.f41) (ay 33 15)).contains 4=true∧(ay 33 15).setIfInBounds 4 true=ay 33 31:=⟨by kernel_rfl,by kernel_rfl,by kernel_rfl⟩
theorem ajq:Region.free .any (aA 1 Tryz.f41) (ay 33 31) 5=true∧(Region.ready .any (aA 1 Tryz.f41) (ay 33 31)).contains 5=true∧(ay 33 31).setIfInBounds 5 true=ay 33 63:=⟨by kernel_rfl,by kernel_rfl,by kernel_rfl⟩
theorem alo:Region.free .any (aA 1 Tryz.f41) (ay 33 63) 6=true∧(Region.ready .any (aA 1 Tryz.f41) (ay 33 63)).contains 6=true∧(ay 33 63).setIfInBounds 6 true=ay 33 127:=⟨by kernel_rfl,by kernel_rfl,by kernel_rfl⟩
theorem ajo:Region.free .any (aA 1 Tryz.f41) (ay 33 127) 7=true∧(Region.ready .any (aA 1 Tryz.f41) (ay 33 127)).contains 7=true∧(ay 33 127).setIfInBounds 7 true=ay 33 255:=⟨by kernel_rfl,by kernel_rfl,by kernel_rfl⟩
theorem ahR:Region.free .any (aA 1 Tryz.f41) (ay 33 255) 8=true∧(Region.ready .any (aA 1 Tryz.f41) (ay 33 255)).contains 8=true∧(ay 33 255).setIfInBounds 8 true=ay 33 511:=⟨by kernel_rfl,by kernel_rfl,by kernel_rfl⟩
theorem aiM:Region.free .any (aA 1 Tryz.f41) (ay 33 511) 9=true∧(Region.ready .any (aA 1 Tryz.f41) (ay 33 511)).contains 9=true∧(ay 33 511).setIfInBounds 9 true=ay 33 1023:=⟨by kernel_rfl,by kernel_rfl,by kernel_rfl⟩
theorem afd:Region.free .any (aA 1 Tryz.f41) (ay 33 1023) 10=true∧(Region.ready .any (aA 1 Tryz.f41) (ay 33 1023)).contains 10=true∧(ay 33 1023).setIfInBounds 10 true=ay 33 2047:=⟨by kernel_rfl,by kernel_rfl,by kernel_rfl⟩
theorem afY:Region.free .any (aA 1 Tryz.f41) (ay 33 2047) 11=true∧(Region.ready .any (aA 1 Tryz.f41) (ay 33 2047)).contains 11=true∧(ay 33 2047).setIfInBounds 11 true=ay 33 4095:=⟨by kernel_rfl,by kernel_rfl,by kernel_rfl⟩
theorem aeS:Region.free .any (aA 1 Tryz.f41) (ay 33 4095) 12=true∧(Region.ready .any (aA 1 Tryz.f41) (ay 33 4095)).contains 12=true∧(ay 33 4095).setIfInBounds 12 true=ay 33 8191:=⟨by kernel_rfl,by kernel_rfl,by kernel_rfl⟩
theorem afL:Region.free .any (aA 1 Tryz.f41) (ay 33 8191) 13=true∧(Region.ready .any (aA 1 Tryz.f41) (ay 33 8191)).contains 13=true∧(ay 33 8191).setIfInBounds 13 true=ay 33 16383:=⟨by kernel_rfl,by kernel_rfl,by kernel_rfl⟩
theorem ado:Region.free .any (aA 1 Tryz.f41) (ay 33 16383) 14=true∧(Region.ready .any (aA 1 Tryz.f41) (ay 33 16383)).contains 14=true∧(ay 33 16383).setIfInBounds 14 true=ay 33 32767:=⟨by kernel_rfl,by kernel_rfl,by kernel_rfl⟩
theorem adu:Region.free .any (aA 1 Tryz.f41) (ay 33 32767) 15=true∧(Region.ready .any (aA 1 Tryz.f41) (ay 33 32767)).contains 15=true∧(ay 33 32767).setIfInBounds 15 true=ay 33 65535:=⟨by kernel_rfl,by kernel_rfl,by kernel_rfl⟩
theorem adm:Region.free .any (aA 1 Tryz.f41) (ay 33 65535) 18=true∧(Region.ready .any (aA 1 Tryz.f41) (ay 33 65535)).contains 18=true∧(ay 33 65535).setIfInBounds 18 true=ay 33 327679:=⟨by kernel_rfl,by kernel_rfl,by kernel_rfl⟩
theorem abP:Region.free .any (aA 1 Tryz.f41) (ay 33 327679) 19=true∧(Region.ready .any (aA 1 Tryz.f41) (ay 33 327679)).contains 19=true∧(ay 33 327679).setIfInBounds 19 true=ay 33 851967:=⟨by kernel_rfl,by kernel_rfl,by kernel_rfl⟩
theorem abG:Region.free .any (aA 1 Tryz.f41) (ay 33 851967) 20=true∧(Region.ready .any (aA 1 Tryz.f41) (ay 33 851967)).contains 20=true∧(ay 33 851967).setIfInBounds 20 true=ay 33 1900543:=⟨by kernel_rfl,by kernel_rfl,by kernel_rfl⟩
theorem abt:Region.free .any (aA 1 Tryz.f41) (ay 33 1900543) 21=true∧(Region.ready .any (aA 1 Tryz.f41) (ay 33 1900543)).contains 21=true∧(ay 33 1900543).setIfInBounds 21 true=ay 33 3997695:=⟨by kernel_rfl,by kernel_rfl,by kernel_rfl⟩
theorem aaB:Region.free .any (aA 1 Tryz.f41) (ay 33 3997695) 22=true∧(Region.ready .any (aA 1 Tryz.f41) (ay 33 3997695)).contains 22=true∧(ay 33 3997695).setIfInBounds 22 true=ay 33 8191999:=⟨by kernel_rfl,by kernel_rfl,by kernel_rfl⟩
theorem aem:Region.ready .any (aA 1 Tryz.f41) (ay 33 8191999)=[16]∧(ay 33 8191999).setIfInBounds 16 true=ay 33 8257535:=⟨by kernel_rfl,by kernel_rfl⟩
theorem abb:Region.free .any (aA 1 Tryz.f41) (ay 33 8257535) 17=true∧(Region.ready .any (aA 1 Tryz.f41) (ay 33 8257535)).contains 17=true∧(ay 33 8257535).setIfInBounds 17 true=ay 33 8388607:=⟨by kernel_rfl,by kernel_rfl,by kernel_rfl⟩
theorem af4:Region.ready .any (aA 1 Tryz.f41) (ay 33 8388607)=[23]∧(ay 33 8388607).setIfInBounds 23 true=ay 33 16777215:=⟨by kernel_rfl,by kernel_rfl⟩
theorem ady:Region.ready .any (aA 1 Tryz.f41) (ay 33 16777215)=[24]∧(ay 33 16777215).setIfInBounds 24 true=ay 33 33554431:=⟨by kernel_rfl,by kernel_rfl⟩
theorem aab:Region.free .any (aA 1 Tryz.f41) (ay 33 33554431) 25=true∧(Region.ready .any (aA 1 Tryz.f41) (ay 33 33554431)).contains 25=true∧(ay 33 33554431).setIfInBounds 25 true=ay 33 67108863:=⟨by kernel_rfl,by kernel_rfl,by kernel_rfl⟩
theorem aaj:Region.free .any (aA 1 Tryz.f41) (ay 33 67108863) 26=true∧(Region.ready .any (aA 1 Tryz.f41) (ay 33 67108863)).contains 26=true∧(ay 33 67108863).setIfInBounds 26 true=ay 33 134217727:=⟨by kernel_rfl,by kernel_rfl,by kernel_rfl⟩
theorem yT:Region.free .any (aA 1 Tryz.f41) (ay 33 134217727) 27=true∧(Region.ready .any (aA 1 Tryz.f41) (ay 33 134217727)).contains 27=true∧(ay 33 134217727).setIfInBounds 27 true=ay 33 268435455:=⟨by kernel_rfl,by kernel_rfl,by kernel_rfl⟩
theorem yU:Region.free .any (aA 1 Tryz.f41) (ay 33 268435455) 28=true∧(Region.ready .any (aA 1 Tryz.f41) (ay 33 268435455)).contains 28=true∧(ay 33 268435455).setIfInBounds 28 true=ay 33 536870911:=⟨by kernel_rfl,by kernel_rfl,by kernel_rfl⟩
theorem yO:Region.free .any (aA 1 Tryz.f41) (ay 33 536870911) 29=true∧(Region.ready .any (aA 1 Tryz.f41) (ay 33 536870911)).contains 29=true∧(ay 33 536870911).setIfInBounds 29 true=ay 33 1073741823:=⟨by kernel_rfl,by kernel_rfl,by kernel_rfl⟩
theorem xE:Region.free .any (aA 1 Tryz.f41) (ay 33 1073741823) 30=true∧(Region.ready .any (aA 1 Tryz.f41) (ay 33 1073741823)).contains 30=true∧(ay 33 1073741823).setIfInBounds 30 true=ay 33 2147483647:=⟨by kernel_rfl,by kernel_rfl,by kernel_rfl⟩
theorem aaT:Region.ready .any (aA 1 Tryz.f41) (ay 33 2147483647)=[31]∧(ay 33 2147483647).setIfInBounds 31 true=ay 33 4294967295:=⟨by kernel_rfl,by kernel_rfl⟩
theorem xI:Region.free .any (aA 1 Tryz.f41) (ay 33 4294967295) 32=true∧(Region.ready .any (aA 1 Tryz.f41) (ay 33 4294967295)).contains 32=true∧(ay 33 4294967295).setIfInBounds 32 true=ay 33 8589934591:=⟨by kernel_rfl,by kernel_rfl,by kernel_rfl⟩
theorem asu:Region.ready .any (aA 1 Tryz.f41) (ay 33 8589934591)=[]:=by kernel_rfl
end Go.Proofs.YtjemlgdkjilnoaaGreatDoor
