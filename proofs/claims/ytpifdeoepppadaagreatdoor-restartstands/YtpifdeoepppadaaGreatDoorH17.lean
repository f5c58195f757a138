/- Texts of one layer, one behind the other. -/
import Derived.Test.YtpifdeoepppadaaGreatDoorG24
import Derived.Test.YtpifdeoepppadaaGreatDoorProg
import Derived.Test.YtpifdeoepppadaaGreatDoorG8
set_option maxRecDepth 100000
set_option maxHeartbeats 8000000
namespace Go.Proofs.YtpifdeoepppadaaGreatDoor
open Go.RowKit
set_option linter.unusedVariables false
theorem auO:Array.replicate 28 false=aj 28 0:=by kernel_rfl
theorem arJ:(au 1 Tryz.f47).size=28:=by kernel_rfl
theorem aqz:Region.free .any (au 1 Tryz.f47) (aj 28 0) 0=true∧(Region.ready .any (au 1 Tryz.f47) (aj 28 0)).contains 0=true∧(aj 28 0).setIfInBounds 0 true=aj 28 1:=⟨by kernel_rfl,by kernel_rfl,by kernel_rfl⟩
theorem aqb:Region.free .any (au 1 Tryz.f47) (aj 28 1) 1=true∧(Region.ready .any (au 1 Tryz.f47) (aj 28 1)).contains 1=true∧(aj 28 1).setIfInBounds 1 true=aj 28 3:=⟨by kernel_rfl,by kernel_rfl,by kernel_rfl⟩
theorem arA:Region.free .any (au 1 Tryz.f47) (aj 28 3) 2=true∧(Region.ready .any (au 1 Tryz.f47) (aj 28 3)).contains 2=true∧(aj 28 3).setIfInBounds 2 true=aj 28 7:=⟨by kernel_rfl,by kernel_rfl,by kernel_rfl⟩
theorem apa:Region.free .any (au 1 Tryz.f47) (aj 28 7) 3=true∧(Region.ready .any (au 1 Tryz.f47) (aj 28 7)).contains 3=true∧(aj 28 7).setIfInBounds 3 true=aj 28 15:=⟨by kernel_rfl,by kernel_rfl,by kernel_rfl⟩
theorem al1:Region.free .any (au 1 Tryz.f47) (aj 28 15) 4=true∧(Region.ready .any (au 1 Tryz.f47) (aj 28 15)).contains 4=true∧(aj 28 15).setIfInBounds 4 true=aj 28 31:=⟨by kernel_rfl,by kernel_rfl,by kernel_rfl⟩
theorem ana:Region.free .any (au 1 Tryz.f47) (aj 28 31) 5=true∧(Region.ready .any (au 1 Tryz.f47) (aj 28 31)).contains 5=true∧(aj 28 31).setIfInBounds 5 true=aj 28 63:=⟨by kernel_rfl,by kernel_rfl,by kernel_rfl⟩
theorem anJ:Region.free .any (au 1 Tryz.f47) (aj 28 63) 6=true∧(Region.ready .any (au 1 Tryz.f47) (aj 28 63)).contains 6=true∧(aj 28 63).setIfInBounds 6 true=aj 28 127:=⟨by kernel_rfl,by kernel_rfl,by kernel_rfl⟩
theorem akE:Region.free .any (au 1 Tryz.f47) (aj 28 127) 7=true∧(Region.ready .any (au 1 Tryz.f47) (aj 28 127)).contains 7=true∧(aj 28 127).setIfInBounds 7 true=aj 28 255:=⟨by kernel_rfl,by kernel_rfl,by kernel_rfl⟩
theorem akx:Region.free .any (au 1 Tryz.f47) (aj 28 255) 8=true∧(Region.ready .any (au 1 Tryz.f47) (aj 28 255)).contains 8=true∧(aj 28 255).setIfInBounds 8 true=aj 28 511:=⟨by kernel_rfl,by kernel_rfl,by kernel_rfl⟩
theorem ajO:Region.free .any (au 1 Tryz.f47) (aj 28 511) 9=true∧(Region.ready .any (au 1 Tryz.f47) (aj 28 511)).contains 9=true∧(aj 28 511).setIfInBounds 9 true=aj 28 1023:=⟨by kernel_rfl,by kernel_rfl,by kernel_rfl⟩
theorem ag2:Region.free .any (au 1 Tryz.f47) (aj 28 1023) 11=true∧(Region.ready .any (au 1 Tryz.f47) (aj 28 1023)).contains 11=true∧(aj 28 1023).setIfInBounds 11 true=aj 28 3071:=⟨by kernel_rfl,by kernel_rfl,by kernel_rfl⟩
theorem agr:Region.free .any (au 1 Tryz.f47) (aj 28 3071) 12=true∧(Region.ready .any (au 1 Tryz.f47) (aj 28 3071)).contains 12=true∧(aj 28 3071).setIfInBounds 12 true=aj 28 7167:=⟨by kernel_rfl,by kernel_rfl,by kernel_rfl⟩
theorem ah4:Region.free .any (au 1 Tryz.f47) (aj 28 7167) 13=true∧(Region.ready .any (au 1 Tryz.f47) (aj 28 7167)).contains 13=true∧(aj 28 7167).setIfInBounds 13 true=aj 28 15359:=⟨by kernel_rfl,by kernel_rfl,by kernel_rfl⟩
theorem aeY:Region.free .any (au 1 Tryz.f47) (aj 28 15359) 14=true∧(Region.ready .any (au 1 Tryz.f47) (aj 28 15359)).contains 14=true∧(aj 28 15359).setIfInBounds 14 true=aj 28 31743:=⟨by kernel_rfl,by kernel_rfl,by kernel_rfl⟩
theorem ae0:Region.free .any (au 1 Tryz.f47) (aj 28 31743) 15=true∧(Region.ready .any (au 1 Tryz.f47) (aj 28 31743)).contains 15=true∧(aj 28 31743).setIfInBounds 15 true=aj 28 64511:=⟨by kernel_rfl,by kernel_rfl,by kernel_rfl⟩
theorem aeS:Region.free .any (au 1 Tryz.f47) (aj 28 64511) 16=true∧(Region.ready .any (au 1 Tryz.f47) (aj 28 64511)).contains 16=true∧(aj 28 64511).setIfInBounds 16 true=aj 28 130047:=⟨by kernel_rfl,by kernel_rfl,by kernel_rfl⟩
theorem ac3:Region.free .any (au 1 Tryz.f47) (aj 28 130047) 17=true∧(Region.ready .any (au 1 Tryz.f47) (aj 28 130047)).contains 17=true∧(aj 28 130047).setIfInBounds 17 true=aj 28 261119:=⟨by kernel_rfl,by kernel_rfl,by kernel_rfl⟩
theorem ac7:Region.free .any (au 1 Tryz.f47) (aj 28 261119) 18=true∧(Region.ready .any (au 1 Tryz.f47) (aj 28 261119)).contains 18=true∧(aj 28 261119).setIfInBounds 18 true=aj 28 523263:=⟨by kernel_rfl,by kernel_rfl,by kernel_rfl⟩
theorem adf:Region.free .any (au 1 Tryz.f47) (aj 28 523263) 19=true∧(Region.ready .any (au 1 Tryz.f47) (aj 28 523263)).contains 19=true∧(aj 28 523263).setIfInBounds 19 true=aj 28 1047551:=⟨by kernel_rfl,by kernel_rfl,by kernel_rfl⟩
theorem abI:Region.free .any (au 1 Tryz.f47) (aj 28 1047551) 20=true∧(Region.ready .any (au 1 Tryz.f47) (aj 28 1047551)).contains 20=true∧(aj 28 1047551).setIfInBounds 20 true=aj 28 2096127:=⟨by kernel_rfl,by kernel_rfl,by kernel_rfl⟩
theorem acR:Region.free .any (au 1 Tryz.f47) (aj 28 2096127) 22=true∧(Region.ready .any (au 1 Tryz.f47) (aj 28 2096127)).contains 22=true∧(aj 28 2096127).setIfInBounds 22 true=aj 28 6290431:=⟨by kernel_rfl,by kernel_rfl,by kernel_rfl⟩
theorem acK:Region.free .any (au 1 Tryz.f47) (aj 28 6290431) 23=true∧(Region.ready .any (au 1 Tryz.f47) (aj 28 6290431)).contains 23=true∧(aj 28 6290431).setIfInBounds 23 true=aj 28 14679039:=⟨by kernel_rfl,by kernel_rfl,by kernel_rfl⟩
theorem aaX:Region.free .any (au 1 Tryz.f47) (aj 28 14679039) 24=true∧(Region.ready .any (au 1 Tryz.f47) (aj 28 14679039)).contains 24=true∧(aj 28 14679039).setIfInBounds 24 true=aj 28 31456255:=⟨by kernel_rfl,by kernel_rfl,by kernel_rfl⟩
theorem ae2:Region.ready .any (au 1 Tryz.f47) (aj 28 31456255)=[10,25]∧(aj 28 31456255).setIfInBounds 10 true=aj 28 31457279∧(aj 28 31456255).setIfInBounds 25 true=aj 28 65010687:=⟨by kernel_rfl,by kernel_rfl,by kernel_rfl⟩
theorem aeT:Region.ready .any (au 1 Tryz.f47) (aj 28 31457279)=[21,25]∧(aj 28 31457279).setIfInBounds 21 true=aj 28 33554431∧(aj 28 31457279).setIfInBounds 25 true=aj 28 65011711:=⟨by kernel_rfl,by kernel_rfl,by kernel_rfl⟩
theorem ae9:Region.ready .any (au 1 Tryz.f47) (aj 28 33554431)=[25]∧(aj 28 33554431).setIfInBounds 25 true=aj 28 67108863:=⟨by kernel_rfl,by kernel_rfl⟩
theorem lQ:Region.free .any (au 1 Tryz.f47) (aj 28 67108863) 26=true∧(Region.ready .any (au 1 Tryz.f47) (aj 28 67108863)).contains 26=true∧(aj 28 67108863).setIfInBounds 26 true=aj 28 134217727:=⟨by kernel_rfl,by kernel_rfl,by kernel_rfl⟩
theorem nO:Region.ready .any (au 1 Tryz.f47) (aj 28 134217727)=[27]∧(aj 28 134217727).setIfInBounds 27 true=aj 28 268435455:=⟨by kernel_rfl,by kernel_rfl⟩
theorem adi:Region.ready .any (au 1 Tryz.f47) (aj 28 268435455)=[]:=by kernel_rfl
theorem xP:Region.ready .any (au 1 Tryz.f47) (aj 28 65011711)=[21]∧(aj 28 65011711).setIfInBounds 21 true=aj 28 67108863:=⟨by kernel_rfl,by kernel_rfl⟩
theorem ae4:Region.ready .any (au 1 Tryz.f47) (aj 28 65010687)=[10]∧(aj 28 65010687).setIfInBounds 10 true=aj 28 65011711:=⟨by kernel_rfl,by kernel_rfl⟩
theorem ah6 {V:World}{p q:Nat}{t:TypeId}{off:Bool}{y:Pm.Pg}{vw vr vs:Value}{en:Int}(hP:V.heap[p]? =some (.cells (fw q off y vw en vr vs) t (0,0)))(x:Pm.Pg):
  ∃V',((((((V.setCell ⟨p,2,none⟩ (.int .i64 x.e)).setCell ⟨p,3,none⟩ (.int .u8 x.r)).setCell ⟨p,4,none⟩ (.int .i64 x.a)).setCell ⟨p,5,none⟩ (.int .u8 x.p)).setCell ⟨p,6,none⟩ (.int .i64 x.f)).setCell ⟨p,7,none⟩ (.int .i64 x.b))=V'∧V'.heap[p]? =some (.cells (fw q off x vw en vr vs) t (0,0))∧V.grownBy V' (some p)∧∀j,V.frozen? ⟨p,j,none⟩=false:=by
 have q0:(V.setCell ⟨p,2,none⟩ (.int .i64 x.e)).heap[p]? =some (.cells #[.pointer (some ⟨q,0,none⟩),.bool off,.int .i64 x.e,.int .u8 y.r,.int .i64 y.a,.int .u8 y.p,.int .i64 y.f,.int .i64 y.b,vw,.int .i64 en,.slice none 0 0,vr,vs] t (0,0)):=aL hP 2 (.int .i64 x.e)
 have q1:((V.setCell ⟨p,2,none⟩ (.int .i64 x.e)).setCell ⟨p,3,none⟩ (.int .u8 x.r)).heap[p]? =some (.cells #[.pointer (some ⟨q,0,none⟩),.bool off,.int .i64 x.e,.int .u8 x.r,.int .i64 y.a,.int .u8 y.p,.int .i64 y.f,.int .i64 y.b,vw,.int .i64 en,.slice none 0 0,vr,vs] t (0,0)):=aL q0 3 (.int .u8 x.r)
 have q2:(((V.setCell ⟨p,2,none⟩ (.int .i64 x.e)).setCell ⟨p,3,none⟩ (.int .u8 x.r)).setCell ⟨p,4,none⟩ (.int .i64 x.a)).heap[p]? =some (.cells #[.pointer (some ⟨q,0,none⟩),.bool off,.int .i64 x.e,.int .u8 x.r,.int .i64 x.a,.int .u8 y.p,.int .i64 y.f,.int .i64 y.b,vw,.int .i64 en,.slice none 0 0,vr,vs] t (0,0)):=aL q1 4 (.int .i64 x.a)
 have q3:((((V.setCell ⟨p,2,none⟩ (.int .i64 x.e)).setCell ⟨p,3,none⟩ (.int .u8 x.r)).setCell ⟨p,4,none⟩ (.int .i64 x.a)).setCell ⟨p,5,none⟩ (.int .u8 x.p)).heap[p]? =some (.cells #[.pointer (some ⟨q,0,none⟩),.bool off,.int .i64 x.e,.int .u8 x.r,.int .i64 x.a,.int .u8 x.p,.int .i64 y.f,.int .i64 y.b,vw,.int .i64 en,.slice none 0 0,vr,vs] t (0,0)):=aL q2 5 (.int .u8 x.p)
 have q4:(((((V.setCell ⟨p,2,none⟩ (.int .i64 x.e)).setCell ⟨p,3,none⟩ (.int .u8 x.r)).setCell ⟨p,4,none⟩ (.int .i64 x.a)).setCell ⟨p,5,none⟩ (.int .u8 x.p)).setCell ⟨p,6,none⟩ (.int .i64 x.f)).heap[p]? =some (.cells #[.pointer (some ⟨q,0,none⟩),.bool off,.int .i64 x.e,.int .u8 x.r,.int .i64 x.a,.int .u8 x.p,.int .i64 x.f,.int .i64 y.b,vw,.int .i64 en,.slice none 0 0,vr,vs] t (0,0)):=aL q3 6 (.int .i64 x.f)
 have q5:((((((V.setCell ⟨p,2,none⟩ (.int .i64 x.e)).setCell ⟨p,3,none⟩ (.int .u8 x.r)).setCell ⟨p,4,none⟩ (.int .i64 x.a)).setCell ⟨p,5,none⟩ (.int .u8 x.p)).setCell ⟨p,6,none⟩ (.int .i64 x.f)).setCell ⟨p,7,none⟩ (.int .i64 x.b)).heap[p]? =some (.cells #[.pointer (some ⟨q,0,none⟩),.bool off,.int .i64 x.e,.int .u8 x.r,.int .i64 x.a,.int .u8 x.p,.int .i64 x.f,.int .i64 x.b,vw,.int .i64 en,.slice none 0 0,vr,vs] t (0,0)):=aL q4 7 (.int .i64 x.b)
 exact⟨_,rfl,q5,aO (aO (aO (aO (aO (aC V ⟨p,2,none⟩ (.int .i64 x.e)) (aC _ ⟨p,3,none⟩ (.int .u8 x.r))) (aC _ ⟨p,4,none⟩ (.int .i64 x.a))) (aC _ ⟨p,5,none⟩ (.int .u8 x.p))) (aC _ ⟨p,6,none⟩ (.int .i64 x.f))) (aC _ ⟨p,7,none⟩ (.int .i64 x.b)),az hP⟩
theorem aua:Array.replicate 33 false=aj 33 0:=by kernel_rfl
theorem apb:(au 1 Tryz.f49).size=33:=by kernel_rfl
theorem aqw:Region.free .any (au 1 Tryz.f49) (aj 33 0) 0=true∧(Region.ready .any (au 1 Tryz.f49) (aj 33 0)).contains 0=true∧(aj 33 0).setIfInBounds 0 true=aj 33 1:=⟨by kernel_rfl,by kernel_rfl,by kernel_rfl⟩
theorem apD:Region.free .any (au 1 Tryz.f49) (aj 33 1) 1=true∧(Region.ready .any (au 1 Tryz.f49) (aj 33 1)).contains 1=true∧(aj 33 1).setIfInBounds 1 true=aj 33 3:=⟨by kernel_rfl,by kernel_rfl,by kernel_rfl⟩
theorem apf:Region.free .any (au 1 Tryz.f49) (aj 33 3) 2=true∧(Region.ready .any (au 1 Tryz.f49) (aj 33 3)).contains 2=true∧(aj 33 3).setIfInBounds 2 true=aj 33 7:=⟨by kernel_rfl,by kernel_rfl,by kernel_rfl⟩
theorem aoK:Region.free .any (au 1 Tryz.f49) (aj 33 7) 3=true∧(Region.ready .any (au 1 Tryz.f49) (aj 33 7)).contains 3=true∧(aj 33 7).setIfInBounds 3 true=aj 33 15:=⟨by kernel_rfl,by kernel_rfl,by kernel_rfl⟩
theorem alQ:Region.free .any (au 1 Tryz.f49) (aj 33 15) 4=true∧(Region.ready .any (au 1 Tryz.f49) (aj 33 15)).contains 4=true∧(aj 33 15).setIfInBounds 4 true=aj 33 31:=⟨by kernel_rfl,by kernel_rfl,by kernel_rfl⟩
theorem ame:Region.free .any (au 1 Tryz.f49) (aj 33 31) 5=true∧(Region.ready .any (au 1 Tryz.f49) (aj 33 31)).contains 5=true∧(aj 33 31).setIfInBounds 5 true=aj 33 63:=⟨by kernel_rfl,by kernel_rfl,by kernel_rfl⟩
theorem alM:Region.free .any (au 1 Tryz.f49) (aj 33 63) 6=true∧(Region.ready .any (au 1 Tryz.f49) (aj 33 63)).contains 6=true∧(aj 33 63).setIfInBounds 6 true=aj 33 127:=⟨by kernel_rfl,by kernel_rfl,by kernel_rfl⟩
theorem akO:Region.free .any (au 1 Tryz.f49) (aj 33 127) 7=true∧(Region.ready .any (au 1 Tryz.f49) (aj 33 127)).contains 7=true∧(aj 33 127).setIfInBounds 7 true=aj 33 255:=⟨by kernel_rfl,by kernel_rfl,by kernel_rfl⟩
theorem akt:Region.free .any (au 1 Tryz.f49) (aj 33 255) 8=true∧(Region.ready .any (au 1 Tryz.f49) (aj 33 255)).contains 8=true∧(aj 33 255).setIfInBounds 8 true=aj 33 511:=⟨by kernel_rfl,by kernel_rfl,by kernel_rfl⟩
theorem ajM:Region.free .any (au 1 Tryz.f49) (aj 33 511) 9=true∧(Region.ready .any (au 1 Tryz.f49) (aj 33 511)).contains 9=true∧(aj 33 511).setIfInBounds 9 true=aj 33 1023:=⟨by kernel_rfl,by kernel_rfl,by kernel_rfl⟩
theorem afO:Region.free .any (au 1 Tryz.f49) (aj 33 1023) 10=true∧(Region.ready .any (au 1 Tryz.f49) (aj 33 1023)).contains 10=true∧(aj 33 1023).setIfInBounds 10 true=aj 33 2047:=⟨by kernel_rfl,by kernel_rfl,by kernel_rfl⟩
theorem ahM:Region.free .any (au 1 Tryz.f49) (aj 33 2047) 11=true∧(Region.ready .any (au 1 Tryz.f49) (aj 33 2047)).contains 11=true∧(aj 33 2047).setIfInBounds 11 true=aj 33 4095:=⟨by kernel_rfl,by kernel_rfl,by kernel_rfl⟩
theorem afL:Region.free .any (au 1 Tryz.f49) (aj 33 4095) 12=true∧(Region.ready .any (au 1 Tryz.f49) (aj 33 4095)).contains 12=true∧(aj 33 4095).setIfInBounds 12 true=aj 33 8191:=⟨by kernel_rfl,by kernel_rfl,by kernel_rfl⟩
theorem agp:Region.free .any (au 1 Tryz.f49) (aj 33 8191) 13=true∧(Region.ready .any (au 1 Tryz.f49) (aj 33 8191)).contains 13=true∧(aj 33 8191).setIfInBounds 13 true=aj 33 16383:=⟨by kernel_rfl,by kernel_rfl,by kernel_rfl⟩
theorem ae3:Region.free .any (au 1 Tryz.f49) (aj 33 16383) 14=true∧(Region.ready .any (au 1 Tryz.f49) (aj 33 16383)).contains 14=true∧(aj 33 16383).setIfInBounds 14 true=aj 33 32767:=⟨by kernel_rfl,by kernel_rfl,by kernel_rfl⟩
theorem afc:Region.free .any (au 1 Tryz.f49) (aj 33 32767) 15=true∧(Region.ready .any (au 1 Tryz.f49) (aj 33 32767)).contains 15=true∧(aj 33 32767).setIfInBounds 15 true=aj 33 65535:=⟨by kernel_rfl,by kernel_rfl,by kernel_rfl⟩
theorem ae8:Region.free .any (au 1 Tryz.f49) (aj 33 65535) 18=true∧(Region.ready .any (au 1 Tryz.f49) (aj 33 65535)).contains 18=true∧(aj 33 65535).setIfInBounds 18 true=aj 33 327679:=⟨by kernel_rfl,by kernel_rfl,by kernel_rfl⟩
theorem adh:Region.free .any (au 1 Tryz.f49) (aj 33 327679) 19=true∧(Region.ready .any (au 1 Tryz.f49) (aj 33 327679)).contains 19=true∧(aj 33 327679).setIfInBounds 19 true=aj 33 851967:=⟨by kernel_rfl,by kernel_rfl,by kernel_rfl⟩
theorem ac6:Region.free .any (au 1 Tryz.f49) (aj 33 851967) 20=true∧(Region.ready .any (au 1 Tryz.f49) (aj 33 851967)).contains 20=true∧(aj 33 851967).setIfInBounds 20 true=aj 33 1900543:=⟨by kernel_rfl,by kernel_rfl,by kernel_rfl⟩
theorem acQ:Region.free .any (au 1 Tryz.f49) (aj 33 1900543) 21=true∧(Region.ready .any (au 1 Tryz.f49) (aj 33 1900543)).contains 21=true∧(aj 33 1900543).setIfInBounds 21 true=aj 33 3997695:=⟨by kernel_rfl,by kernel_rfl,by kernel_rfl⟩
theorem abY:Region.free .any (au 1 Tryz.f49) (aj 33 3997695) 22=true∧(Region.ready .any (au 1 Tryz.f49) (aj 33 3997695)).contains 22=true∧(aj 33 3997695).setIfInBounds 22 true=aj 33 8191999:=⟨by kernel_rfl,by kernel_rfl,by kernel_rfl⟩
theorem ahR:Region.ready .any (au 1 Tryz.f49) (aj 33 8191999)=[16]∧(aj 33 8191999).setIfInBounds 16 true=aj 33 8257535:=⟨by kernel_rfl,by kernel_rfl⟩
theorem abH:Region.free .any (au 1 Tryz.f49) (aj 33 8257535) 17=true∧(Region.ready .any (au 1 Tryz.f49) (aj 33 8257535)).contains 17=true∧(aj 33 8257535).setIfInBounds 17 true=aj 33 8388607:=⟨by kernel_rfl,by kernel_rfl,by kernel_rfl⟩
theorem ahE:Region.ready .any (au 1 Tryz.f49) (aj 33 8388607)=[23]∧(aj 33 8388607).setIfInBounds 23 true=aj 33 16777215:=⟨by kernel_rfl,by kernel_rfl⟩
theorem aeR:Region.ready .any (au 1 Tryz.f49) (aj 33 16777215)=[24]∧(aj 33 16777215).setIfInBounds 24 true=aj 33 33554431:=⟨by kernel_rfl,by kernel_rfl⟩
theorem aa8:Region.free .any (au 1 Tryz.f49) (aj 33 33554431) 25=true∧(Region.ready .any (au 1 Tryz.f49) (aj 33 33554431)).contains 25=true∧(aj 33 33554431).setIfInBounds 25 true=aj 33 67108863:=⟨by kernel_rfl,by kernel_rfl,by kernel_rfl⟩
theorem aa7:Region.free .any (au 1 Tryz.f49) (aj 33 67108863) 26=true∧(Region.ready .any (au 1 Tryz.f49) (aj 33 67108863)).contains 26=true∧(aj 33 67108863).setIfInBounds 26 true=aj 33 134217727:=⟨by kernel_rfl,by kernel_rfl,by kernel_rfl⟩
theorem aaf:Region.free .any (au 1 Tryz.f49) (aj 33 134217727) 27=true∧(Region.ready .any (au 1 Tryz.f49) (aj 33 134217727)).contains 27=true∧(aj 33 134217727).setIfInBounds 27 true=aj 33 268435455:=⟨by kernel_rfl,by kernel_rfl,by kernel_rfl⟩
theorem aac:Region.free .any (au 1 Tryz.f49) (aj 33 268435455) 28=true∧(Region.ready .any (au 1 Tryz.f49) (aj 33 268435455)).contains 28=true∧(aj 33 268435455).setIfInBounds 28 true=aj 33 536870911:=⟨by kernel_rfl,by kernel_rfl,by kernel_rfl⟩
theorem aaa:Region.free .any (au 1 Tryz.f49) (aj 33 536870911) 29=true∧(Region.ready .any (au 1 Tryz.f49) (aj 33 536870911)).contains 29=true∧(aj 33 536870911).setIfInBounds 29 true=aj 33 1073741823:=⟨by kernel_rfl,by kernel_rfl,by kernel_rfl⟩
theorem yh:Region.free .any (au 1 Tryz.f49) (aj 33 1073741823) 30=true∧(Region.ready .any (au 1 Tryz.f49) (aj 33 1073741823)).contains 30=true∧(aj 33 1073741823).setIfInBounds 30 true=aj 33 2147483647:=⟨by kernel_rfl,by kernel_rfl,by kernel_rfl⟩
theorem acA:Region.ready .any (au 1 Tryz.f49) (aj 33 2147483647)=[31]∧(aj 33 2147483647).setIfInBounds 31 true=aj 33 4294967295:=⟨by kernel_rfl,by kernel_rfl⟩
theorem zi:Region.free .any (au 1 Tryz.f49) (aj 33 4294967295) 32=true∧(Region.ready .any (au 1 Tryz.f49) (aj 33 4294967295)).contains 32=true∧(aj 33 4294967295).setIfInBounds 32 true=aj 33 8589934591:=⟨by kernel_rfl,by kernel_rfl,by kernel_rfl⟩
theorem at1:Region.ready .any (au 1 Tryz.f49) (aj 33 8589934591)=[]:=by kernel_rfl
end Go.Proofs.YtpifdeoepppadaaGreatDoor
