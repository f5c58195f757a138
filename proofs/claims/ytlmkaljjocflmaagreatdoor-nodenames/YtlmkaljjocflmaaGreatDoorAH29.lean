/- Texts of one layer, one behind the other. -/
import Derived.Test.YtlmkaljjocflmaaGreatDoorProg
import Derived.Test.YtlmkaljjocflmaaGreatDoorAH1
import Derived.Test.YtlmkaljjocflmaaGreatDoorAH3
set_option maxRecDepth 100000
set_option maxHeartbeats 8000000
namespace Go.Proofs.YtlmkaljjocflmaaGreatDoor
open Go.RowKit
set_option linter.unusedVariables false
def I64 (z:Int):Prop:=-9223372036854775808≤z∧z≤9223372036854775807
def pk (x n:Int):Int:=if x.tmod n<0 then x.tmod n+n else x.tmod n
def bg.ck (m:Int):Int:=if 1≤m∧m≤16 then 0 else 2
abbrev bg.In (e a:Int):Prop:=0≤e∧e≤1048576∧0≤a∧a≤e
def bg.oV (e a:Int):Int:=if 0≤e∧e≤1048576∧0≤a∧a≤e then e-a else 0
def bg.oE (e a:Int):Int:=if 0≤e∧e≤1048576∧0≤a∧a≤e then 0 else 2
def bg.ad (e a m:Int):Int:=if 1≤m∧m≤16 then(if 0≤e∧e≤1048576∧0≤a∧a≤e then(if m≤e-a then 8 else if e=1048576 then 2 else 0)else 2)else 2
def bg.kV (e a t:Int):Int:=if 0≤e∧e≤1048576∧0≤a∧a≤e then(if t≤a then a else if t≤e then t else e)else 0
theorem jf (m:Int)(w:World):Calls Tryz.prog 71 #[.int .i64 m] w fun E w'=>E=.returned (.int .i64 (bg.ck m))∧w=w':=by
 by_cases h1:m<1
 ·rw[show bg.ck m=2 from if_neg (by omega)]
  go_enter Tryz.func71,Tryz.ntmps71
  go_wp2
  go_ret
  exact⟨rfl,rfl⟩
 ·by_cases h2:16<m
  ·rw[show bg.ck m=2 from if_neg (by omega)]
   go_enter Tryz.func71,Tryz.ntmps71
   go_wp2
   go_ret
   exact⟨rfl,rfl⟩
  ·rw[show bg.ck m=0 from if_pos (by omega)]
   go_enter Tryz.func71,Tryz.ntmps71
   go_wp2
   go_ret
   exact⟨rfl,rfl⟩
theorem il (e a:Int)(w:World):Calls Tryz.prog 78 #[.int .i64 e,.int .i64 a] w fun E w'=>E=.returned (.tuple #[.int .i64 (bg.oV e a),.int .i64 (bg.oE e a)])∧w=w':=by
 by_cases h1:e<0
 ·rw[show bg.oV e a=0 from if_neg (by omega),show bg.oE e a=2 from if_neg (by omega)]
  go_enter Tryz.func78,Tryz.ntmps78
  go_wp2
  go_ret2
  exact⟨rfl,rfl⟩
 ·by_cases h2:1048576<e
  ·rw[show bg.oV e a=0 from if_neg (by omega),show bg.oE e a=2 from if_neg (by omega)]
   go_enter Tryz.func78,Tryz.ntmps78
   go_wp2
   go_ret2
   exact⟨rfl,rfl⟩
  ·by_cases h3:a<0
   ·rw[show bg.oV e a=0 from if_neg (by omega),show bg.oE e a=2 from if_neg (by omega)]
    go_enter Tryz.func78,Tryz.ntmps78
    go_wp2
    go_ret2
    exact⟨rfl,rfl⟩
   ·by_cases h4:e<a
    ·rw[show bg.oV e a=0 from if_neg (by omega),show bg.oE e a=2 from if_neg (by omega)]
     go_enter Tryz.func78,Tryz.ntmps78
     go_wp2
     go_ret2
     exact⟨rfl,rfl⟩
    ·rw[show bg.oV e a=e-a from if_pos (by omega),show bg.oE e a=0 from if_pos (by omega)]
     go_enter Tryz.func78,Tryz.ntmps78
     go_wp2
     go_ret2
     exact⟨rfl,rfl⟩
theorem bg.arV {e a:Int}(h:bg.In e a):bg.oV e a=e-a∧bg.oE e a=0:=⟨if_pos h,if_pos h⟩
theorem bg.arY {e a:Int}(h:¬bg.In e a):bg.oV e a=0∧bg.oE e a=2:=⟨if_neg h,if_neg h⟩
theorem bg.ado {m:Int}(h:1≤m∧m≤16):bg.ck m=0:=if_pos h
theorem bg.avy {m:Int}(h:¬(1≤m∧m≤16)):bg.ck m=2:=if_neg h
theorem ahT (e a m:Int)(w:World):Calls Tryz.prog 153 #[.int .i64 e,.int .i64 a,.int .i64 m] w fun E w'=>E=.returned (.int .i64 (bg.ad e a m))∧w=w':=by
 by_cases h1:1≤m∧m≤16
 ·by_cases h2:bg.In e a
  ·obtain⟨o1,o2⟩:=bg.arV h2
   by_cases h3:m≤e-a
   ·rw[show bg.ad e a m=8 by unfold bg.ad;rw[if_pos h1,if_pos h2,if_pos h3]]
    go_enter Tryz.func153,Tryz.ntmps153
    go_wp2_with fail
    refine(jf m w).mono ?_
    rintro E w2 ⟨rfl,rfl⟩
    rw[bg.ado h1]
    go_wp2_with fail
    refine(il e a w).mono ?_
    rintro E w2 ⟨rfl,rfl⟩
    rw[o1,o2]
    obtain⟨h4,h5⟩:=h1
    obtain⟨h6,h7,h8,h9⟩:=h2
    clear o1 o2
    go_wp2
    go_ret
    exact⟨rfl,rfl⟩
   ·by_cases h10:e=1048576
    ·rw[show bg.ad e a m=2 by unfold bg.ad;rw[if_pos h1,if_pos h2,if_neg h3,if_pos h10]]
     replace h10:1048576≤e:=by omega
     go_enter Tryz.func153,Tryz.ntmps153
     go_wp2_with fail
     refine(jf m w).mono ?_
     rintro E w2 ⟨rfl,rfl⟩
     rw[bg.ado h1]
     go_wp2_with fail
     refine(il e a w).mono ?_
     rintro E w2 ⟨rfl,rfl⟩
     rw[o1,o2]
     obtain⟨h4,h5⟩:=h1
     obtain⟨h6,h7,h8,h9⟩:=h2
     clear o1 o2
     go_wp2
     go_ret
     exact⟨rfl,rfl⟩
    ·rw[show bg.ad e a m=0 by unfold bg.ad;rw[if_pos h1,if_pos h2,if_neg h3,if_neg h10]]
     have h11:(e==1048576)=false:=by simpa using h10
     go_enter Tryz.func153,Tryz.ntmps153
     go_wp2_with fail
     refine(jf m w).mono ?_
     rintro E w2 ⟨rfl,rfl⟩
     rw[bg.ado h1]
     go_wp2_with fail
     refine(il e a w).mono ?_
     rintro E w2 ⟨rfl,rfl⟩
     rw[o1,o2]
     obtain⟨h4,h5⟩:=h1
     obtain⟨h6,h7,h8,h9⟩:=h2
     clear o1 o2
     go_wp2
     go_ret
     exact⟨rfl,rfl⟩
  ·obtain⟨o1,o2⟩:=bg.arY h2
   rw[show bg.ad e a m=2 by unfold bg.ad;rw[if_pos h1,if_neg h2]]
   go_enter Tryz.func153,Tryz.ntmps153
   go_wp2_with fail
   refine(jf m w).mono ?_
   rintro E w2 ⟨rfl,rfl⟩
   rw[bg.ado h1]
   go_wp2_with fail
   refine(il e a w).mono ?_
   rintro E w2 ⟨rfl,rfl⟩
   rw[o1,o2]
   go_wp2
   go_ret
   exact⟨rfl,rfl⟩
 ·rw[show bg.ad e a m=2 by unfold bg.ad;rw[if_neg h1]]
  go_enter Tryz.func153,Tryz.ntmps153
  go_wp2_with fail
  refine(jf m w).mono ?_
  rintro E w2 ⟨rfl,rfl⟩
  rw[bg.avy h1]
  go_wp2_with fail
  refine(il e a w).mono ?_
  rintro E w2 ⟨rfl,rfl⟩
  generalize bg.oV e a=x
  generalize bg.oE e a=y
  go_wp2
  go_ret
  exact⟨rfl,rfl⟩
theorem ahC (e a t:Int)(w:World):Calls Tryz.prog 284 #[.int .i64 e,.int .i64 a,.int .i64 t] w fun E w'=>E=.returned (.tuple #[.int .i64 (bg.kV e a t),.int .i64 (bg.oE e a)])∧w=w':=by
 by_cases h2:bg.In e a
 ·obtain⟨o1,o2⟩:=bg.arV h2
  rw[o2]
  by_cases h3:t<a
  ·rw[show bg.kV e a t=a by unfold bg.kV;rw[if_pos h2,if_pos (by omega)]]
   have h4:¬t>a:=by omega
   have h5:¬e<a:=by have:=h2.2.2.2;omega
   go_enter Tryz.func284,Tryz.ntmps284
   go_wp2_with fail
   refine(il e a w).mono ?_
   rintro E w2 ⟨rfl,rfl⟩
   rw[o1,o2]
   obtain⟨h6,h7,h8,h9⟩:=h2
   clear o1 o2
   go_wp2
   go_ret2
   exact⟨rfl,rfl⟩
  ·by_cases h4:e<t
   ·have h5:t>a:=by have:=h2.2.2.2;omega
    rw[show bg.kV e a t=e by unfold bg.kV;rw[if_pos h2,if_neg (by omega),if_neg (by omega)]]
    go_enter Tryz.func284,Tryz.ntmps284
    go_wp2_with fail
    refine(il e a w).mono ?_
    rintro E w2 ⟨rfl,rfl⟩
    rw[o1,o2]
    obtain⟨h6,h7,h8,h9⟩:=h2
    clear o1 o2
    go_wp2
    go_ret2
    exact⟨rfl,rfl⟩
   ·by_cases h5:t>a
    ·rw[show bg.kV e a t=t by unfold bg.kV;rw[if_pos h2,if_neg (by omega),if_pos (by omega)]]
     go_enter Tryz.func284,Tryz.ntmps284
     go_wp2_with fail
     refine(il e a w).mono ?_
     rintro E w2 ⟨rfl,rfl⟩
     rw[o1,o2]
     obtain⟨h6,h7,h8,h9⟩:=h2
     clear o1 o2
     go_wp2
     go_ret2
     exact⟨rfl,rfl⟩
    ·obtain rfl:t=a:=by omega
     rw[show bg.kV e t t=t by unfold bg.kV;rw[if_pos h2,if_pos (by omega)]]
     go_enter Tryz.func284,Tryz.ntmps284
     go_wp2_with fail
     refine(il e t w).mono ?_
     rintro E w2 ⟨rfl,rfl⟩
     rw[o1,o2]
     obtain⟨h6,h7,h8,h9⟩:=h2
     clear o1 o2
     go_wp2
     go_ret2
     exact⟨rfl,rfl⟩
 ·obtain⟨o1,o2⟩:=bg.arY h2
  rw[show bg.kV e a t=0 by unfold bg.kV;rw[if_neg h2],o2]
  go_enter Tryz.func284,Tryz.ntmps284
  go_wp2_with fail
  refine(il e a w).mono ?_
  rintro E w2 ⟨rfl,rfl⟩
  rw[o1,o2]
  go_wp2
  go_ret2
  exact⟨rfl,rfl⟩
theorem art:Array.replicate 28 false=aj 28 0:=by kernel_rfl
theorem al0:(ay 1 Tryz.f106).size=28:=by kernel_rfl
theorem amA:Region.free .any (ay 1 Tryz.f106) (aj 28 0) 0=true∧(Region.ready .any (ay 1 Tryz.f106) (aj 28 0)).contains 0=true∧(aj 28 0).setIfInBounds 0 true=aj 28 1:=⟨by kernel_rfl,by kernel_rfl,by kernel_rfl⟩
theorem aoa:Region.free .any (ay 1 Tryz.f106) (aj 28 1) 1=true∧(Region.ready .any (ay 1 Tryz.f106) (aj 28 1)).contains 1=true∧(aj 28 1).setIfInBounds 1 true=aj 28 3:=⟨by kernel_rfl,by kernel_rfl,by kernel_rfl⟩
theorem anV:Region.free .any (ay 1 Tryz.f106) (aj 28 3) 2=true∧(Region.ready .any (ay 1 Tryz.f106) (aj 28 3)).contains 2=true∧(aj 28 3).setIfInBounds 2 true=aj 28 7:=⟨by kernel_rfl,by kernel_rfl,by kernel_rfl⟩
theorem aod:Region.free .any (ay 1 Tryz.f106) (aj 28 7) 3=true∧(Region.ready .any (ay 1 Tryz.f106) (aj 28 7)).contains 3=true∧(aj 28 7).setIfInBounds 3 true=aj 28 15:=⟨by kernel_rfl,by kernel_rfl,by kernel_rfl⟩
theorem aj6:Region.free .any (ay 1 Tryz.f106) (aj 28 15) 4=true∧(Region.ready .any (ay 1 Tryz.f106) (aj 28 15)).contains 4=true∧(aj 28 15).setIfInBounds 4 true=aj 28 31:=⟨by kernel_rfl,by kernel_rfl,by kernel_rfl⟩
theorem alL:Region.free .any (ay 1 Tryz.f106) (aj 28 31) 5=true∧(Region.ready .any (ay 1 Tryz.f106) (aj 28 31)).contains 5=true∧(aj 28 31).setIfInBounds 5 true=aj 28 63:=⟨by kernel_rfl,by kernel_rfl,by kernel_rfl⟩
theorem ajX:Region.free .any (ay 1 Tryz.f106) (aj 28 63) 6=true∧(Region.ready .any (ay 1 Tryz.f106) (aj 28 63)).contains 6=true∧(aj 28 63).setIfInBounds 6 true=aj 28 127:=⟨by kernel_rfl,by kernel_rfl,by kernel_rfl⟩
theorem ahq:Region.free .any (ay 1 Tryz.f106) (aj 28 127) 7=true∧(Region.ready .any (ay 1 Tryz.f106) (aj 28 127)).contains 7=true∧(aj 28 127).setIfInBounds 7 true=aj 28 255:=⟨by kernel_rfl,by kernel_rfl,by kernel_rfl⟩
theorem aic:Region.free .any (ay 1 Tryz.f106) (aj 28 255) 8=true∧(Region.ready .any (ay 1 Tryz.f106) (aj 28 255)).contains 8=true∧(aj 28 255).setIfInBounds 8 true=aj 28 511:=⟨by kernel_rfl,by kernel_rfl,by kernel_rfl⟩
theorem ah5:Region.free .any (ay 1 Tryz.f106) (aj 28 511) 9=true∧(Region.ready .any (ay 1 Tryz.f106) (aj 28 511)).contains 9=true∧(aj 28 511).setIfInBounds 9 true=aj 28 1023:=⟨by kernel_rfl,by kernel_rfl,by kernel_rfl⟩
theorem aen:Region.free .any (ay 1 Tryz.f106) (aj 28 1023) 11=true∧(Region.ready .any (ay 1 Tryz.f106) (aj 28 1023)).contains 11=true∧(aj 28 1023).setIfInBounds 11 true=aj 28 3071:=⟨by kernel_rfl,by kernel_rfl,by kernel_rfl⟩
theorem adP:Region.free .any (ay 1 Tryz.f106) (aj 28 3071) 12=true∧(Region.ready .any (ay 1 Tryz.f106) (aj 28 3071)).contains 12=true∧(aj 28 3071).setIfInBounds 12 true=aj 28 7167:=⟨by kernel_rfl,by kernel_rfl,by kernel_rfl⟩
theorem aei:Region.free .any (ay 1 Tryz.f106) (aj 28 7167) 13=true∧(Region.ready .any (ay 1 Tryz.f106) (aj 28 7167)).contains 13=true∧(aj 28 7167).setIfInBounds 13 true=aj 28 15359:=⟨by kernel_rfl,by kernel_rfl,by kernel_rfl⟩
theorem adb:Region.free .any (ay 1 Tryz.f106) (aj 28 15359) 14=true∧(Region.ready .any (ay 1 Tryz.f106) (aj 28 15359)).contains 14=true∧(aj 28 15359).setIfInBounds 14 true=aj 28 31743:=⟨by kernel_rfl,by kernel_rfl,by kernel_rfl⟩
theorem ac4:Region.free .any (ay 1 Tryz.f106) (aj 28 31743) 15=true∧(Region.ready .any (ay 1 Tryz.f106) (aj 28 31743)).contains 15=true∧(aj 28 31743).setIfInBounds 15 true=aj 28 64511:=⟨by kernel_rfl,by kernel_rfl,by kernel_rfl⟩
theorem ac7:Region.free .any (ay 1 Tryz.f106) (aj 28 64511) 16=true∧(Region.ready .any (ay 1 Tryz.f106) (aj 28 64511)).contains 16=true∧(aj 28 64511).setIfInBounds 16 true=aj 28 130047:=⟨by kernel_rfl,by kernel_rfl,by kernel_rfl⟩
theorem abH:Region.free .any (ay 1 Tryz.f106) (aj 28 130047) 17=true∧(Region.ready .any (ay 1 Tryz.f106) (aj 28 130047)).contains 17=true∧(aj 28 130047).setIfInBounds 17 true=aj 28 261119:=⟨by kernel_rfl,by kernel_rfl,by kernel_rfl⟩
theorem abB:Region.free .any (ay 1 Tryz.f106) (aj 28 261119) 18=true∧(Region.ready .any (ay 1 Tryz.f106) (aj 28 261119)).contains 18=true∧(aj 28 261119).setIfInBounds 18 true=aj 28 523263:=⟨by kernel_rfl,by kernel_rfl,by kernel_rfl⟩
theorem abJ:Region.free .any (ay 1 Tryz.f106) (aj 28 523263) 19=true∧(Region.ready .any (ay 1 Tryz.f106) (aj 28 523263)).contains 19=true∧(aj 28 523263).setIfInBounds 19 true=aj 28 1047551:=⟨by kernel_rfl,by kernel_rfl,by kernel_rfl⟩
theorem aaK:Region.free .any (ay 1 Tryz.f106) (aj 28 1047551) 20=true∧(Region.ready .any (ay 1 Tryz.f106) (aj 28 1047551)).contains 20=true∧(aj 28 1047551).setIfInBounds 20 true=aj 28 2096127:=⟨by kernel_rfl,by kernel_rfl,by kernel_rfl⟩
theorem aaA:Region.free .any (ay 1 Tryz.f106) (aj 28 2096127) 22=true∧(Region.ready .any (ay 1 Tryz.f106) (aj 28 2096127)).contains 22=true∧(aj 28 2096127).setIfInBounds 22 true=aj 28 6290431:=⟨by kernel_rfl,by kernel_rfl,by kernel_rfl⟩
theorem aaE:Region.free .any (ay 1 Tryz.f106) (aj 28 6290431) 23=true∧(Region.ready .any (ay 1 Tryz.f106) (aj 28 6290431)).contains 23=true∧(aj 28 6290431).setIfInBounds 23 true=aj 28 14679039:=⟨by kernel_rfl,by kernel_rfl,by kernel_rfl⟩
theorem yX:Region.free .any (ay 1 Tryz.f106) (aj 28 14679039) 24=true∧(Region.ready .any (ay 1 Tryz.f106) (aj 28 14679039)).contains 24=true∧(aj 28 14679039).setIfInBounds 24 true=aj 28 31456255:=⟨by kernel_rfl,by kernel_rfl,by kernel_rfl⟩
theorem ade:Region.ready .any (ay 1 Tryz.f106) (aj 28 31456255)=[10,25]∧(aj 28 31456255).setIfInBounds 10 true=aj 28 31457279∧(aj 28 31456255).setIfInBounds 25 true=aj 28 65010687:=⟨by kernel_rfl,by kernel_rfl,by kernel_rfl⟩
theorem acX:Region.ready .any (ay 1 Tryz.f106) (aj 28 31457279)=[21,25]∧(aj 28 31457279).setIfInBounds 21 true=aj 28 33554431∧(aj 28 31457279).setIfInBounds 25 true=aj 28 65011711:=⟨by kernel_rfl,by kernel_rfl,by kernel_rfl⟩
theorem acZ:Region.ready .any (ay 1 Tryz.f106) (aj 28 33554431)=[25]∧(aj 28 33554431).setIfInBounds 25 true=aj 28 67108863:=⟨by kernel_rfl,by kernel_rfl⟩
theorem kJ:Region.free .any (ay 1 Tryz.f106) (aj 28 67108863) 26=true∧(Region.ready .any (ay 1 Tryz.f106) (aj 28 67108863)).contains 26=true∧(aj 28 67108863).setIfInBounds 26 true=aj 28 134217727:=⟨by kernel_rfl,by kernel_rfl,by kernel_rfl⟩
theorem lX:Region.ready .any (ay 1 Tryz.f106) (aj 28 134217727)=[27]∧(aj 28 134217727).setIfInBounds 27 true=aj 28 268435455:=⟨by kernel_rfl,by kernel_rfl⟩
theorem abd:Region.ready .any (ay 1 Tryz.f106) (aj 28 268435455)=[]:=by kernel_rfl
theorem uA:Region.ready .any (ay 1 Tryz.f106) (aj 28 65011711)=[21]∧(aj 28 65011711).setIfInBounds 21 true=aj 28 67108863:=⟨by kernel_rfl,by kernel_rfl⟩
theorem acW:Region.ready .any (ay 1 Tryz.f106) (aj 28 65010687)=[10]∧(aj 28 65010687).setIfInBounds 10 true=aj 28 65011711:=⟨by kernel_rfl,by kernel_rfl⟩
theorem aq2:Array.replicate 33 false=aj 33 0:=by kernel_rfl
theorem am1:(ay 1 Tryz.f108).size=33:=by kernel_rfl
theorem ant:Region.free .any (ay 1 Tryz.f108) (aj 33 0) 0=true∧(Region.ready .any (ay 1 Tryz.f108) (aj 33 0)).contains 0=true∧(aj 33 0).setIfInBounds 0 true=aj 33 1:=⟨by kernel_rfl,by kernel_rfl,by kernel_rfl⟩
theorem amS:Region.free .any (ay 1 Tryz.f108) (aj 33 1) 1=true∧(Region.ready .any (ay 1 Tryz.f108) (aj 33 1)).contains 1=true∧(aj 33 1).setIfInBounds 1 true=aj 33 3:=⟨by kernel_rfl,by kernel_rfl,by kernel_rfl⟩
theorem aox:Region.free .any (ay 1 Tryz.f108) (aj 33 3) 2=true∧(Region.ready .any (ay 1 Tryz.f108) (aj 33 3)).contains 2=true∧(aj 33 3).setIfInBounds 2 true=aj 33 7:=⟨by kernel_rfl,by kernel_rfl,by kernel_rfl⟩
theorem anl:Region.free .any (ay 1 Tryz.f108) (aj 33 7) 3=true∧(Region.ready .any (ay 1 Tryz.f108) (aj 33 7)).contains 3=true∧(aj 33 7).setIfInBounds 3 true=aj 33 15:=⟨by kernel_rfl,by kernel_rfl,by kernel_rfl⟩
theorem ajA:Region.free .any (ay 1 Tryz.f108) (aj 33 15) 4=true∧(Region.ready .any (ay 1 Tryz.f108) (aj 33 15)).contains 4=true∧(aj 33 15).setIfInBounds 4 true=aj 33 31:=⟨by kernel_rfl,by kernel_rfl,by kernel_rfl⟩
theorem ajr:Region.free .any (ay 1 Tryz.f108) (aj 33 31) 5=true∧(Region.ready .any (ay 1 Tryz.f108) (aj 33 31)).contains 5=true∧(aj 33 31).setIfInBounds 5 true=aj 33 63:=⟨by kernel_rfl,by kernel_rfl,by kernel_rfl⟩
theorem akz:Region.free .any (ay 1 Tryz.f108) (aj 33 63) 6=true∧(Region.ready .any (ay 1 Tryz.f108) (aj 33 63)).contains 6=true∧(aj 33 63).setIfInBounds 6 true=aj 33 127:=⟨by kernel_rfl,by kernel_rfl,by kernel_rfl⟩
theorem aif:Region.free .any (ay 1 Tryz.f108) (aj 33 127) 7=true∧(Region.ready .any (ay 1 Tryz.f108) (aj 33 127)).contains 7=true∧(aj 33 127).setIfInBounds 7 true=aj 33 255:=⟨by kernel_rfl,by kernel_rfl,by kernel_rfl⟩
theorem ah3:Region.free .any (ay 1 Tryz.f108) (aj 33 255) 8=true∧(Region.ready .any (ay 1 Tryz.f108) (aj 33 255)).contains 8=true∧(aj 33 255).setIfInBounds 8 true=aj 33 511:=⟨by kernel_rfl,by kernel_rfl,by kernel_rfl⟩
theorem aiE:Region.free .any (ay 1 Tryz.f108) (aj 33 511) 9=true∧(Region.ready .any (ay 1 Tryz.f108) (aj 33 511)).contains 9=true∧(aj 33 511).setIfInBounds 9 true=aj 33 1023:=⟨by kernel_rfl,by kernel_rfl,by kernel_rfl⟩
theorem aez:Region.free .any (ay 1 Tryz.f108) (aj 33 1023) 10=true∧(Region.ready .any (ay 1 Tryz.f108) (aj 33 1023)).contains 10=true∧(aj 33 1023).setIfInBounds 10 true=aj 33 2047:=⟨by kernel_rfl,by kernel_rfl,by kernel_rfl⟩
theorem aeN:Region.free .any (ay 1 Tryz.f108) (aj 33 2047) 11=true∧(Region.ready .any (ay 1 Tryz.f108) (aj 33 2047)).contains 11=true∧(aj 33 2047).setIfInBounds 11 true=aj 33 4095:=⟨by kernel_rfl,by kernel_rfl,by kernel_rfl⟩
theorem afG:Region.free .any (ay 1 Tryz.f108) (aj 33 4095) 12=true∧(Region.ready .any (ay 1 Tryz.f108) (aj 33 4095)).contains 12=true∧(aj 33 4095).setIfInBounds 12 true=aj 33 8191:=⟨by kernel_rfl,by kernel_rfl,by kernel_rfl⟩
theorem aeF:Region.free .any (ay 1 Tryz.f108) (aj 33 8191) 13=true∧(Region.ready .any (ay 1 Tryz.f108) (aj 33 8191)).contains 13=true∧(aj 33 8191).setIfInBounds 13 true=aj 33 16383:=⟨by kernel_rfl,by kernel_rfl,by kernel_rfl⟩
theorem ada:Region.free .any (ay 1 Tryz.f108) (aj 33 16383) 14=true∧(Region.ready .any (ay 1 Tryz.f108) (aj 33 16383)).contains 14=true∧(aj 33 16383).setIfInBounds 14 true=aj 33 32767:=⟨by kernel_rfl,by kernel_rfl,by kernel_rfl⟩
theorem ac9:Region.free .any (ay 1 Tryz.f108) (aj 33 32767) 15=true∧(Region.ready .any (ay 1 Tryz.f108) (aj 33 32767)).contains 15=true∧(aj 33 32767).setIfInBounds 15 true=aj 33 65535:=⟨by kernel_rfl,by kernel_rfl,by kernel_rfl⟩
theorem acS:Region.free .any (ay 1 Tryz.f108) (aj 33 65535) 18=true∧(Region.ready .any (ay 1 Tryz.f108) (aj 33 65535)).contains 18=true∧(aj 33 65535).setIfInBounds 18 true=aj 33 327679:=⟨by kernel_rfl,by kernel_rfl,by kernel_rfl⟩
theorem abv:Region.free .any (ay 1 Tryz.f108) (aj 33 327679) 19=true∧(Region.ready .any (ay 1 Tryz.f108) (aj 33 327679)).contains 19=true∧(aj 33 327679).setIfInBounds 19 true=aj 33 851967:=⟨by kernel_rfl,by kernel_rfl,by kernel_rfl⟩
theorem aa9:Region.free .any (ay 1 Tryz.f108) (aj 33 851967) 20=true∧(Region.ready .any (ay 1 Tryz.f108) (aj 33 851967)).contains 20=true∧(aj 33 851967).setIfInBounds 20 true=aj 33 1900543:=⟨by kernel_rfl,by kernel_rfl,by kernel_rfl⟩
theorem zI:Region.free .any (ay 1 Tryz.f108) (aj 33 1900543) 21=true∧(Region.ready .any (ay 1 Tryz.f108) (aj 33 1900543)).contains 21=true∧(aj 33 1900543).setIfInBounds 21 true=aj 33 3997695:=⟨by kernel_rfl,by kernel_rfl,by kernel_rfl⟩
theorem aag:Region.free .any (ay 1 Tryz.f108) (aj 33 3997695) 22=true∧(Region.ready .any (ay 1 Tryz.f108) (aj 33 3997695)).contains 22=true∧(aj 33 3997695).setIfInBounds 22 true=aj 33 8191999:=⟨by kernel_rfl,by kernel_rfl,by kernel_rfl⟩
theorem aff:Region.ready .any (ay 1 Tryz.f108) (aj 33 8191999)=[16]∧(aj 33 8191999).setIfInBounds 16 true=aj 33 8257535:=⟨by kernel_rfl,by kernel_rfl⟩
theorem aab:Region.free .any (ay 1 Tryz.f108) (aj 33 8257535) 17=true∧(Region.ready .any (ay 1 Tryz.f108) (aj 33 8257535)).contains 17=true∧(aj 33 8257535).setIfInBounds 17 true=aj 33 8388607:=⟨by kernel_rfl,by kernel_rfl,by kernel_rfl⟩
theorem afu:Region.ready .any (ay 1 Tryz.f108) (aj 33 8388607)=[23]∧(aj 33 8388607).setIfInBounds 23 true=aj 33 16777215:=⟨by kernel_rfl,by kernel_rfl⟩
theorem ac3:Region.ready .any (ay 1 Tryz.f108) (aj 33 16777215)=[24]∧(aj 33 16777215).setIfInBounds 24 true=aj 33 33554431:=⟨by kernel_rfl,by kernel_rfl⟩
theorem zo:Region.free .any (ay 1 Tryz.f108) (aj 33 33554431) 25=true∧(Region.ready .any (ay 1 Tryz.f108) (aj 33 33554431)).contains 25=true∧(aj 33 33554431).setIfInBounds 25 true=aj 33 67108863:=⟨by kernel_rfl,by kernel_rfl,by kernel_rfl⟩
theorem yT:Region.free .any (ay 1 Tryz.f108) (aj 33 67108863) 26=true∧(Region.ready .any (ay 1 Tryz.f108) (aj 33 67108863)).contains 26=true∧(aj 33 67108863).setIfInBounds 26 true=aj 33 134217727:=⟨by kernel_rfl,by kernel_rfl,by kernel_rfl⟩
theorem xJ:Region.free .any (ay 1 Tryz.f108) (aj 33 134217727) 27=true∧(Region.ready .any (ay 1 Tryz.f108) (aj 33 134217727)).contains 27=true∧(aj 33 134217727).setIfInBounds 27 true=aj 33 268435455:=⟨by kernel_rfl,by kernel_rfl,by kernel_rfl⟩
theorem xL:Region.free .any (ay 1 Tryz.f108) (aj 33 268435455) 28=true∧(Region.ready .any (ay 1 Tryz.f108) (aj 33 268435455)).contains 28=true∧(aj 33 268435455).setIfInBounds 28 true=aj 33 536870911:=⟨by kernel_rfl,by kernel_rfl,by kernel_rfl⟩
theorem xN:Region.free .any (ay 1 Tryz.f108) (aj 33 536870911) 29=true∧(Region.ready .any (ay 1 Tryz.f108) (aj 33 536870911)).contains 29=true∧(aj 33 536870911).setIfInBounds 29 true=aj 33 1073741823:=⟨by kernel_rfl,by kernel_rfl,by kernel_rfl⟩
theorem vF:Region.free .any (ay 1 Tryz.f108) (aj 33 1073741823) 30=true∧(Region.ready .any (ay 1 Tryz.f108) (aj 33 1073741823)).contains 30=true∧(aj 33 1073741823).setIfInBounds 30 true=aj 33 2147483647:=⟨by kernel_rfl,by kernel_rfl,by kernel_rfl⟩
theorem aaJ:Region.ready .any (ay 1 Tryz.f108) (aj 33 2147483647)=[31]∧(aj 33 2147483647).setIfInBounds 31 true=aj 33 4294967295:=⟨by kernel_rfl,by kernel_rfl⟩
theorem uW:Region.free .any (ay 1 Tryz.f108) (aj 33 4294967295) 32=true∧(Region.ready .any (ay 1 Tryz.f108) (aj 33 4294967295)).contains 32=true∧(aj 33 4294967295).setIfInBounds 32 true=aj 33 8589934591:=⟨by kernel_rfl,by kernel_rfl,by kernel_rfl⟩
theorem aqO:Region.ready .any (ay 1 Tryz.f108) (aj 33 8589934591)=[]:=by kernel_rfl
end Go.Proofs.YtlmkaljjocflmaaGreatDoor
