/- Texts of one layer, one behind the other. -/
import Derived.Test.YtmngcecomcadkaaGreatDoorCH1
import Derived.Test.YtmngcecomcadkaaGreatDoorProg
import Derived.SizedLaws
import Derived.Lib.SmallJoins
import Derived.Deep.Slices
import Derived.Test.YtmngcecomcadkaaGreatDoorCH3
set_option maxRecDepth 100000
set_option maxHeartbeats 8000000
namespace Go.Proofs.YtmngcecomcadkaaGreatDoor
open Go.RowKit
set_option linter.unusedVariables false
theorem arz:Array.replicate 28 false=dH 28 0:=by kernel_rfl
theorem apu:(aC 1 Tryz.f54).size=28:=by kernel_rfl
theorem aoW:bJ (aC 1 Tryz.f54) 28 0 0 1=true:=by kernel_rfl
theorem apk:bJ (aC 1 Tryz.f54) 28 1 1 3=true:=by kernel_rfl
theorem apT:bJ (aC 1 Tryz.f54) 28 3 2 7=true:=by kernel_rfl
theorem anf:bJ (aC 1 Tryz.f54) 28 7 3 15=true:=by kernel_rfl
theorem akM:bJ (aC 1 Tryz.f54) 28 15 4 31=true:=by kernel_rfl
theorem alP:bJ (aC 1 Tryz.f54) 28 31 5 63=true:=by kernel_rfl
theorem alj:bJ (aC 1 Tryz.f54) 28 63 6 127=true:=by kernel_rfl
theorem ai1:bJ (aC 1 Tryz.f54) 28 127 7 255=true:=by kernel_rfl
theorem ahP:bJ (aC 1 Tryz.f54) 28 255 8 511=true:=by kernel_rfl
theorem ajs:bJ (aC 1 Tryz.f54) 28 511 9 1023=true:=by kernel_rfl
theorem aef:bJ (aC 1 Tryz.f54) 28 1023 11 3071=true:=by kernel_rfl
theorem aeO:bJ (aC 1 Tryz.f54) 28 3071 12 7167=true:=by kernel_rfl
theorem afF:bJ (aC 1 Tryz.f54) 28 7167 13 15359=true:=by kernel_rfl
theorem adi:bJ (aC 1 Tryz.f54) 28 15359 14 31743=true:=by kernel_rfl
theorem adr:bJ (aC 1 Tryz.f54) 28 31743 15 64511=true:=by kernel_rfl
theorem adg:bJ (aC 1 Tryz.f54) 28 64511 16 130047=true:=by kernel_rfl
theorem acb:bJ (aC 1 Tryz.f54) 28 130047 17 261119=true:=by kernel_rfl
theorem ace:bJ (aC 1 Tryz.f54) 28 261119 18 523263=true:=by kernel_rfl
theorem abE:bJ (aC 1 Tryz.f54) 28 523263 19 1047551=true:=by kernel_rfl
theorem aaG:bJ (aC 1 Tryz.f54) 28 1047551 20 2096127=true:=by kernel_rfl
theorem aau:bJ (aC 1 Tryz.f54) 28 2096127 22 6290431=true:=by kernel_rfl
theorem aak:bJ (aC 1 Tryz.f54) 28 6290431 23 14679039=true:=by kernel_rfl
theorem aae:bJ (aC 1 Tryz.f54) 28 14679039 24 31456255=true:=by kernel_rfl
theorem adk:fA (aC 1 Tryz.f54) 28 31456255 [10,25] [31457279,65010687]=true:=by kernel_rfl
theorem adl:fA (aC 1 Tryz.f54) 28 31457279 [21,25] [33554431,65011711]=true:=by kernel_rfl
theorem adt:fA (aC 1 Tryz.f54) 28 33554431 [25] [67108863]=true:=by kernel_rfl
theorem kZ:bJ (aC 1 Tryz.f54) 28 67108863 26 134217727=true:=by kernel_rfl
theorem nL:fA (aC 1 Tryz.f54) 28 134217727 [27] [268435455]=true:=by kernel_rfl
theorem abP:Region.ready .any (aC 1 Tryz.f54) (dH 28 268435455)=[]:=by kernel_rfl
theorem vK:fA (aC 1 Tryz.f54) 28 65011711 [21] [67108863]=true:=by kernel_rfl
theorem adp:fA (aC 1 Tryz.f54) 28 65010687 [10] [65011711]=true:=by kernel_rfl
theorem arI:Array.replicate 9 false=dH 9 0:=by kernel_rfl
theorem aok:(aC 3 Tryz.f115).size=9:=by kernel_rfl
theorem aoP:bJ (aC 3 Tryz.f115) 9 0 0 1=true:=by kernel_rfl
theorem anw:bJ (aC 3 Tryz.f115) 9 1 2 5=true:=by kernel_rfl
theorem amY:bJ (aC 3 Tryz.f115) 9 5 4 21=true:=by kernel_rfl
theorem arP:fA (aC 3 Tryz.f115) 9 21 [1,5,7] [23,53,149]=true:=by kernel_rfl
theorem asy:fA (aC 3 Tryz.f115) 9 23 [3,5,7] [31,55,151]=true:=by kernel_rfl
theorem ar4:fA (aC 3 Tryz.f115) 9 31 [5,7] [63,159]=true:=by kernel_rfl
theorem abN:fA (aC 3 Tryz.f115) 9 63 [6,7] [127,191]=true:=by kernel_rfl
theorem zw:fA (aC 3 Tryz.f115) 9 127 [7] [255]=true:=by kernel_rfl
theorem fK:fA (aC 3 Tryz.f115) 9 255 [8] [511]=true:=by kernel_rfl
theorem gH:Region.ready .any (aC 3 Tryz.f115) (dH 9 511)=[]:=by kernel_rfl
theorem ib:fA (aC 3 Tryz.f115) 9 191 [6] [255]=true:=by kernel_rfl
theorem zH:fA (aC 3 Tryz.f115) 9 159 [5] [191]=true:=by kernel_rfl
theorem ahb:fA (aC 3 Tryz.f115) 9 55 [3,7] [63,183]=true:=by kernel_rfl
theorem nM:fA (aC 3 Tryz.f115) 9 183 [3] [191]=true:=by kernel_rfl
theorem aeU:fA (aC 3 Tryz.f115) 9 151 [3,5] [159,183]=true:=by kernel_rfl
theorem asq:fA (aC 3 Tryz.f115) 9 53 [1,7] [55,181]=true:=by kernel_rfl
theorem agb:fA (aC 3 Tryz.f115) 9 181 [1] [183]=true:=by kernel_rfl
theorem apa:fA (aC 3 Tryz.f115) 9 149 [1,5] [151,181]=true:=by kernel_rfl
theorem apM (x n:Int)(w:World)(hn:0<n)(hn2:n<9223372036854775808)(hx:-9223372036854775808≤x)(hx2:x<9223372036854775808):
  Calls Tryz.prog 7 #[.int .i64 x,.int .i64 n] w fun e w'=>(∃p:Nat,(p:Int)<n∧e=.returned (.int .i64 p))∧w=w':=by
 have hnz:(n==0)=false:=by simp;omega
 have ht1:x.tmod n<n:=Int.tmod_lt_of_pos x hn
 have ht2:-n<x.tmod n:=Int.lt_tmod_of_pos x hn
 by_cases h:x.tmod n<0
 ·go_enter Tryz.func7,Tryz.ntmps7
  go_wp2
  go_ret
  exact⟨⟨(x.tmod n+n).toNat,by omega,jh (by omega)⟩,rfl⟩
 ·go_enter Tryz.func7,Tryz.ntmps7
  go_wp2
  go_ret
  exact⟨⟨(x.tmod n).toNat,by omega,jh (by omega)⟩,rfl⟩
def I64 (z:Int):Prop:=-9223372036854775808≤z∧z≤9223372036854775807
def pk (x n:Int):Int:=if x.tmod n<0 then x.tmod n+n else x.tmod n
theorem asF:Array.replicate 12 false=dH 12 0:=by kernel_rfl
theorem anK:(aC 1 Tryz.f79).size=12:=by kernel_rfl
theorem amW:bJ (aC 1 Tryz.f79) 12 0 0 1=true:=by kernel_rfl
theorem ao5:bJ (aC 1 Tryz.f79) 12 1 2 5=true:=by kernel_rfl
theorem aww:fA (aC 1 Tryz.f79) 12 5 [1,8] [7,261]=true:=by kernel_rfl
theorem awq:fA (aC 1 Tryz.f79) 12 7 [3,8] [15,263]=true:=by kernel_rfl
theorem aj4:bJ (aC 1 Tryz.f79) 12 15 4 31=true:=by kernel_rfl
theorem alR:bJ (aC 1 Tryz.f79) 12 31 5 63=true:=by kernel_rfl
theorem ajX:bJ (aC 1 Tryz.f79) 12 63 6 127=true:=by kernel_rfl
theorem ah1:bJ (aC 1 Tryz.f79) 12 127 7 255=true:=by kernel_rfl
theorem apq:fA (aC 1 Tryz.f79) 12 255 [8] [511]=true:=by kernel_rfl
theorem zz:fA (aC 1 Tryz.f79) 12 511 [9] [1023]=true:=by kernel_rfl
theorem qH:bJ (aC 1 Tryz.f79) 12 1023 10 2047=true:=by kernel_rfl
theorem qI:bJ (aC 1 Tryz.f79) 12 2047 11 4095=true:=by kernel_rfl
theorem ab1:Region.ready .any (aC 1 Tryz.f79) (dH 12 4095)=[]:=by kernel_rfl
theorem afn:fA (aC 1 Tryz.f79) 12 263 [3] [271]=true:=by kernel_rfl
theorem aao:bJ (aC 1 Tryz.f79) 12 271 4 287=true:=by kernel_rfl
theorem aaD:bJ (aC 1 Tryz.f79) 12 287 5 319=true:=by kernel_rfl
theorem abk:bJ (aC 1 Tryz.f79) 12 319 6 383=true:=by kernel_rfl
theorem aa2:bJ (aC 1 Tryz.f79) 12 383 7 511=true:=by kernel_rfl
theorem apv:fA (aC 1 Tryz.f79) 12 261 [1] [263]=true:=by kernel_rfl
theorem ass:Array.replicate 33 false=dH 33 0:=by kernel_rfl
theorem amX:(aC 1 Tryz.f56).size=33:=by kernel_rfl
theorem anD:bJ (aC 1 Tryz.f56) 33 0 0 1=true:=by kernel_rfl
theorem apb:bJ (aC 1 Tryz.f56) 33 1 1 3=true:=by kernel_rfl
theorem apr:bJ (aC 1 Tryz.f56) 33 3 2 7=true:=by kernel_rfl
theorem ao1:bJ (aC 1 Tryz.f56) 33 7 3 15=true:=by kernel_rfl
theorem akh:bJ (aC 1 Tryz.f56) 33 15 4 31=true:=by kernel_rfl
theorem amd:bJ (aC 1 Tryz.f56) 33 31 5 63=true:=by kernel_rfl
theorem ajC:bJ (aC 1 Tryz.f56) 33 63 6 127=true:=by kernel_rfl
theorem ai7:bJ (aC 1 Tryz.f56) 33 127 7 255=true:=by kernel_rfl
theorem aif:bJ (aC 1 Tryz.f56) 33 255 8 511=true:=by kernel_rfl
theorem aiG:bJ (aC 1 Tryz.f56) 33 511 9 1023=true:=by kernel_rfl
theorem afW:bJ (aC 1 Tryz.f56) 33 1023 10 2047=true:=by kernel_rfl
theorem afi:bJ (aC 1 Tryz.f56) 33 2047 11 4095=true:=by kernel_rfl
theorem afd:bJ (aC 1 Tryz.f56) 33 4095 12 8191=true:=by kernel_rfl
theorem ad3:bJ (aC 1 Tryz.f56) 33 8191 13 16383=true:=by kernel_rfl
theorem adj:bJ (aC 1 Tryz.f56) 33 16383 14 32767=true:=by kernel_rfl
theorem adn:bJ (aC 1 Tryz.f56) 33 32767 15 65535=true:=by kernel_rfl
theorem ads:bJ (aC 1 Tryz.f56) 33 65535 18 327679=true:=by kernel_rfl
theorem abM:bJ (aC 1 Tryz.f56) 33 327679 19 851967=true:=by kernel_rfl
theorem abL:bJ (aC 1 Tryz.f56) 33 851967 20 1900543=true:=by kernel_rfl
theorem aaW:bJ (aC 1 Tryz.f56) 33 1900543 21 3997695=true:=by kernel_rfl
theorem abe:bJ (aC 1 Tryz.f56) 33 3997695 22 8191999=true:=by kernel_rfl
theorem af7:fA (aC 1 Tryz.f56) 33 8191999 [16] [8257535]=true:=by kernel_rfl
theorem aaE:bJ (aC 1 Tryz.f56) 33 8257535 17 8388607=true:=by kernel_rfl
theorem af6:fA (aC 1 Tryz.f56) 33 8388607 [23] [16777215]=true:=by kernel_rfl
theorem adu:fA (aC 1 Tryz.f56) 33 16777215 [24] [33554431]=true:=by kernel_rfl
theorem zX:bJ (aC 1 Tryz.f56) 33 33554431 25 67108863=true:=by kernel_rfl
theorem zt:bJ (aC 1 Tryz.f56) 33 67108863 26 134217727=true:=by kernel_rfl
theorem yG:bJ (aC 1 Tryz.f56) 33 134217727 27 268435455=true:=by kernel_rfl
theorem yI:bJ (aC 1 Tryz.f56) 33 268435455 28 536870911=true:=by kernel_rfl
theorem yF:bJ (aC 1 Tryz.f56) 33 536870911 29 1073741823=true:=by kernel_rfl
theorem wy:bJ (aC 1 Tryz.f56) 33 1073741823 30 2147483647=true:=by kernel_rfl
theorem aat:fA (aC 1 Tryz.f56) 33 2147483647 [31] [4294967295]=true:=by kernel_rfl
theorem xm:bJ (aC 1 Tryz.f56) 33 4294967295 32 8589934591=true:=by kernel_rfl
theorem asI:Region.ready .any (aC 1 Tryz.f56) (dH 33 8589934591)=[]:=by kernel_rfl
end Go.Proofs.YtmngcecomcadkaaGreatDoor
namespace Go.Proofs.YtmngcecomcadkaaGreatDoor
open Go.RowKit Go.ChangeShapes Go.WideShapes Go.Deep
set_option linter.unusedVariables false
section
variable {H:Type} {enc:TypeId×Value→H} {P:Program} {w:World} {base:Nat} {spare:Nat→Bool} {held:Bool}
theorem aaw {α:Type}{f:α→List Value}{k:Nat}(hk:∀a,(f a).length=k)(h0:0<k):∀(l:List α) (j:Nat) (u:Value),(gcells f l)[j]? =some u→∃i a m,l[i]? =some a∧j=i*k+m∧(f a)[m]? =some u
 |[],j,u,h=>by simp[gcells]at h
 |a::r,j,u,h=>by
  rw[gcells]at h
  by_cases hj:j<k
  ·rw[List.getElem?_append_left (by rw[hk];exact hj)]at h
   exact⟨0,a,j,rfl,by omega,h⟩
  ·rw[List.getElem?_append_right (by rw[hk];omega),hk]at h
   obtain⟨i,b,m,h1,h2,h3⟩:=aaw hk h0 r (j-k) u h
   exact⟨i+1,b,m,by simpa using h1,by rw[Nat.add_mul];omega,h3⟩
end
end Go.Proofs.YtmngcecomcadkaaGreatDoor
