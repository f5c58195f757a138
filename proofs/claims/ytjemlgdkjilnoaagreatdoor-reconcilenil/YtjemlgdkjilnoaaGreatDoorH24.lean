/- Texts of one layer, one behind the other. -/
import Derived.Test.YtjemlgdkjilnoaaGreatDoorH1
import Derived.Test.YtjemlgdkjilnoaaGreatDoorProg
import Derived.SizedLaws
import Derived.Lib.SmallJoins
import Derived.Deep.Slices
import Derived.Test.YtjemlgdkjilnoaaGreatDoorH2
set_option maxRecDepth 100000
set_option maxHeartbeats 8000000
namespace Go.Proofs.YtjemlgdkjilnoaaGreatDoor
open Go.RowKit
set_option linter.unusedVariables false
theorem asx:Array.replicate 9 false=ay 9 0:=by kernel_rfl
theorem aoL:(aA 3 Tryz.f114).size=9:=by kernel_rfl
theorem aoW:Region.free .any (aA 3 Tryz.f114) (ay 9 0) 0=true∧(Region.ready .any (aA 3 Tryz.f114) (ay 9 0)).contains 0=true∧(ay 9 0).setIfInBounds 0 true=ay 9 1:=⟨by kernel_rfl,by kernel_rfl,by kernel_rfl⟩
theorem aon:Region.free .any (aA 3 Tryz.f114) (ay 9 1) 2=true∧(Region.ready .any (aA 3 Tryz.f114) (ay 9 1)).contains 2=true∧(ay 9 1).setIfInBounds 2 true=ay 9 5:=⟨by kernel_rfl,by kernel_rfl,by kernel_rfl⟩
theorem amK:Region.free .any (aA 3 Tryz.f114) (ay 9 5) 4=true∧(Region.ready .any (aA 3 Tryz.f114) (ay 9 5)).contains 4=true∧(ay 9 5).setIfInBounds 4 true=ay 9 21:=⟨by kernel_rfl,by kernel_rfl,by kernel_rfl⟩
theorem arC:Region.ready .any (aA 3 Tryz.f114) (ay 9 21)=[1,5,7]∧(ay 9 21).setIfInBounds 1 true=ay 9 23∧(ay 9 21).setIfInBounds 5 true=ay 9 53∧(ay 9 21).setIfInBounds 7 true=ay 9 149:=⟨by kernel_rfl,by kernel_rfl,by kernel_rfl,by kernel_rfl⟩
theorem art:Region.ready .any (aA 3 Tryz.f114) (ay 9 23)=[3,5,7]∧(ay 9 23).setIfInBounds 3 true=ay 9 31∧(ay 9 23).setIfInBounds 5 true=ay 9 55∧(ay 9 23).setIfInBounds 7 true=ay 9 151:=⟨by kernel_rfl,by kernel_rfl,by kernel_rfl,by kernel_rfl⟩
theorem arR:Region.ready .any (aA 3 Tryz.f114) (ay 9 31)=[5,7]∧(ay 9 31).setIfInBounds 5 true=ay 9 63∧(ay 9 31).setIfInBounds 7 true=ay 9 159:=⟨by kernel_rfl,by kernel_rfl,by kernel_rfl⟩
theorem abV:Region.ready .any (aA 3 Tryz.f114) (ay 9 63)=[6,7]∧(ay 9 63).setIfInBounds 6 true=ay 9 127∧(ay 9 63).setIfInBounds 7 true=ay 9 191:=⟨by kernel_rfl,by kernel_rfl,by kernel_rfl⟩
theorem aag:Region.ready .any (aA 3 Tryz.f114) (ay 9 127)=[7]∧(ay 9 127).setIfInBounds 7 true=ay 9 255:=⟨by kernel_rfl,by kernel_rfl⟩
theorem fF:Region.ready .any (aA 3 Tryz.f114) (ay 9 255)=[8]∧(ay 9 255).setIfInBounds 8 true=ay 9 511:=⟨by kernel_rfl,by kernel_rfl⟩
theorem gK:Region.ready .any (aA 3 Tryz.f114) (ay 9 511)=[]:=by kernel_rfl
theorem iC:Region.ready .any (aA 3 Tryz.f114) (ay 9 191)=[6]∧(ay 9 191).setIfInBounds 6 true=ay 9 255:=⟨by kernel_rfl,by kernel_rfl⟩
theorem zT:Region.ready .any (aA 3 Tryz.f114) (ay 9 159)=[5]∧(ay 9 159).setIfInBounds 5 true=ay 9 191:=⟨by kernel_rfl,by kernel_rfl⟩
theorem agB:Region.ready .any (aA 3 Tryz.f114) (ay 9 55)=[3,7]∧(ay 9 55).setIfInBounds 3 true=ay 9 63∧(ay 9 55).setIfInBounds 7 true=ay 9 183:=⟨by kernel_rfl,by kernel_rfl,by kernel_rfl⟩
theorem mY:Region.ready .any (aA 3 Tryz.f114) (ay 9 183)=[3]∧(ay 9 183).setIfInBounds 3 true=ay 9 191:=⟨by kernel_rfl,by kernel_rfl⟩
theorem afW:Region.ready .any (aA 3 Tryz.f114) (ay 9 151)=[3,5]∧(ay 9 151).setIfInBounds 3 true=ay 9 159∧(ay 9 151).setIfInBounds 5 true=ay 9 183:=⟨by kernel_rfl,by kernel_rfl,by kernel_rfl⟩
theorem arc:Region.ready .any (aA 3 Tryz.f114) (ay 9 53)=[1,7]∧(ay 9 53).setIfInBounds 1 true=ay 9 55∧(ay 9 53).setIfInBounds 7 true=ay 9 181:=⟨by kernel_rfl,by kernel_rfl,by kernel_rfl⟩
theorem aeJ:Region.ready .any (aA 3 Tryz.f114) (ay 9 181)=[1]∧(ay 9 181).setIfInBounds 1 true=ay 9 183:=⟨by kernel_rfl,by kernel_rfl⟩
theorem aoJ:Region.ready .any (aA 3 Tryz.f114) (ay 9 149)=[1,5]∧(ay 9 149).setIfInBounds 1 true=ay 9 151∧(ay 9 149).setIfInBounds 5 true=ay 9 181:=⟨by kernel_rfl,by kernel_rfl,by kernel_rfl⟩
def I64 (z:Int):Prop:=-9223372036854775808≤z∧z≤9223372036854775807
def pk (x n:Int):Int:=if x.tmod n<0 then x.tmod n+n else x.tmod n
end Go.Proofs.YtjemlgdkjilnoaaGreatDoor
namespace Go.Proofs.YtjemlgdkjilnoaaGreatDoor
open Go.RowKit Go.ChangeShapes Go.WideShapes Go.Deep
set_option linter.unusedVariables false
section
variable {H:Type} {enc:TypeId×Value→H} {P:Program} {w:World} {base:Nat} {spare:Nat→Bool} {held:Bool}
theorem aa1 {α:Type}{f:α→List Value}{k:Nat}(hk:∀a,(f a).length=k)(h0:0<k):∀(l:List α) (j:Nat) (u:Value),(gcells f l)[j]? =some u→∃i a m,l[i]? =some a∧j=i*k+m∧(f a)[m]? =some u
 |[],j,u,h=>by simp[gcells]at h
 |a::r,j,u,h=>by
  rw[gcells]at h
  by_cases hj:j<k
  ·rw[List.getElem?_append_left (by rw[hk];exact hj)]at h
   exact⟨0,a,j,rfl,by omega,h⟩
  ·rw[List.getElem?_append_right (by rw[hk];omega),hk]at h
   obtain⟨i,b,m,h1,h2,h3⟩:=aa1 hk h0 r (j-k) u h
   exact⟨i+1,b,m,by simpa using h1,by rw[Nat.add_mul];omega,h3⟩
end
end Go.Proofs.YtjemlgdkjilnoaaGreatDoor
