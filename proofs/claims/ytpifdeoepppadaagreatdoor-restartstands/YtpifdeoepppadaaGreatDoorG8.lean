/- Texts of one layer, one behind the other. -/
import Derived.Test.YtpifdeoepppadaaGreatDoorG7
import Derived.Test.YtpifdeoepppadaaGreatDoorG3
import Derived.Test.YtpifdeoepppadaaGreatDoorProg
import Derived.Test.YtpifdeoepppadaaGreatDoorG1
import Derived.Lib.Strings
import Derived.Lib.AppendStr
import Derived.Lib.UnsafeStr
import Derived.Test.YtpifdeoepppadaaGreatDoorG6
set_option maxRecDepth 100000
set_option maxHeartbeats 8000000
namespace Go.Proofs.YtpifdeoepppadaaGreatDoor
open Go.RowKit
set_option linter.unusedVariables false
def vp (x:Pm.Pg):Value:=.agg #[.int .i64 x.e,.int .u8 x.r,.int .i64 x.a,.int .u8 x.p,.int .i64 x.f,.int .i64 x.b]
def cp (x:Pm.Pg):Array Value:=#[.int .i64 x.e,.int .u8 x.r,.int .i64 x.a,.int .u8 x.p,.int .i64 x.f,.int .i64 x.b]
def vn (x:Pm.Pg):Value:=.agg #[.int .i64 x.e,.int .i64 x.r,.int .i64 x.a,.int .i64 x.p,.int .i64 x.f,.int .i64 x.b]
def dW (x:Pm.Pg):Prop:=-9223372036854775808≤x.e∧x.e<9223372036854775808∧0≤x.r∧x.r<256∧-9223372036854775808≤x.a∧x.a<9223372036854775808∧0≤x.p∧x.p<256∧-9223372036854775808≤x.f∧x.f<9223372036854775808∧-9223372036854775808≤x.b∧x.b<9223372036854775808
theorem agL {x:Pm.Pg}(h:Pm.Ok x):dW x:=by
 have:=Pm.nM h
 unfold dW
 omega
theorem jR:dW Pm.no:=by unfold dW Pm.no;simp
structure Six (w:World) (g:Nat) (a b c d e f:Value):Prop where
 c0:w.cell? ⟨g,0,none⟩=some a
 c1:w.cell? ⟨g,1,none⟩=some b
 c2:w.cell? ⟨g,2,none⟩=some c
 c3:w.cell? ⟨g,3,none⟩=some d
 c4:w.cell? ⟨g,4,none⟩=some e
 c5:w.cell? ⟨g,5,none⟩=some f
theorem bO {w:World}{g:Nat}{t:TypeId}{fr:Nat×Nat}{a b c d e f:Value}(h:w.heap[g]? =some (.cells #[a,b,c,d,e,f] t fr)):Six w g a b c d e f:=
 ⟨ai h 0 rfl,ai h 1 rfl,ai h 2 rfl,ai h 3 rfl,ai h 4 rfl,ai h 5 rfl⟩
theorem lL {V:World}{R:Nat}{t:TypeId}{x0 x1 x2 x3 x4 x5:Value}(hR:V.heap[R]? =some (.cells #[x0,x1,x2,x3,x4,x5] t (0,0)))(a b c d e f:Value):
  ∃V',(((((V.setCell ⟨R,0,none⟩ a).setCell ⟨R,1,none⟩ b).setCell ⟨R,2,none⟩ c).setCell ⟨R,3,none⟩ d).setCell ⟨R,4,none⟩ e).setCell ⟨R,5,none⟩ f=V'∧V'.heap[R]? =some (.cells #[a,b,c,d,e,f] t (0,0))∧V.grownBy V' (some R)∧
   Six V R x0 x1 x2 x3 x4 x5∧(∀j,V.frozen? ⟨R,j,none⟩=false)∧Six V' R a b c d e f:=by
 have h:=aL (aL (aL (aL (aL (aL hR 0 a) 1 b) 2 c) 3 d) 4 e) 5 f
 refine⟨_,rfl,h,?_,bO hR,az hR,bO h⟩
 exact aO (aO (aO (aO (aO (aC V ⟨R,0,none⟩ a) (aC _ ⟨R,1,none⟩ b)) (aC _ ⟨R,2,none⟩ c)) (aC _ ⟨R,3,none⟩ d)) (aC _ ⟨R,4,none⟩ e)) (aC _ ⟨R,5,none⟩ f)
theorem aba (w:World)(t:TypeId)(x0 x1 x2 x3 x4 x5 a b c d e f:Value):
  ∃V,((((((w.alloc (.cells #[x0,x1,x2,x3,x4,x5] t)).setCell ⟨w.heap.size,0,none⟩ a).setCell ⟨w.heap.size,1,none⟩ b).setCell ⟨w.heap.size,2,none⟩ c).setCell ⟨w.heap.size,3,none⟩ d).setCell ⟨w.heap.size,4,none⟩ e).setCell ⟨w.heap.size,5,none⟩ f=V∧w.alloc (.cells #[a,b,c,d,e,f] t)=V∧V.heap.size=w.heap.size+1∧Below w.heap.size w V∧V.heap[w.heap.size]? =some (.cells #[a,b,c,d,e,f] t (0,0))∧Six V w.heap.size a b c d e f:=by
 obtain⟨V,h1,h2,h3,h4⟩:=ay w #[a,b,c,d,e,f] t
 refine⟨V,?_,h1,h2,h3,h4,bO h4⟩
 rw[←h1]
 simp[go_sem]
def fst (n:Int):Pm.Pg:=if n=0 then⟨1,1,0,0,0,0⟩else if n=1 then⟨1,2,0,0,0,0⟩else Pm.no
def uT (n:Int):Int:=if n=0 then 0 else if n=1 then 0 else 2
theorem ac1 (n:Int):dW (fst n):=by
 unfold fst
 by_cases h0:n=0
 ·rw[if_pos h0];unfold dW;simp
 ·rw[if_neg h0]
  by_cases h1:n=1
  ·rw[if_pos h1];unfold dW;simp
  ·rw[if_neg h1];exact jR
theorem aez (n:Int)(w:World):
  Calls Tryz.prog 106 #[.int .i64 n] w fun E w'=>E=.returned (.tuple #[vp (fst n),.int .i64 (uT n)])∧Below w.heap.size w w':=by
 obtain⟨w1,hw1,bH,ax,hB⟩:=ay w #[.int .i64 0,.int .u8 0,.int .i64 0,.int .u8 0,.int .i64 0,.int .i64 0] 41
 unfold fst uT vp
 go_enter Tryz.func106,Tryz.ntmps106
 by_cases h0:n=0
 ·have h0':(n==0)=true:=by simp[h0]
  rw[if_pos h0,if_pos h0]
  obtain⟨V,hV,bV,gV,⟨a0,a1,a2,a3,a4,a5⟩,fr,⟨z0,z1,z2,z3,z4,z5⟩⟩:=lL hB (.int .i64 1) (.int .u8 1) (.int .i64 0) (.int .u8 0) (.int .i64 0) (.int .i64 0)
  have f0:=fr 0;have f1:=fr 1;have f2:=fr 2;have f3:=fr 3;have f4:=fr 4;have f5:=fr 5
  have aF:=aK ax gV (Nat.le_refl _) (by omega)
  clear h0 hB bV gV fr ax
  go_wp2
  refine bodyPost_ret (v:=.tuple #[.agg #[.int .i64 1,.int .u8 1,.int .i64 0,.int .u8 0,.int .i64 0,.int .i64 0],.int .i64 0]) (by simp[results,Tryz.results106,go_sem,z0,z1,z2,z3,z4,z5]) rfl ?_
  exact⟨rfl,aF⟩
 ·have h0':(n==0)=false:=by simp[h0]
  rw[if_neg h0,if_neg h0]
  by_cases h1:n=1
  ·have h1':(n==1)=true:=by simp[h1]
   rw[if_pos h1,if_pos h1]
   obtain⟨V,hV,bV,gV,⟨a0,a1,a2,a3,a4,a5⟩,fr,⟨z0,z1,z2,z3,z4,z5⟩⟩:=lL hB (.int .i64 1) (.int .u8 2) (.int .i64 0) (.int .u8 0) (.int .i64 0) (.int .i64 0)
   have f0:=fr 0;have f1:=fr 1;have f2:=fr 2;have f3:=fr 3;have f4:=fr 4;have f5:=fr 5
   have aF:=aK ax gV (Nat.le_refl _) (by omega)
   clear h0 h1 hB bV gV fr ax
   go_wp2
   refine bodyPost_ret (v:=.tuple #[.agg #[.int .i64 1,.int .u8 2,.int .i64 0,.int .u8 0,.int .i64 0,.int .i64 0],.int .i64 0]) (by simp[results,Tryz.results106,go_sem,z0,z1,z2,z3,z4,z5]) rfl ?_
   exact⟨rfl,aF⟩
  ·have h1':(n==1)=false:=by simp[h1]
   rw[if_neg h1,if_neg h1]
   obtain⟨V,hV,bV,gV,⟨a0,a1,a2,a3,a4,a5⟩,fr,⟨z0,z1,z2,z3,z4,z5⟩⟩:=lL hB (.int .i64 0) (.int .u8 0) (.int .i64 0) (.int .u8 0) (.int .i64 0) (.int .i64 0)
   have f0:=fr 0;have f1:=fr 1;have f2:=fr 2;have f3:=fr 3;have f4:=fr 4;have f5:=fr 5
   have aF:=aK ax gV (Nat.le_refl _) (by omega)
   clear h0 h1 hB bV gV fr ax
   go_wp2
   refine bodyPost_ret (v:=.tuple #[.agg #[.int .i64 0,.int .u8 0,.int .i64 0,.int .u8 0,.int .i64 0,.int .i64 0],.int .i64 2]) (by simp[results,Tryz.results106,go_sem,z0,z1,z2,z3,z4,z5]) rfl ?_
   exact⟨rfl,aF⟩
theorem ahT (z:Int)(h0:0≤z)(h1:z<256):IntKind.i64.wrap z=z:=aN z (by omega) (by omega)
theorem xG (x:Pm.Pg)(w:World)(hx:dW x):
  Calls Tryz.prog 133 #[vp x] w fun E w'=>E=.returned (vn x)∧Below w.heap.size w w':=by
 unfold vp vn
 obtain⟨g1,g2,g3,g4,g5,g6,g7,g8,g9,g10,g11,g12⟩:=hx
 obtain⟨w1,hw1,bH,ax,hB⟩:=ay w #[.int .i64 x.e,.int .u8 x.r,.int .i64 x.a,.int .u8 x.p,.int .i64 x.f,.int .i64 x.b] 41
 obtain⟨w2,hw2,fA,aB,hC⟩:=ay w1 #[.int .i64 0,.int .i64 0,.int .i64 0,.int .i64 0,.int .i64 0,.int .i64 0] 168
 obtain⟨c0,c1,c2,c3,c4,c5⟩:=bO ((aB.block _ (aA hB)).trans hB)
 rw[bH]at hC
 obtain⟨V,hV,bV,gV,⟨a0,a1,a2,a3,a4,a5⟩,fr,⟨z0,z1,z2,z3,z4,z5⟩⟩:=lL hC (.int .i64 x.e) (.int .i64 x.r) (.int .i64 x.a) (.int .i64 x.p) (.int .i64 x.f) (.int .i64 x.b)
 have f0:=fr 0;have f1:=fr 1;have f2:=fr 2;have f3:=fr 3;have f4:=fr 4;have f5:=fr 5
 have aF:=aK (ax.trans (aB.mono (by omega))) gV (by omega) (by omega)
 have e1:=ahT x.r g3 g4
 have e2:=ahT x.p g7 g8
 clear hB hC bV gV fr ax aB
 go_enter Tryz.func133,Tryz.ntmps133
 go_wp2
 refine bodyPost_ret (v:=.agg #[.int .i64 x.e,.int .i64 x.r,.int .i64 x.a,.int .i64 x.p,.int .i64 x.f,.int .i64 x.b]) (by simp[results,Tryz.results133,go_sem,z0,z1,z2,z3,z4,z5]) rfl ?_
 exact⟨rfl,aF⟩
theorem ajy (z:Int)(h0:0≤z)(h1:z<256):IntKind.u8.wrap z=z:=by
 unfold IntKind.wrap
 simp[IntKind.bits,IntKind.signed]
 omega
theorem ak2 (x:Pm.Pg)(w:World)(hx:dW x):
  Calls Tryz.prog 212 #[vn x] w fun E w'=>E=.returned (vp x)∧Below w.heap.size w w':=by
 unfold vp vn
 obtain⟨g1,g2,g3,g4,g5,g6,g7,g8,g9,g10,g11,g12⟩:=hx
 obtain⟨w1,hw1,bH,ax,hB⟩:=ay w #[.int .i64 x.e,.int .i64 x.r,.int .i64 x.a,.int .i64 x.p,.int .i64 x.f,.int .i64 x.b] 168
 obtain⟨w2,hw2,fA,aB,hC⟩:=ay w1 #[.int .i64 0,.int .u8 0,.int .i64 0,.int .u8 0,.int .i64 0,.int .i64 0] 41
 obtain⟨c0,c1,c2,c3,c4,c5⟩:=bO ((aB.block _ (aA hB)).trans hB)
 rw[bH]at hC
 obtain⟨V,hV,bV,gV,⟨a0,a1,a2,a3,a4,a5⟩,fr,⟨z0,z1,z2,z3,z4,z5⟩⟩:=lL hC (.int .i64 x.e) (.int .u8 x.r) (.int .i64 x.a) (.int .u8 x.p) (.int .i64 x.f) (.int .i64 x.b)
 have f0:=fr 0;have f1:=fr 1;have f2:=fr 2;have f3:=fr 3;have f4:=fr 4;have f5:=fr 5
 have aF:=aK (ax.trans (aB.mono (by omega))) gV (by omega) (by omega)
 have e1:=ajy x.r g3 g4
 have e2:=ajy x.p g7 g8
 clear hB hC bV gV fr ax aB
 go_enter Tryz.func212,Tryz.ntmps212
 go_wp2
 refine bodyPost_ret (v:=.agg #[.int .i64 x.e,.int .u8 x.r,.int .i64 x.a,.int .u8 x.p,.int .i64 x.f,.int .i64 x.b]) (by simp[results,Tryz.results212,go_sem,z0,z1,z2,z3,z4,z5]) rfl ?_
 exact⟨rfl,aF⟩
def same (x y:Pm.Pg):Bool:=x.e==y.e&&x.r==y.r&&x.a==y.a&&x.p==y.p&&x.f==y.f&&x.b==y.b
theorem sK {x y:Pm.Pg}:same x y=true↔x=y:=by
 constructor
 ·intro h
  simp[same]at h
  exact Pm.Pg.eq h.1.1.1.1.1 h.1.1.1.1.2 h.1.1.1.2 h.1.1.2 h.1.2 h.2
 ·rintro rfl
  simp[same]
theorem Tryz.aj5 (a b c d e f a' b' c' d' e' f':Int)(w:World):(binOp .eql 41 (.agg #[.int .i64 a,.int .u8 b,.int .i64 c,.int .u8 d,.int .i64 e,.int .i64 f]) (.agg #[.int .i64 a',.int .u8 b',.int .i64 c',.int .u8 d',.int .i64 e',.int .i64 f'])).run Tryz.prog w=.ok (.bool (a==a'&&b==b'&&c==c'&&d==d'&&e==e'&&f==f')) w:=by
 rw[run_eql_struct,run_equalIn_agg w 9999 41 _ _ (by kernel_rfl) (by kernel_rfl)]
 unfold Program.fieldsOf
 rw[Tryz.underlying41]
 simp[Op.eqFields,go_sem,Tryz.underlying38,Tryz.underlying39,Tryz.underlying3]
 by_cases h1:a=a'<;>by_cases h2:b=b'<;>by_cases h3:c=c'<;>by_cases h4:d=d'<;>by_cases h5:e=e'<;>by_cases h6:f=f'<;>simp[h1,h2,h3,h4,h5,h6]
def fw (q:Nat) (off:Bool) (x:Pm.Pg) (vw:Value) (en:Int) (vr vs:Value):Array Value:=#[.pointer (some ⟨q,0,none⟩),.bool off,.int .i64 x.e,.int .u8 x.r,.int .i64 x.a,.int .u8 x.p,.int .i64 x.f,.int .i64 x.b,vw,.int .i64 en,.slice none 0 0,vr,vs]
def jy (x:Pm.Pg) (ep en rn:Int) (p:Nat):Array Value:=#[.int .i64 x.e,.int .u8 x.r,.int .i64 x.a,.int .u8 x.p,.int .i64 x.f,.int .i64 x.b,.int .i64 ep,.int .i64 en,.int .i64 rn,.func (.func 114) #[.pointer (some ⟨p,0,none⟩)] #[]]
structure Ten (w:World) (g:Nat) (a b c d e f h i j k:Value):Prop where
 c0:w.cell? ⟨g,0,none⟩=some a
 c1:w.cell? ⟨g,1,none⟩=some b
 c2:w.cell? ⟨g,2,none⟩=some c
 c3:w.cell? ⟨g,3,none⟩=some d
 c4:w.cell? ⟨g,4,none⟩=some e
 c5:w.cell? ⟨g,5,none⟩=some f
 c6:w.cell? ⟨g,6,none⟩=some h
 c7:w.cell? ⟨g,7,none⟩=some i
 c8:w.cell? ⟨g,8,none⟩=some j
 c9:w.cell? ⟨g,9,none⟩=some k
theorem ni {w:World}{g:Nat}{t:TypeId}{fr:Nat×Nat}{a b c d e f h i j k:Value}(hg:w.heap[g]? =some (.cells #[a,b,c,d,e,f,h,i,j,k] t fr)):Ten w g a b c d e f h i j k:=
 ⟨ai hg 0 rfl,ai hg 1 rfl,ai hg 2 rfl,ai hg 3 rfl,ai hg 4 rfl,ai hg 5 rfl,ai hg 6 rfl,ai hg 7 rfl,ai hg 8 rfl,ai hg 9 rfl⟩
theorem afp {V:World}{R:Nat}{t:TypeId}{x0 x1 x2 x3 x4 x5 x6 x7 x8 x9:Value}(hR:V.heap[R]? =some (.cells #[x0,x1,x2,x3,x4,x5,x6,x7,x8,x9] t (0,0)))(a b c d e f h i j k:Value):
  ∃V',(((((((((V.setCell ⟨R,0,none⟩ a).setCell ⟨R,1,none⟩ b).setCell ⟨R,2,none⟩ c).setCell ⟨R,3,none⟩ d).setCell ⟨R,4,none⟩ e).setCell ⟨R,5,none⟩ f).setCell ⟨R,6,none⟩ h).setCell ⟨R,7,none⟩ i).setCell ⟨R,8,none⟩ j).setCell ⟨R,9,none⟩ k=V'∧V'.heap[R]? =some (.cells #[a,b,c,d,e,f,h,i,j,k] t (0,0))∧V.grownBy V' (some R)∧
   Ten V R x0 x1 x2 x3 x4 x5 x6 x7 x8 x9∧(∀j,V.frozen? ⟨R,j,none⟩=false)∧Ten V' R a b c d e f h i j k:=by
 have q0:(V.setCell ⟨R,0,none⟩ a).heap[R]? =some (.cells #[a,x1,x2,x3,x4,x5,x6,x7,x8,x9] t (0,0)):=aL hR 0 a
 have q1:((V.setCell ⟨R,0,none⟩ a).setCell ⟨R,1,none⟩ b).heap[R]? =some (.cells #[a,b,x2,x3,x4,x5,x6,x7,x8,x9] t (0,0)):=aL q0 1 b
 have q2:(((V.setCell ⟨R,0,none⟩ a).setCell ⟨R,1,none⟩ b).setCell ⟨R,2,none⟩ c).heap[R]? =some (.cells #[a,b,c,x3,x4,x5,x6,x7,x8,x9] t (0,0)):=aL q1 2 c
 have q3:((((V.setCell ⟨R,0,none⟩ a).setCell ⟨R,1,none⟩ b).setCell ⟨R,2,none⟩ c).setCell ⟨R,3,none⟩ d).heap[R]? =some (.cells #[a,b,c,d,x4,x5,x6,x7,x8,x9] t (0,0)):=aL q2 3 d
 have q4:(((((V.setCell ⟨R,0,none⟩ a).setCell ⟨R,1,none⟩ b).setCell ⟨R,2,none⟩ c).setCell ⟨R,3,none⟩ d).setCell ⟨R,4,none⟩ e).heap[R]? =some (.cells #[a,b,c,d,e,x5,x6,x7,x8,x9] t (0,0)):=aL q3 4 e
 have q5:((((((V.setCell ⟨R,0,none⟩ a).setCell ⟨R,1,none⟩ b).setCell ⟨R,2,none⟩ c).setCell ⟨R,3,none⟩ d).setCell ⟨R,4,none⟩ e).setCell ⟨R,5,none⟩ f).heap[R]? =some (.cells #[a,b,c,d,e,f,x6,x7,x8,x9] t (0,0)):=aL q4 5 f
 have q6:(((((((V.setCell ⟨R,0,none⟩ a).setCell ⟨R,1,none⟩ b).setCell ⟨R,2,none⟩ c).setCell ⟨R,3,none⟩ d).setCell ⟨R,4,none⟩ e).setCell ⟨R,5,none⟩ f).setCell ⟨R,6,none⟩ h).heap[R]? =some (.cells #[a,b,c,d,e,f,h,x7,x8,x9] t (0,0)):=aL q5 6 h
 have q7:((((((((V.setCell ⟨R,0,none⟩ a).setCell ⟨R,1,none⟩ b).setCell ⟨R,2,none⟩ c).setCell ⟨R,3,none⟩ d).setCell ⟨R,4,none⟩ e).setCell ⟨R,5,none⟩ f).setCell ⟨R,6,none⟩ h).setCell ⟨R,7,none⟩ i).heap[R]? =some (.cells #[a,b,c,d,e,f,h,i,x8,x9] t (0,0)):=aL q6 7 i
 have q8:(((((((((V.setCell ⟨R,0,none⟩ a).setCell ⟨R,1,none⟩ b).setCell ⟨R,2,none⟩ c).setCell ⟨R,3,none⟩ d).setCell ⟨R,4,none⟩ e).setCell ⟨R,5,none⟩ f).setCell ⟨R,6,none⟩ h).setCell ⟨R,7,none⟩ i).setCell ⟨R,8,none⟩ j).heap[R]? =some (.cells #[a,b,c,d,e,f,h,i,j,x9] t (0,0)):=aL q7 8 j
 have hx:((((((((((V.setCell ⟨R,0,none⟩ a).setCell ⟨R,1,none⟩ b).setCell ⟨R,2,none⟩ c).setCell ⟨R,3,none⟩ d).setCell ⟨R,4,none⟩ e).setCell ⟨R,5,none⟩ f).setCell ⟨R,6,none⟩ h).setCell ⟨R,7,none⟩ i).setCell ⟨R,8,none⟩ j).setCell ⟨R,9,none⟩ k).heap[R]? =some (.cells #[a,b,c,d,e,f,h,i,j,k] t (0,0)):=aL q8 9 k
 refine⟨_,rfl,hx,?_,ni hR,az hR,ni hx⟩
 have g6:=aO (aO (aO (aO (aO (aC V ⟨R,0,none⟩ a) (aC _ ⟨R,1,none⟩ b)) (aC _ ⟨R,2,none⟩ c)) (aC _ ⟨R,3,none⟩ d)) (aC _ ⟨R,4,none⟩ e)) (aC _ ⟨R,5,none⟩ f)
 exact aO (aO (aO (aO g6 (aC _ ⟨R,6,none⟩ h)) (aC _ ⟨R,7,none⟩ i)) (aC _ ⟨R,8,none⟩ j)) (aC _ ⟨R,9,none⟩ k)
structure StA (p:Nat) (w:World) (q:Nat) (off:Bool) (x:Pm.Pg) (vw:Value) (en:Int) (vr vs:Value):Prop where
 c0:w.cell? ⟨p,0,none⟩=some (.pointer (some ⟨q,0,none⟩))
 c1:w.cell? ⟨p,1,none⟩=some (.bool off)
 c2:w.cell? ⟨p,2,none⟩=some (.int .i64 x.e)
 c3:w.cell? ⟨p,3,none⟩=some (.int .u8 x.r)
 c4:w.cell? ⟨p,4,none⟩=some (.int .i64 x.a)
 c5:w.cell? ⟨p,5,none⟩=some (.int .u8 x.p)
 c6:w.cell? ⟨p,6,none⟩=some (.int .i64 x.f)
 c7:w.cell? ⟨p,7,none⟩=some (.int .i64 x.b)
 c8:w.cell? ⟨p,8,none⟩=some vw
 c9:w.cell? ⟨p,9,none⟩=some (.int .i64 en)
 c10:w.cell? ⟨p,10,none⟩=some (.slice none 0 0)
 c11:w.cell? ⟨p,11,none⟩=some vr
 c12:w.cell? ⟨p,12,none⟩=some vs
theorem kH {p q:Nat}{w:World}{t:TypeId}{fr:Nat×Nat}{off:Bool}{x:Pm.Pg}{vw vr vs:Value}{en:Int}(h:w.heap[p]? =some (.cells (fw q off x vw en vr vs) t fr)):StA p w q off x vw en vr vs:=
 ⟨ai h 0 rfl,ai h 1 rfl,ai h 2 rfl,ai h 3 rfl,ai h 4 rfl,ai h 5 rfl,ai h 6 rfl,ai h 7 rfl,ai h 8 rfl,ai h 9 rfl,ai h 10 rfl,ai h 11 rfl,ai h 12 rfl⟩
def tu (p:Bool) (k v:ByteArray):Value:=.agg #[.bool p,.string k,.string v]
theorem aqF (p:Bool)(k v:ByteArray):Om.aJ p k.data.toList v.data.toList=if 1≤k.size∧k.size≤16∧v.size≤32∧(p=true∨v.toList.isEmpty=true)then 0 else 2:=by
 unfold Om.aJ
 simp only[Lib.toList_data,List.isEmpty_iff,Lib.size_eq]
theorem mG (p:Bool)(k v:ByteArray)(w:World)(hk:k.size≤140737488351232)(hv:v.size≤140737488351232):
  Calls Tryz.prog 99 #[tu p k v] w fun E w'=>E=.returned (.int .i64 (Om.aJ p k.data.toList v.data.toList))∧Below w.heap.size w w':=by
 unfold tu
 obtain⟨c,hc⟩:∃c,Om.aJ p k.data.toList v.data.toList=c:=⟨_,rfl⟩
 rw[hc]
 have HC:=hide hc
 clear hc
 go_enter Tryz.func99,Tryz.ntmps99
 go_wp2
 all_goals go_ret
 all_goals refine⟨iT ?_,(Below.refl _ _).alloc (Nat.le_refl _) _⟩
 all_goals rw[←HC.out,aqF]
 all_goals clear HC
 all_goals (cases p<;>simp_all<;>first|omega|(intros;omega))
section
variable {P:Program} {w:World} {ops:Array Oper} {rest:List Oper} {o:Oper} {a:Act} {Q:Exit→Act→World→Prop}
theorem aae (hgd:o.guard=none)(sl x:Operand)(t u:TypeId)
  (ho:o.op=.call {callee:=.builtin .append,args:=#[sl,x],argTypes:=#[t,u]})
  (e:TypeId) (base:Nat) (ht:P.underlying t=some (.slice e)) (hu:P.underlying u=some .string) (hinfo:(P.info? e).map (fun i=>(i.zero,i.size,i.bytes))=some (some (.int .u8 0),1,1))
  (v:Value) (zs:List Int) (hs:a.eval sl=v) (hown:Own .u8 e base w v zs) (s:ByteArray) (hx:a.eval x=.string s)
  (hlen:zs.length+s.size≤140737488355328) (hbase:base≤w.heap.size)
  (h:∀v' w',Own .u8 e base w' v' (zs++Om.ints s.data.toList)→Below base w w'→wpList P ops Q rest (a.put o.dst v') w'):wpList P ops Q (o::rest) a w:=by
 obtain⟨i,hi,hz,hsize,hb⟩:=info_parts hinfo
 refine Lib.wpList_append_own_string w hgd sl x t u ho base e i ht hu hi hz hsize hb v zs.length _ hs hown.2 s hx (by unfold maxLen;omega) hlen hbase fun v' w' h1 h2 _=>?_
 refine h v' w' ⟨?_,?_⟩ ((Below.refl _ _).grown h2 hbase fun k' hk=>(hown.2.lt k' hk).1)
 ·intro z hz
  rcases List.mem_append.1 hz with hz|hz
  ·exact hown.1 z hz
  ·unfold Om.ints at hz
   obtain⟨c,_,rfl⟩:=List.mem_map.1 hz
   have:=c.toNat_lt
   exact wf_u8 (by omega) (by omega)
 ·have e1:zs.length+s.size=(zs++Om.ints s.data.toList).length:=by rw[List.length_append,Om.jh,Lib.size_eq]
  rw[e1]at h1
  simpa[Lib.strCells_eq,Lib.byteCells,Om.ints,List.map_append,Function.comp_def]using h1
end
theorem aeK (s:ByteArray)(w:World)(hs:s.size≤140737488351232):
  Calls Tryz.prog 250 #[.string s] w fun E w'=>E=.returned (.int .i64 (Om.cnt s.data.toList).length)∧w=w':=by
 have h10:=Vm.gK (x:=s.size) (by omega)
 have e1:((Om.cnt s.data.toList).length:Int)=Vm.sz s.size+s.size:=by rw[Om.jV,←Lib.size_eq];omega
 rw[e1]
 clear e1
 generalize hm:Vm.sz s.size=m at*
 have HM:=hide hm
 clear hm
 go_enter Tryz.func250,Tryz.ntmps250
 go_wp2_with fail
 refine(afQ _ _ (by omega) (by omega)).mono ?_
 rintro E w1 ⟨rfl,rfl⟩
 rw[Int.toNat_natCast,HM.out]
 go_wp2
 go_ret
 exact⟨rfl,rfl⟩
theorem auc (s:ByteArray)(w:World)(hs:s.size≤140737488351232):
  Calls Tryz.prog 250 #[.string s] w fun E w'=>E=.returned (.int .i64 (Om.cnt s.data.toList).length)∧∃m,w'=w.drewN m:=by
 refine(aeK s w hs).mono ?_
 rintro E w1 ⟨rfl,rfl⟩
 exact⟨rfl,0,rfl⟩
theorem abq (base:Nat)(v:Value)(zs:List Int)(s:ByteArray)(w:World)(hv:Own .u8 5 base w v zs)(hb:base≤w.heap.size)(hl:zs.length≤140737488353280)(hs:s.size≤64):
  Calls Tryz.prog 232 #[v,.string s] w fun E w'=>∃v',E=.returned v'∧Own .u8 5 base w' v' (zs++Om.cnt s.data.toList)∧Below base w w':=by
 have h10:=Vm.gK (x:=s.size) (by omega)
 have hz10:(Vm.enc s.size).length≤10:=h10
 go_enter Tryz.func232,Tryz.ntmps232
 go_wp2_with fail
 refine(iG _ [] s.size _ (Is.nil _ _) (by simp) (by omega) (by omega)).mono ?_
 rintro E w1 ⟨v1,rfl,bJ,ax⟩
 rw[Int.toNat_natCast,List.nil_append]at bJ
 have hb1:=ax.size
 have hv1:=hv.below ax
 have is1:=bJ.is
 go_wp2_with (at_builtin;refine dA rfl (.tmp 5) (.tmp 9) 71 rfl .u8 5 base 1 Tryz.underlying71 Tryz.info5 (by decide) _ zs rfl hv1 _ (Vm.enc s.size) rfl is1 (by omega) (by omega) ?_)
 intro v2 w2 bq aB _
 have hb2:=aB.size
 have hl2:(zs++Vm.enc s.size).length≤140737488353290:=by rw[List.length_append];omega
 go_wp2_with (at_builtin;refine aae rfl (.tmp 11) (.tmp 12) 71 9 rfl 5 base Tryz.underlying71 Tryz.underlying9 Tryz.info5 _ (zs++Vm.enc s.size) rfl bq s rfl (by omega) (by omega) ?_)
 intro v3 w3 df aH
 have bM:Own .u8 5 base w3 v3 (zs++Om.cnt s.data.toList):=by
  unfold Om.cnt
  rw[←Lib.size_eq,←List.append_assoc]
  simpa using df
 go_wp2
 go_ret
 exact⟨_,rfl,bM,((ax.mono hb).trans aB).trans aH⟩
theorem aeo (p:Bool)(k v:ByteArray)(w:World)(hc:Om.aJ p k.data.toList v.data.toList=0):
  Calls Tryz.prog 231 #[tu p k v] w fun E w'=>E=.returned (.int .i64 (Om.dw p k.data.toList v.data.toList).length)∧Below w.heap.size w w':=by
 have hh:=Om.fI hc
 rw[←Lib.size_eq,←Lib.size_eq]at hh
 have h1:=Om.af0 (s:=k.data.toList) (by rw[←Lib.size_eq];omega)
 have h2:=Om.af0 (s:=v.data.toList) (by rw[←Lib.size_eq];omega)
 have hk:k.size≤140737488351232:=by omega
 have hv:v.size≤140737488351232:=by omega
 clear hc hh
 unfold tu
 cases p
 ·obtain⟨n,hn⟩:∃n,(Om.cnt k.data.toList).length=n:=⟨_,rfl⟩
  have e:((Om.dw false k.data.toList v.data.toList).length:Int)=1+n:=by unfold Om.dw;simp[hn];omega
  rw[e]
  rw[hn]at h1
  have HN:=hide hn
  clear hn e h2
  go_enter Tryz.func231,Tryz.ntmps231
  go_wp2_with fail
  refine(aeK k _ hk).mono ?_
  rintro E w1 ⟨rfl,rfl⟩
  rw[HN.out]
  go_wp2
  go_ret
  exact⟨rfl,(Below.refl _ _).alloc (Nat.le_refl _) _⟩
 ·have e:((Om.dw true k.data.toList v.data.toList).length:Int)=1+((Om.cnt k.data.toList).length:Nat)+((Om.cnt v.data.toList).length:Nat):=by unfold Om.dw;simp;omega
  rw[e]
  clear e
  go_enter Tryz.func231,Tryz.ntmps231
  go_wp2_with fail
  go_quiet ((go_at_call 250;refine Calls.quiet_of (auc _ _ (by assumption))))
  go_wp2
  go_ret
  exact⟨rfl,below_drewN ((Below.refl _ _).alloc (Nat.le_refl _) _) _⟩
def qh (o:Bm.Ov):List Value:=[.bool o.p,.string o.k,.string o.v]
def ocells:List Bm.Ov→List Value
 |[]=>[]
 |o::r=>qh o++ocells r
theorem qw:∀(l:List Bm.Ov),(ocells l).length=l.length*3
 |[]=>rfl
 |o::r=>by
  have:=qw r
  simp only[ocells,qh,List.length_append,List.length_cons,List.length_nil]
  omega
theorem xz:∀(l m:List Bm.Ov),ocells (l++m)=ocells l++ocells m
 |[],_=>rfl
 |o::l,m=>by simp only[List.cons_append,ocells,xz l m,List.append_assoc]
theorem um:∀(l:List Bm.Ov),∀u∈ocells l,u.oneCell'=true
 |[],u,h=>by simp[ocells]at h
 |o::r,u,h=>by
  rcases List.mem_append.1 h with h|h
  ·simp only[qh,List.mem_cons,List.not_mem_nil,or_false]at h
   rcases h with rfl|rfl|rfl<;>rfl
  ·exact um r u h
theorem yM:∀(l:List Bm.Ov) (i:Nat) (hi:i<l.length),(ocells l)[i*3]? =some (.bool l[i].p)∧(ocells l)[i*3+1]? =some (.string l[i].k)∧(ocells l)[i*3+2]? =some (.string l[i].v)
 |[],_,hi=>by simp at hi
 |o::r,0,hi=>by simp[ocells,qh]
 |o::r,i+1,hi=>by
  have:=yM r i (by simpa using hi)
  simp only[ocells,qh]
  rw[show(i+1)*3=i*3+3 by omega]
  simpa[List.getElem?_append]using this
def dm (w:World) (v:Value) (l:List Bm.Ov):Prop:=
 (v=.slice none 0 0∧l=[])∨∃ad cap,v=.slice (some ad) l.length cap∧l.length≤cap∧cap≤maxLen∧∀j u,(ocells l)[j]? =some u→w.cell? (ad.add j)=some u
def aV (e:TypeId) (base:Nat) (w:World) (v:Value) (l:List Bm.Ov):Prop:=w.ownsRow base e 3 v l.length (ocells l)
def fG (l:List Bm.Ov):Prop:=∀o∈l,o.k.size≤140737488351232∧o.v.size≤140737488351232
theorem dm.nil (w:World):dm w (.slice none 0 0) []:=.inl ⟨rfl,rfl⟩
theorem aV.nil (e:TypeId)(base:Nat)(w:World):aV e base w (.slice none 0 0) []:=World.ownsRow_nil _ _ _ _
theorem dm.below {w w':World}{v:Value}{l:List Bm.Ov}(h:dm w v l)(hb:Below w.heap.size w w'):dm w' v l:=by
 rcases h with h|⟨ad,cap,hv,h1,h2,hc⟩
 ·exact .inl h
 ·refine .inr ⟨ad,cap,hv,h1,h2,fun j u hj=>?_⟩
  have:=hc j u hj
  rw[hb.cell (World.block_lt_of_cell? _ _ this)]
  exact this
theorem dm.drewN {w:World}{v:Value}{l:List Bm.Ov}(h:dm w v l)(n:Nat):dm (w.drewN n) v l:=h.below (below_drewN (Below.refl _ _) n)
theorem dm.shape {w:World}{v:Value}{l:List Bm.Ov}(h:dm w v l):∃ao cap,v=.slice ao l.length cap∧l.length≤cap∧cap≤maxLen:=by
 rcases h with⟨hv,e⟩|⟨ad,cap,hv,h1,h2,_⟩
 ·subst e;exact⟨none,0,hv,by simp,by simp⟩
 ·exact⟨some ad,cap,hv,h1,h2⟩
theorem dm.bare {w:World}{v:Value}(h:dm w v []):∃ao cap,v=.slice ao 0 cap:=by
 obtain⟨ao,cap,h,_⟩:=h.shape
 exact⟨ao,cap,h⟩
theorem dm.full {w:World}{v:Value}{l:List Bm.Ov}(h:dm w v l)(hne:0<l.length):
  ∃b off cap,v=.slice (some ⟨b,off,none⟩) l.length cap∧l.length≤cap∧cap≤maxLen∧b<w.heap.size∧
   ∀i o,l[i]? =some o→w.cell? ⟨b,off+i*3,none⟩=some (.bool o.p)∧w.cell? ⟨b,off+i*3+1,none⟩=some (.string o.k)∧w.cell? ⟨b,off+i*3+2,none⟩=some (.string o.v):=by
 rcases h with⟨_,h⟩|⟨⟨b,off,spot⟩,cap,hv,h1,h2,hc⟩
 ·subst h;simp at hne
 ·have h0:=hc 0 _ (yM l 0 hne).1
  have hspot:spot=none:=by simpa[Addr.add]using World.cell?_spot h0
  subst hspot
  refine⟨b,off,cap,hv,h1,h2,World.block_lt_of_cell? _ _ h0,fun i o jo=>?_⟩
  obtain⟨hi,rfl⟩:=List.getElem?_eq_some_iff.1 jo
  obtain⟨g1,g2,g3⟩:=yM l i hi
  have k1:=hc _ _ g1
  have k2:=hc _ _ g2
  have k3:=hc _ _ g3
  rw[fD]at k1 k2 k3
  exact⟨k1,by rw[Nat.add_assoc];exact k2,by rw[Nat.add_assoc];exact k3⟩
theorem aV.is {e base:Nat}{w:World}{v:Value}{l:List Bm.Ov}(h:aV e base w v l):dm w v l:=by
 rcases h.2 with⟨hv,hn⟩|⟨g,cap,cur,hv,h1,hh,hc,hm,hs,ht⟩
 ·exact .inl ⟨hv,List.eq_nil_of_length_eq_zero hn⟩
 ·refine .inr ⟨⟨g,0,none⟩,cap,hv,hc,hm,fun j u hj=>?_⟩
  exact h.cells (by rw[hv];rfl) j u hj
theorem aV.below {e base:Nat}{w w':World}{v:Value}{l:List Bm.Ov}(h:aV e base w v l)(hb:Below w.heap.size w w'):aV e base w' v l:=by
 refine⟨h.1,?_⟩
 rcases h.2 with h|⟨g,cap,cur,hv,h1,hh,r⟩
 ·exact .inl h
 ·refine .inr ⟨g,cap,cur,hv,h1,?_,r⟩
  rw[hb.block g (Array.getElem?_eq_some_iff.1 hh).1]
  exact hh
theorem aV.kept {e base:Nat}{w w':World}{v:Value}{l:List Bm.Ov}{row:Option Nat}(h:aV e base w v l)(hg:w.grownBy w' row)(hne:v.ownBlock=none∨v.ownBlock≠row):aV e base w' v l:=World.ownsRow.kept h hg hne
theorem aV.bz {e base base':Nat}{w:World}{v:Value}{l:List Bm.Ov}(h:aV e base w v l)(hb:base'≤base):aV e base' w v l:=by
 refine⟨h.1,?_⟩
 rcases h.2 with h|⟨g,cap,cur,hv,h1,r⟩
 ·exact .inl h
 ·exact .inr ⟨g,cap,cur,hv,by omega,r⟩
theorem aV.block {e base:Nat}{w:World}{v:Value}{l:List Bm.Ov}(h:aV e base w v l):∀b,v.ownBlock=some b→base≤b∧b<w.heap.size:=World.ownsRow.lt h
theorem lN (e:TypeId)(w:World)(cs:Array Value)(n:Nat)(l:List Bm.Ov)(hn:l.length=n)(h:cs.toList=ocells l)(hm:n≤maxLen):
  ∃W,w.alloc (.cells cs e)=W∧W.heap.size=w.heap.size+1∧Below w.heap.size w W∧aV e w.heap.size W (.slice (some ⟨w.heap.size,0,none⟩) n n) l:=by
 subst hn
 refine⟨_,rfl,by simp,(Below.refl _ _).alloc (Nat.le_refl _) _,?_⟩
 have ho:=World.ownsRow_lit (base:=w.heap.size) (e:=e) (size:=3) w cs l.length (Nat.le_refl _) hm (by have:=congrArg List.length h;rw[qw]at this;simpa using this)
 rw[h]at ho
 exact ho
section
variable {P:Program} {w:World} {ops:Array Oper} {rest:List Oper} {o:Oper} {a:Act} {Q:Exit→Act→World→Prop}
theorem iN (hgd:o.guard=none)(s x:Operand)(t:TypeId)
  (ho:o.op=.call {callee:=.builtin .append,args:=#[s,x],argTypes:=#[t,t]})
  (e:TypeId) (base:Nat) (ht:P.underlying t=some (.slice e)) (hinfo:(P.info? e).map (fun i=>(i.zero,i.size,i.bytes))=some (some (.agg #[.bool false,.string ⟨#[]⟩,.string ⟨#[]⟩]),3,40))
  (v:Value) (l:List Bm.Ov) (hs:a.eval s=v) (hown:aV e base w v l) (vx:Value) (m:List Bm.Ov) (hx:a.eval x=vx) (his:dm w vx m)
  (hlen:(l.length+m.length)*40≤140737488355328) (hbase:base≤w.heap.size)
  (h:∀v' w',aV e base w' v' (l++m)→Below base w w'→w.grownBy w' v.ownBlock→wpList P ops Q rest (a.put o.dst v') w'):wpList P ops Q (o::rest) a w:=by
 obtain⟨i,hi,hz,hsize,hb⟩:=info_parts hinfo
 have hn:l.length+m.length≤140737488355328:=by omega
 rcases his with⟨hv,hy⟩|⟨ad,cap,hv,h1,h2,hc⟩
 ·subst hy
  refine wpList_append_own_none hgd s x t ho base e i 3 ht hi v l.length _ hs hown (hx.trans hv) (h v w (by simpa using hown) (Below.refl _ _) (World.grownBy.refl _ _))
 ·refine wpList_append_own w hgd s x t ho base e i _ 3 40 ht hi hz hsize hb rfl (by decide) v l.length _ hs hown ad m.length cap (ocells m) (hx.trans hv) (qw m) hc (um m) (by unfold maxLen;omega) hlen hbase ?_
  intro v' w' ho' hg _
  refine h v' w' (by unfold aV;rw[xz,List.length_append];exact ho') ((Below.refl _ _).grown hg hbase fun k' hk=>?_) hg
  exact(World.ownsRow.lt hown k' hk).1
end
theorem Tryz.nR:(Tryz.prog.info? 106).map (fun i=>(i.zero,i.size,i.bytes))=some (some (.agg #[.bool false,.string ⟨#[]⟩,.string ⟨#[]⟩]),3,40):=by kernel_rfl
theorem ab9 {l:List Bm.Ov}{k:Nat}{o:Bm.Ov}(h:∀q∈l.take k,q.c=0)(ho:l[k]? =some o)(hc:o.c=0):∀q∈l.take (k+1),q.c=0:=by
 obtain⟨hk,rfl⟩:=List.getElem?_eq_some_iff.1 ho
 intro q hq
 rw[List.take_succ_eq_append_getElem hk]at hq
 rcases List.mem_append.1 hq with hq|hq
 ·exact h q hq
 ·rw[List.mem_singleton.1 hq];exact hc
theorem mX (vl:Value)(l:List Bm.Ov)(w:World)(h:dm w vl l)(hf:fG l)(hl:l.length≤140737488355328):
  Calls Tryz.prog 197 #[vl] w fun E w'=>E=.returned (.int .i64 (Bm.eF l))∧Below w.heap.size w w':=by
 by_cases h0:l.length=0
 ·have:l=[]:=List.eq_nil_of_length_eq_zero h0
  subst this
  obtain⟨ao,cap,rfl⟩:=h.bare
  clear h hf hl h0
  go_enter Tryz.func197,Tryz.ntmps197
  go_wp2
  go_ret
  exact⟨rfl,Below.refl _ _⟩
 ·by_cases h8:8<l.length
  ·obtain⟨ao,cap,rfl,_,_⟩:=h.shape
   rw[Bm.amK h8]
   clear h hf
   have e0:((l.length:Int)==0)=false:=by rw[beq_eq_false_iff_ne];omega
   have e8:(8:Int)<l.length:=by omega
   go_enter Tryz.func197,Tryz.ntmps197
   go_wp2
   go_ret
   exact⟨rfl,Below.refl _ _⟩
  ·obtain⟨b1,o1,c1,rfl,_,_,hB,hcell⟩:=h.full (by omega)
   rw[Bm.apu h0 h8]
   have e0:((l.length:Int)==0)=false:=by rw[beq_eq_false_iff_ne];omega
   have e8:¬(8:Int)<l.length:=by omega
   clear h
   generalize hn:l.length=n at*
   have HN:=hide hn
   have HC:=hide hcell
   have HF:=hide hf
   clear hn hcell hf
   go_enter Tryz.func197,Tryz.ntmps197
   go_wp2
   go_loopw [14] (fun i wr=>∃(k:Nat),k≤n∧i=.int .i64 k∧Hid (∀q∈l.take k,q.c=0)∧Below w.heap.size w wr) (fun i _=>n-(intOf i).toNat)
   case atStart=>exact⟨0,by omega,rfl,hide (by simp),Below.refl _ _⟩
   case round=>
    obtain⟨k,hk,rfl,HT,aF⟩:=hrel
    by_cases hlt:k<n
    ·obtain⟨o,ho⟩:∃o,l[k]? =some o:=⟨l[k]'(by have:=HN.out;omega),by rw[List.getElem?_eq_getElem]⟩
     obtain⟨c0,c1,c2⟩:=HC.out k o ho
     have sz:=aF.size
     have d0:=(aF.cell (p:=⟨b1,o1+k*3,none⟩) hB).trans c0
     have d1:=(aF.cell (p:=⟨b1,o1+k*3+1,none⟩) hB).trans c1
     have d2:=(aF.cell (p:=⟨b1,o1+k*3+2,none⟩) hB).trans c2
     have HO:=hide ho
     clear c0 c1 c2 ho
     have hlt':(k:Int)<n:=by omega
     obtain⟨hk1,hv1⟩:=HF.out o (List.mem_of_getElem? HO.out)
     go_wp2_with fail
     refine(mG o.p o.k o.v _ hk1 hv1).mono ?_
     rintro E w1 ⟨rfl,ax⟩
     have dx:Below wr.heap.size wr (wr.alloc (.cells #[.bool o.p,.string o.k,.string o.v] 106)):=(Below.refl _ _).alloc (Nat.le_refl _) _
     have aB:Below w.heap.size w w1:=(aF.trans (dx.mono sz)).trans (ax.mono (by simp;omega))
     clear dx ax d0 d1 d2
     rcases(show Om.aJ o.p o.k.data.toList o.v.data.toList=0∨_ from Om.zV _ _ _)with hc|hc
     ·rw[hc]
      have HT2:=hide (ab9 HT.out HO.out hc)
      clear hc
      go_wp2
      go_roundw
      case rel=>exact⟨k+1,by omega,by go_num,HT2,aB⟩
      case measure=>simp[intOf];omega
     ·rw[hc]
      have HB:=hide (Bm.ad5 (List.mem_of_getElem? HO.out) (show Bm.Ov.c o≠0 by unfold Bm.Ov.c Bm.Ov.kl Bm.Ov.vl;rw[hc];simp))
      clear hc
      go_wp2
      go_ret
      exact⟨iT HB.out.symm,aB⟩
    ·have hkn:k=n:=by omega
     have HB:Hid (Bm.first l=0):=hide (Bm.pQ (fun q hq=>HT.out q (by rw[List.take_of_length_le (by have:=HN.out;omega)];exact hq)))
     have hlt':¬(k:Int)<n:=by omega
     go_wp2
     go_ret
     exact⟨iT HB.out.symm,aF⟩
theorem ah9 (a b:ByteArray)(w:World)(ha:a.size≤140737488355328)(hb:b.size≤140737488355328):
  Calls Tryz.prog 234 #[.string a,.string b] w fun E w'=>E=.returned (.int .i64 (Bm.com a.data.toList b.data.toList))∧∃m,w'=w.drewN m:=by
 have la:a.data.toList.length=a.size:=(Lib.size_eq a).symm
 have lb:b.data.toList.length=b.size:=(Lib.size_eq b).symm
 go_enter Tryz.func234,Tryz.ntmps234
 go_wp2
 all_goals
  go_loopw [13] (fun i wr=>∃(k:Nat),k≤a.size∧k≤b.size∧i=.int .i64 k∧Hid (a.data.toList.take k=b.data.toList.take k)∧∃m,wr=w.drewN m) (fun i _=>a.size+b.size-(intOf i).toNat)
  case atStart=>exact⟨0,by omega,by omega,rfl,hide rfl,0,rfl⟩
  case round=>
   obtain⟨k,hka,hkb,rfl,HT,m,rfl⟩:=hrel
   by_cases hA:k<a.size
   ·by_cases hB:k<b.size
    ·have hA':(k:Int)<a.size:=by omega
     have hB':(k:Int)<b.size:=by omega
     obtain⟨c,hc⟩:∃c:UInt8,a[k]=c:=⟨_,rfl⟩
     obtain⟨d,hd⟩:∃c:UInt8,b[k]=c:=⟨_,rfl⟩
     have ea:a.data.toList[k]? =some c:=by rw[List.getElem?_eq_getElem (by omega),←hc];rfl
     have eb:b.data.toList[k]? =some d:=by rw[List.getElem?_eq_getElem (by omega),←hd];rfl
     have EA:=hide ea
     have EB:=hide eb
     clear ea eb
     by_cases hcd:c=d
     ·have ht:((c.toNat:Int) !=(d.toNat:Int))=false:=by simp[hcd]
      have HK:Hid (a.data.toList.take (k+1)=b.data.toList.take (k+1)):=hide (by
       have h1:=EA.out
       have h2:=EB.out
       rw[List.take_add_one,List.take_add_one,HT.out,h1,h2,hcd])
      clear hcd
      go_wp2
      go_quiet (fail)
      go_wp2
      go_roundw
      case rel=>exact⟨k+1,by omega,by omega,by go_num,HK,_,rfl⟩
      case measure=>simp[intOf];omega
     ·have ht:((c.toNat:Int) !=(d.toNat:Int))=true:=by
       have:c.toNat≠d.toNat:=fun h=>hcd (UInt8.toNat_inj.1 h)
       simp;omega
      have HK:Hid (Bm.com a.data.toList b.data.toList=k):=hide (Bm.acD _ _ k (by omega) (by omega) HT.out (.inr (.inr (by rw[EA.out,EB.out];simpa using hcd))))
      clear hcd
      go_wp2
      go_quiet (fail)
      go_wp2
      go_ret
      exact⟨iT (by rw[HK.out]),_,World.drewN_drewN _ _ _⟩
    ·have hB':¬(k:Int)<b.size:=by omega
     have HK:Hid (Bm.com a.data.toList b.data.toList=k):=hide (Bm.acD _ _ k (by omega) (by omega) HT.out (.inr (.inl (by omega))))
     have hkk:k=b.size:=by omega
     have h':¬a.size≤k:=by omega
     try (exfalso;omega)
     try (
      go_wp2
      go_ret
      exact⟨iT (by rw[HK.out];omega),m,rfl⟩)
   ·have hA':¬(k:Int)<a.size:=by omega
    have HK:Hid (Bm.com a.data.toList b.data.toList=k):=hide (Bm.acD _ _ k (by omega) (by omega) HT.out (.inl (by omega)))
    have hkk:k=a.size:=by omega
    have hB':b.size<a.size∨¬b.size<a.size:=by omega
    try (exfalso;omega)
    try (
     go_wp2
     go_ret
     exact⟨iT (by rw[HK.out];omega),m,rfl⟩)
theorem wH (a b:ByteArray)(w:World)(ha:a.size≤140737488355328)(hb:b.size≤140737488355328):
  Calls Tryz.prog 234 #[.string a,.string b] w fun E w'=>E=.returned (.int .i64 (Bm.com a.data.toList b.data.toList))∧Below w.heap.size w w':=
 (ah9 a b w ha hb).mono (by rintro E w' ⟨rfl,m,rfl⟩;exact⟨rfl,below_drewN (Below.refl _ _) m⟩)
end Go.Proofs.YtpifdeoepppadaaGreatDoor
