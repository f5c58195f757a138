/- Texts of one layer, one behind the other. -/
import Derived.Test.YtmngcecomcadkaaGreatDoorCH4
import Derived.Test.YtmngcecomcadkaaGreatDoorCH11
import Derived.Test.YtmngcecomcadkaaGreatDoorCH1
import Derived.Test.YtmngcecomcadkaaGreatDoorCH8
import Derived.Test.YtmngcecomcadkaaGreatDoorProg
import Derived.Test.YtmngcecomcadkaaGreatDoorCH21
import Derived.Test.YtmngcecomcadkaaGreatDoorCH5
import Derived.Test.YtmngcecomcadkaaGreatDoorRows
import Derived.MakeChecks
set_option maxRecDepth 100000
set_option maxHeartbeats 8000000
namespace Go.Proofs.YtmngcecomcadkaaGreatDoor
open Go.RowKit
set_option linter.unusedVariables false
def til (o:Bm.Ov):Bm.Ov:=⟨o.p,o.k++⟨#[126]⟩,o.v⟩
structure azo (m bl base:Nat) (w:World) (vs:Nat→Value) (zs:Nat→List Bm.Ov):Prop where
 cell:∀i,i<m→w.cell? ⟨bl,i,none⟩=some (vs i)
 own:∀i,i<m→bg 111 base w (vs i) (zs i)
 apart:∀i j,i<m→j<m→i≠j→(vs i).ownBlock=none∨(vs i).ownBlock≠(vs j).ownBlock
 table:∀i,i<m→(vs i).ownBlock≠some bl
 lens:∀i,i<m→(zs i).length≤2000
 fit:∀i,i<m→iL (zs i)
def axy (m:Nat) (vs:Nat→Value) (g:Nat):Prop:=∃i,i<m∧(vs i).ownBlock=some g
structure azn (m bl base:Nat) (w0 wr:World) (vs us:Nat→Value) (zs:Nat→List Bm.Ov) (k:Nat):Prop where
 cell:∀i,i<m→wr.cell? ⟨bl,i,none⟩=some (vs i)
 was:∀i,i<m→wr.cell? ⟨w0.heap.size,i,none⟩=some (us i)
 new:∀i,i<m→bg 111 (w0.heap.size+1) wr (us i) (zs i)
 done:∀i,i<k→i<m→bg 111 base wr (vs i) ((zs i).map til)
 left:∀i,k≤i→i<m→bg 111 base wr (vs i) (zs i)
 below:Out (axy m vs) w0 wr
theorem aa0 (vl:Value)(r:List Cw)(w:World)(h:fu w vl r)(hone:∀c∈r,c.v.oneCell'=true)(hl:r.length≤1048576):
  Calls Tryz.prog 88 #[vl] w fun e w'=>∃v,e=.returned v∧bn 35 w.heap.size w' v r∧Below w.heap.size w w':=by
 have q:∀(w:World) (a:Option Addr) (n c n' c':Nat),(binOp .eql 22 (.slice a n c) (.slice none n' c')).run Tryz.prog w=.ok (.bool a.isNone) w:=fun w a n c n' c'=>Lib.run_eql_slice_nil w _ _ a n c n' c' Tryz.underlying22
 by_cases hn:vl=.slice none 0 0
 ·subst hn
  have:r=[]:=by
   rcases h with⟨_,h⟩|⟨ad,cap,h,_⟩
   ·exact h
   ·simp at h
  subst this
  clear h hl
  go_enter Tryz.func88,Tryz.ntmps88
  go_wp2
  go_ret
  exact⟨_,rfl,bn.nil _ _ _,Below.refl _ _⟩
 ·obtain⟨ad,cap,rfl⟩:∃ad cap,vl=.slice (some ad) r.length cap:=by
   rcases h with⟨h,_⟩|⟨ad,cap,h,_⟩
   ·exact absurd h hn
   ·exact⟨ad,cap,h⟩
  clear hn
  obtain⟨w1,hw1,aT,aj,aX⟩:=kC 35 w #[] 0 [] rfl rfl (by simp[maxLen])
  have h1:=h.below aj
  go_enter Tryz.func88,Tryz.ntmps88
  go_wp2_with (at_builtin;refine jY rfl (.tmp 5) (.tmp 6) 22 rfl 35 w.heap.size Tryz.underlying22 Tryz.oq _ [] rfl aX _ r rfl h1 hone (by simp;omega) (by omega) ?_)
  intro v2 w2 aP au _
  go_wp2
  go_ret
  exact⟨_,rfl,by simpa using aP,aj.trans au⟩
def eF (q:Nat) (off:Bool) (x:Pm.Pg) (vw:Value) (en:Int) (vr vs:Value):Array Value:=#[.pointer (some ⟨q,0,none⟩),.bool off,.int .i64 x.e,.int .u8 x.r,.int .i64 x.a,.int .u8 x.p,.int .i64 x.f,.int .i64 x.b,vw,.int .i64 en,.slice none 0 0,vr,vs]
def jc (x:Pm.Pg) (ep en rn:Int) (p:Nat):Array Value:=#[.int .i64 x.e,.int .u8 x.r,.int .i64 x.a,.int .u8 x.p,.int .i64 x.f,.int .i64 x.b,.int .i64 ep,.int .i64 en,.int .i64 rn,.func (.func 109) #[.pointer (some ⟨p,0,none⟩)] #[]]
structure Ten (w:World) (g:Nat) (a b c d e f h i j k:Value):Prop where
 c0:w.cell? ⟨g,0,none⟩=some a
 c1:w.cell? ⟨g,1,none⟩=some b
 c2:w.cell? ⟨g,2,none⟩=some c
 c3:w.cell? ⟨g,3,none⟩=some d
 c4:w.cell? ⟨g,4,none⟩=some e
 c5:w.cell? ⟨g,5,none⟩=some f
 c6:w.cell? ⟨g,6,none⟩=some h
 c7:w.cell? ⟨g,7,none⟩=some i
 c8:w.cell? ⟨g,8,none⟩=some j
 c9:w.cell? ⟨g,9,none⟩=some k
theorem mh {w:World}{g:Nat}{t:TypeId}{fr:Nat×Nat}{a b c d e f h i j k:Value}(hg:w.heap[g]? =some (.cells #[a,b,c,d,e,f,h,i,j,k] t fr)):Ten w g a b c d e f h i j k:=
 ⟨ai hg 0 rfl,ai hg 1 rfl,ai hg 2 rfl,ai hg 3 rfl,ai hg 4 rfl,ai hg 5 rfl,ai hg 6 rfl,ai hg 7 rfl,ai hg 8 rfl,ai hg 9 rfl⟩
theorem adU {V:World}{R:Nat}{t:TypeId}{x0 x1 x2 x3 x4 x5 x6 x7 x8 x9:Value}(hR:V.heap[R]? =some (.cells #[x0,x1,x2,x3,x4,x5,x6,x7,x8,x9] t (0,0)))(a b c d e f h i j k:Value):
  ∃V',(((((((((V.setCell ⟨R,0,none⟩ a).setCell ⟨R,1,none⟩ b).setCell ⟨R,2,none⟩ c).setCell ⟨R,3,none⟩ d).setCell ⟨R,4,none⟩ e).setCell ⟨R,5,none⟩ f).setCell ⟨R,6,none⟩ h).setCell ⟨R,7,none⟩ i).setCell ⟨R,8,none⟩ j).setCell ⟨R,9,none⟩ k=V'∧V'.heap[R]? =some (.cells #[a,b,c,d,e,f,h,i,j,k] t (0,0))∧V.grownBy V' (some R)∧
   Ten V R x0 x1 x2 x3 x4 x5 x6 x7 x8 x9∧(∀j,V.frozen? ⟨R,j,none⟩=false)∧Ten V' R a b c d e f h i j k:=by
 have q0:(V.setCell ⟨R,0,none⟩ a).heap[R]? =some (.cells #[a,x1,x2,x3,x4,x5,x6,x7,x8,x9] t (0,0)):=aH hR 0 a
 have q1:((V.setCell ⟨R,0,none⟩ a).setCell ⟨R,1,none⟩ b).heap[R]? =some (.cells #[a,b,x2,x3,x4,x5,x6,x7,x8,x9] t (0,0)):=aH q0 1 b
 have q2:(((V.setCell ⟨R,0,none⟩ a).setCell ⟨R,1,none⟩ b).setCell ⟨R,2,none⟩ c).heap[R]? =some (.cells #[a,b,c,x3,x4,x5,x6,x7,x8,x9] t (0,0)):=aH q1 2 c
 have q3:((((V.setCell ⟨R,0,none⟩ a).setCell ⟨R,1,none⟩ b).setCell ⟨R,2,none⟩ c).setCell ⟨R,3,none⟩ d).heap[R]? =some (.cells #[a,b,c,d,x4,x5,x6,x7,x8,x9] t (0,0)):=aH q2 3 d
 have q4:(((((V.setCell ⟨R,0,none⟩ a).setCell ⟨R,1,none⟩ b).setCell ⟨R,2,none⟩ c).setCell ⟨R,3,none⟩ d).setCell ⟨R,4,none⟩ e).heap[R]? =some (.cells #[a,b,c,d,e,x5,x6,x7,x8,x9] t (0,0)):=aH q3 4 e
 have q5:((((((V.setCell ⟨R,0,none⟩ a).setCell ⟨R,1,none⟩ b).setCell ⟨R,2,none⟩ c).setCell ⟨R,3,none⟩ d).setCell ⟨R,4,none⟩ e).setCell ⟨R,5,none⟩ f).heap[R]? =some (.cells #[a,b,c,d,e,f,x6,x7,x8,x9] t (0,0)):=aH q4 5 f
 have q6:(((((((V.setCell ⟨R,0,none⟩ a).setCell ⟨R,1,none⟩ b).setCell ⟨R,2,none⟩ c).setCell ⟨R,3,none⟩ d).setCell ⟨R,4,none⟩ e).setCell ⟨R,5,none⟩ f).setCell ⟨R,6,none⟩ h).heap[R]? =some (.cells #[a,b,c,d,e,f,h,x7,x8,x9] t (0,0)):=aH q5 6 h
 have q7:((((((((V.setCell ⟨R,0,none⟩ a).setCell ⟨R,1,none⟩ b).setCell ⟨R,2,none⟩ c).setCell ⟨R,3,none⟩ d).setCell ⟨R,4,none⟩ e).setCell ⟨R,5,none⟩ f).setCell ⟨R,6,none⟩ h).setCell ⟨R,7,none⟩ i).heap[R]? =some (.cells #[a,b,c,d,e,f,h,i,x8,x9] t (0,0)):=aH q6 7 i
 have q8:(((((((((V.setCell ⟨R,0,none⟩ a).setCell ⟨R,1,none⟩ b).setCell ⟨R,2,none⟩ c).setCell ⟨R,3,none⟩ d).setCell ⟨R,4,none⟩ e).setCell ⟨R,5,none⟩ f).setCell ⟨R,6,none⟩ h).setCell ⟨R,7,none⟩ i).setCell ⟨R,8,none⟩ j).heap[R]? =some (.cells #[a,b,c,d,e,f,h,i,j,x9] t (0,0)):=aH q7 8 j
 have hx:((((((((((V.setCell ⟨R,0,none⟩ a).setCell ⟨R,1,none⟩ b).setCell ⟨R,2,none⟩ c).setCell ⟨R,3,none⟩ d).setCell ⟨R,4,none⟩ e).setCell ⟨R,5,none⟩ f).setCell ⟨R,6,none⟩ h).setCell ⟨R,7,none⟩ i).setCell ⟨R,8,none⟩ j).setCell ⟨R,9,none⟩ k).heap[R]? =some (.cells #[a,b,c,d,e,f,h,i,j,k] t (0,0)):=aH q8 9 k
 refine⟨_,rfl,hx,?_,mh hR,aA hR,mh hx⟩
 have g6:=aG (aG (aG (aG (aG (az V ⟨R,0,none⟩ a) (az _ ⟨R,1,none⟩ b)) (az _ ⟨R,2,none⟩ c)) (az _ ⟨R,3,none⟩ d)) (az _ ⟨R,4,none⟩ e)) (az _ ⟨R,5,none⟩ f)
 exact aG (aG (aG (aG g6 (az _ ⟨R,6,none⟩ h)) (az _ ⟨R,7,none⟩ i)) (az _ ⟨R,8,none⟩ j)) (az _ ⟨R,9,none⟩ k)
structure StA (p:Nat) (w:World) (q:Nat) (off:Bool) (x:Pm.Pg) (vw:Value) (en:Int) (vr vs:Value):Prop where
 c0:w.cell? ⟨p,0,none⟩=some (.pointer (some ⟨q,0,none⟩))
 c1:w.cell? ⟨p,1,none⟩=some (.bool off)
 c2:w.cell? ⟨p,2,none⟩=some (.int .i64 x.e)
 c3:w.cell? ⟨p,3,none⟩=some (.int .u8 x.r)
 c4:w.cell? ⟨p,4,none⟩=some (.int .i64 x.a)
 c5:w.cell? ⟨p,5,none⟩=some (.int .u8 x.p)
 c6:w.cell? ⟨p,6,none⟩=some (.int .i64 x.f)
 c7:w.cell? ⟨p,7,none⟩=some (.int .i64 x.b)
 c8:w.cell? ⟨p,8,none⟩=some vw
 c9:w.cell? ⟨p,9,none⟩=some (.int .i64 en)
 c10:w.cell? ⟨p,10,none⟩=some (.slice none 0 0)
 c11:w.cell? ⟨p,11,none⟩=some vr
 c12:w.cell? ⟨p,12,none⟩=some vs
theorem mH {p q:Nat}{w:World}{t:TypeId}{fr:Nat×Nat}{off:Bool}{x:Pm.Pg}{vw vr vs:Value}{en:Int}(h:w.heap[p]? =some (.cells (eF q off x vw en vr vs) t fr)):StA p w q off x vw en vr vs:=
 ⟨ai h 0 rfl,ai h 1 rfl,ai h 2 rfl,ai h 3 rfl,ai h 4 rfl,ai h 5 rfl,ai h 6 rfl,ai h 7 rfl,ai h 8 rfl,ai h 9 rfl,ai h 10 rfl,ai h 11 rfl,ai h 12 rfl⟩
theorem afP {V:World}{p q:Nat}{t:TypeId}{off:Bool}{y:Pm.Pg}{vw vr vs:Value}{en:Int}(hP:V.heap[p]? =some (.cells (eF q off y vw en vr vs) t (0,0)))(x:Pm.Pg):
  ∃V',((((((V.setCell ⟨p,2,none⟩ (.int .i64 x.e)).setCell ⟨p,3,none⟩ (.int .u8 x.r)).setCell ⟨p,4,none⟩ (.int .i64 x.a)).setCell ⟨p,5,none⟩ (.int .u8 x.p)).setCell ⟨p,6,none⟩ (.int .i64 x.f)).setCell ⟨p,7,none⟩ (.int .i64 x.b))=V'∧V'.heap[p]? =some (.cells (eF q off x vw en vr vs) t (0,0))∧V.grownBy V' (some p)∧∀j,V.frozen? ⟨p,j,none⟩=false:=by
 have q0:(V.setCell ⟨p,2,none⟩ (.int .i64 x.e)).heap[p]? =some (.cells #[.pointer (some ⟨q,0,none⟩),.bool off,.int .i64 x.e,.int .u8 y.r,.int .i64 y.a,.int .u8 y.p,.int .i64 y.f,.int .i64 y.b,vw,.int .i64 en,.slice none 0 0,vr,vs] t (0,0)):=aH hP 2 (.int .i64 x.e)
 have q1:((V.setCell ⟨p,2,none⟩ (.int .i64 x.e)).setCell ⟨p,3,none⟩ (.int .u8 x.r)).heap[p]? =some (.cells #[.pointer (some ⟨q,0,none⟩),.bool off,.int .i64 x.e,.int .u8 x.r,.int .i64 y.a,.int .u8 y.p,.int .i64 y.f,.int .i64 y.b,vw,.int .i64 en,.slice none 0 0,vr,vs] t (0,0)):=aH q0 3 (.int .u8 x.r)
 have q2:(((V.setCell ⟨p,2,none⟩ (.int .i64 x.e)).setCell ⟨p,3,none⟩ (.int .u8 x.r)).setCell ⟨p,4,none⟩ (.int .i64 x.a)).heap[p]? =some (.cells #[.pointer (some ⟨q,0,none⟩),.bool off,.int .i64 x.e,.int .u8 x.r,.int .i64 x.a,.int .u8 y.p,.int .i64 y.f,.int .i64 y.b,vw,.int .i64 en,.slice none 0 0,vr,vs] t (0,0)):=aH q1 4 (.int .i64 x.a)
 have q3:((((V.setCell ⟨p,2,none⟩ (.int .i64 x.e)).setCell ⟨p,3,none⟩ (.int .u8 x.r)).setCell ⟨p,4,none⟩ (.int .i64 x.a)).setCell ⟨p,5,none⟩ (.int .u8 x.p)).heap[p]? =some (.cells #[.pointer (some ⟨q,0,none⟩),.bool off,.int .i64 x.e,.int .u8 x.r,.int .i64 x.a,.int .u8 x.p,.int .i64 y.f,.int .i64 y.b,vw,.int .i64 en,.slice none 0 0,vr,vs] t (0,0)):=aH q2 5 (.int .u8 x.p)
 have q4:(((((V.setCell ⟨p,2,none⟩ (.int .i64 x.e)).setCell ⟨p,3,none⟩ (.int .u8 x.r)).setCell ⟨p,4,none⟩ (.int .i64 x.a)).setCell ⟨p,5,none⟩ (.int .u8 x.p)).setCell ⟨p,6,none⟩ (.int .i64 x.f)).heap[p]? =some (.cells #[.pointer (some ⟨q,0,none⟩),.bool off,.int .i64 x.e,.int .u8 x.r,.int .i64 x.a,.int .u8 x.p,.int .i64 x.f,.int .i64 y.b,vw,.int .i64 en,.slice none 0 0,vr,vs] t (0,0)):=aH q3 6 (.int .i64 x.f)
 have q5:((((((V.setCell ⟨p,2,none⟩ (.int .i64 x.e)).setCell ⟨p,3,none⟩ (.int .u8 x.r)).setCell ⟨p,4,none⟩ (.int .i64 x.a)).setCell ⟨p,5,none⟩ (.int .u8 x.p)).setCell ⟨p,6,none⟩ (.int .i64 x.f)).setCell ⟨p,7,none⟩ (.int .i64 x.b)).heap[p]? =some (.cells #[.pointer (some ⟨q,0,none⟩),.bool off,.int .i64 x.e,.int .u8 x.r,.int .i64 x.a,.int .u8 x.p,.int .i64 x.f,.int .i64 x.b,vw,.int .i64 en,.slice none 0 0,vr,vs] t (0,0)):=aH q4 7 (.int .i64 x.b)
 exact⟨_,rfl,q5,aG (aG (aG (aG (aG (az V ⟨p,2,none⟩ (.int .i64 x.e)) (az _ ⟨p,3,none⟩ (.int .u8 x.r))) (az _ ⟨p,4,none⟩ (.int .i64 x.a))) (az _ ⟨p,5,none⟩ (.int .u8 x.p))) (az _ ⟨p,6,none⟩ (.int .i64 x.f))) (az _ ⟨p,7,none⟩ (.int .i64 x.b)),aA hP⟩
structure Sam (w:World) (g:Nat) (a b c d e f:Value):Prop where
 s0:w.setCell ⟨g,0,none⟩ a=w
 s1:w.setCell ⟨g,1,none⟩ b=w
 s2:w.setCell ⟨g,2,none⟩ c=w
 s3:w.setCell ⟨g,3,none⟩ d=w
 s4:w.setCell ⟨g,4,none⟩ e=w
 s5:w.setCell ⟨g,5,none⟩ f=w
 f0:w.frozen? ⟨g,0,none⟩=false
 f1:w.frozen? ⟨g,1,none⟩=false
 f2:w.frozen? ⟨g,2,none⟩=false
 f3:w.frozen? ⟨g,3,none⟩=false
 f4:w.frozen? ⟨g,4,none⟩=false
 f5:w.frozen? ⟨g,5,none⟩=false
theorem awQ {w:World}{g:Nat}{t:TypeId}{a b c d e f:Value}(h:w.heap[g]? =some (.cells #[a,b,c,d,e,f] t (0,0))):Sam w g a b c d e f:=
 ⟨aJ h (j:=0) rfl,aJ h (j:=1) rfl,aJ h (j:=2) rfl,aJ h (j:=3) rfl,aJ h (j:=4) rfl,aJ h (j:=5) rfl,aA h 0,aA h 1,aA h 2,aA h 3,aA h 4,aA h 5⟩
def ana (w:World) (g:Nat) (x:Pm.Pg):Prop:=w.heap[g]? =some (.cells (cp x) 46 (0,0))
theorem ana.six {w:World}{g:Nat}{x:Pm.Pg}(h:ana w g x):vJ w g (.int .i64 x.e) (.int .u8 x.r) (.int .i64 x.a) (.int .u8 x.p) (.int .i64 x.f) (.int .i64 x.b):=aN h
theorem il {w:World}{g:Nat}{x:Pm.Pg}(h:ana w g x):(w.cell? ⟨g,0,none⟩=some (.int .i64 x.e)∧w.cell? ⟨g,1,none⟩=some (.int .u8 x.r)∧w.cell? ⟨g,2,none⟩=some (.int .i64 x.a)∧w.cell? ⟨g,3,none⟩=some (.int .u8 x.p)∧w.cell? ⟨g,4,none⟩=some (.int .i64 x.f)∧w.cell? ⟨g,5,none⟩=some (.int .i64 x.b)):=
 ⟨h.six.c0,h.six.c1,h.six.c2,h.six.c3,h.six.c4,h.six.c5⟩
theorem fP (x:Pm.Pg)(w:World):∃w1 w2,w.alloc (.cells #[.int .i64 x.e,.int .u8 x.r,.int .i64 x.a,.int .u8 x.p,.int .i64 x.f,.int .i64 x.b] 46)=w1∧w1.alloc (.cells #[.int .i64 0,.int .u8 0,.int .i64 0,.int .u8 0,.int .i64 0,.int .i64 0] 46)=w2∧w1.heap.size=w.heap.size+1∧w2.heap.size=w.heap.size+2∧Below w.heap.size w w2∧vJ w2 w.heap.size (.int .i64 x.e) (.int .u8 x.r) (.int .i64 x.a) (.int .u8 x.p) (.int .i64 x.f) (.int .i64 x.b)∧Hid (∀W,Below w2.heap.size w2 W→W.heap[w.heap.size]? =some (.cells #[.int .i64 x.e,.int .u8 x.r,.int .i64 x.a,.int .u8 x.p,.int .i64 x.f,.int .i64 x.b] 46 (0,0))∧W.heap[w.heap.size+1]? =some (.cells #[.int .i64 0,.int .u8 0,.int .i64 0,.int .u8 0,.int .i64 0,.int .i64 0] 46 (0,0))∧Below w.heap.size w W∧w.heap.size+2≤W.heap.size):=by
 obtain⟨w1,h1,s1,b1,p1⟩:=ak w #[.int .i64 x.e,.int .u8 x.r,.int .i64 x.a,.int .u8 x.p,.int .i64 x.f,.int .i64 x.b] 46
 obtain⟨w2,h2,s2,b2,p2⟩:=ak w1 #[.int .i64 0,.int .u8 0,.int .i64 0,.int .u8 0,.int .i64 0,.int .i64 0] 46
 have q1:=(b2.block w.heap.size (by omega)).trans p1
 rw[s1]at p2
 refine⟨w1,w2,h1,h2,s1,by omega,b1.trans (b2.mono (by omega)),aN q1,hide fun W hW=>⟨?_,?_,(b1.trans (b2.mono (by omega))).trans (hW.mono (by omega)),by have:=hW.size;omega⟩⟩
 ·exact(hW.block w.heap.size (by omega)).trans q1
 ·exact(hW.block (w.heap.size+1) (by omega)).trans p2
theorem iF {V V':World}{g h:Nat}(hg:V.grownBy V' (some g))(hne:h≠g∧h<V.heap.size):V'.heap[h]? =V.heap[h]? :=hg.block h hne.2 (by simp;exact hne.1)
end Go.Proofs.YtmngcecomcadkaaGreatDoor
namespace Go.Proofs.YtmngcecomcadkaaGreatDoor
open Go.RowKit Go.ChangeShapes Go.WideShapes Go.Deep
set_option linter.unusedVariables false
section
variable {H:Type} {enc:TypeId×Value→H} {P:Program} {w:World} {base:Nat} {spare:Nat→Bool} {held:Bool}
theorem trod_struct2 {t:TypeId}{f0 f1:Field}{fuel:Nat}{cs:List Value}{x:DataW H×List MemPlace}(ht:P.underlying t=some (.struct #[f0,f1]))(h:DataW.trod enc P w base spare held fuel t cs=some x):
  ∃y0 y1 n,DataW.trod enc P w base spare held n f0.type ((cs.drop f0.offset).take (P.cellsOf f0.type))=some y0∧DataW.trod enc P w base spare held n f1.type ((cs.drop f1.offset).take (P.cellsOf f1.type))=some y1:=by
 obtain⟨xs,n,_,rfl,hl,hlen,hf⟩:=DataW.trod_struct ht h
 match xs,hlen with
 |[y0,y1],_=>exact⟨y0,y1,n,by simpa using hf 0 f0 rfl,by simpa using hf 1 f1 rfl⟩
theorem amB {t e:TypeId}{f0 f1:Field}{fuel:Nat}{v:Value}{x:DataW H×List MemPlace}(ht:P.underlying t=some (.slice e))(he:P.underlying e=some (.struct #[f0,f1]))
  (hone:oneCellFields P #[f0,f1]=true) (ce:P.cellsOf e=2) (u0:P.underlying f0.type=some (.int .i64)) (u1:P.underlying f1.type=some (.int .i64))
  (h:DataW.trod enc P w base spare held fuel t [v]=some x):∃r:List Sm.S,jH w v r∧((x.1=.nil∧r=[])∨∃ds sp,x.1=.slice ds sp∧ds.length=r.length):=by
 rcases open_slice ht h with⟨hv,hx⟩|⟨a,len,cap,m,n,D,Pl,hv,hb,hl,hm,hmm,rfl,hx⟩
 ·simp at hv
  subst hv hx
  exact⟨[],gP.nil _ _,.inl ⟨rfl,rfl⟩⟩
 ·simp at hv
  subst hv
  have hlm:len≤m:=by rw[hmm];split<;>omega
  obtain⟨o0,c0⟩:=hone_of hone 0 f0 rfl
  obtain⟨o1,c1⟩:=hone_of hone 1 f1 rfl
  have each:∀i,i<len→∃c:Sm.S,∀m u,(yQ c)[m]? =some u→w.cell? (a.add (i*2+m))=some u:=by
   intro i hi
   obtain⟨cs',h1,h2⟩:=hx i (by omega)
   rw[ce]at h1
   obtain⟨_,hlen,hcell⟩:=World.cells?_some h1
   obtain⟨y0,y1,k,q0,q1⟩:=trod_struct2 he h2
   match cs',hlen with
   |[v0,v1],_=>
    simp[o0,o1,c0,c1]at q0 q1
    obtain⟨p0,h0,rfl,w0⟩:=DataW.trod_int u0 q0
    obtain⟨p1,h1',rfl,w1⟩:=DataW.trod_int u1 q1
    simp at h0 h1'
    subst h0 h1'
    refine⟨(p0,p1),fun m u hu=>?_⟩
    have hm3:m<2:=(List.getElem?_eq_some_iff.1 hu).1
    have hc:=hcell m (by omega)
    rw[Go.Deep.add_add]at hc
    rw[hc]
    rcases(show m=0∨m=1 by omega)with rfl|rfl<;>simpa[yQ]using hu
  have:Inhabited Sm.S:=⟨(0,0)⟩
  obtain⟨f,hf⟩:=choose_lt each
  refine⟨(List.range len).map f,.inr ⟨a,cap,by simp,by simpa using hl,hm,fun j u hj=>?_⟩,.inr ⟨(List.range len).map D,(List.range (m-len)).map fun j=>D (len+j),rfl,by simp⟩⟩
  obtain⟨i,c,m',hic,rfl,hu⟩:=aaw yo (by decide) _ j u hj
  obtain⟨hi,e⟩:=List.getElem?_eq_some_iff.1 hic
  simp at hi e
  subst e
  exact hf i hi m' u hu
end
end Go.Proofs.YtmngcecomcadkaaGreatDoor
namespace Go.Proofs.YtmngcecomcadkaaGreatDoor
open Go.RowKit
set_option linter.unusedVariables false
def kO:Bm.Ov:=⟨true,⟨#[107]⟩,⟨#[]⟩⟩
def lg (ep:Int) (n:Nat):List Bool→List Cm.Cv
 |[]=>[]
 |b::r=>⟨if b then ep+2 else ep,(n:Int)+1,[kO]⟩::lg (if b then ep+2 else ep) (n+1) r
end Go.Proofs.YtmngcecomcadkaaGreatDoor
namespace Go.Proofs.YtmngcecomcadkaaGreatDoor
open Go.RowKit Go.ChangeShapes Go.WideShapes Go.Deep
set_option linter.unusedVariables false
theorem zQ {z:Int}(h:(Lit.int .i64 z).wf=true):In64 z:=by
 have:=range_i64 (zs:=[z]) (by simpa using h) 0
 simp at this
 exact⟨by omega,by omega⟩
theorem abb:∀(l:List Cw) (j:Nat) (u:Value),(ccells l)[j]? =some u→∃i c,l[i]? =some c∧((j=i*3∧u=.int .i64 c.e)∨(j=i*3+1∧u=.int .i64 c.n)∨(j=i*3+2∧u=c.v))
 |[],j,u,h=>by simp[ccells]at h
 |o::r,0,u,h=>⟨0,o,rfl,.inl ⟨rfl,by simpa[ccells,iD]using h.symm⟩⟩
 |o::r,1,u,h=>⟨0,o,rfl,.inr (.inl ⟨rfl,by simpa[ccells,iD]using h.symm⟩)⟩
 |o::r,2,u,h=>⟨0,o,rfl,.inr (.inr ⟨rfl,by simpa[ccells,iD]using h.symm⟩)⟩
 |o::r,j+3,u,h=>by
  have h':(ccells r)[j]? =some u:=by simpa[ccells,iD]using h
  obtain⟨i,q,hq,hc⟩:=abb r j u h'
  refine⟨i+1,q,by simpa using hq,?_⟩
  rcases hc with⟨rfl,hu⟩|⟨rfl,hu⟩|⟨rfl,hu⟩
  ·exact .inl ⟨by omega,hu⟩
  ·exact .inr (.inl ⟨by omega,hu⟩)
  ·exact .inr (.inr ⟨by omega,hu⟩)
section
variable {H:Type} {enc:TypeId×Value→H} {P:Program} {w:World} {base:Nat} {spare:Nat→Bool} {held:Bool}
theorem yS {t:TypeId}{f0 f1 f2:Field}{x0 x1 d:DataW H}{n:Nat}(hu:P.underlying t=some (.struct #[f0,f1,f2]))(hn:n∈d.weights P f2.type):n∈(DataW.agg [x0,x1,d]).weights P t:=by
 simp only[DataW.weights,hu]
 simp[DataW.weightsEach,hn]
def ai6 (d:DataW H) (c:Cw):Prop:=∃x0 x1 d2,d=.agg [x0,x1,d2]∧awi d2 c.l
theorem acI {t e o:TypeId}{f0 f1 f2 g0 g1 g2:Field}{fuel:Nat}{v:Value}{x:DataW H×List MemPlace}(ht:P.underlying t=some (.slice e))(he:P.underlying e=some (.struct #[f0,f1,f2]))
  (hone:oneCellFields P #[f0,f1,f2]=true) (ce:P.cellsOf e=3) (u0:P.underlying f0.type=some (.int .i64)) (u1:P.underlying f1.type=some (.int .i64)) (u2:P.underlying f2.type=some (.slice o))
  (ho:P.underlying o=some (.struct #[g0,g1,g2])) (hone':oneCellFields P #[g0,g1,g2]=true) (co:P.cellsOf o=3) (k0:P.underlying g0.type=some .bool) (k1:P.underlying g1.type=some .string) (k2:P.underlying g2.type=some .string)
  (h:DataW.trod enc P w base spare held fuel t [v]=some x):∃r:List Cw,di w v r∧((x.1=.nil∧r=[])∨∃ds sp,x.1=.slice ds sp∧ds.length=r.length∧∀(i:Nat) (c:Cw),r[i]? =some c→∃d,ds[i]? =some d∧ai6 d c):=by
 rcases open_slice ht h with⟨hv,hx⟩|⟨a,len,cap,m,n,D,Pl,hv,hb,hl,hm,hmm,rfl,hx⟩
 ·simp at hv
  subst hv hx
  exact⟨[],di.nil _,.inl ⟨rfl,rfl⟩⟩
 ·simp at hv
  subst hv
  have hlm:len≤m:=by rw[hmm];split<;>omega
  obtain⟨o0,c0⟩:=hone_of hone 0 f0 rfl
  obtain⟨o1,c1⟩:=hone_of hone 1 f1 rfl
  obtain⟨o2,c2⟩:=hone_of hone 2 f2 rfl
  have each:∀i,i<len→∃c:Cw,(w.cell? (a.add (i*3))=some (.int .i64 c.e)∧w.cell? (a.add (i*3+1))=some (.int .i64 c.n)∧w.cell? (a.add (i*3+2))=some c.v)∧(dh w c.v c.l∧In64 c.e∧In64 c.n)∧ai6 (D i) c:=by
   intro i hi
   obtain⟨cs',h1,h2⟩:=hx i (by omega)
   rw[ce]at h1
   obtain⟨_,hlen,hcell⟩:=World.cells?_some h1
   obtain⟨y0,y1,y2,k,hxy,_,q0,q1,q2⟩:=trod_struct3 he h2
   match cs',hlen with
   |[v0,v1,v2],_=>
    simp[o0,o1,o2,c0,c1,c2]at q0 q1 q2
    obtain⟨p,hp,rfl,wp⟩:=DataW.trod_int u0 q0
    obtain⟨s,hs,rfl,ws⟩:=DataW.trod_int u1 q1
    obtain⟨l,hl2,hd2⟩:=amJ u2 ho hone' co k0 k1 k2 q2
    simp at hp hs
    subst hp hs
    have e0:=hcell 0 (by omega)
    have e1:=hcell 1 (by omega)
    have e2:=hcell 2 (by omega)
    rw[Go.Deep.add_add]at e0 e1 e2
    simp only[Prod.mk.injEq]at hxy
    exact⟨⟨p,s,v2,l⟩,⟨by simpa using e0,by simpa using e1,by simpa using e2⟩,⟨hl2,zQ wp,zQ ws⟩,_,_,_,hxy.1,hd2⟩
  have:Inhabited Cw:=⟨⟨0,0,.slice none 0 0,[]⟩⟩
  obtain⟨f,hf⟩:=choose_lt each
  refine⟨(List.range len).map f,⟨.inr ⟨a,cap,by simp,by simpa using hl,hm,fun j u hj=>?_⟩,fun c hc=>?_⟩,.inr ⟨(List.range len).map D,(List.range (m-len)).map fun j=>D (len+j),?_,by simp,fun i c hic=>?_⟩⟩
  ·obtain⟨i,o,ho,hc⟩:=abb _ j u hj
   obtain⟨hi,e⟩:=List.getElem?_eq_some_iff.1 ho
   simp at hi e
   obtain⟨⟨k0,k1,k2⟩,_⟩:=hf i hi
   subst e
   rcases hc with⟨rfl,rfl⟩|⟨rfl,rfl⟩|⟨rfl,rfl⟩
   ·exact k0
   ·exact k1
   ·exact k2
  ·obtain⟨i,hi,rfl⟩:=List.mem_map.1 hc
   exact(hf i (by simpa using hi)).2.1
  ·rfl
  ·obtain⟨hi,e⟩:=List.getElem?_eq_some_iff.1 hic
   simp at hi e
   subst e
   exact⟨D i,by simp[hi],(hf i hi).2.2⟩
theorem aie {ts:List TypeId}{ds:List (DataW H)}(h:(DataW.weightsEach P ts ds).all (·≤reachBytes)=true){j:Nat}{t e o:TypeId}{f0 f1 f2 g0 g1 g2:Field}{r:List Cw}{es sp:List (DataW H)}(ht:ts[j]? =some t)(hd:ds[j]? =some (.slice es sp))(hlen:es.length=r.length)(hr:∀(i:Nat) (c:Cw),r[i]? =some c→∃d,es[i]? =some d∧ai6 d c)
  (hu:P.underlying t=some (.slice e)) (he:P.underlying e=some (.struct #[f0,f1,f2])) (hb:P.bytesOf e=40) (h2:P.underlying f2.type=some (.slice o)) (ho:P.underlying o=some (.struct #[g0,g1,g2])) (hbo:P.bytesOf o=40):
  dL r∧r.length*40≤140737488351232:=by
 have hall:=List.all_eq_true.1 h
 refine⟨fun c hc=>?_,?_⟩
 ·obtain⟨i,hi⟩:=List.getElem?_of_mem hc
  obtain⟨d,hd1,x0,x1,d2,rfl,hd2⟩:=hr i c hi
  refine ag5 (fun n hn=>?_) hd2 h2 ho hbo
  exact of_decide_eq_true (hall n (DataW.weights_mem_each ht hd n (by
   simp only[DataW.weights,hu]
   exact List.mem_cons_of_mem _ (List.mem_append_left _ (nZ (List.mem_of_getElem? hd1) (yS he hn))))))
 ·have:=sized_slice h ht hd hu
  rw[hb]at this
  simp only[reachBytes]at this
  omega
end
end Go.Proofs.YtmngcecomcadkaaGreatDoor
namespace Go.Proofs.YtmngcecomcadkaaGreatDoor
open Go.RowKit Go.ChangeShapes Go.WideShapes Go.Deep
set_option linter.unusedVariables false
section
variable {H:Type} {enc:TypeId×Value→H} {P:Program} {w:World} {base:Nat} {spare:Nat→Bool} {held:Bool}
end
theorem as1 {W : World} (h : laidMetH Tryz.prog [("lagleash/page.most", Rows.laid_lagleash_page_most)] W) : eH W := by
 rw[MakeChecks.laidMetH_plain _ _ _ (by kernel_rfl)]at h
 obtain⟨ps,⟨g,t,cs,fuel,p,q,hg,ht,hv,hd,_,_⟩,_,_⟩:=h
 obtain rfl := Option.some.inj ((show Tryz.prog.globalNamed "lagleash/page.most" = some 0 by kernel_rfl).symm.trans hg)
 obtain rfl:=Option.some.inj ((show(Tryz.prog.globals[0]?).map (·.type)=some 131 by kernel_rfl).symm.trans ht)
 have c3:Tryz.prog.cellsOf 3=1:=by kernel_rfl
 have c49:Tryz.prog.cellsOf 131=6:=by kernel_rfl
 obtain⟨xs,m,_,ex,hlen,hl,hel⟩:=DataW.trod_array Tryz.underlying131 hd
 rw[c49]at hlen
 have hcell:=fun r=>World.var?_cell hg hv r
 obtain⟨l⟩:=cs
 match l,hlen with
 |[a0,a1,a2,a3,a4,a5],_=>
  match xs,hl with
  |[x0,x1,x2,x3,x4,x5],_=>
   have e3:=(DataW.agg.inj (Prod.mk.inj ex).1)
   simp only[List.map_cons,List.map_nil,List.cons.injEq,and_true]at e3
   obtain⟨t0,t1,t2,t3,t4,t5⟩:=e3
   have k0:=hel 0 (by omega);have k1:=hel 1 (by omega);have k2:=hel 2 (by omega);have k3:=hel 3 (by omega);have k4:=hel 4 (by omega);have k5:=hel 5 (by omega)
   rw[c3]at k0 k1 k2 k3 k4 k5
   obtain⟨z0,b0,d0,_⟩:=DataW.trod_int Tryz.underlying3 k0
   obtain⟨z1,b1,d1,_⟩:=DataW.trod_int Tryz.underlying3 k1
   obtain⟨z2,b2,d2,_⟩:=DataW.trod_int Tryz.underlying3 k2
   obtain⟨z3,b3,d3,_⟩:=DataW.trod_int Tryz.underlying3 k3
   obtain⟨z4,b4,d4,_⟩:=DataW.trod_int Tryz.underlying3 k4
   obtain⟨z5,b5,d5,_⟩:=DataW.trod_int Tryz.underlying3 k5
   simp at b0 b1 b2 b3 b4 b5 d0 d1 d2 d3 d4 d5
   subst b0 b1 b2 b3 b4 b5 d0 d1 d2 d3 d4 d5
   simp at t0 t1 t2 t3 t4 t5
   subst t0 t1 t2 t3 t4 t5
   exact⟨hcell 0,hcell 1,hcell 2,hcell 3,hcell 4,hcell 5⟩
end Go.Proofs.YtmngcecomcadkaaGreatDoor
