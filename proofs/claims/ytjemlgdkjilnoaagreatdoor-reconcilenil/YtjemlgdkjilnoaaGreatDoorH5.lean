/- Texts of one layer, one behind the other. -/
import Derived.Test.YtjemlgdkjilnoaaGreatDoorH3
import Derived.Test.YtjemlgdkjilnoaaGreatDoorH4
import Derived.Deep.RegionHeld3
import Derived.Lib.SliceRun
set_option maxRecDepth 100000
set_option maxHeartbeats 8000000
namespace Go.Proofs.YtjemlgdkjilnoaaGreatDoor
open Go.RowKit
set_option linter.unusedVariables false
structure Mw where
 k:Int
 e:Int
 r:Int
 n:Int
 vs:Value
 ss:List Sm.S
 f:Int
 p:Int
 vc:Value
 cs:List Cw
def mv (m:Mw):Value:=.agg #[.int .i64 m.k,.int .i64 m.e,.int .u8 m.r,.int .i64 m.n,m.vs,.int .i64 m.f,.int .i64 m.p,m.vc]
def mc (m:Mw):Array Value:=#[.int .i64 m.k,.int .i64 m.e,.int .u8 m.r,.int .i64 m.n,m.vs,.int .i64 m.f,.int .i64 m.p,m.vc]
def Mw.m (m:Mw):Mm.eO:=⟨m.k,m.e,m.r,m.n,m.ss,m.f,m.p,az m.cs⟩
def nT:Mw:=⟨0,0,0,0,.slice none 0 0,[],0,0,.slice none 0 0,[]⟩
structure gQ (w:World) (m:Mw):Prop where
 s:jJ w m.vs m.ss
 c:dJ w m.vc m.cs
theorem gQ.below {w w':World}{m:Mw}(h:gQ w m)(hb:Below w.heap.size w w'):gQ w' m:=⟨h.s.below hb,h.c.below hb⟩
theorem gQ.no (w:World):gQ w nT:=⟨ig.nil _ _,dJ.nil _⟩
structure dC (m:Mw):Prop where
 k:In64 m.k
 e:In64 m.e
 r0:0≤m.r
 r1:m.r<256
 n:In64 m.n
 f:In64 m.f
 p:In64 m.p
 ls:m.ss.length≤140737488355328
 fc:dV m.cs
 lc:m.cs.length≤140737488355328
theorem dC.no:dC nT:=⟨by simp[In64,nT],by simp[In64,nT],by simp[nT],by simp[nT],by simp[In64,nT],by simp[In64,nT],by simp[In64,nT],by simp[nT],fun c hc=>by simp[nT]at hc,by simp[nT]⟩
structure Ei (w:World) (g:Nat) (a b c d e f h i:Value):Prop where
 c0:w.cell? ⟨g,0,none⟩=some a
 c1:w.cell? ⟨g,1,none⟩=some b
 c2:w.cell? ⟨g,2,none⟩=some c
 c3:w.cell? ⟨g,3,none⟩=some d
 c4:w.cell? ⟨g,4,none⟩=some e
 c5:w.cell? ⟨g,5,none⟩=some f
 c6:w.cell? ⟨g,6,none⟩=some h
 c7:w.cell? ⟨g,7,none⟩=some i
theorem nL {w:World}{g:Nat}{t:TypeId}{fr:Nat×Nat}{a b c d e f h i:Value}(k:w.heap[g]? =some (.cells #[a,b,c,d,e,f,h,i] t fr)):Ei w g a b c d e f h i:=
 ⟨ai k 0 rfl,ai k 1 rfl,ai k 2 rfl,ai k 3 rfl,ai k 4 rfl,ai k 5 rfl,ai k 6 rfl,ai k 7 rfl⟩
theorem ayH {V:World}{R:Nat}{t:TypeId}{x0 x1 x2 x3 x4 x5 x6 x7:Value}(hR:V.heap[R]? =some (.cells #[x0,x1,x2,x3,x4,x5,x6,x7] t (0,0)))(a b c d e f h i:Value):
  ∃V',(((((((V.setCell ⟨R,0,none⟩ a).setCell ⟨R,1,none⟩ b).setCell ⟨R,2,none⟩ c).setCell ⟨R,3,none⟩ d).setCell ⟨R,4,none⟩ e).setCell ⟨R,5,none⟩ f).setCell ⟨R,6,none⟩ h).setCell ⟨R,7,none⟩ i=V'∧V'.heap[R]? =some (.cells #[a,b,c,d,e,f,h,i] t (0,0))∧V.grownBy V' (some R)∧
   Ei V R x0 x1 x2 x3 x4 x5 x6 x7∧(∀j,V.frozen? ⟨R,j,none⟩=false)∧Ei V' R a b c d e f h i:=by
 have k0:(V.setCell ⟨R,0,none⟩ a).heap[R]? =some (.cells #[a,x1,x2,x3,x4,x5,x6,x7] t (0,0)):=aI hR 0 a
 have k1:((V.setCell ⟨R,0,none⟩ a).setCell ⟨R,1,none⟩ b).heap[R]? =some (.cells #[a,b,x2,x3,x4,x5,x6,x7] t (0,0)):=aI k0 1 b
 have k2:(((V.setCell ⟨R,0,none⟩ a).setCell ⟨R,1,none⟩ b).setCell ⟨R,2,none⟩ c).heap[R]? =some (.cells #[a,b,c,x3,x4,x5,x6,x7] t (0,0)):=aI k1 2 c
 have k3:((((V.setCell ⟨R,0,none⟩ a).setCell ⟨R,1,none⟩ b).setCell ⟨R,2,none⟩ c).setCell ⟨R,3,none⟩ d).heap[R]? =some (.cells #[a,b,c,d,x4,x5,x6,x7] t (0,0)):=aI k2 3 d
 have k4:(((((V.setCell ⟨R,0,none⟩ a).setCell ⟨R,1,none⟩ b).setCell ⟨R,2,none⟩ c).setCell ⟨R,3,none⟩ d).setCell ⟨R,4,none⟩ e).heap[R]? =some (.cells #[a,b,c,d,e,x5,x6,x7] t (0,0)):=aI k3 4 e
 have k5:((((((V.setCell ⟨R,0,none⟩ a).setCell ⟨R,1,none⟩ b).setCell ⟨R,2,none⟩ c).setCell ⟨R,3,none⟩ d).setCell ⟨R,4,none⟩ e).setCell ⟨R,5,none⟩ f).heap[R]? =some (.cells #[a,b,c,d,e,f,x6,x7] t (0,0)):=aI k4 5 f
 have k6:(((((((V.setCell ⟨R,0,none⟩ a).setCell ⟨R,1,none⟩ b).setCell ⟨R,2,none⟩ c).setCell ⟨R,3,none⟩ d).setCell ⟨R,4,none⟩ e).setCell ⟨R,5,none⟩ f).setCell ⟨R,6,none⟩ h).heap[R]? =some (.cells #[a,b,c,d,e,f,h,x7] t (0,0)):=aI k5 6 h
 have k7:((((((((V.setCell ⟨R,0,none⟩ a).setCell ⟨R,1,none⟩ b).setCell ⟨R,2,none⟩ c).setCell ⟨R,3,none⟩ d).setCell ⟨R,4,none⟩ e).setCell ⟨R,5,none⟩ f).setCell ⟨R,6,none⟩ h).setCell ⟨R,7,none⟩ i).heap[R]? =some (.cells #[a,b,c,d,e,f,h,i] t (0,0)):=aI k6 7 i
 have k:=k7
 refine⟨_,rfl,k,?_,nL hR,aC hR,nL k⟩
 exact aH (aH (aH (aH (aH (aH (aH (aB V ⟨R,0,none⟩ a) (aB _ ⟨R,1,none⟩ b)) (aB _ ⟨R,2,none⟩ c)) (aB _ ⟨R,3,none⟩ d)) (aB _ ⟨R,4,none⟩ e)) (aB _ ⟨R,5,none⟩ f)) (aB _ ⟨R,6,none⟩ h)) (aB _ ⟨R,7,none⟩ i)
theorem ayh (w:World)(t:TypeId)(x0 x1 x2 x3 x4 x5 x6 x7 a b c d e f h i:Value):
  ∃V,(((((((((w.alloc (.cells #[x0,x1,x2,x3,x4,x5,x6,x7] t)).setCell ⟨w.heap.size,0,none⟩ a).setCell ⟨w.heap.size,1,none⟩ b).setCell ⟨w.heap.size,2,none⟩ c).setCell ⟨w.heap.size,3,none⟩ d).setCell ⟨w.heap.size,4,none⟩ e).setCell ⟨w.heap.size,5,none⟩ f).setCell ⟨w.heap.size,6,none⟩ h).setCell ⟨w.heap.size,7,none⟩ i=V)∧w.alloc (.cells #[a,b,c,d,e,f,h,i] t)=V∧V.heap.size=w.heap.size+1∧Below w.heap.size w V∧V.heap[w.heap.size]? =some (.cells #[a,b,c,d,e,f,h,i] t (0,0))∧Ei V w.heap.size a b c d e f h i:=by
 obtain⟨V,h1,h2,h3,h4⟩:=ak w #[a,b,c,d,e,f,h,i] t
 refine⟨V,?_,h1,h2,h3,h4,nL h4⟩
 rw[←h1]
 simp[go_sem]
def fP (w:World) (g:Nat) (m:Mw):Prop:=w.heap[g]? =some (.cells (mc m) 40 (0,0))
theorem fP.lt {w:World}{g:Nat}{m:Mw}(h:fP w g m):g<w.heap.size:=ax h
theorem fP.below {w w':World}{g:Nat}{m:Mw}(h:fP w g m)(b:Below w.heap.size w w'):fP w' g m:=(b.block g h.lt).trans h
theorem fP.ei {w:World}{g:Nat}{m:Mw}(h:fP w g m):Ei w g (.int .i64 m.k) (.int .i64 m.e) (.int .u8 m.r) (.int .i64 m.n) m.vs (.int .i64 m.f) (.int .i64 m.p) m.vc:=nL h
theorem oN (w:World)(m:Mw):
  ∃V,w.alloc (.cells #[.int .i64 m.k,.int .i64 m.e,.int .u8 m.r,.int .i64 m.n,m.vs,.int .i64 m.f,.int .i64 m.p,m.vc] 40)=V∧V.heap.size=w.heap.size+1∧Below w.heap.size w V∧fP V w.heap.size m:=by
 obtain⟨V,h1,h2,h3,h4⟩:=ak w #[.int .i64 m.k,.int .i64 m.e,.int .u8 m.r,.int .i64 m.n,m.vs,.int .i64 m.f,.int .i64 m.p,m.vc] 40
 exact⟨V,h1,h2,h3,h4⟩
def mU (a b:Mm.eO):Bool:=(a.k==b.k)&&((a.e==b.e)&&((a.r==b.r)&&((a.n==b.n)&&((a.f==b.f)&&((a.p==b.p)&&(decide (a.ss=b.ss)&&sameV a.cs b.cs))))))
theorem yG {a b:Mm.eO}:mU a b=true↔a=b:=by
 constructor
 ·intro h
  simp only[mU,Bool.and_eq_true,beq_iff_eq,decide_eq_true_iff,lJ]at h
  obtain⟨h1,h2,h3,h4,h5,h6,h7,h8⟩:=h
  exact Mm.eO.eq h1 h2 h3 h4 h7 h5 h6 h8
 ·rintro rfl
  simp[mU,aaG]
theorem avw {a b:Mm.eO}(h:a≠b):mU a b=false:=by
 cases hs:mU a b
 ·rfl
 ·exact absurd (yG.1 hs) h
def atE (l:List Sm.S) (en n:Int):Int:=if Sm.chk l en=0 then(if n<0∨en<n then 2 else 0)else Sm.chk l en
theorem aa0 {w:World}{v:Value}{l:List Sm.S}(h:jJ w v l):∃ao cap,v=.slice ao l.length cap∧l.length≤cap∧cap≤maxLen∧(ao=none→cap=0):=by
 rcases h with⟨hv,e⟩|⟨ad,cap,hv,h1,h2,_⟩
 ·subst e;exact⟨none,0,hv,by simp,by simp,fun _=>rfl⟩
 ·exact⟨some ad,cap,hv,h1,h2,fun h=>by cases h⟩
theorem aej (e n:Int)(v:Value)(l:List Bm.Ov)(w:World)(h:df w v l)(hf:iR l)(hl:l.length≤140737488355328):
  Calls Tryz.prog 195 #[bT e n v] w fun E w'=>∃vb,E=.returned (.tuple #[vb,.int .i64 (Cm.chk e n l)])∧Own .u8 5 w.heap.size w' vb (Cm.out e n l)∧Below w.heap.size w w':=by
 unfold bT
 obtain⟨ch,hch⟩:∃c,Cm.chk e n l=c:=⟨_,rfl⟩
 obtain⟨ou,hou⟩:∃c,Cm.out e n l=c:=⟨_,rfl⟩
 rw[hch,hou]
 have HC:=hide hch
 have HO:=hide hou
 clear hch hou
 obtain⟨w1,hw1,aW,aj,hB⟩:=ak w #[.int .i64 e,.int .i64 n,v] 65
 have c0:=ai hB 0 rfl
 have c1:=ai hB 1 rfl
 have c2:=ai hB 2 rfl
 have h1:=h.below aj
 obtain⟨ao,cap,rfl,_,_⟩:=h.shape
 have BB:=hide hB
 clear hB
 go_enter Tryz.func195,Tryz.ntmps195
 go_wp2_with fail
 refine(vC e n _ l _ h1 hf hl).mono ?_
 rintro E w2 ⟨rfl,au⟩
 rw[HC.out]
 have di:=au.size
 have hB2:=(au.block _ (by omega)).trans BB.out
 have d0:=ai hB2 0 rfl
 have d1:=ai hB2 1 rfl
 have d2:=ai hB2 2 rfl
 have h2:=h1.below au
 have aO:=aj.trans (au.mono (by omega))
 have B2:=hide hB2
 clear BB c0 c1 c2 hB2 aj au h1
 by_cases hc:ch=0
 ·subst hc
  have hc:=HC.out
  obtain⟨g1,g2,g3,g4,g5⟩:=Cm.aQ hc
  have hO:=HO.out
  rw[Cm.jh hc,Cm.iA]at hO
  replace HO:=hide hO
  clear hO
  have hs1:=Cm.gz g2
  have hs2:=Cm.gz g4
  clear hc
  go_wp2_with fail
  refine(fJ _ [] e _ (Is.nil _ _) (by simp) (by omega) (by omega)).mono ?_
  rintro E w3 ⟨vb,rfl,bI,aF⟩
  have bP:=aF.size
  have hB3:=(aF.block _ (by omega)).trans B2.out
  have f1:=ai hB3 1 rfl
  have h3:=h2.below aF
  have bg:=aO.trans (aF.mono (by omega))
  have B3:=hide hB3
  rw[List.nil_append]at bI
  clear B2 d0 d1 d2 hB3 aF h2 aO
  go_wp2_with fail
  refine(fJ _ _ n _ bI.is (by omega) (by omega) (by omega)).mono ?_
  rintro E w4 ⟨vc,rfl,bf,aM⟩
  have lT:=aM.size
  have hB4:=(aM.block _ (by omega)).trans B3.out
  have q2:=ai hB4 2 rfl
  have h4:=h3.below aM
  have dQ:=bg.trans (aM.mono (by omega))
  clear B3 f1 hB4 aM h3 bg bI
  go_wp2_with fail
  refine(apf _ _ _ l _ bf.is (by rw[List.length_append];omega) h4 hf hl).mono ?_
  rintro E w5 ⟨vd,rfl,dA,bn⟩
  rw[g5]
  rw[Bm.ahp g5,List.append_assoc,HO.out]at dA
  have aw6:=dA.bB (base':=w.heap.size) (by omega)
  have adQ:=dQ.trans (bn.mono (by omega))
  clear dA bf h4 dQ bn
  go_wp2
  refine bodyPost_ret (v:=.tuple #[vd,.int .i64 0]) (by simp[results,Tryz.results195,go_sem]) rfl ?_
  exact⟨_,rfl,aw6,adQ⟩
 ·have hne:(ch==0)=false:=by simpa using hc
  have hO:=HO.out
  rw[Cm.nV (by rw[HC.out];exact hc)]at hO
  subst hO
  clear hc
  go_wp2
  refine bodyPost_ret (v:=.tuple #[.slice none 0 0,.int .i64 ch]) (by simp[results,Tryz.results195,go_sem]) rfl ?_
  exact⟨_,rfl,Own.nil _ _ _ _,aO⟩
end Go.Proofs.YtjemlgdkjilnoaaGreatDoor
