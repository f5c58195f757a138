/- Texts. -/
import Derived.Test.YtlmkaljjocflmaaGreatDoorBH1
import Derived.Test.YtlmkaljjocflmaaGreatDoorBG2
import Derived.Test.YtlmkaljjocflmaaGreatDoorBH4
import Derived.Test.YtlmkaljjocflmaaGreatDoorBH25
import Derived.Test.YtlmkaljjocflmaaGreatDoorBH22
import Derived.Test.YtlmkaljjocflmaaGreatDoorBH23
import Derived.Test.YtlmkaljjocflmaaGreatDoorBH2
import Derived.Test.YtlmkaljjocflmaaGreatDoorBH15
import Derived.Test.YtlmkaljjocflmaaGreatDoorBH20
import Derived.Test.YtlmkaljjocflmaaGreatDoorBH21
set_option maxRecDepth 100000
set_option maxHeartbeats 8000000
set_option linter.unusedVariables false
open Go.Proofs.Tryz
namespace Go.Proofs.YtlmkaljjocflmaaGreatDoor
open Go.RowKit
def kY (s:Sm.S):List Value:=[.int .i64 s.1,.int .i64 s.2]
theorem yQ (s:Sm.S):(kY s).length=2:=rfl
abbrev yf (w:World) (v:Value) (l:List Sm.S):Prop:=fP kY w v l
abbrev oK (base:Nat) (w:World) (v:Value) (l:List Sm.S):Prop:=eZ kY 2 119 base w v l
theorem ahx:∀(l:List Sm.S),∀u∈gcells kY l,u.oneCell'=true
 |[],u,h=>by simp[gcells]at h
 |s::r,u,h=>by
  rcases List.mem_append.1 h with h|h
  ·simp only[kY,List.mem_cons,List.not_mem_nil,or_false]at h
   rcases h with rfl|rfl<;>rfl
  ·exact ahx r u h
theorem oh {w:World}{v:Value}{l:List Sm.S}(h:yf w v l)(hne:0<l.length):
  ∃b off cap,v=.slice (some ⟨b,off,none⟩) l.length cap∧l.length≤cap∧cap≤maxLen∧b<w.heap.size∧∀(i:Nat) (s:Sm.S),l[i]? =some s→w.cell? ⟨b,off+i*2,none⟩=some (.int .i64 s.1)∧w.cell? ⟨b,off+i*2+1,none⟩=some (.int .i64 s.2):=by
 obtain⟨b,off,cap,h1,h2,h3,h4,h5⟩:=h.full yQ (by decide) hne
 exact⟨b,off,cap,h1,h2,h3,h4,fun i s hs=>⟨h5 i s hs 0 _ rfl,h5 i s hs 1 _ rfl⟩⟩
def aae (en:Int) (l:List Sm.S):Bool:=Sm.upb en 0 0 l&&decide ((l.map Prod.snd).headD 1=1)
theorem aaE {en:Int}{l:List Sm.S}:aae en l=true↔Sm.Up en 0 0 l∧(l.map Prod.snd).headD 1=1:=by
 unfold aae
 rw[Bool.and_eq_true,Sm.acF,decide_eq_true_iff]
theorem ab9 {en:Int}{l:List Sm.S}(h:¬(Sm.Up en 0 0 l∧(l.map Prod.snd).headD 1=1)):aae en l=false:=by
 cases hu:aae en l with
 |false=>rfl
 |true=>exact absurd (aaE.1 hu) h
theorem aif {l:List Sm.S}{s:Sm.S}(h:l[0]? =some s):(l.map Prod.snd).headD 1=s.2:=by
 cases l with
 |nil=>simp at h
 |cons t r=>simp at h;subst h;rfl
theorem apU (v:Value)(l:List Sm.S)(en:Int)(w:World)(h:yf w v l)(hl:l.length≤140737488355328):
  Calls prog 299 #[v,.int .i64 en] w fun E w'=>E=.returned (.bool (aae en l))∧Below w.heap.size w w':=by
 obtain⟨ans,dL⟩:∃r,aae en l=r:=⟨_,rfl⟩
 rw[dL]
 have HA:=hide dL
 clear dL
 obtain⟨w1,hw1,aV,aj,hR⟩:=au w #[.int .i64 0,.int .i64 0] 119
 have h1:=h.below aj
 by_cases hz:l.length=0
 ·have:l=[]:=List.eq_nil_of_length_eq_zero hz
  subst this
  obtain⟨ao,cap,rfl,_,_⟩:=h.shape
  have hfo:=HA.out
  have hfe:aae en []=true:=rfl
  rw[hfe]at hfo
  subst hfo
  clear h h1 hl hz HA hR
  simp only[List.length_nil]
  go_enter func299,ntmps299
  go_wp2
  go_loopw [10] (fun iv wr=>iv=.int .i64 0∧wr=w1) (fun _ _=>0)
  case atStart=>exact⟨rfl,rfl⟩
  case round=>
   obtain⟨rfl,rfl⟩:=hrel
   go_wp2
   go_ret
   exact⟨rfl,aj⟩
 obtain⟨b,off,cap,hvl,_,_,hB,hc⟩:=oh h (by omega)
 subst hvl
 obtain⟨s0,hs0⟩:=mH (l:=l) (k:=0) (by omega)
 have HC:=hide hc
 have H0:=hide hs0
 generalize hn:l.length=n at*
 have HN:=hide hn
 clear h h1 hc hn hs0
 go_enter func299,ntmps299
 go_wp2
 go_loopw [10] (fun iv wr=>∃(k:Nat) (e f:Int),k≤n∧iv=.int .i64 k∧Hid (Sm.Up en 0 0 l↔Sm.Up en e f (l.drop k))∧Below w.heap.size w wr∧wr.heap[w.heap.size]? =some (.cells #[.int .i64 e,.int .i64 f] 119 (0,0))) (fun iv _=>n-(intOf iv).toNat)
 case atStart=>exact⟨0,0,0,by omega,rfl,hide (by simp),aj,hR⟩
 case round=>
  obtain⟨k,e,f,hk,rfl,HT,aI,hG⟩:=hrel
  have sz:=aI.size
  have szG:=ay hG
  by_cases hlt:k<n
  ·obtain⟨s,hs⟩:=mH (l:=l) (k:=k) (by have:=HN.out;omega)
   obtain⟨e0,e1⟩:=HC.out k s hs
   have d0:=(aI.cell (p:=⟨b,off+k*2,none⟩) hB).trans e0
   have d1:=(aI.cell (p:=⟨b,off+k*2+1,none⟩) hB).trans e1
   have HU:=hide (HT.out.trans (Sm.at1 (en:=en) (e:=e) (f:=f) hs))
   have hlt':(k:Int)<n:=by omega
   obtain⟨V,hV,hV2,iy,bg,bC,q0,q1⟩:=zt wr 119 (.int .i64 0) (.int .i64 0) (.int .i64 s.1) (.int .i64 s.2)
   have hGV:=(bg.block w.heap.size (by omega)).trans hG
   have g0:=ai hGV 0 rfl
   have g1:=ai hGV 1 rfl
   have jf:Below w.heap.size w V:=aI.trans (bg.mono (by omega))
   clear e0 e1 hs hG HT bC bg aI hw1
   by_cases hg:e<s.1∧s.1≤1048576∧f<s.2∧s.2≤en
   ·have p1:¬s.1≤e:=by omega
    have p2:¬(1048576:Int)<s.1:=by omega
    have p3:¬s.2≤f:=by omega
    have p4:¬en<s.2:=by omega
    obtain⟨V',hV',fI,dO,⟨a0,a1⟩,⟨f0,f1⟩,⟨z0,z1⟩⟩:=dN hGV (.int .i64 s.1) (.int .i64 s.2)
    have fu:=aG jf dO (by omega) (by omega)
    have HT2:Hid (Sm.Up en 0 0 l↔Sm.Up en s.1 s.2 (l.drop (k+1))):=hide (by
     rw[HU.out]
     constructor
     ·rintro⟨_,_,_,_,h⟩;exact h
     ·intro h;exact⟨hg.1,hg.2.1,hg.2.2.1,hg.2.2.2,h⟩)
    clear hg HU dO jf hGV
    go_wp2
    go_roundw
    case rel=>exact⟨k+1,s.1,s.2,by omega,by go_num,HT2,fu,fI⟩
    case measure=>simp[intOf];omega
   ·have hfo:=HA.out
    have hno:¬Sm.Up en 0 0 l:=fun h=>hg ⟨(HU.out.1 h).1,(HU.out.1 h).2.1,(HU.out.1 h).2.2.1,(HU.out.1 h).2.2.2.1⟩
    rw[ab9 (fun h=>hno h.1)]at hfo
    subst hfo
    have hq:s.1≤e∨(¬s.1≤e∧(1048576:Int)<s.1)∨(¬s.1≤e∧¬(1048576:Int)<s.1∧s.2≤f)∨(¬s.1≤e∧¬(1048576:Int)<s.1∧¬s.2≤f∧en<s.2):=by omega
    clear hg HU hGV hno HA
    rcases hq with p|⟨p1,p⟩|⟨p1,p2,p⟩|⟨p1,p2,p3,p⟩<;>(go_wp2;go_ret;exact⟨rfl,jf⟩)
  ·have hlt':¬(k:Int)<n:=by omega
   have hkn:k=n:=by omega
   have hup:Sm.Up en 0 0 l:=HT.out.2 (by rw[List.drop_of_length_le (by have:=HN.out;omega)];trivial)
   have hfo:=HA.out
   obtain⟨c0,c1⟩:=HC.out 0 s0 H0.out
   have d1:=(aI.cell (p:=⟨b,off+0*2+1,none⟩) hB).trans c1
   simp only[Nat.zero_mul,Nat.add_zero]at d1
   have hne:((n:Int)==0)=false:=by simp;omega
   by_cases hq:s0.2=1
   ·rw[aaE.2 ⟨hup,(aif H0.out).trans hq⟩]at hfo
    subst hfo
    rw[hq]at d1
    clear HA hup c0 c1 hG HT
    go_wp2
    go_ret
    exact⟨rfl,aI⟩
   ·rw[ab9 (fun h=>hq ((aif H0.out).symm.trans h.2))]at hfo
    subst hfo
    have hq':(s0.2==1)=false:=by simpa using hq
    clear HA hup c0 c1 hG HT hq
    go_wp2
    go_ret
    exact⟨rfl,aI⟩
theorem anz {n:Nat}{en:Int}(h:n=0↔en=0):∃b:Bool,((n:Int)==0)=b∧(en==0)=b:=by
 by_cases hn:n=0
 ·exact⟨true,by simp[hn],by simp[h.1 hn]⟩
 ·exact⟨false,by simp;omega,by simp;exact fun e=>hn (h.2 e)⟩
theorem aoT {n:Nat}{en:Int}(h:¬(n=0↔en=0)):(((n:Int)==0)=true∧(en==0)=false)∨(((n:Int)==0)=false∧(en==0)=true):=by
 by_cases hn:n=0
 ·exact .inl ⟨by simp[hn],by simp;exact fun e=>h ⟨fun _=>e,fun _=>hn⟩⟩
 ·refine .inr ⟨by simp;omega,?_⟩
  simp
  rcases Classical.em (en=0)with g|g
  ·exact g
  ·exact absurd ⟨fun k=>absurd k hn,fun k=>absurd k g⟩ h
theorem aiW (v:Value)(l:List Sm.S)(en:Int)(w:World)(h:yf w v l)(hl:l.length≤140737488355328):
  Calls prog 249 #[v,.int .i64 en] w fun E w'=>E=.returned (.int .i64 (Sm.chk l en))∧Below w.heap.size w w':=by
 have X:=hide (apU v l en w h hl)
 obtain⟨ao,cap,rfl,_,_⟩:=h.shape
 obtain⟨ans,dL⟩:∃r,Sm.chk l en=r:=⟨_,rfl⟩
 rw[dL]
 have HA:=hide dL
 have HL:=hide hl
 generalize hn:l.length=n at*
 have HN:=hide hn
 clear h dL hl hn
 have no:∀{p:Prop},(Sm.Ok l en→False)→ans=5:=fun h=>by rw[←HA.out];exact Sm.iA h
 have NO:Hid ((Sm.Ok l en→False)→ans=5):=hide fun h=>no (p:=True) h
 clear no
 by_cases h1:en<0
 ·obtain rfl:=NO.out fun h=>by have:=h.1;omega
  clear HA NO X
  go_enter func249,ntmps249
  go_wp2
  go_ret
  exact⟨rfl,Below.refl _ _⟩
 by_cases h2:(1048576:Int)<en
 ·obtain rfl:=NO.out fun h=>by have:=h.2.1;omega
  clear HA NO X
  go_enter func249,ntmps249
  go_wp2
  go_ret
  exact⟨rfl,Below.refl _ _⟩
 by_cases h3:n=0↔en=0
 ·obtain⟨bb,n0,e0⟩:=anz h3
  have HI:=hide h3
  by_cases h4:Sm.Up en 0 0 l∧(l.map Prod.snd).headD 1=1
  ·have hfo:=HA.out
   rw[Sm.iV ⟨by omega,by omega,by rw[HN.out];exact h3,h4.1,h4.2⟩]at hfo
   subst hfo
   rw[aaE.2 h4]at X
   clear HA NO h4 h3 HI
   go_enter func249,ntmps249
   go_wp2_with fail
   refine X.out.mono ?_
   rintro E w2 ⟨rfl,az⟩
   go_wp2
   go_ret
   exact⟨rfl,az⟩
  ·obtain rfl:=NO.out fun h=>h4 ⟨h.2.2.2.1,h.2.2.2.2⟩
   rw[ab9 h4]at X
   clear HA NO h4 h3 HI
   go_enter func249,ntmps249
   go_wp2_with fail
   refine X.out.mono ?_
   rintro E w2 ⟨rfl,az⟩
   go_wp2
   go_ret
   exact⟨rfl,az⟩
 ·obtain rfl:=NO.out fun h=>h3 (by rw[←HN.out];exact h.2.2.1)
  have hq:=aoT h3
  clear HA NO X h3
  go_enter func249,ntmps249
  rcases hq with⟨n0,e0⟩|⟨n0,e0⟩<;>(go_wp2;go_ret;exact⟨rfl,Below.refl _ _⟩)
structure Mw where
 k:Int
 e:Int
 r:Int
 n:Int
 vs:Value
 ss:List Sm.S
 f:Int
 p:Int
 vc:Value
 cs:List Cw
def mv (m:Mw):Value:=.agg #[.int .i64 m.k,.int .i64 m.e,.int .u8 m.r,.int .i64 m.n,m.vs,.int .i64 m.f,.int .i64 m.p,m.vc]
def mc (m:Mw):Array Value:=#[.int .i64 m.k,.int .i64 m.e,.int .u8 m.r,.int .i64 m.n,m.vs,.int .i64 m.f,.int .i64 m.p,m.vc]
def Mw.m (m:Mw):Mm.Msg:=⟨m.k,m.e,m.r,m.n,m.ss,m.f,m.p,aD m.cs⟩
def fZ:Mw:=⟨0,0,0,0,.slice none 0 0,[],0,0,.slice none 0 0,[]⟩
structure ji (w:World) (m:Mw):Prop where
 s:yf w m.vs m.ss
 c:gD w m.vc m.cs
theorem ji.below {w w':World}{m:Mw}(h:ji w m)(hb:Below w.heap.size w w'):ji w' m:=⟨h.s.below hb,h.c.below hb⟩
structure bQ (m:Mw):Prop where
 k:In64 m.k
 e:In64 m.e
 r0:0≤m.r
 r1:m.r<256
 n:In64 m.n
 f:In64 m.f
 p:In64 m.p
 ls:m.ss.length≤140737488355328
 fc:jH m.cs
 lc:m.cs.length≤140737488355328
theorem bQ.no:bQ fZ:=⟨by simp[In64,fZ],by simp[In64,fZ],by simp[fZ],by simp[fZ],by simp[In64,fZ],by simp[In64,fZ],by simp[In64,fZ],by simp[fZ],fun c hc=>by simp[fZ]at hc,by simp[fZ]⟩
structure Ei (w:World) (g:Nat) (a b c d e f h i:Value):Prop where
 c0:w.cell? ⟨g,0,none⟩=some a
 c1:w.cell? ⟨g,1,none⟩=some b
 c2:w.cell? ⟨g,2,none⟩=some c
 c3:w.cell? ⟨g,3,none⟩=some d
 c4:w.cell? ⟨g,4,none⟩=some e
 c5:w.cell? ⟨g,5,none⟩=some f
 c6:w.cell? ⟨g,6,none⟩=some h
 c7:w.cell? ⟨g,7,none⟩=some i
theorem dw {w:World}{g:Nat}{t:TypeId}{fr:Nat×Nat}{a b c d e f h i:Value}(k:w.heap[g]? =some (.cells #[a,b,c,d,e,f,h,i] t fr)):Ei w g a b c d e f h i:=
 ⟨ai k 0 rfl,ai k 1 rfl,ai k 2 rfl,ai k 3 rfl,ai k 4 rfl,ai k 5 rfl,ai k 6 rfl,ai k 7 rfl⟩
theorem apE {V:World}{R:Nat}{t:TypeId}{x0 x1 x2 x3 x4 x5 x6 x7:Value}(hR:V.heap[R]? =some (.cells #[x0,x1,x2,x3,x4,x5,x6,x7] t (0,0)))(a b c d e f h i:Value):
  ∃V',(((((((V.setCell ⟨R,0,none⟩ a).setCell ⟨R,1,none⟩ b).setCell ⟨R,2,none⟩ c).setCell ⟨R,3,none⟩ d).setCell ⟨R,4,none⟩ e).setCell ⟨R,5,none⟩ f).setCell ⟨R,6,none⟩ h).setCell ⟨R,7,none⟩ i=V'∧V'.heap[R]? =some (.cells #[a,b,c,d,e,f,h,i] t (0,0))∧V.grownBy V' (some R)∧
   Ei V R x0 x1 x2 x3 x4 x5 x6 x7∧(∀j,V.frozen? ⟨R,j,none⟩=false)∧Ei V' R a b c d e f h i:=by
 have k0:(V.setCell ⟨R,0,none⟩ a).heap[R]? =some (.cells #[a,x1,x2,x3,x4,x5,x6,x7] t (0,0)):=aF hR 0 a
 have k1:((V.setCell ⟨R,0,none⟩ a).setCell ⟨R,1,none⟩ b).heap[R]? =some (.cells #[a,b,x2,x3,x4,x5,x6,x7] t (0,0)):=aF k0 1 b
 have k2:(((V.setCell ⟨R,0,none⟩ a).setCell ⟨R,1,none⟩ b).setCell ⟨R,2,none⟩ c).heap[R]? =some (.cells #[a,b,c,x3,x4,x5,x6,x7] t (0,0)):=aF k1 2 c
 have k3:((((V.setCell ⟨R,0,none⟩ a).setCell ⟨R,1,none⟩ b).setCell ⟨R,2,none⟩ c).setCell ⟨R,3,none⟩ d).heap[R]? =some (.cells #[a,b,c,d,x4,x5,x6,x7] t (0,0)):=aF k2 3 d
 have k4:(((((V.setCell ⟨R,0,none⟩ a).setCell ⟨R,1,none⟩ b).setCell ⟨R,2,none⟩ c).setCell ⟨R,3,none⟩ d).setCell ⟨R,4,none⟩ e).heap[R]? =some (.cells #[a,b,c,d,e,x5,x6,x7] t (0,0)):=aF k3 4 e
 have k5:((((((V.setCell ⟨R,0,none⟩ a).setCell ⟨R,1,none⟩ b).setCell ⟨R,2,none⟩ c).setCell ⟨R,3,none⟩ d).setCell ⟨R,4,none⟩ e).setCell ⟨R,5,none⟩ f).heap[R]? =some (.cells #[a,b,c,d,e,f,x6,x7] t (0,0)):=aF k4 5 f
 have k6:(((((((V.setCell ⟨R,0,none⟩ a).setCell ⟨R,1,none⟩ b).setCell ⟨R,2,none⟩ c).setCell ⟨R,3,none⟩ d).setCell ⟨R,4,none⟩ e).setCell ⟨R,5,none⟩ f).setCell ⟨R,6,none⟩ h).heap[R]? =some (.cells #[a,b,c,d,e,f,h,x7] t (0,0)):=aF k5 6 h
 have k7:((((((((V.setCell ⟨R,0,none⟩ a).setCell ⟨R,1,none⟩ b).setCell ⟨R,2,none⟩ c).setCell ⟨R,3,none⟩ d).setCell ⟨R,4,none⟩ e).setCell ⟨R,5,none⟩ f).setCell ⟨R,6,none⟩ h).setCell ⟨R,7,none⟩ i).heap[R]? =some (.cells #[a,b,c,d,e,f,h,i] t (0,0)):=aF k6 7 i
 have k:=k7
 refine⟨_,rfl,k,?_,dw hR,aA hR,dw k⟩
 exact aH (aH (aH (aH (aH (aH (aH (ax V ⟨R,0,none⟩ a) (ax _ ⟨R,1,none⟩ b)) (ax _ ⟨R,2,none⟩ c)) (ax _ ⟨R,3,none⟩ d)) (ax _ ⟨R,4,none⟩ e)) (ax _ ⟨R,5,none⟩ f)) (ax _ ⟨R,6,none⟩ h)) (ax _ ⟨R,7,none⟩ i)
theorem aox (w:World)(t:TypeId)(x0 x1 x2 x3 x4 x5 x6 x7 a b c d e f h i:Value):
  ∃V,(((((((((w.alloc (.cells #[x0,x1,x2,x3,x4,x5,x6,x7] t)).setCell ⟨w.heap.size,0,none⟩ a).setCell ⟨w.heap.size,1,none⟩ b).setCell ⟨w.heap.size,2,none⟩ c).setCell ⟨w.heap.size,3,none⟩ d).setCell ⟨w.heap.size,4,none⟩ e).setCell ⟨w.heap.size,5,none⟩ f).setCell ⟨w.heap.size,6,none⟩ h).setCell ⟨w.heap.size,7,none⟩ i=V)∧w.alloc (.cells #[a,b,c,d,e,f,h,i] t)=V∧V.heap.size=w.heap.size+1∧Below w.heap.size w V∧V.heap[w.heap.size]? =some (.cells #[a,b,c,d,e,f,h,i] t (0,0))∧Ei V w.heap.size a b c d e f h i:=by
 obtain⟨V,h1,h2,h3,h4⟩:=au w #[a,b,c,d,e,f,h,i] t
 refine⟨V,?_,h1,h2,h3,h4,dw h4⟩
 rw[←h1]
 simp[go_sem]
def gm (w:World) (g:Nat) (m:Mw):Prop:=w.heap[g]? =some (.cells (mc m) 26 (0,0))
theorem gm.lt {w:World}{g:Nat}{m:Mw}(h:gm w g m):g<w.heap.size:=ay h
theorem gm.below {w w':World}{g:Nat}{m:Mw}(h:gm w g m)(b:Below w.heap.size w w'):gm w' g m:=(b.block g h.lt).trans h
theorem gm.under {w w':World}{g B:Nat}{m:Mw}(h:gm w g m)(b:Below B w w')(hg:g<B):gm w' g m:=(b.block g hg).trans h
theorem gm.ei {w:World}{g:Nat}{m:Mw}(h:gm w g m):Ei w g (.int .i64 m.k) (.int .i64 m.e) (.int .u8 m.r) (.int .i64 m.n) m.vs (.int .i64 m.f) (.int .i64 m.p) m.vc:=dw h
theorem aaD (w:World)(m:Mw):
  ∃V,w.alloc (.cells #[.int .i64 m.k,.int .i64 m.e,.int .u8 m.r,.int .i64 m.n,m.vs,.int .i64 m.f,.int .i64 m.p,m.vc] 26)=V∧V.heap.size=w.heap.size+1∧Below w.heap.size w V∧gm V w.heap.size m:=by
 obtain⟨V,h1,h2,h3,h4⟩:=au w #[.int .i64 m.k,.int .i64 m.e,.int .u8 m.r,.int .i64 m.n,m.vs,.int .i64 m.f,.int .i64 m.p,m.vc] 26
 exact⟨V,h1,h2,h3,h4⟩
def mR (a b:Mm.Msg):Bool:=(a.k==b.k)&&((a.e==b.e)&&((a.r==b.r)&&((a.n==b.n)&&((a.f==b.f)&&((a.p==b.p)&&(decide (a.ss=b.ss)&&sameV a.cs b.cs))))))
theorem yT {a b:Mm.Msg}:mR a b=true↔a=b:=by
 constructor
 ·intro h
  simp only[mR,Bool.and_eq_true,beq_iff_eq,decide_eq_true_iff,oD]at h
  obtain⟨h1,h2,h3,h4,h5,h6,h7,h8⟩:=h
  exact Mm.Msg.eq h1 h2 h3 h4 h7 h5 h6 h8
 ·rintro rfl
  simp[mR,ajQ]
theorem axM {a b:Mm.Msg}(h:a≠b):mR a b=false:=by
 cases hs:mR a b
 ·rfl
 ·exact absurd (yT.1 hs) h
theorem adU {n:Nat}(h:n≤433):cnt n≤7:=by
 unfold cnt
 omega
theorem ayu {p q N:Nat}{F1:Nat→Prop}{w w':World}{d:Dm.Ds}{l l':List Cm.Cv}{bk:Bool}{vc ve vc' ve':Value}{rs rs':List Cw}(h1:Pk q F1 w d)(hv:zJ p q w l bk vc ve rs)
  (hB:w'.heap[p]? =some (.cells #[.pointer (some ⟨q,0,none⟩),.bool bk,vc',ve'] 196 (0,0))) (hL:Lw 0 w' l' vc' ve' rs') (ho:Out (fun g=>g=p∨LB vc ve rs g) w w') (hs:∀g,LB vc' ve' rs' g→LB vc ve rs g∨N≤g) (hN:N≤w.heap.size):
  ∃F',WW p q F' w' ⟨d,l',bk⟩∧Out (fun g=>F1 g∨g=p∨LB vc ve rs g) w w'∧∀g,F' g→(F1 g∨g=p∨LB vc ve rs g)∨N≤g:=by
 have h2:Wk p q (fun g=>g=p∨LB vc ve rs g) w l bk:=⟨vc,ve,rs,hv,rfl⟩
 refine⟨_,⟨F1,_,h1.out ho fun g hg e=>yU h2 h1 g e hg,⟨vc',ve',rs',⟨hB,hL⟩,rfl⟩,rfl⟩,ho.mono fun g hg=>.inl (.inr hg),?_⟩
 rintro g (e|e|e)
 ·exact .inl (.inl e)
 ·exact .inl (.inr (.inl e))
 ·rcases hs g e with e|e
  ·exact .inl (.inr (.inr e))
  ·exact .inr e
theorem ahi (p q:Nat)(F:Nat→Prop)(w:World)(s:Wl.Ws)(c:Cw)(h:WW p q F w s)(hs:ajc s)(hi:bM w c.v c.l)(hf:dZ c.l)(h64:In64 c.e∧In64 c.n)(hlo:c.l.length*40≤140737488351232)(jg:0<c.l.length→∀b,c.v.ownBlock=some b→¬F b):
  Calls prog 183 #[.pointer (some ⟨p,0,none⟩),cK c.e c.n c.v] w fun E w'=>E=.returned (.int .i64 (Wl.mD s c.c).1)∧iT p q F w w' (Wl.mD s c.c).2:=by
 obtain⟨ao,cap,hcv,_,_⟩:=hi.shape
 obtain⟨w1,hw1,aV,aj,hB0⟩:=au w #[.int .i64 c.e,.int .i64 c.n,c.v] 35
 have c0:w1.cell? ⟨w.heap.size,0,none⟩=some (.int .i64 c.e):=ai hB0 0 rfl
 have c1:w1.cell? ⟨w.heap.size,1,none⟩=some (.int .i64 c.n):=ai hB0 1 rfl
 have c2:w1.cell? ⟨w.heap.size,2,none⟩=some c.v:=ai hB0 2 rfl
 have hW1:=h.below aj
 have HR:=hide (wU p q F w1 s hW1)
 have hb:=hs.big
 have HLT:=hide h.lt
 have HCF:=hide jg
 clear jg
 unfold cK
 rw[hcv]at hw1 c2⊢
 cases ha:Wl.ask s with
 |true=>
  have e1:Wl.mD s c.c=(6,Wl.brk s):=by unfold Wl.mD;rw[ha];rfl
  rw[e1]
  have B1:=hide aj
  clear h hs hi hf h64 hlo hB0 hcv hW1 e1 hb
  go_enter func183,ntmps183
  go_wp2_with fail
  refine HR.out.mono ?_
  rintro E w2 (⟨_,rfl,J⟩|⟨h0,_⟩)
  ·have J:=hide (iT.pre B1.out J)
   go_wp2
   go_ret
   exact⟨rfl,J.out⟩
  ·rw[ha]at h0
   cases h0
 |false=>
  have qN:=hide (aiZ c.e c.n c.v c.l w1 (hi.below aj) hf (by omega))
  unfold cK at qN
  rw[hcv]at qN
  obtain⟨ch,hch⟩:∃x,Cm.chk c.e c.n c.l=x:=⟨_,rfl⟩
  rw[hch]at qN
  have KC:=hide hch
  have oM:=hide hcv
  have IOX:=hide hi
  have WA:=hide hW1
  have FO:=hide (show dZ c.l∧(In64 c.e∧In64 c.n)∧c.l.length*40≤140737488351232 from⟨hf,h64,hlo⟩)
  have HB:=hide hB0
  have B1:=hide aj
  have BG:=hide hb
  have HS:=hide hs
  clear h hs hi hf h64 hlo hW1 hch hcv hb
  go_enter func183,ntmps183
  go_wp2_with fail
  refine HR.out.mono ?_
  rintro E w2 (⟨h0,_⟩|⟨_,rfl,rfl⟩)
  ·rw[ha]at h0
   cases h0
  clear HR
  go_wp2_with fail
  refine qN.out.mono ?_
  rintro E w2 ⟨vb,rfl,own,az⟩
  have W2:=WA.out.below az
  have b02:=B1.out.trans (az.mono B1.out.size)
  have dA:=az.size
  have hB2:=(az.block w.heap.size (by omega)).trans HB.out
  have d0:w2.cell? ⟨w.heap.size,0,none⟩=some (.int .i64 c.e):=ai hB2 0 rfl
  have d1:w2.cell? ⟨w.heap.size,1,none⟩=some (.int .i64 c.n):=ai hB2 1 rfl
  have d2:w2.cell? ⟨w.heap.size,2,none⟩=some c.v:=ai hB2 2 rfl
  rw[oM.out]at d2
  obtain⟨ab,cb,hvb,_,_⟩:=own.is.shape
  have OB:=hide own
  have HB2:=hide hB2
  have qz:=hide b02
  have HW2:=hide W2
  clear WA own az qN hB2 c0 c1 c2
  by_cases hc0:ch=0
  ·subst hc0
   have hfr:frd c.e c.n c.l=Wl.fr c.c:=by unfold frd;rw[if_pos KC.out];rfl
   have hfl:(frd c.e c.n c.l).length≤433:=by rw[hfr];exact Wl.lG KC.out
   obtain⟨F1,G1,h1,h2,hF⟩:=HW2.out
   obtain⟨vc,ve,rs,hv,hG⟩:=h2
   have hgl:=fM hv.log.good
   have p0:w2.cell? ⟨p,0,none⟩=some (.pointer (some ⟨q,0,none⟩)):=ai hv.blk 0 rfl
   obtain⟨ans,dL⟩:∃x,tk s.l c.c=x:=⟨_,rfl⟩
   have hpw:p<w2.heap.size:=ay hv.blk
   have TK:Hid (∀W,Below w2.heap.size w2 W→Calls prog 243 #[.pointer (some ⟨p,2,none⟩),.agg #[.int .i64 c.e,.int .i64 c.n,.slice ao c.l.length cap]] W fun E w'=>E=.returned (.bool ans)∧Below w2.heap.size w2 w'):=hide fun W hbW=>by
    have:=anO p 2 W vc rs (ai ((hbW.block p hpw).trans hv.blk) 2 rfl) (hv.log.r.row.row.below hbW) (by rw[hv.log.len];exact hgl) c ((IOX.out.below qz.out).below hbW) FO.out.2.1.1 FO.out.2.1.2 FO.out.1 FO.out.2.2
    unfold cK at this
    rw[oM.out,hv.log.is,dL]at this
    refine this.mono ?_
    rintro E w' ⟨rfl,hb'⟩
    exact⟨rfl,hbW.trans (hb'.mono hbW.size)⟩
   have HA:=hide dL
   have HV:=hide hv
   have H1:=hide h1
   have xS:=hide hF
   have HGG:=hide hG
   subst hvb
   clear dL hv h1 hF hG
   go_wp2_with fail
   go_region_held3 (fun w'=>w'.cell? ⟨w.heap.size,0,none⟩=some (.int .i64 c.e)∧w'.cell? ⟨w.heap.size,1,none⟩=some (.int .i64 c.n)∧w'.cell? ⟨w.heap.size,2,none⟩=some (.slice ao c.l.length cap)∧w'.cell? ⟨p,0,none⟩=some (.pointer (some ⟨q,0,none⟩))) (first|exact⟨d0,d1,d2,p0⟩|exact⟨e0,e1,e2,p1⟩|go_keep)
    (first
    |(go_at_call 243;refine(TK.out _ ((Below.refl _ _).drew)).mono ?_;rintro E w3 ⟨rfl,aC⟩;have e0:=(aC.cell (p:=⟨w.heap.size,0,none⟩) (show w.heap.size<w2.heap.size by omega)).trans d0;have e1:=(aC.cell (p:=⟨w.heap.size,1,none⟩) (show w.heap.size<w2.heap.size by omega)).trans d1;have e2:=(aC.cell (p:=⟨w.heap.size,2,none⟩) (show w.heap.size<w2.heap.size by omega)).trans d2;have p1:=(aC.cell (p:=⟨p,0,none⟩) hpw).trans p0))
   have fC:=qz.out.trans (aC.mono qz.out.size)
   have bO:=aC.size
   have rZ:Hid (zJ p q w3 s.l s.bk vc ve rs):=hide ⟨(aC.block p hpw).trans HV.out.blk,HV.out.log.below aC⟩
   have K3:=hide (H1.out.below aC)
   have O3:=hide (OB.out.below aC)
   have HB3:=hide ((aC.block w.heap.size (by omega)).trans HB2.out)
   clear HV H1 OB HB2 TK d0 d1 d2 p0
   cases ans with
   |false=>
    have e4:Wl.mD s c.c=(15,s):=by
     unfold Wl.mD
     rw[ha,if_neg (by decide),if_neg (by intro hx;exact hx KC.out),if_pos ?_]
     have:=HA.out
     unfold tk at this
     rw[decide_eq_false_iff_not]at this
     by_cases hx:c.c.n-1≠s.l.length∨c.c.e<Cm.lastE 0 s.l
     ·exact hx
     ·exact absurd ⟨KC.out,hx⟩ this
    have E4:=hide e4
    have W3:=hide (HW2.out.below aC)
    have B3:=hide fC
    clear e4 fC rZ K3 O3
    go_wp2
    go_ret
    exact⟨by rw[E4.out];rfl,by rw[E4.out];exact⟨F,W3.out,Out.of_below B3.out,fun g hg=>.inl hg⟩⟩
   |true=>
    have hgood:Cm.Good 0 0 (s.l++[c.c]):=(as6 rZ.out.log.good c.c).1 HA.out
    have htk:=HA.out
    unfold tk at htk
    rw[decide_eq_true_iff]at htk
    have WR:=hide (nL q F1 w3 s.d 0 _ (frd c.e c.n c.l) K3.out O3.out.is (fun _ b hb hf=>by
     have h1:=(O3.out.block b hb).1
     have h2:=HLT.out b (by rw[xS.out];exact .inl hf)
     omega) (by omega) (by have h1:=BG.out.1.2.1;have h2:=HS.out.1.2.1;have h3:=adU hfl;omega) BG.out.2 (by have h2:=HS.out.1.2.2;have h3:=adU hfl;omega))
    rw[hfr]at WR
    have e01:=yH (st:=s.d) (Wl.fr c.c)
    have e4:Wl.mD s c.c=if (Dm.write s.d 0 (Wl.fr c.c)).1≠0 then((Dm.write s.d 0 (Wl.fr c.c)).1,⟨(Dm.write s.d 0 (Wl.fr c.c)).2,s.l,true⟩)else(0,⟨(Dm.write s.d 0 (Wl.fr c.c)).2,s.l++[c.c],false⟩):=by
     unfold Wl.mD
     rw[ha,if_neg (by decide),if_neg (by intro hx;exact hx KC.out),if_neg htk.2]
    generalize hwr:Dm.write s.d 0 (Wl.fr c.c)=y at*
    obtain⟨x,d'⟩:=y
    simp only at e01 e4 WR
    have E4:=hide e4
    have GD:=hide hgood
    have W3:=hide (HW2.out.below aC)
    have B3:=hide fC
    have SZ3:w1.heap.size≤w3.heap.size:=by omega
    rw[hfr]at O3 hfl
    clear e4 hgood htk hwr fC aC hfr
    go_wp2_with fail
    refine WR.out.mono ?_
    rintro E w4 ⟨rfl,PS⟩
    obtain⟨F2,k1,k2,k3,k4⟩:=WW.disk (s:=⟨s.d,s.l,s.bk⟩) K3.out ⟨vc,ve,rs,rZ.out,rfl⟩ PS
    have HE:=hide (acZ p q _ w4 ⟨d',s.l,s.bk⟩ x ⟨F2,_,k1,k2,rfl⟩)
    simp only at HE
    have T4:=hide (show Out F w3 w4∧∀g,(F2 g∨(g=p∨LB vc ve rs g))→F g∨w3.heap.size≤g from by
     refine⟨k3.mono fun g hg=>.inl (by rw[xS.out];exact .inl hg),?_⟩
     rintro g (hg|hg)
     ·rcases k4 g hg with e|e
      ·exact .inl (by rw[xS.out];exact .inl e)
      ·exact .inr e
     ·exact .inl (by rw[xS.out,HGG.out];exact .inr hg))
    clear PS k1 k2 k3 k4 WR K3 rZ
    go_wp2_with fail
    refine HE.out.mono ?_
    rintro E w5 ⟨rfl,J⟩
    have J5:=hide (iT.trans T4.out.1 T4.out.2 J)
    clear HE J
    rcases e01 with rfl|rfl
    ·obtain⟨F5,⟨Fa,Ga,g1,g2,hF5⟩,o5,s5⟩:=J5.out
     obtain⟨vc5,ve5,rs5,hv5,hG5⟩:=g2
     have mO:=o5.size
     have hnF:¬F w.heap.size:=fun hf=>by have:=HLT.out _ hf;omega
     have zL:=(o5.block w.heap.size (by omega) hnF).trans HB3.out
     have x0:w5.cell? ⟨w.heap.size,0,none⟩=some (.int .i64 c.e):=ai zL 0 rfl
     have x1:w5.cell? ⟨w.heap.size,1,none⟩=some (.int .i64 c.n):=ai zL 1 rfl
     have x2:w5.cell? ⟨w.heap.size,2,none⟩=some c.v:=ai zL 2 rfl
     rw[oM.out]at x2
     have i5:bM w5 c.v c.l:=(IOX.out.below B3.out).out o5 HCF.out
     have HCP:Hid (Calls prog 64 #[.agg #[.int .i64 c.e,.int .i64 c.n,.slice ao c.l.length cap]] w5.drew fun E w6=>∃v',E=.returned (.agg #[.int .i64 c.e,.int .i64 c.n,v'])∧aT 71 0 w6 v' c.l∧Below w5.heap.size w5 w6∧(∀b,v'.ownBlock=some b→w5.heap.size≤b)∧w6.cell? ⟨w.heap.size,0,none⟩=some (.int .i64 c.e)∧w6.cell? ⟨w.heap.size,1,none⟩=some (.int .i64 c.n)∧w6.cell? ⟨w.heap.size,2,none⟩=some (.slice ao c.l.length cap)∧∃a n k,v'=.slice a n k):=hide (by
      have:=yt c.e c.n c.v c.l w5.drew (i5.drewN 1) FO.out.2.2
      unfold cK at this
      rw[oM.out]at this
      refine this.mono ?_
      rintro E w6 ⟨v',rfl,eu,eH⟩
      have qL:Below w5.heap.size w5 w6:=(Below.refl w5.heap.size w5).drew.trans eH
      obtain⟨a,k,hv',_,_⟩:=eu.is.shape
      exact⟨v',rfl,eu.bn (Nat.zero_le _),qL,fun b hb=>(aT.block eu b hb).1,(qL.cell (p:=⟨w.heap.size,0,none⟩) (show w.heap.size<w5.heap.size by omega)).trans x0,(qL.cell (p:=⟨w.heap.size,1,none⟩) (show w.heap.size<w5.heap.size by omega)).trans x1,(qL.cell (p:=⟨w.heap.size,2,none⟩) (show w.heap.size<w5.heap.size by omega)).trans x2,a,_,k,hv'⟩)
     have hp5:p<w5.heap.size:=ay hv5.blk
     have HGR:Hid (∀w6 v',Below w5.heap.size w5 w6→aT 71 0 w6 v' c.l→(∀b,v'.ownBlock=some b→w5.heap.size≤b)→Calls prog 245 #[.pointer (some ⟨p,2,none⟩),.agg #[.int .i64 c.e,.int .i64 c.n,v'],.int .i64 (Wl.fr c.c).length] w6 fun E w7=>E=.returned (.tuple #[])∧iT p q F w w7 ⟨d',s.l++[c.c],false⟩∧w7.cell? ⟨w.heap.size,0,none⟩=some (.int .i64 c.e)∧w7.cell? ⟨w.heap.size,1,none⟩=some (.int .i64 c.n)∧w7.cell? ⟨w.heap.size,2,none⟩=some (.slice ao c.l.length cap)):=hide fun w6 v' qL eu hge=>by
      have hB6:=(qL.block p hp5).trans hv5.blk
      have L6:=hv5.log.below qL
      have:=ak2 0 p 2 196 _ w6 s.l vc5 ve5 rs5 ⟨c.e,c.n,v',c.l⟩ (Wl.fr c.c).length hB6 rfl rfl (by decide) (by decide) (by decide) L6 (Nat.zero_le _) eu GD.out rfl
      unfold cK at this
      refine this.mono ?_
      rintro E w7 ⟨rfl,vc7,ve7,hB7,L7,o7,s7⟩
      have sP:=qL.size
      have K6:=g1.below qL
      obtain⟨F7,q1,q2,q3⟩:=ayu (N:=w5.heap.size) (l':=s.l++[c.c]) (vc':=vc7) (ve':=ve7) (rs':=rs5++[(⟨c.e,c.n,v',c.l⟩:Cw)]) (w:=w6) K6 ⟨hB6,L6⟩ (by rw[hB7];rfl) L7 o7 (w':=w7) (fun g hg=>by
       rcases s7 g hg with e|e|e
       ·exact .inl e
       ·exact .inr (by omega)
       ·exact .inr (hge g e)) sP
      have s6:∀g,(Fa g∨g=p∨LB vc5 ve5 rs5 g)→F5 g:=fun g hg=>by
       rw[hF5,hG5]
       exact hg
      have o57:Out F5 w5 w7:=(Out.of_below (F:=F5) qL).trans q2 fun g hg=>.inl (s6 g hg)
      have o37:Out F w3 w7:=o5.trans o57 s5
      have f7:∀g,F7 g→F g∨w3.heap.size≤g:=fun g hg=>by
       rcases q3 g hg with e|e
       ·exact s5 g (s6 g e)
       ·exact .inr (by omega)
      have apW:=(o37.block w.heap.size (by omega) hnF).trans HB3.out
      refine⟨rfl,iT.pre B3.out ⟨F7,q1,o37,f7⟩,ai apW 0 rfl,ai apW 1 rfl,?_⟩
      rw[←oM.out]
      exact ai apW 2 rfl
     clear hv5 zL i5
     go_wp2_with fail
     go_region_held3 (fun w'=>w'.cell? ⟨w.heap.size,0,none⟩=some (.int .i64 c.e)∧w'.cell? ⟨w.heap.size,1,none⟩=some (.int .i64 c.n)∧w'.cell? ⟨w.heap.size,2,none⟩=some (.slice ao c.l.length cap)) (first|exact⟨x0,x1,x2⟩|exact⟨y0,y1,y2⟩|exact⟨z0,z1,z2⟩|go_keep)
      (first
      |(go_at_call 64;refine HCP.out.mono ?_;rintro E w6 ⟨v6,rfl,eu,qL,hge,y0,y1,y2,a6,n6,k6,rfl⟩)
      |(go_at_call 245;refine(HGR.out _ _ qL eu hge).mono ?_;rintro E w7 ⟨rfl,J7,z0,z1,z2⟩;have J7:=hide J7))
     all_goals
      have A7:Hid (Wl.mD s c.c=(0,⟨d',s.l++[c.c],false⟩)):=hide (by rw[E4.out];simp)
      clear E4
      go_wp2
      go_ret
      exact⟨by rw[A7.out];rfl,by rw[A7.out];exact J7.out⟩
    ·have A6:Hid (Wl.mD s c.c=(6,⟨d',s.l,true⟩)):=hide (by rw[E4.out];simp)
     clear E4
     go_wp2
     go_ret
     exact⟨by rw[A6.out];rfl,by rw[A6.out];exact iT.pre B3.out J5.out⟩
  ·have hne:(ch !=0)=true:=by simp[hc0]
   have e1:Wl.mD s c.c=(ch,s):=by
    unfold Wl.mD
    rw[ha,if_neg (by decide),if_pos (by show Cm.chk c.e c.n c.l≠0;rw[KC.out];exact hc0)]
    show(Cm.chk c.e c.n c.l,s)=_
    rw[KC.out]
   have E1:=hide e1
   clear e1
   subst hvb
   go_wp2
   go_ret
   exact⟨by rw[E1.out];rfl,by rw[E1.out];exact⟨F,HW2.out,Out.of_below qz.out,fun g hg=>.inl hg⟩⟩
structure iG where
 k:Int
 n:Int
 t:Int
 key:ByteArray
 v:Value
 l:List Bm.Ov
 m:Mw
 b:Value
 bs:List Int
def ai9 (a:iG):List Value:=[.int .i64 a.k,.int .i64 a.n,.int .i64 a.t,.string a.key,a.v,.int .i64 a.m.k,.int .i64 a.m.e,.int .u8 a.m.r,.int .i64 a.m.n,a.m.vs,.int .i64 a.m.f,.int .i64 a.m.p,a.m.vc,a.b]
structure zo (w:World) (a:iG):Prop where
 ops:bM w a.v a.l
 msg:ji w a.m
 by8:Is .u8 w a.b a.bs
 kn:In64 a.k∧In64 a.n∧In64 a.t
theorem afs (a:iG):(ai9 a).length=14:=rfl
def l9 (w:World) (v:Value) (r:List iG):Prop:=fP ai9 w v r∧∀a∈r,zo w a
def afw (r:List iG):Prop:=∀a∈r,dZ a.l∧a.l.length*40≤140737488351232
theorem zo.below {w w':World}{a:iG}(h:zo w a)(hb:Below w.heap.size w w'):zo w' a:=⟨h.ops.below hb,h.msg.below hb,h.by8.below hb,h.kn⟩
theorem l9.below {w w':World}{v:Value}{l:List iG}(h:l9 w v l)(hb:Below w.heap.size w w'):l9 w' v l:=⟨h.1.below hb,fun a ha=>(h.2 a ha).below hb⟩
theorem l9.full {w:World}{v:Value}{l:List iG}(h:l9 w v l)(hne:0<l.length):
  ∃b off cap,v=.slice (some ⟨b,off,none⟩) l.length cap∧l.length≤cap∧cap≤maxLen∧b<w.heap.size∧
   ∀i a,l[i]? =some a→w.cell? ⟨b,off+i*14,none⟩=some (.int .i64 a.k)∧w.cell? ⟨b,off+i*14+1,none⟩=some (.int .i64 a.n)∧w.cell? ⟨b,off+i*14+2,none⟩=some (.int .i64 a.t)∧w.cell? ⟨b,off+i*14+3,none⟩=some (.string a.key)∧w.cell? ⟨b,off+i*14+4,none⟩=some a.v∧
    w.cell? ⟨b,off+i*14+5,none⟩=some (.int .i64 a.m.k)∧w.cell? ⟨b,off+i*14+6,none⟩=some (.int .i64 a.m.e)∧w.cell? ⟨b,off+i*14+7,none⟩=some (.int .u8 a.m.r)∧w.cell? ⟨b,off+i*14+8,none⟩=some (.int .i64 a.m.n)∧w.cell? ⟨b,off+i*14+9,none⟩=some a.m.vs∧
    w.cell? ⟨b,off+i*14+10,none⟩=some (.int .i64 a.m.f)∧w.cell? ⟨b,off+i*14+11,none⟩=some (.int .i64 a.m.p)∧w.cell? ⟨b,off+i*14+12,none⟩=some a.m.vc∧w.cell? ⟨b,off+i*14+13,none⟩=some a.b:=by
 obtain⟨b,off,cap,hv,h1,h2,h3,h4⟩:=h.1.full afs (by decide) hne
 refine⟨b,off,cap,hv,h1,h2,h3,fun i a ha=>?_⟩
 have:=h4 i a ha
 exact⟨by simpa using this 0 _ rfl,by simpa using this 1 _ rfl,by simpa using this 2 _ rfl,by simpa using this 3 _ rfl,by simpa using this 4 _ rfl,by simpa using this 5 _ rfl,by simpa using this 6 _ rfl,by simpa using this 7 _ rfl,by simpa using this 8 _ rfl,by simpa using this 9 _ rfl,by simpa using this 10 _ rfl,by simpa using this 11 _ rfl,by simpa using this 12 _ rfl,by simpa using this 13 _ rfl⟩
theorem l9.shape {w:World}{v:Value}{l:List iG}(h:l9 w v l):∃ao cap,v=.slice ao l.length cap∧l.length≤cap∧cap≤maxLen:=h.1.shape
def azA (l:List iG):Prop:=l.length≤40∧∀a∈l,a.l.length≤40
def ay4 (l:List iG) (w:World) (E:Ending) (w':World):Prop:=(∃b:Bool,E=.returned (.bool b)∧(b=true→azA l))∧w=w'
theorem akQ {l:List iG}{i:Nat}{a:iG}(h:l[i]? =some a)(hl:∀a∈l.take i,a.l.length≤40)(hf:a.l.length≤40):∀a∈l.take (i+1),a.l.length≤40:=by
 obtain⟨hi,e⟩:=List.getElem?_eq_some_iff.1 h
 rw[List.take_succ_eq_append_getElem hi,e]
 intro x hx
 rcases List.mem_append.1 hx with k|k
 ·exact hl x k
 ·rw[List.mem_singleton.1 k]
  exact hf
theorem ahh (v:Value)(l:List iG)(w:World)(h:l9 w v l)(hl:l.length≤140737488355328):Calls prog 44 #[v] w (ay4 l w):=by
 obtain⟨ao,cap,hv,hc1,hc2⟩:=h.shape
 have ACT:Hid (∀i,i<l.length→∃b off,v=.slice (some ⟨b,off,none⟩) l.length cap∧∃a va ka xa xk sa sk ba bk,l[i]? =some a∧w.cell? ⟨b,off+i*14+4,none⟩=some (.slice va a.l.length ka)∧w.cell? ⟨b,off+i*14+9,none⟩=some (.slice sa a.m.ss.length sk)∧w.cell? ⟨b,off+i*14+12,none⟩=some (.slice xa a.m.cs.length xk)∧w.cell? ⟨b,off+i*14+13,none⟩=some (.slice ba a.bs.length bk)∧
   ∀j,j<a.m.cs.length→∃b2 agW,xa=some ⟨b2,agW,none⟩∧∃c ca ck,a.m.cs[j]? =some c∧w.cell? ⟨b2,agW+j*3+2,none⟩=some (.slice ca c.l.length ck)):=hide fun i hi=>by
  obtain⟨b,off,cap',hv',_,_,_,hcell⟩:=h.full (by omega)
  rw[hv]at hv'
  simp only[Value.slice.injEq,true_and]at hv'
  obtain⟨rfl,rfl⟩:=hv'
  obtain⟨a,ha⟩:∃a,l[i]? =some a:=⟨l[i],List.getElem?_eq_getElem hi⟩
  have hok:=h.2 a (List.mem_of_getElem? ha)
  obtain⟨_,_,_,_,c4,_,_,_,_,c9,_,_,c12,c13⟩:=hcell i a ha
  obtain⟨va,ka,e1,_,_⟩:=hok.ops.shape
  obtain⟨xa,xk,e2,_,_⟩:=hok.msg.c.1.shape
  obtain⟨sa,sk,e3,_,_⟩:=hok.msg.s.shape
  obtain⟨ba,bk,e4,_,_⟩:=hok.by8.shape
  rw[e1]at c4
  rw[e2]at c12
  rw[e3]at c9
  rw[e4]at c13
  refine⟨b,off,hv,a,va,ka,xa,xk,sa,sk,ba,bk,ha,c4,c9,c12,c13,fun j hj=>?_⟩
  obtain⟨b2,agW,cap2,hx2,_,_,_,hcc⟩:=hok.msg.c.1.full (by omega)
  rw[e2]at hx2
  simp only[Value.slice.injEq,true_and]at hx2
  obtain⟨c,hc⟩:∃c,a.m.cs[j]? =some c:=⟨a.m.cs[j],List.getElem?_eq_getElem hj⟩
  obtain⟨ca,ck,e5,_,_⟩:=(hok.msg.c.2 c (List.mem_of_getElem? hc)).1.shape
  have:=(hcc j c hc).2.2
  rw[e5]at this
  exact⟨b2,agW,hx2.1,c,ca,ck,hc,this⟩
 rw[hv]at ACT
 subst hv
 clear h
 go_enter func44,ntmps44
 go_wp2
 go_loopw [3] (fun iv wr=>∃i:Nat,i≤l.length∧iv=.int .i64 i∧Hid (∀a∈l.take i,a.l.length≤40)∧wr=w) (fun iv _=>l.length-(intOf iv).toNat)
 case atStart=>exact⟨0,by omega,rfl,hide (by simp),rfl⟩
 case round=>
  obtain⟨i,hi,rfl,HA,rfl⟩:=hrel
  by_cases hlt:i<l.length
  ·obtain⟨b,off,dI,a,va,ka,xa,xk,sa,sk,ba,bk,ha,c4,c9,c12,c13,hcc⟩:=ACT.out i hlt
   simp only[Value.slice.injEq,and_true]at dI
   have hlt':(i:Int)<l.length:=by omega
   have hi0:(0:Int)≤(i:Int):=by omega
   have HX:=hide ha
   have HC:=hide hcc
   subst dI
   clear ha hcc
   obtain⟨nl,hnl⟩:∃n,a.l.length=n:=⟨_,rfl⟩
   obtain⟨nb,hnb⟩:∃n,a.bs.length=n:=⟨_,rfl⟩
   obtain⟨ns,hns⟩:∃n,a.m.ss.length=n:=⟨_,rfl⟩
   obtain⟨nc,hnc⟩:∃n,a.m.cs.length=n:=⟨_,rfl⟩
   rw[hnl]at c4
   rw[hnb]at c13
   rw[hns]at c9
   rw[hnc]at c12
   by_cases q:40<nl∨1000<nb∨40<ns∨40<nc
   ·clear hnl hnb hns hnc
    by_cases q1:40<nl
    ·have q1':(40:Int)<nl:=by omega
     clear q1 q
     go_wp2
     go_ret
     exact⟨⟨false,rfl,fun h=>by cases h⟩,rfl⟩
    have q1':¬(40:Int)<nl:=by omega
    by_cases q2:1000<nb
    ·have q2':(1000:Int)<nb:=by omega
     clear q1 q2 q
     go_wp2
     go_ret
     exact⟨⟨false,rfl,fun h=>by cases h⟩,rfl⟩
    have q2':¬(1000:Int)<nb:=by omega
    by_cases q3:40<ns
    ·have q3':(40:Int)<ns:=by omega
     clear q1 q2 q3 q
     go_wp2
     go_ret
     exact⟨⟨false,rfl,fun h=>by cases h⟩,rfl⟩
    have q3':¬(40:Int)<ns:=by omega
    have q4':(40:Int)<nc:=by omega
    clear q1 q2 q3 q
    go_wp2
    go_ret
    exact⟨⟨false,rfl,fun h=>by cases h⟩,rfl⟩
   have q1':¬(40:Int)<nl:=by omega
   have q2':¬(1000:Int)<nb:=by omega
   have q3':¬(40:Int)<ns:=by omega
   have q4':¬(40:Int)<nc:=by omega
   have NX:=hide (akQ HX.out HA.out (by omega))
   have HNC:=hide hnc
   clear q hnl hnb hns hnc
   go_wp2
   obtain⟨wo,hwo⟩:∃y,y=wr:=⟨_,rfl⟩
   subst hwo
   go_loopw [4] (fun jv wq=>∃j:Nat,j≤nc∧jv=.int .i64 j∧wq=wo) (fun jv _=>nc-(intOf jv).toNat)
   case atStart=>exact⟨0,by omega,rfl,rfl⟩
   case round=>
    obtain⟨j,hj,rfl,rfl⟩:=hrel
    by_cases hjl:j<nc
    ·obtain⟨b2,agW,hxa,c,ca,ck,hc,d2⟩:=HC.out j (by rw[HNC.out];exact hjl)
     have arp:(j:Int)<nc:=by omega
     have hj0:(0:Int)≤(j:Int):=by omega
     subst hxa
     obtain⟨cl,hcl⟩:∃n,c.l.length=n:=⟨_,rfl⟩
     rw[hcl]at d2
     clear hc hcl
     by_cases q3:40<cl
     ·have q5':(40:Int)<cl:=by omega
      clear q3
      go_wp2
      go_ret
      exact⟨⟨false,rfl,fun h=>by cases h⟩,rfl⟩
     ·have q5':¬(40:Int)<cl:=by omega
      clear q3
      go_wp2
      go_roundw
      case rel=>exact⟨j+1,by omega,by go_num,by first|trivial|rfl⟩
      case measure=>simp[intOf];omega
    ·have arp:¬(j:Int)<nc:=by omega
     go_wp2
     go_roundw
     case rel=>exact⟨i+1,by omega,by go_num,NX,by first|trivial|rfl⟩
     case measure=>simp[intOf];omega
  ·have hlt':¬(i:Int)<l.length:=by omega
   have FIN:Hid (∀a∈l,a.l.length≤40):=hide (by
    have:=HA.out
    rwa[List.take_of_length_le (by omega)]at this)
   clear HA
   go_wp2
   go_ret
   exact⟨⟨_,rfl,fun h=>⟨by have:=of_decide_eq_true h;omega,FIN.out⟩⟩,rfl⟩
end Go.Proofs.YtlmkaljjocflmaaGreatDoor
namespace Go.Proofs.YtlmkaljjocflmaaGreatDoor
open Go.RowKit Go.ChangeShapes Go.WideShapes Go.Deep
section
variable {H:Type} {enc:TypeId×Value→H} {P:Program} {w:World} {base:Nat} {spare:Nat→Bool} {held:Bool}
theorem trod_struct2 {t:TypeId}{f0 f1:Field}{fuel:Nat}{cs:List Value}{x:DataW H×List MemPlace}(ht:P.underlying t=some (.struct #[f0,f1]))(h:DataW.trod enc P w base spare held fuel t cs=some x):
  ∃y0 y1 n,DataW.trod enc P w base spare held n f0.type ((cs.drop f0.offset).take (P.cellsOf f0.type))=some y0∧DataW.trod enc P w base spare held n f1.type ((cs.drop f1.offset).take (P.cellsOf f1.type))=some y1:=by
 obtain⟨xs,n,_,rfl,hl,hlen,hf⟩:=DataW.trod_struct ht h
 match xs,hlen with
 |[y0,y1],_=>exact⟨y0,y1,n,by simpa using hf 0 f0 rfl,by simpa using hf 1 f1 rfl⟩
theorem aou {t e:TypeId}{f0 f1:Field}{fuel:Nat}{v:Value}{x:DataW H×List MemPlace}(ht:P.underlying t=some (.slice e))(he:P.underlying e=some (.struct #[f0,f1]))
  (hone:oneCellFields P #[f0,f1]=true) (ce:P.cellsOf e=2) (u0:P.underlying f0.type=some (.int .i64)) (u1:P.underlying f1.type=some (.int .i64))
  (h:DataW.trod enc P w base spare held fuel t [v]=some x):∃r:List Sm.S,yf w v r∧((x.1=.nil∧r=[])∨∃ds sp,x.1=.slice ds sp∧ds.length=r.length):=by
 rcases open_slice ht h with⟨hv,hx⟩|⟨a,len,cap,m,n,D,Pl,hv,hb,hl,hm,hmm,rfl,hx⟩
 ·simp at hv
  subst hv hx
  exact⟨[],fP.nil _ _,.inl ⟨rfl,rfl⟩⟩
 ·simp at hv
  subst hv
  have hlm:len≤m:=by rw[hmm];split<;>omega
  obtain⟨o0,c0⟩:=hone_of hone 0 f0 rfl
  obtain⟨o1,c1⟩:=hone_of hone 1 f1 rfl
  have each:∀i,i<len→∃c:Sm.S,∀m u,(kY c)[m]? =some u→w.cell? (a.add (i*2+m))=some u:=by
   intro i hi
   obtain⟨cs',h1,h2⟩:=hx i (by omega)
   rw[ce]at h1
   obtain⟨_,hlen,hcell⟩:=World.cells?_some h1
   obtain⟨y0,y1,k,q0,q1⟩:=trod_struct2 he h2
   match cs',hlen with
   |[v0,v1],_=>
    simp[o0,o1,c0,c1]at q0 q1
    obtain⟨p0,h0,rfl,w0⟩:=DataW.trod_int u0 q0
    obtain⟨p1,h1',rfl,w1⟩:=DataW.trod_int u1 q1
    simp at h0 h1'
    subst h0 h1'
    refine⟨(p0,p1),fun m u hu=>?_⟩
    have hm3:m<2:=(List.getElem?_eq_some_iff.1 hu).1
    have hc:=hcell m (by omega)
    rw[Go.Deep.add_add]at hc
    rw[hc]
    rcases(show m=0∨m=1 by omega)with rfl|rfl<;>simpa[kY]using hu
  have:Inhabited Sm.S:=⟨(0,0)⟩
  obtain⟨f,hf⟩:=choose_lt each
  refine⟨(List.range len).map f,.inr ⟨a,cap,by simp,by simpa using hl,hm,fun j u hj=>?_⟩,.inr ⟨(List.range len).map D,(List.range (m-len)).map fun j=>D (len+j),rfl,by simp⟩⟩
  obtain⟨i,c,m',hic,rfl,hu⟩:=mi yQ (by decide) _ j u hj
  obtain⟨hi,e⟩:=List.getElem?_eq_some_iff.1 hic
  simp at hi e
  subst e
  exact hf i hi m' u hu
end
end Go.Proofs.YtlmkaljjocflmaaGreatDoor
namespace Go.Proofs.YtlmkaljjocflmaaGreatDoor
open Go.RowKit Go.ChangeShapes Go.WideShapes Go.Deep
section
variable {H:Type} {enc:TypeId×Value→H} {P:Program} {w:World} {base:Nat} {spare:Nat→Bool} {held:Bool}
theorem agU {t:TypeId}{f0 f1 f2 f3 f4 f5 f6 f7:Field}{fuel:Nat}{cs:List Value}{x:DataW H×List MemPlace}(ht:P.underlying t=some (.struct #[f0,f1,f2,f3,f4,f5,f6,f7]))(h:DataW.trod enc P w base spare held fuel t cs=some x):
  ∃y0 y1 y2 y3 y4 y5 y6 y7 n,x.1=.agg [y0.1,y1.1,y2.1,y3.1,y4.1,y5.1,y6.1,y7.1]∧DataW.trod enc P w base spare held n f0.type ((cs.drop f0.offset).take (P.cellsOf f0.type))=some y0∧
   DataW.trod enc P w base spare held n f1.type ((cs.drop f1.offset).take (P.cellsOf f1.type))=some y1∧DataW.trod enc P w base spare held n f2.type ((cs.drop f2.offset).take (P.cellsOf f2.type))=some y2∧
   DataW.trod enc P w base spare held n f3.type ((cs.drop f3.offset).take (P.cellsOf f3.type))=some y3∧DataW.trod enc P w base spare held n f4.type ((cs.drop f4.offset).take (P.cellsOf f4.type))=some y4∧
   DataW.trod enc P w base spare held n f5.type ((cs.drop f5.offset).take (P.cellsOf f5.type))=some y5∧DataW.trod enc P w base spare held n f6.type ((cs.drop f6.offset).take (P.cellsOf f6.type))=some y6∧
   DataW.trod enc P w base spare held n f7.type ((cs.drop f7.offset).take (P.cellsOf f7.type))=some y7:=by
 obtain⟨xs,n,_,rfl,hl,hlen,hf⟩:=DataW.trod_struct ht h
 match xs,hlen with
 |[y0,y1,y2,y3,y4,y5,y6,y7],_=>exact⟨y0,y1,y2,y3,y4,y5,y6,y7,n,rfl,by simpa using hf 0 f0 rfl,by simpa using hf 1 f1 rfl,by simpa using hf 2 f2 rfl,by simpa using hf 3 f3 rfl,by simpa using hf 4 f4 rfl,by simpa using hf 5 f5 rfl,by simpa using hf 6 f6 rfl,by simpa using hf 7 f7 rfl⟩
end
end Go.Proofs.YtlmkaljjocflmaaGreatDoor
