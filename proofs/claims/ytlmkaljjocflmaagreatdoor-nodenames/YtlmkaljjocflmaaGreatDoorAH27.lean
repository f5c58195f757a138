/- Texts of one layer, one behind the other. -/
import Derived.Test.YtlmkaljjocflmaaGreatDoorAH1
import Derived.Test.YtlmkaljjocflmaaGreatDoorAG2
import Derived.Test.YtlmkaljjocflmaaGreatDoorAH6
import Derived.Test.YtlmkaljjocflmaaGreatDoorAH28
import Derived.Test.YtlmkaljjocflmaaGreatDoorAH20
import Derived.Test.YtlmkaljjocflmaaGreatDoorAH29
import Derived.Deep.RegionHeld3
import Derived.Test.YtlmkaljjocflmaaGreatDoorAZNlw
set_option maxRecDepth 100000
set_option maxHeartbeats 8000000
namespace Go.Proofs.YtlmkaljjocflmaaGreatDoor
open Go.RowKit
set_option linter.unusedVariables false
def lC (s:Sm.S):List Value:=[.int .i64 s.1,.int .i64 s.2]
theorem abG (s:Sm.S):(lC s).length=2:=rfl
abbrev yA (w:World) (v:Value) (l:List Sm.S):Prop:=iA lC w v l
abbrev nH (base:Nat) (w:World) (v:Value) (l:List Sm.S):Prop:=dI lC 2 119 base w v l
theorem ag2:∀(l:List Sm.S),∀u∈gcells lC l,u.oneCell'=true
 |[],u,h=>by simp[gcells]at h
 |s::r,u,h=>by
  rcases List.mem_append.1 h with h|h
  ·simp only[lC,List.mem_cons,List.not_mem_nil,or_false]at h
   rcases h with rfl|rfl<;>rfl
  ·exact ag2 r u h
theorem ni {w:World}{v:Value}{l:List Sm.S}(h:yA w v l)(hne:0<l.length):
  ∃b off cap,v=.slice (some ⟨b,off,none⟩) l.length cap∧l.length≤cap∧cap≤maxLen∧b<w.heap.size∧∀(i:Nat) (s:Sm.S),l[i]? =some s→w.cell? ⟨b,off+i*2,none⟩=some (.int .i64 s.1)∧w.cell? ⟨b,off+i*2+1,none⟩=some (.int .i64 s.2):=by
 obtain⟨b,off,cap,h1,h2,h3,h4,h5⟩:=h.full abG (by decide) hne
 exact⟨b,off,cap,h1,h2,h3,h4,fun i s hs=>⟨h5 i s hs 0 _ rfl,h5 i s hs 1 _ rfl⟩⟩
def zi (en:Int) (l:List Sm.S):Bool:=Sm.upb en 0 0 l&&decide ((l.map Prod.snd).headD 1=1)
theorem zu {en:Int}{l:List Sm.S}:zi en l=true↔Sm.Up en 0 0 l∧(l.map Prod.snd).headD 1=1:=by
 unfold zi
 rw[Bool.and_eq_true,Sm.abr,decide_eq_true_iff]
theorem aaU {en:Int}{l:List Sm.S}(h:¬(Sm.Up en 0 0 l∧(l.map Prod.snd).headD 1=1)):zi en l=false:=by
 cases hu:zi en l with
 |false=>rfl
 |true=>exact absurd (zu.1 hu) h
theorem ag3 {l:List Sm.S}{s:Sm.S}(h:l[0]? =some s):(l.map Prod.snd).headD 1=s.2:=by
 cases l with
 |nil=>simp at h
 |cons t r=>simp at h;subst h;rfl
theorem amC (v:Value)(l:List Sm.S)(en:Int)(w:World)(h:yA w v l)(hl:l.length≤140737488355328):
  Calls Tryz.prog 299 #[v,.int .i64 en] w fun E w'=>E=.returned (.bool (zi en l))∧Below w.heap.size w w':=by
 obtain⟨ans,dM⟩:∃r,zi en l=r:=⟨_,rfl⟩
 rw[dM]
 have HA:=hide dM
 clear dM
 obtain⟨w1,hw1,aT,ak,hR⟩:=au w #[.int .i64 0,.int .i64 0] 119
 have h1:=h.below ak
 by_cases hz:l.length=0
 ·have:l=[]:=List.eq_nil_of_length_eq_zero hz
  subst this
  obtain⟨ao,cap,rfl,_,_⟩:=h.shape
  have hfo:=HA.out
  have hfe:zi en []=true:=rfl
  rw[hfe]at hfo
  subst hfo
  clear h h1 hl hz HA hR
  simp only[List.length_nil]
  go_enter Tryz.func299,Tryz.ntmps299
  go_wp2
  go_loopw [10] (fun iv wr=>iv=.int .i64 0∧wr=w1) (fun _ _=>0)
  case atStart=>exact⟨rfl,rfl⟩
  case round=>
   obtain⟨rfl,rfl⟩:=hrel
   go_wp2
   go_ret
   exact⟨rfl,ak⟩
 obtain⟨b,off,cap,hvl,_,_,hB,hc⟩:=ni h (by omega)
 subst hvl
 obtain⟨s0,hs0⟩:=lM (l:=l) (k:=0) (by omega)
 have HC:=hide hc
 have H0:=hide hs0
 generalize hn:l.length=n at*
 have HN:=hide hn
 clear h h1 hc hn hs0
 go_enter Tryz.func299,Tryz.ntmps299
 go_wp2
 go_loopw [10] (fun iv wr=>∃(k:Nat) (e f:Int),k≤n∧iv=.int .i64 k∧Hid (Sm.Up en 0 0 l↔Sm.Up en e f (l.drop k))∧Below w.heap.size w wr∧wr.heap[w.heap.size]? =some (.cells #[.int .i64 e,.int .i64 f] 119 (0,0))) (fun iv _=>n-(intOf iv).toNat)
 case atStart=>exact⟨0,0,0,by omega,rfl,hide (by simp),ak,hR⟩
 case round=>
  obtain⟨k,e,f,hk,rfl,HT,aK,hG⟩:=hrel
  have sz:=aK.size
  have szG:=aA hG
  by_cases hlt:k<n
  ·obtain⟨s,hs⟩:=lM (l:=l) (k:=k) (by have:=HN.out;omega)
   obtain⟨e0,e1⟩:=HC.out k s hs
   have d0:=(aK.cell (p:=⟨b,off+k*2,none⟩) hB).trans e0
   have d1:=(aK.cell (p:=⟨b,off+k*2+1,none⟩) hB).trans e1
   have HU:=hide (HT.out.trans (Sm.aqC (en:=en) (e:=e) (f:=f) hs))
   have hlt':(k:Int)<n:=by omega
   obtain⟨V,hV,hV2,jE,aX,bC,q0,q1⟩:=wR wr 119 (.int .i64 0) (.int .i64 0) (.int .i64 s.1) (.int .i64 s.2)
   have hGV:=(aX.block w.heap.size (by omega)).trans hG
   have g0:=ai hGV 0 rfl
   have g1:=ai hGV 1 rfl
   have iU:Below w.heap.size w V:=aK.trans (aX.mono (by omega))
   clear e0 e1 hs hG HT bC aX aK hw1
   by_cases hg:e<s.1∧s.1≤1048576∧f<s.2∧s.2≤en
   ·have p1:¬s.1≤e:=by omega
    have p2:¬(1048576:Int)<s.1:=by omega
    have p3:¬s.2≤f:=by omega
    have p4:¬en<s.2:=by omega
    obtain⟨V',hV',fu,dP,⟨a0,a1⟩,⟨f0,f1⟩,⟨z0,z1⟩⟩:=dH hGV (.int .i64 s.1) (.int .i64 s.2)
    have eG:=aF iU dP (by omega) (by omega)
    have HT2:Hid (Sm.Up en 0 0 l↔Sm.Up en s.1 s.2 (l.drop (k+1))):=hide (by
     rw[HU.out]
     constructor
     ·rintro⟨_,_,_,_,h⟩;exact h
     ·intro h;exact⟨hg.1,hg.2.1,hg.2.2.1,hg.2.2.2,h⟩)
    clear hg HU dP iU hGV
    go_wp2
    go_roundw
    case rel=>exact⟨k+1,s.1,s.2,by omega,by go_num,HT2,eG,fu⟩
    case measure=>simp[intOf];omega
   ·have hfo:=HA.out
    have hno:¬Sm.Up en 0 0 l:=fun h=>hg ⟨(HU.out.1 h).1,(HU.out.1 h).2.1,(HU.out.1 h).2.2.1,(HU.out.1 h).2.2.2.1⟩
    rw[aaU (fun h=>hno h.1)]at hfo
    subst hfo
    have hq:s.1≤e∨(¬s.1≤e∧(1048576:Int)<s.1)∨(¬s.1≤e∧¬(1048576:Int)<s.1∧s.2≤f)∨(¬s.1≤e∧¬(1048576:Int)<s.1∧¬s.2≤f∧en<s.2):=by omega
    clear hg HU hGV hno HA
    rcases hq with p|⟨p1,p⟩|⟨p1,p2,p⟩|⟨p1,p2,p3,p⟩<;>(go_wp2;go_ret;exact⟨rfl,iU⟩)
  ·have hlt':¬(k:Int)<n:=by omega
   have hkn:k=n:=by omega
   have hup:Sm.Up en 0 0 l:=HT.out.2 (by rw[List.drop_of_length_le (by have:=HN.out;omega)];trivial)
   have hfo:=HA.out
   obtain⟨c0,c1⟩:=HC.out 0 s0 H0.out
   have d1:=(aK.cell (p:=⟨b,off+0*2+1,none⟩) hB).trans c1
   simp only[Nat.zero_mul,Nat.add_zero]at d1
   have hne:((n:Int)==0)=false:=by simp;omega
   by_cases hq:s0.2=1
   ·rw[zu.2 ⟨hup,(ag3 H0.out).trans hq⟩]at hfo
    subst hfo
    rw[hq]at d1
    clear HA hup c0 c1 hG HT
    go_wp2
    go_ret
    exact⟨rfl,aK⟩
   ·rw[aaU (fun h=>hq ((ag3 H0.out).symm.trans h.2))]at hfo
    subst hfo
    have hq':(s0.2==1)=false:=by simpa using hq
    clear HA hup c0 c1 hG HT hq
    go_wp2
    go_ret
    exact⟨rfl,aK⟩
theorem ai1 {n:Nat}{en:Int}(h:n=0↔en=0):∃b:Bool,((n:Int)==0)=b∧(en==0)=b:=by
 by_cases hn:n=0
 ·exact⟨true,by simp[hn],by simp[h.1 hn]⟩
 ·exact⟨false,by simp;omega,by simp;exact fun e=>hn (h.2 e)⟩
theorem amg {n:Nat}{en:Int}(h:¬(n=0↔en=0)):(((n:Int)==0)=true∧(en==0)=false)∨(((n:Int)==0)=false∧(en==0)=true):=by
 by_cases hn:n=0
 ·exact .inl ⟨by simp[hn],by simp;exact fun e=>h ⟨fun _=>e,fun _=>hn⟩⟩
 ·refine .inr ⟨by simp;omega,?_⟩
  simp
  rcases Classical.em (en=0)with g|g
  ·exact g
  ·exact absurd ⟨fun k=>absurd k hn,fun k=>absurd k g⟩ h
theorem ah8 (v:Value)(l:List Sm.S)(en:Int)(w:World)(h:yA w v l)(hl:l.length≤140737488355328):
  Calls Tryz.prog 249 #[v,.int .i64 en] w fun E w'=>E=.returned (.int .i64 (Sm.chk l en))∧Below w.heap.size w w':=by
 have X:=hide (amC v l en w h hl)
 obtain⟨ao,cap,rfl,_,_⟩:=h.shape
 obtain⟨ans,dM⟩:∃r,Sm.chk l en=r:=⟨_,rfl⟩
 rw[dM]
 have HA:=hide dM
 have HL:=hide hl
 generalize hn:l.length=n at*
 have HN:=hide hn
 clear h dM hl hn
 have no:∀{p:Prop},(Sm.Ok l en→False)→ans=5:=fun h=>by rw[←HA.out];exact Sm.gL h
 have NO:Hid ((Sm.Ok l en→False)→ans=5):=hide fun h=>no (p:=True) h
 clear no
 by_cases h1:en<0
 ·obtain rfl:=NO.out fun h=>by have:=h.1;omega
  clear HA NO X
  go_enter Tryz.func249,Tryz.ntmps249
  go_wp2
  go_ret
  exact⟨rfl,Below.refl _ _⟩
 by_cases h2:(1048576:Int)<en
 ·obtain rfl:=NO.out fun h=>by have:=h.2.1;omega
  clear HA NO X
  go_enter Tryz.func249,Tryz.ntmps249
  go_wp2
  go_ret
  exact⟨rfl,Below.refl _ _⟩
 by_cases h3:n=0↔en=0
 ·obtain⟨bb,n0,e0⟩:=ai1 h3
  have HI:=hide h3
  by_cases h4:Sm.Up en 0 0 l∧(l.map Prod.snd).headD 1=1
  ·have hfo:=HA.out
   rw[Sm.iR ⟨by omega,by omega,by rw[HN.out];exact h3,h4.1,h4.2⟩]at hfo
   subst hfo
   rw[zu.2 h4]at X
   clear HA NO h4 h3 HI
   go_enter Tryz.func249,Tryz.ntmps249
   go_wp2_with fail
   refine X.out.mono ?_
   rintro E w2 ⟨rfl,az⟩
   go_wp2
   go_ret
   exact⟨rfl,az⟩
  ·obtain rfl:=NO.out fun h=>h4 ⟨h.2.2.2.1,h.2.2.2.2⟩
   rw[aaU h4]at X
   clear HA NO h4 h3 HI
   go_enter Tryz.func249,Tryz.ntmps249
   go_wp2_with fail
   refine X.out.mono ?_
   rintro E w2 ⟨rfl,az⟩
   go_wp2
   go_ret
   exact⟨rfl,az⟩
 ·obtain rfl:=NO.out fun h=>h3 (by rw[←HN.out];exact h.2.2.1)
  have hq:=amg h3
  clear HA NO X h3
  go_enter Tryz.func249,Tryz.ntmps249
  rcases hq with⟨n0,e0⟩|⟨n0,e0⟩<;>(go_wp2;go_ret;exact⟨rfl,Below.refl _ _⟩)
structure Mw where
 k:Int
 e:Int
 r:Int
 n:Int
 vs:Value
 ss:List Sm.S
 f:Int
 p:Int
 vc:Value
 cs:List Cw
def mv (m:Mw):Value:=.agg #[.int .i64 m.k,.int .i64 m.e,.int .u8 m.r,.int .i64 m.n,m.vs,.int .i64 m.f,.int .i64 m.p,m.vc]
def mc (m:Mw):Array Value:=#[.int .i64 m.k,.int .i64 m.e,.int .u8 m.r,.int .i64 m.n,m.vs,.int .i64 m.f,.int .i64 m.p,m.vc]
def Mw.m (m:Mw):Mm.Msg:=⟨m.k,m.e,m.r,m.n,m.ss,m.f,m.p,aH m.cs⟩
def fD:Mw:=⟨0,0,0,0,.slice none 0 0,[],0,0,.slice none 0 0,[]⟩
structure iY (w:World) (m:Mw):Prop where
 s:yA w m.vs m.ss
 c:iy w m.vc m.cs
theorem iY.below {w w':World}{m:Mw}(h:iY w m)(hb:Below w.heap.size w w'):iY w' m:=⟨h.s.below hb,h.c.below hb⟩
structure bQ (m:Mw):Prop where
 k:In64 m.k
 e:In64 m.e
 r0:0≤m.r
 r1:m.r<256
 n:In64 m.n
 f:In64 m.f
 p:In64 m.p
 ls:m.ss.length≤140737488355328
 fc:jr m.cs
 lc:m.cs.length≤140737488355328
theorem bQ.no:bQ fD:=⟨by simp[In64,fD],by simp[In64,fD],by simp[fD],by simp[fD],by simp[In64,fD],by simp[In64,fD],by simp[In64,fD],by simp[fD],fun c hc=>by simp[fD]at hc,by simp[fD]⟩
structure Ei (w:World) (g:Nat) (a b c d e f h i:Value):Prop where
 c0:w.cell? ⟨g,0,none⟩=some a
 c1:w.cell? ⟨g,1,none⟩=some b
 c2:w.cell? ⟨g,2,none⟩=some c
 c3:w.cell? ⟨g,3,none⟩=some d
 c4:w.cell? ⟨g,4,none⟩=some e
 c5:w.cell? ⟨g,5,none⟩=some f
 c6:w.cell? ⟨g,6,none⟩=some h
 c7:w.cell? ⟨g,7,none⟩=some i
theorem df {w:World}{g:Nat}{t:TypeId}{fr:Nat×Nat}{a b c d e f h i:Value}(k:w.heap[g]? =some (.cells #[a,b,c,d,e,f,h,i] t fr)):Ei w g a b c d e f h i:=
 ⟨ai k 0 rfl,ai k 1 rfl,ai k 2 rfl,ai k 3 rfl,ai k 4 rfl,ai k 5 rfl,ai k 6 rfl,ai k 7 rfl⟩
theorem amr {V:World}{R:Nat}{t:TypeId}{x0 x1 x2 x3 x4 x5 x6 x7:Value}(hR:V.heap[R]? =some (.cells #[x0,x1,x2,x3,x4,x5,x6,x7] t (0,0)))(a b c d e f h i:Value):
  ∃V',(((((((V.setCell ⟨R,0,none⟩ a).setCell ⟨R,1,none⟩ b).setCell ⟨R,2,none⟩ c).setCell ⟨R,3,none⟩ d).setCell ⟨R,4,none⟩ e).setCell ⟨R,5,none⟩ f).setCell ⟨R,6,none⟩ h).setCell ⟨R,7,none⟩ i=V'∧V'.heap[R]? =some (.cells #[a,b,c,d,e,f,h,i] t (0,0))∧V.grownBy V' (some R)∧
   Ei V R x0 x1 x2 x3 x4 x5 x6 x7∧(∀j,V.frozen? ⟨R,j,none⟩=false)∧Ei V' R a b c d e f h i:=by
 have k0:(V.setCell ⟨R,0,none⟩ a).heap[R]? =some (.cells #[a,x1,x2,x3,x4,x5,x6,x7] t (0,0)):=aG hR 0 a
 have k1:((V.setCell ⟨R,0,none⟩ a).setCell ⟨R,1,none⟩ b).heap[R]? =some (.cells #[a,b,x2,x3,x4,x5,x6,x7] t (0,0)):=aG k0 1 b
 have k2:(((V.setCell ⟨R,0,none⟩ a).setCell ⟨R,1,none⟩ b).setCell ⟨R,2,none⟩ c).heap[R]? =some (.cells #[a,b,c,x3,x4,x5,x6,x7] t (0,0)):=aG k1 2 c
 have k3:((((V.setCell ⟨R,0,none⟩ a).setCell ⟨R,1,none⟩ b).setCell ⟨R,2,none⟩ c).setCell ⟨R,3,none⟩ d).heap[R]? =some (.cells #[a,b,c,d,x4,x5,x6,x7] t (0,0)):=aG k2 3 d
 have k4:(((((V.setCell ⟨R,0,none⟩ a).setCell ⟨R,1,none⟩ b).setCell ⟨R,2,none⟩ c).setCell ⟨R,3,none⟩ d).setCell ⟨R,4,none⟩ e).heap[R]? =some (.cells #[a,b,c,d,e,x5,x6,x7] t (0,0)):=aG k3 4 e
 have k5:((((((V.setCell ⟨R,0,none⟩ a).setCell ⟨R,1,none⟩ b).setCell ⟨R,2,none⟩ c).setCell ⟨R,3,none⟩ d).setCell ⟨R,4,none⟩ e).setCell ⟨R,5,none⟩ f).heap[R]? =some (.cells #[a,b,c,d,e,f,x6,x7] t (0,0)):=aG k4 5 f
 have k6:(((((((V.setCell ⟨R,0,none⟩ a).setCell ⟨R,1,none⟩ b).setCell ⟨R,2,none⟩ c).setCell ⟨R,3,none⟩ d).setCell ⟨R,4,none⟩ e).setCell ⟨R,5,none⟩ f).setCell ⟨R,6,none⟩ h).heap[R]? =some (.cells #[a,b,c,d,e,f,h,x7] t (0,0)):=aG k5 6 h
 have k7:((((((((V.setCell ⟨R,0,none⟩ a).setCell ⟨R,1,none⟩ b).setCell ⟨R,2,none⟩ c).setCell ⟨R,3,none⟩ d).setCell ⟨R,4,none⟩ e).setCell ⟨R,5,none⟩ f).setCell ⟨R,6,none⟩ h).setCell ⟨R,7,none⟩ i).heap[R]? =some (.cells #[a,b,c,d,e,f,h,i] t (0,0)):=aG k6 7 i
 have k:=k7
 refine⟨_,rfl,k,?_,df hR,aB hR,df k⟩
 exact aI (aI (aI (aI (aI (aI (aI (ax V ⟨R,0,none⟩ a) (ax _ ⟨R,1,none⟩ b)) (ax _ ⟨R,2,none⟩ c)) (ax _ ⟨R,3,none⟩ d)) (ax _ ⟨R,4,none⟩ e)) (ax _ ⟨R,5,none⟩ f)) (ax _ ⟨R,6,none⟩ h)) (ax _ ⟨R,7,none⟩ i)
theorem an0 (w:World)(t:TypeId)(x0 x1 x2 x3 x4 x5 x6 x7 a b c d e f h i:Value):
  ∃V,(((((((((w.alloc (.cells #[x0,x1,x2,x3,x4,x5,x6,x7] t)).setCell ⟨w.heap.size,0,none⟩ a).setCell ⟨w.heap.size,1,none⟩ b).setCell ⟨w.heap.size,2,none⟩ c).setCell ⟨w.heap.size,3,none⟩ d).setCell ⟨w.heap.size,4,none⟩ e).setCell ⟨w.heap.size,5,none⟩ f).setCell ⟨w.heap.size,6,none⟩ h).setCell ⟨w.heap.size,7,none⟩ i=V)∧w.alloc (.cells #[a,b,c,d,e,f,h,i] t)=V∧V.heap.size=w.heap.size+1∧Below w.heap.size w V∧V.heap[w.heap.size]? =some (.cells #[a,b,c,d,e,f,h,i] t (0,0))∧Ei V w.heap.size a b c d e f h i:=by
 obtain⟨V,h1,h2,h3,h4⟩:=au w #[a,b,c,d,e,f,h,i] t
 refine⟨V,?_,h1,h2,h3,h4,df h4⟩
 rw[←h1]
 simp[go_sem]
def fw (w:World) (g:Nat) (m:Mw):Prop:=w.heap[g]? =some (.cells (mc m) 26 (0,0))
theorem fw.lt {w:World}{g:Nat}{m:Mw}(h:fw w g m):g<w.heap.size:=aA h
theorem fw.below {w w':World}{g:Nat}{m:Mw}(h:fw w g m)(b:Below w.heap.size w w'):fw w' g m:=(b.block g h.lt).trans h
theorem fw.under {w w':World}{g B:Nat}{m:Mw}(h:fw w g m)(b:Below B w w')(hg:g<B):fw w' g m:=(b.block g hg).trans h
theorem fw.ei {w:World}{g:Nat}{m:Mw}(h:fw w g m):Ei w g (.int .i64 m.k) (.int .i64 m.e) (.int .u8 m.r) (.int .i64 m.n) m.vs (.int .i64 m.f) (.int .i64 m.p) m.vc:=df h
theorem yM (w:World)(m:Mw):
  ∃V,w.alloc (.cells #[.int .i64 m.k,.int .i64 m.e,.int .u8 m.r,.int .i64 m.n,m.vs,.int .i64 m.f,.int .i64 m.p,m.vc] 26)=V∧V.heap.size=w.heap.size+1∧Below w.heap.size w V∧fw V w.heap.size m:=by
 obtain⟨V,h1,h2,h3,h4⟩:=au w #[.int .i64 m.k,.int .i64 m.e,.int .u8 m.r,.int .i64 m.n,m.vs,.int .i64 m.f,.int .i64 m.p,m.vc] 26
 exact⟨V,h1,h2,h3,h4⟩
def lV (a b:Mm.Msg):Bool:=(a.k==b.k)&&((a.e==b.e)&&((a.r==b.r)&&((a.n==b.n)&&((a.f==b.f)&&((a.p==b.p)&&(decide (a.ss=b.ss)&&sameV a.cs b.cs))))))
theorem xI {a b:Mm.Msg}:lV a b=true↔a=b:=by
 constructor
 ·intro h
  simp only[lV,Bool.and_eq_true,beq_iff_eq,decide_eq_true_iff,mJ]at h
  obtain⟨h1,h2,h3,h4,h5,h6,h7,h8⟩:=h
  exact Mm.Msg.eq h1 h2 h3 h4 h7 h5 h6 h8
 ·rintro rfl
  simp[lV,ait]
theorem arO {a b:Mm.Msg}(h:a≠b):lV a b=false:=by
 cases hs:lV a b
 ·rfl
 ·exact absurd (xI.1 hs) h
namespace Rol
open Pm (Pg chk no Ok)
def ck (x:Pg) (n lo hi:Int):Int:=if chk x=0 then(if n<lo∨hi<n then 2 else 0)else chk x
def own (x:Pg):Int:=if x.r=1 then 0 else if x.r=2 then 1 else if x.p=1 then 2 else if x.p=2 then 3 else if x.p=3 then 4 else 5
end Rol
theorem agp (x:Pm.Pg)(n lo hi:Int)(w:World)(hx:gF x)(hm:fC w):
  Calls Tryz.prog 161 #[vp x,.int .i64 n,.int .i64 lo,.int .i64 hi] w fun E w'=>E=.returned (.int .i64 (Rol.ck x n lo hi))∧Below w.heap.size w w':=by
 obtain⟨w2,hw2,dm,az,hP⟩:=au w #[.int .i64 x.e,.int .u8 x.r,.int .i64 x.a,.int .u8 x.p,.int .i64 x.f,.int .i64 x.b] 46
 obtain⟨p0,p1,p2,p3,p4,p5⟩:=aR hP
 have CK:=hide (jo x w2 hx (hm.below az))
 have PST:Hid (∀W,Below w2.heap.size w2 W→Below w.heap.size w W):=hide fun W hW=>az.trans (hW.mono (by omega))
 unfold Rol.ck
 obtain⟨ch,hch⟩:∃c,Pm.chk x=c:=⟨_,rfl⟩
 rw[hch]at CK⊢
 clear az hx hP hm hch
 by_cases h0:ch=0
 ·subst h0
  rw[if_pos rfl]
  by_cases h1:n<lo
  ·rw[if_pos (.inl h1)]
   unfold vp
   go_enter Tryz.func161,Tryz.ntmps161
   go_wp2_with fail
   refine CK.out.mono ?_
   rintro E w3 ⟨rfl,b3⟩
   have BB:=hide (PST.out w3 b3)
   clear CK PST b3
   go_wp2
   go_ret
   exact⟨rfl,BB.out⟩
  ·by_cases h2:hi<n
   ·rw[if_pos (.inr h2)]
    unfold vp
    go_enter Tryz.func161,Tryz.ntmps161
    go_wp2_with fail
    refine CK.out.mono ?_
    rintro E w3 ⟨rfl,b3⟩
    have BB:=hide (PST.out w3 b3)
    clear CK PST b3
    go_wp2
    go_ret
    exact⟨rfl,BB.out⟩
   ·rw[if_neg (by omega)]
    unfold vp
    go_enter Tryz.func161,Tryz.ntmps161
    go_wp2_with fail
    refine CK.out.mono ?_
    rintro E w3 ⟨rfl,b3⟩
    have BB:=hide (PST.out w3 b3)
    clear CK PST b3
    go_wp2
    go_ret
    exact⟨rfl,BB.out⟩
 ·rw[if_neg h0]
  have hb:(ch !=0)=true:=by simpa using h0
  unfold vp
  go_enter Tryz.func161,Tryz.ntmps161
  go_wp2_with fail
  refine CK.out.mono ?_
  rintro E w3 ⟨rfl,b3⟩
  have BB:=hide (PST.out w3 b3)
  clear CK PST b3
  go_wp2
  go_ret
  exact⟨rfl,BB.out⟩
theorem al7 (x:Pm.Pg)(w:World):
  Calls Tryz.prog 216 #[vp x] w fun E w'=>E=.returned (.int .i64 (Rol.own x))∧Below w.heap.size w w':=by
 obtain⟨w2,hw2,dm,az,hP⟩:=au w #[.int .i64 x.e,.int .u8 x.r,.int .i64 x.a,.int .u8 x.p,.int .i64 x.f,.int .i64 x.b] 46
 obtain⟨p0,p1,p2,p3,p4,p5⟩:=aR hP
 unfold Rol.own
 have BB:=hide az
 clear az hP
 unfold vp
 by_cases h0:x.r=1
 ·rw[if_pos h0]
  have g0:(x.r==1)=true:=by simpa using h0
  clear h0
  go_enter Tryz.func216,Tryz.ntmps216
  go_wp2
  go_ret
  exact⟨rfl,BB.out⟩
 rw[if_neg h0]
 have g0:(x.r==1)=false:=by simpa using h0
 by_cases h1:x.r=2
 ·rw[if_pos h1]
  have g1:(x.r==2)=true:=by simpa using h1
  clear h1
  go_enter Tryz.func216,Tryz.ntmps216
  go_wp2
  go_ret
  exact⟨rfl,BB.out⟩
 rw[if_neg h1]
 have g1:(x.r==2)=false:=by simpa using h1
 by_cases h2:x.p=1
 ·rw[if_pos h2]
  have g2:(x.p==1)=true:=by simpa using h2
  clear h2
  go_enter Tryz.func216,Tryz.ntmps216
  go_wp2
  go_ret
  exact⟨rfl,BB.out⟩
 rw[if_neg h2]
 have g2:(x.p==1)=false:=by simpa using h2
 by_cases h3:x.p=2
 ·rw[if_pos h3]
  have g3:(x.p==2)=true:=by simpa using h3
  clear h3
  go_enter Tryz.func216,Tryz.ntmps216
  go_wp2
  go_ret
  exact⟨rfl,BB.out⟩
 rw[if_neg h3]
 have g3:(x.p==2)=false:=by simpa using h3
 by_cases h4:x.p=3
 ·rw[if_pos h4]
  have g4:(x.p==3)=true:=by simpa using h4
  clear h4
  go_enter Tryz.func216,Tryz.ntmps216
  go_wp2
  go_ret
  exact⟨rfl,BB.out⟩
 rw[if_neg h4]
 have g4:(x.p==3)=false:=by simpa using h4
 clear h0 h1 h2 h3 h4
 go_enter Tryz.func216,Tryz.ntmps216
 go_wp2
 go_ret
 exact⟨rfl,BB.out⟩
theorem avB (x:Pm.Pg)(n:Int)(g:Nat)(w:World)(hg:w.heap[g]? =some (.cells #[.int .i64 n] 3 (0,0))):
  Calls Tryz.prog 275 #[vp x,.pointer (some ⟨g,0,none⟩)] w fun E w'=>E=.returned (.agg #[.int .i64 x.e,.int .u8 x.r,.int .i64 n,.int .u8 x.p,.int .i64 x.f,.int .i64 x.b])∧Below w.heap.size w w':=by
 obtain⟨w1,w2,hw1,hw2,aT,dm,az,⟨p0,p1,p2,p3,p4,p5⟩,PST⟩:=jO x w
 obtain⟨hP3,dC,B3,bJ⟩:=PST.out w2 (Below.refl _ _)
 have lg:=aA hg
 have cg:w2.cell? ⟨g,0,none⟩=some (.int .i64 n):=ai ((az.block g lg).trans hg) 0 rfl
 obtain⟨m0,hm0,asg,gm0,fm0⟩:=rG hP3 2 (.int .i64 n)
 have auX:=(qR gm0 (by omega)).trans dC
 have Bm0:=aF B3 gm0 (Nat.le_refl _) (by omega)
 have av9:=gm0.size
 obtain⟨r00,r01,r02,r03,r04,r05⟩:Six m0 w.heap.size (.int .i64 x.e) (.int .u8 x.r) (.int .i64 n) (.int .u8 x.p) (.int .i64 x.f) (.int .i64 x.b):=aR asg
 obtain⟨Z,hZ,_,gZ,⟨a0,a1,a2,a3,a4,a5⟩,fr,⟨z0,z1,z2,z3,z4,z5⟩⟩:=fq auX (.int .i64 x.e) (.int .u8 x.r) (.int .i64 n) (.int .u8 x.p) (.int .i64 x.f) (.int .i64 x.b)
 have f0:=fr 0;have f1:=fr 1;have f2:=fr 2;have f3:=fr 3;have f4:=fr 4;have f5:=fr 5
 have BB:=hide (aF Bm0 gZ (by omega) (by omega))
 clear PST hP3 dC B3 bJ gZ fr az asg gm0 auX Bm0 av9 hg lg
 unfold vp
 go_enter Tryz.func275,Tryz.ntmps275
 go_wp2
 refine bodyPost_ret (v:=.agg #[.int .i64 x.e,.int .u8 x.r,.int .i64 n,.int .u8 x.p,.int .i64 x.f,.int .i64 x.b]) (by simp[results,Tryz.results275,go_sem,z0,z1,z2,z3,z4,z5]) rfl ?_
 exact⟨rfl,BB.out⟩
theorem ahx (x:Pm.Pg)(n:Int)(g:Nat)(w:World)(hg:w.heap[g]? =some (.cells #[.int .i64 n] 3 (0,0)))(he:x.e≤1048576)(he0:0≤x.e):
  Calls Tryz.prog 276 #[vp x,.pointer (some ⟨g,0,none⟩)] w fun E w'=>E=.returned (.agg #[.int .i64 (x.e+1),.int .u8 1,.int .i64 n,.int .u8 0,.int .i64 0,.int .i64 0])∧Below w.heap.size w w':=by
 obtain⟨w1,w2,hw1,hw2,aT,dm,az,⟨p0,p1,p2,p3,p4,p5⟩,PST⟩:=jO x w
 obtain⟨hP3,dC,B3,bJ⟩:=PST.out w2 (Below.refl _ _)
 have lg:=aA hg
 have cg:w2.cell? ⟨g,0,none⟩=some (.int .i64 n):=ai ((az.block g lg).trans hg) 0 rfl
 have hwr:IntKind.i64.wrap (x.e+1)=x.e+1:=aS _ (by omega) (by omega)
 obtain⟨Z,hZ,_,gZ,⟨a0,a1,a2,a3,a4,a5⟩,fr,⟨z0,z1,z2,z3,z4,z5⟩⟩:=fq dC (.int .i64 (x.e+1)) (.int .u8 1) (.int .i64 n) (.int .u8 0) (.int .i64 0) (.int .i64 0)
 have f0:=fr 0;have f1:=fr 1;have f2:=fr 2;have f3:=fr 3;have f4:=fr 4;have f5:=fr 5
 have BB:=hide (aF B3 gZ (by omega) (by omega))
 clear PST hP3 dC B3 bJ gZ fr az hg lg he he0
 unfold vp
 go_enter Tryz.func276,Tryz.ntmps276
 go_wp2
 refine bodyPost_ret (v:=.agg #[.int .i64 (x.e+1),.int .u8 1,.int .i64 n,.int .u8 0,.int .i64 0,.int .i64 0]) (by simp[results,Tryz.results276,go_sem,z0,z1,z2,z3,z4,z5]) rfl ?_
 exact⟨rfl,BB.out⟩
theorem ah9 (x:Pm.Pg)(n:Int)(g:Nat)(w:World)(hg:w.heap[g]? =some (.cells #[.int .i64 n] 3 (0,0))):
  Calls Tryz.prog 280 #[vp x,.pointer (some ⟨g,0,none⟩)] w fun E w'=>E=.returned (.agg #[.int .i64 n,.int .u8 3,.int .i64 0,.int .u8 1,.int .i64 0,.int .i64 0])∧Below w.heap.size w w':=by
 obtain⟨w1,w2,hw1,hw2,aT,dm,az,⟨p0,p1,p2,p3,p4,p5⟩,PST⟩:=jO x w
 obtain⟨hP3,dC,B3,bJ⟩:=PST.out w2 (Below.refl _ _)
 have lg:=aA hg
 have cg:w2.cell? ⟨g,0,none⟩=some (.int .i64 n):=ai ((az.block g lg).trans hg) 0 rfl
 obtain⟨Z,hZ,_,gZ,⟨a0,a1,a2,a3,a4,a5⟩,fr,⟨z0,z1,z2,z3,z4,z5⟩⟩:=fq dC (.int .i64 n) (.int .u8 3) (.int .i64 0) (.int .u8 1) (.int .i64 0) (.int .i64 0)
 have f0:=fr 0;have f1:=fr 1;have f2:=fr 2;have f3:=fr 3;have f4:=fr 4;have f5:=fr 5
 have BB:=hide (aF B3 gZ (by omega) (by omega))
 clear PST hP3 dC B3 bJ gZ fr az hg lg
 unfold vp
 go_enter Tryz.func280,Tryz.ntmps280
 go_wp2
 refine bodyPost_ret (v:=.agg #[.int .i64 n,.int .u8 3,.int .i64 0,.int .u8 1,.int .i64 0,.int .i64 0]) (by simp[results,Tryz.results280,go_sem,z0,z1,z2,z3,z4,z5]) rfl ?_
 exact⟨rfl,BB.out⟩
theorem acn (q:Int)(w:World):
  Calls Tryz.prog 278 #[.int .u8 q] w fun E w'=>E=.returned (.func (.func 307) #[] #[.pointer (some ⟨w.heap.size,0,none⟩)])∧w'.heap.size=w.heap.size+1∧w'.heap[w.heap.size]? =some (.cells #[.int .u8 q] 44 (0,0))∧Below w.heap.size w w':=by
 have kW:∀(fn:Fn) (first cap:Array Value) (w:World),(Instr.makeFunc fn first cap).run Tryz.prog w=.ok (.func fn first cap) w:=fun _ _ _ _=>rfl
 obtain⟨w1,hw1,aT,ak,hP⟩:=au w #[.int .u8 q] 44
 have R:=hide (And.intro aT (And.intro hP ak))
 clear aT hP ak
 go_enter Tryz.func278,Tryz.ntmps278
 go_wp2
 go_ret
 exact⟨rfl,R.out⟩
structure Tbl (B:Nat) (n b:Int) (w:World):Prop where
 h0:w.heap[B]? =some (.cells #[.int .i64 n] 3 (0,0))
 h1:w.heap[B+1]? =some (.cells #[.int .i64 b] 3 (0,0))
 h3:w.heap[B+3]? =some (.cells #[.int .u8 3] 44 (0,0))
 h4:w.heap[B+4]? =some (.cells #[.int .u8 4] 44 (0,0))
def anO (B:Nat):Value:=.agg #[.func (.func 275) #[] #[.pointer (some ⟨B,0,none⟩)],.func (.func 276) #[] #[.pointer (some ⟨B,0,none⟩)],.func (.func 277) #[] #[.pointer (some ⟨B,0,none⟩),.pointer (some ⟨B+1,0,none⟩)],.func (.func 307) #[] #[.pointer (some ⟨B+3,0,none⟩)],.func (.func 307) #[] #[.pointer (some ⟨B+4,0,none⟩)],.func (.func 279) #[] #[],.func (.func 280) #[] #[.pointer (some ⟨B,0,none⟩)]]
theorem aw2 {V:World}{R:Nat}{t:TypeId}{u:Value}(hR:V.heap[R]? =some (.cells #[u,u,u,u,u,u,u] t (0,0)))(a b c d e f g:Value):
  ∃V',((((((V.setCell ⟨R,0,none⟩ a).setCell ⟨R,1,none⟩ b).setCell ⟨R,2,none⟩ c).setCell ⟨R,3,none⟩ d).setCell ⟨R,4,none⟩ e).setCell ⟨R,5,none⟩ f).setCell ⟨R,6,none⟩ g=V'∧V'.heap[R]? =some (.cells #[a,b,c,d,e,f,g] t (0,0))∧V.grownBy V' (some R):=by
 have h0:(V.setCell ⟨R,0,none⟩ a).heap[R]? =some (.cells #[a,u,u,u,u,u,u] t (0,0)):=aG hR 0 a
 have h1:((V.setCell ⟨R,0,none⟩ a).setCell ⟨R,1,none⟩ b).heap[R]? =some (.cells #[a,b,u,u,u,u,u] t (0,0)):=aG h0 1 b
 have h2:(((V.setCell ⟨R,0,none⟩ a).setCell ⟨R,1,none⟩ b).setCell ⟨R,2,none⟩ c).heap[R]? =some (.cells #[a,b,c,u,u,u,u] t (0,0)):=aG h1 2 c
 have h3:((((V.setCell ⟨R,0,none⟩ a).setCell ⟨R,1,none⟩ b).setCell ⟨R,2,none⟩ c).setCell ⟨R,3,none⟩ d).heap[R]? =some (.cells #[a,b,c,d,u,u,u] t (0,0)):=aG h2 3 d
 have h4:(((((V.setCell ⟨R,0,none⟩ a).setCell ⟨R,1,none⟩ b).setCell ⟨R,2,none⟩ c).setCell ⟨R,3,none⟩ d).setCell ⟨R,4,none⟩ e).heap[R]? =some (.cells #[a,b,c,d,e,u,u] t (0,0)):=aG h3 4 e
 have h5:((((((V.setCell ⟨R,0,none⟩ a).setCell ⟨R,1,none⟩ b).setCell ⟨R,2,none⟩ c).setCell ⟨R,3,none⟩ d).setCell ⟨R,4,none⟩ e).setCell ⟨R,5,none⟩ f).heap[R]? =some (.cells #[a,b,c,d,e,f,u] t (0,0)):=aG h4 5 f
 have h:(((((((V.setCell ⟨R,0,none⟩ a).setCell ⟨R,1,none⟩ b).setCell ⟨R,2,none⟩ c).setCell ⟨R,3,none⟩ d).setCell ⟨R,4,none⟩ e).setCell ⟨R,5,none⟩ f).setCell ⟨R,6,none⟩ g).heap[R]? =some (.cells #[a,b,c,d,e,f,g] t (0,0)):=aG h5 6 g
 refine⟨_,rfl,h,?_⟩
 exact aI (aI (aI (aI (aI (aI (ax V ⟨R,0,none⟩ a) (ax _ ⟨R,1,none⟩ b)) (ax _ ⟨R,2,none⟩ c)) (ax _ ⟨R,3,none⟩ d)) (ax _ ⟨R,4,none⟩ e)) (ax _ ⟨R,5,none⟩ f)) (ax _ ⟨R,6,none⟩ g)
theorem afH (n b:Int)(w:World):
  Calls Tryz.prog 210 #[.int .i64 n,.int .i64 b] w fun E w'=>E=.returned (anO w.heap.size)∧Tbl w.heap.size n b w'∧Below w.heap.size w w':=by
 have kW:∀(fn:Fn) (first cap:Array Value) (w:World),(Instr.makeFunc fn first cap).run Tryz.prog w=.ok (.func fn first cap) w:=fun _ _ _ _=>rfl
 have hsf:∀(a:Addr) (fn:Fn) (first cap:Array Value) (w:World),(store a (.func fn first cap)).run Tryz.prog w=stored Tryz.prog w a (.func fn first cap) .plain:=fun a fn first cap w=>run_store _ w a _ _ rfl
 obtain⟨w1,hw1,aT,ak,hP1⟩:=au w #[.int .i64 n] 3
 obtain⟨w2,hw2,s2,az,hP2⟩:=au w1 #[.int .i64 b] 3
 obtain⟨w3,hw3,s3,aC,hP3⟩:=au w2 #[.nilFunc,.nilFunc,.nilFunc,.nilFunc,.nilFunc,.nilFunc,.nilFunc] 264
 have dm:w2.heap.size=w.heap.size+2:=by omega
 have bJ:w3.heap.size=w.heap.size+3:=by omega
 rw[aT]at hP2
 rw[dm]at hP3
 have W3:=hide (And.intro ((aC.block _ (by omega)).trans ((az.block _ (by omega)).trans hP1)) (And.intro ((aC.block _ (by omega)).trans hP2) (And.intro hP3 (ak.trans ((az.mono (by omega)).trans (aC.mono (by omega)))))))
 have C3:=hide (acn 3 w3)
 clear ak az aC hP1 hP2 hP3 s2 s3
 go_enter Tryz.func210,Tryz.ntmps210
 go_wp2_with fail
 refine C3.out.mono ?_
 rintro E w4 ⟨rfl,s4,hP4,b4⟩
 have C4:=hide (acn 4 w4)
 have W4:=hide (And.intro hP4 b4)
 have iE:w4.heap.size=w.heap.size+4:=by omega
 clear C3 hP4 b4 s4
 go_wp2_with fail
 refine C4.out.mono ?_
 rintro E w5 ⟨rfl,lU,hP5,b5⟩
 obtain⟨p1,p2,p3,bw⟩:=W3.out
 obtain⟨p4,b4⟩:=W4.out
 rw[iE]at hP5
 rw[bJ]at p4
 have b35:=b4.trans (b5.mono (by omega))
 have q1:=(b35.block _ (by omega)).trans p1
 have q2:=(b35.block _ (by omega)).trans p2
 have q3:=(b35.block _ (by omega)).trans p3
 have q4:=(b5.block _ (by omega)).trans p4
 obtain⟨Z,hZ,hZR,gZ⟩:=aw2 q3 (.func (.func 275) #[] #[.pointer (some ⟨w.heap.size,0,none⟩)]) (.func (.func 276) #[] #[.pointer (some ⟨w.heap.size,0,none⟩)]) (.func (.func 277) #[] #[.pointer (some ⟨w.heap.size,0,none⟩),.pointer (some ⟨w.heap.size+1,0,none⟩)]) (.func (.func 307) #[] #[.pointer (some ⟨w.heap.size+3,0,none⟩)]) (.func (.func 307) #[] #[.pointer (some ⟨w.heap.size+4,0,none⟩)]) (.func (.func 279) #[] #[]) (.func (.func 280) #[] #[.pointer (some ⟨w.heap.size,0,none⟩)])
 have R:Hid (Tbl w.heap.size n b Z∧Below w.heap.size w Z):=hide ⟨⟨(gZ.block _ (by omega) (by simp)).trans q1,(gZ.block _ (by omega) (by simp)).trans q2,(gZ.block _ (by omega) (by simp)).trans q4,(gZ.block _ (by omega) (by simp)).trans hP5⟩,aF (bw.trans (b35.mono (by omega))) gZ (by omega) (by omega)⟩
 have a0:w5.cell? ⟨w.heap.size+2,0,none⟩=some .nilFunc:=ai q3 0 rfl
 have f0:=aB q3 0
 have z0:Z.cell? ⟨w.heap.size+2,0,none⟩=some (.func (.func 275) #[] #[.pointer (some ⟨w.heap.size,0,none⟩)]):=ai hZR 0 rfl
 have a1:w5.cell? ⟨w.heap.size+2,1,none⟩=some .nilFunc:=ai q3 1 rfl
 have f1:=aB q3 1
 have z1:Z.cell? ⟨w.heap.size+2,1,none⟩=some (.func (.func 276) #[] #[.pointer (some ⟨w.heap.size,0,none⟩)]):=ai hZR 1 rfl
 have a2:w5.cell? ⟨w.heap.size+2,2,none⟩=some .nilFunc:=ai q3 2 rfl
 have f2:=aB q3 2
 have z2:Z.cell? ⟨w.heap.size+2,2,none⟩=some (.func (.func 277) #[] #[.pointer (some ⟨w.heap.size,0,none⟩),.pointer (some ⟨w.heap.size+1,0,none⟩)]):=ai hZR 2 rfl
 have a3:w5.cell? ⟨w.heap.size+2,3,none⟩=some .nilFunc:=ai q3 3 rfl
 have f3:=aB q3 3
 have z3:Z.cell? ⟨w.heap.size+2,3,none⟩=some (.func (.func 307) #[] #[.pointer (some ⟨w.heap.size+3,0,none⟩)]):=ai hZR 3 rfl
 have a4:w5.cell? ⟨w.heap.size+2,4,none⟩=some .nilFunc:=ai q3 4 rfl
 have f4:=aB q3 4
 have z4:Z.cell? ⟨w.heap.size+2,4,none⟩=some (.func (.func 307) #[] #[.pointer (some ⟨w.heap.size+4,0,none⟩)]):=ai hZR 4 rfl
 have a5:w5.cell? ⟨w.heap.size+2,5,none⟩=some .nilFunc:=ai q3 5 rfl
 have f5:=aB q3 5
 have z5:Z.cell? ⟨w.heap.size+2,5,none⟩=some (.func (.func 279) #[] #[]):=ai hZR 5 rfl
 have a6:w5.cell? ⟨w.heap.size+2,6,none⟩=some .nilFunc:=ai q3 6 rfl
 have f6:=aB q3 6
 have z6:Z.cell? ⟨w.heap.size+2,6,none⟩=some (.func (.func 280) #[] #[.pointer (some ⟨w.heap.size,0,none⟩)]):=ai hZR 6 rfl
 rw[iE]
 clear p1 p2 p3 p4 q1 q2 q3 q4 b35 b4 b5 bw hP5 hZR gZ C4 W3 W4 lU
 go_wp2
 refine bodyPost_ret (v:=anO w.heap.size) (by simp[results,Tryz.results210,go_sem,anO,z0,z1,z2,z3,z4,z5,z6]) rfl ?_
 exact⟨rfl,R.out⟩
theorem Tryz.avH (f0 f1 f2 f3 f4 f5 f6:Value)(w:World):(Instr.index 264 (.agg #[f0,f1,f2,f3,f4,f5,f6]) (.int .i64 1)).run Tryz.prog w=.ok f1 w:=by kernel_rfl
theorem Tryz.avw (f0 f1 f2 f3 f4 f5 f6:Value)(w:World):(Instr.index 264 (.agg #[f0,f1,f2,f3,f4,f5,f6]) (.int .i64 6)).run Tryz.prog w=.ok f6 w:=by kernel_rfl
theorem aks (x:Pm.Pg)(n b:Int)(w:World)(h:Rol.own x=1)(he:x.e≤1048576)(he0:0≤x.e):
  Calls Tryz.prog 162 #[vp x,.int .i64 1,.int .i64 n,.int .i64 b] w fun E w'=>E=.returned (.tuple #[.agg #[.int .i64 (x.e+1),.int .u8 1,.int .i64 n,.int .u8 0,.int .i64 0,.int .i64 0],.int .i64 0])∧Below w.heap.size w w':=by
 obtain⟨w1,w2,hw1,hw2,aT,dm,az,⟨p0,p1,p2,p3,p4,p5⟩,PST⟩:=jO x w
 have C0:=hide (al7 x w2)
 rw[h]at C0
 have CC:Hid (∀W,Below w2.heap.size w2 W→Calls Tryz.prog 210 #[.int .i64 n,.int .i64 b] W fun E w'=>∃B,E=.returned (.agg #[.func (.func 275) #[] #[.pointer (some ⟨B,0,none⟩)],.func (.func 276) #[] #[.pointer (some ⟨B,0,none⟩)],.func (.func 277) #[] #[.pointer (some ⟨B,0,none⟩),.pointer (some ⟨B+1,0,none⟩)],.func (.func 307) #[] #[.pointer (some ⟨B+3,0,none⟩)],.func (.func 307) #[] #[.pointer (some ⟨B+4,0,none⟩)],.func (.func 279) #[] #[],.func (.func 280) #[] #[.pointer (some ⟨B,0,none⟩)]])∧Tbl B n b w'∧Below w2.heap.size w2 w'):=hide fun W hW=>(afH n b W).mono fun E w' h=>⟨W.heap.size,h.1,h.2.1,hW.trans (h.2.2.mono hW.size)⟩
 clear az h
 unfold vp
 go_enter Tryz.func162,Tryz.ntmps162
 go_wp2_with fail
 refine C0.out.mono ?_
 rintro E w3 ⟨rfl,b3⟩
 obtain⟨hP3,dC,B3,bJ⟩:=PST.out w3 b3
 have Sk3:=hide (ny hP3)
 have B3':=hide b3
 clear C0 b3 hP3 dC B3 bJ p0 p1 p2 p3 p4 p5
 go_wp2_with fail
 have hix:=Tryz.avH
 go_region_held3 (fun W=>W.cell? ⟨w.heap.size,0,none⟩=some (.int .i64 x.e)∧W.cell? ⟨w.heap.size,1,none⟩=some (.int .u8 x.r)∧W.cell? ⟨w.heap.size,2,none⟩=some (.int .i64 x.a)∧W.cell? ⟨w.heap.size,3,none⟩=some (.int .u8 x.p)∧W.cell? ⟨w.heap.size,4,none⟩=some (.int .i64 x.f)∧W.cell? ⟨w.heap.size,5,none⟩=some (.int .i64 x.b)) (first|exact Sk7.out|exact Sk6.out|exact Sk4.out|exact Sk3.out|go_keep)
  (first
  |(go_at_call 210;refine(CC.out _ B3'.out.drew).mono ?_;rintro E w4 ⟨B,rfl,t4,b4⟩;have T4:=hide t4;have B4:=hide b4;have Sk4:=hide (ny (PST.out w4 b4).1);clear t4 b4)
  |(go_at_call 276;refine(ahx x n B _ T4.out.h0 he he0).mono ?_;rintro E w6 ⟨rfl,b6⟩;obtain⟨hP6,zK,B6,uo⟩:=PST.out w6 (B4.out.trans (b6.mono B4.out.size));obtain⟨Z,hZ,_,gZ,⟨a0,a1,a2,a3,a4,a5⟩,fr,⟨z0,z1,z2,z3,z4,z5⟩⟩:=fq zK (.int .i64 (x.e+1)) (.int .u8 1) (.int .i64 n) (.int .u8 0) (.int .i64 0) (.int .i64 0);have f0:=fr 0;have f1:=fr 1;have f2:=fr 2;have f3:=fr 3;have f4:=fr 4;have f5:=fr 5;have BB:=hide (aF B6 gZ (by omega) (by omega));have Sk6:=hide (ny hP6);have Sk7:=hide (ny ((qR gZ ⟨by omega,by omega⟩).trans hP6));clear b6 hP6 zK B6 uo gZ fr))
 all_goals
  go_wp2
  refine bodyPost_ret (v:=.tuple #[.agg #[.int .i64 (x.e+1),.int .u8 1,.int .i64 n,.int .u8 0,.int .i64 0,.int .i64 0],.int .i64 0]) (by simp[results,Tryz.results162,go_sem,z0,z1,z2,z3,z4,z5]) rfl ?_
  exact⟨rfl,BB.out⟩
def atE (l:List Sm.S) (en n:Int):Int:=if Sm.chk l en=0 then(if n<0∨en<n then 2 else 0)else Sm.chk l en
theorem ano (u t:Int)(w:World)(v:Value)(hv:yN w v):Calls Tryz.prog 26 #[.int .i64 u,.int .i64 t,v] w fun E w'=>E=.returned (.tuple #[.pointer none,.int .i64 1])∧Below w.heap.size w w':=by
 have WR:=hide (auU v 0 (.slice none 0 0) w hv)
 clear hv
 go_enter Tryz.func26,Tryz.ntmps26
 go_wp2_with fail
 refine WR.out.mono ?_
 rintro E w1 ⟨rfl,b1⟩
 have B:=hide b1
 clear WR b1
 go_wp2
 go_ret2
 exact⟨rfl,B.out⟩
end Go.Proofs.YtlmkaljjocflmaaGreatDoor
