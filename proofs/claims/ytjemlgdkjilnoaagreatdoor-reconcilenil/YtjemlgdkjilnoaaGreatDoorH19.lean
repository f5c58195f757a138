/- Texts of one layer, one behind the other. -/
import Derived.Test.YtjemlgdkjilnoaaGreatDoorH4
import Derived.Test.YtjemlgdkjilnoaaGreatDoorProg
import Derived.Test.YtjemlgdkjilnoaaGreatDoorM2
import Derived.Test.YtjemlgdkjilnoaaGreatDoorH2
import Derived.Test.YtjemlgdkjilnoaaGreatDoorH3
import Derived.Deep.RegionHeld3
import Derived.Test.YtjemlgdkjilnoaaGreatDoorH13
import Derived.Test.YtjemlgdkjilnoaaGreatDoorH7
import Derived.Lib.Bytealg
import Derived.Test.YtjemlgdkjilnoaaGreatDoorH1
import Derived.RangeFuncNested
import Derived.RangeFuncBound
import Derived.RangeFuncCalls
import Derived.RangeFuncLeaves
import Derived.Shelf.RegionOpen
import Derived.WalkKit
import Derived.OwnWalkIn
import Derived.TacticsInMore
import Derived.LoopNIn
import Derived.LoopIn
import Derived.Lib.Walk
set_option maxRecDepth 100000
set_option maxHeartbeats 8000000
namespace Go.Proofs.YtjemlgdkjilnoaaGreatDoor
open Go.RowKit
set_option linter.unusedVariables false
def eD (q:Nat) (off:Bool) (x:Pm.Pg) (vw:Value) (en:Int) (vr vs:Value):Array Value:=#[.pointer (some ⟨q,0,none⟩),.bool off,.int .i64 x.e,.int .u8 x.r,.int .i64 x.a,.int .u8 x.p,.int .i64 x.f,.int .i64 x.b,vw,.int .i64 en,.slice none 0 0,vr,vs]
def jm (x:Pm.Pg) (ep en rn:Int) (p:Nat):Array Value:=#[.int .i64 x.e,.int .u8 x.r,.int .i64 x.a,.int .u8 x.p,.int .i64 x.f,.int .i64 x.b,.int .i64 ep,.int .i64 en,.int .i64 rn,.func (.func 85) #[.pointer (some ⟨p,0,none⟩)] #[]]
structure Ten (w:World) (g:Nat) (a b c d e f h i j k:Value):Prop where
 c0:w.cell? ⟨g,0,none⟩=some a
 c1:w.cell? ⟨g,1,none⟩=some b
 c2:w.cell? ⟨g,2,none⟩=some c
 c3:w.cell? ⟨g,3,none⟩=some d
 c4:w.cell? ⟨g,4,none⟩=some e
 c5:w.cell? ⟨g,5,none⟩=some f
 c6:w.cell? ⟨g,6,none⟩=some h
 c7:w.cell? ⟨g,7,none⟩=some i
 c8:w.cell? ⟨g,8,none⟩=some j
 c9:w.cell? ⟨g,9,none⟩=some k
theorem mi {w:World}{g:Nat}{t:TypeId}{fr:Nat×Nat}{a b c d e f h i j k:Value}(hg:w.heap[g]? =some (.cells #[a,b,c,d,e,f,h,i,j,k] t fr)):Ten w g a b c d e f h i j k:=
 ⟨ai hg 0 rfl,ai hg 1 rfl,ai hg 2 rfl,ai hg 3 rfl,ai hg 4 rfl,ai hg 5 rfl,ai hg 6 rfl,ai hg 7 rfl,ai hg 8 rfl,ai hg 9 rfl⟩
theorem adO {V:World}{R:Nat}{t:TypeId}{x0 x1 x2 x3 x4 x5 x6 x7 x8 x9:Value}(hR:V.heap[R]? =some (.cells #[x0,x1,x2,x3,x4,x5,x6,x7,x8,x9] t (0,0)))(a b c d e f h i j k:Value):
  ∃V',(((((((((V.setCell ⟨R,0,none⟩ a).setCell ⟨R,1,none⟩ b).setCell ⟨R,2,none⟩ c).setCell ⟨R,3,none⟩ d).setCell ⟨R,4,none⟩ e).setCell ⟨R,5,none⟩ f).setCell ⟨R,6,none⟩ h).setCell ⟨R,7,none⟩ i).setCell ⟨R,8,none⟩ j).setCell ⟨R,9,none⟩ k=V'∧V'.heap[R]? =some (.cells #[a,b,c,d,e,f,h,i,j,k] t (0,0))∧V.grownBy V' (some R)∧
   Ten V R x0 x1 x2 x3 x4 x5 x6 x7 x8 x9∧(∀j,V.frozen? ⟨R,j,none⟩=false)∧Ten V' R a b c d e f h i j k:=by
 have q0:(V.setCell ⟨R,0,none⟩ a).heap[R]? =some (.cells #[a,x1,x2,x3,x4,x5,x6,x7,x8,x9] t (0,0)):=aI hR 0 a
 have q1:((V.setCell ⟨R,0,none⟩ a).setCell ⟨R,1,none⟩ b).heap[R]? =some (.cells #[a,b,x2,x3,x4,x5,x6,x7,x8,x9] t (0,0)):=aI q0 1 b
 have q2:(((V.setCell ⟨R,0,none⟩ a).setCell ⟨R,1,none⟩ b).setCell ⟨R,2,none⟩ c).heap[R]? =some (.cells #[a,b,c,x3,x4,x5,x6,x7,x8,x9] t (0,0)):=aI q1 2 c
 have q3:((((V.setCell ⟨R,0,none⟩ a).setCell ⟨R,1,none⟩ b).setCell ⟨R,2,none⟩ c).setCell ⟨R,3,none⟩ d).heap[R]? =some (.cells #[a,b,c,d,x4,x5,x6,x7,x8,x9] t (0,0)):=aI q2 3 d
 have q4:(((((V.setCell ⟨R,0,none⟩ a).setCell ⟨R,1,none⟩ b).setCell ⟨R,2,none⟩ c).setCell ⟨R,3,none⟩ d).setCell ⟨R,4,none⟩ e).heap[R]? =some (.cells #[a,b,c,d,e,x5,x6,x7,x8,x9] t (0,0)):=aI q3 4 e
 have q5:((((((V.setCell ⟨R,0,none⟩ a).setCell ⟨R,1,none⟩ b).setCell ⟨R,2,none⟩ c).setCell ⟨R,3,none⟩ d).setCell ⟨R,4,none⟩ e).setCell ⟨R,5,none⟩ f).heap[R]? =some (.cells #[a,b,c,d,e,f,x6,x7,x8,x9] t (0,0)):=aI q4 5 f
 have q6:(((((((V.setCell ⟨R,0,none⟩ a).setCell ⟨R,1,none⟩ b).setCell ⟨R,2,none⟩ c).setCell ⟨R,3,none⟩ d).setCell ⟨R,4,none⟩ e).setCell ⟨R,5,none⟩ f).setCell ⟨R,6,none⟩ h).heap[R]? =some (.cells #[a,b,c,d,e,f,h,x7,x8,x9] t (0,0)):=aI q5 6 h
 have q7:((((((((V.setCell ⟨R,0,none⟩ a).setCell ⟨R,1,none⟩ b).setCell ⟨R,2,none⟩ c).setCell ⟨R,3,none⟩ d).setCell ⟨R,4,none⟩ e).setCell ⟨R,5,none⟩ f).setCell ⟨R,6,none⟩ h).setCell ⟨R,7,none⟩ i).heap[R]? =some (.cells #[a,b,c,d,e,f,h,i,x8,x9] t (0,0)):=aI q6 7 i
 have q8:(((((((((V.setCell ⟨R,0,none⟩ a).setCell ⟨R,1,none⟩ b).setCell ⟨R,2,none⟩ c).setCell ⟨R,3,none⟩ d).setCell ⟨R,4,none⟩ e).setCell ⟨R,5,none⟩ f).setCell ⟨R,6,none⟩ h).setCell ⟨R,7,none⟩ i).setCell ⟨R,8,none⟩ j).heap[R]? =some (.cells #[a,b,c,d,e,f,h,i,j,x9] t (0,0)):=aI q7 8 j
 have hx:((((((((((V.setCell ⟨R,0,none⟩ a).setCell ⟨R,1,none⟩ b).setCell ⟨R,2,none⟩ c).setCell ⟨R,3,none⟩ d).setCell ⟨R,4,none⟩ e).setCell ⟨R,5,none⟩ f).setCell ⟨R,6,none⟩ h).setCell ⟨R,7,none⟩ i).setCell ⟨R,8,none⟩ j).setCell ⟨R,9,none⟩ k).heap[R]? =some (.cells #[a,b,c,d,e,f,h,i,j,k] t (0,0)):=aI q8 9 k
 refine⟨_,rfl,hx,?_,mi hR,aC hR,mi hx⟩
 have g6:=aH (aH (aH (aH (aH (aB V ⟨R,0,none⟩ a) (aB _ ⟨R,1,none⟩ b)) (aB _ ⟨R,2,none⟩ c)) (aB _ ⟨R,3,none⟩ d)) (aB _ ⟨R,4,none⟩ e)) (aB _ ⟨R,5,none⟩ f)
 exact aH (aH (aH (aH g6 (aB _ ⟨R,6,none⟩ h)) (aB _ ⟨R,7,none⟩ i)) (aB _ ⟨R,8,none⟩ j)) (aB _ ⟨R,9,none⟩ k)
structure StA (p:Nat) (w:World) (q:Nat) (off:Bool) (x:Pm.Pg) (vw:Value) (en:Int) (vr vs:Value):Prop where
 c0:w.cell? ⟨p,0,none⟩=some (.pointer (some ⟨q,0,none⟩))
 c1:w.cell? ⟨p,1,none⟩=some (.bool off)
 c2:w.cell? ⟨p,2,none⟩=some (.int .i64 x.e)
 c3:w.cell? ⟨p,3,none⟩=some (.int .u8 x.r)
 c4:w.cell? ⟨p,4,none⟩=some (.int .i64 x.a)
 c5:w.cell? ⟨p,5,none⟩=some (.int .u8 x.p)
 c6:w.cell? ⟨p,6,none⟩=some (.int .i64 x.f)
 c7:w.cell? ⟨p,7,none⟩=some (.int .i64 x.b)
 c8:w.cell? ⟨p,8,none⟩=some vw
 c9:w.cell? ⟨p,9,none⟩=some (.int .i64 en)
 c10:w.cell? ⟨p,10,none⟩=some (.slice none 0 0)
 c11:w.cell? ⟨p,11,none⟩=some vr
 c12:w.cell? ⟨p,12,none⟩=some vs
theorem l9 {p q:Nat}{w:World}{t:TypeId}{fr:Nat×Nat}{off:Bool}{x:Pm.Pg}{vw vr vs:Value}{en:Int}(h:w.heap[p]? =some (.cells (eD q off x vw en vr vs) t fr)):StA p w q off x vw en vr vs:=
 ⟨ai h 0 rfl,ai h 1 rfl,ai h 2 rfl,ai h 3 rfl,ai h 4 rfl,ai h 5 rfl,ai h 6 rfl,ai h 7 rfl,ai h 8 rfl,ai h 9 rfl,ai h 10 rfl,ai h 11 rfl,ai h 12 rfl⟩
end Go.Proofs.YtjemlgdkjilnoaaGreatDoor
namespace Go.Proofs.YtjemlgdkjilnoaaGreatDoor
open Go.RowKit
open Bm (Ov)
set_option linter.unusedVariables false
theorem auf {a b:ByteArray}(h:Tm.lt b a=true):Op.bytesLess a.toList b.toList=false∧(a.toList==b.toList)=false:=by
 rw[Tm.ag3,Tm.eqk]
 exact⟨Tm.akH h,by simpa using(Tm.abl h).symm⟩
theorem ast {a b:ByteArray}(h:Tm.lt b a=false):(Op.bytesLess a.toList b.toList=true∧a≠b)∨(Op.bytesLess a.toList b.toList=false∧(a.toList==b.toList)=true):=by
 rw[Tm.ag3,Tm.eqk]
 cases hl:Tm.lt a b with
 |true=>exact .inl ⟨rfl,Tm.abl hl⟩
 |false=>exact .inr ⟨rfl,by simpa using Tm.aaY hl h⟩
theorem aod {l:List Ov}{k:Nat}{o:Ov}(h:Rn.may ⟨#[]⟩ (l.take k)=true)(ho:l[k]? =some o)(hc:o.c=0)(hlt:Tm.lt (Rn.rR ⟨#[]⟩ (l.take k)) o.k=true):Rn.may ⟨#[]⟩ (l.take (k+1))=true∧Rn.rR ⟨#[]⟩ (l.take (k+1))=o.k:=by
 obtain⟨h1,rfl⟩:=List.getElem?_eq_some_iff.1 ho
 rw[List.take_succ_eq_append_getElem h1,Rn.ab4,Rn.acX,h]
 simp[Rn.may,hc,hlt]
theorem ae8 {l:List Ov}{k:Nat}{o:Ov}(ho:l[k]? =some o)(h:o.c≠0∨Tm.lt (Rn.rR ⟨#[]⟩ (l.take k)) o.k=false):Rn.may ⟨#[]⟩ l=false:=by
 obtain⟨h1,rfl⟩:=List.getElem?_eq_some_iff.1 ho
 have e:l=l.take k++(l[k]::l.drop (k+1)):=by rw[←List.drop_eq_getElem_cons h1,List.take_append_drop]
 have e2:Rn.may ⟨#[]⟩ l=Rn.may ⟨#[]⟩ (l.take k++(l[k]::l.drop (k+1))):=congrArg _ e
 rw[e2,Rn.ab4]
 rcases h with h|h<;>simp[Rn.may,h]
theorem an9 (v:Value)(l:List Ov)(w:World)(h:df w v l)(hf:iR l)(hl:l.length≤140737488355328):
  Calls Tryz.prog 220 #[v] w fun E w'=>E=.returned (.bool (Rn.may ⟨#[]⟩ l))∧Below w.heap.size w w':=by
 obtain⟨ans,dO⟩:∃x,Rn.may ⟨#[]⟩ l=x:=⟨_,rfl⟩
 rw[dO]
 have HA:=hide dO
 obtain⟨ao,cap,hsv,hcap,_⟩:=h.shape
 have pI:=hide fun(h0:0<l.length)=>h.full h0
 subst hsv
 have HF:=hide hf
 obtain⟨n,hnn⟩:∃n,l.length=n:=⟨_,rfl⟩
 rw[hnn]at pI hcap hl⊢
 have HN:=hide hnn
 clear h hf hnn dO
 go_enter Tryz.func220,Tryz.ntmps220
 go_wp2
 go_loopw [3,8] (fun av i wr=>∃(k:Nat) (ah:ByteArray),k≤n∧i=.int .i64 k∧av=.string ah∧Hid (Rn.may ⟨#[]⟩ (l.take k)=true∧Rn.rR ⟨#[]⟩ (l.take k)=ah)∧Below w.heap.size w wr) (fun _ i _=>n-(intOf i).toNat)
 case atStart=>exact⟨0,⟨#[]⟩,by omega,rfl,rfl,hide ⟨by simp[Rn.may],by simp[Rn.rR]⟩,Below.refl _ _⟩
 case round=>
  obtain⟨k,ah,hk,rfl,rfl,HT,aG⟩:=hrel
  have sz:=aG.size
  by_cases hlt:k<n
  ·obtain⟨o,ho⟩:∃o,l[k]? =some o:=⟨l[k]'(by have:=HN.out;omega),by rw[List.getElem?_eq_getElem]⟩
   obtain⟨b1,o1,cq,jo,_,_,hB,hcell⟩:=pI.out (by omega)
   simp only[Value.slice.injEq,true_and]at jo
   obtain⟨rfl,rfl⟩:=jo
   obtain⟨c0,c1,c2⟩:=hcell k o ho
   have d0:=(aG.cell (p:=⟨b1,o1+k*3,none⟩) hB).trans c0
   have d1:=(aG.cell (p:=⟨b1,o1+k*3+1,none⟩) hB).trans c1
   have d2:=(aG.cell (p:=⟨b1,o1+k*3+2,none⟩) hB).trans c2
   have HO:=hide ho
   clear c0 c1 c2 ho hcell
   have hlt':(k:Int)<n:=by omega
   obtain⟨hk1,hv1⟩:=HF.out o (List.mem_of_getElem? HO.out)
   obtain⟨W1,hW1,aW,rZ,B1⟩:=ak wr #[.bool o.p,.string o.k,.string o.v] 92
   have e0:=ai B1 0 rfl
   have e1:=ai B1 1 rfl
   have e2:=ai B1 2 rfl
   have b01:Below w.heap.size w W1:=aG.trans (rZ.mono sz)
   clear B1 rZ
   go_wp2_with fail
   refine(lW o.p o.k o.v _ hk1 hv1).mono ?_
   rintro E w1 ⟨rfl,aj⟩
   have au:Below w.heap.size w w1:=b01.trans (aj.mono (by omega))
   have e1':=(aj.cell (p:=⟨wr.heap.size,1,none⟩) (show wr.heap.size<W1.heap.size by omega)).trans e1
   clear aj d0 d1 d2 e0 e1 e2
   rcases(show Om.chk o.p o.k.data.toList o.v.data.toList=0∨_ from Om.yH _ _ _)with hc|hc
   ·rw[hc]
    have HC:=hide (show o.c=0 from hc)
    clear hc
    cases hlk:Tm.lt ah o.k with
    |true=>
     obtain⟨q1,q2⟩:=auf hlk
     have HT2:=hide (aod HT.out.1 HO.out HC.out (by rw[HT.out.2];exact hlk))
     clear hlk
     go_wp2
     go_roundw
     case rel=>exact⟨k+1,o.k,by omega,by go_num,rfl,HT2,au⟩
     case measure=>simp[intOf];omega
    |false=>
     have hfo:=HA.out
     rw[ae8 HO.out (.inr (by rw[HT.out.2];exact hlk))]at hfo
     subst hfo
     rcases ast hlk with⟨q1,_⟩|⟨q1,q2⟩
     ·clear hlk
      go_wp2
      go_ret
      exact⟨rfl,au⟩
     ·clear hlk
      go_wp2
      go_ret
      exact⟨rfl,au⟩
   ·rw[hc]
    have hfo:=HA.out
    rw[ae8 HO.out (.inl (show o.c≠0 by unfold Bm.Ov.c Bm.Ov.kl Bm.Ov.vl;rw[hc];simp))]at hfo
    subst hfo
    clear hc
    go_wp2
    go_ret
    exact⟨rfl,au⟩
  ·have hlt':¬(k:Int)<n:=by omega
   have hfo:=HA.out
   have h1:=HT.out.1
   rw[List.take_of_length_le (by have:=HN.out;omega),hfo]at h1
   subst h1
   clear hfo
   go_wp2
   go_ret
   exact⟨rfl,aG⟩
theorem aje (e n:Int)(v:Value)(l:List Ov)(w:World)(h:df w v l)(hf:iR l)(hl:l.length≤140737488355328):
  Calls Tryz.prog 201 #[bT e n v] w fun E w'=>E=.returned (.int .i64 (Rn.chk e n l))∧Below w.heap.size w w':=by
 unfold bT
 obtain⟨w1,hw1,aW,aj,hB⟩:=ak w #[.int .i64 e,.int .i64 n,v] 215
 have c0:=ai hB 0 rfl
 have c1:=ai hB 1 rfl
 have c2:=ai hB 2 rfl
 have HM:=hide (an9 v l w1 (h.below aj) hf hl)
 obtain⟨ao,cap,rfl,_,_⟩:=h.shape
 obtain⟨ans,dO⟩:∃x,Rn.chk e n l=x:=⟨_,rfl⟩
 rw[dO]
 have HA:=hide dO
 have hlz:l.length=l.length:=rfl
 by_cases hlong:1024<l.length
 ·have hfo:=HA.out
  rw[Rn.amx hlong]at hfo
  subst hfo
  have av5:(1024:Int)<(l.length:Int):=by omega
  generalize l.length=m at*
  clear HA HM h hf dO hB
  go_enter Tryz.func201,Tryz.ntmps201
  go_wp2
  go_ret
  exact⟨rfl,aj⟩
 have av5:¬(1024:Int)<(l.length:Int):=by omega
 by_cases h1:e<1
 ·have hfo:=HA.out
  rw[Rn.iD hlong fun h=>by omega]at hfo
  subst hfo
  generalize l.length=m at*
  clear HA HM h hf dO hB
  go_enter Tryz.func201,Tryz.ntmps201
  go_wp2
  go_ret
  exact⟨rfl,aj⟩
 by_cases h2:n<e
 ·have hfo:=HA.out
  rw[Rn.iD hlong fun h=>by omega]at hfo
  subst hfo
  generalize l.length=m at*
  clear HA HM h hf dO hB
  go_enter Tryz.func201,Tryz.ntmps201
  go_wp2
  go_ret
  exact⟨rfl,aj⟩
 by_cases h3:(1048576:Int)<n
 ·have hfo:=HA.out
  rw[Rn.iD hlong fun h=>by omega]at hfo
  subst hfo
  generalize l.length=m at*
  clear HA HM h hf dO hB
  go_enter Tryz.func201,Tryz.ntmps201
  go_wp2
  go_ret
  exact⟨rfl,aj⟩
 cases hm:Rn.may ⟨#[]⟩ l with
 |true=>
  have hfo:=HA.out
  rw[Rn.ib hlong ⟨by omega,by omega,by omega,hm⟩]at hfo
  subst hfo
  rw[hm]at HM
  generalize l.length=m at*
  clear HA h hf dO hB hm
  go_enter Tryz.func201,Tryz.ntmps201
  go_wp2_with fail
  refine HM.out.mono ?_
  rintro E w2 ⟨rfl,au⟩
  have aO:=aj.trans (au.mono aj.size)
  go_wp2
  go_ret
  exact⟨rfl,aO⟩
 |false=>
  have hfo:=HA.out
  rw[Rn.iD hlong fun h=>by rw[hm]at h;simp at h]at hfo
  subst hfo
  rw[hm]at HM
  generalize l.length=m at*
  clear HA h hf dO hB hm
  go_enter Tryz.func201,Tryz.ntmps201
  go_wp2_with fail
  refine HM.out.mono ?_
  rintro E w2 ⟨rfl,au⟩
  have aO:=aj.trans (au.mono aj.size)
  go_wp2
  go_ret
  exact⟨rfl,aO⟩
end Go.Proofs.YtjemlgdkjilnoaaGreatDoor
namespace Go.Proofs.YtjemlgdkjilnoaaGreatDoor
open Go.RowKit
set_option linter.unusedVariables false
structure Rq (base:Nat) (w:World) (l:List Cm.Cv) (v:Value) (rs:List Cw):Prop where
 row:bD 215 base w v rs
 kN:dZ base w rs
 is:az rs=l
 good:Rl.Good 0 l
def QB (v:Value) (rs:List Cw) (g:Nat):Prop:=v.ownBlock=some g∨∃c∈rs,c.v.ownBlock=some g
section
variable {base base':Nat} {w w':World} {l:List Cm.Cv} {v:Value} {rs:List Cw} {F G:Nat→Prop}
theorem Rq.nil (base:Nat)(w:World):Rq base w [] (.slice none 0 0) []:=⟨bD.nil _ _ _,fun c hc=>by simp at hc,rfl,trivial⟩
theorem Rq.ty (h:Rq base w l v rs):∀g,QB v rs g→∃cs t,w.heap[g]? =some (.cells cs t (0,0))∧(t=215∨t=92):=by
 rintro g (hb|⟨c,hc,hb⟩)
 ·obtain⟨cs,e⟩:=h.row.type hb
  exact⟨_,_,e,.inl rfl⟩
 ·obtain⟨cs,e⟩:=(h.kN c hc).type hb
  exact⟨_,_,e,.inr rfl⟩
theorem Rq.agree (h:Rq base w l v rs)(ha:∀g,QB v rs g→w'.heap[g]? =w.heap[g]?):Rq base w' l v rs:=
 ⟨dm h.row fun b hb=>ha b (.inl hb),fun c hc=>dm (h.kN c hc) fun b hb=>ha b (.inr ⟨c,hc,hb⟩),h.is,h.good⟩
theorem Rq.len (h:Rq base w l v rs):rs.length=l.length:=by rw[←h.is,az,List.length_map]
theorem Rq.asL (h:Rq base w l v rs):rs.length≤1048576:=by rw[h.len];exact(Rl.eG h.good).1
structure RkV (p q:Nat) (w:World) (l:List Cm.Cv) (bk:Bool) (v:Value) (rs:List Cw):Prop where
 blk:w.heap[p]? =some (.cells #[.pointer (some ⟨q,0,none⟩),.bool bk,v] 180 (0,0))
 log:Rq 0 w l v rs
def Rk (p q:Nat) (G:Nat→Prop) (w:World) (l:List Cm.Cv) (bk:Bool):Prop:=∃v rs,RkV p q w l bk v rs∧G=fun g=>g=p∨QB v rs g
theorem RkV.ty {p q:Nat}{bk:Bool}(h:RkV p q w l bk v rs):∀g,g=p∨QB v rs g→∃cs t,w.heap[g]? =some (.cells cs t (0,0))∧(t=180∨t=215∨t=92):=by
 rintro g (rfl|hg)
 ·exact⟨_,_,h.blk,.inl rfl⟩
 ·obtain⟨cs,t,e,ht⟩:=h.log.ty g hg
  exact⟨cs,t,e,.inr ht⟩
theorem Rk.ty {p q:Nat}{bk:Bool}(h:Rk p q G w l bk):∀g,G g→∃cs t,w.heap[g]? =some (.cells cs t (0,0))∧(t=180∨t=215∨t=92):=by
 obtain⟨v,rs,h,rfl⟩:=h
 exact h.ty
theorem Rk.lt {p q:Nat}{bk:Bool}(h:Rk p q G w l bk):∀g,G g→g<w.heap.size:=fun g hg=>by
 obtain⟨cs,t,e,_⟩:=h.ty g hg
 exact ax e
theorem Rk.agree {p q:Nat}{bk:Bool}(h:Rk p q G w l bk)(ha:∀g,G g→w'.heap[g]? =w.heap[g]?):Rk p q G w' l bk:=by
 obtain⟨v,rs,h,rfl⟩:=h
 exact⟨v,rs,⟨(ha p (.inl rfl)).trans h.blk,h.log.agree fun g hg=>ha g (.inr hg)⟩,rfl⟩
theorem Rk.below {p q:Nat}{bk:Bool}(h:Rk p q G w l bk)(hb:Below w.heap.size w w'):Rk p q G w' l bk:=h.agree fun g hg=>hb.block g (h.lt g hg)
theorem Rk.out {p q:Nat}{bk:Bool}(h:Rk p q G w l bk)(ho:Out F w w')(hd:∀g,G g→¬F g):Rk p q G w' l bk:=h.agree fun g hg=>ho.block g (h.lt g hg) (hd g hg)
theorem Rk.good {p q:Nat}{bk:Bool}(h:Rk p q G w l bk):Rl.Good 0 l:=by
 obtain⟨v,rs,h,rfl⟩:=h
 exact h.log.good
theorem aqQ {p q q':Nat}{bk:Bool}{st:Dm.Ds}(h:Rk p q G w l bk)(k:Pk q' F w st):∀g,G g→¬F g:=by
 intro g hg hf
 obtain⟨cs,t,e,ht⟩:=h.ty g hg
 obtain⟨cs',t',fr,e',ht'⟩:=k.ty g hf
 rw[e]at e'
 simp only[Option.some.injEq,Obj.cells.injEq]at e'
 obtain⟨_,e2,_⟩:=e'
 subst e2
 rcases ht with rfl|rfl|rfl<;>rcases ht' with e|e|e<;>exact absurd e (by decide)
end
def RW (p q:Nat) (F:Nat→Prop) (w:World) (s:Rl.Rs):Prop:=∃F1 G1,Pk q F1 w s.d∧Rk p q G1 w s.l s.bk∧F=fun g=>F1 g∨G1 g
section
variable {p q:Nat} {F G:Nat→Prop} {w w' w1 w2:World} {s s':Rl.Rs} {st':Dm.Ds}
theorem RW.lt (h:RW p q F w s):∀g,F g→g<w.heap.size:=by
 obtain⟨F1,G1,h1,h2,rfl⟩:=h
 rintro g (hg|hg)
 ·exact h1.lt g hg
 ·exact h2.lt g hg
theorem RW.agree (h:RW p q F w s)(ha:∀g,F g→w'.heap[g]? =w.heap[g]?):RW p q F w' s:=by
 obtain⟨F1,G1,h1,h2,rfl⟩:=h
 exact⟨F1,G1,h1.agree fun g hg=>ha g (.inl hg),h2.agree fun g hg=>ha g (.inr hg),rfl⟩
theorem RW.below (h:RW p q F w s)(hb:Below w.heap.size w w'):RW p q F w' s:=h.agree fun g hg=>hb.block g (h.lt g hg)
theorem RW.out (h:RW p q F w s)(ho:Out G w w')(hd:∀g,F g→¬G g):RW p q F w' s:=h.agree fun g hg=>ho.block g (h.lt g hg) (hd g hg)
theorem RW.good (h:RW p q F w s):Rl.Good 0 s.l:=by
 obtain⟨F1,G1,h1,h2,rfl⟩:=h
 exact h2.good
end
end Go.Proofs.YtjemlgdkjilnoaaGreatDoor
namespace Go.Proofs.YtjemlgdkjilnoaaGreatDoor
open Go.RowKit
open Bm (Ov)
set_option linter.unusedVariables false
theorem Tryz.nx0 (a b c:Int)(w:World):(Instr.index 201 (.agg #[.int .i64 a,.int .i64 b,.int .i64 c]) (.int .i64 0)).run Tryz.prog w=.ok (.int .i64 a) w:=by kernel_rfl
theorem Tryz.nx1 (a b c:Int)(w:World):(Instr.index 201 (.agg #[.int .i64 a,.int .i64 b,.int .i64 c]) (.int .i64 1)).run Tryz.prog w=.ok (.int .i64 b) w:=by kernel_rfl
theorem Tryz.nx2 (a b c:Int)(w:World):(Instr.index 201 (.agg #[.int .i64 a,.int .i64 b,.int .i64 c]) (.int .i64 2)).run Tryz.prog w=.ok (.int .i64 c) w:=by kernel_rfl
theorem wS (z:Int)(h0:0≤z)(h1:z<9223372036854775808):IntKind.u64.wrap z=z:=by
 simp[IntKind.wrap,IntKind.bits,IntKind.signed]
 omega
def nmb (f u:Int) (m k:Nat):List Int:=match k with
 |0=>[]
 |1=>Vm.enc f.toNat
 |2=>Vm.enc f.toNat++Vm.enc u.toNat
 |_=>Vm.enc f.toNat++Vm.enc u.toNat++Vm.enc m
theorem arV {f u:Int}{m:Nat}(hf:f≤1048576)(hu:u≤1048576)(hm:m≤1024)(k:Nat):(nmb f u m k).length≤9:=by
 have a:=Cm.gz hf
 have b:=Cm.gz hu
 have c:(Vm.enc m).length≤3:=Vm.nK 2 m (by omega)
 unfold nmb
 split
 ·simp
 ·omega
 ·rw[List.length_append];omega
 ·rw[List.length_append,List.length_append];omega
theorem ass (f u:Int)(l:List Ov):nmb f u l.length 3++Rn.iL l=Rn.encR f u l:=by simp[nmb,Rn.encR]
theorem apx {l:List Ov}{k:Nat}{o:Ov}(h:l[k]? =some o):Rn.iL (l.take (k+1))=Rn.iL (l.take k)++Om.dN o.p o.kl o.vl:=by
 obtain⟨h1,rfl⟩:=List.getElem?_eq_some_iff.1 h
 rw[List.take_succ_eq_append_getElem h1,Rn.apr]
theorem aoS (e n:Int)(v:Value)(l:List Ov)(w:World)(h:df w v l)(hf:iR l)(hl:l.length≤140737488355328):
  Calls Tryz.prog 221 #[bT e n v] w fun E w'=>∃vb,E=.returned (.tuple #[vb,.int .i64 (Rn.chk e n l)])∧Own .u8 5 w.heap.size w' vb (Rn.out e n l)∧Below w.heap.size w w':=by
 obtain⟨w1,hw1,aW,aj,hB⟩:=ak w #[.int .i64 e,.int .i64 n,v] 215
 have c0:=ai hB 0 rfl
 have c1:=ai hB 1 rfl
 have c2:=ai hB 2 rfl
 have HM:=hide (aje e n v l w1 (h.below aj) hf hl)
 have pI:=hide fun(h0:0<l.length)=>h.full h0
 unfold bT at HM⊢
 obtain⟨ao,cap,rfl,_,_⟩:=h.shape
 obtain⟨ch,hch⟩:∃x,Rn.chk e n l=x:=⟨_,rfl⟩
 rw[hch]at HM⊢
 have HA:=hide hch
 have HF:=hide hf
 obtain⟨m,hmm⟩:∃m,l.length=m:=⟨_,rfl⟩
 rw[hmm]at pI hl c2 hw1 HM⊢
 have HN:=hide hmm
 clear h hf hch hB hmm
 go_enter Tryz.func221,Tryz.ntmps221
 go_wp2_with fail
 refine HM.out.mono ?_
 rintro E w2 ⟨rfl,au⟩
 have di:=au.size
 have aO:=aj.trans (au.mono aj.size)
 have d0:=(au.cell (p:=⟨w.heap.size,0,none⟩) (show w.heap.size<w1.heap.size by omega)).trans c0
 have d1:=(au.cell (p:=⟨w.heap.size,1,none⟩) (show w.heap.size<w1.heap.size by omega)).trans c1
 have d2:=(au.cell (p:=⟨w.heap.size,2,none⟩) (show w.heap.size<w1.heap.size by omega)).trans c2
 clear c0 c1 c2 HM au
 by_cases h0:ch=0
 ·subst h0
  have HZ:=hide (Rn.aQ HA.out)
  obtain⟨g1,g2,g3,g4,_⟩:=HZ.out
  rw[HN.out]at g1
  have hml:(m:Int)≤1024:=by omega
  have HNM:=hide (fun k=>arV (f:=e) (u:=n) (m:=m) (by omega) g4 g1 k)
  go_wp2
  go_loopw [5,25] (fun bb kk wr=>∃k:Nat,k≤3∧kk=.int .i64 k∧Own .u8 5 w.heap.size wr bb (nmb e n m k)∧Below w2.heap.size w2 wr) (fun _ kk _=>4-(intOf kk).toNat)
  case atStart=>exact⟨0,by omega,rfl,Own.nil _ _ _ _,Below.refl _ _⟩
  case round=>
   obtain⟨k,hk,rfl,own,fw⟩:=hrel
   have szr:=fw.size
   have hln:=HNM.out k
   rcases(show k=0∨k=1∨k=2∨k=3 by omega)with rfl|rfl|rfl|rfl
   ·have hix:=Tryz.nx0 e n m
    have hwr:=wS e (by omega) (by omega)
    go_wp2_with fail
    refine(fJ _ _ e _ own.is (by omega) (by omega) (by omega)).mono ?_
    rintro E w4 ⟨v4,rfl,bf,aM⟩
    have dA:Own .u8 5 w.heap.size w4 v4 (nmb e n m 1):=by simpa[nmb]using bf.bB (base':=w.heap.size) (by omega)
    have bn:=fw.trans (aM.mono (by omega))
    clear own bf aM
    go_wp2
    go_roundw
    case rel=>exact⟨1,by omega,rfl,dA,bn⟩
    case measure=>simp[intOf]
   ·have hix:=Tryz.nx1 e n m
    have hwr:=wS n (by omega) (by omega)
    go_wp2_with fail
    refine(fJ _ _ n _ own.is (by omega) (by omega) (by omega)).mono ?_
    rintro E w4 ⟨v4,rfl,bf,aM⟩
    have dA:Own .u8 5 w.heap.size w4 v4 (nmb e n m 2):=bf.bB (base':=w.heap.size) (by omega)
    have bn:=fw.trans (aM.mono (by omega))
    clear own bf aM
    go_wp2
    go_roundw
    case rel=>exact⟨2,by omega,rfl,dA,bn⟩
    case measure=>simp[intOf]
   ·have hix:=Tryz.nx2 e n m
    have hwr:=wS m (by omega) (by omega)
    go_wp2_with fail
    refine(fJ _ _ m _ own.is (by omega) (by omega) (by omega)).mono ?_
    rintro E w4 ⟨v4,rfl,bf,aM⟩
    have dA:Own .u8 5 w.heap.size w4 v4 (nmb e n m 3):=by simpa[nmb]using bf.bB (base':=w.heap.size) (by omega)
    have bn:=fw.trans (aM.mono (by omega))
    clear own bf aM
    go_wp2
    go_roundw
    case rel=>exact⟨3,by omega,rfl,dA,bn⟩
    case measure=>simp[intOf]
   ·have x2:=(fw.cell (p:=⟨w.heap.size,2,none⟩) (show w.heap.size<w2.heap.size by omega)).trans d2
    have aou:=aO.trans (fw.mono aO.size)
    have hln3:=hln
    clear d0 d1 d2 fw aO hln
    go_wp2
    go_loopw [5,36] (fun bb kk ws=>∃k:Nat,k≤m∧kk=.int .i64 k∧Own .u8 5 w.heap.size ws bb (nmb e n m 3++Rn.iL (l.take k))∧Below w.heap.size w ws) (fun _ kk _=>m-(intOf kk).toNat)
    case atStart=>exact⟨0,by omega,rfl,by simpa[Rn.iL]using own,aou⟩
    case round=>
     obtain⟨k,hk,rfl,ae3,aG⟩:=hrel
     have sz:=aG.size
     by_cases hlt:k<m
     ·obtain⟨o,ho⟩:∃o,l[k]? =some o:=⟨l[k]'(by have:=HN.out;omega),by rw[List.getElem?_eq_getElem]⟩
      obtain⟨b1,o1,cq,jo,_,_,hB,hcell⟩:=pI.out (by omega)
      simp only[Value.slice.injEq,true_and]at jo
      obtain⟨rfl,rfl⟩:=jo
      obtain⟨c0,c1,c2⟩:=hcell k o ho
      have d0:=(aG.cell (p:=⟨b1,o1+k*3,none⟩) hB).trans c0
      have d1:=(aG.cell (p:=⟨b1,o1+k*3+1,none⟩) hB).trans c1
      have d2:=(aG.cell (p:=⟨b1,o1+k*3+2,none⟩) hB).trans c2
      have HO:=hide ho
      clear c0 c1 c2 ho hcell
      have hlt':(k:Int)<m:=by omega
      obtain⟨hk1,hv1⟩:=HF.out o (List.mem_of_getElem? HO.out)
      obtain⟨W1,hW1,szw,rZ,B1⟩:=ak wr #[.bool o.p,.string o.k,.string o.v] 92
      have e0:=ai B1 0 rfl
      have e1:=ai B1 1 rfl
      have e2:=ai B1 2 rfl
      have b01:Below w.heap.size w W1:=aG.trans (rZ.mono sz)
      have aZ:=ae3.below rZ
      have hoc:o.c=0:=Rn.vz HZ.out.2.2.2.2 o (List.mem_of_getElem? HO.out)
      clear B1 rZ aG ae3
      go_wp2_with fail
      refine(apy (.slice none 0 0) [] o.p o.k o.v _ (Is.nil _ _) (by simp) hk1 hv1).mono ?_
      rintro E w5 ⟨v5,rfl,dA,bn⟩
      have hok:Om.chk o.p o.k.data.toList o.v.data.toList=0:=hoc
      rw[Om.ahc hok,List.nil_append]at dA
      rw[hok]
      have fZ:=aZ.below bn
      have qx:Below w.heap.size w w5:=b01.trans (bn.mono b01.size)
      have hz5:=qx.size
      have hle1:(Om.dN o.p o.k.data.toList o.v.data.toList).length≤51:=Om.uD hok
      have hle2:(Rn.iL (l.take k)).length≤51*1024:=by
       have:=Rn.aga (l:=l.take k) fun q hq=>Rn.vz HZ.out.2.2.2.2 q (List.mem_of_mem_take hq)
       rw[List.length_take]at this
       omega
      have is5:=dA.is
      have hlen:((nmb e n m 3++Rn.iL (l.take k)).length+(Om.dN o.p o.k.data.toList o.v.data.toList).length)*1≤150000000000000:=by
       rw[List.length_append]
       omega
      clear aZ dA bn b01 e0 e1 e2 d0 d1 d2 hok hoc
      go_wp2_with (at_builtin;refine cK rfl (.tmp 45) (.tmp 46) 79 rfl .u8 5 w.heap.size 1 Tryz.underlying79 Tryz.info5 (by decide) _ _ rfl fZ _ _ rfl is5 hlen hz5 ?_)
      rintro v7 w7 jV jc _
      have oL:Own .u8 5 w.heap.size w7 v7 (nmb e n m 3++Rn.iL (l.take (k+1))):=by
       rw[apx HO.out]
       exact jV
      have lF:=qx.trans jc
      clear fZ jV is5 jc qx
      go_wp2
      go_roundw
      case rel=>exact⟨v7,_,_,_,.int .i64 ((k:Int)+1),_,_,_,_,_,_,_,_,_,_,_,_,⟨k+1,by omega,by go_num,oL,lF⟩,rfl⟩
      case measure=>simp[intOf];omega
     ·have hlt':¬(k:Int)<m:=by omega
      have OW:Hid (Own .u8 5 w.heap.size wr u5 (Rn.out e n l)):=hide (by
       rw[Rn.jh HA.out,←ass,HN.out]
       rw[List.take_of_length_le (by have:=HN.out;omega)]at ae3
       exact ae3)
      clear ae3
      go_wp2
      go_ret2
      exact⟨_,rfl,OW.out,aG⟩
 ·have hne:(ch !=0)=true:=by simp[h0]
  have HO:Hid (Rn.out e n l=[]):=hide (Rn.nV (by rw[HA.out];exact h0))
  go_wp2
  go_ret2
  exact⟨_,rfl,by rw[HO.out];exact Own.nil _ _ _ _,aO⟩
end Go.Proofs.YtjemlgdkjilnoaaGreatDoor
namespace Go.Proofs.YtjemlgdkjilnoaaGreatDoor
open Go.RowKit
open Bm (Ov)
set_option linter.unusedVariables false
theorem Tryz.avJ:Tryz.prog.underlying 79=some (.slice (Tryz.prog.elem 79)):=by kernel_rfl
theorem Tryz.asU (wx:World):(sizeOf (Tryz.prog.elem 79)).run Tryz.prog wx=.ok 1 wx:=by kernel_rfl
theorem arH {V:World}{R:Nat}{t:TypeId}{cs:Array Value}(hR:V.heap[R]? =some (.cells cs t (0,0)))(j:Nat)(u:Value):
  ∃V',V.setCell ⟨R,j,none⟩ u=V'∧V'.heap[R]? =some (.cells (cs.setIfInBounds j u) t (0,0))∧V.grownBy V' (some R)∧V.frozen? ⟨R,j,none⟩=false:=
 ⟨_,rfl,aI hR j u,aB _ _ _,aC hR j⟩
def Nr (bs:List Int) (x y m k a:Nat):Prop:=match k with
 |0=>a=0
 |1=>Vm.enc x<+:bs∧a=Vm.sz x∧x≤1048576
 |2=>Vm.enc x<+:bs∧Vm.enc y<+:bs.drop (Vm.sz x)∧a=Vm.sz x+Vm.sz y∧x≤1048576∧y≤1048576
 |_=>Vm.enc x<+:bs∧Vm.enc y<+:bs.drop (Vm.sz x)∧Vm.enc m<+:bs.drop (Vm.sz x+Vm.sz y)∧a=Vm.sz x+Vm.sz y+Vm.sz m∧x≤1048576∧y≤1048576∧m≤1048576
structure RdO (bs:List Int) (w wr:World) (x y m a:Nat) (v:Value) (l:List Ov):Prop where
 blk:wr.heap[w.heap.size]? =some (.cells #[.int .i64 x,.int .i64 y,v] 215 (0,0))
 own:bz 92 (w.heap.size+2) wr v l
 aG:Below w.heap.size w wr
 sz:w.heap.size+2≤wr.heap.size
 nr:Nr bs x y m 3 (Vm.sz x+Vm.sz y+Vm.sz m)
 iL:Rn.iL l<+:bs.drop (Vm.sz x+Vm.sz y+Vm.sz m)
 ok:∀o∈l,o.c=0
 a:a=Vm.sz x+Vm.sz y+Vm.sz m+(Rn.iL l).length
end Go.Proofs.YtjemlgdkjilnoaaGreatDoor
namespace Go.Proofs.YtjemlgdkjilnoaaGreatDoor
open Go.RowKit
set_option linter.unusedVariables false
theorem afe {V:World}{p q:Nat}{t:TypeId}{off:Bool}{y:Pm.Pg}{vw vr vs:Value}{en:Int}(hP:V.heap[p]? =some (.cells (eD q off y vw en vr vs) t (0,0)))(x:Pm.Pg):
  ∃V',((((((V.setCell ⟨p,2,none⟩ (.int .i64 x.e)).setCell ⟨p,3,none⟩ (.int .u8 x.r)).setCell ⟨p,4,none⟩ (.int .i64 x.a)).setCell ⟨p,5,none⟩ (.int .u8 x.p)).setCell ⟨p,6,none⟩ (.int .i64 x.f)).setCell ⟨p,7,none⟩ (.int .i64 x.b))=V'∧V'.heap[p]? =some (.cells (eD q off x vw en vr vs) t (0,0))∧V.grownBy V' (some p)∧∀j,V.frozen? ⟨p,j,none⟩=false:=by
 have q0:(V.setCell ⟨p,2,none⟩ (.int .i64 x.e)).heap[p]? =some (.cells #[.pointer (some ⟨q,0,none⟩),.bool off,.int .i64 x.e,.int .u8 y.r,.int .i64 y.a,.int .u8 y.p,.int .i64 y.f,.int .i64 y.b,vw,.int .i64 en,.slice none 0 0,vr,vs] t (0,0)):=aI hP 2 (.int .i64 x.e)
 have q1:((V.setCell ⟨p,2,none⟩ (.int .i64 x.e)).setCell ⟨p,3,none⟩ (.int .u8 x.r)).heap[p]? =some (.cells #[.pointer (some ⟨q,0,none⟩),.bool off,.int .i64 x.e,.int .u8 x.r,.int .i64 y.a,.int .u8 y.p,.int .i64 y.f,.int .i64 y.b,vw,.int .i64 en,.slice none 0 0,vr,vs] t (0,0)):=aI q0 3 (.int .u8 x.r)
 have q2:(((V.setCell ⟨p,2,none⟩ (.int .i64 x.e)).setCell ⟨p,3,none⟩ (.int .u8 x.r)).setCell ⟨p,4,none⟩ (.int .i64 x.a)).heap[p]? =some (.cells #[.pointer (some ⟨q,0,none⟩),.bool off,.int .i64 x.e,.int .u8 x.r,.int .i64 x.a,.int .u8 y.p,.int .i64 y.f,.int .i64 y.b,vw,.int .i64 en,.slice none 0 0,vr,vs] t (0,0)):=aI q1 4 (.int .i64 x.a)
 have q3:((((V.setCell ⟨p,2,none⟩ (.int .i64 x.e)).setCell ⟨p,3,none⟩ (.int .u8 x.r)).setCell ⟨p,4,none⟩ (.int .i64 x.a)).setCell ⟨p,5,none⟩ (.int .u8 x.p)).heap[p]? =some (.cells #[.pointer (some ⟨q,0,none⟩),.bool off,.int .i64 x.e,.int .u8 x.r,.int .i64 x.a,.int .u8 x.p,.int .i64 y.f,.int .i64 y.b,vw,.int .i64 en,.slice none 0 0,vr,vs] t (0,0)):=aI q2 5 (.int .u8 x.p)
 have q4:(((((V.setCell ⟨p,2,none⟩ (.int .i64 x.e)).setCell ⟨p,3,none⟩ (.int .u8 x.r)).setCell ⟨p,4,none⟩ (.int .i64 x.a)).setCell ⟨p,5,none⟩ (.int .u8 x.p)).setCell ⟨p,6,none⟩ (.int .i64 x.f)).heap[p]? =some (.cells #[.pointer (some ⟨q,0,none⟩),.bool off,.int .i64 x.e,.int .u8 x.r,.int .i64 x.a,.int .u8 x.p,.int .i64 x.f,.int .i64 y.b,vw,.int .i64 en,.slice none 0 0,vr,vs] t (0,0)):=aI q3 6 (.int .i64 x.f)
 have q5:((((((V.setCell ⟨p,2,none⟩ (.int .i64 x.e)).setCell ⟨p,3,none⟩ (.int .u8 x.r)).setCell ⟨p,4,none⟩ (.int .i64 x.a)).setCell ⟨p,5,none⟩ (.int .u8 x.p)).setCell ⟨p,6,none⟩ (.int .i64 x.f)).setCell ⟨p,7,none⟩ (.int .i64 x.b)).heap[p]? =some (.cells #[.pointer (some ⟨q,0,none⟩),.bool off,.int .i64 x.e,.int .u8 x.r,.int .i64 x.a,.int .u8 x.p,.int .i64 x.f,.int .i64 x.b,vw,.int .i64 en,.slice none 0 0,vr,vs] t (0,0)):=aI q4 7 (.int .i64 x.b)
 exact⟨_,rfl,q5,aH (aH (aH (aH (aH (aB V ⟨p,2,none⟩ (.int .i64 x.e)) (aB _ ⟨p,3,none⟩ (.int .u8 x.r))) (aB _ ⟨p,4,none⟩ (.int .i64 x.a))) (aB _ ⟨p,5,none⟩ (.int .u8 x.p))) (aB _ ⟨p,6,none⟩ (.int .i64 x.f))) (aB _ ⟨p,7,none⟩ (.int .i64 x.b)),aC hP⟩
theorem rD (p q:Nat)(w:World)(hc:w.cell? ⟨p,0,none⟩=some (.pointer (some ⟨q,0,none⟩))):
  Calls Tryz.prog 47 #[.pointer (some ⟨p,0,none⟩)] w fun E w'=>E=.returned (.bool true)∧w=w':=by
 go_enter Tryz.func47,Tryz.ntmps47
 go_wp2
 go_ret
 exact⟨rfl,rfl⟩
theorem ann (v:Value)(w:World)(h:v=.pointer none∨∃p,v=.pointer (some ⟨p,0,none⟩)∧w.cell? ⟨p,0,none⟩=some (.pointer none)):
  Calls Tryz.prog 47 #[v] w fun E w'=>E=.returned (.bool false)∧w=w':=by
 rcases h with rfl|⟨p,rfl,hc⟩
 ·go_enter Tryz.func47,Tryz.ntmps47
  go_wp2
  go_ret
  exact⟨rfl,rfl⟩
 ·go_enter Tryz.func47,Tryz.ntmps47
  go_wp2
  go_ret
  exact⟨rfl,rfl⟩
theorem abe (p q:Nat)(F:Nat→Prop)(w:World)(st:Dm.Ds)(off:Bool)(h:Pk q F w st)(h0:w.cell? ⟨p,0,none⟩=some (.pointer (some ⟨q,0,none⟩)))(h1:w.cell? ⟨p,1,none⟩=some (.bool off)):
  Calls Tryz.prog 58 #[.pointer (some ⟨p,0,none⟩)] w fun E w'=>E=.returned (.int .i64 (if (off|| !st.on)=true then 6 else 0))∧w=w':=by
 have HM:=hide (rD p q w h0)
 have HO:=hide (afl q F w st h)
 clear h
 generalize st.on=on at*
 cases off
 ·cases on
  all_goals
   simp only[Bool.false_or,Bool.not_true,Bool.not_false,if_true,Bool.false_eq_true,if_false]
   go_enter Tryz.func58,Tryz.ntmps58
   go_wp2_with fail
   refine HM.out.mono ?_
   rintro E w1 ⟨rfl,rfl⟩
   clear HM
   go_wp2_with fail
   refine HO.out.mono ?_
   rintro E w1 ⟨rfl,rfl⟩
   clear HO
   go_wp2
   go_ret
   exact⟨rfl,rfl⟩
 ·simp only[Bool.true_or,if_true]
  go_enter Tryz.func58,Tryz.ntmps58
  go_wp2_with fail
  refine HM.out.mono ?_
  rintro E w1 ⟨rfl,rfl⟩
  clear HM HO
  go_wp2
  go_ret
  exact⟨rfl,rfl⟩
theorem acM (v:Value)(p B n:Nat)(fs:List Value)(w:World)(Q:Int→World→Prop)(hn:fs.length=n)(hl:n≤100)(hB:w.heap[B]? =some (.cells fs.toArray 132 (0,0)))(h:Run B Q fs w)(hst:∀W,Q 6 W→v=.pointer (some ⟨p,0,none⟩)∧∃cs b,W.heap[p]? =some (.cells cs 56 (0,0))∧cs[1]? =some (.bool b)):
  Calls Tryz.prog 57 #[v,.slice (some ⟨B,0,none⟩) n n] w fun E w'=>∃e W,E=.returned (.int .i64 e)∧Q e W∧((e≠6∧w'=W)∨(e=6∧w'=W.setCell ⟨p,1,none⟩ (.bool true))):=by
 have HO:=hide (rQ B n fs w Q hn hl hB h)
 have HS:=hide hst
 clear h hB hst hn hl
 go_enter Tryz.func57,Tryz.ntmps57
 go_wp2_with fail
 refine HO.out.mono ?_
 rintro E W ⟨e,rfl,hq⟩
 clear HO
 by_cases he:e=6
 ·subst he
  obtain⟨rfl,cs,b,x1,x2⟩:=HS.out W hq
  have c1:=ai x1 1 x2
  have f1:=aC x1 1
  have HQ:=hide hq
  clear hq x1 x2 HS
  go_wp2
  go_ret
  exact⟨6,W,rfl,HQ.out,.inr ⟨rfl,rfl⟩⟩
 ·have he':(e==6)=false:=by simpa using he
  have HQ:=hide hq
  clear hq HS
  go_wp2
  go_ret
  exact⟨e,_,rfl,HQ.out,.inl ⟨he,rfl⟩⟩
end Go.Proofs.YtjemlgdkjilnoaaGreatDoor
namespace Go.Proofs.YtjemlgdkjilnoaaGreatDoor
open Go.RowKit
open Bm (Ov)
set_option linter.unusedVariables false
theorem uB {l:List Ov}(hu:Tm.Up l){s t:Nat}{o q:Ov}(hs:l[s]? =some o)(ht:l[t]? =some q)(h:s<t):Tm.lt o.k q.k=true:=by
 obtain⟨h1,rfl⟩:=List.getElem?_eq_some_iff.1 hs
 obtain⟨h2,rfl⟩:=List.getElem?_eq_some_iff.1 ht
 exact List.pairwise_iff_getElem.1 hu s t h1 h2 h
end Go.Proofs.YtjemlgdkjilnoaaGreatDoor
namespace Go.Proofs.YtjemlgdkjilnoaaGreatDoor
open Go.RowKit Go.Shelf
set_option linter.unusedVariables false
attribute [local go_sem] Oper.semAt_some
end Go.Proofs.YtjemlgdkjilnoaaGreatDoor
