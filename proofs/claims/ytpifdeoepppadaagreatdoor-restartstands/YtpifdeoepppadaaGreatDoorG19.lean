/- Texts of one layer, one behind the other. -/
import Derived.Test.YtpifdeoepppadaaGreatDoorG12
import Derived.Lib.Bytealg
import Derived.Test.YtpifdeoepppadaaGreatDoorG6
import Derived.RangeFuncNested
import Derived.RangeFuncBound
import Derived.RangeFuncCalls
import Derived.RangeFuncLeaves
import Derived.Shelf.RegionOpen
import Derived.WalkKit
import Derived.OwnWalkIn
import Derived.TacticsInMore
import Derived.LoopNIn
import Derived.LoopIn
import Derived.Lib.Walk
import Derived.Deep.RegionHeld
import Derived.KernelRfl
import Derived.OrdersIn
import Derived.Test.YtpifdeoepppadaaGreatDoorProg
set_option maxRecDepth 100000
set_option maxHeartbeats 8000000
namespace Go.Proofs.YtpifdeoepppadaaGreatDoor
open Go.RowKit
open Bm (Ov)
set_option linter.unusedVariables false
theorem adQ:∀(a b:List UInt8),(Lib.compareBytes a b<0)=(Op.bytesLess a b=true)∧(Lib.compareBytes a b=0↔a=b)
 |[],[]=>by simp[Lib.compareBytes,Op.bytesLess]
 |[],y::b=>by simp[Lib.compareBytes,Op.bytesLess]
 |x::a,[]=>by simp[Lib.compareBytes,Op.bytesLess]
 |x::a,y::b=>by
  obtain⟨h1,h2⟩:=adQ a b
  unfold Lib.compareBytes Op.bytesLess
  by_cases h:x<y
  ·rw[if_pos h]
   have hne:x≠y:=fun e=>by subst e;exact absurd h (UInt8.lt_irrefl x)
   simp[h,hne]
  ·rw[if_neg h]
   by_cases h':y<x
   ·rw[if_pos h']
    have hne:x≠y:=fun e=>by subst e;exact absurd h' (UInt8.lt_irrefl x)
    simp[h,hne]
   ·rw[if_neg h']
    have he:x=y:=by
     rcases UInt8.lt_or_lt_of_ne (a:=x) (b:=y)|>fun f=>Classical.em (x=y)with e|e
     ·exact e
     ·rcases UInt8.lt_or_lt_of_ne e with e|e
      ·exact absurd e h
      ·exact absurd e h'
    subst he
    rw[h1]
    simp[h2]
def qd (a b:ByteArray):Int:=Lib.compareBytes a.data.toList b.data.toList
theorem uH (a b:ByteArray):qd a b<0↔Tm.lt a b=true:=by
 unfold qd Tm.lt
 rw[(adQ _ _).1,Tm.oD]
theorem af6 (a b:ByteArray):qd a b=0↔a=b:=by
 unfold qd
 rw[(adQ _ _).2]
 exact⟨Bm.qA,fun e=>by rw[e]⟩
theorem apj (a b:ByteArray)(w:World):Calls Tryz.prog 233 #[.string a,.string b] w fun E w'=>E=.returned (.int .i64 (qd a b))∧w=w':=by
 unfold qd
 go_enter Tryz.func233,Tryz.ntmps233
 go_wp2
 rw[run_callFunc_extern Tryz.func251 (by kernel_rfl) (by kernel_rfl) (by kernel_rfl) (e:=Extern.BytealgCompare.compare) (by kernel_rfl),Lib.run_compareString]
 simp only[Result.andThen]
 rw[Oper.upon_value]
 go_wp2
 go_ret
 exact⟨rfl,rfl⟩
theorem arH (a b:ByteArray)(w:World):Calls Tryz.prog 220 #[.string a,.string b] w fun E w'=>E=.returned (.int .i64 (qd a b))∧w=w':=by
 go_enter Tryz.func220,Tryz.ntmps220
 go_wp2_with fail
 refine(apj a b w).mono ?_
 rintro E w' ⟨rfl,rfl⟩
 go_wp2
 go_ret
 exact⟨rfl,rfl⟩
theorem aaI (p:Bool)(k v key:ByteArray)(w:World):Calls Tryz.prog 206 #[.agg #[.bool p,.string k,.string v],.string key] w fun E w'=>E=.returned (.int .i64 (qd k key))∧Below w.heap.size w w':=by
 obtain⟨w1,hw1,bH,ax,hB⟩:=ay w #[.bool p,.string k,.string v] 106
 have c1:=ai hB 1 rfl
 clear hB
 go_enter Tryz.func206,Tryz.ntmps206
 go_wp2_with fail
 refine(arH k key _).mono ?_
 rintro E w' ⟨rfl,rfl⟩
 go_wp2
 go_ret
 exact⟨rfl,ax⟩
theorem Tryz.amG:∀args w,(callFunc 206 args).run Tryz.prog w=.ok (.enter 206 args) w:=enters_of Tryz.func206 (by kernel_rfl) rfl
def Bin (l:List Ov) (key:ByteArray) (i j:Nat):Prop:=(∀t o,t<i→l[t]? =some o→qd o.k key<0)∧∀t o,j≤t→l[t]? =some o→0≤qd o.k key
theorem ali {l:List Ov}(hu:Tm.Up l){s t:Nat}{o q:Ov}(hs:l[s]? =some o)(ht:l[t]? =some q)(h:s<t):Tm.lt o.k q.k=true:=by
 obtain⟨h1,rfl⟩:=List.getElem?_eq_some_iff.1 hs
 obtain⟨h2,rfl⟩:=List.getElem?_eq_some_iff.1 ht
 exact List.pairwise_iff_getElem.1 hu s t h1 h2 h
theorem Bin.left {l:List Ov}{key:ByteArray}{i j m:Nat}{o:Ov}(h:Bin l key i j)(hu:Tm.Up l)(hm:l[m]? =some o)(hc:qd o.k key<0):Bin l key (m+1) j:=by
 refine⟨fun t q ht hq=>?_,h.2⟩
 by_cases e:t=m
 ·subst e
  rw[hm]at hq
  cases hq
  exact hc
 ·exact(uH _ _).2 (Tm.lt_trans (ali hu hq hm (by omega)) ((uH _ _).1 hc))
theorem Bin.right {l:List Ov}{key:ByteArray}{i j m:Nat}{o:Ov}(h:Bin l key i j)(hu:Tm.Up l)(hm:l[m]? =some o)(hc:¬qd o.k key<0):Bin l key i m:=by
 refine⟨h.1,fun t q ht hq=>?_⟩
 by_cases e:t=m
 ·subst e
  rw[hm]at hq
  cases hq
  omega
 ·refine Int.not_lt.1 fun hn=>hc ((uH _ _).2 (Tm.lt_trans (ali hu hm hq (by omega)) ((uH _ _).1 hn)))
theorem Bin.found {l:List Ov}{key:ByteArray}{i:Nat}{o:Ov}(hu:Tm.Up l)(ho:l[i]? =some o)(hc:qd o.k key=0):Tm.get l key=some o:=by
 rw[←(af6 _ _).1 hc]
 exact Tm.get_mem hu (List.mem_of_getElem? ho)
theorem Bin.lost {l:List Ov}{key:ByteArray}{i:Nat}(h:Bin l key i i)(hu:Tm.Up l)(hc:∀o,l[i]? =some o→¬qd o.k key=0):Tm.get l key=none:=by
 refine List.find?_eq_none.2 fun x hx=>?_
 obtain⟨t,ht⟩:=List.getElem?_of_mem hx
 simp only[decide_eq_true_eq]
 intro e
 have hz:=(af6 _ _).2 e
 by_cases h1:t<i
 ·have:=h.1 t x h1 ht
  omega
 ·by_cases h2:t=i
  ·subst h2
   exact hc x ht hz
  ·have hlt:i<t:=by omega
   obtain⟨q,hq⟩:∃q,l[i]? =some q:=by
    have:=(List.getElem?_eq_some_iff.1 ht).1
    exact⟨l[i]'(by omega),by rw[List.getElem?_eq_getElem]⟩
   have h3:=h.2 i q (Nat.le_refl _) hq
   have h4:=ali hu hq ht hlt
   rw[e]at h4
   have:=(uH _ _).2 h4
   omega
theorem aiA (v:Value)(l:List Ov)(key:ByteArray)(w:World)(h:dm w v l)(hu:Tm.Up l)(hl:l.length≤1024):
  Calls Tryz.prog 205 #[v,.string key,.func (.func 206) #[] #[]] w fun E w'=>∃(i:Nat) (f:Bool),E=.returned (.tuple #[.int .i64 i,.bool f])∧Below w.heap.size w w'∧Hid ((f=true∧∃o,l[i]? =some o∧Tm.get l key=some o)∨(f=false∧Tm.get l key=none)):=by
 obtain⟨ao,cap,hsv,hcap,_⟩:=h.shape
 have jb:=hide fun(h0:0<l.length)=>h.full h0
 subst hsv
 obtain⟨n,hnn⟩:∃n,l.length=n:=⟨_,rfl⟩
 rw[hnn]at jb hcap hl⊢
 have HN:=hide hnn
 have HU:=hide hu
 have hent:=Tryz.amG
 clear h hnn hu
 go_enter Tryz.func205,Tryz.ntmps205
 go_wp2
 go_loopw [9,10] (fun iv jv wr=>∃(i j:Nat),i≤j∧j≤n∧iv=.int .i64 i∧jv=.int .i64 j∧Hid (Bin l key i j)∧Below w.heap.size w wr) (fun iv jv _=>(intOf jv).toNat-(intOf iv).toNat)
 case atStart=>exact⟨0,n,by omega,by omega,rfl,rfl,hide ⟨fun t o ht=>by omega,fun t o ht ho=>by have:=(List.getElem?_eq_some_iff.1 ho).1;have:=HN.out;omega⟩,Below.refl _ _⟩
 case round=>
  obtain⟨i,j,hij,hjn,rfl,rfl,HB,aF⟩:=hrel
  have sz:=aF.size
  by_cases hlt:i<j
  ·obtain⟨m,hm⟩:∃m,m=(i+j) / 2:=⟨_,rfl⟩
   obtain⟨o,ho⟩:∃o,l[m]? =some o:=⟨l[m]'(by have:=HN.out;omega),by rw[List.getElem?_eq_getElem]⟩
   obtain⟨b1,o1,cq,dL,_,_,hB,hcell⟩:=jb.out (by omega)
   simp only[Value.slice.injEq,true_and]at dL
   obtain⟨rfl,rfl⟩:=dL
   obtain⟨c0,c1,c2⟩:=hcell m o ho
   have d0:=(aF.cell (p:=⟨b1,o1+m*3,none⟩) hB).trans c0
   have d1:=(aF.cell (p:=⟨b1,o1+m*3+1,none⟩) hB).trans c1
   have d2:=(aF.cell (p:=⟨b1,o1+m*3+2,none⟩) hB).trans c2
   rw[hm]at d0 d1 d2
   have HO:=hide ho
   have hlt':(i:Int)<j:=by omega
   have hmn:((i:Int)+j) / 2<n:=by omega
   have HM:=hide hm
   have HC:=hide (fun W=>aaI o.p o.k o.v key W)
   obtain⟨cc,hcc⟩:∃c,qd o.k key=c:=⟨_,rfl⟩
   rw[hcc]at HC
   have uC:=hide hcc
   clear c0 c1 c2 ho hcell hm hcc
   by_cases hneg:cc<0
   ·have HB2:=hide (HB.out.left HU.out HO.out (by rw[uC.out];exact hneg))
    go_wp2_with (go_at_fn 206;refine(HC.out _).mono ?_;rintro E w1 ⟨rfl,ax⟩)
    have aB:=aF.trans (ax.mono sz)
    clear ax
    go_wp2
    go_roundw
    case rel=>exact⟨m+1,j,by have:=HM.out;omega,hjn,by have:=HM.out;congr 1;omega,rfl,HB2,aB⟩
    case measure=>simp[intOf];have:=HM.out;omega
   ·have HB2:=hide (HB.out.right HU.out HO.out (by rw[uC.out];exact hneg))
    go_wp2_with (go_at_fn 206;refine(HC.out _).mono ?_;rintro E w1 ⟨rfl,ax⟩)
    have aB:=aF.trans (ax.mono sz)
    clear ax
    go_wp2
    go_roundw
    case rel=>exact⟨i,m,by have:=HM.out;omega,by have:=HM.out;omega,rfl,by have:=HM.out;congr 1;omega,HB2,aB⟩
    case measure=>simp[intOf];have:=HM.out;omega
  ·obtain rfl:j=i:=by omega
   by_cases hin:j<n
   ·obtain⟨o,ho⟩:∃o,l[j]? =some o:=⟨l[j]'(by have:=HN.out;omega),by rw[List.getElem?_eq_getElem]⟩
    obtain⟨b1,o1,cq,dL,_,_,hB,hcell⟩:=jb.out (by omega)
    simp only[Value.slice.injEq,true_and]at dL
    obtain⟨rfl,rfl⟩:=dL
    obtain⟨c0,c1,c2⟩:=hcell j o ho
    have d0:=(aF.cell (p:=⟨b1,o1+j*3,none⟩) hB).trans c0
    have d1:=(aF.cell (p:=⟨b1,o1+j*3+1,none⟩) hB).trans c1
    have d2:=(aF.cell (p:=⟨b1,o1+j*3+2,none⟩) hB).trans c2
    have HO:=hide ho
    have hin':(j:Int)<n:=by omega
    have HC:=hide (fun W=>aaI o.p o.k o.v key W)
    obtain⟨cc,hcc⟩:∃c,qd o.k key=c:=⟨_,rfl⟩
    rw[hcc]at HC
    have uC:=hide hcc
    clear c0 c1 c2 ho hcell hcc
    obtain⟨f,hf⟩:∃f,(cc==0)=f:=⟨_,rfl⟩
    have FIN:Hid ((f=true∧∃o,l[j]? =some o∧Tm.get l key=some o)∨(f=false∧Tm.get l key=none)):=hide (by
     by_cases hz:cc=0
     ·exact .inl ⟨by rw[←hf];simp[hz],o,HO.out,Bin.found HU.out HO.out (by rw[uC.out];exact hz)⟩
     ·refine .inr ⟨by rw[←hf];simp[hz],HB.out.lost HU.out fun q hq=>?_⟩
      rw[HO.out]at hq
      cases hq
      rw[uC.out]
      exact hz)
    go_wp2_with (go_at_fn 206;refine(HC.out _).mono ?_;rintro E w1 ⟨rfl,ax⟩)
    have aB:=aF.trans (ax.mono sz)
    clear ax
    go_wp2
    go_ret2
    exact⟨j,f,rfl,aB,FIN⟩
   ·have hin':¬(j:Int)<n:=by omega
    have FIN:Hid (((false:Bool)=true∧∃o,l[j]? =some o∧Tm.get l key=some o)∨((false:Bool)=false∧Tm.get l key=none)):=hide (.inr ⟨rfl,HB.out.lost HU.out fun q hq=>by have:=(List.getElem?_eq_some_iff.1 hq).1;have:=HN.out;omega⟩)
    go_wp2
    go_ret2
    have NN:Hid (Tm.get l key=none):=hide (by rcases FIN.out with⟨h,_⟩|⟨_,h⟩;cases h;exact h)
    first|exact⟨j,false,rfl,aF,FIN⟩|exact⟨j,.inl ⟨rfl,aF,NN⟩⟩
end Go.Proofs.YtpifdeoepppadaaGreatDoor
namespace Go.Proofs.YtpifdeoepppadaaGreatDoor
open Go.RowKit Go.Shelf
set_option linter.unusedVariables false
abbrev Nx (L:Nat):={i:Nat // i<L}
def upn (L:Nat):Nat→List (Nx L)
 |0=>[]
 |k+1=>upn L k++(if h:k<L then [⟨k,h⟩]else [])
theorem vY (L k:Nat)(h:k<L):upn L (k+1)=upn L k++[⟨k,h⟩]:=by rw[upn,dif_pos h]
theorem ajj (L:Nat):∀k,k≤L→(upn L k).length=k
 |0,_=>rfl
 |k+1,h=>by
  rw[vY L k (by omega),List.length_append,ajj L k (by omega)]
  rfl
def Kn (S:Nat→Prop) (W W':World):Prop:=∀g,S g→W'.heap[g]? =W.heap[g]?
theorem Kn.trans {S:Nat→Prop}{A B C:World}(h:Kn S A B)(k:Kn S B C):Kn S A C:=fun g hg=>(k g hg).trans (h g hg)
theorem ax6 {S:Nat→Prop}{w:World}(h:∀g,S g→g<w.heap.size)(W:World)(l:Nat)(o o':Obj)(hl:w.heap.size≤l)(_:W.heap[l]? =some o)(_:o.isCells=false)(_:o.isWalk=false):Kn S W (W.putObj l o'):=
 fun g hg=>World.putObj_heap_other (by have:=h g hg;omega)
theorem iP {W W':World}{B:Nat}(h:W'.heap[B]? =W.heap[B]?)(j:Nat):W'.cell? ⟨B,j,none⟩=W.cell? ⟨B,j,none⟩:=World.cell?_of_block (show W'.heap[(⟨B,j,none⟩:Addr).block]? =W.heap[(⟨B,j,none⟩:Addr).block]? from h)
end Go.Proofs.YtpifdeoepppadaaGreatDoor
namespace Go.Proofs.YtpifdeoepppadaaGreatDoor
open Go.RowKit Go.Shelf
set_option linter.unusedVariables false
attribute [local go_sem] Oper.semAt_some
def dn (L:Nat):Nat→List (Nx L)
 |0=>[]
 |k+1=>dn L k++(if h:k<L then [⟨L-1-k,by omega⟩]else [])
theorem uE (L k:Nat)(h:k<L):dn L (k+1)=dn L k++[⟨L-1-k,by omega⟩]:=by rw[dn,dif_pos h]
theorem amO (L:Nat):∀k,k≤L→(dn L k).length=k
 |0,_=>rfl
 |k+1,h=>by
  rw[uE L k (by omega),List.length_append,amO L k (by omega)]
  rfl
def jA (rs:List Cw) (x:Nx rs.length):Cw:=rs[x.1]'x.2
def cvv (c:Cw):Value:=.agg #[.int .i64 c.e,.int .i64 c.n,c.v]
theorem arR (n:Nat)(hn:1≤n)(l B:Nat)(rs:List Cw)(sv:Value)(S:Nat→Prop)(hSB:S B)(hSv:∀b,sv.ownBlock=some b→S b)(sU:rs.length≤1048576)(J Jx:List (Nx rs.length)→World→Prop)(W:World)(hSW:∀g,S g→g<W.heap.size)(hJ:AbidesFrom W.heap.size J)
  (hY:∀pre x W1,J pre W1→pre.length<rs.length→YieldAt Fence.wide (n-1) Tryz.prog l #[.int .i64 x.1,cvv (jA rs x)] W1 fun e W'=>(e=.returned (.bool true)∧J (pre++[x]) W'∧Kn S W1 W')∨(e=.returned (.bool false)∧Jx (pre++[x]) W'))
  (hB:W.cell? ⟨B,0,none⟩=some sv) (his:dZ W sv rs) (h0:J [] W):
  CallsIn Fence.wide n Tryz.prog 219 #[.func (.yield l) #[] #[],.pointer (some ⟨B,0,none⟩)] W fun e W'=>(∃v,e=.returned v)∧((∃xs,xs=dn rs.length rs.length∧J xs W')∨(∃pre,(∃k,k≤rs.length∧pre=dn rs.length k)∧Jx pre W')):=by
 have hro:Fence.wide.round=none:=rfl
 obtain⟨ao,cap,hsv,hcap,hcm⟩:=his.shape
 have jb:=hide fun(h0:0<rs.length)=>his.full h0
 subst hsv
 have uG:=hide hSW
 have HJ0:=hide hJ
 have HY:=hide hY
 have hw0:IntKind.i64.wrap ((rs.length:Int)-1)=(rs.length:Int)-1:=aN _ (by omega) (by omega)
 clear his hSW hJ hY
 refine callsIn_of_wp Tryz.func219 rfl trivial ?_ hro
 simp only[Tryz.ntmps219,List.size_toArray,List.length_cons,List.length_nil,Nat.reduceAdd,Nat.reduceSub,Array.replicate_succ,Array.replicate_zero,List.push_toArray,List.append_toArray,List.nil_append,List.cons_append]
 gi_wp2
 gi_loopw [3] (fun iv wr=>∃(k:Nat) (z:Int),k≤rs.length∧iv=.int .i64 z∧z=(rs.length:Int)-1-k∧Hid (J (dn rs.length k) wr)∧Kn S W wr) (fun iv _=>(intOf iv+1).toNat)
 case atStart=>exact⟨0,(rs.length:Int)-1,Nat.zero_le _,rfl,by omega,h0,fun _ _=>rfl⟩
 case round=>
  obtain⟨k,z,hk,rfl,hz,HJ,hK⟩:=hrel
  have hbx:=(iP (hK B hSB) 0).trans hB
  by_cases hlt:k<rs.length
  ·obtain⟨i,hi⟩:∃i,rs.length-1-k=i:=⟨_,rfl⟩
   have hil:i<rs.length:=by omega
   obtain rfl:z=(i:Int):=by omega
   obtain⟨b,off,cq,dL,_,_,hb,hcell⟩:=jb.out (by omega)
   simp only[Value.slice.injEq,true_and]at dL
   obtain⟨rfl,rfl⟩:=dL
   obtain⟨c,hc⟩:∃c,jA rs ⟨i,hil⟩=c:=⟨_,rfl⟩
   have hc':rs[i]? =some c:=by rw[List.getElem?_eq_getElem hil,←hc];rfl
   obtain⟨c0,c1,c2⟩:=hcell i c hc'
   have hkb:=hK b (hSv b rfl)
   have d0:=(iP hkb (off+i*3)).trans c0
   have d1:=(iP hkb (off+i*3+1)).trans c1
   have d2:=(iP hkb (off+i*3+2)).trans c2
   have HJN:Hid (∀W3,J (dn rs.length k++[⟨i,hil⟩]) W3→J (dn rs.length (k+1)) W3):=hide fun W3 h=>by
    rw[uE _ k hlt]
    subst hi
    exact h
   have HJX:Hid (∀W3,Jx (dn rs.length k++[⟨i,hil⟩]) W3→Jx (dn rs.length (k+1)) W3):=hide fun W3 h=>by
    rw[uE _ k hlt]
    subst hi
    exact h
   obtain⟨fn,tmps,assign,body,hy,hR⟩:=HY.out _ ⟨i,hil⟩ wr HJ.out (by rw[amO _ k hk];omega)
   rw[hc]at hy
   unfold cvv at hy
   have hlt':(i:Int)<rs.length:=by omega
   have hi0:(0:Int)≤(i:Int):=by omega
   have hw1:IntKind.i64.wrap ((i:Int)-1)=(i:Int)-1:=aN _ (by omega) (by omega)
   have HR:=hide hR
   have HK:=hide hK
   have HI:=hide hi
   clear hR hcell hSv hK c0 c1 c2 hkb hc hc' hz hi
   gi_wp2
   refine HR.out.mono ?_
   rintro e W3 (⟨rfl,hJ3,hk3⟩|⟨rfl,hJx3⟩)
   ·have qZ:Hid (J (dn rs.length (k+1)) W3):=hide (HJN.out W3 hJ3)
    have hK4:=HK.out.trans hk3
    clear hJ3
    gi_wp2
    go_roundw
    case rel=>exact⟨k+1,(i:Int)-1,by omega,by go_num,by have:=HI.out;omega,qZ,hK4⟩
    case measure=>simp[intOf]
   ·have qZ:Hid (Jx (dn rs.length (k+1)) W3):=hide (HJX.out W3 hJx3)
    clear hJx3
    gi_wp2
    refine bodyPost_ret (results_none rfl _ _ _) rfl ?_
    exact⟨⟨_,rfl⟩,.inr ⟨_,⟨k+1,by omega,rfl⟩,qZ.out⟩⟩
  ·obtain rfl:k=rs.length:=by omega
   have hz':¬(0:Int)≤z:=by omega
   clear hz
   gi_wp2
   go_end0
   exact⟨⟨_,rfl⟩,.inl HJ.out⟩
theorem aoS (v:Value)(hv:∃a n c,v=.slice a n c)(w:World):Calls Tryz.prog 204 #[v] w fun e w'=>e=.returned (.func (.func 219) #[] #[.pointer (some ⟨w.heap.size,0,none⟩)])∧w'=w.alloc (.cells #[v] 67):=by
 obtain⟨a,n,c,rfl⟩:=hv
 go_enter Tryz.func204,Tryz.ntmps204
 go_wp2
 go_ret
 exact⟨rfl,rfl⟩
def zK (B:Nat) (sv:Value) (g:Nat):Prop:=g=B∨sv.ownBlock=some g
theorem apR (n:Nat)(hn:1≤n)(B:Nat)(rs:List Cw)(sv:Value)(w:World)(hB:w.cell? ⟨B,0,none⟩=some sv)(hlt:∀g,zK B sv g→g<w.heap.size)(his:dZ w sv rs)(sU:rs.length≤1048576):
  SeqStopsK Fence.wide n Tryz.prog 219 #[.pointer (some ⟨B,0,none⟩)] (fun x:Nx rs.length=>#[.int .i64 x.1,cvv (jA rs x)]) (Kn (zK B sv)) (fun xs=>xs=dn rs.length rs.length) (fun pre=>∃k,k≤rs.length∧pre=dn rs.length k) rs.length w:=fun l J Jx W hW hJ hJx hY h0=>
 arR n hn l B rs sv (zK B sv) (.inl rfl) (fun b hb=>.inr hb) sU J Jx W (fun g hg=>Nat.lt_of_lt_of_le (hlt g hg) hW.size) hJ hY ((hW.cell (p:=⟨B,0,none⟩) (hlt B (.inl rfl))).trans hB) (his.below hW) h0
end Go.Proofs.YtpifdeoepppadaaGreatDoor
namespace Go.Proofs.YtpifdeoepppadaaGreatDoor
open Go.RowKit
set_option linter.unusedVariables false
def kX (k:Nat):Code→Array Oper
 |.region id ops _=>if id=k then ops else #[]
 |.seq a b=>if (kX k a).size=0 then kX k b else kX k a
 |.scope a=>kX k a
 |.block _ a=>kX k a
 |.loop a=>kX k a
 |.cond _ a b=>if (kX k a).size=0 then kX k b else kX k a
 |.rangeFunc _ _ a b=>if (kX k a).size=0 then kX k b else kX k a
 |_=>#[]
def au (k:Nat) (f:Func):Array Oper:=match f.body with
 |some c=>kX k c
 |none=>#[]
def aj (n m:Nat):Array Bool:=((List.range n).map (fun j=>m.testBit j)).toArray
section
variable {P:Program} {ops:Array Oper} {Q:Exit→Act→World→Prop} {S:World→Prop} {md:Region.Mode}
def seqW (P:Program) (ops:Array Oper) (Q:Exit→Act→World→Prop) (S:World→Prop):List (Bool×Nat)→Act→World→Prop
 |[],a,w=>Q .normal a w
 |(true,i)::r,a,w=>∃oi v t,ops[i]? =some oi∧oi.dst=some t∧YieldsIf P ops S oi v a∧seqW P ops Q S r (a.put (some t) v) w
 |(false,i)::r,a,w=>wpOp P ops Q i (fun a' w'=>S w'∧seqW P ops Q S r a' w') a w
def Way (md:Region.Mode) (ops:Array Oper):Array Bool→List (Bool×Nat)→Prop
 |L,[]=>Region.ready md ops L=[]
 |L,(true,i)::r=>∃L',(Region.free md ops L i=true∧(Region.ready md ops L).contains i=true∧L.setIfInBounds i true=L')∧Way md ops L' r
 |L,(false,i)::r=>∃L',(Region.ready md ops L=[i]∧L.setIfInBounds i true=L')∧Way md ops L' r
theorem Way.done {L:Array Bool}(h:Region.ready md ops L=[]):Way md ops L []:=h
theorem Way.take {L L':Array Bool}{i:Nat}{r:List (Bool×Nat)}(h:Region.free md ops L i=true∧(Region.ready md ops L).contains i=true∧L.setIfInBounds i true=L')(k:Way md ops L' r):Way md ops L ((true,i)::r):=⟨L',h,k⟩
theorem Way.meet {L L':Array Bool}{i:Nat}{r:List (Bool×Nat)}(h:Region.ready md ops L=[i]∧L.setIfInBounds i true=L')(k:Way md ops L' r):Way md ops L ((false,i)::r):=⟨L',h,k⟩
theorem abf (hs:Region.noSelect ops=true)(hQ:∀c a t v w,Q (.panic c) (Act.put a (some t) v) w→Q (.panic c) a w):∀(l:List (Bool×Nat)) (L:Array Bool) (a:Act) (w:World),Way md ops L l→S w→seqW P ops Q S l a w→wpAnyH P md ops Q S l.length L a w
 |[],L,a,w,hr,hS,h=>⟨hr,h⟩
 |(true,i)::r,L,a,w,⟨L',⟨h1,h2,h3⟩,k⟩,hS,⟨oi,v,t,e1,e0,e2,e3⟩=>wpAnyH_take e1 hs h1 h2 (by rw[e0];exact fun c a w=>hQ c a _ _ w) e2 hS (by rw[h3,e0];exact abf hs hQ r _ _ _ k hS e3)
 |(false,i)::r,L,a,w,⟨L',⟨h1,h3⟩,k⟩,hS,h=>wpAnyH_all h1 (by simp) (fun j hj=>by
   rw[List.mem_singleton.1 hj]
   exact wpOp_mono (fun a' w' h'=>⟨h'.1,by rw[h3];exact abf hs hQ r _ a' w' k h'.1 h'.2⟩) h)
theorem zT {i:Nat}{o:Oper}(h:(ops.toList.drop i).head? =some o):ops[i]? =some o:=by
 rw[List.head?_drop]at h
 simpa using h
theorem iM {i:Nat}{r:List (Bool×Nat)}{a:Act}{w:World}{oi:Oper}{v:Value}{t:Tmp}(hi:(ops.toList.drop i).head? =some oi)(ht:oi.dst=some t)(hw:Region.wanted oi (yielded ops a.tmps)=true)(hy:∀w,S w→(execOp a.eval oi).run P w=.ok (.value v) w)(h:seqW P ops Q S r (a.put (some t) v) w):seqW P ops Q S ((true,i)::r) a w:=⟨oi,v,t,zT hi,ht,.inl ⟨hw,hy⟩,h⟩
theorem aaN {i:Nat}{r:List (Bool×Nat)}{a:Act}{w:World}{o:Oper}(ho:(ops.toList.drop i).head? =some o)(hw:Region.wanted o (yielded ops a.tmps)=true)(h:∀K':Act→World→Prop,Shut (∀a w,S w→seqW P ops Q S r a w→K' a w)→Oper.wp P o a w K' Q):seqW P ops Q S ((false,i)::r) a w:=
 wpOp_step (zT ho) (fun K' hK=>by
  rw[if_pos hw]
  exact h K' (fun a w hS hW=>hK a w ⟨hS,hW⟩))
end
def pln (o:Oper):Bool:=match o.op with
 |.move _=>true
 |.assign _=>true
 |.load _ _=>true
 |.store _ _ _=>true
 |.fieldAddr _ _ _=>true
 |.indexAddr _ _ _=>true
 |_=>false
section
variable {F:Fence} {n:Nat} {P:Program} {ops:Array Oper} {Q:Exit→Act→World→Prop} {S:World→Prop} {md:Region.Mode}
theorem aeM {o:Oper}(h:pln o=true)(w:World)(ρ:Operand→Value):o.about P w ρ=none:=by
 unfold Oper.about
 unfold pln at h
 cases ho:o.op<;>rw[ho]at h<;>first|rfl|cases h
theorem aru {o:Oper}(h:pln o=true){a:Act}{w:World}{K:Act→World→Prop}(hw:Oper.wp P o a w K Q):Oper.wpIn F n P o a w K Q:=by
 refine⟨fun f hf=>(by rw[aeM h]at hf;cases hf),?_⟩
 rw[Oper.semAt_eq _ _ _ (fun c hc=>by unfold pln at h;rw[hc]at h;cases h)]
 unfold Oper.wp at hw
 unfold pln at h
 unfold execOp at hw⊢
 cases ho:o.op<;>rw[ho]at h<;>try (cases h;done)
 all_goals
  simp only[ho,Sem.run_bind,Sem.run_pure]at hw⊢
 ·exact hw
 ·exact hw
 all_goals
  generalize Sem.run P _ w=r at hw⊢
  cases r with
  |ok x w'=>exact hw
  |halt x w'=>cases x<;>exact hw
theorem akm (hL:¬LetsOut Q)(hp:∀(i:Nat) (o:Oper),ops[i]? =some o→pln o=true){i:Nat}{K:Act→World→Prop}{a:Act}{w:World}(h:wpOp P ops Q i K a w):wpOpIn F n P ops Q i K a w:=by
 unfold wpOp at h
 unfold wpOpIn
 cases ho:ops[i]? with
 |none=>rw[ho]at h;exact h
 |some o=>
  rw[ho]at h
  simp only at h⊢
  split
  ·rename_i hw
   rw[if_pos hw]at h
   rcases h with h|h
   ·exact aru (hp i o ho) h
   ·exact absurd h.2 hL
  ·rename_i hw
   rw[if_neg hw]at h
   exact⟨fun f hf=>(by rw[aeM (hp i o ho)]at hf;cases hf),h⟩
theorem aeH (hL:¬LetsOut Q)(hp:∀(i:Nat) (o:Oper),ops[i]? =some o→pln o=true):∀(fuel:Nat) (L:Array Bool) (a:Act) (w:World),wpAny P md ops Q fuel L a w→wpAnyIn F n P md ops Q fuel L a w
 |0,_,_,_,h=>h
 |fuel+1,L,a,w,h=>⟨h.1,fun i hi=>wpOpIn_mono (fun a' w' h'=>aeH hL hp fuel _ a' w' h') (akm hL hp (h.2 i hi))⟩
theorem avb (h:ops.toList.all pln=true):∀(i:Nat) (o:Oper),ops[i]? =some o→pln o=true:=fun i o ho=>List.all_eq_true.1 h o (by
 rw[←Array.getElem?_toList]at ho
 exact List.mem_of_getElem? ho)
theorem ahx {id:Nat}{a:Act}{w:World}(hm:P.follows .mixedOrders=true)(hs:Region.noSelect ops=true)(hp:ops.toList.all pln=true)(hL:¬LetsOut Q)(hQ:∀c a t v w,Q (.panic c) (Act.put a (some t) v) w→Q (.panic c) a w)(l:List (Bool×Nat))(hl:l.length=ops.size)(hw:Way .any ops (Array.replicate ops.size false) l)(hS:S w.drew)(h:seqW P ops Q S l a w.drew):(Code.region id ops true).wpIn F n P Q a w:=by
 refine wpIn_region_any hm (aeH hL (avb hp) _ _ _ _ (wpAny_of_held (S:=S) _ _ _ _ ?_))
 have:=abf hs hQ l _ a w.drew hw hS h
 rw[hl]at this
 exact this
end
theorem avo:Region.free .any (au 7 Tryz.f184) (aj 15 0) 0=true∧(Region.ready .any (au 7 Tryz.f184) (aj 15 0)).contains 0=true∧(aj 15 0).setIfInBounds 0 true=aj 15 1:=⟨by kernel_rfl,by kernel_rfl,by kernel_rfl⟩
theorem auT:Region.free .any (au 7 Tryz.f184) (aj 15 1) 1=true∧(Region.ready .any (au 7 Tryz.f184) (aj 15 1)).contains 1=true∧(aj 15 1).setIfInBounds 1 true=aj 15 3:=⟨by kernel_rfl,by kernel_rfl,by kernel_rfl⟩
theorem aus:Region.free .any (au 7 Tryz.f184) (aj 15 3) 2=true∧(Region.ready .any (au 7 Tryz.f184) (aj 15 3)).contains 2=true∧(aj 15 3).setIfInBounds 2 true=aj 15 7:=⟨by kernel_rfl,by kernel_rfl,by kernel_rfl⟩
theorem auS:Region.free .any (au 7 Tryz.f184) (aj 15 7) 3=true∧(Region.ready .any (au 7 Tryz.f184) (aj 15 7)).contains 3=true∧(aj 15 7).setIfInBounds 3 true=aj 15 15:=⟨by kernel_rfl,by kernel_rfl,by kernel_rfl⟩
theorem auU:Region.free .any (au 7 Tryz.f184) (aj 15 15) 4=true∧(Region.ready .any (au 7 Tryz.f184) (aj 15 15)).contains 4=true∧(aj 15 15).setIfInBounds 4 true=aj 15 31:=⟨by kernel_rfl,by kernel_rfl,by kernel_rfl⟩
theorem aub:Region.free .any (au 7 Tryz.f184) (aj 15 31) 5=true∧(Region.ready .any (au 7 Tryz.f184) (aj 15 31)).contains 5=true∧(aj 15 31).setIfInBounds 5 true=aj 15 63:=⟨by kernel_rfl,by kernel_rfl,by kernel_rfl⟩
theorem au8:Region.free .any (au 7 Tryz.f184) (aj 15 63) 6=true∧(Region.ready .any (au 7 Tryz.f184) (aj 15 63)).contains 6=true∧(aj 15 63).setIfInBounds 6 true=aj 15 127:=⟨by kernel_rfl,by kernel_rfl,by kernel_rfl⟩
theorem atY:Region.free .any (au 7 Tryz.f184) (aj 15 127) 7=true∧(Region.ready .any (au 7 Tryz.f184) (aj 15 127)).contains 7=true∧(aj 15 127).setIfInBounds 7 true=aj 15 255:=⟨by kernel_rfl,by kernel_rfl,by kernel_rfl⟩
theorem atX:Region.free .any (au 7 Tryz.f184) (aj 15 255) 8=true∧(Region.ready .any (au 7 Tryz.f184) (aj 15 255)).contains 8=true∧(aj 15 255).setIfInBounds 8 true=aj 15 511:=⟨by kernel_rfl,by kernel_rfl,by kernel_rfl⟩
theorem auB:Region.free .any (au 7 Tryz.f184) (aj 15 511) 9=true∧(Region.ready .any (au 7 Tryz.f184) (aj 15 511)).contains 9=true∧(aj 15 511).setIfInBounds 9 true=aj 15 1023:=⟨by kernel_rfl,by kernel_rfl,by kernel_rfl⟩
theorem apx:Region.free .any (au 7 Tryz.f184) (aj 15 1023) 10=true∧(Region.ready .any (au 7 Tryz.f184) (aj 15 1023)).contains 10=true∧(aj 15 1023).setIfInBounds 10 true=aj 15 2047:=⟨by kernel_rfl,by kernel_rfl,by kernel_rfl⟩
theorem arT:Region.free .any (au 7 Tryz.f184) (aj 15 2047) 11=true∧(Region.ready .any (au 7 Tryz.f184) (aj 15 2047)).contains 11=true∧(aj 15 2047).setIfInBounds 11 true=aj 15 4095:=⟨by kernel_rfl,by kernel_rfl,by kernel_rfl⟩
theorem arz:Region.ready .any (au 7 Tryz.f184) (aj 15 4095)=[12]∧(aj 15 4095).setIfInBounds 12 true=aj 15 8191:=⟨by kernel_rfl,by kernel_rfl⟩
theorem aqp:Region.ready .any (au 7 Tryz.f184) (aj 15 8191)=[13]∧(aj 15 8191).setIfInBounds 13 true=aj 15 16383:=⟨by kernel_rfl,by kernel_rfl⟩
theorem arB:Region.ready .any (au 7 Tryz.f184) (aj 15 16383)=[14]∧(aj 15 16383).setIfInBounds 14 true=aj 15 32767:=⟨by kernel_rfl,by kernel_rfl⟩
def zN:List (Bool×Nat):=[(true,0),(true,1),(true,2),(true,3),(true,4),(true,5),(true,6),(true,7),(true,8),(true,9),(true,10),(true,11),(false,12),(false,13),(false,14)]
theorem auC:Region.ready .any (au 7 Tryz.f184) (aj 15 32767)=[]:=by kernel_rfl
theorem aur:Way .any (au 7 Tryz.f184) (Array.replicate (au 7 Tryz.f184).size false) zN:=by
 have e:Array.replicate (au 7 Tryz.f184).size false=aj 15 0:=by kernel_rfl
 rw[e]
 unfold zN
 refine .take avo ?_
 refine .take auT ?_
 refine .take aus ?_
 refine .take auS ?_
 refine .take auU ?_
 refine .take aub ?_
 refine .take au8 ?_
 refine .take atY ?_
 refine .take atX ?_
 refine .take auB ?_
 refine .take apx ?_
 refine .take arT ?_
 refine .meet arz ?_
 refine .meet aqp ?_
 refine .meet arB ?_
 exact .done auC
end Go.Proofs.YtpifdeoepppadaaGreatDoor
