/- Texts of one layer, one behind the other. -/
import Derived.Test.YtlmkaljjocflmaaGreatDoorAH8
import Derived.Lib.Bytealg
import Derived.Test.YtlmkaljjocflmaaGreatDoorAZRg
import Derived.Test.YtlmkaljjocflmaaGreatDoorAH27
import Derived.Test.YtlmkaljjocflmaaGreatDoorAH1
import Derived.Deep.RegionHeld3
import Derived.Lib.SliceRun
import Derived.Test.YtlmkaljjocflmaaGreatDoorAH6
set_option maxRecDepth 100000
set_option maxHeartbeats 8000000
namespace Go.Proofs.YtlmkaljjocflmaaGreatDoor
open Go.RowKit
open Bm (Ov)
set_option linter.unusedVariables false
theorem abE:∀(a b:List UInt8),(Lib.compareBytes a b<0)=(Op.bytesLess a b=true)∧(Lib.compareBytes a b=0↔a=b)
 |[],[]=>by simp[Lib.compareBytes,Op.bytesLess]
 |[],y::b=>by simp[Lib.compareBytes,Op.bytesLess]
 |x::a,[]=>by simp[Lib.compareBytes,Op.bytesLess]
 |x::a,y::b=>by
  obtain⟨h1,h2⟩:=abE a b
  unfold Lib.compareBytes Op.bytesLess
  by_cases h:x<y
  ·rw[if_pos h]
   have hne:x≠y:=fun e=>by subst e;exact absurd h (UInt8.lt_irrefl x)
   simp[h,hne]
  ·rw[if_neg h]
   by_cases h':y<x
   ·rw[if_pos h']
    have hne:x≠y:=fun e=>by subst e;exact absurd h' (UInt8.lt_irrefl x)
    simp[h,hne]
   ·rw[if_neg h']
    have he:x=y:=by
     rcases UInt8.lt_or_lt_of_ne (a:=x) (b:=y)|>fun f=>Classical.em (x=y)with e|e
     ·exact e
     ·rcases UInt8.lt_or_lt_of_ne e with e|e
      ·exact absurd e h
      ·exact absurd e h'
    subst he
    rw[h1]
    simp[h2]
def nU (a b:ByteArray):Int:=Lib.compareBytes a.data.toList b.data.toList
theorem rW (a b:ByteArray):nU a b<0↔Tm.lt a b=true:=by
 unfold nU Tm.lt
 rw[(abE _ _).1,Tm.qQ]
theorem ad5 (a b:ByteArray):nU a b=0↔a=b:=by
 unfold nU
 rw[(abE _ _).2]
 exact⟨Bm.oh,fun e=>by rw[e]⟩
theorem anQ (a b:ByteArray)(w:World):Calls Tryz.prog 344 #[.string a,.string b] w fun E w'=>E=.returned (.int .i64 (nU a b))∧w=w':=by
 unfold nU
 go_enter Tryz.func344,Tryz.ntmps344
 go_wp2
 rw[run_callFunc_extern Tryz.func350 (by kernel_rfl) (by kernel_rfl) (by kernel_rfl) (e:=Extern.BytealgCompare.compare) (by kernel_rfl),Lib.run_compareString]
 simp only[Result.andThen]
 rw[Oper.upon_value]
 go_wp2
 go_ret
 exact⟨rfl,rfl⟩
theorem aoE (a b:ByteArray)(w:World):Calls Tryz.prog 334 #[.string a,.string b] w fun E w'=>E=.returned (.int .i64 (nU a b))∧w=w':=by
 go_enter Tryz.func334,Tryz.ntmps334
 go_wp2_with fail
 refine(anQ a b w).mono ?_
 rintro E w' ⟨rfl,rfl⟩
 go_wp2
 go_ret
 exact⟨rfl,rfl⟩
theorem xU (p:Bool)(k v key:ByteArray)(w:World):Calls Tryz.prog 315 #[.agg #[.bool p,.string k,.string v],.string key] w fun E w'=>E=.returned (.int .i64 (nU k key))∧Below w.heap.size w w':=by
 obtain⟨w1,hw1,aT,ak,hB⟩:=au w #[.bool p,.string k,.string v] 71
 have c1:=ai hB 1 rfl
 clear hB
 go_enter Tryz.func315,Tryz.ntmps315
 go_wp2_with fail
 refine(aoE k key _).mono ?_
 rintro E w' ⟨rfl,rfl⟩
 go_wp2
 go_ret
 exact⟨rfl,ak⟩
theorem Tryz.ak6:∀args w,(callFunc 315 args).run Tryz.prog w=.ok (.enter 315 args) w:=enters_of Tryz.func315 (by kernel_rfl) rfl
def Bin (l:List Ov) (key:ByteArray) (i j:Nat):Prop:=(∀t o,t<i→l[t]? =some o→nU o.k key<0)∧∀t o,j≤t→l[t]? =some o→0≤nU o.k key
theorem aaB {l:List Ov}(hu:Tm.Up l){s t:Nat}{o q:Ov}(hs:l[s]? =some o)(ht:l[t]? =some q)(h:s<t):Tm.lt o.k q.k=true:=by
 obtain⟨h1,rfl⟩:=List.getElem?_eq_some_iff.1 hs
 obtain⟨h2,rfl⟩:=List.getElem?_eq_some_iff.1 ht
 exact List.pairwise_iff_getElem.1 hu s t h1 h2 h
theorem Bin.left {l:List Ov}{key:ByteArray}{i j m:Nat}{o:Ov}(h:Bin l key i j)(hu:Tm.Up l)(hm:l[m]? =some o)(hc:nU o.k key<0):Bin l key (m+1) j:=by
 refine⟨fun t q ht hq=>?_,h.2⟩
 by_cases e:t=m
 ·subst e
  rw[hm]at hq
  cases hq
  exact hc
 ·exact(rW _ _).2 (Tm.lt_trans (aaB hu hq hm (by omega)) ((rW _ _).1 hc))
theorem Bin.right {l:List Ov}{key:ByteArray}{i j m:Nat}{o:Ov}(h:Bin l key i j)(hu:Tm.Up l)(hm:l[m]? =some o)(hc:¬nU o.k key<0):Bin l key i m:=by
 refine⟨h.1,fun t q ht hq=>?_⟩
 by_cases e:t=m
 ·subst e
  rw[hm]at hq
  cases hq
  omega
 ·refine Int.not_lt.1 fun hn=>hc ((rW _ _).2 (Tm.lt_trans (aaB hu hm hq (by omega)) ((rW _ _).1 hn)))
theorem Bin.found {l:List Ov}{key:ByteArray}{i:Nat}{o:Ov}(hu:Tm.Up l)(ho:l[i]? =some o)(hc:nU o.k key=0):Tm.get l key=some o:=by
 rw[←(ad5 _ _).1 hc]
 exact Tm.get_mem hu (List.mem_of_getElem? ho)
theorem Bin.lost {l:List Ov}{key:ByteArray}{i:Nat}(h:Bin l key i i)(hu:Tm.Up l)(hc:∀o,l[i]? =some o→¬nU o.k key=0):Tm.get l key=none:=by
 refine List.find?_eq_none.2 fun x hx=>?_
 obtain⟨t,ht⟩:=List.getElem?_of_mem hx
 simp only[decide_eq_true_eq]
 intro e
 have hz:=(ad5 _ _).2 e
 by_cases h1:t<i
 ·have:=h.1 t x h1 ht
  omega
 ·by_cases h2:t=i
  ·subst h2
   exact hc x ht hz
  ·have hlt:i<t:=by omega
   obtain⟨q,hq⟩:∃q,l[i]? =some q:=by
    have:=(List.getElem?_eq_some_iff.1 ht).1
    exact⟨l[i]'(by omega),by rw[List.getElem?_eq_getElem]⟩
   have h3:=h.2 i q (Nat.le_refl _) hq
   have h4:=aaB hu hq ht hlt
   rw[e]at h4
   have:=(rW _ _).2 h4
   omega
theorem afU (v:Value)(l:List Ov)(key:ByteArray)(w:World)(h:dz w v l)(hu:Tm.Up l)(hl:l.length≤1024):
  Calls Tryz.prog 314 #[v,.string key,.func (.func 315) #[] #[]] w fun E w'=>∃(i:Nat) (f:Bool),E=.returned (.tuple #[.int .i64 i,.bool f])∧Below w.heap.size w w'∧Hid ((f=true∧∃o,l[i]? =some o∧Tm.get l key=some o)∨(f=false∧Tm.get l key=none)):=by
 obtain⟨ao,cap,hsv,hcap,_⟩:=h.shape
 have jd:=hide fun(h0:0<l.length)=>h.full h0
 subst hsv
 obtain⟨n,hnn⟩:∃n,l.length=n:=⟨_,rfl⟩
 rw[hnn]at jd hcap hl⊢
 have HN:=hide hnn
 have HU:=hide hu
 have hent:=Tryz.ak6
 clear h hnn hu
 go_enter Tryz.func314,Tryz.ntmps314
 go_wp2
 go_loopw [9,10] (fun iv jv wr=>∃(i j:Nat),i≤j∧j≤n∧iv=.int .i64 i∧jv=.int .i64 j∧Hid (Bin l key i j)∧Below w.heap.size w wr) (fun iv jv _=>(intOf jv).toNat-(intOf iv).toNat)
 case atStart=>exact⟨0,n,by omega,by omega,rfl,rfl,hide ⟨fun t o ht=>by omega,fun t o ht ho=>by have:=(List.getElem?_eq_some_iff.1 ho).1;have:=HN.out;omega⟩,Below.refl _ _⟩
 case round=>
  obtain⟨i,j,hij,hjn,rfl,rfl,HB,aK⟩:=hrel
  have sz:=aK.size
  by_cases hlt:i<j
  ·obtain⟨m,hm⟩:∃m,m=(i+j) / 2:=⟨_,rfl⟩
   obtain⟨o,ho⟩:∃o,l[m]? =some o:=⟨l[m]'(by have:=HN.out;omega),by rw[List.getElem?_eq_getElem]⟩
   obtain⟨b1,o1,cq,fH,_,_,hB,hcell⟩:=jd.out (by omega)
   simp only[Value.slice.injEq,true_and]at fH
   obtain⟨rfl,rfl⟩:=fH
   obtain⟨c0,c1,c2⟩:=hcell m o ho
   have d0:=(aK.cell (p:=⟨b1,o1+m*3,none⟩) hB).trans c0
   have d1:=(aK.cell (p:=⟨b1,o1+m*3+1,none⟩) hB).trans c1
   have d2:=(aK.cell (p:=⟨b1,o1+m*3+2,none⟩) hB).trans c2
   rw[hm]at d0 d1 d2
   have HO:=hide ho
   have hlt':(i:Int)<j:=by omega
   have hmn:((i:Int)+j) / 2<n:=by omega
   have HM:=hide hm
   have HC:=hide (fun W=>xU o.p o.k o.v key W)
   obtain⟨cc,hcc⟩:∃c,nU o.k key=c:=⟨_,rfl⟩
   rw[hcc]at HC
   have nR:=hide hcc
   clear c0 c1 c2 ho hcell hm hcc
   by_cases hneg:cc<0
   ·have HB2:=hide (HB.out.left HU.out HO.out (by rw[nR.out];exact hneg))
    go_wp2_with (go_at_fn 315;refine(HC.out _).mono ?_;rintro E w1 ⟨rfl,ak⟩)
    have az:=aK.trans (ak.mono sz)
    clear ak
    go_wp2
    go_roundw
    case rel=>exact⟨m+1,j,by have:=HM.out;omega,hjn,by have:=HM.out;congr 1;omega,rfl,HB2,az⟩
    case measure=>simp[intOf];have:=HM.out;omega
   ·have HB2:=hide (HB.out.right HU.out HO.out (by rw[nR.out];exact hneg))
    go_wp2_with (go_at_fn 315;refine(HC.out _).mono ?_;rintro E w1 ⟨rfl,ak⟩)
    have az:=aK.trans (ak.mono sz)
    clear ak
    go_wp2
    go_roundw
    case rel=>exact⟨i,m,by have:=HM.out;omega,by have:=HM.out;omega,rfl,by have:=HM.out;congr 1;omega,HB2,az⟩
    case measure=>simp[intOf];have:=HM.out;omega
  ·obtain rfl:j=i:=by omega
   by_cases hin:j<n
   ·obtain⟨o,ho⟩:∃o,l[j]? =some o:=⟨l[j]'(by have:=HN.out;omega),by rw[List.getElem?_eq_getElem]⟩
    obtain⟨b1,o1,cq,fH,_,_,hB,hcell⟩:=jd.out (by omega)
    simp only[Value.slice.injEq,true_and]at fH
    obtain⟨rfl,rfl⟩:=fH
    obtain⟨c0,c1,c2⟩:=hcell j o ho
    have d0:=(aK.cell (p:=⟨b1,o1+j*3,none⟩) hB).trans c0
    have d1:=(aK.cell (p:=⟨b1,o1+j*3+1,none⟩) hB).trans c1
    have d2:=(aK.cell (p:=⟨b1,o1+j*3+2,none⟩) hB).trans c2
    have HO:=hide ho
    have hin':(j:Int)<n:=by omega
    have HC:=hide (fun W=>xU o.p o.k o.v key W)
    obtain⟨cc,hcc⟩:∃c,nU o.k key=c:=⟨_,rfl⟩
    rw[hcc]at HC
    have nR:=hide hcc
    clear c0 c1 c2 ho hcell hcc
    obtain⟨f,hf⟩:∃f,(cc==0)=f:=⟨_,rfl⟩
    have FIN:Hid ((f=true∧∃o,l[j]? =some o∧Tm.get l key=some o)∨(f=false∧Tm.get l key=none)):=hide (by
     by_cases hz:cc=0
     ·exact .inl ⟨by rw[←hf];simp[hz],o,HO.out,Bin.found HU.out HO.out (by rw[nR.out];exact hz)⟩
     ·refine .inr ⟨by rw[←hf];simp[hz],HB.out.lost HU.out fun q hq=>?_⟩
      rw[HO.out]at hq
      cases hq
      rw[nR.out]
      exact hz)
    go_wp2_with (go_at_fn 315;refine(HC.out _).mono ?_;rintro E w1 ⟨rfl,ak⟩)
    have az:=aK.trans (ak.mono sz)
    clear ak
    go_wp2
    go_ret2
    exact⟨j,f,rfl,az,FIN⟩
   ·have hin':¬(j:Int)<n:=by omega
    have FIN:Hid (((false:Bool)=true∧∃o,l[j]? =some o∧Tm.get l key=some o)∨((false:Bool)=false∧Tm.get l key=none)):=hide (.inr ⟨rfl,HB.out.lost HU.out fun q hq=>by have:=(List.getElem?_eq_some_iff.1 hq).1;have:=HN.out;omega⟩)
    go_wp2
    go_ret2
    have NN:Hid (Tm.get l key=none):=hide (by rcases FIN.out with⟨h,_⟩|⟨_,h⟩;cases h;exact h)
    first|exact⟨j,false,rfl,aK,FIN⟩|exact⟨j,.inl ⟨rfl,aK,NN⟩⟩
end Go.Proofs.YtlmkaljjocflmaaGreatDoor
namespace Go.Proofs.YtlmkaljjocflmaaGreatDoor
open Go.RowKit Go.Shelf
set_option linter.unusedVariables false
attribute [local go_sem] Oper.semAt_some
def dn (L:Nat):Nat→List (Nx L)
 |0=>[]
 |k+1=>dn L k++(if h:k<L then [⟨L-1-k,by omega⟩]else [])
theorem rR (L k:Nat)(h:k<L):dn L (k+1)=dn L k++[⟨L-1-k,by omega⟩]:=by rw[dn,dif_pos h]
theorem akw (L:Nat):∀k,k≤L→(dn L k).length=k
 |0,_=>rfl
 |k+1,h=>by
  rw[rR L k (by omega),List.length_append,akw L k (by omega)]
  rfl
def iO (rs:List Cw) (x:Nx rs.length):Cw:=rs[x.1]'x.2
def cvv (c:Cw):Value:=.agg #[.int .i64 c.e,.int .i64 c.n,c.v]
theorem ams (n:Nat)(hn:1≤n)(l B:Nat)(rs:List Cw)(sv:Value)(S:Nat→Prop)(hSB:S B)(hSv:∀b,sv.ownBlock=some b→S b)(vG:rs.length≤1048576)(J Jx:List (Nx rs.length)→World→Prop)(W:World)(hSW:∀g,S g→g<W.heap.size)(hJ:AbidesFrom W.heap.size J)
  (hY:∀pre x W1,J pre W1→pre.length<rs.length→YieldAt Fence.wide (n-1) Tryz.prog l #[.int .i64 x.1,cvv (iO rs x)] W1 fun e W'=>(e=.returned (.bool true)∧J (pre++[x]) W'∧Kn S W1 W')∨(e=.returned (.bool false)∧Jx (pre++[x]) W'))
  (hB:W.cell? ⟨B,0,none⟩=some sv) (his:dU W sv rs) (h0:J [] W):
  CallsIn Fence.wide n Tryz.prog 333 #[.func (.yield l) #[] #[],.pointer (some ⟨B,0,none⟩)] W fun e W'=>(∃v,e=.returned v)∧((∃xs,xs=dn rs.length rs.length∧J xs W')∨(∃pre,(∃k,k≤rs.length∧pre=dn rs.length k)∧Jx pre W')):=by
 have hro:Fence.wide.round=none:=rfl
 obtain⟨ao,cap,hsv,hcap,hcm⟩:=his.shape
 have jd:=hide fun(h0:0<rs.length)=>his.full h0
 subst hsv
 have HSW:=hide hSW
 have HJ0:=hide hJ
 have HY:=hide hY
 have hw0:IntKind.i64.wrap ((rs.length:Int)-1)=(rs.length:Int)-1:=aS _ (by omega) (by omega)
 clear his hSW hJ hY
 refine callsIn_of_wp Tryz.func333 rfl trivial ?_ hro
 simp only[Tryz.ntmps333,List.size_toArray,List.length_cons,List.length_nil,Nat.reduceAdd,Nat.reduceSub,Array.replicate_succ,Array.replicate_zero,List.push_toArray,List.append_toArray,List.nil_append,List.cons_append]
 gi_wp2
 gi_loopw [3] (fun iv wr=>∃(k:Nat) (z:Int),k≤rs.length∧iv=.int .i64 z∧z=(rs.length:Int)-1-k∧Hid (J (dn rs.length k) wr)∧Kn S W wr) (fun iv _=>(intOf iv+1).toNat)
 case atStart=>exact⟨0,(rs.length:Int)-1,Nat.zero_le _,rfl,by omega,h0,fun _ _=>rfl⟩
 case round=>
  obtain⟨k,z,hk,rfl,hz,HJ,hK⟩:=hrel
  have hbx:=(kC (hK B hSB) 0).trans hB
  by_cases hlt:k<rs.length
  ·obtain⟨i,hi⟩:∃i,rs.length-1-k=i:=⟨_,rfl⟩
   have hil:i<rs.length:=by omega
   obtain rfl:z=(i:Int):=by omega
   obtain⟨b,off,cq,fH,_,_,hb,hcell⟩:=jd.out (by omega)
   simp only[Value.slice.injEq,true_and]at fH
   obtain⟨rfl,rfl⟩:=fH
   obtain⟨c,hc⟩:∃c,iO rs ⟨i,hil⟩=c:=⟨_,rfl⟩
   have hc':rs[i]? =some c:=by rw[List.getElem?_eq_getElem hil,←hc];rfl
   obtain⟨c0,c1,c2⟩:=hcell i c hc'
   have hkb:=hK b (hSv b rfl)
   have d0:=(kC hkb (off+i*3)).trans c0
   have d1:=(kC hkb (off+i*3+1)).trans c1
   have d2:=(kC hkb (off+i*3+2)).trans c2
   have HJN:Hid (∀W3,J (dn rs.length k++[⟨i,hil⟩]) W3→J (dn rs.length (k+1)) W3):=hide fun W3 h=>by
    rw[rR _ k hlt]
    subst hi
    exact h
   have HJX:Hid (∀W3,Jx (dn rs.length k++[⟨i,hil⟩]) W3→Jx (dn rs.length (k+1)) W3):=hide fun W3 h=>by
    rw[rR _ k hlt]
    subst hi
    exact h
   obtain⟨fn,tmps,assign,body,hy,hR⟩:=HY.out _ ⟨i,hil⟩ wr HJ.out (by rw[akw _ k hk];omega)
   rw[hc]at hy
   unfold cvv at hy
   have hlt':(i:Int)<rs.length:=by omega
   have hi0:(0:Int)≤(i:Int):=by omega
   have hw1:IntKind.i64.wrap ((i:Int)-1)=(i:Int)-1:=aS _ (by omega) (by omega)
   have HR:=hide hR
   have HK:=hide hK
   have HI:=hide hi
   clear hR hcell hSv hK c0 c1 c2 hkb hc hc' hz hi
   gi_wp2
   refine HR.out.mono ?_
   rintro e W3 (⟨rfl,hJ3,hk3⟩|⟨rfl,hJx3⟩)
   ·have vY:Hid (J (dn rs.length (k+1)) W3):=hide (HJN.out W3 hJ3)
    have hK4:=HK.out.trans hk3
    clear hJ3
    gi_wp2
    go_roundw
    case rel=>exact⟨k+1,(i:Int)-1,by omega,by go_num,by have:=HI.out;omega,vY,hK4⟩
    case measure=>simp[intOf]
   ·have vY:Hid (Jx (dn rs.length (k+1)) W3):=hide (HJX.out W3 hJx3)
    clear hJx3
    gi_wp2
    refine bodyPost_ret (results_none rfl _ _ _) rfl ?_
    exact⟨⟨_,rfl⟩,.inr ⟨_,⟨k+1,by omega,rfl⟩,vY.out⟩⟩
  ·obtain rfl:k=rs.length:=by omega
   have hz':¬(0:Int)≤z:=by omega
   clear hz
   gi_wp2
   go_end0
   exact⟨⟨_,rfl⟩,.inl HJ.out⟩
theorem amZ (v:Value)(hv:∃a n c,v=.slice a n c)(w:World):Calls Tryz.prog 313 #[v] w fun e w'=>e=.returned (.func (.func 333) #[] #[.pointer (some ⟨w.heap.size,0,none⟩)])∧w'=w.alloc (.cells #[v] 92):=by
 obtain⟨a,n,c,rfl⟩:=hv
 go_enter Tryz.func313,Tryz.ntmps313
 go_wp2
 go_ret
 exact⟨rfl,rfl⟩
def xD (B:Nat) (sv:Value) (g:Nat):Prop:=g=B∨sv.ownBlock=some g
theorem amz (n:Nat)(hn:1≤n)(B:Nat)(rs:List Cw)(sv:Value)(w:World)(hB:w.cell? ⟨B,0,none⟩=some sv)(hlt:∀g,xD B sv g→g<w.heap.size)(his:dU w sv rs)(vG:rs.length≤1048576):
  SeqStopsK Fence.wide n Tryz.prog 333 #[.pointer (some ⟨B,0,none⟩)] (fun x:Nx rs.length=>#[.int .i64 x.1,cvv (iO rs x)]) (Kn (xD B sv)) (fun xs=>xs=dn rs.length rs.length) (fun pre=>∃k,k≤rs.length∧pre=dn rs.length k) rs.length w:=fun l J Jx W hW hJ hJx hY h0=>
 ams n hn l B rs sv (xD B sv) (.inl rfl) (fun b hb=>.inr hb) vG J Jx W (fun g hg=>Nat.lt_of_lt_of_le (hlt g hg) hW.size) hJ hY ((hW.cell (p:=⟨B,0,none⟩) (hlt B (.inl rfl))).trans hB) (his.below hW) h0
end Go.Proofs.YtlmkaljjocflmaaGreatDoor
namespace Go.Proofs.YtlmkaljjocflmaaGreatDoor
open Go.RowKit
set_option linter.unusedVariables false
theorem Tryz.arb:(Tryz.prog.info? 119).map (fun i=>(i.zero,i.size,i.bytes))=some (some (.agg #[.int .i64 0,.int .i64 0]),2,16):=by kernel_rfl
theorem af5 {base base':Nat}{w:World}{v:Value}{l:List Sm.S}(h:nH base w v l)(hb:base'≤base):nH base' w v l:=by
 refine⟨h.1,?_⟩
 rcases h.2 with h|⟨g,cap,cur,hv,h1,r⟩
 ·exact .inl h
 ·exact .inr ⟨g,cap,cur,hv,by omega,r⟩
theorem tu {base:Nat}{w w':World}{v:Value}{l:List Sm.S}(h:nH base w v l)(hb:Below w.heap.size w w'):nH base w' v l:=h.agree fun b hb'=>hb.block b (h.lt b hb').2
theorem amt (w:World)(cs:Array Value)(n:Nat)(l:List Sm.S)(hn:l.length=n)(h:cs.toList=gcells lC l)(hm:n≤maxLen):
  ∃W,w.alloc (.cells cs 119)=W∧W.heap.size=w.heap.size+1∧Below w.heap.size w W∧nH w.heap.size W (.slice (some ⟨w.heap.size,0,none⟩) n n) l:=qi lC 2 abG 119 w cs n l hn h hm
def trm (l:List Sm.S) (en n:Int):List Sm.S:=if atE l en n=0 then Sm.beg n l else []
theorem Tryz.asK (op:BinOp)(x y:Operand)(xs ys:Array Value)(w:World):(eqGuard op 119 x y (.agg xs) (.agg ys)).run Tryz.prog w=.ok () w:=run_eqGuard_agg w op 119 x y xs ys (by kernel_rfl)
theorem Tryz.axz (a b c d:Int)(w:World):(binOp .neq 119 (.agg #[.int .i64 a,.int .i64 b]) (.agg #[.int .i64 c,.int .i64 d])).run Tryz.prog w=.ok (.bool (!((a==c)&&(b==d)))) w:=by
 rw[run_neq_struct,run_equalIn_agg w 9999 119 _ _ (by kernel_rfl) (by kernel_rfl)]
 unfold Program.fieldsOf
 rw[Tryz.underlying119]
 simp[Op.eqFields,go_sem,Tryz.underlying3]
 by_cases h1:a=c<;>by_cases h2:b=d<;>simp[h1,h2]
theorem aqp (va vb:Value)(xs ys:List Sm.S)(w:World)(ha:yA w va xs)(hb:yA w vb ys)(hl:xs.length≤140737488355328)(hl':ys.length≤140737488355328):
  Calls Tryz.prog 250 #[va,vb] w fun e w'=>e=.returned (.bool (decide (xs=ys)))∧∃m,w'=w.drewN m:=by
 obtain⟨ans,dM⟩:∃r,decide (xs=ys)=r:=⟨_,rfl⟩
 rw[dM]
 have HA:=hide dM
 clear dM
 by_cases hne:xs.length=ys.length
 ·by_cases hz:0<xs.length
  ·obtain⟨b1,o1,c1,rfl,_,_,hB1,hc1⟩:=ni ha hz
   obtain⟨b2,o2,c2,rfl,_,_,hB2,hc2⟩:=ni hb (by omega)
   have ht:((xs.length:Int) !=(ys.length:Int))=false:=by simp;omega
   have HL:=hide hne
   have uF:=hide hc1
   have HC2:=hide hc2
   clear hne ha hb hc1 hc2
   generalize hn:xs.length=n at*
   generalize hm:ys.length=m at*
   have HN:=hide hn
   have HM:=hide hm
   clear hn hm
   go_enter Tryz.func250,Tryz.ntmps250
   go_wp2
   go_loopw [13] (fun i wr=>∃(k:Nat),k≤n∧i=.int .i64 k∧Hid (xs.take k=ys.take k)∧∃m,wr=w.drewN m) (fun i _=>n-(intOf i).toNat)
   case atStart=>exact⟨0,by omega,rfl,hide rfl,0,rfl⟩
   case round=>
    obtain⟨k,hk,rfl,HT,mm,rfl⟩:=hrel
    by_cases hlt:k<n
    ·obtain⟨o,ho⟩:=lM (l:=xs) (k:=k) (by have:=HN.out;omega)
     obtain⟨q,hq⟩:=lM (l:=ys) (k:=k) (by have:=HM.out;have:=HL.out;omega)
     obtain⟨d0,d1⟩:=uF.out k o ho
     obtain⟨e0,e1⟩:=HC2.out k q hq
     have hlt':(k:Int)<n:=by omega
     have hlt2:(k:Int)<m:=by have:=HL.out;omega
     have HO:=hide ho
     have HQ:=hide hq
     clear ho hq
     have hnq:=Tryz.axz o.1 o.2 q.1 q.2
     have hgd:=Tryz.asK
     by_cases h1:o=q
     ·have HT2:Hid (xs.take (k+1)=ys.take (k+1)):=hide (by
       rw[List.take_add_one,List.take_add_one,HT.out,HO.out,HQ.out,h1])
      rw[show((o.1==q.1)&&(o.2==q.2))=true by simp[h1]]at hnq
      clear h1
      go_wp2
      go_quiet (fail)
      go_wp2
      go_roundw
      case rel=>exact⟨k+1,by omega,by go_num,HT2,_,rfl⟩
      case measure=>simp[intOf];omega
     ·have hfo:=HA.out
      rw[decide_eq_false fun e=>by
       have h3:=HO.out
       rw[e,HQ.out]at h3
       exact h1 (by rw[Option.some.inj h3])]at hfo
      subst hfo
      rw[show((o.1==q.1)&&(o.2==q.2))=false by
       by_cases e1:o.1=q.1
       ·have:o.2≠q.2:=fun e2=>h1 (Prod.ext e1 e2)
        simp[this]
       ·simp[e1]]at hnq
      clear h1 HA
      go_wp2
      go_quiet (fail)
      go_wp2
      go_ret
      exact⟨rfl,_,by first|rfl|exact World.drewN_drewN _ _ _⟩
    ·have hlt':¬(k:Int)<n:=by omega
     have hfo:=HA.out
     rw[decide_eq_true (by
      have h1:=HT.out
      rw[List.take_of_length_le (by have:=HN.out;omega),List.take_of_length_le (by have:=HN.out;have:=HM.out;have:=HL.out;omega)]at h1
      exact h1)]at hfo
     subst hfo
     clear HA
     go_wp2
     go_ret
     exact⟨rfl,mm,rfl⟩
  ·have hx:xs=[]:=List.eq_nil_of_length_eq_zero (by omega)
   have hy:ys=[]:=List.eq_nil_of_length_eq_zero (by omega)
   subst hx hy
   obtain⟨a1,c1,rfl,_,_⟩:=ha.shape
   obtain⟨a2,c2,rfl,_,_⟩:=hb.shape
   have hfo:=HA.out
   simp at hfo
   subst hfo
   simp only[List.length_nil]
   clear hl hl' hne hz ha hb HA
   go_enter Tryz.func250,Tryz.ntmps250
   go_wp2
   refine wp_loop_rounds 1 ?_
   rw[rounds_succ]
   go_wp2
   go_ret
   exact⟨rfl,0,rfl⟩
 ·obtain⟨a1,c1,rfl,_,_⟩:=ha.shape
  obtain⟨a2,c2,rfl,_,_⟩:=hb.shape
  have ht:((xs.length:Int) !=(ys.length:Int))=true:=by simp;omega
  have hfo:=HA.out
  rw[decide_eq_false fun h=>hne (by rw[h])]at hfo
  subst hfo
  clear hne HA
  go_enter Tryz.func250,Tryz.ntmps250
  go_wp2
  go_ret
  exact⟨rfl,0,rfl⟩
theorem aqA (va vb:Value)(r s:List Cw)(w:World)(ha:iy w va r)(hb:iy w vb s)(fa:jr r)(fb:jr s)(hl:r.length≤140737488355328)(hl':s.length≤140737488355328):
  Calls Tryz.prog 251 #[va,vb,.func (.func 252) #[] #[]] w fun E w'=>E=.returned (.bool (sameV (aH r) (aH s)))∧Below w.heap.size w w':=by
 obtain⟨ans,dM⟩:∃x,sameV (aH r) (aH s)=x:=⟨_,rfl⟩
 rw[dM]
 have HA:=hide dM
 clear dM
 obtain⟨a1,p1,hva,_,_⟩:=ha.1.shape
 obtain⟨a2,p2,hvb,_,_⟩:=hb.1.shape
 by_cases hne:r.length=s.length
 ·have C1:=hide (ja ha)
  have C2:=hide (ja hb)
  have I1:=hide ha.2
  have I2:=hide hb.2
  have F1:=hide fa
  have F2:=hide fb
  have HL:=hide hne
  have ht:((r.length:Int) !=(s.length:Int))=false:=by simp;omega
  subst hva hvb
  generalize hn:r.length=n at*
  generalize hm:s.length=m at*
  have HN:=hide hn
  have HM:=hide hm
  clear ha hb fa fb hne hn hm
  go_enter Tryz.func251,Tryz.ntmps251
  go_wp2
  go_loopw [17] (fun i wr=>∃(k:Nat),k≤n∧i=.int .i64 k∧Hid ((aH r).take k=(aH s).take k)∧Below w.heap.size w wr) (fun i _=>n-(intOf i).toNat)
  case atStart=>exact⟨0,by omega,rfl,hide rfl,Below.refl _ _⟩
  case round=>
   obtain⟨k,hk,rfl,HT,aK⟩:=hrel
   have sz:=aK.size
   by_cases hlt:k<n
   ·obtain⟨b1,o1,c1,hv1,hB1,hc1⟩:=C1.out (by have:=HN.out;omega)
    obtain⟨b2,o2,c2,hv2,hB2,hc2⟩:=C2.out (by have:=HM.out;have:=HL.out;omega)
    simp only[Value.slice.injEq,true_and]at hv1 hv2
    obtain⟨rfl,rfl⟩:=hv1
    obtain⟨rfl,rfl⟩:=hv2
    obtain⟨c,hc⟩:=lM (l:=r) (k:=k) (by have:=HN.out;omega)
    obtain⟨d,hd⟩:=lM (l:=s) (k:=k) (by have:=HM.out;have:=HL.out;omega)
    obtain⟨x0,x1,x2⟩:=zY hc1 aK hB1 hc
    have i1:=(I1.out c (List.mem_of_getElem? hc)).1.below aK
    have i2:=(I2.out d (List.mem_of_getElem? hd)).1.below aK
    have l1:=(F1.out c (List.mem_of_getElem? hc)).2
    have l2:=(F2.out d (List.mem_of_getElem? hd)).2
    have hlt':(k:Int)<n:=by omega
    have hlt2:(k:Int)<m:=by have:=HL.out;omega
    obtain⟨ga,ea,dD,_,_⟩:=i1.shape
    obtain⟨gb,eb,hvd,_,_⟩:=i2.shape
    obtain⟨V,hV,hV2,jE,aX,bV,v0,v1,v2⟩:=gG wr 35 (.int .i64 0) (.int .i64 0) (.slice none 0 0) (.int .i64 c.e) (.int .i64 c.n) c.v
    have iU:Below w.heap.size w V:=aK.trans (aX.mono (by omega))
    obtain⟨y0,y1,y2⟩:=zY hc2 iU hB2 hd
    obtain⟨U,hU,hU2,szU,yG,bU,u0,u1,u2⟩:=gG V 35 (.int .i64 0) (.int .i64 0) (.slice none 0 0) (.int .i64 d.e) (.int .i64 d.n) d.v
    rw[jE]at hU u0 u1 u2
    have fu:=(yG.block wr.heap.size (by omega)).trans bV
    have z0:=ai fu 0 rfl
    have z1:=ai fu 1 rfl
    have z2:=ai fu 2 rfl
    have afc:Below wr.heap.size wr U:=aX.trans (yG.mono (by omega))
    have sC:V.setCell ⟨wr.heap.size,2,none⟩ c.v=V:=aM bV (j:=2) rfl
    have X:=hide (akM c.e c.n _ c.l d.e d.n _ d.l U (i1.below afc) (i2.below afc) (by omega) (by omega))
    have HC:=hide hc
    have HD:=hide hd
    obtain⟨sm,hsm⟩:∃x,lH c.e c.n c.l d.e d.n d.l=x:=⟨_,rfl⟩
    rw[hsm]at X
    have HSM:=hide hsm
    have cZ:=aK.trans (afc.mono (by omega))
    have szB:=afc.size
    clear hc hd hc1 hc2 l1 l2 hsm bV fu bU iU afc aX yG i1 i2 sC
    rw[dD]at x2 hV hV2 v2 z2 X
    rw[hvd]at y2 hU hU2 u2 X
    clear dD hvd
    unfold dF at X
    cases sm
    ·have hfo:=HA.out
     rw[aeW fun e=>by
      have h1:(aH r)[k]? =some c.c:=by rw[oF,HC.out];rfl
      rw[e,oF,HD.out]at h1
      have h2:d.c=c.c:=by simpa using h1
      obtain⟨q1,q2,q3⟩:=aut h2
      have:=HSM.out
      rw[vg.2 ⟨q1.symm,q2.symm,q3.symm⟩]at this
      simp at this]at hfo
     subst hfo
     go_wp2_with (go_at_call 252;refine X.out.mono ?_;rintro E w3 ⟨rfl,aC⟩)
     go_ret
     exact⟨rfl,cZ.trans (aC.mono (by omega))⟩
    ·have HT2:Hid ((aH r).take (k+1)=(aH s).take (k+1)):=hide (by
      obtain⟨q1,q2,q3⟩:=vg.1 HSM.out
      rw[List.take_add_one,List.take_add_one,HT.out,oF,oF,HC.out,HD.out]
      simp[Cw.c,q1,q2,q3])
     go_wp2_with (go_at_call 252;refine X.out.mono ?_;rintro E w3 ⟨rfl,aC⟩)
     have anK:=cZ.trans (aC.mono (by omega))
     go_roundw
     case rel=>exact⟨k+1,by omega,by go_num,HT2,anK⟩
     case measure=>simp[intOf];omega
   ·have hlt':¬(k:Int)<n:=by omega
    have hfo:=HA.out
    rw[mJ.2 (by
     have h1:=HT.out
     rw[List.take_of_length_le (by rw[dE,HN.out];omega),List.take_of_length_le (by rw[dE,HM.out];have:=HL.out;omega)]at h1
     exact h1)]at hfo
    subst hfo
    clear HA
    go_wp2
    go_ret
    exact⟨rfl,aK⟩
 ·have ht:((r.length:Int) !=(s.length:Int))=true:=by simp;omega
  have hfo:=HA.out
  rw[aeW fun e=>hne (by rw[←dE r,←dE s,e])]at hfo
  subst hfo hva hvb
  clear hne HA
  go_enter Tryz.func251,Tryz.ntmps251
  go_wp2
  go_ret
  exact⟨rfl,Below.refl _ _⟩
theorem l9 {x y:Int}{ans:Bool}(h:x≠y→ans=false):(x==y)=true∨((x==y)=false∧ans=false):=by
 by_cases e:x=y
 ·exact .inl (by simp[e])
 ·exact .inr ⟨by simpa using e,h e⟩
theorem avh {a b:Mm.Msg}(h1:(a.k==b.k)=true)(h2:(a.e==b.e)=true)(h3:(a.r==b.r)=true)(h4:(a.n==b.n)=true)(h5:(a.f==b.f)=true)(h6:(a.p==b.p)=true)(h7:decide (a.ss=b.ss)=true):lV a b=sameV a.cs b.cs:=by
 unfold lV
 rw[h1,h2,h3,h4,h5,h6,h7]
 rfl
theorem vM (a b:Mw)(w:World)(ha:iY w a)(hb:iY w b)(fa:bQ a)(fb:bQ b):
  Calls Tryz.prog 192 #[mv a,mv b] w fun E w'=>E=.returned (.bool (lV a.m b.m))∧Below w.heap.size w w':=by
 obtain⟨ans,dM⟩:∃x,lV a.m b.m=x:=⟨_,rfl⟩
 rw[dM]
 have HA:=hide dM
 have NO:Hid (a.m≠b.m→ans=false):=hide fun h=>by rw[←HA.out];exact arO h
 clear dM
 unfold mv
 obtain⟨w1,hw1,aT,ak,hA⟩:=yM w a
 obtain⟨w2,hw2,dm,az,hB⟩:=yM w1 b
 rw[aT]at hB
 have A2:=hide (hA.below az)
 have B2:=hide hB
 have aO:Below w.heap.size w w2:=ak.trans (az.mono (by omega))
 have IA:=hide (ha.below aO)
 have IB:=hide (hb.below aO)
 have FA:=hide fa
 have FB:=hide fb
 obtain⟨c0,c1,c2,c3,c4,c5,c6,c7⟩:=A2.out.ei
 obtain⟨d0,d1,d2,d3,d4,d5,d6,d7⟩:=B2.out.ei
 have q1:=l9 (x:=a.k) (y:=b.k) (ans:=ans) fun h=>NO.out fun e=>h (congrArg Mm.Msg.k e)
 have q2:=l9 (x:=a.e) (y:=b.e) (ans:=ans) fun h=>NO.out fun e=>h (congrArg Mm.Msg.e e)
 have q3:=l9 (x:=a.r) (y:=b.r) (ans:=ans) fun h=>NO.out fun e=>h (congrArg Mm.Msg.r e)
 have q4:=l9 (x:=a.n) (y:=b.n) (ans:=ans) fun h=>NO.out fun e=>h (congrArg Mm.Msg.n e)
 have q5:=l9 (x:=a.f) (y:=b.f) (ans:=ans) fun h=>NO.out fun e=>h (congrArg Mm.Msg.f e)
 have q6:=l9 (x:=a.p) (y:=b.p) (ans:=ans) fun h=>NO.out fun e=>h (congrArg Mm.Msg.p e)
 obtain⟨ds,hds⟩:∃x,decide (a.ss=b.ss)=x:=⟨_,rfl⟩
 have q7:Hid (ds=false→ans=false):=hide fun h=>NO.out fun e=>by
  rw[h]at hds
  exact of_decide_eq_false hds (congrArg Mm.Msg.ss e)
 have DS:=hide hds
 clear ha hb fa fb hA hB ak az hds
 go_enter Tryz.func192,Tryz.ntmps192
 rcases q1 with q1|⟨q1,rfl⟩
 rotate_left
 ·go_wp2
  go_ret
  exact⟨rfl,aO⟩
 rcases q2 with q2|⟨q2,rfl⟩
 rotate_left
 ·go_wp2
  go_ret
  exact⟨rfl,aO⟩
 rcases q3 with q3|⟨q3,rfl⟩
 rotate_left
 ·go_wp2
  go_ret
  exact⟨rfl,aO⟩
 rcases q4 with q4|⟨q4,rfl⟩
 rotate_left
 ·go_wp2
  go_ret
  exact⟨rfl,aO⟩
 rcases q5 with q5|⟨q5,rfl⟩
 rotate_left
 ·go_wp2
  go_ret
  exact⟨rfl,aO⟩
 rcases q6 with q6|⟨q6,rfl⟩
 rotate_left
 ·go_wp2
  go_ret
  exact⟨rfl,aO⟩
 go_wp2_with fail
 refine(aqp _ _ a.ss b.ss _ IA.out.s IB.out.s FA.out.ls FB.out.ls).mono ?_
 rintro E w3 ⟨rfl,m,rfl⟩
 rw[DS.out]
 have aC:Below w2.heap.size w2 (w2.drewN m):=below_drewN (Below.refl _ _) m
 generalize w2.drewN m=w3 at*
 have bJ:=aC.size
 have aW:=aO.trans (aC.mono (by omega))
 cases ds
 ·obtain rfl:=q7.out rfl
  go_wp2
  go_ret
  exact⟨rfl,aW⟩
 ·clear c0 c1 c2 c3 c4 c5 c6 c7 d0 d1 d2 d3 d4 d5 d6 d7 hw1 hw2
  obtain⟨c0,c1,c2,c3,c4,c5,c6,c7⟩:=(A2.out.below aC).ei
  obtain⟨d0,d1,d2,d3,d4,d5,d6,d7⟩:=(B2.out.below aC).ei
  have hs:ans=sameV (aH a.cs) (aH b.cs):=by
   rw[←HA.out]
   exact avh (a:=a.m) (b:=b.m) q1 q2 q3 q4 q5 q6 DS.out
  go_wp2_with fail
  refine(aqA _ _ a.cs b.cs _ (IA.out.c.below aC) (IB.out.c.below aC) FA.out.fc FB.out.fc FA.out.lc FB.out.lc).mono ?_
  rintro E w4 ⟨rfl,aL⟩
  have di:=aW.trans (aL.mono (by omega))
  rw[←hs]
  clear hs
  go_wp2
  go_ret
  exact⟨rfl,di⟩
def yB (m:Mw):Prop:=1≤m.r∧m.r≤3∧Sm.Ok m.ss m.n∧Sm.aj m.ss≤m.e
def abh (m:Mw):Prop:=1≤m.f∧m.f≤1048576∧0≤m.p∧m.p≤m.e∧(m.p=0↔m.f=1)∧m.cs.length≤4∧(∀c∈aH m.cs,c.e≤m.e)∧Cm.Good m.p (m.f-1) (aH m.cs)
def nz (ans:Bool) (p:Prop):Prop:=ans=true↔p
theorem nz.no {ans:Bool}{p:Prop}(h:nz ans p)(hp:¬p):ans=false:=by
 cases ans
 ·rfl
 ·exact absurd (h.1 rfl) hp
theorem nz.yes {ans:Bool}{p:Prop}(h:nz ans p)(hp:p):ans=true:=h.2 hp
theorem afh (p:Prop):∃ans,nz ans p:=by
 by_cases h:p
 ·exact⟨true,by simp[nz,h]⟩
 ·exact⟨false,by simp[nz,h]⟩
theorem nz.dec {ans:Bool}{p q:Prop}[d:Decidable q](h:nz ans p)(h1:q→p)(h2:p→q):ans=decide q:=by
 by_cases hp:q
 ·rw[h.yes (h1 hp),decide_eq_true hp]
 ·rw[h.no fun k=>hp (h2 k),decide_eq_false hp]
theorem aba (m:Mw)(ans:Bool)(w:World)(hi:iY w m)(hf:bQ m)(he:0≤m.e)(h:nz ans (yB m)):
  Calls Tryz.prog 190 #[mv m] w fun E w'=>E=.returned (.bool ans)∧Below w.heap.size w w':=by
 have NO:Hid (¬yB m→ans=false):=hide fun k=>h.no k
 have YE:Hid (yB m→ans=true):=hide fun k=>h.yes k
 have HD:Hid (nz ans (yB m)):=hide h
 unfold mv
 obtain⟨w1,hw1,aT,ak,hA⟩:=yM w m
 have A1:=hide hA
 obtain⟨c0,c1,c2,c3,c4,c5,c6,c7⟩:=hA.ei
 have i1:=hide (hi.s.below ak)
 have hl:=hf.ls
 have X:=hide (fun(W:World) (k:yA W m.vs m.ss)=>ah8 m.vs m.ss m.n W k hl)
 obtain⟨ck,hck⟩:∃c,Sm.chk m.ss m.n=c:=⟨_,rfl⟩
 rw[hck]at X
 have HC:=hide hck
 clear hck h hA hi
 go_enter Tryz.func190,Tryz.ntmps190
 by_cases h1:m.r<1
 ·obtain rfl:=NO.out fun k=>by have:=k.1;omega
  go_wp2
  go_ret
  exact⟨rfl,ak⟩
 by_cases h2:3<m.r
 ·obtain rfl:=NO.out fun k=>by have:=k.2.1;omega
  go_wp2
  go_ret
  exact⟨rfl,ak⟩
 go_wp2_with fail
 refine(X.out _ i1.out).mono ?_
 rintro E w2 ⟨rfl,az⟩
 have dm:=az.size
 have aO:=ak.trans (az.mono (by omega))
 clear c0 c1 c2 c3 c4 c5 c6 c7
 by_cases h3:ck=0
 ·subst h3
  have hok:=Sm.aV.1 HC.out
  have xX:=hide hok
  clear hok
  obtain⟨c0,c1,c2,c3,c4,c5,c6,c7⟩:=(A1.out.below az).ei
  have i2:=i1.out.below az
  by_cases hz:m.ss.length=0
  ·have hn:m.ss=[]:=List.eq_nil_of_length_eq_zero hz
   obtain rfl:=YE.out ⟨by omega,by omega,xX.out,by rw[hn];exact he⟩
   obtain⟨ao,cap,hv,_,_⟩:=i2.shape
   rw[hv,hz]at c4
   clear hn hz hv i2 hw1
   go_wp2
   go_quiet (fail)
   go_wp2
   go_ret
   exact⟨rfl,below_drewN aO _⟩
  ·obtain⟨b,off,cap,hv,_,_,hB,hc⟩:=ni i2 (by omega)
   obtain⟨s,hs⟩:=lM (l:=m.ss) (k:=m.ss.length-1) (by omega)
   obtain⟨d0,d1⟩:=hc _ _ hs
   have hq:ans=decide (s.1≤m.e):=HD.out.dec (fun hx=>⟨by omega,by omega,xX.out,by rw[Sm.akx hs];exact hx⟩) (fun k=>by have:=k.2.2.2;rw[Sm.akx hs]at this;exact this)
   subst hq
   rw[hv]at c4
   generalize hn:m.ss.length=n at*
   obtain⟨k,hk⟩:∃k,n-1=k:=⟨_,rfl⟩
   rw[hk]at d0 d1
   have hne:((n:Int)==0)=false:=by simp;omega
   have hsub:(n:Int)-1=(k:Int):=by omega
   have hk1:(k:Int)<(n:Int):=by omega
   clear hv hc hs hn hz NO YE HD i2 hw1 X HC xX hk
   go_wp2
   have hk1:(k:Int)<(n:Int):=by omega
   go_big_quiet (fail)
   go_wp2
   go_ret
   exact⟨rfl,below_drewN aO _⟩
 ·have h3':(ck !=0)=true:=by simpa using h3
  obtain rfl:=NO.out fun k=>h3 (by rw[←HC.out];exact Sm.aV.2 k.2.2.1)
  clear h3
  go_wp2
  go_ret
  exact⟨rfl,aO⟩
theorem xH:∀(l:List Cm.Cv) (ep nu:Int),Cm.Good ep nu l→ep≤Cm.lastE ep l∧∀c∈l,c.e≤Cm.lastE ep l
 |[],ep,nu,_=>⟨Int.le_refl _,fun c hc=>by simp at hc⟩
 |c::r,ep,nu,⟨h1,h2,h3,h4⟩=>by
  obtain⟨g1,g2⟩:=xH r c.e c.n h4
  refine⟨Int.le_trans h3 g1,fun d hd=>?_⟩
  rcases List.mem_cons.1 hd with rfl|hd
  ·exact g1
  ·exact g2 d hd
theorem agd:∀(l:List Cm.Cv) (ep:Int) (c:Cm.Cv),l[l.length-1]? =some c→Cm.lastE ep l=c.e
 |[],_,_,h=>by simp at h
 |[x],ep,c,h=>by simp at h;subst h;rfl
 |x::y::r,ep,c,h=>by
  have:=agd (y::r) x.e c (by simpa using h)
  exact this
theorem ari (x y:Int)(z u:Int):((x=z↔y=u)∧∃b,(x==z)=b∧(y==u)=b)∨(¬(x=z↔y=u)∧∃b,(x==z)=b∧(y==u)= !b):=by
 by_cases h1:x=z<;>by_cases h2:y=u
 ·exact .inl ⟨by simp[h1,h2],true,by simp[h1],by simp[h2]⟩
 ·exact .inr ⟨by simp[h1,h2],true,by simp[h1],by simpa using h2⟩
 ·exact .inr ⟨by simp[h1,h2],false,by simpa using h1,by simp[h2]⟩
 ·exact .inl ⟨by simp[h1,h2],false,by simpa using h1,by simpa using h2⟩
theorem ac6 (m:Mw)(ans:Bool)(w:World)(hi:iY w m)(hf:bQ m)(h:nz ans (abh m)):
  Calls Tryz.prog 191 #[mv m] w fun E w'=>E=.returned (.bool ans)∧Below w.heap.size w w':=by
 have NO:Hid (¬abh m→ans=false):=hide fun k=>h.no k
 have HD:Hid (nz ans (abh m)):=hide h
 unfold mv
 obtain⟨w1,hw1,aT,ak,hA⟩:=yM w m
 have A1:=hide hA
 obtain⟨c0,c1,c2,c3,c4,c5,c6,c7⟩:=hA.ei
 have i1:=hide (hi.c.below ak)
 have hl:=hf.lc
 have HF:=hide hf.fc
 have ff:=hf.f
 have X:=hide (fun(W:World) (k:iy W m.vc m.cs)=>oJ m.p (m.f-1) m.vc m.cs W k HF.out hl)
 have C:=hide (ja i1.out)
 obtain⟨ao,cap,hv,_,_⟩:=i1.out.1.shape
 have i1':Hid (iy w1 m.vc m.cs):=i1
 rw[hv]at c7 hw1 X C i1'
 rw[hv]
 have A2:Hid (∀W,Below w1.heap.size w1 W→Ei W w.heap.size (.int .i64 m.k) (.int .i64 m.e) (.int .u8 m.r) (.int .i64 m.n) m.vs (.int .i64 m.f) (.int .i64 m.p) (.slice ao m.cs.length cap)):=hide fun W hb=>by
  have:=(A1.out.below hb).ei
  rw[hv]at this
  exact this
 generalize hn:m.cs.length=n at*
 have HN:=hide hn
 clear h hA hi hf hv i1 A1 hn
 go_enter Tryz.func191,Tryz.ntmps191
 by_cases h1:m.f<1
 ·obtain rfl:=NO.out fun k=>by have:=k.1;omega
  go_wp2
  go_ret
  exact⟨rfl,ak⟩
 by_cases h2:1048576<m.f
 ·obtain rfl:=NO.out fun k=>by have:=k.2.1;omega
  go_wp2
  go_ret
  exact⟨rfl,ak⟩
 by_cases h3:m.p<0
 ·obtain rfl:=NO.out fun k=>by have:=k.2.2.1;omega
  go_wp2
  go_ret
  exact⟨rfl,ak⟩
 by_cases h4:m.e<m.p
 ·obtain rfl:=NO.out fun k=>by have:=k.2.2.2.1;omega
  go_wp2
  go_ret
  exact⟨rfl,ak⟩
 rcases ari m.p m.f 0 1 with⟨hbb,bb,q1,q2⟩|⟨hbb,bb,q1,q2⟩
 rotate_left
 ·obtain rfl:=NO.out fun k=>hbb k.2.2.2.2.1
  clear hbb
  cases bb
  ·have q3:(m.f==1)=true:=q2
   clear q2
   go_wp2
   go_ret
   exact⟨rfl,ak⟩
  ·have q3:(m.f==1)=false:=q2
   clear q2
   go_wp2
   go_ret
   exact⟨rfl,ak⟩
 have HB:=hide hbb
 have hbn:(bb !=bb)=false:=by simp
 clear hbb
 by_cases h5:4<n
 ·obtain rfl:=NO.out fun k=>by have:=k.2.2.2.2.2.1;have:=HN.out;omega
  clear X
  have h5':(4:Int)<n:=by omega
  go_wp2
  go_ret
  exact⟨rfl,ak⟩
 have h5':¬(4:Int)<n:=by omega
 go_wp2_with fail
 refine(X.out _ i1'.out).mono ?_
 rintro E w2 ⟨rfl,az⟩
 have dm:=az.size
 have aO:=ak.trans (az.mono (by omega))
 clear c0 c1 c2 c3 c4 c5 c6 c7 hw1 X
 obtain⟨c0,c1,c2,c3,c4,c5,c6,c7⟩:=A2.out _ az
 clear A2
 have hft:=arD (aH m.cs) m.p (m.f-1)
 have hgd:=Tryz.vE
 unfold xS
 rcases hft with⟨hg,hfo⟩|⟨hg,hfo⟩
 rotate_left
 ·obtain rfl:=NO.out fun k=>hg k.2.2.2.2.2.2.2
  have hnq:=Tryz.adV (Cm.fol m.p (m.f-1) 0 (aH m.cs)).1 (Cm.fol m.p (m.f-1) 0 (aH m.cs)).2 0 0
  rw[show((Cm.fol m.p (m.f-1) 0 (aH m.cs)).1==0&&(Cm.fol m.p (m.f-1) 0 (aH m.cs)).2==0)=false by simp[hfo]]at hnq
  generalize (Cm.fol m.p (m.f-1) 0 (aH m.cs)).1=x1 at*
  generalize (Cm.fol m.p (m.f-1) 0 (aH m.cs)).2=x2 at*
  clear hg hfo
  go_wp2
  go_ret
  exact⟨rfl,aO⟩
 rw[hfo]
 have hnq:=Tryz.adV 0 0 0 0
 rw[show((0:Int)==0&&(0:Int)==0)=true from rfl]at hnq
 have HG:=hide hg
 clear hfo hg
 by_cases hz:n=0
 ·have hn:m.cs=[]:=List.eq_nil_of_length_eq_zero (by have:=HN.out;omega)
  obtain rfl:=HD.out.yes ⟨by omega,by omega,by omega,by omega,HB.out,by have:=HN.out;omega,fun c hc=>by rw[hn]at hc;simp[aH]at hc,HG.out⟩
  have hz':((n:Int)==0)=true:=by simp[hz]
  clear hn hz
  go_wp2
  go_quiet (fail)
  go_wp2
  go_ret
  exact⟨rfl,below_drewN aO _⟩
 ·obtain⟨b,off,cap',hv',hB',hc⟩:=C.out (by have:=HN.out;omega)
  simp only[Value.slice.injEq,true_and]at hv'
  obtain⟨rfl,rfl⟩:=hv'
  obtain⟨s,hs⟩:=lM (l:=m.cs) (k:=n-1) (by have:=HN.out;omega)
  obtain⟨d0,d1,d2⟩:=zY hc az hB' hs
  have hla:Cm.lastE m.p (aH m.cs)=s.e:=agd (aH m.cs) m.p s.c (by rw[dE,HN.out,oF,hs];rfl)
  have hq:ans=decide (s.e≤m.e):=HD.out.dec (fun hx=>⟨by omega,by omega,by omega,by omega,HB.out,by have:=HN.out;omega,fun c hc=>by have:=(xH _ _ _ HG.out).2 c hc;omega,HG.out⟩) (fun k=>k.2.2.2.2.2.2.1 s.c (by unfold aH;exact List.mem_map_of_mem (List.mem_of_getElem? hs)))
  subst hq
  obtain⟨k,hk⟩:∃k,n-1=k:=⟨_,rfl⟩
  rw[hk]at d0 d1 d2
  have hne:((n:Int)==0)=false:=by simp;omega
  have hsub:(n:Int)-1=(k:Int):=by omega
  have hk1:(k:Int)<(n:Int):=by omega
  clear hc hs hz NO HD HG HB hla hk C i1'
  go_wp2
  have hk1:(k:Int)<(n:Int):=by omega
  go_big_quiet (fail)
  go_wp2
  go_ret
  exact⟨rfl,below_drewN aO _⟩
end Go.Proofs.YtlmkaljjocflmaaGreatDoor
