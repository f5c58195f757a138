/- Texts. -/
import Derived.Test.YtlmkaljjocflmaaGreatDoorBH7
import Derived.Lib.Bytealg
import Derived.Test.YtlmkaljjocflmaaGreatDoorBZRg
import Derived.Test.YtlmkaljjocflmaaGreatDoorBH11
import Derived.Test.YtlmkaljjocflmaaGreatDoorBH13
import Derived.Test.YtlmkaljjocflmaaGreatDoorBH8
import Derived.Test.YtlmkaljjocflmaaGreatDoorBH10
import Derived.Test.YtlmkaljjocflmaaGreatDoorBH1
import Derived.Test.YtlmkaljjocflmaaGreatDoorBH26
set_option maxRecDepth 100000
set_option maxHeartbeats 8000000
set_option linter.unusedVariables false
open Go.Proofs.Tryz
namespace Go.Proofs.YtlmkaljjocflmaaGreatDoor
open Go.RowKit
open Bm (Ov)
theorem acu:∀(a b:List UInt8),(Lib.compareBytes a b<0)=(Op.bytesLess a b=true)∧(Lib.compareBytes a b=0↔a=b)
 |[],[]=>by simp[Lib.compareBytes,Op.bytesLess]
 |[],y::b=>by simp[Lib.compareBytes,Op.bytesLess]
 |x::a,[]=>by simp[Lib.compareBytes,Op.bytesLess]
 |x::a,y::b=>by
  obtain⟨h1,h2⟩:=acu a b
  unfold Lib.compareBytes Op.bytesLess
  by_cases h:x<y
  ·rw[if_pos h]
   have hne:x≠y:=fun e=>by subst e;exact absurd h (UInt8.lt_irrefl x)
   simp[h,hne]
  ·rw[if_neg h]
   by_cases h':y<x
   ·rw[if_pos h']
    have hne:x≠y:=fun e=>by subst e;exact absurd h' (UInt8.lt_irrefl x)
    simp[h,hne]
   ·rw[if_neg h']
    have he:x=y:=by
     rcases UInt8.lt_or_lt_of_ne (a:=x) (b:=y)|>fun f=>Classical.em (x=y)with e|e
     ·exact e
     ·rcases UInt8.lt_or_lt_of_ne e with e|e
      ·exact absurd e h
      ·exact absurd e h'
    subst he
    rw[h1]
    simp[h2]
def oN (a b:ByteArray):Int:=Lib.compareBytes a.data.toList b.data.toList
theorem sZ (a b:ByteArray):oN a b<0↔Tm.lt a b=true:=by
 unfold oN Tm.lt
 rw[(acu _ _).1,Tm.nE]
theorem afx (a b:ByteArray):oN a b=0↔a=b:=by
 unfold oN
 rw[(acu _ _).2]
 exact⟨Bm.pM,fun e=>by rw[e]⟩
theorem arA (a b:ByteArray)(w:World):Calls prog 344 #[.string a,.string b] w fun E w'=>E=.returned (.int .i64 (oN a b))∧w=w':=by
 unfold oN
 go_enter func344,ntmps344
 go_wp2
 rw[run_callFunc_extern func350 (by kernel_rfl) (by kernel_rfl) (by kernel_rfl) (e:=Extern.BytealgCompare.compare) (by kernel_rfl),Lib.run_compareString]
 simp only[Result.andThen]
 rw[Oper.upon_value]
 go_wp2
 go_ret
 exact⟨rfl,rfl⟩
theorem aqo (a b:ByteArray)(w:World):Calls prog 334 #[.string a,.string b] w fun E w'=>E=.returned (.int .i64 (oN a b))∧w=w':=by
 go_enter func334,ntmps334
 go_wp2_with fail
 refine(arA a b w).mono ?_
 rintro E w' ⟨rfl,rfl⟩
 go_wp2
 go_ret
 exact⟨rfl,rfl⟩
theorem zH (p:Bool)(k v key:ByteArray)(w:World):Calls prog 315 #[.agg #[.bool p,.string k,.string v],.string key] w fun E w'=>E=.returned (.int .i64 (oN k key))∧Below w.heap.size w w':=by
 obtain⟨w1,hw1,aV,aj,hB⟩:=au w #[.bool p,.string k,.string v] 71
 have c1:=ai hB 1 rfl
 clear hB
 go_enter func315,ntmps315
 go_wp2_with fail
 refine(aqo k key _).mono ?_
 rintro E w' ⟨rfl,rfl⟩
 go_wp2
 go_ret
 exact⟨rfl,aj⟩
theorem Tryz.akV:∀args w,(callFunc 315 args).run prog w=.ok (.enter 315 args) w:=enters_of func315 (by kernel_rfl) rfl
def Bin (l:List Ov) (key:ByteArray) (i j:Nat):Prop:=(∀t o,t<i→l[t]? =some o→oN o.k key<0)∧∀t o,j≤t→l[t]? =some o→0≤oN o.k key
theorem ako {l:List Ov}(hu:Tm.Up l){s t:Nat}{o q:Ov}(hs:l[s]? =some o)(ht:l[t]? =some q)(h:s<t):Tm.lt o.k q.k=true:=by
 obtain⟨h1,rfl⟩:=List.getElem?_eq_some_iff.1 hs
 obtain⟨h2,rfl⟩:=List.getElem?_eq_some_iff.1 ht
 exact List.pairwise_iff_getElem.1 hu s t h1 h2 h
theorem Bin.left {l:List Ov}{key:ByteArray}{i j m:Nat}{o:Ov}(h:Bin l key i j)(hu:Tm.Up l)(hm:l[m]? =some o)(hc:oN o.k key<0):Bin l key (m+1) j:=by
 refine⟨fun t q ht hq=>?_,h.2⟩
 by_cases e:t=m
 ·subst e
  rw[hm]at hq
  cases hq
  exact hc
 ·exact(sZ _ _).2 (Tm.lt_trans (ako hu hq hm (by omega)) ((sZ _ _).1 hc))
theorem Bin.right {l:List Ov}{key:ByteArray}{i j m:Nat}{o:Ov}(h:Bin l key i j)(hu:Tm.Up l)(hm:l[m]? =some o)(hc:¬oN o.k key<0):Bin l key i m:=by
 refine⟨h.1,fun t q ht hq=>?_⟩
 by_cases e:t=m
 ·subst e
  rw[hm]at hq
  cases hq
  omega
 ·refine Int.not_lt.1 fun hn=>hc ((sZ _ _).2 (Tm.lt_trans (ako hu hm hq (by omega)) ((sZ _ _).1 hn)))
theorem Bin.found {l:List Ov}{key:ByteArray}{i:Nat}{o:Ov}(hu:Tm.Up l)(ho:l[i]? =some o)(hc:oN o.k key=0):Tm.get l key=some o:=by
 rw[←(afx _ _).1 hc]
 exact Tm.get_mem hu (List.mem_of_getElem? ho)
theorem Bin.lost {l:List Ov}{key:ByteArray}{i:Nat}(h:Bin l key i i)(hu:Tm.Up l)(hc:∀o,l[i]? =some o→¬oN o.k key=0):Tm.get l key=none:=by
 refine List.find?_eq_none.2 fun x hx=>?_
 obtain⟨t,ht⟩:=List.getElem?_of_mem hx
 simp only[decide_eq_true_eq]
 intro e
 have hz:=(afx _ _).2 e
 by_cases h1:t<i
 ·have:=h.1 t x h1 ht
  omega
 ·by_cases h2:t=i
  ·subst h2
   exact hc x ht hz
  ·have hlt:i<t:=by omega
   obtain⟨q,hq⟩:∃q,l[i]? =some q:=by
    have:=(List.getElem?_eq_some_iff.1 ht).1
    exact⟨l[i]'(by omega),by rw[List.getElem?_eq_getElem]⟩
   have h3:=h.2 i q (Nat.le_refl _) hq
   have h4:=ako hu hq ht hlt
   rw[e]at h4
   have:=(sZ _ _).2 h4
   omega
theorem aho (v:Value)(l:List Ov)(key:ByteArray)(w:World)(h:bM w v l)(hu:Tm.Up l)(hl:l.length≤1024):
  Calls prog 314 #[v,.string key,.func (.func 315) #[] #[]] w fun E w'=>∃(i:Nat) (f:Bool),E=.returned (.tuple #[.int .i64 i,.bool f])∧Below w.heap.size w w'∧Hid ((f=true∧∃o,l[i]? =some o∧Tm.get l key=some o)∨(f=false∧Tm.get l key=none)):=by
 obtain⟨ao,cap,hsv,hcap,_⟩:=h.shape
 have iR:=hide fun(h0:0<l.length)=>h.full h0
 subst hsv
 obtain⟨n,hnn⟩:∃n,l.length=n:=⟨_,rfl⟩
 rw[hnn]at iR hcap hl⊢
 have HN:=hide hnn
 have HU:=hide hu
 have hent:=Tryz.akV
 clear h hnn hu
 go_enter func314,ntmps314
 go_wp2
 go_loopw [9,10] (fun iv jv wr=>∃(i j:Nat),i≤j∧j≤n∧iv=.int .i64 i∧jv=.int .i64 j∧Hid (Bin l key i j)∧Below w.heap.size w wr) (fun iv jv _=>(intOf jv).toNat-(intOf iv).toNat)
 case atStart=>exact⟨0,n,by omega,by omega,rfl,rfl,hide ⟨fun t o ht=>by omega,fun t o ht ho=>by have:=(List.getElem?_eq_some_iff.1 ho).1;have:=HN.out;omega⟩,Below.refl _ _⟩
 case round=>
  obtain⟨i,j,hij,hjn,rfl,rfl,HB,aI⟩:=hrel
  have sz:=aI.size
  by_cases hlt:i<j
  ·obtain⟨m,hm⟩:∃m,m=(i+j) / 2:=⟨_,rfl⟩
   obtain⟨o,ho⟩:∃o,l[m]? =some o:=⟨l[m]'(by have:=HN.out;omega),by rw[List.getElem?_eq_getElem]⟩
   obtain⟨b1,o1,cq,dI,_,_,hB,hcell⟩:=iR.out (by omega)
   simp only[Value.slice.injEq,true_and]at dI
   obtain⟨rfl,rfl⟩:=dI
   obtain⟨c0,c1,c2⟩:=hcell m o ho
   have d0:=(aI.cell (p:=⟨b1,o1+m*3,none⟩) hB).trans c0
   have d1:=(aI.cell (p:=⟨b1,o1+m*3+1,none⟩) hB).trans c1
   have d2:=(aI.cell (p:=⟨b1,o1+m*3+2,none⟩) hB).trans c2
   rw[hm]at d0 d1 d2
   have HO:=hide ho
   have hlt':(i:Int)<j:=by omega
   have hmn:((i:Int)+j) / 2<n:=by omega
   have HM:=hide hm
   have HC:=hide (fun W=>zH o.p o.k o.v key W)
   obtain⟨cc,hcc⟩:∃c,oN o.k key=c:=⟨_,rfl⟩
   rw[hcc]at HC
   have o8:=hide hcc
   clear c0 c1 c2 ho hcell hm hcc
   by_cases hneg:cc<0
   ·have HB2:=hide (HB.out.left HU.out HO.out (by rw[o8.out];exact hneg))
    go_wp2_with (go_at_fn 315;refine(HC.out _).mono ?_;rintro E w1 ⟨rfl,aj⟩)
    have az:=aI.trans (aj.mono sz)
    clear aj
    go_wp2
    go_roundw
    case rel=>exact⟨m+1,j,by have:=HM.out;omega,hjn,by have:=HM.out;congr 1;omega,rfl,HB2,az⟩
    case measure=>simp[intOf];have:=HM.out;omega
   ·have HB2:=hide (HB.out.right HU.out HO.out (by rw[o8.out];exact hneg))
    go_wp2_with (go_at_fn 315;refine(HC.out _).mono ?_;rintro E w1 ⟨rfl,aj⟩)
    have az:=aI.trans (aj.mono sz)
    clear aj
    go_wp2
    go_roundw
    case rel=>exact⟨i,m,by have:=HM.out;omega,by have:=HM.out;omega,rfl,by have:=HM.out;congr 1;omega,HB2,az⟩
    case measure=>simp[intOf];have:=HM.out;omega
  ·obtain rfl:j=i:=by omega
   by_cases hin:j<n
   ·obtain⟨o,ho⟩:∃o,l[j]? =some o:=⟨l[j]'(by have:=HN.out;omega),by rw[List.getElem?_eq_getElem]⟩
    obtain⟨b1,o1,cq,dI,_,_,hB,hcell⟩:=iR.out (by omega)
    simp only[Value.slice.injEq,true_and]at dI
    obtain⟨rfl,rfl⟩:=dI
    obtain⟨c0,c1,c2⟩:=hcell j o ho
    have d0:=(aI.cell (p:=⟨b1,o1+j*3,none⟩) hB).trans c0
    have d1:=(aI.cell (p:=⟨b1,o1+j*3+1,none⟩) hB).trans c1
    have d2:=(aI.cell (p:=⟨b1,o1+j*3+2,none⟩) hB).trans c2
    have HO:=hide ho
    have hin':(j:Int)<n:=by omega
    have HC:=hide (fun W=>zH o.p o.k o.v key W)
    obtain⟨cc,hcc⟩:∃c,oN o.k key=c:=⟨_,rfl⟩
    rw[hcc]at HC
    have o8:=hide hcc
    clear c0 c1 c2 ho hcell hcc
    obtain⟨f,hf⟩:∃f,(cc==0)=f:=⟨_,rfl⟩
    have FIN:Hid ((f=true∧∃o,l[j]? =some o∧Tm.get l key=some o)∨(f=false∧Tm.get l key=none)):=hide (by
     by_cases hz:cc=0
     ·exact .inl ⟨by rw[←hf];simp[hz],o,HO.out,Bin.found HU.out HO.out (by rw[o8.out];exact hz)⟩
     ·refine .inr ⟨by rw[←hf];simp[hz],HB.out.lost HU.out fun q hq=>?_⟩
      rw[HO.out]at hq
      cases hq
      rw[o8.out]
      exact hz)
    go_wp2_with (go_at_fn 315;refine(HC.out _).mono ?_;rintro E w1 ⟨rfl,aj⟩)
    have az:=aI.trans (aj.mono sz)
    clear aj
    go_wp2
    go_ret2
    exact⟨j,f,rfl,az,FIN⟩
   ·have hin':¬(j:Int)<n:=by omega
    have FIN:Hid (((false:Bool)=true∧∃o,l[j]? =some o∧Tm.get l key=some o)∨((false:Bool)=false∧Tm.get l key=none)):=hide (.inr ⟨rfl,HB.out.lost HU.out fun q hq=>by have:=(List.getElem?_eq_some_iff.1 hq).1;have:=HN.out;omega⟩)
    go_wp2
    go_ret2
    have NN:Hid (Tm.get l key=none):=hide (by rcases FIN.out with⟨h,_⟩|⟨_,h⟩;cases h;exact h)
    first|exact⟨j,false,rfl,aI,FIN⟩|exact⟨j,.inl ⟨rfl,aI,NN⟩⟩
end Go.Proofs.YtlmkaljjocflmaaGreatDoor
namespace Go.Proofs.YtlmkaljjocflmaaGreatDoor
open Go.RowKit Go.Shelf
attribute [local go_sem] Oper.semAt_some
def dn (L:Nat):Nat→List (Nx L)
 |0=>[]
 |k+1=>dn L k++(if h:k<L then [⟨L-1-k,by omega⟩]else [])
theorem tK (L k:Nat)(h:k<L):dn L (k+1)=dn L k++[⟨L-1-k,by omega⟩]:=by rw[dn,dif_pos h]
theorem amJ (L:Nat):∀k,k≤L→(dn L k).length=k
 |0,_=>rfl
 |k+1,h=>by
  rw[tK L k (by omega),List.length_append,amJ L k (by omega)]
  rfl
def jd (rs:List Cw) (x:Nx rs.length):Cw:=rs[x.1]'x.2
def cvv (c:Cw):Value:=.agg #[.int .i64 c.e,.int .i64 c.n,c.v]
theorem apm (n:Nat)(hn:1≤n)(l B:Nat)(rs:List Cw)(sv:Value)(S:Nat→Prop)(hSB:S B)(hSv:∀b,sv.ownBlock=some b→S b)(ry:rs.length≤1048576)(J Jx:List (Nx rs.length)→World→Prop)(W:World)(hSW:∀g,S g→g<W.heap.size)(hJ:AbidesFrom W.heap.size J)
  (hY:∀pre x W1,J pre W1→pre.length<rs.length→YieldAt Fence.wide (n-1) prog l #[.int .i64 x.1,cvv (jd rs x)] W1 fun e W'=>(e=.returned (.bool true)∧J (pre++[x]) W'∧Kn S W1 W')∨(e=.returned (.bool false)∧Jx (pre++[x]) W'))
  (hB:W.cell? ⟨B,0,none⟩=some sv) (his:eD W sv rs) (h0:J [] W):
  CallsIn Fence.wide n prog 333 #[.func (.yield l) #[] #[],.pointer (some ⟨B,0,none⟩)] W fun e W'=>(∃v,e=.returned v)∧((∃xs,xs=dn rs.length rs.length∧J xs W')∨(∃pre,(∃k,k≤rs.length∧pre=dn rs.length k)∧Jx pre W')):=by
 have hro:Fence.wide.round=none:=rfl
 obtain⟨ao,cap,hsv,hcap,hcm⟩:=his.shape
 have iR:=hide fun(h0:0<rs.length)=>his.full h0
 subst hsv
 have tL:=hide hSW
 have HJ0:=hide hJ
 have HY:=hide hY
 have hw0:IntKind.i64.wrap ((rs.length:Int)-1)=(rs.length:Int)-1:=aQ _ (by omega) (by omega)
 clear his hSW hJ hY
 refine callsIn_of_wp func333 rfl trivial ?_ hro
 simp only[ntmps333,List.size_toArray,List.length_cons,List.length_nil,Nat.reduceAdd,Nat.reduceSub,Array.replicate_succ,Array.replicate_zero,List.push_toArray,List.append_toArray,List.nil_append,List.cons_append]
 gi_wp2
 gi_loopw [3] (fun iv wr=>∃(k:Nat) (z:Int),k≤rs.length∧iv=.int .i64 z∧z=(rs.length:Int)-1-k∧Hid (J (dn rs.length k) wr)∧Kn S W wr) (fun iv _=>(intOf iv+1).toNat)
 case atStart=>exact⟨0,(rs.length:Int)-1,Nat.zero_le _,rfl,by omega,h0,fun _ _=>rfl⟩
 case round=>
  obtain⟨k,z,hk,rfl,hz,HJ,hK⟩:=hrel
  have hbx:=(iI (hK B hSB) 0).trans hB
  by_cases hlt:k<rs.length
  ·obtain⟨i,hi⟩:∃i,rs.length-1-k=i:=⟨_,rfl⟩
   have hil:i<rs.length:=by omega
   obtain rfl:z=(i:Int):=by omega
   obtain⟨b,off,cq,dI,_,_,hb,hcell⟩:=iR.out (by omega)
   simp only[Value.slice.injEq,true_and]at dI
   obtain⟨rfl,rfl⟩:=dI
   obtain⟨c,hc⟩:∃c,jd rs ⟨i,hil⟩=c:=⟨_,rfl⟩
   have hc':rs[i]? =some c:=by rw[List.getElem?_eq_getElem hil,←hc];rfl
   obtain⟨c0,c1,c2⟩:=hcell i c hc'
   have hkb:=hK b (hSv b rfl)
   have d0:=(iI hkb (off+i*3)).trans c0
   have d1:=(iI hkb (off+i*3+1)).trans c1
   have d2:=(iI hkb (off+i*3+2)).trans c2
   have HJN:Hid (∀W3,J (dn rs.length k++[⟨i,hil⟩]) W3→J (dn rs.length (k+1)) W3):=hide fun W3 h=>by
    rw[tK _ k hlt]
    subst hi
    exact h
   have HJX:Hid (∀W3,Jx (dn rs.length k++[⟨i,hil⟩]) W3→Jx (dn rs.length (k+1)) W3):=hide fun W3 h=>by
    rw[tK _ k hlt]
    subst hi
    exact h
   obtain⟨fn,tmps,assign,body,hy,hR⟩:=HY.out _ ⟨i,hil⟩ wr HJ.out (by rw[amJ _ k hk];omega)
   rw[hc]at hy
   unfold cvv at hy
   have hlt':(i:Int)<rs.length:=by omega
   have hi0:(0:Int)≤(i:Int):=by omega
   have hw1:IntKind.i64.wrap ((i:Int)-1)=(i:Int)-1:=aQ _ (by omega) (by omega)
   have HR:=hide hR
   have HK:=hide hK
   have HI:=hide hi
   clear hR hcell hSv hK c0 c1 c2 hkb hc hc' hz hi
   gi_wp2
   refine HR.out.mono ?_
   rintro e W3 (⟨rfl,hJ3,hk3⟩|⟨rfl,hJx3⟩)
   ·have qw:Hid (J (dn rs.length (k+1)) W3):=hide (HJN.out W3 hJ3)
    have hK4:=HK.out.trans hk3
    clear hJ3
    gi_wp2
    go_roundw
    case rel=>exact⟨k+1,(i:Int)-1,by omega,by go_num,by have:=HI.out;omega,qw,hK4⟩
    case measure=>simp[intOf]
   ·have qw:Hid (Jx (dn rs.length (k+1)) W3):=hide (HJX.out W3 hJx3)
    clear hJx3
    gi_wp2
    refine bodyPost_ret (results_none rfl _ _ _) rfl ?_
    exact⟨⟨_,rfl⟩,.inr ⟨_,⟨k+1,by omega,rfl⟩,qw.out⟩⟩
  ·obtain rfl:k=rs.length:=by omega
   have hz':¬(0:Int)≤z:=by omega
   clear hz
   gi_wp2
   go_end0
   exact⟨⟨_,rfl⟩,.inl HJ.out⟩
theorem arq (v:Value)(hv:∃a n c,v=.slice a n c)(w:World):Calls prog 313 #[v] w fun e w'=>e=.returned (.func (.func 333) #[] #[.pointer (some ⟨w.heap.size,0,none⟩)])∧w'=w.alloc (.cells #[v] 92):=by
 obtain⟨a,n,c,rfl⟩:=hv
 go_enter func313,ntmps313
 go_wp2
 go_ret
 exact⟨rfl,rfl⟩
def yV (B:Nat) (sv:Value) (g:Nat):Prop:=g=B∨sv.ownBlock=some g
theorem aqa (n:Nat)(hn:1≤n)(B:Nat)(rs:List Cw)(sv:Value)(w:World)(hB:w.cell? ⟨B,0,none⟩=some sv)(hlt:∀g,yV B sv g→g<w.heap.size)(his:eD w sv rs)(ry:rs.length≤1048576):
  SeqStopsK Fence.wide n prog 333 #[.pointer (some ⟨B,0,none⟩)] (fun x:Nx rs.length=>#[.int .i64 x.1,cvv (jd rs x)]) (Kn (yV B sv)) (fun xs=>xs=dn rs.length rs.length) (fun pre=>∃k,k≤rs.length∧pre=dn rs.length k) rs.length w:=fun l J Jx W hW hJ hJx hY h0=>
 apm n hn l B rs sv (yV B sv) (.inl rfl) (fun b hb=>.inr hb) ry J Jx W (fun g hg=>Nat.lt_of_lt_of_le (hlt g hg) hW.size) hJ hY ((hW.cell (p:=⟨B,0,none⟩) (hlt B (.inl rfl))).trans hB) (his.below hW) h0
end Go.Proofs.YtlmkaljjocflmaaGreatDoor
namespace Go.Proofs.YtlmkaljjocflmaaGreatDoor
open Go.RowKit Go.Shelf
open Bm (Ov)
attribute [local go_sem] Oper.semAt_some
theorem Tryz.ayB:prog.follows .mixedOrders=true:=by kernel_rfl
theorem amS {t:List Ov}{k:ByteArray}{o:Ov}(h:Tm.get t k=some o):gv t k=o.v∧Tm.met t k=true∧gp t k=o.p:=by
 unfold gv gp
 rw[Tm.yO,h]
 exact⟨rfl,rfl,rfl⟩
theorem anT {t:List Ov}{k:ByteArray}(h:Tm.get t k=none):gv t k=⟨#[]⟩∧Tm.met t k=false∧gp t k=false:=by
 unfold gv gp
 rw[Tm.yO,h]
 exact⟨rfl,rfl,rfl⟩
theorem ab3 {rs:List Cw}{l:List Cm.Cv}(he:aD rs=l){i:Nat}(hi:i<rs.length):l[i]? =some (jd rs ⟨i,hi⟩).c:=by
 rw[←he,aD,List.getElem?_map,List.getElem?_eq_getElem hi]
 rfl
theorem aab {rs:List Cw}{l:List Cm.Cv}(he:aD rs=l)(hg:Rl.Good 0 l)(key:ByteArray):∀k,k≤rs.length→(∀y∈dn rs.length k,Tm.get (jd rs y).l key=none)→Tm.get (Rl.tab l) key=Tm.get (Rl.tab (l.take (rs.length-k))) key
 |0,_,_=>by
  have hl:rs.length=l.length:=by rw[←he,aD,List.length_map]
  rw[Nat.sub_zero,hl,List.take_length]
 |k+1,hk,h=>by
  rw[tK _ k (by omega)]at h
  have h1:=aab he hg key k (by omega) fun y hy=>h y (List.mem_append_left _ hy)
  have hi:rs.length-1-k<rs.length:=by omega
  have hc:=ab3 he hi
  have hu:=(Rl.ni hg _ (List.mem_of_getElem? hc)).1
  have h2:=Rl.aeO key hu hc
  rw[show rs.length-1-k+1=rs.length-k by omega]at h2
  have h3:Tm.get (jd rs ⟨rs.length-1-k,hi⟩).c.l key=none:=h ⟨rs.length-1-k,hi⟩ (by simp)
  rw[h1,h2,h3]
  show Tm.get (Rl.tab (l.take (rs.length-1-k))) key=_
  rw[show rs.length-1-k=rs.length-(k+1)by omega]
theorem ars {rs:List Cw}{l:List Cm.Cv}(he:aD rs=l)(hg:Rl.Good 0 l)(key:ByteArray){k:Nat}{pre:List (Nx rs.length)}{x:Nx rs.length}{o:Ov}(hk:k≤rs.length)(hp:dn rs.length k=pre++[x])(h:∀y∈pre,Tm.get (jd rs y).l key=none)(ho:Tm.get (jd rs x).l key=some o):Tm.get (Rl.tab l) key=some o:=by
 rcases k with _|k
 ·simp[dn]at hp
 ·rw[tK _ k (by omega)]at hp
  obtain⟨e1,e2⟩:=List.append_inj' hp rfl
  subst e1
  have hi:rs.length-1-k<rs.length:=by omega
  have e3:x=⟨rs.length-1-k,hi⟩:=by simpa using e2.symm
  rw[e3]at ho
  have hc:=ab3 he hi
  have hu:=(Rl.ni hg _ (List.mem_of_getElem? hc)).1
  have h2:=Rl.aeO key hu hc
  rw[show rs.length-1-k+1=rs.length-k by omega]at h2
  have h3:Tm.get (jd rs ⟨rs.length-1-k,hi⟩).c.l key=some o:=ho
  rw[aab he hg key k (by omega) h,h2,h3]
theorem atv (key:ByteArray):Tm.get (Rl.tab []) key=none:=rfl
theorem amm {W:World}{R1 R2 R3:Nat}{t1 t2:TypeId}{x1 x2 x3:Value}(h1:W.heap[R1]? =some (.cells #[x1] t1 (0,0)))(h2:W.heap[R2]? =some (.cells #[x2] t2 (0,0)))(h3:W.heap[R3]? =some (.cells #[x3] t2 (0,0)))(n12:R1≠R2)(n13:R1≠R3)(n23:R2≠R3)(a b c:Value):
  ∃V,((W.setCell ⟨R1,0,none⟩ a).setCell ⟨R2,0,none⟩ b).setCell ⟨R3,0,none⟩ c=V∧V.cell? ⟨R1,0,none⟩=some a∧V.cell? ⟨R2,0,none⟩=some b∧V.cell? ⟨R3,0,none⟩=some c∧V.heap.size=W.heap.size∧(∀g,g≠R1→g≠R2→g≠R3→V.heap[g]? =W.heap[g]?)∧Out (fun g=>g=R1∨g=R2∨g=R3) W V∧
   (V.heap[R1]? =some (.cells #[a] t1 (0,0))∧V.heap[R2]? =some (.cells #[b] t2 (0,0))∧V.heap[R3]? =some (.cells #[c] t2 (0,0))):=by
 have q1:=aF h1 0 a
 have q2:(W.setCell ⟨R1,0,none⟩ a).heap[R2]? =_:=(Below.heap_setCell W ⟨R1,0,none⟩ a R2 n12.symm).trans h2
 have q3:(W.setCell ⟨R1,0,none⟩ a).heap[R3]? =_:=(Below.heap_setCell W ⟨R1,0,none⟩ a R3 n13.symm).trans h3
 have r2:=aF q2 0 b
 have r1:=(Below.heap_setCell (W.setCell ⟨R1,0,none⟩ a) ⟨R2,0,none⟩ b R1 n12).trans q1
 have r3:=(Below.heap_setCell (W.setCell ⟨R1,0,none⟩ a) ⟨R2,0,none⟩ b R3 n23.symm).trans q3
 have s3:=aF r3 0 c
 have s1:=(Below.heap_setCell ((W.setCell ⟨R1,0,none⟩ a).setCell ⟨R2,0,none⟩ b) ⟨R3,0,none⟩ c R1 n13).trans r1
 have s2:=(Below.heap_setCell ((W.setCell ⟨R1,0,none⟩ a).setCell ⟨R2,0,none⟩ b) ⟨R3,0,none⟩ c R2 n23).trans r2
 have o1:Out (fun g=>g=R1∨g=R2∨g=R3) W (W.setCell ⟨R1,0,none⟩ a):=Out.aM (ax W ⟨R1,0,none⟩ a) fun g hg=>.inl (by simp at hg;exact hg.symm)
 have o2:Out (fun g=>g=R1∨g=R2∨g=R3) W ((W.setCell ⟨R1,0,none⟩ a).setCell ⟨R2,0,none⟩ b):=o1.trans (Out.aM (F:=fun g=>g=R1∨g=R2∨g=R3) (ax _ ⟨R2,0,none⟩ b) fun g hg=>.inr (.inl (by simp at hg;exact hg.symm))) fun g hg=>.inl hg
 have o3:Out (fun g=>g=R1∨g=R2∨g=R3) W (((W.setCell ⟨R1,0,none⟩ a).setCell ⟨R2,0,none⟩ b).setCell ⟨R3,0,none⟩ c):=o2.trans (Out.aM (F:=fun g=>g=R1∨g=R2∨g=R3) (ax _ ⟨R3,0,none⟩ c) fun g hg=>.inr (.inr (by simp at hg;exact hg.symm))) fun g hg=>.inl hg
 refine⟨_,rfl,ai s1 0 rfl,ai s2 0 rfl,ai s3 0 rfl,by simp,fun g n1 n2 n3=>?_,o3,by exact s1,by exact s2,by exact s3⟩
 exact(Below.heap_setCell _ _ _ g n3).trans ((Below.heap_setCell _ _ _ g n2).trans (Below.heap_setCell _ _ _ g n1))
theorem awN (p q:Nat)(w:World)(l:List Cm.Cv)(bk:Bool)(v:Value)(rs:List Cw)(key:ByteArray)(hv:tT p q w l bk v rs):
  Calls prog 287 #[.pointer (some ⟨p,0,none⟩),.string key] w fun E w'=>E=.returned (.tuple #[.string (gv (Rl.tab l) key),.bool (Tm.met (Rl.tab l) key),.bool (gp (Rl.tab l) key)])∧Below w.heap.size w w':=by
 obtain⟨w1,hw1,aV,aj,B1⟩:=au w #[.string key] 9
 obtain⟨w2,hw2,dA,az,B2⟩:=au w1 #[.string ⟨#[]⟩] 9
 obtain⟨w3,hw3,bO,aC,B3⟩:=au w2 #[.bool false] 4
 obtain⟨w4,hw4,iK,aL,B4⟩:=au w3 #[.bool false] 4
 obtain⟨W0,iw,mO,aS,B5⟩:=au w4 #[v] 92
 rw[aV]at B2
 rw[Bq,aV]at az
 rw[show w2.heap.size=w.heap.size+2 by omega]at B3
 rw[Bq,show w2.heap.size=w.heap.size+2 by omega]at aC
 rw[show w3.heap.size=w.heap.size+3 by omega]at B4
 rw[Bq,show w3.heap.size=w.heap.size+3 by omega]at aL
 rw[show w4.heap.size=w.heap.size+4 by omega]at B5
 rw[Bq,show w4.heap.size=w.heap.size+4 by omega]at aS
 have dC:Below w.heap.size w w4:=((aj.trans (az.mono (by omega))).trans (aC.mono (by omega))).trans (aL.mono (by omega))
 have dh:Below w.heap.size w W0:=dC.trans (aS.mono (by omega))
 have hv4:tT p q w4 l bk v rs:=⟨(dC.block p (ay hv.blk)).trans hv.blk,hv.log.below dC⟩
 have HM:=hide (nR p q w4 _ _ hv4.blk)
 have c2:=ai hv4.blk 2 rfl
 simp only[List.getElem_toArray,List.getElem_cons_zero,List.getElem_cons_succ]at c2
 have HCH:Hid (Calls prog 313 #[v] w4 fun e w'=>e=.returned (.func (.func 333) #[] #[.pointer (some ⟨w.heap.size+4,0,none⟩)])∧W0=w'):=hide (by
  obtain⟨a1,k1,h1,_⟩:=hv4.log.row.row.shape
  refine(arq v ⟨a1,_,k1,h1⟩ w4).mono ?_
  rintro e w' ⟨rfl,rfl⟩
  rw[show w4.heap.size=w.heap.size+4 by omega]
  exact⟨rfl,by rw[iw]⟩)
 obtain⟨la,ln,lk,hlv⟩:∃a n k,v=.slice a n k:=by
  obtain⟨a1,k1,h1,_⟩:=hv.log.row.row.shape
  exact⟨a1,_,k1,h1⟩
 have hmx:=Tryz.ayB
 have hsl:rs.length≤1048576:=hv.log.xw
 have D0:W0.heap[w.heap.size]? =some (.cells #[.string key] 9 (0,0)):=(aS.block _ (by omega)).trans ((aL.block _ (by omega)).trans ((aC.block _ (by omega)).trans ((az.block _ (by omega)).trans B1)))
 have D1:W0.heap[w.heap.size+1]? =some (.cells #[.string ⟨#[]⟩] 9 (0,0)):=(aS.block _ (by omega)).trans ((aL.block _ (by omega)).trans ((aC.block _ (by omega)).trans B2))
 have D2:W0.heap[w.heap.size+2]? =some (.cells #[.bool false] 4 (0,0)):=(aS.block _ (by omega)).trans ((aL.block _ (by omega)).trans B3)
 have D3:W0.heap[w.heap.size+3]? =some (.cells #[.bool false] 4 (0,0)):=(aS.block _ (by omega)).trans B4
 have hrow:eD W0 v rs:=hv.log.row.row.below dh
 have hvb:∀g,v.ownBlock=some g→g<w.heap.size:=fun g hg=>(World.ownsRow.lt hv.log.row g hg).2
 have SEQ:=hide (aqa 5 (by omega) (w.heap.size+4) rs v W0 (ai B5 0 rfl) (fun g hg=>by
  rcases hg with e|e
  ·omega
  ·have:=hvb g e;omega) hrow hsl)
 have HQ:Hid (∀x:Nx rs.length,∀W,Below W0.heap.size W0 W→bM W (jd rs x).v (jd rs x).l):=hide fun x W hb=>((hv.log.iH _ (List.getElem_mem x.2)).is.below dh).below hb
 have HUP:Hid (∀x:Nx rs.length,Tm.Up (jd rs x).l∧(jd rs x).l.length≤1024):=hide fun x=>by
  have hc:=Rl.ni hv.log.good _ (List.mem_of_getElem? (ab3 hv.log.is x.2))
  exact⟨hc.1,hc.2.2⟩
 have HBK:Hid (∀x:Nx rs.length,∀b,(jd rs x).v.ownBlock=some b→b<w.heap.size):=hide fun x b hb=>((hv.log.iH _ (List.getElem_mem x.2)).block b hb).2
 have HIS:=hide hv.log.is
 have HGD:=hide hv.log.good
 have HVB:=hide hvb
 replace dA:w2.heap.size=w.heap.size+2:=by omega
 replace bO:w3.heap.size=w.heap.size+3:=by omega
 replace iK:w4.heap.size=w.heap.size+4:=by omega
 replace mO:W0.heap.size=w.heap.size+5:=by omega
 have DD:=hide (And.intro D0 (And.intro D1 (And.intro D2 D3)))
 have akm:=hide dh
 subst hlv
 clear iw hv hv4 B1 B2 B3 B4 B5 aj az aC aL aS dC D0 D1 D2 D3 hrow hvb dh
 refine(callsIn_wide (n:=6)).1 ?_
 refine callsIn_of_wp_marks func287 rfl trivial ?_ rfl
 simp only[ntmps287,List.size_toArray,List.length_cons,List.length_nil,Nat.reduceAdd,Nat.reduceSub,Array.replicate_succ,Array.replicate_zero,List.push_toArray,List.append_toArray,List.nil_append,List.cons_append]
 gi_wp2_with fail
 refine⟨trivial,(callsIn_wide.2 HM.out).mono ?_⟩
 rintro E w' ⟨rfl,rfl⟩
 gi_wp2_with fail
 refine⟨trivial,(callsIn_wide.2 HCH.out).mono ?_⟩
 rintro E w' ⟨rfl,rfl⟩
 clear hw1 hw2 hw3 hw4 c2 HM HCH
 gi_wp2_with fail
 apply wpIn_rangeFunc_ownH rfl (by omega) (gf:=333) (lb:=#[.pointer (some ⟨w.heap.size+4,0,none⟩)]) rfl trivial (enters_of func333 (by kernel_rfl) rfl) (encs:=fun x:Nx rs.length=>#[.int .i64 x.1,cvv (jd rs x)]) (Kp:=Kn (yV (w.heap.size+4) (.slice la ln lk))) SEQ.out Kn.trans (aw3 (S:=yV (w.heap.size+4) (.slice la ln lk)) (fun g hg=>by
   rcases hg with e|e
   ·omega
   ·have:=HVB.out g e;omega)) (Below.refl _ _) (fun _=>rfl)
  (fun pre W=>Below W0.heap.size W0 W∧∀y∈pre,Tm.get (jd rs y).l key=none)
  (fun c pre W=>c=.ret∧(∃(pre':List (Nx rs.length)) (x:Nx rs.length) (o:Ov),pre=pre'++[x]∧(∀y∈pre',Tm.get (jd rs y).l key=none)∧Tm.get (jd rs x).l key=some o∧(W.heap[w.heap.size+1]? =some (.cells #[.string o.v] 9 (0,0))∧W.heap[w.heap.size+2]? =some (.cells #[.bool true] 4 (0,0))∧W.heap[w.heap.size+3]? =some (.cells #[.bool o.p] 4 (0,0))))∧Below w.heap.size w W)
  (fun s X Y row hs hg hr=>⟨hs.1.grown hg hs.1.size fun k e=>(hr k e).1,hs.2⟩)
  (fun c s X Y row hs hg hr=>by
   obtain⟨h1,⟨pre',x,o,h2,h3,h4,h5,h6,h7⟩,h8⟩:=hs
   have st:∀g,g<w.heap.size+5→g<X.heap.size→Y.heap[g]? =X.heap[g]? :=fun g hg1 hg2=>hg.block g hg2 fun e=>by have:=(hr g e.symm).1;omega
   exact⟨h1,⟨pre',x,o,h2,h3,h4,(st _ (by omega) (ay h5)).trans h5,(st _ (by omega) (ay h6)).trans h6,(st _ (by omega) (ay h7)).trans h7⟩,h8.grown hg h8.size fun k e=>by have:=(hr k e).1;omega⟩)
  ⟨Below.refl _ _,fun y hy=>by simp at hy⟩
  (fun x a' W=>∃q,a'={tmps:=#[.pointer (some ⟨p,0,none⟩),.string key,undef,.pointer (some ⟨w.heap.size,0,none⟩),.pointer (some ⟨w.heap.size+1,0,none⟩),.pointer (some ⟨w.heap.size+2,0,none⟩),.pointer (some ⟨w.heap.size+3,0,none⟩),undef,.pointer (some ⟨q,0,none⟩),undef,undef,.pointer (some ⟨p,0,none⟩),.bool true,.bool false,.pointer (some ⟨p,0,none⟩),.pointer (some ⟨p,0,none⟩),.pointer (some ⟨p,2,none⟩),.slice la ln lk,.func (.func 333) #[] #[.pointer (some ⟨w.heap.size+4,0,none⟩)],.int .i64 x.1,cvv (jd rs x),undef,undef,undef,undef,undef,undef,undef,undef,undef,undef,undef,undef,undef,undef,undef,undef,undef,undef,undef,undef],defers:=[]}∧W.heap[q]? =some (.cells #[.int .i64 (jd rs x).e,.int .i64 (jd rs x).n,(jd rs x).v] 273 (0,0))∧w.heap.size+5≤q)
  (fun x a' s X Y row hs hg hr=>by
   obtain⟨q,h1,h2,h3⟩:=hs
   refine⟨q,h1,(hg.block q (ay h2) fun e=>?_).trans h2,h3⟩
   obtain⟨_,o,h3,h4⟩:=hr q e.symm
   rw[h2]at h3
   cases h3
   simp[Obj.isCells]at h4)
 case hassign=>
  rintro l0 pre x W K ⟨hI,hN⟩ hK
  obtain⟨c,hc⟩:∃c,jd rs x=c:=⟨_,rfl⟩
  rw[hc]at hK⊢
  unfold cvv at hK⊢
  have hcv:∃a n k,c.v=.slice a n k:=by
   have:=HQ.out x W hI
   rw[hc]at this
   obtain⟨a1,k1,h1,_⟩:=this.shape
   exact⟨a1,_,k1,h1⟩
  obtain⟨ca,cn,ck,hcv⟩:=hcv
  have hz:=hI.size
  obtain⟨V,hV,hV2,iy,bV,BV,x0,x1,x2⟩:=eY W 273 (.int .i64 0) (.int .i64 0) (.slice none 0 0) (.int .i64 c.e) (.int .i64 c.n) c.v
  have HKK:=hide (hK _ V ((KeepsOthers.from ⟨bV.size,fun k o hk _=>(bV.block k (ay hk)).trans hk⟩ _)) (fun g hg=>bV.block g (by
   rcases hg with e|e
   ·omega
   ·have:=HVB.out g e;omega)) ⟨hI.trans (bV.mono hz),hN⟩ ⟨W.heap.size,rfl,BV,by omega⟩)
  rw[hcv]at hV hV2 x2 HKK⊢
  clear hK hI bV BV
  gi_wp2
  exact HKK.out
 case hbody=>
  rintro l0 pre x a' W hl0 _ ⟨hI,hN⟩ ⟨q,rfl,hq,hq5⟩ akJ
  have hz:=hI.size
  have jP:=HQ.out x W hI
  obtain⟨hup,hlen⟩:=HUP.out x
  obtain⟨c,hc⟩:∃c,jd rs x=c:=⟨_,rfl⟩
  rw[hc]at hq jP hup hlen⊢
  have hlt:∀g,g<w.heap.size+5→W.heap[g]? =W0.heap[g]? :=fun g hg=>hI.block g (by omega)
  have e0:=(hlt _ (by omega)).trans DD.out.1
  have e1:=(hlt _ (by omega)).trans DD.out.2.1
  have e2:=(hlt _ (by omega)).trans DD.out.2.2.1
  have e3:=(hlt _ (by omega)).trans DD.out.2.2.2
  have x0:W.cell? ⟨w.heap.size,0,none⟩=some (.string key):=ai e0 0 rfl
  have q2:W.cell? ⟨q,2,none⟩=some c.v:=ai hq 2 rfl
  have rM:=hide (aho c.v c.l key W jP hup hlen)
  have HIO:=hide jP
  have HC:=hide hc
  have HEE:=hide (And.intro e1 (And.intro e2 (And.intro e3 hq)))
  have HI:=hide hI
  have HN:=hide hN
  have hq':=ay hq
  clear jP hup e0 e1 e2 e3 hI hN hlt hq hc
  gi_wp2_with fail
  refine⟨trivial,(CallsIn.inRound l0 (callsIn_wide.2 rM.out)).mono ?_⟩
  rintro E w5 ⟨i,f,rfl,aS,FR⟩
  have sz5':=aS.size
  have nX:=hide (HI.out.trans (aS.mono hz))
  have KO:=hide (show KeepsOthers W w5 from⟨aS.size,fun k o hk _=>(aS.block k (ay hk)).trans hk⟩)
  cases f with
  |false=>
   have NN:Hid (∀y∈pre++[x],Tm.get (jd rs y).l key=none):=hide fun y hy=>by
    rcases List.mem_append.1 hy with hy|hy
    ·exact HN.out y hy
    ·rw[List.mem_singleton.1 hy,HC.out]
     rcases FR.out with⟨h,_⟩|⟨_,h⟩
     ·cases h
     ·exact h
   have HKN:=hide (show Kn (yV (w.heap.size+4) (.slice la ln lk)) W w5 from fun g hg=>aS.block g (by
    rcases hg with e|e
    ·omega
    ·have:=HVB.out g e;omega))
   clear aS
   gi_wp2
   exact⟨KO.out.from _,HKN.out,nX.out,NN.out⟩
  |true=>
   obtain⟨o,ho,hget⟩:∃o,c.l[i]? =some o∧Tm.get c.l key=some o:=by
    rcases FR.out with⟨_,h⟩|⟨h,_⟩
    ·exact h
    ·cases h
   have hil:=(List.getElem?_eq_some_iff.1 ho).1
   obtain⟨b1,o1,cq,dI,_,_,hB,hcell⟩:=HIO.out.full (by omega)
   obtain⟨d0,_,d2⟩:=hcell i o ho
   have g0:=(aS.cell (p:=⟨b1,o1+i*3,none⟩) hB).trans d0
   have g2:=(aS.cell (p:=⟨b1,o1+i*3+2,none⟩) hB).trans d2
   have e1:=(aS.block _ (by omega)).trans HEE.out.1
   have e2:=(aS.block _ (by omega)).trans HEE.out.2.1
   have e3:=(aS.block _ (by omega)).trans HEE.out.2.2.1
   have eq:=(aS.block _ hq').trans HEE.out.2.2.2
   have q2':w5.cell? ⟨q,2,none⟩=some c.v:=ai eq 2 rfl
   have r1:=ai e1 0 rfl;have r2:=ai e2 0 rfl;have r3:=ai e3 0 rfl
   have f1:=aA e1 0;have f2:=aA e2 0;have f3:=aA e3 0
   simp only[List.getElem_toArray,List.getElem_cons_zero]at r1 r2 r3
   obtain⟨V,hV,v1,v2,v3,vz,vo,vO,vB⟩:=amm e1 e2 e3 (by omega) (by omega) (by omega) (.string o.v) (.bool true) (.bool o.p)
   have hii:(i:Int)<c.l.length:=by omega
   have hi0:(0:Int)≤(i:Int):=by omega
   have FIN:Hid (∀V',V'.heap=V.heap→KeepsFrom W0.heap.size W V'∧∃(pre':List (Nx rs.length)) (x':Nx rs.length) (o':Ov),pre++[x]=pre'++[x']∧(∀y∈pre',Tm.get (jd rs y).l key=none)∧Tm.get (jd rs x').l key=some o'∧(V'.heap[w.heap.size+1]? =some (.cells #[.string o'.v] 9 (0,0))∧V'.heap[w.heap.size+2]? =some (.cells #[.bool true] 4 (0,0))∧V'.heap[w.heap.size+3]? =some (.cells #[.bool o'.p] 4 (0,0)))):=hide fun V' hV'=>by
    refine⟨⟨by rw[hV',vz];exact aS.size,fun k ob hk1 hk2 hk3=>?_⟩,pre,x,o,rfl,HN.out,by rw[HC.out];exact hget,by rw[hV'];exact vB⟩
    rw[hV',vo k (by omega) (by omega) (by omega)]
    exact(aS.block k (ay hk2)).trans hk2
   have BV:Hid (Below w.heap.size w V):=hide (by
    have hh:=akm.out.trans (nX.out.mono (by omega))
    exact hh.trans (vO.below (fun g hg=>by omega) hh.size))
   clear aS d0 d2 hcell e1 e2 e3 eq HEE ho hget FR
   rw[dI]at q2'
   have HVX:=hide dI
   have hbb:b1<w.heap.size:=HBK.out x b1 (by rw[HC.out,dI];rfl)
   have kY:∀(X:World) (g j:Nat),X.heap[g]? =w5.heap[g]?→X.cell? ⟨g,j,none⟩=w5.cell? ⟨g,j,none⟩:=fun X g j h=>iI h j
   have n1:∀g,g≠w.heap.size+1→(w5.setCell ⟨w.heap.size+1,0,none⟩ (.string o.v)).heap[g]? =w5.heap[g]? :=fun g hg=>Below.heap_setCell w5 ⟨w.heap.size+1,0,none⟩ _ g hg
   have n2:∀g,g≠w.heap.size+1→g≠w.heap.size+2→((w5.setCell ⟨w.heap.size+1,0,none⟩ (.string o.v)).setCell ⟨w.heap.size+2,0,none⟩ (.bool true)).heap[g]? =w5.heap[g]? :=fun g hg hg2=>(Below.heap_setCell _ ⟨w.heap.size+2,0,none⟩ _ g hg2).trans (n1 g hg)
   have H1:=hide (show(w5.setCell ⟨w.heap.size+1,0,none⟩ (.string o.v)).cell? ⟨q,2,none⟩=some (.slice (some ⟨b1,o1,none⟩) c.l.length cq)∧(w5.setCell ⟨w.heap.size+1,0,none⟩ (.string o.v)).cell? ⟨b1,o1+i*3,none⟩=some (.bool o.p)∧(w5.setCell ⟨w.heap.size+1,0,none⟩ (.string o.v)).cell? ⟨b1,o1+i*3+2,none⟩=some (.string o.v)from
    ⟨(kY _ _ _ (n1 q (by omega))).trans q2',(kY _ _ _ (n1 b1 (by omega))).trans g0,(kY _ _ _ (n1 b1 (by omega))).trans g2⟩)
   have H2:=hide (show((w5.setCell ⟨w.heap.size+1,0,none⟩ (.string o.v)).setCell ⟨w.heap.size+2,0,none⟩ (.bool true)).cell? ⟨q,2,none⟩=some (.slice (some ⟨b1,o1,none⟩) c.l.length cq)∧((w5.setCell ⟨w.heap.size+1,0,none⟩ (.string o.v)).setCell ⟨w.heap.size+2,0,none⟩ (.bool true)).cell? ⟨b1,o1+i*3,none⟩=some (.bool o.p)∧((w5.setCell ⟨w.heap.size+1,0,none⟩ (.string o.v)).setCell ⟨w.heap.size+2,0,none⟩ (.bool true)).cell? ⟨b1,o1+i*3+2,none⟩=some (.string o.v)from
    ⟨(kY _ _ _ (n2 q (by omega) (by omega))).trans q2',(kY _ _ _ (n2 b1 (by omega) (by omega))).trans g0,(kY _ _ _ (n2 b1 (by omega) (by omega))).trans g2⟩)
   have H3:=hide (show V.cell? ⟨q,2,none⟩=some (.slice (some ⟨b1,o1,none⟩) c.l.length cq)∧V.cell? ⟨b1,o1+i*3,none⟩=some (.bool o.p)∧V.cell? ⟨b1,o1+i*3+2,none⟩=some (.string o.v)from
    ⟨(kY _ _ _ (vo q (by omega) (by omega) (by omega))).trans q2',(kY _ _ _ (vo b1 (by omega) (by omega) (by omega))).trans g0,(kY _ _ _ (vo b1 (by omega) (by omega) (by omega))).trans g2⟩)
   clear kY n1 n2
   gi_wp2
   refine afJ (ops:=(aB 7 f287)) (S:=(fun w'=>w'.cell? ⟨q,2,none⟩=some (.slice (some ⟨b1,o1,none⟩) c.l.length cq)∧w'.cell? ⟨b1,o1+i*3,none⟩=some (.bool o.p)∧w'.cell? ⟨b1,o1+i*3+2,none⟩=some (.string o.v))) (by kernel_rfl) (by kernel_rfl) (by kernel_rfl) (fun⟨_,_,h⟩=>h) (fun _ _ _ _ _ h=>h) zm (by kernel_rfl) auz ⟨q2',g0,g2⟩ ?_
   unfold zm
   refine il (v:=?_) rfl rfl (by rfl) ?_ ?_
   rotate_left 1
   ·intro w hS
    (try dsimp only at hS)
    go_simp
    all_goals with_reducible rfl
   simp only[Act.put,List.setIfInBounds_toArray,List.set_cons_zero,List.set_cons_succ]
   refine il (v:=?_) rfl rfl (by rfl) ?_ ?_
   rotate_left 1
   ·intro w hS
    (try dsimp only at hS)
    go_simp
    all_goals with_reducible rfl
   simp only[Act.put,List.setIfInBounds_toArray,List.set_cons_zero,List.set_cons_succ]
   refine il (v:=?_) rfl rfl (by rfl) ?_ ?_
   rotate_left 1
   ·intro w hS
    (try dsimp only at hS)
    go_simp
    all_goals with_reducible rfl
   simp only[Act.put,List.setIfInBounds_toArray,List.set_cons_zero,List.set_cons_succ]
   refine il (v:=?_) rfl rfl (by rfl) ?_ ?_
   rotate_left 1
   ·intro w hS
    (try dsimp only at hS)
    go_simp
    all_goals with_reducible rfl
   simp only[Act.put,List.setIfInBounds_toArray,List.set_cons_zero,List.set_cons_succ]
   refine il (v:=?_) rfl rfl (by rfl) ?_ ?_
   rotate_left 1
   ·intro w hS
    (try dsimp only at hS)
    go_simp
    all_goals with_reducible rfl
   simp only[Act.put,List.setIfInBounds_toArray,List.set_cons_zero,List.set_cons_succ]
   refine il (v:=?_) rfl rfl (by rfl) ?_ ?_
   rotate_left 1
   ·intro w hS
    (try dsimp only at hS)
    go_simp
    all_goals with_reducible rfl
   simp only[Act.put,List.setIfInBounds_toArray,List.set_cons_zero,List.set_cons_succ]
   refine il (v:=?_) rfl rfl (by rfl) ?_ ?_
   rotate_left 1
   ·intro w hS
    (try dsimp only at hS)
    go_simp
    all_goals with_reducible rfl
   simp only[Act.put,List.setIfInBounds_toArray,List.set_cons_zero,List.set_cons_succ]
   refine il (v:=?_) rfl rfl (by rfl) ?_ ?_
   rotate_left 1
   ·intro w hS
    (try dsimp only at hS)
    go_simp
    all_goals with_reducible rfl
   simp only[Act.put,List.setIfInBounds_toArray,List.set_cons_zero,List.set_cons_succ]
   refine il (v:=?_) rfl rfl (by rfl) ?_ ?_
   rotate_left 1
   ·intro w hS
    (try dsimp only at hS)
    go_simp
    all_goals with_reducible rfl
   simp only[Act.put,List.setIfInBounds_toArray,List.set_cons_zero,List.set_cons_succ]
   refine il (v:=?_) rfl rfl (by rfl) ?_ ?_
   rotate_left 1
   ·intro w hS
    (try dsimp only at hS)
    go_simp
    all_goals with_reducible rfl
   simp only[Act.put,List.setIfInBounds_toArray,List.set_cons_zero,List.set_cons_succ]
   refine il (v:=?_) rfl rfl (by rfl) ?_ ?_
   rotate_left 1
   ·intro w hS
    (try dsimp only at hS)
    go_simp
    all_goals with_reducible rfl
   simp only[Act.put,List.setIfInBounds_toArray,List.set_cons_zero,List.set_cons_succ]
   refine il (v:=?_) rfl rfl (by rfl) ?_ ?_
   rotate_left 1
   ·intro w hS
    (try dsimp only at hS)
    go_simp
    all_goals with_reducible rfl
   simp only[Act.put,List.setIfInBounds_toArray,List.set_cons_zero,List.set_cons_succ]
   refine aav rfl (by rfl) (fun K hK=>?_)
   go_simp
   refine hK.out _ _ H1.out ?_
   clear hK K
   try simp only[Act.put,List.setIfInBounds_toArray,List.set_cons_zero,List.set_cons_succ]
   refine aav rfl (by rfl) (fun K hK=>?_)
   go_simp
   refine hK.out _ _ H2.out ?_
   clear hK K
   try simp only[Act.put,List.setIfInBounds_toArray,List.set_cons_zero,List.set_cons_succ]
   refine aav rfl (by rfl) (fun K hK=>?_)
   go_simp
   refine hK.out _ _ H3.out ?_
   clear hK K
   try simp only[Act.put,List.setIfInBounds_toArray,List.set_cons_zero,List.set_cons_succ]
   unfold seqW
   gi_wp2
   exact⟨(FIN.out V.drew rfl).1,rfl,(FIN.out V.drew rfl).2,BV.out.drew⟩
 case hdone=>
  rintro D xs W hD rfl ⟨hI,hN⟩ hK
  have hz:=hI.size
  have hlt:∀g,g<w.heap.size+5→W.heap[g]? =W0.heap[g]? :=fun g hg=>hI.block g (by omega)
  have e1:=(hlt _ (by omega)).trans DD.out.2.1
  have e2:=(hlt _ (by omega)).trans DD.out.2.2.1
  have e3:=(hlt _ (by omega)).trans DD.out.2.2.2
  have hnone:Tm.get (Rl.tab l) key=none:=by
   rw[aab HIS.out HGD.out key rs.length (Nat.le_refl _) hN,Nat.sub_self,List.take_zero]
   exact atv key
  obtain⟨a1,a2,a3⟩:=anT hnone
  have HAA:=hide (And.intro a1 (And.intro a2 a3))
  have r1:=ai e1 0 rfl;have r2:=ai e2 0 rfl;have r3:=ai e3 0 rfl
  have f1:=aA e1 0;have f2:=aA e2 0;have f3:=aA e3 0
  simp only[List.getElem_toArray,List.getElem_cons_zero]at r1 r2 r3
  have s1:W.setCell ⟨w.heap.size+1,0,none⟩ (.string ⟨#[]⟩)=W:=aK e1 (j:=0) rfl
  have s2:W.setCell ⟨w.heap.size+2,0,none⟩ (.bool false)=W:=aK e2 (j:=0) rfl
  have s3:W.setCell ⟨w.heap.size+3,0,none⟩ (.bool false)=W:=aK e3 (j:=0) rfl
  have wM:=hide hK
  have hD':w.heap.size≤D:=by omega
  have BW:=hide (akm.out.trans (hI.mono (by omega)))
  clear hI hN hlt hK hnone a1 a2 a3
  gi_wp2
  refine⟨by simp,.inl ⟨_,_,rfl,run_takeDeferred wM.out,?_⟩⟩
  have k1:=cell_kept r1 (grownBy_putObj' _ D (.deferred none)) (fun r e=>by cases e;exact⟨_,wM.out,rfl⟩)
  have k2:=cell_kept r2 (grownBy_putObj' _ D (.deferred none)) (fun r e=>by cases e;exact⟨_,wM.out,rfl⟩)
  have k3:=cell_kept r3 (grownBy_putObj' _ D (.deferred none)) (fun r e=>by cases e;exact⟨_,wM.out,rfl⟩)
  refine⟨.tuple #[.string ⟨#[]⟩,.bool false,.bool false],?_,by rw[HAA.out.1,HAA.out.2.1,HAA.out.2.2],BW.out.grown (grownBy_putObj' _ D (.deferred none)) BW.out.size fun k e=>by cases e;exact hD'⟩
  simp[results,results287,go_sem,k1,k2,k3]
 case hstop=>
  rintro D c pre W hD ⟨k0,hk1,hk2⟩ ⟨rfl,⟨pre',x,o,hp,hN,hO,e1,e2,e3⟩,hB⟩ hK
  have hsome:Tm.get (Rl.tab l) key=some o:=ars HIS.out HGD.out key hk1 (by rw[←hk2];exact hp) hN hO
  obtain⟨a1,a2,a3⟩:=amS hsome
  have HAA:=hide (And.intro a1 (And.intro a2 a3))
  have r1:=ai e1 0 rfl;have r2:=ai e2 0 rfl;have r3:=ai e3 0 rfl
  simp only[List.getElem_toArray,List.getElem_cons_zero]at r1 r2 r3
  have wM:=hide hK
  have hD':w.heap.size≤D:=by omega
  have BW:=hide hB
  clear hB hK hsome a1 a2 a3 e1 e2 e3 hp hN hO hk2
  gi_wp2
  refine⟨by simp,.inl ⟨_,_,rfl,run_takeDeferred wM.out,?_⟩⟩
  have k1:=cell_kept r1 (grownBy_putObj' _ D (.deferred none)) (fun r e=>by cases e;exact⟨_,wM.out,rfl⟩)
  have k2:=cell_kept r2 (grownBy_putObj' _ D (.deferred none)) (fun r e=>by cases e;exact⟨_,wM.out,rfl⟩)
  have k3:=cell_kept r3 (grownBy_putObj' _ D (.deferred none)) (fun r e=>by cases e;exact⟨_,wM.out,rfl⟩)
  refine⟨.tuple #[.string o.v,.bool true,.bool o.p],?_,by rw[HAA.out.1,HAA.out.2.1,HAA.out.2.2],BW.out.grown (grownBy_putObj' _ D (.deferred none)) BW.out.size fun k e=>by cases e;exact hD'⟩
  simp[results,results287,go_sem,k1,k2,k3]
end Go.Proofs.YtlmkaljjocflmaaGreatDoor
namespace Go.Proofs.YtlmkaljjocflmaaGreatDoor
open Go.RowKit
open Bm (Ov)
theorem aqm (p q:Nat)(F:Nat→Prop)(w:World)(s:Rl.Rs)(key:ByteArray)(h:RW p q F w s):
  Calls prog 287 #[.pointer (some ⟨p,0,none⟩),.string key] w fun E w'=>E=.returned (.tuple #[.string (gv (Rl.tab s.l) key),.bool (Tm.met (Rl.tab s.l) key),.bool (gp (Rl.tab s.l) key)])∧Below w.heap.size w w':=by
 obtain⟨F1,G1,h1,⟨v,rs,hv,_⟩,_⟩:=h
 exact awN p q w s.l s.bk v rs key hv
theorem anv (p q:Nat)(F:Nat→Prop)(w:World)(s:Rl.Rs)(h:RW p q F w s):
  Calls prog 169 #[.pointer (some ⟨p,0,none⟩)] w fun E w'=>∃v' rs',E=.returned v'∧Rq w.heap.size w' s.l v' rs'∧qE rs'∧Below w.heap.size w w':=by
 obtain⟨F1,G1,h1,⟨v,rs,hv,_⟩,_⟩:=h
 exact aub p q w s.l s.bk v rs hv
end Go.Proofs.YtlmkaljjocflmaaGreatDoor
namespace Go.Proofs.YtlmkaljjocflmaaGreatDoor
open Go.RowKit
theorem nz {x y:Int}{ans:Bool}(h:x≠y→ans=false):(x==y)=true∨((x==y)=false∧ans=false):=by
 by_cases e:x=y
 ·exact .inl (by simp[e])
 ·exact .inr ⟨by simpa using e,h e⟩
theorem axG {a b:Mm.Msg}(h1:(a.k==b.k)=true)(h2:(a.e==b.e)=true)(h3:(a.r==b.r)=true)(h4:(a.n==b.n)=true)(h5:(a.f==b.f)=true)(h6:(a.p==b.p)=true)(h7:decide (a.ss=b.ss)=true):mR a b=sameV a.cs b.cs:=by
 unfold mR
 rw[h1,h2,h3,h4,h5,h6,h7]
 rfl
theorem wR (a b:Mw)(w:World)(ha:ji w a)(hb:ji w b)(fa:bQ a)(fb:bQ b):
  Calls prog 192 #[mv a,mv b] w fun E w'=>E=.returned (.bool (mR a.m b.m))∧Below w.heap.size w w':=by
 obtain⟨ans,dL⟩:∃x,mR a.m b.m=x:=⟨_,rfl⟩
 rw[dL]
 have HA:=hide dL
 have NO:Hid (a.m≠b.m→ans=false):=hide fun h=>by rw[←HA.out];exact axM h
 clear dL
 unfold mv
 obtain⟨w1,hw1,aV,aj,hA⟩:=aaD w a
 obtain⟨w2,hw2,dA,az,hB⟩:=aaD w1 b
 rw[aV]at hB
 have A2:=hide (hA.below az)
 have B2:=hide hB
 have aO:Below w.heap.size w w2:=aj.trans (az.mono (by omega))
 have IA:=hide (ha.below aO)
 have IB:=hide (hb.below aO)
 have FA:=hide fa
 have FB:=hide fb
 obtain⟨c0,c1,c2,c3,c4,c5,c6,c7⟩:=A2.out.ei
 obtain⟨d0,d1,d2,d3,d4,d5,d6,d7⟩:=B2.out.ei
 have q1:=nz (x:=a.k) (y:=b.k) (ans:=ans) fun h=>NO.out fun e=>h (congrArg Mm.Msg.k e)
 have q2:=nz (x:=a.e) (y:=b.e) (ans:=ans) fun h=>NO.out fun e=>h (congrArg Mm.Msg.e e)
 have q3:=nz (x:=a.r) (y:=b.r) (ans:=ans) fun h=>NO.out fun e=>h (congrArg Mm.Msg.r e)
 have q4:=nz (x:=a.n) (y:=b.n) (ans:=ans) fun h=>NO.out fun e=>h (congrArg Mm.Msg.n e)
 have q5:=nz (x:=a.f) (y:=b.f) (ans:=ans) fun h=>NO.out fun e=>h (congrArg Mm.Msg.f e)
 have q6:=nz (x:=a.p) (y:=b.p) (ans:=ans) fun h=>NO.out fun e=>h (congrArg Mm.Msg.p e)
 obtain⟨ds,hds⟩:∃x,decide (a.ss=b.ss)=x:=⟨_,rfl⟩
 have q7:Hid (ds=false→ans=false):=hide fun h=>NO.out fun e=>by
  rw[h]at hds
  exact of_decide_eq_false hds (congrArg Mm.Msg.ss e)
 have DS:=hide hds
 clear ha hb fa fb hA hB aj az hds
 go_enter func192,ntmps192
 rcases q1 with q1|⟨q1,rfl⟩
 rotate_left
 ·go_wp2
  go_ret
  exact⟨rfl,aO⟩
 rcases q2 with q2|⟨q2,rfl⟩
 rotate_left
 ·go_wp2
  go_ret
  exact⟨rfl,aO⟩
 rcases q3 with q3|⟨q3,rfl⟩
 rotate_left
 ·go_wp2
  go_ret
  exact⟨rfl,aO⟩
 rcases q4 with q4|⟨q4,rfl⟩
 rotate_left
 ·go_wp2
  go_ret
  exact⟨rfl,aO⟩
 rcases q5 with q5|⟨q5,rfl⟩
 rotate_left
 ·go_wp2
  go_ret
  exact⟨rfl,aO⟩
 rcases q6 with q6|⟨q6,rfl⟩
 rotate_left
 ·go_wp2
  go_ret
  exact⟨rfl,aO⟩
 go_wp2_with fail
 refine(atW _ _ a.ss b.ss _ IA.out.s IB.out.s FA.out.ls FB.out.ls).mono ?_
 rintro E w3 ⟨rfl,m,rfl⟩
 rw[DS.out]
 have aC:Bq w2 (w2.drewN m):=below_drewN (Below.refl _ _) m
 generalize w2.drewN m=w3 at*
 have bO:=aC.size
 have bq:=aO.trans (aC.mono (by omega))
 cases ds
 ·obtain rfl:=q7.out rfl
  go_wp2
  go_ret
  exact⟨rfl,bq⟩
 ·clear c0 c1 c2 c3 c4 c5 c6 c7 d0 d1 d2 d3 d4 d5 d6 d7 hw1 hw2
  obtain⟨c0,c1,c2,c3,c4,c5,c6,c7⟩:=(A2.out.below aC).ei
  obtain⟨d0,d1,d2,d3,d4,d5,d6,d7⟩:=(B2.out.below aC).ei
  have hs:ans=sameV (aD a.cs) (aD b.cs):=by
   rw[←HA.out]
   exact axG (a:=a.m) (b:=b.m) q1 q2 q3 q4 q5 q6 DS.out
  go_wp2_with fail
  refine(auC _ _ a.cs b.cs _ (IA.out.c.below aC) (IB.out.c.below aC) FA.out.fc FB.out.fc FA.out.lc FB.out.lc).mono ?_
  rintro E w4 ⟨rfl,aL⟩
  have dC:=bq.trans (aL.mono (by omega))
  rw[←hs]
  clear hs
  go_wp2
  go_ret
  exact⟨rfl,dC⟩
def aaG (m:Mw):Prop:=1≤m.r∧m.r≤3∧Sm.Ok m.ss m.n∧Sm.aY m.ss≤m.e
def acy (m:Mw):Prop:=1≤m.f∧m.f≤1048576∧0≤m.p∧m.p≤m.e∧(m.p=0↔m.f=1)∧m.cs.length≤4∧(∀c∈aD m.cs,c.e≤m.e)∧Cm.Good m.p (m.f-1) (aD m.cs)
def nM (ans:Bool) (p:Prop):Prop:=ans=true↔p
theorem nM.no {ans:Bool}{p:Prop}(h:nM ans p)(hp:¬p):ans=false:=by
 cases ans
 ·rfl
 ·exact absurd (h.1 rfl) hp
theorem nM.yes {ans:Bool}{p:Prop}(h:nM ans p)(hp:p):ans=true:=h.2 hp
theorem ae8 (p:Prop):∃ans,nM ans p:=by
 by_cases h:p
 ·exact⟨true,by simp[nM,h]⟩
 ·exact⟨false,by simp[nM,h]⟩
theorem nM.dec {ans:Bool}{p q:Prop}[d:Decidable q](h:nM ans p)(h1:q→p)(h2:p→q):ans=decide q:=by
 by_cases hp:q
 ·rw[h.yes (h1 hp),decide_eq_true hp]
 ·rw[h.no fun k=>hp (h2 k),decide_eq_false hp]
theorem ab4 (m:Mw)(ans:Bool)(w:World)(hi:ji w m)(hf:bQ m)(he:0≤m.e)(h:nM ans (aaG m)):
  Calls prog 190 #[mv m] w fun E w'=>E=.returned (.bool ans)∧Below w.heap.size w w':=by
 have NO:Hid (¬aaG m→ans=false):=hide fun k=>h.no k
 have YE:Hid (aaG m→ans=true):=hide fun k=>h.yes k
 have HD:Hid (nM ans (aaG m)):=hide h
 unfold mv
 obtain⟨w1,hw1,aV,aj,hA⟩:=aaD w m
 have A1:=hide hA
 obtain⟨c0,c1,c2,c3,c4,c5,c6,c7⟩:=hA.ei
 have i1:=hide (hi.s.below aj)
 have hl:=hf.ls
 have X:=hide (fun(W:World) (k:yf W m.vs m.ss)=>aiW m.vs m.ss m.n W k hl)
 obtain⟨ck,hck⟩:∃c,Sm.chk m.ss m.n=c:=⟨_,rfl⟩
 rw[hck]at X
 have HC:=hide hck
 clear hck h hA hi
 go_enter func190,ntmps190
 by_cases h1:m.r<1
 ·obtain rfl:=NO.out fun k=>by have:=k.1;omega
  go_wp2
  go_ret
  exact⟨rfl,aj⟩
 by_cases h2:3<m.r
 ·obtain rfl:=NO.out fun k=>by have:=k.2.1;omega
  go_wp2
  go_ret
  exact⟨rfl,aj⟩
 go_wp2_with fail
 refine(X.out _ i1.out).mono ?_
 rintro E w2 ⟨rfl,az⟩
 have dA:=az.size
 have aO:=aj.trans (az.mono (by omega))
 clear c0 c1 c2 c3 c4 c5 c6 c7
 by_cases h3:ck=0
 ·subst h3
  have hok:=Sm.bJ.1 HC.out
  have si:=hide hok
  clear hok
  obtain⟨c0,c1,c2,c3,c4,c5,c6,c7⟩:=(A1.out.below az).ei
  have i2:=i1.out.below az
  by_cases hz:m.ss.length=0
  ·have hn:m.ss=[]:=List.eq_nil_of_length_eq_zero hz
   obtain rfl:=YE.out ⟨by omega,by omega,si.out,by rw[hn];exact he⟩
   obtain⟨ao,cap,hv,_,_⟩:=i2.shape
   rw[hv,hz]at c4
   clear hn hz hv i2 hw1
   go_wp2
   go_quiet (fail)
   go_wp2
   go_ret
   exact⟨rfl,below_drewN aO _⟩
  ·obtain⟨b,off,cap,hv,_,_,hB,hc⟩:=oh i2 (by omega)
   obtain⟨s,hs⟩:=mH (l:=m.ss) (k:=m.ss.length-1) (by omega)
   obtain⟨d0,d1⟩:=hc _ _ hs
   have hq:ans=decide (s.1≤m.e):=HD.out.dec (fun hx=>⟨by omega,by omega,si.out,by rw[Sm.am9 hs];exact hx⟩) (fun k=>by have:=k.2.2.2;rw[Sm.am9 hs]at this;exact this)
   subst hq
   rw[hv]at c4
   generalize hn:m.ss.length=n at*
   obtain⟨k,hk⟩:∃k,n-1=k:=⟨_,rfl⟩
   rw[hk]at d0 d1
   have hne:((n:Int)==0)=false:=by simp;omega
   have hsub:(n:Int)-1=(k:Int):=by omega
   have hk1:(k:Int)<(n:Int):=by omega
   clear hv hc hs hn hz NO YE HD i2 hw1 X HC si hk
   go_wp2
   have hk1:(k:Int)<(n:Int):=by omega
   go_big_quiet (fail)
   go_wp2
   go_ret
   exact⟨rfl,below_drewN aO _⟩
 ·have h3':(ck !=0)=true:=by simpa using h3
  obtain rfl:=NO.out fun k=>h3 (by rw[←HC.out];exact Sm.bJ.2 k.2.2.1)
  clear h3
  go_wp2
  go_ret
  exact⟨rfl,aO⟩
theorem ahU:∀(l:List Cm.Cv) (ep nu:Int),Cm.Good ep nu l→ep≤Cm.lastE ep l∧∀c∈l,c.e≤Cm.lastE ep l
 |[],ep,nu,_=>⟨Int.le_refl _,fun c hc=>by simp at hc⟩
 |c::r,ep,nu,⟨h1,h2,h3,h4⟩=>by
  obtain⟨g1,g2⟩:=ahU r c.e c.n h4
  refine⟨Int.le_trans h3 g1,fun d hd=>?_⟩
  rcases List.mem_cons.1 hd with rfl|hd
  ·exact g1
  ·exact g2 d hd
theorem aic:∀(l:List Cm.Cv) (ep:Int) (c:Cm.Cv),l[l.length-1]? =some c→Cm.lastE ep l=c.e
 |[],_,_,h=>by simp at h
 |[x],ep,c,h=>by simp at h;subst h;rfl
 |x::y::r,ep,c,h=>by
  have:=aic (y::r) x.e c (by simpa using h)
  exact this
theorem atE (x y:Int)(z u:Int):((x=z↔y=u)∧∃b,(x==z)=b∧(y==u)=b)∨(¬(x=z↔y=u)∧∃b,(x==z)=b∧(y==u)= !b):=by
 by_cases h1:x=z<;>by_cases h2:y=u
 ·exact .inl ⟨by simp[h1,h2],true,by simp[h1],by simp[h2]⟩
 ·exact .inr ⟨by simp[h1,h2],true,by simp[h1],by simpa using h2⟩
 ·exact .inr ⟨by simp[h1,h2],false,by simpa using h1,by simp[h2]⟩
 ·exact .inl ⟨by simp[h1,h2],false,by simpa using h1,by simpa using h2⟩
end Go.Proofs.YtlmkaljjocflmaaGreatDoor
