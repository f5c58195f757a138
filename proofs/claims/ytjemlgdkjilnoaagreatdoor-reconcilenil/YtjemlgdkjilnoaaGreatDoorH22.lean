/- Texts of one layer, one behind the other. -/
import Derived.Test.YtjemlgdkjilnoaaGreatDoorH4
import Derived.Test.YtjemlgdkjilnoaaGreatDoorH9
import Derived.WalkMore
set_option maxRecDepth 100000
set_option maxHeartbeats 8000000
namespace Go.Proofs.YtjemlgdkjilnoaaGreatDoor
open Go.RowKit
set_option linter.unusedVariables false
def aop (x:Pm.Pg):List Int:=if Pm.Ok x then Pm.enc x else []
theorem jh {x:Pm.Pg}(h:Pm.Ok x):aop x=Pm.enc x:=if_pos h
theorem nV {x:Pm.Pg}(h:¬Pm.Ok x):aop x=[]:=if_neg h
theorem lX (l:List Int)(k:Nat)(h:k<l.length):Pm.encs (l.take k)++Vm.enc (l.getD k 0).toNat=Pm.encs (l.take (k+1)):=by
 rw[List.take_succ_eq_append_getElem h,Pm.aad,List.getD_eq_getElem?_getD,List.getElem?_eq_getElem h]
 simp[Pm.encs]
theorem iT {x:Pm.Pg}(h:Pm.Ok x)(k:Nat):(Pm.encs ((Pm.nums x).take k)).length≤60:=by
 have h1:=Pm.abC h
 have h2:Pm.nums x=(Pm.nums x).take k++(Pm.nums x).drop k:=(List.take_append_drop _ _).symm
 unfold Pm.enc at h1
 rw[h2,Pm.aad,List.length_append]at h1
 omega
theorem lS (z:Int)(h0:0≤z)(h1:z<9223372036854775808):IntKind.u64.wrap z=z:=by
 rw[IntKind.wrap_u64];omega
theorem aim (x:Pm.Pg)(w:World)(hx:eT x)(hm:fQ w):
  Calls Tryz.prog 115 #[vp x] w fun E w'=>∃vb,E=.returned (.tuple #[vb,.int .i64 (Pm.chk x)])∧Own .u8 5 w.heap.size w' vb (aop x)∧Below w.heap.size w w':=by
 obtain⟨w1,hw1,aW,aj,hB⟩:=ak w #[.int .i64 x.e,.int .u8 x.r,.int .i64 x.a,.int .u8 x.p,.int .i64 x.f,.int .i64 x.b] 35
 have HV:Hid (vp x=.agg #[.int .i64 x.e,.int .u8 x.r,.int .i64 x.a,.int .u8 x.p,.int .i64 x.f,.int .i64 x.b]):=rfl
 obtain⟨c0,c1,c2,c3,c4,c5⟩:=aN hB
 have HB:=hide hB
 have HM:=hide (hm.below aj)
 have HX:=hide hx
 rw[HV.out]
 clear hB hm hx
 go_enter Tryz.func115,Tryz.ntmps115
 go_wp2_with fail
 refine(iZ x _ HX.out HM.out).mono ?_
 rintro E w2 ⟨rfl,au⟩
 have di:=au.size
 have hB2:=(au.block _ (by omega)).trans HB.out
 have aO:=aj.trans (au.mono (by omega))
 obtain⟨d0,d1,d2,d3,d4,d5⟩:=aN hB2
 clear HB HM hB2 c0 c1 c2 c3 c4 c5 aj au
 by_cases ho:Pm.Ok x
 ·rw[Pm.ib ho]
  have g:=Pm.kG ho
  obtain⟨g1,g2,g3,g4,g5,g6,g7,g8,g9,g10,g11,g12⟩:=g
  have HO:=hide ho
  clear ho
  go_wp2_with fail
  refine(vK x _ HX.out).mono ?_
  rintro E w3 ⟨rfl,aF⟩
  have bP:=aF.size
  have bg:=aO.trans (aF.mono (by omega))
  have HN:Hid (vn x=.agg #[.int .i64 x.e,.int .i64 x.r,.int .i64 x.a,.int .i64 x.p,.int .i64 x.f,.int .i64 x.b]):=rfl
  rw[HN.out]
  clear d0 d1 d2 d3 d4 d5 aO aF
  go_wp2
  go_loopw [5,15] (fun bb kk wr=>∃k:Nat,k≤6∧kk=.int .i64 k∧Own .u8 5 w.heap.size wr bb (Pm.encs ((Pm.nums x).take k))∧Below w.heap.size w wr) (fun _ kk _=>7-(intOf kk).toNat)
  case atStart=>exact⟨0,by omega,rfl,Own.nil _ _ _ _,bg⟩
  case round=>
   obtain⟨k,hk,rfl,own,fw⟩:=hrel
   have szr:=fw.size
   rcases(show k=0∨k=1∨k=2∨k=3∨k=4∨k=5∨k=6 by omega)with rfl|rfl|rfl|rfl|rfl|rfl|rfl
   ·have hix:=Tryz.av7 x.e x.r x.a x.p x.f x.b
    have hwr:=lS x.e (by omega) (by omega)
    have hln:=iT HO.out 0
    go_wp2_with fail
    refine(fJ _ _ x.e _ own.is (by omega) (by omega) (by omega)).mono ?_
    rintro E w4 ⟨v4,rfl,bf,aM⟩
    have e:Pm.encs ((Pm.nums x).take 0)++Vm.enc x.e.toNat=Pm.encs ((Pm.nums x).take 1):=lX (Pm.nums x) 0 (by simp[Pm.nums])
    rw[e]at bf
    have dA:=bf.bB (base':=w.heap.size) (by omega)
    have bn:=fw.trans (aM.mono (by omega))
    clear own bf e aM
    go_wp2
    go_roundw
    case rel=>exact⟨1,by omega,rfl,dA,bn⟩
    case measure=>simp[intOf]
   ·have hix:=Tryz.avQ x.e x.r x.a x.p x.f x.b
    have hwr:=lS x.r (by omega) (by omega)
    have hln:=iT HO.out 1
    go_wp2_with fail
    refine(fJ _ _ x.r _ own.is (by omega) (by omega) (by omega)).mono ?_
    rintro E w4 ⟨v4,rfl,bf,aM⟩
    have e:Pm.encs ((Pm.nums x).take 1)++Vm.enc x.r.toNat=Pm.encs ((Pm.nums x).take 2):=lX (Pm.nums x) 1 (by simp[Pm.nums])
    rw[e]at bf
    have dA:=bf.bB (base':=w.heap.size) (by omega)
    have bn:=fw.trans (aM.mono (by omega))
    clear own bf e aM
    go_wp2
    go_roundw
    case rel=>exact⟨2,by omega,rfl,dA,bn⟩
    case measure=>simp[intOf]
   ·have hix:=Tryz.auG x.e x.r x.a x.p x.f x.b
    have hwr:=lS x.a (by omega) (by omega)
    have hln:=iT HO.out 2
    go_wp2_with fail
    refine(fJ _ _ x.a _ own.is (by omega) (by omega) (by omega)).mono ?_
    rintro E w4 ⟨v4,rfl,bf,aM⟩
    have e:Pm.encs ((Pm.nums x).take 2)++Vm.enc x.a.toNat=Pm.encs ((Pm.nums x).take 3):=lX (Pm.nums x) 2 (by simp[Pm.nums])
    rw[e]at bf
    have dA:=bf.bB (base':=w.heap.size) (by omega)
    have bn:=fw.trans (aM.mono (by omega))
    clear own bf e aM
    go_wp2
    go_roundw
    case rel=>exact⟨3,by omega,rfl,dA,bn⟩
    case measure=>simp[intOf]
   ·have hix:=Tryz.atU x.e x.r x.a x.p x.f x.b
    have hwr:=lS x.p (by omega) (by omega)
    have hln:=iT HO.out 3
    go_wp2_with fail
    refine(fJ _ _ x.p _ own.is (by omega) (by omega) (by omega)).mono ?_
    rintro E w4 ⟨v4,rfl,bf,aM⟩
    have e:Pm.encs ((Pm.nums x).take 3)++Vm.enc x.p.toNat=Pm.encs ((Pm.nums x).take 4):=lX (Pm.nums x) 3 (by simp[Pm.nums])
    rw[e]at bf
    have dA:=bf.bB (base':=w.heap.size) (by omega)
    have bn:=fw.trans (aM.mono (by omega))
    clear own bf e aM
    go_wp2
    go_roundw
    case rel=>exact⟨4,by omega,rfl,dA,bn⟩
    case measure=>simp[intOf]
   ·have hix:=Tryz.avA x.e x.r x.a x.p x.f x.b
    have hwr:=lS x.f (by omega) (by omega)
    have hln:=iT HO.out 4
    go_wp2_with fail
    refine(fJ _ _ x.f _ own.is (by omega) (by omega) (by omega)).mono ?_
    rintro E w4 ⟨v4,rfl,bf,aM⟩
    have e:Pm.encs ((Pm.nums x).take 4)++Vm.enc x.f.toNat=Pm.encs ((Pm.nums x).take 5):=lX (Pm.nums x) 4 (by simp[Pm.nums])
    rw[e]at bf
    have dA:=bf.bB (base':=w.heap.size) (by omega)
    have bn:=fw.trans (aM.mono (by omega))
    clear own bf e aM
    go_wp2
    go_roundw
    case rel=>exact⟨5,by omega,rfl,dA,bn⟩
    case measure=>simp[intOf]
   ·have hix:=Tryz.auu x.e x.r x.a x.p x.f x.b
    have hwr:=lS x.b (by omega) (by omega)
    have hln:=iT HO.out 5
    go_wp2_with fail
    refine(fJ _ _ x.b _ own.is (by omega) (by omega) (by omega)).mono ?_
    rintro E w4 ⟨v4,rfl,bf,aM⟩
    have e:Pm.encs ((Pm.nums x).take 5)++Vm.enc x.b.toNat=Pm.encs ((Pm.nums x).take 6):=lX (Pm.nums x) 5 (by simp[Pm.nums])
    rw[e]at bf
    have dA:=bf.bB (base':=w.heap.size) (by omega)
    have bn:=fw.trans (aM.mono (by omega))
    clear own bf e aM
    go_wp2
    go_roundw
    case rel=>exact⟨6,by omega,rfl,dA,bn⟩
    case measure=>simp[intOf]
   ·go_wp2
    go_ret2
    exact⟨_,by rw[Pm.ib HO.out];rfl,by rw[jh HO.out];exact own,fw⟩
 ·rw[Pm.iD ho]
  have HO:=hide ho
  clear ho
  go_wp2
  go_ret2
  exact⟨_,by rw[Pm.iD HO.out];rfl,by rw[nV HO.out];exact Own.nil _ _ _ _,aO⟩
def DI (bs:List Int) (w wr:World) (x:Pm.Pg) (k:Nat) (a:Nat):Prop:=
 wr.heap[w.heap.size]? =some (.cells #[.int .i64 0,.int .u8 0,.int .i64 0,.int .u8 0,.int .i64 0,.int .i64 0] 35 (0,0))∧
 wr.heap[w.heap.size+1]? =some (.cells #[.int .i64 x.e,.int .i64 x.r,.int .i64 x.a,.int .i64 x.p,.int .i64 x.f,.int .i64 x.b] 149 (0,0))∧
 Below w.heap.size w wr∧Pm.encs ((Pm.nums x).take k)<+:bs∧a=(Pm.encs ((Pm.nums x).take k)).length∧Up x k
def LI (bs:List Int) (w wr:World) (L:Nat) (z x:Pm.Pg) (a:Nat):Prop:=
 wr.heap[w.heap.size]? =some (.cells #[.int .i64 0,.int .u8 0,.int .i64 0,.int .u8 0,.int .i64 0,.int .i64 0] 35 (0,0))∧
 wr.heap[L]? =some (.cells #[.int .i64 x.e,.int .u8 x.r,.int .i64 x.a,.int .u8 x.p,.int .i64 x.f,.int .i64 x.b] 35 (0,0))∧
 w.heap.size<L∧Below w.heap.size w wr∧Pm.Go bs z x a∧eT x
end Go.Proofs.YtjemlgdkjilnoaaGreatDoor
