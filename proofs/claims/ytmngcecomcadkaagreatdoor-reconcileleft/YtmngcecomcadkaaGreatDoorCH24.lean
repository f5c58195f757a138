/- Texts of one layer, one behind the other. -/
import Derived.Test.YtmngcecomcadkaaGreatDoorCH8
import Derived.Test.YtmngcecomcadkaaGreatDoorCH11
import Derived.WalkMore
import Derived.Test.YtmngcecomcadkaaGreatDoorCH1
import Derived.Test.YtmngcecomcadkaaGreatDoorCH14
import Derived.Test.YtmngcecomcadkaaGreatDoorCH12
import Derived.Test.YtmngcecomcadkaaGreatDoorCG3
import Derived.Test.YtmngcecomcadkaaGreatDoorCH19
import Derived.Test.YtmngcecomcadkaaGreatDoorCH18
import Derived.Test.YtmngcecomcadkaaGreatDoorCH6
import Derived.Test.YtmngcecomcadkaaGreatDoorCH20
import Derived.Test.YtmngcecomcadkaaGreatDoorCH10
set_option maxRecDepth 100000
set_option maxHeartbeats 8000000
namespace Go.Proofs.YtmngcecomcadkaaGreatDoor
open Go.RowKit
set_option linter.unusedVariables false
def anq (x:Pm.Pg):List Int:=if Pm.Ok x then Pm.enc x else []
theorem jd {x:Pm.Pg}(h:Pm.Ok x):anq x=Pm.enc x:=if_pos h
theorem oh {x:Pm.Pg}(h:¬Pm.Ok x):anq x=[]:=if_neg h
theorem lT (l:List Int)(k:Nat)(h:k<l.length):Pm.encs (l.take k)++Vm.enc (l.getD k 0).toNat=Pm.encs (l.take (k+1)):=by
 rw[List.take_succ_eq_append_getElem h,Pm.zy,List.getD_eq_getElem?_getD,List.getElem?_eq_getElem h]
 simp[Pm.encs]
theorem iN {x:Pm.Pg}(h:Pm.Ok x)(k:Nat):(Pm.encs ((Pm.nums x).take k)).length≤60:=by
 have h1:=Pm.ab4 h
 have h2:Pm.nums x=(Pm.nums x).take k++(Pm.nums x).drop k:=(List.take_append_drop _ _).symm
 unfold Pm.enc at h1
 rw[h2,Pm.zy,List.length_append]at h1
 omega
theorem l8 (z:Int)(h0:0≤z)(h1:z<9223372036854775808):IntKind.u64.wrap z=z:=by
 rw[IntKind.wrap_u64];omega
theorem ajq (x:Pm.Pg)(w:World)(hx:eU x)(hm:eH w):
  Calls Tryz.prog 116 #[vp x] w fun E w'=>∃vb,E=.returned (.tuple #[vb,.int .i64 (Pm.chk x)])∧Own .u8 5 w.heap.size w' vb (anq x)∧Below w.heap.size w w':=by
 obtain⟨w1,hw1,aT,aj,hB⟩:=ak w #[.int .i64 x.e,.int .u8 x.r,.int .i64 x.a,.int .u8 x.p,.int .i64 x.f,.int .i64 x.b] 46
 have HV:Hid (vp x=.agg #[.int .i64 x.e,.int .u8 x.r,.int .i64 x.a,.int .u8 x.p,.int .i64 x.f,.int .i64 x.b]):=rfl
 obtain⟨c0,c1,c2,c3,c4,c5⟩:=aN hB
 have HB:=hide hB
 have HM:=hide (hm.below aj)
 have HX:=hide hx
 rw[HV.out]
 clear hB hm hx
 go_enter Tryz.func116,Tryz.ntmps116
 go_wp2_with fail
 refine(iQ x _ HX.out HM.out).mono ?_
 rintro E w2 ⟨rfl,au⟩
 have dz:=au.size
 have hB2:=(au.block _ (by omega)).trans HB.out
 have aL:=aj.trans (au.mono (by omega))
 obtain⟨d0,d1,d2,d3,d4,d5⟩:=aN hB2
 clear HB HM hB2 c0 c1 c2 c3 c4 c5 aj au
 by_cases ho:Pm.Ok x
 ·rw[Pm.fZ ho]
  have g:=Pm.l9 ho
  obtain⟨g1,g2,g3,g4,g5,g6,g7,g8,g9,g10,g11,g12⟩:=g
  have HO:=hide ho
  clear ho
  go_wp2_with fail
  refine(vI x _ HX.out).mono ?_
  rintro E w3 ⟨rfl,aD⟩
  have cB:=aD.size
  have aY:=aL.trans (aD.mono (by omega))
  have HN:Hid (vn x=.agg #[.int .i64 x.e,.int .i64 x.r,.int .i64 x.a,.int .i64 x.p,.int .i64 x.f,.int .i64 x.b]):=rfl
  rw[HN.out]
  clear d0 d1 d2 d3 d4 d5 aL aD
  go_wp2
  go_loopw [5,15] (fun bb kk wr=>∃k:Nat,k≤6∧kk=.int .i64 k∧Own .u8 5 w.heap.size wr bb (Pm.encs ((Pm.nums x).take k))∧Below w.heap.size w wr) (fun _ kk _=>7-(intOf kk).toNat)
  case atStart=>exact⟨0,by omega,rfl,Own.nil _ _ _ _,aY⟩
  case round=>
   obtain⟨k,hk,rfl,own,fC⟩:=hrel
   have szr:=fC.size
   rcases(show k=0∨k=1∨k=2∨k=3∨k=4∨k=5∨k=6 by omega)with rfl|rfl|rfl|rfl|rfl|rfl|rfl
   ·have hix:=Tryz.av9 x.e x.r x.a x.p x.f x.b
    have hwr:=l8 x.e (by omega) (by omega)
    have hln:=iN HO.out 0
    go_wp2_with fail
    refine(fO _ _ x.e _ own.is (by omega) (by omega) (by omega)).mono ?_
    rintro E w4 ⟨v4,rfl,aW,aK⟩
    have e:Pm.encs ((Pm.nums x).take 0)++Vm.enc x.e.toNat=Pm.encs ((Pm.nums x).take 1):=lT (Pm.nums x) 0 (by simp[Pm.nums])
    rw[e]at aW
    have dw:=aW.bu (base':=w.heap.size) (by omega)
    have aZ:=fC.trans (aK.mono (by omega))
    clear own aW e aK
    go_wp2
    go_roundw
    case rel=>exact⟨1,by omega,rfl,dw,aZ⟩
    case measure=>simp[intOf]
   ·have hix:=Tryz.axa x.e x.r x.a x.p x.f x.b
    have hwr:=l8 x.r (by omega) (by omega)
    have hln:=iN HO.out 1
    go_wp2_with fail
    refine(fO _ _ x.r _ own.is (by omega) (by omega) (by omega)).mono ?_
    rintro E w4 ⟨v4,rfl,aW,aK⟩
    have e:Pm.encs ((Pm.nums x).take 1)++Vm.enc x.r.toNat=Pm.encs ((Pm.nums x).take 2):=lT (Pm.nums x) 1 (by simp[Pm.nums])
    rw[e]at aW
    have dw:=aW.bu (base':=w.heap.size) (by omega)
    have aZ:=fC.trans (aK.mono (by omega))
    clear own aW e aK
    go_wp2
    go_roundw
    case rel=>exact⟨2,by omega,rfl,dw,aZ⟩
    case measure=>simp[intOf]
   ·have hix:=Tryz.awN x.e x.r x.a x.p x.f x.b
    have hwr:=l8 x.a (by omega) (by omega)
    have hln:=iN HO.out 2
    go_wp2_with fail
    refine(fO _ _ x.a _ own.is (by omega) (by omega) (by omega)).mono ?_
    rintro E w4 ⟨v4,rfl,aW,aK⟩
    have e:Pm.encs ((Pm.nums x).take 2)++Vm.enc x.a.toNat=Pm.encs ((Pm.nums x).take 3):=lT (Pm.nums x) 2 (by simp[Pm.nums])
    rw[e]at aW
    have dw:=aW.bu (base':=w.heap.size) (by omega)
    have aZ:=fC.trans (aK.mono (by omega))
    clear own aW e aK
    go_wp2
    go_roundw
    case rel=>exact⟨3,by omega,rfl,dw,aZ⟩
    case measure=>simp[intOf]
   ·have hix:=Tryz.atj x.e x.r x.a x.p x.f x.b
    have hwr:=l8 x.p (by omega) (by omega)
    have hln:=iN HO.out 3
    go_wp2_with fail
    refine(fO _ _ x.p _ own.is (by omega) (by omega) (by omega)).mono ?_
    rintro E w4 ⟨v4,rfl,aW,aK⟩
    have e:Pm.encs ((Pm.nums x).take 3)++Vm.enc x.p.toNat=Pm.encs ((Pm.nums x).take 4):=lT (Pm.nums x) 3 (by simp[Pm.nums])
    rw[e]at aW
    have dw:=aW.bu (base':=w.heap.size) (by omega)
    have aZ:=fC.trans (aK.mono (by omega))
    clear own aW e aK
    go_wp2
    go_roundw
    case rel=>exact⟨4,by omega,rfl,dw,aZ⟩
    case measure=>simp[intOf]
   ·have hix:=Tryz.as9 x.e x.r x.a x.p x.f x.b
    have hwr:=l8 x.f (by omega) (by omega)
    have hln:=iN HO.out 4
    go_wp2_with fail
    refine(fO _ _ x.f _ own.is (by omega) (by omega) (by omega)).mono ?_
    rintro E w4 ⟨v4,rfl,aW,aK⟩
    have e:Pm.encs ((Pm.nums x).take 4)++Vm.enc x.f.toNat=Pm.encs ((Pm.nums x).take 5):=lT (Pm.nums x) 4 (by simp[Pm.nums])
    rw[e]at aW
    have dw:=aW.bu (base':=w.heap.size) (by omega)
    have aZ:=fC.trans (aK.mono (by omega))
    clear own aW e aK
    go_wp2
    go_roundw
    case rel=>exact⟨5,by omega,rfl,dw,aZ⟩
    case measure=>simp[intOf]
   ·have hix:=Tryz.atf x.e x.r x.a x.p x.f x.b
    have hwr:=l8 x.b (by omega) (by omega)
    have hln:=iN HO.out 5
    go_wp2_with fail
    refine(fO _ _ x.b _ own.is (by omega) (by omega) (by omega)).mono ?_
    rintro E w4 ⟨v4,rfl,aW,aK⟩
    have e:Pm.encs ((Pm.nums x).take 5)++Vm.enc x.b.toNat=Pm.encs ((Pm.nums x).take 6):=lT (Pm.nums x) 5 (by simp[Pm.nums])
    rw[e]at aW
    have dw:=aW.bu (base':=w.heap.size) (by omega)
    have aZ:=fC.trans (aK.mono (by omega))
    clear own aW e aK
    go_wp2
    go_roundw
    case rel=>exact⟨6,by omega,rfl,dw,aZ⟩
    case measure=>simp[intOf]
   ·go_wp2
    go_ret2
    exact⟨_,by rw[Pm.fZ HO.out];rfl,by rw[jd HO.out];exact own,fC⟩
 ·rw[Pm.ik ho]
  have HO:=hide ho
  clear ho
  go_wp2
  go_ret2
  exact⟨_,by rw[Pm.ik HO.out];rfl,by rw[oh HO.out];exact Own.nil _ _ _ _,aL⟩
def DI (bs:List Int) (w wr:World) (x:Pm.Pg) (k:Nat) (a:Nat):Prop:=
 wr.heap[w.heap.size]? =some (.cells #[.int .i64 0,.int .u8 0,.int .i64 0,.int .u8 0,.int .i64 0,.int .i64 0] 46 (0,0))∧
 wr.heap[w.heap.size+1]? =some (.cells #[.int .i64 x.e,.int .i64 x.r,.int .i64 x.a,.int .i64 x.p,.int .i64 x.f,.int .i64 x.b] 131 (0,0))∧
 Below w.heap.size w wr∧Pm.encs ((Pm.nums x).take k)<+:bs∧a=(Pm.encs ((Pm.nums x).take k)).length∧Up x k
def LI (bs:List Int) (w wr:World) (L:Nat) (z x:Pm.Pg) (a:Nat):Prop:=
 wr.heap[w.heap.size]? =some (.cells #[.int .i64 0,.int .u8 0,.int .i64 0,.int .u8 0,.int .i64 0,.int .i64 0] 46 (0,0))∧
 wr.heap[L]? =some (.cells #[.int .i64 x.e,.int .u8 x.r,.int .i64 x.a,.int .u8 x.p,.int .i64 x.f,.int .i64 x.b] 46 (0,0))∧
 w.heap.size<L∧Below w.heap.size w wr∧Pm.Go bs z x a∧eU x
theorem agv (p:Nat)(F:Nat→Prop)(w:World)(st:Dm.Ds)(base e f:Int)(v:Value)(rs:List Cw)(hc:∀W,Out F w W→di W v rs)(hf:dL rs)(hl:rs.length≤2000)(h:Pk p F w st)(t u:Nat)(hB:Big t u st)(ht:t≤100000000000)(hu:u+20000≤1000000):
  Calls Tryz.prog 176 #[.pointer (some ⟨p,0,none⟩),.int .i64 base,bK e f v] w fun E w'=>E=.returned (.int .i64 (Orp.dX st base ⟨e,f,ay rs⟩).1)∧aV p F w w' (Orp.dX st base ⟨e,f,ay rs⟩).2:=by
 unfold bK
 obtain⟨w1,hw1,aT,aj,hBx⟩:=ak w #[.int .i64 e,.int .i64 f,v] 52
 obtain⟨s,hs⟩:∃s:Orp.Se,⟨e,f,ay rs⟩=s:=⟨_,rfl⟩
 have D1:=hide (h.below aj)
 have FLT:Hid (∀g,F g→g<w.heap.size):=hide h.lt
 have RD:=hide (ji p F w1 st 3 D1.out (fun f=>by have:=hB.1.1 f;omega) (by have:=hB.1.2.1;omega))
 have EN:Hid (∀W,Below w.heap.size w W→Calls Tryz.prog 202 #[bK e f v] W fun E w'=>∃vb,E=.returned (.tuple #[vb,.int .i64 (Orp.chk ⟨e,f,ay rs⟩)])∧Own .u8 5 W.heap.size w' vb (Orp.out ⟨e,f,ay rs⟩)∧Below W.heap.size W w'):=hide fun W hW=>amt e f v rs W (hc W (Out.of_below hW)) hf (by omega)
 unfold bK at EN
 rw[hs]at EN⊢
 obtain⟨rr,hrr⟩:∃x,Orp.dX st base s=x:=⟨_,rfl⟩
 rw[hrr]
 have HRR:=hide hrr
 have hsl:s.cs.length=rs.length:=by rw[←hs];exact iI rs
 obtain⟨va,vk,hv,_,_⟩:=(hc w (Out.refl _ _)).1.shape
 have B1:=hide aj
 have HBX:=hide hBx
 rw[hv]at hw1 EN HBX
 subst hv
 clear hc hf h aj hBx hs hrr
 cases hon:st.on with
 |false=>
  rw[show lY st 3=6 by unfold lY;rw[if_pos hon]]at RD
  have HR:=hide (HRR.out.symm.trans (Orp.ar8 hon))
  clear hon EN HBX
  go_enter Tryz.func176,Tryz.ntmps176
  go_wp2_with fail
  refine RD.out.mono ?_
  rintro E w2 ⟨vh,rfl,lG,au⟩
  have FIN:Hid (aV p F w w2 st):=hide (aV.pre B1.out (aV.same D1.out au))
  obtain⟨ha,hk,vE,_,_⟩:=lG.is.shape
  subst vE
  clear RD D1 lG au
  go_wp2
  go_ret
  rw[HR.out]
  exact⟨rfl,FIN.out⟩
 |true=>
 rw[show lY st 3=0 by unfold lY;rw[if_neg (by simp[hon]),if_neg (by decide)],show lI st 3=Orp.hl st by unfold lI;rw[if_neg (by simp[hon]),if_neg (by decide)];rfl]at RD
 have HON:=hide hon
 clear hon
 obtain⟨ck,hck⟩:∃z,Orp.chk s=z:=⟨_,rfl⟩
 rw[hck]at EN
 have HCK:=hide hck
 clear hck
 go_enter Tryz.func176,Tryz.ntmps176
 go_wp2_with fail
 refine RD.out.mono ?_
 rintro E w2 ⟨vh,rfl,lG,au⟩
 obtain⟨ha,hk,vE,_,_⟩:=lG.is.shape
 obtain⟨nh,hnh⟩:∃z,(Orp.hl st).length=z:=⟨_,rfl⟩
 rw[hnh]at vE
 have hnb:nh≤100000000000:=by rw[←hnh];have:=Dm.lH st.wait (st.sure 3) 3;have:=hB.1.1 3;unfold Orp.hl;omega
 have D2:=hide (D1.out.below au)
 have B2:=hide (B1.out.trans (au.mono B1.out.size))
 have hB2:=(au.block _ (ax HBX.out)).trans HBX.out
 have k0:=ai hB2 0 rfl
 have k1:=ai hB2 1 rfl
 have k2:=ai hB2 2 rfl
 simp only[List.getElem_toArray,List.getElem_cons_zero,List.getElem_cons_succ]at k0 k1 k2
 have EN2:=hide (EN.out w2 B2.out)
 have HNH:=hide hnh
 have s2:=B2.out.size
 subst vE
 clear RD lG au hnh EN D1 B1 HBX hB2
 go_wp2_with fail
 refine EN2.out.mono ?_
 rintro E w3 ⟨vb,rfl,abu,aD⟩
 have D3:=hide (D2.out.below aD)
 have B3:=hide (B2.out.trans (aD.mono B2.out.size))
 obtain⟨xa,xn,xk,hvb⟩:=abu.is.form
 clear EN2 k0 k1 k2
 by_cases hc0:ck=0
 ·subst hc0
  rw[Orp.jd HCK.out]at abu
  have hlb:(Orp.sec s).length≤900000:=by have:=Orp.aaB HCK.out;omega
  have OB3:=hide abu
  have VB:Hid (∀g,vb.ownBlock=some g→w.heap.size≤g∧g<w3.heap.size):=hide fun g hg=>by have:=abu.block g hg;omega
  have hcn:cnt (Orp.sec s).length≤14063:=by unfold cnt;omega
  rw[hvb]at OB3 VB
  subst hvb
  clear abu aD D2 B2
  by_cases hbad:base<0∨(nh:Int)<base
  ·have HR:=hide (HRR.out.symm.trans (Orp.arR HON.out HCK.out (by rw[HNH.out];exact hbad)))
   have FIN:Hid (aV p F w w3 st):=hide (aV.pre B3.out (aV.same D3.out (Below.refl _ _)))
   by_cases hb0:base<0
   ·clear hbad
    go_wp2
    go_ret
    rw[HR.out]
    exact⟨rfl,FIN.out⟩
   ·have hb1:(nh:Int)<base:=by omega
    clear hbad
    go_wp2
    go_ret
    rw[HR.out]
    exact⟨rfl,FIN.out⟩
  have hb0:¬base<0:=by omega
  have hb1:¬(nh:Int)<base:=by omega
  have HW1:=hide (HRR.out.symm.trans (Orp.aeo HON.out HCK.out (by rw[HNH.out];exact hbad)))
  clear hbad
  by_cases hcut:base<nh
  ·have CU:=hide (ahc p F w3 st 3 base D3.out (fun f=>by have:=hB.1.1 f;omega) (by have:=hB.1.2.1;omega) hB.2 (by have:=hB.1.2.2;omega))
   have hbB:=sS hB 3 base
   have C6:=hide (awG (st:=st) (n:=base) HON.out (by omega) (by rw[HNH.out];omega))
   obtain⟨⟨e4,kP⟩,h4⟩:∃x,Dm.cK st 3 base=x:=⟨_,rfl⟩
   have H4:=hide h4
   rw[h4]at CU hbB C6
   simp only at CU hbB C6
   clear h4
   go_wp2_with fail
   refine CU.out.mono ?_
   rintro E w4 ⟨rfl,F4,D4',O4,S4⟩
   have D4:=hide D4'
   have nz:Hid (Out F w w4∧∀g,F4 g→F g∨w3.heap.size≤g):=hide ⟨(Out.of_below B3.out).trans O4 (fun g hg=>.inl hg),S4⟩
   have IB4:Hid (Is .u8 w4 (.slice xa xn xk) (Orp.sec s)):=hide (OB3.out.is.agree fun g hg=>O4.block g (by have:=VB.out g hg;omega) fun hF=>by have:=VB.out g hg;have:=FLT.out g hF;omega)
   have NF4:Hid (∀g,(Value.slice xa xn xk).ownBlock=some g→¬F4 g):=hide fun g hg hF=>by
    have q:=VB.out g hg
    rcases S4 g hF with q2|q2
    ·have:=FLT.out g q2;omega
    ·omega
   clear CU D4' O4 S4 D3
   by_cases he4:e4=0
   ·subst he4
    have hW:Orp.qy st base s=Orp.wr2 kP s:=by rw[ast (by rw[HNH.out];exact hcut) (by rw[H4.out]),H4.out]
    have HW:=hide (HW1.out.trans hW)
    have hBc:Big t (u+1) kP:=hbB
    clear hW hcut hbB
    have WR:=hide (oQ p F4 w4 kP 3 (.slice xa xn xk) (Orp.sec s) D4.out IB4.out (fun _=>NF4.out) (by omega) (by have:=hBc.1.2.1;omega) hBc.2 (by have:=hBc.1.2.2;omega))
    have jO:=ku hBc 3 (Orp.sec s)
    have E1:=hide (fun h=>al5 (st:=kP) (s:=s) h)
    have E2:=hide (fun h q=>ajG (st:=kP) (s:=s) h q)
    have E3:=hide (fun h q=>aln (st:=kP) (s:=s) h q)
    have W6:=hide (af0 (st:=kP) (Orp.sec s))
    obtain⟨⟨e5,vO⟩,h5⟩:∃x,Dm.write kP 3 (Orp.sec s)=x:=⟨_,rfl⟩
    rw[h5]at WR jO E1 E2 E3 W6
    simp only at WR jO E1 E2 E3 W6
    rw[←HW.out]at E1 E2 E3
    clear h5 IB4 NF4
    go_wp2_with fail
    refine WR.out.mono ?_
    rintro E w5 ⟨rfl,F5,D5',O5,S5⟩
    have D5:=hide D5'
    have kY:Hid (Out F w w5∧∀g,F5 g→F g∨w.heap.size≤g):=hide ⟨nz.out.1.trans O5 (fun g hg=>(nz.out.2 g hg).imp_right fun q=>Nat.le_trans B3.out.size q),fun g hg=>by
     rcases S5 g hg with q|q
     ·exact(nz.out.2 g q).imp_right fun q=>Nat.le_trans B3.out.size q
     ·exact .inr (Nat.le_trans nz.out.1.size q)⟩
    clear WR D5' O5 S5 D4 nz
    by_cases he5:e5=0
    ·subst he5
     have SY:=hide (uX p F5 w5 vO D5.out (fun f=>by have:=jO.1.1 f;omega) (by have:=jO.1.2.1;omega) jO.2 (by have:=jO.1.2.2;omega))
     have Y6:=hide (agL vO)
     obtain⟨⟨e6,st6⟩,h6⟩:∃x,Dm.sync vO=x:=⟨_,rfl⟩
     rw[h6]at SY E2 E3 Y6
     simp only at SY E2 E3 Y6
     clear h6
     go_wp2_with fail
     refine SY.out.mono ?_
     rintro E w6 ⟨rfl,F6,D6',O6,S6⟩
     have FIN:Hid (aV p F w w6 st6):=hide ⟨F6,D6',kY.out.1.trans O6 kY.out.2,fun g hg=>by
      rcases S6 g hg with q|q
      ·exact kY.out.2 g q
      ·exact .inr (Nat.le_trans kY.out.1.size q)⟩
     clear SY D6' O6 S6 D5 kY
     by_cases he6:e6=0
     ·subst he6
      have HR:=hide (E3.out (by trivial) (by trivial))
      clear E1 E2 E3
      go_wp2
      go_ret
      rw[HR.out]
      exact⟨rfl,FIN.out⟩
     ·obtain rfl:e6=6:=Y6.out.resolve_left he6
      have HR:=hide (E2.out (by trivial) (by decide))
      clear E1 E2 E3
      go_wp2
      go_ret
      rw[HR.out]
      exact⟨rfl,FIN.out⟩
    ·obtain rfl:e5=6:=W6.out.resolve_left he5
     have HR:=hide (E1.out (by decide))
     have FIN:Hid (aV p F w w5 vO):=hide ⟨F5,D5.out,kY.out.1,kY.out.2⟩
     clear E1 E2 E3
     go_wp2
     go_ret
     rw[HR.out]
     exact⟨rfl,FIN.out⟩
   ·obtain rfl:e4=6:=C6.out.resolve_left he4
    have hW:Orp.qy st base s=(6,kP):=by rw[awH (by rw[HNH.out];exact hcut) (by rw[H4.out];simp),H4.out]
    have HR:=hide (HW1.out.trans hW)
    have FIN:Hid (aV p F w w4 kP):=hide ⟨F4,D4.out,nz.out.1,fun g hg=>(nz.out.2 g hg).imp_right fun q=>Nat.le_trans B3.out.size q⟩
    clear hW
    go_wp2
    go_ret
    rw[HR.out]
    exact⟨rfl,FIN.out⟩
  ·have hW:Orp.qy st base s=Orp.wr2 st s:=asv (by rw[HNH.out];exact hcut)
   have HW:=hide (HW1.out.trans hW)
   obtain⟨kP,ai2⟩:∃x,st=x:=⟨_,rfl⟩
   obtain⟨w4,hw4⟩:∃x,w3=x:=⟨_,rfl⟩
   obtain⟨F4,hF4⟩:∃x,F=x:=⟨_,rfl⟩
   have hBc:Big t (u+1) kP:=by rw[←ai2];exact hB.mono (Nat.le_refl _) (by omega)
   have D4:Hid (Pk p F4 w4 kP):=by rw[←ai2,←hw4,←hF4];exact D3
   have nz:Hid (Out F w w4∧∀g,F4 g→F g∨w3.heap.size≤g):=hide ⟨by rw[←hw4];exact Out.of_below B3.out,fun g hg=>.inl (by rw[hF4];exact hg)⟩
   have IB4:Hid (Is .u8 w4 (.slice xa xn xk) (Orp.sec s)):=hide (by rw[←hw4];exact OB3.out.is)
   have NF4:Hid (∀g,(Value.slice xa xn xk).ownBlock=some g→¬F4 g):=hide fun g hg hF=>by
    have q:=VB.out g hg
    rw[←hF4]at hF
    have:=FLT.out g hF
    omega
   rw[ai2]at HW
   rw[hw4]
   clear hW D3 ai2 hw4 hF4
   have WR:=hide (oQ p F4 w4 kP 3 (.slice xa xn xk) (Orp.sec s) D4.out IB4.out (fun _=>NF4.out) (by omega) (by have:=hBc.1.2.1;omega) hBc.2 (by have:=hBc.1.2.2;omega))
   have jO:=ku hBc 3 (Orp.sec s)
   have E1:=hide (fun h=>al5 (st:=kP) (s:=s) h)
   have E2:=hide (fun h q=>ajG (st:=kP) (s:=s) h q)
   have E3:=hide (fun h q=>aln (st:=kP) (s:=s) h q)
   have W6:=hide (af0 (st:=kP) (Orp.sec s))
   obtain⟨⟨e5,vO⟩,h5⟩:∃x,Dm.write kP 3 (Orp.sec s)=x:=⟨_,rfl⟩
   rw[h5]at WR jO E1 E2 E3 W6
   simp only at WR jO E1 E2 E3 W6
   rw[←HW.out]at E1 E2 E3
   clear h5 IB4 NF4
   go_wp2_with fail
   refine WR.out.mono ?_
   rintro E w5 ⟨rfl,F5,D5',O5,S5⟩
   have D5:=hide D5'
   have kY:Hid (Out F w w5∧∀g,F5 g→F g∨w.heap.size≤g):=hide ⟨nz.out.1.trans O5 (fun g hg=>(nz.out.2 g hg).imp_right fun q=>Nat.le_trans B3.out.size q),fun g hg=>by
    rcases S5 g hg with q|q
    ·exact(nz.out.2 g q).imp_right fun q=>Nat.le_trans B3.out.size q
    ·exact .inr (Nat.le_trans nz.out.1.size q)⟩
   clear WR D5' O5 S5 D4 nz
   by_cases he5:e5=0
   ·subst he5
    have SY:=hide (uX p F5 w5 vO D5.out (fun f=>by have:=jO.1.1 f;omega) (by have:=jO.1.2.1;omega) jO.2 (by have:=jO.1.2.2;omega))
    have Y6:=hide (agL vO)
    obtain⟨⟨e6,st6⟩,h6⟩:∃x,Dm.sync vO=x:=⟨_,rfl⟩
    rw[h6]at SY E2 E3 Y6
    simp only at SY E2 E3 Y6
    clear h6
    go_wp2_with fail
    refine SY.out.mono ?_
    rintro E w6 ⟨rfl,F6,D6',O6,S6⟩
    have FIN:Hid (aV p F w w6 st6):=hide ⟨F6,D6',kY.out.1.trans O6 kY.out.2,fun g hg=>by
     rcases S6 g hg with q|q
     ·exact kY.out.2 g q
     ·exact .inr (Nat.le_trans kY.out.1.size q)⟩
    clear SY D6' O6 S6 D5 kY
    by_cases he6:e6=0
    ·subst he6
     have HR:=hide (E3.out (by trivial) (by trivial))
     clear E1 E2 E3
     go_wp2
     go_ret
     rw[HR.out]
     exact⟨rfl,FIN.out⟩
    ·obtain rfl:e6=6:=Y6.out.resolve_left he6
     have HR:=hide (E2.out (by trivial) (by decide))
     clear E1 E2 E3
     go_wp2
     go_ret
     rw[HR.out]
     exact⟨rfl,FIN.out⟩
   ·obtain rfl:e5=6:=W6.out.resolve_left he5
    have HR:=hide (E1.out (by decide))
    have FIN:Hid (aV p F w w5 vO):=hide ⟨F5,D5.out,kY.out.1,kY.out.2⟩
    clear E1 E2 E3
    go_wp2
    go_ret
    rw[HR.out]
    exact⟨rfl,FIN.out⟩
 ·have hcb:(ck !=0)=true:=by simp[hc0]
  have HR:=hide (HRR.out.symm.trans (Orp.asc HON.out (by rw[HCK.out];exact hc0)))
  rw[HCK.out]at HR
  have FIN:Hid (aV p F w w3 st):=hide (aV.pre B3.out (aV.same D3.out (Below.refl _ _)))
  subst hvb
  clear abu
  go_wp2
  go_ret
  rw[HR.out]
  exact⟨rfl,FIN.out⟩
def yJ (l:List Cm.Cv) (n most:Int):List Cm.Cv:=if n<1∨(l.length:Int)<n∨most<1 then []else(l.drop (n.toNat-1)).take most.toNat
theorem wU (p q:Nat)(F:Nat→Prop)(w:World)(s:Wl.Ws)(n most:Int)(h:WW p q F w s):
  Calls Tryz.prog 34 #[.pointer (some ⟨p,0,none⟩),.int .i64 n,.int .i64 most] w fun E w'=>∃v rs,E=.returned v∧bn 35 w.heap.size w' v rs∧dR w.heap.size w' rs∧ay rs=yJ s.l n most∧ApC rs∧Below w.heap.size w w':=by
 obtain⟨F1,G1,h1,⟨vc,ve,rs,hv,rfl⟩,rfl⟩:=h
 have HM:=hide (oo p q w #[] _ _ _ hv.blk)
 have c2:w.cell? ⟨p,2,none⟩=some vc:=ai hv.blk 2 rfl
 have HE:=hide (jC p 2 w vc rs c2 hv.log.r.row.row)
 have hlen:=hv.log.len
 rw[hlen]at HE
 have hgl:=eO hv.log.good
 have sU:Hid (∀W m,W=w.drewN m→n<1∨(s.l.length:Int)<n∨most<1→bn 35 w.heap.size W (.slice none 0 0) []∧dR w.heap.size W []∧ay []=yJ s.l n most∧ApC []∧Below w.heap.size w W):=hide fun W m hW hc=>by
  subst hW
  exact⟨bn.nil _ _ _,fun c hc=>by simp at hc,by unfold yJ;rw[if_pos hc];rfl,fun i j c d _ hc=>by simp at hc,below_drewN (Below.refl _ _) m⟩
 by_cases a1:n<1
 ·clear hv h1 HE
  have NO:=hide (sU.out w 0 rfl (.inl a1))
  clear sU
  go_enter Tryz.func34,Tryz.ntmps34
  go_wp2_with fail
  refine HM.out.mono ?_
  rintro E w1 ⟨rfl,rfl⟩
  go_wp2
  go_ret
  exact⟨_,[],rfl,NO.out⟩
 ·by_cases a2:(s.l.length:Int)<n
  ·clear hv h1
   have NO:=hide (sU.out w 0 rfl (.inr (.inl a2)))
   clear sU
   go_enter Tryz.func34,Tryz.ntmps34
   go_wp2_with fail
   refine HM.out.mono ?_
   rintro E w1 ⟨rfl,rfl⟩
   go_wp2_with fail
   refine HE.out.mono ?_
   rintro E w1 ⟨rfl,rfl⟩
   go_wp2
   go_ret
   exact⟨_,[],rfl,NO.out⟩
  ·by_cases a3:most<1
   ·clear hv h1
    have NO:=hide (sU.out w 0 rfl (.inr (.inr a3)))
    clear sU
    go_enter Tryz.func34,Tryz.ntmps34
    go_wp2_with fail
    refine HM.out.mono ?_
    rintro E w1 ⟨rfl,rfl⟩
    go_wp2_with fail
    refine HE.out.mono ?_
    rintro E w1 ⟨rfl,rfl⟩
    go_wp2
    go_ret
    exact⟨_,[],rfl,NO.out⟩
   ·obtain⟨j,rfl⟩:∃j:Nat,n=(j:Int)+1:=⟨(n-1).toNat,by omega⟩
    obtain⟨mm,rfl⟩:∃mm:Nat,most=mm:=⟨most.toNat,by omega⟩
    have hj:j<rs.length:=by omega
    have hfr:yJ s.l ((j:Int)+1) mm=(s.l.drop j).take mm:=by
     unfold yJ
     rw[if_neg (by omega)]
     congr 2
    obtain⟨b0,off,cap0,mX,hcap,hcm,_,_⟩:=hv.log.r.row.row.full (by omega)
    obtain⟨v1,hs1,auw⟩:=hv.log.r.row.row.gq Tryz.mo Tryz.mM j hj
    have hv1:v1=.slice (some ⟨b0,off+j*3,none⟩) (rs.length-j) (cap0-j):=by
     have:=hs1 w
     rw[mX,run_slice_l w 22 _ rs.length cap0 Tryz.mo .i64 _ (by omega) (by omega),Tryz.mM]at this
     have hne:¬cap0=j:=by omega
     simp[Result.andThen,sliced,hne,gF]at this
     exact this.symm
    obtain⟨m,hm⟩:∃m,m=min mm (rs.length-j):=⟨_,rfl⟩
    have hm1:1≤m:=by omega
    have aoQ:m≤(rs.drop j).length:=by rw[List.length_drop];omega
    obtain⟨v2,hs2,ait⟩:=auw.jb Tryz.mo Tryz.mM m aoQ
    have hv2:v2=.slice (some ⟨b0,off+j*3,none⟩) m (cap0-j):=by
     have:=hs2 w
     rw[hv1,run_slice_h w 22 _ (rs.length-j) (cap0-j) Tryz.mo .i64 _ (by omega) (by rw[List.length_drop]at aoQ;omega),Tryz.mM]at this
     simp[Result.andThen,sliced,Addr.add]at this
     exact this.symm
    obtain⟨rest,hrest⟩:∃rest,rest=(rs.drop j).take m:=⟨_,rfl⟩
    have hrl:rest.length=m:=by rw[hrest,List.length_take];omega
    have hcv:ay rest=(s.l.drop j).take mm:=by
     rw[hrest,ay,List.map_take,List.map_drop,←ay,hv.log.is,hm]
     rw[hlen]
     apply List.ext_getElem?
     intro i
     rw[List.getElem?_take,List.getElem?_take]
     by_cases hi:i<min mm (s.l.length-j)
     ·rw[if_pos hi,if_pos (by omega)]
     ·rw[if_neg hi]
      by_cases hi2:i<mm
      ·rw[if_pos hi2,List.getElem?_drop,List.getElem?_eq_none (by omega)]
      ·rw[if_neg hi2]
    have hin:∀c∈rest,c∈rs:=fun c hc=>List.mem_of_mem_drop (List.mem_of_mem_take (hrest▸hc))
    have anh:Hid (∀W,Below w.heap.size w W→∀c∈rest,dh W c.v c.l∧c.l.length*40≤140737488351232):=hide fun W hb c hc=>⟨((hv.log.r.kN c (hin c hc)).is).below hb,by have:=((aem hv.log.good hv.log.is).2 c (hin c hc)).2.2;omega⟩
    have tq:Hid (Calls Tryz.prog 88 #[v2] w fun e w'=>∃g cap,e=.returned (.slice (some ⟨g,0,none⟩) m cap)∧m≤cap∧zi w w' g m cap rest 0 rest):=hide (by
     refine(aa0 v2 rest w (by rw[hrest];exact ait) (fun c hc=>(hv.log.r.kN c (hin c hc)).is.one) (by rw[hrl];omega)).mono ?_
     rintro E w' ⟨v,rfl,own,aF⟩
     rcases own.2 with⟨_,h0⟩|⟨g,cap,cur,hvv,_,_,hc,_⟩
     ·omega
     ·refine⟨g,cap,by rw[hvv,hrl],by omega,by rw[←hrl,←hvv];exact own,hrl,rfl,fun c hc=>by simp at hc,rfl,fun i j c d _ hc=>by simp at hc,aF⟩)
    have hwr:IntKind.i64.wrap (((j:Int)+1)-1)=(j:Int):=by rw[aS _ (by omega) (by omega)];omega
    have hne0:¬cap0=j:=by omega
    rw[hv2]at tq
    rw[mX]at c2
    rw[hlen]at c2 hm hcap
    have FIN:Hid (∀W g cap rk,zi w W g m cap rest m rk→bn 35 w.heap.size W (.slice (some ⟨g,0,none⟩) m cap) rk∧dR w.heap.size W rk∧ay rk=yJ s.l ((j:Int)+1) mm∧ApC rk∧Below w.heap.size w W):=hide fun W g cap rk hF=>by
     have ht:rk.take m=rk:=List.take_of_length_le (by rw[hF.len];omega)
     have h1:=hF.kN
     have h2:=hF.ap
     rw[ht]at h1 h2
     exact⟨hF.row,h1,by rw[hF.is,hcv,hfr],h2,hF.aF⟩
    have HRL:=hide hrl
    have hj':j<s.l.length:=by omega
    have hm3:m≤1048576:=by omega
    clear hv h1 sU auw ait hv1 hv2 hs1 hs2 hrest hcv hfr hrl hin aoQ mX hj hcm
    clear hlen
    have at5:Hid (∀z:Nat,z=m→Calls Tryz.prog 88 #[.slice (some ⟨b0,off+j*3,none⟩) z (cap0-j)] w fun e w'=>∃g cap,e=.returned (.slice (some ⟨g,0,none⟩) m cap)∧m≤cap∧zi w w' g m cap rest 0 rest):=hide fun z hz=>by rw[hz];exact tq.out
    have HMM:=hide hm
    clear tq hm
    go_enter Tryz.func34,Tryz.ntmps34
    go_wp2_with fail
    refine HM.out.mono ?_
    rintro E w1 ⟨rfl,rfl⟩
    go_wp2_with fail
    refine HE.out.mono ?_
    rintro E w1 ⟨rfl,rfl⟩
    go_wp2_with fail
    all_goals
     refine(at5.out _ (by rw[HMM.out];omega)).mono ?_
     rintro E w1 ⟨g,cap,rfl,hcp,F0⟩
     have F0:=hide F0
     clear at5 HM HE
     go_wp2
     go_loopw [47] (fun iv wr=>∃(k:Nat) (rk:List Cw),k≤m∧iv=.int .i64 k∧Hid (zi w wr g m cap rest k rk)) (fun iv _=>m-(intOf iv).toNat)
     case atStart=>exact⟨0,rest,by omega,rfl,F0⟩
     case round=>
      obtain⟨k,rk,hk,rfl,gB⟩:=hrel
      by_cases hlt:k<m
      ·obtain⟨c,hc⟩:∃c,rest[k]? =some c:=⟨rest[k]'(by rw[HRL.out];omega),by rw[List.getElem?_eq_getElem]⟩
       have hcm:=List.mem_of_getElem? hc
       have vN:rk[k]? =some c:=by
        have e1:(rk.drop k)[0]? =(rest.drop k)[0]? :=by rw[gB.out.left]
        rw[List.getElem?_drop,List.getElem?_drop]at e1
        simpa using e1.trans (by simpa using hc)
       obtain⟨⟨d0,d1,d2⟩,_⟩:=yc gB.out.row gB.out.len k c vN
       obtain⟨wa,hwa,zP,sza,jJ,bA,x0,x1,x2⟩:=fJ wr 35 (.int .i64 0) (.int .i64 0) (.slice none 0 0) (.int .i64 c.e) (.int .i64 c.n) c.v
       obtain⟨kT,hlo⟩:=anh.out wr gB.out.aF c hcm
       have CP:Hid (Calls Tryz.prog 35 #[.agg #[.int .i64 c.e,.int .i64 c.n,c.v]] wa fun E w2=>∃v2,E=.returned (.agg #[.int .i64 c.e,.int .i64 c.n,v2])∧(∃a n z,v2=.slice a n z)∧(∃W,((w2.setCell ⟨g,k*3,none⟩ (.int .i64 c.e)).setCell ⟨g,k*3+1,none⟩ (.int .i64 c.n)).setCell ⟨g,k*3+2,none⟩ v2=W∧∃rk',zi w W g m cap rest (k+1) rk')∧(w2.cell? ⟨g,k*3,none⟩=some (.int .i64 c.e)∧w2.cell? ⟨g,k*3+1,none⟩=some (.int .i64 c.n)∧w2.cell? ⟨g,k*3+2,none⟩=some c.v)∧(w2.frozen? ⟨g,k*3,none⟩=false∧w2.frozen? ⟨g,k*3+1,none⟩=false∧w2.frozen? ⟨g,k*3+2,none⟩=false)):=hide (by
        refine(oK c.e c.n c.v c.l wa (kT.below jJ) hlo).mono ?_
        rintro E w2 ⟨v2,rfl,aP,au⟩
        have b2:Below wr.heap.size wr w2:=jJ.trans (au.mono jJ.size)
        have hrow2:bn 35 w.heap.size w2 (.slice (some ⟨g,0,none⟩) m cap) rk:=gB.out.row.below b2
        obtain⟨W,hW,oW,gW⟩:=afr hrow2 gB.out.len k hlt ⟨c.e,c.n,v2,c.l⟩
        obtain⟨y,z⟩:=yc hrow2 gB.out.len k c vN
        exact⟨v2,rfl,(by obtain⟨xa,xc,hx,_⟩:=aP.is.shape;exact⟨_,_,_,hx⟩),⟨W,hW,_,gB.out.next hc hlt (aP.bu jJ.size) b2 oW gW⟩,y,z⟩)
       obtain⟨ca,cc,hcv,_,_⟩:=kT.shape
       rw[hcv]at d2 hwa zP x2 CP
       have hlt':(k:Int)<m:=by omega
       clear gB kT hlo vN jJ bA hc hcm
       go_wp2_with fail
       refine CP.out.mono ?_
       rintro E w2 ⟨v2,rfl,⟨a2,n2,z2,rfl⟩,⟨W,hW,rk2,F2⟩,⟨y0,y1,y2⟩,⟨f0,f1,f2⟩⟩
       have F2:=hide F2
       clear CP
       go_wp2
       go_roundw
       case rel=>exact⟨k+1,rk2,by omega,by go_num,F2⟩
       case measure=>simp[intOf];omega
      ·obtain rfl:k=m:=by omega
       have hlt':¬(k:Int)<k:=by omega
       have G:=hide (FIN.out _ g cap rk gB.out)
       clear gB
       go_wp2
       go_ret
       first
       |exact⟨_,rk,rfl,G.out⟩
       |exact⟨_,rfl,rk,G.out⟩
theorem acW {n:Nat}(h:n≤433):cnt n≤7:=by
 unfold cnt
 omega
theorem aks {p q N:Nat}{F1:Nat→Prop}{w w':World}{d:Dm.Ds}{l l':List Cm.Cv}{bk:Bool}{vc ve rF qW:Value}{rs rs':List Cw}(h1:Pk q F1 w d)(hv:zl p q w l bk vc ve rs)
  (hB:w'.heap[p]? =some (.cells #[.pointer (some ⟨q,0,none⟩),.bool bk,rF,qW] 137 (0,0))) (hL:Lw 0 w' l' rF qW rs') (ho:Out (fun g=>g=p∨LB vc ve rs g) w w') (hs:∀g,LB rF qW rs' g→LB vc ve rs g∨N≤g) (hN:N≤w.heap.size):
  ∃F',WW p q F' w' ⟨d,l',bk⟩∧Out (fun g=>F1 g∨g=p∨LB vc ve rs g) w w'∧∀g,F' g→(F1 g∨g=p∨LB vc ve rs g)∨N≤g:=by
 have h2:Wk p q (fun g=>g=p∨LB vc ve rs g) w l bk:=⟨vc,ve,rs,hv,rfl⟩
 refine⟨_,⟨F1,_,h1.out ho fun g hg e=>uA h2 h1 g e hg,⟨rF,qW,rs',⟨hB,hL⟩,rfl⟩,rfl⟩,ho.mono fun g hg=>.inl (.inr hg),?_⟩
 rintro g (e|e|e)
 ·exact .inl (.inl e)
 ·exact .inl (.inr (.inl e))
 ·rcases hs g e with e|e
  ·exact .inl (.inr (.inr e))
  ·exact .inr e
theorem agx (p q:Nat)(F:Nat→Prop)(w:World)(s:Wl.Ws)(c:Cw)(h:WW p q F w s)(hs:aeX s)(hi:dh w c.v c.l)(hf:iL c.l)(h64:In64 c.e∧In64 c.n)(hlo:c.l.length*40≤140737488351232)(jN:0<c.l.length→∀b,c.v.ownBlock=some b→¬F b):
  Calls Tryz.prog 113 #[.pointer (some ⟨p,0,none⟩),bK c.e c.n c.v] w fun E w'=>E=.returned (.int .i64 (Wl.mO s c.c).1)∧dD p q F w w' (Wl.mO s c.c).2:=by
 obtain⟨ao,cap,hcv,_,_⟩:=hi.shape
 obtain⟨w1,hw1,aT,aj,hB0⟩:=ak w #[.int .i64 c.e,.int .i64 c.n,c.v] 35
 have c0:w1.cell? ⟨w.heap.size,0,none⟩=some (.int .i64 c.e):=ai hB0 0 rfl
 have c1:w1.cell? ⟨w.heap.size,1,none⟩=some (.int .i64 c.n):=ai hB0 1 rfl
 have c2:w1.cell? ⟨w.heap.size,2,none⟩=some c.v:=ai hB0 2 rfl
 have hW1:=h.below aj
 have HR:=hide (qG p q F w1 s hW1)
 have hb:=hs.big
 have HLT:=hide h.lt
 have HCF:=hide jN
 clear jN
 unfold bK
 rw[hcv]at hw1 c2⊢
 cases ha:Wl.ask s with
 |true=>
  have e1:Wl.mO s c.c=(6,Wl.brk s):=by unfold Wl.mO;rw[ha];rfl
  rw[e1]
  have B1:=hide aj
  clear h hs hi hf h64 hlo hB0 hcv hW1 e1 hb
  go_enter Tryz.func113,Tryz.ntmps113
  go_wp2_with fail
  refine HR.out.mono ?_
  rintro E w2 (⟨_,rfl,J⟩|⟨h0,_⟩)
  ·have J:=hide (dD.pre B1.out J)
   go_wp2
   go_ret
   exact⟨rfl,J.out⟩
  ·rw[ha]at h0
   cases h0
 |false=>
  have HFR:=hide (ajv c.e c.n c.v c.l w1 (hi.below aj) hf (by omega))
  unfold bK at HFR
  rw[hcv]at HFR
  obtain⟨ch,hch⟩:∃x,Cm.chk c.e c.n c.l=x:=⟨_,rfl⟩
  rw[hch]at HFR
  have KC:=hide hch
  have qM:=hide hcv
  have IOX:=hide hi
  have WA:=hide hW1
  have FO:=hide (show iL c.l∧(In64 c.e∧In64 c.n)∧c.l.length*40≤140737488351232 from⟨hf,h64,hlo⟩)
  have HB:=hide hB0
  have B1:=hide aj
  have BG:=hide hb
  have HS:=hide hs
  clear h hs hi hf h64 hlo hW1 hch hcv hb
  go_enter Tryz.func113,Tryz.ntmps113
  go_wp2_with fail
  refine HR.out.mono ?_
  rintro E w2 (⟨h0,_⟩|⟨_,rfl,rfl⟩)
  ·rw[ha]at h0
   cases h0
  clear HR
  go_wp2_with fail
  refine HFR.out.mono ?_
  rintro E w2 ⟨vb,rfl,own,au⟩
  have W2:=WA.out.below au
  have b02:=B1.out.trans (au.mono B1.out.size)
  have dz:=au.size
  have hB2:=(au.block w.heap.size (by omega)).trans HB.out
  have d0:w2.cell? ⟨w.heap.size,0,none⟩=some (.int .i64 c.e):=ai hB2 0 rfl
  have d1:w2.cell? ⟨w.heap.size,1,none⟩=some (.int .i64 c.n):=ai hB2 1 rfl
  have d2:w2.cell? ⟨w.heap.size,2,none⟩=some c.v:=ai hB2 2 rfl
  rw[qM.out]at d2
  obtain⟨ab,cb,hvb,_,_⟩:=own.is.shape
  have OB:=hide own
  have HB2:=hide hB2
  have zn:=hide b02
  have HW2:=hide W2
  clear WA own au HFR hB2 c0 c1 c2
  by_cases hc0:ch=0
  ·subst hc0
   have hfr:frd c.e c.n c.l=Wl.fr c.c:=by unfold frd;rw[if_pos KC.out];rfl
   have hfl:(frd c.e c.n c.l).length≤433:=by rw[hfr];exact Wl.nN KC.out
   obtain⟨F1,G1,h1,h2,hF⟩:=HW2.out
   obtain⟨vc,ve,rs,hv,hG⟩:=h2
   have hgl:=eO hv.log.good
   have p0:w2.cell? ⟨p,0,none⟩=some (.pointer (some ⟨q,0,none⟩)):=ai hv.blk 0 rfl
   obtain⟨ans,dU⟩:∃x,tk s.l c.c=x:=⟨_,rfl⟩
   have hpw:p<w2.heap.size:=ax hv.blk
   have TK:Hid (∀W,Below w2.heap.size w2 W→Calls Tryz.prog 155 #[.pointer (some ⟨p,2,none⟩),.agg #[.int .i64 c.e,.int .i64 c.n,.slice ao c.l.length cap]] W fun E w'=>E=.returned (.bool ans)∧Below w2.heap.size w2 w'):=hide fun W hbW=>by
    have:=akO p 2 W vc rs (ai ((hbW.block p hpw).trans hv.blk) 2 rfl) (hv.log.r.row.row.below hbW) (by rw[hv.log.len];exact hgl) c ((IOX.out.below zn.out).below hbW) FO.out.2.1.1 FO.out.2.1.2 FO.out.1 FO.out.2.2
    unfold bK at this
    rw[qM.out,hv.log.is,dU]at this
    refine this.mono ?_
    rintro E w' ⟨rfl,hb'⟩
    exact⟨rfl,hbW.trans (hb'.mono hbW.size)⟩
   have HA:=hide dU
   have HV:=hide hv
   have H1:=hide h1
   have HFF:=hide hF
   have HGG:=hide hG
   subst hvb
   clear dU hv h1 hF hG
   go_wp2_with fail
   go_region_held3 (fun w'=>w'.cell? ⟨w.heap.size,0,none⟩=some (.int .i64 c.e)∧w'.cell? ⟨w.heap.size,1,none⟩=some (.int .i64 c.n)∧w'.cell? ⟨w.heap.size,2,none⟩=some (.slice ao c.l.length cap)∧w'.cell? ⟨p,0,none⟩=some (.pointer (some ⟨q,0,none⟩))) (first|exact⟨d0,d1,d2,p0⟩|exact⟨e0,e1,e2,p1⟩|go_keep)
    (first
    |(go_at_call 155;refine(TK.out _ ((Below.refl _ _).drew)).mono ?_;rintro E w3 ⟨rfl,aD⟩;have e0:=(aD.cell (p:=⟨w.heap.size,0,none⟩) (show w.heap.size<w2.heap.size by omega)).trans d0;have e1:=(aD.cell (p:=⟨w.heap.size,1,none⟩) (show w.heap.size<w2.heap.size by omega)).trans d1;have e2:=(aD.cell (p:=⟨w.heap.size,2,none⟩) (show w.heap.size<w2.heap.size by omega)).trans d2;have p1:=(aD.cell (p:=⟨p,0,none⟩) hpw).trans p0))
   have fV:=zn.out.trans (aD.mono zn.out.size)
   have cB:=aD.size
   have HV3:Hid (zl p q w3 s.l s.bk vc ve rs):=hide ⟨(aD.block p hpw).trans HV.out.blk,HV.out.log.below aD⟩
   have K3:=hide (H1.out.below aD)
   have O3:=hide (OB.out.below aD)
   have HB3:=hide ((aD.block w.heap.size (by omega)).trans HB2.out)
   clear HV H1 OB HB2 TK d0 d1 d2 p0
   cases ans with
   |false=>
    have e4:Wl.mO s c.c=(15,s):=by
     unfold Wl.mO
     rw[ha,if_neg (by decide),if_neg (by intro hx;exact hx KC.out),if_pos ?_]
     have:=HA.out
     unfold tk at this
     rw[decide_eq_false_iff_not]at this
     by_cases hx:c.c.n-1≠s.l.length∨c.c.e<Cm.lastE 0 s.l
     ·exact hx
     ·exact absurd ⟨KC.out,hx⟩ this
    have E4:=hide e4
    have W3:=hide (HW2.out.below aD)
    have B3:=hide fV
    clear e4 fV HV3 K3 O3
    go_wp2
    go_ret
    exact⟨by rw[E4.out];rfl,by rw[E4.out];exact⟨F,W3.out,Out.of_below B3.out,fun g hg=>.inl hg⟩⟩
   |true=>
    have hgood:Cm.Good 0 0 (s.l++[c.c]):=(arA HV3.out.log.good c.c).1 HA.out
    have htk:=HA.out
    unfold tk at htk
    rw[decide_eq_true_iff]at htk
    have WR:=hide (oQ q F1 w3 s.d 0 _ (frd c.e c.n c.l) K3.out O3.out.is (fun _ b hb hf=>by
     have h1:=(O3.out.block b hb).1
     have h2:=HLT.out b (by rw[HFF.out];exact .inl hf)
     omega) (by omega) (by have h1:=BG.out.1.2.1;have h2:=HS.out.1.2.1;have h3:=acW hfl;omega) BG.out.2 (by have h2:=HS.out.1.2.2;have h3:=acW hfl;omega))
    rw[hfr]at WR
    have e01:=agD (st:=s.d) (Wl.fr c.c)
    have e4:Wl.mO s c.c=if (Dm.write s.d 0 (Wl.fr c.c)).1≠0 then((Dm.write s.d 0 (Wl.fr c.c)).1,⟨(Dm.write s.d 0 (Wl.fr c.c)).2,s.l,true⟩)else(0,⟨(Dm.write s.d 0 (Wl.fr c.c)).2,s.l++[c.c],false⟩):=by
     unfold Wl.mO
     rw[ha,if_neg (by decide),if_neg (by intro hx;exact hx KC.out),if_neg htk.2]
    generalize hwr:Dm.write s.d 0 (Wl.fr c.c)=y at*
    obtain⟨x,d'⟩:=y
    simp only at e01 e4 WR
    have E4:=hide e4
    have GD:=hide hgood
    have W3:=hide (HW2.out.below aD)
    have B3:=hide fV
    have SZ3:w1.heap.size≤w3.heap.size:=by omega
    rw[hfr]at O3 hfl
    clear e4 hgood htk hwr fV aD hfr
    go_wp2_with fail
    refine WR.out.mono ?_
    rintro E w4 ⟨rfl,PS⟩
    obtain⟨F2,k1,k2,k3,k4⟩:=WW.disk (s:=⟨s.d,s.l,s.bk⟩) K3.out ⟨vc,ve,rs,HV3.out,rfl⟩ PS
    have HE:=hide (xh p q _ w4 ⟨d',s.l,s.bk⟩ x ⟨F2,_,k1,k2,rfl⟩)
    simp only at HE
    have T4:=hide (show Out F w3 w4∧∀g,(F2 g∨(g=p∨LB vc ve rs g))→F g∨w3.heap.size≤g from by
     refine⟨k3.mono fun g hg=>.inl (by rw[HFF.out];exact .inl hg),?_⟩
     rintro g (hg|hg)
     ·rcases k4 g hg with e|e
      ·exact .inl (by rw[HFF.out];exact .inl e)
      ·exact .inr e
     ·exact .inl (by rw[HFF.out,HGG.out];exact .inr hg))
    clear PS k1 k2 k3 k4 WR K3 HV3
    go_wp2_with fail
    refine HE.out.mono ?_
    rintro E w5 ⟨rfl,J⟩
    have J5:=hide (dD.trans T4.out.1 T4.out.2 J)
    clear HE J
    rcases e01 with rfl|rfl
    ·obtain⟨F5,⟨Fa,Ga,g1,g2,hF5⟩,o5,s5⟩:=J5.out
     obtain⟨vc5,ve5,rs5,hv5,hG5⟩:=g2
     have tQ:=o5.size
     have hnF:¬F w.heap.size:=fun hf=>by have:=HLT.out _ hf;omega
     have jO:=(o5.block w.heap.size (by omega) hnF).trans HB3.out
     have x0:w5.cell? ⟨w.heap.size,0,none⟩=some (.int .i64 c.e):=ai jO 0 rfl
     have x1:w5.cell? ⟨w.heap.size,1,none⟩=some (.int .i64 c.n):=ai jO 1 rfl
     have x2:w5.cell? ⟨w.heap.size,2,none⟩=some c.v:=ai jO 2 rfl
     rw[qM.out]at x2
     have i5:dh w5 c.v c.l:=(IOX.out.below B3.out).out o5 HCF.out
     have HCP:Hid (Calls Tryz.prog 35 #[.agg #[.int .i64 c.e,.int .i64 c.n,.slice ao c.l.length cap]] w5.drew fun E w6=>∃v',E=.returned (.agg #[.int .i64 c.e,.int .i64 c.n,v'])∧bg 111 0 w6 v' c.l∧Below w5.heap.size w5 w6∧(∀b,v'.ownBlock=some b→w5.heap.size≤b)∧w6.cell? ⟨w.heap.size,0,none⟩=some (.int .i64 c.e)∧w6.cell? ⟨w.heap.size,1,none⟩=some (.int .i64 c.n)∧w6.cell? ⟨w.heap.size,2,none⟩=some (.slice ao c.l.length cap)∧∃a n k,v'=.slice a n k):=hide (by
      have:=oK c.e c.n c.v c.l w5.drew (i5.drewN 1) FO.out.2.2
      unfold bK at this
      rw[qM.out]at this
      refine this.mono ?_
      rintro E w6 ⟨v',rfl,eT,eB⟩
      have vQ:Below w5.heap.size w5 w6:=(Below.refl w5.heap.size w5).drew.trans eB
      obtain⟨a,k,hv',_,_⟩:=eT.is.shape
      exact⟨v',rfl,eT.bu (Nat.zero_le _),vQ,fun b hb=>(bg.block eT b hb).1,(vQ.cell (p:=⟨w.heap.size,0,none⟩) (show w.heap.size<w5.heap.size by omega)).trans x0,(vQ.cell (p:=⟨w.heap.size,1,none⟩) (show w.heap.size<w5.heap.size by omega)).trans x1,(vQ.cell (p:=⟨w.heap.size,2,none⟩) (show w.heap.size<w5.heap.size by omega)).trans x2,a,_,k,hv'⟩)
     have hp5:p<w5.heap.size:=ax hv5.blk
     have HGR:Hid (∀w6 v',Below w5.heap.size w5 w6→bg 111 0 w6 v' c.l→(∀b,v'.ownBlock=some b→w5.heap.size≤b)→Calls Tryz.prog 157 #[.pointer (some ⟨p,2,none⟩),.agg #[.int .i64 c.e,.int .i64 c.n,v'],.int .i64 (Wl.fr c.c).length] w6 fun E w7=>E=.returned (.tuple #[])∧dD p q F w w7 ⟨d',s.l++[c.c],false⟩∧w7.cell? ⟨w.heap.size,0,none⟩=some (.int .i64 c.e)∧w7.cell? ⟨w.heap.size,1,none⟩=some (.int .i64 c.n)∧w7.cell? ⟨w.heap.size,2,none⟩=some (.slice ao c.l.length cap)):=hide fun w6 v' vQ eT hge=>by
      have hB6:=(vQ.block p hp5).trans hv5.blk
      have L6:=hv5.log.below vQ
      have:=ajY 0 p 2 137 _ w6 s.l vc5 ve5 rs5 ⟨c.e,c.n,v',c.l⟩ (Wl.fr c.c).length hB6 rfl rfl (by decide) (by decide) (by decide) L6 (Nat.zero_le _) eT GD.out rfl
      unfold bK at this
      refine this.mono ?_
      rintro E w7 ⟨rfl,vc7,ve7,hB7,L7,o7,s7⟩
      have mY:=vQ.size
      have K6:=g1.below vQ
      obtain⟨F7,q1,q2,q3⟩:=aks (N:=w5.heap.size) (l':=s.l++[c.c]) (rF:=vc7) (qW:=ve7) (rs':=rs5++[(⟨c.e,c.n,v',c.l⟩:Cw)]) (w:=w6) K6 ⟨hB6,L6⟩ (by rw[hB7];rfl) L7 o7 (w':=w7) (fun g hg=>by
       rcases s7 g hg with e|e|e
       ·exact .inl e
       ·exact .inr (by omega)
       ·exact .inr (hge g e)) mY
      have s6:∀g,(Fa g∨g=p∨LB vc5 ve5 rs5 g)→F5 g:=fun g hg=>by
       rw[hF5,hG5]
       exact hg
      have o57:Out F5 w5 w7:=(Out.of_below (F:=F5) vQ).trans q2 fun g hg=>.inl (s6 g hg)
      have o37:Out F w3 w7:=o5.trans o57 s5
      have f7:∀g,F7 g→F g∨w3.heap.size≤g:=fun g hg=>by
       rcases q3 g hg with e|e
       ·exact s5 g (s6 g e)
       ·exact .inr (by omega)
      have apx:=(o37.block w.heap.size (by omega) hnF).trans HB3.out
      refine⟨rfl,dD.pre B3.out ⟨F7,q1,o37,f7⟩,ai apx 0 rfl,ai apx 1 rfl,?_⟩
      rw[←qM.out]
      exact ai apx 2 rfl
     clear hv5 jO i5
     go_wp2_with fail
     go_region_held3 (fun w'=>w'.cell? ⟨w.heap.size,0,none⟩=some (.int .i64 c.e)∧w'.cell? ⟨w.heap.size,1,none⟩=some (.int .i64 c.n)∧w'.cell? ⟨w.heap.size,2,none⟩=some (.slice ao c.l.length cap)) (first|exact⟨x0,x1,x2⟩|exact⟨y0,y1,y2⟩|exact⟨z0,z1,z2⟩|go_keep)
      (first
      |(go_at_call 35;refine HCP.out.mono ?_;rintro E w6 ⟨v6,rfl,eT,vQ,hge,y0,y1,y2,a6,n6,k6,rfl⟩)
      |(go_at_call 157;refine(HGR.out _ _ vQ eT hge).mono ?_;rintro E w7 ⟨rfl,J7,z0,z1,z2⟩;have J7:=hide J7))
     all_goals
      have A7:Hid (Wl.mO s c.c=(0,⟨d',s.l++[c.c],false⟩)):=hide (by rw[E4.out];simp)
      clear E4
      go_wp2
      go_ret
      exact⟨by rw[A7.out];rfl,by rw[A7.out];exact J7.out⟩
    ·have A6:Hid (Wl.mO s c.c=(6,⟨d',s.l,true⟩)):=hide (by rw[E4.out];simp)
     clear E4
     go_wp2
     go_ret
     exact⟨by rw[A6.out];rfl,by rw[A6.out];exact dD.pre B3.out J5.out⟩
  ·have hne:(ch !=0)=true:=by simp[hc0]
   have e1:Wl.mO s c.c=(ch,s):=by
    unfold Wl.mO
    rw[ha,if_neg (by decide),if_pos (by show Cm.chk c.e c.n c.l≠0;rw[KC.out];exact hc0)]
    show(Cm.chk c.e c.n c.l,s)=_
    rw[KC.out]
   have E1:=hide e1
   clear e1
   subst hvb
   go_wp2
   go_ret
   exact⟨by rw[E1.out];rfl,by rw[E1.out];exact⟨F,HW2.out,Out.of_below zn.out,fun g hg=>.inl hg⟩⟩
end Go.Proofs.YtmngcecomcadkaaGreatDoor
