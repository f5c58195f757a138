/- Texts of one layer, one behind the other. -/
import Derived.Test.YtjemlgdkjilnoaaGreatDoorH11
import Derived.Test.YtjemlgdkjilnoaaGreatDoorG3
import Derived.Test.YtjemlgdkjilnoaaGreatDoorH16
import Derived.Test.YtjemlgdkjilnoaaGreatDoorH18
set_option maxRecDepth 100000
set_option maxHeartbeats 8000000
namespace Go.Proofs.YtjemlgdkjilnoaaGreatDoor
open Go.RowKit
set_option linter.unusedVariables false
theorem agp (p:Nat)(F:Nat→Prop)(w:World)(st:Dm.Ds)(base e f:Int)(v:Value)(rs:List Cw)(hc:∀W,Out F w W→dJ W v rs)(hf:dV rs)(hl:rs.length≤2000)(h:Pk p F w st)(t u:Nat)(hB:Big t u st)(ht:t≤100000000000)(hu:u+20000≤1000000):
  Calls Tryz.prog 182 #[.pointer (some ⟨p,0,none⟩),.int .i64 base,bT e f v] w fun E w'=>E=.returned (.int .i64 (Orp.dM st base ⟨e,f,az rs⟩).1)∧aY p F w w' (Orp.dM st base ⟨e,f,az rs⟩).2:=by
 unfold bT
 obtain⟨w1,hw1,aW,aj,hBx⟩:=ak w #[.int .i64 e,.int .i64 f,v] 72
 obtain⟨s,hs⟩:∃s:Orp.Se,⟨e,f,az rs⟩=s:=⟨_,rfl⟩
 have D1:=hide (h.below aj)
 have FLT:Hid (∀g,F g→g<w.heap.size):=hide h.lt
 have RD:=hide (jw p F w1 st 3 D1.out (fun f=>by have:=hB.1.1 f;omega) (by have:=hB.1.2.1;omega))
 have EN:Hid (∀W,Below w.heap.size w W→Calls Tryz.prog 211 #[bT e f v] W fun E w'=>∃vb,E=.returned (.tuple #[vb,.int .i64 (Orp.chk ⟨e,f,az rs⟩)])∧Own .u8 5 W.heap.size w' vb (Orp.out ⟨e,f,az rs⟩)∧Below W.heap.size W w'):=hide fun W hW=>alZ e f v rs W (hc W (Out.of_below hW)) hf (by omega)
 unfold bT at EN
 rw[hs]at EN⊢
 obtain⟨rr,hrr⟩:∃x,Orp.dM st base s=x:=⟨_,rfl⟩
 rw[hrr]
 have HRR:=hide hrr
 have hsl:s.cs.length=rs.length:=by rw[←hs];exact iM rs
 obtain⟨va,vk,hv,_,_⟩:=(hc w (Out.refl _ _)).1.shape
 have B1:=hide aj
 have HBX:=hide hBx
 rw[hv]at hw1 EN HBX
 subst hv
 clear hc hf h aj hBx hs hrr
 cases hon:st.on with
 |false=>
  rw[show kV st 3=6 by unfold kV;rw[if_pos hon]]at RD
  have HR:=hide (HRR.out.symm.trans (Orp.aru hon))
  clear hon EN HBX
  go_enter Tryz.func182,Tryz.ntmps182
  go_wp2_with fail
  refine RD.out.mono ?_
  rintro E w2 ⟨vh,rfl,lH,au⟩
  have FIN:Hid (aY p F w w2 st):=hide (aY.pre B1.out (aY.same D1.out au))
  obtain⟨ha,hk,vP,_,_⟩:=lH.is.shape
  subst vP
  clear RD D1 lH au
  go_wp2
  go_ret
  rw[HR.out]
  exact⟨rfl,FIN.out⟩
 |true=>
 rw[show kV st 3=0 by unfold kV;rw[if_neg (by simp[hon]),if_neg (by decide)],show lM st 3=Orp.hl st by unfold lM;rw[if_neg (by simp[hon]),if_neg (by decide)];rfl]at RD
 have HON:=hide hon
 clear hon
 obtain⟨ck,hck⟩:∃z,Orp.chk s=z:=⟨_,rfl⟩
 rw[hck]at EN
 have HCK:=hide hck
 clear hck
 go_enter Tryz.func182,Tryz.ntmps182
 go_wp2_with fail
 refine RD.out.mono ?_
 rintro E w2 ⟨vh,rfl,lH,au⟩
 obtain⟨ha,hk,vP,_,_⟩:=lH.is.shape
 obtain⟨nh,hnh⟩:∃z,(Orp.hl st).length=z:=⟨_,rfl⟩
 rw[hnh]at vP
 have hnb:nh≤100000000000:=by rw[←hnh];have:=Dm.kZ st.wait (st.sure 3) 3;have:=hB.1.1 3;unfold Orp.hl;omega
 have D2:=hide (D1.out.below au)
 have B2:=hide (B1.out.trans (au.mono B1.out.size))
 have hB2:=(au.block _ (ax HBX.out)).trans HBX.out
 have k0:=ai hB2 0 rfl
 have k1:=ai hB2 1 rfl
 have k2:=ai hB2 2 rfl
 simp only[List.getElem_toArray,List.getElem_cons_zero,List.getElem_cons_succ]at k0 k1 k2
 have EN2:=hide (EN.out w2 B2.out)
 have HNH:=hide hnh
 have s2:=B2.out.size
 subst vP
 clear RD lH au hnh EN D1 B1 HBX hB2
 go_wp2_with fail
 refine EN2.out.mono ?_
 rintro E w3 ⟨vb,rfl,abJ,aF⟩
 have D3:=hide (D2.out.below aF)
 have B3:=hide (B2.out.trans (aF.mono B2.out.size))
 obtain⟨xa,xn,xk,hvb⟩:=abJ.is.form
 clear EN2 k0 k1 k2
 by_cases hc0:ck=0
 ·subst hc0
  rw[Orp.jh HCK.out]at abJ
  have hlb:(Orp.sec s).length≤900000:=by have:=Orp.aew HCK.out;omega
  have OB3:=hide abJ
  have VB:Hid (∀g,vb.ownBlock=some g→w.heap.size≤g∧g<w3.heap.size):=hide fun g hg=>by have:=abJ.block g hg;omega
  have hcn:cnt (Orp.sec s).length≤14063:=by unfold cnt;omega
  rw[hvb]at OB3 VB
  subst hvb
  clear abJ aF D2 B2
  by_cases hbad:base<0∨(nh:Int)<base
  ·have HR:=hide (HRR.out.symm.trans (Orp.ar7 HON.out HCK.out (by rw[HNH.out];exact hbad)))
   have FIN:Hid (aY p F w w3 st):=hide (aY.pre B3.out (aY.same D3.out (Below.refl _ _)))
   by_cases hb0:base<0
   ·clear hbad
    go_wp2
    go_ret
    rw[HR.out]
    exact⟨rfl,FIN.out⟩
   ·have hb1:(nh:Int)<base:=by omega
    clear hbad
    go_wp2
    go_ret
    rw[HR.out]
    exact⟨rfl,FIN.out⟩
  have hb0:¬base<0:=by omega
  have hb1:¬(nh:Int)<base:=by omega
  have HW1:=hide (HRR.out.symm.trans (Orp.aeh HON.out HCK.out (by rw[HNH.out];exact hbad)))
  clear hbad
  by_cases hcut:base<nh
  ·have CU:=hide (ahA p F w3 st 3 base D3.out (fun f=>by have:=hB.1.1 f;omega) (by have:=hB.1.2.1;omega) hB.2 (by have:=hB.1.2.2;omega))
   have hbB:=sZ hB 3 base
   have C6:=hide (atS (st:=st) (n:=base) HON.out (by omega) (by rw[HNH.out];omega))
   obtain⟨⟨e4,kM⟩,h4⟩:∃x,Dm.bG st 3 base=x:=⟨_,rfl⟩
   have H4:=hide h4
   rw[h4]at CU hbB C6
   simp only at CU hbB C6
   clear h4
   go_wp2_with fail
   refine CU.out.mono ?_
   rintro E w4 ⟨rfl,F4,D4',O4,S4⟩
   have D4:=hide D4'
   have mV:Hid (Out F w w4∧∀g,F4 g→F g∨w3.heap.size≤g):=hide ⟨(Out.of_below B3.out).trans O4 (fun g hg=>.inl hg),S4⟩
   have IB4:Hid (Is .u8 w4 (.slice xa xn xk) (Orp.sec s)):=hide (OB3.out.is.agree fun g hg=>O4.block g (by have:=VB.out g hg;omega) fun hF=>by have:=VB.out g hg;have:=FLT.out g hF;omega)
   have NF4:Hid (∀g,(Value.slice xa xn xk).ownBlock=some g→¬F4 g):=hide fun g hg hF=>by
    have q:=VB.out g hg
    rcases S4 g hF with q2|q2
    ·have:=FLT.out g q2;omega
    ·omega
   clear CU D4' O4 S4 D3
   by_cases he4:e4=0
   ·subst he4
    have hW:Orp.qd st base s=Orp.wr2 kM s:=by rw[asz (by rw[HNH.out];exact hcut) (by rw[H4.out]),H4.out]
    have HW:=hide (HW1.out.trans hW)
    have hBc:Big t (u+1) kM:=hbB
    clear hW hcut hbB
    have WR:=hide (oF p F4 w4 kM 3 (.slice xa xn xk) (Orp.sec s) D4.out IB4.out (fun _=>NF4.out) (by omega) (by have:=hBc.1.2.1;omega) hBc.2 (by have:=hBc.1.2.2;omega))
    have jL:=jZ hBc 3 (Orp.sec s)
    have E1:=hide (fun h=>alA (st:=kM) (s:=s) h)
    have E2:=hide (fun h q=>alq (st:=kM) (s:=s) h q)
    have E3:=hide (fun h q=>amd (st:=kM) (s:=s) h q)
    have W6:=hide (aeX (st:=kM) (Orp.sec s))
    obtain⟨⟨e5,vO⟩,h5⟩:∃x,Dm.write kM 3 (Orp.sec s)=x:=⟨_,rfl⟩
    rw[h5]at WR jL E1 E2 E3 W6
    simp only at WR jL E1 E2 E3 W6
    rw[←HW.out]at E1 E2 E3
    clear h5 IB4 NF4
    go_wp2_with fail
    refine WR.out.mono ?_
    rintro E w5 ⟨rfl,F5,D5',O5,S5⟩
    have D5:=hide D5'
    have lq:Hid (Out F w w5∧∀g,F5 g→F g∨w.heap.size≤g):=hide ⟨mV.out.1.trans O5 (fun g hg=>(mV.out.2 g hg).imp_right fun q=>Nat.le_trans B3.out.size q),fun g hg=>by
     rcases S5 g hg with q|q
     ·exact(mV.out.2 g q).imp_right fun q=>Nat.le_trans B3.out.size q
     ·exact .inr (Nat.le_trans mV.out.1.size q)⟩
    clear WR D5' O5 S5 D4 mV
    by_cases he5:e5=0
    ·subst he5
     have SY:=hide (tY p F5 w5 vO D5.out (fun f=>by have:=jL.1.1 f;omega) (by have:=jL.1.2.1;omega) jL.2 (by have:=jL.1.2.2;omega))
     have Y6:=hide (agS vO)
     obtain⟨⟨e6,st6⟩,h6⟩:∃x,Dm.sync vO=x:=⟨_,rfl⟩
     rw[h6]at SY E2 E3 Y6
     simp only at SY E2 E3 Y6
     clear h6
     go_wp2_with fail
     refine SY.out.mono ?_
     rintro E w6 ⟨rfl,F6,D6',O6,S6⟩
     have FIN:Hid (aY p F w w6 st6):=hide ⟨F6,D6',lq.out.1.trans O6 lq.out.2,fun g hg=>by
      rcases S6 g hg with q|q
      ·exact lq.out.2 g q
      ·exact .inr (Nat.le_trans lq.out.1.size q)⟩
     clear SY D6' O6 S6 D5 lq
     by_cases he6:e6=0
     ·subst he6
      have HR:=hide (E3.out (by trivial) (by trivial))
      clear E1 E2 E3
      go_wp2
      go_ret
      rw[HR.out]
      exact⟨rfl,FIN.out⟩
     ·obtain rfl:e6=6:=Y6.out.resolve_left he6
      have HR:=hide (E2.out (by trivial) (by decide))
      clear E1 E2 E3
      go_wp2
      go_ret
      rw[HR.out]
      exact⟨rfl,FIN.out⟩
    ·obtain rfl:e5=6:=W6.out.resolve_left he5
     have HR:=hide (E1.out (by decide))
     have FIN:Hid (aY p F w w5 vO):=hide ⟨F5,D5.out,lq.out.1,lq.out.2⟩
     clear E1 E2 E3
     go_wp2
     go_ret
     rw[HR.out]
     exact⟨rfl,FIN.out⟩
   ·obtain rfl:e4=6:=C6.out.resolve_left he4
    have hW:Orp.qd st base s=(6,kM):=by rw[auw (by rw[HNH.out];exact hcut) (by rw[H4.out];simp),H4.out]
    have HR:=hide (HW1.out.trans hW)
    have FIN:Hid (aY p F w w4 kM):=hide ⟨F4,D4.out,mV.out.1,fun g hg=>(mV.out.2 g hg).imp_right fun q=>Nat.le_trans B3.out.size q⟩
    clear hW
    go_wp2
    go_ret
    rw[HR.out]
    exact⟨rfl,FIN.out⟩
  ·have hW:Orp.qd st base s=Orp.wr2 st s:=ar4 (by rw[HNH.out];exact hcut)
   have HW:=hide (HW1.out.trans hW)
   obtain⟨kM,aiI⟩:∃x,st=x:=⟨_,rfl⟩
   obtain⟨w4,hw4⟩:∃x,w3=x:=⟨_,rfl⟩
   obtain⟨F4,hF4⟩:∃x,F=x:=⟨_,rfl⟩
   have hBc:Big t (u+1) kM:=by rw[←aiI];exact hB.mono (Nat.le_refl _) (by omega)
   have D4:Hid (Pk p F4 w4 kM):=by rw[←aiI,←hw4,←hF4];exact D3
   have mV:Hid (Out F w w4∧∀g,F4 g→F g∨w3.heap.size≤g):=hide ⟨by rw[←hw4];exact Out.of_below B3.out,fun g hg=>.inl (by rw[hF4];exact hg)⟩
   have IB4:Hid (Is .u8 w4 (.slice xa xn xk) (Orp.sec s)):=hide (by rw[←hw4];exact OB3.out.is)
   have NF4:Hid (∀g,(Value.slice xa xn xk).ownBlock=some g→¬F4 g):=hide fun g hg hF=>by
    have q:=VB.out g hg
    rw[←hF4]at hF
    have:=FLT.out g hF
    omega
   rw[aiI]at HW
   rw[hw4]
   clear hW D3 aiI hw4 hF4
   have WR:=hide (oF p F4 w4 kM 3 (.slice xa xn xk) (Orp.sec s) D4.out IB4.out (fun _=>NF4.out) (by omega) (by have:=hBc.1.2.1;omega) hBc.2 (by have:=hBc.1.2.2;omega))
   have jL:=jZ hBc 3 (Orp.sec s)
   have E1:=hide (fun h=>alA (st:=kM) (s:=s) h)
   have E2:=hide (fun h q=>alq (st:=kM) (s:=s) h q)
   have E3:=hide (fun h q=>amd (st:=kM) (s:=s) h q)
   have W6:=hide (aeX (st:=kM) (Orp.sec s))
   obtain⟨⟨e5,vO⟩,h5⟩:∃x,Dm.write kM 3 (Orp.sec s)=x:=⟨_,rfl⟩
   rw[h5]at WR jL E1 E2 E3 W6
   simp only at WR jL E1 E2 E3 W6
   rw[←HW.out]at E1 E2 E3
   clear h5 IB4 NF4
   go_wp2_with fail
   refine WR.out.mono ?_
   rintro E w5 ⟨rfl,F5,D5',O5,S5⟩
   have D5:=hide D5'
   have lq:Hid (Out F w w5∧∀g,F5 g→F g∨w.heap.size≤g):=hide ⟨mV.out.1.trans O5 (fun g hg=>(mV.out.2 g hg).imp_right fun q=>Nat.le_trans B3.out.size q),fun g hg=>by
    rcases S5 g hg with q|q
    ·exact(mV.out.2 g q).imp_right fun q=>Nat.le_trans B3.out.size q
    ·exact .inr (Nat.le_trans mV.out.1.size q)⟩
   clear WR D5' O5 S5 D4 mV
   by_cases he5:e5=0
   ·subst he5
    have SY:=hide (tY p F5 w5 vO D5.out (fun f=>by have:=jL.1.1 f;omega) (by have:=jL.1.2.1;omega) jL.2 (by have:=jL.1.2.2;omega))
    have Y6:=hide (agS vO)
    obtain⟨⟨e6,st6⟩,h6⟩:∃x,Dm.sync vO=x:=⟨_,rfl⟩
    rw[h6]at SY E2 E3 Y6
    simp only at SY E2 E3 Y6
    clear h6
    go_wp2_with fail
    refine SY.out.mono ?_
    rintro E w6 ⟨rfl,F6,D6',O6,S6⟩
    have FIN:Hid (aY p F w w6 st6):=hide ⟨F6,D6',lq.out.1.trans O6 lq.out.2,fun g hg=>by
     rcases S6 g hg with q|q
     ·exact lq.out.2 g q
     ·exact .inr (Nat.le_trans lq.out.1.size q)⟩
    clear SY D6' O6 S6 D5 lq
    by_cases he6:e6=0
    ·subst he6
     have HR:=hide (E3.out (by trivial) (by trivial))
     clear E1 E2 E3
     go_wp2
     go_ret
     rw[HR.out]
     exact⟨rfl,FIN.out⟩
    ·obtain rfl:e6=6:=Y6.out.resolve_left he6
     have HR:=hide (E2.out (by trivial) (by decide))
     clear E1 E2 E3
     go_wp2
     go_ret
     rw[HR.out]
     exact⟨rfl,FIN.out⟩
   ·obtain rfl:e5=6:=W6.out.resolve_left he5
    have HR:=hide (E1.out (by decide))
    have FIN:Hid (aY p F w w5 vO):=hide ⟨F5,D5.out,lq.out.1,lq.out.2⟩
    clear E1 E2 E3
    go_wp2
    go_ret
    rw[HR.out]
    exact⟨rfl,FIN.out⟩
 ·have hcb:(ck !=0)=true:=by simp[hc0]
  have HR:=hide (HRR.out.symm.trans (Orp.ari HON.out (by rw[HCK.out];exact hc0)))
  rw[HCK.out]at HR
  have FIN:Hid (aY p F w w3 st):=hide (aY.pre B3.out (aY.same D3.out (Below.refl _ _)))
  subst hvb
  clear abJ
  go_wp2
  go_ret
  rw[HR.out]
  exact⟨rfl,FIN.out⟩
end Go.Proofs.YtjemlgdkjilnoaaGreatDoor
