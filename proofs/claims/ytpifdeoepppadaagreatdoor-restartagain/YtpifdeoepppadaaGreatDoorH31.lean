/- Texts of one layer, one behind the other. -/
import Derived.Test.YtpifdeoepppadaaGreatDoorG12
import Derived.Test.YtpifdeoepppadaaGreatDoorG9
import Derived.BigQuiet
import Derived.Test.YtpifdeoepppadaaGreatDoorG24
import Derived.Test.YtpifdeoepppadaaGreatDoorProg
set_option maxRecDepth 100000
set_option maxHeartbeats 8000000
namespace Go.Proofs.YtpifdeoepppadaaGreatDoor
open Go.RowKit
set_option linter.unusedVariables false
theorem amZ {l:List Cw}{k:Nat}(h:k<l.length):∃c,l[k]? =some c:=⟨l[k],List.getElem?_eq_getElem h⟩
theorem akK (va vb:Value)(r s:List Cw)(w:World)(ha:fJ w va r)(hb:fJ w vb s)(fa:fF r)(fb:fF s)(hl:r.length≤140737488355328)(hl':s.length≤140737488355328):
  Calls Tryz.prog 35 #[va,vb] w fun E w'=>E=.returned (.bool (sameV (aD r) (aD s)))∧Below w.heap.size w w':=by
 obtain⟨ans,eT⟩:∃x,sameV (aD r) (aD s)=x:=⟨_,rfl⟩
 rw[eT]
 have HA:=hide eT
 clear eT
 obtain⟨a1,p1,hva,_,_⟩:=ha.1.shape
 obtain⟨a2,p2,hvb,_,_⟩:=hb.1.shape
 by_cases hne:r.length=s.length
 ·have C1:=hide (jG ha)
  have C2:=hide (jG hb)
  have I1:=hide ha.2
  have I2:=hide hb.2
  have F1:=hide fa
  have F2:=hide fb
  have HL:=hide hne
  have ht:((r.length:Int) !=(s.length:Int))=false:=by simp;omega
  subst hva hvb
  generalize hn:r.length=n at*
  generalize hm:s.length=m at*
  have HN:=hide hn
  have HM:=hide hm
  clear ha hb fa fb hne hn hm
  go_enter Tryz.func35,Tryz.ntmps35
  go_wp2
  go_loopw [5] (fun i wr=>∃(k:Nat),k≤n∧i=.int .i64 k∧Hid ((aD r).take k=(aD s).take k)∧Below w.heap.size w wr) (fun i _=>n-(intOf i).toNat)
  case atStart=>exact⟨0,by omega,rfl,hide rfl,Below.refl _ _⟩
  case round=>
   obtain⟨k,hk,rfl,HT,aF⟩:=hrel
   have sz:=aF.size
   by_cases hlt:k<n
   ·obtain⟨b1,o1,c1,hv1,hB1,hc1⟩:=C1.out (by have:=HN.out;omega)
    obtain⟨b2,o2,c2,hv2,hB2,hc2⟩:=C2.out (by have:=HM.out;have:=HL.out;omega)
    simp only[Value.slice.injEq,true_and]at hv1 hv2
    obtain⟨rfl,rfl⟩:=hv1
    obtain⟨rfl,rfl⟩:=hv2
    obtain⟨c,hc⟩:=amZ (l:=r) (k:=k) (by have:=HN.out;omega)
    obtain⟨d,hd⟩:=amZ (l:=s) (k:=k) (by have:=HM.out;have:=HL.out;omega)
    obtain⟨x0,x1,x2⟩:=abP hc1 aF hB1 hc
    obtain⟨y0,y1,y2⟩:=abP hc2 aF hB2 hd
    have i1:=(I1.out c (List.mem_of_getElem? hc)).1.below aF
    have i2:=(I2.out d (List.mem_of_getElem? hd)).1.below aF
    have l1:=(F1.out c (List.mem_of_getElem? hc)).2
    have l2:=(F2.out d (List.mem_of_getElem? hd)).2
    have hlt':(k:Int)<n:=by omega
    have hlt2:(k:Int)<m:=by have:=HL.out;omega
    have abk:b1<wr.heap.size:=by omega
    have hB2':b2<wr.heap.size:=by omega
    have X:Hid (∀m,Calls Tryz.prog 101 #[c.v,d.v] (wr.drewN m) fun e w'=>e=.returned (.bool (Bm.sameL c.l d.l))∧∃q,w'=(wr.drewN m).drewN q):=hide fun m=>aaL _ _ c.l d.l (wr.drewN m) (i1.drewN m) (i2.drewN m) (by omega) (by omega)
    have HC:=hide hc
    have HD:=hide hd
    have HNE:Hid (c.c≠d.c→ans=false):=hide fun hne=>by
     rw[←HA.out]
     refine vM fun e=>hne ?_
     have h1:(aD r)[k]? =some c.c:=by rw[l9,HC.out];rfl
     rw[e,l9,HD.out]at h1
     simpa using h1.symm
    have HTT:Hid (c.c=d.c→(aD r).take (k+1)=(aD s).take (k+1)):=hide fun he=>by
     rw[List.take_add_one,List.take_add_one,HT.out,l9,l9,HC.out,HD.out]
     simp[he]
    clear hc hd hc1 hc2 l1 l2
    by_cases he:c.e=d.e
    ·have he1:(c.e !=d.e)=false:=by simp[he]
     by_cases hnn:c.n=d.n
     ·have hn1:(c.n !=d.n)=false:=by simp[hnn]
      obtain⟨sm,hsm⟩:∃x,Bm.sameL c.l d.l=x:=⟨_,rfl⟩
      rw[hsm]at X
      cases sm with
      |true=>
       have HT2:=hide (HTT.out (by unfold Cw.c;rw[he,hnn,Bm.mi.1 hsm]))
       clear he hnn hsm
       go_wp2_with fail
       go_quiet ((go_at_call 101;refine Calls.quiet_of (X.out _)))
       have nN:=below_drewN aF nq
       clear x0 x1 x2 y0 y1 y2 i1 i2 aF
       go_wp2
       go_roundw
       case rel=>exact⟨k+1,by omega,by go_num,HT2,nN⟩
       case measure=>simp[intOf];omega
      |false=>
       obtain rfl:=HNE.out fun e=>by
        have h3:c.l=d.l:=congrArg Cm.Cv.l e
        rw[Bm.mi.2 h3]at hsm
        cases hsm
       clear he hnn hsm
       go_wp2_with fail
       go_quiet ((go_at_call 101;refine Calls.quiet_of (X.out _)))
       have nN:=below_drewN aF nq
       clear x0 x1 x2 y0 y1 y2 i1 i2 aF
       go_wp2
       go_ret
       exact⟨rfl,nN⟩
     ·have hn1:(c.n !=d.n)=true:=by simp[hnn]
      obtain rfl:=HNE.out fun e=>hnn (congrArg Cm.Cv.n e)
      clear he hnn
      go_wp2_with fail
      go_quiet (fail)
      have nN:=below_drewN aF nq
      clear x0 x1 x2 y0 y1 y2 i1 i2 aF
      go_wp2
      go_ret
      exact⟨rfl,nN⟩
    ·have he1:(c.e !=d.e)=true:=by simp[he]
     obtain rfl:=HNE.out fun e=>he (congrArg Cm.Cv.e e)
     clear he
     go_wp2_with fail
     go_quiet (fail)
     have nN:=below_drewN aF nq
     clear x0 x1 x2 y0 y1 y2 i1 i2 aF
     go_wp2
     go_ret
     exact⟨rfl,nN⟩
   ·have hlt':¬(k:Int)<n:=by omega
    have hfo:=HA.out
    rw[pF.2 (by
     have h1:=HT.out
     rw[List.take_of_length_le (by rw[cK,HN.out];omega),List.take_of_length_le (by rw[cK,HM.out];have:=HL.out;omega)]at h1
     exact h1)]at hfo
    subst hfo
    clear HA
    go_wp2
    go_ret
    exact⟨rfl,aF⟩
 ·have ht:((r.length:Int) !=(s.length:Int))=true:=by simp;omega
  have hfo:=HA.out
  rw[vM fun e=>hne (by rw[←cK r,←cK s,e])]at hfo
  subst hfo hva hvb
  clear hne HA
  go_enter Tryz.func35,Tryz.ntmps35
  go_wp2
  go_ret
  exact⟨rfl,Below.refl _ _⟩
theorem avr:Array.replicate 23 false=aj 23 0:=by kernel_rfl
theorem aqP:(au 15 Tryz.f6).size=23:=by kernel_rfl
theorem aoU:Region.free .any (au 15 Tryz.f6) (aj 23 0) 0=true∧(Region.ready .any (au 15 Tryz.f6) (aj 23 0)).contains 0=true∧(aj 23 0).setIfInBounds 0 true=aj 23 1:=⟨by kernel_rfl,by kernel_rfl,by kernel_rfl⟩
theorem aou:Region.free .any (au 15 Tryz.f6) (aj 23 1) 1=true∧(Region.ready .any (au 15 Tryz.f6) (aj 23 1)).contains 1=true∧(aj 23 1).setIfInBounds 1 true=aj 23 3:=⟨by kernel_rfl,by kernel_rfl,by kernel_rfl⟩
theorem apk:Region.free .any (au 15 Tryz.f6) (aj 23 3) 4=true∧(Region.ready .any (au 15 Tryz.f6) (aj 23 3)).contains 4=true∧(aj 23 3).setIfInBounds 4 true=aj 23 19:=⟨by kernel_rfl,by kernel_rfl,by kernel_rfl⟩
theorem am4:Region.free .any (au 15 Tryz.f6) (aj 23 19) 5=true∧(Region.ready .any (au 15 Tryz.f6) (aj 23 19)).contains 5=true∧(aj 23 19).setIfInBounds 5 true=aj 23 51:=⟨by kernel_rfl,by kernel_rfl,by kernel_rfl⟩
theorem ani:Region.free .any (au 15 Tryz.f6) (aj 23 51) 6=true∧(Region.ready .any (au 15 Tryz.f6) (aj 23 51)).contains 6=true∧(aj 23 51).setIfInBounds 6 true=aj 23 115:=⟨by kernel_rfl,by kernel_rfl,by kernel_rfl⟩
theorem alv:Region.free .any (au 15 Tryz.f6) (aj 23 115) 7=true∧(Region.ready .any (au 15 Tryz.f6) (aj 23 115)).contains 7=true∧(aj 23 115).setIfInBounds 7 true=aj 23 243:=⟨by kernel_rfl,by kernel_rfl,by kernel_rfl⟩
theorem alu:Region.free .any (au 15 Tryz.f6) (aj 23 243) 8=true∧(Region.ready .any (au 15 Tryz.f6) (aj 23 243)).contains 8=true∧(aj 23 243).setIfInBounds 8 true=aj 23 499:=⟨by kernel_rfl,by kernel_rfl,by kernel_rfl⟩
theorem apW:Region.ready .any (au 15 Tryz.f6) (aj 23 499)=[2]∧(aj 23 499).setIfInBounds 2 true=aj 23 503:=⟨by kernel_rfl,by kernel_rfl⟩
theorem ala:Region.free .any (au 15 Tryz.f6) (aj 23 503) 3=true∧(Region.ready .any (au 15 Tryz.f6) (aj 23 503)).contains 3=true∧(aj 23 503).setIfInBounds 3 true=aj 23 511:=⟨by kernel_rfl,by kernel_rfl,by kernel_rfl⟩
theorem ak8:Region.free .any (au 15 Tryz.f6) (aj 23 511) 9=true∧(Region.ready .any (au 15 Tryz.f6) (aj 23 511)).contains 9=true∧(aj 23 511).setIfInBounds 9 true=aj 23 1023:=⟨by kernel_rfl,by kernel_rfl,by kernel_rfl⟩
theorem anb:Region.ready .any (au 15 Tryz.f6) (aj 23 1023)=[10]∧(aj 23 1023).setIfInBounds 10 true=aj 23 2047:=⟨by kernel_rfl,by kernel_rfl⟩
theorem amC:Region.ready .any (au 15 Tryz.f6) (aj 23 2047)=[11]∧(aj 23 2047).setIfInBounds 11 true=aj 23 4095:=⟨by kernel_rfl,by kernel_rfl⟩
theorem agl:Region.free .any (au 15 Tryz.f6) (aj 23 4095) 12=true∧(Region.ready .any (au 15 Tryz.f6) (aj 23 4095)).contains 12=true∧(aj 23 4095).setIfInBounds 12 true=aj 23 8191:=⟨by kernel_rfl,by kernel_rfl,by kernel_rfl⟩
theorem ag1:Region.free .any (au 15 Tryz.f6) (aj 23 8191) 13=true∧(Region.ready .any (au 15 Tryz.f6) (aj 23 8191)).contains 13=true∧(aj 23 8191).setIfInBounds 13 true=aj 23 16383:=⟨by kernel_rfl,by kernel_rfl,by kernel_rfl⟩
theorem aeZ:Region.free .any (au 15 Tryz.f6) (aj 23 16383) 14=true∧(Region.ready .any (au 15 Tryz.f6) (aj 23 16383)).contains 14=true∧(aj 23 16383).setIfInBounds 14 true=aj 23 32767:=⟨by kernel_rfl,by kernel_rfl,by kernel_rfl⟩
theorem aeW:Region.free .any (au 15 Tryz.f6) (aj 23 32767) 15=true∧(Region.ready .any (au 15 Tryz.f6) (aj 23 32767)).contains 15=true∧(aj 23 32767).setIfInBounds 15 true=aj 23 65535:=⟨by kernel_rfl,by kernel_rfl,by kernel_rfl⟩
theorem aeV:Region.free .any (au 15 Tryz.f6) (aj 23 65535) 16=true∧(Region.ready .any (au 15 Tryz.f6) (aj 23 65535)).contains 16=true∧(aj 23 65535).setIfInBounds 16 true=aj 23 131071:=⟨by kernel_rfl,by kernel_rfl,by kernel_rfl⟩
theorem adY:Region.free .any (au 15 Tryz.f6) (aj 23 131071) 17=true∧(Region.ready .any (au 15 Tryz.f6) (aj 23 131071)).contains 17=true∧(aj 23 131071).setIfInBounds 17 true=aj 23 262143:=⟨by kernel_rfl,by kernel_rfl,by kernel_rfl⟩
theorem adA:Region.free .any (au 15 Tryz.f6) (aj 23 262143) 18=true∧(Region.ready .any (au 15 Tryz.f6) (aj 23 262143)).contains 18=true∧(aj 23 262143).setIfInBounds 18 true=aj 23 524287:=⟨by kernel_rfl,by kernel_rfl,by kernel_rfl⟩
theorem adr:Region.free .any (au 15 Tryz.f6) (aj 23 524287) 19=true∧(Region.ready .any (au 15 Tryz.f6) (aj 23 524287)).contains 19=true∧(aj 23 524287).setIfInBounds 19 true=aj 23 1048575:=⟨by kernel_rfl,by kernel_rfl,by kernel_rfl⟩
theorem acH:Region.free .any (au 15 Tryz.f6) (aj 23 1048575) 20=true∧(Region.ready .any (au 15 Tryz.f6) (aj 23 1048575)).contains 20=true∧(aj 23 1048575).setIfInBounds 20 true=aj 23 2097151:=⟨by kernel_rfl,by kernel_rfl,by kernel_rfl⟩
theorem abv:Region.free .any (au 15 Tryz.f6) (aj 23 2097151) 21=true∧(Region.ready .any (au 15 Tryz.f6) (aj 23 2097151)).contains 21=true∧(aj 23 2097151).setIfInBounds 21 true=aj 23 4194303:=⟨by kernel_rfl,by kernel_rfl,by kernel_rfl⟩
theorem ack:Region.free .any (au 15 Tryz.f6) (aj 23 4194303) 22=true∧(Region.ready .any (au 15 Tryz.f6) (aj 23 4194303)).contains 22=true∧(aj 23 4194303).setIfInBounds 22 true=aj 23 8388607:=⟨by kernel_rfl,by kernel_rfl,by kernel_rfl⟩
theorem auk:Region.ready .any (au 15 Tryz.f6) (aj 23 8388607)=[]:=by kernel_rfl
end Go.Proofs.YtpifdeoepppadaaGreatDoor
