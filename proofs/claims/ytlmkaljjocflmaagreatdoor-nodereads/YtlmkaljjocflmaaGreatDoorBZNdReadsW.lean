/- Texts. -/
import Derived.Test.YtlmkaljjocflmaaGreatDoorBH33
import Derived.Test.YtlmkaljjocflmaaGreatDoorBH24
import Derived.Test.YtlmkaljjocflmaaGreatDoorBH20
import Derived.Test.YtlmkaljjocflmaaGreatDoorBH21
import Derived.Deep.RegionHeld3
set_option maxRecDepth 100000
set_option maxHeartbeats 8000000
set_option linter.unusedVariables false
open Go.Proofs.Tryz
namespace Go.Proofs.YtlmkaljjocflmaaGreatDoor
open Go.RowKit
structure ayG (W:World) (b z A:Nat) (e0 e1:Int) (va:Value) (oa:Value):Prop where
 r0:W.cell? ⟨b,z,none⟩=some (.int .i64 e0)
 r1:W.cell? ⟨b,z+1,none⟩=some (.int .i64 e1)
 r2:W.cell? ⟨b,z+2,none⟩=some va
 a4:W.cell? ⟨A,4,none⟩=some oa
theorem i64_in {x:Int}(h:In64 x):I64 x:=⟨h.1,by have:=h.2;omega⟩
theorem acz (lv:Int)(v:Value)(l:List iG)(vk:Value)(ks:List ByteArray)(w:World)(av5:(Lit.int .i64 lv).wf=true)(h:l9 w v l)(hf:afw l)(hl:l.length*184≤140737488351232)(hks:IsS w vk ks)(hfk:aqV ks)(hlk:ks.length*16≤140737488351232)(hm:fU w):
  Calls prog 6 #[.int .i64 lv,v,vk] w fun E w'=>E=.returned (.bool true)∧Below w.heap.size w w':=by
 have hlv:I64 lv:=awq av5
 have HM:=hide hm
 have LI:=hide (ahe w hm)
 have HA:=hide h
 have HF:=hide hf
 have HK:=hide hks
 have HFK:=hide hfk
 obtain⟨ao,cap,hv,hc1,hc2⟩:=h.shape
 obtain⟨ko,aAW,hvk,hk1,hk2⟩:=fP.shape hks
 rw[hv]at HA
 rw[hvk]at HK
 subst hv hvk
 clear hm h hf hks hfk av5
 go_enter func6,ntmps6
 go_wp2_with fail
 refine LI.out.mono ?_
 rintro E w1 ⟨rfl,B1⟩
 have B1:=hide B1
 have SM:=hide (ahh _ l w1 (HA.out.below B1.out) (by omega))
 clear LI
 go_wp2_with fail
 refine SM.out.mono ?_
 rintro E w2 ⟨⟨sb,rfl,hsm⟩,hw2⟩
 have uR:=hw2.symm
 subst uR
 have HSM:=hide hsm
 clear SM hsm
 cases sb with
 |false=>
  go_wp2
  go_ret
  exact⟨rfl,B1.out⟩
 |true=>
 have SMI:=hide (HSM.out rfl)
 by_cases hk40:40<ks.length
 ·have ay6:(40:Int)<ks.length:=by omega
  go_wp2
  go_ret
  exact⟨rfl,B1.out⟩
 have ay6:¬(40:Int)<ks.length:=by omega
 have apf:=SMI.out.1
 have HA1:=hide (HA.out.below B1.out)
 have HK1:Hid (IsS w2 (.slice ko ks.length aAW) ks):=hide (HK.out.below B1.out)
 have PK:=hide (xy lv 16 w2 (by omega) (by omega) hlv)
 have az6:=asD lv 16 (by omega)
 obtain⟨lt,hlt⟩:∃z,1+pk lv 16=z:=⟨_,rfl⟩
 have hwl:IntKind.i64.wrap (1+pk lv 16)=lt:=by rw[hlt];exact aQ _ (by omega) (by omega)
 have hlt2:=hide (show 1≤lt∧lt≤16 by omega)
 have NW:=hide (aik w2)
 clear HA HK HSM az6 hlt
 go_wp2_with fail
 refine PK.out.mono ?_
 rintro E wp ⟨rfl,hwp⟩
 obtain rfl:=hwp
 clear PK
 go_wp2_with fail
 refine NW.out.mono ?_
 rintro E w3 ⟨rfl,K3,B3⟩
 have OP:=hide (alK (w0:=w2) 0 lt (.inl rfl) hlt2.out (HM.out.below B1.out) w3 (Nat.le_refl _) K3 B3)
 obtain⟨q,hq⟩:∃q,w2.heap.size=q:=⟨_,rfl⟩
 rw[hq]at OP⊢
 clear NW K3 B3 hq
 go_wp2_with fail
 refine OP.out.mono ?_
 rintro E w4 ⟨n,p,F,rfl,L4⟩
 have TN:=hide (aaI w4)
 clear OP
 go_wp2_with fail
 refine TN.out.mono ?_
 rintro E w5 ⟨rfl,T5,B5⟩
 have A0:Hid (∃F x,gB w2 w5 n p q (w4.heap.size+1) w4.heap.size F x (Sto.fold (Rst.aP x.s)) 0):=hide ⟨F,Ns.one 0 lt (jM 0),L4.out.below B5,⟨0,ahJ lt hlt2.out⟩,T5,(by
  rintro g e c
  have:=L4.out.nd.lt g c
  omega),by have:=L4.out.aI.size;omega,by show(-1:Int)≤-1∧(-1:Int)≤100;omega,Nat.le_refl _,by
  show(Sto.fold (Rst.aP (jM 0))).length≤40*0
  decide⟩
 obtain⟨tp,htp⟩:∃x,w4.heap.size+1=x:=⟨_,rfl⟩
 obtain⟨tb,htb⟩:∃x,w4.heap.size=x:=⟨_,rfl⟩
 rw[htp]at A0⊢
 rw[htb]at A0
 have A0:Hid (∃F x,gB w2 w5 n p q tp tb F x (Sto.fold (Rst.aP x.s)) 0∧x.s.l.length=0):=hide (by
  obtain⟨F,x,k⟩:=A0.out
  exact⟨F,x,k,Nat.le_zero.1 k.ln⟩)
 clear TN T5 B5 L4 htp htb hwl
 go_wp2
 go_loopw [10,11] (fun av iv wr=>∃(i:Nat) (an:Nat),i≤l.length∧iv=.int .i64 i∧av=.int .i64 an∧Hid (∃F x,gB w2 wr n p q tp tb F x (Sto.fold (Rst.aP x.s)) i∧x.s.l.length=an)) (fun _ iv _=>l.length-(intOf iv).toNat)
 case atStart=>exact⟨0,0,by omega,rfl,rfl,A0⟩
 case round=>
  clear A0
  obtain⟨i,an,hi,rfl,rfl,A⟩:=hrel
  obtain⟨F1,x,AG,hxl⟩:=A.out
  have hi40:i≤40:=by omega
  have han:an≤40:=by have:=AG.ln;omega
  have AG:=hide AG
  have HXL:=hide hxl
  clear A hxl
  by_cases hlt:i<l.length
  ·obtain⟨b,off,cp,dI,_,_,hb,hcell⟩:=HA1.out.full (by omega)
   obtain⟨a,ha⟩:∃a,l[i]? =some a:=⟨l[i],List.getElem?_eq_getElem hlt⟩
   obtain⟨c0,c1,c2,c3,c4,c5,c6,c7,c8,c9,c10,c11,c12,c13⟩:=hcell i a ha
   have hmem:=List.mem_of_getElem? ha
   have AOK:=hide (HA1.out.2 a hmem)
   obtain⟨hak,ayI,_⟩:=AOK.out.kn
   have H40:=hide (SMI.out.2 a hmem)
   have FOK:=hide (HF.out a hmem).1
   obtain⟨oa,ok,hav,_,_⟩:=AOK.out.ops.shape
   have OPS:Hid (bM w2 (.slice oa a.l.length ok) a.l):=hide (hav▸AOK.out.ops)
   obtain⟨ba,bk,hab,_,_⟩:=AOK.out.by8.shape
   obtain⟨sa,so,hvs,_,_⟩:=AOK.out.msg.s.shape
   obtain⟨ca,co,dz,_,_⟩:=AOK.out.msg.c.1.shape
   have bB:=AG.out.nl.aI
   have d0:=(bB.cell (p:=⟨b,off+i*14,none⟩) hb).trans c0
   have d1:=(bB.cell (p:=⟨b,off+i*14+1,none⟩) hb).trans c1
   have d2:=(bB.cell (p:=⟨b,off+i*14+2,none⟩) hb).trans c2
   have d3:=(bB.cell (p:=⟨b,off+i*14+3,none⟩) hb).trans c3
   have d4:=(bB.cell (p:=⟨b,off+i*14+4,none⟩) hb).trans c4
   have d5:=(bB.cell (p:=⟨b,off+i*14+5,none⟩) hb).trans c5
   have d6:=(bB.cell (p:=⟨b,off+i*14+6,none⟩) hb).trans c6
   have d7:=(bB.cell (p:=⟨b,off+i*14+7,none⟩) hb).trans c7
   have d8:=(bB.cell (p:=⟨b,off+i*14+8,none⟩) hb).trans c8
   have d9:=(bB.cell (p:=⟨b,off+i*14+9,none⟩) hb).trans c9
   have d10:=(bB.cell (p:=⟨b,off+i*14+10,none⟩) hb).trans c10
   have d11:=(bB.cell (p:=⟨b,off+i*14+11,none⟩) hb).trans c11
   have d12:=(bB.cell (p:=⟨b,off+i*14+12,none⟩) hb).trans c12
   have d13:=(bB.cell (p:=⟨b,off+i*14+13,none⟩) hb).trans c13
   rw[hav]at d4
   rw[hab]at d13
   rw[hvs]at d9
   rw[dz]at d12
   simp only[Value.slice.injEq,true_and]at dI
   obtain⟨hao,hcp⟩:=dI
   have hlt':(i:Int)<l.length:=by omega
   have hi0:(0:Int)≤(i:Int):=by omega
   have hwi:IntKind.i64.wrap ((i:Int)+1)=(i:Int)+1:=aQ _ (by omega) (by omega)
   have PK:=hide (fun W=>xy a.k 3 W (by omega) (by omega) (i64_in hak))
   have PN:=hide (fun W=>xy a.n 60 W (by omega) (by omega) (i64_in ayI))
   have hpn:=asD a.n 60 (by omega)
   obtain⟨pn,axg⟩:∃z,pk a.n 60=z:=⟨_,rfl⟩
   rw[axg]at PN hpn
   obtain⟨kn,hkn⟩:∃z,pk a.k 3=z:=⟨_,rfl⟩
   rw[hkn]at PK
   have HPN:=hide (show 0≤pn∧pn≤60 by omega)
   obtain⟨al,hal⟩:∃z,a.l=z:=⟨_,rfl⟩
   rw[hal]at OPS H40 FOK d4
   obtain⟨V,hV,sV,bV,PV⟩:=au wr #[.int .i64 a.k,.int .i64 a.n,.int .i64 a.t,.string a.key,.slice oa al.length ok,.int .i64 a.m.k,.int .i64 a.m.e,.int .u8 a.m.r,.int .i64 a.m.n,.slice sa a.m.ss.length so,.int .i64 a.m.f,.int .i64 a.m.p,.slice ca a.m.cs.length co,.slice ba a.bs.length bk] 82
   generalize a.m.ss.length=ssn at*
   generalize a.m.cs.length=csn at*
   generalize a.bs.length=bsn at*
   generalize a.key=akey at*
   generalize a.t=at' at*
   generalize a.m.k=amk at*
   generalize a.m.e=ame at*
   generalize a.m.r=amr at*
   generalize a.m.n=amn at*
   generalize a.m.f=amf at*
   generalize a.m.p=amp at*
   obtain⟨ak,ayR⟩:∃z,a.k=z:=⟨_,rfl⟩
   obtain⟨an',axZ⟩:∃z,a.n=z:=⟨_,rfl⟩
   rw[ayR]at PK d0 hV PV
   rw[axZ]at PN d1 hV PV
   have AV:=hide (AG.out.below bV)
   obtain⟨A,hA⟩:∃z,wr.heap.size=z:=⟨_,rfl⟩
   rw[hA]at PV
   have PVH:=hide PV
   have v0:V.cell? ⟨A,0,none⟩=some (.int .i64 ak):=ai PV 0 rfl
   have v1:V.cell? ⟨A,1,none⟩=some (.int .i64 an'):=ai PV 1 rfl
   have v4:V.cell? ⟨A,4,none⟩=some (.slice oa al.length ok):=ai PV 4 rfl
   have AF:Hid (∀g,F1 g∨g=n→g≠A):=hide fun g e=>by have:=AG.out.nl.nd.lt g e;omega
   have AT:Hid (A≠tb):=hide (by have:=AG.out.tab.blt;omega)
   subst hao
   clear hcell ha hmem c0 c1 c2 c3 c4 c5 c6 c7 c8 c9 c10 c11 c12 c13 hcp bB bV sV PV AG hav hab hvs dz hak ayI hpn axg hkn hal ayR axZ AOK
   go_wp2_with fail
   refine(PK.out _).mono ?_
   rintro E wp ⟨rfl,hwp⟩
   obtain rfl:=hwp
   clear PK
   by_cases hk0:kn=0
   ·have hkb:(kn==0)=true:=by simp[hk0]
    obtain⟨c,y,hc0,hcn,CM⟩:=AV.out.au0 (by omega) OPS.out FOK.out H40.out
    rw[HXL.out]at CM hc0
    obtain⟨kk,hkk⟩:∃z:Int,(an:Int)+1=z:=⟨_,rfl⟩
    rw[hkk]at CM
    have hwa:IntKind.i64.wrap ((an:Int)+1)=kk:=(aQ _ (by omega) (by omega)).trans hkk
    have HKK:=hide hkk
    have AFV:Hid (∀W:World,(∀g,g<V.heap.size→¬(F1 g∨g=n)→W.heap[g]? =V.heap[g]?)→W.heap[A]? =V.heap[A]?):=hide fun W k=>k A (ay PVH.out) fun e=>AF.out A e rfl
    clear hk0 v0 v1 PN HPN hkk AF
    by_cases hcz:c=0
    ·rw[if_pos hcz,hcz]at CM
     have HC0:=hide (hc0 hcz)
     have CM:=hide CM
     clear hc0 hcn hcz
     go_wp2_with fail
     refine CM.out.mono ?_
     rintro E w6 ⟨rfl,⟨F6,R6⟩,k6⟩
     have P6:=hide ((AFV.out w6 k6).trans PVH.out)
     have R6:=hide R6
     have LG:=hide (afz n p q F6 w6 y R6.out.nl.nd (R6.out.tF (by omega)))
     clear CM k6 AFV PVH v4
     go_wp2_with fail
     refine LG.out.mono ?_
     rintro E w7 ⟨v7,rs,rfl,sh7,e7,b7⟩
     have P7:=(b7.block A (ay P6.out)).trans P6.out
     obtain⟨lb,lo,ln,lc,ca7,k7,hv7,hln,hlb,x0,x1,x2,ho7⟩:=aq5 (anx sh7) (e7.trans HC0.out.1)
     rw[HXL.out]at x0 x1 x2 hln
     have lb6:w6.heap.size≤lb∧tb<w6.heap.size:=⟨(World.ownsRow.lt sh7.c lb (by rw[hv7];rfl)).1,R6.out.tab.blt⟩
     have x1':w7.cell? ⟨lb,lo+an*3+1,none⟩=some (.int .i64 kk):=by rw[←HKK.out];exact x1
     have x0':w7.cell? ⟨lb,lo+an*3,none⟩=some (.int .i64 1):=x0
     have x2':w7.cell? ⟨lb,lo+an*3+2,none⟩=some (.slice ca7 al.length k7):=x2
     have v47:w7.cell? ⟨A,4,none⟩=some (.slice oa al.length ok):=ai P7 4 rfl
     have R7:=R6.out.below b7
     have SN:Hid (∀W,Below w7.heap.size w7 W→ayG W lb (lo+an*3) A 1 kk (.slice ca7 al.length k7) (.slice oa al.length ok)):=hide fun W hW=>⟨(hW.cell (p:=⟨lb,lo+an*3,none⟩) hlb).trans x0',(hW.cell (p:=⟨lb,lo+an*3+1,none⟩) hlb).trans x1',(hW.cell (p:=⟨lb,lo+an*3+2,none⟩) hlb).trans x2',(hW.cell (p:=⟨A,4,none⟩) (ay P7)).trans v47⟩
     have SC:Hid (∀W,Below w7.heap.size w7 W→Calls prog 46 #[.agg #[.int .i64 1,.int .i64 kk,.slice ca7 al.length k7],.agg #[.int .i64 1,.int .i64 kk,.slice oa al.length ok]] W fun E w'=>E=.returned (.bool true)∧Below w7.heap.size w7 w'):=hide fun W hW=>by
      have:=aiU 1 kk (.slice ca7 al.length k7) al 1 kk (.slice oa al.length ok) al W (ho7.below hW) (OPS.out.below (R7.below hW).nl.aI) (by have:=H40.out;omega) (by have:=H40.out;omega)
      rw[ajr]at this
      refine this.mono ?_
      rintro E w' ⟨rfl,b⟩
      exact⟨rfl,hW.trans (b.mono hW.size)⟩
     have AP:Hid (∀W,Below w7.heap.size w7 W→Calls prog 47 #[.pointer (some ⟨tp,0,none⟩),.slice oa al.length ok] W fun E w'=>E=.returned (.int .i64 0)∧ayG w' lb (lo+an*3) A 1 kk (.slice ca7 al.length k7) (.slice oa al.length ok)∧Hid (∃F x,gB w2 w' n p q tp tb F x (Sto.fold (Rst.aP x.s)) (i+1)∧x.s.l.length=an+1)):=hide fun W hW=>by
      refine((R7.below hW).apply (by have:=AV.out.le;omega) (by omega) OPS.out FOK.out H40.out HC0.out.2.1).mono ?_
      rintro E w' ⟨rfl,R,kb⟩
      obtain⟨y0,y1,y2,y4⟩:=SN.out W hW
      have zz:=hW.size
      have kl:∀o,w'.cell? ⟨lb,o,none⟩=W.cell? ⟨lb,o,none⟩:=fun o=>eX (kb lb (by omega) (by omega)) o
      have ka:∀o,w'.cell? ⟨A,o,none⟩=W.cell? ⟨A,o,none⟩:=fun o=>eX (kb A (by have:=ay P7;omega) AT.out) o
      refine⟨rfl,⟨(kl _).trans y0,(kl _).trans y1,(kl _).trans y2,(ka _).trans y4⟩,hide ⟨F6,y,HC0.out.2.2▸R,?_⟩⟩
      rw[HC0.out.1,List.length_append,HXL.out]
      rfl
     have hne:((ln:Int) !=kk)=false:=by rw[hln,←HKK.out];simp
     have hlt2:(an:Int)<ln:=by rw[hln];omega
     have hsub:IntKind.i64.wrap (kk-1)=(an:Int):=by rw[show kk-1=(an:Int)by have:=HKK.out;omega];exact aQ _ (by omega) (by omega)
     have hkn:(Hid ((kk:Int)=((an+1:Nat):Int))):=hide (by rw[←HKK.out];omega)
     obtain⟨s0,s1,s2,s4⟩:=SN.out w7.drew (Below.refl _ _).drew
     subst hv7
     clear LG AV R6 lb6 P6 P7 sh7 e7 b7 hln hlb x0 x1 x2 ho7 x0' x1' x2' v47 R7 HC0
     go_wp2_with fail
     go_region_held3 (fun W=>W.cell? ⟨lb,lo+an*3,none⟩=some (.int .i64 1)∧W.cell? ⟨lb,lo+an*3+1,none⟩=some (.int .i64 kk)∧W.cell? ⟨lb,lo+an*3+2,none⟩=some (.slice ca7 al.length k7)∧W.cell? ⟨A,4,none⟩=some (.slice oa al.length ok)) (first|exact⟨s0,s1,s2,s4⟩|exact⟨z9.r0,z9.r1,z9.r2,z9.a4⟩|exact⟨z8.r0,z8.r1,z8.r2,z8.a4⟩|go_keep)
      (first
      |(go_at_call 47;refine(AP.out _ B8.out).mono ?_;rintro E w9 ⟨rfl,z9,RR⟩)
      |(go_at_call 46;refine(SC.out w7.drew (Below.refl _ _).drew).mono ?_;rintro E w8 ⟨rfl,b8⟩;have B8:=hide b8;have z8:=SN.out w8 b8;clear b8))
     all_goals
      clear SC AP SN s0 s1 s2 s4 z8 z9
      go_wp2
      go_roundw
      case rel=>exact⟨i+1,an+1,by omega,by go_num,by rw[hkn.out],RR⟩
      case measure=>simp[intOf];omega
    ·have hcb:(c==0)=false:=by simp[hcz]
     have hcb':(c !=0)=true:=by simp[hcz]
     rw[if_neg hcz]at CM
     have CM:=hide CM
     have HY:=hide (hcn hcz)
     clear hc0 hcn hcz
     go_wp2_with fail
     refine CM.out.mono ?_
     rintro E w6 ⟨rfl,⟨F6,R6⟩,k6⟩
     have RR:Hid (∃F x,gB w2 w6 n p q tp tb F x (Sto.fold (Rst.aP x.s)) (i+1)∧x.s.l.length=an):=hide ⟨F6,y,by have:=HY.out;subst this;exact R6,by rw[HY.out];exact HXL.out⟩
     clear CM AV k6 AFV PVH v4 R6
     go_wp2
     go_roundw
     case rel=>exact⟨i+1,an,by omega,by go_num,by rfl,RR⟩
     case measure=>simp[intOf];omega
   have hkb:(kn==0)=false:=by simp[hk0]
   by_cases hk1:kn=1
   ·have azE:(kn==1)=true:=by simp[hk1]
    have AFV:Hid (∀W:World,(∀g,g<V.heap.size→¬(F1 g∨g=n)→W.heap[g]? =V.heap[g]?)→W.heap[A]? =V.heap[A]?):=hide fun W k=>k A (ay PVH.out) fun e=>AF.out A e rfl
    clear hk0 hk1 v0 v4
    go_wp2_with fail
    refine(PN.out _).mono ?_
    rintro E wq ⟨rfl,hwq⟩
    obtain rfl:=hwq
    have aym:In64 pn:=by have:=HPN.out;simp only[In64];omega
    have EN:=hide (ahq ⟨3,1,0,pn,.slice none 0 0,[],0,0,.slice none 0 0,[]⟩ (Mm.enc (eU 1 pn)) 0 V ⟨fP.nil _ _,gD.nil _⟩ ⟨by simp[In64],by simp[In64],by simp,by simp,aym,by simp[In64],by simp[In64],by simp,fun c hc=>by simp at hc,by simp⟩ (.inl ⟨rfl,(show Mm.Ok (eU 1 pn)from afV (by decide) (by have:=HPN.out;omega)),rfl⟩))
    unfold mv at EN
    clear PN aym
    go_wp2_with fail
    refine EN.out.mono ?_
    rintro E w6 ⟨vb,rfl,Ob,b6⟩
    have R6:=hide (AV.out.below b6)
    obtain⟨xo,xc,hvb,_,_⟩:=Ob.is.shape
    have RC:=hide (R6.out.ack (by omega) HPN.out vb Ob.is)
    have OB:=hide (And.intro Ob (fun g e=>Nat.lt_of_lt_of_le (AV.out.nl.nd.lt g e) (Nat.le_refl _):∀g,F1 g∨g=n→g<V.heap.size))
    subst hvb
    clear EN Ob b6 AV v1 AFV PVH AF
    go_wp2_with fail
    refine RC.out.mono ?_
    rintro E w7 ⟨rfl,K7⟩
    obtain⟨F7,R7⟩:=R6.out.fT (by omega) HPN.out K7
    have R7:=hide R7
    have OB7:Hid (Is .u8 w7 (.slice xo (Mm.enc (eU 1 pn)).length xc) (Mm.enc (eU 1 pn))):=hide (by
     obtain⟨_,_,o7,_⟩:=K7
     exact(OB.out.1.agree fun b hb=>o7.block b (World.ownsRow.lt OB.out.1.2 b hb).2 fun e=>by
      have:=OB.out.2 b e
      have:=(World.ownsRow.lt OB.out.1.2 b hb).1
      omega).is)
    obtain⟨pa6,hp6⟩:=R6.out.pr
    have HZ:Hid ((x.fT 0 (eU 1 pn)).s=x.s):=hide (aiF hp6 (by omega) HPN.out.1).2
    have PRZ:=hide (show ∃m pa,m≤500∧eG m x 1 pa from⟨_,pa6,by omega,hp6⟩)
    have OU:=hide (aao n p q F7 w7 _ R7.out.nl.nd (R7.out.tF (by omega)) R7.out.e1.2)
    have OU2:Hid (∀W F,gB w2 W n p q tp tb F (x.fT 0 (eU 1 pn)) (Sto.fold (Rst.aP x.s)) (i+1)→Calls prog 32 #[.pointer (some ⟨n,0,none⟩)] W fun E w'=>E=.returned (.int .i64 (aZ.oV (x.fT 0 (eU 1 pn)).s.l.length (x.fT 0 (eU 1 pn)).a))∧Below W.heap.size W w'):=hide fun W F hW=>aao n p q F W _ hW.nl.nd (hW.tF (by omega)) hW.e1.2
    obtain⟨ov,hov⟩:∃z,aZ.oV (x.fT 0 (eU 1 pn)).s.l.length (x.fT 0 (eU 1 pn)).a=z:=⟨_,rfl⟩
    rw[hov]at OU OU2
    obtain⟨x7,hx7⟩:∃z,x.fT 0 (eU 1 pn)=z:=⟨_,rfl⟩
    rw[hx7]at R7 HZ OU2
    have HX7:=hide hx7
    generalize (Mm.enc (eU 1 pn)).length=el at*
    clear RC R6 OB K7 hp6 hov hx7
    go_wp2_with fail
    refine OU.out.mono ?_
    rintro E w8 ⟨rfl,b8⟩
    have R8:=hide (R7.out.below b8)
    have RC:=hide (R8.out.ack (by omega) HPN.out _ (OB7.out.below b8))
    clear OU R7 b8 OB7
    go_wp2_with fail
    refine RC.out.mono ?_
    rintro E w9 ⟨rfl,K9⟩
    obtain⟨F9,R9⟩:=R8.out.aBb (by omega) HPN.out HX7.out.symm PRZ.out K9
    have OU3:=hide (OU2.out w9 F9 R9)
    have R9:=hide R9
    clear RC R8 K9 OU2
    go_wp2_with fail
    refine OU3.out.mono ?_
    rintro E w10 ⟨rfl,b10⟩
    have RR:Hid (∃F x,gB w2 w10 n p q tp tb F x (Sto.fold (Rst.aP x.s)) (i+1)∧x.s.l.length=an):=hide ⟨F9,x7,by
     have:=R9.out.below b10
     rw[←HZ.out]at this
     exact this,by rw[HZ.out];exact HXL.out⟩
    clear OU3 R9 b10 HZ HX7 PRZ
    go_wp2
    go_roundw
    case rel=>exact⟨i+1,an,by omega,by go_num,by rfl,RR⟩
    case measure=>simp[intOf];omega
   ·have azE:(kn==1)=false:=by simp[hk1]
    have FL:=hide (AV.out.flush (by omega))
    obtain⟨pa6,hp6⟩:=AV.out.pr
    have hf6:=hp6.fl (by omega) (by have:=HXL.out;omega)
    have HZ:Hid (x.fl.s.l=x.s.l∧Sto.fold (Rst.aP x.fl.s)=Sto.fold (Rst.aP x.s)):=hide ⟨hf6.2.2.2.2.2.1,hf6.2.2.2.2.2.2.2.2.2⟩
    clear hk0 hk1 v0 v1 v4 PN AV hp6 hf6 PVH AF
    go_wp2_with fail
    refine FL.out.mono ?_
    rintro E w6 ⟨rfl,F6,R6⟩
    have RR:Hid (∃F x,gB w2 w6 n p q tp tb F x (Sto.fold (Rst.aP x.s)) (i+1)∧x.s.l.length=an):=hide ⟨F6,x.fl,by
     rw[HZ.out.2]
     exact R6,by rw[HZ.out.1];exact HXL.out⟩
    clear FL R6 HZ
    go_wp2
    go_roundw
    case rel=>exact⟨i+1,an,by omega,by go_num,by rfl,RR⟩
    case measure=>simp[intOf];omega
  ·obtain rfl:i=l.length:=by omega
   have hlt':¬(l.length:Int)<l.length:=by omega
   clear hlt
   go_wp2
   go_loopw [23] (fun jv wz=>∃j:Nat,j≤ks.length∧jv=.int .i64 j∧Hid (gB w2 wz n p q tp tb F1 x (Sto.fold (Rst.aP x.s)) l.length)) (fun jv _=>ks.length-(intOf jv).toNat)
   case atStart=>exact⟨0,by omega,rfl,AG⟩
   case round=>
    clear AG
    obtain⟨j,hj,rfl,R⟩:=hrel
    by_cases hjl:j<ks.length
    ·obtain⟨kb,kf,kc,hkx,_,_,hkb,hkc⟩:=IsS.full (show IsS wr _ ks from HK1.out.below R.out.nl.aI) (by omega)
     simp only[Value.slice.injEq,true_and]at hkx
     obtain⟨hko,hkq⟩:=hkx
     obtain⟨k,hk⟩:∃k,ks[j]? =some k:=⟨ks[j],List.getElem?_eq_getElem hjl⟩
     have e0:=hkc j k hk
     have hks:k.size≤140737488355328:=by have:=HFK.out k (List.mem_of_getElem? hk);omega
     have KC:Hid (∀W,Below wr.heap.size wr W→W.cell? ⟨kb,kf+j,none⟩=some (.string k)):=hide fun W hW=>(hW.cell (p:=⟨kb,kf+j,none⟩) hkb).trans e0
     have arp:(j:Int)<ks.length:=by omega
     have hj0:(0:Int)≤(j:Int):=by omega
     obtain⟨gvv,hgv⟩:∃z,gv (Sto.fold (Rst.aP x.s)) k=z:=⟨_,rfl⟩
     obtain⟨gpp,hgp⟩:∃z,gp (Sto.fold (Rst.aP x.s)) k=z:=⟨_,rfl⟩
     obtain⟨pa,hp⟩:=R.out.pr
     have GA:=hide (acV n p q F1 wr x R.out.nl.nd (R.out.tF (by omega)) R.out.on (hp.rd (by omega)) k hks)
     rw[hgv,hgp]at GA
     have HG:=hide (And.intro hgv hgp)
     subst hko
     clear hkc hk hgv hgp hkq hp
     go_wp2_with fail
     refine GA.out.mono ?_
     rintro E y1 ⟨rfl,B1'⟩
     have R1:=hide (R.out.below B1')
     have e1:=KC.out y1 B1'
     have GT:=hide (agm tp tb y1 _ k R1.out.tab hks)
     rw[HG.out.1,HG.out.2]at GT
     obtain⟨mt,hmt⟩:∃z,Tm.met (Sto.fold (Rst.aP x.s)) k=z:=⟨_,rfl⟩
     rw[hmt]at GT
     clear GA B1' R e0 hmt HG
     go_wp2_with fail
     refine GT.out.mono ?_
     rintro E y3 ⟨rfl,B3⟩
     have R3:=hide (R1.out.below B3)
     clear GT R1 B3 e1 KC
     go_wp2
     go_roundw
     case rel=>exact⟨j+1,by omega,by go_num,R3⟩
     case measure=>simp[intOf];omega
    ·have arp:¬(j:Int)<ks.length:=by omega
     have LG:=hide (afz n p q F1 wr x R.out.nl.nd (R.out.tF (by omega)))
     have R0:=hide R.out.nl.aI
     clear R
     go_wp2_with fail
     refine LG.out.mono ?_
     rintro E w7 ⟨v7,rs,rfl,sh7,e7,b7⟩
     have hrs:Hid (rs.length=an):=hide (by rw[←HXL.out,←e7];unfold aD;rw[List.length_map])
     obtain⟨va,vk,hv7,_,_⟩:=(anx sh7).1.shape
     rw[hrs.out]at hv7
     subst hv7
     have BF:=hide ((B1.out.trans (R0.out.mono B1.out.size)).trans (b7.mono (by have:=B1.out.size;have:=R0.out.size;omega)))
     clear LG sh7 e7 b7 R0
     go_wp2
     go_ret
     exact⟨rfl,BF.out⟩
end Go.Proofs.YtlmkaljjocflmaaGreatDoor
