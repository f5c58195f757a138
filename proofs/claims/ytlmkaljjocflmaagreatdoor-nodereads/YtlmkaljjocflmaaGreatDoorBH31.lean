/- Texts. -/
import Derived.Test.YtlmkaljjocflmaaGreatDoorBH30
import Derived.Test.YtlmkaljjocflmaaGreatDoorBH23
import Derived.Test.YtlmkaljjocflmaaGreatDoorBH2
import Derived.Test.YtlmkaljjocflmaaGreatDoorBH15
import Derived.Test.YtlmkaljjocflmaaGreatDoorBH1
import Derived.Test.YtlmkaljjocflmaaGreatDoorBH18
import Derived.Test.YtlmkaljjocflmaaGreatDoorBH26
import Derived.Test.YtlmkaljjocflmaaGreatDoorBH24
import Derived.Test.YtlmkaljjocflmaaGreatDoorBH20
set_option maxRecDepth 100000
set_option maxHeartbeats 8000000
set_option linter.unusedVariables false
open Go.Proofs.Tryz
namespace Go.Proofs.YtlmkaljjocflmaaGreatDoor
open Go.RowKit
theorem atG (m:Mw)(w:World)(hi:ji w m)(hf:bQ m)(hok:Mm.Ok m.m)(hk:m.k=2):
  Calls prog 75 #[mv m] w fun E w'=>∃vb,E=.returned vb∧Own .u8 5 w.heap.size w' vb (Mm.enc m.m)∧Below w.heap.size w w':=by
 obtain⟨hbd,_,_,_,_,_,hk1,hk2,hk3⟩:=Mm.gM hok
 have e1:1≤m.e:=hok.1
 have e2:m.e≤1048576:=hok.2.1
 obtain⟨ao,cap,hvs,_,_⟩:=hi.s.shape
 obtain⟨mM,cap2,dz,_,_⟩:=hi.c.1.shape
 rw[jc hvs dz]
 obtain⟨w1,hw1,aV,aj,hA⟩:=yI w m hvs dz
 obtain⟨w2,hw2,dA,az,hB⟩:=au w1 #[.slice none 0 0] 61
 rw[aV]at hB
 have A2:Hid (gm w2 w.heap.size m):=hide (hA.below az)
 have B2:Hid (Buf (w.heap.size+1) w2 (.slice none 0 0) []):=hide ⟨hB,Own.nil _ _ _ _⟩
 have aO:Below w.heap.size w w2:=aj.trans (az.mono (by omega))
 have HE:Hid (∀W,gm W w.heap.size m→Ei W w.heap.size (.int .i64 m.k) (.int .i64 m.e) (.int .u8 m.r) (.int .i64 m.n) (.slice ao m.ss.length cap) (.int .i64 m.f) (.int .i64 m.p) (.slice mM m.cs.length cap2)):=hide fun W k=>k.mP hvs dz
 obtain⟨c0,c1,c2,c3,c4,c5,c6,c7⟩:=HE.out _ A2.out
 have HI:=hide hi
 have si:=hide hok
 have HBD:=hide hbd
 have jL:=hide hvs
 have jS:=hide dz
 obtain⟨w3,hw3,bO,aC,_⟩:=au w2 #[.int .i64 m.k,.int .i64 m.e] 3
 have C3:=hide (lQ [m.k,m.e] 2 #[.int .i64 m.k,.int .i64 m.e] (w.heap.size+1) _ [] w2 w3 hw3 rfl rfl (by omega) (by intro z hz;simp at hz;omega) B2.out (by simp))
 have kQ:∀(fn:Fn) (first cap:Array Value) (w:World),(Instr.makeFunc fn first cap).run prog w=.ok (.func fn first cap) w:=fun _ _ _ _=>rfl
 have HK:=hide hk
 have hq1:(m.k==1)=false:=by simp;omega
 have hq2:(m.k==2)=true:=by simp[hk]
 rw[dA,aV]at C3
 clear hi hok hbd hvs dz hA hB aj az aC hk
 go_enter func75,ntmps75
 go_wp2_with fail
 refine C3.out.mono ?_
 rintro E w4 ⟨rfl,v4,rJ⟩
 have B4:=hide rJ.buf
 have lq:Below (w.heap.size+1) w2 w4:=rJ.below B2.out
 have iK:=rJ.out.size
 have A4:=hide (A2.out.under lq (by omega))
 clear c0 c1 c2 c3 c4 c5 c6 c7 rJ hw1 hw2 hw3 C3
 obtain⟨c0,c1,c2,c3,c4,c5,c6,c7⟩:=HE.out _ A4.out
 obtain⟨w5,iw,mO,aS,_⟩:=au w4 #[.int .i64 m.f,.int .i64 m.p,.int .i64 m.cs.length] 3
 have hd2:=Mm.qi (show m.m.k=2 from HK.out)
 have hcl:m.m.cs.length=m.cs.length:=dJ _
 have hff:0≤m.f∧m.f≤1048576:=HBD.out m.f (by rw[hd2];simp[Mw.m])
 have hpp:0≤m.p∧m.p≤1048576:=HBD.out m.p (by rw[hd2];simp[Mw.m])
 have hs:m.cs.length≤4:=by have:=(hk2 HK.out).2.2.2.2;omega
 have hcc:=Mm.yN si.out
 have o8:Hid (∀c∈aD m.cs,Cm.chk c.e c.n c.l=0):=hide hcc
 have hl4:=jE (l:=[m.k,m.e]) (by intro z hz;simp at hz;have:=HK.out;omega)
 have hl5:=jE (l:=[m.f,m.p,(m.cs.length:Int)]) (by intro z hz;simp at hz;omega)
 simp only[List.length_cons,List.length_nil]at hl4 hl5
 have C5:=hide (lQ [m.f,m.p,(m.cs.length:Int)] 3 #[.int .i64 m.f,.int .i64 m.p,.int .i64 m.cs.length] (w.heap.size+1) _ _ w4 w5 iw rfl rfl (by omega) (by intro z hz;simp at hz;omega) B4.out (by rw[List.nil_append];omega))
 obtain⟨P0,hP0⟩:∃l,[]++Pm.encs [m.k,m.e]++Pm.encs [m.f,m.p,(m.cs.length:Int)]=l:=⟨_,rfl⟩
 rw[hP0]at C5
 have HP0:=hide hP0
 have hPl:P0.length≤50:=by rw[←hP0,List.nil_append,List.length_append];omega
 have HF:=hide hf.fc
 clear hd2 hcc hk1 hk2 hk3 hl4 hl5 hP0 hf hcl
 go_wp2_with fail
 refine C5.out.mono ?_
 rintro E w6 ⟨rfl,v6,wh⟩
 have B6:=hide wh.buf
 have l7:Below (w.heap.size+1) w4 w6:=wh.below B4.out
 have jK:=lq.trans l7
 have sP:=jK.size
 have A6:=hide (A2.out.under jK (by omega))
 have RW:Hid (0<m.cs.length→∃b1 o1 c1,(.slice mM m.cs.length cap2:Value)=.slice (some ⟨b1,o1,none⟩) m.cs.length c1∧b1<w.heap.size∧∀i c,m.cs[i]? =some c→w.cell? ⟨b1,o1+i*3,none⟩=some (.int .i64 c.e)∧w.cell? ⟨b1,o1+i*3+1,none⟩=some (.int .i64 c.n)∧w.cell? ⟨b1,o1+i*3+2,none⟩=some c.v):=hide (by rw[←jS.out];exact jq HI.out.c)
 clear c0 c1 c2 c3 c4 c5 c6 c7 wh iw C5 l7 B4 A4
 obtain⟨c0,c1,c2,c3,c4,c5,c6,c7⟩:=HE.out _ A6.out
 have HT0:Hid (Buf (w.heap.size+1) w6 v6 (P0++Fm.cat (((aD m.cs).take 0).map Mm.cb))):=hide (by simpa[Fm.cat]using B6.out)
 generalize hn':m.cs.length=n at*
 have HN:=hide hn'
 clear hn'
 go_wp2
 go_loopw [64] (fun i wr=>∃(k:Nat) (v:Value),k≤n∧i=.int .i64 k∧Below (w.heap.size+1) w2 wr∧Hid (Buf (w.heap.size+1) wr v (P0++Fm.cat (((aD m.cs).take k).map Mm.cb)))) (fun i _=>n-(intOf i).toNat)
 case atStart=>exact⟨0,v6,by omega,rfl,jK,HT0⟩
 case round=>
  obtain⟨k,v,hk,rfl,aI,HT⟩:=hrel
  have sz:=aI.size
  have ky:Below w.heap.size w wr:=aO.trans (aI.mono (by omega))
  by_cases hlt:k<n
  ·obtain⟨b1,o1,x1,hv1,hB1,hc1⟩:=RW.out (by omega)
   simp only[Value.slice.injEq,true_and]at hv1
   obtain⟨rfl,rfl⟩:=hv1
   obtain⟨s,hs'⟩:=mH (l:=m.cs) (k:=k) (by have:=HN.out;omega)
   have hmem:=List.mem_of_getElem? hs'
   obtain⟨d0,d1,d2⟩:=aa0 hc1 ky hB1 hs'
   have hcg:(aD m.cs)[k]? =some s.c:=by rw[pQ,hs'];rfl
   have hck:Cm.chk s.e s.n s.l=0:=o8.out s.c (List.mem_of_getElem? hcg)
   have hlt':(k:Int)<n:=by omega
   have io:=(HI.out.c.2 s hmem).1.below ky
   obtain⟨hfo,hlo⟩:=HF.out s hmem
   obtain⟨ga,ea,avK,_,_⟩:=io.shape
   obtain⟨V,hV,hV2,iy,bg,_,y0,y1,y2⟩:=eY wr 35 (.int .i64 0) (.int .i64 0) (.slice none 0 0) (.int .i64 s.e) (.int .i64 s.n) s.v
   have HBV:=hide (HT.out.below bg)
   have CU:=hide (ae1 s.e s.n s.v s.l V (io.below bg) hfo (by omega))
   rw[hck,Cm.kX hck]at CU
   unfold cK at CU
   rw[avK]at d2 hV hV2 y2 CU
   have abb:Below (w.heap.size+1) w2 V:=aI.trans (bg.mono (by omega))
   have hcs:(Fm.cat (((aD m.cs).take k).map Mm.cb)).length≤2000:=by
    have h1:=xA (l:=(aD m.cs).take k) (fun c hc=>o8.out c (List.mem_of_mem_take hc))
    have h2:((aD m.cs).take k).length≤(aD m.cs).length:=List.length_take_le' _ _
    rw[dJ,HN.out]at h2
    omega
   have hel:(Cm.fA s.e s.n s.l).length≤430:=Cm.pK hck
   have HF2:=hide (aom hcg)
   have hcb:Mm.cb s.c=Cm.fA s.e s.n s.l:=rfl
   rw[hcb]at HF2
   generalize Cm.fA s.e s.n s.l=whole at*
   generalize hQ:Fm.cat (((aD m.cs).take k).map Mm.cb)=Q at*
   have HQ:=hide hQ
   clear hs' hmem hc1 bg avK hck hcb io hcg hQ
   go_wp2_with fail
   refine CU.out.mono ?_
   rintro E w7 ⟨vw,rfl,jI,iE⟩
   have sz7:=iE.size
   have B7:=hide (HBV.out.below iE)
   have yR:Below (w.heap.size+1) w2 w7:=abb.trans (iE.mono (by omega))
   obtain⟨aw,cw,hvw,_,_⟩:=jI.is.shape
   obtain⟨U,hU,szU,aau,_⟩:=au w7 #[.int .i64 whole.length] 3
   have C8:=hide (lQ [(whole.length:Int)] 1 #[.int .i64 whole.length] (w.heap.size+1) _ _ w7 U hU rfl rfl (by omega) (by intro z hz;simp at hz;omega) B7.out (by rw[List.length_append];omega))
   have hwb:Hid (∀b,vw.ownBlock=some b→b≠w.heap.size+1∧v.ownBlock≠some b∧b<w7.heap.size):=hide fun b hb=>by
    have h1:=jI.2.lt b hb
    have h2:=HBV.out.lt
    refine⟨by omega,fun e=>?_,h1.2⟩
    have:=(HBV.out.own.2.lt b e).2
    omega
   have O7:=hide jI
   subst hvw
   clear CU jI y0 y1 y2 d0 d1 d2 hV hV2 iE aau HBV abb
   go_wp2_with fail
   refine C8.out.mono ?_
   rintro E w9 ⟨rfl,v9,bs9⟩
   have B9:=hide bs9.buf
   have zk:Below (w.heap.size+1) w2 w9:=yR.trans (bs9.below B7.out)
   have I9:Is .u8 w9 (.slice aw whole.length cw) whole:=O7.out.is.agree fun b hb=>by
    obtain⟨h1,h2,h3⟩:=hwb.out b hb
    exact bs9.stays h3 h1 h2
   have c9:w9.cell? ⟨w.heap.size+1,0,none⟩=some v9:=ai B9.out.box 0 rfl
   have g9:=B9.out.lt
   have hsz:=Vm.lY (x:=whole.length) (by omega)
   unfold Vm.sz at hsz
   have X9:Hid (∀ty,∃v' w',(Builtin.append_ #[61,61] ty #[v9,.slice aw whole.length cw]).run prog w9=.ok v' w'∧Hid (Own .u8 5 (w.heap.size+1+1) w' v' (P0++Q++Pm.encs [(whole.length:Int)]++whole)∧w9.grownBy w' v9.ownBlock∧(v'.ownBlock=v9.ownBlock∨v'.ownBlock=some w9.heap.size))):=hide fun ty=>by
    obtain⟨v',w',hr,hx⟩:=iL (P:=prog) (w:=w9) 61 ty .u8 5 (w.heap.size+1+1) 1 underlying61 Tryz.info5 (by decide) v9 _ B9.out.own _ whole I9 (by simp[Pm.encs];omega) (by omega)
    exact⟨v',w',hr,hide hx⟩
   clear bs9 C8 hU hwb O7 B7 I9
   go_wp2_with (at_builtin;refine lF rfl (.tmp 78) (.tmp 79) 61 rfl _ _ rfl rfl X9.out ?_)
   intro v10 w10 H10
   obtain⟨aaS,ax2,axf⟩:=H10.out
   have aaS:Own .u8 5 (w.heap.size+1+1) w10 v10 (P0++Q++Pm.encs [(whole.length:Int)]++whole):=by rw[List.append_assoc,List.append_assoc];exact aaS
   obtain⟨hbs,cb10,fr10⟩:=amb B9.out (Below.refl _ _) aaS ax2 axf
   have avj:Below (w.heap.size+1) w2 (w10.setCell ⟨w.heap.size+1,0,none⟩ v10):=zk.trans (hbs.below B9.out)
   have aAh:Hid (Buf (w.heap.size+1) (w10.setCell ⟨w.heap.size+1,0,none⟩ v10) v10 (P0++Fm.cat (((aD m.cs).take (k+1)).map Mm.cb))):=hide (by
    have:=hbs.buf
    rw[HF2.out]
    have e:P0++(Q++Fm.dK whole)=P0++Q++Pm.encs [(whole.length:Int)]++whole:=by simp[Pm.encs,Fm.dK]
    rw[e]
    exact this)
   obtain⟨a10,l10,n10,aBc⟩:=aaS.is.form
   subst aBc
   clear hbs aaS ax2 axf X9 B9 yR zk H10
   go_wp2
   go_roundw
   case rel=>exact⟨k+1,_,by omega,by go_num,avj,aAh⟩
   case measure=>simp[intOf];omega
  ·have hlt':¬(k:Int)<n:=by omega
   have own:=HT.out.own.bn (base':=w.heap.size) (by omega)
   rw[List.take_of_length_le (by rw[dJ,HN.out];omega)]at own
   have hres:P0++Fm.cat ((aD m.cs).map Mm.cb)=Mm.enc m.m:=by
    unfold Mm.enc
    rw[Mm.qi (show m.m.k=2 from HK.out),←HP0.out,←HN.out]
    simp[Pm.encs,Mw.m,dJ]
   rw[hres]at own
   have cb:wr.cell? ⟨w.heap.size+1,0,none⟩=some v:=ai HT.out.box 0 rfl
   obtain⟨a6,l6,n6,hv6⟩:=own.is.form
   subst hv6
   clear hres HT
   go_wp2
   go_ret
   exact⟨_,rfl,own,ky⟩
theorem apy (m:Mw)(w:World)(hi:ji w m)(hf:bQ m)(hok:Mm.Ok m.m):
  Calls prog 75 #[mv m] w fun E w'=>∃vb,E=.returned vb∧Own .u8 5 w.heap.size w' vb (Mm.enc m.m)∧Below w.heap.size w w':=by
 rcases hok.2.2 with⟨k,_⟩|⟨k,_⟩|⟨k,_⟩
 ·exact atN m w hi hf hok k
 ·exact atG m w hi hf hok k
 ·exact as8 m w hi hf hok k
def avm (m:Mm.Msg) (bs:List Int) (c:Int):Prop:=(c=0∧Mm.Ok m∧bs=Mm.enc m)∨(c=2∧¬Mm.Ok m∧bs=[])
theorem auy {m:Mm.Msg}{bs:List Int}{c:Int}(h:avm m bs c):Mm.Ck m c:=by
 rcases h with⟨rfl,h,_⟩|⟨rfl,h,_⟩
 ·exact .inl ⟨rfl,h⟩
 ·exact .inr ⟨rfl,h⟩
theorem ahq (m:Mw)(bs:List Int)(c:Int)(w:World)(hi:ji w m)(hf:bQ m)(hr:avm m.m bs c):
  Calls prog 30 #[mv m] w fun E w'=>∃vb,E=.returned (.tuple #[vb,.int .i64 c])∧Own .u8 5 w.heap.size w' vb bs∧Below w.heap.size w w':=by
 have HR:=hide hr
 unfold mv
 obtain⟨w1,hw1,aV,aj,hA⟩:=aaD w m
 have A1:=hide hA
 obtain⟨c0,c1,c2,c3,c4,c5,c6,c7⟩:=hA.ei
 clear hA hr
 go_enter func30,ntmps30
 go_wp2_with fail
 refine(vN m c w1 (hi.below aj) hf (auy HR.out)).mono ?_
 rintro E w2 ⟨rfl,az⟩
 have dA:=az.size
 have aO:=aj.trans (az.mono (by omega))
 clear c0 c1 c2 c3 c4 c5 c6 c7 hw1
 rcases HR.out with⟨hc,hok,hbs⟩|⟨hc,hok,hbs⟩
 ·subst hc
  have rM:=hide hbs
  clear hbs
  obtain⟨c0,c1,c2,c3,c4,c5,c6,c7⟩:=(A1.out.below az).ei
  go_wp2_with fail
  refine(apy m w2 (hi.below aO) hf hok).mono ?_
  rintro E w3 ⟨vb,rfl,bK,aC⟩
  have bq:=aO.trans (aC.mono (by omega))
  rw[←rM.out]at bK
  have ay2:=bK.bn (base':=w.heap.size) (by omega)
  clear bK
  go_wp2
  refine bodyPost_ret (v:=.tuple #[vb,.int .i64 0]) (by simp[results,results30,go_sem]) rfl ?_
  exact⟨_,rfl,ay2,bq⟩
 ·subst hc hbs
  clear hok
  go_wp2
  refine bodyPost_ret (v:=.tuple #[.slice none 0 0,.int .i64 2]) (by simp[results,results30,go_sem]) rfl ?_
  exact⟨_,rfl,Own.nil _ _ _ _,aO⟩
def fK (bad:Bool):Int:=if bad then 5 else 0
structure Rst (B:Nat) (w0 w:World) (vb:Value) (bs:List Int) (a:Nat) (bad:Bool):Prop where
 zX:Is .u8 w0 vb bs
 hB:w0.heap.size=B
 aI:Below B w0 w
 bx:w.heap[B]? =some (.cells #[vb] 61 (0,0))
 at':w.heap[B+2]? =some (.cells #[.int .i64 a] 3 (0,0))
 er:w.heap[B+3]? =some (.cells #[.int .i64 (fK bad)] 29 (0,0))
 le:a≤bs.length
section
variable {B:Nat} {w0 w w':World} {vb:Value} {bs:List Int} {a:Nat} {bad:Bool}
theorem Rst.is (h:Rst B w0 w vb bs a bad):Is .u8 w vb bs:=by
 have:=h.aI
 rw[←h.hB]at this
 exact h.zX.below this
theorem Rst.lt (h:Rst B w0 w vb bs a bad):B+3<w.heap.size:=ay h.er
theorem Rst.below (h:Rst B w0 w vb bs a bad)(hb:Below w.heap.size w w'):Rst B w0 w' vb bs a bad:=by
 have:=h.lt
 exact⟨h.zX,h.hB,h.aI.trans (hb.mono (by omega)),(hb.block B (by omega)).trans h.bx,(hb.block (B+2) (by omega)).trans h.at',(hb.block (B+3) (by omega)).trans h.er,h.le⟩
theorem Rst.other (h:Rst B w0 w vb bs a bad){g:Nat}(hg:w.grownBy w' (some g))(h1:B≤g)(h2:g≠B)(h3:g≠B+2)(h4:g≠B+3):Rst B w0 w' vb bs a bad:=by
 have:=h.lt
 exact⟨h.zX,h.hB,aG h.aI hg h1 (by omega),(hg.block B (by omega) (by simp;omega)).trans h.bx,(hg.block (B+2) (by omega) (by simp;omega)).trans h.at',(hg.block (B+3) (by omega) (by simp;omega)).trans h.er,h.le⟩
theorem Rst.ao7 (h:Rst B w0 w vb bs a bad)(bad':Bool):Rst B w0 (w.setCell ⟨B+3,0,none⟩ (.int .i64 (fK bad'))) vb bs a bad':=by
 have hl:=h.lt
 have hg:=ax w ⟨B+3,0,none⟩ (.int .i64 (fK bad'))
 exact⟨h.zX,h.hB,aG h.aI hg (by simp) (by omega),(hg.block B (by omega) (by simp)).trans h.bx,(hg.block (B+2) (by omega) (by simp)).trans h.at',aF h.er 0 _,h.le⟩
theorem Rst.aqR (h:Rst B w0 w vb bs a bad)(a':Nat)(ha:a'≤bs.length):Rst B w0 (w.setCell ⟨B+2,0,none⟩ (.int .i64 a')) vb bs a' bad:=by
 have hl:=h.lt
 have hg:=ax w ⟨B+2,0,none⟩ (.int .i64 a')
 exact⟨h.zX,h.hB,aG h.aI hg (by simp) (by omega),(hg.block B (by omega) (by simp)).trans h.bx,aF h.at' 0 _,(hg.block (B+3) (by omega) (by simp)).trans h.er,ha⟩
end
def Wr (B:Nat):Nat→Prop:=fun i=>i=B+2∨i=B+3
theorem akj (B:Nat)(w:World)(u:Value):Out (Wr B) w (w.setCell ⟨B+3,0,none⟩ u):=Out.aM (ax w ⟨B+3,0,none⟩ u) (fun i hi=>.inr (by simpa using hi.symm))
theorem aiO (B:Nat)(w:World)(u:Value):Out (Wr B) w (w.setCell ⟨B+2,0,none⟩ u):=Out.aM (ax w ⟨B+2,0,none⟩ u) (fun i hi=>.inl (by simpa using hi.symm))
theorem mZ {B:Nat}{w w1 w2:World}(h:Out (Wr B) w w1)(k:Out (Wr B) w1 w2):Out (Wr B) w w2:=h.trans k (fun i hi=>.inl hi)
theorem abr (B:Nat)(w0 w:World)(vb:Value)(bs:List Int)(a:Nat)(bad:Bool)(most:Nat)(h:Rst B w0 w vb bs a bad)(hl:bs.length≤100000000000000)(hm:most<9223372036854775808):
  Calls prog 273 #[.int .i64 most,.pointer (some ⟨B+3,0,none⟩),.pointer (some ⟨B,0,none⟩),.pointer (some ⟨B+2,0,none⟩)] w fun E w'=>∃(u a':Nat) (bad':Bool),E=.returned (.int .i64 u)∧Hid (Rst B w0 w' vb bs a' bad'∧jO bs most a bad u a' bad'∧Out (Wr B) w w'):=by
 have ha:=h.le
 have HH:=hide h
 cases bad
 ·have cb:w.cell? ⟨B,0,none⟩=some vb:=ai h.bx 0 rfl
  have ca:w.cell? ⟨B+2,0,none⟩=some (.int .i64 a):=ai h.at' 0 rfl
  have ce:w.cell? ⟨B+3,0,none⟩=some (.int .i64 0):=ai h.er 0 rfl
  obtain⟨vs,hsl,gT⟩:=h.is.jo Tryz.aks Tryz.akG a ha
  have hsl:=hsl w
  obtain⟨u,i,e,hS⟩:=uk (bs.drop a) most
  have hdl:(bs.drop a).length=bs.length-a:=by rw[List.length_drop]
  have fe:=aA h.er 0
  rcases hS with⟨hR,h1,h2,he⟩|⟨hu,hi,he,x,n,f,hR,hcase⟩
  ·have hbd:=Vm.kG hR
   obtain⟨un,rfl⟩:∃un:Nat,u=un:=⟨u.toNat,by omega⟩
   obtain⟨n,rfl⟩:∃n:Nat,i=n:=⟨i.toNat,by omega⟩
   have hG:jO bs most a false un (a+n) false:=by
    rcases hR with⟨x,hx,hp,h3,h4,_⟩|⟨_,_,_,h5⟩
    ·have:x=un:=by omega
     subst this
     exact .inr (.inr ⟨rfl,rfl,by omega,hp,by omega⟩)
    ·simp at h5
   have C:=hide (lS vs (bs.drop a) most un n 0 w gT (by omega) (by omega) (by omega) (.inl ⟨hR,h1,h2,rfl⟩))
   have HG:=hide hG
   have hn1:a+n≤bs.length:=by omega
   have hn2:n≤10:=by omega
   have hsame:w.setCell ⟨B+3,0,none⟩ (.int .i64 0)=w:=aK h.er (j:=0) rfl
   have fa:=aA h.at' 0
   clear hG hR hbd h he h1 h2 gT
   go_enter func273,ntmps273
   go_wp2_with fail
   refine C.out.mono ?_
   rintro E w1 ⟨rfl,rfl⟩
   go_wp2
   go_ret
   exact⟨un,a+n,false,rfl,hide ⟨HH.out.aqR (a+n) hn1,HG.out,aiO _ _ _⟩⟩
  ·have hG:jO bs most a false 0 a true:=by
    refine .inr (.inl ⟨rfl,rfl,rfl,rfl,fun y hy hp=>?_⟩)
    have:=Vm.qC hR (u:=y) (by omega) hp
    omega
   have C:=hide (lS vs (bs.drop a) most 0 0 5 w gT (by omega) (by omega) (by omega) (.inr ⟨rfl,rfl,rfl,x,n,f,hR,hcase⟩))
   have HG:=hide hG
   obtain⟨V,hV⟩:∃V,w.setCell ⟨B+3,0,none⟩ (.int .i64 5)=V:=⟨_,rfl⟩
   have RV:Hid (Rst B w0 V vb bs a true):=hide (by rw[←hV];exact h.ao7 true)
   have OV:Hid (Out (Wr B) w V):=hide (by rw[←hV];exact akj _ _ _)
   have ca2:V.cell? ⟨B+2,0,none⟩=some (.int .i64 a):=ai RV.out.at' 0 rfl
   have fa2:=aA RV.out.at' 0
   have hsame:V.setCell ⟨B+2,0,none⟩ (.int .i64 a)=V:=aK RV.out.at' (j:=0) rfl
   clear hG hR h he hcase hu hi gT
   go_enter func273,ntmps273
   go_wp2_with fail
   refine C.out.mono ?_
   rintro E w1 ⟨rfl,rfl⟩
   go_wp2
   go_ret
   exact⟨0,a,true,rfl,hide ⟨RV.out,HG.out,OV.out⟩⟩
 ·have ce:w.cell? ⟨B+3,0,none⟩=some (.int .i64 5):=ai h.er 0 rfl
  clear h
  go_enter func273,ntmps273
  go_wp2
  go_ret
  exact⟨0,a,true,rfl,hide ⟨HH.out,.inl ⟨rfl,rfl,rfl,rfl⟩,Out.refl _ _⟩⟩
theorem avb {bs:List Int}{a:Nat}(h:∀x:Nat,x≤bs.length→¬Vm.enc x<+:bs.drop a):∀c':Cm.Cv,Cm.chk c'.e c'.n c'.l=0→¬Fm.dK (Mm.cb c')<+:bs.drop a:=fun c' _ hp=>by
 obtain⟨h1,h2,h3⟩:=Fm.sU hp
 rw[List.length_drop]at h3
 exact h _ (by omega) h1
theorem aug {bs:List Int}{a u:Nat}(h:Vm.enc u<+:bs.drop a)(hu:bs.length-(a+Vm.sz u)<u):∀c':Cm.Cv,Cm.chk c'.e c'.n c'.l=0→¬Fm.dK (Mm.cb c')<+:bs.drop a:=fun c' _ hp=>by
 obtain⟨h1,h2,h3⟩:=Fm.sU hp
 have e:=Vm.dG _ _ _ h h1
 subst e
 rw[List.length_drop]at h2 h3
 omega
theorem adX {bs:List Int}{a u:Nat}(h:Vm.enc u<+:bs.drop a)(hu:u≤bs.length-(a+Vm.sz u)):((bs.drop (a+Vm.sz u)).take u).length=u∧Fm.dK ((bs.drop (a+Vm.sz u)).take u)<+:bs.drop a:=by
 have:=Fm.ak7 (bs:=bs.drop a) (x:=u) h (by rw[List.length_drop];omega)
 rw[List.drop_drop]at this
 exact this
theorem apa {bs:List Int}{a u:Nat}{e n:Int}{l:List Bm.Ov}(h:Vm.enc u<+:bs.drop a)(hu:u≤bs.length-(a+Vm.sz u))(hc:Cm.chk e n l=0)(he:Cm.fA e n l=(bs.drop (a+Vm.sz u)).take u):Mm.vM bs a false ⟨e,n,l⟩ (a+Vm.sz u+u) false:=by
 obtain⟨h1,h2⟩:=adX h hu
 refine .inr (.inr ⟨rfl,rfl,hc,?_,?_⟩)
 ·show Fm.dK (Cm.fA e n l)<+:_
  rw[he]
  exact h2
 ·show _=a+(Fm.dK (Cm.fA e n l)).length
  rw[he,Fm.nA,h1]
  omega
theorem aud {bs:List Int}{a u:Nat}(h:Vm.enc u<+:bs.drop a)(hu:u≤bs.length-(a+Vm.sz u))(hno:∀e' n' l',Cm.chk e' n' l'=0→Cm.fA e' n' l'≠(bs.drop (a+Vm.sz u)).take u):∀c':Cm.Cv,Cm.chk c'.e c'.n c'.l=0→¬Fm.dK (Mm.cb c')<+:bs.drop a:=fun c' hc hp=>by
 obtain⟨h1,h2⟩:=adX h hu
 exact hno c'.e c'.n c'.l hc (Fm.ahK hp h2)
theorem aen {V:World}{R:Nat}{t:TypeId}{x y z:Value}(hR:V.heap[R]? =some (.cells #[x,y,z] t (0,0))):((V.setCell ⟨R,0,none⟩ x).setCell ⟨R,1,none⟩ y).setCell ⟨R,2,none⟩ z=V:=by
 have h0:V.setCell ⟨R,0,none⟩ x=V:=aK hR (j:=0) rfl
 have h1:V.setCell ⟨R,1,none⟩ y=V:=aK hR (j:=1) rfl
 have h2:V.setCell ⟨R,2,none⟩ z=V:=aK hR (j:=2) rfl
 rw[h0,h1,h2]
def Fnb (B:Nat) (w:World):Prop:=w.heap[B+4]? =some (.cells #[.func (.func 273) #[] #[.pointer (some ⟨B+3,0,none⟩),.pointer (some ⟨B,0,none⟩),.pointer (some ⟨B+2,0,none⟩)]] 306 (0,0))
theorem Fnb.out {B:Nat}{w w':World}(h:Fnb B w)(ho:Out (Wr B) w w'):Fnb B w':=(ho.block (B+4) (ay h) (by unfold Wr;omega)).trans h
theorem Fnb.below {B:Nat}{w w':World}(h:Fnb B w)(hb:Below w.heap.size w w'):Fnb B w':=(hb.block (B+4) (ay h)).trans h
theorem aui (B:Nat)(w0 w:World)(vb:Value)(bs:List Int)(a:Nat)(bad:Bool)(h:Rst B w0 w vb bs a bad)(hn:Fnb B w)(hl:bs.length≤100000000000000):
  Calls prog 274 #[.pointer (some ⟨B+4,0,none⟩),.pointer (some ⟨B,0,none⟩),.pointer (some ⟨B+2,0,none⟩),.pointer (some ⟨B+3,0,none⟩)] w fun E w'=>∃(e n:Int) (v:Value) (l:List Bm.Ov) (a':Nat) (bad':Bool),E=.returned (cK e n v)∧Hid (aT 71 w.heap.size w' v l∧Mm.vM bs a bad ⟨e,n,l⟩ a' bad'∧acJ e n l∧Rst B w0 w' vb bs a' bad'∧Out (Wr B) w w'):=by
 unfold cK
 have hlt:=h.lt
 have hlt4:=ay hn
 obtain⟨w1,hw1,aV,aj,hR⟩:=au w #[.int .i64 0,.int .i64 0,.slice none 0 0] 35
 have R1:=hide (h.below aj)
 have F1:=hide (hn.below aj)
 have HR1:=hide hR
 have O1:Hid (Out (Wr B) w w1):=hide (Out.of_below aj)
 obtain⟨ao,cap,hvb,_,_⟩:=h.is.shape
 have cb:w1.cell? ⟨B,0,none⟩=some (.slice ao bs.length cap):=by rw[←hvb];exact ai R1.out.bx 0 rfl
 have cf:w1.cell? ⟨B+4,0,none⟩=some (.func (.func 273) #[] #[.pointer (some ⟨B+3,0,none⟩),.pointer (some ⟨B,0,none⟩),.pointer (some ⟨B+2,0,none⟩)]):=ai F1.out 0 rfl
 have HVB:=hide hvb
 clear h hn hR hvb
 go_enter func274,ntmps274
 go_wp2_with fail
 refine(abr B w0 w1 vb bs a bad bs.length R1.out hl (by omega)).mono ?_
 rintro E w2 ⟨u,a1,iB,rfl,H2⟩
 obtain⟨r2,s2,o2⟩:=H2.out
 have dA:=o2.size
 have R2:=hide r2
 have S2:=hide s2
 have O2:Hid (Out (Wr B) w w2):=hide (mZ O1.out o2)
 have hR2:=(o2.block w.heap.size (by omega) (by unfold Wr;omega)).trans HR1.out
 have HR2:=hide hR2
 have ha1:=r2.le
 have cb2:w2.cell? ⟨B,0,none⟩=some (.slice ao bs.length cap):=by rw[←HVB.out];exact ai r2.bx 0 rfl
 have ca2:w2.cell? ⟨B+2,0,none⟩=some (.int .i64 a1):=ai r2.at' 0 rfl
 have ce2:w2.cell? ⟨B+3,0,none⟩=some (.int .i64 (fK iB)):=ai r2.er 0 rfl
 have fe2:=aA r2.er 0
 have hu:u≤bs.length:=by
  rcases s2 with⟨_,_,rfl,_⟩|⟨_,_,rfl,_⟩|⟨_,_,hx,_⟩
  ·omega
  ·omega
  ·exact hx
 clear H2 r2 s2 o2 cb cf hw1 R1 F1 O1 HR1
 obtain⟨Z,hZ,bZ,gZ,⟨a0,a1',a2⟩,⟨f0,f1,f2⟩,⟨z0,z1,z2⟩⟩:=gy hR2 (.int .i64 0) (.int .i64 0) (.slice none 0 0)
 have szZ:=gZ.size
 cases iB
 ·
  have hsu:bad=false∧Vm.enc u<+:bs.drop a∧a1=a+Vm.sz u:=by
   rcases S2.out with⟨_,hx,_⟩|⟨_,hx,_⟩|⟨h1,_,_,h2,h3⟩
   ·simp at hx
   ·simp at hx
   ·exact⟨h1,h2,h3⟩
  obtain⟨rfl,hen,rfl⟩:=hsu
  have HEN:=hide hen
  have hbz:fK false=0:=rfl
  rw[hbz]at ce2
  by_cases hroom:bs.length-(a+Vm.sz u)<u
  ·
   have hg:(bs.length:Int)-((a+Vm.sz u:Nat):Int)<u:=by omega
   obtain⟨V,hV⟩:∃V,w2.setCell ⟨B+3,0,none⟩ (.int .i64 5)=V:=⟨_,rfl⟩
   have RV:Hid (Rst B w0 V vb bs (a+Vm.sz u) true):=hide (by rw[←hV];exact R2.out.ao7 true)
   have OV:Hid (Out (Wr B) w V):=hide (mZ O2.out (by rw[←hV];exact akj _ _ _))
   have rf:V.heap[w.heap.size]? =some (.cells #[.int .i64 0,.int .i64 0,.slice none 0 0] 35 (0,0)):=by
    rw[←hV]
    exact((ax w2 ⟨B+3,0,none⟩ (.int .i64 5)).block w.heap.size (by omega) (by simp;omega)).trans HR2.out
   have ce3:V.cell? ⟨B+3,0,none⟩=some (.int .i64 5):=ai RV.out.er 0 rfl
   obtain⟨Y,hY,bY,gY,⟨y0,y1',y2⟩,⟨k0,k1,k2⟩,⟨x0,x1,x2⟩⟩:=gy rf (.int .i64 0) (.int .i64 0) (.slice none 0 0)
   have hYV:V=Y:=by
    rw[←hY,aen rf]
   subst hYV
   have HS:=hide (aug hen hroom)
   generalize a+Vm.sz u=q at*
   clear hen hroom hR2 rf bY gY bZ gZ
   go_wp2
   refine bodyPost_ret (v:=.agg #[.int .i64 0,.int .i64 0,.slice none 0 0]) (by simp[results,results274,go_sem,x0,x1,x2]) rfl ?_
   exact⟨0,0,_,[],_,true,rfl,hide ⟨aT.nil _ _ _,.inr (.inl ⟨rfl,rfl,HS.out⟩),ab6,RV.out,OV.out⟩⟩
  ·
   have hg:¬(bs.length:Int)-((a+Vm.sz u:Nat):Int)<u:=by omega
   obtain⟨vs,hsl,gT⟩:=R2.out.is.qB Tryz.aks Tryz.akG (a+Vm.sz u) (a+Vm.sz u+u) (by omega) (by omega)
   rw[show a+Vm.sz u+u-(a+Vm.sz u)=u by omega]at gT
   have hsl2:(Instr.slice 61 (.slice ao bs.length cap) (some (.int .i64 ((a+Vm.sz u:Nat):Int))) (some (.int .i64 (((a+Vm.sz u:Nat):Int)+(u:Int)))) none).run prog w2=.ok vs w2:=by
    have:=hsl w2
    rw[HVB.out]at this
    simpa using this
   have hwr:IntKind.i64.wrap (((a+Vm.sz u:Nat):Int)+(u:Int))=((a+Vm.sz u:Nat):Int)+u:=aQ _ (by omega) (by omega)
   have hpl:((bs.drop (a+Vm.sz u)).take u).length≤100000000000000:=by rw[List.length_take];omega
   have C3:=hide (pG vs ((bs.drop (a+Vm.sz u)).take u) w2 gT (by omega))
   have HNO:Hid (¬bs.length-(a+Vm.sz u)<u):=hide hroom
   have GB:Hid (∀e n l,Cm.chk e n l=0→Cm.fA e n l=(bs.drop (a+Vm.sz u)).take u→Mm.vM bs a false ⟨e,n,l⟩ (a+Vm.sz u+u) false):=hide fun e n l=>apa hen (by omega)
   have GN:Hid ((∀e' n' l',Cm.chk e' n' l'=0→Cm.fA e' n' l'≠(bs.drop (a+Vm.sz u)).take u)→∀c':Cm.Cv,Cm.chk c'.e c'.n c'.l=0→¬Fm.dK (Mm.cb c')<+:bs.drop a):=hide fun k=>aud hen (by omega) k
   have hqu:a+Vm.sz u+u≤bs.length:=by omega
   generalize (bs.drop (a+Vm.sz u)).take u=pc at*
   generalize a+Vm.sz u=q at*
   clear hsl gT hen hroom hZ bZ gZ a0 a1' a2 f0 f1 f2 z0 z1 z2 HEN S2 hR2 Z szZ
   go_wp2_with fail
   refine C3.out.mono ?_
   rintro E w3 ⟨v3,rfl,bK,aC⟩
   have bO:=aC.size
   have R3:=hide (R2.out.below aC)
   have O3:Hid (Out (Wr B) w w3):=hide (mZ O2.out (Out.of_below aC))
   have C4:=hide (api v3 pc w3 bK.is (by omega))
   have HR3:=hide ((aC.block w.heap.size (by omega)).trans HR2.out)
   clear C3 bK cb2 ca2 ce2 fe2 hsl2 aC
   go_wp2_with fail
   refine C4.out.mono ?_
   rintro E w4 ⟨e,n,g,vl,l,rfl,oI,hC,aL⟩
   unfold cK
   have iK:=aL.size
   have R4:=hide (R3.out.below aL)
   have O4:Hid (Out (Wr B) w w4):=hide (mZ O3.out (Out.of_below aL))
   have mg:=(aL.block w.heap.size (by omega)).trans HR3.out
   obtain⟨ah,ln,ch,hvl⟩:∃ah ln ch,vl=.slice ah ln ch:=by
    obtain⟨ah,ch,hvl,_,_⟩:=oI.is.shape
    exact⟨ah,_,ch,hvl⟩
   subst hvl
   obtain⟨Y,hY,bY,gY,⟨y0,y1',y2⟩,⟨k0,k1,k2⟩,⟨x0,x1,x2⟩⟩:=gy mg (.int .i64 e) (.int .i64 n) (.slice ah ln ch)
   have szY:=gY.size
   have RY:=hide (R4.out.other gY (by omega) (by omega) (by omega) (by omega))
   have OY:Hid (Out (Wr B) w Y):=hide ⟨gY.os.trans O4.out.os,gY.tape.trans O4.out.tape,gY.output.trans O4.out.output,by omega,fun i hi hn=>(gY.block i (by omega) (by simp;omega)).trans (O4.out.block i hi hn)⟩
   have akA:=oI.nD gY (by omega)
   have fer:=aA RY.out.er 0
   have cer:Y.cell? ⟨B+3,0,none⟩=some (.int .i64 0):=ai RY.out.er 0 rfl
   have hC':=hide hC
   clear C4 oI aL hC O4 R4 mg
   rcases hC'.out with⟨hg0,uO,henc⟩|⟨hg5,he0,hn0,hl0,hno⟩
   ·subst hg0
    have hsame:Y.setCell ⟨B+3,0,none⟩ (.int .i64 0)=Y:=aK RY.out.er (j:=0) rfl
    have car:Y.cell? ⟨B+2,0,none⟩=some (.int .i64 q):=ai RY.out.at' 0 rfl
    have far:=aA RY.out.at' 0
    obtain⟨X,hX⟩:∃X,Y.setCell ⟨B+2,0,none⟩ (.int .i64 ((q+u:Nat):Int))=X:=⟨_,rfl⟩
    have RX:Hid (Rst B w0 X vb bs (q+u) false):=hide (by rw[←hX];exact RY.out.aqR (q+u) hqu)
    have OX:Hid (Out (Wr B) w X):=hide (mZ OY.out (by rw[←hX];exact aiO _ _ _))
    have gX:Y.grownBy X (some (B+2)):=by rw[←hX];exact ax _ _ _
    have bX:=(gX.block w.heap.size (by omega) (by simp;omega)).trans bY
    have vH:=(akA.nD gX (by omega)).bn (base':=w.heap.size) (by omega)
    have HF:Hid (Mm.vM bs a false ⟨e,n,l⟩ (q+u) false∧acJ e n l):=hide ⟨GB.out e n l uO henc,auA uO⟩
    obtain⟨X2,hX2,bX2,gX2,⟨j0,j1,j2⟩,⟨m0,m1,m2⟩,⟨n0,n1,n2⟩⟩:=gy bX (.int .i64 e) (.int .i64 n) (.slice ah ln ch)
    have hXX:X=X2:=by
     rw[←hX2,aen bX]
    subst hXX
    push_cast at hX
    clear uO henc hC' bX gX bX2 gX2 bY gY akA
    go_wp2
    refine bodyPost_ret (v:=.agg #[.int .i64 e,.int .i64 n,.slice ah ln ch]) (by simp[results,results274,go_sem,n0,n1,n2]) rfl ?_
    exact⟨_,_,_,l,_,false,rfl,hide ⟨vH,HF.out.1,HF.out.2,RX.out,OX.out⟩⟩
   ·subst hg5 he0 hn0 hl0
    obtain⟨V,hV⟩:∃V,Y.setCell ⟨B+3,0,none⟩ (.int .i64 5)=V:=⟨_,rfl⟩
    have RV:Hid (Rst B w0 V vb bs q true):=hide (by rw[←hV];exact RY.out.ao7 true)
    have OV:Hid (Out (Wr B) w V):=hide (mZ OY.out (by rw[←hV];exact akj _ _ _))
    have gV:Y.grownBy V (some (B+3)):=by rw[←hV];exact ax _ _ _
    have iy:=gV.size
    have bV:=(gV.block w.heap.size (by omega) (by simp;omega)).trans bY
    have car:V.cell? ⟨B+2,0,none⟩=some (.int .i64 q):=ai RV.out.at' 0 rfl
    have far:=aA RV.out.at' 0
    obtain⟨X,hX⟩:∃X,V.setCell ⟨B+2,0,none⟩ (.int .i64 ((q+u:Nat):Int))=X:=⟨_,rfl⟩
    have RX:Hid (Rst B w0 X vb bs (q+u) true):=hide (by rw[←hX];exact RV.out.aqR (q+u) hqu)
    have OX:Hid (Out (Wr B) w X):=hide (mZ OV.out (by rw[←hX];exact aiO _ _ _))
    have gX:V.grownBy X (some (B+2)):=by rw[←hX];exact ax _ _ _
    have bX:=(gX.block w.heap.size (by omega) (by simp;omega)).trans bV
    have HF:=hide (GN.out hno)
    obtain⟨X2,hX2,bX2,gX2,⟨j0,j1,j2⟩,⟨m0,m1,m2⟩,⟨n0,n1,n2⟩⟩:=gy bX (.int .i64 0) (.int .i64 0) (.slice ah ln ch)
    have hXX:X=X2:=by
     rw[←hX2,aen bX]
    subst hXX
    push_cast at hX
    have vH:=((akA.nD gV (by omega)).nD gX (by omega)).bn (base':=w.heap.size) (by omega)
    clear hno hC' bX gX bX2 gX2 bY gY akA
    go_wp2
    refine bodyPost_ret (v:=.agg #[.int .i64 0,.int .i64 0,.slice ah ln ch]) (by simp[results,results274,go_sem,n0,n1,n2]) rfl ?_
    exact⟨_,_,_,[],_,true,rfl,hide ⟨vH,.inr (.inl ⟨rfl,rfl,HF.out⟩),ab6,RX.out,OX.out⟩⟩
 ·
  have hbz:fK true=5:=rfl
  rw[hbz]at ce2
  have hu0:u=0:=by
   rcases S2.out with⟨_,_,rfl,_⟩|⟨_,_,rfl,_⟩|⟨_,hx,_⟩
   ·rfl
   ·rfl
   ·simp at hx
  subst hu0
  have hg:¬(bs.length:Int)-(a1:Int)<((0:Nat):Int):=by omega
  have hg':¬(bs.length:Int)-(a1:Int)<0:=by omega
  have HCS:Hid (Mm.vM bs a bad ⟨0,0,[]⟩ a1 true):=hide (by
   rcases S2.out with⟨h1,_⟩|⟨h1,_,_,_,h2⟩|⟨_,hx,_⟩
   ·exact .inl ⟨h1,rfl⟩
   ·exact .inr (.inl ⟨h1,rfl,avb h2⟩)
   ·simp at hx)
  have hZ2:w2=Z:=by
   rw[←hZ,aen hR2]
  subst hZ2
  clear hR2 bZ gZ S2
  go_wp2
  refine bodyPost_ret (v:=.agg #[.int .i64 0,.int .i64 0,.slice none 0 0]) (by simp[results,results274,go_sem,z0,z1,z2]) rfl ?_
  exact⟨0,0,_,[],_,true,rfl,hide ⟨aT.nil _ _ _,HCS.out,ab6,R2.out,O2.out⟩⟩
theorem gq (bs:List Int)(mx a:Nat)(bad:Bool):∃(u a':Nat) (bad':Bool),jO bs mx a bad u a' bad':=by
 cases bad
 ·by_cases h:∃x:Nat,x≤mx∧Vm.enc x<+:bs.drop a
  ·obtain⟨x,h1,h2⟩:=h
   exact⟨x,_,false,.inr (.inr ⟨rfl,rfl,h1,h2,rfl⟩)⟩
  ·exact⟨0,a,true,.inr (.inl ⟨rfl,rfl,rfl,rfl,fun x h1 h2=>h ⟨x,h1,h2⟩⟩)⟩
 ·exact⟨0,a,true,.inl ⟨rfl,rfl,rfl,rfl⟩⟩
theorem alk {bs:List Int}{mx a u a' v a'':Nat}{bad b' b'':Bool}(h:jO bs mx a bad u a' b')(k:jO bs mx a bad v a'' b''):u=v∧a'=a''∧b'=b'':=by
 rcases h with⟨rfl,rfl,rfl,rfl⟩|⟨rfl,rfl,rfl,rfl,h⟩|⟨rfl,rfl,h1,h2,rfl⟩
 ·rcases k with⟨_,rfl,rfl,rfl⟩|⟨k,_⟩|⟨k,_⟩
  ·exact⟨rfl,rfl,rfl⟩
  ·simp at k
  ·simp at k
 ·rcases k with⟨k,_⟩|⟨_,rfl,rfl,rfl,_⟩|⟨_,_,k1,k2,_⟩
  ·simp at k
  ·exact⟨rfl,rfl,rfl⟩
  ·exact absurd k2 (h _ k1)
 ·rcases k with⟨k,_⟩|⟨_,_,_,_,k⟩|⟨_,rfl,k1,k2,rfl⟩
  ·simp at k
  ·exact absurd h2 (k _ h1)
  ·have:=Vm.dG _ _ _ h2 k2
   subst this
   exact⟨rfl,rfl,rfl⟩
theorem fD {bs:List Int}{mx a u a':Nat}{b b':Bool}(h:jO bs mx a b u a' b'):u≤mx:=by
 rcases h with⟨_,_,rfl,_⟩|⟨_,_,rfl,_⟩|⟨_,_,h,_⟩
 ·omega
 ·omega
 ·exact h
theorem dX (B:Nat)(w0 w:World)(vb:Value)(bs:List Int)(a:Nat)(bad:Bool)(most u a':Nat)(bad':Bool)(h:Rst B w0 w vb bs a bad)(hl:bs.length≤100000000000000)(hm:most<9223372036854775808)(hS:jO bs most a bad u a' bad'):
  Calls prog 273 #[.int .i64 most,.pointer (some ⟨B+3,0,none⟩),.pointer (some ⟨B,0,none⟩),.pointer (some ⟨B+2,0,none⟩)] w fun E w'=>E=.returned (.int .i64 u)∧Hid (Rst B w0 w' vb bs a' bad'∧Out (Wr B) w w'):=by
 refine(abr B w0 w vb bs a bad most h hl hm).mono ?_
 rintro E w' ⟨v,a2,b2,rfl,H⟩
 obtain⟨h1,h2,h3⟩:=H.out
 obtain⟨rfl,rfl,rfl⟩:=alk hS h2
 exact⟨rfl,hide ⟨h1,h3⟩⟩
structure bT (base:Nat) (w:World) (m:Mw):Prop where
 s:oK base w m.vs m.ss
 c:bD 35 base w m.vc m.cs
 o:gu base w m.cs
 i:∀c∈m.cs,In64 c.e∧In64 c.n
 ap:qE m.cs
theorem bT.is {base:Nat}{w:World}{m:Mw}(h:bT base w m):ji w m:=⟨h.s.row,h.c.row,fun c hc=>⟨(h.o c hc).is,h.i c hc⟩⟩
theorem bT.no (base:Nat)(w:World):bT base w fZ:=⟨eZ.nil _ _ _ _ _,bD.nil _ _ _,fun c hc=>by simp[fZ]at hc,fun c hc=>by simp[fZ]at hc,fun i j c d _ hc=>by simp[fZ]at hc⟩
theorem bT.bn {base base':Nat}{w:World}{m:Mw}(h:bT base w m)(hb:base'≤base):bT base' w m:=⟨ahr h.s hb,h.c.bn hb,fun c hc=>(h.o c hc).bn hb,h.i,h.ap⟩
theorem bT.below {base:Nat}{w w':World}{m:Mw}(h:bT base w m)(hb:Below w.heap.size w w'):bT base w' m:=⟨vQ h.s hb,h.c.below hb,h.o.below hb,h.i,h.ap⟩
theorem bT.out {base:Nat}{w w':World}{m:Mw}{F:Nat→Prop}(h:bT base w m)(ho:Out F w w')(hF:∀i,F i→i<base):bT base w' m:=by
 have k:∀(v:Value),(∀b,v.ownBlock=some b→base≤b∧b<w.heap.size)→∀b,v.ownBlock=some b→w'.heap[b]? =w.heap[b]? :=fun v hv b hb=>ho.block b (hv b hb).2 fun hf=>by have:=hF b hf;have:=(hv b hb).1;omega
 refine⟨h.s.agree (k _ h.s.lt),dH h.c (k _ (World.ownsRow.lt h.c)),fun c hc=>?_,h.i,h.ap⟩
 exact dH (h.o c hc) (k _ (World.ownsRow.lt (h.o c hc)))
def Rdd (bs:List Int) (m:Mm.Msg) (a:Nat) (bad:Bool):Prop:=(Mm.wm bs (Mm.hd m) m.cs a bad∧(bad=false→Mm.Sh m))∨(¬Mm.Ok m∧Mm.Dc bs Mm.no 5)
theorem ayD {bs:List Int}{m:Mm.Msg}{a:Nat}{bad:Bool}(h:Rdd bs m a bad):((bad=false∧a=bs.length∧Mm.Ok m)∧Mm.Dc bs m 0)∨(¬(bad=false∧a=bs.length∧Mm.Ok m)∧Mm.Dc bs Mm.no 5):=by
 rcases h with⟨h1,h2⟩|⟨h1,h2⟩
 ·exact Mm.awk h1 h2
 ·exact .inr ⟨fun k=>h1 k.2.2,h2⟩
structure bP (B:Nat) (w0 w:World) (vb:Value) (bs:List Int) (a:Nat) (bad:Bool) (m:Mw):Prop where
 r:Rst B w0 w vb bs a bad
 f:Fnb B w
 m:gm w (B+1) m
section
variable {B:Nat} {w0 w w':World} {vb:Value} {bs:List Int} {a a':Nat} {bad bad':Bool} {m:Mw}
theorem bP.lt (h:bP B w0 w vb bs a bad m):B+4<w.heap.size:=ay h.f
theorem bP.below (h:bP B w0 w vb bs a bad m)(hb:Below w.heap.size w w'):bP B w0 w' vb bs a bad m:=⟨h.r.below hb,h.f.below hb,h.m.below hb⟩
theorem bP.step (h:bP B w0 w vb bs a bad m)(hr:Rst B w0 w' vb bs a' bad')(ho:Out (Wr B) w w'):bP B w0 w' vb bs a' bad' m:=
 ⟨hr,h.f.out ho,(ho.block (B+1) h.m.lt (by unfold Wr;omega)).trans h.m⟩
theorem bP.put (h:bP B w0 w vb bs a bad m)(j:Nat)(u:Value)(m':Mw)(hm:(mc m).setIfInBounds j u=mc m'):bP B w0 (w.setCell ⟨B+1,j,none⟩ u) vb bs a bad m':=by
 have hg:=ax w ⟨B+1,j,none⟩ u
 have hl:=h.lt
 refine⟨h.r.other hg (by simp) (by simp) (by simp) (by simp),(hg.block (B+4) (by omega) (by simp)).trans h.f,?_⟩
 unfold gm
 rw[←hm]
 exact aF h.m j u
theorem bP.cf (h:bP B w0 w vb bs a bad m):w.cell? ⟨B+4,0,none⟩=some (.func (.func 273) #[] #[.pointer (some ⟨B+3,0,none⟩),.pointer (some ⟨B,0,none⟩),.pointer (some ⟨B+2,0,none⟩)]):=ai h.f 0 rfl
theorem bP.ca (h:bP B w0 w vb bs a bad m):w.cell? ⟨B+2,0,none⟩=some (.int .i64 a):=ai h.r.at' 0 rfl
theorem bP.ce (h:bP B w0 w vb bs a bad m):w.cell? ⟨B+3,0,none⟩=some (.int .i64 (fK bad)):=ai h.r.er 0 rfl
theorem bP.fm (h:bP B w0 w vb bs a bad m)(j:Nat):w.frozen? ⟨B+1,j,none⟩=false:=aA h.m j
theorem bT.wr (h:bT (B+5) w m)(ho:Out (Wr B) w w'):bT (B+5) w' m:=h.out ho (fun i hi=>by unfold Wr at hi;omega)
theorem bT.set (h:bT (B+5) w m)(j:Nat)(u:Value):bT (B+5) (w.setCell ⟨B+1,j,none⟩ u) m:=h.out (F:=fun i=>i=B+1) (Out.aM (ax w ⟨B+1,j,none⟩ u) (fun i hi=>by simpa using hi.symm)) (fun i hi=>by omega)
end
theorem pJ (w:World)(vb:Value)(bs:List Int)(h:Is .u8 w vb bs):
  ∃w1 w2 w3 w4 w5 w6,w.alloc (.cells #[vb] 61)=w1∧w1.alloc (.cells #[.int .i64 0,.int .i64 0,.int .u8 0,.int .i64 0,.slice none 0 0,.int .i64 0,.int .i64 0,.slice none 0 0] 26)=w2∧w2.alloc (.cells #[.int .i64 0] 3)=w3∧w3.alloc (.cells #[.int .i64 0] 29)=w4∧
   w1.heap.size=w.heap.size+1∧w2.heap.size=w.heap.size+2∧w3.heap.size=w.heap.size+3∧w4.heap.size=w.heap.size+4∧
   w4.alloc (.cells #[.nilFunc] 306)=w5∧w5.cell? ⟨w.heap.size+4,0,none⟩=some .nilFunc∧w5.frozen? ⟨w.heap.size+4,0,none⟩=false∧
   w5.setCell ⟨w.heap.size+4,0,none⟩ (.func (.func 273) #[] #[.pointer (some ⟨w.heap.size+3,0,none⟩),.pointer (some ⟨w.heap.size,0,none⟩),.pointer (some ⟨w.heap.size+2,0,none⟩)])=w6∧bP w.heap.size w w6 vb bs 0 false fZ:=by
 obtain⟨w1,h1,s1,b1,k1⟩:=au w #[vb] 61
 obtain⟨w2,h2,s2,b2,k2⟩:=au w1 #[.int .i64 0,.int .i64 0,.int .u8 0,.int .i64 0,.slice none 0 0,.int .i64 0,.int .i64 0,.slice none 0 0] 26
 obtain⟨w3,h3,s3,b3,k3⟩:=au w2 #[.int .i64 0] 3
 obtain⟨w4,h4,s4,b4,k4⟩:=au w3 #[.int .i64 0] 29
 obtain⟨w5,h5,s5,b5,k5⟩:=au w4 #[.nilFunc] 306
 have s4':w4.heap.size=w.heap.size+4:=by omega
 rw[s4']at k5
 obtain⟨w6,h6,k6,g6,f6⟩:=putAt k5 0 (.func (.func 273) #[] #[.pointer (some ⟨w.heap.size+3,0,none⟩),.pointer (some ⟨w.heap.size,0,none⟩),.pointer (some ⟨w.heap.size+2,0,none⟩)])
 have qx:Below w.heap.size w w6:=aG ((((b1.trans (b2.mono (by omega))).trans (b3.mono (by omega))).trans (b4.mono (by omega))).trans (b5.mono (by omega))) g6 (by omega) (by omega)
 have q:∀i,i<w4.heap.size→w6.heap[i]? =w4.heap[i]? :=fun i hi=>(g6.block i (by omega) (by simp;omega)).trans (b5.block i hi)
 refine⟨w1,w2,w3,w4,w5,w6,h1,h2,h3,h4,s1,by omega,by omega,by omega,h5,ai k5 0 rfl,f6,h6,⟨h,rfl,qx,?_,?_,?_,by omega⟩,k6,?_⟩
 ·exact(q _ (by omega)).trans ((b4.block _ (by omega)).trans ((b3.block _ (by omega)).trans ((b2.block _ (by omega)).trans k1)))
 ·rw[show w.heap.size+2=w2.heap.size by omega]
  exact(q _ (by omega)).trans ((b4.block _ (by omega)).trans k3)
 ·rw[show w.heap.size+3=w3.heap.size by omega]
  exact(q _ (by omega)).trans k4
 ·unfold gm
  rw[show w.heap.size+1=w1.heap.size by omega]
  exact(q _ (by omega)).trans ((b4.block _ (by omega)).trans ((b3.block _ (by omega)).trans k2))
end Go.Proofs.YtlmkaljjocflmaaGreatDoor
namespace Go.Proofs.YtlmkaljjocflmaaGreatDoor
open Go.RowKit Go.ChangeShapes Go.WideShapes Go.Deep
section
variable {H:Type} {enc:TypeId×Value→H} {P:Program} {w:World} {base:Nat} {spare:Nat→Bool} {held:Bool}
theorem aiP {t:TypeId}{f0 f1 f2 f3 f4 f5 f6:Field}{fuel:Nat}{cs:List Value}{x:DataW H×List MemPlace}(ht:P.underlying t=some (.struct #[f0,f1,f2,f3,f4,f5,f6]))(h:DataW.trod enc P w base spare held fuel t cs=some x):
  ∃y0 y1 y2 y3 y4 y5 y6 n,x.1=.agg [y0.1,y1.1,y2.1,y3.1,y4.1,y5.1,y6.1]∧DataW.trod enc P w base spare held n f0.type ((cs.drop f0.offset).take (P.cellsOf f0.type))=some y0∧
   DataW.trod enc P w base spare held n f1.type ((cs.drop f1.offset).take (P.cellsOf f1.type))=some y1∧DataW.trod enc P w base spare held n f2.type ((cs.drop f2.offset).take (P.cellsOf f2.type))=some y2∧
   DataW.trod enc P w base spare held n f3.type ((cs.drop f3.offset).take (P.cellsOf f3.type))=some y3∧DataW.trod enc P w base spare held n f4.type ((cs.drop f4.offset).take (P.cellsOf f4.type))=some y4∧
   DataW.trod enc P w base spare held n f5.type ((cs.drop f5.offset).take (P.cellsOf f5.type))=some y5∧DataW.trod enc P w base spare held n f6.type ((cs.drop f6.offset).take (P.cellsOf f6.type))=some y6:=by
 obtain⟨xs,n,_,rfl,hl,hlen,hf⟩:=DataW.trod_struct ht h
 match xs,hlen with
 |[y0,y1,y2,y3,y4,y5,y6],_=>exact⟨y0,y1,y2,y3,y4,y5,y6,n,by simp,by simpa using hf 0 f0 rfl,by simpa using hf 1 f1 rfl,by simpa using hf 2 f2 rfl,by simpa using hf 3 f3 rfl,by simpa using hf 4 f4 rfl,by simpa using hf 5 f5 rfl,by simpa using hf 6 f6 rfl⟩
structure agC (P:Program) (e o c s y:TypeId) (f0 f1 f2 f3 f4 f5 f6 m0 m1 m2 m3 m4 m5 m6 m7 s0 s1 c0 c1 c2 g0 g1 g2:Field):Prop where
 he:P.underlying e=some (.struct #[f0,f1,f2,f3,f4,f5,f6])
 of:f0.offset=0∧f1.offset=1∧f2.offset=2∧f3.offset=3∧f4.offset=4∧f5.offset=5∧f6.offset=13
 cl:P.cellsOf f0.type=1∧P.cellsOf f1.type=1∧P.cellsOf f2.type=1∧P.cellsOf f3.type=1∧P.cellsOf f4.type=1∧P.cellsOf f5.type=8∧P.cellsOf f6.type=1
 u:P.underlying f0.type=some (.int .i64)∧P.underlying f1.type=some (.int .i64)∧P.underlying f2.type=some (.int .i64)∧P.underlying f3.type=some .string
 ops:P.underlying f4.type=some (.slice o)
 ho:P.underlying o=some (.struct #[g0,g1,g2])
 oo:oneCellFields P #[g0,g1,g2]=true
 co:P.cellsOf o=3
 ou:P.underlying g0.type=some .bool∧P.underlying g1.type=some .string∧P.underlying g2.type=some .string
 me:P.underlying f5.type=some (.struct #[m0,m1,m2,m3,m4,m5,m6,m7])
 mo:oneCellFields P #[m0,m1,m2,m3,m4,m5,m6,m7]=true
 mu:P.underlying m0.type=some (.int .i64)∧P.underlying m1.type=some (.int .i64)∧P.underlying m2.type=some (.int .u8)∧P.underlying m3.type=some (.int .i64)∧P.underlying m4.type=some (.slice s)∧P.underlying m5.type=some (.int .i64)∧P.underlying m6.type=some (.int .i64)∧P.underlying m7.type=some (.slice c)
 hs:P.underlying s=some (.struct #[s0,s1])
 so:oneCellFields P #[s0,s1]=true
 sn:P.cellsOf s=2
 su:P.underlying s0.type=some (.int .i64)∧P.underlying s1.type=some (.int .i64)
 hc:P.underlying c=some (.struct #[c0,c1,c2])
 cc:oneCellFields P #[c0,c1,c2]=true
 cn:P.cellsOf c=3
 cu:P.underlying c0.type=some (.int .i64)∧P.underlying c1.type=some (.int .i64)∧P.underlying c2.type=some (.slice o)
 by8:P.underlying f6.type=some (.slice y)
 hy:P.underlying y=some (.int .u8)
 yn:P.cellsOf y=1
def xG (d:DataW H) (a:iG):Prop:=∃x0 x1 x2 x3 d4 x5 x6,d=.agg [x0,x1,x2,x3,d4,x5,x6]∧agI d4 a.l
variable {e o c s y:TypeId} {f0 f1 f2 f3 f4 f5 f6 m0 m1 m2 m3 m4 m5 m6 m7 s0 s1 c0 c1 c2 g0 g1 g2:Field}
theorem aoU (T:agC P e o c s y f0 f1 f2 f3 f4 f5 f6 m0 m1 m2 m3 m4 m5 m6 m7 s0 s1 c0 c1 c2 g0 g1 g2){fuel:Nat}{cs:List Value}{x:DataW H×List MemPlace}(hl:cs.length=14)(h:DataW.trod enc P w base spare held fuel e cs=some x):
  ∃a:iG,cs=ai9 a∧zo w a∧xG x.1 a:=by
 obtain⟨y0,y1,y2,y3,y4,y5,y6,k,hx,r0,r1,r2,r3,r4,r5,r6⟩:=aiP T.he h
 obtain⟨a0,a1,a2,a3,a4,a5,a6⟩:=T.of
 obtain⟨b0,b1,b2,b3,b4,b5,b6⟩:=T.cl
 match cs,hl with
 |[v0,v1,v2,v3,v4,v5,v6,v7,v8,v9,v10,v11,v12,v13],_=>
  simp[a0,a1,a2,a3,a4,a5,a6,b0,b1,b2,b3,b4,b5,b6]at r0 r1 r2 r3 r4 r5 r6
  obtain⟨z0,hz0,_,w0⟩:=DataW.trod_int T.u.1 r0
  obtain⟨z1,hz1,_,w1⟩:=DataW.trod_int T.u.2.1 r1
  obtain⟨z2,hz2,_,w2⟩:=DataW.trod_int T.u.2.2.1 r2
  obtain⟨z3,hz3,_,_⟩:=DataW.trod_string T.u.2.2.2 r3
  obtain⟨l,hl2,hd2⟩:=aaC T.ops T.ho T.oo T.co T.ou.1 T.ou.2.1 T.ou.2.2 r4
  obtain⟨q0,q1,q2,q3,q4,q5,q6,q7,n5,hm,h0,h1,h2,h3,h4,h5,h6,h7⟩:=agU T.me r5
  obtain⟨o0,k0⟩:=hone_of T.mo 0 m0 rfl
  obtain⟨o1,k1⟩:=hone_of T.mo 1 m1 rfl
  obtain⟨o2,k2⟩:=hone_of T.mo 2 m2 rfl
  obtain⟨o3,k3⟩:=hone_of T.mo 3 m3 rfl
  obtain⟨o4,k4⟩:=hone_of T.mo 4 m4 rfl
  obtain⟨o5,k5⟩:=hone_of T.mo 5 m5 rfl
  obtain⟨o6,k6⟩:=hone_of T.mo 6 m6 rfl
  obtain⟨o7,k7⟩:=hone_of T.mo 7 m7 rfl
  simp[o0,o1,o2,o3,o4,o5,o6,o7,k0,k1,k2,k3,k4,k5,k6,k7]at h0 h1 h2 h3 h4 h5 h6 h7
  obtain⟨u0,u1,u2,u3,u4,u5,u6,u7⟩:=T.mu
  obtain⟨t0,e0,_,_⟩:=DataW.trod_int u0 h0
  obtain⟨t1,e1,_,_⟩:=DataW.trod_int u1 h1
  obtain⟨t2,e2,_,_⟩:=DataW.trod_int u2 h2
  obtain⟨t3,e3,_,_⟩:=DataW.trod_int u3 h3
  obtain⟨ss,hss,_⟩:=aou u4 T.hs T.so T.sn T.su.1 T.su.2 h4
  obtain⟨t5,e5,_,_⟩:=DataW.trod_int u5 h5
  obtain⟨t6,e6,_,_⟩:=DataW.trod_int u6 h6
  obtain⟨rs,hrs,_⟩:=alH u7 T.hc T.cc T.cn T.cu.1 T.cu.2.1 T.cu.2.2 T.ho T.oo T.co T.ou.1 T.ou.2.1 T.ou.2.2 h7
  obtain⟨bs,hbs⟩:=amL T.by8 T.hy T.yn r6
  simp at hz0 hz1 hz2 hz3 e0 e1 e2 e3 e5 e6
  subst hz0 hz1 hz2 hz3 e0 e1 e2 e3 e5 e6
  exact⟨⟨z0,z1,z2,z3,v4,l,⟨t0,t1,t2,t3,v9,ss,t5,t6,v12,rs⟩,v13,bs⟩,rfl,⟨hl2,⟨hss,hrs⟩,hbs,agt w0,agt w1,agt w2⟩,y0.1,y1.1,y2.1,y3.1,y4.1,y5.1,y6.1,hx,hd2⟩
theorem aqv (T:agC P e o c s y f0 f1 f2 f3 f4 f5 f6 m0 m1 m2 m3 m4 m5 m6 m7 s0 s1 c0 c1 c2 g0 g1 g2){t:TypeId}{fuel:Nat}{v:Value}{x:DataW H×List MemPlace}(ht:P.underlying t=some (.slice e))(ce:P.cellsOf e=14)
  (h:DataW.trod enc P w base spare held fuel t [v]=some x):∃r:List iG,l9 w v r∧((x.1=.nil∧r=[])∨∃ds sp,x.1=.slice ds sp∧ds.length=r.length∧∀(i:Nat) (a:iG),r[i]? =some a→∃d,ds[i]? =some d∧xG d a):=by
 rcases open_slice ht h with⟨hv,hx⟩|⟨a,len,cap,m,n,D,Pl,hv,hb,hl,hm,hmm,rfl,hx⟩
 ·simp at hv
  subst hv hx
  exact⟨[],⟨fP.nil _ _,fun a ha=>by simp at ha⟩,.inl ⟨rfl,rfl⟩⟩
 ·simp at hv
  subst hv
  have hlm:len≤m:=by rw[hmm];split<;>omega
  have each:∀i,i<len→∃c:iG,(∀m u,(ai9 c)[m]? =some u→w.cell? (a.add (i*14+m))=some u)∧zo w c∧xG (D i) c:=by
   intro i hi
   obtain⟨cs',h1,h2⟩:=hx i (by omega)
   rw[ce]at h1
   obtain⟨_,hlen,hcell⟩:=World.cells?_some h1
   obtain⟨b,rfl,hok,hd⟩:=aoU T hlen h2
   refine⟨b,fun m u hu=>?_,hok,hd⟩
   have hm6:m<14:=(List.getElem?_eq_some_iff.1 hu).1
   have hc':=hcell m (by omega)
   rw[Go.Deep.add_add]at hc'
   rw[hc']
   exact hu
  have:Inhabited iG:=⟨⟨0,0,0,⟨#[]⟩,.slice none 0 0,[],fZ,.slice none 0 0,[]⟩⟩
  obtain⟨f,hf⟩:=choose_lt each
  refine⟨(List.range len).map f,⟨.inr ⟨a,cap,by simp,by simpa using hl,hm,fun j u hj=>?_⟩,fun c hc=>?_⟩,.inr ⟨(List.range len).map D,(List.range (m-len)).map fun j=>D (len+j),rfl,by simp,fun i c hic=>?_⟩⟩
  ·obtain⟨i,c,m',hic,rfl,hu⟩:=mi afs (by decide) _ j u hj
   obtain⟨hi,e⟩:=List.getElem?_eq_some_iff.1 hic
   simp at hi e
   subst e
   exact(hf i hi).1 m' u hu
  ·obtain⟨i,hi,rfl⟩:=List.mem_map.1 hc
   exact(hf i (by simpa using hi)).2.1
  ·obtain⟨hi,e⟩:=List.getElem?_eq_some_iff.1 hic
   simp at hi e
   subst e
   exact⟨D i,by simp[hi],(hf i hi).2.2⟩
theorem ayp {x0 x1 x2 x3 x5 x6 d:DataW H}{n:Nat}(hu:P.underlying e=some (.struct #[f0,f1,f2,f3,f4,f5,f6]))(hn:n∈d.weights P f4.type):n∈(DataW.agg [x0,x1,x2,x3,d,x5,x6]).weights P e:=by
 simp only[DataW.weights,hu]
 simp[DataW.weightsEach,hn]
theorem asZ (T:agC P e o c s y f0 f1 f2 f3 f4 f5 f6 m0 m1 m2 m3 m4 m5 m6 m7 s0 s1 c0 c1 c2 g0 g1 g2)(hbo:P.bytesOf o=40){d:DataW H}{a:iG}(h:∀n∈d.weights P e,n≤reachBytes)(hd:xG d a):dZ a.l∧a.l.length*40≤140737488351232:=by
 obtain⟨x0,x1,x2,x3,d4,x5,x6,rfl,h4⟩:=hd
 exact auu (fun n hn=>h n (ayp T.he hn)) h4 T.ops T.ho hbo
theorem al8 (T:agC P e o c s y f0 f1 f2 f3 f4 f5 f6 m0 m1 m2 m3 m4 m5 m6 m7 s0 s1 c0 c1 c2 g0 g1 g2)(hbo:P.bytesOf o=40)(hbe:P.bytesOf e=184){ts:List TypeId}{ds:List (DataW H)}(h:(DataW.weightsEach P ts ds).all (·≤reachBytes)=true){j:Nat}{t:TypeId}{r:List iG}{es sp:List (DataW H)}(ht:ts[j]? =some t)(hd:ds[j]? =some (.slice es sp))(hlen:es.length=r.length)(hr:∀(i:Nat) (a:iG),r[i]? =some a→∃d,es[i]? =some d∧xG d a)
  (hu:P.underlying t=some (.slice e)):afw r∧r.length*184≤140737488351232:=by
 have hall:=List.all_eq_true.1 h
 refine⟨fun a ha=>?_,?_⟩
 ·obtain⟨i,hi⟩:=List.getElem?_of_mem ha
  obtain⟨d,hd1,hd2⟩:=hr i a hi
  exact asZ T hbo (fun n hn=>of_decide_eq_true (hall n (DataW.weights_mem_each ht hd n (by
   simp only[DataW.weights,hu]
   exact List.mem_cons_of_mem _ (List.mem_append_left _ (nI (List.mem_of_getElem? hd1) hn)))))) hd2
 ·have:=sized_slice h ht hd hu
  rw[hbe]at this
  simp only[reachBytes]at this
  omega
end
end Go.Proofs.YtlmkaljjocflmaaGreatDoor
