/- Texts of one layer, one behind the other. -/
import Derived.Test.YtlmkaljjocflmaaGreatDoorAM4
import Derived.Test.YtlmkaljjocflmaaGreatDoorAH12
import Derived.Test.YtlmkaljjocflmaaGreatDoorAH16
import Derived.Test.YtlmkaljjocflmaaGreatDoorAH25
import Derived.Test.YtlmkaljjocflmaaGreatDoorAH24
import Derived.Test.YtlmkaljjocflmaaGreatDoorAH2
import Derived.Test.YtlmkaljjocflmaaGreatDoorAH5
import Derived.Test.YtlmkaljjocflmaaGreatDoorAH3
set_option maxRecDepth 100000
set_option maxHeartbeats 8000000
namespace Go.Proofs.YtlmkaljjocflmaaGreatDoor
set_option linter.unusedVariables false
def T3 (d:Dm.Ds):Prop:=Rst.hf 3 d=[]
theorem apV {d d':Dm.Ds}(h:T3 d)(e:Rst.hf 3 d'=Rst.hf 3 d):T3 d':=e.trans h
theorem aai:T3 Dm.new:=rfl
theorem akK (f j:Nat)(hj:f≠j):∀(n:Nat) (st:Dm.Ds) (bs:List Int),Rst.hf j (Dm.wrt f n st bs).2=Rst.hf j st
 |0,st,bs=>rfl
 |n+1,st,bs=>by
  unfold Dm.wrt
  split
  ·rfl
  split
  ·rfl
  rw[akK f j hj n,Rst.aaV,if_neg hj]
theorem afJ (d:Dm.Ds)(f:Int)(bs:List Int)(j:Nat)(hj:f.toNat≠j):Rst.hf j (Dm.write d f bs).2=Rst.hf j d:=by
 unfold Dm.write
 split
 ·rfl
 split
 ·rfl
 exact akK _ _ hj _ _ _
theorem xz (d:Dm.Ds)(j:Nat):Rst.hf j (Dm.sync d).2=Rst.hf j d:=by
 unfold Dm.sync
 split
 ·rfl
 split
 ·rfl
 show Dm.hold j (Dm.dof d.sure d.wait j) []=_
 rw[←Dm.gJ]
 rfl
theorem aqV (d:Dm.Ds)(f:Nat)(bs:List Int)(j:Nat)(hj:f≠j):Rst.hf j (Rst.ext d f bs).2=Rst.hf j d:=by
 have h1:=afJ d f bs j (by simpa using hj)
 unfold Rst.ext
 split
 ·exact h1
 split
 ·exact(xz _ j).trans h1
 ·exact(xz _ j).trans h1
theorem ajl (j:Nat)(hj:0≠j):∀(cs:List Cm.Cv) (d:Dm.Ds),Rst.hf j (Rst.wrs d cs).2=Rst.hf j d
 |[],d=>rfl
 |c::cs,d=>by
  have h1:=afJ d 0 (Wl.fr c) j (by simpa using hj)
  unfold Rst.wrs
  split
  ·exact h1
  ·exact(ajl j hj cs _).trans h1
theorem atZ (d:Dm.Ds)(cs:List Cm.Cv)(j:Nat)(hj:0≠j):Rst.hf j (Rst.eD d cs).2=Rst.hf j d:=by
 have h1:=ajl j hj cs d
 unfold Rst.eD
 split
 ·exact h1
 split
 ·exact(xz _ j).trans h1
 ·exact(xz _ j).trans h1
def Rz (n:Nat) (s:Rst.St):Prop:=Big (60000*n) (1000*n) s.d∧s.l.length≤2*n∧T3 s.d
theorem Rz.mono {n m:Nat}{s:Rst.St}(h:Rz n s)(hm:n≤m):Rz m s:=⟨h.1.mono (by omega) (by omega),by have:=h.2.1;omega,h.2.2⟩
theorem anN {t u:Nat}{d:Dm.Ds}{bs:List Int}(f:Nat)(h:Big t u d)(hl:bs.length≤1000):Big (t+1000) (u+17) (Rst.ext d f bs).2:=by
 have hc:cnt bs.length≤16:=by unfold cnt;omega
 have h1:=qH h f bs
 have h2:=aeV h1
 unfold Rst.ext
 split
 ·exact h1.mono (by omega) (by omega)
 ·split
  ·exact h2.mono (by omega) (by omega)
  ·exact h2.mono (by omega) (by omega)
theorem aud {n:Nat}{s:Rst.St}(h:Rz n s)(q:Pm.Pg):Rz (n+1) (Rst.bB s q).2:=by
 have hm:Rz (n+1) s:=h.mono (by omega)
 unfold Rst.bB
 split
 ·exact hm
 split
 ·exact hm
 rename_i hc
 split
 ·exact hm
 have hq:Pm.Ok q:=Pm.mD.1 (by simpa using hc)
 have hl:(Fm.dB (Pm.enc q)).length≤1000:=by
  have h1:=Pm.abx hq
  have h2:Vm.sz (Pm.enc q).length≤1:=Vm.pX 0 _ (by omega)
  rw[Fm.lh]
  omega
 have hb:=anN 1 h.1 hl
 have ht:=apV h.2.2 (aqV s.d 1 (Fm.dB (Pm.enc q)) 3 (by omega))
 split
 ·exact⟨hb.mono (by omega) (by omega),by have:=h.2.1;show s.l.length≤_;omega,ht⟩
 ·exact⟨hb.mono (by omega) (by omega),by have:=h.2.1;show s.l.length≤_;omega,ht⟩
theorem aga:∀(cs:List Cm.Cv) {t u:Nat} {d:Dm.Ds},Big t u d→(∀c∈cs,Cm.chk c.e c.n c.l=0)→Big (t+433*cs.length) (u+7*cs.length) (Rst.wrs d cs).2
 |[],t,u,d,h,_=>h.mono (by omega) (by omega)
 |c::cs,t,u,d,h,hc=>by
  have hf:=Wl.mi (c:=c) (hc c List.mem_cons_self)
  have hn:cnt (Wl.fr c).length≤7:=by unfold cnt;omega
  have h1:=qH h 0 (Wl.fr c)
  have h2:=aga cs h1 fun x hx=>hc x (List.mem_cons_of_mem _ hx)
  unfold Rst.wrs
  split
  ·exact h1.mono (by rw[List.length_cons];omega) (by rw[List.length_cons];omega)
  ·exact h2.mono (by rw[List.length_cons];omega) (by rw[List.length_cons];omega)
theorem asD {n:Nat}{s:Rst.St}(h:Rz n s)(cs:List Cm.Cv)(hl:cs.length≤2):Rz (n+1) (Rst.add s cs).2:=by
 have hm:Rz (n+1) s:=h.mono (by omega)
 unfold Rst.add
 split
 ·exact hm
 split
 ·exact hm
 rename_i hc
 split
 ·exact hm
 split
 ·exact hm
 have hg:Cm.Good (Cm.lastE 0 s.l) s.l.length cs:=(Cm.gH _ _ _ 0).1 (by simpa using hc)
 have h1:=aga cs h.1 fun c hcc=>(Sto.iJ hg c hcc).1
 have h2:=aeV h1
 have hb:Big (60000*n+433*cs.length) (1000*n+7*cs.length+1) (Rst.eD s.d cs).2:=by
  unfold Rst.eD
  split
  ·exact h1.mono (by omega) (by omega)
  ·split
   ·exact h2
   ·exact h2
 have ht:=apV h.2.2 (atZ s.d cs 3 (by omega))
 split
 ·exact⟨hb.mono (by omega) (by omega),by have:=h.2.1;show s.l.length≤_;omega,ht⟩
 ·refine⟨hb.mono (by omega) (by omega),?_,ht⟩
  have:=h.2.1
  show(s.l++cs).length≤_
  rw[List.length_append]
  omega
end Go.Proofs.YtlmkaljjocflmaaGreatDoor
namespace Go.Proofs.YtlmkaljjocflmaaGreatDoor
open Go.RowKit
set_option linter.unusedVariables false
theorem awq {z:Int}(h:In64 z):(Lit.int .i64 z).wf=true:=by
 unfold In64 at h
 simp[Lit.wf,IntKind.min,IntKind.max,IntKind.bits,IntKind.signed]
 omega
theorem kU (zs:List Int)(n:Nat)(cs:Array Value)(g:Nat)(vb:Value)(bs:List Int)(w W:World)(hW:w.alloc (.cells cs 3)=W)(hn:zs.length=n)(hcs:cs.toList=zs.map (Value.int .i64))(h0:0<n)(hz:∀z∈zs,0≤z∧z<9223372036854775808)(hb:Buf g w vb bs)(hl:bs.length+10*n≤100000000000000):
  Calls Tryz.prog 154 #[.slice (some ⟨w.heap.size,0,none⟩) n n,.pointer (some ⟨g,0,none⟩)] W fun E w'=>E=.returned (.tuple #[])∧∃vb',BS g w vb w' vb' (bs++Pm.encs zs):=by
 obtain⟨W',hW',sz,aK,own⟩:=jQ .i64 3 w cs n zs hn hcs (by unfold maxLen;omega) (fun z hzz=>awq ⟨by have:=hz z hzz;omega,by have:=hz z hzz;omega⟩)
 rw[hW]at hW'
 subst hW'
 refine(aq3 _ zs g vb bs W own.is (by omega) (fun z hzz=>(hz z hzz).1) (hb.below aK) ?_ (by rw[hn];exact hl)).mono ?_
 ·intro b he
  simp[Value.ownBlock]at he
  have:=hb.lt
  refine⟨by omega,fun e=>?_⟩
  have:=(hb.own.2.lt b e).2
  omega
 ·rintro E w' ⟨rfl,vb',h⟩
  exact⟨rfl,vb',(BS.of_below hb aK).trans h⟩
theorem agF {l:List Sm.S}{k:Nat}{s:Sm.S}(h:l[k]? =some s):Mm.fl (l.take (k+1))=Mm.fl (l.take k)++[s.1,s.2]:=by
 rw[List.take_add_one,h,Mm.uL]
 rfl
theorem an5 {l:List Cm.Cv}{k:Nat}{c:Cm.Cv}(h:l[k]? =some c):Fm.cat ((l.take (k+1)).map Mm.cb)=Fm.cat ((l.take k).map Mm.cb)++Fm.dB (Mm.cb c):=by
 rw[List.take_add_one,h,List.map_append]
 exact Mm.mh _ _
theorem jc {l:List Int}(h:∀z∈l,z≤1048576):(Pm.encs l).length≤10*l.length:=(Pm.sS (fun z hz=>by have:=h z hz;omega)).1
theorem aoB {l:List Sm.S}{k:Nat}(h:∀z∈Mm.fl l,0≤z∧z≤1048576):(Pm.encs (Mm.fl (l.take k))).length≤20*l.length:=by
 have h1:∀z∈Mm.fl (l.take k),z≤1048576:=fun z hz=>(h z (by
  have:Mm.fl l=Mm.fl (l.take k)++Mm.fl (l.drop k):=by rw[←Mm.uL,List.take_append_drop]
  rw[this]
  exact List.mem_append_left _ hz)).2
 have h2:=jc h1
 rw[Mm.qY]at h2
 have:(l.take k).length≤l.length:=List.length_take_le' _ _
 omega
theorem asP {l:List Sm.S}{k:Nat}{s:Sm.S}(h:l[k]? =some s)(hb:∀z∈Mm.fl l,0≤z∧z≤1048576):(0≤s.1∧s.1≤1048576)∧(0≤s.2∧s.2≤1048576):=by
 have:∀z∈Mm.fl (l.take (k+1)),0≤z∧z≤1048576:=fun z hz=>hb z (by
  have:Mm.fl l=Mm.fl (l.take (k+1))++Mm.fl (l.drop (k+1)):=by rw[←Mm.uL,List.take_append_drop]
  rw[this]
  exact List.mem_append_left _ hz)
 rw[agF h]at this
 exact⟨this s.1 (by simp),this s.2 (by simp)⟩
theorem alD {c:Cm.Cv}(h:Cm.chk c.e c.n c.l=0):(Fm.dB (Mm.cb c)).length≤440:=by
 have h1:(Mm.cb c).length≤430:=Cm.nY h
 have h2:=Fm.bJ (n:=(Mm.cb c).length) (by omega)
 rw[Fm.lh]
 omega
theorem wJ:∀{l:List Cm.Cv},(∀c∈l,Cm.chk c.e c.n c.l=0)→(Fm.cat (l.map Mm.cb)).length≤440*l.length
 |[],_=>by simp[Fm.cat]
 |c::r,h=>by
  have h1:=wJ (l:=r) (fun d hd=>h d (by simp[hd]))
  have h2:=alD (h c (by simp))
  simp only[List.map_cons,Fm.cat,List.length_append,List.length_cons]
  omega
theorem arq (m:Mw)(w:World)(hi:iY w m)(hf:bQ m)(hok:Mm.Ok m.m)(hk:m.k=3):
  Calls Tryz.prog 75 #[mv m] w fun E w'=>∃vb,E=.returned vb∧Own .u8 5 w.heap.size w' vb (Mm.enc m.m)∧Below w.heap.size w w':=by
 obtain⟨hbd,_,_,_,_,_,hk1,hk2,hk3⟩:=Mm.fU hok
 have e1:1≤m.e:=hok.1
 have e2:m.e≤1048576:=hok.2.1
 obtain⟨ao,cap,hvs,_,_⟩:=hi.s.shape
 obtain⟨mU,cap2,dD,_,_⟩:=hi.c.1.shape
 rw[iL hvs dD]
 obtain⟨w1,hw1,aT,ak,hA⟩:=xC w m hvs dD
 obtain⟨w2,hw2,dm,az,hB⟩:=au w1 #[.slice none 0 0] 61
 rw[aT]at hB
 have A2:Hid (fw w2 w.heap.size m):=hide (hA.below az)
 have B2:Hid (Buf (w.heap.size+1) w2 (.slice none 0 0) []):=hide ⟨hB,Own.nil _ _ _ _⟩
 have aO:Below w.heap.size w w2:=ak.trans (az.mono (by omega))
 have HE:Hid (∀W,fw W w.heap.size m→Ei W w.heap.size (.int .i64 m.k) (.int .i64 m.e) (.int .u8 m.r) (.int .i64 m.n) (.slice ao m.ss.length cap) (.int .i64 m.f) (.int .i64 m.p) (.slice mU m.cs.length cap2)):=hide fun W k=>k.lT hvs dD
 obtain⟨c0,c1,c2,c3,c4,c5,c6,c7⟩:=HE.out _ A2.out
 have HI:=hide hi
 have xX:=hide hok
 have HBD:=hide hbd
 have jF:=hide hvs
 have jG:=hide dD
 obtain⟨w3,hw3,bJ,aC,_⟩:=au w2 #[.int .i64 m.k,.int .i64 m.e] 3
 have C3:=hide (kU [m.k,m.e] 2 #[.int .i64 m.k,.int .i64 m.e] (w.heap.size+1) _ [] w2 w3 hw3 rfl rfl (by omega) (by intro z hz;simp at hz;omega) B2.out (by simp))
 have kW:∀(fn:Fn) (first cap:Array Value) (w:World),(Instr.makeFunc fn first cap).run Tryz.prog w=.ok (.func fn first cap) w:=fun _ _ _ _=>rfl
 have HK:=hide hk
 have hq1:(m.k==1)=false:=by simp;omega
 have hq2:(m.k==2)=false:=by simp;omega
 have hq3:(m.k==3)=true:=by simp[hk]
 rw[dm,aT]at C3
 clear hi hok hbd hvs dD hA hB ak az aC hk
 go_enter Tryz.func75,Tryz.ntmps75
 go_wp2_with fail
 refine C3.out.mono ?_
 rintro E w4 ⟨rfl,v4,qj⟩
 have B4:=hide qj.buf
 have kF:Below (w.heap.size+1) w2 w4:=qj.below B2.out
 have iE:=qj.out.size
 have A4:=hide (A2.out.under kF (by omega))
 clear c0 c1 c2 c3 c4 c5 c6 c7 qj hw1 hw2 hw3 C3
 obtain⟨c0,c1,c2,c3,c4,c5,c6,c7⟩:=HE.out _ A4.out
 obtain⟨w5,gM,lU,aQ,_⟩:=au w4 #[.int .i64 m.n] 3
 have hn:0≤m.n∧m.n≤1048576:=HBD.out m.n (by rw[Mm.qN (show m.m.k=3 from HK.out)];simp[Mw.m])
 have C5:=hide (kU [m.n] 1 #[.int .i64 m.n] (w.heap.size+1) _ _ w4 w5 gM rfl rfl (by omega) (by intro z hz;simp at hz;omega) B4.out (by have:=jc (l:=[m.k,m.e]) (by intro z hz;simp at hz;have:=HK.out;omega);simp at this⊢;omega))
 go_wp2_with fail
 refine C5.out.mono ?_
 rintro E w6 ⟨rfl,v6,uE⟩
 have B6:=hide uE.buf
 have lD:Below (w.heap.size+1) w4 w6:=uE.below B4.out
 have wQ:Below w.heap.size w w6:=(aO.trans ((kF.trans lD).mono (by omega)))
 have eY:=uE.buf.own.bz (base':=w.heap.size) (by omega)
 have hres:[]++Pm.encs [m.k,m.e]++Pm.encs [m.n]=Mm.enc m.m:=by
  unfold Mm.enc
  rw[Mm.qN (show m.m.k=3 from HK.out)]
  have:m.m.cs=[]:=by
   rcases xX.out.2.2 with⟨k,_⟩|⟨k,_⟩|⟨_,h⟩
   ·have:=HK.out;have:m.k=1:=k;omega
   ·have:=HK.out;have:m.k=2:=k;omega
   ·exact h.2.2.2.2.2.2
  rw[this]
  simp[Pm.encs,Fm.cat,Mw.m]
 rw[hres]at eY
 have cb:w6.cell? ⟨w.heap.size+1,0,none⟩=some v6:=ai B6.out.box 0 rfl
 obtain⟨a6,l6,n6,hv6⟩:=eY.is.form
 subst hv6
 clear hres uE C5 c0 c1 c2 c3 c4 c5 c6 c7 gM
 go_wp2
 go_ret
 exact⟨_,rfl,eY,wQ⟩
theorem ark (m:Mw)(w:World)(hi:iY w m)(hf:bQ m)(hok:Mm.Ok m.m)(hk:m.k=1):
  Calls Tryz.prog 75 #[mv m] w fun E w'=>∃vb,E=.returned vb∧Own .u8 5 w.heap.size w' vb (Mm.enc m.m)∧Below w.heap.size w w':=by
 obtain⟨hbd,_,_,_,_,_,hk1,hk2,hk3⟩:=Mm.fU hok
 have e1:1≤m.e:=hok.1
 have e2:m.e≤1048576:=hok.2.1
 obtain⟨ao,cap,hvs,_,_⟩:=hi.s.shape
 obtain⟨mU,cap2,dD,_,_⟩:=hi.c.1.shape
 rw[iL hvs dD]
 obtain⟨w1,hw1,aT,ak,hA⟩:=xC w m hvs dD
 obtain⟨w2,hw2,dm,az,hB⟩:=au w1 #[.slice none 0 0] 61
 rw[aT]at hB
 have A2:Hid (fw w2 w.heap.size m):=hide (hA.below az)
 have B2:Hid (Buf (w.heap.size+1) w2 (.slice none 0 0) []):=hide ⟨hB,Own.nil _ _ _ _⟩
 have aO:Below w.heap.size w w2:=ak.trans (az.mono (by omega))
 have HE:Hid (∀W,fw W w.heap.size m→Ei W w.heap.size (.int .i64 m.k) (.int .i64 m.e) (.int .u8 m.r) (.int .i64 m.n) (.slice ao m.ss.length cap) (.int .i64 m.f) (.int .i64 m.p) (.slice mU m.cs.length cap2)):=hide fun W k=>k.lT hvs dD
 obtain⟨c0,c1,c2,c3,c4,c5,c6,c7⟩:=HE.out _ A2.out
 have HI:=hide hi
 have xX:=hide hok
 have HBD:=hide hbd
 have jF:=hide hvs
 have jG:=hide dD
 obtain⟨w3,hw3,bJ,aC,_⟩:=au w2 #[.int .i64 m.k,.int .i64 m.e] 3
 have C3:=hide (kU [m.k,m.e] 2 #[.int .i64 m.k,.int .i64 m.e] (w.heap.size+1) _ [] w2 w3 hw3 rfl rfl (by omega) (by intro z hz;simp at hz;omega) B2.out (by simp))
 have kW:∀(fn:Fn) (first cap:Array Value) (w:World),(Instr.makeFunc fn first cap).run Tryz.prog w=.ok (.func fn first cap) w:=fun _ _ _ _=>rfl
 have HK:=hide hk
 have hq1:(m.k==1)=true:=by simp[hk]
 rw[dm,aT]at C3
 clear hi hok hbd hvs dD hA hB ak az aC hk
 go_enter Tryz.func75,Tryz.ntmps75
 go_wp2_with fail
 refine C3.out.mono ?_
 rintro E w4 ⟨rfl,v4,qj⟩
 have B4:=hide qj.buf
 have kF:Below (w.heap.size+1) w2 w4:=qj.below B2.out
 have iE:=qj.out.size
 have A4:=hide (A2.out.under kF (by omega))
 clear c0 c1 c2 c3 c4 c5 c6 c7 qj hw1 hw2 hw3 C3
 obtain⟨c0,c1,c2,c3,c4,c5,c6,c7⟩:=HE.out _ A4.out
 obtain⟨w5,gM,lU,aQ,_⟩:=au w4 #[.int .i64 m.r,.int .i64 m.n,.int .i64 m.ss.length] 3
 have hd1:=Mm.oK (show m.m.k=1 from HK.out)
 have hn:0≤m.n∧m.n≤1048576:=HBD.out m.n (by rw[hd1];simp[Mw.m])
 have hr:0≤m.r∧m.r≤1048576:=HBD.out m.r (by rw[hd1];simp[Mw.m])
 have hs:(0:Int)≤m.ss.length∧(m.ss.length:Int)≤1048576:=HBD.out m.ss.length (by rw[hd1];simp[Mw.m])
 have hr3:m.r≤3:=(hk1 HK.out).2.2.1
 have hss:∀z∈Mm.fl m.ss,0≤z∧z≤1048576:=fun z hz=>HBD.out z (by rw[hd1];exact List.mem_append_right _ hz)
 have HSS:=hide hss
 have hl4:=jc (l:=[m.k,m.e]) (by intro z hz;simp at hz;have:=HK.out;omega)
 have hl5:=jc (l:=[m.r,m.n,(m.ss.length:Int)]) (by intro z hz;simp at hz;omega)
 simp only[List.length_cons,List.length_nil]at hl4 hl5
 have HL4:=hide hl4
 have HL5:=hide hl5
 have C5:=hide (kU [m.r,m.n,(m.ss.length:Int)] 3 #[.int .i64 m.r,.int .i64 m.n,.int .i64 m.ss.length] (w.heap.size+1) _ _ w4 w5 gM rfl rfl (by omega) (by intro z hz;simp at hz;omega) B4.out (by rw[List.nil_append];omega))
 have hwr:IntKind.i64.wrap m.r=m.r:=aS _ (by omega) (by omega)
 obtain⟨P0,hP0⟩:∃l,[]++Pm.encs [m.k,m.e]++Pm.encs [m.r,m.n,(m.ss.length:Int)]=l:=⟨_,rfl⟩
 rw[hP0]at C5
 have HP0:=hide hP0
 have hPl:P0.length≤50:=by rw[←hP0,List.nil_append,List.length_append];omega
 clear hd1 hss hk1 hk2 hk3 hl4 hl5 hP0
 go_wp2_with fail
 refine C5.out.mono ?_
 rintro E w6 ⟨rfl,v6,uE⟩
 have B6:=hide uE.buf
 have lD:Below (w.heap.size+1) w4 w6:=uE.below B4.out
 have jy:=kF.trans lD
 have uo:=jy.size
 have A6:=hide (A2.out.under jy (by omega))
 have RW:Hid (0<m.ss.length→∃b o c,(.slice ao m.ss.length cap:Value)=.slice (some ⟨b,o,none⟩) m.ss.length c∧b<w.heap.size∧∀(i:Nat) (s:Sm.S),m.ss[i]? =some s→w.cell? ⟨b,o+i*2,none⟩=some (.int .i64 s.1)∧w.cell? ⟨b,o+i*2+1,none⟩=some (.int .i64 s.2)):=hide fun h=>by
  obtain⟨b,o,c,h1,_,_,h2,h3⟩:=ni HI.out.s h
  exact⟨b,o,c,by rw[←jF.out];exact h1,h2,h3⟩
 clear c0 c1 c2 c3 c4 c5 c6 c7 uE gM C5 lD B4 A4
 obtain⟨c0,c1,c2,c3,c4,c5,c6,c7⟩:=HE.out _ A6.out
 have HT0:Hid (Buf (w.heap.size+1) w6 v6 (P0++Pm.encs (Mm.fl (m.ss.take 0)))):=hide (by simpa[Mm.fl,Pm.encs]using B6.out)
 generalize hn':m.ss.length=n at*
 have HN:=hide hn'
 clear hn'
 go_wp2
 go_loopw [37] (fun i wr=>∃(k:Nat) (v:Value),k≤n∧i=.int .i64 k∧Below (w.heap.size+1) w2 wr∧Hid (Buf (w.heap.size+1) wr v (P0++Pm.encs (Mm.fl (m.ss.take k))))) (fun i _=>n-(intOf i).toNat)
 case atStart=>exact⟨0,v6,by omega,rfl,jy,HT0⟩
 case round=>
  obtain⟨k,v,hk,rfl,aK,HT⟩:=hrel
  have sz:=aK.size
  have jN:Below w.heap.size w wr:=aO.trans (aK.mono (by omega))
  by_cases hlt:k<n
  ·obtain⟨b1,o1,x1,hv1,hB1,hc1⟩:=RW.out (by omega)
   simp only[Value.slice.injEq,true_and]at hv1
   obtain⟨rfl,rfl⟩:=hv1
   obtain⟨s,hs'⟩:=lM (l:=m.ss) (k:=k) (by have:=HN.out;omega)
   obtain⟨f0,f1⟩:=hc1 k s hs'
   have d0:=(jN.cell (p:=⟨b1,o1+k*2,none⟩) hB1).trans f0
   have d1:=(jN.cell (p:=⟨b1,o1+k*2+1,none⟩) hB1).trans f1
   obtain⟨hb1,hb2⟩:=asP hs' HSS.out
   have hlt':(k:Int)<n:=by omega
   obtain⟨V,hV,hV2,jE,aX,_,y0,y1⟩:=wR wr 119 (.int .i64 0) (.int .i64 0) (.int .i64 s.1) (.int .i64 s.2)
   have BV:=HT.out.below aX
   obtain⟨U,hU,szU,yG,_⟩:=au V #[.int .i64 s.1,.int .i64 s.2] 3
   have hfb:=aoB (k:=k) HSS.out
   rw[HN.out]at hfb
   have CU:=hide (kU [s.1,s.2] 2 #[.int .i64 s.1,.int .i64 s.2] (w.heap.size+1) _ _ V U hU rfl rfl (by omega) (by intro z hz;simp at hz;omega) BV (by rw[List.length_append];omega))
   have HBV:=hide BV
   have HF:=hide (agF hs')
   have zL:Below (w.heap.size+1) w2 V:=aK.trans (aX.mono (by omega))
   rw[jE]at CU
   clear hs' f0 f1 hc1 hfb BV yG aX szU
   go_wp2_with fail
   refine CU.out.mono ?_
   rintro E w7 ⟨rfl,v7,bs7⟩
   have gT:Below (w.heap.size+1) w2 w7:=zL.trans (bs7.below HBV.out)
   have HT7:Hid (Buf (w.heap.size+1) w7 v7 (P0++Pm.encs (Mm.fl (m.ss.take (k+1))))):=hide (by
    have:=bs7.buf
    rw[HF.out,Pm.iI,←List.append_assoc]
    exact this)
   clear bs7 CU HBV zL
   go_wp2
   go_roundw
   case rel=>exact⟨k+1,v7,by omega,by go_num,gT,HT7⟩
   case measure=>simp[intOf];omega
  ·have hlt':¬(k:Int)<n:=by omega
   have own:=HT.out.own.bz (base':=w.heap.size) (by omega)
   rw[List.take_of_length_le (by rw[HN.out];omega)]at own
   have hres:P0++Pm.encs (Mm.fl m.ss)=Mm.enc m.m:=by
    unfold Mm.enc
    rw[Mm.oK (show m.m.k=1 from HK.out)]
    have:m.m.cs=[]:=by
     rcases xX.out.2.2 with⟨_,h⟩|⟨k,_⟩|⟨k,_⟩
     ·exact h.2.2.2.2.2.2
     ·have:=HK.out;have:m.k=2:=k;omega
     ·have:=HK.out;have:m.k=3:=k;omega
    rw[this,←HP0.out,←HN.out]
    simp[Pm.encs,Fm.cat,Mw.m]
   rw[hres]at own
   have cb:wr.cell? ⟨w.heap.size+1,0,none⟩=some v:=ai HT.out.box 0 rfl
   obtain⟨a6,l6,n6,hv6⟩:=own.is.form
   subst hv6
   clear hres HT
   go_wp2
   go_ret
   exact⟨_,rfl,own,jN⟩
theorem aqQ (m:Mw)(w:World)(hi:iY w m)(hf:bQ m)(hok:Mm.Ok m.m)(hk:m.k=2):
  Calls Tryz.prog 75 #[mv m] w fun E w'=>∃vb,E=.returned vb∧Own .u8 5 w.heap.size w' vb (Mm.enc m.m)∧Below w.heap.size w w':=by
 obtain⟨hbd,_,_,_,_,_,hk1,hk2,hk3⟩:=Mm.fU hok
 have e1:1≤m.e:=hok.1
 have e2:m.e≤1048576:=hok.2.1
 obtain⟨ao,cap,hvs,_,_⟩:=hi.s.shape
 obtain⟨mU,cap2,dD,_,_⟩:=hi.c.1.shape
 rw[iL hvs dD]
 obtain⟨w1,hw1,aT,ak,hA⟩:=xC w m hvs dD
 obtain⟨w2,hw2,dm,az,hB⟩:=au w1 #[.slice none 0 0] 61
 rw[aT]at hB
 have A2:Hid (fw w2 w.heap.size m):=hide (hA.below az)
 have B2:Hid (Buf (w.heap.size+1) w2 (.slice none 0 0) []):=hide ⟨hB,Own.nil _ _ _ _⟩
 have aO:Below w.heap.size w w2:=ak.trans (az.mono (by omega))
 have HE:Hid (∀W,fw W w.heap.size m→Ei W w.heap.size (.int .i64 m.k) (.int .i64 m.e) (.int .u8 m.r) (.int .i64 m.n) (.slice ao m.ss.length cap) (.int .i64 m.f) (.int .i64 m.p) (.slice mU m.cs.length cap2)):=hide fun W k=>k.lT hvs dD
 obtain⟨c0,c1,c2,c3,c4,c5,c6,c7⟩:=HE.out _ A2.out
 have HI:=hide hi
 have xX:=hide hok
 have HBD:=hide hbd
 have jF:=hide hvs
 have jG:=hide dD
 obtain⟨w3,hw3,bJ,aC,_⟩:=au w2 #[.int .i64 m.k,.int .i64 m.e] 3
 have C3:=hide (kU [m.k,m.e] 2 #[.int .i64 m.k,.int .i64 m.e] (w.heap.size+1) _ [] w2 w3 hw3 rfl rfl (by omega) (by intro z hz;simp at hz;omega) B2.out (by simp))
 have kW:∀(fn:Fn) (first cap:Array Value) (w:World),(Instr.makeFunc fn first cap).run Tryz.prog w=.ok (.func fn first cap) w:=fun _ _ _ _=>rfl
 have HK:=hide hk
 have hq1:(m.k==1)=false:=by simp;omega
 have hq2:(m.k==2)=true:=by simp[hk]
 rw[dm,aT]at C3
 clear hi hok hbd hvs dD hA hB ak az aC hk
 go_enter Tryz.func75,Tryz.ntmps75
 go_wp2_with fail
 refine C3.out.mono ?_
 rintro E w4 ⟨rfl,v4,qj⟩
 have B4:=hide qj.buf
 have kF:Below (w.heap.size+1) w2 w4:=qj.below B2.out
 have iE:=qj.out.size
 have A4:=hide (A2.out.under kF (by omega))
 clear c0 c1 c2 c3 c4 c5 c6 c7 qj hw1 hw2 hw3 C3
 obtain⟨c0,c1,c2,c3,c4,c5,c6,c7⟩:=HE.out _ A4.out
 obtain⟨w5,gM,lU,aQ,_⟩:=au w4 #[.int .i64 m.f,.int .i64 m.p,.int .i64 m.cs.length] 3
 have hd2:=Mm.pE (show m.m.k=2 from HK.out)
 have hcl:m.m.cs.length=m.cs.length:=dE _
 have hff:0≤m.f∧m.f≤1048576:=HBD.out m.f (by rw[hd2];simp[Mw.m])
 have hpp:0≤m.p∧m.p≤1048576:=HBD.out m.p (by rw[hd2];simp[Mw.m])
 have hs:m.cs.length≤4:=by have:=(hk2 HK.out).2.2.2.2;omega
 have hcc:=Mm.xA xX.out
 have nR:Hid (∀c∈aH m.cs,Cm.chk c.e c.n c.l=0):=hide hcc
 have hl4:=jc (l:=[m.k,m.e]) (by intro z hz;simp at hz;have:=HK.out;omega)
 have hl5:=jc (l:=[m.f,m.p,(m.cs.length:Int)]) (by intro z hz;simp at hz;omega)
 simp only[List.length_cons,List.length_nil]at hl4 hl5
 have C5:=hide (kU [m.f,m.p,(m.cs.length:Int)] 3 #[.int .i64 m.f,.int .i64 m.p,.int .i64 m.cs.length] (w.heap.size+1) _ _ w4 w5 gM rfl rfl (by omega) (by intro z hz;simp at hz;omega) B4.out (by rw[List.nil_append];omega))
 obtain⟨P0,hP0⟩:∃l,[]++Pm.encs [m.k,m.e]++Pm.encs [m.f,m.p,(m.cs.length:Int)]=l:=⟨_,rfl⟩
 rw[hP0]at C5
 have HP0:=hide hP0
 have hPl:P0.length≤50:=by rw[←hP0,List.nil_append,List.length_append];omega
 have HF:=hide hf.fc
 clear hd2 hcc hk1 hk2 hk3 hl4 hl5 hP0 hf hcl
 go_wp2_with fail
 refine C5.out.mono ?_
 rintro E w6 ⟨rfl,v6,uE⟩
 have B6:=hide uE.buf
 have lD:Below (w.heap.size+1) w4 w6:=uE.below B4.out
 have jy:=kF.trans lD
 have uo:=jy.size
 have A6:=hide (A2.out.under jy (by omega))
 have RW:Hid (0<m.cs.length→∃b1 o1 c1,(.slice mU m.cs.length cap2:Value)=.slice (some ⟨b1,o1,none⟩) m.cs.length c1∧b1<w.heap.size∧∀i c,m.cs[i]? =some c→w.cell? ⟨b1,o1+i*3,none⟩=some (.int .i64 c.e)∧w.cell? ⟨b1,o1+i*3+1,none⟩=some (.int .i64 c.n)∧w.cell? ⟨b1,o1+i*3+2,none⟩=some c.v):=hide (by rw[←jG.out];exact ja HI.out.c)
 clear c0 c1 c2 c3 c4 c5 c6 c7 uE gM C5 lD B4 A4
 obtain⟨c0,c1,c2,c3,c4,c5,c6,c7⟩:=HE.out _ A6.out
 have HT0:Hid (Buf (w.heap.size+1) w6 v6 (P0++Fm.cat (((aH m.cs).take 0).map Mm.cb))):=hide (by simpa[Fm.cat]using B6.out)
 generalize hn':m.cs.length=n at*
 have HN:=hide hn'
 clear hn'
 go_wp2
 go_loopw [64] (fun i wr=>∃(k:Nat) (v:Value),k≤n∧i=.int .i64 k∧Below (w.heap.size+1) w2 wr∧Hid (Buf (w.heap.size+1) wr v (P0++Fm.cat (((aH m.cs).take k).map Mm.cb)))) (fun i _=>n-(intOf i).toNat)
 case atStart=>exact⟨0,v6,by omega,rfl,jy,HT0⟩
 case round=>
  obtain⟨k,v,hk,rfl,aK,HT⟩:=hrel
  have sz:=aK.size
  have jN:Below w.heap.size w wr:=aO.trans (aK.mono (by omega))
  by_cases hlt:k<n
  ·obtain⟨b1,o1,x1,hv1,hB1,hc1⟩:=RW.out (by omega)
   simp only[Value.slice.injEq,true_and]at hv1
   obtain⟨rfl,rfl⟩:=hv1
   obtain⟨s,hs'⟩:=lM (l:=m.cs) (k:=k) (by have:=HN.out;omega)
   have hmem:=List.mem_of_getElem? hs'
   obtain⟨d0,d1,d2⟩:=zY hc1 jN hB1 hs'
   have hcg:(aH m.cs)[k]? =some s.c:=by rw[oF,hs'];rfl
   have hck:Cm.chk s.e s.n s.l=0:=nR.out s.c (List.mem_of_getElem? hcg)
   have hlt':(k:Int)<n:=by omega
   have io:=(HI.out.c.2 s hmem).1.below jN
   obtain⟨hfo,hlo⟩:=HF.out s hmem
   obtain⟨ga,ea,arM,_,_⟩:=io.shape
   obtain⟨V,hV,hV2,jE,aX,_,y0,y1,y2⟩:=gG wr 35 (.int .i64 0) (.int .i64 0) (.slice none 0 0) (.int .i64 s.e) (.int .i64 s.n) s.v
   have HBV:=hide (HT.out.below aX)
   have CU:=hide (afF s.e s.n s.v s.l V (io.below aX) hfo (by omega))
   rw[hck,Cm.jS hck]at CU
   unfold dF at CU
   rw[arM]at d2 hV hV2 y2 CU
   have zL:Below (w.heap.size+1) w2 V:=aK.trans (aX.mono (by omega))
   have hcs:(Fm.cat (((aH m.cs).take k).map Mm.cb)).length≤2000:=by
    have h1:=wJ (l:=(aH m.cs).take k) (fun c hc=>nR.out c (List.mem_of_mem_take hc))
    have h2:((aH m.cs).take k).length≤(aH m.cs).length:=List.length_take_le' _ _
    rw[dE,HN.out]at h2
    omega
   have hel:(Cm.dW s.e s.n s.l).length≤430:=Cm.nY hck
   have HF2:=hide (an5 hcg)
   have hcb:Mm.cb s.c=Cm.dW s.e s.n s.l:=rfl
   rw[hcb]at HF2
   generalize Cm.dW s.e s.n s.l=whole at*
   generalize hQ:Fm.cat (((aH m.cs).take k).map Mm.cb)=Q at*
   have HQ:=hide hQ
   clear hs' hmem hc1 aX arM hck hcb io hcg hQ
   go_wp2_with fail
   refine CU.out.mono ?_
   rintro E w7 ⟨vw,rfl,jw,gT⟩
   have sz7:=gT.size
   have B7:=hide (HBV.out.below gT)
   have xw:Below (w.heap.size+1) w2 w7:=zL.trans (gT.mono (by omega))
   obtain⟨aw,cw,hvw,_,_⟩:=jw.is.shape
   obtain⟨U,hU,szU,yG,_⟩:=au w7 #[.int .i64 whole.length] 3
   have C8:=hide (kU [(whole.length:Int)] 1 #[.int .i64 whole.length] (w.heap.size+1) _ _ w7 U hU rfl rfl (by omega) (by intro z hz;simp at hz;omega) B7.out (by rw[List.length_append];omega))
   have hwb:Hid (∀b,vw.ownBlock=some b→b≠w.heap.size+1∧v.ownBlock≠some b∧b<w7.heap.size):=hide fun b hb=>by
    have h1:=jw.2.lt b hb
    have h2:=HBV.out.lt
    refine⟨by omega,fun e=>?_,h1.2⟩
    have:=(HBV.out.own.2.lt b e).2
    omega
   have O7:=hide jw
   subst hvw
   clear CU jw y0 y1 y2 d0 d1 d2 hV hV2 gT yG HBV zL
   go_wp2_with fail
   refine C8.out.mono ?_
   rintro E w9 ⟨rfl,v9,bs9⟩
   have B9:=hide bs9.buf
   have xq:Below (w.heap.size+1) w2 w9:=xw.trans (bs9.below B7.out)
   have I9:Is .u8 w9 (.slice aw whole.length cw) whole:=O7.out.is.agree fun b hb=>by
    obtain⟨h1,h2,h3⟩:=hwb.out b hb
    exact bs9.stays h3 h1 h2
   have c9:w9.cell? ⟨w.heap.size+1,0,none⟩=some v9:=ai B9.out.box 0 rfl
   have g9:=B9.out.lt
   have hsz:=Vm.kQ (x:=whole.length) (by omega)
   unfold Vm.sz at hsz
   have X9:Hid (∀ty,∃v' w',(Builtin.append_ #[61,61] ty #[v9,.slice aw whole.length cw]).run Tryz.prog w9=.ok v' w'∧Hid (Own .u8 5 (w.heap.size+1+1) w' v' (P0++Q++Pm.encs [(whole.length:Int)]++whole)∧w9.grownBy w' v9.ownBlock∧(v'.ownBlock=v9.ownBlock∨v'.ownBlock=some w9.heap.size))):=hide fun ty=>by
    obtain⟨v',w',hr,hx⟩:=ig (P:=Tryz.prog) (w:=w9) 61 ty .u8 5 (w.heap.size+1+1) 1 Tryz.underlying61 Tryz.info5 (by decide) v9 _ B9.out.own _ whole I9 (by simp[Pm.encs];omega) (by omega)
    exact⟨v',w',hr,hide hx⟩
   clear bs9 C8 hU hwb O7 B7 I9
   go_wp2_with (at_builtin;refine kL rfl (.tmp 78) (.tmp 79) 61 rfl _ _ rfl rfl X9.out ?_)
   intro v10 w10 H10
   obtain⟨zD,as3,auI⟩:=H10.out
   have zD:Own .u8 5 (w.heap.size+1+1) w10 v10 (P0++Q++Pm.encs [(whole.length:Int)]++whole):=by rw[List.append_assoc,List.append_assoc];exact zD
   obtain⟨hbs,cb10,fr10⟩:=ajp B9.out (Below.refl _ _) zD as3 auI
   have asT:Below (w.heap.size+1) w2 (w10.setCell ⟨w.heap.size+1,0,none⟩ v10):=xq.trans (hbs.below B9.out)
   have awf:Hid (Buf (w.heap.size+1) (w10.setCell ⟨w.heap.size+1,0,none⟩ v10) v10 (P0++Fm.cat (((aH m.cs).take (k+1)).map Mm.cb))):=hide (by
    have:=hbs.buf
    rw[HF2.out]
    have e:P0++(Q++Fm.dB whole)=P0++Q++Pm.encs [(whole.length:Int)]++whole:=by simp[Pm.encs,Fm.dB]
    rw[e]
    exact this)
   obtain⟨a10,l10,n10,awz⟩:=zD.is.form
   subst awz
   clear hbs zD as3 auI X9 B9 xw xq H10
   go_wp2
   go_roundw
   case rel=>exact⟨k+1,_,by omega,by go_num,asT,awf⟩
   case measure=>simp[intOf];omega
  ·have hlt':¬(k:Int)<n:=by omega
   have own:=HT.out.own.bz (base':=w.heap.size) (by omega)
   rw[List.take_of_length_le (by rw[dE,HN.out];omega)]at own
   have hres:P0++Fm.cat ((aH m.cs).map Mm.cb)=Mm.enc m.m:=by
    unfold Mm.enc
    rw[Mm.pE (show m.m.k=2 from HK.out),←HP0.out,←HN.out]
    simp[Pm.encs,Mw.m,dE]
   rw[hres]at own
   have cb:wr.cell? ⟨w.heap.size+1,0,none⟩=some v:=ai HT.out.box 0 rfl
   obtain⟨a6,l6,n6,hv6⟩:=own.is.form
   subst hv6
   clear hres HT
   go_wp2
   go_ret
   exact⟨_,rfl,own,jN⟩
theorem aoI (m:Mw)(w:World)(hi:iY w m)(hf:bQ m)(hok:Mm.Ok m.m):
  Calls Tryz.prog 75 #[mv m] w fun E w'=>∃vb,E=.returned vb∧Own .u8 5 w.heap.size w' vb (Mm.enc m.m)∧Below w.heap.size w w':=by
 rcases hok.2.2 with⟨k,_⟩|⟨k,_⟩|⟨k,_⟩
 ·exact ark m w hi hf hok k
 ·exact aqQ m w hi hf hok k
 ·exact arq m w hi hf hok k
def arX (m:Mm.Msg) (bs:List Int) (c:Int):Prop:=(c=0∧Mm.Ok m∧bs=Mm.enc m)∨(c=2∧¬Mm.Ok m∧bs=[])
theorem arz {m:Mm.Msg}{bs:List Int}{c:Int}(h:arX m bs c):Mm.Ck m c:=by
 rcases h with⟨rfl,h,_⟩|⟨rfl,h,_⟩
 ·exact .inl ⟨rfl,h⟩
 ·exact .inr ⟨rfl,h⟩
theorem af6 (m:Mw)(bs:List Int)(c:Int)(w:World)(hi:iY w m)(hf:bQ m)(hr:arX m.m bs c):
  Calls Tryz.prog 30 #[mv m] w fun E w'=>∃vb,E=.returned (.tuple #[vb,.int .i64 c])∧Own .u8 5 w.heap.size w' vb bs∧Below w.heap.size w w':=by
 have HR:=hide hr
 unfold mv
 obtain⟨w1,hw1,aT,ak,hA⟩:=yM w m
 have A1:=hide hA
 obtain⟨c0,c1,c2,c3,c4,c5,c6,c7⟩:=hA.ei
 clear hA hr
 go_enter Tryz.func30,Tryz.ntmps30
 go_wp2_with fail
 refine(tK m c w1 (hi.below ak) hf (arz HR.out)).mono ?_
 rintro E w2 ⟨rfl,az⟩
 have dm:=az.size
 have aO:=ak.trans (az.mono (by omega))
 clear c0 c1 c2 c3 c4 c5 c6 c7 hw1
 rcases HR.out with⟨hc,hok,hbs⟩|⟨hc,hok,hbs⟩
 ·subst hc
  have qp:=hide hbs
  clear hbs
  obtain⟨c0,c1,c2,c3,c4,c5,c6,c7⟩:=(A1.out.below az).ei
  go_wp2_with fail
  refine(aoI m w2 (hi.below aO) hf hok).mono ?_
  rintro E w3 ⟨vb,rfl,bG,aC⟩
  have aW:=aO.trans (aC.mono (by omega))
  rw[←qp.out]at bG
  have avT:=bG.bz (base':=w.heap.size) (by omega)
  clear bG
  go_wp2
  refine bodyPost_ret (v:=.tuple #[vb,.int .i64 0]) (by simp[results,Tryz.results30,go_sem]) rfl ?_
  exact⟨_,rfl,avT,aW⟩
 ·subst hc hbs
  clear hok
  go_wp2
  refine bodyPost_ret (v:=.tuple #[.slice none 0 0,.int .i64 2]) (by simp[results,Tryz.results30,go_sem]) rfl ?_
  exact⟨_,rfl,Own.nil _ _ _ _,aO⟩
def eT (bad:Bool):Int:=if bad then 5 else 0
structure Rst (B:Nat) (w0 w:World) (vb:Value) (bs:List Int) (a:Nat) (bad:Bool):Prop where
 xQ:Is .u8 w0 vb bs
 hB:w0.heap.size=B
 aK:Below B w0 w
 bx:w.heap[B]? =some (.cells #[vb] 61 (0,0))
 at':w.heap[B+2]? =some (.cells #[.int .i64 a] 3 (0,0))
 er:w.heap[B+3]? =some (.cells #[.int .i64 (eT bad)] 29 (0,0))
 le:a≤bs.length
section
variable {B:Nat} {w0 w w':World} {vb:Value} {bs:List Int} {a:Nat} {bad:Bool}
theorem Rst.is (h:Rst B w0 w vb bs a bad):Is .u8 w vb bs:=by
 have:=h.aK
 rw[←h.hB]at this
 exact h.xQ.below this
theorem Rst.lt (h:Rst B w0 w vb bs a bad):B+3<w.heap.size:=aA h.er
theorem Rst.below (h:Rst B w0 w vb bs a bad)(hb:Below w.heap.size w w'):Rst B w0 w' vb bs a bad:=by
 have:=h.lt
 exact⟨h.xQ,h.hB,h.aK.trans (hb.mono (by omega)),(hb.block B (by omega)).trans h.bx,(hb.block (B+2) (by omega)).trans h.at',(hb.block (B+3) (by omega)).trans h.er,h.le⟩
theorem Rst.other (h:Rst B w0 w vb bs a bad){g:Nat}(hg:w.grownBy w' (some g))(h1:B≤g)(h2:g≠B)(h3:g≠B+2)(h4:g≠B+3):Rst B w0 w' vb bs a bad:=by
 have:=h.lt
 exact⟨h.xQ,h.hB,aF h.aK hg h1 (by omega),(hg.block B (by omega) (by simp;omega)).trans h.bx,(hg.block (B+2) (by omega) (by simp;omega)).trans h.at',(hg.block (B+3) (by omega) (by simp;omega)).trans h.er,h.le⟩
theorem Rst.aow (h:Rst B w0 w vb bs a bad)(bad':Bool):Rst B w0 (w.setCell ⟨B+3,0,none⟩ (.int .i64 (eT bad'))) vb bs a bad':=by
 have hl:=h.lt
 have hg:=ax w ⟨B+3,0,none⟩ (.int .i64 (eT bad'))
 exact⟨h.xQ,h.hB,aF h.aK hg (by simp) (by omega),(hg.block B (by omega) (by simp)).trans h.bx,(hg.block (B+2) (by omega) (by simp)).trans h.at',aG h.er 0 _,h.le⟩
theorem Rst.an6 (h:Rst B w0 w vb bs a bad)(a':Nat)(ha:a'≤bs.length):Rst B w0 (w.setCell ⟨B+2,0,none⟩ (.int .i64 a')) vb bs a' bad:=by
 have hl:=h.lt
 have hg:=ax w ⟨B+2,0,none⟩ (.int .i64 a')
 exact⟨h.xQ,h.hB,aF h.aK hg (by simp) (by omega),(hg.block B (by omega) (by simp)).trans h.bx,aG h.at' 0 _,(hg.block (B+3) (by omega) (by simp)).trans h.er,ha⟩
end
def Wr (B:Nat):Nat→Prop:=fun i=>i=B+2∨i=B+3
theorem aiR (B:Nat)(w:World)(u:Value):Out (Wr B) w (w.setCell ⟨B+3,0,none⟩ u):=Out.aP (ax w ⟨B+3,0,none⟩ u) (fun i hi=>.inr (by simpa using hi.symm))
theorem ahF (B:Nat)(w:World)(u:Value):Out (Wr B) w (w.setCell ⟨B+2,0,none⟩ u):=Out.aP (ax w ⟨B+2,0,none⟩ u) (fun i hi=>.inl (by simpa using hi.symm))
theorem mo {B:Nat}{w w1 w2:World}(h:Out (Wr B) w w1)(k:Out (Wr B) w1 w2):Out (Wr B) w w2:=h.trans k (fun i hi=>.inl hi)
theorem aar (B:Nat)(w0 w:World)(vb:Value)(bs:List Int)(a:Nat)(bad:Bool)(most:Nat)(h:Rst B w0 w vb bs a bad)(hl:bs.length≤100000000000000)(hm:most<9223372036854775808):
  Calls Tryz.prog 273 #[.int .i64 most,.pointer (some ⟨B+3,0,none⟩),.pointer (some ⟨B,0,none⟩),.pointer (some ⟨B+2,0,none⟩)] w fun E w'=>∃(u a':Nat) (bad':Bool),E=.returned (.int .i64 u)∧Hid (Rst B w0 w' vb bs a' bad'∧jB bs most a bad u a' bad'∧Out (Wr B) w w'):=by
 have ha:=h.le
 have HH:=hide h
 cases bad
 ·have cb:w.cell? ⟨B,0,none⟩=some vb:=ai h.bx 0 rfl
  have ca:w.cell? ⟨B+2,0,none⟩=some (.int .i64 a):=ai h.at' 0 rfl
  have ce:w.cell? ⟨B+3,0,none⟩=some (.int .i64 0):=ai h.er 0 rfl
  obtain⟨vs,hsl,gy⟩:=h.is.iN Tryz.aiN Tryz.aia a ha
  have hsl:=hsl w
  obtain⟨u,i,e,hS⟩:=rA (bs.drop a) most
  have hdl:(bs.drop a).length=bs.length-a:=by rw[List.length_drop]
  have fe:=aB h.er 0
  rcases hS with⟨hR,h1,h2,he⟩|⟨hu,hi,he,x,n,f,hR,hcase⟩
  ·have hbd:=Vm.kg hR
   obtain⟨un,rfl⟩:∃un:Nat,u=un:=⟨u.toNat,by omega⟩
   obtain⟨n,rfl⟩:∃n:Nat,i=n:=⟨i.toNat,by omega⟩
   have hG:jB bs most a false un (a+n) false:=by
    rcases hR with⟨x,hx,hp,h3,h4,_⟩|⟨_,_,_,h5⟩
    ·have:x=un:=by omega
     subst this
     exact .inr (.inr ⟨rfl,rfl,by omega,hp,by omega⟩)
    ·simp at h5
   have C:=hide (kS vs (bs.drop a) most un n 0 w gy (by omega) (by omega) (by omega) (.inl ⟨hR,h1,h2,rfl⟩))
   have HG:=hide hG
   have hn1:a+n≤bs.length:=by omega
   have hn2:n≤10:=by omega
   have hsame:w.setCell ⟨B+3,0,none⟩ (.int .i64 0)=w:=aM h.er (j:=0) rfl
   have fa:=aB h.at' 0
   clear hG hR hbd h he h1 h2 gy
   go_enter Tryz.func273,Tryz.ntmps273
   go_wp2_with fail
   refine C.out.mono ?_
   rintro E w1 ⟨rfl,rfl⟩
   go_wp2
   go_ret
   exact⟨un,a+n,false,rfl,hide ⟨HH.out.an6 (a+n) hn1,HG.out,ahF _ _ _⟩⟩
  ·have hG:jB bs most a false 0 a true:=by
    refine .inr (.inl ⟨rfl,rfl,rfl,rfl,fun y hy hp=>?_⟩)
    have:=Vm.pM hR (u:=y) (by omega) hp
    omega
   have C:=hide (kS vs (bs.drop a) most 0 0 5 w gy (by omega) (by omega) (by omega) (.inr ⟨rfl,rfl,rfl,x,n,f,hR,hcase⟩))
   have HG:=hide hG
   obtain⟨V,hV⟩:∃V,w.setCell ⟨B+3,0,none⟩ (.int .i64 5)=V:=⟨_,rfl⟩
   have RV:Hid (Rst B w0 V vb bs a true):=hide (by rw[←hV];exact h.aow true)
   have OV:Hid (Out (Wr B) w V):=hide (by rw[←hV];exact aiR _ _ _)
   have ca2:V.cell? ⟨B+2,0,none⟩=some (.int .i64 a):=ai RV.out.at' 0 rfl
   have fa2:=aB RV.out.at' 0
   have hsame:V.setCell ⟨B+2,0,none⟩ (.int .i64 a)=V:=aM RV.out.at' (j:=0) rfl
   clear hG hR h he hcase hu hi gy
   go_enter Tryz.func273,Tryz.ntmps273
   go_wp2_with fail
   refine C.out.mono ?_
   rintro E w1 ⟨rfl,rfl⟩
   go_wp2
   go_ret
   exact⟨0,a,true,rfl,hide ⟨RV.out,HG.out,OV.out⟩⟩
 ·have ce:w.cell? ⟨B+3,0,none⟩=some (.int .i64 5):=ai h.er 0 rfl
  clear h
  go_enter Tryz.func273,Tryz.ntmps273
  go_wp2
  go_ret
  exact⟨0,a,true,rfl,hide ⟨HH.out,.inl ⟨rfl,rfl,rfl,rfl⟩,Out.refl _ _⟩⟩
end Go.Proofs.YtlmkaljjocflmaaGreatDoor
