/- Texts of one layer, one behind the other. -/
import Derived.Test.YtpifdeoepppadaaGreatDoorH9
import Derived.Test.YtpifdeoepppadaaGreatDoorH14
import Derived.Test.YtpifdeoepppadaaGreatDoorH3
import Derived.Test.YtpifdeoepppadaaGreatDoorH11
import Derived.Test.YtpifdeoepppadaaGreatDoorH17
import Derived.Test.YtpifdeoepppadaaGreatDoorG4
import Derived.Test.YtpifdeoepppadaaGreatDoorH18
set_option maxRecDepth 100000
set_option maxHeartbeats 8000000
namespace Go.Proofs.YtpifdeoepppadaaGreatDoor
open Go.RowKit
set_option linter.unusedVariables false
theorem ajW (n:Int)(w:World):Calls Tryz.prog 40 #[.int .i64 n] w fun E w'=>E=.returned (.int .i64 (uT n))∧Below w.heap.size w w':=by
 have FI:=hide (aez n w)
 unfold vp at FI
 go_enter Tryz.func40,Tryz.ntmps40
 go_wp2_with fail
 refine FI.out.mono ?_
 rintro E w1 ⟨rfl,b1⟩
 clear FI
 obtain⟨V,hV,hV',sV,bV,PV,⟨z0,z1,z2,z3,z4,z5⟩⟩:=aba w1 41 (.int .i64 0) (.int .u8 0) (.int .i64 0) (.int .u8 0) (.int .i64 0) (.int .i64 0) (.int .i64 (fst n).e) (.int .u8 (fst n).r) (.int .i64 (fst n).a) (.int .u8 (fst n).p) (.int .i64 (fst n).f) (.int .i64 (fst n).b)
 have BV:=hide (b1.trans (bV.mono b1.size))
 clear b1 bV PV sV
 go_wp2
 all_goals
  go_ret
  exact⟨rfl,BV.out⟩
theorem yl (g:Nat)(n:Int)(w:World)(hg:w.cell? ⟨g,0,none⟩=some (.int .i64 n)):Calls Tryz.prog 39 #[.pointer (some ⟨g,0,none⟩)] w fun E w'=>E=.returned (.int .i64 (uT n))∧Below w.heap.size w w':=by
 have FI:=hide (ajW n w)
 go_enter Tryz.func39,Tryz.ntmps39
 go_wp2_with fail
 refine FI.out.mono ?_
 rintro E w1 ⟨rfl,b1⟩
 have B:=hide b1
 clear FI b1
 go_wp2
 go_ret
 exact⟨rfl,B.out⟩
theorem anT (w:World):Calls Tryz.prog 117 #[.pointer none] w fun E w'=>E=.returned (.bool false)∧w=w':=by
 go_enter Tryz.func117,Tryz.ntmps117
 go_wp2
 go_ret
 exact⟨rfl,rfl⟩
theorem ap0 (w:World):Calls Tryz.prog 108 #[.pointer none] w fun E w'=>E=.returned (.int .i64 0)∧w=w':=by
 have HM:=hide (anT w)
 go_enter Tryz.func108,Tryz.ntmps108
 go_wp2_with fail
 refine HM.out.mono ?_
 rintro E w1 ⟨rfl,rfl⟩
 clear HM
 go_wp2
 go_ret
 exact⟨rfl,rfl⟩
theorem aiU {V:World}{P q:Nat}{off:Bool}{x:Pm.Pg}{vw vr vs:Value}{en:Int}(hP:V.heap[P]? =some (.cells (fw q off x vw en vr vs) 60 (0,0)))(vw':Value)(en':Int):
  ∃V1 V2,V.setCell ⟨P,8,none⟩ vw'=V1∧V1.setCell ⟨P,9,none⟩ (.int .i64 en')=V2∧V1.heap[P]? =some (.cells (fw q off x vw' en vr vs) 60 (0,0))∧V2.heap[P]? =some (.cells (fw q off x vw' en' vr vs) 60 (0,0))∧Out (fun g=>g=P) V V1∧Out (fun g=>g=P) V1 V2:=by
 have q1:(V.setCell ⟨P,8,none⟩ vw').heap[P]? =some (.cells (fw q off x vw' en vr vs) 60 (0,0)):=aL hP 8 vw'
 exact⟨_,_,rfl,rfl,q1,aL q1 9 (.int .i64 en'),Out.aT (aC V ⟨P,8,none⟩ vw') fun i hi=>by simpa using hi.symm,Out.aT (aC _ ⟨P,9,none⟩ (.int .i64 en')) fun i hi=>by simpa using hi.symm⟩
theorem aiT {V:World}{P q:Nat}{off:Bool}{x:Pm.Pg}{vw vr vs:Value}{en:Int}(hP:V.heap[P]? =some (.cells (fw q off x vw en vr vs) 60 (0,0)))(vr':Value):
  ∃V1,V.setCell ⟨P,11,none⟩ vr'=V1∧V1.heap[P]? =some (.cells (fw q off x vw en vr' vs) 60 (0,0))∧Out (fun g=>g=P) V V1:=
 ⟨_,rfl,aL hP 11 vr',Out.aT (aC V ⟨P,11,none⟩ vr') fun i hi=>by simpa using hi.symm⟩
theorem aaw (P q:Nat)(F:Nat→Prop)(w:World)(st:Dm.Ds)(x:Pm.Pg)(vr vs:Value)(h:Pk q F w st)(hs:Big 100000000 800000 st)(hb:w.heap[P]? =some (.cells (fw q false x (.pointer none) 0 vr vs) 60 (0,0)))(hP:¬F P):
  Calls Tryz.prog 41 #[.pointer (some ⟨P,0,none⟩)] w fun E w'=>∃l,E=.returned (.int .i64 (gP st l))∧Hid (Wl.Lg 0 0 (Wl.hld st) l)∧(∃F',Pk q F' w' (fV st l)∧Out (fun g=>F g∨g=P) w w'∧∀g,F' g→F g∨w.heap.size≤g)∧(gP st l=0→∃pw Gw,Wk pw q Gw w' l false∧(∀g,Gw g→w.heap.size≤g)∧w'.heap[P]? =some (.cells (fw q false x (.pointer (some ⟨pw,0,none⟩)) l.length vr vs) 60 (0,0))):=by
 have hpl:=aA hb
 have c0:w.cell? ⟨P,0,none⟩=some (.pointer (some ⟨q,0,none⟩)):=ai hb 0 rfl
 have WO:=hide (ad9 q F w st h hs)
 have HB:=hide hb
 clear h hs hb
 go_enter Tryz.func41,Tryz.ntmps41
 go_wp2_with fail
 refine WO.out.mono ?_
 rintro E w1 ⟨l,HL,⟨F',k1,k2,k3⟩,hE⟩
 clear WO
 have hb1:=(k2.block P hpl hP).trans HB.out
 have f8:=az hb1 8
 have a8:w1.cell? ⟨P,8,none⟩=some (.pointer none):=ai hb1 8 rfl
 have hnP:¬F' P:=fun e=>(k3 P e).elim hP fun e=>by omega
 have pk:∀W,Out (fun g=>g=P) w1 W→Pk q F' W (fV st l):=fun W o=>k1.agree fun g hg=>o.block g (k1.lt g hg) fun e=>hnP (e▸hg)
 have ow:Out (fun g=>F g∨g=P) w w1:=k2.mono fun g hg=>.inl (.inl hg)
 rcases hE with⟨he,rfl⟩|⟨he,pw,Gw,rfl,hW,hG⟩
 ·obtain⟨V1,V2,hV1,hV2,p1,p2,o1,o2⟩:=aiU hb1 (.pointer none) 0
  have d8:V1.cell? ⟨P,8,none⟩=some (.pointer none):=ai p1 8 rfl
  have d9:V1.cell? ⟨P,9,none⟩=some (.int .i64 0):=ai p1 9 rfl
  have f9:=az p1 9
  have HN:=hide (ap0 V1)
  have R:Hid (∃F',Pk q F' V2 (fV st l)∧Out (fun g=>F g∨g=P) w V2∧∀g,F' g→F g∨w.heap.size≤g):=hide ⟨F',pk V2 (o1.trans o2 fun g hg=>.inl hg),(ow.trans o1 fun g hg=>.inl (.inr hg)).trans o2 fun g hg=>.inl (.inr hg),k3⟩
  have HE:=hide he
  clear k1 k2 k3 hb1 pk ow p1 p2 o1 o2 hnP he HB hP
  go_wp2_with fail
  refine HN.out.mono ?_
  rintro E w2 ⟨rfl,rfl⟩
  clear HN
  go_wp2
  go_ret
  exact⟨l,rfl,HL,R.out,fun e=>absurd e HE.out⟩
 ·obtain⟨V1,V2,hV1,hV2,p1,p2,o1,o2⟩:=aiU hb1 (.pointer (some ⟨pw,0,none⟩)) l.length
  have d8:V1.cell? ⟨P,8,none⟩=some (.pointer (some ⟨pw,0,none⟩)):=ai p1 8 rfl
  have d9:V1.cell? ⟨P,9,none⟩=some (.int .i64 0):=ai p1 9 rfl
  have f9:=az p1 9
  have nG:∀g,Gw g→¬g=P:=fun g hg e=>by have:=hG g hg;omega
  have HN:=hide (ao6 pw q _ V1 ⟨fV st l,l,false⟩ ⟨F',Gw,pk V1 o1,hW.out o1 nG,rfl⟩)
  have R:Hid ((∃F',Pk q F' V2 (fV st l)∧Out (fun g=>F g∨g=P) w V2∧∀g,F' g→F g∨w.heap.size≤g)∧∃pw Gw,Wk pw q Gw V2 l false∧(∀g,Gw g→w.heap.size≤g)∧V2.heap[P]? =some (.cells (fw q false x (.pointer (some ⟨pw,0,none⟩)) l.length vr vs) 60 (0,0))):=hide ⟨⟨F',pk V2 (o1.trans o2 fun g hg=>.inl hg),(ow.trans o1 fun g hg=>.inl (.inr hg)).trans o2 fun g hg=>.inl (.inr hg),k3⟩,pw,Gw,(hW.out o1 nG).out o2 nG,hG,p2⟩
  have HE:=hide he
  clear k1 k2 k3 hb1 pk ow p1 p2 o1 o2 hnP he HB hP hW hG nG
  go_wp2_with fail
  refine HN.out.mono ?_
  rintro E w2 ⟨rfl,rfl⟩
  clear HN
  go_wp2
  go_ret
  exact⟨l,by rw[HE.out];rfl,HL,R.out.1,fun _=>R.out.2⟩
theorem af5 (P q:Nat)(F:Nat→Prop)(w:World)(st:Dm.Ds)(x:Pm.Pg)(vw vs:Value)(en:Int)(h:Pk q F w st)(hs:Big 100000000 800000 st)(hb:w.heap[P]? =some (.cells (fw q false x vw en (.pointer none) vs) 60 (0,0)))(hP:¬F P):
  Calls Tryz.prog 44 #[.pointer (some ⟨P,0,none⟩)] w fun E w'=>∃l,E=.returned (.int .i64 (lh st l))∧Hid (Rl.Lg 0 (Rl.hld st) l)∧(∃F',Pk q F' w' (mZ st l)∧Out (fun g=>F g∨g=P) w w'∧∀g,F' g→F g∨w.heap.size≤g)∧(lh st l=0→∃pr Gr,Rk pr q Gr w' l false∧(∀g,Gr g→w.heap.size≤g)∧w'.heap[P]? =some (.cells (fw q false x vw en (.pointer (some ⟨pr,0,none⟩)) vs) 60 (0,0))):=by
 have hpl:=aA hb
 have c0:w.cell? ⟨P,0,none⟩=some (.pointer (some ⟨q,0,none⟩)):=ai hb 0 rfl
 have WO:=hide (aeq q F w st h hs)
 have HB:=hide hb
 clear h hs hb
 go_enter Tryz.func44,Tryz.ntmps44
 go_wp2_with fail
 refine WO.out.mono ?_
 rintro E w1 ⟨l,HL,⟨F',k1,k2,k3⟩,hE⟩
 clear WO
 have hb1:=(k2.block P hpl hP).trans HB.out
 have f8:=az hb1 11
 have a8:w1.cell? ⟨P,11,none⟩=some (.pointer none):=ai hb1 11 rfl
 have hnP:¬F' P:=fun e=>(k3 P e).elim hP fun e=>by omega
 have pk:∀W,Out (fun g=>g=P) w1 W→Pk q F' W (mZ st l):=fun W o=>k1.agree fun g hg=>o.block g (k1.lt g hg) fun e=>hnP (e▸hg)
 have ow:Out (fun g=>F g∨g=P) w w1:=k2.mono fun g hg=>.inl (.inl hg)
 rcases hE with⟨he,rfl⟩|⟨he,pr,Gr,rfl,hW,hG⟩
 ·obtain⟨V1,hV1,p1,o1⟩:=aiT hb1 (.pointer none)
  have R:Hid (∃F',Pk q F' V1 (mZ st l)∧Out (fun g=>F g∨g=P) w V1∧∀g,F' g→F g∨w.heap.size≤g):=hide ⟨F',pk V1 o1,ow.trans o1 fun g hg=>.inl (.inr hg),k3⟩
  have HE:=hide he
  clear k1 k2 k3 hb1 pk ow p1 o1 hnP he HB hP
  go_wp2
  go_ret
  exact⟨l,rfl,HL,R.out,fun e=>absurd e HE.out⟩
 ·obtain⟨V1,hV1,p1,o1⟩:=aiT hb1 (.pointer (some ⟨pr,0,none⟩))
  have nG:∀g,Gr g→¬g=P:=fun g hg e=>by have:=hG g hg;omega
  have R:Hid ((∃F',Pk q F' V1 (mZ st l)∧Out (fun g=>F g∨g=P) w V1∧∀g,F' g→F g∨w.heap.size≤g)∧∃pr Gr,Rk pr q Gr V1 l false∧(∀g,Gr g→w.heap.size≤g)∧V1.heap[P]? =some (.cells (fw q false x vw en (.pointer (some ⟨pr,0,none⟩)) vs) 60 (0,0))):=hide ⟨⟨F',pk V1 o1,ow.trans o1 fun g hg=>.inl (.inr hg),k3⟩,pr,Gr,hW.out o1 nG,hG,p1⟩
  have HE:=hide he
  clear k1 k2 k3 hb1 pk ow p1 o1 hnP he HB hP hW hG nG
  go_wp2
  go_ret
  exact⟨l,by rw[HE.out];rfl,HL,R.out.1,fun _=>R.out.2⟩
theorem atn {bs:List Int}{z y:Pm.Pg}{n:Nat}(h:Pm.Ls bs z y n)(hz:Pm.Ok z):Pm.Ok y∧n≤bs.length:=by
 obtain⟨l,h1,h2,h3,h4,_⟩:=h
 refine⟨?_,by rw[h3];exact h2.length_le⟩
 rw[h4]
 cases hg:l.getLast? with
 |none=>exact hz
 |some y=>exact h1 y (List.mem_of_getLast? hg)
theorem abD {node:Int}(hn:node=0∨node=1):Pm.Ok (fst node)∧uT node=0:=by
 rcases hn with rfl|rfl
 ·exact⟨by unfold fst;rw[if_pos rfl];decide,rfl⟩
 ·exact⟨by unfold fst;rw[if_neg (by decide),if_pos rfl];decide,rfl⟩
theorem afE {st:Dm.Ds}(ho:st.on=true)(f:Nat)(hf:f<4):mV st f=Rst.hf f st∧mR st f=0:=by
 have h4:Dm.iV (f:Int)=true:=by unfold Dm.iV;simp;omega
 unfold mV mR
 rw[if_neg (by simp[ho]),if_neg (by simp[h4]),if_neg (by simp[ho]),if_neg (by simp[h4])]
 exact⟨rfl,rfl⟩
theorem abT {st:Dm.Ds}{t u:Nat}(hs:Big t u st)(f:Nat):(Rst.hf f st).length≤t:=by
 have:=Dm.kD st.wait (st.sure f) f
 have:=hs.1.1 f
 unfold Rst.hf
 omega
theorem afa (P q:Nat)(F:Nat→Prop)(w:World)(st:Dm.Ds)(x:Pm.Pg)(vw vr vs:Value)(en node:Int)(h:Pk q F w st)(hs:Big 90000000 700000 st)(ho:st.on=true)(hb:w.heap[P]? =some (.cells (fw q false x vw en vr vs) 60 (0,0)))(hP:¬F P)(hm:ib w)(hn:node=0∨node=1):
  Calls Tryz.prog 43 #[.pointer (some ⟨P,0,none⟩),.int .i64 node] w fun E w'=>∃y n,E=.returned (.int .i64 (Rst.bT 1 st n).1)∧Hid (Pm.Ls (Rst.hf 1 st) (fst node) y n)∧(∃F',Pk q F' w' (Rst.bT 1 st n).2∧Out (fun g=>F g∨g=P) w w'∧(∀g,F' g→F g∨w.heap.size≤g))∧w'.heap[P]? =some (.cells (fw q false y vw en vr vs) 60 (0,0)):=by
 have hpl:=aA hb
 have c0:w.cell? ⟨P,0,none⟩=some (.pointer (some ⟨q,0,none⟩)):=ai hb 0 rfl
 obtain⟨r1,r2⟩:=afE ho 1 (by omega)
 have hl:=abT hs 1
 have R1:=hide (kI q F w st 1 h (fun f=>Nat.le_trans (hs.1.1 f) (by decide)) (Nat.le_trans hs.1.2.1 (by decide)))
 have r1:mV st 1=Rst.hf 1 st:=r1
 have r2:mR st 1=0:=r2
 rw[r1,r2]at R1
 obtain⟨fo,fe⟩:=abD hn
 have HH:=hide (And.intro h (And.intro hs (And.intro hb (And.intro hm (And.intro fo fe)))))
 have HO:=hide ho
 clear h hs hb hm r1 r2 fo fe ho
 go_enter Tryz.func43,Tryz.ntmps43
 go_wp2_with fail
 refine R1.out.mono ?_
 rintro E w1 ⟨v,rfl,O1,B1⟩
 obtain⟨ao,cap,hv,_,_⟩:=O1.is.shape
 subst hv
 have LA:=hide (agq _ _ node w1 O1.is (by omega) (HH.out.2.2.2.1.below B1))
 have B1:=hide B1
 clear R1 O1
 go_wp2_with fail
 refine LA.out.mono ?_
 rintro E w2 ⟨y,n,e,rfl,LR,hfy,B2⟩
 clear LA
 obtain⟨h,hs,hb,hm,fo,fe⟩:=HH.out
 have b12:=B1.out.trans (B2.mono B1.out.size)
 have hls:e=0∧Pm.Ls (Rst.hf 1 st) (fst node) y n:=by
  rcases LR.out with⟨_,a,b⟩|⟨a,_⟩
  ·exact⟨a,b⟩
  ·rw[fe]at a;cases a
 obtain⟨rfl,hls⟩:=hls
 have HLS:=hide hls
 obtain⟨oky,hny⟩:=atn hls fo
 unfold vp
 obtain⟨V,hV,hV',sV,bV,PV,⟨z0,z1,z2,z3,z4,z5⟩⟩:=aba w2 41 (.int .i64 0) (.int .u8 0) (.int .i64 0) (.int .u8 0) (.int .i64 0) (.int .i64 0) (.int .i64 y.e) (.int .u8 y.r) (.int .i64 y.a) (.int .u8 y.p) (.int .i64 y.f) (.int .i64 y.b)
 have b0V:=b12.trans (bV.mono b12.size)
 have pV:=(b0V.block P hpl).trans hb
 obtain⟨_,_,q2,q3,q4,q5,q6,q7,_⟩:=kH pV
 obtain⟨Z,hZ,pZ,gZ,fr⟩:=ah6 pV y
 have f2:=fr 2;have f3:=fr 3;have f4:=fr 4;have f5:=fr 5;have f6:=fr 6;have f7:=fr 7
 have oZ:Out (fun g=>g=P) V Z:=Out.aT gZ fun i hi=>by simpa using hi.symm
 have hZk:Pk q F Z st:=(h.below b0V).agree fun g hg=>oZ.block g ((h.below b0V).lt g hg) fun e=>hP (e▸hg)
 have TR:=hide (aev P q F Z st 1 n _ hZk hs pZ rfl hP (by omega) HO.out hny)
 have R:Hid (∀w',aP q F Z w' (Rst.bT 1 st n).2→(∃F',Pk q F' w' (Rst.bT 1 st n).2∧Out (fun g=>F g∨g=P) w w'∧(∀g,F' g→F g∨w.heap.size≤g))∧w'.heap[P]? =some (.cells (fw q false y vw en vr vs) 60 (0,0))):=hide (by
  rintro w' ⟨F',k1,k2,k3⟩
  have hz:=b0V.size
  have hz2:=oZ.size
  refine⟨⟨F',k1,((Out.of_below b0V).trans oZ fun g hg=>.inl (.inr hg)).trans k2 fun g hg=>.inl (.inl hg),fun g hg=>(k3 g hg).imp id fun e=>by omega⟩,(k2.block P (by omega) hP).trans pZ⟩)
 clear h hs hb hm fo fe hls oky hny b12 bV PV b0V pV pZ gZ fr oZ hZk HH B1 B2 LR sV hl
 go_wp2_with fail
 refine TR.out.mono ?_
 rintro E w3 ⟨rfl,k⟩
 have RR:=hide (R.out w3 k)
 clear k R TR
 go_wp2
 go_ret
 exact⟨y,n,rfl,HLS,RR.out⟩
theorem ahp (P q:Nat)(F:Nat→Prop)(w:World)(st:Dm.Ds)(cs:Array Value)(h:Pk q F w st)(hs:Big 90000000 700000 st)(ho:st.on=true)(hb:w.heap[P]? =some (.cells cs 60 (0,0)))(hc:cs[0]? =some (.pointer (some ⟨q,0,none⟩)))(hP:¬F P):
  Calls Tryz.prog 45 #[.pointer (some ⟨P,0,none⟩)] w fun E w'=>∃ss,E=.returned (.int .i64 (Rst.bT 3 st (Orp.secs ss).length).1)∧Hid (Orp.Sn 0 (Rst.hf 3 st) ss)∧aP q F w w' (Rst.bT 3 st (Orp.secs ss).length).2:=by
 have hpl:=aA hb
 have c0:w.cell? ⟨P,0,none⟩=some (.pointer (some ⟨q,0,none⟩)):=ai hb 0 hc
 obtain⟨r1,r2⟩:=afE ho 3 (by omega)
 have hl:=abT hs 3
 have R1:=hide (kI q F w st 3 h (fun f=>Nat.le_trans (hs.1.1 f) (by decide)) (Nat.le_trans hs.1.2.1 (by decide)))
 have r1:mV st 3=Rst.hf 3 st:=r1
 have r2:mR st 3=0:=r2
 rw[r1,r2]at R1
 have HH:=hide (And.intro h (And.intro hs (And.intro hb hc)))
 have HO:=hide ho
 clear h hs hb r1 r2 ho
 go_enter Tryz.func45,Tryz.ntmps45
 go_wp2_with fail
 refine R1.out.mono ?_
 rintro E w1 ⟨v,rfl,O1,B1⟩
 obtain⟨ao,cap,hv,_,_⟩:=O1.is.shape
 subst hv
 have SC:=hide (vK _ _ w1 O1.is (by omega))
 have B1:=hide B1
 clear R1 O1
 go_wp2_with fail
 refine SC.out.mono ?_
 rintro E w2 ⟨v2,l,n,rfl,X⟩
 clear SC
 obtain⟨h,hs,hb,hc⟩:=HH.out
 obtain⟨_,_,hn,hsn,B2⟩:=X.out
 have b12:=B1.out.trans (B2.mono B1.out.size)
 have hny:n≤(Rst.hf 3 st).length:=by rw[hn];exact hsn.2.1.length_le
 have TR:=hide (aev P q F w2 st 3 n _ (h.below b12) hs ((b12.block P hpl).trans hb) hc hP (by omega) HO.out hny)
 rw[hn]at TR
 have HS:=hide hsn
 have HB:=hide b12
 subst hn
 clear h hs hb hsn B2 b12 hny HH B1 X hl
 go_wp2_with fail
 refine TR.out.mono ?_
 rintro E w3 ⟨rfl,k⟩
 have K:=hide (aP.pre HB.out k)
 clear k TR HB
 go_wp2
 go_ret
 exact⟨jS l,rfl,HS,K.out⟩
theorem anB (g0 g1 P:Nat)(n r:Int)(w:World)(X:Int→World→Prop)(h0:w.cell? ⟨g0,0,none⟩=some (.pointer (some ⟨P,0,none⟩)))(h1:w.cell? ⟨g1,0,none⟩=some (.int .i64 n))(hs:Calls Tryz.prog 43 #[.pointer (some ⟨P,0,none⟩),.int .i64 n] w fun E w'=>∃e,E=.returned (.int .i64 e)∧X e w'):
  Calls Tryz.prog 42 #[.pointer (some ⟨g0,0,none⟩),.pointer (some ⟨g1,0,none⟩)] w fun E w'=>∃e,E=.returned (.int .i64 e)∧X e w':=by
 have PC:=hide hs
 clear hs
 go_enter Tryz.func42,Tryz.ntmps42
 go_wp2_with fail
 refine PC.out.mono ?_
 rintro E w' ⟨e,rfl,k⟩
 have K:=hide k
 clear k PC
 go_wp2
 go_ret
 exact⟨e,rfl,K.out⟩
theorem amP (g0 P q pw pr:Nat)(F F':Nat→Prop)(w:World)(off:Bool)(x:Pm.Pg)(en b:Int)(vs:Value)(sw:Wl.Ws)(sr:Rl.Rs)(h0:w.cell? ⟨g0,0,none⟩=some (.pointer (some ⟨P,0,none⟩)))(hb:w.heap[P]? =some (.cells (fw q off x (.pointer (some ⟨pw,0,none⟩)) en (.pointer (some ⟨pr,0,none⟩)) vs) 60 (0,0)))(h1:WW pw q F w sw)(h2:RW pr q F' w sr)(hS:∀W,Below w.heap.size w W→Calls Tryz.prog 114 #[.pointer (some ⟨P,0,none⟩)] W fun E w'=>E=.returned (.int .i64 b)∧Below W.heap.size W w'):
  Calls Tryz.prog 46 #[.pointer (some ⟨g0,0,none⟩)] w fun E w'=>E=.returned (.int .i64 (if chO x (Cm.lastE 0 sw.l) en (Cm.lastN 0 sr.l) b=true then 0 else 5))∧Below w.heap.size w w':=by
 have OL:=hide (aap P q pw pr F F' w off x en vs sw sr hb h1 h2)
 have CK:Hid (∀w1,Below w.heap.size w w1→Calls Tryz.prog 48 #[.agg (jy x (Cm.lastE 0 sw.l) en (Cm.lastN 0 sr.l) P)] w1 fun E w'=>E=.returned (.int .i64 (if chO x (Cm.lastE 0 sw.l) en (Cm.lastN 0 sr.l) b=true then 0 else 5))∧Below w1.heap.size w1 w'):=hide fun w1 k=>acG P x _ en _ b w1 fun _ W hW=>hS W (k.trans (hW.mono k.size))
 generalize (if chO x (Cm.lastE 0 sw.l) en (Cm.lastN 0 sr.l) b=true then(0:Int)else 5)=r at*
 clear hb h1 h2 hS
 go_enter Tryz.func46,Tryz.ntmps46
 go_wp2_with fail
 refine OL.out.mono ?_
 rintro E w1 ⟨rfl,b1⟩
 have CK1:=hide (CK.out w1 b1)
 have B1:=hide b1
 clear OL CK b1
 go_wp2_with fail
 refine CK1.out.mono ?_
 rintro E w2 ⟨rfl,b2⟩
 have B2:=hide (B1.out.trans (b2.mono B1.out.size))
 clear CK1 b2 B1
 go_wp2
 go_ret
 exact⟨rfl,B2.out⟩
theorem aoP (l:List Cm.Cv)(n:Int)(h0:0≤n)(h:n≤l.length):frl l (n+1) l.length=l.drop n.toNat:=by
 unfold frl
 split
 ·rename_i k
  have:l.length≤n.toNat:=by omega
  rw[List.drop_eq_nil_of_le this]
 ·rw[show(n+1).toNat-1=n.toNat by omega]
  exact List.take_of_length_le (by rw[List.length_drop];omega)
theorem ae1 (P q pw pr:Nat)(F Gw Gr:Nat→Prop)(w:World)(off:Bool)(x:Pm.Pg)(vs:Value)(d:Dm.Ds)(l r:List Cm.Cv)(hb:w.heap[P]? =some (.cells (fw q off x (.pointer (some ⟨pw,0,none⟩)) l.length (.pointer (some ⟨pr,0,none⟩)) vs) 60 (0,0)))(hp:vs=.pointer none)(hd:Pk q F w d)(h1:Wk pw q Gw w l false)(h2:Rk pr q Gr w r false)(hle:Cm.lastN 0 r≤l.length)(hll:l.length≤100000):
  Calls Tryz.prog 49 #[.pointer (some ⟨P,0,none⟩)] w fun E w'=>E=.returned (.int .i64 0)∧∃ps,∃Gs,Sk ps pr Gs w' (l.drop (Cm.lastN 0 r).toNat)∧(∀g,Gs g→w.heap.size≤g)∧w'.heap[P]? =some (.cells (fw q off x (.pointer (some ⟨pw,0,none⟩)) l.length (.pointer (some ⟨pr,0,none⟩)) (.pointer (some ⟨ps,0,none⟩))) 60 (0,0))∧Out (fun g=>g=P) w w':=by
 subst hp
 have hpl:=aA hb
 have hgr:Rl.Good 0 r:=by
  obtain⟨v,rs,k,_⟩:=h2
  exact k.log.good
 have h0n:0≤Cm.lastN 0 r:=(Rl.eB hgr).2.1
 have hgl:=h1.good
 have hgd:Cm.Good 1 (Cm.lastN 0 r) (l.drop (Cm.lastN 0 r).toNat):=by
  have:=Sto.l8 (Rst.mI hgl) (Cm.lastN 0 r).toNat (by omega)
  rw[show(0:Int)+((Cm.lastN 0 r).toNat:Int)=Cm.lastN 0 r by omega]at this
  exact this
 have hfr:=aoP l (Cm.lastN 0 r) h0n hle
 obtain⟨K,hK⟩:∃K:World→Prop,K=fun W=>Hid (W.heap[P]? =w.heap[P]?∧Below w.heap.size w W):=⟨_,rfl⟩
 have HE:Hid (∀W,K W→Calls Tryz.prog 113 #[.pointer (some ⟨pr,0,none⟩)] W fun E w'=>E=.returned (.int .i64 (Cm.lastN 0 r))∧K w'):=hide fun W k=>by
  subst hK
  refine(jH pr q _ W ⟨d,r,false⟩ ⟨F,Gr,hd.below k.out.2,h2.below k.out.2,rfl⟩).mono ?_
  rintro E w' ⟨rfl,rfl⟩
  exact⟨rfl,k⟩
 have HF:Hid (∀W,K W→Calls Tryz.prog 91 #[.pointer (some ⟨pw,0,none⟩),.int .i64 (Cm.lastN 0 r+1),.int .i64 l.length] W fun E w'=>∃a n k rs,E=.returned (.slice a n k)∧Hid (fJ w' (.slice a n k) rs∧aD rs=l.drop (Cm.lastN 0 r).toNat)∧K w'):=hide fun W k=>by
  subst hK
  refine(aeu pw q _ W ⟨d,l,false⟩ (Cm.lastN 0 r+1) l.length ⟨F,Gw,hd.below k.out.2,h1.below k.out.2,rfl⟩).mono ?_
  rintro E w' ⟨v,rs,rfl,o1,o2,o3,o4,o5⟩
  have b:=k.out.2.trans (o5.mono k.out.2.size)
  have o3:aD rs=l.drop (Cm.lastN 0 r).toNat:=o3.trans hfr
  have hic:fJ w' v rs:=⟨o1.row,fun c hc=>⟨(o2 c hc).is,by
   have hm:c.c∈l.drop (Cm.lastN 0 r).toNat:=by rw[←o3];exact List.mem_map_of_mem hc
   have:=Sto.gF hgd c.c hm
   have h3:=Cm.bu this.1
   have e1:c.c.e=c.e:=rfl
   have e2:c.c.n=c.n:=rfl
   unfold In64
   omega⟩⟩
  obtain⟨a,n,kk,rfl⟩:∃a n k,v=.slice a n k:=by
   rcases hic.1 with⟨h,_⟩|⟨a,c,h,_⟩
   ·exact⟨_,_,_,h⟩
   ·exact⟨_,_,_,h⟩
  exact⟨a,n,kk,rs,rfl,hide ⟨hic,o3⟩,hide ⟨b.block P hpl,b⟩⟩
 have HO:Hid (∀W,K W→∀a n k rs,Hid (fJ W (.slice a n k) rs∧aD rs=l.drop (Cm.lastN 0 r).toNat)→Calls Tryz.prog 115 #[.pointer (some ⟨pr,0,none⟩),.slice a n k] W fun E w'=>∃ps,E=.returned (.tuple #[.pointer (some ⟨ps,0,none⟩),.int .i64 0])∧Hid (∃Gs,Sk ps pr Gs w' (l.drop (Cm.lastN 0 r).toNat)∧∀g,Gs g→w.heap.size≤g)∧K w'):=hide fun W k a n kk rs RC=>by
  subst hK
  have hz:=k.out.2.size
  have hfc:fF rs:=fun c hc=>by
   have hm:c.c∈l.drop (Cm.lastN 0 r).toNat:=by rw[←RC.out.2];exact List.mem_map_of_mem hc
   obtain⟨_,_,_,_,h5⟩:=Cm.bu (Sto.gF hgd c.c hm).1
   have:=(Bm.dM h5).2.1
   exact⟨(rD h5).fit,by show c.c.l.length*40≤_;omega⟩
  have hrl:rs.length≤100000:=by
   have:=congrArg List.length RC.out.2
   unfold aD at this
   rw[List.length_map,List.length_drop]at this
   omega
  refine(aod pr q _ W ⟨d,r,false⟩ _ rs ⟨F,Gr,hd.below k.out.2,h2.below k.out.2,rfl⟩ RC.out.1 hfc hrl).mono ?_
  have hf0:(Cm.fol 1 (Cm.lastN 0 r) 0 (aD rs)).1=0:=(Cm.il _ _ _ 0).2 (by rw[RC.out.2];exact hgd)
  rintro E w' (⟨h,_⟩|⟨_,ps,rfl,Gs,g1,g2,g3⟩)
  ·exact absurd hf0 h
  ·have b:=k.out.2.trans (g3.mono hz)
   rw[RC.out.2]at g1
   exact⟨ps,rfl,hide ⟨Gs,g1,fun g hg=>by have:=g2 g hg;omega⟩,hide ⟨b.block P hpl,b⟩⟩
 have hwr:IntKind.i64.wrap (Cm.lastN 0 r+1)=Cm.lastN 0 r+1:=aN _ (by omega) (by omega)
 have HL:Hid (∃m,m=l.drop (Cm.lastN 0 r).toNat):=hide ⟨_,rfl⟩
 obtain⟨SS,hSS⟩:∃SS:Int→World→Prop,SS=fun en=>(fun W=>W.cell? ⟨P,8,none⟩=some (.pointer (some ⟨pw,0,none⟩))∧W.cell? ⟨P,9,none⟩=some (.int .i64 en)∧W.cell? ⟨P,11,none⟩=some (.pointer (some ⟨pr,0,none⟩))):=⟨_,rfl⟩
 have sB:∀W,W.heap[P]? =w.heap[P]?→SS l.length W:=fun W k=>by
  subst hSS
  obtain⟨c0,_,c2,c3,c4,c5,c6,c7,c8,c9,_,c11,_⟩:=kH (k.trans hb)
  exact⟨c8,c9,c11⟩
 have KS:Hid (∀W,K W→SS l.length W):=hide fun W k=>by
  subst hK
  exact sB W k.out.1
 have PT:Hid (∀W ps,K W→Hid (∃Gs,Sk ps pr Gs W (l.drop (Cm.lastN 0 r).toNat)∧∀g,Gs g→w.heap.size≤g)→∃V,W.setCell ⟨P,12,none⟩ (.pointer (some ⟨ps,0,none⟩))=V∧W.cell? ⟨P,12,none⟩=some (.pointer none)∧W.frozen? ⟨P,12,none⟩=false∧(SS l.length V∧∃Gs,Sk ps pr Gs V (l.drop (Cm.lastN 0 r).toNat)∧(∀g,Gs g→w.heap.size≤g)∧V.heap[P]? =some (.cells (fw q off x (.pointer (some ⟨pw,0,none⟩)) l.length (.pointer (some ⟨pr,0,none⟩)) (.pointer (some ⟨ps,0,none⟩))) 60 (0,0))∧Out (fun g=>g=P) w V)):=hide fun W ps k sk=>by
  subst hK hSS
  obtain⟨Gs,s1,s2⟩:=sk.out
  have pW:=k.out.1.trans hb
  have oV:Out (fun g=>g=P) W (W.setCell ⟨P,12,none⟩ (.pointer (some ⟨ps,0,none⟩))):=Out.aT (aC W ⟨P,12,none⟩ (.pointer (some ⟨ps,0,none⟩))) fun i hi=>by simpa using hi.symm
  have pV:(W.setCell ⟨P,12,none⟩ (.pointer (some ⟨ps,0,none⟩))).heap[P]? =some (.cells (fw q off x (.pointer (some ⟨pw,0,none⟩)) l.length (.pointer (some ⟨pr,0,none⟩)) (.pointer (some ⟨ps,0,none⟩))) 60 (0,0)):=aL pW 12 (.pointer (some ⟨ps,0,none⟩))
  obtain⟨_,_,_,_,_,_,_,_,c8,c9,_,c11,_⟩:=kH pV
  exact⟨_,rfl,ai pW 12 rfl,az pW 12,⟨c8,c9,c11⟩,Gs,s1.out oV fun g hg e=>by have:=s2 g hg;omega,s2,pV,(Out.of_below k.out.2).trans oV fun g hg=>.inl hg⟩
 obtain⟨W0,hW0⟩:∃W,w.drew=W:=⟨_,rfl⟩
 have K0:K W0:=by
  subst hK
  rw[←hW0]
  exact hide ⟨rfl,(Below.refl _ _).drew⟩
 subst hK hSS
 simp only at KS PT
 generalize (l.length:Int)=en at*
 generalize l.drop (Cm.lastN 0 r).toNat=rest at*
 generalize Cm.lastN 0 r=n at*
 clear h1 h2 hd hb sB hgr hgl hgd hfr hle hll HL
 go_enter Tryz.func49,Tryz.ntmps49
 go_wp2_with fail
 refine je (ops:=(au 1 Tryz.f49)) (S:=fun W=>W.cell? ⟨P,8,none⟩=some (.pointer (some ⟨pw,0,none⟩))∧W.cell? ⟨P,9,none⟩=some (.int .i64 en)∧W.cell? ⟨P,11,none⟩=some (.pointer (some ⟨pr,0,none⟩))) (by kernel_rfl) apb ?_
 rw[aua,hW0]
 refine aG (v:=?_) aqw (by kernel_rfl) (fun _ _ _ _ _ h=>h) (KS.out _ K0) rfl rfl (by rfl) ?_ ?_
 rotate_left 1
 ·intro w hS
  (try dsimp only at hS)
  go_simp
  all_goals with_reducible rfl
 simp only[Act.put,List.setIfInBounds_toArray,List.set_cons_zero,List.set_cons_succ]
 refine aG (v:=?_) apD (by kernel_rfl) (fun _ _ _ _ _ h=>h) (KS.out _ K0) rfl rfl (by rfl) ?_ ?_
 rotate_left 1
 ·intro w hS
  (try dsimp only at hS)
  go_simp
  all_goals with_reducible rfl
 simp only[Act.put,List.setIfInBounds_toArray,List.set_cons_zero,List.set_cons_succ]
 refine aG (v:=?_) apf (by kernel_rfl) (fun _ _ _ _ _ h=>h) (KS.out _ K0) rfl rfl (by rfl) ?_ ?_
 rotate_left 1
 ·intro w hS
  (try dsimp only at hS)
  go_simp
  all_goals with_reducible rfl
 simp only[Act.put,List.setIfInBounds_toArray,List.set_cons_zero,List.set_cons_succ]
 refine aG (v:=?_) aoK (by kernel_rfl) (fun _ _ _ _ _ h=>h) (KS.out _ K0) rfl rfl (by rfl) ?_ ?_
 rotate_left 1
 ·intro w hS
  (try dsimp only at hS)
  go_simp
  all_goals with_reducible rfl
 simp only[Act.put,List.setIfInBounds_toArray,List.set_cons_zero,List.set_cons_succ]
 refine aG (v:=?_) alQ (by kernel_rfl) (fun _ _ _ _ _ h=>h) (KS.out _ K0) rfl rfl (by rfl) ?_ ?_
 rotate_left 1
 ·intro w hS
  (try dsimp only at hS)
  go_simp
  all_goals with_reducible rfl
 simp only[Act.put,List.setIfInBounds_toArray,List.set_cons_zero,List.set_cons_succ]
 refine aG (v:=?_) ame (by kernel_rfl) (fun _ _ _ _ _ h=>h) (KS.out _ K0) rfl rfl (by rfl) ?_ ?_
 rotate_left 1
 ·intro w hS
  (try dsimp only at hS)
  go_simp
  all_goals with_reducible rfl
 simp only[Act.put,List.setIfInBounds_toArray,List.set_cons_zero,List.set_cons_succ]
 refine aG (v:=?_) alM (by kernel_rfl) (fun _ _ _ _ _ h=>h) (KS.out _ K0) rfl rfl (by rfl) ?_ ?_
 rotate_left 1
 ·intro w hS
  (try dsimp only at hS)
  go_simp
  all_goals with_reducible rfl
 simp only[Act.put,List.setIfInBounds_toArray,List.set_cons_zero,List.set_cons_succ]
 refine aG (v:=?_) akO (by kernel_rfl) (fun _ _ _ _ _ h=>h) (KS.out _ K0) rfl rfl (by rfl) ?_ ?_
 rotate_left 1
 ·intro w hS
  (try dsimp only at hS)
  go_simp
  all_goals with_reducible rfl
 simp only[Act.put,List.setIfInBounds_toArray,List.set_cons_zero,List.set_cons_succ]
 refine aG (v:=?_) akt (by kernel_rfl) (fun _ _ _ _ _ h=>h) (KS.out _ K0) rfl rfl (by rfl) ?_ ?_
 rotate_left 1
 ·intro w hS
  (try dsimp only at hS)
  go_simp
  all_goals with_reducible rfl
 simp only[Act.put,List.setIfInBounds_toArray,List.set_cons_zero,List.set_cons_succ]
 refine aG (v:=?_) ajM (by kernel_rfl) (fun _ _ _ _ _ h=>h) (KS.out _ K0) rfl rfl (by rfl) ?_ ?_
 rotate_left 1
 ·intro w hS
  (try dsimp only at hS)
  go_simp
  all_goals with_reducible rfl
 simp only[Act.put,List.setIfInBounds_toArray,List.set_cons_zero,List.set_cons_succ]
 refine aG (v:=?_) afO (by kernel_rfl) (fun _ _ _ _ _ h=>h) (KS.out _ K0) rfl rfl (by rfl) ?_ ?_
 rotate_left 1
 ·intro w hS
  (try dsimp only at hS)
  go_simp
  all_goals with_reducible rfl
 simp only[Act.put,List.setIfInBounds_toArray,List.set_cons_zero,List.set_cons_succ]
 refine aG (v:=?_) ahM (by kernel_rfl) (fun _ _ _ _ _ h=>h) (KS.out _ K0) rfl rfl (by rfl) ?_ ?_
 rotate_left 1
 ·intro w hS
  (try dsimp only at hS)
  go_simp
  all_goals with_reducible rfl
 simp only[Act.put,List.setIfInBounds_toArray,List.set_cons_zero,List.set_cons_succ]
 refine aG (v:=?_) afL (by kernel_rfl) (fun _ _ _ _ _ h=>h) (KS.out _ K0) rfl rfl (by rfl) ?_ ?_
 rotate_left 1
 ·intro w hS
  (try dsimp only at hS)
  go_simp
  all_goals with_reducible rfl
 simp only[Act.put,List.setIfInBounds_toArray,List.set_cons_zero,List.set_cons_succ]
 refine aG (v:=?_) agp (by kernel_rfl) (fun _ _ _ _ _ h=>h) (KS.out _ K0) rfl rfl (by rfl) ?_ ?_
 rotate_left 1
 ·intro w hS
  (try dsimp only at hS)
  go_simp
  all_goals with_reducible rfl
 simp only[Act.put,List.setIfInBounds_toArray,List.set_cons_zero,List.set_cons_succ]
 refine aG (v:=?_) ae3 (by kernel_rfl) (fun _ _ _ _ _ h=>h) (KS.out _ K0) rfl rfl (by rfl) ?_ ?_
 rotate_left 1
 ·intro w hS
  (try dsimp only at hS)
  go_simp
  all_goals with_reducible rfl
 simp only[Act.put,List.setIfInBounds_toArray,List.set_cons_zero,List.set_cons_succ]
 refine aG (v:=?_) afc (by kernel_rfl) (fun _ _ _ _ _ h=>h) (KS.out _ K0) rfl rfl (by rfl) ?_ ?_
 rotate_left 1
 ·intro w hS
  (try dsimp only at hS)
  go_simp
  all_goals with_reducible rfl
 simp only[Act.put,List.setIfInBounds_toArray,List.set_cons_zero,List.set_cons_succ]
 refine aG (v:=?_) ae8 (by kernel_rfl) (fun _ _ _ _ _ h=>h) (KS.out _ K0) rfl rfl (by rfl) ?_ ?_
 rotate_left 1
 ·intro w hS
  (try dsimp only at hS)
  go_simp
  all_goals with_reducible rfl
 simp only[Act.put,List.setIfInBounds_toArray,List.set_cons_zero,List.set_cons_succ]
 refine aG (v:=?_) adh (by kernel_rfl) (fun _ _ _ _ _ h=>h) (KS.out _ K0) rfl rfl (by rfl) ?_ ?_
 rotate_left 1
 ·intro w hS
  (try dsimp only at hS)
  go_simp
  all_goals with_reducible rfl
 simp only[Act.put,List.setIfInBounds_toArray,List.set_cons_zero,List.set_cons_succ]
 refine aG (v:=?_) ac6 (by kernel_rfl) (fun _ _ _ _ _ h=>h) (KS.out _ K0) rfl rfl (by rfl) ?_ ?_
 rotate_left 1
 ·intro w hS
  (try dsimp only at hS)
  go_simp
  all_goals with_reducible rfl
 simp only[Act.put,List.setIfInBounds_toArray,List.set_cons_zero,List.set_cons_succ]
 refine aG (v:=?_) acQ (by kernel_rfl) (fun _ _ _ _ _ h=>h) (KS.out _ K0) rfl rfl (by rfl) ?_ ?_
 rotate_left 1
 ·intro w hS
  (try dsimp only at hS)
  go_simp
  all_goals with_reducible rfl
 simp only[Act.put,List.setIfInBounds_toArray,List.set_cons_zero,List.set_cons_succ]
 refine aG (v:=?_) abY (by kernel_rfl) (fun _ _ _ _ _ h=>h) (KS.out _ K0) rfl rfl (by rfl) ?_ ?_
 rotate_left 1
 ·intro w hS
  (try dsimp only at hS)
  go_simp
  all_goals with_reducible rfl
 simp only[Act.put,List.setIfInBounds_toArray,List.set_cons_zero,List.set_cons_succ]
 refine aQ ahR ?_
 refine aM rfl (by rfl) (fun K hK=>?_)
 go_simp
 refine(HE.out _ K0).mono ?_
 rintro E U1 ⟨rfl,k1⟩
 go_wp2_with fail
 refine hK.out _ _ (KS.out _ k1) ?_
 clear hK K
 try simp only[Act.put,List.setIfInBounds_toArray,List.set_cons_zero,List.set_cons_succ]
 refine aG (v:=?_) abH (by kernel_rfl) (fun _ _ _ _ _ h=>h) (KS.out _ k1) rfl rfl (by rfl) ?_ ?_
 rotate_left 1
 ·intro w hS
  (try dsimp only at hS)
  go_simp
  all_goals with_reducible rfl
 simp only[Act.put,List.setIfInBounds_toArray,List.set_cons_zero,List.set_cons_succ]
 refine aQ ahE ?_
 refine aM rfl (by rfl) (fun K hK=>?_)
 go_simp
 refine(HF.out _ k1).mono ?_
 rintro E U2 ⟨ro,rn,rk,rs,rfl,RC,k2⟩
 go_wp2_with fail
 refine hK.out _ _ (KS.out _ k2) ?_
 clear hK K
 try simp only[Act.put,List.setIfInBounds_toArray,List.set_cons_zero,List.set_cons_succ]
 refine aQ aeR ?_
 refine aM rfl (by rfl) (fun K hK=>?_)
 go_simp
 refine(HO.out _ k2 _ _ _ rs RC).mono ?_
 rintro E U3 ⟨pn,rfl,SK,k3⟩
 go_wp2_with fail
 refine hK.out _ _ (KS.out _ k3) ?_
 clear hK K
 try simp only[Act.put,List.setIfInBounds_toArray,List.set_cons_zero,List.set_cons_succ]
 refine aG (v:=?_) aa8 (by kernel_rfl) (fun _ _ _ _ _ h=>h) (KS.out _ k3) rfl rfl (by rfl) ?_ ?_
 rotate_left 1
 ·intro w hS
  (try dsimp only at hS)
  go_simp
  all_goals with_reducible rfl
 simp only[Act.put,List.setIfInBounds_toArray,List.set_cons_zero,List.set_cons_succ]
 refine aG (v:=?_) aa7 (by kernel_rfl) (fun _ _ _ _ _ h=>h) (KS.out _ k3) rfl rfl (by rfl) ?_ ?_
 rotate_left 1
 ·intro w hS
  (try dsimp only at hS)
  go_simp
  all_goals with_reducible rfl
 simp only[Act.put,List.setIfInBounds_toArray,List.set_cons_zero,List.set_cons_succ]
 refine aG (v:=?_) aaf (by kernel_rfl) (fun _ _ _ _ _ h=>h) (KS.out _ k3) rfl rfl (by rfl) ?_ ?_
 rotate_left 1
 ·intro w hS
  (try dsimp only at hS)
  go_simp
  all_goals with_reducible rfl
 simp only[Act.put,List.setIfInBounds_toArray,List.set_cons_zero,List.set_cons_succ]
 refine aG (v:=?_) aac (by kernel_rfl) (fun _ _ _ _ _ h=>h) (KS.out _ k3) rfl rfl (by rfl) ?_ ?_
 rotate_left 1
 ·intro w hS
  (try dsimp only at hS)
  go_simp
  all_goals with_reducible rfl
 simp only[Act.put,List.setIfInBounds_toArray,List.set_cons_zero,List.set_cons_succ]
 refine aG (v:=?_) aaa (by kernel_rfl) (fun _ _ _ _ _ h=>h) (KS.out _ k3) rfl rfl (by rfl) ?_ ?_
 rotate_left 1
 ·intro w hS
  (try dsimp only at hS)
  go_simp
  all_goals with_reducible rfl
 simp only[Act.put,List.setIfInBounds_toArray,List.set_cons_zero,List.set_cons_succ]
 refine aG (v:=?_) yh (by kernel_rfl) (fun _ _ _ _ _ h=>h) (KS.out _ k3) rfl rfl (by rfl) ?_ ?_
 rotate_left 1
 ·intro w hS
  (try dsimp only at hS)
  go_simp
  all_goals with_reducible rfl
 simp only[Act.put,List.setIfInBounds_toArray,List.set_cons_zero,List.set_cons_succ]
 refine aQ acA ?_
 obtain⟨V,hV,a12,f12,SV⟩:=PT.out _ pn k3 SK
 have SV:=hide SV
 refine aM rfl (by rfl) (fun K hK=>?_)
 go_simp
 go_wp2_with fail
 refine hK.out _ _ SV.out.1 ?_
 clear hK K
 try simp only[Act.put,List.setIfInBounds_toArray,List.set_cons_zero,List.set_cons_succ]
 refine aG (v:=?_) zi (by kernel_rfl) (fun _ _ _ _ _ h=>h) SV.out.1 rfl rfl (by rfl) ?_ ?_
 rotate_left 1
 ·intro w hS
  (try dsimp only at hS)
  go_simp
  all_goals with_reducible rfl
 simp only[Act.put,List.setIfInBounds_toArray,List.set_cons_zero,List.set_cons_succ]
 refine dz at1 ?_
 clear HE HF HO KS PT
 go_wp2
 go_ret
 exact⟨rfl,pn,SV.out.2⟩
theorem avl (d:Dm.Ds)(f:Nat)(n:Int)(j:Nat)(hj:f≠j):Rst.hf j (Dm.bg d f n).2=Rst.hf j d:=by
 unfold Dm.bg
 split
 ·rfl
 split
 ·rfl
 split
 ·rfl
 split
 ·rfl
 ·unfold Rst.hf Dm.push Dm.cO
  simp only
  rw[Dm.lV,if_neg (by simpa using hj)]
theorem vF (d:Dm.Ds)(f n j:Nat)(hj:f≠j):Rst.hf j (Rst.bT f d n).2=Rst.hf j d:=by
 have h1:=avl d f n j hj
 unfold Rst.bT
 split
 ·rfl
 split
 ·exact h1
 split
 ·exact(lT _ j).trans h1
 ·exact(lT _ j).trans h1
theorem zq (d:Dm.Ds)(f n:Nat)(ho:d.on=true):((Rst.bT f d n).1=0∨(Rst.bT f d n).1=6)∧((Rst.bT f d n).1=0→(Rst.bT f d n).2.on=true):=by
 have hc:(Dm.bg d f n).1=0→(Dm.bg d f n).2.on=true:=by
  unfold Dm.bg
  rw[if_neg (by simp[ho])]
  split
  ·intro _;exact ho
  split
  ·intro _;exact ho
  split
  ·intro h;exact absurd h (by show ¬(6:Int)=0;decide)
  ·intro _;exact ho
 have hs:(Dm.sync (Dm.bg d f n).2).1=0→(Dm.sync (Dm.bg d f n).2).2.on=true:=by
  unfold Dm.sync
  split
  ·intro h;exact absurd h (by show ¬(6:Int)=0;decide)
  split
  ·intro h;exact absurd h (by show ¬(6:Int)=0;decide)
  ·rename_i h _
   intro _
   show(Dm.bg d f n).2.on=true
   simpa using h
 unfold Rst.bT
 split
 ·exact⟨.inl rfl,fun _=>ho⟩
 split
 ·exact⟨.inr rfl,fun h=>absurd h (by show ¬(6:Int)=0;decide)⟩
 split
 ·exact⟨.inr rfl,fun h=>absurd h (by show ¬(6:Int)=0;decide)⟩
 ·rename_i h
  exact⟨.inl rfl,fun _=>hs (by simpa using h)⟩
theorem apK (d:Dm.Ds)(f n:Nat)(hf4:f<4)(hn:n≤(Rst.hf f d).length)(h:(Rst.bT f d n).1=0)(ho:d.on=true):Rst.hf f (Rst.bT f d n).2=(Rst.hf f d).take n:=by
 revert h
 unfold Rst.bT
 split
 ·rename_i h
  intro _
  rw[←h,List.take_length]
 split
 ·intro h;exact absurd h (by show ¬(6:Int)=0;decide)
 rename_i hc
 have hcut:Rst.hf f (Dm.bg d f n).2=(Rst.hf f d).take n:=by
  revert hc
  unfold Dm.bg
  have h4:¬Dm.iV (f:Int)=false:=by unfold Dm.iV;simp;omega
  rw[if_neg (by simp[ho]),if_neg h4]
  split
  ·intro k;exact absurd (show(2:Int)≠0 by decide) k
  split
  ·intro k;exact absurd (show(6:Int)≠0 by decide) k
  ·intro _
   unfold Rst.hf Dm.push Dm.cO
   simp only
   rw[Dm.lV,if_pos (by simp)]
   unfold Dm.iC
   simp
 split
 ·intro h;exact absurd h (by show ¬(6:Int)=0;decide)
 ·intro _
  exact(lT _ f).trans hcut
theorem awW (q:Nat)(F:Nat→Prop)(w:World)(st:Dm.Ds)(node:Int)(h:Pk q F w st)(hm:ib w)(hB:Big 50000000 500000 st)(hn:node=0∨node=1)(ho:st.on=true):∃m p g r ss,Rst.za st (fst node) m p g r ss:=by
 have hs:Big 90000000 700000 st:=hB.mono (by decide) (by decide)
 obtain⟨_,_,_,⟨m,h1,_⟩,_⟩:=ad9 q F w st h (hB.mono (by decide) (by decide)) []
 obtain⟨_,_,_,⟨r,h2,_⟩,_⟩:=aeq q F w st h (hB.mono (by decide) (by decide)) []
 obtain⟨fo,fe⟩:=abD hn
 obtain⟨r1,_⟩:=afE ho 1 (by omega)
 obtain⟨r3,_⟩:=afE ho 3 (by omega)
 have l1:=abT hs 1
 have l3:=abT hs 3
 obtain⟨_,w1,_,⟨v1,_,o1,b1⟩,_⟩:=kI q F w st 1 h (fun f=>Nat.le_trans (hs.1.1 f) (by decide)) (Nat.le_trans hs.1.2.1 (by decide)) []
 rw[show mV st 1=Rst.hf 1 st from r1]at o1
 obtain⟨_,_,_,⟨p,g,e,_,h3,_⟩,_⟩:=agq v1 _ node w1 o1.is (by omega) (hm.below b1) []
 obtain⟨_,w3,_,⟨v3,_,o3,b3⟩,_⟩:=kI q F w st 3 h (fun f=>Nat.le_trans (hs.1.1 f) (by decide)) (Nat.le_trans hs.1.2.1 (by decide)) []
 rw[show mV st 3=Rst.hf 3 st from r3]at o3
 obtain⟨_,_,_,⟨_,l,_,_,h4⟩,_⟩:=vK v3 _ w3 o3.is (by omega) []
 refine⟨m,p,g,r,jS l,h1.out,?_,h2.out,h4.out.2.2.2.1⟩
 rcases h3.out with⟨_,_,k⟩|⟨k,_⟩
 ·exact k
 ·rw[fe]at k;cases k
end Go.Proofs.YtpifdeoepppadaaGreatDoor
