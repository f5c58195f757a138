/- Texts of one layer, one behind the other. -/
import Derived.Test.YtjemlgdkjilnoaaGreatDoorH26
import Derived.Test.YtjemlgdkjilnoaaGreatDoorH32
import Derived.Test.YtjemlgdkjilnoaaGreatDoorH28
import Derived.Test.YtjemlgdkjilnoaaGreatDoorH1
import Derived.Deep.RegionHeld3
import Derived.Test.YtjemlgdkjilnoaaGreatDoorH31
import Derived.Test.YtjemlgdkjilnoaaGreatDoorH25
import Derived.Test.YtjemlgdkjilnoaaGreatDoorM3
import Derived.Test.YtjemlgdkjilnoaaGreatDoorH14
import Derived.Test.YtjemlgdkjilnoaaGreatDoorH34
set_option maxRecDepth 100000
set_option maxHeartbeats 8000000
namespace Go.Proofs.YtjemlgdkjilnoaaGreatDoor
open Go.RowKit
set_option linter.unusedVariables false
theorem akU (p q pw:Nat)(F:Nat→Prop)(w:World)(s:Wl.Ws)(tt:Nat)(cs:Array Value)(hb:w.heap[p]? =some (.cells cs 56 (0,0)))(h8:cs[8]? =some (.pointer (some ⟨pw,0,none⟩)))(h9:cs[9]? =some (.int .i64 s.l.length))(h:WW pw q F w s)(hs:Big 50000000 500000 s.d)(hp:¬F p)(hto:tt≤s.l.length)(hl:s.l.length≤2000)
  (hin:(Wl.aR s.l).length≤(Wl.hld s.d).length) (e1:(Wl.iQ s tt).1=0) (e2:(Wl.rO (Wl.iQ s tt).2).1=0):
  Calls Tryz.prog 188 #[.pointer (some ⟨p,8,none⟩),.int .i64 tt] w fun E w'=>E=.returned (.int .i64 0)∧∃F',WW pw q F' w' (Wl.rO (Wl.iQ s tt).2).2∧w'.heap[p]? =some (.cells (cs.setIfInBounds 9 (.int .i64 tt)) 56 (0,0))∧Out (fun g=>F g∨g=p) w w'∧∀g,F' g→F g∨w.heap.size≤g:=by
 have hpl:=ax hb
 have c8:=ai hb 8 h8
 have c9:=ai hb 9 h9
 have hd:Below w.heap.size w w.drew:=(Below.refl _ _).drew
 have HF:Hid (Calls Tryz.prog 49 #[.pointer (some ⟨pw,0,none⟩),.int .i64 (tt+1),.int .i64 s.l.length] w.drew fun E w'=>∃v,E=.returned v∧Below w.heap.size w w'∧w'.cell? ⟨p,8,none⟩=some (.pointer (some ⟨pw,0,none⟩))∧w'.cell? ⟨p,9,none⟩=some (.int .i64 s.l.length)):=hide (by
  refine(wP pw q _ w.drew _ (tt+1) s.l.length (h.below hd)).mono ?_
  rintro E w' ⟨v,rs,rfl,o1,o2,o3,o4,o5⟩
  have o5:Below w.heap.size w w':=hd.trans o5
  exact⟨v,rfl,o5,ai ((o5.block p hpl).trans hb) 8 h8,ai ((o5.block p hpl).trans hb) 9 h9⟩)
 have b1:Big 50000000 500001 (Wl.iQ s tt).2.d:=by
  unfold Wl.iQ
  split
  ·exact hs.mono (by omega) (by omega)
  ·split
   ·exact hs.mono (by omega) (by omega)
   ·split
    ·exact sZ hs 0 _
    ·exact sZ hs 0 _
 have HW:=hide (And.intro hb (And.intro h (And.intro hs (And.intro hp (And.intro hin b1)))))
 have hwr:IntKind.i64.wrap ((tt:Int)+1)=tt+1:=aX _ (by omega) (by omega)
 obtain⟨n,hn⟩:∃n:Int,n=(s.l.length:Int):=⟨_,rfl⟩
 rw[←hn]at HF c9
 have h9':cs[9]? =some (.int .i64 n):=by rw[hn];exact h9
 clear hn h9
 clear hb h hs hp hin b1
 go_enter Tryz.func188,Tryz.ntmps188
 go_wp2_with fail
 go_region_held3 (fun w'=>w'.cell? ⟨p,8,none⟩=some (.pointer (some ⟨pw,0,none⟩))∧w'.cell? ⟨p,9,none⟩=some (.int .i64 n)) (first|exact⟨c8,c9⟩|exact⟨d8,d9⟩|go_keep)
  (first
  |(go_at_call 49;refine HF.out.mono ?_;rintro E w3 ⟨vv,rfl,b3,d8,d9⟩;have B3:=hide b3;clear b3))
 clear HF
 have HC:=hide (apv pw q F w3 s tt (HW.out.2.1.below B3.out) (HW.out.2.2.1.mono (by decide) (by decide)) (fun _=>HW.out.2.2.2.2.1))
 rw[e1]at HC
 go_wp2_with fail
 refine HC.out.mono ?_
 rintro E w4 ⟨rfl,S4⟩
 have hb4:w4.heap[p]? =some (.cells cs 56 (0,0)):=by
  obtain⟨_,_,k,_⟩:=S4
  exact(k.block p (by have:=B3.out.size;omega) HW.out.2.2.2.1).trans ((B3.out.block p hpl).trans HW.out.1)
 have a8:=ai hb4 8 h8
 have S4:=hide S4
 obtain⟨F4,k1,k2,k3⟩:=S4.out
 have HY:=hide (acV pw q F4 w4 _ k1 (HW.out.2.2.2.2.2.mono (by decide) (by decide)))
 rw[e2]at HY
 have K:=hide (And.intro k2 k3)
 have H4:=hide hb4
 clear HC k1 k2 k3 hb4 S4
 go_wp2_with fail
 refine HY.out.mono ?_
 rintro E w5 ⟨rfl,F5,m1,m2,m3⟩
 have nF4:¬F4 p:=fun e=>by
  rcases K.out.2 p e with e|e
  ·exact HW.out.2.2.2.1 e
  ·have:=B3.out.size;omega
 have hb5:w5.heap[p]? =some (.cells cs 56 (0,0)):=(m2.block p (ax H4.out) nF4).trans H4.out
 obtain⟨V',hV',PV,gV,fz⟩:=putAt hb5 9 (.int .i64 tt)
 have a9:=ai hb5 9 h9'
 have nF5:¬F5 p:=fun e=>by
  rcases m3 p e with e|e
  ·exact nF4 e
  ·have:=ax H4.out;omega
 have X:Hid (∃F',WW pw q F' V' (Wl.rO (Wl.iQ s tt).2).2∧V'.heap[p]? =some (.cells (cs.setIfInBounds 9 (.int .i64 tt)) 56 (0,0))∧Out (fun g=>F g∨g=p) w V'∧∀g,F' g→F g∨w.heap.size≤g):=hide (by
  have z3:=B3.out.size
  have o4:Out F w w4:=(Out.of_below B3.out).trans K.out.1 fun g e=>.inl e
  have o5:Out F w w5:=o4.trans m2 fun g e=>by
   rcases K.out.2 g e with e|e
   ·exact .inl e
   ·exact .inr (by omega)
  have oV:Out (fun g=>g=p) w5 V':=Out.aV gV fun g e=>by simpa using e.symm
  refine⟨F5,m1.out oV fun g e k=>nF5 (k▸e),PV,(o5.mono fun g e=>.inl (.inl e)).trans oV fun g e=>.inl (.inr e),fun g e=>?_⟩
  rcases m3 g e with e|e
  ·rcases K.out.2 g e with e|e
   ·exact .inl e
   ·exact .inr (by omega)
  ·have:=o4.size
   exact .inr (by omega))
 clear HY m1 m2 m3 gV PV H4 K HW hb5
 go_wp2
 go_ret
 exact⟨rfl,X.out⟩
theorem apm (l:List Cm.Cv)(n:Int)(h0:0≤n)(h:n≤l.length):zB l (n+1) l.length=l.drop n.toNat:=by
 unfold zB
 split
 ·rename_i k
  have:l.length≤n.toNat:=by omega
  rw[List.drop_eq_nil_of_le this]
 ·rw[show(n+1).toNat-1=n.toNat by omega]
  exact List.take_of_length_le (by rw[List.length_drop];omega)
theorem vJ (P q pw pr:Nat)(F Gw Gr:Nat→Prop)(w:World)(off:Bool)(x:Pm.Pg)(vs:Value)(d:Dm.Ds)(l r:List Cm.Cv)(hb:w.heap[P]? =some (.cells (eD q off x (.pointer (some ⟨pw,0,none⟩)) l.length (.pointer (some ⟨pr,0,none⟩)) vs) 56 (0,0)))(hp:∃o,vs=.pointer o)(hd:Pk q F w d)(h1:Wk pw q Gw w l false)(h2:Rk pr q Gr w r false)(hle:Cm.lastN 0 r≤l.length)(hll:l.length≤100000):
  Calls Tryz.prog 41 #[.pointer (some ⟨P,0,none⟩)] w fun E w'=>E=.returned (.int .i64 0)∧∃ps,∃Gs,Sk ps pr Gs w' (l.drop (Cm.lastN 0 r).toNat)∧(∀g,Gs g→w.heap.size≤g)∧w'.heap[P]? =some (.cells (eD q off x (.pointer (some ⟨pw,0,none⟩)) l.length (.pointer (some ⟨pr,0,none⟩)) (.pointer (some ⟨ps,0,none⟩))) 56 (0,0))∧Out (fun g=>g=P) w w':=by
 obtain⟨o,rfl⟩:=hp
 have hpl:=ax hb
 have hgr:Rl.Good 0 r:=by
  obtain⟨v,rs,k,_⟩:=h2
  exact k.log.good
 have h0n:0≤Cm.lastN 0 r:=(Rl.eG hgr).2.1
 have hgl:=h1.good
 have hgd:Cm.Good 1 (Cm.lastN 0 r) (l.drop (Cm.lastN 0 r).toNat):=by
  have:=Sto.wE (Rst.yx hgl) (Cm.lastN 0 r).toNat (by omega)
  rw[show(0:Int)+((Cm.lastN 0 r).toNat:Int)=Cm.lastN 0 r by omega]at this
  exact this
 have hfr:=apm l (Cm.lastN 0 r) h0n hle
 obtain⟨K,hK⟩:∃K:World→Prop,K=fun W=>Hid (W.heap[P]? =w.heap[P]?∧Below w.heap.size w W):=⟨_,rfl⟩
 have HE:Hid (∀W,K W→Calls Tryz.prog 84 #[.pointer (some ⟨pr,0,none⟩)] W fun E w'=>E=.returned (.int .i64 (Cm.lastN 0 r))∧K w'):=hide fun W k=>by
  subst hK
  refine(l8 pr q _ W ⟨d,r,false⟩ ⟨F,Gr,hd.below k.out.2,h2.below k.out.2,rfl⟩).mono ?_
  rintro E w' ⟨rfl,rfl⟩
  exact⟨rfl,k⟩
 have HF:Hid (∀W,K W→Calls Tryz.prog 49 #[.pointer (some ⟨pw,0,none⟩),.int .i64 (Cm.lastN 0 r+1),.int .i64 l.length] W fun E w'=>∃a n k rs,E=.returned (.slice a n k)∧Hid (dJ w' (.slice a n k) rs∧az rs=l.drop (Cm.lastN 0 r).toNat)∧K w'):=hide fun W k=>by
  subst hK
  refine(wP pw q _ W ⟨d,l,false⟩ (Cm.lastN 0 r+1) l.length ⟨F,Gw,hd.below k.out.2,h1.below k.out.2,rfl⟩).mono ?_
  rintro E w' ⟨v,rs,rfl,o1,o2,o3,o4,o5⟩
  have b:=k.out.2.trans (o5.mono k.out.2.size)
  have o3:az rs=l.drop (Cm.lastN 0 r).toNat:=o3.trans hfr
  have hic:dJ w' v rs:=⟨o1.row,fun c hc=>⟨(o2 c hc).is,by
   have hm:c.c∈l.drop (Cm.lastN 0 r).toNat:=by rw[←o3];exact List.mem_map_of_mem hc
   have:=Sto.fV hgd c.c hm
   have h3:=Cm.aQ this.1
   have e1:c.c.e=c.e:=rfl
   have e2:c.c.n=c.n:=rfl
   unfold In64
   omega⟩⟩
  obtain⟨a,n,kk,rfl⟩:∃a n k,v=.slice a n k:=by
   rcases hic.1 with⟨h,_⟩|⟨a,c,h,_⟩
   ·exact⟨_,_,_,h⟩
   ·exact⟨_,_,_,h⟩
  exact⟨a,n,kk,rs,rfl,hide ⟨hic,o3⟩,hide ⟨b.block P hpl,b⟩⟩
 have HO:Hid (∀W,K W→∀a n k rs,Hid (dJ W (.slice a n k) rs∧az rs=l.drop (Cm.lastN 0 r).toNat)→Calls Tryz.prog 86 #[.pointer (some ⟨pr,0,none⟩),.slice a n k] W fun E w'=>∃ps,E=.returned (.tuple #[.pointer (some ⟨ps,0,none⟩),.int .i64 0])∧Hid (∃Gs,Sk ps pr Gs w' (l.drop (Cm.lastN 0 r).toNat)∧∀g,Gs g→w.heap.size≤g)∧K w'):=hide fun W k a n kk rs RC=>by
  subst hK
  have hz:=k.out.2.size
  have hfc:dV rs:=fun c hc=>by
   have hm:c.c∈l.drop (Cm.lastN 0 r).toNat:=by rw[←RC.out.2];exact List.mem_map_of_mem hc
   obtain⟨_,_,_,_,h5⟩:=Cm.aQ (Sto.fV hgd c.c hm).1
   have:=(Bm.dI h5).2.1
   exact⟨(mZ h5).fit,by show c.c.l.length*40≤_;omega⟩
  have hrl:rs.length≤100000:=by
   have:=congrArg List.length RC.out.2
   unfold az at this
   rw[List.length_map,List.length_drop]at this
   omega
  refine(alF pr q _ W ⟨d,r,false⟩ _ rs ⟨F,Gr,hd.below k.out.2,h2.below k.out.2,rfl⟩ RC.out.1 hfc hrl).mono ?_
  have hf0:(Cm.fol 1 (Cm.lastN 0 r) 0 (az rs)).1=0:=(Cm.eY _ _ _ 0).2 (by rw[RC.out.2];exact hgd)
  rintro E w' (⟨h,_⟩|⟨_,ps,rfl,Gs,g1,g2,g3⟩)
  ·exact absurd hf0 h
  ·have b:=k.out.2.trans (g3.mono hz)
   rw[RC.out.2]at g1
   exact⟨ps,rfl,hide ⟨Gs,g1,fun g hg=>by have:=g2 g hg;omega⟩,hide ⟨b.block P hpl,b⟩⟩
 have hwr:IntKind.i64.wrap (Cm.lastN 0 r+1)=Cm.lastN 0 r+1:=aX _ (by omega) (by omega)
 have HL:Hid (∃m,m=l.drop (Cm.lastN 0 r).toNat):=hide ⟨_,rfl⟩
 obtain⟨SS,hSS⟩:∃SS:Int→World→Prop,SS=fun en=>(fun W=>W.cell? ⟨P,8,none⟩=some (.pointer (some ⟨pw,0,none⟩))∧W.cell? ⟨P,9,none⟩=some (.int .i64 en)∧W.cell? ⟨P,11,none⟩=some (.pointer (some ⟨pr,0,none⟩))):=⟨_,rfl⟩
 have sB:∀W,W.heap[P]? =w.heap[P]?→SS l.length W:=fun W k=>by
  subst hSS
  obtain⟨c0,_,c2,c3,c4,c5,c6,c7,c8,c9,_,c11,_⟩:=l9 (k.trans hb)
  exact⟨c8,c9,c11⟩
 have KS:Hid (∀W,K W→SS l.length W):=hide fun W k=>by
  subst hK
  exact sB W k.out.1
 have PT:Hid (∀W ps,K W→Hid (∃Gs,Sk ps pr Gs W (l.drop (Cm.lastN 0 r).toNat)∧∀g,Gs g→w.heap.size≤g)→∃V,W.setCell ⟨P,12,none⟩ (.pointer (some ⟨ps,0,none⟩))=V∧W.cell? ⟨P,12,none⟩=some (.pointer o)∧W.frozen? ⟨P,12,none⟩=false∧(SS l.length V∧∃Gs,Sk ps pr Gs V (l.drop (Cm.lastN 0 r).toNat)∧(∀g,Gs g→w.heap.size≤g)∧V.heap[P]? =some (.cells (eD q off x (.pointer (some ⟨pw,0,none⟩)) l.length (.pointer (some ⟨pr,0,none⟩)) (.pointer (some ⟨ps,0,none⟩))) 56 (0,0))∧Out (fun g=>g=P) w V)):=hide fun W ps k sk=>by
  subst hK hSS
  obtain⟨Gs,s1,s2⟩:=sk.out
  have pW:=k.out.1.trans hb
  have oV:Out (fun g=>g=P) W (W.setCell ⟨P,12,none⟩ (.pointer (some ⟨ps,0,none⟩))):=Out.aV (aB W ⟨P,12,none⟩ (.pointer (some ⟨ps,0,none⟩))) fun i hi=>by simpa using hi.symm
  have pV:(W.setCell ⟨P,12,none⟩ (.pointer (some ⟨ps,0,none⟩))).heap[P]? =some (.cells (eD q off x (.pointer (some ⟨pw,0,none⟩)) l.length (.pointer (some ⟨pr,0,none⟩)) (.pointer (some ⟨ps,0,none⟩))) 56 (0,0)):=aI pW 12 (.pointer (some ⟨ps,0,none⟩))
  obtain⟨_,_,_,_,_,_,_,_,c8,c9,_,c11,_⟩:=l9 pV
  exact⟨_,rfl,ai pW 12 rfl,aC pW 12,⟨c8,c9,c11⟩,Gs,s1.out oV fun g hg e=>by have:=s2 g hg;omega,s2,pV,(Out.of_below k.out.2).trans oV fun g hg=>.inl hg⟩
 obtain⟨W0,hW0⟩:∃W,w.drew=W:=⟨_,rfl⟩
 have K0:K W0:=by
  subst hK
  rw[←hW0]
  exact hide ⟨rfl,(Below.refl _ _).drew⟩
 subst hK hSS
 simp only at KS PT
 generalize (l.length:Int)=en at*
 generalize l.drop (Cm.lastN 0 r).toNat=rest at*
 generalize Cm.lastN 0 r=n at*
 clear h1 h2 hd hb sB hgr hgl hgd hfr hle hll HL
 go_enter Tryz.func41,Tryz.ntmps41
 go_wp2_with fail
 refine mH (ops:=(aA 1 Tryz.f41)) (S:=fun W=>W.cell? ⟨P,8,none⟩=some (.pointer (some ⟨pw,0,none⟩))∧W.cell? ⟨P,9,none⟩=some (.int .i64 en)∧W.cell? ⟨P,11,none⟩=some (.pointer (some ⟨pr,0,none⟩))) (by kernel_rfl) amD ?_
 rw[asg,hW0]
 refine aJ (v:=?_) anH (by kernel_rfl) (fun _ _ _ _ _ h=>h) (KS.out _ K0) rfl rfl (by rfl) ?_ ?_
 rotate_left 1
 ·intro w hS
  (try dsimp only at hS)
  go_simp
  all_goals with_reducible rfl
 simp only[Act.put,List.setIfInBounds_toArray,List.set_cons_zero,List.set_cons_succ]
 refine aJ (v:=?_) apo (by kernel_rfl) (fun _ _ _ _ _ h=>h) (KS.out _ K0) rfl rfl (by rfl) ?_ ?_
 rotate_left 1
 ·intro w hS
  (try dsimp only at hS)
  go_simp
  all_goals with_reducible rfl
 simp only[Act.put,List.setIfInBounds_toArray,List.set_cons_zero,List.set_cons_succ]
 refine aJ (v:=?_) apu (by kernel_rfl) (fun _ _ _ _ _ h=>h) (KS.out _ K0) rfl rfl (by rfl) ?_ ?_
 rotate_left 1
 ·intro w hS
  (try dsimp only at hS)
  go_simp
  all_goals with_reducible rfl
 simp only[Act.put,List.setIfInBounds_toArray,List.set_cons_zero,List.set_cons_succ]
 refine aJ (v:=?_) apH (by kernel_rfl) (fun _ _ _ _ _ h=>h) (KS.out _ K0) rfl rfl (by rfl) ?_ ?_
 rotate_left 1
 ·intro w hS
  (try dsimp only at hS)
  go_simp
  all_goals with_reducible rfl
 simp only[Act.put,List.setIfInBounds_toArray,List.set_cons_zero,List.set_cons_succ]
 refine aJ (v:=?_) alH (by kernel_rfl) (fun _ _ _ _ _ h=>h) (KS.out _ K0) rfl rfl (by rfl) ?_ ?_
 rotate_left 1
 ·intro w hS
  (try dsimp only at hS)
  go_simp
  all_goals with_reducible rfl
 simp only[Act.put,List.setIfInBounds_toArray,List.set_cons_zero,List.set_cons_succ]
 refine aJ (v:=?_) ajq (by kernel_rfl) (fun _ _ _ _ _ h=>h) (KS.out _ K0) rfl rfl (by rfl) ?_ ?_
 rotate_left 1
 ·intro w hS
  (try dsimp only at hS)
  go_simp
  all_goals with_reducible rfl
 simp only[Act.put,List.setIfInBounds_toArray,List.set_cons_zero,List.set_cons_succ]
 refine aJ (v:=?_) alo (by kernel_rfl) (fun _ _ _ _ _ h=>h) (KS.out _ K0) rfl rfl (by rfl) ?_ ?_
 rotate_left 1
 ·intro w hS
  (try dsimp only at hS)
  go_simp
  all_goals with_reducible rfl
 simp only[Act.put,List.setIfInBounds_toArray,List.set_cons_zero,List.set_cons_succ]
 refine aJ (v:=?_) ajo (by kernel_rfl) (fun _ _ _ _ _ h=>h) (KS.out _ K0) rfl rfl (by rfl) ?_ ?_
 rotate_left 1
 ·intro w hS
  (try dsimp only at hS)
  go_simp
  all_goals with_reducible rfl
 simp only[Act.put,List.setIfInBounds_toArray,List.set_cons_zero,List.set_cons_succ]
 refine aJ (v:=?_) ahR (by kernel_rfl) (fun _ _ _ _ _ h=>h) (KS.out _ K0) rfl rfl (by rfl) ?_ ?_
 rotate_left 1
 ·intro w hS
  (try dsimp only at hS)
  go_simp
  all_goals with_reducible rfl
 simp only[Act.put,List.setIfInBounds_toArray,List.set_cons_zero,List.set_cons_succ]
 refine aJ (v:=?_) aiM (by kernel_rfl) (fun _ _ _ _ _ h=>h) (KS.out _ K0) rfl rfl (by rfl) ?_ ?_
 rotate_left 1
 ·intro w hS
  (try dsimp only at hS)
  go_simp
  all_goals with_reducible rfl
 simp only[Act.put,List.setIfInBounds_toArray,List.set_cons_zero,List.set_cons_succ]
 refine aJ (v:=?_) afd (by kernel_rfl) (fun _ _ _ _ _ h=>h) (KS.out _ K0) rfl rfl (by rfl) ?_ ?_
 rotate_left 1
 ·intro w hS
  (try dsimp only at hS)
  go_simp
  all_goals with_reducible rfl
 simp only[Act.put,List.setIfInBounds_toArray,List.set_cons_zero,List.set_cons_succ]
 refine aJ (v:=?_) afY (by kernel_rfl) (fun _ _ _ _ _ h=>h) (KS.out _ K0) rfl rfl (by rfl) ?_ ?_
 rotate_left 1
 ·intro w hS
  (try dsimp only at hS)
  go_simp
  all_goals with_reducible rfl
 simp only[Act.put,List.setIfInBounds_toArray,List.set_cons_zero,List.set_cons_succ]
 refine aJ (v:=?_) aeS (by kernel_rfl) (fun _ _ _ _ _ h=>h) (KS.out _ K0) rfl rfl (by rfl) ?_ ?_
 rotate_left 1
 ·intro w hS
  (try dsimp only at hS)
  go_simp
  all_goals with_reducible rfl
 simp only[Act.put,List.setIfInBounds_toArray,List.set_cons_zero,List.set_cons_succ]
 refine aJ (v:=?_) afL (by kernel_rfl) (fun _ _ _ _ _ h=>h) (KS.out _ K0) rfl rfl (by rfl) ?_ ?_
 rotate_left 1
 ·intro w hS
  (try dsimp only at hS)
  go_simp
  all_goals with_reducible rfl
 simp only[Act.put,List.setIfInBounds_toArray,List.set_cons_zero,List.set_cons_succ]
 refine aJ (v:=?_) ado (by kernel_rfl) (fun _ _ _ _ _ h=>h) (KS.out _ K0) rfl rfl (by rfl) ?_ ?_
 rotate_left 1
 ·intro w hS
  (try dsimp only at hS)
  go_simp
  all_goals with_reducible rfl
 simp only[Act.put,List.setIfInBounds_toArray,List.set_cons_zero,List.set_cons_succ]
 refine aJ (v:=?_) adu (by kernel_rfl) (fun _ _ _ _ _ h=>h) (KS.out _ K0) rfl rfl (by rfl) ?_ ?_
 rotate_left 1
 ·intro w hS
  (try dsimp only at hS)
  go_simp
  all_goals with_reducible rfl
 simp only[Act.put,List.setIfInBounds_toArray,List.set_cons_zero,List.set_cons_succ]
 refine aJ (v:=?_) adm (by kernel_rfl) (fun _ _ _ _ _ h=>h) (KS.out _ K0) rfl rfl (by rfl) ?_ ?_
 rotate_left 1
 ·intro w hS
  (try dsimp only at hS)
  go_simp
  all_goals with_reducible rfl
 simp only[Act.put,List.setIfInBounds_toArray,List.set_cons_zero,List.set_cons_succ]
 refine aJ (v:=?_) abP (by kernel_rfl) (fun _ _ _ _ _ h=>h) (KS.out _ K0) rfl rfl (by rfl) ?_ ?_
 rotate_left 1
 ·intro w hS
  (try dsimp only at hS)
  go_simp
  all_goals with_reducible rfl
 simp only[Act.put,List.setIfInBounds_toArray,List.set_cons_zero,List.set_cons_succ]
 refine aJ (v:=?_) abG (by kernel_rfl) (fun _ _ _ _ _ h=>h) (KS.out _ K0) rfl rfl (by rfl) ?_ ?_
 rotate_left 1
 ·intro w hS
  (try dsimp only at hS)
  go_simp
  all_goals with_reducible rfl
 simp only[Act.put,List.setIfInBounds_toArray,List.set_cons_zero,List.set_cons_succ]
 refine aJ (v:=?_) abt (by kernel_rfl) (fun _ _ _ _ _ h=>h) (KS.out _ K0) rfl rfl (by rfl) ?_ ?_
 rotate_left 1
 ·intro w hS
  (try dsimp only at hS)
  go_simp
  all_goals with_reducible rfl
 simp only[Act.put,List.setIfInBounds_toArray,List.set_cons_zero,List.set_cons_succ]
 refine aJ (v:=?_) aaB (by kernel_rfl) (fun _ _ _ _ _ h=>h) (KS.out _ K0) rfl rfl (by rfl) ?_ ?_
 rotate_left 1
 ·intro w hS
  (try dsimp only at hS)
  go_simp
  all_goals with_reducible rfl
 simp only[Act.put,List.setIfInBounds_toArray,List.set_cons_zero,List.set_cons_succ]
 refine aS aem ?_
 refine aK rfl (by rfl) (fun K hK=>?_)
 go_simp
 refine(HE.out _ K0).mono ?_
 rintro E U1 ⟨rfl,k1⟩
 go_wp2_with fail
 refine hK.out _ _ (KS.out _ k1) ?_
 clear hK K
 try simp only[Act.put,List.setIfInBounds_toArray,List.set_cons_zero,List.set_cons_succ]
 refine aJ (v:=?_) abb (by kernel_rfl) (fun _ _ _ _ _ h=>h) (KS.out _ k1) rfl rfl (by rfl) ?_ ?_
 rotate_left 1
 ·intro w hS
  (try dsimp only at hS)
  go_simp
  all_goals with_reducible rfl
 simp only[Act.put,List.setIfInBounds_toArray,List.set_cons_zero,List.set_cons_succ]
 refine aS af4 ?_
 refine aK rfl (by rfl) (fun K hK=>?_)
 go_simp
 refine(HF.out _ k1).mono ?_
 rintro E U2 ⟨ro,rn,rk,rs,rfl,RC,k2⟩
 go_wp2_with fail
 refine hK.out _ _ (KS.out _ k2) ?_
 clear hK K
 try simp only[Act.put,List.setIfInBounds_toArray,List.set_cons_zero,List.set_cons_succ]
 refine aS ady ?_
 refine aK rfl (by rfl) (fun K hK=>?_)
 go_simp
 refine(HO.out _ k2 _ _ _ rs RC).mono ?_
 rintro E U3 ⟨pn,rfl,SK,k3⟩
 go_wp2_with fail
 refine hK.out _ _ (KS.out _ k3) ?_
 clear hK K
 try simp only[Act.put,List.setIfInBounds_toArray,List.set_cons_zero,List.set_cons_succ]
 refine aJ (v:=?_) aab (by kernel_rfl) (fun _ _ _ _ _ h=>h) (KS.out _ k3) rfl rfl (by rfl) ?_ ?_
 rotate_left 1
 ·intro w hS
  (try dsimp only at hS)
  go_simp
  all_goals with_reducible rfl
 simp only[Act.put,List.setIfInBounds_toArray,List.set_cons_zero,List.set_cons_succ]
 refine aJ (v:=?_) aaj (by kernel_rfl) (fun _ _ _ _ _ h=>h) (KS.out _ k3) rfl rfl (by rfl) ?_ ?_
 rotate_left 1
 ·intro w hS
  (try dsimp only at hS)
  go_simp
  all_goals with_reducible rfl
 simp only[Act.put,List.setIfInBounds_toArray,List.set_cons_zero,List.set_cons_succ]
 refine aJ (v:=?_) yT (by kernel_rfl) (fun _ _ _ _ _ h=>h) (KS.out _ k3) rfl rfl (by rfl) ?_ ?_
 rotate_left 1
 ·intro w hS
  (try dsimp only at hS)
  go_simp
  all_goals with_reducible rfl
 simp only[Act.put,List.setIfInBounds_toArray,List.set_cons_zero,List.set_cons_succ]
 refine aJ (v:=?_) yU (by kernel_rfl) (fun _ _ _ _ _ h=>h) (KS.out _ k3) rfl rfl (by rfl) ?_ ?_
 rotate_left 1
 ·intro w hS
  (try dsimp only at hS)
  go_simp
  all_goals with_reducible rfl
 simp only[Act.put,List.setIfInBounds_toArray,List.set_cons_zero,List.set_cons_succ]
 refine aJ (v:=?_) yO (by kernel_rfl) (fun _ _ _ _ _ h=>h) (KS.out _ k3) rfl rfl (by rfl) ?_ ?_
 rotate_left 1
 ·intro w hS
  (try dsimp only at hS)
  go_simp
  all_goals with_reducible rfl
 simp only[Act.put,List.setIfInBounds_toArray,List.set_cons_zero,List.set_cons_succ]
 refine aJ (v:=?_) xE (by kernel_rfl) (fun _ _ _ _ _ h=>h) (KS.out _ k3) rfl rfl (by rfl) ?_ ?_
 rotate_left 1
 ·intro w hS
  (try dsimp only at hS)
  go_simp
  all_goals with_reducible rfl
 simp only[Act.put,List.setIfInBounds_toArray,List.set_cons_zero,List.set_cons_succ]
 refine aS aaT ?_
 obtain⟨V,hV,a12,f12,SV⟩:=PT.out _ pn k3 SK
 have SV:=hide SV
 refine aK rfl (by rfl) (fun K hK=>?_)
 go_simp
 go_wp2_with fail
 refine hK.out _ _ SV.out.1 ?_
 clear hK K
 try simp only[Act.put,List.setIfInBounds_toArray,List.set_cons_zero,List.set_cons_succ]
 refine aJ (v:=?_) xI (by kernel_rfl) (fun _ _ _ _ _ h=>h) SV.out.1 rfl rfl (by rfl) ?_ ?_
 rotate_left 1
 ·intro w hS
  (try dsimp only at hS)
  go_simp
  all_goals with_reducible rfl
 simp only[Act.put,List.setIfInBounds_toArray,List.set_cons_zero,List.set_cons_succ]
 refine dz asu ?_
 clear HE HF HO KS PT
 go_wp2
 go_ret
 exact⟨rfl,pn,SV.out.2⟩
theorem alW (w:World)(p g3:Nat)(x:Pm.Pg)(ep en rn u:Int)(h3:w.heap[g3]? =some (.cells #[.int .i64 u] 3 (0,0))):Chg w p 186 #[.pointer (some ⟨g3,0,none⟩)] x ep en rn x ep u rn:=by
 intro W g hW hg hP
 show Calls _ _ #[.pointer (some ⟨g,0,none⟩),.pointer (some ⟨g3,0,none⟩)] _ _
 have d0:=ai ((hW.block g3 (ax h3)).trans h3) 0 rfl
 unfold jm at hP⊢
 obtain⟨c0,c1,c2,c3,c4,c5,c6,c7,c8,c9⟩:=mi hP
 have f7:=aC hP 7
 have q7:=aI hP 7 (.int .i64 u)
 have gr:=aB W ⟨g,7,none⟩ (.int .i64 u)
 obtain⟨V,hV⟩:∃V,W.setCell ⟨g,7,none⟩ (.int .i64 u)=V:=⟨_,rfl⟩
 rw[hV]at q7 gr
 have R:Hid (V.heap[g]? =some (.cells #[.int .i64 x.e,.int .u8 x.r,.int .i64 x.a,.int .u8 x.p,.int .i64 x.f,.int .i64 x.b,.int .i64 ep,.int .i64 u,.int .i64 rn,.func (.func 85) #[.pointer (some ⟨p,0,none⟩)] #[]] 98 (0,0))∧Out (fun i=>i=g) W V):=hide ⟨q7,Out.aV gr fun i hi=>by simpa using hi.symm⟩
 clear q7 gr h3 hP
 go_enter Tryz.func186,Tryz.ntmps186
 go_wp2
 go_end0
 exact⟨rfl,R.out⟩
theorem ahN (g2 g3 p:Nat)(w:World)(r:Int)(h2:w.cell? ⟨g2,0,none⟩=some (.pointer (some ⟨p,0,none⟩)))(hs:Calls Tryz.prog 62 #[.pointer (some ⟨p,0,none⟩),.func (.func 186) #[] #[.pointer (some ⟨g3,0,none⟩)]] w fun E w'=>E=.returned (.int .i64 r)∧Below w.heap.size w w'):
  Calls Tryz.prog 185 #[.pointer (some ⟨g2,0,none⟩),.pointer (some ⟨g3,0,none⟩)] w fun E w'=>E=.returned (.int .i64 r)∧Below w.heap.size w w':=by
 have qP:∀(fn:Fn) (first cap:Array Value) (w:World),(Instr.makeFunc fn first cap).run Tryz.prog w=.ok (.func fn first cap) w:=fun _ _ _ _=>rfl
 have PC:=hide hs
 clear hs
 go_enter Tryz.func185,Tryz.ntmps185
 go_wp2_with fail
 refine PC.out.mono ?_
 rintro E w' ⟨rfl,b⟩
 have B:=hide b
 clear b PC
 go_wp2
 go_ret
 exact⟨rfl,B.out⟩
theorem aik (g2 g3 p:Nat)(w:World)(u r:Int)(X:World→Prop)(h2:w.cell? ⟨g2,0,none⟩=some (.pointer (some ⟨p,0,none⟩)))(h3:w.cell? ⟨g3,0,none⟩=some (.int .i64 u))(hs:Calls Tryz.prog 188 #[.pointer (some ⟨p,8,none⟩),.int .i64 u] w.drew fun E w'=>E=.returned (.int .i64 r)∧X w')(hX:∀w',X w'→w'.cell? ⟨g2,0,none⟩=some (.pointer (some ⟨p,0,none⟩))∧w'.cell? ⟨g3,0,none⟩=some (.int .i64 u)):
  Calls Tryz.prog 187 #[.pointer (some ⟨g2,0,none⟩),.pointer (some ⟨g3,0,none⟩)] w fun E w'=>E=.returned (.int .i64 r)∧X w':=by
 have PC:=hide hs
 have HX:=hide hX
 clear hs hX
 go_enter Tryz.func187,Tryz.ntmps187
 go_wp2_with fail
 go_region_held3 (fun w'=>w'.cell? ⟨g2,0,none⟩=some (.pointer (some ⟨p,0,none⟩))∧w'.cell? ⟨g3,0,none⟩=some (.int .i64 u)) (first|exact⟨h2,h3⟩|exact hK|go_keep)
  (first
  |(go_at_call 188;refine PC.out.mono ?_;rintro E w' ⟨rfl,k⟩;have hK:=HX.out _ k;have K:=hide k;clear k))
 go_wp2
 go_ret
 exact⟨rfl,K.out⟩
theorem agj (p q:Nat)(F:Nat→Prop)(w:World)(s:Rst.St)(h:PS p q F w s)(hR:o9 s)(h3:T3 s.d∧¬F 0)(dR:Rst.asked s=false)(hrr:s.r=[])(u:Nat)(hu:u≤s.l.length)(hin:(Wl.aR s.l).length≤(Wl.hld s.d).length)(hcut:(Rst.cut s u).1=0)(hch:ql s.p (Cm.lastE 0 s.l) u 0 (Rst.hf 3 s.d).length=true):
  Calls Tryz.prog 142 #[.pointer (some ⟨p,0,none⟩),.int .i64 u] w fun E w'=>E=.returned (.int .i64 0)∧bM p q F w w' ⟨(Rst.cut s u).2,s.p,s.l.take u,s.r,s.off⟩:=by
 have qP:∀(fn:Fn) (first cap:Array Value) (w:World),(Instr.makeFunc fn first cap).run Tryz.prog w=.ok (.func fn first cap) w:=fun _ _ _ _=>rfl
 obtain⟨w1,hw1,s1,b1,P1⟩:=ak w #[.pointer (some ⟨p,0,none⟩)] 22
 obtain⟨w2,hw2,s2,b2,P2⟩:=ak w1 #[.int .i64 u] 3
 obtain⟨w3,hw3,s3,b3,P3⟩:=ak w2 #[.func (.func 58) #[.pointer (some ⟨p,0,none⟩)] #[],.func (.func 183) #[] #[.pointer (some ⟨w.heap.size,0,none⟩),.pointer (some ⟨w.heap.size+1,0,none⟩)],.func (.func 185) #[] #[.pointer (some ⟨w.heap.size,0,none⟩),.pointer (some ⟨w.heap.size+1,0,none⟩)],.func (.func 187) #[] #[.pointer (some ⟨w.heap.size,0,none⟩),.pointer (some ⟨w.heap.size+1,0,none⟩)],.func (.func 41) #[.pointer (some ⟨p,0,none⟩)] #[]] 132
 have z2:w2.heap.size=w.heap.size+2:=by omega
 have z3:w3.heap.size=w.heap.size+3:=by omega
 rw[s1]at P2
 rw[z2]at P3
 have fo:Below w.heap.size w w3:=(b1.trans (b2.mono (by omega))).trans (b3.mono (by omega))
 have c2:w2.cell? ⟨w.heap.size,0,none⟩=some (.pointer (some ⟨p,0,none⟩)):=ai ((b2.block _ (by omega)).trans P1) 0 rfl
 have t3:=(b3.block _ (by omega)).trans ((b2.block _ (by omega)).trans P1)
 have u3:=(b3.block _ (by omega)).trans P2
 have pq:=h.below fo
 have hon:s.d.on=true:=by
  unfold Rst.asked at dR
  revert dR
  cases s.d.on<;>simp
 have hoff:s.off=false:=by
  unfold Rst.asked at dR
  revert dR
  cases s.off<;>simp
 have hr0:Cm.lastN 0 s.r=0:=by rw[hrr];rfl
 obtain⟨r,hr⟩:∃r:Int×Rst.St,r=(0,⟨(Rst.cut s u).2,s.p,s.l.take u,s.r,s.off⟩):=⟨_,rfl⟩
 have RUN:Run (w.heap.size+2) (QS p q F w r) [.func (.func 58) #[.pointer (some ⟨p,0,none⟩)] #[],.func (.func 183) #[] #[.pointer (some ⟨w.heap.size,0,none⟩),.pointer (some ⟨w.heap.size+1,0,none⟩)],.func (.func 185) #[] #[.pointer (some ⟨w.heap.size,0,none⟩),.pointer (some ⟨w.heap.size+1,0,none⟩)],.func (.func 187) #[] #[.pointer (some ⟨w.heap.size,0,none⟩),.pointer (some ⟨w.heap.size+1,0,none⟩)],.func (.func 41) #[.pointer (some ⟨p,0,none⟩)] #[]] w3:=by
  refine vg pq (bM.same h fo) (fun k=>by rw[dR]at k;cases k) fun _=>?_
  obtain⟨F1,G,h1,⟨pw,pr,ps,Gw,Gr,Gs,lw,bw,br,V,rfl⟩,hd,hm,rfl⟩:=pq
  obtain⟨rfl,rfl,rfl⟩:=V.live hoff
  have hb:=V.blk
  refine Run.cons (enters_of Tryz.func183 (by kernel_rfl) rfl) (by simp) ((ajp _ _ p w3 u _ (ai t3 0 rfl) (ai u3 0 rfl) (ags p pr q _ w3 _ u _ (ai hb 11 rfl) (ai hb 9 rfl) (V.rw h1))).mono ?_)
  rintro E w4 ⟨rfl,rfl⟩
  refine⟨_,rfl,rfl,?_⟩
  rw[if_neg (by show ¬((u:Int)<Cm.lastN 0 s.r∨(s.l.length:Int)<u);rw[hr0];omega)]
  refine .inr ⟨rfl,?_⟩
  have SC:=wI p q pw pr _ _ w3 _ _ _ _ _ _ hb (V.ww h1) (V.rw h1) 186 #[.pointer (some ⟨w.heap.size+1,0,none⟩)] (enters_of Tryz.func186 (by kernel_rfl) rfl) s.p _ _ _ (Rst.hf 3 s.d).length (alW w3 p (w.heap.size+1) s.p _ _ _ u u3) (fun _=>aiK p q F1 w3 s.d h1 hR.1 (ai hb 0 rfl) (ax hb) hon h3.1)
  simp only at SC
  rw[hr0,if_pos hch]at SC
  refine Run.cons (enters_of Tryz.func185 (by kernel_rfl) rfl) (by simp) ((ahN _ _ p w3 _ (ai t3 0 rfl) SC).mono ?_)
  rintro E w5 ⟨rfl,b5⟩
  have qx:=fo.trans (b5.mono (by omega))
  have z5:=b5.size
  refine⟨_,rfl,b5.block _ (by omega),.inr ⟨rfl,?_⟩⟩
  have t5:=(b5.block _ (by omega)).trans t3
  have u5:=(b5.block _ (by omega)).trans u3
  have b5d:Below w3.heap.size w3 w5.drew:=b5.drew
  have V5:=V.below b5d
  have h15:=h1.below b5d
  have hm5:=hm.below b5d
  have hto:((u:Int)).toNat=u:=by omega
  have hwc:Wl.iQ ⟨s.d,s.l,false⟩ u=(0,⟨(Dm.bG s.d 0 (Wl.aR (s.l.take u)).length).2,s.l.take u,false⟩)∧Wl.rO (Wl.iQ ⟨s.d,s.l,false⟩ u).2=(0,⟨(Rst.cut s u).2,s.l.take u,false⟩):=by
   unfold Rst.cut at hcut
   rw[hto]at hcut
   split at hcut
   ·exact absurd hcut (by simp)
   rename_i g1
   split at hcut
   ·exact absurd hcut (by simp)
   rename_i g2
   have e0:Wl.iQ ⟨s.d,s.l,false⟩ u=(0,⟨(Dm.bG s.d 0 (Wl.aR (s.l.take u)).length).2,s.l.take u,false⟩):=by
    unfold Wl.iQ
    rw[if_neg (by simp[Wl.ask,hon]),if_neg (by show ¬((u:Int)<0∨(s.l.length:Int)<u);omega),hto,if_neg g1]
   have on2:(Dm.bG s.d 0 (Wl.aR (s.l.take u)).length).2.on=true:=by
    cases hq:(Dm.bG s.d 0 (Wl.aR (s.l.take u)).length).2.on with
    |true=>rfl
    |false=>
     exfalso
     apply g2
     unfold Dm.sync
     rw[if_pos hq]
     simp
   refine⟨e0,?_⟩
   rw[e0]
   unfold Wl.rO
   rw[if_neg (by simp[Wl.ask,on2])]
   have e1:(Dm.sync (Dm.bG s.d 0 (Wl.aR (s.l.take u)).length).2).1=0:=Classical.byContradiction fun e=>g2 e
   unfold Rst.cut
   rw[hto,if_neg g1,if_neg g2]
   simp[e1]
  have CT:=akU p q pw _ w5.drew ⟨s.d,s.l,false⟩ u _ V5.blk rfl rfl (V5.ww h15) hR.1 (by
   rintro(e|e)
   ·exact hd p (.inl rfl) e
   ·exact V.np.1 e) hu hR.2 hin (by rw[hwc.1]) (by rw[hwc.2])
  rw[hwc.2]at CT
  have kP:∀g,F1 g∨PB p Gw Gr Gs g→g<w.heap.size:=fun g hg=>h.lt g hg
  obtain⟨XX,hXX⟩:∃XX:World→Prop,XX=fun w'=>∃F',WW pw q F' w' ⟨(Rst.cut s u).2,s.l.take u,false⟩∧w'.heap[p]? =some (.cells (eD q s.off s.p (.pointer (some ⟨pw,0,none⟩)) (u:Int) (.pointer (some ⟨pr,0,none⟩)) (.pointer (some ⟨ps,0,none⟩))) 56 (0,0))∧Out (fun g=>(F1 g∨Gw g)∨g=p) w5.drew w'∧∀g,F' g→(F1 g∨Gw g)∨w5.drew.heap.size≤g:=⟨_,rfl⟩
  have nX:∀g,w.heap.size≤g→¬((F1 g∨Gw g)∨g=p):=by
   rintro g hg ((e|e)|e)
   ·have:=kP g (.inl e);omega
   ·have:=kP g (.inr (.inr (.inl e)));omega
   ·have:=kP p (.inr (.inl rfl));omega
  have hX:∀w',XX w'→∀g,w.heap.size≤g→g<w5.heap.size→w'.heap[g]? =w5.heap[g]? :=by
   intro w' k g g1 g2
   subst hXX
   obtain⟨_,_,_,k,_⟩:=k
   exact k.block g g2 (nX g g1)
  refine Run.cons (enters_of Tryz.func187 (by kernel_rfl) rfl) (by simp) ((aik _ _ p w5 u 0 XX (ai t5 0 rfl) (ai u5 0 rfl) (by subst hXX;exact CT) (fun w' k=>⟨ai ((hX w' k _ (by omega) (by omega)).trans t5) 0 rfl,ai ((hX w' k _ (by omega) (by omega)).trans u5) 0 rfl⟩)).mono ?_)
  rintro E w6 ⟨rfl,k⟩
  have B6:=hX w6 k (w.heap.size+2) (by omega) (by omega)
  refine⟨_,rfl,B6,.inr ⟨rfl,?_⟩⟩
  subst hXX
  obtain⟨FW,⟨F6,G6,d6,wk6,rfl⟩,pb6,o6,n6⟩:=k
  have d6:Pk q F6 w6 (Rst.cut s u).2:=d6
  have wk6:Wk pw q G6 w6 (s.l.take u) false:=wk6
  have z6:=o6.size
  have z6:w5.heap.size≤w6.heap.size:=z6
  have rk6:Rk pr q Gr w6 s.r false:=V5.run.out o6 (by
   rintro g e ((k|k)|k)
   ·exact hd g (.inr (.inr (.inl e))) k
   ·exact V.wr g k e
   ·exact V.np.2.1 (k▸e))
  have ayA:w6.heap[p]? =some (.cells (eD q s.off s.p (.pointer (some ⟨pw,0,none⟩)) (s.l.take u).length (.pointer (some ⟨pr,0,none⟩)) (.pointer (some ⟨ps,0,none⟩))) 56 (0,0)):=by
   rw[show(((s.l.take u).length:Nat):Int)=u by rw[List.length_take];omega]
   exact pb6
  have hm6:fQ w6:=gI hm5 o6 (by
   rintro((e|e)|e)
   ·exact h3.2 (.inl e)
   ·exact h3.2 (.inr (.inr (.inl e)))
   ·exact vW hm V.blk rfl e.symm)
  have OS:=vJ p q pw pr F6 G6 Gr w6 s.off s.p _ _ (s.l.take u) s.r ayA ⟨_,rfl⟩ d6 wk6 rk6 (by rw[hr0];omega) (by have:=hR.2;rw[List.length_take];omega)
  refine Run.cons (enters_of Tryz.func41 (by kernel_rfl) rfl) (by simp) (OS.mono ?_)
  rintro E w7 ⟨rfl,ps7,Gs7,sk7,ge7,pb7,o7⟩
  have np6:¬F6 p:=fun e=>by
   rcases n6 p (.inl e)with(k|k)|k
   ·exact hd p (.inl rfl) k
   ·exact V.np.1 k
   ·have k:w5.heap.size≤p:=k
    have:=kP p (.inr (.inl rfl));omega
  have ng6:¬G6 p:=fun e=>by
   rcases n6 p (.inr e)with(k|k)|k
   ·exact hd p (.inl rfl) k
   ·exact V.np.1 k
   ·have k:w5.heap.size≤p:=k
    have:=kP p (.inr (.inl rfl));omega
  refine⟨_,rfl,o7.block _ (by omega) (fun e=>by have:=kP p (.inr (.inl rfl));omega),.inr ⟨rfl,QS.no hr (by decide) ?_⟩⟩
  have ayc:∀g,G6 g→¬F6 g:=fun g e k=>uW wk6 d6 g e k
  have g6:∀g,F6 g∨G6 g→(F1 g∨PB p Gw Gr Gs g)∨w.heap.size≤g:=fun g e=>by
   rcases n6 g e with(k|k)|k
   ·exact .inl (.inl k)
   ·exact .inl (.inr (.inr (.inl k)))
   ·have k:w5.heap.size≤g:=k
    exact .inr (by omega)
  have nr6:∀g,F6 g∨G6 g→¬Gr g:=fun g e j=>by
   rcases n6 g e with(k|k)|k
   ·exact hd g (.inr (.inr (.inl j))) k
   ·exact V.wr g k j
   ·have k:w5.heap.size≤g:=k
    have:=kP g (.inr (.inr (.inr (.inl j))));omega
  have p0:=kP p (.inr (.inl rfl))
  refine⟨fun g=>F6 g∨PB p G6 Gr Gs7 g,⟨F6,PB p G6 Gr Gs7,d6.out o7 fun g e k=>np6 (k▸e),⟨pw,pr,ps7,G6,Gr,Gs7,s.l.take u,false,false,⟨pb7,wk6.out o7 fun g e k=>ng6 (k▸e),rk6.out o7 fun g e k=>V.np.2.1 (k▸e),sk7,List.take_length.symm,fun _=>⟨rfl,rfl,rfl⟩,V.ok,V.fit,?_,?_,⟨ng6,V.np.2.1,fun e=>by have:=ge7 p e;omega⟩,fun g e=>nr6 g (.inr e),fun g e k=>by have:=ge7 g k;have:=wk6.lt g e;omega,fun g e k=>by have:=ge7 g k;have:=kP g (.inr (.inr (.inr (.inl e))));omega⟩,rfl⟩,?_,gI hm6 o7 fun e=>vW hm V.blk rfl e.symm,rfl⟩,?_,?_⟩
  ·show Cm.Good 1 (Cm.lastN 0 s.r) ((s.l.take u).drop (Cm.lastN 0 s.r).toNat)
   have:=V.rest
   rw[hr0]at this⊢
   exact Cm.jr (by simpa using this) u
  ·show Cm.lastN 0 s.r≤((s.l.take u).length:Int)
   rw[hr0]
   omega
  ·rintro g (rfl|e|e|e) k
   ·exact np6 k
   ·exact ayc g e k
   ·exact nr6 g (.inl k) e
   ·have:=ge7 g e;have:=d6.lt g k;omega
  ·refine(((Out.of_below fo).trans (Out.of_below b5d) fun g e=>.inl e).trans (o6.mono fun g e=>?_) fun g e=>.inl e).trans (o7.mono fun g e=>.inl (.inr (.inl e))) fun g e=>.inl e
   rcases e with(e|e)|e
   ·exact .inl (.inl e)
   ·exact .inl (.inr (.inr (.inl e)))
   ·exact .inl (.inr (.inl e))
  ·rintro g (e|rfl|e|e|e)
   ·exact g6 g (.inl e)
   ·exact .inl (.inr (.inl rfl))
   ·exact g6 g (.inr e)
   ·exact .inl (.inr (.inr (.inr (.inl e))))
   ·have:=ge7 g e
    exact .inr (by omega)
 have HC:=hide (yn (n:=5) rfl (by omega) P3 RUN)
 subst hr
 clear RUN h hR h3 hch hcut hin b1 b2 b3 P1 P2 P3 s2 s3 z3 fo t3 u3 pq
 generalize (u:Int)=uu at*
 go_enter Tryz.func142,Tryz.ntmps142
 go_wp2_with fail
 refine HC.out.mono ?_
 rintro E w' ⟨rfl,X⟩
 have X:=hide X
 clear HC
 go_wp2
 go_ret
 exact⟨rfl,X.out⟩
theorem bM.blk {p q R:Nat}{F:Nat→Prop}{w w2:World}{s1:Rst.St}{o:Obj}(k:bM p q F w w2 s1)(hR:w.heap[R]? =some o)(hF:¬F R):w2.heap[R]? =some o:=by
 obtain⟨_,_,k,_⟩:=k
 refine(k.block R ?_ hF).trans hR
 exact(Array.getElem?_eq_some_iff.1 hR).1
theorem aor (p q:Nat)(F:Nat→Prop)(w:World)(s:Rst.St)(h:PS p q F w s)(hR:o9 s)(h3:T3 s.d∧¬F 0)(dR:Rst.asked s=false)(hrr:s.r=[])(hin:(Wl.aR s.l).length≤(Wl.hld s.d).length)(x:Pm.Pg)(hx:eT x)(fk:Nat)(hxf:x.f=fk)(jq:fk≤s.l.length)(hcut:(Rst.cut s fk).1=0)(hch:ql s.p (Cm.lastE 0 s.l) fk 0 (Rst.hf 3 s.d).length=true):
  Calls Tryz.prog 93 #[.pointer (some ⟨p,0,none⟩),vp x] w fun E w'=>E=.returned (.tuple #[vp (Rol.nx x 3 4),.int .i64 (Rol.gP x 3)])∧bM p q F w w' ⟨(Rst.cut s fk).2,s.p,s.l.take fk,s.r,s.off⟩:=by
 obtain⟨w1,hw1,s1,b1,P1⟩:=ak w (cp x) 35
 obtain⟨w2,hw2,s2,b2,P2⟩:=ak w1 #[.int .i64 0,.int .u8 0,.int .i64 0,.int .u8 0,.int .i64 0,.int .i64 0] 35
 rw[s1]at P2
 have b02:Below w.heap.size w w2:=b1.trans (b2.mono (by omega))
 have fD:=(b2.block w.heap.size (by omega)).trans P1
 obtain⟨c0,c1,c2,c3,c4,c5⟩:=aN (by unfold cp at fD;exact fD)
 have ik:∀g,F g→g<w.heap.size:=h.lt
 obtain⟨s',hs'⟩:∃s':Rst.St,(⟨(Rst.cut s fk).2,s.p,s.l.take fk,s.r,s.off⟩:Rst.St)=s':=⟨_,rfl⟩
 have SH:Hid (Calls Tryz.prog 142 #[.pointer (some ⟨p,0,none⟩),.int .i64 x.f] w2 fun E w'=>E=.returned (.int .i64 0)∧bM p q F w2 w' s'):=hide (by
  rw[hxf,←hs']
  exact agj p q F w2 s (h.below b02) hR h3 dR hrr fk jq hin hcut hch)
 have KP:Hid (∀W,bM p q F w2 W s'→W.heap[w.heap.size]? =some (.cells (cp x) 35 (0,0))∧W.heap[w.heap.size+1]? =some (.cells #[.int .i64 0,.int .u8 0,.int .i64 0,.int .u8 0,.int .i64 0,.int .i64 0] 35 (0,0))∧fQ W):=hide fun W k=>⟨k.blk fD fun e=>by have:=ik _ e;omega,k.blk P2 fun e=>by have:=ik _ e;omega,by obtain⟨_,k,_⟩:=k;exact k.gG⟩
 have PV:Hid (∀W W2 V,bM p q F w2 W s'→Below W.heap.size W W2→W2.grownBy V (some (w.heap.size+1))→bM p q F w V s'):=hide fun W W2 V j1 j2 j3=>bM.res b02 j1 j2 j3 (by omega) (by omega) (fun e=>by have:=ik _ e;omega) h.gG.pos
 have HV:Hid (∀y:Pm.Pg,vp y=.agg #[.int .i64 y.e,.int .u8 y.r,.int .i64 y.a,.int .u8 y.p,.int .i64 y.f,.int .i64 y.b]):=hide fun _=>rfl
 have HX:=hide hx
 obtain⟨y,hy⟩:∃y,Rol.nx x 3 4=y:=⟨_,rfl⟩
 obtain⟨ye,hye⟩:∃ye,Rol.gP x 3=ye:=⟨_,rfl⟩
 rw[hs',hy,hye,HV.out x,HV.out]
 have HY:=hide (And.intro hy hye)
 unfold cp at hw1
 clear h hR h3 dR hrr hin hx hxf jq hcut hch b1 b2 P1 P2 fD b02 ik hs' hy hye
 go_enter Tryz.func93,Tryz.ntmps93
 go_wp2_with fail
 refine SH.out.mono ?_
 rintro E w7 ⟨rfl,k7⟩
 obtain⟨p7,r7,m7⟩:=KP.out w7 k7
 obtain⟨c0,c1,c2,c3,c4,c5⟩:=aN p7
 have RF:=hide (anE x w7 HX.out m7)
 rw[HY.out.1,HY.out.2,HV.out x,HV.out]at RF
 have K7:=hide k7
 have R7:=hide r7
 clear SH k7 r7 m7 KP p7
 go_wp2_with fail
 refine RF.out.mono ?_
 rintro E w9 ⟨rfl,b9⟩
 obtain⟨V',hV',dG,bQ,⟨q0,q1,q2,q3,q4,q5⟩,fr,⟨u0,u1,u2,u3,u4,u5⟩⟩:=dU ((b9.block _ (ax R7.out)).trans R7.out) (.int .i64 y.e) (.int .u8 y.r) (.int .i64 y.a) (.int .u8 y.p) (.int .i64 y.f) (.int .i64 y.b)
 have g0:=fr 0;have g1:=fr 1;have g2:=fr 2;have g3:=fr 3;have g4:=fr 4;have g5:=fr 5
 have BV:=hide (PV.out _ _ _ K7.out b9 bQ)
 clear RF b9 R7 K7 bQ dG fr PV c0 c1 c2 c3 c4 c5
 go_wp2
 refine bodyPost_ret (v:=.tuple #[.agg #[.int .i64 y.e,.int .u8 y.r,.int .i64 y.a,.int .u8 y.p,.int .i64 y.f,.int .i64 y.b],.int .i64 ye]) (by simp[results,Tryz.results93,go_sem,u0,u1,u2,u3,u4,u5]) rfl ?_
 exact⟨rfl,BV.out⟩
theorem aph (g1 g2 p q:Nat)(F:Nat→Prop)(w:World)(s s1:Rst.St)(x y:Pm.Pg)(m:Mw)(ye:Int)(h:PS p q F w s)(hg:w.cell? ⟨g1,0,none⟩=some (.pointer (some ⟨p,0,none⟩)))(hl:g1<w.heap.size)(hm:fP w g2 m)(hl2:g2<w.heap.size)
  (hd:∀W,Below w.heap.size w W→Calls Tryz.prog 89 #[.pointer (some ⟨p,0,none⟩),vp x,mv m] W fun E w'=>E=.returned (.tuple #[vp y,.int .i64 ye])∧bM p q F W w' s1):
  Calls Tryz.prog 88 #[vp x,.pointer (some ⟨g1,0,none⟩),.pointer (some ⟨g2,0,none⟩)] w fun E w'=>E=.returned (.tuple #[vp y,.int .i64 ye])∧bM p q F w w' s1:=by
 obtain⟨w1,hw1,aW,b1,P1⟩:=ak w (cp x) 35
 obtain⟨w2,hw2,di,b2,P2⟩:=ak w1 #[.int .i64 0,.int .u8 0,.int .i64 0,.int .u8 0,.int .i64 0,.int .i64 0] 35
 rw[aW]at P2
 have b02:Below w.heap.size w w2:=b1.trans (b2.mono (by omega))
 have fD:=(b2.block w.heap.size (by omega)).trans P1
 obtain⟨c0,c1,c2,c3,c4,c5⟩:=aN (by unfold cp at fD;exact fD)
 have d0:w2.cell? ⟨g1,0,none⟩=some (.pointer (some ⟨p,0,none⟩)):=(b02.cell (p:=⟨g1,0,none⟩) hl).trans hg
 have m2:fP w2 g2 m:=(b02.block g2 hl2).trans hm
 obtain⟨a0,a1,a2,a3,a4,a5,a6,a7⟩:=m2.ei
 unfold mv at hd
 clear m2 hm hl2
 have ik:∀g,F g→g<w.heap.size:=h.lt
 have CD:=hide (hd w2 b02)
 have KP:Hid (∀W,bM p q F w2 W s1→W.heap[w.heap.size+1]? =some (.cells #[.int .i64 0,.int .u8 0,.int .i64 0,.int .u8 0,.int .i64 0,.int .i64 0] 35 (0,0))):=hide fun W k=>k.blk P2 fun e=>by have:=ik _ e;omega
 have PV:Hid (∀W V,bM p q F w2 W s1→W.grownBy V (some (w.heap.size+1))→bM p q F w V s1):=hide fun W V j1 j3=>bM.res b02 j1 (Below.refl _ _) j3 (by omega) (by omega) (fun e=>by have:=ik _ e;omega) h.gG.pos
 have HV:Hid (∀y:Pm.Pg,vp y=.agg #[.int .i64 y.e,.int .u8 y.r,.int .i64 y.a,.int .u8 y.p,.int .i64 y.f,.int .i64 y.b]):=hide fun _=>rfl
 rw[HV.out x,HV.out]at CD⊢
 unfold cp at hw1
 clear h hd hg hl b1 b2 P1 P2 fD b02 ik
 go_enter Tryz.func88,Tryz.ntmps88
 go_wp2_with fail
 refine CD.out.mono ?_
 rintro E w7 ⟨rfl,k7⟩
 obtain⟨V',hV',dG,bQ,⟨q0,q1,q2,q3,q4,q5⟩,fr,⟨u0,u1,u2,u3,u4,u5⟩⟩:=dU (KP.out w7 k7) (.int .i64 y.e) (.int .u8 y.r) (.int .i64 y.a) (.int .u8 y.p) (.int .i64 y.f) (.int .i64 y.b)
 have f0:=fr 0;have f1:=fr 1;have f2:=fr 2;have f3:=fr 3;have f4:=fr 4;have f5:=fr 5
 have BV:=hide (PV.out _ _ k7 bQ)
 clear CD k7 bQ dG fr PV KP
 go_wp2
 refine bodyPost_ret (v:=.tuple #[.agg #[.int .i64 y.e,.int .u8 y.r,.int .i64 y.a,.int .u8 y.p,.int .i64 y.f,.int .i64 y.b],.int .i64 ye]) (by simp[results,Tryz.results88,go_sem,u0,u1,u2,u3,u4,u5]) rfl ?_
 exact⟨rfl,BV.out⟩
theorem anQ (g1 p q:Nat)(F:Nat→Prop)(w:World)(s s1:Rst.St)(x y:Pm.Pg)(ye:Int)(h:PS p q F w s)(hg:w.cell? ⟨g1,0,none⟩=some (.pointer (some ⟨p,0,none⟩)))(hl:g1<w.heap.size)
  (hd:∀W,Below w.heap.size w W→Calls Tryz.prog 91 #[.pointer (some ⟨p,0,none⟩),vp x] W fun E w'=>E=.returned (.tuple #[vp y,.int .i64 ye])∧bM p q F W w' s1):
  Calls Tryz.prog 90 #[vp x,.pointer (some ⟨g1,0,none⟩)] w fun E w'=>E=.returned (.tuple #[vp y,.int .i64 ye])∧bM p q F w w' s1:=by
 obtain⟨w1,hw1,aW,b1,P1⟩:=ak w (cp x) 35
 obtain⟨w2,hw2,di,b2,P2⟩:=ak w1 #[.int .i64 0,.int .u8 0,.int .i64 0,.int .u8 0,.int .i64 0,.int .i64 0] 35
 rw[aW]at P2
 have b02:Below w.heap.size w w2:=b1.trans (b2.mono (by omega))
 have fD:=(b2.block w.heap.size (by omega)).trans P1
 obtain⟨c0,c1,c2,c3,c4,c5⟩:=aN (by unfold cp at fD;exact fD)
 have d0:w2.cell? ⟨g1,0,none⟩=some (.pointer (some ⟨p,0,none⟩)):=(b02.cell (p:=⟨g1,0,none⟩) hl).trans hg
 have ik:∀g,F g→g<w.heap.size:=h.lt
 have CD:=hide (hd w2 b02)
 have KP:Hid (∀W,bM p q F w2 W s1→W.heap[w.heap.size+1]? =some (.cells #[.int .i64 0,.int .u8 0,.int .i64 0,.int .u8 0,.int .i64 0,.int .i64 0] 35 (0,0))):=hide fun W k=>k.blk P2 fun e=>by have:=ik _ e;omega
 have PV:Hid (∀W V,bM p q F w2 W s1→W.grownBy V (some (w.heap.size+1))→bM p q F w V s1):=hide fun W V j1 j3=>bM.res b02 j1 (Below.refl _ _) j3 (by omega) (by omega) (fun e=>by have:=ik _ e;omega) h.gG.pos
 have HV:Hid (∀y:Pm.Pg,vp y=.agg #[.int .i64 y.e,.int .u8 y.r,.int .i64 y.a,.int .u8 y.p,.int .i64 y.f,.int .i64 y.b]):=hide fun _=>rfl
 rw[HV.out x,HV.out]at CD⊢
 unfold cp at hw1
 clear h hd hg hl b1 b2 P1 P2 fD b02 ik
 go_enter Tryz.func90,Tryz.ntmps90
 go_wp2_with fail
 refine CD.out.mono ?_
 rintro E w7 ⟨rfl,k7⟩
 obtain⟨V',hV',dG,bQ,⟨q0,q1,q2,q3,q4,q5⟩,fr,⟨u0,u1,u2,u3,u4,u5⟩⟩:=dU (KP.out w7 k7) (.int .i64 y.e) (.int .u8 y.r) (.int .i64 y.a) (.int .u8 y.p) (.int .i64 y.f) (.int .i64 y.b)
 have f0:=fr 0;have f1:=fr 1;have f2:=fr 2;have f3:=fr 3;have f4:=fr 4;have f5:=fr 5
 have BV:=hide (PV.out _ _ k7 bQ)
 clear CD k7 bQ dG fr PV KP
 go_wp2
 refine bodyPost_ret (v:=.tuple #[.agg #[.int .i64 y.e,.int .u8 y.r,.int .i64 y.a,.int .u8 y.p,.int .i64 y.f,.int .i64 y.b],.int .i64 ye]) (by simp[results,Tryz.results90,go_sem,u0,u1,u2,u3,u4,u5]) rfl ?_
 exact⟨rfl,BV.out⟩
theorem ao8 (g1 p q:Nat)(F:Nat→Prop)(w:World)(s s1:Rst.St)(x y:Pm.Pg)(ye:Int)(h:PS p q F w s)(hg:w.cell? ⟨g1,0,none⟩=some (.pointer (some ⟨p,0,none⟩)))(hl:g1<w.heap.size)
  (hd:∀W,Below w.heap.size w W→Calls Tryz.prog 93 #[.pointer (some ⟨p,0,none⟩),vp x] W fun E w'=>E=.returned (.tuple #[vp y,.int .i64 ye])∧bM p q F W w' s1):
  Calls Tryz.prog 92 #[vp x,.pointer (some ⟨g1,0,none⟩)] w fun E w'=>E=.returned (.tuple #[vp y,.int .i64 ye])∧bM p q F w w' s1:=by
 obtain⟨w1,hw1,aW,b1,P1⟩:=ak w (cp x) 35
 obtain⟨w2,hw2,di,b2,P2⟩:=ak w1 #[.int .i64 0,.int .u8 0,.int .i64 0,.int .u8 0,.int .i64 0,.int .i64 0] 35
 rw[aW]at P2
 have b02:Below w.heap.size w w2:=b1.trans (b2.mono (by omega))
 have fD:=(b2.block w.heap.size (by omega)).trans P1
 obtain⟨c0,c1,c2,c3,c4,c5⟩:=aN (by unfold cp at fD;exact fD)
 have d0:w2.cell? ⟨g1,0,none⟩=some (.pointer (some ⟨p,0,none⟩)):=(b02.cell (p:=⟨g1,0,none⟩) hl).trans hg
 have ik:∀g,F g→g<w.heap.size:=h.lt
 have CD:=hide (hd w2 b02)
 have KP:Hid (∀W,bM p q F w2 W s1→W.heap[w.heap.size+1]? =some (.cells #[.int .i64 0,.int .u8 0,.int .i64 0,.int .u8 0,.int .i64 0,.int .i64 0] 35 (0,0))):=hide fun W k=>k.blk P2 fun e=>by have:=ik _ e;omega
 have PV:Hid (∀W V,bM p q F w2 W s1→W.grownBy V (some (w.heap.size+1))→bM p q F w V s1):=hide fun W V j1 j3=>bM.res b02 j1 (Below.refl _ _) j3 (by omega) (by omega) (fun e=>by have:=ik _ e;omega) h.gG.pos
 have HV:Hid (∀y:Pm.Pg,vp y=.agg #[.int .i64 y.e,.int .u8 y.r,.int .i64 y.a,.int .u8 y.p,.int .i64 y.f,.int .i64 y.b]):=hide fun _=>rfl
 rw[HV.out x,HV.out]at CD⊢
 unfold cp at hw1
 clear h hd hg hl b1 b2 P1 P2 fD b02 ik
 go_enter Tryz.func92,Tryz.ntmps92
 go_wp2_with fail
 refine CD.out.mono ?_
 rintro E w7 ⟨rfl,k7⟩
 obtain⟨V',hV',dG,bQ,⟨q0,q1,q2,q3,q4,q5⟩,fr,⟨u0,u1,u2,u3,u4,u5⟩⟩:=dU (KP.out w7 k7) (.int .i64 y.e) (.int .u8 y.r) (.int .i64 y.a) (.int .u8 y.p) (.int .i64 y.f) (.int .i64 y.b)
 have f0:=fr 0;have f1:=fr 1;have f2:=fr 2;have f3:=fr 3;have f4:=fr 4;have f5:=fr 5
 have BV:=hide (PV.out _ _ k7 bQ)
 clear CD k7 bQ dG fr PV KP
 go_wp2
 refine bodyPost_ret (v:=.tuple #[.agg #[.int .i64 y.e,.int .u8 y.r,.int .i64 y.a,.int .u8 y.p,.int .i64 y.f,.int .i64 y.b],.int .i64 ye]) (by simp[results,Tryz.results92,go_sem,u0,u1,u2,u3,u4,u5]) rfl ?_
 exact⟨rfl,BV.out⟩
theorem tV (g1 g2 p q:Nat)(F:Nat→Prop)(w:World)(s s1:Rst.St)(x y:Pm.Pg)(f:FuncId)(cap:Array Value)(eg:∀args w,(callFunc f args).run Tryz.prog w=.ok (.enter f args) w)(h:PS p q F w s)(h0:¬F 0)(h1:w.cell? ⟨g1,0,none⟩=some (.func (.func f) #[] cap))(h2:w.cell? ⟨g2,0,none⟩=some (.pointer (some ⟨p,0,none⟩)))(hl1:g1<w.heap.size)(hl2:g2<w.heap.size)(n2:¬F g2)(hR:o9 s1)(h3:T3 s1.d)(hy:eT y)(hs:(Rst.dh s1 y).1=0)
  (hd:∀W,Below w.heap.size w W→Calls Tryz.prog f (#[vp x]++cap) W fun E w'=>E=.returned (.tuple #[vp y,.int .i64 0])∧bM p q F W w' s1):
  Calls Tryz.prog 135 #[vp x,.pointer (some ⟨g1,0,none⟩),.pointer (some ⟨g2,0,none⟩)] w fun E w'=>E=.returned (.tuple #[vp y,.int .i64 0])∧bM p q F w w' (Rst.dh s1 y).2:=by
 obtain⟨w1,hw1,aW,b1,P1⟩:=ak w (cp x) 35
 obtain⟨w2,hw2,di,b2,P2⟩:=ak w1 #[.int .i64 0,.int .u8 0,.int .i64 0,.int .u8 0,.int .i64 0,.int .i64 0] 35
 rw[aW]at P2
 have b02:Below w.heap.size w w2:=b1.trans (b2.mono (by omega))
 have fD:=(b2.block w.heap.size (by omega)).trans P1
 obtain⟨c0,c1,c2,c3,c4,c5⟩:=aN (by unfold cp at fD;exact fD)
 have d1:w2.cell? ⟨g1,0,none⟩=some (.func (.func f) #[] cap):=(b02.cell (p:=⟨g1,0,none⟩) hl1).trans h1
 have d2:w2.cell? ⟨g2,0,none⟩=some (.pointer (some ⟨p,0,none⟩)):=(b02.cell (p:=⟨g2,0,none⟩) hl2).trans h2
 have ik:∀g,F g→g<w.heap.size:=h.lt
 have CD:=hide (hd w2 b02)
 have HV:Hid (∀y:Pm.Pg,vp y=.agg #[.int .i64 y.e,.int .u8 y.r,.int .i64 y.a,.int .u8 y.p,.int .i64 y.f,.int .i64 y.b]):=hide fun _=>rfl
 have z2:w2.heap.size=w.heap.size+2:=by omega
 obtain⟨s2,hs2⟩:∃s2,(Rst.dh s1 y).2=s2:=⟨_,rfl⟩
 have ST:Hid (∀W W',bM p q F w2 W s1→Below W.heap.size W W'→Calls Tryz.prog 28 #[.pointer (some ⟨p,0,none⟩),vp y] W' fun E w'=>E=.returned (.int .i64 0)∧bM p q F w2 w' s2∧∀g o,W.heap.size≤g→W'.heap[g]? =some o→w'.heap[g]? =some o):=hide fun W W' k hb=>by
  obtain⟨F',k1,k2,k3⟩:=k
  have k2':Out F w2 W':=k2.trans (Out.of_below hb (F:=F)) fun g e=>.inl e
  refine(afS p q F' W' s1 (k1.below hb) hR ⟨h3,fun e=>?_⟩ y hy).mono ?_
  ·rcases k3 0 e with e|e
   ·exact h0 e
   ·omega
  ·rintro E w' ⟨rfl,F2,j1,j2,j3⟩
   rw[hs2]at j1
   refine⟨by rw[hs],⟨F2,j1,k2'.trans j2 k3,fun g e=>(j3 g e).elim (k3 g) fun e=>.inr (by have:=k2'.size;omega)⟩,fun g o g1 g2=>(j2.block g (Array.getElem?_eq_some_iff.1 g2).1 fun e=>?_).trans g2⟩
   have:=k1.lt g e
   omega
 have KP:Hid (∀W,bM p q F w2 W s1→W.heap[g2]? =w2.heap[g2]?):=hide fun W k=>by
  obtain⟨_,_,k,_⟩:=k
  exact k.block g2 (by omega) n2
 have KR:Hid (∀W,bM p q F w2 W s2→W.heap[w.heap.size+1]? =some (.cells #[.int .i64 0,.int .u8 0,.int .i64 0,.int .u8 0,.int .i64 0,.int .i64 0] 35 (0,0))):=hide fun W k=>k.blk P2 fun e=>by have:=ik _ e;omega
 have PV:Hid (∀W V,bM p q F w2 W s2→W.grownBy V (some (w.heap.size+1))→bM p q F w V s2):=hide fun W V j1 j3=>bM.res b02 j1 (Below.refl _ _) j3 (by omega) (by omega) (fun e=>by have:=ik _ e;omega) h.gG.pos
 rw[HV.out x,HV.out]at CD
 rw[HV.out]at ST
 rw[hs2,HV.out x,HV.out]
 have D2:=hide d2
 unfold cp at hw1
 clear h hd h0 h1 h2 hl1 hl2 n2 hR h3 hy hs hs2 b1 b2 P1 P2 fD b02 ik z2
 go_enter Tryz.func135,Tryz.ntmps135
 go_wp2_with fail
 refine CD.out.mono ?_
 rintro E w7 ⟨rfl,k7⟩
 obtain⟨w8,hw8,hw8',sz8,b8,P8,⟨e0,e1,e2,e3,e4,e5⟩⟩:=xA w7 35 (.int .i64 0) (.int .u8 0) (.int .i64 0) (.int .u8 0) (.int .i64 0) (.int .i64 0) (.int .i64 y.e) (.int .u8 y.r) (.int .i64 y.a) (.int .u8 y.p) (.int .i64 y.f) (.int .i64 y.b)
 have g8:w8.cell? ⟨g2,0,none⟩=some (.pointer (some ⟨p,0,none⟩)):=by
  have q:=KP.out w7 k7
  have q2:w7.cell? ⟨g2,0,none⟩=some (.pointer (some ⟨p,0,none⟩)):=by
   have:=D2.out
   simp only[World.cell?]at this⊢
   rw[q]
   exact this
  refine(b8.cell (p:=⟨g2,0,none⟩) ?_).trans q2
  by_cases hh:g2<w7.heap.size
  ·exact hh
  ·exfalso
   have:w7.heap[g2]? =none:=Array.getElem?_eq_none (by omega)
   simp[World.cell?,this]at q2
 have SC:=hide (ST.out w7 w8 k7 b8)
 have P8:=hide P8
 clear CD ST KP k7 b8 D2 d1 d2
 go_wp2_with fail
 refine SC.out.mono ?_
 rintro E w9 ⟨rfl,k9,j9⟩
 obtain⟨e0,e1,e2,e3,e4,e5⟩:=aN (j9 _ _ (Nat.le_refl _) P8.out)
 obtain⟨V',hV',dG,bQ,⟨q0,q1,q2,q3,q4,q5⟩,fr,⟨u0,u1,u2,u3,u4,u5⟩⟩:=dU (KR.out w9 k9) (.int .i64 y.e) (.int .u8 y.r) (.int .i64 y.a) (.int .u8 y.p) (.int .i64 y.f) (.int .i64 y.b)
 have f0:=fr 0;have f1:=fr 1;have f2:=fr 2;have f3:=fr 3;have f4:=fr 4;have f5:=fr 5
 have BV:=hide (PV.out _ _ k9 bQ)
 clear SC k9 j9 bQ dG fr PV KR P8
 go_wp2
 refine bodyPost_ret (v:=.tuple #[.agg #[.int .i64 y.e,.int .u8 y.r,.int .i64 y.a,.int .u8 y.p,.int .i64 y.f,.int .i64 y.b],.int .i64 0]) (by simp[results,Tryz.results135,go_sem,u0,u1,u2,u3,u4,u5]) rfl ?_
 exact⟨rfl,BV.out⟩
end Go.Proofs.YtjemlgdkjilnoaaGreatDoor
