/- Texts of one layer, one behind the other. -/
import Derived.Test.YtjemlgdkjilnoaaGreatDoorH34
import Derived.Deep.RegionHeld3
import Derived.Test.YtjemlgdkjilnoaaGreatDoorH25
import Derived.Test.YtjemlgdkjilnoaaGreatDoorH3
set_option maxRecDepth 100000
set_option maxHeartbeats 8000000
namespace Go.Proofs.YtjemlgdkjilnoaaGreatDoor
open Go.RowKit
set_option linter.unusedVariables false
theorem ru.out {pw q:Nat}{FW:Nat→Prop}{w wr:World}{l cs:List Cm.Cv}{d:Dm.Ds}{k:Nat}(h:ru pw q FW w wr l cs d k):Out FW w wr:=by
 obtain⟨_,_,_,h,_⟩:=h
 exact h
theorem agA (a:Addr)(b:Option Addr)(k:Nat)(w:World):
  Calls Tryz.prog 66 #[.pointer (some a),.slice b 0 k] w fun E w'=>E=.returned (.int .i64 0)∧w=w':=by
 go_enter Tryz.func66,Tryz.ntmps66
 go_wp2
 go_ret
 exact⟨rfl,rfl⟩
theorem ajy (a:Addr)(b:Option Addr)(k:Nat)(w:World):
  Calls Tryz.prog 68 #[.pointer (some a),.slice b 0 k] w fun E w'=>E=.returned (.int .i64 0)∧w=w':=by
 go_enter Tryz.func68,Tryz.ntmps68
 go_wp2_with fail
 go_loopw [10] (fun iv wr=>iv=.int .i64 0∧w=wr) (fun _ _=>0)
 case atStart=>exact⟨rfl,rfl⟩
 case round=>
  obtain⟨rfl,rfl⟩:=hrel
  go_wp2
  go_ret
  exact⟨rfl,rfl⟩
theorem aii (p q pw:Nat)(FW:Nat→Prop)(w:World)(off:Bool)(x:Pm.Pg)(vr vs:Value)(d:Dm.Ds)(l:List Cm.Cv)(v:Value)(rs:List Cw)(hb:w.heap[p]? =some (.cells (eD q off x (.pointer (some ⟨pw,0,none⟩)) l.length vr vs) 56 (0,0)))(hw:WW pw q FW w ⟨d,l,false⟩)(hpW:¬FW p)(hB:Big 50000000 500000 d)(hll:l.length≤2000)
  (hg:Cm.Good (Cm.lastE 0 l) l.length (az rs)) (hn:rs.length≤100) (h0:0<rs.length) (hc:∀W,Out FW w W→dJ W v rs) (hf:dV rs) (jQ:∀c∈rs,0<c.l.length→∀b,c.v.ownBlock=some b→b<w.heap.size∧¬FW b):
  Calls Tryz.prog 66 #[.pointer (some ⟨p,8,none⟩),v] w fun E w'=>E=.returned (.int .i64 (Rst.fu d (az rs)).1)∧∃W,ExO pw q FW w W l (az rs) d∧((Rst.fu d (az rs)).1≠0∧w'=W∨(Rst.fu d (az rs)).1=0∧w'=W.setCell ⟨p,9,none⟩ (.int .i64 (l.length+rs.length))):=by
 have hl:Cm.Good 0 0 l:=hw.good
 have hpl:=ax hb
 obtain⟨b1,o1,k1,rfl,_,_⟩:=iW (hc w (Out.refl _ _)) h0
 have sJ:Hid (∀W,Out FW w W→∀i c,rs[i]? =some c→W.cell? ⟨b1,o1+i*3,none⟩=some (.int .i64 c.e)∧W.cell? ⟨b1,o1+i*3+1,none⟩=some (.int .i64 c.n)∧W.cell? ⟨b1,o1+i*3+2,none⟩=some c.v):=hide fun W hW=>by
  obtain⟨b2,o2,k2,e,_,h⟩:=iW (hc W hW) h0
  cases e
  exact h
 have HPB:Hid (∀W,Out FW w W→W.heap[p]? =some (.cells (eD q off x (.pointer (some ⟨pw,0,none⟩)) l.length vr vs) 56 (0,0))):=hide fun W hW=>(hW.block p hpl hpW).trans hb
 have I0:Hid (ru pw q FW w w l (az rs) d 0):=hide ⟨FW,d,by rw[List.take_zero,List.append_nil];exact hw,Out.refl _ _,fun g hg=>.inl hg,by rw[List.drop_zero],hB.mono (by omega) (by omega)⟩
 have RD:Hid (∀k (hk:k<rs.length) V,ru pw q FW w V l (az rs) d k→Calls Tryz.prog 112 #[.pointer (some ⟨pw,0,none⟩),bT (rs[k]).e (rs[k]).n (rs[k]).v] V fun E w'=>∃e,E=.returned (.int .i64 e)∧Out FW w w'∧((e=0∧ru pw q FW w w' l (az rs) d (k+1))∨(e≠0∧e=(Rst.fu d (az rs)).1∧ExO pw q FW w w' l (az rs) d))):=hide fun k hk V h=>alf _ pw q FW w V l rs d k hk h hl hg hn (hc V h.out) hf jQ
 have hcl:(az rs).length=rs.length:=by unfold az;simp
 have SY:Hid (∀V,ru pw q FW w V l (az rs) d rs.length→Calls Tryz.prog 113 #[.pointer (some ⟨pw,0,none⟩)] V fun E w'=>E=.returned (.int .i64 (Rst.fu d (az rs)).1)∧ExO pw q FW w w' l (az rs) d):=hide fun V h=>anc pw q FW w V l (az rs) d (by rw[hcl];exact h) (by rw[hcl];exact hn)
 have SH:Hid (∀c∈rs,∃a n k,c.v=.slice a n k):=hide fun c hm=>by
  rcases((hc w (Out.refl _ _)).2 c hm).1 with⟨h,_⟩|⟨a,k,h,_⟩
  ·exact⟨_,_,_,h⟩
  ·exact⟨_,_,_,h⟩
 have EX:Hid (∀W,ExO pw q FW w W l (az rs) d→Out FW w W):=hide (by rintro W ⟨_,_,_,_,_,_,h,_⟩;exact h)
 obtain⟨ee,hee⟩:∃ee,(Rst.fu d (az rs)).1=ee:=⟨_,rfl⟩
 rw[hee]at RD SY⊢
 have auM:¬(rs.length:Int)=0:=by omega
 have hz:((rs.length:Int)==0)=false:=by simpa using auM
 have hwr:IntKind.i64.wrap ((l.length:Int)+(rs.length:Int))=(l.length:Int)+(rs.length:Int):=aX _ (by omega) (by omega)
 generalize (l.length:Int)=le at*
 clear hw hb hB hc hf jQ hg hl hee hcl auM
 go_enter Tryz.func66,Tryz.ntmps66
 go_wp2_with fail
 go_loopw [14] (fun iv wr=>∃(k:Nat),iv=.int .i64 k∧k≤rs.length∧Hid (ru pw q FW w wr l (az rs) d k)) (fun iv _=>rs.length-(intOf iv).toNat)
 case atStart=>exact⟨0,rfl,Nat.zero_le _,I0⟩
 case round=>
  obtain⟨k,rfl,hk,IK⟩:=hrel
  by_cases hlt:k<rs.length
  ·obtain⟨c,hcc⟩:∃c,rs[k]=c:=⟨_,rfl⟩
   obtain⟨a0,a1,a2⟩:=sJ.out wr IK.out.out k c (by rw[List.getElem?_eq_getElem hlt,hcc])
   obtain⟨va,vn,vk,hv⟩:=SH.out c (by rw[←hcc];exact List.getElem_mem hlt)
   rw[hv]at a2
   obtain⟨V,hV,hV',sV,bV,PV,v0,v1,v2⟩:=fH wr 65 (.int .i64 0) (.int .i64 0) (.slice none 0 0) (.int .i64 c.e) (.int .i64 c.n) (.slice va vn vk)
   have IV:=IK.out.box bV
   have AP:=RD.out k hlt V.drew (IV.box (Below.refl _ _).drew)
   rw[hcc,hv]at AP
   unfold bT at AP
   have d8:V.cell? ⟨p,8,none⟩=some (.pointer (some ⟨pw,0,none⟩)):=ai (HPB.out V IV.out) 8 rfl
   have AP2:Hid (Calls Tryz.prog 112 #[.pointer (some ⟨pw,0,none⟩),.agg #[.int .i64 c.e,.int .i64 c.n,.slice va vn vk]] V.drew fun E w'=>∃e,E=.returned (.int .i64 e)∧w'.cell? ⟨p,8,none⟩=some (.pointer (some ⟨pw,0,none⟩))∧Hid ((e=0∧ru pw q FW w w' l (az rs) d (k+1))∨(e≠0∧e=ee∧ExO pw q FW w w' l (az rs) d))):=hide (by
    refine AP.mono ?_
    rintro E w' ⟨e,rfl,o,h⟩
    exact⟨e,rfl,ai (HPB.out w' o) 8 rfl,hide h⟩)
   have hlt':(k:Int)<rs.length:=by omega
   clear AP IV hcc hv PV bV sV IK
   go_wp2_with fail
   go_region_with (go_at_call 112;refine AP2.out.mono ?_;rintro E w' ⟨e,rfl,e8,H⟩)
   all_goals
    clear AP2
    by_cases he:e=0
    ·subst he
     have H:=hide (H.out.resolve_right fun k=>k.1 rfl).2
     go_wp2
     go_roundw
     case rel=>exact⟨k+1,by simp,by omega,H⟩
     case measure=>simp[intOf];omega
    ·obtain⟨rfl,hX⟩:=(H.out.resolve_left fun k=>he k.1).2
     have he':(e==0)=false:=by simpa using he
     have HX:=hide (And.intro he hX)
     clear hX H
     go_wp2
     go_ret
     exact⟨rfl,_,HX.out.2,.inl ⟨HX.out.1,rfl⟩⟩
  ·obtain rfl:k=rs.length:=by omega
   have SY2:=hide (SY.out wr IK.out)
   have d8:wr.cell? ⟨p,8,none⟩=some (.pointer (some ⟨pw,0,none⟩)):=ai (HPB.out wr IK.out.out) 8 rfl
   have hlt':¬(rs.length:Int)<rs.length:=by omega
   clear SY RD sJ IK SH I0 hlt hk
   go_wp2_with fail
   refine SY2.out.mono ?_
   rintro E w2 ⟨rfl,hX⟩
   have pb:=HPB.out w2 (EX.out _ hX)
   have d9:w2.cell? ⟨p,9,none⟩=some (.int .i64 le):=ai pb 9 rfl
   have f9:=aC pb 9
   have HX:=hide hX
   clear hX SY2 pb
   by_cases he:ee=0
   ·subst he
    go_wp2
    go_ret
    exact⟨rfl,w2,HX.out,rfl⟩
   ·have he':(ee==0)=false:=by simpa using he
    go_wp2
    go_ret
    exact⟨rfl,w2,HX.out,.inl ⟨he,rfl⟩⟩
theorem as6 {r:Rl.Rs}{t cs:List Cm.Cv}(h:Cm.Good 1 (Cm.lastN 0 r.l) (t++cs))(hn:∀k,Cm.lastN (Cm.lastN 0 r.l) (t++cs.take k)=Cm.lastN 0 r.l+(t++cs.take k).length)(k:Nat)(hk:k<cs.length):Sto.zC ⟨r,t++cs.take k⟩ cs[k]=(0,⟨r,t++cs.take (k+1)⟩):=by
 rw[←List.take_append_drop k cs,←List.append_assoc]at h
 obtain⟨_,h2⟩:=(Cm.dX _ _ _ _).1 h
 rw[List.drop_eq_getElem_cons hk,hn k]at h2
 have hg:Cm.Good (Cm.lastE 1 (t++cs.take k)) (Sto.fin ⟨r,t++cs.take k⟩) [cs[k]]:=⟨h2.1,h2.2.1,h2.2.2.1,trivial⟩
 have hf:=(Cm.eY [cs[k]] _ _ 0).2 hg
 unfold Sto.zC
 rw[if_neg (by simp only;rw[hf];simp)]
 rw[List.take_add_one,List.getElem?_eq_getElem hk]
 simp
def vI (ps pr q:Nat) (Fsq:Nat→Prop) (w wr:World) (r:Rl.Rs) (t cs:List Cm.Cv) (k:Nat):Prop:=
 ∃Fk,SW ps pr q Fk wr ⟨r,t++cs.take k⟩∧Out Fsq w wr∧∀g,Fk g→Fsq g∨w.heap.size≤g
theorem vI.box {ps pr q:Nat}{Fsq:Nat→Prop}{w wr V:World}{r:Rl.Rs}{t cs:List Cm.Cv}{k:Nat}(h:vI ps pr q Fsq w wr r t cs k)(hb:Below wr.heap.size wr V):vI ps pr q Fsq w V r t cs k:=by
 obtain⟨Fk,h1,h2,h3⟩:=h
 exact⟨Fk,h1.below hb,h2.trans (Out.of_below (F:=fun _=>False) hb) fun g hg=>hg.elim,h3⟩
theorem aih (v:Value)(ps pr q:Nat)(Fsq:Nat→Prop)(w V:World)(r:Rl.Rs)(t:List Cm.Cv)(rs:List Cw)(k:Nat)(hk:k<rs.length)(h:vI ps pr q Fsq w V r t (az rs) k)(hg:Cm.Good 1 (Cm.lastN 0 r.l) (t++az rs))(hnn:∀k,Cm.lastN (Cm.lastN 0 r.l) (t++(az rs).take k)=Cm.lastN 0 r.l+(t++(az rs).take k).length)(ht:t.length≤2000)(hn:rs.length≤100)(hc:dJ V v rs)(hf:dV rs)(jQ:∀c∈rs,0<c.l.length→∀b,c.v.ownBlock=some b→b<w.heap.size∧¬Fsq b):
  Calls Tryz.prog 114 #[.pointer (some ⟨ps,0,none⟩),bT (rs[k]).e (rs[k]).n (rs[k]).v] V fun E w'=>E=.returned (.int .i64 0)∧vI ps pr q Fsq w w' r t (az rs) (k+1):=by
 obtain⟨Fk,h1,h2,h3⟩:=h
 have hm:rs[k]∈rs:=List.getElem_mem hk
 have hkc:k<(az rs).length:=by unfold az;simpa using hk
 have hce:(az rs)[k]=(rs[k]).c:=List.getElem_map _
 obtain⟨i1,i2⟩:=hc.2 _ hm
 have hlo:(rs[k]).l.length*40≤140737488351232:=by
  have:=(hf _ hm).2
  omega
 have hlt:(t++(az rs).take k).length≤100000:=by
  rw[List.length_append,List.length_take]
  omega
 have AP:=aiS ps pr q Fk V ⟨r,t++(az rs).take k⟩ (rs[k]) h1 i1 (hf _ hm).1 i2 hlo (fun h0 b hb hF=>by
  obtain⟨q1,q2⟩:=jQ _ hm h0 b hb
  rcases h3 b hF with e|e
  ·exact q2 e
  ·omega) hlt
 have ag:=as6 hg hnn k hkc
 rw[hce]at ag
 rw[ag]at AP
 refine AP.mono ?_
 rintro E w' ⟨rfl,F',k1,k2,k3⟩
 have hs:=h2.size
 exact⟨rfl,F',k1,h2.trans k2 h3,fun g hg=>by
  rcases k3 g hg with e|e
  ·exact h3 g e
  ·exact .inr (by omega)⟩
theorem apE (p q ps pr:Nat)(Fsq:Nat→Prop)(w:World)(off:Bool)(x:Pm.Pg)(en:Int)(vw vr:Value)(r:Rl.Rs)(t:List Cm.Cv)(n1 k1:Nat)(bo:Option Addr)(rs:List Cw)(hb:w.heap[p]? =some (.cells (eD q off x vw en vr (.pointer (some ⟨ps,0,none⟩))) 56 (0,0)))(hw:SW ps pr q Fsq w ⟨r,t⟩)(hpW:¬Fsq p)
  (hg:Cm.Good 1 (Cm.lastN 0 r.l) (t++az rs)) (hnn:∀k,Cm.lastN (Cm.lastN 0 r.l) (t++(az rs).take k)=Cm.lastN 0 r.l+(t++(az rs).take k).length) (ht:t.length≤2000) (hn:rs.length≤100) (hc:∀W,Out Fsq w W→dJ W (.slice bo n1 k1) rs) (hf:dV rs) (jQ:∀c∈rs,0<c.l.length→∀b,c.v.ownBlock=some b→b<w.heap.size∧¬Fsq b):
  Calls Tryz.prog 68 #[.pointer (some ⟨p,11,none⟩),.slice bo n1 k1] w fun E w'=>E=.returned (.int .i64 0)∧vI ps pr q Fsq w w' r t (az rs) rs.length:=by
 have hpl:=ax hb
 have hn1:n1=rs.length:=by
  rcases(hc w (Out.refl _ _)).1 with⟨h,h'⟩|⟨a,k,h,_⟩
  ·cases h;rw[h'];rfl
  ·cases h;rfl
 subst hn1
 have sJ:Hid (∀W,Out Fsq w W→∀i c,rs[i]? =some c→∃b1 o1,bo=some ⟨b1,o1,none⟩∧W.cell? ⟨b1,o1+i*3,none⟩=some (.int .i64 c.e)∧W.cell? ⟨b1,o1+i*3+1,none⟩=some (.int .i64 c.n)∧W.cell? ⟨b1,o1+i*3+2,none⟩=some c.v):=hide fun W hW i c hi=>by
  obtain⟨b2,o2,k2,e,_,h⟩:=iW (hc W hW) (by have:=(List.getElem?_eq_some_iff.1 hi).1;omega)
  cases e
  exact⟨b2,o2,rfl,h i c hi⟩
 have HPB:Hid (∀W,Out Fsq w W→W.heap[p]? =some (.cells (eD q off x vw en vr (.pointer (some ⟨ps,0,none⟩))) 56 (0,0))):=hide fun W hW=>(hW.block p hpl hpW).trans hb
 have I0:Hid (vI ps pr q Fsq w w r t (az rs) 0):=hide ⟨Fsq,by rw[List.take_zero,List.append_nil];exact hw,Out.refl _ _,fun g hg=>.inl hg⟩
 have OI:Hid (∀W k,vI ps pr q Fsq w W r t (az rs) k→Out Fsq w W):=hide (by rintro W k ⟨_,_,h,_⟩;exact h)
 have RD:Hid (∀k (hk:k<rs.length) V,vI ps pr q Fsq w V r t (az rs) k→Calls Tryz.prog 114 #[.pointer (some ⟨ps,0,none⟩),bT (rs[k]).e (rs[k]).n (rs[k]).v] V fun E w'=>E=.returned (.int .i64 0)∧vI ps pr q Fsq w w' r t (az rs) (k+1)):=hide fun k hk V h=>aih _ ps pr q Fsq w V r t rs k hk h hg hnn ht hn (hc V (OI.out _ _ h)) hf jQ
 have SH:Hid (∀c∈rs,∃a n k,c.v=.slice a n k):=hide fun c hm=>by
  rcases((hc w (Out.refl _ _)).2 c hm).1 with⟨h,_⟩|⟨a,k,h,_⟩
  ·exact⟨_,_,_,h⟩
  ·exact⟨_,_,_,h⟩
 clear hw hb hc hf jQ hg hnn ht
 go_enter Tryz.func68,Tryz.ntmps68
 go_wp2_with fail
 go_loopw [10] (fun iv wr=>∃(k:Nat),iv=.int .i64 k∧k≤rs.length∧Hid (vI ps pr q Fsq w wr r t (az rs) k)) (fun iv _=>rs.length-(intOf iv).toNat)
 case atStart=>exact⟨0,rfl,Nat.zero_le _,I0⟩
 case round=>
  obtain⟨k,rfl,hk,IK⟩:=hrel
  by_cases hlt:k<rs.length
  ·obtain⟨c,hcc⟩:∃c,rs[k]=c:=⟨_,rfl⟩
   obtain⟨b1,o1,rfl,a0,a1,a2⟩:=sJ.out wr (OI.out _ _ IK.out) k c (by rw[List.getElem?_eq_getElem hlt,hcc])
   obtain⟨va,vn,vk,hv⟩:=SH.out c (by rw[←hcc];exact List.getElem_mem hlt)
   rw[hv]at a2
   obtain⟨V,hV,hV',sV,bV,PV,v0,v1,v2⟩:=fH wr 65 (.int .i64 0) (.int .i64 0) (.slice none 0 0) (.int .i64 c.e) (.int .i64 c.n) (.slice va vn vk)
   have IV:=IK.out.box bV
   have AP:=RD.out k hlt V.drew (IV.box (Below.refl _ _).drew)
   rw[hcc,hv]at AP
   unfold bT at AP
   have d8:V.cell? ⟨p,12,none⟩=some (.pointer (some ⟨ps,0,none⟩)):=ai (HPB.out V (OI.out _ _ IV)) 12 rfl
   have AP2:Hid (Calls Tryz.prog 114 #[.pointer (some ⟨ps,0,none⟩),.agg #[.int .i64 c.e,.int .i64 c.n,.slice va vn vk]] V.drew fun E w'=>E=.returned (.int .i64 0)∧w'.cell? ⟨p,12,none⟩=some (.pointer (some ⟨ps,0,none⟩))∧Hid (vI ps pr q Fsq w w' r t (az rs) (k+1))):=hide (by
    refine AP.mono ?_
    rintro E w' ⟨rfl,h⟩
    exact⟨rfl,ai (HPB.out w' (OI.out _ _ h)) 12 rfl,hide h⟩)
   have hlt':(k:Int)<rs.length:=by omega
   clear AP IV hcc hv PV bV sV IK
   go_wp2_with fail
   go_region_with (go_at_call 114;refine AP2.out.mono ?_;rintro E w' ⟨rfl,e8,H⟩)
   all_goals
    clear AP2
    go_wp2
    go_roundw
    case rel=>exact⟨k+1,by simp,by omega,H⟩
    case measure=>simp[intOf];omega
  ·obtain rfl:k=rs.length:=by omega
   have hlt':¬(rs.length:Int)<rs.length:=by omega
   clear RD sJ SH I0 hlt hk
   go_wp2
   go_ret
   exact⟨rfl,IK.out⟩
theorem asX {F:Nat→Prop}{w:World}{v:Value}{l:List Bm.Ov}(h:∀W,Out F w W→df W v l)(hl:0<l.length):∀b,v.ownBlock=some b→b<w.heap.size∧¬F b:=by
 intro b hb
 obtain⟨b1,off,cap,rfl,_,_,hlt,hc⟩:=(h w (Out.refl _ _)).full hl
 obtain rfl:b1=b:=by simpa[Value.ownBlock]using hb
 refine⟨hlt,fun hF=>?_⟩
 have h0:=(hc 0 l[0] (by rw[List.getElem?_eq_getElem hl])).1
 have o:Out F w (w.setCell ⟨b1,off+0*3,none⟩ (.int .i64 0)):=Out.aV (aB w ⟨b1,off+0*3,none⟩ (.int .i64 0)) fun i hi=>by
  have:b1=i:=by simpa using hi
  rw[←this]
  exact hF
 obtain⟨b2,o2,c2,e,_,_,_,hc2⟩:=(h _ o).full hl
 cases e
 have h1:=(hc2 0 l[0] (by rw[List.getElem?_eq_getElem hl])).1
 unfold World.cell? at h0
 simp only at h0
 split at h0
 ·rename_i cs t fr hg
  have hs:=aI hg (off+0*3) (.int .i64 0)
  have hi:off+0*3<cs.size:=by
   rcases Nat.lt_or_ge (off+0*3) cs.size with k|k
   ·exact k
   ·rw[Array.getElem?_eq_none k]at h0;cases h0
  have hi':off<cs.size:=by omega
  have:=ai hs (off+0*3) (u:=.int .i64 0) (by simp[hi'])
  rw[this]at h1
  cases h1
 ·cases h0
theorem Tryz.ayj (a b:Int)(w:World):(Instr.field 61 (.agg #[.int .i64 a,.int .i64 b]) 0).run Tryz.prog w=.ok (.int .i64 a) w:=by kernel_rfl
theorem anq (g2 g3 p q pw:Nat)(FW:Nat→Prop)(w:World)(off:Bool)(x:Pm.Pg)(en:Int)(vr vs:Value)(sw:Wl.Ws)(bo:Option Addr)(n1 k1:Nat)(rs:List Cw)(hg2:w.heap[g2]? =some (.cells #[.pointer (some ⟨p,0,none⟩)] 22 (0,0)))(hg3:w.heap[g3]? =some (.cells #[.slice bo n1 k1] 26 (0,0)))(hb:w.heap[p]? =some (.cells (eD q off x (.pointer (some ⟨pw,0,none⟩)) en vr vs) 56 (0,0)))(hw:WW pw q FW w sw)(hc:dJ w (.slice bo n1 k1) rs)(hf:dV rs)(hl:rs.length≤100):
  Calls Tryz.prog 59 #[.pointer (some ⟨g2,0,none⟩),.pointer (some ⟨g3,0,none⟩)] w fun E w'=>E=.returned (.int .i64 (Cm.fol (Cm.lastE 0 sw.l) en 0 (az rs)).1)∧Below w.heap.size w w':=by
 have hfd:=Tryz.ayj
 obtain⟨ss,hss⟩:∃S:World→Prop,S=fun W=>W.cell? ⟨g2,0,none⟩=some (.pointer (some ⟨p,0,none⟩))∧W.cell? ⟨g3,0,none⟩=some (.slice bo n1 k1)∧W.cell? ⟨p,8,none⟩=some (.pointer (some ⟨pw,0,none⟩))∧W.cell? ⟨p,9,none⟩=some (.int .i64 en):=⟨_,rfl⟩
 have HS:Hid (∀W,Below w.heap.size w W→ss W):=hide fun W k=>by
  subst hss
  exact⟨ai ((k.block _ (ax hg2)).trans hg2) 0 rfl,ai ((k.block _ (ax hg3)).trans hg3) 0 rfl,ai ((k.block _ (ax hb)).trans hb) 8 rfl,ai ((k.block _ (ax hb)).trans hb) 9 rfl⟩
 have HE:Hid (∀W,Below w.heap.size w W→Calls Tryz.prog 60 #[.pointer (some ⟨pw,0,none⟩)] W fun E w'=>E=.returned (.int .i64 (Cm.lastE 0 sw.l))∧Below w.heap.size w w'∧ss w'):=hide fun W k=>by
  refine(aaC pw q FW W sw (hw.below k)).mono ?_
  rintro E w' ⟨rfl,m,rfl⟩
  have k':=below_drewN k m
  exact⟨rfl,k',HS.out _ k'⟩
 generalize Cm.lastE 0 sw.l=ep at*
 have HF:Hid (∀W,Below w.heap.size w W→Calls Tryz.prog 16 #[.int .i64 ep,.int .i64 en,.slice bo n1 k1] W fun E w'=>E=.returned (q9 (Cm.fol ep en 0 (az rs)))∧Below w.heap.size w w'∧ss w'):=hide fun W k=>by
  refine(jY ep en _ rs W (hc.below k) hf (by omega)).mono ?_
  rintro E w' ⟨rfl,b⟩
  have k':=k.trans (b.mono k.size)
  exact⟨rfl,k',HS.out _ k'⟩
 obtain⟨f1,f2,hfo⟩:∃a b,Cm.fol ep en 0 (az rs)=(a,b):=⟨_,_,rfl⟩
 rw[hfo]at HF⊢
 unfold q9 at HF
 simp only at HF⊢
 have s0:=HS.out w (Below.refl _ _)
 subst hss
 obtain⟨a1,a2,a3,a4⟩:=s0
 clear hg2 hg3 hb hw hc hf hl hfo HS
 go_enter Tryz.func59,Tryz.ntmps59
 go_wp2_with fail
 go_region_held3 (fun W=>W.cell? ⟨g2,0,none⟩=some (.pointer (some ⟨p,0,none⟩))∧W.cell? ⟨g3,0,none⟩=some (.slice bo n1 k1)∧W.cell? ⟨p,8,none⟩=some (.pointer (some ⟨pw,0,none⟩))∧W.cell? ⟨p,9,none⟩=some (.int .i64 en)) (first|exact⟨a1,a2,a3,a4⟩|exact sF|exact sE|go_keep)
  (first
  |(go_at_call 60;refine(HE.out _ ((Below.refl _ _).drew)).mono ?_;rintro E w2 ⟨rfl,bE,sE⟩)
  |(go_at_call 16;refine(HF.out _ bE).mono ?_;rintro E w3 ⟨rfl,bF,sF⟩;have BF:=hide bF;clear bF))
 all_goals
  go_wp2
  go_ret
  exact⟨rfl,BF.out⟩
theorem ao4 (g2 g3 p:Nat)(w:World)(r:Int)(h2:w.cell? ⟨g2,0,none⟩=some (.pointer (some ⟨p,0,none⟩)))(hs:Calls Tryz.prog 62 #[.pointer (some ⟨p,0,none⟩),.func (.func 63) #[] #[.pointer (some ⟨g3,0,none⟩)]] w fun E w'=>E=.returned (.int .i64 r)∧Below w.heap.size w w'):
  Calls Tryz.prog 61 #[.pointer (some ⟨g2,0,none⟩),.pointer (some ⟨g3,0,none⟩)] w fun E w'=>E=.returned (.int .i64 r)∧Below w.heap.size w w':=by
 have qP:∀(fn:Fn) (first cap:Array Value) (w:World),(Instr.makeFunc fn first cap).run Tryz.prog w=.ok (.func fn first cap) w:=fun _ _ _ _=>rfl
 have PC:=hide hs
 clear hs
 go_enter Tryz.func61,Tryz.ntmps61
 go_wp2_with fail
 refine PC.out.mono ?_
 rintro E w' ⟨rfl,b⟩
 have B:=hide b
 clear b PC
 go_wp2
 go_ret
 exact⟨rfl,B.out⟩
theorem ael (g2 g3 p:Nat)(w:World)(bo:Option Addr)(n1 k1:Nat)(r:Int)(X:World→Prop)(h2:w.cell? ⟨g2,0,none⟩=some (.pointer (some ⟨p,0,none⟩)))(h3:w.cell? ⟨g3,0,none⟩=some (.slice bo n1 k1))(hs:Calls Tryz.prog 66 #[.pointer (some ⟨p,8,none⟩),.slice bo n1 k1] w.drew fun E w'=>E=.returned (.int .i64 r)∧X w'):
  Calls Tryz.prog 65 #[.pointer (some ⟨g2,0,none⟩),.pointer (some ⟨g3,0,none⟩)] w fun E w'=>E=.returned (.int .i64 r)∧X w':=by
 have PC:=hide hs
 clear hs
 go_enter Tryz.func65,Tryz.ntmps65
 go_wp2_with fail
 go_region_with (go_at_call 66;refine PC.out.mono ?_;rintro E w' ⟨rfl,k⟩;have K:=hide k;clear k)
 all_goals
  clear PC
  go_wp2
  go_ret
  exact⟨rfl,K.out⟩
theorem aee (g2 g3 p:Nat)(w:World)(bo:Option Addr)(n1 k1:Nat)(r:Int)(X:World→Prop)(h2:w.cell? ⟨g2,0,none⟩=some (.pointer (some ⟨p,0,none⟩)))(h3:w.cell? ⟨g3,0,none⟩=some (.slice bo n1 k1))(hs:Calls Tryz.prog 68 #[.pointer (some ⟨p,11,none⟩),.slice bo n1 k1] w.drew fun E w'=>E=.returned (.int .i64 r)∧X w'):
  Calls Tryz.prog 67 #[.pointer (some ⟨g2,0,none⟩),.pointer (some ⟨g3,0,none⟩)] w fun E w'=>E=.returned (.int .i64 r)∧X w':=by
 have PC:=hide hs
 clear hs
 go_enter Tryz.func67,Tryz.ntmps67
 go_wp2_with fail
 go_region_with (go_at_call 68;refine PC.out.mono ?_;rintro E w' ⟨rfl,k⟩;have K:=hide k;clear k)
 all_goals
  clear PC
  go_wp2
  go_ret
  exact⟨rfl,K.out⟩
end Go.Proofs.YtjemlgdkjilnoaaGreatDoor
