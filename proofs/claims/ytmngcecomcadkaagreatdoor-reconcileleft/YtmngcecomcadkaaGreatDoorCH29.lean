/- Texts of one layer, one behind the other. -/
import Derived.Test.YtmngcecomcadkaaGreatDoorCH9
import Derived.Test.YtmngcecomcadkaaGreatDoorCH28
import Derived.Test.YtmngcecomcadkaaGreatDoorCH23
import Derived.Test.YtmngcecomcadkaaGreatDoorCH20
import Derived.Test.YtmngcecomcadkaaGreatDoorCH21
import Derived.Deep.CutRange
import Derived.Test.YtmngcecomcadkaaGreatDoorCH24
import Derived.Test.YtmngcecomcadkaaGreatDoorCM3
import Derived.Test.YtmngcecomcadkaaGreatDoorCM4
import Derived.Test.YtmngcecomcadkaaGreatDoorCH27
import Derived.Test.YtmngcecomcadkaaGreatDoorCH19
set_option maxRecDepth 100000
set_option maxHeartbeats 8000000
namespace Go.Proofs.YtmngcecomcadkaaGreatDoor
open Go.RowKit
set_option linter.unusedVariables false
theorem abr {base:Nat}{F:Nat→Prop}{w w':World}{v:Value}{rs:List Cw}(h1:bn 35 base w v rs)(h2:dR base w rs)(ho:Out F w w')(hF:∀g,F g→g<base):bn 35 base w' v rs∧dR base w' rs:=by
 refine⟨bN h1 fun b hb=>?_,fun c hc=>bN (h2 c hc) fun b hb=>?_⟩
 ·have:=World.ownsRow.lt h1 b hb
  exact ho.block b this.2 fun e=>by have:=hF b e;omega
 ·have:=World.ownsRow.lt (h2 c hc) b hb
  exact ho.block b this.2 fun e=>by have:=hF b e;omega
def ahO (B:Nat) (W:World) (l:List Cm.Cv) (x:Pm.Pg) (se sf:Int) (sa:Option Addr) (sn sk:Nat) (sm:Bool):Prop:=
 (x.f=l.length∧sm=false)∨(x.f<l.length∧sm=true∧se=x.e∧sf=x.f∧∃rs,bn 35 B W (.slice sa sn sk) rs∧dR B W rs∧ay rs=l.drop x.f.toNat)
theorem ahO.below {B:Nat}{W W':World}{l:List Cm.Cv}{x:Pm.Pg}{se sf:Int}{sa:Option Addr}{sn sk:Nat}{sm:Bool}(h:ahO B W l x se sf sa sn sk sm)(hb:Below W.heap.size W W'):ahO B W' l x se sf sa sn sk sm:=by
 rcases h with h|⟨h1,h2,h3,h4,rs,h5,h6,h7⟩
 ·exact .inl h
 ·exact .inr ⟨h1,h2,h3,h4,rs,h5.below hb,h6.below hb,h7⟩
theorem bI.res {p q R:Nat}{F:Nat→Prop}{w wc w7 w8 V:World}{s1:Rst.St}(hw:Below w.heap.size w wc)(k:bI p q F wc w7 s1)(hb:Below w7.heap.size w7 w8)(hg:w8.grownBy V (some R))(hR0:w.heap.size≤R)(hR:R<wc.heap.size)(hF:¬F R)(hp:0<w.heap.size):bI p q F w V s1:=by
 obtain⟨F',k1,k2,k3⟩:=k
 have oV:Out (fun g=>g=R) w8 V:=Out.aQ hg fun g e=>by simpa using e.symm
 have k8:=k1.below hb
 have o8:Out F w w8:=((Out.of_below hw).trans k2 fun g e=>.inl e).trans (Out.of_below hb (F:=F)) fun g e=>.inl e
 have nR:∀g,F' g→g≠R:=fun g e h=>by
  subst h
  rcases k3 g e with e|e
  ·exact hF e
  ·omega
 refine⟨F',k8.agree (fun g e=>oV.block g (k8.lt g e) (nR g e)) oV.size (gI k8.gz oV fun e=>?_),o8.trans oV fun g e=>.inr (by omega),fun g e=>(k3 g e).imp id fun e=>by have:=hw.size;omega⟩
 have e:0=R:=e
 omega
theorem alD (p q:Nat)(F:Nat→Prop)(w:World)(s:Rst.St)(h:PS p q F w s)(hR:pG s)(h0:¬F 0)(dV:Rst.asked s=false)(hg:Cm.Good 0 0 s.l)(hl:s.l.length≤1000)(h3:Rst.hf 3 s.d=[])(avZ:s.p.b≤0)(x:Pm.Pg)(hx:eU x)(hxk:Pm.chk x=0)(hp:x.p=2)(hxb:x.b=0)(he:1≤x.e)(hf0:0≤x.f)(jl:x.f≤s.l.length)
  (hck:x.f<s.l.length→Orp.chk ⟨x.e,x.f,s.l.drop x.f.toNat⟩=0∧(Orp.dX s.d 0 ⟨x.e,x.f,s.l.drop x.f.toNat⟩).1=0):
  Calls Tryz.prog 79 #[.pointer (some ⟨p,0,none⟩),vp x] w fun E w'=>E=.returned (.tuple #[vp (Rol.nx x 2 3),.int .i64 (Rol.gK x 2)])∧bI p q F w w' (if x.f<s.l.length then⟨(Orp.dX s.d 0 ⟨x.e,x.f,s.l.drop x.f.toNat⟩).2,s.p,s.l,s.r,s.off⟩else s):=by
 obtain⟨w1,hw1,s1,b1,P1⟩:=ak w (cp x) 46
 obtain⟨w2,hw2,s2,b2,P2⟩:=ak w1 #[.int .i64 0,.int .u8 0,.int .i64 0,.int .u8 0,.int .i64 0,.int .i64 0] 46
 rw[s1]at P2
 have z2:w2.heap.size=w.heap.size+2:=by omega
 have b02:Below w.heap.size w w2:=b1.trans (b2.mono (by omega))
 have eX:=(b2.block w.heap.size (by omega)).trans P1
 have SX:Hid (∀W,Below w2.heap.size w2 W→W.cell? ⟨w.heap.size,0,none⟩=some (.int .i64 x.e)∧W.cell? ⟨w.heap.size,1,none⟩=some (.int .u8 x.r)∧W.cell? ⟨w.heap.size,2,none⟩=some (.int .i64 x.a)∧W.cell? ⟨w.heap.size,3,none⟩=some (.int .u8 x.p)∧W.cell? ⟨w.heap.size,4,none⟩=some (.int .i64 x.f)∧W.cell? ⟨w.heap.size,5,none⟩=some (.int .i64 x.b)):=hide fun W hW=>by
  obtain⟨c0,c1,c2,c3,c4,c5⟩:=aN ((hW.block _ (by omega)).trans eX)
  exact⟨c0,c1,c2,c3,c4,c5⟩
 have HV:Hid (∀y:Pm.Pg,vp y=.agg #[.int .i64 y.e,.int .u8 y.r,.int .i64 y.a,.int .u8 y.p,.int .i64 y.f,.int .i64 y.b]):=hide fun _=>rfl
 obtain⟨LG,hLG⟩:∃LG:World→Option Addr→Nat→Nat→List Cw→Prop,LG=fun W a n k rs=>di W (.slice a n k) rs∧dL rs∧ay rs=s.l:=⟨_,rfl⟩
 have LGB:Hid (∀W W' a n k rs,LG W a n k rs→Below W.heap.size W W'→LG W' a n k rs):=hide fun W W' a n k rs k1 hb=>by
  subst hLG
  exact⟨k1.1.below hb,k1.2⟩
 obtain⟨LS,hLS⟩:∃LS:World→Int→Int→Option Addr→Nat→Nat→Bool→Prop,LS=fun W se sf sa sn sk sm=>ahO w2.heap.size W s.l x se sf sa sn sk sm:=⟨_,rfl⟩
 have LSB:Hid (∀W W' se sf sa sn sk sm,LS W se sf sa sn sk sm→Below W.heap.size W W'→LS W' se sf sa sn sk sm):=hide fun W W' se sf sa sn sk sm k1 hb=>by
  subst hLS
  exact k1.below hb
 have HL:Hid (∀W,Below w2.heap.size w2 W→Calls Tryz.prog 17 #[.pointer (some ⟨p,0,none⟩)] W fun E w'=>∃a n k rs,E=.returned (.slice a n k)∧LG w' a n k rs∧Below W.heap.size W w'):=hide fun W hW=>by
  subst hLG
  refine(aab p q F W s (h.below (b02.trans (hW.mono (by omega)))) hR).mono ?_
  rintro E w' ⟨v,rs,rfl,sh,e,b⟩
  obtain⟨a,k,hv,_,_⟩:=sh.isC.1.shape
  subst hv
  exact⟨a,_,k,rs,rfl,⟨sh.isC,sh.f,e⟩,b⟩
 have HO:Hid (∀W,Below w2.heap.size w2 W→∀a n k rs,LG W a n k rs→Calls Tryz.prog 16 #[.slice a n k,vp x] W fun E w'=>∃se sf sa sn sk sm,E=.returned (.tuple #[.agg #[.int .i64 se,.int .i64 sf,.slice sa sn sk],.bool sm,.int .i64 0])∧LS w' se sf sa sn sk sm∧Below W.heap.size W w'):=hide fun W hW a n k rs k1=>by
  subst hLG hLS
  obtain⟨k1,k2,k3⟩:=k1
  have hlr:rs.length=s.l.length:=by rw[←k3];unfold ay;rw[List.length_map]
  refine(acB _ rs x W k1 k2 (by omega) (by rw[k3];exact hg) hx hxk hp (h.gz.below (b02.trans (hW.mono (by omega)))) hf0 (by omega)).mono ?_
  rintro E w' (⟨e,rfl,b⟩|⟨e,a',n',k',rs',rfl,o,b⟩)
  ·exact⟨_,_,_,_,_,_,rfl,.inl ⟨by omega,rfl⟩,b⟩
  ·refine⟨_,_,_,_,_,_,rfl,.inr ⟨by omega,rfl,rfl,rfl,rs',mD o.out.1 hW.size,fun c hc=>(o.out.2.1 c hc).bu hW.size,?_⟩,b⟩
   rw[o.out.2.2,k3]
 rw[HV.out x]at HO
 have FIN:Hid (∀W X V (cs:Array Value) se sf sa sn sk sm,Below w2.heap.size w2 W→LS W se sf sa sn sk sm→w2.heap.size≤X→W.heap[X]? =some (.cells cs 52 (0,0))→V.heap[X]? =some (.cells #[.int .i64 se,.int .i64 sf,.slice sa sn sk] 52 (0,0))→W.grownBy V (some X)→(V.cell? ⟨w.heap.size,0,none⟩=some (.int .i64 x.e)∧V.cell? ⟨w.heap.size,1,none⟩=some (.int .u8 x.r)∧V.cell? ⟨w.heap.size,2,none⟩=some (.int .i64 x.a)∧V.cell? ⟨w.heap.size,3,none⟩=some (.int .u8 x.p)∧V.cell? ⟨w.heap.size,4,none⟩=some (.int .i64 x.f)∧V.cell? ⟨w.heap.size,5,none⟩=some (.int .i64 x.b))∧Below w2.heap.size w2 V∧LS V se sf sa sn sk sm∧V.heap[X]? =some (.cells #[.int .i64 se,.int .i64 sf,.slice sa sn sk] 52 (0,0))):=hide fun W X V cs se sf sa sn sk sm hW k hX qX pV gV=>by
  have bV:Below w2.heap.size w2 V:=aB hW gV hX hW.size
  refine⟨SX.out V bV,bV,?_,pV⟩
  subst hLS
  rcases k with k|⟨k1,k2,k3,k4,rs,k5,k6,k7⟩
  ·exact .inl k
  ·have kp:bH 52 W V:=wm qX gV
   exact .inr ⟨k1,k2,k3,k4,rs,qY k5 kp (by decide),fun c hc=>(k6 c hc).iJ kp (by decide),k7⟩
 have HH:=hide (And.intro h (And.intro hR (And.intro h0 (And.intro dV (And.intro h3 (And.intro avZ (And.intro hx (And.intro hxb (And.intro he hck)))))))))
 have HG:=hide (And.intro hg (And.intro hf0 (And.intro jl hl)))
 have HLS:=hide hLS
 have B2:=hide (And.intro b02 P2)
 obtain⟨y,hy⟩:∃y,Rol.nx x 2 3=y:=⟨_,rfl⟩
 obtain⟨ye,hye⟩:∃ye,Rol.gK x 2=ye:=⟨_,rfl⟩
 obtain⟨s',hs'⟩:∃s',(if x.f<s.l.length then(⟨(Orp.dX s.d 0 ⟨x.e,x.f,s.l.drop x.f.toNat⟩).2,s.p,s.l,s.r,s.off⟩:Rst.St)else s)=s':=⟨_,rfl⟩
 rw[hy,hye,hs',HV.out x,HV.out]
 have HY:=hide (And.intro hy (And.intro hye hs'))
 have afK:Hid (∀W,W.heap[w.heap.size+1]? =some (.cells #[.int .i64 0,.int .u8 0,.int .i64 0,.int .u8 0,.int .i64 0,.int .i64 0] 46 (0,0))→eH W→Calls Tryz.prog 129 #[vp x] W fun E w'=>E=.returned (.tuple #[vp y,.int .i64 ye])∧Below W.heap.size W w'):=hide fun W _ hm=>by
  rw[←hy,←hye]
  exact alm x W hx hm
 rw[HV.out x,HV.out]at afK
 unfold cp at hw1
 clear h hR h0 dV h3 avZ hx hxk hp hxb he hck hg hf0 jl hl b1 b2 P1 P2 eX b02 hLG hLS hy hye hs'
 go_enter Tryz.func79,Tryz.ntmps79
 go_wp2_with fail
 go_cut [6,7,8]from 9 to 16 (fun v6 v7 v8 wx=>∃X se sf sa sn sk sm,v6=.pointer (some ⟨X,0,none⟩)∧v7=.bool sm∧v8=.int .i64 0∧Hid (Below w2.heap.size w2 wx∧LS wx se sf sa sn sk sm∧wx.heap[X]? =some (.cells #[.int .i64 se,.int .i64 sf,.slice sa sn sk] 52 (0,0))))
 case first=>
  obtain⟨W0,hW0⟩:∃x,w2.drew=x:=⟨_,rfl⟩
  have D0:Hid (Below w2.heap.size w2 W0):=hide (by rw[←hW0];exact(Below.refl _ _).drew)
  refine kK (ops:=(aC 1 Tryz.f79)) (S:=fun W=>W.cell? ⟨w.heap.size,0,none⟩=some (.int .i64 x.e)∧W.cell? ⟨w.heap.size,1,none⟩=some (.int .u8 x.r)∧W.cell? ⟨w.heap.size,2,none⟩=some (.int .i64 x.a)∧W.cell? ⟨w.heap.size,3,none⟩=some (.int .u8 x.p)∧W.cell? ⟨w.heap.size,4,none⟩=some (.int .i64 x.f)∧W.cell? ⟨w.heap.size,5,none⟩=some (.int .i64 x.b)) (by kernel_rfl) anK ?_
  rw[asF,hW0]
  refine bG amW (SX.out _ D0.out) ?_
  refine bG ao5 (SX.out _ D0.out) ?_
  refine qZ aww ?_ ?_
  ·refine aI rfl (by rfl) (fun K hK=>?_)
   go_simp
   refine(HL.out _ D0.out).mono ?_
   rintro E U1 ⟨la,ln,lk,lr,rfl,lg1,bU1⟩
   have D1:=hide (D0.out.trans (bU1.mono D0.out.size))
   have L1:=hide lg1
   clear bU1 lg1
   go_wp2_with fail
   refine bq hK (SX.out _ D1.out) ?_
   clear hK K
   refine qZ awq ?_ ?_
   ·refine aI rfl (by rfl) (fun K hK=>?_)
    go_simp
    refine(HO.out _ D1.out _ _ _ _ L1.out).mono ?_
    rintro E U2 ⟨se,sf,sa,sn,sk,sm,rfl,ls2,bU2⟩
    have D2:=hide (D1.out.trans (bU2.mono D1.out.size))
    have R2:=hide ls2
    clear bU2 ls2
    go_wp2_with fail
    refine bq hK (SX.out _ D2.out) ?_
    clear hK K
    refine bG aj4 (SX.out _ D2.out) ?_
    refine bG alR (SX.out _ D2.out) ?_
    refine bG ajX (SX.out _ D2.out) ?_
    refine bG ah1 (SX.out _ D2.out) ?_
    refine dB apq ?_
    obtain⟨U3,hU3,sU3,bU3,qU3⟩:=ak U2 #[.int .i64 0,.int .i64 0,.slice none 0 0] 52
    have D3:=hide (D2.out.trans (bU3.mono D2.out.size))
    have R3:=hide (LSB.out _ _ _ _ _ _ _ _ R2.out bU3)
    have Q3:=hide qU3
    have GX:=hide (D2.out.size)
    clear bU3 qU3
    refine aI rfl (by rfl) (fun K hK=>?_)
    go_simp
    go_wp2_with fail
    refine bq hK (SX.out _ D3.out) ?_
    clear hK K
    refine dB zz ?_
    obtain⟨V,hV,pV,gV,⟨y0,y1,y2⟩,⟨z0,z1,z2⟩,u0,u1,u2⟩:=dP Q3.out (.int .i64 se) (.int .i64 sf) (.slice sa sn sk)
    have FV:=hide (FIN.out _ _ _ _ _ _ _ _ _ _ D3.out R3.out GX.out Q3.out pV gV)
    clear gV pV
    refine aI rfl (by rfl) (fun K hK=>?_)
    go_simp
    go_wp2_with fail
    refine bq hK FV.out.1 ?_
    clear hK K
    refine bG qH FV.out.1 ?_
    refine bG qI FV.out.1 ?_
    refine dA ab1 ?_
    go_wp2_with fail
    go_meet
    case rel=>exact⟨_,se,sf,sa,sn,sk,sm,rfl,rfl,rfl,hide FV.out.2⟩
   ·obtain⟨U5,hU5,sU5,bU5,qU5⟩:=ak U1 #[.int .i64 0,.int .i64 0,.slice none 0 0] 52
    have D5:=hide (D1.out.trans (bU5.mono D1.out.size))
    have L5:=hide (LGB.out _ _ _ _ _ _ L1.out bU5)
    have Q5:=hide qU5
    have GX:=hide (D1.out.size)
    clear bU5 qU5
    refine aI rfl (by rfl) (fun K hK=>?_)
    go_simp
    go_wp2_with fail
    refine bq hK (SX.out _ D5.out) ?_
    clear hK K
    refine dB afn ?_
    refine aI rfl (by rfl) (fun K hK=>?_)
    go_simp
    refine(HO.out _ D5.out _ _ _ _ L5.out).mono ?_
    rintro E U6 ⟨se,sf,sa,sn,sk,sm,rfl,ls6,bU6⟩
    have D6:=hide (D5.out.trans (bU6.mono D5.out.size))
    have Q6:=hide ((bU6.block _ (ax Q5.out)).trans Q5.out)
    have R6:=hide ls6
    clear bU6 ls6
    go_wp2_with fail
    refine bq hK (SX.out _ D6.out) ?_
    clear hK K
    refine bG aao (SX.out _ D6.out) ?_
    refine bG aaD (SX.out _ D6.out) ?_
    refine bG abk (SX.out _ D6.out) ?_
    refine bG aa2 (SX.out _ D6.out) ?_
    refine dB zz ?_
    obtain⟨V,hV,pV,gV,⟨y0,y1,y2⟩,⟨z0,z1,z2⟩,u0,u1,u2⟩:=dP Q6.out (.int .i64 se) (.int .i64 sf) (.slice sa sn sk)
    have FV:=hide (FIN.out _ _ _ _ _ _ _ _ _ _ D6.out R6.out GX.out Q6.out pV gV)
    clear gV pV
    refine aI rfl (by rfl) (fun K hK=>?_)
    go_simp
    go_wp2_with fail
    refine bq hK FV.out.1 ?_
    clear hK K
    refine bG qH FV.out.1 ?_
    refine bG qI FV.out.1 ?_
    refine dA ab1 ?_
    go_wp2_with fail
    go_meet
    case rel=>exact⟨_,se,sf,sa,sn,sk,sm,rfl,rfl,rfl,hide FV.out.2⟩
  ·obtain⟨U8,hU8,sU8,bU8,qU8⟩:=ak W0 #[.int .i64 0,.int .i64 0,.slice none 0 0] 52
   have D8:=hide (D0.out.trans (bU8.mono D0.out.size))
   have Q8:=hide qU8
   have GX:=hide (D0.out.size)
   clear bU8 qU8
   refine aI rfl (by rfl) (fun K hK=>?_)
   go_simp
   go_wp2_with fail
   refine bq hK (SX.out _ D8.out) ?_
   clear hK K
   refine dB apv ?_
   refine aI rfl (by rfl) (fun K hK=>?_)
   go_simp
   refine(HL.out _ D8.out).mono ?_
   rintro E U9 ⟨la,ln,lk,lr,rfl,lg9,bU9⟩
   have D9:=hide (D8.out.trans (bU9.mono D8.out.size))
   have Q9:=hide ((bU9.block _ (ax Q8.out)).trans Q8.out)
   have L9:=hide lg9
   clear bU9 lg9
   go_wp2_with fail
   refine bq hK (SX.out _ D9.out) ?_
   clear hK K
   refine dB afn ?_
   refine aI rfl (by rfl) (fun K hK=>?_)
   go_simp
   refine(HO.out _ D9.out _ _ _ _ L9.out).mono ?_
   rintro E U10 ⟨se,sf,sa,sn,sk,sm,rfl,atV,anV⟩
   have D10:=hide (D9.out.trans (anV.mono D9.out.size))
   have Q10:=hide ((anV.block _ (ax Q9.out)).trans Q9.out)
   have R10:=hide atV
   clear anV atV
   go_wp2_with fail
   refine bq hK (SX.out _ D10.out) ?_
   clear hK K
   refine bG aao (SX.out _ D10.out) ?_
   refine bG aaD (SX.out _ D10.out) ?_
   refine bG abk (SX.out _ D10.out) ?_
   refine bG aa2 (SX.out _ D10.out) ?_
   refine dB zz ?_
   obtain⟨V,hV,pV,gV,⟨y0,y1,y2⟩,⟨z0,z1,z2⟩,u0,u1,u2⟩:=dP Q10.out (.int .i64 se) (.int .i64 sf) (.slice sa sn sk)
   have FV:=hide (FIN.out _ _ _ _ _ _ _ _ _ _ D10.out R10.out GX.out Q10.out pV gV)
   clear gV pV
   refine aI rfl (by rfl) (fun K hK=>?_)
   go_simp
   go_wp2_with fail
   refine bq hK FV.out.1 ?_
   clear hK K
   refine bG qH FV.out.1 ?_
   refine bG qI FV.out.1 ?_
   refine dA ab1 ?_
   go_wp2_with fail
   go_meet
   case rel=>exact⟨_,se,sf,sa,sn,sk,sm,rfl,rfl,rfl,hide FV.out.2⟩
 case rest=>
  obtain⟨X,se,sf,sa,sn,sk,sm,rfl,rfl,rfl,HC⟩:=hcut
  have ls:=HC.out.2.1
  rw[HLS.out]at ls
  have b0c:=B2.out.1.trans (HC.out.1.mono (by omega))
  obtain⟨c0,c1,c2,c3,c4,c5⟩:=SX.out wc HC.out.1
  have R1:=(HC.out.1.block _ (by omega)).trans B2.out.2
  rcases ls with⟨e1,rfl⟩|⟨e1,rfl,rfl,rfl,rs,o1,o2,o3⟩
  ·have RF:=hide (afK.out wc R1 (HH.out.1.gz.below b0c))
   have PV:Hid (∀W,Below w.heap.size w W→bI p q F w W s'):=hide fun W hW=>by
    rw[←HY.out.2.2,if_neg (by omega)]
    exact bI.same HH.out.1 hW
   have R2:Hid (∀W,Below wc.heap.size wc W→W.heap[w.heap.size+1]? =some (.cells #[.int .i64 0,.int .u8 0,.int .i64 0,.int .u8 0,.int .i64 0,.int .i64 0] 46 (0,0))∧Below w.heap.size w W):=hide fun W hW=>⟨(hW.block _ (ax R1)).trans R1,b0c.trans (hW.mono b0c.size)⟩
   clear afK HC HL HO FIN LGB LSB HG HLS R1 b0c e1
   go_wp2_with fail
   refine RF.out.mono ?_
   rintro E w9 ⟨rfl,b9⟩
   obtain⟨r9,d9⟩:=R2.out w9 b9
   obtain⟨V',hV',dN,cZ,⟨q0,q1,q2,q3,q4,q5⟩,fr,⟨u0,u1,u2,u3,u4,u5⟩⟩:=eu r9 (.int .i64 y.e) (.int .u8 y.r) (.int .i64 y.a) (.int .u8 y.p) (.int .i64 y.f) (.int .i64 y.b)
   have g0:=fr 0;have g1:=fr 1;have g2:=fr 2;have g3:=fr 3;have g4:=fr 4;have g5:=fr 5
   have BV:=hide (PV.out _ (aB d9 cZ (by omega) d9.size))
   clear RF b9 r9 d9 cZ dN fr R2 PV c0 c1 c2 c3 c4 c5
   go_wp2
   refine bodyPost_ret (v:=.tuple #[.agg #[.int .i64 y.e,.int .u8 y.r,.int .i64 y.a,.int .u8 y.p,.int .i64 y.f,.int .i64 y.b],.int .i64 ye]) (by simp[results,Tryz.results79,go_sem,u0,u1,u2,u3,u4,u5]) rfl ?_
   exact⟨rfl,BV.out⟩
  ·obtain⟨k1,k2⟩:=HH.out.2.2.2.2.2.2.2.2.2 e1
   have gN:∀g,F g→g<w.heap.size:=HH.out.1.lt
   have hgd:∀c∈rs,Cm.chk c.e c.n c.l=0:=fun c hc=>by
    have hm:c.c∈s.l.drop x.f.toNat:=by rw[←o3];unfold ay;exact List.mem_map.2 ⟨c,hc,rfl⟩
    exact(Sto.iG HG.out.1 c.c (List.mem_of_mem_drop hm)).1
   have hfc:dL rs:=fun c hc=>by
    obtain⟨_,_,_,_,h5⟩:=Cm.aO (hgd c hc)
    have:=(Bm.dO h5).2.1
    exact⟨(nE h5).fit,by omega⟩
   have hrl:rs.length≤2000:=by
    have:=congrArg List.length o3
    unfold ay at this
    rw[List.length_map,List.length_drop]at this
    have:=HG.out.2.2.2
    omega
   have hic:∀W,Out F wc W→di W (.slice sa sn sk) rs:=fun W hW=>by
    obtain⟨j1,j2⟩:=abr o1 o2 hW fun g hg=>by have:=gN g hg;omega
    exact⟨j1.row,fun c hc=>⟨(j2 c hc).is,by
     have:=Cm.aO (hgd c hc)
     unfold In64
     omega⟩⟩
   have OR:Hid (Calls Tryz.prog 128 #[.pointer (some ⟨p,0,none⟩),.int .i64 x.b,.agg #[.int .i64 x.e,.int .i64 x.f,.slice sa sn sk]] wc fun E w'=>E=.returned (.int .i64 0)∧bI p q F wc w' s'):=hide (by
    rw[HH.out.2.2.2.2.2.2.2.1,←HY.out.2.2,if_pos e1,←o3]
    rw[←o3]at k1 k2
    exact akk p q F wc s (HH.out.1.below b0c) HH.out.2.1 HH.out.2.2.1 HH.out.2.2.2.1 HH.out.2.2.2.2.1 HH.out.2.2.2.2.2.1 x.e x.f _ rs hic hfc hrl HH.out.2.2.2.2.2.2.2.2.1 k1 k2)
   have d0:=ai HC.out.2.2 0 rfl
   have d1:=ai HC.out.2.2 1 rfl
   have d2:=ai HC.out.2.2 2 rfl
   have KP:Hid (∀W,bI p q F wc W s'→W.heap[w.heap.size+1]? =some (.cells #[.int .i64 0,.int .u8 0,.int .i64 0,.int .u8 0,.int .i64 0,.int .i64 0] 46 (0,0))∧eH W∧(W.cell? ⟨w.heap.size,0,none⟩=some (.int .i64 x.e)∧W.cell? ⟨w.heap.size,1,none⟩=some (.int .u8 x.r)∧W.cell? ⟨w.heap.size,2,none⟩=some (.int .i64 x.a)∧W.cell? ⟨w.heap.size,3,none⟩=some (.int .u8 x.p)∧W.cell? ⟨w.heap.size,4,none⟩=some (.int .i64 x.f)∧W.cell? ⟨w.heap.size,5,none⟩=some (.int .i64 x.b))):=hide fun W k=>by
    obtain⟨F',k1,k2,_⟩:=k
    have zc:=b0c.size
    have e0:W.heap[w.heap.size]? =wc.heap[w.heap.size]? :=k2.block _ (by have:=HC.out.1.size;omega) fun e=>by have:=gN _ e;omega
    have ec:∀j,W.cell? ⟨w.heap.size,j,none⟩=wc.cell? ⟨w.heap.size,j,none⟩:=fun j=>by simp[World.cell?,e0]
    exact⟨(k2.block _ (ax R1) fun e=>by have:=gN _ e;omega).trans R1,k1.gz,(ec 0).trans c0,(ec 1).trans c1,(ec 2).trans c2,(ec 3).trans c3,(ec 4).trans c4,(ec 5).trans c5⟩
   have PV:Hid (∀W W2 V,bI p q F wc W s'→Below W.heap.size W W2→W2.grownBy V (some (w.heap.size+1))→bI p q F w V s'):=hide fun W W2 V j1 j2 j3=>bI.res b0c j1 j2 j3 (by omega) (by have:=HC.out.1.size;omega) (fun e=>by have:=gN _ e;omega) HH.out.1.gz.pos
   clear HC HL HO FIN LGB LSB HG HLS R1 b0c e1 k1 k2 hgd hfc hic o1 o2 o3 hrl
   go_wp2_with fail
   refine OR.out.mono ?_
   rintro E w7 ⟨rfl,k7⟩
   obtain⟨r7,m7,c0,c1,c2,c3,c4,c5⟩:=KP.out w7 k7
   have RF:=hide (afK.out w7 r7 m7)
   have K7:=hide k7
   have R7:=hide r7
   clear OR k7 r7 m7 afK KP
   go_wp2_with fail
   refine RF.out.mono ?_
   rintro E w9 ⟨rfl,b9⟩
   obtain⟨V',hV',dN,cZ,⟨q0,q1,q2,q3,q4,q5⟩,fr,⟨u0,u1,u2,u3,u4,u5⟩⟩:=eu ((b9.block _ (ax R7.out)).trans R7.out) (.int .i64 y.e) (.int .u8 y.r) (.int .i64 y.a) (.int .u8 y.p) (.int .i64 y.f) (.int .i64 y.b)
   have g0:=fr 0;have g1:=fr 1;have g2:=fr 2;have g3:=fr 3;have g4:=fr 4;have g5:=fr 5
   have BV:=hide (PV.out _ _ _ K7.out b9 cZ)
   clear RF b9 R7 K7 cZ dN fr PV c0 c1 c2 c3 c4 c5
   go_wp2
   refine bodyPost_ret (v:=.tuple #[.agg #[.int .i64 y.e,.int .u8 y.r,.int .i64 y.a,.int .u8 y.p,.int .i64 y.f,.int .i64 y.b],.int .i64 ye]) (by simp[results,Tryz.results79,go_sem,u0,u1,u2,u3,u4,u5]) rfl ?_
   exact⟨rfl,BV.out⟩
theorem ank (l:List Cm.Cv)(n:Int)(h0:0≤n)(h:n≤l.length):yJ l (n+1) l.length=l.drop n.toNat:=by
 unfold yJ
 split
 ·rename_i k
  have:l.length≤n.toNat:=by omega
  rw[List.drop_eq_nil_of_le this]
 ·rw[show(n+1).toNat-1=n.toNat by omega]
  exact List.take_of_length_le (by rw[List.length_drop];omega)
theorem vP (P q pw pr:Nat)(F Gw Gr:Nat→Prop)(w:World)(off:Bool)(x:Pm.Pg)(vs:Value)(d:Dm.Ds)(l r:List Cm.Cv)(hb:w.heap[P]? =some (.cells (eF q off x (.pointer (some ⟨pw,0,none⟩)) l.length (.pointer (some ⟨pr,0,none⟩)) vs) 94 (0,0)))(hp:∃o,vs=.pointer o)(hd:Pk q F w d)(h1:Wk pw q Gw w l false)(h2:Rk pr q Gr w r false)(hle:Cm.lastN 0 r≤l.length)(hll:l.length≤100000):
  Calls Tryz.prog 56 #[.pointer (some ⟨P,0,none⟩)] w fun E w'=>E=.returned (.int .i64 0)∧∃ps,∃Gs,Sk ps pr Gs w' (l.drop (Cm.lastN 0 r).toNat)∧(∀g,Gs g→w.heap.size≤g)∧w'.heap[P]? =some (.cells (eF q off x (.pointer (some ⟨pw,0,none⟩)) l.length (.pointer (some ⟨pr,0,none⟩)) (.pointer (some ⟨ps,0,none⟩))) 94 (0,0))∧Out (fun g=>g=P) w w':=by
 obtain⟨o,rfl⟩:=hp
 have hpl:=ax hb
 have hgr:Rl.Good 0 r:=by
  obtain⟨v,rs,k,_⟩:=h2
  exact k.log.good
 have h0n:0≤Cm.lastN 0 r:=(Rl.eO hgr).2.1
 have hgl:=h1.good
 have hgd:Cm.Good 1 (Cm.lastN 0 r) (l.drop (Cm.lastN 0 r).toNat):=by
  have:=Sto.wK (Rst.aby hgl) (Cm.lastN 0 r).toNat (by omega)
  rw[show(0:Int)+((Cm.lastN 0 r).toNat:Int)=Cm.lastN 0 r by omega]at this
  exact this
 have hfr:=ank l (Cm.lastN 0 r) h0n hle
 obtain⟨K,hK⟩:∃K:World→Prop,K=fun W=>Hid (W.heap[P]? =w.heap[P]?∧Below w.heap.size w W):=⟨_,rfl⟩
 have HE:Hid (∀W,K W→Calls Tryz.prog 108 #[.pointer (some ⟨pr,0,none⟩)] W fun E w'=>E=.returned (.int .i64 (Cm.lastN 0 r))∧K w'):=hide fun W k=>by
  subst hK
  refine(lQ pr q _ W ⟨d,r,false⟩ ⟨F,Gr,hd.below k.out.2,h2.below k.out.2,rfl⟩).mono ?_
  rintro E w' ⟨rfl,rfl⟩
  exact⟨rfl,k⟩
 have HF:Hid (∀W,K W→Calls Tryz.prog 34 #[.pointer (some ⟨pw,0,none⟩),.int .i64 (Cm.lastN 0 r+1),.int .i64 l.length] W fun E w'=>∃a n k rs,E=.returned (.slice a n k)∧Hid (di w' (.slice a n k) rs∧ay rs=l.drop (Cm.lastN 0 r).toNat)∧K w'):=hide fun W k=>by
  subst hK
  refine(wU pw q _ W ⟨d,l,false⟩ (Cm.lastN 0 r+1) l.length ⟨F,Gw,hd.below k.out.2,h1.below k.out.2,rfl⟩).mono ?_
  rintro E w' ⟨v,rs,rfl,o1,o2,o3,o4,o5⟩
  have b:=k.out.2.trans (o5.mono k.out.2.size)
  have o3:ay rs=l.drop (Cm.lastN 0 r).toNat:=o3.trans hfr
  have hic:di w' v rs:=⟨o1.row,fun c hc=>⟨(o2 c hc).is,by
   have hm:c.c∈l.drop (Cm.lastN 0 r).toNat:=by rw[←o3];exact List.mem_map_of_mem hc
   have:=Sto.iG hgd c.c hm
   have h3:=Cm.aO this.1
   have e1:c.c.e=c.e:=rfl
   have e2:c.c.n=c.n:=rfl
   unfold In64
   omega⟩⟩
  obtain⟨a,n,kk,rfl⟩:∃a n k,v=.slice a n k:=by
   rcases hic.1 with⟨h,_⟩|⟨a,c,h,_⟩
   ·exact⟨_,_,_,h⟩
   ·exact⟨_,_,_,h⟩
  exact⟨a,n,kk,rs,rfl,hide ⟨hic,o3⟩,hide ⟨b.block P hpl,b⟩⟩
 have HO:Hid (∀W,K W→∀a n k rs,Hid (di W (.slice a n k) rs∧ay rs=l.drop (Cm.lastN 0 r).toNat)→Calls Tryz.prog 110 #[.pointer (some ⟨pr,0,none⟩),.slice a n k] W fun E w'=>∃ps,E=.returned (.tuple #[.pointer (some ⟨ps,0,none⟩),.int .i64 0])∧Hid (∃Gs,Sk ps pr Gs w' (l.drop (Cm.lastN 0 r).toNat)∧∀g,Gs g→w.heap.size≤g)∧K w'):=hide fun W k a n kk rs RC=>by
  subst hK
  have hz:=k.out.2.size
  have hfc:dL rs:=fun c hc=>by
   have hm:c.c∈l.drop (Cm.lastN 0 r).toNat:=by rw[←RC.out.2];exact List.mem_map_of_mem hc
   obtain⟨_,_,_,_,h5⟩:=Cm.aO (Sto.iG hgd c.c hm).1
   have:=(Bm.dO h5).2.1
   exact⟨(nE h5).fit,by show c.c.l.length*40≤_;omega⟩
  have hrl:rs.length≤100000:=by
   have:=congrArg List.length RC.out.2
   unfold ay at this
   rw[List.length_map,List.length_drop]at this
   omega
  refine(alX pr q _ W ⟨d,r,false⟩ _ rs ⟨F,Gr,hd.below k.out.2,h2.below k.out.2,rfl⟩ RC.out.1 hfc hrl).mono ?_
  have hf0:(Cm.fol 1 (Cm.lastN 0 r) 0 (ay rs)).1=0:=(Cm.dZ _ _ _ 0).2 (by rw[RC.out.2];exact hgd)
  rintro E w' (⟨h,_⟩|⟨_,ps,rfl,Gs,g1,g2,g3⟩)
  ·exact absurd hf0 h
  ·have b:=k.out.2.trans (g3.mono hz)
   rw[RC.out.2]at g1
   exact⟨ps,rfl,hide ⟨Gs,g1,fun g hg=>by have:=g2 g hg;omega⟩,hide ⟨b.block P hpl,b⟩⟩
 have hwr:IntKind.i64.wrap (Cm.lastN 0 r+1)=Cm.lastN 0 r+1:=aS _ (by omega) (by omega)
 have HL:Hid (∃m,m=l.drop (Cm.lastN 0 r).toNat):=hide ⟨_,rfl⟩
 obtain⟨SS,hSS⟩:∃SS:Int→World→Prop,SS=fun en=>(fun W=>W.cell? ⟨P,8,none⟩=some (.pointer (some ⟨pw,0,none⟩))∧W.cell? ⟨P,9,none⟩=some (.int .i64 en)∧W.cell? ⟨P,11,none⟩=some (.pointer (some ⟨pr,0,none⟩))):=⟨_,rfl⟩
 have sB:∀W,W.heap[P]? =w.heap[P]?→SS l.length W:=fun W k=>by
  subst hSS
  obtain⟨c0,_,c2,c3,c4,c5,c6,c7,c8,c9,_,c11,_⟩:=mH (k.trans hb)
  exact⟨c8,c9,c11⟩
 have KS:Hid (∀W,K W→SS l.length W):=hide fun W k=>by
  subst hK
  exact sB W k.out.1
 have PT:Hid (∀W ps,K W→Hid (∃Gs,Sk ps pr Gs W (l.drop (Cm.lastN 0 r).toNat)∧∀g,Gs g→w.heap.size≤g)→∃V,W.setCell ⟨P,12,none⟩ (.pointer (some ⟨ps,0,none⟩))=V∧W.cell? ⟨P,12,none⟩=some (.pointer o)∧W.frozen? ⟨P,12,none⟩=false∧(SS l.length V∧∃Gs,Sk ps pr Gs V (l.drop (Cm.lastN 0 r).toNat)∧(∀g,Gs g→w.heap.size≤g)∧V.heap[P]? =some (.cells (eF q off x (.pointer (some ⟨pw,0,none⟩)) l.length (.pointer (some ⟨pr,0,none⟩)) (.pointer (some ⟨ps,0,none⟩))) 94 (0,0))∧Out (fun g=>g=P) w V)):=hide fun W ps k sk=>by
  subst hK hSS
  obtain⟨Gs,s1,s2⟩:=sk.out
  have pW:=k.out.1.trans hb
  have oV:Out (fun g=>g=P) W (W.setCell ⟨P,12,none⟩ (.pointer (some ⟨ps,0,none⟩))):=Out.aQ (az W ⟨P,12,none⟩ (.pointer (some ⟨ps,0,none⟩))) fun i hi=>by simpa using hi.symm
  have pV:(W.setCell ⟨P,12,none⟩ (.pointer (some ⟨ps,0,none⟩))).heap[P]? =some (.cells (eF q off x (.pointer (some ⟨pw,0,none⟩)) l.length (.pointer (some ⟨pr,0,none⟩)) (.pointer (some ⟨ps,0,none⟩))) 94 (0,0)):=aH pW 12 (.pointer (some ⟨ps,0,none⟩))
  obtain⟨_,_,_,_,_,_,_,_,c8,c9,_,c11,_⟩:=mH pV
  exact⟨_,rfl,ai pW 12 rfl,aA pW 12,⟨c8,c9,c11⟩,Gs,s1.out oV fun g hg e=>by have:=s2 g hg;omega,s2,pV,(Out.of_below k.out.2).trans oV fun g hg=>.inl hg⟩
 obtain⟨W0,hW0⟩:∃W,w.drew=W:=⟨_,rfl⟩
 have K0:K W0:=by
  subst hK
  rw[←hW0]
  exact hide ⟨rfl,(Below.refl _ _).drew⟩
 subst hK hSS
 simp only at KS PT
 generalize (l.length:Int)=en at*
 generalize l.drop (Cm.lastN 0 r).toNat=rest at*
 generalize Cm.lastN 0 r=n at*
 clear h1 h2 hd hb sB hgr hgl hgd hfr hle hll HL
 go_enter Tryz.func56,Tryz.ntmps56
 go_wp2_with fail
 refine kK (ops:=(aC 1 Tryz.f56)) (S:=fun W=>W.cell? ⟨P,8,none⟩=some (.pointer (some ⟨pw,0,none⟩))∧W.cell? ⟨P,9,none⟩=some (.int .i64 en)∧W.cell? ⟨P,11,none⟩=some (.pointer (some ⟨pr,0,none⟩))) (by kernel_rfl) amX ?_
 rw[ass,hW0]
 refine bG anD (KS.out _ K0) ?_
 refine bG apb (KS.out _ K0) ?_
 refine bG apr (KS.out _ K0) ?_
 refine bG ao1 (KS.out _ K0) ?_
 refine bG akh (KS.out _ K0) ?_
 refine bG amd (KS.out _ K0) ?_
 refine bG ajC (KS.out _ K0) ?_
 refine bG ai7 (KS.out _ K0) ?_
 refine bG aif (KS.out _ K0) ?_
 refine bG aiG (KS.out _ K0) ?_
 refine bG afW (KS.out _ K0) ?_
 refine bG afi (KS.out _ K0) ?_
 refine bG afd (KS.out _ K0) ?_
 refine bG ad3 (KS.out _ K0) ?_
 refine bG adj (KS.out _ K0) ?_
 refine bG adn (KS.out _ K0) ?_
 refine bG ads (KS.out _ K0) ?_
 refine bG abM (KS.out _ K0) ?_
 refine bG abL (KS.out _ K0) ?_
 refine bG aaW (KS.out _ K0) ?_
 refine bG abe (KS.out _ K0) ?_
 refine dB af7 ?_
 refine aI rfl (by rfl) (fun K hK=>?_)
 go_simp
 refine(HE.out _ K0).mono ?_
 rintro E U1 ⟨rfl,k1⟩
 go_wp2_with fail
 refine bq hK (KS.out _ k1) ?_
 clear hK K
 refine bG aaE (KS.out _ k1) ?_
 refine dB af6 ?_
 refine aI rfl (by rfl) (fun K hK=>?_)
 go_simp
 refine(HF.out _ k1).mono ?_
 rintro E U2 ⟨ro,rn,rk,rs,rfl,RC,k2⟩
 go_wp2_with fail
 refine bq hK (KS.out _ k2) ?_
 clear hK K
 refine dB adu ?_
 refine aI rfl (by rfl) (fun K hK=>?_)
 go_simp
 refine(HO.out _ k2 _ _ _ rs RC).mono ?_
 rintro E U3 ⟨pn,rfl,SK,k3⟩
 go_wp2_with fail
 refine bq hK (KS.out _ k3) ?_
 clear hK K
 refine bG zX (KS.out _ k3) ?_
 refine bG zt (KS.out _ k3) ?_
 refine bG yG (KS.out _ k3) ?_
 refine bG yI (KS.out _ k3) ?_
 refine bG yF (KS.out _ k3) ?_
 refine bG wy (KS.out _ k3) ?_
 refine dB aat ?_
 obtain⟨V,hV,a12,f12,SV⟩:=PT.out _ pn k3 SK
 have SV:=hide SV
 refine aI rfl (by rfl) (fun K hK=>?_)
 go_simp
 go_wp2_with fail
 refine bq hK SV.out.1 ?_
 clear hK K
 refine bG xm SV.out.1 ?_
 refine dA asI ?_
 clear HE HF HO KS PT
 go_wp2
 go_ret
 exact⟨rfl,pn,SV.out.2⟩
end Go.Proofs.YtmngcecomcadkaaGreatDoor
namespace Go.Proofs.YtmngcecomcadkaaGreatDoor
set_option linter.unusedVariables false
structure dQ (n:Nat) (s:Rst.St) (ss:List Orp.Se):Prop where
 inn:∃z ps,Rst.In z s ps ss
 has:s.d.has=false
 rz:Rz n s
 run:s.r=[]
section
variable {n:Nat} {s:Rst.St} {ss:List Orp.Se}
theorem arw (z:Pm.Pg)(hz:z.e=1∧z.a=0∧z.p=0∧z.r≠3):dQ 50 ⟨Dm.new,z,[],[],false⟩ []:=
 ⟨⟨z,[],Rst.awp z hz⟩,rfl,⟨yu.mono (by decide) (by decide),Nat.zero_le _,avf⟩,rfl⟩
theorem dQ.mono {m:Nat}(h:dQ n s ss)(hm:n≤m):dQ m s ss:=⟨h.inn,h.has,h.rz.mono hm,h.run⟩
theorem dQ.qR (h:dQ n s ss)(hn:n≤500):pG s:=⟨h.rz.1.mono (by omega) (by omega),by have:=h.rz.2.1;omega⟩
theorem dQ.t3 (h:dQ n s ss):T3 s.d:=h.rz.2.2
theorem dQ.ask (h:dQ n s ss):Rst.asked s=false:=by
 obtain⟨z,ps,k⟩:=h.inn
 exact k.ask
theorem dQ.kR (h:dQ n s ss):Rst.hf 3 s.d=Orp.secs ss∧Orp.Ris 0 ss∧s.d.sure 3=Orp.secs ss:=by
 obtain⟨z,ps,k⟩:=h.inn
 exact⟨(Rst.dG k.calm 3).trans k.kR,k.go,k.kR⟩
theorem dQ.log (h:dQ n s ss):(Wl.hld s.d)=Wl.aR s.l∧Cm.Good 0 0 s.l:=by
 obtain⟨z,ps,k⟩:=h.inn
 exact⟨(Rst.dG k.calm 0).trans k.log,k.gl⟩
theorem dQ.set (h:dQ n s ss){q:Pm.Pg}(h1:Pm.chk q=0)(h2:Rst.snd q s.l 0 (Orp.secs ss).length=true):
  (Rst.dm s q).1=0∧dQ (n+1) (Rst.dm s q).2 ss∧(Rst.dm s q).2.p=q∧(Rst.dm s q).2.l=s.l:=by
 obtain⟨z,ps,k⟩:=h.inn
 obtain⟨e1,e2,e3,e4,e5,e6⟩:=Rst.arM k h.has h1 (by rw[h.run];exact h2)
 exact⟨e1,⟨⟨z,_,e2⟩,e6,atl h.rz q,e5.trans h.run⟩,e3,e4⟩
theorem asV {n:Nat}{s:Rst.St}(h:Rz n s)(cs:List Cm.Cv)(hl:cs.length≤30):Rz (n+15) (Rst.add s cs).2:=by
 have hm:Rz (n+15) s:=h.mono (by omega)
 unfold Rst.add
 split
 ·exact hm
 split
 ·exact hm
 rename_i hc
 split
 ·exact hm
 split
 ·exact hm
 have hg:Cm.Good (Cm.lastE 0 s.l) s.l.length cs:=(Cm.dZ _ _ _ 0).1 (by simpa using hc)
 have h1:=ahF cs h.1 fun c hcc=>(Sto.iG hg c hcc).1
 have h2:=uW h1
 have hb:Big (60000*n+433*cs.length) (1000*n+7*cs.length+1) (Rst.fD s.d cs).2:=by
  unfold Rst.fD
  split
  ·exact h1.mono (by omega) (by omega)
  ·split
   ·exact h2
   ·exact h2
 have ht:=ara h.2.2 (awx s.d cs 3 (by omega))
 split
 ·exact⟨hb.mono (by omega) (by omega),by have:=h.2.1;show s.l.length≤_;omega,ht⟩
 ·refine⟨hb.mono (by omega) (by omega),?_,ht⟩
  have:=h.2.1
  show(s.l++cs).length≤_
  rw[List.length_append]
  omega
theorem dQ.add (h:dQ n s ss){cs:List Cm.Cv}(h1:Cm.Good (Cm.lastE 0 s.l) s.l.length cs)(h2:Rst.snd s.p (s.l++cs) 0 (Orp.secs ss).length=true)(hl:cs.length≤30):
  (Rst.add s cs).1=0∧dQ (n+15) (Rst.add s cs).2 ss∧(Rst.add s cs).2.p=s.p∧(Rst.add s cs).2.l=s.l++cs:=by
 obtain⟨z,ps,k⟩:=h.inn
 obtain⟨e1,e2,e3,e4,e5,e6⟩:=Rst.av5 k h.has ((Cm.dZ _ _ _ 0).2 h1) (by rw[h.run];exact h2)
 exact⟨e1,⟨⟨z,_,e2⟩,e6,asV h.rz cs hl,e5.trans h.run⟩,e3,e4⟩
theorem dQ.ayO (h:dQ n s ss){x:Orp.Se}{b:Int}(hb:b=(Orp.secs ss).length)(h1:Orp.chk x=0)(h2:ss=[]∨Orp.kg 0 ss<x.e)(h3:s.p.b≤b)(hl:x.cs.length≤100):
  (Rst.dI s b x ss).1=0∧dQ (n+1) (Rst.dI s b x ss).2 (ss++[x])∧(Rst.dI s b x ss).2.p=s.p∧(Rst.dI s b x ss).2.l=s.l∧Rst.dI s b x ss=((Orp.dX s.d b x).1,⟨(Orp.dX s.d b x).2,s.p,s.l,s.r,s.off||decide ((Orp.dX s.d b x).1=6)⟩):=by
 obtain⟨z,ps,k⟩:=h.inn
 have ho:=h.kR
 have hE:Rst.xB s b x ss=0:=by
  unfold Rst.xB
  rw[if_neg]
  rintro(e|⟨e1,e2⟩|⟨_,e⟩)
  ·exact e hb.symm
  ·rcases h2 with e|e
   ·exact e1 e
   ·omega
  ·omega
 have hr:Rst.dI s b x ss=((Orp.dX s.d b x).1,⟨(Orp.dX s.d b x).2,s.p,s.l,s.r,s.off||decide ((Orp.dX s.d b x).1=6)⟩):=by
  unfold Rst.dI
  rw[if_neg (by rw[h.ask];simp),if_neg (by rw[h1];simp),if_neg (by rw[ho.1];omega),if_neg (by rw[hE];simp)]
 have hsn:Orp.Sn 0 ((s.d.sure 3).take b.toNat) ss:=by
  rw[ho.2.2,List.take_of_length_le (by omega)]
  exact Orp.qc ho.2.1
 have hrz:Rz (n+1) (Rst.dI s b x ss).2∨¬T3 (Rst.dI s b x ss).2.d:=by
  by_cases ht:T3 (Rst.dI s b x ss).2.d
  ·refine .inl ⟨?_,?_,ht⟩
   ·rw[hr]
    have e1:=Orp.aaB h1
    have e2:cnt (Orp.sec x).length≤900:=by unfold cnt;omega
    exact(arv h.rz.1 b x).mono (by omega) (by omega)
   ·rw[hr]
    have:=h.rz.2.1
    show s.l.length≤_
    omega
  ·exact .inr ht
 rcases Rst.aj3 k b x hsn with⟨c1,c2,c3⟩|⟨c1,c2,c3,c4,c5,c6,c7⟩|⟨_,_,c2,_⟩
 ·exfalso
  rw[hr]at c1 c2
  have hw:=(Orp.atY (st:=s.d) (s:=x) (b0:=Orp.secs ss) k.on h1 (by rw[show Orp.hl s.d=Rst.hf 3 s.d from rfl,ho.1];exact List.prefix_refl _)).1
  rw[←hb]at hw
  rcases hw with⟨e,_⟩|⟨e,_⟩
  ·exact c1 e
  ·exact c2 e
 ·have t3:T3 (Rst.dI s b x ss).2.d:=⟨ss++[x],c3.go,(Rst.dG c3.calm 3).trans c3.kR⟩
  exact⟨c1,⟨⟨z,_,c3⟩,c7 h.has,hrz.resolve_right fun e=>e t3,c6.trans h.run⟩,c4,c5,hr⟩
 ·rw[h.has]at c2;cases c2
theorem dQ.short (h:dQ n s ss){tt:Nat}(h1:tt≤s.l.length)(h2:Rst.snd s.p (s.l.take tt) 0 (Orp.secs ss).length=true):
  (Rst.df s tt).1=0∧dQ (n+1) (Rst.df s tt).2 ss∧(Rst.df s tt).2.p=s.p∧(Rst.df s tt).2.l=s.l.take tt∧(Rst.cut s tt).1=0∧Rst.df s tt=(0,⟨(Rst.cut s tt).2,s.p,s.l.take tt,s.r,s.off⟩):=by
 obtain⟨z,ps,k⟩:=h.inn
 have hr0:Cm.lastN 0 s.r=0:=by rw[h.run];rfl
 have hx:¬((tt:Int)<Cm.lastN 0 s.r∨(s.l.length:Int)<tt):=by rw[hr0];omega
 have ht:((tt:Int)).toNat=tt:=by omega
 have hfi:Rst.fine s s.p (s.l.take tt) (Cm.lastN 0 s.r)=true:=by rw[k.fine,hr0];exact h2
 have hu:Rst.df s tt=if (Rst.cut s tt).1≠0 then(6,⟨(Rst.cut s tt).2,s.p,s.l,s.r,true⟩)else(0,⟨(Rst.cut s tt).2,s.p,s.l.take tt,s.r,s.off⟩):=by
  unfold Rst.df
  rw[if_neg (by rw[h.ask];simp),if_neg hx,ht,if_neg (by rw[hfi];simp)]
 rcases Rst.aiL k tt with⟨c1,c2,c3⟩|⟨c1,_,_,c3,c4,c5,c6,c7⟩|⟨_,c2,_⟩
 ·exfalso
  rw[hu]at c1 c2
  split at c1
  ·rename_i e
   rw[if_pos e]at c2
   exact c2 rfl
  ·exact c1 rfl
 ·have hc:(Rst.cut s tt).1=0:=by
   refine Classical.byContradiction fun e=>?_
   rw[hu,if_pos e]at c1
   cases c1
  have hr:Rst.df s tt=(0,⟨(Rst.cut s tt).2,s.p,s.l.take tt,s.r,s.off⟩):=by rw[hu,if_neg (by simp[hc])]
  rw[ht]at c5
  refine⟨c1,⟨⟨z,_,c3⟩,c7 h.has,⟨?_,?_,ss,c3.go,(Rst.dG c3.calm 3).trans c3.kR⟩,c6.trans h.run⟩,c4,c5,hc,hr⟩
  ·rw[hr]
   have b1:=sS h.rz.1 0 (Wl.aR (s.l.take tt)).length
   have b2:=uW b1
   show Big _ _ (Rst.cut s tt).2
   unfold Rst.cut
   rw[ht]
   split
   ·exact b1.mono (by omega) (by omega)
   ·split
    ·exact b2.mono (by omega) (by omega)
    ·exact b2.mono (by omega) (by omega)
  ·rw[c5,List.length_take]
   have:=h.rz.2.1
   omega
 ·rw[h.has]at c2;cases c2
end
end Go.Proofs.YtmngcecomcadkaaGreatDoor
