/- Texts of one layer, one behind the other. -/
import Derived.Test.YtmngcecomcadkaaGreatDoorCH23
import Derived.Test.YtmngcecomcadkaaGreatDoorCH28
import Derived.Test.YtmngcecomcadkaaGreatDoorCZRqt
import Derived.Test.YtmngcecomcadkaaGreatDoorCH31
import Derived.Test.YtmngcecomcadkaaGreatDoorCH27
import Derived.Test.YtmngcecomcadkaaGreatDoorCH17
import Derived.Test.YtmngcecomcadkaaGreatDoorCH4
import Derived.Test.YtmngcecomcadkaaGreatDoorCM4
import Derived.Test.YtmngcecomcadkaaGreatDoorCH12
set_option maxRecDepth 100000
set_option maxHeartbeats 8000000
namespace Go.Proofs.YtmngcecomcadkaaGreatDoor
open Go.RowKit
set_option linter.unusedVariables false
structure Lv (w0 w:World) (p q:Nat) (F:Nat→Prop) (s:Rst.St):Prop where
 st:PS p q F w s
 new:∀g,F g→w0.heap.size≤g∧0<g
 aF:Below w0.heap.size w0 w
section
variable {w0 w w':World} {p q:Nat} {F:Nat→Prop} {s s':Rst.St} {z:Pm.Pg} {ps:List Pm.Pg} {ss:List Orp.Se} {n:Nat}
end
def exP:Bm.Ov:=⟨true,⟨#[97]⟩,⟨#[49]⟩⟩
def z0:Pm.Pg:=⟨1,1,0,0,0,0⟩
def c11:Cm.Cv:=⟨1,1,[exP]⟩
def z1:Pm.Pg:=⟨1,1,1,0,0,0⟩
def kv:Bm.Ov:=⟨true,⟨#[107]⟩,⟨#[118]⟩⟩
def l3:List Cm.Cv:=[⟨1,1,[kv]⟩,⟨1,2,[kv]⟩,⟨1,3,[kv]⟩]
theorem rW:Bm.dY [kv]=0:=by decide
theorem sQ:Cm.Good 0 0 l3:=⟨by rw[Cm.kU (by decide)];exact rW,by decide,by decide,by rw[Cm.kU (by decide)];exact rW,by decide,by decide,by rw[Cm.kU (by decide)];exact rW,by decide,by decide,trivial⟩
def Cms (b:Nat) (w:World) (v:Value) (l:List Cm.Cv):Prop:=∃rs,bn 35 b w v rs∧dR b w rs∧ay rs=l
theorem aaV {w:World}{v:Value}{rs:List Cw}{b:Nat}(h1:bn 35 b w v rs)(h2:dR b w rs)(hg:∀c∈ay rs,Cm.chk c.e c.n c.l=0):di w v rs∧dL rs:=by
 have hk:∀c∈rs,Cm.chk c.e c.n c.l=0:=fun c hc=>hg c.c (by unfold ay;exact List.mem_map.2 ⟨c,hc,rfl⟩)
 refine⟨⟨h1.row,fun c hc=>⟨(h2 c hc).is,by have:=Cm.aO (hk c hc);unfold In64;omega⟩⟩,fun c hc=>?_⟩
 obtain⟨_,_,_,_,h5⟩:=Cm.aO (hk c hc)
 have:=(Bm.dO h5).2.1
 exact⟨(nE h5).fit,by omega⟩
theorem afm (g:Nat)(w:World)(hg:w.heap[g]? =some (.cells #[.int .i64 1,.int .i64 1,.int .i64 1] 3 (0,0))):
  Calls Tryz.prog 22 #[.slice (some ⟨g,0,none⟩) 3 3] w fun E w'=>∃a k,E=.returned (.slice a 3 k)∧Hid (Cms w.heap.size w' (.slice a 3 k) l3)∧Below w.heap.size w w':=by
 have hgl:=ax hg
 have HC:Hid (∀W,Below w.heap.size w W→∀k:Nat,k<3→W.cell? ⟨g,k,none⟩=some (.int .i64 1)):=hide fun W hW k hk=>by
  have:=(hW.block g hgl).trans hg
  obtain rfl|rfl|rfl:k=0∨k=1∨k=2:=by omega
  ·exact ai this 0 rfl
  ·exact ai this 1 rfl
  ·exact ai this 2 rfl
 have HL:Hid (∀k:Nat,k<3→l3.take (k+1)=l3.take k++[⟨1,(k:Int)+1,[kv]⟩]):=hide fun k hk=>by
  obtain rfl|rfl|rfl:k=0∨k=1∨k=2:=by omega
  ·rfl
  ·rfl
  ·rfl
 clear hg hgl
 go_enter Tryz.func22,Tryz.ntmps22
 go_wp2
 go_loopw [3,4] (fun ov iv wr=>∃(k:Nat) (rs:List Cw),k≤3∧iv=.int .i64 k∧rs.length=k∧Hid (bn 35 w.heap.size wr ov rs∧ay rs=l3.take k∧dR w.heap.size wr rs)∧Hid (Below w.heap.size w wr)) (fun _ iv _=>3-(intOf iv).toNat)
 case atStart=>exact⟨0,[],by omega,rfl,rfl,hide ⟨bn.nil _ _ _,rfl,fun c hc=>by simp at hc⟩,hide (Below.refl _ _)⟩
 case round=>
  obtain⟨k,rs,hk,rfl,hrl,HT,HB⟩:=hrel
  by_cases hlt:k<3
  ·have aF:=HB.out
   have sz:=aF.size
   have d0:=HC.out wr aF k hlt
   obtain⟨hO,hE,hP⟩:=HT.out
   obtain⟨w2,hw2,dz,au,aP⟩:=zY 111 wr #[.bool true,.string ⟨#[107]⟩,.string ⟨#[118]⟩] 1 [kv] rfl rfl (by simp[maxLen])
   obtain⟨w3,hw3,cB,aD,bD⟩:=kC 35 w2 #[.int .i64 1,.int .i64 ((k:Int)+1),.slice (some ⟨wr.heap.size,0,none⟩) 1 1] 1 [⟨1,(k:Int)+1,.slice (some ⟨wr.heap.size,0,none⟩) 1 1,[kv]⟩] rfl rfl (by simp[maxLen])
   have jR:Below wr.heap.size wr w3:=au.trans (aD.mono (by omega))
   rw[dz]at bD
   have hO3:=hO.below jR
   have HP:=hide (hP.below jR)
   have aaH:=hide ((aP.below aD).bu (base':=w.heap.size) (by omega))
   have hlk:(rs.length+[(⟨1,(k:Int)+1,.slice (some ⟨wr.heap.size,0,none⟩) 1 1,[kv]⟩:Cw)].length)*40≤140737488355328:=by rw[List.length_singleton];omega
   have HE:=hide hE
   have aY:=hide (aF.trans (jR.mono (by omega)))
   have hlt':(k:Int)<3:=by omega
   have hwr:IntKind.i64.wrap ((k:Int)+1)=(k:Int)+1:=aS _ (by omega) (by omega)
   have hb3:w.heap.size≤w3.heap.size:=by omega
   clear HT hO hP hE au aD jR aP aF HB
   go_wp2_with (at_builtin;refine jY rfl (.tmp 11) (.tmp 21) 22 rfl 35 w.heap.size Tryz.underlying22 Tryz.oq _ rs rfl hO3 _ _ rfl bD.row (by intro c hc;rw[List.mem_singleton.1 hc];rfl) hlk hb3 ?_)
   intro v4 w4 aW aK rM
   have HT2:Hid (bn 35 w.heap.size w4 v4 (rs++[⟨1,(k:Int)+1,.slice (some ⟨wr.heap.size,0,none⟩) 1 1,[kv]⟩])∧ay (rs++[⟨1,(k:Int)+1,.slice (some ⟨wr.heap.size,0,none⟩) 1 1,[kv]⟩])=l3.take (k+1)∧dR w.heap.size w4 (rs++[⟨1,(k:Int)+1,.slice (some ⟨wr.heap.size,0,none⟩) 1 1,[kv]⟩])):=
    hide ⟨aW,by rw[HL.out k hlt,←HE.out];unfold ay;rw[List.map_append];rfl,(HP.out.iJ rM).snoc (aaH.out.iJ rM (by decide))⟩
   have dW:=hide (aY.out.trans aK)
   clear aW rM aaH bD hO3 HE HP aY aK hlk
   go_wp2
   go_roundw
   case rel=>exact⟨k+1,_,by omega,by go_num,by rw[List.length_append,hrl];rfl,HT2,dW⟩
   case measure=>simp[intOf];omega
  ·obtain rfl:k=3:=by omega
   obtain⟨ao,co,hov,_,_⟩:=HT.out.1.row.shape
   rw[hrl]at hov
   subst hov
   have X:Hid (Cms w.heap.size wr (.slice ao 3 co) l3):=hide ⟨rs,HT.out.1,HT.out.2.2,HT.out.2.1⟩
   clear HT
   go_wp2
   go_ret
   exact⟨ao,co,rfl,X,HB.out⟩
def hel (g:Nat):Mw:=⟨1,2,1,4,.slice (some ⟨g,0,none⟩) 2 2,[(1,1),(2,3)],0,0,.slice none 0 0,[]⟩
theorem ars (g:Nat):dx (hel g):=⟨by simp[hel,In64],by simp[hel,In64],by simp[hel],by simp[hel],by simp[hel,In64],by simp[hel,In64],by simp[hel,In64],by simp[hel],fun c hc=>by simp[hel]at hc,by simp[hel]⟩
theorem avT (g:Nat):Mm.Ck (hel g).m 0:=.inl ⟨rfl,by show(1:Int)≤2;decide,by show(2:Int)≤1048576;decide,.inl ⟨rfl,by show(1:Int)≤1;decide,by show(1:Int)≤3;decide,Sm.xV.1 (by show Sm.okb [(1,1),(2,3)] 4=true;decide),by show Sm.dH [(1,1),(2,3)]≤2;decide,rfl,rfl,rfl⟩⟩
theorem aiN (w:World):Calls Tryz.prog 23 #[] w fun E w'=>∃g,E=.returned (mv (hel g))∧fw w' (hel g)∧Below w.heap.size w w':=by
 obtain⟨w1,hw1,s1,b1,P1⟩:=ak w #[.int .i64 0,.int .i64 0,.int .u8 0,.int .i64 0,.slice none 0 0,.int .i64 0,.int .i64 0,.slice none 0 0] 26
 obtain⟨w2,hw2,s2,b2,o2⟩:=zN w1 #[.int .i64 1,.int .i64 1,.int .i64 2,.int .i64 3] 2 [(1,1),(2,3)] rfl rfl (by simp[maxLen])
 have P2:=(b2.block _ (by omega)).trans P1
 have b02:Below w.heap.size w w2:=b1.trans (b2.mono (by omega))
 rw[s1]at o2
 obtain⟨Z,hZ,bZ,gZ,⟨a0,a1,a2,a3,a4,a5,a6,a7⟩,fr,⟨z0,z1,z2,z3,z4,z5,z6,z7⟩⟩:=av8 P2 (.int .i64 1) (.int .i64 2) (.int .u8 1) (.int .i64 4) (.slice (some ⟨w.heap.size+1,0,none⟩) 2 2) (.int .i64 0) (.int .i64 0) (.slice none 0 0)
 have f0:=fr 0;have f1:=fr 1;have f2:=fr 2;have f3:=fr 3;have f4:=fr 4;have f5:=fr 5;have f6:=fr 6;have f7:=fr 7
 have X:Hid (fw Z (hel (w.heap.size+1))∧Below w.heap.size w Z):=hide ⟨⟨by
  have oz:jU (w.heap.size+1) Z (.slice (some ⟨w.heap.size+1,0,none⟩) 2 2) [(1,1),(2,3)]:=o2.agree fun b hb=>gZ.block b (o2.lt b hb).2 (fun e=>by
   have:=(o2.lt b hb).1
   have e:=Option.some.inj e
   omega)
  exact oz.row,di.nil _⟩,aB b02 gZ (Nat.le_refl _) (by omega)⟩
 clear b1 b2 b02 P1 P2 o2 bZ gZ fr
 go_enter Tryz.func23,Tryz.ntmps23
 go_wp2
 refine bodyPost_ret (v:=mv (hel (w.heap.size+1))) (by simp[results,Tryz.results23,go_sem,z0,z1,z2,z3,z4,z5,z6,z7,mv,hel]) rfl ?_
 exact⟨_,rfl,X.out⟩
theorem abY {r:List Int}{n:Nat}{e:Int}(h:Fm.Rd [] r n e):e=5∧r=[]∧n=0:=by
 rcases h with⟨_,_,_,h⟩|⟨h1,h2,h3,_⟩
 ·have h1:=(Fm.abB h).2.2
  have h2:=Vm.tH r.length
  simp at h1
  omega
 ·exact⟨h1,h2,h3⟩
theorem ai3 (vb:Value)(w:World)(hb:Is .u8 w vb []):
  Calls Tryz.prog 139 #[vb] w fun E w'=>E=.returned (.agg #[.slice none 0 0,.slice none 0 0])∧Below w.heap.size w w':=by
 obtain⟨w1,hw1,aT,aj,hR⟩:=ak w #[.slice none 0 0,.slice none 0 0] 135
 obtain⟨w2,hw2,dz,au,hL⟩:=ak w1 #[.slice none 0 0,.slice none 0 0] 135
 have b02:=aj.trans (au.mono (by omega))
 have hR2:=(au.block _ (by omega)).trans hR
 rw[aT]at hL
 have HF:=hide (oJ vb [] w2 (hb.below b02) (by simp))
 have HH:=hide (And.intro b02 (And.intro hR2 hL))
 obtain⟨ba,bc,hvb,_,_⟩:=hb.shape
 clear hb aj au hR hL hR2 b02
 subst hvb
 go_enter Tryz.func139,Tryz.ntmps139
 go_wp2
 go_loopw [0] (fun fv wr=>fv=.slice ba ([]:List Int).length bc∧wr=w2) (fun _ _=>0)
 case atStart=>exact⟨rfl,rfl⟩
 case round=>
  obtain⟨rfl,hwr⟩:=hrel
  subst hwr
  go_wp2_with fail
  refine HF.out.mono ?_
  rintro E wa ⟨v1,z,n,e,rfl,aX,aj,R⟩
  obtain⟨rfl,rfl,rfl⟩:=abY R.out
  obtain⟨b02,hR,hL⟩:=HH.out
  have BA:=hide (b02.trans (aj.mono b02.size))
  have jF:=(aj.block _ (by omega)).trans hR
  have hL1:=(aj.block _ (by omega)).trans hL
  have c0:wa.cell? ⟨w.heap.size+1,0,none⟩=some (.slice none 0 0):=ai hL1 0 rfl
  have c1:wa.cell? ⟨w.heap.size+1,1,none⟩=some (.slice none 0 0):=ai hL1 1 rfl
  have a0:wa.cell? ⟨w.heap.size,0,none⟩=some (.slice none 0 0):=ai jF 0 rfl
  have a1:wa.cell? ⟨w.heap.size,1,none⟩=some (.slice none 0 0):=ai jF 1 rfl
  have f0:=aA jF 0
  have f1:=aA jF 1
  have s0:wa.setCell ⟨w.heap.size,0,none⟩ (.slice none 0 0)=wa:=aJ jF (j:=0) rfl
  have s1:wa.setCell ⟨w.heap.size,1,none⟩ (.slice none 0 0)=wa:=aJ jF (j:=1) rfl
  obtain⟨o1,k1,hv1,_,_⟩:=aX.is.shape
  subst hv1
  clear aX aj R b02 hR hL jF hL1 HH HF
  go_wp2
  try rw[Exit.noGoto_ret]
  refine bodyPost_ret (v:=.agg #[.slice none 0 0,.slice none 0 0]) (by simp[results,Tryz.results139,go_sem,a0,a1]) rfl ?_
  exact⟨rfl,BA.out⟩
theorem ain (vb:Value)(bs:List Int)(w:World)(hb:Is .u8 w vb bs)(h0:bs=[]):
  Calls Tryz.prog 146 #[vb] w fun E w'=>E=.returned (.tuple #[.slice none 0 0,.int .i64 0])∧Below w.heap.size w w':=by
 obtain⟨n,hn⟩:∃n:Nat,n=0:=⟨0,rfl⟩
 have hl:bs.length≤1000:=by simp[h0]
 have hle:n≤bs.length:=by omega
 have H0:=hide h0
 have HN:=hide hn
 obtain⟨vs,hsl,eQ⟩:=hb.gq Tryz.avr Tryz.ate n hle
 have HF:=hide (oJ vs _ w eQ (by rw[List.length_drop];omega))
 obtain⟨ba,bc,hvb,_,_⟩:=hb.shape
 clear hb eQ hn h0
 subst hvb
 go_enter Tryz.func146,Tryz.ntmps146
 go_wp2
 go_loopw [2,3] (fun lv gv wr=>lv=.slice none 0 0∧gv=.int .i64 n∧wr=w) (fun _ _ _=>0)
 case atStart=>exact⟨rfl,by rw[HN.out];rfl,rfl⟩
 case round=>
  obtain⟨rfl,rfl,hwr⟩:=hrel
  subst hwr
  go_wp2_with fail
  refine HF.out.mono ?_
  rintro E wa ⟨v1,z,k,e,rfl,aX,aj,R⟩
  have R':=R.out
  rw[H0.out,List.drop_nil]at R'
  obtain⟨rfl,rfl,rfl⟩:=abY R'
  have BA:=hide aj
  obtain⟨o1,k1,hv1,_,_⟩:=aX.is.shape
  subst hv1
  clear aX aj R R' HF hsl
  go_wp2
  go_ret2
  exact⟨by rw[HN.out];rfl,BA.out⟩
theorem aiv (vb:Value)(w:World)(hb:Is .u8 w vb []):
  Calls Tryz.prog 143 #[vb] w fun E w'=>∃(y:Pm.Pg) (m:Nat),E=.returned (.tuple #[.agg #[.int .i64 y.e,.int .u8 y.r,.int .i64 y.a,.int .u8 y.p,.int .i64 y.f,.int .i64 y.b],.int .i64 m,.int .i64 5])∧Below w.heap.size w w':=by
 obtain⟨w1,hw1,aT,aj,jF⟩:=ak w #[.int .i64 0,.int .u8 0,.int .i64 0,.int .u8 0,.int .i64 0,.int .i64 0] 46
 have hb1:=hb.below aj
 have HB:=hide jF
 obtain⟨ao,cap,rfl,_,_⟩:=hb.shape
 clear jF hb
 go_enter Tryz.func143,Tryz.ntmps143
 go_wp2_with fail
 refine(oJ _ [] _ hb1 (by simp)).mono ?_
 rintro E w2 ⟨v2,r,n,e,rfl,aP,au,R2⟩
 have B2:=(au.block _ (ax HB.out)).trans HB.out
 have aL:=hide (aj.trans (au.mono (by omega)))
 obtain⟨rfl,rfl,rfl⟩:=abY R2.out
 obtain⟨z0,z1,z2,z3,z4,z5⟩:=aN B2
 have s0:w2.setCell ⟨w.heap.size,0,none⟩ (.int .i64 0)=w2:=aJ B2 (j:=0) rfl
 have s1:w2.setCell ⟨w.heap.size,1,none⟩ (.int .u8 0)=w2:=aJ B2 (j:=1) rfl
 have s2:w2.setCell ⟨w.heap.size,2,none⟩ (.int .i64 0)=w2:=aJ B2 (j:=2) rfl
 have s3:w2.setCell ⟨w.heap.size,3,none⟩ (.int .u8 0)=w2:=aJ B2 (j:=3) rfl
 have s4:w2.setCell ⟨w.heap.size,4,none⟩ (.int .i64 0)=w2:=aJ B2 (j:=4) rfl
 have s5:w2.setCell ⟨w.heap.size,5,none⟩ (.int .i64 0)=w2:=aJ B2 (j:=5) rfl
 have f0:=aA B2 0;have f1:=aA B2 1;have f2:=aA B2 2;have f3:=aA B2 3;have f4:=aA B2 4;have f5:=aA B2 5
 clear B2 R2 HB aj au hb1 aP
 go_wp2
 refine bodyPost_ret (v:=.tuple #[.agg #[.int .i64 0,.int .u8 0,.int .i64 0,.int .u8 0,.int .i64 0,.int .i64 0],.int .i64 0,.int .i64 5]) (by simp[results,Tryz.results143,go_sem,z0,z1,z2,z3,z4,z5]) rfl ?_
 exact⟨Pm.no,0,rfl,aL.out⟩
theorem alW (vb:Value)(bs:List Int)(node:Int)(w:World)(hb:Is .u8 w vb bs)(h0:bs=[])(hn:fse node=0):
  Calls Tryz.prog 105 #[vb,.int .i64 node] w fun E w'=>E=.returned (.tuple #[vp (fst node),.int .i64 0,.int .i64 0])∧Below w.heap.size w w':=by
 unfold vp
 obtain⟨w1,hw1,aT,aj,jF⟩:=ak w #[.int .i64 0,.int .u8 0,.int .i64 0,.int .u8 0,.int .i64 0,.int .i64 0] 46
 obtain⟨n,hn0⟩:∃n:Nat,n=0:=⟨0,rfl⟩
 have hl:bs.length≤1000:=by simp[h0]
 have hle:n≤bs.length:=by omega
 have H0:=hide h0
 have HN:=hide hn0
 have HBS:=hide hb
 have HB:=hide jF
 have FI:=hide (acL node w1)
 rw[hn]at FI
 unfold vp at FI
 obtain⟨ao,cap,rfl,_,_⟩:=hb.shape
 clear jF hb hn h0 hn0
 go_enter Tryz.func105,Tryz.ntmps105
 go_wp2_with fail
 refine FI.out.mono ?_
 rintro E w2 ⟨rfl,au⟩
 have dz:=au.size
 have HB2:=hide ((au.block _ (ax HB.out)).trans HB.out)
 have aL:=aj.trans (au.mono (by omega))
 obtain⟨x,hx⟩:∃p,fst node=p:=⟨_,rfl⟩
 rw[hx]
 have HX:=hide hx
 clear hx
 obtain⟨w3,ah8,hw3,cB,aD,hP,e0,e1,e2,e3,e4,e5⟩:=uG w2 46 (.int .i64 0) (.int .u8 0) (.int .i64 0) (.int .u8 0) (.int .i64 0) (.int .i64 0) (.int .i64 x.e) (.int .u8 x.r) (.int .i64 x.a) (.int .u8 x.p) (.int .i64 x.f) (.int .i64 x.b)
 have B3:=(aD.block _ (ax HB2.out)).trans HB2.out
 have aY:=aL.trans (aD.mono (by omega))
 have hlt:=ax HB2.out
 have hlp:=ax hP
 obtain⟨vs,hsl,eQ⟩:=(HBS.out.below aY).gq Tryz.uh Tryz.xQ n hle
 have PR:=hide (aiv vs w3 (by have:=eQ;rw[H0.out,List.drop_nil]at this;exact this))
 have HH:=hide (And.intro B3 (And.intro hP aY))
 clear HB HB2 aj au aL aD B3 hP aY HBS FI eQ
 go_wp2
 go_loopw [9] (fun ee wr=>ee=.int .i64 n∧wr=w3) (fun _ _=>0)
 case atStart=>exact⟨by rw[HN.out];rfl,rfl⟩
 case round=>
  obtain⟨rfl,hwr⟩:=hrel
  subst hwr
  go_wp2_with fail
  refine PR.out.mono ?_
  rintro E w4 ⟨y,m,rfl,aK⟩
  obtain⟨B3,hP,aY⟩:=HH.out
  have R4:=(aK.block _ (by omega)).trans B3
  have L4:=(aK.block _ hlp).trans hP
  have dW:=aY.trans (aK.mono aY.size)
  obtain⟨w5,ayA,qU,tQ,aZ,hP5,p0,p1,p2,p3,p4,p5⟩:=uG w4 46 (.int .i64 0) (.int .u8 0) (.int .i64 0) (.int .u8 0) (.int .i64 0) (.int .i64 0) (.int .i64 y.e) (.int .u8 y.r) (.int .i64 y.a) (.int .u8 y.p) (.int .i64 y.f) (.int .i64 y.b)
  have s4:=aK.size
  have R5:=(aZ.block _ (by omega)).trans R4
  have L5:=(aZ.block _ (by omega)).trans L4
  have adK:=dW.trans (aZ.mono (by omega))
  obtain⟨V,hV,bV,gV,⟨a0,a1,a2,a3,a4,a5⟩,fr,⟨z0,z1,z2,z3,z4,z5⟩⟩:=eu R5 (.int .i64 x.e) (.int .u8 x.r) (.int .i64 x.a) (.int .u8 x.p) (.int .i64 x.f) (.int .i64 x.b)
  have f0:=fr 0;have f1:=fr 1;have f2:=fr 2;have f3:=fr 3;have f4:=fr 4;have f5:=fr 5
  obtain⟨l0,l1,l2,l3,l4,l5⟩:=aN L5
  have bf:=hide (aB adK gV (by omega) (by omega))
  clear B3 hP aY R4 L4 aK dW aZ hP5 R5 L5 adK bV gV fr HH PR hsl e0 e1 e2 e3 e4 e5 hw3 ah8
  go_wp2
  refine bodyPost_ret (v:=.tuple #[.agg #[.int .i64 x.e,.int .u8 x.r,.int .i64 x.a,.int .u8 x.p,.int .i64 x.f,.int .i64 x.b],.int .i64 n,.int .i64 0]) (by simp[results,Tryz.results105,go_sem,z0,z1,z2,z3,z4,z5]) rfl ?_
  exact⟨by rw[HN.out,HX.out];rfl,bf.out⟩
def Emp (st:Dm.Ds) (f:Nat):Prop:=lI st f=[]∧lY st f=0
theorem aip (q:Nat)(F:Nat→Prop)(w:World)(st:Dm.Ds)(h:Pk q F w st)(hs:Big 100000000 800000 st)(he:Emp st 0):
  Calls Tryz.prog 102 #[.pointer (some ⟨q,0,none⟩)] w fun E w'=>Below w.heap.size w w'∧∃p G,E=.returned (.tuple #[.pointer (some ⟨p,0,none⟩),.int .i64 0])∧Wk p q G w' [] false∧∀g,G g→w.heap.size≤g:=by
 have HR:=hide (ji q F w st 0 h (fun f=>Nat.le_trans (hs.1.1 f) (by decide)) (Nat.le_trans hs.1.2.1 (by decide)))
 have e1:lI st 0=[]:=he.1
 have e2:lY st 0=0:=he.2
 rw[e1,e2]at HR
 clear h hs he e1 e2
 go_enter Tryz.func102,Tryz.ntmps102
 go_wp2_with fail
 refine HR.out.mono ?_
 rintro E w1 ⟨v,rfl,own,aF⟩
 have HW:=hide (ai3 v w1 own.is)
 obtain⟨a,c,hv,_,_⟩:=own.is.shape
 subst hv
 have aT:=aF.size
 clear own HR
 go_wp2_with fail
 refine HW.out.mono ?_
 rintro E w2 ⟨rfl,au⟩
 obtain⟨W,hW,szW,uz,bW⟩:=ak w2 #[.pointer (some ⟨q,0,none⟩),.bool false,.slice none 0 0,.slice none 0 0] 137
 have dz:=au.size
 have hv:zl w2.heap.size q W [] false (.slice none 0 0) (.slice none 0 0) []:=⟨bW,Lw.nil _ _⟩
 have b0W:Below w.heap.size w W:=(aF.trans (au.mono aF.size)).trans (uz.mono (by omega))
 have HLen:=hide (ak5 w2.heap.size q W [] false _ _ [] hv)
 have ge:∀g,(g=w2.heap.size∨LB (.slice none 0 0) (.slice none 0 0) ([]:List Cw) g)→w.heap.size≤g:=by
  rintro g (e|e|e|e)
  ·omega
  ·cases e
  ·cases e
  ·obtain⟨c,hc,_⟩:=e
   cases hc
 have HV:=hide (And.intro hv (And.intro b0W ge))
 clear au uz bW hv HW ge b0W aF
 go_wp2_with fail
 refine HLen.out.mono ?_
 rintro E w3 ⟨rfl,m,rfl⟩
 have W3:Hid (Below w.heap.size w (W.drewN m)∧Wk w2.heap.size q (fun g=>g=w2.heap.size∨LB (.slice none 0 0) (.slice none 0 0) ([]:List Cw) g) (W.drewN m) [] false):=hide ⟨below_drewN HV.out.2.1 m,Wk.below ⟨_,_,[],HV.out.1,rfl⟩ (below_drewN (Below.refl _ _) m)⟩
 clear HLen
 go_wp2
 go_ret2
 exact⟨W3.out.1,_,_,rfl,W3.out.2,HV.out.2.2⟩
theorem ah5 (q:Nat)(F:Nat→Prop)(w:World)(st:Dm.Ds)(h:Pk q F w st)(hs:Big 100000000 800000 st)(he:Emp st 2):
  Calls Tryz.prog 107 #[.pointer (some ⟨q,0,none⟩)] w fun E w'=>Below w.heap.size w w'∧∃p G,E=.returned (.tuple #[.pointer (some ⟨p,0,none⟩),.int .i64 0])∧Rk p q G w' [] false∧∀g,G g→w.heap.size≤g:=by
 have HR:=hide (ji q F w st 2 h (fun f=>Nat.le_trans (hs.1.1 f) (by decide)) (Nat.le_trans hs.1.2.1 (by decide)))
 have e1:lI st 2=[]:=he.1
 have e2:lY st 2=0:=he.2
 rw[e1,e2]at HR
 clear h hs he e1 e2
 go_enter Tryz.func107,Tryz.ntmps107
 go_wp2_with fail
 refine HR.out.mono ?_
 rintro E w1 ⟨v,rfl,own,aF⟩
 have HW:=hide (ain v [] w1 own.is rfl)
 obtain⟨a,c,hv,_,_⟩:=own.is.shape
 subst hv
 have aT:=aF.size
 clear own HR
 go_wp2_with fail
 refine HW.out.mono ?_
 rintro E w2 ⟨rfl,au⟩
 obtain⟨W,hW,szW,uz,bW⟩:=ak w2 #[.pointer (some ⟨q,0,none⟩),.bool false,.slice none 0 0] 198
 have dz:=au.size
 have hv:RkV w2.heap.size q W [] false (.slice none 0 0) []:=⟨bW,Rq.nil _ _⟩
 have b0W:Below w.heap.size w W:=(aF.trans (au.mono aF.size)).trans (uz.mono (by omega))
 have ge:∀g,(g=w2.heap.size∨QB (.slice none 0 0) ([]:List Cw) g)→w.heap.size≤g:=by
  rintro g (e|e|e)
  ·omega
  ·cases e
  ·obtain⟨c,hc,_⟩:=e
   cases hc
 have HV:=hide (And.intro hv (And.intro b0W ge))
 clear au uz bW hv HW ge b0W aF
 go_wp2
 go_ret2
 exact⟨HV.out.2.1,_,_,rfl,⟨_,[],HV.out.1,rfl⟩,HV.out.2.2⟩
theorem afb (P q:Nat)(F:Nat→Prop)(w:World)(st:Dm.Ds)(x:Pm.Pg)(vr vs:Value)(h:Pk q F w st)(hs:Big 100000000 800000 st)(he:Emp st 0)(hb:w.heap[P]? =some (.cells (eF q false x (.pointer none) 0 vr vs) 94 (0,0)))(hP:¬F P):
  Calls Tryz.prog 48 #[.pointer (some ⟨P,0,none⟩)] w fun E w'=>E=.returned (.int .i64 0)∧Out (fun g=>g=P) w w'∧∃pw Gw,Wk pw q Gw w' [] false∧(∀g,Gw g→w.heap.size≤g)∧w'.heap[P]? =some (.cells (eF q false x (.pointer (some ⟨pw,0,none⟩)) 0 vr vs) 94 (0,0)):=by
 have hpl:=ax hb
 have c0:w.cell? ⟨P,0,none⟩=some (.pointer (some ⟨q,0,none⟩)):=ai hb 0 rfl
 have WO:=hide (aip q F w st h hs he)
 have HB:=hide (And.intro hb h)
 clear h hs hb he
 go_enter Tryz.func48,Tryz.ntmps48
 go_wp2_with fail
 refine WO.out.mono ?_
 rintro E w1 ⟨b1,pw,Gw,rfl,hW,hG⟩
 clear WO
 have hb1:=(b1.block P hpl).trans HB.out.1
 have f8:=aA hb1 8
 have a8:w1.cell? ⟨P,8,none⟩=some (.pointer none):=ai hb1 8 rfl
 obtain⟨V1,V2,hV1,hV2,p1,p2,o1,o2⟩:=asr hb1 (.pointer (some ⟨pw,0,none⟩)) 0
 have d8:V1.cell? ⟨P,8,none⟩=some (.pointer (some ⟨pw,0,none⟩)):=ai p1 8 rfl
 have d9:V1.cell? ⟨P,9,none⟩=some (.int .i64 0):=ai p1 9 rfl
 have f9:=aA p1 9
 have nG:∀g,Gw g→¬g=P:=fun g hg e=>by have:=hG g hg;omega
 have pk:Pk q F V1 st:=(HB.out.2.below b1).agree fun g hg=>o1.block g ((HB.out.2.below b1).lt g hg) fun e=>hP (e▸hg)
 have HN:=hide (aob pw q _ V1 ⟨st,[],false⟩ ⟨F,Gw,pk,hW.out o1 nG,rfl⟩)
 have R:=hide (show Out (fun g=>g=P) w V2∧∃pw Gw,Wk pw q Gw V2 [] false∧(∀g,Gw g→w.heap.size≤g)∧V2.heap[P]? =some (.cells (eF q false x (.pointer (some ⟨pw,0,none⟩)) 0 vr vs) 94 (0,0))from⟨((Out.of_below (F:=fun g=>g=P) b1).trans o1 fun g hg=>.inl hg).trans o2 fun g hg=>.inl hg,pw,Gw,(hW.out o1 nG).out o2 nG,hG,p2⟩)
 clear hb1 pk p1 p2 o1 o2 HB hP hW hG nG b1
 go_wp2_with fail
 refine HN.out.mono ?_
 rintro E w2 ⟨rfl,rfl⟩
 clear HN
 go_wp2
 go_ret
 exact⟨rfl,R.out⟩
theorem adm (P q:Nat)(F:Nat→Prop)(w:World)(st:Dm.Ds)(x:Pm.Pg)(vw vs:Value)(en:Int)(h:Pk q F w st)(hs:Big 100000000 800000 st)(he:Emp st 2)(hb:w.heap[P]? =some (.cells (eF q false x vw en (.pointer none) vs) 94 (0,0))):
  Calls Tryz.prog 51 #[.pointer (some ⟨P,0,none⟩)] w fun E w'=>E=.returned (.int .i64 0)∧Out (fun g=>g=P) w w'∧∃pr Gr,Rk pr q Gr w' [] false∧(∀g,Gr g→w.heap.size≤g)∧w'.heap[P]? =some (.cells (eF q false x vw en (.pointer (some ⟨pr,0,none⟩)) vs) 94 (0,0)):=by
 have hpl:=ax hb
 have c0:w.cell? ⟨P,0,none⟩=some (.pointer (some ⟨q,0,none⟩)):=ai hb 0 rfl
 have WO:=hide (ah5 q F w st h hs he)
 have HB:=hide hb
 clear h hs hb he
 go_enter Tryz.func51,Tryz.ntmps51
 go_wp2_with fail
 refine WO.out.mono ?_
 rintro E w1 ⟨b1,pr,Gr,rfl,hW,hG⟩
 clear WO
 have hb1:=(b1.block P hpl).trans HB.out
 have f8:=aA hb1 11
 have a8:w1.cell? ⟨P,11,none⟩=some (.pointer none):=ai hb1 11 rfl
 obtain⟨V1,hV1,p1,o1⟩:=arJ hb1 (.pointer (some ⟨pr,0,none⟩))
 have nG:∀g,Gr g→¬g=P:=fun g hg e=>by have:=hG g hg;omega
 have R:=hide (show Out (fun g=>g=P) w V1∧∃pr Gr,Rk pr q Gr V1 [] false∧(∀g,Gr g→w.heap.size≤g)∧V1.heap[P]? =some (.cells (eF q false x vw en (.pointer (some ⟨pr,0,none⟩)) vs) 94 (0,0))from⟨(Out.of_below (F:=fun g=>g=P) b1).trans o1 fun g hg=>.inl hg,pr,Gr,hW.out o1 nG,hG,p1⟩)
 clear hb1 p1 o1 HB hW hG nG b1
 go_wp2
 go_ret
 exact⟨rfl,R.out⟩
theorem abg (p:Nat)(w:World)(f n:Int):Calls Tryz.prog 106 #[.pointer (some ⟨p,0,none⟩),.int .i64 f,.int .i64 n,.int .i64 n] w fun E w'=>E=.returned (.int .i64 0)∧Below w.heap.size w w':=by
 obtain⟨w1,hw1,s1,b1,P1⟩:=ak w #[.pointer (some ⟨p,0,none⟩)] 192
 obtain⟨w2,hw2,s2,b2,P2⟩:=ak w1 #[.int .i64 f] 3
 obtain⟨w3,hw3,s3,b3,P3⟩:=ak w2 #[.int .i64 n] 3
 have z2:w2.heap.size=w.heap.size+2:=by omega
 rw[z2]at P3
 have B:=hide (show Below w.heap.size w w3 from b1.trans ((b2.mono (by omega)).trans (b3.mono (by omega))))
 have c3n:w3.cell? ⟨w.heap.size+2,0,none⟩=some (.int .i64 n):=ai P3 0 rfl
 have hq:(n==n)=true:=by simp
 clear b1 b2 b3 P1 P2 P3
 go_enter Tryz.func106,Tryz.ntmps106
 go_wp2
 go_ret
 exact⟨rfl,B.out⟩
theorem abQ (P q:Nat)(F:Nat→Prop)(w:World)(st:Dm.Ds)(x:Pm.Pg)(vw vr vs:Value)(en node:Int)(h:Pk q F w st)(hs:Big 100000000 800000 st)(he:Emp st 1)(hb:w.heap[P]? =some (.cells (eF q false x vw en vr vs) 94 (0,0)))(hn:fse node=0):
  Calls Tryz.prog 50 #[.pointer (some ⟨P,0,none⟩),.int .i64 node] w fun E w'=>E=.returned (.int .i64 0)∧Out (fun g=>g=P) w w'∧w'.heap[P]? =some (.cells (eF q false (fst node) vw en vr vs) 94 (0,0)):=by
 have hpl:=ax hb
 have c0:w.cell? ⟨P,0,none⟩=some (.pointer (some ⟨q,0,none⟩)):=ai hb 0 rfl
 have R1:=hide (ji q F w st 1 h (fun f=>Nat.le_trans (hs.1.1 f) (by decide)) (Nat.le_trans hs.1.2.1 (by decide)))
 have r1:lI st 1=[]:=he.1
 have r2:lY st 1=0:=he.2
 rw[r1,r2]at R1
 obtain⟨bs,hbs⟩:∃bs:List Int,bs=[]:=⟨_,rfl⟩
 rw[←hbs]at R1
 have HBS:=hide hbs
 have HH:=hide (And.intro hb hn)
 clear h hs hb r1 r2 he hn hbs
 go_enter Tryz.func50,Tryz.ntmps50
 go_wp2_with fail
 refine R1.out.mono ?_
 rintro E w1 ⟨v,rfl,O1,B1⟩
 obtain⟨ao,cap,hv,_,_⟩:=O1.is.shape
 subst hv
 have LA:=hide (alW _ bs node w1 O1.is HBS.out HH.out.2)
 unfold vp at LA
 have B1:=hide B1
 clear R1 O1
 go_wp2_with fail
 refine LA.out.mono ?_
 rintro E w2 ⟨rfl,B2⟩
 clear LA
 have hb:=HH.out.1
 have b12:=B1.out.trans (B2.mono B1.out.size)
 obtain⟨y,hy⟩:∃p,fst node=p:=⟨_,rfl⟩
 rw[hy]
 have HY:=hide hy
 clear hy
 obtain⟨V,hV,hV',sV,bV,PV,⟨z0,z1,z2,z3,z4,z5⟩⟩:=uG w2 46 (.int .i64 0) (.int .u8 0) (.int .i64 0) (.int .u8 0) (.int .i64 0) (.int .i64 0) (.int .i64 y.e) (.int .u8 y.r) (.int .i64 y.a) (.int .u8 y.p) (.int .i64 y.f) (.int .i64 y.b)
 have b0V:=b12.trans (bV.mono b12.size)
 have pV:=(b0V.block P hpl).trans hb
 obtain⟨_,_,q2,q3,q4,q5,q6,q7,_⟩:=mH pV
 obtain⟨Z,hZ,pZ,gZ,fr⟩:=afP pV y
 have f2:=fr 2;have f3:=fr 3;have f4:=fr 4;have f5:=fr 5;have f6:=fr 6;have f7:=fr 7
 have oZ:Out (fun g=>g=P) V Z:=Out.aQ gZ fun i hi=>by simpa using hi.symm
 have TR:=hide (abg P Z 1 0)
 have R:Hid (∀w',Below Z.heap.size Z w'→Out (fun g=>g=P) w w'∧w'.heap[P]? =some (.cells (eF q false y vw en vr vs) 94 (0,0))):=hide (by
  intro w' k
  exact⟨((Out.of_below (F:=fun g=>g=P) b0V).trans oZ fun g hg=>.inl hg).trans (Out.of_below (F:=fun g=>g=P) k) fun g hg=>.inl hg,(k.block P (ax pZ)).trans pZ⟩)
 have hl0:bs.length=0:=by rw[HBS.out];rfl
 clear hb b12 bV PV b0V pV pZ gZ fr oZ HH B1 B2 sV
 rw[hl0]
 go_wp2_with fail
 refine TR.out.mono ?_
 rintro E w3 ⟨rfl,k⟩
 have RR:=hide (R.out w3 k)
 clear k R TR
 go_wp2
 go_ret
 exact⟨rfl,by rw[HY.out];exact RR.out⟩
theorem adq (P q:Nat)(F:Nat→Prop)(w:World)(st:Dm.Ds)(cs:Array Value)(h:Pk q F w st)(hs:Big 100000000 800000 st)(he:Emp st 3)(hb:w.heap[P]? =some (.cells cs 94 (0,0)))(hc:cs[0]? =some (.pointer (some ⟨q,0,none⟩))):
  Calls Tryz.prog 52 #[.pointer (some ⟨P,0,none⟩)] w fun E w'=>E=.returned (.int .i64 0)∧Below w.heap.size w w':=by
 have c0:w.cell? ⟨P,0,none⟩=some (.pointer (some ⟨q,0,none⟩)):=ai hb 0 hc
 have R1:=hide (ji q F w st 3 h (fun f=>Nat.le_trans (hs.1.1 f) (by decide)) (Nat.le_trans hs.1.2.1 (by decide)))
 have r1:lI st 3=[]:=he.1
 have r2:lY st 3=0:=he.2
 rw[r1,r2]at R1
 obtain⟨bs,hbs⟩:∃bs:List Int,bs=[]:=⟨_,rfl⟩
 rw[←hbs]at R1
 have HL0:Hid (bs.length=0):=hide (by rw[hbs];rfl)
 have hl:bs.length≤1000:=by rw[HL0.out];decide
 clear h hs hb r1 r2 he hbs
 go_enter Tryz.func52,Tryz.ntmps52
 go_wp2_with fail
 refine R1.out.mono ?_
 rintro E w1 ⟨v,rfl,O1,B1⟩
 obtain⟨ao,cap,hv,_,_⟩:=O1.is.shape
 subst hv
 have SC:=hide (mQ _ _ w1 O1.is (by omega))
 have B1:=hide B1
 clear R1 O1
 go_wp2_with fail
 refine SC.out.mono ?_
 rintro E w2 ⟨v2,l,n,rfl,X⟩
 clear SC
 obtain⟨_,_,hn,hsn,B2⟩:=X.out
 have b12:=B1.out.trans (B2.mono B1.out.size)
 have hn0:n=0:=by
  have:=hsn.2.1.length_le
  have:=HL0.out
  omega
 subst hn0
 have TR:=hide (abg P w2 3 0)
 have c2:w2.cell? ⟨P,0,none⟩=some (.pointer (some ⟨q,0,none⟩)):=by
  rw[←c0]
  have hP:P<w.heap.size:=by
   rcases Nat.lt_or_ge P w.heap.size with k|k
   ·exact k
   ·rw[World.cell?,Array.getElem?_eq_none k]at c0;cases c0
  have:=b12.block P hP
  simp[World.cell?,this]
 have B:=hide b12
 clear X hn hsn B1 B2 b12
 rw[HL0.out]
 go_wp2_with fail
 refine TR.out.mono ?_
 rintro E w3 ⟨rfl,k⟩
 have RR:=hide (B.out.trans (k.mono B.out.size))
 clear k TR
 go_wp2
 go_ret
 exact⟨rfl,RR.out⟩
theorem sJ.own {q n0 P:Nat}{F Fk:Nat→Prop}{w w5 W W':World}{d:Dm.Ds}(h:sJ q F w w5 W n0 P Fk d)(h0:¬F 0)(hp:0<w.heap.size)(hP:w.heap.size≤P)(hn:n0<P)(o:Out (fun g=>g=P) W W'):sJ q F w w5 W' n0 P Fk d:=
 h.step h0 hp hP hn (h.qx.agree fun g hg=>o.block g (h.qx.lt g hg) fun e=>(h.nb P (.inr (.inl rfl))).1 (e▸hg)) (o.mono fun g hg=>.inl (.inr hg)) fun g hg=>.inl hg
theorem ajR (q:Nat)(F F2:Nat→Prop)(w w5:World)(n0 P:Nat)(node:Int)(I5:sJ q F w w5 w5 n0 P F2 Dm.new)(h0:¬F 0)(hp:0<w.heap.size)(hP:w.heap.size≤P)(hn:n0<P)(hn0:w5.heap[n0]? =some (.cells #[.int .i64 node] 3 (0,0)))(hP1:w5.heap[P+1]? =some (.cells #[.pointer (some ⟨P,0,none⟩)] 41 (0,0)))(hPb:w5.heap[P]? =some (.cells (eF q false Pm.no (.pointer none) 0 (.pointer none) (.pointer none)) 94 (0,0)))(aq6:node=0∨node=1):
  Run (P+2) (fun e W=>W.heap[P+1]? =w5.heap[P+1]?∧e=0∧∃F',(Pk q F' W Dm.new∧Out F w W∧∀g,F' g→F g∨w.heap.size≤g)∧∃G,PO P q G W ⟨Dm.new,fst node,[],[],false⟩∧∀g,G g→w.heap.size≤g∧¬F' g) [.func (.func 46) #[] #[.pointer (some ⟨n0,0,none⟩)],.func (.func 48) #[.pointer (some ⟨P,0,none⟩)] #[],.func (.func 49) #[] #[.pointer (some ⟨P+1,0,none⟩),.pointer (some ⟨n0,0,none⟩)],.func (.func 51) #[.pointer (some ⟨P,0,none⟩)] #[],.func (.func 52) #[.pointer (some ⟨P,0,none⟩)] #[],.func (.func 53) #[] #[.pointer (some ⟨P+1,0,none⟩)],.func (.func 56) #[.pointer (some ⟨P,0,none⟩)] #[]] w5:=by
 obtain⟨oky,fe⟩:=avy aq6
 have hB:Big 100000000 800000 Dm.new:=yu.mono (by omega) (by omega)
 have nP:P=n0∨P=P∨P=P+1∨P=P+2:=.inr (.inl rfl)
 have l2:∀{W Fk d},sJ q F w w5 W n0 P Fk d→P+2<W.heap.size∧¬(P+2=P):=fun h=>⟨(h.nb _ (.inr (.inr (.inr rfl)))).2,by omega⟩
 have hsn:Rst.snd (fst node) [] (Cm.lastN 0 []) 0=true:=by rcases aq6 with rfl|rfl<;>decide
 refine Run.cons (enters_of Tryz.func46 (by kernel_rfl) rfl) (by simp) ((ak9 n0 node w5 (ai hn0 0 rfl)).mono ?_)
 rintro E W1 ⟨rfl,b1⟩
 refine⟨_,rfl,b1.block _ (l2 I5).1,.inr ⟨fe,?_⟩⟩
 have I1:=I5.below h0 hp hP hn b1
 have p1:=(b1.block P (I5.nb P nP).2).trans hPb
 refine Run.cons (enters_of Tryz.func48 (by kernel_rfl) rfl) (by simp) ((afb P q F2 W1 Dm.new Pm.no _ _ I1.qx hB ⟨rfl,rfl⟩ p1 (I1.nb P nP).1).mono ?_)
 rintro E W2 ⟨rfl,o1,pw,Gw,hW,hGw,p2⟩
 have I2:=I1.own h0 hp hP hn o1
 refine⟨_,rfl,o1.block _ (l2 I1).1 (l2 I1).2,.inr ⟨rfl,?_⟩⟩
 refine Run.cons (enters_of Tryz.func49 (by kernel_rfl) rfl) (by simp) ((amx (P+1) n0 P node 0 W2 (fun e w'=>e=0∧Out (fun g=>g=P) W2 w'∧w'.heap[P]? =some (.cells (eF q false (fst node) (.pointer (some ⟨pw,0,none⟩)) 0 (.pointer none) (.pointer none)) 94 (0,0))) (ai ((I2.keep _ (.inr (.inl rfl))).trans hP1) 0 rfl) (ai ((I2.keep _ (.inl rfl)).trans hn0) 0 rfl) ((abQ P q F2 W2 Dm.new Pm.no _ _ _ _ node I2.qx hB ⟨rfl,rfl⟩ p2 fe).mono ?_)).mono ?_)
 ·rintro E w' ⟨rfl,k⟩
  exact⟨_,rfl,rfl,k⟩
 rintro E W3 ⟨_,rfl,rfl,o2,p3⟩
 have I3:=I2.own h0 hp hP hn o2
 have nw:∀g,Gw g→¬g=P:=fun g hg e=>by have:=hGw g hg;have:=(I1.nb P nP).2;omega
 have hW3:=hW.out o2 nw
 refine⟨_,rfl,o2.block _ (l2 I2).1 (l2 I2).2,.inr ⟨rfl,?_⟩⟩
 refine Run.cons (enters_of Tryz.func51 (by kernel_rfl) rfl) (by simp) ((adm P q F2 W3 Dm.new _ _ _ _ I3.qx hB ⟨rfl,rfl⟩ p3).mono ?_)
 rintro E W4 ⟨rfl,o3,pr,Gr,hR,hGr,p4⟩
 have I4:=I3.own h0 hp hP hn o3
 have hW4:=hW3.out o3 nw
 have z1:=o1.size
 have z2:=o2.size
 have z3:=o3.size
 refine⟨_,rfl,o3.block _ (l2 I3).1 (l2 I3).2,.inr ⟨rfl,?_⟩⟩
 refine Run.cons (enters_of Tryz.func52 (by kernel_rfl) rfl) (by simp) ((adq P q F2 W4 Dm.new _ I4.qx hB ⟨rfl,rfl⟩ p4 rfl).mono ?_)
 rintro E W5 ⟨rfl,b5⟩
 have I6:=I4.below h0 hp hP hn b5
 have p5:=(b5.block P (I4.nb P nP).2).trans p4
 refine⟨_,rfl,b5.block _ (l2 I4).1,.inr ⟨rfl,?_⟩⟩
 have SE:=axF P q F2 W5 Dm.new [] I6.qx (yu.mono (by omega) (by omega)) (ai p5 0 rfl) (ax p5) rfl rfl trivial
 refine Run.cons (enters_of Tryz.func53 (by kernel_rfl) rfl) (by simp) ((alq (P+1) P q pw pr _ _ W5 _ (fst node) _ _ _ ⟨Dm.new,[],false⟩ ⟨Dm.new,[],false⟩ (ai ((I6.keep _ (.inr (.inl rfl))).trans hP1) 0 rfl) p5 ⟨F2,Gw,I6.qx,hW4.below b5,rfl⟩ ⟨F2,Gr,I6.qx,hR.below b5,rfl⟩ SE).mono ?_)
 rintro E W6 ⟨rfl,b6⟩
 have hc:qA (fst node) (Cm.lastE 0 []) 0 (Cm.lastN 0 []) 0=true:=(abn oky [] _ _).trans hsn
 have hc:(if qA (fst node) (Cm.lastE 0 []) 0 (Cm.lastN 0 []) ((Orp.secs []).length:Int)=true then(0:Int)else 5)=0:=if_pos hc
 have I7:=I6.below h0 hp hP hn b6
 refine⟨_,rfl,b6.block _ (l2 I6).1,.inr ⟨hc,?_⟩⟩
 have hW6:=(hW4.below b5).below b6
 have qj:=(hR.below b5).below b6
 refine Run.cons (enters_of Tryz.func56 (by kernel_rfl) rfl) (by simp) ((vP P q pw pr F2 Gw Gr W6 false (fst node) _ Dm.new [] [] ((b6.block P (ax p5)).trans p5) ⟨_,rfl⟩ I7.qx hW6 qj (by decide) (by decide)).mono ?_)
 rintro E W7 ⟨rfl,ps,Gs,hS7,hGs,p7,o7⟩
 have I8:=I7.own h0 hp hP hn o7
 have s1:=I1.out.size
 have lP:=(I1.nb P nP).2
 have z5:=b5.size
 have z6:=b6.size
 have a1:=hW.lt
 have a2:=hR.lt
 have gw:∀g,Gw g→W1.heap.size≤g∧g<W2.heap.size:=fun g hg=>⟨hGw g hg,a1 g hg⟩
 have gr:∀g,Gr g→W3.heap.size≤g∧g<W4.heap.size:=fun g hg=>⟨hGr g hg,a2 g hg⟩
 refine⟨_,rfl,o7.block _ (l2 I7).1 (l2 I7).2,.inr ⟨rfl,I8.keep _ (.inr (.inl rfl)),rfl,F2,⟨I8.qx,I8.out,I8.far⟩,PB P Gw Gr Gs,⟨pw,pr,ps,Gw,Gr,Gs,[],false,false,⟨p7,hW6.out o7 nw,qj.out o7 fun g hg e=>by have:=gr g hg;omega,hS7,rfl,fun _=>⟨rfl,rfl,rfl⟩,oky,mq oky,trivial,show(0:Int)≤0 from Int.le_refl _,⟨fun e=>nw P e rfl,fun e=>by have:=gr P e;omega,fun e=>by have:=hGs P e;omega⟩,fun g hg e=>by have:=gw g hg;have:=gr g e;omega,fun g hg e=>by have:=gw g hg;have:=hGs g e;omega,fun g hg e=>by have:=gr g hg;have:=hGs g e;omega⟩,rfl⟩,?_⟩⟩
 rintro g (rfl|e|e|e)
 ·exact⟨hP,(I8.nb g nP).1⟩
 ·exact⟨by have:=gw g e;omega,uA hW6 I7.qx g e⟩
 ·exact⟨by have:=gr g e;omega,aqb qj I7.qx g e⟩
 ·exact⟨by have:=hGs g e;omega,fun k=>by have:=hGs g e;have:=I7.qx.lt g k;omega⟩
theorem ahX (q:Nat)(F:Nat→Prop)(w:World)(h:Pk q F w Dm.new)(hm:eH w)(h0:¬F 0)(node:Int)(hn:node=0∨node=1):
  Calls Tryz.prog 26 #[.pointer (some ⟨q,0,none⟩),.int .i64 node] w fun E w'=>∃p F',E=.returned (.tuple #[.pointer (some ⟨p,0,none⟩),.int .i64 0])∧PS p q F' w' ⟨Dm.new,fst node,[],[],false⟩∧(∀g,F' g→F g∨w.heap.size≤g)∧Out F w w':=by
 refine(amN q F w Dm.new node h hm h0 (yu.mono (by omega) (by omega)) (fun P e W=>e=0∧∃F',(Pk q F' W Dm.new∧Out F w W∧∀g,F' g→F g∨w.heap.size≤g)∧∃G,PO P q G W ⟨Dm.new,fst node,[],[],false⟩∧∀g,G g→w.heap.size≤g∧¬F' g) ?_).mono ?_
 ·intro F2 w5 n0 P e1 I5 hP hn0 c1 c2 c3
  exact ajR q F F2 w w5 n0 P node I5 h0 hm.pos hP hn0 c1 c2 c3 hn
 ·rintro E w' ⟨P,e,HX,hE⟩
  obtain⟨rfl,F',⟨k1,k2,k3⟩,G,k4,k5⟩:=HX.out
  rcases hE with⟨c1,_⟩|⟨_,rfl⟩
  ·exact absurd rfl c1
  ·refine⟨P,_,rfl,⟨F',G,k1,k4,fun g hg=>(k5 g hg).2,gI hm k2 h0,rfl⟩,fun g hg=>?_,k2⟩
   rcases hg with hg|hg
   ·exact k3 g hg
   ·exact .inr (k5 g hg).1
theorem al7 (q:Nat)(w:World)(h:Pk q (fun g=>g=q) w Dm.new)(hm:eH w)(hq0:q≠0)(node:Int)(hn:node=0∨node=1):
  Calls Tryz.prog 26 #[.pointer (some ⟨q,0,none⟩),.int .i64 node] w fun E w'=>∃p F,E=.returned (.tuple #[.pointer (some ⟨p,0,none⟩),.int .i64 0])∧PS p q F w' ⟨Dm.new,fst node,[],[],false⟩∧(∀g,F g→g=q∨w.heap.size≤g)∧Out (fun g=>g=q) w w':=
 ahX q _ w h hm (fun e=>hq0 e.symm) node hn
structure lJ (w w':World) (p q:Nat) (F:Nat→Prop) (n:Nat) (s:Rst.St) (ss:List Orp.Se):Prop where
 ps:PS p q F w' s
 n0:¬F 0
 jV:dQ n s ss
 new:∀g,F g→g=q∨w.heap.size≤g
 out:Out (fun g=>g=q) w w'
section
variable {w w' w2:World} {p q n:Nat} {F:Nat→Prop} {s s2:Rst.St} {ss yT:List Orp.Se}
theorem lJ.below (h:lJ w w' p q F n s ss)(hb:Below w'.heap.size w' w2):lJ w w2 p q F n s ss:=
 ⟨h.ps.below hb,h.n0,h.jV,h.new,h.out.trans (Out.of_below hb (F:=fun g=>g=q)) fun g e=>.inl e⟩
theorem lJ.step {m:Nat}(h:lJ w w' p q F n s ss)(k:bI p q F w' w2 s2)(hc:dQ m s2 yT)(hw:0<w'.heap.size):∃F',lJ w w2 p q F' m s2 yT:=by
 obtain⟨F',k1,k2,k3⟩:=k
 have:=h.out.size
 refine⟨F',k1,fun e=>?_,hc,fun g e=>?_,h.out.trans k2 h.new⟩
 ·rcases k3 0 e with e|e
  ·exact h.n0 e
  ·omega
 ·rcases k3 g e with e|e
  ·exact h.new g e
  ·exact .inr (by omega)
end
theorem ac6 (q:Nat)(w:World)(h:Pk q (fun g=>g=q) w Dm.new)(hm:eH w)(hq0:q≠0)(v:Value)(rs:List Cw)(hc:∀W,Out (fun g=>g=q) w W→di W v rs)(hf:dL rs)(hg:Cm.Good 0 0 (ay rs))(hn:rs.length≤30)(h1:Cm.lastE 0 (ay rs)≤1)(e:Int)(he:2≤e∧e≤1048576):
  Calls Tryz.prog 10 #[.pointer (some ⟨q,0,none⟩),v,.int .i64 e] w fun E w'=>∃p F s,E=.returned (.pointer (some ⟨p,0,none⟩))∧Hid (lJ w w' p q F 66 s []∧s.p=⟨e,3,0,1,0,0⟩∧s.l=ay rs):=by
 obtain⟨s0,hs0⟩:∃s0:Rst.St,s0=⟨Dm.new,fst 0,[],[],false⟩:=⟨_,rfl⟩
 have c0:dQ 50 s0 []:=by rw[hs0];exact arw _ (by decide)
 have hcl:(ay rs).length≤30:=by unfold ay;rw[List.length_map];exact hn
 obtain⟨a1,a2,a3,a4⟩:=c0.add (cs:=ay rs) (by rw[hs0];exact hg) (by
  rw[hs0]
  exact Rst.wD (by omega) (by show Cm.lastE 0 ([]++ay rs)≤1;exact h1) (by decide) (by show(0:Int)≤_;omega) rfl) hcl
 have a4:(Rst.add s0 (ay rs)).2.l=ay rs:=by rw[a4,hs0];rfl
 obtain⟨y,hy⟩:∃y:Pm.Pg,y=⟨e,3,0,1,0,0⟩:=⟨_,rfl⟩
 have hyk:Pm.chk y=0:=by
  rw[hy]
  exact Pm.fM.2 ⟨⟨by show 1≤e;omega,he.2,by simp,by simp,by simp,by simp,by simp,by simp⟩,.inr (.inr (.inl ⟨rfl,rfl,rfl,rfl,rfl⟩))⟩
 obtain⟨s1,hs1⟩:∃s1,(Rst.add s0 (ay rs)).2=s1:=⟨_,rfl⟩
 rw[hs1]at a2 a3 a4
 obtain⟨b1,b2,b3,b4⟩:=a2.set (q:=y) hyk (by
  rw[a4,hy]
  exact Rst.nk.2 ⟨⟨by omega,by show Cm.lastE 0 (ay rs)≤e;omega,fun _=>by show Cm.lastE 0 (ay rs)≠e;omega,by show(0:Int)≤_;omega⟩,fun k=>by simp at k⟩)
 obtain⟨s2,hs2⟩:∃s2,(Rst.dm s1 y).2=s2:=⟨_,rfl⟩
 rw[hs2]at b2 b3 b4
 have OP:=hide (al7 q w h hm hq0 0 (.inl rfl))
 rw[←hs0]at OP
 have yN:eU y:=mq (Pm.fM.1 hyk)
 have AD:Hid (∀W p F,lJ w W p q F 50 s0 []→Calls Tryz.prog 27 #[.pointer (some ⟨p,0,none⟩),v] W fun E w'=>E=.returned (.int .i64 0)∧∃F',lJ w w' p q F' 65 s1 []):=hide fun W p F k=>by
  refine(ao0 p q F W s0 k.ps (k.jV.qR (by omega)) ⟨k.jV.t3,k.n0⟩ v rs (fun V hV=>hc V (k.out.trans hV k.new)) hf (by omega)).mono ?_
  rintro E w' ⟨rfl,j⟩
  rw[a1]
  rw[hs1]at j
  exact⟨rfl,k.step j a2 k.ps.gz.pos⟩
 have ST:Hid (∀W p F,lJ w W p q F 65 s1 []→Calls Tryz.prog 28 #[.pointer (some ⟨p,0,none⟩),vp y] W fun E w'=>E=.returned (.int .i64 0)∧∃F',lJ w w' p q F' 66 s2 []):=hide fun W p F k=>by
  refine(afN p q F W s1 k.ps (k.jV.qR (by omega)) ⟨k.jV.t3,k.n0⟩ y yN).mono ?_
  rintro E w' ⟨rfl,j⟩
  rw[b1]
  rw[hs2]at j
  exact⟨rfl,k.step j b2 k.ps.gz.pos⟩
 rw[show vp y=.agg #[.int .i64 e,.int .u8 3,.int .i64 0,.int .u8 1,.int .i64 0,.int .i64 0]by rw[hy];rfl]at ST
 have FIN:Hid (∀W p F,lJ w W p q F 66 s2 []→∃p' F s,Ending.returned (.pointer (some ⟨p,0,none⟩))=.returned (.pointer (some ⟨p',0,none⟩))∧Hid (lJ w W p' q F 66 s []∧s.p=⟨e,3,0,1,0,0⟩∧s.l=ay rs)):=hide fun W p F k=>⟨p,F,s2,rfl,hide ⟨k,by rw[b3,hy],b4.trans a4⟩⟩
 have H0:Hid (∀W p F,PS p q F W s0→(∀g,F g→g=q∨w.heap.size≤g)→Out (fun g=>g=q) w W→lJ w W p q F 50 s0 []):=hide fun W p F k1 k2 k3=>⟨k1,fun e=>by
  rcases k2 0 e with e|e
  ·exact hq0 e.symm
  ·have:=hm.pos;omega,c0,k2,k3⟩
 obtain⟨va,vn,vk,rfl⟩:∃a n k,v=.slice a n k:=by
  obtain⟨a,k,e,_,_⟩:=(hc w (Out.refl _ _)).1.shape
  exact⟨_,_,_,e⟩
 clear h hm hq0 hc hf hg hn h1 he c0 hcl a1 a2 a3 a4 hyk b1 b2 b3 b4 yN hy hs0 hs1 hs2
 go_enter Tryz.func10,Tryz.ntmps10
 go_wp2_with fail
 refine OP.out.mono ?_
 rintro E w1 ⟨p,F,rfl,k1,k2,k3⟩
 have A1:=hide (AD.out w1 p F (H0.out w1 p F k1 k2 k3))
 clear OP k1 k2 k3 AD H0
 go_wp2_with fail
 refine A1.out.mono ?_
 rintro E w2 ⟨rfl,F2,k2⟩
 have A2:=hide (ST.out w2 p F2 k2)
 clear A1 ST k2
 go_wp2_with fail
 refine A2.out.mono ?_
 rintro E w3 ⟨rfl,F3,k3⟩
 have X:=hide (FIN.out w3 p F3 k3)
 clear A2 FIN k3
 go_wp2
 go_ret
 exact X.out
def vG:Nat→Pm.Pg|0=>⟨2,3,0,2,2,0⟩|1=>⟨2,3,0,3,2,0⟩|2=>⟨2,3,0,4,2,0⟩|_=>⟨2,2,0,0,0,0⟩
def ssk:Nat→List Orp.Se|0=>[]|_=>[jQ 2 2 l3]
def lk:Nat→List Cm.Cv|0=>l3|1=>l3|_=>l3.take 2
def qg (w0 W:World) (p q X k:Nat):Prop:=∃F s,lJ w0 W p q F (67+2*k) s (ssk k)∧s.p=vG k∧s.l=lk k∧¬F X∧X<W.heap.size
theorem qg.below {w0 W W':World}{p q X k:Nat}(h:qg w0 W p q X k)(hb:Below W.heap.size W W'):qg w0 W' p q X k:=by
 obtain⟨F,s,h1,h2,h3,h4,h5⟩:=h
 have:=hb.size
 exact⟨F,s,h1.below hb,h2,h3,h4,by omega⟩
theorem agc:Mm.Ck og.m 2:=.inr ⟨rfl,fun h=>by have:(1:Int)≤0:=h.1;omega⟩
theorem aoj {w0 W:World}{p q X k:Nat}(h:qg w0 W p q X k)(hk:k<3):Calls Tryz.prog 13 #[.pointer (some ⟨p,0,none⟩),mv og] W fun E w'=>E=.returned (.tuple #[vp (vG (k+1)),.int .i64 0])∧qg w0 w' p q X (k+1)∧w'.heap[X]? =W.heap[X]? :=by
 obtain⟨F,s,h1,h2,h3,h4,h5⟩:=h
 have key:∀y s2 yT,dQ (67+2*(k+1)) s2 yT→y=vG (k+1)→yT=ssk (k+1)→s2.p=y→s2.l=lk (k+1)→Calls Tryz.prog 13 #[.pointer (some ⟨p,0,none⟩),mv og] W (Stp p q F W y s2)→Calls Tryz.prog 13 #[.pointer (some ⟨p,0,none⟩),mv og] W fun E w'=>E=.returned (.tuple #[vp (vG (k+1)),.int .i64 0])∧qg w0 w' p q X (k+1)∧w'.heap[X]? =W.heap[X]? :=by
  intro y s2 yT hc hy hss hp hl hC
  refine hC.mono ?_
  rintro E w' ⟨rfl,j⟩
  subst hy hss
  refine⟨rfl,?_,?_⟩
  ·have j0:=j
   obtain⟨F',j1,j2,j3⟩:=j
   have hw:=h1.ps.gz.pos
   have ho:=h1.out.size
   have hz:=j2.size
   refine⟨F',s2,⟨j1,fun e=>?_,hc,fun g e=>?_,h1.out.trans j2 h1.new⟩,hp,hl,fun e=>?_,by omega⟩
   ·rcases j3 0 e with e|e
    ·exact h1.n0 e
    ·omega
   ·rcases j3 g e with e|e
    ·exact h1.new g e
    ·exact .inr (by omega)
   ·rcases j3 X e with e|e
    ·exact h4 e
    ·omega
  ·obtain⟨_,_,j2,_⟩:=j
   exact j2.block X h5 h4
 have hi:=fw.no W
 obtain rfl|rfl|rfl:k=0∨k=1∨k=2:=by omega
 ·have h3:s.l=l3:=h3
  obtain⟨s2,g1,g2,g3,g4⟩:=abm (p:=p) (q:=q) h1.ps h1.n0 h1.jV (by omega) (by rw[h3];decide) 2 2 h2 hi dx.no agc
  rw[h3]at g1 g3
  exact key _ s2 _ g1 rfl rfl g2 g3 g4
 ·have h3:s.l=l3:=h3
  obtain⟨s2,g1,g2,g3,g4⟩:=acT (p:=p) (q:=q) h1.ps h1.n0 h1.jV (by omega) 2 2 0 h2 hi dx.no agc
  rw[h3]at g3
  exact key _ s2 _ g1 rfl rfl g2 g3 g4
 ·obtain⟨s2,g1,g2,g3,g4⟩:=aa1 (p:=p) (q:=q) h1.ps h1.n0 h1.jV (by omega) 2 2 0 h2 hi dx.no agc
  exact key _ s2 _ (g1.mono (by omega)) rfl rfl g2 (g3.trans h3) g4
def l4:List Cm.Cv:=[⟨1,1,[kv]⟩,⟨1,2,[kv]⟩,⟨2,3,[kv]⟩,⟨2,4,[kv]⟩]
theorem asC:Cm.Good 0 0 l4:=⟨by rw[Cm.kU (by decide)];exact rW,by decide,by decide,by rw[Cm.kU (by decide)];exact rW,by decide,by decide,by rw[Cm.kU (by decide)];exact rW,by decide,by decide,by rw[Cm.kU (by decide)];exact rW,by decide,by decide,trivial⟩
theorem ati:Fr (Sm.told 0 l3) 3 [(1,1),(2,3)] 4 (2:Nat):=by
 have h:=Sm.acE sQ asC (k:=2) (by decide) (by decide) rfl (fun i c d hi hc hd=>by
  have hl:=(List.getElem?_eq_some_iff.1 hc).1
  have hl:i<3:=hl
  obtain rfl:i=2:=by omega
  have hc:c=⟨1,3,[kv]⟩:=(Option.some.inj hc).symm
  have hd:d=⟨2,3,[kv]⟩:=(Option.some.inj hd).symm
  rw[hc,hd]
  show(1:Int)≠2
  decide)
 have e:Sm.told 0 l4=[(1,1),(2,3)]:=by decide
 rw[e]at h
 refine .inl ⟨?_,h⟩
 unfold tO
 have k:Sm.chk (Sm.told 0 l3) 3=0:=Sm.fZ (Sm.qa sQ)
 rw[if_pos k]
 exact Sm.fZ (Sm.xV.1 (by decide))
theorem asl (g:Nat)(x:Pm.Pg)(h1:x.r=3)(h2:x.e=2):qD x (hel g) 0=true:=by
 unfold qD
 rw[decide_eq_true h1,decide_eq_true (show(hel g).r=1 from rfl),decide_eq_true (show(hel g).e=x.e by rw[h2];rfl),decide_eq_true rfl]
 rfl
theorem apz {w0 W:World}{p q g:Nat}{F:Nat→Prop}{s:Rst.St}(h:lJ w0 W p q F 66 s [])(hp:s.p=⟨2,3,0,1,0,0⟩)(hl:s.l=l3)(hi:fw W (hel g)):
  Calls Tryz.prog 13 #[.pointer (some ⟨p,0,none⟩),mv (hel g)] W fun E w'=>E=.returned (.tuple #[vp (vG 0),.int .i64 0])∧∃F' s2,lJ w0 w' p q F' 67 s2 []∧s2.p=vG 0∧s2.l=l3:=by
 obtain⟨s2,g1,g2,g3,g4⟩:=aaZ (p:=p) (q:=q) h.ps h.n0 h.jV (by omega) 2 hp hi (ars g) (avT g) (asl g _ (by rw[hp]) (by rw[hp])) 2 (by rw[hl];exact ati) (by rw[hl];decide) (by decide)
 refine g4.mono ?_
 rintro E w' ⟨rfl,j⟩
 obtain⟨F',k⟩:=h.step j g1 h.ps.gz.pos
 exact⟨rfl,F',s2,k,g2,g3.trans hl⟩
theorem mR:∀(l:List Cm.Cv) (ep nu:Int) (k:Nat),Cm.Good ep nu l→ep≤Cm.lastE ep (l.take k)∧Cm.lastE ep (l.take k)≤Cm.lastE ep l
 |[],ep,nu,k,_=>by simp[Cm.lastE]
 |c::r,ep,nu,0,h=>by
  have:=(mR r c.e c.n r.length h.2.2.2).1
  rw[List.take_length]at this
  have h3:=h.2.2.1
  simp only[List.take_zero,Cm.lastE]
  omega
 |c::r,ep,nu,k+1,h=>by
  have:=mR r c.e c.n k h.2.2.2
  have h3:=h.2.2.1
  simp only[List.take_succ_cons,Cm.lastE]
  omega
theorem aep:∀(l:List Cm.Cv) (ep nu:Int),Cm.Good ep nu l→Cm.lastN nu l=nu+l.length
 |[],ep,nu,_=>by simp[Cm.lastN]
 |c::r,ep,nu,h=>by
  have:=aep r c.e c.n h.2.2.2
  have h2:=h.2.1
  simp only[Cm.lastN,List.length_cons]
  omega
section
variable {l:List Cm.Cv} {k:Nat}
theorem aaO (hg:Cm.Good 0 0 l)(h1:Cm.lastE 0 l≤1)(hn:l.length≤30)(hk:k≤l.length):Cm.Good 0 0 (l.take k++[⟨2,k+1,[kv]⟩]):=by
 have e:=mR l 0 0 k hg
 have n:=aep _ 0 0 (Cm.gL hg k)
 rw[List.length_take,Nat.min_eq_left hk]at n
 refine(Cm.fI _ _ _ _).2 ⟨Cm.gL hg k,?_,?_,?_,trivial⟩
 ·rw[Cm.kU (by simp only;omega)];exact rW
 ·show(k:Int)+1-1=_
  omega
 ·show _≤(2:Int)
  omega
theorem aav (hg:Cm.Good 0 0 l)(h1:Cm.lastE 0 l≤1):Sm.told 0 (l.take k++[⟨2,k+1,[kv]⟩])=Sm.told 0 (l.take k)++[(2,(k:Int)+1)]:=by
 have e:=mR l 0 0 k hg
 rw[Sm.zM]
 simp only[Sm.told]
 rw[if_neg (by omega)]
theorem aiR (hg:Cm.Good 0 0 l)(h1:Cm.lastE 0 l≤1)(hn:l.length≤30)(hk:k≤l.length):Fr (Sm.told 0 l) l.length (Sm.told 0 (l.take k)++[(2,(k:Int)+1)]) ((k:Int)+1) (k:Nat):=by
 have g2:=aaO hg h1 hn hk
 have hlen:(l.take k++[(⟨2,k+1,[kv]⟩:Cm.Cv)]).length=k+1:=by rw[List.length_append,List.length_take,Nat.min_eq_left hk];rfl
 have tl:(l.take k).length=k:=by rw[List.length_take,Nat.min_eq_left hk]
 have h:=Sm.acE hg g2 (k:=k) hk (by omega) (by rw[List.take_append_of_le_length (by omega),List.take_take,Nat.min_self]) (fun i c d hi hc hd=>by
  have hl:=(List.getElem?_eq_some_iff.1 hd).1
  rw[hlen]at hl
  obtain rfl:i=k:=by omega
  rw[List.getElem?_append_right (by omega),tl,Nat.sub_self]at hd
  have hd:d=⟨2,i+1,[kv]⟩:=(Option.some.inj hd).symm
  have e:=mR l 0 0 (i+1) hg
  have:(l.take (i+1))=l.take i++[c]:=by
   obtain⟨q1,q2⟩:=List.getElem?_eq_some_iff.1 hc
   rw[List.take_succ_eq_append_getElem q1,q2]
  rw[this,wT]at e
  have e2:Cm.lastE (Cm.lastE 0 (l.take i)) [c]=c.e:=rfl
  rw[e2]at e
  rw[hd]
  show c.e≠2
  omega)
 have ok2:=Sm.qa g2
 rw[aav hg h1,hlen]at h ok2
 refine .inl ⟨?_,h⟩
 unfold tO
 rw[if_pos (Sm.fZ (Sm.qa hg))]
 exact Sm.fZ ok2
end
end Go.Proofs.YtmngcecomcadkaaGreatDoor
