/- Texts of one layer, one behind the other. -/
import Derived.Test.YtmngcecomcadkaaGreatDoorCH4
import Derived.Test.YtmngcecomcadkaaGreatDoorCH1
import Derived.Deep.RegionHeld3
import Derived.Test.YtmngcecomcadkaaGreatDoorCH3
import Derived.Test.YtmngcecomcadkaaGreatDoorCG2
import Derived.Test.YtmngcecomcadkaaGreatDoorCH13
import Derived.Test.YtmngcecomcadkaaGreatDoorCH8
import Derived.Test.YtmngcecomcadkaaGreatDoorCH15
set_option maxRecDepth 100000
set_option maxHeartbeats 8000000
namespace Go.Proofs.YtmngcecomcadkaaGreatDoor
open Go.RowKit
set_option linter.unusedVariables false
theorem asg (r:List Cm.Cv)(ep nu:Int):(Cm.Good ep nu r∧Cm.fol ep nu 0 r=(0,0))∨(¬Cm.Good ep nu r∧(Cm.fol ep nu 0 r).1≠0):=by
 by_cases h:Cm.Good ep nu r
 ·have h1:=(Cm.dZ r ep nu 0).2 h
  exact .inl ⟨h,Prod.ext h1 (Cm.oI r ep nu 0 h1)⟩
 ·exact .inr ⟨h,fun h1=>h ((Cm.dZ r ep nu 0).1 h1)⟩
def sameV:List Cm.Cv→List Cm.Cv→Bool
 |[],[]=>true
 |c::r,d::s=>iC c.e c.n c.l d.e d.n d.l&&sameV r s
 |_,_=>false
theorem oO {e n e' n':Int}{l l':List Bm.Ov}:iC e n l e' n' l'=true↔e=e'∧n=n'∧l=l':=by
 simp[iC,Bm.oL]
theorem lV:∀{r s:List Cm.Cv},sameV r s=true↔r=s
 |[],[]=>by simp[sameV]
 |[],_::_=>by simp[sameV]
 |_::_,[]=>by simp[sameV]
 |⟨e,n,l⟩::r,⟨e',n',l'⟩::s=>by
  simp only[sameV,Bool.and_eq_true,oO,lV (r:=r) (s:=s)]
  simp[and_assoc]
theorem uZ {r s:List Cm.Cv}(h:r≠s):sameV r s=false:=by
 cases hs:sameV r s
 ·rfl
 ·exact absurd (lV.1 hs) h
theorem aar (r:List Cm.Cv):sameV r r=true:=lV.2 rfl
theorem fF (r:List Cw):(ay r).length=r.length:=by unfold ay;rw[List.length_map]
theorem iP {w:World}{v:Value}{r:List Cw}(h:di w v r):0<r.length→∃b1 o1 c1,v=.slice (some ⟨b1,o1,none⟩) r.length c1∧b1<w.heap.size∧∀i c,r[i]? =some c→w.cell? ⟨b1,o1+i*3,none⟩=some (.int .i64 c.e)∧w.cell? ⟨b1,o1+i*3+1,none⟩=some (.int .i64 c.n)∧w.cell? ⟨b1,o1+i*3+2,none⟩=some c.v:=by
 intro hp
 obtain⟨b1,o1,c1,hv,_,_,hB,hc⟩:=h.1.full hp
 exact⟨b1,o1,c1,hv,hB,hc⟩
theorem kD (r:List Cw)(k:Nat):(ay r)[k]? =(r[k]?).map Cw.c:=by unfold ay;rw[List.getElem?_map]
theorem ah0 (va vb:Value)(r s:List Cw)(w:World)(ha:di w va r)(hb:di w vb s)(fa:dL r)(fb:dL s)(hl:r.length≤140737488355328)(hl':s.length≤140737488355328):
  Calls Tryz.prog 41 #[va,vb] w fun E w'=>E=.returned (.bool (sameV (ay r) (ay s)))∧Below w.heap.size w w':=by
 obtain⟨ans,dU⟩:∃x,sameV (ay r) (ay s)=x:=⟨_,rfl⟩
 rw[dU]
 have HA:=hide dU
 clear dU
 obtain⟨a1,p1,hva,_,_⟩:=ha.1.shape
 obtain⟨a2,p2,hvb,_,_⟩:=hb.1.shape
 by_cases hne:r.length=s.length
 ·have C1:=hide (iP ha)
  have C2:=hide (iP hb)
  have I1:=hide ha.2
  have I2:=hide hb.2
  have F1:=hide fa
  have F2:=hide fb
  have HL:=hide hne
  have ht:((r.length:Int) !=(s.length:Int))=false:=by simp;omega
  subst hva hvb
  generalize hn:r.length=n at*
  generalize hm:s.length=m at*
  have HN:=hide hn
  have HM:=hide hm
  clear ha hb fa fb hne hn hm
  go_enter Tryz.func41,Tryz.ntmps41
  go_wp2
  go_loopw [5] (fun i wr=>∃(k:Nat),k≤n∧i=.int .i64 k∧Hid ((ay r).take k=(ay s).take k)∧Below w.heap.size w wr) (fun i _=>n-(intOf i).toNat)
  case atStart=>exact⟨0,by omega,rfl,hide rfl,Below.refl _ _⟩
  case round=>
   obtain⟨k,hk,rfl,HT,aF⟩:=hrel
   have sz:=aF.size
   by_cases hlt:k<n
   ·obtain⟨b1,o1,c1,hv1,hB1,hc1⟩:=C1.out (by have:=HN.out;omega)
    obtain⟨b2,o2,c2,hv2,hB2,hc2⟩:=C2.out (by have:=HM.out;have:=HL.out;omega)
    simp only[Value.slice.injEq,true_and]at hv1 hv2
    obtain⟨rfl,rfl⟩:=hv1
    obtain⟨rfl,rfl⟩:=hv2
    have hkr:k<r.length:=by have:=HN.out;omega
    have hks:k<s.length:=by have:=HM.out;have:=HL.out;omega
    obtain⟨c,hc⟩:∃c,r[k]? =some c:=⟨r[k],List.getElem?_eq_getElem hkr⟩
    obtain⟨d,hd⟩:∃d,s[k]? =some d:=⟨s[k],List.getElem?_eq_getElem hks⟩
    obtain⟨x0,x1,x2⟩:=vY hc1 aF hB1 hc
    obtain⟨y0,y1,y2⟩:=vY hc2 aF hB2 hd
    have i1:=(I1.out c (List.mem_of_getElem? hc)).1.below aF
    have i2:=(I2.out d (List.mem_of_getElem? hd)).1.below aF
    have l1:=(F1.out c (List.mem_of_getElem? hc)).2
    have l2:=(F2.out d (List.mem_of_getElem? hd)).2
    have hlt':(k:Int)<n:=by omega
    have hlt2:(k:Int)<m:=by have:=HL.out;omega
    have aca:b1<wr.heap.size:=by omega
    have hB2':b2<wr.heap.size:=by omega
    have X:=hide (fun W (h1:dh W c.v c.l) (h2:dh W d.v d.l)=>aiQ c.e c.n _ c.l d.e d.n _ d.l W h1 h2 (by omega) (by omega))
    have HC:=hide hc
    have HD:=hide hd
    obtain⟨sm,hsm⟩:∃x,iC c.e c.n c.l d.e d.n d.l=x:=⟨_,rfl⟩
    rw[hsm]at X
    have HSM:=hide hsm
    clear hc hd hc1 hc2 l1 l2 hsm
    cases sm
    ·have hfo:=HA.out
     rw[uZ fun e=>by
      have h1:(ay r)[k]? =some c.c:=by rw[kD,HC.out];rfl
      rw[e,kD,HD.out]at h1
      have h2:d.c=c.c:=by simpa using h1
      obtain⟨q1,q2,q3⟩:=ama h2
      have:=HSM.out
      rw[oO.2 ⟨q1.symm,q2.symm,q3.symm⟩]at this
      simp at this]at hfo
     subst hfo
     go_wp2_with fail
     go_region_held3 (fun w'=>(w'.cell? ⟨b1,o1+k*3,none⟩=some (.int .i64 c.e)∧w'.cell? ⟨b1,o1+k*3+1,none⟩=some (.int .i64 c.n)∧w'.cell? ⟨b1,o1+k*3+2,none⟩=some c.v)∧(w'.cell? ⟨b2,o2+k*3,none⟩=some (.int .i64 d.e)∧w'.cell? ⟨b2,o2+k*3+1,none⟩=some (.int .i64 d.n)∧w'.cell? ⟨b2,o2+k*3+2,none⟩=some d.v)) (first|exact⟨⟨x0,x1,x2⟩,⟨y0,y1,y2⟩⟩|exact⟨⟨g0,g1,g2⟩,⟨h0,h1,h2⟩⟩|go_keep)
      (first
      |(go_at_call 94;refine(X.out _ (i1.drewN 1) (i2.drewN 1)).mono ?_;rintro E w3 ⟨rfl,aai⟩;have aD:Below wr.heap.size wr w3:=((Below.refl _ _).drew).trans aai;have g0:=(aD.cell (p:=⟨b1,o1+k*3,none⟩) aca).trans x0;have g1:=(aD.cell (p:=⟨b1,o1+k*3+1,none⟩) aca).trans x1;have g2:=(aD.cell (p:=⟨b1,o1+k*3+2,none⟩) aca).trans x2;have h0:=(aD.cell (p:=⟨b2,o2+k*3,none⟩) hB2').trans y0;have h1:=(aD.cell (p:=⟨b2,o2+k*3+1,none⟩) hB2').trans y1;have h2:=(aD.cell (p:=⟨b2,o2+k*3+2,none⟩) hB2').trans y2;clear aai))
     have zZ:=aF.trans (aD.mono (by omega))
     go_wp2
     go_ret
     exact⟨rfl,zZ⟩
    ·have HT2:Hid ((ay r).take (k+1)=(ay s).take (k+1)):=hide (by
      obtain⟨q1,q2,q3⟩:=oO.1 HSM.out
      rw[List.take_add_one,List.take_add_one,HT.out,kD,kD,HC.out,HD.out]
      simp[Cw.c,q1,q2,q3])
     go_wp2_with fail
     go_region_held3 (fun w'=>(w'.cell? ⟨b1,o1+k*3,none⟩=some (.int .i64 c.e)∧w'.cell? ⟨b1,o1+k*3+1,none⟩=some (.int .i64 c.n)∧w'.cell? ⟨b1,o1+k*3+2,none⟩=some c.v)∧(w'.cell? ⟨b2,o2+k*3,none⟩=some (.int .i64 d.e)∧w'.cell? ⟨b2,o2+k*3+1,none⟩=some (.int .i64 d.n)∧w'.cell? ⟨b2,o2+k*3+2,none⟩=some d.v)) (first|exact⟨⟨x0,x1,x2⟩,⟨y0,y1,y2⟩⟩|exact⟨⟨g0,g1,g2⟩,⟨h0,h1,h2⟩⟩|go_keep)
      (first
      |(go_at_call 94;refine(X.out _ (i1.drewN 1) (i2.drewN 1)).mono ?_;rintro E w3 ⟨rfl,aai⟩;have aD:Below wr.heap.size wr w3:=((Below.refl _ _).drew).trans aai;have g0:=(aD.cell (p:=⟨b1,o1+k*3,none⟩) aca).trans x0;have g1:=(aD.cell (p:=⟨b1,o1+k*3+1,none⟩) aca).trans x1;have g2:=(aD.cell (p:=⟨b1,o1+k*3+2,none⟩) aca).trans x2;have h0:=(aD.cell (p:=⟨b2,o2+k*3,none⟩) hB2').trans y0;have h1:=(aD.cell (p:=⟨b2,o2+k*3+1,none⟩) hB2').trans y1;have h2:=(aD.cell (p:=⟨b2,o2+k*3+2,none⟩) hB2').trans y2;clear aai))
     have zZ:=aF.trans (aD.mono (by omega))
     clear x0 x1 x2 y0 y1 y2 g0 g1 g2 h0 h1 h2 i1 i2 aD aF
     go_wp2
     go_roundw
     case rel=>exact⟨k+1,by omega,by go_num,HT2,zZ⟩
     case measure=>simp[intOf];omega
   ·have hlt':¬(k:Int)<n:=by omega
    have hfo:=HA.out
    rw[lV.2 (by
     have h1:=HT.out
     rw[List.take_of_length_le (by rw[fF,HN.out];omega),List.take_of_length_le (by rw[fF,HM.out];have:=HL.out;omega)]at h1
     exact h1)]at hfo
    subst hfo
    clear HA
    go_wp2
    go_ret
    exact⟨rfl,aF⟩
 ·have ht:((r.length:Int) !=(s.length:Int))=true:=by simp;omega
  have hfo:=HA.out
  rw[uZ fun e=>hne (by rw[←fF r,←fF s,e])]at hfo
  subst hfo hva hvb
  clear hne HA
  go_enter Tryz.func41,Tryz.ntmps41
  go_wp2
  go_ret
  exact⟨rfl,Below.refl _ _⟩
def ApC (cs:List Cw):Prop:=∀(i j:Nat) (c d:Cw),i≠j→cs[i]? =some c→cs[j]? =some d→c.v.ownBlock=none∨c.v.ownBlock≠d.v.ownBlock
theorem mD {e base base' size n:Nat}{w:World}{v:Value}{xs:List Value}(h:w.ownsRow base e size v n xs)(hb:base'≤base):w.ownsRow base' e size v n xs:=by
 refine⟨h.1,?_⟩
 rcases h.2 with k|⟨g,cap,cur,hv,h1,r⟩
 ·exact .inl k
 ·exact .inr ⟨g,cap,cur,hv,Nat.le_trans hb h1,r⟩
theorem afB {cs:List Cw}{c:Cw}{N:Nat}(h:ApC cs)(h1:∀d∈cs,∀b,d.v.ownBlock=some b→b<N)(h2:∀b,c.v.ownBlock=some b→N≤b):ApC (cs++[c]):=by
 intro i j x y hij hx hy
 have hix:=(List.getElem?_eq_some_iff.1 hx).1
 have hjx:=(List.getElem?_eq_some_iff.1 hy).1
 rw[List.length_append,List.length_singleton]at hix hjx
 have key:∀u v:Value,(∀b d,u.ownBlock=some b→v.ownBlock=some d→b≠d)→u.ownBlock=none∨u.ownBlock≠v.ownBlock:=by
  intro u v h
  cases hu:u.ownBlock with
  |none=>exact .inl rfl
  |some b=>exact .inr fun e=>h b b hu e.symm rfl
 by_cases hi:i<cs.length
 ·rw[List.getElem?_append_left hi]at hx
  by_cases hj:j<cs.length
  ·rw[List.getElem?_append_left hj]at hy
   exact h i j x y hij hx hy
  ·have:j=cs.length:=by omega
   subst this
   simp at hy
   subst hy
   exact key _ _ fun b d hb hd=>by have:=h1 x (List.mem_of_getElem? hx) b hb;have:=h2 d hd;omega
 ·have:i=cs.length:=by omega
  subst this
  simp at hx
  subst hx
  rw[List.getElem?_append_left (by omega)]at hy
  exact key _ _ fun b d hb hd=>by have:=h2 b hb;have:=h1 y (List.mem_of_getElem? hy) d hd;omega
structure Mw where
 k:Int
 e:Int
 r:Int
 n:Int
 vs:Value
 ss:List Sm.S
 f:Int
 p:Int
 vc:Value
 cs:List Cw
def mv (m:Mw):Value:=.agg #[.int .i64 m.k,.int .i64 m.e,.int .u8 m.r,.int .i64 m.n,m.vs,.int .i64 m.f,.int .i64 m.p,m.vc]
def mc (m:Mw):Array Value:=#[.int .i64 m.k,.int .i64 m.e,.int .u8 m.r,.int .i64 m.n,m.vs,.int .i64 m.f,.int .i64 m.p,m.vc]
def Mw.m (m:Mw):Mm.gQ:=⟨m.k,m.e,m.r,m.n,m.ss,m.f,m.p,ay m.cs⟩
def og:Mw:=⟨0,0,0,0,.slice none 0 0,[],0,0,.slice none 0 0,[]⟩
structure fw (w:World) (m:Mw):Prop where
 s:jH w m.vs m.ss
 c:di w m.vc m.cs
theorem fw.below {w w':World}{m:Mw}(h:fw w m)(hb:Below w.heap.size w w'):fw w' m:=⟨h.s.below hb,h.c.below hb⟩
theorem fw.no (w:World):fw w og:=⟨gP.nil _ _,di.nil _⟩
structure dx (m:Mw):Prop where
 k:In64 m.k
 e:In64 m.e
 r0:0≤m.r
 r1:m.r<256
 n:In64 m.n
 f:In64 m.f
 p:In64 m.p
 ls:m.ss.length≤140737488355328
 fc:dL m.cs
 lc:m.cs.length≤140737488355328
theorem dx.no:dx og:=⟨by simp[In64,og],by simp[In64,og],by simp[og],by simp[og],by simp[In64,og],by simp[In64,og],by simp[In64,og],by simp[og],fun c hc=>by simp[og]at hc,by simp[og]⟩
structure Ei (w:World) (g:Nat) (a b c d e f h i:Value):Prop where
 c0:w.cell? ⟨g,0,none⟩=some a
 c1:w.cell? ⟨g,1,none⟩=some b
 c2:w.cell? ⟨g,2,none⟩=some c
 c3:w.cell? ⟨g,3,none⟩=some d
 c4:w.cell? ⟨g,4,none⟩=some e
 c5:w.cell? ⟨g,5,none⟩=some f
 c6:w.cell? ⟨g,6,none⟩=some h
 c7:w.cell? ⟨g,7,none⟩=some i
theorem kX {w:World}{g:Nat}{t:TypeId}{fr:Nat×Nat}{a b c d e f h i:Value}(k:w.heap[g]? =some (.cells #[a,b,c,d,e,f,h,i] t fr)):Ei w g a b c d e f h i:=
 ⟨ai k 0 rfl,ai k 1 rfl,ai k 2 rfl,ai k 3 rfl,ai k 4 rfl,ai k 5 rfl,ai k 6 rfl,ai k 7 rfl⟩
theorem av8 {V:World}{R:Nat}{t:TypeId}{x0 x1 x2 x3 x4 x5 x6 x7:Value}(hR:V.heap[R]? =some (.cells #[x0,x1,x2,x3,x4,x5,x6,x7] t (0,0)))(a b c d e f h i:Value):
  ∃V',(((((((V.setCell ⟨R,0,none⟩ a).setCell ⟨R,1,none⟩ b).setCell ⟨R,2,none⟩ c).setCell ⟨R,3,none⟩ d).setCell ⟨R,4,none⟩ e).setCell ⟨R,5,none⟩ f).setCell ⟨R,6,none⟩ h).setCell ⟨R,7,none⟩ i=V'∧V'.heap[R]? =some (.cells #[a,b,c,d,e,f,h,i] t (0,0))∧V.grownBy V' (some R)∧
   Ei V R x0 x1 x2 x3 x4 x5 x6 x7∧(∀j,V.frozen? ⟨R,j,none⟩=false)∧Ei V' R a b c d e f h i:=by
 have k0:(V.setCell ⟨R,0,none⟩ a).heap[R]? =some (.cells #[a,x1,x2,x3,x4,x5,x6,x7] t (0,0)):=aH hR 0 a
 have k1:((V.setCell ⟨R,0,none⟩ a).setCell ⟨R,1,none⟩ b).heap[R]? =some (.cells #[a,b,x2,x3,x4,x5,x6,x7] t (0,0)):=aH k0 1 b
 have k2:(((V.setCell ⟨R,0,none⟩ a).setCell ⟨R,1,none⟩ b).setCell ⟨R,2,none⟩ c).heap[R]? =some (.cells #[a,b,c,x3,x4,x5,x6,x7] t (0,0)):=aH k1 2 c
 have k3:((((V.setCell ⟨R,0,none⟩ a).setCell ⟨R,1,none⟩ b).setCell ⟨R,2,none⟩ c).setCell ⟨R,3,none⟩ d).heap[R]? =some (.cells #[a,b,c,d,x4,x5,x6,x7] t (0,0)):=aH k2 3 d
 have k4:(((((V.setCell ⟨R,0,none⟩ a).setCell ⟨R,1,none⟩ b).setCell ⟨R,2,none⟩ c).setCell ⟨R,3,none⟩ d).setCell ⟨R,4,none⟩ e).heap[R]? =some (.cells #[a,b,c,d,e,x5,x6,x7] t (0,0)):=aH k3 4 e
 have k5:((((((V.setCell ⟨R,0,none⟩ a).setCell ⟨R,1,none⟩ b).setCell ⟨R,2,none⟩ c).setCell ⟨R,3,none⟩ d).setCell ⟨R,4,none⟩ e).setCell ⟨R,5,none⟩ f).heap[R]? =some (.cells #[a,b,c,d,e,f,x6,x7] t (0,0)):=aH k4 5 f
 have k6:(((((((V.setCell ⟨R,0,none⟩ a).setCell ⟨R,1,none⟩ b).setCell ⟨R,2,none⟩ c).setCell ⟨R,3,none⟩ d).setCell ⟨R,4,none⟩ e).setCell ⟨R,5,none⟩ f).setCell ⟨R,6,none⟩ h).heap[R]? =some (.cells #[a,b,c,d,e,f,h,x7] t (0,0)):=aH k5 6 h
 have k7:((((((((V.setCell ⟨R,0,none⟩ a).setCell ⟨R,1,none⟩ b).setCell ⟨R,2,none⟩ c).setCell ⟨R,3,none⟩ d).setCell ⟨R,4,none⟩ e).setCell ⟨R,5,none⟩ f).setCell ⟨R,6,none⟩ h).setCell ⟨R,7,none⟩ i).heap[R]? =some (.cells #[a,b,c,d,e,f,h,i] t (0,0)):=aH k6 7 i
 have k:=k7
 refine⟨_,rfl,k,?_,kX hR,aA hR,kX k⟩
 exact aG (aG (aG (aG (aG (aG (aG (az V ⟨R,0,none⟩ a) (az _ ⟨R,1,none⟩ b)) (az _ ⟨R,2,none⟩ c)) (az _ ⟨R,3,none⟩ d)) (az _ ⟨R,4,none⟩ e)) (az _ ⟨R,5,none⟩ f)) (az _ ⟨R,6,none⟩ h)) (az _ ⟨R,7,none⟩ i)
theorem amE (w:World)(t:TypeId)(x0 x1 x2 x3 x4 x5 x6 x7 a b c d e f h i:Value):
  ∃V,(((((((((w.alloc (.cells #[x0,x1,x2,x3,x4,x5,x6,x7] t)).setCell ⟨w.heap.size,0,none⟩ a).setCell ⟨w.heap.size,1,none⟩ b).setCell ⟨w.heap.size,2,none⟩ c).setCell ⟨w.heap.size,3,none⟩ d).setCell ⟨w.heap.size,4,none⟩ e).setCell ⟨w.heap.size,5,none⟩ f).setCell ⟨w.heap.size,6,none⟩ h).setCell ⟨w.heap.size,7,none⟩ i=V)∧w.alloc (.cells #[a,b,c,d,e,f,h,i] t)=V∧V.heap.size=w.heap.size+1∧Below w.heap.size w V∧V.heap[w.heap.size]? =some (.cells #[a,b,c,d,e,f,h,i] t (0,0))∧Ei V w.heap.size a b c d e f h i:=by
 obtain⟨V,h1,h2,h3,h4⟩:=ak w #[a,b,c,d,e,f,h,i] t
 refine⟨V,?_,h1,h2,h3,h4,kX h4⟩
 rw[←h1]
 simp[go_sem]
def fq (w:World) (g:Nat) (m:Mw):Prop:=w.heap[g]? =some (.cells (mc m) 26 (0,0))
theorem fq.lt {w:World}{g:Nat}{m:Mw}(h:fq w g m):g<w.heap.size:=ax h
theorem fq.below {w w':World}{g:Nat}{m:Mw}(h:fq w g m)(b:Below w.heap.size w w'):fq w' g m:=(b.block g h.lt).trans h
theorem fq.ei {w:World}{g:Nat}{m:Mw}(h:fq w g m):Ei w g (.int .i64 m.k) (.int .i64 m.e) (.int .u8 m.r) (.int .i64 m.n) m.vs (.int .i64 m.f) (.int .i64 m.p) m.vc:=kX h
theorem qB (w:World)(m:Mw):
  ∃V,w.alloc (.cells #[.int .i64 m.k,.int .i64 m.e,.int .u8 m.r,.int .i64 m.n,m.vs,.int .i64 m.f,.int .i64 m.p,m.vc] 26)=V∧V.heap.size=w.heap.size+1∧Below w.heap.size w V∧fq V w.heap.size m:=by
 obtain⟨V,h1,h2,h3,h4⟩:=ak w #[.int .i64 m.k,.int .i64 m.e,.int .u8 m.r,.int .i64 m.n,m.vs,.int .i64 m.f,.int .i64 m.p,m.vc] 26
 exact⟨V,h1,h2,h3,h4⟩
def ni (a b:Mm.gQ):Bool:=(a.k==b.k)&&((a.e==b.e)&&((a.r==b.r)&&((a.n==b.n)&&((a.f==b.f)&&((a.p==b.p)&&(decide (a.ss=b.ss)&&sameV a.cs b.cs))))))
theorem yC {a b:Mm.gQ}:ni a b=true↔a=b:=by
 constructor
 ·intro h
  simp only[ni,Bool.and_eq_true,beq_iff_eq,decide_eq_true_iff,lV]at h
  obtain⟨h1,h2,h3,h4,h5,h6,h7,h8⟩:=h
  exact Mm.gQ.eq h1 h2 h3 h4 h7 h5 h6 h8
 ·rintro rfl
  simp[ni,aar]
theorem avU {a b:Mm.gQ}(h:a≠b):ni a b=false:=by
 cases hs:ni a b
 ·rfl
 ·exact absurd (yC.1 hs) h
def one (v:Value):List Value:=[v]
theorem abK (v:Value):(one v).length=1:=rfl
theorem qY {e e' base size n:Nat}{w w':World}{v:Value}{xs:List Value}(h:w.ownsRow base e size v n xs)(k:bH e' w w')(hne:e≠e'):w'.ownsRow base e size v n xs:=by
 refine⟨h.1,?_⟩
 rcases h.2 with h|⟨g,cap,cur,hv,h1,hh,r⟩
 ·exact .inl h
 ·exact .inr ⟨g,cap,cur,hv,h1,k _ _ _ _ hh hne,r⟩
theorem aiH (l:List Cw)(i:Nat)(c:Cw)(hi:i<l.length):(((ccells l).set (i*3) (.int .i64 c.e)).set (i*3+1) (.int .i64 c.n)).set (i*3+2) c.v=ccells (l.set i c):=by
 induction l generalizing i with
 |nil=>simp at hi
 |cons d l ih=>
  cases i with
  |zero=>simp[ccells,iD]
  |succ i=>
   have:=ih i (by simpa using hi)
   rw[show(i+1)*3=i*3+3 by omega]
   simp only[ccells,iD,List.set_cons_succ,List.cons_append,List.nil_append]
   rw[←this]
theorem afr {e base g n cap:Nat}{w:World}{l:List Cw}(h:bn e base w (.slice (some ⟨g,0,none⟩) n cap) l)(hn:l.length=n)(i:Nat)(hi:i<n)(c:Cw):
  ∃W,((w.setCell ⟨g,i*3,none⟩ (.int .i64 c.e)).setCell ⟨g,i*3+1,none⟩ (.int .i64 c.n)).setCell ⟨g,i*3+2,none⟩ c.v=W∧bn e base W (.slice (some ⟨g,0,none⟩) n cap) (l.set i c)∧w.grownBy W (some g):=by
 subst hn
 unfold bn at h
 have s1:=h.stored (i*3) (.int .i64 c.e)
 have s2:=s1.1.stored (i*3+1) (.int .i64 c.n)
 have s3:=s2.1.stored (i*3+2) c.v
 refine⟨_,rfl,?_,aG s1.2 (aG s2.2 s3.2)⟩
 unfold bn
 rw[List.length_set,←aiH l i c hi]
 exact s3.1
theorem yc {e base g n cap:Nat}{w:World}{l:List Cw}(h:bn e base w (.slice (some ⟨g,0,none⟩) n cap) l)(hn:l.length=n)(i:Nat)(c:Cw)(hc:l[i]? =some c):
  (w.cell? ⟨g,i*3,none⟩=some (.int .i64 c.e)∧w.cell? ⟨g,i*3+1,none⟩=some (.int .i64 c.n)∧w.cell? ⟨g,i*3+2,none⟩=some c.v)∧(w.frozen? ⟨g,i*3,none⟩=false∧w.frozen? ⟨g,i*3+1,none⟩=false∧w.frozen? ⟨g,i*3+2,none⟩=false):=by
 subst hn
 unfold bn at h
 obtain⟨hi,rfl⟩:=List.getElem?_eq_some_iff.1 hc
 obtain⟨a0,a1,a2⟩:=rA l i hi
 exact⟨⟨by rw[h.cellAt (i*3) (by omega)];exact a0,by rw[h.cellAt (i*3+1) (by omega)];exact a1,by rw[h.cellAt (i*3+2) (by omega)];exact a2⟩,h.frozenAt _,h.frozenAt _,h.frozenAt _⟩
structure zi (w wr:World) (g m cap:Nat) (rest:List Cw) (k:Nat) (rk:List Cw):Prop where
 row:bn 35 w.heap.size wr (.slice (some ⟨g,0,none⟩) m cap) rk
 len:rk.length=m
 left:rk.drop k=rest.drop k
 kN:dR w.heap.size wr (rk.take k)
 is:ay rk=ay rest
 ap:ApC (rk.take k)
 aF:Below w.heap.size w wr
theorem zi.next {w wr w2 w3:World}{g m cap:Nat}{rest rk:List Cw}{k:Nat}(h:zi w wr g m cap rest k rk){c:Cw}(hc:rest[k]? =some c)(hk:k<m){v':Value}(ho:bg 111 wr.heap.size w2 v' c.l)(hb:Below wr.heap.size wr w2)
  (hr:bn 35 w.heap.size w3 (.slice (some ⟨g,0,none⟩) m cap) (rk.set k ⟨c.e,c.n,v',c.l⟩)) (hg:w2.grownBy w3 (some g)):zi w w3 g m cap rest (k+1) (rk.set k ⟨c.e,c.n,v',c.l⟩):=by
 have hlen:=h.len
 have vN:rk[k]? =some c:=by
  have e1:(rk.drop k)[0]? =(rest.drop k)[0]? :=by rw[h.left]
  rw[List.getElem?_drop,List.getElem?_drop]at e1
  simpa using e1.trans (by simpa using hc)
 have htk:(rk.set k ⟨c.e,c.n,v',c.l⟩).take (k+1)=rk.take k++[⟨c.e,c.n,v',c.l⟩]:=by
  rw[List.take_succ_eq_append_getElem (by rw[List.length_set];omega),List.take_set_of_le (Nat.le_refl _)]
  simp
 have hrow2:bn 35 w.heap.size w2 (.slice (some ⟨g,0,none⟩) m cap) rk:=h.row.below hb
 have kt:bH 35 w2 w3:=bH.xz hrow2 hg
 refine⟨hr,by rw[List.length_set];exact hlen,?_,?_,?_,?_,?_⟩
 ·rw[List.drop_set_of_lt (by omega),←List.drop_drop,h.left,List.drop_drop]
 ·rw[htk]
  exact((h.kN.below hb).iJ kt).snoc (c:=⟨c.e,c.n,v',c.l⟩) ((ho.iJ kt (by decide)).bu h.aF.size)
 ·rw[←h.is]
  unfold ay
  rw[List.map_set]
  apply List.ext_getElem?
  intro i
  rw[List.getElem?_set]
  by_cases hik:k=i
  ·subst hik
   rw[if_pos rfl,if_pos (by rw[List.length_map];omega),List.getElem?_map,vN]
   rfl
  ·rw[if_neg hik]
 ·rw[htk]
  refine afB (N:=wr.heap.size) h.ap (fun d hd b hb=>((h.kN d hd).block b hb).2) fun b hb=>(bg.block ho b hb).1
 ·have b2:=h.aF.trans (hb.mono h.aF.size)
  refine b2.grown hg b2.size fun i hi=>?_
  have:=(World.ownsRow.lt h.row g rfl).1
  simp only[Option.some.injEq]at hi
  omega
section
variable {base:Nat} {w:World} {F:Nat→Prop}
theorem bn.type {e:TypeId}{r:List Cw}{v:Value}(h:bn e base w v r){g:Nat}(hg:v.ownBlock=some g):∃cs,w.heap[g]? =some (.cells cs e (0,0)):=by
 rcases h.2 with⟨rfl,_⟩|⟨g',cap,cur,rfl,_,hh,_⟩
 ·simp[Value.ownBlock]at hg
 ·simp[Value.ownBlock]at hg
  subst hg
  exact⟨_,hh⟩
theorem bg.type {e:TypeId}{r:List Bm.Ov}{v:Value}(h:bg e base w v r){g:Nat}(hg:v.ownBlock=some g):∃cs,w.heap[g]? =some (.cells cs e (0,0)):=by
 rcases h.2 with⟨rfl,_⟩|⟨g',cap,cur,rfl,_,hh,_⟩
 ·simp[Value.ownBlock]at hg
 ·simp[Value.ownBlock]at hg
  subst hg
  exact⟨_,hh⟩
theorem Pk.ty {p:Nat}{st:Dm.Ds}(h:Pk p F w st):∀g,F g→∃cs t fr,w.heap[g]? =some (.cells cs t fr)∧(t=76∨t=5∨t=152):=by
 obtain⟨s,wv,rs,h,rfl⟩:=h
 rintro g (rfl|⟨f,hf,hb⟩|hb|⟨r,hr,hb⟩)
 ·exact⟨_,_,_,h.blk,.inl rfl⟩
 ·obtain⟨cs,hc⟩:=(h.iO.file f hf).type hb
  exact⟨_,_,_,hc,.inr (.inl rfl)⟩
 ·obtain⟨cs,hc⟩:=h.iO.row.type hb
  exact⟨_,_,_,hc,.inr (.inr rfl)⟩
 ·obtain⟨_,cs,fr,hc⟩:=(h.iO.raw r hr).2 g hb
  exact⟨_,_,_,hc,.inr (.inl rfl)⟩
end
theorem dh.out {F:Nat→Prop}{w w':World}{v:Value}{l:List Bm.Ov}(h:dh w v l)(ho:Out F w w')(hF:0<l.length→∀b,v.ownBlock=some b→¬F b):dh w' v l:=by
 rcases h with h|⟨ad,cap,hv,h1,h2,hc⟩
 ·exact .inl h
 ·refine .inr ⟨ad,cap,hv,h1,h2,fun j u hj=>?_⟩
  have hk:=hc j u hj
  have hl:0<l.length:=by
   rcases l with _|⟨x,l⟩
   ·simp[ocells]at hj
   ·simp
  have eb:(ad.add j).block=ad.block:=by unfold Addr.add;split<;>rfl
  have hlt:=World.block_lt_of_cell? _ _ hk
  rw[World.cell?_of_block (ho.block _ hlt (by rw[eb];exact hF hl _ (by rw[hv];rfl)))]
  exact hk
end Go.Proofs.YtmngcecomcadkaaGreatDoor
namespace Go.Proofs.YtmngcecomcadkaaGreatDoor
open Go.RowKit Go.ChangeShapes Go.WideShapes Go.Deep
set_option linter.unusedVariables false
theorem atr {z:Int}(h:(Lit.int .u8 z).wf=true):0≤z∧z<256:=by
 have:=range_u8 (zs:=[z]) (by simpa using h) 0
 simp at this
 omega
section
variable {H:Type} {enc:TypeId×Value→H} {P:Program} {w:World} {base:Nat} {spare:Nat→Bool} {held:Bool}
theorem ad1 {t:TypeId}{f0 f1 f2 f3 f4 f5 f6 f7:Field}{fuel:Nat}{cs:List Value}{x:DataW H×List MemPlace}(ht:P.underlying t=some (.struct #[f0,f1,f2,f3,f4,f5,f6,f7]))(h:DataW.trod enc P w base spare held fuel t cs=some x):
  ∃y0 y1 y2 y3 y4 y5 y6 y7 n,x.1=.agg [y0.1,y1.1,y2.1,y3.1,y4.1,y5.1,y6.1,y7.1]∧DataW.trod enc P w base spare held n f0.type ((cs.drop f0.offset).take (P.cellsOf f0.type))=some y0∧
   DataW.trod enc P w base spare held n f1.type ((cs.drop f1.offset).take (P.cellsOf f1.type))=some y1∧DataW.trod enc P w base spare held n f2.type ((cs.drop f2.offset).take (P.cellsOf f2.type))=some y2∧
   DataW.trod enc P w base spare held n f3.type ((cs.drop f3.offset).take (P.cellsOf f3.type))=some y3∧DataW.trod enc P w base spare held n f4.type ((cs.drop f4.offset).take (P.cellsOf f4.type))=some y4∧
   DataW.trod enc P w base spare held n f5.type ((cs.drop f5.offset).take (P.cellsOf f5.type))=some y5∧DataW.trod enc P w base spare held n f6.type ((cs.drop f6.offset).take (P.cellsOf f6.type))=some y6∧
   DataW.trod enc P w base spare held n f7.type ((cs.drop f7.offset).take (P.cellsOf f7.type))=some y7:=by
 obtain⟨xs,n,_,rfl,hl,hlen,hf⟩:=DataW.trod_struct ht h
 match xs,hlen with
 |[y0,y1,y2,y3,y4,y5,y6,y7],_=>exact⟨y0,y1,y2,y3,y4,y5,y6,y7,n,rfl,by simpa using hf 0 f0 rfl,by simpa using hf 1 f1 rfl,by simpa using hf 2 f2 rfl,by simpa using hf 3 f3 rfl,by simpa using hf 4 f4 rfl,by simpa using hf 5 f5 rfl,by simpa using hf 6 f6 rfl,by simpa using hf 7 f7 rfl⟩
theorem asO {t e:TypeId}{d:DataW H}{r:List Sm.S}(h:∀n∈d.weights P t,n≤reachBytes)(hd:(d=.nil∧r=[])∨∃ds sp,d=.slice ds sp∧ds.length=r.length)(hu:P.underlying t=some (.slice e))(hb:P.bytesOf e=16):r.length*16≤140737488351232:=by
 rcases hd with⟨_,rfl⟩|⟨ds,sp,rfl,hl⟩
 ·simp
 ·have:=h ((ds.length+sp.length)*P.bytesOf e) (by simp[DataW.weights,hu])
  rw[hb]at this
  simp only[reachBytes]at this
  omega
theorem anv {t e o:TypeId}{f0 f1 f2 g0 g1 g2:Field}{d:DataW H}{r:List Cw}(h:∀n∈d.weights P t,n≤reachBytes)(hd:(d=.nil∧r=[])∨∃ds sp,d=.slice ds sp∧ds.length=r.length∧∀(i:Nat) (c:Cw),r[i]? =some c→∃d,ds[i]? =some d∧ai6 d c)
  (hu:P.underlying t=some (.slice e)) (he:P.underlying e=some (.struct #[f0,f1,f2])) (hb:P.bytesOf e=40) (h2:P.underlying f2.type=some (.slice o)) (ho:P.underlying o=some (.struct #[g0,g1,g2])) (hbo:P.bytesOf o=40):dL r∧r.length*40≤140737488351232:=by
 rcases hd with⟨_,rfl⟩|⟨es,sp,rfl,hlen,hr⟩
 ·exact⟨fun c hc=>by simp at hc,by simp⟩
 refine⟨fun c hc=>?_,?_⟩
 ·obtain⟨i,hi⟩:=List.getElem?_of_mem hc
  obtain⟨d,hd1,x0,x1,d2,rfl,hd2⟩:=hr i c hi
  refine ag5 (fun n hn=>?_) hd2 h2 ho hbo
  exact h n (by
   simp only[DataW.weights,hu]
   exact List.mem_cons_of_mem _ (List.mem_append_left _ (nZ (List.mem_of_getElem? hd1) (yS he hn))))
 ·have:=h ((es.length+sp.length)*P.bytesOf e) (by simp[DataW.weights,hu])
  rw[hb]at this
  simp only[reachBytes]at this
  omega
theorem afD {r:Reach}{b0:Nat}{t eS eC o:TypeId}{f0 f1 f2 f3 f4 f5 f6 f7 s0 s1 g0 g1 g2 p0 p1 p2:Field}{v:Value}{d:DataW H}{p:List MemPlace}(hs:P.underlying t=some (.struct #[f0,f1,f2,f3,f4,f5,f6,f7]))(hone:oneCellFields P #[f0,f1,f2,f3,f4,f5,f6,f7]=true)(hC:P.cellsOf t=8)
  (u0:P.underlying f0.type=some (.int .i64)) (u1:P.underlying f1.type=some (.int .i64)) (u2:P.underlying f2.type=some (.int .u8)) (u3:P.underlying f3.type=some (.int .i64)) (u4:P.underlying f4.type=some (.slice eS)) (u5:P.underlying f5.type=some (.int .i64)) (u6:P.underlying f6.type=some (.int .i64)) (u7:P.underlying f7.type=some (.slice eC))
  (hS:P.underlying eS=some (.struct #[s0,s1])) (axm:oneCellFields P #[s0,s1]=true) (cS:P.cellsOf eS=2) (bS:P.bytesOf eS=16) (us0:P.underlying s0.type=some (.int .i64)) (us1:P.underlying s1.type=some (.int .i64))
  (hE:P.underlying eC=some (.struct #[g0,g1,g2])) (axf:oneCellFields P #[g0,g1,g2]=true) (cC:P.cellsOf eC=3) (bC:P.bytesOf eC=40) (ug0:P.underlying g0.type=some (.int .i64)) (ug1:P.underlying g1.type=some (.int .i64)) (ug2:P.underlying g2.type=some (.slice o))
  (hO:P.underlying o=some (.struct #[p0,p1,p2])) (axu:oneCellFields P #[p0,p1,p2]=true) (cO:P.cellsOf o=3) (bO:P.bytesOf o=40) (up0:P.underlying p0.type=some .bool) (up1:P.underlying p1.type=some .string) (up2:P.underlying p2.type=some .string)
  (hv:Value.okWide P w r b0 t v) (h:DataW.Trod enc P w base spare held t v d p) (hw:∀n∈d.weights P t,n≤reachBytes):∃m:Mw,v=mv m∧fw w m∧dx m:=by
 obtain⟨cs,rfl,hsz⟩:=okWide_struct hs hv
 obtain⟨c0,c1,c2,c3,c4,c5,c6,c7,rfl⟩:∃c0 c1 c2 c3 c4 c5 c6 c7,cs=#[c0,c1,c2,c3,c4,c5,c6,c7]:=by
  have hsz':=hsz.trans hC
  obtain⟨l⟩:=cs
  match l,hsz' with
  |[c0,c1,c2,c3,c4,c5,c6,c7],_=>exact⟨c0,c1,c2,c3,c4,c5,c6,c7,rfl⟩
 obtain⟨fuel,hf⟩:=h
 obtain⟨y0,y1,y2,y3,y4,y5,y6,y7,n,hx,h0,h1,h2,h3,h4,h5,h6,h7⟩:=ad1 hs hf
 obtain⟨o0,k0⟩:=hone_of hone 0 f0 rfl
 obtain⟨o1,k1⟩:=hone_of hone 1 f1 rfl
 obtain⟨o2,k2⟩:=hone_of hone 2 f2 rfl
 obtain⟨o3,k3⟩:=hone_of hone 3 f3 rfl
 obtain⟨o4,k4⟩:=hone_of hone 4 f4 rfl
 obtain⟨o5,k5⟩:=hone_of hone 5 f5 rfl
 obtain⟨o6,k6⟩:=hone_of hone 6 f6 rfl
 obtain⟨o7,k7⟩:=hone_of hone 7 f7 rfl
 simp[Value.cells,o0,o1,o2,o3,o4,o5,o6,o7,k0,k1,k2,k3,k4,k5,k6,k7]at h0 h1 h2 h3 h4 h5 h6 h7
 obtain⟨q0,e0,_,w0⟩:=DataW.trod_int u0 h0
 obtain⟨q1,e1,_,w1⟩:=DataW.trod_int u1 h1
 obtain⟨q2,e2,_,w2⟩:=DataW.trod_int u2 h2
 obtain⟨q3,e3,_,w3⟩:=DataW.trod_int u3 h3
 obtain⟨ss,hss,hsd⟩:=amB u4 hS axm cS us0 us1 h4
 obtain⟨q5,e5,_,w5⟩:=DataW.trod_int u5 h5
 obtain⟨q6,e6,_,w6⟩:=DataW.trod_int u6 h6
 obtain⟨cc,hcc,hcd⟩:=acI u7 hE axf cC ug0 ug1 ug2 hO axu cO up0 up1 up2 h7
 simp at e0 e1 e2 e3 e5 e6
 subst e0 e1 e2 e3 e5 e6
 simp only at hx
 have hw4:∀n∈y4.1.weights P f4.type,n≤reachBytes:=fun n hn=>hw n (by
  rw[hx]
  simp only[DataW.weights,hs]
  simp[DataW.weightsEach,hn])
 have hw7:∀n∈y7.1.weights P f7.type,n≤reachBytes:=fun n hn=>hw n (by
  rw[hx]
  simp only[DataW.weights,hs]
  simp[DataW.weightsEach,hn])
 have l4:=asO hw4 hsd u4 bS
 obtain⟨f7',l7⟩:=anv hw7 hcd u7 hE bC ug2 hO bO
 have g2:=atr w2
 exact⟨⟨q0,q1,q2,q3,c4,ss,q5,q6,c7,cc⟩,rfl,⟨hss,hcc⟩,zQ w0,zQ w1,g2.1,g2.2,zQ w3,zQ w5,zQ w6,by show ss.length≤_;omega,f7',by show cc.length≤_;omega⟩
end
end Go.Proofs.YtmngcecomcadkaaGreatDoor
