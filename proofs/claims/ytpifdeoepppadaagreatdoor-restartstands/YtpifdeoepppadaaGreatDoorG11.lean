/- Texts of one layer, one behind the other. -/
import Derived.Test.YtpifdeoepppadaaGreatDoorG10
import Derived.Test.YtpifdeoepppadaaGreatDoorG6
import Derived.Deep.RegionHeld3
import Derived.Test.YtpifdeoepppadaaGreatDoorG1
import Derived.Test.YtpifdeoepppadaaGreatDoorG7
set_option maxRecDepth 100000
set_option maxHeartbeats 8000000
namespace Go.Proofs.YtpifdeoepppadaaGreatDoor
open Go.RowKit
set_option linter.unusedVariables false
theorem axI {c d:Cw}(h:c.c=d.c):c.e=d.e∧c.n=d.n∧c.l=d.l:=by
 unfold Cw.c at h
 simpa using h
theorem wN (r:List Cw)(k:Nat):aD (r.take k)=(aD r).take k:=by unfold aD;rw[List.map_take]
theorem ars {rs r:List Cw}{k:Nat}{c d:Cw}(h:aD rs=aD (r.take k))(hd:r[k]? =some d)(he:c.c=d.c):aD (rs++[c])=aD (r.take (k+1)):=by
 obtain⟨hk,rfl⟩:=List.getElem?_eq_some_iff.1 hd
 rw[List.take_succ_eq_append_getElem hk]
 unfold aD at h⊢
 rw[List.map_append,List.map_append,h]
 simp[he]
def fC (base:Nat) (w:World) (rs:List Cw):Prop:=∀c∈rs,aV 106 base w c.v c.l
theorem fC.below {base:Nat}{w w':World}{rs:List Cw}(h:fC base w rs)(hb:Below w.heap.size w w'):fC base w' rs:=fun c hc=>(h c hc).below hb
theorem fC.gq {base:Nat}{w w':World}{rs:List Cw}(h:fC base w rs)(hb:bK 32 w w'):fC base w' rs:=fun c hc=>(h c hc).gq hb (by decide)
theorem fC.snoc {base:Nat}{w:World}{rs:List Cw}(h:fC base w rs){c:Cw}(hc:aV 106 base w c.v c.l):fC base w (rs++[c]):=fun d hd=>(List.mem_append.1 hd).elim (h d) (fun h=>by rw[List.mem_singleton.1 h];exact hc)
theorem xm (vl:Value)(r:List Cw)(w:World)(h:fJ w vl r)(hf:fF r)(hl:r.length≤1000):
  Calls Tryz.prog 27 #[vl] w fun E w'=>∃v rs,E=.returned v∧bG 32 w.heap.size w' v rs∧aD rs=aD r∧fC w.heap.size w' rs∧Below w.heap.size w w':=by
 by_cases hz:r.length=0
 ·have:r=[]:=List.eq_nil_of_length_eq_zero hz
  subst this
  obtain⟨ao,cap,rfl,_,_⟩:=h.1.shape
  clear h hf hl hz
  simp only[List.length_nil]
  go_enter Tryz.func27,Tryz.ntmps27
  go_wp2
  go_loopw [3,4] (fun ov iv wr=>ov=.slice none 0 0∧iv=.int .i64 0∧wr=w) (fun _ _ _=>0)
  case atStart=>exact⟨rfl,rfl,rfl⟩
  case round=>
   obtain⟨rfl,rfl,rfl⟩:=hrel
   go_wp2
   go_ret
   exact⟨_,[],rfl,bG.nil _ _ _,rfl,fun c hc=>by simp at hc,Below.refl _ _⟩
 obtain⟨b1,o1,c1,hvl,_,_,hB,hcell⟩:=h.1.full (by omega)
 subst hvl
 have HIN:=hide h.2
 have aps:=hide hf
 have HC:=hide hcell
 generalize hn:r.length=n at*
 have HN:=hide hn
 clear h hcell hf hn
 go_enter Tryz.func27,Tryz.ntmps27
 go_wp2
 go_loopw [3,4] (fun ov iv wr=>∃(k:Nat) (rs:List Cw),k≤n∧iv=.int .i64 k∧rs.length=k∧Hid (bG 32 w.heap.size wr ov rs∧aD rs=aD (r.take k)∧fC w.heap.size wr rs)∧Below w.heap.size w wr) (fun _ iv _=>n-(intOf iv).toNat)
 case atStart=>exact⟨0,[],by omega,rfl,rfl,⟨bG.nil _ _ _,rfl,fun c hc=>by simp at hc⟩,Below.refl _ _⟩
 case round=>
  obtain⟨k,rs,hk,rfl,hrl,HT,aF⟩:=hrel
  have sz:=aF.size
  by_cases hlt:k<n
  ·obtain⟨c,hc⟩:∃c,r[k]? =some c:=⟨r[k]'(by have:=HN.out;omega),by rw[List.getElem?_eq_getElem]⟩
   obtain⟨e0,e1,e2⟩:=HC.out k c hc
   have d0:=(aF.cell (p:=⟨b1,o1+k*3,none⟩) hB).trans e0
   have d1:=(aF.cell (p:=⟨b1,o1+k*3+1,none⟩) hB).trans e1
   have d2:=(aF.cell (p:=⟨b1,o1+k*3+2,none⟩) hB).trans e2
   have hmem:=List.mem_of_getElem? hc
   obtain⟨i1,_,_⟩:=HIN.out c hmem
   have i2:=i1.below aF
   obtain⟨hfc,hlc⟩:=aps.out c hmem
   have HCK:=hide hc
   have hlt':(k:Int)<n:=by omega
   clear hc hmem i1 e0 e1 e2
   go_wp2_with fail
   refine(anW c.e c.n _ c.l _ i2 hlc).mono ?_
   rintro E w2 ⟨v2,rfl,bq,aB⟩
   unfold cZ
   have fA:=aB.size
   obtain⟨ah,ch,hv2,_,_⟩:=bq.is.shape
   subst hv2
   obtain⟨w3,hw3,fZ,aH,df⟩:=gN 32 w2 #[.int .i64 c.e,.int .i64 c.n,.slice ah c.l.length ch] 1 [⟨c.e,c.n,.slice ah c.l.length ch,c.l⟩] rfl rfl (by simp[maxLen])
   obtain⟨hO,hE,hP⟩:=HT.out
   have qC:Below wr.heap.size wr w3:=aB.trans (aH.mono (by omega))
   have hO3:=hO.below qC
   have hP3:=hP.below qC
   have asn:=(bq.below aH).bz (base':=w.heap.size) (by omega)
   have hlk:(rs.length+[(⟨c.e,c.n,.slice ah c.l.length ch,c.l⟩:Cw)].length)*40≤140737488355328:=by rw[List.length_singleton];omega
   have HE:=hide hE
   have HP:=hide hP3
   have bP:Below w.heap.size w w3:=aF.trans (qC.mono (by omega))
   clear HT hO hP hP3 hE aB aH qC bq aF d0 d1 d2 i2
   go_wp2_with (at_builtin;refine jd rfl (.tmp 11) (.tmp 17) 43 rfl 32 w.heap.size Tryz.underlying43 Tryz.uB _ rs rfl hO3 _ _ rfl df.row (by intro c hc;rw[List.mem_singleton.1 hc];rfl) hlk (by omega) ?_)
   intro v4 w4 bM aS kp4
   have HT2:Hid (bG 32 w.heap.size w4 v4 (rs++[⟨c.e,c.n,.slice ah c.l.length ch,c.l⟩])∧aD (rs++[⟨c.e,c.n,.slice ah c.l.length ch,c.l⟩])=aD (r.take (k+1))∧fC w.heap.size w4 (rs++[⟨c.e,c.n,.slice ah c.l.length ch,c.l⟩])):=
    ⟨bM,ars HE.out HCK.out rfl,(HP.out.gq kp4).snoc (asn.gq kp4 (by decide))⟩
   have dF:=bP.trans aS
   clear bM kp4 asn df hO3 HE HP bP aS hlk
   go_wp2
   go_roundw
   case rel=>exact⟨k+1,_,by omega,by go_num,by rw[List.length_append,hrl];rfl,HT2,dF⟩
   case measure=>simp[intOf];omega
  ·have hlt':¬(k:Int)<n:=by omega
   have HE:Hid (aD rs=aD r):=hide (by rw[HT.out.2.1,List.take_of_length_le (by have:=HN.out;omega)])
   go_wp2
   go_ret
   exact⟨_,rfl,rs,HT.out.1,HE.out,HT.out.2.2,aF⟩
theorem abP {w:World}{b o:Nat}{r:List Cw}(h:∀i c,r[i]? =some c→w.cell? ⟨b,o+i*3,none⟩=some (.int .i64 c.e)∧w.cell? ⟨b,o+i*3+1,none⟩=some (.int .i64 c.n)∧w.cell? ⟨b,o+i*3+2,none⟩=some c.v){w':World}{base:Nat}(hb:Below base w w')(hB:b<base){k:Nat}{c:Cw}(hc:r[k]? =some c):
  w'.cell? ⟨b,o+k*3,none⟩=some (.int .i64 c.e)∧w'.cell? ⟨b,o+k*3+1,none⟩=some (.int .i64 c.n)∧w'.cell? ⟨b,o+k*3+2,none⟩=some c.v:=by
 obtain⟨e0,e1,e2⟩:=h k c hc
 exact⟨(hb.cell (p:=⟨b,o+k*3,none⟩) hB).trans e0,(hb.cell (p:=⟨b,o+k*3+1,none⟩) hB).trans e1,(hb.cell (p:=⟨b,o+k*3+2,none⟩) hB).trans e2⟩
def sameV:List Cm.Cv→List Cm.Cv→Bool
 |[],[]=>true
 |c::r,d::s=>nD c.e c.n c.l d.e d.n d.l&&sameV r s
 |_,_=>false
theorem xW {e n e' n':Int}{l l':List Bm.Ov}:nD e n l e' n' l'=true↔e=e'∧n=n'∧l=l':=by
 simp[nD,Bm.mi]
theorem pF:∀{r s:List Cm.Cv},sameV r s=true↔r=s
 |[],[]=>by simp[sameV]
 |[],_::_=>by simp[sameV]
 |_::_,[]=>by simp[sameV]
 |⟨e,n,l⟩::r,⟨e',n',l'⟩::s=>by
  simp only[sameV,Bool.and_eq_true,xW,pF (r:=r) (s:=s)]
  simp[and_assoc]
theorem vM {r s:List Cm.Cv}(h:r≠s):sameV r s=false:=by
 cases hs:sameV r s
 ·rfl
 ·exact absurd (pF.1 hs) h
theorem wE (r:List Cm.Cv):sameV r r=true:=pF.2 rfl
theorem cK (r:List Cw):(aD r).length=r.length:=by unfold aD;rw[List.length_map]
theorem jG {w:World}{v:Value}{r:List Cw}(h:fJ w v r):0<r.length→∃b1 o1 c1,v=.slice (some ⟨b1,o1,none⟩) r.length c1∧b1<w.heap.size∧∀i c,r[i]? =some c→w.cell? ⟨b1,o1+i*3,none⟩=some (.int .i64 c.e)∧w.cell? ⟨b1,o1+i*3+1,none⟩=some (.int .i64 c.n)∧w.cell? ⟨b1,o1+i*3+2,none⟩=some c.v:=by
 intro hp
 obtain⟨b1,o1,c1,hv,_,_,hB,hc⟩:=h.1.full hp
 exact⟨b1,o1,c1,hv,hB,hc⟩
theorem l9 (r:List Cw)(k:Nat):(aD r)[k]? =(r[k]?).map Cw.c:=by unfold aD;rw[List.getElem?_map]
theorem abS (va vb:Value)(r s:List Cw)(w:World)(ha:fJ w va r)(hb:fJ w vb s)(fa:fF r)(fb:fF s)(hl:r.length≤140737488355328)(hl':s.length≤140737488355328):
  Calls Tryz.prog 34 #[va,vb] w fun E w'=>E=.returned (.bool (sameV (aD r) (aD s)))∧Below w.heap.size w w':=by
 obtain⟨ans,eT⟩:∃x,sameV (aD r) (aD s)=x:=⟨_,rfl⟩
 rw[eT]
 have HA:=hide eT
 clear eT
 obtain⟨a1,p1,hva,_,_⟩:=ha.1.shape
 obtain⟨a2,p2,hvb,_,_⟩:=hb.1.shape
 by_cases hne:r.length=s.length
 ·have C1:=hide (jG ha)
  have C2:=hide (jG hb)
  have I1:=hide ha.2
  have I2:=hide hb.2
  have F1:=hide fa
  have F2:=hide fb
  have HL:=hide hne
  have ht:((r.length:Int) !=(s.length:Int))=false:=by simp;omega
  subst hva hvb
  generalize hn:r.length=n at*
  generalize hm:s.length=m at*
  have HN:=hide hn
  have HM:=hide hm
  clear ha hb fa fb hne hn hm
  go_enter Tryz.func34,Tryz.ntmps34
  go_wp2
  go_loopw [5] (fun i wr=>∃(k:Nat),k≤n∧i=.int .i64 k∧Hid ((aD r).take k=(aD s).take k)∧Below w.heap.size w wr) (fun i _=>n-(intOf i).toNat)
  case atStart=>exact⟨0,by omega,rfl,hide rfl,Below.refl _ _⟩
  case round=>
   obtain⟨k,hk,rfl,HT,aF⟩:=hrel
   have sz:=aF.size
   by_cases hlt:k<n
   ·obtain⟨b1,o1,c1,hv1,hB1,hc1⟩:=C1.out (by have:=HN.out;omega)
    obtain⟨b2,o2,c2,hv2,hB2,hc2⟩:=C2.out (by have:=HM.out;have:=HL.out;omega)
    simp only[Value.slice.injEq,true_and]at hv1 hv2
    obtain⟨rfl,rfl⟩:=hv1
    obtain⟨rfl,rfl⟩:=hv2
    have hkr:k<r.length:=by have:=HN.out;omega
    have hks:k<s.length:=by have:=HM.out;have:=HL.out;omega
    obtain⟨c,hc⟩:∃c,r[k]? =some c:=⟨r[k],List.getElem?_eq_getElem hkr⟩
    obtain⟨d,hd⟩:∃d,s[k]? =some d:=⟨s[k],List.getElem?_eq_getElem hks⟩
    obtain⟨x0,x1,x2⟩:=abP hc1 aF hB1 hc
    obtain⟨y0,y1,y2⟩:=abP hc2 aF hB2 hd
    have i1:=(I1.out c (List.mem_of_getElem? hc)).1.below aF
    have i2:=(I2.out d (List.mem_of_getElem? hd)).1.below aF
    have l1:=(F1.out c (List.mem_of_getElem? hc)).2
    have l2:=(F2.out d (List.mem_of_getElem? hd)).2
    have hlt':(k:Int)<n:=by omega
    have hlt2:(k:Int)<m:=by have:=HL.out;omega
    have abk:b1<wr.heap.size:=by omega
    have hB2':b2<wr.heap.size:=by omega
    have X:=hide (fun W (h1:dm W c.v c.l) (h2:dm W d.v d.l)=>ajU c.e c.n _ c.l d.e d.n _ d.l W h1 h2 (by omega) (by omega))
    have HC:=hide hc
    have HD:=hide hd
    obtain⟨sm,hsm⟩:∃x,nD c.e c.n c.l d.e d.n d.l=x:=⟨_,rfl⟩
    rw[hsm]at X
    have HSM:=hide hsm
    clear hc hd hc1 hc2 l1 l2 hsm
    cases sm
    ·have hfo:=HA.out
     rw[vM fun e=>by
      have h1:(aD r)[k]? =some c.c:=by rw[l9,HC.out];rfl
      rw[e,l9,HD.out]at h1
      have h2:d.c=c.c:=by simpa using h1
      obtain⟨q1,q2,q3⟩:=axI h2
      have:=HSM.out
      rw[xW.2 ⟨q1.symm,q2.symm,q3.symm⟩]at this
      simp at this]at hfo
     subst hfo
     go_wp2_with fail
     go_region_held3 (fun w'=>(w'.cell? ⟨b1,o1+k*3,none⟩=some (.int .i64 c.e)∧w'.cell? ⟨b1,o1+k*3+1,none⟩=some (.int .i64 c.n)∧w'.cell? ⟨b1,o1+k*3+2,none⟩=some c.v)∧(w'.cell? ⟨b2,o2+k*3,none⟩=some (.int .i64 d.e)∧w'.cell? ⟨b2,o2+k*3+1,none⟩=some (.int .i64 d.n)∧w'.cell? ⟨b2,o2+k*3+2,none⟩=some d.v)) (first|exact⟨⟨x0,x1,x2⟩,⟨y0,y1,y2⟩⟩|exact⟨⟨g0,g1,g2⟩,⟨h0,h1,h2⟩⟩|go_keep)
      (first
      |(go_at_call 100;refine(X.out _ (i1.drewN 1) (i2.drewN 1)).mono ?_;rintro E w3 ⟨rfl,tQ⟩;have aH:Below wr.heap.size wr w3:=((Below.refl _ _).drew).trans tQ;have g0:=(aH.cell (p:=⟨b1,o1+k*3,none⟩) abk).trans x0;have g1:=(aH.cell (p:=⟨b1,o1+k*3+1,none⟩) abk).trans x1;have g2:=(aH.cell (p:=⟨b1,o1+k*3+2,none⟩) abk).trans x2;have h0:=(aH.cell (p:=⟨b2,o2+k*3,none⟩) hB2').trans y0;have h1:=(aH.cell (p:=⟨b2,o2+k*3+1,none⟩) hB2').trans y1;have h2:=(aH.cell (p:=⟨b2,o2+k*3+2,none⟩) hB2').trans y2;clear tQ))
     have nN:=aF.trans (aH.mono (by omega))
     go_wp2
     go_ret
     exact⟨rfl,nN⟩
    ·have HT2:Hid ((aD r).take (k+1)=(aD s).take (k+1)):=hide (by
      obtain⟨q1,q2,q3⟩:=xW.1 HSM.out
      rw[List.take_add_one,List.take_add_one,HT.out,l9,l9,HC.out,HD.out]
      simp[Cw.c,q1,q2,q3])
     go_wp2_with fail
     go_region_held3 (fun w'=>(w'.cell? ⟨b1,o1+k*3,none⟩=some (.int .i64 c.e)∧w'.cell? ⟨b1,o1+k*3+1,none⟩=some (.int .i64 c.n)∧w'.cell? ⟨b1,o1+k*3+2,none⟩=some c.v)∧(w'.cell? ⟨b2,o2+k*3,none⟩=some (.int .i64 d.e)∧w'.cell? ⟨b2,o2+k*3+1,none⟩=some (.int .i64 d.n)∧w'.cell? ⟨b2,o2+k*3+2,none⟩=some d.v)) (first|exact⟨⟨x0,x1,x2⟩,⟨y0,y1,y2⟩⟩|exact⟨⟨g0,g1,g2⟩,⟨h0,h1,h2⟩⟩|go_keep)
      (first
      |(go_at_call 100;refine(X.out _ (i1.drewN 1) (i2.drewN 1)).mono ?_;rintro E w3 ⟨rfl,tQ⟩;have aH:Below wr.heap.size wr w3:=((Below.refl _ _).drew).trans tQ;have g0:=(aH.cell (p:=⟨b1,o1+k*3,none⟩) abk).trans x0;have g1:=(aH.cell (p:=⟨b1,o1+k*3+1,none⟩) abk).trans x1;have g2:=(aH.cell (p:=⟨b1,o1+k*3+2,none⟩) abk).trans x2;have h0:=(aH.cell (p:=⟨b2,o2+k*3,none⟩) hB2').trans y0;have h1:=(aH.cell (p:=⟨b2,o2+k*3+1,none⟩) hB2').trans y1;have h2:=(aH.cell (p:=⟨b2,o2+k*3+2,none⟩) hB2').trans y2;clear tQ))
     have nN:=aF.trans (aH.mono (by omega))
     clear x0 x1 x2 y0 y1 y2 g0 g1 g2 h0 h1 h2 i1 i2 aH aF
     go_wp2
     go_roundw
     case rel=>exact⟨k+1,by omega,by go_num,HT2,nN⟩
     case measure=>simp[intOf];omega
   ·have hlt':¬(k:Int)<n:=by omega
    have hfo:=HA.out
    rw[pF.2 (by
     have h1:=HT.out
     rw[List.take_of_length_le (by rw[cK,HN.out];omega),List.take_of_length_le (by rw[cK,HM.out];have:=HL.out;omega)]at h1
     exact h1)]at hfo
    subst hfo
    clear HA
    go_wp2
    go_ret
    exact⟨rfl,aF⟩
 ·have ht:((r.length:Int) !=(s.length:Int))=true:=by simp;omega
  have hfo:=HA.out
  rw[vM fun e=>hne (by rw[←cK r,←cK s,e])]at hfo
  subst hfo hva hvb
  clear hne HA
  go_enter Tryz.func34,Tryz.ntmps34
  go_wp2
  go_ret
  exact⟨rfl,Below.refl _ _⟩
def nH (cs:List Cw):Prop:=∀(i j:Nat) (c d:Cw),i≠j→cs[i]? =some c→cs[j]? =some d→c.v.ownBlock=none∨c.v.ownBlock≠d.v.ownBlock
theorem bG.bz {e base base':Nat}{w:World}{v:Value}{l:List Cw}(h:bG e base w v l)(hb:base'≤base):bG e base' w v l:=by
 refine⟨h.1,?_⟩
 rcases h.2 with h|⟨g,cap,cur,hv,h1,r⟩
 ·exact .inl h
 ·exact .inr ⟨g,cap,cur,hv,by omega,r⟩
theorem kT {e base base' size n:Nat}{w:World}{v:Value}{xs:List Value}(h:w.ownsRow base e size v n xs)(hb:base'≤base):w.ownsRow base' e size v n xs:=by
 refine⟨h.1,?_⟩
 rcases h.2 with k|⟨g,cap,cur,hv,h1,r⟩
 ·exact .inl k
 ·exact .inr ⟨g,cap,cur,hv,Nat.le_trans hb h1,r⟩
theorem vH {cs:List Cw}{c:Cw}{N:Nat}(h:nH cs)(h1:∀d∈cs,∀b,d.v.ownBlock=some b→b<N)(h2:∀b,c.v.ownBlock=some b→N≤b):nH (cs++[c]):=by
 intro i j x y hij hx hy
 have hix:=(List.getElem?_eq_some_iff.1 hx).1
 have hjx:=(List.getElem?_eq_some_iff.1 hy).1
 rw[List.length_append,List.length_singleton]at hix hjx
 have key:∀u v:Value,(∀b d,u.ownBlock=some b→v.ownBlock=some d→b≠d)→u.ownBlock=none∨u.ownBlock≠v.ownBlock:=by
  intro u v h
  cases hu:u.ownBlock with
  |none=>exact .inl rfl
  |some b=>exact .inr fun e=>h b b hu e.symm rfl
 by_cases hi:i<cs.length
 ·rw[List.getElem?_append_left hi]at hx
  by_cases hj:j<cs.length
  ·rw[List.getElem?_append_left hj]at hy
   exact h i j x y hij hx hy
  ·have:j=cs.length:=by omega
   subst this
   simp at hy
   subst hy
   exact key _ _ fun b d hb hd=>by have:=h1 x (List.mem_of_getElem? hx) b hb;have:=h2 d hd;omega
 ·have:i=cs.length:=by omega
  subst this
  simp at hx
  subst hx
  rw[List.getElem?_append_left (by omega)]at hy
  exact key _ _ fun b d hb hd=>by have:=h2 b hb;have:=h1 y (List.mem_of_getElem? hy) d hd;omega
def yZ (F:Nat→Prop) (w:World) (v:Value) (zs:List Int):Prop:=Is .u8 w v zs∧∀b,v.ownBlock=some b→F b∧∃cs fr,w.heap[b]? =some (.cells cs 5 fr)
theorem yZ.nil (F:Nat→Prop)(w:World):yZ F w (.slice none 0 0) []:=⟨Is.nil _ _,fun b hb=>by simp[Value.ownBlock]at hb⟩
theorem yZ.agree {F:Nat→Prop}{w w':World}{v:Value}{zs:List Int}(h:yZ F w v zs)(ha:∀b,v.ownBlock=some b→w'.heap[b]? =w.heap[b]?):yZ F w' v zs:=
 ⟨h.1.agree ha,fun b hb=>⟨(h.2 b hb).1,by obtain⟨_,cs,fr,hc⟩:=h.2 b hb;exact⟨cs,fr,(ha b hb).trans hc⟩⟩⟩
structure Rv where
 file:Nat
 cut:Bool
 to:Nat
 v:Value
 bytes:List Int
def Rv.r (r:Rv):Dm.Rw:=⟨r.file,r.cut,r.to,r.bytes⟩
section
variable {p:Nat} {F G:Nat→Prop} {w w' w1 w2:World} {st st':Dm.Ds} {s s':Nat→Value} {wv wv':Value} {rs rs':List Rv}
end
def ask (st:Dm.Ds):Int:=if st.on then 0 else 6
theorem oJ {st:Dm.Ds}(h:st.on=true):ask st=0:=by simp[ask,h]
theorem nZ {st:Dm.Ds}(h:st.on=false):ask st=6:=by simp[ask,h]
def jq (r:Rv):Int:=if r.cut then 1 else 0
def jw (r:Rv):List Value:=[.int .i64 (jq r),.int .i64 r.file,r.v,.int .i64 r.to]
theorem kF (r:Rv):(jw r).length=4:=rfl
def dQ (st:Dm.Ds):Int:=if st.has then st.left else -1
def eZ (s:Nat→Value) (wv:Value) (on:Bool) (pR count:Int):Array Value:=#[.bool true,.bool on,.int .i64 pR,s 0,s 1,s 2,s 3,wv,.int .i64 count]
def FB (p:Nat) (s:Nat→Value) (wv:Value) (rs:List Rv) (g:Nat):Prop:=
 g=p∨(∃f,f<4∧(s f).ownBlock=some g)∨wv.ownBlock=some g∨∃r∈rs,r.v.ownBlock=some g
structure jm (w:World) (sure:Nat→List Int) (wait:List Dm.Rw) (s:Nat→Value) (wv:Value) (rs:List Rv):Prop where
 file:∀f,f<4→Own .u8 5 0 w (s f) (sure f)
 apart:∀f g,f<4→g<4→f≠g→∀b,(s f).ownBlock=some b→(s g).ownBlock≠some b
 row:gG jw 4 132 0 w wv rs
 raw:∀r∈rs,yZ (fun _=>True) w r.v r.bytes
 aa1:∀r∈rs,∀f,f<4→∀b,r.v.ownBlock=some b→(s f).ownBlock≠some b
 wait:rs.map Rv.r=wait
structure fM (p:Nat) (w:World) (st:Dm.Ds) (s:Nat→Value) (wv:Value) (rs:List Rv):Prop where
 blk:w.heap[p]? =some (.cells (eZ s wv st.on (dQ st) st.count) 75 (0,0))
 fP:jm w st.sure st.wait s wv rs
 ok:Dm.Ok st
def Pk (p:Nat) (F:Nat→Prop) (w:World) (st:Dm.Ds):Prop:=∃s wv rs,fM p w st s wv rs∧F=FB p s wv rs
section
variable {p:Nat} {F G:Nat→Prop} {w w' w1 w2:World} {st st':Dm.Ds} {sure azy:Nat→List Int} {wait aky:List Dm.Rw} {s s':Nat→Value} {wv wv':Value} {rs rs':List Rv}
theorem jm.agree (h:jm w sure wait s wv rs)(ha:∀g,FB p s wv rs g→w'.heap[g]? =w.heap[g]?):jm w' sure wait s wv rs:=
 ⟨fun f hf=>(h.file f hf).agree fun b hb=>ha b (.inr (.inl ⟨f,hf,hb⟩)),h.apart,h.row.agree fun b hb=>ha b (.inr (.inr (.inl hb))),fun r hr=>(h.raw r hr).agree fun b hb=>ha b (.inr (.inr (.inr ⟨r,hr,hb⟩))),h.aa1,h.wait⟩
theorem jm.xN (h:jm w sure wait s wv rs){cs:Array Value}{t:TypeId}{fr:Nat×Nat}(hp:w.heap[p]? =some (.cells cs t fr)):∀g,FB p s wv rs g→∃cs t fr,w.heap[g]? =some (.cells cs t fr):=by
 rintro g (rfl|⟨f,hf,hb⟩|hb|⟨r,hr,hb⟩)
 ·exact⟨_,_,_,hp⟩
 ·obtain⟨cs,hc⟩:=(h.file f hf).type hb
  exact⟨_,_,_,hc⟩
 ·obtain⟨cs,hc⟩:=h.row.type hb
  exact⟨_,_,_,hc⟩
 ·obtain⟨_,cs,fr,hc⟩:=(h.raw r hr).2 g hb
  exact⟨_,_,_,hc⟩
theorem jm.ne (h:jm w sure wait s wv rs){q:Nat}{cs:Array Value}{t:TypeId}{fr:Nat×Nat}(hq:w.heap[q]? =some (.cells cs t fr))(h1:t≠5)(h2:t≠132):
  (∀f,f<4→∀b,(s f).ownBlock=some b→b≠q)∧(∀b,wv.ownBlock=some b→b≠q)∧∀r∈rs,∀b,r.v.ownBlock=some b→b≠q:=by
 refine⟨fun f hf b hb e=>?_,fun b hb e=>?_,fun r hr b hb e=>?_⟩
 ·obtain⟨cs,hc⟩:=(h.file f hf).type hb
  rw[e,hq]at hc
  simp at hc
  exact h1 hc.2.1
 ·obtain⟨cs,hc⟩:=h.row.type hb
  rw[e,hq]at hc
  simp at hc
  exact h2 hc.2.1
 ·obtain⟨_,cs,fr,hc⟩:=(h.raw r hr).2 b hb
  rw[e,hq]at hc
  simp at hc
  exact h1 hc.2.1
theorem jm.but (h:jm w sure wait s wv rs){q:Nat}{cs:Array Value}{t:TypeId}{fr:Nat×Nat}(hq:w.heap[q]? =some (.cells cs t fr))(h1:t≠5)(h2:t≠132)(ha:∀b,b≠q→b<w.heap.size→w'.heap[b]? =w.heap[b]?):jm w' sure wait s wv rs:=by
 obtain⟨n1,n2,n3⟩:=h.ne hq h1 h2
 exact⟨fun f hf=>(h.file f hf).agree fun b hb=>ha b (n1 f hf b hb) ((h.file f hf).block b hb).2,h.apart,h.row.agree fun b hb=>ha b (n2 b hb) (h.row.lt b hb).2,fun r hr=>(h.raw r hr).agree fun b hb=>ha b (n3 r hr b hb) (by obtain⟨_,cs,fr,hc⟩:=(h.raw r hr).2 b hb;exact aA hc),h.aa1,h.wait⟩
theorem jm.len (h:jm w sure wait s wv rs):wait.length=rs.length:=by rw[←h.wait,List.length_map]
theorem fM.xN (h:fM p w st s wv rs):∀g,FB p s wv rs g→∃cs t fr,w.heap[g]? =some (.cells cs t fr):=h.fP.xN h.blk
theorem fM.lt (h:fM p w st s wv rs):∀g,FB p s wv rs g→g<w.heap.size:=fun g hg=>by
 obtain⟨cs,t,fr,hc⟩:=h.xN g hg
 exact aA hc
theorem fM.agree (h:fM p w st s wv rs)(ha:∀g,FB p s wv rs g→w'.heap[g]? =w.heap[g]?):fM p w' st s wv rs:=⟨(ha p (.inl rfl)).trans h.blk,h.fP.agree ha,h.ok⟩
theorem fM.below (h:fM p w st s wv rs)(hb:Below w.heap.size w w'):fM p w' st s wv rs:=h.agree fun g hg=>hb.block g (h.lt g hg)
theorem Pk.xN (h:Pk p F w st):∀g,F g→∃cs t fr,w.heap[g]? =some (.cells cs t fr):=by
 obtain⟨s,wv,rs,h,rfl⟩:=h
 exact h.xN
theorem Pk.lt (h:Pk p F w st):∀g,F g→g<w.heap.size:=by
 obtain⟨s,wv,rs,h,rfl⟩:=h
 exact h.lt
theorem Pk.agree (h:Pk p F w st)(ha:∀g,F g→w'.heap[g]? =w.heap[g]?):Pk p F w' st:=by
 obtain⟨s,wv,rs,h,rfl⟩:=h
 exact⟨s,wv,rs,h.agree ha,rfl⟩
theorem Pk.below (h:Pk p F w st)(hb:Below w.heap.size w w'):Pk p F w' st:=h.agree fun g hg=>hb.block g (h.lt g hg)
theorem Pk.out (h:Pk p F w st)(ho:Out G w w')(hd:∀g,F g→¬G g):Pk p F w' st:=h.agree fun g hg=>ho.block g (h.lt g hg) (hd g hg)
def aP (p:Nat) (F:Nat→Prop) (w w':World) (st':Dm.Ds):Prop:=∃F',Pk p F' w' st'∧Out F w w'∧∀g,F' g→F g∨w.heap.size≤g
theorem aP.trans {F1:Nat→Prop}(ho:Out F w w1)(hs:∀g,F1 g→F g∨w.heap.size≤g)(k:aP p F1 w1 w2 st'):aP p F w w2 st':=by
 obtain⟨F2,h1,h2,h3⟩:=k
 refine⟨F2,h1,ho.trans h2 hs,fun g hg=>?_⟩
 rcases h3 g hg with h|h
 ·exact hs g h
 ·exact .inr (Nat.le_trans ho.size h)
theorem aP.same (h:Pk p F w st)(hb:Below w.heap.size w w'):aP p F w w' st:=⟨F,h.below hb,Out.of_below hb,fun g hg=>.inl hg⟩
theorem aP.pre (hb:Below w.heap.size w w1)(h:aP p F w1 w2 st'):aP p F w w2 st':=h.trans (Out.of_below hb) fun g hg=>.inl hg
theorem fM.put {cs:Array Value}(hblk:w.heap[p]? =some (.cells cs 75 (0,0)))(j:Nat)(u:Value)(hc:cs.setIfInBounds j u=eZ s' wv' st'.on (dQ st') st'.count)(hcon:jm w st'.sure st'.wait s' wv' rs')(hok:Dm.Ok st'):
  fM p (w.setCell ⟨p,j,none⟩ u) st' s' wv' rs'∧Out (fun g=>g=p) w (w.setCell ⟨p,j,none⟩ u):=by
 refine⟨⟨by rw[aL hblk,hc],hcon.but hblk (by decide) (by decide) fun b hb _=>Below.heap_setCell _ _ _ _ hb,hok⟩,Out.aT (aC w ⟨p,j,none⟩ u) fun g hg=>by simp at hg;exact hg.symm⟩
theorem fM.set (h:fM p w st s wv rs)(j:Nat)(u:Value)(hc:(eZ s wv st.on (dQ st) st.count).setIfInBounds j u=eZ s wv st'.on (dQ st') st'.count)(h1:st'.sure=st.sure)(h2:st'.wait=st.wait):
  fM p (w.setCell ⟨p,j,none⟩ u) st' s wv rs∧Out (FB p s wv rs) w (w.setCell ⟨p,j,none⟩ u):=by
 obtain⟨r1,r2⟩:=fM.put (st':=st') (s':=s) (wv':=wv) (rs':=rs) h.blk j u hc (by rw[h1,h2];exact h.fP) (by have:=h.ok;unfold Dm.Ok at this⊢;rw[h1,h2];exact this)
 exact⟨r1,r2.mono fun g hg=>.inl (.inl hg)⟩
theorem aP.acP (h:fM p w' st' s wv rs)(ho:Out (FB p s wv rs) w w'):aP p (FB p s wv rs) w w' st':=⟨_,⟨s,wv,rs,h,rfl⟩,ho,fun g hg=>.inl hg⟩
theorem fM.cell (h:fM p w st s wv rs)(j:Nat){u:Value}(hj:(eZ s wv st.on (dQ st) st.count)[j]? =some u):w.cell? ⟨p,j,none⟩=some u:=ai h.blk j hj
theorem fM.c0 (h:fM p w st s wv rs):w.cell? ⟨p,0,none⟩=some (.bool true):=h.cell 0 rfl
theorem fM.c1 (h:fM p w st s wv rs):w.cell? ⟨p,1,none⟩=some (.bool st.on):=h.cell 1 rfl
theorem fM.c2 (h:fM p w st s wv rs):w.cell? ⟨p,2,none⟩=some (.int .i64 (dQ st)):=h.cell 2 rfl
theorem fM.c7 (h:fM p w st s wv rs):w.cell? ⟨p,7,none⟩=some wv:=h.cell 7 rfl
theorem fM.c8 (h:fM p w st s wv rs):w.cell? ⟨p,8,none⟩=some (.int .i64 st.count):=h.cell 8 rfl
theorem ako {cs:Array Value}{on:Bool}{pR count:Int}(h:w.heap[p]? =some (.cells (eZ s wv on pR count) 75 (0,0)))(f:Nat)(hf:f<4):w.cell? ⟨p,3+f,none⟩=some (s f):=by
 rcases(show f=0∨f=1∨f=2∨f=3 by omega)with rfl|rfl|rfl|rfl
 ·exact ai h 3 rfl
 ·exact ai h 4 rfl
 ·exact ai h 5 rfl
 ·exact ai h 6 rfl
theorem fM.cf (h:fM p w st s wv rs)(f:Nat)(hf:f<4):w.cell? ⟨p,3+f,none⟩=some (s f):=ako (cs:=#[]) h.blk f hf
theorem fM.kQ (h:fM p w st s wv rs)(j:Nat):w.frozen? ⟨p,j,none⟩=false:=az h.blk j
end
theorem uO (w:World):Calls Tryz.prog 8 #[] w fun E w'=>E=.returned (.pointer (some ⟨w.heap.size,0,none⟩))∧Pk w.heap.size (fun g=>g=w.heap.size) w' Dm.new∧Below w.heap.size w w':=by
 obtain⟨w1,hw1,bH,ax,hB⟩:=ay w #[.bool true,.bool true,.int .i64 (-1),.slice none 0 0,.slice none 0 0,.slice none 0 0,.slice none 0 0,.slice none 0 0,.int .i64 0] 75
 have D:Hid (Pk w.heap.size (fun g=>g=w.heap.size) w1 Dm.new):=⟨fun _=>.slice none 0 0,.slice none 0 0,[],⟨hB,⟨fun f _=>Own.nil _ _ _ _,fun f g _ _ _ b hb=>by simp[Value.ownBlock]at hb,gG.nil _ _ _ _ _,fun r hr=>by simp at hr,fun r hr=>by simp at hr,rfl⟩,trivial⟩,by funext g;simp[FB,Value.ownBlock]⟩
 clear hB
 go_enter Tryz.func8,Tryz.ntmps8
 go_wp2
 go_ret
 exact⟨rfl,D.out,ax⟩
theorem wG (p:Nat)(F:Nat→Prop)(w:World)(st:Dm.Ds)(h:Pk p F w st):Calls Tryz.prog 95 #[.pointer (some ⟨p,0,none⟩)] w fun E w'=>E=.returned (.bool true)∧w=w':=by
 obtain⟨s,wv,rs,h,rfl⟩:=h
 have c0:=h.c0
 clear h
 go_enter Tryz.func95,Tryz.ntmps95
 go_wp2
 go_ret
 exact⟨rfl,rfl⟩
theorem jk (p:Nat)(F:Nat→Prop)(w:World)(st:Dm.Ds)(h:Pk p F w st):Calls Tryz.prog 82 #[.pointer (some ⟨p,0,none⟩)] w fun E w'=>E=.returned (.int .i64 (ask st))∧w=w':=by
 have hn:=wG p F w st h
 obtain⟨s,wv,rs,h,rfl⟩:=h
 have c1:=h.c1
 have HN:=hide hn
 clear h hn
 cases hon:st.on
 ·rw[hon]at c1
  rw[nZ hon]
  clear hon
  go_enter Tryz.func82,Tryz.ntmps82
  go_wp2_with fail
  refine HN.out.mono ?_
  rintro E w1 ⟨rfl,rfl⟩
  go_wp2
  go_ret
  exact⟨rfl,rfl⟩
 ·rw[hon]at c1
  rw[oJ hon]
  clear hon
  go_enter Tryz.func82,Tryz.ntmps82
  go_wp2_with fail
  refine HN.out.mono ?_
  rintro E w1 ⟨rfl,rfl⟩
  go_wp2
  go_ret
  exact⟨rfl,rfl⟩
theorem qy (f:Int)(w:World):Calls Tryz.prog 102 #[.int .i64 f] w fun E w'=>E=.returned (.bool (Dm.iV f))∧w=w':=by
 unfold Dm.iV
 by_cases h0:0≤f
 ·by_cases h4:f<4
  ·rw[decide_eq_true h0,decide_eq_true h4]
   go_enter Tryz.func102,Tryz.ntmps102
   go_wp2
   go_ret
   exact⟨rfl,rfl⟩
  ·rw[decide_eq_true h0,decide_eq_false h4]
   go_enter Tryz.func102,Tryz.ntmps102
   go_wp2
   go_ret
   exact⟨rfl,rfl⟩
 ·rw[decide_eq_false h0,Bool.false_and]
  go_enter Tryz.func102,Tryz.ntmps102
  go_wp2
  go_ret
  exact⟨rfl,rfl⟩
theorem yE (p:Nat)(F:Nat→Prop)(w:World)(st:Dm.Ds)(h:Pk p F w st):Calls Tryz.prog 28 #[.pointer (some ⟨p,0,none⟩)] w fun E w'=>E=.returned (.bool st.on)∧w=w':=by
 have hn:=wG p F w st h
 obtain⟨s,wv,rs,h,rfl⟩:=h
 have c1:=h.c1
 have HN:=hide hn
 clear h hn
 go_enter Tryz.func28,Tryz.ntmps28
 go_wp2_with fail
 refine HN.out.mono ?_
 rintro E w1 ⟨rfl,rfl⟩
 go_wp2
 go_ret
 exact⟨rfl,rfl⟩
theorem anA (p:Nat)(F:Nat→Prop)(w:World)(st:Dm.Ds)(h:Pk p F w st):Calls Tryz.prog 33 #[.pointer (some ⟨p,0,none⟩)] w fun E w'=>E=.returned (.int .i64 st.count)∧w=w':=by
 have hn:=wG p F w st h
 obtain⟨s,wv,rs,h,rfl⟩:=h
 have c8:=h.c8
 have HN:=hide hn
 clear h hn
 go_enter Tryz.func33,Tryz.ntmps33
 go_wp2_with fail
 refine HN.out.mono ?_
 rintro E w1 ⟨rfl,rfl⟩
 go_wp2
 go_ret
 exact⟨rfl,rfl⟩
theorem agE (p:Nat)(F:Nat→Prop)(w:World)(st:Dm.Ds)(h:Pk p F w st):
  Calls Tryz.prog 16 #[.pointer (some ⟨p,0,none⟩)] w fun E w'=>E=.returned (.int .i64 (Dm.pull st).1)∧aP p F w w' (Dm.pull st).2:=by
 have ha:=jk p F w st h
 have HK:=hide h
 obtain⟨s,wv,rs,h,rfl⟩:=h
 have c1:=h.c1
 have f1:=h.kQ 1
 have R:=h.set (st':=Dm.iK st) 1 (.bool false) rfl rfl rfl
 have HR:Hid (aP p (FB p s wv rs) w (w.setCell ⟨p,1,none⟩ (.bool false)) (Dm.iK st)):=aP.acP R.1 R.2
 have HA:=hide ha
 clear h R ha
 unfold Dm.pull
 cases hon:st.on
 ·rw[if_pos rfl]
  have hk:=nZ hon
  clear hon
  go_enter Tryz.func16,Tryz.ntmps16
  go_wp2_with fail
  refine HA.out.mono ?_
  rintro E w1 ⟨rfl,rfl⟩
  rw[hk]
  go_wp2
  go_ret
  exact⟨rfl,aP.same HK.out (Below.refl _ _)⟩
 ·rw[if_neg (by simp)]
  have hk:=oJ hon
  clear hon
  go_enter Tryz.func16,Tryz.ntmps16
  go_wp2_with fail
  refine HA.out.mono ?_
  rintro E w1 ⟨rfl,rfl⟩
  rw[hk]
  go_wp2
  go_ret
  exact⟨rfl,HR.out⟩
theorem aqU (p:Nat)(F:Nat→Prop)(w:World)(st:Dm.Ds)(n:Int)(h:Pk p F w st):
  Calls Tryz.prog 25 #[.pointer (some ⟨p,0,none⟩),.int .i64 n] w fun E w'=>E=.returned (.int .i64 (Dm.pR st n).1)∧aP p F w w' (Dm.pR st n).2:=by
 have ha:=jk p F w st h
 have HK:=hide h
 obtain⟨s,wv,rs,h,rfl⟩:=h
 have c2:=h.c2
 have f2:=h.kQ 2
 have HA:=hide ha
 clear ha
 unfold Dm.pR
 cases hon:st.on
 ·rw[if_pos rfl]
  have hk:=nZ hon
  clear hon h
  go_enter Tryz.func25,Tryz.ntmps25
  go_wp2_with fail
  refine HA.out.mono ?_
  rintro E w1 ⟨rfl,rfl⟩
  rw[hk]
  go_wp2
  go_ret
  exact⟨rfl,aP.same HK.out (Below.refl _ _)⟩
 ·rw[if_neg (by simp)]
  have hk:=oJ hon
  by_cases hn:n<0
  ·rw[if_pos hn]
   clear hon h
   go_enter Tryz.func25,Tryz.ntmps25
   go_wp2_with fail
   refine HA.out.mono ?_
   rintro E w1 ⟨rfl,rfl⟩
   rw[hk]
   go_wp2
   go_ret
   exact⟨rfl,aP.same HK.out (Below.refl _ _)⟩
  ·rw[if_neg hn]
   have hcast:((n.toNat:Nat):Int)=n:=by omega
   have R:=h.set (st':={st with has:=true,left:=n.toNat}) 2 (.int .i64 n) (by simp[eZ,dQ,hcast]) rfl rfl
   have HR:Hid (aP p (FB p s wv rs) w (w.setCell ⟨p,2,none⟩ (.int .i64 n)) {st with has:=true,left:=n.toNat}):=aP.acP R.1 R.2
   have hs:{st with has:=true,left:=n.toNat}=({sure:=st.sure,wait:=st.wait,on:=true,has:=true,left:=n.toNat,count:=st.count}:Dm.Ds):=by rw[←hon]
   rw[hs]at HR
   clear h R hs hcast hon
   go_enter Tryz.func25,Tryz.ntmps25
   go_wp2_with fail
   refine HA.out.mono ?_
   rintro E w1 ⟨rfl,rfl⟩
   rw[hk]
   go_wp2
   go_ret
   exact⟨rfl,HR.out⟩
section
variable {base:Nat} {w:World} {F:Nat→Prop}
theorem bG.type {e:TypeId}{r:List Cw}{v:Value}(h:bG e base w v r){g:Nat}(hg:v.ownBlock=some g):∃cs,w.heap[g]? =some (.cells cs e (0,0)):=by
 rcases h.2 with⟨rfl,_⟩|⟨g',cap,cur,rfl,_,hh,_⟩
 ·simp[Value.ownBlock]at hg
 ·simp[Value.ownBlock]at hg
  subst hg
  exact⟨_,hh⟩
theorem aV.type {e:TypeId}{r:List Bm.Ov}{v:Value}(h:aV e base w v r){g:Nat}(hg:v.ownBlock=some g):∃cs,w.heap[g]? =some (.cells cs e (0,0)):=by
 rcases h.2 with⟨rfl,_⟩|⟨g',cap,cur,rfl,_,hh,_⟩
 ·simp[Value.ownBlock]at hg
 ·simp[Value.ownBlock]at hg
  subst hg
  exact⟨_,hh⟩
theorem Pk.ty {p:Nat}{st:Dm.Ds}(h:Pk p F w st):∀g,F g→∃cs t fr,w.heap[g]? =some (.cells cs t fr)∧(t=75∨t=5∨t=132):=by
 obtain⟨s,wv,rs,h,rfl⟩:=h
 rintro g (rfl|⟨f,hf,hb⟩|hb|⟨r,hr,hb⟩)
 ·exact⟨_,_,_,h.blk,.inl rfl⟩
 ·obtain⟨cs,hc⟩:=(h.fP.file f hf).type hb
  exact⟨_,_,_,hc,.inr (.inl rfl)⟩
 ·obtain⟨cs,hc⟩:=h.fP.row.type hb
  exact⟨_,_,_,hc,.inr (.inr rfl)⟩
 ·obtain⟨_,cs,fr,hc⟩:=(h.fP.raw r hr).2 g hb
  exact⟨_,_,_,hc,.inr (.inl rfl)⟩
end
theorem dm.out {F:Nat→Prop}{w w':World}{v:Value}{l:List Bm.Ov}(h:dm w v l)(ho:Out F w w')(hF:0<l.length→∀b,v.ownBlock=some b→¬F b):dm w' v l:=by
 rcases h with h|⟨ad,cap,hv,h1,h2,hc⟩
 ·exact .inl h
 ·refine .inr ⟨ad,cap,hv,h1,h2,fun j u hj=>?_⟩
  have hk:=hc j u hj
  have hl:0<l.length:=by
   rcases l with _|⟨x,l⟩
   ·simp[ocells]at hj
   ·simp
  have eb:(ad.add j).block=ad.block:=by unfold Addr.add;split<;>rfl
  have hlt:=World.block_lt_of_cell? _ _ hk
  rw[World.cell?_of_block (ho.block _ hlt (by rw[eb];exact hF hl _ (by rw[hv];rfl)))]
  exact hk
end Go.Proofs.YtpifdeoepppadaaGreatDoor
