/- Texts. -/
import Derived.Test.YtlmkaljjocflmaaGreatDoorBH4
import Derived.Test.YtlmkaljjocflmaaGreatDoorBH6
import Derived.Test.YtlmkaljjocflmaaGreatDoorBH5
import Derived.Test.YtlmkaljjocflmaaGreatDoorBZPh
set_option maxRecDepth 100000
set_option maxHeartbeats 8000000
set_option linter.unusedVariables false
open Go.Proofs.Tryz
namespace Go.Proofs.YtlmkaljjocflmaaGreatDoor
open Go.RowKit
theorem arz {rs:List Cw}{l:List Cm.Cv}(h:Rl.Good 0 l)(he:aD rs=l):∀c∈rs,Rn.chk c.e c.n c.l=0:=fun c hc=>by
 refine Rl.gI h c.c ?_
 rw[←he]
 exact List.mem_map.2 ⟨c,hc,rfl⟩
theorem auD {f u:Int}{l:List Bm.Ov}(h:Rn.chk f u l=0):dZ l∧l.length*40≤140737488351232∧In64 f∧In64 u∧l.length≤1024:=by
 obtain⟨h1,h2,h3,h4,h5⟩:=Rn.bJ h
 refine⟨fun o ho=>?_,by omega,⟨by omega,by omega⟩,⟨by omega,by omega⟩,h1⟩
 obtain⟨_,k2,k3,_⟩:=Om.gU (Rn.yP h5 o ho)
 have e1:o.k.size=o.k.data.toList.length:=rfl
 have e2:o.v.size=o.v.data.toList.length:=rfl
 have e3:o.kl=o.k.data.toList:=rfl
 have e4:o.vl=o.v.data.toList:=rfl
 rw[e3]at k2
 rw[e4]at k3
 omega
structure Rq (base:Nat) (w:World) (l:List Cm.Cv) (v:Value) (rs:List Cw):Prop where
 row:bD 273 base w v rs
 iH:gu base w rs
 is:aD rs=l
 good:Rl.Good 0 l
def QB (v:Value) (rs:List Cw) (g:Nat):Prop:=v.ownBlock=some g∨∃c∈rs,c.v.ownBlock=some g
section
variable {base base':Nat} {w w':World} {l:List Cm.Cv} {v:Value} {rs:List Cw} {F G:Nat→Prop}
theorem Rq.nil (base:Nat)(w:World):Rq base w [] (.slice none 0 0) []:=⟨bD.nil _ _ _,fun c hc=>by simp at hc,rfl,trivial⟩
theorem Rq.ty (h:Rq base w l v rs):∀g,QB v rs g→∃cs t,w.heap[g]? =some (.cells cs t (0,0))∧(t=273∨t=71):=by
 rintro g (hb|⟨c,hc,hb⟩)
 ·obtain⟨cs,e⟩:=h.row.type hb
  exact⟨_,_,e,.inl rfl⟩
 ·obtain⟨cs,e⟩:=(h.iH c hc).type hb
  exact⟨_,_,e,.inr rfl⟩
theorem Rq.lt (h:Rq base w l v rs):∀g,QB v rs g→g<w.heap.size:=fun g hg=>by
 obtain⟨cs,t,e,_⟩:=h.ty g hg
 exact ay e
theorem Rq.agree (h:Rq base w l v rs)(ha:∀g,QB v rs g→w'.heap[g]? =w.heap[g]?):Rq base w' l v rs:=
 ⟨dH h.row fun b hb=>ha b (.inl hb),fun c hc=>dH (h.iH c hc) fun b hb=>ha b (.inr ⟨c,hc,hb⟩),h.is,h.good⟩
theorem Rq.below (h:Rq base w l v rs)(hb:Below w.heap.size w w'):Rq base w' l v rs:=h.agree fun g hg=>hb.block g (h.lt g hg)
theorem Rq.ne (h:Rq base w l v rs){b:Nat}{cs:Array Value}{t:TypeId}{fr:Nat×Nat}(hb:w.heap[b]? =some (.cells cs t fr))(h1:t≠273)(h3:t≠71):¬QB v rs b:=by
 intro hg
 obtain⟨cs',t',e,ht⟩:=h.ty b hg
 rw[hb]at e
 simp only[Option.some.injEq,Obj.cells.injEq]at e
 obtain⟨_,e2,_⟩:=e
 subst e2
 rcases ht with e|e
 ·exact h1 e
 ·exact h3 e
theorem Rq.len (h:Rq base w l v rs):rs.length=l.length:=by rw[←h.is,aD,List.length_map]
theorem Rq.xw (h:Rq base w l v rs):rs.length≤1048576:=by rw[h.len];exact(Rl.fM h.good).1
structure tT (p q:Nat) (w:World) (l:List Cm.Cv) (bk:Bool) (v:Value) (rs:List Cw):Prop where
 blk:w.heap[p]? =some (.cells #[.pointer (some ⟨q,0,none⟩),.bool bk,v] 276 (0,0))
 log:Rq 0 w l v rs
def Rk (p q:Nat) (G:Nat→Prop) (w:World) (l:List Cm.Cv) (bk:Bool):Prop:=∃v rs,tT p q w l bk v rs∧G=fun g=>g=p∨QB v rs g
theorem tT.ty {p q:Nat}{bk:Bool}(h:tT p q w l bk v rs):∀g,g=p∨QB v rs g→∃cs t,w.heap[g]? =some (.cells cs t (0,0))∧(t=276∨t=273∨t=71):=by
 rintro g (rfl|hg)
 ·exact⟨_,_,h.blk,.inl rfl⟩
 ·obtain⟨cs,t,e,ht⟩:=h.log.ty g hg
  exact⟨cs,t,e,.inr ht⟩
theorem Rk.ty {p q:Nat}{bk:Bool}(h:Rk p q G w l bk):∀g,G g→∃cs t,w.heap[g]? =some (.cells cs t (0,0))∧(t=276∨t=273∨t=71):=by
 obtain⟨v,rs,h,rfl⟩:=h
 exact h.ty
theorem Rk.lt {p q:Nat}{bk:Bool}(h:Rk p q G w l bk):∀g,G g→g<w.heap.size:=fun g hg=>by
 obtain⟨cs,t,e,_⟩:=h.ty g hg
 exact ay e
theorem Rk.agree {p q:Nat}{bk:Bool}(h:Rk p q G w l bk)(ha:∀g,G g→w'.heap[g]? =w.heap[g]?):Rk p q G w' l bk:=by
 obtain⟨v,rs,h,rfl⟩:=h
 exact⟨v,rs,⟨(ha p (.inl rfl)).trans h.blk,h.log.agree fun g hg=>ha g (.inr hg)⟩,rfl⟩
theorem Rk.below {p q:Nat}{bk:Bool}(h:Rk p q G w l bk)(hb:Below w.heap.size w w'):Rk p q G w' l bk:=h.agree fun g hg=>hb.block g (h.lt g hg)
theorem Rk.out {p q:Nat}{bk:Bool}(h:Rk p q G w l bk)(ho:Out F w w')(hd:∀g,G g→¬F g):Rk p q G w' l bk:=h.agree fun g hg=>ho.block g (h.lt g hg) (hd g hg)
theorem Rk.good {p q:Nat}{bk:Bool}(h:Rk p q G w l bk):Rl.Good 0 l:=by
 obtain⟨v,rs,h,rfl⟩:=h
 exact h.log.good
theorem vD {p q q':Nat}{bk:Bool}{st:Dm.Ds}(h:Rk p q G w l bk)(k:Pk q' F w st):∀g,G g→¬F g:=by
 intro g hg hf
 obtain⟨cs,t,e,ht⟩:=h.ty g hg
 obtain⟨cs',t',fr,e',ht'⟩:=k.ty g hf
 rw[e]at e'
 simp only[Option.some.injEq,Obj.cells.injEq]at e'
 obtain⟨_,e2,_⟩:=e'
 subst e2
 rcases ht with rfl|rfl|rfl<;>rcases ht' with e|e|e<;>exact absurd e (by decide)
end
def RW (p q:Nat) (F:Nat→Prop) (w:World) (s:Rl.Rs):Prop:=∃F1 G1,Pk q F1 w s.d∧Rk p q G1 w s.l s.bk∧F=fun g=>F1 g∨G1 g
def jQ (p q:Nat) (F:Nat→Prop) (w w':World) (s':Rl.Rs):Prop:=∃F',RW p q F' w' s'∧Out F w w'∧∀g,F' g→F g∨w.heap.size≤g
section
variable {p q:Nat} {F G:Nat→Prop} {w w' w1 w2:World} {s s':Rl.Rs} {st':Dm.Ds}
theorem RW.lt (h:RW p q F w s):∀g,F g→g<w.heap.size:=by
 obtain⟨F1,G1,h1,h2,rfl⟩:=h
 rintro g (hg|hg)
 ·exact h1.lt g hg
 ·exact h2.lt g hg
theorem RW.agree (h:RW p q F w s)(ha:∀g,F g→w'.heap[g]? =w.heap[g]?):RW p q F w' s:=by
 obtain⟨F1,G1,h1,h2,rfl⟩:=h
 exact⟨F1,G1,h1.agree fun g hg=>ha g (.inl hg),h2.agree fun g hg=>ha g (.inr hg),rfl⟩
theorem RW.below (h:RW p q F w s)(hb:Below w.heap.size w w'):RW p q F w' s:=h.agree fun g hg=>hb.block g (h.lt g hg)
theorem RW.out (h:RW p q F w s)(ho:Out G w w')(hd:∀g,F g→¬G g):RW p q F w' s:=h.agree fun g hg=>ho.block g (h.lt g hg) (hd g hg)
theorem RW.good (h:RW p q F w s):Rl.Good 0 s.l:=by
 obtain⟨F1,G1,h1,h2,rfl⟩:=h
 exact h2.good
theorem jQ.trans {F1:Nat→Prop}(ho:Out F w w1)(hs:∀g,F1 g→F g∨w.heap.size≤g)(k:jQ p q F1 w1 w2 s'):jQ p q F w w2 s':=by
 obtain⟨F2,h1,h2,h3⟩:=k
 refine⟨F2,h1,ho.trans h2 hs,fun g hg=>?_⟩
 rcases h3 g hg with h|h
 ·exact hs g h
 ·exact .inr (Nat.le_trans ho.size h)
theorem jQ.pre (hb:Below w.heap.size w w1)(h:jQ p q F w1 w2 s'):jQ p q F w w2 s':=h.trans (Out.of_below hb) fun g hg=>.inl hg
theorem RW.disk {F1 G1:Nat→Prop}{l:List Cm.Cv}{bk:Bool}(h1:Pk q F1 w s.d)(h2:Rk p q G1 w l bk)(k:bN q F1 w w' st'):
  ∃F2,Pk q F2 w' st'∧Rk p q G1 w' l bk∧Out F1 w w'∧∀g,F2 g→F1 g∨w.heap.size≤g:=by
 obtain⟨F2,k1,k2,k3⟩:=k
 exact⟨F2,k1,h2.out k2 (vD h2 h1),k2,k3⟩
end
end Go.Proofs.YtlmkaljjocflmaaGreatDoor
namespace Go.Proofs.YtlmkaljjocflmaaGreatDoor
open Go.RowKit
open Bm (Ov)
theorem Tryz.nx0 (a b c:Int)(w:World):(Instr.index 252 (.agg #[.int .i64 a,.int .i64 b,.int .i64 c]) (.int .i64 0)).run prog w=.ok (.int .i64 a) w:=by kernel_rfl
theorem Tryz.nx1 (a b c:Int)(w:World):(Instr.index 252 (.agg #[.int .i64 a,.int .i64 b,.int .i64 c]) (.int .i64 1)).run prog w=.ok (.int .i64 b) w:=by kernel_rfl
theorem Tryz.nx2 (a b c:Int)(w:World):(Instr.index 252 (.agg #[.int .i64 a,.int .i64 b,.int .i64 c]) (.int .i64 2)).run prog w=.ok (.int .i64 c) w:=by kernel_rfl
theorem ym (z:Int)(h0:0≤z)(h1:z<9223372036854775808):IntKind.u64.wrap z=z:=by
 simp[IntKind.wrap,IntKind.bits,IntKind.signed]
 omega
def nmb (f u:Int) (m k:Nat):List Int:=match k with
 |0=>[]
 |1=>Vm.enc f.toNat
 |2=>Vm.enc f.toNat++Vm.enc u.toNat
 |_=>Vm.enc f.toNat++Vm.enc u.toNat++Vm.enc m
theorem as9 {f u:Int}{m:Nat}(hf:f≤1048576)(hu:u≤1048576)(hm:m≤1024)(k:Nat):(nmb f u m k).length≤9:=by
 have a:=Cm.jr hf
 have b:=Cm.jr hu
 have c:(Vm.enc m).length≤3:=Vm.uq 2 m (by omega)
 unfold nmb
 split
 ·simp
 ·omega
 ·rw[List.length_append];omega
 ·rw[List.length_append,List.length_append];omega
theorem asY (f u:Int)(l:List Ov):nmb f u l.length 3++Rn.jw l=Rn.encR f u l:=by simp[nmb,Rn.encR]
theorem aoR {l:List Ov}{k:Nat}{o:Ov}(h:l[k]? =some o):Rn.jw (l.take (k+1))=Rn.jw (l.take k)++Om.eT o.p o.kl o.vl:=by
 obtain⟨h1,rfl⟩:=List.getElem?_eq_some_iff.1 h
 rw[List.take_succ_eq_append_getElem h1,Rn.aol]
theorem aqy (e n:Int)(v:Value)(l:List Ov)(w:World)(h:bM w v l)(hf:dZ l)(hl:l.length≤140737488355328):
  Calls prog 338 #[cK e n v] w fun E w'=>∃vb,E=.returned (.tuple #[vb,.int .i64 (Rn.chk e n l)])∧Own .u8 5 w.heap.size w' vb (Rn.out e n l)∧Below w.heap.size w w':=by
 obtain⟨w1,hw1,aV,aj,hB⟩:=au w #[.int .i64 e,.int .i64 n,v] 273
 have c0:=ai hB 0 rfl
 have c1:=ai hB 1 rfl
 have c2:=ai hB 2 rfl
 have HM:=hide (ajO e n v l w1 (h.below aj) hf hl)
 have iR:=hide fun(h0:0<l.length)=>h.full h0
 unfold cK at HM⊢
 obtain⟨ao,cap,rfl,_,_⟩:=h.shape
 obtain⟨ch,hch⟩:∃x,Rn.chk e n l=x:=⟨_,rfl⟩
 rw[hch]at HM⊢
 have HA:=hide hch
 have HF:=hide hf
 obtain⟨m,hmm⟩:∃m,l.length=m:=⟨_,rfl⟩
 rw[hmm]at iR hl c2 hw1 HM⊢
 have HN:=hide hmm
 clear h hf hch hB hmm
 go_enter func338,ntmps338
 go_wp2_with fail
 refine HM.out.mono ?_
 rintro E w2 ⟨rfl,az⟩
 have dA:=az.size
 have aO:=aj.trans (az.mono aj.size)
 have d0:=(az.cell (p:=⟨w.heap.size,0,none⟩) (show w.heap.size<w1.heap.size by omega)).trans c0
 have d1:=(az.cell (p:=⟨w.heap.size,1,none⟩) (show w.heap.size<w1.heap.size by omega)).trans c1
 have d2:=(az.cell (p:=⟨w.heap.size,2,none⟩) (show w.heap.size<w1.heap.size by omega)).trans c2
 clear c0 c1 c2 HM az
 by_cases h0:ch=0
 ·subst h0
  have HZ:=hide (Rn.bJ HA.out)
  obtain⟨g1,g2,g3,g4,_⟩:=HZ.out
  rw[HN.out]at g1
  have hml:(m:Int)≤1024:=by omega
  have HNM:=hide (fun k=>as9 (f:=e) (u:=n) (m:=m) (by omega) g4 g1 k)
  go_wp2
  go_loopw [5,25] (fun bb kk wr=>∃k:Nat,k≤3∧kk=.int .i64 k∧Own .u8 5 w.heap.size wr bb (nmb e n m k)∧Below w2.heap.size w2 wr) (fun _ kk _=>4-(intOf kk).toNat)
  case atStart=>exact⟨0,by omega,rfl,Own.nil _ _ _ _,Below.refl _ _⟩
  case round=>
   obtain⟨k,hk,rfl,own,gP⟩:=hrel
   have szr:=gP.size
   have hln:=HNM.out k
   rcases(show k=0∨k=1∨k=2∨k=3 by omega)with rfl|rfl|rfl|rfl
   ·have hix:=Tryz.nx0 e n m
    have hwr:=ym e (by omega) (by omega)
    go_wp2_with fail
    refine(gL _ _ e _ own.is (by omega) (by omega) (by omega)).mono ?_
    rintro E w4 ⟨v4,rfl,bz,aL⟩
    have dx:Own .u8 5 w.heap.size w4 v4 (nmb e n m 1):=by simpa[nmb]using bz.bn (base':=w.heap.size) (by omega)
    have aS:=gP.trans (aL.mono (by omega))
    clear own bz aL
    go_wp2
    go_roundw
    case rel=>exact⟨1,by omega,rfl,dx,aS⟩
    case measure=>simp[intOf]
   ·have hix:=Tryz.nx1 e n m
    have hwr:=ym n (by omega) (by omega)
    go_wp2_with fail
    refine(gL _ _ n _ own.is (by omega) (by omega) (by omega)).mono ?_
    rintro E w4 ⟨v4,rfl,bz,aL⟩
    have dx:Own .u8 5 w.heap.size w4 v4 (nmb e n m 2):=bz.bn (base':=w.heap.size) (by omega)
    have aS:=gP.trans (aL.mono (by omega))
    clear own bz aL
    go_wp2
    go_roundw
    case rel=>exact⟨2,by omega,rfl,dx,aS⟩
    case measure=>simp[intOf]
   ·have hix:=Tryz.nx2 e n m
    have hwr:=ym m (by omega) (by omega)
    go_wp2_with fail
    refine(gL _ _ m _ own.is (by omega) (by omega) (by omega)).mono ?_
    rintro E w4 ⟨v4,rfl,bz,aL⟩
    have dx:Own .u8 5 w.heap.size w4 v4 (nmb e n m 3):=by simpa[nmb]using bz.bn (base':=w.heap.size) (by omega)
    have aS:=gP.trans (aL.mono (by omega))
    clear own bz aL
    go_wp2
    go_roundw
    case rel=>exact⟨3,by omega,rfl,dx,aS⟩
    case measure=>simp[intOf]
   ·have x2:=(gP.cell (p:=⟨w.heap.size,2,none⟩) (show w.heap.size<w2.heap.size by omega)).trans d2
    have aA6:=aO.trans (gP.mono aO.size)
    have hln3:=hln
    clear d0 d1 d2 gP aO hln
    go_wp2
    go_loopw [5,36] (fun bb kk ws=>∃k:Nat,k≤m∧kk=.int .i64 k∧Own .u8 5 w.heap.size ws bb (nmb e n m 3++Rn.jw (l.take k))∧Below w.heap.size w ws) (fun _ kk _=>m-(intOf kk).toNat)
    case atStart=>exact⟨0,by omega,rfl,by simpa[Rn.jw]using own,aA6⟩
    case round=>
     obtain⟨k,hk,rfl,agG,aI⟩:=hrel
     have sz:=aI.size
     by_cases hlt:k<m
     ·obtain⟨o,ho⟩:∃o,l[k]? =some o:=⟨l[k]'(by have:=HN.out;omega),by rw[List.getElem?_eq_getElem]⟩
      obtain⟨b1,o1,cq,dI,_,_,hB,hcell⟩:=iR.out (by omega)
      simp only[Value.slice.injEq,true_and]at dI
      obtain⟨rfl,rfl⟩:=dI
      obtain⟨c0,c1,c2⟩:=hcell k o ho
      have d0:=(aI.cell (p:=⟨b1,o1+k*3,none⟩) hB).trans c0
      have d1:=(aI.cell (p:=⟨b1,o1+k*3+1,none⟩) hB).trans c1
      have d2:=(aI.cell (p:=⟨b1,o1+k*3+2,none⟩) hB).trans c2
      have HO:=hide ho
      clear c0 c1 c2 ho hcell
      have hlt':(k:Int)<m:=by omega
      obtain⟨hk1,hv1⟩:=HF.out o (List.mem_of_getElem? HO.out)
      obtain⟨W1,hW1,szw,rq,B1⟩:=au wr #[.bool o.p,.string o.k,.string o.v] 71
      have e0:=ai B1 0 rfl
      have e1:=ai B1 1 rfl
      have e2:=ai B1 2 rfl
      have b01:Below w.heap.size w W1:=aI.trans (rq.mono sz)
      have aX:=agG.below rq
      have hoc:o.c=0:=Rn.yP HZ.out.2.2.2.2 o (List.mem_of_getElem? HO.out)
      clear B1 rq aI agG
      go_wp2_with fail
      refine(aoY (.slice none 0 0) [] o.p o.k o.v _ (Is.nil _ _) (by simp) hk1 hv1).mono ?_
      rintro E w5 ⟨v5,rfl,dx,aS⟩
      have hok:Om.chk o.p o.k.data.toList o.v.data.toList=0:=hoc
      rw[Om.ail hok,List.nil_append]at dx
      rw[hok]
      have eu:=aX.below aS
      have nX:Below w.heap.size w w5:=b01.trans (aS.mono b01.size)
      have zT:=nX.size
      have hle1:(Om.eT o.p o.k.data.toList o.v.data.toList).length≤51:=Om.uV hok
      have hle2:(Rn.jw (l.take k)).length≤51*1024:=by
       have:=Rn.af3 (l:=l.take k) fun q hq=>Rn.yP HZ.out.2.2.2.2 q (List.mem_of_mem_take hq)
       rw[List.length_take]at this
       omega
      have is5:=dx.is
      have hlen:((nmb e n m 3++Rn.jw (l.take k)).length+(Om.eT o.p o.k.data.toList o.v.data.toList).length)*1≤150000000000000:=by
       rw[List.length_append]
       omega
      clear aX dx aS b01 e0 e1 e2 d0 d1 d2 hok hoc
      go_wp2_with (at_builtin;refine df rfl (.tmp 45) (.tmp 46) 61 rfl .u8 5 w.heap.size 1 underlying61 Tryz.info5 (by decide) _ _ rfl eu _ _ rfl is5 hlen zT ?_)
      rintro v7 w7 jI iE _
      have vJ:Own .u8 5 w.heap.size w7 v7 (nmb e n m 3++Rn.jw (l.take (k+1))):=by
       rw[aoR HO.out]
       exact jI
      have qm:=nX.trans iE
      clear eu jI is5 iE nX
      go_wp2
      go_roundw
      case rel=>exact⟨v7,_,_,_,.int .i64 ((k:Int)+1),_,_,_,_,_,_,_,_,_,_,_,_,⟨k+1,by omega,by go_num,vJ,qm⟩,rfl⟩
      case measure=>simp[intOf];omega
     ·have hlt':¬(k:Int)<m:=by omega
      have OW:Hid (Own .u8 5 w.heap.size wr u5 (Rn.out e n l)):=hide (by
       rw[Rn.kX HA.out,←asY,HN.out]
       rw[List.take_of_length_le (by have:=HN.out;omega)]at agG
       exact agG)
      clear agG
      go_wp2
      go_ret2
      exact⟨_,rfl,OW.out,aI⟩
 ·have hne:(ch !=0)=true:=by simp[h0]
  have HO:Hid (Rn.out e n l=[]):=hide (Rn.tO (by rw[HA.out];exact h0))
  go_wp2
  go_ret2
  exact⟨_,rfl,by rw[HO.out];exact Own.nil _ _ _ _,aO⟩
end Go.Proofs.YtlmkaljjocflmaaGreatDoor
namespace Go.Proofs.YtlmkaljjocflmaaGreatDoor
open Go.RowKit Go.Shelf
attribute [local go_sem] Oper.semAt_some
def wgo (file:Nat):Dm.Ds→List (List Int)→Int×Dm.Ds
 |st,[]=>(0,st)
 |st,c::cs=>if Dm.off st then(6,Dm.lI st)else wgo file (Dm.push (Dm.dQ st) ⟨file,false,0,c⟩) cs
theorem alZ (file:Nat):∀(cs:List (List Int)) (st:Dm.Ds),(wgo file st cs).1=0∨(wgo file st cs).1=6
 |[],_=>.inl rfl
 |c::cs,st=>by
  rw[wgo]
  split
  ·exact .inr rfl
  ·exact alZ file cs _
theorem afd (file:Nat):∀(a:List (List Int)) (b:List (List Int)) (st:Dm.Ds),(wgo file st a).1=6→wgo file st (a++b)=wgo file st a
 |[],b,st,h=>by simp[wgo]at h
 |c::a,b,st,h=>by
  rw[List.cons_append,wgo]
  rw[wgo]at h⊢
  split
  ·rfl
  ·rename_i ho
   rw[if_neg ho]at h
   exact afd file a b _ h
theorem afg (file:Nat)(c:List Int):∀(a:List (List Int)) (st:Dm.Ds),(wgo file st a).1=0→wgo file st (a++[c])=if Dm.off (wgo file st a).2 then(6,Dm.lI (wgo file st a).2)else(0,Dm.push (Dm.dQ (wgo file st a).2) ⟨file,false,0,c⟩)
 |[],st,h=>rfl
 |d::a,st,h=>by
  rw[List.cons_append,wgo]
  rw[wgo]at h⊢
  split
  ·rename_i ho
   rw[if_pos ho]at h
   simp at h
  ·rename_i ho
   rw[if_neg ho]at h
   exact afg file c a _ h
theorem agS (file:Nat):∀(a:List (List Int)) (st:Dm.Ds),(wgo file st a).2.wait.length≤st.wait.length+a.length∧(wgo file st a).2.count≤st.count+a.length∧(wgo file st a).2.left≤st.left
 |[],st=>by simp[wgo]
 |c::a,st=>by
  rw[wgo]
  split
  ·simp[Dm.lI]
  ·obtain⟨h1,h2,h3⟩:=agS file a (Dm.push (Dm.dQ st) ⟨file,false,0,c⟩)
   have e1:(Dm.push (Dm.dQ st) ⟨file,false,0,c⟩).wait.length=st.wait.length+1:=by simp[Dm.push,Dm.dQ]
   have e2:(Dm.push (Dm.dQ st) ⟨file,false,0,c⟩).count=st.count+1:=rfl
   have e3:(Dm.push (Dm.dQ st) ⟨file,false,0,c⟩).left≤st.left:=by simp only[Dm.push,Dm.dQ];split<;>omega
   rw[List.length_cons]
   refine⟨by omega,by omega,by omega⟩
def pieces:Nat→List Int→List (List Int)
 |0,_=>[]
 |n+1,bs=>if bs=[]then []else bs.take 64::pieces n (bs.drop 64)
theorem aa7 (file:Nat):∀(n:Nat) (st:Dm.Ds) (bs:List Int),Dm.wrt file n st bs=wgo file st (pieces n bs)
 |0,st,bs=>rfl
 |n+1,st,bs=>by
  rw[Dm.wrt,pieces]
  by_cases h:bs=[]
  ·rw[if_pos h,if_pos h];rfl
  ·rw[if_neg h,if_neg h,wgo]
   split
   ·rfl
   ·exact aa7 file n _ _
def ck (bs:List Int) (i:Nat):List Int:=(bs.drop (i*64)).take 64
theorem xJ:∀(n:Nat) (bs:List Int),bs.length≤n→pieces n bs=(List.range (cnt bs.length)).map (ck bs)
 |0,bs,h=>by
  have:bs.length=0:=by omega
  rw[this]
  rfl
 |n+1,bs,h=>by
  rw[pieces]
  by_cases hb:bs=[]
  ·subst hb;rfl
  ·rw[if_neg hb]
   have h1:0<bs.length:=List.length_pos_iff.2 hb
   have e:cnt bs.length=cnt (bs.drop 64).length+1:=by rw[List.length_drop];unfold cnt;omega
   rw[e,List.range_succ_eq_map,List.map_cons,List.map_map,xJ n (bs.drop 64) (by rw[List.length_drop];omega)]
   congr 1
   apply List.map_congr_left
   intro i _
   simp only[ck,Function.comp,List.drop_drop]
   congr 2
   omega
theorem alV (L:Nat)(f:Nat→List Int):∀k,k≤cnt L→(up L k).map (fun x=>f x.1)=(List.range k).map f
 |0,_=>rfl
 |k+1,h=>by
  have h1:k*64<L:=by unfold cnt at h;omega
  rw[pO L k h1,List.map_append,alV L f k (by omega),List.range_succ,List.map_append]
  rfl
def jJ (bs:List Int) {L:Nat} (pre:List (Cx L)):List (List Int):=pre.map fun x=>ck bs x.1
theorem aoc (bs:List Int){L:Nat}(pre:List (Cx L))(x:Cx L):jJ bs (pre++[x])=jJ bs pre++[ck bs x.1]:=by simp[jJ]
theorem acw (bs:List Int):jJ bs (up bs.length (cnt bs.length))=pieces bs.length bs:=by
 unfold jJ
 rw[alV _ _ _ (Nat.le_refl _),xJ _ _ (Nat.le_refl _)]
theorem anF (L k:Nat):∀j,∃r,up L (k+j)=up L k++r
 |0=>⟨[],by simp⟩
 |j+1=>by
  obtain⟨r,hr⟩:=anF L k j
  exact⟨r++(if h:(k+j)*64<L then [⟨k+j,h⟩]else []),by rw[←Nat.add_assoc,up,hr,List.append_assoc]⟩
theorem yz (bs:List Int)(i:Nat):(ck bs i).length=min 64 (bs.length-i*64):=by simp[ck]
theorem azr {W:World}{b off cap:Nat}{bs:List Int}(h:Is .u8 W (.slice (some ⟨b,off,none⟩) bs.length cap) bs)(i:Nat)(hi:i*64<bs.length):Is .u8 W (xm b off bs.length i) (ck bs i):=by
 have hs:=h.sub (i*64) (i*64+min 64 (bs.length-i*64)) (by omega) (by omega)
 have e1:i*64+min 64 (bs.length-i*64)-i*64=min 64 (bs.length-i*64):=by omega
 rw[e1]at hs
 have e2:(bs.drop (i*64)).take (min 64 (bs.length-i*64))=ck bs i:=by
  unfold ck
  by_cases h1:64≤bs.length-i*64
  ·rw[Nat.min_eq_left h1]
  ·rw[Nat.min_eq_right (by omega),List.take_of_length_le (by rw[List.length_drop];omega),List.take_of_length_le (by rw[List.length_drop];omega)]
 rw[e2]at hs
 obtain⟨b',off',cap',hv,h1,h2,_,hc⟩:=hs.full (by rw[yz];omega)
 simp only[Value.slice.injEq,Option.some.injEq,Addr.mk.injEq,and_true]at hv
 obtain⟨⟨rfl,rfl⟩,hl,rfl⟩:=hv
 refine⟨hs.1,.inr ⟨⟨b,off+i*64,none⟩,min 64 (bs.length-i*64),by rw[yz];rfl,by rw[yz];exact Nat.le_refl _,by unfold maxLen;omega,fun j hj=>?_⟩⟩
 rw[gG]
 exact hc j hj
theorem KeepsOthers.ayj {F:Nat→Prop}{W W':World}(h:Out F W W')(hc:∀g,F g→∃cs t fr,W.heap[g]? =some (.cells cs t fr)):KeepsOthers W W':=
 ⟨h.size,fun k o hk ho=>by
  refine(h.block k (Array.getElem?_eq_some_iff.1 hk).1 fun hF=>?_).trans hk
  obtain⟨cs,t,fr,h1⟩:=hc k hF
  rw[hk]at h1
  cases h1
  simp[Obj.isCells]at ho⟩
def WI (p:Nat) (F:Nat→Prop) (W0:World) (st:Dm.Ds) (f:Nat) (bs:List Int) (e:Int) (G:Nat→Prop) (pre:List (Cx bs.length)) (W:World):Prop:=
 ∃F',Pk p F' W (wgo f st (jJ bs pre)).2∧(wgo f st (jJ bs pre)).1=e∧Out G W0 W∧∀g,F' g→F g∨W0.heap.size≤g
theorem WI.own {p:Nat}{F:Nat→Prop}{W0:World}{st:Dm.Ds}{f:Nat}{bs:List Int}{e:Int}{G:Nat→Prop}:OwnFrom W0.heap.size (WI p F W0 st f bs e G):=by
 rintro s W W' row ⟨F',hP,he,hO,hs⟩ hg hr
 refine⟨F',hP.agree fun g hgF=>?_,he,?_,hs⟩
 ·refine hg.block g (hP.lt g hgF) fun e1=>?_
  obtain⟨_,o,ho,hoc⟩:=hr g e1.symm
  obtain⟨cs,t,fr,h1⟩:=hP.wI g hgF
  rw[ho]at h1
  cases h1
  simp[Obj.isCells]at hoc
 ·exact hO.trans (Out.aM (F:=fun g=>row=some g) hg fun g h=>h) fun g h=>.inr (hr g h).1
theorem ahb {W W':World}(h:Below W.heap.size W W'):KeepsOthers W W':=⟨h.size,fun k o hk ho=>(h.block k (Array.getElem?_eq_some_iff.1 hk).1).trans hk⟩
theorem aqj (p:Nat)(F:Nat→Prop)(W0:World)(st:Dm.Ds)(f:Nat)(hf:f<4)(bs:List Int)(hF:∀g,F g→g<W0.heap.size)(pre:List (Cx bs.length))(x:Cx bs.length)(W:World)(hI:WI p F W0 st f bs 0 F pre W)(hlt:pre.length<cnt bs.length)
  (hw:st.wait.length+cnt bs.length≤1000000) (hl:st.left≤9223372036854775807) (hc:st.count+cnt bs.length<9223372036854775807) (v1:Value) (w1:World) (aX:Own .u8 5 W.heap.size w1 v1 (ck bs x.1)) (aj:Below W.heap.size W w1):
  Calls prog 148 #[.pointer (some ⟨p,0,none⟩),.agg #[.int .i64 0,.int .i64 f,v1,.int .i64 0]] w1 fun E w2=>E=.returned (.int .i64 (wgo f st (jJ bs (pre++[x]))).1)∧WI p F W0 st f bs (wgo f st (jJ bs (pre++[x]))).1 F (pre++[x]) w2∧KeepsOthers W w2∧∀B,B<W0.heap.size→¬F B→w2.heap[B]? =W.heap[B]? :=by
 obtain⟨F',hP,he,hO,hs⟩:=hI
 obtain⟨z1,z2,z3⟩:=agS f (jJ bs pre) st
 have hcl:(jJ bs pre).length=pre.length:=by simp[jJ]
 have hx:=x.2
 have hcx:=yz bs x.1
 refine(ajY p F' w1 _ ⟨f,false,0,v1,ck bs x.1⟩ (hP.below aj) ⟨aX.is,fun b hb=>⟨trivial,by obtain⟨cs,h1⟩:=aX.type hb;exact⟨cs,_,h1⟩⟩⟩ (fun b hb hFb=>by have h1:=(aX.block b hb).1;have h2:=hP.lt b hFb;omega) ⟨hf,fun h=>by simp[Rv.r]at h,fun _=>by show 1≤(ck bs x.1).length∧(ck bs x.1).length≤64;omega⟩ (by omega) (by omega) (by omega)).mono ?_
 rintro E w2 ⟨rfl,F2,h1,h2,h3⟩
 have hsn:=afg f (ck bs x.1) (jJ bs pre) st he
 rw[←aoc,ahE]at hsn
 have e1:(wgo f st (jJ bs (pre++[x]))).1=if Dm.off (wgo f st (jJ bs pre)).2 then 6 else 0:=by rw[hsn]
 have e2:(wgo f st (jJ bs (pre++[x]))).2=if Dm.off (wgo f st (jJ bs pre)).2 then Dm.lI (wgo f st (jJ bs pre)).2 else Dm.push (Dm.dQ (wgo f st (jJ bs pre)).2) ⟨f,false,0,ck bs x.1⟩:=by rw[hsn]
 have hO1:Out F W0 w1:=hO.trans (Out.of_below (F:=F) aj) fun g hg=>.inl hg
 refine⟨by rw[e1],⟨F2,by rw[e2];exact h1,rfl,hO1.trans h2 hs,fun g hg=>?_⟩,(ahb aj).trans (KeepsOthers.ayj h2 (hP.below aj).wI),fun B hB hFB=>?_⟩
 ·rcases h3 g hg with h|h|h
  ·exact hs g h
  ·exact .inr (Nat.le_trans hO1.size h)
  ·exact .inr (Nat.le_trans hO.size (aX.block g h).1)
 ·refine(h2.block B (Nat.lt_of_lt_of_le hB hO1.size) fun h=>?_).trans (aj.block B (Nat.lt_of_lt_of_le hB hO.size))
  rcases hs B h with h4|h4
  ·exact hFB h4
  ·omega
theorem Tryz.mixed:prog.follows .mixedOrders=true:=by kernel_rfl
theorem ak3 (n:Nat)(hn:1≤n)(Bs Bn b off cap:Nat)(bs:List Int)(sv:Value)(hsv:sv=.slice (some ⟨b,off,none⟩) bs.length cap∨(bs.length=0∧∃ao c,sv=.slice ao 0 c))(hcap:bs.length≤cap)(hcm:cap≤maxLen)(ry:bs.length≤140737488355328)(w:World)(hs:Bs<w.heap.size)(hb:Bn<w.heap.size)(cs:w.cell? ⟨Bs,0,none⟩=some sv)(cn:w.cell? ⟨Bn,0,none⟩=some (.int .i64 64)):
  SeqStopsK Fence.wide n prog 205 #[.pointer (some ⟨Bs,0,none⟩),.pointer (some ⟨Bn,0,none⟩)] (fun x:Cx bs.length=>#[xm b off bs.length x.1]) (Kc Bs Bn) (fun xs=>xs=up bs.length (cnt bs.length)) (fun pre=>∃k,k≤cnt bs.length∧pre=up bs.length k) (cnt bs.length) w:=fun l J Jx W hW hJ hJx hY h0=>
 alN n hn l Bs Bn b off bs.length cap sv hsv hcap hcm ry J Jx W hJ hY ((hW.cell (p:=⟨Bs,0,none⟩) hs).trans cs) ((hW.cell (p:=⟨Bn,0,none⟩) hb).trans cn) h0
theorem aAn {Bs Bn:Nat}{w:World}(h1:Bs<w.heap.size)(h2:Bn<w.heap.size)(W:World)(l:Nat)(o o':Obj)(hl:w.heap.size≤l)(h:W.heap[l]? =some o)(_:o.isCells=false)(_:o.isWalk=false):Kc Bs Bn W (W.putObj l o'):=
 ⟨World.putObj_heap_other (by omega),World.putObj_heap_other (by omega)⟩
theorem ac7 {p:Nat}{F:Nat→Prop}{w W0 W:World}{st:Dm.Ds}{f:Nat}{bs:List Int}{e:Int}{pre:List (Cx bs.length)}{G:Nat→Prop}(aI:Below w.heap.size w W0)(hF:∀g,F g→g<w.heap.size)(hG:∀g,G g→F g∨w.heap.size≤g)(h:WI p F W0 st f bs e G pre W){W2:World}(F2:Nat→Prop)(hO:Out F2 W W2)(hF2:∀g,F2 g→w.heap.size≤g)(hF3:∀g,F2 g→W0.heap.size≤g→∃o:Obj,W.heap[g]? =some o∧o.isCells=false):
  bN p F w W2 (wgo f st (jJ bs pre)).2:=by
 obtain⟨F',hP,he,hO1,hs⟩:=h
 refine⟨F',hP.agree fun g hg=>hO.block g (hP.lt g hg) fun h2=>?_,?_,fun g hg=>?_⟩
 ·rcases hs g hg with h3|h3
  ·have:=hF g h3;have:=hF2 g h2;omega
  ·obtain⟨o,h4,h5⟩:=hF3 g h2 h3
   obtain⟨cs,t,fr,h6⟩:=hP.wI g hg
   rw[h4]at h6
   cases h6
   simp[Obj.isCells]at h5
 ·have q1:Out F w W:=(Out.of_below (F:=F) aI).trans hO1 hG
  exact q1.trans hO fun g hg=>.inr (hF2 g hg)
 ·rcases hs g hg with h3|h3
  ·exact .inl h3
  ·exact .inr (Nat.le_trans aI.size h3)
theorem auO (p:Nat)(F:Nat→Prop)(w:World)(st:Dm.Ds)(f:Nat)(hf:f<4)(vb:Value)(bs:List Int)(h:Pk p F w st)(hon:st.on=true)(hb:Is .u8 w vb bs)(hbF:0<bs.length→∀b,vb.ownBlock=some b→¬F b)(ry:bs.length≤1000000)
  (hw:st.wait.length+cnt bs.length≤1000000) (hl:st.left≤9223372036854775807) (hc:st.count+cnt bs.length<9223372036854775807):
  Calls prog 70 #[.pointer (some ⟨p,0,none⟩),.int .i64 f,vb] w fun E w'=>E=.returned (.int .i64 (wgo f st (pieces bs.length bs)).1)∧bN p F w w' (wgo f st (pieces bs.length bs)).2:=by
 obtain⟨b,off,cap,hsv,hcap,hcm⟩:∃b off cap,(vb=.slice (some ⟨b,off,none⟩) bs.length cap∨(bs.length=0∧∃ao c,vb=.slice ao 0 c))∧bs.length≤cap∧cap≤maxLen:=by
  by_cases h0:0<bs.length
  ·obtain⟨b,off,cap,h1,h2,h3,_⟩:=hb.full h0
   exact⟨b,off,cap,.inl h1,h2,h3⟩
  ·obtain⟨ao,cap,h1,h2,h3⟩:=hb.shape
   have h4:bs.length=0:=by omega
   exact⟨0,0,cap,.inr ⟨h4,ao,cap,by rw[h1,h4]⟩,h2,h3⟩
 obtain⟨w1,hw1,aV,aj,B1⟩:=au w #[.pointer (some ⟨p,0,none⟩)] 39
 obtain⟨w2,hw2,dA,az,B2⟩:=au w1 #[.int .i64 f] 3
 obtain⟨w3,hw3,bO,aC,B3⟩:=au w2 #[.int .i64 0] 29
 obtain⟨w4,hw4,iK,aL,B4⟩:=au w3 #[vb] 61
 obtain⟨W0,iw,mO,aS,B5⟩:=au w4 #[.int .i64 64] 3
 rw[aV]at B2
 rw[Bq,aV]at az
 rw[show w2.heap.size=w.heap.size+2 by omega]at B3
 rw[Bq,show w2.heap.size=w.heap.size+2 by omega]at aC
 rw[show w3.heap.size=w.heap.size+3 by omega]at B4
 rw[Bq,show w3.heap.size=w.heap.size+3 by omega]at aL
 rw[show w4.heap.size=w.heap.size+4 by omega]at B5
 rw[Bq,show w4.heap.size=w.heap.size+4 by omega]at aS
 have bq:Below w.heap.size w w3:=(aj.trans (az.mono (by omega))).trans (aC.mono (by omega))
 have dh:Below w.heap.size w W0:=(bq.trans (aL.mono (by omega))).trans (aS.mono (by omega))
 have HR:=hide (nC p F w3 st (h.below bq))
 have HF:=hide (uK f w3)
 have hin:Dm.kS (f:Int)=true:=by simp[Dm.kS];omega
 rw[hin]at HF
 have hform:=hb.form
 have HCH:Hid (Calls prog 147 #[vb,.int .i64 64] w3 fun e w'=>e=.returned (.func (.func 205) #[] #[.pointer (some ⟨w.heap.size+3,0,none⟩),.pointer (some ⟨w.heap.size+4,0,none⟩)])∧W0=w'):=hide (by
  refine(anu vb hform w3).mono ?_
  rintro e w' ⟨rfl,rfl⟩
  rw[show w3.heap.size=w.heap.size+3 by omega]
  exact⟨rfl,by rw[hw4,iw]⟩)
 have hFw:=h.lt
 have I0:Hid (WI p F W0 st f bs 0 F [] W0):=hide ⟨F,h.below dh,rfl,Out.refl _ _,fun g hg=>.inl hg⟩
 have C0:w3.cell? ⟨w.heap.size,0,none⟩=some (.pointer (some ⟨p,0,none⟩)):=by
  have e1:=(az.block w.heap.size (by omega)).trans B1
  exact ai ((aC.block w.heap.size (by omega)).trans e1) 0 rfl
 have C1:w3.cell? ⟨w.heap.size+1,0,none⟩=some (.int .i64 f):=ai ((aC.block (w.heap.size+1) (by omega)).trans B2) 0 rfl
 have D0:W0.heap[w.heap.size]? =some (.cells #[.pointer (some ⟨p,0,none⟩)] 39 (0,0)):=(aS.block _ (by omega)).trans ((aL.block _ (by omega)).trans ((aC.block _ (by omega)).trans ((az.block _ (by omega)).trans B1)))
 have D1:W0.heap[w.heap.size+1]? =some (.cells #[.int .i64 f] 3 (0,0)):=(aS.block _ (by omega)).trans ((aL.block _ (by omega)).trans ((aC.block _ (by omega)).trans B2))
 have D2:W0.heap[w.heap.size+2]? =some (.cells #[.int .i64 0] 29 (0,0)):=(aS.block _ (by omega)).trans ((aL.block _ (by omega)).trans B3)
 have D3:W0.heap[w.heap.size+3]? =some (.cells #[vb] 61 (0,0)):=(aS.block _ (by omega)).trans B4
 have awT:∀W,Out F W0 W→Is .u8 W vb bs:=fun W hO=>by
  by_cases h0:0<bs.length
  ·have h1:=hb.lt h0
   refine(hb.below dh).agree fun g hg=>hO.block g (Nat.lt_of_lt_of_le (h1 g hg) dh.size) (hbF h0 g hg)
  ·refine⟨hb.1,?_⟩
   rcases hb.2 with h1|⟨ad,cp,h1,h2,h3,_⟩
   ·exact .inl h1
   ·exact .inr ⟨ad,cp,h1,h2,h3,fun i hi=>by omega⟩
 have HIB:=hide awT
 have asT:∀W,Out F W0 W→∀B,w.heap.size≤B→B<W0.heap.size→W.heap[B]? =W0.heap[B]? :=fun W hO B h1 h2=>hO.block B h2 fun h3=>by have:=hFw B h3;omega
 have HST:=hide asT
 have hk:=xW hon
 have SEQ:=hide (ak3 5 (by omega) (w.heap.size+3) (w.heap.size+4) b off cap bs vb hsv hcap hcm (by omega) W0 (by omega) (by omega) (ai D3 0 rfl) (ai B5 0 rfl))
 have HW:Hid (∀g,F g→g<w.heap.size):=hide hFw
 have hmx:=Tryz.mixed
 replace dA:w2.heap.size=w.heap.size+2:=by omega
 replace bO:w3.heap.size=w.heap.size+3:=by omega
 replace mO:W0.heap.size=w.heap.size+5:=by omega
 obtain⟨va,vn,vc,hvf⟩:=hform
 have HVF:=hide hvf
 have HVB:=hide hsv
 have DD:=hide (And.intro D0 (And.intro D1 D2))
 clear h hb hsv D3 B1 B2 B3 B4 B5 awT asT hFw hbF D0 D1 D2 hw4 iw iK aL aS hvf
 refine(callsIn_wide (n:=6)).1 ?_
 refine callsIn_of_wp_marks func70 rfl trivial ?_ rfl
 simp only[ntmps70,List.size_toArray,List.length_cons,List.length_nil,Nat.reduceAdd,Nat.reduceSub,Array.replicate_succ,Array.replicate_zero,List.push_toArray,List.append_toArray,List.nil_append,List.cons_append]
 gi_wp2_with fail
 refine⟨trivial,(callsIn_wide.2 HR.out).mono ?_⟩
 rintro E w' ⟨rfl,rfl⟩
 rw[hk]
 gi_wp2_with fail
 refine⟨trivial,(callsIn_wide.2 HF.out).mono ?_⟩
 rintro E w' ⟨rfl,rfl⟩
 gi_wp2_with fail
 refine⟨trivial,(callsIn_wide.2 HCH.out).mono ?_⟩
 rintro E w' ⟨rfl,rfl⟩
 clear hw1 hw2 hw3 C0 C1
 gi_wp2_with fail
 refine wpIn_rangeFunc_ownF rfl (by omega) (gf:=205) (lb:=#[.pointer (some ⟨w.heap.size+3,0,none⟩),.pointer (some ⟨w.heap.size+4,0,none⟩)]) rfl trivial (enters_of func205 (by kernel_rfl) rfl) SEQ.out Kc.trans (aAn (by omega) (by omega)) (Below.refl _ _) (fun _=>rfl)
  (WI p F W0 st f bs 0 F)
  (fun c pre W=>(c=.ret∧W.heap[w.heap.size+2]? =some (.cells #[.int .i64 6] 29 (0,0)))∧WI p F W0 st f bs 6 (fun g=>F g∨g=w.heap.size+2) pre W)
  WI.own
  (fun c=>OwnFrom.and (fun s A B row hs hg hr=>⟨hs.1,(hg.block (w.heap.size+2) (ay hs.2) fun e=>by have:=(hr _ e.symm).1;omega).trans hs.2⟩) WI.own)
  I0.out
  (fun x=>{tmps:=#[.pointer (some ⟨p,0,none⟩),.int .i64 f,vb,.pointer (some ⟨w.heap.size,0,none⟩),.pointer (some ⟨w.heap.size+1,0,none⟩),undef,.pointer (some ⟨w.heap.size+2,0,none⟩),.int .i64 0,xm b off bs.length x.1,undef,.pointer (some ⟨p,0,none⟩),.int .i64 0,.int .i64 0,.bool false,undef,.int .i64 f,.bool true,.bool false,vb,.func (.func 205) #[] #[.pointer (some ⟨w.heap.size+3,0,none⟩),.pointer (some ⟨w.heap.size+4,0,none⟩)],xm b off bs.length x.1,undef,undef,undef,undef,undef,undef,undef,undef,undef],defers:=[]}) ?assign ?body ?done ?stop
 case assign=>
  intro l x W K hK
  gi_wp2
  exact hK
 case body=>
  rintro l pre x W hI hlt
  have jU:Out F W0 W:=by
   obtain⟨_,_,_,h1,_⟩:=hI
   exact h1
  have g0:=(HST.out W jU w.heap.size (by omega) (by omega)).trans DD.out.1
  have g1:=(HST.out W jU (w.heap.size+1) (by omega) (by omega)).trans DD.out.2.1
  have eR:=(HST.out W jU (w.heap.size+2) (by omega) (by omega)).trans DD.out.2.2
  have x0:W.cell? ⟨w.heap.size,0,none⟩=some (.pointer (some ⟨p,0,none⟩)):=ai g0 0 rfl
  have x1:W.cell? ⟨w.heap.size+1,0,none⟩=some (.int .i64 f):=ai g1 0 rfl
  have hvb:vb=.slice (some ⟨b,off,none⟩) bs.length cap:=by
   rcases HVB.out with h1|⟨h1,_⟩
   ·exact h1
   ·have:=x.2;omega
  have isx:Is .u8 W (xm b off bs.length x.1) (ck bs x.1):=azr (by rw[←hvb];exact HIB.out W jU) x.1 x.2
  have hW0:=jU.size
  have HC:Hid (Calls prog 69 #[xm b off bs.length x.1] W.drew fun E w1=>∃v1,E=.returned v1∧Own .u8 5 W.heap.size w1 v1 (ck bs x.1)∧Below W.heap.size W w1∧w1.cell? ⟨w.heap.size,0,none⟩=some (.pointer (some ⟨p,0,none⟩))∧w1.cell? ⟨w.heap.size+1,0,none⟩=some (.int .i64 f)):=hide (by
   refine(pG _ _ W.drew (isx.drewN 1) (by rw[yz];omega)).mono ?_
   rintro E w1 ⟨v1,rfl,aX,aj⟩
   have ajz:Below W.heap.size W w1:=(below_drewN (Below.refl _ _) 1).trans aj
   exact⟨v1,rfl,aX,ajz,(ajz.cell (p:=⟨w.heap.size,0,none⟩) (by show w.heap.size<W.heap.size;omega)).trans x0,(ajz.cell (p:=⟨w.heap.size+1,0,none⟩) (by show w.heap.size+1<W.heap.size;omega)).trans x1⟩)
  have HDO:=hide (aqj p F W0 st f hf bs (fun g hg=>by have:=HW.out g hg;omega) pre x W hI hlt hw hl hc)
  have hd1:1≤6-1-1:=by omega
  have HeR:=hide eR
  have HOUT:=hide jU
  clear hI g0 g1 isx hvb eR jU
  rcases alZ f (jJ bs (pre++[x])) st with he|he
  ·have eR:=HeR.out
   rw[he]at HDO
   gi_wp2_with fail
   gi_region_with_o (first
    |(refine⟨trivial,?_⟩;gi_at_call 69;refine(CallsIn.inRound l (callsIn_wide.2 HC.out)).mono ?_;rintro E w1 ⟨v1,rfl,aX,aj,y0,y1⟩;obtain⟨a1,k1,hv1,_,_⟩:=aX.is.shape;subst hv1;have HOW:=hide aX)
    |(refine⟨trivial,?_⟩;gi_at_call 148;refine(CallsIn.inRound l (callsIn_wide.2 (HDO.out _ _ HOW.out aj))).mono ?_;rintro E w2 ⟨rfl,J,KO,KB⟩;have J:=hide J;have z2:=(KB (w.heap.size+2) (by omega) (fun h3=>by have:=HW.out _ h3;omega)).trans eR;have cz2:w2.cell? ⟨w.heap.size+2,0,none⟩=some (.int .i64 0):=ai z2 0 rfl;have fz2:=aA z2 0;have HKB:=hide KB;clear KB))
   all_goals gi_wp2
   all_goals
    have k1:=HKB.out (w.heap.size+3) (by omega) (fun h3=>by have:=HW.out _ h3;omega)
    have k2:=HKB.out (w.heap.size+4) (by omega) (fun h3=>by have:=HW.out _ h3;omega)
    exact⟨KO,⟨k1,k2⟩,J.out⟩
  ·have eR:=HeR.out
   rw[he]at HDO
   gi_wp2_with fail
   gi_region_with_o (first
    |(refine⟨trivial,?_⟩;gi_at_call 69;refine(CallsIn.inRound l (callsIn_wide.2 HC.out)).mono ?_;rintro E w1 ⟨v1,rfl,aX,aj,y0,y1⟩;obtain⟨a1,k1,hv1,_,_⟩:=aX.is.shape;subst hv1;have HOW:=hide aX)
    |(refine⟨trivial,?_⟩;gi_at_call 148;refine(CallsIn.inRound l (callsIn_wide.2 (HDO.out _ _ HOW.out aj))).mono ?_;rintro E w2 ⟨rfl,J,KO,KB⟩;have J:=hide J;have z2:=(KB (w.heap.size+2) (by omega) (fun h3=>by have:=HW.out _ h3;omega)).trans eR;have cz2:w2.cell? ⟨w.heap.size+2,0,none⟩=some (.int .i64 0):=ai z2 0 rfl;have fz2:=aA z2 0;have HKB:=hide KB;clear KB))
   all_goals gi_wp2
   all_goals
    refine⟨KO.trans (KeepsOthers.setCell _ _ _),⟨rfl,by rw[aF z2];rfl⟩,?_⟩
    obtain⟨F',j1,j2,j3,j4⟩:=J.out
    have hnF:¬F' (w.heap.size+2):=fun h3=>by
     rcases j4 _ h3 with h4|h4
     ·have:=HW.out _ h4;omega
     ·omega
    have so:Out (fun g=>g=w.heap.size+2) w2 (w2.setCell ⟨w.heap.size+2,0,none⟩ (.int .i64 6)):=Out.aM (ax w2 ⟨w.heap.size+2,0,none⟩ _) fun g hg=>by simp at hg;exact hg.symm
    exact⟨F',j1.out so (fun g hg h5=>hnF (h5▸hg)),j2,(j3.mono (G:=fun g=>F g∨g=w.heap.size+2) fun g hg=>.inl (.inl hg)).trans so fun g hg=>.inl (.inr hg),j4⟩
 case done=>
  rintro D xs W hD rfl hI hK
  have jU:Out F W0 W:=by
   obtain⟨_,_,_,h1,_⟩:=hI
   exact h1
  have eR:=(HST.out W jU (w.heap.size+2) (by omega) (by omega)).trans DD.out.2.2
  have cR:W.cell? ⟨w.heap.size+2,0,none⟩=some (.int .i64 0):=ai eR 0 rfl
  have fR:=aA eR 0
  have HI:=hide hI
  have HK:=hide hK
  have HeR:=hide eR
  clear hI eR
  gi_wp2
  have hK':=(KeepsOthers.setCell W ⟨w.heap.size+2,0,none⟩ (.int .i64 0)).same D _ HK.out rfl
  refine⟨by simp,.inl ⟨_,_,rfl,run_takeDeferred hK',?_⟩⟩
  have hc5:=cell_kept (World.cell?_setCell_same' W ⟨w.heap.size+2,0,none⟩ (.int .i64 0) (by rw[cR];rfl)) (grownBy_putObj' _ D (.deferred none)) (fun r e=>by cases e;exact⟨_,hK',rfl⟩)
  have hend:=ac7 dh HW.out (fun g hg=>.inl hg) HI.out (fun g=>g=w.heap.size+2∨g=D) ((Out.aM (F:=fun g=>g=w.heap.size+2∨g=D) (ax W ⟨w.heap.size+2,0,none⟩ (.int .i64 0)) fun g hg=>.inl (by simp at hg;exact hg.symm)).trans (Out.aM (F:=fun g=>g=w.heap.size+2∨g=D) (grownBy_putObj' _ D (.deferred none)) fun g hg=>.inr (by simp at hg;exact hg.symm)) fun g hg=>.inl hg) (fun g hg=>by rcases hg with h|h<;>omega) (fun g hg h2=>by
   rcases hg with h|h
   ·omega
   ·exact⟨_,by rw[h];exact HK.out,rfl⟩)
  have he:(wgo f st (pieces bs.length bs)).1=0:=by
   obtain⟨_,_,h1,_⟩:=HI.out
   rw[acw]at h1
   exact h1
  rw[acw]at hend
  refine⟨.int .i64 0,?_,by rw[he],hend⟩
  simp[results,results70,go_sem,hc5]
 case stop=>
  rintro D c pre W hD ⟨k,hk2,rfl⟩ ⟨⟨rfl,eR⟩,hI⟩ hK
  have HI:=hide hI
  have HK:=hide hK
  have cR:W.cell? ⟨w.heap.size+2,0,none⟩=some (.int .i64 6):=ai eR 0 rfl
  clear hI eR
  gi_wp2
  refine⟨by simp,.inl ⟨_,_,rfl,run_takeDeferred HK.out,?_⟩⟩
  have hc5:=cell_kept cR (grownBy_putObj' _ D (.deferred none)) (fun r e=>by cases e;exact⟨_,HK.out,rfl⟩)
  have hend:=ac7 dh HW.out (fun g hg=>by rcases hg with h|h;exact .inl h;exact .inr (by omega)) HI.out (fun g=>g=D) (Out.aM (F:=fun g=>g=D) (grownBy_putObj' _ D (.deferred none)) fun g hg=>by simp at hg;exact hg.symm) (fun g hg=>by omega) (fun g hg h2=>⟨.deferred (some []),by rw[hg];exact HK.out,rfl⟩)
  obtain⟨r,hr⟩:∃r,up bs.length (cnt bs.length)=up bs.length k++r:=by
   obtain⟨r,hr⟩:=anF bs.length k (cnt bs.length-k)
   rw[show k+(cnt bs.length-k)=cnt bs.length by omega]at hr
   exact⟨r,hr⟩
  have h6:(wgo f st (jJ bs (up bs.length k))).1=6:=by
   obtain⟨_,_,h1,_⟩:=HI.out
   exact h1
  have e1:wgo f st (pieces bs.length bs)=wgo f st (jJ bs (up bs.length k)):=by
   rw[←acw,hr]
   unfold jJ at h6⊢
   rw[List.map_append]
   exact afd f _ _ st h6
  refine⟨.int .i64 6,?_,by rw[e1,h6],by rw[e1];exact hend⟩
  simp[results,results70,go_sem,hc5]
end Go.Proofs.YtlmkaljjocflmaaGreatDoor
namespace Go.Proofs.YtlmkaljjocflmaaGreatDoor
open Go.RowKit Go.Shelf
attribute [local go_sem] Oper.semAt_some
theorem nL (p:Nat)(F:Nat→Prop)(w:World)(st:Dm.Ds)(file:Int)(vb:Value)(bs:List Int)(h:Pk p F w st)(hb:Is .u8 w vb bs)(hbF:0<bs.length→∀b,vb.ownBlock=some b→¬F b)(ry:bs.length≤1000000)
  (hw:st.wait.length+cnt bs.length≤1000000) (hl:st.left≤9223372036854775807) (hc:st.count+cnt bs.length<9223372036854775807):
  Calls prog 70 #[.pointer (some ⟨p,0,none⟩),.int .i64 file,vb] w fun E w'=>E=.returned (.int .i64 (Dm.write st file bs).1)∧bN p F w w' (Dm.write st file bs).2:=by
 unfold Dm.write
 obtain⟨w1,hw1,aV,aj,B1⟩:=au w #[.pointer (some ⟨p,0,none⟩)] 39
 obtain⟨w2,hw2,dA,az,B2⟩:=au w1 #[.int .i64 file] 3
 obtain⟨w3,hw3,bO,aC,B3⟩:=au w2 #[.int .i64 0] 29
 rw[aV]at B2
 rw[Bq,aV]at az
 rw[show w2.heap.size=w.heap.size+2 by omega]at B3
 rw[Bq,show w2.heap.size=w.heap.size+2 by omega]at aC
 have bq:Below w.heap.size w w3:=(aj.trans (az.mono (by omega))).trans (aC.mono (by omega))
 have HR:=hide (nC p F w3 st (h.below bq))
 have HF:=hide (uK file w3)
 have HK:=hide h
 replace dA:w2.heap.size=w.heap.size+2:=by omega
 replace bO:w3.heap.size=w.heap.size+3:=by omega
 have C0:w3.cell? ⟨w.heap.size,0,none⟩=some (.pointer (some ⟨p,0,none⟩)):=by
  have e1:=(az.block w.heap.size (by omega)).trans B1
  exact ai ((aC.block w.heap.size (by omega)).trans e1) 0 rfl
 have C1:w3.cell? ⟨w.heap.size+1,0,none⟩=some (.int .i64 file):=ai ((aC.block (w.heap.size+1) (by omega)).trans B2) 0 rfl
 have C2:w3.cell? ⟨w.heap.size+2,0,none⟩=some (.int .i64 0):=ai B3 0 rfl
 have f2:=aA B3 0
 have hend:∀e:Int,Bq w (w3.setCell ⟨w.heap.size+2,0,none⟩ (.int .i64 e))∧(w3.setCell ⟨w.heap.size+2,0,none⟩ (.int .i64 e)).cell? ⟨w.heap.size+2,0,none⟩=some (.int .i64 e):=fun e=>
  ⟨bq.grown (ax w3 ⟨w.heap.size+2,0,none⟩ _) (by omega) fun k hk=>by simp at hk;omega,ai (aF B3 0 (.int .i64 e)) 0 (by simp)⟩
 have HE:=hide hend
 cases hon:st.on
 ·rw[if_pos rfl]
  have hk:=zf hon
  clear h hon hend B1 B2 B3
  refine(callsIn_wide (n:=6)).1 ?_
  refine callsIn_of_wp_marks func70 rfl trivial ?_ rfl
  simp only[ntmps70,List.size_toArray,List.length_cons,List.length_nil,Nat.reduceAdd,Nat.reduceSub,Array.replicate_succ,Array.replicate_zero,List.push_toArray,List.append_toArray,List.nil_append,List.cons_append]
  gi_wp2_with fail
  refine⟨trivial,(callsIn_wide.2 HR.out).mono ?_⟩
  rintro E w' ⟨rfl,rfl⟩
  rw[hk]
  gi_wp2
  obtain⟨b6,c6⟩:=HE.out 6
  refine⟨.int .i64 6,?_,rfl,bN.same HK.out b6⟩
  simp[results,results70,go_sem,c6]
 ·rw[if_neg (by simp)]
  have hk:=xW hon
  cases hin:Dm.kS file
  ·rw[if_pos rfl]
   rw[hin]at HF
   clear h hon hend B1 B2 B3 hin
   refine(callsIn_wide (n:=6)).1 ?_
   refine callsIn_of_wp_marks func70 rfl trivial ?_ rfl
   simp only[ntmps70,List.size_toArray,List.length_cons,List.length_nil,Nat.reduceAdd,Nat.reduceSub,Array.replicate_succ,Array.replicate_zero,List.push_toArray,List.append_toArray,List.nil_append,List.cons_append]
   gi_wp2_with fail
   refine⟨trivial,(callsIn_wide.2 HR.out).mono ?_⟩
   rintro E w' ⟨rfl,rfl⟩
   rw[hk]
   gi_wp2_with fail
   refine⟨trivial,(callsIn_wide.2 HF.out).mono ?_⟩
   rintro E w' ⟨rfl,rfl⟩
   gi_wp2
   obtain⟨b6,c6⟩:=HE.out 2
   refine⟨.int .i64 2,?_,rfl,bN.same HK.out b6⟩
   simp[results,results70,go_sem,c6]
  ·rw[if_neg (by simp)]
   obtain⟨f,hf,rfl⟩:=ahG hin
   rw[Int.toNat_natCast,aa7]
   exact auO p F w st f hf vb bs h hon hb hbF ry hw hl hc
end Go.Proofs.YtlmkaljjocflmaaGreatDoor
namespace Go.Proofs.YtlmkaljjocflmaaGreatDoor
open Go.RowKit
def Big (t u:Nat) (st:Dm.Ds):Prop:=Dm.Sz t u st∧st.left≤9223372036854775807
theorem Big.mono {t u t' u':Nat}{st:Dm.Ds}(h:Big t u st)(ht:t≤t')(hu:u≤u'):Big t' u' st:=
 ⟨⟨fun f=>Nat.le_trans (h.1.1 f) ht,Nat.le_trans h.1.2.1 hu,Nat.le_trans h.1.2.2 hu⟩,h.2⟩
theorem tY:Big 0 0 Dm.new:=⟨⟨fun f=>by simp[Dm.new,Dm.gH],by simp[Dm.new],by simp[Dm.new]⟩,by simp[Dm.new]⟩
theorem agA {t u:Nat}{st:Dm.Ds}(h:Big t u st):Big t u (Dm.lI st):=h
theorem agn {t u:Nat}{st:Dm.Ds}(h:Big t u st):Big t (u+1) (Dm.dQ st):=
 ⟨⟨h.1.1,Nat.le_trans h.1.2.1 (by omega),by show st.count+1≤u+1;have:=h.1.2.2;omega⟩,by show(if st.has then st.left-1 else st.left)≤_;have:=h.2;split<;>omega⟩
theorem aql {t u:Nat}{st:Dm.Ds}(h:Big t u st)(r:Dm.Rw):Big (t+r.bytes.length) (u+1) (Dm.push (Dm.dQ st) r):=by
 have hb:=agn h
 refine⟨⟨fun f=>?_,?_,hb.1.2.2⟩,hb.2⟩
 ·have h1:=h.1.1 f
  show(st.sure f).length+Dm.gH (st.wait++[r])≤_
  rw[Dm.aaQ]
  simp only[Dm.gH]
  omega
 ·have h1:=h.1.2.1
  show(st.wait++[r]).length≤_
  rw[List.length_append]
  simp only[List.length_cons,List.length_nil]
  omega
theorem ah3 (file:Nat):∀(n:Nat) (bs:List Int) (t u:Nat) (st:Dm.Ds),Big t u st→Big (t+bs.length) (u+cnt bs.length) (Dm.wrt file n st bs).2
 |0,bs,t,u,st,h=>h.mono (by omega) (by omega)
 |n+1,bs,t,u,st,h=>by
  rw[Dm.wrt]
  by_cases hb:bs=[]
  ·rw[if_pos hb];exact h.mono (by omega) (by omega)
  ·rw[if_neg hb]
   have h1:0<bs.length:=List.length_pos_iff.2 hb
   split
   ·exact(agA h).mono (by omega) (by omega)
   ·have:=ah3 file n (bs.drop 64) _ _ _ (aql h ⟨file,false,0,bs.take 64⟩)
    refine this.mono ?_ ?_
    ·simp only[List.length_take,List.length_drop];omega
    ·rw[List.length_drop];unfold cnt;omega
theorem lJ {t u:Nat}{st:Dm.Ds}(h:Big t u st)(file:Int)(bs:List Int):Big (t+bs.length) (u+cnt bs.length) (Dm.write st file bs).2:=by
 unfold Dm.write
 split
 ·exact h.mono (by omega) (by omega)
 ·split
  ·exact h.mono (by omega) (by omega)
  ·exact ah3 _ _ _ _ _ _ h
theorem ali {t u:Nat}{st:Dm.Ds}(h:Big t u st):Big t u (Dm.flush st):=
 ⟨⟨fun f=>by
  have h1:=h.1.1 f
  have h2:=ahY st.sure st.wait f
  show(Dm.dof st.sure st.wait f).length+0≤t
  omega,Nat.zero_le _,h.1.2.2⟩,h.2⟩
theorem zZ {t u:Nat}{st:Dm.Ds}(h:Big t u st):Big t (u+1) (Dm.sync st).2:=by
 unfold Dm.sync
 split
 ·exact h.mono (by omega) (by omega)
 ·split
  ·exact(agA h).mono (by omega) (by omega)
  ·exact ali (agn h)
end Go.Proofs.YtlmkaljjocflmaaGreatDoor
