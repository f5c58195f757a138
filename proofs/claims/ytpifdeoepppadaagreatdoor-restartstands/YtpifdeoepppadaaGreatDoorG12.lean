/- Texts of one layer, one behind the other. -/
import Derived.Test.YtpifdeoepppadaaGreatDoorG10
import Derived.Test.YtpifdeoepppadaaGreatDoorG11
import Derived.Test.YtpifdeoepppadaaGreatDoorG8
import Derived.Laws.BytesArg
set_option maxRecDepth 100000
set_option maxHeartbeats 8000000
namespace Go.Proofs.YtpifdeoepppadaaGreatDoor
open Go.RowKit
set_option linter.unusedVariables false
theorem sI {rs:List Cw}{l:List Cm.Cv}(h:Rl.Good 0 l)(he:aD rs=l):∀c∈rs,Rn.aJ c.e c.n c.l=0:=fun c hc=>by
 refine Rl.gF h c.c ?_
 rw[←he]
 exact List.mem_map.2 ⟨c,hc,rfl⟩
theorem uR {f u:Int}{l:List Bm.Ov}(h:Rn.aJ f u l=0):fG l∧l.length*40≤140737488351232∧In64 f∧In64 u∧l.length≤1024:=by
 obtain⟨h1,h2,h3,h4,h5⟩:=Rn.bu h
 refine⟨fun o ho=>?_,by omega,⟨by omega,by omega⟩,⟨by omega,by omega⟩,h1⟩
 obtain⟨_,k2,k3,_⟩:=Om.fI (Rn.qD h5 o ho)
 have e1:o.k.size=o.k.data.toList.length:=rfl
 have e2:o.v.size=o.v.data.toList.length:=rfl
 have e3:o.kl=o.k.data.toList:=rfl
 have e4:o.vl=o.v.data.toList:=rfl
 rw[e3]at k2
 rw[e4]at k3
 omega
structure Rq (base:Nat) (w:World) (l:List Cm.Cv) (v:Value) (rs:List Cw):Prop where
 row:bG 122 base w v rs
 gT:fC base w rs
 is:aD rs=l
 good:Rl.Good 0 l
def QB (v:Value) (rs:List Cw) (g:Nat):Prop:=v.ownBlock=some g∨∃c∈rs,c.v.ownBlock=some g
section
variable {base base':Nat} {w w':World} {l:List Cm.Cv} {v:Value} {rs:List Cw} {F G:Nat→Prop}
theorem Rq.nil (base:Nat)(w:World):Rq base w [] (.slice none 0 0) []:=⟨bG.nil _ _ _,fun c hc=>by simp at hc,rfl,trivial⟩
theorem Rq.ty (h:Rq base w l v rs):∀g,QB v rs g→∃cs t,w.heap[g]? =some (.cells cs t (0,0))∧(t=122∨t=106):=by
 rintro g (hb|⟨c,hc,hb⟩)
 ·obtain⟨cs,e⟩:=h.row.type hb
  exact⟨_,_,e,.inl rfl⟩
 ·obtain⟨cs,e⟩:=(h.gT c hc).type hb
  exact⟨_,_,e,.inr rfl⟩
theorem Rq.lt (h:Rq base w l v rs):∀g,QB v rs g→g<w.heap.size:=fun g hg=>by
 obtain⟨cs,t,e,_⟩:=h.ty g hg
 exact aA e
theorem Rq.ge (h:Rq base w l v rs):∀g,QB v rs g→base≤g:=by
 rintro g (hb|⟨c,hc,hb⟩)
 ·exact(World.ownsRow.lt h.row g hb).1
 ·exact((h.gT c hc).block g hb).1
theorem Rq.agree (h:Rq base w l v rs)(ha:∀g,QB v rs g→w'.heap[g]? =w.heap[g]?):Rq base w' l v rs:=
 ⟨dE h.row fun b hb=>ha b (.inl hb),fun c hc=>dE (h.gT c hc) fun b hb=>ha b (.inr ⟨c,hc,hb⟩),h.is,h.good⟩
theorem Rq.below (h:Rq base w l v rs)(hb:Below w.heap.size w w'):Rq base w' l v rs:=h.agree fun g hg=>hb.block g (h.lt g hg)
theorem Rq.bz (h:Rq base w l v rs)(hb:base'≤base):Rq base' w l v rs:=⟨kT h.row hb,fun c hc=>(h.gT c hc).bz hb,h.is,h.good⟩
theorem Rq.ne (h:Rq base w l v rs){b:Nat}{cs:Array Value}{t:TypeId}{fr:Nat×Nat}(hb:w.heap[b]? =some (.cells cs t fr))(h1:t≠122)(h3:t≠106):¬QB v rs b:=by
 intro hg
 obtain⟨cs',t',e,ht⟩:=h.ty b hg
 rw[hb]at e
 simp only[Option.some.injEq,Obj.cells.injEq]at e
 obtain⟨_,e2,_⟩:=e
 subst e2
 rcases ht with e|e
 ·exact h1 e
 ·exact h3 e
theorem Rq.len (h:Rq base w l v rs):rs.length=l.length:=by rw[←h.is,aD,List.length_map]
theorem Rq.nA (h:Rq base w l v rs):rs.length≤1048576:=by rw[h.len];exact(Rl.eB h.good).1
theorem Rq.yL (h:Rq base w l v rs):fJ w v rs:=⟨h.row.row,fun c hc=>⟨(h.gT c hc).is,(uR (sI h.good h.is c hc)).2.2.1,(uR (sI h.good h.is c hc)).2.2.2.1⟩⟩
theorem Rq.fit (h:Rq base w l v rs):fF rs:=fun c hc=>⟨(uR (sI h.good h.is c hc)).1,(uR (sI h.good h.is c hc)).2.1⟩
structure xJ (p q:Nat) (w:World) (l:List Cm.Cv) (bk:Bool) (v:Value) (rs:List Cw):Prop where
 blk:w.heap[p]? =some (.cells #[.pointer (some ⟨q,0,none⟩),.bool bk,v] 179 (0,0))
 log:Rq 0 w l v rs
def Rk (p q:Nat) (G:Nat→Prop) (w:World) (l:List Cm.Cv) (bk:Bool):Prop:=∃v rs,xJ p q w l bk v rs∧G=fun g=>g=p∨QB v rs g
theorem xJ.ty {p q:Nat}{bk:Bool}(h:xJ p q w l bk v rs):∀g,g=p∨QB v rs g→∃cs t,w.heap[g]? =some (.cells cs t (0,0))∧(t=179∨t=122∨t=106):=by
 rintro g (rfl|hg)
 ·exact⟨_,_,h.blk,.inl rfl⟩
 ·obtain⟨cs,t,e,ht⟩:=h.log.ty g hg
  exact⟨cs,t,e,.inr ht⟩
theorem Rk.ty {p q:Nat}{bk:Bool}(h:Rk p q G w l bk):∀g,G g→∃cs t,w.heap[g]? =some (.cells cs t (0,0))∧(t=179∨t=122∨t=106):=by
 obtain⟨v,rs,h,rfl⟩:=h
 exact h.ty
theorem Rk.lt {p q:Nat}{bk:Bool}(h:Rk p q G w l bk):∀g,G g→g<w.heap.size:=fun g hg=>by
 obtain⟨cs,t,e,_⟩:=h.ty g hg
 exact aA e
theorem Rk.agree {p q:Nat}{bk:Bool}(h:Rk p q G w l bk)(ha:∀g,G g→w'.heap[g]? =w.heap[g]?):Rk p q G w' l bk:=by
 obtain⟨v,rs,h,rfl⟩:=h
 exact⟨v,rs,⟨(ha p (.inl rfl)).trans h.blk,h.log.agree fun g hg=>ha g (.inr hg)⟩,rfl⟩
theorem Rk.below {p q:Nat}{bk:Bool}(h:Rk p q G w l bk)(hb:Below w.heap.size w w'):Rk p q G w' l bk:=h.agree fun g hg=>hb.block g (h.lt g hg)
theorem Rk.out {p q:Nat}{bk:Bool}(h:Rk p q G w l bk)(ho:Out F w w')(hd:∀g,G g→¬F g):Rk p q G w' l bk:=h.agree fun g hg=>ho.block g (h.lt g hg) (hd g hg)
theorem Rk.good {p q:Nat}{bk:Bool}(h:Rk p q G w l bk):Rl.Good 0 l:=by
 obtain⟨v,rs,h,rfl⟩:=h
 exact h.log.good
theorem tT {p q q':Nat}{bk:Bool}{st:Dm.Ds}(h:Rk p q G w l bk)(k:Pk q' F w st):∀g,G g→¬F g:=by
 intro g hg hf
 obtain⟨cs,t,e,ht⟩:=h.ty g hg
 obtain⟨cs',t',fr,e',ht'⟩:=k.ty g hf
 rw[e]at e'
 simp only[Option.some.injEq,Obj.cells.injEq]at e'
 obtain⟨_,e2,_⟩:=e'
 subst e2
 rcases ht with rfl|rfl|rfl<;>rcases ht' with e|e|e<;>exact absurd e (by decide)
end
def RW (p q:Nat) (F:Nat→Prop) (w:World) (s:Rl.Rs):Prop:=∃F1 G1,Pk q F1 w s.d∧Rk p q G1 w s.l s.bk∧F=fun g=>F1 g∨G1 g
def ku (p q:Nat) (F:Nat→Prop) (w w':World) (s':Rl.Rs):Prop:=∃F',RW p q F' w' s'∧Out F w w'∧∀g,F' g→F g∨w.heap.size≤g
section
variable {p q:Nat} {F G:Nat→Prop} {w w' w1 w2:World} {s s':Rl.Rs} {st':Dm.Ds}
theorem RW.lt (h:RW p q F w s):∀g,F g→g<w.heap.size:=by
 obtain⟨F1,G1,h1,h2,rfl⟩:=h
 rintro g (hg|hg)
 ·exact h1.lt g hg
 ·exact h2.lt g hg
theorem RW.agree (h:RW p q F w s)(ha:∀g,F g→w'.heap[g]? =w.heap[g]?):RW p q F w' s:=by
 obtain⟨F1,G1,h1,h2,rfl⟩:=h
 exact⟨F1,G1,h1.agree fun g hg=>ha g (.inl hg),h2.agree fun g hg=>ha g (.inr hg),rfl⟩
theorem RW.below (h:RW p q F w s)(hb:Below w.heap.size w w'):RW p q F w' s:=h.agree fun g hg=>hb.block g (h.lt g hg)
theorem RW.out (h:RW p q F w s)(ho:Out G w w')(hd:∀g,F g→¬G g):RW p q F w' s:=h.agree fun g hg=>ho.block g (h.lt g hg) (hd g hg)
theorem RW.good (h:RW p q F w s):Rl.Good 0 s.l:=by
 obtain⟨F1,G1,h1,h2,rfl⟩:=h
 exact h2.good
theorem ku.trans {F1:Nat→Prop}(ho:Out F w w1)(hs:∀g,F1 g→F g∨w.heap.size≤g)(k:ku p q F1 w1 w2 s'):ku p q F w w2 s':=by
 obtain⟨F2,h1,h2,h3⟩:=k
 refine⟨F2,h1,ho.trans h2 hs,fun g hg=>?_⟩
 rcases h3 g hg with h|h
 ·exact hs g h
 ·exact .inr (Nat.le_trans ho.size h)
theorem ku.pre (hb:Below w.heap.size w w1)(h:ku p q F w1 w2 s'):ku p q F w w2 s':=h.trans (Out.of_below hb) fun g hg=>.inl hg
theorem RW.disk {F1 G1:Nat→Prop}{l:List Cm.Cv}{bk:Bool}(h1:Pk q F1 w s.d)(h2:Rk p q G1 w l bk)(k:aP q F1 w w' st'):
  ∃F2,Pk q F2 w' st'∧Rk p q G1 w' l bk∧Out F1 w w'∧∀g,F2 g→F1 g∨w.heap.size≤g:=by
 obtain⟨F2,k1,k2,k3⟩:=k
 exact⟨F2,k1,h2.out k2 (tT h2 h1),k2,k3⟩
end
end Go.Proofs.YtpifdeoepppadaaGreatDoor
namespace Go.Proofs.YtpifdeoepppadaaGreatDoor
open Go.RowKit
open Bm (Ov)
set_option linter.unusedVariables false
theorem Tryz.nx0 (a b c:Int)(w:World):(Instr.index 239 (.agg #[.int .i64 a,.int .i64 b,.int .i64 c]) (.int .i64 0)).run Tryz.prog w=.ok (.int .i64 a) w:=by kernel_rfl
theorem Tryz.nx1 (a b c:Int)(w:World):(Instr.index 239 (.agg #[.int .i64 a,.int .i64 b,.int .i64 c]) (.int .i64 1)).run Tryz.prog w=.ok (.int .i64 b) w:=by kernel_rfl
theorem Tryz.nx2 (a b c:Int)(w:World):(Instr.index 239 (.agg #[.int .i64 a,.int .i64 b,.int .i64 c]) (.int .i64 2)).run Tryz.prog w=.ok (.int .i64 c) w:=by kernel_rfl
theorem xY (z:Int)(h0:0≤z)(h1:z<9223372036854775808):IntKind.u64.wrap z=z:=by
 simp[IntKind.wrap,IntKind.bits,IntKind.signed]
 omega
def nmb (f u:Int) (m k:Nat):List Int:=match k with
 |0=>[]
 |1=>Vm.enc f.toNat
 |2=>Vm.enc f.toNat++Vm.enc u.toNat
 |_=>Vm.enc f.toNat++Vm.enc u.toNat++Vm.enc m
theorem avq {f u:Int}{m:Nat}(hf:f≤1048576)(hu:u≤1048576)(hm:m≤1024)(k:Nat):(nmb f u m k).length≤9:=by
 have a:=Cm.iQ hf
 have b:=Cm.iQ hu
 have c:(Vm.enc m).length≤3:=Vm.tH 2 m (by omega)
 unfold nmb
 split
 ·simp
 ·omega
 ·rw[List.length_append];omega
 ·rw[List.length_append,List.length_append];omega
theorem atF (f u:Int)(l:List Ov):nmb f u l.length 3++Rn.dV l=Rn.encR f u l:=by simp[nmb,Rn.encR]
theorem aqQ {l:List Ov}{k:Nat}{o:Ov}(h:l[k]? =some o):Rn.dV (l.take (k+1))=Rn.dV (l.take k)++Om.dw o.p o.kl o.vl:=by
 obtain⟨h1,rfl⟩:=List.getElem?_eq_some_iff.1 h
 rw[List.take_succ_eq_append_getElem h1,Rn.aaP]
theorem aoY (e n:Int)(v:Value)(l:List Ov)(w:World)(h:dm w v l)(hf:fG l)(hl:l.length≤140737488355328):
  Calls Tryz.prog 201 #[cZ e n v] w fun E w'=>∃vb,E=.returned (.tuple #[vb,.int .i64 (Rn.aJ e n l)])∧Own .u8 5 w.heap.size w' vb (Rn.out e n l)∧Below w.heap.size w w':=by
 obtain⟨w1,hw1,bH,ax,hB⟩:=ay w #[.int .i64 e,.int .i64 n,v] 122
 have c0:=ai hB 0 rfl
 have c1:=ai hB 1 rfl
 have c2:=ai hB 2 rfl
 have HM:=hide (acw e n v l w1 (h.below ax) hf hl)
 have jb:=hide fun(h0:0<l.length)=>h.full h0
 unfold cZ at HM⊢
 obtain⟨ao,cap,rfl,_,_⟩:=h.shape
 obtain⟨ch,hch⟩:∃x,Rn.aJ e n l=x:=⟨_,rfl⟩
 rw[hch]at HM⊢
 have HA:=hide hch
 have HF:=hide hf
 obtain⟨m,hmm⟩:∃m,l.length=m:=⟨_,rfl⟩
 rw[hmm]at jb hl c2 hw1 HM⊢
 have HN:=hide hmm
 clear h hf hch hB hmm
 go_enter Tryz.func201,Tryz.ntmps201
 go_wp2_with fail
 refine HM.out.mono ?_
 rintro E w2 ⟨rfl,aB⟩
 have fA:=aB.size
 have aY:=ax.trans (aB.mono ax.size)
 have d0:=(aB.cell (p:=⟨w.heap.size,0,none⟩) (show w.heap.size<w1.heap.size by omega)).trans c0
 have d1:=(aB.cell (p:=⟨w.heap.size,1,none⟩) (show w.heap.size<w1.heap.size by omega)).trans c1
 have d2:=(aB.cell (p:=⟨w.heap.size,2,none⟩) (show w.heap.size<w1.heap.size by omega)).trans c2
 clear c0 c1 c2 HM aB
 by_cases h0:ch=0
 ·subst h0
  have HZ:=hide (Rn.bu HA.out)
  obtain⟨g1,g2,g3,g4,_⟩:=HZ.out
  rw[HN.out]at g1
  have hml:(m:Int)≤1024:=by omega
  have HNM:=hide (fun k=>avq (f:=e) (u:=n) (m:=m) (by omega) g4 g1 k)
  go_wp2
  go_loopw [5,25] (fun bb kk wr=>∃k:Nat,k≤3∧kk=.int .i64 k∧Own .u8 5 w.heap.size wr bb (nmb e n m k)∧Below w2.heap.size w2 wr) (fun _ kk _=>4-(intOf kk).toNat)
  case atStart=>exact⟨0,by omega,rfl,Own.nil _ _ _ _,Below.refl _ _⟩
  case round=>
   obtain⟨k,hk,rfl,own,bN⟩:=hrel
   have ru:=bN.size
   have hln:=HNM.out k
   rcases(show k=0∨k=1∨k=2∨k=3 by omega)with rfl|rfl|rfl|rfl
   ·have hix:=Tryz.nx0 e n m
    have hwr:=xY e (by omega) (by omega)
    go_wp2_with fail
    refine(iG _ _ e _ own.is (by omega) (by omega) (by omega)).mono ?_
    rintro E w4 ⟨v4,rfl,bM,aS⟩
    have dI:Own .u8 5 w.heap.size w4 v4 (nmb e n m 1):=by simpa[nmb]using bM.bz (base':=w.heap.size) (by omega)
    have aX:=bN.trans (aS.mono (by omega))
    clear own bM aS
    go_wp2
    go_roundw
    case rel=>exact⟨1,by omega,rfl,dI,aX⟩
    case measure=>simp[intOf]
   ·have hix:=Tryz.nx1 e n m
    have hwr:=xY n (by omega) (by omega)
    go_wp2_with fail
    refine(iG _ _ n _ own.is (by omega) (by omega) (by omega)).mono ?_
    rintro E w4 ⟨v4,rfl,bM,aS⟩
    have dI:Own .u8 5 w.heap.size w4 v4 (nmb e n m 2):=bM.bz (base':=w.heap.size) (by omega)
    have aX:=bN.trans (aS.mono (by omega))
    clear own bM aS
    go_wp2
    go_roundw
    case rel=>exact⟨2,by omega,rfl,dI,aX⟩
    case measure=>simp[intOf]
   ·have hix:=Tryz.nx2 e n m
    have hwr:=xY m (by omega) (by omega)
    go_wp2_with fail
    refine(iG _ _ m _ own.is (by omega) (by omega) (by omega)).mono ?_
    rintro E w4 ⟨v4,rfl,bM,aS⟩
    have dI:Own .u8 5 w.heap.size w4 v4 (nmb e n m 3):=by simpa[nmb]using bM.bz (base':=w.heap.size) (by omega)
    have aX:=bN.trans (aS.mono (by omega))
    clear own bM aS
    go_wp2
    go_roundw
    case rel=>exact⟨3,by omega,rfl,dI,aX⟩
    case measure=>simp[intOf]
   ·have x2:=(bN.cell (p:=⟨w.heap.size,2,none⟩) (show w.heap.size<w2.heap.size by omega)).trans d2
    have aAY:=aY.trans (bN.mono aY.size)
    have hln3:=hln
    clear d0 d1 d2 bN aY hln
    go_wp2
    go_loopw [5,36] (fun bb kk ws=>∃k:Nat,k≤m∧kk=.int .i64 k∧Own .u8 5 w.heap.size ws bb (nmb e n m 3++Rn.dV (l.take k))∧Below w.heap.size w ws) (fun _ kk _=>m-(intOf kk).toNat)
    case atStart=>exact⟨0,by omega,rfl,by simpa[Rn.dV]using own,aAY⟩
    case round=>
     obtain⟨k,hk,rfl,ahf,aF⟩:=hrel
     have sz:=aF.size
     by_cases hlt:k<m
     ·obtain⟨o,ho⟩:∃o,l[k]? =some o:=⟨l[k]'(by have:=HN.out;omega),by rw[List.getElem?_eq_getElem]⟩
      obtain⟨b1,o1,cq,dL,_,_,hB,hcell⟩:=jb.out (by omega)
      simp only[Value.slice.injEq,true_and]at dL
      obtain⟨rfl,rfl⟩:=dL
      obtain⟨c0,c1,c2⟩:=hcell k o ho
      have d0:=(aF.cell (p:=⟨b1,o1+k*3,none⟩) hB).trans c0
      have d1:=(aF.cell (p:=⟨b1,o1+k*3+1,none⟩) hB).trans c1
      have d2:=(aF.cell (p:=⟨b1,o1+k*3+2,none⟩) hB).trans c2
      have HO:=hide ho
      clear c0 c1 c2 ho hcell
      have hlt':(k:Int)<m:=by omega
      obtain⟨hk1,hv1⟩:=HF.out o (List.mem_of_getElem? HO.out)
      obtain⟨W1,hW1,szw,rq,B1⟩:=ay wr #[.bool o.p,.string o.k,.string o.v] 106
      have e0:=ai B1 0 rfl
      have e1:=ai B1 1 rfl
      have e2:=ai B1 2 rfl
      have b01:Below w.heap.size w W1:=aF.trans (rq.mono sz)
      have bJ:=ahf.below rq
      have hoc:o.c=0:=Rn.qD HZ.out.2.2.2.2 o (List.mem_of_getElem? HO.out)
      clear B1 rq aF ahf
      go_wp2_with fail
      refine(arl (.slice none 0 0) [] o.p o.k o.v _ (Is.nil _ _) (by simp) hk1 hv1).mono ?_
      rintro E w5 ⟨v5,rfl,dI,aX⟩
      have hok:Om.aJ o.p o.k.data.toList o.v.data.toList=0:=hoc
      rw[Om.aiQ hok,List.nil_append]at dI
      rw[hok]
      have eu:=bJ.below aX
      have oH:Below w.heap.size w w5:=b01.trans (aX.mono b01.size)
      have hz5:=oH.size
      have hle1:(Om.dw o.p o.k.data.toList o.v.data.toList).length≤51:=Om.q9 hok
      have hle2:(Rn.dV (l.take k)).length≤51*1024:=by
       have:=Rn.ahV (l:=l.take k) fun q hq=>Rn.qD HZ.out.2.2.2.2 q (List.mem_of_mem_take hq)
       rw[List.length_take]at this
       omega
      have is5:=dI.is
      have hlen:((nmb e n m 3++Rn.dV (l.take k)).length+(Om.dw o.p o.k.data.toList o.v.data.toList).length)*1≤150000000000000:=by
       rw[List.length_append]
       omega
      clear bJ dI aX b01 e0 e1 e2 d0 d1 d2 hok hoc
      go_wp2_with (at_builtin;refine dA rfl (.tmp 45) (.tmp 46) 71 rfl .u8 5 w.heap.size 1 Tryz.underlying71 Tryz.info5 (by decide) _ _ rfl eu _ _ rfl is5 hlen hz5 ?_)
      rintro v7 w7 jO fQ _
      have mP:Own .u8 5 w.heap.size w7 v7 (nmb e n m 3++Rn.dV (l.take (k+1))):=by
       rw[aqQ HO.out]
       exact jO
      have lg:=oH.trans fQ
      clear eu jO is5 fQ oH
      go_wp2
      go_roundw
      case rel=>exact⟨v7,_,_,_,.int .i64 ((k:Int)+1),_,_,_,_,_,_,_,_,_,_,_,_,⟨k+1,by omega,by go_num,mP,lg⟩,rfl⟩
      case measure=>simp[intOf];omega
     ·have hlt':¬(k:Int)<m:=by omega
      have OW:Hid (Own .u8 5 w.heap.size wr u5 (Rn.out e n l)):=hide (by
       rw[Rn.lC HA.out,←atF,HN.out]
       rw[List.take_of_length_le (by have:=HN.out;omega)]at ahf
       exact ahf)
      clear ahf
      go_wp2
      go_ret2
      exact⟨_,rfl,OW.out,aF⟩
 ·have hne:(ch !=0)=true:=by simp[h0]
  have HO:Hid (Rn.out e n l=[]):=hide (Rn.rP (by rw[HA.out];exact h0))
  go_wp2
  go_ret2
  exact⟨_,rfl,by rw[HO.out];exact Own.nil _ _ _ _,aY⟩
end Go.Proofs.YtpifdeoepppadaaGreatDoor
namespace Go.Proofs.YtpifdeoepppadaaGreatDoor
open Go.RowKit
set_option linter.unusedVariables false
theorem Is.conv {w:World}{v:Value}{zs:List Int}(h:Is .u8 w v zs){P:Program}{src e dst:TypeId}(hs:P.underlying src=some (.slice e))(he:P.underlying e=some (.int .u8))(hd:P.underlying dst=some .string):
  (convert src dst v).run P w=.ok (.string ⟨(Om.gQ zs).toArray⟩) w:=by
 by_cases hz:0<zs.length
 ·obtain⟨b,o,c,rfl,_,_,_,hc⟩:=h.full hz
  exact run_convert_bytes_arg w src e hs he b o zs.length c zs rfl hc dst hd
 ·have:zs=[]:=List.eq_nil_of_length_eq_zero (by omega)
  subst this
  obtain⟨ao,c,rfl⟩:=h.bare
  cases ao with
  |none=>exact run_convert_bytes_nil w src e hs he 0 c dst hd
  |some ad=>
   rw[run_convert_bytes_string w src dst e _ 0 c hs he hd,run_bytesToString w ad 0 c [] (by have:=run_loadCells_list (P:=P) w ad [] (by simp);simpa using this)]
   rfl
theorem Is.bytes {w:World}{v:Value}{zs:List Int}(h:Is .u8 w v zs):∀z∈zs,0≤z∧z<256:=by
 intro z hz
 obtain⟨i,hi,rfl⟩:=List.getElem_of_mem hz
 have:=h.byte i
 simpa[List.getD,hi]using this
theorem apM {bs:List Int}{most:Nat}{u i g:Int}(hS:xA bs most u i g)(hg:g≠0)(hm:most≤64):∀t:List UInt8,t.length≤most→¬Om.cnt t<+:bs:=by
 intro t ht hp
 have hp1:Vm.enc t.length<+:bs:=(List.prefix_append _ _).trans hp
 rcases hS with⟨_,_,_,h⟩|⟨_,_,_,x,n,e,hR,hc⟩
 ·exact hg h
 ·have:=Vm.nQ hR (u:=t.length) (by omega) hp1
  omega
theorem akj {bs:List Int}{most:Nat}{u i:Int}(hR:Vm.Res bs u i 0)(hs:(bs.length:Int)-i<u):∀t:List UInt8,t.length≤most→most≤64→¬Om.cnt t<+:bs:=by
 intro t ht hm hp
 have hp1:Vm.enc t.length<+:bs:=(List.prefix_append _ _).trans hp
 have:=Vm.nQ hR (u:=t.length) (by omega) hp1
 have h2:=hp.length_le
 rw[Om.jV]at h2
 omega
theorem aeI {bs:List Int}{most u n:Nat}(hb:∀z∈bs,0≤z∧z<256)(hR:Vm.Res bs u n 0)(hu:u≤most)(hs:n+u≤bs.length):
  Om.gH bs most (Om.gQ ((bs.drop n).take u)) (n+u) 0:=by
 have hl:(Om.gQ ((bs.drop n).take u)).length=u:=by rw[Om.jJ,List.length_take,List.length_drop];omega
 rcases hR with⟨x,_,hp,h1,h2,_⟩|⟨_,_,_,h⟩
 ·have hx:x=u:=by omega
  have hn:n=Vm.sz u:=by rw[hx]at h2;omega
  subst hx
  refine .inl ⟨rfl,by rw[hl];exact hu,?_,?_⟩
  ·unfold Om.cnt
   rw[hl,Om.yw (fun z hz=>hb z (List.mem_of_mem_drop (List.mem_of_mem_take hz)))]
   obtain⟨r,hr⟩:=hp
   have hln:(Vm.enc x).length=n:=hn.symm
   have:bs.drop n=r:=by rw[←hr,←hln];simp
   rw[this,←hr]
   exact(List.prefix_append_right_inj _).2 (List.take_prefix _ _)
  ·rw[Om.jV,hl,hn]
 ·simp at h
theorem abB (vb:Value)(bs:List Int)(a most:Nat)(w:World)(hb:Is .u8 w vb bs)(hl:bs.length≤140737488355328)(h0:0<bs.length)(ha:a≤bs.length)(hm:most≤64):
  Calls Tryz.prog 238 #[vb,.int .i64 a,.int .i64 most] w fun E w'=>∃(s:ByteArray) (n:Nat) (d e:Int),E=.returned (.tuple #[.string s,.int .i64 d,.int .i64 e])∧w=w'∧Om.gH (bs.drop a) most s.data.toList n e∧(e=0→d=((a+n:Nat):Int)∧a+n≤bs.length):=by
 have hby:=hb.bytes
 obtain⟨b1,o1,c1,rfl,hcap,hcm,hB1,hc1⟩:=hb.full h0
 have adX:=hb.sub a bs.length ha (Nat.le_refl _)
 rw[List.take_of_length_le (by simp)]at adX
 obtain⟨u,i,g,hS⟩:=ig (bs.drop a) most
 have hS':=hS
 rcases hS with⟨hR,h1,h2,rfl⟩|⟨rfl,rfl,rfl,x,n,e,hR,hcase⟩
 ·have hbd:=Vm.kV hR
  have hdl:((bs.drop a).length:Int)=bs.length-a:=by rw[List.length_drop];omega
  obtain⟨un,rfl⟩:∃un:Nat,u=un:=⟨u.toNat,by omega⟩
  obtain⟨n,rfl⟩:∃n:Nat,i=n:=⟨i.toNat,by omega⟩
  have hn10:n≤10:=by omega
  have hna:a+n≤bs.length:=by omega
  have hca:a<c1:=by
   rcases hR with⟨x,_,hp,_⟩|⟨_,_,_,h⟩
   ·have:=hp.length_le
    have:=Vm.sJ x
    unfold Vm.sz at this
    omega
   ·simp at h
  have hca':c1≠a:=by omega
  by_cases hs:bs.length-(a+n)<un
  ·have HG:=hide (akj (most:=most) hR (by rw[hdl];omega))
   have hs':(bs.length:Int)-((a:Int)+n)<un:=by omega
   clear hc1 hby
   have HS:=hide hS'
   clear hS' hbd hdl
   go_enter Tryz.func238,Tryz.ntmps238
   go_wp2_with fail
   refine(dH _ (bs.drop a) most un n 0 _ adX (by rw[List.length_drop];omega) (by omega) (by omega) HS.out).mono ?_
   rintro E w1 ⟨rfl,rfl⟩
   go_wp2
   go_ret3
   exact⟨_,0,_,_,rfl,rfl,.inr ⟨rfl,rfl,rfl,fun t ht=>HG.out t ht hm⟩,fun h=>by simp at h⟩
  ·have isb:=hb.sub (a+n) (a+n+un) (by omega) (by omega)
   rw[show a+n+un-(a+n)=un by omega]at isb
   have afq:=isb.conv Tryz.underlying71 Tryz.underlying5 Tryz.underlying9
   have hg:=aeI (bs:=bs.drop a) (most:=most) (u:=un) (n:=n) (fun z hz=>hby z (List.mem_of_mem_drop hz)) hR (by omega) (by rw[List.length_drop];omega)
   rw[List.drop_drop]at hg
   generalize hbt:Om.gQ ((bs.drop (a+n)).take un)=bt at*
   have HG:=hide hg
   have HS:=hide hS'
   have hs':¬(bs.length:Int)-((a:Int)+n)<un:=by omega
   by_cases hcn:c1=a+n
   ·have hun:un=0:=by omega
    subst hun
    have aAX:bt=[]:=by rw[←hbt];simp[Om.gQ]
    subst aAX
    have isz:Is .u8 w (.slice (some ⟨b1,o1,none⟩) 0 0) []:=⟨by simp,.inr ⟨_,0,rfl,by simp,by simp,by simp⟩⟩
    have avx:=isz.conv Tryz.underlying71 Tryz.underlying5 Tryz.underlying9
    rw[show Om.gQ []=[]from rfl]at avx
    have hS0:xA (bs.drop a) most 0 n 0:=by simpa using hS'
    have HS0:=hide hS0
    clear hS0 HS hS' hbd hdl hc1 hby hbt hg isb hb afq isz hR h2
    subst hcn
    rw[show a+n-a=n by omega]at adX
    go_enter Tryz.func238,Tryz.ntmps238
    go_wp2_with fail
    refine(dH _ (bs.drop a) most 0 n 0 _ adX (by rw[List.length_drop];omega) (by omega) (by omega) HS0.out).mono ?_
    rintro E w1 ⟨rfl,rfl⟩
    go_wp2
    go_ret3
    exact⟨⟨#[]⟩,n+0,_,_,rfl,rfl,HG.out,fun _=>⟨by omega,by omega⟩⟩
   ·clear hS' hbd hdl hc1 hby hbt hg isb hb
    go_enter Tryz.func238,Tryz.ntmps238
    go_wp2_with fail
    refine(dH _ (bs.drop a) most un n 0 _ adX (by rw[List.length_drop];omega) (by omega) (by omega) HS.out).mono ?_
    rintro E w1 ⟨rfl,rfl⟩
    go_wp2
    go_ret3
    exact⟨⟨bt.toArray⟩,n+un,_,_,rfl,rfl,HG.out,fun _=>⟨by omega,by omega⟩⟩
 ·have HG:=hide (apM hS' (by simp) hm)
  have HS:=hide hS'
  clear hS' hR hcase hc1 hby
  by_cases hca:c1=a
  ·subst hca
   have e1:bs.length=c1:=by omega
   have e2:bs.drop c1=[]:=List.drop_eq_nil_of_le (by omega)
   have isz:Is .u8 w (.slice (some ⟨b1,o1,none⟩) 0 0) []:=⟨by simp,.inr ⟨_,0,rfl,by simp,by simp,by simp⟩⟩
   rw[e2]at HS
   have E1:=hide e1
   clear e2
   go_enter Tryz.func238,Tryz.ntmps238
   go_wp2_with fail
   refine(dH _ [] most 0 0 5 _ isz (by simp) (by omega) (by omega) HS.out).mono ?_
   rintro E w1 ⟨rfl,rfl⟩
   go_wp2
   go_ret3
   exact⟨_,0,_,_,rfl,rfl,.inr ⟨rfl,rfl,rfl,HG.out⟩,fun h=>by simp at h⟩
  ·go_enter Tryz.func238,Tryz.ntmps238
   go_wp2_with fail
   refine(dH _ (bs.drop a) most 0 0 5 _ adX (by rw[List.length_drop];omega) (by omega) (by omega) HS.out).mono ?_
   rintro E w1 ⟨rfl,rfl⟩
   go_wp2
   go_ret3
   exact⟨_,0,_,_,rfl,rfl,.inr ⟨rfl,rfl,rfl,HG.out⟩,fun h=>by simp at h⟩
theorem ano (vb:Value)(bs:List Int)(w:World)(hb:Is .u8 w vb bs)(hl:bs.length≤140737488355328):
  Calls Tryz.prog 226 #[vb] w fun E w'=>∃(p:Bool) (k v:ByteArray) (n e:Int),E=.returned (.tuple #[tu p k v,.int .i64 n,.int .i64 e])∧Om.rU bs p k.data.toList v.data.toList n e∧Below w.heap.size w w':=by
 unfold tu
 have dx:∀cs,Below w.heap.size w (w.alloc (.cells cs 106)):=fun cs=>(Below.refl _ _).alloc (Nat.le_refl _) _
 by_cases h0:0<bs.length
 ·have hbw:=hb.byte 0
  obtain⟨b1,o1,c1,rfl,hcap,hcm,hB1,hc1⟩:=hb.full h0
  have hb0:=hb.below (dx #[.bool false,.string ⟨#[]⟩,.string ⟨#[]⟩])
  have g0:=hc1 0 h0
  obtain⟨q,rest,rfl⟩:∃q rest,bs=q::rest:=by
   cases bs with
   |nil=>simp at h0
   |cons q r=>exact⟨q,r,rfl⟩
  simp only[List.getD_cons_zero,Nat.add_zero]at g0 hbw
  have hlr:(q::rest).length=rest.length+1:=rfl
  by_cases hq:1<q
  ·have HG:=hide (Om.amB (b:=q) (bs:=rest) (by omega) (by omega))
   clear hc1 hb hb0
   go_enter Tryz.func226,Tryz.ntmps226
   go_wp2
   refine bodyPost_ret (v:=.tuple #[.agg #[.bool false,.string ⟨#[]⟩,.string ⟨#[]⟩],.int .i64 0,.int .i64 5]) (by simp[results,Tryz.results226,go_sem]) rfl ?_
   exact⟨_,_,_,_,_,rfl,HG.out,dx _⟩
  ·have HL:=hide hlr
   clear hc1 hlr
   go_enter Tryz.func226,Tryz.ntmps226
   go_wp2_with fail
   refine(abB _ (q::rest) 1 16 _ hb0 hl h0 (by omega) (by omega)).mono ?_
   rintro E w1 ⟨s,n,d,e,rfl,rfl,hR,hd⟩
   rw[List.drop_one,List.tail_cons]at hR
   have ZERO:∀w',Below w.heap.size w w'→Om.rU (q::rest) false [] [] 0 5→∃(p:Bool) (k v:ByteArray) (n e:Int),Ending.returned (.tuple #[.agg #[.bool false,.string ⟨#[]⟩,.string ⟨#[]⟩],.int .i64 0,.int .i64 5])=.returned (.tuple #[.agg #[.bool p,.string k,.string v],.int .i64 n,.int .i64 e])∧Om.rU (q::rest) p k.data.toList v.data.toList n e∧Below w.heap.size w w':=fun w' hb' h=>⟨_,_,_,_,_,rfl,h,hb'⟩
   have HZ:=hide ZERO
   clear ZERO
   have he:e=0∨e=5:=by
    rcases hR with⟨h,_⟩|⟨h,_⟩
    ·exact .inl h
    ·exact .inr h
   rcases he with rfl|rfl
   ·obtain⟨hd1,hd2⟩:=hd rfl
    subst hd1
    clear hd
    rw[HL.out]at hd2
    by_cases hs:s.data.toList=[]
    ·have HG:=hide (Om.ag5 (b:=q) hR (.inr hs))
     have hs':s.toList.isEmpty=true:=by rw[Lib.toList_data,hs];rfl
     clear hR hs
     go_wp2
     refine bodyPost_ret (v:=.tuple #[.agg #[.bool false,.string ⟨#[]⟩,.string ⟨#[]⟩],.int .i64 0,.int .i64 5]) (by simp[results,Tryz.results226,go_sem]) rfl ?_
     exact HZ.out _ (dx _) HG.out
    ·have hs':s.toList.isEmpty=false:=by rw[Lib.toList_data];simpa using hs
     rcases(show q=0∨q=1 by omega)with rfl|rfl
     ·have HG:=hide (Om.aox hR hs)
      clear hR hs HZ
      go_wp2
      refine bodyPost_ret (v:=.tuple #[.agg #[.bool false,.string s,.string ⟨#[]⟩],.int .i64 ((1+n:Nat):Int),.int .i64 0]) (by simp[results,Tryz.results226,go_sem]) rfl ?_
      exact⟨_,_,_,_,_,rfl,HG.out,dx _⟩
     ·have HR:=hide hR
      have HS:=hide hs
      clear hR hs
      go_wp2_with fail
      refine(abB _ (1::rest) (1+n) 32 _ hb0 hl h0 (by simp;omega) (by omega)).mono ?_
      rintro E w1 ⟨t,m,d,e,rfl,rfl,hT,hd⟩
      rw[Nat.add_comm 1 n,List.drop_succ_cons]at hT
      have he:e=0∨e=5:=by
       rcases hT with⟨h,_⟩|⟨h,_⟩
       ·exact .inl h
       ·exact .inr h
      rcases he with rfl|rfl
      ·obtain⟨hd1,hd2⟩:=hd rfl
       subst hd1
       clear hd
       have HG:=hide (Om.ara HR.out HS.out hT)
       clear hT HZ
       go_wp2
       refine bodyPost_ret (v:=.tuple #[.agg #[.bool true,.string s,.string t],.int .i64 ((1+n+m:Nat):Int),.int .i64 0]) (by simp[results,Tryz.results226,go_sem]) rfl ?_
       exact⟨_,_,_,_,_,rfl,HG.out,dx _⟩
      ·have HG:=hide (Om.apA HR.out hT (by simp))
       clear hT hd
       go_wp2
       refine bodyPost_ret (v:=.tuple #[.agg #[.bool false,.string ⟨#[]⟩,.string ⟨#[]⟩],.int .i64 0,.int .i64 5]) (by simp[results,Tryz.results226,go_sem]) rfl ?_
       exact HZ.out _ (dx _) HG.out
   ·have HG:=hide (Om.ag5 (b:=q) hR (.inl (by simp)))
    clear hR hd
    go_wp2
    refine bodyPost_ret (v:=.tuple #[.agg #[.bool false,.string ⟨#[]⟩,.string ⟨#[]⟩],.int .i64 0,.int .i64 5]) (by simp[results,Tryz.results226,go_sem]) rfl ?_
    exact HZ.out _ (dx _) HG.out
 ·have:bs=[]:=List.eq_nil_of_length_eq_zero (by omega)
  subst this
  obtain⟨ao,c,rfl⟩:=hb.bare
  clear hb hl h0
  go_enter Tryz.func226,Tryz.ntmps226
  go_wp2
  refine bodyPost_ret (v:=.tuple #[.agg #[.bool false,.string ⟨#[]⟩,.string ⟨#[]⟩],.int .i64 0,.int .i64 5]) (by simp[results,Tryz.results226,go_sem]) rfl ?_
  exact⟨_,_,_,_,_,rfl,Om.ary,dx _⟩
end Go.Proofs.YtpifdeoepppadaaGreatDoor
