/- Texts of one layer, one behind the other. -/
import Derived.Test.YtlmkaljjocflmaaGreatDoorAH6
import Derived.Test.YtlmkaljjocflmaaGreatDoorAH7
set_option maxRecDepth 100000
set_option maxHeartbeats 8000000
namespace Go.Proofs.YtlmkaljjocflmaaGreatDoor
open Go.RowKit
set_option linter.unusedVariables false
structure Rq (base:Nat) (w:World) (l:List Cm.Cv) (v:Value) (rs:List Cw):Prop where
 row:bK 273 base w v rs
 kr:gP base w rs
 is:aH rs=l
 good:Rl.Good 0 l
def QB (v:Value) (rs:List Cw) (g:Nat):Prop:=v.ownBlock=some g∨∃c∈rs,c.v.ownBlock=some g
section
variable {base base':Nat} {w w':World} {l:List Cm.Cv} {v:Value} {rs:List Cw} {F G:Nat→Prop}
theorem Rq.nil (base:Nat)(w:World):Rq base w [] (.slice none 0 0) []:=⟨bK.nil _ _ _,fun c hc=>by simp at hc,rfl,trivial⟩
theorem Rq.ty (h:Rq base w l v rs):∀g,QB v rs g→∃cs t,w.heap[g]? =some (.cells cs t (0,0))∧(t=273∨t=71):=by
 rintro g (hb|⟨c,hc,hb⟩)
 ·obtain⟨cs,e⟩:=h.row.type hb
  exact⟨_,_,e,.inl rfl⟩
 ·obtain⟨cs,e⟩:=(h.kr c hc).type hb
  exact⟨_,_,e,.inr rfl⟩
theorem Rq.lt (h:Rq base w l v rs):∀g,QB v rs g→g<w.heap.size:=fun g hg=>by
 obtain⟨cs,t,e,_⟩:=h.ty g hg
 exact aA e
theorem Rq.agree (h:Rq base w l v rs)(ha:∀g,QB v rs g→w'.heap[g]? =w.heap[g]?):Rq base w' l v rs:=
 ⟨dw h.row fun b hb=>ha b (.inl hb),fun c hc=>dw (h.kr c hc) fun b hb=>ha b (.inr ⟨c,hc,hb⟩),h.is,h.good⟩
theorem Rq.below (h:Rq base w l v rs)(hb:Below w.heap.size w w'):Rq base w' l v rs:=h.agree fun g hg=>hb.block g (h.lt g hg)
theorem Rq.len (h:Rq base w l v rs):rs.length=l.length:=by rw[←h.is,aH,List.length_map]
theorem Rq.ajN (h:Rq base w l v rs):rs.length≤1048576:=by rw[h.len];exact(Rl.eU h.good).1
structure RkV (p q:Nat) (w:World) (l:List Cm.Cv) (bk:Bool) (v:Value) (rs:List Cw):Prop where
 blk:w.heap[p]? =some (.cells #[.pointer (some ⟨q,0,none⟩),.bool bk,v] 276 (0,0))
 log:Rq 0 w l v rs
def Rk (p q:Nat) (G:Nat→Prop) (w:World) (l:List Cm.Cv) (bk:Bool):Prop:=∃v rs,RkV p q w l bk v rs∧G=fun g=>g=p∨QB v rs g
theorem RkV.ty {p q:Nat}{bk:Bool}(h:RkV p q w l bk v rs):∀g,g=p∨QB v rs g→∃cs t,w.heap[g]? =some (.cells cs t (0,0))∧(t=276∨t=273∨t=71):=by
 rintro g (rfl|hg)
 ·exact⟨_,_,h.blk,.inl rfl⟩
 ·obtain⟨cs,t,e,ht⟩:=h.log.ty g hg
  exact⟨cs,t,e,.inr ht⟩
theorem Rk.ty {p q:Nat}{bk:Bool}(h:Rk p q G w l bk):∀g,G g→∃cs t,w.heap[g]? =some (.cells cs t (0,0))∧(t=276∨t=273∨t=71):=by
 obtain⟨v,rs,h,rfl⟩:=h
 exact h.ty
theorem Rk.lt {p q:Nat}{bk:Bool}(h:Rk p q G w l bk):∀g,G g→g<w.heap.size:=fun g hg=>by
 obtain⟨cs,t,e,_⟩:=h.ty g hg
 exact aA e
theorem Rk.agree {p q:Nat}{bk:Bool}(h:Rk p q G w l bk)(ha:∀g,G g→w'.heap[g]? =w.heap[g]?):Rk p q G w' l bk:=by
 obtain⟨v,rs,h,rfl⟩:=h
 exact⟨v,rs,⟨(ha p (.inl rfl)).trans h.blk,h.log.agree fun g hg=>ha g (.inr hg)⟩,rfl⟩
theorem Rk.below {p q:Nat}{bk:Bool}(h:Rk p q G w l bk)(hb:Below w.heap.size w w'):Rk p q G w' l bk:=h.agree fun g hg=>hb.block g (h.lt g hg)
theorem Rk.out {p q:Nat}{bk:Bool}(h:Rk p q G w l bk)(ho:Out F w w')(hd:∀g,G g→¬F g):Rk p q G w' l bk:=h.agree fun g hg=>ho.block g (h.lt g hg) (hd g hg)
theorem Rk.good {p q:Nat}{bk:Bool}(h:Rk p q G w l bk):Rl.Good 0 l:=by
 obtain⟨v,rs,h,rfl⟩:=h
 exact h.log.good
theorem apA {p q q':Nat}{bk:Bool}{st:Dm.Ds}(h:Rk p q G w l bk)(k:Pk q' F w st):∀g,G g→¬F g:=by
 intro g hg hf
 obtain⟨cs,t,e,ht⟩:=h.ty g hg
 obtain⟨cs',t',fr,e',ht'⟩:=k.ty g hf
 rw[e]at e'
 simp only[Option.some.injEq,Obj.cells.injEq]at e'
 obtain⟨_,e2,_⟩:=e'
 subst e2
 rcases ht with rfl|rfl|rfl<;>rcases ht' with e|e|e<;>exact absurd e (by decide)
end
def RW (p q:Nat) (F:Nat→Prop) (w:World) (s:Rl.Rs):Prop:=∃F1 G1,Pk q F1 w s.d∧Rk p q G1 w s.l s.bk∧F=fun g=>F1 g∨G1 g
section
variable {p q:Nat} {F G:Nat→Prop} {w w' w1 w2:World} {s s':Rl.Rs} {st':Dm.Ds}
theorem RW.lt (h:RW p q F w s):∀g,F g→g<w.heap.size:=by
 obtain⟨F1,G1,h1,h2,rfl⟩:=h
 rintro g (hg|hg)
 ·exact h1.lt g hg
 ·exact h2.lt g hg
theorem RW.agree (h:RW p q F w s)(ha:∀g,F g→w'.heap[g]? =w.heap[g]?):RW p q F w' s:=by
 obtain⟨F1,G1,h1,h2,rfl⟩:=h
 exact⟨F1,G1,h1.agree fun g hg=>ha g (.inl hg),h2.agree fun g hg=>ha g (.inr hg),rfl⟩
theorem RW.below (h:RW p q F w s)(hb:Below w.heap.size w w'):RW p q F w' s:=h.agree fun g hg=>hb.block g (h.lt g hg)
theorem RW.out (h:RW p q F w s)(ho:Out G w w')(hd:∀g,F g→¬G g):RW p q F w' s:=h.agree fun g hg=>ho.block g (h.lt g hg) (hd g hg)
theorem RW.good (h:RW p q F w s):Rl.Good 0 s.l:=by
 obtain⟨F1,G1,h1,h2,rfl⟩:=h
 exact h2.good
end
end Go.Proofs.YtlmkaljjocflmaaGreatDoor
namespace Go.Proofs.YtlmkaljjocflmaaGreatDoor
open Go.RowKit
open Bm (Ov)
set_option linter.unusedVariables false
theorem Tryz.nx0 (a b c:Int)(w:World):(Instr.index 252 (.agg #[.int .i64 a,.int .i64 b,.int .i64 c]) (.int .i64 0)).run Tryz.prog w=.ok (.int .i64 a) w:=by kernel_rfl
theorem Tryz.nx1 (a b c:Int)(w:World):(Instr.index 252 (.agg #[.int .i64 a,.int .i64 b,.int .i64 c]) (.int .i64 1)).run Tryz.prog w=.ok (.int .i64 b) w:=by kernel_rfl
theorem Tryz.nx2 (a b c:Int)(w:World):(Instr.index 252 (.agg #[.int .i64 a,.int .i64 b,.int .i64 c]) (.int .i64 2)).run Tryz.prog w=.ok (.int .i64 c) w:=by kernel_rfl
theorem wu (z:Int)(h0:0≤z)(h1:z<9223372036854775808):IntKind.u64.wrap z=z:=by
 simp[IntKind.wrap,IntKind.bits,IntKind.signed]
 omega
def nmb (f u:Int) (m k:Nat):List Int:=match k with
 |0=>[]
 |1=>Vm.enc f.toNat
 |2=>Vm.enc f.toNat++Vm.enc u.toNat
 |_=>Vm.enc f.toNat++Vm.enc u.toNat++Vm.enc m
theorem aqw {f u:Int}{m:Nat}(hf:f≤1048576)(hu:u≤1048576)(hm:m≤1024)(k:Nat):(nmb f u m k).length≤9:=by
 have a:=Cm.ib hf
 have b:=Cm.ib hu
 have c:(Vm.enc m).length≤3:=Vm.pX 2 m (by omega)
 unfold nmb
 split
 ·simp
 ·omega
 ·rw[List.length_append];omega
 ·rw[List.length_append,List.length_append];omega
theorem arj (f u:Int)(l:List Ov):nmb f u l.length 3++Rn.iq l=Rn.encR f u l:=by simp[nmb,Rn.encR]
theorem am7 {l:List Ov}{k:Nat}{o:Ov}(h:l[k]? =some o):Rn.iq (l.take (k+1))=Rn.iq (l.take k)++Om.dG o.p o.kl o.vl:=by
 obtain⟨h1,rfl⟩:=List.getElem?_eq_some_iff.1 h
 rw[List.take_succ_eq_append_getElem h1,Rn.an4]
theorem alZ (e n:Int)(v:Value)(l:List Ov)(w:World)(h:dz w v l)(hf:fZ l)(hl:l.length≤140737488355328):
  Calls Tryz.prog 338 #[dF e n v] w fun E w'=>∃vb,E=.returned (.tuple #[vb,.int .i64 (Rn.chk e n l)])∧Own .u8 5 w.heap.size w' vb (Rn.out e n l)∧Below w.heap.size w w':=by
 obtain⟨w1,hw1,aT,ak,hB⟩:=au w #[.int .i64 e,.int .i64 n,v] 273
 have c0:=ai hB 0 rfl
 have c1:=ai hB 1 rfl
 have c2:=ai hB 2 rfl
 have HM:=hide (ahB e n v l w1 (h.below ak) hf hl)
 have jd:=hide fun(h0:0<l.length)=>h.full h0
 unfold dF at HM⊢
 obtain⟨ao,cap,rfl,_,_⟩:=h.shape
 obtain⟨ch,hch⟩:∃x,Rn.chk e n l=x:=⟨_,rfl⟩
 rw[hch]at HM⊢
 have HA:=hide hch
 have HF:=hide hf
 obtain⟨m,hmm⟩:∃m,l.length=m:=⟨_,rfl⟩
 rw[hmm]at jd hl c2 hw1 HM⊢
 have HN:=hide hmm
 clear h hf hch hB hmm
 go_enter Tryz.func338,Tryz.ntmps338
 go_wp2_with fail
 refine HM.out.mono ?_
 rintro E w2 ⟨rfl,az⟩
 have dm:=az.size
 have aO:=ak.trans (az.mono ak.size)
 have d0:=(az.cell (p:=⟨w.heap.size,0,none⟩) (show w.heap.size<w1.heap.size by omega)).trans c0
 have d1:=(az.cell (p:=⟨w.heap.size,1,none⟩) (show w.heap.size<w1.heap.size by omega)).trans c1
 have d2:=(az.cell (p:=⟨w.heap.size,2,none⟩) (show w.heap.size<w1.heap.size by omega)).trans c2
 clear c0 c1 c2 HM az
 by_cases h0:ch=0
 ·subst h0
  have HZ:=hide (Rn.aV HA.out)
  obtain⟨g1,g2,g3,g4,_⟩:=HZ.out
  rw[HN.out]at g1
  have hml:(m:Int)≤1024:=by omega
  have HNM:=hide (fun k=>aqw (f:=e) (u:=n) (m:=m) (by omega) g4 g1 k)
  go_wp2
  go_loopw [5,25] (fun bb kk wr=>∃k:Nat,k≤3∧kk=.int .i64 k∧Own .u8 5 w.heap.size wr bb (nmb e n m k)∧Below w2.heap.size w2 wr) (fun _ kk _=>4-(intOf kk).toNat)
  case atStart=>exact⟨0,by omega,rfl,Own.nil _ _ _ _,Below.refl _ _⟩
  case round=>
   obtain⟨k,hk,rfl,own,gm⟩:=hrel
   have szr:=gm.size
   have hln:=HNM.out k
   rcases(show k=0∨k=1∨k=2∨k=3 by omega)with rfl|rfl|rfl|rfl
   ·have hix:=Tryz.nx0 e n m
    have hwr:=wu e (by omega) (by omega)
    go_wp2_with fail
    refine(fK _ _ e _ own.is (by omega) (by omega) (by omega)).mono ?_
    rintro E w4 ⟨v4,rfl,bq,aL⟩
    have dx:Own .u8 5 w.heap.size w4 v4 (nmb e n m 1):=by simpa[nmb]using bq.bz (base':=w.heap.size) (by omega)
    have aQ:=gm.trans (aL.mono (by omega))
    clear own bq aL
    go_wp2
    go_roundw
    case rel=>exact⟨1,by omega,rfl,dx,aQ⟩
    case measure=>simp[intOf]
   ·have hix:=Tryz.nx1 e n m
    have hwr:=wu n (by omega) (by omega)
    go_wp2_with fail
    refine(fK _ _ n _ own.is (by omega) (by omega) (by omega)).mono ?_
    rintro E w4 ⟨v4,rfl,bq,aL⟩
    have dx:Own .u8 5 w.heap.size w4 v4 (nmb e n m 2):=bq.bz (base':=w.heap.size) (by omega)
    have aQ:=gm.trans (aL.mono (by omega))
    clear own bq aL
    go_wp2
    go_roundw
    case rel=>exact⟨2,by omega,rfl,dx,aQ⟩
    case measure=>simp[intOf]
   ·have hix:=Tryz.nx2 e n m
    have hwr:=wu m (by omega) (by omega)
    go_wp2_with fail
    refine(fK _ _ m _ own.is (by omega) (by omega) (by omega)).mono ?_
    rintro E w4 ⟨v4,rfl,bq,aL⟩
    have dx:Own .u8 5 w.heap.size w4 v4 (nmb e n m 3):=by simpa[nmb]using bq.bz (base':=w.heap.size) (by omega)
    have aQ:=gm.trans (aL.mono (by omega))
    clear own bq aL
    go_wp2
    go_roundw
    case rel=>exact⟨3,by omega,rfl,dx,aQ⟩
    case measure=>simp[intOf]
   ·have x2:=(gm.cell (p:=⟨w.heap.size,2,none⟩) (show w.heap.size<w2.heap.size by omega)).trans d2
    have awe:=aO.trans (gm.mono aO.size)
    have hln3:=hln
    clear d0 d1 d2 gm aO hln
    go_wp2
    go_loopw [5,36] (fun bb kk ws=>∃k:Nat,k≤m∧kk=.int .i64 k∧Own .u8 5 w.heap.size ws bb (nmb e n m 3++Rn.iq (l.take k))∧Below w.heap.size w ws) (fun _ kk _=>m-(intOf kk).toNat)
    case atStart=>exact⟨0,by omega,rfl,by simpa[Rn.iq]using own,awe⟩
    case round=>
     obtain⟨k,hk,rfl,afm,aK⟩:=hrel
     have sz:=aK.size
     by_cases hlt:k<m
     ·obtain⟨o,ho⟩:∃o,l[k]? =some o:=⟨l[k]'(by have:=HN.out;omega),by rw[List.getElem?_eq_getElem]⟩
      obtain⟨b1,o1,cq,fH,_,_,hB,hcell⟩:=jd.out (by omega)
      simp only[Value.slice.injEq,true_and]at fH
      obtain⟨rfl,rfl⟩:=fH
      obtain⟨c0,c1,c2⟩:=hcell k o ho
      have d0:=(aK.cell (p:=⟨b1,o1+k*3,none⟩) hB).trans c0
      have d1:=(aK.cell (p:=⟨b1,o1+k*3+1,none⟩) hB).trans c1
      have d2:=(aK.cell (p:=⟨b1,o1+k*3+2,none⟩) hB).trans c2
      have HO:=hide ho
      clear c0 c1 c2 ho hcell
      have hlt':(k:Int)<m:=by omega
      obtain⟨hk1,hv1⟩:=HF.out o (List.mem_of_getElem? HO.out)
      obtain⟨W1,hW1,szw,rU,B1⟩:=au wr #[.bool o.p,.string o.k,.string o.v] 71
      have e0:=ai B1 0 rfl
      have e1:=ai B1 1 rfl
      have e2:=ai B1 2 rfl
      have b01:Below w.heap.size w W1:=aK.trans (rU.mono sz)
      have aZ:=afm.below rU
      have hoc:o.c=0:=Rn.tH HZ.out.2.2.2.2 o (List.mem_of_getElem? HO.out)
      clear B1 rU aK afm
      go_wp2_with fail
      refine(aoM (.slice none 0 0) [] o.p o.k o.v _ (Is.nil _ _) (by simp) hk1 hv1).mono ?_
      rintro E w5 ⟨v5,rfl,dx,aQ⟩
      have hok:Om.chk o.p o.k.data.toList o.v.data.toList=0:=hoc
      rw[Om.ag0 hok,List.nil_append]at dx
      rw[hok]
      have eY:=aZ.below aQ
      have qE:Below w.heap.size w w5:=b01.trans (aQ.mono b01.size)
      have yz:=qE.size
      have hle1:(Om.dG o.p o.k.data.toList o.v.data.toList).length≤51:=Om.sW hok
      have hle2:(Rn.iq (l.take k)).length≤51*1024:=by
       have:=Rn.afp (l:=l.take k) fun q hq=>Rn.tH HZ.out.2.2.2.2 q (List.mem_of_mem_take hq)
       rw[List.length_take]at this
       omega
      have is5:=dx.is
      have hlen:((nmb e n m 3++Rn.iq (l.take k)).length+(Om.dG o.p o.k.data.toList o.v.data.toList).length)*1≤150000000000000:=by
       rw[List.length_append]
       omega
      clear aZ dx aQ b01 e0 e1 e2 d0 d1 d2 hok hoc
      go_wp2_with (at_builtin;refine cK rfl (.tmp 45) (.tmp 46) 61 rfl .u8 5 w.heap.size 1 Tryz.underlying61 Tryz.info5 (by decide) _ _ rfl eY _ _ rfl is5 hlen yz ?_)
      rintro v7 w7 jw gT _
      have si:Own .u8 5 w.heap.size w7 v7 (nmb e n m 3++Rn.iq (l.take (k+1))):=by
       rw[am7 HO.out]
       exact jw
      have o8:=qE.trans gT
      clear eY jw is5 gT qE
      go_wp2
      go_roundw
      case rel=>exact⟨v7,_,_,_,.int .i64 ((k:Int)+1),_,_,_,_,_,_,_,_,_,_,_,_,⟨k+1,by omega,by go_num,si,o8⟩,rfl⟩
      case measure=>simp[intOf];omega
     ·have hlt':¬(k:Int)<m:=by omega
      have OW:Hid (Own .u8 5 w.heap.size wr u5 (Rn.out e n l)):=hide (by
       rw[Rn.jS HA.out,←arj,HN.out]
       rw[List.take_of_length_le (by have:=HN.out;omega)]at afm
       exact afm)
      clear afm
      go_wp2
      go_ret2
      exact⟨_,rfl,OW.out,aK⟩
 ·have hne:(ch !=0)=true:=by simp[h0]
  have HO:Hid (Rn.out e n l=[]):=hide (Rn.oO (by rw[HA.out];exact h0))
  go_wp2
  go_ret2
  exact⟨_,rfl,by rw[HO.out];exact Own.nil _ _ _ _,aO⟩
end Go.Proofs.YtlmkaljjocflmaaGreatDoor
