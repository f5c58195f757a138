/- Texts of one layer, one behind the other. -/
import Derived.Test.YtmngcecomcadkaaGreatDoorCM2
import Derived.Test.YtmngcecomcadkaaGreatDoorCH4
import Derived.Deep.RegionHeld3
import Derived.Test.YtmngcecomcadkaaGreatDoorCH2
import Derived.Test.YtmngcecomcadkaaGreatDoorCH6
import Derived.Test.YtmngcecomcadkaaGreatDoorCH15
import Derived.Test.YtmngcecomcadkaaGreatDoorCH5
import Derived.Test.YtmngcecomcadkaaGreatDoorCH8
import Derived.Test.YtmngcecomcadkaaGreatDoorCH10
import Derived.Lib.Bytealg
import Derived.Test.YtmngcecomcadkaaGreatDoorCH1
import Derived.RangeFuncNested
import Derived.RangeFuncBound
import Derived.RangeFuncCalls
import Derived.RangeFuncLeaves
import Derived.Shelf.RegionOpen
import Derived.WalkKit
import Derived.OwnWalkIn
import Derived.TacticsInMore
import Derived.LoopNIn
import Derived.LoopIn
import Derived.Lib.Walk
import Derived.Test.YtmngcecomcadkaaGreatDoorCH13
import Derived.Test.YtmngcecomcadkaaGreatDoorCH17
set_option maxRecDepth 100000
set_option maxHeartbeats 8000000
namespace Go.Proofs.YtmngcecomcadkaaGreatDoor
open Go.RowKit
open Bm (Ov)
set_option linter.unusedVariables false
theorem atn {a b:ByteArray}(h:Tm.lt b a=true):Op.bytesLess a.toList b.toList=false∧(a.toList==b.toList)=false:=by
 rw[Tm.ahK,Tm.eqk]
 exact⟨Tm.amj h,by simpa using(Tm.aa9 h).symm⟩
theorem arZ {a b:ByteArray}(h:Tm.lt b a=false):(Op.bytesLess a.toList b.toList=true∧a≠b)∨(Op.bytesLess a.toList b.toList=false∧(a.toList==b.toList)=true):=by
 rw[Tm.ahK,Tm.eqk]
 cases hl:Tm.lt a b with
 |true=>exact .inl ⟨rfl,Tm.aa9 hl⟩
 |false=>exact .inr ⟨rfl,by simpa using Tm.aap hl h⟩
theorem apO {l:List Ov}{k:Nat}{o:Ov}(h:Rn.may ⟨#[]⟩ (l.take k)=true)(ho:l[k]? =some o)(hc:o.c=0)(hlt:Tm.lt (Rn.sj ⟨#[]⟩ (l.take k)) o.k=true):Rn.may ⟨#[]⟩ (l.take (k+1))=true∧Rn.sj ⟨#[]⟩ (l.take (k+1))=o.k:=by
 obtain⟨h1,rfl⟩:=List.getElem?_eq_some_iff.1 ho
 rw[List.take_succ_eq_append_getElem h1,Rn.abZ,Rn.acQ,h]
 simp[Rn.may,hc,hlt]
theorem aez {l:List Ov}{k:Nat}{o:Ov}(ho:l[k]? =some o)(h:o.c≠0∨Tm.lt (Rn.sj ⟨#[]⟩ (l.take k)) o.k=false):Rn.may ⟨#[]⟩ l=false:=by
 obtain⟨h1,rfl⟩:=List.getElem?_eq_some_iff.1 ho
 have e:l=l.take k++(l[k]::l.drop (k+1)):=by rw[←List.drop_eq_getElem_cons h1,List.take_append_drop]
 have e2:Rn.may ⟨#[]⟩ l=Rn.may ⟨#[]⟩ (l.take k++(l[k]::l.drop (k+1))):=congrArg _ e
 rw[e2,Rn.abZ]
 rcases h with h|h<;>simp[Rn.may,h]
theorem apm (v:Value)(l:List Ov)(w:World)(h:dh w v l)(hf:iL l)(hl:l.length≤140737488355328):
  Calls Tryz.prog 230 #[v] w fun E w'=>E=.returned (.bool (Rn.may ⟨#[]⟩ l))∧Below w.heap.size w w':=by
 obtain⟨ans,dU⟩:∃x,Rn.may ⟨#[]⟩ l=x:=⟨_,rfl⟩
 rw[dU]
 have HA:=hide dU
 obtain⟨ao,cap,hsv,hcap,_⟩:=h.shape
 have pQ:=hide fun(h0:0<l.length)=>h.full h0
 subst hsv
 have HF:=hide hf
 obtain⟨n,hnn⟩:∃n,l.length=n:=⟨_,rfl⟩
 rw[hnn]at pQ hcap hl⊢
 have HN:=hide hnn
 clear h hf hnn dU
 go_enter Tryz.func230,Tryz.ntmps230
 go_wp2
 go_loopw [3,8] (fun av i wr=>∃(k:Nat) (ah:ByteArray),k≤n∧i=.int .i64 k∧av=.string ah∧Hid (Rn.may ⟨#[]⟩ (l.take k)=true∧Rn.sj ⟨#[]⟩ (l.take k)=ah)∧Below w.heap.size w wr) (fun _ i _=>n-(intOf i).toNat)
 case atStart=>exact⟨0,⟨#[]⟩,by omega,rfl,rfl,hide ⟨by simp[Rn.may],by simp[Rn.sj]⟩,Below.refl _ _⟩
 case round=>
  obtain⟨k,ah,hk,rfl,rfl,HT,aF⟩:=hrel
  have sz:=aF.size
  by_cases hlt:k<n
  ·obtain⟨o,ho⟩:∃o,l[k]? =some o:=⟨l[k]'(by have:=HN.out;omega),by rw[List.getElem?_eq_getElem]⟩
   obtain⟨b1,o1,cq,iw,_,_,hB,hcell⟩:=pQ.out (by omega)
   simp only[Value.slice.injEq,true_and]at iw
   obtain⟨rfl,rfl⟩:=iw
   obtain⟨c0,c1,c2⟩:=hcell k o ho
   have d0:=(aF.cell (p:=⟨b1,o1+k*3,none⟩) hB).trans c0
   have d1:=(aF.cell (p:=⟨b1,o1+k*3+1,none⟩) hB).trans c1
   have d2:=(aF.cell (p:=⟨b1,o1+k*3+2,none⟩) hB).trans c2
   have HO:=hide ho
   clear c0 c1 c2 ho hcell
   have hlt':(k:Int)<n:=by omega
   obtain⟨hk1,hv1⟩:=HF.out o (List.mem_of_getElem? HO.out)
   obtain⟨W1,hW1,aT,mf,B1⟩:=ak wr #[.bool o.p,.string o.k,.string o.v] 111
   have e0:=ai B1 0 rfl
   have e1:=ai B1 1 rfl
   have e2:=ai B1 2 rfl
   have b01:Below w.heap.size w W1:=aF.trans (mf.mono sz)
   clear B1 mf
   go_wp2_with fail
   refine(lN o.p o.k o.v _ hk1 hv1).mono ?_
   rintro E w1 ⟨rfl,aj⟩
   have au:Below w.heap.size w w1:=b01.trans (aj.mono (by omega))
   have e1':=(aj.cell (p:=⟨wr.heap.size,1,none⟩) (show wr.heap.size<W1.heap.size by omega)).trans e1
   clear aj d0 d1 d2 e0 e1 e2
   rcases(show Om.chk o.p o.k.data.toList o.v.data.toList=0∨_ from Om.yD _ _ _)with hc|hc
   ·rw[hc]
    have HC:=hide (show o.c=0 from hc)
    clear hc
    cases hlk:Tm.lt ah o.k with
    |true=>
     obtain⟨q1,q2⟩:=atn hlk
     have HT2:=hide (apO HT.out.1 HO.out HC.out (by rw[HT.out.2];exact hlk))
     clear hlk
     go_wp2
     go_roundw
     case rel=>exact⟨k+1,o.k,by omega,by go_num,rfl,HT2,au⟩
     case measure=>simp[intOf];omega
    |false=>
     have hfo:=HA.out
     rw[aez HO.out (.inr (by rw[HT.out.2];exact hlk))]at hfo
     subst hfo
     rcases arZ hlk with⟨q1,_⟩|⟨q1,q2⟩
     ·clear hlk
      go_wp2
      go_ret
      exact⟨rfl,au⟩
     ·clear hlk
      go_wp2
      go_ret
      exact⟨rfl,au⟩
   ·rw[hc]
    have hfo:=HA.out
    rw[aez HO.out (.inl (show o.c≠0 by unfold Bm.Ov.c Bm.Ov.kl Bm.Ov.vl;rw[hc];simp))]at hfo
    subst hfo
    clear hc
    go_wp2
    go_ret
    exact⟨rfl,au⟩
  ·have hlt':¬(k:Int)<n:=by omega
   have hfo:=HA.out
   have h1:=HT.out.1
   rw[List.take_of_length_le (by have:=HN.out;omega),hfo]at h1
   subst h1
   clear hfo
   go_wp2
   go_ret
   exact⟨rfl,aF⟩
theorem ahZ (e n:Int)(v:Value)(l:List Ov)(w:World)(h:dh w v l)(hf:iL l)(hl:l.length≤140737488355328):
  Calls Tryz.prog 207 #[bK e n v] w fun E w'=>E=.returned (.int .i64 (Rn.chk e n l))∧Below w.heap.size w w':=by
 unfold bK
 obtain⟨w1,hw1,aT,aj,hB⟩:=ak w #[.int .i64 e,.int .i64 n,v] 228
 have c0:=ai hB 0 rfl
 have c1:=ai hB 1 rfl
 have c2:=ai hB 2 rfl
 have HM:=hide (apm v l w1 (h.below aj) hf hl)
 obtain⟨ao,cap,rfl,_,_⟩:=h.shape
 obtain⟨ans,dU⟩:∃x,Rn.chk e n l=x:=⟨_,rfl⟩
 rw[dU]
 have HA:=hide dU
 have hlz:l.length=l.length:=rfl
 by_cases hlong:1024<l.length
 ·have hfo:=HA.out
  rw[Rn.an6 hlong]at hfo
  subst hfo
  have avF:(1024:Int)<(l.length:Int):=by omega
  generalize l.length=m at*
  clear HA HM h hf dU hB
  go_enter Tryz.func207,Tryz.ntmps207
  go_wp2
  go_ret
  exact⟨rfl,aj⟩
 have avF:¬(1024:Int)<(l.length:Int):=by omega
 by_cases h1:e<1
 ·have hfo:=HA.out
  rw[Rn.ik hlong fun h=>by omega]at hfo
  subst hfo
  generalize l.length=m at*
  clear HA HM h hf dU hB
  go_enter Tryz.func207,Tryz.ntmps207
  go_wp2
  go_ret
  exact⟨rfl,aj⟩
 by_cases h2:n<e
 ·have hfo:=HA.out
  rw[Rn.ik hlong fun h=>by omega]at hfo
  subst hfo
  generalize l.length=m at*
  clear HA HM h hf dU hB
  go_enter Tryz.func207,Tryz.ntmps207
  go_wp2
  go_ret
  exact⟨rfl,aj⟩
 by_cases h3:(1048576:Int)<n
 ·have hfo:=HA.out
  rw[Rn.ik hlong fun h=>by omega]at hfo
  subst hfo
  generalize l.length=m at*
  clear HA HM h hf dU hB
  go_enter Tryz.func207,Tryz.ntmps207
  go_wp2
  go_ret
  exact⟨rfl,aj⟩
 cases hm:Rn.may ⟨#[]⟩ l with
 |true=>
  have hfo:=HA.out
  rw[Rn.fZ hlong ⟨by omega,by omega,by omega,hm⟩]at hfo
  subst hfo
  rw[hm]at HM
  generalize l.length=m at*
  clear HA h hf dU hB hm
  go_enter Tryz.func207,Tryz.ntmps207
  go_wp2_with fail
  refine HM.out.mono ?_
  rintro E w2 ⟨rfl,au⟩
  have aL:=aj.trans (au.mono aj.size)
  go_wp2
  go_ret
  exact⟨rfl,aL⟩
 |false=>
  have hfo:=HA.out
  rw[Rn.ik hlong fun h=>by rw[hm]at h;simp at h]at hfo
  subst hfo
  rw[hm]at HM
  generalize l.length=m at*
  clear HA h hf dU hB hm
  go_enter Tryz.func207,Tryz.ntmps207
  go_wp2_with fail
  refine HM.out.mono ?_
  rintro E w2 ⟨rfl,au⟩
  have aL:=aj.trans (au.mono aj.size)
  go_wp2
  go_ret
  exact⟨rfl,aL⟩
end Go.Proofs.YtmngcecomcadkaaGreatDoor
namespace Go.Proofs.YtmngcecomcadkaaGreatDoor
open Go.RowKit
set_option linter.unusedVariables false
structure Rq (base:Nat) (w:World) (l:List Cm.Cv) (v:Value) (rs:List Cw):Prop where
 row:bn 228 base w v rs
 kN:dR base w rs
 is:ay rs=l
 good:Rl.Good 0 l
def QB (v:Value) (rs:List Cw) (g:Nat):Prop:=v.ownBlock=some g∨∃c∈rs,c.v.ownBlock=some g
section
variable {base base':Nat} {w w':World} {l:List Cm.Cv} {v:Value} {rs:List Cw} {F G:Nat→Prop}
theorem Rq.nil (base:Nat)(w:World):Rq base w [] (.slice none 0 0) []:=⟨bn.nil _ _ _,fun c hc=>by simp at hc,rfl,trivial⟩
theorem Rq.ty (h:Rq base w l v rs):∀g,QB v rs g→∃cs t,w.heap[g]? =some (.cells cs t (0,0))∧(t=228∨t=111):=by
 rintro g (hb|⟨c,hc,hb⟩)
 ·obtain⟨cs,e⟩:=h.row.type hb
  exact⟨_,_,e,.inl rfl⟩
 ·obtain⟨cs,e⟩:=(h.kN c hc).type hb
  exact⟨_,_,e,.inr rfl⟩
theorem Rq.agree (h:Rq base w l v rs)(ha:∀g,QB v rs g→w'.heap[g]? =w.heap[g]?):Rq base w' l v rs:=
 ⟨bN h.row fun b hb=>ha b (.inl hb),fun c hc=>bN (h.kN c hc) fun b hb=>ha b (.inr ⟨c,hc,hb⟩),h.is,h.good⟩
theorem Rq.len (h:Rq base w l v rs):rs.length=l.length:=by rw[←h.is,ay,List.length_map]
theorem Rq.atP (h:Rq base w l v rs):rs.length≤1048576:=by rw[h.len];exact(Rl.eO h.good).1
structure RkV (p q:Nat) (w:World) (l:List Cm.Cv) (bk:Bool) (v:Value) (rs:List Cw):Prop where
 blk:w.heap[p]? =some (.cells #[.pointer (some ⟨q,0,none⟩),.bool bk,v] 198 (0,0))
 log:Rq 0 w l v rs
def Rk (p q:Nat) (G:Nat→Prop) (w:World) (l:List Cm.Cv) (bk:Bool):Prop:=∃v rs,RkV p q w l bk v rs∧G=fun g=>g=p∨QB v rs g
theorem RkV.ty {p q:Nat}{bk:Bool}(h:RkV p q w l bk v rs):∀g,g=p∨QB v rs g→∃cs t,w.heap[g]? =some (.cells cs t (0,0))∧(t=198∨t=228∨t=111):=by
 rintro g (rfl|hg)
 ·exact⟨_,_,h.blk,.inl rfl⟩
 ·obtain⟨cs,t,e,ht⟩:=h.log.ty g hg
  exact⟨cs,t,e,.inr ht⟩
theorem Rk.ty {p q:Nat}{bk:Bool}(h:Rk p q G w l bk):∀g,G g→∃cs t,w.heap[g]? =some (.cells cs t (0,0))∧(t=198∨t=228∨t=111):=by
 obtain⟨v,rs,h,rfl⟩:=h
 exact h.ty
theorem Rk.lt {p q:Nat}{bk:Bool}(h:Rk p q G w l bk):∀g,G g→g<w.heap.size:=fun g hg=>by
 obtain⟨cs,t,e,_⟩:=h.ty g hg
 exact ax e
theorem Rk.agree {p q:Nat}{bk:Bool}(h:Rk p q G w l bk)(ha:∀g,G g→w'.heap[g]? =w.heap[g]?):Rk p q G w' l bk:=by
 obtain⟨v,rs,h,rfl⟩:=h
 exact⟨v,rs,⟨(ha p (.inl rfl)).trans h.blk,h.log.agree fun g hg=>ha g (.inr hg)⟩,rfl⟩
theorem Rk.below {p q:Nat}{bk:Bool}(h:Rk p q G w l bk)(hb:Below w.heap.size w w'):Rk p q G w' l bk:=h.agree fun g hg=>hb.block g (h.lt g hg)
theorem Rk.out {p q:Nat}{bk:Bool}(h:Rk p q G w l bk)(ho:Out F w w')(hd:∀g,G g→¬F g):Rk p q G w' l bk:=h.agree fun g hg=>ho.block g (h.lt g hg) (hd g hg)
theorem Rk.good {p q:Nat}{bk:Bool}(h:Rk p q G w l bk):Rl.Good 0 l:=by
 obtain⟨v,rs,h,rfl⟩:=h
 exact h.log.good
theorem aqb {p q q':Nat}{bk:Bool}{st:Dm.Ds}(h:Rk p q G w l bk)(k:Pk q' F w st):∀g,G g→¬F g:=by
 intro g hg hf
 obtain⟨cs,t,e,ht⟩:=h.ty g hg
 obtain⟨cs',t',fr,e',ht'⟩:=k.ty g hf
 rw[e]at e'
 simp only[Option.some.injEq,Obj.cells.injEq]at e'
 obtain⟨_,e2,_⟩:=e'
 subst e2
 rcases ht with rfl|rfl|rfl<;>rcases ht' with e|e|e<;>exact absurd e (by decide)
end
def RW (p q:Nat) (F:Nat→Prop) (w:World) (s:Rl.Rs):Prop:=∃F1 G1,Pk q F1 w s.d∧Rk p q G1 w s.l s.bk∧F=fun g=>F1 g∨G1 g
section
variable {p q:Nat} {F G:Nat→Prop} {w w' w1 w2:World} {s s':Rl.Rs} {st':Dm.Ds}
theorem RW.lt (h:RW p q F w s):∀g,F g→g<w.heap.size:=by
 obtain⟨F1,G1,h1,h2,rfl⟩:=h
 rintro g (hg|hg)
 ·exact h1.lt g hg
 ·exact h2.lt g hg
theorem RW.agree (h:RW p q F w s)(ha:∀g,F g→w'.heap[g]? =w.heap[g]?):RW p q F w' s:=by
 obtain⟨F1,G1,h1,h2,rfl⟩:=h
 exact⟨F1,G1,h1.agree fun g hg=>ha g (.inl hg),h2.agree fun g hg=>ha g (.inr hg),rfl⟩
theorem RW.below (h:RW p q F w s)(hb:Below w.heap.size w w'):RW p q F w' s:=h.agree fun g hg=>hb.block g (h.lt g hg)
theorem RW.out (h:RW p q F w s)(ho:Out G w w')(hd:∀g,F g→¬G g):RW p q F w' s:=h.agree fun g hg=>ho.block g (h.lt g hg) (hd g hg)
theorem RW.good (h:RW p q F w s):Rl.Good 0 s.l:=by
 obtain⟨F1,G1,h1,h2,rfl⟩:=h
 exact h2.good
end
end Go.Proofs.YtmngcecomcadkaaGreatDoor
namespace Go.Proofs.YtmngcecomcadkaaGreatDoor
open Go.RowKit
open Bm (Ov)
set_option linter.unusedVariables false
theorem Tryz.nx0 (a b c:Int)(w:World):(Instr.index 182 (.agg #[.int .i64 a,.int .i64 b,.int .i64 c]) (.int .i64 0)).run Tryz.prog w=.ok (.int .i64 a) w:=by kernel_rfl
theorem Tryz.nx1 (a b c:Int)(w:World):(Instr.index 182 (.agg #[.int .i64 a,.int .i64 b,.int .i64 c]) (.int .i64 1)).run Tryz.prog w=.ok (.int .i64 b) w:=by kernel_rfl
theorem Tryz.nx2 (a b c:Int)(w:World):(Instr.index 182 (.agg #[.int .i64 a,.int .i64 b,.int .i64 c]) (.int .i64 2)).run Tryz.prog w=.ok (.int .i64 c) w:=by kernel_rfl
theorem wM (z:Int)(h0:0≤z)(h1:z<9223372036854775808):IntKind.u64.wrap z=z:=by
 simp[IntKind.wrap,IntKind.bits,IntKind.signed]
 omega
def nmb (f u:Int) (m k:Nat):List Int:=match k with
 |0=>[]
 |1=>Vm.enc f.toNat
 |2=>Vm.enc f.toNat++Vm.enc u.toNat
 |_=>Vm.enc f.toNat++Vm.enc u.toNat++Vm.enc m
theorem asw {f u:Int}{m:Nat}(hf:f≤1048576)(hu:u≤1048576)(hm:m≤1024)(k:Nat):(nmb f u m k).length≤9:=by
 have a:=Cm.gy hf
 have b:=Cm.gy hu
 have c:(Vm.enc m).length≤3:=Vm.nT 2 m (by omega)
 unfold nmb
 split
 ·simp
 ·omega
 ·rw[List.length_append];omega
 ·rw[List.length_append,List.length_append];omega
theorem arG (f u:Int)(l:List Ov):nmb f u l.length 3++Rn.jm l=Rn.encR f u l:=by simp[nmb,Rn.encR]
theorem anI {l:List Ov}{k:Nat}{o:Ov}(h:l[k]? =some o):Rn.jm (l.take (k+1))=Rn.jm (l.take k)++Om.eG o.p o.kl o.vl:=by
 obtain⟨h1,rfl⟩:=List.getElem?_eq_some_iff.1 h
 rw[List.take_succ_eq_append_getElem h1,Rn.amG]
theorem aoY (e n:Int)(v:Value)(l:List Ov)(w:World)(h:dh w v l)(hf:iL l)(hl:l.length≤140737488355328):
  Calls Tryz.prog 231 #[bK e n v] w fun E w'=>∃vb,E=.returned (.tuple #[vb,.int .i64 (Rn.chk e n l)])∧Own .u8 5 w.heap.size w' vb (Rn.out e n l)∧Below w.heap.size w w':=by
 obtain⟨w1,hw1,aT,aj,hB⟩:=ak w #[.int .i64 e,.int .i64 n,v] 228
 have c0:=ai hB 0 rfl
 have c1:=ai hB 1 rfl
 have c2:=ai hB 2 rfl
 have HM:=hide (ahZ e n v l w1 (h.below aj) hf hl)
 have pQ:=hide fun(h0:0<l.length)=>h.full h0
 unfold bK at HM⊢
 obtain⟨ao,cap,rfl,_,_⟩:=h.shape
 obtain⟨ch,hch⟩:∃x,Rn.chk e n l=x:=⟨_,rfl⟩
 rw[hch]at HM⊢
 have HA:=hide hch
 have HF:=hide hf
 obtain⟨m,hmm⟩:∃m,l.length=m:=⟨_,rfl⟩
 rw[hmm]at pQ hl c2 hw1 HM⊢
 have HN:=hide hmm
 clear h hf hch hB hmm
 go_enter Tryz.func231,Tryz.ntmps231
 go_wp2_with fail
 refine HM.out.mono ?_
 rintro E w2 ⟨rfl,au⟩
 have dz:=au.size
 have aL:=aj.trans (au.mono aj.size)
 have d0:=(au.cell (p:=⟨w.heap.size,0,none⟩) (show w.heap.size<w1.heap.size by omega)).trans c0
 have d1:=(au.cell (p:=⟨w.heap.size,1,none⟩) (show w.heap.size<w1.heap.size by omega)).trans c1
 have d2:=(au.cell (p:=⟨w.heap.size,2,none⟩) (show w.heap.size<w1.heap.size by omega)).trans c2
 clear c0 c1 c2 HM au
 by_cases h0:ch=0
 ·subst h0
  have HZ:=hide (Rn.aO HA.out)
  obtain⟨g1,g2,g3,g4,_⟩:=HZ.out
  rw[HN.out]at g1
  have hml:(m:Int)≤1024:=by omega
  have HNM:=hide (fun k=>asw (f:=e) (u:=n) (m:=m) (by omega) g4 g1 k)
  go_wp2
  go_loopw [5,25] (fun bb kk wr=>∃k:Nat,k≤3∧kk=.int .i64 k∧Own .u8 5 w.heap.size wr bb (nmb e n m k)∧Below w2.heap.size w2 wr) (fun _ kk _=>4-(intOf kk).toNat)
  case atStart=>exact⟨0,by omega,rfl,Own.nil _ _ _ _,Below.refl _ _⟩
  case round=>
   obtain⟨k,hk,rfl,own,fC⟩:=hrel
   have szr:=fC.size
   have hln:=HNM.out k
   rcases(show k=0∨k=1∨k=2∨k=3 by omega)with rfl|rfl|rfl|rfl
   ·have hix:=Tryz.nx0 e n m
    have hwr:=wM e (by omega) (by omega)
    go_wp2_with fail
    refine(fO _ _ e _ own.is (by omega) (by omega) (by omega)).mono ?_
    rintro E w4 ⟨v4,rfl,aW,aK⟩
    have dw:Own .u8 5 w.heap.size w4 v4 (nmb e n m 1):=by simpa[nmb]using aW.bu (base':=w.heap.size) (by omega)
    have aZ:=fC.trans (aK.mono (by omega))
    clear own aW aK
    go_wp2
    go_roundw
    case rel=>exact⟨1,by omega,rfl,dw,aZ⟩
    case measure=>simp[intOf]
   ·have hix:=Tryz.nx1 e n m
    have hwr:=wM n (by omega) (by omega)
    go_wp2_with fail
    refine(fO _ _ n _ own.is (by omega) (by omega) (by omega)).mono ?_
    rintro E w4 ⟨v4,rfl,aW,aK⟩
    have dw:Own .u8 5 w.heap.size w4 v4 (nmb e n m 2):=aW.bu (base':=w.heap.size) (by omega)
    have aZ:=fC.trans (aK.mono (by omega))
    clear own aW aK
    go_wp2
    go_roundw
    case rel=>exact⟨2,by omega,rfl,dw,aZ⟩
    case measure=>simp[intOf]
   ·have hix:=Tryz.nx2 e n m
    have hwr:=wM m (by omega) (by omega)
    go_wp2_with fail
    refine(fO _ _ m _ own.is (by omega) (by omega) (by omega)).mono ?_
    rintro E w4 ⟨v4,rfl,aW,aK⟩
    have dw:Own .u8 5 w.heap.size w4 v4 (nmb e n m 3):=by simpa[nmb]using aW.bu (base':=w.heap.size) (by omega)
    have aZ:=fC.trans (aK.mono (by omega))
    clear own aW aK
    go_wp2
    go_roundw
    case rel=>exact⟨3,by omega,rfl,dw,aZ⟩
    case measure=>simp[intOf]
   ·have x2:=(fC.cell (p:=⟨w.heap.size,2,none⟩) (show w.heap.size<w2.heap.size by omega)).trans d2
    have apA:=aL.trans (fC.mono aL.size)
    have hln3:=hln
    clear d0 d1 d2 fC aL hln
    go_wp2
    go_loopw [5,36] (fun bb kk ws=>∃k:Nat,k≤m∧kk=.int .i64 k∧Own .u8 5 w.heap.size ws bb (nmb e n m 3++Rn.jm (l.take k))∧Below w.heap.size w ws) (fun _ kk _=>m-(intOf kk).toNat)
    case atStart=>exact⟨0,by omega,rfl,by simpa[Rn.jm]using own,apA⟩
    case round=>
     obtain⟨k,hk,rfl,afR,aF⟩:=hrel
     have sz:=aF.size
     by_cases hlt:k<m
     ·obtain⟨o,ho⟩:∃o,l[k]? =some o:=⟨l[k]'(by have:=HN.out;omega),by rw[List.getElem?_eq_getElem]⟩
      obtain⟨b1,o1,cq,iw,_,_,hB,hcell⟩:=pQ.out (by omega)
      simp only[Value.slice.injEq,true_and]at iw
      obtain⟨rfl,rfl⟩:=iw
      obtain⟨c0,c1,c2⟩:=hcell k o ho
      have d0:=(aF.cell (p:=⟨b1,o1+k*3,none⟩) hB).trans c0
      have d1:=(aF.cell (p:=⟨b1,o1+k*3+1,none⟩) hB).trans c1
      have d2:=(aF.cell (p:=⟨b1,o1+k*3+2,none⟩) hB).trans c2
      have HO:=hide ho
      clear c0 c1 c2 ho hcell
      have hlt':(k:Int)<m:=by omega
      obtain⟨hk1,hv1⟩:=HF.out o (List.mem_of_getElem? HO.out)
      obtain⟨W1,hW1,szw,mf,B1⟩:=ak wr #[.bool o.p,.string o.k,.string o.v] 111
      have e0:=ai B1 0 rfl
      have e1:=ai B1 1 rfl
      have e2:=ai B1 2 rfl
      have b01:Below w.heap.size w W1:=aF.trans (mf.mono sz)
      have aX:=afR.below mf
      have hoc:o.c=0:=Rn.adR HZ.out.2.2.2.2 o (List.mem_of_getElem? HO.out)
      clear B1 mf aF afR
      go_wp2_with fail
      refine(api (.slice none 0 0) [] o.p o.k o.v _ (Is.nil _ _) (by simp) hk1 hv1).mono ?_
      rintro E w5 ⟨v5,rfl,dw,aZ⟩
      have hok:Om.chk o.p o.k.data.toList o.v.data.toList=0:=hoc
      rw[Om.agO hok,List.nil_append]at dw
      rw[hok]
      have eT:=aX.below aZ
      have qF:Below w.heap.size w w5:=b01.trans (aZ.mono b01.size)
      have hz5:=qF.size
      have hle1:(Om.eG o.p o.k.data.toList o.v.data.toList).length≤51:=Om.vB hok
      have hle2:(Rn.jm (l.take k)).length≤51*1024:=by
       have:=Rn.aer (l:=l.take k) fun q hq=>Rn.adR HZ.out.2.2.2.2 q (List.mem_of_mem_take hq)
       rw[List.length_take]at this
       omega
      have is5:=dw.is
      have hlen:((nmb e n m 3++Rn.jm (l.take k)).length+(Om.eG o.p o.k.data.toList o.v.data.toList).length)*1≤150000000000000:=by
       rw[List.length_append]
       omega
      clear aX dw aZ b01 e0 e1 e2 d0 d1 d2 hok hoc
      go_wp2_with (at_builtin;refine bP rfl (.tmp 45) (.tmp 46) 61 rfl .u8 5 w.heap.size 1 Tryz.underlying61 Tryz.info5 (by decide) _ _ rfl eT _ _ rfl is5 hlen hz5 ?_)
      rintro v7 w7 je iV _
      have pE:Own .u8 5 w.heap.size w7 v7 (nmb e n m 3++Rn.jm (l.take (k+1))):=by
       rw[anI HO.out]
       exact je
      have lD:=qF.trans iV
      clear eT je is5 iV qF
      go_wp2
      go_roundw
      case rel=>exact⟨v7,_,_,_,.int .i64 ((k:Int)+1),_,_,_,_,_,_,_,_,_,_,_,_,⟨k+1,by omega,by go_num,pE,lD⟩,rfl⟩
      case measure=>simp[intOf];omega
     ·have hlt':¬(k:Int)<m:=by omega
      have OW:Hid (Own .u8 5 w.heap.size wr u5 (Rn.out e n l)):=hide (by
       rw[Rn.jd HA.out,←arG,HN.out]
       rw[List.take_of_length_le (by have:=HN.out;omega)]at afR
       exact afR)
      clear afR
      go_wp2
      go_ret2
      exact⟨_,rfl,OW.out,aF⟩
 ·have hne:(ch !=0)=true:=by simp[h0]
  have HO:Hid (Rn.out e n l=[]):=hide (Rn.oh (by rw[HA.out];exact h0))
  go_wp2
  go_ret2
  exact⟨_,rfl,by rw[HO.out];exact Own.nil _ _ _ _,aL⟩
end Go.Proofs.YtmngcecomcadkaaGreatDoor
namespace Go.Proofs.YtmngcecomcadkaaGreatDoor
open Go.RowKit
open Bm (Ov)
set_option linter.unusedVariables false
theorem Tryz.avr:Tryz.prog.underlying 61=some (.slice (Tryz.prog.elem 61)):=by kernel_rfl
theorem Tryz.ate (wx:World):(sizeOf (Tryz.prog.elem 61)).run Tryz.prog wx=.ok 1 wx:=by kernel_rfl
theorem ar0 {V:World}{R:Nat}{t:TypeId}{cs:Array Value}(hR:V.heap[R]? =some (.cells cs t (0,0)))(j:Nat)(u:Value):
  ∃V',V.setCell ⟨R,j,none⟩ u=V'∧V'.heap[R]? =some (.cells (cs.setIfInBounds j u) t (0,0))∧V.grownBy V' (some R)∧V.frozen? ⟨R,j,none⟩=false:=
 ⟨_,rfl,aH hR j u,az _ _ _,aA hR j⟩
def Nr (bs:List Int) (x y m k a:Nat):Prop:=match k with
 |0=>a=0
 |1=>Vm.enc x<+:bs∧a=Vm.sz x∧x≤1048576
 |2=>Vm.enc x<+:bs∧Vm.enc y<+:bs.drop (Vm.sz x)∧a=Vm.sz x+Vm.sz y∧x≤1048576∧y≤1048576
 |_=>Vm.enc x<+:bs∧Vm.enc y<+:bs.drop (Vm.sz x)∧Vm.enc m<+:bs.drop (Vm.sz x+Vm.sz y)∧a=Vm.sz x+Vm.sz y+Vm.sz m∧x≤1048576∧y≤1048576∧m≤1048576
structure RdO (bs:List Int) (w wr:World) (x y m a:Nat) (v:Value) (l:List Ov):Prop where
 blk:wr.heap[w.heap.size]? =some (.cells #[.int .i64 x,.int .i64 y,v] 228 (0,0))
 own:bg 111 (w.heap.size+2) wr v l
 aF:Below w.heap.size w wr
 sz:w.heap.size+2≤wr.heap.size
 nr:Nr bs x y m 3 (Vm.sz x+Vm.sz y+Vm.sz m)
 jm:Rn.jm l<+:bs.drop (Vm.sz x+Vm.sz y+Vm.sz m)
 ok:∀o∈l,o.c=0
 a:a=Vm.sz x+Vm.sz y+Vm.sz m+(Rn.jm l).length
end Go.Proofs.YtmngcecomcadkaaGreatDoor
namespace Go.Proofs.YtmngcecomcadkaaGreatDoor
open Go.RowKit
open Bm (Ov)
set_option linter.unusedVariables false
theorem uV {l:List Ov}(hu:Tm.Up l){s t:Nat}{o q:Ov}(hs:l[s]? =some o)(ht:l[t]? =some q)(h:s<t):Tm.lt o.k q.k=true:=by
 obtain⟨h1,rfl⟩:=List.getElem?_eq_some_iff.1 hs
 obtain⟨h2,rfl⟩:=List.getElem?_eq_some_iff.1 ht
 exact List.pairwise_iff_getElem.1 hu s t h1 h2 h
end Go.Proofs.YtmngcecomcadkaaGreatDoor
namespace Go.Proofs.YtmngcecomcadkaaGreatDoor
open Go.RowKit Go.Shelf
set_option linter.unusedVariables false
attribute [local go_sem] Oper.semAt_some
end Go.Proofs.YtmngcecomcadkaaGreatDoor
namespace Go.Proofs.YtmngcecomcadkaaGreatDoor
open Go.RowKit
set_option linter.unusedVariables false
theorem aja (x:Pm.Pg)(b n:Int)(g h:Nat)(w:World)(hg:w.heap[g]? =some (.cells #[.int .i64 n] 3 (0,0)))(hh:w.heap[h]? =some (.cells #[.int .i64 b] 3 (0,0))):
  Calls Tryz.prog 220 #[vp x,.pointer (some ⟨g,0,none⟩),.pointer (some ⟨h,0,none⟩)] w fun E w'=>E=.returned (.agg #[.int .i64 x.e,.int .u8 x.r,.int .i64 x.a,.int .u8 2,.int .i64 n,.int .i64 b])∧Below w.heap.size w w':=by
 obtain⟨w1,w2,hw1,hw2,aT,dz,au,⟨p0,p1,p2,p3,p4,p5⟩,PST⟩:=fP x w
 obtain⟨hP3,bM,B3,cB⟩:=PST.out w2 (Below.refl _ _)
 have lg:=ax hg
 have cg:w2.cell? ⟨g,0,none⟩=some (.int .i64 n):=ai ((au.block g lg).trans hg) 0 rfl
 have lh:=ax hh
 have ch:w2.cell? ⟨h,0,none⟩=some (.int .i64 b):=ai ((au.block h lh).trans hh) 0 rfl
 obtain⟨m0,hm0,abp,gm0,fm0⟩:=mi hP3 3 (.int .u8 2)
 have ae7:=(iF gm0 (by omega)).trans bM
 have Bm0:=aB B3 gm0 (Nat.le_refl _) (by omega)
 have apS:=gm0.size
 obtain⟨r00,r01,r02,r03,r04,r05⟩:vJ m0 w.heap.size (.int .i64 x.e) (.int .u8 x.r) (.int .i64 x.a) (.int .u8 2) (.int .i64 x.f) (.int .i64 x.b):=aN abp
 have cg0:m0.cell? ⟨g,0,none⟩=some (.int .i64 n):=ai ((Bm0.block g lg).trans hg) 0 rfl
 have ch0:m0.cell? ⟨h,0,none⟩=some (.int .i64 b):=ai ((Bm0.block h lh).trans hh) 0 rfl
 obtain⟨m1,hm1,apH,gm1,fm1⟩:=mi abp 4 (.int .i64 n)
 have avt:=(iF gm1 (by omega)).trans ae7
 have Bm1:=aB Bm0 gm1 (Nat.le_refl _) (by omega)
 have axR:=gm1.size
 obtain⟨r10,r11,r12,r13,r14,r15⟩:vJ m1 w.heap.size (.int .i64 x.e) (.int .u8 x.r) (.int .i64 x.a) (.int .u8 2) (.int .i64 n) (.int .i64 x.b):=aN apH
 have cg1:m1.cell? ⟨g,0,none⟩=some (.int .i64 n):=ai ((Bm1.block g lg).trans hg) 0 rfl
 have ch1:m1.cell? ⟨h,0,none⟩=some (.int .i64 b):=ai ((Bm1.block h lh).trans hh) 0 rfl
 obtain⟨m2,hm2,au2,gm2,fm2⟩:=mi apH 5 (.int .i64 b)
 have awS:=(iF gm2 (by omega)).trans avt
 have Bm2:=aB Bm1 gm2 (Nat.le_refl _) (by omega)
 have azb:=gm2.size
 obtain⟨r20,r21,r22,r23,r24,r25⟩:vJ m2 w.heap.size (.int .i64 x.e) (.int .u8 x.r) (.int .i64 x.a) (.int .u8 2) (.int .i64 n) (.int .i64 b):=aN au2
 have cg2:m2.cell? ⟨g,0,none⟩=some (.int .i64 n):=ai ((Bm2.block g lg).trans hg) 0 rfl
 have ch2:m2.cell? ⟨h,0,none⟩=some (.int .i64 b):=ai ((Bm2.block h lh).trans hh) 0 rfl
 obtain⟨Z,hZ,_,gZ,⟨a0,a1,a2,a3,a4,a5⟩,fr,⟨z0,z1,z2,z3,z4,z5⟩⟩:=eu awS (.int .i64 x.e) (.int .u8 x.r) (.int .i64 x.a) (.int .u8 2) (.int .i64 n) (.int .i64 b)
 have f0:=fr 0;have f1:=fr 1;have f2:=fr 2;have f3:=fr 3;have f4:=fr 4;have f5:=fr 5
 have BB:=hide (aB Bm2 gZ (by omega) (by omega))
 clear PST hP3 bM B3 cB gZ fr au abp gm0 ae7 Bm0 apS apH gm1 avt Bm1 axR au2 gm2 awS Bm2 azb hg lg hh lh
 unfold vp
 go_enter Tryz.func220,Tryz.ntmps220
 go_wp2
 go_region
 all_goals go_wp2
 all_goals
  refine bodyPost_ret (v:=.agg #[.int .i64 x.e,.int .u8 x.r,.int .i64 x.a,.int .u8 2,.int .i64 n,.int .i64 b]) (by simp[results,Tryz.results220,go_sem,z0,z1,z2,z3,z4,z5]) rfl ?_
  exact⟨rfl,BB.out.drew⟩
theorem abf (x:Pm.Pg)(q:Int)(g:Nat)(w:World)(hg:w.heap[g]? =some (.cells #[.int .u8 q] 44 (0,0))):
  Calls Tryz.prog 236 #[vp x,.pointer (some ⟨g,0,none⟩)] w fun E w'=>E=.returned (.agg #[.int .i64 x.e,.int .u8 x.r,.int .i64 x.a,.int .u8 q,.int .i64 x.f,.int .i64 x.b])∧Below w.heap.size w w':=by
 obtain⟨w1,w2,hw1,hw2,aT,dz,au,⟨p0,p1,p2,p3,p4,p5⟩,PST⟩:=fP x w
 obtain⟨hP3,bM,B3,cB⟩:=PST.out w2 (Below.refl _ _)
 have lg:=ax hg
 have cg:w2.cell? ⟨g,0,none⟩=some (.int .u8 q):=ai ((au.block g lg).trans hg) 0 rfl
 obtain⟨m0,hm0,abp,gm0,fm0⟩:=mi hP3 3 (.int .u8 q)
 have ae7:=(iF gm0 (by omega)).trans bM
 have Bm0:=aB B3 gm0 (Nat.le_refl _) (by omega)
 have apS:=gm0.size
 obtain⟨r00,r01,r02,r03,r04,r05⟩:vJ m0 w.heap.size (.int .i64 x.e) (.int .u8 x.r) (.int .i64 x.a) (.int .u8 q) (.int .i64 x.f) (.int .i64 x.b):=aN abp
 obtain⟨Z,hZ,_,gZ,⟨a0,a1,a2,a3,a4,a5⟩,fr,⟨z0,z1,z2,z3,z4,z5⟩⟩:=eu ae7 (.int .i64 x.e) (.int .u8 x.r) (.int .i64 x.a) (.int .u8 q) (.int .i64 x.f) (.int .i64 x.b)
 have f0:=fr 0;have f1:=fr 1;have f2:=fr 2;have f3:=fr 3;have f4:=fr 4;have f5:=fr 5
 have BB:=hide (aB Bm0 gZ (by omega) (by omega))
 clear PST hP3 bM B3 cB gZ fr au abp gm0 ae7 Bm0 apS hg lg
 unfold vp
 go_enter Tryz.func236,Tryz.ntmps236
 go_wp2
 refine bodyPost_ret (v:=.agg #[.int .i64 x.e,.int .u8 x.r,.int .i64 x.a,.int .u8 q,.int .i64 x.f,.int .i64 x.b]) (by simp[results,Tryz.results236,go_sem,z0,z1,z2,z3,z4,z5]) rfl ?_
 exact⟨rfl,BB.out⟩
theorem ajh (x:Pm.Pg)(w:World):
  Calls Tryz.prog 222 #[vp x] w fun E w'=>E=.returned (.agg #[.int .i64 x.e,.int .u8 2,.int .i64 0,.int .u8 0,.int .i64 0,.int .i64 0])∧Below w.heap.size w w':=by
 obtain⟨w1,w2,hw1,hw2,aT,dz,au,⟨p0,p1,p2,p3,p4,p5⟩,PST⟩:=fP x w
 obtain⟨hP3,bM,B3,cB⟩:=PST.out w2 (Below.refl _ _)
 obtain⟨Z,hZ,_,gZ,⟨a0,a1,a2,a3,a4,a5⟩,fr,⟨z0,z1,z2,z3,z4,z5⟩⟩:=eu bM (.int .i64 x.e) (.int .u8 2) (.int .i64 0) (.int .u8 0) (.int .i64 0) (.int .i64 0)
 have f0:=fr 0;have f1:=fr 1;have f2:=fr 2;have f3:=fr 3;have f4:=fr 4;have f5:=fr 5
 have BB:=hide (aB B3 gZ (by omega) (by omega))
 clear PST hP3 bM B3 cB gZ fr au
 unfold vp
 go_enter Tryz.func222,Tryz.ntmps222
 go_wp2
 refine bodyPost_ret (v:=.agg #[.int .i64 x.e,.int .u8 2,.int .i64 0,.int .u8 0,.int .i64 0,.int .i64 0]) (by simp[results,Tryz.results222,go_sem,z0,z1,z2,z3,z4,z5]) rfl ?_
 exact⟨rfl,BB.out⟩
theorem acv (q:Int)(w:World):
  Calls Tryz.prog 221 #[.int .u8 q] w fun E w'=>E=.returned (.func (.func 236) #[] #[.pointer (some ⟨w.heap.size,0,none⟩)])∧w'.heap.size=w.heap.size+1∧w'.heap[w.heap.size]? =some (.cells #[.int .u8 q] 44 (0,0))∧Below w.heap.size w w':=by
 have rG:∀(fn:Fn) (first cap:Array Value) (w:World),(Instr.makeFunc fn first cap).run Tryz.prog w=.ok (.func fn first cap) w:=fun _ _ _ _=>rfl
 obtain⟨w1,hw1,aT,aj,hP⟩:=ak w #[.int .u8 q] 44
 have R:=hide (And.intro aT (And.intro hP aj))
 clear aT hP aj
 go_enter Tryz.func221,Tryz.ntmps221
 go_wp2
 go_ret
 exact⟨rfl,R.out⟩
structure Tbl (B:Nat) (n b:Int) (w:World):Prop where
 h0:w.heap[B]? =some (.cells #[.int .i64 n] 3 (0,0))
 h1:w.heap[B+1]? =some (.cells #[.int .i64 b] 3 (0,0))
 h3:w.heap[B+3]? =some (.cells #[.int .u8 3] 44 (0,0))
 h4:w.heap[B+4]? =some (.cells #[.int .u8 4] 44 (0,0))
def anF (B:Nat):Value:=.agg #[.func (.func 218) #[] #[.pointer (some ⟨B,0,none⟩)],.func (.func 219) #[] #[.pointer (some ⟨B,0,none⟩)],.func (.func 220) #[] #[.pointer (some ⟨B,0,none⟩),.pointer (some ⟨B+1,0,none⟩)],.func (.func 236) #[] #[.pointer (some ⟨B+3,0,none⟩)],.func (.func 236) #[] #[.pointer (some ⟨B+4,0,none⟩)],.func (.func 222) #[] #[],.func (.func 223) #[] #[.pointer (some ⟨B,0,none⟩)]]
theorem ay0 {V:World}{R:Nat}{t:TypeId}{u:Value}(hR:V.heap[R]? =some (.cells #[u,u,u,u,u,u,u] t (0,0)))(a b c d e f g:Value):
  ∃V',((((((V.setCell ⟨R,0,none⟩ a).setCell ⟨R,1,none⟩ b).setCell ⟨R,2,none⟩ c).setCell ⟨R,3,none⟩ d).setCell ⟨R,4,none⟩ e).setCell ⟨R,5,none⟩ f).setCell ⟨R,6,none⟩ g=V'∧V'.heap[R]? =some (.cells #[a,b,c,d,e,f,g] t (0,0))∧V.grownBy V' (some R):=by
 have h0:(V.setCell ⟨R,0,none⟩ a).heap[R]? =some (.cells #[a,u,u,u,u,u,u] t (0,0)):=aH hR 0 a
 have h1:((V.setCell ⟨R,0,none⟩ a).setCell ⟨R,1,none⟩ b).heap[R]? =some (.cells #[a,b,u,u,u,u,u] t (0,0)):=aH h0 1 b
 have h2:(((V.setCell ⟨R,0,none⟩ a).setCell ⟨R,1,none⟩ b).setCell ⟨R,2,none⟩ c).heap[R]? =some (.cells #[a,b,c,u,u,u,u] t (0,0)):=aH h1 2 c
 have h3:((((V.setCell ⟨R,0,none⟩ a).setCell ⟨R,1,none⟩ b).setCell ⟨R,2,none⟩ c).setCell ⟨R,3,none⟩ d).heap[R]? =some (.cells #[a,b,c,d,u,u,u] t (0,0)):=aH h2 3 d
 have h4:(((((V.setCell ⟨R,0,none⟩ a).setCell ⟨R,1,none⟩ b).setCell ⟨R,2,none⟩ c).setCell ⟨R,3,none⟩ d).setCell ⟨R,4,none⟩ e).heap[R]? =some (.cells #[a,b,c,d,e,u,u] t (0,0)):=aH h3 4 e
 have h5:((((((V.setCell ⟨R,0,none⟩ a).setCell ⟨R,1,none⟩ b).setCell ⟨R,2,none⟩ c).setCell ⟨R,3,none⟩ d).setCell ⟨R,4,none⟩ e).setCell ⟨R,5,none⟩ f).heap[R]? =some (.cells #[a,b,c,d,e,f,u] t (0,0)):=aH h4 5 f
 have h:(((((((V.setCell ⟨R,0,none⟩ a).setCell ⟨R,1,none⟩ b).setCell ⟨R,2,none⟩ c).setCell ⟨R,3,none⟩ d).setCell ⟨R,4,none⟩ e).setCell ⟨R,5,none⟩ f).setCell ⟨R,6,none⟩ g).heap[R]? =some (.cells #[a,b,c,d,e,f,g] t (0,0)):=aH h5 6 g
 refine⟨_,rfl,h,?_⟩
 exact aG (aG (aG (aG (aG (aG (az V ⟨R,0,none⟩ a) (az _ ⟨R,1,none⟩ b)) (az _ ⟨R,2,none⟩ c)) (az _ ⟨R,3,none⟩ d)) (az _ ⟨R,4,none⟩ e)) (az _ ⟨R,5,none⟩ f)) (az _ ⟨R,6,none⟩ g)
theorem uP (n b:Int)(w:World):
  Calls Tryz.prog 200 #[.int .i64 n,.int .i64 b] w fun E w'=>E=.returned (anF w.heap.size)∧Tbl w.heap.size n b w'∧Below w.heap.size w w':=by
 have rG:∀(fn:Fn) (first cap:Array Value) (w:World),(Instr.makeFunc fn first cap).run Tryz.prog w=.ok (.func fn first cap) w:=fun _ _ _ _=>rfl
 have hsf:∀(a:Addr) (fn:Fn) (first cap:Array Value) (w:World),(store a (.func fn first cap)).run Tryz.prog w=stored Tryz.prog w a (.func fn first cap) .plain:=fun a fn first cap w=>run_store _ w a _ _ rfl
 obtain⟨w1,hw1,aT,aj,hP1⟩:=ak w #[.int .i64 n] 3
 obtain⟨w2,hw2,s2,au,hP2⟩:=ak w1 #[.int .i64 b] 3
 obtain⟨w3,hw3,s3,aD,hP3⟩:=ak w2 #[.nilFunc,.nilFunc,.nilFunc,.nilFunc,.nilFunc,.nilFunc,.nilFunc] 246
 have dz:w2.heap.size=w.heap.size+2:=by omega
 have cB:w3.heap.size=w.heap.size+3:=by omega
 rw[aT]at hP2
 rw[dz]at hP3
 have W3:=hide (And.intro ((aD.block _ (by omega)).trans ((au.block _ (by omega)).trans hP1)) (And.intro ((aD.block _ (by omega)).trans hP2) (And.intro hP3 (aj.trans ((au.mono (by omega)).trans (aD.mono (by omega)))))))
 have C3:=hide (acv 3 w3)
 clear aj au aD hP1 hP2 hP3 s2 s3
 go_enter Tryz.func200,Tryz.ntmps200
 go_wp2_with fail
 refine C3.out.mono ?_
 rintro E w4 ⟨rfl,s4,hP4,b4⟩
 have C4:=hide (acv 4 w4)
 have W4:=hide (And.intro hP4 b4)
 have lZ:w4.heap.size=w.heap.size+4:=by omega
 clear C3 hP4 b4 s4
 go_wp2_with fail
 refine C4.out.mono ?_
 rintro E w5 ⟨rfl,tQ,hP5,b5⟩
 obtain⟨p1,p2,p3,bw⟩:=W3.out
 obtain⟨p4,b4⟩:=W4.out
 rw[lZ]at hP5
 rw[cB]at p4
 have b35:=b4.trans (b5.mono (by omega))
 have q1:=(b35.block _ (by omega)).trans p1
 have q2:=(b35.block _ (by omega)).trans p2
 have q3:=(b35.block _ (by omega)).trans p3
 have q4:=(b5.block _ (by omega)).trans p4
 obtain⟨Z,hZ,hZR,gZ⟩:=ay0 q3 (.func (.func 218) #[] #[.pointer (some ⟨w.heap.size,0,none⟩)]) (.func (.func 219) #[] #[.pointer (some ⟨w.heap.size,0,none⟩)]) (.func (.func 220) #[] #[.pointer (some ⟨w.heap.size,0,none⟩),.pointer (some ⟨w.heap.size+1,0,none⟩)]) (.func (.func 236) #[] #[.pointer (some ⟨w.heap.size+3,0,none⟩)]) (.func (.func 236) #[] #[.pointer (some ⟨w.heap.size+4,0,none⟩)]) (.func (.func 222) #[] #[]) (.func (.func 223) #[] #[.pointer (some ⟨w.heap.size,0,none⟩)])
 have R:Hid (Tbl w.heap.size n b Z∧Below w.heap.size w Z):=hide ⟨⟨(gZ.block _ (by omega) (by simp)).trans q1,(gZ.block _ (by omega) (by simp)).trans q2,(gZ.block _ (by omega) (by simp)).trans q4,(gZ.block _ (by omega) (by simp)).trans hP5⟩,aB (bw.trans (b35.mono (by omega))) gZ (by omega) (by omega)⟩
 have a0:w5.cell? ⟨w.heap.size+2,0,none⟩=some .nilFunc:=ai q3 0 rfl
 have f0:=aA q3 0
 have z0:Z.cell? ⟨w.heap.size+2,0,none⟩=some (.func (.func 218) #[] #[.pointer (some ⟨w.heap.size,0,none⟩)]):=ai hZR 0 rfl
 have a1:w5.cell? ⟨w.heap.size+2,1,none⟩=some .nilFunc:=ai q3 1 rfl
 have f1:=aA q3 1
 have z1:Z.cell? ⟨w.heap.size+2,1,none⟩=some (.func (.func 219) #[] #[.pointer (some ⟨w.heap.size,0,none⟩)]):=ai hZR 1 rfl
 have a2:w5.cell? ⟨w.heap.size+2,2,none⟩=some .nilFunc:=ai q3 2 rfl
 have f2:=aA q3 2
 have z2:Z.cell? ⟨w.heap.size+2,2,none⟩=some (.func (.func 220) #[] #[.pointer (some ⟨w.heap.size,0,none⟩),.pointer (some ⟨w.heap.size+1,0,none⟩)]):=ai hZR 2 rfl
 have a3:w5.cell? ⟨w.heap.size+2,3,none⟩=some .nilFunc:=ai q3 3 rfl
 have f3:=aA q3 3
 have z3:Z.cell? ⟨w.heap.size+2,3,none⟩=some (.func (.func 236) #[] #[.pointer (some ⟨w.heap.size+3,0,none⟩)]):=ai hZR 3 rfl
 have a4:w5.cell? ⟨w.heap.size+2,4,none⟩=some .nilFunc:=ai q3 4 rfl
 have f4:=aA q3 4
 have z4:Z.cell? ⟨w.heap.size+2,4,none⟩=some (.func (.func 236) #[] #[.pointer (some ⟨w.heap.size+4,0,none⟩)]):=ai hZR 4 rfl
 have a5:w5.cell? ⟨w.heap.size+2,5,none⟩=some .nilFunc:=ai q3 5 rfl
 have f5:=aA q3 5
 have z5:Z.cell? ⟨w.heap.size+2,5,none⟩=some (.func (.func 222) #[] #[]):=ai hZR 5 rfl
 have a6:w5.cell? ⟨w.heap.size+2,6,none⟩=some .nilFunc:=ai q3 6 rfl
 have f6:=aA q3 6
 have z6:Z.cell? ⟨w.heap.size+2,6,none⟩=some (.func (.func 223) #[] #[.pointer (some ⟨w.heap.size,0,none⟩)]):=ai hZR 6 rfl
 rw[lZ]
 clear p1 p2 p3 p4 q1 q2 q3 q4 b35 b4 b5 bw hP5 hZR gZ C4 W3 W4 tQ
 go_wp2
 refine bodyPost_ret (v:=anF w.heap.size) (by simp[results,Tryz.results200,go_sem,anF,z0,z1,z2,z3,z4,z5,z6]) rfl ?_
 exact⟨rfl,R.out⟩
theorem Tryz.axl (f0 f1 f2 f3 f4 f5 f6:Value)(w:World):(Instr.index 246 (.agg #[f0,f1,f2,f3,f4,f5,f6]) (.int .i64 2)).run Tryz.prog w=.ok f2 w:=by kernel_rfl
theorem Tryz.axh (f0 f1 f2 f3 f4 f5 f6:Value)(w:World):(Instr.index 246 (.agg #[f0,f1,f2,f3,f4,f5,f6]) (.int .i64 3)).run Tryz.prog w=.ok f3 w:=by kernel_rfl
theorem Tryz.axr (f0 f1 f2 f3 f4 f5 f6:Value)(w:World):(Instr.index 246 (.agg #[f0,f1,f2,f3,f4,f5,f6]) (.int .i64 4)).run Tryz.prog w=.ok f4 w:=by kernel_rfl
theorem Tryz.axg (f0 f1 f2 f3 f4 f5 f6:Value)(w:World):(Instr.index 246 (.agg #[f0,f1,f2,f3,f4,f5,f6]) (.int .i64 5)).run Tryz.prog w=.ok f5 w:=by kernel_rfl
theorem xU (x:Pm.Pg)(k n b:Int)(w:World)(h:Rol.own x≠k):
  Calls Tryz.prog 171 #[vp x,.int .i64 k,.int .i64 n,.int .i64 b] w fun E w'=>E=.returned (.tuple #[.agg #[.int .i64 0,.int .u8 0,.int .i64 0,.int .u8 0,.int .i64 0,.int .i64 0],.int .i64 15])∧Below w.heap.size w w':=by
 obtain⟨w1,w2,hw1,hw2,aT,dz,au,⟨p0,p1,p2,p3,p4,p5⟩,PST⟩:=fP x w
 have C0:=hide (qJ x w2)
 have hb:(Rol.own x !=k)=true:=by simpa using h
 generalize Rol.own x=o at*
 clear au h
 unfold vp
 go_enter Tryz.func171,Tryz.ntmps171
 go_wp2_with fail
 refine C0.out.mono ?_
 rintro E w3 ⟨rfl,b3⟩
 obtain⟨hP3,bM,B3,cB⟩:=PST.out w3 b3
 obtain⟨Z,hZ,_,gZ,⟨a0,a1,a2,a3,a4,a5⟩,fr,⟨z0,z1,z2,z3,z4,z5⟩⟩:=eu bM (.int .i64 0) (.int .u8 0) (.int .i64 0) (.int .u8 0) (.int .i64 0) (.int .i64 0)
 have f0:=fr 0;have f1:=fr 1;have f2:=fr 2;have f3:=fr 3;have f4:=fr 4;have f5:=fr 5
 have BB:=hide (aB B3 gZ (by omega) (by omega))
 clear C0 PST b3 hP3 bM B3 cB gZ fr p0 p1 p2 p3 p4 p5
 go_wp2
 refine bodyPost_ret (v:=.tuple #[.agg #[.int .i64 0,.int .u8 0,.int .i64 0,.int .u8 0,.int .i64 0,.int .i64 0],.int .i64 15]) (by simp[results,Tryz.results171,go_sem,z0,z1,z2,z3,z4,z5]) rfl ?_
 exact⟨rfl,BB.out⟩
theorem akA (x:Pm.Pg)(n b:Int)(w:World)(h:Rol.own x=2):
  Calls Tryz.prog 171 #[vp x,.int .i64 2,.int .i64 n,.int .i64 b] w fun E w'=>E=.returned (.tuple #[.agg #[.int .i64 x.e,.int .u8 x.r,.int .i64 x.a,.int .u8 2,.int .i64 n,.int .i64 b],.int .i64 0])∧Below w.heap.size w w':=by
 obtain⟨w1,w2,hw1,hw2,aT,dz,au,⟨p0,p1,p2,p3,p4,p5⟩,PST⟩:=fP x w
 have C0:=hide (qJ x w2)
 rw[h]at C0
 have CC:Hid (∀W,Below w2.heap.size w2 W→Calls Tryz.prog 200 #[.int .i64 n,.int .i64 b] W fun E w'=>∃B,E=.returned (.agg #[.func (.func 218) #[] #[.pointer (some ⟨B,0,none⟩)],.func (.func 219) #[] #[.pointer (some ⟨B,0,none⟩)],.func (.func 220) #[] #[.pointer (some ⟨B,0,none⟩),.pointer (some ⟨B+1,0,none⟩)],.func (.func 236) #[] #[.pointer (some ⟨B+3,0,none⟩)],.func (.func 236) #[] #[.pointer (some ⟨B+4,0,none⟩)],.func (.func 222) #[] #[],.func (.func 223) #[] #[.pointer (some ⟨B,0,none⟩)]])∧Tbl B n b w'∧Below w2.heap.size w2 w'):=hide fun W hW=>(uP n b W).mono fun E w' h=>⟨W.heap.size,h.1,h.2.1,hW.trans (h.2.2.mono hW.size)⟩
 clear au h
 unfold vp
 go_enter Tryz.func171,Tryz.ntmps171
 go_wp2_with fail
 refine C0.out.mono ?_
 rintro E w3 ⟨rfl,b3⟩
 obtain⟨hP3,bM,B3,cB⟩:=PST.out w3 b3
 have Sk3:=hide (il hP3)
 have B3':=hide b3
 clear C0 b3 hP3 bM B3 cB p0 p1 p2 p3 p4 p5
 go_wp2_with fail
 have hix:=Tryz.axl
 go_region_held3 (fun W=>W.cell? ⟨w.heap.size,0,none⟩=some (.int .i64 x.e)∧W.cell? ⟨w.heap.size,1,none⟩=some (.int .u8 x.r)∧W.cell? ⟨w.heap.size,2,none⟩=some (.int .i64 x.a)∧W.cell? ⟨w.heap.size,3,none⟩=some (.int .u8 x.p)∧W.cell? ⟨w.heap.size,4,none⟩=some (.int .i64 x.f)∧W.cell? ⟨w.heap.size,5,none⟩=some (.int .i64 x.b)) (first|exact Sk7.out|exact Sk6.out|exact Sk4.out|exact Sk3.out|go_keep)
  (first
  |(go_at_call 200;refine(CC.out _ B3'.out.drew).mono ?_;rintro E w4 ⟨B,rfl,t4,b4⟩;have T4:=hide t4;have B4:=hide b4;have Sk4:=hide (il (PST.out w4 b4).1);clear t4 b4)
  |(go_at_call 220;refine(aja x b n B (B+1) _ T4.out.h0 T4.out.h1).mono ?_;rintro E w6 ⟨rfl,b6⟩;obtain⟨qE,qj,B6,mY⟩:=PST.out w6 (B4.out.trans (b6.mono B4.out.size));obtain⟨Z,hZ,_,gZ,⟨a0,a1,a2,a3,a4,a5⟩,fr,⟨z0,z1,z2,z3,z4,z5⟩⟩:=eu qj (.int .i64 x.e) (.int .u8 x.r) (.int .i64 x.a) (.int .u8 2) (.int .i64 n) (.int .i64 b);have f0:=fr 0;have f1:=fr 1;have f2:=fr 2;have f3:=fr 3;have f4:=fr 4;have f5:=fr 5;have BB:=hide (aB B6 gZ (by omega) (by omega));have Sk6:=hide (il qE);have Sk7:=hide (il ((iF gZ ⟨by omega,by omega⟩).trans qE));clear b6 qE qj B6 mY gZ fr))
 all_goals
  go_wp2
  refine bodyPost_ret (v:=.tuple #[.agg #[.int .i64 x.e,.int .u8 x.r,.int .i64 x.a,.int .u8 2,.int .i64 n,.int .i64 b],.int .i64 0]) (by simp[results,Tryz.results171,go_sem,z0,z1,z2,z3,z4,z5]) rfl ?_
  exact⟨rfl,BB.out⟩
theorem ajK (x:Pm.Pg)(n b:Int)(w:World)(h:Rol.own x=3):
  Calls Tryz.prog 171 #[vp x,.int .i64 3,.int .i64 n,.int .i64 b] w fun E w'=>E=.returned (.tuple #[.agg #[.int .i64 x.e,.int .u8 x.r,.int .i64 x.a,.int .u8 3,.int .i64 x.f,.int .i64 x.b],.int .i64 0])∧Below w.heap.size w w':=by
 obtain⟨w1,w2,hw1,hw2,aT,dz,au,⟨p0,p1,p2,p3,p4,p5⟩,PST⟩:=fP x w
 have C0:=hide (qJ x w2)
 rw[h]at C0
 have CC:Hid (∀W,Below w2.heap.size w2 W→Calls Tryz.prog 200 #[.int .i64 n,.int .i64 b] W fun E w'=>∃B,E=.returned (.agg #[.func (.func 218) #[] #[.pointer (some ⟨B,0,none⟩)],.func (.func 219) #[] #[.pointer (some ⟨B,0,none⟩)],.func (.func 220) #[] #[.pointer (some ⟨B,0,none⟩),.pointer (some ⟨B+1,0,none⟩)],.func (.func 236) #[] #[.pointer (some ⟨B+3,0,none⟩)],.func (.func 236) #[] #[.pointer (some ⟨B+4,0,none⟩)],.func (.func 222) #[] #[],.func (.func 223) #[] #[.pointer (some ⟨B,0,none⟩)]])∧Tbl B n b w'∧Below w2.heap.size w2 w'):=hide fun W hW=>(uP n b W).mono fun E w' h=>⟨W.heap.size,h.1,h.2.1,hW.trans (h.2.2.mono hW.size)⟩
 clear au h
 unfold vp
 go_enter Tryz.func171,Tryz.ntmps171
 go_wp2_with fail
 refine C0.out.mono ?_
 rintro E w3 ⟨rfl,b3⟩
 obtain⟨hP3,bM,B3,cB⟩:=PST.out w3 b3
 have Sk3:=hide (il hP3)
 have B3':=hide b3
 clear C0 b3 hP3 bM B3 cB p0 p1 p2 p3 p4 p5
 go_wp2_with fail
 have hix:=Tryz.axh
 go_region_held3 (fun W=>W.cell? ⟨w.heap.size,0,none⟩=some (.int .i64 x.e)∧W.cell? ⟨w.heap.size,1,none⟩=some (.int .u8 x.r)∧W.cell? ⟨w.heap.size,2,none⟩=some (.int .i64 x.a)∧W.cell? ⟨w.heap.size,3,none⟩=some (.int .u8 x.p)∧W.cell? ⟨w.heap.size,4,none⟩=some (.int .i64 x.f)∧W.cell? ⟨w.heap.size,5,none⟩=some (.int .i64 x.b)) (first|exact Sk7.out|exact Sk6.out|exact Sk4.out|exact Sk3.out|go_keep)
  (first
  |(go_at_call 200;refine(CC.out _ B3'.out.drew).mono ?_;rintro E w4 ⟨B,rfl,t4,b4⟩;have T4:=hide t4;have B4:=hide b4;have Sk4:=hide (il (PST.out w4 b4).1);clear t4 b4)
  |(go_at_call 236;refine(abf x 3 (B+3) _ T4.out.h3).mono ?_;rintro E w6 ⟨rfl,b6⟩;obtain⟨qE,qj,B6,mY⟩:=PST.out w6 (B4.out.trans (b6.mono B4.out.size));obtain⟨Z,hZ,_,gZ,⟨a0,a1,a2,a3,a4,a5⟩,fr,⟨z0,z1,z2,z3,z4,z5⟩⟩:=eu qj (.int .i64 x.e) (.int .u8 x.r) (.int .i64 x.a) (.int .u8 3) (.int .i64 x.f) (.int .i64 x.b);have f0:=fr 0;have f1:=fr 1;have f2:=fr 2;have f3:=fr 3;have f4:=fr 4;have f5:=fr 5;have BB:=hide (aB B6 gZ (by omega) (by omega));have Sk6:=hide (il qE);have Sk7:=hide (il ((iF gZ ⟨by omega,by omega⟩).trans qE));clear b6 qE qj B6 mY gZ fr))
 all_goals
  go_wp2
  refine bodyPost_ret (v:=.tuple #[.agg #[.int .i64 x.e,.int .u8 x.r,.int .i64 x.a,.int .u8 3,.int .i64 x.f,.int .i64 x.b],.int .i64 0]) (by simp[results,Tryz.results171,go_sem,z0,z1,z2,z3,z4,z5]) rfl ?_
  exact⟨rfl,BB.out⟩
theorem amf (x:Pm.Pg)(n b:Int)(w:World)(h:Rol.own x=4):
  Calls Tryz.prog 171 #[vp x,.int .i64 4,.int .i64 n,.int .i64 b] w fun E w'=>E=.returned (.tuple #[.agg #[.int .i64 x.e,.int .u8 x.r,.int .i64 x.a,.int .u8 4,.int .i64 x.f,.int .i64 x.b],.int .i64 0])∧Below w.heap.size w w':=by
 obtain⟨w1,w2,hw1,hw2,aT,dz,au,⟨p0,p1,p2,p3,p4,p5⟩,PST⟩:=fP x w
 have C0:=hide (qJ x w2)
 rw[h]at C0
 have CC:Hid (∀W,Below w2.heap.size w2 W→Calls Tryz.prog 200 #[.int .i64 n,.int .i64 b] W fun E w'=>∃B,E=.returned (.agg #[.func (.func 218) #[] #[.pointer (some ⟨B,0,none⟩)],.func (.func 219) #[] #[.pointer (some ⟨B,0,none⟩)],.func (.func 220) #[] #[.pointer (some ⟨B,0,none⟩),.pointer (some ⟨B+1,0,none⟩)],.func (.func 236) #[] #[.pointer (some ⟨B+3,0,none⟩)],.func (.func 236) #[] #[.pointer (some ⟨B+4,0,none⟩)],.func (.func 222) #[] #[],.func (.func 223) #[] #[.pointer (some ⟨B,0,none⟩)]])∧Tbl B n b w'∧Below w2.heap.size w2 w'):=hide fun W hW=>(uP n b W).mono fun E w' h=>⟨W.heap.size,h.1,h.2.1,hW.trans (h.2.2.mono hW.size)⟩
 clear au h
 unfold vp
 go_enter Tryz.func171,Tryz.ntmps171
 go_wp2_with fail
 refine C0.out.mono ?_
 rintro E w3 ⟨rfl,b3⟩
 obtain⟨hP3,bM,B3,cB⟩:=PST.out w3 b3
 have Sk3:=hide (il hP3)
 have B3':=hide b3
 clear C0 b3 hP3 bM B3 cB p0 p1 p2 p3 p4 p5
 go_wp2_with fail
 have hix:=Tryz.axr
 go_region_held3 (fun W=>W.cell? ⟨w.heap.size,0,none⟩=some (.int .i64 x.e)∧W.cell? ⟨w.heap.size,1,none⟩=some (.int .u8 x.r)∧W.cell? ⟨w.heap.size,2,none⟩=some (.int .i64 x.a)∧W.cell? ⟨w.heap.size,3,none⟩=some (.int .u8 x.p)∧W.cell? ⟨w.heap.size,4,none⟩=some (.int .i64 x.f)∧W.cell? ⟨w.heap.size,5,none⟩=some (.int .i64 x.b)) (first|exact Sk7.out|exact Sk6.out|exact Sk4.out|exact Sk3.out|go_keep)
  (first
  |(go_at_call 200;refine(CC.out _ B3'.out.drew).mono ?_;rintro E w4 ⟨B,rfl,t4,b4⟩;have T4:=hide t4;have B4:=hide b4;have Sk4:=hide (il (PST.out w4 b4).1);clear t4 b4)
  |(go_at_call 236;refine(abf x 4 (B+4) _ T4.out.h4).mono ?_;rintro E w6 ⟨rfl,b6⟩;obtain⟨qE,qj,B6,mY⟩:=PST.out w6 (B4.out.trans (b6.mono B4.out.size));obtain⟨Z,hZ,_,gZ,⟨a0,a1,a2,a3,a4,a5⟩,fr,⟨z0,z1,z2,z3,z4,z5⟩⟩:=eu qj (.int .i64 x.e) (.int .u8 x.r) (.int .i64 x.a) (.int .u8 4) (.int .i64 x.f) (.int .i64 x.b);have f0:=fr 0;have f1:=fr 1;have f2:=fr 2;have f3:=fr 3;have f4:=fr 4;have f5:=fr 5;have BB:=hide (aB B6 gZ (by omega) (by omega));have Sk6:=hide (il qE);have Sk7:=hide (il ((iF gZ ⟨by omega,by omega⟩).trans qE));clear b6 qE qj B6 mY gZ fr))
 all_goals
  go_wp2
  refine bodyPost_ret (v:=.tuple #[.agg #[.int .i64 x.e,.int .u8 x.r,.int .i64 x.a,.int .u8 4,.int .i64 x.f,.int .i64 x.b],.int .i64 0]) (by simp[results,Tryz.results171,go_sem,z0,z1,z2,z3,z4,z5]) rfl ?_
  exact⟨rfl,BB.out⟩
theorem alZ (x:Pm.Pg)(n b:Int)(w:World)(h:Rol.own x=5):
  Calls Tryz.prog 171 #[vp x,.int .i64 5,.int .i64 n,.int .i64 b] w fun E w'=>E=.returned (.tuple #[.agg #[.int .i64 x.e,.int .u8 2,.int .i64 0,.int .u8 0,.int .i64 0,.int .i64 0],.int .i64 0])∧Below w.heap.size w w':=by
 obtain⟨w1,w2,hw1,hw2,aT,dz,au,⟨p0,p1,p2,p3,p4,p5⟩,PST⟩:=fP x w
 have C0:=hide (qJ x w2)
 rw[h]at C0
 have CC:Hid (∀W,Below w2.heap.size w2 W→Calls Tryz.prog 200 #[.int .i64 n,.int .i64 b] W fun E w'=>∃B,E=.returned (.agg #[.func (.func 218) #[] #[.pointer (some ⟨B,0,none⟩)],.func (.func 219) #[] #[.pointer (some ⟨B,0,none⟩)],.func (.func 220) #[] #[.pointer (some ⟨B,0,none⟩),.pointer (some ⟨B+1,0,none⟩)],.func (.func 236) #[] #[.pointer (some ⟨B+3,0,none⟩)],.func (.func 236) #[] #[.pointer (some ⟨B+4,0,none⟩)],.func (.func 222) #[] #[],.func (.func 223) #[] #[.pointer (some ⟨B,0,none⟩)]])∧Tbl B n b w'∧Below w2.heap.size w2 w'):=hide fun W hW=>(uP n b W).mono fun E w' h=>⟨W.heap.size,h.1,h.2.1,hW.trans (h.2.2.mono hW.size)⟩
 clear au h
 unfold vp
 go_enter Tryz.func171,Tryz.ntmps171
 go_wp2_with fail
 refine C0.out.mono ?_
 rintro E w3 ⟨rfl,b3⟩
 obtain⟨hP3,bM,B3,cB⟩:=PST.out w3 b3
 have Sk3:=hide (il hP3)
 have B3':=hide b3
 clear C0 b3 hP3 bM B3 cB p0 p1 p2 p3 p4 p5
 go_wp2_with fail
 have hix:=Tryz.axg
 go_region_held3 (fun W=>W.cell? ⟨w.heap.size,0,none⟩=some (.int .i64 x.e)∧W.cell? ⟨w.heap.size,1,none⟩=some (.int .u8 x.r)∧W.cell? ⟨w.heap.size,2,none⟩=some (.int .i64 x.a)∧W.cell? ⟨w.heap.size,3,none⟩=some (.int .u8 x.p)∧W.cell? ⟨w.heap.size,4,none⟩=some (.int .i64 x.f)∧W.cell? ⟨w.heap.size,5,none⟩=some (.int .i64 x.b)) (first|exact Sk7.out|exact Sk6.out|exact Sk4.out|exact Sk3.out|go_keep)
  (first
  |(go_at_call 200;refine(CC.out _ B3'.out.drew).mono ?_;rintro E w4 ⟨B,rfl,t4,b4⟩;have T4:=hide t4;have B4:=hide b4;have Sk4:=hide (il (PST.out w4 b4).1);clear t4 b4)
  |(go_at_call 222;refine(ajh x _).mono ?_;rintro E w6 ⟨rfl,b6⟩;obtain⟨qE,qj,B6,mY⟩:=PST.out w6 (B4.out.trans (b6.mono B4.out.size));obtain⟨Z,hZ,_,gZ,⟨a0,a1,a2,a3,a4,a5⟩,fr,⟨z0,z1,z2,z3,z4,z5⟩⟩:=eu qj (.int .i64 x.e) (.int .u8 2) (.int .i64 0) (.int .u8 0) (.int .i64 0) (.int .i64 0);have f0:=fr 0;have f1:=fr 1;have f2:=fr 2;have f3:=fr 3;have f4:=fr 4;have f5:=fr 5;have BB:=hide (aB B6 gZ (by omega) (by omega));have Sk6:=hide (il qE);have Sk7:=hide (il ((iF gZ ⟨by omega,by omega⟩).trans qE));clear b6 qE qj B6 mY gZ fr))
 all_goals
  go_wp2
  refine bodyPost_ret (v:=.tuple #[.agg #[.int .i64 x.e,.int .u8 2,.int .i64 0,.int .u8 0,.int .i64 0,.int .i64 0],.int .i64 0]) (by simp[results,Tryz.results171,go_sem,z0,z1,z2,z3,z4,z5]) rfl ?_
  exact⟨rfl,BB.out⟩
end Go.Proofs.YtmngcecomcadkaaGreatDoor
