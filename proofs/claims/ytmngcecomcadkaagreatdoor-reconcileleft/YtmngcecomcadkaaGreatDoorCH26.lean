/- Texts of one layer, one behind the other. -/
import Derived.Test.YtmngcecomcadkaaGreatDoorCH2
import Derived.Test.YtmngcecomcadkaaGreatDoorProg
import Derived.Shelf.Lay
import Derived.Shelf.SlGeneric
import Derived.Shelf.SlIter.Nil
import Derived.Shelf.SortM.Plain
import Derived.Shelf.SortM.SortNone
import Derived.Ground.GgzProg
import Derived.Ground.SlgmProg
import Derived.Test.YtmngcecomcadkaaGreatDoorCH1
import Derived.RangeFuncNested
import Derived.RangeFuncBound
import Derived.RangeFuncCalls
import Derived.RangeFuncLeaves
import Derived.Shelf.RegionOpen
import Derived.WalkKit
import Derived.OwnWalkIn
import Derived.TacticsInMore
import Derived.LoopNIn
import Derived.LoopIn
import Derived.Lib.Walk
set_option maxRecDepth 100000
set_option maxHeartbeats 8000000
namespace Go.Proofs.YtmngcecomcadkaaGreatDoor
open Go.RowKit Go.Maps
open Bm (Ov)
set_option linter.unusedVariables false
attribute [local go_sem] Oper.semAt_some
def Tm.dC (t l:List Ov):List Ov:=if Bm.first l=0 then Tm.app t l else t
theorem jW {W W':World}{B:Nat}(h:W'.heap[B]? =W.heap[B]?)(j:Nat):W'.cell? ⟨B,j,none⟩=W.cell? ⟨B,j,none⟩:=World.cell?_of_block (show W'.heap[(⟨B,j,none⟩:Addr).block]? =W.heap[(⟨B,j,none⟩:Addr).block]? from h)
theorem aw1 {p b:Nat}{w:World}{t:List Ov}(o:Ov)(h:Tb p b w t)(hk:o.k.size≤140737488355328)(hn:t.length<140737488355328):
  ∃w',(Instr.mapUpdate 233 (.map (some b)) (.string o.k) (.agg #[.string o.v,.bool o.p])).run Tryz.prog w=.ok () w'∧Tb p b w' (Tm.one t o)∧w.grownBy w' (some b):=by
 have hkey:keyOf Tryz.prog 9 (.string o.k)=some (.string o.kl):=WideMaps.keyOf_string_mk Tryz.underlying9 (by unfold maxLen;omega)
 obtain⟨w',h1,h2,h3⟩:=h.own.update Tryz.keyed Tryz.underlying233 (by unfold maxLen;omega) hkey (avh o)
 refine⟨w',h1,⟨(h3.block p h.plt fun e=>h.ne (Option.some.inj e)).trans h.blk,?_,Tm.ak4 o h.up⟩,h3⟩
 rw[Tm.asb o h.up]at h2
 have:=World.ownsMap.tight h2
 rwa[Tm.ao9]at this
theorem aiJ (p b:Nat)(w:World)(t:List Ov)(v:Value)(l:List Ov)(h:Tb p b w t)(hl:dh w v l)(hf:iL l)(hn:t.length+l.length≤1000000):
  Calls Tryz.prog 192 #[.pointer (some ⟨p,0,none⟩),v] w fun E w'=>E=.returned (.int .i64 (Bm.first l))∧Tb p b w' (Tm.dC t l)∧Out (fun g=>g=b) w w':=by
 have HM:=hide (alA p b w h.cell)
 obtain⟨ao,cap,hsv,hcap,hcm⟩:=hl.shape
 have pQ:=hide fun(h0:0<l.length)=>hl.full h0
 subst hsv
 have HF:=hide hf
 have HT0:=hide h
 obtain⟨n,hnn⟩:∃n,l.length=n:=⟨_,rfl⟩
 rw[hnn]at pQ hcap hn⊢
 have HN:=hide hnn
 have hc:=h.cell
 have hplt:=h.plt
 clear hl hf h hnn
 go_enter Tryz.func192,Tryz.ntmps192
 go_wp2_with fail
 refine HM.out.mono ?_
 rintro E w' ⟨rfl,rfl⟩
 go_wp2
 go_loopw [15] (fun i wr=>∃(k:Nat),k≤n∧i=.int .i64 k∧Hid (∀q∈l.take k,q.c=0)∧Below w.heap.size w wr) (fun i _=>n-(intOf i).toNat)
 case atStart=>exact⟨0,by omega,rfl,hide (by simp),Below.refl _ _⟩
 case round=>
  obtain⟨k,hk,rfl,HT,aF⟩:=hrel
  obtain⟨wa,rfl⟩:∃x,x=wr:=⟨wr,rfl⟩
  have sz:=aF.size
  by_cases hlt:k<n
  ·obtain⟨o,ho⟩:∃o,l[k]? =some o:=⟨l[k]'(by have:=HN.out;omega),by rw[List.getElem?_eq_getElem]⟩
   obtain⟨b1,o1,cq,iw,_,_,hB,hcell⟩:=pQ.out (by omega)
   simp only[Value.slice.injEq,true_and]at iw
   obtain⟨rfl,rfl⟩:=iw
   obtain⟨c0,c1,c2⟩:=hcell k o ho
   have d0:=(aF.cell (p:=⟨b1,o1+k*3,none⟩) hB).trans c0
   have d1:=(aF.cell (p:=⟨b1,o1+k*3+1,none⟩) hB).trans c1
   have d2:=(aF.cell (p:=⟨b1,o1+k*3+2,none⟩) hB).trans c2
   have HO:=hide ho
   clear c0 c1 c2 ho hcell
   have hlt':(k:Int)<n:=by omega
   obtain⟨hk1,hv1⟩:=HF.out o (List.mem_of_getElem? HO.out)
   obtain⟨W1,hW1,aT,mf,B1⟩:=ak wa #[.bool o.p,.string o.k,.string o.v] 111
   have e0:=ai B1 0 rfl
   have e1:=ai B1 1 rfl
   have e2:=ai B1 2 rfl
   have b01:Below w.heap.size w W1:=aF.trans (mf.mono sz)
   clear B1 mf
   go_wp2_with fail
   refine(lN o.p o.k o.v _ hk1 hv1).mono ?_
   rintro E w1 ⟨rfl,aj⟩
   have au:Below w.heap.size w w1:=b01.trans (aj.mono (by omega))
   clear aj d0 d1 d2 e0 e1 e2
   rcases(show Om.chk o.p o.k.data.toList o.v.data.toList=0∨_ from Om.yD _ _ _)with hc|hc
   ·rw[hc]
    have HT2:=hide (aaT HT.out HO.out hc)
    clear hc
    go_wp2
    go_roundw
    case rel=>exact⟨k+1,by omega,by go_num,HT2,au⟩
    case measure=>simp[intOf];omega
   ·rw[hc]
    have HB:=hide (Bm.ada (List.mem_of_getElem? HO.out) (show Bm.Ov.c o≠0 by unfold Bm.Ov.c Bm.Ov.kl Bm.Ov.vl;rw[hc];simp))
    clear hc
    go_wp2
    go_ret
    refine⟨jh HB.out.symm,?_,Out.of_below au⟩
    unfold Tm.dC
    rw[HB.out]
    exact HT0.out.below au
  ·have hkn:k=n:=by omega
   have HB:Hid (Bm.first l=0):=hide (Bm.ry (fun q hq=>HT.out q (by rw[List.take_of_length_le (by have:=HN.out;omega)];exact hq)))
   have hlt':¬(k:Int)<n:=by omega
   have HT1:=hide (HT0.out.below aF)
   have ayQ:=hide aF
   clear hc aF
   go_wp2
   go_loopw [27] (fun i wr=>∃(k:Nat),k≤n∧i=.int .i64 k∧Hid (Tb p b wr (Tm.app t (l.take k)))∧Out (fun g=>g=b) w wr) (fun i _=>n-(intOf i).toNat)
   case atStart=>exact⟨0,by omega,rfl,HT1,Out.of_below ayQ.out⟩
   case round=>
    obtain⟨k,hk,rfl,HT,aF⟩:=hrel
    have sz:=aF.size
    by_cases hlt:k<n
    ·obtain⟨o,ho⟩:∃o,l[k]? =some o:=⟨l[k]'(by have:=HN.out;omega),by rw[List.getElem?_eq_getElem]⟩
     obtain⟨b1,o1,cq,iw,_,_,hB,hcell⟩:=pQ.out (by omega)
     simp only[Value.slice.injEq,true_and]at iw
     obtain⟨rfl,rfl⟩:=iw
     obtain⟨c0,c1,c2⟩:=hcell k o ho
     have hbb:=HT0.out.row c0
     have hblk:=aF.block b1 hB hbb
     have d0:=(jW hblk (o1+k*3)).trans c0
     have d1:=(jW hblk (o1+k*3+1)).trans c1
     have d2:=(jW hblk (o1+k*3+2)).trans c2
     have HO:=hide ho
     clear c0 c1 c2 ho hcell hblk
     have axj:(k:Int)<n:=by omega
     obtain⟨hk1,hv1⟩:=HF.out o (List.mem_of_getElem? HO.out)
     obtain⟨W1,hW1,aT,mf,B1⟩:=ak wr #[.bool o.p,.string o.k,.string o.v] 111
     have e0:=ai B1 0 rfl
     have e1:=ai B1 1 rfl
     have e2:=ai B1 2 rfl
     have T1:=HT.out.below mf
     have pc:=T1.cell
     have hlen:(Tm.app t (l.take k)).length<140737488355328:=by
      have h1:=Tm.abt (l.take k) t
      rw[List.length_take]at h1
      omega
     obtain⟨W2,hrun,T2,g2⟩:=aw1 (w:=W1.drew) o (T1.agree rfl rfl) (by omega) hlen
     have R2:Hid (Tb p b W2 (Tm.app t (l.take (k+1)))∧Out (fun g=>g=b) w W2):=hide ⟨by
      obtain⟨hk',hk2⟩:=List.getElem?_eq_some_iff.1 HO.out
      rw[List.take_succ_eq_append_getElem hk',hk2,Tm.zu]
      exact T2,by
      have q1:Out (fun g=>g=b) w W1:=aF.trans (Out.of_below (F:=fun g=>g=b) mf) fun g hg=>.inl hg
      have q2:Out (fun g=>g=b) w W1.drew:=q1.drew 1
      exact q2.trans (Out.aQ (F:=fun g=>g=b) g2 fun g hg=>by simpa using hg.symm) fun g hg=>.inl hg⟩
     clear T1 T2 g2 B1 mf aF
     go_wp2
     go_region
     go_wp2
     go_roundw
     case rel=>exact⟨k+1,by omega,by go_num,R2.out⟩
     case measure=>simp[intOf];omega
    ·have hkn':k=n:=by omega
     have axj:¬(k:Int)<n:=by omega
     have HE:Hid (Tb p b wr (Tm.dC t l)):=hide (by
      have h1:=HT.out
      rw[List.take_of_length_le (by have:=HN.out;omega)]at h1
      unfold Tm.dC
      rw[HB.out]
      exact h1)
     go_wp2
     go_ret
     exact⟨jh HB.out.symm,HE.out,aF⟩
end Go.Proofs.YtmngcecomcadkaaGreatDoor
namespace Go.Proofs.YtmngcecomcadkaaGreatDoor
open Go.RowKit Go.Maps Go.Shelf
open Bm (Ov)
set_option linter.unusedVariables false
attribute [local go_sem] Oper.semAt_some
end Go.Proofs.YtmngcecomcadkaaGreatDoor
namespace Go.Proofs.YtmngcecomcadkaaGreatDoor
open Go.RowKit Go.Maps Go.Shelf
open Bm (Ov)
set_option linter.unusedVariables false
attribute [local go_sem] Oper.semAt_some
end Go.Proofs.YtmngcecomcadkaaGreatDoor
namespace Go.Proofs.YtmngcecomcadkaaGreatDoor
open Go.RowKit Go.Maps Go.Shelf
open Bm (Ov)
set_option linter.unusedVariables false
attribute [local go_sem] Oper.semAt_some
end Go.Proofs.YtmngcecomcadkaaGreatDoor
namespace Go.Proofs.YtmngcecomcadkaaGreatDoor
open Go.RowKit Go.Maps Go.Shelf
open Bm (Ov)
set_option linter.unusedVariables false
attribute [local go_sem] Oper.semAt_some
end Go.Proofs.YtmngcecomcadkaaGreatDoor
