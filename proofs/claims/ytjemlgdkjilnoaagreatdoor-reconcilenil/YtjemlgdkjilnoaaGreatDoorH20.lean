/- Texts of one layer, one behind the other. -/
import Derived.Test.YtjemlgdkjilnoaaGreatDoorH1
import Derived.Test.YtjemlgdkjilnoaaGreatDoorProg
import Derived.Test.YtjemlgdkjilnoaaGreatDoorH2
import Derived.Below
import Derived.Shelf.RegionOpen
import Derived.ProofKit
import Derived.RangeFuncNested
import Derived.RangeFuncBound
import Derived.RangeFuncCalls
import Derived.RangeFuncLeaves
import Derived.WalkKit
import Derived.OwnWalkIn
import Derived.TacticsInMore
import Derived.LoopNIn
import Derived.LoopIn
import Derived.Lib.Walk
set_option maxRecDepth 100000
set_option maxHeartbeats 8000000
namespace Go.Proofs.YtjemlgdkjilnoaaGreatDoor
open Go.RowKit
set_option linter.unusedVariables false
theorem arO:Array.replicate 28 false=ay 28 0:=by kernel_rfl
theorem am9:(aA 1 Tryz.f39).size=28:=by kernel_rfl
theorem anx:Region.free .any (aA 1 Tryz.f39) (ay 28 0) 0=true∧(Region.ready .any (aA 1 Tryz.f39) (ay 28 0)).contains 0=true∧(ay 28 0).setIfInBounds 0 true=ay 28 1:=⟨by kernel_rfl,by kernel_rfl,by kernel_rfl⟩
theorem aoI:Region.free .any (aA 1 Tryz.f39) (ay 28 1) 1=true∧(Region.ready .any (aA 1 Tryz.f39) (ay 28 1)).contains 1=true∧(ay 28 1).setIfInBounds 1 true=ay 28 3:=⟨by kernel_rfl,by kernel_rfl,by kernel_rfl⟩
theorem aoF:Region.free .any (aA 1 Tryz.f39) (ay 28 3) 2=true∧(Region.ready .any (aA 1 Tryz.f39) (ay 28 3)).contains 2=true∧(ay 28 3).setIfInBounds 2 true=ay 28 7:=⟨by kernel_rfl,by kernel_rfl,by kernel_rfl⟩
theorem amU:Region.free .any (aA 1 Tryz.f39) (ay 28 7) 3=true∧(Region.ready .any (aA 1 Tryz.f39) (ay 28 7)).contains 3=true∧(ay 28 7).setIfInBounds 3 true=ay 28 15:=⟨by kernel_rfl,by kernel_rfl,by kernel_rfl⟩
theorem ajv:Region.free .any (aA 1 Tryz.f39) (ay 28 15) 4=true∧(Region.ready .any (aA 1 Tryz.f39) (ay 28 15)).contains 4=true∧(ay 28 15).setIfInBounds 4 true=ay 28 31:=⟨by kernel_rfl,by kernel_rfl,by kernel_rfl⟩
theorem al2:Region.free .any (aA 1 Tryz.f39) (ay 28 31) 5=true∧(Region.ready .any (aA 1 Tryz.f39) (ay 28 31)).contains 5=true∧(ay 28 31).setIfInBounds 5 true=ay 28 63:=⟨by kernel_rfl,by kernel_rfl,by kernel_rfl⟩
theorem ajQ:Region.free .any (aA 1 Tryz.f39) (ay 28 63) 6=true∧(Region.ready .any (aA 1 Tryz.f39) (ay 28 63)).contains 6=true∧(ay 28 63).setIfInBounds 6 true=ay 28 127:=⟨by kernel_rfl,by kernel_rfl,by kernel_rfl⟩
theorem ai1:Region.free .any (aA 1 Tryz.f39) (ay 28 127) 7=true∧(Region.ready .any (aA 1 Tryz.f39) (ay 28 127)).contains 7=true∧(ay 28 127).setIfInBounds 7 true=ay 28 255:=⟨by kernel_rfl,by kernel_rfl,by kernel_rfl⟩
theorem aif:Region.free .any (aA 1 Tryz.f39) (ay 28 255) 8=true∧(Region.ready .any (aA 1 Tryz.f39) (ay 28 255)).contains 8=true∧(ay 28 255).setIfInBounds 8 true=ay 28 511:=⟨by kernel_rfl,by kernel_rfl,by kernel_rfl⟩
theorem ahU:Region.free .any (aA 1 Tryz.f39) (ay 28 511) 9=true∧(Region.ready .any (aA 1 Tryz.f39) (ay 28 511)).contains 9=true∧(ay 28 511).setIfInBounds 9 true=ay 28 1023:=⟨by kernel_rfl,by kernel_rfl,by kernel_rfl⟩
theorem aeR:Region.free .any (aA 1 Tryz.f39) (ay 28 1023) 11=true∧(Region.ready .any (aA 1 Tryz.f39) (ay 28 1023)).contains 11=true∧(ay 28 1023).setIfInBounds 11 true=ay 28 3071:=⟨by kernel_rfl,by kernel_rfl,by kernel_rfl⟩
theorem aeZ:Region.free .any (aA 1 Tryz.f39) (ay 28 3071) 12=true∧(Region.ready .any (aA 1 Tryz.f39) (ay 28 3071)).contains 12=true∧(ay 28 3071).setIfInBounds 12 true=ay 28 7167:=⟨by kernel_rfl,by kernel_rfl,by kernel_rfl⟩
theorem aeU:Region.free .any (aA 1 Tryz.f39) (ay 28 7167) 13=true∧(Region.ready .any (aA 1 Tryz.f39) (ay 28 7167)).contains 13=true∧(ay 28 7167).setIfInBounds 13 true=ay 28 15359:=⟨by kernel_rfl,by kernel_rfl,by kernel_rfl⟩
theorem adx:Region.free .any (aA 1 Tryz.f39) (ay 28 15359) 14=true∧(Region.ready .any (aA 1 Tryz.f39) (ay 28 15359)).contains 14=true∧(ay 28 15359).setIfInBounds 14 true=ay 28 31743:=⟨by kernel_rfl,by kernel_rfl,by kernel_rfl⟩
theorem adr:Region.free .any (aA 1 Tryz.f39) (ay 28 31743) 15=true∧(Region.ready .any (aA 1 Tryz.f39) (ay 28 31743)).contains 15=true∧(ay 28 31743).setIfInBounds 15 true=ay 28 64511:=⟨by kernel_rfl,by kernel_rfl,by kernel_rfl⟩
theorem adw:Region.free .any (aA 1 Tryz.f39) (ay 28 64511) 16=true∧(Region.ready .any (aA 1 Tryz.f39) (ay 28 64511)).contains 16=true∧(ay 28 64511).setIfInBounds 16 true=ay 28 130047:=⟨by kernel_rfl,by kernel_rfl,by kernel_rfl⟩
theorem abT:Region.free .any (aA 1 Tryz.f39) (ay 28 130047) 17=true∧(Region.ready .any (aA 1 Tryz.f39) (ay 28 130047)).contains 17=true∧(ay 28 130047).setIfInBounds 17 true=ay 28 261119:=⟨by kernel_rfl,by kernel_rfl,by kernel_rfl⟩
theorem abN:Region.free .any (aA 1 Tryz.f39) (ay 28 261119) 18=true∧(Region.ready .any (aA 1 Tryz.f39) (ay 28 261119)).contains 18=true∧(ay 28 261119).setIfInBounds 18 true=ay 28 523263:=⟨by kernel_rfl,by kernel_rfl,by kernel_rfl⟩
theorem abK:Region.free .any (aA 1 Tryz.f39) (ay 28 523263) 19=true∧(Region.ready .any (aA 1 Tryz.f39) (ay 28 523263)).contains 19=true∧(ay 28 523263).setIfInBounds 19 true=ay 28 1047551:=⟨by kernel_rfl,by kernel_rfl,by kernel_rfl⟩
theorem aaM:Region.free .any (aA 1 Tryz.f39) (ay 28 1047551) 20=true∧(Region.ready .any (aA 1 Tryz.f39) (ay 28 1047551)).contains 20=true∧(ay 28 1047551).setIfInBounds 20 true=ay 28 2096127:=⟨by kernel_rfl,by kernel_rfl,by kernel_rfl⟩
theorem aaS:Region.free .any (aA 1 Tryz.f39) (ay 28 2096127) 22=true∧(Region.ready .any (aA 1 Tryz.f39) (ay 28 2096127)).contains 22=true∧(ay 28 2096127).setIfInBounds 22 true=ay 28 6290431:=⟨by kernel_rfl,by kernel_rfl,by kernel_rfl⟩
theorem aaF:Region.free .any (aA 1 Tryz.f39) (ay 28 6290431) 23=true∧(Region.ready .any (aA 1 Tryz.f39) (ay 28 6290431)).contains 23=true∧(ay 28 6290431).setIfInBounds 23 true=ay 28 14679039:=⟨by kernel_rfl,by kernel_rfl,by kernel_rfl⟩
theorem zR:Region.free .any (aA 1 Tryz.f39) (ay 28 14679039) 24=true∧(Region.ready .any (aA 1 Tryz.f39) (ay 28 14679039)).contains 24=true∧(ay 28 14679039).setIfInBounds 24 true=ay 28 31456255:=⟨by kernel_rfl,by kernel_rfl,by kernel_rfl⟩
theorem adA:Region.ready .any (aA 1 Tryz.f39) (ay 28 31456255)=[10,25]∧(ay 28 31456255).setIfInBounds 10 true=ay 28 31457279∧(ay 28 31456255).setIfInBounds 25 true=ay 28 65010687:=⟨by kernel_rfl,by kernel_rfl,by kernel_rfl⟩
theorem adt:Region.ready .any (aA 1 Tryz.f39) (ay 28 31457279)=[21,25]∧(ay 28 31457279).setIfInBounds 21 true=ay 28 33554431∧(ay 28 31457279).setIfInBounds 25 true=ay 28 65011711:=⟨by kernel_rfl,by kernel_rfl,by kernel_rfl⟩
theorem adp:Region.ready .any (aA 1 Tryz.f39) (ay 28 33554431)=[25]∧(ay 28 33554431).setIfInBounds 25 true=ay 28 67108863:=⟨by kernel_rfl,by kernel_rfl⟩
theorem lu:Region.free .any (aA 1 Tryz.f39) (ay 28 67108863) 26=true∧(Region.ready .any (aA 1 Tryz.f39) (ay 28 67108863)).contains 26=true∧(ay 28 67108863).setIfInBounds 26 true=ay 28 134217727:=⟨by kernel_rfl,by kernel_rfl,by kernel_rfl⟩
theorem nD:Region.ready .any (aA 1 Tryz.f39) (ay 28 134217727)=[27]∧(ay 28 134217727).setIfInBounds 27 true=ay 28 268435455:=⟨by kernel_rfl,by kernel_rfl⟩
theorem abZ:Region.ready .any (aA 1 Tryz.f39) (ay 28 268435455)=[]:=by kernel_rfl
theorem vM:Region.ready .any (aA 1 Tryz.f39) (ay 28 65011711)=[21]∧(ay 28 65011711).setIfInBounds 21 true=ay 28 67108863:=⟨by kernel_rfl,by kernel_rfl⟩
theorem ads:Region.ready .any (aA 1 Tryz.f39) (ay 28 65010687)=[10]∧(ay 28 65010687).setIfInBounds 10 true=ay 28 65011711:=⟨by kernel_rfl,by kernel_rfl⟩
end Go.Proofs.YtjemlgdkjilnoaaGreatDoor
namespace Go.Proofs.YtjemlgdkjilnoaaGreatDoor
open Go.RowKit Go.Maps
open Bm (Ov)
set_option linter.unusedVariables false
attribute [local go_sem] Oper.semAt_some
def Tm.dw (t l:List Ov):List Ov:=if Bm.first l=0 then Tm.app t l else t
theorem jW {W W':World}{B:Nat}(h:W'.heap[B]? =W.heap[B]?)(j:Nat):W'.cell? ⟨B,j,none⟩=W.cell? ⟨B,j,none⟩:=World.cell?_of_block (show W'.heap[(⟨B,j,none⟩:Addr).block]? =W.heap[(⟨B,j,none⟩:Addr).block]? from h)
theorem asO {p b:Nat}{w:World}{t:List Ov}(o:Ov)(h:Tb p b w t)(hk:o.k.size≤140737488355328)(hn:t.length<140737488355328):
  ∃w',(Instr.mapUpdate 220 (.map (some b)) (.string o.k) (.agg #[.string o.v,.bool o.p])).run Tryz.prog w=.ok () w'∧Tb p b w' (Tm.one t o)∧w.grownBy w' (some b):=by
 have hkey:keyOf Tryz.prog 9 (.string o.k)=some (.string o.kl):=WideMaps.keyOf_string_mk Tryz.underlying9 (by unfold maxLen;omega)
 obtain⟨w',h1,h2,h3⟩:=h.own.update Tryz.keyed Tryz.underlying220 (by unfold maxLen;omega) hkey (at1 o)
 refine⟨w',h1,⟨(h3.block p h.plt fun e=>h.ne (Option.some.inj e)).trans h.blk,?_,Tm.ak8 o h.up⟩,h3⟩
 rw[Tm.asr o h.up]at h2
 have:=World.ownsMap.tight h2
 rwa[Tm.amz]at this
theorem aia (p b:Nat)(w:World)(t:List Ov)(v:Value)(l:List Ov)(h:Tb p b w t)(hl:df w v l)(hf:iR l)(hn:t.length+l.length≤1000000):
  Calls Tryz.prog 171 #[.pointer (some ⟨p,0,none⟩),v] w fun E w'=>E=.returned (.int .i64 (Bm.first l))∧Tb p b w' (Tm.dw t l)∧Out (fun g=>g=b) w w':=by
 have HM:=hide (ak9 p b w h.cell)
 obtain⟨ao,cap,hsv,hcap,hcm⟩:=hl.shape
 have pI:=hide fun(h0:0<l.length)=>hl.full h0
 subst hsv
 have HF:=hide hf
 have HT0:=hide h
 obtain⟨n,hnn⟩:∃n,l.length=n:=⟨_,rfl⟩
 rw[hnn]at pI hcap hn⊢
 have HN:=hide hnn
 have hc:=h.cell
 have hplt:=h.plt
 clear hl hf h hnn
 go_enter Tryz.func171,Tryz.ntmps171
 go_wp2_with fail
 refine HM.out.mono ?_
 rintro E w' ⟨rfl,rfl⟩
 go_wp2
 go_loopw [15] (fun i wr=>∃(k:Nat),k≤n∧i=.int .i64 k∧Hid (∀q∈l.take k,q.c=0)∧Below w.heap.size w wr) (fun i _=>n-(intOf i).toNat)
 case atStart=>exact⟨0,by omega,rfl,hide (by simp),Below.refl _ _⟩
 case round=>
  obtain⟨k,hk,rfl,HT,aG⟩:=hrel
  obtain⟨wa,rfl⟩:∃x,x=wr:=⟨wr,rfl⟩
  have sz:=aG.size
  by_cases hlt:k<n
  ·obtain⟨o,ho⟩:∃o,l[k]? =some o:=⟨l[k]'(by have:=HN.out;omega),by rw[List.getElem?_eq_getElem]⟩
   obtain⟨b1,o1,cq,jo,_,_,hB,hcell⟩:=pI.out (by omega)
   simp only[Value.slice.injEq,true_and]at jo
   obtain⟨rfl,rfl⟩:=jo
   obtain⟨c0,c1,c2⟩:=hcell k o ho
   have d0:=(aG.cell (p:=⟨b1,o1+k*3,none⟩) hB).trans c0
   have d1:=(aG.cell (p:=⟨b1,o1+k*3+1,none⟩) hB).trans c1
   have d2:=(aG.cell (p:=⟨b1,o1+k*3+2,none⟩) hB).trans c2
   have HO:=hide ho
   clear c0 c1 c2 ho hcell
   have hlt':(k:Int)<n:=by omega
   obtain⟨hk1,hv1⟩:=HF.out o (List.mem_of_getElem? HO.out)
   obtain⟨W1,hW1,aW,rZ,B1⟩:=ak wa #[.bool o.p,.string o.k,.string o.v] 92
   have e0:=ai B1 0 rfl
   have e1:=ai B1 1 rfl
   have e2:=ai B1 2 rfl
   have b01:Below w.heap.size w W1:=aG.trans (rZ.mono sz)
   clear B1 rZ
   go_wp2_with fail
   refine(lW o.p o.k o.v _ hk1 hv1).mono ?_
   rintro E w1 ⟨rfl,aj⟩
   have au:Below w.heap.size w w1:=b01.trans (aj.mono (by omega))
   clear aj d0 d1 d2 e0 e1 e2
   rcases(show Om.chk o.p o.k.data.toList o.v.data.toList=0∨_ from Om.yH _ _ _)with hc|hc
   ·rw[hc]
    have HT2:=hide (abg HT.out HO.out hc)
    clear hc
    go_wp2
    go_roundw
    case rel=>exact⟨k+1,by omega,by go_num,HT2,au⟩
    case measure=>simp[intOf];omega
   ·rw[hc]
    have HB:=hide (Bm.adj (List.mem_of_getElem? HO.out) (show Bm.Ov.c o≠0 by unfold Bm.Ov.c Bm.Ov.kl Bm.Ov.vl;rw[hc];simp))
    clear hc
    go_wp2
    go_ret
    refine⟨kJ HB.out.symm,?_,Out.of_below au⟩
    unfold Tm.dw
    rw[HB.out]
    exact HT0.out.below au
  ·have hkn:k=n:=by omega
   have HB:Hid (Bm.first l=0):=hide (Bm.rG (fun q hq=>HT.out q (by rw[List.take_of_length_le (by have:=HN.out;omega)];exact hq)))
   have hlt':¬(k:Int)<n:=by omega
   have HT1:=hide (HT0.out.below aG)
   have ayl:=hide aG
   clear hc aG
   go_wp2
   go_loopw [27] (fun i wr=>∃(k:Nat),k≤n∧i=.int .i64 k∧Hid (Tb p b wr (Tm.app t (l.take k)))∧Out (fun g=>g=b) w wr) (fun i _=>n-(intOf i).toNat)
   case atStart=>exact⟨0,by omega,rfl,HT1,Out.of_below ayl.out⟩
   case round=>
    obtain⟨k,hk,rfl,HT,aG⟩:=hrel
    have sz:=aG.size
    by_cases hlt:k<n
    ·obtain⟨o,ho⟩:∃o,l[k]? =some o:=⟨l[k]'(by have:=HN.out;omega),by rw[List.getElem?_eq_getElem]⟩
     obtain⟨b1,o1,cq,jo,_,_,hB,hcell⟩:=pI.out (by omega)
     simp only[Value.slice.injEq,true_and]at jo
     obtain⟨rfl,rfl⟩:=jo
     obtain⟨c0,c1,c2⟩:=hcell k o ho
     have hbb:=HT0.out.row c0
     have hblk:=aG.block b1 hB hbb
     have d0:=(jW hblk (o1+k*3)).trans c0
     have d1:=(jW hblk (o1+k*3+1)).trans c1
     have d2:=(jW hblk (o1+k*3+2)).trans c2
     have HO:=hide ho
     clear c0 c1 c2 ho hcell hblk
     have awD:(k:Int)<n:=by omega
     obtain⟨hk1,hv1⟩:=HF.out o (List.mem_of_getElem? HO.out)
     obtain⟨W1,hW1,aW,rZ,B1⟩:=ak wr #[.bool o.p,.string o.k,.string o.v] 92
     have e0:=ai B1 0 rfl
     have e1:=ai B1 1 rfl
     have e2:=ai B1 2 rfl
     have T1:=HT.out.below rZ
     have pc:=T1.cell
     have hlen:(Tm.app t (l.take k)).length<140737488355328:=by
      have h1:=Tm.ab9 (l.take k) t
      rw[List.length_take]at h1
      omega
     obtain⟨W2,hrun,T2,g2⟩:=asO (w:=W1.drew) o (T1.agree rfl rfl) (by omega) hlen
     have R2:Hid (Tb p b W2 (Tm.app t (l.take (k+1)))∧Out (fun g=>g=b) w W2):=hide ⟨by
      obtain⟨hk',hk2⟩:=List.getElem?_eq_some_iff.1 HO.out
      rw[List.take_succ_eq_append_getElem hk',hk2,Tm.uN]
      exact T2,by
      have q1:Out (fun g=>g=b) w W1:=aG.trans (Out.of_below (F:=fun g=>g=b) rZ) fun g hg=>.inl hg
      have q2:Out (fun g=>g=b) w W1.drew:=q1.drew 1
      exact q2.trans (Out.aV (F:=fun g=>g=b) g2 fun g hg=>by simpa using hg.symm) fun g hg=>.inl hg⟩
     clear T1 T2 g2 B1 rZ aG
     go_wp2
     go_region
     go_wp2
     go_roundw
     case rel=>exact⟨k+1,by omega,by go_num,R2.out⟩
     case measure=>simp[intOf];omega
    ·have hkn':k=n:=by omega
     have awD:¬(k:Int)<n:=by omega
     have HE:Hid (Tb p b wr (Tm.dw t l)):=hide (by
      have h1:=HT.out
      rw[List.take_of_length_le (by have:=HN.out;omega)]at h1
      unfold Tm.dw
      rw[HB.out]
      exact h1)
     go_wp2
     go_ret
     exact⟨kJ HB.out.symm,HE.out,aG⟩
end Go.Proofs.YtjemlgdkjilnoaaGreatDoor
namespace Go.Proofs.YtjemlgdkjilnoaaGreatDoor
open Go.RowKit Go.Maps Go.Shelf
open Bm (Ov)
set_option linter.unusedVariables false
attribute [local go_sem] Oper.semAt_some
end Go.Proofs.YtjemlgdkjilnoaaGreatDoor
namespace Go.Proofs.YtjemlgdkjilnoaaGreatDoor
open Go.RowKit Go.Maps Go.Shelf
open Bm (Ov)
set_option linter.unusedVariables false
attribute [local go_sem] Oper.semAt_some
end Go.Proofs.YtjemlgdkjilnoaaGreatDoor
namespace Go.Proofs.YtjemlgdkjilnoaaGreatDoor
open Go.RowKit Go.Maps Go.Shelf
open Bm (Ov)
set_option linter.unusedVariables false
attribute [local go_sem] Oper.semAt_some
end Go.Proofs.YtjemlgdkjilnoaaGreatDoor
namespace Go.Proofs.YtjemlgdkjilnoaaGreatDoor
open Go.RowKit Go.Maps Go.Shelf
open Bm (Ov)
set_option linter.unusedVariables false
attribute [local go_sem] Oper.semAt_some
end Go.Proofs.YtjemlgdkjilnoaaGreatDoor
namespace Go.Proofs.YtjemlgdkjilnoaaGreatDoor
open Go.RowKit
set_option linter.unusedVariables false
theorem dV.one {e n:Int}{v:Value}{o:List Bm.Ov}(hf:iR o)(hl:o.length*40≤140737488351232):dV [⟨e,n,v,o⟩]:=fun c hc=>by rw[List.mem_singleton.1 hc];exact⟨hf,hl⟩
theorem agH {w:World}{a:Nat}{e n:Int}{v:Value}{o:List Bm.Ov}{t:TypeId}(h:w.heap[a]? =some (.cells #[.int .i64 e,.int .i64 n,v] t (0,0))):eX w (.slice (some ⟨a,0,none⟩) 1 1) [⟨e,n,v,o⟩]:=by
 refine .inr ⟨⟨a,0,none⟩,1,rfl,by simp,by simp[maxLen],fun j u hj=>?_⟩
 rw[gB]
 simp only[ccells,iG,List.append_nil]at hj
 match j,hj with
 |0,hj=>simp at hj;subst hj;exact ai h 0 rfl
 |1,hj=>simp at hj;subst hj;exact ai h 1 rfl
 |2,hj=>simp at hj;subst hj;exact ai h 2 rfl
 |k+3,hj=>simp at hj
end Go.Proofs.YtjemlgdkjilnoaaGreatDoor
