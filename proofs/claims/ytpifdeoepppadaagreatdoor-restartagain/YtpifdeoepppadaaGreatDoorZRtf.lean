/- Texts of one layer, one behind the other. -/
import Derived.Test.YtpifdeoepppadaaGreatDoorZRtm
set_option maxRecDepth 100000
set_option maxHeartbeats 8000000
namespace Go.Proofs.YtpifdeoepppadaaGreatDoor
set_option linter.unusedVariables false
namespace Rst
open Dm
open Cm (Cv lastE lastN)
open Pm (Pg)
open Orp (Se)
section
variable {z:Pg} {s:St} {ps:List Pg} {ss:List Se}
theorem fold_add (h:In z s ps ss){c:Cv}(h1:(add s [c]).1=0):Sto.fold (aZ (add s [c]).2)=Tm.app (Sto.fold (aZ s)) c.l:=by
 obtain⟨so,sf⟩:=h.aZ
 obtain⟨b1,b2,b3,b4⟩:=so.bound
 rcases yQ h [c]with⟨c1,_⟩|⟨_,_,_,c4,c5,_⟩|⟨c1,_⟩
 ·exact absurd h1 c1
 ·have hk:(lastN 0 s.r).toNat≤s.l.length:=by
   have e1:lastN 0 s.r+((s.l.drop (lastN 0 s.r).toNat).length:Int)=s.l.length:=sf
   omega
  unfold Sto.fold
  show Tm.app (Rl.tab (add s [c]).2.r) (Rl.ops ((add s [c]).2.l.drop (lastN 0 (add s [c]).2.r).toNat))=Tm.app (Tm.app (Rl.tab s.r) (Rl.ops (s.l.drop (lastN 0 s.r).toNat))) c.l
  rw[c4,c5,List.drop_append_of_le_length hk,Rl.ahC,Tm.zJ]
 ·rw[h1]at c1;simp at c1
theorem au5 (h:In z s ps ss){c:Cv}(h1:(add s [c]).1=0):Cm.aJ c.e c.n c.l=0∧Bm.first c.l=0:=by
 have hf:(Cm.fol (lastE 0 s.l) s.l.length 0 [c]).1=0:=by
  rcases Classical.em ((Cm.fol (lastE 0 s.l) s.l.length 0 [c]).1=0)with e|e
  ·exact e
  ·unfold add at h1
   rw[if_neg (by rw[h.ask];simp),if_pos e]at h1
   exact absurd h1 e
 have hg:Cm.Good (lastE 0 s.l) s.l.length [c]:=(Cm.il _ _ _ 0).1 hf
 have hc:=(Sto.gF hg c (by simp)).1
 exact⟨hc,Bm.pQ (Bm.dM (Cm.bu hc).2.2.2.2).2.2⟩
theorem apV (h:In z s ps ss)(hh:s.d.has=false)(cs:List Cv):((add s cs).1≠0∧(add s cs).2=s)∨((add s cs).1=0∧In z (add s cs).2 ps ss∧(add s cs).2.d.has=false∧(add s cs).2.l=s.l++cs∧(add s cs).2.p=s.p):=by
 rcases yQ h cs with⟨c1,_,c2⟩|⟨c1,c2,c3,c4,c5,c6⟩|⟨_,c2,_⟩
 ·exact .inl ⟨c1,c2⟩
 ·exact .inr ⟨c1,c2,c6 hh,c4,c3⟩
 ·rw[hh]at c2;cases c2
theorem ap2 (h:In z s ps ss)(hh:s.d.has=false)(u:Int):In z (aR s u).2 ps ss∧(aR s u).2.d.has=false∧(aR s u).2.l=s.l:=by
 rcases xV h u with⟨_,c2⟩|⟨_,c2,_,c4,c5⟩|⟨_,c2,_⟩
 ·rw[c2];exact⟨h,hh,rfl⟩
 ·exact⟨c2,c5 hh,c4⟩
 ·rw[hh]at c2;cases c2
end
end Rst
end Go.Proofs.YtpifdeoepppadaaGreatDoor
