/- Texts of one layer, one behind the other. -/
import Derived.Test.YtlmkaljjocflmaaGreatDoorAM3
set_option maxRecDepth 100000
set_option maxHeartbeats 8000000
namespace Go.Proofs.YtlmkaljjocflmaaGreatDoor
set_option linter.unusedVariables false
namespace Rst
open Dm
open Cm (Cv lastE lastN)
open Pm (Pg)
open Orp (Se)
theorem aja (z:Pg)(hz:z.e=1∧z.a=0∧z.p=0∧z.r≠3):In z ⟨Dm.new,z,[],[],false⟩ [] []:=
 ⟨rfl,rfl,rfl,rfl,trivial,rfl,by simp,rfl,rfl,trivial,rfl,trivial,acE (by simp[Cm.lastN]) (by show(0:Int)≤z.e;omega) hz.2.2.2 (by show z.a≤(0:Int);omega) hz.2.2.1⟩
def cut (s:St) (to:Int):Int×Ds:=if (dX s.d 0 (Wl.bD (s.l.take to.toNat)).length).1≠0 then(6,(dX s.d 0 (Wl.bD (s.l.take to.toNat)).length).2)else if (sync (dX s.d 0 (Wl.bD (s.l.take to.toNat)).length).2).1≠0 then(6,(sync (dX s.d 0 (Wl.bD (s.l.take to.toNat)).length).2).2)else(0,(sync (dX s.d 0 (Wl.bD (s.l.take to.toNat)).length).2).2)
def base (s:St):Int×Int×St:=if asked s=true then(0,6,brk s)else((hf 3 s.d).length,0,s)
end Rst
end Go.Proofs.YtlmkaljjocflmaaGreatDoor
namespace Go.Proofs.YtlmkaljjocflmaaGreatDoor
set_option linter.unusedVariables false
namespace Rst
open Dm
open Cm (Cv lastE lastN)
open Pm (Pg)
open Orp (Se)
def cuts (f:Nat) (d:Ds) (n:Nat):Int×Ds:=if (dX d f n).1≠0 then(6,(dX d f n).2)else if (sync (dX d f n).2).1≠0 then(6,(sync (dX d f n).2).2)else(0,(sync (dX d f n).2).2)
section
variable {z:Pg} {s:St} {ps:List Pg} {ss:List Se}
end
end Rst
end Go.Proofs.YtlmkaljjocflmaaGreatDoor
namespace Go.Proofs.YtlmkaljjocflmaaGreatDoor
set_option linter.unusedVariables false
namespace Rst
open Dm
open Cm (Cv lastE lastN)
open Pm (Pg)
open Orp (Se)
section
variable {z:Pg} {s:St} {ps:List Pg} {ss:List Se}
structure Bhd (s:St) (b:Int) (x:Se) (l:List Se):Prop where
 lo:0≤b
 ris:Orp.Ris 0 (l++[x])
 is:Orp.secs l=(s.d.sure 3).take b.toNat
 len:((Orp.secs l).length:Int)=b
 le:b.toNat≤(s.d.sure 3).length
 base:(s.p.p=2∨s.p.p=3∨s.p.p=4)→s.p.b≤b
end
end Rst
end Go.Proofs.YtlmkaljjocflmaaGreatDoor
namespace Go.Proofs.YtlmkaljjocflmaaGreatDoor
set_option linter.unusedVariables false
namespace Rst
open Dm
open Cm (Cv lastE lastN)
open Pm (Pg)
open Orp (Se)
section
variable {z:Pg} {s:St} {ps:List Pg} {ss:List Se}
theorem atb (h:In z s ps ss)(hh:s.d.has=false){cs:List Cv}(h1:(Cm.fol (lastE 0 s.l) s.l.length 0 cs).1=0)(h2:snd s.p (s.l++cs) (lastN 0 s.r) (Orp.secs ss).length=true):
  (add s cs).1=0∧In z (add s cs).2 ps ss∧(add s cs).2.p=s.p∧(add s cs).2.l=s.l++cs∧(add s cs).2.r=s.r∧(add s cs).2.d.has=false:=by
 rcases alc h cs with⟨c1,c2,_⟩|⟨c1,c2,c3,c4,c5,c6⟩|⟨_,c2,_⟩
 ·exfalso
  unfold add at c1 c2
  rw[if_neg (by rw[h.ask];simp),if_neg (by rw[h1];simp),if_neg (by rw[h.fine,h2];simp)]at c1 c2
  split at c1
  ·exact c1 rfl
  ·rename_i hne
   rw[if_neg hne]at c2
   split at c1
   ·rename_i hw
    rw[if_pos hw]at c2
    exact c2 rfl
   ·exact c1 rfl
 ·exact⟨c1,c2,c3,c4,c5,c6 hh⟩
 ·rw[hh]at c2;cases c2
theorem arv (h:In z s ps ss)(hh:s.d.has=false){q:Pg}(h1:Pm.chk q=0)(h2:snd q s.l (lastN 0 s.r) (Orp.secs ss).length=true):
  (bB s q).1=0∧In z (bB s q).2 (ps++[q]) ss∧(bB s q).2.p=q∧(bB s q).2.l=s.l∧(bB s q).2.r=s.r∧(bB s q).2.d.has=false:=by
 rcases avc h q with⟨c1,c2,_⟩|⟨c1,c2,c3,c4,c5,c6⟩|⟨_,c2,_⟩
 ·exfalso
  unfold bB at c1 c2
  rw[if_neg (by rw[h.ask];simp),if_neg (by rw[h1];simp),if_neg (by rw[h.fine,h2];simp)]at c1 c2
  split at c1
  ·rename_i hw
   rw[if_pos hw]at c2
   exact c2 rfl
  ·exact c1 rfl
 ·exact⟨c1,c2,c3,c4,c5,c6 hh⟩
 ·rw[hh]at c2;cases c2
end
end Rst
end Go.Proofs.YtlmkaljjocflmaaGreatDoor
