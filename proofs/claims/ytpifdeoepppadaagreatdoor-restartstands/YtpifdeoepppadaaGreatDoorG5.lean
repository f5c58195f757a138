/- Texts of one layer, one behind the other. -/
import Derived.Test.YtpifdeoepppadaaGreatDoorG4
set_option maxRecDepth 100000
set_option maxHeartbeats 8000000
namespace Go.Proofs.YtpifdeoepppadaaGreatDoor
set_option linter.unusedVariables false
namespace Rst
open Dm
open Cm (Cv lastE lastN)
open Pm (Pg)
open Orp (Se)
theorem In.again {z p:Pg}{s:St}{ps:List Pg}{ss st:List Se}{m r:List Cv}{g:Nat}(h:In z s ps ss)(k:za s.d z m p g r st):
  m=s.l∧p=s.p∧r=s.r∧st=ss∧gP s.d m p g r st=0∧fV s.d m g r st=s.d:=by
 obtain⟨k1,k2,k3,k4⟩:=k
 have kl:=k1
 have kp:=k2
 have kr:=k3
 have kn:=k4
 rw[dB h.calm]at kl kp kr kn
 rw[h.log]at kl
 rw[h.ny]at kp
 rw[h.run]at kr
 rw[h.lZ]at kn
 have e1:m=s.l:=Wl.rA kl (Wl.adz h.gl)
 obtain⟨e2,e3⟩:=ajH h.gp kp
 have e4:r=s.r:=Rl.rA kr (Rl.adz h.gr)
 have e5:st=ss:=Orp.vC kn (Orp.zW h.go)
 have e6:p=s.p:=by rw[e2,h.last]
 subst e1 e4 e5
 have q1:bT 0 s.d (Wl.aW s.l).length=(0,s.d):=by
  unfold bT
  rw[dB h.calm,h.log,if_pos rfl]
 have q2:bT 1 s.d g=(0,s.d):=by
  unfold bT
  rw[dB h.calm,h.ny,e3,if_pos rfl]
 have q3:bT 2 s.d (Rl.aW s.r).length=(0,s.d):=by
  unfold bT
  rw[dB h.calm,h.run,if_pos rfl]
 have q4:bT 3 s.d (Orp.secs st).length=(0,s.d):=by
  unfold bT
  rw[dB h.calm,h.lZ,if_pos rfl]
 have x1:d1 s.d s.l=s.d:=by unfold d1;rw[q1]
 have x2:d2 s.d s.l g=s.d:=by unfold d2;rw[x1,q2]
 have x3:d3 s.d s.l g s.r=s.d:=by unfold d3;rw[x2,q3]
 have x4:d4 s.d s.l g s.r st=s.d:=by unfold d4;rw[x3,q4]
 refine⟨rfl,e6,rfl,rfl,?_,?_⟩
 ·unfold gP
  rw[x1,x2,x3,q1,q2,q3,q4,e6,if_neg (by simp[h.on]),if_neg (by simp),if_neg (by simp),if_neg (by simp),if_neg (by simp),if_pos h.sd]
 ·unfold fV
  rw[x1,x2,x4,q1,q2,q3,if_neg (by simp[h.on]),if_neg (by simp),if_neg (by simp),if_neg (by simp)]
theorem yK (z:Pg)(hz:z.e=1∧z.a=0∧z.p=0∧z.r≠3):In z ⟨Dm.new,z,[],[],false⟩ [] []:=
 ⟨rfl,rfl,rfl,rfl,trivial,rfl,by simp,rfl,rfl,trivial,rfl,trivial,pG (by simp[Cm.lastN]) (by show(0:Int)≤z.e;omega) hz.2.2.2 (by show z.a≤(0:Int);omega) hz.2.2.1⟩
def cut (s:St) (to:Int):Int×Ds:=if (bg s.d 0 (Wl.aW (s.l.take to.toNat)).length).1≠0 then(6,(bg s.d 0 (Wl.aW (s.l.take to.toNat)).length).2)else if (sync (bg s.d 0 (Wl.aW (s.l.take to.toNat)).length).2).1≠0 then(6,(sync (bg s.d 0 (Wl.aW (s.l.take to.toNat)).length).2).2)else(0,(sync (bg s.d 0 (Wl.aW (s.l.take to.toNat)).length).2).2)
def lX (s:St) (to:Int):Int×St:=
 if asked s=true then(6,brk s)else if to<lastN 0 s.r∨(s.l.length:Int)<to then(2,s)else if fine s s.p (s.l.take to.toNat) (lastN 0 s.r)=false then(5,s)
 else if (cut s to).1≠0 then(6,⟨(cut s to).2,s.p,s.l,s.r,true⟩)else(0,⟨(cut s to).2,s.p,s.l.take to.toNat,s.r,s.off⟩)
def base (s:St):Int×Int×St:=if asked s=true then(0,6,brk s)else((hf 3 s.d).length,0,s)
end Rst
end Go.Proofs.YtpifdeoepppadaaGreatDoor
namespace Go.Proofs.YtpifdeoepppadaaGreatDoor
set_option linter.unusedVariables false
namespace Rst
open Dm
open Cm (Cv lastE lastN)
open Pm (Pg)
open Orp (Se)
def cuts (f:Nat) (d:Ds) (n:Nat):Int×Ds:=if (bg d f n).1≠0 then(6,(bg d f n).2)else if (sync (bg d f n).2).1≠0 then(6,(sync (bg d f n).2).2)else(0,(sync (bg d f n).2).2)
section
variable {z:Pg} {s:St} {ps:List Pg} {ss:List Se}
end
end Rst
end Go.Proofs.YtpifdeoepppadaaGreatDoor
namespace Go.Proofs.YtpifdeoepppadaaGreatDoor
set_option linter.unusedVariables false
namespace Rst
open Dm
open Cm (Cv lastE lastN)
open Pm (Pg)
open Orp (Se)
end Rst
end Go.Proofs.YtpifdeoepppadaaGreatDoor
namespace Go.Proofs.YtpifdeoepppadaaGreatDoor
set_option linter.unusedVariables false
namespace Rst
open Dm
open Cm (Cv lastE lastN)
open Pm (Pg)
open Orp (Se)
section
variable {z:Pg} {s:St} {ps:List Pg} {ss:List Se}
structure Bhd (s:St) (b:Int) (x:Se) (l:List Se):Prop where
 lo:0≤b
 ris:Orp.Ris 0 (l++[x])
 is:Orp.secs l=(s.d.sure 3).take b.toNat
 len:((Orp.secs l).length:Int)=b
 le:b.toNat≤(s.d.sure 3).length
 base:(s.p.p=2∨s.p.p=3∨s.p.p=4)→s.p.b≤b
end
end Rst
end Go.Proofs.YtpifdeoepppadaaGreatDoor
