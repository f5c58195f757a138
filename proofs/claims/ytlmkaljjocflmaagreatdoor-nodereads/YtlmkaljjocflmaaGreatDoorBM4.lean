/- Texts. -/
import Derived.Test.YtlmkaljjocflmaaGreatDoorBM3
set_option maxRecDepth 100000
set_option maxHeartbeats 8000000
set_option linter.unusedVariables false
namespace Go.Proofs.YtlmkaljjocflmaaGreatDoor
namespace Rst
open Dm
open Cm (Cv lastE lastN)
open Pm (Pg)
open Orp (Se)
theorem avG (z:Pg)(hz:z.e=1∧z.a=0∧z.p=0∧z.r≠3):In z ⟨Dm.new,z,[],[],false⟩ [] []:=
 ⟨rfl,rfl,rfl,rfl,trivial,rfl,by simp,rfl,rfl,trivial,rfl,trivial,rQ (by simp[Cm.lastN]) (by show(0:Int)≤z.e;omega) hz.2.2.2 (by show z.a≤(0:Int);omega) hz.2.2.1⟩
def base (s:St):Int×Int×St:=if asked s=true then(0,6,brk s)else((hf 3 s.d).length,0,s)
end Rst
end Go.Proofs.YtlmkaljjocflmaaGreatDoor
namespace Go.Proofs.YtlmkaljjocflmaaGreatDoor
namespace Rst
open Dm
open Cm (Cv lastE lastN)
open Pm (Pg)
open Orp (Se)
section
variable {z:Pg} {s:St} {ps:List Pg} {ss:List Se}
structure Bhd (s:St) (b:Int) (x:Se) (l:List Se):Prop where
 lo:0≤b
 ris:Orp.Ris 0 (l++[x])
 is:Orp.secs l=(s.d.sure 3).take b.toNat
 len:((Orp.secs l).length:Int)=b
 le:b.toNat≤(s.d.sure 3).length
 base:(s.p.p=2∨s.p.p=3∨s.p.p=4)→s.p.b≤b
end
end Rst
end Go.Proofs.YtlmkaljjocflmaaGreatDoor
namespace Go.Proofs.YtlmkaljjocflmaaGreatDoor
namespace Rst
open Dm
open Cm (Cv lastE lastN)
open Pm (Pg)
open Orp (Se)
section
variable {z:Pg} {s:St} {ps:List Pg} {ss:List Se}
theorem axF (h:In z s ps ss)(hh:s.d.has=false){cs:List Cv}(h1:(Cm.fol (lastE 0 s.l) s.l.length 0 cs).1=0)(h2:snd s.p (s.l++cs) (lastN 0 s.r) (Orp.secs ss).length=true):
  (add s cs).1=0∧In z (add s cs).2 ps ss∧(add s cs).2.p=s.p∧(add s cs).2.l=s.l++cs∧(add s cs).2.r=s.r∧(add s cs).2.d.has=false:=by
 rcases amN h cs with⟨c1,c2,_⟩|⟨c1,c2,c3,c4,c5,c6⟩|⟨_,c2,_⟩
 ·exfalso
  unfold add at c1 c2
  rw[if_neg (by rw[h.ask];simp),if_neg (by rw[h1];simp),if_neg (by rw[h.fine,h2];simp)]at c1 c2
  split at c1
  ·exact c1 rfl
  ·rename_i hne
   rw[if_neg hne]at c2
   split at c1
   ·rename_i hw
    rw[if_pos hw]at c2
    exact c2 rfl
   ·exact c1 rfl
 ·exact⟨c1,c2,c3,c4,c5,c6 hh⟩
 ·rw[hh]at c2;cases c2
theorem aum (h:In z s ps ss)(hh:s.d.has=false){q:Pg}(h1:Pm.chk q=0)(h2:snd q s.l (lastN 0 s.r) (Orp.secs ss).length=true):
  (dB s q).1=0∧In z (dB s q).2 (ps++[q]) ss∧(dB s q).2.p=q∧(dB s q).2.l=s.l∧(dB s q).2.r=s.r∧(dB s q).2.d.has=false:=by
 rcases axo h q with⟨c1,c2,_⟩|⟨c1,c2,c3,c4,c5,c6⟩|⟨_,c2,_⟩
 ·exfalso
  unfold dB at c1 c2
  rw[if_neg (by rw[h.ask];simp),if_neg (by rw[h1];simp),if_neg (by rw[h.fine,h2];simp)]at c1 c2
  split at c1
  ·rename_i hw
   rw[if_pos hw]at c2
   exact c2 rfl
  ·exact c1 rfl
 ·exact⟨c1,c2,c3,c4,c5,c6 hh⟩
 ·rw[hh]at c2;cases c2
theorem avL (h:In z s ps ss)(hh:s.d.has=false){u:Int}(h1:lastN 0 s.r<u)(h2:u≤s.l.length)(h3:snd s.p s.l u (Orp.secs ss).length=true)(h4:(Sto.dW (aP s) u).l.length≤1024):
  (aN s u).1=0∧In z (aN s u).2 ps ss∧(aN s u).2.p=s.p∧(aN s u).2.l=s.l∧(aN s u).2.r=s.r++[Sto.dW (aP s) u]∧(aN s u).2.d.has=false:=by
 have hn:¬(u<lastN 0 s.r∨(s.l.length:Int)<u):=by omega
 obtain⟨so,sf⟩:=h.aP
 have hso:(Rst.aP s).r.l=s.r:=rfl
 obtain⟨k1,k2⟩:=Sto.agk so (u:=u) (by rw[hso,sf];exact hn) (by rw[hso];omega) (by omega)
 rw[hso]at k2
 have hR:Rl.aN (Rst.aP s).r (Sto.dW (Rst.aP s) u)=if (ext s.d 2 (Rl.fr (Sto.dW (Rst.aP s) u))).1≠0 then((ext s.d 2 (Rl.fr (Sto.dW (Rst.aP s) u))).1,⟨(ext s.d 2 (Rl.fr (Sto.dW (Rst.aP s) u))).2,s.r,true⟩)else(0,⟨(ext s.d 2 (Rl.fr (Sto.dW (Rst.aP s) u))).2,s.r++[Sto.dW (Rst.aP s) u],false⟩):=by
  unfold Rl.aN
  have ha:Rl.ask (Rst.aP s).r=false:=h.ask
  rw[ha,if_neg (by simp),if_neg (by simp[k1]),if_neg (by rw[hso];simp[k2]),hso,show(Rst.aP s).r.d=s.d from rfl,aiy h.calm h.on]
 have hF:aN s u=((Sto.aN (aP s) u).1,⟨(Sto.aN (aP s) u).2.r.d,s.p,s.l,(Sto.aN (aP s) u).2.r.l,s.off||decide ((Sto.aN (aP s) u).1=6)⟩):=by
  unfold aN
  rw[if_neg (by rw[h.ask];simp),if_neg hn,if_neg (by rw[h.fine,h3];simp)]
 have hS:Sto.aN (aP s) u=if (Rl.aN (aP s).r (Sto.dW (aP s) u)).1≠0 then((Rl.aN (aP s).r (Sto.dW (aP s) u)).1,⟨(Rl.aN (aP s).r (Sto.dW (aP s) u)).2,(aP s).l⟩)else(0,⟨(Rl.aN (aP s).r (Sto.dW (aP s) u)).2,(aP s).l.drop (u-lastN 0 (aP s).r.l).toNat⟩):=by
  unfold Sto.aN
  rw[if_neg (by rw[hso,sf];exact hn),if_neg (by rw[hso];omega),if_neg (by omega)]
 have he6:(ext s.d 2 (Rl.fr (Sto.dW (Rst.aP s) u))).1=0∨(ext s.d 2 (Rl.fr (Sto.dW (Rst.aP s) u))).1=6:=by
  unfold ext
  split
  ·exact .inr rfl
  ·split
   ·exact .inr rfl
   ·exact .inl rfl
 rcases he6 with he|he
 ·rw[if_neg (by simp[he])]at hR
  rw[hR,if_neg (by simp)]at hS
  rw[hS]at hF
  have hr:(aN s u).2.r=s.r++[Sto.dW (aP s) u]:=by rw[hF]
  rcases alj h u with⟨_,c2⟩|⟨c1,c2,c3,c4,c5⟩|⟨c1,_⟩
  ·exfalso
   rw[c2]at hr
   have:=congrArg List.length hr
   simp at this
  ·exact⟨c1,c2,c3,c4,hr,c5 hh⟩
  ·rw[hF]at c1
   simp at c1
 ·rw[if_pos (by simp[he]),he]at hR
  rw[hR,if_pos (by simp)]at hS
  have h6:(aN s u).1=6:=by rw[hF,hS]
  rcases alj h u with⟨c1,_⟩|⟨c1,_⟩|⟨_,c2,_⟩
  ·exact absurd h6 c1
  ·rw[h6]at c1;simp at c1
  ·rw[hh]at c2;cases c2
theorem atx (h:In z s ps ss)(u:Int):s.l.drop (lastN 0 (Sto.aN (aP s) u).2.r.l).toNat=(Sto.aN (aP s) u).2.l:=by
 obtain⟨so,sf⟩:=h.aP
 obtain⟨b1,b2,b3,b4⟩:=so.bound
 have hso:(Rst.aP s).r.l=s.r:=rfl
 unfold Sto.aN
 split
 ·rfl
 rename_i h1
 split
 ·rfl
 split
 ·rfl
 split
 ·rename_i h4
  show s.l.drop (lastN 0 (Rl.aN (aP s).r (Sto.dW (aP s) u)).2.l).toNat=(aP s).l
  rw[Sto.aeW h4]
  rfl
 ·rename_i h4
  show s.l.drop (lastN 0 (Rl.aN (aP s).r (Sto.dW (aP s) u)).2.l).toNat=(aP s).l.drop (u-lastN 0 (aP s).r.l).toNat
  rw[Sto.abP (by simpa using h4),Rl.dU]
  show s.l.drop u.toNat=(s.l.drop (lastN 0 s.r).toNat).drop (u-lastN 0 s.r).toNat
  rw[hso]at h1 b1
  rw[List.drop_drop]
  congr 1
  omega
theorem aq6 (h:In z s ps ss)(u:Int):Sto.fold (aP (aN s u).2)=Sto.fold (aP s):=by
 obtain⟨so,sf⟩:=h.aP
 have e:=(Sto.ag0 so u).2.1
 unfold aN
 rw[if_neg (by rw[h.ask];simp)]
 split
 ·rfl
 split
 ·rfl
 rw[←e]
 unfold Sto.fold
 show Tm.app (Rl.tab (Sto.aN (aP s) u).2.r.l) (Rl.ops (s.l.drop (lastN 0 (Sto.aN (aP s) u).2.r.l).toNat))=_
 rw[atx h u]
end
end Rst
end Go.Proofs.YtlmkaljjocflmaaGreatDoor
