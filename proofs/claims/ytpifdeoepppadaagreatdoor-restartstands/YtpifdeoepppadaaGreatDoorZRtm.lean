/- Texts of one layer, one behind the other. -/
import Derived.Test.YtpifdeoepppadaaGreatDoorG5
set_option maxRecDepth 100000
set_option maxHeartbeats 8000000
namespace Go.Proofs.YtpifdeoepppadaaGreatDoor
set_option linter.unusedVariables false
namespace Rst
open Dm
open Cm (Cv lastE lastN)
open Pm (Pg)
open Orp (Se)
section
variable {z:Pg} {s:St} {ps:List Pg} {ss:List Se}
theorem axp (h:In z s ps ss)(hh:s.d.has=false){cs:List Cv}(h1:(Cm.fol (lastE 0 s.l) s.l.length 0 cs).1=0)(h2:snd s.p (s.l++cs) (lastN 0 s.r) (Orp.secs ss).length=true):
  (add s cs).1=0∧In z (add s cs).2 ps ss∧(add s cs).2.p=s.p∧(add s cs).2.l=s.l++cs∧(add s cs).2.r=s.r∧(add s cs).2.d.has=false:=by
 rcases yQ h cs with⟨c1,c2,_⟩|⟨c1,c2,c3,c4,c5,c6⟩|⟨_,c2,_⟩
 ·exfalso
  unfold add at c1 c2
  rw[if_neg (by rw[h.ask];simp),if_neg (by rw[h1];simp),if_neg (by rw[h.fine,h2];simp)]at c1 c2
  split at c1
  ·exact c1 rfl
  ·rename_i hne
   rw[if_neg hne]at c2
   split at c1
   ·rename_i hw
    rw[if_pos hw]at c2
    exact c2 rfl
   ·exact c1 rfl
 ·exact⟨c1,c2,c3,c4,c5,c6 hh⟩
 ·rw[hh]at c2;cases c2
theorem auJ (h:In z s ps ss)(hh:s.d.has=false){q:Pg}(h1:Pm.aJ q=0)(h2:snd q s.l (lastN 0 s.r) (Orp.secs ss).length=true):
  (bQ s q).1=0∧In z (bQ s q).2 (ps++[q]) ss∧(bQ s q).2.p=q∧(bQ s q).2.l=s.l∧(bQ s q).2.r=s.r∧(bQ s q).2.d.has=false:=by
 rcases ag0 h q with⟨c1,c2,_⟩|⟨c1,c2,c3,c4,c5,c6⟩|⟨_,c2,_⟩
 ·exfalso
  unfold bQ at c1 c2
  rw[if_neg (by rw[h.ask];simp),if_neg (by rw[h1];simp),if_neg (by rw[h.fine,h2];simp)]at c1 c2
  split at c1
  ·rename_i hw
   rw[if_pos hw]at c2
   exact c2 rfl
  ·exact c1 rfl
 ·exact⟨c1,c2,c3,c4,c5,c6 hh⟩
 ·rw[hh]at c2;cases c2
theorem anR (h:In z s ps ss)(hh:s.d.has=false){u:Int}(h1:lastN 0 s.r<u)(h2:u≤s.l.length)(h3:snd s.p s.l u (Orp.secs ss).length=true)(h4:(Sto.eG (aZ s) u).l.length≤1024):
  (aR s u).1=0∧In z (aR s u).2 ps ss∧(aR s u).2.p=s.p∧(aR s u).2.l=s.l∧(aR s u).2.r=s.r++[Sto.eG (aZ s) u]∧(aR s u).2.d.has=false:=by
 have hn:¬(u<lastN 0 s.r∨(s.l.length:Int)<u):=by omega
 obtain⟨so,sf⟩:=h.aZ
 have hso:(Rst.aZ s).r.l=s.r:=rfl
 obtain⟨k1,k2⟩:=Sto.ah7 so (u:=u) (by rw[hso,sf];exact hn) (by rw[hso];omega) (by omega)
 rw[hso]at k2
 have hR:Rl.aR (Rst.aZ s).r (Sto.eG (Rst.aZ s) u)=if (ext s.d 2 (Rl.fr (Sto.eG (Rst.aZ s) u))).1≠0 then((ext s.d 2 (Rl.fr (Sto.eG (Rst.aZ s) u))).1,⟨(ext s.d 2 (Rl.fr (Sto.eG (Rst.aZ s) u))).2,s.r,true⟩)else(0,⟨(ext s.d 2 (Rl.fr (Sto.eG (Rst.aZ s) u))).2,s.r++[Sto.eG (Rst.aZ s) u],false⟩):=by
  unfold Rl.aR
  have ha:Rl.ask (Rst.aZ s).r=false:=h.ask
  rw[ha,if_neg (by simp),if_neg (by simp[k1]),if_neg (by rw[hso];simp[k2]),hso,show(Rst.aZ s).r.d=s.d from rfl,ajs h.calm h.on]
 have hF:aR s u=((Sto.aR (aZ s) u).1,⟨(Sto.aR (aZ s) u).2.r.d,s.p,s.l,(Sto.aR (aZ s) u).2.r.l,s.off||decide ((Sto.aR (aZ s) u).1=6)⟩):=by
  unfold aR
  rw[if_neg (by rw[h.ask];simp),if_neg hn,if_neg (by rw[h.fine,h3];simp)]
 have hS:Sto.aR (aZ s) u=if (Rl.aR (aZ s).r (Sto.eG (aZ s) u)).1≠0 then((Rl.aR (aZ s).r (Sto.eG (aZ s) u)).1,⟨(Rl.aR (aZ s).r (Sto.eG (aZ s) u)).2,(aZ s).l⟩)else(0,⟨(Rl.aR (aZ s).r (Sto.eG (aZ s) u)).2,(aZ s).l.drop (u-lastN 0 (aZ s).r.l).toNat⟩):=by
  unfold Sto.aR
  rw[if_neg (by rw[hso,sf];exact hn),if_neg (by rw[hso];omega),if_neg (by omega)]
 have he6:(ext s.d 2 (Rl.fr (Sto.eG (Rst.aZ s) u))).1=0∨(ext s.d 2 (Rl.fr (Sto.eG (Rst.aZ s) u))).1=6:=by
  unfold ext
  split
  ·exact .inr rfl
  ·split
   ·exact .inr rfl
   ·exact .inl rfl
 rcases he6 with he|he
 ·rw[if_neg (by simp[he])]at hR
  rw[hR,if_neg (by simp)]at hS
  rw[hS]at hF
  have hr:(aR s u).2.r=s.r++[Sto.eG (aZ s) u]:=by rw[hF]
  rcases xV h u with⟨_,c2⟩|⟨c1,c2,c3,c4,c5⟩|⟨c1,_⟩
  ·exfalso
   rw[c2]at hr
   have:=congrArg List.length hr
   simp at this
  ·exact⟨c1,c2,c3,c4,hr,c5 hh⟩
  ·rw[hF]at c1
   simp at c1
 ·rw[if_pos (by simp[he]),he]at hR
  rw[hR,if_pos (by simp)]at hS
  have h6:(aR s u).1=6:=by rw[hF,hS]
  rcases xV h u with⟨c1,_⟩|⟨c1,_⟩|⟨_,c2,_⟩
  ·exact absurd h6 c1
  ·rw[h6]at c1;simp at c1
  ·rw[hh]at c2;cases c2
theorem au2 (h:In z s ps ss)(u:Int):s.l.drop (lastN 0 (Sto.aR (aZ s) u).2.r.l).toNat=(Sto.aR (aZ s) u).2.l:=by
 obtain⟨so,sf⟩:=h.aZ
 obtain⟨b1,b2,b3,b4⟩:=so.bound
 have hso:(Rst.aZ s).r.l=s.r:=rfl
 unfold Sto.aR
 split
 ·rfl
 rename_i h1
 split
 ·rfl
 split
 ·rfl
 split
 ·rename_i h4
  show s.l.drop (lastN 0 (Rl.aR (aZ s).r (Sto.eG (aZ s) u)).2.l).toNat=(aZ s).l
  rw[Sto.ahs h4]
  rfl
 ·rename_i h4
  show s.l.drop (lastN 0 (Rl.aR (aZ s).r (Sto.eG (aZ s) u)).2.l).toNat=(aZ s).l.drop (u-lastN 0 (aZ s).r.l).toNat
  rw[Sto.ab3 (by simpa using h4),Rl.dX]
  show s.l.drop u.toNat=(s.l.drop (lastN 0 s.r).toNat).drop (u-lastN 0 s.r).toNat
  rw[hso]at h1 b1
  rw[List.drop_drop]
  congr 1
  omega
theorem aaQ (h:In z s ps ss)(u:Int):Sto.fold (aZ (aR s u).2)=Sto.fold (aZ s):=by
 obtain⟨so,sf⟩:=h.aZ
 have e:=(Sto.afX so u).2.1
 unfold aR
 rw[if_neg (by rw[h.ask];simp)]
 split
 ·rfl
 split
 ·rfl
 rw[←e]
 unfold Sto.fold
 show Tm.app (Rl.tab (Sto.aR (aZ s) u).2.r.l) (Rl.ops (s.l.drop (lastN 0 (Sto.aR (aZ s) u).2.r.l).toNat))=_
 rw[au2 h u]
end
end Rst
end Go.Proofs.YtpifdeoepppadaaGreatDoor
