/- Texts of one layer, one behind the other. -/
import Derived.Test.YtpifdeoepppadaaGreatDoorZRtm
set_option maxRecDepth 100000
set_option maxHeartbeats 8000000
namespace Go.Proofs.YtpifdeoepppadaaGreatDoor
set_option linter.unusedVariables false
namespace Rst
open Dm
open Cm (Cv lastE lastN)
open Pm (Pg)
open Orp (Se)
def Stn (z:Pg) (d:Ds) (sure all:List Cv) (page other:Pg):Prop:=
 ∀(d':Ds) (k t:Nat),d'.sure=kept d k t→d'.wait=[]→d'.on=true→d'.has=false→∀m p g rr st,za d' z m p g rr st→gP d' m p g rr st=0∧sure<+:m∧m<+:all∧(p=page∨p=other)
section
variable {z:Pg} {s:St} {ps:List Pg} {ss:List Se}
theorem aop (h:In z s ps ss)(other:Pg):Stn z s.d s.l s.l s.p other:=fun d' k t hs hw ho hh m p g rr st hk=>by
 obtain⟨a1,a2,a3,_,_⟩:=h.zb.again h.sds hs hw ho hh hk
 rw[List.append_nil]at a2
 refine⟨a1,a2.1,a2.2,.inl ?_⟩
 rcases a3 with e|⟨o,e,_⟩
 ·rw[e,h.last]
 ·simp at e
theorem atZ (h:In z s ps ss){q:Pg}(h1:(bQ s q).1=6):Stn z (bQ s q).2.d s.l s.l s.p q:=fun d' k t hs hw ho hh m p g rr st hk=>by
 rcases ag0 h q with⟨_,c2,_⟩|⟨c1,_⟩|⟨_,_,c3,_,_,_,_,_,c9⟩
 ·exact absurd h1 c2
 ·rw[h1]at c1;simp at c1
 ·obtain⟨a1,a2,a3,_,_⟩:=c9.again (h.auX c3) hs hw ho hh hk
  rw[List.append_nil]at a2
  refine⟨a1,a2.1,a2.2,?_⟩
  rcases a3 with e|⟨o,e,e2⟩
  ·exact .inl (by rw[e,h.last])
  ·simp at e;exact .inr (by rw[e2,←e])
theorem atL (h:In z s ps ss){u:Int}(h1:(aR s u).1=6)(other:Pg):Stn z (aR s u).2.d s.l s.l s.p other:=fun d' k t hs hw ho hh m p g rr st hk=>by
 rcases xV h u with⟨c1,_⟩|⟨c1,_⟩|⟨_,_,_,_,_,_,_,c,c7,c8⟩
 ·exact absurd h1 c1
 ·rw[h1]at c1;simp at c1
 ·obtain⟨a1,a2,a3,_,_⟩:=c8.again (h.au6 c7) hs hw ho hh hk
  rw[List.append_nil]at a2
  refine⟨a1,a2.1,a2.2,.inl ?_⟩
  rcases a3 with e|⟨o,e,_⟩
  ·rw[e,h.last]
  ·simp at e
theorem atP (h:In z s ps ss){c:Cv}(h1:(add s [c]).1=6)(other:Pg):Stn z (add s [c]).2.d s.l (s.l++[c]) s.p other:=fun d' k t hs hw ho hh m p g rr st hk=>by
 have hf:(Cm.fol (lastE 0 s.l) s.l.length 0 [c]).1=0:=by
  rcases Classical.em ((Cm.fol (lastE 0 s.l) s.l.length 0 [c]).1=0)with e|e
  ·exact e
  ·unfold add at h1
   rw[if_neg (by rw[h.ask];simp),if_pos e]at h1
   exact absurd h1 (zA _ _ _ _)
 have hg:Cm.Good 0 0 (s.l++[c]):=by
  rw[Cm.dG]
  refine⟨h.gl,?_⟩
  have:=(Cm.il _ _ _ 0).1 hf
  rwa[show Cm.lastN 0 s.l=(s.l.length:Int)by rw[Sto.rz h.gl];omega]
 rcases yQ h [c]with⟨_,c2,_⟩|⟨c1,_⟩|⟨_,_,c3,_,_,_,_,_,c9⟩
 ·exact absurd h1 c2
 ·rw[h1]at c1;simp at c1
 ·obtain⟨a1,a2,a3,_,_⟩:=c9.again (h.at5 hg c3) hs hw ho hh hk
  refine⟨a1,a2.1,a2.2,.inl ?_⟩
  rcases a3 with e|⟨o,e,_⟩
  ·rw[e,h.last]
  ·simp at e
end
end Rst
end Go.Proofs.YtpifdeoepppadaaGreatDoor
