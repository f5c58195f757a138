/- Texts of one layer, one behind the other. -/
import Derived.Test.YtajlhdmnincehaaGreatDoorM3
/- A disk that is opened is a live state; opened again it is the same. Shorten, Base, Orphan. No program. -/
namespace Go.Proofs.YtajlhdmnincehaaGreatDoor
set_option linter.unusedVariables false
namespace Rst
open Dm
open Cm (Cv lastE lastN)
open Pm (Pg)
open Orp (Se)



/-- A new disk, opened. -/
theorem in_new (z : Pg) (hz : z.e = 1 ∧ z.a = 0 ∧ z.p = 0 ∧ z.r ≠ 3) : In z ⟨Dm.new, z, [], [], false⟩ [] [] :=
  ⟨rfl, rfl, rfl, rfl, trivial, rfl, by simp, rfl, rfl, trivial, rfl, trivial, snd_plain (by simp [Cm.lastN]) (by show (0 : Int) ≤ z.e; omega) hz.2.2.2 (by show z.a ≤ (0 : Int); omega) hz.2.2.1⟩

/-- Shorten. -/
def cut (s : St) (to : Int) : Int × Ds := if (cutD s.d 0 (Wl.lgb (s.l.take to.toNat)).length).1 ≠ 0 then (6, (cutD s.d 0 (Wl.lgb (s.l.take to.toNat)).length).2) else if (sync (cutD s.d 0 (Wl.lgb (s.l.take to.toNat)).length).2).1 ≠ 0 then (6, (sync (cutD s.d 0 (Wl.lgb (s.l.take to.toNat)).length).2).2) else (0, (sync (cutD s.d 0 (Wl.lgb (s.l.take to.toNat)).length).2).2)

/-- Base. -/
def base (s : St) : Int × Int × St := if asked s = true then (0, 6, brk s) else ((hf 3 s.d).length, 0, s)


end Rst
end Go.Proofs.YtajlhdmnincehaaGreatDoor

/- Shorten of a live state, and what stands when the disk goes off in it. No program. -/
namespace Go.Proofs.YtajlhdmnincehaaGreatDoor
set_option linter.unusedVariables false
namespace Rst
open Dm
open Cm (Cv lastE lastN)
open Pm (Pg)
open Orp (Se)

/-- A cut of a file, and a sync. -/
def cuts (f : Nat) (d : Ds) (n : Nat) : Int × Ds := if (cutD d f n).1 ≠ 0 then (6, (cutD d f n).2) else if (sync (cutD d f n).2).1 ≠ 0 then (6, (sync (cutD d f n).2).2) else (0, (sync (cutD d f n).2).2)




section
variable {z : Pg} {s : St} {ps : List Pg} {ss : List Se}




end
end Rst
end Go.Proofs.YtajlhdmnincehaaGreatDoor

/- Orphan of a live state. No program. -/
namespace Go.Proofs.YtajlhdmnincehaaGreatDoor
set_option linter.unusedVariables false
namespace Rst
open Dm
open Cm (Cv lastE lastN)
open Pm (Pg)
open Orp (Se)




section
variable {z : Pg} {s : St} {ps : List Pg} {ss : List Se}

/-- What the section is written behind. -/
structure Bhd (s : St) (b : Int) (x : Se) (l : List Se) : Prop where
  lo : 0 ≤ b
  ris : Orp.Ris 0 (l ++ [x])
  is : Orp.secs l = (s.d.sure 3).take b.toNat
  len : ((Orp.secs l).length : Int) = b
  le : b.toNat ≤ (s.d.sure 3).length
  base : (s.p.p = 2 ∨ s.p.p = 3 ∨ s.p.p = 4) → s.p.b ≤ b



end
end Rst
end Go.Proofs.YtajlhdmnincehaaGreatDoor

/- The mathematics of a state: calls that are taken on a calm disk (layer 21). No program. -/
namespace Go.Proofs.YtajlhdmnincehaaGreatDoor
set_option linter.unusedVariables false
namespace Rst
open Dm
open Cm (Cv lastE lastN)
open Pm (Pg)
open Orp (Se)

section
variable {z : Pg} {s : St} {ps : List Pg} {ss : List Se}

theorem add_go (h : In z s ps ss) (hh : s.d.has = false) {cs : List Cv} (h1 : (Cm.fol (lastE 0 s.l) s.l.length 0 cs).1 = 0) (h2 : snd s.p (s.l ++ cs) (lastN 0 s.r) (Orp.secs ss).length = true) :
    (add s cs).1 = 0 ∧ In z (add s cs).2 ps ss ∧ (add s cs).2.p = s.p ∧ (add s cs).2.l = s.l ++ cs ∧ (add s cs).2.r = s.r ∧ (add s cs).2.d.has = false := by
  rcases add_in h cs with ⟨c1, c2, _⟩ | ⟨c1, c2, c3, c4, c5, c6⟩ | ⟨_, c2, _⟩
  · exfalso
    unfold add at c1 c2
    rw [if_neg (by rw [h.ask]; simp), if_neg (by rw [h1]; simp), if_neg (by rw [h.fine, h2]; simp)] at c1 c2
    split at c1
    · exact c1 rfl
    · rename_i hne
      rw [if_neg hne] at c2
      split at c1
      · rename_i hw
        rw [if_pos hw] at c2
        exact c2 rfl
      · exact c1 rfl
  · exact ⟨c1, c2, c3, c4, c5, c6 hh⟩
  · rw [hh] at c2; cases c2





end

end Rst
end Go.Proofs.YtajlhdmnincehaaGreatDoor
