/- Texts of one layer, one behind the other. -/
import Derived.Test.YtajlhdmnincehaaGreatDoorM4
/- What is read of a state that grows (layer 21). No program. -/
namespace Go.Proofs.YtajlhdmnincehaaGreatDoor
set_option linter.unusedVariables false
namespace Rst
open Dm
open Cm (Cv lastE lastN)
open Pm (Pg)
open Orp (Se)

section
variable {z : Pg} {s : St} {ps : List Pg} {ss : List Se}

theorem fold_add (h : In z s ps ss) {c : Cv} (h1 : (add s [c]).1 = 0) : Sto.fold (sto (add s [c]).2) = Tm.app (Sto.fold (sto s)) c.l := by
  obtain ⟨so, sf⟩ := h.sto
  obtain ⟨b1, b2, b3, b4⟩ := so.bound
  rcases add_in h [c] with ⟨c1, _⟩ | ⟨_, _, _, c4, c5, _⟩ | ⟨c1, _⟩
  · exact absurd h1 c1
  · have hk : (lastN 0 s.r).toNat ≤ s.l.length := by
      have e1 : lastN 0 s.r + ((s.l.drop (lastN 0 s.r).toNat).length : Int) = s.l.length := sf
      omega
    unfold Sto.fold
    show Tm.app (Rl.tab (add s [c]).2.r) (Rl.ops ((add s [c]).2.l.drop (lastN 0 (add s [c]).2.r).toNat)) = Tm.app (Tm.app (Rl.tab s.r) (Rl.ops (s.l.drop (lastN 0 s.r).toNat))) c.l
    rw [c4, c5, List.drop_append_of_le_length hk, Rl.ops_snoc, Tm.app_app]
  · rw [h1] at c1; simp at c1




end

end Rst
end Go.Proofs.YtajlhdmnincehaaGreatDoor
