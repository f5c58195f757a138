/- Two disks of the program's and two of the document's beside one another, in memory. -/
import Derived.Test.YteklbnonikccaaaDi
namespace Go.Proofs.Yteklbnonikccaaa
open Go.RowKit
set_option linter.unusedVariables false

structure Quad (base D R p0 q0 p1 q1 : Nat) (w : World) (sa sb ta tb : Dm.Ds) (G : Nat → Nat → Prop) : Prop where
  a0 : Pk p0 (G 0) w sa
  b0 : Dk q0 (G 1) w sb
  a1 : Pk p1 (G 2) w ta
  b1 : Dk q1 (G 3) w tb
  dis : ∀ i j, i < 4 → j < 4 → i ≠ j → ∀ g, G i g → ¬ G j g
  ge : ∀ i, i < 4 → ∀ g, G i g → base ≤ g
  na : ∀ i, i < 4 → ¬ G i D ∧ ¬ G i R
  bD : w.heap[D]? = some (.cells #[.pointer (some ⟨p0, 0, none⟩), .pointer (some ⟨p1, 0, none⟩)] 37 (0, 0))
  bR : w.heap[R]? = some (.cells #[.pointer (some ⟨q0, 0, none⟩), .pointer (some ⟨q1, 0, none⟩)] 40 (0, 0))

def setG (G : Nat → Nat → Prop) (j : Nat) (F : Nat → Prop) : Nat → Nat → Prop := fun i => if i = j then F else G i

theorem grow_dis {G : Nat → Nat → Prop} {j n : Nat} {F' : Nat → Prop} (dis : ∀ i j, i < 4 → j < 4 → i ≠ j → ∀ g, G i g → ¬ G j g) (lt : ∀ i, i < 4 → ∀ g, G i g → g < n) (h : ∀ g, F' g → G j g ∨ n ≤ g) (hj : j < 4) : ∀ i k, i < 4 → k < 4 → i ≠ k → ∀ g, setG G j F' i g → ¬ setG G j F' k g := by
  intro i k hi hk hik g h1 h2
  unfold setG at h1 h2
  by_cases e : i = j
  · rw [if_pos e] at h1
    rw [if_neg (fun e2 => hik (e.trans e2.symm))] at h2
    rcases h g h1 with h3 | h3
    · exact dis j k hj hk (fun e2 => hik (e.trans e2)) g h3 h2
    · have := lt k hk g h2; omega
  · rw [if_neg e] at h1
    by_cases e2 : k = j
    · rw [if_pos e2] at h2
      rcases h g h2 with h3 | h3
      · exact dis i j hi hj e g h1 h3
      · have := lt i hi g h1; omega
    · rw [if_neg e2] at h2
      exact dis i k hi hk hik g h1 h2

def SQ (base D R p0 q0 p1 q1 b : Nat) (wl w : World) (sa sb ta tb : Dm.Ds) : Prop := ∃ G, Quad base D R p0 q0 p1 q1 w sa sb ta tb G ∧ (∀ i, i < 4 → ¬ G i b) ∧ w.heap[b]? = wl.heap[b]? ∧ Below base wl w

section
variable {base D R p0 q0 p1 q1 b : Nat} {wl w w' : World} {sa sb ta tb s' : Dm.Ds} {G : Nat → Nat → Prop}

theorem Quad.lt (h : Quad base D R p0 q0 p1 q1 w sa sb ta tb G) : ∀ i, i < 4 → ∀ g, G i g → g < w.heap.size := by
  intro i hi
  rcases (show i = 0 ∨ i = 1 ∨ i = 2 ∨ i = 3 by omega) with rfl | rfl | rfl | rfl
  · exact h.a0.lt
  · exact h.b0.lt
  · exact h.a1.lt
  · exact h.b1.lt

theorem Quad.out (h : Quad base D R p0 q0 p1 q1 w sa sb ta tb G) {E : Nat → Prop} (ho : Out E w w') (hE : ∀ i, i < 4 → ∀ g, G i g → ¬ E g) (hD : ¬ E D) (hR : ¬ E R) : Quad base D R p0 q0 p1 q1 w' sa sb ta tb G :=
  ⟨h.a0.out ho (hE 0 (by omega)), h.b0.out ho (hE 1 (by omega)), h.a1.out ho (hE 2 (by omega)), h.b1.out ho (hE 3 (by omega)), h.dis, h.ge, h.na, (ho.block D (blk_lt h.bD) hD).trans h.bD, (ho.block R (blk_lt h.bR) hR).trans h.bR⟩

theorem Quad.below (h : Quad base D R p0 q0 p1 q1 w sa sb ta tb G) (hb : Below w.heap.size w w') : Quad base D R p0 q0 p1 q1 w' sa sb ta tb G := h.out (E := fun _ => False) (Out.of_below hb) (fun _ _ _ _ h => h) (fun h => h) (fun h => h)

theorem SQ.step0 (h : Quad base D R p0 q0 p1 q1 w sa sb ta tb G) (hbn : ∀ i, i < 4 → ¬ G i b) (hbw : w.heap[b]? = wl.heap[b]?) (hb : b < w.heap.size) (hB : Below base wl w) (hbase : base ≤ w.heap.size) (k : PStep p0 (G 0) w w' s') : SQ base D R p0 q0 p1 q1 b wl w' s' sb ta tb := by
  obtain ⟨F', k1, k2, k3⟩ := k
  have hD := blk_lt h.bD
  have hR := blk_lt h.bR
  have nn : ∀ g, g < w.heap.size → ¬ G 0 g → ¬ F' g := fun g hg hn hF => by
    rcases k3 g hF with h1 | h1
    · exact hn h1
    · omega
  refine ⟨setG G 0 F', ⟨by simpa [setG] using k1, by simpa [setG] using h.b0.out k2 (h.dis 1 0 (by omega) (by omega) (by omega)), by simpa [setG] using h.a1.out k2 (h.dis 2 0 (by omega) (by omega) (by omega)), by simpa [setG] using h.b1.out k2 (h.dis 3 0 (by omega) (by omega) (by omega)), grow_dis h.dis h.lt k3 (by omega), fun i hi g hg => ?_, fun i hi => ?_, (k2.block D hD (h.na 0 (by omega)).1).trans h.bD, (k2.block R hR (h.na 0 (by omega)).2).trans h.bR⟩, fun i hi => ?_, (k2.block b hb (hbn 0 (by omega))).trans hbw, hB.trans (k2.below (h.ge 0 (by omega)) hbase)⟩
  · unfold setG at hg
    split at hg
    · rcases k3 g hg with h1 | h1
      · exact h.ge 0 (by omega) g h1
      · omega
    · exact h.ge i hi g hg
  · unfold setG
    split
    · exact ⟨nn D hD (h.na 0 (by omega)).1, nn R hR (h.na 0 (by omega)).2⟩
    · exact h.na i hi
  · unfold setG
    split
    · exact nn b hb (hbn 0 (by omega))
    · exact hbn i hi

theorem SQ.step1 (h : Quad base D R p0 q0 p1 q1 w sa sb ta tb G) (hbn : ∀ i, i < 4 → ¬ G i b) (hbw : w.heap[b]? = wl.heap[b]?) (hb : b < w.heap.size) (hB : Below base wl w) (hbase : base ≤ w.heap.size) (k : DStep q0 (G 1) w w' s') : SQ base D R p0 q0 p1 q1 b wl w' sa s' ta tb := by
  obtain ⟨F', k1, k2, k3⟩ := k
  have hD := blk_lt h.bD
  have hR := blk_lt h.bR
  have nn : ∀ g, g < w.heap.size → ¬ G 1 g → ¬ F' g := fun g hg hn hF => by
    rcases k3 g hF with h1 | h1
    · exact hn h1
    · omega
  refine ⟨setG G 1 F', ⟨by simpa [setG] using h.a0.out k2 (h.dis 0 1 (by omega) (by omega) (by omega)), by simpa [setG] using k1, by simpa [setG] using h.a1.out k2 (h.dis 2 1 (by omega) (by omega) (by omega)), by simpa [setG] using h.b1.out k2 (h.dis 3 1 (by omega) (by omega) (by omega)), grow_dis h.dis h.lt k3 (by omega), fun i hi g hg => ?_, fun i hi => ?_, (k2.block D hD (h.na 1 (by omega)).1).trans h.bD, (k2.block R hR (h.na 1 (by omega)).2).trans h.bR⟩, fun i hi => ?_, (k2.block b hb (hbn 1 (by omega))).trans hbw, hB.trans (k2.below (h.ge 1 (by omega)) hbase)⟩
  · unfold setG at hg
    split at hg
    · rcases k3 g hg with h1 | h1
      · exact h.ge 1 (by omega) g h1
      · omega
    · exact h.ge i hi g hg
  · unfold setG
    split
    · exact ⟨nn D hD (h.na 1 (by omega)).1, nn R hR (h.na 1 (by omega)).2⟩
    · exact h.na i hi
  · unfold setG
    split
    · exact nn b hb (hbn 1 (by omega))
    · exact hbn i hi

theorem SQ.step2 (h : Quad base D R p0 q0 p1 q1 w sa sb ta tb G) (hbn : ∀ i, i < 4 → ¬ G i b) (hbw : w.heap[b]? = wl.heap[b]?) (hb : b < w.heap.size) (hB : Below base wl w) (hbase : base ≤ w.heap.size) (k : PStep p1 (G 2) w w' s') : SQ base D R p0 q0 p1 q1 b wl w' sa sb s' tb := by
  obtain ⟨F', k1, k2, k3⟩ := k
  have hD := blk_lt h.bD
  have hR := blk_lt h.bR
  have nn : ∀ g, g < w.heap.size → ¬ G 2 g → ¬ F' g := fun g hg hn hF => by
    rcases k3 g hF with h1 | h1
    · exact hn h1
    · omega
  refine ⟨setG G 2 F', ⟨by simpa [setG] using h.a0.out k2 (h.dis 0 2 (by omega) (by omega) (by omega)), by simpa [setG] using h.b0.out k2 (h.dis 1 2 (by omega) (by omega) (by omega)), by simpa [setG] using k1, by simpa [setG] using h.b1.out k2 (h.dis 3 2 (by omega) (by omega) (by omega)), grow_dis h.dis h.lt k3 (by omega), fun i hi g hg => ?_, fun i hi => ?_, (k2.block D hD (h.na 2 (by omega)).1).trans h.bD, (k2.block R hR (h.na 2 (by omega)).2).trans h.bR⟩, fun i hi => ?_, (k2.block b hb (hbn 2 (by omega))).trans hbw, hB.trans (k2.below (h.ge 2 (by omega)) hbase)⟩
  · unfold setG at hg
    split at hg
    · rcases k3 g hg with h1 | h1
      · exact h.ge 2 (by omega) g h1
      · omega
    · exact h.ge i hi g hg
  · unfold setG
    split
    · exact ⟨nn D hD (h.na 2 (by omega)).1, nn R hR (h.na 2 (by omega)).2⟩
    · exact h.na i hi
  · unfold setG
    split
    · exact nn b hb (hbn 2 (by omega))
    · exact hbn i hi

theorem SQ.step3 (h : Quad base D R p0 q0 p1 q1 w sa sb ta tb G) (hbn : ∀ i, i < 4 → ¬ G i b) (hbw : w.heap[b]? = wl.heap[b]?) (hb : b < w.heap.size) (hB : Below base wl w) (hbase : base ≤ w.heap.size) (k : DStep q1 (G 3) w w' s') : SQ base D R p0 q0 p1 q1 b wl w' sa sb ta s' := by
  obtain ⟨F', k1, k2, k3⟩ := k
  have hD := blk_lt h.bD
  have hR := blk_lt h.bR
  have nn : ∀ g, g < w.heap.size → ¬ G 3 g → ¬ F' g := fun g hg hn hF => by
    rcases k3 g hF with h1 | h1
    · exact hn h1
    · omega
  refine ⟨setG G 3 F', ⟨by simpa [setG] using h.a0.out k2 (h.dis 0 3 (by omega) (by omega) (by omega)), by simpa [setG] using h.b0.out k2 (h.dis 1 3 (by omega) (by omega) (by omega)), by simpa [setG] using h.a1.out k2 (h.dis 2 3 (by omega) (by omega) (by omega)), by simpa [setG] using k1, grow_dis h.dis h.lt k3 (by omega), fun i hi g hg => ?_, fun i hi => ?_, (k2.block D hD (h.na 3 (by omega)).1).trans h.bD, (k2.block R hR (h.na 3 (by omega)).2).trans h.bR⟩, fun i hi => ?_, (k2.block b hb (hbn 3 (by omega))).trans hbw, hB.trans (k2.below (h.ge 3 (by omega)) hbase)⟩
  · unfold setG at hg
    split at hg
    · rcases k3 g hg with h1 | h1
      · exact h.ge 3 (by omega) g h1
      · omega
    · exact h.ge i hi g hg
  · unfold setG
    split
    · exact ⟨nn D hD (h.na 3 (by omega)).1, nn R hR (h.na 3 (by omega)).2⟩
    · exact h.na i hi
  · unfold setG
    split
    · exact nn b hb (hbn 3 (by omega))
    · exact hbn i hi
end

end Go.Proofs.Yteklbnonikccaaa
