/- LinkScript: what it keeps, what it gathers. -/
import Derived.Test.YtadfbmglbaebiaaLgo
import Derived.Test.YtadfbmglbaebiaaApart
namespace Go.Proofs.Ytadfbmglbaebiaa
open Go.RowKit Go.Shelf
set_option linter.unusedVariables false

/-- Blocks of Pr alone were written. -/
theorem PM.wr {base p q : Nat} {Pr : Nat → Prop} {w0 w w' : World} {sa sb : Lm.Ls} (h : PM base p q Pr w0 w sa sb) (ho : Out Pr w w') (hp : ∀ g, Pr g → base ≤ g) : PM base p q Pr w0 w' sa sb := by
  obtain ⟨G, H, h⟩ := h
  exact ⟨G, H, h.a.out ho fun g hg hP => h.pa g hP hg, h.b.out ho fun g hg hP => h.pb g hP hg, h.dis, h.ga, h.gb, h.pa, h.pb, fun g hg => Nat.lt_of_lt_of_le (h.lt g hg) ho.size, h.bel.trans (ho.below hp h.size), h.hb⟩

theorem PM.start {w1 w2 w3 : World} (K1 : Lk false w1.heap.size (fun g => g = w1.heap.size) w2 Lm.new) (b2 : Below w1.heap.size w1 w2) (K2 : Lk true w2.heap.size (fun g => g = w2.heap.size) w3 Lm.new) (b3 : Below w2.heap.size w2 w3) : PM w1.heap.size w1.heap.size w2.heap.size (fun _ => False) w1 w3 Lm.new Lm.new := by
  have z1 := K1.lt _ rfl
  refine ⟨_, _, K1.below b3, K2, fun g h1 h2 => by omega, fun g hg => by omega, fun g hg => by omega, fun g hg => hg.elim, fun g hg => hg.elim, fun g hg => hg.elim, b2.trans (b3.mono b2.size), rfl⟩

/-- Between two calls. -/
def PI (base q k : Nat) (w0 wr : World) : Prop := ∃ st, PM base base q (fun _ => False) w0 wr st st ∧ Lm.Ok st ∧ st.last ≤ k

def vc (u : Value) : List Value := [u]
theorem vc_len (u : Value) : (vc u).length = 1 := rfl

theorem vc_one (l : List Value) (h : ∀ u ∈ l, ∃ a n c, u = .slice a n c) : ∀ u ∈ gcells vc l, u.oneCell' = true := by
  induction l with
  | nil => simp [gcells]
  | cons x l ih =>
    intro u hu
    rw [gcells, List.mem_append] at hu
    rcases hu with hu | hu
    · obtain ⟨a, n, c, hv⟩ := h x (by simp)
      simp [vc] at hu
      rw [hu, hv]
      rfl
    · exact ih (fun y hy => h y (by simp [hy])) u hu

/-- The letters' bytes, gathered. -/
theorem lists_of {base : Nat} {w : World} {v : Value} {ns : List Lw} {bv : Value} {w0 : World} (c : LCopy base w v ns) (hb : ∀ r ∈ ns, r.bs.length ≤ 40) {s8 : Nat} (hs : w.heap.size ≤ s8) (row : OwnG vc 1 29 s8 w0 bv (ns.map Lw.v)) (hw : Below w.heap.size w w0) (h0 : 0 < ns.length) :
    ∃ bl cl, bv = .slice (some ⟨bl, 0, none⟩) ns.length cl ∧ ns.length ≤ cl ∧ Lists ns.length bl base w0 (fun i => (ns.map Lw.v).getD i (.slice none 0 0)) (fun i => (ns.map Lw.bs).getD i []) := by
  have hl : (ns.map Lw.v).length = ns.length := List.length_map ..
  obtain ⟨g, cap, hv, hc, _, hg⟩ := row.form (by omega)
  rw [hl] at hv hc
  have at' : ∀ i, i < ns.length → ∃ r, ns[i]? = some r ∧ (ns.map Lw.v).getD i (.slice none 0 0) = r.v ∧ (ns.map Lw.bs).getD i [] = r.bs ∧ r ∈ ns := fun i hi => by
    have h1 : ns[i]? = some ns[i] := List.getElem?_eq_getElem hi
    exact ⟨ns[i], h1, by simp [List.getD, h1], by simp [List.getD, h1], List.getElem_mem hi⟩
  refine ⟨g, cap, hv, hc, fun i hi => ?_, fun i hi => ?_, fun i j hi hj hne => ?_, fun i hi e => ?_, fun i hi => ?_⟩
  · obtain ⟨r, h1, h2, _⟩ := at' i hi
    have h3 : (ns.map Lw.v)[i]? = some r.v := by rw [List.getElem?_map, h1]; rfl
    rw [hv] at row
    have := row.at vc_len h3 (j := 0) rfl
    rw [h2]
    simpa using this
  · obtain ⟨r, h1, h2, h3, h4⟩ := at' i hi
    rw [h2, h3]
    exact (c.2.1 r h4).below hw
  · obtain ⟨r, h1, h2, _, _⟩ := at' i hi
    obtain ⟨r', h1', h2', _, _⟩ := at' j hj
    rw [h2, h2']
    have hpw := List.pairwise_iff_getElem.1 c.2.2
    obtain ⟨a1, a2⟩ := List.getElem?_eq_some_iff.1 h1
    obtain ⟨c1, c2⟩ := List.getElem?_eq_some_iff.1 h1'
    cases hu : r.v.ownBlock with
    | none => exact .inl rfl
    | some b =>
      refine .inr fun e => ?_
      rcases Nat.lt_or_gt_of_ne hne with h | h
      · have := hpw i j a1 c1 h b (by rw [a2]; exact hu)
        rw [c2] at this
        exact this e.symm
      · have := hpw j i c1 a1 h b (by rw [c2]; exact e.symm)
        rw [a2] at this
        exact this hu
  · obtain ⟨r, h1, h2, _, h4⟩ := at' i hi
    rw [h2] at e
    have := ((c.2.1 r h4).block g e).2
    omega
  · obtain ⟨r, h1, _, h3, h4⟩ := at' i hi
    rw [h3]
    have := hb r h4
    omega

set_option maxHeartbeats 2000000 in
theorem apart_none (w : World) : Calls Try.prog 24 #[.slice none 0 0] w fun E w' => E = .returned (.bool true) ∧ Below w.heap.size w w' := by
  obtain ⟨i0, hi, hz0, hz1, hz2⟩ := info_parts Try.info29
  go_enter Try.func24, Try.ntmps24
  go_wp2_with (at_make; refine wpList_make_full _ rfl _ _ 49 rfl w.heap.size 29 i0 (.slice none 0 0) 1 Try.underlying49 hi hz0 hz1 _ _ _ _ 0 rfl rfl (by omega) (by omega) ?b2 ?b3 (Nat.le_refl _) ?_)
  case b2 => rw [hz2]; omega
  case b3 => unfold maxLen; omega
  intro w0 hown0 hgrow0
  have bel0 : Below w.heap.size w w0 := (Below.refl _ _).grown hgrow0 (Nat.le_refl _) (by simp)
  clear hown0 hgrow0
  go_wp2
  refine wp_loop_rounds 1 ?_
  rw [rounds_succ]
  go_wp2
  refine wp_loop_rounds 1 ?_
  rw [rounds_succ]
  go_wp2
  refine wp_loop_rounds 1 ?_
  rw [rounds_succ]
  go_wp2
  go_ret
  exact ⟨rfl, bel0⟩

end Go.Proofs.Ytadfbmglbaebiaa
