/- Texts of one layer, one behind the other. -/
import Derived.Test.YtajlhdmnincehaaGreatDoorH20
/- The program's restart (layer 21): Add. -/
namespace Go.Proofs.YtajlhdmnincehaaGreatDoor
open Go.RowKit
set_option linter.unusedVariables false

/-- What stays, whatever is done to some blocks, lies in none of them. -/
theorem iso_ne {F : Nat → Prop} {w : World} {v : Value} {l : List Bm.Ov} (h : ∀ W, Out F w W → IsO W v l) (hl : 0 < l.length) : ∀ b, v.ownBlock = some b → b < w.heap.size ∧ ¬ F b := by
  intro b hb
  obtain ⟨b1, off, cap, rfl, _, _, hlt, hc⟩ := (h w (Out.refl _ _)).full hl
  obtain rfl : b1 = b := by simpa [Value.ownBlock] using hb
  refine ⟨hlt, fun hF => ?_⟩
  have h0 := (hc 0 l[0] (by rw [List.getElem?_eq_getElem hl])).1
  have o : Out F w (w.setCell ⟨b1, off + 0 * 3, none⟩ (.int .i64 0)) := Out.of_grown (grown_setCell w ⟨b1, off + 0 * 3, none⟩ (.int .i64 0)) fun i hi => by
    have : b1 = i := by simpa using hi
    rw [← this]
    exact hF
  obtain ⟨b2, o2, c2, e, _, _, _, hc2⟩ := (h _ o).full hl
  cases e
  have h1 := (hc2 0 l[0] (by rw [List.getElem?_eq_getElem hl])).1
  unfold World.cell? at h0
  simp only at h0
  split at h0
  · rename_i cs t fr hg
    have hs := set_cells hg (off + 0 * 3) (.int .i64 0)
    have hi : off + 0 * 3 < cs.size := by
      rcases Nat.lt_or_ge (off + 0 * 3) cs.size with k | k
      · exact k
      · rw [Array.getElem?_eq_none k] at h0; cases h0
    have hi' : off < cs.size := by omega
    have := blk_cell hs (off + 0 * 3) (u := .int .i64 0) (by simp [hi'])
    rw [this] at h1
    cases h1
  · cases h0

theorem Tryz.errF (a b : Int) (w : World) : (Instr.field 136 (.agg #[.int .i64 a, .int .i64 b]) 0).run Tryz.prog w = .ok (.int .i64 a) w := by kernel_rfl

set_option maxRecDepth 20000 in
set_option maxHeartbeats 2000000 in
theorem add1_any (g2 g3 p q pw : Nat) (FW : Nat → Prop) (w : World) (off : Bool) (x : Pm.Pg) (en : Int) (vr vs : Value) (sw : Wl.Ws) (bo : Option Addr) (n1 k1 : Nat) (rs : List Cw) (hg2 : w.heap[g2]? = some (.cells #[.pointer (some ⟨p, 0, none⟩)] 33 (0, 0))) (hg3 : w.heap[g3]? = some (.cells #[.slice bo n1 k1] 25 (0, 0))) (hb : w.heap[p]? = some (.cells (stC q off x (.pointer (some ⟨pw, 0, none⟩)) en vr vs) 107 (0, 0))) (hw : WW pw q FW w sw) (hc : IsC w (.slice bo n1 k1) rs) (hf : FitC rs) (hl : rs.length ≤ 100) :
    Calls Tryz.prog 94 #[.pointer (some ⟨g2, 0, none⟩), .pointer (some ⟨g3, 0, none⟩)] w fun E w' => E = .returned (.int .i64 (Cm.fol (Cm.lastE 0 sw.l) en 0 (cvs rs)).1) ∧ Below w.heap.size w w' := by
  have hfd := Tryz.errF
  obtain ⟨ss, hss⟩ : ∃ S : World → Prop, S = fun W => W.cell? ⟨g2, 0, none⟩ = some (.pointer (some ⟨p, 0, none⟩)) ∧ W.cell? ⟨g3, 0, none⟩ = some (.slice bo n1 k1) ∧ W.cell? ⟨p, 8, none⟩ = some (.pointer (some ⟨pw, 0, none⟩)) ∧ W.cell? ⟨p, 9, none⟩ = some (.int .i64 en) := ⟨_, rfl⟩
  have HS : Hid (∀ W, Below w.heap.size w W → ss W) := hide fun W k => by
    subst hss
    exact ⟨blk_cell ((k.block _ (blk_lt hg2)).trans hg2) 0 rfl, blk_cell ((k.block _ (blk_lt hg3)).trans hg3) 0 rfl, blk_cell ((k.block _ (blk_lt hb)).trans hb) 8 rfl, blk_cell ((k.block _ (blk_lt hb)).trans hb) 9 rfl⟩
  have HE : Hid (∀ W, Below w.heap.size w W → Calls Tryz.prog 96 #[.pointer (some ⟨pw, 0, none⟩)] W fun E w' => E = .returned (.int .i64 (Cm.lastE 0 sw.l)) ∧ Below w.heap.size w w' ∧ ss w') := hide fun W k => by
    refine (wepoch_any pw q FW W sw (hw.below k)).mono ?_
    rintro E w' ⟨rfl, m, rfl⟩
    have k' := below_drewN k m
    exact ⟨rfl, k', HS.out _ k'⟩
  generalize Cm.lastE 0 sw.l = ep at *
  have HF : Hid (∀ W, Below w.heap.size w W → Calls Tryz.prog 95 #[.int .i64 ep, .int .i64 en, .slice bo n1 k1] W fun E w' => E = .returned (flv (Cm.fol ep en 0 (cvs rs))) ∧ Below w.heap.size w w' ∧ ss w') := hide fun W k => by
    refine (cfol_any ep en _ rs W (hc.below k) hf (by omega)).mono ?_
    rintro E w' ⟨rfl, b⟩
    have k' := k.trans (b.mono k.size)
    exact ⟨rfl, k', HS.out _ k'⟩
  obtain ⟨f1, f2, hfo⟩ : ∃ a b, Cm.fol ep en 0 (cvs rs) = (a, b) := ⟨_, _, rfl⟩
  rw [hfo] at HF ⊢
  unfold flv at HF
  simp only at HF ⊢
  have s0 := HS.out w (Below.refl _ _)
  subst hss
  obtain ⟨a1, a2, a3, a4⟩ := s0
  clear hg2 hg3 hb hw hc hf hl hfo HS
  go_enter Tryz.func94, Tryz.ntmps94
  go_wp2_with fail
  go_region_held3 (fun W => W.cell? ⟨g2, 0, none⟩ = some (.pointer (some ⟨p, 0, none⟩)) ∧ W.cell? ⟨g3, 0, none⟩ = some (.slice bo n1 k1) ∧ W.cell? ⟨p, 8, none⟩ = some (.pointer (some ⟨pw, 0, none⟩)) ∧ W.cell? ⟨p, 9, none⟩ = some (.int .i64 en)) (first | exact ⟨a1, a2, a3, a4⟩ | exact sF | exact sE | go_keep)
    (first
    | (go_at_call 96; refine (HE.out _ ((Below.refl _ _).drew)).mono ?_; rintro E w2 ⟨rfl, bE, sE⟩)
    | (go_at_call 95; refine (HF.out _ bE).mono ?_; rintro E w3 ⟨rfl, bF, sF⟩; have BF := hide bF; clear bF))
  all_goals
    go_wp2
    go_ret
    exact ⟨rfl, BF.out⟩

theorem add2_any (g2 g3 p : Nat) (w : World) (r : Int) (h2 : w.cell? ⟨g2, 0, none⟩ = some (.pointer (some ⟨p, 0, none⟩))) (hs : Calls Tryz.prog 98 #[.pointer (some ⟨p, 0, none⟩), .func (.func 99) #[] #[.pointer (some ⟨g3, 0, none⟩)]] w fun E w' => E = .returned (.int .i64 r) ∧ Below w.heap.size w w') :
    Calls Tryz.prog 97 #[.pointer (some ⟨g2, 0, none⟩), .pointer (some ⟨g3, 0, none⟩)] w fun E w' => E = .returned (.int .i64 r) ∧ Below w.heap.size w w' := by
  have hmf : ∀ (fn : Fn) (first cap : Array Value) (w : World), (Instr.makeFunc fn first cap).run Tryz.prog w = .ok (.func fn first cap) w := fun _ _ _ _ => rfl
  have PC := hide hs
  clear hs
  go_enter Tryz.func97, Tryz.ntmps97
  go_wp2_with fail
  refine PC.out.mono ?_
  rintro E w' ⟨rfl, b⟩
  have B := hide b
  clear b PC
  go_wp2
  go_ret
  exact ⟨rfl, B.out⟩

set_option maxHeartbeats 2000000 in
theorem add3_any (g2 g3 p : Nat) (w : World) (bo : Option Addr) (n1 k1 : Nat) (r : Int) (X : World → Prop) (h2 : w.cell? ⟨g2, 0, none⟩ = some (.pointer (some ⟨p, 0, none⟩))) (h3 : w.cell? ⟨g3, 0, none⟩ = some (.slice bo n1 k1)) (hs : Calls Tryz.prog 102 #[.pointer (some ⟨p, 8, none⟩), .slice bo n1 k1] w.drew fun E w' => E = .returned (.int .i64 r) ∧ X w') :
    Calls Tryz.prog 101 #[.pointer (some ⟨g2, 0, none⟩), .pointer (some ⟨g3, 0, none⟩)] w fun E w' => E = .returned (.int .i64 r) ∧ X w' := by
  have PC := hide hs
  clear hs
  go_enter Tryz.func101, Tryz.ntmps101
  go_wp2_with fail
  go_region_with (go_at_call 102; refine PC.out.mono ?_; rintro E w' ⟨rfl, k⟩; have K := hide k; clear k)
  all_goals
    clear PC
    go_wp2
    go_ret
    exact ⟨rfl, K.out⟩

set_option maxHeartbeats 2000000 in
theorem add4_any (g2 g3 p : Nat) (w : World) (bo : Option Addr) (n1 k1 : Nat) (r : Int) (X : World → Prop) (h2 : w.cell? ⟨g2, 0, none⟩ = some (.pointer (some ⟨p, 0, none⟩))) (h3 : w.cell? ⟨g3, 0, none⟩ = some (.slice bo n1 k1)) (hs : Calls Tryz.prog 104 #[.pointer (some ⟨p, 11, none⟩), .slice bo n1 k1] w.drew fun E w' => E = .returned (.int .i64 r) ∧ X w') :
    Calls Tryz.prog 103 #[.pointer (some ⟨g2, 0, none⟩), .pointer (some ⟨g3, 0, none⟩)] w fun E w' => E = .returned (.int .i64 r) ∧ X w' := by
  have PC := hide hs
  clear hs
  go_enter Tryz.func103, Tryz.ntmps103
  go_wp2_with fail
  go_region_with (go_at_call 104; refine PC.out.mono ?_; rintro E w' ⟨rfl, k⟩; have K := hide k; clear k)
  all_goals
    clear PC
    go_wp2
    go_ret
    exact ⟨rfl, K.out⟩

end Go.Proofs.YtajlhdmnincehaaGreatDoor
