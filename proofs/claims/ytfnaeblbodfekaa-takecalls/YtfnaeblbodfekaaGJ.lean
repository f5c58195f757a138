/- Texts of one layer, one behind the other. -/
import Derived.Test.YtfnaeblbodfekaaG1
import Derived.Test.YtfnaeblbodfekaaG6
import Derived.Test.YtfnaeblbodfekaaGG
import Derived.Test.YtfnaeblbodfekaaGB
import Derived.Deep.CutRange
import Derived.BigQuiet
import Derived.Test.YtfnaeblbodfekaaG9
import Derived.Test.YtfnaeblbodfekaaG4
import Derived.Test.YtfnaeblbodfekaaG7
import Derived.Test.YtfnaeblbodfekaaGF
import Derived.Deep.RegionLaw
/- The document's Log and Ack (layer 17). -/
namespace Go.Proofs.Ytfnaeblbodfekaa
open Go.RowKit
set_option linter.unusedVariables false

theorem cvs_at1 {rs : List Cw} {k : Nat} {c : Cw} (h : rs[k]? = some c) : (cvs rs)[k]? = some c.c := by
  unfold cvs
  rw [List.getElem?_map, h]
  rfl

theorem cvs_n (rs : List Cw) : (cvs rs).length = rs.length := by unfold cvs; rw [List.length_map]

/-- The epoch of a log's last commit. -/
theorem last_row {rs : List Cw} {k : Nat} {c : Cw} (h : rs[k]? = some c) (hk : k + 1 = rs.length) : Cm.lastE 0 (cvs rs) = c.e := by
  have := Shp.prv_is (cvs_at1 h)
  rw [List.take_of_length_le (by rw [cvs_n]; omega)] at this
  exact this

/-- The zero message's cells. -/
theorem put_no {V : World} {R : Nat} (hR : V.heap[R]? = some (.cells #[.int .i64 0, .int .i64 0, .int .u8 0, .int .i64 0, .slice none 0 0, .int .i64 0, .int .i64 0, .slice none 0 0] 30 (0, 0))) (a b c d e f h i : Value) :
    ∃ V', (((((((V.setCell ⟨R, 0, none⟩ a).setCell ⟨R, 1, none⟩ b).setCell ⟨R, 2, none⟩ c).setCell ⟨R, 3, none⟩ d).setCell ⟨R, 4, none⟩ e).setCell ⟨R, 5, none⟩ f).setCell ⟨R, 6, none⟩ h).setCell ⟨R, 7, none⟩ i = V' ∧ V.grownBy V' (some R) ∧
      Ei V R (.int .i64 0) (.int .i64 0) (.int .u8 0) (.int .i64 0) (.slice none 0 0) (.int .i64 0) (.int .i64 0) (.slice none 0 0) ∧ (∀ j, V.frozen? ⟨R, j, none⟩ = false) ∧ Ei V' R a b c d e f h i := by
  obtain ⟨V', h1, _, h3, h4, h5, h6⟩ := put8 hR a b c d e f h i
  exact ⟨V', h1, h3, h4, h5, h6⟩

theorem own_ack (base : Nat) (w : World) (e n : Int) : OwnM base w ⟨3, e, 0, n, .slice none 0 0, [], 0, 0, .slice none 0 0, []⟩ := ⟨OwnG.nil _ _ _ _ _, OwnR.nil _ _ _, fun c hc => by simp at hc, fun c hc => by simp at hc, fun i j c d _ hc => by simp at hc⟩
theorem fit_ack {e n : Int} (he : In64 e) (hn : In64 n) : FitM ⟨3, e, 0, n, .slice none 0 0, [], 0, 0, .slice none 0 0, []⟩ := ⟨by simp [In64], he, by simp, by simp, hn, by simp [In64], by simp [In64], by simp, fun c hc => by simp at hc, by simp⟩
theorem own_hel {base : Nat} {w : World} {vs : Value} {ss : List Sm.S} (h : OwnS base w vs ss) (e r n : Int) : OwnM base w ⟨1, e, r, n, vs, ss, 0, 0, .slice none 0 0, []⟩ := ⟨h, OwnR.nil _ _ _, fun c hc => by simp at hc, fun c hc => by simp at hc, fun i j c d _ hc => by simp at hc⟩
theorem fit_hel {e r n : Int} {vs : Value} {ss : List Sm.S} (he : In64 e) (h0 : 0 ≤ r) (h1 : r < 256) (hn : In64 n) (hl : ss.length ≤ 140737488355328) : FitM ⟨1, e, r, n, vs, ss, 0, 0, .slice none 0 0, []⟩ := ⟨by simp [In64], he, h0, h1, hn, by simp [In64], by simp [In64], hl, fun c hc => by simp at hc, by simp⟩

end Go.Proofs.Ytfnaeblbodfekaa

/- The document's fits (layer 18). -/
namespace Go.Proofs.Ytfnaeblbodfekaa
open Go.RowKit
set_option linter.unusedVariables false

/-- A message's commits in memory, one by one. -/
theorem ship_at {m : Mw} (ho : Mm.Ok m.m) (hk : m.k = 2) : 1 ≤ m.f ∧ m.f ≤ 1048576 ∧ m.cs.length ≤ 4 ∧ ∀ (i : Nat) (c : Cw), m.cs[i]? = some c → c.n = m.f + i := by
  rcases ho.2.2 with ⟨k, g⟩ | ⟨k, g⟩ | ⟨k, g⟩
  · rw [show m.m.k = m.k from rfl, hk] at k; simp at k
  · obtain ⟨h1, h2, _, _, _, h6, _, h8, _⟩ := g
    refine ⟨h1, h2, by rw [← cvs_n]; exact h6, fun i c hc => ?_⟩
    have := (Cm.good_at _ _ _ i c.c h8 (cvs_at1 hc)).2.1
    have e1 : m.m.f = m.f := rfl
    have e2 : c.c.n = c.n := rfl
    rw [e1, e2] at this
    omega
  · rw [show m.m.k = m.k from rfl, hk] at k; simp at k

set_option maxRecDepth 20000 in
set_option maxHeartbeats 8000000 in
theorem fitsR_any (v : Value) (rs : List Cw) (m : Mw) (w : World) (h : IsC w v rs) (hl : rs.length ≤ 1000000) (hi : IsM w m) (ho : Mm.Ok m.m) (hk : m.k = 2) (hf : m.f ≤ (rs.length : Int) + 1) :
    Calls Try.prog 34 #[v, mv m] w fun E w' => E = .returned (.bool (Tak.fits (cvs rs) m.m)) ∧ Below w.heap.size w w' := by
  obtain ⟨hf1, hf2, hc4, hnum⟩ := ship_at ho hk
  obtain ⟨ao, cap, hvl, _, _⟩ := h.1.shape
  obtain ⟨sa, so, hvs, _, _⟩ := hi.s.shape
  obtain ⟨ca, co, hvc, _, _⟩ := hi.c.1.shape
  obtain ⟨w1, hw1, sz1, bel1, hA⟩ := newm' w m hvs hvc
  rw [mv_eq hvs hvc]
  have HE : Hid (∀ W, Below w1.heap.size w1 W → Ei W w.heap.size (.int .i64 m.k) (.int .i64 m.e) (.int .u8 m.r) (.int .i64 m.n) (.slice sa m.ss.length so) (.int .i64 m.f) (.int .i64 m.p) (.slice ca m.cs.length co)) := hide fun W hb => (hA.below hb).ei' hvs hvc
  obtain ⟨F, hF⟩ : ∃ F : Nat, m.f = (F : Int) := ⟨m.f.toNat, by omega⟩
  have LOG : Hid (∀ (n : Nat) (W : World), n < rs.length → Below w1.heap.size w1 W → ∃ b off c, v = .slice (some ⟨b, off, none⟩) rs.length cap ∧ rs[n]? = some c ∧ W.cell? ⟨b, off + n * 3, none⟩ = some (.int .i64 c.e) ∧ Tak.atE (cvs rs) ((n : Int) + 1) = c.e) := hide fun n W hn hW => by
    obtain ⟨b, off, cap', hv, _, _, hb, hcell⟩ := h.1.full (by omega)
    rw [hvl] at hv
    simp only [Value.slice.injEq, true_and] at hv
    obtain ⟨rfl, rfl⟩ := hv
    obtain ⟨c, hc⟩ : ∃ c, rs[n]? = some c := ⟨rs[n], List.getElem?_eq_getElem hn⟩
    exact ⟨b, off, c, hvl, hc, ((bel1.trans (hW.mono (by omega))).cell (p := ⟨b, off + n * 3, none⟩) hb).trans (hcell n c hc).1, Tak.atE_is (cvs_at1 hc)⟩
  have COM : Hid (∀ (i : Nat) (W : World), i < m.cs.length → Below w1.heap.size w1 W → ∃ b off c, (.slice ca m.cs.length co : Value) = .slice (some ⟨b, off, none⟩) m.cs.length co ∧ m.cs[i]? = some c ∧ W.cell? ⟨b, off + i * 3, none⟩ = some (.int .i64 c.e) ∧ W.cell? ⟨b, off + i * 3 + 1, none⟩ = some (.int .i64 ((F + i : Nat) : Int)) ∧ c.n = ((F + i : Nat) : Int)) := hide fun i W hn hW => by
    obtain ⟨b, off, cap', hv, _, _, hb, hcell⟩ := hi.c.1.full (by omega)
    rw [hvc] at hv
    simp only [Value.slice.injEq, true_and] at hv
    obtain ⟨rfl, rfl⟩ := hv
    obtain ⟨c, hc⟩ : ∃ c, m.cs[i]? = some c := ⟨m.cs[i], List.getElem?_eq_getElem hn⟩
    obtain ⟨d0, d1, _⟩ := hcell i c hc
    have hcn := hnum i c hc
    have hcn' : c.n = ((F + i : Nat) : Int) := by rw [hcn, hF]; omega
    rw [hcn'] at d1
    exact ⟨b, off, c, rfl, hc, ((bel1.trans (hW.mono (by omega))).cell (p := ⟨b, off + i * 3, none⟩) hb).trans d0, ((bel1.trans (hW.mono (by omega))).cell (p := ⟨b, off + i * 3 + 1, none⟩) hb).trans d1, hcn'⟩
  have B1 := hide bel1
  obtain ⟨pv, hpv⟩ : ∃ pv, Tak.atE (cvs rs) (m.f - 1) = pv := ⟨_, rfl⟩
  have HPV := hide hpv
  obtain ⟨z, hz⟩ : ∃ z, Tak.fits (cvs rs) m.m = z := ⟨_, rfl⟩
  have HZP : Hid (pv ≠ m.p → z = false) := hide fun hne => by rw [← hz]; exact Tak.fits_prev (by rw [show m.m.f = m.f from rfl, hpv]; exact hne)
  have HZC : Hid (∀ (i : Nat) (c : Cw), m.cs[i]? = some c → c.n ≤ rs.length → Tak.atE (cvs rs) c.n ≠ c.e → z = false) := hide fun i c hc h1 h2 => by
    rw [← hz]
    refine Tak.fits_no (c := c.c) (List.mem_of_getElem? (cvs_at1 hc)) ?_
    unfold Tak.okc
    rw [cvs_n, decide_eq_false (by show ¬ (rs.length : Int) < c.n; omega), decide_eq_false (p := Tak.atE (cvs rs) c.c.n = c.c.e) h2]
    rfl
  have HZY : Hid (pv = m.p → (∀ (i : Nat) (c : Cw), m.cs[i]? = some c → (rs.length : Int) < c.n ∨ Tak.atE (cvs rs) c.n = c.e) → z = true) := hide fun h1 h2 => by
    rw [← hz]
    refine Tak.fits_yes (by rw [show m.m.f = m.f from rfl, hpv]; exact h1) fun c hc => ?_
    obtain ⟨d, hd, rfl⟩ := List.mem_map.1 hc
    obtain ⟨i, hi⟩ := List.getElem?_of_mem hd
    unfold Tak.okc
    rw [cvs_n]
    rcases h2 i d hi with h | h
    · rw [decide_eq_true (by exact h)]; rfl
    · rw [decide_eq_true (p := Tak.atE (cvs rs) d.c.n = d.c.e) h, Bool.or_true]
  rw [hz]
  rw [hF] at HE hpv hw1 ⊢
  have hF1 : 1 ≤ F := by omega
  have hF2 : F ≤ rs.length + 1 := by omega
  have PRV : Hid (1 < F → ∃ b off, v = .slice (some ⟨b, off, none⟩) rs.length cap ∧ ∀ W, Below w1.heap.size w1 W → W.cell? ⟨b, off + (F - 2) * 3, none⟩ = some (.int .i64 pv)) := hide fun hF' => by
    obtain ⟨b, off, c, hv, hc, _, hat⟩ := LOG.out (F - 2) w1 (by omega) (Below.refl _ _)
    refine ⟨b, off, hv, fun W hW => ?_⟩
    obtain ⟨b', off', c', hv', hc', hcl, _⟩ := LOG.out (F - 2) W (by omega) hW
    rw [hv] at hv'
    simp only [Value.slice.injEq, Option.some.injEq, Addr.mk.injEq, and_true] at hv'
    obtain ⟨rfl, rfl⟩ := hv'
    rw [hc] at hc'
    cases hc'
    rw [hcl, ← hat, ← hpv, show ((F - 2 : Nat) : Int) + 1 = (F : Int) - 1 by omega]
  have PRZ : Hid (¬ 1 < F → pv = 0) := hide fun hF' => by
    rw [← hpv, show (F : Int) - 1 = 0 by omega]
    rfl
  have E1 := HE.out w1 (Below.refl _ _)
  obtain ⟨p0, p1, p2, p3, p4, p5, p6, p7⟩ := E1
  subst hvl
  clear h hi hA hvs hvc hnum ho hk bel1 hz hpv hf hf1 hf2 hF
  go_enter Try.func34, Try.ntmps34
  go_upto_if 10 with fail
  go_cut [5] from 8 to 17 (fun vq wx => vq = .int .i64 pv ∧ w1 = wx)
  case first =>
    by_cases hF' : 1 < F
    · obtain ⟨b, off, hv, hcl⟩ := PRV.out hF'
      have d0 := hcl w1 (Below.refl _ _)
      simp only [Value.slice.injEq, and_true] at hv
      obtain ⟨g, hg⟩ : ∃ g, F - 2 = g := ⟨_, rfl⟩
      rw [hg] at d0
      have g1 : (1 : Int) < (F : Int) := by omega
      have g2 : (F : Int) - 2 = (g : Int) := by omega
      have g3 : (g : Int) < rs.length := by omega
      have g4 : (0 : Int) ≤ (g : Int) := by omega
      subst hv
      clear PRV PRZ HE LOG COM HZP HZC HZY hcl
      go_wp2
      go_meet
      case rel => exact ⟨rfl, rfl⟩
    · have g1 : ¬ (1 : Int) < (F : Int) := by omega
      have HZ0 := hide (PRZ.out hF')
      clear PRV PRZ HE LOG COM HZP HZC HZY
      go_wp2
      go_meet
      case rel => exact ⟨by rw [HZ0.out], rfl⟩
  case rest =>
  obtain ⟨rfl, rfl⟩ := hcut
  by_cases hp : pv = m.p
  case neg =>
    have hb : (pv != m.p) = true := by simpa using hp
    have hzf := HZP.out hp
    clear PRV PRZ HE LOG COM HZP HZC HZY
    go_wp2
    go_ret
    exact ⟨by rw [hzf]; rfl, B1.out⟩
  have HHP := hide hp
  subst hp
  have hb : (m.p != m.p) = false := by simp
  clear PRV PRZ HZP
  go_wp2
  go_loopw [6, 7] (fun iv _ wr => ∃ i : Nat, iv = .int .i64 (i : Int) ∧ i ≤ m.cs.length ∧ Hid (∀ (j : Nat) (c : Cw), j < i → m.cs[j]? = some c → (rs.length : Int) < c.n ∨ Tak.atE (cvs rs) c.n = c.e) ∧ Hid (Below w1.heap.size w1 wr)) (fun iv _ _ => m.cs.length - (intOf iv).toNat)
  case atStart => exact ⟨0, rfl, by omega, hide fun j c hj => by omega, hide (Below.refl _ _)⟩
  case round =>
    obtain ⟨i, rfl, hi, HA, HB⟩ := hrel
    obtain ⟨q0, q1, q2, q3, q4, q5, q6, q7⟩ := HE.out wr HB.out
    by_cases hlt : i < m.cs.length
    · have hlt' : (i : Int) < m.cs.length := by omega
      have hi0 : (0 : Int) ≤ (i : Int) := by omega
      obtain ⟨b, off, c, hvx, hc, d0, d1, hcn⟩ := COM.out i wr hlt HB.out
      simp only [Value.slice.injEq, and_true] at hvx
      by_cases hle : F + i ≤ rs.length
      · obtain ⟨n, hn⟩ : ∃ n, F + i = n + 1 := ⟨F + i - 1, by omega⟩
        obtain ⟨b2, off2, c2, hv2, hc2, e0, hat⟩ := LOG.out n wr (by omega) HB.out
        simp only [Value.slice.injEq, and_true] at hv2
        have hat2 : Tak.atE (cvs rs) c.n = c2.e := by rw [hcn, hn, ← hat]; rfl
        have hle' : (n : Int) + 1 ≤ rs.length := by omega
        have hg1 : decide ((n : Int) + 1 ≤ (rs.length : Int)) = true := decide_eq_true hle'
        have hg2 : decide (n + 1 ≤ rs.length) = true := decide_eq_true (by omega)
        have hn2 : (n : Int) < rs.length := by omega
        have hn3 : (0 : Int) ≤ (n : Int) := by omega
        rw [hn, show ((n + 1 : Nat) : Int) = (n : Int) + 1 by omega] at d1
        have hcn0 : c.n ≤ rs.length := by rw [hcn, hn]; omega
        clear hn
        by_cases heq : c2.e = c.e
        · have hb2 : (c2.e != c.e) = false := by simp [heq]
          have HA2 : Hid (∀ (j : Nat) (d : Cw), j < i + 1 → m.cs[j]? = some d → (rs.length : Int) < d.n ∨ Tak.atE (cvs rs) d.n = d.e) := hide fun j d hj hd => by
            by_cases hji : j < i
            · exact HA.out j d hji hd
            · obtain rfl : j = i := by omega
              rw [hc] at hd
              cases hd
              exact .inr (by rw [hat2]; exact heq)
          subst hvx hv2
          clear HA hc hc2 hat hat2 hcn hcn0 LOG COM HE HZC HZY heq
          go_wp2
          go_quiet (fail)
          go_wp2
          go_roundw
          case rel => exact ⟨i + 1, by go_num, by omega, HA2, hide (below_drewN HB.out _)⟩
          case measure => simp [intOf]; omega
        · have hb2 : (c2.e != c.e) = true := by simpa using heq
          have HZF := hide (HZC.out i c hc hcn0 (by rw [hat2]; exact heq))
          subst hvx hv2
          clear HA hc hc2 hat hat2 hcn hcn0 LOG COM HE HZC HZY heq
          go_wp2
          go_quiet (fail)
          go_wp2
          go_ret
          exact ⟨by rw [HZF.out]; rfl, B1.out.trans ((below_drewN HB.out _).mono B1.out.size)⟩
      · have hle' : ¬ ((F + i : Nat) : Int) ≤ rs.length := by omega
        have hg1 : decide (((F + i : Nat) : Int) ≤ (rs.length : Int)) = false := decide_eq_false hle'
        have hg2 : decide (F + i ≤ rs.length) = false := decide_eq_false hle
        have HA2 : Hid (∀ (j : Nat) (d : Cw), j < i + 1 → m.cs[j]? = some d → (rs.length : Int) < d.n ∨ Tak.atE (cvs rs) d.n = d.e) := hide fun j d hj hd => by
          by_cases hji : j < i
          · exact HA.out j d hji hd
          · obtain rfl : j = i := by omega
            rw [hc] at hd
            cases hd
            exact .inl (by rw [hcn]; omega)
        generalize F + i = fi at *
        subst hvx
        clear HA hc hcn LOG COM HE HZC HZY
        go_wp2
        go_quiet (fail)
        go_wp2
        go_roundw
        case rel => exact ⟨i + 1, by go_num, by omega, HA2, hide (below_drewN HB.out _)⟩
        case measure => simp [intOf]; omega
    · have hlt' : ¬ (i : Int) < m.cs.length := by omega
      obtain rfl : i = m.cs.length := by omega
      have hzt := HZY.out HHP.out fun j c hc => HA.out j c (List.getElem?_eq_some_iff.1 hc).1 hc
      have HZT := hide hzt
      clear hzt LOG COM HE HZC HZY HA
      go_wp2
      go_ret
      exact ⟨by rw [HZT.out]; rfl, B1.out.trans (HB.out.mono B1.out.size)⟩

end Go.Proofs.Ytfnaeblbodfekaa

/- The document's Copy and Copies of commits. -/
namespace Go.Proofs.Ytfnaeblbodfekaa
open Go.RowKit
set_option linter.unusedVariables false

theorem ocells_g : ∀ (r : List Bm.Ov), ocells r = gcells ocell r
  | [] => rfl
  | c :: r => by rw [ocells, gcells, ocells_g r]

theorem ocell_len (o : Bm.Ov) : (ocell o).length = 3 := rfl

theorem ownO_g {e base : Nat} {w : World} {v : Value} {r : List Bm.Ov} : OwnO e base w v r ↔ OwnG ocell 3 e base w v r := by
  unfold OwnO OwnG
  rw [ocells_g]

theorem isO_g {w : World} {v : Value} {r : List Bm.Ov} : IsO w v r ↔ RowG ocell w v r := by
  unfold IsO RowG
  rw [ocells_g]

set_option maxRecDepth 20000 in
set_option maxHeartbeats 2000000 in
theorem copyX_any (e n : Int) (v : Value) (l : List Bm.Ov) (w : World) (h : IsO w v l) (hl : l.length * 40 ≤ 140737488351232) :
    Calls Try.prog 35 #[cmv e n v] w fun E w' => ∃ v', E = .returned (cmv e n v') ∧ OwnO 59 w.heap.size w' v' l ∧ Below w.heap.size w w' := by
  unfold cmv
  obtain ⟨w1, hw1, sz1, bel1, hB⟩ := blk_step w #[.int .i64 e, .int .i64 n, v] 50
  obtain ⟨w2, hw2, sz2, bel2, hR⟩ := blk_step w1 #[.int .i64 0, .int .i64 0, .slice none 0 0] 50
  rw [sz1] at hR
  have hB2 := (bel2.block w.heap.size (by omega)).trans hB
  have bel02 : Below w.heap.size w w2 := bel1.trans (bel2.mono (by omega))
  have h2 := h.below bel02
  have c0 : w2.cell? ⟨w.heap.size, 0, none⟩ = some (.int .i64 e) := blk_cell hB2 0 rfl
  have c1 : w2.cell? ⟨w.heap.size, 1, none⟩ = some (.int .i64 n) := blk_cell hB2 1 rfl
  have c2 : w2.cell? ⟨w.heap.size, 2, none⟩ = some v := blk_cell hB2 2 rfl
  have X : Hid (∀ ty, ∃ v' w', (Builtin.append_ #[48, 48] ty #[.slice none 0 0, v]).run Try.prog w2.drew = .ok v' w' ∧ ((∃ a k, v' = .slice a l.length k) ∧ (w'.cell? ⟨w.heap.size, 0, none⟩ = some (.int .i64 e) ∧ w'.cell? ⟨w.heap.size, 1, none⟩ = some (.int .i64 n) ∧ w'.cell? ⟨w.heap.size, 2, none⟩ = some v) ∧ (∃ V, ((w'.setCell ⟨w.heap.size + 1, 0, none⟩ (.int .i64 e)).setCell ⟨w.heap.size + 1, 1, none⟩ (.int .i64 n)).setCell ⟨w.heap.size + 1, 2, none⟩ v' = V ∧ (w'.cell? ⟨w.heap.size + 1, 0, none⟩ = some (.int .i64 0) ∧ w'.cell? ⟨w.heap.size + 1, 1, none⟩ = some (.int .i64 0) ∧ w'.cell? ⟨w.heap.size + 1, 2, none⟩ = some (.slice none 0 0)) ∧ (w'.frozen? ⟨w.heap.size + 1, 0, none⟩ = false ∧ w'.frozen? ⟨w.heap.size + 1, 1, none⟩ = false ∧ w'.frozen? ⟨w.heap.size + 1, 2, none⟩ = false) ∧ (V.cell? ⟨w.heap.size + 1, 0, none⟩ = some (.int .i64 e) ∧ V.cell? ⟨w.heap.size + 1, 1, none⟩ = some (.int .i64 n) ∧ V.cell? ⟨w.heap.size + 1, 2, none⟩ = some v') ∧ Hid (OwnO 59 w.heap.size V v' l ∧ Below w.heap.size w V)))) := hide fun ty => by
    obtain ⟨v', w', hr, hown, hg, _⟩ := run_append_rows_at (P := Try.prog) (w := w2.drew) 48 ty ocell 3 40 ocell_len (by decide) (by decide) (.agg #[.bool false, .string ⟨#[]⟩, .string ⟨#[]⟩]) rfl 59 w2.heap.size Try.underlying48 Try.info59 (.slice none 0 0) [] (OwnG.nil _ _ _ _ _) v l (isO_g.1 (h2.drewN 1)) (by
      rw [← ocells_g]
      exact ocells_cell l) (by simp; omega) (Nat.le_refl _)
    rw [List.nil_append] at hown
    have bw : Below w2.heap.size w2 w' := ((Below.refl w2.heap.size w2).drew).grown hg (Nat.le_refl _) fun g e => by simp [Value.ownBlock] at e
    have szw := bw.size
    have k1 := (bw.block w.heap.size (by omega)).trans hB2
    have k2 := (bw.block (w.heap.size + 1) (by omega)).trans hR
    obtain ⟨V, hV, bV, gV, a, f, z⟩ := res_step k2 (.int .i64 e) (.int .i64 n) v'
    have ownV := ((ownO_g.2 hown).keptg gV (by omega)).rebase (base' := w.heap.size) (by omega)
    obtain ⟨xa, xc, hx, _⟩ := hown.row.shape
    exact ⟨v', w', hr, ⟨xa, xc, hx⟩, ⟨blk_cell k1 0 rfl, blk_cell k1 1 rfl, blk_cell k1 2 rfl⟩, V, hV, a, f, z, hide ⟨ownV, below_put (bel02.trans (bw.mono (by omega))) gV (by omega) (by omega)⟩⟩
  obtain ⟨ao, cap, hv, _, _⟩ := h.shape
  rw [hv] at hw1 c2 X ⊢
  clear h h2 hB hB2 hR bel1 bel2 bel02 hv hl
  go_enter Try.func35, Try.ntmps35
  go_wp2_with fail
  go_region_law (refine step_append_at rfl (.tmp 8) (.tmp 10) 48 rfl (.slice none 0 0) (.slice ao l.length cap) (by first | rfl | (simp [Act.eval]; done)) (by first | rfl | (simp [Act.eval]; done)) X.out ?_; rintro v7 w7 ⟨⟨a7, k7, rfl⟩, ⟨y0, y1, y2⟩, V, hV, ⟨a0, a1, a2⟩, ⟨f0, f1, f2⟩, ⟨z0, z1, z2⟩, J⟩)
  all_goals
    go_wp2
    refine bodyPost_ret (v := .agg #[.int .i64 e, .int .i64 n, .slice a7 l.length k7]) (by simp [results, Try.results35, go_sem, z0, z1, z2]) rfl ?_
    exact ⟨_, rfl, J.out⟩

theorem Try.enters35 : ∀ args w, (callFunc 35 args).run Try.prog w = .ok (.enter 35 args) w := enters_of Try.func35 (by kernel_rfl) rfl

end Go.Proofs.Ytfnaeblbodfekaa

/- The document's Next (layer 17). -/
namespace Go.Proofs.Ytfnaeblbodfekaa
open Go.RowKit
set_option linter.unusedVariables false

/-- A ship that is put together in the block R. -/
structure NS (W1 w : World) (R : Nat) (e f p : Int) (v : Value) (cs : List Cw) (l : List Cm.Cv) : Prop where
  blk : w.heap[R]? = some (.cells #[.int .i64 2, .int .i64 e, .int .u8 0, .int .i64 0, .slice none 0 0, .int .i64 f, .int .i64 p, v] 30 (0, 0))
  sh : ShS W1.heap.size w v cs
  is : cvs cs = l
  out : Out (fun g => g = R) W1 w
  lt : R < W1.heap.size

theorem NS.push {W1 w w6 : World} {R : Nat} {e f p : Int} {v : Value} {cs : List Cw} {l : List Cm.Cv} (h : NS W1 w R e f p v cs l) (hb : Below w.heap.size w w6) (c : Cw) (hc : OwnO 59 w.heap.size w6 c.v c.l) (hf : CFit c.e c.n c.l) (hl : cs.length ≤ 1000000) :
    ∃ V, w6.alloc (.cells #[.int .i64 c.e, .int .i64 c.n, c.v] 50) = V ∧ V.cell? ⟨R, 7, none⟩ = some v ∧ Hid (∀ ty, ∃ v2 w2, (Builtin.append_ #[22, 22] ty #[v, .slice (some ⟨w6.heap.size, 0, none⟩) 1 1]).run Try.prog V = .ok v2 w2 ∧
      ((∃ U, w2.setCell ⟨R, 7, none⟩ v2 = U ∧ NS W1 U R e f p v2 (cs ++ [c]) (l ++ [c.c])) ∧ w2.cell? ⟨R, 7, none⟩ = some v ∧ w2.frozen? ⟨R, 7, none⟩ = false ∧ ∃ a n k, v2 = .slice a n k)) := by
  obtain ⟨V, hV, belV, szV, hpu⟩ := h.sh.push h.out.size hb c hc hf (by omega)
  have bwV : Below w.heap.size w V := hb.trans (belV.mono hb.size)
  have hBV := (bwV.block R (blk_lt h.blk)).trans h.blk
  refine ⟨V, hV, blk_cell hBV 7 rfl, hide fun ty => ?_⟩
  obtain ⟨v2, w2, hr, sh2, gr2, hsl⟩ := hpu ty
  have hvb : ∀ g, v.ownBlock = some g → W1.heap.size ≤ g := fun g hg => (World.ownsRow.lt h.sh.c g hg).1
  have hB2 := (gr2.block R (blk_lt hBV) fun e => by have := hvb R e.symm; have := h.lt; omega).trans hBV
  have hgU := grown_setCell w2 ⟨R, 7, none⟩ v2
  refine ⟨v2, w2, hr, ⟨⟨_, rfl, set_cells hB2 7 v2, ?_, ?_, ?_, h.lt⟩, blk_cell hB2 7 rfl, blk_froz hB2 7, hsl⟩⟩
  · exact sh2.out (F := fun g => g = R) (Out.of_grown hgU fun g hg => by simp at hg; exact hg.symm) (fun g hg => by rw [hg]; exact h.lt)
  · rw [← h.is]
    simp [cvs]
  · have o1 : Out (fun g => g = R) W1 V := h.out.trans (Out.of_below (F := fun _ => False) bwV) fun g hg => hg.elim
    have o2 : Out (fun g => g = R) W1 w2 := o1.trans (Out.of_grown (F := fun g => v.ownBlock = some g) gr2 fun g hg => hg) fun g hg => .inr (hvb g hg)
    exact o2.trans (Out.of_grown (F := fun g => g = R) hgU fun g hg => by simp at hg; exact hg.symm) fun g hg => .inl hg

theorem fit_shp {e f p : Int} {vc : Value} {cs : List Cw} (he : In64 e) (hf : In64 f) (hp : In64 p) (hc : FitC cs) (hl : cs.length ≤ 140737488355328) : FitM (sm2 e f p vc cs) := ⟨by simp [In64, sm2], he, by simp [sm2], by simp [sm2], by simp [In64, sm2], hf, hp, by simp [sm2], hc, hl⟩

end Go.Proofs.Ytfnaeblbodfekaa
