/- Texts of one layer, one behind the other. -/
import Derived.Test.YtmkpaedemjiboaaGreatB4
import Derived.Test.YtmkpaedemjiboaaGreatB6
import Derived.Test.YtmkpaedemjiboaaGreatA4
import Derived.Test.YtmkpaedemjiboaaGreatB7
import Derived.Deep.RegionHeld3
import Derived.Deep.RegionLaw
/- The program's Starts and From. -/
namespace Go.Proofs.YtmkpaedemjiboaaGreat
open Go.RowKit
set_option linter.unusedVariables false

set_option maxHeartbeats 1000000 in
theorem wstarts_any (p q : Nat) (F : Nat → Prop) (w : World) (s : Wl.Ws) (h : WW p q F w s) (hl : s.l.length ≤ 1000000) :
    Calls Tryz.prog 14 #[.pointer (some ⟨p, 0, none⟩)] w fun E w' => ∃ v, E = .returned v ∧ OwnS w.heap.size w' v (ofs s.l) ∧ Below w.heap.size w w' := by
  obtain ⟨F1, G1, h1, ⟨vc, ve, rs, hv, rfl⟩, rfl⟩ := h
  have HM := hide (made2_any p q w #[] _ _ _ hv.blk)
  have c2 : w.cell? ⟨p, 2, none⟩ = some vc := blk_cell hv.blk 2 rfl
  have HO := hide (of_any vc rs w hv.log.isc (fit_good hv.log.good hv.log.is).1 (by rw [hv.log.len]; exact hl))
  rw [hv.log.is] at HO
  obtain ⟨x1, y1, hvc, _, _⟩ := hv.log.r.row.row.shape
  unfold flv at HO
  subst hvc
  generalize hz : Cm.fol 0 0 0 s.l = z at *
  obtain ⟨z1, z2⟩ := z
  clear hv h1 hz
  go_enter Tryz.func14, Tryz.ntmps14
  go_wp2_with fail
  refine HM.out.mono ?_
  rintro E w1 ⟨rfl, rfl⟩
  go_wp2_with fail
  refine HO.out.mono ?_
  rintro E w2 ⟨v, rfl, own, bel⟩
  obtain ⟨V, hV, hV2, szV, belV, bV, k0, k1⟩ := new_two w2 91 (.int .i64 0) (.int .i64 0) (.int .i64 z1) (.int .i64 z2)
  have OV := hide (ownS_below own belV)
  have BV := hide (bel.trans (belV.mono bel.size))
  obtain ⟨a, c, hva, _⟩ := own.row.shape
  subst hva
  clear own bel belV bV HO HM
  go_wp2
  go_ret
  exact ⟨_, rfl, OV.out, BV.out⟩

theorem ccells_set (l : List Cw) (i : Nat) (c : Cw) (hi : i < l.length) : (((ccells l).set (i * 3) (.int .i64 c.e)).set (i * 3 + 1) (.int .i64 c.n)).set (i * 3 + 2) c.v = ccells (l.set i c) := by
  induction l generalizing i with
  | nil => simp at hi
  | cons d l ih =>
    cases i with
    | zero => simp [ccells, ccell]
    | succ i =>
      have := ih i (by simpa using hi)
      rw [show (i + 1) * 3 = i * 3 + 3 by omega]
      simp only [ccells, ccell, List.set_cons_succ, List.cons_append, List.nil_append]
      rw [← this]

theorem own_putC {e base g n cap : Nat} {w : World} {l : List Cw} (h : OwnR e base w (.slice (some ⟨g, 0, none⟩) n cap) l) (hn : l.length = n) (i : Nat) (hi : i < n) (c : Cw) :
    ∃ W, ((w.setCell ⟨g, i * 3, none⟩ (.int .i64 c.e)).setCell ⟨g, i * 3 + 1, none⟩ (.int .i64 c.n)).setCell ⟨g, i * 3 + 2, none⟩ c.v = W ∧ OwnR e base W (.slice (some ⟨g, 0, none⟩) n cap) (l.set i c) ∧ w.grownBy W (some g) := by
  subst hn
  unfold OwnR at h
  have s1 := h.stored (i * 3) (.int .i64 c.e)
  have s2 := s1.1.stored (i * 3 + 1) (.int .i64 c.n)
  have s3 := s2.1.stored (i * 3 + 2) c.v
  refine ⟨_, rfl, ?_, grown_trans s1.2 (grown_trans s2.2 s3.2)⟩
  unfold OwnR
  rw [List.length_set, ← ccells_set l i c hi]
  exact s3.1

theorem own_atC {e base g n cap : Nat} {w : World} {l : List Cw} (h : OwnR e base w (.slice (some ⟨g, 0, none⟩) n cap) l) (hn : l.length = n) (i : Nat) (c : Cw) (hc : l[i]? = some c) :
    (w.cell? ⟨g, i * 3, none⟩ = some (.int .i64 c.e) ∧ w.cell? ⟨g, i * 3 + 1, none⟩ = some (.int .i64 c.n) ∧ w.cell? ⟨g, i * 3 + 2, none⟩ = some c.v) ∧ (w.frozen? ⟨g, i * 3, none⟩ = false ∧ w.frozen? ⟨g, i * 3 + 1, none⟩ = false ∧ w.frozen? ⟨g, i * 3 + 2, none⟩ = false) := by
  subst hn
  unfold OwnR at h
  obtain ⟨hi, rfl⟩ := List.getElem?_eq_some_iff.1 hc
  obtain ⟨a0, a1, a2⟩ := ccells_at l i hi
  exact ⟨⟨by rw [h.cellAt (i * 3) (by omega)]; exact a0, by rw [h.cellAt (i * 3 + 1) (by omega)]; exact a1, by rw [h.cellAt (i * 3 + 2) (by omega)]; exact a2⟩, h.frozenAt _, h.frozenAt _, h.frozenAt _⟩

/-- What From answers. -/
def frl (l : List Cm.Cv) (n most : Int) : List Cm.Cv := if n < 1 ∨ (l.length : Int) < n ∨ most < 1 then [] else (l.drop (n.toNat - 1)).take most.toNat

/-- The copies so far. -/
structure Fst (w wr : World) (g m cap : Nat) (rest : List Cw) (k : Nat) (rk : List Cw) : Prop where
  row : OwnR 37 w.heap.size wr (.slice (some ⟨g, 0, none⟩) m cap) rk
  len : rk.length = m
  left : rk.drop k = rest.drop k
  cop : CopyR w.heap.size wr (rk.take k)
  is : cvs rk = cvs rest
  ap : ApC (rk.take k)
  bel : Below w.heap.size w wr

theorem Fst.next {w wr w2 w3 : World} {g m cap : Nat} {rest rk : List Cw} {k : Nat} (h : Fst w wr g m cap rest k rk) {c : Cw} (hc : rest[k]? = some c) (hk : k < m) {v' : Value} (ho : OwnO 71 wr.heap.size w2 v' c.l) (hb : Below wr.heap.size wr w2)
    (hr : OwnR 37 w.heap.size w3 (.slice (some ⟨g, 0, none⟩) m cap) (rk.set k ⟨c.e, c.n, v', c.l⟩)) (hg : w2.grownBy w3 (some g)) : Fst w w3 g m cap rest (k + 1) (rk.set k ⟨c.e, c.n, v', c.l⟩) := by
  have hlen := h.len
  have hrk : rk[k]? = some c := by
    have e1 : (rk.drop k)[0]? = (rest.drop k)[0]? := by rw [h.left]
    rw [List.getElem?_drop, List.getElem?_drop] at e1
    simpa using e1.trans (by simpa using hc)
  have htk : (rk.set k ⟨c.e, c.n, v', c.l⟩).take (k + 1) = rk.take k ++ [⟨c.e, c.n, v', c.l⟩] := by
    rw [List.take_succ_eq_append_getElem (by rw [List.length_set]; omega), List.take_set_of_le (Nat.le_refl _)]
    simp
  have hrow2 : OwnR 37 w.heap.size w2 (.slice (some ⟨g, 0, none⟩) m cap) rk := h.row.below hb
  have kt : KeepT 37 w2 w3 := KeepT.of_row hrow2 hg
  refine ⟨hr, by rw [List.length_set]; exact hlen, ?_, ?_, ?_, ?_, ?_⟩
  · rw [List.drop_set_of_lt (by omega), ← List.drop_drop, h.left, List.drop_drop]
  · rw [htk]
    exact ((h.cop.below hb).keepT kt).snoc (c := ⟨c.e, c.n, v', c.l⟩) ((ho.keepT kt (by decide)).rebase h.bel.size)
  · rw [← h.is]
    unfold cvs
    rw [List.map_set]
    apply List.ext_getElem?
    intro i
    rw [List.getElem?_set]
    by_cases hik : k = i
    · subst hik
      rw [if_pos rfl, if_pos (by rw [List.length_map]; omega), List.getElem?_map, hrk]
      rfl
    · rw [if_neg hik]
  · rw [htk]
    refine apc_snoc (N := wr.heap.size) h.ap (fun d hd b hb => ((h.cop d hd).block b hb).2) fun b hb => (OwnO.block ho b hb).1
  · have b2 := h.bel.trans (hb.mono h.bel.size)
    refine b2.grown hg b2.size fun i hi => ?_
    have := (World.ownsRow.lt h.row g rfl).1
    simp only [Option.some.injEq] at hi
    omega

set_option maxRecDepth 20000 in
set_option maxHeartbeats 2000000 in
theorem wfrom_any (p q : Nat) (F : Nat → Prop) (w : World) (s : Wl.Ws) (n most : Int) (h : WW p q F w s) :
    Calls Tryz.prog 12 #[.pointer (some ⟨p, 0, none⟩), .int .i64 n, .int .i64 most] w fun E w' => ∃ v rs, E = .returned v ∧ OwnR 37 w.heap.size w' v rs ∧ CopyR w.heap.size w' rs ∧ cvs rs = frl s.l n most ∧ ApC rs ∧ Below w.heap.size w w' := by
  obtain ⟨F1, G1, h1, ⟨vc, ve, rs, hv, rfl⟩, rfl⟩ := h
  have HM := hide (made2_any p q w #[] _ _ _ hv.blk)
  have c2 : w.cell? ⟨p, 2, none⟩ = some vc := blk_cell hv.blk 2 rfl
  have HE := hide (lend_any p 2 w vc rs c2 hv.log.r.row.row)
  have hlen := hv.log.len
  rw [hlen] at HE
  have hgl := good_len hv.log.good
  have HNO : Hid (∀ W m, W = w.drewN m → n < 1 ∨ (s.l.length : Int) < n ∨ most < 1 → OwnR 37 w.heap.size W (.slice none 0 0) [] ∧ CopyR w.heap.size W [] ∧ cvs [] = frl s.l n most ∧ ApC [] ∧ Below w.heap.size w W) := hide fun W m hW hc => by
    subst hW
    exact ⟨OwnR.nil _ _ _, fun c hc => by simp at hc, by unfold frl; rw [if_pos hc]; rfl, fun i j c d _ hc => by simp at hc, below_drewN (Below.refl _ _) m⟩
  by_cases a1 : n < 1
  · clear hv h1 HE
    have NO := hide (HNO.out w 0 rfl (.inl a1))
    clear HNO
    go_enter Tryz.func12, Tryz.ntmps12
    go_wp2_with fail
    refine HM.out.mono ?_
    rintro E w1 ⟨rfl, rfl⟩
    go_wp2
    go_ret
    exact ⟨_, [], rfl, NO.out⟩
  · by_cases a2 : (s.l.length : Int) < n
    · clear hv h1
      have NO := hide (HNO.out w 0 rfl (.inr (.inl a2)))
      clear HNO
      go_enter Tryz.func12, Tryz.ntmps12
      go_wp2_with fail
      refine HM.out.mono ?_
      rintro E w1 ⟨rfl, rfl⟩
      go_wp2_with fail
      refine HE.out.mono ?_
      rintro E w1 ⟨rfl, rfl⟩
      go_wp2
      go_ret
      exact ⟨_, [], rfl, NO.out⟩
    · by_cases a3 : most < 1
      · clear hv h1
        have NO := hide (HNO.out w 0 rfl (.inr (.inr a3)))
        clear HNO
        go_enter Tryz.func12, Tryz.ntmps12
        go_wp2_with fail
        refine HM.out.mono ?_
        rintro E w1 ⟨rfl, rfl⟩
        go_wp2_with fail
        refine HE.out.mono ?_
        rintro E w1 ⟨rfl, rfl⟩
        go_wp2
        go_ret
        exact ⟨_, [], rfl, NO.out⟩
      · obtain ⟨j, rfl⟩ : ∃ j : Nat, n = (j : Int) + 1 := ⟨(n - 1).toNat, by omega⟩
        obtain ⟨mm, rfl⟩ : ∃ mm : Nat, most = mm := ⟨most.toNat, by omega⟩
        have hj : j < rs.length := by omega
        have hfr : frl s.l ((j : Int) + 1) mm = (s.l.drop j).take mm := by
          unfold frl
          rw [if_neg (by omega)]
          congr 2
        obtain ⟨b0, off, cap0, hvc, hcap, hcm, _, _⟩ := hv.log.r.row.row.full (by omega)
        obtain ⟨v1, hs1, row1⟩ := hv.log.r.row.row.slice_l Tryz.elemC Tryz.sizeC j hj
        have hv1 : v1 = .slice (some ⟨b0, off + j * 3, none⟩) (rs.length - j) (cap0 - j) := by
          have := hs1 w
          rw [hvc, run_slice_l w 41 _ rs.length cap0 Tryz.elemC .i64 _ (by omega) (by omega), Tryz.sizeC] at this
          have hne : ¬ cap0 = j := by omega
          simp [Result.andThen, sliced, hne, add_at] at this
          exact this.symm
        obtain ⟨m, hm⟩ : ∃ m, m = min mm (rs.length - j) := ⟨_, rfl⟩
        have hm1 : 1 ≤ m := by omega
        have hmle : m ≤ (rs.drop j).length := by rw [List.length_drop]; omega
        obtain ⟨v2, hs2, row2⟩ := row1.slice_h Tryz.elemC Tryz.sizeC m hmle
        have hv2 : v2 = .slice (some ⟨b0, off + j * 3, none⟩) m (cap0 - j) := by
          have := hs2 w
          rw [hv1, run_slice_h w 41 _ (rs.length - j) (cap0 - j) Tryz.elemC .i64 _ (by omega) (by rw [List.length_drop] at hmle; omega), Tryz.sizeC] at this
          simp [Result.andThen, sliced, Addr.add] at this
          exact this.symm
        obtain ⟨rest, hrest⟩ : ∃ rest, rest = (rs.drop j).take m := ⟨_, rfl⟩
        have hrl : rest.length = m := by rw [hrest, List.length_take]; omega
        have hcv : cvs rest = (s.l.drop j).take mm := by
          rw [hrest, cvs, List.map_take, List.map_drop, ← cvs, hv.log.is, hm]
          rw [hlen]
          apply List.ext_getElem?
          intro i
          rw [List.getElem?_take, List.getElem?_take]
          by_cases hi : i < min mm (s.l.length - j)
          · rw [if_pos hi, if_pos (by omega)]
          · rw [if_neg hi]
            by_cases hi2 : i < mm
            · rw [if_pos hi2, List.getElem?_drop, List.getElem?_eq_none (by omega)]
            · rw [if_neg hi2]
        have hin : ∀ c ∈ rest, c ∈ rs := fun c hc => List.mem_of_mem_drop (List.mem_of_mem_take (hrest ▸ hc))
        have HOPS : Hid (∀ W, Below w.heap.size w W → ∀ c ∈ rest, IsO W c.v c.l ∧ c.l.length * 40 ≤ 140737488351232) := hide fun W hb c hc => ⟨((hv.log.r.cop c (hin c hc)).is).below hb, by have := ((fit_good hv.log.good hv.log.is).2 c (hin c hc)).2.2; omega⟩
        have HCL : Hid (Calls Tryz.prog 60 #[v2] w fun e w' => ∃ g cap, e = .returned (.slice (some ⟨g, 0, none⟩) m cap) ∧ m ≤ cap ∧ Fst w w' g m cap rest 0 rest) := hide (by
          refine (cloneC_any v2 rest w (by rw [hrest]; exact row2) (fun c hc => (hv.log.r.cop c (hin c hc)).is.one) (by rw [hrl]; omega)).mono ?_
          rintro E w' ⟨v, rfl, own, bel⟩
          rcases own.2 with ⟨_, h0⟩ | ⟨g, cap, cur, hvv, _, _, hc, _⟩
          · omega
          · refine ⟨g, cap, by rw [hvv, hrl], by omega, by rw [← hrl, ← hvv]; exact own, hrl, rfl, fun c hc => by simp at hc, rfl, fun i j c d _ hc => by simp at hc, bel⟩)
        have hwr : IntKind.i64.wrap (((j : Int) + 1) - 1) = (j : Int) := by rw [wrap_i64_small _ (by omega) (by omega)]; omega
        have hne0 : ¬ cap0 = j := by omega
        rw [hv2] at HCL
        rw [hvc] at c2
        rw [hlen] at c2 hm hcap
        have FIN : Hid (∀ W g cap rk, Fst w W g m cap rest m rk → OwnR 37 w.heap.size W (.slice (some ⟨g, 0, none⟩) m cap) rk ∧ CopyR w.heap.size W rk ∧ cvs rk = frl s.l ((j : Int) + 1) mm ∧ ApC rk ∧ Below w.heap.size w W) := hide fun W g cap rk hF => by
          have ht : rk.take m = rk := List.take_of_length_le (by rw [hF.len]; omega)
          have h1 := hF.cop
          have h2 := hF.ap
          rw [ht] at h1 h2
          exact ⟨hF.row, h1, by rw [hF.is, hcv, hfr], h2, hF.bel⟩
        have HRL := hide hrl
        have hj' : j < s.l.length := by omega
        have hm3 : m ≤ 1048576 := by omega
        clear hv h1 HNO row1 row2 hv1 hv2 hs1 hs2 hrest hcv hfr hrl hin hmle hvc hj hcm
        clear hlen
        have HCL2 : Hid (∀ z : Nat, z = m → Calls Tryz.prog 60 #[.slice (some ⟨b0, off + j * 3, none⟩) z (cap0 - j)] w fun e w' => ∃ g cap, e = .returned (.slice (some ⟨g, 0, none⟩) m cap) ∧ m ≤ cap ∧ Fst w w' g m cap rest 0 rest) := hide fun z hz => by rw [hz]; exact HCL.out
        have HMM := hide hm
        clear HCL hm
        go_enter Tryz.func12, Tryz.ntmps12
        go_wp2_with fail
        refine HM.out.mono ?_
        rintro E w1 ⟨rfl, rfl⟩
        go_wp2_with fail
        refine HE.out.mono ?_
        rintro E w1 ⟨rfl, rfl⟩
        go_wp2_with fail
        all_goals
          refine (HCL2.out _ (by rw [HMM.out]; omega)).mono ?_
          rintro E w1 ⟨g, cap, rfl, hcp, F0⟩
          have F0 := hide F0
          clear HCL2 HM HE
          go_wp2
          go_loopw [47] (fun iv wr => ∃ (k : Nat) (rk : List Cw), k ≤ m ∧ iv = .int .i64 k ∧ Hid (Fst w wr g m cap rest k rk)) (fun iv _ => m - (intOf iv).toNat)
          case atStart => exact ⟨0, rest, by omega, rfl, F0⟩
          case round =>
            obtain ⟨k, rk, hk, rfl, FSX⟩ := hrel
            by_cases hlt : k < m
            · obtain ⟨c, hc⟩ : ∃ c, rest[k]? = some c := ⟨rest[k]'(by rw [HRL.out]; omega), by rw [List.getElem?_eq_getElem]⟩
              have hcm := List.mem_of_getElem? hc
              have hrk : rk[k]? = some c := by
                have e1 : (rk.drop k)[0]? = (rest.drop k)[0]? := by rw [FSX.out.left]
                rw [List.getElem?_drop, List.getElem?_drop] at e1
                simpa using e1.trans (by simpa using hc)
              obtain ⟨⟨d0, d1, d2⟩, _⟩ := own_atC FSX.out.row FSX.out.len k c hrk
              obtain ⟨wa, hwa, hwa2, sza, bela, bA, x0, x1, x2⟩ := new_step wr 37 (.int .i64 0) (.int .i64 0) (.slice none 0 0) (.int .i64 c.e) (.int .i64 c.n) c.v
              obtain ⟨hio, hlo⟩ := HOPS.out wr FSX.out.bel c hcm
              have CP : Hid (Calls Tryz.prog 61 #[.agg #[.int .i64 c.e, .int .i64 c.n, c.v]] wa fun E w2 => ∃ v2, E = .returned (.agg #[.int .i64 c.e, .int .i64 c.n, v2]) ∧ (∃ a n z, v2 = .slice a n z) ∧ (∃ W, ((w2.setCell ⟨g, k * 3, none⟩ (.int .i64 c.e)).setCell ⟨g, k * 3 + 1, none⟩ (.int .i64 c.n)).setCell ⟨g, k * 3 + 2, none⟩ v2 = W ∧ ∃ rk', Fst w W g m cap rest (k + 1) rk') ∧ (w2.cell? ⟨g, k * 3, none⟩ = some (.int .i64 c.e) ∧ w2.cell? ⟨g, k * 3 + 1, none⟩ = some (.int .i64 c.n) ∧ w2.cell? ⟨g, k * 3 + 2, none⟩ = some c.v) ∧ (w2.frozen? ⟨g, k * 3, none⟩ = false ∧ w2.frozen? ⟨g, k * 3 + 1, none⟩ = false ∧ w2.frozen? ⟨g, k * 3 + 2, none⟩ = false)) := hide (by
                refine (ccopy_any c.e c.n c.v c.l wa (hio.below bela) hlo).mono ?_
                rintro E w2 ⟨v2, rfl, own2, bel2⟩
                have b2 : Below wr.heap.size wr w2 := bela.trans (bel2.mono bela.size)
                have hrow2 : OwnR 37 w.heap.size w2 (.slice (some ⟨g, 0, none⟩) m cap) rk := FSX.out.row.below b2
                obtain ⟨W, hW, oW, gW⟩ := own_putC hrow2 FSX.out.len k hlt ⟨c.e, c.n, v2, c.l⟩
                obtain ⟨y, z⟩ := own_atC hrow2 FSX.out.len k c hrk
                exact ⟨v2, rfl, (by obtain ⟨xa, xc, hx, _⟩ := own2.is.shape; exact ⟨_, _, _, hx⟩), ⟨W, hW, _, FSX.out.next hc hlt (own2.rebase bela.size) b2 oW gW⟩, y, z⟩)
              obtain ⟨ca, cc, hcv, _, _⟩ := hio.shape
              rw [hcv] at d2 hwa hwa2 x2 CP
              have hlt' : (k : Int) < m := by omega
              clear FSX hio hlo hrk bela bA hc hcm
              go_wp2_with fail
              refine CP.out.mono ?_
              rintro E w2 ⟨v2, rfl, ⟨a2, n2, z2, rfl⟩, ⟨W, hW, rk2, F2⟩, ⟨y0, y1, y2⟩, ⟨f0, f1, f2⟩⟩
              have F2 := hide F2
              clear CP
              go_wp2
              go_roundw
              case rel => exact ⟨k + 1, rk2, by omega, by go_num, F2⟩
              case measure => simp [intOf]; omega
            · obtain rfl : k = m := by omega
              have hlt' : ¬ (k : Int) < k := by omega
              have G := hide (FIN.out _ g cap rk FSX.out)
              clear FSX
              go_wp2
              go_ret
              first
              | exact ⟨_, rk, rfl, G.out⟩
              | exact ⟨_, rfl, rk, G.out⟩

end Go.Proofs.YtmkpaedemjiboaaGreat

/- The document's Copies and From. -/
namespace Go.Proofs.YtmkpaedemjiboaaGreat
open Go.RowKit
set_option linter.unusedVariables false

set_option maxHeartbeats 1000000 in
theorem copiesX_any (vl : Value) (r : List Cw) (w : World) (h : IsC w vl r) (hf : FitC r) (hl : r.length ≤ 1048576) :
    Calls Tryz.prog 99 #[vl] w fun E w' => ∃ v rs, E = .returned v ∧ OwnR 37 w.heap.size w' v rs ∧ cvs rs = cvs r ∧ CopyR w.heap.size w' rs ∧ Below w.heap.size w w' := by
  by_cases hz : r.length = 0
  · have : r = [] := List.eq_nil_of_length_eq_zero hz
    subst this
    obtain ⟨ao, cap, rfl, _, _⟩ := h.1.shape
    clear h hf hl hz
    simp only [List.length_nil]
    go_enter Tryz.func99, Tryz.ntmps99
    go_wp2
    go_loopw [3, 4] (fun ov iv wr => ov = .slice none 0 0 ∧ iv = .int .i64 0 ∧ wr = w) (fun _ _ _ => 0)
    case atStart => exact ⟨rfl, rfl, rfl⟩
    case round =>
      obtain ⟨rfl, rfl, rfl⟩ := hrel
      go_wp2
      go_ret
      exact ⟨_, [], rfl, OwnR.nil _ _ _, rfl, fun c hc => by simp at hc, Below.refl _ _⟩
  obtain ⟨b1, o1, c1, hvl, _, _, hB, hcell⟩ := h.1.full (by omega)
  subst hvl
  have HIN := hide h.2
  have HFIT := hide hf
  have HC := hide hcell
  generalize hn : r.length = n at *
  have HN := hide hn
  clear h hcell hf hn
  go_enter Tryz.func99, Tryz.ntmps99
  go_wp2
  go_loopw [3, 4] (fun ov iv wr => ∃ (k : Nat) (rs : List Cw), k ≤ n ∧ iv = .int .i64 k ∧ rs.length = k ∧ Hid (OwnR 37 w.heap.size wr ov rs ∧ cvs rs = cvs (r.take k) ∧ CopyR w.heap.size wr rs) ∧ Below w.heap.size w wr) (fun _ iv _ => n - (intOf iv).toNat)
  case atStart => exact ⟨0, [], by omega, rfl, rfl, ⟨OwnR.nil _ _ _, rfl, fun c hc => by simp at hc⟩, Below.refl _ _⟩
  case round =>
    obtain ⟨k, rs, hk, rfl, hrl, HT, bel⟩ := hrel
    have sz := bel.size
    by_cases hlt : k < n
    · obtain ⟨c, hc⟩ : ∃ c, r[k]? = some c := ⟨r[k]'(by have := HN.out; omega), by rw [List.getElem?_eq_getElem]⟩
      obtain ⟨e0, e1, e2⟩ := HC.out k c hc
      have d0 := (bel.cell (p := ⟨b1, o1 + k * 3, none⟩) hB).trans e0
      have d1 := (bel.cell (p := ⟨b1, o1 + k * 3 + 1, none⟩) hB).trans e1
      have d2 := (bel.cell (p := ⟨b1, o1 + k * 3 + 2, none⟩) hB).trans e2
      have hmem := List.mem_of_getElem? hc
      obtain ⟨i1, _, _⟩ := HIN.out c hmem
      have i2 := i1.below bel
      obtain ⟨hfc, hlc⟩ := HFIT.out c hmem
      have HCK := hide hc
      have hlt' : (k : Int) < n := by omega
      clear hc hmem i1 e0 e1 e2
      go_wp2_with fail
      refine (copyX_any c.e c.n _ c.l _ i2 hlc).mono ?_
      rintro E w2 ⟨v2, rfl, own2, bel2⟩
      unfold cmv
      have sz2 := bel2.size
      obtain ⟨ah, ch, hv2, _, _⟩ := own2.is.shape
      subst hv2
      obtain ⟨w3, hw3, sz3, bel3, own3⟩ := coms_step 37 w2 #[.int .i64 c.e, .int .i64 c.n, .slice ah c.l.length ch] 1 [⟨c.e, c.n, .slice ah c.l.length ch, c.l⟩] rfl rfl (by simp [maxLen])
      obtain ⟨hO, hE, hP⟩ := HT.out
      have bel23 : Below wr.heap.size wr w3 := bel2.trans (bel3.mono (by omega))
      have hO3 := hO.below bel23
      have hP3 := hP.below bel23
      have own23 := (own2.below bel3).rebase (base' := w.heap.size) (by omega)
      have hlk : (rs.length + [(⟨c.e, c.n, .slice ah c.l.length ch, c.l⟩ : Cw)].length) * 40 ≤ 140737488355328 := by rw [List.length_singleton]; omega
      have HE := hide hE
      have HP := hide hP3
      have bel03 : Below w.heap.size w w3 := bel.trans (bel23.mono (by omega))
      clear HT hO hP hP3 hE bel2 bel3 bel23 own2 bel d0 d1 d2 i2
      go_wp2_with (at_builtin; refine wpList_append_coms rfl (.tmp 11) (.tmp 17) 41 rfl 37 w.heap.size Tryz.underlying41 Tryz.info37 _ rs rfl hO3 _ _ rfl own3.row (by intro c hc; rw [List.mem_singleton.1 hc]; rfl) hlk (by omega) ?_)
      intro v4 w4 own4 bel4 kp4
      have HT2 : Hid (OwnR 37 w.heap.size w4 v4 (rs ++ [⟨c.e, c.n, .slice ah c.l.length ch, c.l⟩]) ∧ cvs (rs ++ [⟨c.e, c.n, .slice ah c.l.length ch, c.l⟩]) = cvs (r.take (k + 1)) ∧ CopyR w.heap.size w4 (rs ++ [⟨c.e, c.n, .slice ah c.l.length ch, c.l⟩])) :=
        ⟨own4, cvs_snoc HE.out HCK.out rfl, (HP.out.keepT kp4).snoc (own23.keepT kp4 (by decide))⟩
      have bel04 := bel03.trans bel4
      clear own4 kp4 own23 own3 hO3 HE HP bel03 bel4 hlk
      go_wp2
      go_roundw
      case rel => exact ⟨k + 1, _, by omega, by go_num, by rw [List.length_append, hrl]; rfl, HT2, bel04⟩
      case measure => simp [intOf]; omega
    · have hlt' : ¬ (k : Int) < n := by omega
      have HE : Hid (cvs rs = cvs r) := hide (by rw [HT.out.2.1, List.take_of_length_le (by have := HN.out; omega)])
      go_wp2
      go_ret
      exact ⟨_, rfl, rs, HT.out.1, HE.out, HT.out.2.2, bel⟩

theorem frl_end {l : List Cm.Cv} {j k : Nat} {most : Int} (hk : k = 0 ∨ (j + k ≤ l.length ∧ (k : Int) ≤ most)) (he : l.length ≤ j + k ∨ most ≤ k) : (l.drop j).take k = frl l ((j : Int) + 1) most := by
  unfold frl
  by_cases h : (j : Int) + 1 < 1 ∨ (l.length : Int) < (j : Int) + 1 ∨ most < 1
  · rw [if_pos h]
    have : k = 0 := by omega
    subst this
    rfl
  · rw [if_neg h]
    obtain ⟨mm, rfl⟩ : ∃ mm : Nat, most = mm := ⟨most.toNat, by omega⟩
    have e : ((j : Int) + 1).toNat - 1 = j := by omega
    rw [e, Int.toNat_natCast]
    apply List.ext_getElem?
    intro i
    rw [List.getElem?_take, List.getElem?_take]
    by_cases hi : i < k
    · rw [if_pos hi, if_pos (by omega)]
    · rw [if_neg hi]
      by_cases hm : i < mm
      · rw [if_pos hm, List.getElem?_drop, List.getElem?_eq_none (by omega)]
      · rw [if_neg hm]

theorem cvs_more {rk r : List Cw} {l : List Cm.Cv} {j k : Nat} {c d : Cw} (h : cvs rk = (l.drop j).take k) (hl : cvs r = l) (hd : r[j + k]? = some d) (he : c.c = d.c) : cvs (rk ++ [c]) = (l.drop j).take (k + 1) := by
  have hx : (l.drop j)[k]? = some d.c := by
    rw [List.getElem?_drop, ← hl, cvs, List.getElem?_map, hd]
    rfl
  obtain ⟨hk, hx⟩ := List.getElem?_eq_some_iff.1 hx
  rw [List.take_succ_eq_append_getElem hk, hx, ← h]
  unfold cvs
  rw [List.map_append]
  simp [he]

set_option maxRecDepth 20000 in
set_option maxHeartbeats 2000000 in
theorem fromX_any (p q : Nat) (F : Nat → Prop) (w : World) (s : Wl.Ws) (n most : Int) (h : XX p q F w s) (hn : n ≤ 9223372036854775807) :
    Calls Tryz.prog 41 #[.pointer (some ⟨p, 0, none⟩), .int .i64 n, .int .i64 most] w fun E w' => ∃ v rs, E = .returned v ∧ OwnR 37 w.heap.size w' v rs ∧ CopyR w.heap.size w' rs ∧ cvs rs = frl s.l n most ∧ Below w.heap.size w w' := by
  obtain ⟨F1, v, rs, h1, h2, h3, rfl⟩ := h
  have HM := hide (noneX_any p q w _ _ _ h2.blk)
  have c2 : w.cell? ⟨p, 2, none⟩ = some v := blk_cell h2.blk 2 rfl
  have hpw : p < w.heap.size := blk_lt h2.blk
  have hlen := h2.len
  have hgl := good_len h2.good
  have HI := hide h2.isc
  have HIS := hide h2.is
  obtain ⟨ao, cap, hv, _, _⟩ := h2.row.row.shape
  by_cases a1 : n < 1
  · rw [hv] at c2
    clear h1 h2 h3
    go_enter Tryz.func41, Tryz.ntmps41
    go_wp2_with fail
    refine HM.out.mono ?_
    rintro E w1 ⟨rfl, rfl⟩
    go_wp2
    go_ret
    exact ⟨_, [], rfl, OwnR.nil _ _ _, fun c hc => by simp at hc, by unfold frl; rw [if_pos (.inl a1)]; rfl, Below.refl _ _⟩
  · obtain ⟨j, rfl⟩ : ∃ j : Nat, n = (j : Int) + 1 := ⟨(n - 1).toNat, by omega⟩
    have hwr : IntKind.i64.wrap (((j : Int) + 1) - 1) = (j : Int) := by rw [wrap_i64_small _ (by omega) (by omega)]; omega
    have hwr2 : IntKind.i64.wrap (j : Int) = (j : Int) := wrap_i64_small _ (by omega) (by omega)
    clear hn
    subst hv
    obtain ⟨z, hz⟩ : ∃ z, s.l.length = z := ⟨_, rfl⟩
    rw [hlen, hz] at c2 HI
    have hrz : rs.length = z := by omega
    have HZ := hide hz
    have hzz : z ≤ 1048576 := by omega
    have HRZ := hide hrz
    clear h1 h2 h3 hz hrz hlen hgl
    go_enter Tryz.func41, Tryz.ntmps41
    go_wp2_with fail
    refine HM.out.mono ?_
    rintro E w1 ⟨rfl, rfl⟩
    clear HM
    go_wp2
    go_loopw [7, 8] (fun ov iv wr => ∃ (k : Nat) (rk : List Cw), (k = 0 ∨ (j + k ≤ z ∧ (k : Int) ≤ most)) ∧ iv = .int .i64 ((j + k : Nat) : Int) ∧ rk.length = k ∧ Hid (OwnR 37 w.heap.size wr ov rk ∧ cvs rk = (s.l.drop j).take k ∧ CopyR w.heap.size wr rk) ∧ Below w.heap.size w wr) (fun _ iv _ => z - (intOf iv).toNat)
    case atStart => exact ⟨0, [], .inl rfl, rfl, rfl, ⟨OwnR.nil _ _ _, rfl, fun c hc => by simp at hc⟩, Below.refl _ _⟩
    case round =>
      obtain ⟨k, rk, hk, rfl, hrl, HT, bel⟩ := hrel
      have sz := bel.size
      have c2r := (bel.cell (p := ⟨p, 2, none⟩) hpw).trans c2
      obtain ⟨oa, oc, hov, _, _⟩ := HT.out.1.row.shape
      rw [hrl] at hov
      subst hov
      by_cases hlt : j + k < z
      · have hlt' : ((j + k : Nat) : Int) < z := by omega
        by_cases hmo : (k : Int) < most
        · obtain ⟨b1, o1, c1, hvx, _, _, _, hcell⟩ := (HI.out.1.below bel).1.full (by have := HRZ.out; omega)
          simp only [Value.slice.injEq] at hvx
          obtain ⟨rfl, hmid, rfl⟩ := hvx
          clear hmid
          obtain ⟨c, hc⟩ : ∃ c, rs[j + k]? = some c := ⟨rs[j + k]'(by have := HRZ.out; omega), by rw [List.getElem?_eq_getElem]⟩
          obtain ⟨d0, d1, d2⟩ := hcell (j + k) c hc
          have hmem := List.mem_of_getElem? hc
          have i2 := ((HI.out.1.below bel).2 c hmem).1
          obtain ⟨hfc, hlc⟩ := HI.out.2 c hmem
          have HCK := hide hc
          have CP := hide (copyX_any c.e c.n c.v c.l wr i2 hlc)
          unfold cmv at CP
          obtain ⟨xa, xc, hxv, _, _⟩ := i2.shape
          rw [hxv] at d2 CP
          have hj0 : (0 : Int) ≤ ((j + k : Nat) : Int) := by omega
          clear hc hmem i2 hcell hxv
          go_wp2_with fail
          refine CP.out.mono ?_
          rintro E w2 ⟨v2, rfl, own2, bel2⟩
          have sz2 := bel2.size
          obtain ⟨ah, ch, hv2, _, _⟩ := own2.is.shape
          subst hv2
          obtain ⟨w3, hw3, sz3, bel3, own3⟩ := coms_step 37 w2 #[.int .i64 c.e, .int .i64 c.n, .slice ah c.l.length ch] 1 [⟨c.e, c.n, .slice ah c.l.length ch, c.l⟩] rfl rfl (by simp [maxLen])
          obtain ⟨hO, hE, hP⟩ := HT.out
          have bel23 : Below wr.heap.size wr w3 := bel2.trans (bel3.mono (by omega))
          have hO3 := hO.below bel23
          have hP3 := hP.below bel23
          have own23 := (own2.below bel3).rebase (base' := w.heap.size) (by omega)
          have hlk : (rk.length + [(⟨c.e, c.n, .slice ah c.l.length ch, c.l⟩ : Cw)].length) * 40 ≤ 140737488355328 := by rw [List.length_singleton]; omega
          have HE := hide hE
          have HP := hide hP3
          have bel03 : Below w.heap.size w w3 := bel.trans (bel23.mono (by omega))
          clear HT hO hP hP3 hE bel2 bel3 bel23 own2 bel d0 d1 d2 CP
          go_wp2_with (at_builtin; refine wpList_append_coms rfl (.tmp 33) (.tmp 42) 41 rfl 37 w.heap.size Tryz.underlying41 Tryz.info37 _ rk rfl hO3 _ _ rfl own3.row (by intro c hc; rw [List.mem_singleton.1 hc]; rfl) hlk (by omega) ?_)
          intro v4 w4 own4 bel4 kp4
          have HT2 : Hid (OwnR 37 w.heap.size w4 v4 (rk ++ [⟨c.e, c.n, .slice ah c.l.length ch, c.l⟩]) ∧ cvs (rk ++ [⟨c.e, c.n, .slice ah c.l.length ch, c.l⟩]) = (s.l.drop j).take (k + 1) ∧ CopyR w.heap.size w4 (rk ++ [⟨c.e, c.n, .slice ah c.l.length ch, c.l⟩])) :=
            ⟨own4, cvs_more HE.out HIS.out HCK.out rfl, (HP.out.keepT kp4).snoc (own23.keepT kp4 (by decide))⟩
          have bel04 := bel03.trans bel4
          clear own4 kp4 own23 own3 hO3 HE HP bel03 bel4 hlk
          go_wp2
          go_roundw
          case rel => exact ⟨k + 1, _, .inr (by omega), by go_num, by rw [List.length_append, hrl]; rfl, HT2, bel04⟩
          case measure => simp [intOf]; omega
        · have HE := hide (HT.out.2.1.trans (frl_end (by rw [HZ.out]; exact hk) (.inr (by omega))))
          go_wp2
          go_ret
          exact ⟨_, rfl, rk, HT.out.1, HT.out.2.2, HE.out, bel⟩
      · have hlt' : ¬ ((j + k : Nat) : Int) < z := by omega
        have HE := hide (HT.out.2.1.trans (frl_end (most := most) (by rw [HZ.out]; exact hk) (.inl (by rw [HZ.out]; omega))))
        go_wp2
        go_ret
        exact ⟨_, rfl, rk, HT.out.1, HT.out.2.2, HE.out, bel⟩

end Go.Proofs.YtmkpaedemjiboaaGreat

/- The document's Cut. -/
namespace Go.Proofs.YtmkpaedemjiboaaGreat
open Go.RowKit
set_option linter.unusedVariables false

/-- The log is another one. -/
theorem XX.swap {p q : Nat} {F : Nat → Prop} {w w' : World} {st : Dm.Ds} {l l' : List Cm.Cv} {bk : Bool} {v' : Value} {rs' : List Cw} (h : XX p q F w ⟨st, l, bk⟩) (hb : Below w.heap.size w w') (h1 : OwnR 37 w.heap.size w' v' rs') (h2 : CopyR w.heap.size w' rs') (h3 : cvs rs' = l') (h4 : Cm.Good 0 0 l') : XStep p q F w (w'.setCell ⟨p, 2, none⟩ v') ⟨st, l', bk⟩ := by
  obtain ⟨F1, v, rs, k1, k2, k3, hF⟩ := h
  have hpw : p < w.heap.size := blk_lt k2.blk
  have ho : Out (fun g => g = p) w' (w'.setCell ⟨p, 2, none⟩ v') := Out.of_grown (grown_setCell w' ⟨p, 2, none⟩ v') fun g hg => by simp at hg; exact hg.symm
  have hB := (hb.block p hpw).trans k2.blk
  have rng : ∀ g, (v'.ownBlock = some g ∨ ∃ c ∈ rs', c.v.ownBlock = some g) → w.heap.size ≤ g ∧ g < w'.heap.size := by
    rintro g (e | ⟨c, hc, e⟩)
    · exact World.ownsRow.lt h1 g e
    · exact World.ownsRow.lt (h2 c hc) g e
  have hne : ∀ g, (v'.ownBlock = some g ∨ ∃ c ∈ rs', c.v.ownBlock = some g) → ¬ g = p := fun g hg e => by
    have := (rng g hg).1
    omega
  have XV : XkV p q (w'.setCell ⟨p, 2, none⟩ v') l' bk v' rs' := ⟨by rw [set_cells hB]; rfl, OwnR.rebase (row_agree h1 fun g hg => ho.block g (rng g (.inl hg)).2 (hne g (.inl hg))) (Nat.zero_le _), fun c hc => OwnO.rebase (row_agree (h2 c hc) fun g hg => ho.block g (rng g (.inr ⟨c, hc, hg⟩)).2 (hne g (.inr ⟨c, hc, hg⟩))) (Nat.zero_le _), h3, h4⟩
  refine ⟨_, ⟨F1, v', rs', (k1.below hb).out ho fun g hg e => k3 g (.inl e) hg, XV, ?_, rfl⟩, ?_, ?_⟩
  · rintro g (e | e) hf
    · exact k3 g (.inl e) hf
    · have e1 := (rng g e).1
      have e2 := k1.lt g hf
      omega
  · refine (Out.of_below (F := F) hb).trans ho fun g hg => .inl ?_
    rw [hF]
    exact .inr (.inl hg)
  · rintro g (e | e | e)
    · rw [hF]
      exact .inl (.inl e)
    · rw [hF]
      exact .inl (.inr (.inl e))
    · exact .inr (rng g e).1

theorem XX.blk {p q : Nat} {F : Nat → Prop} {w : World} {s : Wl.Ws} (h : XX p q F w s) : ∃ v, w.heap[p]? = some (.cells #[.bool true, .pointer (some ⟨q, 0, none⟩), v, .bool s.bk] 109 (0, 0)) := by
  obtain ⟨F1, v, rs, h1, h2, h3, rfl⟩ := h
  exact ⟨v, h2.blk⟩

/-- What the disk answered, and the wal's block. -/
theorem offX2_any (p q : Nat) (F : Nat → Prop) (w W : World) (s : Wl.Ws) (e : Int) (u : Value) (h : XStep p q F w W s) (hB : W.heap[p]? = some (.cells #[.bool true, .pointer (some ⟨q, 0, none⟩), u, .bool s.bk] 109 (0, 0))) :
    Calls Tryz.prog 86 #[.pointer (some ⟨p, 0, none⟩), .int .i64 e] W fun E w' => E = .returned (.int .i64 e) ∧ XStep p q F w w' ⟨s.d, s.l, e != 0⟩ ∧ w'.heap[p]? = some (.cells #[.bool true, .pointer (some ⟨q, 0, none⟩), u, .bool (e != 0)] 109 (0, 0)) := by
  have HF := hide (h.next fun F1 k => k.flag (e != 0))
  have HS : Hid ((W.setCell ⟨p, 3, none⟩ (.bool (e != 0))).heap[p]? = some (.cells #[.bool true, .pointer (some ⟨q, 0, none⟩), u, .bool (e != 0)] 109 (0, 0))) := hide (by rw [set_cells hB]; rfl)
  have c3 : W.cell? ⟨p, 3, none⟩ = some (.bool s.bk) := blk_cell hB 3 rfl
  have f3 := blk_froz hB 3
  clear h hB
  go_enter Tryz.func86, Tryz.ntmps86
  go_wp2
  go_ret
  exact ⟨rfl, HF.out, HS.out⟩

set_option maxRecDepth 20000 in
set_option maxHeartbeats 2000000 in
theorem cutX_any (p q : Nat) (F : Nat → Prop) (w : World) (s : Wl.Ws) (tt : Int) (h : XX p q F w s) (hs : WBig s) :
    Calls Tryz.prog 35 #[.pointer (some ⟨p, 0, none⟩), .int .i64 tt] w fun E w' => E = .returned (.int .i64 (Wl.wcut s tt).1) ∧ XStep p q F w w' (Wl.wcut s tt).2 := by
  have HR := hide (askedX_any p q F w s h)
  have HH := hide h
  have hb := hs.big
  cases ha : Wl.ask s with
  | true =>
    have e1 : Wl.wcut s tt = (6, Wl.brk s) := by unfold Wl.wcut; rw [ha]; rfl
    rw [e1]
    clear h hs e1 hb
    go_enter Tryz.func35, Tryz.ntmps35
    go_wp2_with fail
    refine HR.out.mono ?_
    rintro E w1 (⟨_, rfl, J⟩ | ⟨h0, _⟩)
    · have J := hide J
      go_wp2
      go_ret
      exact ⟨rfl, J.out⟩
    · rw [ha] at h0
      cases h0
  | false =>
    obtain ⟨F1, v, rs, h1, h2, h3, hF⟩ := id h
    have hlen := h2.len
    have hgl := good_len h2.good
    obtain ⟨ao, cap, hv, _, _⟩ := h2.row.row.shape
    rw [hlen] at hv
    have p1 : w.cell? ⟨p, 1, none⟩ = some (.pointer (some ⟨q, 0, none⟩)) := blk_cell h2.blk 1 rfl
    have p2 : w.cell? ⟨p, 2, none⟩ = some v := blk_cell h2.blk 2 rfl
    by_cases hneg : tt < 0
    · have e1 : Wl.wcut s tt = (2, s) := by unfold Wl.wcut; rw [ha, if_neg (by decide), if_pos (.inl hneg)]
      rw [e1]
      clear h hs e1 hb h1 h2 h3
      go_enter Tryz.func35, Tryz.ntmps35
      go_wp2_with fail
      refine HR.out.mono ?_
      rintro E w1 (⟨h0, _⟩ | ⟨_, rfl, rfl⟩)
      · rw [ha] at h0
        cases h0
      go_wp2
      go_ret
      exact ⟨rfl, XStep.same HH.out (Below.refl _ _)⟩
    · by_cases hbig : (s.l.length : Int) < tt
      · have e1 : Wl.wcut s tt = (2, s) := by unfold Wl.wcut; rw [ha, if_neg (by decide), if_pos (.inr hbig)]
        rw [e1]
        rw [hv] at p2
        clear h hs e1 hb h1 h2 h3
        go_enter Tryz.func35, Tryz.ntmps35
        go_wp2_with fail
        refine HR.out.mono ?_
        rintro E w1 (⟨h0, _⟩ | ⟨_, rfl, rfl⟩)
        · rw [ha] at h0
          cases h0
        go_wp2
        go_ret
        exact ⟨rfl, XStep.same HH.out (Below.refl _ _)⟩
      · obtain ⟨k, rfl⟩ : ∃ k : Nat, tt = k := ⟨tt.toNat, by omega⟩
        have hk : k ≤ s.l.length := by omega
        obtain ⟨vs, hsl, rows⟩ := h2.row.row.slice_h Tryz.elemC Tryz.sizeC k (by omega)
        have hpw : p < w.heap.size := blk_lt h2.blk
        have e1 : Wl.wcut s k = if (Dm.cutD s.d 0 (Wl.lgb (s.l.take k)).length).1 ≠ 0 then ((Dm.cutD s.d 0 (Wl.lgb (s.l.take k)).length).1, ⟨(Dm.cutD s.d 0 (Wl.lgb (s.l.take k)).length).2, s.l, true⟩) else (0, ⟨(Dm.cutD s.d 0 (Wl.lgb (s.l.take k)).length).2, s.l.take k, false⟩) := by
          unfold Wl.wcut
          rw [ha, if_neg (by decide), if_neg (by omega)]
          rfl
        have HP : Hid (∀ W, Below w.heap.size w W → Calls Tryz.prog 98 #[vs] W fun E w' => E = .returned (.int .i64 (Wl.lgb (s.l.take k)).length) ∧ Below w.heap.size w w' ∧ w'.cell? ⟨p, 1, none⟩ = some (.pointer (some ⟨q, 0, none⟩)) ∧ w'.cell? ⟨p, 2, none⟩ = some v) := hide fun W hW => by
          have ic : IsC W vs (rs.take k) := ⟨rows.below hW, fun c hc => (h2.isc.1.below hW).2 c (List.mem_of_mem_take hc)⟩
          refine (lengthL_any vs (rs.take k) (s.l.take k) W ic (by rw [cvs_take, h2.is]) (Cm.good_take h2.good k)).mono ?_
          rintro E w' ⟨rfl, hb'⟩
          have b2 := hW.trans (hb'.mono hW.size)
          exact ⟨rfl, b2, (b2.cell (p := ⟨p, 1, none⟩) hpw).trans p1, (b2.cell (p := ⟨p, 2, none⟩) hpw).trans p2⟩
        have HC : Hid (∀ W, Below w.heap.size w W → Calls Tryz.prog 97 #[.pointer (some ⟨q, 0, none⟩), .int .i64 0, .int .i64 (Wl.lgb (s.l.take k)).length] W fun E w' => E = .returned (.int .i64 (Dm.cutD s.d 0 (Wl.lgb (s.l.take k)).length).1) ∧ XStep p q F w w' ⟨(Dm.cutD s.d 0 (Wl.lgb (s.l.take k)).length).2, s.l, s.bk⟩ ∧ w'.heap[p]? = some (.cells #[.bool true, .pointer (some ⟨q, 0, none⟩), v, .bool s.bk] 109 (0, 0)) ∧ w'.cell? ⟨p, 1, none⟩ = some (.pointer (some ⟨q, 0, none⟩)) ∧ w'.cell? ⟨p, 2, none⟩ = some v) := hide fun W hW => by
          refine (cutR_any q F1 W s.d 0 _ (h1.below hW) (fun f => Nat.le_trans (hb.1.1 f) (by decide)) (Nat.le_trans hb.1.2.1 (by decide)) hb.2 (Nat.lt_of_le_of_lt hb.1.2.2 (by decide))).mono ?_
          rintro E w' ⟨rfl, DS⟩
          have hX := h2.agree (w' := W) fun g hg => hW.block g (h2.lt g hg)
          have ST := XStep.pre hW (XX.disk (h1.below hW) hX h3 DS)
          obtain ⟨_, _, k2, _⟩ := DS
          have hB := (k2.block p (Nat.lt_of_lt_of_le hpw hW.size) (h3 p (.inl rfl))).trans hX.blk
          rw [hF]
          exact ⟨rfl, ST, hB, blk_cell hB 1 rfl, blk_cell hB 2 rfl⟩
        have HHE : Hid (∀ W x st, XStep p q F w W ⟨st, s.l, s.bk⟩ → W.heap[p]? = some (.cells #[.bool true, .pointer (some ⟨q, 0, none⟩), v, .bool s.bk] 109 (0, 0)) → Calls Tryz.prog 86 #[.pointer (some ⟨p, 0, none⟩), .int .i64 x] W fun E w' => E = .returned (.int .i64 x) ∧ XStep p q F w w' ⟨st, s.l, x != 0⟩ ∧ w'.cell? ⟨p, 1, none⟩ = some (.pointer (some ⟨q, 0, none⟩)) ∧ w'.cell? ⟨p, 2, none⟩ = some v) := hide fun W x st hW hB => by
          refine (offX2_any p q F w W _ x v hW hB).mono ?_
          rintro E w' ⟨rfl, k, hB'⟩
          exact ⟨rfl, k, blk_cell hB' 1 rfl, blk_cell hB' 2 rfl⟩
        have HT : Hid (∀ W st, XStep p q F w W ⟨st, s.l, false⟩ → W.cell? ⟨p, 2, none⟩ = some v → Calls Tryz.prog 99 #[vs] W fun E w' => ∃ v', E = .returned v' ∧ w'.cell? ⟨p, 2, none⟩ = some v ∧ w'.frozen? ⟨p, 2, none⟩ = false ∧ (∃ a n c, v' = .slice a n c) ∧ XStep p q F w (w'.setCell ⟨p, 2, none⟩ v') ⟨st, s.l.take k, false⟩) := hide fun W st hW hcv => by
          obtain ⟨F4, hX, o4, s4⟩ := hW
          obtain ⟨Fa, va, ra, g1, g2, g3, hFa⟩ := id hX
          have hla : ra.length = s.l.length := g2.len
          have cB : W.cell? ⟨p, 2, none⟩ = some va := blk_cell g2.blk 2 rfl
          rw [hcv] at cB
          simp only [Option.some.injEq] at cB
          subst cB
          obtain ⟨vt, hvt, rowt⟩ := g2.row.row.slice_h Tryz.elemC Tryz.sizeC k (by omega)
          have hvv : vs = vt := by
            have e := (hsl w).symm.trans (hvt w)
            simp only [Result.ok.injEq] at e
            exact e.1
          subst hvv
          have g2i := g2.is
          have g2g : Cm.Good 0 0 s.l := g2.good
          have ic : IsC W vs (ra.take k) := ⟨rowt, fun c hc => g2.isc.1.2 c (List.mem_of_mem_take hc)⟩
          have fc : FitC (ra.take k) := fun c hc => g2.isc.2 c (List.mem_of_mem_take hc)
          refine (copiesX_any vs (ra.take k) W ic fc (by rw [List.length_take]; omega)).mono ?_
          rintro E w' ⟨v', rs', rfl, own, he, cop, bel⟩
          have hB' := (bel.block p (blk_lt g2.blk)).trans g2.blk
          obtain ⟨ya, yc, hyv, _, _⟩ := own.row.shape
          exact ⟨v', rfl, blk_cell hB' 2 rfl, blk_froz hB' 2, ⟨ya, _, yc, hyv⟩, XStep.trans o4 s4 (hX.swap bel own cop (by rw [he, cvs_take, g2i]) (Cm.good_take g2g k))⟩
        generalize (Dm.cutD s.d 0 (Wl.lgb (s.l.take k)).length) = y at *
        obtain ⟨x, d'⟩ := y
        simp only at *
        have E1 := hide e1
        obtain ⟨sa, sc, hvs, _, _⟩ := rows.shape
        rw [List.length_take, hlen, Nat.min_eq_left hk] at hvs
        subst hvs hv
        have hk' : ¬ ((s.l.length : Int) < (k : Int)) := by omega
        have hk0 : ¬ ((k : Int) < 0) := by omega
        clear h hs hb e1 rows h1 h2 h3 hF hgl hlen hneg hbig
        go_enter Tryz.func35, Tryz.ntmps35
        go_wp2_with fail
        refine HR.out.mono ?_
        rintro E w1 (⟨h0, _⟩ | ⟨_, rfl, rfl⟩)
        · rw [ha] at h0
          cases h0
        clear HR
        go_wp2_with fail
        go_region_held3 (fun w' => w'.cell? ⟨p, 1, none⟩ = some (.pointer (some ⟨q, 0, none⟩)) ∧ w'.cell? ⟨p, 2, none⟩ = some (.slice ao s.l.length cap)) (first | exact ⟨p1, p2⟩ | exact ⟨d1, d2⟩ | exact ⟨e1, e2⟩ | exact ⟨i1, i2⟩ | go_keep)
          (first
          | (go_at_call 98; refine (HP.out _ ((Below.refl _ _).drew)).mono ?_; rintro E w2 ⟨rfl, b2, d1, d2⟩)
          | (go_at_call 97; refine (HC.out _ b2).mono ?_; rintro E w3 ⟨rfl, J3, B3, e1, e2⟩; have J3 := hide J3; have B3 := hide B3)
          | (go_at_call 86; refine (HHE.out _ _ _ J3.out B3.out).mono ?_; rintro E w4 ⟨rfl, J4, i1, i2⟩; have J4 := hide J4))
        all_goals
          clear HP HC HHE J3 B3
          by_cases hx0 : x = 0
          · subst hx0
            have A7 : Hid (Wl.wcut s k = (0, ⟨d', s.l.take k, false⟩)) := hide (by rw [E1.out]; simp)
            have HT2 := hide (HT.out _ _ J4.out i2)
            clear E1 HT
            go_wp2_with fail
            refine HT2.out.mono ?_
            rintro E w5 ⟨v5, rfl, y1, y2, ⟨ya, yn, yc, rfl⟩, J5⟩
            have J5 := hide J5
            clear HT2
            go_wp2
            go_ret
            exact ⟨by rw [A7.out]; rfl, by rw [A7.out]; exact J5.out⟩
          · have hxb : (x != 0) = true := by simp [hx0]
            have A7 : Hid (Wl.wcut s k = (x, ⟨d', s.l, true⟩)) := hide (by rw [E1.out]; simp [hx0])
            rw [hxb] at J4
            clear E1 HT
            go_wp2
            go_ret
            exact ⟨by rw [A7.out]; rfl, by rw [A7.out]; exact J4.out⟩

end Go.Proofs.YtmkpaedemjiboaaGreat

/- The document's log grows by a commit. -/
namespace Go.Proofs.YtmkpaedemjiboaaGreat
open Go.RowKit
set_option linter.unusedVariables false

theorem xk_push {p q : Nat} {F1 : Nat → Prop} {w w6 : World} {st : Dm.Ds} {l : List Cm.Cv} {bk : Bool} {v : Value} {rs : List Cw} (h1 : Dk q F1 w st) (h2 : XkV p q w l bk v rs) (h3 : ∀ g, XB p v rs g → ¬ F1 g) (hb : Below w.heap.size w w6) (c : Cw) (hc : OwnO 71 w.heap.size w6 c.v c.l) (hgd : Cm.Good 0 0 (l ++ [c.c])) :
    ∃ V, w6.alloc (.cells #[.int .i64 c.e, .int .i64 c.n, c.v] 37) = V ∧ V.cell? ⟨p, 2, none⟩ = some v ∧ Hid (∀ ty, ∃ v' w', (Builtin.append_ #[41, 41] ty #[v, .slice (some ⟨w6.heap.size, 0, none⟩) 1 1]).run Tryz.prog V = .ok v' w' ∧
      ((∃ U, w'.setCell ⟨p, 2, none⟩ v' = U ∧ XStep p q (fun g => F1 g ∨ XB p v rs g) w U ⟨st, l ++ [c.c], bk⟩) ∧ w'.cell? ⟨p, 2, none⟩ = some v ∧ w'.frozen? ⟨p, 2, none⟩ = false ∧ ∃ a n k, v' = .slice a n k)) := by
  obtain ⟨V, hV, szV, belV, own⟩ := rows_step ccell 3 ccell_len 37 w6 #[.int .i64 c.e, .int .i64 c.n, c.v] 1 [c] rfl rfl (by simp [maxLen])
  have bel : Below w.heap.size w V := hb.trans (belV.mono hb.size)
  have hpw : p < w.heap.size := blk_lt h2.blk
  have hBV := (bel.block p hpw).trans h2.blk
  refine ⟨V, hV, blk_cell hBV 2 rfl, hide fun ty => ?_⟩
  have hlen := h2.len
  have hgl := good_len h2.good
  have szV' : V.heap.size = w6.heap.size + 1 := szV
  have sz6 := hb.size
  obtain ⟨v', w', hr, hown, hg, hat⟩ := run_append_rows_at (P := Tryz.prog) (w := V) 41 ty ccell 3 40 ccell_len (by decide) (by decide) (.agg #[.int .i64 0, .int .i64 0, .slice none 0 0]) rfl 37 0 Tryz.underlying41 Tryz.info37 v rs (ownR_g.1 (h2.row.below bel)) _ [c] own.row (by
    rw [← ccells_g]
    exact ccells_cell [c] fun d hd => by rw [List.mem_singleton.1 hd]; exact hc.is.one) (by simp; omega) (by omega)
  have hne : ∀ g, v.ownBlock = some g → g ≠ p := fun g hg e => by
    obtain ⟨cs, e1⟩ := h2.row.type hg
    rw [e, h2.blk] at e1
    simp only [Option.some.injEq, Obj.cells.injEq] at e1
    exact absurd e1.2.1 (by decide)
  have hBw := (hg.block p (by omega) fun e => hne p e.symm rfl).trans hBV
  obtain ⟨U, hU⟩ : ∃ U, w'.setCell ⟨p, 2, none⟩ v' = U := ⟨_, rfl⟩
  have oU : Out (fun g => g = p) w' U := by
    rw [← hU]
    exact Out.of_grown (grown_setCell w' ⟨p, 2, none⟩ _) fun g hg => by simp at hg; exact hg.symm
  have oV : Out (fun g => g = p ∨ v.ownBlock = some g) V U := (Out.of_grown (F := fun g => g = p ∨ v.ownBlock = some g) hg fun g hg => .inr hg).trans oU fun g hg => .inl (.inl hg)
  have oW : Out (fun g => g = p ∨ v.ownBlock = some g) w U := (Out.of_below (F := fun g => g = p ∨ v.ownBlock = some g) bel).trans oV fun g hg => .inl hg
  have o6 : Out (fun g => g = p ∨ v.ownBlock = some g) w6 U := (Out.of_below (F := fun g => g = p ∨ v.ownBlock = some g) belV).trans oV fun g hg => .inl hg
  have rng : ∀ g, c.v.ownBlock = some g → w.heap.size ≤ g ∧ g < w6.heap.size := fun g hg => OwnO.block hc g hg
  have vlt : ∀ g, v.ownBlock = some g → g < w.heap.size := fun g hg => (World.ownsRow.lt h2.row g hg).2
  have hx : ∀ g, v'.ownBlock = some g → v.ownBlock = some g ∨ w.heap.size ≤ g := fun g hg => by
    rcases hat with e | e
    · exact .inl (e ▸ hg)
    · rw [hg] at e
      simp only [Option.some.injEq] at e
      exact .inr (by omega)
  obtain ⟨xa, xc, hv', _⟩ := hown.row.shape
  have XV : XkV p q U (l ++ [c.c]) bk v' (rs ++ [c]) := by
    refine ⟨by rw [← hU, set_cells hBw]; rfl, ?_, ?_, ?_, hgd⟩
    · refine ownR_g.2 (hown.agree fun g hg => oU.block g (hown.lt g hg).2 fun e => ?_)
      obtain ⟨c1, e1⟩ := hown.type hg
      rw [e, hBw] at e1
      simp only [Option.some.injEq, Obj.cells.injEq] at e1
      exact absurd e1.2.1 (by decide)
    · intro d hd
      rcases List.mem_append.1 hd with hd | hd
      · refine row_agree (h2.cop d hd) fun g hg => oW.block g (OwnO.block (h2.cop d hd) g hg).2 fun e => ?_
        obtain ⟨c1, e1⟩ := (h2.cop d hd).type hg
        rcases e with e | e
        · rw [e, h2.blk] at e1
          simp only [Option.some.injEq, Obj.cells.injEq] at e1
          exact absurd e1.2.1 (by decide)
        · obtain ⟨c2, e2⟩ := h2.row.type e
          rw [e1] at e2
          simp only [Option.some.injEq, Obj.cells.injEq] at e2
          exact absurd e2.2.1 (by decide)
      · rw [List.mem_singleton.1 hd]
        refine OwnO.rebase (row_agree hc fun g hg => o6.block g (rng g hg).2 fun e => ?_) (Nat.zero_le _)
        have := (rng g hg).1
        rcases e with e | e
        · omega
        · have := vlt g e
          omega
    · rw [cvs, List.map_append, ← cvs, h2.is]
      rfl
  refine ⟨v', w', hr, ⟨U, hU, _, ⟨F1, v', rs ++ [c], h1.out oW fun g hg e => ?_, XV, ?_, rfl⟩, oW.mono fun g hg => .inl ?_, ?_⟩, blk_cell hBw 2 rfl, blk_froz hBw 2, xa, _, xc, hv'⟩
  · rcases e with e | e
    · exact h3 g (.inl e) hg
    · exact h3 g (.inr (.inl e)) hg
  · rintro g (e | e | ⟨d, hd, e⟩) hf
    · exact h3 g (.inl e) hf
    · rcases hx g e with e | e
      · exact h3 g (.inr (.inl e)) hf
      · have := h1.lt g hf
        omega
    · rcases List.mem_append.1 hd with hd | hd
      · exact h3 g (.inr (.inr ⟨d, hd, e⟩)) hf
      · rw [List.mem_singleton.1 hd] at e
        have e1 := (rng g e).1
        have e2 := h1.lt g hf
        omega
  · rcases hg with e | e
    · exact .inr (.inl e)
    · exact .inr (.inr (.inl e))
  · rintro g (e | e | e | ⟨d, hd, e⟩)
    · exact .inl (.inl e)
    · exact .inl (.inr (.inl e))
    · rcases hx g e with e | e
      · exact .inl (.inr (.inr (.inl e)))
      · exact .inr e
    · rcases List.mem_append.1 hd with hd | hd
      · exact .inl (.inr (.inr (.inr ⟨d, hd, e⟩)))
      · rw [List.mem_singleton.1 hd] at e
        exact .inr (rng g e).1

end Go.Proofs.YtmkpaedemjiboaaGreat
