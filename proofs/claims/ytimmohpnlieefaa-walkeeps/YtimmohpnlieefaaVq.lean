/- The program's Starts and From. -/
import Derived.Test.YtimmohpnlieefaaVj
import Derived.Test.YtimmohpnlieefaaVk
import Derived.Test.YtimmohpnlieefaaSg
import Derived.Test.YtimmohpnlieefaaA4
namespace Go.Proofs.Ytimmohpnlieefaa
open Go.RowKit
set_option linter.unusedVariables false

set_option maxHeartbeats 1000000 in
theorem wstarts_any (p q : Nat) (F : Nat → Prop) (w : World) (s : Wl.Ws) (h : WW p q F w s) (hl : s.l.length ≤ 1000000) :
    Calls Try.prog 23 #[.pointer (some ⟨p, 0, none⟩)] w fun E w' => ∃ v, E = .returned v ∧ OwnS w.heap.size w' v (ofs s.l) ∧ Below w.heap.size w w' := by
  obtain ⟨F1, G1, h1, ⟨vc, ve, rs, hv, rfl⟩, rfl⟩ := h
  have HM := hide (made2_any p q w #[] _ _ _ hv.blk)
  have c2 : w.cell? ⟨p, 2, none⟩ = some vc := blk_cell hv.blk 2 rfl
  have HO := hide (of_any vc rs w hv.log.isc (fit_good hv.log.good hv.log.is).1 (by rw [hv.log.len]; exact hl))
  rw [hv.log.is] at HO
  obtain ⟨x1, y1, hvc, _, _⟩ := hv.log.r.row.row.shape
  unfold flv at HO
  subst hvc
  generalize hz : Cm.fol 0 0 0 s.l = z at *
  obtain ⟨z1, z2⟩ := z
  clear hv h1 hz
  go_enter Try.func23, Try.ntmps23
  go_wp2_with fail
  refine HM.out.mono ?_
  rintro E w1 ⟨rfl, rfl⟩
  go_wp2_with fail
  refine HO.out.mono ?_
  rintro E w2 ⟨v, rfl, own, bel⟩
  obtain ⟨V, hV, hV2, szV, belV, bV, k0, k1⟩ := new_two w2 71 (.int .i64 0) (.int .i64 0) (.int .i64 z1) (.int .i64 z2)
  have OV := hide (ownS_below own belV)
  have BV := hide (bel.trans (belV.mono bel.size))
  obtain ⟨a, c, hva, _⟩ := own.row.shape
  subst hva
  clear own bel belV bV HO HM
  go_wp2
  go_ret
  exact ⟨_, rfl, OV.out, BV.out⟩

theorem ccells_set (l : List Cw) (i : Nat) (c : Cw) (hi : i < l.length) : (((ccells l).set (i * 3) (.int .i64 c.e)).set (i * 3 + 1) (.int .i64 c.n)).set (i * 3 + 2) c.v = ccells (l.set i c) := by
  induction l generalizing i with
  | nil => simp at hi
  | cons d l ih =>
    cases i with
    | zero => simp [ccells, ccell]
    | succ i =>
      have := ih i (by simpa using hi)
      rw [show (i + 1) * 3 = i * 3 + 3 by omega]
      simp only [ccells, ccell, List.set_cons_succ, List.cons_append, List.nil_append]
      rw [← this]

theorem own_putC {e base g n cap : Nat} {w : World} {l : List Cw} (h : OwnR e base w (.slice (some ⟨g, 0, none⟩) n cap) l) (hn : l.length = n) (i : Nat) (hi : i < n) (c : Cw) :
    ∃ W, ((w.setCell ⟨g, i * 3, none⟩ (.int .i64 c.e)).setCell ⟨g, i * 3 + 1, none⟩ (.int .i64 c.n)).setCell ⟨g, i * 3 + 2, none⟩ c.v = W ∧ OwnR e base W (.slice (some ⟨g, 0, none⟩) n cap) (l.set i c) ∧ w.grownBy W (some g) := by
  subst hn
  unfold OwnR at h
  have s1 := h.stored (i * 3) (.int .i64 c.e)
  have s2 := s1.1.stored (i * 3 + 1) (.int .i64 c.n)
  have s3 := s2.1.stored (i * 3 + 2) c.v
  refine ⟨_, rfl, ?_, grown_trans s1.2 (grown_trans s2.2 s3.2)⟩
  unfold OwnR
  rw [List.length_set, ← ccells_set l i c hi]
  exact s3.1

theorem own_atC {e base g n cap : Nat} {w : World} {l : List Cw} (h : OwnR e base w (.slice (some ⟨g, 0, none⟩) n cap) l) (hn : l.length = n) (i : Nat) (c : Cw) (hc : l[i]? = some c) :
    (w.cell? ⟨g, i * 3, none⟩ = some (.int .i64 c.e) ∧ w.cell? ⟨g, i * 3 + 1, none⟩ = some (.int .i64 c.n) ∧ w.cell? ⟨g, i * 3 + 2, none⟩ = some c.v) ∧ (w.frozen? ⟨g, i * 3, none⟩ = false ∧ w.frozen? ⟨g, i * 3 + 1, none⟩ = false ∧ w.frozen? ⟨g, i * 3 + 2, none⟩ = false) := by
  subst hn
  unfold OwnR at h
  obtain ⟨hi, rfl⟩ := List.getElem?_eq_some_iff.1 hc
  obtain ⟨a0, a1, a2⟩ := ccells_at l i hi
  exact ⟨⟨by rw [h.cellAt (i * 3) (by omega)]; exact a0, by rw [h.cellAt (i * 3 + 1) (by omega)]; exact a1, by rw [h.cellAt (i * 3 + 2) (by omega)]; exact a2⟩, h.frozenAt _, h.frozenAt _, h.frozenAt _⟩

/-- What From answers. -/
def frl (l : List Cm.Cv) (n most : Int) : List Cm.Cv := if n < 1 ∨ (l.length : Int) < n ∨ most < 1 then [] else (l.drop (n.toNat - 1)).take most.toNat

/-- The copies so far. -/
structure Fst (w wr : World) (g m cap : Nat) (rest : List Cw) (k : Nat) (rk : List Cw) : Prop where
  row : OwnR 32 w.heap.size wr (.slice (some ⟨g, 0, none⟩) m cap) rk
  len : rk.length = m
  left : rk.drop k = rest.drop k
  cop : CopyR w.heap.size wr (rk.take k)
  is : cvs rk = cvs rest
  ap : ApC (rk.take k)
  bel : Below w.heap.size w wr

theorem Fst.next {w wr w2 w3 : World} {g m cap : Nat} {rest rk : List Cw} {k : Nat} (h : Fst w wr g m cap rest k rk) {c : Cw} (hc : rest[k]? = some c) (hk : k < m) {v' : Value} (ho : OwnO 87 wr.heap.size w2 v' c.l) (hb : Below wr.heap.size wr w2)
    (hr : OwnR 32 w.heap.size w3 (.slice (some ⟨g, 0, none⟩) m cap) (rk.set k ⟨c.e, c.n, v', c.l⟩)) (hg : w2.grownBy w3 (some g)) : Fst w w3 g m cap rest (k + 1) (rk.set k ⟨c.e, c.n, v', c.l⟩) := by
  have hlen := h.len
  have hrk : rk[k]? = some c := by
    have e1 : (rk.drop k)[0]? = (rest.drop k)[0]? := by rw [h.left]
    rw [List.getElem?_drop, List.getElem?_drop] at e1
    simpa using e1.trans (by simpa using hc)
  have htk : (rk.set k ⟨c.e, c.n, v', c.l⟩).take (k + 1) = rk.take k ++ [⟨c.e, c.n, v', c.l⟩] := by
    rw [List.take_succ_eq_append_getElem (by rw [List.length_set]; omega), List.take_set_of_le (Nat.le_refl _)]
    simp
  have hrow2 : OwnR 32 w.heap.size w2 (.slice (some ⟨g, 0, none⟩) m cap) rk := h.row.below hb
  have kt : KeepT 32 w2 w3 := KeepT.of_row hrow2 hg
  refine ⟨hr, by rw [List.length_set]; exact hlen, ?_, ?_, ?_, ?_, ?_⟩
  · rw [List.drop_set_of_lt (by omega), ← List.drop_drop, h.left, List.drop_drop]
  · rw [htk]
    exact ((h.cop.below hb).keepT kt).snoc (c := ⟨c.e, c.n, v', c.l⟩) ((ho.keepT kt (by decide)).rebase h.bel.size)
  · rw [← h.is]
    unfold cvs
    rw [List.map_set]
    apply List.ext_getElem?
    intro i
    rw [List.getElem?_set]
    by_cases hik : k = i
    · subst hik
      rw [if_pos rfl, if_pos (by rw [List.length_map]; omega), List.getElem?_map, hrk]
      rfl
    · rw [if_neg hik]
  · rw [htk]
    refine apc_snoc (N := wr.heap.size) h.ap (fun d hd b hb => ((h.cop d hd).block b hb).2) fun b hb => (OwnO.block ho b hb).1
  · have b2 := h.bel.trans (hb.mono h.bel.size)
    refine b2.grown hg b2.size fun i hi => ?_
    have := (World.ownsRow.lt h.row g rfl).1
    simp only [Option.some.injEq] at hi
    omega

set_option maxRecDepth 20000 in
set_option maxHeartbeats 2000000 in
theorem wfrom_any (p q : Nat) (F : Nat → Prop) (w : World) (s : Wl.Ws) (n most : Int) (h : WW p q F w s) :
    Calls Try.prog 24 #[.pointer (some ⟨p, 0, none⟩), .int .i64 n, .int .i64 most] w fun E w' => ∃ v rs, E = .returned v ∧ OwnR 32 w.heap.size w' v rs ∧ CopyR w.heap.size w' rs ∧ cvs rs = frl s.l n most ∧ ApC rs ∧ Below w.heap.size w w' := by
  obtain ⟨F1, G1, h1, ⟨vc, ve, rs, hv, rfl⟩, rfl⟩ := h
  have HM := hide (made2_any p q w #[] _ _ _ hv.blk)
  have c2 : w.cell? ⟨p, 2, none⟩ = some vc := blk_cell hv.blk 2 rfl
  have HE := hide (lend_any p 2 w vc rs c2 hv.log.r.row.row)
  have hlen := hv.log.len
  rw [hlen] at HE
  have hgl := good_len hv.log.good
  have HNO : Hid (∀ W m, W = w.drewN m → n < 1 ∨ (s.l.length : Int) < n ∨ most < 1 → OwnR 32 w.heap.size W (.slice none 0 0) [] ∧ CopyR w.heap.size W [] ∧ cvs [] = frl s.l n most ∧ ApC [] ∧ Below w.heap.size w W) := hide fun W m hW hc => by
    subst hW
    exact ⟨OwnR.nil _ _ _, fun c hc => by simp at hc, by unfold frl; rw [if_pos hc]; rfl, fun i j c d _ hc => by simp at hc, below_drewN (Below.refl _ _) m⟩
  by_cases a1 : n < 1
  · clear hv h1 HE
    have NO := hide (HNO.out w 0 rfl (.inl a1))
    clear HNO
    go_enter Try.func24, Try.ntmps24
    go_wp2_with fail
    refine HM.out.mono ?_
    rintro E w1 ⟨rfl, rfl⟩
    go_wp2
    go_ret
    exact ⟨_, [], rfl, NO.out⟩
  · by_cases a2 : (s.l.length : Int) < n
    · clear hv h1
      have NO := hide (HNO.out w 0 rfl (.inr (.inl a2)))
      clear HNO
      go_enter Try.func24, Try.ntmps24
      go_wp2_with fail
      refine HM.out.mono ?_
      rintro E w1 ⟨rfl, rfl⟩
      go_wp2_with fail
      refine HE.out.mono ?_
      rintro E w1 ⟨rfl, rfl⟩
      go_wp2
      go_ret
      exact ⟨_, [], rfl, NO.out⟩
    · by_cases a3 : most < 1
      · clear hv h1
        have NO := hide (HNO.out w 0 rfl (.inr (.inr a3)))
        clear HNO
        go_enter Try.func24, Try.ntmps24
        go_wp2_with fail
        refine HM.out.mono ?_
        rintro E w1 ⟨rfl, rfl⟩
        go_wp2_with fail
        refine HE.out.mono ?_
        rintro E w1 ⟨rfl, rfl⟩
        go_wp2
        go_ret
        exact ⟨_, [], rfl, NO.out⟩
      · obtain ⟨j, rfl⟩ : ∃ j : Nat, n = (j : Int) + 1 := ⟨(n - 1).toNat, by omega⟩
        obtain ⟨mm, rfl⟩ : ∃ mm : Nat, most = mm := ⟨most.toNat, by omega⟩
        have hj : j < rs.length := by omega
        have hfr : frl s.l ((j : Int) + 1) mm = (s.l.drop j).take mm := by
          unfold frl
          rw [if_neg (by omega)]
          congr 2
        obtain ⟨b0, off, cap0, hvc, hcap, hcm, _, _⟩ := hv.log.r.row.row.full (by omega)
        obtain ⟨v1, hs1, row1⟩ := hv.log.r.row.row.slice_l Try.elemC Try.sizeC j hj
        have hv1 : v1 = .slice (some ⟨b0, off + j * 3, none⟩) (rs.length - j) (cap0 - j) := by
          have := hs1 w
          rw [hvc, run_slice_l w 34 _ rs.length cap0 Try.elemC .i64 _ (by omega) (by omega), Try.sizeC] at this
          have hne : ¬ cap0 = j := by omega
          simp [Result.andThen, sliced, hne, add_at] at this
          exact this.symm
        obtain ⟨m, hm⟩ : ∃ m, m = min mm (rs.length - j) := ⟨_, rfl⟩
        have hm1 : 1 ≤ m := by omega
        have hmle : m ≤ (rs.drop j).length := by rw [List.length_drop]; omega
        obtain ⟨v2, hs2, row2⟩ := row1.slice_h Try.elemC Try.sizeC m hmle
        have hv2 : v2 = .slice (some ⟨b0, off + j * 3, none⟩) m (cap0 - j) := by
          have := hs2 w
          rw [hv1, run_slice_h w 34 _ (rs.length - j) (cap0 - j) Try.elemC .i64 _ (by omega) (by rw [List.length_drop] at hmle; omega), Try.sizeC] at this
          simp [Result.andThen, sliced, Addr.add] at this
          exact this.symm
        obtain ⟨rest, hrest⟩ : ∃ rest, rest = (rs.drop j).take m := ⟨_, rfl⟩
        have hrl : rest.length = m := by rw [hrest, List.length_take]; omega
        have hcv : cvs rest = (s.l.drop j).take mm := by
          rw [hrest, cvs, List.map_take, List.map_drop, ← cvs, hv.log.is, hm]
          rw [hlen]
          apply List.ext_getElem?
          intro i
          rw [List.getElem?_take, List.getElem?_take]
          by_cases hi : i < min mm (s.l.length - j)
          · rw [if_pos hi, if_pos (by omega)]
          · rw [if_neg hi]
            by_cases hi2 : i < mm
            · rw [if_pos hi2, List.getElem?_drop, List.getElem?_eq_none (by omega)]
            · rw [if_neg hi2]
        have hin : ∀ c ∈ rest, c ∈ rs := fun c hc => List.mem_of_mem_drop (List.mem_of_mem_take (hrest ▸ hc))
        have HOPS : Hid (∀ W, Below w.heap.size w W → ∀ c ∈ rest, IsO W c.v c.l ∧ c.l.length * 40 ≤ 140737488351232) := hide fun W hb c hc => ⟨((hv.log.r.cop c (hin c hc)).is).below hb, by have := ((fit_good hv.log.good hv.log.is).2 c (hin c hc)).2.2; omega⟩
        have HCL : Hid (Calls Try.prog 64 #[v2] w fun e w' => ∃ g cap, e = .returned (.slice (some ⟨g, 0, none⟩) m cap) ∧ m ≤ cap ∧ Fst w w' g m cap rest 0 rest) := hide (by
          refine (cloneC_any v2 rest w (by rw [hrest]; exact row2) (fun c hc => (hv.log.r.cop c (hin c hc)).is.one) (by rw [hrl]; omega)).mono ?_
          rintro E w' ⟨v, rfl, own, bel⟩
          rcases own.2 with ⟨_, h0⟩ | ⟨g, cap, cur, hvv, _, _, hc, _⟩
          · omega
          · refine ⟨g, cap, by rw [hvv, hrl], by omega, by rw [← hrl, ← hvv]; exact own, hrl, rfl, fun c hc => by simp at hc, rfl, fun i j c d _ hc => by simp at hc, bel⟩)
        have hwr : IntKind.i64.wrap (((j : Int) + 1) - 1) = (j : Int) := by rw [wrap_i64_small _ (by omega) (by omega)]; omega
        have hne0 : ¬ cap0 = j := by omega
        rw [hv2] at HCL
        rw [hvc] at c2
        rw [hlen] at c2 hm hcap
        have FIN : Hid (∀ W g cap rk, Fst w W g m cap rest m rk → OwnR 32 w.heap.size W (.slice (some ⟨g, 0, none⟩) m cap) rk ∧ CopyR w.heap.size W rk ∧ cvs rk = frl s.l ((j : Int) + 1) mm ∧ ApC rk ∧ Below w.heap.size w W) := hide fun W g cap rk hF => by
          have ht : rk.take m = rk := List.take_of_length_le (by rw [hF.len]; omega)
          have h1 := hF.cop
          have h2 := hF.ap
          rw [ht] at h1 h2
          exact ⟨hF.row, h1, by rw [hF.is, hcv, hfr], h2, hF.bel⟩
        have HRL := hide hrl
        have hj' : j < s.l.length := by omega
        have hm3 : m ≤ 1048576 := by omega
        clear hv h1 HNO row1 row2 hv1 hv2 hs1 hs2 hrest hcv hfr hrl hin hmle hvc hj hcm
        clear hlen
        have HCL2 : Hid (∀ z : Nat, z = m → Calls Try.prog 64 #[.slice (some ⟨b0, off + j * 3, none⟩) z (cap0 - j)] w fun e w' => ∃ g cap, e = .returned (.slice (some ⟨g, 0, none⟩) m cap) ∧ m ≤ cap ∧ Fst w w' g m cap rest 0 rest) := hide fun z hz => by rw [hz]; exact HCL.out
        have HMM := hide hm
        clear HCL hm
        go_enter Try.func24, Try.ntmps24
        go_wp2_with fail
        refine HM.out.mono ?_
        rintro E w1 ⟨rfl, rfl⟩
        go_wp2_with fail
        refine HE.out.mono ?_
        rintro E w1 ⟨rfl, rfl⟩
        go_wp2_with fail
        all_goals
          refine (HCL2.out _ (by rw [HMM.out]; omega)).mono ?_
          rintro E w1 ⟨g, cap, rfl, hcp, F0⟩
          have F0 := hide F0
          clear HCL2 HM HE
          go_wp2
          go_loopw [47] (fun iv wr => ∃ (k : Nat) (rk : List Cw), k ≤ m ∧ iv = .int .i64 k ∧ Hid (Fst w wr g m cap rest k rk)) (fun iv _ => m - (intOf iv).toNat)
          case atStart => exact ⟨0, rest, by omega, rfl, F0⟩
          case round =>
            obtain ⟨k, rk, hk, rfl, FSX⟩ := hrel
            by_cases hlt : k < m
            · obtain ⟨c, hc⟩ : ∃ c, rest[k]? = some c := ⟨rest[k]'(by rw [HRL.out]; omega), by rw [List.getElem?_eq_getElem]⟩
              have hcm := List.mem_of_getElem? hc
              have hrk : rk[k]? = some c := by
                have e1 : (rk.drop k)[0]? = (rest.drop k)[0]? := by rw [FSX.out.left]
                rw [List.getElem?_drop, List.getElem?_drop] at e1
                simpa using e1.trans (by simpa using hc)
              obtain ⟨⟨d0, d1, d2⟩, _⟩ := own_atC FSX.out.row FSX.out.len k c hrk
              obtain ⟨wa, hwa, hwa2, sza, bela, bA, x0, x1, x2⟩ := new_step wr 32 (.int .i64 0) (.int .i64 0) (.slice none 0 0) (.int .i64 c.e) (.int .i64 c.n) c.v
              obtain ⟨hio, hlo⟩ := HOPS.out wr FSX.out.bel c hcm
              have CP : Hid (Calls Try.prog 47 #[.agg #[.int .i64 c.e, .int .i64 c.n, c.v]] wa fun E w2 => ∃ v2, E = .returned (.agg #[.int .i64 c.e, .int .i64 c.n, v2]) ∧ (∃ a n z, v2 = .slice a n z) ∧ (∃ W, ((w2.setCell ⟨g, k * 3, none⟩ (.int .i64 c.e)).setCell ⟨g, k * 3 + 1, none⟩ (.int .i64 c.n)).setCell ⟨g, k * 3 + 2, none⟩ v2 = W ∧ ∃ rk', Fst w W g m cap rest (k + 1) rk') ∧ (w2.cell? ⟨g, k * 3, none⟩ = some (.int .i64 c.e) ∧ w2.cell? ⟨g, k * 3 + 1, none⟩ = some (.int .i64 c.n) ∧ w2.cell? ⟨g, k * 3 + 2, none⟩ = some c.v) ∧ (w2.frozen? ⟨g, k * 3, none⟩ = false ∧ w2.frozen? ⟨g, k * 3 + 1, none⟩ = false ∧ w2.frozen? ⟨g, k * 3 + 2, none⟩ = false)) := hide (by
                refine (ccopy_any c.e c.n c.v c.l wa (hio.below bela) hlo).mono ?_
                rintro E w2 ⟨v2, rfl, own2, bel2⟩
                have b2 : Below wr.heap.size wr w2 := bela.trans (bel2.mono bela.size)
                have hrow2 : OwnR 32 w.heap.size w2 (.slice (some ⟨g, 0, none⟩) m cap) rk := FSX.out.row.below b2
                obtain ⟨W, hW, oW, gW⟩ := own_putC hrow2 FSX.out.len k hlt ⟨c.e, c.n, v2, c.l⟩
                obtain ⟨y, z⟩ := own_atC hrow2 FSX.out.len k c hrk
                exact ⟨v2, rfl, (by obtain ⟨xa, xc, hx, _⟩ := own2.is.shape; exact ⟨_, _, _, hx⟩), ⟨W, hW, _, FSX.out.next hc hlt (own2.rebase bela.size) b2 oW gW⟩, y, z⟩)
              obtain ⟨ca, cc, hcv, _, _⟩ := hio.shape
              rw [hcv] at d2 hwa hwa2 x2 CP
              have hlt' : (k : Int) < m := by omega
              clear FSX hio hlo hrk bela bA hc hcm
              go_wp2_with fail
              refine CP.out.mono ?_
              rintro E w2 ⟨v2, rfl, ⟨a2, n2, z2, rfl⟩, ⟨W, hW, rk2, F2⟩, ⟨y0, y1, y2⟩, ⟨f0, f1, f2⟩⟩
              have F2 := hide F2
              clear CP
              go_wp2
              go_roundw
              case rel => exact ⟨k + 1, rk2, by omega, by go_num, F2⟩
              case measure => simp [intOf]; omega
            · obtain rfl : k = m := by omega
              have hlt' : ¬ (k : Int) < k := by omega
              have G := hide (FIN.out _ g cap rk FSX.out)
              clear FSX
              go_wp2
              go_ret
              first
              | exact ⟨_, rk, rfl, G.out⟩
              | exact ⟨_, rfl, rk, G.out⟩

end Go.Proofs.Ytimmohpnlieefaa
