/- Texts of one layer, one behind the other. -/
import Derived.Test.YtkpnkknolobioaaGreatG15
import Derived.Deep.RegionWith
import Derived.Test.YtkpnkknolobioaaGreatG8
import Derived.Test.YtkpnkknolobioaaGreatG10
import Derived.Test.YtkpnkknolobioaaGreatG1
import Derived.Test.YtkpnkknolobioaaGreatG2
/- The program's copied and Scan (layer 19). -/
namespace Go.Proofs.YtkpnkknolobioaaGreat
open Go.RowKit
set_option linter.unusedVariables false

/-- A block that is written over. -/
theorem keepT_blk {w w' : World} {R : Nat} {cs : Array Value} {t : TypeId} {fr : Nat × Nat} (hR : w.heap[R]? = some (.cells cs t fr)) (hg : w.grownBy w' (some R)) : KeepT t w w' := by
  intro g cs' t' fr' hc ht
  refine (hg.block g (blk_lt hc) fun e1 => ?_).trans hc
  have e2 := Option.some.inj e1
  subst e2
  rw [hR] at hc
  simp at hc
  exact ht hc.2.1.symm

/-- In the midst of the copies: the section in its block, the result's block. -/
structure Cpd (w wr : World) (e f : Int) (g m cap : Nat) (rest : List Cw) (k : Nat) (rk : List Cw) : Prop where
  fs : Fst w wr g m cap rest k rk
  sb : wr.heap[w.heap.size]? = some (.cells #[.int .i64 e, .int .i64 f, .slice (some ⟨g, 0, none⟩) m cap] 25 (0, 0))
  rb : wr.heap[w.heap.size + 1]? = some (.cells #[.int .i64 0, .int .i64 0, .slice none 0 0] 25 (0, 0))
  gt : w.heap.size + 1 < g

set_option maxRecDepth 20000 in
set_option maxHeartbeats 4000000 in
theorem pocopy_any (e f : Int) (v : Value) (rs : List Cw) (w : World) (h : IsC w v rs) (hf : FitC rs) (h0 : 0 < rs.length) (hl : rs.length ≤ 1048576) :
    Calls Tryz.prog 60 #[.agg #[.int .i64 e, .int .i64 f, v]] w fun E w' => ∃ v' cs, E = .returned (.agg #[.int .i64 e, .int .i64 f, v']) ∧ Hid (ShS w.heap.size w' v' cs ∧ cvs cs = cvs rs ∧ Below w.heap.size w w') ∧ ∃ a n k, v' = .slice a n k := by
  obtain ⟨w1, hw1, sz1, bel1, hB⟩ := blk_step w #[.int .i64 e, .int .i64 f, v] 25
  obtain ⟨w2, hw2, sz2, bel2, hR⟩ := blk_step w1 #[.int .i64 0, .int .i64 0, .slice none 0 0] 25
  rw [sz1] at hR
  have hB2 := (bel2.block w.heap.size (by omega)).trans hB
  have bel02 : Below w.heap.size w w2 := bel1.trans (bel2.mono (by omega))
  obtain ⟨m, hm⟩ : ∃ m, rs.length = m := ⟨_, rfl⟩
  have h2 := h.below bel02
  have HCL : Hid (Calls Tryz.prog 81 #[v] w2 fun E w3 => ∃ g cap, E = .returned (.slice (some ⟨g, 0, none⟩) m cap) ∧ (∃ X, w3.setCell ⟨w.heap.size, 2, none⟩ (.slice (some ⟨g, 0, none⟩) m cap) = X ∧ Hid (Cpd w X e f g m cap rs 0 rs)) ∧ m ≤ cap ∧ w3.cell? ⟨w.heap.size, 2, none⟩ = some v ∧ w3.frozen? ⟨w.heap.size, 2, none⟩ = false) := hide (by
    refine (cloneC_any v rs w2 h2.1 (fun c hc => (h2.2 c hc).1.one) hl).mono ?_
    rintro E w3 ⟨v3, rfl, own, bel⟩
    have hB3 := (bel.block w.heap.size (by omega)).trans hB2
    have hR3 := (bel.block (w.heap.size + 1) (by omega)).trans hR
    rcases own.2 with ⟨_, hz⟩ | ⟨g, cap, cur, hvv, hgb, _, hc, _⟩
    · omega
    · rw [hm] at hvv
      obtain ⟨X, hX, bX, gX, q2, q3⟩ := put_one hB3 (.slice (some ⟨g, 0, none⟩) m cap)
      have hg : w2.heap.size ≤ g := (World.ownsRow.lt own g (by rw [hvv]; rfl)).1
      have oX : OwnR 59 w.heap.size X v3 rs := row_agree (row_rebase own (by omega)) fun i hi => by
        have h1 := World.ownsRow.lt own i hi
        exact gX.block i h1.2 (by simp; omega)
      rw [hvv] at oX
      refine ⟨g, cap, by rw [hvv], ⟨X, hX, hide ⟨⟨oX, hm, rfl, fun c hc => by simp at hc, rfl, fun i j c d _ hc => by simp at hc, below_put (bel02.trans (bel.mono bel02.size)) gX (Nat.le_refl _) (by have := bel.size; omega)⟩, bX, (gX.block _ (blk_lt hR3) (by simp)).trans hR3, by omega⟩⟩, by omega, q2, q3⟩)
  have HOPS : Hid (∀ W, Below w.heap.size w W → ∀ c ∈ rs, IsO W c.v c.l ∧ c.l.length * 40 ≤ 140737488351232) := hide fun W hb c hc => ⟨((h.2 c hc).1).below hb, (hf c hc).2⟩
  have FIN : Hid (∀ W g cap rk, Fst w W g m cap rs m rk → ShS w.heap.size W (.slice (some ⟨g, 0, none⟩) m cap) rk ∧ cvs rk = cvs rs) := hide fun W g cap rk hF => by
    have ht : rk.take m = rk := List.take_of_length_le (by rw [hF.len]; omega)
    have h1 := hF.cop
    have h2 := hF.ap
    rw [ht] at h1 h2
    have q : ∀ c ∈ rk, ∃ d ∈ rs, c.c = d.c := fun c hc => by
      have : c.c ∈ cvs rk := by unfold cvs; exact List.mem_map.2 ⟨c, hc, rfl⟩
      rw [hF.is] at this
      unfold cvs at this
      obtain ⟨d, hd, e⟩ := List.mem_map.1 this
      exact ⟨d, hd, e.symm⟩
    refine ⟨⟨hF.row, h1, fun c hc => ?_, h2, fun c hc => ?_⟩, hF.is⟩
    · obtain ⟨d, hd, e⟩ := q c hc
      have e1 : c.e = d.e := congrArg Cm.Cv.e e
      have e2 : c.n = d.n := congrArg Cm.Cv.n e
      rw [e1, e2]
      exact (h.2 d hd).2
    · obtain ⟨d, hd, e⟩ := q c hc
      have e3 : c.l = d.l := congrArg Cm.Cv.l e
      have := hf d hd
      rw [← e3] at this
      exact this
  have HRL := hide hm
  have c2 := blk_cell hB2 2 rfl
  simp only [List.getElem_toArray, List.getElem_cons_zero, List.getElem_cons_succ] at c2
  obtain ⟨ao, ca, hv, _, _⟩ := h.1.shape
  rw [hm] at hv
  rw [hv] at hw1 HCL c2
  subst hv
  have hm0 : 0 < m := by omega
  have hm1 : m ≤ 1048576 := by omega
  clear h hf h2 hB hB2 hR bel1 bel2 bel02 h0 hl hm
  go_enter Tryz.func60, Tryz.ntmps60
  go_wp2_with fail
  refine HCL.out.mono ?_
  rintro E w3 ⟨g, cap, rfl, ⟨X, hX, C0⟩, hcp, q2, q3⟩
  have x2 : X.cell? ⟨w.heap.size, 2, none⟩ = some (.slice (some ⟨g, 0, none⟩) m cap) := blk_cell C0.out.sb 2 rfl
  clear HCL
  go_wp2
  go_loopw [12] (fun iv wr => ∃ (k : Nat) (rk : List Cw), k ≤ m ∧ iv = .int .i64 k ∧ Hid (Cpd w wr e f g m cap rs k rk)) (fun iv _ => m - (intOf iv).toNat)
  case atStart => exact ⟨0, rs, by omega, rfl, C0⟩
  case round =>
    clear C0 x2 q2 q3
    obtain ⟨k, rk, hk, rfl, FSX⟩ := hrel
    by_cases hlt : k < m
    · obtain ⟨c, hc⟩ : ∃ c, rs[k]? = some c := ⟨rs[k]'(by rw [HRL.out]; omega), by rw [List.getElem?_eq_getElem]⟩
      have hcm := List.mem_of_getElem? hc
      have hrk : rk[k]? = some c := by
        have e1 : (rk.drop k)[0]? = (rs.drop k)[0]? := by rw [FSX.out.fs.left]
        rw [List.getElem?_drop, List.getElem?_drop] at e1
        simpa using e1.trans (by simpa using hc)
      obtain ⟨⟨d0, d1, d2⟩, _⟩ := own_atC FSX.out.fs.row FSX.out.fs.len k c hrk
      obtain ⟨wa, hwa, hwa2, sza, bela, bA, x0, x1, x2⟩ := new_step wr 59 (.int .i64 0) (.int .i64 0) (.slice none 0 0) (.int .i64 c.e) (.int .i64 c.n) c.v
      obtain ⟨hio, hlo⟩ := HOPS.out wr FSX.out.fs.bel c hcm
      have s2 : wa.cell? ⟨w.heap.size, 2, none⟩ = some (.slice (some ⟨g, 0, none⟩) m cap) := blk_cell ((bela.block _ (blk_lt FSX.out.sb)).trans FSX.out.sb) 2 rfl
      have CP : Hid (Calls Tryz.prog 82 #[.agg #[.int .i64 c.e, .int .i64 c.n, c.v]] wa.drew fun E w2 => ∃ v2, E = .returned (.agg #[.int .i64 c.e, .int .i64 c.n, v2]) ∧ (∃ a n z, v2 = .slice a n z) ∧ (∃ W, ((w2.setCell ⟨g, k * 3, none⟩ (.int .i64 c.e)).setCell ⟨g, k * 3 + 1, none⟩ (.int .i64 c.n)).setCell ⟨g, k * 3 + 2, none⟩ v2 = W ∧ Hid (∃ rk', Cpd w W e f g m cap rs (k + 1) rk')) ∧ (w2.cell? ⟨g, k * 3, none⟩ = some (.int .i64 c.e) ∧ w2.cell? ⟨g, k * 3 + 1, none⟩ = some (.int .i64 c.n) ∧ w2.cell? ⟨g, k * 3 + 2, none⟩ = some c.v) ∧ (w2.frozen? ⟨g, k * 3, none⟩ = false ∧ w2.frozen? ⟨g, k * 3 + 1, none⟩ = false ∧ w2.frozen? ⟨g, k * 3 + 2, none⟩ = false) ∧ w2.cell? ⟨w.heap.size, 2, none⟩ = some (.slice (some ⟨g, 0, none⟩) m cap)) := hide (by
        have beld : Below wr.heap.size wr wa.drew := bela.drew
        refine (ccopy_any c.e c.n c.v c.l wa.drew (hio.below beld) hlo).mono ?_
        rintro E w2 ⟨v2, rfl, own2, bel2⟩
        have b2 : Below wr.heap.size wr w2 := beld.trans (bel2.mono beld.size)
        have hrow2 : OwnR 59 w.heap.size w2 (.slice (some ⟨g, 0, none⟩) m cap) rk := FSX.out.fs.row.below b2
        obtain ⟨W, hW, oW, gW⟩ := own_putC hrow2 FSX.out.fs.len k hlt ⟨c.e, c.n, v2, c.l⟩
        obtain ⟨y, z⟩ := own_atC hrow2 FSX.out.fs.len k c hrk
        have sb2 := (b2.block _ (blk_lt FSX.out.sb)).trans FSX.out.sb
        have rb2 := (b2.block _ (blk_lt FSX.out.rb)).trans FSX.out.rb
        have hgt := FSX.out.gt
        refine ⟨v2, rfl, (by obtain ⟨xa, xc, hx, _⟩ := own2.is.shape; exact ⟨_, _, _, hx⟩), ⟨W, hW, hide ⟨_, FSX.out.fs.next hc hlt (own2.rebase beld.size) b2 oW gW, (gW.block _ (blk_lt sb2) (by simp; omega)).trans sb2, (gW.block _ (blk_lt rb2) (by simp; omega)).trans rb2, hgt⟩⟩, y, z, blk_cell sb2 2 rfl⟩)
      obtain ⟨cA, cc, hcv, _, _⟩ := hio.shape
      rw [hcv] at d2 hwa hwa2 x2 CP
      have hlt' : (k : Int) < m := by omega
      clear FSX hio hlo hrk bela bA hc hcm
      go_wp2_with fail
      go_region_with (go_at_call 82; refine CP.out.mono ?_; rintro E w2 ⟨v2, rfl, ⟨a2, n2, z2, rfl⟩, ⟨W, hW, F2⟩, ⟨y0, y1, y2⟩, ⟨f0, f1, f2⟩, t2⟩)
      all_goals
        clear CP
        go_wp2
        go_roundw
        case rel =>
          obtain ⟨rk2, G2⟩ := F2.out
          exact ⟨k + 1, rk2, by omega, by go_num, hide G2⟩
        case measure => simp [intOf]; omega
    · obtain rfl : k = m := by omega
      have hlt' : ¬ (k : Int) < k := by omega
      obtain ⟨t0, t1, t2⟩ : wr.cell? ⟨w.heap.size, 0, none⟩ = some (.int .i64 e) ∧ wr.cell? ⟨w.heap.size, 1, none⟩ = some (.int .i64 f) ∧ wr.cell? ⟨w.heap.size, 2, none⟩ = some (.slice (some ⟨g, 0, none⟩) k cap) := ⟨blk_cell FSX.out.sb 0 rfl, blk_cell FSX.out.sb 1 rfl, blk_cell FSX.out.sb 2 rfl⟩
      obtain ⟨Z, hZ, bZ, gZ, ⟨a0, a1, a2⟩, ⟨f0, f1, f2⟩, z0, z1, z2⟩ := res_step FSX.out.rb (.int .i64 e) (.int .i64 f) (.slice (some ⟨g, 0, none⟩) k cap)
      have G : Hid (ShS w.heap.size Z (.slice (some ⟨g, 0, none⟩) k cap) rk ∧ cvs rk = cvs rs ∧ Below w.heap.size w Z) := hide (by
        obtain ⟨s1, s2⟩ := FIN.out _ g cap rk FSX.out.fs
        have kp : KeepT 25 wr Z := keepT_blk FSX.out.rb gZ
        exact ⟨s1.keepT kp (by decide) (by decide), s2, below_put FSX.out.fs.bel gZ (by omega) FSX.out.fs.bel.size⟩)
      clear FSX bZ gZ
      go_wp2
      refine bodyPost_ret (v := .agg #[.int .i64 e, .int .i64 f, .slice (some ⟨g, 0, none⟩) k cap]) (by simp [results, Tryz.results60, go_sem, z0, z1, z2]) rfl ?_
      exact ⟨_, rfl, ⟨rk, G⟩, _, _, _, rfl⟩

set_option maxRecDepth 20000 in
set_option maxHeartbeats 8000000 in
theorem poscan_any (vb : Value) (bs : List Int) (w : World) (hb : Is .u8 w vb bs) (hl : bs.length ≤ 1000000000) : Calls Tryz.prog 31 #[vb] w (ScO w bs) := by
  have HB := hide hb
  obtain ⟨ao, cap, hvb, _, _⟩ := hb.shape
  rw [hvb] at HB
  subst hvb
  clear hb
  go_enter Tryz.func31, Tryz.ntmps31
  go_wp2
  go_loopw [4, 5, 6] (fun ov ev av wr => ∃ (a : Nat) (ep : Int) (oa : Option Addr) (ok : Nat) (l : List Sw), a ≤ bs.length ∧ av = .int .i64 a ∧ ev = .int .i64 ep ∧ ov = .slice oa l.length ok ∧ Hid (MiS w wr bs a (.slice oa l.length ok) l ∧ Orp.lstS 0 (sws l) = ep)) (fun _ _ av _ => bs.length - (intOf av).toNat)
  case atStart => exact ⟨0, 0, none, 0, [], by omega, rfl, rfl, rfl, hide ⟨⟨OwnSe.nil _ _, fun x hx => by simp at hx, trivial, by simp [sws, Orp.secs], by simp [sws, Orp.secs], Below.refl _ _⟩, rfl⟩⟩
  case round =>
    obtain ⟨a, ep, oa, ok, l, hle, rfl, rfl, rfl, M⟩ := hrel
    obtain ⟨vs, hsl, isl⟩ := (HB.out.below M.out.1.bel).slice_l Tryz.elemB Tryz.sizeE a hle
    have FR := hide (poread_any vs (bs.drop a) wr isl (by rw [List.length_drop]; omega))
    clear isl
    go_wp2_with fail
    refine FR.out.mono ?_
    rintro E w9 ⟨x, n, g, rfl, H9⟩
    obtain ⟨xa, xk, hxv, _, _⟩ := H9.out.1.c.row.shape
    have bel9 := H9.out.2.2.2.2
    obtain ⟨wb, hwb, hwb', szb, belb, bb, k0, k1, k2⟩ := new_step w9 25 (.int .i64 0) (.int .i64 0) (.slice none 0 0) (.int .i64 x.e) (.int .i64 x.f) x.v
    have belrb : Below wr.heap.size wr wb := bel9.trans (belb.mono bel9.size)
    have HXV := hide hxv
    have BRB := hide belrb
    have BWB : Hid (Below w.heap.size w wb) := hide (M.out.1.bel.trans (belrb.mono M.out.1.bel.size))
    have SX := hide (H9.out.1.below belb)
    have OWNB := hide (M.out.1.own.below belrb)
    have BLK := hide bb
    rw [hxv] at hwb hwb' k2 ⊢
    clear FR hsl bb belb bel9 belrb
    cases g with
    | false =>
      have FIN : Hid (Orp.Sn 0 bs (sws l)) := hide (M.out.1.no (by
        rcases H9.out.2.2.2.1 with ⟨h1, _⟩ | ⟨_, h⟩
        · simp at h1
        · exact h))
      have HAT := hide M.out.1.at'
      have HFT := hide M.out.1.fit
      clear M H9 SX BRB BLK
      go_wp2
      go_ret2
      exact ⟨_, l, a, rfl, hide ⟨OWNB.out, HFT.out, HAT.out, FIN.out, BWB.out⟩⟩
    | true =>
      by_cases hle2 : x.e ≤ ep
      · have FIN : Hid (Orp.Sn 0 bs (sws l)) := hide (M.out.1.low H9.out.2.2.2.1 (by rw [M.out.2]; exact hle2))
        have HAT := hide M.out.1.at'
        have HFT := hide M.out.1.fit
        clear M H9 SX BRB BLK
        go_wp2
        go_ret2
        exact ⟨_, l, a, rfl, hide ⟨OWNB.out, HFT.out, HAT.out, FIN.out, BWB.out⟩⟩
      · have HCZ : Hid (Orp.chk x.s = 0 ∧ 1 ≤ n ∧ a + n ≤ bs.length) := hide (by
          rcases H9.out.2.2.2.1 with ⟨_, h1, h2, h3⟩ | ⟨h1, _⟩
          · have h4 := Orp.sec_pos x.s
            have h5 := h2.length_le
            rw [List.length_drop] at h5
            exact ⟨h1, by omega, by omega⟩
          · simp at h1)
        have HLN : Hid (1 ≤ x.rs.length ∧ x.rs.length ≤ 1048576) := hide (by
          obtain ⟨_, _, _, _, h5, h6, _⟩ := Orp.chk_zero HCZ.out.1
          rw [show x.s.cs = cvs x.rs from rfl, cvs_many] at h5 h6
          exact ⟨h5, h6⟩)
        have CP := hide (pocopy_any x.e x.f x.v x.rs wb SX.out.isC SX.out.f (by have := HLN.out; omega) HLN.out.2)
        rw [hxv] at CP
        obtain ⟨_, hn1, hn2⟩ := HCZ.out
        have LST : Hid (∀ cs v, Orp.lstS 0 (sws (l ++ [⟨x.e, x.f, v, cs⟩])) = x.e) := hide fun cs v => by
          rw [sws_snoc, Orp.lst_snoc]
          rfl
        clear hxv
        go_wp2_with fail
        refine CP.out.mono ?_
        rintro E wc ⟨vc, cs, rfl, HC, ca, cn, ck, hvc⟩
        have belc : Below wr.heap.size wr wc := BRB.out.trans (HC.out.2.2.mono BRB.out.size)
        obtain ⟨V, hV, belV, szV, hpu⟩ := M.out.1.own.pushG M.out.1.bel.size belc ⟨x.e, x.f, vc, cs⟩ (HC.out.1.rebase (b' := wr.heap.size) BRB.out.size) ⟨H9.out.2.1, H9.out.2.2.1⟩ (by have := M.out.1.len; omega)
        have hBW : (wc.heap[w9.heap.size]?) = some (.cells #[.int .i64 x.e, .int .i64 x.f, x.v] 25 (0, 0)) := (HC.out.2.2.block _ (blk_lt BLK.out)).trans BLK.out
        have XX : Hid (∀ ty, ∃ v2 w2, (Builtin.append_ #[53, 53] ty #[.slice oa l.length ok, .slice (some ⟨wc.heap.size, 0, none⟩) 1 1]).run Tryz.prog V = .ok v2 w2 ∧ (Hid (MiS w w2 bs (a + n) v2 (l ++ [⟨x.e, x.f, vc, cs⟩])) ∧ w2.cell? ⟨w9.heap.size, 0, none⟩ = some (.int .i64 x.e) ∧ ∃ a k, v2 = .slice a (l ++ [(⟨x.e, x.f, vc, cs⟩ : Sw)]).length k)) := hide fun ty => by
          obtain ⟨v2, w2, h1, h2, h3, h4⟩ := hpu ty
          have hs : (⟨x.e, x.f, vc, cs⟩ : Sw).s = x.s := by
            show (⟨x.e, x.f, cvs cs⟩ : Orp.Se) = ⟨x.e, x.f, cvs x.rs⟩
            rw [HC.out.2.1]
          have rd := H9.out.2.2.2.1
          rw [← hs] at rd
          obtain ⟨sa, sk, hsv, _, _⟩ := h2.is.shape
          refine ⟨v2, w2, h1, hide (M.out.1.next (x := ⟨x.e, x.f, vc, cs⟩) rd (by rw [M.out.2]; show ep < x.e; omega) HC.out.1.f h2 ((M.out.1.bel.trans (belc.mono M.out.1.bel.size)).trans h3.1)).1, ?_, sa, sk, hsv⟩
          have hVW := (belV.block _ (blk_lt hBW)).trans hBW
          refine blk_cell ((h3.2.block _ (blk_lt hVW) fun e => ?_).trans hVW) 0 rfl
          have q1 := (World.ownsRow.lt M.out.1.own.r _ e.symm).2
          have q2 := H9.out.2.2.2.2.size
          omega
        subst hvc
        clear CP M H9 SX BRB BWB OWNB BLK HXV szb HC belc hpu belV szV hBW HCZ HLN
        go_wp2_with (at_builtin; refine wpList_append_at rfl (.tmp 28) (.tmp 31) 53 rfl (.slice oa l.length ok) (.slice (some ⟨wc.heap.size, 0, none⟩) 1 1) rfl rfl XX.out ?_)
        rintro v8 w8 MU t0 sa sk rfl
        have LS := hide (LST.out cs (.slice ca cn ck))
        clear XX LST
        go_wp2
        go_roundw
        case rel => exact ⟨a + n, x.e, sa, sk, l ++ [⟨x.e, x.f, .slice ca cn ck, cs⟩], by omega, by go_num, rfl, by rw [List.length_append]; rfl, hide ⟨by rw [List.length_append]; exact MU.out, LS.out⟩⟩
        case measure => simp [intOf]; omega

end Go.Proofs.YtkpnkknolobioaaGreat

/- The document's Scan (layer 19). -/
namespace Go.Proofs.YtkpnkknolobioaaGreat
open Go.RowKit
set_option linter.unusedVariables false

end Go.Proofs.YtkpnkknolobioaaGreat

/- The document's Has (layer 19). -/
namespace Go.Proofs.YtkpnkknolobioaaGreat
open Go.RowKit
set_option linter.unusedVariables false

def hasC (rs : List Cw) (e n : Int) : Bool := (cvs rs).any fun c => c.e == e && c.n == n

theorem hasC_next {rs : List Cw} {k : Nat} {c : Cw} (h : rs[k]? = some c) (e n : Int) : hasC (rs.take (k + 1)) e n = (hasC (rs.take k) e n || (c.e == e && c.n == n)) := by
  unfold hasC
  rw [cvs_step h, List.any_append]
  simp [Cw.c]

theorem has_next {l : List Sw} {k : Nat} {x : Sw} (h : l[k]? = some x) (e n : Int) : Orp.has (sws (l.take (k + 1))) e n = (Orp.has (sws (l.take k)) e n || hasC x.rs e n) := by
  obtain ⟨hk, q⟩ := List.getElem?_eq_some_iff.1 h
  rw [List.take_succ_eq_append_getElem hk, q, sws_snoc, Orp.has_app]
  simp [Orp.has, hasC, Sw.s]

theorem hasC_yes {rs : List Cw} {e n : Int} {k : Nat} (h : hasC (rs.take k) e n = true) : hasC rs e n = true := by
  have : cvs rs = cvs (rs.take k) ++ cvs (rs.drop k) := by unfold cvs; rw [← List.map_append, List.take_append_drop]
  unfold hasC at h ⊢
  rw [this, List.any_append, h]
  rfl

theorem has_yes {l : List Sw} {e n : Int} {k : Nat} (h : Orp.has (sws (l.take k)) e n = true) : Orp.has (sws l) e n = true := by
  have : sws l = sws (l.take k) ++ sws (l.drop k) := by unfold sws; rw [← List.map_append, List.take_append_drop]
  rw [this, Orp.has_app, h]
  rfl

end Go.Proofs.YtkpnkknolobioaaGreat

/- Bytes of an object, in blocks of its own. -/
namespace Go.Proofs.YtkpnkknolobioaaGreat
open Go.RowKit
set_option linter.unusedVariables false

/-- Bytes of an object: they lie in the blocks of F, in a block of bytes. -/
def Byt (F : Nat → Prop) (w : World) (v : Value) (zs : List Int) : Prop := Is .u8 w v zs ∧ ∀ b, v.ownBlock = some b → F b ∧ ∃ cs fr, w.heap[b]? = some (.cells cs 5 fr)

theorem Byt.nil (F : Nat → Prop) (w : World) : Byt F w (.slice none 0 0) [] := ⟨Is.nil _ _, fun b hb => by simp [Value.ownBlock] at hb⟩

theorem Byt.agree {F : Nat → Prop} {w w' : World} {v : Value} {zs : List Int} (h : Byt F w v zs) (ha : ∀ b, v.ownBlock = some b → w'.heap[b]? = w.heap[b]?) : Byt F w' v zs :=
  ⟨h.1.agree ha, fun b hb => ⟨(h.2 b hb).1, by obtain ⟨_, cs, fr, hc⟩ := h.2 b hb; exact ⟨cs, fr, (ha b hb).trans hc⟩⟩⟩

theorem Byt.mono {F G : Nat → Prop} {w : World} {v : Value} {zs : List Int} (h : Byt F w v zs) (hs : ∀ g, F g → G g) : Byt G w v zs := ⟨h.1, fun b hb => ⟨hs b (h.2 b hb).1, (h.2 b hb).2⟩⟩

theorem Byt.ne {F : Nat → Prop} {w : World} {v : Value} {zs : List Int} (h : Byt F w v zs) {p : Nat} {cs : Array Value} {t : TypeId} {fr : Nat × Nat} (hp : w.heap[p]? = some (.cells cs t fr)) (ht : t ≠ 5) : ∀ b, v.ownBlock = some b → b ≠ p := by
  intro b hb e
  obtain ⟨_, cs', fr', hc⟩ := h.2 b hb
  rw [e, hp] at hc
  simp at hc
  exact ht hc.2.1

theorem Byt.of_own {F : Nat → Prop} {base : Nat} {w : World} {v : Value} {zs : List Int} (h : Own .u8 5 base w v zs) (hF : ∀ b, base ≤ b → b < w.heap.size → F b) : Byt F w v zs := by
  refine ⟨h.is, fun b hb => ⟨hF b (h.block b hb).1 (h.block b hb).2, ?_⟩⟩
  rcases h.2.2 with ⟨rfl, _⟩ | ⟨g, cap, cur, rfl, _, hh, _⟩
  · simp [Value.ownBlock] at hb
  · simp [Value.ownBlock] at hb
    subst hb
    exact ⟨_, _, hh⟩

end Go.Proofs.YtkpnkknolobioaaGreat

/- The document's disk in memory, and the contracts of its small methods. -/
namespace Go.Proofs.YtkpnkknolobioaaGreat
open Go.RowKit
set_option linter.unusedVariables false

/-- A raw step as it stands in memory. -/
structure Rv where
  file : Nat
  cut : Bool
  to : Nat
  v : Value
  bytes : List Int

def Rv.r (r : Rv) : Dm.Rw := ⟨r.file, r.cut, r.to, r.bytes⟩
def rawc (r : Rv) : List Value := [.int .i64 r.file, .bool r.cut, .int .i64 r.to, r.v]
theorem rawc_len (r : Rv) : (rawc r).length = 4 := rfl

/-- A disk's ten cells. -/
def dcells (s : Nat → Value) (wv : Value) (on has : Bool) (left count : Int) : Array Value := #[.bool true, s 0, s 1, s 2, s 3, wv, .bool on, .bool has, .int .i64 left, .int .i64 count]

/-- A disk in memory: its block p, the slices of its files, its row of raw steps; all in the blocks of F. -/
structure DkV (p : Nat) (F : Nat → Prop) (w : World) (st : Dm.Ds) (s : Nat → Value) (wv : Value) (rs : List Rv) : Prop where
  blk : w.heap[p]? = some (.cells (dcells s wv st.on st.has st.left st.count) 62 (0, 0))
  inp : F p
  file : ∀ f, f < 4 → Byt F w (s f) (st.sure f)
  row : OwnG rawc 4 72 0 w wv rs
  inr : ∀ b, wv.ownBlock = some b → F b
  raw : ∀ r ∈ rs, Byt F w r.v r.bytes
  wait : rs.map Rv.r = st.wait
  lt : ∀ g, F g → g < w.heap.size
  ok : Dm.Ok st

def Dk (p : Nat) (F : Nat → Prop) (w : World) (st : Dm.Ds) : Prop := ∃ s wv rs, DkV p F w st s wv rs

section
variable {p : Nat} {F G : Nat → Prop} {w w' w1 w2 : World} {st st' : Dm.Ds} {s s' : Nat → Value} {wv wv' : Value} {rs rs' : List Rv}

theorem DkV.agree (h : DkV p F w st s wv rs) (ha : ∀ g, F g → w'.heap[g]? = w.heap[g]?) (hs : w.heap.size ≤ w'.heap.size) : DkV p F w' st s wv rs :=
  ⟨(ha p h.inp).trans h.blk, h.inp, fun f hf => (h.file f hf).agree fun b hb => ha b ((h.file f hf).2 b hb).1, h.row.agree fun b hb => ha b (h.inr b hb), h.inr, fun r hr => (h.raw r hr).agree fun b hb => ha b ((h.raw r hr).2 b hb).1, h.wait, fun g hg => Nat.lt_of_lt_of_le (h.lt g hg) hs, h.ok⟩

theorem Dk.lt (h : Dk p F w st) : ∀ g, F g → g < w.heap.size := by
  obtain ⟨s, wv, rs, h⟩ := h
  exact h.lt

theorem Dk.agree (h : Dk p F w st) (ha : ∀ g, F g → w'.heap[g]? = w.heap[g]?) (hs : w.heap.size ≤ w'.heap.size) : Dk p F w' st := by
  obtain ⟨s, wv, rs, h⟩ := h
  exact ⟨s, wv, rs, h.agree ha hs⟩

theorem Dk.below (h : Dk p F w st) (hb : Below w.heap.size w w') : Dk p F w' st := h.agree (fun g hg => hb.block g (h.lt g hg)) hb.size
theorem DkV.below (h : DkV p F w st s wv rs) (hb : Below w.heap.size w w') : DkV p F w' st s wv rs := h.agree (fun g hg => hb.block g (h.lt g hg)) hb.size

/-- A disk stays where another object's blocks alone were written. -/
theorem Dk.out (h : Dk p F w st) (ho : Out G w w') (hd : ∀ g, F g → ¬ G g) : Dk p F w' st := h.agree (fun g hg => ho.block g (h.lt g hg) (hd g hg)) ho.size

/-- What a call does to a disk: its new state; all else is as it was. -/
def DStep (p : Nat) (F : Nat → Prop) (w w' : World) (st' : Dm.Ds) : Prop := ∃ F', Dk p F' w' st' ∧ Out F w w' ∧ ∀ g, F' g → F g ∨ w.heap.size ≤ g

theorem DStep.trans {F1 : Nat → Prop} (ho : Out F w w1) (hs : ∀ g, F1 g → F g ∨ w.heap.size ≤ g) (k : DStep p F1 w1 w2 st') : DStep p F w w2 st' := by
  obtain ⟨F2, h1, h2, h3⟩ := k
  refine ⟨F2, h1, ho.trans h2 hs, fun g hg => ?_⟩
  rcases h3 g hg with h | h
  · exact hs g h
  · exact .inr (Nat.le_trans ho.size h)

theorem DStep.same (h : Dk p F w st) (hb : Below w.heap.size w w') : DStep p F w w' st := ⟨F, h.below hb, Out.of_below hb, fun g hg => .inl hg⟩
theorem DStep.mk' (h : Dk p F w' st') (ho : Out F w w') : DStep p F w w' st' := ⟨F, h, ho, fun g hg => .inl hg⟩

/-- One cell of the disk's block is written. -/
theorem DkV.put (h : DkV p F w st s wv rs) (j : Nat) (u : Value)
    (hc : (dcells s wv st.on st.has st.left st.count).setIfInBounds j u = dcells s' wv' st'.on st'.has st'.left st'.count)
    (hf : ∀ f, f < 4 → Byt F w (s' f) (st'.sure f)) (hr : OwnG rawc 4 72 0 w wv' rs') (hir : ∀ b, wv'.ownBlock = some b → F b)
    (hw : ∀ r ∈ rs', Byt F w r.v r.bytes) (hwait : rs'.map Rv.r = st'.wait) (hok : Dm.Ok st') :
    DkV p F (w.setCell ⟨p, j, none⟩ u) st' s' wv' rs' ∧ Out F w (w.setCell ⟨p, j, none⟩ u) := by
  have hne : ∀ b, b ≠ p → (w.setCell ⟨p, j, none⟩ u).heap[b]? = w.heap[b]? := fun b hb => Below.heap_setCell _ _ _ _ hb
  have hsz : w.heap.size ≤ (w.setCell ⟨p, j, none⟩ u).heap.size := by simp [World.setCell]
  have hrp : ∀ b, wv'.ownBlock = some b → b ≠ p := by
    intro b hb e
    obtain ⟨cs, hc'⟩ := hr.type hb
    rw [e, h.blk] at hc'
    simp at hc'
  refine ⟨⟨?_, h.inp, fun f hf' => (hf f hf').agree fun b hb => hne b ((hf f hf').ne h.blk (by decide) b hb), hr.agree fun b hb => hne b (hrp b hb), hir, fun r hr' => (hw r hr').agree fun b hb => hne b ((hw r hr').ne h.blk (by decide) b hb), hwait, fun g hg => Nat.lt_of_lt_of_le (h.lt g hg) hsz, hok⟩, Out.of_grown (grown_setCell w ⟨p, j, none⟩ u) fun g hg => by simp at hg; subst hg; exact h.inp⟩
  rw [set_cells h.blk, hc]

theorem DkV.cell (h : DkV p F w st s wv rs) (j : Nat) {u : Value} (hj : (dcells s wv st.on st.has st.left st.count)[j]? = some u) : w.cell? ⟨p, j, none⟩ = some u := blk_cell h.blk j hj
theorem DkV.c0 (h : DkV p F w st s wv rs) : w.cell? ⟨p, 0, none⟩ = some (.bool true) := h.cell 0 rfl
theorem DkV.c5 (h : DkV p F w st s wv rs) : w.cell? ⟨p, 5, none⟩ = some wv := h.cell 5 rfl
theorem DkV.c6 (h : DkV p F w st s wv rs) : w.cell? ⟨p, 6, none⟩ = some (.bool st.on) := h.cell 6 rfl
theorem DkV.c7 (h : DkV p F w st s wv rs) : w.cell? ⟨p, 7, none⟩ = some (.bool st.has) := h.cell 7 rfl
theorem DkV.c8 (h : DkV p F w st s wv rs) : w.cell? ⟨p, 8, none⟩ = some (.int .i64 st.left) := h.cell 8 rfl
theorem DkV.c9 (h : DkV p F w st s wv rs) : w.cell? ⟨p, 9, none⟩ = some (.int .i64 st.count) := h.cell 9 rfl
theorem DkV.cf (h : DkV p F w st s wv rs) (f : Nat) (hf : f < 4) : w.cell? ⟨p, 1 + f, none⟩ = some (s f) := by
  rcases (show f = 0 ∨ f = 1 ∨ f = 2 ∨ f = 3 by omega) with rfl | rfl | rfl | rfl
  · exact h.cell 1 rfl
  · exact h.cell 2 rfl
  · exact h.cell 3 rfl
  · exact h.cell 4 rfl
theorem DkV.froz (h : DkV p F w st s wv rs) (j : Nat) : w.frozen? ⟨p, j, none⟩ = false := blk_froz h.blk j

end

/-- A new disk. -/
theorem newR_any (w : World) : Calls Tryz.prog 7 #[] w fun E w' => E = .returned (.pointer (some ⟨w.heap.size, 0, none⟩)) ∧ Dk w.heap.size (fun g => g = w.heap.size) w' Dm.new ∧ Below w.heap.size w w' := by
  obtain ⟨w1, hw1, sz1, bel1, hB⟩ := blk_step w #[.bool true, .slice none 0 0, .slice none 0 0, .slice none 0 0, .slice none 0 0, .slice none 0 0, .bool true, .bool false, .int .i64 0, .int .i64 0] 62
  have D : Hid (Dk w.heap.size (fun g => g = w.heap.size) w1 Dm.new) := ⟨fun _ => .slice none 0 0, .slice none 0 0, [], hB, rfl, fun f _ => Byt.nil _ _, OwnG.nil _ _ _ _ _, fun b hb => by simp [Value.ownBlock] at hb, fun r hr => by simp at hr, rfl, fun g hg => by omega, trivial⟩
  clear hB
  go_enter Tryz.func7, Tryz.ntmps7
  go_wp2
  go_ret
  exact ⟨rfl, D.out, bel1⟩

set_option maxHeartbeats 400000 in
theorem noneR_any (p : Nat) (F : Nat → Prop) (w : World) (st : Dm.Ds) (h : Dk p F w st) : Calls Tryz.prog 50 #[.pointer (some ⟨p, 0, none⟩)] w fun E w' => E = .returned (.bool false) ∧ w = w' := by
  obtain ⟨s, wv, rs, h⟩ := h
  have c0 := h.c0
  clear h
  go_enter Tryz.func50, Tryz.ntmps50
  go_wp2
  go_ret
  exact ⟨rfl, rfl⟩

/-- Why nothing is done. -/
def ask (st : Dm.Ds) : Int := if st.on then 0 else 6

theorem ask_on {st : Dm.Ds} (h : st.on = true) : ask st = 0 := by simp [ask, h]
theorem ask_off {st : Dm.Ds} (h : st.on = false) : ask st = 6 := by simp [ask, h]

set_option maxHeartbeats 400000 in
theorem askedR_any (p : Nat) (F : Nat → Prop) (w : World) (st : Dm.Ds) (h : Dk p F w st) : Calls Tryz.prog 38 #[.pointer (some ⟨p, 0, none⟩)] w fun E w' => E = .returned (.int .i64 (ask st)) ∧ w = w' := by
  have hn := noneR_any p F w st h
  obtain ⟨s, wv, rs, h⟩ := h
  have c6 := h.c6
  have HN := hide hn
  clear h hn
  cases hon : st.on
  · rw [hon] at c6
    rw [ask_off hon]
    clear hon
    go_enter Tryz.func38, Tryz.ntmps38
    go_wp2_with fail
    refine HN.out.mono ?_
    rintro E w1 ⟨rfl, rfl⟩
    go_wp2
    go_ret
    exact ⟨rfl, rfl⟩
  · rw [hon] at c6
    rw [ask_on hon]
    clear hon
    go_enter Tryz.func38, Tryz.ntmps38
    go_wp2_with fail
    refine HN.out.mono ?_
    rintro E w1 ⟨rfl, rfl⟩
    go_wp2
    go_ret
    exact ⟨rfl, rfl⟩

/-- The disk is nobody's where it was not made: a pointer to such a block, or none. -/
theorem ok_dark {st : Dm.Ds} (h : Dm.Ok st) : Dm.Ok (Dm.dark st) := h
theorem ok_burn {st : Dm.Ds} (h : Dm.Ok st) : Dm.Ok (Dm.burn st) := h

set_option maxHeartbeats 400000 in
theorem stepR_any (p : Nat) (F : Nat → Prop) (w : World) (st : Dm.Ds) (h : Dk p F w st) (hl : st.left ≤ 9223372036854775807) (hc : st.count < 9223372036854775807) :
    Calls Tryz.prog 39 #[.pointer (some ⟨p, 0, none⟩)] w fun E w' => E = .returned (.int .i64 (if Dm.off st then 6 else 0)) ∧ DStep p F w w' (if Dm.off st then Dm.dark st else Dm.burn st) := by
  obtain ⟨s, wv, rs, h⟩ := h
  have c6 := h.c6
  have c7 := h.c7
  have c8 := h.c8
  have c9 := h.c9
  have f6 := h.froz 6
  have f8 := h.froz 8
  have f9 := h.froz 9
  cases hh : st.has
  · have ho : Dm.off st = false := by simp [Dm.off, hh]
    rw [ho, if_neg (by simp), if_neg (by simp)]
    have hb : Dm.burn st = { st with count := st.count + 1 } := by simp [Dm.burn, hh]
    have R := h.put (st' := Dm.burn st) (s' := s) (wv' := wv) (rs' := rs) 9 (.int .i64 ((st.count : Int) + 1)) (by rw [hb]; simp [dcells]) (by rw [hb]; exact h.file) h.row h.inr h.raw (by rw [hb]; exact h.wait) (ok_burn h.ok)
    have HR : Hid (DStep p F w (w.setCell ⟨p, 9, none⟩ (.int .i64 ((st.count : Int) + 1))) (Dm.burn st)) := DStep.mk' ⟨_, _, _, R.1⟩ R.2
    rw [hh] at c7
    clear h R ho hb
    go_enter Tryz.func39, Tryz.ntmps39
    go_wp2
    go_ret
    exact ⟨rfl, HR.out⟩
  · by_cases hz : st.left = 0
    · have ho : Dm.off st = true := by simp [Dm.off, hh, hz]
      rw [ho, if_pos rfl, if_pos rfl]
      have R := h.put (st' := Dm.dark st) (s' := s) (wv' := wv) (rs' := rs) 6 (.bool false) rfl h.file h.row h.inr h.raw h.wait (ok_dark h.ok)
      have HR : Hid (DStep p F w (w.setCell ⟨p, 6, none⟩ (.bool false)) (Dm.dark st)) := DStep.mk' ⟨_, _, _, R.1⟩ R.2
      rw [hh] at c7
      rw [hz] at c8
      clear h R ho
      go_enter Tryz.func39, Tryz.ntmps39
      go_wp2
      go_ret
      exact ⟨rfl, HR.out⟩
    · have ho : Dm.off st = false := by simp [Dm.off, hh, hz]
      rw [ho, if_neg (by simp), if_neg (by simp)]
      have hb : Dm.burn st = { st with left := st.left - 1, count := st.count + 1 } := by simp [Dm.burn, hh]
      have hsub : ((st.left - 1 : Nat) : Int) = (st.left : Int) - 1 := by omega
      have R1 := h.put (st' := { st with left := st.left - 1 }) (s' := s) (wv' := wv) (rs' := rs) 8 (.int .i64 ((st.left : Int) - 1)) (by simp [dcells, hsub]) h.file h.row h.inr h.raw h.wait h.ok
      have R2 := R1.1.put (st' := Dm.burn st) (s' := s) (wv' := wv) (rs' := rs) 9 (.int .i64 ((st.count : Int) + 1)) (by rw [hb]; simp [dcells]) (by rw [hb]; exact R1.1.file) R1.1.row R1.1.inr R1.1.raw (by rw [hb]; exact h.wait) (ok_burn h.ok)
      have HR : Hid (DStep p F w ((w.setCell ⟨p, 8, none⟩ (.int .i64 ((st.left : Int) - 1))).setCell ⟨p, 9, none⟩ (.int .i64 ((st.count : Int) + 1))) (Dm.burn st)) := DStep.mk' ⟨_, _, _, R2.1⟩ (R1.2.trans R2.2 fun g hg => .inl hg)
      have d9 := R1.1.c9
      have g9 := R1.1.froz 9
      have hz' : ((st.left : Int) == 0) = false := by simp; omega
      rw [hh] at c7
      clear h R1 R2 ho hb hsub
      go_enter Tryz.func39, Tryz.ntmps39
      go_wp2
      go_ret
      exact ⟨rfl, HR.out⟩

set_option maxHeartbeats 400000 in
theorem pullR_any (p : Nat) (F : Nat → Prop) (w : World) (st : Dm.Ds) (h : Dk p F w st) :
    Calls Tryz.prog 23 #[.pointer (some ⟨p, 0, none⟩)] w fun E w' => E = .returned (.int .i64 (Dm.pull st).1) ∧ DStep p F w w' (Dm.pull st).2 := by
  have ha := askedR_any p F w st h
  have HK := hide h
  obtain ⟨s, wv, rs, h⟩ := h
  have c6 := h.c6
  have f6 := h.froz 6
  have R := h.put (st' := Dm.dark st) (s' := s) (wv' := wv) (rs' := rs) 6 (.bool false) rfl h.file h.row h.inr h.raw h.wait (ok_dark h.ok)
  have HR : Hid (DStep p F w (w.setCell ⟨p, 6, none⟩ (.bool false)) (Dm.dark st)) := DStep.mk' ⟨_, _, _, R.1⟩ R.2
  have HA := hide ha
  clear h R ha
  unfold Dm.pull
  cases hon : st.on
  · rw [if_pos rfl]
    have hk := ask_off hon
    clear hon
    go_enter Tryz.func23, Tryz.ntmps23
    go_wp2_with fail
    refine HA.out.mono ?_
    rintro E w1 ⟨rfl, rfl⟩
    rw [hk]
    go_wp2
    go_ret
    exact ⟨rfl, DStep.same HK.out (Below.refl _ _)⟩
  · rw [if_neg (by simp)]
    have hk := ask_on hon
    clear hon
    go_enter Tryz.func23, Tryz.ntmps23
    go_wp2_with fail
    refine HA.out.mono ?_
    rintro E w1 ⟨rfl, rfl⟩
    rw [hk]
    go_wp2
    go_ret
    exact ⟨rfl, HR.out⟩

end Go.Proofs.YtkpnkknolobioaaGreat
